/-
  HandSense: the walk.
-/
import Derived.Test.YtemaaefcnadmfaaFirst18
import Derived.Test.YtemaaefcnadmfaaBools16
import Derived.Test.YtemaaefcnadmfaaPhase
import Derived.Deep.CutBlock
namespace Go.Proofs.Ytemaaefcnadmfaa
open Go.RowKit

/-- The law's hand behind j rounds: nobody is there, two calls a round. -/
structure Sn (w u : World) (b j : Nat) (S : Hs) : Prop where
  mh : Mh w u b S
  one : S.n = 1
  non : S.O = fun _ => -1
  cnt : S.ct = 2 * (j : Int)

theorem Sn.next {w u u' : World} {b j : Nat} {S : Hs} (h : Sn w u b j S) (s : Int) (f : Bool) (m : Mh w u' b (S.post s f).tick) : Sn w u' b (j + 1) (S.post s f).tick :=
  ⟨m, (Hs.post_n s f).trans h.one, by
    have : (S.post s f).tick.O = S.O := by cases hk : kn s <;> simp [Hs.post, hk, Hs.tick]
    rw [this, h.non], by
    have e : (S.post s f).tick.ct = (S.post s f).ct + 1 := rfl
    rw [e, Hs.post_ct, h.cnt]
    omega⟩

/-- In the midst of 'h.Post(l[i], flips[i]) != ok': operation 9 is the call. -/
def PostJ (w u : World) (b : Nat) (S S' : Hs) (d : Nat → Bool) : Prop := Mh w u b (if d 9 then S' else S)
theorem PostJ.plain {w u : World} {b : Nat} {S S' : Hs} {d : Nat → Bool} (h : PostJ w u b S S' d) (i : Nat) (h9 : i ≠ 9) : PostJ w u b S S' (done d i) := by
  have e : done d i 9 = d 9 := by simp [done, Ne.symm h9]
  unfold PostJ
  rw [e]
  exact h
theorem PostJ.call {w u' : World} {b : Nat} {S S' : Hs} {d : Nat → Bool} (h : Mh w u' b S') : PostJ w u' b S S' (done d 9) := by
  have e : done d 9 9 = true := by simp [done]
  unfold PostJ
  rw [e]
  exact h

set_option maxHeartbeats 2000000 in
set_option maxRecDepth 20000 in
theorem sense_out (x : Option Addr) (l c : Nat) (y : Option Addr) (k kc : Nat) (w : World) (ho : 200 < (l : Int) ∨ (¬ 200 < (l : Int) ∧ (k : Int) < (l : Int))) :
    Calls Try.prog 5 #[.slice x l c, .slice y k kc] w fun e w' => e = .returned (.bool true) ∧ Kept w w' := by
  have HN : Hid (∀ u : World, Kept w u → _) := fun u q => mh_new (w := w) 1 u q (by omega) (by omega)
  rcases ho with ho | ⟨ho, ho2⟩
  all_goals go_enter Try.func5, Try.ntmps5
  all_goals go_wp2_with fail
  all_goals refine (first_any _).mono ?_
  all_goals rintro e w1 ⟨rfl, k1⟩
  all_goals have K1 : Hid (Kept w w1) := k1
  all_goals clear k1
  all_goals go_wp2_with fail
  all_goals refine (HN.out _ K1.out).mono ?_
  all_goals rintro e w2 ⟨b, rfl, t2⟩
  all_goals have K2 : Hid (Kept w w2) := t2.kept
  all_goals clear t2 K1
  all_goals go_wp2_with fail
  all_goals refine (first_any _).mono ?_
  all_goals rintro e w3 ⟨rfl, k3⟩
  all_goals have K3 : Hid (Kept w w3) := K2.out.trans k3
  all_goals clear k3
  all_goals go_wp2
  all_goals go_ret
  all_goals exact ⟨rfl, K3.out⟩

set_option maxHeartbeats 8000000 in
set_option maxRecDepth 20000 in
theorem sense_in (x : Option Addr) (l c : Nat) (L : Nat → Int) (y : Option Addr) (k kc : Nat) (F : Nat → Bool) (w : World) (hX : Ints w x l L) (hY : Bools w y k F) (hl : (l : Int) ≤ 200) (hk : l ≤ k) :
    Calls Try.prog 5 #[.slice x l c, .slice y k kc] w fun e w' => e = .returned (.bool true) ∧ Kept w w' := by
  have HN : Hid (∀ u : World, Kept w u → _) := fun u q => mh_new (w := w) 1 u q (by omega) (by omega)
  have HX : Hid (Ints w x l L) := hX
  have HY : Hid (Bools w y k F) := hY
  clear hX hY
  have hk0 : decide (k < l) = false := decide_eq_false (by omega)
  have hl0 : decide (200 < (l : Int)) = false := decide_eq_false (by omega)
  go_enter Try.func5, Try.ntmps5
  go_wp2_with fail
  refine (first_any _).mono ?_
  rintro e w1 ⟨rfl, k1⟩
  have K1 : Hid (Kept w w1) := k1
  clear k1
  go_wp2_with fail
  refine (HN.out _ K1.out).mono ?_
  rintro e w2 ⟨b, rfl, t2⟩
  have H2 : Hid (Sn w w2 b 0 (Hs.first 1)) := ⟨t2, rfl, rfl, by simp [Hs.first]⟩
  clear t2 K1 HN
  go_wp2
  go_loopg [7, 8, 9] l (fun m s f i wr => ∃ (j : Nat) (S : Hs), s = .int .i64 S.st ∧ f = .bool S.se ∧ i = .int .i64 j ∧ j ≤ l ∧ m = l - j ∧ Hid (Sn w wr b j S))
  case atStart => exact ⟨0, Hs.first 1, rfl, rfl, rfl, by omega, by omega, H2.out⟩
  case round =>
    obtain ⟨j, S, rfl, rfl, rfl, hj, hm, HR⟩ := hrel
    have HM : Hid _ := hm
    clear hm H2
    by_cases hlt : j < l
    · have hjk : j < k := by omega
      obtain ⟨bx, ox, rfl, hbx', hcx⟩ := HX.out.at (by omega)
      obtain ⟨by1, oy, rfl, hby', hcy⟩ := HY.out.at (by omega)
      have hbx : Hid (bx < w.heap.size) := hbx'
      have hby : Hid (by1 < w.heap.size) := hby'
      have E0 : Hid (∀ u, Kept w u → u.cell? ⟨bx, ox + j, none⟩ = some (.int .i64 (L j))) := fun u q => (q.cell hbx.out).trans (hcx j hlt)
      have E1 : Hid (∀ u, Kept w u → u.cell? ⟨by1, oy + j, none⟩ = some (.bool (F j))) := fun u q => (q.cell hby.out).trans (hcy j (by omega))
      clear hcx hcy hbx' hby' HX HY
      generalize L j = n at *
      generalize F j = f at *
      obtain ⟨S1, e1⟩ : ∃ S1, S.post n f = S1 := ⟨_, rfl⟩
      have HS1 : Hid (S.post n f = S1) := e1
      clear e1
      cases hkn : kn n
      · have h1 := kn_no hkn
        by_cases h0 : 0 ≤ n
        · have h2 : decide (n ≤ 4) = false := decide_eq_false (fun q => h1 ⟨h0, q⟩)
          clear h1
          have cc := E0.out wr HR.out.mh.kept
          have HKN : Hid (kn n = false) := hkn
          clear hkn
          go_upto_region 11 with fail
          clear cc
          refine wp_region_phase [(.pointer (some ⟨b, 0, none⟩)), (.slice (some ⟨bx, ox, none⟩) l c), (.int .i64 j), (.pointer (some ⟨bx, ox + j, none⟩)), (.int .i64 n), (.slice (some ⟨by1, oy, none⟩) k kc), (.int .i64 j), (.pointer (some ⟨by1, oy + j, none⟩)), (.bool f), (.bool false), (.bool false), (.bool false)] [(66, 0), (67, 1), (68, 2), (69, 3), (70, 4), (71, 5), (72, 6), (73, 7), (74, 8), (75, 9), (76, 10), (77, 11)] [_, _, _, _, _, _, _, _, _, _, _, _, _, _, _, _, _, _, _, _, _, _, _, _, _, _, _, _, _, _, _, _, _, _, _, _, _, _, _, _, _, _, _, _, _, _, _, _, _, _, _, _, _, _, _, _, _, _, _, _, _, _, _, _, _, _, _, _, _, _, _, _, _, _, _, _, _, _, _, _, _, _, _, _, _, _, _, _, _, _, _, _, _, _, _, _, _, _, _, _, _, _, _, _, _, _, _, _, _, _, _, _, _, _, _, _, _, _, _, _, _, _, _, _, _, _, _, _, _, _, _, _, _, _, _, _, _, _, _, _, _, _, _, _, _, _, _, _, _, _, _, _, _, _, _, _] (fun d u => PostJ w u b S S1 d) (by kernel_rfl) (by kernel_rfl) (by kernel_rfl) (by kernel_rfl) rfl ?_ ?_ ?_
          · unfold PostJ; simpa using HR.out.mh.still (Kept.refl _).drew
          · intro i1 o ho a1 d u hh hj hi hd
            match i1, ho, hi, hd with
            | 0, ho, hi, hd =>
              simp only [List.getElem?_cons_zero, Option.some.injEq] at ho
              subst ho
              have g5 : a1.tmps[5]? = some (.pointer (some ⟨b, 0, none⟩)) := hh.old 5 (by kernel_rfl) rfl
              clear hh hd
              have HN : Hid (PostJ w u b S S1 (done d 0)) := hj.plain 0 (by decide)
              clear hj hi
              refine wpOp_step rfl (fun K hK => ?_)
              go_simp
              exact hK _ _ ⟨by simp [Act.put], HN.out⟩
            | 1, ho, hi, hd =>
              simp only [List.getElem?_cons_succ, List.getElem?_cons_zero, Option.some.injEq] at ho
              subst ho
              have g0 : a1.tmps[0]? = some (.slice (some ⟨bx, ox, none⟩) l c) := hh.old 0 (by kernel_rfl) rfl
              clear hh hd
              have HN : Hid (PostJ w u b S S1 (done d 1)) := hj.plain 1 (by decide)
              clear hj hi
              refine wpOp_step rfl (fun K hK => ?_)
              go_simp
              exact hK _ _ ⟨by simp [Act.put], HN.out⟩
            | 2, ho, hi, hd =>
              simp only [List.getElem?_cons_succ, List.getElem?_cons_zero, Option.some.injEq] at ho
              subst ho
              have g9 : a1.tmps[9]? = some (.int .i64 j) := hh.old 9 (by kernel_rfl) rfl
              clear hh hd
              have HN : Hid (PostJ w u b S S1 (done d 2)) := hj.plain 2 (by decide)
              clear hj hi
              refine wpOp_step rfl (fun K hK => ?_)
              go_simp
              exact hK _ _ ⟨by simp [Act.put], HN.out⟩
            | 3, ho, hi, hd =>
              simp only [List.getElem?_cons_succ, List.getElem?_cons_zero, Option.some.injEq] at ho
              subst ho
              have g67 : a1.tmps[67]? = some (.slice (some ⟨bx, ox, none⟩) l c) := hh.did 1 _ 67 rfl rfl (hd { on := 1, ground := .data } (by simp) rfl)
              have g68 : a1.tmps[68]? = some (.int .i64 j) := hh.did 2 _ 68 rfl rfl (hd { on := 2, ground := .data } (by simp) rfl)
              clear hh hd
              have HN : Hid (PostJ w u b S S1 (done d 3)) := hj.plain 3 (by decide)
              clear hj hi
              refine wpOp_step rfl (fun K hK => ?_)
              go_simp
              exact hK _ _ ⟨by simp [Act.put], HN.out⟩
            | 4, ho, hi, hd =>
              simp only [List.getElem?_cons_succ, List.getElem?_cons_zero, Option.some.injEq] at ho
              subst ho
              have g69 : a1.tmps[69]? = some (.pointer (some ⟨bx, ox + j, none⟩)) := hh.did 3 _ 69 rfl rfl (hd { on := 3, ground := .data } (by simp) rfl)
              have ku : Kept w u := by unfold PostJ at hj; split at hj <;> exact hj.kept
              have cc := E0.out u ku
              clear ku
              clear hh hd
              have HN : Hid (PostJ w u b S S1 (done d 4)) := hj.plain 4 (by decide)
              clear hj hi
              refine wpOp_step rfl (fun K hK => ?_)
              go_simp
              exact hK _ _ ⟨by simp [Act.put], HN.out⟩
            | 5, ho, hi, hd =>
              simp only [List.getElem?_cons_succ, List.getElem?_cons_zero, Option.some.injEq] at ho
              subst ho
              have g1 : a1.tmps[1]? = some (.slice (some ⟨by1, oy, none⟩) k kc) := hh.old 1 (by kernel_rfl) rfl
              clear hh hd
              have HN : Hid (PostJ w u b S S1 (done d 5)) := hj.plain 5 (by decide)
              clear hj hi
              refine wpOp_step rfl (fun K hK => ?_)
              go_simp
              exact hK _ _ ⟨by simp [Act.put], HN.out⟩
            | 6, ho, hi, hd =>
              simp only [List.getElem?_cons_succ, List.getElem?_cons_zero, Option.some.injEq] at ho
              subst ho
              have g9 : a1.tmps[9]? = some (.int .i64 j) := hh.old 9 (by kernel_rfl) rfl
              clear hh hd
              have HN : Hid (PostJ w u b S S1 (done d 6)) := hj.plain 6 (by decide)
              clear hj hi
              refine wpOp_step rfl (fun K hK => ?_)
              go_simp
              exact hK _ _ ⟨by simp [Act.put], HN.out⟩
            | 7, ho, hi, hd =>
              simp only [List.getElem?_cons_succ, List.getElem?_cons_zero, Option.some.injEq] at ho
              subst ho
              have g71 : a1.tmps[71]? = some (.slice (some ⟨by1, oy, none⟩) k kc) := hh.did 5 _ 71 rfl rfl (hd { on := 5, ground := .data } (by simp) rfl)
              have g72 : a1.tmps[72]? = some (.int .i64 j) := hh.did 6 _ 72 rfl rfl (hd { on := 6, ground := .data } (by simp) rfl)
              clear hh hd
              have HN : Hid (PostJ w u b S S1 (done d 7)) := hj.plain 7 (by decide)
              clear hj hi
              refine wpOp_step rfl (fun K hK => ?_)
              go_simp
              exact hK _ _ ⟨by simp [Act.put], HN.out⟩
            | 8, ho, hi, hd =>
              simp only [List.getElem?_cons_succ, List.getElem?_cons_zero, Option.some.injEq] at ho
              subst ho
              have g73 : a1.tmps[73]? = some (.pointer (some ⟨by1, oy + j, none⟩)) := hh.did 7 _ 73 rfl rfl (hd { on := 7, ground := .data } (by simp) rfl)
              have ku : Kept w u := by unfold PostJ at hj; split at hj <;> exact hj.kept
              have cc := E1.out u ku
              clear ku
              clear hh hd
              have HN : Hid (PostJ w u b S S1 (done d 8)) := hj.plain 8 (by decide)
              clear hj hi
              refine wpOp_step rfl (fun K hK => ?_)
              go_simp
              exact hK _ _ ⟨by simp [Act.put], HN.out⟩
            | 9, ho, hi, hd =>
              simp only [List.getElem?_cons_succ, List.getElem?_cons_zero, Option.some.injEq] at ho
              subst ho
              have g66 : a1.tmps[66]? = some (.pointer (some ⟨b, 0, none⟩)) := hh.did 0 _ 66 rfl rfl (hd { on := 0, ground := .data } (by simp) rfl)
              have g70 : a1.tmps[70]? = some (.int .i64 n) := hh.did 4 _ 70 rfl rfl (hd { on := 4, ground := .data } (by simp) rfl)
              have g74 : a1.tmps[74]? = some (.bool f) := hh.did 8 _ 74 rfl rfl (hd { on := 8, ground := .data } (by simp) rfl)
              clear hh hd
              unfold PostJ at hj
              simp only [hi, Bool.false_eq_true, if_false] at hj
              have CA : Hid (Calls _ _ _ _ _) := mh_post n f hj (by rw [HR.out.cnt]; omega)
              rw [HKN.out, HS1.out] at CA
              clear hj hi
              refine wpOp_step rfl (fun K hK => ?_)
              go_simp
              refine CA.out.mono ?_
              rintro e u' ⟨rfl, t⟩
              exact hK _ _ ⟨by simp [Act.put], PostJ.call t⟩
            | 10, ho, hi, hd =>
              simp only [List.getElem?_cons_succ, List.getElem?_cons_zero, Option.some.injEq] at ho
              subst ho
              have g10 : a1.tmps[10]? = some (.bool false) := hh.old 10 (by kernel_rfl) rfl
              clear hh hd
              have HN : Hid (PostJ w u b S S1 (done d 10)) := hj.plain 10 (by decide)
              clear hj hi
              refine wpOp_step rfl (fun K hK => ?_)
              go_simp
              exact hK _ _ ⟨by simp [Act.put], HN.out⟩
            | 11, ho, hi, hd =>
              simp only [List.getElem?_cons_succ, List.getElem?_cons_zero, Option.some.injEq] at ho
              subst ho
              have g75 : a1.tmps[75]? = some (.bool false) := hh.did 9 _ 75 rfl rfl (hd { on := 9, ground := .data } (by simp) rfl)
              have g76 : a1.tmps[76]? = some (.bool false) := hh.did 10 _ 76 rfl rfl (hd { on := 10, ground := .data } (by simp) rfl)
              clear hh hd
              have HN : Hid (PostJ w u b S S1 (done d 11)) := hj.plain 11 (by decide)
              clear hj hi
              refine wpOp_step rfl (fun K hK => ?_)
              go_simp
              exact hK _ _ ⟨by simp [Act.put], HN.out⟩
            | n + 12, ho, hi, hd => simp at ho
          · intro u d hall hj
            have h9 := hall 9 (by decide)
            unfold PostJ at hj
            rw [h9] at hj
            simp only [if_true] at hj
            have HE : Hid (Mh w u b S1) := hj
            have cc := E0.out u hj.kept
            have cd := E1.out u hj.kept
            clear hall hj h9
            simp only [List.getD_cons_succ, List.getD_cons_zero]
            have e1 : S1.st = S.st := by rw [← HS1.out]; simp [Hs.post, HKN.out, Hs.tick]
            have e2 : S1.se = S.se := by rw [← HS1.out]; simp [Hs.post, HKN.out, Hs.tick]
            have ec : S1.ct < 1000000000 := by rw [← HS1.out, Hs.post_ct, HR.out.cnt]; omega
            have HC : Hid (S1.ct < 1000000000) := ec
            have HE1 : Hid (_ = _) := e1
            have HE2 : Hid (_ = _) := e2
            clear e1 e2 ec
            go_wp2_with fail
            have K := mh_look HE.out HC.out
            rw [HE1.out, HE2.out] at K
            refine K.mono ?_
            rintro e w4 ⟨rfl, t4⟩
            have H4 : Hid (Sn w w4 b (j + 1) S1.tick) := by
              rw [← HS1.out] at t4 ⊢
              exact HR.out.next n f t4
            clear K t4 HE cc cd
            have z1 : (S.st != S.st) = false := by simp
            have z2 : (S.se != S.se) = false := by simp
            go_wp2
            go_roundg (l - (j + 1))
            all_goals (have := HM.out; try omega)
            exact ⟨j + 1, S1.tick, congrArg (Value.int .i64) HE1.out.symm, congrArg Value.bool HE2.out.symm, by go_num, by omega, by omega, H4.out⟩
        · have h2 : decide (0 ≤ n) = false := decide_eq_false h0
          clear h1 h0
          have cc := E0.out wr HR.out.mh.kept
          have HKN : Hid (kn n = false) := hkn
          clear hkn
          go_upto_region 11 with fail
          clear cc
          refine wp_region_phase [(.pointer (some ⟨b, 0, none⟩)), (.slice (some ⟨bx, ox, none⟩) l c), (.int .i64 j), (.pointer (some ⟨bx, ox + j, none⟩)), (.int .i64 n), (.slice (some ⟨by1, oy, none⟩) k kc), (.int .i64 j), (.pointer (some ⟨by1, oy + j, none⟩)), (.bool f), (.bool false), (.bool false), (.bool false)] [(66, 0), (67, 1), (68, 2), (69, 3), (70, 4), (71, 5), (72, 6), (73, 7), (74, 8), (75, 9), (76, 10), (77, 11)] [_, _, _, _, _, _, _, _, _, _, _, _, _, _, _, _, _, _, _, _, _, _, _, _, _, _, _, _, _, _, _, _, _, _, _, _, _, _, _, _, _, _, _, _, _, _, _, _, _, _, _, _, _, _, _, _, _, _, _, _, _, _, _, _, _, _, _, _, _, _, _, _, _, _, _, _, _, _, _, _, _, _, _, _, _, _, _, _, _, _, _, _, _, _, _, _, _, _, _, _, _, _, _, _, _, _, _, _, _, _, _, _, _, _, _, _, _, _, _, _, _, _, _, _, _, _, _, _, _, _, _, _, _, _, _, _, _, _, _, _, _, _, _, _, _, _, _, _, _, _, _, _, _, _, _, _] (fun d u => PostJ w u b S S1 d) (by kernel_rfl) (by kernel_rfl) (by kernel_rfl) (by kernel_rfl) rfl ?_ ?_ ?_
          · unfold PostJ; simpa using HR.out.mh.still (Kept.refl _).drew
          · intro i1 o ho a1 d u hh hj hi hd
            match i1, ho, hi, hd with
            | 0, ho, hi, hd =>
              simp only [List.getElem?_cons_zero, Option.some.injEq] at ho
              subst ho
              have g5 : a1.tmps[5]? = some (.pointer (some ⟨b, 0, none⟩)) := hh.old 5 (by kernel_rfl) rfl
              clear hh hd
              have HN : Hid (PostJ w u b S S1 (done d 0)) := hj.plain 0 (by decide)
              clear hj hi
              refine wpOp_step rfl (fun K hK => ?_)
              go_simp
              exact hK _ _ ⟨by simp [Act.put], HN.out⟩
            | 1, ho, hi, hd =>
              simp only [List.getElem?_cons_succ, List.getElem?_cons_zero, Option.some.injEq] at ho
              subst ho
              have g0 : a1.tmps[0]? = some (.slice (some ⟨bx, ox, none⟩) l c) := hh.old 0 (by kernel_rfl) rfl
              clear hh hd
              have HN : Hid (PostJ w u b S S1 (done d 1)) := hj.plain 1 (by decide)
              clear hj hi
              refine wpOp_step rfl (fun K hK => ?_)
              go_simp
              exact hK _ _ ⟨by simp [Act.put], HN.out⟩
            | 2, ho, hi, hd =>
              simp only [List.getElem?_cons_succ, List.getElem?_cons_zero, Option.some.injEq] at ho
              subst ho
              have g9 : a1.tmps[9]? = some (.int .i64 j) := hh.old 9 (by kernel_rfl) rfl
              clear hh hd
              have HN : Hid (PostJ w u b S S1 (done d 2)) := hj.plain 2 (by decide)
              clear hj hi
              refine wpOp_step rfl (fun K hK => ?_)
              go_simp
              exact hK _ _ ⟨by simp [Act.put], HN.out⟩
            | 3, ho, hi, hd =>
              simp only [List.getElem?_cons_succ, List.getElem?_cons_zero, Option.some.injEq] at ho
              subst ho
              have g67 : a1.tmps[67]? = some (.slice (some ⟨bx, ox, none⟩) l c) := hh.did 1 _ 67 rfl rfl (hd { on := 1, ground := .data } (by simp) rfl)
              have g68 : a1.tmps[68]? = some (.int .i64 j) := hh.did 2 _ 68 rfl rfl (hd { on := 2, ground := .data } (by simp) rfl)
              clear hh hd
              have HN : Hid (PostJ w u b S S1 (done d 3)) := hj.plain 3 (by decide)
              clear hj hi
              refine wpOp_step rfl (fun K hK => ?_)
              go_simp
              exact hK _ _ ⟨by simp [Act.put], HN.out⟩
            | 4, ho, hi, hd =>
              simp only [List.getElem?_cons_succ, List.getElem?_cons_zero, Option.some.injEq] at ho
              subst ho
              have g69 : a1.tmps[69]? = some (.pointer (some ⟨bx, ox + j, none⟩)) := hh.did 3 _ 69 rfl rfl (hd { on := 3, ground := .data } (by simp) rfl)
              have ku : Kept w u := by unfold PostJ at hj; split at hj <;> exact hj.kept
              have cc := E0.out u ku
              clear ku
              clear hh hd
              have HN : Hid (PostJ w u b S S1 (done d 4)) := hj.plain 4 (by decide)
              clear hj hi
              refine wpOp_step rfl (fun K hK => ?_)
              go_simp
              exact hK _ _ ⟨by simp [Act.put], HN.out⟩
            | 5, ho, hi, hd =>
              simp only [List.getElem?_cons_succ, List.getElem?_cons_zero, Option.some.injEq] at ho
              subst ho
              have g1 : a1.tmps[1]? = some (.slice (some ⟨by1, oy, none⟩) k kc) := hh.old 1 (by kernel_rfl) rfl
              clear hh hd
              have HN : Hid (PostJ w u b S S1 (done d 5)) := hj.plain 5 (by decide)
              clear hj hi
              refine wpOp_step rfl (fun K hK => ?_)
              go_simp
              exact hK _ _ ⟨by simp [Act.put], HN.out⟩
            | 6, ho, hi, hd =>
              simp only [List.getElem?_cons_succ, List.getElem?_cons_zero, Option.some.injEq] at ho
              subst ho
              have g9 : a1.tmps[9]? = some (.int .i64 j) := hh.old 9 (by kernel_rfl) rfl
              clear hh hd
              have HN : Hid (PostJ w u b S S1 (done d 6)) := hj.plain 6 (by decide)
              clear hj hi
              refine wpOp_step rfl (fun K hK => ?_)
              go_simp
              exact hK _ _ ⟨by simp [Act.put], HN.out⟩
            | 7, ho, hi, hd =>
              simp only [List.getElem?_cons_succ, List.getElem?_cons_zero, Option.some.injEq] at ho
              subst ho
              have g71 : a1.tmps[71]? = some (.slice (some ⟨by1, oy, none⟩) k kc) := hh.did 5 _ 71 rfl rfl (hd { on := 5, ground := .data } (by simp) rfl)
              have g72 : a1.tmps[72]? = some (.int .i64 j) := hh.did 6 _ 72 rfl rfl (hd { on := 6, ground := .data } (by simp) rfl)
              clear hh hd
              have HN : Hid (PostJ w u b S S1 (done d 7)) := hj.plain 7 (by decide)
              clear hj hi
              refine wpOp_step rfl (fun K hK => ?_)
              go_simp
              exact hK _ _ ⟨by simp [Act.put], HN.out⟩
            | 8, ho, hi, hd =>
              simp only [List.getElem?_cons_succ, List.getElem?_cons_zero, Option.some.injEq] at ho
              subst ho
              have g73 : a1.tmps[73]? = some (.pointer (some ⟨by1, oy + j, none⟩)) := hh.did 7 _ 73 rfl rfl (hd { on := 7, ground := .data } (by simp) rfl)
              have ku : Kept w u := by unfold PostJ at hj; split at hj <;> exact hj.kept
              have cc := E1.out u ku
              clear ku
              clear hh hd
              have HN : Hid (PostJ w u b S S1 (done d 8)) := hj.plain 8 (by decide)
              clear hj hi
              refine wpOp_step rfl (fun K hK => ?_)
              go_simp
              exact hK _ _ ⟨by simp [Act.put], HN.out⟩
            | 9, ho, hi, hd =>
              simp only [List.getElem?_cons_succ, List.getElem?_cons_zero, Option.some.injEq] at ho
              subst ho
              have g66 : a1.tmps[66]? = some (.pointer (some ⟨b, 0, none⟩)) := hh.did 0 _ 66 rfl rfl (hd { on := 0, ground := .data } (by simp) rfl)
              have g70 : a1.tmps[70]? = some (.int .i64 n) := hh.did 4 _ 70 rfl rfl (hd { on := 4, ground := .data } (by simp) rfl)
              have g74 : a1.tmps[74]? = some (.bool f) := hh.did 8 _ 74 rfl rfl (hd { on := 8, ground := .data } (by simp) rfl)
              clear hh hd
              unfold PostJ at hj
              simp only [hi, Bool.false_eq_true, if_false] at hj
              have CA : Hid (Calls _ _ _ _ _) := mh_post n f hj (by rw [HR.out.cnt]; omega)
              rw [HKN.out, HS1.out] at CA
              clear hj hi
              refine wpOp_step rfl (fun K hK => ?_)
              go_simp
              refine CA.out.mono ?_
              rintro e u' ⟨rfl, t⟩
              exact hK _ _ ⟨by simp [Act.put], PostJ.call t⟩
            | 10, ho, hi, hd =>
              simp only [List.getElem?_cons_succ, List.getElem?_cons_zero, Option.some.injEq] at ho
              subst ho
              have g10 : a1.tmps[10]? = some (.bool false) := hh.old 10 (by kernel_rfl) rfl
              clear hh hd
              have HN : Hid (PostJ w u b S S1 (done d 10)) := hj.plain 10 (by decide)
              clear hj hi
              refine wpOp_step rfl (fun K hK => ?_)
              go_simp
              exact hK _ _ ⟨by simp [Act.put], HN.out⟩
            | 11, ho, hi, hd =>
              simp only [List.getElem?_cons_succ, List.getElem?_cons_zero, Option.some.injEq] at ho
              subst ho
              have g75 : a1.tmps[75]? = some (.bool false) := hh.did 9 _ 75 rfl rfl (hd { on := 9, ground := .data } (by simp) rfl)
              have g76 : a1.tmps[76]? = some (.bool false) := hh.did 10 _ 76 rfl rfl (hd { on := 10, ground := .data } (by simp) rfl)
              clear hh hd
              have HN : Hid (PostJ w u b S S1 (done d 11)) := hj.plain 11 (by decide)
              clear hj hi
              refine wpOp_step rfl (fun K hK => ?_)
              go_simp
              exact hK _ _ ⟨by simp [Act.put], HN.out⟩
            | n + 12, ho, hi, hd => simp at ho
          · intro u d hall hj
            have h9 := hall 9 (by decide)
            unfold PostJ at hj
            rw [h9] at hj
            simp only [if_true] at hj
            have HE : Hid (Mh w u b S1) := hj
            have cc := E0.out u hj.kept
            have cd := E1.out u hj.kept
            clear hall hj h9
            simp only [List.getD_cons_succ, List.getD_cons_zero]
            have e1 : S1.st = S.st := by rw [← HS1.out]; simp [Hs.post, HKN.out, Hs.tick]
            have e2 : S1.se = S.se := by rw [← HS1.out]; simp [Hs.post, HKN.out, Hs.tick]
            have ec : S1.ct < 1000000000 := by rw [← HS1.out, Hs.post_ct, HR.out.cnt]; omega
            have HC : Hid (S1.ct < 1000000000) := ec
            have HE1 : Hid (_ = _) := e1
            have HE2 : Hid (_ = _) := e2
            clear e1 e2 ec
            go_wp2_with fail
            have K := mh_look HE.out HC.out
            rw [HE1.out, HE2.out] at K
            refine K.mono ?_
            rintro e w4 ⟨rfl, t4⟩
            have H4 : Hid (Sn w w4 b (j + 1) S1.tick) := by
              rw [← HS1.out] at t4 ⊢
              exact HR.out.next n f t4
            clear K t4 HE cc cd
            have z1 : (S.st != S.st) = false := by simp
            have z2 : (S.se != S.se) = false := by simp
            go_wp2
            go_roundg (l - (j + 1))
            all_goals (have := HM.out; try omega)
            exact ⟨j + 1, S1.tick, congrArg (Value.int .i64) HE1.out.symm, congrArg Value.bool HE2.out.symm, by go_num, by omega, by omega, H4.out⟩
      · obtain ⟨h0, h1⟩ := kn_yes hkn
        have cc := E0.out wr HR.out.mh.kept
        have HKN : Hid (kn n = true) := hkn
        clear hkn
        go_upto_region 11 with fail
        clear cc
        refine wp_region_phase [(.pointer (some ⟨b, 0, none⟩)), (.slice (some ⟨bx, ox, none⟩) l c), (.int .i64 j), (.pointer (some ⟨bx, ox + j, none⟩)), (.int .i64 n), (.slice (some ⟨by1, oy, none⟩) k kc), (.int .i64 j), (.pointer (some ⟨by1, oy + j, none⟩)), (.bool f), (.bool true), (.bool true), (.bool false)] [(66, 0), (67, 1), (68, 2), (69, 3), (70, 4), (71, 5), (72, 6), (73, 7), (74, 8), (75, 9), (76, 10), (77, 11)] [_, _, _, _, _, _, _, _, _, _, _, _, _, _, _, _, _, _, _, _, _, _, _, _, _, _, _, _, _, _, _, _, _, _, _, _, _, _, _, _, _, _, _, _, _, _, _, _, _, _, _, _, _, _, _, _, _, _, _, _, _, _, _, _, _, _, _, _, _, _, _, _, _, _, _, _, _, _, _, _, _, _, _, _, _, _, _, _, _, _, _, _, _, _, _, _, _, _, _, _, _, _, _, _, _, _, _, _, _, _, _, _, _, _, _, _, _, _, _, _, _, _, _, _, _, _, _, _, _, _, _, _, _, _, _, _, _, _, _, _, _, _, _, _, _, _, _, _, _, _, _, _, _, _, _, _] (fun d u => PostJ w u b S S1 d) (by kernel_rfl) (by kernel_rfl) (by kernel_rfl) (by kernel_rfl) rfl ?_ ?_ ?_
        · unfold PostJ; simpa using HR.out.mh.still (Kept.refl _).drew
        · intro i1 o ho a1 d u hh hj hi hd
          match i1, ho, hi, hd with
          | 0, ho, hi, hd =>
            simp only [List.getElem?_cons_zero, Option.some.injEq] at ho
            subst ho
            have g5 : a1.tmps[5]? = some (.pointer (some ⟨b, 0, none⟩)) := hh.old 5 (by kernel_rfl) rfl
            clear hh hd
            have HN : Hid (PostJ w u b S S1 (done d 0)) := hj.plain 0 (by decide)
            clear hj hi
            refine wpOp_step rfl (fun K hK => ?_)
            go_simp
            exact hK _ _ ⟨by simp [Act.put], HN.out⟩
          | 1, ho, hi, hd =>
            simp only [List.getElem?_cons_succ, List.getElem?_cons_zero, Option.some.injEq] at ho
            subst ho
            have g0 : a1.tmps[0]? = some (.slice (some ⟨bx, ox, none⟩) l c) := hh.old 0 (by kernel_rfl) rfl
            clear hh hd
            have HN : Hid (PostJ w u b S S1 (done d 1)) := hj.plain 1 (by decide)
            clear hj hi
            refine wpOp_step rfl (fun K hK => ?_)
            go_simp
            exact hK _ _ ⟨by simp [Act.put], HN.out⟩
          | 2, ho, hi, hd =>
            simp only [List.getElem?_cons_succ, List.getElem?_cons_zero, Option.some.injEq] at ho
            subst ho
            have g9 : a1.tmps[9]? = some (.int .i64 j) := hh.old 9 (by kernel_rfl) rfl
            clear hh hd
            have HN : Hid (PostJ w u b S S1 (done d 2)) := hj.plain 2 (by decide)
            clear hj hi
            refine wpOp_step rfl (fun K hK => ?_)
            go_simp
            exact hK _ _ ⟨by simp [Act.put], HN.out⟩
          | 3, ho, hi, hd =>
            simp only [List.getElem?_cons_succ, List.getElem?_cons_zero, Option.some.injEq] at ho
            subst ho
            have g67 : a1.tmps[67]? = some (.slice (some ⟨bx, ox, none⟩) l c) := hh.did 1 _ 67 rfl rfl (hd { on := 1, ground := .data } (by simp) rfl)
            have g68 : a1.tmps[68]? = some (.int .i64 j) := hh.did 2 _ 68 rfl rfl (hd { on := 2, ground := .data } (by simp) rfl)
            clear hh hd
            have HN : Hid (PostJ w u b S S1 (done d 3)) := hj.plain 3 (by decide)
            clear hj hi
            refine wpOp_step rfl (fun K hK => ?_)
            go_simp
            exact hK _ _ ⟨by simp [Act.put], HN.out⟩
          | 4, ho, hi, hd =>
            simp only [List.getElem?_cons_succ, List.getElem?_cons_zero, Option.some.injEq] at ho
            subst ho
            have g69 : a1.tmps[69]? = some (.pointer (some ⟨bx, ox + j, none⟩)) := hh.did 3 _ 69 rfl rfl (hd { on := 3, ground := .data } (by simp) rfl)
            have ku : Kept w u := by unfold PostJ at hj; split at hj <;> exact hj.kept
            have cc := E0.out u ku
            clear ku
            clear hh hd
            have HN : Hid (PostJ w u b S S1 (done d 4)) := hj.plain 4 (by decide)
            clear hj hi
            refine wpOp_step rfl (fun K hK => ?_)
            go_simp
            exact hK _ _ ⟨by simp [Act.put], HN.out⟩
          | 5, ho, hi, hd =>
            simp only [List.getElem?_cons_succ, List.getElem?_cons_zero, Option.some.injEq] at ho
            subst ho
            have g1 : a1.tmps[1]? = some (.slice (some ⟨by1, oy, none⟩) k kc) := hh.old 1 (by kernel_rfl) rfl
            clear hh hd
            have HN : Hid (PostJ w u b S S1 (done d 5)) := hj.plain 5 (by decide)
            clear hj hi
            refine wpOp_step rfl (fun K hK => ?_)
            go_simp
            exact hK _ _ ⟨by simp [Act.put], HN.out⟩
          | 6, ho, hi, hd =>
            simp only [List.getElem?_cons_succ, List.getElem?_cons_zero, Option.some.injEq] at ho
            subst ho
            have g9 : a1.tmps[9]? = some (.int .i64 j) := hh.old 9 (by kernel_rfl) rfl
            clear hh hd
            have HN : Hid (PostJ w u b S S1 (done d 6)) := hj.plain 6 (by decide)
            clear hj hi
            refine wpOp_step rfl (fun K hK => ?_)
            go_simp
            exact hK _ _ ⟨by simp [Act.put], HN.out⟩
          | 7, ho, hi, hd =>
            simp only [List.getElem?_cons_succ, List.getElem?_cons_zero, Option.some.injEq] at ho
            subst ho
            have g71 : a1.tmps[71]? = some (.slice (some ⟨by1, oy, none⟩) k kc) := hh.did 5 _ 71 rfl rfl (hd { on := 5, ground := .data } (by simp) rfl)
            have g72 : a1.tmps[72]? = some (.int .i64 j) := hh.did 6 _ 72 rfl rfl (hd { on := 6, ground := .data } (by simp) rfl)
            clear hh hd
            have HN : Hid (PostJ w u b S S1 (done d 7)) := hj.plain 7 (by decide)
            clear hj hi
            refine wpOp_step rfl (fun K hK => ?_)
            go_simp
            exact hK _ _ ⟨by simp [Act.put], HN.out⟩
          | 8, ho, hi, hd =>
            simp only [List.getElem?_cons_succ, List.getElem?_cons_zero, Option.some.injEq] at ho
            subst ho
            have g73 : a1.tmps[73]? = some (.pointer (some ⟨by1, oy + j, none⟩)) := hh.did 7 _ 73 rfl rfl (hd { on := 7, ground := .data } (by simp) rfl)
            have ku : Kept w u := by unfold PostJ at hj; split at hj <;> exact hj.kept
            have cc := E1.out u ku
            clear ku
            clear hh hd
            have HN : Hid (PostJ w u b S S1 (done d 8)) := hj.plain 8 (by decide)
            clear hj hi
            refine wpOp_step rfl (fun K hK => ?_)
            go_simp
            exact hK _ _ ⟨by simp [Act.put], HN.out⟩
          | 9, ho, hi, hd =>
            simp only [List.getElem?_cons_succ, List.getElem?_cons_zero, Option.some.injEq] at ho
            subst ho
            have g66 : a1.tmps[66]? = some (.pointer (some ⟨b, 0, none⟩)) := hh.did 0 _ 66 rfl rfl (hd { on := 0, ground := .data } (by simp) rfl)
            have g70 : a1.tmps[70]? = some (.int .i64 n) := hh.did 4 _ 70 rfl rfl (hd { on := 4, ground := .data } (by simp) rfl)
            have g74 : a1.tmps[74]? = some (.bool f) := hh.did 8 _ 74 rfl rfl (hd { on := 8, ground := .data } (by simp) rfl)
            clear hh hd
            unfold PostJ at hj
            simp only [hi, Bool.false_eq_true, if_false] at hj
            have CA : Hid (Calls _ _ _ _ _) := mh_post n f hj (by rw [HR.out.cnt]; omega)
            rw [HKN.out, HS1.out] at CA
            clear hj hi
            refine wpOp_step rfl (fun K hK => ?_)
            go_simp
            refine CA.out.mono ?_
            rintro e u' ⟨rfl, t⟩
            exact hK _ _ ⟨by simp [Act.put], PostJ.call t⟩
          | 10, ho, hi, hd =>
            simp only [List.getElem?_cons_succ, List.getElem?_cons_zero, Option.some.injEq] at ho
            subst ho
            have g10 : a1.tmps[10]? = some (.bool true) := hh.old 10 (by kernel_rfl) rfl
            clear hh hd
            have HN : Hid (PostJ w u b S S1 (done d 10)) := hj.plain 10 (by decide)
            clear hj hi
            refine wpOp_step rfl (fun K hK => ?_)
            go_simp
            exact hK _ _ ⟨by simp [Act.put], HN.out⟩
          | 11, ho, hi, hd =>
            simp only [List.getElem?_cons_succ, List.getElem?_cons_zero, Option.some.injEq] at ho
            subst ho
            have g75 : a1.tmps[75]? = some (.bool true) := hh.did 9 _ 75 rfl rfl (hd { on := 9, ground := .data } (by simp) rfl)
            have g76 : a1.tmps[76]? = some (.bool true) := hh.did 10 _ 76 rfl rfl (hd { on := 10, ground := .data } (by simp) rfl)
            clear hh hd
            have HN : Hid (PostJ w u b S S1 (done d 11)) := hj.plain 11 (by decide)
            clear hj hi
            refine wpOp_step rfl (fun K hK => ?_)
            go_simp
            exact hK _ _ ⟨by simp [Act.put], HN.out⟩
          | n + 12, ho, hi, hd => simp at ho
        · intro u d hall hj
          have h9 := hall 9 (by decide)
          unfold PostJ at hj
          rw [h9] at hj
          simp only [if_true] at hj
          have HE : Hid (Mh w u b S1) := hj
          have cc := E0.out u hj.kept
          have cd := E1.out u hj.kept
          clear hall hj h9
          simp only [List.getD_cons_succ, List.getD_cons_zero]
          have e1 : S1.st = n := by rw [← HS1.out]; simp [Hs.post, HKN.out]
          have e2 : S1.se = (!(S.se == f)) := by rw [← HS1.out]; simp only [Hs.post, HKN.out, if_true]; rfl
          have ec : S1.ct < 1000000000 := by rw [← HS1.out, Hs.post_ct, HR.out.cnt]; omega
          have HC : Hid (S1.ct < 1000000000) := ec
          have HE1 : Hid (_ = _) := e1
          have HE2 : Hid (_ = _) := e2
          clear e1 e2 ec
          go_wp2_with fail
          have K := mh_look HE.out HC.out
          rw [HE1.out, HE2.out] at K
          refine K.mono ?_
          rintro e w4 ⟨rfl, t4⟩
          have H4 : Hid (Sn w w4 b (j + 1) S1.tick) := by
            rw [← HS1.out] at t4 ⊢
            exact HR.out.next n f t4
          clear K t4 HE cc cd
          have z1 : (n != n) = false := by simp
          generalize (!(S.se == f)) = sf at *
          have z2 : (sf != sf) = false := by simp
          go_wp2
          go_roundg (l - (j + 1))
          all_goals (have := HM.out; try omega)
          exact ⟨j + 1, S1.tick, congrArg (Value.int .i64) HE1.out.symm, congrArg Value.bool HE2.out.symm, by go_num, by omega, by omega, H4.out⟩
    · obtain rfl : j = l := by omega
      have HC : Hid (S.ct = 2 * (j : Int) ∧ S.n = 1 ∧ S.O = fun _ => -1) := ⟨HR.out.cnt, HR.out.one, HR.out.non⟩
      have f0 : S.can 0 = true := by simp [Hs.can, Hs.may, Hs.is, HC.out.2.1, HC.out.2.2]
      obtain ⟨S1, e1⟩ : ∃ S1, S.join 0 = S1 := ⟨_, rfl⟩
      obtain ⟨S2, e2⟩ : ∃ S2, S1.join 0 = S2 := ⟨_, rfl⟩
      obtain ⟨S3, e3⟩ : ∃ S3, S2.leave 0 = S3 := ⟨_, rfl⟩
      obtain ⟨S4, e4⟩ : ∃ S4, S3.leave 0 = S4 := ⟨_, rfl⟩
      have HS : Hid (S.join 0 = S1 ∧ S1.join 0 = S2 ∧ S2.leave 0 = S3 ∧ S3.leave 0 = S4) := ⟨e1, e2, e3, e4⟩
      have h1 : S1 = S.tick.put 0 S.st := by rw [← e1]; simp [Hs.join, f0]
      have h1n : S1.n = 1 := by rw [h1]; exact HC.out.2.1
      have hst := HR.out.mh.ok.sts
      have h1i : S1.is 0 = true := by
        rw [h1]
        simp [Hs.is, Hs.may, Hs.put, Hs.tick, HC.out.2.1]
        omega
      have h1c : S1.can 0 = false := by simp [Hs.can, h1i]
      have h2 : S2 = S1.tick := by rw [← e2]; simp [Hs.join, h1c]
      have h2i : S2.is 0 = true := by rw [h2]; exact h1i
      have h2o : S2.own 0 = S.st := by
        rw [h2, Hs.tick_own]
        simp only [Hs.own, h1i, if_true]
        rw [h1]
        simp [Hs.put]
      have h3 : S3 = S2.tick.put 0 (-1) := by rw [← e3]; simp [Hs.leave, h2i]
      have h3i : S3.is 0 = false := by rw [h3]; simp [Hs.is, Hs.put]
      have ct1 : S1.ct = 2 * (j : Int) + 1 := by rw [← e1, Hs.join_ct, HC.out.1]
      have ct2 : S2.ct = 2 * (j : Int) + 2 := by rw [← e2, Hs.join_ct, ct1]; omega
      have ct3 : S3.ct = 2 * (j : Int) + 3 := by rw [← e3, Hs.leave_ct, ct2]; omega
      have ct4 : S4.ct = 2 * (j : Int) + 4 := by rw [← e4, Hs.leave_ct, ct3]; omega
      have HJ : Hid (Mh w wr b S ∧ S.can 0 = true ∧ S1.can 0 = false ∧ S2.own 0 = S.st ∧ S2.is 0 = true ∧ S3.is 0 = false ∧ S.jst 0 = S.st ∧ S.jse 0 = S.se ∧ S1.jst 0 = 0 ∧ S1.jse 0 = false) := ⟨HR.out.mh, f0, h1c, h2o, h2i, h3i, by simp [Hs.jst, f0], by simp [Hs.jse, f0], by simp [Hs.jst, h1c], by simp [Hs.jse, h1c]⟩
      have HT : Hid (S.ct < 1000000000 ∧ S1.ct < 1000000000 ∧ S2.ct < 1000000000 ∧ S3.ct < 1000000000 ∧ S4.ct = 2 * (j : Int) + 4) := ⟨by rw [HC.out.1]; omega, by rw [ct1]; omega, by rw [ct2]; omega, by rw [ct3]; omega, ct4⟩
      clear HM HC HR f0 e1 e2 e3 e4 h1 h1n hst h1i h1c h2 h2i h2o h3 h3i ct1 ct2 ct3 ct4
      go_wp2_with fail
      have K := mh_join 0 HJ.out.1 HT.out.1
      rw [HS.out.1, HJ.out.2.1, HJ.out.2.2.2.2.2.2.1, HJ.out.2.2.2.2.2.2.2.1] at K
      refine K.mono ?_
      rintro e w5 ⟨rfl, t5⟩
      have M5 : Hid (Mh w w5 b S1) := t5
      clear K t5
      go_wp2_with fail
      have K := mh_join 0 M5.out HT.out.2.1
      rw [HS.out.2.1, HJ.out.2.2.1, HJ.out.2.2.2.2.2.2.2.2.1, HJ.out.2.2.2.2.2.2.2.2.2] at K
      refine K.mono ?_
      rintro e w6 ⟨rfl, t6⟩
      have M6 : Hid (Mh w w6 b S2) := t6
      clear K t6 M5
      have z1 : (S.st == S.st) = true := by simp
      have z2 : (S.se == S.se) = true := by simp
      go_wp2_with fail
      refine (first_any _).mono ?_
      rintro e w7 ⟨rfl, k7⟩
      have M7 : Hid (Mh w w7 b S2) := M6.out.still k7
      clear k7 M6
      go_wp2_with fail
      have K := mh_own 0 M7.out
      rw [HJ.out.2.2.2.1] at K
      refine K.mono ?_
      rintro e w8 ⟨rfl, rfl⟩
      clear K
      go_wp2_with fail
      have K := mh_leave 0 M7.out HT.out.2.2.1
      rw [HS.out.2.2.1, HJ.out.2.2.2.2.1] at K
      refine K.mono ?_
      rintro e w9 ⟨rfl, t9⟩
      have M9 : Hid (Mh w w9 b S3) := t9
      clear K t9 M7
      go_wp2_with fail
      have K := mh_leave 0 M9.out HT.out.2.2.2.1
      rw [HS.out.2.2.2, HJ.out.2.2.2.2.2.1] at K
      refine K.mono ?_
      rintro e w10 ⟨rfl, t10⟩
      have M10 : Hid (Mh w w10 b S4) := t10
      clear K t10 M9
      go_wp2_with fail
      have K := mh_count M10.out
      rw [HT.out.2.2.2.2] at K
      refine K.mono ?_
      rintro e w11 ⟨rfl, rfl⟩
      clear K
      have z3 : ((2 * (j : Int) + 4) == (2 * (j : Int) + 4)) = true := by simp
      go_wp2
      go_ret
      exact ⟨rfl, M10.out.kept⟩

theorem handSense_any (x0 : Option Addr) (l0 c0 : Nat) (L0 : Nat → Int) (x1 : Option Addr) (l1 c1 : Nat) (L1 : Nat → Bool) (w : World) (_h0c : l0 ≤ c0) (hL0 : Ints w x0 l0 L0) (_hB0 : ∀ i, i < l0 → IntKind.min .i64 ≤ L0 i ∧ L0 i ≤ IntKind.max .i64) (_h1c : l1 ≤ c1) (hL1 : Bools w x1 l1 L1) :
    Calls Try.prog 5 #[.slice x0 l0 c0, .slice x1 l1 c1] w fun e w' => e = .returned (.bool true) ∧ Kept w w' := by
  by_cases h0 : 200 < (l0 : Int)
  · exact sense_out x0 l0 c0 x1 l1 c1 w (.inl h0)
  · by_cases h1 : l1 < l0
    · exact sense_out x0 l0 c0 x1 l1 c1 w (.inr ⟨h0, by omega⟩)
    · exact sense_in x0 l0 c0 L0 x1 l1 c1 L1 w hL0 hL1 (by omega) (by omega)
end Go.Proofs.Ytemaaefcnadmfaa
