/-
  HandPlays: the walk.
-/
import Derived.Test.YtemaaefcnadmfaaFirst18
import Derived.Test.YtemaaefcnadmfaaRHandNew
import Derived.Test.YtemaaefcnadmfaaOpen18
import Derived.Test.YtemaaefcnadmfaaPhase
import Derived.Deep.CutBlock
namespace Go.Proofs.Ytemaaefcnadmfaa
open Go.RowKit

/-- Both hands, as they lie in memory. -/
structure Two (w u : World) (b b' : Nat) (S S' : Hs) : Prop where
  kept : Kept w u
  tab : ∃ g c g' c', HH u b g c S ∧ RH u b' g' c' S' ∧ g ≠ g' ∧ w.heap.size ≤ b ∧ w.heap.size ≤ g ∧ w.heap.size ≤ b' ∧ w.heap.size ≤ g'
section
variable {w u u' : World} {b b' g g' c c' ob : Nat} {S S' S2 : Hs} {C : List Value}
theorem Two.still (h : Two w u b b' S S') (k : Kept u u') : Two w u' b b' S S' := ⟨h.kept.trans k, by
  obtain ⟨g, c, g', c', t, t', q⟩ := h.tab
  exact ⟨g, c, g', c', t.kept k, t'.kept k, q⟩⟩
/-- The block of another struct is none of a hand's. -/
theorem own_out {t s : TypeId} (o : Own u ob s C) (h : HTab t u b g c S) (h1 : s ≠ t) (h2 : s ≠ 3) : ob ∉ [b, g] := fun q => by
  simp only [List.mem_cons, List.not_mem_nil, or_false] at q
  rcases q with rfl | rfl
  · have k := h.head
    unfold Own at o k
    rw [o] at k
    simp only [Option.some.injEq, Obj.cells.injEq] at k
    exact h1 k.2.1
  · obtain ⟨f, hr, _⟩ := h.row
    exact o.ne hr h2 rfl
theorem row_two {t s : TypeId} (h : HTab t u b g c S) (k : HTab s u b' g' c' S') (hg : g ≠ g') : g' ∉ [b, g] := fun q => by
  simp only [List.mem_cons, List.not_mem_nil, or_false] at q
  obtain ⟨f, hr, _⟩ := k.row
  rcases q with rfl | rfl
  · exact h.head.ne hr h.ty rfl
  · exact hg rfl
theorem two_fst {F : FuncId} {args : Array Value} {v : Value} (h : Two w u b b' S S') (hc : ∀ g c, HH u b g c S → Calls Try.prog F args u fun e w' => e = .returned v ∧ HH w' b g c S2 ∧ Mut [b, g] u w') :
    Calls Try.prog F args u fun e w' => e = .returned v ∧ Two w w' b b' S2 S' ∧ ∀ ob C, Own u ob 32 C → Own w' ob 32 C := by
  obtain ⟨g, c, g', c', t, t', hg, q1, q2, q3, q4⟩ := h.tab
  refine (hc g c t).mono fun e w' ⟨he, t2, m⟩ => ⟨he, ⟨h.kept.muts m (fun k hk => by simp at hk; rcases hk with rfl | rfl; exact q1; exact q2), g, c, g', c', t2, t'.muts m (own_out t'.head t (by decide) (by decide)) (row_two t t' hg), hg, q1, q2, q3, q4⟩, fun ob C o => o.muts m (own_out o t (by decide) (by decide))⟩
theorem two_snd {F : FuncId} {args : Array Value} {v : Value} (h : Two w u b b' S S') (hc : ∀ g c, RH u b' g c S' → Calls Try.prog F args u fun e w' => e = .returned v ∧ RH w' b' g c S2 ∧ Mut [b', g] u w') :
    Calls Try.prog F args u fun e w' => e = .returned v ∧ Two w w' b b' S S2 ∧ ∀ ob C, Own u ob 32 C → Own w' ob 32 C := by
  obtain ⟨g, c, g', c', t, t', hg, q1, q2, q3, q4⟩ := h.tab
  refine (hc g' c' t').mono fun e w' ⟨he, t2, m⟩ => ⟨he, ⟨h.kept.muts m (fun k hk => by simp at hk; rcases hk with rfl | rfl; exact q3; exact q4), g, c, g', c', t.muts m (own_out t.head t' (by decide) (by decide)) (row_two t' t hg.symm), t2, hg, q1, q2, q3, q4⟩, fun ob C o => o.muts m (own_out o t' (by decide) (by decide))⟩
theorem tw_own (i : Int) (h : Two w u b b' S S') : Calls Try.prog 22 #[.pointer (some ⟨b, 0, none⟩), .int .i64 i] u fun e w' => e = .returned (.int .i64 (S.own i)) ∧ w' = u := by
  obtain ⟨g, c, g', c', t, t', _⟩ := h.tab
  exact hown_any i u t
theorem tw_count (h : Two w u b b' S S') : Calls Try.prog 24 #[.pointer (some ⟨b, 0, none⟩)] u fun e w' => e = .returned (.int .i64 S.ct) ∧ w' = u := by
  obtain ⟨g, c, g', c', t, t', _⟩ := h.tab
  exact hcount_any u t
theorem tw_rown (i : Int) (h : Two w u b b' S S') : Calls Try.prog 23 #[.pointer (some ⟨b', 0, none⟩), .int .i64 i] u fun e w' => e = .returned (.int .i64 (S'.own i)) ∧ w' = u := by
  obtain ⟨g, c, g', c', t, t', _⟩ := h.tab
  exact rown_any i u t'
theorem Two.c3 (h : Two w u b b' S S') : u.cell? ⟨b', 3, none⟩ = some (.int .i64 S'.ct) := by
  obtain ⟨g, c, g', c', t, t', _⟩ := h.tab
  exact t'.c3
end

theorem Hs.tick_ct {S : Hs} : S.tick.ct = S.ct + 1 := rfl

/-- In the midst of 'h.F(..) == x.F(..)': operations c1 and c2 are the two calls. -/
structure CJ (c1 c2 : Nat) (w u : World) (b b' : Nat) (S S2 : Hs) (ob : Nat) (C : List Value) (d : Nat → Bool) : Prop where
  own : Own u ob 32 C
  two : Two w u b b' (if d c1 then S2 else S) (if d c2 then S2 else S)
section
variable {c1 c2 : Nat} {w u u' : World} {b b' ob : Nat} {S S2 : Hs} {C : List Value} {d : Nat → Bool}
theorem CJ.plain (h : CJ c1 c2 w u b b' S S2 ob C d) (i : Nat) (h1 : i ≠ c1) (h2 : i ≠ c2) : CJ c1 c2 w u b b' S S2 ob C (done d i) := by
  have e1 : done d i c1 = d c1 := by simp [done, Ne.symm h1]
  have e2 : done d i c2 = d c2 := by simp [done, Ne.symm h2]
  exact ⟨h.own, by rw [e1, e2]; exact h.two⟩
theorem CJ.call1 (o : Own u' ob 32 C) (t : Two w u' b b' S2 (if d c2 then S2 else S)) (h : c1 ≠ c2) : CJ c1 c2 w u' b b' S S2 ob C (done d c1) := by
  have e1 : done d c1 c1 = true := by simp [done]
  have e2 : done d c1 c2 = d c2 := by simp [done, Ne.symm h]
  exact ⟨o, by rw [e1, e2]; exact t⟩
theorem CJ.call2 (o : Own u' ob 32 C) (t : Two w u' b b' (if d c1 then S2 else S) S2) (h : c1 ≠ c2) : CJ c1 c2 w u' b b' S S2 ob C (done d c2) := by
  have e1 : done d c2 c1 = d c1 := by simp [done, h]
  have e2 : done d c2 c2 = true := by simp [done]
  exact ⟨o, by rw [e1, e2]; exact t⟩
end

set_option maxHeartbeats 4000000 in
set_option maxRecDepth 20000 in
theorem plays_bad (n : Int) (x : Option Addr) (l c : Nat) (w : World) (hn : ¬ (1 ≤ n ∧ n ≤ 16)) :
    Calls Try.prog 3 #[.int .i64 n, .slice x l c] w fun e w' => e = .returned (.bool true) ∧ Kept w w' := by
  have HN : Hid (∀ w, _) := fun w => hnew_bad n w hn
  have HR : Hid (∀ w, _) := fun w => rnew_bad n w hn
  clear hn
  go_enter Try.func3, Try.ntmps3
  go_wp2_with fail
  refine (first_any _).mono ?_
  rintro e w1 ⟨rfl, k1⟩
  have K1 : Hid (Kept w w1) := k1
  clear k1
  go_wp2_with fail
  refine (HN.out _).mono ?_
  rintro e w2 ⟨rfl, rfl⟩
  go_wp2_with fail
  refine (HR.out _).mono ?_
  rintro e w3 ⟨rfl, rfl⟩
  clear HN HR
  by_cases ho : 500 < (l : Int)
  · go_wp2_with fail
    refine (first_any _).mono ?_
    rintro e w4 ⟨rfl, k4⟩
    have K4 : Hid (Kept w w4) := K1.out.trans k4
    clear k4
    go_wp2
    go_ret
    exact ⟨rfl, K4.out⟩
  · go_wp2
    refine wp_loop_rounds 1 ?_
    rw [rounds_succ]
    go_wp2_with fail
    refine (first_any _).mono ?_
    rintro e w4 ⟨rfl, k4⟩
    have K4 : Hid (Kept w w4) := K1.out.trans k4
    clear k4
    go_wp2
    go_ret
    exact ⟨rfl, K4.out⟩

set_option maxHeartbeats 4000000 in
set_option maxRecDepth 20000 in
theorem plays_out (n : Nat) (x : Option Addr) (l c : Nat) (w : World) (h1 : 1 ≤ (n : Int)) (hn : (n : Int) ≤ 16) (ho : 500 < (l : Int)) :
    Calls Try.prog 3 #[.int .i64 n, .slice x l c] w fun e w' => e = .returned (.bool true) ∧ Kept w w' := by
  have HN : Hid (∀ w, _) := fun w => hnew_any n w h1 hn
  have HR : Hid (∀ w, _) := fun w => rnew_any n w h1 hn
  go_enter Try.func3, Try.ntmps3
  go_wp2_with fail
  refine (first_any _).mono ?_
  rintro e w1 ⟨rfl, k1⟩
  have K1 : Hid (Kept w w1) := k1
  clear k1
  go_wp2_with fail
  refine (HN.out _).mono ?_
  rintro e w2 ⟨b, g, rfl, _, _, _, k2⟩
  have K2 : Hid (Kept w w2) := K1.out.trans k2
  clear k2 K1
  go_wp2_with fail
  refine (HR.out _).mono ?_
  rintro e w3 ⟨b', g', c', rfl, _, _, _, k3⟩
  have K3 : Hid (Kept w w3) := K2.out.trans k3
  clear k3 K2
  go_wp2_with fail
  refine (first_any _).mono ?_
  rintro e w4 ⟨rfl, k4⟩
  have K4 : Hid (Kept w w4) := K3.out.trans k4
  clear k4
  go_wp2
  go_ret
  exact ⟨rfl, K4.out⟩

set_option maxHeartbeats 8000000 in
set_option maxRecDepth 20000 in
theorem plays_in (n : Nat) (x : Option Addr) (l c : Nat) (L : Nat → Op18) (w : World) (hX : Ops w x l L) (h1 : 1 ≤ (n : Int)) (hn : (n : Int) ≤ 16) (hl : (l : Int) ≤ 500) :
    Calls Try.prog 3 #[.int .i64 n, .slice x l c] w fun e w' => e = .returned (.bool true) ∧ Kept w w' := by
  have HX : Hid (Ops w x l L) := hX
  have HN : Hid (∀ w, _) := fun w => hnew_any n w h1 hn
  have HR : Hid (∀ w, _) := fun w => rnew_any n w h1 hn
  clear hX
  have d1 : decide (500 < (l : Int)) = false := decide_eq_false (by omega)
  go_enter Try.func3, Try.ntmps3
  go_wp2_with fail
  refine (first_any _).mono ?_
  rintro e w1 ⟨rfl, k1⟩
  have K1 : Hid (Kept w w1) := k1
  clear k1
  go_wp2_with fail
  refine (HN.out _).mono ?_
  rintro e w2 ⟨b, g, rfl, t2, q1, q2, k2⟩
  have H2 : Hid (HH w2 b g n (Hs.first n) ∧ w.heap.size ≤ b ∧ w.heap.size ≤ g ∧ Kept w w2) := ⟨t2, Nat.le_trans K1.out.size q1, Nat.le_trans K1.out.size q2, K1.out.trans k2⟩
  clear t2 q1 q2 k2 K1
  go_wp2_with fail
  refine (HR.out _).mono ?_
  rintro e w3 ⟨b', g', c', rfl, t3, q1, q2, k3⟩
  have H3 : Hid (Two w w3 b b' (Hs.first n) (Hs.first n)) := ⟨H2.out.2.2.2.trans k3, g, n, g', c', H2.out.1.kept k3, t3, fun e => by have := H2.out.1.ltg; omega, H2.out.2.1, H2.out.2.2.1, Nat.le_trans H2.out.2.2.2.size q1, Nat.le_trans H2.out.2.2.2.size q2⟩
  clear t3 q1 q2 k3 H2 HN HR
  go_wp2
  go_loopg [9] l (fun m i wr' => ∃ (j : Nat) (S : Hs), i = .int .i64 j ∧ j ≤ l ∧ m = l - j ∧ Hid (Two w wr' b b' S S ∧ S.ct ≤ (j : Int)))
  case atStart => exact ⟨0, _, rfl, by omega, by omega, H3.out, by simp [Hs.first]⟩
  case round =>
    obtain ⟨j, S, rfl, hj, hm, HR⟩ := hrel
    have HM : Hid _ := hm
    clear hm H3
    by_cases hlt : j < l
    · obtain ⟨bx, ox, rfl, hbx, hcx⟩ := HX.out (by omega)
      have e0 : wr.cell? ⟨bx, ox + j * 4, none⟩ = _ := (HR.out.1.kept.cell hbx).trans (hcx j hlt 0 _ (by omega) rfl)
      have e1 : wr.cell? ⟨bx, ox + j * 4 + 1, none⟩ = _ := (HR.out.1.kept.cell hbx).trans (hcx j hlt 1 _ (by omega) rfl)
      have e2 : wr.cell? ⟨bx, ox + j * 4 + 2, none⟩ = _ := (HR.out.1.kept.cell hbx).trans (hcx j hlt 2 _ (by omega) rfl)
      have e3 : wr.cell? ⟨bx, ox + j * 4 + 3, none⟩ = _ := (HR.out.1.kept.cell hbx).trans (hcx j hlt 3 _ (by omega) rfl)
      clear hcx hbx HX
      generalize L j = o at *
      obtain ⟨ok, ot, os, of⟩ := o
      simp only at e0 e1 e2 e3
      go_upto_block 2 with fail
      clear e0 e1 e2 e3
      generalize hW : wr.alloc _ = W
      have BO : Hid (Own W wr.heap.size 32 [.int .i64 ok, .int .i64 ot, .int .i64 os, .bool of]) := by rw [← hW]; exact Own.new wr _ _
      have HW : Hid (Two w W b b' S S) := by rw [← hW]; exact HR.out.1.still ((Kept.refl wr).alloc _ _)
      have HC : Hid (S.ct ≤ (j : Int) ∧ S.ct < 1000000000) := ⟨HR.out.2, by have := HR.out.2; omega⟩
      clear hW HR
      generalize wr.heap.size = ob at *
      go_cut [11, 12, 13, 14, 15, 16, 17, 18, 19, 20, 21] from 78 to 180 (fun q _ _ _ _ _ _ _ _ _ _ wc => q = .bool true ∧ ∃ S : Hs, Hid (Two w wc b b' S S ∧ S.ct ≤ (j : Int) + 1 ∧ Own wc ob 32 [.int .i64 ok, .int .i64 ot, .int .i64 os, .bool of]))
      case first =>
        by_cases h0 : ok = 0
        · have g0 : (ok == 0) = true := by simpa using h0
          clear h0
          obtain ⟨S2, hS2⟩ : ∃ S2, S.post os of = S2 := ⟨_, rfl⟩
          obtain ⟨vv, hvv⟩ : ∃ vv, kn os = vv := ⟨_, rfl⟩
          have HV : Hid (kn os = vv ∧ S.post os of = S2) := ⟨hvv, hS2⟩
          clear hS2 hvv
          go_upto_region 14 with fail
          refine wp_region_phase [(.pointer (some ⟨b, 0, none⟩)), (.pointer (some ⟨ob, 2, none⟩)), (.int .i64 os), (.pointer (some ⟨ob, 3, none⟩)), (.bool of), (.bool vv), (.pointer (some ⟨b', 0, none⟩)), (.pointer (some ⟨ob, 2, none⟩)), (.int .i64 os), (.pointer (some ⟨ob, 3, none⟩)), (.bool of), (.bool vv), (.bool true), (.bool true)] [(11, 13), (80, 0), (81, 1), (82, 2), (83, 3), (84, 4), (85, 5), (86, 6), (87, 7), (88, 8), (89, 9), (90, 10), (91, 11), (92, 12)] [_, _, _, _, _, _, _, _, _, _, _, _, _, _, _, _, _, _, _, _, _, _, _, _, _, _, _, _, _, _, _, _, _, _, _, _, _, _, _, _, _, _, _, _, _, _, _, _, _, _, _, _, _, _, _, _, _, _, _, _, _, _, _, _, _, _, _, _, _, _, _, _, _, _, _, _, _, _, _, _, _, _, _, _, _, _, _, _, _, _, _, _, _, _, _, _, _, _, _, _, _, _, _, _, _, _, _, _, _, _, _, _, _, _, _, _, _, _, _, _, _, _, _, _, _, _, _, _, _, _, _, _, _, _, _, _, _, _, _, _, _, _, _, _, _, _, _, _, _, _, _, _, _, _, _, _, _, _, _, _, _, _, _, _, _, _, _, _, _, _, _, _, _, _, _, _, _, _, _, _, _, _, _, _, _, _, _, _, _, _, _, _, _, _, _, _, _, _, _, _, _, _, _, _] (fun d u => CJ 5 11 w u b b' S S2 ob [.int .i64 ok, .int .i64 ot, .int .i64 os, .bool of] d) (by kernel_rfl) (by kernel_rfl) (by kernel_rfl) (by kernel_rfl) rfl ?_ ?_ ?_
          · exact ⟨BO.out.kept (Kept.refl _).drew, by simpa using HW.out.still (Kept.refl _).drew⟩
          · intro i1 o ho a1 d u hh hj hi hd
            match i1, ho, hi, hd with
            | 0, ho, hi, hd =>
              simp only [List.getElem?_cons_zero, Option.some.injEq] at ho
              subst ho
              have g5 : a1.tmps[5]? = some (.pointer (some ⟨b, 0, none⟩)) := hh.old 5 (by kernel_rfl) rfl
              clear hh hd
              have HN : Hid (CJ 5 11 w u b b' S S2 ob [.int .i64 ok, .int .i64 ot, .int .i64 os, .bool of] (done d 0)) := hj.plain 0 (by decide) (by decide)
              clear hj hi
              refine wpOp_step rfl (fun K hK => ?_)
              go_simp
              exact hK _ _ ⟨by simp [Act.put], HN.out⟩
            | 1, ho, hi, hd =>
              simp only [List.getElem?_cons_succ, List.getElem?_cons_zero, Option.some.injEq] at ho
              subst ho
              have g10 : a1.tmps[10]? = some (.pointer (some ⟨ob, 0, none⟩)) := hh.old 10 (by kernel_rfl) rfl
              clear hh hd
              have HN : Hid (CJ 5 11 w u b b' S S2 ob [.int .i64 ok, .int .i64 ot, .int .i64 os, .bool of] (done d 1)) := hj.plain 1 (by decide) (by decide)
              clear hj hi
              refine wpOp_step rfl (fun K hK => ?_)
              go_simp
              exact hK _ _ ⟨by simp [Act.put], HN.out⟩
            | 2, ho, hi, hd =>
              simp only [List.getElem?_cons_succ, List.getElem?_cons_zero, Option.some.injEq] at ho
              subst ho
              have g81 : a1.tmps[81]? = some (.pointer (some ⟨ob, 2, none⟩)) := hh.did 1 _ 81 rfl rfl (hd { on := 1, ground := .data } (by simp) rfl)
              have cc := hj.own.blk.at 2 rfl
              clear hh hd
              have HN : Hid (CJ 5 11 w u b b' S S2 ob [.int .i64 ok, .int .i64 ot, .int .i64 os, .bool of] (done d 2)) := hj.plain 2 (by decide) (by decide)
              clear hj hi
              refine wpOp_step rfl (fun K hK => ?_)
              go_simp
              exact hK _ _ ⟨by simp [Act.put], HN.out⟩
            | 3, ho, hi, hd =>
              simp only [List.getElem?_cons_succ, List.getElem?_cons_zero, Option.some.injEq] at ho
              subst ho
              have g10 : a1.tmps[10]? = some (.pointer (some ⟨ob, 0, none⟩)) := hh.old 10 (by kernel_rfl) rfl
              clear hh hd
              have HN : Hid (CJ 5 11 w u b b' S S2 ob [.int .i64 ok, .int .i64 ot, .int .i64 os, .bool of] (done d 3)) := hj.plain 3 (by decide) (by decide)
              clear hj hi
              refine wpOp_step rfl (fun K hK => ?_)
              go_simp
              exact hK _ _ ⟨by simp [Act.put], HN.out⟩
            | 4, ho, hi, hd =>
              simp only [List.getElem?_cons_succ, List.getElem?_cons_zero, Option.some.injEq] at ho
              subst ho
              have g83 : a1.tmps[83]? = some (.pointer (some ⟨ob, 3, none⟩)) := hh.did 3 _ 83 rfl rfl (hd { on := 3, ground := .data } (by simp) rfl)
              have cc := hj.own.blk.at 3 rfl
              clear hh hd
              have HN : Hid (CJ 5 11 w u b b' S S2 ob [.int .i64 ok, .int .i64 ot, .int .i64 os, .bool of] (done d 4)) := hj.plain 4 (by decide) (by decide)
              clear hj hi
              refine wpOp_step rfl (fun K hK => ?_)
              go_simp
              exact hK _ _ ⟨by simp [Act.put], HN.out⟩
            | 5, ho, hi, hd =>
              simp only [List.getElem?_cons_succ, List.getElem?_cons_zero, Option.some.injEq] at ho
              subst ho
              have g80 : a1.tmps[80]? = some (.pointer (some ⟨b, 0, none⟩)) := hh.did 0 _ 80 rfl rfl (hd { on := 0, ground := .data } (by simp) rfl)
              have g82 : a1.tmps[82]? = some (.int .i64 os) := hh.did 2 _ 82 rfl rfl (hd { on := 2, ground := .data } (by simp) rfl)
              have g84 : a1.tmps[84]? = some (.bool of) := hh.did 4 _ 84 rfl rfl (hd { on := 4, ground := .data } (by simp) rfl)
              clear hh hd
              have HO : Hid (Own u ob 32 [.int .i64 ok, .int .i64 ot, .int .i64 os, .bool of]) := hj.own
              have t := hj.two
              simp only [hi, Bool.false_eq_true, if_false] at t
              have CA : Hid (Calls _ _ _ _ _) := two_fst t (fun g c tt => hpost_any os of _ tt HC.out.2)
              rw [HV.out.1, HV.out.2] at CA
              clear hj hi t
              refine wpOp_step rfl (fun K hK => ?_)
              go_simp
              refine CA.out.mono ?_
              rintro e u' ⟨rfl, t, o⟩
              exact hK _ _ ⟨by simp [Act.put], CJ.call1 (o _ _ HO.out) t (by decide)⟩
            | 6, ho, hi, hd =>
              simp only [List.getElem?_cons_succ, List.getElem?_cons_zero, Option.some.injEq] at ho
              subst ho
              have g7 : a1.tmps[7]? = some (.pointer (some ⟨b', 0, none⟩)) := hh.old 7 (by kernel_rfl) rfl
              clear hh hd
              have HN : Hid (CJ 5 11 w u b b' S S2 ob [.int .i64 ok, .int .i64 ot, .int .i64 os, .bool of] (done d 6)) := hj.plain 6 (by decide) (by decide)
              clear hj hi
              refine wpOp_step rfl (fun K hK => ?_)
              go_simp
              exact hK _ _ ⟨by simp [Act.put], HN.out⟩
            | 7, ho, hi, hd =>
              simp only [List.getElem?_cons_succ, List.getElem?_cons_zero, Option.some.injEq] at ho
              subst ho
              have g10 : a1.tmps[10]? = some (.pointer (some ⟨ob, 0, none⟩)) := hh.old 10 (by kernel_rfl) rfl
              clear hh hd
              have HN : Hid (CJ 5 11 w u b b' S S2 ob [.int .i64 ok, .int .i64 ot, .int .i64 os, .bool of] (done d 7)) := hj.plain 7 (by decide) (by decide)
              clear hj hi
              refine wpOp_step rfl (fun K hK => ?_)
              go_simp
              exact hK _ _ ⟨by simp [Act.put], HN.out⟩
            | 8, ho, hi, hd =>
              simp only [List.getElem?_cons_succ, List.getElem?_cons_zero, Option.some.injEq] at ho
              subst ho
              have g87 : a1.tmps[87]? = some (.pointer (some ⟨ob, 2, none⟩)) := hh.did 7 _ 87 rfl rfl (hd { on := 7, ground := .data } (by simp) rfl)
              have cc := hj.own.blk.at 2 rfl
              clear hh hd
              have HN : Hid (CJ 5 11 w u b b' S S2 ob [.int .i64 ok, .int .i64 ot, .int .i64 os, .bool of] (done d 8)) := hj.plain 8 (by decide) (by decide)
              clear hj hi
              refine wpOp_step rfl (fun K hK => ?_)
              go_simp
              exact hK _ _ ⟨by simp [Act.put], HN.out⟩
            | 9, ho, hi, hd =>
              simp only [List.getElem?_cons_succ, List.getElem?_cons_zero, Option.some.injEq] at ho
              subst ho
              have g10 : a1.tmps[10]? = some (.pointer (some ⟨ob, 0, none⟩)) := hh.old 10 (by kernel_rfl) rfl
              clear hh hd
              have HN : Hid (CJ 5 11 w u b b' S S2 ob [.int .i64 ok, .int .i64 ot, .int .i64 os, .bool of] (done d 9)) := hj.plain 9 (by decide) (by decide)
              clear hj hi
              refine wpOp_step rfl (fun K hK => ?_)
              go_simp
              exact hK _ _ ⟨by simp [Act.put], HN.out⟩
            | 10, ho, hi, hd =>
              simp only [List.getElem?_cons_succ, List.getElem?_cons_zero, Option.some.injEq] at ho
              subst ho
              have g89 : a1.tmps[89]? = some (.pointer (some ⟨ob, 3, none⟩)) := hh.did 9 _ 89 rfl rfl (hd { on := 9, ground := .data } (by simp) rfl)
              have cc := hj.own.blk.at 3 rfl
              clear hh hd
              have HN : Hid (CJ 5 11 w u b b' S S2 ob [.int .i64 ok, .int .i64 ot, .int .i64 os, .bool of] (done d 10)) := hj.plain 10 (by decide) (by decide)
              clear hj hi
              refine wpOp_step rfl (fun K hK => ?_)
              go_simp
              exact hK _ _ ⟨by simp [Act.put], HN.out⟩
            | 11, ho, hi, hd =>
              simp only [List.getElem?_cons_succ, List.getElem?_cons_zero, Option.some.injEq] at ho
              subst ho
              have g86 : a1.tmps[86]? = some (.pointer (some ⟨b', 0, none⟩)) := hh.did 6 _ 86 rfl rfl (hd { on := 6, ground := .data } (by simp) rfl)
              have g88 : a1.tmps[88]? = some (.int .i64 os) := hh.did 8 _ 88 rfl rfl (hd { on := 8, ground := .data } (by simp) rfl)
              have g90 : a1.tmps[90]? = some (.bool of) := hh.did 10 _ 90 rfl rfl (hd { on := 10, ground := .data } (by simp) rfl)
              clear hh hd
              have HO : Hid (Own u ob 32 [.int .i64 ok, .int .i64 ot, .int .i64 os, .bool of]) := hj.own
              have t := hj.two
              simp only [hi, Bool.false_eq_true, if_false] at t
              have CA : Hid (Calls _ _ _ _ _) := two_snd t (fun g c tt => rpost_any os of _ tt HC.out.2)
              rw [HV.out.1, HV.out.2] at CA
              clear hj hi t
              refine wpOp_step rfl (fun K hK => ?_)
              go_simp
              refine CA.out.mono ?_
              rintro e u' ⟨rfl, t, o⟩
              exact hK _ _ ⟨by simp [Act.put], CJ.call2 (o _ _ HO.out) t (by decide)⟩
            | 12, ho, hi, hd =>
              simp only [List.getElem?_cons_succ, List.getElem?_cons_zero, Option.some.injEq] at ho
              subst ho
              have g85 : a1.tmps[85]? = some (.bool vv) := hh.did 5 _ 85 rfl rfl (hd { on := 5, ground := .data } (by simp) rfl)
              have g91 : a1.tmps[91]? = some (.bool vv) := hh.did 11 _ 91 rfl rfl (hd { on := 11, ground := .data } (by simp) rfl)
              have zz : (vv == vv) = true := by simp
              clear hh hd
              have HN : Hid (CJ 5 11 w u b b' S S2 ob [.int .i64 ok, .int .i64 ot, .int .i64 os, .bool of] (done d 12)) := hj.plain 12 (by decide) (by decide)
              clear hj hi
              refine wpOp_step rfl (fun K hK => ?_)
              go_simp
              exact hK _ _ ⟨by simp [Act.put], HN.out⟩
            | 13, ho, hi, hd =>
              simp only [List.getElem?_cons_succ, List.getElem?_cons_zero, Option.some.injEq] at ho
              subst ho
              have g92 : a1.tmps[92]? = some (.bool true) := hh.did 12 _ 92 rfl rfl (hd { on := 12, ground := .data } (by simp) rfl)
              clear hh hd
              have HN : Hid (CJ 5 11 w u b b' S S2 ob [.int .i64 ok, .int .i64 ot, .int .i64 os, .bool of] (done d 13)) := hj.plain 13 (by decide) (by decide)
              clear hj hi
              refine wpOp_step rfl (fun K hK => ?_)
              go_simp
              exact hK _ _ ⟨by simp [Act.put], HN.out⟩
            | n + 14, ho, hi, hd => simp at ho
          · intro u d hall hj
            have t := hj.two
            have h1 := hall 5 (by decide)
            have h2 := hall 11 (by decide)
            rw [h1, h2] at t
            have HE : Hid (Two w u b b' S2 S2 ∧ S2.ct ≤ (j : Int) + 1 ∧ Own u ob 32 [.int .i64 ok, .int .i64 ot, .int .i64 os, .bool of]) := ⟨t, by rw [← HV.out.2, Hs.post_ct]; have := HC.out.1; omega, hj.own⟩
            clear hall hj t h1 h2
            simp only [List.getD_cons_succ, List.getD_cons_zero]
            go_wp2
            go_meet
            case rel => exact ⟨rfl, _, HE.out⟩
        · have g0 : (ok == 0) = false := by simpa using h0
          clear h0
          by_cases h1 : ok = 1
          · have g1 : (ok == 1) = true := by simpa using h1
            clear h1
            have K : Hid (Calls _ _ _ _ _) := two_fst HW.out (fun g c t => hlook_any _ t HC.out.2)
            go_wp2_with fail
            refine K.out.mono ?_
            rintro e w4 ⟨rfl, t4, o4⟩
            have H4 : Hid (Two w w4 b b' (S.tick) S ∧ Own w4 ob 32 [.int .i64 ok, .int .i64 ot, .int .i64 os, .bool of]) := ⟨t4, o4 _ _ BO.out⟩
            clear t4 o4 K
            have K : Hid (Calls _ _ _ _ _) := two_snd H4.out.1 (fun g c t => rlook_any _ t HC.out.2)
            go_wp2_with fail
            refine K.out.mono ?_
            rintro e w5 ⟨rfl, t5, o5⟩
            have H5 : Hid (Two w w5 b b' (S.tick) (S.tick) ∧ (S.tick).ct ≤ (j : Int) + 1 ∧ Own w5 ob 32 [.int .i64 ok, .int .i64 ot, .int .i64 os, .bool of]) := ⟨t5, by rw [Hs.tick_ct]; have := HC.out.1; omega, o5 _ _ H4.out.2⟩
            clear t5 o5 K H4 HW BO
            generalize S.tick = S2 at *
            have z1 : (S.st == S.st) = true := by simp
            have z2 : (S.se == S.se) = true := by simp
            go_wp2
            go_meet
            case rel => exact ⟨rfl, _, H5.out⟩
          · have g1 : (ok == 1) = false := by simpa using h1
            clear h1
            by_cases h2 : ok = 2
            · have g2 : (ok == 2) = true := by simpa using h2
              clear h2
              obtain ⟨S2, hS2⟩ : ∃ S2, S.ans ot os = S2 := ⟨_, rfl⟩
              obtain ⟨vv, hvv⟩ : ∃ vv, (S.is ot && kn os) = vv := ⟨_, rfl⟩
              have HV : Hid ((S.is ot && kn os) = vv ∧ S.ans ot os = S2) := ⟨hvv, hS2⟩
              clear hS2 hvv
              go_upto_region 20 with fail
              refine wp_region_phase [(.pointer (some ⟨b, 0, none⟩)), (.pointer (some ⟨ob, 1, none⟩)), (.int .i64 ot), (.pointer (some ⟨ob, 2, none⟩)), (.int .i64 os), (.bool vv), (.pointer (some ⟨b', 0, none⟩)), (.pointer (some ⟨ob, 1, none⟩)), (.int .i64 ot), (.pointer (some ⟨ob, 2, none⟩)), (.int .i64 os), (.bool vv), (.bool true), (.bool true)] [(11, 13), (115, 0), (116, 1), (117, 2), (118, 3), (119, 4), (120, 5), (121, 6), (122, 7), (123, 8), (124, 9), (125, 10), (126, 11), (127, 12)] [_, _, _, _, _, _, _, _, _, _, _, _, _, _, _, _, _, _, _, _, _, _, _, _, _, _, _, _, _, _, _, _, _, _, _, _, _, _, _, _, _, _, _, _, _, _, _, _, _, _, _, _, _, _, _, _, _, _, _, _, _, _, _, _, _, _, _, _, _, _, _, _, _, _, _, _, _, _, _, _, _, _, _, _, _, _, _, _, _, _, _, _, _, _, _, _, _, _, _, _, _, _, _, _, _, _, _, _, _, _, _, _, _, _, _, _, _, _, _, _, _, _, _, _, _, _, _, _, _, _, _, _, _, _, _, _, _, _, _, _, _, _, _, _, _, _, _, _, _, _, _, _, _, _, _, _, _, _, _, _, _, _, _, _, _, _, _, _, _, _, _, _, _, _, _, _, _, _, _, _, _, _, _, _, _, _, _, _, _, _, _, _, _, _, _, _, _, _, _, _, _, _, _, _] (fun d u => CJ 5 11 w u b b' S S2 ob [.int .i64 ok, .int .i64 ot, .int .i64 os, .bool of] d) (by kernel_rfl) (by kernel_rfl) (by kernel_rfl) (by kernel_rfl) rfl ?_ ?_ ?_
              · exact ⟨BO.out.kept (Kept.refl _).drew, by simpa using HW.out.still (Kept.refl _).drew⟩
              · intro i1 o ho a1 d u hh hj hi hd
                match i1, ho, hi, hd with
                | 0, ho, hi, hd =>
                  simp only [List.getElem?_cons_zero, Option.some.injEq] at ho
                  subst ho
                  have g5 : a1.tmps[5]? = some (.pointer (some ⟨b, 0, none⟩)) := hh.old 5 (by kernel_rfl) rfl
                  clear hh hd
                  have HN : Hid (CJ 5 11 w u b b' S S2 ob [.int .i64 ok, .int .i64 ot, .int .i64 os, .bool of] (done d 0)) := hj.plain 0 (by decide) (by decide)
                  clear hj hi
                  refine wpOp_step rfl (fun K hK => ?_)
                  go_simp
                  exact hK _ _ ⟨by simp [Act.put], HN.out⟩
                | 1, ho, hi, hd =>
                  simp only [List.getElem?_cons_succ, List.getElem?_cons_zero, Option.some.injEq] at ho
                  subst ho
                  have g10 : a1.tmps[10]? = some (.pointer (some ⟨ob, 0, none⟩)) := hh.old 10 (by kernel_rfl) rfl
                  clear hh hd
                  have HN : Hid (CJ 5 11 w u b b' S S2 ob [.int .i64 ok, .int .i64 ot, .int .i64 os, .bool of] (done d 1)) := hj.plain 1 (by decide) (by decide)
                  clear hj hi
                  refine wpOp_step rfl (fun K hK => ?_)
                  go_simp
                  exact hK _ _ ⟨by simp [Act.put], HN.out⟩
                | 2, ho, hi, hd =>
                  simp only [List.getElem?_cons_succ, List.getElem?_cons_zero, Option.some.injEq] at ho
                  subst ho
                  have g116 : a1.tmps[116]? = some (.pointer (some ⟨ob, 1, none⟩)) := hh.did 1 _ 116 rfl rfl (hd { on := 1, ground := .data } (by simp) rfl)
                  have cc := hj.own.blk.at 1 rfl
                  clear hh hd
                  have HN : Hid (CJ 5 11 w u b b' S S2 ob [.int .i64 ok, .int .i64 ot, .int .i64 os, .bool of] (done d 2)) := hj.plain 2 (by decide) (by decide)
                  clear hj hi
                  refine wpOp_step rfl (fun K hK => ?_)
                  go_simp
                  exact hK _ _ ⟨by simp [Act.put], HN.out⟩
                | 3, ho, hi, hd =>
                  simp only [List.getElem?_cons_succ, List.getElem?_cons_zero, Option.some.injEq] at ho
                  subst ho
                  have g10 : a1.tmps[10]? = some (.pointer (some ⟨ob, 0, none⟩)) := hh.old 10 (by kernel_rfl) rfl
                  clear hh hd
                  have HN : Hid (CJ 5 11 w u b b' S S2 ob [.int .i64 ok, .int .i64 ot, .int .i64 os, .bool of] (done d 3)) := hj.plain 3 (by decide) (by decide)
                  clear hj hi
                  refine wpOp_step rfl (fun K hK => ?_)
                  go_simp
                  exact hK _ _ ⟨by simp [Act.put], HN.out⟩
                | 4, ho, hi, hd =>
                  simp only [List.getElem?_cons_succ, List.getElem?_cons_zero, Option.some.injEq] at ho
                  subst ho
                  have g118 : a1.tmps[118]? = some (.pointer (some ⟨ob, 2, none⟩)) := hh.did 3 _ 118 rfl rfl (hd { on := 3, ground := .data } (by simp) rfl)
                  have cc := hj.own.blk.at 2 rfl
                  clear hh hd
                  have HN : Hid (CJ 5 11 w u b b' S S2 ob [.int .i64 ok, .int .i64 ot, .int .i64 os, .bool of] (done d 4)) := hj.plain 4 (by decide) (by decide)
                  clear hj hi
                  refine wpOp_step rfl (fun K hK => ?_)
                  go_simp
                  exact hK _ _ ⟨by simp [Act.put], HN.out⟩
                | 5, ho, hi, hd =>
                  simp only [List.getElem?_cons_succ, List.getElem?_cons_zero, Option.some.injEq] at ho
                  subst ho
                  have g115 : a1.tmps[115]? = some (.pointer (some ⟨b, 0, none⟩)) := hh.did 0 _ 115 rfl rfl (hd { on := 0, ground := .data } (by simp) rfl)
                  have g117 : a1.tmps[117]? = some (.int .i64 ot) := hh.did 2 _ 117 rfl rfl (hd { on := 2, ground := .data } (by simp) rfl)
                  have g119 : a1.tmps[119]? = some (.int .i64 os) := hh.did 4 _ 119 rfl rfl (hd { on := 4, ground := .data } (by simp) rfl)
                  clear hh hd
                  have HO : Hid (Own u ob 32 [.int .i64 ok, .int .i64 ot, .int .i64 os, .bool of]) := hj.own
                  have t := hj.two
                  simp only [hi, Bool.false_eq_true, if_false] at t
                  have CA : Hid (Calls _ _ _ _ _) := two_fst t (fun g c tt => hans_any ot os _ tt HC.out.2)
                  rw [HV.out.1, HV.out.2] at CA
                  clear hj hi t
                  refine wpOp_step rfl (fun K hK => ?_)
                  go_simp
                  refine CA.out.mono ?_
                  rintro e u' ⟨rfl, t, o⟩
                  exact hK _ _ ⟨by simp [Act.put], CJ.call1 (o _ _ HO.out) t (by decide)⟩
                | 6, ho, hi, hd =>
                  simp only [List.getElem?_cons_succ, List.getElem?_cons_zero, Option.some.injEq] at ho
                  subst ho
                  have g7 : a1.tmps[7]? = some (.pointer (some ⟨b', 0, none⟩)) := hh.old 7 (by kernel_rfl) rfl
                  clear hh hd
                  have HN : Hid (CJ 5 11 w u b b' S S2 ob [.int .i64 ok, .int .i64 ot, .int .i64 os, .bool of] (done d 6)) := hj.plain 6 (by decide) (by decide)
                  clear hj hi
                  refine wpOp_step rfl (fun K hK => ?_)
                  go_simp
                  exact hK _ _ ⟨by simp [Act.put], HN.out⟩
                | 7, ho, hi, hd =>
                  simp only [List.getElem?_cons_succ, List.getElem?_cons_zero, Option.some.injEq] at ho
                  subst ho
                  have g10 : a1.tmps[10]? = some (.pointer (some ⟨ob, 0, none⟩)) := hh.old 10 (by kernel_rfl) rfl
                  clear hh hd
                  have HN : Hid (CJ 5 11 w u b b' S S2 ob [.int .i64 ok, .int .i64 ot, .int .i64 os, .bool of] (done d 7)) := hj.plain 7 (by decide) (by decide)
                  clear hj hi
                  refine wpOp_step rfl (fun K hK => ?_)
                  go_simp
                  exact hK _ _ ⟨by simp [Act.put], HN.out⟩
                | 8, ho, hi, hd =>
                  simp only [List.getElem?_cons_succ, List.getElem?_cons_zero, Option.some.injEq] at ho
                  subst ho
                  have g122 : a1.tmps[122]? = some (.pointer (some ⟨ob, 1, none⟩)) := hh.did 7 _ 122 rfl rfl (hd { on := 7, ground := .data } (by simp) rfl)
                  have cc := hj.own.blk.at 1 rfl
                  clear hh hd
                  have HN : Hid (CJ 5 11 w u b b' S S2 ob [.int .i64 ok, .int .i64 ot, .int .i64 os, .bool of] (done d 8)) := hj.plain 8 (by decide) (by decide)
                  clear hj hi
                  refine wpOp_step rfl (fun K hK => ?_)
                  go_simp
                  exact hK _ _ ⟨by simp [Act.put], HN.out⟩
                | 9, ho, hi, hd =>
                  simp only [List.getElem?_cons_succ, List.getElem?_cons_zero, Option.some.injEq] at ho
                  subst ho
                  have g10 : a1.tmps[10]? = some (.pointer (some ⟨ob, 0, none⟩)) := hh.old 10 (by kernel_rfl) rfl
                  clear hh hd
                  have HN : Hid (CJ 5 11 w u b b' S S2 ob [.int .i64 ok, .int .i64 ot, .int .i64 os, .bool of] (done d 9)) := hj.plain 9 (by decide) (by decide)
                  clear hj hi
                  refine wpOp_step rfl (fun K hK => ?_)
                  go_simp
                  exact hK _ _ ⟨by simp [Act.put], HN.out⟩
                | 10, ho, hi, hd =>
                  simp only [List.getElem?_cons_succ, List.getElem?_cons_zero, Option.some.injEq] at ho
                  subst ho
                  have g124 : a1.tmps[124]? = some (.pointer (some ⟨ob, 2, none⟩)) := hh.did 9 _ 124 rfl rfl (hd { on := 9, ground := .data } (by simp) rfl)
                  have cc := hj.own.blk.at 2 rfl
                  clear hh hd
                  have HN : Hid (CJ 5 11 w u b b' S S2 ob [.int .i64 ok, .int .i64 ot, .int .i64 os, .bool of] (done d 10)) := hj.plain 10 (by decide) (by decide)
                  clear hj hi
                  refine wpOp_step rfl (fun K hK => ?_)
                  go_simp
                  exact hK _ _ ⟨by simp [Act.put], HN.out⟩
                | 11, ho, hi, hd =>
                  simp only [List.getElem?_cons_succ, List.getElem?_cons_zero, Option.some.injEq] at ho
                  subst ho
                  have g121 : a1.tmps[121]? = some (.pointer (some ⟨b', 0, none⟩)) := hh.did 6 _ 121 rfl rfl (hd { on := 6, ground := .data } (by simp) rfl)
                  have g123 : a1.tmps[123]? = some (.int .i64 ot) := hh.did 8 _ 123 rfl rfl (hd { on := 8, ground := .data } (by simp) rfl)
                  have g125 : a1.tmps[125]? = some (.int .i64 os) := hh.did 10 _ 125 rfl rfl (hd { on := 10, ground := .data } (by simp) rfl)
                  clear hh hd
                  have HO : Hid (Own u ob 32 [.int .i64 ok, .int .i64 ot, .int .i64 os, .bool of]) := hj.own
                  have t := hj.two
                  simp only [hi, Bool.false_eq_true, if_false] at t
                  have CA : Hid (Calls _ _ _ _ _) := two_snd t (fun g c tt => rans_any ot os _ tt HC.out.2)
                  rw [HV.out.1, HV.out.2] at CA
                  clear hj hi t
                  refine wpOp_step rfl (fun K hK => ?_)
                  go_simp
                  refine CA.out.mono ?_
                  rintro e u' ⟨rfl, t, o⟩
                  exact hK _ _ ⟨by simp [Act.put], CJ.call2 (o _ _ HO.out) t (by decide)⟩
                | 12, ho, hi, hd =>
                  simp only [List.getElem?_cons_succ, List.getElem?_cons_zero, Option.some.injEq] at ho
                  subst ho
                  have g120 : a1.tmps[120]? = some (.bool vv) := hh.did 5 _ 120 rfl rfl (hd { on := 5, ground := .data } (by simp) rfl)
                  have g126 : a1.tmps[126]? = some (.bool vv) := hh.did 11 _ 126 rfl rfl (hd { on := 11, ground := .data } (by simp) rfl)
                  have zz : (vv == vv) = true := by simp
                  clear hh hd
                  have HN : Hid (CJ 5 11 w u b b' S S2 ob [.int .i64 ok, .int .i64 ot, .int .i64 os, .bool of] (done d 12)) := hj.plain 12 (by decide) (by decide)
                  clear hj hi
                  refine wpOp_step rfl (fun K hK => ?_)
                  go_simp
                  exact hK _ _ ⟨by simp [Act.put], HN.out⟩
                | 13, ho, hi, hd =>
                  simp only [List.getElem?_cons_succ, List.getElem?_cons_zero, Option.some.injEq] at ho
                  subst ho
                  have g127 : a1.tmps[127]? = some (.bool true) := hh.did 12 _ 127 rfl rfl (hd { on := 12, ground := .data } (by simp) rfl)
                  clear hh hd
                  have HN : Hid (CJ 5 11 w u b b' S S2 ob [.int .i64 ok, .int .i64 ot, .int .i64 os, .bool of] (done d 13)) := hj.plain 13 (by decide) (by decide)
                  clear hj hi
                  refine wpOp_step rfl (fun K hK => ?_)
                  go_simp
                  exact hK _ _ ⟨by simp [Act.put], HN.out⟩
                | n + 14, ho, hi, hd => simp at ho
              · intro u d hall hj
                have t := hj.two
                have h1 := hall 5 (by decide)
                have h2 := hall 11 (by decide)
                rw [h1, h2] at t
                have HE : Hid (Two w u b b' S2 S2 ∧ S2.ct ≤ (j : Int) + 1 ∧ Own u ob 32 [.int .i64 ok, .int .i64 ot, .int .i64 os, .bool of]) := ⟨t, by rw [← HV.out.2, Hs.ans_ct]; have := HC.out.1; omega, hj.own⟩
                clear hall hj t h1 h2
                simp only [List.getD_cons_succ, List.getD_cons_zero]
                go_wp2
                go_meet
                case rel => exact ⟨rfl, _, HE.out⟩
            · have g2 : (ok == 2) = false := by simpa using h2
              clear h2
              by_cases h3 : ok = 3
              · have g3 : (ok == 3) = true := by simpa using h3
                clear h3
                obtain ⟨S2, hS2⟩ : ∃ S2, S.tick = S2 := ⟨_, rfl⟩
                obtain ⟨vv, hvv⟩ : ∃ vv, S.poll ot = vv := ⟨_, rfl⟩
                have HV : Hid (S.poll ot = vv ∧ S.tick = S2) := ⟨hvv, hS2⟩
                clear hS2 hvv
                go_upto_region 22 with fail
                refine wp_region_phase [(.pointer (some ⟨b, 0, none⟩)), (.pointer (some ⟨ob, 1, none⟩)), (.int .i64 ot), (.bool vv), (.pointer (some ⟨b', 0, none⟩)), (.pointer (some ⟨ob, 1, none⟩)), (.int .i64 ot), (.bool vv), (.bool true), (.bool true)] [(11, 9), (130, 0), (131, 1), (132, 2), (133, 3), (134, 4), (135, 5), (136, 6), (137, 7), (138, 8)] [_, _, _, _, _, _, _, _, _, _, _, _, _, _, _, _, _, _, _, _, _, _, _, _, _, _, _, _, _, _, _, _, _, _, _, _, _, _, _, _, _, _, _, _, _, _, _, _, _, _, _, _, _, _, _, _, _, _, _, _, _, _, _, _, _, _, _, _, _, _, _, _, _, _, _, _, _, _, _, _, _, _, _, _, _, _, _, _, _, _, _, _, _, _, _, _, _, _, _, _, _, _, _, _, _, _, _, _, _, _, _, _, _, _, _, _, _, _, _, _, _, _, _, _, _, _, _, _, _, _, _, _, _, _, _, _, _, _, _, _, _, _, _, _, _, _, _, _, _, _, _, _, _, _, _, _, _, _, _, _, _, _, _, _, _, _, _, _, _, _, _, _, _, _, _, _, _, _, _, _, _, _, _, _, _, _, _, _, _, _, _, _, _, _, _, _, _, _, _, _, _, _, _, _] (fun d u => CJ 3 7 w u b b' S S2 ob [.int .i64 ok, .int .i64 ot, .int .i64 os, .bool of] d) (by kernel_rfl) (by kernel_rfl) (by kernel_rfl) (by kernel_rfl) rfl ?_ ?_ ?_
                · exact ⟨BO.out.kept (Kept.refl _).drew, by simpa using HW.out.still (Kept.refl _).drew⟩
                · intro i1 o ho a1 d u hh hj hi hd
                  match i1, ho, hi, hd with
                  | 0, ho, hi, hd =>
                    simp only [List.getElem?_cons_zero, Option.some.injEq] at ho
                    subst ho
                    have g5 : a1.tmps[5]? = some (.pointer (some ⟨b, 0, none⟩)) := hh.old 5 (by kernel_rfl) rfl
                    clear hh hd
                    have HN : Hid (CJ 3 7 w u b b' S S2 ob [.int .i64 ok, .int .i64 ot, .int .i64 os, .bool of] (done d 0)) := hj.plain 0 (by decide) (by decide)
                    clear hj hi
                    refine wpOp_step rfl (fun K hK => ?_)
                    go_simp
                    exact hK _ _ ⟨by simp [Act.put], HN.out⟩
                  | 1, ho, hi, hd =>
                    simp only [List.getElem?_cons_succ, List.getElem?_cons_zero, Option.some.injEq] at ho
                    subst ho
                    have g10 : a1.tmps[10]? = some (.pointer (some ⟨ob, 0, none⟩)) := hh.old 10 (by kernel_rfl) rfl
                    clear hh hd
                    have HN : Hid (CJ 3 7 w u b b' S S2 ob [.int .i64 ok, .int .i64 ot, .int .i64 os, .bool of] (done d 1)) := hj.plain 1 (by decide) (by decide)
                    clear hj hi
                    refine wpOp_step rfl (fun K hK => ?_)
                    go_simp
                    exact hK _ _ ⟨by simp [Act.put], HN.out⟩
                  | 2, ho, hi, hd =>
                    simp only [List.getElem?_cons_succ, List.getElem?_cons_zero, Option.some.injEq] at ho
                    subst ho
                    have g131 : a1.tmps[131]? = some (.pointer (some ⟨ob, 1, none⟩)) := hh.did 1 _ 131 rfl rfl (hd { on := 1, ground := .data } (by simp) rfl)
                    have cc := hj.own.blk.at 1 rfl
                    clear hh hd
                    have HN : Hid (CJ 3 7 w u b b' S S2 ob [.int .i64 ok, .int .i64 ot, .int .i64 os, .bool of] (done d 2)) := hj.plain 2 (by decide) (by decide)
                    clear hj hi
                    refine wpOp_step rfl (fun K hK => ?_)
                    go_simp
                    exact hK _ _ ⟨by simp [Act.put], HN.out⟩
                  | 3, ho, hi, hd =>
                    simp only [List.getElem?_cons_succ, List.getElem?_cons_zero, Option.some.injEq] at ho
                    subst ho
                    have g130 : a1.tmps[130]? = some (.pointer (some ⟨b, 0, none⟩)) := hh.did 0 _ 130 rfl rfl (hd { on := 0, ground := .data } (by simp) rfl)
                    have g132 : a1.tmps[132]? = some (.int .i64 ot) := hh.did 2 _ 132 rfl rfl (hd { on := 2, ground := .data } (by simp) rfl)
                    clear hh hd
                    have HO : Hid (Own u ob 32 [.int .i64 ok, .int .i64 ot, .int .i64 os, .bool of]) := hj.own
                    have t := hj.two
                    simp only [hi, Bool.false_eq_true, if_false] at t
                    have CA : Hid (Calls _ _ _ _ _) := two_fst t (fun g c tt => hpoll_any ot _ tt HC.out.2)
                    rw [HV.out.1, HV.out.2] at CA
                    clear hj hi t
                    refine wpOp_step rfl (fun K hK => ?_)
                    go_simp
                    refine CA.out.mono ?_
                    rintro e u' ⟨rfl, t, o⟩
                    exact hK _ _ ⟨by simp [Act.put], CJ.call1 (o _ _ HO.out) t (by decide)⟩
                  | 4, ho, hi, hd =>
                    simp only [List.getElem?_cons_succ, List.getElem?_cons_zero, Option.some.injEq] at ho
                    subst ho
                    have g7 : a1.tmps[7]? = some (.pointer (some ⟨b', 0, none⟩)) := hh.old 7 (by kernel_rfl) rfl
                    clear hh hd
                    have HN : Hid (CJ 3 7 w u b b' S S2 ob [.int .i64 ok, .int .i64 ot, .int .i64 os, .bool of] (done d 4)) := hj.plain 4 (by decide) (by decide)
                    clear hj hi
                    refine wpOp_step rfl (fun K hK => ?_)
                    go_simp
                    exact hK _ _ ⟨by simp [Act.put], HN.out⟩
                  | 5, ho, hi, hd =>
                    simp only [List.getElem?_cons_succ, List.getElem?_cons_zero, Option.some.injEq] at ho
                    subst ho
                    have g10 : a1.tmps[10]? = some (.pointer (some ⟨ob, 0, none⟩)) := hh.old 10 (by kernel_rfl) rfl
                    clear hh hd
                    have HN : Hid (CJ 3 7 w u b b' S S2 ob [.int .i64 ok, .int .i64 ot, .int .i64 os, .bool of] (done d 5)) := hj.plain 5 (by decide) (by decide)
                    clear hj hi
                    refine wpOp_step rfl (fun K hK => ?_)
                    go_simp
                    exact hK _ _ ⟨by simp [Act.put], HN.out⟩
                  | 6, ho, hi, hd =>
                    simp only [List.getElem?_cons_succ, List.getElem?_cons_zero, Option.some.injEq] at ho
                    subst ho
                    have g135 : a1.tmps[135]? = some (.pointer (some ⟨ob, 1, none⟩)) := hh.did 5 _ 135 rfl rfl (hd { on := 5, ground := .data } (by simp) rfl)
                    have cc := hj.own.blk.at 1 rfl
                    clear hh hd
                    have HN : Hid (CJ 3 7 w u b b' S S2 ob [.int .i64 ok, .int .i64 ot, .int .i64 os, .bool of] (done d 6)) := hj.plain 6 (by decide) (by decide)
                    clear hj hi
                    refine wpOp_step rfl (fun K hK => ?_)
                    go_simp
                    exact hK _ _ ⟨by simp [Act.put], HN.out⟩
                  | 7, ho, hi, hd =>
                    simp only [List.getElem?_cons_succ, List.getElem?_cons_zero, Option.some.injEq] at ho
                    subst ho
                    have g134 : a1.tmps[134]? = some (.pointer (some ⟨b', 0, none⟩)) := hh.did 4 _ 134 rfl rfl (hd { on := 4, ground := .data } (by simp) rfl)
                    have g136 : a1.tmps[136]? = some (.int .i64 ot) := hh.did 6 _ 136 rfl rfl (hd { on := 6, ground := .data } (by simp) rfl)
                    clear hh hd
                    have HO : Hid (Own u ob 32 [.int .i64 ok, .int .i64 ot, .int .i64 os, .bool of]) := hj.own
                    have t := hj.two
                    simp only [hi, Bool.false_eq_true, if_false] at t
                    have CA : Hid (Calls _ _ _ _ _) := two_snd t (fun g c tt => rpoll_any ot _ tt HC.out.2)
                    rw [HV.out.1, HV.out.2] at CA
                    clear hj hi t
                    refine wpOp_step rfl (fun K hK => ?_)
                    go_simp
                    refine CA.out.mono ?_
                    rintro e u' ⟨rfl, t, o⟩
                    exact hK _ _ ⟨by simp [Act.put], CJ.call2 (o _ _ HO.out) t (by decide)⟩
                  | 8, ho, hi, hd =>
                    simp only [List.getElem?_cons_succ, List.getElem?_cons_zero, Option.some.injEq] at ho
                    subst ho
                    have g133 : a1.tmps[133]? = some (.bool vv) := hh.did 3 _ 133 rfl rfl (hd { on := 3, ground := .data } (by simp) rfl)
                    have g137 : a1.tmps[137]? = some (.bool vv) := hh.did 7 _ 137 rfl rfl (hd { on := 7, ground := .data } (by simp) rfl)
                    have zz : (vv == vv) = true := by simp
                    clear hh hd
                    have HN : Hid (CJ 3 7 w u b b' S S2 ob [.int .i64 ok, .int .i64 ot, .int .i64 os, .bool of] (done d 8)) := hj.plain 8 (by decide) (by decide)
                    clear hj hi
                    refine wpOp_step rfl (fun K hK => ?_)
                    go_simp
                    exact hK _ _ ⟨by simp [Act.put], HN.out⟩
                  | 9, ho, hi, hd =>
                    simp only [List.getElem?_cons_succ, List.getElem?_cons_zero, Option.some.injEq] at ho
                    subst ho
                    have g138 : a1.tmps[138]? = some (.bool true) := hh.did 8 _ 138 rfl rfl (hd { on := 8, ground := .data } (by simp) rfl)
                    clear hh hd
                    have HN : Hid (CJ 3 7 w u b b' S S2 ob [.int .i64 ok, .int .i64 ot, .int .i64 os, .bool of] (done d 9)) := hj.plain 9 (by decide) (by decide)
                    clear hj hi
                    refine wpOp_step rfl (fun K hK => ?_)
                    go_simp
                    exact hK _ _ ⟨by simp [Act.put], HN.out⟩
                  | n + 10, ho, hi, hd => simp at ho
                · intro u d hall hj
                  have t := hj.two
                  have h1 := hall 3 (by decide)
                  have h2 := hall 7 (by decide)
                  rw [h1, h2] at t
                  have HE : Hid (Two w u b b' S2 S2 ∧ S2.ct ≤ (j : Int) + 1 ∧ Own u ob 32 [.int .i64 ok, .int .i64 ot, .int .i64 os, .bool of]) := ⟨t, by rw [← HV.out.2, Hs.tick_ct]; have := HC.out.1; omega, hj.own⟩
                  clear hall hj t h1 h2
                  simp only [List.getD_cons_succ, List.getD_cons_zero]
                  go_wp2
                  go_meet
                  case rel => exact ⟨rfl, _, HE.out⟩
              · have g3 : (ok == 3) = false := by simpa using h3
                clear h3
                by_cases h4 : ok = 4
                · have g4 : (ok == 4) = true := by simpa using h4
                  clear h4
                  have K : Hid (Calls _ _ _ _ _) := two_fst HW.out (fun g c t => hjoin_any ot _ t HC.out.2)
                  have ct := BO.out.blk.at 1 rfl
                  go_wp2_with fail
                  refine K.out.mono ?_
                  rintro e w4 ⟨rfl, t4, o4⟩
                  have H4 : Hid (Two w w4 b b' (S.join ot) S ∧ Own w4 ob 32 [.int .i64 ok, .int .i64 ot, .int .i64 os, .bool of]) := ⟨t4, o4 _ _ BO.out⟩
                  clear t4 o4 K ct
                  have ct := H4.out.2.blk.at 1 rfl
                  have K : Hid (Calls _ _ _ _ _) := two_snd H4.out.1 (fun g c t => rjoin_any ot _ t HC.out.2)
                  go_wp2_with fail
                  refine K.out.mono ?_
                  rintro e w5 ⟨rfl, t5, o5⟩
                  have H5 : Hid (Two w w5 b b' (S.join ot) (S.join ot) ∧ (S.join ot).ct ≤ (j : Int) + 1 ∧ Own w5 ob 32 [.int .i64 ok, .int .i64 ot, .int .i64 os, .bool of]) := ⟨t5, by rw [Hs.join_ct]; have := HC.out.1; omega, o5 _ _ H4.out.2⟩
                  clear t5 o5 K H4 HW BO ct
                  generalize S.join ot = S2 at *
                  generalize S.jst ot = ja at *
                  generalize S.jse ot = jb at *
                  generalize S.can ot = jc at *
                  have z1 : (ja == ja) = true := by simp
                  have z2 : (jb == jb) = true := by simp
                  have z3 : (jc == jc) = true := by simp
                  go_wp2
                  go_meet
                  case rel => exact ⟨rfl, _, H5.out⟩
                · have g4 : (ok == 4) = false := by simpa using h4
                  clear h4
                  by_cases h5 : ok = 5
                  · have g5 : (ok == 5) = true := by simpa using h5
                    clear h5
                    obtain ⟨S2, hS2⟩ : ∃ S2, S.leave ot = S2 := ⟨_, rfl⟩
                    obtain ⟨vv, hvv⟩ : ∃ vv, S.is ot = vv := ⟨_, rfl⟩
                    have HV : Hid (S.is ot = vv ∧ S.leave ot = S2) := ⟨hvv, hS2⟩
                    clear hS2 hvv
                    go_upto_region 28 with fail
                    refine wp_region_phase [(.pointer (some ⟨b, 0, none⟩)), (.pointer (some ⟨ob, 1, none⟩)), (.int .i64 ot), (.bool vv), (.pointer (some ⟨b', 0, none⟩)), (.pointer (some ⟨ob, 1, none⟩)), (.int .i64 ot), (.bool vv), (.bool true), (.bool true)] [(11, 9), (172, 0), (173, 1), (174, 2), (175, 3), (176, 4), (177, 5), (178, 6), (179, 7), (180, 8)] [_, _, _, _, _, _, _, _, _, _, _, _, _, _, _, _, _, _, _, _, _, _, _, _, _, _, _, _, _, _, _, _, _, _, _, _, _, _, _, _, _, _, _, _, _, _, _, _, _, _, _, _, _, _, _, _, _, _, _, _, _, _, _, _, _, _, _, _, _, _, _, _, _, _, _, _, _, _, _, _, _, _, _, _, _, _, _, _, _, _, _, _, _, _, _, _, _, _, _, _, _, _, _, _, _, _, _, _, _, _, _, _, _, _, _, _, _, _, _, _, _, _, _, _, _, _, _, _, _, _, _, _, _, _, _, _, _, _, _, _, _, _, _, _, _, _, _, _, _, _, _, _, _, _, _, _, _, _, _, _, _, _, _, _, _, _, _, _, _, _, _, _, _, _, _, _, _, _, _, _, _, _, _, _, _, _, _, _, _, _, _, _, _, _, _, _, _, _, _, _, _, _, _, _] (fun d u => CJ 3 7 w u b b' S S2 ob [.int .i64 ok, .int .i64 ot, .int .i64 os, .bool of] d) (by kernel_rfl) (by kernel_rfl) (by kernel_rfl) (by kernel_rfl) rfl ?_ ?_ ?_
                    · exact ⟨BO.out.kept (Kept.refl _).drew, by simpa using HW.out.still (Kept.refl _).drew⟩
                    · intro i1 o ho a1 d u hh hj hi hd
                      match i1, ho, hi, hd with
                      | 0, ho, hi, hd =>
                        simp only [List.getElem?_cons_zero, Option.some.injEq] at ho
                        subst ho
                        have g5 : a1.tmps[5]? = some (.pointer (some ⟨b, 0, none⟩)) := hh.old 5 (by kernel_rfl) rfl
                        clear hh hd
                        have HN : Hid (CJ 3 7 w u b b' S S2 ob [.int .i64 ok, .int .i64 ot, .int .i64 os, .bool of] (done d 0)) := hj.plain 0 (by decide) (by decide)
                        clear hj hi
                        refine wpOp_step rfl (fun K hK => ?_)
                        go_simp
                        exact hK _ _ ⟨by simp [Act.put], HN.out⟩
                      | 1, ho, hi, hd =>
                        simp only [List.getElem?_cons_succ, List.getElem?_cons_zero, Option.some.injEq] at ho
                        subst ho
                        have g10 : a1.tmps[10]? = some (.pointer (some ⟨ob, 0, none⟩)) := hh.old 10 (by kernel_rfl) rfl
                        clear hh hd
                        have HN : Hid (CJ 3 7 w u b b' S S2 ob [.int .i64 ok, .int .i64 ot, .int .i64 os, .bool of] (done d 1)) := hj.plain 1 (by decide) (by decide)
                        clear hj hi
                        refine wpOp_step rfl (fun K hK => ?_)
                        go_simp
                        exact hK _ _ ⟨by simp [Act.put], HN.out⟩
                      | 2, ho, hi, hd =>
                        simp only [List.getElem?_cons_succ, List.getElem?_cons_zero, Option.some.injEq] at ho
                        subst ho
                        have g173 : a1.tmps[173]? = some (.pointer (some ⟨ob, 1, none⟩)) := hh.did 1 _ 173 rfl rfl (hd { on := 1, ground := .data } (by simp) rfl)
                        have cc := hj.own.blk.at 1 rfl
                        clear hh hd
                        have HN : Hid (CJ 3 7 w u b b' S S2 ob [.int .i64 ok, .int .i64 ot, .int .i64 os, .bool of] (done d 2)) := hj.plain 2 (by decide) (by decide)
                        clear hj hi
                        refine wpOp_step rfl (fun K hK => ?_)
                        go_simp
                        exact hK _ _ ⟨by simp [Act.put], HN.out⟩
                      | 3, ho, hi, hd =>
                        simp only [List.getElem?_cons_succ, List.getElem?_cons_zero, Option.some.injEq] at ho
                        subst ho
                        have g172 : a1.tmps[172]? = some (.pointer (some ⟨b, 0, none⟩)) := hh.did 0 _ 172 rfl rfl (hd { on := 0, ground := .data } (by simp) rfl)
                        have g174 : a1.tmps[174]? = some (.int .i64 ot) := hh.did 2 _ 174 rfl rfl (hd { on := 2, ground := .data } (by simp) rfl)
                        clear hh hd
                        have HO : Hid (Own u ob 32 [.int .i64 ok, .int .i64 ot, .int .i64 os, .bool of]) := hj.own
                        have t := hj.two
                        simp only [hi, Bool.false_eq_true, if_false] at t
                        have CA : Hid (Calls _ _ _ _ _) := two_fst t (fun g c tt => hleave_any ot _ tt HC.out.2)
                        rw [HV.out.1, HV.out.2] at CA
                        clear hj hi t
                        refine wpOp_step rfl (fun K hK => ?_)
                        go_simp
                        refine CA.out.mono ?_
                        rintro e u' ⟨rfl, t, o⟩
                        exact hK _ _ ⟨by simp [Act.put], CJ.call1 (o _ _ HO.out) t (by decide)⟩
                      | 4, ho, hi, hd =>
                        simp only [List.getElem?_cons_succ, List.getElem?_cons_zero, Option.some.injEq] at ho
                        subst ho
                        have g7 : a1.tmps[7]? = some (.pointer (some ⟨b', 0, none⟩)) := hh.old 7 (by kernel_rfl) rfl
                        clear hh hd
                        have HN : Hid (CJ 3 7 w u b b' S S2 ob [.int .i64 ok, .int .i64 ot, .int .i64 os, .bool of] (done d 4)) := hj.plain 4 (by decide) (by decide)
                        clear hj hi
                        refine wpOp_step rfl (fun K hK => ?_)
                        go_simp
                        exact hK _ _ ⟨by simp [Act.put], HN.out⟩
                      | 5, ho, hi, hd =>
                        simp only [List.getElem?_cons_succ, List.getElem?_cons_zero, Option.some.injEq] at ho
                        subst ho
                        have g10 : a1.tmps[10]? = some (.pointer (some ⟨ob, 0, none⟩)) := hh.old 10 (by kernel_rfl) rfl
                        clear hh hd
                        have HN : Hid (CJ 3 7 w u b b' S S2 ob [.int .i64 ok, .int .i64 ot, .int .i64 os, .bool of] (done d 5)) := hj.plain 5 (by decide) (by decide)
                        clear hj hi
                        refine wpOp_step rfl (fun K hK => ?_)
                        go_simp
                        exact hK _ _ ⟨by simp [Act.put], HN.out⟩
                      | 6, ho, hi, hd =>
                        simp only [List.getElem?_cons_succ, List.getElem?_cons_zero, Option.some.injEq] at ho
                        subst ho
                        have g177 : a1.tmps[177]? = some (.pointer (some ⟨ob, 1, none⟩)) := hh.did 5 _ 177 rfl rfl (hd { on := 5, ground := .data } (by simp) rfl)
                        have cc := hj.own.blk.at 1 rfl
                        clear hh hd
                        have HN : Hid (CJ 3 7 w u b b' S S2 ob [.int .i64 ok, .int .i64 ot, .int .i64 os, .bool of] (done d 6)) := hj.plain 6 (by decide) (by decide)
                        clear hj hi
                        refine wpOp_step rfl (fun K hK => ?_)
                        go_simp
                        exact hK _ _ ⟨by simp [Act.put], HN.out⟩
                      | 7, ho, hi, hd =>
                        simp only [List.getElem?_cons_succ, List.getElem?_cons_zero, Option.some.injEq] at ho
                        subst ho
                        have g176 : a1.tmps[176]? = some (.pointer (some ⟨b', 0, none⟩)) := hh.did 4 _ 176 rfl rfl (hd { on := 4, ground := .data } (by simp) rfl)
                        have g178 : a1.tmps[178]? = some (.int .i64 ot) := hh.did 6 _ 178 rfl rfl (hd { on := 6, ground := .data } (by simp) rfl)
                        clear hh hd
                        have HO : Hid (Own u ob 32 [.int .i64 ok, .int .i64 ot, .int .i64 os, .bool of]) := hj.own
                        have t := hj.two
                        simp only [hi, Bool.false_eq_true, if_false] at t
                        have CA : Hid (Calls _ _ _ _ _) := two_snd t (fun g c tt => rleave_any ot _ tt HC.out.2)
                        rw [HV.out.1, HV.out.2] at CA
                        clear hj hi t
                        refine wpOp_step rfl (fun K hK => ?_)
                        go_simp
                        refine CA.out.mono ?_
                        rintro e u' ⟨rfl, t, o⟩
                        exact hK _ _ ⟨by simp [Act.put], CJ.call2 (o _ _ HO.out) t (by decide)⟩
                      | 8, ho, hi, hd =>
                        simp only [List.getElem?_cons_succ, List.getElem?_cons_zero, Option.some.injEq] at ho
                        subst ho
                        have g175 : a1.tmps[175]? = some (.bool vv) := hh.did 3 _ 175 rfl rfl (hd { on := 3, ground := .data } (by simp) rfl)
                        have g179 : a1.tmps[179]? = some (.bool vv) := hh.did 7 _ 179 rfl rfl (hd { on := 7, ground := .data } (by simp) rfl)
                        have zz : (vv == vv) = true := by simp
                        clear hh hd
                        have HN : Hid (CJ 3 7 w u b b' S S2 ob [.int .i64 ok, .int .i64 ot, .int .i64 os, .bool of] (done d 8)) := hj.plain 8 (by decide) (by decide)
                        clear hj hi
                        refine wpOp_step rfl (fun K hK => ?_)
                        go_simp
                        exact hK _ _ ⟨by simp [Act.put], HN.out⟩
                      | 9, ho, hi, hd =>
                        simp only [List.getElem?_cons_succ, List.getElem?_cons_zero, Option.some.injEq] at ho
                        subst ho
                        have g180 : a1.tmps[180]? = some (.bool true) := hh.did 8 _ 180 rfl rfl (hd { on := 8, ground := .data } (by simp) rfl)
                        clear hh hd
                        have HN : Hid (CJ 3 7 w u b b' S S2 ob [.int .i64 ok, .int .i64 ot, .int .i64 os, .bool of] (done d 9)) := hj.plain 9 (by decide) (by decide)
                        clear hj hi
                        refine wpOp_step rfl (fun K hK => ?_)
                        go_simp
                        exact hK _ _ ⟨by simp [Act.put], HN.out⟩
                      | n + 10, ho, hi, hd => simp at ho
                    · intro u d hall hj
                      have t := hj.two
                      have h1 := hall 3 (by decide)
                      have h2 := hall 7 (by decide)
                      rw [h1, h2] at t
                      have HE : Hid (Two w u b b' S2 S2 ∧ S2.ct ≤ (j : Int) + 1 ∧ Own u ob 32 [.int .i64 ok, .int .i64 ot, .int .i64 os, .bool of]) := ⟨t, by rw [← HV.out.2, Hs.leave_ct]; have := HC.out.1; omega, hj.own⟩
                      clear hall hj t h1 h2
                      simp only [List.getD_cons_succ, List.getD_cons_zero]
                      go_wp2
                      go_meet
                      case rel => exact ⟨rfl, _, HE.out⟩
                  · have g5 : (ok == 5) = false := by simpa using h5
                    clear h5
                    have H5 : Hid (Two w W b b' S S ∧ S.ct ≤ (j : Int) + 1 ∧ Own W ob 32 [.int .i64 ok, .int .i64 ot, .int .i64 os, .bool of]) := ⟨HW.out, by have := HC.out.1; omega, BO.out⟩
                    clear HW BO
                    go_wp2
                    go_meet
                    case rel => exact ⟨rfl, _, H5.out⟩
      case rest =>
        clear HW BO HC
        obtain ⟨rfl, S, HC⟩ := hcut
        have C1 : Hid (∀ q : KW wc, _) := fun q => tw_own ot (HC.out.1.still q.ok)
        have C2 : Hid (∀ q : KW wc, _) := fun q => tw_rown ot (HC.out.1.still q.ok)
        have C3 : Hid (∀ q : KW wc, _) := fun q => tw_count (HC.out.1.still q.ok)
        have d2 : ∀ q : KW wc, q.it.cell? ⟨ob, 1, none⟩ = some (.int .i64 ot) := fun q => (HC.out.2.2.kept q.ok).blk.at 1 rfl
        have d3 : ∀ q : KW wc, q.it.cell? ⟨b', 3, none⟩ = some (.int .i64 S.ct) := fun q => (HC.out.1.still q.ok).c3
        have z1 : (S.own ot != S.own ot) = false := by simp
        have z2 : (S.ct != S.ct) = false := by simp
        go_upto_region 29 with fail
        refine wp_region_kept (by kernel_rfl) (by kernel_rfl) fun _ => ?_
        repeat (go_big_quiet_step (first | (go_at_call 22; exact kept_of_same (C1.out _)) | (go_at_call 23; exact kept_of_same (C2.out _)) | (go_at_call 24; exact kept_of_same (C3.out _))))
        refine wpQuiet_nil ?_
        rintro _ ⟨q, rfl⟩
        have HZ : Hid (Two w q.it b b' S S ∧ S.ct ≤ ((j + 1 : Nat) : Int)) := ⟨HC.out.1.still q.ok, by have := HC.out.2.1; omega⟩
        clear d2 d3 C1 C2 C3 HC
        go_wp2
        go_roundg (l - (j + 1))
        all_goals (have := HM.out; try omega)
        exact ⟨j + 1, S, by go_num, by omega, by omega, HZ.out⟩
    · obtain rfl : l = j := by omega
      have K2 : Hid (Kept w wr) := HR.out.1.kept
      clear HR HM HX
      go_wp2_with fail
      refine (first_any _).mono ?_
      rintro e w9 ⟨rfl, k9⟩
      have K9 : Hid (Kept w w9) := K2.out.trans k9
      clear k9
      go_wp2
      go_ret
      exact ⟨rfl, K9.out⟩

theorem handPlays_any (n0 : Int) (x1 : Option Addr) (l1 c1 : Nat) (L1 : Nat → Op18) (w : World) (_lo0 : IntKind.min .i64 ≤ n0) (_hi0 : n0 ≤ IntKind.max .i64) (_h1c : l1 ≤ c1) (hL1 : Ops w x1 l1 L1) :
    Calls Try.prog 3 #[.int .i64 n0, .slice x1 l1 c1] w fun e w' => e = .returned (.bool true) ∧ Kept w w' := by
  by_cases hn : 1 ≤ n0 ∧ n0 ≤ 16
  · obtain ⟨n, rfl⟩ : ∃ n : Nat, n0 = n := ⟨n0.toNat, by omega⟩
    by_cases ho : 500 < (l1 : Int)
    · exact plays_out n x1 l1 c1 w hn.1 hn.2 ho
    · exact plays_in n x1 l1 c1 L1 w hL1 hn.1 hn.2 (by omega)
  · exact plays_bad n0 x1 l1 c1 w hn
end Go.Proofs.Ytemaaefcnadmfaa
