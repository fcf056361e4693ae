/-
  PoolPlays: the walk.
-/
import Derived.Test.YtpgmlnihgnomcaaRef8b
import Derived.Test.YtpgmlnihgnomcaaFirst8
import Derived.Test.YtpgmlnihgnomcaaOpen8
import Derived.Test.YtpgmlnihgnomcaaMix
import Derived.Deep.CutBlock
namespace Go.Proofs.Ytpgmlnihgnomcaa
open Go.RowKit

/-- Both pools, as they lie in memory. -/
structure Two (w u : World) (b g b' g' n : Nat) (F F' : Nat → Bool) : Prop where
  tab : PTab 46 u b g n F
  ref : PTab 48 u b' g' n F'
  kept : Kept w u
  l0 : w.heap.size ≤ g
  l1 : w.heap.size ≤ g'
  ne : g ≠ g'
section
variable {w u u' : World} {b g b' g' n : Nat} {F F' S : Nat → Bool}
theorem Two.still (h : Two w u b g b' g' n F F') (k : Kept u u') : Two w u' b g b' g' n F F' := ⟨h.tab.kept k, h.ref.kept k, h.kept.trans k, h.l0, h.l1, h.ne⟩
theorem Two.fst (h : Two w u b g b' g' n F F') (t : PTab 46 u' b g n S) (m : Mut [g] u u') : Two w u' b g b' g' n S F' :=
  ⟨t, h.ref.muts m (by simpa using h.ref.head.ne h.tab.row (by decide)) (by simpa using Ne.symm h.ne), h.kept.muts m (by simpa using h.l0), h.l0, h.l1, h.ne⟩
theorem Two.snd (h : Two w u b g b' g' n F F') (t : PTab 48 u' b' g' n S) (m : Mut [g'] u u') : Two w u' b g b' g' n F S :=
  ⟨h.tab.muts m (by simpa using h.tab.head.ne h.ref.row (by decide)) (by simpa using h.ne), t, h.kept.muts m (by simpa using h.l1), h.l0, h.l1, h.ne⟩
end

/-- What is known in the midst of 'Ints(p.Low(n), x.Low(n))': operations 3 and 7 are the two calls of Low. -/
structure LowJ (w W u : World) (b g b' g' n : Nat) (F : Nat → Bool) (T : List Nat) (ob : Nat) (C : List Value) (K : List (Option Value)) (d : Nat → Bool) (vals : List Value) : Prop where
  blk : Blk u ob C
  two : Two w u b g b' g' n (if d 3 then dropF F T else F) (if d 7 then dropF F T else F)
  size : W.heap.size ≤ u.heap.size
  kn : ∀ i v, K[i]? = some (some v) → d i = true → vals.getD i undef = v
  fst : d 3 = true → ∃ y c, vals.getD 3 undef = .slice y T.length c ∧ Got u W.heap.size (.slice y T.length c) T
  snd : d 7 = true → ∃ y c, vals.getD 7 undef = .slice y T.length c ∧ Got u W.heap.size (.slice y T.length c) T
section
variable {w W u u' : World} {b g b' g' n ob : Nat} {F : Nat → Bool} {T : List Nat} {C : List Value} {K : List (Option Value)} {d : Nat → Bool} {vals : List Value}
theorem LowJ.kept (h : LowJ w W u b g b' g' n F T ob C K d vals) (k : Kept u u') : LowJ w W u' b g b' g' n F T ob C K d vals :=
  ⟨h.blk.kept k, h.two.still k, Nat.le_trans h.size k.size, h.kn, fun e => by obtain ⟨y, c, e1, e2⟩ := h.fst e; exact ⟨y, c, e1, e2.kept k⟩, fun e => by obtain ⟨y, c, e1, e2⟩ := h.snd e; exact ⟨y, c, e1, e2.kept k⟩⟩
theorem LowJ.kns (h : LowJ w W u b g b' g' n F T ob C K d vals) {i : Nat} {x : Value} (hl : i < vals.length) (hx : ∀ v, K[i]? = some (some v) → x = v) : ∀ j v, K[j]? = some (some v) → done d i j = true → (vals.set i x).getD j undef = v := fun j v hj hd => by
  by_cases e : i = j
  · subst e
    rw [getD_set_self hl]
    exact hx v hj
  · rw [getD_set_ne e]
    exact h.kn j v hj (by simpa [done, Ne.symm e] using hd)
theorem LowJ.plain (h : LowJ w W u b g b' g' n F T ob C K d vals) (i : Nat) (v : Value) (hl : i < vals.length) (h3 : i ≠ 3) (h7 : i ≠ 7) (hK : K[i]? = some (some v)) : LowJ w W u b g b' g' n F T ob C K (done d i) (vals.set i v) := by
  have e3 : done d i 3 = d 3 := by simp [done, Ne.symm h3]
  have e7 : done d i 7 = d 7 := by simp [done, Ne.symm h7]
  refine ⟨h.blk, by rw [e3, e7]; exact h.two, h.size, h.kns hl (fun x hx => by rw [hK] at hx; simpa using hx), fun e => ?_, fun e => ?_⟩
  · rw [getD_set_ne h3]; exact h.fst (by rwa [e3] at e)
  · rw [getD_set_ne h7]; exact h.snd (by rwa [e7] at e)
theorem LowJ.call1 (h : LowJ w W u b g b' g' n F T ob C K d vals) {v : Value} (hl : vals.length = 10) (ho : ob ≠ g) (hg : g < W.heap.size) (hK : K[3]? = some none) (t : PTab 46 u' b g n (dropF F T)) (m : Mut [g] u u') (q : Got u' u.heap.size v T) :
    LowJ w W u' b g b' g' n F T ob C K (done d 3) (vals.set 3 v) := by
  have e3 : done d 3 3 = true := by simp [done]
  have e7 : done d 3 7 = d 7 := by simp [done]
  obtain ⟨y, c, rfl⟩ := q.form
  refine ⟨h.blk.muts m (by simpa using ho), ?_, Nat.le_trans h.size m.size, h.kns (by omega) (fun x hx => by rw [hK] at hx; cases hx), fun _ => ⟨y, c, getD_set_self (by omega) _, q.low h.size⟩, fun e => ?_⟩
  · rw [e3, e7]; exact h.two.fst t m
  · rw [e7] at e
    obtain ⟨y2, c2, e1, e2⟩ := h.snd e
    rw [getD_set_ne (by omega)]
    exact ⟨y2, c2, e1, e2.muts m (by simpa using hg)⟩
theorem LowJ.call2 (h : LowJ w W u b g b' g' n F T ob C K d vals) {v : Value} (hl : vals.length = 10) (ho : ob ≠ g') (hg : g' < W.heap.size) (hK : K[7]? = some none) (t : PTab 48 u' b' g' n (dropF F T)) (m : Mut [g'] u u') (q : Got u' u.heap.size v T) :
    LowJ w W u' b g b' g' n F T ob C K (done d 7) (vals.set 7 v) := by
  have e3 : done d 7 3 = d 3 := by simp [done]
  have e7 : done d 7 7 = true := by simp [done]
  obtain ⟨y, c, rfl⟩ := q.form
  refine ⟨h.blk.muts m (by simpa using ho), ?_, Nat.le_trans h.size m.size, h.kns (by omega) (fun x hx => by rw [hK] at hx; cases hx), fun e => ?_, fun _ => ⟨y, c, getD_set_self (by omega) _, q.low h.size⟩⟩
  · rw [e3, e7]; exact h.two.snd t m
  · rw [e3] at e
    obtain ⟨y2, c2, e1, e2⟩ := h.fst e
    rw [getD_set_ne (by omega)]
    exact ⟨y2, c2, e1, e2.muts m (by simpa using hg)⟩
end

theorem norm_list {Q : Exit → Act → World → Prop} {L L' : List Value} {ds : List Deferred} {u : World} (h : L = L') (hq : Q .normal ⟨L'.toArray, ds⟩ u) : Q .normal ⟨L.toArray, ds⟩ u := h ▸ hq

set_option maxHeartbeats 8000000 in
set_option maxRecDepth 20000 in
theorem plays_bad (n : Int) (x : Option Addr) (l c : Nat) (w : World) (hn : ¬ (0 ≤ n ∧ n ≤ 1024)) :
    Calls Try.prog 3 #[.int .i64 n, .slice x l c] w fun e w' => e = .returned (.bool true) ∧ Kept w w' := by
  have HN : Hid (∀ w, _) := fun w => new_bad n w hn
  have HR : Hid (∀ w, _) := fun w => rnew_bad n w hn
  clear hn
  by_cases hl : (300 : Int) < l
  · go_enter Try.func3, Try.ntmps3
    go_wp2_with fail
    refine (first_any _).mono ?_
    rintro e w1 ⟨rfl, k1⟩
    have K1 : Hid (Kept w w1) := k1
    clear k1
    go_wp2_with fail
    refine (HN.out _).mono ?_
    rintro e w2 ⟨rfl, rfl⟩
    go_wp2_with fail
    refine (HR.out _).mono ?_
    rintro e w2 ⟨rfl, rfl⟩
    go_wp2_with fail
    refine (first_any _).mono ?_
    rintro e w9 ⟨rfl, k9⟩
    have K9 : Hid (Kept w w9) := K1.out.trans k9
    clear k9
    go_wp2
    go_ret
    exact ⟨rfl, K9.out⟩
  · go_enter Try.func3, Try.ntmps3
    go_wp2_with fail
    refine (first_any _).mono ?_
    rintro e w1 ⟨rfl, k1⟩
    have K1 : Hid (Kept w w1) := k1
    clear k1
    go_wp2_with fail
    refine (HN.out _).mono ?_
    rintro e w2 ⟨rfl, rfl⟩
    go_wp2_with fail
    refine (HR.out _).mono ?_
    rintro e w2 ⟨rfl, rfl⟩
    go_wp2
    refine wp_loop_rounds 1 ?_
    rw [rounds_succ]
    go_wp2_with fail
    refine (first_any _).mono ?_
    rintro e w9 ⟨rfl, k9⟩
    have K9 : Hid (Kept w w9) := K1.out.trans k9
    clear k9
    go_wp2
    go_ret
    exact ⟨rfl, K9.out⟩

set_option maxHeartbeats 8000000 in
set_option maxRecDepth 20000 in
theorem plays_out (n : Nat) (x : Option Addr) (l c : Nat) (w : World) (hn : (n : Int) ≤ 1024) (ho : 300 < (l : Int)) :
    Calls Try.prog 3 #[.int .i64 n, .slice x l c] w fun e w' => e = .returned (.bool true) ∧ Kept w w' := by
  go_enter Try.func3, Try.ntmps3
  go_wp2_with fail
  refine (first_any _).mono ?_
  rintro e w1 ⟨rfl, k1⟩
  have K1 : Hid (Kept w w1) := k1
  clear k1
  go_wp2_with fail
  refine (new_any n w1 (by omega)).mono ?_
  rintro e w2 ⟨b, g, rfl, ht, hb, hg, k2⟩
  have H2 : Hid (PTab 46 w2 b g n F1 ∧ w.heap.size ≤ g ∧ Kept w w2) := ⟨ht, by have := K1.out.size; omega, K1.out.trans k2⟩
  clear ht hb hg k2 K1
  go_wp2_with fail
  refine (rnew_any n w2 (by omega)).mono ?_
  rintro e w3 ⟨b', g', rfl, ht, hb, hg, k3⟩
  have H3 : Hid (Two w w3 b g b' g' n F1 F1) := by
    have z := H2.out.2.2.size
    have z2 := H2.out.1.ltg
    exact ⟨H2.out.1.kept k3, ht, H2.out.2.2.trans k3, H2.out.2.1, by omega, by omega⟩
  clear ht hb hg k3 H2
  have K3 : Hid (Kept w w3) := H3.out.kept
  clear H3
  go_wp2_with fail
  refine (first_any _).mono ?_
  rintro e w9 ⟨rfl, k9⟩
  have K9 : Hid (Kept w w9) := K3.out.trans k9
  clear k9
  go_wp2
  go_ret
  exact ⟨rfl, K9.out⟩

set_option maxHeartbeats 8000000 in
set_option maxRecDepth 20000 in
theorem plays_in (n : Nat) (x : Option Addr) (l c : Nat) (L : Nat → Op8) (w : World) (hX : Ops w x l L) (hn : (n : Int) ≤ 1024) (hl : (l : Int) ≤ 300) :
    Calls Try.prog 3 #[.int .i64 n, .slice x l c] w fun e w' => e = .returned (.bool true) ∧ Kept w w' := by
  have HX : Hid (Ops w x l L) := hX
  clear hX
  go_enter Try.func3, Try.ntmps3
  go_wp2_with fail
  refine (first_any _).mono ?_
  rintro e w1 ⟨rfl, k1⟩
  have K1 : Hid (Kept w w1) := k1
  clear k1
  go_wp2_with fail
  refine (new_any n w1 (by omega)).mono ?_
  rintro e w2 ⟨b, g, rfl, ht, hb, hg, k2⟩
  have H2 : Hid (PTab 46 w2 b g n F1 ∧ w.heap.size ≤ g ∧ Kept w w2) := ⟨ht, by have := K1.out.size; omega, K1.out.trans k2⟩
  clear ht hb hg k2 K1
  go_wp2_with fail
  refine (rnew_any n w2 (by omega)).mono ?_
  rintro e w3 ⟨b', g', rfl, ht, hb, hg, k3⟩
  have H3 : Hid (Two w w3 b g b' g' n F1 F1) := by
    have z := H2.out.2.2.size
    have z2 := H2.out.1.ltg
    exact ⟨H2.out.1.kept k3, ht, H2.out.2.2.trans k3, H2.out.2.1, by omega, by omega⟩
  clear ht hb hg k3 H2
  go_wp2
  go_loopg [9] l (fun m i wr' => ∃ (j : Nat) (F : Nat → Bool), i = .int .i64 j ∧ j ≤ l ∧ m = l - j ∧ Hid (Two w wr' b g b' g' n F F))
  case atStart => exact ⟨0, _, rfl, by omega, by omega, H3.out⟩
  case round =>
    obtain ⟨k, F, rfl, hk, hm, HR⟩ := hrel
    have HM : Hid _ := hm
    clear hm H3
    by_cases hlt : k < l
    · obtain ⟨bx, ox, rfl, hbx, hcx⟩ := HX.out (by omega)
      have e0 : wr.cell? ⟨bx, ox + k * 2, none⟩ = _ := (HR.out.kept.cell hbx).trans (hcx k hlt 0 _ (by omega) rfl)
      have e1 : wr.cell? ⟨bx, ox + k * 2 + 1, none⟩ = _ := (HR.out.kept.cell hbx).trans (hcx k hlt 1 _ (by omega) rfl)
      clear hcx hbx HX
      generalize L k = o at *
      obtain ⟨ok, oi⟩ := o
      simp only at e0 e1
      go_upto_block 2 with fail
      clear e0 e1
      generalize hW : wr.alloc _ = W
      have BO : Hid (Blk W wr.heap.size [.int .i64 ok, .int .i64 oi]) := by rw [← hW]; exact Blk.new wr _ _
      have HW : Hid (Two w W b g b' g' n F F) := by rw [← hW]; exact HR.out.still ((Kept.refl wr).alloc _ _)
      have NE : Hid (wr.heap.size ≠ g ∧ wr.heap.size ≠ g') := by
        have h0 := HR.out.tab.ltg
        have h1 := HR.out.ref.ltg
        exact ⟨by omega, by omega⟩
      have LT : Hid (g < W.heap.size ∧ g' < W.heap.size) := ⟨HW.out.tab.ltg, HW.out.ref.ltg⟩
      clear hW HR
      generalize wr.heap.size = ob at *
      go_cut [11, 12, 13, 14, 15] from 60 to 165 (fun q _ _ _ _ wc => q = .bool true ∧ ∃ F, Hid (Two w wc b g b' g' n F F) ∧ Hid (Blk wc ob [.int .i64 ok, .int .i64 oi]))
      case first =>
        have c0 := BO.out.at 0 rfl
        by_cases h0 : ok = 0
        · have h0' : (ok == 0) = true := by simpa using h0
          clear h0
          have c1 := BO.out.at 1 rfl
          go_wp2_with fail
          refine (take_any oi _ HW.out.tab).mono ?_
          rintro e w4 ⟨v4, rfl, q4, t4, m4⟩
          obtain ⟨y4, d4, rfl⟩ := q4.form
          have H4 : Hid (Two w w4 b g b' g' n (dropF F (takeL n F oi)) F ∧ Blk w4 ob [.int .i64 ok, .int .i64 oi] ∧ Got w4 W.heap.size (.slice y4 (takeL n F oi).length d4) (takeL n F oi)) := ⟨HW.out.fst t4 m4, BO.out.muts m4 (by simpa using NE.out.1), q4⟩
          clear q4 t4 m4 c0 c1
          have c1 := H4.out.2.1.at 1 rfl
          go_wp2_with fail
          refine (rtake_any oi _ H4.out.1.ref).mono ?_
          rintro e w5 ⟨v5, rfl, q5, t5, m5⟩
          obtain ⟨y5, d5, rfl⟩ := q5.form
          have H5 : Hid (Two w w5 b g b' g' n (dropF F (takeL n F oi)) (dropF F (takeL n F oi)) ∧ Blk w5 ob [.int .i64 ok, .int .i64 oi] ∧ Rd w5 y4 (takeL n F oi) ∧ Rd w5 y5 (takeL n F oi)) := ⟨H4.out.1.snd t5 m5, H4.out.2.1.muts m5 (by simpa using NE.out.2), (H4.out.2.2.muts m5 (by simpa using LT.out.2)).rd, q5.rd⟩
          clear q5 t5 m5 c1 H4
          have hlen : (takeL n F oi).length ≤ 1000000 := by
            cases ht : takeB n F oi
            · rw [take_no ht]; simp
            · have h1 := takeL_len ht
              have h2 := cntB_le F n
              simp [takeB] at ht
              omega
          generalize takeL n F oi = T at *
          generalize takeB n F oi = tb at *
          go_wp2_with fail
          refine (ints_any (T := T) _ hlen H5.out.2.2.1 H5.out.2.2.2).mono ?_
          rintro e w6 ⟨rfl, k6⟩
          have H6 : Hid (Two w w6 b g b' g' n (dropF F T) (dropF F T) ∧ Blk w6 ob [.int .i64 ok, .int .i64 oi]) := ⟨H5.out.1.still k6, H5.out.2.1.kept k6⟩
          clear k6 H5
          have z : (tb == tb) = true := by simp
          go_wp2
          go_meet
          case rel => exact ⟨by simp, _, H6.out.1, H6.out.2⟩
        · have h0' : (ok == 0) = false := by simpa using h0
          clear h0
          by_cases h1 : ok = 1
          · have h1' : (ok == 1) = true := by simpa using h1
            clear h1
            go_upto_region 18 with fail
            clear c0
            refine wp_region_mix [(.pointer (some ⟨b, 0, none⟩)), (.pointer (some ⟨ob, 1, none⟩)), (.int .i64 oi), undef, (.pointer (some ⟨b', 0, none⟩)), (.pointer (some ⟨ob, 1, none⟩)), (.int .i64 oi), undef, (.bool true), (.bool true)] [(11, 9), (102, 0), (103, 1), (104, 2), (105, 3), (106, 4), (107, 5), (108, 6), (109, 7), (110, 8)] (fun d vals u => LowJ w W u b g b' g' n F (lowL n F oi) ob [.int .i64 ok, .int .i64 oi] [some (.pointer (some ⟨b, 0, none⟩)), some (.pointer (some ⟨ob, 1, none⟩)), some (.int .i64 oi), none, some (.pointer (some ⟨b', 0, none⟩)), some (.pointer (some ⟨ob, 1, none⟩)), some (.int .i64 oi), none, some (.bool true), some (.bool true)] d vals) (by kernel_rfl) (by kernel_rfl) (by kernel_rfl) (by kernel_rfl) rfl ?_ ?_ ?_
            · exact ⟨BO.out.kept (Kept.refl _).drew, by simpa using HW.out.still (Kept.refl _).drew, Nat.le_refl _, (fun _ _ _ h => absurd h (by simp)), (fun h => absurd h (by simp)), (fun h => absurd h (by simp))⟩
            · intro i o ho a d vals u hv0 hh hj hi hd
              have hv : vals.length = 10 := hv0
              match i, ho, hi, hd with
              | 0, ho, hi, hd =>
                simp only [List.getElem?_cons_zero, Option.some.injEq] at ho
                subst ho
                have g5 : a.tmps[5]? = some (.pointer (some ⟨b, 0, none⟩)) := hh.old 5 (by kernel_rfl) rfl
                clear hh hd
                have HN : Hid (LowJ _ _ u _ _ _ _ _ _ _ _ _ _ (done d 0) (vals.set 0 (.pointer (some ⟨b, 0, none⟩)))) := hj.plain 0 _ (by omega) (by decide) (by decide) rfl
                clear hj hi
                refine wpOp_step rfl (fun K hK => ?_)
                go_simp
                exact hK _ _ ⟨(.pointer (some ⟨b, 0, none⟩)), by simp [Act.put], HN.out⟩
              | 1, ho, hi, hd =>
                simp only [List.getElem?_cons_succ, List.getElem?_cons_zero, Option.some.injEq] at ho
                subst ho
                have g10 : a.tmps[10]? = some (.pointer (some ⟨ob, 0, none⟩)) := hh.old 10 (by kernel_rfl) rfl
                clear hh hd
                have HN : Hid (LowJ _ _ u _ _ _ _ _ _ _ _ _ _ (done d 1) (vals.set 1 (.pointer (some ⟨ob, 1, none⟩)))) := hj.plain 1 _ (by omega) (by decide) (by decide) rfl
                clear hj hi
                refine wpOp_step rfl (fun K hK => ?_)
                go_simp
                exact hK _ _ ⟨(.pointer (some ⟨ob, 1, none⟩)), by simp [Act.put], HN.out⟩
              | 2, ho, hi, hd =>
                simp only [List.getElem?_cons_succ, List.getElem?_cons_zero, Option.some.injEq] at ho
                subst ho
                have g103 : a.tmps[103]? = some (.pointer (some ⟨ob, 1, none⟩)) := (hh.did 1 _ 103 rfl rfl (hd { on := 1, ground := .data } (by simp) rfl)).trans (congrArg some (hj.kn 1 _ rfl (hd { on := 1, ground := .data } (by simp) rfl)))
                have cc := hj.blk.at 1 rfl
                clear hh hd
                have HN : Hid (LowJ _ _ u _ _ _ _ _ _ _ _ _ _ (done d 2) (vals.set 2 (.int .i64 oi))) := hj.plain 2 _ (by omega) (by decide) (by decide) rfl
                clear hj hi
                refine wpOp_step rfl (fun K hK => ?_)
                go_simp
                exact hK _ _ ⟨(.int .i64 oi), by simp [Act.put], HN.out⟩
              | 3, ho, hi, hd =>
                simp only [List.getElem?_cons_succ, List.getElem?_cons_zero, Option.some.injEq] at ho
                subst ho
                have g102 : a.tmps[102]? = some (.pointer (some ⟨b, 0, none⟩)) := (hh.did 0 _ 102 rfl rfl (hd { on := 0, ground := .data } (by simp) rfl)).trans (congrArg some (hj.kn 0 _ rfl (hd { on := 0, ground := .data } (by simp) rfl)))
                have g104 : a.tmps[104]? = some (.int .i64 oi) := (hh.did 2 _ 104 rfl rfl (hd { on := 2, ground := .data } (by simp) rfl)).trans (congrArg some (hj.kn 2 _ rfl (hd { on := 2, ground := .data } (by simp) rfl)))
                clear hh hd
                have CA : Hid (Calls _ _ _ _ _) := low_any oi u (by have := hj.two.tab; simpa [hi] using this)
                have HN : Hid (∀ u' v, PTab 46 u' b g n _ → Mut [g] u u' → Got u' u.heap.size v (lowL n F oi) → LowJ _ _ u' _ _ _ _ _ _ _ _ _ _ (done d 3) (vals.set 3 v)) := fun u' v t m q => hj.call1 hv NE.out.1 LT.out.1 rfl t m q
                clear hj hi
                refine wpOp_step rfl (fun K hK => ?_)
                go_simp
                refine CA.out.mono ?_
                rintro e u' ⟨v, rfl, hq, ht, m⟩
                exact hK _ _ ⟨v, by simp [Act.put], HN.out u' v ht m hq⟩
              | 4, ho, hi, hd =>
                simp only [List.getElem?_cons_succ, List.getElem?_cons_zero, Option.some.injEq] at ho
                subst ho
                have g7 : a.tmps[7]? = some (.pointer (some ⟨b', 0, none⟩)) := hh.old 7 (by kernel_rfl) rfl
                clear hh hd
                have HN : Hid (LowJ _ _ u _ _ _ _ _ _ _ _ _ _ (done d 4) (vals.set 4 (.pointer (some ⟨b', 0, none⟩)))) := hj.plain 4 _ (by omega) (by decide) (by decide) rfl
                clear hj hi
                refine wpOp_step rfl (fun K hK => ?_)
                go_simp
                exact hK _ _ ⟨(.pointer (some ⟨b', 0, none⟩)), by simp [Act.put], HN.out⟩
              | 5, ho, hi, hd =>
                simp only [List.getElem?_cons_succ, List.getElem?_cons_zero, Option.some.injEq] at ho
                subst ho
                have g10 : a.tmps[10]? = some (.pointer (some ⟨ob, 0, none⟩)) := hh.old 10 (by kernel_rfl) rfl
                clear hh hd
                have HN : Hid (LowJ _ _ u _ _ _ _ _ _ _ _ _ _ (done d 5) (vals.set 5 (.pointer (some ⟨ob, 1, none⟩)))) := hj.plain 5 _ (by omega) (by decide) (by decide) rfl
                clear hj hi
                refine wpOp_step rfl (fun K hK => ?_)
                go_simp
                exact hK _ _ ⟨(.pointer (some ⟨ob, 1, none⟩)), by simp [Act.put], HN.out⟩
              | 6, ho, hi, hd =>
                simp only [List.getElem?_cons_succ, List.getElem?_cons_zero, Option.some.injEq] at ho
                subst ho
                have g107 : a.tmps[107]? = some (.pointer (some ⟨ob, 1, none⟩)) := (hh.did 5 _ 107 rfl rfl (hd { on := 5, ground := .data } (by simp) rfl)).trans (congrArg some (hj.kn 5 _ rfl (hd { on := 5, ground := .data } (by simp) rfl)))
                have cc := hj.blk.at 1 rfl
                clear hh hd
                have HN : Hid (LowJ _ _ u _ _ _ _ _ _ _ _ _ _ (done d 6) (vals.set 6 (.int .i64 oi))) := hj.plain 6 _ (by omega) (by decide) (by decide) rfl
                clear hj hi
                refine wpOp_step rfl (fun K hK => ?_)
                go_simp
                exact hK _ _ ⟨(.int .i64 oi), by simp [Act.put], HN.out⟩
              | 7, ho, hi, hd =>
                simp only [List.getElem?_cons_succ, List.getElem?_cons_zero, Option.some.injEq] at ho
                subst ho
                have g106 : a.tmps[106]? = some (.pointer (some ⟨b', 0, none⟩)) := (hh.did 4 _ 106 rfl rfl (hd { on := 4, ground := .data } (by simp) rfl)).trans (congrArg some (hj.kn 4 _ rfl (hd { on := 4, ground := .data } (by simp) rfl)))
                have g108 : a.tmps[108]? = some (.int .i64 oi) := (hh.did 6 _ 108 rfl rfl (hd { on := 6, ground := .data } (by simp) rfl)).trans (congrArg some (hj.kn 6 _ rfl (hd { on := 6, ground := .data } (by simp) rfl)))
                clear hh hd
                have CA : Hid (Calls _ _ _ _ _) := rlow_any oi u (by have := hj.two.ref; simpa [hi] using this)
                have HN : Hid (∀ u' v, PTab 48 u' b' g' n _ → Mut [g'] u u' → Got u' u.heap.size v (lowL n F oi) → LowJ _ _ u' _ _ _ _ _ _ _ _ _ _ (done d 7) (vals.set 7 v)) := fun u' v t m q => hj.call2 hv NE.out.2 LT.out.2 rfl t m q
                clear hj hi
                refine wpOp_step rfl (fun K hK => ?_)
                go_simp
                refine CA.out.mono ?_
                rintro e u' ⟨v, rfl, hq, ht, m⟩
                exact hK _ _ ⟨v, by simp [Act.put], HN.out u' v ht m hq⟩
              | 8, ho, hi, hd =>
                simp only [List.getElem?_cons_succ, List.getElem?_cons_zero, Option.some.injEq] at ho
                subst ho
                obtain ⟨y3, c3, e3, q3⟩ := hj.fst (hd { on := 3, ground := .data } (by simp) rfl)
                have g105 : a.tmps[105]? = some (.slice y3 (lowL n F oi).length c3) := (hh.did 3 _ 105 rfl rfl (hd { on := 3, ground := .data } (by simp) rfl)).trans (congrArg some e3)
                obtain ⟨y7, c7, e7, q7⟩ := hj.snd (hd { on := 7, ground := .data } (by simp) rfl)
                have g109 : a.tmps[109]? = some (.slice y7 (lowL n F oi).length c7) := (hh.did 7 _ 109 rfl rfl (hd { on := 7, ground := .data } (by simp) rfl)).trans (congrArg some e7)
                clear hh hd
                have CA : Hid (Calls _ _ _ _ _) := ints_any (T := lowL n F oi) (c := c3) (d := c7) u (by rw [lowL_len]; have := cntB_le F n; omega) q3.rd q7.rd
                have HN : Hid (∀ u', Kept u u' → LowJ _ _ u' _ _ _ _ _ _ _ _ _ _ (done d 8) (vals.set 8 (.bool true))) := fun u' k => (hj.kept k).plain 8 _ (by omega) (by decide) (by decide) rfl
                clear hj hi
                refine wpOp_step rfl (fun K hK => ?_)
                go_simp
                refine CA.out.mono ?_
                rintro e u' ⟨rfl, k⟩
                exact hK _ _ ⟨.bool true, by simp [Act.put], HN.out u' k⟩
              | 9, ho, hi, hd =>
                simp only [List.getElem?_cons_succ, List.getElem?_cons_zero, Option.some.injEq] at ho
                subst ho
                have g110 : a.tmps[110]? = some (.bool true) := (hh.did 8 _ 110 rfl rfl (hd { on := 8, ground := .data } (by simp) rfl)).trans (congrArg some (hj.kn 8 _ rfl (hd { on := 8, ground := .data } (by simp) rfl)))
                clear hh hd
                have HN : Hid (LowJ _ _ u _ _ _ _ _ _ _ _ _ _ (done d 9) (vals.set 9 (.bool true))) := hj.plain 9 _ (by omega) (by decide) (by decide) rfl
                clear hj hi
                refine wpOp_step rfl (fun K hK => ?_)
                go_simp
                exact hK _ _ ⟨(.bool true), by simp [Act.put], HN.out⟩
              | k + 10, ho, _, _ => simp at ho
            · intro u d vals hv hall hj
              have HE : Hid (Two w u b g b' g' n (dropF F (lowL n F oi)) (dropF F (lowL n F oi)) ∧ Blk u ob [.int .i64 ok, .int .i64 oi]) := by
                have h1 := hall 3 (by decide)
                have h2 := hall 7 (by decide)
                have h3 := hj.two
                rw [h1, h2] at h3
                exact ⟨h3, hj.blk⟩
              have k9 := hj.kn 9 _ rfl (hall 9 (by decide))
              clear hall hj
              match vals, hv, k9 with
              | [v0, v1, v2, v3, v4, v5, v6, v7, v8, v9], _, k9 =>
                simp only [List.getD_cons_succ, List.getD_cons_zero] at k9
                subst k9
                refine norm_list (L' := [_, _, _, _, _, _, _, _, _, _, _, _, _, _, _, _, _, _, _, _, _, _, _, _, _, _, _, _, _, _, _, _, _, _, _, _, _, _, _, _, _, _, _, _, _, _, _, _, _, _, _, _, _, _, _, _, _, _, _, _, _, _, _, _, _, _, _, _, _, _, _, _, _, _, _, _, _, _, _, _, _, _, _, _, _, _, _, _, _, _, _, _, _, _, _, _, _, _, _, _, _, _, _, _, _, _, _, _, _, _, _, _, _, _, _, _, _, _, _, _, _, _, _, _, _, _, _, _, _, _, _, _, _, _, _, _, _, _, _, _, _, _, _, _, _, _, _, _, _, _, _, _, _, _, _, _, _, _, _, _, _, _, _, _, _, _, _]) rfl ?_
                simp only [List.getD_cons_succ, List.getD_cons_zero]
                go_wp2
                go_meet
                case rel => exact ⟨rfl, _, HE.out.1, HE.out.2⟩
          · have h1' : (ok == 1) = false := by simpa using h1
            clear h1
            by_cases h2 : ok = 2
            · have h2' : (ok == 2) = true := by simpa using h2
              clear h2
              go_upto_region 20 with fail
              clear c0
              refine wp_region_phase [(.pointer (some ⟨b, 0, none⟩)), (.pointer (some ⟨ob, 1, none⟩)), (.int .i64 oi), (.bool (giveB n F oi)), (.pointer (some ⟨b', 0, none⟩)), (.pointer (some ⟨ob, 1, none⟩)), (.int .i64 oi), (.bool (giveB n F oi)), (.bool true), (.bool true)] [(11, 9), (113, 0), (114, 1), (115, 2), (116, 3), (117, 4), (118, 5), (119, 6), (120, 7), (121, 8)] [_, _, _, _, _, _, _, _, _, _, _, _, _, _, _, _, _, _, _, _, _, _, _, _, _, _, _, _, _, _, _, _, _, _, _, _, _, _, _, _, _, _, _, _, _, _, _, _, _, _, _, _, _, _, _, _, _, _, _, _, _, _, _, _, _, _, _, _, _, _, _, _, _, _, _, _, _, _, _, _, _, _, _, _, _, _, _, _, _, _, _, _, _, _, _, _, _, _, _, _, _, _, _, _, _, _, _, _, _, _, _, _, _, _, _, _, _, _, _, _, _, _, _, _, _, _, _, _, _, _, _, _, _, _, _, _, _, _, _, _, _, _, _, _, _, _, _, _, _, _, _, _, _, _, _, _, _, _, _, _, _, _, _, _, _, _, _] (fun d u => Blk u ob [.int .i64 ok, .int .i64 oi] ∧ Two w u b g b' g' n (if d 3 then (giveF n F oi) else F) (if d 7 then (giveF n F oi) else F)) (by kernel_rfl) (by kernel_rfl) (by kernel_rfl) (by kernel_rfl) rfl ?_ ?_ ?_
              · exact ⟨BO.out.kept (Kept.refl _).drew, by simpa using HW.out.still (Kept.refl _).drew⟩
              · intro i o ho a d u hh hj hi hd
                match i, ho, hi, hd with
                | 0, ho, hi, hd =>
                  simp only [List.getElem?_cons_zero, Option.some.injEq] at ho
                  subst ho
                  have g5 : a.tmps[5]? = some (.pointer (some ⟨b, 0, none⟩)) := hh.old 5 (by kernel_rfl) rfl
                  clear hh hd
                  have HN : Hid (Blk u ob [.int .i64 ok, .int .i64 oi] ∧ Two w u b g b' g' n (if done d 0 3 then (giveF n F oi) else F) (if done d 0 7 then (giveF n F oi) else F)) := by simpa [Hid, done] using hj
                  clear hj hi
                  refine wpOp_step rfl (fun K hK => ?_)
                  go_simp
                  exact hK _ _ ⟨by simp [Act.put], HN.out⟩
                | 1, ho, hi, hd =>
                  simp only [List.getElem?_cons_succ, List.getElem?_cons_zero, Option.some.injEq] at ho
                  subst ho
                  have g10 : a.tmps[10]? = some (.pointer (some ⟨ob, 0, none⟩)) := hh.old 10 (by kernel_rfl) rfl
                  clear hh hd
                  have HN : Hid (Blk u ob [.int .i64 ok, .int .i64 oi] ∧ Two w u b g b' g' n (if done d 1 3 then (giveF n F oi) else F) (if done d 1 7 then (giveF n F oi) else F)) := by simpa [Hid, done] using hj
                  clear hj hi
                  refine wpOp_step rfl (fun K hK => ?_)
                  go_simp
                  exact hK _ _ ⟨by simp [Act.put], HN.out⟩
                | 2, ho, hi, hd =>
                  simp only [List.getElem?_cons_succ, List.getElem?_cons_zero, Option.some.injEq] at ho
                  subst ho
                  have g114 : a.tmps[114]? = some (.pointer (some ⟨ob, 1, none⟩)) := hh.did 1 _ 114 rfl rfl (hd { on := 1, ground := .data } (by simp) rfl)
                  have cc := hj.1.at 1 rfl
                  clear hh hd
                  have HN : Hid (Blk u ob [.int .i64 ok, .int .i64 oi] ∧ Two w u b g b' g' n (if done d 2 3 then (giveF n F oi) else F) (if done d 2 7 then (giveF n F oi) else F)) := by simpa [Hid, done] using hj
                  clear hj hi
                  refine wpOp_step rfl (fun K hK => ?_)
                  go_simp
                  exact hK _ _ ⟨by simp [Act.put], HN.out⟩
                | 3, ho, hi, hd =>
                  simp only [List.getElem?_cons_succ, List.getElem?_cons_zero, Option.some.injEq] at ho
                  subst ho
                  have g113 : a.tmps[113]? = some (.pointer (some ⟨b, 0, none⟩)) := hh.did 0 _ 113 rfl rfl (hd { on := 0, ground := .data } (by simp) rfl)
                  have g115 : a.tmps[115]? = some (.int .i64 oi) := hh.did 2 _ 115 rfl rfl (hd { on := 2, ground := .data } (by simp) rfl)
                  clear hh hd
                  have CA : Hid (Calls _ _ _ _ _) := give_any oi u (by have := hj.2.tab; simpa [hi] using this)
                  have HN : Hid (∀ u', PTab 46 u' b g n (giveF n F oi) → Mut [g] u u' → Blk u' ob [.int .i64 ok, .int .i64 oi] ∧ Two w u' b g b' g' n (if done d 3 3 then (giveF n F oi) else F) (if done d 3 7 then (giveF n F oi) else F)) := fun u' t m => ⟨hj.1.muts m (by simpa using NE.out.1), by have := hj.2.fst t m; simpa [done] using this⟩
                  clear hj hi
                  refine wpOp_step rfl (fun K hK => ?_)
                  go_simp
                  refine CA.out.mono ?_
                  rintro e u' ⟨rfl, ht, m⟩
                  exact hK _ _ ⟨by simp [Act.put], HN.out u' ht m⟩
                | 4, ho, hi, hd =>
                  simp only [List.getElem?_cons_succ, List.getElem?_cons_zero, Option.some.injEq] at ho
                  subst ho
                  have g7 : a.tmps[7]? = some (.pointer (some ⟨b', 0, none⟩)) := hh.old 7 (by kernel_rfl) rfl
                  clear hh hd
                  have HN : Hid (Blk u ob [.int .i64 ok, .int .i64 oi] ∧ Two w u b g b' g' n (if done d 4 3 then (giveF n F oi) else F) (if done d 4 7 then (giveF n F oi) else F)) := by simpa [Hid, done] using hj
                  clear hj hi
                  refine wpOp_step rfl (fun K hK => ?_)
                  go_simp
                  exact hK _ _ ⟨by simp [Act.put], HN.out⟩
                | 5, ho, hi, hd =>
                  simp only [List.getElem?_cons_succ, List.getElem?_cons_zero, Option.some.injEq] at ho
                  subst ho
                  have g10 : a.tmps[10]? = some (.pointer (some ⟨ob, 0, none⟩)) := hh.old 10 (by kernel_rfl) rfl
                  clear hh hd
                  have HN : Hid (Blk u ob [.int .i64 ok, .int .i64 oi] ∧ Two w u b g b' g' n (if done d 5 3 then (giveF n F oi) else F) (if done d 5 7 then (giveF n F oi) else F)) := by simpa [Hid, done] using hj
                  clear hj hi
                  refine wpOp_step rfl (fun K hK => ?_)
                  go_simp
                  exact hK _ _ ⟨by simp [Act.put], HN.out⟩
                | 6, ho, hi, hd =>
                  simp only [List.getElem?_cons_succ, List.getElem?_cons_zero, Option.some.injEq] at ho
                  subst ho
                  have g118 : a.tmps[118]? = some (.pointer (some ⟨ob, 1, none⟩)) := hh.did 5 _ 118 rfl rfl (hd { on := 5, ground := .data } (by simp) rfl)
                  have cc := hj.1.at 1 rfl
                  clear hh hd
                  have HN : Hid (Blk u ob [.int .i64 ok, .int .i64 oi] ∧ Two w u b g b' g' n (if done d 6 3 then (giveF n F oi) else F) (if done d 6 7 then (giveF n F oi) else F)) := by simpa [Hid, done] using hj
                  clear hj hi
                  refine wpOp_step rfl (fun K hK => ?_)
                  go_simp
                  exact hK _ _ ⟨by simp [Act.put], HN.out⟩
                | 7, ho, hi, hd =>
                  simp only [List.getElem?_cons_succ, List.getElem?_cons_zero, Option.some.injEq] at ho
                  subst ho
                  have g117 : a.tmps[117]? = some (.pointer (some ⟨b', 0, none⟩)) := hh.did 4 _ 117 rfl rfl (hd { on := 4, ground := .data } (by simp) rfl)
                  have g119 : a.tmps[119]? = some (.int .i64 oi) := hh.did 6 _ 119 rfl rfl (hd { on := 6, ground := .data } (by simp) rfl)
                  clear hh hd
                  have CA : Hid (Calls _ _ _ _ _) := rgive_any oi u (by have := hj.2.ref; simpa [hi] using this)
                  have HN : Hid (∀ u', PTab 48 u' b' g' n (giveF n F oi) → Mut [g'] u u' → Blk u' ob [.int .i64 ok, .int .i64 oi] ∧ Two w u' b g b' g' n (if done d 7 3 then (giveF n F oi) else F) (if done d 7 7 then (giveF n F oi) else F)) := fun u' t m => ⟨hj.1.muts m (by simpa using NE.out.2), by have := hj.2.snd t m; simpa [done] using this⟩
                  clear hj hi
                  refine wpOp_step rfl (fun K hK => ?_)
                  go_simp
                  refine CA.out.mono ?_
                  rintro e u' ⟨rfl, ht, m⟩
                  exact hK _ _ ⟨by simp [Act.put], HN.out u' ht m⟩
                | 8, ho, hi, hd =>
                  simp only [List.getElem?_cons_succ, List.getElem?_cons_zero, Option.some.injEq] at ho
                  subst ho
                  have g116 : a.tmps[116]? = some (.bool (giveB n F oi)) := hh.did 3 _ 116 rfl rfl (hd { on := 3, ground := .data } (by simp) rfl)
                  have g120 : a.tmps[120]? = some (.bool (giveB n F oi)) := hh.did 7 _ 120 rfl rfl (hd { on := 7, ground := .data } (by simp) rfl)
                  clear hh hd
                  have HN : Hid (Blk u ob [.int .i64 ok, .int .i64 oi] ∧ Two w u b g b' g' n (if done d 8 3 then (giveF n F oi) else F) (if done d 8 7 then (giveF n F oi) else F)) := by simpa [Hid, done] using hj
                  clear hj hi
                  refine wpOp_step rfl (fun K hK => ?_)
                  go_simp
                  exact hK _ _ ⟨by simp [Act.put], HN.out⟩
                | 9, ho, hi, hd =>
                  simp only [List.getElem?_cons_succ, List.getElem?_cons_zero, Option.some.injEq] at ho
                  subst ho
                  have g121 : a.tmps[121]? = some (.bool true) := hh.did 8 _ 121 rfl rfl (hd { on := 8, ground := .data } (by simp) rfl)
                  clear hh hd
                  have HN : Hid (Blk u ob [.int .i64 ok, .int .i64 oi] ∧ Two w u b g b' g' n (if done d 9 3 then (giveF n F oi) else F) (if done d 9 7 then (giveF n F oi) else F)) := by simpa [Hid, done] using hj
                  clear hj hi
                  refine wpOp_step rfl (fun K hK => ?_)
                  go_simp
                  exact hK _ _ ⟨by simp [Act.put], HN.out⟩
                | k + 10, ho, _, _ => simp at ho
              · intro u d hall hj
                have HE : Hid (Two w u b g b' g' n (giveF n F oi) (giveF n F oi) ∧ Blk u ob [.int .i64 ok, .int .i64 oi]) := by
                  have h1 := hall 3 (by decide)
                  have h2 := hall 7 (by decide)
                  have h3 := hj.2
                  rw [h1, h2] at h3
                  exact ⟨h3, hj.1⟩
                clear hall hj
                simp only [List.getD_cons_succ, List.getD_cons_zero]
                go_wp2
                go_meet
                case rel => exact ⟨rfl, _, HE.out.1, HE.out.2⟩
            · have h2' : (ok == 2) = false := by simpa using h2
              clear h2
              go_wp2
              go_meet
              case rel => exact ⟨rfl, _, HW.out, BO.out⟩
      case rest =>
        obtain ⟨rfl, F, HC, BC⟩ := hcut
        have c1 := BC.out.at 1 rfl
        go_wp2_with fail
        refine (run_any oi _ HC.out.tab).mono ?_
        rintro e w5 ⟨rfl, rfl⟩
        go_wp2_with fail
        refine (rrun_any oi _ HC.out.ref).mono ?_
        rintro e w5 ⟨rfl, rfl⟩
        generalize runO n F oi = R
        have z1 : (runV R != runV R) = false := by simp
        have z2 : (R.isSome != R.isSome) = false := by cases R <;> rfl
        have hcn := cntB_le F n
        have z3 : ((cntB F n : Int) != (cntB F n : Int)) = false := by simp
        generalize runV R = rv at *
        generalize R.isSome = rs at *
        clear R
        have C1 : Hid (∀ z : KW w5, _) := fun z => free_any z.it (HC.out.tab.kept z.ok)
        have C2 : Hid (∀ z : KW w5, _) := fun z => rfree_any z.it (HC.out.ref.kept z.ok)
        have C3 : Hid (∀ z : KW w5, _) := fun z => has_any oi z.it (HC.out.tab.kept z.ok)
        have C4 : Hid (∀ z : KW w5, _) := fun z => rhas_any oi z.it (HC.out.ref.kept z.ok)
        have d1 := fun z : KW w5 => z.cell BC.out.lt (BC.out.at 1 rfl)
        clear c1
        go_upto_region 23 with fail
        generalize hasB n F oi = hb at *
        generalize cntB F n = cn at *
        have z4 : (hb != hb) = false := by simp
        refine wp_region_kept (by kernel_rfl) (by kernel_rfl) fun _ => ?_
        repeat (go_big_quiet_step (first | (go_at_call 19; exact kept_of_same (C1.out _)) | (go_at_call 20; exact kept_of_same (C2.out _)) | (go_at_call 21; exact kept_of_same (C3.out _)) | (go_at_call 22; exact kept_of_same (C4.out _))))
        refine wpQuiet_nil ?_
        rintro _ ⟨z, rfl⟩
        have HZ : Hid (Two w z.it b g b' g' n F F) := HC.out.still z.ok
        clear d1 C1 C2 C3 C4 HC BC
        go_wp2
        go_roundg (l - (k + 1))
        all_goals (have := HM.out; try omega)
        all_goals exact ⟨k + 1, _, by go_num, by omega, rfl, HZ.out⟩
    · obtain rfl : l = k := by omega
      have K2 : Hid (Kept w wr) := HR.out.kept
      clear HR HM
      go_wp2_with fail
      refine (first_any _).mono ?_
      rintro e w9 ⟨rfl, k9⟩
      have K9 : Hid (Kept w w9) := K2.out.trans k9
      clear k9
      go_wp2
      go_ret
      exact ⟨rfl, K9.out⟩

theorem poolPlays_any (n0 : Int) (x1 : Option Addr) (l1 c1 : Nat) (L1 : Nat → Op8) (w : World) (_lo0 : IntKind.min .i64 ≤ n0) (_hi0 : n0 ≤ IntKind.max .i64) (_h1c : l1 ≤ c1) (hL1 : Ops w x1 l1 L1) :
    Calls Try.prog 3 #[.int .i64 n0, .slice x1 l1 c1] w fun e w' => e = .returned (.bool true) ∧ Kept w w' := by
  by_cases hn : 0 ≤ n0 ∧ n0 ≤ 1024
  · obtain ⟨n, rfl⟩ : ∃ n : Nat, n0 = n := ⟨n0.toNat, by omega⟩
    by_cases ho : (l1 : Int) ≤ 300
    · exact plays_in n x1 l1 c1 L1 w hL1 hn.2 ho
    · exact plays_out n x1 l1 c1 w hn.2 (by omega)
  · exact plays_bad n0 x1 l1 c1 w hn
end Go.Proofs.Ytpgmlnihgnomcaa
