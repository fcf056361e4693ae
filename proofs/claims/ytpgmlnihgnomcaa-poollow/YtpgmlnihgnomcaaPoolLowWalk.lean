/-
  PoolLow: the walk.
-/
import Derived.Test.YtpgmlnihgnomcaaFirst8
import Derived.Test.YtpgmlnihgnomcaaElems
namespace Go.Proofs.Ytpgmlnihgnomcaa
open Go.RowKit

theorem freeU_F1 (n : Nat) : freeU F1 0 n = List.range' 0 n := by
  have h := freeU_range (F := F1) (a := 0) (k := n) fun _ _ => rfl
  simpa using h
theorem cnt_F1 (n : Nat) : cntB F1 n = n := cntB_all fun _ _ => rfl
theorem lowL_F1 {n m : Nat} {k : Int} (h : m = min k.toNat n) : lowL n F1 k = List.range' 0 m := by
  rw [← freeU_F1]
  exact freeU_take (by omega) (by rw [freeU_F1]; simp; omega) (by rw [freeU_F1]; simp; omega)
def above (m : Nat) : Nat → Bool := fun j => decide (m ≤ j)
theorem drop_F1 (m : Nat) : dropF F1 (List.range' 0 m) = above m := by
  funext j
  by_cases h : j < m <;> simp [dropF, F1, above, h] <;> omega

/-- How it stands behind Low: the numbers below m are out, or given back. -/
structure Lo (w wr : World) (b g n m : Nat) (F : Nat → Bool) : Prop where
  tab : PTab 46 wr b g n F
  lg : w.heap.size ≤ g
  kept : Kept w wr
  top : ∀ j, m ≤ j → j < n → F j = true
theorem Lo.step {w wr w' : World} {b g n m : Nat} {F F' : Nat → Bool} (h : Lo w wr b g n m F) (t : PTab 46 w' b g n F') (k : Mut [g] wr w') (ht : ∀ j, m ≤ j → j < n → F' j = true) : Lo w w' b g n m F' :=
  ⟨t, h.lg, h.kept.muts k (by simpa using h.lg), ht⟩

theorem give_no {n : Nat} {F : Nat → Bool} {i : Int} (h : giveB n F i = false) : giveF n F i = F := by simp [giveF, h]
theorem give_yes {n : Nat} {F : Nat → Bool} {i : Int} (h : giveB n F i = true) : giveF n F i = setB F i.toNat true := by simp [giveF, h]
theorem set_top {n m i : Nat} {F : Nat → Bool} (h : ∀ j, m ≤ j → j < n → F j = true) : ∀ j, m ≤ j → j < n → setB F i true j = true := fun j h1 h2 => by
  by_cases e : j = i
  · rw [e, setB_same]
  · rw [setB_other F true e]; exact h j h1 h2

set_option maxHeartbeats 2000000 in
set_option maxRecDepth 20000 in
theorem low_bad (n k : Int) (x : Option Addr) (l c : Nat) (w : World) (hn : ¬ (0 ≤ n ∧ n ≤ 1024)) :
    Calls Try.prog 6 #[.int .i64 n, .int .i64 k, .slice x l c] w fun e w' => e = .returned (.bool true) ∧ Kept w w' := by
  have HN : Hid (∀ w, _) := fun w => new_bad n w hn
  clear hn
  go_enter Try.func6, Try.ntmps6
  go_wp2_with fail
  refine (first_any _).mono ?_
  rintro e w1 ⟨rfl, k1⟩
  have K1 : Hid (Kept w w1) := k1
  clear k1
  go_wp2_with fail
  refine (HN.out _).mono ?_
  rintro e w2 ⟨rfl, rfl⟩
  go_wp2_with fail
  refine (first_any _).mono ?_
  rintro e w3 ⟨rfl, k3⟩
  have K3 : Hid (Kept w w3) := K1.out.trans k3
  clear k3
  go_wp2
  go_ret
  exact ⟨rfl, K3.out⟩

set_option maxHeartbeats 2000000 in
set_option maxRecDepth 20000 in
theorem low_out (n : Nat) (k : Int) (x : Option Addr) (l c : Nat) (w : World) (hn : n ≤ 1024) (ho : ¬ (1 ≤ n ∧ n ≤ 200 ∧ l ≤ 500)) :
    Calls Try.prog 6 #[.int .i64 n, .int .i64 k, .slice x l c] w fun e w' => e = .returned (.bool true) ∧ Kept w w' := by
  go_enter Try.func6, Try.ntmps6
  go_wp2_with fail
  refine (first_any _).mono ?_
  rintro e w1 ⟨rfl, k1⟩
  have K1 : Hid (Kept w w1) := k1
  clear k1
  go_wp2_with fail
  refine (new_any n _ hn).mono ?_
  rintro e w2 ⟨b, g, rfl, _, _, _, k2⟩
  have K2 : Hid (Kept w w2) := K1.out.trans k2
  clear k2 K1
  rcases (show ((n : Int) < 1) ∨ (1 ≤ (n : Int) ∧ 200 < (n : Int)) ∨ (1 ≤ (n : Int) ∧ (n : Int) ≤ 200 ∧ 500 < (l : Int)) by omega) with h | ⟨h, h1⟩ | ⟨h, h1, h2⟩
  all_goals clear ho hn
  all_goals go_wp2_with fail
  all_goals (refine (first_any _).mono ?_; rintro e w3 ⟨rfl, k3⟩)
  all_goals (have K3 : Hid (Kept w w3) := K2.out.trans k3; clear k3)
  all_goals go_wp2
  all_goals go_ret
  all_goals exact ⟨rfl, K3.out⟩

set_option maxHeartbeats 8000000 in
set_option maxRecDepth 20000 in
theorem low_in (n m : Nat) (k q : Int) (x : Option Addr) (l c : Nat) (L : Nat → Int) (w : World) (hn1 : 1 ≤ (n : Int)) (hn : (n : Int) ≤ 200) (hl : (l : Int) ≤ 500) (hL : Ints w x l L) (hm : m = min k.toNat n)
    (hq : (if (n : Int) < k then (n : Int) else k) = q) (hq2 : (if q > 0 then q else 0) = m) (hmn : m ≤ n) :
    Calls Try.prog 6 #[.int .i64 n, .int .i64 k, .slice x l c] w fun e w' => e = .returned (.bool true) ∧ Kept w w' := by
  have HL : Hid (Ints w x l L) := hL
  have HE : Hid (lowL n F1 k = List.range' 0 m) := lowL_F1 hm
  clear hm hL
  go_enter Try.func6, Try.ntmps6
  go_wp2_with fail
  refine (first_any _).mono ?_
  rintro e w1 ⟨rfl, k1⟩
  have K1 : Hid (Kept w w1) := k1
  clear k1
  go_wp2_with fail
  refine (new_any n _ (by omega)).mono ?_
  rintro e w2 ⟨b, g, rfl, ht, hb, hg, k2⟩
  have H2 : Hid (PTab 46 w2 b g n F1 ∧ w.heap.size ≤ g ∧ Kept w w2) := ⟨ht, by have := K1.out.size; omega, K1.out.trans k2⟩
  clear ht hb hg k2 K1
  go_wp2_with fail
  refine (low_any k _ H2.out.1).mono ?_
  rintro e w3 ⟨v, rfl, hgot, hp, hm⟩
  rw [HE.out] at hgot hp
  rw [drop_F1] at hp
  obtain ⟨y, d, rfl⟩ := hgot.form
  have e0 : (List.range' 0 m).length = m := by simp
  rw [e0]
  clear e0
  have H3 : Hid (Lo w w3 b g n m (above m) ∧ Rd w3 y (List.range' 0 m)) := ⟨⟨hp, H2.out.2.1, H2.out.2.2.muts hm (by simpa using H2.out.2.1), fun j h1 _ => by simp [above, h1]⟩, hgot.rd⟩
  clear hgot hp hm H2 HE
  have z0 : ((m : Int) != (m : Int)) = false := by simp
  go_wp2
  clear hq hq2 z0
  go_loopg [10] m (fun t i wr => ∃ j : Nat, i = .int .i64 j ∧ j ≤ m ∧ t = m - j ∧ wr = w3)
  case atStart => exact ⟨0, rfl, by omega, by omega, rfl⟩
  case round =>
    obtain ⟨j, rfl, hj, hm, rfl⟩ := hrel
    have HM : Hid _ := hm
    clear hm
    by_cases hlt : j < m
    · obtain ⟨gl, rfl, _, cl⟩ := H3.out.2 (by simp; omega)
      have c1 := cl j (by simpa using hlt)
      simp only [List.getElem_range', Nat.zero_add, Nat.one_mul] at c1
      clear cl
      have z0 : ((j : Int) != (j : Int)) = false := by simp
      have hh : Hid (hasB n (above m) j = false) := by simp [Hid, hasB, above]; omega
      go_wp2_with fail
      refine (has_any j _ H3.out.1.tab).mono ?_
      rintro e w4 ⟨rfl, rfl⟩
      rw [hh.out]
      go_wp2
      go_roundg (gk - 1)
      all_goals (have := HM.out; try omega)
      exact ⟨j + 1, by go_num, by omega, by omega, rfl⟩
    · obtain rfl : j = m := by omega
      clear HM
      go_wp2
      go_loopg [11, 12] l (fun t back i wr => ∃ (a : Nat) (F : Nat → Bool), i = .int .i64 a ∧ a ≤ l ∧ t = l - a ∧ back = .int .i64 (cntB F j) ∧ Hid (Lo w wr b g n j F))
      case atStart =>
        refine ⟨0, above j, rfl, by omega, by omega, ?_, H3.out.1⟩
        have : cntB (above j) j = 0 := by
          have h : ∀ i, i ≤ j → cntB (above j) i = 0 := fun i => by
            induction i with
            | zero => intro _; rfl
            | succ i ih => intro hi; simp [cntB, ih (by omega), above]; omega
          exact h j (Nat.le_refl _)
        rw [this]; rfl
      case round =>
        clear H3
        obtain ⟨a, F, rfl, ha, hm, rfl, hw⟩ := hrel
        have HM : Hid _ := hm
        clear hm
        have hc := cntB_le F j
        by_cases hla : a < l
        · obtain ⟨gx, ox, rfl, hgx, cx⟩ := (HL.out.kept hw.out.kept).at (by omega)
          have c1 := cx a hla
          clear cx hgx
          generalize L a = v at *
          have C2 : Hid (Calls _ _ _ _ _) := give_any v _ hw.out.tab
          have C1 : Hid (Calls _ _ _ _ _) := has_any v _ hw.out.tab
          rcases (show v < 0 ∨ (0 ≤ v ∧ (j : Int) ≤ v) ∨ (0 ≤ v ∧ v < j) by omega) with h0 | ⟨h0, h1⟩ | ⟨h0, h1⟩
          · have hg0 : giveB n F v = false := by simp [giveB, inn]; omega
            have G0 : Hid (giveB n F v = false ∧ giveF n F v = F) := ⟨hg0, give_no hg0⟩
            clear hg0
            go_wp2_with fail
            refine C2.out.mono ?_
            rintro e w4 ⟨rfl, ht, hm⟩
            rw [G0.out.2] at ht
            have HW : Hid (Lo w w4 b g n j F) := hw.out.step ht hm hw.out.top
            clear ht hm hw C1 C2
            rw [G0.out.1]
            go_wp2
            go_roundg (gk - 1)
            all_goals (have := HM.out; try omega)
            exact ⟨a + 1, F, by go_num, by omega, by omega, rfl, HW⟩
          · have hg0 : giveB n F v = false := by
              cases hv : inn n v
              · simp [giveB, hv]
              · obtain ⟨u, rfl, hu⟩ := inn_iff hv
                simp [giveB, hw.out.top u (by omega) hu]
            have G0 : Hid (giveB n F v = false ∧ giveF n F v = F) := ⟨hg0, give_no hg0⟩
            clear hg0
            go_wp2_with fail
            refine C2.out.mono ?_
            rintro e w4 ⟨rfl, ht, hm⟩
            rw [G0.out.2] at ht
            have HW : Hid (Lo w w4 b g n j F) := hw.out.step ht hm hw.out.top
            clear ht hm hw C1 C2
            rw [G0.out.1]
            go_wp2
            go_roundg (gk - 1)
            all_goals (have := HM.out; try omega)
            exact ⟨a + 1, F, by go_num, by omega, by omega, rfl, HW⟩
          · obtain ⟨u, rfl⟩ : ∃ u : Nat, v = u := ⟨v.toNat, by omega⟩
            have hu : inn n u = true := inn_of (by omega)
            cases hf : F u
            · have G0 : Hid (hasB n F u = false ∧ giveB n F u = true ∧ giveF n F u = setB F u true ∧ cntB (setB F u true) j = cntB F j + 1) := ⟨by simp [hasB, hf], by simp [giveB, hf, hu], by rw [give_yes (by simp [giveB, hf, hu])]; simp, cntB_set_true hf (by omega)⟩
              clear hu hf
              go_wp2_with fail
              refine C1.out.mono ?_
              rintro e w4 ⟨rfl, rfl⟩
              rw [G0.out.1]
              go_wp2_with fail
              refine C2.out.mono ?_
              rintro e w4 ⟨rfl, ht, hm⟩
              rw [G0.out.2.2.1] at ht
              have HW : Hid (Lo w w4 b g n j (setB F u true)) := hw.out.step ht hm (set_top hw.out.top)
              clear ht hm hw C1 C2
              rw [G0.out.2.1]
              go_wp2
              go_roundg (gk - 1)
              all_goals (have := HM.out; try omega)
              exact ⟨a + 1, setB F u true, by go_num, by omega, by omega, by rw [G0.out.2.2.2]; go_num, HW⟩
            · have hg0 : giveB n F u = false := by simp [giveB, hf]
              have G0 : Hid (hasB n F u = true ∧ giveB n F u = false ∧ giveF n F u = F) := ⟨by simp [hasB, hf, hu], hg0, give_no hg0⟩
              clear hu hf hg0
              go_wp2_with fail
              refine C1.out.mono ?_
              rintro e w4 ⟨rfl, rfl⟩
              rw [G0.out.1]
              go_wp2_with fail
              refine C2.out.mono ?_
              rintro e w4 ⟨rfl, ht, hm⟩
              rw [G0.out.2.2] at ht
              have HW : Hid (Lo w w4 b g n j F) := hw.out.step ht hm hw.out.top
              clear ht hm hw C1 C2
              rw [G0.out.2.1]
              go_wp2
              go_roundg (gk - 1)
              all_goals (have := HM.out; try omega)
              exact ⟨a + 1, F, by go_num, by omega, by omega, rfl, HW⟩
        · obtain rfl : a = l := by omega
          clear HM HL
          go_wp2
          go_loopg [11, 14] j (fun t back i wr => ∃ (a : Nat) (F : Nat → Bool), i = .int .i64 a ∧ a ≤ j ∧ t = j - a ∧ back = .int .i64 (cntB F j) ∧ Hid (Lo w wr b g n j F ∧ ∀ i, i < a → F i = true))
          case atStart => exact ⟨0, F, rfl, by omega, by omega, rfl, hw.out, fun i h => by omega⟩
          case round =>
            clear hw hc
            clear F
            obtain ⟨a, F, rfl, ha, hm, rfl, hw⟩ := hrel
            have HM : Hid _ := hm
            clear hm
            have hc := cntB_le F j
            have C1 : Hid (∀ i, Calls _ _ _ _ _) := fun i => has_any i _ hw.out.1.tab
            have C2 : Hid (∀ i, Calls _ _ _ _ _) := fun i => give_any i _ hw.out.1.tab
            by_cases hla : a < j
            · have hu : inn n a = true := inn_of (by omega)
              cases hf : F a
              · have G0 : Hid (hasB n F a = false ∧ giveB n F a = true ∧ giveF n F a = setB F a true ∧ cntB (setB F a true) j = cntB F j + 1) := ⟨by simp [hasB, hf], by simp [giveB, hf, hu], by rw [give_yes (by simp [giveB, hf, hu])]; simp, cntB_set_true hf (by omega)⟩
                clear hu hf
                go_wp2_with fail
                refine (C1.out a).mono ?_
                rintro e w4 ⟨rfl, rfl⟩
                rw [G0.out.1]
                go_wp2_with fail
                refine (C2.out a).mono ?_
                rintro e w4 ⟨rfl, ht, hm⟩
                rw [G0.out.2.2.1] at ht
                have HW : Hid (Lo w w4 b g n j (setB F a true) ∧ ∀ i, i < a + 1 → setB F a true i = true) := ⟨hw.out.1.step ht hm (set_top hw.out.1.top), fun i hi => by
                  by_cases e : i = a
                  · rw [e, setB_same]
                  · rw [setB_other F true e]; exact hw.out.2 i (by omega)⟩
                clear ht hm hw C1 C2
                rw [G0.out.2.1]
                go_wp2
                go_roundg (gk - 1)
                all_goals (have := HM.out; try omega)
                exact ⟨a + 1, setB F a true, by go_num, by omega, by omega, by rw [G0.out.2.2.2]; go_num, HW⟩
              · have G0 : Hid (hasB n F a = true) := by simp [Hid, hasB, hf, hu]
                have HW : Hid (Lo w wr b g n j F ∧ ∀ i, i < a + 1 → F i = true) := ⟨hw.out.1, fun i hi => by
                  by_cases e : i = a
                  · rw [e, hf]
                  · exact hw.out.2 i (by omega)⟩
                clear hu hf hw
                go_wp2_with fail
                refine (C1.out a).mono ?_
                rintro e w4 ⟨rfl, rfl⟩
                rw [G0.out]
                go_wp2
                go_roundg (gk - 1)
                all_goals (have := HM.out; try omega)
                exact ⟨a + 1, F, by go_num, by omega, by omega, rfl, HW⟩
            · obtain rfl : a = j := by omega
              have hall : ∀ i, i < n → F i = true := fun i hi => by
                by_cases h : i < a
                · exact hw.out.2 i h
                · exact hw.out.1.top i (by omega) hi
              have G : Hid (runO n F n = some 0 ∧ cntB F n = n ∧ giveB n F 0 = false) := ⟨runO_some (by omega) (by omega) (runsB_iff.2 fun i hi => by simpa using hall i hi) fun i h1 h2 => by omega, cntB_all hall, by simp [giveB, hall 0 (by omega)]⟩
              have e0 : cntB F a = a := cntB_all fun i hi => hall i (by omega)
              rw [e0]
              clear e0 hall hc
              go_wp2_with fail
              refine (run_any n _ hw.out.1.tab).mono ?_
              rintro e w4 ⟨rfl, rfl⟩
              rw [G.out.1]
              go_wp2_with fail
              refine (first_any _).mono ?_
              rintro e w5 ⟨rfl, k5⟩
              have H5 : Hid (PTab 46 w5 b g n F ∧ Kept w w5) := ⟨hw.out.1.tab.kept k5, hw.out.1.kept.trans k5⟩
              have LG : Hid (w.heap.size ≤ g) := hw.out.1.lg
              clear k5 hw C1 C2
              go_wp2_with fail
              refine (free_any _ H5.out.1).mono ?_
              rintro e w6 ⟨rfl, rfl⟩
              rw [G.out.2.1]
              have z1 : runV (some 0) = 0 := rfl
              rw [z1]
              go_wp2_with fail
              refine (give_any 0 _ H5.out.1).mono ?_
              rintro e w7 ⟨rfl, _, hm⟩
              have K7 : Hid (Kept w w7) := H5.out.2.muts hm (by simpa using LG.out)
              clear hm
              rw [G.out.2.2]
              go_wp2
              go_ret
              refine ⟨?_, K7.out⟩
              simp

theorem poolLow_any (n0 : Int) (n1 : Int) (x2 : Option Addr) (l2 c2 : Nat) (L2 : Nat → Int) (w : World) (_lo0 : IntKind.min .i64 ≤ n0) (_hi0 : n0 ≤ IntKind.max .i64) (_lo1 : IntKind.min .i64 ≤ n1) (_hi1 : n1 ≤ IntKind.max .i64) (_h2c : l2 ≤ c2) (hL2 : Ints w x2 l2 L2) (_hB2 : ∀ i, i < l2 → IntKind.min .i64 ≤ L2 i ∧ L2 i ≤ IntKind.max .i64) :
    Calls Try.prog 6 #[.int .i64 n0, .int .i64 n1, .slice x2 l2 c2] w fun e w' => e = .returned (.bool true) ∧ Kept w w' := by
  by_cases hn : 0 ≤ n0 ∧ n0 ≤ 1024
  · obtain ⟨n, rfl⟩ : ∃ n : Nat, n0 = n := ⟨n0.toNat, by omega⟩
    by_cases ho : 1 ≤ n ∧ n ≤ 200 ∧ l2 ≤ 500
    · refine low_in n (min n1.toNat n) n1 (if (n : Int) < n1 then (n : Int) else n1) x2 l2 c2 L2 w (by omega) (by omega) (by omega) hL2 rfl rfl ?_ (by omega)
      split <;> split <;> omega
    · exact low_out n n1 x2 l2 c2 w (by omega) ho
  · exact low_bad n0 n1 x2 l2 c2 w hn
end Go.Proofs.Ytpgmlnihgnomcaa
