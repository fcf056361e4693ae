/-
  StockSides: the walk.
-/
import Derived.Test.YtfeloacafkebhaaFirst9
namespace Go.Proofs.Ytfeloacafkebhaa
open Go.RowKit

/-- j numbers, side by side, the first one f. -/
def upL (f : Int) : Nat → List Int
  | 0 => []
  | j + 1 => upL f j ++ [f + (j : Int)]
theorem upL_len (f : Int) : ∀ j, (upL f j).length = j
  | 0 => rfl
  | j + 1 => by rw [upL, List.length_append, upL_len f j]; rfl
theorem upL_get (f : Int) : ∀ j i, (h : i < (upL f j).length) → (upL f j)[i] = f + (i : Int)
  | 0, i, h => by simp [upL] at h
  | j + 1, i, h => by
    by_cases e : i < (upL f j).length
    · have := upL_get f j i e
      simp only [upL]
      rw [List.getElem_append_left e]
      exact this
    · simp only [upL]
      rw [List.getElem_append_right (by omega)]
      simp only [upL, List.length_append, List.length_singleton] at h
      have := upL_len f j
      obtain rfl : i = j := by omega
      simp
theorem rdf_row {w : World} {g cap n : Nat} {f : Nat → Value} {L : Nat → Int} (h : w.rowIs g 3 cap f) (hn : n ≤ cap) (hf : ∀ j, j < n → f j = .int .i64 (L j)) : Rdf w (some ⟨g, 0, none⟩) n L :=
  fun _ => ⟨g, 0, rfl, h.lt, fun j hj => by rw [Nat.zero_add, h.cell (by omega), hf j hj]⟩
/-- One of them, 3 more: not side by side any more. -/
theorem side_not {f : Int} {n k : Nat} (hn : 2 ≤ n) (hk : k < n) : sideU (fun j => if j = k then f + (k : Int) + 3 else f + (j : Int)) n = false := by
  cases k with
  | zero => exact sideU_at (k := 0) (by omega) (by simp; omega)
  | succ k => exact sideU_at (k := k) (by omega) (by simp; omega)

set_option maxHeartbeats 2000000 in
set_option maxRecDepth 20000 in
theorem sides_out (f n a : Int) (w : World) (ho : n < 0 ∨ (0 ≤ n ∧ 200 < n) ∨ (0 ≤ n ∧ n ≤ 200 ∧ f < -1099511627776) ∨ (0 ≤ n ∧ n ≤ 200 ∧ -1099511627776 ≤ f ∧ 1099511627776 < f) ∨ (0 ≤ n ∧ n ≤ 200 ∧ -1099511627776 ≤ f ∧ f ≤ 1099511627776 ∧ a < 0)) :
    Calls Try.prog 5 #[.int .i64 f, .int .i64 n, .int .i64 a] w fun e w' => e = .returned (.bool true) ∧ Kept w w' := by
  rcases ho with h | ⟨h1, h⟩ | ⟨h1, h2, h⟩ | ⟨h1, h2, h3, h⟩ | ⟨h1, h2, h3, h4, h⟩
  all_goals go_enter Try.func5, Try.ntmps5
  all_goals go_wp2_with fail
  all_goals (refine (first_any _).mono ?_; rintro e w1 ⟨rfl, k1⟩)
  all_goals (have K1 : Hid (Kept w w1) := k1; clear k1)
  all_goals go_wp2_with fail
  all_goals (refine (first_any _).mono ?_; rintro e w3 ⟨rfl, k3⟩)
  all_goals (have K3 : Hid (Kept w w3) := K1.out.trans k3; clear k3)
  all_goals go_wp2
  all_goals go_ret
  all_goals exact ⟨rfl, K3.out⟩

set_option maxHeartbeats 4000000 in
set_option maxRecDepth 20000 in
theorem sides_in (f : Int) (n a : Nat) (w : World) (hf0 : -1099511627776 ≤ f) (hf1 : f ≤ 1099511627776) (hn : (n : Int) ≤ 200) (ha : (a : Int) ≤ 9223372036854775807) :
    Calls Try.prog 5 #[.int .i64 f, .int .i64 n, .int .i64 a] w fun e w' => e = .returned (.bool true) ∧ Kept w w' := by
  go_enter Try.func5, Try.ntmps5
  go_wp2_with fail
  refine (first_any _).mono ?_
  rintro e w1 ⟨rfl, k1⟩
  have K1 : Hid (Kept w w1) := k1
  clear k1
  go_wp2
  go_loopg [7, 8] n (fun m v i wr => ∃ j : Nat, i = .int .i64 j ∧ j ≤ n ∧ m = n - j ∧ Hid (Lst wr w.heap.size v (upL f j) ∧ Kept w wr))
  case atStart => exact ⟨0, rfl, by omega, by omega, Lst.nil _ _, K1.out⟩
  case round =>
    clear K1
    obtain ⟨j, rfl, hj, hm, hw⟩ := hrel
    have HM : Hid _ := hm
    clear hm
    obtain ⟨x, c, rfl⟩ := hw.out.1.form
    have HL : Hid (∀ i, (upL f i).length = i) := upL_len f
    by_cases hlt : j < n
    · have HA : Hid (Lst (wr.alloc (.cells #[.int .i64 (f + (j : Int))] 3)) w.heap.size (.slice x (upL f j).length c) (upL f j)) := hw.out.1.alloc _ _
      have HX : Hid (Rdi (wr.alloc (.cells #[.int .i64 (f + (j : Int))] 3)) (some ⟨wr.heap.size, 0, none⟩) [f + (j : Int)]) := rdi_lit wr [f + (j : Int)]
      have z1 : w.heap.size ≤ (wr.alloc (.cells #[.int .i64 (f + (j : Int))] 3)).heap.size := by have := hw.out.2.size; simp; omega
      have z2 : (upL f j).length + [f + (j : Int)].length ≤ 1000000 := by rw [HL.out]; simp; omega
      go_wp2_with (at_builtin; refine wpList_append_lst (T := upL f j) (N := [f + (j : Int)]) rfl _ _ rfl rfl HA.out z1 rfl rfl HX.out z2 ?_)
      intro v2 w2 l2 m2 f2
      have H2 : Hid (Lst w2 w.heap.size v2 (upL f (j + 1)) ∧ Kept w w2) := ⟨l2, (hw.out.2.alloc _ _).muts m2 (fun k hk => (hw.out.1.lt k (by simpa using hk)).1)⟩
      clear l2 m2 f2 z1 z2
      obtain ⟨y2, d2, rfl⟩ := H2.out.1.form
      go_wp2
      go_roundg (gk - 1)
      all_goals (have := HM.out; try omega)
      exact ⟨j + 1, by go_num, by omega, by omega, H2.out⟩
    · obtain rfl : j = n := by omega
      rw [HL.out]
      have HS := side_any (c := c) (l := j) (L := fun i => f + (i : Int)) wr (by omega) (fun h0 => by
        obtain ⟨g, o, e, hg, hc⟩ := hw.out.1.rdi (by rw [HL.out]; exact h0)
        exact ⟨g, o, e, hg, fun i hi => by rw [hc i (by rw [HL.out]; exact hi), upL_get]⟩) (fun i hi => by
          have e1 : IntKind.min .i64 = -9223372036854775808 := by decide
          have e2 : IntKind.max .i64 = 9223372036854775807 := by decide
          rw [e1, e2]
          omega)
      have ey : sideU (fun i => f + (i : Int)) j = true := sideU_yes fun i _ => by omega
      rw [ey] at HS
      clear ey
      go_wp2_with fail
      refine HS.mono ?_
      rintro e w4 ⟨rfl, k4⟩
      have H4 : Hid (Lst w4 w.heap.size (.slice x j c) (upL f j) ∧ Kept w w4) := ⟨by have := hw.out.1.kept k4; rwa [HL.out] at this, hw.out.2.trans k4⟩
      clear k4 hw HS
      go_wp2_with fail
      refine (side_any (l := 0) (L := fun _ => 0) _ (by decide) (fun h => by omega) (fun j h => by omega)).mono ?_
      rintro e w5 ⟨rfl, k5⟩
      have H5 : Hid (Lst w5 w.heap.size (.slice x j c) (upL f j) ∧ Kept w w5) := ⟨H4.out.1.kept k5, H4.out.2.trans k5⟩
      have e1 : sideU (fun _ => 0) 0 = true := rfl
      rw [e1]
      clear k5 H4 e1
      by_cases h2 : (j : Int) < 2
      · go_wp2_with fail
        refine (first_any _).mono ?_
        rintro e w9 ⟨rfl, k9⟩
        have K9 : Hid (Kept w w9) := H5.out.2.trans k9
        clear k9
        go_wp2
        go_ret
        exact ⟨rfl, K9.out⟩
      · obtain ⟨g, o, rfl, _, _⟩ := H5.out.1.rdi (by rw [HL.out]; omega)
        obtain rfl : o = 0 := by
          rcases H5.out.1.2 with ⟨e, _⟩ | ⟨g', cap, cur, e, _⟩
          · cases e
          · have := (Value.slice.inj e).1; simp at this; exact this.2
        obtain ⟨q1, q2, q3, F, hF, hFv⟩ := H5.out.1.row
        rw [HL.out] at q1
        obtain ⟨k, hk, hkn⟩ : ∃ k : Nat, Int.tmod (a : Int) (j : Int) = (k : Int) ∧ k < j := ⟨a % j, by rw [← Int.ofNat_tmod], Nat.mod_lt _ (by omega)⟩
        have hFv' : ∀ i, i < j → F i = .int .i64 (f + (i : Int)) := fun i hi => by
          rw [hFv i (by rw [HL.out]; exact hi), upL_get]
        have ck := hF.cell (i := k) (by omega)
        rw [hFv' k hkn] at ck
        have cf := hF.frozen
        have H6 : Hid (Rdf (w5.setCell ⟨g, k, none⟩ (.int .i64 (f + (k : Int) + 3))) (some ⟨g, 0, none⟩) j (fun i => if i = k then f + (k : Int) + 3 else f + (i : Int)) ∧ Kept w (w5.setCell ⟨g, k, none⟩ (.int .i64 (f + (k : Int) + 3)))) :=
          ⟨rdf_row (hF.set k _) q1 (fun i hi => by by_cases e : i = k <;> simp [e, hFv' i hi]), H5.out.2.setCell (a := ⟨g, k, none⟩) q3 _⟩
        have HN : Hid (sideU (fun i => if i = k then f + (k : Int) + 3 else f + (i : Int)) j = false) := side_not (by omega) hkn
        clear hF hFv hFv' H5 q2 q3 q1
        go_wp2_with fail
        refine (first_any _).mono ?_
        rintro e w7 ⟨rfl, k7⟩
        have H7 : Hid (Rdf w7 (some ⟨g, 0, none⟩) j (fun i => if i = k then f + (k : Int) + 3 else f + (i : Int)) ∧ Kept w w7) := ⟨H6.out.1.kept k7, H6.out.2.trans k7⟩
        clear k7 H6 ck cf
        go_wp2_with fail
        refine (side_any (L := fun i => if i = k then f + (k : Int) + 3 else f + (i : Int)) w7 (by omega) H7.out.1 (fun i hi => by
          have e1 : IntKind.min .i64 = -9223372036854775808 := by decide
          have e2 : IntKind.max .i64 = 9223372036854775807 := by decide
          rw [e1, e2]
          show _ ≤ (if i = k then f + (k : Int) + 3 else f + (i : Int)) ∧ (if i = k then f + (k : Int) + 3 else f + (i : Int)) ≤ _
          split <;> omega)).mono ?_
        rintro e w8 ⟨rfl, k8⟩
        have K8 : Hid (Kept w w8) := H7.out.2.trans k8
        clear k8 H7
        rw [HN.out]
        go_wp2
        go_ret
        exact ⟨rfl, K8.out⟩

theorem stockSides_any (n0 : Int) (n1 : Int) (n2 : Int) (w : World) (_lo0 : IntKind.min .i64 ≤ n0) (_hi0 : n0 ≤ IntKind.max .i64) (_lo1 : IntKind.min .i64 ≤ n1) (_hi1 : n1 ≤ IntKind.max .i64) (lo2 : IntKind.min .i64 ≤ n2) (hi2 : n2 ≤ IntKind.max .i64) :
    Calls Try.prog 5 #[.int .i64 n0, .int .i64 n1, .int .i64 n2] w fun e w' => e = .returned (.bool true) ∧ Kept w w' := by
  have b2 := bnd ⟨lo2, hi2⟩
  by_cases ho : n1 < 0 ∨ (0 ≤ n1 ∧ 200 < n1) ∨ (0 ≤ n1 ∧ n1 ≤ 200 ∧ n0 < -1099511627776) ∨ (0 ≤ n1 ∧ n1 ≤ 200 ∧ -1099511627776 ≤ n0 ∧ 1099511627776 < n0) ∨ (0 ≤ n1 ∧ n1 ≤ 200 ∧ -1099511627776 ≤ n0 ∧ n0 ≤ 1099511627776 ∧ n2 < 0)
  · exact sides_out n0 n1 n2 w ho
  · obtain ⟨n, rfl⟩ : ∃ n : Nat, n1 = n := ⟨n1.toNat, by omega⟩
    obtain ⟨a, rfl⟩ : ∃ a : Nat, n2 = a := ⟨n2.toNat, by omega⟩
    exact sides_in n0 n a w (by omega) (by omega) (by omega) (by omega)
end Go.Proofs.Ytfeloacafkebhaa
