/-
  StockBounds: the walk.
-/
import Derived.Test.YtfeloacafkebhaaFirst9
import Derived.Test.YtfeloacafkebhaaElems
namespace Go.Proofs.Ytfeloacafkebhaa
open Go.RowKit

theorem ints_rdi {w : World} {x : Option Addr} {l : Nat} {L : Nat → Int} (h : Ints w x l L) : ∃ T : List Int, T.length = l ∧ Rdi w x T := by
  refine ⟨(List.range l).map L, by simp, fun h0 => ?_⟩
  simp at h0
  obtain ⟨b, o, e, hb, hc⟩ := h.at h0
  exact ⟨b, o, e, hb, fun j hj => by rw [hc j (by simpa using hj)]; simp⟩

set_option maxHeartbeats 2000000 in
set_option maxRecDepth 20000 in
theorem bounds_bad (n : Int) (x : Option Addr) (l c : Nat) (w : World) (hn : ¬ (0 ≤ n ∧ n ≤ 8)) :
    Calls Try.prog 6 #[.int .i64 n, .slice x l c] w fun e w' => e = .returned (.bool true) ∧ Kept w w' := by
  have HN : Hid (∀ w, _) := fun w => new_bad n w hn
  rcases (show n < 0 ∨ (0 ≤ n ∧ 8 < n) by omega) with h | ⟨h0, h⟩
  all_goals clear hn
  all_goals go_enter Try.func6, Try.ntmps6
  all_goals go_wp2_with fail
  all_goals (refine (first_any _).mono ?_; rintro e w1 ⟨rfl, k1⟩)
  all_goals (have K1 : Hid (Kept w w1) := k1; clear k1)
  all_goals go_wp2_with fail
  all_goals (refine (HN.out _).mono ?_; rintro e w2 ⟨rfl, rfl⟩)
  all_goals go_wp2_with fail
  all_goals (refine (first_any _).mono ?_; rintro e w3 ⟨rfl, k3⟩)
  all_goals (have K3 : Hid (Kept w w3) := K1.out.trans k3; clear k3)
  all_goals go_wp2
  all_goals go_ret
  all_goals exact ⟨rfl, K3.out⟩

set_option maxHeartbeats 2000000 in
set_option maxRecDepth 20000 in
theorem bounds_out (n : Nat) (x : Option Addr) (l c : Nat) (w : World) (hn : n ≤ 8) (ho : 100 < (l : Int)) :
    Calls Try.prog 6 #[.int .i64 n, .slice x l c] w fun e w' => e = .returned (.bool true) ∧ Kept w w' := by
  go_enter Try.func6, Try.ntmps6
  go_wp2_with fail
  refine (first_any _).mono ?_
  rintro e w1 ⟨rfl, k1⟩
  have K1 : Hid (Kept w w1) := k1
  clear k1
  go_wp2_with fail
  refine (new_any n _ hn K1.out.size).mono ?_
  rintro e w2 ⟨b, rfl, _, k2, _⟩
  have K2 : Hid (Kept w w2) := K1.out.trans k2
  clear k2 K1
  go_wp2_with fail
  refine (first_any _).mono ?_
  rintro e w3 ⟨rfl, k3⟩
  have K3 : Hid (Kept w w3) := K2.out.trans k3
  clear k3
  go_wp2
  go_ret
  exact ⟨rfl, K3.out⟩

set_option maxHeartbeats 4000000 in
set_option maxRecDepth 20000 in
theorem bounds_no (n : Nat) (x : Option Addr) (N : List Int) (c : Nat) (w : World) (hn : (n : Int) ≤ 8) (hl : (N.length : Int) ≤ 100) (hf : ¬ (N.length : Int) ≤ (n : Int)) :
    Calls Try.prog 6 #[.int .i64 n, .slice x N.length c] w fun e w' => e = .returned (.bool true) ∧ Kept w w' := by
  have hff : ([] : List Int).length + N.length > n := by simp; omega
  have HF : Hid _ := hff
  clear hff
  generalize hL : N.length = m at *
  go_enter Try.func6, Try.ntmps6
  go_wp2_with fail
  refine (first_any _).mono ?_
  rintro e w1 ⟨rfl, k1⟩
  have K1 : Hid (Kept w w1) := k1
  clear k1
  go_wp2_with fail
  refine (new_any n _ (by omega) K1.out.size).mono ?_
  rintro e w2 ⟨b, rfl, ht, k2, _⟩
  have H2 : Hid (STab 46 w2 w.heap.size b n (.slice none 0 0) [] ∧ Kept w w2) := ⟨ht, K1.out.trans k2⟩
  clear k2 K1 ht
  go_wp2_with fail
  subst hL
  refine (put_no (N := N) (T := []) _ H2.out.1 (by have := HF.out; omega)).mono ?_
  rintro e w3 ⟨rfl, k3⟩
  have H3 : Hid (STab 46 w3 w.heap.size b n (.slice none 0 0) [] ∧ Kept w w3) := ⟨H2.out.1.kept k3, H2.out.2.trans k3⟩
  clear k3 H2
  generalize N.length = m at *
  have z0 : (((([] : List Int).length : Nat)) : Int) = 0 := rfl
  have z1 : decide ((m : Int) ≤ (n : Int)) = false := decide_eq_false (by omega)
  have z2 : ((n : Int) != (n : Int)) = false := by simp
  go_wp2_with fail
  refine (len_any _ H3.out.1).mono ?_
  rintro e w4 ⟨rfl, rfl⟩
  rw [z0]
  go_wp2_with fail
  refine (room_any _ H3.out.1).mono ?_
  rintro e w5 ⟨rfl, k5⟩
  rw [z0]
  have H5 : Hid (STab 46 w5 w.heap.size b n (.slice none 0 0) [] ∧ Kept w w5) := ⟨H3.out.1.kept k5, H3.out.2.trans k5⟩
  clear k5 H3
  go_wp2_with fail
  refine (len_any _ H5.out.1).mono ?_
  rintro e w6 ⟨rfl, rfl⟩
  rw [z0]
  go_wp2_with fail
  refine (len_any _ H5.out.1).mono ?_
  rintro e w7 ⟨rfl, rfl⟩
  rw [z0]
  go_wp2_with fail
  refine (drain_any _ H5.out.1).mono ?_
  rintro e w8 ⟨rfl, s8, m8⟩
  have H8 : Hid (STab 46 w8 w.heap.size b n (.slice none 0 0) [] ∧ Kept w w8) := ⟨s8, H5.out.2.muts m8 (by simpa using s8.lo)⟩
  clear s8 m8 H5
  go_wp2_with fail
  refine (take_no 1 _ H8.out.1 (by simp)).mono ?_
  rintro e w9 ⟨rfl, rfl⟩
  go_wp2_with fail
  refine (first_any _).mono ?_
  rintro e w10 ⟨rfl, k10⟩
  have H10 : Hid (STab 46 w10 w.heap.size b n (.slice none 0 0) [] ∧ Kept w w10) := ⟨H8.out.1.kept k10, H8.out.2.trans k10⟩
  clear k10 H8
  go_wp2_with fail
  refine (len_any _ H10.out.1).mono ?_
  rintro e w11 ⟨rfl, rfl⟩
  rw [z0]
  go_wp2_with fail
  refine (room_any _ H10.out.1).mono ?_
  rintro e w12 ⟨rfl, k12⟩
  rw [z0]
  have K12 : Hid (Kept w w12) := H10.out.2.trans k12
  clear k12 H10
  go_wp2
  go_ret
  exact ⟨by simp, K12.out⟩

set_option maxHeartbeats 4000000 in
set_option maxRecDepth 20000 in
theorem bounds_yes (n : Nat) (x : Option Addr) (N : List Int) (c : Nat) (w : World) (hx : Rdi w x N) (hn : (n : Int) ≤ 8) (hf : (N.length : Int) ≤ (n : Int)) :
    Calls Try.prog 6 #[.int .i64 n, .slice x N.length c] w fun e w' => e = .returned (.bool true) ∧ Kept w w' := by
  have HX : Hid (Rdi w x N) := hx
  clear hx
  have HF : Hid (([] : List Int).length + N.length ≤ n) := by simp [Hid]; omega
  go_enter Try.func6, Try.ntmps6
  go_wp2_with fail
  refine (first_any _).mono ?_
  rintro e w1 ⟨rfl, k1⟩
  have K1 : Hid (Kept w w1) := k1
  clear k1
  go_wp2_with fail
  refine (new_any n _ (by omega) K1.out.size).mono ?_
  rintro e w2 ⟨b, rfl, ht, k2, _⟩
  have H2 : Hid (STab 46 w2 w.heap.size b n (.slice none 0 0) [] ∧ Kept w w2) := ⟨ht, K1.out.trans k2⟩
  clear k2 K1 ht
  go_wp2_with fail
  refine (put_yes (N := N) (T := []) _ H2.out.1 (HX.out.kept H2.out.2) HF.out).mono ?_
  rintro e w3 ⟨rfl, v3, s3, m3, f3⟩
  have H3 : Hid (STab 46 w3 w.heap.size b n v3 N ∧ Kept w w3) := ⟨by simpa using s3, H2.out.2.muts m3 (by simpa [Value.ownBlock] using s3.lo)⟩
  clear s3 m3 f3 H2 HX
  have z1 : decide ((N.length : Int) ≤ (n : Int)) = true := decide_eq_true hf
  go_wp2_with fail
  refine (len_any _ H3.out.1).mono ?_
  rintro e w4 ⟨rfl, rfl⟩
  have z2 : ((n : Int) != (n : Int)) = false := by simp
  have z3 : ((N.length : Int) != (N.length : Int)) = false := by simp
  have z4 : ((N.length : Int) == (N.length : Int)) = true := by simp
  by_cases h0 : (N.length : Int) = 0
  · have y0 : ((N.length : Int) != 0) = false := by simpa using h0
    clear h0
    go_wp2_with fail
    refine (room_any _ H3.out.1).mono ?_
    rintro e w5 ⟨rfl, k5⟩
    have H5 : Hid (STab 46 w5 w.heap.size b n v3 N ∧ Kept w w5) := ⟨H3.out.1.kept k5, H3.out.2.trans k5⟩
    clear k5 H3
    go_wp2_with fail
    refine (len_any _ H5.out.1).mono ?_
    rintro e w6 ⟨rfl, rfl⟩
    have q0 : (n : Int) - (N.length : Int) + (N.length : Int) = (n : Int) := by omega
    go_wp2_with fail
    refine (len_any _ H5.out.1).mono ?_
    rintro e w7 ⟨rfl, rfl⟩
    obtain ⟨y3, d3, rfl⟩ := H5.out.1.lst.form
    go_wp2_with fail
    refine (drain_any _ H5.out.1).mono ?_
    rintro e w8 ⟨rfl, s8, m8⟩
    have H8 : Hid (STab 46 w8 w.heap.size b n (.slice none 0 0) [] ∧ Kept w w8) := ⟨s8, H5.out.2.muts m8 (by simpa using s8.lo)⟩
    clear s8 m8 H5
    have w0 : (((([] : List Int).length : Nat)) : Int) = 0 := rfl
    go_wp2_with fail
    refine (take_no 1 _ H8.out.1 (by simp)).mono ?_
    rintro e w9 ⟨rfl, rfl⟩
    go_wp2_with fail
    refine (first_any _).mono ?_
    rintro e w10 ⟨rfl, k10⟩
    have H10 : Hid (STab 46 w10 w.heap.size b n (.slice none 0 0) [] ∧ Kept w w10) := ⟨H8.out.1.kept k10, H8.out.2.trans k10⟩
    clear k10 H8
    go_wp2_with fail
    refine (len_any _ H10.out.1).mono ?_
    rintro e w11 ⟨rfl, rfl⟩
    rw [w0]
    go_wp2_with fail
    refine (room_any _ H10.out.1).mono ?_
    rintro e w12 ⟨rfl, k12⟩
    rw [w0]
    have K12 : Hid (Kept w w12) := H10.out.2.trans k12
    clear k12 H10
    go_wp2
    go_ret
    exact ⟨by simp, K12.out⟩
  · have y0 : ((N.length : Int) != 0) = true := by simpa using h0
    clear h0
    go_wp2_with fail
    refine (len_any _ H3.out.1).mono ?_
    rintro e w4 ⟨rfl, rfl⟩
    go_wp2_with fail
    refine (room_any _ H3.out.1).mono ?_
    rintro e w5 ⟨rfl, k5⟩
    have H5 : Hid (STab 46 w5 w.heap.size b n v3 N ∧ Kept w w5) := ⟨H3.out.1.kept k5, H3.out.2.trans k5⟩
    clear k5 H3
    go_wp2_with fail
    refine (len_any _ H5.out.1).mono ?_
    rintro e w6 ⟨rfl, rfl⟩
    have q0 : (n : Int) - (N.length : Int) + (N.length : Int) = (n : Int) := by omega
    go_wp2_with fail
    refine (len_any _ H5.out.1).mono ?_
    rintro e w7 ⟨rfl, rfl⟩
    obtain ⟨y3, d3, rfl⟩ := H5.out.1.lst.form
    go_wp2_with fail
    refine (drain_any _ H5.out.1).mono ?_
    rintro e w8 ⟨rfl, s8, m8⟩
    have H8 : Hid (STab 46 w8 w.heap.size b n (.slice none 0 0) [] ∧ Kept w w8) := ⟨s8, H5.out.2.muts m8 (by simpa using s8.lo)⟩
    clear s8 m8 H5
    have w0 : (((([] : List Int).length : Nat)) : Int) = 0 := rfl
    go_wp2_with fail
    refine (take_no 1 _ H8.out.1 (by simp)).mono ?_
    rintro e w9 ⟨rfl, rfl⟩
    go_wp2_with fail
    refine (first_any _).mono ?_
    rintro e w10 ⟨rfl, k10⟩
    have H10 : Hid (STab 46 w10 w.heap.size b n (.slice none 0 0) [] ∧ Kept w w10) := ⟨H8.out.1.kept k10, H8.out.2.trans k10⟩
    clear k10 H8
    go_wp2_with fail
    refine (len_any _ H10.out.1).mono ?_
    rintro e w11 ⟨rfl, rfl⟩
    rw [w0]
    go_wp2_with fail
    refine (room_any _ H10.out.1).mono ?_
    rintro e w12 ⟨rfl, k12⟩
    rw [w0]
    have K12 : Hid (Kept w w12) := H10.out.2.trans k12
    clear k12 H10
    go_wp2
    go_ret
    exact ⟨by simp, K12.out⟩

theorem stockBounds_any (n0 : Int) (x1 : Option Addr) (l1 c1 : Nat) (L1 : Nat → Int) (w : World) (_lo0 : IntKind.min .i64 ≤ n0) (_hi0 : n0 ≤ IntKind.max .i64) (_h1c : l1 ≤ c1) (hL1 : Ints w x1 l1 L1) (_hB1 : ∀ i, i < l1 → IntKind.min .i64 ≤ L1 i ∧ L1 i ≤ IntKind.max .i64) :
    Calls Try.prog 6 #[.int .i64 n0, .slice x1 l1 c1] w fun e w' => e = .returned (.bool true) ∧ Kept w w' := by
  by_cases hn : 0 ≤ n0 ∧ n0 ≤ 8
  · obtain ⟨n, rfl⟩ : ∃ n : Nat, n0 = n := ⟨n0.toNat, by omega⟩
    by_cases ho : 100 < (l1 : Int)
    · exact bounds_out n x1 l1 c1 w (by omega) ho
    · obtain ⟨T, rfl, hT⟩ := ints_rdi hL1
      by_cases hf : (T.length : Int) ≤ (n : Int)
      · exact bounds_yes n x1 T c1 w hT hn.2 hf
      · exact bounds_no n x1 T c1 w hn.2 (by omega) hf
  · exact bounds_bad n0 x1 l1 c1 w hn
end Go.Proofs.Ytfeloacafkebhaa
