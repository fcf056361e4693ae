/-
  Contracts of package word's functions (None, Ref, Index, Is, Head, Tell) and of the law's own 'first'.
-/
import Derived.Test.YthgekogbehacjaaNum12
import Derived.Test.YthgekogbehacjaaFloH
namespace Go.Proofs.Ythgekogbehacjaa
open Go.RowKit
open Ieee (double)

theorem nn_fi (n : Int) : NN (floatOfInt .f64 n) := by
  unfold NN
  have hinf : double.infRung = 2047 * 2 ^ 52 := by decide
  have hsw : double.signWeight = 2 ^ 63 := by decide
  have key : ∃ s r, floatOfInt .f64 n = double.word s r ∧ r ≤ 2047 * 2 ^ 52 := by
    rw [Flo.fi_eq]
    unfold Flo.F Ieee.Format.nearest
    split
    · exact ⟨_, 0, rfl, by decide⟩
    · exact ⟨_, _, rfl, by rw [← hinf]; exact Nat.min_le_right ..⟩
  obtain ⟨s, r, e, hr⟩ := key
  rw [e]
  unfold Ieee.Format.word
  rw [hsw]
  show (((if s then 2 ^ 63 + r else r : Nat) : Int) * 2) % 18446744073709551616 ≤ 18437736874454810624
  cases s
  · simp only [Bool.false_eq_true, if_false]; omega
  · simp only [if_true]; omega
theorem nn_zero : NN 0 := by unfold NN; decide +kernel
theorem nn_one : NN 4607182418800017408 := by unfold NN; decide +kernel
theorem nb_zero : nb 0 = 0 := by decide +kernel
theorem nb_one : nb 4607182418800017408 = 4607182418800017408 := by decide +kernel
theorem fi_zero : floatOfInt .f64 0 = 0 := by decide +kernel
theorem fi_one : floatOfInt .f64 1 = 4607182418800017408 := by decide +kernel

set_option maxHeartbeats 400000 in
theorem within_yes (n : Int) (w : World) (h1 : 0 ≤ n) (h2 : n ≤ 1099511627776) :
    Calls Try.prog 74 #[.int .i64 n] w fun e w' => e = .returned (.bool true) ∧ w' = w := by
  go_enter Try.func74, Try.ntmps74
  go_wp2
  go_ret
  refine ⟨?_, rfl⟩
  simp

set_option maxHeartbeats 400000 in
theorem within_no (n : Int) (w : World) (h : n < 0 ∨ 1099511627776 < n) :
    Calls Try.prog 74 #[.int .i64 n] w fun e w' => e = .returned (.bool false) ∧ w' = w := by
  by_cases h1 : n < 0
  · clear h
    go_enter Try.func74, Try.ntmps74
    go_wp2
    go_ret
    refine ⟨?_, rfl⟩
    simp
  · have h2 : 1099511627776 < n := by omega
    have h3 : 0 ≤ n := by omega
    clear h h1
    go_enter Try.func74, Try.ntmps74
    go_wp2
    go_ret
    refine ⟨?_, rfl⟩
    simp; omega

set_option maxHeartbeats 400000 in
theorem none_any (w : World) : Calls Try.prog 67 #[] w fun e w' => e = .returned (.complex .f64 0 4607182418800017408) ∧ w' = w := by
  go_enter Try.func67, Try.ntmps67
  go_wp2
  go_ret
  exact ⟨rfl, rfl⟩

set_option maxHeartbeats 400000 in
theorem ref_in (i : Int) (w : World) (h1 : 0 ≤ i) (h2 : i ≤ 1099511627776) :
    Calls Try.prog 64 #[.int .i64 i] w fun e w' => e = .returned (.complex .f64 (floatOfInt .f64 (i + 1)) 4607182418800017408) ∧ w' = w := by
  go_enter Try.func64, Try.ntmps64
  go_wp2_with fail
  refine (within_yes i _ h1 h2).mono ?_
  rintro e w' ⟨rfl, rfl⟩
  go_wp2
  go_ret
  exact ⟨rfl, rfl⟩

set_option maxHeartbeats 400000 in
theorem ref_out (i : Int) (w : World) (h : i < 0 ∨ 1099511627776 < i) :
    Calls Try.prog 64 #[.int .i64 i] w fun e w' => e = .returned (.complex .f64 0 4607182418800017408) ∧ w' = w := by
  have H : Hid _ := h
  clear h
  go_enter Try.func64, Try.ntmps64
  go_wp2_with fail
  refine (within_no i _ H.out).mono ?_
  rintro e w' ⟨rfl, rfl⟩
  go_wp2_with fail
  refine (none_any _).mono ?_
  rintro e w' ⟨rfl, rfl⟩
  go_wp2
  go_ret
  exact ⟨rfl, rfl⟩

set_option maxHeartbeats 400000 in
theorem head_in (k m : Int) (w : World) (h1 : 0 ≤ k) (h2 : k ≤ 1099511627776) (h3 : 0 ≤ m) (h4 : m ≤ 1099511627776) :
    Calls Try.prog 55 #[.int .i64 k, .int .i64 m] w fun e w' => e = .returned (.complex .f64 (floatOfInt .f64 k) (floatOfInt .f64 m)) ∧ w' = w := by
  go_enter Try.func55, Try.ntmps55
  go_wp2_with fail
  refine (within_yes k _ h1 h2).mono ?_
  rintro e w' ⟨rfl, rfl⟩
  go_wp2_with fail
  refine (within_yes m _ h3 h4).mono ?_
  rintro e w' ⟨rfl, rfl⟩
  go_wp2
  go_ret
  exact ⟨rfl, rfl⟩

set_option maxHeartbeats 400000 in
theorem head_out (k m : Int) (w : World) (h : (k < 0 ∨ 1099511627776 < k) ∨ (m < 0 ∨ 1099511627776 < m)) :
    Calls Try.prog 55 #[.int .i64 k, .int .i64 m] w fun e w' => e = .returned (.complex .f64 0 0) ∧ w' = w := by
  by_cases h1 : k < 0 ∨ 1099511627776 < k
  · have K : Hid _ := h1
    clear h h1
    go_enter Try.func55, Try.ntmps55
    go_wp2_with fail
    refine (within_no k _ K.out).mono ?_
    rintro e w' ⟨rfl, rfl⟩
    go_wp2
    go_ret
    exact ⟨rfl, rfl⟩
  · have h2 : m < 0 ∨ 1099511627776 < m := by omega
    have h3 : 0 ≤ k := by omega
    have h4 : k ≤ 1099511627776 := by omega
    have M : Hid _ := h2
    clear h h1 h2
    go_enter Try.func55, Try.ntmps55
    go_wp2_with fail
    refine (within_yes k _ h3 h4).mono ?_
    rintro e w' ⟨rfl, rfl⟩
    go_wp2_with fail
    refine (within_no m _ M.out).mono ?_
    rintro e w' ⟨rfl, rfl⟩
    go_wp2
    go_ret
    exact ⟨rfl, rfl⟩

theorem five : floatOfInt .f64 (4 + 1) = floatOfInt .f64 5 := rfl

end Go.Proofs.Ythgekogbehacjaa
