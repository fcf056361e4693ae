/-
  Contracts of package word's functions (None, Ref, Index, Is, Head, Tell) and of the law's own 'first'.
-/
import Derived.Test.YtbmcbkebcchjmaaGreatDoorNum12
import Derived.Test.YtbmcbkebcchjmaaGreatDoorFloH
namespace Go.Proofs.YtbmcbkebcchjmaaGreatDoor
open Go.RowKit
open Ieee (double)

theorem nn_fi (n : Int) : NN (floatOfInt .f64 n) := by
  unfold NN
  have hinf : double.infRung = 2047 * 2 ^ 52 := by decide
  have hsw : double.signWeight = 2 ^ 63 := by decide
  have key : ∃ s r, floatOfInt .f64 n = double.word s r ∧ r ≤ 2047 * 2 ^ 52 := by
    rw [Flo.fi_eq]
    unfold Flo.F Ieee.Format.nearest
    split
    · exact ⟨_, 0, rfl, by decide⟩
    · exact ⟨_, _, rfl, by rw [← hinf]; exact Nat.min_le_right ..⟩
  obtain ⟨s, r, e, hr⟩ := key
  rw [e]
  unfold Ieee.Format.word
  rw [hsw]
  show (((if s then 2 ^ 63 + r else r : Nat) : Int) * 2) % 18446744073709551616 ≤ 18437736874454810624
  cases s
  · simp only [Bool.false_eq_true, if_false]; omega
  · simp only [if_true]; omega
theorem nn_zero : NN 0 := by unfold NN; decide +kernel
theorem nn_one : NN 4607182418800017408 := by unfold NN; decide +kernel
theorem nb_zero : nb 0 = 0 := by decide +kernel
theorem nb_one : nb 4607182418800017408 = 4607182418800017408 := by decide +kernel
theorem fi_zero : floatOfInt .f64 0 = 0 := by decide +kernel
theorem fi_one : floatOfInt .f64 1 = 4607182418800017408 := by decide +kernel

/-- Int of a whole number's word. -/
theorem int_fi (n : Int) (w : World) (h : n.natAbs < 2 ^ 53) :
    Calls Tryz.prog 80 #[.complex .f64 (floatOfInt .f64 n) 0] w fun e w' => e = .returned (.tuple #[.int .i64 n, .bool true]) ∧ w' = w := by
  have := int_raw (floatOfInt .f64 n) 0 n w (by omega) (by omega) (Flo.order_lo (Flo.repH_fi n h) h) (Flo.order_hi (Flo.repH_fi n h) h) (Flo.isI_toInt (Flo.isI_fi n h)) true (by simp)
  exact this

/-- Int of a half. -/
theorem int_half (z c : Nat) (w : World) (hc : c < 2 ^ 50) (hz : Flo.RepH 1 (double.read z) false (2 * c + 1)) :
    Calls Tryz.prog 80 #[.complex .f64 z 0] w fun e w' => e = .returned (.tuple #[.int .i64 0, .bool false]) ∧ w' = w := by
  have := int_raw z 0 c w (by omega) (by omega) (Flo.order_lo hz (by omega)) (Flo.order_hi hz (by omega)) (Flo.toInt_half hz hc) false (by
    rw [nb_fi _ (by omega), nb_of (Flo.repH_self hz)]
    simp [Flo.half_ne hz hc])
  exact this

set_option maxHeartbeats 400000 in
theorem within_yes (n : Int) (w : World) (h1 : 0 ≤ n) (h2 : n ≤ 1099511627776) :
    Calls Tryz.prog 81 #[.int .i64 n] w fun e w' => e = .returned (.bool true) ∧ w' = w := by
  go_enter Tryz.func81, Tryz.ntmps81
  go_wp2
  go_ret
  refine ⟨?_, rfl⟩
  simp

set_option maxHeartbeats 400000 in
theorem within_no (n : Int) (w : World) (h : n < 0 ∨ 1099511627776 < n) :
    Calls Tryz.prog 81 #[.int .i64 n] w fun e w' => e = .returned (.bool false) ∧ w' = w := by
  by_cases h1 : n < 0
  · clear h
    go_enter Tryz.func81, Tryz.ntmps81
    go_wp2
    go_ret
    refine ⟨?_, rfl⟩
    simp
  · have h2 : 1099511627776 < n := by omega
    have h3 : 0 ≤ n := by omega
    clear h h1
    go_enter Tryz.func81, Tryz.ntmps81
    go_wp2
    go_ret
    refine ⟨?_, rfl⟩
    simp; omega

set_option maxHeartbeats 400000 in
theorem none_any (w : World) : Calls Tryz.prog 44 #[] w fun e w' => e = .returned (.complex .f64 0 4607182418800017408) ∧ w' = w := by
  go_enter Tryz.func44, Tryz.ntmps44
  go_wp2
  go_ret
  exact ⟨rfl, rfl⟩

set_option maxHeartbeats 400000 in
theorem ref_in (i : Int) (w : World) (h1 : 0 ≤ i) (h2 : i ≤ 1099511627776) :
    Calls Tryz.prog 83 #[.int .i64 i] w fun e w' => e = .returned (.complex .f64 (floatOfInt .f64 (i + 1)) 4607182418800017408) ∧ w' = w := by
  go_enter Tryz.func83, Tryz.ntmps83
  go_wp2_with fail
  refine (within_yes i _ h1 h2).mono ?_
  rintro e w' ⟨rfl, rfl⟩
  go_wp2
  go_ret
  exact ⟨rfl, rfl⟩

set_option maxHeartbeats 400000 in
theorem ref_out (i : Int) (w : World) (h : i < 0 ∨ 1099511627776 < i) :
    Calls Tryz.prog 83 #[.int .i64 i] w fun e w' => e = .returned (.complex .f64 0 4607182418800017408) ∧ w' = w := by
  have H : Hid _ := h
  clear h
  go_enter Tryz.func83, Tryz.ntmps83
  go_wp2_with fail
  refine (within_no i _ H.out).mono ?_
  rintro e w' ⟨rfl, rfl⟩
  go_wp2_with fail
  refine (none_any _).mono ?_
  rintro e w' ⟨rfl, rfl⟩
  go_wp2
  go_ret
  exact ⟨rfl, rfl⟩

/-- Index, where the real part says where: by the imaginary part's bits. -/
theorem index_in (n : Int) (y : Nat) (w : World) (p : Bool) (hp : decide (4607182418800017408 = nb y) = p) (h1 : 1 ≤ n) (h2 : n ≤ 1099511627777) :
    Calls Tryz.prog 58 #[.complex .f64 (floatOfInt .f64 n) y] w fun e w' => e = .returned (.tuple #[.int .i64 (if p then n - 1 else 0), .bool p]) ∧ w' = w := by
  have W : Hid (∀ w, Calls Tryz.prog 81 #[.int .i64 (n - 1)] w _) := fun w => within_yes (n - 1) w (by omega) (by omega)
  have R : Hid (∀ w, Calls Tryz.prog 83 #[.int .i64 (n - 1)] w _) := fun w => ref_in (n - 1) w (by omega) (by omega)
  have I : Hid (∀ w, Calls Tryz.prog 80 #[.complex .f64 (floatOfInt .f64 n) 0] w _) := fun w => int_fi n w (by omega)
  have hs : decide (nb (floatOfInt .f64 n) = nb (floatOfInt .f64 n) ∧ nb 4607182418800017408 = nb y) = p := by
    rw [nb_one, ← hp]; simp
  have HS : Hid (∀ w, Calls Tryz.prog 82 _ w _) := same_is _ _ _ _ p hs
  clear hp hs
  cases p
  all_goals
    go_enter Tryz.func58, Tryz.ntmps58
    go_wp2_with fail
    refine (I.out _).mono ?_
    rintro e w' ⟨rfl, rfl⟩
    go_wp2_with fail
    refine (W.out _).mono ?_
    rintro e w' ⟨rfl, rfl⟩
    go_wp2_with fail
    refine (R.out _).mono ?_
    rintro e w' ⟨rfl, rfl⟩
    go_wp2_with fail
    refine (HS.out _).mono ?_
    rintro e w' ⟨rfl, rfl⟩
    go_wp2
    go_ret2
    exact ⟨rfl, rfl⟩

/-- Index, where the real part is a whole number of no fragment. -/
theorem index_out (n : Int) (y : Nat) (w : World) (h0 : n.natAbs < 2 ^ 53) (h : n < 1 ∨ 1099511627777 < n) :
    Calls Tryz.prog 58 #[.complex .f64 (floatOfInt .f64 n) y] w fun e w' => e = .returned (.tuple #[.int .i64 0, .bool false]) ∧ w' = w := by
  have W : Hid (∀ w, Calls Tryz.prog 81 #[.int .i64 (n - 1)] w _) := fun w => within_no (n - 1) w (by omega)
  have I : Hid (∀ w, Calls Tryz.prog 80 #[.complex .f64 (floatOfInt .f64 n) 0] w _) := fun w => int_fi n w (by omega)
  have h3 : -9007199254740992 < n := by omega
  have h4 : n < 9007199254740992 := by omega
  clear h h0
  go_enter Tryz.func58, Tryz.ntmps58
  go_wp2_with fail
  refine (I.out _).mono ?_
  rintro e w' ⟨rfl, rfl⟩
  go_wp2_with fail
  refine (W.out _).mono ?_
  rintro e w' ⟨rfl, rfl⟩
  go_wp2
  go_ret2
  exact ⟨rfl, rfl⟩

/-- Index, where the real part is no whole number. -/
theorem index_not (z y : Nat) (w : World) (h : ∀ w, Calls Tryz.prog 80 #[.complex .f64 z 0] w fun e w' => e = .returned (.tuple #[.int .i64 0, .bool false]) ∧ w' = w) :
    Calls Tryz.prog 58 #[.complex .f64 z y] w fun e w' => e = .returned (.tuple #[.int .i64 0, .bool false]) ∧ w' = w := by
  have I : Hid _ := h
  clear h
  go_enter Tryz.func58, Tryz.ntmps58
  go_wp2_with fail
  refine (I.out _).mono ?_
  rintro e w' ⟨rfl, rfl⟩
  go_wp2
  go_ret2
  exact ⟨rfl, rfl⟩

theorem five : floatOfInt .f64 (4 + 1) = floatOfInt .f64 5 := rfl

end Go.Proofs.YtbmcbkebcchjmaaGreatDoor
