/-
  A binary64 word equal to 1 is the word of 1; nothing of the program.
-/
import Derived.Test.YticmaafhnhgfdaaFloH
namespace Go.Proofs.Yticmaafhnhgfdaa
namespace Flo
open Ieee

theorem one_datum : double.read 4607182418800017408 = .number false (2 ^ 52) (-52) := by decide +kernel

theorem compare_eq_iff (a b : Int) : (compare a b = Ordering.eq) ↔ a = b := by
  simp only [compare, compareOfLessAndEq]
  by_cases h : a < b
  · rw [if_pos h]; simp; omega
  · rw [if_neg h]
    by_cases h1 : a = b
    · rw [if_pos h1]; simp [h1]
    · rw [if_neg h1]; simp [h1]

theorem pow_two_le (k : Nat) (h : 1 ≤ k) : 2 ≤ 2 ^ k := by
  have := Nat.pow_le_pow_right (n := 2) (by decide) h
  simpa using this

theorem order_one_sub (s : Bool) (m : Nat) (h : m < 2 ^ 52) : Datum.order (.number s m (-1074)) (.number false (2 ^ 52) (-52)) ≠ some .eq := by
  unfold Datum.order
  dsimp only
  rw [show min (-1074 : Int) (-52) = -1074 by decide, show ((-1074 : Int) - -1074).toNat = 0 by decide, show ((-52 : Int) - -1074).toNat = 1022 by decide]
  intro e
  have e' := (compare_eq_iff _ _).1 (Option.some.inj e)
  unfold signed at e'
  rw [Nat.shiftLeft_zero, Nat.shiftLeft_eq] at e'
  have hp := pow_two_le 1022 (by decide)
  generalize 2 ^ 1022 = P at e' hp
  have hb : 2 ^ 52 * 2 ≤ 2 ^ 52 * P := Nat.mul_le_mul_left _ hp
  generalize 2 ^ 52 * P = Q at e' hb
  cases s
  · simp only [Bool.false_eq_true, if_false] at e'; omega
  · simp only [if_true, Bool.false_eq_true, if_false] at e'; omega

theorem order_one_norm (s : Bool) (f e : Nat) (hf : f < 2 ^ 52) (h : Datum.order (.number s (2 ^ 52 + f) (-1074 + (e : Int))) (.number false (2 ^ 52) (-52)) = some .eq) : s = false ∧ f = 0 ∧ e = 1022 := by
  unfold Datum.order at h
  dsimp only at h
  have e' := (compare_eq_iff _ _).1 (Option.some.inj h)
  unfold signed at e'
  rw [Nat.shiftLeft_eq, Nat.shiftLeft_eq] at e'
  clear h
  rcases Nat.lt_trichotomy e 1022 with he | he | he
  · exfalso
    rw [show min (-1074 + (e : Int)) (-52) = -1074 + (e : Int) by omega, show (-1074 + (e : Int) - (-1074 + (e : Int))).toNat = 0 by omega, show ((-52 : Int) - (-1074 + (e : Int))).toNat = 1022 - e by omega, Nat.pow_zero, Nat.mul_one] at e'
    have hp := pow_two_le (1022 - e) (by omega)
    generalize 2 ^ (1022 - e) = P at e' hp
    have hb : 2 ^ 52 * 2 ≤ 2 ^ 52 * P := Nat.mul_le_mul_left _ hp
    generalize 2 ^ 52 * P = Q at e' hb
    cases s
    · simp only [Bool.false_eq_true, if_false] at e'; omega
    · simp only [if_true, Bool.false_eq_true, if_false] at e'; omega
  · subst he
    rw [show min (-1074 + ((1022 : Nat) : Int)) (-52) = -52 by decide, show (-1074 + ((1022 : Nat) : Int) - -52).toNat = 0 by decide, show ((-52 : Int) - -52).toNat = 0 by decide, Nat.pow_zero, Nat.mul_one, Nat.mul_one] at e'
    cases s
    · simp only [Bool.false_eq_true, if_false] at e'
      exact ⟨rfl, by omega, rfl⟩
    · simp only [if_true, Bool.false_eq_true, if_false] at e'; omega
  · exfalso
    rw [show min (-1074 + (e : Int)) (-52) = -52 by omega, show (-1074 + (e : Int) - -52).toNat = e - 1022 by omega, show ((-52 : Int) - -52).toNat = 0 by decide, Nat.pow_zero, Nat.mul_one] at e'
    have hp := pow_two_le (e - 1022) (by omega)
    generalize 2 ^ (e - 1022) = P at e' hp
    have hb : (2 ^ 52 + f) * 2 ≤ (2 ^ 52 + f) * P := Nat.mul_le_mul_left _ hp
    generalize (2 ^ 52 + f) * P = Q at e' hb
    cases s
    · simp only [Bool.false_eq_true, if_false] at e'; omega
    · simp only [if_true, Bool.false_eq_true, if_false] at e'; omega

theorem eq_one (x : Nat) (hx : x < 2 ^ 64) (h : double.order x 4607182418800017408 = some .eq) : x = 4607182418800017408 := by
  have hlp : double.leastPlace = -1074 := by decide
  have hsw : double.signWeight = 2 ^ 63 := by decide
  have hbin : double.binade = 2 ^ 52 := rfl
  have hinf : double.infRung = 2047 * 2 ^ 52 := by decide
  unfold Format.order at h
  rw [one_datum] at h
  unfold Format.read at h
  simp only [hsw, hbin, hinf, hlp] at h
  split at h
  · rename_i h1
    exact absurd h (order_one_sub _ _ h1)
  · rename_i h1
    split at h
    · have := order_one_norm _ _ _ (Nat.mod_lt _ (by decide)) h
      obtain ⟨h3, h4, h5⟩ := this
      have h6 : x / 2 ^ 63 % 2 ≠ 1 := by simpa using h3
      omega
    · split at h
      · unfold Datum.order at h
        dsimp only at h
        split at h <;> simp at h
      · unfold Datum.order at h
        simp at h
end Flo
end Go.Proofs.Yticmaafhnhgfdaa
