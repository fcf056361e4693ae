/-
  Plain mathematics of binary64 numbers that stand for halves of small whole numbers, and their place among the bounds 2^53; nothing of the program.
-/
import Derived.Test.YtbmcbkebcchjmaaGreatDoorFlo
namespace Go.Proofs.YtbmcbkebcchjmaaGreatDoor
namespace Flo
open Ieee

/-- The datum stands for m / 2^h with the sign s. -/
def RepH (h : Nat) (d : Datum) (s : Bool) (m : Nat) : Prop := ∃ k : Nat, d = .number s (m * 2 ^ k) (-((k + h : Nat) : Int))

theorem rep_repH {d : Datum} {s : Bool} {m : Nat} (hd : Rep d s m) : RepH 0 d s m := by
  obtain ⟨k, rfl⟩ := hd
  exact ⟨k, rfl⟩

theorem nearest_repH (s : Bool) (m k h : Nat) (hh : h ≤ 900) (h0 : m ≠ 0) (hm : m < 2 ^ 53) :
    double.nearest s (m * 2 ^ k) (-((k + h : Nat) : Int)) = double.word s ((m.log2 + 1022 - h) * 2 ^ 52 + m * 2 ^ (52 - m.log2)) := by
  have hL : m.log2 < 53 := (Nat.log2_lt h0).2 hm
  have hp : 0 < 2 ^ k := Nat.two_pow_pos _
  have hne : m * 2 ^ k ≠ 0 := by
    intro e
    rcases Nat.mul_eq_zero.1 e with e | e
    · exact h0 e
    · omega
  have hlog := log2_mul_pow m k h0
  have hlp : double.leastPlace = -1074 := by decide
  have hfb : double.fractionBits = 52 := rfl
  have hbin : double.binade = 2 ^ 52 := rfl
  have hinf : double.infRung = 2047 * 2 ^ 52 := by decide
  unfold Format.nearest
  rw [if_neg hne]
  simp only [hlog, hfb, hlp, hbin, hinf]
  have hlast : max (-((k + h : Nat) : Int) + ((m.log2 + k : Nat) : Int) - ((52 : Nat) : Int)) (-1074) = (m.log2 : Int) - 52 - h := by omega
  rw [hlast]
  have hkept : Toward.even.cut s ((m * 2 ^ k) <<< (-((k + h : Nat) : Int) - ((m.log2 : Int) - 52 - h)).toNat) (((m.log2 : Int) - 52 - h) - (-((k + h : Nat) : Int))).toNat = m * 2 ^ (52 - m.log2) := by
    by_cases hk : k ≤ 52 - m.log2
    · have e1 : (-((k + h : Nat) : Int) - ((m.log2 : Int) - 52 - h)).toNat = (52 - m.log2) - k := by omega
      have e2 : (((m.log2 : Int) - 52 - h) - (-((k + h : Nat) : Int))).toNat = 0 := by omega
      rw [e1, e2, cut_zero, Nat.shiftLeft_eq, Nat.mul_assoc, ← Nat.pow_add]
      congr 2; omega
    · have e1 : (-((k + h : Nat) : Int) - ((m.log2 : Int) - 52 - h)).toNat = 0 := by omega
      have e2 : (((m.log2 : Int) - 52 - h) - (-((k + h : Nat) : Int))).toNat = k - (52 - m.log2) := by omega
      have e3 : m * 2 ^ k = (m * 2 ^ (52 - m.log2)) * 2 ^ (k - (52 - m.log2)) := by
        rw [Nat.mul_assoc, ← Nat.pow_add]; congr 2; omega
      rw [e1, e2, Nat.shiftLeft_eq, Nat.pow_zero, Nat.mul_one, e3, cut_exact]
      rw [← e3, hlog]; omega
  rw [hkept]
  have hup : m * 2 ^ (52 - m.log2) < 2 ^ 53 := by
    have h1 := lt_two_pow_log2 m h0
    have h2 : m * 2 ^ (52 - m.log2) < 2 ^ (m.log2 + 1) * 2 ^ (52 - m.log2) := Nat.mul_lt_mul_of_pos_right h1 (Nat.two_pow_pos _)
    rw [← Nat.pow_add] at h2
    have e : m.log2 + 1 + (52 - m.log2) = 53 := by omega
    rw [e] at h2; exact h2
  have hr : ((m.log2 : Int) - 52 - h - -1074).toNat = m.log2 + 1022 - h := by omega
  rw [hr, Nat.min_eq_left]
  omega

theorem read_repH (s : Bool) (m h : Nat) (hh : h ≤ 900) (h0 : m ≠ 0) (hm : m < 2 ^ 53) :
    RepH h (double.read (double.word s ((m.log2 + 1022 - h) * 2 ^ 52 + m * 2 ^ (52 - m.log2)))) s m := by
  have hlp : double.leastPlace = -1074 := by decide
  have hsw : double.signWeight = 2 ^ 63 := by decide
  have hbin : double.binade = 2 ^ 52 := rfl
  have hinf : double.infRung = 2047 * 2 ^ 52 := by decide
  have hL : m.log2 < 53 := (Nat.log2_lt h0).2 hm
  have hup : m * 2 ^ (52 - m.log2) < 2 ^ 53 := by
    have h1 := lt_two_pow_log2 m h0
    have h2 : m * 2 ^ (52 - m.log2) < 2 ^ (m.log2 + 1) * 2 ^ (52 - m.log2) := Nat.mul_lt_mul_of_pos_right h1 (Nat.two_pow_pos _)
    rw [← Nat.pow_add] at h2
    have e : m.log2 + 1 + (52 - m.log2) = 53 := by omega
    rw [e] at h2; exact h2
  have hlo : 2 ^ 52 ≤ m * 2 ^ (52 - m.log2) := by
    have h1 := two_pow_log2_le m h0
    have h2 : 2 ^ m.log2 * 2 ^ (52 - m.log2) ≤ m * 2 ^ (52 - m.log2) := Nat.mul_le_mul_right _ h1
    rw [← Nat.pow_add] at h2
    have e : m.log2 + (52 - m.log2) = 52 := by omega
    rw [e] at h2; exact h2
  generalize hx : m * 2 ^ (52 - m.log2) = x at hup hlo ⊢
  generalize hr : m.log2 + 1022 - h = r
  have hr1 : r ≤ 1074 := by omega
  have hneg : (double.word s (r * 2 ^ 52 + x) / 2 ^ 63 % 2 == 1) = s := by
    unfold Format.word
    rw [hsw]
    cases s
    · have : (r * 2 ^ 52 + x) / 2 ^ 63 % 2 = 0 := by omega
      simp [this]
    · have : (2 ^ 63 + (r * 2 ^ 52 + x)) / 2 ^ 63 % 2 = 1 := by omega
      rw [if_pos rfl, this]; rfl
  have hrung : double.word s (r * 2 ^ 52 + x) % 2 ^ 63 = r * 2 ^ 52 + x := by
    unfold Format.word
    rw [hsw]
    cases s <;> simp <;> omega
  unfold Format.read
  simp only [hsw, hbin, hinf, hlp, hneg, hrung]
  rw [if_neg (by omega), if_pos (by omega)]
  have e1 : (r * 2 ^ 52 + x) % 2 ^ 52 = x - 2 ^ 52 := by omega
  have e2 : (r * 2 ^ 52 + x) / 2 ^ 52 = r + 1 := by omega
  rw [e1, e2]
  refine ⟨52 - m.log2, ?_⟩
  have e3 : 2 ^ 52 + (x - 2 ^ 52) = x := by omega
  have e4 : (-1074 : Int) + ((r + 1 - 1 : Nat) : Int) = -((52 - m.log2 + h : Nat) : Int) := by omega
  rw [e3, e4, hx]

/-- The bounds 2^53 on both sides. -/
theorem hi_datum : double.read 4845873199050653696 = .number false (2 ^ 52) 1 := by decide +kernel
theorem lo_datum : double.read 14069245235905429504 = .number true (2 ^ 52) 1 := by decide +kernel

theorem lt_pow_helper (m h k : Nat) (hm : m < 2 ^ 53) : m * 2 ^ k < 2 ^ 52 * 2 ^ (k + h + 1) := by
  have e : 2 ^ 52 * 2 ^ (k + h + 1) = 2 ^ 53 * 2 ^ h * 2 ^ k := by
    rw [← Nat.pow_add, ← Nat.pow_add, ← Nat.pow_add]; congr 1; omega
  rw [e]
  have h1 : 0 < 2 ^ h := Nat.two_pow_pos _
  have h2 : m < 2 ^ 53 * 2 ^ h := Nat.lt_of_lt_of_le hm (Nat.le_mul_of_pos_right _ h1)
  exact Nat.mul_lt_mul_of_pos_right h2 (Nat.two_pow_pos _)

theorem order_hi {h : Nat} {x : Nat} {s : Bool} {m : Nat} (hd : RepH h (double.read x) s m) (hm : m < 2 ^ 53) :
    (FloatKind.f64.format.order x 4845873199050653696 == some .lt || FloatKind.f64.format.order x 4845873199050653696 == some .eq) = true := by
  show (double.order x 4845873199050653696 == some .lt || double.order x 4845873199050653696 == some .eq) = true
  unfold Format.order
  rw [hi_datum]
  obtain ⟨k, hk⟩ := hd
  rw [hk]
  unfold Datum.order
  dsimp only
  have hmin : min (-((k + h : Nat) : Int)) 1 = -((k + h : Nat) : Int) := by omega
  rw [hmin, show (-((k + h : Nat) : Int) - -((k + h : Nat) : Int)).toNat = 0 by omega, show ((1 : Int) - -((k + h : Nat) : Int)).toNat = k + h + 1 by omega]
  have hh := lt_pow_helper m h k hm
  have hlt : signed s (m * 2 ^ k) 0 < signed false (2 ^ 52) (k + h + 1) := by
    unfold signed
    rw [Nat.shiftLeft_eq, Nat.shiftLeft_eq, Nat.pow_zero, Nat.mul_one]
    cases s
    · simp only [Bool.false_eq_true, if_false]; exact Int.ofNat_lt.2 hh
    · simp only [if_true, Bool.false_eq_true, if_false]
      generalize m * 2 ^ k = u at hh
      generalize 2 ^ 52 * 2 ^ (k + h + 1) = v at hh
      omega
  simp only [compare, compareOfLessAndEq, if_pos hlt]
  decide

theorem order_lo {h : Nat} {x : Nat} {s : Bool} {m : Nat} (hd : RepH h (double.read x) s m) (hm : m < 2 ^ 53) :
    (FloatKind.f64.format.order x 14069245235905429504 == some .gt || FloatKind.f64.format.order x 14069245235905429504 == some .eq) = true := by
  show (double.order x 14069245235905429504 == some .gt || double.order x 14069245235905429504 == some .eq) = true
  unfold Format.order
  rw [lo_datum]
  obtain ⟨k, hk⟩ := hd
  rw [hk]
  unfold Datum.order
  dsimp only
  have hmin : min (-((k + h : Nat) : Int)) 1 = -((k + h : Nat) : Int) := by omega
  rw [hmin, show (-((k + h : Nat) : Int) - -((k + h : Nat) : Int)).toNat = 0 by omega, show ((1 : Int) - -((k + h : Nat) : Int)).toNat = k + h + 1 by omega]
  have hh := lt_pow_helper m h k hm
  have hlt : signed true (2 ^ 52) (k + h + 1) < signed s (m * 2 ^ k) 0 := by
    unfold signed
    rw [Nat.shiftLeft_eq, Nat.shiftLeft_eq, Nat.pow_zero, Nat.mul_one]
    generalize m * 2 ^ k = u at hh
    generalize 2 ^ 52 * 2 ^ (k + h + 1) = v at hh
    cases s
    · simp only [if_true, Bool.false_eq_true, if_false]; omega
    · simp only [if_true]; omega
  have h1 : ¬ signed s (m * 2 ^ k) 0 < signed true (2 ^ 52) (k + h + 1) := by omega
  have h2 : ¬ signed s (m * 2 ^ k) 0 = signed true (2 ^ 52) (k + h + 1) := by omega
  simp only [compare, compareOfLessAndEq, if_neg h1, if_neg h2]
  decide

theorem repH_fi (n : Int) (h : n.natAbs < 2 ^ 53) : RepH 0 (double.read (floatOfInt .f64 n)) (decide (n < 0)) n.natAbs := rep_repH (read_F _ _ h)

theorem repH_self {h : Nat} {x : Nat} {s : Bool} {m : Nat} (hd : RepH h (double.read x) s m) : double.order x x = some .eq := by
  unfold Format.order
  obtain ⟨k, hk⟩ := hd
  rw [hk]
  unfold Datum.order
  simp [compare, compareOfLessAndEq]

theorem num_of (u : Nat) (p q : Int) (hu : 0 < u) (hp : p = q) :
    some (Datum.number (if (u : Int) = 0 then false && false else decide ((u : Int) < 0)) (u : Int).natAbs p) = some (Datum.number false u q) := by
  rw [if_neg (by omega), show decide ((u : Int) < 0) = false from decide_eq_false (by omega), Int.natAbs_natCast, hp]

/-- A half more. -/
theorem add_half (c : Nat) (hc : c < 2 ^ 50) : ∃ z, floatBits .add .f64 (floatOfInt .f64 c) 4602678819172646912 = some z ∧ RepH 1 (double.read z) false (2 * c + 1) := by
  have hd : double.read 4602678819172646912 = .number false (2 ^ 52) (-53) := by decide +kernel
  obtain ⟨k, hk⟩ := read_F false c (by omega)
  have e0 : floatOfInt .f64 (c : Int) = F false c := by
    rw [fi_eq, Int.natAbs_natCast]; congr 1
  rw [e0]
  have hs : ∃ j, (double.read (F false c)).sum (double.read 4602678819172646912) = some (.number false ((2 * c + 1) * 2 ^ j) (-((j + 1 : Nat) : Int))) := by
    rw [hk, hd]
    unfold Datum.sum
    dsimp only
    by_cases hk1 : k ≤ 53
    · refine ⟨52, ?_⟩
      rw [show min (-(k : Int)) (-53) = -53 by omega, show (-(k : Int) - -53).toNat = 53 - k by omega, show ((-53 : Int) - -53).toNat = 0 by omega]
      have e1 : signed false (c * 2 ^ k) (53 - k) + signed false (2 ^ 52) 0 = (((2 * c + 1) * 2 ^ 52 : Nat) : Int) := by
        unfold signed
        rw [Nat.shiftLeft_eq, Nat.shiftLeft_eq, Nat.mul_assoc, ← Nat.pow_add, show k + (53 - k) = 53 by omega]
        simp only [Bool.false_eq_true, if_false]
        omega
      rw [e1]
      exact num_of ((2 * c + 1) * 2 ^ 52) (-53) (-((52 + 1 : Nat) : Int)) (Nat.mul_pos (by omega) (by decide)) (by decide)
    · refine ⟨k - 1, ?_⟩
      rw [show min (-(k : Int)) (-53) = -(k : Int) by omega, show (-(k : Int) - -(k : Int)).toNat = 0 by omega, show ((-53 : Int) - -(k : Int)).toNat = k - 53 by omega]
      have hpk : 2 ^ k = 2 * 2 ^ (k - 1) := by
        rw [show k = (k - 1) + 1 by omega, Nat.pow_succ, Nat.add_sub_cancel, Nat.mul_comm]
      have e1 : signed false (c * 2 ^ k) 0 + signed false (2 ^ 52) (k - 53) = (((2 * c + 1) * 2 ^ (k - 1) : Nat) : Int) := by
        unfold signed
        rw [Nat.shiftLeft_eq, Nat.shiftLeft_eq, ← Nat.pow_add, show 52 + (k - 53) = k - 1 by omega, hpk, Nat.pow_zero, Nat.mul_one, Nat.add_mul, Nat.one_mul]
        simp only [Bool.false_eq_true, if_false]
        rw [show c * (2 * 2 ^ (k - 1)) = 2 * c * 2 ^ (k - 1) by rw [← Nat.mul_assoc, Nat.mul_comm c 2]]
        exact (Int.natCast_add _ _).symm
      rw [e1]
      have hpos : 0 < (2 * c + 1) * 2 ^ (k - 1) := Nat.mul_pos (by omega) (Nat.two_pow_pos _)
      exact num_of _ _ _ hpos (by omega)
  obtain ⟨j, hj⟩ := hs
  refine ⟨_, ?_, read_repH false (2 * c + 1) 1 (by decide) (by omega) (by omega)⟩
  show double.add (F false c) 4602678819172646912 = _
  unfold Format.add
  rw [hj, Option.map_some]
  congr 1
  exact nearest_repH false (2 * c + 1) j 1 (by decide) (by omega) (by omega)

theorem toInt_half {z c : Nat} (hd : RepH 1 (double.read z) false (2 * c + 1)) (hc : c < 2 ^ 50) : floatToIntVal .f64 z .i64 = some (c : Int) := by
  have h1 : (FloatKind.f64.decode z).toInt .zero = some (c : Int) := by
    show (double.read z).toInt .zero = some (c : Int)
    obtain ⟨k, hk⟩ := hd
    rw [hk]
    unfold Datum.toInt Datum.integral
    have e1 : (-((k + 1 : Nat) : Int)).toNat = 0 := by omega
    have e2 : (-(-((k + 1 : Nat) : Int))).toNat = k + 1 := by omega
    simp only [e1, e2]
    have hp : 0 < 2 ^ k := Nat.two_pow_pos _
    have hcut : Toward.zero.cut false (((2 * c + 1) * 2 ^ k) <<< 0) (k + 1) = c := by
      unfold Toward.cut
      rw [Nat.shiftLeft_zero]
      have hl := log2_mul_pow (2 * c + 1) k (by omega)
      have hk : k + 1 ≤ ((2 * c + 1) * 2 ^ k).log2 + 2 := by omega
      simp only [Nat.min_eq_left hk, Nat.shiftLeft_eq, Nat.one_mul]
      rw [Nat.pow_succ, Nat.mul_comm (2 ^ k) 2, ← Nat.div_div_eq_div_mul, Nat.div_div_eq_div_mul, Nat.mul_comm 2 (2 ^ k), ← Nat.div_div_eq_div_mul, Nat.mul_div_cancel _ hp]
      show (2 * c + 1) / 2 = c
      omega
    rw [hcut]
    simp [signed]
  unfold floatToIntVal
  rw [h1]
  have h2 : IntKind.i64.min = -9223372036854775808 := rfl
  have h3 : IntKind.i64.max = 9223372036854775807 := rfl
  simp only [h2, h3]
  rw [if_pos (by omega)]

theorem half_ne {z c : Nat} (hd : RepH 1 (double.read z) false (2 * c + 1)) (hc : c < 2 ^ 50) : floatOfInt .f64 (c : Int) ≠ z := by
  intro e
  obtain ⟨j, hj⟩ := repH_fi (c : Int) (by omega)
  rw [e] at hj
  obtain ⟨k, hk⟩ := hd
  rw [hk, Int.natAbs_natCast] at hj
  injection hj with h1 h2 h3
  obtain rfl : j = k + 1 := by omega
  have hp : 0 < 2 ^ k := Nat.two_pow_pos _
  rw [Nat.pow_succ, Nat.mul_comm (2 ^ k) 2, ← Nat.mul_assoc, Nat.mul_comm c 2] at h2
  have := Nat.eq_of_mul_eq_mul_right hp h2
  omega

end Flo
end Go.Proofs.YtbmcbkebcchjmaaGreatDoor
