/-
  The modules FloH, Word12, Cx17, Mem13, Mem22, Fw22, CorA22, one behind another.
-/
import Derived.Laws.CopyRow
import Derived.Test.YtiigmmmhhpdmdaaB04
import Derived.Test.YtiigmmmhhpdmdaaB07
import Derived.Test.YtiigmmmhhpdmdaaB12
import Derived.Test.YtiigmmmhhpdmdaaB13
import Derived.Test.YtiigmmmhhpdmdaaB14
import Derived.Test.YtiigmmmhhpdmdaaB15
/-
  Plain mathematics of binary64 numbers that stand for halves of small whole numbers, and their place among the bounds 2^53; nothing of the program.
-/
namespace Go.Proofs.Ytiigmmmhhpdmdaa
namespace Flo
open Ieee

/-- The datum stands for m / 2^h with the sign s. -/
def RepH (h : Nat) (d : Datum) (s : Bool) (m : Nat) : Prop := ∃ k : Nat, d = .number s (m * 2 ^ k) (-((k + h : Nat) : Int))

theorem rep_repH {d : Datum} {s : Bool} {m : Nat} (hd : Rep d s m) : RepH 0 d s m := by
  obtain ⟨k, rfl⟩ := hd
  exact ⟨k, rfl⟩

theorem nearest_repH (s : Bool) (m k h : Nat) (hh : h ≤ 900) (h0 : m ≠ 0) (hm : m < 2 ^ 53) :
    double.nearest s (m * 2 ^ k) (-((k + h : Nat) : Int)) = double.word s ((m.log2 + 1022 - h) * 2 ^ 52 + m * 2 ^ (52 - m.log2)) := by
  have hL : m.log2 < 53 := (Nat.log2_lt h0).2 hm
  have hp : 0 < 2 ^ k := Nat.two_pow_pos _
  have hne : m * 2 ^ k ≠ 0 := by
    intro e
    rcases Nat.mul_eq_zero.1 e with e | e
    · exact h0 e
    · omega
  have hlog := log2_mul_pow m k h0
  have hlp : double.leastPlace = -1074 := by decide
  have hfb : double.fractionBits = 52 := rfl
  have hbin : double.binade = 2 ^ 52 := rfl
  have hinf : double.infRung = 2047 * 2 ^ 52 := by decide
  unfold Format.nearest
  rw [if_neg hne]
  simp only [hlog, hfb, hlp, hbin, hinf]
  have hlast : max (-((k + h : Nat) : Int) + ((m.log2 + k : Nat) : Int) - ((52 : Nat) : Int)) (-1074) = (m.log2 : Int) - 52 - h := by omega
  rw [hlast]
  have hkept : Toward.even.cut s ((m * 2 ^ k) <<< (-((k + h : Nat) : Int) - ((m.log2 : Int) - 52 - h)).toNat) (((m.log2 : Int) - 52 - h) - (-((k + h : Nat) : Int))).toNat = m * 2 ^ (52 - m.log2) := by
    by_cases hk : k ≤ 52 - m.log2
    · have e1 : (-((k + h : Nat) : Int) - ((m.log2 : Int) - 52 - h)).toNat = (52 - m.log2) - k := by omega
      have e2 : (((m.log2 : Int) - 52 - h) - (-((k + h : Nat) : Int))).toNat = 0 := by omega
      rw [e1, e2, cut_zero, Nat.shiftLeft_eq, Nat.mul_assoc, ← Nat.pow_add]
      congr 2; omega
    · have e1 : (-((k + h : Nat) : Int) - ((m.log2 : Int) - 52 - h)).toNat = 0 := by omega
      have e2 : (((m.log2 : Int) - 52 - h) - (-((k + h : Nat) : Int))).toNat = k - (52 - m.log2) := by omega
      have e3 : m * 2 ^ k = (m * 2 ^ (52 - m.log2)) * 2 ^ (k - (52 - m.log2)) := by
        rw [Nat.mul_assoc, ← Nat.pow_add]; congr 2; omega
      rw [e1, e2, Nat.shiftLeft_eq, Nat.pow_zero, Nat.mul_one, e3, cut_exact]
      rw [← e3, hlog]; omega
  rw [hkept]
  have hup : m * 2 ^ (52 - m.log2) < 2 ^ 53 := by
    have h1 := lt_two_pow_log2 m h0
    have h2 : m * 2 ^ (52 - m.log2) < 2 ^ (m.log2 + 1) * 2 ^ (52 - m.log2) := Nat.mul_lt_mul_of_pos_right h1 (Nat.two_pow_pos _)
    rw [← Nat.pow_add] at h2
    have e : m.log2 + 1 + (52 - m.log2) = 53 := by omega
    rw [e] at h2; exact h2
  have hr : ((m.log2 : Int) - 52 - h - -1074).toNat = m.log2 + 1022 - h := by omega
  rw [hr, Nat.min_eq_left]
  omega

theorem read_repH (s : Bool) (m h : Nat) (hh : h ≤ 900) (h0 : m ≠ 0) (hm : m < 2 ^ 53) :
    RepH h (double.read (double.word s ((m.log2 + 1022 - h) * 2 ^ 52 + m * 2 ^ (52 - m.log2)))) s m := by
  have hlp : double.leastPlace = -1074 := by decide
  have hsw : double.signWeight = 2 ^ 63 := by decide
  have hbin : double.binade = 2 ^ 52 := rfl
  have hinf : double.infRung = 2047 * 2 ^ 52 := by decide
  have hL : m.log2 < 53 := (Nat.log2_lt h0).2 hm
  have hup : m * 2 ^ (52 - m.log2) < 2 ^ 53 := by
    have h1 := lt_two_pow_log2 m h0
    have h2 : m * 2 ^ (52 - m.log2) < 2 ^ (m.log2 + 1) * 2 ^ (52 - m.log2) := Nat.mul_lt_mul_of_pos_right h1 (Nat.two_pow_pos _)
    rw [← Nat.pow_add] at h2
    have e : m.log2 + 1 + (52 - m.log2) = 53 := by omega
    rw [e] at h2; exact h2
  have hlo : 2 ^ 52 ≤ m * 2 ^ (52 - m.log2) := by
    have h1 := two_pow_log2_le m h0
    have h2 : 2 ^ m.log2 * 2 ^ (52 - m.log2) ≤ m * 2 ^ (52 - m.log2) := Nat.mul_le_mul_right _ h1
    rw [← Nat.pow_add] at h2
    have e : m.log2 + (52 - m.log2) = 52 := by omega
    rw [e] at h2; exact h2
  generalize hx : m * 2 ^ (52 - m.log2) = x at hup hlo ⊢
  generalize hr : m.log2 + 1022 - h = r
  have hr1 : r ≤ 1074 := by omega
  have hneg : (double.word s (r * 2 ^ 52 + x) / 2 ^ 63 % 2 == 1) = s := by
    unfold Format.word
    rw [hsw]
    cases s
    · have : (r * 2 ^ 52 + x) / 2 ^ 63 % 2 = 0 := by omega
      simp [this]
    · have : (2 ^ 63 + (r * 2 ^ 52 + x)) / 2 ^ 63 % 2 = 1 := by omega
      rw [if_pos rfl, this]; rfl
  have hrung : double.word s (r * 2 ^ 52 + x) % 2 ^ 63 = r * 2 ^ 52 + x := by
    unfold Format.word
    rw [hsw]
    cases s <;> simp <;> omega
  unfold Format.read
  simp only [hsw, hbin, hinf, hlp, hneg, hrung]
  rw [if_neg (by omega), if_pos (by omega)]
  have e1 : (r * 2 ^ 52 + x) % 2 ^ 52 = x - 2 ^ 52 := by omega
  have e2 : (r * 2 ^ 52 + x) / 2 ^ 52 = r + 1 := by omega
  rw [e1, e2]
  refine ⟨52 - m.log2, ?_⟩
  have e3 : 2 ^ 52 + (x - 2 ^ 52) = x := by omega
  have e4 : (-1074 : Int) + ((r + 1 - 1 : Nat) : Int) = -((52 - m.log2 + h : Nat) : Int) := by omega
  rw [e3, e4, hx]

/-- The bounds 2^53 on both sides. -/
theorem hi_datum : double.read 4845873199050653696 = .number false (2 ^ 52) 1 := by decide +kernel
theorem lo_datum : double.read 14069245235905429504 = .number true (2 ^ 52) 1 := by decide +kernel

theorem lt_pow_helper (m h k : Nat) (hm : m < 2 ^ 53) : m * 2 ^ k < 2 ^ 52 * 2 ^ (k + h + 1) := by
  have e : 2 ^ 52 * 2 ^ (k + h + 1) = 2 ^ 53 * 2 ^ h * 2 ^ k := by
    rw [← Nat.pow_add, ← Nat.pow_add, ← Nat.pow_add]; congr 1; omega
  rw [e]
  have h1 : 0 < 2 ^ h := Nat.two_pow_pos _
  have h2 : m < 2 ^ 53 * 2 ^ h := Nat.lt_of_lt_of_le hm (Nat.le_mul_of_pos_right _ h1)
  exact Nat.mul_lt_mul_of_pos_right h2 (Nat.two_pow_pos _)

theorem order_hi {h : Nat} {x : Nat} {s : Bool} {m : Nat} (hd : RepH h (double.read x) s m) (hm : m < 2 ^ 53) :
    (FloatKind.f64.format.order x 4845873199050653696 == some .lt || FloatKind.f64.format.order x 4845873199050653696 == some .eq) = true := by
  show (double.order x 4845873199050653696 == some .lt || double.order x 4845873199050653696 == some .eq) = true
  unfold Format.order
  rw [hi_datum]
  obtain ⟨k, hk⟩ := hd
  rw [hk]
  unfold Datum.order
  dsimp only
  have hmin : min (-((k + h : Nat) : Int)) 1 = -((k + h : Nat) : Int) := by omega
  rw [hmin, show (-((k + h : Nat) : Int) - -((k + h : Nat) : Int)).toNat = 0 by omega, show ((1 : Int) - -((k + h : Nat) : Int)).toNat = k + h + 1 by omega]
  have hh := lt_pow_helper m h k hm
  have hlt : signed s (m * 2 ^ k) 0 < signed false (2 ^ 52) (k + h + 1) := by
    unfold signed
    rw [Nat.shiftLeft_eq, Nat.shiftLeft_eq, Nat.pow_zero, Nat.mul_one]
    cases s
    · simp only [Bool.false_eq_true, if_false]; exact Int.ofNat_lt.2 hh
    · simp only [if_true, Bool.false_eq_true, if_false]
      generalize m * 2 ^ k = u at hh
      generalize 2 ^ 52 * 2 ^ (k + h + 1) = v at hh
      omega
  simp only [compare, compareOfLessAndEq, if_pos hlt]
  decide

theorem order_lo {h : Nat} {x : Nat} {s : Bool} {m : Nat} (hd : RepH h (double.read x) s m) (hm : m < 2 ^ 53) :
    (FloatKind.f64.format.order x 14069245235905429504 == some .gt || FloatKind.f64.format.order x 14069245235905429504 == some .eq) = true := by
  show (double.order x 14069245235905429504 == some .gt || double.order x 14069245235905429504 == some .eq) = true
  unfold Format.order
  rw [lo_datum]
  obtain ⟨k, hk⟩ := hd
  rw [hk]
  unfold Datum.order
  dsimp only
  have hmin : min (-((k + h : Nat) : Int)) 1 = -((k + h : Nat) : Int) := by omega
  rw [hmin, show (-((k + h : Nat) : Int) - -((k + h : Nat) : Int)).toNat = 0 by omega, show ((1 : Int) - -((k + h : Nat) : Int)).toNat = k + h + 1 by omega]
  have hh := lt_pow_helper m h k hm
  have hlt : signed true (2 ^ 52) (k + h + 1) < signed s (m * 2 ^ k) 0 := by
    unfold signed
    rw [Nat.shiftLeft_eq, Nat.shiftLeft_eq, Nat.pow_zero, Nat.mul_one]
    generalize m * 2 ^ k = u at hh
    generalize 2 ^ 52 * 2 ^ (k + h + 1) = v at hh
    cases s
    · simp only [if_true, Bool.false_eq_true, if_false]; omega
    · simp only [if_true]; omega
  have h1 : ¬ signed s (m * 2 ^ k) 0 < signed true (2 ^ 52) (k + h + 1) := by omega
  have h2 : ¬ signed s (m * 2 ^ k) 0 = signed true (2 ^ 52) (k + h + 1) := by omega
  simp only [compare, compareOfLessAndEq, if_neg h1, if_neg h2]
  decide

theorem repH_fi (n : Int) (h : n.natAbs < 2 ^ 53) : RepH 0 (double.read (floatOfInt .f64 n)) (decide (n < 0)) n.natAbs := rep_repH (read_F _ _ h)

theorem repH_self {h : Nat} {x : Nat} {s : Bool} {m : Nat} (hd : RepH h (double.read x) s m) : double.order x x = some .eq := by
  unfold Format.order
  obtain ⟨k, hk⟩ := hd
  rw [hk]
  unfold Datum.order
  simp [compare, compareOfLessAndEq]

theorem num_of (u : Nat) (p q : Int) (hu : 0 < u) (hp : p = q) :
    some (Datum.number (if (u : Int) = 0 then false && false else decide ((u : Int) < 0)) (u : Int).natAbs p) = some (Datum.number false u q) := by
  rw [if_neg (by omega), show decide ((u : Int) < 0) = false from decide_eq_false (by omega), Int.natAbs_natCast, hp]

/-- A half more. -/
theorem add_half (c : Nat) (hc : c < 2 ^ 50) : ∃ z, floatBits .add .f64 (floatOfInt .f64 c) 4602678819172646912 = some z ∧ RepH 1 (double.read z) false (2 * c + 1) := by
  have hd : double.read 4602678819172646912 = .number false (2 ^ 52) (-53) := by decide +kernel
  obtain ⟨k, hk⟩ := read_F false c (by omega)
  have e0 : floatOfInt .f64 (c : Int) = F false c := by
    rw [fi_eq, Int.natAbs_natCast]; congr 1
  rw [e0]
  have hs : ∃ j, (double.read (F false c)).sum (double.read 4602678819172646912) = some (.number false ((2 * c + 1) * 2 ^ j) (-((j + 1 : Nat) : Int))) := by
    rw [hk, hd]
    unfold Datum.sum
    dsimp only
    by_cases hk1 : k ≤ 53
    · refine ⟨52, ?_⟩
      rw [show min (-(k : Int)) (-53) = -53 by omega, show (-(k : Int) - -53).toNat = 53 - k by omega, show ((-53 : Int) - -53).toNat = 0 by omega]
      have e1 : signed false (c * 2 ^ k) (53 - k) + signed false (2 ^ 52) 0 = (((2 * c + 1) * 2 ^ 52 : Nat) : Int) := by
        unfold signed
        rw [Nat.shiftLeft_eq, Nat.shiftLeft_eq, Nat.mul_assoc, ← Nat.pow_add, show k + (53 - k) = 53 by omega]
        simp only [Bool.false_eq_true, if_false]
        omega
      rw [e1]
      exact num_of ((2 * c + 1) * 2 ^ 52) (-53) (-((52 + 1 : Nat) : Int)) (Nat.mul_pos (by omega) (by decide)) (by decide)
    · refine ⟨k - 1, ?_⟩
      rw [show min (-(k : Int)) (-53) = -(k : Int) by omega, show (-(k : Int) - -(k : Int)).toNat = 0 by omega, show ((-53 : Int) - -(k : Int)).toNat = k - 53 by omega]
      have hpk : 2 ^ k = 2 * 2 ^ (k - 1) := by
        rw [show k = (k - 1) + 1 by omega, Nat.pow_succ, Nat.add_sub_cancel, Nat.mul_comm]
      have e1 : signed false (c * 2 ^ k) 0 + signed false (2 ^ 52) (k - 53) = (((2 * c + 1) * 2 ^ (k - 1) : Nat) : Int) := by
        unfold signed
        rw [Nat.shiftLeft_eq, Nat.shiftLeft_eq, ← Nat.pow_add, show 52 + (k - 53) = k - 1 by omega, hpk, Nat.pow_zero, Nat.mul_one, Nat.add_mul, Nat.one_mul]
        simp only [Bool.false_eq_true, if_false]
        rw [show c * (2 * 2 ^ (k - 1)) = 2 * c * 2 ^ (k - 1) by rw [← Nat.mul_assoc, Nat.mul_comm c 2]]
        exact (Int.natCast_add _ _).symm
      rw [e1]
      have hpos : 0 < (2 * c + 1) * 2 ^ (k - 1) := Nat.mul_pos (by omega) (Nat.two_pow_pos _)
      exact num_of _ _ _ hpos (by omega)
  obtain ⟨j, hj⟩ := hs
  refine ⟨_, ?_, read_repH false (2 * c + 1) 1 (by decide) (by omega) (by omega)⟩
  show double.add (F false c) 4602678819172646912 = _
  unfold Format.add
  rw [hj, Option.map_some]
  congr 1
  exact nearest_repH false (2 * c + 1) j 1 (by decide) (by omega) (by omega)

theorem toInt_half {z c : Nat} (hd : RepH 1 (double.read z) false (2 * c + 1)) (hc : c < 2 ^ 50) : floatToIntVal .f64 z .i64 = some (c : Int) := by
  have h1 : (FloatKind.f64.decode z).toInt .zero = some (c : Int) := by
    show (double.read z).toInt .zero = some (c : Int)
    obtain ⟨k, hk⟩ := hd
    rw [hk]
    unfold Datum.toInt Datum.integral
    have e1 : (-((k + 1 : Nat) : Int)).toNat = 0 := by omega
    have e2 : (-(-((k + 1 : Nat) : Int))).toNat = k + 1 := by omega
    simp only [e1, e2]
    have hp : 0 < 2 ^ k := Nat.two_pow_pos _
    have hcut : Toward.zero.cut false (((2 * c + 1) * 2 ^ k) <<< 0) (k + 1) = c := by
      unfold Toward.cut
      rw [Nat.shiftLeft_zero]
      have hl := log2_mul_pow (2 * c + 1) k (by omega)
      have hk : k + 1 ≤ ((2 * c + 1) * 2 ^ k).log2 + 2 := by omega
      simp only [Nat.min_eq_left hk, Nat.shiftLeft_eq, Nat.one_mul]
      rw [Nat.pow_succ, Nat.mul_comm (2 ^ k) 2, ← Nat.div_div_eq_div_mul, Nat.div_div_eq_div_mul, Nat.mul_comm 2 (2 ^ k), ← Nat.div_div_eq_div_mul, Nat.mul_div_cancel _ hp]
      show (2 * c + 1) / 2 = c
      omega
    rw [hcut]
    simp [signed]
  unfold floatToIntVal
  rw [h1]
  have h2 : IntKind.i64.min = -9223372036854775808 := rfl
  have h3 : IntKind.i64.max = 9223372036854775807 := rfl
  simp only [h2, h3]
  rw [if_pos (by omega)]

theorem half_ne {z c : Nat} (hd : RepH 1 (double.read z) false (2 * c + 1)) (hc : c < 2 ^ 50) : floatOfInt .f64 (c : Int) ≠ z := by
  intro e
  obtain ⟨j, hj⟩ := repH_fi (c : Int) (by omega)
  rw [e] at hj
  obtain ⟨k, hk⟩ := hd
  rw [hk, Int.natAbs_natCast] at hj
  injection hj with h1 h2 h3
  obtain rfl : j = k + 1 := by omega
  have hp : 0 < 2 ^ k := Nat.two_pow_pos _
  rw [Nat.pow_succ, Nat.mul_comm (2 ^ k) 2, ← Nat.mul_assoc, Nat.mul_comm c 2] at h2
  have := Nat.eq_of_mul_eq_mul_right hp h2
  omega

end Flo
end Go.Proofs.Ytiigmmmhhpdmdaa

/-
  Contracts of package word's functions (None, Ref, Index, Is, Head, Tell) and of the law's own 'first'.
-/
namespace Go.Proofs.Ytiigmmmhhpdmdaa
open Go.RowKit
open Ieee (double)

theorem nn_fi (n : Int) : NN (floatOfInt .f64 n) := by
  unfold NN
  have hinf : double.infRung = 2047 * 2 ^ 52 := by decide
  have hsw : double.signWeight = 2 ^ 63 := by decide
  have key : ∃ s r, floatOfInt .f64 n = double.word s r ∧ r ≤ 2047 * 2 ^ 52 := by
    rw [Flo.fi_eq]
    unfold Flo.F Ieee.Format.nearest
    split
    · exact ⟨_, 0, rfl, by decide⟩
    · exact ⟨_, _, rfl, by rw [← hinf]; exact Nat.min_le_right ..⟩
  obtain ⟨s, r, e, hr⟩ := key
  rw [e]
  unfold Ieee.Format.word
  rw [hsw]
  show (((if s then 2 ^ 63 + r else r : Nat) : Int) * 2) % 18446744073709551616 ≤ 18437736874454810624
  cases s
  · simp only [Bool.false_eq_true, if_false]; omega
  · simp only [if_true]; omega
theorem nn_zero : NN 0 := by unfold NN; decide +kernel
theorem nn_one : NN 4607182418800017408 := by unfold NN; decide +kernel
theorem nb_zero : nb 0 = 0 := by decide +kernel
theorem nb_one : nb 4607182418800017408 = 4607182418800017408 := by decide +kernel
theorem fi_zero : floatOfInt .f64 0 = 0 := by decide +kernel
theorem fi_one : floatOfInt .f64 1 = 4607182418800017408 := by decide +kernel

set_option maxHeartbeats 400000 in
theorem none_any (w : World) : Calls Try.prog 69 #[] w fun e w' => e = .returned (.complex .f64 0 4607182418800017408) ∧ w' = w := by
  go_enter Try.func69, Try.ntmps69
  go_wp2
  go_ret
  exact ⟨rfl, rfl⟩

theorem five : floatOfInt .f64 (4 + 1) = floatOfInt .f64 5 := rfl

end Go.Proofs.Ytiigmmmhhpdmdaa

/-
  Words, as the bits of their parts.
-/
namespace Go.Proofs.Ytiigmmmhhpdmdaa
open Go.RowKit

theorem run_store_complex {P : Program} {w : World} {a : Addr} {m : Mode} (k : FloatKind) (x y : Nat) : (store a (.complex k x y) m).run P w = stored P w a (.complex k x y) m := run_store P w a _ m rfl

/-- A word, by the bits of its parts. -/
structure Cx where
  re : Nat
  im : Nat
def cz : Cx := ⟨0, 0⟩
def cn : Cx := ⟨0, 4607182418800017408⟩
def cr (i : Int) : Cx := ⟨floatOfInt .f64 (i + 1), 4607182418800017408⟩
def cw (n : Int) : Cx := ⟨floatOfInt .f64 n, 0⟩
def ch (k m : Int) : Cx := ⟨floatOfInt .f64 k, floatOfInt .f64 m⟩
end Go.Proofs.Ytiigmmmhhpdmdaa

/-
  Contracts of package mem: a memory of n words, and how often it was asked.
-/
namespace Go.Proofs.Ytiigmmmhhpdmdaa
open Go.RowKit
attribute [local go_sem] run_store_complex

def rv (F : Nat → Cx) (i : Nat) : Value := .complex .f64 (F i).re (F i).im
def cx (z : Cx) : Value := .complex .f64 z.re z.im
/-- A memory: its head block M, its words F in block b, asked q times. -/
structure Mm (w : World) (b M n : Nat) (F : Nat → Cx) (q : Nat) : Prop where
  hd : Blk w M [.slice (some ⟨b, 0, none⟩) n n, .int .i64 (q : Int)]
  row : w.rowIs b 54 n (rv F)
  ne : b ≠ M
section
variable {w w' : World} {b M n q : Nat} {F G : Nat → Cx}
theorem Mm.kept (h : Mm w b M n F q) (k : Kept w w') : Mm w' b M n F q := ⟨h.hd.kept k, k.row h.row, h.ne⟩
theorem Mm.muts {D : List Nat} (h : Mm w b M n F q) (k : Mut D w w') (h1 : b ∉ D) (h2 : M ∉ D) : Mm w' b M n F q := ⟨h.hd.muts k h2, k.row h.row h1, h.ne⟩
theorem Mm.asked (h : Mm w b M n F q) : Mm (w.setCell ⟨M, 1, none⟩ (.int .i64 ((q : Int) + 1))) b M n F (q + 1) :=
  ⟨by have := h.hd.set (i := 1) rfl (.int .i64 ((q : Int) + 1)); exact this, h.row.setOther h.ne _, h.ne⟩
theorem Mm.put (h : Mm w b M n F q) (a : Nat) (z : Cx) (he : ∀ j, j < n → (if j = a then z else F j) = G j) : Mm (w.setCell ⟨b, a, none⟩ (cx z)) b M n G q :=
  ⟨h.hd.set_other h.ne _, (h.row.set a (cx z)).congr (fun j hj => by
    have e := he j hj
    by_cases ea : j = a
    · rw [if_pos ea] at e
      simp only [if_pos ea, rv, cx, ← e]
    · rw [if_neg ea] at e
      simp only [if_neg ea, rv, ← e]), h.ne⟩
theorem Mm.get (h : Mm w b M n F q) {a : Nat} (ha : a < n) : w.cell? ⟨b, a, none⟩ = some (cx (F a)) := h.row.cell ha
end

theorem info_cx : (Try.prog.info? 54).map (fun i => (i.zero, i.size, i.bytes)) = some (some (.complex .f64 0 0), 1, 16) := by kernel_rfl
theorem run_make_cx (n : Nat) (h : n ≤ 1000000) (w : World) :
    (Instr.makeSlice 44 (.int .i64 (n : Int)) (.int .i64 (n : Int))).run Try.prog w = .ok (.slice (some ⟨w.heap.size, 0, none⟩) n n) (w.alloc (.cells (madeCells #[.complex .f64 0 0] n) 54)) := by
  obtain ⟨i, hi, hz, hs, hb⟩ := info_parts info_cx
  have hr := run_make (P := Try.prog) w 44 54 i _ Try.underlying44 hi hz .i64 .i64 n n (by omega) (Int.le_refl _) (by rw [hb]; omega) (by omega)
  simp only [Int.toNat_natCast, hs, Nat.mul_one] at hr
  exact hr
theorem row_made_cx (w : World) (n : Nat) : (w.alloc (.cells (madeCells #[.complex .f64 0 0] n) 54)).rowIs w.heap.size 54 n (rv fun _ => cz) := by
  have h := World.rowIs_alloc w (madeCells #[.complex .f64 0 0] n) 54 (rv fun _ => cz) (fun i hi => by
    rw [size_madeCells] at hi
    have e : i % 1 = 0 := by omega
    simp [madeCells, hi, rv, cz, e])
  rwa [size_madeCells] at h

set_option maxHeartbeats 800000 in
theorem mem_new (n : Nat) (w : World) (hn : n ≤ 1000000) :
    Calls Try.prog 66 #[.int .i64 n] w fun e w' => ∃ b M, e = .returned (.tuple #[.pointer (some ⟨M, 0, none⟩), .int .i64 0]) ∧ Mm w' b M n (fun _ => cz) 0 ∧ Kept w w' ∧ w.heap.size ≤ b ∧ w.heap.size ≤ M := by
  have hmk := run_make_cx n hn
  have HO : Hid (Mm ((w.alloc (.cells (madeCells #[.complex .f64 0 0] n) 54)).alloc (.cells #[.slice (some ⟨w.heap.size, 0, none⟩) n n, .int .i64 0] 104)) w.heap.size (w.heap.size + 1) n (fun _ => cz) 0) :=
    ⟨Blk.new2 w _ _ [.slice (some ⟨w.heap.size, 0, none⟩) n n, .int .i64 0] _, ((Kept.refl _).alloc _ _).row (row_made_cx w n), by omega⟩
  go_enter Try.func66, Try.ntmps66
  go_wp2
  go_ret2
  exact ⟨_, _, rfl, HO.out, ((Kept.refl _).alloc _ _).alloc _ _, by omega, by simp⟩

section
variable {b M n q : Nat} {F : Nat → Cx}

set_option maxHeartbeats 400000 in
theorem mem_has (a : Nat) (w : World) (h : Mm w b M n F q) (ha : a < n) :
    Calls Try.prog 47 #[.pointer (some ⟨M, 0, none⟩), .int .i64 a] w fun e w' => e = .returned (.bool true) ∧ w' = w := by
  have c0 := h.hd.at 0 rfl
  clear h
  go_enter Try.func47, Try.ntmps47
  go_wp2
  go_ret
  exact ⟨rfl, rfl⟩

set_option maxHeartbeats 400000 in
theorem mem_len (w : World) (h : Mm w b M n F q) :
    Calls Try.prog 13 #[.pointer (some ⟨M, 0, none⟩)] w fun e w' => e = .returned (.int .i64 n) ∧ w' = w := by
  have c0 := h.hd.at 0 rfl
  clear h
  go_enter Try.func13, Try.ntmps13
  go_wp2
  go_ret
  exact ⟨rfl, rfl⟩

set_option maxHeartbeats 400000 in
theorem mem_count (w : World) (h : Mm w b M n F q) :
    Calls Try.prog 42 #[.pointer (some ⟨M, 0, none⟩)] w fun e w' => e = .returned (.int .i64 q) ∧ w' = w := by
  have c1 := h.hd.at 1 rfl
  clear h
  go_enter Try.func42, Try.ntmps42
  go_wp2
  go_ret
  exact ⟨rfl, rfl⟩

set_option maxHeartbeats 400000 in
theorem mem_peek (a : Nat) (w : World) (h : Mm w b M n F q) (ha : a < n) :
    Calls Try.prog 15 #[.pointer (some ⟨M, 0, none⟩), .int .i64 a] w fun e w' => e = .returned (.complex .f64 (F a).re (F a).im) ∧ w' = w := by
  have C0 : Hid (Calls Try.prog 47 #[.pointer (some ⟨M, 0, none⟩), .int .i64 a] w _) := mem_has a w h ha
  have c0 := h.hd.at 0 rfl
  have c1 := h.get ha
  unfold cx at c1
  clear h
  go_enter Try.func15, Try.ntmps15
  go_wp2_with fail
  refine C0.out.mono ?_
  rintro e w' ⟨rfl, rfl⟩
  go_wp2
  go_ret
  exact ⟨rfl, rfl⟩

set_option maxHeartbeats 800000 in
theorem mem_read (a : Nat) (w : World) (h : Mm w b M n F q) (ha : a < n) (hq : q ≤ 1000000) :
    Calls Try.prog 19 #[.pointer (some ⟨M, 0, none⟩), .int .i64 a] w fun e w' => e = .returned (.tuple #[.complex .f64 (F a).re (F a).im, .int .i64 0]) ∧ Mm w' b M n F (q + 1) ∧ Mut [M] w w' := by
  have h1 := h.asked
  have C0 : Hid (Calls Try.prog 47 #[.pointer (some ⟨M, 0, none⟩), .int .i64 a] (w.setCell ⟨M, 1, none⟩ (.int .i64 ((q : Int) + 1))) _) := mem_has a _ h1 ha
  have c1 := h.hd.at 1 rfl
  have f1 := h.hd.fz
  have HM : Hid (Mm (w.setCell ⟨M, 1, none⟩ (.int .i64 ((q : Int) + 1))) b M n F (q + 1) ∧ Mut [M] w (w.setCell ⟨M, 1, none⟩ (.int .i64 ((q : Int) + 1)))) := ⟨h1, (Mut.refl _ _).setCell (by simp) _⟩
  clear h1 h
  go_enter Try.func19, Try.ntmps19
  go_wp2_with fail
  refine C0.out.mono ?_
  rintro e w' ⟨rfl, rfl⟩
  generalize w.setCell ⟨M, 1, none⟩ (.int .i64 ((q : Int) + 1)) = W at *
  have c0 := HM.out.1.hd.at 0 rfl
  have c2 := HM.out.1.get ha
  unfold cx at c2
  clear C0
  go_wp2
  go_ret2
  exact ⟨rfl, HM.out.1, HM.out.2⟩

end
end Go.Proofs.Ytiigmmmhhpdmdaa

/-
  Contract of package mem's From: a memory of given words, none of them counted.
-/
namespace Go.Proofs.Ytiigmmmhhpdmdaa
open Go.RowKit Go.ChangeShapes Go.WideShapes

/-- A row written whole. -/
theorem row_whole {W : World} {b n : Nat} {t : TypeId} {cs : Array Value} (F : Nat → Value) (h : W.heap[b]? = some (.cells cs t (0, 0))) : (W.setRow b ((List.range n).map F).toArray).rowIs b t n F :=
  ⟨_, setRow_heap W b cs _ t _ h, by simp, fun i hi => by simp [hi]⟩
theorem Mm.whole {w : World} {b M n q : Nat} {F : Nat → Cx} (h : Mm w b M n F q) (G : Nat → Cx) : Mm (w.setRow b ((List.range n).map (rv G)).toArray) b M n G q ∧ Mut [b] w (w.setRow b ((List.range n).map (rv G)).toArray) := by
  obtain ⟨cs, h1, _, _⟩ := h.row
  have m : Mut [b] w (w.setRow b ((List.range n).map (rv G)).toArray) := ⟨rfl, rfl, rfl, by simp, fun k _ hd => setRow_other _ _ _ _ (by simpa using hd)⟩
  exact ⟨⟨h.hd.muts m (by simpa using h.ne.symm), row_whole _ h1, h.ne⟩, m⟩

set_option maxHeartbeats 1000000 in
theorem copy_words {w : World} {b M n g : Nat} {F G : Nat → Cx} (h : Mm w b M n F 0) (hr : w.rowIs g 54 n (rv G)) :
    (Builtin.copy_ #[44, 44] 3 #[.slice (some ⟨b, 0, none⟩) n n, .slice (some ⟨g, 0, none⟩) n n]).run Try.prog w = .ok (goInt n) (w.setRow b ((List.range n).map (rv G)).toArray) := by
  obtain ⟨cs, h1, h2, _⟩ := h.row
  have hlen : ((List.range n).map (rv G)).length = n := by simp
  have hrun := run_copy_row (P := Try.prog) w 44 44 3 54 b 0 n n ⟨g, 0, none⟩ n n cs 54 ((List.range n).map (rv G)) Try.underlying44 (by kernel_rfl) h1 (by simp)
    (fun j v hj => by
      by_cases hjl : j < n
      · simp [hjl] at hj
        subst hj
        rw [add_plain, Nat.zero_add]
        exact hr.cell hjl
      · simp [hjl] at hj) (by simp [h2]) (by simp [Value.oneCell', rv])
  have hrw : List.take 0 cs.toList ++ (List.range n).map (rv G) ++ List.drop (0 + n) cs.toList = (List.range n).map (rv G) := by
    have : List.drop (0 + n) cs.toList = [] := List.drop_eq_nil_of_le (by simp [h2])
    rw [this]
    simp
  rw [hlen, hrw] at hrun
  exact hrun

set_option maxHeartbeats 1000000 in
theorem mem_from (n g : Nat) (G : Nat → Cx) (w : World) (hn : n ≤ 1000000) (hr : w.rowIs g 54 n (rv G)) :
    Calls Try.prog 28 #[.slice (some ⟨g, 0, none⟩) n n] w fun e w' => ∃ b M, e = .returned (.tuple #[.pointer (some ⟨M, 0, none⟩), .int .i64 0]) ∧ Mm w' b M n G 0 ∧ Kept w w' ∧ w.heap.size ≤ b ∧ w.heap.size ≤ M := by
  have HR : Hid (w.rowIs g 54 n (rv G)) := hr
  have C : Hid (∀ w, _) := fun w => mem_new n w hn
  clear hr
  go_enter Try.func28, Try.ntmps28
  go_wp2_with fail
  refine (C.out _).mono ?_
  rintro e w1 ⟨b, M, rfl, m1, k1, l1, l2⟩
  have hcp := copy_words m1 (k1.row HR.out)
  have c0 := m1.hd.at 0 rfl
  have HW := m1.whole G
  have H1 : Hid (Mm (w1.setRow b ((List.range n).map (rv G)).toArray) b M n G 0 ∧ Kept w (w1.setRow b ((List.range n).map (rv G)).toArray) ∧ w.heap.size ≤ b ∧ w.heap.size ≤ M) := ⟨HW.1, k1.muts HW.2 (fun k hk => by simp at hk; omega), l1, l2⟩
  clear m1 k1 l1 l2 HW C HR
  go_wp2
  go_ret2
  exact ⟨b, M, rfl, H1.out⟩
end Go.Proofs.Ytiigmmmhhpdmdaa

/-
  The words that a heap starts with: the globals refer to nothing, all others are 0.
-/
namespace Go.Proofs.Ytiigmmmhhpdmdaa
open Go.RowKit
attribute [local go_sem] run_store_complex

/-- g words behind the first m are None, all others 0. -/
def fwk (m g : Nat) : Nat → Cx := fun j => if m ≤ j ∧ j < m + g then cn else cz
theorem fwk_0 (m : Nat) : fwk m 0 = fun _ => cz := by
  funext j
  have : ¬ (m ≤ j ∧ j < m + 0) := by omega
  simp only [fwk, if_neg this]
theorem row_next {w : World} {b n m k : Nat} {t : TypeId} (h : w.rowIs b t n (rv (fwk m k))) (a : Nat) (ha : a = m + k) : (w.setCell ⟨b, a, none⟩ (.complex .f64 0 4607182418800017408)).rowIs b t n (rv (fwk m (k + 1))) :=
  (h.set a (cx cn)).congr fun j hj => by
    by_cases e : j = a
    · subst e
      have : m ≤ j ∧ j < m + (k + 1) := by omega
      simp only [if_true, rv, fwk, this, and_self, cx]
    · have : (m ≤ j ∧ j < m + (k + 1)) ↔ (m ≤ j ∧ j < m + k) := by omega
      simp only [if_neg e, rv, fwk, this]

set_option maxHeartbeats 2000000 in
theorem first_words (n s g : Nat) (n3 n4 n5 n6 n7 : Int) (x : Option Addr) (l c : Nat) (S : Nat → Sh) (w : World) (hS : Shps w x l S) (hg : Good n s g n3 n4 n5 n6 n7 l S) (N : Nat) (hN : N = 8 * n + 2 * s + g) :
    Calls Try.prog 29 #[.agg #[.int .i64 (n : Int), .int .i64 (s : Int), .int .i64 (g : Int), .int .i64 n3, .int .i64 n4, .int .i64 n5, .int .i64 n6, .int .i64 n7, .slice x l c]] w fun e w' =>
      ∃ b, e = .returned (.slice (some ⟨b, 0, none⟩) N N) ∧ w'.rowIs b 54 N (rv (fwk (8 * n + 2 * s) g)) ∧ w.heap.size ≤ b ∧ Kept w w' := by
  have HS : Hid (Shps w x l S) := hS
  have HG : Hid (Good n s g n3 n4 n5 n6 n7 l S) := hg
  have HN : Hid (N = 8 * n + 2 * s + g) := hN
  have hn1 : N ≤ 1000000 := by
    obtain ⟨⟨⟨a0, a1⟩, ⟨a2, a3⟩, ⟨a4, a5⟩, _⟩, _⟩ := hg
    omega
  have hg8 : g ≤ 8 := by
    obtain ⟨⟨⟨a0, a1⟩, ⟨a2, a3⟩, ⟨a4, a5⟩, _⟩, _⟩ := hg
    omega
  have hmk := run_make_cx N hn1
  have CW : Hid (∀ w, Shps w x l S → _) := fun w h => words_any n s g n3 n4 n5 n6 n7 x l c S (N : Int) w h (by have := HN.out; exact ⟨fun _ => by omega, fun h => absurd HG.out h⟩)
  clear hS hg hN
  go_enter Try.func29, Try.ntmps29
  go_wp2_with fail
  generalize hW0 : w.alloc _ = W0
  have B0 : Hid (Blk W0 w.heap.size (cl n s g n3 n4 n5 n6 n7 (.slice x l c)) ∧ Kept w W0) := by
    rw [← hW0]
    exact ⟨Blk.new w _ _, (Kept.refl w).alloc _ _⟩
  clear hW0
  refine (CW.out _ (HS.out.kept B0.out.2)).mono ?_
  rintro e w1 ⟨rfl, k1⟩
  have B1 : Hid (Blk w1 w.heap.size (cl n s g n3 n4 n5 n6 n7 (.slice x l c)) ∧ Kept w w1) := ⟨B0.out.1.kept k1, B0.out.2.trans k1⟩
  clear k1 B0 CW
  have c2 : (w1.alloc (.cells (madeCells #[.complex .f64 0 0] N) 54)).cell? ⟨w.heap.size, 2, none⟩ = some (.int .i64 (g : Int)) := (B1.out.1.kept ((Kept.refl w1).alloc _ _)).at 2 rfl
  go_wp2_with fail
  generalize hW2 : World.alloc _ _ = W2
  have H2 : Hid (Blk W2 w.heap.size (cl n s g n3 n4 n5 n6 n7 (.slice x l c)) ∧ Kept w W2 ∧ W2.rowIs w1.heap.size 54 N (rv (fwk (8 * n + 2 * s) 0)) ∧ w.heap.size < w1.heap.size) := by
    rw [← hW2, fwk_0]
    have k2 : Kept w1 (w1.alloc (.cells (madeCells #[.complex .f64 0 0] N) 54)) := (Kept.refl w1).alloc _ _
    exact ⟨B1.out.1.kept k2, B1.out.2.trans k2, row_made_cx w1 N, B1.out.1.lt⟩
  clear hW2 B1 c2 hmk
  go_loopg [12] g (fun m i wr => ∃ k : Nat, i = .int .i64 k ∧ k ≤ g ∧ m = g - k ∧ Hid (Blk wr w.heap.size (cl n s g n3 n4 n5 n6 n7 (.slice x l c)) ∧ Kept w wr ∧ wr.rowIs w1.heap.size 54 N (rv (fwk (8 * n + 2 * s) k))))
  case atStart => exact ⟨0, rfl, by omega, by omega, H2.out.1, H2.out.2.1, H2.out.2.2.1⟩
  case round =>
    obtain ⟨k, rfl, hk, hm, hw⟩ := hrel
    have HM : Hid _ := hm
    clear hm
    by_cases hlt : k < g
    · obtain ⟨a, hA⟩ : ∃ a : Nat, a = 8 * n + 2 * s + k := ⟨_, rfl⟩
      have ha : a < N := by have := HN.out; omega
      have HA : Hid (a = 8 * n + 2 * s + k) := hA
      have CG := global_any n s g n3 n4 n5 n6 n7 x l c S (k : Int) (a : Int) 0 wr (HS.out.kept hw.out.2.1) ⟨fun _ => ⟨by omega, rfl⟩, fun h => absurd ⟨HG.out, by omega, by omega⟩ h⟩
      have b0 := hw.out.1.at 0 rfl
      have b1 := hw.out.1.at 1 rfl
      have b2 := hw.out.1.at 2 rfl
      have b3 := hw.out.1.at 3 rfl
      have b4 := hw.out.1.at 4 rfl
      have b5 := hw.out.1.at 5 rfl
      have b6 := hw.out.1.at 6 rfl
      have b7 := hw.out.1.at 7 rfl
      have b8 := hw.out.1.at 8 rfl
      clear hA
      go_wp2_with fail
      refine CG.mono ?_
      rintro e w2 ⟨rfl, k2⟩
      have HW : Hid (Blk w2 w.heap.size (cl n s g n3 n4 n5 n6 n7 (.slice x l c)) ∧ Kept w w2 ∧ w2.rowIs w1.heap.size 54 N (rv (fwk (8 * n + 2 * s) k))) := ⟨hw.out.1.kept k2, hw.out.2.1.trans k2, k2.row hw.out.2.2⟩
      clear b0 b1 b2 b3 b4 b5 b6 b7 b8 CG k2 hw
      have CN := none_any w2
      go_wp2_with fail
      refine CN.mono ?_
      rintro e w3 ⟨rfl, e3⟩
      rw [e3]
      clear e3 CN
      have r0 := HW.out.2.2.cell ha
      have f0 := HW.out.2.2.frozen
      go_wp2
      go_roundg (gk - 1)
      all_goals (have := HM.out; try omega)
      refine ⟨k + 1, by go_num, by omega, by omega, HW.out.1.set_other (by have := H2.out.2.2.2; simp; omega) _, HW.out.2.1.setCell (by have := H2.out.2.2.2; simp; omega) _, row_next HW.out.2.2 a HA.out⟩
    · obtain rfl : k = g := by omega
      go_wp2
      go_ret
      exact ⟨w1.heap.size, rfl, hw.out.2.2, by have := H2.out.2.2.2; omega, hw.out.2.1⟩
end Go.Proofs.Ytiigmmmhhpdmdaa

/-
  A core as plain values, and as it lies in memory; what each call of its parts leaves.
-/
namespace Go.Proofs.Ytiigmmmhhpdmdaa
open Go.RowKit

/-- Where a core lies: its own block and configuration; its memory's words and head; its shade, the pile, the pile's numbers; its hand and that one's row; its space. -/
structure Ak where
  kb : Nat
  C : Cv
  mw : Nat
  mh : Nat
  sb : Nat
  pb : Nat
  v : Value
  hb : Nat
  hg : Nat
  hc : Nat
  A : Ad

/-- A core as plain values: the words and how often they were asked; the pile, its room, what is lost, the shade's count; the hand; the space, whose table is the shade's. -/
structure Kv where
  N : Nat
  F : Nat → Cx
  q : Nat
  most : Nat
  P : List Int
  z : Bool
  sc : Nat
  H : Hs
  S : Sp
def Kv.sh (K : Kv) : ShS := ⟨K.S.n, K.most, K.S.T, K.P, K.z, K.sc⟩
/-- As it is made. -/
def Kv.new (N m n s g most th ch : Nat) : Kv := ⟨N, fwk m g, 0, most, [], false, 0, Hs.first th, Sp.new n s th ch⟩

def Ak.cells (B : Ak) : List Value := [.int .i64 B.C.n0, .int .i64 B.C.n1, .int .i64 B.C.n2, .int .i64 B.C.n3, .int .i64 B.C.n4, .int .i64 B.C.n5, .int .i64 B.C.n6, .int .i64 B.C.n7, .slice B.C.x B.C.l B.C.c,
  .pointer (some ⟨B.mh, 0, none⟩), .pointer (some ⟨B.sb, 0, none⟩), .pointer (some ⟨B.A.b, 0, none⟩), .pointer (some ⟨B.hb, 0, none⟩)]

/-- A core at B: the space's blocks bear the colours of c; d: 1 the memory's, 2 the shade's, 3 the hand's, 4 its own. -/
structure KH (w : World) (c d : Nat → Nat) (B : Ak) (K : Kv) : Prop where
  head : Blk w B.kb B.cells
  mem : Mm w B.mw B.mh K.N K.F K.q
  sh : ShC w 0 B.sb B.A.tb B.A.tg B.pb B.v K.sh
  hand : HH w B.hb B.hg B.hc K.H
  sp : SH w c B.A K.S
  dk : d B.kb = 4
  dw : d B.mw = 1
  dm : d B.mh = 1
  ds : d B.sb = 2
  dp : d B.pb = 2
  dv : ∀ k, B.v.ownBlock = some k → d k = 2
  dh : d B.hb = 3
  dg : d B.hg = 3
  dc : ∀ k, d k ≠ 0 → c k = 0 ∧ k < w.heap.size

section
variable {c c' d : Nat → Nat} {w w' : World} {B : Ak} {K : Kv}
theorem shc_muts {D : List Nat} {b tb g pb : Nat} {v : Value} {S S' : ShS} (h : ShC w 0 b tb g pb v S) (t : Tab w' tb g S'.n S'.T) (m : Mut D w w') (hb : b ∉ D) (hp : pb ∉ D) (hv : ∀ k, v.ownBlock = some k → k ∉ D) (e1 : S'.most = S.most) (e2 : S'.P = S.P) (e3 : S'.z = S.z) (e4 : S'.c = S.c) : ShC w' 0 b tb g pb v S' := by
  obtain ⟨n', most', T', P', z', c'⟩ := S'
  simp only at e1 e2 e3 e4 t
  subst e1 e2 e3 e4
  exact ⟨h.head.muts m hb, t, h.pile.muts m hp hv, Nat.zero_le _, Nat.zero_le _, Nat.zero_le _⟩
/-- What bears no colour was written. -/
theorem KH.muts {D : List Nat} (h : KH w c d B K) (m : Mut D w w') (hd : ∀ k, k ∈ D → c k = 0 ∧ d k = 0) : KH w' c d B K := by
  have H : ∀ k z, d k = z → z ≠ 0 → k ∉ D := fun k z e hz q => hz (e.symm.trans (hd k q).2)
  have s := h.sp.muts m fun k hk => (hd k hk).1
  exact ⟨h.head.muts m (H _ _ h.dk (by decide)), h.mem.muts m (H _ _ h.dw (by decide)) (H _ _ h.dm (by decide)), shc_muts h.sh s.tab m (H _ _ h.ds (by decide)) (H _ _ h.dp (by decide)) (fun k hk => H _ _ (h.dv k hk) (by decide)) rfl rfl rfl rfl,
    h.hand.muts m (H _ _ h.dh (by decide)) (H _ _ h.dg (by decide)), s, h.dk, h.dw, h.dm, h.ds, h.dp, h.dv, h.dh, h.dg, fun k hk => ⟨(h.dc k hk).1, Nat.lt_of_lt_of_le (h.dc k hk).2 m.size⟩⟩
theorem KH.kept (h : KH w c d B K) (k : Kept w w') : KH w' c d B K := h.muts (D := []) k.mut (fun _ q => by cases q)
/-- The memory was asked. -/
theorem KH.mems (h : KH w c d B K) {q : Nat} (t : Mm w' B.mw B.mh K.N K.F q) (m : Mut [B.mh] w w') : KH w' c d B { K with q := q } := by
  have H : ∀ k z, d k = z → z ≠ 1 → k ∉ [B.mh] := fun k z e hz q => by
    simp only [List.mem_singleton] at q
    subst q
    exact hz (e.symm.trans h.dm)
  have s := h.sp.muts m fun k hk => by
    simp only [List.mem_singleton] at hk
    rw [hk]; exact (h.dc _ (by rw [h.dm]; decide)).1
  exact ⟨h.head.muts m (H _ _ h.dk (by decide)), t, shc_muts h.sh s.tab m (H _ _ h.ds (by decide)) (H _ _ h.dp (by decide)) (fun k hk => H _ _ (h.dv k hk) (by decide)) rfl rfl rfl rfl,
    h.hand.muts m (H _ _ h.dh (by decide)) (H _ _ h.dg (by decide)), s, h.dk, h.dw, h.dm, h.ds, h.dp, h.dv, h.dh, h.dg, fun k hk => ⟨(h.dc k hk).1, Nat.lt_of_lt_of_le (h.dc k hk).2 m.size⟩⟩
/-- The hand was asked. -/
theorem KH.hands (h : KH w c d B K) {H' : Hs} (t : HH w' B.hb B.hg B.hc H') (m : Mut [B.hb, B.hg] w w') : KH w' c d B { K with H := H' } := by
  have H : ∀ k z, d k = z → z ≠ 3 → k ∉ [B.hb, B.hg] := fun k z e hz q => by
    simp only [List.mem_cons, List.not_mem_nil, or_false] at q
    rcases q with q | q
    · subst q; exact hz (e.symm.trans h.dh)
    · subst q; exact hz (e.symm.trans h.dg)
  have s := h.sp.muts m fun k hk => by
    simp only [List.mem_cons, List.not_mem_nil, or_false] at hk
    rcases hk with q | q
    · rw [q]; exact (h.dc _ (by rw [h.dh]; decide)).1
    · rw [q]; exact (h.dc _ (by rw [h.dg]; decide)).1
  exact ⟨h.head.muts m (H _ _ h.dk (by decide)), h.mem.muts m (H _ _ h.dw (by decide)) (H _ _ h.dm (by decide)), shc_muts h.sh s.tab m (H _ _ h.ds (by decide)) (H _ _ h.dp (by decide)) (fun k hk => H _ _ (h.dv k hk) (by decide)) rfl rfl rfl rfl,
    t, s, h.dk, h.dw, h.dm, h.ds, h.dp, h.dv, h.dh, h.dg, fun k hk => ⟨(h.dc k hk).1, Nat.lt_of_lt_of_le (h.dc k hk).2 m.size⟩⟩
/-- The space was asked. -/
theorem KH.spaces (h : KH w c d B K) {S' : Sp} (t : SH w' c' B.A S') (p : Stp c w c' w') (_ : S'.n = K.S.n) : KH w' c' d B { K with S := S' } := by
  have H : ∀ k z, d k = z → z ≠ 0 → k ∉ cols c w := fun k z e hz q => (mem_cols.1 q).2 (h.dc k (by rw [e]; exact hz)).1
  have m := p.mu
  exact ⟨h.head.muts m (H _ _ h.dk (by decide)), h.mem.muts m (H _ _ h.dw (by decide)) (H _ _ h.dm (by decide)), shc_muts h.sh t.tab m (H _ _ h.ds (by decide)) (H _ _ h.dp (by decide)) (fun k hk => H _ _ (h.dv k hk) (by decide)) rfl rfl rfl rfl,
    h.hand.muts m (H _ _ h.dh (by decide)) (H _ _ h.dg (by decide)), t, h.dk, h.dw, h.dm, h.ds, h.dp, h.dv, h.dh, h.dg, fun k hk => ⟨(p.same k (h.dc k hk).2).trans (h.dc k hk).1, Nat.lt_of_lt_of_le (h.dc k hk).2 m.size⟩⟩
/-- The table's rows were written by another's call. -/
theorem sh_tabs {D : List Nat} {A : Ad} {S : Sp} (h : SH w c A S) {T : Nat → Fr} (t : Tab w' A.tb A.tg S.n T) (m : Mut D w w') (hd : ∀ k, k ∈ D → c k = 0 ∨ c k = 1) : SH w' c A { S with T := T } := by
  have H : ∀ k z, c k = z → z ≠ 0 → z ≠ 1 → k ∉ D := fun k z e h0 h1 q => by
    rcases hd k q with q | q
    · exact h0 (e.symm.trans q)
    · exact h1 (e.symm.trans q)
  obtain ⟨v, E, l1, l2, l3⟩ := h.line
  exact ⟨h.head.muts m (H _ _ h.cb (by decide) (by decide)), t, h.pool.muts m (H _ _ h.cpb (by decide) (by decide)) (H _ _ h.cpg (by decide) (by decide)),
    ⟨v, E, l1.muts m fun k hk => H _ _ (l3 k hk) (by decide) (by decide), l2, l3⟩, h.coil.muts m (H _ _ h.ckb (by decide) (by decide)), m.row h.row (H _ _ h.csb (by decide) (by decide)),
    fun i hi => by
      obtain ⟨v, s1, s2, s3⟩ := h.stk i hi
      exact ⟨v, stk_muts s1 s2 s3 m (fun k hk e => H _ _ e (by omega) (by omega) hk), s2, s3⟩,
    shp_muts h.shp m (fun g o e => H _ _ (h.shc g o e) (by decide) (by decide)), h.shc, h.good, h.n0, h.n1, h.ctb, h.ctg, h.cpb, h.cpg, h.ckb, h.cb, h.csb, h.few, fun k hk => Nat.lt_of_lt_of_le (h.low k hk) m.size⟩
/-- The shade was asked. -/
theorem KH.shades (h : KH w c d B K) {S' : ShS} {v' : Value} (t : ShC w' 0 B.sb B.A.tb B.A.tg B.pb v' S') (m : Mut (ShF B.sb B.A.tb B.A.tg B.pb B.v) w w') (f : Fresh w B.v v') (e1 : S'.n = K.S.n) (e2 : S'.most = K.most) :
    KH w' c (grow d w v'.ownBlock.toList 2) { B with v := v' } { K with S := { K.S with T := S'.T }, P := S'.P, z := S'.z, sc := S'.c } := by
  obtain ⟨n', most', T', P', z', c'⟩ := S'
  simp only at e1 e2 t ⊢
  subst e1 e2
  have hD : ∀ k, k ∈ ShF B.sb B.A.tb B.A.tg B.pb B.v → d k = 2 ∨ c k = 1 := fun k hk => by
    simp only [ShF, List.mem_cons, Option.mem_toList] at hk
    rcases hk with rfl | rfl | rfl | rfl | hk
    · exact .inl h.ds
    · exact .inr h.sp.ctb
    · exact .inr h.sp.ctg
    · exact .inl h.dp
    · exact .inl (h.dv k hk)
  have H : ∀ k z, d k = z → z ≠ 0 → z ≠ 2 → k ∉ ShF B.sb B.A.tb B.A.tg B.pb B.v := fun k z e h0 h2 q => by
    rcases hD k q with q | q
    · exact h2 (e.symm.trans q)
    · have := (h.dc k (by rw [e]; exact h0)).1
      omega
  have s := sh_tabs h.sp t.tab m fun k hk => by
    rcases hD k hk with q | q
    · exact .inl (h.dc k (by rw [q]; decide)).1
    · exact .inr q
  have G : ∀ k z, d k = z → z ≠ 0 → grow d w v'.ownBlock.toList 2 k = z := fun k z e hz => (grow_old (h.dc k (by rw [e]; exact hz)).2).trans e
  refine ⟨h.head.muts m (H _ _ h.dk (by decide) (by decide)), h.mem.muts m (H _ _ h.dw (by decide) (by decide)) (H _ _ h.dm (by decide) (by decide)), t,
    h.hand.muts m (H _ _ h.dh (by decide) (by decide)) (H _ _ h.dg (by decide) (by decide)), s, G _ _ h.dk (by decide), G _ _ h.dw (by decide), G _ _ h.dm (by decide), G _ _ h.ds (by decide), G _ _ h.dp (by decide), fun k hk => ?_, G _ _ h.dh (by decide), G _ _ h.dg (by decide), fun k hk => ?_⟩
  · rcases f k hk with q | q
    · exact G _ _ (h.dv k q) (by decide)
    · exact grow_new q (by simp [hk])
  · by_cases q : k < w.heap.size
    · rw [grow_old q] at hk
      exact ⟨(h.dc k hk).1, Nat.lt_of_lt_of_le q m.size⟩
    · by_cases q2 : k ∈ v'.ownBlock.toList
      · exact ⟨h.sp.new (Nat.le_of_not_lt q), (t.pile.own k (by simp only [Option.mem_toList] at q2; simp [q2])).2⟩
      · exact absurd (grow_not (Nat.le_of_not_lt q) q2) hk
end

/-- A core that came behind world w0. -/
structure KM (w0 w : World) (c d : Nat → Nat) (B : Ak) (K : Kv) : Prop where
  kh : KH w c d B K
  kept : Kept w0 w
  newc : ∀ k, c k ≠ 0 → w0.heap.size ≤ k
  newd : ∀ k, d k ≠ 0 → w0.heap.size ≤ k
theorem KM.keep {w0 w w' : World} {c d : Nat → Nat} {B : Ak} {K : Kv} (h : KM w0 w c d B K) (k : Kept w w') : KM w0 w' c d B K := ⟨h.kh.kept k, h.kept.trans k, h.newc, h.newd⟩
end Go.Proofs.Ytiigmmmhhpdmdaa

