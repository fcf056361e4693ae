/-
  The modules Flo, Num12, one behind another.
-/
import Derived.Laws.FloatArith
import Derived.Test.YtiigmmmhhpdmdaaRows
import Derived.WalkKit
import Derived.WalkLawsBesides
import Derived.Laws.BitsAllLaws
/-
  Plain mathematics of binary64 numbers that stand for small whole numbers; nothing of the program.
-/
namespace Go.Proofs.Ytiigmmmhhpdmdaa
namespace Flo
open Ieee

/-- The word of the whole number m with the sign s. -/
def F (s : Bool) (m : Nat) : Nat := double.nearest s m 0
/-- What it stands for. -/
def sv (s : Bool) (m : Nat) : Int := if s then -(m : Int) else (m : Int)

/-- The datum stands for the whole number m with the sign s. -/
def Rep (d : Datum) (s : Bool) (m : Nat) : Prop := ∃ k : Nat, d = .number s (m * 2 ^ k) (-(k : Int))

theorem log2_mul_pow (m k : Nat) (h : m ≠ 0) : (m * 2 ^ k).log2 = m.log2 + k := by
  have hp : 0 < 2 ^ k := Nat.two_pow_pos _
  have h0 : m * 2 ^ k ≠ 0 := by
    intro e
    rcases Nat.mul_eq_zero.1 e with e | e
    · exact h e
    · omega
  rw [Nat.log2_eq_iff h0]
  have h1 := (Nat.log2_eq_iff (k := m.log2) h).1 rfl
  constructor
  · rw [Nat.pow_add]; exact Nat.mul_le_mul_right _ h1.1
  · have e : m.log2 + k + 1 = (m.log2 + 1) + k := by omega
    rw [e, Nat.pow_add]; exact Nat.mul_lt_mul_of_pos_right h1.2 hp

theorem lt_two_pow_log2 (m : Nat) (h : m ≠ 0) : m < 2 ^ (m.log2 + 1) := ((Nat.log2_eq_iff (k := m.log2) h).1 rfl).2
theorem two_pow_log2_le (m : Nat) (h : m ≠ 0) : 2 ^ m.log2 ≤ m := ((Nat.log2_eq_iff (k := m.log2) h).1 rfl).1

theorem cut_exact (neg : Bool) (n d : Nat) (h : d ≤ (n * 2 ^ d).log2 + 2) : Toward.even.cut neg (n * 2 ^ d) d = n := by
  unfold Toward.cut
  have hp : 0 < 2 ^ d := Nat.two_pow_pos _
  have e : (1 <<< min d ((n * 2 ^ d).log2 + 2)) = 2 ^ d := by rw [Nat.min_eq_left h, Nat.shiftLeft_eq, Nat.one_mul]
  simp only [e]
  rw [Nat.mul_div_cancel _ hp, Nat.mul_mod_left]
  have : ¬ (2 ^ d < 2 * 0) := by omega
  have h2 : (2 ^ d == 2 * 0) = false := by simp
  simp [h2]

theorem cut_zero (neg : Bool) (n : Nat) : Toward.even.cut neg n 0 = n := by
  have := cut_exact neg n 0 (Nat.zero_le _)
  simpa using this

/-- Writing m * 2^k at the place -k: the rung. -/
theorem nearest_rep (s : Bool) (m k : Nat) (h0 : m ≠ 0) (h : m < 2 ^ 53) :
    double.nearest s (m * 2 ^ k) (-(k : Int)) = double.word s ((m.log2 + 1022) * 2 ^ 52 + m * 2 ^ (52 - m.log2)) := by
  have hL : m.log2 < 53 := (Nat.log2_lt h0).2 h
  have hp : 0 < 2 ^ k := Nat.two_pow_pos _
  have hne : m * 2 ^ k ≠ 0 := by
    intro e
    rcases Nat.mul_eq_zero.1 e with e | e
    · exact h0 e
    · omega
  have hlog := log2_mul_pow m k h0
  have hlp : double.leastPlace = -1074 := by decide
  have hfb : double.fractionBits = 52 := rfl
  have hbin : double.binade = 2 ^ 52 := rfl
  have hinf : double.infRung = 2047 * 2 ^ 52 := by decide
  unfold Format.nearest
  rw [if_neg hne]
  simp only [hlog, hfb, hlp, hbin, hinf]
  have hlast : max (-(k : Int) + ((m.log2 + k : Nat) : Int) - ((52 : Nat) : Int)) (-1074) = (m.log2 : Int) - 52 := by omega
  rw [hlast]
  have hkept : Toward.even.cut s ((m * 2 ^ k) <<< (-(k : Int) - ((m.log2 : Int) - 52)).toNat) (((m.log2 : Int) - 52) - (-(k : Int))).toNat = m * 2 ^ (52 - m.log2) := by
    by_cases hk : k ≤ 52 - m.log2
    · have e1 : (-(k : Int) - ((m.log2 : Int) - 52)).toNat = (52 - m.log2) - k := by omega
      have e2 : (((m.log2 : Int) - 52) - (-(k : Int))).toNat = 0 := by omega
      rw [e1, e2, cut_zero, Nat.shiftLeft_eq, Nat.mul_assoc, ← Nat.pow_add]
      congr 2; omega
    · have e1 : (-(k : Int) - ((m.log2 : Int) - 52)).toNat = 0 := by omega
      have e2 : (((m.log2 : Int) - 52) - (-(k : Int))).toNat = k - (52 - m.log2) := by omega
      have e3 : m * 2 ^ k = (m * 2 ^ (52 - m.log2)) * 2 ^ (k - (52 - m.log2)) := by
        rw [Nat.mul_assoc, ← Nat.pow_add]; congr 2; omega
      rw [e1, e2, Nat.shiftLeft_eq, Nat.pow_zero, Nat.mul_one, e3, cut_exact]
      rw [← e3, hlog]; omega
  rw [hkept]
  have hup : m * 2 ^ (52 - m.log2) < 2 ^ 53 := by
    have h1 := lt_two_pow_log2 m h0
    have h2 : m * 2 ^ (52 - m.log2) < 2 ^ (m.log2 + 1) * 2 ^ (52 - m.log2) := Nat.mul_lt_mul_of_pos_right h1 (Nat.two_pow_pos _)
    rw [← Nat.pow_add] at h2
    have e : m.log2 + 1 + (52 - m.log2) = 53 := by omega
    rw [e] at h2; exact h2
  have hr : ((m.log2 : Int) - 52 - -1074).toNat = m.log2 + 1022 := by omega
  rw [hr, Nat.min_eq_left]
  omega

theorem F_eq (s : Bool) (m : Nat) (h0 : m ≠ 0) (h : m < 2 ^ 53) :
    F s m = double.word s ((m.log2 + 1022) * 2 ^ 52 + m * 2 ^ (52 - m.log2)) := by
  have := nearest_rep s m 0 h0 h
  simpa [F] using this

theorem F_zero (s : Bool) : F s 0 = double.word s 0 := rfl

/-- Writing what stands for m gives m's word. -/
theorem write_rep {d : Datum} {s : Bool} {m : Nat} (hd : Rep d s m) (h : m < 2 ^ 53) : double.write d = F s m := by
  obtain ⟨k, rfl⟩ := hd
  show double.nearest s (m * 2 ^ k) (-(k : Int)) = _
  by_cases h0 : m = 0
  · subst h0; unfold F Format.nearest; rw [if_pos (Nat.zero_mul _), if_pos rfl]
  · rw [nearest_rep s m k h0 h, F_eq s m h0 h]

/-- Reading m's word gives what stands for m. -/
theorem read_F (s : Bool) (m : Nat) (h : m < 2 ^ 53) : Rep (double.read (F s m)) s m := by
  have hlp : double.leastPlace = -1074 := by decide
  have hsw : double.signWeight = 2 ^ 63 := by decide
  have hbin : double.binade = 2 ^ 52 := rfl
  have hinf : double.infRung = 2047 * 2 ^ 52 := by decide
  by_cases h0 : m = 0
  · subst h0
    refine ⟨1074, ?_⟩
    rw [F_zero]
    cases s <;> decide +kernel
  · have hL : m.log2 < 53 := (Nat.log2_lt h0).2 h
    have hup : m * 2 ^ (52 - m.log2) < 2 ^ 53 := by
      have h1 := lt_two_pow_log2 m h0
      have h2 : m * 2 ^ (52 - m.log2) < 2 ^ (m.log2 + 1) * 2 ^ (52 - m.log2) := Nat.mul_lt_mul_of_pos_right h1 (Nat.two_pow_pos _)
      rw [← Nat.pow_add] at h2
      have e : m.log2 + 1 + (52 - m.log2) = 53 := by omega
      rw [e] at h2; exact h2
    have hlo : 2 ^ 52 ≤ m * 2 ^ (52 - m.log2) := by
      have h1 := two_pow_log2_le m h0
      have h2 : 2 ^ m.log2 * 2 ^ (52 - m.log2) ≤ m * 2 ^ (52 - m.log2) := Nat.mul_le_mul_right _ h1
      rw [← Nat.pow_add] at h2
      have e : m.log2 + (52 - m.log2) = 52 := by omega
      rw [e] at h2; exact h2
    rw [F_eq s m h0 h]
    generalize hx : m * 2 ^ (52 - m.log2) = x at hup hlo ⊢
    have hneg : (double.word s ((m.log2 + 1022) * 2 ^ 52 + x) / 2 ^ 63 % 2 == 1) = s := by
      unfold Format.word
      rw [hsw]
      cases s
      · have : ((m.log2 + 1022) * 2 ^ 52 + x) / 2 ^ 63 % 2 = 0 := by omega
        simp [this]
      · have : (2 ^ 63 + ((m.log2 + 1022) * 2 ^ 52 + x)) / 2 ^ 63 % 2 = 1 := by omega
        rw [if_pos rfl, this]; rfl
    have hrung : double.word s ((m.log2 + 1022) * 2 ^ 52 + x) % 2 ^ 63 = (m.log2 + 1022) * 2 ^ 52 + x := by
      unfold Format.word
      rw [hsw]
      cases s <;> simp <;> omega
    unfold Format.read
    simp only [hsw, hbin, hinf, hlp, hneg, hrung]
    rw [if_neg (by omega), if_pos (by omega)]
    have e1 : ((m.log2 + 1022) * 2 ^ 52 + x) % 2 ^ 52 = x - 2 ^ 52 := by omega
    have e2 : ((m.log2 + 1022) * 2 ^ 52 + x) / 2 ^ 52 = m.log2 + 1023 := by omega
    rw [e1, e2]
    refine ⟨52 - m.log2, ?_⟩
    have e3 : 2 ^ 52 + (x - 2 ^ 52) = x := by omega
    have e4 : (-1074 : Int) + ((m.log2 + 1023 - 1 : Nat) : Int) = -((52 - m.log2 : Nat) : Int) := by omega
    rw [e3, e4, hx]

/-! ### Operations on what stands for whole numbers -/
theorem signed_eq (s : Bool) (m k j : Nat) (h : j ≤ k) (e : Nat) (he : e = k - j) : signed s (m * 2 ^ j) e = sv s m * 2 ^ k := by
  unfold signed sv
  rw [Nat.shiftLeft_eq, Nat.mul_assoc, ← Nat.pow_add, show j + e = k by omega]
  cases s <;> simp [Int.neg_mul]

theorem opposite_rep {d : Datum} {s : Bool} {m : Nat} (hd : Rep d s m) : Rep d.opposite (!s) m := by
  obtain ⟨k, rfl⟩ := hd
  exact ⟨k, rfl⟩

theorem pow_pos_int (k : Nat) : (0 : Int) < 2 ^ k := Int.pow_pos (by decide)

theorem sum_rep {d e : Datum} {s t : Bool} {m n : Nat} (hd : Rep d s m) (he : Rep e t n) :
    ∃ r, d.sum e = some r ∧ Rep r (if sv s m + sv t n = 0 then s && t else decide (sv s m + sv t n < 0)) (sv s m + sv t n).natAbs := by
  obtain ⟨i, rfl⟩ := hd
  obtain ⟨j, rfl⟩ := he
  unfold Datum.sum
  refine ⟨_, rfl, max i j, ?_⟩
  have hb : min (-(i : Int)) (-(j : Int)) = -((max i j : Nat) : Int) := by omega
  have e1 := signed_eq s m (max i j) i (by omega) (-(i : Int) - min (-(i : Int)) (-(j : Int))).toNat (by omega)
  have e2 := signed_eq t n (max i j) j (by omega) (-(j : Int) - min (-(i : Int)) (-(j : Int))).toNat (by omega)
  simp only [e1, e2]
  rw [hb]
  have hp := pow_pos_int (max i j)
  rw [← Int.add_mul]
  have hz : ((sv s m + sv t n) * 2 ^ max i j = 0) ↔ (sv s m + sv t n = 0) := by
    constructor
    · intro h
      rcases Int.mul_eq_zero.1 h with h | h
      · exact h
      · omega
    · intro h; rw [h, Int.zero_mul]
  have hl : ((sv s m + sv t n) * 2 ^ max i j < 0) ↔ (sv s m + sv t n < 0) := by
    constructor
    · intro h
      apply Classical.byContradiction
      intro hn
      have := Int.mul_nonneg (Int.not_lt.1 hn) (Int.le_of_lt hp)
      omega
    · intro h; exact Int.mul_neg_of_neg_of_pos h hp
  have hA : ((sv s m + sv t n) * 2 ^ max i j).natAbs = (sv s m + sv t n).natAbs * 2 ^ max i j := by
    rw [Int.natAbs_mul, Int.natAbs_pow]; rfl
  rw [hA]
  simp only [hz, hl]

theorem sub_sv (s t : Bool) (m n : Nat) : sv s m + sv (!t) n = sv s m - sv t n := by
  unfold sv; cases t <;> simp <;> omega

theorem product_rep {d e : Datum} {s t : Bool} {m n : Nat} (hd : Rep d s m) (he : Rep e t n) :
    ∃ r, d.product e = some r ∧ Rep r (s ^^ t) (m * n) := by
  obtain ⟨i, rfl⟩ := hd
  obtain ⟨j, rfl⟩ := he
  unfold Datum.product
  refine ⟨_, rfl, i + j, ?_⟩
  have e1 : m * 2 ^ i * (n * 2 ^ j) = m * n * 2 ^ (i + j) := by
    rw [Nat.pow_add]; simp only [Nat.mul_assoc, Nat.mul_left_comm]
  have e2 : -(i : Int) + -(j : Int) = -((i + j : Nat) : Int) := by omega
  rw [e1, e2]

theorem sv_mul (s t : Bool) (m n : Nat) : sv (s ^^ t) (m * n) = sv s m * sv t n := by
  unfold sv; cases s <;> cases t <;> simp [Int.neg_mul, Int.mul_neg]

theorem order_rep {d e : Datum} {s t : Bool} {m n : Nat} (hd : Rep d s m) (he : Rep e t n) :
    d.order e = some (compare (sv s m) (sv t n)) := by
  obtain ⟨i, rfl⟩ := hd
  obtain ⟨j, rfl⟩ := he
  unfold Datum.order
  have e1 := signed_eq s m (max i j) i (by omega) (-(i : Int) - min (-(i : Int)) (-(j : Int))).toNat (by omega)
  have e2 := signed_eq t n (max i j) j (by omega) (-(j : Int) - min (-(i : Int)) (-(j : Int))).toNat (by omega)
  simp only [e1, e2]
  have hp := pow_pos_int (max i j)
  congr 1
  have hl : (sv s m * 2 ^ max i j < sv t n * 2 ^ max i j) ↔ sv s m < sv t n := by
    constructor
    · intro h; exact Int.lt_of_mul_lt_mul_right h (Int.le_of_lt hp)
    · intro h; exact Int.mul_lt_mul_of_pos_right h hp
  have he : (sv s m * 2 ^ max i j = sv t n * 2 ^ max i j) ↔ sv s m = sv t n := by
    constructor
    · intro h; exact Int.eq_of_mul_eq_mul_right (by omega) h
    · intro h; rw [h]
  simp only [compare, compareOfLessAndEq, hl, he]

theorem toInt_rep {d : Datum} {s : Bool} {m : Nat} (hd : Rep d s m) : d.toInt .zero = some (sv s m) := by
  obtain ⟨k, rfl⟩ := hd
  unfold Datum.toInt Datum.integral
  have e1 : (-(k : Int)).toNat = 0 := by omega
  have e2 : (-(-(k : Int))).toNat = k := by omega
  simp only [e1, e2]
  have hp : 0 < 2 ^ k := Nat.two_pow_pos _
  have hc : Toward.zero.cut s ((m * 2 ^ k) <<< 0) k = m := by
    unfold Toward.cut
    rw [Nat.shiftLeft_zero]
    by_cases h0 : m = 0
    · subst h0; simp
    · have hk : k ≤ (m * 2 ^ k).log2 + 2 := by rw [log2_mul_pow m k h0]; omega
      simp only [Nat.min_eq_left hk, Nat.shiftLeft_eq, Nat.one_mul, Nat.mul_div_cancel _ hp]
      rfl
  rw [hc]
  simp [signed, sv]

/-! ### The same on words -/
theorem add_F (s t : Bool) (m n : Nat) (hm : m < 2 ^ 53) (hn : n < 2 ^ 53) (h : (sv s m + sv t n).natAbs < 2 ^ 53) :
    double.add (F s m) (F t n) = some (F (if sv s m + sv t n = 0 then s && t else decide (sv s m + sv t n < 0)) (sv s m + sv t n).natAbs) := by
  obtain ⟨r, h1, h2⟩ := sum_rep (read_F s m hm) (read_F t n hn)
  unfold Format.add
  rw [h1, Option.map_some, write_rep h2 h]

theorem sub_F (s t : Bool) (m n : Nat) (hm : m < 2 ^ 53) (hn : n < 2 ^ 53) (h : (sv s m - sv t n).natAbs < 2 ^ 53) :
    double.sub (F s m) (F t n) = some (F (if sv s m - sv t n = 0 then s && !t else decide (sv s m - sv t n < 0)) (sv s m - sv t n).natAbs) := by
  obtain ⟨r, h1, h2⟩ := sum_rep (read_F s m hm) (opposite_rep (read_F t n hn))
  rw [sub_sv] at h2
  unfold Format.sub
  rw [h1, Option.map_some, write_rep h2 h]

theorem mul_F (s t : Bool) (m n : Nat) (hm : m < 2 ^ 53) (hn : n < 2 ^ 53) (h : m * n < 2 ^ 53) :
    double.mul (F s m) (F t n) = some (F (s ^^ t) (m * n)) := by
  obtain ⟨r, h1, h2⟩ := product_rep (read_F s m hm) (read_F t n hn)
  unfold Format.mul
  rw [h1, Option.map_some, write_rep h2 h]

theorem order_F (s t : Bool) (m n : Nat) (hm : m < 2 ^ 53) (hn : n < 2 ^ 53) :
    double.order (F s m) (F t n) = some (compare (sv s m) (sv t n)) :=
  order_rep (read_F s m hm) (read_F t n hn)

theorem toInt_F (s : Bool) (m : Nat) (hm : m < 2 ^ 53) : (double.read (F s m)).toInt .zero = some (sv s m) :=
  toInt_rep (read_F s m hm)

/-! ### Words that stand for a whole number -/
def IsI (x : Nat) (n : Int) : Prop := ∃ s m, x = F s m ∧ sv s m = n ∧ m < 2 ^ 53

theorem natAbs_sv (s : Bool) (m : Nat) : (sv s m).natAbs = m := by unfold sv; cases s <;> simp
theorem sv_natAbs (n : Int) : sv (decide (n < 0)) n.natAbs = n := by
  unfold sv
  by_cases h : n < 0
  · simp [h]; omega
  · simp [h]; omega
theorem fi_eq (n : Int) : floatOfInt .f64 n = F (decide (n < 0)) n.natAbs := rfl

theorem isI_fi (n : Int) (h : n.natAbs < 2 ^ 53) : IsI (floatOfInt .f64 n) n := ⟨_, _, fi_eq n, sv_natAbs n, h⟩

theorem sv_of_sign (b : Bool) (v : Int) (h : v ≠ 0 → b = decide (v < 0)) : sv b v.natAbs = v := by
  by_cases h0 : v = 0
  · subst h0; cases b <;> rfl
  · rw [h h0]; exact sv_natAbs v

theorem isI_add {x y : Nat} {a b : Int} (hx : IsI x a) (hy : IsI y b) (h : (a + b).natAbs < 2 ^ 53) : ∃ z, floatBits .add .f64 x y = some z ∧ IsI z (a + b) := by
  obtain ⟨s, m, rfl, rfl, hm⟩ := hx
  obtain ⟨t, n, rfl, rfl, hn⟩ := hy
  refine ⟨_, add_F s t m n hm hn h, _, _, rfl, sv_of_sign _ _ fun h0 => by rw [if_neg h0], h⟩

theorem isI_sub {x y : Nat} {a b : Int} (hx : IsI x a) (hy : IsI y b) (h : (a - b).natAbs < 2 ^ 53) : ∃ z, floatBits .sub .f64 x y = some z ∧ IsI z (a - b) := by
  obtain ⟨s, m, rfl, rfl, hm⟩ := hx
  obtain ⟨t, n, rfl, rfl, hn⟩ := hy
  refine ⟨_, sub_F s t m n hm hn h, _, _, rfl, sv_of_sign _ _ fun h0 => by rw [if_neg h0], h⟩

theorem isI_mul {x y : Nat} {a b : Int} (hx : IsI x a) (hy : IsI y b) (h : (a * b).natAbs < 2 ^ 53) : ∃ z, floatBits .mul .f64 x y = some z ∧ IsI z (a * b) := by
  obtain ⟨s, m, rfl, rfl, hm⟩ := hx
  obtain ⟨t, n, rfl, rfl, hn⟩ := hy
  have h' : m * n < 2 ^ 53 := by rw [Int.natAbs_mul, natAbs_sv, natAbs_sv] at h; exact h
  exact ⟨_, mul_F s t m n hm hn h', _, _, rfl, sv_mul s t m n, h'⟩

theorem isI_order {x y : Nat} {a b : Int} (hx : IsI x a) (hy : IsI y b) : double.order x y = some (compare a b) := by
  obtain ⟨s, m, rfl, rfl, hm⟩ := hx
  obtain ⟨t, n, rfl, rfl, hn⟩ := hy
  exact order_F s t m n hm hn

theorem isI_self {x : Nat} {a : Int} (hx : IsI x a) : double.order x x = some .eq := by
  rw [isI_order hx hx]; simp [compare, compareOfLessAndEq]

theorem isI_toInt {x : Nat} {a : Int} (hx : IsI x a) : floatToIntVal .f64 x .i64 = some a := by
  obtain ⟨s, m, rfl, rfl, hm⟩ := hx
  have h1 : (FloatKind.f64.decode (F s m)).toInt .zero = some (sv s m) := toInt_F s m hm
  unfold floatToIntVal
  rw [h1]
  have h2 : IntKind.i64.min = -9223372036854775808 := rfl
  have h3 : IntKind.i64.max = 9223372036854775807 := rfl
  have h4 : (sv s m).natAbs < 2 ^ 53 := by rw [natAbs_sv]; exact hm
  simp only [h2, h3]
  rw [if_pos (by omega)]

theorem add_fi (a b : Int) (ha : a.natAbs < 2 ^ 53) (hb : b.natAbs < 2 ^ 53) (h : (a + b).natAbs < 2 ^ 53) :
    floatBits .add .f64 (floatOfInt .f64 a) (floatOfInt .f64 b) = some (floatOfInt .f64 (a + b)) := by
  have := add_F (decide (a < 0)) (decide (b < 0)) a.natAbs b.natAbs ha hb (by rw [sv_natAbs, sv_natAbs]; exact h)
  rw [sv_natAbs, sv_natAbs] at this
  refine Eq.trans (this : floatBits .add .f64 (floatOfInt .f64 a) (floatOfInt .f64 b) = _) ?_
  rw [fi_eq]
  congr 2
  by_cases h0 : a + b = 0
  · rw [if_pos h0]; by_cases h1 : a < 0
    · have h2 : ¬ b < 0 := by omega
      have h3 : ¬ a + b < 0 := by omega
      simp [h2, h3]
    · have h3 : ¬ a + b < 0 := by omega
      simp [h1, h3]
  · rw [if_neg h0]

theorem sub_fi (a b : Int) (ha : a.natAbs < 2 ^ 53) (hb : b.natAbs < 2 ^ 53) (h : (a - b).natAbs < 2 ^ 53) :
    floatBits .sub .f64 (floatOfInt .f64 a) (floatOfInt .f64 b) = some (floatOfInt .f64 (a - b)) := by
  have := sub_F (decide (a < 0)) (decide (b < 0)) a.natAbs b.natAbs ha hb (by rw [sv_natAbs, sv_natAbs]; exact h)
  rw [sv_natAbs, sv_natAbs] at this
  refine Eq.trans (this : floatBits .sub .f64 (floatOfInt .f64 a) (floatOfInt .f64 b) = _) ?_
  rw [fi_eq]
  congr 2
  by_cases h0 : a - b = 0
  · rw [if_pos h0]; by_cases h1 : a < 0
    · have h2 : b < 0 := by omega
      have h3 : ¬ a - b < 0 := by omega
      simp [h2, h3]
    · have h3 : ¬ a - b < 0 := by omega
      simp [h1, h3]
  · rw [if_neg h0]

/-! ### The other sign -/
theorem xor_top (x : Nat) (h : x < 2 ^ 63) : x ^^^ 2 ^ 63 = 2 ^ 63 + x := by
  apply Nat.eq_of_testBit_eq
  intro i
  rw [Nat.testBit_xor, Nat.testBit_two_pow]
  rcases Nat.lt_trichotomy i 63 with hi | hi | hi
  · rw [Nat.testBit_two_pow_add_gt hi]
    have : ¬ 63 = i := by omega
    simp [this]
  · subst hi
    rw [Nat.testBit_two_pow_add_eq, Nat.testBit_lt_two_pow h]
    simp
  · have h1 : x < 2 ^ i := Nat.lt_of_lt_of_le h (Nat.pow_le_pow_right (by decide) (by omega))
    have h2 : 2 ^ 63 + x < 2 ^ i := by
      have : 2 ^ 64 ≤ 2 ^ i := Nat.pow_le_pow_right (by decide) (by omega)
      omega
    rw [Nat.testBit_lt_two_pow h1, Nat.testBit_lt_two_pow h2]
    have : ¬ 63 = i := by omega
    simp [this]

theorem xor_word (s : Bool) (r : Nat) (h : r < 2 ^ 63) : double.word s r ^^^ 2 ^ 63 = double.word (!s) r := by
  have hsw : double.signWeight = 2 ^ 63 := by decide
  unfold Format.word
  rw [hsw]
  cases s
  · simp only [Bool.not_false, if_true]
    rw [if_neg (by decide), xor_top r h]
  · simp only [Bool.not_true, if_true]
    rw [if_neg (by decide), ← xor_top r h, Nat.xor_assoc, Nat.xor_self, Nat.xor_zero]

theorem neg_F (s : Bool) (m : Nat) : F s m ^^^ 2 ^ 63 = F (!s) m := by
  have hsw : double.signWeight = 2 ^ 63 := by decide
  have hinf : double.infRung < 2 ^ 63 := by decide
  unfold F Format.nearest
  split
  · exact xor_word s 0 (by decide)
  · exact xor_word s _ (Nat.lt_of_le_of_lt (Nat.min_le_right ..) hinf)

theorem isI_neg {x : Nat} {a : Int} (hx : IsI x a) : IsI (x ^^^ 2 ^ 63) (-a) := by
  obtain ⟨s, m, rfl, rfl, hm⟩ := hx
  exact ⟨!s, m, neg_F s m, by unfold sv; cases s <;> simp, hm⟩

theorem F_lt (s : Bool) (m : Nat) : F s m < 2 ^ 64 := double.nearest_lt s m 0

/-! ### What is rounded: sign and size -/
/-- no NaN, of the sign s -/
def Sgn (d : Datum) (s : Bool) : Prop := (∃ m p, d = .number s m p) ∨ d = .infinity s
def Fin (d : Datum) (s : Bool) : Prop := ∃ m p, d = .number s m p

theorem read_word (s : Bool) (r : Nat) (h : r ≤ 2047 * 2 ^ 52) : Sgn (double.read (double.word s r)) s ∧ (r < 2047 * 2 ^ 52 → Fin (double.read (double.word s r)) s) := by
  have hsw : double.signWeight = 2 ^ 63 := by decide
  have hbin : double.binade = 2 ^ 52 := rfl
  have hinf : double.infRung = 2047 * 2 ^ 52 := by decide
  have hneg : (double.word s r / 2 ^ 63 % 2 == 1) = s := by
    unfold Format.word
    rw [hsw]
    cases s
    · have : r / 2 ^ 63 % 2 = 0 := by omega
      rw [if_neg (by decide), this]; rfl
    · have : (2 ^ 63 + r) / 2 ^ 63 % 2 = 1 := by omega
      rw [if_pos rfl, this]; rfl
  have hrung : double.word s r % 2 ^ 63 = r := by
    unfold Format.word
    rw [hsw]
    cases s
    · rw [if_neg (by decide)]; omega
    · rw [if_pos rfl]; omega
  unfold Format.read
  simp only [hsw, hbin, hinf, hneg, hrung]
  by_cases h1 : r < 2 ^ 52
  · rw [if_pos h1]; exact ⟨Or.inl ⟨_, _, rfl⟩, fun _ => ⟨_, _, rfl⟩⟩
  · rw [if_neg h1]
    by_cases h2 : r < 2047 * 2 ^ 52
    · rw [if_pos h2]; exact ⟨Or.inl ⟨_, _, rfl⟩, fun _ => ⟨_, _, rfl⟩⟩
    · rw [if_neg h2, if_pos (by omega)]; exact ⟨Or.inr rfl, fun h => absurd h h2⟩

theorem sgn_nearest (s : Bool) (m : Nat) (p : Int) : Sgn (double.read (double.nearest s m p)) s := by
  have hinf : double.infRung = 2047 * 2 ^ 52 := by decide
  unfold Format.nearest
  split
  · exact (read_word s 0 (by decide)).1
  · exact (read_word s _ (by rw [hinf]; exact Nat.min_le_right ..)).1

theorem cut_le (s : Bool) (n d : Nat) (h : n < 2 ^ (53 + d)) : Toward.even.cut s n d ≤ 2 ^ 53 := by
  unfold Toward.cut
  have hlow : n / (1 <<< min d (n.log2 + 2)) < 2 ^ 53 := by
    rw [Nat.shiftLeft_eq, Nat.one_mul]
    apply Nat.div_lt_of_lt_mul
    by_cases hd : d ≤ n.log2 + 2
    · rw [Nat.min_eq_left hd, ← Nat.pow_add, Nat.add_comm]; exact h
    · rw [Nat.min_eq_right (by omega)]
      by_cases h0 : n = 0
      · subst h0; exact Nat.mul_pos (Nat.two_pow_pos _) (Nat.two_pow_pos _)
      · have h1 := lt_two_pow_log2 n h0
        refine Nat.lt_of_lt_of_le h1 ?_
        rw [← Nat.pow_add]
        exact Nat.pow_le_pow_right (by decide) (by omega)
  dsimp only
  have : ∀ b : Bool, b.toNat ≤ 1 := by decide
  have h2 := this (decide (1 <<< min d (n.log2 + 2) < 2 * (n % 1 <<< min d (n.log2 + 2))) || 1 <<< min d (n.log2 + 2) == 2 * (n % 1 <<< min d (n.log2 + 2)) && n / 1 <<< min d (n.log2 + 2) % 2 == 1)
  omega

theorem min_lt_of (a c : Nat) (h : a ≤ 1922 * 2 ^ 52) (hc : c ≤ 2 ^ 53) : min (a + c) (2047 * 2 ^ 52) < 2047 * 2 ^ 52 := by omega

theorem fin_nearest (s : Bool) (m : Nat) (p : Int) (h : p + m.log2 < 900) : Fin (double.read (double.nearest s m p)) s := by
  have hinf : double.infRung = 2047 * 2 ^ 52 := by decide
  have hlp : double.leastPlace = -1074 := by decide
  have hfb : double.fractionBits = 52 := rfl
  have hbin : double.binade = 2 ^ 52 := rfl
  by_cases h0 : m = 0
  · subst h0
    exact (read_word s 0 (by decide)).2 (by decide)
  · have hk : ∀ last : Int, last = max (p + (m.log2 : Int) - ((52 : Nat) : Int)) (-1074) → Toward.even.cut s (m <<< (p - last).toNat) (last - p).toNat ≤ 2 ^ 53 := by
      intro last hl
      apply cut_le
      have h1 := lt_two_pow_log2 m h0
      rw [Nat.shiftLeft_eq]
      have h2 : m * 2 ^ (p - last).toNat < 2 ^ (m.log2 + 1) * 2 ^ (p - last).toNat := Nat.mul_lt_mul_of_pos_right h1 (Nat.two_pow_pos _)
      rw [← Nat.pow_add] at h2
      exact Nat.lt_of_lt_of_le h2 (Nat.pow_le_pow_right (by decide) (by omega))
    have h3 : ∀ last : Int, last = max (p + (m.log2 : Int) - ((52 : Nat) : Int)) (-1074) → (last - -1074).toNat * 2 ^ 52 ≤ 1922 * 2 ^ 52 := by
      intro last hl
      exact Nat.mul_le_mul_right _ (by omega)
    unfold Format.nearest
    rw [if_neg h0, hinf, hlp, hfb, hbin]
    exact (read_word s _ (Nat.min_le_right ..)).2 (min_lt_of _ _ (h3 _ rfl) (hk _ rfl))

theorem log2_mul_le (a b : Nat) (j k : Nat) (ha : a < 2 ^ j) (hb : b < 2 ^ k) (h0 : a * b ≠ 0) : (a * b).log2 < j + k := by
  rw [Nat.log2_lt h0, Nat.pow_add]
  exact Nat.mul_lt_mul'' ha hb

/-- A product of two whole numbers: rounded; it keeps its sign and is finite. -/
theorem mul_fin (s t : Bool) (m n : Nat) (hm : m < 2 ^ 53) (hn : n < 2 ^ 53) : ∃ z, floatBits .mul .f64 (F s m) (F t n) = some z ∧ Fin (double.read z) (s ^^ t) := by
  obtain ⟨r, h1, k, rfl⟩ := product_rep (read_F s m hm) (read_F t n hn)
  refine ⟨double.nearest (s ^^ t) (m * n * 2 ^ k) (-(k : Int)), ?_, ?_⟩
  · show double.mul (F s m) (F t n) = _
    unfold Format.mul
    rw [h1]; rfl
  · by_cases h0 : m * n = 0
    · rw [h0, Nat.zero_mul]
      exact (read_word _ 0 (by decide)).2 (by decide)
    · apply fin_nearest
      rw [log2_mul_pow _ k h0]
      have := log2_mul_le m n 53 53 hm hn h0
      omega

theorem signed_nonneg (m k : Nat) : (0 : Int) ≤ signed false m k := by
  unfold signed
  rw [if_neg (by decide)]
  exact Int.natCast_nonneg _
theorem signed_nonpos (m k : Nat) : signed true m k ≤ 0 := by
  unfold signed
  rw [if_pos rfl]
  have := Int.natCast_nonneg (m <<< k)
  omega

theorem sum_fin {d e : Datum} {s t : Bool} (hd : Fin d s) (he : Fin e t) : ∃ r, (d.sum e) = some r ∧ ∃ u, Fin r u ∧ (s = t → u = s) := by
  obtain ⟨m, i, rfl⟩ := hd
  obtain ⟨n, j, rfl⟩ := he
  unfold Datum.sum
  refine ⟨_, rfl, _, ⟨_, _, rfl⟩, ?_⟩
  rintro rfl
  cases s
  · have h1 : (0 : Int) ≤ signed false m (i - min i j).toNat := signed_nonneg _ _
    have h2 : (0 : Int) ≤ signed false n (j - min i j).toNat := signed_nonneg _ _
    split
    · rfl
    · have : ¬ (signed false m (i - min i j).toNat + signed false n (j - min i j).toNat < 0) := by omega
      simp [this]
  · split
    · rfl
    · rename_i hz
      have h1 : signed true m (i - min i j).toNat ≤ 0 := signed_nonpos _ _
      have h2 : signed true n (j - min i j).toNat ≤ 0 := signed_nonpos _ _
      have : signed true m (i - min i j).toNat + signed true n (j - min i j).toNat < 0 := by omega
      simp [this]

theorem write_fin {d : Datum} {s : Bool} (h : Fin d s) : Sgn (double.read (double.write d)) s := by
  obtain ⟨m, p, rfl⟩ := h
  exact sgn_nearest s m p

theorem add_some {x y : Nat} {s t : Bool} (hx : Fin (double.read x) s) (hy : Fin (double.read y) t) : ∃ z, floatBits .add .f64 x y = some z := by
  obtain ⟨r, h1, _⟩ := sum_fin hx hy
  refine ⟨double.write r, ?_⟩
  show double.add x y = _
  unfold Format.add
  rw [h1]; rfl

/-- What is not below nought, less what is not above it. -/
theorem sub_sgn {x y : Nat} (hx : Fin (double.read x) false) (hy : Fin (double.read y) true) : ∃ z, floatBits .sub .f64 x y = some z ∧ Sgn (double.read z) false := by
  have hy' : Fin (double.read y).opposite false := by obtain ⟨m, p, h⟩ := hy; rw [h]; exact ⟨m, p, rfl⟩
  obtain ⟨r, h1, u, h2, h3⟩ := sum_fin hx hy'
  have hu : u = false := h3 rfl
  subst hu
  refine ⟨double.write r, ?_, write_fin h2⟩
  show double.sub x y = _
  unfold Format.sub
  rw [h1]; rfl

theorem geq_zero {x : Nat} (hx : Sgn (double.read x) false) : (double.order x 0 == some .gt || double.order x 0 == some .eq) = true := by
  have h0 : double.read 0 = .number false 0 (-1074) := by decide +kernel
  unfold Format.order
  rw [h0]
  rcases hx with ⟨m, p, h⟩ | h
  · rw [h]
    unfold Datum.order
    dsimp only
    have h1 : (0 : Int) ≤ signed false m (p - min p (-1074)).toNat := signed_nonneg _ _
    have h2 : signed false 0 (-1074 - min p (-1074)).toNat = 0 := by unfold signed; simp
    rw [h2]
    generalize signed false m (p - min p (-1074)).toNat = v at h1
    by_cases hv : v = 0
    · subst hv; decide
    · have : (0 : Int) < v := by omega
      have e : compare v 0 = .gt := by
        have h5 : ¬ v < 0 := by omega
        simp only [compare, compareOfLessAndEq]
        rw [if_neg h5, if_neg hv]
      rw [e]; rfl
  · rw [h]; rfl

end Flo
end Go.Proofs.Ytiigmmmhhpdmdaa

/-
  Contracts of package num's functions (Bits, Same, Whole, Int) and of sporef.Word; NaNs too where it says 'nb'.
-/
namespace Go.Proofs.Ytiigmmmhhpdmdaa
open Go.RowKit
open Ieee (double)

/-- The bits of a part, all NaNs as one. -/
def nb (x : Nat) : Nat := if double.order x x = some .eq then x else 9221120237041090560

theorem nb_of {x : Nat} (h : double.order x x = some .eq) : nb x = x := if_pos h

theorem f64bits (x : Nat) (w : World) : (callFunc 84 #[.float .f64 x]).run Try.prog w = .ok (.value (.int .u64 x)) w := by kernel_rfl

/-- sporef.part and sporef.Word where no part is a NaN. -/
def NN (x : Nat) : Prop := IntKind.u64.wrap ((x : Int) * 2) ≤ 18437736874454810624

set_option maxHeartbeats 400000 in
theorem part_any (x : Nat) (w : World) (h : NN x) :
    Calls Try.prog 46 #[.float .f64 x] w fun e w' => e = .returned (.int .u64 x) ∧ w' = w := by
  have hb := f64bits
  unfold NN at h
  go_enter Try.func46, Try.ntmps46
  go_wp2
  go_ret
  exact ⟨rfl, rfl⟩

set_option maxHeartbeats 400000 in
theorem word_raw (x y a b : Nat) (w : World) (p q : Bool) (hx : NN x) (hy : NN y) (ha : NN a) (hb : NN b) (hp : (((x : Nat) : Int) == ((a : Nat) : Int)) = p) (hq : (((y : Nat) : Int) == ((b : Nat) : Int)) = q) :
    Calls Try.prog 14 #[.complex .f64 x y, .complex .f64 a b] w fun e w' => e = .returned (.bool (p && q)) ∧ w' = w := by
  have HX : Hid _ := hx
  have HY : Hid _ := hy
  have HA : Hid _ := ha
  have HB : Hid _ := hb
  clear hx hy ha hb
  cases p
  · go_enter Try.func14, Try.ntmps14
    go_wp2_with fail
    refine (part_any x _ HX.out).mono ?_
    rintro e w' ⟨rfl, rfl⟩
    go_wp2_with fail
    refine (part_any a _ HA.out).mono ?_
    rintro e w' ⟨rfl, rfl⟩
    go_wp2
    go_ret
    exact ⟨rfl, rfl⟩
  · simp only [beq_iff_eq] at hp
    obtain rfl : x = a := by omega
    clear hp
    rw [← hq]
    clear hq
    go_enter Try.func14, Try.ntmps14
    go_wp2_with fail
    refine (part_any x _ HX.out).mono ?_
    rintro e w' ⟨rfl, rfl⟩
    go_wp2_with fail
    refine (part_any x _ HA.out).mono ?_
    rintro e w' ⟨rfl, rfl⟩
    go_wp2_with fail
    refine (part_any y _ HY.out).mono ?_
    rintro e w' ⟨rfl, rfl⟩
    go_wp2_with fail
    refine (part_any b _ HB.out).mono ?_
    rintro e w' ⟨rfl, rfl⟩
    go_wp2
    go_ret
    exact ⟨rfl, rfl⟩

theorem word_all (x y a b : Nat) (w : World) (hx : NN x) (hy : NN y) (ha : NN a) (hb : NN b) :
    Calls Try.prog 14 #[.complex .f64 x y, .complex .f64 a b] w fun e w' => e = .returned (.bool (decide (x = a ∧ y = b))) ∧ w' = w := by
  have := word_raw x y a b w _ _ hx hy ha hb rfl rfl
  have e : ((((x : Nat) : Int) == ((a : Nat) : Int)) && (((y : Nat) : Int) == ((b : Nat) : Int))) = decide (x = a ∧ y = b) := by
    rw [Bool.eq_iff_iff]; simp; omega
  rw [e] at this
  exact this

theorem nb_fi (n : Int) (h : n.natAbs < 2 ^ 53) : nb (floatOfInt .f64 n) = floatOfInt .f64 n := nb_of (Flo.isI_self (Flo.isI_fi n h))
theorem fi_inj {m n : Int} (hm : m.natAbs < 2 ^ 53) (hn : n.natAbs < 2 ^ 53) (h : floatOfInt .f64 m = floatOfInt .f64 n) : m = n := by
  have a := Flo.isI_toInt (Flo.isI_fi m hm)
  have b := Flo.isI_toInt (Flo.isI_fi n hn)
  rw [h, b] at a
  exact (Option.some.inj a).symm

theorem word_is (x y a b : Nat) (p : Bool) (hx : NN x) (hy : NN y) (ha : NN a) (hb : NN b) (h : decide (x = a ∧ y = b) = p) (w : World) :
    Calls Try.prog 14 #[.complex .f64 x y, .complex .f64 a b] w fun e w' => e = .returned (.bool p) ∧ w' = w := by
  rw [← h]; exact word_all x y a b w hx hy ha hb

theorem ge_of {x y : Nat} {a b : Int} (hx : Flo.IsI x a) (hy : Flo.IsI y b) (h : b ≤ a) : (FloatKind.f64.format.order x y == some .gt || FloatKind.f64.format.order x y == some .eq) = true := by
  have := Flo.isI_order hx hy
  show (double.order x y == some .gt || double.order x y == some .eq) = true
  rw [this]
  by_cases h1 : a = b
  · subst h1; simp [compare, compareOfLessAndEq]
  · have h2 : ¬ a < b := by omega
    simp [compare, compareOfLessAndEq, h1, h2]

theorem le_of {x y : Nat} {a b : Int} (hx : Flo.IsI x a) (hy : Flo.IsI y b) (h : a ≤ b) : (FloatKind.f64.format.order x y == some .lt || FloatKind.f64.format.order x y == some .eq) = true := by
  have := Flo.isI_order hx hy
  show (double.order x y == some .lt || double.order x y == some .eq) = true
  rw [this]
  by_cases h1 : a = b
  · subst h1; simp [compare, compareOfLessAndEq]
  · have h2 : a < b := by omega
    simp [compare, compareOfLessAndEq, h2]
end Go.Proofs.Ytiigmmmhhpdmdaa

