/-
  What NumSums's walk leans on: complex numbers whose parts are whole; the state of its loop.
-/
import Derived.Test.YtepddgmgmabjoaaNum
import Derived.RowKit3
namespace Go.Proofs.Ytepddgmgmabjoaa
open Go.RowKit
open Ieee (double)

theorem run_store_complex {P : Program} {w : World} {a : Addr} {m : Mode} (k : FloatKind) (x y : Nat) : (store a (.complex k x y) m).run P w = stored P w a (.complex k x y) m := run_store P w a _ m rfl

/-- The word pair stands for a + b i. -/
def CI (x y : Nat) (a b : Int) : Prop := Flo.IsI x a ∧ Flo.IsI y b

theorem bd_mul (a b : Int) (A B : Nat) (ha : a.natAbs ≤ A) (hb : b.natAbs ≤ B) : (a * b).natAbs ≤ A * B := by
  rw [Int.natAbs_mul]; exact Nat.mul_le_mul ha hb

theorem mul_ci {x y u v : Nat} {a b c d : Int} (A B : Nat) (hx : CI x y a b) (hu : CI u v c d) (ha : a.natAbs ≤ A) (hb : b.natAbs ≤ A) (hc : c.natAbs ≤ B) (hd : d.natAbs ≤ B) (h : A * B ≤ 2 ^ 51) :
    ∃ r i, CI r i (a * c - b * d) (a * d + b * c) ∧ (a * c - b * d).natAbs ≤ 2 * (A * B) ∧ (a * d + b * c).natAbs ≤ 2 * (A * B) ∧
      ∀ w, Calls Try.prog 7 #[.complex .f64 x y, .complex .f64 u v] w fun e w' => e = .returned (.complex .f64 r i) ∧ w' = w := by
  have b1 := bd_mul a c A B ha hc
  have b2 := bd_mul b d A B hb hd
  have b3 := bd_mul a d A B ha hd
  have b4 := bd_mul b c A B hb hc
  obtain ⟨ac, hac, iac⟩ := Flo.isI_mul hx.1 hu.1 (by omega)
  obtain ⟨bd, hbd, ibd⟩ := Flo.isI_mul hx.2 hu.2 (by omega)
  obtain ⟨ad, had, iad⟩ := Flo.isI_mul hx.1 hu.2 (by omega)
  obtain ⟨bc, hbc, ibc⟩ := Flo.isI_mul hx.2 hu.1 (by omega)
  obtain ⟨r, hr, ir⟩ := Flo.isI_sub iac ibd (by omega)
  obtain ⟨i, hi, ii⟩ := Flo.isI_add iad ibc (by omega)
  exact ⟨r, i, ⟨ir, ii⟩, by omega, by omega, fun w => mul_any _ _ _ _ _ _ _ _ _ _ w hac hbd had hbc hr hi⟩

theorem add_ci {x y u v : Nat} {a b c d : Int} (A B : Nat) (hx : CI x y a b) (hu : CI u v c d) (ha : a.natAbs ≤ A) (hb : b.natAbs ≤ A) (hc : c.natAbs ≤ B) (hd : d.natAbs ≤ B) (h : A + B ≤ 2 ^ 51) :
    ∃ r i, CI r i (a + c) (b + d) ∧ (a + c).natAbs ≤ A + B ∧ (b + d).natAbs ≤ A + B ∧
      ∀ w, Calls Try.prog 8 #[.complex .f64 x y, .complex .f64 u v] w fun e w' => e = .returned (.complex .f64 r i) ∧ w' = w := by
  obtain ⟨r, hr, ir⟩ := Flo.isI_add hx.1 hu.1 (by omega)
  obtain ⟨i, hi, ii⟩ := Flo.isI_add hx.2 hu.2 (by omega)
  exact ⟨r, i, ⟨ir, ii⟩, by omega, by omega, fun w => add_any _ _ _ _ _ _ w hr hi⟩

theorem sub_ci {x y u v : Nat} {a b c d : Int} (A B : Nat) (hx : CI x y a b) (hu : CI u v c d) (ha : a.natAbs ≤ A) (hb : b.natAbs ≤ A) (hc : c.natAbs ≤ B) (hd : d.natAbs ≤ B) (h : A + B ≤ 2 ^ 51) :
    ∃ r i, CI r i (a - c) (b - d) ∧ (a - c).natAbs ≤ A + B ∧ (b - d).natAbs ≤ A + B ∧
      ∀ w, Calls Try.prog 10 #[.complex .f64 x y, .complex .f64 u v] w fun e w' => e = .returned (.complex .f64 r i) ∧ w' = w := by
  obtain ⟨r, hr, ir⟩ := Flo.isI_sub hx.1 hu.1 (by omega)
  obtain ⟨i, hi, ii⟩ := Flo.isI_sub hx.2 hu.2 (by omega)
  exact ⟨r, i, ⟨ir, ii⟩, by omega, by omega, fun w => sub_any _ _ _ _ _ _ w hr hi⟩

theorem eq_isI {x y : Nat} {a b : Int} (hx : Flo.IsI x a) (hy : Flo.IsI y b) (h : a = b) : (FloatKind.f64.format.order x y == some Ordering.eq) = true := by
  have o : FloatKind.f64.format.order x y = some (compare a b) := Flo.isI_order hx hy
  rw [o, h]; simp [compare, compareOfLessAndEq]

theorem ring1 (a0 a1 b0 b1 c0 c1 : Int) : (a0 * b0 - a1 * b1) * c0 - (a0 * b1 + a1 * b0) * c1 = a0 * (b0 * c0 - b1 * c1) - a1 * (b0 * c1 + b1 * c0) := by
  simp only [Int.sub_mul, Int.mul_sub, Int.add_mul, Int.mul_add, Int.mul_assoc]; omega
theorem ring2 (a0 a1 b0 b1 c0 c1 : Int) : (a0 * b0 - a1 * b1) * c1 + (a0 * b1 + a1 * b0) * c0 = a0 * (b0 * c1 + b1 * c0) + a1 * (b0 * c0 - b1 * c1) := by
  simp only [Int.sub_mul, Int.mul_sub, Int.add_mul, Int.mul_add, Int.mul_assoc]; omega
theorem ring3 (a0 a1 b0 b1 c0 c1 : Int) : a0 * (b0 + c0) - a1 * (b1 + c1) = (a0 * b0 - a1 * b1) + (a0 * c0 - a1 * c1) := by
  simp only [Int.mul_add]; omega
theorem ring4 (a0 a1 b0 b1 c0 c1 : Int) : a0 * (b1 + c1) + a1 * (b0 + c0) = (a0 * b1 + a1 * b0) + (a0 * c1 + a1 * c0) := by
  simp only [Int.mul_add]; omega

def R1 (x y : Int) : Prop := -1000 ≤ x ∧ x ≤ 1000 ∧ -1000 ≤ y ∧ y ≤ 1000
theorem r1_cases (x y : Int) (h : ¬ R1 x y) : (x < -1000) ∨ (-1000 ≤ x ∧ 1000 < x) ∨ (-1000 ≤ x ∧ x ≤ 1000 ∧ y < -1000) ∨ (-1000 ≤ x ∧ x ≤ 1000 ∧ -1000 ≤ y ∧ 1000 < y) := by
  unfold R1 at h; omega

structure Inv (a0 a1 b0 b1 c0 c1 : Int) (w : World) (k : Nat) (wr : World) (x0 y0 x1 y1 x2 y2 : Nat) : Prop where
  z0 : wr.cell? ⟨w.heap.size + 1 + 1 + 1, 0, none⟩ = some (.complex .f64 x0 y0)
  z1 : wr.cell? ⟨w.heap.size + 1 + 1 + 1, 1, none⟩ = some (.complex .f64 x1 y1)
  z2 : wr.cell? ⟨w.heap.size + 1 + 1 + 1, 2, none⟩ = some (.complex .f64 x2 y2)
  f0 : wr.frozen? ⟨w.heap.size + 1 + 1 + 1, 0, none⟩ = false
  f1 : wr.frozen? ⟨w.heap.size + 1 + 1 + 1, 1, none⟩ = false
  f2 : wr.frozen? ⟨w.heap.size + 1 + 1 + 1, 2, none⟩ = false
  l0 : wr.cell? ⟨w.heap.size + 1 + 1 + 1 + 1, 0, none⟩ = some (.int .i64 a0)
  l1 : wr.cell? ⟨w.heap.size + 1 + 1 + 1 + 1, 1, none⟩ = some (.int .i64 a1)
  l2 : wr.cell? ⟨w.heap.size + 1 + 1 + 1 + 1, 2, none⟩ = some (.int .i64 b0)
  l3 : wr.cell? ⟨w.heap.size + 1 + 1 + 1 + 1, 3, none⟩ = some (.int .i64 b1)
  l4 : wr.cell? ⟨w.heap.size + 1 + 1 + 1 + 1, 4, none⟩ = some (.int .i64 c0)
  l5 : wr.cell? ⟨w.heap.size + 1 + 1 + 1 + 1, 5, none⟩ = some (.int .i64 c1)
  g : Grown w wr
  k0 : 0 < k → R1 a0 a1 ∧ CI x0 y0 a0 a1
  k1 : 1 < k → R1 b0 b1 ∧ CI x1 y1 b0 b1
  k2 : 2 < k → R1 c0 c1 ∧ CI x2 y2 c0 c1

theorem ci_fi {a b : Int} (h : R1 a b) : CI (floatOfInt .f64 a) (floatOfInt .f64 b) a b := by
  obtain ⟨h1, h2, h3, h4⟩ := h
  exact ⟨Flo.isI_fi a (by omega), Flo.isI_fi b (by omega)⟩

theorem ne_off {b o p : Nat} (h : o ≠ p) : (⟨b, o, none⟩ : Addr) ≠ ⟨b, p, none⟩ := by
  intro e; injection e with e1 e2; exact h e2
theorem ne_blk {b c o p : Nat} (h : b ≠ c) : (⟨b, o, none⟩ : Addr) ≠ ⟨c, p, none⟩ := by
  intro e; injection e with e1; exact h e1

theorem c_same {w : World} {a : Addr} {v u : Value} (h : w.cell? a = some u) : (w.setCell a v).drew.cell? a = some v := World.cell?_setCell_same w a v h
theorem c_other {w : World} {a b : Addr} {v u : Value} (hb : w.cell? b = some u) (h : a ≠ b) : (w.setCell a v).drew.cell? b = some u := by
  show (w.setCell a v).cell? b = some u
  rw [World.cell?_setCell_other w a b v h, hb]
theorem f_other {w : World} {a b : Addr} {v : Value} (h : w.frozen? b = false) : (w.setCell a v).drew.frozen? b = false := by
  show (w.setCell a v).frozen? b = false
  rw [World.frozen?_setCell, h]

theorem inv_0 {a0 a1 b0 b1 c0 c1 : Int} {w wr : World} {x0 y0 x1 y1 x2 y2 : Nat} (h : Inv a0 a1 b0 b1 c0 c1 w 0 wr x0 y0 x1 y1 x2 y2) (hr : R1 a0 a1) :
    Inv a0 a1 b0 b1 c0 c1 w 1 (wr.setCell ⟨w.heap.size + 1 + 1 + 1, 0, none⟩ (.complex .f64 (floatOfInt .f64 a0) (floatOfInt .f64 a1))).drew (floatOfInt .f64 a0) (floatOfInt .f64 a1) x1 y1 x2 y2 := by
  constructor
  case g => exact (h.g.setCell (by show w.heap.size ≤ w.heap.size + 1 + 1 + 1; omega) _).drew
  case z0 => exact c_same h.z0
  case z1 => exact c_other h.z1 (ne_off (by decide))
  case z2 => exact c_other h.z2 (ne_off (by decide))
  case f0 => exact f_other h.f0
  case f1 => exact f_other h.f1
  case f2 => exact f_other h.f2
  case l0 => exact c_other h.l0 (ne_blk (by omega))
  case l1 => exact c_other h.l1 (ne_blk (by omega))
  case l2 => exact c_other h.l2 (ne_blk (by omega))
  case l3 => exact c_other h.l3 (ne_blk (by omega))
  case l4 => exact c_other h.l4 (ne_blk (by omega))
  case l5 => exact c_other h.l5 (ne_blk (by omega))
  case k0 => exact fun _ => ⟨hr, ci_fi hr⟩
  case k1 => exact fun h => absurd h (by decide)
  case k2 => exact fun h => absurd h (by decide)

theorem inv_1 {a0 a1 b0 b1 c0 c1 : Int} {w wr : World} {x0 y0 x1 y1 x2 y2 : Nat} (h : Inv a0 a1 b0 b1 c0 c1 w 1 wr x0 y0 x1 y1 x2 y2) (hr : R1 b0 b1) :
    Inv a0 a1 b0 b1 c0 c1 w 2 (wr.setCell ⟨w.heap.size + 1 + 1 + 1, 1, none⟩ (.complex .f64 (floatOfInt .f64 b0) (floatOfInt .f64 b1))).drew x0 y0 (floatOfInt .f64 b0) (floatOfInt .f64 b1) x2 y2 := by
  constructor
  case g => exact (h.g.setCell (by show w.heap.size ≤ w.heap.size + 1 + 1 + 1; omega) _).drew
  case z0 => exact c_other h.z0 (ne_off (by decide))
  case z1 => exact c_same h.z1
  case z2 => exact c_other h.z2 (ne_off (by decide))
  case f0 => exact f_other h.f0
  case f1 => exact f_other h.f1
  case f2 => exact f_other h.f2
  case l0 => exact c_other h.l0 (ne_blk (by omega))
  case l1 => exact c_other h.l1 (ne_blk (by omega))
  case l2 => exact c_other h.l2 (ne_blk (by omega))
  case l3 => exact c_other h.l3 (ne_blk (by omega))
  case l4 => exact c_other h.l4 (ne_blk (by omega))
  case l5 => exact c_other h.l5 (ne_blk (by omega))
  case k0 => exact fun _ => h.k0 (by decide)
  case k1 => exact fun _ => ⟨hr, ci_fi hr⟩
  case k2 => exact fun h => absurd h (by decide)

theorem inv_2 {a0 a1 b0 b1 c0 c1 : Int} {w wr : World} {x0 y0 x1 y1 x2 y2 : Nat} (h : Inv a0 a1 b0 b1 c0 c1 w 2 wr x0 y0 x1 y1 x2 y2) (hr : R1 c0 c1) :
    Inv a0 a1 b0 b1 c0 c1 w 3 (wr.setCell ⟨w.heap.size + 1 + 1 + 1, 2, none⟩ (.complex .f64 (floatOfInt .f64 c0) (floatOfInt .f64 c1))).drew x0 y0 x1 y1 (floatOfInt .f64 c0) (floatOfInt .f64 c1) := by
  constructor
  case g => exact (h.g.setCell (by show w.heap.size ≤ w.heap.size + 1 + 1 + 1; omega) _).drew
  case z0 => exact c_other h.z0 (ne_off (by decide))
  case z1 => exact c_other h.z1 (ne_off (by decide))
  case z2 => exact c_same h.z2
  case f0 => exact f_other h.f0
  case f1 => exact f_other h.f1
  case f2 => exact f_other h.f2
  case l0 => exact c_other h.l0 (ne_blk (by omega))
  case l1 => exact c_other h.l1 (ne_blk (by omega))
  case l2 => exact c_other h.l2 (ne_blk (by omega))
  case l3 => exact c_other h.l3 (ne_blk (by omega))
  case l4 => exact c_other h.l4 (ne_blk (by omega))
  case l5 => exact c_other h.l5 (ne_blk (by omega))
  case k0 => exact fun _ => h.k0 (by decide)
  case k1 => exact fun _ => h.k1 (by decide)
  case k2 => exact fun _ => ⟨hr, ci_fi hr⟩

end Go.Proofs.Ytepddgmgmabjoaa
