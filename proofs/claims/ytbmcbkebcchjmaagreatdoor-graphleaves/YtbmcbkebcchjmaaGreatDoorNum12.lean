/-
  Contracts of package num's functions (Bits, Same, Whole, Int) and of sporef.Word; NaNs too where it says 'nb'.
-/
import Derived.Test.YtbmcbkebcchjmaaGreatDoorRows
import Derived.Test.YtbmcbkebcchjmaaGreatDoorFlo
import Derived.WalkKit
import Derived.WalkLawsBesides
import Derived.Laws.BitsAllLaws
namespace Go.Proofs.YtbmcbkebcchjmaaGreatDoor
open Go.RowKit
open Ieee (double)

/-- The bits of a part, all NaNs as one. -/
def nb (x : Nat) : Nat := if double.order x x = some .eq then x else 9221120237041090560

theorem nb_of {x : Nat} (h : double.order x x = some .eq) : nb x = x := if_pos h

theorem f64bits (x : Nat) (w : World) : (callFunc 47 #[.float .f64 x]).run Tryz.prog w = .ok (.value (.int .u64 x)) w := by kernel_rfl

set_option maxHeartbeats 400000 in
theorem partBits_yes (x : Nat) (w : World) (h : double.order x x = some .eq) :
    Calls Tryz.prog 106 #[.float .f64 x] w fun e w' => e = .returned (.int .u64 x) ∧ w' = w := by
  have h' : (FloatKind.f64.format.order x x != some .eq) = false := by show (double.order x x != some .eq) = false; rw [h]; rfl
  have hb := f64bits
  go_enter Tryz.func106, Tryz.ntmps106
  go_wp2
  go_ret
  exact ⟨rfl, rfl⟩

set_option maxHeartbeats 400000 in
theorem partBits_nan (x : Nat) (w : World) (h : ¬ double.order x x = some .eq) :
    Calls Tryz.prog 106 #[.float .f64 x] w fun e w' => e = .returned (.int .u64 9221120237041090560) ∧ w' = w := by
  have h' : (FloatKind.f64.format.order x x != some .eq) = true := by
    show (double.order x x != some .eq) = true
    simpa [bne] using h
  have hb := f64bits
  clear h
  go_enter Tryz.func106, Tryz.ntmps106
  go_wp2
  go_ret
  exact ⟨rfl, rfl⟩

theorem partBits_all (x : Nat) (w : World) :
    Calls Tryz.prog 106 #[.float .f64 x] w fun e w' => e = .returned (.int .u64 (nb x)) ∧ w' = w := by
  unfold nb
  by_cases h : double.order x x = some .eq
  · rw [if_pos h]; exact partBits_yes x w h
  · rw [if_neg h]; exact partBits_nan x w h

set_option maxHeartbeats 400000 in
theorem bits_all (x y : Nat) (w : World) :
    Calls Tryz.prog 97 #[.complex .f64 x y] w fun e w' => e = .returned (.tuple #[.int .u64 (nb x), .int .u64 (nb y)]) ∧ w' = w := by
  go_enter Tryz.func97, Tryz.ntmps97
  go_wp2_with fail
  refine (partBits_all x _).mono ?_
  rintro e w' ⟨rfl, rfl⟩
  go_wp2_with fail
  refine (partBits_all y _).mono ?_
  rintro e w' ⟨rfl, rfl⟩
  go_wp2
  go_ret2
  exact ⟨rfl, rfl⟩

set_option maxHeartbeats 400000 in
theorem same_raw (x y a b : Nat) (w : World) (p q : Bool) (hp : (((nb x : Nat) : Int) == ((nb a : Nat) : Int)) = p) (hq : (((nb y : Nat) : Int) == ((nb b : Nat) : Int)) = q) :
    Calls Tryz.prog 82 #[.complex .f64 x y, .complex .f64 a b] w fun e w' => e = .returned (.bool (p && q)) ∧ w' = w := by
  cases p <;> cases q
  all_goals
    go_enter Tryz.func82, Tryz.ntmps82
    go_wp2_with fail
    refine (bits_all x y _).mono ?_
    rintro e w' ⟨rfl, rfl⟩
    go_wp2_with fail
    refine (bits_all a b _).mono ?_
    rintro e w' ⟨rfl, rfl⟩
    go_wp2
    go_ret
    exact ⟨rfl, rfl⟩

theorem same_all (x y a b : Nat) (w : World) :
    Calls Tryz.prog 82 #[.complex .f64 x y, .complex .f64 a b] w fun e w' => e = .returned (.bool (decide (nb x = nb a ∧ nb y = nb b))) ∧ w' = w := by
  have := same_raw x y a b w _ _ rfl rfl
  have e : ((((nb x : Nat) : Int) == ((nb a : Nat) : Int)) && (((nb y : Nat) : Int) == ((nb b : Nat) : Int))) = decide (nb x = nb a ∧ nb y = nb b) := by
    rw [Bool.eq_iff_iff]; simp; omega
  rw [e] at this
  exact this

theorem same_is (x y a b : Nat) (p : Bool) (h : decide (nb x = nb a ∧ nb y = nb b) = p) (w : World) :
    Calls Tryz.prog 82 #[.complex .f64 x y, .complex .f64 a b] w fun e w' => e = .returned (.bool p) ∧ w' = w := by
  rw [← h]; exact same_all x y a b w

/-- sporef.part and sporef.Word where no part is a NaN. -/
def NN (x : Nat) : Prop := IntKind.u64.wrap ((x : Int) * 2) ≤ 18437736874454810624

set_option maxHeartbeats 400000 in
theorem part_any (x : Nat) (w : World) (h : NN x) :
    Calls Tryz.prog 29 #[.float .f64 x] w fun e w' => e = .returned (.int .u64 x) ∧ w' = w := by
  have hb := f64bits
  unfold NN at h
  go_enter Tryz.func29, Tryz.ntmps29
  go_wp2
  go_ret
  exact ⟨rfl, rfl⟩

set_option maxHeartbeats 400000 in
theorem word_raw (x y a b : Nat) (w : World) (p q : Bool) (hx : NN x) (hy : NN y) (ha : NN a) (hb : NN b) (hp : (((x : Nat) : Int) == ((a : Nat) : Int)) = p) (hq : (((y : Nat) : Int) == ((b : Nat) : Int)) = q) :
    Calls Tryz.prog 13 #[.complex .f64 x y, .complex .f64 a b] w fun e w' => e = .returned (.bool (p && q)) ∧ w' = w := by
  have HX : Hid _ := hx
  have HY : Hid _ := hy
  have HA : Hid _ := ha
  have HB : Hid _ := hb
  clear hx hy ha hb
  cases p
  · go_enter Tryz.func13, Tryz.ntmps13
    go_wp2_with fail
    refine (part_any x _ HX.out).mono ?_
    rintro e w' ⟨rfl, rfl⟩
    go_wp2_with fail
    refine (part_any a _ HA.out).mono ?_
    rintro e w' ⟨rfl, rfl⟩
    go_wp2
    go_ret
    exact ⟨rfl, rfl⟩
  · simp only [beq_iff_eq] at hp
    obtain rfl : x = a := by omega
    clear hp
    rw [← hq]
    clear hq
    go_enter Tryz.func13, Tryz.ntmps13
    go_wp2_with fail
    refine (part_any x _ HX.out).mono ?_
    rintro e w' ⟨rfl, rfl⟩
    go_wp2_with fail
    refine (part_any x _ HA.out).mono ?_
    rintro e w' ⟨rfl, rfl⟩
    go_wp2_with fail
    refine (part_any y _ HY.out).mono ?_
    rintro e w' ⟨rfl, rfl⟩
    go_wp2_with fail
    refine (part_any b _ HB.out).mono ?_
    rintro e w' ⟨rfl, rfl⟩
    go_wp2
    go_ret
    exact ⟨rfl, rfl⟩

theorem word_all (x y a b : Nat) (w : World) (hx : NN x) (hy : NN y) (ha : NN a) (hb : NN b) :
    Calls Tryz.prog 13 #[.complex .f64 x y, .complex .f64 a b] w fun e w' => e = .returned (.bool (decide (x = a ∧ y = b))) ∧ w' = w := by
  have := word_raw x y a b w _ _ hx hy ha hb rfl rfl
  have e : ((((x : Nat) : Int) == ((a : Nat) : Int)) && (((y : Nat) : Int) == ((b : Nat) : Int))) = decide (x = a ∧ y = b) := by
    rw [Bool.eq_iff_iff]; simp; omega
  rw [e] at this
  exact this

set_option maxHeartbeats 400000 in
theorem whole_in (n : Int) (w : World) (h1 : -9007199254740992 ≤ n) (h2 : n ≤ 9007199254740992) :
    Calls Tryz.prog 63 #[.int .i64 n] w fun e w' => e = .returned (.complex .f64 (floatOfInt .f64 n) 0) ∧ w' = w := by
  go_enter Tryz.func63, Tryz.ntmps63
  go_wp2
  go_ret
  exact ⟨rfl, rfl⟩

theorem nb_fi (n : Int) (h : n.natAbs < 2 ^ 53) : nb (floatOfInt .f64 n) = floatOfInt .f64 n := nb_of (Flo.isI_self (Flo.isI_fi n h))
theorem fi_inj {m n : Int} (hm : m.natAbs < 2 ^ 53) (hn : n.natAbs < 2 ^ 53) (h : floatOfInt .f64 m = floatOfInt .f64 n) : m = n := by
  have a := Flo.isI_toInt (Flo.isI_fi m hm)
  have b := Flo.isI_toInt (Flo.isI_fi n hn)
  rw [h, b] at a
  exact (Option.some.inj a).symm

theorem word_is (x y a b : Nat) (p : Bool) (hx : NN x) (hy : NN y) (ha : NN a) (hb : NN b) (h : decide (x = a ∧ y = b) = p) (w : World) :
    Calls Tryz.prog 13 #[.complex .f64 x y, .complex .f64 a b] w fun e w' => e = .returned (.bool p) ∧ w' = w := by
  rw [← h]; exact word_all x y a b w hx hy ha hb

set_option maxHeartbeats 400000 in
/-- Int of a number within the bounds. -/
theorem int_raw (x y : Nat) (n : Int) (w : World) (h1 : -9007199254740992 ≤ n) (h2 : n ≤ 9007199254740992)
    (hlo : (FloatKind.f64.format.order x 14069245235905429504 == some .gt || FloatKind.f64.format.order x 14069245235905429504 == some .eq) = true)
    (hhi : (FloatKind.f64.format.order x 4845873199050653696 == some .lt || FloatKind.f64.format.order x 4845873199050653696 == some .eq) = true)
    (ht : floatToIntVal .f64 x .i64 = some n) (p : Bool) (hp : decide (nb (floatOfInt .f64 n) = nb x ∧ nb 0 = nb y) = p) :
    Calls Tryz.prog 80 #[.complex .f64 x y] w fun e w' => e = .returned (.tuple #[.int .i64 (if p then n else 0), .bool p]) ∧ w' = w := by
  have h3 := fun w => run_convert_float_int (P := Tryz.prog) w 46 2 .f64 .i64 _ n (by kernel_rfl) Tryz.underlying2 ht
  have HP : Hid _ := hp
  clear ht hp
  cases p
  all_goals
    go_enter Tryz.func80, Tryz.ntmps80
    go_wp2_with fail
    refine (whole_in n _ h1 h2).mono ?_
    rintro e w' ⟨rfl, rfl⟩
    go_wp2_with fail
    refine (same_all _ _ _ _ _).mono ?_
    rw [HP.out]
    rintro e w' ⟨rfl, rfl⟩
    go_wp2
    go_ret2
    exact ⟨rfl, rfl⟩

theorem ge_of {x y : Nat} {a b : Int} (hx : Flo.IsI x a) (hy : Flo.IsI y b) (h : b ≤ a) : (FloatKind.f64.format.order x y == some .gt || FloatKind.f64.format.order x y == some .eq) = true := by
  have := Flo.isI_order hx hy
  show (double.order x y == some .gt || double.order x y == some .eq) = true
  rw [this]
  by_cases h1 : a = b
  · subst h1; simp [compare, compareOfLessAndEq]
  · have h2 : ¬ a < b := by omega
    simp [compare, compareOfLessAndEq, h1, h2]

theorem le_of {x y : Nat} {a b : Int} (hx : Flo.IsI x a) (hy : Flo.IsI y b) (h : a ≤ b) : (FloatKind.f64.format.order x y == some .lt || FloatKind.f64.format.order x y == some .eq) = true := by
  have := Flo.isI_order hx hy
  show (double.order x y == some .lt || double.order x y == some .eq) = true
  rw [this]
  by_cases h1 : a = b
  · subst h1; simp [compare, compareOfLessAndEq]
  · have h2 : a < b := by omega
    simp [compare, compareOfLessAndEq, h2]
end Go.Proofs.YtbmcbkebcchjmaaGreatDoor
