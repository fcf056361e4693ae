/-
  The bits of a number's parts, all NaNs as one: package num's and the document's; floats out of bits.
-/
import Derived.Test.YtfknonhkpilbfaaDoorCells
import Derived.Test.YtfknonhkpilbfaaDoorPure19
import Derived.WalkLawsBesides
import Derived.Laws.BitsAllLaws
namespace Go.Proofs.YtfknonhkpilbfaaDoor
open Go.RowKit
open Ieee

theorem f64bits (x : Nat) (w : World) : (callFunc 27 #[.float .f64 x]).run Tryd.prog w = .ok (.value (.int .u64 x)) w := by kernel_rfl
theorem f64from (x : Nat) (w : World) : (callFunc 23 #[.int .u64 x]).run Tryd.prog w = .ok (.value (.float .f64 x)) w := by kernel_rfl

theorem order_self (x : Nat) : double.order x x = (if 18437736874454810624 < 2 * x % 18446744073709551616 then none else some .eq) := by
  have hlp : double.leastPlace = -1074 := by decide
  have hsw : double.signWeight = 2 ^ 63 := by decide
  have hbin : double.binade = 2 ^ 52 := rfl
  have hinf : double.infRung = 2047 * 2 ^ 52 := by decide
  unfold Format.order
  unfold Format.read
  simp only [hsw, hbin, hinf, hlp]
  split
  · rw [if_neg (by omega)]
    simp [Datum.order, compare, compareOfLessAndEq]
  · split
    · rw [if_neg (by omega)]
      simp [Datum.order, compare, compareOfLessAndEq]
    · split
      · rw [if_neg (by omega)]
        simp [Datum.order, compare, compareOfLessAndEq]
      · rw [if_pos (by omega)]
        simp [Datum.order]

set_option maxHeartbeats 400000 in
theorem partBits_any (x : Nat) (w : World) :
    Calls Tryd.prog 36 #[.float .f64 x] w fun e w' => e = .returned (.int .u64 (nbP x)) ∧ w' = w := by
  have ho := order_self x
  have hb := f64bits
  by_cases h : 18437736874454810624 < 2 * x % 18446744073709551616
  · rw [if_pos h] at ho
    have e : nbP x = 9221120237041090560 := if_pos h
    rw [e]
    have h' : (FloatKind.f64.format.order x x != some .eq) = true := by show (double.order x x != some .eq) = true; rw [ho]; rfl
    clear ho h e
    go_enter Tryd.func36, Tryd.ntmps36
    go_wp2
    go_ret
    exact ⟨rfl, rfl⟩
  · rw [if_neg h] at ho
    have e : nbP x = x := if_neg h
    rw [e]
    have h' : (FloatKind.f64.format.order x x != some .eq) = false := by show (double.order x x != some .eq) = false; rw [ho]; rfl
    clear ho h e
    go_enter Tryd.func36, Tryd.ntmps36
    go_wp2
    go_ret
    exact ⟨rfl, rfl⟩

set_option maxHeartbeats 400000 in
theorem bits_any (x y : Nat) (w : World) :
    Calls Tryd.prog 28 #[.complex .f64 x y] w fun e w' => e = .returned (.tuple #[.int .u64 (nbP x), .int .u64 (nbP y)]) ∧ w' = w := by
  go_enter Tryd.func28, Tryd.ntmps28
  go_wp2_with fail
  refine (partBits_any x _).mono ?_
  rintro e w' ⟨rfl, rfl⟩
  go_wp2_with fail
  refine (partBits_any y _).mono ?_
  rintro e w' ⟨rfl, rfl⟩
  go_wp2
  go_ret2
  exact ⟨rfl, rfl⟩

set_option maxHeartbeats 400000 in
theorem rbits_one (x : Nat) (w : World) :
    Calls Tryd.prog 17 #[.float .f64 x] w fun e w' => e = .returned (.int .u64 (nbP x)) ∧ w' = w := by
  have hb := f64bits
  have hw : IntKind.u64.wrap ((x : Int) * 2) = ((2 * x % 18446744073709551616 : Nat) : Int) := by rw [IntKind.wrap_u64]; omega
  by_cases h : 18437736874454810624 < 2 * x % 18446744073709551616
  · have e : nbP x = 9221120237041090560 := if_pos h
    rw [e]
    have h2 : (18437736874454810624 : Int) < IntKind.u64.wrap ((x : Int) * 2) := by rw [hw]; omega
    clear hw h e
    go_enter Tryd.func17, Tryd.ntmps17
    go_wp2
    go_ret
    exact ⟨rfl, rfl⟩
  · have e : nbP x = x := if_neg h
    rw [e]
    have h2 : IntKind.u64.wrap ((x : Int) * 2) ≤ (18437736874454810624 : Int) := by rw [hw]; omega
    clear hw h e
    go_enter Tryd.func17, Tryd.ntmps17
    go_wp2
    go_ret
    exact ⟨rfl, rfl⟩

set_option maxHeartbeats 400000 in
theorem rbits_any (x y : Nat) (w : World) :
    Calls Tryd.prog 7 #[.complex .f64 x y] w fun e w' => e = .returned (.tuple #[.int .u64 (nbP x), .int .u64 (nbP y)]) ∧ w' = w := by
  go_enter Tryd.func7, Tryd.ntmps7
  go_wp2_with fail
  refine (rbits_one x _).mono ?_
  rintro e w' ⟨rfl, rfl⟩
  go_wp2_with fail
  refine (rbits_one y _).mono ?_
  rintro e w' ⟨rfl, rfl⟩
  go_wp2
  go_ret2
  exact ⟨rfl, rfl⟩
end Go.Proofs.YtfknonhkpilbfaaDoor
