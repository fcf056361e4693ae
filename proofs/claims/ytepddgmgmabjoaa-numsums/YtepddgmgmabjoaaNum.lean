/-
  Contracts of package num's functions where no part is a NaN.
-/
import Derived.Test.YtepddgmgmabjoaaRows
import Derived.Test.YtepddgmgmabjoaaFlo
import Derived.WalkKit
import Derived.WalkLawsBesides
import Derived.Laws.BitsAllLaws
namespace Go.Proofs.Ytepddgmgmabjoaa
open Go.RowKit
open Ieee (double)

set_option maxHeartbeats 400000 in
theorem add_any (a b c d r i : Nat) (w : World) (hr : floatBits .add .f64 a c = some r) (hi : floatBits .add .f64 b d = some i) :
    Calls Try.prog 8 #[.complex .f64 a b, .complex .f64 c d] w fun e w' => e = .returned (.complex .f64 r i) ∧ w' = w := by
  have h1 := fun w => run_float_arith (P := Try.prog) w .add 24 .f64 a c r hr
  have h2 := fun w => run_float_arith (P := Try.prog) w .add 24 .f64 b d i hi
  clear hr hi
  go_enter Try.func8, Try.ntmps8
  go_wp2
  go_ret
  exact ⟨rfl, rfl⟩

set_option maxHeartbeats 400000 in
theorem sub_any (a b c d r i : Nat) (w : World) (hr : floatBits .sub .f64 a c = some r) (hi : floatBits .sub .f64 b d = some i) :
    Calls Try.prog 10 #[.complex .f64 a b, .complex .f64 c d] w fun e w' => e = .returned (.complex .f64 r i) ∧ w' = w := by
  have h1 := fun w => run_float_arith (P := Try.prog) w .sub 24 .f64 a c r hr
  have h2 := fun w => run_float_arith (P := Try.prog) w .sub 24 .f64 b d i hi
  clear hr hi
  go_enter Try.func10, Try.ntmps10
  go_wp2
  go_ret
  exact ⟨rfl, rfl⟩

set_option maxHeartbeats 400000 in
theorem mul_any (a b c d ac bd ad bc r i : Nat) (w : World) (h1 : floatBits .mul .f64 a c = some ac) (h2 : floatBits .mul .f64 b d = some bd)
    (h3 : floatBits .mul .f64 a d = some ad) (h4 : floatBits .mul .f64 b c = some bc) (h5 : floatBits .sub .f64 ac bd = some r) (h6 : floatBits .add .f64 ad bc = some i) :
    Calls Try.prog 7 #[.complex .f64 a b, .complex .f64 c d] w fun e w' => e = .returned (.complex .f64 r i) ∧ w' = w := by
  have h1 := fun w => run_float_arith (P := Try.prog) w .mul 24 .f64 _ _ _ h1
  have h2 := fun w => run_float_arith (P := Try.prog) w .mul 24 .f64 _ _ _ h2
  have h3 := fun w => run_float_arith (P := Try.prog) w .mul 24 .f64 _ _ _ h3
  have h4 := fun w => run_float_arith (P := Try.prog) w .mul 24 .f64 _ _ _ h4
  have h5 := fun w => run_float_arith (P := Try.prog) w .sub 24 .f64 _ _ _ h5
  have h6 := fun w => run_float_arith (P := Try.prog) w .add 24 .f64 _ _ _ h6
  go_enter Try.func7, Try.ntmps7
  go_wp2
  go_ret
  exact ⟨rfl, rfl⟩

theorem f64bits (x : Nat) (w : World) : (callFunc 16 #[.float .f64 x]).run Try.prog w = .ok (.value (.int .u64 x)) w := by kernel_rfl
theorem f64from (x : Int) (w : World) : (callFunc 17 #[.int .u64 x]).run Try.prog w = .ok (.value (.float .f64 x.toNat)) w := by kernel_rfl

set_option maxHeartbeats 400000 in
theorem partBits_any (x : Nat) (w : World) (h : double.order x x = some .eq) :
    Calls Try.prog 19 #[.float .f64 x] w fun e w' => e = .returned (.int .u64 x) ∧ w' = w := by
  have h' : (FloatKind.f64.format.order x x != some .eq) = false := by show (double.order x x != some .eq) = false; rw [h]; rfl
  have hb := f64bits
  go_enter Try.func19, Try.ntmps19
  go_wp2
  go_ret
  exact ⟨rfl, rfl⟩

set_option maxHeartbeats 400000 in
theorem part_any (x : Nat) (w : World) (h : IntKind.u64.wrap ((x : Int) * 2) ≤ 18437736874454810624) :
    Calls Try.prog 18 #[.float .f64 x] w fun e w' => e = .returned (.int .u64 x) ∧ w' = w := by
  have hb := f64bits
  go_enter Try.func18, Try.ntmps18
  go_wp2
  go_ret
  exact ⟨rfl, rfl⟩

set_option maxHeartbeats 400000 in
theorem bits_any (x y : Nat) (w : World) (hx : double.order x x = some .eq) (hy : double.order y y = some .eq) :
    Calls Try.prog 15 #[.complex .f64 x y] w fun e w' => e = .returned (.tuple #[.int .u64 x, .int .u64 y]) ∧ w' = w := by
  have HX : Hid (double.order x x = some .eq) := hx
  have HY : Hid (double.order y y = some .eq) := hy
  clear hx hy
  go_enter Try.func15, Try.ntmps15
  go_wp2_with fail
  refine (partBits_any x _ HX.out).mono ?_
  rintro e w' ⟨rfl, rfl⟩
  go_wp2_with fail
  refine (partBits_any y _ HY.out).mono ?_
  rintro e w' ⟨rfl, rfl⟩
  go_wp2
  go_ret2
  exact ⟨rfl, rfl⟩

set_option maxHeartbeats 400000 in
theorem same_yes (x y : Nat) (w : World) (hx : double.order x x = some .eq) (hy : double.order y y = some .eq) :
    Calls Try.prog 9 #[.complex .f64 x y, .complex .f64 x y] w fun e w' => e = .returned (.bool true) ∧ w' = w := by
  have HX : Hid (double.order x x = some .eq) := hx
  have HY : Hid (double.order y y = some .eq) := hy
  clear hx hy
  go_enter Try.func9, Try.ntmps9
  go_wp2_with (go_at_call 15; refine (bits_any x y _ HX.out HY.out).mono ?_; rintro e w' ⟨rfl, rfl⟩)
  go_ret
  exact ⟨rfl, rfl⟩

set_option maxHeartbeats 400000 in
theorem same_no (x y a b : Nat) (w : World) (hx : double.order x x = some .eq) (hy : double.order y y = some .eq) (ha : double.order a a = some .eq) (hb : double.order b b = some .eq) (hne : ((x : Int) == (a : Int)) = false) :
    Calls Try.prog 9 #[.complex .f64 x y, .complex .f64 a b] w fun e w' => e = .returned (.bool false) ∧ w' = w := by
  have HX : Hid (double.order x x = some .eq) := hx
  have HY : Hid (double.order y y = some .eq) := hy
  have HA : Hid (double.order a a = some .eq) := ha
  have HB : Hid (double.order b b = some .eq) := hb
  clear hx hy ha hb
  go_enter Try.func9, Try.ntmps9
  go_wp2_with fail
  refine (bits_any x y _ HX.out HY.out).mono ?_
  rintro e w' ⟨rfl, rfl⟩
  go_wp2_with fail
  refine (bits_any a b _ HA.out HB.out).mono ?_
  rintro e w' ⟨rfl, rfl⟩
  go_wp2
  go_ret
  exact ⟨rfl, rfl⟩

set_option maxHeartbeats 400000 in
theorem whole_in (n : Int) (w : World) (h1 : -9007199254740992 ≤ n) (h2 : n ≤ 9007199254740992) :
    Calls Try.prog 13 #[.int .i64 n] w fun e w' => e = .returned (.complex .f64 (floatOfInt .f64 n) 0) ∧ w' = w := by
  go_enter Try.func13, Try.ntmps13
  go_wp2
  go_ret
  exact ⟨rfl, rfl⟩

set_option maxHeartbeats 400000 in
theorem int_yes (x : Nat) (n : Int) (w : World) (hxe : Hid (x = floatOfInt .f64 n)) (h1 : -9007199254740992 ≤ n) (h2 : n ≤ 9007199254740992)
    (hlo : (FloatKind.f64.format.order x 14069245235905429504 == some .gt || FloatKind.f64.format.order x 14069245235905429504 == some .eq) = true)
    (hhi : (FloatKind.f64.format.order x 4845873199050653696 == some .lt || FloatKind.f64.format.order x 4845873199050653696 == some .eq) = true)
    (ht : floatToIntVal .f64 x .i64 = some n) (hx : double.order x x = some .eq) :
    Calls Try.prog 12 #[.complex .f64 x 0] w fun e w' => e = .returned (.tuple #[.int .i64 n, .bool true]) ∧ w' = w := by
  have h3 := fun w => run_convert_float_int (P := Try.prog) w 24 2 .f64 .i64 _ n (by kernel_rfl) Try.underlying2 ht
  have HX : Hid (double.order x x = some .eq) := hx
  clear ht hx
  go_enter Try.func12, Try.ntmps12
  go_wp2_with fail
  refine (whole_in n _ h1 h2).mono ?_
  rw [← hxe.out]
  rintro e w' ⟨rfl, rfl⟩
  go_wp2_with fail
  refine (same_yes x 0 _ HX.out (by decide +kernel)).mono ?_
  rintro e w' ⟨rfl, rfl⟩
  go_wp2
  go_ret2
  exact ⟨rfl, rfl⟩

set_option maxHeartbeats 400000 in
theorem int_no (x y : Nat) (n : Int) (w : World) (hxe : Hid ((((floatOfInt .f64 n : Nat) : Int) == (x : Int)) = false)) (h1 : -9007199254740992 ≤ n) (h2 : n ≤ 9007199254740992)
    (hlo : (FloatKind.f64.format.order x 14069245235905429504 == some .gt || FloatKind.f64.format.order x 14069245235905429504 == some .eq) = true)
    (hhi : (FloatKind.f64.format.order x 4845873199050653696 == some .lt || FloatKind.f64.format.order x 4845873199050653696 == some .eq) = true)
    (ht : floatToIntVal .f64 x .i64 = some n) (hx : double.order x x = some .eq) (hy : double.order y y = some .eq) (hn : double.order (floatOfInt .f64 n) (floatOfInt .f64 n) = some .eq) :
    Calls Try.prog 12 #[.complex .f64 x y] w fun e w' => e = .returned (.tuple #[.int .i64 0, .bool false]) ∧ w' = w := by
  have h3 := fun w => run_convert_float_int (P := Try.prog) w 24 2 .f64 .i64 _ n (by kernel_rfl) Try.underlying2 ht
  have HX : Hid (double.order x x = some .eq) := hx
  have HY : Hid (double.order y y = some .eq) := hy
  have HN : Hid (double.order (floatOfInt .f64 n) (floatOfInt .f64 n) = some .eq) := hn
  clear ht hx hy hn
  go_enter Try.func12, Try.ntmps12
  go_wp2_with fail
  refine (whole_in n _ h1 h2).mono ?_
  rintro e w' ⟨rfl, rfl⟩
  go_wp2_with fail
  refine (same_no _ 0 x y _ HN.out (by decide +kernel) HX.out HY.out hxe.out).mono ?_
  rintro e w' ⟨rfl, rfl⟩
  go_wp2
  go_ret2
  exact ⟨rfl, rfl⟩

set_option maxHeartbeats 400000 in
theorem word_yes (x y : Nat) (w : World) (hx : IntKind.u64.wrap ((x : Int) * 2) ≤ 18437736874454810624) (hy : IntKind.u64.wrap ((y : Int) * 2) ≤ 18437736874454810624) :
    Calls Try.prog 14 #[.complex .f64 x y, .complex .f64 x y] w fun e w' => e = .returned (.bool true) ∧ w' = w := by
  go_enter Try.func14, Try.ntmps14
  go_wp2_with fail
  refine (part_any x _ hx).mono ?_
  rintro e w' ⟨rfl, rfl⟩
  go_wp2_with fail
  refine (part_any x _ hx).mono ?_
  rintro e w' ⟨rfl, rfl⟩
  go_wp2_with fail
  refine (part_any y _ hy).mono ?_
  rintro e w' ⟨rfl, rfl⟩
  go_wp2_with fail
  refine (part_any y _ hy).mono ?_
  rintro e w' ⟨rfl, rfl⟩
  go_wp2
  go_ret
  exact ⟨rfl, rfl⟩

theorem seven : floatOfInt .f64 7 = 4619567317775286272 := by decide +kernel

set_option maxHeartbeats 400000 in
theorem first_any (w : World) : Calls Try.prog 6 #[] w fun e w' => e = .returned (.bool true) ∧ w' = w := by
  go_enter Try.func6, Try.ntmps6
  go_wp2_with fail
  refine (whole_in 7 _ (by decide) (by decide)).mono ?_
  rw [seven]
  rintro e w' ⟨rfl, rfl⟩
  go_wp2_with fail
  refine (int_yes 4619567317775286272 7 _ seven.symm (by decide) (by decide) (by decide +kernel) (by decide +kernel) (by decide +kernel) (by decide +kernel)).mono ?_
  rintro e w' ⟨rfl, rfl⟩
  go_wp2_with fail
  refine (int_no 4602678819172646912 0 0 _ (by show _ = false; decide +kernel) (by decide) (by decide) (by decide +kernel) (by decide +kernel) (by decide +kernel) (by decide +kernel) (by decide +kernel) (by decide +kernel)).mono ?_
  rintro e w' ⟨rfl, rfl⟩
  go_wp2_with fail
  refine (mul_any _ _ _ _ 4613937818241073152 4620693217682128896 4616189618054758400 4618441417868443648 13840687554816376832 4621819117588971520 _ (by decide +kernel) (by decide +kernel) (by decide +kernel) (by decide +kernel) (by decide +kernel) (by decide +kernel)).mono ?_
  rintro e w' ⟨rfl, rfl⟩
  go_wp2_with fail
  refine (word_yes _ _ _ (by decide +kernel) (by decide +kernel)).mono ?_
  rintro e w' ⟨rfl, rfl⟩
  go_wp2
  go_ret
  exact ⟨rfl, rfl⟩

set_option maxHeartbeats 400000 in
theorem conj_raw (x y : Nat) (w : World) :
    Calls Try.prog 11 #[.complex .f64 x y] w fun e w' => e = .returned (.complex .f64 x (bits .xor .u64 (y : Int) 9223372036854775808).toNat) ∧ w' = w := by
  have hb := f64bits
  have hf := f64from
  go_enter Try.func11, Try.ntmps11
  go_wp2
  go_ret
  exact ⟨rfl, rfl⟩

theorem conj_any (x y : Nat) (w : World) (h : y < 2 ^ 64) :
    Calls Try.prog 11 #[.complex .f64 x y] w fun e w' => e = .returned (.complex .f64 x (y ^^^ 2 ^ 63)) ∧ w' = w := by
  have e : (bits .xor .u64 (y : Int) 9223372036854775808).toNat = y ^^^ 2 ^ 63 := by
    have := u64_xor_nat y 9223372036854775808 h (by decide)
    have h2 : ((9223372036854775808 : Nat) : Int) = 9223372036854775808 := rfl
    rw [h2] at this
    rw [this, Int.toNat_natCast]
  have := conj_raw x y w
  rw [e] at this
  exact this

end Go.Proofs.Ytepddgmgmabjoaa
