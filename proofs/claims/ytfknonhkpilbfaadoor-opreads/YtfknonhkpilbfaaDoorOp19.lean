/-
  Package op's small functions: known, number, text, kindOf, with.
-/
import Derived.Test.YtfknonhkpilbfaaDoorFmt19
import Derived.Test.YtfknonhkpilbfaaDoorPar19
namespace Go.Proofs.YtfknonhkpilbfaaDoor
open Go.RowKit

/-- An operation as a Go value. -/
def OP.val (o : OP) : Value := .agg #[.int .i64 (o.k : Int), .int .i64 o.a, .int .i64 o.b, .int .i64 o.c, .int .i64 o.n, .complex .f64 o.x o.y]

set_option maxHeartbeats 400000 in
theorem known_yes (k : Nat) (h1 : 1 ≤ k) (h2 : k ≤ 18) (w : World) : Calls Tryd.prog 11 #[.int .i64 (k : Int)] w fun e w' => e = .returned (.bool true) ∧ w' = w := by
  go_enter Tryd.func11, Tryd.ntmps11
  go_wp2
  go_ret
  simp
  omega
set_option maxHeartbeats 400000 in
theorem known_no (w : World) : Calls Tryd.prog 11 #[.int .i64 0] w fun e w' => e = .returned (.bool false) ∧ w' = w := by
  go_enter Tryd.func11, Tryd.ntmps11
  go_wp2
  go_ret
  simp

theorem lz (l : UInt8) (z : Int) (hz : z = (l.toNat : Int)) (n : Nat) (hn : n < 256) (h : l ≠ UInt8.ofNat n) : ¬ z = (n : Int) := fun e => h (UInt8.toNat_inj.1 (by
  have : (UInt8.ofNat n).toNat = n := by simp; omega
  omega))
theorem lb (l : UInt8) (z : Int) (hz : z = (l.toNat : Int)) (n : Nat) (hn : n < 256) (h : l ≠ UInt8.ofNat n) : (z == (n : Int)) = false := by
  have := lz l z hz n hn h
  simpa using this

set_option maxHeartbeats 1000000 in
theorem num_any (o : OP) (l : UInt8) (w : World) : Calls Tryd.prog 31 #[o.val, .int .i32 (l.toNat : Int)] w fun e w' => e = .returned (.int .i64 (o.num l)) ∧ Kept w w' := by
  obtain ⟨k, a, b, c, n, x, y⟩ := o
  unfold OP.val OP.num
  dsimp only
  by_cases h65 : l = 65
  · subst h65
    rw [show (if (65 : UInt8) = 65 then a else if (65 : UInt8) = 66 ∨ (65 : UInt8) = 75 then b else if (65 : UInt8) = 67 then c else n) = a from rfl]
    obtain ⟨z, hz⟩ : ∃ z : Int, z = ((65 : UInt8).toNat : Int) := ⟨_, rfl⟩
    rw [← hz]
    have hz2 : z = 65 := hz
    subst hz2
    clear hz
    go_enter Tryd.func31, Tryd.ntmps31
    go_wp2
    go_ret
    exact ⟨rfl, (Kept.refl w).alloc _ _⟩
  by_cases h66 : l = 66
  · subst h66
    rw [show (if (66 : UInt8) = 65 then a else if (66 : UInt8) = 66 ∨ (66 : UInt8) = 75 then b else if (66 : UInt8) = 67 then c else n) = b from rfl]
    obtain ⟨z, hz⟩ : ∃ z : Int, z = ((66 : UInt8).toNat : Int) := ⟨_, rfl⟩
    rw [← hz]
    have hz2 : z = 66 := hz
    subst hz2
    clear hz
    go_enter Tryd.func31, Tryd.ntmps31
    go_wp2
    go_ret
    exact ⟨rfl, (Kept.refl w).alloc _ _⟩
  by_cases h75 : l = 75
  · subst h75
    rw [show (if (75 : UInt8) = 65 then a else if (75 : UInt8) = 66 ∨ (75 : UInt8) = 75 then b else if (75 : UInt8) = 67 then c else n) = b from rfl]
    obtain ⟨z, hz⟩ : ∃ z : Int, z = ((75 : UInt8).toNat : Int) := ⟨_, rfl⟩
    rw [← hz]
    have hz2 : z = 75 := hz
    subst hz2
    clear hz
    go_enter Tryd.func31, Tryd.ntmps31
    go_wp2
    go_ret
    exact ⟨rfl, (Kept.refl w).alloc _ _⟩
  by_cases h67 : l = 67
  · subst h67
    rw [show (if (67 : UInt8) = 65 then a else if (67 : UInt8) = 66 ∨ (67 : UInt8) = 75 then b else if (67 : UInt8) = 67 then c else n) = c from rfl]
    obtain ⟨z, hz⟩ : ∃ z : Int, z = ((67 : UInt8).toNat : Int) := ⟨_, rfl⟩
    rw [← hz]
    have hz2 : z = 67 := hz
    subst hz2
    clear hz
    go_enter Tryd.func31, Tryd.ntmps31
    go_wp2
    go_ret
    exact ⟨rfl, (Kept.refl w).alloc _ _⟩
  rw [if_neg h65, if_neg (fun q => q.elim h66 h75), if_neg h67]
  obtain ⟨z, hz⟩ : ∃ z : Int, z = (l.toNat : Int) := ⟨_, rfl⟩
  rw [← hz]
  have z65 : (z == 65) = false := lb l z hz 65 (by decide) h65
  have z66 : (z == 66) = false := lb l z hz 66 (by decide) h66
  have z75 : (z == 75) = false := lb l z hz 75 (by decide) h75
  have z67 : (z == 67) = false := lb l z hz 67 (by decide) h67
  clear hz h65 h66 h75 h67
  go_enter Tryd.func31, Tryd.ntmps31
  go_wp2
  go_ret
  exact ⟨rfl, (Kept.refl w).alloc _ _⟩

set_option maxHeartbeats 1000000 in
theorem text_any (o : OP) (ho : o.Ok) (l : UInt8) (w : World) (hv : Vs w) : Calls Tryd.prog 18 #[o.val, .int .i32 (l.toNat : Int)] w fun e w' => e = .returned (.string ⟨(o.fld l).toArray⟩) ∧ Kept w w' := by
  have hx := nbP_lt _ ho.x
  have hy := nbP_lt _ ho.y
  have hn := num_in ho l
  have HV : Hid (Vs w) := hv
  have HN : Hid (∀ W, Calls Tryd.prog 31 #[o.val, .int .i32 (l.toNat : Int)] W fun e w' => e = .returned (.int .i64 (o.num l)) ∧ Kept W w') := fun W => num_any o l W
  have HI : Hid (∀ W, Vs W → Calls Tryd.prog 30 #[.int .i64 (o.num l)] W fun e w' => e = .returned (.string ⟨(Lib.itoa (o.num l)).toArray⟩) ∧ Kept W w') := fun W q => itoa_any _ hn W q
  have HX : Hid (∀ W, Vs W → Calls Tryd.prog 29 #[.int .u64 ((nbP o.x : Nat) : Int)] W fun e w' => e = .returned (.string ⟨(hex16 (nbP o.x)).toArray⟩) ∧ Kept W w') := fun W q => bitText_any _ hx W q
  have HY : Hid (∀ W, Vs W → Calls Tryd.prog 29 #[.int .u64 ((nbP o.y : Nat) : Int)] W fun e w' => e = .returned (.string ⟨(hex16 (nbP o.y)).toArray⟩) ∧ Kept W w') := fun W q => bitText_any _ hy W q
  have HB : Hid (∀ W, Calls Tryd.prog 28 #[.complex .f64 o.x o.y] W fun e w' => e = .returned (.tuple #[.int .u64 (nbP o.x), .int .u64 (nbP o.y)]) ∧ w' = W) := fun W => bits_any o.x o.y W
  clear hv hx hy hn ho
  obtain ⟨z, hz⟩ : ∃ z : Int, z = (l.toNat : Int) := ⟨_, rfl⟩
  rw [← hz] at HN ⊢
  unfold OP.val at HN ⊢
  unfold OP.fld
  generalize o.num l = nm at HN HI ⊢
  obtain ⟨k, a, b, c, n, x, y⟩ := o
  dsimp only at HN HX HY HB ⊢
  generalize nbP x = px at HX HB ⊢
  generalize nbP y = py at HY HB ⊢
  by_cases h88 : l = 88
  · subst h88
    rw [if_pos rfl]
    have hz2 : z = 88 := hz
    subst hz2
    clear hz HN HI
    go_enter Tryd.func18, Tryd.ntmps18
    go_wp2_with fail
    refine (HB.out _).mono ?_
    rintro e w' ⟨rfl, rfl⟩
    go_wp2_with fail
    refine (HX.out _ (HV.out.keep ((Kept.refl w).alloc _ _))).mono ?_
    rintro e w2 ⟨rfl, K⟩
    have HK : Hid (Kept w w2) := ((Kept.refl w).alloc _ _).trans K
    clear K
    go_wp2
    go_ret
    exact ⟨rfl, HK.out⟩
  by_cases h89 : l = 89
  · subst h89
    rw [if_neg (by decide), if_pos rfl]
    have hz2 : z = 89 := hz
    subst hz2
    clear hz HN HI
    go_enter Tryd.func18, Tryd.ntmps18
    go_wp2_with fail
    refine (HB.out _).mono ?_
    rintro e w' ⟨rfl, rfl⟩
    go_wp2_with fail
    refine (HY.out _ (HV.out.keep ((Kept.refl w).alloc _ _))).mono ?_
    rintro e w2 ⟨rfl, K⟩
    have HK : Hid (Kept w w2) := ((Kept.refl w).alloc _ _).trans K
    clear K
    go_wp2
    go_ret
    exact ⟨rfl, HK.out⟩
  rw [if_neg h88, if_neg h89]
  have z88 : (z == 88) = false := lb l z hz 88 (by decide) h88
  have z89 : (z == 89) = false := lb l z hz 89 (by decide) h89
  clear hz h88 h89
  go_enter Tryd.func18, Tryd.ntmps18
  go_wp2_with fail
  refine (HB.out _).mono ?_
  rintro e w' ⟨rfl, rfl⟩
  go_wp2_with fail
  refine (HN.out _).mono ?_
  rintro e w2 ⟨rfl, K⟩
  have HK : Hid (Kept w w2) := ((Kept.refl w).alloc _ _).trans K
  clear K
  go_wp2_with fail
  refine (HI.out _ (HV.out.keep HK.out)).mono ?_
  rintro e w3 ⟨rfl, K⟩
  have HK3 : Hid (Kept w w3) := HK.out.trans K
  clear K
  go_wp2
  go_ret
  exact ⟨rfl, HK3.out⟩
end Go.Proofs.YtfknonhkpilbfaaDoor
