/-
  strconv.FormatUint at base 16, and package op's sixteen digits.
-/
import Derived.Test.YtfknonhkpilbfaaDoorHex19
import Derived.Test.YtfknonhkpilbfaaDoorVs19
import Derived.Laws.Slices
import Derived.Laws.Concat
namespace Go.Proofs.YtfknonhkpilbfaaDoor
open Go.RowKit

set_option maxHeartbeats 400000 in
theorem pow2_16 (w : World) : Calls Tryd.prog 77 #[.int .i64 16] w fun e w' => e = .returned (.bool true) ∧ w' = w := by
  have h1 : bits .and .i64 16 15 = 0 := by decide +kernel
  go_enter Tryd.func77, Tryd.ntmps77
  go_wp2
  go_ret
  exact ⟨rfl, rfl⟩

set_option maxHeartbeats 400000 in
theorem tz64_16 (w : World) (hv : Vs w) : Calls Tryd.prog 82 #[.int .u64 16] w fun e w' => e = .returned (.int .i64 4) ∧ w' = w := by
  have h0 : IntKind.u64.wrap (-16) = 18446744073709551600 := by decide +kernel
  have h1 : bits .and .u64 16 18446744073709551600 = 16 := by decide +kernel
  have h3 : IntKind.u64.wrap 4573923408821661840 = 4573923408821661840 := by decide +kernel
  have h2 := hv.tz
  go_enter Tryd.func82, Tryd.ntmps82
  go_wp2
  go_ret
  exact ⟨rfl, rfl⟩

set_option maxHeartbeats 400000 in
theorem tz_16 (w : World) (hv : Vs w) : Calls Tryd.prog 78 #[.int .u64 16] w fun e w' => e = .returned (.int .i64 4) ∧ w' = w := by
  have h2 := hv
  go_enter Tryd.func78, Tryd.ntmps78
  go_wp2_with fail
  refine (tz64_16 _ h2).mono ?_
  rintro e w' ⟨rfl, rfl⟩
  go_wp2
  go_ret
  exact ⟨rfl, rfl⟩

/-- What stands in the 65 places when t digits are written. -/
def fhc (u t j : Nat) : Int := if 65 - t ≤ j then ((hexD (u / 16 ^ (64 - j) % 16)).toNat : Int) else 0
def fhr (u t : Nat) : List Value := (List.range 65).map fun j => .int .u8 (fhc u t j)
theorem fhr_at (u t j : Nat) (h : j < 65) : (fhr u t)[j]? = some (.int .u8 (fhc u t j)) := by simp [fhr, h]
theorem fhr_zero (u : Nat) : fhr u 0 = List.replicate 65 (.int .u8 0) := by
  apply List.ext_getElem?
  intro j
  by_cases hj : j < 65
  · rw [fhr_at u 0 j hj]
    have e : fhc u 0 j = 0 := if_neg (by omega)
    rw [e, List.getElem?_replicate, if_pos hj]
  · rw [List.getElem?_eq_none (by simp [fhr]; omega), List.getElem?_eq_none (by rw [List.length_replicate]; omega)]
theorem fhr_set (u t : Nat) (h : t < 65) : (fhr u t).set (64 - t) (.int .u8 ((hexD (u / 16 ^ t % 16)).toNat : Int)) = fhr u (t + 1) := by
  apply List.ext_getElem?
  intro j
  rw [List.getElem?_set]
  by_cases hj : j < 65
  · rw [fhr_at u (t + 1) j hj]
    by_cases e : 64 - t = j
    · subst e
      rw [if_pos rfl, if_pos (by simp [fhr]; omega)]
      unfold fhc
      rw [if_pos (by omega), show 64 - (64 - t) = t by omega]
    · rw [if_neg e, fhr_at u t j hj]
      unfold fhc
      by_cases h1 : 65 - t ≤ j
      · rw [if_pos h1, if_pos (by omega)]
      · rw [if_neg h1, if_neg (by omega)]
  · have e1 : (fhr u (t + 1))[j]? = none := List.getElem?_eq_none (by simp [fhr]; omega)
    have e2 : (fhr u t)[j]? = none := List.getElem?_eq_none (by simp [fhr]; omega)
    rw [e1, if_neg (by omega), e2]
/-- The digits of u without noughts ahead, t + 1 of them. -/
def hxm (u t : Nat) : List UInt8 := (List.range (t + 1)).map fun j => hexD (u / 16 ^ (t - j) % 16)
theorem hxm_len (u t : Nat) : (hxm u t).length = t + 1 := by simp [hxm]
theorem hex16_hxm (u t : Nat) (ht : t ≤ 15) (hu : u < 16 ^ (t + 1)) : hex16 u = List.replicate (15 - t) 48 ++ hxm u t := by
  apply List.ext_getElem?
  intro j
  by_cases hj : j < 16
  · rw [hex16_get u j hj]
    by_cases h1 : j < 15 - t
    · rw [List.getElem?_append_left (by simpa using h1)]
      have h2 : u / 16 ^ (15 - j) = 0 := Nat.div_eq_of_lt (Nat.lt_of_lt_of_le hu (Nat.pow_le_pow_right (by decide) (by omega)))
      rw [h2]
      simp [h1]
      rfl
    · rw [List.getElem?_append_right (by simp; omega), List.length_replicate]
      simp only [hxm, List.getElem?_map]
      rw [List.getElem?_range (by omega)]
      simp only [Option.map_some]
      rw [show t - (j - (15 - t)) = 15 - j by omega]
  · rw [List.getElem?_eq_none (by simp [hex16]; omega), List.getElem?_eq_none (by simp [hxm]; omega)]
theorem repeat48 (n : Nat) : Lib.repeatL [48] n = List.replicate n 48 := by
  induction n with
  | zero => rfl
  | succ n ih => simp [Lib.repeatL, ih, List.replicate_succ]
theorem idx_digs36 (t : TypeId) {P : Program} (ht : P.underlying t = some .string) (k : IntKind) (d : Nat) (hd : d < 16) (w : World) :
    (Instr.index t (.string ⟨#[48, 49, 50, 51, 52, 53, 54, 55, 56, 57, 97, 98, 99, 100, 101, 102, 103, 104, 105, 106, 107, 108, 109, 110, 111, 112, 113, 114, 115, 116, 117, 118, 119, 120, 121, 122]⟩) (.int k (d : Int))).run P w = .ok (.int .u8 ((hexD d).toNat : Int)) w := by
  rw [run_index_string w t _ k _ ht, dif_pos ⟨by omega, by show (d : Int) < ((36 : Nat) : Int); omega⟩]
  have key : ∀ d : Fin 16, (#[48, 49, 50, 51, 52, 53, 54, 55, 56, 57, 97, 98, 99, 100, 101, 102, 103, 104, 105, 106, 107, 108, 109, 110, 111, 112, 113, 114, 115, 116, 117, 118, 119, 120, 121, 122] : Array UInt8)[d.val] = hexD d.val := by decide +kernel
  have e := key ⟨d, hd⟩
  have e2 : ((d : Int)).toNat = d := by omega
  simp only [e2]
  rw [← e]
  rfl
theorem and15u (a : Nat) (h : a < 18446744073709551616) : bits .and .u64 (a : Int) 15 = ((a % 16 : Nat) : Int) := and15 a h


theorem div16_succ (u t : Nat) : u / 16 ^ (t + 1) = u / 16 ^ t / 16 := by rw [Nat.pow_succ, Nat.div_div_eq_div_mul]

set_option maxHeartbeats 4000000 in
set_option maxRecDepth 20000 in
theorem formatBits_16 (u : Nat) (hu : u < 18446744073709551616) (w : World) (hv : Vs w) :
    Calls Tryd.prog 68 #[.slice none 0 0, .int .u64 u, .int .i64 16, .bool false, .bool false] w fun e w' => ∃ t, t ≤ 15 ∧ u < 16 ^ (t + 1) ∧ e = .returned (.tuple #[.slice none 0 0, .string ⟨(hxm u t).toArray⟩]) ∧ Kept w w' := by
  have HV : Hid (Vs w) := hv
  clear hv
  go_enter Tryd.func68, Tryd.ntmps68
  go_wp2_with fail
  refine (pow2_16 _).mono ?_
  rintro e w' ⟨rfl, rfl⟩
  go_wp2_with fail
  refine (tz_16 _ (HV.out.keep ((Kept.refl w).alloc _ _))).mono ?_
  rintro e w' ⟨rfl, rfl⟩
  go_wp2_with fail
  go_loopg [1, 13] 16 (fun m v i wr => ∃ t a : Nat, v = .int .u64 a ∧ i = .int .i64 ((65 - t : Nat) : Int) ∧ t ≤ 15 ∧ m = 16 - t ∧ Hid (a = u / 16 ^ t ∧ Own wr w.heap.size 112 (fhr u t) ∧ Kept w wr))
  case atStart =>
    refine ⟨0, u, rfl, rfl, by omega, rfl, by simp, ?_, ?_⟩
    · rw [fhr_zero]; exact Own.new _ _ _
    · exact (Kept.refl w).alloc _ _
  case round =>
    obtain ⟨t, a, rfl, rfl, ht, rfl, hh⟩ := hrel
    have ha : a < 18446744073709551616 := by rw [hh.out.1]; exact Nat.lt_of_le_of_lt (Nat.div_le_self _ _) hu
    have hc := hh.out.2.1.blk.at (64 - t) (fhr_at u t (64 - t) (by omega))
    have hf := hh.out.2.1.blk.fz (64 - t)
    have e1 : ((65 - t : Nat) : Int) - 1 = ((64 - t : Nat) : Int) := by omega
    have b1 : 64 - t < 65 := by omega
    generalize fhc u t (64 - t) = z at hc
    have HB : Hid (bits .and .u64 (a : Int) 15 = ((a % 16 : Nat) : Int)) := and15 a ha
    by_cases h : 16 ≤ a
    · have HN : Hid (t + 1 ≤ 15 ∧ a / 16 = u / 16 ^ (t + 1) ∧ Own (wr.setCell ⟨w.heap.size, 64 - t, none⟩ (.int .u8 ((hexD (a % 16)).toNat : Int))) w.heap.size 112 (fhr u (t + 1)) ∧ Kept w (wr.setCell ⟨w.heap.size, 64 - t, none⟩ (.int .u8 ((hexD (a % 16)).toNat : Int)))) := by
        refine ⟨?_, ?_, ?_, hh.out.2.2.setCell (Nat.le_refl _) _⟩
        · rcases Nat.lt_or_ge t 15 with q | q
          · omega
          · obtain rfl : t = 15 := by omega
            have h1 := hh.out.1
            have h2 : (16 : Nat) ^ 15 = 1152921504606846976 := by decide
            rw [h2] at h1
            omega
        · rw [div16_succ, ← hh.out.1]
        · rw [← fhr_set u t (by omega), ← hh.out.1]
          exact hh.out.2.1.set (64 - t) _
      have hd16 : a % 16 < 16 := Nat.mod_lt _ (by decide)
      have hb := HB.out
      generalize a % 16 = d at hb hd16 HN
      have hx := idx_digs36 9 Tryd.underlying9 .u64 d hd16
      obtain ⟨i, hi⟩ : ∃ i : Nat, i = 64 - t := ⟨_, rfl⟩
      obtain ⟨i1, hi1⟩ : ∃ i : Nat, i = 65 - t := ⟨_, rfl⟩
      have e2 : ((i1 : Nat) : Int) - 1 = ((i : Nat) : Int) := by omega
      have b2 : i < 65 := by omega
      have HE : Hid (i = 65 - (t + 1)) := by show i = _; omega
      rw [← hi] at hc hf HN
      rw [← hi1]
      have HI1 : Hid (i1 = 65 - t) := hi1
      clear hh hd16 e1 b1 hi hi1 HB
      go_wp2
      go_roundg (16 - (t + 1))
      · exact ⟨t + 1, a / 16, by simp, by rw [HE.out], HN.out.1, rfl, HN.out.2⟩
      · omega
    · have hlt : u < 16 ^ (t + 1) := by
        have h1 := hh.out.1
        rw [Nat.pow_succ]
        rw [h1, Nat.not_le, Nat.div_lt_iff_lt_mul (Nat.pow_pos (by decide)), Nat.mul_comm] at h
        exact h
      have ha16 : a % 16 = a := Nat.mod_eq_of_lt (by omega)
      have HN : Hid (Own (wr.setCell ⟨w.heap.size, 64 - t, none⟩ (.int .u8 ((hexD a).toNat : Int))) w.heap.size 112 (fhr u (t + 1)) ∧ Kept w (wr.setCell ⟨w.heap.size, 64 - t, none⟩ (.int .u8 ((hexD a).toNat : Int)))) := by
        refine ⟨?_, hh.out.2.2.setCell (Nat.le_refl _) _⟩
        rw [← fhr_set u t (by omega), ← hh.out.1, ha16]
        exact hh.out.2.1.set (64 - t) _
      have hx := idx_digs36 9 Tryd.underlying9 .u64 a (by omega)
      have hal : Tryd.prog.arrayLen 112 = 65 := by kernel_rfl
      have hsl : ∀ W, (Instr.sliceAt 112 (.pointer (some ⟨w.heap.size, 0, none⟩)) (some (.int .i64 ((64 - t : Nat) : Int))) none none).run Tryd.prog W = .ok (.slice (some ⟨w.heap.size, 64 - t, none⟩) (t + 1) (t + 1)) W := fun W => by
        rw [run_sliceAt_array_l W 112 ⟨w.heap.size, 0, none⟩ (by kernel_rfl) .i64 ((64 - t : Nat) : Int) (by omega) (by rw [hal]; omega)]
        go_simp
        omega
      have hcv := run_convert_bytes_back (P := Tryd.prog) (wr.setCell ⟨w.heap.size, 64 - t, none⟩ (.int .u8 ((hexD a).toNat : Int))) 68 9 5 ⟨w.heap.size, 64 - t, none⟩ (t + 1) (hxm u t) Tryd.underlying68 Tryd.underlying5 Tryd.underlying9 (fun j hj => by
        have hj' : j < t + 1 := by rw [hxm_len] at hj; exact hj
        have e0 := HN.out.1.blk.at (64 - t + j) (fhr_at u (t + 1) (64 - t + j) (by omega))
        rw [show (⟨w.heap.size, 64 - t, none⟩ : Addr).add j = ⟨w.heap.size, 64 - t + j, none⟩ by unfold Addr.add; split <;> simp_all, e0]
        unfold fhc
        rw [if_pos (by omega)]
        simp only [hxm, List.getElem_map, List.getElem_range]
        rw [show 64 - (64 - t + j) = t - j by omega])
      rw [hxm_len] at hcv
      have HK : Hid (Kept w (wr.setCell ⟨w.heap.size, 64 - t, none⟩ (.int .u8 ((hexD a).toNat : Int)))) := HN.out.2
      have HL : Hid (t ≤ 15 ∧ u < 16 ^ (t + 1)) := ⟨ht, hlt⟩
      have h' : a < 16 := by omega
      obtain ⟨i, hi⟩ : ∃ i : Nat, i = 64 - t := ⟨_, rfl⟩
      obtain ⟨i1, hi1⟩ : ∃ i : Nat, i = 65 - t := ⟨_, rfl⟩
      have e2 : ((i1 : Nat) : Int) - 1 = ((i : Nat) : Int) := by omega
      have b2 : i < 65 := by omega
      rw [← hi] at hc hf hsl hcv HK
      rw [← hi1]
      clear hh e1 b1 hi hi1 HB HN hlt ha16 h ht hal
      go_wp2
      go_ret2
      exact ⟨t, HL.out.1, HL.out.2, rfl, HK.out⟩

set_option maxHeartbeats 1000000 in
theorem formatUint_16i (u : Nat) (hu : u < 18446744073709551616) (w : World) (hv : Vs w) :
    Calls Tryd.prog 51 #[.int .u64 u, .int .i64 16] w fun e w' => ∃ t, t ≤ 15 ∧ u < 16 ^ (t + 1) ∧ e = .returned (.string ⟨(hxm u t).toArray⟩) ∧ Kept w w' := by
  have HV : Hid (Vs w) := hv
  clear hv
  go_enter Tryd.func51, Tryd.ntmps51
  go_wp2_with fail
  refine (formatBits_16 u hu _ HV.out).mono ?_
  rintro e w' ⟨t, h1, h2, rfl, K⟩
  have HK : Hid (t ≤ 15 ∧ u < 16 ^ (t + 1) ∧ Kept w w') := ⟨h1, h2, K⟩
  clear h1 h2 K
  go_wp2
  go_ret
  exact ⟨t, HK.out.1, HK.out.2.1, rfl, HK.out.2.2⟩

set_option maxHeartbeats 1000000 in
theorem formatUint_16 (u : Nat) (hu : u < 18446744073709551616) (w : World) (hv : Vs w) :
    Calls Tryd.prog 37 #[.int .u64 u, .int .i64 16] w fun e w' => ∃ t, t ≤ 15 ∧ u < 16 ^ (t + 1) ∧ e = .returned (.string ⟨(hxm u t).toArray⟩) ∧ Kept w w' := by
  have HV : Hid (Vs w) := hv
  clear hv
  go_enter Tryd.func37, Tryd.ntmps37
  go_wp2_with fail
  refine (formatUint_16i u hu _ HV.out).mono ?_
  rintro e w' ⟨t, h1, h2, rfl, K⟩
  have HK : Hid (t ≤ 15 ∧ u < 16 ^ (t + 1) ∧ Kept w w') := ⟨h1, h2, K⟩
  clear h1 h2 K
  go_wp2
  go_ret
  exact ⟨t, HK.out.1, HK.out.2.1, rfl, HK.out.2.2⟩

theorem cat_bytes (a b : List UInt8) : (⟨a.toArray⟩ : ByteArray) ++ ⟨b.toArray⟩ = ⟨(a ++ b).toArray⟩ := by
  apply ByteArray.ext
  simp

set_option maxHeartbeats 1000000 in
theorem bitText_any (u : Nat) (hu : u < 18446744073709551616) (w : World) (hv : Vs w) :
    Calls Tryd.prog 29 #[.int .u64 u] w fun e w' => e = .returned (.string ⟨(hex16 u).toArray⟩) ∧ Kept w w' := by
  have HV : Hid (Vs w) := hv
  clear hv
  go_enter Tryd.func29, Tryd.ntmps29
  go_wp2_with fail
  refine (formatUint_16 u hu _ HV.out).mono ?_
  rintro e w1 ⟨t, h1, h2, rfl, K⟩
  have HK : Hid (t ≤ 15 ∧ u < 16 ^ (t + 1) ∧ Kept w w1) := ⟨h1, h2, K⟩
  have hsz : (⟨(hxm u t).toArray⟩ : ByteArray).size = t + 1 := by simp [ByteArray.size, hxm_len]
  have hsub : (16 : Int) - ((t : Int) + 1) = ((15 - t : Nat) : Int) := by omega
  have hR := fun W => Tryd.strings_Repeat ⟨#[48]⟩ (15 - t) W (by omega) (by show 1 * (15 - t) ≤ _; omega)
  have hcat : (⟨(Lib.repeatL [48] (15 - t)).toArray⟩ : ByteArray) ++ ⟨(hxm u t).toArray⟩ = ⟨(hex16 u).toArray⟩ := by
    rw [repeat48, cat_bytes, ← hex16_hxm u t h1 h2]
  clear h1 h2 K
  have hlen : (⟨(Lib.repeatL [48] (15 - t)).toArray⟩ : ByteArray).size + (⟨(hxm u t).toArray⟩ : ByteArray).size ≤ 9223372036854775807 := by
    rw [hsz, repeat48]
    simp [ByteArray.size]
    omega
  generalize hrp : (⟨(Lib.repeatL [48] (15 - t)).toArray⟩ : ByteArray) = rp at hR hcat hlen
  generalize hmm : (⟨(hxm u t).toArray⟩ : ByteArray) = mm at hsz hcat hlen
  clear hrp hmm
  go_wp2_with fail
  refine (hR _).mono ?_
  rintro e w2 ⟨rfl, K⟩
  have HK2 : Hid (Kept w w2) := HK.out.2.2.trans ⟨K⟩
  clear K hR hsz hsub
  go_wp2
  go_ret
  exact ⟨rfl, HK2.out⟩
end Go.Proofs.YtfknonhkpilbfaaDoor
