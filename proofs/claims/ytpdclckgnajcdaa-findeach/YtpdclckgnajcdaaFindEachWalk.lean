/-
  The walk of FindEach: its ways together.
-/
import Derived.Test.YtpdclckgnajcdaaEachO
import Derived.Test.YtpdclckgnajcdaaEachR
import Derived.Test.YtpdclckgnajcdaaLaid13
import Derived.Test.YtpdclckgnajcdaaOpen12
namespace Go.Proofs.Ytpdclckgnajcdaa
open Go.RowKit

/-- Where field j is. -/
def adO (L : Nat → Int) (j : Nat) : Nat := (L ((j + 1) / 7) * 8 + ((1 + (j + 1) % 7 : Nat) : Int)).toNat
theorem adO_is {n0 : Int} {L : Nat → Int} {l j : Nat} (hf : Frs L l n0) (hj : (j + 1) / 7 < l) : (adO L j : Int) = L ((j + 1) / 7) * 8 + ((1 + (j + 1) % 7 : Nat) : Int) := by
  have := hf _ hj
  unfold adO
  omega
theorem adO_ne {n0 : Int} {L : Nat → Int} {l i j : Nat} (hf : Frs L l n0) (ht : ¬ Twice L l) (hi : i < j) (hj : (j + 1) / 7 < l) : adO L i ≠ adO L j := fun e => by
  have h1 := adO_is hf (j := i) (by omega)
  have h2 := adO_is hf hj
  have h3 := onc_frag_ne ht (i := 8 * ((j + 1) / 7) + (1 + (j + 1) % 7)) (k := 8 * ((i + 1) / 7) + (1 + (i + 1) % 7)) (by omega) (by omega)
  rw [show (8 * ((i + 1) / 7) + (1 + (i + 1) % 7)) / 8 = (i + 1) / 7 by omega, show (8 * ((i + 1) / 7) + (1 + (i + 1) % 7)) % 8 = 1 + (i + 1) % 7 by omega, show (8 * ((j + 1) / 7) + (1 + (j + 1) % 7)) / 8 = (j + 1) / 7 by omega, show (8 * ((j + 1) / 7) + (1 + (j + 1) % 7)) % 8 = 1 + (j + 1) % 7 by omega, ← h1, ← h2, e] at h3
  exact h3 rfl
/-- Where element j is. -/
def adA (L : Nat → Int) (j : Nat) : Nat := (L (1 + j / 8) * 8 + ((j % 8 : Nat) : Int)).toNat
theorem adA_is {n0 : Int} {L : Nat → Int} {l j : Nat} (hf : Frs L l n0) (hj : 1 + j / 8 < l) : (adA L j : Int) = L (1 + j / 8) * 8 + ((j % 8 : Nat) : Int) := by
  have := hf _ hj
  unfold adA
  omega
theorem adA_ne {n0 : Int} {L : Nat → Int} {l i j : Nat} (hf : Frs L l n0) (ht : ¬ Twice L l) (hi : i < j) (hj : 1 + j / 8 < l) : adA L i ≠ adA L j := fun e => by
  have h1 := adA_is hf (j := i) (by omega)
  have h2 := adA_is hf hj
  have h3 := onc_frag_ne ht (i := 8 + j) (k := 8 + i) (by omega) (by omega)
  rw [show (8 + i) / 8 = 1 + i / 8 by omega, show (8 + i) % 8 = i % 8 by omega, show (8 + j) / 8 = 1 + j / 8 by omega, show (8 + j) % 8 = j % 8 by omega, ← h1, ← h2, e] at h3
  exact h3 rfl

theorem findEach_any (n0 n1 n2 n3 n4 n5 n6 n7 : Int) (sx : Option Addr) (sl sc : Nat) (S : Nat → Sh) (R : Nat → Nat → Bool) (kind n : Int) (x : Option Addr) (l c : Nat) (L : Nat → Int) (at' : Int) (w : World) (hS : Shps w sx sl S) (hR : ∀ i, i < sl → Refs w (S i).x (S i).l (R i)) (hZ : ∀ i, i < sl → (S i).l ≤ 140737488351232) (hc : l ≤ c) (hL : Ints w x l L) :
    Calls Try.prog 7 #[.agg #[.int .i64 n0, .int .i64 n1, .int .i64 n2, .int .i64 n3, .int .i64 n4, .int .i64 n5, .int .i64 n6, .int .i64 n7, .slice sx sl sc], .int .i64 kind, .int .i64 n, .slice x l c, .int .i64 at'] w fun e w' => e = .returned (.bool true) ∧ Kept w w' := by
  have hx : Rdf w x l L := fun h0 => hL.at h0
  by_cases hk : kind < 0 ∨ (sl : Int) ≤ kind
  · exact each_out n0 n1 n2 n3 n4 n5 n6 n7 sx sl sc S kind n x l c at' w hS hk
  obtain ⟨k, rfl⟩ : ∃ k : Nat, kind = k := ⟨kind.toNat, by omega⟩
  have hks : k < sl := by omega
  by_cases hm : Small sl S
  case neg => exact each_early n0 n1 n2 n3 n4 n5 n6 n7 sx sl sc S R k n x l c at' w hS hR hks (hZ k hks) (.inl hm)
  by_cases hl : l ≤ 200
  case neg => exact each_early n0 n1 n2 n3 n4 n5 n6 n7 sx sl sc S R k n x l c at' w hS hR hks (hZ k hks) (.inr (by omega))
  cases hab : (S k).arr
  · obtain ⟨r, hr⟩ := Asks.some (AG n0 n1 n2 n3 n4 n5 n6 n7 sl S L l) (AK sl S k false) (AI S k 0 false) (AF S k 0 false L l)
    by_cases hr0 : r = 0
    case neg =>
      exact each_obj_no n0 n1 n2 n3 n4 n5 n6 n7 sx sl sc S R k n x l c at' w hS hR hks (hZ k hks) hm hl hab r (fun w' q => object_no n0 n1 n2 n3 n4 n5 n6 n7 sx sl sc S R k (c := c) r w' (hS.kept q) (fun i hi => (hR i hi).kept q) (by omega) hc (hx.kept q) hr hr0) hr0
    subst hr0
    obtain ⟨⟨hg, hfr⟩, _, _, hsz, htw⟩ := hr.zero
    have hsz : (l : Int) = 1 + ((S k).l : Int) / 7 := hsz
    obtain ⟨f0, f1, f2, f3⟩ := fits_nn hg.1
    have hn' : (((8 * n0 + 2 * n1 + n2).toNat : Nat) : Int) = 8 * n0 + 2 * n1 + n2 := Int.toNat_of_nonneg (by omega)
    obtain ⟨hA, hH⟩ := obj_laid (k : Int) (R k) (S k).l hfr htw f1 f2 hn'
    have h40 := may_few (hg.2.2.2 k hks)
    refine each_obj_yes n0 n1 n2 n3 n4 n5 n6 n7 sx sl sc S R k n x l c L at' w hS hR hks (hZ k hks) hm hl hab (8 * l) (objF k (R k) L l (S k).l) (fun w' q => object_yes n0 n1 n2 n3 n4 n5 n6 n7 sx sl sc S R k (c := c) w' (hS.kept q) (fun i hi => (hR i hi).kept q) (by omega) hc (hx.kept q) hr) (by omega) (by omega) hg _ hn' hA hx (by omega) (hfr 0 (by omega)) (S k).l rfl (by omega) (fun j hj => by omega) (adO L) (fun j hj => adO_is hfr (by omega)) (fun i j hi hj => adO_ne hfr htw hi (by omega)) fun t ht p E hE => ?_
    by_cases hto : t = 0 ∨ t = (S k).l + 1
    · obtain ⟨St, h1, h2, h3, h4⟩ := goes_field_out (p := p) hE hks hab (by omega) hH (nth := (t : Int) - 1) (by omega)
      exact ⟨1, St, h1, h2, fun _ => ⟨h3, h4⟩, fun j hj hjm => absurd hto (by omega)⟩
    · obtain ⟨j, rfl⟩ : ∃ j, t = j + 1 := ⟨t - 1, by omega⟩
      obtain ⟨T, St, a, h1, h2, h3, h4, h5⟩ := goes_field (p := p) hE hks hab hsz h40 hfr hH (m := j) (by omega)
      refine ⟨T, St, h1, by rw [h2, show (((j + 1 : Nat) : Int) - 1) = (j : Int) by omega], fun q => absurd q hto, fun i hi hjm => ?_⟩
      obtain rfl : j = i := by omega
      have ea : a = adO L j := by
        have := adO_is hfr (j := j) (by omega)
        rw [← h5] at this
        omega
      refine ⟨?_, ea ▸ h4⟩
      rw [h3]
      show (if sideU L l = true then 1 else 1 + (j + 1) / 7) ≤ 1 + (j + 1) / 7
      split <;> omega
  · obtain ⟨r0, hr0⟩ := Asks.some (AG n0 n1 n2 n3 n4 n5 n6 n7 sl S L l) (AK sl S k false) (AI S k 0 false) (AF S k 0 false L l)
    have hr00 : r0 ≠ 0 := fun q => by
      subst q
      have := hr0.zero.2.1.2.2
      rw [Int.toNat_natCast, hab] at this
      cases this
    have CO : ∀ w', Kept w w' → Calls Try.prog 12 #[.agg #[.int .i64 n0, .int .i64 n1, .int .i64 n2, .int .i64 n3, .int .i64 n4, .int .i64 n5, .int .i64 n6, .int .i64 n7, .slice sx sl sc], .int .i64 k, .slice x l c] w' fun e w'' => e = .returned (.tuple #[.slice none 0 0, .int .i64 r0]) ∧ Kept w' w'' := fun w' q => object_no n0 n1 n2 n3 n4 n5 n6 n7 sx sl sc S R k (c := c) r0 w' (hS.kept q) (fun i hi => (hR i hi).kept q) (by omega) hc (hx.kept q) hr0 hr00
    obtain ⟨r, hr⟩ := Asks.some (AG n0 n1 n2 n3 n4 n5 n6 n7 sl S L l) (AK sl S k true) (AI S k n true) (AF S k n true L l)
    by_cases hrz : r = 0
    case neg =>
      exact each_arr_no n0 n1 n2 n3 n4 n5 n6 n7 sx sl sc S R k n x l c at' w hS hR hks (hZ k hks) hm hl hab r0 CO r (fun w' q => array_no n0 n1 n2 n3 n4 n5 n6 n7 sx sl sc S R k n (c := c) at' r w' (hS.kept q) (fun i hi => (hR i hi).kept q) (by omega) hc (hx.kept q) hr hrz) hrz
    subst hrz
    by_cases hF : modeA n L l = 1 → Fit n0 n1 at' (l + 1)
    case neg =>
      have h1 : modeA n L l = 1 := Classical.byContradiction fun q => hF fun q2 => absurd q2 q
      exact each_arr_no n0 n1 n2 n3 n4 n5 n6 n7 sx sl sc S R k n x l c at' w hS hR hks (hZ k hks) hm hl hab r0 CO 2 (fun w' q => array_bad n0 n1 n2 n3 n4 n5 n6 n7 sx sl sc S R k n (c := c) at' w' (hS.kept q) (fun i hi => (hR i hi).kept q) (by omega) hc (hx.kept q) hr h1 (fun q => hF fun _ => q)) (by decide)
    obtain ⟨⟨hg, hfr⟩, _, hai, hsz, htw⟩ := hr.zero
    have hsz : (l : Int) = arrSize n := hsz
    have hai : 0 ≤ arrSize n := hai
    have hl1 : 1 ≤ l := by
      unfold arrSize at hsz hai
      split at hsz
      · omega
      · have := dat_lo n; omega
    have hsp : spN n L l ≤ l + 1 := by unfold spN; split <;> omega
    obtain ⟨f0, f1, f2, f3⟩ := fits_nn hg.1
    have hn' : (((8 * n0 + 2 * n1 + n2).toNat : Nat) : Int) = 8 * n0 + 2 * n1 + n2 := Int.toNat_of_nonneg (by omega)
    obtain ⟨hA, hH⟩ := arr_laid (k : Int) n (R k) at' hfr htw f0 f1 f2 hn' hF
    have hnr : 0 ≤ n ∧ n ≤ 512 := by
      unfold arrSize at hai
      split at hai
      · omega
      · omega
    obtain ⟨mn, rfl⟩ : ∃ mn : Nat, n = mn := ⟨n.toNat, by omega⟩
    have hdt : (l : Int) = 1 + dat (mn : Int) := by
      unfold arrSize at hsz
      rw [if_neg (by omega)] at hsz
      exact hsz
    have hdd : ∀ j, j < mn → 1 + j / 8 < l := fun j hj => by
      unfold dat at hdt
      rw [if_neg (by omega)] at hdt
      omega
    refine each_arr_yes n0 n1 n2 n3 n4 n5 n6 n7 sx sl sc S R k mn x l c L at' w hS hR hks (hZ k hks) hm hl hab r0 CO (8 * l + spN mn L l) (arrF k mn (modeA mn L l) (R k) L l at') (fun w' q => array_yes n0 n1 n2 n3 n4 n5 n6 n7 sx sl sc S R k mn (c := c) at' w' (hS.kept q) (fun i hi => (hR i hi).kept q) (by omega) hc (hx.kept q) hr hF) (by omega) (by omega) hg _ hn' hA hx (by omega) (hfr 0 (by omega)) mn rfl (by omega) hdd (adA L) (fun j hj => adA_is hfr (hdd j hj)) (fun i j hi hj => adA_ne hfr htw hi (hdd j hj)) fun t ht p E hE => ?_
    by_cases hto : t = 0 ∨ t = mn + 1
    · obtain ⟨St, h1, h2, h3, h4⟩ := goes_elem_out (p := p) hE hks hab hl1 (by omega) hnr hfr hH (nth := (t : Int) - 1) (by omega)
      exact ⟨2, St, h1, h2, fun _ => ⟨h3, h4⟩, fun j hj hjm => absurd hto (by omega)⟩
    · obtain ⟨j, rfl⟩ : ∃ j, t = j + 1 := ⟨t - 1, by omega⟩
      obtain ⟨T, St, a, h1, h2, h3, h4, h5⟩ := goes_elem (p := p) hE hks hab hnr hdt hfr hF hH (m := j) (by omega)
      refine ⟨T, St, h1, by rw [h2, show (((j + 1 : Nat) : Int) - 1) = (j : Int) by omega], fun q => absurd q hto, fun i hi hjm => ?_⟩
      obtain rfl : j = i := by omega
      have ea : a = adA L j := by
        have := adA_is hfr (j := j) (hdd j hjm)
        rw [← h5] at this
        omega
      refine ⟨?_, ea ▸ h4⟩
      rw [h3]
      show (if modeA (mn : Int) L l = 1 then 5 else 4) ≤ 5
      split <;> omega
end Go.Proofs.Ytpdclckgnajcdaa
