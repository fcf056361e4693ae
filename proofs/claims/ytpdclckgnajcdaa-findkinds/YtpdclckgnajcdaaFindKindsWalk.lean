/-
  The walk of FindKinds: its ways together.
-/
import Derived.Test.YtpdclckgnajcdaaKinds13
import Derived.Test.YtpdclckgnajcdaaLaid13
import Derived.Test.YtpdclckgnajcdaaOpen12
namespace Go.Proofs.Ytpdclckgnajcdaa
open Go.RowKit

theorem findKinds_any (n0 n1 n2 n3 n4 n5 n6 n7 : Int) (sx : Option Addr) (sl sc : Nat) (S : Nat → Sh) (R : Nat → Nat → Bool) (kind n : Int) (x : Option Addr) (l c : Nat) (L : Nat → Int) (at' kk : Int) (w : World) (hS : Shps w sx sl S) (hR : ∀ i, i < sl → Refs w (S i).x (S i).l (R i)) (hZ : ∀ i, i < sl → (S i).l ≤ 140737488351232) (hc : l ≤ c) (hL : Ints w x l L) :
    Calls Try.prog 9 #[.agg #[.int .i64 n0, .int .i64 n1, .int .i64 n2, .int .i64 n3, .int .i64 n4, .int .i64 n5, .int .i64 n6, .int .i64 n7, .slice sx sl sc], .int .i64 kind, .int .i64 n, .slice x l c, .int .i64 at', .int .i64 kk] w fun e w' => e = .returned (.bool true) ∧ Kept w w' := by
  have hx : Rdf w x l L := fun h0 => hL.at h0
  by_cases hk : kind < 0 ∨ (sl : Int) ≤ kind
  · exact kinds_out n0 n1 n2 n3 n4 n5 n6 n7 sx sl sc S kind n x l c at' kk w hS hk
  obtain ⟨k, rfl⟩ : ∃ k : Nat, kind = k := ⟨kind.toNat, by omega⟩
  have hks : k < sl := by omega
  by_cases hm : Small sl S
  case neg => exact kinds_early n0 n1 n2 n3 n4 n5 n6 n7 sx sl sc S R k n x l c at' kk w hS hR hks (hZ k hks) (.inl hm)
  by_cases hl : l ≤ 200
  case neg => exact kinds_early n0 n1 n2 n3 n4 n5 n6 n7 sx sl sc S R k n x l c at' kk w hS hR hks (hZ k hks) (.inr (by omega))
  cases hab : (S k).arr
  · obtain ⟨r, hr⟩ := Asks.some (AG n0 n1 n2 n3 n4 n5 n6 n7 sl S L l) (AK sl S k false) (AI S k 0 false) (AF S k 0 false L l)
    by_cases hr0 : r = 0
    case neg =>
      exact kinds_obj_no n0 n1 n2 n3 n4 n5 n6 n7 sx sl sc S R k n x l c at' kk w hS hR hks (hZ k hks) hm hl hab r (fun w' q => object_no n0 n1 n2 n3 n4 n5 n6 n7 sx sl sc S R k (c := c) r w' (hS.kept q) (fun i hi => (hR i hi).kept q) (by omega) hc (hx.kept q) hr hr0) hr0
    subst hr0
    obtain ⟨⟨hg, hfr⟩, _, _, hsz, htw⟩ := hr.zero
    have hsz : (l : Int) = 1 + ((S k).l : Int) / 7 := hsz
    obtain ⟨f0, f1, f2, f3⟩ := fits_nn hg.1
    have hn' : (((8 * n0 + 2 * n1 + n2).toNat : Nat) : Int) = 8 * n0 + 2 * n1 + n2 := Int.toNat_of_nonneg (by omega)
    obtain ⟨hA, hH⟩ := obj_laid (k : Int) (R k) (S k).l hfr htw f1 f2 hn'
    refine kinds_obj_yes n0 n1 n2 n3 n4 n5 n6 n7 sx sl sc S R k n x l c L at' kk w hS hR hks (hZ k hks) hm hl hab (8 * l) (objF k (R k) L l (S k).l) (fun w' q => object_yes n0 n1 n2 n3 n4 n5 n6 n7 sx sl sc S R k (c := c) w' (hS.kept q) (fun i hi => (hR i hi).kept q) (by omega) hc (hx.kept q) hr) (by omega) (by omega) hg _ hn' hA hx (by omega) (hfr 0 (by omega)) fun p E hE => ?_
    obtain ⟨a, han, hxa, hza⟩ := hH (8 * 0 + 1) (by omega)
    rw [(objF_at k (R k) L l (S k).l 0 1 (by omega)).1] at hxa
    rw [(objF_at k (R k) L l (S k).l 0 1 (by omega)).2] at hza
    exact goes_kind_e hE hks hab (m := modeO L l) (by unfold modeO; split <;> omega) hxa han hza
  · obtain ⟨r0, hr0⟩ := Asks.some (AG n0 n1 n2 n3 n4 n5 n6 n7 sl S L l) (AK sl S k false) (AI S k 0 false) (AF S k 0 false L l)
    have hr00 : r0 ≠ 0 := fun q => by
      subst q
      have := hr0.zero.2.1.2.2
      rw [Int.toNat_natCast, hab] at this
      cases this
    have CO : ∀ w', Kept w w' → Calls Try.prog 12 #[.agg #[.int .i64 n0, .int .i64 n1, .int .i64 n2, .int .i64 n3, .int .i64 n4, .int .i64 n5, .int .i64 n6, .int .i64 n7, .slice sx sl sc], .int .i64 k, .slice x l c] w' fun e w'' => e = .returned (.tuple #[.slice none 0 0, .int .i64 r0]) ∧ Kept w' w'' := fun w' q => object_no n0 n1 n2 n3 n4 n5 n6 n7 sx sl sc S R k (c := c) r0 w' (hS.kept q) (fun i hi => (hR i hi).kept q) (by omega) hc (hx.kept q) hr0 hr00
    obtain ⟨r, hr⟩ := Asks.some (AG n0 n1 n2 n3 n4 n5 n6 n7 sl S L l) (AK sl S k true) (AI S k n true) (AF S k n true L l)
    by_cases hrz : r = 0
    case neg =>
      exact kinds_arr_no n0 n1 n2 n3 n4 n5 n6 n7 sx sl sc S R k n x l c at' kk w hS hR hks (hZ k hks) hm hl hab r0 CO r (fun w' q => array_no n0 n1 n2 n3 n4 n5 n6 n7 sx sl sc S R k n (c := c) at' r w' (hS.kept q) (fun i hi => (hR i hi).kept q) (by omega) hc (hx.kept q) hr hrz) hrz
    subst hrz
    by_cases hF : modeA n L l = 1 → Fit n0 n1 at' (l + 1)
    case neg =>
      have h1 : modeA n L l = 1 := Classical.byContradiction fun q => hF fun q2 => absurd q2 q
      exact kinds_arr_no n0 n1 n2 n3 n4 n5 n6 n7 sx sl sc S R k n x l c at' kk w hS hR hks (hZ k hks) hm hl hab r0 CO 2 (fun w' q => array_bad n0 n1 n2 n3 n4 n5 n6 n7 sx sl sc S R k n (c := c) at' w' (hS.kept q) (fun i hi => (hR i hi).kept q) (by omega) hc (hx.kept q) hr h1 (fun q => hF fun _ => q)) (by decide)
    obtain ⟨⟨hg, hfr⟩, _, hai, hsz, htw⟩ := hr.zero
    have hsz : (l : Int) = arrSize n := hsz
    have hai : 0 ≤ arrSize n := hai
    have hl1 : 1 ≤ l := by
      unfold arrSize at hsz hai
      split at hsz
      · omega
      · have := dat_lo n; omega
    have hsp : spN n L l ≤ l + 1 := by unfold spN; split <;> omega
    obtain ⟨f0, f1, f2, f3⟩ := fits_nn hg.1
    have hn' : (((8 * n0 + 2 * n1 + n2).toNat : Nat) : Int) = 8 * n0 + 2 * n1 + n2 := Int.toNat_of_nonneg (by omega)
    obtain ⟨hA, hH⟩ := arr_laid (k : Int) n (R k) at' hfr htw f0 f1 f2 hn' hF
    refine kinds_arr_yes n0 n1 n2 n3 n4 n5 n6 n7 sx sl sc S R k n x l c L at' kk w hS hR hks (hZ k hks) hm hl hab r0 CO (8 * l + spN n L l) (arrF k n (modeA n L l) (R k) L l at') (fun w' q => array_yes n0 n1 n2 n3 n4 n5 n6 n7 sx sl sc S R k n (c := c) at' w' (hS.kept q) (fun i hi => (hR i hi).kept q) (by omega) hc (hx.kept q) hr hF) (by omega) (by omega) hg _ hn' hA hx (by omega) (hfr 0 (by omega)) fun p E hE => ?_
    obtain ⟨a, han, hxa, hza⟩ := hH (8 * 0 + 1) (by omega)
    rw [(arrF_at k n (modeA n L l) (R k) L l at' 0 1 (by omega) (by omega)).1] at hxa
    rw [(arrF_at k n (modeA n L l) (R k) L l at' 0 1 (by omega) (by omega)).2] at hza
    exact goes_kind_f hE hks hab hxa han hza
end Go.Proofs.Ytpdclckgnajcdaa
