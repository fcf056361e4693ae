/-
  The walk of FindFar: its ways together.
-/
import Derived.Test.YtpdclckgnajcdaaFar13
import Derived.Test.YtpdclckgnajcdaaLaid13
import Derived.Test.YtpdclckgnajcdaaOpen12
namespace Go.Proofs.Ytpdclckgnajcdaa
open Go.RowKit

theorem findFar_any (n0 n1 n2 n3 n4 n5 n6 n7 : Int) (sx : Option Addr) (sl sc : Nat) (S : Nat → Sh) (R : Nat → Nat → Bool) (kind : Int) (x : Option Addr) (l c : Nat) (L : Nat → Int) (w : World) (hS : Shps w sx sl S) (hR : ∀ i, i < sl → Refs w (S i).x (S i).l (R i)) (hZ : ∀ i, i < sl → (S i).l ≤ 140737488351232) (hc : l ≤ c) (hL : Ints w x l L) (hB : ∀ j, j < l → IntKind.min .i64 ≤ L j ∧ L j ≤ IntKind.max .i64) :
    Calls Try.prog 8 #[.agg #[.int .i64 n0, .int .i64 n1, .int .i64 n2, .int .i64 n3, .int .i64 n4, .int .i64 n5, .int .i64 n6, .int .i64 n7, .slice sx sl sc], .int .i64 kind, .slice x l c] w fun e w' => e = .returned (.bool true) ∧ Kept w w' := by
  have hx : Rdf w x l L := fun h0 => hL.at h0
  by_cases hk : kind < 0 ∨ (sl : Int) ≤ kind
  · exact far_out n0 n1 n2 n3 n4 n5 n6 n7 sx sl sc S kind x l c w hS hk
  obtain ⟨k, rfl⟩ : ∃ k : Nat, kind = k := ⟨kind.toNat, by omega⟩
  have hks : k < sl := by omega
  by_cases hm : Small sl S
  case neg => exact far_early n0 n1 n2 n3 n4 n5 n6 n7 sx sl sc S R k x l c w hS hR hks (hZ k hks) (.inl hm)
  cases hab : (S k).arr
  case true => exact far_early n0 n1 n2 n3 n4 n5 n6 n7 sx sl sc S R k x l c w hS hR hks (hZ k hks) (.inr (.inl hab))
  by_cases hl : l ≤ 200
  case neg => exact far_early n0 n1 n2 n3 n4 n5 n6 n7 sx sl sc S R k x l c w hS hR hks (hZ k hks) (.inr (.inr (by omega)))
  obtain ⟨r, hr⟩ := Asks.some (AG n0 n1 n2 n3 n4 n5 n6 n7 sl S L l) (AK sl S k false) (AI S k 0 false) (AF S k 0 false L l)
  by_cases hr0 : r = 0
  case neg =>
    exact far_obj_no n0 n1 n2 n3 n4 n5 n6 n7 sx sl sc S R k x l c w hS hR hks (hZ k hks) hm hl hab r (fun w' q => object_no n0 n1 n2 n3 n4 n5 n6 n7 sx sl sc S R k (c := c) r w' (hS.kept q) (fun i hi => (hR i hi).kept q) (by omega) hc (hx.kept q) hr hr0) hr0
  subst hr0
  obtain ⟨⟨hg, hfr⟩, _, _, hsz, htw⟩ := hr.zero
  have hsz : (l : Int) = 1 + ((S k).l : Int) / 7 := hsz
  obtain ⟨f0, f1, f2, f3⟩ := fits_nn hg.1
  have hn' : (((8 * n0 + 2 * n1 + n2).toNat : Nat) : Int) = 8 * n0 + 2 * n1 + n2 := Int.toNat_of_nonneg (by omega)
  obtain ⟨hA, hH⟩ := obj_laid (k : Int) (R k) (S k).l hfr htw f1 f2 hn'
  refine far_obj_yes n0 n1 n2 n3 n4 n5 n6 n7 sx sl sc S R k x l c L w hS hR hks (hZ k hks) hm hl hab (8 * l) (objF k (R k) L l (S k).l) (fun w' q => object_yes n0 n1 n2 n3 n4 n5 n6 n7 sx sl sc S R k (c := c) w' (hS.kept q) (fun i hi => (hR i hi).kept q) (by omega) hc (hx.kept q) hr) (by omega) (by omega) hg _ hn' hA hx (by omega) (hfr 0 (by omega)) (fun j hj p E hE => ?_) hB
  obtain ⟨T, St, a, h1, h2, h3, _⟩ := goes_field (p := p) hE hks hab hsz (may_few (hg.2.2.2 k hks)) hfr hH hj
  exact ⟨T, St, h1, h2, h3⟩
end Go.Proofs.Ytpdclckgnajcdaa
