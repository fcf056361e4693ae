/-
  The walk of PlanModes: its ways together.
-/
import Derived.Test.YtpdclckgnajcdaaModes0
import Derived.Test.YtpdclckgnajcdaaModes1
import Derived.Test.YtpdclckgnajcdaaModes2
import Derived.Test.YtpdclckgnajcdaaOpen12
namespace Go.Proofs.Ytpdclckgnajcdaa
open Go.RowKit

theorem planModes_any (n0 n1 n2 n3 n4 n5 n6 n7 : Int) (sx : Option Addr) (sl sc : Nat) (S : Nat → Sh) (R : Nat → Nat → Bool) (kind n : Int) (x : Option Addr) (l c : Nat) (L : Nat → Int) (at' : Int) (w : World) (hS : Shps w sx sl S) (hR : ∀ i, i < sl → Refs w (S i).x (S i).l (R i)) (hZ : ∀ i, i < sl → (S i).l ≤ 140737488351232) (hc : l ≤ c) (hL : Ints w x l L) :
    Calls Try.prog 5 #[.agg #[.int .i64 n0, .int .i64 n1, .int .i64 n2, .int .i64 n3, .int .i64 n4, .int .i64 n5, .int .i64 n6, .int .i64 n7, .slice sx sl sc], .int .i64 kind, .int .i64 n, .slice x l c, .int .i64 at'] w fun e w' => e = .returned (.bool true) ∧ Kept w w' := by
  have hx : Rdf w x l L := fun h0 => hL.at h0
  by_cases hk : kind < 0 ∨ (sl : Int) ≤ kind
  · exact modes_out n0 n1 n2 n3 n4 n5 n6 n7 sx sl sc S kind n x l c at' w hS hk
  obtain ⟨k, rfl⟩ : ∃ k : Nat, kind = k := ⟨kind.toNat, by omega⟩
  have hks : k < sl := by omega
  by_cases hm : Small sl S
  case neg => exact modes_early n0 n1 n2 n3 n4 n5 n6 n7 sx sl sc S R k n x l c at' w hS hR hks (hZ k hks) (.inl hm)
  cases hab : (S k).arr
  · exact modes_early n0 n1 n2 n3 n4 n5 n6 n7 sx sl sc S R k n x l c at' w hS hR hks (hZ k hks) (.inr (.inl hab))
  by_cases hl : l ≤ 200
  case neg => exact modes_early n0 n1 n2 n3 n4 n5 n6 n7 sx sl sc S R k n x l c at' w hS hR hks (hZ k hks) (.inr (.inr (by omega)))
  obtain ⟨r, hr⟩ := Asks.some (AG n0 n1 n2 n3 n4 n5 n6 n7 sl S L l) (AK sl S k true) (AI S k n true) (AF S k n true L l)
  by_cases hr0 : r = 0
  case neg => exact modes_no n0 n1 n2 n3 n4 n5 n6 n7 sx sl sc S R k n x l c L at' w hS hR hc hx hks (hZ k hks) hm hab hl r hr hr0
  subst hr0
  have hm3 : modeA n L l = 0 ∨ modeA n L l = 1 ∨ modeA n L l = 2 := by unfold modeA; split <;> (try split) <;> simp
  rcases hm3 with h | h | h
  · exact modes_0 n0 n1 n2 n3 n4 n5 n6 n7 sx sl sc S R k n x l c L at' w hS hR hc hx hks (hZ k hks) hm hab hl hr h
  · by_cases hF : Fit n0 n1 at' (l + 1)
    · exact modes_1 n0 n1 n2 n3 n4 n5 n6 n7 sx sl sc S R k n x l c L at' w hS hR hc hx hks (hZ k hks) hm hab hl hr h hF
    · exact modes_bad n0 n1 n2 n3 n4 n5 n6 n7 sx sl sc S R k n x l c L at' w hS hR hc hx hks (hZ k hks) hm hab hl hr h hF
  · exact modes_2 n0 n1 n2 n3 n4 n5 n6 n7 sx sl sc S R k n x l c L at' w hS hR hc hx hks (hZ k hks) hm hab hl hr h
end Go.Proofs.Ytpdclckgnajcdaa
