/-
  The walk of PlanOnce: its ways together.
-/
import Derived.Test.YtpdclckgnajcdaaOnceB
import Derived.Test.YtpdclckgnajcdaaOnceC
import Derived.Test.YtpdclckgnajcdaaOnceD
import Derived.Test.YtpdclckgnajcdaaOpen12
namespace Go.Proofs.Ytpdclckgnajcdaa
open Go.RowKit

theorem planOnce_any (n0 n1 n2 n3 n4 n5 n6 n7 : Int) (sx : Option Addr) (sl sc : Nat) (S : Nat → Sh) (R : Nat → Nat → Bool) (kind n : Int) (x : Option Addr) (l c : Nat) (L : Nat → Int) (at' : Int) (w : World) (hS : Shps w sx sl S) (hR : ∀ i, i < sl → Refs w (S i).x (S i).l (R i)) (hc : l ≤ c) (hL : Ints w x l L)
    (hlo : IntKind.min .i64 ≤ at') (hhi : at' ≤ IntKind.max .i64) :
    Calls Try.prog 4 #[.agg #[.int .i64 n0, .int .i64 n1, .int .i64 n2, .int .i64 n3, .int .i64 n4, .int .i64 n5, .int .i64 n6, .int .i64 n7, .slice sx sl sc], .int .i64 kind, .int .i64 n, .slice x l c, .int .i64 at'] w fun e w' => e = .returned (.bool true) ∧ Kept w w' := by
  have hx : Rdf w x l L := fun h0 => hL.at h0
  have hat := bnd ⟨hlo, hhi⟩
  by_cases hm : Small sl S
  case neg => exact once_early n0 n1 n2 n3 n4 n5 n6 n7 sx sl sc S kind n x l c at' w hS (.inl hm)
  by_cases hg : Good n0 n1 n2 n3 n4 n5 n6 n7 sl S
  case neg => exact once_early n0 n1 n2 n3 n4 n5 n6 n7 sx sl sc S kind n x l c at' w hS (.inr (.inl hg))
  by_cases hl : l ≤ 200
  case neg => exact once_early n0 n1 n2 n3 n4 n5 n6 n7 sx sl sc S kind n x l c at' w hS (.inr (.inr (by omega)))
  by_cases hk : kind < 0 ∨ (sl : Int) ≤ kind
  · exact once_out n0 n1 n2 n3 n4 n5 n6 n7 sx sl sc S R kind n x l c L at' w hS hR hc hx hm hg hl hk
  obtain ⟨k, rfl⟩ : ∃ k : Nat, kind = k := ⟨kind.toNat, by omega⟩
  have hks : k < sl := by omega
  cases hab : (S k).arr
  · obtain ⟨r, hr⟩ := Asks.some (AG n0 n1 n2 n3 n4 n5 n6 n7 sl S L l) (AK sl S k false) (AI S k 0 false) (AF S k 0 false L l)
    by_cases hr0 : r = 0
    · subst hr0
      exact once_obj_yes n0 n1 n2 n3 n4 n5 n6 n7 sx sl sc S R k n x l c L at' w hS hR hc hx hm hg hl hks hab hr hat
    · exact once_obj_no n0 n1 n2 n3 n4 n5 n6 n7 sx sl sc S R k n x l c L at' w hS hR hc hx hm hg hl hks hab r hr hr0
  · obtain ⟨r, hr⟩ := Asks.some (AG n0 n1 n2 n3 n4 n5 n6 n7 sl S L l) (AK sl S k true) (AI S k n true) (AF S k n true L l)
    by_cases hr0 : r = 0
    · subst hr0
      by_cases hm1 : modeA n L l = 1
      · by_cases hF : Fit n0 n1 at' (l + 1)
        · exact once_arr_1 n0 n1 n2 n3 n4 n5 n6 n7 sx sl sc S R k n x l c L at' w hS hR hc hx hm hg hl hks hab hr hm1 hF
        · exact once_arr_bad n0 n1 n2 n3 n4 n5 n6 n7 sx sl sc S R k n x l c L at' w hS hR hc hx hm hg hl hks hab hr hm1 hF
      · exact once_arr_0 n0 n1 n2 n3 n4 n5 n6 n7 sx sl sc S R k n x l c L at' w hS hR hc hx hm hg hl hks hab hr hm1 hat
    · exact once_arr_no n0 n1 n2 n3 n4 n5 n6 n7 sx sl sc S R k n x l c L at' w hS hR hc hx hm hg hl hks hab r hr hr0
end Go.Proofs.Ytpdclckgnajcdaa
