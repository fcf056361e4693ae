/-
  PoolOnce: all its arms together.
-/
import Derived.Test.YtpgmlnihgnomcaaPoolOnceWalk
namespace Go.Proofs.Ytpgmlnihgnomcaa

theorem poolOnce_any (n0 : Int) (x1 : Option Addr) (l1 c1 : Nat) (L1 : Nat → Op8) (w : World) (_lo0 : IntKind.min .i64 ≤ n0) (_hi0 : n0 ≤ IntKind.max .i64) (_h1c : l1 ≤ c1) (hL1 : Ops w x1 l1 L1) :
    Calls Try.prog 4 #[.int .i64 n0, .slice x1 l1 c1] w fun e w' => e = .returned (.bool true) ∧ Kept w w' := by
  by_cases hn : 0 ≤ n0 ∧ n0 ≤ 1024
  · obtain ⟨n, rfl⟩ : ∃ n : Nat, n0 = n := ⟨n0.toNat, by omega⟩
    by_cases ho : (l1 : Int) ≤ 300
    · exact once_in n x1 l1 c1 L1 w hL1 hn.2 ho
    · exact once_out n x1 l1 c1 w (by omega) (by omega)
  · exact once_bad n0 x1 l1 c1 w hn
end Go.Proofs.Ytpgmlnihgnomcaa
