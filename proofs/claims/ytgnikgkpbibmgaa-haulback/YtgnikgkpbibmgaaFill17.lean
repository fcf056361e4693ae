/-
  An empty memory of the law's own; writes of one plan are of different words.
-/
import Derived.Test.YtgnikgkpbibmgaaMem13
import Derived.Test.YtgnikgkpbibmgaaRef512
import Derived.Test.YtgnikgkpbibmgaaCx17
namespace Go.Proofs.Ytgnikgkpbibmgaa
open Go.RowKit

set_option maxHeartbeats 1000000 in
theorem fill_nil (n0 n1 n2 n3 n4 n5 n6 n7 : Int) (sx : Option Addr) (sl sc : Nat) (S : Nat → Sh) (v : Nat) (w : World) (hS : Shps w sx sl S) (hv : Is (Good n0 n1 n2 n3 n4 n5 n6 n7 sl S) (8 * n0 + 2 * n1 + n2) v) (hb : v ≤ 100000) :
    Calls Try.prog 7 #[.agg #[.int .i64 n0, .int .i64 n1, .int .i64 n2, .int .i64 n3, .int .i64 n4, .int .i64 n5, .int .i64 n6, .int .i64 n7, .slice sx sl sc], .slice none 0 0] w fun e w' => ∃ b M, e = .returned (.pointer (some ⟨M, 0, none⟩)) ∧ Mm w' b M v (fun _ => cz) 0 ∧ Kept w w' ∧ w.heap.size ≤ b ∧ w.heap.size ≤ M := by
  have C0 : Hid (∀ w', Kept w w' → Calls Try.prog 32 #[.agg #[.int .i64 n0, .int .i64 n1, .int .i64 n2, .int .i64 n3, .int .i64 n4, .int .i64 n5, .int .i64 n6, .int .i64 n7, .slice sx sl sc]] w' _) := fun w' k => ref_words n0 n1 n2 n3 n4 n5 n6 n7 sx sl sc S v w' (hS.kept k) hv
  clear hS hv
  go_enter Try.func7, Try.ntmps7
  go_wp2_with fail
  refine (C0.out _ ((Kept.refl w).alloc _ _)).mono ?_
  rintro e w1 ⟨rfl, K1⟩
  go_wp2_with fail
  refine (mem_new v _ (by omega)).mono ?_
  rintro e w2 ⟨b, M, rfl, HM, K2, hb1, hM1⟩
  have HH : Hid (Mm w2 b M v (fun _ => cz) 0 ∧ Kept w w2 ∧ w.heap.size ≤ b ∧ w.heap.size ≤ M) := ⟨HM, K1.ofAlloc.trans K2, by have := K1.ofAlloc.size; omega, by have := K1.ofAlloc.size; omega⟩
  clear HM K1 K2 hb1 hM1 C0
  go_wp2
  go_loopg [7] 0 (fun _ i wr => i = .int .i64 0 ∧ Hid (wr = w2))
  case atStart => exact ⟨rfl, rfl⟩
  case round =>
    obtain ⟨rfl, hw⟩ := hrel
    have e := hw.out
    subst e
    clear hw
    go_wp2
    go_ret
    exact ⟨b, M, rfl, HH.out.1, HH.out.2.1, HH.out.2.2.1, HH.out.2.2.2⟩

end Go.Proofs.Ytgnikgkpbibmgaa
