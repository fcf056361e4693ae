/-
  The law SpaceServes: its early ways out, and the walk.
-/
import Derived.Test.YtahpnnjemjjfhaaSpaceServesIn
import Derived.Test.YtahpnnjemjjfhaaOpen12
namespace Go.Proofs.Ytahpnnjemjjfhaa
open Go.RowKit

set_option maxRecDepth 8000 in
set_option maxHeartbeats 8000000 in
theorem spaceServes_any (n0 : Int) (n1 : Int) (n2 : Int) (n3 : Int) (n4 : Int) (n5 : Int) (n6 : Int) (n7 : Int) (x8 : Option Addr) (l8 z8 : Nat) (S8 : Nat → Sh) (R8 : Nat → Nat → Bool) (x9 : Option Addr) (l9 z9 : Nat) (L9 : Nat → Op21) (w : World) (_lo0 : IntKind.min .i64 ≤ n0) (_hi0 : n0 ≤ IntKind.max .i64) (_lo1 : IntKind.min .i64 ≤ n1) (_hi1 : n1 ≤ IntKind.max .i64) (_lo2 : IntKind.min .i64 ≤ n2) (_hi2 : n2 ≤ IntKind.max .i64) (_lo3 : IntKind.min .i64 ≤ n3) (_hi3 : n3 ≤ IntKind.max .i64) (_lo4 : IntKind.min .i64 ≤ n4) (_hi4 : n4 ≤ IntKind.max .i64) (_lo5 : IntKind.min .i64 ≤ n5) (_hi5 : n5 ≤ IntKind.max .i64) (_lo6 : IntKind.min .i64 ≤ n6) (_hi6 : n6 ≤ IntKind.max .i64) (_lo7 : IntKind.min .i64 ≤ n7) (_hi7 : n7 ≤ IntKind.max .i64) (_h8c : l8 ≤ z8) (hS8 : Shps w x8 l8 S8) (hR8 : ∀ i, i < l8 → Refs w (S8 i).x (S8 i).l (R8 i)) (_h9c : l9 ≤ z9) (hL9 : Ops w x9 l9 L9) :
    Calls Try.prog 4 #[.agg #[.int .i64 n0, .int .i64 n1, .int .i64 n2, .int .i64 n3, .int .i64 n4, .int .i64 n5, .int .i64 n6, .int .i64 n7, .slice x8 l8 z8], .slice x9 l9 z9] w fun e w' => e = .returned (.bool true) ∧ Kept w w' := by
  clear _lo0 _hi0 _lo1 _hi1 _lo2 _hi2 _lo3 _hi3 _lo4 _hi4 _lo5 _hi5 _lo6 _hi6 _lo7 _hi7 _h8c _h9c
  by_cases hg : (Fits n0 n1 n2 n3 n4 n5 n6 n7 ∧ Mays l8 S8) ∧ l9 ≤ 300
  · obtain ⟨⟨hf, hm⟩, h9⟩ := hg
    obtain ⟨n, rfl⟩ := Int.eq_ofNat_of_zero_le (show 0 ≤ n0 by have := hf.1; omega)
    obtain ⟨s, rfl⟩ := Int.eq_ofNat_of_zero_le (show 0 ≤ n1 by have := hf.2.1; omega)
    obtain ⟨m, rfl⟩ := Int.eq_ofNat_of_zero_le (show 0 ≤ n3 by have := hf.2.2.2.2.2.1; omega)
    obtain ⟨ch, rfl⟩ := Int.eq_ofNat_of_zero_le (show 0 ≤ n5 by have := hf.2.2.2.2.2.2.2.1; omega)
    exact serves_in n s m ch n2 n4 n6 n7 x8 l8 z8 S8 R8 x9 l9 z9 L9 w hS8 hR8 hL9 h9 ⟨hf, hm⟩
  · obtain ⟨r, hr, _⟩ := Checks.some n0 n1 n2 n3 n4 n5 n6 n7 l8 S8
    obtain ⟨p, hp⟩ := bool_iff (Small l8 S8)
    have HS : Hid (Shps w x8 l8 S8) := hS8
    have HR : Hid (Checks n0 n1 n2 n3 n4 n5 n6 n7 l8 S8 r) := hr
    have HN : Hid (¬ ((Fits n0 n1 n2 n3 n4 n5 n6 n7 ∧ Mays l8 S8) ∧ l9 ≤ 300)) := hg
    have HP : Hid (p = true ↔ Small l8 S8) := hp
    clear hS8 hR8 hL9 hr hg hp
    go_enter Try.func4, Try.ntmps4
    go_wp2_with fail
    generalize hW : w.alloc _ = W0
    have H0 : Hid (Blk W0 w.heap.size [.int .i64 n0, .int .i64 n1, .int .i64 n2, .int .i64 n3, .int .i64 n4, .int .i64 n5, .int .i64 n6, .int .i64 n7, .slice x8 l8 z8] ∧ Kept w W0) := by
      rw [← hW]
      exact ⟨Blk.new w _ _, (Kept.refl w).alloc _ _⟩
    clear hW
    refine (first_any W0).mono ?_
    rintro e w1 ⟨rfl, k1⟩
    have H1 : Hid (Blk w1 w.heap.size [.int .i64 n0, .int .i64 n1, .int .i64 n2, .int .i64 n3, .int .i64 n4, .int .i64 n5, .int .i64 n6, .int .i64 n7, .slice x8 l8 z8] ∧ Kept w w1) := ⟨H0.out.1.kept k1, H0.out.2.trans k1⟩
    clear k1 H0
    have c0 := H1.out.1.at 0 rfl
    have c1 := H1.out.1.at 1 rfl
    have c2 := H1.out.1.at 2 rfl
    have c3 := H1.out.1.at 3 rfl
    have c4 := H1.out.1.at 4 rfl
    have c5 := H1.out.1.at 5 rfl
    have c6 := H1.out.1.at 6 rfl
    have c7 := H1.out.1.at 7 rfl
    have c8 := H1.out.1.at 8 rfl
    have C := few_any n0 n1 n2 n3 n4 n5 n6 n7 x8 l8 z8 S8 p w1 (HS.out.kept H1.out.2) HP.out
    go_wp2_with fail
    refine C.mono ?_
    rintro e w2 ⟨rfl, k2⟩
    have H2 : Hid (Blk w2 w.heap.size [.int .i64 n0, .int .i64 n1, .int .i64 n2, .int .i64 n3, .int .i64 n4, .int .i64 n5, .int .i64 n6, .int .i64 n7, .slice x8 l8 z8] ∧ Kept w w2) := ⟨H1.out.1.kept k2, H1.out.2.trans k2⟩
    clear k2 C H1 c0 c1 c2 c3 c4 c5 c6 c7 c8
    cases p with
    | false =>
      go_wp2_with fail
      refine (first_any w2).mono ?_
      rintro e wf ⟨rfl, kf⟩
      have HZ : Hid (Kept w wf) := H2.out.2.trans kf
      clear kf H2
      go_wp2
      go_ret
      exact ⟨rfl, HZ.out⟩
    | true =>
      by_cases hl : 300 < l9
      · have hli : (l9 : Int) > 300 := by omega
        clear hl
        go_wp2_with fail
        refine (first_any w2).mono ?_
        rintro e wf ⟨rfl, kf⟩
        have HZ : Hid (Kept w wf) := H2.out.2.trans kf
        clear kf H2
        go_wp2
        go_ret
        exact ⟨rfl, HZ.out⟩
      · have hli : ¬ (l9 : Int) > 300 := by omega
        have hr0 : (r != 0) = true := by
          rw [bne_iff_ne]
          intro q
          subst q
          exact HN.out ⟨HR.out.zero, by omega⟩
        clear hl
        have c0 := H2.out.1.at 0 rfl
        have c1 := H2.out.1.at 1 rfl
        have c2 := H2.out.1.at 2 rfl
        have c3 := H2.out.1.at 3 rfl
        have c4 := H2.out.1.at 4 rfl
        have c5 := H2.out.1.at 5 rfl
        have c6 := H2.out.1.at 6 rfl
        have c7 := H2.out.1.at 7 rfl
        have c8 := H2.out.1.at 8 rfl
        have C := check_any n0 n1 n2 n3 n4 n5 n6 n7 x8 l8 z8 S8 r w2 (HS.out.kept H2.out.2) HR.out
        go_wp2_with fail
        refine C.mono ?_
        rintro e w3 ⟨rfl, k3⟩
        have H3 : Hid (Kept w w3) := H2.out.2.trans k3
        clear k3 C H2 c0 c1 c2 c3 c4 c5 c6 c7 c8
        go_wp2_with fail
        refine (first_any w3).mono ?_
        rintro e wf ⟨rfl, kf⟩
        have HZ : Hid (Kept w wf) := H3.out.trans kf
        clear kf H3
        go_wp2
        go_ret
        exact ⟨rfl, HZ.out⟩
end Go.Proofs.Ytahpnnjemjjfhaa
