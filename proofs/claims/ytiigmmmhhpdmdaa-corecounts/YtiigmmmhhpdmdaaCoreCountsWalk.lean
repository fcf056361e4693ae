/-
  The law CoreCounts: its early ways out, and the walk.
-/
import Derived.Test.YtiigmmmhhpdmdaaCoreCountsIn
import Derived.Test.YtiigmmmhhpdmdaaB18
namespace Go.Proofs.Ytiigmmmhhpdmdaa
open Go.RowKit

set_option maxRecDepth 8000 in
set_option maxHeartbeats 8000000 in
theorem coreCounts_any (n0 : Int) (n1 : Int) (n2 : Int) (n3 : Int) (n4 : Int) (n5 : Int) (n6 : Int) (n7 : Int) (x8 : Option Addr) (l8 z8 : Nat) (S8 : Nat → Sh) (R8 : Nat → Nat → Bool) (x9 : Option Addr) (l9 z9 : Nat) (L9 : Nat → Int) (w : World) (_lo0 : IntKind.min .i64 ≤ n0) (_hi0 : n0 ≤ IntKind.max .i64) (_lo1 : IntKind.min .i64 ≤ n1) (_hi1 : n1 ≤ IntKind.max .i64) (_lo2 : IntKind.min .i64 ≤ n2) (_hi2 : n2 ≤ IntKind.max .i64) (_lo3 : IntKind.min .i64 ≤ n3) (_hi3 : n3 ≤ IntKind.max .i64) (_lo4 : IntKind.min .i64 ≤ n4) (_hi4 : n4 ≤ IntKind.max .i64) (_lo5 : IntKind.min .i64 ≤ n5) (_hi5 : n5 ≤ IntKind.max .i64) (_lo6 : IntKind.min .i64 ≤ n6) (_hi6 : n6 ≤ IntKind.max .i64) (_lo7 : IntKind.min .i64 ≤ n7) (_hi7 : n7 ≤ IntKind.max .i64) (_h8c : l8 ≤ z8) (hS8 : Shps w x8 l8 S8) (hR8 : ∀ i, i < l8 → Refs w (S8 i).x (S8 i).l (R8 i)) (_h9c : l9 ≤ z9) (hL9 : Ints w x9 l9 L9) (_hB9 : ∀ i, i < l9 → IntKind.min .i64 ≤ L9 i ∧ L9 i ≤ IntKind.max .i64) :
    Calls Try.prog 4 #[.agg #[.int .i64 n0, .int .i64 n1, .int .i64 n2, .int .i64 n3, .int .i64 n4, .int .i64 n5, .int .i64 n6, .int .i64 n7, .slice x8 l8 z8], .slice x9 l9 z9] w fun e w' => e = .returned (.bool true) ∧ Kept w w' := by
  clear _lo0 _hi0 _lo1 _hi1 _lo2 _hi2 _lo3 _hi3 _lo4 _hi4 _lo5 _hi5 _lo6 _hi6 _lo7 _hi7 _h8c _h9c _hB9
  by_cases hg2 : (Fits n0 n1 n2 n3 n4 n5 n6 n7 ∧ Mays l8 S8) ∧ l9 ≤ 100
  · obtain ⟨⟨hf, hm⟩, h9⟩ := hg2
    obtain ⟨n, rfl⟩ := Int.eq_ofNat_of_zero_le (show 0 ≤ n0 by have := hf.1; omega)
    obtain ⟨s, rfl⟩ := Int.eq_ofNat_of_zero_le (show 0 ≤ n1 by have := hf.2.1; omega)
    obtain ⟨g, rfl⟩ := Int.eq_ofNat_of_zero_le (show 0 ≤ n2 by have := hf.2.2.1; omega)
    obtain ⟨th, rfl⟩ := Int.eq_ofNat_of_zero_le (show 0 ≤ n3 by have := hf.2.2.2.2.2.1; omega)
    obtain ⟨ch, rfl⟩ := Int.eq_ofNat_of_zero_le (show 0 ≤ n5 by have := hf.2.2.2.2.2.2.2.1; omega)
    obtain ⟨most, rfl⟩ := Int.eq_ofNat_of_zero_le (show 0 ≤ n6 by have := hf.2.2.2.1; omega)
    exact counts_in n s g th ch most n4 n7 x8 l8 z8 S8 R8 w hS8 hR8 ⟨hf, hm⟩ x9 l9 z9 L9 hL9 h9
  · have HS : Hid (Shps w x8 l8 S8) := hS8
    by_cases hs : Small l8 S8
    · have HF : Hid (Small l8 S8) := hs
      by_cases h9 : l9 ≤ 100
      · have hg : ¬ (Fits n0 n1 n2 n3 n4 n5 n6 n7 ∧ Mays l8 S8) := fun h => hg2 ⟨h, h9⟩
        obtain ⟨r, hr, _⟩ := Checks.some n0 n1 n2 n3 n4 n5 n6 n7 l8 S8
        have HR : Hid (Checks n0 n1 n2 n3 n4 n5 n6 n7 l8 S8 r) := hr
        have h0 : r ≠ 0 := fun e => hg (Checks.zero (e ▸ hr))
        have hb : (r != 0) = true := by simpa using h0
        have hl100 : ¬ ((l9 : Int) > 100) := by omega
        clear hS8 hR8 hL9 hr hg hg2 hs
        go_enter Try.func4, Try.ntmps4
        go_wp2_with fail
        generalize hW : w.alloc _ = W0
        have H0 : Hid (Blk W0 w.heap.size [.int .i64 n0, .int .i64 n1, .int .i64 n2, .int .i64 n3, .int .i64 n4, .int .i64 n5, .int .i64 n6, .int .i64 n7, .slice x8 l8 z8] ∧ Kept w W0) := by
          rw [← hW]
          exact ⟨Blk.new w _ _, (Kept.refl w).alloc _ _⟩
        clear hW
        refine (first_any W0).mono ?_
        rintro e w1 ⟨rfl, k1⟩
        have H1 : Hid (Blk w1 w.heap.size [.int .i64 n0, .int .i64 n1, .int .i64 n2, .int .i64 n3, .int .i64 n4, .int .i64 n5, .int .i64 n6, .int .i64 n7, .slice x8 l8 z8] ∧ Kept w w1) := ⟨H0.out.1.kept k1, H0.out.2.trans k1⟩
        clear k1 H0
        have b0 := (H1.out.1).at 0 rfl
        have b1 := (H1.out.1).at 1 rfl
        have b2 := (H1.out.1).at 2 rfl
        have b3 := (H1.out.1).at 3 rfl
        have b4 := (H1.out.1).at 4 rfl
        have b5 := (H1.out.1).at 5 rfl
        have b6 := (H1.out.1).at 6 rfl
        have b7 := (H1.out.1).at 7 rfl
        have b8 := (H1.out.1).at 8 rfl
        have CW := few_any n0 n1 n2 n3 n4 n5 n6 n7 x8 l8 z8 S8 true w1 (HS.out.kept H1.out.2) ⟨fun _ => HF.out, fun _ => rfl⟩
        go_wp2_with fail
        refine CW.mono ?_
        rintro e w2 ⟨rfl, k2⟩
        have H2 : Hid (Blk w2 w.heap.size [.int .i64 n0, .int .i64 n1, .int .i64 n2, .int .i64 n3, .int .i64 n4, .int .i64 n5, .int .i64 n6, .int .i64 n7, .slice x8 l8 z8] ∧ Kept w w2) := ⟨H1.out.1.kept k2, H1.out.2.trans k2⟩
        clear b0 b1 b2 b3 b4 b5 b6 b7 b8
        clear k2 CW H1
        have b0 := (H2.out.1).at 0 rfl
        have b1 := (H2.out.1).at 1 rfl
        have b2 := (H2.out.1).at 2 rfl
        have b3 := (H2.out.1).at 3 rfl
        have b4 := (H2.out.1).at 4 rfl
        have b5 := (H2.out.1).at 5 rfl
        have b6 := (H2.out.1).at 6 rfl
        have b7 := (H2.out.1).at 7 rfl
        have b8 := (H2.out.1).at 8 rfl
        have CB := onew_bad n0 n1 n2 n3 n4 n5 n6 n7 r x8 l8 z8 S8 w2 (HS.out.kept H2.out.2) HR.out h0
        go_wp2_with fail
        refine CB.mono ?_
        rintro e w3 ⟨rfl, k3⟩
        have H3 : Hid (Blk w3 w.heap.size [.int .i64 n0, .int .i64 n1, .int .i64 n2, .int .i64 n3, .int .i64 n4, .int .i64 n5, .int .i64 n6, .int .i64 n7, .slice x8 l8 z8] ∧ Kept w w3) := ⟨H2.out.1.kept k3, H2.out.2.trans k3⟩
        clear b0 b1 b2 b3 b4 b5 b6 b7 b8
        clear k3 CB H2
        have CE := first_any w3
        go_wp2_with fail
        refine CE.mono ?_
        rintro e we ⟨rfl, ke⟩
        have KE : Hid (Kept w we) := H3.out.2.trans ke
        clear ke CE
        go_wp2
        go_ret
        exact ⟨by first | rfl | simp [hb], KE.out⟩
      · have hl100 : (l9 : Int) > 100 := by omega
        clear hS8 hR8 hL9 hg2 hs
        go_enter Try.func4, Try.ntmps4
        go_wp2_with fail
        generalize hW : w.alloc _ = W0
        have H0 : Hid (Blk W0 w.heap.size [.int .i64 n0, .int .i64 n1, .int .i64 n2, .int .i64 n3, .int .i64 n4, .int .i64 n5, .int .i64 n6, .int .i64 n7, .slice x8 l8 z8] ∧ Kept w W0) := by
          rw [← hW]
          exact ⟨Blk.new w _ _, (Kept.refl w).alloc _ _⟩
        clear hW
        refine (first_any W0).mono ?_
        rintro e w1 ⟨rfl, k1⟩
        have H1 : Hid (Blk w1 w.heap.size [.int .i64 n0, .int .i64 n1, .int .i64 n2, .int .i64 n3, .int .i64 n4, .int .i64 n5, .int .i64 n6, .int .i64 n7, .slice x8 l8 z8] ∧ Kept w w1) := ⟨H0.out.1.kept k1, H0.out.2.trans k1⟩
        clear k1 H0
        have b0 := (H1.out.1).at 0 rfl
        have b1 := (H1.out.1).at 1 rfl
        have b2 := (H1.out.1).at 2 rfl
        have b3 := (H1.out.1).at 3 rfl
        have b4 := (H1.out.1).at 4 rfl
        have b5 := (H1.out.1).at 5 rfl
        have b6 := (H1.out.1).at 6 rfl
        have b7 := (H1.out.1).at 7 rfl
        have b8 := (H1.out.1).at 8 rfl
        have CW := few_any n0 n1 n2 n3 n4 n5 n6 n7 x8 l8 z8 S8 true w1 (HS.out.kept H1.out.2) ⟨fun _ => HF.out, fun _ => rfl⟩
        go_wp2_with fail
        refine CW.mono ?_
        rintro e w2 ⟨rfl, k2⟩
        have H2 : Hid (Blk w2 w.heap.size [.int .i64 n0, .int .i64 n1, .int .i64 n2, .int .i64 n3, .int .i64 n4, .int .i64 n5, .int .i64 n6, .int .i64 n7, .slice x8 l8 z8] ∧ Kept w w2) := ⟨H1.out.1.kept k2, H1.out.2.trans k2⟩
        clear b0 b1 b2 b3 b4 b5 b6 b7 b8
        clear k2 CW H1
        have CE := first_any w2
        go_wp2_with fail
        refine CE.mono ?_
        rintro e we ⟨rfl, ke⟩
        have KE : Hid (Kept w we) := H2.out.2.trans ke
        clear ke CE
        go_wp2
        go_ret
        exact ⟨rfl, KE.out⟩
    · have HF : Hid (¬ Small l8 S8) := hs
      clear hS8 hR8 hL9 hg2 hs
      go_enter Try.func4, Try.ntmps4
      go_wp2_with fail
      generalize hW : w.alloc _ = W0
      have H0 : Hid (Blk W0 w.heap.size [.int .i64 n0, .int .i64 n1, .int .i64 n2, .int .i64 n3, .int .i64 n4, .int .i64 n5, .int .i64 n6, .int .i64 n7, .slice x8 l8 z8] ∧ Kept w W0) := by
        rw [← hW]
        exact ⟨Blk.new w _ _, (Kept.refl w).alloc _ _⟩
      clear hW
      refine (first_any W0).mono ?_
      rintro e w1 ⟨rfl, k1⟩
      have H1 : Hid (Blk w1 w.heap.size [.int .i64 n0, .int .i64 n1, .int .i64 n2, .int .i64 n3, .int .i64 n4, .int .i64 n5, .int .i64 n6, .int .i64 n7, .slice x8 l8 z8] ∧ Kept w w1) := ⟨H0.out.1.kept k1, H0.out.2.trans k1⟩
      clear k1 H0
      have b0 := (H1.out.1).at 0 rfl
      have b1 := (H1.out.1).at 1 rfl
      have b2 := (H1.out.1).at 2 rfl
      have b3 := (H1.out.1).at 3 rfl
      have b4 := (H1.out.1).at 4 rfl
      have b5 := (H1.out.1).at 5 rfl
      have b6 := (H1.out.1).at 6 rfl
      have b7 := (H1.out.1).at 7 rfl
      have b8 := (H1.out.1).at 8 rfl
      have CW := few_any n0 n1 n2 n3 n4 n5 n6 n7 x8 l8 z8 S8 false w1 (HS.out.kept H1.out.2) ⟨fun h => absurd h (by decide), fun h => absurd h HF.out⟩
      go_wp2_with fail
      refine CW.mono ?_
      rintro e w2 ⟨rfl, k2⟩
      have H2 : Hid (Blk w2 w.heap.size [.int .i64 n0, .int .i64 n1, .int .i64 n2, .int .i64 n3, .int .i64 n4, .int .i64 n5, .int .i64 n6, .int .i64 n7, .slice x8 l8 z8] ∧ Kept w w2) := ⟨H1.out.1.kept k2, H1.out.2.trans k2⟩
      clear b0 b1 b2 b3 b4 b5 b6 b7 b8
      clear k2 CW H1
      have CE := first_any w2
      go_wp2_with fail
      refine CE.mono ?_
      rintro e we ⟨rfl, ke⟩
      have KE : Hid (Kept w we) := H2.out.2.trans ke
      clear ke CE
      go_wp2
      go_ret
      exact ⟨rfl, KE.out⟩
end Go.Proofs.Ytiigmmmhhpdmdaa
