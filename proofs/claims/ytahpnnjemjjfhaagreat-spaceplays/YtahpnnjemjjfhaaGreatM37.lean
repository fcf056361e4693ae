/-
  The modules SplB, SpacePlaysIn, Open12, SpacePlaysWalk, one behind another.
-/
import Derived.Deep.SlicePairs
import Derived.Test.YtahpnnjemjjfhaaGreatM05
import Derived.Test.YtahpnnjemjjfhaaGreatM30
import Derived.Test.YtahpnnjemjjfhaaGreatM36
/-
  The law SpacePlays: its early ways out.
-/
namespace Go.Proofs.YtahpnnjemjjfhaaGreat
open Go.RowKit

set_option maxRecDepth 20000 in
set_option maxHeartbeats 8000000 in
theorem plays_few (n0 n1 n2 n3 n4 n5 n6 n7 : Int) (x8 : Option Addr) (l8 z8 : Nat) (S8 : Nat → Sh) (x9 : Option Addr) (l9 z9 : Nat) (w : World) (hS8 : Shps w x8 l8 S8) (h : ¬ (Small l8 S8 ∧ l9 ≤ 300)) :
    Calls Tryz.prog 3 #[.agg #[.int .i64 n0, .int .i64 n1, .int .i64 n2, .int .i64 n3, .int .i64 n4, .int .i64 n5, .int .i64 n6, .int .i64 n7, .slice x8 l8 z8], .slice x9 l9 z9] w fun e w' => e = .returned (.bool true) ∧ Kept w w' := by
  obtain ⟨p, hp⟩ : ∃ p : Bool, p = true ↔ Small l8 S8 := by
    by_cases q : Small l8 S8
    · exact ⟨true, by simp [q]⟩
    · exact ⟨false, by simp [q]⟩
  have HS : Hid (Shps w x8 l8 S8) := hS8
  have HP : Hid (p = true ↔ Small l8 S8) := hp
  have HQ : Hid (p = false ∨ (p = true ∧ (l9 : Int) > 300)) := by
    cases p with
    | false => exact .inl rfl
    | true =>
      refine .inr ⟨rfl, ?_⟩
      have hs := hp.1 rfl
      have : ¬ l9 ≤ 300 := fun q => h ⟨hs, q⟩
      omega
  clear hS8 hp h
  go_enter Tryz.func3, Tryz.ntmps3
  go_wp2_with fail
  generalize hW : w.alloc _ = W0
  have H0 : Hid (Blk W0 w.heap.size [.int .i64 n0, .int .i64 n1, .int .i64 n2, .int .i64 n3, .int .i64 n4, .int .i64 n5, .int .i64 n6, .int .i64 n7, .slice x8 l8 z8] ∧ Kept w W0) := by
    rw [← hW]
    exact ⟨Blk.new w _ _, (Kept.refl w).alloc _ _⟩
  clear hW
  refine (first_any W0).mono ?_
  rintro e w1 ⟨rfl, k1⟩
  have H1 : Hid (Blk w1 w.heap.size [.int .i64 n0, .int .i64 n1, .int .i64 n2, .int .i64 n3, .int .i64 n4, .int .i64 n5, .int .i64 n6, .int .i64 n7, .slice x8 l8 z8] ∧ Kept w w1) := ⟨H0.out.1.kept k1, H0.out.2.trans k1⟩
  clear k1 H0
  have c0 := H1.out.1.at 0 rfl
  have c1 := H1.out.1.at 1 rfl
  have c2 := H1.out.1.at 2 rfl
  have c3 := H1.out.1.at 3 rfl
  have c4 := H1.out.1.at 4 rfl
  have c5 := H1.out.1.at 5 rfl
  have c6 := H1.out.1.at 6 rfl
  have c7 := H1.out.1.at 7 rfl
  have c8 := H1.out.1.at 8 rfl
  have C := few_any n0 n1 n2 n3 n4 n5 n6 n7 x8 l8 z8 S8 p w1 (HS.out.kept H1.out.2) HP.out
  go_wp2_with fail
  refine C.mono ?_
  rintro e w2 ⟨rfl, k2⟩
  have H2 : Hid (Blk w2 w.heap.size [.int .i64 n0, .int .i64 n1, .int .i64 n2, .int .i64 n3, .int .i64 n4, .int .i64 n5, .int .i64 n6, .int .i64 n7, .slice x8 l8 z8] ∧ Kept w w2) := ⟨H1.out.1.kept k2, H1.out.2.trans k2⟩
  clear k2 C H1 c0 c1 c2 c3 c4 c5 c6 c7 c8
  rcases HQ.out with q | ⟨q, q2⟩
  · subst q
    clear HQ HP HS
    go_wp2_with fail
    refine (first_any w2).mono ?_
    rintro e w9 ⟨rfl, k9⟩
    have H9 : Hid (Kept w w9) := H2.out.2.trans k9
    clear k9
    go_wp2
    go_ret
    exact ⟨rfl, H9.out⟩
  · subst q
    clear HQ HP HS
    go_wp2_with fail
    refine (first_any w2).mono ?_
    rintro e w9 ⟨rfl, k9⟩
    have H9 : Hid (Kept w w9) := H2.out.2.trans k9
    clear k9
    go_wp2
    go_ret
    exact ⟨rfl, H9.out⟩

set_option maxRecDepth 20000 in
set_option maxHeartbeats 8000000 in
theorem plays_tab (n0 n1 n2 n3 n4 n5 n6 n7 : Int) (x8 : Option Addr) (l8 z8 : Nat) (S8 : Nat → Sh) (x9 : Option Addr) (l9 z9 : Nat) (w : World) (hS8 : Shps w x8 l8 S8) (h : Small l8 S8 ∧ l9 ≤ 300) (hn : ¬ (0 ≤ n0 ∧ n0 ≤ 1024)) :
    Calls Tryz.prog 3 #[.agg #[.int .i64 n0, .int .i64 n1, .int .i64 n2, .int .i64 n3, .int .i64 n4, .int .i64 n5, .int .i64 n6, .int .i64 n7, .slice x8 l8 z8], .slice x9 l9 z9] w fun e w' => e = .returned (.bool true) ∧ Kept w w' := by
  have HS : Hid (Shps w x8 l8 S8) := hS8
  have HP : Hid (Small l8 S8) := h.1
  have q2 : ¬ (l9 : Int) > 300 := by omega
  have HN : Hid (¬ (0 ≤ n0 ∧ n0 ≤ 1024)) := hn
  clear hS8 h hn
  go_enter Tryz.func3, Tryz.ntmps3
  go_wp2_with fail
  generalize hW : w.alloc _ = W0
  have H0 : Hid (Blk W0 w.heap.size [.int .i64 n0, .int .i64 n1, .int .i64 n2, .int .i64 n3, .int .i64 n4, .int .i64 n5, .int .i64 n6, .int .i64 n7, .slice x8 l8 z8] ∧ Kept w W0) := by
    rw [← hW]
    exact ⟨Blk.new w _ _, (Kept.refl w).alloc _ _⟩
  clear hW
  refine (first_any W0).mono ?_
  rintro e w1 ⟨rfl, k1⟩
  have H1 : Hid (Blk w1 w.heap.size [.int .i64 n0, .int .i64 n1, .int .i64 n2, .int .i64 n3, .int .i64 n4, .int .i64 n5, .int .i64 n6, .int .i64 n7, .slice x8 l8 z8] ∧ Kept w w1) := ⟨H0.out.1.kept k1, H0.out.2.trans k1⟩
  clear k1 H0
  have c0 := H1.out.1.at 0 rfl
  have c1 := H1.out.1.at 1 rfl
  have c2 := H1.out.1.at 2 rfl
  have c3 := H1.out.1.at 3 rfl
  have c4 := H1.out.1.at 4 rfl
  have c5 := H1.out.1.at 5 rfl
  have c6 := H1.out.1.at 6 rfl
  have c7 := H1.out.1.at 7 rfl
  have c8 := H1.out.1.at 8 rfl
  have C := few_any n0 n1 n2 n3 n4 n5 n6 n7 x8 l8 z8 S8 true w1 (HS.out.kept H1.out.2) (by simp [HP.out])
  go_wp2_with fail
  refine C.mono ?_
  rintro e w2 ⟨rfl, k2⟩
  have H2 : Hid (Blk w2 w.heap.size [.int .i64 n0, .int .i64 n1, .int .i64 n2, .int .i64 n3, .int .i64 n4, .int .i64 n5, .int .i64 n6, .int .i64 n7, .slice x8 l8 z8] ∧ Kept w w2) := ⟨H1.out.1.kept k2, H1.out.2.trans k2⟩
  clear k2 C H1 c0 c1 c2 c3 c4 c5 c6 c7 c8
  have c0 := H2.out.1.at 0 rfl
  go_wp2_with fail
  refine (tnew_bad n0 w2 HN.out).mono ?_
  rintro e w3 ⟨rfl, rfl⟩
  go_wp2_with fail
  refine (trnew_bad n0 w3 HN.out).mono ?_
  rintro e w4 ⟨rfl, rfl⟩
  have H4 : Hid (Kept w w4) := H2.out.2
  clear c0 H2 HN HP HS q2
  go_wp2_with fail
  refine (first_any w4).mono ?_
  rintro e w9 ⟨rfl, k9⟩
  have H9 : Hid (Kept w w9) := H4.out.trans k9
  clear k9
  go_wp2
  go_ret
  exact ⟨rfl, H9.out⟩

set_option maxRecDepth 20000 in
set_option maxHeartbeats 8000000 in
theorem plays_conf (n : Nat) (n1 n2 n3 n4 n5 n6 n7 : Int) (x8 : Option Addr) (l8 z8 : Nat) (S8 : Nat → Sh) (x9 : Option Addr) (l9 z9 : Nat) (w : World) (hS8 : Shps w x8 l8 S8) (h : Small l8 S8 ∧ l9 ≤ 300) (hn : n ≤ 1024) (r : Int) (hr : Checks n n1 n2 n3 n4 n5 n6 n7 l8 S8 r) (h0 : r ≠ 0) :
    Calls Tryz.prog 3 #[.agg #[.int .i64 (n : Int), .int .i64 n1, .int .i64 n2, .int .i64 n3, .int .i64 n4, .int .i64 n5, .int .i64 n6, .int .i64 n7, .slice x8 l8 z8], .slice x9 l9 z9] w fun e w' => e = .returned (.bool true) ∧ Kept w w' := by
  have HS : Hid (Shps w x8 l8 S8) := hS8
  have HP : Hid (Small l8 S8) := h.1
  have q2 : ¬ (l9 : Int) > 300 := by omega
  have HN : Hid (n ≤ 1024 ∧ Checks n n1 n2 n3 n4 n5 n6 n7 l8 S8 r ∧ r ≠ 0) := ⟨hn, hr, h0⟩
  have z1 : (r != r) = false := by simp
  clear hS8 h hn hr h0
  go_enter Tryz.func3, Tryz.ntmps3
  go_wp2_with fail
  generalize hW : w.alloc _ = W0
  have H0 : Hid (Blk W0 w.heap.size [.int .i64 (n : Int), .int .i64 n1, .int .i64 n2, .int .i64 n3, .int .i64 n4, .int .i64 n5, .int .i64 n6, .int .i64 n7, .slice x8 l8 z8] ∧ Kept w W0) := by
    rw [← hW]
    exact ⟨Blk.new w _ _, (Kept.refl w).alloc _ _⟩
  clear hW
  refine (first_any W0).mono ?_
  rintro e w1 ⟨rfl, k1⟩
  have H1 : Hid (Blk w1 w.heap.size [.int .i64 (n : Int), .int .i64 n1, .int .i64 n2, .int .i64 n3, .int .i64 n4, .int .i64 n5, .int .i64 n6, .int .i64 n7, .slice x8 l8 z8] ∧ Kept w w1) := ⟨H0.out.1.kept k1, H0.out.2.trans k1⟩
  clear k1 H0
  have c0 := H1.out.1.at 0 rfl
  have c1 := H1.out.1.at 1 rfl
  have c2 := H1.out.1.at 2 rfl
  have c3 := H1.out.1.at 3 rfl
  have c4 := H1.out.1.at 4 rfl
  have c5 := H1.out.1.at 5 rfl
  have c6 := H1.out.1.at 6 rfl
  have c7 := H1.out.1.at 7 rfl
  have c8 := H1.out.1.at 8 rfl
  have C := few_any n n1 n2 n3 n4 n5 n6 n7 x8 l8 z8 S8 true w1 (HS.out.kept H1.out.2) (by simp [HP.out])
  go_wp2_with fail
  refine C.mono ?_
  rintro e w2 ⟨rfl, k2⟩
  have H2 : Hid (Blk w2 w.heap.size [.int .i64 (n : Int), .int .i64 n1, .int .i64 n2, .int .i64 n3, .int .i64 n4, .int .i64 n5, .int .i64 n6, .int .i64 n7, .slice x8 l8 z8] ∧ Kept w w2) := ⟨H1.out.1.kept k2, H1.out.2.trans k2⟩
  clear k2 C H1 c0 c1 c2 c3 c4 c5 c6 c7 c8
  have c0 := H2.out.1.at 0 rfl
  go_wp2_with fail
  refine (tnew_any n w2 HN.out.1).mono ?_
  rintro e w3 ⟨tb, tg, rfl, t3, _, _, k3⟩
  have H3 : Hid (Blk w3 w.heap.size [.int .i64 (n : Int), .int .i64 n1, .int .i64 n2, .int .i64 n3, .int .i64 n4, .int .i64 n5, .int .i64 n6, .int .i64 n7, .slice x8 l8 z8] ∧ Kept w w3) := ⟨H2.out.1.kept k3, H2.out.2.trans k3⟩
  clear c0 H2 k3 t3
  have c0 := H3.out.1.at 0 rfl
  go_wp2_with fail
  refine (trnew_any n w3 HN.out.1).mono ?_
  rintro e w4 ⟨rb, gs, gh, gc, rfl, _, _, _, _, _, k4⟩
  have H4 : Hid (Blk w4 w.heap.size [.int .i64 (n : Int), .int .i64 n1, .int .i64 n2, .int .i64 n3, .int .i64 n4, .int .i64 n5, .int .i64 n6, .int .i64 n7, .slice x8 l8 z8] ∧ Kept w w4) := ⟨H3.out.1.kept k4, H3.out.2.trans k4⟩
  clear c0 H3 k4
  have c0 := H4.out.1.at 0 rfl
  have c1 := H4.out.1.at 1 rfl
  have c2 := H4.out.1.at 2 rfl
  have c3 := H4.out.1.at 3 rfl
  have c4 := H4.out.1.at 4 rfl
  have c5 := H4.out.1.at 5 rfl
  have c6 := H4.out.1.at 6 rfl
  have c7 := H4.out.1.at 7 rfl
  have c8 := H4.out.1.at 8 rfl
  go_wp2_with fail
  refine (wspace_bad n n1 n2 n3 n4 n5 n6 n7 x8 l8 z8 S8 r tb w4 (HS.out.kept H4.out.2) HN.out.2.1 HN.out.2.2).mono ?_
  rintro e w5 ⟨rfl, k5⟩
  have H5 : Hid (Blk w5 w.heap.size [.int .i64 (n : Int), .int .i64 n1, .int .i64 n2, .int .i64 n3, .int .i64 n4, .int .i64 n5, .int .i64 n6, .int .i64 n7, .slice x8 l8 z8] ∧ Kept w w5) := ⟨H4.out.1.kept k5, H4.out.2.trans k5⟩
  clear k5 H4 c0 c1 c2 c3 c4 c5 c6 c7 c8
  have c0 := H5.out.1.at 0 rfl
  have c1 := H5.out.1.at 1 rfl
  have c2 := H5.out.1.at 2 rfl
  have c3 := H5.out.1.at 3 rfl
  have c4 := H5.out.1.at 4 rfl
  have c5 := H5.out.1.at 5 rfl
  have c6 := H5.out.1.at 6 rfl
  have c7 := H5.out.1.at 7 rfl
  have c8 := H5.out.1.at 8 rfl
  go_wp2_with fail
  refine (rspace_bad n n1 n2 n3 n4 n5 n6 n7 x8 l8 z8 S8 r rb w5 (HS.out.kept H5.out.2) HN.out.2.1 HN.out.2.2).mono ?_
  rintro e w6 ⟨rfl, k6⟩
  have H6 : Hid (Kept w w6) := H5.out.2.trans k6
  clear k6 H5 c0 c1 c2 c3 c4 c5 c6 c7 c8 HS HP HN
  go_upto_region 13 with fail
  go_wp2_with fail
  refine wp_loop_rounds 1 ?_
  rw [rounds_succ]
  go_wp2_with fail
  refine (first_any w6).mono ?_
  rintro e w9 ⟨rfl, k9⟩
  have H9 : Hid (Kept w w9) := H6.out.trans k9
  clear k9
  go_wp2
  go_ret
  exact ⟨rfl, H9.out⟩
end Go.Proofs.YtahpnnjemjjfhaaGreat

/-
  The law SpacePlays: the walk where both spaces are made.
-/
namespace Go.Proofs.YtahpnnjemjjfhaaGreat
open Go.RowKit

set_option maxRecDepth 20000 in
set_option maxHeartbeats 16000000 in
theorem plays_in (n s m ch : Nat) (n2 n4 n6 n7 : Int) (x8 : Option Addr) (l8 z8 : Nat) (S8 : Nat → Sh) (R8 : Nat → Nat → Bool) (x9 : Option Addr) (l9 z9 : Nat) (L9 : Nat → Op21) (w : World) (hS8 : Shps w x8 l8 S8) (hR8 : ∀ i, i < l8 → Refs w (S8 i).x (S8 i).l (R8 i)) (hL9 : Ops w x9 l9 L9)
    (h : Small l8 S8 ∧ l9 ≤ 300) (hg : Good n s n2 m n4 ch n6 n7 l8 S8) :
    Calls Tryz.prog 3 #[.agg #[.int .i64 (n : Int), .int .i64 (s : Int), .int .i64 n2, .int .i64 (m : Int), .int .i64 n4, .int .i64 (ch : Int), .int .i64 n6, .int .i64 n7, .slice x8 l8 z8], .slice x9 l9 z9] w fun e w' => e = .returned (.bool true) ∧ Kept w w' := by
  have HS : Hid (Shps w x8 l8 S8) := hS8
  have HR : Hid (∀ i, i < l8 → Refs w (S8 i).x (S8 i).l (R8 i)) := hR8
  have HX : Hid (Ops w x9 l9 L9) := hL9
  have HP : Hid (Small l8 S8) := h.1
  have HG : Hid (Good n s n2 m n4 ch n6 n7 l8 S8 ∧ n ≤ 1024) := ⟨hg, by
    obtain ⟨⟨q0, _⟩, _⟩ := hg
    omega⟩
  have hl9 : l9 ≤ 300 := h.2
  have q2 : ¬ (l9 : Int) > 300 := by omega
  have HB : Hid (∀ g o, x8 = some ⟨g, o, none⟩ → g < w.heap.size) := fun g o e => by
    obtain ⟨b, o', e', hb, _⟩ := hS8 (by have := hg.2.1; omega)
    rw [e] at e'
    have := (Addr.mk.inj (Option.some.inj e')).1
    omega
  clear hS8 hR8 hL9 h hg
  go_enter Tryz.func3, Tryz.ntmps3
  go_wp2_with fail
  generalize hW : w.alloc _ = W0
  have H0 : Hid (Blk W0 w.heap.size [.int .i64 (n : Int), .int .i64 (s : Int), .int .i64 n2, .int .i64 (m : Int), .int .i64 n4, .int .i64 (ch : Int), .int .i64 n6, .int .i64 n7, .slice x8 l8 z8] ∧ Kept w W0) := by
    rw [← hW]
    exact ⟨Blk.new w _ _, (Kept.refl w).alloc _ _⟩
  clear hW
  refine (first_any W0).mono ?_
  rintro e w1 ⟨rfl, k1⟩
  have H1 : Hid (Blk w1 w.heap.size [.int .i64 (n : Int), .int .i64 (s : Int), .int .i64 n2, .int .i64 (m : Int), .int .i64 n4, .int .i64 (ch : Int), .int .i64 n6, .int .i64 n7, .slice x8 l8 z8] ∧ Kept w w1) := ⟨H0.out.1.kept k1, H0.out.2.trans k1⟩
  clear k1 H0
  have c0 := H1.out.1.at 0 rfl
  have c1 := H1.out.1.at 1 rfl
  have c2 := H1.out.1.at 2 rfl
  have c3 := H1.out.1.at 3 rfl
  have c4 := H1.out.1.at 4 rfl
  have c5 := H1.out.1.at 5 rfl
  have c6 := H1.out.1.at 6 rfl
  have c7 := H1.out.1.at 7 rfl
  have c8 := H1.out.1.at 8 rfl
  have C := few_any n s n2 m n4 ch n6 n7 x8 l8 z8 S8 true w1 (HS.out.kept H1.out.2) (by simp [HP.out])
  go_wp2_with fail
  refine C.mono ?_
  rintro e w2 ⟨rfl, k2⟩
  have H2 : Hid (Blk w2 w.heap.size [.int .i64 (n : Int), .int .i64 (s : Int), .int .i64 n2, .int .i64 (m : Int), .int .i64 n4, .int .i64 (ch : Int), .int .i64 n6, .int .i64 n7, .slice x8 l8 z8] ∧ Kept w w2) := ⟨H1.out.1.kept k2, H1.out.2.trans k2⟩
  clear k2 C H1 c0 c1 c2 c3 c4 c5 c6 c7 c8
  have c0 := H2.out.1.at 0 rfl
  go_wp2_with fail
  refine (tnew_any n w2 HG.out.2).mono ?_
  rintro e w3 ⟨tb, tg, rfl, t3, p1, p2, k3⟩
  have H3 : Hid (Blk w3 w.heap.size [.int .i64 (n : Int), .int .i64 (s : Int), .int .i64 n2, .int .i64 (m : Int), .int .i64 n4, .int .i64 (ch : Int), .int .i64 n6, .int .i64 n7, .slice x8 l8 z8] ∧ Kept w w3 ∧ Tab w3 tb tg n T0 ∧ w.heap.size ≤ tb ∧ w.heap.size ≤ tg ∧ w.heap.size < tg) := ⟨H2.out.1.kept k3, H2.out.2.trans k3, t3, Nat.le_trans H2.out.2.size p1, Nat.le_trans H2.out.2.size p2, Nat.lt_of_lt_of_le H2.out.1.lt p2⟩
  clear c0 H2 k3 t3 p1 p2
  have c0 := H3.out.1.at 0 rfl
  go_wp2_with fail
  refine (trnew_any n w3 HG.out.2).mono ?_
  rintro e w4 ⟨rb, gs, gh, gc, rfl, t4, p1, p2, p3, p4, k4⟩
  have H4 : Hid (Blk w4 w.heap.size [.int .i64 (n : Int), .int .i64 (s : Int), .int .i64 n2, .int .i64 (m : Int), .int .i64 n4, .int .i64 (ch : Int), .int .i64 n6, .int .i64 n7, .slice x8 l8 z8] ∧ Kept w3 w4 ∧ RtT w4 rb gs gh gc n T0 ∧ (w3.heap.size ≤ rb ∧ w3.heap.size ≤ gs ∧ w3.heap.size ≤ gh ∧ w3.heap.size ≤ gc)) := ⟨H3.out.1.kept k4, k4, t4, p1, p2, p3, p4⟩
  clear c0 k4 t4 p1 p2 p3 p4
  have c0 := H4.out.1.at 0 rfl
  have c1 := H4.out.1.at 1 rfl
  have c2 := H4.out.1.at 2 rfl
  have c3 := H4.out.1.at 3 rfl
  have c4 := H4.out.1.at 4 rfl
  have c5 := H4.out.1.at 5 rfl
  have c6 := H4.out.1.at 6 rfl
  have c7 := H4.out.1.at 7 rfl
  have c8 := H4.out.1.at 8 rfl
  go_wp2_with fail
  refine (wnew_any n s m ch n2 n4 n6 n7 x8 l8 z8 S8 R8 tb tg T0 w4 (H3.out.2.2.1.kept H4.out.2.1) (HS.out.kept (H3.out.2.1.trans H4.out.2.1)) (fun i hi => (HR.out i hi).kept (H3.out.2.1.trans H4.out.2.1)) HG.out.1).mono ?_
  rintro e w5 ⟨A, c, rfl, a5, e1, e2, e3, hc, m5⟩
  have hcf : w.heap.size ∉ [tg] := by
    have := H3.out.2.2.2.2.2
    simp
    omega
  have H5 : Hid (Blk w5 w.heap.size [.int .i64 (n : Int), .int .i64 (s : Int), .int .i64 n2, .int .i64 (m : Int), .int .i64 n4, .int .i64 (ch : Int), .int .i64 n6, .int .i64 n7, .slice x8 l8 z8] ∧ SH w5 c A (Sp.new n s m ch) ∧ (A.tb = tb ∧ A.C.n7 = n7) ∧ (∀ k, c k ≠ 0 → k = tb ∨ k = tg ∨ w4.heap.size ≤ k) ∧ Mut [tg] w4 w5) := ⟨H4.out.1.muts m5 hcf, a5, ⟨e1, e3⟩, hc, m5⟩
  clear a5 e1 e2 e3 hc m5 hcf c0 c1 c2 c3 c4 c5 c6 c7 c8
  have c0 := H5.out.1.at 0 rfl
  have c1 := H5.out.1.at 1 rfl
  have c2 := H5.out.1.at 2 rfl
  have c3 := H5.out.1.at 3 rfl
  have c4 := H5.out.1.at 4 rfl
  have c5 := H5.out.1.at 5 rfl
  have c6 := H5.out.1.at 6 rfl
  have c7 := H5.out.1.at 7 rfl
  have c8 := H5.out.1.at 8 rfl
  have KK : Hid (Kept w w5) := (H3.out.2.1.trans H4.out.2.1).muts H5.out.2.2.2.2 fun k hk => by rw [List.mem_singleton.1 hk]; exact H3.out.2.2.2.2.1
  have TR : Hid (RtT w5 rb gs gh gc n T0) := by
    have h1 := H3.out.2.2.1.row.lt
    have ⟨g1, g2, g3, g4⟩ := H4.out.2.2.2
    exact H4.out.2.2.1.muts H5.out.2.2.2.2 (by simp; omega) (by simp; omega) (by simp; omega) (by simp; omega)
  have BB : Hid (w.heap.size ≤ rb ∧ w.heap.size ≤ gs ∧ w.heap.size ≤ gh ∧ w.heap.size ≤ gc) := by
    have h1 := H3.out.2.1.size
    have ⟨g1, g2, g3, g4⟩ := H4.out.2.2.2
    exact ⟨by omega, by omega, by omega, by omega⟩
  go_wp2_with fail
  refine (rspace_new n s m ch n2 n4 n6 n7 x8 l8 z8 S8 (B := w.heap.size) rb gs gh gc w5 TR.out (HS.out.kept KK.out) HB.out HG.out.1 BB.out).mono ?_
  rintro e w6 ⟨R, c', rfl, r6, e1, e2, hr, k6⟩
  have H6 : Hid (Two w A R (Sp.new n s m ch) w6 ∧ A.C.n7 = R.C.n7 ∧ R.tb = rb) := by
    refine ⟨two_made H3.out.2.1 ⟨H3.out.2.2.2.1, H3.out.2.2.2.2.1⟩ ⟨H3.out.2.2.1.head.lt, H3.out.2.2.1.row.lt⟩ H4.out.2.1 H4.out.2.2.2 ⟨H4.out.2.2.1.head.lt, H4.out.2.2.1.rs.lt, H4.out.2.2.1.rh.lt, H4.out.2.2.1.rc.lt⟩ H5.out.2.1 H5.out.2.2.2.1 H5.out.2.2.2.2 r6 hr k6, ?_, e1⟩
    rw [H5.out.2.2.1.2, e2]
  have ea : A.tb = tb := H5.out.2.2.1.1
  have er : R.tb = rb := e1
  subst ea
  subst er
  clear r6 e1 e2 hr k6 TR BB KK H5 H4 H3 c0 c1 c2 c3 c4 c5 c6 c7 c8 HS HR HP HG HB q2
  go_upto_region 13 with fail
  go_wp2_with fail
  go_loopg [13] l9 (fun mm i wr => ∃ (j : Nat) (S : Sp), i = .int .i64 j ∧ j ≤ l9 ∧ mm = l9 - j ∧ Hid (Two w A R S wr ∧ Inv S j))
  case atStart => exact ⟨0, _, rfl, by omega, by omega, H6.out.1, Inv.new n s m ch⟩
  case round =>
    obtain ⟨j, S, rfl, hj, hm, hw⟩ := hrel
    have HM : Hid _ := hm
    have HV : Hid (A.C.n7 = R.C.n7) := H6.out.2.1
    clear hm H6
    by_cases hlt : j < l9
    · obtain ⟨bx, ox, rfl, hbx, hcx⟩ := HX.out.at (by omega)
      have e0 : wr.cell? ⟨bx, ox + j * 6, none⟩ = _ := (hw.out.1.2.cell hbx).trans (hcx j hlt 0 _ rfl)
      have e1 : wr.cell? ⟨bx, ox + j * 6 + 1, none⟩ = _ := (hw.out.1.2.cell hbx).trans (hcx j hlt 1 _ rfl)
      have e2 : wr.cell? ⟨bx, ox + j * 6 + 2, none⟩ = _ := (hw.out.1.2.cell hbx).trans (hcx j hlt 2 _ rfl)
      have e3 : wr.cell? ⟨bx, ox + j * 6 + 3, none⟩ = _ := (hw.out.1.2.cell hbx).trans (hcx j hlt 3 _ rfl)
      have e4 : wr.cell? ⟨bx, ox + j * 6 + 4, none⟩ = _ := (hw.out.1.2.cell hbx).trans (hcx j hlt 4 _ rfl)
      have e5 : wr.cell? ⟨bx, ox + j * 6 + 5, none⟩ = _ := (hw.out.1.2.cell hbx).trans (hcx j hlt 5 _ rfl)
      have HC : Hid (∀ wc, Kept w wc → wc.cell? ⟨bx, ox + j * 6 + 4, none⟩ = some (.int .i64 (L9 j).n)) := fun wc kc => (kc.cell hbx).trans (hcx j hlt 4 _ rfl)
      clear hcx hbx HX
      have CO := two_coil hw.out.1
      have C1 := one_any (L9 j) wr hw.out.1 hw.out.2 (by omega) HV.out
      generalize L9 j = o at *
      obtain ⟨ok, ot, of, os, on, ob⟩ := o
      simp only [Op21.cells] at e0 e1 e2 e3 e4 e5 C1
      have HI2 : Hid (Inv (S.op ⟨ok, ot, of, os, on, ob⟩) (j + 1)) := hw.out.2.op _
      generalize S.op ⟨ok, ot, of, os, on, ob⟩ = S2 at *
      clear hw
      go_wp2_with fail
      refine CO.mono ?_
      rintro e wa ⟨rfl, rfl⟩
      go_wp2_with fail
      refine C1.mono ?_
      rintro e W ⟨rfl, tW⟩
      have HW : Hid (Two w A R S2 W) := tW
      clear tW CO C1 e0 e1 e2 e3 e4 e5
      go_wp2_with fail
      refine (two_counts HW.out).mono ?_
      rintro e W1 ⟨rfl, k1⟩
      have H1 : Hid (Two w A R S2 W1) := HW.out.still k1
      clear k1 HW
      go_wp2_with fail
      refine (two_rcounts H1.out HI2.out.snd).mono ?_
      rintro e W2 ⟨rfl, k2⟩
      have H2 : Hid (Two w A R S2 W2) := H1.out.still k2
      clear k2 H1
      generalize cnt S2.T 0 S2.n = na at *
      generalize cnt S2.T 1 S2.n = nb at *
      generalize cnt S2.T 2 S2.n = nc at *
      have e4 := HC.out W2 H2.out.2
      have y1 : ((na : Int) != (na : Int)) = false := by simp
      have y2 : ((nb : Int) != (nb : Int)) = false := by simp
      have y3 : ((nc : Int) != (nc : Int)) = false := by simp
      go_upto_region 21 with fail
      clear e4 HC
      have D1 : Hid (∀ q : KW W2, _) := fun q => two_state on (H2.out.still q.ok)
      have D2 : Hid (∀ q : KW W2, _) := fun q => two_rstate on (H2.out.still q.ok)
      have D3 : Hid (∀ q : KW W2, _) := fun q => two_head on (H2.out.still q.ok)
      have D4 : Hid (∀ q : KW W2, _) := fun q => two_rhead on (H2.out.still q.ok)
      have D5 : Hid (∀ q : KW W2, _) := fun q => two_black on (H2.out.still q.ok)
      have D6 : Hid (∀ q : KW W2, _) := fun q => two_rblack on (H2.out.still q.ok)
      have D7 : Hid (∀ q : KW W2, _) := fun q => two_count (H2.out.still q.ok)
      have D8 : Hid (∀ q : KW W2, _) := fun q => two_waits (H2.out.still q.ok)
      have D9 : Hid (∀ q : KW W2, _) := fun q => two_rwaits (H2.out.still q.ok)
      have DA : Hid (∀ q : KW W2, _) := fun q => two_free (H2.out.still q.ok)
      have DB : Hid (∀ q : KW W2, _) := fun q => two_rfree (H2.out.still q.ok)
      have f10 : ∀ q : KW W2, q.it.cell? ⟨R.b, 10, none⟩ = some (.pointer (some ⟨R.pb, 0, none⟩)) := fun q => (H2.out.still q.ok).r10
      have f16 : ∀ q : KW W2, q.it.cell? ⟨R.b, 16, none⟩ = some (.int .i64 S2.ct) := fun q => (H2.out.still q.ok).r16
      obtain ⟨v1, h1⟩ : ∃ v, stt S2.n S2.T on = v := ⟨_, rfl⟩
      obtain ⟨v2, h2⟩ : ∃ v, hdd S2.n S2.T on = v := ⟨_, rfl⟩
      obtain ⟨v3, h3⟩ : ∃ v, blk S2.n S2.T on true = v := ⟨_, rfl⟩
      obtain ⟨v4, h4⟩ : ∃ v, S2.ct = v := ⟨_, rfl⟩
      obtain ⟨v5, h5⟩ : ∃ v : Int, ((wts S2.E).length : Int) = v := ⟨_, rfl⟩
      obtain ⟨v6, h6⟩ : ∃ v : Int, (cntB S2.F S2.n : Int) = v := ⟨_, rfl⟩
      rw [h1] at D1 D2
      rw [h2] at D3 D4
      rw [h3] at D5 D6
      rw [h4] at D7 f16
      rw [h5] at D8 D9
      rw [h6] at DA DB
      clear h1 h2 h3 h4 h5 h6
      have z1 : (v1 != v1) = false := by simp
      have z2 : (v2 != v2) = false := by simp
      have z3 : (v3 != v3) = false := by simp
      have z4 : (v4 != v4) = false := by simp
      have z5 : (v5 != v5) = false := by simp
      have z6 : (v6 != v6) = false := by simp
      refine wp_region_kept (by kernel_rfl) (by kernel_rfl) fun _ => ?_
      simp only [List.append_eq, List.cons_append, List.nil_append]
      repeat (go_big_quiet_step (first | (go_at_call 14; exact kept_of_same (D1.out _)) | (go_at_call 15; exact kept_of_same (D2.out _)) | (go_at_call 16; exact kept_of_same (D3.out _)) | (go_at_call 17; exact kept_of_same (D4.out _)) | (go_at_call 18; exact kept_of_same (D5.out _)) | (go_at_call 19; exact kept_of_same (D6.out _)) | (go_at_call 20; exact kept_of_same (D7.out _)) | (go_at_call 21; exact kept_of (D8.out _)) | (go_at_call 22; exact kept_of_same (D9.out _)) | (go_at_call 23; exact kept_of_same (DA.out _)) | (go_at_call 24; exact kept_of_same (DB.out _))))
      refine wpQuiet_nil ?_
      rintro _ ⟨q, rfl⟩
      have H3 : Hid (Two w A R S2 q.it) := H2.out.still q.ok
      clear D1 D2 D3 D4 D5 D6 D7 D8 D9 DA DB f10 f16 z1 z2 z3 z4 z5 z6 y1 y2 y3 H2
      generalize q.it = W3 at *
      clear q
      go_upto_region 23 with fail
      have D1 : Hid (∀ q : KW W3, _) := fun q => two_coil (H3.out.still q.ok)
      have D2 : Hid (∀ q : KW W3, _) := fun q => two_current (H3.out.still q.ok)
      have D3 : Hid (∀ q : KW W3, _) := fun q => two_room (H3.out.still q.ok)
      have D4 : Hid (∀ q : KW W3, _) := fun q => two_rroom (H3.out.still q.ok)
      have D5 : Hid (∀ q : KW W3, _) := fun q => two_left (H3.out.still q.ok)
      have f14 : ∀ q : KW W3, q.it.cell? ⟨R.b, 14, none⟩ = some (.pointer (some ⟨R.kb, 0, none⟩)) := fun q => (H3.out.still q.ok).r14
      have g1 : ∀ q : KW W3, q.it.cell? ⟨R.kb, 1, none⟩ = some (.int .i64 (S2.K.c : Int)) := fun q => (H3.out.still q.ok).k1
      have g2 : ∀ q : KW W3, q.it.cell? ⟨R.kb, 2, none⟩ = some (.int .i64 (S2.K.k : Int)) := fun q => (H3.out.still q.ok).k2
      obtain ⟨v1, h1⟩ : ∃ v : Int, (S2.K.c : Int) = v := ⟨_, rfl⟩
      obtain ⟨v2, h2⟩ : ∃ v : Int, (S2.K.k : Int) = v := ⟨_, rfl⟩
      obtain ⟨v3, h3⟩ : ∃ v, roomF S2.K = v := ⟨_, rfl⟩
      rw [h1] at D2 g1
      rw [h2] at D5 g2
      rw [h3] at D3 D4
      clear h1 h2 h3
      have z1 : (v1 != v1) = false := by simp
      have z2 : (v2 != v2) = false := by simp
      have z3 : (v3 != v3) = false := by simp
      refine wp_region_kept (by kernel_rfl) (by kernel_rfl) fun _ => ?_
      repeat (go_big_quiet_step (first | (go_at_call 10; exact kept_of_same (D1.out _)) | (go_at_call 25; exact kept_of_same (D2.out _)) | (go_at_call 26; exact kept_of (D3.out _)) | (go_at_call 27; exact kept_of (D4.out _)) | (go_at_call 28; exact kept_of_same (D5.out _))))
      refine wpQuiet_nil ?_
      rintro _ ⟨q, rfl⟩
      have H4 : Hid (Two w A R S2 q.it ∧ Inv S2 (j + 1)) := ⟨H3.out.still q.ok, HI2.out⟩
      clear D1 D2 D3 D4 D5 f14 g1 g2 z1 z2 z3 H3 HI2
      go_wp2
      go_roundg (l9 - (j + 1))
      all_goals (have := HM.out; try omega)
      exact ⟨j + 1, S2, by go_num, by omega, by omega, H4.out⟩
    · obtain rfl : j = l9 := by omega
      have K2 : Hid (Kept w wr) := hw.out.1.2
      clear hw HM HX HV
      go_wp2_with fail
      refine (first_any wr).mono ?_
      rintro e w9 ⟨rfl, k9⟩
      have H9 : Hid (Kept w w9) := K2.out.trans k9
      clear k9
      go_wp2
      go_ret
      exact ⟨rfl, H9.out⟩
end Go.Proofs.YtahpnnjemjjfhaaGreat

/-
  A configuration that came in: its shapes, and their fields, lie in memory.
-/
namespace Go.Proofs.YtahpnnjemjjfhaaGreat
open Go.RowKit Go.ChangeShapes Go.WideShapes Go.Deep

section
variable {H : Type} {enc : TypeId × Value → H} {W : World} {sp : Nat → Bool} {held : Bool}

theorem refs_open {fuel : Nat} {x : Option Addr} {l c : Nat} {y : DataW H × List MemPlace} (h : DataW.trod enc Tryz.prog W 0 sp held fuel 65 [.slice x l c] = some y) : ∃ R, Refs W x l R := by
  rcases open_slice1 Tryz.underlying65 (by kernel_rfl) h with ⟨h0, _⟩ | ⟨a, len, cap, m, n, V, D, Pl, h0, _, hl, _, hm, _, hx⟩
  · simp at h0
    exact ⟨fun _ => false, fun h => by omega⟩
  · simp at h0
    obtain ⟨rfl, rfl, rfl⟩ := h0
    have hlm : l ≤ m := by rw [hm]; split <;> omega
    refine ⟨fun i => match V i with | .bool b => b | _ => false, fun hp => ?_⟩
    obtain ⟨b, o, s⟩ := a
    obtain rfl : s = none := by simpa [Addr.add] using World.cell?_spot (hx 0 (by omega)).1
    refine ⟨b, o, rfl, ?_, fun k hk => ?_⟩
    · simpa [Addr.add] using cell_lt (hx 0 (by omega)).1
    · obtain ⟨h1, h2⟩ := hx k (by omega)
      obtain ⟨q, hq, _⟩ := DataW.trod_bool Tryz.underlying4 h2
      simp at hq
      rw [add_plain] at h1
      rw [h1, hq]
      simp [hq]

theorem shps_open {fuel : Nat} {x : Option Addr} {l c : Nat} {y : DataW H × List MemPlace} (h : DataW.trod enc Tryz.prog W 0 sp held fuel 22 [.slice x l c] = some y) :
    ∃ (S : Nat → Sh) (R : Nat → Nat → Bool), Shps W x l S ∧ ∀ i, i < l → Refs W (S i).x (S i).l (R i) := by
  rcases open_slice_pairs Tryz.underlying22 Tryz.underlying67 (by kernel_rfl) rfl rfl (by kernel_rfl) (by kernel_rfl) h with ⟨h0, _⟩ | ⟨a, len, cap, m, n, V0, V1, D0, D1, P0, P1, h0, _, hl, _, hm, _, hx⟩
  · simp at h0
    exact ⟨fun _ => ⟨false, none, 0, 0⟩, fun _ _ => false, fun h => by omega, fun i hi => by omega⟩
  · simp at h0
    obtain ⟨rfl, rfl, rfl⟩ := h0
    have hlm : l ≤ m := by rw [hm]; split <;> omega
    have each : ∀ i, i < l → ∃ q : Sh × (Nat → Bool), V0 i = .bool q.1.arr ∧ V1 i = .slice q.1.x q.1.l q.1.c ∧ Refs W q.1.x q.1.l q.2 := by
      intro i hi
      obtain ⟨_, _, h3, h4⟩ := hx i (by omega)
      obtain ⟨b, hb, _⟩ := DataW.trod_bool Tryz.underlying4 h3
      simp at hb
      rcases DataW.trod_slice Tryz.underlying65 h4 with ⟨g, _⟩ | ⟨a', len, cap, _, _, _, _, g, _⟩
      · simp at g
        rw [g] at h4
        obtain ⟨R, hR⟩ := refs_open h4
        exact ⟨(⟨b, none, 0, 0⟩, R), hb, g, hR⟩
      · simp at g
        rw [g] at h4
        obtain ⟨R, hR⟩ := refs_open h4
        exact ⟨(⟨b, some a', len, cap⟩, R), hb, g, hR⟩
    haveI : Inhabited (Sh × (Nat → Bool)) := ⟨(⟨false, none, 0, 0⟩, fun _ => false)⟩
    obtain ⟨q, hq⟩ := choose_lt each
    refine ⟨fun i => (q i).1, fun i => (q i).2, fun hp => ?_, fun i hi => (hq i hi).2.2⟩
    obtain ⟨b, o, s⟩ := a
    obtain rfl : s = none := by simpa [Addr.add] using World.cell?_spot (hx 0 (by omega)).1
    refine ⟨b, o, rfl, ?_, fun k hk => ?_⟩
    · simpa [Addr.add] using cell_lt (hx 0 (by omega)).1
    · obtain ⟨h1, h2, _⟩ := hx k (by omega)
      rw [add_plain] at h1 h2
      rw [h1, Nat.add_assoc, h2, (hq k hk).1, (hq k hk).2.1]
      exact ⟨rfl, rfl⟩

theorem conf_open {a0 a1 a2 a3 a4 a5 a6 a7 : Value} {x : Option Addr} {l c : Nat} {d : DataW H} {p : List MemPlace} (h : DataW.Trod enc Tryz.prog W 0 sp held 24 (.agg #[a0, a1, a2, a3, a4, a5, a6, a7, .slice x l c]) d p) :
    ∃ (S : Nat → Sh) (R : Nat → Nat → Bool), Shps W x l S ∧ ∀ i, i < l → Refs W (S i).x (S i).l (R i) := by
  obtain ⟨fuel, h⟩ := h
  obtain ⟨xs, n, _, _, _, hxl, hf⟩ := DataW.trod_struct Tryz.underlying24 h
  have h8 := hf 8 _ rfl
  have e : Tryz.prog.cellsOf 22 = 1 := by kernel_rfl
  simp [Value.cells, e] at h8
  obtain ⟨y, hy⟩ : ∃ y, xs[8]? = some y := by
    have : 8 < xs.length := by rw [hxl]; decide
    exact ⟨_, List.getElem?_eq_getElem this⟩
  rw [hy] at h8
  exact shps_open h8
end
end Go.Proofs.YtahpnnjemjjfhaaGreat

/-
  The law SpacePlays: the walk.
-/
namespace Go.Proofs.YtahpnnjemjjfhaaGreat
open Go.RowKit

theorem spacePlays_any (n0 : Int) (n1 : Int) (n2 : Int) (n3 : Int) (n4 : Int) (n5 : Int) (n6 : Int) (n7 : Int) (x8 : Option Addr) (l8 z8 : Nat) (S8 : Nat → Sh) (R8 : Nat → Nat → Bool) (x9 : Option Addr) (l9 z9 : Nat) (L9 : Nat → Op21) (w : World) (_lo0 : IntKind.min .i64 ≤ n0) (_hi0 : n0 ≤ IntKind.max .i64) (_lo1 : IntKind.min .i64 ≤ n1) (_hi1 : n1 ≤ IntKind.max .i64) (_lo2 : IntKind.min .i64 ≤ n2) (_hi2 : n2 ≤ IntKind.max .i64) (_lo3 : IntKind.min .i64 ≤ n3) (_hi3 : n3 ≤ IntKind.max .i64) (_lo4 : IntKind.min .i64 ≤ n4) (_hi4 : n4 ≤ IntKind.max .i64) (_lo5 : IntKind.min .i64 ≤ n5) (_hi5 : n5 ≤ IntKind.max .i64) (_lo6 : IntKind.min .i64 ≤ n6) (_hi6 : n6 ≤ IntKind.max .i64) (_lo7 : IntKind.min .i64 ≤ n7) (_hi7 : n7 ≤ IntKind.max .i64) (_h8c : l8 ≤ z8) (hS8 : Shps w x8 l8 S8) (hR8 : ∀ i, i < l8 → Refs w (S8 i).x (S8 i).l (R8 i)) (_h9c : l9 ≤ z9) (hL9 : Ops w x9 l9 L9) :
    Calls Tryz.prog 3 #[.agg #[.int .i64 n0, .int .i64 n1, .int .i64 n2, .int .i64 n3, .int .i64 n4, .int .i64 n5, .int .i64 n6, .int .i64 n7, .slice x8 l8 z8], .slice x9 l9 z9] w fun e w' => e = .returned (.bool true) ∧ Kept w w' := by
  clear _lo0 _hi0 _lo1 _hi1 _lo2 _hi2 _lo3 _hi3 _lo4 _hi4 _lo5 _hi5 _lo6 _hi6 _lo7 _hi7 _h8c _h9c
  by_cases hs : Small l8 S8 ∧ l9 ≤ 300
  · by_cases hn : 0 ≤ n0 ∧ n0 ≤ 1024
    · obtain ⟨n, rfl⟩ := Int.eq_ofNat_of_zero_le hn.1
      obtain ⟨r, hr, _⟩ := Checks.some n n1 n2 n3 n4 n5 n6 n7 l8 S8
      by_cases h0 : r = 0
      · subst h0
        obtain ⟨hf, hm⟩ := hr.zero
        obtain ⟨s, rfl⟩ := Int.eq_ofNat_of_zero_le (show 0 ≤ n1 by have := hf.2.1; omega)
        obtain ⟨m, rfl⟩ := Int.eq_ofNat_of_zero_le (show 0 ≤ n3 by have := hf.2.2.2.2.2.1; omega)
        obtain ⟨ch, rfl⟩ := Int.eq_ofNat_of_zero_le (show 0 ≤ n5 by have := hf.2.2.2.2.2.2.2.1; omega)
        exact plays_in n s m ch n2 n4 n6 n7 x8 l8 z8 S8 R8 x9 l9 z9 L9 w hS8 hR8 hL9 hs ⟨hf, hm⟩
      · exact plays_conf n n1 n2 n3 n4 n5 n6 n7 x8 l8 z8 S8 x9 l9 z9 w hS8 hs (by omega) r hr h0
    · exact plays_tab n0 n1 n2 n3 n4 n5 n6 n7 x8 l8 z8 S8 x9 l9 z9 w hS8 hs hn
  · exact plays_few n0 n1 n2 n3 n4 n5 n6 n7 x8 l8 z8 S8 x9 l9 z9 w hS8 hs
end Go.Proofs.YtahpnnjemjjfhaaGreat

