/-
  The law SpaceFails: two whole cycles.
-/
import Derived.Test.YtahpnnjemjjfhaaLw21
namespace Go.Proofs.Ytahpnnjemjjfhaa
open Go.RowKit

def fN (c : Int) : Sp := { Sp.new 8 0 3 0 with ct := c }
def fA (c : Int) : Sp := (fN c).ask 0 7 0 true
def fB (c : Int) : Sp := (fA c).ask 1 2 0 true
def fC (c : Int) : Sp := (fB c).ask 2 1 0 true
def fL (c : Int) : Nat → Sp
  | 0 => (fC c).tick.end_
  | k + 1 => ((((fL c k).serve true).look 1).begin).end_
def gA (c : Int) : Sp := (fL c 2).serve true
def gB (c : Int) : Sp := (gA c).look 1
def gC (c : Int) : Sp := (gB c).serve true
def gD (c : Int) : Sp := (gC c).look 2
def gE (c : Int) : Sp := (gD c).look 1
theorem fN_begin (c : Int) : (fN c).begin = fN (c + 1) := rfl
theorem fN_end (c : Int) : (fN c).end_ = fN (c + 1) := rfl
theorem f_a (c : Int) : (fN c).askG 0 7 0 = ⟨1, [1, 2, 3, 4, 5, 6, 7], -1⟩ := by kernel_rfl
theorem f_b (c : Int) : (fA c).askG 1 2 0 = ⟨0, [], -1⟩ := by kernel_rfl
theorem f_c (c : Int) : (fB c).askG 2 1 0 = ⟨0, [], -1⟩ := by kernel_rfl
theorem f_w (A : Ad) (c : Int) : A.wants (fC c) = true := by kernel_rfl
theorem f_s (c : Int) : ∀ k, k < 2 → (fL c k).serves = false
  | 0, _ => by kernel_rfl
  | 1, _ => by kernel_rfl
  | k + 2, h => by omega
theorem f_l (c : Int) : ∀ k, k < 2 → ((fL c k).serve true).lookG 1 = ⟨0, [], -1⟩
  | 0, _ => by kernel_rfl
  | 1, _ => by kernel_rfl
  | k + 2, h => by omega
theorem g_a (c : Int) : (fL c 2).serves = true := by kernel_rfl
theorem g_b (c : Int) : (gA c).lookG 1 = ⟨2, [], -1⟩ := by kernel_rfl
theorem g_c (c : Int) : (gB c).serves = true := by kernel_rfl
theorem g_d (c : Int) : (gC c).lookG 2 = ⟨1, [0], -1⟩ := by kernel_rfl
theorem g_w (c : Int) : (wts (gD c).E).length = 0 := by kernel_rfl
theorem g_f (c : Int) : cntB (gD c).F (gD c).n = 0 := by kernel_rfl
theorem g_e (c : Int) : (gD c).lookG 1 = ⟨3, [], -1⟩ := by kernel_rfl
theorem g_g (c : Int) : (gE c).serves = false := by kernel_rfl

set_option maxRecDepth 8000 in
set_option maxHeartbeats 8000000 in
theorem fails_in (a : Nat) (w : World) (ha : a ≤ 20) : Calls Try.prog 7 #[.int .i64 (a : Int)] w fun e w' => e = .returned (.bool true) ∧ Kept w w' := by
  go_enter Try.func7, Try.ntmps7
  go_wp2_with fail
  refine (first_any w).mono ?_
  rintro e wa ⟨rfl, ka⟩
  have KA : Hid (Kept w wa) := ka
  clear ka
  go_wp2_with fail
  refine (small_any 8 0 0 wa).mono ?_
  rintro e W ⟨b, rfl, sb, kb⟩
  have KB : Hid (Kept w W ∧ Shps W (some ⟨b, 0, none⟩) 1 S1) := ⟨KA.out.trans kb, sb⟩
  clear sb kb KA
  have CM := made_small 8 0 0 W KB.out.2 (by decide)
  go_wp2_with fail
  refine CM.mono ?_
  rintro e w1 ⟨A, rfl, l1, _⟩
  have H1 : Hid (Lw W w1 A (fN 0) 0 []) := l1
  clear l1 CM
  go_wp2
  go_loopg [5] a (fun m i wr => ∃ k : Nat, i = .int .i64 k ∧ k ≤ a ∧ m = a - k ∧ Hid (Lw W wr A (fN (2 * k : Nat)) (2 * k) []))
  case atStart => exact ⟨0, rfl, by omega, by omega, H1⟩
  case round =>
    obtain ⟨k, rfl, hk, hm, hw⟩ := hrel
    have HM : Hid _ := hm
    clear hm
    by_cases hlt : k < a
    · have hki : (k : Int) < (a : Int) := by omega
      have C := hw.out.begin (fun _ h => by cases h) (by omega)
      go_wp2_with fail
      refine C.mono ?_
      rintro e w2 ⟨rfl, lw2, _⟩
      have H2 : Hid (Lw W w2 A (fN (2 * k : Nat)).begin (2 * k + 1) []) := lw2
      clear lw2 C hw
      have C := H2.out.end_ (fun _ h => by cases h) (by omega)
      go_wp2_with fail
      refine C.mono ?_
      rintro e w3 ⟨rfl, lw3, _⟩
      have h3 : Lw W w3 A (fN (2 * (k + 1) : Nat)) (2 * (k + 1)) [] := by
        have e1 : (fN (2 * k : Nat)).begin.end_ = fN (2 * (k + 1) : Nat) := by
          rw [fN_begin, fN_end]
          congr 1
        rw [← e1]
        exact lw3
      have H3 : Hid _ := h3
      clear lw3 C H2 h3
      go_wp2
      go_roundg (gk - 1)
      all_goals (have := HM.out; try omega)
      exact ⟨k + 1, by go_num, by omega, by omega, H3⟩
    · obtain rfl : k = a := by omega
      obtain ⟨ct, hct⟩ : ∃ ct : Int, ct = ((2 * k : Nat) : Int) := ⟨_, rfl⟩
      rw [← hct] at hw
      obtain ⟨kb, hkb⟩ : ∃ kb : Nat, kb = 2 * k := ⟨_, rfl⟩
      rw [← hkb] at hw
      have kb40 : kb ≤ 40 := by omega
      clear hct hkb
      have C := hw.out.ask (fun _ h => by cases h) (by omega) 0 7 0 true
      rw [f_a] at C
      go_wp2_with fail
      refine C.mono ?_
      rintro e w2 ⟨xa, dxa, rfl, _, _, lw2, _⟩
      have H2a : Hid (Lw W w2 A (fA ct) (kb + 1) []) := lw2
      clear lw2 C hw
      go_wp2_with fail
      generalize hW : World.alloc _ _ = w3
      obtain ⟨ba, hba⟩ : ∃ ba, ba = w2.heap.size := ⟨_, rfl⟩
      rw [← hba]
      have H2 : Hid (Lw W w3 A (fA ct) (kb + 1) [ba] ∧ Blk w3 ba [.int .i64 1, .slice xa [1, 2, 3, 4, 5, 6, 7].length dxa, .int .i64 (-1)]) := by
        rw [← hW, hba]
        exact ⟨H2a.out.alloc _ _, Blk.new w2 _ _⟩
      clear hW hba H2a
      have C := H2.out.1.ask (fun k h => by
          simp only [List.mem_cons, List.not_mem_nil, or_false] at h
          rcases h with rfl
          · exact H2.out.2.lt
        ) (by omega) 1 2 0 true
      rw [f_b] at C
      go_wp2_with fail
      refine C.mono ?_
      rintro e w4 ⟨xb, dxb, rfl, _, _, lw2, un2⟩
      have H3a : Hid (Lw W w4 A (fB ct) (kb + 2) [ba] ∧ Blk w4 ba [.int .i64 1, .slice xa [1, 2, 3, 4, 5, 6, 7].length dxa, .int .i64 (-1)]) := ⟨lw2, un2.blk H2.out.2 (by simp)⟩
      clear C lw2 un2
      go_wp2_with fail
      generalize hW : World.alloc _ _ = w5
      obtain ⟨bb, hbb⟩ : ∃ bb, bb = w4.heap.size := ⟨_, rfl⟩
      rw [← hbb]
      have H3 : Hid (Lw W w5 A (fB ct) (kb + 2) [bb, ba] ∧ Blk w5 bb [.int .i64 0, .slice xb ([] : List Int).length dxb, .int .i64 (-1)] ∧ Blk w5 ba [.int .i64 1, .slice xa [1, 2, 3, 4, 5, 6, 7].length dxa, .int .i64 (-1)]) := by
        rw [← hW, hbb]
        exact ⟨H3a.out.1.alloc _ _, Blk.new w4 _ _, (H3a.out.2).kept ((Kept.refl _).alloc _ _)⟩
      clear hW hbb H3a
      have C := H3.out.1.ask (fun k h => by
          simp only [List.mem_cons, List.not_mem_nil, or_false] at h
          rcases h with rfl | rfl
          · exact H3.out.2.1.lt
          · exact H3.out.2.2.lt
        ) (by omega) 2 1 0 true
      rw [f_c] at C
      go_wp2_with fail
      refine C.mono ?_
      rintro e w6 ⟨xc, dxc, rfl, _, _, lw2, un2⟩
      have H4a : Hid (Lw W w6 A (fC ct) (kb + 3) [bb, ba] ∧ Blk w6 bb [.int .i64 0, .slice xb ([] : List Int).length dxb, .int .i64 (-1)] ∧ Blk w6 ba [.int .i64 1, .slice xa [1, 2, 3, 4, 5, 6, 7].length dxa, .int .i64 (-1)]) := ⟨lw2, un2.blk H3.out.2.1 (by simp), un2.blk H3.out.2.2 (by simp)⟩
      clear C lw2 un2
      have ca := H4a.out.2.2.at 0 rfl
      have cb := H4a.out.2.1.at 0 rfl
      have a0 : ∀ C t, (w6.alloc (.cells C t)).cell? ⟨ba, 0, none⟩ = some (.int .i64 1) := fun C t => ((Kept.refl w6).alloc C t).cell H4a.out.2.2.lt |>.trans ca
      have a1 : ∀ C t, (w6.alloc (.cells C t)).cell? ⟨bb, 0, none⟩ = some (.int .i64 0) := fun C t => ((Kept.refl w6).alloc C t).cell H4a.out.2.1.lt |>.trans cb
      go_wp2_with fail
      generalize hW : World.alloc _ _ = w7
      have H5 : Hid (Lw W w7 A (fC ct) (kb + 3) []) := by
        rw [← hW]
        exact (H4a.out.1.keep ((Kept.refl _).alloc _ _)).less (fun _ h => by cases h)
      clear hW ca cb a0 a1 H4a
      have C := H5.out.wants (fun _ h => by cases h) (by omega)
      rw [f_w] at C
      refine C.mono ?_
      rintro e w8 ⟨rfl, lw2, _⟩
      have H6 : Hid (Lw W w8 A (fC ct).tick (kb + 4) []) := lw2
      clear lw2 C H5
      have C := H6.out.end_ (fun _ h => by cases h) (by omega)
      go_wp2_with fail
      refine C.mono ?_
      rintro e w9 ⟨rfl, lw2, _⟩
      have H7 : Hid (Lw W w9 A (fL ct 0) (kb + 5) []) := lw2
      clear lw2 C H6
      go_wp2
      go_loopg [9] 2 (fun m i wr2 => ∃ q : Nat, i = .int .i64 q ∧ q ≤ 2 ∧ m = 2 - q ∧ Hid (Lw W wr2 A (fL ct q) (kb + 5 + 4 * q) []))
      case atStart => exact ⟨0, rfl, by omega, by omega, H7⟩
      case round =>
        obtain ⟨q, rfl, hq, hm2, hw2⟩ := hrel
        have HM2 : Hid _ := hm2
        clear hm2
        by_cases hlt2 : q < 2
        · have hqi : (q : Int) < 2 := by omega
          have C := hw2.out.serve (fun _ h => by cases h) (by omega) true
          rw [f_s ct q hlt2] at C
          go_wp2_with fail
          refine C.mono ?_
          rintro e w10 ⟨rfl, lw2, _⟩
          have H8 : Hid (Lw W w10 A ((fL ct q).serve true) (kb + 5 + 4 * q + 1) []) := lw2
          clear lw2 C hw2
          have C := H8.out.look (fun _ h => by cases h) (by omega) 1
          rw [f_l ct q hlt2] at C
          go_wp2_with fail
          refine C.mono ?_
          rintro e w11 ⟨x, d, rfl, _, _, lw2, _⟩
          have H9 : Hid (Lw W w11 A (((fL ct q).serve true).look 1) (kb + 5 + 4 * q + 2) []) := lw2
          clear lw2 C H8
          have hf := field_gr (.int .i64 0) (.slice x 0 d) (.int .i64 (-1)) w11
          have C := H9.out.begin (fun _ h => by cases h) (by omega)
          go_wp2_with fail
          refine C.mono ?_
          rintro e w12 ⟨rfl, lw2, _⟩
          have H10 : Hid (Lw W w12 A (((fL ct q).serve true).look 1).begin (kb + 5 + 4 * q + 3) []) := lw2
          clear lw2 C H9
          have C := H10.out.end_ (fun _ h => by cases h) (by omega)
          go_wp2_with fail
          refine C.mono ?_
          rintro e w13 ⟨rfl, lw2, _⟩
          have H11 : Hid (Lw W w13 A (fL ct (q + 1)) (kb + 5 + 4 * (q + 1)) []) := lw2
          clear lw2 C H10
          go_wp2
          go_roundg (gk - 1)
          all_goals (have := HM2.out; try omega)
          exact ⟨q + 1, by go_num, by omega, by omega, H11⟩
        · obtain rfl : q = 2 := by omega
          have H12 : Hid (Lw W wr A (fL ct 2) (kb + 13) []) := hw2.out
          clear hw2
          have C := H12.out.serve (fun _ h => by cases h) (by omega) true
          rw [g_a] at C
          go_wp2_with fail
          refine C.mono ?_
          rintro e w14 ⟨rfl, lw2, _⟩
          have H13 : Hid (Lw W w14 A (gA ct) (kb + 14) []) := lw2
          clear lw2 C H12
          have C := H13.out.look (fun _ h => by cases h) (by omega) 1
          rw [g_b] at C
          go_wp2_with fail
          refine C.mono ?_
          rintro e w15 ⟨xx, dxx, rfl, _, _, lw2, _⟩
          have H14a : Hid (Lw W w15 A (gB ct) (kb + 15) []) := lw2
          clear lw2 C H13
          go_wp2_with fail
          generalize hW : World.alloc _ _ = w16
          obtain ⟨bx, hbx⟩ : ∃ bx, bx = w15.heap.size := ⟨_, rfl⟩
          rw [← hbx]
          have H14 : Hid (Lw W w16 A (gB ct) (kb + 15) [bx] ∧ Blk w16 bx [.int .i64 2, .slice xx ([] : List Int).length dxx, .int .i64 (-1)]) := by
            rw [← hW, hbx]
            exact ⟨H14a.out.alloc _ _, Blk.new w15 _ _⟩
          clear hW hbx H14a
          have C := H14.out.1.serve (fun k h => by
              simp only [List.mem_cons, List.not_mem_nil, or_false] at h
              rcases h with rfl
              · exact H14.out.2.lt
            ) (by omega) true
          rw [g_c] at C
          refine C.mono ?_
          rintro e w17 ⟨rfl, lw2, un2⟩
          have H15 : Hid (Lw W w17 A (gC ct) (kb + 16) [bx] ∧ Blk w17 bx [.int .i64 2, .slice xx ([] : List Int).length dxx, .int .i64 (-1)]) := ⟨lw2, un2.blk H14.out.2 (by simp)⟩
          clear C lw2 un2 H14
          have C := H15.out.1.look (fun k h => by
              simp only [List.mem_cons, List.not_mem_nil, or_false] at h
              rcases h with rfl
              · exact H15.out.2.lt
            ) (by omega) 2
          rw [g_d] at C
          go_wp2_with fail
          refine C.mono ?_
          rintro e w18 ⟨xy, dxy, rfl, _, _, lw2, un2⟩
          have H16a : Hid (Lw W w18 A (gD ct) (kb + 17) [bx] ∧ Blk w18 bx [.int .i64 2, .slice xx ([] : List Int).length dxx, .int .i64 (-1)]) := ⟨lw2, un2.blk H15.out.2 (by simp)⟩
          clear C lw2 un2 H15
          go_wp2_with fail
          generalize hW : World.alloc _ _ = w19
          obtain ⟨by_, hby_⟩ : ∃ by_, by_ = w18.heap.size := ⟨_, rfl⟩
          rw [← hby_]
          have H16 : Hid (Lw W w19 A (gD ct) (kb + 17) [by_, bx] ∧ Blk w19 by_ [.int .i64 1, .slice xy ([0] : List Int).length dxy, .int .i64 (-1)] ∧ Blk w19 bx [.int .i64 2, .slice xx ([] : List Int).length dxx, .int .i64 (-1)]) := by
            rw [← hW, hby_]
            exact ⟨H16a.out.1.alloc _ _, Blk.new w18 _ _, (H16a.out.2).kept ((Kept.refl _).alloc _ _)⟩
          clear hW hby_ H16a
          refine (first_any w19).mono ?_
          rintro e w20 ⟨rfl, k20⟩
          have H17 : Hid (Lw W w20 A (gD ct) (kb + 17) [by_, bx] ∧ Blk w20 by_ [.int .i64 1, .slice xy ([0] : List Int).length dxy, .int .i64 (-1)] ∧ Blk w20 bx [.int .i64 2, .slice xx ([] : List Int).length dxx, .int .i64 (-1)]) := ⟨H16.out.1.keep k20, H16.out.2.1.kept k20, H16.out.2.2.kept k20⟩
          clear k20 H16
          have x0 := H17.out.2.2.at 0 rfl
          have y0 := H17.out.2.1.at 0 rfl
          have y1 := H17.out.2.1.at 1 rfl
          have C := H17.out.1.waits
          rw [g_w] at C
          go_wp2_with fail
          refine C.mono ?_
          rintro e w21 ⟨rfl, lw2, _⟩
          have H18 : Hid (Lw W w21 A (gD ct) (kb + 17) []) := lw2.less (fun _ h => by cases h)
          clear C lw2 H17 x0 y0 y1
          have C := H18.out.free
          rw [g_f] at C
          go_wp2_with fail
          refine C.mono ?_
          rintro e w22 ⟨rfl, e22⟩
          rw [e22]
          clear C e22
          have C := H18.out.look (fun _ h => by cases h) (by omega) 1
          rw [g_e] at C
          go_wp2_with fail
          refine C.mono ?_
          rintro e w23 ⟨xz, dz, rfl, _, _, lw2, _⟩
          have H19 : Hid (Lw W w23 A (gE ct) (kb + 18) []) := lw2
          have hf := field_gr (.int .i64 3) (.slice xz 0 dz) (.int .i64 (-1)) w23
          clear C lw2 H18
          have C := H19.out.serve (fun _ h => by cases h) (by omega) true
          rw [g_g] at C
          go_wp2_with fail
          refine C.mono ?_
          rintro e w24 ⟨rfl, lw2, _⟩
          have H20 : Hid (Kept W w24) := lw2.kept
          clear C lw2 H19
          go_wp2
          go_ret
          exact ⟨rfl, KB.out.1.trans H20.out⟩

set_option maxHeartbeats 1000000 in
theorem spaceFails_any (n0 : Int) (w : World) (_lo0 : IntKind.min .i64 ≤ n0) (_hi0 : n0 ≤ IntKind.max .i64) :
    Calls Try.prog 7 #[.int .i64 n0] w fun e w' => e = .returned (.bool true) ∧ Kept w w' := by
  clear _lo0 _hi0
  by_cases h : 0 ≤ n0 ∧ n0 ≤ 20
  · obtain ⟨a, rfl⟩ : ∃ a : Nat, n0 = a := ⟨n0.toNat, by omega⟩
    exact fails_in a w (by omega)
  · have F : Hid (∀ w, _) := fun w => first_any w
    by_cases h0 : n0 < 0
    · clear h
      go_enter Try.func7, Try.ntmps7
      go_wp2_with fail
      refine (F.out w).mono ?_
      rintro e w1 ⟨rfl, k1⟩
      have K1 : Hid (Kept w w1) := k1
      clear k1
      go_wp2_with fail
      refine (F.out w1).mono ?_
      rintro e w2 ⟨rfl, k2⟩
      have K2 : Hid (Kept w w2) := K1.out.trans k2
      clear k2
      go_wp2
      go_ret
      exact ⟨rfl, K2.out⟩
    · have h1 : n0 > 20 := by omega
      clear h
      go_enter Try.func7, Try.ntmps7
      go_wp2_with fail
      refine (F.out w).mono ?_
      rintro e w1 ⟨rfl, k1⟩
      have K1 : Hid (Kept w w1) := k1
      clear k1
      go_wp2_with fail
      refine (F.out w1).mono ?_
      rintro e w2 ⟨rfl, k2⟩
      have K2 : Hid (Kept w w2) := K1.out.trans k2
      clear k2
      go_wp2
      go_ret
      exact ⟨rfl, K2.out⟩
end Go.Proofs.Ytahpnnjemjjfhaa
