/-
  GraphArrays.
-/
import Derived.Test.YtbmcbkebcchjmaaGreatDoorSemZ20
namespace Go.Proofs.YtbmcbkebcchjmaaGreatDoor
open Go.RowKit
attribute [local go_sem] run_store_complex

set_option maxHeartbeats 16000000 in
set_option maxRecDepth 10000 in
theorem arrays_any {w : World} (hv : Vs w) (N : Int) (ref : Bool) : Calls Tryz.prog 3 #[.int .i64 N, .bool ref] w fun e w' => e = .returned (.bool true) ∧ Kept w w' := by
  have HV : Hid (Vs w) := hv
  clear hv
  go_enter Tryz.func3, Tryz.ntmps3
  go_wp2_with fail
  refine (first_any HV.out).mono ?_
  rintro e w1 ⟨rfl, k1⟩
  have K1 : Hid (Kept w w1) := k1
  clear k1
  go_wp2_with fail
  refine (wide_any w1).mono ?_
  rintro e w2 ⟨g, S, rfl, hcm, k2⟩
  have K2 : Hid (Kept w w2 ∧ CM CX w2 (some ⟨g, 0, none⟩) S) := ⟨K1.out.trans k2, ⟨hcm.shps, hcm.refs, hcm.arr, hcm.len⟩⟩
  clear hcm k2 K1
  unfold Cf.val Cw
  dsimp only
  go_wp2_with fail
  generalize hW3 : w2.alloc _ = W3
  have K3 : Hid (Kept w W3 ∧ CM CX W3 (some ⟨g, 0, none⟩) S) := by
    have k : Kept w2 W3 := by rw [← hW3]; exact (Kept.refl _).alloc _ _
    exact ⟨K2.out.1.trans k, K2.out.2.kept k⟩
  clear hW3 K2
  have HN : Hid (Calls Tryz.prog 7 #[CX.val (.slice (some ⟨g, 0, none⟩) 3 3)] W3 fun e w' => ∃ p F, e = .returned (.tuple #[.pointer (some ⟨p, 0, none⟩), .int .i64 0]) ∧ GS CX W3.heap.size p F ⟨[], none, [noneV, noneV]⟩ w' ∧ Kept W3 w') := gs_new CX.ok W3 K3.out.2 (HV.out.keep K3.out.1) (n := 2) rfl (.inr rfl)
  refine HN.out.mono ?_
  rintro e w4 ⟨p, F4, rfl, g4, k4⟩
  have HB : Hid (w.heap.size ≤ W3.heap.size) := K3.out.1.size
  have G4 : Hid (GS CX W3.heap.size p F4 ⟨[], none, [noneV, noneV]⟩ w4 ∧ Kept w w4) := ⟨g4, K3.out.1.trans k4⟩
  clear g4 k4 HN K3
  go_wp2_with fail
  have HJ : Hid (Calls Tryz.prog 8 #[.pointer (some ⟨p, 0, none⟩), .int .i64 0] w4 fun e w' => e = .returned (.bool true) ∧ ∃ F', GS CX W3.heap.size p F' ⟨[], some [zerV, zerV, zerV, zerV], gG⟩ w' ∧ Grow F4 F' w4 w') := gs_join G4.out.1 CX.ok rfl (n := 4) rfl (.inr rfl)
  refine HJ.out.mono ?_
  rintro e w5 ⟨rfl, F5, g5, r5⟩
  have G5 : Hid (GS CX W3.heap.size p F5 ⟨[], some [zerV, zerV, zerV, zerV], gG⟩ w5 ∧ Kept w w5) := ⟨g5, G4.out.1.apart r5 G4.out.2 HB.out⟩
  clear HJ G4 g5 r5
  by_cases b1 : N < 0
  · have t1 : decide (N < 0) = true := decide_eq_true b1
    go_wp2_with fail
    refine (first_any (HV.out.keep G5.out.2)).mono ?_
    rintro e w6 ⟨rfl, k6⟩
    have K6 : Hid (Kept w w6) := G5.out.2.trans k6
    clear k6 G5
    go_wp2_with fail
    go_ret
    exact ⟨rfl, K6.out⟩
  have t1 : decide (N < 0) = false := decide_eq_false b1
  by_cases b2 : 512 < N
  · have t2 : decide (512 < N) = true := decide_eq_true b2
    go_wp2_with fail
    refine (first_any (HV.out.keep G5.out.2)).mono ?_
    rintro e w6 ⟨rfl, k6⟩
    have K6 : Hid (Kept w w6) := G5.out.2.trans k6
    clear k6 G5
    go_wp2_with fail
    go_ret
    exact ⟨rfl, K6.out⟩
  have hN1 : 0 ≤ N := by omega
  have hN2 : N ≤ 512 := by omega
  have t2 : decide (512 < N) = false := decide_eq_false b2
  clear b1 b2
  obtain ⟨M, rfl⟩ : ∃ M : Nat, N = (M : Int) := ⟨N.toNat, by omega⟩
  cases ref
  ·   go_wp2_with fail
      have H6 : Hid (Calls Tryz.prog 9 #[.pointer (some ⟨p, 0, none⟩), .slice (some ⟨w5.heap.size, 0, none⟩) 1 1] (w5.alloc (.cells ([oArr 2 (M : Int)].flatMap OP.cs).toArray 38)) fun e w' => e = .returned (.tuple #[.agg #[.bool (refV 0).r, .complex .f64 (refV 0).x (refV 0).y], .int .i64 0]) ∧ ∃ F', (GS CX W3.heap.size p F' (aS 2 (M : Int) zerV) w' ∧ Kept w w') ∧ Grow F5 F' w5 w') := one_to G5.out.1 G5.out.2 HB.out (runs_arr (.inr rfl) hN1 hN2) (by simp) _
      refine H6.out.mono ?_
      rintro e w6 ⟨rfl, Fw6, g, r⟩
      have Gw6 : Hid (GS CX W3.heap.size p Fw6 (aS 2 (M : Int) zerV) w6 ∧ Kept w w6) := g
      clear H6 G5 g r
      go_wp2_with fail
      generalize hW7 : w6.alloc _ = W7
      have z7 : W7.heap.size = w6.heap.size + 1 := by rw [← hW7]; simp
      have G7 : Hid (GS CX W3.heap.size p Fw6 (aS 2 (M : Int) zerV) W7 ∧ Kept w W7) := by
        have k : Kept w6 W7 := by rw [← hW7]; exact (Kept.refl _).alloc _ _
        exact ⟨Gw6.out.1.kept k, Gw6.out.2.trans k⟩
      clear hW7 Gw6
      rw [← z7]
      clear z7
      have H8 : Hid (Calls Tryz.prog 9 #[.pointer (some ⟨p, 0, none⟩), .slice (some ⟨W7.heap.size, 0, none⟩) 1 1] (W7.alloc (.cells ([oLen].flatMap OP.cs).toArray 38)) fun e w' => e = .returned (.tuple #[.agg #[.bool (numV (M : Int)).r, .complex .f64 (numV (M : Int)).x (numV (M : Int)).y], .int .i64 0]) ∧ ∃ F', (GS CX W3.heap.size p F' (aS 2 (M : Int) (numV (M : Int))) w' ∧ Kept w w') ∧ Grow Fw6 F' W7 w') := one_to G7.out.1 G7.out.2 HB.out (runs_len (.inr rfl) hN1 hN2 _) (by simp) _
      refine H8.out.mono ?_
      rintro e w8 ⟨rfl, Fw8, g, r⟩
      have Gw8 : Hid (GS CX W3.heap.size p Fw8 (aS 2 (M : Int) (numV (M : Int))) w8 ∧ Kept w w8) := g
      clear H8 G7 g r
      generalize hx : (numV (M : Int)).x = vx
      have HX : Hid ((numV (M : Int)).x = vx) := hx
      clear hx
      go_wp2_with fail
      generalize hW9 : w8.alloc _ = W9
      have z9 : W9.heap.size = w8.heap.size + 1 := by rw [← hW9]; simp
      have k9 : Kept w8 W9 := by rw [← hW9]; exact (Kept.refl _).alloc _ _
      have G9 : Hid (GS CX W3.heap.size p Fw8 (aS 2 (M : Int) (numV (M : Int))) W9 ∧ Kept w W9) := ⟨Gw8.out.1.kept k9, Gw8.out.2.trans k9⟩
      have BV9 : Hid (Blk W9 w8.heap.size [.bool (numV (M : Int)).r, .complex .f64 vx (numV (M : Int)).y]) := by rw [← hW9]; exact Blk.new w8 _ _
      have NV9 : Hid (w8.heap.size ∉ Fw8) := fun q => absurd (Gw8.out.1.ge _ q).2 (by omega)
      clear hW9 Gw8 k9
      rw [← z9]
      clear z9
      have Ha : Hid (Calls Tryz.prog 9 #[.pointer (some ⟨p, 0, none⟩), .slice (some ⟨W9.heap.size, 0, none⟩) 1 1] (W9.alloc (.cells ([oKind].flatMap OP.cs).toArray 38)) fun e w' => e = .returned (.tuple #[.agg #[.bool (numV ((2 : Nat) : Int)).r, .complex .f64 (numV ((2 : Nat) : Int)).x (numV ((2 : Nat) : Int)).y], .int .i64 0]) ∧ ∃ F', (GS CX W3.heap.size p F' (aS 2 (M : Int) (numV ((2 : Nat) : Int))) w' ∧ Kept w w') ∧ Grow Fw8 F' W9 w') := one_to G9.out.1 G9.out.2 HB.out (runs_kind (.inr rfl) _) (by simp) _
      refine Ha.out.mono ?_
      rintro e wa ⟨rfl, Fwa, g, r⟩
      have Gwa : Hid (GS CX W3.heap.size p Fwa (aS 2 (M : Int) (numV ((2 : Nat) : Int))) wa ∧ Kept w wa) := g
      have BVa : Hid (Blk wa w8.heap.size [.bool (numV (M : Int)).r, .complex .f64 vx (numV (M : Int)).y]) := r.blk BV9.out NV9.out
      clear Ha G9 g r BV9 NV9
      generalize hy : (numV ((2 : Nat) : Int)).x = vy
      have HY : Hid ((numV ((2 : Nat) : Int)).x = vy) := hy
      clear hy
      go_wp2_with fail
      generalize hWb : wa.alloc _ = Wb
      have kb : Kept wa Wb := by rw [← hWb]; exact (Kept.refl _).alloc _ _
      have Gb : Hid (GS CX W3.heap.size p Fwa (aS 2 (M : Int) (numV ((2 : Nat) : Int))) Wb ∧ Kept w Wb) := ⟨Gwa.out.1.kept kb, Gwa.out.2.trans kb⟩
      have BVb : Hid (Blk Wb w8.heap.size [.bool (numV (M : Int)).r, .complex .f64 vx (numV (M : Int)).y]) := BVa.out.kept kb
      have BWb : Hid (Blk Wb wa.heap.size [.bool (numV ((2 : Nat) : Int)).r, .complex .f64 vy (numV ((2 : Nat) : Int)).y]) := by rw [← hWb]; exact Blk.new wa _ _
      clear hWb Gwa kb BVa
      refine (arr_live Gb.out.1 (.inr rfl)).mono ?_
      rintro e wc ⟨rfl, kc⟩
      have Gc : Hid (GS CX W3.heap.size p Fwa (aS 2 (M : Int) (numV ((2 : Nat) : Int))) wc ∧ Kept w wc) := ⟨Gb.out.1.kept kc, Gb.out.2.trans kc⟩
      have BVc : Hid (Blk wc w8.heap.size [.bool (numV (M : Int)).r, .complex .f64 vx (numV (M : Int)).y]) := BVb.out.kept kc
      have BWc : Hid (Blk wc wa.heap.size [.bool (numV ((2 : Nat) : Int)).r, .complex .f64 vy (numV ((2 : Nat) : Int)).y]) := BWb.out.kept kc
      have HS : Hid (∀ (x : Option Addr) (W : World), Calls Tryz.prog 11 #[.agg #[.bool true, .slice x 1 1], .int .i64 (M : Int)] W fun e w' => e = .returned (.int .i64 (CX.fr 2 (M : Int))) ∧ Kept W w') := fun x W => size_ok CX.ok (k := 2) (by decide) (M : Int) (fun e => by cases e) x 1 W
      have HP : Hid (∀ (x : Option Addr) (W : World), Calls Tryz.prog 12 #[.agg #[.bool true, .slice x 1 1], .int .i64 (M : Int)] W fun e w' => e = .returned (.int .i64 (CX.sp 2 (M : Int))) ∧ Kept W w') := fun x W => spine_ok CX.ok (k := 2) (by decide) (M : Int) x 1 W
      clear Gb BVb BWb kc
      generalize CX.fr 2 (M : Int) = fr at *
      generalize CX.sp 2 (M : Int) = sp at *
      go_wp2_with fail
      generalize hWd : (wc.alloc _).alloc _ = Wd
      have kd0 : Kept wc Wd := by rw [← hWd]; exact ((Kept.refl _).alloc _ _).alloc _ _
      have Gd : Hid (GS CX W3.heap.size p Fwa (aS 2 (M : Int) (numV ((2 : Nat) : Int))) Wd ∧ Kept w Wd) := ⟨Gc.out.1.kept kd0, Gc.out.2.trans kd0⟩
      have BVd : Hid (Blk Wd w8.heap.size [.bool (numV (M : Int)).r, .complex .f64 vx (numV (M : Int)).y]) := BVc.out.kept kd0
      have BWd : Hid (Blk Wd wa.heap.size [.bool (numV ((2 : Nat) : Int)).r, .complex .f64 vy (numV ((2 : Nat) : Int)).y]) := BWc.out.kept kd0
      have BSd : Hid (Blk Wd (wc.heap.size + 1) [.bool true, .slice (some ⟨wc.heap.size, 0, none⟩) 1 1]) := by
        have z : (wc.alloc (.cells #[.bool false] 4)).heap.size = wc.heap.size + 1 := by simp
        rw [← hWd, ← z]
        exact Blk.new _ [.bool true, .slice (some ⟨wc.heap.size, 0, none⟩) 1 1] _
      clear hWd kd0 Gc BVc BWc
      refine (HS.out _ _).mono ?_
      rintro e we ⟨rfl, ke⟩
      have Ge : Hid (GS CX W3.heap.size p Fwa (aS 2 (M : Int) (numV ((2 : Nat) : Int))) we ∧ Kept w we) := ⟨Gd.out.1.kept ke, Gd.out.2.trans ke⟩
      have BVe : Hid (Blk we w8.heap.size [.bool (numV (M : Int)).r, .complex .f64 vx (numV (M : Int)).y]) := BVd.out.kept ke
      have BWe : Hid (Blk we wa.heap.size [.bool (numV ((2 : Nat) : Int)).r, .complex .f64 vy (numV ((2 : Nat) : Int)).y]) := BWd.out.kept ke
      have BSe : Hid (Blk we (wc.heap.size + 1) [.bool true, .slice (some ⟨wc.heap.size, 0, none⟩) 1 1]) := BSd.out.kept ke
      clear ke Gd BVd BWd BSd
      have s0 := BSe.out.at 0 rfl
      have s1 := BSe.out.at 1 rfl
      go_wp2_with fail
      refine (HP.out _ _).mono ?_
      rintro e wf ⟨rfl, ke⟩
      have Gf : Hid (GS CX W3.heap.size p Fwa (aS 2 (M : Int) (numV ((2 : Nat) : Int))) wf ∧ Kept w wf) := ⟨Ge.out.1.kept ke, Ge.out.2.trans ke⟩
      have BVf : Hid (Blk wf w8.heap.size [.bool (numV (M : Int)).r, .complex .f64 vx (numV (M : Int)).y]) := BVe.out.kept ke
      have BWf : Hid (Blk wf wa.heap.size [.bool (numV ((2 : Nat) : Int)).r, .complex .f64 vy (numV ((2 : Nat) : Int)).y]) := BWe.out.kept ke
      clear ke Ge BVe BWe BSe s0 s1 HS HP
      have a1 := BVf.out.at 1 rfl
      have b1 := BWf.out.at 1 rfl
      have HW1 : Hid (∀ W, Calls Tryz.prog 13 #[.complex .f64 vx (numV (M : Int)).y, .complex .f64 (floatOfInt .f64 (M : Int)) 0] W fun e w' => e = .returned (.bool true) ∧ w' = W) := fun W => word_is _ _ _ _ true (by rw [← HX.out]; exact nn_fi (M : Int)) nn_zero (nn_fi (M : Int)) nn_zero (decide_eq_true ⟨HX.out.symm, rfl⟩) W
      have HW2 : Hid (∀ W, Calls Tryz.prog 13 #[.complex .f64 vy (numV ((2 : Nat) : Int)).y, .complex .f64 (floatOfInt .f64 2) 0] W fun e w' => e = .returned (.bool true) ∧ w' = W) := fun W => word_is _ _ _ _ true (by rw [← HY.out]; exact nn_fi ((2 : Nat) : Int)) nn_zero (nn_fi _) nn_zero (decide_eq_true ⟨HY.out.symm, rfl⟩) W
      go_wp2_with fail
      refine (HW1.out _).mono ?_
      rintro e wg ⟨rfl, eg⟩
      rw [eg]
      clear eg wg
      go_wp2_with fail
      refine (HW2.out _).mono ?_
      rintro e wg ⟨rfl, eg⟩
      rw [eg]
      clear eg wg HW1 HW2 a1 b1 BVf BWf
      go_wp2_with fail
      go_loopg [18] M (fun m i wr => ∃ (k : Nat) (F : List Nat) (x : V), i = .int .i64 (k : Int) ∧ k ≤ M ∧ m = M - k ∧ Hid (GS CX W3.heap.size p F (aS 2 (M : Int) x) wr ∧ Kept w wr))
      case atStart => exact ⟨0, Fwa, _, rfl, Nat.zero_le _, rfl, Gf.out⟩
      case round =>
        obtain ⟨k, F, x, rfl, hk2, rfl, hh⟩ := hrel
        by_cases hlt : k < M
        · have hlt2 : (k : Int) < (M : Int) := by omega
          go_wp2_with fail
          have Hk : Hid (Calls Tryz.prog 9 #[.pointer (some ⟨p, 0, none⟩), .slice (some ⟨wr.heap.size, 0, none⟩) 1 1] (wr.alloc (.cells ([oGet k].flatMap OP.cs).toArray 38)) fun e w' => e = .returned (.tuple #[.agg #[.bool false, .complex .f64 0 0], .int .i64 0]) ∧ ∃ F', (GS CX W3.heap.size p F' (aS 2 (M : Int) zerV) w' ∧ Kept w w') ∧ Grow F F' wr w') := one_to hh.out.1 hh.out.2 HB.out (runs_get (v := zerV) (.inr rfl) hlt2 x rfl) (by simp) _
          refine Hk.out.mono ?_
          rintro e wk ⟨rfl, Fk, g, r⟩
          have Gk : Hid (GS CX W3.heap.size p Fk (aS 2 (M : Int) zerV) wk ∧ Kept w wk) := g
          clear Hk hh g r
          go_wp2_with fail
          generalize hWl : wk.alloc _ = Wl
          have kl : Kept wk Wl := by rw [← hWl]; exact (Kept.refl _).alloc _ _
          have Gl : Hid (GS CX W3.heap.size p Fk (aS 2 (M : Int) zerV) Wl ∧ Kept w Wl) := ⟨Gk.out.1.kept kl, Gk.out.2.trans kl⟩
          have BXl : Hid (Blk Wl wk.heap.size [.bool false, .complex .f64 0 0]) := by rw [← hWl]; exact Blk.new wk _ _
          clear hWl kl Gk
          have x0 := BXl.out.at 0 rfl
          have x1 := BXl.out.at 1 rfl
          have HWx : Hid (∀ W, Calls Tryz.prog 13 #[.complex .f64 0 0, .complex .f64 0 0] W fun e w' => e = .returned (.bool true) ∧ w' = W) := fun W => word_is _ _ _ _ true nn_zero nn_zero nn_zero nn_zero (decide_eq_true ⟨rfl, rfl⟩) W
          refine (HWx.out _).mono ?_
          rintro e wm ⟨rfl, em⟩
          rw [em]
          clear em wm HWx
          go_wp2_with fail
          go_roundg (M - (k + 1))
          case rel => exact ⟨k + 1, Fk, _, rfl, by omega, rfl, Gl.out⟩
          case measure => omega
        · obtain rfl : k = M := by omega
          go_wp2_with fail
          refine (first_any (HV.out.keep hh.out.2)).mono ?_
          rintro e wg ⟨rfl, kg⟩
          have Kg : Hid (Kept w wg) := hh.out.2.trans kg
          clear kg hh
          go_wp2_with fail
          go_ret
          exact ⟨rfl, Kg.out⟩
  ·   go_wp2_with fail
      have H6 : Hid (Calls Tryz.prog 9 #[.pointer (some ⟨p, 0, none⟩), .slice (some ⟨w5.heap.size, 0, none⟩) 1 1] (w5.alloc (.cells ([oArr 1 (M : Int)].flatMap OP.cs).toArray 38)) fun e w' => e = .returned (.tuple #[.agg #[.bool (refV 0).r, .complex .f64 (refV 0).x (refV 0).y], .int .i64 0]) ∧ ∃ F', (GS CX W3.heap.size p F' (aS 1 (M : Int) zerV) w' ∧ Kept w w') ∧ Grow F5 F' w5 w') := one_to G5.out.1 G5.out.2 HB.out (runs_arr (.inl rfl) hN1 hN2) (by simp) _
      refine H6.out.mono ?_
      rintro e w6 ⟨rfl, Fw6, g, r⟩
      have Gw6 : Hid (GS CX W3.heap.size p Fw6 (aS 1 (M : Int) zerV) w6 ∧ Kept w w6) := g
      clear H6 G5 g r
      go_wp2_with fail
      generalize hW7 : w6.alloc _ = W7
      have z7 : W7.heap.size = w6.heap.size + 1 := by rw [← hW7]; simp
      have G7 : Hid (GS CX W3.heap.size p Fw6 (aS 1 (M : Int) zerV) W7 ∧ Kept w W7) := by
        have k : Kept w6 W7 := by rw [← hW7]; exact (Kept.refl _).alloc _ _
        exact ⟨Gw6.out.1.kept k, Gw6.out.2.trans k⟩
      clear hW7 Gw6
      rw [← z7]
      clear z7
      have H8 : Hid (Calls Tryz.prog 9 #[.pointer (some ⟨p, 0, none⟩), .slice (some ⟨W7.heap.size, 0, none⟩) 1 1] (W7.alloc (.cells ([oLen].flatMap OP.cs).toArray 38)) fun e w' => e = .returned (.tuple #[.agg #[.bool (numV (M : Int)).r, .complex .f64 (numV (M : Int)).x (numV (M : Int)).y], .int .i64 0]) ∧ ∃ F', (GS CX W3.heap.size p F' (aS 1 (M : Int) (numV (M : Int))) w' ∧ Kept w w') ∧ Grow Fw6 F' W7 w') := one_to G7.out.1 G7.out.2 HB.out (runs_len (.inl rfl) hN1 hN2 _) (by simp) _
      refine H8.out.mono ?_
      rintro e w8 ⟨rfl, Fw8, g, r⟩
      have Gw8 : Hid (GS CX W3.heap.size p Fw8 (aS 1 (M : Int) (numV (M : Int))) w8 ∧ Kept w w8) := g
      clear H8 G7 g r
      generalize hx : (numV (M : Int)).x = vx
      have HX : Hid ((numV (M : Int)).x = vx) := hx
      clear hx
      go_wp2_with fail
      generalize hW9 : w8.alloc _ = W9
      have z9 : W9.heap.size = w8.heap.size + 1 := by rw [← hW9]; simp
      have k9 : Kept w8 W9 := by rw [← hW9]; exact (Kept.refl _).alloc _ _
      have G9 : Hid (GS CX W3.heap.size p Fw8 (aS 1 (M : Int) (numV (M : Int))) W9 ∧ Kept w W9) := ⟨Gw8.out.1.kept k9, Gw8.out.2.trans k9⟩
      have BV9 : Hid (Blk W9 w8.heap.size [.bool (numV (M : Int)).r, .complex .f64 vx (numV (M : Int)).y]) := by rw [← hW9]; exact Blk.new w8 _ _
      have NV9 : Hid (w8.heap.size ∉ Fw8) := fun q => absurd (Gw8.out.1.ge _ q).2 (by omega)
      clear hW9 Gw8 k9
      rw [← z9]
      clear z9
      have Ha : Hid (Calls Tryz.prog 9 #[.pointer (some ⟨p, 0, none⟩), .slice (some ⟨W9.heap.size, 0, none⟩) 1 1] (W9.alloc (.cells ([oKind].flatMap OP.cs).toArray 38)) fun e w' => e = .returned (.tuple #[.agg #[.bool (numV ((1 : Nat) : Int)).r, .complex .f64 (numV ((1 : Nat) : Int)).x (numV ((1 : Nat) : Int)).y], .int .i64 0]) ∧ ∃ F', (GS CX W3.heap.size p F' (aS 1 (M : Int) (numV ((1 : Nat) : Int))) w' ∧ Kept w w') ∧ Grow Fw8 F' W9 w') := one_to G9.out.1 G9.out.2 HB.out (runs_kind (.inl rfl) _) (by simp) _
      refine Ha.out.mono ?_
      rintro e wa ⟨rfl, Fwa, g, r⟩
      have Gwa : Hid (GS CX W3.heap.size p Fwa (aS 1 (M : Int) (numV ((1 : Nat) : Int))) wa ∧ Kept w wa) := g
      have BVa : Hid (Blk wa w8.heap.size [.bool (numV (M : Int)).r, .complex .f64 vx (numV (M : Int)).y]) := r.blk BV9.out NV9.out
      clear Ha G9 g r BV9 NV9
      generalize hy : (numV ((1 : Nat) : Int)).x = vy
      have HY : Hid ((numV ((1 : Nat) : Int)).x = vy) := hy
      clear hy
      go_wp2_with fail
      generalize hWb : wa.alloc _ = Wb
      have kb : Kept wa Wb := by rw [← hWb]; exact (Kept.refl _).alloc _ _
      have Gb : Hid (GS CX W3.heap.size p Fwa (aS 1 (M : Int) (numV ((1 : Nat) : Int))) Wb ∧ Kept w Wb) := ⟨Gwa.out.1.kept kb, Gwa.out.2.trans kb⟩
      have BVb : Hid (Blk Wb w8.heap.size [.bool (numV (M : Int)).r, .complex .f64 vx (numV (M : Int)).y]) := BVa.out.kept kb
      have BWb : Hid (Blk Wb wa.heap.size [.bool (numV ((1 : Nat) : Int)).r, .complex .f64 vy (numV ((1 : Nat) : Int)).y]) := by rw [← hWb]; exact Blk.new wa _ _
      clear hWb Gwa kb BVa
      refine (arr_live Gb.out.1 (.inl rfl)).mono ?_
      rintro e wc ⟨rfl, kc⟩
      have Gc : Hid (GS CX W3.heap.size p Fwa (aS 1 (M : Int) (numV ((1 : Nat) : Int))) wc ∧ Kept w wc) := ⟨Gb.out.1.kept kc, Gb.out.2.trans kc⟩
      have BVc : Hid (Blk wc w8.heap.size [.bool (numV (M : Int)).r, .complex .f64 vx (numV (M : Int)).y]) := BVb.out.kept kc
      have BWc : Hid (Blk wc wa.heap.size [.bool (numV ((1 : Nat) : Int)).r, .complex .f64 vy (numV ((1 : Nat) : Int)).y]) := BWb.out.kept kc
      have HS : Hid (∀ (x : Option Addr) (W : World), Calls Tryz.prog 11 #[.agg #[.bool true, .slice x 1 1], .int .i64 (M : Int)] W fun e w' => e = .returned (.int .i64 (CX.fr 1 (M : Int))) ∧ Kept W w') := fun x W => size_ok CX.ok (k := 1) (by decide) (M : Int) (fun e => by cases e) x 1 W
      have HP : Hid (∀ (x : Option Addr) (W : World), Calls Tryz.prog 12 #[.agg #[.bool true, .slice x 1 1], .int .i64 (M : Int)] W fun e w' => e = .returned (.int .i64 (CX.sp 1 (M : Int))) ∧ Kept W w') := fun x W => spine_ok CX.ok (k := 1) (by decide) (M : Int) x 1 W
      clear Gb BVb BWb kc
      generalize CX.fr 1 (M : Int) = fr at *
      generalize CX.sp 1 (M : Int) = sp at *
      go_wp2_with fail
      generalize hWd : (wc.alloc _).alloc _ = Wd
      have kd0 : Kept wc Wd := by rw [← hWd]; exact ((Kept.refl _).alloc _ _).alloc _ _
      have Gd : Hid (GS CX W3.heap.size p Fwa (aS 1 (M : Int) (numV ((1 : Nat) : Int))) Wd ∧ Kept w Wd) := ⟨Gc.out.1.kept kd0, Gc.out.2.trans kd0⟩
      have BVd : Hid (Blk Wd w8.heap.size [.bool (numV (M : Int)).r, .complex .f64 vx (numV (M : Int)).y]) := BVc.out.kept kd0
      have BWd : Hid (Blk Wd wa.heap.size [.bool (numV ((1 : Nat) : Int)).r, .complex .f64 vy (numV ((1 : Nat) : Int)).y]) := BWc.out.kept kd0
      have BSd : Hid (Blk Wd (wc.heap.size + 1) [.bool true, .slice (some ⟨wc.heap.size, 0, none⟩) 1 1]) := by
        have z : (wc.alloc (.cells #[.bool true] 4)).heap.size = wc.heap.size + 1 := by simp
        rw [← hWd, ← z]
        exact Blk.new _ [.bool true, .slice (some ⟨wc.heap.size, 0, none⟩) 1 1] _
      clear hWd kd0 Gc BVc BWc
      refine (HS.out _ _).mono ?_
      rintro e we ⟨rfl, ke⟩
      have Ge : Hid (GS CX W3.heap.size p Fwa (aS 1 (M : Int) (numV ((1 : Nat) : Int))) we ∧ Kept w we) := ⟨Gd.out.1.kept ke, Gd.out.2.trans ke⟩
      have BVe : Hid (Blk we w8.heap.size [.bool (numV (M : Int)).r, .complex .f64 vx (numV (M : Int)).y]) := BVd.out.kept ke
      have BWe : Hid (Blk we wa.heap.size [.bool (numV ((1 : Nat) : Int)).r, .complex .f64 vy (numV ((1 : Nat) : Int)).y]) := BWd.out.kept ke
      have BSe : Hid (Blk we (wc.heap.size + 1) [.bool true, .slice (some ⟨wc.heap.size, 0, none⟩) 1 1]) := BSd.out.kept ke
      clear ke Gd BVd BWd BSd
      have s0 := BSe.out.at 0 rfl
      have s1 := BSe.out.at 1 rfl
      go_wp2_with fail
      refine (HP.out _ _).mono ?_
      rintro e wf ⟨rfl, ke⟩
      have Gf : Hid (GS CX W3.heap.size p Fwa (aS 1 (M : Int) (numV ((1 : Nat) : Int))) wf ∧ Kept w wf) := ⟨Ge.out.1.kept ke, Ge.out.2.trans ke⟩
      have BVf : Hid (Blk wf w8.heap.size [.bool (numV (M : Int)).r, .complex .f64 vx (numV (M : Int)).y]) := BVe.out.kept ke
      have BWf : Hid (Blk wf wa.heap.size [.bool (numV ((1 : Nat) : Int)).r, .complex .f64 vy (numV ((1 : Nat) : Int)).y]) := BWe.out.kept ke
      clear ke Ge BVe BWe BSe s0 s1 HS HP
      have a1 := BVf.out.at 1 rfl
      have b1 := BWf.out.at 1 rfl
      have HW1 : Hid (∀ W, Calls Tryz.prog 13 #[.complex .f64 vx (numV (M : Int)).y, .complex .f64 (floatOfInt .f64 (M : Int)) 0] W fun e w' => e = .returned (.bool true) ∧ w' = W) := fun W => word_is _ _ _ _ true (by rw [← HX.out]; exact nn_fi (M : Int)) nn_zero (nn_fi (M : Int)) nn_zero (decide_eq_true ⟨HX.out.symm, rfl⟩) W
      have HW2 : Hid (∀ W, Calls Tryz.prog 13 #[.complex .f64 vy (numV ((1 : Nat) : Int)).y, .complex .f64 (floatOfInt .f64 1) 0] W fun e w' => e = .returned (.bool true) ∧ w' = W) := fun W => word_is _ _ _ _ true (by rw [← HY.out]; exact nn_fi ((1 : Nat) : Int)) nn_zero (nn_fi _) nn_zero (decide_eq_true ⟨HY.out.symm, rfl⟩) W
      go_wp2_with fail
      refine (HW1.out _).mono ?_
      rintro e wg ⟨rfl, eg⟩
      rw [eg]
      clear eg wg
      go_wp2_with fail
      refine (HW2.out _).mono ?_
      rintro e wg ⟨rfl, eg⟩
      rw [eg]
      clear eg wg HW1 HW2 a1 b1 BVf BWf
      go_wp2_with fail
      go_loopg [18] M (fun m i wr => ∃ (k : Nat) (F : List Nat) (x : V), i = .int .i64 (k : Int) ∧ k ≤ M ∧ m = M - k ∧ Hid (GS CX W3.heap.size p F (aS 1 (M : Int) x) wr ∧ Kept w wr))
      case atStart => exact ⟨0, Fwa, _, rfl, Nat.zero_le _, rfl, Gf.out⟩
      case round =>
        obtain ⟨k, F, x, rfl, hk2, rfl, hh⟩ := hrel
        by_cases hlt : k < M
        · have hlt2 : (k : Int) < (M : Int) := by omega
          go_wp2_with fail
          have Hk : Hid (Calls Tryz.prog 9 #[.pointer (some ⟨p, 0, none⟩), .slice (some ⟨wr.heap.size, 0, none⟩) 1 1] (wr.alloc (.cells ([oGet k].flatMap OP.cs).toArray 38)) fun e w' => e = .returned (.tuple #[.agg #[.bool true, .complex .f64 0 4607182418800017408], .int .i64 0]) ∧ ∃ F', (GS CX W3.heap.size p F' (aS 1 (M : Int) noneV) w' ∧ Kept w w') ∧ Grow F F' wr w') := one_to hh.out.1 hh.out.2 HB.out (runs_get (v := noneV) (.inl rfl) hlt2 x rfl) (by simp) _
          refine Hk.out.mono ?_
          rintro e wk ⟨rfl, Fk, g, r⟩
          have Gk : Hid (GS CX W3.heap.size p Fk (aS 1 (M : Int) noneV) wk ∧ Kept w wk) := g
          clear Hk hh g r
          go_wp2_with fail
          generalize hWl : wk.alloc _ = Wl
          have kl : Kept wk Wl := by rw [← hWl]; exact (Kept.refl _).alloc _ _
          have Gl : Hid (GS CX W3.heap.size p Fk (aS 1 (M : Int) noneV) Wl ∧ Kept w Wl) := ⟨Gk.out.1.kept kl, Gk.out.2.trans kl⟩
          have BXl : Hid (Blk Wl wk.heap.size [.bool true, .complex .f64 0 4607182418800017408]) := by rw [← hWl]; exact Blk.new wk _ _
          clear hWl kl Gk
          have x0 := BXl.out.at 0 rfl
          have x1 := BXl.out.at 1 rfl
          have HWx : Hid (∀ W, Calls Tryz.prog 13 #[.complex .f64 0 4607182418800017408, .complex .f64 0 4607182418800017408] W fun e w' => e = .returned (.bool true) ∧ w' = W) := fun W => word_is _ _ _ _ true nn_zero nn_one nn_zero nn_one (decide_eq_true ⟨rfl, rfl⟩) W
          refine (HWx.out _).mono ?_
          rintro e wm ⟨rfl, em⟩
          rw [em]
          clear em wm HWx
          go_wp2_with fail
          go_roundg (M - (k + 1))
          case rel => exact ⟨k + 1, Fk, _, rfl, by omega, rfl, Gl.out⟩
          case measure => omega
        · obtain rfl : k = M := by omega
          go_wp2_with fail
          refine (first_any (HV.out.keep hh.out.2)).mono ?_
          rintro e wg ⟨rfl, kg⟩
          have Kg : Hid (Kept w wg) := hh.out.2.trans kg
          clear kg hh
          go_wp2_with fail
          go_ret
          exact ⟨rfl, Kg.out⟩
end Go.Proofs.YtbmcbkebcchjmaaGreatDoor
