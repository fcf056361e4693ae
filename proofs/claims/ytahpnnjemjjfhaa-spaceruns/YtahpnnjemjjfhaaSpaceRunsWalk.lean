/-
  The law SpaceRuns: a run, or a spine.
-/
import Derived.Test.YtahpnnjemjjfhaaLw21
namespace Go.Proofs.Ytahpnnjemjjfhaa
open Go.RowKit

def rF (i : Nat) : Nat → Bool := fun j => decide (j + i < 14)
def rT (i : Nat) : Nat → Fr := fun j => if j + i < 14 then ⟨0, false, false⟩ else ⟨2, false, true⟩
/-- i single ones were asked for. -/
def rR (room i : Nat) (ct : Int) : Sp := ⟨20, rT i, rF i, [], ⟨room, 0, 0, 0, 0⟩, 3, 0, fun _ => [], false, ct⟩
def uF (k : Nat) : Nat → Bool := fun j => decide (j % 2 = 0 ∧ j < 2 * k)
def uT (k : Nat) : Nat → Fr := fun j => if j % 2 = 0 ∧ j < 2 * k then ⟨0, false, false⟩ else ⟨2, false, true⟩
/-- k were swept. -/
def rU (room k : Nat) (ct : Int) : Sp := ⟨20, uT k, uF k, [], ⟨room, 0, 0, 0, 0⟩, 3, 0, fun _ => [], false, ct⟩

theorem n0_T : takeZ 20 F1 6 = [14, 15, 16, 17, 18, 19] := by kernel_rfl
theorem n0_L : takeL 20 F1 6 = [14, 15, 16, 17, 18, 19] := by kernel_rfl
theorem n0_R : runO 20 F1 6 = some 14 := by kernel_rfl
theorem n0_ask (spine room : Nat) (h : 1 ≤ spine) : (Sp.new 20 room 3 0).askG 0 6 spine = ⟨1, [14, 15, 16, 17, 18, 19], -1⟩ ∧ Eqv ((Sp.new 20 room 3 0).ask 0 6 spine true) (rR room 0 1) := by
  have hm : (Sp.new 20 room 3 0).may 0 6 spine = true := by
    simp only [Sp.may, Sp.isT, Sp.of, Sp.new]
    simp
  have h0 : ((spine : Int) == 0) = false := by simp; omega
  have hw : decide ((wts (Sp.new 20 room 3 0).E).length = 0) = true := by kernel_rfl
  have hc : cntB F1 20 = 20 := by kernel_rfl
  have hf : fitsB (Sp.new 20 room 3 0) 6 spine = true := by
    simp only [fitsB, Sp.new, n0_R, hc]
    simp
  constructor
  · unfold Sp.askG
    rw [if_pos hm, h0, Bool.false_and, if_neg (by simp), hw, hf]
    simp only [Bool.and_self, if_true]
    have : (Sp.new 20 room 3 0).tkA 6 spine = -1 := by
      simp only [Sp.tkA, Sp.new, n0_R]
      simp
    rw [this]
    rfl
  · have e : (Sp.new 20 room 3 0).ask 0 6 spine true = ((Sp.new 20 room 3 0).tick.tk 6 spine true).fill 0 := by
      unfold Sp.ask
      rw [if_pos hm, h0, Bool.false_and, if_neg (by simp), hw, hf]
      simp
    rw [e]
    refine (fill_none (by simp [Sp.tk, Sp.tick, Sp.new])).trans ⟨rfl, fun j hj => ?_, fun j hj => ?_, rfl, ?_, rfl, rfl, fun _ _ => rfl, rfl, rfl⟩
    · have hj : j < 20 := hj
      show useT 20 2 true T0 (takeZ 20 F1 6) j = rT 0 j
      rw [useT_at rfl _ _ hj, n0_T]
      unfold rT
      by_cases q : j < 14
      · rw [if_neg (by simp; omega), if_pos (by omega)]; rfl
      · rw [if_pos (by simp; omega), if_neg (by omega)]
    · have hj : j < 20 := hj
      show dropF F1 (takeL 20 F1 6) j = rF 0 j
      rw [n0_L]
      by_cases q : j < 14
      · simp [dropF, F1, rF, q]; omega
      · simp [dropF, F1, rF, q]; omega
    · show (if (((spine : Int) == 0) || (runO 20 F1 6).isSome) = true then _ else _) = _
      rw [n0_R]
      simp
      rfl

theorem r_T : ∀ i, i < 14 → takeZ 20 (rF i) 1 = [13 - (i : Int)] ∧ takeL 20 (rF i) 1 = [13 - i] ∧ cntB (rF i) 20 = 14 - i := by decide +kernel
theorem r_ask (room i : Nat) (ct : Int) (hi : i < 14) : (rR room i ct).askG 1 1 0 = ⟨1, [13 - (i : Int)], -1⟩ ∧ Eqv ((rR room i ct).ask 1 1 0 true) (rR room (i + 1) (ct + 1)) := by
  obtain ⟨h1, h2, h3⟩ := r_T i hi
  have hm : (rR room i ct).may 1 1 0 = true := by
    simp only [Sp.may, Sp.isT, Sp.of, rR]
    simp
  obtain ⟨a1, a2⟩ := ask_now (S := rR room i ct) (t := 1) (fr := 1) true hm (by simp [rR]) rfl (by show (1 : Int) ≤ (cntB (rF i) 20 : Nat); omega)
  rw [a1, a2]
  refine ⟨by rw [show takeZ (rR room i ct).n (rR room i ct).F 1 = takeZ 20 (rF i) 1 from rfl, h1], (fill_none (by simp [Sp.tk, Sp.tick, rR])).trans ⟨rfl, fun j hj => ?_, fun j hj => ?_, rfl, rfl, rfl, rfl, fun _ _ => rfl, rfl, rfl⟩⟩
  · have hj : j < 20 := hj
    show useT 20 2 true (rT i) (takeZ 20 (rF i) 1) j = rT (i + 1) j
    rw [useT_at rfl _ _ hj, h1]
    unfold rT
    by_cases q : j + i = 13
    · rw [if_pos (by simp; omega), if_neg (by omega)]
    · rw [if_neg (by simp; omega)]
      by_cases q2 : j + i < 14
      · rw [if_pos q2, if_pos (by omega)]
      · rw [if_neg q2, if_neg (by omega)]
  · have hj : j < 20 := hj
    show dropF (rF i) (takeL 20 (rF i) 1) j = rF (i + 1) j
    rw [h2]
    rw [Bool.eq_iff_iff]
    simp [dropF, rF]
    omega

theorem rU_0 (room : Nat) (ct : Int) : Eqv (rR room 14 ct) (rU room 0 ct) :=
  ⟨rfl, fun j _ => by show rT 14 j = uT 0 j; simp [rT, uT], fun j _ => by show rF 14 j = uF 0 j; simp [rF, uF], rfl, rfl, rfl, rfl, fun _ _ => rfl, rfl, rfl⟩
theorem u_sweep (room k : Nat) (ct : Int) (hk : k < 6) : (rU room k ct).sweeps (2 * k : Nat) false = true ∧ Eqv ((rU room k ct).sweep (2 * k : Nat) false) (rU room (k + 1) (ct + 1)) := by
  have hin : inn 20 ((2 * k : Nat) : Int) = true := tinn_of (by omega)
  have h1 : (rU room k ct).sweeps (2 * k : Nat) false = true := by
    have e : uT k (2 * k) = ⟨2, false, true⟩ := by simp [uT]
    simp only [Sp.sweeps, rU, stt, blk, usd, hin, Int.toNat_natCast, e]
    rfl
  refine ⟨h1, ?_⟩
  unfold Sp.sweep
  rw [if_pos h1]
  refine ⟨rfl, fun j hj => ?_, fun j hj => ?_, rfl, rfl, rfl, rfl, fun _ _ => rfl, rfl, rfl⟩
  · show setT 20 (uT k) ((2 * k : Nat) : Int) 0 false false j = uT (k + 1) j
    rw [setT_at rfl (by omega)]
    by_cases q : j = 2 * k
    · rw [if_pos q]
      unfold uT
      rw [if_pos (by omega)]
    · rw [if_neg q]
      unfold uT
      by_cases q2 : j % 2 = 0 ∧ j < 2 * k
      · rw [if_pos q2, if_pos (by omega)]
      · rw [if_neg q2, if_neg (by omega)]
  · show giveF 20 (uF k) ((2 * k : Nat) : Int) j = uF (k + 1) j
    rw [giveF_at (by omega) (by simp [uF])]
    by_cases q : j = 2 * k
    · rw [if_pos q]
      simp [uF]; omega
    · rw [if_neg q, Bool.eq_iff_iff]
      simp [uF]; omega

theorem u_T : takeZ 20 (uF 6) 6 = [0, 2, 4, 6, 8, 10] := by kernel_rfl
theorem u_R : runO 20 (uF 6) 6 = none := by kernel_rfl
theorem u_C : cntB (uF 6) 20 = 6 := by kernel_rfl
theorem u_may (room : Nat) (ct : Int) (spine : Nat) : (rU room 6 ct).may 2 6 spine = true := by
  simp only [Sp.may, Sp.isT, Sp.of, rU]
  simp
theorem u_no (spine room : Nat) (ct : Int) (h : 1 ≤ spine) (hr : room < spine) : (rU room 6 ct).askG 2 6 spine = ⟨0, [], -1⟩ ∧ (rU room 6 ct).ask 2 6 spine true = (rU room 6 ct).tick.addE 2 6 spine := by
  have h0 : ((spine : Int) == 0) = false := by simp; omega
  have hf : fitsB (rU room 6 ct) 6 spine = false := by
    simp only [fitsB, rU, u_R, u_C, h0, roomF, CS.u]
    simp; omega
  constructor
  · unfold Sp.askG
    rw [if_pos (u_may room ct spine), h0, Bool.false_and, if_neg (by simp), hf, Bool.and_false, if_neg (by simp)]
  · unfold Sp.ask
    rw [if_pos (u_may room ct spine), h0, Bool.false_and, if_neg (by simp), hf, Bool.and_false, if_neg (by simp)]
theorem u_wait (spine room : Nat) (ct : Int) : (wts ((rU room 6 ct).tick.addE 2 6 spine).E).length = 1 ∧ cntB ((rU room 6 ct).tick.addE 2 6 spine).F ((rU room 6 ct).tick.addE 2 6 spine).n = 6 := ⟨by kernel_rfl, u_C⟩
theorem u_yes (spine room : Nat) (ct : Int) (h : 1 ≤ spine) (hr : spine ≤ room) : (rU room 6 ct).askG 2 6 spine = ⟨1, [0, 2, 4, 6, 8, 10], 160⟩ ∧ (rU room 6 ct).ask 2 6 spine true = ((rU room 6 ct).tick.tk 6 spine true).fill 2 := by
  have h0 : ((spine : Int) == 0) = false := by simp; omega
  have hf : fitsB (rU room 6 ct) 6 spine = true := by
    simp only [fitsB, rU, u_R, u_C, h0, roomF, CS.u]
    simp; omega
  constructor
  · unfold Sp.askG
    rw [if_pos (u_may room ct spine), h0, Bool.false_and, if_neg (by simp), hf]
    have e : (rU room 6 ct).tkA 6 spine = 160 := by
      simp only [Sp.tkA, rU, u_R, h0, Sp.at, CS.u]
      simp
    rw [e, show takeZ (rU room 6 ct).n (rU room 6 ct).F 6 = takeZ 20 (uF 6) 6 from rfl, u_T]
    rfl
  · unfold Sp.ask
    rw [if_pos (u_may room ct spine), h0, Bool.false_and, if_neg (by simp), hf]
    rfl
theorem u_end (spine room : Nat) (ct : Int) (h : 1 ≤ spine) (hr : spine ≤ room) : usedF (((rU room 6 ct).tick.tk 6 spine true).fill 2).K 0 = (spine : Int) ∧ cntB (((rU room 6 ct).tick.tk 6 spine true).fill 2).F (((rU room 6 ct).tick.tk 6 spine true).fill 2).n = 0 := by
  have h0 : ((spine : Int) == 0) = false := by simp; omega
  constructor
  · show usedF (if (((spine : Int) == 0) || (runO 20 (uF 6) 6).isSome) = true then _ else takeS ⟨room, 0, 0, 0, 0⟩ spine) 0 = _
    rw [u_R, h0]
    have ht : takes ⟨room, 0, 0, 0, 0⟩ (spine : Int) = true := by simp [takes, roomF, CS.u]; omega
    simp [takeS, ht, putU, usedF]
  · kernel_rfl

set_option maxRecDepth 8000 in
set_option maxHeartbeats 8000000 in
theorem runs_in (spine room : Nat) (w : World) (hs : 1 ≤ spine ∧ spine ≤ 20) (hr : room ≤ 40) : Calls Try.prog 6 #[.int .i64 (spine : Int), .int .i64 (room : Int)] w fun e w' => e = .returned (.bool true) ∧ Kept w w' := by
  obtain ⟨hs1, hs2⟩ := hs
  have HH : Hid (1 ≤ spine ∧ spine ≤ 20 ∧ room ≤ 40) := ⟨hs1, hs2, hr⟩
  go_enter Try.func6, Try.ntmps6
  go_wp2_with fail
  refine (first_any w).mono ?_
  rintro e wa ⟨rfl, ka⟩
  have KA : Hid (Kept w wa) := ka
  clear ka
  go_wp2_with fail
  refine (small_any 20 room 0 wa).mono ?_
  rintro e W ⟨b, rfl, sb, kb⟩
  have KB : Hid (Kept w W ∧ Shps W (some ⟨b, 0, none⟩) 1 S1) := ⟨KA.out.trans kb, sb⟩
  clear sb kb KA
  have CM := made_small 20 room 0 W KB.out.2 (by omega)
  go_wp2_with fail
  refine CM.mono ?_
  rintro e w1 ⟨A, rfl, l1, _⟩
  have H1 : Hid (Lw W w1 A (Sp.new 20 room 3 0) 0 []) := l1
  clear l1 CM
  have C := H1.out.ask (fun _ h => by cases h) (by omega) 0 6 spine true
  rw [(n0_ask spine room HH.out.1).1] at C
  go_wp2_with fail
  refine C.mono ?_
  rintro e w2 ⟨x, d, rfl, r2, n2, lw2, _⟩
  have H2 : Hid (Lw W w2 A (rR room 0 1) 1 [] ∧ Rdi w2 x [14, 15, 16, 17, 18, 19]) := ⟨lw2.eqv (n0_ask spine room HH.out.1).2, r2⟩
  clear lw2 C H1 r2 n2
  go_wp2_with fail
  generalize hW : World.alloc _ _ = w3
  have H3 : Hid (Lw W w3 A (rR room 0 1) 1 [] ∧ Rdi w3 x [14, 15, 16, 17, 18, 19] ∧ Blk w3 w2.heap.size [.int .i64 1, .slice x [14, 15, 16, 17, 18, 19].length d, .int .i64 (-1)]) := by
    rw [← hW]
    have k1 : Kept w2 (w2.alloc (.cells #[.int .i64 1, .slice x [14, 15, 16, 17, 18, 19].length d, .int .i64 (-1)] 40)) := (Kept.refl w2).alloc _ _
    exact ⟨H2.out.1.keep k1, H2.out.2.kept k1, Blk.new w2 _ _⟩
  clear hW
  obtain ⟨bg, hbg⟩ : ∃ bg, bg = w2.heap.size := ⟨_, rfl⟩
  rw [← hbg] at H3 ⊢
  clear hbg H2
  have g1 := H3.out.2.2.at 1 rfl
  refine (H3.out.1.coil).mono ?_
  rintro e w4 ⟨rfl, e4⟩
  rw [e4]
  clear e4
  have CU := H3.out.1.used 0
  rw [show usedF (rR room 0 1).K 0 = 0 from rfl] at CU
  go_wp2_with fail
  refine CU.mono ?_
  rintro e w4 ⟨rfl, e4⟩
  rw [e4]
  clear e4 CU
  go_wp2_with fail
  generalize hW : World.alloc _ _ = w5
  have H5 : Hid (Lw W w5 A (rR room 0 1) 1 [] ∧ Rdi w5 x [14, 15, 16, 17, 18, 19] ∧ Rdi w5 (some ⟨w3.heap.size, 0, none⟩) [14, 15, 16, 17, 18, 19]) := by
    rw [← hW]
    have k1 : Kept w3 (w3.alloc (.cells (([14, 15, 16, 17, 18, 19] : List Int).map (Value.int .i64)).toArray 3)) := (Kept.refl w3).alloc _ _
    exact ⟨H3.out.1.keep k1, H3.out.2.1.kept k1, rdi_alloc w3 _⟩
  clear hW g1
  refine (ints_any (x := x) (y := some ⟨w3.heap.size, 0, none⟩) (c := d) (d := 6) (T := [14, 15, 16, 17, 18, 19]) w5 (by decide) H5.out.2.1 H5.out.2.2).mono ?_
  rintro e w6 ⟨rfl, k6⟩
  have H6 : Hid (Lw W w6 A (rR room 0 1) 1 []) := H5.out.1.keep k6
  clear k6 H5 H3
  go_wp2
  go_loopg [8] 14 (fun m i wr => ∃ k : Nat, i = .int .i64 k ∧ k ≤ 14 ∧ m = 14 - k ∧ Hid (Lw W wr A (rR room k (1 + k)) (1 + k) []))
  case atStart => exact ⟨0, rfl, by omega, by omega, H6⟩
  case round =>
    obtain ⟨k, rfl, hk, hm, hw⟩ := hrel
    have HM : Hid _ := hm
    clear hm
    by_cases hlt : k < 14
    · have hki : (k : Int) < 14 := by omega
      have C := hw.out.ask (fun _ h => by cases h) (by omega) 1 1 0 true
      rw [(r_ask room k (1 + k) hlt).1] at C
      go_wp2_with fail
      refine C.mono ?_
      rintro e w7 ⟨x7, d7, rfl, r7, n7, lw7, _⟩
      have h7 : Lw W w7 A (rR room (k + 1) (1 + (k + 1 : Nat))) (1 + (k + 1)) [] := by
        have := lw7.eqv (r_ask room k (1 + k) hlt).2
        rw [show (1 : Int) + k + 1 = 1 + (k + 1 : Nat) by omega] at this
        exact this
      have H7 : Hid _ := h7
      obtain ⟨g7, o7, rfl, hg7, hc7⟩ := r7 (by simp)
      have a0 := hc7 0 (by simp)
      have HG : Hid (g7 < w7.heap.size) := hg7
      simp only [List.getElem_cons_zero, Nat.add_zero] at a0
      have a1 : ∀ C t, (w7.alloc (.cells C t)).cell? ⟨g7, o7, none⟩ = some (.int .i64 (13 - (k : Int))) := fun C t => (((Kept.refl w7).alloc C t).cell hg7).trans a0
      have HK : Hid (∀ C t, Lw W (w7.alloc (.cells C t)) A (rR room (k + 1) (1 + (k + 1 : Nat))) (1 + (k + 1)) []) := fun C t => H7.out.keep ((Kept.refl w7).alloc C t)
      clear lw7 C hw h7 hc7 n7 hg7
      go_wp2
      go_roundg (gk - 1)
      all_goals (have := HM.out; try omega)
      exact ⟨k + 1, by go_num, by omega, by omega, HK.out _ _⟩
    · obtain rfl : k = 14 := by omega
      have H8 : Hid (Lw W wr A (rU room 0 15) 15 []) := hw.out.eqv (rU_0 room 15)
      clear hw H6
      obtain ⟨w9, rfl⟩ : ∃ w9, w9 = wr := ⟨_, rfl⟩
      go_wp2
      go_loopg [10] 6 (fun m i wr => ∃ k : Nat, i = .int .i64 (2 * k : Nat) ∧ k ≤ 6 ∧ m = 6 - k ∧ Hid (Lw W wr A (rU room k (15 + k)) (15 + k) []))
      case atStart => exact ⟨0, rfl, by omega, by omega, H8⟩
      case round =>
        obtain ⟨q, rfl, hq, hm2, hw2⟩ := hrel
        have HM2 : Hid _ := hm2
        clear hm2
        by_cases hlt2 : q < 6
        · have hqi : ((2 * q : Nat) : Int) < 12 := by omega
          have C := hw2.out.sweep (fun _ h => by cases h) (by omega) (2 * q : Nat) false
          rw [(u_sweep room q (15 + q) hlt2).1] at C
          go_wp2_with fail
          refine C.mono ?_
          rintro e w10 ⟨rfl, lw10, _⟩
          have h10 : Lw W w10 A (rU room (q + 1) (15 + (q + 1 : Nat))) (15 + (q + 1)) [] := by
            have := lw10.eqv (u_sweep room q (15 + q) hlt2).2
            rw [show (15 : Int) + q + 1 = 15 + (q + 1 : Nat) by omega] at this
            exact this
          have H10 : Hid _ := h10
          clear lw10 C hw2 h10
          have e2 : ((2 * q : Nat) : Int) + 2 = ((2 * (q + 1) : Nat) : Int) := by omega
          go_wp2
          go_roundg (gk - 1)
          all_goals (have := HM2.out; try omega)
          exact ⟨q + 1, by rw [← e2] <;> rfl, by omega, by omega, H10⟩
        · obtain rfl : q = 6 := by omega
          have H11 : Hid (Lw W wr A (rU room 6 21) 21 []) := hw2.out
          clear hw2 H8
          obtain ⟨w11, rfl⟩ : ∃ w11, w11 = wr := ⟨_, rfl⟩
          have C := H11.out.ask (fun _ h => by cases h) (by omega) 2 6 spine true
          by_cases hgt : room < spine
          · have hgi : (spine : Int) > (room : Int) := by omega
            obtain ⟨u1, u2⟩ := u_no spine room 21 HH.out.1 hgt
            obtain ⟨v1, v2⟩ := u_wait spine room 21
            rw [u1, u2] at C
            go_wp2_with fail
            refine C.mono ?_
            rintro e w12 ⟨x12, d12, rfl, _, _, lw12, _⟩
            have H12 : Hid (Lw W w12 A ((rU room 6 21).tick.addE 2 6 spine) 22 []) := lw12
            clear C lw12 H11 u1 u2
            go_wp2_with fail
            generalize hW : World.alloc _ _ = w13
            have H13 : Hid (Lw W w13 A ((rU room 6 21).tick.addE 2 6 spine) 22 [] ∧ Blk w13 w12.heap.size [.int .i64 0, .slice x12 ([] : List Int).length d12, .int .i64 (-1)]) := by
              rw [← hW]
              exact ⟨H12.out.keep ((Kept.refl _).alloc _ _), Blk.new w12 _ _⟩
            obtain ⟨b12, hb12⟩ : ∃ b, b = w12.heap.size := ⟨_, rfl⟩
            rw [← hb12] at H13 ⊢
            clear hW H12 hb12
            refine (first_any w13).mono ?_
            rintro e w14 ⟨rfl, k14⟩
            have H14 : Hid (Lw W w14 A ((rU room 6 21).tick.addE 2 6 spine) 22 [] ∧ Blk w14 b12 [.int .i64 0, .slice x12 ([] : List Int).length d12, .int .i64 (-1)]) := ⟨H13.out.1.keep k14, H13.out.2.kept k14⟩
            clear k14 H13
            have c0 := H14.out.2.at 0 rfl
            have C := H14.out.1.waits
            rw [v1] at C
            go_wp2_with fail
            refine C.mono ?_
            rintro e w15 ⟨rfl, lw15, _⟩
            have H15 : Hid (Lw W w15 A ((rU room 6 21).tick.addE 2 6 spine) 22 []) := lw15
            clear C lw15 H14 c0
            have C := H15.out.free
            rw [v2] at C
            go_wp2_with fail
            refine C.mono ?_
            rintro e w16 ⟨rfl, e16⟩
            rw [e16]
            clear C e16
            go_wp2
            go_ret
            exact ⟨rfl, KB.out.1.trans H15.out.kept⟩
          · have hgi : ¬ (spine : Int) > (room : Int) := by omega
            have hle : spine ≤ room := by omega
            obtain ⟨u1, u2⟩ := u_yes spine room 21 HH.out.1 hle
            obtain ⟨v1, v2⟩ := u_end spine room 21 HH.out.1 hle
            rw [u1, u2] at C
            clear hgt hle
            obtain ⟨S3, hS3⟩ : ∃ S3, S3 = ((rU room 6 21).tick.tk 6 spine true).fill 2 := ⟨_, rfl⟩
            rw [← hS3] at C v1 v2
            clear hS3
            go_wp2_with fail
            refine C.mono ?_
            rintro e w12 ⟨x12, d12, rfl, r12, _, lw12, _⟩
            have H12 : Hid (Lw W w12 A S3 22 [] ∧ Rdi w12 x12 [0, 2, 4, 6, 8, 10]) := ⟨lw12, r12⟩
            clear C lw12 H11 u1 u2 r12
            go_wp2_with fail
            generalize hW : World.alloc _ _ = w13
            have H13 : Hid (Lw W w13 A S3 22 [] ∧ Rdi w13 x12 [0, 2, 4, 6, 8, 10] ∧ Blk w13 w12.heap.size [.int .i64 1, .slice x12 ([0, 2, 4, 6, 8, 10] : List Int).length d12, .int .i64 160]) := by
              rw [← hW]
              exact ⟨H12.out.1.keep ((Kept.refl _).alloc _ _), H12.out.2.kept ((Kept.refl _).alloc _ _), Blk.new w12 _ _⟩
            obtain ⟨b12, hb12⟩ : ∃ b, b = w12.heap.size := ⟨_, rfl⟩
            rw [← hb12] at H13 ⊢
            clear hW H12 hb12
            refine (first_any w13).mono ?_
            rintro e w14 ⟨rfl, k14⟩
            have H14 : Hid (Lw W w14 A S3 22 [] ∧ Rdi w14 x12 [0, 2, 4, 6, 8, 10] ∧ Blk w14 b12 [.int .i64 1, .slice x12 ([0, 2, 4, 6, 8, 10] : List Int).length d12, .int .i64 160]) := ⟨H13.out.1.keep k14, H13.out.2.1.kept k14, H13.out.2.2.kept k14⟩
            clear k14 H13
            have c0 := H14.out.2.2.at 0 rfl
            have c1 := H14.out.2.2.at 1 rfl
            have c2 := H14.out.2.2.at 2 rfl
            go_wp2_with fail
            generalize hW : World.alloc _ _ = w15
            have H15 : Hid (Lw W w15 A S3 22 [] ∧ Rdi w15 x12 [0, 2, 4, 6, 8, 10] ∧ Rdi w15 (some ⟨w14.heap.size, 0, none⟩) [0, 2, 4, 6, 8, 10]) := by
              rw [← hW]
              have k1 : Kept w14 (w14.alloc (.cells (([0, 2, 4, 6, 8, 10] : List Int).map (Value.int .i64)).toArray 3)) := (Kept.refl w14).alloc _ _
              exact ⟨H14.out.1.keep k1, H14.out.2.1.kept k1, rdi_alloc w14 _⟩
            clear hW c0 c1 c2
            refine (ints_any (x := x12) (y := some ⟨w14.heap.size, 0, none⟩) (c := d12) (d := 6) (T := [0, 2, 4, 6, 8, 10]) w15 (by decide) H15.out.2.1 H15.out.2.2).mono ?_
            rintro e w16 ⟨rfl, k16⟩
            have H16 : Hid (Lw W w16 A S3 22 []) := H15.out.1.keep k16
            clear k16 H15 H14
            go_wp2_with fail
            refine (H16.out.coil).mono ?_
            rintro e w17 ⟨rfl, e17⟩
            rw [e17]
            clear e17
            have CU := H16.out.used 0
            rw [v1] at CU
            go_wp2_with fail
            refine CU.mono ?_
            rintro e w17 ⟨rfl, e17⟩
            rw [e17]
            clear e17 CU
            have C := H16.out.free
            rw [v2] at C
            go_wp2_with fail
            refine C.mono ?_
            rintro e w18 ⟨rfl, e18⟩
            rw [e18]
            clear C e18
            go_wp2
            go_ret
            exact ⟨rfl, KB.out.1.trans H16.out.kept⟩

set_option maxHeartbeats 1000000 in
theorem spaceRuns_any (n0 : Int) (n1 : Int) (w : World) (_lo0 : IntKind.min .i64 ≤ n0) (_hi0 : n0 ≤ IntKind.max .i64) (_lo1 : IntKind.min .i64 ≤ n1) (_hi1 : n1 ≤ IntKind.max .i64) :
    Calls Try.prog 6 #[.int .i64 n0, .int .i64 n1] w fun e w' => e = .returned (.bool true) ∧ Kept w w' := by
  clear _lo0 _hi0 _lo1 _hi1
  by_cases h : (1 ≤ n0 ∧ n0 ≤ 20) ∧ (0 ≤ n1 ∧ n1 ≤ 40)
  · obtain ⟨a, rfl⟩ : ∃ a : Nat, n0 = a := ⟨n0.toNat, by omega⟩
    obtain ⟨b, rfl⟩ : ∃ b : Nat, n1 = b := ⟨n1.toNat, by omega⟩
    exact runs_in a b w (by omega) (by omega)
  · have F : Hid (∀ w, _) := fun w => first_any w
    have hcases : n0 < 1 ∨ (¬ n0 < 1 ∧ n0 > 20) ∨ (¬ n0 < 1 ∧ ¬ n0 > 20 ∧ n1 < 0) ∨ (¬ n0 < 1 ∧ ¬ n0 > 20 ∧ ¬ n1 < 0 ∧ n1 > 40) := by omega
    clear h
    rcases hcases with h0 | ⟨h0, h1⟩ | ⟨h0, h1, h2⟩ | ⟨h0, h1, h2, h3⟩
    all_goals go_enter Try.func6, Try.ntmps6
    all_goals go_wp2_with fail
    all_goals refine (F.out w).mono ?_
    all_goals rintro e w1 ⟨rfl, k1⟩
    all_goals have K1 : Hid (Kept w w1) := k1
    all_goals clear k1
    all_goals go_wp2_with fail
    all_goals refine (F.out w1).mono ?_
    all_goals rintro e w2 ⟨rfl, k2⟩
    all_goals have K2 : Hid (Kept w w2) := K1.out.trans k2
    all_goals clear k2
    all_goals go_wp2
    all_goals go_ret
    all_goals exact ⟨rfl, K2.out⟩
end Go.Proofs.Ytahpnnjemjjfhaa
