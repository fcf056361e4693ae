/-
  The law CoreMade, where the configuration may be.
-/
import Derived.Test.YtiigmmmhhpdmdaaB17
import Derived.Test.YtiigmmmhhpdmdaaRCor22
import Derived.Test.YtiigmmmhhpdmdaaSame4
namespace Go.Proofs.Ytiigmmmhhpdmdaa
open Go.RowKit

theorem cnt_all0 (n : Nat) : cnt T0 0 n = n := by
  induction n with
  | zero => rfl
  | succ k ih => simp [cnt, ih, T0]
theorem cnt_none {s : Int} (hs : s ≠ 0) (n : Nat) : cnt T0 s n = 0 := by
  induction n with
  | zero => rfl
  | succ k ih => simp [cnt, ih, T0, Ne.symm hs]
theorem own_first (n : Nat) (i : Int) : (Hs.first n).own i = -1 := by
  unfold Hs.own
  by_cases h : (Hs.first n).is i = true
  · rw [if_pos h]
    rfl
  · rw [if_neg h]
theorem fwk_at (m g k : Nat) : ∃ q, fwk m g k = ⟨0, q⟩ ∧ ∀ w : World, Calls Try.prog 14 #[.complex .f64 0 q, .complex .f64 0 q] w fun e w' => e = .returned (.bool true) ∧ w' = w := by
  unfold fwk
  split
  · exact ⟨4607182418800017408, rfl, fun w => word_is 0 4607182418800017408 0 4607182418800017408 true nn_zero nn_one nn_zero nn_one (by decide) w⟩
  · exact ⟨0, rfl, fun w => word_is 0 0 0 0 true nn_zero nn_zero nn_zero nn_zero (by decide) w⟩

set_option maxRecDepth 8000 in
set_option maxHeartbeats 8000000 in
theorem made_in (n s g th ch most : Nat) (n4 n7 : Int) (x : Option Addr) (l c : Nat) (S : Nat → Sh) (R : Nat → Nat → Bool) (w : World) (hS : Shps w x l S) (hR : ∀ i, i < l → Refs w (S i).x (S i).l (R i)) (hg : Good n s g th n4 ch most n7 l S) :
    Calls Try.prog 3 #[.agg #[.int .i64 (n : Int), .int .i64 (s : Int), .int .i64 (g : Int), .int .i64 (th : Int), .int .i64 n4, .int .i64 (ch : Int), .int .i64 (most : Int), .int .i64 n7, .slice x l c]] w fun e w' => e = .returned (.bool true) ∧ Kept w w' := by
  obtain ⟨⟨g0, g1, g2, g6, g7, g3, g4, g5, g8⟩, ml, ml8, mi⟩ := id hg
  have HG : Hid (Good n s g th n4 ch most n7 l S) := hg
  have HS : Hid (Shps w x l S ∧ ∀ i, i < l → Refs w (S i).x (S i).l (R i)) := ⟨hS, hR⟩
  have HB : Hid (n ≤ 1024 ∧ s ≤ 2048 ∧ g ≤ 8 ∧ 4 ≤ n ∧ th ≤ 16 ∧ 1 ≤ th ∧ n7 ≤ n) := ⟨by omega, by omega, by omega, by omega, by omega, by omega, by omega⟩
  have HF : Hid (Small l S) := ⟨by omega, fun i hi => by
    have := mi i hi
    simp only [Sh.may] at this
    split at this
    · simp at this; omega
    · simp at this; omega⟩
  have HL : Hid (l ≤ 1000000 ∧ ∀ i, i < l → (S i).l ≤ 1000) := ⟨by omega, fun i hi => by
    have := mi i hi
    simp only [Sh.may] at this
    split at this
    · simp at this; omega
    · simp at this; omega⟩
  clear hS hR hg g0 g1 g2 g6 g7 g3 g4 g5 g8 ml ml8 mi
  go_enter Try.func3, Try.ntmps3
  go_wp2_with fail
  generalize hW : w.alloc _ = W0
  have H0 : Hid (Blk W0 w.heap.size [.int .i64 (n : Int), .int .i64 (s : Int), .int .i64 (g : Int), .int .i64 (th : Int), .int .i64 n4, .int .i64 (ch : Int), .int .i64 (most : Int), .int .i64 n7, .slice x l c] ∧ Kept w W0) := by
    rw [← hW]
    exact ⟨Blk.new w _ _, (Kept.refl w).alloc _ _⟩
  clear hW
  refine (first_any W0).mono ?_
  rintro e w1 ⟨rfl, k1⟩
  have H1 : Hid (Blk w1 w.heap.size [.int .i64 (n : Int), .int .i64 (s : Int), .int .i64 (g : Int), .int .i64 (th : Int), .int .i64 n4, .int .i64 (ch : Int), .int .i64 (most : Int), .int .i64 n7, .slice x l c] ∧ Kept w w1) := ⟨H0.out.1.kept k1, H0.out.2.trans k1⟩
  clear k1 H0
  have b0 := (H1.out.1).at 0 rfl
  have b1 := (H1.out.1).at 1 rfl
  have b2 := (H1.out.1).at 2 rfl
  have b3 := (H1.out.1).at 3 rfl
  have b4 := (H1.out.1).at 4 rfl
  have b5 := (H1.out.1).at 5 rfl
  have b6 := (H1.out.1).at 6 rfl
  have b7 := (H1.out.1).at 7 rfl
  have b8 := (H1.out.1).at 8 rfl
  have CW := few_any n s g th n4 ch most n7 x l c S true w1 (HS.out.1.kept H1.out.2) ⟨fun _ => HF.out, fun _ => rfl⟩
  go_wp2_with fail
  refine CW.mono ?_
  rintro e w2 ⟨rfl, k2⟩
  have H2 : Hid (Blk w2 w.heap.size [.int .i64 (n : Int), .int .i64 (s : Int), .int .i64 (g : Int), .int .i64 (th : Int), .int .i64 n4, .int .i64 (ch : Int), .int .i64 (most : Int), .int .i64 n7, .slice x l c] ∧ Kept w w2) := ⟨H1.out.1.kept k2, H1.out.2.trans k2⟩
  clear b0 b1 b2 b3 b4 b5 b6 b7 b8
  clear k2 CW H1
  obtain ⟨N, hN⟩ : ∃ N : Nat, N = 8 * n + 2 * s + g := ⟨_, rfl⟩
  have b0 := (H2.out.1).at 0 rfl
  have b1 := (H2.out.1).at 1 rfl
  have b2 := (H2.out.1).at 2 rfl
  have b3 := (H2.out.1).at 3 rfl
  have b4 := (H2.out.1).at 4 rfl
  have b5 := (H2.out.1).at 5 rfl
  have b6 := (H2.out.1).at 6 rfl
  have b7 := (H2.out.1).at 7 rfl
  have b8 := (H2.out.1).at 8 rfl
  have CM := onew_any n s g th ch most n4 n7 x l c S R w2 (HS.out.1.kept H2.out.2) (fun i hi => (HS.out.2 i hi).kept H2.out.2) HG.out N hN
  go_wp2_with fail
  refine CM.mono ?_
  rintro e w3 ⟨B, cc, dd, cg, T, rfl, km, q7, qC, qr, qa⟩
  have H3 : Hid (Blk w3 w.heap.size [.int .i64 (n : Int), .int .i64 (s : Int), .int .i64 (g : Int), .int .i64 (th : Int), .int .i64 n4, .int .i64 (ch : Int), .int .i64 (most : Int), .int .i64 n7, .slice x l c] ∧ KM w2 w3 cc dd B (Kv.new N (8 * n + 2 * s) n s g most th ch) ∧ Kept w w3) := ⟨H2.out.1.kept km.kept, km, H2.out.2.trans km.kept⟩
  have HC : Hid (B.A.C.n7 = n7 ∧ B.C = ⟨n, s, g, th, n4, ch, most, n7, some ⟨cg, 0, none⟩, l, l, T⟩ ∧ w3.rowIs cg 72 (l * 2) (cf T) ∧ ∀ i, i < l → Cop w3 cg (S i) (T i) (R i)) := ⟨q7, qC, qr, qa⟩
  clear b0 b1 b2 b3 b4 b5 b6 b7 b8
  clear CM km q7 qC qr qa
  have b0 := (H3.out.1).at 0 rfl
  have b1 := (H3.out.1).at 1 rfl
  have b2 := (H3.out.1).at 2 rfl
  have b3 := (H3.out.1).at 3 rfl
  have b4 := (H3.out.1).at 4 rfl
  have b5 := (H3.out.1).at 5 rfl
  have b6 := (H3.out.1).at 6 rfl
  have b7 := (H3.out.1).at 7 rfl
  have b8 := (H3.out.1).at 8 rfl
  have CX := rcore_new n s g th ch most n4 n7 x l c S w3 (HS.out.1.kept H3.out.2.2) HG.out N hN
  go_wp2_with fail
  refine CX.mono ?_
  rintro e w4 ⟨xb, M, mb, rfl, x9, x0, xr, lx, lM, k4⟩
  have KK : Hid (KH w4 cc dd B (Kv.new N (8 * n + 2 * s) n s g most th ch)) := H3.out.2.1.kh.kept k4
  have H4 : Hid (Blk w4 w.heap.size [.int .i64 (n : Int), .int .i64 (s : Int), .int .i64 (g : Int), .int .i64 (th : Int), .int .i64 n4, .int .i64 (ch : Int), .int .i64 (most : Int), .int .i64 n7, .slice x l c] ∧ Blk w4 B.kb [.int .i64 (n : Int), .int .i64 (s : Int), .int .i64 (g : Int), .int .i64 (th : Int), .int .i64 n4, .int .i64 (ch : Int), .int .i64 (most : Int), .int .i64 n7, .slice (some ⟨cg, 0, none⟩) l l, .pointer (some ⟨B.mh, 0, none⟩), .pointer (some ⟨B.sb, 0, none⟩), .pointer (some ⟨B.A.b, 0, none⟩), .pointer (some ⟨B.hb, 0, none⟩)] ∧ Kept w w4) := by
    refine ⟨H3.out.1.kept k4, ?_, H3.out.2.2.trans k4⟩
    have h := KK.out.head
    unfold Ak.cells at h
    rw [HC.out.2.1] at h
    exact h
  have HX : Hid (w4.cell? ⟨xb, 9, none⟩ = some (.pointer (some ⟨M, 0, none⟩)) ∧ w4.cell? ⟨M, 0, none⟩ = some (.slice (some ⟨mb, 0, none⟩) N N) ∧ w4.rowIs mb 54 N (rv (fwk (8 * n + 2 * s) g)) ∧ xb < w4.heap.size ∧ M < w4.heap.size) := ⟨x9, x0, xr, lx, lM⟩
  have HN : Hid (N ≤ 1000000) := by have := HB.out; simp only [Hid]; omega
  have C1 : Hid (∀ z : KW w4, _) := fun z => dtable_any z.it (KK.out.kept z.ok).sh
  have C2 : Hid (∀ z : KW w4, _) := fun z => same_conf n s g th n4 ch most n7 (some ⟨cg, 0, none⟩) x l l c T S R z.it HL.out.1 ((row_shps HC.out.2.2.1).kept (k4.trans z.ok)) (HS.out.1.kept (H4.out.2.2.trans z.ok)) (fun i hi => (HC.out.2.2.2 i hi).1) (fun i hi => (HC.out.2.2.2 i hi).2.1) HL.out.2
    (fun i hi => by
      obtain ⟨_, _, _, y, e, _, r, _⟩ := HC.out.2.2.2 i hi
      rw [e]
      exact (r.kept k4).kept z.ok) (fun i hi => ((HS.out.2 i hi).kept H4.out.2.2).kept z.ok)
  have C3 : Hid (∀ z : KW w4, _) := fun z => ocount_any (t := 0) z.it (KK.out.kept z.ok) (by simp [Kv.new]) (by simp [Kv.new]) (by simp [Kv.new, Sp.new]) (by simp [Kv.new, Hs.first]) (by simp [Kv.new, Sp.new, Hs.first])
  clear b0 b1 b2 b3 b4 b5 b6 b7 b8
  clear CX k4 H3 x9 x0 xr lx lM hN
  go_wp2_with fail
  have zk := H4.out.2.1.lt
  have zp := H4.out.1.lt
  have k0 := fun z : KW w4 => z.cell (a := ⟨B.kb, 0, none⟩) zk (H4.out.2.1.at 0 rfl)
  have k1 := fun z : KW w4 => z.cell (a := ⟨B.kb, 1, none⟩) zk (H4.out.2.1.at 1 rfl)
  have k2 := fun z : KW w4 => z.cell (a := ⟨B.kb, 2, none⟩) zk (H4.out.2.1.at 2 rfl)
  have k3 := fun z : KW w4 => z.cell (a := ⟨B.kb, 3, none⟩) zk (H4.out.2.1.at 3 rfl)
  have k4 := fun z : KW w4 => z.cell (a := ⟨B.kb, 4, none⟩) zk (H4.out.2.1.at 4 rfl)
  have k5 := fun z : KW w4 => z.cell (a := ⟨B.kb, 5, none⟩) zk (H4.out.2.1.at 5 rfl)
  have k6 := fun z : KW w4 => z.cell (a := ⟨B.kb, 6, none⟩) zk (H4.out.2.1.at 6 rfl)
  have k7 := fun z : KW w4 => z.cell (a := ⟨B.kb, 7, none⟩) zk (H4.out.2.1.at 7 rfl)
  have k8 := fun z : KW w4 => z.cell (a := ⟨B.kb, 8, none⟩) zk (H4.out.2.1.at 8 rfl)
  have k9 := fun z : KW w4 => z.cell (a := ⟨B.kb, 9, none⟩) zk (H4.out.2.1.at 9 rfl)
  have k10 := fun z : KW w4 => z.cell (a := ⟨B.kb, 10, none⟩) zk (H4.out.2.1.at 10 rfl)
  have k11 := fun z : KW w4 => z.cell (a := ⟨B.kb, 11, none⟩) zk (H4.out.2.1.at 11 rfl)
  have k12 := fun z : KW w4 => z.cell (a := ⟨B.kb, 12, none⟩) zk (H4.out.2.1.at 12 rfl)
  have p0 := fun z : KW w4 => z.cell (a := ⟨w.heap.size, 0, none⟩) zp (H4.out.1.at 0 rfl)
  have p1 := fun z : KW w4 => z.cell (a := ⟨w.heap.size, 1, none⟩) zp (H4.out.1.at 1 rfl)
  have p2 := fun z : KW w4 => z.cell (a := ⟨w.heap.size, 2, none⟩) zp (H4.out.1.at 2 rfl)
  have p3 := fun z : KW w4 => z.cell (a := ⟨w.heap.size, 3, none⟩) zp (H4.out.1.at 3 rfl)
  have p4 := fun z : KW w4 => z.cell (a := ⟨w.heap.size, 4, none⟩) zp (H4.out.1.at 4 rfl)
  have p5 := fun z : KW w4 => z.cell (a := ⟨w.heap.size, 5, none⟩) zp (H4.out.1.at 5 rfl)
  have p6 := fun z : KW w4 => z.cell (a := ⟨w.heap.size, 6, none⟩) zp (H4.out.1.at 6 rfl)
  have p7 := fun z : KW w4 => z.cell (a := ⟨w.heap.size, 7, none⟩) zp (H4.out.1.at 7 rfl)
  have p8 := fun z : KW w4 => z.cell (a := ⟨w.heap.size, 8, none⟩) zp (H4.out.1.at 8 rfl)
  refine wp_region_kept (by kernel_rfl) (by kernel_rfl) fun _ => ?_
  repeat (go_big_quiet_step (first | (go_at_call 10; exact kept_of_same (C1.out _)) | (go_at_call 11; exact kept_of (C2.out _)) | (go_at_call 12; exact kept_of (C3.out _))))
  refine wpQuiet_nil ?_
  rintro _ ⟨z, rfl⟩
  have HZ : Hid (Kept w4 z.it) := z.ok
  generalize z.it = w5 at *
  clear z C1 C2 C3 zk zp k0 k1 k2 k3 k4 k5 k6 k7 k8 k9 k10 k11 k12 p0 p1 p2 p3 p4 p5 p6 p7 p8 HC HL
  have C4 : Hid (∀ z : KW w5, _) := fun z => mem_len z.it (KK.out.kept (HZ.out.trans z.ok)).mem
  rw [show (Kv.new N (8 * n + 2 * s) n s g most th ch).N = N from rfl] at C4
  have zk := (H4.out.2.1.kept HZ.out).lt
  have k9 := fun z : KW w5 => z.cell (a := ⟨B.kb, 9, none⟩) zk ((H4.out.2.1.kept HZ.out).at 9 rfl)
  have lx := Nat.lt_of_lt_of_le HX.out.2.2.2.1 HZ.out.size
  have lM := Nat.lt_of_lt_of_le HX.out.2.2.2.2 HZ.out.size
  have x9 := fun z : KW w5 => z.cell (a := ⟨xb, 9, none⟩) lx ((HZ.out.cell HX.out.2.2.2.1).trans HX.out.1)
  have x0 := fun z : KW w5 => z.cell (a := ⟨M, 0, none⟩) lM ((HZ.out.cell HX.out.2.2.2.2).trans HX.out.2.1)
  go_wp2_with fail
  refine wp_region_kept (by kernel_rfl) (by kernel_rfl) fun _ => ?_
  repeat (go_big_quiet_step (first | (go_at_call 13; exact kept_of_same (C4.out _))))
  refine wpQuiet_nil ?_
  rintro _ ⟨z, rfl⟩
  have HZ6 : Hid (Kept w4 z.it) := HZ.out.trans z.ok
  generalize z.it = w6 at *
  clear z C4 zk k9 lx lM x9 x0 HZ
  go_wp2_with fail
  go_loopg [7] N (fun m i wr => ∃ k : Nat, i = .int .i64 k ∧ k ≤ N ∧ m = N - k ∧ Hid (Kept w4 wr))
  case atStart => exact ⟨0, rfl, by omega, by omega, HZ6.out⟩
  case round =>
    obtain ⟨k, rfl, hk, hm, hw⟩ := hrel
    have HM : Hid _ := hm
    clear hm HZ6
    have lx := Nat.lt_of_lt_of_le HX.out.2.2.2.1 hw.out.size
    have lM := Nat.lt_of_lt_of_le HX.out.2.2.2.2 hw.out.size
    have x9 := (hw.out.cell HX.out.2.2.2.1).trans HX.out.1
    have x0 := (hw.out.cell HX.out.2.2.2.2).trans HX.out.2.1
    have hn1 := HN.out
    by_cases hlt : k < N
    · obtain ⟨q, hq, CQ⟩ := fwk_at (8 * n + 2 * s) g k
      have C5 : Hid (∀ z : KW wr, _) := fun z => mem_peek k z.it (KK.out.kept (hw.out.trans z.ok)).mem hlt
      rw [show (Kv.new N (8 * n + 2 * s) n s g most th ch).F = fwk (8 * n + 2 * s) g from rfl, hq] at C5
      have C6 : Hid (∀ z : KW wr, _) := fun z => CQ z.it
      have zk := (H4.out.2.1.kept hw.out).lt
      have k9 := fun z : KW wr => z.cell (a := ⟨B.kb, 9, none⟩) zk ((H4.out.2.1.kept hw.out).at 9 rfl)
      have y9 := fun z : KW wr => z.cell (a := ⟨xb, 9, none⟩) lx x9
      have y0 := fun z : KW wr => z.cell (a := ⟨M, 0, none⟩) lM x0
      have r0 : wr.cell? ⟨mb, k, none⟩ = some (.complex .f64 0 q) := ((hw.out.row HX.out.2.2.1).cell hlt).trans (by show some (Value.complex .f64 (fwk (8 * n + 2 * s) g k).re (fwk (8 * n + 2 * s) g k).im) = _; rw [hq])
      have lr := (hw.out.row HX.out.2.2.1).lt
      have yr := fun z : KW wr => z.cell (a := ⟨mb, k, none⟩) lr r0
      clear CQ hq r0
      go_wp2_with fail
      refine wp_region_kept (by kernel_rfl) (by kernel_rfl) fun _ => ?_
      repeat (go_big_quiet_step (first | (go_at_call 15; exact kept_of_same (C5.out _)) | (go_at_call 14; exact kept_of_same (C6.out _))))
      refine wpQuiet_nil ?_
      rintro _ ⟨z, rfl⟩
      have HW : Hid (Kept w4 z.it) := hw.out.trans z.ok
      clear C5 C6 zk k9 y9 y0 yr lr lx lM x9 x0 hw
      go_wp2
      go_roundg (gk - 1)
      all_goals (have := HM.out; try omega)
      exact ⟨k + 1, by go_num, by omega, by omega, HW⟩
    · obtain rfl : k = N := by omega
      have b10 := (H4.out.2.1.kept hw.out).at 10 rfl
      have CT := dtable_any wr (KK.out.kept hw.out).sh
      go_wp2_with fail
      refine CT.mono ?_
      rintro e w7 ⟨rfl, e7⟩
      rw [e7]
      clear e7 CT
      have CC := tcounts_any wr (KK.out.kept hw.out).sp.tab
      rw [show (Kv.new k (8 * n + 2 * s) n s g most th ch).S.T = T0 from rfl, show (Kv.new k (8 * n + 2 * s) n s g most th ch).S.n = n from rfl, cnt_all0, cnt_none (by decide), cnt_none (by decide)] at CC
      go_wp2_with fail
      refine CC.mono ?_
      rintro e w7 ⟨rfl, k7⟩
      have H7 : Hid (Kept w4 w7) := hw.out.trans k7
      clear b10 CC k7 lx lM x9 x0 hw
      have C7 : Hid (∀ z : KW w7, _) := fun z => wfrees_any z.it (KK.out.kept (H7.out.trans z.ok)).sp
      rw [show cntB (Kv.new k (8 * n + 2 * s) n s g most th ch).S.F (Kv.new k (8 * n + 2 * s) n s g most th ch).S.n = n from cnt_all1 n s th ch] at C7
      have C8 : Hid (∀ z : KW w7, _) := fun z => hown_any 0 z.it (KK.out.kept (H7.out.trans z.ok)).hand
      rw [show (Kv.new k (8 * n + 2 * s) n s g most th ch).H.own 0 = -1 from own_first th 0] at C8
      have C9 : Hid (∀ z : KW w7, _) := fun z => first_any z.it
      have zk := (H4.out.2.1.kept H7.out).lt
      have zp := (H4.out.1.kept H7.out).lt
      have k11 := fun z : KW w7 => z.cell (a := ⟨B.kb, 11, none⟩) zk ((H4.out.2.1.kept H7.out).at 11 rfl)
      have k12 := fun z : KW w7 => z.cell (a := ⟨B.kb, 12, none⟩) zk ((H4.out.2.1.kept H7.out).at 12 rfl)
      have p0 := fun z : KW w7 => z.cell (a := ⟨w.heap.size, 0, none⟩) zp ((H4.out.1.kept H7.out).at 0 rfl)
      go_wp2_with fail
      refine wp_region_kept (by kernel_rfl) (by kernel_rfl) fun _ => ?_
      repeat (go_big_quiet_step (first | (go_at_call 17; exact kept_of_same (C7.out _)) | (go_at_call 18; exact kept_of_same (C8.out _)) | (go_at_call 6; exact kept_of (C9.out _))))
      refine wpQuiet_nil ?_
      rintro _ ⟨z, rfl⟩
      have K8 : Hid (Kept w z.it) := H4.out.2.2.trans (H7.out.trans z.ok)
      clear C7 C8 C9 zk zp k11 k12 p0
      go_wp2
      go_ret
      exact ⟨rfl, K8.out⟩
end Go.Proofs.Ytiigmmmhhpdmdaa
