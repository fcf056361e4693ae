/-
  The law CoreGlobals, where the configuration may be.
-/
import Derived.Test.YtiigmmmhhpdmdaaB17
namespace Go.Proofs.Ytiigmmmhhpdmdaa
open Go.RowKit
attribute [local go_sem] run_store_complex

set_option maxRecDepth 8000 in
set_option maxHeartbeats 8000000 in
theorem globals_in (n s g th ch most : Nat) (n4 n7 : Int) (x : Option Addr) (l c : Nat) (S : Nat → Sh) (R : Nat → Nat → Bool) (w : World) (hS : Shps w x l S) (hR : ∀ i, i < l → Refs w (S i).x (S i).l (R i)) (hg : Good n s g th n4 ch most n7 l S) :
    Calls Try.prog 5 #[.agg #[.int .i64 (n : Int), .int .i64 (s : Int), .int .i64 (g : Int), .int .i64 (th : Int), .int .i64 n4, .int .i64 (ch : Int), .int .i64 (most : Int), .int .i64 n7, .slice x l c]] w fun e w' => e = .returned (.bool true) ∧ Kept w w' := by
  obtain ⟨⟨g0, g1, g2, g6, g7, g3, g4, g5, g8⟩, ml, ml8, mi⟩ := id hg
  have HG : Hid (Good n s g th n4 ch most n7 l S) := hg
  have HS : Hid (Shps w x l S ∧ ∀ i, i < l → Refs w (S i).x (S i).l (R i)) := ⟨hS, hR⟩
  have HB : Hid (n ≤ 1024 ∧ s ≤ 2048 ∧ g ≤ 8 ∧ 4 ≤ n ∧ th ≤ 16 ∧ 1 ≤ th ∧ n7 ≤ n) := ⟨by omega, by omega, by omega, by omega, by omega, by omega, by omega⟩
  have HF : Hid (Small l S) := ⟨by omega, fun i hi => by
    have := mi i hi
    simp only [Sh.may] at this
    split at this
    · simp at this; omega
    · simp at this; omega⟩
  clear hS hR hg g0 g1 g2 g6 g7 g3 g4 g5 g8 ml ml8 mi
  go_enter Try.func5, Try.ntmps5
  go_wp2_with fail
  generalize hW : w.alloc _ = W0
  have H0 : Hid (Blk W0 w.heap.size [.int .i64 (n : Int), .int .i64 (s : Int), .int .i64 (g : Int), .int .i64 (th : Int), .int .i64 n4, .int .i64 (ch : Int), .int .i64 (most : Int), .int .i64 n7, .slice x l c] ∧ Kept w W0) := by
    rw [← hW]
    exact ⟨Blk.new w _ _, (Kept.refl w).alloc _ _⟩
  clear hW
  refine (first_any W0).mono ?_
  rintro e w1 ⟨rfl, k1⟩
  have H1 : Hid (Blk w1 w.heap.size [.int .i64 (n : Int), .int .i64 (s : Int), .int .i64 (g : Int), .int .i64 (th : Int), .int .i64 n4, .int .i64 (ch : Int), .int .i64 (most : Int), .int .i64 n7, .slice x l c] ∧ Kept w w1) := ⟨H0.out.1.kept k1, H0.out.2.trans k1⟩
  clear k1 H0
  have b0 := (H1.out.1).at 0 rfl
  have b1 := (H1.out.1).at 1 rfl
  have b2 := (H1.out.1).at 2 rfl
  have b3 := (H1.out.1).at 3 rfl
  have b4 := (H1.out.1).at 4 rfl
  have b5 := (H1.out.1).at 5 rfl
  have b6 := (H1.out.1).at 6 rfl
  have b7 := (H1.out.1).at 7 rfl
  have b8 := (H1.out.1).at 8 rfl
  have CW := few_any n s g th n4 ch most n7 x l c S true w1 (HS.out.1.kept H1.out.2) ⟨fun _ => HF.out, fun _ => rfl⟩
  go_wp2_with fail
  refine CW.mono ?_
  rintro e w2 ⟨rfl, k2⟩
  have H2 : Hid (Blk w2 w.heap.size [.int .i64 (n : Int), .int .i64 (s : Int), .int .i64 (g : Int), .int .i64 (th : Int), .int .i64 n4, .int .i64 (ch : Int), .int .i64 (most : Int), .int .i64 n7, .slice x l c] ∧ Kept w w2) := ⟨H1.out.1.kept k2, H1.out.2.trans k2⟩
  clear b0 b1 b2 b3 b4 b5 b6 b7 b8
  clear k2 CW H1
  have b0 := (H2.out.1).at 0 rfl
  have b1 := (H2.out.1).at 1 rfl
  have b2 := (H2.out.1).at 2 rfl
  have b3 := (H2.out.1).at 3 rfl
  have b4 := (H2.out.1).at 4 rfl
  have b5 := (H2.out.1).at 5 rfl
  have b6 := (H2.out.1).at 6 rfl
  have b7 := (H2.out.1).at 7 rfl
  have b8 := (H2.out.1).at 8 rfl
  have CK := check_any n s g th n4 ch most n7 x l c S 0 w2 (HS.out.1.kept H2.out.2) (Checks.of_ok HG.out.1 HG.out.2)
  go_wp2_with fail
  refine CK.mono ?_
  rintro e w3 ⟨rfl, k3⟩
  have H3 : Hid (Blk w3 w.heap.size [.int .i64 (n : Int), .int .i64 (s : Int), .int .i64 (g : Int), .int .i64 (th : Int), .int .i64 n4, .int .i64 (ch : Int), .int .i64 (most : Int), .int .i64 n7, .slice x l c] ∧ Kept w w3) := ⟨H2.out.1.kept k3, H2.out.2.trans k3⟩
  clear b0 b1 b2 b3 b4 b5 b6 b7 b8
  clear k3 CK H2
  obtain ⟨N, hN⟩ : ∃ N : Nat, N = 8 * n + 2 * s + g := ⟨_, rfl⟩
  have b0 := (H3.out.1).at 0 rfl
  have b1 := (H3.out.1).at 1 rfl
  have b2 := (H3.out.1).at 2 rfl
  have b3 := (H3.out.1).at 3 rfl
  have b4 := (H3.out.1).at 4 rfl
  have b5 := (H3.out.1).at 5 rfl
  have b6 := (H3.out.1).at 6 rfl
  have b7 := (H3.out.1).at 7 rfl
  have b8 := (H3.out.1).at 8 rfl
  have CM := onew_any n s g th ch most n4 n7 x l c S R w3 (HS.out.1.kept H3.out.2) (fun i hi => (HS.out.2 i hi).kept H3.out.2) HG.out N hN
  go_wp2_with fail
  refine CM.mono ?_
  rintro e w4 ⟨B, cc, dd, cg, T, rfl, km, q7, qC, qr, qa⟩
  have H4 : Hid (Blk w4 w.heap.size [.int .i64 (n : Int), .int .i64 (s : Int), .int .i64 (g : Int), .int .i64 (th : Int), .int .i64 n4, .int .i64 (ch : Int), .int .i64 (most : Int), .int .i64 n7, .slice x l c] ∧ KM w3 w4 cc dd B (Kv.new N (8 * n + 2 * s) n s g most th ch) ∧ Kept w w4) := ⟨H3.out.1.kept km.kept, km, H3.out.2.trans km.kept⟩
  have Z3 : Hid (w.heap.size + 1 ≤ w3.heap.size) := H3.out.1.lt
  have HC : Hid (B.A.C.n7 = n7 ∧ B.C = ⟨n, s, g, th, n4, ch, most, n7, some ⟨cg, 0, none⟩, l, l, T⟩ ∧ w4.rowIs cg 72 (l * 2) (cf T) ∧ ∀ i, i < l → Cop w4 cg (S i) (T i) (R i)) := ⟨q7, qC, qr, qa⟩
  clear b0 b1 b2 b3 b4 b5 b6 b7 b8
  clear CM km q7 qC qr qa
  clear H3
  have HN : Hid (N = 8 * n + 2 * s + g) := hN
  clear hN
  have kl := H4.out.2.1.kh.head.lt
  have b9 := H4.out.2.1.kh.head.at 9 rfl
  have b10 := H4.out.2.1.kh.head.at 10 rfl
  have b11 := H4.out.2.1.kh.head.at 11 rfl
  have b12 := H4.out.2.1.kh.head.at 12 rfl
  go_wp2
  clear b9 b10 b11 b12
  go_loopg [5] N (fun m i wr => ∃ k : Nat, i = .int .i64 k ∧ k ≤ N ∧ m = N - k ∧ Hid (Kept w4 wr))
  case atStart => exact ⟨0, rfl, by omega, by omega, Kept.refl _⟩
  case round =>
    obtain ⟨k, rfl, hk, hm, hw⟩ := hrel
    have HM : Hid _ := hm
    clear hm
    have HH : Hid (Blk wr w.heap.size [.int .i64 (n : Int), .int .i64 (s : Int), .int .i64 (g : Int), .int .i64 (th : Int), .int .i64 n4, .int .i64 (ch : Int), .int .i64 (most : Int), .int .i64 n7, .slice x l c] ∧ KH wr cc dd B (Kv.new N (8 * n + 2 * s) n s g most th ch) ∧ Kept w wr ∧ Kept w4 wr) := ⟨H4.out.1.kept hw.out, H4.out.2.1.kh.kept hw.out, H4.out.2.2.trans hw.out, hw.out⟩
    clear hw
    have b9 := HH.out.2.1.head.at 9 rfl
    have CLn := mem_len wr HH.out.2.1.mem
    rw [show (Kv.new N (8 * n + 2 * s) n s g most th ch).N = N from rfl] at CLn
    go_wp2_with fail
    refine CLn.mono ?_
    rintro e w5 ⟨rfl, e5⟩
    rw [e5]
    clear e5 CLn
    by_cases hlt : k < N
    · have hki : (k : Int) < (N : Int) := by omega
      have c0 := HH.out.1.at 0 rfl
      have c1 := HH.out.1.at 1 rfl
      have CP := mem_peek k wr HH.out.2.1.mem hlt
      rw [show (Kv.new N (8 * n + 2 * s) n s g most th ch).F = fwk (8 * n + 2 * s) g from rfl] at CP
      obtain ⟨hn1, hs1, hg1, _⟩ := HB.out
      have hkN : k < 20000 := by have := HN.out; omega
      by_cases hge : 8 * n + 2 * s ≤ k
      · have hge' : (k : Int) ≥ 8 * (n : Int) + 2 * (s : Int) := by omega
        have hf : fwk (8 * n + 2 * s) g k = cn := by
          have : 8 * n + 2 * s ≤ k ∧ k < 8 * n + 2 * s + g := by have := HN.out; omega
          simp only [fwk, if_pos this]
        rw [hf] at CP
        have CE := word_is 0 4607182418800017408 0 4607182418800017408 true nn_zero nn_one nn_zero nn_one (by decide) wr
        go_wp2_with fail
        refine CP.mono ?_
        rintro e w5 ⟨rfl, e5⟩
        rw [e5]
        clear e5 CP
        go_wp2_with fail
        refine CE.mono ?_
        rintro e w5 ⟨rfl, e5⟩
        rw [e5]
        clear e5 CE b9 c0 c1
        go_wp2
        go_roundg (gk - 1)
        all_goals (have := HM.out; try omega)
        exact ⟨k + 1, by go_num, by omega, by omega, HH.out.2.2.2⟩
      · have hge' : ¬ (k : Int) ≥ 8 * (n : Int) + 2 * (s : Int) := by omega
        have hf : fwk (8 * n + 2 * s) g k = cz := by
          have : ¬ (8 * n + 2 * s ≤ k ∧ k < 8 * n + 2 * s + g) := by omega
          simp only [fwk, if_neg this]
        rw [hf] at CP
        have CE := word_is 0 0 0 0 true nn_zero nn_zero nn_zero nn_zero (by decide) wr
        go_wp2_with fail
        refine CP.mono ?_
        rintro e w5 ⟨rfl, e5⟩
        rw [e5]
        clear e5 CP
        go_wp2_with fail
        refine CE.mono ?_
        rintro e w5 ⟨rfl, e5⟩
        rw [e5]
        clear e5 CE b9 c0 c1
        go_wp2
        go_roundg (gk - 1)
        all_goals (have := HM.out; try omega)
        exact ⟨k + 1, by go_num, by omega, by omega, HH.out.2.2.2⟩
    · obtain rfl : k = N := by omega
      have b12 := HH.out.2.1.head.at 12 rfl
      have CH := hlook_any wr HH.out.2.1.hand (by show (0 : Int) < 1000000000; decide)
      rw [show (Kv.new k (8 * n + 2 * s) n s g most th ch).H.st = 0 from rfl, show (Kv.new k (8 * n + 2 * s) n s g most th ch).H.se = false from rfl] at CH
      go_wp2_with fail
      refine CH.mono ?_
      rintro e w5 ⟨rfl, h5, m5⟩
      have H5 : Hid (Blk w5 w.heap.size [.int .i64 (n : Int), .int .i64 (s : Int), .int .i64 (g : Int), .int .i64 (th : Int), .int .i64 n4, .int .i64 (ch : Int), .int .i64 (most : Int), .int .i64 n7, .slice x l c] ∧ KH w5 cc dd B { Kv.new k (8 * n + 2 * s) n s g most th ch with H := (Kv.new k (8 * n + 2 * s) n s g most th ch).H.tick } ∧ Kept w w5 ∧ (∀ j, cc j ≠ 0 → w.heap.size ≤ j) ∧ B.A.C.n7 = n7) := by
        have z3 := H4.out.2.2.size
        have dl : ∀ j, dd j ≠ 0 → w.heap.size + 1 ≤ j := fun j hj => Nat.le_trans Z3.out (H4.out.2.1.newd j hj)
        have dh := dl B.hb (by rw [HH.out.2.1.dh]; decide)
        have dg := dl B.hg (by rw [HH.out.2.1.dg]; decide)
        exact ⟨HH.out.1.muts m5 (by simp; omega), HH.out.2.1.hands h5 m5, HH.out.2.2.1.muts m5 (fun j hj => by simp at hj; omega), fun j hj => Nat.le_trans (Nat.le_of_succ_le Z3.out) (H4.out.2.1.newc j hj), HC.out.1⟩
      clear CH b9 b12 h5 m5 H4 HC HH
      go_wp2
      have HX : Hid ((({ Kv.new k (8 * n + 2 * s) n s g most th ch with H := (Kv.new k (8 * n + 2 * s) n s g most th ch).H.tick } : Kv).N : Int) = 8 * (n : Int) + 2 * (s : Int) + (g : Int)) := by
        have := HN.out
        show (k : Int) = _
        omega
      have HX2 : Hid (Sp.Bd ({ Kv.new k (8 * n + 2 * s) n s g most th ch with H := (Kv.new k (8 * n + 2 * s) n s g most th ch).H.tick } : Kv).S 0 ∧ B.A.wants ({ Kv.new k (8 * n + 2 * s) n s g most th ch with H := (Kv.new k (8 * n + 2 * s) n s g most th ch).H.tick } : Kv).S = false) := by
        refine ⟨bd_new n s th ch 0, ?_⟩
        show B.A.wants (Sp.new n s th ch) = false
        have h7 := HB.out.2.2.2.2.2.2
        have e7 := H5.out.2.2.2.2
        have ec : cntB (Sp.new n s th ch).F (Sp.new n s th ch).n = n := cnt_all1 n s th ch
        unfold Ad.wants
        rw [ec, e7]
        have : ¬ ((n : Int) < n7) := by omega
        simp [Sp.new, wts, this]
      obtain ⟨hn1, hs1, hg1, _⟩ := HB.out
      refine wp_region_ghostC (G := Unit) (fun ⟨⟩ => [(.bool true), (.bool true), (.pointer (some ⟨B.kb, 0, none⟩)), (.pointer (some ⟨B.kb, 0, none⟩)), (.pointer (some ⟨B.kb, 9, none⟩)), (.pointer (some ⟨B.mh, 0, none⟩)), (.int .i64 (8 * (n : Int) + 2 * (s : Int) + (g : Int))), (.pointer (some ⟨w.heap.size, 0, none⟩)), (.int .i64 (n : Int)), (.int .i64 (8 * (n : Int))), (.pointer (some ⟨w.heap.size, 1, none⟩)), (.int .i64 (s : Int)), (.int .i64 (2 * (s : Int))), (.int .i64 (8 * (n : Int) + 2 * (s : Int))), (.pointer (some ⟨w.heap.size, 2, none⟩)), (.int .i64 (g : Int)), (.int .i64 (8 * (n : Int) + 2 * (s : Int) + (g : Int))), (.bool true), (.bool true), (.bool true), (.pointer (some ⟨B.kb, 0, none⟩)), (.pointer (some ⟨B.kb, 0, none⟩)), (.pointer (some ⟨B.kb, 10, none⟩)), (.pointer (some ⟨B.sb, 0, none⟩)), (.int .i64 0), (.bool true), (.bool true), (.bool true), (.pointer (some ⟨B.kb, 0, none⟩)), (.pointer (some ⟨B.kb, 0, none⟩)), (.pointer (some ⟨B.kb, 11, none⟩)), (.pointer (some ⟨B.A.b, 0, none⟩)), (.int .i64 0), (.bool true), (.bool true), (.bool true), (.pointer (some ⟨B.kb, 0, none⟩)), (.pointer (some ⟨B.kb, 0, none⟩)), (.pointer (some ⟨B.kb, 11, none⟩)), (.pointer (some ⟨B.A.b, 0, none⟩)), (.bool false), (.bool true), (.bool true), (.bool true), (.int .i64 0), (.bool true), (.bool true), (.bool true), (.bool false), (.bool true), (.bool true), (.bool true)]) [(2, 51), (94, 0), (95, 1), (96, 2), (97, 3), (98, 4), (99, 5), (100, 6), (101, 7), (102, 8), (103, 9), (104, 10), (105, 11), (106, 12), (107, 13), (108, 14), (109, 15), (110, 16), (111, 17), (112, 18), (113, 19), (114, 20), (115, 21), (116, 22), (117, 23), (118, 24), (119, 25), (120, 26), (121, 27), (122, 28), (123, 29), (124, 30), (125, 31), (126, 32), (127, 33), (128, 34), (129, 35), (130, 36), (131, 37), (132, 38), (133, 39), (134, 40), (135, 41), (136, 42), (137, 43), (138, 44), (139, 45), (140, 46), (141, 47), (142, 48), (143, 49), (144, 50)] (fun ⟨⟩ d u => JP 40 [] (fun u => Kept w5 u) (fun u => Kept w u) d u) (by kernel_rfl) (by kernel_rfl) (by kernel_rfl) (by kernel_rfl) (fun _ => rfl) ?_ ?_ ?_
      · exact ⟨(), JP.start (Kept.refl _).drew⟩
      · intro i1 o1 ho ng a1 d u hh hj0 hi hd hc
        obtain ⟨⟩ := ng
        have hj : JP 40 [] (fun u => Kept w5 u) (fun u => Kept w u) d u := hj0
        clear hj0
        match i1, ho, hi, hd with
        | 0, ho, hi, hd =>
          simp only [List.getElem?_cons_zero, Option.some.injEq] at ho
          subst ho
          have n40 : d 40 = false := by
            cases q : d 40 with
            | false => rfl
            | true => exact absurd (hc 1 _ rfl (hc 18 _ rfl (hc 19 _ rfl (hc 26 _ rfl (hc 27 _ rfl (hc 34 _ rfl (hc 35 _ rfl (hc 40 _ rfl q { on := 35, ground := .chain } (by simp) rfl) { on := 34, ground := .data } (by simp) rfl) { on := 27, ground := .data } (by simp) rfl) { on := 26, ground := .data } (by simp) rfl) { on := 19, ground := .data } (by simp) rfl) { on := 18, ground := .data } (by simp) rfl) { on := 1, ground := .data } (by simp) rfl) { on := 0, ground := .data } (by simp) rfl) (by simp [hi])
          have h0 := hj.now n40
          have C := first_any u
          have HJ : Hid (Kept w5 u) := h0
          have HN40 : Hid (d 40 = false) := n40
          have HJJ : Hid (JP 40 [] (fun u => Kept w5 u) (fun u => Kept w u) d u) := hj
          clear hh hd hc hj hi h0 n40
          refine wpOp_step rfl (fun K hK => ?_)
          go_simp
          refine C.mono ?_
          rintro e u2 ⟨rfl, k2⟩
          exact hK _ _ ⟨(), fun _ _ => rfl, by simp [Act.put], HJJ.out.stay HN40.out 0 (by decide) (HJ.out.trans k2)⟩
        | 1, ho, hi, hd =>
          simp only [List.getElem?_cons_succ, List.getElem?_cons_zero, Option.some.injEq] at ho
          subst ho
          have g94 : a1.tmps[94]? = some (.bool true) := hh.did 0 _ 94 rfl rfl (hd { on := 0, ground := .data } (by simp) rfl)
          have HN : Hid (JP 40 [] (fun u => Kept w5 u) (fun u => Kept w u) (done d 1) u) := hj.plain 1 (by decide)
          clear hh hd hc hj hi
          refine wpOp_step rfl (fun K hK => ?_)
          go_simp
          exact hK _ _ ⟨⟨⟩, fun _ _ => rfl, by simp [Act.put], HN.out⟩
        | 2, ho, hi, hd =>
          simp only [List.getElem?_cons_succ, List.getElem?_cons_zero, Option.some.injEq] at ho
          subst ho
          have g3 : a1.tmps[3]? = some (.pointer (some ⟨B.kb, 0, none⟩)) := hh.old 3 (by kernel_rfl) rfl
          have g95 : a1.tmps[95]? = some (.bool true) := hh.did 1 _ 95 rfl rfl (hd { on := 1, ground := .guard } (by simp) rfl)
          have HN : Hid (JP 40 [] (fun u => Kept w5 u) (fun u => Kept w u) (done d 2) u) := hj.plain 2 (by decide)
          clear hh hd hc hj hi
          refine wpOp_step rfl (fun K hK => ?_)
          go_simp
          exact hK _ _ ⟨⟨⟩, fun _ _ => rfl, by simp [Act.put], HN.out⟩
        | 3, ho, hi, hd =>
          simp only [List.getElem?_cons_succ, List.getElem?_cons_zero, Option.some.injEq] at ho
          subst ho
          have g96 : a1.tmps[96]? = some (.pointer (some ⟨B.kb, 0, none⟩)) := hh.did 2 _ 96 rfl rfl (hd { on := 2, ground := .data } (by simp) rfl)
          have g95 : a1.tmps[95]? = some (.bool true) := hh.did 1 _ 95 rfl rfl (hd { on := 1, ground := .guard } (by simp) rfl)
          have HN : Hid (JP 40 [] (fun u => Kept w5 u) (fun u => Kept w u) (done d 3) u) := hj.plain 3 (by decide)
          clear hh hd hc hj hi
          refine wpOp_step rfl (fun K hK => ?_)
          go_simp
          exact hK _ _ ⟨⟨⟩, fun _ _ => rfl, by simp [Act.put], HN.out⟩
        | 4, ho, hi, hd =>
          simp only [List.getElem?_cons_succ, List.getElem?_cons_zero, Option.some.injEq] at ho
          subst ho
          have g97 : a1.tmps[97]? = some (.pointer (some ⟨B.kb, 0, none⟩)) := hh.did 3 _ 97 rfl rfl (hd { on := 3, ground := .data } (by simp) rfl)
          have g95 : a1.tmps[95]? = some (.bool true) := hh.did 1 _ 95 rfl rfl (hd { on := 1, ground := .guard } (by simp) rfl)
          have HN : Hid (JP 40 [] (fun u => Kept w5 u) (fun u => Kept w u) (done d 4) u) := hj.plain 4 (by decide)
          clear hh hd hc hj hi
          refine wpOp_step rfl (fun K hK => ?_)
          go_simp
          exact hK _ _ ⟨⟨⟩, fun _ _ => rfl, by simp [Act.put], HN.out⟩
        | 5, ho, hi, hd =>
          simp only [List.getElem?_cons_succ, List.getElem?_cons_zero, Option.some.injEq] at ho
          subst ho
          have g98 : a1.tmps[98]? = some (.pointer (some ⟨B.kb, 9, none⟩)) := hh.did 4 _ 98 rfl rfl (hd { on := 4, ground := .data } (by simp) rfl)
          have g95 : a1.tmps[95]? = some (.bool true) := hh.did 1 _ 95 rfl rfl (hd { on := 1, ground := .guard } (by simp) rfl)
          have n40 : d 40 = false := by
            cases q : d 40 with
            | false => rfl
            | true => exact absurd (hc 6 _ rfl (hc 19 _ rfl (hc 26 _ rfl (hc 27 _ rfl (hc 34 _ rfl (hc 35 _ rfl (hc 40 _ rfl q { on := 35, ground := .chain } (by simp) rfl) { on := 34, ground := .data } (by simp) rfl) { on := 27, ground := .data } (by simp) rfl) { on := 26, ground := .data } (by simp) rfl) { on := 19, ground := .data } (by simp) rfl) { on := 6, ground := .chain } (by simp) rfl) { on := 5, ground := .data } (by simp) rfl) (by simp [hi])
          have h0 := hj.now n40
          have q9 := (H5.out.2.1.head.kept h0).at 9 rfl
          have HN : Hid (JP 40 [] (fun u => Kept w5 u) (fun u => Kept w u) (done d 5) u) := hj.plain 5 (by decide)
          clear hh hd hc hj hi h0 n40
          refine wpOp_step rfl (fun K hK => ?_)
          go_simp
          exact hK _ _ ⟨⟨⟩, fun _ _ => rfl, by simp [Act.put], HN.out⟩
        | 6, ho, hi, hd =>
          simp only [List.getElem?_cons_succ, List.getElem?_cons_zero, Option.some.injEq] at ho
          subst ho
          have g99 : a1.tmps[99]? = some (.pointer (some ⟨B.mh, 0, none⟩)) := hh.did 5 _ 99 rfl rfl (hd { on := 5, ground := .data } (by simp) rfl)
          have g95 : a1.tmps[95]? = some (.bool true) := hh.did 1 _ 95 rfl rfl (hd { on := 1, ground := .guard } (by simp) rfl)
          have n40 : d 40 = false := by
            cases q : d 40 with
            | false => rfl
            | true => exact absurd (hc 19 _ rfl (hc 26 _ rfl (hc 27 _ rfl (hc 34 _ rfl (hc 35 _ rfl (hc 40 _ rfl q { on := 35, ground := .chain } (by simp) rfl) { on := 34, ground := .data } (by simp) rfl) { on := 27, ground := .data } (by simp) rfl) { on := 26, ground := .data } (by simp) rfl) { on := 19, ground := .data } (by simp) rfl) { on := 6, ground := .chain } (by simp) rfl) (by simp [hi])
          have h0 := hj.now n40
          have C := mem_len u (H5.out.2.1.kept h0).mem
          rw [HX.out] at C
          have HN : Hid (JP 40 [] (fun u => Kept w5 u) (fun u => Kept w u) (done d 6) u) := hj.plain 6 (by decide)
          clear hh hd hc hj hi h0 n40
          refine wpOp_step rfl (fun K hK => ?_)
          go_simp
          refine C.mono ?_
          rintro e u2 ⟨rfl, e2⟩
          rw [e2]
          exact hK _ _ ⟨(), fun _ _ => rfl, by simp [Act.put], HN.out⟩
        | 7, ho, hi, hd =>
          simp only [List.getElem?_cons_succ, List.getElem?_cons_zero, Option.some.injEq] at ho
          subst ho
          have g1 : a1.tmps[1]? = some (.pointer (some ⟨w.heap.size, 0, none⟩)) := hh.old 1 (by kernel_rfl) rfl
          have g95 : a1.tmps[95]? = some (.bool true) := hh.did 1 _ 95 rfl rfl (hd { on := 1, ground := .guard } (by simp) rfl)
          have HN : Hid (JP 40 [] (fun u => Kept w5 u) (fun u => Kept w u) (done d 7) u) := hj.plain 7 (by decide)
          clear hh hd hc hj hi
          refine wpOp_step rfl (fun K hK => ?_)
          go_simp
          exact hK _ _ ⟨⟨⟩, fun _ _ => rfl, by simp [Act.put], HN.out⟩
        | 8, ho, hi, hd =>
          simp only [List.getElem?_cons_succ, List.getElem?_cons_zero, Option.some.injEq] at ho
          subst ho
          have g101 : a1.tmps[101]? = some (.pointer (some ⟨w.heap.size, 0, none⟩)) := hh.did 7 _ 101 rfl rfl (hd { on := 7, ground := .data } (by simp) rfl)
          have g95 : a1.tmps[95]? = some (.bool true) := hh.did 1 _ 95 rfl rfl (hd { on := 1, ground := .guard } (by simp) rfl)
          have n40 : d 40 = false := by
            cases q : d 40 with
            | false => rfl
            | true => exact absurd (hc 9 _ rfl (hc 13 _ rfl (hc 16 _ rfl (hc 17 _ rfl (hc 18 _ rfl (hc 19 _ rfl (hc 26 _ rfl (hc 27 _ rfl (hc 34 _ rfl (hc 35 _ rfl (hc 40 _ rfl q { on := 35, ground := .chain } (by simp) rfl) { on := 34, ground := .data } (by simp) rfl) { on := 27, ground := .data } (by simp) rfl) { on := 26, ground := .data } (by simp) rfl) { on := 19, ground := .data } (by simp) rfl) { on := 18, ground := .data } (by simp) rfl) { on := 17, ground := .data } (by simp) rfl) { on := 16, ground := .data } (by simp) rfl) { on := 13, ground := .data } (by simp) rfl) { on := 9, ground := .data } (by simp) rfl) { on := 8, ground := .data } (by simp) rfl) (by simp [hi])
          have h0 := hj.now n40
          have q0 := (H5.out.1.kept h0).at 0 rfl
          have HN : Hid (JP 40 [] (fun u => Kept w5 u) (fun u => Kept w u) (done d 8) u) := hj.plain 8 (by decide)
          clear hh hd hc hj hi h0 n40
          refine wpOp_step rfl (fun K hK => ?_)
          go_simp
          exact hK _ _ ⟨⟨⟩, fun _ _ => rfl, by simp [Act.put], HN.out⟩
        | 9, ho, hi, hd =>
          simp only [List.getElem?_cons_succ, List.getElem?_cons_zero, Option.some.injEq] at ho
          subst ho
          have g102 : a1.tmps[102]? = some (.int .i64 (n : Int)) := hh.did 8 _ 102 rfl rfl (hd { on := 8, ground := .data } (by simp) rfl)
          have g95 : a1.tmps[95]? = some (.bool true) := hh.did 1 _ 95 rfl rfl (hd { on := 1, ground := .guard } (by simp) rfl)
          have hwr : IntKind.i64.wrap (8 * (n : Int)) = 8 * (n : Int) := IntWalk.i64_in _ (by omega)
          have HN : Hid (JP 40 [] (fun u => Kept w5 u) (fun u => Kept w u) (done d 9) u) := hj.plain 9 (by decide)
          clear hh hd hc hj hi
          refine wpOp_step rfl (fun K hK => ?_)
          go_simp
          exact hK _ _ ⟨⟨⟩, fun _ _ => rfl, by simp [Act.put], HN.out⟩
        | 10, ho, hi, hd =>
          simp only [List.getElem?_cons_succ, List.getElem?_cons_zero, Option.some.injEq] at ho
          subst ho
          have g1 : a1.tmps[1]? = some (.pointer (some ⟨w.heap.size, 0, none⟩)) := hh.old 1 (by kernel_rfl) rfl
          have g95 : a1.tmps[95]? = some (.bool true) := hh.did 1 _ 95 rfl rfl (hd { on := 1, ground := .guard } (by simp) rfl)
          have HN : Hid (JP 40 [] (fun u => Kept w5 u) (fun u => Kept w u) (done d 10) u) := hj.plain 10 (by decide)
          clear hh hd hc hj hi
          refine wpOp_step rfl (fun K hK => ?_)
          go_simp
          exact hK _ _ ⟨⟨⟩, fun _ _ => rfl, by simp [Act.put], HN.out⟩
        | 11, ho, hi, hd =>
          simp only [List.getElem?_cons_succ, List.getElem?_cons_zero, Option.some.injEq] at ho
          subst ho
          have g104 : a1.tmps[104]? = some (.pointer (some ⟨w.heap.size, 1, none⟩)) := hh.did 10 _ 104 rfl rfl (hd { on := 10, ground := .data } (by simp) rfl)
          have g95 : a1.tmps[95]? = some (.bool true) := hh.did 1 _ 95 rfl rfl (hd { on := 1, ground := .guard } (by simp) rfl)
          have n40 : d 40 = false := by
            cases q : d 40 with
            | false => rfl
            | true => exact absurd (hc 12 _ rfl (hc 13 _ rfl (hc 16 _ rfl (hc 17 _ rfl (hc 18 _ rfl (hc 19 _ rfl (hc 26 _ rfl (hc 27 _ rfl (hc 34 _ rfl (hc 35 _ rfl (hc 40 _ rfl q { on := 35, ground := .chain } (by simp) rfl) { on := 34, ground := .data } (by simp) rfl) { on := 27, ground := .data } (by simp) rfl) { on := 26, ground := .data } (by simp) rfl) { on := 19, ground := .data } (by simp) rfl) { on := 18, ground := .data } (by simp) rfl) { on := 17, ground := .data } (by simp) rfl) { on := 16, ground := .data } (by simp) rfl) { on := 13, ground := .data } (by simp) rfl) { on := 12, ground := .data } (by simp) rfl) { on := 11, ground := .data } (by simp) rfl) (by simp [hi])
          have h0 := hj.now n40
          have q1 := (H5.out.1.kept h0).at 1 rfl
          have HN : Hid (JP 40 [] (fun u => Kept w5 u) (fun u => Kept w u) (done d 11) u) := hj.plain 11 (by decide)
          clear hh hd hc hj hi h0 n40
          refine wpOp_step rfl (fun K hK => ?_)
          go_simp
          exact hK _ _ ⟨⟨⟩, fun _ _ => rfl, by simp [Act.put], HN.out⟩
        | 12, ho, hi, hd =>
          simp only [List.getElem?_cons_succ, List.getElem?_cons_zero, Option.some.injEq] at ho
          subst ho
          have g105 : a1.tmps[105]? = some (.int .i64 (s : Int)) := hh.did 11 _ 105 rfl rfl (hd { on := 11, ground := .data } (by simp) rfl)
          have g95 : a1.tmps[95]? = some (.bool true) := hh.did 1 _ 95 rfl rfl (hd { on := 1, ground := .guard } (by simp) rfl)
          have hwr : IntKind.i64.wrap (2 * (s : Int)) = 2 * (s : Int) := IntWalk.i64_in _ (by omega)
          have HN : Hid (JP 40 [] (fun u => Kept w5 u) (fun u => Kept w u) (done d 12) u) := hj.plain 12 (by decide)
          clear hh hd hc hj hi
          refine wpOp_step rfl (fun K hK => ?_)
          go_simp
          exact hK _ _ ⟨⟨⟩, fun _ _ => rfl, by simp [Act.put], HN.out⟩
        | 13, ho, hi, hd =>
          simp only [List.getElem?_cons_succ, List.getElem?_cons_zero, Option.some.injEq] at ho
          subst ho
          have g103 : a1.tmps[103]? = some (.int .i64 (8 * (n : Int))) := hh.did 9 _ 103 rfl rfl (hd { on := 9, ground := .data } (by simp) rfl)
          have g106 : a1.tmps[106]? = some (.int .i64 (2 * (s : Int))) := hh.did 12 _ 106 rfl rfl (hd { on := 12, ground := .data } (by simp) rfl)
          have g95 : a1.tmps[95]? = some (.bool true) := hh.did 1 _ 95 rfl rfl (hd { on := 1, ground := .guard } (by simp) rfl)
          have hwr : IntKind.i64.wrap (8 * (n : Int) + 2 * (s : Int)) = 8 * (n : Int) + 2 * (s : Int) := IntWalk.i64_in _ (by omega)
          have HN : Hid (JP 40 [] (fun u => Kept w5 u) (fun u => Kept w u) (done d 13) u) := hj.plain 13 (by decide)
          clear hh hd hc hj hi
          refine wpOp_step rfl (fun K hK => ?_)
          go_simp
          exact hK _ _ ⟨⟨⟩, fun _ _ => rfl, by simp [Act.put], HN.out⟩
        | 14, ho, hi, hd =>
          simp only [List.getElem?_cons_succ, List.getElem?_cons_zero, Option.some.injEq] at ho
          subst ho
          have g1 : a1.tmps[1]? = some (.pointer (some ⟨w.heap.size, 0, none⟩)) := hh.old 1 (by kernel_rfl) rfl
          have g95 : a1.tmps[95]? = some (.bool true) := hh.did 1 _ 95 rfl rfl (hd { on := 1, ground := .guard } (by simp) rfl)
          have HN : Hid (JP 40 [] (fun u => Kept w5 u) (fun u => Kept w u) (done d 14) u) := hj.plain 14 (by decide)
          clear hh hd hc hj hi
          refine wpOp_step rfl (fun K hK => ?_)
          go_simp
          exact hK _ _ ⟨⟨⟩, fun _ _ => rfl, by simp [Act.put], HN.out⟩
        | 15, ho, hi, hd =>
          simp only [List.getElem?_cons_succ, List.getElem?_cons_zero, Option.some.injEq] at ho
          subst ho
          have g108 : a1.tmps[108]? = some (.pointer (some ⟨w.heap.size, 2, none⟩)) := hh.did 14 _ 108 rfl rfl (hd { on := 14, ground := .data } (by simp) rfl)
          have g95 : a1.tmps[95]? = some (.bool true) := hh.did 1 _ 95 rfl rfl (hd { on := 1, ground := .guard } (by simp) rfl)
          have n40 : d 40 = false := by
            cases q : d 40 with
            | false => rfl
            | true => exact absurd (hc 16 _ rfl (hc 17 _ rfl (hc 18 _ rfl (hc 19 _ rfl (hc 26 _ rfl (hc 27 _ rfl (hc 34 _ rfl (hc 35 _ rfl (hc 40 _ rfl q { on := 35, ground := .chain } (by simp) rfl) { on := 34, ground := .data } (by simp) rfl) { on := 27, ground := .data } (by simp) rfl) { on := 26, ground := .data } (by simp) rfl) { on := 19, ground := .data } (by simp) rfl) { on := 18, ground := .data } (by simp) rfl) { on := 17, ground := .data } (by simp) rfl) { on := 16, ground := .data } (by simp) rfl) { on := 15, ground := .data } (by simp) rfl) (by simp [hi])
          have h0 := hj.now n40
          have q2 := (H5.out.1.kept h0).at 2 rfl
          have HN : Hid (JP 40 [] (fun u => Kept w5 u) (fun u => Kept w u) (done d 15) u) := hj.plain 15 (by decide)
          clear hh hd hc hj hi h0 n40
          refine wpOp_step rfl (fun K hK => ?_)
          go_simp
          exact hK _ _ ⟨⟨⟩, fun _ _ => rfl, by simp [Act.put], HN.out⟩
        | 16, ho, hi, hd =>
          simp only [List.getElem?_cons_succ, List.getElem?_cons_zero, Option.some.injEq] at ho
          subst ho
          have g107 : a1.tmps[107]? = some (.int .i64 (8 * (n : Int) + 2 * (s : Int))) := hh.did 13 _ 107 rfl rfl (hd { on := 13, ground := .data } (by simp) rfl)
          have g109 : a1.tmps[109]? = some (.int .i64 (g : Int)) := hh.did 15 _ 109 rfl rfl (hd { on := 15, ground := .data } (by simp) rfl)
          have g95 : a1.tmps[95]? = some (.bool true) := hh.did 1 _ 95 rfl rfl (hd { on := 1, ground := .guard } (by simp) rfl)
          have hwr : IntKind.i64.wrap (8 * (n : Int) + 2 * (s : Int) + (g : Int)) = 8 * (n : Int) + 2 * (s : Int) + (g : Int) := IntWalk.i64_in _ (by omega)
          have HN : Hid (JP 40 [] (fun u => Kept w5 u) (fun u => Kept w u) (done d 16) u) := hj.plain 16 (by decide)
          clear hh hd hc hj hi
          refine wpOp_step rfl (fun K hK => ?_)
          go_simp
          exact hK _ _ ⟨⟨⟩, fun _ _ => rfl, by simp [Act.put], HN.out⟩
        | 17, ho, hi, hd =>
          simp only [List.getElem?_cons_succ, List.getElem?_cons_zero, Option.some.injEq] at ho
          subst ho
          have g100 : a1.tmps[100]? = some (.int .i64 (8 * (n : Int) + 2 * (s : Int) + (g : Int))) := hh.did 6 _ 100 rfl rfl (hd { on := 6, ground := .data } (by simp) rfl)
          have g110 : a1.tmps[110]? = some (.int .i64 (8 * (n : Int) + 2 * (s : Int) + (g : Int))) := hh.did 16 _ 110 rfl rfl (hd { on := 16, ground := .data } (by simp) rfl)
          have g95 : a1.tmps[95]? = some (.bool true) := hh.did 1 _ 95 rfl rfl (hd { on := 1, ground := .guard } (by simp) rfl)
          have HN : Hid (JP 40 [] (fun u => Kept w5 u) (fun u => Kept w u) (done d 17) u) := hj.plain 17 (by decide)
          clear hh hd hc hj hi
          refine wpOp_step rfl (fun K hK => ?_)
          go_simp
          exact hK _ _ ⟨⟨⟩, fun _ _ => rfl, by simp [Act.put], HN.out⟩
        | 18, ho, hi, hd =>
          simp only [List.getElem?_cons_succ, List.getElem?_cons_zero, Option.some.injEq] at ho
          subst ho
          have g95 : a1.tmps[95]? = some (.bool true) := hh.did 1 _ 95 rfl rfl (hd { on := 1, ground := .data } (by simp) rfl)
          have g111 : a1.tmps[111]? = some (.bool true) := hh.did 17 _ 111 rfl rfl (hd { on := 17, ground := .data } (by simp) rfl)
          have HN : Hid (JP 40 [] (fun u => Kept w5 u) (fun u => Kept w u) (done d 18) u) := hj.plain 18 (by decide)
          clear hh hd hc hj hi
          refine wpOp_step rfl (fun K hK => ?_)
          go_simp
          exact hK _ _ ⟨⟨⟩, fun _ _ => rfl, by simp [Act.put], HN.out⟩
        | 19, ho, hi, hd =>
          simp only [List.getElem?_cons_succ, List.getElem?_cons_zero, Option.some.injEq] at ho
          subst ho
          have g112 : a1.tmps[112]? = some (.bool true) := hh.did 18 _ 112 rfl rfl (hd { on := 18, ground := .data } (by simp) rfl)
          have HN : Hid (JP 40 [] (fun u => Kept w5 u) (fun u => Kept w u) (done d 19) u) := hj.plain 19 (by decide)
          clear hh hd hc hj hi
          refine wpOp_step rfl (fun K hK => ?_)
          go_simp
          exact hK _ _ ⟨⟨⟩, fun _ _ => rfl, by simp [Act.put], HN.out⟩
        | 20, ho, hi, hd =>
          simp only [List.getElem?_cons_succ, List.getElem?_cons_zero, Option.some.injEq] at ho
          subst ho
          have g3 : a1.tmps[3]? = some (.pointer (some ⟨B.kb, 0, none⟩)) := hh.old 3 (by kernel_rfl) rfl
          have g113 : a1.tmps[113]? = some (.bool true) := hh.did 19 _ 113 rfl rfl (hd { on := 19, ground := .guard } (by simp) rfl)
          have HN : Hid (JP 40 [] (fun u => Kept w5 u) (fun u => Kept w u) (done d 20) u) := hj.plain 20 (by decide)
          clear hh hd hc hj hi
          refine wpOp_step rfl (fun K hK => ?_)
          go_simp
          exact hK _ _ ⟨⟨⟩, fun _ _ => rfl, by simp [Act.put], HN.out⟩
        | 21, ho, hi, hd =>
          simp only [List.getElem?_cons_succ, List.getElem?_cons_zero, Option.some.injEq] at ho
          subst ho
          have g114 : a1.tmps[114]? = some (.pointer (some ⟨B.kb, 0, none⟩)) := hh.did 20 _ 114 rfl rfl (hd { on := 20, ground := .data } (by simp) rfl)
          have g113 : a1.tmps[113]? = some (.bool true) := hh.did 19 _ 113 rfl rfl (hd { on := 19, ground := .guard } (by simp) rfl)
          have HN : Hid (JP 40 [] (fun u => Kept w5 u) (fun u => Kept w u) (done d 21) u) := hj.plain 21 (by decide)
          clear hh hd hc hj hi
          refine wpOp_step rfl (fun K hK => ?_)
          go_simp
          exact hK _ _ ⟨⟨⟩, fun _ _ => rfl, by simp [Act.put], HN.out⟩
        | 22, ho, hi, hd =>
          simp only [List.getElem?_cons_succ, List.getElem?_cons_zero, Option.some.injEq] at ho
          subst ho
          have g115 : a1.tmps[115]? = some (.pointer (some ⟨B.kb, 0, none⟩)) := hh.did 21 _ 115 rfl rfl (hd { on := 21, ground := .data } (by simp) rfl)
          have g113 : a1.tmps[113]? = some (.bool true) := hh.did 19 _ 113 rfl rfl (hd { on := 19, ground := .guard } (by simp) rfl)
          have HN : Hid (JP 40 [] (fun u => Kept w5 u) (fun u => Kept w u) (done d 22) u) := hj.plain 22 (by decide)
          clear hh hd hc hj hi
          refine wpOp_step rfl (fun K hK => ?_)
          go_simp
          exact hK _ _ ⟨⟨⟩, fun _ _ => rfl, by simp [Act.put], HN.out⟩
        | 23, ho, hi, hd =>
          simp only [List.getElem?_cons_succ, List.getElem?_cons_zero, Option.some.injEq] at ho
          subst ho
          have g116 : a1.tmps[116]? = some (.pointer (some ⟨B.kb, 10, none⟩)) := hh.did 22 _ 116 rfl rfl (hd { on := 22, ground := .data } (by simp) rfl)
          have g113 : a1.tmps[113]? = some (.bool true) := hh.did 19 _ 113 rfl rfl (hd { on := 19, ground := .guard } (by simp) rfl)
          have n40 : d 40 = false := by
            cases q : d 40 with
            | false => rfl
            | true => exact absurd (hc 24 _ rfl (hc 27 _ rfl (hc 34 _ rfl (hc 35 _ rfl (hc 40 _ rfl q { on := 35, ground := .chain } (by simp) rfl) { on := 34, ground := .data } (by simp) rfl) { on := 27, ground := .data } (by simp) rfl) { on := 24, ground := .chain } (by simp) rfl) { on := 23, ground := .data } (by simp) rfl) (by simp [hi])
          have h0 := hj.now n40
          have q10 := (H5.out.2.1.head.kept h0).at 10 rfl
          have HN : Hid (JP 40 [] (fun u => Kept w5 u) (fun u => Kept w u) (done d 23) u) := hj.plain 23 (by decide)
          clear hh hd hc hj hi h0 n40
          refine wpOp_step rfl (fun K hK => ?_)
          go_simp
          exact hK _ _ ⟨⟨⟩, fun _ _ => rfl, by simp [Act.put], HN.out⟩
        | 24, ho, hi, hd =>
          simp only [List.getElem?_cons_succ, List.getElem?_cons_zero, Option.some.injEq] at ho
          subst ho
          have g117 : a1.tmps[117]? = some (.pointer (some ⟨B.sb, 0, none⟩)) := hh.did 23 _ 117 rfl rfl (hd { on := 23, ground := .data } (by simp) rfl)
          have g113 : a1.tmps[113]? = some (.bool true) := hh.did 19 _ 113 rfl rfl (hd { on := 19, ground := .guard } (by simp) rfl)
          have n40 : d 40 = false := by
            cases q : d 40 with
            | false => rfl
            | true => exact absurd (hc 27 _ rfl (hc 34 _ rfl (hc 35 _ rfl (hc 40 _ rfl q { on := 35, ground := .chain } (by simp) rfl) { on := 34, ground := .data } (by simp) rfl) { on := 27, ground := .data } (by simp) rfl) { on := 24, ground := .chain } (by simp) rfl) (by simp [hi])
          have h0 := hj.now n40
          have C := dlen_any u (H5.out.2.1.kept h0).sh
          rw [show (Kv.sh { Kv.new k (8 * n + 2 * s) n s g most th ch with H := (Kv.new k (8 * n + 2 * s) n s g most th ch).H.tick }).P.length = 0 from rfl] at C
          have HN : Hid (JP 40 [] (fun u => Kept w5 u) (fun u => Kept w u) (done d 24) u) := hj.plain 24 (by decide)
          clear hh hd hc hj hi h0 n40
          refine wpOp_step rfl (fun K hK => ?_)
          go_simp
          refine C.mono ?_
          rintro e u2 ⟨rfl, e2⟩
          rw [e2]
          exact hK _ _ ⟨(), fun _ _ => rfl, by simp [Act.put], HN.out⟩
        | 25, ho, hi, hd =>
          simp only [List.getElem?_cons_succ, List.getElem?_cons_zero, Option.some.injEq] at ho
          subst ho
          have g118 : a1.tmps[118]? = some (.int .i64 0) := hh.did 24 _ 118 rfl rfl (hd { on := 24, ground := .data } (by simp) rfl)
          have g113 : a1.tmps[113]? = some (.bool true) := hh.did 19 _ 113 rfl rfl (hd { on := 19, ground := .guard } (by simp) rfl)
          have HN : Hid (JP 40 [] (fun u => Kept w5 u) (fun u => Kept w u) (done d 25) u) := hj.plain 25 (by decide)
          clear hh hd hc hj hi
          refine wpOp_step rfl (fun K hK => ?_)
          go_simp
          exact hK _ _ ⟨⟨⟩, fun _ _ => rfl, by simp [Act.put], HN.out⟩
        | 26, ho, hi, hd =>
          simp only [List.getElem?_cons_succ, List.getElem?_cons_zero, Option.some.injEq] at ho
          subst ho
          have g113 : a1.tmps[113]? = some (.bool true) := hh.did 19 _ 113 rfl rfl (hd { on := 19, ground := .data } (by simp) rfl)
          have g119 : a1.tmps[119]? = some (.bool true) := hh.did 25 _ 119 rfl rfl (hd { on := 25, ground := .data } (by simp) rfl)
          have HN : Hid (JP 40 [] (fun u => Kept w5 u) (fun u => Kept w u) (done d 26) u) := hj.plain 26 (by decide)
          clear hh hd hc hj hi
          refine wpOp_step rfl (fun K hK => ?_)
          go_simp
          exact hK _ _ ⟨⟨⟩, fun _ _ => rfl, by simp [Act.put], HN.out⟩
        | 27, ho, hi, hd =>
          simp only [List.getElem?_cons_succ, List.getElem?_cons_zero, Option.some.injEq] at ho
          subst ho
          have g120 : a1.tmps[120]? = some (.bool true) := hh.did 26 _ 120 rfl rfl (hd { on := 26, ground := .data } (by simp) rfl)
          have HN : Hid (JP 40 [] (fun u => Kept w5 u) (fun u => Kept w u) (done d 27) u) := hj.plain 27 (by decide)
          clear hh hd hc hj hi
          refine wpOp_step rfl (fun K hK => ?_)
          go_simp
          exact hK _ _ ⟨⟨⟩, fun _ _ => rfl, by simp [Act.put], HN.out⟩
        | 28, ho, hi, hd =>
          simp only [List.getElem?_cons_succ, List.getElem?_cons_zero, Option.some.injEq] at ho
          subst ho
          have g3 : a1.tmps[3]? = some (.pointer (some ⟨B.kb, 0, none⟩)) := hh.old 3 (by kernel_rfl) rfl
          have g121 : a1.tmps[121]? = some (.bool true) := hh.did 27 _ 121 rfl rfl (hd { on := 27, ground := .guard } (by simp) rfl)
          have HN : Hid (JP 40 [] (fun u => Kept w5 u) (fun u => Kept w u) (done d 28) u) := hj.plain 28 (by decide)
          clear hh hd hc hj hi
          refine wpOp_step rfl (fun K hK => ?_)
          go_simp
          exact hK _ _ ⟨⟨⟩, fun _ _ => rfl, by simp [Act.put], HN.out⟩
        | 29, ho, hi, hd =>
          simp only [List.getElem?_cons_succ, List.getElem?_cons_zero, Option.some.injEq] at ho
          subst ho
          have g122 : a1.tmps[122]? = some (.pointer (some ⟨B.kb, 0, none⟩)) := hh.did 28 _ 122 rfl rfl (hd { on := 28, ground := .data } (by simp) rfl)
          have g121 : a1.tmps[121]? = some (.bool true) := hh.did 27 _ 121 rfl rfl (hd { on := 27, ground := .guard } (by simp) rfl)
          have HN : Hid (JP 40 [] (fun u => Kept w5 u) (fun u => Kept w u) (done d 29) u) := hj.plain 29 (by decide)
          clear hh hd hc hj hi
          refine wpOp_step rfl (fun K hK => ?_)
          go_simp
          exact hK _ _ ⟨⟨⟩, fun _ _ => rfl, by simp [Act.put], HN.out⟩
        | 30, ho, hi, hd =>
          simp only [List.getElem?_cons_succ, List.getElem?_cons_zero, Option.some.injEq] at ho
          subst ho
          have g123 : a1.tmps[123]? = some (.pointer (some ⟨B.kb, 0, none⟩)) := hh.did 29 _ 123 rfl rfl (hd { on := 29, ground := .data } (by simp) rfl)
          have g121 : a1.tmps[121]? = some (.bool true) := hh.did 27 _ 121 rfl rfl (hd { on := 27, ground := .guard } (by simp) rfl)
          have HN : Hid (JP 40 [] (fun u => Kept w5 u) (fun u => Kept w u) (done d 30) u) := hj.plain 30 (by decide)
          clear hh hd hc hj hi
          refine wpOp_step rfl (fun K hK => ?_)
          go_simp
          exact hK _ _ ⟨⟨⟩, fun _ _ => rfl, by simp [Act.put], HN.out⟩
        | 31, ho, hi, hd =>
          simp only [List.getElem?_cons_succ, List.getElem?_cons_zero, Option.some.injEq] at ho
          subst ho
          have g124 : a1.tmps[124]? = some (.pointer (some ⟨B.kb, 11, none⟩)) := hh.did 30 _ 124 rfl rfl (hd { on := 30, ground := .data } (by simp) rfl)
          have g121 : a1.tmps[121]? = some (.bool true) := hh.did 27 _ 121 rfl rfl (hd { on := 27, ground := .guard } (by simp) rfl)
          have n40 : d 40 = false := by
            cases q : d 40 with
            | false => rfl
            | true => exact absurd (hc 32 _ rfl (hc 35 _ rfl (hc 40 _ rfl q { on := 35, ground := .chain } (by simp) rfl) { on := 32, ground := .chain } (by simp) rfl) { on := 31, ground := .data } (by simp) rfl) (by simp [hi])
          have h0 := hj.now n40
          have q11 := (H5.out.2.1.head.kept h0).at 11 rfl
          have HN : Hid (JP 40 [] (fun u => Kept w5 u) (fun u => Kept w u) (done d 31) u) := hj.plain 31 (by decide)
          clear hh hd hc hj hi h0 n40
          refine wpOp_step rfl (fun K hK => ?_)
          go_simp
          exact hK _ _ ⟨⟨⟩, fun _ _ => rfl, by simp [Act.put], HN.out⟩
        | 32, ho, hi, hd =>
          simp only [List.getElem?_cons_succ, List.getElem?_cons_zero, Option.some.injEq] at ho
          subst ho
          have g125 : a1.tmps[125]? = some (.pointer (some ⟨B.A.b, 0, none⟩)) := hh.did 31 _ 125 rfl rfl (hd { on := 31, ground := .data } (by simp) rfl)
          have g121 : a1.tmps[121]? = some (.bool true) := hh.did 27 _ 121 rfl rfl (hd { on := 27, ground := .guard } (by simp) rfl)
          have n40 : d 40 = false := by
            cases q : d 40 with
            | false => rfl
            | true => exact absurd (hc 35 _ rfl (hc 40 _ rfl q { on := 35, ground := .chain } (by simp) rfl) { on := 32, ground := .chain } (by simp) rfl) (by simp [hi])
          have h0 := hj.now n40
          have C := wwaits_any u (H5.out.2.1.kept h0).sp
          rw [show (wts (Kv.new k (8 * n + 2 * s) n s g most th ch).S.E).length = 0 from rfl] at C
          have HJ : Hid (Kept w5 u) := h0
          have HN40 : Hid (d 40 = false) := n40
          have HJJ : Hid (JP 40 [] (fun u => Kept w5 u) (fun u => Kept w u) d u) := hj
          clear hh hd hc hj hi h0 n40
          refine wpOp_step rfl (fun K hK => ?_)
          go_simp
          refine C.mono ?_
          rintro e u2 ⟨rfl, k2⟩
          exact hK _ _ ⟨(), fun _ _ => rfl, by simp [Act.put], HJJ.out.stay HN40.out 32 (by decide) (HJ.out.trans k2)⟩
        | 33, ho, hi, hd =>
          simp only [List.getElem?_cons_succ, List.getElem?_cons_zero, Option.some.injEq] at ho
          subst ho
          have g126 : a1.tmps[126]? = some (.int .i64 0) := hh.did 32 _ 126 rfl rfl (hd { on := 32, ground := .data } (by simp) rfl)
          have g121 : a1.tmps[121]? = some (.bool true) := hh.did 27 _ 121 rfl rfl (hd { on := 27, ground := .guard } (by simp) rfl)
          have HN : Hid (JP 40 [] (fun u => Kept w5 u) (fun u => Kept w u) (done d 33) u) := hj.plain 33 (by decide)
          clear hh hd hc hj hi
          refine wpOp_step rfl (fun K hK => ?_)
          go_simp
          exact hK _ _ ⟨⟨⟩, fun _ _ => rfl, by simp [Act.put], HN.out⟩
        | 34, ho, hi, hd =>
          simp only [List.getElem?_cons_succ, List.getElem?_cons_zero, Option.some.injEq] at ho
          subst ho
          have g121 : a1.tmps[121]? = some (.bool true) := hh.did 27 _ 121 rfl rfl (hd { on := 27, ground := .data } (by simp) rfl)
          have g127 : a1.tmps[127]? = some (.bool true) := hh.did 33 _ 127 rfl rfl (hd { on := 33, ground := .data } (by simp) rfl)
          have HN : Hid (JP 40 [] (fun u => Kept w5 u) (fun u => Kept w u) (done d 34) u) := hj.plain 34 (by decide)
          clear hh hd hc hj hi
          refine wpOp_step rfl (fun K hK => ?_)
          go_simp
          exact hK _ _ ⟨⟨⟩, fun _ _ => rfl, by simp [Act.put], HN.out⟩
        | 35, ho, hi, hd =>
          simp only [List.getElem?_cons_succ, List.getElem?_cons_zero, Option.some.injEq] at ho
          subst ho
          have g128 : a1.tmps[128]? = some (.bool true) := hh.did 34 _ 128 rfl rfl (hd { on := 34, ground := .data } (by simp) rfl)
          have HN : Hid (JP 40 [] (fun u => Kept w5 u) (fun u => Kept w u) (done d 35) u) := hj.plain 35 (by decide)
          clear hh hd hc hj hi
          refine wpOp_step rfl (fun K hK => ?_)
          go_simp
          exact hK _ _ ⟨⟨⟩, fun _ _ => rfl, by simp [Act.put], HN.out⟩
        | 36, ho, hi, hd =>
          simp only [List.getElem?_cons_succ, List.getElem?_cons_zero, Option.some.injEq] at ho
          subst ho
          have g3 : a1.tmps[3]? = some (.pointer (some ⟨B.kb, 0, none⟩)) := hh.old 3 (by kernel_rfl) rfl
          have g129 : a1.tmps[129]? = some (.bool true) := hh.did 35 _ 129 rfl rfl (hd { on := 35, ground := .guard } (by simp) rfl)
          have HN : Hid (JP 40 [] (fun u => Kept w5 u) (fun u => Kept w u) (done d 36) u) := hj.plain 36 (by decide)
          clear hh hd hc hj hi
          refine wpOp_step rfl (fun K hK => ?_)
          go_simp
          exact hK _ _ ⟨⟨⟩, fun _ _ => rfl, by simp [Act.put], HN.out⟩
        | 37, ho, hi, hd =>
          simp only [List.getElem?_cons_succ, List.getElem?_cons_zero, Option.some.injEq] at ho
          subst ho
          have g130 : a1.tmps[130]? = some (.pointer (some ⟨B.kb, 0, none⟩)) := hh.did 36 _ 130 rfl rfl (hd { on := 36, ground := .data } (by simp) rfl)
          have g129 : a1.tmps[129]? = some (.bool true) := hh.did 35 _ 129 rfl rfl (hd { on := 35, ground := .guard } (by simp) rfl)
          have HN : Hid (JP 40 [] (fun u => Kept w5 u) (fun u => Kept w u) (done d 37) u) := hj.plain 37 (by decide)
          clear hh hd hc hj hi
          refine wpOp_step rfl (fun K hK => ?_)
          go_simp
          exact hK _ _ ⟨⟨⟩, fun _ _ => rfl, by simp [Act.put], HN.out⟩
        | 38, ho, hi, hd =>
          simp only [List.getElem?_cons_succ, List.getElem?_cons_zero, Option.some.injEq] at ho
          subst ho
          have g131 : a1.tmps[131]? = some (.pointer (some ⟨B.kb, 0, none⟩)) := hh.did 37 _ 131 rfl rfl (hd { on := 37, ground := .data } (by simp) rfl)
          have g129 : a1.tmps[129]? = some (.bool true) := hh.did 35 _ 129 rfl rfl (hd { on := 35, ground := .guard } (by simp) rfl)
          have HN : Hid (JP 40 [] (fun u => Kept w5 u) (fun u => Kept w u) (done d 38) u) := hj.plain 38 (by decide)
          clear hh hd hc hj hi
          refine wpOp_step rfl (fun K hK => ?_)
          go_simp
          exact hK _ _ ⟨⟨⟩, fun _ _ => rfl, by simp [Act.put], HN.out⟩
        | 39, ho, hi, hd =>
          simp only [List.getElem?_cons_succ, List.getElem?_cons_zero, Option.some.injEq] at ho
          subst ho
          have g132 : a1.tmps[132]? = some (.pointer (some ⟨B.kb, 11, none⟩)) := hh.did 38 _ 132 rfl rfl (hd { on := 38, ground := .data } (by simp) rfl)
          have g129 : a1.tmps[129]? = some (.bool true) := hh.did 35 _ 129 rfl rfl (hd { on := 35, ground := .guard } (by simp) rfl)
          have n40 : d 40 = false := by
            cases q : d 40 with
            | false => rfl
            | true => exact absurd (hc 40 _ rfl q { on := 39, ground := .data } (by simp) rfl) (by simp [hi])
          have h0 := hj.now n40
          have q11 := (H5.out.2.1.head.kept h0).at 11 rfl
          have HN : Hid (JP 40 [] (fun u => Kept w5 u) (fun u => Kept w u) (done d 39) u) := hj.plain 39 (by decide)
          clear hh hd hc hj hi h0 n40
          refine wpOp_step rfl (fun K hK => ?_)
          go_simp
          exact hK _ _ ⟨⟨⟩, fun _ _ => rfl, by simp [Act.put], HN.out⟩
        | 40, ho, hi, hd =>
          simp only [List.getElem?_cons_succ, List.getElem?_cons_zero, Option.some.injEq] at ho
          subst ho
          have g133 : a1.tmps[133]? = some (.pointer (some ⟨B.A.b, 0, none⟩)) := hh.did 39 _ 133 rfl rfl (hd { on := 39, ground := .data } (by simp) rfl)
          have g129 : a1.tmps[129]? = some (.bool true) := hh.did 35 _ 129 rfl rfl (hd { on := 35, ground := .guard } (by simp) rfl)
          have h0 := hj.now hi
          have C := wwants_any u (H5.out.2.1.kept h0).sp (kb := 0) HX2.out.1 (by omega)
          rw [HX2.out.2] at C
          have HJ : Hid (Kept w5 u) := h0
          clear hh hd hc hj hi h0
          refine wpOp_step rfl (fun K hK => ?_)
          go_simp
          refine C.mono ?_
          rintro e u2 ⟨rfl, _, p2⟩
          exact hK _ _ ⟨(), fun _ _ => rfl, by simp [Act.put], JP.turn (fun r hr => absurd hr (by simp)) ((H5.out.2.2.1.trans HJ.out).muts p2.mu fun j hj => H5.out.2.2.2.1 j (mem_cols.1 hj).2)⟩
        | 41, ho, hi, hd =>
          simp only [List.getElem?_cons_succ, List.getElem?_cons_zero, Option.some.injEq] at ho
          subst ho
          have g134 : a1.tmps[134]? = some (.bool false) := hh.did 40 _ 134 rfl rfl (hd { on := 40, ground := .data } (by simp) rfl)
          have g129 : a1.tmps[129]? = some (.bool true) := hh.did 35 _ 129 rfl rfl (hd { on := 35, ground := .guard } (by simp) rfl)
          have HN : Hid (JP 40 [] (fun u => Kept w5 u) (fun u => Kept w u) (done d 41) u) := hj.plain 41 (by decide)
          clear hh hd hc hj hi
          refine wpOp_step rfl (fun K hK => ?_)
          go_simp
          exact hK _ _ ⟨⟨⟩, fun _ _ => rfl, by simp [Act.put], HN.out⟩
        | 42, ho, hi, hd =>
          simp only [List.getElem?_cons_succ, List.getElem?_cons_zero, Option.some.injEq] at ho
          subst ho
          have g129 : a1.tmps[129]? = some (.bool true) := hh.did 35 _ 129 rfl rfl (hd { on := 35, ground := .data } (by simp) rfl)
          have g135 : a1.tmps[135]? = some (.bool true) := hh.did 41 _ 135 rfl rfl (hd { on := 41, ground := .data } (by simp) rfl)
          have HN : Hid (JP 40 [] (fun u => Kept w5 u) (fun u => Kept w u) (done d 42) u) := hj.plain 42 (by decide)
          clear hh hd hc hj hi
          refine wpOp_step rfl (fun K hK => ?_)
          go_simp
          exact hK _ _ ⟨⟨⟩, fun _ _ => rfl, by simp [Act.put], HN.out⟩
        | 43, ho, hi, hd =>
          simp only [List.getElem?_cons_succ, List.getElem?_cons_zero, Option.some.injEq] at ho
          subst ho
          have g136 : a1.tmps[136]? = some (.bool true) := hh.did 42 _ 136 rfl rfl (hd { on := 42, ground := .data } (by simp) rfl)
          have HN : Hid (JP 40 [] (fun u => Kept w5 u) (fun u => Kept w u) (done d 43) u) := hj.plain 43 (by decide)
          clear hh hd hc hj hi
          refine wpOp_step rfl (fun K hK => ?_)
          go_simp
          exact hK _ _ ⟨⟨⟩, fun _ _ => rfl, by simp [Act.put], HN.out⟩
        | 44, ho, hi, hd =>
          simp only [List.getElem?_cons_succ, List.getElem?_cons_zero, Option.some.injEq] at ho
          subst ho
          have g7 : a1.tmps[7]? = some (.int .i64 0) := hh.old 7 (by kernel_rfl) rfl
          have g137 : a1.tmps[137]? = some (.bool true) := hh.did 43 _ 137 rfl rfl (hd { on := 43, ground := .guard } (by simp) rfl)
          have HN : Hid (JP 40 [] (fun u => Kept w5 u) (fun u => Kept w u) (done d 44) u) := hj.plain 44 (by decide)
          clear hh hd hc hj hi
          refine wpOp_step rfl (fun K hK => ?_)
          go_simp
          exact hK _ _ ⟨⟨⟩, fun _ _ => rfl, by simp [Act.put], HN.out⟩
        | 45, ho, hi, hd =>
          simp only [List.getElem?_cons_succ, List.getElem?_cons_zero, Option.some.injEq] at ho
          subst ho
          have g138 : a1.tmps[138]? = some (.int .i64 0) := hh.did 44 _ 138 rfl rfl (hd { on := 44, ground := .data } (by simp) rfl)
          have g137 : a1.tmps[137]? = some (.bool true) := hh.did 43 _ 137 rfl rfl (hd { on := 43, ground := .guard } (by simp) rfl)
          have HN : Hid (JP 40 [] (fun u => Kept w5 u) (fun u => Kept w u) (done d 45) u) := hj.plain 45 (by decide)
          clear hh hd hc hj hi
          refine wpOp_step rfl (fun K hK => ?_)
          go_simp
          exact hK _ _ ⟨⟨⟩, fun _ _ => rfl, by simp [Act.put], HN.out⟩
        | 46, ho, hi, hd =>
          simp only [List.getElem?_cons_succ, List.getElem?_cons_zero, Option.some.injEq] at ho
          subst ho
          have g137 : a1.tmps[137]? = some (.bool true) := hh.did 43 _ 137 rfl rfl (hd { on := 43, ground := .data } (by simp) rfl)
          have g139 : a1.tmps[139]? = some (.bool true) := hh.did 45 _ 139 rfl rfl (hd { on := 45, ground := .data } (by simp) rfl)
          have HN : Hid (JP 40 [] (fun u => Kept w5 u) (fun u => Kept w u) (done d 46) u) := hj.plain 46 (by decide)
          clear hh hd hc hj hi
          refine wpOp_step rfl (fun K hK => ?_)
          go_simp
          exact hK _ _ ⟨⟨⟩, fun _ _ => rfl, by simp [Act.put], HN.out⟩
        | 47, ho, hi, hd =>
          simp only [List.getElem?_cons_succ, List.getElem?_cons_zero, Option.some.injEq] at ho
          subst ho
          have g140 : a1.tmps[140]? = some (.bool true) := hh.did 46 _ 140 rfl rfl (hd { on := 46, ground := .data } (by simp) rfl)
          have HN : Hid (JP 40 [] (fun u => Kept w5 u) (fun u => Kept w u) (done d 47) u) := hj.plain 47 (by decide)
          clear hh hd hc hj hi
          refine wpOp_step rfl (fun K hK => ?_)
          go_simp
          exact hK _ _ ⟨⟨⟩, fun _ _ => rfl, by simp [Act.put], HN.out⟩
        | 48, ho, hi, hd =>
          simp only [List.getElem?_cons_succ, List.getElem?_cons_zero, Option.some.injEq] at ho
          subst ho
          have g8 : a1.tmps[8]? = some (.bool false) := hh.old 8 (by kernel_rfl) rfl
          have g141 : a1.tmps[141]? = some (.bool true) := hh.did 47 _ 141 rfl rfl (hd { on := 47, ground := .guard } (by simp) rfl)
          have HN : Hid (JP 40 [] (fun u => Kept w5 u) (fun u => Kept w u) (done d 48) u) := hj.plain 48 (by decide)
          clear hh hd hc hj hi
          refine wpOp_step rfl (fun K hK => ?_)
          go_simp
          exact hK _ _ ⟨⟨⟩, fun _ _ => rfl, by simp [Act.put], HN.out⟩
        | 49, ho, hi, hd =>
          simp only [List.getElem?_cons_succ, List.getElem?_cons_zero, Option.some.injEq] at ho
          subst ho
          have g142 : a1.tmps[142]? = some (.bool false) := hh.did 48 _ 142 rfl rfl (hd { on := 48, ground := .data } (by simp) rfl)
          have g141 : a1.tmps[141]? = some (.bool true) := hh.did 47 _ 141 rfl rfl (hd { on := 47, ground := .guard } (by simp) rfl)
          have HN : Hid (JP 40 [] (fun u => Kept w5 u) (fun u => Kept w u) (done d 49) u) := hj.plain 49 (by decide)
          clear hh hd hc hj hi
          refine wpOp_step rfl (fun K hK => ?_)
          go_simp
          exact hK _ _ ⟨⟨⟩, fun _ _ => rfl, by simp [Act.put], HN.out⟩
        | 50, ho, hi, hd =>
          simp only [List.getElem?_cons_succ, List.getElem?_cons_zero, Option.some.injEq] at ho
          subst ho
          have g141 : a1.tmps[141]? = some (.bool true) := hh.did 47 _ 141 rfl rfl (hd { on := 47, ground := .data } (by simp) rfl)
          have g143 : a1.tmps[143]? = some (.bool true) := hh.did 49 _ 143 rfl rfl (hd { on := 49, ground := .data } (by simp) rfl)
          have HN : Hid (JP 40 [] (fun u => Kept w5 u) (fun u => Kept w u) (done d 50) u) := hj.plain 50 (by decide)
          clear hh hd hc hj hi
          refine wpOp_step rfl (fun K hK => ?_)
          go_simp
          exact hK _ _ ⟨⟨⟩, fun _ _ => rfl, by simp [Act.put], HN.out⟩
        | 51, ho, hi, hd =>
          simp only [List.getElem?_cons_succ, List.getElem?_cons_zero, Option.some.injEq] at ho
          subst ho
          have g144 : a1.tmps[144]? = some (.bool true) := hh.did 50 _ 144 rfl rfl (hd { on := 50, ground := .data } (by simp) rfl)
          have HN : Hid (JP 40 [] (fun u => Kept w5 u) (fun u => Kept w u) (done d 51) u) := hj.plain 51 (by decide)
          clear hh hd hc hj hi
          refine wpOp_step rfl (fun K hK => ?_)
          go_simp
          exact hK _ _ ⟨⟨⟩, fun _ _ => rfl, by simp [Act.put], HN.out⟩
        | n + 52, ho, hi, hd => simp at ho
      · intro ng u d hall hj0
        obtain ⟨⟩ := ng
        have hj : JP 40 [] (fun u => Kept w5 u) (fun u => Kept w u) d u := hj0
        clear hj0
        have h1 : Hid (Kept w u) := hj.fin (hall 40 (by decide))
        clear hall hj
        refine norm_list' (L' := [_, _, _, _, _, _, _, _, _, _, _, _, _, _, _, _, _, _, _, _, _, _, _, _, _, _, _, _, _, _, _, _, _, _, _, _, _, _, _, _, _, _, _, _, _, _, _, _, _, _, _, _, _, _, _, _, _, _, _, _, _, _, _, _, _, _, _, _, _, _, _, _, _, _, _, _, _, _, _, _, _, _, _, _, _, _, _, _, _, _, _, _, _, _, _, _, _, _, _, _, _, _, _, _, _, _, _, _, _, _, _, _, _, _, _, _, _, _, _, _, _, _, _, _, _, _, _, _, _, _, _, _, _, _, _, _, _, _, _, _, _, _, _, _, _]) rfl ?_
        go_wp2
        go_ret
        exact ⟨rfl, h1.out⟩
end Go.Proofs.Ytiigmmmhhpdmdaa
