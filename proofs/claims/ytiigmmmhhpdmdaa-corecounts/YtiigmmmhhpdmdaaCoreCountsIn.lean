/-
  The law CoreCounts, where the configuration may be and the calls are few.
-/
import Derived.Test.YtiigmmmhhpdmdaaCorD22
import Derived.Test.YtiigmmmhhpdmdaaB17
namespace Go.Proofs.Ytiigmmmhhpdmdaa
open Go.RowKit

set_option maxRecDepth 8000 in
set_option maxHeartbeats 8000000 in
theorem counts_in (n s g th ch most : Nat) (n4 n7 : Int) (x : Option Addr) (l c : Nat) (S : Nat → Sh) (R : Nat → Nat → Bool) (w : World) (hS : Shps w x l S) (hR : ∀ i, i < l → Refs w (S i).x (S i).l (R i)) (hg : Good n s g th n4 ch most n7 l S) (x9 : Option Addr) (l9 z9 : Nat) (L9 : Nat → Int) (hL9 : Ints w x9 l9 L9) (h9 : l9 ≤ 100) :
    Calls Try.prog 4 #[.agg #[.int .i64 (n : Int), .int .i64 (s : Int), .int .i64 (g : Int), .int .i64 (th : Int), .int .i64 n4, .int .i64 (ch : Int), .int .i64 (most : Int), .int .i64 n7, .slice x l c], .slice x9 l9 z9] w fun e w' => e = .returned (.bool true) ∧ Kept w w' := by
  obtain ⟨⟨g0, g1, g2, g6, g7, g3, g4, g5, g8⟩, ml, ml8, mi⟩ := id hg
  have HG : Hid (Good n s g th n4 ch most n7 l S) := hg
  have HS : Hid (Shps w x l S ∧ ∀ i, i < l → Refs w (S i).x (S i).l (R i)) := ⟨hS, hR⟩
  have HB : Hid (n ≤ 1024 ∧ s ≤ 2048 ∧ g ≤ 8 ∧ 4 ≤ n ∧ th ≤ 16 ∧ 1 ≤ th ∧ n7 ≤ n) := ⟨by omega, by omega, by omega, by omega, by omega, by omega, by omega⟩
  have HF : Hid (Small l S) := ⟨by omega, fun i hi => by
    have := mi i hi
    simp only [Sh.may] at this
    split at this
    · simp at this; omega
    · simp at this; omega⟩
  clear hS hR hg g0 g1 g2 g6 g7 g3 g4 g5 g8 ml ml8 mi
  have HL : Hid (Ints w x9 l9 L9 ∧ l9 ≤ 100) := ⟨hL9, h9⟩
  clear hL9
  go_enter Try.func4, Try.ntmps4
  go_wp2_with fail
  generalize hW : w.alloc _ = W0
  have H0 : Hid (Blk W0 w.heap.size [.int .i64 (n : Int), .int .i64 (s : Int), .int .i64 (g : Int), .int .i64 (th : Int), .int .i64 n4, .int .i64 (ch : Int), .int .i64 (most : Int), .int .i64 n7, .slice x l c] ∧ Kept w W0) := by
    rw [← hW]
    exact ⟨Blk.new w _ _, (Kept.refl w).alloc _ _⟩
  clear hW
  refine (first_any W0).mono ?_
  rintro e w1 ⟨rfl, k1⟩
  have H1 : Hid (Blk w1 w.heap.size [.int .i64 (n : Int), .int .i64 (s : Int), .int .i64 (g : Int), .int .i64 (th : Int), .int .i64 n4, .int .i64 (ch : Int), .int .i64 (most : Int), .int .i64 n7, .slice x l c] ∧ Kept w w1) := ⟨H0.out.1.kept k1, H0.out.2.trans k1⟩
  clear k1 H0
  have b0 := (H1.out.1).at 0 rfl
  have b1 := (H1.out.1).at 1 rfl
  have b2 := (H1.out.1).at 2 rfl
  have b3 := (H1.out.1).at 3 rfl
  have b4 := (H1.out.1).at 4 rfl
  have b5 := (H1.out.1).at 5 rfl
  have b6 := (H1.out.1).at 6 rfl
  have b7 := (H1.out.1).at 7 rfl
  have b8 := (H1.out.1).at 8 rfl
  have CW := few_any n s g th n4 ch most n7 x l c S true w1 (HS.out.1.kept H1.out.2) ⟨fun _ => HF.out, fun _ => rfl⟩
  go_wp2_with fail
  refine CW.mono ?_
  rintro e w2 ⟨rfl, k2⟩
  have H2 : Hid (Blk w2 w.heap.size [.int .i64 (n : Int), .int .i64 (s : Int), .int .i64 (g : Int), .int .i64 (th : Int), .int .i64 n4, .int .i64 (ch : Int), .int .i64 (most : Int), .int .i64 n7, .slice x l c] ∧ Kept w w2) := ⟨H1.out.1.kept k2, H1.out.2.trans k2⟩
  clear b0 b1 b2 b3 b4 b5 b6 b7 b8
  clear k2 CW H1
  have K2 : Hid (Kept w w2) := H2.out.2
  obtain ⟨N, hN⟩ : ∃ N : Nat, N = 8 * n + 2 * s + g := ⟨_, rfl⟩
  have hl100 : ¬ ((l9 : Int) > 100) := by omega
  have b0 := (H2.out.1).at 0 rfl
  have b1 := (H2.out.1).at 1 rfl
  have b2 := (H2.out.1).at 2 rfl
  have b3 := (H2.out.1).at 3 rfl
  have b4 := (H2.out.1).at 4 rfl
  have b5 := (H2.out.1).at 5 rfl
  have b6 := (H2.out.1).at 6 rfl
  have b7 := (H2.out.1).at 7 rfl
  have b8 := (H2.out.1).at 8 rfl
  have CM := onew_any n s g th ch most n4 n7 x l c S R w2 (HS.out.1.kept H2.out.2) (fun i hi => (HS.out.2 i hi).kept H2.out.2) HG.out N hN
  go_wp2_with fail
  refine CM.mono ?_
  rintro e w3 ⟨B, cc, dd, cg, T, rfl, km, q7, qC, qr, qa⟩
  have H3 : Hid (Blk w3 w.heap.size [.int .i64 (n : Int), .int .i64 (s : Int), .int .i64 (g : Int), .int .i64 (th : Int), .int .i64 n4, .int .i64 (ch : Int), .int .i64 (most : Int), .int .i64 n7, .slice x l c] ∧ KM w2 w3 cc dd B (Kv.new N (8 * n + 2 * s) n s g most th ch) ∧ Kept w w3) := ⟨H2.out.1.kept km.kept, km, H2.out.2.trans km.kept⟩
  have HC : Hid (B.A.C.n7 = n7 ∧ B.C = ⟨n, s, g, th, n4, ch, most, n7, some ⟨cg, 0, none⟩, l, l, T⟩ ∧ w3.rowIs cg 72 (l * 2) (cf T) ∧ ∀ i, i < l → Cop w3 cg (S i) (T i) (R i)) := ⟨q7, qC, qr, qa⟩
  clear b0 b1 b2 b3 b4 b5 b6 b7 b8
  clear CM km q7 qC qr qa
  clear H2 hN
  have HI : Hid (CI w2 w3 B th 0 ∧ Kept w w2) := ⟨CI.start H3.out.2.1, K2.out⟩
  have b9 := H3.out.2.1.kh.head.at 9 rfl
  have b10 := H3.out.2.1.kh.head.at 10 rfl
  have b11 := H3.out.2.1.kh.head.at 11 rfl
  have b12 := H3.out.2.1.kh.head.at 12 rfl
  have CT := dtable_any w3 H3.out.2.1.kh.sh
  clear H3 HC
  go_wp2_with fail
  refine CT.mono ?_
  rintro e w4 ⟨rfl, e4⟩
  rw [e4]
  clear e4 CT
  go_wp2
  clear b9 b10 b11 b12
  go_loopg [7] l9 (fun m i wr => ∃ k : Nat, i = .int .i64 k ∧ k ≤ l9 ∧ m = l9 - k ∧ Hid (CI w2 wr B th k))
  case atStart => exact ⟨0, rfl, by omega, by omega, HI.out.1⟩
  case round =>
    obtain ⟨k, rfl, hk, hm, hw⟩ := hrel
    have HM : Hid _ := hm
    clear hm
    have HW : Hid (CI w2 wr B th k) := hw.out
    clear hw
    by_cases hlt : k < l9
    · have hki : (k : Int) < (l9 : Int) := by omega
      have hk100 : k < 100 := by omega
      have hth : 1 ≤ th := HB.out.2.2.2.2.2.1
      obtain ⟨y, o, rfl, hy, hc⟩ := HL.out.1 (by omega)
      have HY : Hid (y < wr.heap.size) := Nat.lt_of_lt_of_le hy (HI.out.2.trans HW.out.kept).size
      have ca : wr.cell? ⟨y, o + k, none⟩ = some (.int .i64 (L9 k)) := ((HI.out.2.trans HW.out.kept).cell (a := ⟨y, o + k, none⟩) hy).trans (by have := hc k hlt 0 _ (by decide) rfl; simpa using this)
      clear hc hy
      have hv : L9 k % 4 = 0 ∨ L9 k % 4 = 1 ∨ L9 k % 4 = 2 ∨ L9 k % 4 = 3 := by omega
      rcases hv with hv | hv | hv | hv
      · have hb3 : bits .and .i64 (L9 k) 3 = 0 := by rw [i64_and3]; exact hv
        clear hv
        go_wp2
        refine wp_region_ghostC (G := Value) (fun r => [(.pointer (some ⟨B.kb, 0, none⟩)), (.pointer (some ⟨B.kb, 0, none⟩)), (.pointer (some ⟨B.kb, 9, none⟩)), (.pointer (some ⟨B.mh, 0, none⟩)), (.slice (some ⟨y, o, none⟩) l9 z9), (.int .i64 (k : Int)), (.pointer (some ⟨y, o + k, none⟩)), (.int .i64 (L9 k)), (r)]) [(83, 0), (84, 1), (85, 2), (86, 3), (87, 4), (88, 5), (89, 6), (90, 7), (91, 8)] (fun r d u => JP 8 [] (fun u => Kept wr u) (fun u => CI w2 u B th (k + 1)) d u) (by kernel_rfl) (by kernel_rfl) (by kernel_rfl) (by kernel_rfl) (fun _ => rfl) ?_ ?_ ?_
        · exact ⟨undef, JP.start (Kept.refl _).drew⟩
        · intro i1 o1 ho r a1 d u hh hj0 hi hd hc
          have hj : JP 8 [] (fun u => Kept wr u) (fun u => CI w2 u B th (k + 1)) d u := hj0
          clear hj0
          match i1, ho, hi, hd with
          | 0, ho, hi, hd =>
            simp only [List.getElem?_cons_zero, Option.some.injEq] at ho
            subst ho
            have g5 : a1.tmps[5]? = some (.pointer (some ⟨B.kb, 0, none⟩)) := hh.old 5 (by kernel_rfl) rfl
            have HN : Hid (JP 8 [] (fun u => Kept wr u) (fun u => CI w2 u B th (k + 1)) (done d 0) u) := hj.plain 0 (by decide)
            clear hh hd hc hj hi
            refine wpOp_step rfl (fun K hK => ?_)
            go_simp
            exact hK _ _ ⟨r, fun _ _ => rfl, by simp [Act.put], HN.out⟩
          | 1, ho, hi, hd =>
            simp only [List.getElem?_cons_succ, List.getElem?_cons_zero, Option.some.injEq] at ho
            subst ho
            have g83 : a1.tmps[83]? = some (.pointer (some ⟨B.kb, 0, none⟩)) := hh.did 0 _ 83 rfl rfl (hd { on := 0, ground := .data } (by simp) rfl)
            have HN : Hid (JP 8 [] (fun u => Kept wr u) (fun u => CI w2 u B th (k + 1)) (done d 1) u) := hj.plain 1 (by decide)
            clear hh hd hc hj hi
            refine wpOp_step rfl (fun K hK => ?_)
            go_simp
            exact hK _ _ ⟨r, fun _ _ => rfl, by simp [Act.put], HN.out⟩
          | 2, ho, hi, hd =>
            simp only [List.getElem?_cons_succ, List.getElem?_cons_zero, Option.some.injEq] at ho
            subst ho
            have g84 : a1.tmps[84]? = some (.pointer (some ⟨B.kb, 0, none⟩)) := hh.did 1 _ 84 rfl rfl (hd { on := 1, ground := .data } (by simp) rfl)
            have HN : Hid (JP 8 [] (fun u => Kept wr u) (fun u => CI w2 u B th (k + 1)) (done d 2) u) := hj.plain 2 (by decide)
            clear hh hd hc hj hi
            refine wpOp_step rfl (fun K hK => ?_)
            go_simp
            exact hK _ _ ⟨r, fun _ _ => rfl, by simp [Act.put], HN.out⟩
          | 3, ho, hi, hd =>
            simp only [List.getElem?_cons_succ, List.getElem?_cons_zero, Option.some.injEq] at ho
            subst ho
            have g85 : a1.tmps[85]? = some (.pointer (some ⟨B.kb, 9, none⟩)) := hh.did 2 _ 85 rfl rfl (hd { on := 2, ground := .data } (by simp) rfl)
            have n8 : d 8 = false := by
              cases q : d 8 with
              | false => rfl
              | true => exact absurd (hc 8 _ rfl q { on := 3, ground := .data } (by simp) rfl) (by simp [hi])
            have h0 := hj.now n8
            have q9 := (HW.out.head.kept h0).at 9 rfl
            have HN : Hid (JP 8 [] (fun u => Kept wr u) (fun u => CI w2 u B th (k + 1)) (done d 3) u) := hj.plain 3 (by decide)
            clear hh hd hc hj hi h0 n8
            refine wpOp_step rfl (fun K hK => ?_)
            go_simp
            exact hK _ _ ⟨r, fun _ _ => rfl, by simp [Act.put], HN.out⟩
          | 4, ho, hi, hd =>
            simp only [List.getElem?_cons_succ, List.getElem?_cons_zero, Option.some.injEq] at ho
            subst ho
            have g1 : a1.tmps[1]? = some (.slice (some ⟨y, o, none⟩) l9 z9) := hh.old 1 (by kernel_rfl) rfl
            have HN : Hid (JP 8 [] (fun u => Kept wr u) (fun u => CI w2 u B th (k + 1)) (done d 4) u) := hj.plain 4 (by decide)
            clear hh hd hc hj hi
            refine wpOp_step rfl (fun K hK => ?_)
            go_simp
            exact hK _ _ ⟨r, fun _ _ => rfl, by simp [Act.put], HN.out⟩
          | 5, ho, hi, hd =>
            simp only [List.getElem?_cons_succ, List.getElem?_cons_zero, Option.some.injEq] at ho
            subst ho
            have g7 : a1.tmps[7]? = some (.int .i64 (k : Int)) := hh.old 7 (by kernel_rfl) rfl
            have HN : Hid (JP 8 [] (fun u => Kept wr u) (fun u => CI w2 u B th (k + 1)) (done d 5) u) := hj.plain 5 (by decide)
            clear hh hd hc hj hi
            refine wpOp_step rfl (fun K hK => ?_)
            go_simp
            exact hK _ _ ⟨r, fun _ _ => rfl, by simp [Act.put], HN.out⟩
          | 6, ho, hi, hd =>
            simp only [List.getElem?_cons_succ, List.getElem?_cons_zero, Option.some.injEq] at ho
            subst ho
            have g87 : a1.tmps[87]? = some (.slice (some ⟨y, o, none⟩) l9 z9) := hh.did 4 _ 87 rfl rfl (hd { on := 4, ground := .data } (by simp) rfl)
            have g88 : a1.tmps[88]? = some (.int .i64 (k : Int)) := hh.did 5 _ 88 rfl rfl (hd { on := 5, ground := .data } (by simp) rfl)
            have HN : Hid (JP 8 [] (fun u => Kept wr u) (fun u => CI w2 u B th (k + 1)) (done d 6) u) := hj.plain 6 (by decide)
            clear hh hd hc hj hi
            refine wpOp_step rfl (fun K hK => ?_)
            go_simp
            exact hK _ _ ⟨r, fun _ _ => rfl, by simp [Act.put], HN.out⟩
          | 7, ho, hi, hd =>
            simp only [List.getElem?_cons_succ, List.getElem?_cons_zero, Option.some.injEq] at ho
            subst ho
            have g89 : a1.tmps[89]? = some (.pointer (some ⟨y, o + k, none⟩)) := hh.did 6 _ 89 rfl rfl (hd { on := 6, ground := .data } (by simp) rfl)
            have n8 : d 8 = false := by
              cases q : d 8 with
              | false => rfl
              | true => exact absurd (hc 8 _ rfl q { on := 7, ground := .data } (by simp) rfl) (by simp [hi])
            have h0 := hj.now n8
            have qa := (h0.cell (a := ⟨y, o + k, none⟩) HY.out).trans ca
            have HN : Hid (JP 8 [] (fun u => Kept wr u) (fun u => CI w2 u B th (k + 1)) (done d 7) u) := hj.plain 7 (by decide)
            clear hh hd hc hj hi h0 n8
            refine wpOp_step rfl (fun K hK => ?_)
            go_simp
            exact hK _ _ ⟨r, fun _ _ => rfl, by simp [Act.put], HN.out⟩
          | 8, ho, hi, hd =>
            simp only [List.getElem?_cons_succ, List.getElem?_cons_zero, Option.some.injEq] at ho
            subst ho
            have g86 : a1.tmps[86]? = some (.pointer (some ⟨B.mh, 0, none⟩)) := hh.did 3 _ 86 rfl rfl (hd { on := 3, ground := .data } (by simp) rfl)
            have g90 : a1.tmps[90]? = some (.int .i64 (L9 k)) := hh.did 7 _ 90 rfl rfl (hd { on := 7, ground := .data } (by simp) rfl)
            have h0 := hj.now hi
            have C := (HW.out.keep h0).read (by omega) (L9 k)
            have HI : Hid (d 8 = false) := hi
            clear hh hd hc hj hi h0
            refine wpOp_step rfl (fun K hK => ?_)
            go_simp
            refine C.mono ?_
            rintro e u2 ⟨r2, rfl, q2⟩
            refine hK _ _ ⟨r2, fun j hj => ?_, by simp [Act.put], JP.turn (fun r hr => absurd hr (by simp)) q2⟩
            have j8 : j ≠ 8 := fun q => by rw [q, HI.out] at hj; cases hj
            match j, j8 with
            | 0, _ => rfl
            | 1, _ => rfl
            | 2, _ => rfl
            | 3, _ => rfl
            | 4, _ => rfl
            | 5, _ => rfl
            | 6, _ => rfl
            | 7, _ => rfl
            | j + 9, _ => rfl
          | n + 9, ho, hi, hd => simp at ho
        · intro r u d hall hj0
          have hj : JP 8 [] (fun u => Kept wr u) (fun u => CI w2 u B th (k + 1)) d u := hj0
          clear hj0
          have h1 : Hid (CI w2 u B th (k + 1)) := hj.fin (hall 8 (by decide))
          clear hall hj
          refine norm_list' (L' := [_, _, _, _, _, _, _, _, _, _, _, _, _, _, _, _, _, _, _, _, _, _, _, _, _, _, _, _, _, _, _, _, _, _, _, _, _, _, _, _, _, _, _, _, _, _, _, _, _, _, _, _, _, _, _, _, _, _, _, _, _, _, _, _, _, _, _, _, _, _, _, _, _, _, _, _, _, _, _, _, _, _, _, _, _, _, _, _, _, _, _, _, _, _, _, _, _, _, _, _, _, _, _, _, _, _, _, _, _, _, _, _, _, _, _, _, _, _, _, _, _, _, _, _, _, _, _, _, _, _, _, _, _, _, _, _, _, _, _, _, _, _, _, _, _]) rfl ?_
          have CT := h1.out.count (by omega)
          rw [show ((k + 1 : Nat) : Int) = (k : Int) + 1 from by omega] at CT
          go_wp2_with fail
          refine CT.mono ?_
          rintro e wt ⟨rfl, kt⟩
          have HT : Hid (CI w2 wt B th (k + 1)) := h1.out.keep kt
          clear kt CT
          go_wp2
          go_roundg (gk - 1)
          all_goals (have := HM.out; try omega)
          exact ⟨k + 1, by go_num, by omega, by omega, HT⟩
      · have hb3 : bits .and .i64 (L9 k) 3 = 1 := by rw [i64_and3]; exact hv
        clear hv
        go_wp2
        refine wp_region_ghostC (G := Value) (fun r => [(.pointer (some ⟨B.kb, 0, none⟩)), (.pointer (some ⟨B.kb, 0, none⟩)), (.pointer (some ⟨B.kb, 10, none⟩)), (.pointer (some ⟨B.sb, 0, none⟩)), (.slice (some ⟨y, o, none⟩) l9 z9), (.int .i64 (k : Int)), (.pointer (some ⟨y, o + k, none⟩)), (.int .i64 (L9 k)), (r)]) [(94, 0), (95, 1), (96, 2), (97, 3), (98, 4), (99, 5), (100, 6), (101, 7), (102, 8)] (fun r d u => JP 8 [] (fun u => Kept wr u) (fun u => CI w2 u B th (k + 1)) d u) (by kernel_rfl) (by kernel_rfl) (by kernel_rfl) (by kernel_rfl) (fun _ => rfl) ?_ ?_ ?_
        · exact ⟨undef, JP.start (Kept.refl _).drew⟩
        · intro i1 o1 ho r a1 d u hh hj0 hi hd hc
          have hj : JP 8 [] (fun u => Kept wr u) (fun u => CI w2 u B th (k + 1)) d u := hj0
          clear hj0
          match i1, ho, hi, hd with
          | 0, ho, hi, hd =>
            simp only [List.getElem?_cons_zero, Option.some.injEq] at ho
            subst ho
            have g5 : a1.tmps[5]? = some (.pointer (some ⟨B.kb, 0, none⟩)) := hh.old 5 (by kernel_rfl) rfl
            have HN : Hid (JP 8 [] (fun u => Kept wr u) (fun u => CI w2 u B th (k + 1)) (done d 0) u) := hj.plain 0 (by decide)
            clear hh hd hc hj hi
            refine wpOp_step rfl (fun K hK => ?_)
            go_simp
            exact hK _ _ ⟨r, fun _ _ => rfl, by simp [Act.put], HN.out⟩
          | 1, ho, hi, hd =>
            simp only [List.getElem?_cons_succ, List.getElem?_cons_zero, Option.some.injEq] at ho
            subst ho
            have g94 : a1.tmps[94]? = some (.pointer (some ⟨B.kb, 0, none⟩)) := hh.did 0 _ 94 rfl rfl (hd { on := 0, ground := .data } (by simp) rfl)
            have HN : Hid (JP 8 [] (fun u => Kept wr u) (fun u => CI w2 u B th (k + 1)) (done d 1) u) := hj.plain 1 (by decide)
            clear hh hd hc hj hi
            refine wpOp_step rfl (fun K hK => ?_)
            go_simp
            exact hK _ _ ⟨r, fun _ _ => rfl, by simp [Act.put], HN.out⟩
          | 2, ho, hi, hd =>
            simp only [List.getElem?_cons_succ, List.getElem?_cons_zero, Option.some.injEq] at ho
            subst ho
            have g95 : a1.tmps[95]? = some (.pointer (some ⟨B.kb, 0, none⟩)) := hh.did 1 _ 95 rfl rfl (hd { on := 1, ground := .data } (by simp) rfl)
            have HN : Hid (JP 8 [] (fun u => Kept wr u) (fun u => CI w2 u B th (k + 1)) (done d 2) u) := hj.plain 2 (by decide)
            clear hh hd hc hj hi
            refine wpOp_step rfl (fun K hK => ?_)
            go_simp
            exact hK _ _ ⟨r, fun _ _ => rfl, by simp [Act.put], HN.out⟩
          | 3, ho, hi, hd =>
            simp only [List.getElem?_cons_succ, List.getElem?_cons_zero, Option.some.injEq] at ho
            subst ho
            have g96 : a1.tmps[96]? = some (.pointer (some ⟨B.kb, 10, none⟩)) := hh.did 2 _ 96 rfl rfl (hd { on := 2, ground := .data } (by simp) rfl)
            have n8 : d 8 = false := by
              cases q : d 8 with
              | false => rfl
              | true => exact absurd (hc 8 _ rfl q { on := 3, ground := .data } (by simp) rfl) (by simp [hi])
            have h0 := hj.now n8
            have q10 := (HW.out.head.kept h0).at 10 rfl
            have HN : Hid (JP 8 [] (fun u => Kept wr u) (fun u => CI w2 u B th (k + 1)) (done d 3) u) := hj.plain 3 (by decide)
            clear hh hd hc hj hi h0 n8
            refine wpOp_step rfl (fun K hK => ?_)
            go_simp
            exact hK _ _ ⟨r, fun _ _ => rfl, by simp [Act.put], HN.out⟩
          | 4, ho, hi, hd =>
            simp only [List.getElem?_cons_succ, List.getElem?_cons_zero, Option.some.injEq] at ho
            subst ho
            have g1 : a1.tmps[1]? = some (.slice (some ⟨y, o, none⟩) l9 z9) := hh.old 1 (by kernel_rfl) rfl
            have HN : Hid (JP 8 [] (fun u => Kept wr u) (fun u => CI w2 u B th (k + 1)) (done d 4) u) := hj.plain 4 (by decide)
            clear hh hd hc hj hi
            refine wpOp_step rfl (fun K hK => ?_)
            go_simp
            exact hK _ _ ⟨r, fun _ _ => rfl, by simp [Act.put], HN.out⟩
          | 5, ho, hi, hd =>
            simp only [List.getElem?_cons_succ, List.getElem?_cons_zero, Option.some.injEq] at ho
            subst ho
            have g7 : a1.tmps[7]? = some (.int .i64 (k : Int)) := hh.old 7 (by kernel_rfl) rfl
            have HN : Hid (JP 8 [] (fun u => Kept wr u) (fun u => CI w2 u B th (k + 1)) (done d 5) u) := hj.plain 5 (by decide)
            clear hh hd hc hj hi
            refine wpOp_step rfl (fun K hK => ?_)
            go_simp
            exact hK _ _ ⟨r, fun _ _ => rfl, by simp [Act.put], HN.out⟩
          | 6, ho, hi, hd =>
            simp only [List.getElem?_cons_succ, List.getElem?_cons_zero, Option.some.injEq] at ho
            subst ho
            have g98 : a1.tmps[98]? = some (.slice (some ⟨y, o, none⟩) l9 z9) := hh.did 4 _ 98 rfl rfl (hd { on := 4, ground := .data } (by simp) rfl)
            have g99 : a1.tmps[99]? = some (.int .i64 (k : Int)) := hh.did 5 _ 99 rfl rfl (hd { on := 5, ground := .data } (by simp) rfl)
            have HN : Hid (JP 8 [] (fun u => Kept wr u) (fun u => CI w2 u B th (k + 1)) (done d 6) u) := hj.plain 6 (by decide)
            clear hh hd hc hj hi
            refine wpOp_step rfl (fun K hK => ?_)
            go_simp
            exact hK _ _ ⟨r, fun _ _ => rfl, by simp [Act.put], HN.out⟩
          | 7, ho, hi, hd =>
            simp only [List.getElem?_cons_succ, List.getElem?_cons_zero, Option.some.injEq] at ho
            subst ho
            have g100 : a1.tmps[100]? = some (.pointer (some ⟨y, o + k, none⟩)) := hh.did 6 _ 100 rfl rfl (hd { on := 6, ground := .data } (by simp) rfl)
            have n8 : d 8 = false := by
              cases q : d 8 with
              | false => rfl
              | true => exact absurd (hc 8 _ rfl q { on := 7, ground := .data } (by simp) rfl) (by simp [hi])
            have h0 := hj.now n8
            have qa := (h0.cell (a := ⟨y, o + k, none⟩) HY.out).trans ca
            have HN : Hid (JP 8 [] (fun u => Kept wr u) (fun u => CI w2 u B th (k + 1)) (done d 7) u) := hj.plain 7 (by decide)
            clear hh hd hc hj hi h0 n8
            refine wpOp_step rfl (fun K hK => ?_)
            go_simp
            exact hK _ _ ⟨r, fun _ _ => rfl, by simp [Act.put], HN.out⟩
          | 8, ho, hi, hd =>
            simp only [List.getElem?_cons_succ, List.getElem?_cons_zero, Option.some.injEq] at ho
            subst ho
            have g97 : a1.tmps[97]? = some (.pointer (some ⟨B.sb, 0, none⟩)) := hh.did 3 _ 97 rfl rfl (hd { on := 3, ground := .data } (by simp) rfl)
            have g101 : a1.tmps[101]? = some (.int .i64 (L9 k)) := hh.did 7 _ 101 rfl rfl (hd { on := 7, ground := .data } (by simp) rfl)
            have h0 := hj.now hi
            have C := (HW.out.keep h0).grey (by omega) (L9 k) true
            have HI : Hid (d 8 = false) := hi
            clear hh hd hc hj hi h0
            refine wpOp_step rfl (fun K hK => ?_)
            go_simp
            refine C.mono ?_
            rintro e u2 ⟨r2, rfl, q2⟩
            refine hK _ _ ⟨r2, fun j hj => ?_, by simp [Act.put], JP.turn (fun r hr => absurd hr (by simp)) q2⟩
            have j8 : j ≠ 8 := fun q => by rw [q, HI.out] at hj; cases hj
            match j, j8 with
            | 0, _ => rfl
            | 1, _ => rfl
            | 2, _ => rfl
            | 3, _ => rfl
            | 4, _ => rfl
            | 5, _ => rfl
            | 6, _ => rfl
            | 7, _ => rfl
            | j + 9, _ => rfl
          | n + 9, ho, hi, hd => simp at ho
        · intro r u d hall hj0
          have hj : JP 8 [] (fun u => Kept wr u) (fun u => CI w2 u B th (k + 1)) d u := hj0
          clear hj0
          have h1 : Hid (CI w2 u B th (k + 1)) := hj.fin (hall 8 (by decide))
          clear hall hj
          refine norm_list' (L' := [_, _, _, _, _, _, _, _, _, _, _, _, _, _, _, _, _, _, _, _, _, _, _, _, _, _, _, _, _, _, _, _, _, _, _, _, _, _, _, _, _, _, _, _, _, _, _, _, _, _, _, _, _, _, _, _, _, _, _, _, _, _, _, _, _, _, _, _, _, _, _, _, _, _, _, _, _, _, _, _, _, _, _, _, _, _, _, _, _, _, _, _, _, _, _, _, _, _, _, _, _, _, _, _, _, _, _, _, _, _, _, _, _, _, _, _, _, _, _, _, _, _, _, _, _, _, _, _, _, _, _, _, _, _, _, _, _, _, _, _, _, _, _, _, _]) rfl ?_
          have CT := h1.out.count (by omega)
          rw [show ((k + 1 : Nat) : Int) = (k : Int) + 1 from by omega] at CT
          go_wp2_with fail
          refine CT.mono ?_
          rintro e wt ⟨rfl, kt⟩
          have HT : Hid (CI w2 wt B th (k + 1)) := h1.out.keep kt
          clear kt CT
          go_wp2
          go_roundg (gk - 1)
          all_goals (have := HM.out; try omega)
          exact ⟨k + 1, by go_num, by omega, by omega, HT⟩
      · have hb3 : bits .and .i64 (L9 k) 3 = 2 := by rw [i64_and3]; exact hv
        clear hv
        have b11 := HW.out.head.at 11 rfl
        have CA := HW.out.ask hk100 hth
        go_wp2_with fail
        refine CA.mono ?_
        rintro e w4 ⟨x9', d, st, len, at_, rfl, c4, cs⟩
        clear b11 CA ca
        rcases cs with ⟨rfl, rfl, kk, r4, CU⟩ | ⟨rfl, rfl⟩ | ⟨rfl, rfl⟩
        · obtain ⟨gx, ox, rfl, hgx, hcx⟩ := r4 (by simp)
          go_wp2_with fail
          generalize hW5 : World.alloc _ _ = w5
          have H5 : Hid (CI w2 w5 B th (k + 1)) := by
            rw [← hW5]
            exact c4.keep ((Kept.refl _).alloc _ _)
          have G5 : Blk w5 w4.heap.size [.int .i64 1, .slice (some ⟨gx, ox, none⟩) 1 d, .int .i64 at_] := by
            rw [← hW5]
            exact Blk.new w4 _ _
          have K5 : Hid (Kept w4 w5) := by
            rw [← hW5]
            exact (Kept.refl _).alloc _ _
          have CU1 : Hid (∀ z : KW w5, _) := fun z => (CU z.it (K5.out.trans z.ok)).1
          have CU2 : Hid (∀ z : KW w5, _) := fun z => (CU z.it (K5.out.trans z.ok)).2
          have b10 := fun z : KW w5 => z.cell (a := ⟨B.kb, 10, none⟩) H5.out.head.lt (H5.out.head.at 10 rfl)
          have g0 := fun z : KW w5 => z.cell (a := ⟨w4.heap.size, 0, none⟩) G5.lt (G5.at 0 rfl)
          have g1 := fun z : KW w5 => z.cell (a := ⟨w4.heap.size, 1, none⟩) G5.lt (G5.at 1 rfl)
          have x0 : w5.cell? ⟨gx, ox, none⟩ = some (.int .i64 (kk : Int)) := (K5.out.cell hgx).trans (by have := hcx 0 (by simp); simpa using this)
          have x1 := fun z : KW w5 => z.cell (a := ⟨gx, ox, none⟩) (Nat.lt_of_lt_of_le hgx K5.out.size) x0
          clear hW5 CU hcx x0 c4 G5
          refine wp_region_kept (by kernel_rfl) (by kernel_rfl) fun _ => ?_
          repeat (go_big_quiet_step (first | (go_at_call 10; exact kept_of_same (CU1.out _)) | (go_at_call 22; exact kept_of_same (CU2.out _))))
          refine wpQuiet_nil ?_
          rintro _ ⟨z, rfl⟩
          have H6 : Hid (CI w2 z.it B th (k + 1)) := H5.out.keep z.ok
          clear b10 g0 g1 x1
          have CT := H6.out.count (by omega)
          rw [show ((k + 1 : Nat) : Int) = (k : Int) + 1 from by omega] at CT
          go_wp2_with fail
          refine CT.mono ?_
          rintro e wt ⟨rfl, kt⟩
          have HT : Hid (CI w2 wt B th (k + 1)) := H6.out.keep kt
          clear kt CT
          go_wp2
          go_roundg (gk - 1)
          all_goals (have := HM.out; try omega)
          exact ⟨k + 1, by go_num, by omega, by omega, HT⟩
        · go_wp2_with fail
          generalize hW5 : World.alloc _ _ = w5
          have H5 : Hid (CI w2 w5 B th (k + 1)) := by
            rw [← hW5]
            exact c4.keep ((Kept.refl _).alloc _ _)
          have G5 : Blk w5 w4.heap.size [.int .i64 0, .slice x9' 0 d, .int .i64 at_] := by
            rw [← hW5]
            exact Blk.new w4 _ _
          have g0 := fun z : KW w5 => z.cell (a := ⟨w4.heap.size, 0, none⟩) G5.lt (G5.at 0 rfl)
          clear hW5 c4 G5
          refine wp_region_kept (by kernel_rfl) (by kernel_rfl) fun _ => ?_
          repeat (go_big_quiet_step (fail))
          refine wpQuiet_nil ?_
          rintro _ ⟨z, rfl⟩
          have H6 : Hid (CI w2 z.it B th (k + 1)) := H5.out.keep z.ok
          clear g0
          have CT := H6.out.count (by omega)
          rw [show ((k + 1 : Nat) : Int) = (k : Int) + 1 from by omega] at CT
          go_wp2_with fail
          refine CT.mono ?_
          rintro e wt ⟨rfl, kt⟩
          have HT : Hid (CI w2 wt B th (k + 1)) := H6.out.keep kt
          clear kt CT
          go_wp2
          go_roundg (gk - 1)
          all_goals (have := HM.out; try omega)
          exact ⟨k + 1, by go_num, by omega, by omega, HT⟩
        · go_wp2_with fail
          generalize hW5 : World.alloc _ _ = w5
          have H5 : Hid (CI w2 w5 B th (k + 1)) := by
            rw [← hW5]
            exact c4.keep ((Kept.refl _).alloc _ _)
          have G5 : Blk w5 w4.heap.size [.int .i64 3, .slice x9' 0 d, .int .i64 at_] := by
            rw [← hW5]
            exact Blk.new w4 _ _
          have g0 := fun z : KW w5 => z.cell (a := ⟨w4.heap.size, 0, none⟩) G5.lt (G5.at 0 rfl)
          clear hW5 c4 G5
          refine wp_region_kept (by kernel_rfl) (by kernel_rfl) fun _ => ?_
          repeat (go_big_quiet_step (fail))
          refine wpQuiet_nil ?_
          rintro _ ⟨z, rfl⟩
          have H6 : Hid (CI w2 z.it B th (k + 1)) := H5.out.keep z.ok
          clear g0
          have CT := H6.out.count (by omega)
          rw [show ((k + 1 : Nat) : Int) = (k : Int) + 1 from by omega] at CT
          go_wp2_with fail
          refine CT.mono ?_
          rintro e wt ⟨rfl, kt⟩
          have HT : Hid (CI w2 wt B th (k + 1)) := H6.out.keep kt
          clear kt CT
          go_wp2
          go_roundg (gk - 1)
          all_goals (have := HM.out; try omega)
          exact ⟨k + 1, by go_num, by omega, by omega, HT⟩
      · have hb3 : bits .and .i64 (L9 k) 3 = 3 := by rw [i64_and3]; exact hv
        clear hv
        have b12 := HW.out.head.at 12 rfl
        have CA := HW.out.look hk100
        go_wp2_with fail
        refine CA.mono ?_
        rintro e w4 ⟨st, se, rfl, c4⟩
        have H4 : Hid (CI w2 w4 B th (k + 1)) := c4
        clear b12 CA c4 ca
        have CT := H4.out.count (by omega)
        rw [show ((k + 1 : Nat) : Int) = (k : Int) + 1 from by omega] at CT
        go_wp2_with fail
        refine CT.mono ?_
        rintro e wt ⟨rfl, kt⟩
        have HT : Hid (CI w2 wt B th (k + 1)) := H4.out.keep kt
        clear kt CT
        go_wp2
        go_roundg (gk - 1)
        all_goals (have := HM.out; try omega)
        exact ⟨k + 1, by go_num, by omega, by omega, HT⟩
    · obtain rfl : k = l9 := by omega
      have K9 : Hid (Kept w wr) := HI.out.2.trans HW.out.kept
      have CE := first_any wr
      go_wp2_with fail
      refine CE.mono ?_
      rintro e we ⟨rfl, ke⟩
      have KE : Hid (Kept w we) := K9.out.trans ke
      clear ke CE
      go_wp2
      go_ret
      exact ⟨rfl, KE.out⟩
end Go.Proofs.Ytiigmmmhhpdmdaa
