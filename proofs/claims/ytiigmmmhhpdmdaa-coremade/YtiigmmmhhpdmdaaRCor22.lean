/-
  The document's core: NewCore answers one whose memory holds the first words, and all below is as it was.
-/
import Derived.Test.YtiigmmmhhpdmdaaRspN22
import Derived.Test.YtiigmmmhhpdmdaaRHandNew
import Derived.Test.YtiigmmmhhpdmdaaB17
import Derived.Test.YtiigmmmhhpdmdaaB16
namespace Go.Proofs.Ytiigmmmhhpdmdaa
open Go.RowKit
attribute [local go_sem] run_store_complex

theorem rn_any (w : World) : Calls Try.prog 41 #[] w fun e w' => e = .returned (.complex .f64 0 4607182418800017408) ∧ w' = w := by
  go_enter Try.func41, Try.ntmps41
  go_wp2
  go_ret
  exact ⟨rfl, rfl⟩

theorem own_nx {w : World} {a b : Nat} {t t' : TypeId} {L L' : List Value} (h : Own w a t L) (k : Own w b t' L') (ht : t ≠ t') : a ≠ b := fun e => by
  subst e
  unfold Own at h k
  rw [h] at k
  simp only [Option.some.injEq, Obj.cells.injEq] at k
  exact ht k.2.1

theorem own_at {W : World} {b : Nat} (hb : W.heap.size = b) (L : List Value) (t : TypeId) : Own (W.alloc (.cells L.toArray t)) b t L := by
  subst hb
  exact Own.new W L t

set_option maxHeartbeats 1000000 in
theorem rmem_new (n : Nat) (w : World) (hn : n ≤ 1000000) :
    Calls Try.prog 35 #[.int .i64 n] w fun e w' => ∃ M b, e = .returned (.tuple #[.pointer (some ⟨M, 0, none⟩), .int .i64 0]) ∧ Own w' M 46 [.slice (some ⟨b, 0, none⟩) n n, .int .i64 0] ∧ w'.rowIs b 54 n (rv (fun _ => cz)) ∧ w.heap.size ≤ M ∧ w.heap.size ≤ b ∧ Kept w w' := by
  have hmk := run_make_cx n hn
  go_enter Try.func35, Try.ntmps35
  go_wp2
  go_ret2
  exact ⟨_, _, rfl, own_at (by simp) [_, _] _, (row_made_cx w n).alloc _, by simp, by omega, ((Kept.refl w).alloc _ _).alloc _ _⟩

set_option maxHeartbeats 1000000 in
theorem rshade_new (n most : Nat) (w : World) (hn : n ≤ 1024) (h1 : 1 ≤ (most : Int)) (hm : (most : Int) ≤ 256) :
    Calls Try.prog 37 #[.int .i64 n, .int .i64 most] w fun e w' => ∃ b tb gs gh gc L, e = .returned (.tuple #[.pointer (some ⟨b, 0, none⟩), .int .i64 0]) ∧ RtT w' tb gs gh gc n T0 ∧ Blk w' b (.pointer (some ⟨tb, 0, none⟩) :: L) ∧ w.heap.size ≤ b ∧ Kept w w' := by
  have HT : Hid (∀ w, _) := fun w => trnew_any n w hn
  clear hn
  go_enter Try.func37, Try.ntmps37
  go_wp2_with fail
  refine (HT.out _).mono ?_
  rintro e w1 ⟨tb, gs, gh, gc, rfl, t1, _, _, _, _, k1⟩
  have H1 : Hid (RtT w1 tb gs gh gc n T0 ∧ Kept w w1) := ⟨t1, k1⟩
  clear t1 k1
  have HF : Hid (∀ C, Blk (w1.alloc (.cells (C : List Value).toArray 92)) w1.heap.size C) := fun C => Blk.new _ _ _
  go_wp2
  go_ret2
  have ka : Kept w1 (w1.alloc (.cells #[.pointer (some ⟨tb, 0, none⟩), .int .i64 (most : Int), .slice none 0 0, .bool false, .int .i64 0] 92)) := (Kept.refl _).alloc _ _
  exact ⟨_, tb, gs, gh, gc, _, rfl, H1.out.1.kept ka, HF.out [_, _, _, _, _], H1.out.2.size, H1.out.2.trans ka⟩

/-- The cells of the document's core. -/
def xcl (n s g th ch most : Nat) (n4 n7 : Int) (x : Option Addr) (l c : Nat) (p q r t : Value) : List Value := [.int .i64 (n : Int), .int .i64 (s : Int), .int .i64 (g : Int), .int .i64 (th : Int), .int .i64 n4, .int .i64 (ch : Int), .int .i64 (most : Int), .int .i64 n7, .slice x l c, p, q, r, t]

set_option maxHeartbeats 1000000 in
theorem rcore_bad (n0 n1 n2 n3 n4 n5 n6 n7 r : Int) (x8 : Option Addr) (l8 z8 : Nat) (S : Nat → Sh) (w : World) (hS : Shps w x8 l8 S) (hr : Checks n0 n1 n2 n3 n4 n5 n6 n7 l8 S r) (h0 : r ≠ 0) :
    Calls Try.prog 9 #[.agg #[.int .i64 n0, .int .i64 n1, .int .i64 n2, .int .i64 n3, .int .i64 n4, .int .i64 n5, .int .i64 n6, .int .i64 n7, .slice x8 l8 z8]] w fun e w' => e = .returned (.tuple #[.pointer none, .int .i64 r]) ∧ Kept w w' := by
  have HS : Hid (Shps w x8 l8 S) := hS
  have C0 : Hid (∀ w, Shps w x8 l8 S → _) := fun w h => ref_check n0 n1 n2 n3 n4 n5 n6 n7 x8 l8 z8 S r w h hr
  have hb : (r != 0) = true := by simpa using h0
  clear hS hr h0
  go_enter Try.func9, Try.ntmps9
  go_wp2_with fail
  generalize hW0 : w.alloc _ = W0
  have K0 : Hid (Kept w W0) := by
    rw [← hW0]
    exact (Kept.refl w).alloc _ _
  clear hW0
  refine (C0.out _ (HS.out.kept K0.out)).mono ?_
  rintro e w1 ⟨rfl, k1⟩
  have K1 : Hid (Kept w w1) := K0.out.trans k1
  clear k1 K0 C0
  go_wp2
  go_ret2
  exact ⟨rfl, K1.out⟩

set_option maxRecDepth 8000 in
set_option maxHeartbeats 8000000 in
theorem rcore_new (n s g th ch most : Nat) (n4 n7 : Int) (x : Option Addr) (l c : Nat) (S : Nat → Sh) (w : World) (hS : Shps w x l S) (hg : Good n s g th n4 ch most n7 l S) (N : Nat) (hN : N = 8 * n + 2 * s + g) :
    Calls Try.prog 9 #[.agg #[.int .i64 (n : Int), .int .i64 (s : Int), .int .i64 (g : Int), .int .i64 (th : Int), .int .i64 n4, .int .i64 (ch : Int), .int .i64 (most : Int), .int .i64 n7, .slice x l c]] w fun e w' => ∃ xb M b, e = .returned (.tuple #[.pointer (some ⟨xb, 0, none⟩), .int .i64 0]) ∧ w'.cell? ⟨xb, 9, none⟩ = some (.pointer (some ⟨M, 0, none⟩)) ∧ w'.cell? ⟨M, 0, none⟩ = some (.slice (some ⟨b, 0, none⟩) N N) ∧
      w'.rowIs b 54 N (rv (fwk (8 * n + 2 * s) g)) ∧ xb < w'.heap.size ∧ M < w'.heap.size ∧ Kept w w' := by
  have HG : Hid (Good n s g th n4 ch most n7 l S) := hg
  have HS : Hid (Shps w x l S) := hS
  have HN : Hid (N = 8 * n + 2 * s + g) := hN
  have HB : Hid (n ≤ 1024 ∧ 1 ≤ (most : Int) ∧ (most : Int) ≤ 256 ∧ 1 ≤ (th : Int) ∧ (th : Int) ≤ 16 ∧ N ≤ 1000000) := by
    obtain ⟨g0, g1, g2, g6, g7, g3, g4, g5, g8⟩ := hg.1
    exact ⟨by omega, by omega, by omega, by omega, by omega, by omega⟩
  have hg8 : g ≤ 8 := by
    obtain ⟨g0, g1, g2, g6, g7, g3, g4, g5, g8⟩ := hg.1
    omega
  have C0 : Hid (∀ w, Shps w x l S → Calls Try.prog 34 #[.agg #[.int .i64 (n : Int), .int .i64 (s : Int), .int .i64 (g : Int), .int .i64 (th : Int), .int .i64 n4, .int .i64 (ch : Int), .int .i64 (most : Int), .int .i64 n7, .slice x l c]] w fun e w' => e = .returned (.int .i64 0) ∧ Kept w w') := fun w h => ref_check n s g th n4 ch most n7 x l c S 0 w h (Checks.of_ok hg.1 hg.2)
  clear hS hg hN
  go_enter Try.func9, Try.ntmps9
  go_wp2_with fail
  generalize hW0 : w.alloc _ = W0
  have B0 : Hid (Blk W0 w.heap.size (cl n s g th n4 ch most n7 (.slice x l c)) ∧ Kept w W0) := by
    rw [← hW0]
    exact ⟨Blk.new w _ _, (Kept.refl w).alloc _ _⟩
  clear hW0
  refine (C0.out _ (HS.out.kept B0.out.2)).mono ?_
  rintro e w1 ⟨rfl, k1⟩
  have B1 : Hid (Blk w1 w.heap.size (cl n s g th n4 ch most n7 (.slice x l c)) ∧ Kept w w1) := ⟨B0.out.1.kept k1, B0.out.2.trans k1⟩
  clear k1 B0 C0
  have b0 := (B1.out.1).at 0 rfl
  have b1 := (B1.out.1).at 1 rfl
  have b2 := (B1.out.1).at 2 rfl
  have b3 := (B1.out.1).at 3 rfl
  have b4 := (B1.out.1).at 4 rfl
  have b5 := (B1.out.1).at 5 rfl
  have b6 := (B1.out.1).at 6 rfl
  have b7 := (B1.out.1).at 7 rfl
  have b8 := (B1.out.1).at 8 rfl
  go_upto_region 5 with fail
  generalize hW : w1.alloc _ = W2
  obtain ⟨xb, hxb⟩ : ∃ xb, xb = w1.heap.size := ⟨_, rfl⟩
  rw [← hxb]
  have H2 : Hid (Own W2 xb 52 (xcl n s g th ch most n4 n7 x l c (.pointer none) (.pointer none) (.pointer none) (.pointer none)) ∧ Blk W2 w.heap.size (cl n s g th n4 ch most n7 (.slice x l c)) ∧ Kept w W2 ∧ w.heap.size < xb) := by
    rw [← hW, hxb]
    exact ⟨Own.new w1 _ _, B1.out.1.kept ((Kept.refl _).alloc _ _), B1.out.2.alloc _ _, B1.out.1.lt⟩
  clear b0 b1 b2 b3 b4 b5 b6 b7 b8
  clear hW hxb B1
  have b0 := (H2.out.2.1).at 0 rfl
  have b1 := (H2.out.2.1).at 1 rfl
  have b2 := (H2.out.2.1).at 2 rfl
  have b3 := (H2.out.2.1).at 3 rfl
  have b4 := (H2.out.2.1).at 4 rfl
  have b5 := (H2.out.2.1).at 5 rfl
  have b6 := (H2.out.2.1).at 6 rfl
  have b7 := (H2.out.2.1).at 7 rfl
  have b8 := (H2.out.2.1).at 8 rfl
  have CW := ref_words n s g th n4 ch most n7 x l c S (N : Int) W2 (HS.out.kept H2.out.2.2.1) (by have := HN.out; exact ⟨fun _ => by omega, fun h => absurd HG.out h⟩)
  go_wp2_with fail
  refine CW.mono ?_
  rintro e w3 ⟨rfl, k3⟩
  have H3 : Hid (Own w3 xb 52 (xcl n s g th ch most n4 n7 x l c (.pointer none) (.pointer none) (.pointer none) (.pointer none)) ∧ Blk w3 w.heap.size (cl n s g th n4 ch most n7 (.slice x l c)) ∧ Kept w w3 ∧ w.heap.size < xb) := ⟨H2.out.1.kept k3, H2.out.2.1.kept k3, H2.out.2.2.1.trans k3, H2.out.2.2.2⟩
  clear b0 b1 b2 b3 b4 b5 b6 b7 b8
  clear CW k3 H2
  have CM := rmem_new N w3 HB.out.2.2.2.2.2
  go_wp2_with fail
  refine CM.mono ?_
  rintro e w4 ⟨M, mb, rfl, m1, m2, m3, m4, k4⟩
  have o4 := H3.out.1.kept k4
  have f9 := o4.blk.fz 9
  have c9 : w4.cell? ⟨xb, 9, none⟩ = some (.pointer none) := o4.blk.at 9 rfl
  have H4 : Hid (Own (w4.setCell ⟨xb, 9, none⟩ (.pointer (some ⟨M, 0, none⟩))) xb 52 (xcl n s g th ch most n4 n7 x l c (.pointer (some ⟨M, 0, none⟩)) (.pointer none) (.pointer none) (.pointer none)) ∧ Blk (w4.setCell ⟨xb, 9, none⟩ (.pointer (some ⟨M, 0, none⟩))) w.heap.size (cl n s g th n4 ch most n7 (.slice x l c)) ∧ Kept w (w4.setCell ⟨xb, 9, none⟩ (.pointer (some ⟨M, 0, none⟩))) ∧ w.heap.size < xb ∧
      Own (w4.setCell ⟨xb, 9, none⟩ (.pointer (some ⟨M, 0, none⟩))) M 46 [.slice (some ⟨mb, 0, none⟩) N N, .int .i64 0] ∧ (w4.setCell ⟨xb, 9, none⟩ (.pointer (some ⟨M, 0, none⟩))).rowIs mb 54 N (rv (fwk (8 * n + 2 * s) 0)) ∧ xb < M ∧ xb < mb) := by
    have mu : Mut [xb] w4 (w4.setCell ⟨xb, 9, none⟩ (.pointer (some ⟨M, 0, none⟩))) := (Mut.refl _ _).setCell (by simp) _
    have h1 := H3.out.2.2.2
    have h2 := H3.out.1.lt
    rw [fwk_0]
    exact ⟨o4.set 9 _, (H3.out.2.1.kept k4).muts mu (by simp; omega), (H3.out.2.2.1.trans k4).setCell (Nat.le_of_lt h1) _, h1, m1.muts mu (by simp; omega), mu.row m2 (by simp; omega), by omega, by omega⟩
  clear k4 m1 m2 m3 m4 CM H3
  go_upto_region 6 with fail
  generalize w4.setCell _ _ = w5 at *
  clear o4 f9 c9
  have b0 := H4.out.2.1.at 0 rfl
  have b6 := H4.out.2.1.at 6 rfl
  have CD := rshade_new n most w5 HB.out.1 HB.out.2.1 HB.out.2.2.1
  go_wp2_with fail
  refine CD.mono ?_
  rintro e w6 ⟨sb, tb, gs, gh, gc, L, rfl, t6, s6, l6, k6⟩
  have o6 := H4.out.1.kept k6
  have f10 := o6.blk.fz 10
  have c10 : w6.cell? ⟨xb, 10, none⟩ = some (.pointer none) := o6.blk.at 10 rfl
  have H6 : Hid (Own (w6.setCell ⟨xb, 10, none⟩ (.pointer (some ⟨sb, 0, none⟩))) xb 52 (xcl n s g th ch most n4 n7 x l c (.pointer (some ⟨M, 0, none⟩)) (.pointer (some ⟨sb, 0, none⟩)) (.pointer none) (.pointer none)) ∧ Blk (w6.setCell ⟨xb, 10, none⟩ (.pointer (some ⟨sb, 0, none⟩))) w.heap.size (cl n s g th n4 ch most n7 (.slice x l c)) ∧ Kept w (w6.setCell ⟨xb, 10, none⟩ (.pointer (some ⟨sb, 0, none⟩))) ∧ w.heap.size < xb ∧
      Own (w6.setCell ⟨xb, 10, none⟩ (.pointer (some ⟨sb, 0, none⟩))) M 46 [.slice (some ⟨mb, 0, none⟩) N N, .int .i64 0] ∧ (w6.setCell ⟨xb, 10, none⟩ (.pointer (some ⟨sb, 0, none⟩))).rowIs mb 54 N (rv (fwk (8 * n + 2 * s) 0)) ∧ xb < M ∧ xb < mb ∧
      RtT (w6.setCell ⟨xb, 10, none⟩ (.pointer (some ⟨sb, 0, none⟩))) tb gs gh gc n T0 ∧ Blk (w6.setCell ⟨xb, 10, none⟩ (.pointer (some ⟨sb, 0, none⟩))) sb (.pointer (some ⟨tb, 0, none⟩) :: L)) := by
    have mu : Mut [xb] w6 (w6.setCell ⟨xb, 10, none⟩ (.pointer (some ⟨sb, 0, none⟩))) := (Mut.refl _ _).setCell (by simp) _
    obtain ⟨h0, h1, h2, h3, h4, h5, h6, h7⟩ := H4.out
    have z0 := h0.lt
    refine ⟨o6.set 10 _, (h1.kept k6).muts mu (by simp; omega), (h2.trans k6).setCell (Nat.le_of_lt h3) _, h3, (h4.kept k6).muts mu (by simp; omega), mu.row (k6.row h5) (by simp; omega), h6, h7, t6.muts mu ?_ ?_ ?_ ?_, s6.muts mu (by simp; omega)⟩
    · simpa using fun e : tb = xb => own_nx t6.head o6 (by decide) e
    · simpa using fun e : gs = xb => o6.ne t6.rs (by decide) e.symm
    · simpa using fun e : gh = xb => o6.ne t6.rh (by decide) e.symm
    · simpa using fun e : gc = xb => o6.ne t6.rc (by decide) e.symm
  clear k6 t6 s6 l6 CD H4 b0 b6
  go_upto_region 7 with fail
  generalize w6.setCell _ _ = w7 at *
  clear o6 f10 c10
  have CS : Hid (∀ u, Kept w7 u → _) := fun u hu => rspace_new n s th ch g n4 most n7 x l c S tb gs gh gc u (H6.out.2.2.2.2.2.2.2.2.1.kept hu) (HS.out.kept (H6.out.2.2.1.trans hu)) HG.out
  go_wp2_with fail
  refine wp_region_ghostC (G := Nat) (fun b => [(.pointer (some ⟨xb, 0, none⟩)), (.agg #[.int .i64 (n : Int), .int .i64 (s : Int), .int .i64 (g : Int), .int .i64 (th : Int), .int .i64 n4, .int .i64 (ch : Int), .int .i64 (most : Int), .int .i64 n7, .slice x l c]), (.pointer (some ⟨xb, 0, none⟩)), (.pointer (some ⟨xb, 0, none⟩)), (.pointer (some ⟨xb, 10, none⟩)), (.pointer (some ⟨sb, 0, none⟩)), (.pointer (some ⟨sb, 0, none⟩)), (.pointer (some ⟨sb, 0, none⟩)), (.pointer (some ⟨tb, 0, none⟩)), (.tuple #[.pointer (some ⟨b, 0, none⟩), .int .i64 0]), (.tuple #[.pointer (some ⟨b, 0, none⟩), .int .i64 0]), (.pointer (some ⟨b, 0, none⟩)), (.int .i64 0), (.pointer (some ⟨xb, 0, none⟩)), (.pointer (some ⟨xb, 11, none⟩)), (undef)]) [(37, 10), (38, 0), (39, 1), (40, 2), (41, 3), (42, 4), (43, 5), (44, 6), (45, 7), (46, 8), (47, 9), (48, 11), (49, 12), (50, 13), (51, 14)] (fun b d u => JP 15 [] (fun u => Kept w7 u) (fun u => Own u xb 52 (xcl n s g th ch most n4 n7 x l c (.pointer (some ⟨M, 0, none⟩)) (.pointer (some ⟨sb, 0, none⟩)) (.pointer (some ⟨b, 0, none⟩)) (.pointer none)) ∧ Mut [xb] w7 u) d u) (by kernel_rfl) (by kernel_rfl) (by kernel_rfl) (by kernel_rfl) (fun _ => rfl) ?_ ?_ ?_
  · exact ⟨0, JP.start (Kept.refl _).drew⟩
  · intro i1 o1 ho b a1 d u hh hj0 hi hd hc
    have hj : JP 15 [] (fun u => Kept w7 u) (fun u => Own u xb 52 (xcl n s g th ch most n4 n7 x l c (.pointer (some ⟨M, 0, none⟩)) (.pointer (some ⟨sb, 0, none⟩)) (.pointer (some ⟨b, 0, none⟩)) (.pointer none)) ∧ Mut [xb] w7 u) d u := hj0
    clear hj0
    match i1, ho, hi, hd with
    | 0, ho, hi, hd =>
      simp only [List.getElem?_cons_zero, Option.some.injEq] at ho
      subst ho
      have g5 : a1.tmps[5]? = some (.pointer (some ⟨xb, 0, none⟩)) := hh.old 5 (by kernel_rfl) rfl
      have HN : Hid (JP 15 [] (fun u => Kept w7 u) (fun u => Own u xb 52 (xcl n s g th ch most n4 n7 x l c (.pointer (some ⟨M, 0, none⟩)) (.pointer (some ⟨sb, 0, none⟩)) (.pointer (some ⟨b, 0, none⟩)) (.pointer none)) ∧ Mut [xb] w7 u) (done d 0) u) := hj.plain 0 (by decide)
      clear hh hd hc hj hi
      refine wpOp_step rfl (fun K hK => ?_)
      go_simp
      exact hK _ _ ⟨b, fun _ _ => rfl, by simp [Act.put], HN.out⟩
    | 1, ho, hi, hd =>
      simp only [List.getElem?_cons_succ, List.getElem?_cons_zero, Option.some.injEq] at ho
      subst ho
      have g1 : a1.tmps[1]? = some (.pointer (some ⟨w.heap.size, 0, none⟩)) := hh.old 1 (by kernel_rfl) rfl
      have n15 : d 15 = false := by
        cases q : d 15 with
        | false => rfl
        | true => exact absurd (hc 15 _ rfl q { on := 1, ground := .phase } (by simp) rfl) (by simp [hi])
      have h0 := hj.now n15
      have b0 := (H6.out.2.1.kept h0).at 0 rfl
      have b1 := (H6.out.2.1.kept h0).at 1 rfl
      have b2 := (H6.out.2.1.kept h0).at 2 rfl
      have b3 := (H6.out.2.1.kept h0).at 3 rfl
      have b4 := (H6.out.2.1.kept h0).at 4 rfl
      have b5 := (H6.out.2.1.kept h0).at 5 rfl
      have b6 := (H6.out.2.1.kept h0).at 6 rfl
      have b7 := (H6.out.2.1.kept h0).at 7 rfl
      have b8 := (H6.out.2.1.kept h0).at 8 rfl
      have HN : Hid (JP 15 [] (fun u => Kept w7 u) (fun u => Own u xb 52 (xcl n s g th ch most n4 n7 x l c (.pointer (some ⟨M, 0, none⟩)) (.pointer (some ⟨sb, 0, none⟩)) (.pointer (some ⟨b, 0, none⟩)) (.pointer none)) ∧ Mut [xb] w7 u) (done d 1) u) := hj.plain 1 (by decide)
      clear hh hd hc hj hi h0 n15
      refine wpOp_step rfl (fun K hK => ?_)
      go_simp
      exact hK _ _ ⟨b, fun _ _ => rfl, by simp [Act.put], HN.out⟩
    | 2, ho, hi, hd =>
      simp only [List.getElem?_cons_succ, List.getElem?_cons_zero, Option.some.injEq] at ho
      subst ho
      have g5 : a1.tmps[5]? = some (.pointer (some ⟨xb, 0, none⟩)) := hh.old 5 (by kernel_rfl) rfl
      have HN : Hid (JP 15 [] (fun u => Kept w7 u) (fun u => Own u xb 52 (xcl n s g th ch most n4 n7 x l c (.pointer (some ⟨M, 0, none⟩)) (.pointer (some ⟨sb, 0, none⟩)) (.pointer (some ⟨b, 0, none⟩)) (.pointer none)) ∧ Mut [xb] w7 u) (done d 2) u) := hj.plain 2 (by decide)
      clear hh hd hc hj hi
      refine wpOp_step rfl (fun K hK => ?_)
      go_simp
      exact hK _ _ ⟨b, fun _ _ => rfl, by simp [Act.put], HN.out⟩
    | 3, ho, hi, hd =>
      simp only [List.getElem?_cons_succ, List.getElem?_cons_zero, Option.some.injEq] at ho
      subst ho
      have g40 : a1.tmps[40]? = some (.pointer (some ⟨xb, 0, none⟩)) := hh.did 2 _ 40 rfl rfl (hd { on := 2, ground := .data } (by simp) rfl)
      have HN : Hid (JP 15 [] (fun u => Kept w7 u) (fun u => Own u xb 52 (xcl n s g th ch most n4 n7 x l c (.pointer (some ⟨M, 0, none⟩)) (.pointer (some ⟨sb, 0, none⟩)) (.pointer (some ⟨b, 0, none⟩)) (.pointer none)) ∧ Mut [xb] w7 u) (done d 3) u) := hj.plain 3 (by decide)
      clear hh hd hc hj hi
      refine wpOp_step rfl (fun K hK => ?_)
      go_simp
      exact hK _ _ ⟨b, fun _ _ => rfl, by simp [Act.put], HN.out⟩
    | 4, ho, hi, hd =>
      simp only [List.getElem?_cons_succ, List.getElem?_cons_zero, Option.some.injEq] at ho
      subst ho
      have g41 : a1.tmps[41]? = some (.pointer (some ⟨xb, 0, none⟩)) := hh.did 3 _ 41 rfl rfl (hd { on := 3, ground := .data } (by simp) rfl)
      have HN : Hid (JP 15 [] (fun u => Kept w7 u) (fun u => Own u xb 52 (xcl n s g th ch most n4 n7 x l c (.pointer (some ⟨M, 0, none⟩)) (.pointer (some ⟨sb, 0, none⟩)) (.pointer (some ⟨b, 0, none⟩)) (.pointer none)) ∧ Mut [xb] w7 u) (done d 4) u) := hj.plain 4 (by decide)
      clear hh hd hc hj hi
      refine wpOp_step rfl (fun K hK => ?_)
      go_simp
      exact hK _ _ ⟨b, fun _ _ => rfl, by simp [Act.put], HN.out⟩
    | 5, ho, hi, hd =>
      simp only [List.getElem?_cons_succ, List.getElem?_cons_zero, Option.some.injEq] at ho
      subst ho
      have g42 : a1.tmps[42]? = some (.pointer (some ⟨xb, 10, none⟩)) := hh.did 4 _ 42 rfl rfl (hd { on := 4, ground := .data } (by simp) rfl)
      have n15 : d 15 = false := by
        cases q : d 15 with
        | false => rfl
        | true => exact absurd (hc 15 _ rfl q { on := 5, ground := .phase } (by simp) rfl) (by simp [hi])
      have h0 := hj.now n15
      have q10 := ((H6.out.1.kept h0).blk).at 10 rfl
      have HN : Hid (JP 15 [] (fun u => Kept w7 u) (fun u => Own u xb 52 (xcl n s g th ch most n4 n7 x l c (.pointer (some ⟨M, 0, none⟩)) (.pointer (some ⟨sb, 0, none⟩)) (.pointer (some ⟨b, 0, none⟩)) (.pointer none)) ∧ Mut [xb] w7 u) (done d 5) u) := hj.plain 5 (by decide)
      clear hh hd hc hj hi h0 n15
      refine wpOp_step rfl (fun K hK => ?_)
      go_simp
      exact hK _ _ ⟨b, fun _ _ => rfl, by simp [Act.put], HN.out⟩
    | 6, ho, hi, hd =>
      simp only [List.getElem?_cons_succ, List.getElem?_cons_zero, Option.some.injEq] at ho
      subst ho
      have g43 : a1.tmps[43]? = some (.pointer (some ⟨sb, 0, none⟩)) := hh.did 5 _ 43 rfl rfl (hd { on := 5, ground := .data } (by simp) rfl)
      have HN : Hid (JP 15 [] (fun u => Kept w7 u) (fun u => Own u xb 52 (xcl n s g th ch most n4 n7 x l c (.pointer (some ⟨M, 0, none⟩)) (.pointer (some ⟨sb, 0, none⟩)) (.pointer (some ⟨b, 0, none⟩)) (.pointer none)) ∧ Mut [xb] w7 u) (done d 6) u) := hj.plain 6 (by decide)
      clear hh hd hc hj hi
      refine wpOp_step rfl (fun K hK => ?_)
      go_simp
      exact hK _ _ ⟨b, fun _ _ => rfl, by simp [Act.put], HN.out⟩
    | 7, ho, hi, hd =>
      simp only [List.getElem?_cons_succ, List.getElem?_cons_zero, Option.some.injEq] at ho
      subst ho
      have g44 : a1.tmps[44]? = some (.pointer (some ⟨sb, 0, none⟩)) := hh.did 6 _ 44 rfl rfl (hd { on := 6, ground := .data } (by simp) rfl)
      have HN : Hid (JP 15 [] (fun u => Kept w7 u) (fun u => Own u xb 52 (xcl n s g th ch most n4 n7 x l c (.pointer (some ⟨M, 0, none⟩)) (.pointer (some ⟨sb, 0, none⟩)) (.pointer (some ⟨b, 0, none⟩)) (.pointer none)) ∧ Mut [xb] w7 u) (done d 7) u) := hj.plain 7 (by decide)
      clear hh hd hc hj hi
      refine wpOp_step rfl (fun K hK => ?_)
      go_simp
      exact hK _ _ ⟨b, fun _ _ => rfl, by simp [Act.put], HN.out⟩
    | 8, ho, hi, hd =>
      simp only [List.getElem?_cons_succ, List.getElem?_cons_zero, Option.some.injEq] at ho
      subst ho
      have g45 : a1.tmps[45]? = some (.pointer (some ⟨sb, 0, none⟩)) := hh.did 7 _ 45 rfl rfl (hd { on := 7, ground := .data } (by simp) rfl)
      have n15 : d 15 = false := by
        cases q : d 15 with
        | false => rfl
        | true => exact absurd (hc 15 _ rfl q { on := 8, ground := .phase } (by simp) rfl) (by simp [hi])
      have h0 := hj.now n15
      have q0 := (H6.out.2.2.2.2.2.2.2.2.2.kept h0).at 0 rfl
      have HN : Hid (JP 15 [] (fun u => Kept w7 u) (fun u => Own u xb 52 (xcl n s g th ch most n4 n7 x l c (.pointer (some ⟨M, 0, none⟩)) (.pointer (some ⟨sb, 0, none⟩)) (.pointer (some ⟨b, 0, none⟩)) (.pointer none)) ∧ Mut [xb] w7 u) (done d 8) u) := hj.plain 8 (by decide)
      clear hh hd hc hj hi h0 n15
      refine wpOp_step rfl (fun K hK => ?_)
      go_simp
      exact hK _ _ ⟨b, fun _ _ => rfl, by simp [Act.put], HN.out⟩
    | 9, ho, hi, hd =>
      simp only [List.getElem?_cons_succ, List.getElem?_cons_zero, Option.some.injEq] at ho
      subst ho
      have g39 : a1.tmps[39]? = some (.agg #[.int .i64 (n : Int), .int .i64 (s : Int), .int .i64 (g : Int), .int .i64 (th : Int), .int .i64 n4, .int .i64 (ch : Int), .int .i64 (most : Int), .int .i64 n7, .slice x l c]) := hh.did 1 _ 39 rfl rfl (hd { on := 1, ground := .data } (by simp) rfl)
      have g46 : a1.tmps[46]? = some (.pointer (some ⟨tb, 0, none⟩)) := hh.did 8 _ 46 rfl rfl (hd { on := 8, ground := .data } (by simp) rfl)
      have n10 : d 10 = false := by
        cases q : d 10 with
        | false => rfl
        | true => exact absurd (hc 10 _ rfl q { on := 9, ground := .data } (by simp) rfl) (by simp [hi])
      have n11 : d 11 = false := by
        cases q : d 11 with
        | false => rfl
        | true => exact absurd (hc 10 _ rfl (hc 11 _ rfl q { on := 10, ground := .data } (by simp) rfl) { on := 9, ground := .data } (by simp) rfl) (by simp [hi])
      have n15 : d 15 = false := by
        cases q : d 15 with
        | false => rfl
        | true => exact absurd (hc 15 _ rfl q { on := 9, ground := .chain } (by simp) rfl) (by simp [hi])
      have h0 := hj.now n15
      have C := CS.out u h0
      have HJ : Hid (Kept w7 u) := h0
      have HJJ : Hid (∀ b, JP 15 [] (fun u => Kept w7 u) (fun u => Own u xb 52 (xcl n s g th ch most n4 n7 x l c (.pointer (some ⟨M, 0, none⟩)) (.pointer (some ⟨sb, 0, none⟩)) (.pointer (some ⟨b, 0, none⟩)) (.pointer none)) ∧ Mut [xb] w7 u) d u) := fun b2 => ⟨fun e => absurd e (by simp [n15]), by simpa [n15] using h0⟩
      have HI : Hid (d 9 = false ∧ d 10 = false ∧ d 11 = false ∧ True ∧ d 15 = false) := ⟨hi, n10, n11, trivial, n15⟩
      clear hh hd hc hj hi h0 n10 n11 n15
      refine wpOp_step rfl (fun K hK => ?_)
      go_simp
      refine C.mono ?_
      rintro e u2 ⟨b2, rfl, _, k2⟩
      refine hK _ _ ⟨b2, fun j hj => ?_, by simp [Act.put], (HJJ.out b2).stay HI.out.2.2.2.2 9 (by decide) (HJ.out.trans k2)⟩
      have j9 : j ≠ 9 := fun q => by rw [q, HI.out.1] at hj; cases hj
      have j10 : j ≠ 10 := fun q => by rw [q, HI.out.2.1] at hj; cases hj
      have j11 : j ≠ 11 := fun q => by rw [q, HI.out.2.2.1] at hj; cases hj
      have j15 : j ≠ 15 := fun q => by rw [q, HI.out.2.2.2.2] at hj; cases hj
      match j, j9, j10, j11, j15 with
      | 0, _, _, _, _ => rfl
      | 1, _, _, _, _ => rfl
      | 2, _, _, _, _ => rfl
      | 3, _, _, _, _ => rfl
      | 4, _, _, _, _ => rfl
      | 5, _, _, _, _ => rfl
      | 6, _, _, _, _ => rfl
      | 7, _, _, _, _ => rfl
      | 8, _, _, _, _ => rfl
      | 12, _, _, _, _ => rfl
      | 13, _, _, _, _ => rfl
      | 14, _, _, _, _ => rfl
      | j + 16, _, _, _, _ => rfl
    | 10, ho, hi, hd =>
      simp only [List.getElem?_cons_succ, List.getElem?_cons_zero, Option.some.injEq] at ho
      subst ho
      have g47 : a1.tmps[47]? = some (.tuple #[.pointer (some ⟨b, 0, none⟩), .int .i64 0]) := hh.did 9 _ 47 rfl rfl (hd { on := 9, ground := .data } (by simp) rfl)
      have HN : Hid (JP 15 [] (fun u => Kept w7 u) (fun u => Own u xb 52 (xcl n s g th ch most n4 n7 x l c (.pointer (some ⟨M, 0, none⟩)) (.pointer (some ⟨sb, 0, none⟩)) (.pointer (some ⟨b, 0, none⟩)) (.pointer none)) ∧ Mut [xb] w7 u) (done d 10) u) := hj.plain 10 (by decide)
      clear hh hd hc hj hi
      refine wpOp_step rfl (fun K hK => ?_)
      go_simp
      exact hK _ _ ⟨b, fun _ _ => rfl, by simp [Act.put], HN.out⟩
    | 11, ho, hi, hd =>
      simp only [List.getElem?_cons_succ, List.getElem?_cons_zero, Option.some.injEq] at ho
      subst ho
      have g37 : a1.tmps[37]? = some (.tuple #[.pointer (some ⟨b, 0, none⟩), .int .i64 0]) := hh.did 10 _ 37 rfl rfl (hd { on := 10, ground := .data } (by simp) rfl)
      have HN : Hid (JP 15 [] (fun u => Kept w7 u) (fun u => Own u xb 52 (xcl n s g th ch most n4 n7 x l c (.pointer (some ⟨M, 0, none⟩)) (.pointer (some ⟨sb, 0, none⟩)) (.pointer (some ⟨b, 0, none⟩)) (.pointer none)) ∧ Mut [xb] w7 u) (done d 11) u) := hj.plain 11 (by decide)
      clear hh hd hc hj hi
      refine wpOp_step rfl (fun K hK => ?_)
      go_simp
      exact hK _ _ ⟨b, fun _ _ => rfl, by simp [Act.put], HN.out⟩
    | 12, ho, hi, hd =>
      simp only [List.getElem?_cons_succ, List.getElem?_cons_zero, Option.some.injEq] at ho
      subst ho
      have g37 : a1.tmps[37]? = some (.tuple #[.pointer (some ⟨b, 0, none⟩), .int .i64 0]) := hh.did 10 _ 37 rfl rfl (hd { on := 10, ground := .data } (by simp) rfl)
      have HN : Hid (JP 15 [] (fun u => Kept w7 u) (fun u => Own u xb 52 (xcl n s g th ch most n4 n7 x l c (.pointer (some ⟨M, 0, none⟩)) (.pointer (some ⟨sb, 0, none⟩)) (.pointer (some ⟨b, 0, none⟩)) (.pointer none)) ∧ Mut [xb] w7 u) (done d 12) u) := hj.plain 12 (by decide)
      clear hh hd hc hj hi
      refine wpOp_step rfl (fun K hK => ?_)
      go_simp
      exact hK _ _ ⟨b, fun _ _ => rfl, by simp [Act.put], HN.out⟩
    | 13, ho, hi, hd =>
      simp only [List.getElem?_cons_succ, List.getElem?_cons_zero, Option.some.injEq] at ho
      subst ho
      have g38 : a1.tmps[38]? = some (.pointer (some ⟨xb, 0, none⟩)) := hh.did 0 _ 38 rfl rfl (hd { on := 0, ground := .data } (by simp) rfl)
      have HN : Hid (JP 15 [] (fun u => Kept w7 u) (fun u => Own u xb 52 (xcl n s g th ch most n4 n7 x l c (.pointer (some ⟨M, 0, none⟩)) (.pointer (some ⟨sb, 0, none⟩)) (.pointer (some ⟨b, 0, none⟩)) (.pointer none)) ∧ Mut [xb] w7 u) (done d 13) u) := hj.plain 13 (by decide)
      clear hh hd hc hj hi
      refine wpOp_step rfl (fun K hK => ?_)
      go_simp
      exact hK _ _ ⟨b, fun _ _ => rfl, by simp [Act.put], HN.out⟩
    | 14, ho, hi, hd =>
      simp only [List.getElem?_cons_succ, List.getElem?_cons_zero, Option.some.injEq] at ho
      subst ho
      have g50 : a1.tmps[50]? = some (.pointer (some ⟨xb, 0, none⟩)) := hh.did 13 _ 50 rfl rfl (hd { on := 13, ground := .data } (by simp) rfl)
      have HN : Hid (JP 15 [] (fun u => Kept w7 u) (fun u => Own u xb 52 (xcl n s g th ch most n4 n7 x l c (.pointer (some ⟨M, 0, none⟩)) (.pointer (some ⟨sb, 0, none⟩)) (.pointer (some ⟨b, 0, none⟩)) (.pointer none)) ∧ Mut [xb] w7 u) (done d 14) u) := hj.plain 14 (by decide)
      clear hh hd hc hj hi
      refine wpOp_step rfl (fun K hK => ?_)
      go_simp
      exact hK _ _ ⟨b, fun _ _ => rfl, by simp [Act.put], HN.out⟩
    | 15, ho, hi, hd =>
      simp only [List.getElem?_cons_succ, List.getElem?_cons_zero, Option.some.injEq] at ho
      subst ho
      have g48 : a1.tmps[48]? = some (.pointer (some ⟨b, 0, none⟩)) := hh.did 11 _ 48 rfl rfl (hd { on := 11, ground := .data } (by simp) rfl)
      have g51 : a1.tmps[51]? = some (.pointer (some ⟨xb, 11, none⟩)) := hh.did 14 _ 51 rfl rfl (hd { on := 14, ground := .data } (by simp) rfl)
      have h0 := hj.now hi
      have o7 := H6.out.1.kept h0
      have f11 := o7.blk.fz 11
      have c11 : u.cell? ⟨xb, 11, none⟩ = some (.pointer none) := o7.blk.at 11 rfl
      have HN : Hid (JP 15 [] (fun u => Kept w7 u) (fun u => Own u xb 52 (xcl n s g th ch most n4 n7 x l c (.pointer (some ⟨M, 0, none⟩)) (.pointer (some ⟨sb, 0, none⟩)) (.pointer (some ⟨b, 0, none⟩)) (.pointer none)) ∧ Mut [xb] w7 u) (done d 15) (u.setCell ⟨xb, 11, none⟩ (.pointer (some ⟨b, 0, none⟩)))) := JP.turn (fun r hr => absurd hr (by simp)) ⟨o7.set 11 _, (h0.mut (D := [xb])).setCell (by simp) _⟩
      clear hh hd hc hj hi h0 o7
      refine wpOp_step rfl (fun K hK => ?_)
      go_simp
      exact hK _ _ ⟨b, fun _ _ => rfl, by simp [Act.put], HN.out⟩
    | n + 16, ho, hi, hd => simp at ho
  · intro b u d hall hj0
    have hj : JP 15 [] (fun u => Kept w7 u) (fun u => Own u xb 52 (xcl n s g th ch most n4 n7 x l c (.pointer (some ⟨M, 0, none⟩)) (.pointer (some ⟨sb, 0, none⟩)) (.pointer (some ⟨b, 0, none⟩)) (.pointer none)) ∧ Mut [xb] w7 u) d u := hj0
    clear hj0
    have h1 := hj.fin (hall 15 (by decide))
    clear hall hj
    refine norm_list' (L' := [_, _, _, _, _, _, _, _, _, _, _, _, _, _, _, _, _, _, _, _, _, _, _, _, _, _, _, _, _, _, _, _, _, _, _, _, _, _, _, _, _, _, _, _, _, _, _, _, _, _, _, _, _, _, _, _, _, _, _, _, _, _, _, _, _, _, _, _, _, _, _, _, _, _, _, _, _, _, _, _, _, _, _, _, _]) rfl ?_
    have H8 : Hid (Own u xb 52 (xcl n s g th ch most n4 n7 x l c (.pointer (some ⟨M, 0, none⟩)) (.pointer (some ⟨sb, 0, none⟩)) (.pointer (some ⟨b, 0, none⟩)) (.pointer none)) ∧ Blk u w.heap.size (cl n s g th n4 ch most n7 (.slice x l c)) ∧ Kept w u ∧ w.heap.size < xb ∧
        Own u M 46 [.slice (some ⟨mb, 0, none⟩) N N, .int .i64 0] ∧ u.rowIs mb 54 N (rv (fwk (8 * n + 2 * s) 0)) ∧ xb < M ∧ xb < mb) := by
      obtain ⟨h0, h2, h3, h4, h5, h6, h7, h8, _⟩ := H6.out
      exact ⟨h1.1, h2.muts h1.2 (by simp; omega), h3.muts h1.2 (fun k hk => by simp at hk; omega), h4, h5.muts h1.2 (by simp; omega), h1.2.row h6 (by simp; omega), h7, h8⟩
    clear h1 H6
    have b3 := H8.out.2.1.at 3 rfl
    have CN := hrnew_any th u HB.out.2.2.2.1 HB.out.2.2.2.2.1
    go_wp2_with fail
    refine CN.mono ?_
    rintro e w8 ⟨hb, hg, hc, rfl, _, _, _, k8⟩
    have o8 := H8.out.1.kept k8
    have f12 := o8.blk.fz 12
    have c12 : w8.cell? ⟨xb, 12, none⟩ = some (.pointer none) := o8.blk.at 12 rfl
    have H9 : Hid (Own (w8.setCell ⟨xb, 12, none⟩ (.pointer (some ⟨hb, 0, none⟩))) xb 52 (xcl n s g th ch most n4 n7 x l c (.pointer (some ⟨M, 0, none⟩)) (.pointer (some ⟨sb, 0, none⟩)) (.pointer (some ⟨b, 0, none⟩)) (.pointer (some ⟨hb, 0, none⟩))) ∧ Blk (w8.setCell ⟨xb, 12, none⟩ (.pointer (some ⟨hb, 0, none⟩))) w.heap.size (cl n s g th n4 ch most n7 (.slice x l c)) ∧ Kept w (w8.setCell ⟨xb, 12, none⟩ (.pointer (some ⟨hb, 0, none⟩))) ∧
        Own (w8.setCell ⟨xb, 12, none⟩ (.pointer (some ⟨hb, 0, none⟩))) M 46 [.slice (some ⟨mb, 0, none⟩) N N, .int .i64 0] ∧ (w8.setCell ⟨xb, 12, none⟩ (.pointer (some ⟨hb, 0, none⟩))).rowIs mb 54 N (rv (fwk (8 * n + 2 * s) 0))) := by
      have mu : Mut [xb] w8 (w8.setCell ⟨xb, 12, none⟩ (.pointer (some ⟨hb, 0, none⟩))) := (Mut.refl _ _).setCell (by simp) _
      obtain ⟨h0, h1, h2, h3, h4, h5, h6, h7⟩ := H8.out
      exact ⟨o8.set 12 _, (h1.kept k8).muts mu (by simp; omega), (h2.trans k8).setCell (Nat.le_of_lt h3) _, (h4.kept k8).muts mu (by simp; omega), mu.row (k8.row h5) (by simp; omega)⟩
    have HX : Hid (w.heap.size < xb ∧ xb < M ∧ xb < mb) := ⟨H8.out.2.2.2.1, H8.out.2.2.2.2.2.2.1, H8.out.2.2.2.2.2.2.2⟩
    clear k8 CN H8 b3
    go_upto_region 9 with fail
    generalize w8.setCell _ _ = w9 at *
    clear o8 f12 c12
    go_wp2_with fail
    go_loopg [6] g (fun m i wr => ∃ k : Nat, i = .int .i64 k ∧ k ≤ g ∧ m = g - k ∧ Hid (Own wr xb 52 (xcl n s g th ch most n4 n7 x l c (.pointer (some ⟨M, 0, none⟩)) (.pointer (some ⟨sb, 0, none⟩)) (.pointer (some ⟨b, 0, none⟩)) (.pointer (some ⟨hb, 0, none⟩))) ∧ Blk wr w.heap.size (cl n s g th n4 ch most n7 (.slice x l c)) ∧ Kept w wr ∧ Own wr M 46 [.slice (some ⟨mb, 0, none⟩) N N, .int .i64 0] ∧ wr.rowIs mb 54 N (rv (fwk (8 * n + 2 * s) k))))
    case atStart => exact ⟨0, rfl, by omega, by omega, H9.out⟩
    case round =>
      obtain ⟨k, rfl, hk, hm, hw⟩ := hrel
      have HM : Hid _ := hm
      clear hm H9
      by_cases hlt : k < g
      · obtain ⟨a, hA⟩ : ∃ a : Nat, a = 8 * n + 2 * s + k := ⟨_, rfl⟩
        have ha : a < N := by have := HN.out; omega
        have HA : Hid (a = 8 * n + 2 * s + k) := hA
        have CG := ref_global n s g th n4 ch most n7 x l c S (k : Int) (a : Int) 0 wr (HS.out.kept hw.out.2.2.1) ⟨fun _ => ⟨by omega, rfl⟩, fun h => absurd ⟨HG.out, by omega, by omega⟩ h⟩
        clear hA
        have b0 := (hw.out.2.1).at 0 rfl
        have b1 := (hw.out.2.1).at 1 rfl
        have b2 := (hw.out.2.1).at 2 rfl
        have b3 := (hw.out.2.1).at 3 rfl
        have b4 := (hw.out.2.1).at 4 rfl
        have b5 := (hw.out.2.1).at 5 rfl
        have b6 := (hw.out.2.1).at 6 rfl
        have b7 := (hw.out.2.1).at 7 rfl
        have b8 := (hw.out.2.1).at 8 rfl
        go_wp2_with fail
        refine CG.mono ?_
        rintro e v ⟨rfl, kv⟩
        have HV : Hid (Own v xb 52 (xcl n s g th ch most n4 n7 x l c (.pointer (some ⟨M, 0, none⟩)) (.pointer (some ⟨sb, 0, none⟩)) (.pointer (some ⟨b, 0, none⟩)) (.pointer (some ⟨hb, 0, none⟩))) ∧ Blk v w.heap.size (cl n s g th n4 ch most n7 (.slice x l c)) ∧ Kept w v ∧ Own v M 46 [.slice (some ⟨mb, 0, none⟩) N N, .int .i64 0] ∧ v.rowIs mb 54 N (rv (fwk (8 * n + 2 * s) k))) := ⟨hw.out.1.kept kv, hw.out.2.1.kept kv, hw.out.2.2.1.trans kv, hw.out.2.2.2.1.kept kv, kv.row hw.out.2.2.2.2⟩
        clear b0 b1 b2 b3 b4 b5 b6 b7 b8
        clear CG kv hw
        go_wp2_with fail
        refine wp_region_ghostC (G := Unit) (fun ⟨⟩ => [(.pointer (some ⟨xb, 0, none⟩)), (.pointer (some ⟨xb, 0, none⟩)), (.pointer (some ⟨xb, 9, none⟩)), (.pointer (some ⟨M, 0, none⟩)), (.pointer (some ⟨M, 0, none⟩)), (.pointer (some ⟨M, 0, none⟩)), (.slice (some ⟨mb, 0, none⟩) N N), (.int .i64 (a : Int)), (.complex .f64 0 4607182418800017408), (.pointer (some ⟨mb, a, none⟩)), (undef)]) [(73, 0), (74, 1), (75, 2), (76, 3), (77, 4), (78, 5), (79, 6), (80, 7), (81, 8), (82, 9)] (fun ⟨⟩ d u => JP 10 [] (fun u => Kept v u) (fun u => Own u xb 52 (xcl n s g th ch most n4 n7 x l c (.pointer (some ⟨M, 0, none⟩)) (.pointer (some ⟨sb, 0, none⟩)) (.pointer (some ⟨b, 0, none⟩)) (.pointer (some ⟨hb, 0, none⟩))) ∧ Blk u w.heap.size (cl n s g th n4 ch most n7 (.slice x l c)) ∧ Kept w u ∧ Own u M 46 [.slice (some ⟨mb, 0, none⟩) N N, .int .i64 0] ∧ u.rowIs mb 54 N (rv (fwk (8 * n + 2 * s) (k + 1)))) d u) (by kernel_rfl) (by kernel_rfl) (by kernel_rfl) (by kernel_rfl) (fun _ => rfl) ?_ ?_ ?_
        · exact ⟨(), JP.start (Kept.refl _).drew⟩
        · intro i1 o1 ho ng a1 d u hh hj0 hi hd hc
          obtain ⟨⟩ := ng
          have hj : JP 10 [] (fun u => Kept v u) (fun u => Own u xb 52 (xcl n s g th ch most n4 n7 x l c (.pointer (some ⟨M, 0, none⟩)) (.pointer (some ⟨sb, 0, none⟩)) (.pointer (some ⟨b, 0, none⟩)) (.pointer (some ⟨hb, 0, none⟩))) ∧ Blk u w.heap.size (cl n s g th n4 ch most n7 (.slice x l c)) ∧ Kept w u ∧ Own u M 46 [.slice (some ⟨mb, 0, none⟩) N N, .int .i64 0] ∧ u.rowIs mb 54 N (rv (fwk (8 * n + 2 * s) (k + 1)))) d u := hj0
          clear hj0
          match i1, ho, hi, hd with
          | 0, ho, hi, hd =>
            simp only [List.getElem?_cons_zero, Option.some.injEq] at ho
            subst ho
            have g5 : a1.tmps[5]? = some (.pointer (some ⟨xb, 0, none⟩)) := hh.old 5 (by kernel_rfl) rfl
            have HN : Hid (JP 10 [] (fun u => Kept v u) (fun u => Own u xb 52 (xcl n s g th ch most n4 n7 x l c (.pointer (some ⟨M, 0, none⟩)) (.pointer (some ⟨sb, 0, none⟩)) (.pointer (some ⟨b, 0, none⟩)) (.pointer (some ⟨hb, 0, none⟩))) ∧ Blk u w.heap.size (cl n s g th n4 ch most n7 (.slice x l c)) ∧ Kept w u ∧ Own u M 46 [.slice (some ⟨mb, 0, none⟩) N N, .int .i64 0] ∧ u.rowIs mb 54 N (rv (fwk (8 * n + 2 * s) (k + 1)))) (done d 0) u) := hj.plain 0 (by decide)
            clear hh hd hc hj hi
            refine wpOp_step rfl (fun K hK => ?_)
            go_simp
            exact hK _ _ ⟨⟨⟩, fun _ _ => rfl, by simp [Act.put], HN.out⟩
          | 1, ho, hi, hd =>
            simp only [List.getElem?_cons_succ, List.getElem?_cons_zero, Option.some.injEq] at ho
            subst ho
            have g73 : a1.tmps[73]? = some (.pointer (some ⟨xb, 0, none⟩)) := hh.did 0 _ 73 rfl rfl (hd { on := 0, ground := .data } (by simp) rfl)
            have HN : Hid (JP 10 [] (fun u => Kept v u) (fun u => Own u xb 52 (xcl n s g th ch most n4 n7 x l c (.pointer (some ⟨M, 0, none⟩)) (.pointer (some ⟨sb, 0, none⟩)) (.pointer (some ⟨b, 0, none⟩)) (.pointer (some ⟨hb, 0, none⟩))) ∧ Blk u w.heap.size (cl n s g th n4 ch most n7 (.slice x l c)) ∧ Kept w u ∧ Own u M 46 [.slice (some ⟨mb, 0, none⟩) N N, .int .i64 0] ∧ u.rowIs mb 54 N (rv (fwk (8 * n + 2 * s) (k + 1)))) (done d 1) u) := hj.plain 1 (by decide)
            clear hh hd hc hj hi
            refine wpOp_step rfl (fun K hK => ?_)
            go_simp
            exact hK _ _ ⟨⟨⟩, fun _ _ => rfl, by simp [Act.put], HN.out⟩
          | 2, ho, hi, hd =>
            simp only [List.getElem?_cons_succ, List.getElem?_cons_zero, Option.some.injEq] at ho
            subst ho
            have g74 : a1.tmps[74]? = some (.pointer (some ⟨xb, 0, none⟩)) := hh.did 1 _ 74 rfl rfl (hd { on := 1, ground := .data } (by simp) rfl)
            have HN : Hid (JP 10 [] (fun u => Kept v u) (fun u => Own u xb 52 (xcl n s g th ch most n4 n7 x l c (.pointer (some ⟨M, 0, none⟩)) (.pointer (some ⟨sb, 0, none⟩)) (.pointer (some ⟨b, 0, none⟩)) (.pointer (some ⟨hb, 0, none⟩))) ∧ Blk u w.heap.size (cl n s g th n4 ch most n7 (.slice x l c)) ∧ Kept w u ∧ Own u M 46 [.slice (some ⟨mb, 0, none⟩) N N, .int .i64 0] ∧ u.rowIs mb 54 N (rv (fwk (8 * n + 2 * s) (k + 1)))) (done d 2) u) := hj.plain 2 (by decide)
            clear hh hd hc hj hi
            refine wpOp_step rfl (fun K hK => ?_)
            go_simp
            exact hK _ _ ⟨⟨⟩, fun _ _ => rfl, by simp [Act.put], HN.out⟩
          | 3, ho, hi, hd =>
            simp only [List.getElem?_cons_succ, List.getElem?_cons_zero, Option.some.injEq] at ho
            subst ho
            have g75 : a1.tmps[75]? = some (.pointer (some ⟨xb, 9, none⟩)) := hh.did 2 _ 75 rfl rfl (hd { on := 2, ground := .data } (by simp) rfl)
            have n10 : d 10 = false := by
              cases q : d 10 with
              | false => rfl
              | true => exact absurd (hc 10 _ rfl q { on := 3, ground := .phase } (by simp) rfl) (by simp [hi])
            have h0 := hj.now n10
            have q9 := (HV.out.1.kept h0).blk.at 9 rfl
            have HN : Hid (JP 10 [] (fun u => Kept v u) (fun u => Own u xb 52 (xcl n s g th ch most n4 n7 x l c (.pointer (some ⟨M, 0, none⟩)) (.pointer (some ⟨sb, 0, none⟩)) (.pointer (some ⟨b, 0, none⟩)) (.pointer (some ⟨hb, 0, none⟩))) ∧ Blk u w.heap.size (cl n s g th n4 ch most n7 (.slice x l c)) ∧ Kept w u ∧ Own u M 46 [.slice (some ⟨mb, 0, none⟩) N N, .int .i64 0] ∧ u.rowIs mb 54 N (rv (fwk (8 * n + 2 * s) (k + 1)))) (done d 3) u) := hj.plain 3 (by decide)
            clear hh hd hc hj hi h0 n10
            refine wpOp_step rfl (fun K hK => ?_)
            go_simp
            exact hK _ _ ⟨⟨⟩, fun _ _ => rfl, by simp [Act.put], HN.out⟩
          | 4, ho, hi, hd =>
            simp only [List.getElem?_cons_succ, List.getElem?_cons_zero, Option.some.injEq] at ho
            subst ho
            have g76 : a1.tmps[76]? = some (.pointer (some ⟨M, 0, none⟩)) := hh.did 3 _ 76 rfl rfl (hd { on := 3, ground := .data } (by simp) rfl)
            have HN : Hid (JP 10 [] (fun u => Kept v u) (fun u => Own u xb 52 (xcl n s g th ch most n4 n7 x l c (.pointer (some ⟨M, 0, none⟩)) (.pointer (some ⟨sb, 0, none⟩)) (.pointer (some ⟨b, 0, none⟩)) (.pointer (some ⟨hb, 0, none⟩))) ∧ Blk u w.heap.size (cl n s g th n4 ch most n7 (.slice x l c)) ∧ Kept w u ∧ Own u M 46 [.slice (some ⟨mb, 0, none⟩) N N, .int .i64 0] ∧ u.rowIs mb 54 N (rv (fwk (8 * n + 2 * s) (k + 1)))) (done d 4) u) := hj.plain 4 (by decide)
            clear hh hd hc hj hi
            refine wpOp_step rfl (fun K hK => ?_)
            go_simp
            exact hK _ _ ⟨⟨⟩, fun _ _ => rfl, by simp [Act.put], HN.out⟩
          | 5, ho, hi, hd =>
            simp only [List.getElem?_cons_succ, List.getElem?_cons_zero, Option.some.injEq] at ho
            subst ho
            have g77 : a1.tmps[77]? = some (.pointer (some ⟨M, 0, none⟩)) := hh.did 4 _ 77 rfl rfl (hd { on := 4, ground := .data } (by simp) rfl)
            have HN : Hid (JP 10 [] (fun u => Kept v u) (fun u => Own u xb 52 (xcl n s g th ch most n4 n7 x l c (.pointer (some ⟨M, 0, none⟩)) (.pointer (some ⟨sb, 0, none⟩)) (.pointer (some ⟨b, 0, none⟩)) (.pointer (some ⟨hb, 0, none⟩))) ∧ Blk u w.heap.size (cl n s g th n4 ch most n7 (.slice x l c)) ∧ Kept w u ∧ Own u M 46 [.slice (some ⟨mb, 0, none⟩) N N, .int .i64 0] ∧ u.rowIs mb 54 N (rv (fwk (8 * n + 2 * s) (k + 1)))) (done d 5) u) := hj.plain 5 (by decide)
            clear hh hd hc hj hi
            refine wpOp_step rfl (fun K hK => ?_)
            go_simp
            exact hK _ _ ⟨⟨⟩, fun _ _ => rfl, by simp [Act.put], HN.out⟩
          | 6, ho, hi, hd =>
            simp only [List.getElem?_cons_succ, List.getElem?_cons_zero, Option.some.injEq] at ho
            subst ho
            have g78 : a1.tmps[78]? = some (.pointer (some ⟨M, 0, none⟩)) := hh.did 5 _ 78 rfl rfl (hd { on := 5, ground := .data } (by simp) rfl)
            have n10 : d 10 = false := by
              cases q : d 10 with
              | false => rfl
              | true => exact absurd (hc 10 _ rfl q { on := 6, ground := .phase } (by simp) rfl) (by simp [hi])
            have h0 := hj.now n10
            have q0 := (HV.out.2.2.2.1.kept h0).blk.at 0 rfl
            have HN : Hid (JP 10 [] (fun u => Kept v u) (fun u => Own u xb 52 (xcl n s g th ch most n4 n7 x l c (.pointer (some ⟨M, 0, none⟩)) (.pointer (some ⟨sb, 0, none⟩)) (.pointer (some ⟨b, 0, none⟩)) (.pointer (some ⟨hb, 0, none⟩))) ∧ Blk u w.heap.size (cl n s g th n4 ch most n7 (.slice x l c)) ∧ Kept w u ∧ Own u M 46 [.slice (some ⟨mb, 0, none⟩) N N, .int .i64 0] ∧ u.rowIs mb 54 N (rv (fwk (8 * n + 2 * s) (k + 1)))) (done d 6) u) := hj.plain 6 (by decide)
            clear hh hd hc hj hi h0 n10
            refine wpOp_step rfl (fun K hK => ?_)
            go_simp
            exact hK _ _ ⟨⟨⟩, fun _ _ => rfl, by simp [Act.put], HN.out⟩
          | 7, ho, hi, hd =>
            simp only [List.getElem?_cons_succ, List.getElem?_cons_zero, Option.some.injEq] at ho
            subst ho
            have g7 : a1.tmps[7]? = some (.int .i64 (a : Int)) := hh.old 7 (by kernel_rfl) rfl
            have HN : Hid (JP 10 [] (fun u => Kept v u) (fun u => Own u xb 52 (xcl n s g th ch most n4 n7 x l c (.pointer (some ⟨M, 0, none⟩)) (.pointer (some ⟨sb, 0, none⟩)) (.pointer (some ⟨b, 0, none⟩)) (.pointer (some ⟨hb, 0, none⟩))) ∧ Blk u w.heap.size (cl n s g th n4 ch most n7 (.slice x l c)) ∧ Kept w u ∧ Own u M 46 [.slice (some ⟨mb, 0, none⟩) N N, .int .i64 0] ∧ u.rowIs mb 54 N (rv (fwk (8 * n + 2 * s) (k + 1)))) (done d 7) u) := hj.plain 7 (by decide)
            clear hh hd hc hj hi
            refine wpOp_step rfl (fun K hK => ?_)
            go_simp
            exact hK _ _ ⟨⟨⟩, fun _ _ => rfl, by simp [Act.put], HN.out⟩
          | 8, ho, hi, hd =>
            simp only [List.getElem?_cons_succ, List.getElem?_cons_zero, Option.some.injEq] at ho
            subst ho
            have n10 : d 10 = false := by
              cases q : d 10 with
              | false => rfl
              | true => exact absurd (hc 10 _ rfl q { on := 8, ground := .data } (by simp) rfl) (by simp [hi])
            have h0 := hj.now n10
            have C := rn_any u
            have HN : Hid (JP 10 [] (fun u => Kept v u) (fun u => Own u xb 52 (xcl n s g th ch most n4 n7 x l c (.pointer (some ⟨M, 0, none⟩)) (.pointer (some ⟨sb, 0, none⟩)) (.pointer (some ⟨b, 0, none⟩)) (.pointer (some ⟨hb, 0, none⟩))) ∧ Blk u w.heap.size (cl n s g th n4 ch most n7 (.slice x l c)) ∧ Kept w u ∧ Own u M 46 [.slice (some ⟨mb, 0, none⟩) N N, .int .i64 0] ∧ u.rowIs mb 54 N (rv (fwk (8 * n + 2 * s) (k + 1)))) (done d 8) u) := hj.plain 8 (by decide)
            clear hh hd hc hj hi h0 n10
            refine wpOp_step rfl (fun K hK => ?_)
            go_simp
            refine C.mono ?_
            rintro e u2 ⟨rfl, e2⟩
            rw [e2]
            exact hK _ _ ⟨(), fun _ _ => rfl, by simp [Act.put], HN.out⟩
          | 9, ho, hi, hd =>
            simp only [List.getElem?_cons_succ, List.getElem?_cons_zero, Option.some.injEq] at ho
            subst ho
            have g79 : a1.tmps[79]? = some (.slice (some ⟨mb, 0, none⟩) N N) := hh.did 6 _ 79 rfl rfl (hd { on := 6, ground := .data } (by simp) rfl)
            have g80 : a1.tmps[80]? = some (.int .i64 (a : Int)) := hh.did 7 _ 80 rfl rfl (hd { on := 7, ground := .data } (by simp) rfl)
            have HN : Hid (JP 10 [] (fun u => Kept v u) (fun u => Own u xb 52 (xcl n s g th ch most n4 n7 x l c (.pointer (some ⟨M, 0, none⟩)) (.pointer (some ⟨sb, 0, none⟩)) (.pointer (some ⟨b, 0, none⟩)) (.pointer (some ⟨hb, 0, none⟩))) ∧ Blk u w.heap.size (cl n s g th n4 ch most n7 (.slice x l c)) ∧ Kept w u ∧ Own u M 46 [.slice (some ⟨mb, 0, none⟩) N N, .int .i64 0] ∧ u.rowIs mb 54 N (rv (fwk (8 * n + 2 * s) (k + 1)))) (done d 9) u) := hj.plain 9 (by decide)
            clear hh hd hc hj hi
            refine wpOp_step rfl (fun K hK => ?_)
            go_simp
            exact hK _ _ ⟨⟨⟩, fun _ _ => rfl, by simp [Act.put], HN.out⟩
          | 10, ho, hi, hd =>
            simp only [List.getElem?_cons_succ, List.getElem?_cons_zero, Option.some.injEq] at ho
            subst ho
            have g81 : a1.tmps[81]? = some (.complex .f64 0 4607182418800017408) := hh.did 8 _ 81 rfl rfl (hd { on := 8, ground := .data } (by simp) rfl)
            have g82 : a1.tmps[82]? = some (.pointer (some ⟨mb, a, none⟩)) := hh.did 9 _ 82 rfl rfl (hd { on := 9, ground := .data } (by simp) rfl)
            have h0 := hj.now hi
            have r0 := (h0.row HV.out.2.2.2.2).cell ha
            have f0 := (h0.row HV.out.2.2.2.2).frozen (i := a)
            have HN : Hid (JP 10 [] (fun u => Kept v u) (fun u => Own u xb 52 (xcl n s g th ch most n4 n7 x l c (.pointer (some ⟨M, 0, none⟩)) (.pointer (some ⟨sb, 0, none⟩)) (.pointer (some ⟨b, 0, none⟩)) (.pointer (some ⟨hb, 0, none⟩))) ∧ Blk u w.heap.size (cl n s g th n4 ch most n7 (.slice x l c)) ∧ Kept w u ∧ Own u M 46 [.slice (some ⟨mb, 0, none⟩) N N, .int .i64 0] ∧ u.rowIs mb 54 N (rv (fwk (8 * n + 2 * s) (k + 1)))) (done d 10) (u.setCell ⟨mb, a, none⟩ (.complex .f64 0 4607182418800017408))) := JP.turn (fun r hr => absurd hr (by simp)) (by
              have hx := HX.out
              have mu : Mut [mb] u (u.setCell ⟨mb, a, none⟩ (.complex .f64 0 4607182418800017408)) := (Mut.refl _ _).setCell (by simp) _
              have e1 : M ≠ mb := (HV.out.2.2.2.1).ne HV.out.2.2.2.2 (by decide)
              exact ⟨(HV.out.1.kept h0).muts mu (by simp; omega), (HV.out.2.1.kept h0).muts mu (by simp; omega), (HV.out.2.2.1.trans h0).setCell (by show w.heap.size ≤ mb; omega) _, (HV.out.2.2.2.1.kept h0).muts mu (by simpa using e1), row_next (h0.row HV.out.2.2.2.2) a HA.out⟩)
            clear hh hd hc hj hi h0
            refine wpOp_step rfl (fun K hK => ?_)
            go_simp
            exact hK _ _ ⟨⟨⟩, fun _ _ => rfl, by simp [Act.put], HN.out⟩
          | n + 11, ho, hi, hd => simp at ho
        · intro ng u d hall hj0
          obtain ⟨⟩ := ng
          have hj : JP 10 [] (fun u => Kept v u) (fun u => Own u xb 52 (xcl n s g th ch most n4 n7 x l c (.pointer (some ⟨M, 0, none⟩)) (.pointer (some ⟨sb, 0, none⟩)) (.pointer (some ⟨b, 0, none⟩)) (.pointer (some ⟨hb, 0, none⟩))) ∧ Blk u w.heap.size (cl n s g th n4 ch most n7 (.slice x l c)) ∧ Kept w u ∧ Own u M 46 [.slice (some ⟨mb, 0, none⟩) N N, .int .i64 0] ∧ u.rowIs mb 54 N (rv (fwk (8 * n + 2 * s) (k + 1)))) d u := hj0
          clear hj0
          have h1 := hj.fin (hall 10 (by decide))
          clear hall hj
          refine norm_list' (L' := [_, _, _, _, _, _, _, _, _, _, _, _, _, _, _, _, _, _, _, _, _, _, _, _, _, _, _, _, _, _, _, _, _, _, _, _, _, _, _, _, _, _, _, _, _, _, _, _, _, _, _, _, _, _, _, _, _, _, _, _, _, _, _, _, _, _, _, _, _, _, _, _, _, _, _, _, _, _, _, _, _, _, _, _, _]) rfl ?_
          have HZ : Hid (Own u xb 52 (xcl n s g th ch most n4 n7 x l c (.pointer (some ⟨M, 0, none⟩)) (.pointer (some ⟨sb, 0, none⟩)) (.pointer (some ⟨b, 0, none⟩)) (.pointer (some ⟨hb, 0, none⟩))) ∧ Blk u w.heap.size (cl n s g th n4 ch most n7 (.slice x l c)) ∧ Kept w u ∧ Own u M 46 [.slice (some ⟨mb, 0, none⟩) N N, .int .i64 0] ∧ u.rowIs mb 54 N (rv (fwk (8 * n + 2 * s) (k + 1)))) := h1
          clear h1 HV
          go_wp2
          go_roundg (gk - 1)
          all_goals (have := HM.out; try omega)
          exact ⟨k + 1, by go_num, by omega, by omega, HZ.out⟩
      · obtain rfl : k = g := by omega
        have b2 := hw.out.2.1.at 2 rfl
        go_wp2
        go_ret2
        exact ⟨xb, M, mb, rfl, hw.out.1.blk.at 9 rfl, hw.out.2.2.2.1.blk.at 0 rfl, hw.out.2.2.2.2, hw.out.1.lt, hw.out.2.2.2.1.lt, hw.out.2.2.1⟩
end Go.Proofs.Ytiigmmmhhpdmdaa
