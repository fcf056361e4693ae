/-
  sporef19.Parse: of what an operation prints, that operation; else none.
-/
import Derived.Test.YtfknonhkpilbfaaDoorRead19
import Derived.Test.YtfknonhkpilbfaaDoorParse19
namespace Go.Proofs.YtfknonhkpilbfaaDoor
open Go.RowKit
attribute [local go_sem] run_store_complex

theorem tail_slice (g n cap : Nat) (h : n + 1 ≤ cap) : ∃ ob, (∀ w E, E.length = n → Rds w (some ⟨g, 0 + 1, none⟩) E → Rds w (some ⟨g, ob, none⟩) E) ∧ ∀ W, (Instr.slice 42 (.slice (some ⟨g, 0, none⟩) (n + 1) cap) (some (.int .i64 1)) none none).run Tryd.prog W = .ok (.slice (some ⟨g, ob, none⟩) n (cap - 1)) W := by
  by_cases hc : cap = 1
  · subst hc
    refine ⟨0, fun w E hE _ h0 => by omega, fun W => ?_⟩
    rw [run_slice_l W 42 _ _ _ (by kernel_rfl) .i64 1 (by omega) (by omega)]
    go_simp
    try omega
  · refine ⟨1, fun w E hE hR => hR, fun W => ?_⟩
    have hc2 : ¬ cap = 1 := hc
    rw [run_slice_l W 42 _ _ _ (by kernel_rfl) .i64 1 (by omega) (by omega)]
    go_simp
    try omega
theorem piece_len : ∀ (s : List UInt8), ∀ q ∈ spl s, q.length ≤ s.length
  | [], q, hq => by simp [spl] at hq; simp [hq]
  | c :: r, q, hq => by
    have ih := piece_len r
    unfold spl at hq
    split at hq
    · rcases List.mem_cons.1 hq with rfl | hq
      · simp
      · have := ih q hq; simp; omega
    · split at hq
      · simp at hq; simp [hq]
      · rename_i f fs e
        rcases List.mem_cons.1 hq with rfl | hq
        · have := ih f (by rw [e]; simp); simp; omega
        · have := ih q (by rw [e]; simp [hq]); simp; omega
theorem spl_count : ∀ (s : List UInt8), (spl s).length ≤ s.length + 1
  | [] => by simp [spl]
  | c :: r => by
    have ih := spl_count r
    unfold spl
    split
    · simp; omega
    · split
      · simp
      · rename_i f fs e
        rw [e] at ih
        simp at ih ⊢
        omega
theorem Good.fit {s : List UInt8} {g : OP} (hg : Good s g) : spl s = wd g.k :: (lts g.k).map g.fld := by rw [← hg.prt]; exact spl_prt g

set_option maxHeartbeats 16000000 in
set_option maxRecDepth 20000 in
theorem parse_ref (s : List UInt8) (hl : s.length ≤ 500) (w : World) : Calls Tryd.prog 6 #[.string ⟨s.toArray⟩] w fun e w' => ParseA s w e w' := by
  obtain ⟨t, ht⟩ : ∃ t : ByteArray, t = ⟨s.toArray⟩ := ⟨_, rfl⟩
  have hS := fun W => split_any s (by omega) W
  rw [← ht] at hS ⊢
  have HT : Hid (t = ⟨s.toArray⟩) := ht
  clear ht
  go_enter Tryd.func6, Tryd.ntmps6
  go_wp2_with fail
  have HB : Hid (Blk (w.alloc (.cells #[.int .i64 0, .int .i64 0, .int .i64 0, .int .i64 0, .int .i64 0, .complex .f64 0 0] 25)) w.heap.size (zer 0).cs ∧ Kept w (w.alloc (.cells #[.int .i64 0, .int .i64 0, .int .i64 0, .int .i64 0, .int .i64 0, .complex .f64 0 0] 25))) := ⟨Blk.new w [.int .i64 0, .int .i64 0, .int .i64 0, .int .i64 0, .int .i64 0, .complex .f64 0 0] 25, (Kept.refl w).alloc _ _⟩
  refine (hS _).mono ?_
  rintro e w1 ⟨v, rfl, hv, K⟩
  obtain ⟨h0, E, hE⟩ : ∃ h0 E, spl s = h0 :: E := by
    cases hq : spl s with
    | nil => exact absurd hq (spl_ne s)
    | cons a b => exact ⟨a, b, rfl⟩
  rw [hE] at hv
  have HE0 : Hid (spl s = h0 :: E) := hE
  have hvl := Rw.here hv (by simp)
  obtain ⟨g, cap, rfl, _, hgl, hcap⟩ := hvl
  have hrd := Strs.rd hv
  obtain ⟨g', o', e1, _, hcell⟩ := hrd (by simp)
  obtain ⟨rfl, rfl⟩ : g = g' ∧ 0 = o' := by simpa using e1
  have hc0 : w1.cell? ⟨g, 0, none⟩ = some (.string ⟨h0.toArray⟩) := hcell 0 (by simp)
  have HR : Hid (Rds w1 (some ⟨g, 0 + 1, none⟩) E) := hrd.tail
  have HB1 : Hid (Blk w1 w.heap.size (zer 0).cs ∧ Kept w w1 ∧ g < w1.heap.size) := ⟨HB.out.1.kept K, HB.out.2.trans K, hgl⟩
  have HPl : Hid (∀ q ∈ spl s, q.length ≤ s.length) := piece_len s
  have hEn : E.length ≤ s.length := by
    have := spl_count s
    rw [hE] at this
    simpa using this
  have hcap2 : E.length + 1 ≤ cap := by simpa using hcap
  obtain ⟨ob, hob, hsl⟩ := tail_slice g E.length cap hcap2
  have HR : Hid (Rds w1 (some ⟨g, ob, none⟩) E) := hob _ _ rfl HR.out
  clear hob
  clear hS hv hrd hcell hE K HB e1 hgl hcap
  go_wp2
  go_loopg [5] 18 (fun m v wr => ∃ j : Nat, v = .int .i64 j ∧ 1 ≤ j ∧ j ≤ 19 ∧ m = 19 - j ∧ Hid ((∀ i, 1 ≤ i → i < j → wd i ≠ h0) ∧ wr = w1))
  case atStart => exact ⟨1, rfl, by omega, by omega, rfl, fun i h1 h2 => by omega, rfl⟩
  case round =>
    obtain ⟨j, rfl, hj1, hj2, rfl, hh⟩ := hrel
    obtain ⟨hn, rfl⟩ := hh.out
    have HN : Hid (∀ i, 1 ≤ i → i < j → wd i ≠ h0) := hn
    clear hh hn
    by_cases h : j ≤ 18
    · have hW := fun W => word_any j hj1 h W
      obtain ⟨D, hD⟩ : ∃ D : ByteArray, D = ⟨(wd j).toArray⟩ := ⟨_, rfl⟩
      rw [← hD] at hW
      obtain ⟨H, hH⟩ : ∃ H : ByteArray, H = ⟨h0.toArray⟩ := ⟨_, rfl⟩
      rw [← hH] at hc0
      by_cases he : wd j = h0
      · have hDt : D = H := by rw [hD, hH, he]
        subst hDt
        have HG : Hid (∀ q, Good s q → Fit E j q) := fun q hq => by
          have e1 := hq.fit
          rw [HE0.out] at e1
          injection e1 with e1 e2
          have e3 : j = q.k := wd_inj ⟨hj1, h⟩ ⟨hq.ok.k1, hq.ok.k2⟩ (he.trans e1)
          exact ⟨hq.ok, hq.cz, e3.symm, by rw [e3]; exact e2⟩
        clear hD hH he
        have hR := fun (W : World) (q : Rds W (some ⟨g, ob, none⟩) E) => read_any E j hj1 h (fun q2 hq2 => by
          have := HPl.out q2 (by rw [HE0.out]; exact List.mem_cons_of_mem _ hq2)
          omega) (some ⟨g, ob, none⟩) (cap - 1) (by omega) (by omega) W q
        go_wp2_with (go_at_call 14; refine (hW _).mono ?_; rintro e w' ⟨rfl, rfl⟩)
        refine (hR _ HR.out).mono ?_
        rintro e w2 ⟨p, b, rfl, p1, p2, p3, K⟩
        have HP : Hid (p.Ok ∧ (∀ q, Fit E j q → p = q ∧ b = true)) := ⟨p1, p3⟩
        have HB2 : Hid (Blk w2 w.heap.size (zer 0).cs ∧ Kept w w2) := ⟨HB1.out.1.kept K, HB1.out.2.1.trans K⟩
        clear p1 p2 p3 K hR hW hc0 hsl
        cases b with
        | false =>
          have HE : Hid (¬ ∃ q, Good s q) := fun ⟨q, hq⟩ => by have := (HP.out.2 q (HG.out q hq)).2; cases this
          have B := HB2.out.1
          have q := fun (A : Array Value) (t : TypeId) => B.kept ((Kept.refl w2).alloc A t)
          have g0 := fun A t => (q A t).fz 0
          have g1 := fun A t => (q A t).fz 1
          have g2 := fun A t => (q A t).fz 2
          have g3 := fun A t => (q A t).fz 3
          have g4 := fun A t => (q A t).fz 4
          have g5 := fun A t => (q A t).fz 5
          have d0 := fun A t => (q A t).at 0 rfl
          have d1 := fun A t => (q A t).at 1 rfl
          have d2 := fun A t => (q A t).at 2 rfl
          have d3 := fun A t => (q A t).at 3 rfl
          have d4 := fun A t => (q A t).at 4 rfl
          have d5 := fun A t => (q A t).at 5 rfl
          clear B q
          have HBx : Hid (∀ A t, Blk (w2.alloc (.cells A t)) w.heap.size (zer 0).cs ∧ Kept w (w2.alloc (.cells A t))) := fun A t => ⟨HB2.out.1.kept ((Kept.refl w2).alloc A t), HB2.out.2.trans ((Kept.refl w2).alloc A t)⟩
          go_wp2
          (try simp only [Exit.inBlock, Exit.then])
          exact bodyPost_ret_by (results_blk_tmp (p := 2) (u := 3) rfl _ _ w.heap.size [.int .i64 0, .int .i64 0, .int .i64 0, .int .i64 0, .int .i64 0, .complex .f64 0 0] rfl ((HBx.out _ _).1.six (.int .i64 0) (.int .i64 0) (.int .i64 0) (.int .i64 0) (.int .i64 0) (.complex .f64 0 0)) Tryd.underlying25 (by kernel_rfl)) rfl (ParseA.bad HE.out ((HBx.out _ _).2.six (Nat.le_refl _) (.int .i64 0) (.int .i64 0) (.int .i64 0) (.int .i64 0) (.int .i64 0) (.complex .f64 0 0)))
        | true =>
          have hP := fun W => rprint_any p HP.out.1 W
          obtain ⟨S, hS⟩ : ∃ S : ByteArray, S = ⟨p.prt.toArray⟩ := ⟨_, rfl⟩
          rw [← hS] at hP
          have HS : Hid (S = ⟨p.prt.toArray⟩) := hS
          clear hS
          go_wp2_with fail
          have HB3 : Hid (Blk (w2.alloc (.cells #[.int .i64 (p.k : Int), .int .i64 p.a, .int .i64 p.b, .int .i64 p.c, .int .i64 p.n, .complex .f64 p.x p.y] 25)) w.heap.size (zer 0).cs ∧ Blk (w2.alloc (.cells #[.int .i64 (p.k : Int), .int .i64 p.a, .int .i64 p.b, .int .i64 p.c, .int .i64 p.n, .complex .f64 p.x p.y] 25)) w2.heap.size p.cs ∧ Kept w (w2.alloc (.cells #[.int .i64 (p.k : Int), .int .i64 p.a, .int .i64 p.b, .int .i64 p.c, .int .i64 p.n, .complex .f64 p.x p.y] 25))) := ⟨HB2.out.1.kept ((Kept.refl w2).alloc _ _), Blk.new w2 [.int .i64 (p.k : Int), .int .i64 p.a, .int .i64 p.b, .int .i64 p.c, .int .i64 p.n, .complex .f64 p.x p.y] 25, HB2.out.2.trans ((Kept.refl w2).alloc _ _)⟩
          refine (hP _).mono ?_
          rintro e w4 ⟨rfl, K⟩
          have HB4 : Hid (Blk w4 w.heap.size (zer 0).cs ∧ Blk w4 w2.heap.size p.cs ∧ Kept w w4) := ⟨HB3.out.1.kept K, HB3.out.2.1.kept K, HB3.out.2.2.trans K⟩
          clear K hP HB3
          have B := HB4.out.2.1
          have B1 := HB4.out.1
          have c0 := B.at 0 rfl
          have c1 := B.at 1 rfl
          have c2 := B.at 2 rfl
          have c3 := B.at 3 rfl
          have c4 := B.at 4 rfl
          have c5 := B.at 5 rfl
          have g0 := B1.fz 0
          have g1 := B1.fz 1
          have g2 := B1.fz 2
          have g3 := B1.fz 3
          have g4 := B1.fz 4
          have g5 := B1.fz 5
          have d0 := B1.at 0 rfl
          have d1 := B1.at 1 rfl
          have d2 := B1.at 2 rfl
          have d3 := B1.at 3 rfl
          have d4 := B1.at 4 rfl
          have d5 := B1.at 5 rfl
          clear B B1
          by_cases hps : p.prt = s
          · have hDt : S = t := by rw [HS.out, HT.out, hps]
            subst hDt
            have hg : Good s p.cz := Good.of HP.out.1 hps
            have HE : Hid (Good s p) := by
              have := (HP.out.2 _ (HG.out _ hg)).1
              rw [← this] at hg
              exact hg
            have HU : Hid (∀ q, Good s q → p = q) := fun q hq => (HP.out.2 _ (HG.out q hq)).1
            clear hg hps
            go_wp2
            (try simp only [Exit.inBlock, Exit.then])
            exact bodyPost_ret_by (results_blk_tmp (p := 2) (u := 3) rfl _ _ w.heap.size [.int .i64 (p.k : Int), .int .i64 p.a, .int .i64 p.b, .int .i64 p.c, .int .i64 p.n, .complex .f64 p.x p.y] rfl (HB4.out.1.six (.int .i64 (p.k : Int)) (.int .i64 p.a) (.int .i64 p.b) (.int .i64 p.c) (.int .i64 p.n) (.complex .f64 p.x p.y)) Tryd.underlying25 (by kernel_rfl)) rfl (ParseA.good HE.out HU.out (HB4.out.2.2.six (Nat.le_refl _) (.int .i64 (p.k : Int)) (.int .i64 p.a) (.int .i64 p.b) (.int .i64 p.c) (.int .i64 p.n) (.complex .f64 p.x p.y)))
          · have hDt : (S.toList == t.toList) = false := beq_ne (by
              rw [HS.out, HT.out]
              exact fun q => hps (mk_inj' q))
            have HE : Hid (¬ ∃ q, Good s q) := fun ⟨q, hq⟩ => hps (by rw [(HP.out.2 _ (HG.out q hq)).1]; exact hq.prt)
            clear hps
            go_wp2
            (try simp only [Exit.inBlock, Exit.then])
            exact bodyPost_ret_by (results_blk_tmp (p := 2) (u := 3) rfl _ _ w.heap.size [.int .i64 0, .int .i64 0, .int .i64 0, .int .i64 0, .int .i64 0, .complex .f64 0 0] rfl (HB4.out.1.six (.int .i64 0) (.int .i64 0) (.int .i64 0) (.int .i64 0) (.int .i64 0) (.complex .f64 0 0)) Tryd.underlying25 (by kernel_rfl)) rfl (ParseA.bad HE.out (HB4.out.2.2.six (Nat.le_refl _) (.int .i64 0) (.int .i64 0) (.int .i64 0) (.int .i64 0) (.int .i64 0) (.complex .f64 0 0)))
      · have hDt : (D.toList == H.toList) = false := beq_ne (by
          rw [hD, hH]
          exact fun q => he (mk_inj' q))
        have HE : Hid (∀ i, 1 ≤ i → i < j + 1 → wd i ≠ h0) := fun i h1 h2 => by
          rcases Nat.lt_or_ge i j with q | q
          · exact HN.out i h1 q
          · obtain rfl : i = j := by omega
            exact he
        clear hD hH he
        go_wp2_with (go_at_call 14; refine (hW _).mono ?_; rintro e w' ⟨rfl, rfl⟩)
        go_roundg (19 - (j + 1))
        · exact ⟨j + 1, rfl, by omega, by omega, rfl, HE.out, rfl⟩
        · omega
    · have HE : Hid (¬ ∃ q, Good s q) := fun ⟨q, hq⟩ => by
        have e1 := hq.fit
        rw [HE0.out] at e1
        injection e1 with e1 _
        exact HN.out q.k hq.ok.k1 (by have := hq.ok.k2; omega) e1.symm
      have B1 := HB1.out.1
      have g0 := B1.fz 0
      have g1 := B1.fz 1
      have g2 := B1.fz 2
      have g3 := B1.fz 3
      have g4 := B1.fz 4
      have g5 := B1.fz 5
      have d0 := B1.at 0 rfl
      have d1 := B1.at 1 rfl
      have d2 := B1.at 2 rfl
      have d3 := B1.at 3 rfl
      have d4 := B1.at 4 rfl
      have d5 := B1.at 5 rfl
      clear B1 hc0 hsl
      go_wp2
      (try simp only [Exit.inBlock, Exit.then])
      exact bodyPost_ret_by (results_blk_tmp (p := 2) (u := 3) rfl _ _ w.heap.size [.int .i64 0, .int .i64 0, .int .i64 0, .int .i64 0, .int .i64 0, .complex .f64 0 0] rfl (HB1.out.1.six (.int .i64 0) (.int .i64 0) (.int .i64 0) (.int .i64 0) (.int .i64 0) (.complex .f64 0 0)) Tryd.underlying25 (by kernel_rfl)) rfl (ParseA.bad HE.out (HB1.out.2.1.six (Nat.le_refl _) (.int .i64 0) (.int .i64 0) (.int .i64 0) (.int .i64 0) (.int .i64 0) (.complex .f64 0 0)))
end Go.Proofs.YtfknonhkpilbfaaDoor
