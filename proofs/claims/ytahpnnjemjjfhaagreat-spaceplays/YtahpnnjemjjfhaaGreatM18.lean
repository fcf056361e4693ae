/-
  The modules SpcG, Law21, Plain21, one behind another.
-/
import Derived.Test.YtahpnnjemjjfhaaGreatM14
import Derived.Test.YtahpnnjemjjfhaaGreatM17
/-
  Contracts of package space: Look, Drain.
-/
namespace Go.Proofs.YtahpnnjemjjfhaaGreat
open Go.RowKit

theorem erase_nrm : ∀ (E : List Ent) (i : Nat), (E.eraseIdx i).map Ent.nrm = (E.map Ent.nrm).eraseIdx i
  | [], _ => rfl
  | _ :: _, 0 => rfl
  | e :: E, i + 1 => by simp [erase_nrm E i]

section
variable {c c' : Nat → Nat} {w w' W : World} {A : Ad} {S : Sp}
set_option maxHeartbeats 8000000 in
theorem look_any (t : Int) (w : World) (h : SH w c A S) {kb : Nat} (hk : S.Bd kb) (hkb : kb ≤ 50000) :
    Calls Tryz.prog 47 #[.pointer (some ⟨A.b, 0, none⟩), .int .i64 t] w fun e w' => ∃ x d, e = .returned (.agg #[.int .i64 (S.lookG t).st, .slice x (S.lookG t).G.length d, .int .i64 (S.lookG t).at_]) ∧
      Rdi w' x (S.lookG t).G ∧ (∀ g o, x = some ⟨g, o, none⟩ → w.heap.size ≤ g) ∧ ∃ c', SH w' c' A (S.look t) ∧ Stp c w c' w' := by
  have HS : Hid (SH w c A S) := h
  have HK : Hid (S.Bd kb ∧ kb ≤ 50000) := ⟨hk, hkb⟩
  have hct : 0 ≤ S.ct ∧ S.ct ≤ 50000 := ⟨hk.c0, by have := hk.c1; omega⟩
  have k0 : Kept w (w.alloc (.cells #[.int .i64 0, .slice none 0 0, .int .i64 0] 71)) := (Kept.refl w).alloc _ _
  have c15 := (h.kept k0).head.blk.at 15 rfl
  have f15 := (h.kept k0).head.blk.fz 15
  have c2a := (h.kept k0).head.blk.at 2 rfl
  have z0 : A.b ≠ w.heap.size := by have := h.low A.b (by rw [h.cb]; decide); omega
  clear k0
  have HA : Hid (S.look t = match S.of t with
    | none => S.tick
    | some e => if e.st == 0 then S.tick else S.tick.dropE t) := rfl
  have HG : Hid (S.lookG t = match S.of t with
    | none => ⟨3, [], -1⟩
    | some e => if e.st == 0 then ⟨0, [], -1⟩ else if e.st == 1 then ⟨1, e.G, e.pl⟩ else ⟨e.st, [], -1⟩) := rfl
  obtain ⟨h0, h1⟩ := hct
  clear h hk hkb
  go_enter Tryz.func47, Tryz.ntmps47
  go_wp2_with fail
  generalize hW : World.setCell _ _ _ = W
  have HB : Hid (Blk W w.heap.size [.int .i64 0, .slice none 0 0, .int .i64 0] ∧ SH W c A S.tick ∧ Stp c w c W ∧ W.heap.size = w.heap.size + 1 ∧ ∀ k, w.heap.size ≤ k → c k = 0) := by
    rw [← hW]
    have k1 : Kept w (w.alloc (.cells #[.int .i64 0, .slice none 0 0, .int .i64 0] 71)) := (Kept.refl w).alloc _ _
    have s1 := HS.out.kept k1
    have m : Mut [A.b] (w.alloc (.cells #[.int .i64 0, .slice none 0 0, .int .i64 0] 71)) ((w.alloc (.cells #[.int .i64 0, .slice none 0 0, .int .i64 0] 71)).setCell ⟨A.b, 15, none⟩ (.int .i64 (S.ct + 1))) := (Mut.refl _ _).setCell (by simp) _
    exact ⟨(Blk.new w _ _).set_other z0 _, s1.ticks, (Stp.kept k1).trans (s1.stph m), by simp [World.setCell], fun k hk => HS.out.new hk⟩
  clear hW c15 f15 c2a
  have z1 : Hid (c w.heap.size = 0) := HB.out.2.2.2.2 _ (Nat.le_refl _)
  obtain ⟨lv, E, l1, l2, l3⟩ := HB.out.2.1.line
  have CO := lof_any t W l1
  simp only [Ent.agg] at CO
  have HOF : S.of t = (E.find? fun e => e.th == t).map Ent.nrm := by
    unfold Sp.of
    rw [show S.E = E.map Ent.nrm from l2.symm, find_nrm _ (fun _ => rfl)]
  have HL : Hid (LTab W 0 A.lb lv E ∧ E.map Ent.nrm = S.E ∧ ∀ k, k ∈ foot A.lb lv E → c k = 3) := ⟨l1, l2, l3⟩
  clear l1 l2 l3
  cases hf : E.find? (fun e => e.th == t) with
  | none =>
    rw [hf] at CO HOF
    simp only [told, Option.getD_none, none7, Option.isSome_none] at CO
    rw [HOF] at HA HG
    simp only [Option.map_none] at HA HG
    clear hf HOF HL
    refine CO.mono ?_
    rintro e w2 ⟨y, d, rfl, _, _, k2⟩
    have H2 : Hid (Blk w2 w.heap.size [.int .i64 0, .slice none 0 0, .int .i64 0] ∧ SH w2 c A S.tick ∧ Stp c w c w2) := ⟨HB.out.1.kept k2, HB.out.2.1.kept k2, HB.out.2.2.1.trans (Stp.kept k2)⟩
    clear k2 CO
    go_wp2_with fail
    generalize hW2 : w2.alloc _ = W2
    have H3 : Hid (Blk W2 w.heap.size [.int .i64 0, .slice none 0 0, .int .i64 0] ∧ SH W2 c A S.tick ∧ Stp c w c W2) := by
      have k3 : Kept w2 W2 := by rw [← hW2]; exact (Kept.refl w2).alloc _ _
      exact ⟨H2.out.1.kept k3, H2.out.2.1.kept k3, H2.out.2.2.trans (Stp.kept k3)⟩
    clear hW2
    refine (without_any 3 W2).mono ?_
    rintro e w3 ⟨rfl, k3⟩
    have H4 : Hid (Blk w3 w.heap.size [.int .i64 0, .slice none 0 0, .int .i64 0] ∧ SH w3 c A S.tick ∧ Stp c w c w3) := ⟨H3.out.1.kept k3, H3.out.2.1.kept k3, H3.out.2.2.trans (Stp.kept k3)⟩
    clear k3
    have b0 := H4.out.1.at 0 rfl
    have b1 := H4.out.1.at 1 rfl
    have b2 := H4.out.1.at 2 rfl
    have bf := H4.out.1.fz
    go_wp2
    (try simp only [Exit.inBlock, Exit.then])
    obtain ⟨g1, g2, g3, _⟩ := grant_end (x := none) (G := []) (.int .i64 3) (.slice none 0 0) (.int .i64 (-1)) H4.out.1 H4.out.2.1 H4.out.2.2 z1.out (Nat.le_refl _) Rdi.nil (fun _ _ e => by cases e)
    exact bodyPost_ret_by (results_blk rfl _ _ w.heap.size [_, _, _] rfl g1 Tryz.underlying71 (by kernel_rfl)) rfl ⟨none, 0, by rw [HG.out] <;> rfl, by rw [HG.out]; exact Rdi.nil, (fun _ _ e => by cases e), c, by rw [HA.out]; exact g2, g3⟩
  | some e0 =>
    rw [hf] at CO HOF
    simp only [told, Option.getD_some, Option.isSome_some] at CO
    rw [HOF] at HA HG
    simp only [Option.map_some] at HA HG
    rw [show e0.nrm.st = e0.st from rfl] at HA HG
    rw [show e0.nrm.G = e0.G from rfl, show e0.nrm.pl = e0.pl from rfl] at HG
    have HI : Hid (∃ i : Nat, i < E.length ∧ idx (fun e => e.th == t) E = (i : Int)) := by
      rcases idx_cases (fun e => e.th == t) E with ⟨_, q, _⟩ | ⟨i, hi, q1, _⟩
      · rw [q] at hf; cases hf
      · exact ⟨i, hi, q1⟩
    have HSH : Hid (e0.G.length ≤ 100000) := HL.out.1.ens.short e0 (List.mem_of_find?_eq_some hf)
    clear hf HOF
    refine CO.mono ?_
    rintro e w2 ⟨y, d, rfl, r2, f2, k2⟩
    have H2 : Hid (Blk w2 w.heap.size [.int .i64 0, .slice none 0 0, .int .i64 0] ∧ SH w2 c A S.tick ∧ Stp c w c w2) := ⟨HB.out.1.kept k2, HB.out.2.1.kept k2, HB.out.2.2.1.trans (Stp.kept k2)⟩
    have HY : Hid (Rdi w2 y e0.G ∧ (∀ g o, y = some ⟨g, o, none⟩ → W.heap.size ≤ g) ∧ Kept W w2) := ⟨r2, f2, k2⟩
    clear k2 CO r2 f2
    by_cases hs : e0.st = 0
    · rw [hs] at HA HG
      simp only [beq_self_eq_true, if_true] at HA HG
      rw [hs]
      clear hs
      go_wp2_with fail
      generalize hW2 : w2.alloc _ = W2
      have H3 : Hid (Blk W2 w.heap.size [.int .i64 0, .slice none 0 0, .int .i64 0] ∧ SH W2 c A S.tick ∧ Stp c w c W2) := by
        have k3 : Kept w2 W2 := by rw [← hW2]; exact (Kept.refl w2).alloc _ _
        exact ⟨H2.out.1.kept k3, H2.out.2.1.kept k3, H2.out.2.2.trans (Stp.kept k3)⟩
      clear hW2
      refine (without_any 0 W2).mono ?_
      rintro e w3 ⟨rfl, k3⟩
      have H4 : Hid (Blk w3 w.heap.size [.int .i64 0, .slice none 0 0, .int .i64 0] ∧ SH w3 c A S.tick ∧ Stp c w c w3) := ⟨H3.out.1.kept k3, H3.out.2.1.kept k3, H3.out.2.2.trans (Stp.kept k3)⟩
      clear k3
      have b0 := H4.out.1.at 0 rfl
      have b1 := H4.out.1.at 1 rfl
      have b2 := H4.out.1.at 2 rfl
      have bf := H4.out.1.fz
      go_wp2
      (try simp only [Exit.inBlock, Exit.then])
      obtain ⟨g1, g2, g3, _⟩ := grant_end (x := none) (G := []) (.int .i64 0) (.slice none 0 0) (.int .i64 (-1)) H4.out.1 H4.out.2.1 H4.out.2.2 z1.out (Nat.le_refl _) Rdi.nil (fun _ _ e => by cases e)
      exact bodyPost_ret_by (results_blk rfl _ _ w.heap.size [_, _, _] rfl g1 Tryz.underlying71 (by kernel_rfl)) rfl ⟨none, 0, by rw [HG.out] <;> rfl, by rw [HG.out]; exact Rdi.nil, (fun _ _ e => by cases e), c, by rw [HA.out]; exact g2, g3⟩
    · have q0 : (e0.st == 0) = false := by simpa using hs
      rw [q0] at HA HG
      simp only [Bool.false_eq_true, if_false] at HA HG
      clear q0
      obtain ⟨i, hi, hix⟩ := HI.out
      have c2 := H2.out.2.1.head.blk.at 2 rfl
      have n2 : A.b ≠ w2.heap.size := by have := H2.out.2.1.head.lt; omega
      have c2b : ∀ C, (w2.alloc C).cell? ⟨A.b, 2, none⟩ = some (.pointer (some ⟨A.lb, 0, none⟩)) := fun C => (World.cell?_of_block (w := w2) (heap_alloc_old w2 C H2.out.2.1.head.lt)).trans c2
      go_wp2_with fail
      generalize hW2 : w2.alloc _ = W2
      have H3 : Hid (Blk W2 w.heap.size [.int .i64 0, .slice none 0 0, .int .i64 0] ∧ SH W2 c A S.tick ∧ Stp c w c W2) := by
        have k3 : Kept w2 W2 := by rw [← hW2]; exact (Kept.refl w2).alloc _ _
        exact ⟨H2.out.1.kept k3, H2.out.2.1.kept k3, H2.out.2.2.trans (Stp.kept k3)⟩
      have HR : Hid (Blk W2 w2.heap.size [.int .i64 e0.th, .int .i64 e0.fr, .int .i64 e0.sp, .int .i64 e0.st, .int .i64 e0.cy, .int .i64 e0.pl, .slice y e0.G.length d] ∧ w.heap.size + 1 ≤ w2.heap.size ∧ Kept w2 W2) := by
        refine ⟨by rw [← hW2]; exact Blk.new w2 _ _, ?_, by rw [← hW2]; exact (Kept.refl w2).alloc _ _⟩
        have := HY.out.2.2.size
        have := HB.out.2.2.2.1
        omega
      clear hW2 c2 c2b n2
      have LL := HL.out.1.kept (HY.out.2.2.trans HR.out.2.2)
      refine (ldrop_yes (t := t) W2 LL hi hix).mono ?_
      rintro e w3 ⟨rfl, v', t3, m3, f3⟩
      have H3a := SH.lines H3.out.2.1 HL.out.2.2 t3 m3 (fun k hk => mem_foot.2 (by
        rcases List.mem_cons.1 hk with q | q
        · exact .inl q
        · exact .inr (.inl (by simpa using q)))) f3
      have h5 : ∃ c3, (∀ k, w.heap.size ≤ k → k < W2.heap.size → c3 k = 0) ∧ SH w3 c3 A (S.tick.dropE t) ∧ Stp c W2 c3 w3 := by
        refine ⟨_, fun k h1 h2 => (H3a.2.same k h2).trans (HB.out.2.2.2.2 k h1), ?_, H3a.2⟩
        have e1 : S.tick.dropE t = { S.tick with E := (E.eraseIdx i).map Ent.nrm } := by
          unfold Sp.dropE
          rw [show S.tick.E = E.map Ent.nrm from HL.out.2.1.symm, idx_nrm _ (fun _ => rfl), hix, Int.toNat_natCast, erase_nrm]
        rw [e1]
        exact H3a.1
      clear H3a t3 m3 f3 LL
      obtain ⟨c3, z3, s3, p3⟩ := h5
      have H5 : Hid (c3 w.heap.size = 0 ∧ Blk w3 w.heap.size [.int .i64 0, .slice none 0 0, .int .i64 0] ∧ SH w3 c3 A (S.tick.dropE t) ∧ Stp c w c3 w3 ∧ Blk w3 w2.heap.size [.int .i64 e0.th, .int .i64 e0.fr, .int .i64 e0.sp, .int .i64 e0.st, .int .i64 e0.cy, .int .i64 e0.pl, .slice y e0.G.length d] ∧ Rdi w3 y e0.G) := by
        have q1 := HR.out.1.lt
        have q2 := HR.out.2.1
        refine ⟨z3 _ (Nat.le_refl _) (by omega), p3.blk H3.out.1 z1.out, s3, H3.out.2.2.trans p3, p3.blk HR.out.1 (HB.out.2.2.2.2 _ (by omega)), p3.rdi (HY.out.1.kept HR.out.2.2) fun g o e => ?_⟩
        have := HY.out.2.1 g o e
        have := HB.out.2.2.2.1
        exact HB.out.2.2.2.2 g (by omega)
      clear z3 s3 p3
      have r3 := H5.out.2.2.2.2.1.at 3 rfl
      by_cases hs1 : e0.st = 1
      · rw [hs1] at HG r3
        simp only [beq_self_eq_true, if_true] at HG
        have r5 := H5.out.2.2.2.2.1.at 5 rfl
        have r6 := H5.out.2.2.2.2.1.at 6 rfl
        clear hs hs1
        generalize hp : e0.pl = pl at *
        generalize hG0 : e0.G = G at *
        go_wp2_with fail
        refine (granted_any (x := y) (l := G.length) (d := d) pl w3).mono ?_
        rintro e w4 ⟨rfl, k4⟩
        have H4 : Hid (Blk w4 w.heap.size [.int .i64 0, .slice none 0 0, .int .i64 0] ∧ SH w4 c3 A (S.tick.dropE t) ∧ Stp c w c3 w4 ∧ Rdi w4 y G) := ⟨H5.out.2.1.kept k4, H5.out.2.2.1.kept k4, H5.out.2.2.2.1.trans (Stp.kept k4), H5.out.2.2.2.2.2.kept k4⟩
        clear k4 r3 r5 r6
        have b0 := H4.out.1.at 0 rfl
        have b1 := H4.out.1.at 1 rfl
        have b2 := H4.out.1.at 2 rfl
        have bf := H4.out.1.fz
        go_wp2
        (try simp only [Exit.inBlock, Exit.then])
        obtain ⟨g1, g2, g3, g4⟩ := grant_end (x := y) (G := G) (.int .i64 1) (.slice y G.length d) (.int .i64 pl) H4.out.1 H4.out.2.1 H4.out.2.2.1 H5.out.1 (Nat.le_refl _) H4.out.2.2.2 (fun g o e => by have := HY.out.2.1 g o e; have := HB.out.2.2.2.1; omega)
        exact bodyPost_ret_by (results_blk rfl _ _ w.heap.size [_, _, _] rfl g1 Tryz.underlying71 (by kernel_rfl)) rfl ⟨y, d, by rw [HG.out] <;> rfl, by rw [HG.out]; exact g4, (fun g o e => by have := HY.out.2.1 g o e; have := HB.out.2.2.2.1; omega), c3, by rw [HA.out]; exact g2, g3⟩
      · have q0 : (e0.st == 1) = false := by simpa using hs1
        rw [q0] at HG
        simp only [Bool.false_eq_true, if_false] at HG
        clear q0 hs
        generalize hst : e0.st = st at *
        go_wp2_with fail
        refine (without_any st w3).mono ?_
        rintro e w4 ⟨rfl, k4⟩
        have H4 : Hid (Blk w4 w.heap.size [.int .i64 0, .slice none 0 0, .int .i64 0] ∧ SH w4 c3 A (S.tick.dropE t) ∧ Stp c w c3 w4) := ⟨H5.out.2.1.kept k4, H5.out.2.2.1.kept k4, H5.out.2.2.2.1.trans (Stp.kept k4)⟩
        clear k4 r3
        have b0 := H4.out.1.at 0 rfl
        have b1 := H4.out.1.at 1 rfl
        have b2 := H4.out.1.at 2 rfl
        have bf := H4.out.1.fz
        go_wp2
        (try simp only [Exit.inBlock, Exit.then])
        obtain ⟨g1, g2, g3, g4⟩ := grant_end (x := none) (G := []) (.int .i64 st) (.slice none 0 0) (.int .i64 (-1)) H4.out.1 H4.out.2.1 H4.out.2.2 H5.out.1 (Nat.le_refl _) Rdi.nil (fun _ _ e => by cases e)
        exact bodyPost_ret_by (results_blk rfl _ _ w.heap.size [_, _, _] rfl g1 Tryz.underlying71 (by kernel_rfl)) rfl ⟨none, 0, by rw [HG.out] <;> rfl, by rw [HG.out]; exact Rdi.nil, (fun _ _ e => by cases e), c3, by rw [HA.out]; exact g2, g3⟩

set_option maxHeartbeats 4000000 in
theorem drain_any (t : Int) (w : World) (h : SH w c A S) {kb : Nat} (hk : S.Bd kb) (hkb : kb ≤ 50000) :
    Calls Tryz.prog 49 #[.pointer (some ⟨A.b, 0, none⟩), .int .i64 t] w fun e w' => e = .returned (.int .i64 (S.drainN t)) ∧ ∃ c', SH w' c' A (S.drain t) ∧ Stp c w c' w' := by
  have HS : Hid (SH w c A S) := h
  have HK : Hid (S.Bd kb ∧ kb ≤ 50000) := ⟨hk, hkb⟩
  have hct : 0 ≤ S.ct ∧ S.ct ≤ 50000 := ⟨hk.c0, by have := hk.c1; omega⟩
  have c15 := h.head.blk.at 15 rfl
  have f15 := h.head.blk.fz 15
  have HW : Hid (∀ W, w.setCell ⟨A.b, 15, none⟩ (.int .i64 (S.ct + 1)) = W → SH W c A S.tick ∧ Stp c w c W) := fun W hW => by
    rw [← hW]
    exact ⟨h.ticks, h.stph ((Mut.refl _ _).setCell (by simp) _)⟩
  obtain ⟨h0, h1⟩ := hct
  clear h hk hkb
  have HN : Hid (S.drainN t = if S.isT t then ((S.Q t.toNat).length : Int) else 0) := rfl
  have HA : Hid (S.drain t = if S.isT t then ({ S.tick with Q := fun j => if j = t.toNat then [] else S.Q j } : Sp).fres (S.Q t.toNat) else S.tick) := rfl
  go_enter Tryz.func49, Tryz.ntmps49
  go_wp2_with fail
  generalize hW : World.setCell _ _ _ = W
  have HB : Hid (SH W c A S.tick ∧ Stp c w c W) := HW.out W hW
  clear hW HW c15 f15
  have CI := isThread_any t W HB.out.1
  rw [show S.tick.isT t = S.isT t from rfl] at CI
  refine CI.mono ?_
  rintro e w1 ⟨rfl, e1⟩
  rw [e1]
  clear e1 CI
  cases hi : S.isT t
  · rw [hi] at HN HA
    simp only [Bool.false_eq_true, if_false] at HN HA
    clear hi
    go_wp2
    go_ret
    exact ⟨by rw [HN.out] <;> rfl, c, by rw [HA.out]; exact HB.out⟩
  · rw [hi] at HN HA
    simp only [if_true] at HN HA
    obtain ⟨i, rfl, hi2⟩ : ∃ i : Nat, t = i ∧ i < S.m := by
      simp only [Sp.isT, decide_eq_true_eq] at hi
      exact ⟨t.toNat, by omega, by omega⟩
    simp only [Int.toNat_natCast] at HN HA
    clear hi
    have hm16 : S.m ≤ 16 := HB.out.1.few
    have c13 := HB.out.1.head.blk.at 13 rfl
    have cq := HB.out.1.row.cell hi2
    obtain ⟨v, s1, s2, s3⟩ := HB.out.1.stk i hi2
    rw [show S.tick.Q i = S.Q i from rfl] at s1
    have CD := sdrain_any W s1
    generalize hQ : S.Q i = Q at *
    have HQ : Hid (S.Q i = Q) := hQ
    clear hQ
    have HQ8 : Q.length ≤ 8 := by have := s1.few; have := s1.max; omega
    have HL : Hid (Lst W 0 v Q ∧ (∀ k, v.ownBlock = some k → c k = 10 + i) ∧ c (A.q i) = 10 + i ∧ v.ownBlock ≠ some (A.q i)) := ⟨s1.lst, s3, s2, s1.ne⟩
    go_wp2_with fail
    refine CD.mono ?_
    rintro e w2 ⟨rfl, t2, m2⟩
    have H2a := SH.stks HB.out.1 hi2 s2 s3 t2 m2 (fun k hk => by simp at hk; simp [hk]) (fun k hk => by simp [Value.ownBlock] at hk)
    obtain ⟨c2, h2⟩ : ∃ c2, SH w2 c2 A { S.tick with Q := fun j => if j = i then [] else S.Q j } ∧ Stp c W c2 w2 := ⟨_, H2a⟩
    have H2 : Hid (SH w2 c2 A { S.tick with Q := fun j => if j = i then [] else S.Q j } ∧ Stp c w c2 w2 ∧ Lst w2 0 v Q ∧ ∀ k, v.ownBlock = some k → c2 k = 10 + i) :=
      ⟨h2.1, HB.out.2.trans h2.2, HL.out.1.muts m2 (fun k hk q => HL.out.2.2.2 (by simp at q; rw [hk, q])), fun k hk => (h2.2.same k (HL.out.1.lt k hk).2).trans (HL.out.2.1 k hk)⟩
    obtain ⟨x, d, rfl⟩ := HL.out.1.form
    clear H2a h2 t2 m2 s1 s2 s3 CD c13 cq HL
    obtain ⟨S2, hS2⟩ : ∃ S2 : Sp, S2 = { S.tick with Q := fun j => if j = i then [] else S.Q j } := ⟨_, rfl⟩
    rw [← hS2] at H2 HA
    clear hS2
    go_wp2
    go_loopg [29] Q.length (fun m q wr => ∃ k : Nat, q = .int .i64 k ∧ k ≤ Q.length ∧ m = Q.length - k ∧ Hid (SH wr c2 A (S2.fres (Q.take k)) ∧ Stp c w c2 wr ∧ Lst wr 0 (.slice x Q.length d) Q))
    case atStart => exact ⟨0, rfl, by omega, by omega, H2.out.1, H2.out.2.1, H2.out.2.2.1⟩
    case round =>
      obtain ⟨k, rfl, hk, hm, hw⟩ := hrel
      have HM : Hid _ := hm
      clear hm
      by_cases hlt : k < Q.length
      · obtain ⟨g, o, rfl, hgl, hc⟩ := hw.out.2.2.rdi (by omega)
        have a0 := hc k hlt
        have hst : Hid ((S2.fres (Q.take k)).fre Q[k] = S2.fres (Q.take (k + 1))) := fres_take hlt
        have CF := wfree_any Q[k] wr hw.out.1
        clear hc
        have b0 := hw.out.1.head.blk.at 0 rfl
        have b1 := hw.out.1.head.blk.at 1 rfl
        have b2 := hw.out.1.head.blk.at 2 rfl
        have b3 := hw.out.1.head.blk.at 3 rfl
        have b4 := hw.out.1.head.blk.at 4 rfl
        have b5 := hw.out.1.head.blk.at 5 rfl
        have b6 := hw.out.1.head.blk.at 6 rfl
        have b7 := hw.out.1.head.blk.at 7 rfl
        have b8 := hw.out.1.head.blk.at 8 rfl
        have b9 := hw.out.1.head.blk.at 9 rfl
        have b10 := hw.out.1.head.blk.at 10 rfl
        have b11 := hw.out.1.head.blk.at 11 rfl
        have b12 := hw.out.1.head.blk.at 12 rfl
        generalize Q[k] = z at *
        go_wp2_with fail
        refine CF.mono ?_
        rintro e w3 ⟨rfl, s3, p3, m3⟩
        have H3 : Hid (SH w3 c2 A (S2.fres (Q.take (k + 1))) ∧ Stp c w c2 w3 ∧ Lst w3 0 (.slice (some ⟨g, o, none⟩) Q.length d) Q) := by
          rw [← hst.out]
          refine ⟨s3, hw.out.2.1.trans p3, hw.out.2.2.muts m3 fun k hk q => ?_⟩
          have h1 := H2.out.2.2.2 k hk
          have h2 := hw.out.1.ctg
          have h3 := hw.out.1.cpg
          simp only [List.mem_cons, List.not_mem_nil, or_false] at q
          rcases q with q | q
          · rw [q, h2] at h1; omega
          · rw [q, h3] at h1; omega
        clear s3 p3 m3 b0 b1 b2 b3 b4 b5 b6 b7 b8 b9 b10 b11 b12 a0 CF hw hst
        go_wp2
        go_roundg (gk - 1)
        all_goals (have := HM.out; try omega)
        exact ⟨k + 1, by go_num, by omega, by omega, H3⟩
      · obtain rfl : k = Q.length := by omega
        have e1 : Q.take Q.length = Q := List.take_length
        rw [e1] at hw
        have HF : Hid (SH wr c2 A (S2.fres Q) ∧ Stp c w c2 wr) := ⟨hw.out.1, hw.out.2.1⟩
        clear hw
        go_wp2
        go_ret
        exact ⟨by rw [HN.out] <;> rfl, c2, by rw [HA.out]; exact HF.out⟩
end
end Go.Proofs.YtahpnnjemjjfhaaGreat

/-
  A space of the law's own; the laws' own made, first.
-/
namespace Go.Proofs.YtahpnnjemjjfhaaGreat
open Go.RowKit

/-- A space that came behind world w0. -/
structure Mys (w0 w : World) (c : Nat → Nat) (A : Ad) (S : Sp) : Prop where
  sh : SH w c A S
  kept : Kept w0 w
  new : ∀ k, c k ≠ 0 → w0.heap.size ≤ k
section
variable {w0 w w' : World} {c c' : Nat → Nat} {A : Ad} {S S' : Sp}
theorem Mys.step (h : Mys w0 w c A S) (s : SH w' c' A S') (p : Stp c w c' w') : Mys w0 w' c' A S' :=
  ⟨s, h.kept.muts p.mu fun k hk => h.new k (mem_cols.1 hk).2, fun k hk => by
    by_cases e : k < w.heap.size
    · rw [p.same k e] at hk; exact h.new k hk
    · have := h.kept.size; omega⟩
theorem Mys.keep (h : Mys w0 w c A S) (k : Kept w w') : Mys w0 w' c A S := ⟨h.sh.kept k, h.kept.trans k, h.new⟩
/-- What bears no colour and came behind was written. -/
theorem Mys.own {D : List Nat} (h : Mys w0 w c A S) (m : Mut D w w') (hd : ∀ k, k ∈ D → c k = 0 ∧ w0.heap.size ≤ k) : Mys w0 w' c A S :=
  ⟨h.sh.muts m fun k hk => (hd k hk).1, h.kept.muts m fun k hk => (hd k hk).2, h.new⟩
end

set_option maxHeartbeats 2000000 in
theorem made_any (n s m ch : Nat) (n2 n4 n6 n7 : Int) (x : Option Addr) (l c : Nat) (S : Nat → Sh) (R : Nat → Nat → Bool) (w : World) (hS : Shps w x l S) (hR : ∀ i, i < l → Refs w (S i).x (S i).l (R i)) (hg : Good n s n2 m n4 ch n6 n7 l S) :
    Calls Tryz.prog 29 #[.agg #[.int .i64 (n : Int), .int .i64 (s : Int), .int .i64 n2, .int .i64 (m : Int), .int .i64 n4, .int .i64 (ch : Int), .int .i64 n6, .int .i64 n7, .slice x l c]] w fun e w' =>
      ∃ A c', e = .returned (.tuple #[.pointer (some ⟨A.b, 0, none⟩), .pointer (some ⟨A.tb, 0, none⟩)]) ∧ Mys w w' c' A (Sp.new n s m ch) ∧ A.C.n7 = n7 := by
  have HSR : Hid (Shps w x l S ∧ ∀ i, i < l → Refs w (S i).x (S i).l (R i)) := ⟨hS, hR⟩
  have HG : Hid (Good n s n2 m n4 ch n6 n7 l S) := hg
  have hn : n ≤ 1024 := by have := hg.1.1; omega
  clear hS hR hg
  go_enter Tryz.func29, Tryz.ntmps29
  go_wp2_with fail
  generalize hW : w.alloc _ = W0
  have H0 : Hid (Blk W0 w.heap.size [.int .i64 (n : Int), .int .i64 (s : Int), .int .i64 n2, .int .i64 (m : Int), .int .i64 n4, .int .i64 (ch : Int), .int .i64 n6, .int .i64 n7, .slice x l c] ∧ Kept w W0) := by
    rw [← hW]
    exact ⟨Blk.new w _ _, (Kept.refl w).alloc _ _⟩
  clear hW
  have b0 := H0.out.1.at 0 rfl
  have CT := tnew_any n W0 hn
  go_wp2_with fail
  refine CT.mono ?_
  rintro e w1 ⟨tb, tg, rfl, t1, n1, n2', k1⟩
  have H1 : Hid (Blk w1 w.heap.size [.int .i64 (n : Int), .int .i64 (s : Int), .int .i64 n2, .int .i64 (m : Int), .int .i64 n4, .int .i64 (ch : Int), .int .i64 n6, .int .i64 n7, .slice x l c] ∧ Kept w w1 ∧ Tab w1 tb tg n T0 ∧ w.heap.size ≤ tb ∧ w.heap.size ≤ tg) :=
    ⟨H0.out.1.kept k1, H0.out.2.trans k1, t1, by have := H0.out.2.size; omega, by have := H0.out.2.size; omega⟩
  clear b0 CT t1 n1 n2' k1 H0
  have b0 := H1.out.1.at 0 rfl
  have b1 := H1.out.1.at 1 rfl
  have b2 := H1.out.1.at 2 rfl
  have b3 := H1.out.1.at 3 rfl
  have b4 := H1.out.1.at 4 rfl
  have b5 := H1.out.1.at 5 rfl
  have b6 := H1.out.1.at 6 rfl
  have b7 := H1.out.1.at 7 rfl
  have b8 := H1.out.1.at 8 rfl
  have CN := wnew_any n s m ch n2 n4 n6 n7 x l c S R tb tg T0 w1 H1.out.2.2.1 (HSR.out.1.kept H1.out.2.1) (fun i hi => (HSR.out.2 i hi).kept H1.out.2.1) HG.out
  go_wp2_with fail
  refine CN.mono ?_
  rintro e w2 ⟨A, c2, rfl, s2, rfl, rfl, e7, low2, m2⟩
  have H2 : Hid (Mys w w2 c2 A (Sp.new n s m ch) ∧ A.C.n7 = n7) := by
    have z := H1.out.2.1.size
    refine ⟨⟨s2, H1.out.2.1.muts m2 fun k hk => ?_, fun k hk => ?_⟩, e7⟩
    · simp at hk; rw [hk]; exact H1.out.2.2.2.2
    · rcases low2 k hk with e | e | e
      · rw [e]; exact H1.out.2.2.2.1
      · rw [e]; exact H1.out.2.2.2.2
      · omega
  clear b0 b1 b2 b3 b4 b5 b6 b7 b8 CN s2 e7 low2 m2 H1
  go_wp2_with fail
  refine (wcoil_any w2 H2.out.1.sh).mono ?_
  rintro e w3 ⟨rfl, e3⟩
  rw [e3]
  clear e3
  go_wp2
  go_ret2
  exact ⟨A, c2, rfl, H2.out⟩

theorem field_gr (a b c : Value) (W : World) : (Instr.field 71 (.agg #[a, b, c]) 0).run Tryz.prog W = .ok a W := by kernel_rfl
/-- One shape without fields. -/
def S1 : Nat → Sh := fun _ => ⟨false, none, 0, 0⟩
theorem shps1 {w : World} {b : Nat} (h : Blk w b [.bool false, .slice none 0 0]) : Shps w (some ⟨b, 0, none⟩) 1 S1 := fun _ => ⟨b, 0, rfl, h.lt, fun i hi => by
  obtain rfl : i = 0 := by omega
  exact ⟨h.at 0 rfl, h.at 1 rfl⟩⟩
theorem refs1 {w : World} (i : Nat) : Refs w (S1 i).x (S1 i).l (fun _ => false) := fun h => by simp [S1] at h

theorem bd_new (n s m ch k : Nat) : (Sp.new n s m ch).Bd k := ⟨by simp [Sp.new], by simp [Sp.new], by simp [Sp.new], fun e he => by simp [Sp.new] at he, fun e he => by simp [Sp.new] at he⟩

theorem rdi_alloc (w : World) (L : List Int) : Rdi (w.alloc (.cells (L.map (Value.int .i64)).toArray 3)) (some ⟨w.heap.size, 0, none⟩) L := fun _ =>
  ⟨w.heap.size, 0, rfl, by simp, fun j hj => by simp [hj]⟩

set_option maxHeartbeats 4000000 in
theorem first_any (w : World) : Calls Tryz.prog 4 #[] w fun e w' => e = .returned (.bool true) ∧ Kept w w' := by
  go_enter Tryz.func4, Tryz.ntmps4
  go_wp2_with fail
  generalize hW : World.alloc _ _ = W
  have H0 : Hid (Kept w W ∧ Shps W (some ⟨w.heap.size, 0, none⟩) 1 S1) := by
    rw [← hW]
    have k1 : Kept w (w.alloc (.cells #[.bool false, .slice none 0 0] 67)) := (Kept.refl w).alloc _ _
    refine ⟨k1.alloc _ _, (shps1 ?_).kept ((Kept.refl _).alloc _ _)⟩
    exact Blk.new w _ _
  clear hW
  have CM := made_any 4 0 1 0 0 1 1 0 (some ⟨w.heap.size, 0, none⟩) 1 1 S1 (fun _ _ => false) W H0.out.2 (fun i _ => refs1 i) (by
    refine ⟨?_, ?_⟩
    · unfold Fits; decide
    · refine ⟨by decide, by decide, fun i hi => rfl⟩)
  go_wp2_with fail
  refine CM.mono ?_
  rintro e w1 ⟨A, c, rfl, m1, _⟩
  have H1 : Hid (Mys W w1 c A (Sp.new 4 0 1 0)) := m1
  have K0 : Hid (Kept w W) := H0.out.1
  clear m1 CM H0
  have CA := ask_any 0 1 0 true w1 H1.out.sh (bd_new 4 0 1 0 0) (by omega)
  have hG : (Sp.new 4 0 1 0).askG 0 1 0 = ⟨1, [3], -1⟩ := by kernel_rfl
  rw [hG] at CA
  obtain ⟨S2, hS2⟩ : ∃ S2, S2 = (Sp.new 4 0 1 0).ask 0 1 0 true := ⟨_, rfl⟩
  have HC : Hid (S2.ct = 1 ∧ stt S2.n S2.T 3 = 2 ∧ hdd S2.n S2.T 3 = false) := by
    rw [hS2]
    exact ⟨by kernel_rfl, by kernel_rfl, by kernel_rfl⟩
  rw [← hS2] at CA
  clear hS2 hG
  go_wp2_with fail
  refine CA.mono ?_
  rintro e w2 ⟨x, d, rfl, r2, n2, c2, s2, p2⟩
  have H2 : Hid (Mys W w2 c2 A S2 ∧ Rdi w2 x [3]) := ⟨H1.out.step s2 p2, r2⟩
  clear CA H1 r2 n2 s2 p2
  go_wp2_with fail
  generalize hW3 : World.alloc _ _ = W3
  have H3 : Hid (Mys W W3 c2 A S2 ∧ Blk W3 w2.heap.size [.int .i64 1, .slice x [3].length d, .int .i64 (-1)] ∧ Rdi W3 x [3] ∧ Rdi W3 (some ⟨w2.heap.size + 1, 0, none⟩) [3]) := by
    rw [← hW3]
    have k1 : Kept w2 (w2.alloc (.cells #[.int .i64 1, .slice x [3].length d, .int .i64 (-1)] 71)) := (Kept.refl w2).alloc _ _
    refine ⟨(H2.out.1.keep k1).keep ((Kept.refl _).alloc _ _), ((Blk.new w2 [.int .i64 1, .slice x [3].length d, .int .i64 (-1)] _)).kept ((Kept.refl _).alloc _ _), (H2.out.2.kept k1).kept ((Kept.refl _).alloc _ _), ?_⟩
    have := rdi_alloc (w2.alloc (.cells #[.int .i64 1, .slice x [3].length d, .int .i64 (-1)] 71)) [3]
    simpa using this
  clear hW3 H2
  refine (ints_any (x := x) (y := some ⟨w2.heap.size + 1, 0, none⟩) (c := d) (d := 1) (T := [3]) W3 (by decide) H3.out.2.2.1 H3.out.2.2.2).mono ?_
  rintro e w4 ⟨rfl, k4⟩
  have H4 : Hid (Mys W w4 c2 A S2 ∧ Blk w4 w2.heap.size [.int .i64 1, .slice x [3].length d, .int .i64 (-1)]) := ⟨H3.out.1.keep k4, H3.out.2.1.kept k4⟩
  clear k4 H3
  have b2 := H4.out.2.at 2 rfl
  have CC := wcount_any w4 H4.out.1.sh
  rw [HC.out.1] at CC
  go_wp2_with fail
  refine CC.mono ?_
  rintro e w5 ⟨rfl, e5⟩
  rw [e5]
  clear e5 CC b2
  have CS := tstate_any 3 w4 H4.out.1.sh.tab
  rw [HC.out.2.1] at CS
  go_wp2_with fail
  refine CS.mono ?_
  rintro e w5 ⟨rfl, e5⟩
  rw [e5]
  clear e5 CS
  have CH := thead_any 3 w4 H4.out.1.sh.tab
  rw [HC.out.2.2] at CH
  go_wp2_with fail
  refine CH.mono ?_
  rintro e w5 ⟨rfl, e5⟩
  rw [e5]
  clear e5 CH
  go_wp2
  go_ret
  exact ⟨rfl, K0.out.trans H4.out.1.kept⟩

end Go.Proofs.YtahpnnjemjjfhaaGreat

/-
  A space as plain values: what the laws ask of it.
-/
namespace Go.Proofs.YtahpnnjemjjfhaaGreat
open Go.RowKit

section
variable {c : Nat → Nat} {w : World} {A : Ad} {S : Sp}
/-- The table and the pool, alike below n. -/
theorem SH.like (h : SH w c A S) {T : Nat → Fr} {F : Nat → Bool} (hT : ∀ j, j < S.n → S.T j = T j) (hF : ∀ j, j < S.n → S.F j = F j) : SH w c A { S with T := T, F := F } :=
  ⟨h.head, ⟨h.tab.head, h.tab.row.congr fun j hj => by
    have := hT (j / 3) (by omega)
    simp only [fc, this], h.tab.few⟩, h.pool.congr hF, h.line, h.coil, h.row, h.stk, h.shp, h.shc, h.good, h.n0, h.n1, h.ctb, h.ctg, h.cpb, h.cpg, h.ckb, h.cb, h.csb, h.few, h.low⟩
end

/-- Alike, as far as one can see. -/
structure Eqv (S S' : Sp) : Prop where
  n : S.n = S'.n
  T : ∀ j, j < S.n → S.T j = S'.T j
  F : ∀ j, j < S.n → S.F j = S'.F j
  E : S.E = S'.E
  K : S.K = S'.K
  m : S.m = S'.m
  most : S.most = S'.most
  Q : ∀ i, i < S.m → S.Q i = S'.Q i
  fo : S.fo = S'.fo
  ct : S.ct = S'.ct
theorem SH.eqv {c : Nat → Nat} {w : World} {A : Ad} {S S' : Sp} (h : SH w c A S) (e : Eqv S S') : SH w c A S' := by
  obtain ⟨n', T', F', E', K', m', most', Q', fo', ct'⟩ := S'
  obtain ⟨e1, e2, e3, e4, e5, e6, e7, e8, e9, e10⟩ := e
  simp only at *
  subst e1 e4 e5 e6 e7 e9 e10
  have h2 := h.like e2 e3
  exact ⟨h2.head, h2.tab, h2.pool, h2.line, h2.coil, h2.row, fun i hi => by
    obtain ⟨v, s1, s2⟩ := h2.stk i hi
    refine ⟨v, ?_, s2⟩
    have e : S.Q i = Q' i := e8 i hi
    show STab _ w 0 (A.q i) S.most v (Q' i)
    rw [← e]
    exact s1, h2.shp, h2.shc, h2.good, h2.n0, h2.n1, h2.ctb, h2.ctg, h2.cpb, h2.cpg, h2.ckb, h2.cb, h2.csb, h2.few, h2.low⟩

/-- Set one after another: each of L has the state z. -/
theorem useT_at {n : Nat} {z : Int} {se : Bool} (hz : isSt z = true) : ∀ (L : List Int) (T : Nat → Fr) {j : Nat}, j < n → useT n z se T L j = if (j : Int) ∈ L then ⟨z, false, se⟩ else T j
  | [], T, j, _ => by simp [useT]
  | x :: L, T, j, hj => by
    have ih := useT_at (se := se) hz L (setT n T x z false se) hj
    rw [show useT n z se T (x :: L) = useT n z se (setT n T x z false se) L from rfl, ih]
    by_cases h1 : (j : Int) ∈ L
    · simp [h1]
    · by_cases h2 : (j : Int) = x
      · subst h2
        have h3 : inn n (j : Int) = true := tinn_of hj
        simp [h1, setT, h3, hz]
      · have h4 : ¬ (j : Int) ∈ x :: L := by simp [h1, h2]
        rw [if_neg h1, if_neg h4]
        unfold setT
        split
        · rename_i hi
          simp only [Bool.and_eq_true] at hi
          obtain ⟨k, rfl, hk⟩ := tinn_iff hi.1
          have : j ≠ k := fun q => h2 (by rw [q])
          simp [this]
        · rfl

theorem setT_at {n k : Nat} {z : Int} {se : Bool} {T : Nat → Fr} (hz : isSt z = true) (hk : k < n) (j : Nat) : setT n T (k : Int) z false se j = if j = k then ⟨z, false, se⟩ else T j := by
  have h1 : inn n (k : Int) = true := tinn_of hk
  unfold setT
  rw [h1, hz]
  simp
theorem giveF_at {n k : Nat} {F : Nat → Bool} (hk : k < n) (hf : F k = false) (j : Nat) : giveF n F (k : Int) j = if j = k then true else F j := by
  have h1 : inn n (k : Int) = true := tinn_of hk
  have h2 : giveB n F (k : Int) = true := by unfold giveB; rw [h1, Int.toNat_natCast, hf]; rfl
  unfold giveF
  rw [if_pos h2, Int.toNat_natCast]
  rfl
theorem cntB_drop {F : Nat → Bool} {L : List Nat} : ∀ {n : Nat}, L.Nodup → (∀ x ∈ L, x < n ∧ F x = true) → cntB (dropF F L) n + L.length = cntB F n := by
  induction L generalizing F with
  | nil => intro n _ _; simp [dropF_nil]
  | cons x L ih =>
    intro n hn hm
    obtain ⟨h1, h2⟩ := List.nodup_cons.1 hn
    obtain ⟨hx, hfx⟩ := hm x (by simp)
    have e : dropF F (x :: L) = dropF (setB F x false) L := by
      funext j
      by_cases q : j = x
      · subst q; simp [dropF, setB]
      · simp [dropF, setB, q]
    have hs : ∀ y ∈ L, y < n ∧ setB F x false y = true := fun y hy => by
      have := hm y (by simp [hy])
      have hne : y ≠ x := fun q => h1 (q ▸ hy)
      exact ⟨this.1, by rw [setB_other F false hne]; exact this.2⟩
    have := ih (F := setB F x false) (n := n) h2 hs
    have e2 : setB (setB F x false) x true = F := by
      funext j
      by_cases q : j = x
      · subst q; simp [setB, hfx]
      · simp [setB, q]
    have := cntB_set_true (F := setB F x false) (i := x) (by simp [setB]) hx
    rw [e2] at this
    rw [e, List.length_cons]
    omega

theorem freeU_nodup (F : Nat → Bool) (a : Nat) : ∀ n, (freeU F a n).Nodup
  | 0 => List.nodup_nil
  | n + 1 => by
    rw [freeU, List.nodup_append]
    refine ⟨freeU_nodup F a n, by split <;> simp, fun x hx y hy => ?_⟩
    have := (freeU_mem.1 hx).2.1
    split at hy
    · simp at hy; omega
    · simp at hy
/-- What is taken: free ones, each once. -/
theorem takeL_ok {n : Nat} {F : Nat → Bool} {k : Int} (h : takeB n F k = true) : (takeL n F k).Nodup ∧ (∀ x ∈ takeL n F k, x < n ∧ F x = true) ∧ (takeL n F k).length = k.toNat := by
  refine ⟨?_, ?_, takeL_len h⟩
  · rw [takeL, if_pos h]
    cases runO n F k with
    | some a => exact List.nodup_range'
    | none => exact (freeU_nodup F 0 n).sublist (List.take_sublist _ _)
  · intro x hx
    rw [takeL, if_pos h] at hx
    cases hr : runO n F k with
    | some a =>
      rw [hr] at hx
      obtain ⟨m, rfl, h1, h2, h3, _⟩ := runO_inv hr
      simp only [Int.toNat_natCast, List.mem_range'_1] at hx
      refine ⟨by omega, ?_⟩
      have := h3 (x - a) (by omega)
      rwa [show a + (x - a) = x by omega] at this
    | none =>
      rw [hr] at hx
      have := freeU_mem.1 (List.mem_of_mem_take hx)
      exact ⟨this.2.1, this.2.2⟩
theorem lowL_ok {n : Nat} {F : Nat → Bool} {k : Int} : (lowL n F k).Nodup ∧ (∀ x ∈ lowL n F k, x < n ∧ F x = true) ∧ (lowL n F k).length = min k.toNat (cntB F n) := by
  refine ⟨(freeU_nodup F 0 n).sublist (List.take_sublist _ _), fun x hx => ?_, lowL_len n F k⟩
  have := freeU_mem.1 (List.mem_of_mem_take hx)
  exact ⟨this.2.1, this.2.2⟩

/-- Granted at once, out of what is free, without a spine. -/
theorem ask_now {S : Sp} {t fr : Int} (se : Bool) (hm : S.may t fr 0 = true) (hq : ((S.Q t.toNat).length : Int) < fr) (hw : (wts S.E).length = 0) (hc : fr ≤ (cntB S.F S.n : Int)) :
    S.askG t fr 0 = ⟨1, takeZ S.n S.F fr, -1⟩ ∧ S.ask t fr 0 se = (S.tick.tk fr 0 se).fill t.toNat := by
  have h1 : decide (fr ≤ ((S.Q t.toNat).length : Int)) = false := by simp; omega
  have h2 : fitsB S fr 0 = true := by simp [fitsB]; omega
  constructor
  · unfold Sp.askG
    rw [if_pos hm, h1, hw, h2]
    simp [Sp.tkA]
  · unfold Sp.ask
    rw [if_pos hm, h1, hw, h2]
    simp
/-- Nothing is kept: nothing is filled. -/
theorem fill_none {S : Sp} {i : Nat} (h : ((S.Q i).length : Int) = S.most) : Eqv (S.fill i) S := by
  have e : S.lw i = [] := by
    unfold Sp.lw lowL
    rw [h]
    simp
  have e2 : S.lwZ i = [] := by unfold Sp.lwZ; rw [e]; rfl
  refine ⟨rfl, fun j _ => ?_, fun j _ => ?_, rfl, rfl, rfl, rfl, fun j _ => ?_, rfl, rfl⟩
  · unfold Sp.fill; rw [e2]; rfl
  · unfold Sp.fill; rw [e, dropF_nil]
  · unfold Sp.fill
    rw [e2]
    by_cases q : j = i
    · subst q; simp
    · simp [q]
theorem Eqv.trans {S S' S'' : Sp} (h : Eqv S S') (k : Eqv S' S'') : Eqv S S'' :=
  ⟨h.n.trans k.n, fun j hj => (h.T j hj).trans (k.T j (h.n ▸ hj)), fun j hj => (h.F j hj).trans (k.F j (h.n ▸ hj)), h.E.trans k.E, h.K.trans k.K, h.m.trans k.m, h.most.trans k.most, fun i hi => (h.Q i hi).trans (k.Q i (h.m ▸ hi)), h.fo.trans k.fo, h.ct.trans k.ct⟩
end Go.Proofs.YtahpnnjemjjfhaaGreat

