/-
  Contracts of package space: Look, Drain.
-/
import Derived.Test.YtahpnnjemjjfhaaSpcF
namespace Go.Proofs.Ytahpnnjemjjfhaa
open Go.RowKit

theorem erase_nrm : ∀ (E : List Ent) (i : Nat), (E.eraseIdx i).map Ent.nrm = (E.map Ent.nrm).eraseIdx i
  | [], _ => rfl
  | _ :: _, 0 => rfl
  | e :: E, i + 1 => by simp [erase_nrm E i]

section
variable {c c' : Nat → Nat} {w w' W : World} {A : Ad} {S : Sp}
set_option maxHeartbeats 8000000 in
theorem look_any (t : Int) (w : World) (h : SH w c A S) {kb : Nat} (hk : S.Bd kb) (hkb : kb ≤ 50000) :
    Calls Try.prog 17 #[.pointer (some ⟨A.b, 0, none⟩), .int .i64 t] w fun e w' => ∃ x d, e = .returned (.agg #[.int .i64 (S.lookG t).st, .slice x (S.lookG t).G.length d, .int .i64 (S.lookG t).at_]) ∧
      Rdi w' x (S.lookG t).G ∧ (∀ g o, x = some ⟨g, o, none⟩ → w.heap.size ≤ g) ∧ ∃ c', SH w' c' A (S.look t) ∧ Stp c w c' w' := by
  have HS : Hid (SH w c A S) := h
  have HK : Hid (S.Bd kb ∧ kb ≤ 50000) := ⟨hk, hkb⟩
  have hct : 0 ≤ S.ct ∧ S.ct ≤ 50000 := ⟨hk.c0, by have := hk.c1; omega⟩
  have k0 : Kept w (w.alloc (.cells #[.int .i64 0, .slice none 0 0, .int .i64 0] 40)) := (Kept.refl w).alloc _ _
  have c15 := (h.kept k0).head.blk.at 15 rfl
  have f15 := (h.kept k0).head.blk.fz 15
  have c2a := (h.kept k0).head.blk.at 2 rfl
  have z0 : A.b ≠ w.heap.size := by have := h.low A.b (by rw [h.cb]; decide); omega
  clear k0
  have HA : Hid (S.look t = match S.of t with
    | none => S.tick
    | some e => if e.st == 0 then S.tick else S.tick.dropE t) := rfl
  have HG : Hid (S.lookG t = match S.of t with
    | none => ⟨3, [], -1⟩
    | some e => if e.st == 0 then ⟨0, [], -1⟩ else if e.st == 1 then ⟨1, e.G, e.pl⟩ else ⟨e.st, [], -1⟩) := rfl
  obtain ⟨h0, h1⟩ := hct
  clear h hk hkb
  go_enter Try.func17, Try.ntmps17
  go_wp2_with fail
  generalize hW : World.setCell _ _ _ = W
  have HB : Hid (Blk W w.heap.size [.int .i64 0, .slice none 0 0, .int .i64 0] ∧ SH W c A S.tick ∧ Stp c w c W ∧ W.heap.size = w.heap.size + 1 ∧ ∀ k, w.heap.size ≤ k → c k = 0) := by
    rw [← hW]
    have k1 : Kept w (w.alloc (.cells #[.int .i64 0, .slice none 0 0, .int .i64 0] 40)) := (Kept.refl w).alloc _ _
    have s1 := HS.out.kept k1
    have m : Mut [A.b] (w.alloc (.cells #[.int .i64 0, .slice none 0 0, .int .i64 0] 40)) ((w.alloc (.cells #[.int .i64 0, .slice none 0 0, .int .i64 0] 40)).setCell ⟨A.b, 15, none⟩ (.int .i64 (S.ct + 1))) := (Mut.refl _ _).setCell (by simp) _
    exact ⟨(Blk.new w _ _).set_other z0 _, s1.ticks, (Stp.kept k1).trans (s1.stph m), by simp [World.setCell], fun k hk => HS.out.new hk⟩
  clear hW c15 f15 c2a
  have z1 : Hid (c w.heap.size = 0) := HB.out.2.2.2.2 _ (Nat.le_refl _)
  obtain ⟨lv, E, l1, l2, l3⟩ := HB.out.2.1.line
  have CO := lof_any t W l1
  simp only [Ent.agg] at CO
  have HOF : S.of t = (E.find? fun e => e.th == t).map Ent.nrm := by
    unfold Sp.of
    rw [show S.E = E.map Ent.nrm from l2.symm, find_nrm _ (fun _ => rfl)]
  have HL : Hid (LTab W 0 A.lb lv E ∧ E.map Ent.nrm = S.E ∧ ∀ k, k ∈ foot A.lb lv E → c k = 3) := ⟨l1, l2, l3⟩
  clear l1 l2 l3
  cases hf : E.find? (fun e => e.th == t) with
  | none =>
    rw [hf] at CO HOF
    simp only [told, Option.getD_none, none7, Option.isSome_none] at CO
    rw [HOF] at HA HG
    simp only [Option.map_none] at HA HG
    clear hf HOF HL
    refine CO.mono ?_
    rintro e w2 ⟨y, d, rfl, _, _, k2⟩
    have H2 : Hid (Blk w2 w.heap.size [.int .i64 0, .slice none 0 0, .int .i64 0] ∧ SH w2 c A S.tick ∧ Stp c w c w2) := ⟨HB.out.1.kept k2, HB.out.2.1.kept k2, HB.out.2.2.1.trans (Stp.kept k2)⟩
    clear k2 CO
    go_wp2_with fail
    generalize hW2 : w2.alloc _ = W2
    have H3 : Hid (Blk W2 w.heap.size [.int .i64 0, .slice none 0 0, .int .i64 0] ∧ SH W2 c A S.tick ∧ Stp c w c W2) := by
      have k3 : Kept w2 W2 := by rw [← hW2]; exact (Kept.refl w2).alloc _ _
      exact ⟨H2.out.1.kept k3, H2.out.2.1.kept k3, H2.out.2.2.trans (Stp.kept k3)⟩
    clear hW2
    refine (without_any 3 W2).mono ?_
    rintro e w3 ⟨rfl, k3⟩
    have H4 : Hid (Blk w3 w.heap.size [.int .i64 0, .slice none 0 0, .int .i64 0] ∧ SH w3 c A S.tick ∧ Stp c w c w3) := ⟨H3.out.1.kept k3, H3.out.2.1.kept k3, H3.out.2.2.trans (Stp.kept k3)⟩
    clear k3
    have b0 := H4.out.1.at 0 rfl
    have b1 := H4.out.1.at 1 rfl
    have b2 := H4.out.1.at 2 rfl
    have bf := H4.out.1.fz
    go_wp2
    (try simp only [Exit.inBlock, Exit.then])
    obtain ⟨g1, g2, g3, _⟩ := grant_end (x := none) (G := []) (.int .i64 3) (.slice none 0 0) (.int .i64 (-1)) H4.out.1 H4.out.2.1 H4.out.2.2 z1.out (Nat.le_refl _) Rdi.nil (fun _ _ e => by cases e)
    exact bodyPost_ret_by (results_blk rfl _ _ w.heap.size [_, _, _] rfl g1 Try.underlying40 (by kernel_rfl)) rfl ⟨none, 0, by rw [HG.out] <;> rfl, by rw [HG.out]; exact Rdi.nil, (fun _ _ e => by cases e), c, by rw [HA.out]; exact g2, g3⟩
  | some e0 =>
    rw [hf] at CO HOF
    simp only [told, Option.getD_some, Option.isSome_some] at CO
    rw [HOF] at HA HG
    simp only [Option.map_some] at HA HG
    rw [show e0.nrm.st = e0.st from rfl] at HA HG
    rw [show e0.nrm.G = e0.G from rfl, show e0.nrm.pl = e0.pl from rfl] at HG
    have HI : Hid (∃ i : Nat, i < E.length ∧ idx (fun e => e.th == t) E = (i : Int)) := by
      rcases idx_cases (fun e => e.th == t) E with ⟨_, q, _⟩ | ⟨i, hi, q1, _⟩
      · rw [q] at hf; cases hf
      · exact ⟨i, hi, q1⟩
    have HSH : Hid (e0.G.length ≤ 100000) := HL.out.1.ens.short e0 (List.mem_of_find?_eq_some hf)
    clear hf HOF
    refine CO.mono ?_
    rintro e w2 ⟨y, d, rfl, r2, f2, k2⟩
    have H2 : Hid (Blk w2 w.heap.size [.int .i64 0, .slice none 0 0, .int .i64 0] ∧ SH w2 c A S.tick ∧ Stp c w c w2) := ⟨HB.out.1.kept k2, HB.out.2.1.kept k2, HB.out.2.2.1.trans (Stp.kept k2)⟩
    have HY : Hid (Rdi w2 y e0.G ∧ (∀ g o, y = some ⟨g, o, none⟩ → W.heap.size ≤ g) ∧ Kept W w2) := ⟨r2, f2, k2⟩
    clear k2 CO r2 f2
    by_cases hs : e0.st = 0
    · rw [hs] at HA HG
      simp only [beq_self_eq_true, if_true] at HA HG
      rw [hs]
      clear hs
      go_wp2_with fail
      generalize hW2 : w2.alloc _ = W2
      have H3 : Hid (Blk W2 w.heap.size [.int .i64 0, .slice none 0 0, .int .i64 0] ∧ SH W2 c A S.tick ∧ Stp c w c W2) := by
        have k3 : Kept w2 W2 := by rw [← hW2]; exact (Kept.refl w2).alloc _ _
        exact ⟨H2.out.1.kept k3, H2.out.2.1.kept k3, H2.out.2.2.trans (Stp.kept k3)⟩
      clear hW2
      refine (without_any 0 W2).mono ?_
      rintro e w3 ⟨rfl, k3⟩
      have H4 : Hid (Blk w3 w.heap.size [.int .i64 0, .slice none 0 0, .int .i64 0] ∧ SH w3 c A S.tick ∧ Stp c w c w3) := ⟨H3.out.1.kept k3, H3.out.2.1.kept k3, H3.out.2.2.trans (Stp.kept k3)⟩
      clear k3
      have b0 := H4.out.1.at 0 rfl
      have b1 := H4.out.1.at 1 rfl
      have b2 := H4.out.1.at 2 rfl
      have bf := H4.out.1.fz
      go_wp2
      (try simp only [Exit.inBlock, Exit.then])
      obtain ⟨g1, g2, g3, _⟩ := grant_end (x := none) (G := []) (.int .i64 0) (.slice none 0 0) (.int .i64 (-1)) H4.out.1 H4.out.2.1 H4.out.2.2 z1.out (Nat.le_refl _) Rdi.nil (fun _ _ e => by cases e)
      exact bodyPost_ret_by (results_blk rfl _ _ w.heap.size [_, _, _] rfl g1 Try.underlying40 (by kernel_rfl)) rfl ⟨none, 0, by rw [HG.out] <;> rfl, by rw [HG.out]; exact Rdi.nil, (fun _ _ e => by cases e), c, by rw [HA.out]; exact g2, g3⟩
    · have q0 : (e0.st == 0) = false := by simpa using hs
      rw [q0] at HA HG
      simp only [Bool.false_eq_true, if_false] at HA HG
      clear q0
      obtain ⟨i, hi, hix⟩ := HI.out
      have c2 := H2.out.2.1.head.blk.at 2 rfl
      have n2 : A.b ≠ w2.heap.size := by have := H2.out.2.1.head.lt; omega
      have c2b : ∀ C, (w2.alloc C).cell? ⟨A.b, 2, none⟩ = some (.pointer (some ⟨A.lb, 0, none⟩)) := fun C => (World.cell?_of_block (w := w2) (heap_alloc_old w2 C H2.out.2.1.head.lt)).trans c2
      go_wp2_with fail
      generalize hW2 : w2.alloc _ = W2
      have H3 : Hid (Blk W2 w.heap.size [.int .i64 0, .slice none 0 0, .int .i64 0] ∧ SH W2 c A S.tick ∧ Stp c w c W2) := by
        have k3 : Kept w2 W2 := by rw [← hW2]; exact (Kept.refl w2).alloc _ _
        exact ⟨H2.out.1.kept k3, H2.out.2.1.kept k3, H2.out.2.2.trans (Stp.kept k3)⟩
      have HR : Hid (Blk W2 w2.heap.size [.int .i64 e0.th, .int .i64 e0.fr, .int .i64 e0.sp, .int .i64 e0.st, .int .i64 e0.cy, .int .i64 e0.pl, .slice y e0.G.length d] ∧ w.heap.size + 1 ≤ w2.heap.size ∧ Kept w2 W2) := by
        refine ⟨by rw [← hW2]; exact Blk.new w2 _ _, ?_, by rw [← hW2]; exact (Kept.refl w2).alloc _ _⟩
        have := HY.out.2.2.size
        have := HB.out.2.2.2.1
        omega
      clear hW2 c2 c2b n2
      have LL := HL.out.1.kept (HY.out.2.2.trans HR.out.2.2)
      refine (ldrop_yes (t := t) W2 LL hi hix).mono ?_
      rintro e w3 ⟨rfl, v', t3, m3, f3⟩
      have H3a := SH.lines H3.out.2.1 HL.out.2.2 t3 m3 (fun k hk => mem_foot.2 (by
        rcases List.mem_cons.1 hk with q | q
        · exact .inl q
        · exact .inr (.inl (by simpa using q)))) f3
      have h5 : ∃ c3, (∀ k, w.heap.size ≤ k → k < W2.heap.size → c3 k = 0) ∧ SH w3 c3 A (S.tick.dropE t) ∧ Stp c W2 c3 w3 := by
        refine ⟨_, fun k h1 h2 => (H3a.2.same k h2).trans (HB.out.2.2.2.2 k h1), ?_, H3a.2⟩
        have e1 : S.tick.dropE t = { S.tick with E := (E.eraseIdx i).map Ent.nrm } := by
          unfold Sp.dropE
          rw [show S.tick.E = E.map Ent.nrm from HL.out.2.1.symm, idx_nrm _ (fun _ => rfl), hix, Int.toNat_natCast, erase_nrm]
        rw [e1]
        exact H3a.1
      clear H3a t3 m3 f3 LL
      obtain ⟨c3, z3, s3, p3⟩ := h5
      have H5 : Hid (c3 w.heap.size = 0 ∧ Blk w3 w.heap.size [.int .i64 0, .slice none 0 0, .int .i64 0] ∧ SH w3 c3 A (S.tick.dropE t) ∧ Stp c w c3 w3 ∧ Blk w3 w2.heap.size [.int .i64 e0.th, .int .i64 e0.fr, .int .i64 e0.sp, .int .i64 e0.st, .int .i64 e0.cy, .int .i64 e0.pl, .slice y e0.G.length d] ∧ Rdi w3 y e0.G) := by
        have q1 := HR.out.1.lt
        have q2 := HR.out.2.1
        refine ⟨z3 _ (Nat.le_refl _) (by omega), p3.blk H3.out.1 z1.out, s3, H3.out.2.2.trans p3, p3.blk HR.out.1 (HB.out.2.2.2.2 _ (by omega)), p3.rdi (HY.out.1.kept HR.out.2.2) fun g o e => ?_⟩
        have := HY.out.2.1 g o e
        have := HB.out.2.2.2.1
        exact HB.out.2.2.2.2 g (by omega)
      clear z3 s3 p3
      have r3 := H5.out.2.2.2.2.1.at 3 rfl
      by_cases hs1 : e0.st = 1
      · rw [hs1] at HG r3
        simp only [beq_self_eq_true, if_true] at HG
        have r5 := H5.out.2.2.2.2.1.at 5 rfl
        have r6 := H5.out.2.2.2.2.1.at 6 rfl
        clear hs hs1
        generalize hp : e0.pl = pl at *
        generalize hG0 : e0.G = G at *
        go_wp2_with fail
        refine (granted_any (x := y) (l := G.length) (d := d) pl w3).mono ?_
        rintro e w4 ⟨rfl, k4⟩
        have H4 : Hid (Blk w4 w.heap.size [.int .i64 0, .slice none 0 0, .int .i64 0] ∧ SH w4 c3 A (S.tick.dropE t) ∧ Stp c w c3 w4 ∧ Rdi w4 y G) := ⟨H5.out.2.1.kept k4, H5.out.2.2.1.kept k4, H5.out.2.2.2.1.trans (Stp.kept k4), H5.out.2.2.2.2.2.kept k4⟩
        clear k4 r3 r5 r6
        have b0 := H4.out.1.at 0 rfl
        have b1 := H4.out.1.at 1 rfl
        have b2 := H4.out.1.at 2 rfl
        have bf := H4.out.1.fz
        go_wp2
        (try simp only [Exit.inBlock, Exit.then])
        obtain ⟨g1, g2, g3, g4⟩ := grant_end (x := y) (G := G) (.int .i64 1) (.slice y G.length d) (.int .i64 pl) H4.out.1 H4.out.2.1 H4.out.2.2.1 H5.out.1 (Nat.le_refl _) H4.out.2.2.2 (fun g o e => by have := HY.out.2.1 g o e; have := HB.out.2.2.2.1; omega)
        exact bodyPost_ret_by (results_blk rfl _ _ w.heap.size [_, _, _] rfl g1 Try.underlying40 (by kernel_rfl)) rfl ⟨y, d, by rw [HG.out] <;> rfl, by rw [HG.out]; exact g4, (fun g o e => by have := HY.out.2.1 g o e; have := HB.out.2.2.2.1; omega), c3, by rw [HA.out]; exact g2, g3⟩
      · have q0 : (e0.st == 1) = false := by simpa using hs1
        rw [q0] at HG
        simp only [Bool.false_eq_true, if_false] at HG
        clear q0 hs
        generalize hst : e0.st = st at *
        go_wp2_with fail
        refine (without_any st w3).mono ?_
        rintro e w4 ⟨rfl, k4⟩
        have H4 : Hid (Blk w4 w.heap.size [.int .i64 0, .slice none 0 0, .int .i64 0] ∧ SH w4 c3 A (S.tick.dropE t) ∧ Stp c w c3 w4) := ⟨H5.out.2.1.kept k4, H5.out.2.2.1.kept k4, H5.out.2.2.2.1.trans (Stp.kept k4)⟩
        clear k4 r3
        have b0 := H4.out.1.at 0 rfl
        have b1 := H4.out.1.at 1 rfl
        have b2 := H4.out.1.at 2 rfl
        have bf := H4.out.1.fz
        go_wp2
        (try simp only [Exit.inBlock, Exit.then])
        obtain ⟨g1, g2, g3, g4⟩ := grant_end (x := none) (G := []) (.int .i64 st) (.slice none 0 0) (.int .i64 (-1)) H4.out.1 H4.out.2.1 H4.out.2.2 H5.out.1 (Nat.le_refl _) Rdi.nil (fun _ _ e => by cases e)
        exact bodyPost_ret_by (results_blk rfl _ _ w.heap.size [_, _, _] rfl g1 Try.underlying40 (by kernel_rfl)) rfl ⟨none, 0, by rw [HG.out] <;> rfl, by rw [HG.out]; exact Rdi.nil, (fun _ _ e => by cases e), c3, by rw [HA.out]; exact g2, g3⟩

set_option maxHeartbeats 4000000 in
theorem drain_any (t : Int) (w : World) (h : SH w c A S) {kb : Nat} (hk : S.Bd kb) (hkb : kb ≤ 50000) :
    Calls Try.prog 18 #[.pointer (some ⟨A.b, 0, none⟩), .int .i64 t] w fun e w' => e = .returned (.int .i64 (S.drainN t)) ∧ ∃ c', SH w' c' A (S.drain t) ∧ Stp c w c' w' := by
  have HS : Hid (SH w c A S) := h
  have HK : Hid (S.Bd kb ∧ kb ≤ 50000) := ⟨hk, hkb⟩
  have hct : 0 ≤ S.ct ∧ S.ct ≤ 50000 := ⟨hk.c0, by have := hk.c1; omega⟩
  have c15 := h.head.blk.at 15 rfl
  have f15 := h.head.blk.fz 15
  have HW : Hid (∀ W, w.setCell ⟨A.b, 15, none⟩ (.int .i64 (S.ct + 1)) = W → SH W c A S.tick ∧ Stp c w c W) := fun W hW => by
    rw [← hW]
    exact ⟨h.ticks, h.stph ((Mut.refl _ _).setCell (by simp) _)⟩
  obtain ⟨h0, h1⟩ := hct
  clear h hk hkb
  have HN : Hid (S.drainN t = if S.isT t then ((S.Q t.toNat).length : Int) else 0) := rfl
  have HA : Hid (S.drain t = if S.isT t then ({ S.tick with Q := fun j => if j = t.toNat then [] else S.Q j } : Sp).fres (S.Q t.toNat) else S.tick) := rfl
  go_enter Try.func18, Try.ntmps18
  go_wp2_with fail
  generalize hW : World.setCell _ _ _ = W
  have HB : Hid (SH W c A S.tick ∧ Stp c w c W) := HW.out W hW
  clear hW HW c15 f15
  have CI := isThread_any t W HB.out.1
  rw [show S.tick.isT t = S.isT t from rfl] at CI
  refine CI.mono ?_
  rintro e w1 ⟨rfl, e1⟩
  rw [e1]
  clear e1 CI
  cases hi : S.isT t
  · rw [hi] at HN HA
    simp only [Bool.false_eq_true, if_false] at HN HA
    clear hi
    go_wp2
    go_ret
    exact ⟨by rw [HN.out] <;> rfl, c, by rw [HA.out]; exact HB.out⟩
  · rw [hi] at HN HA
    simp only [if_true] at HN HA
    obtain ⟨i, rfl, hi2⟩ : ∃ i : Nat, t = i ∧ i < S.m := by
      simp only [Sp.isT, decide_eq_true_eq] at hi
      exact ⟨t.toNat, by omega, by omega⟩
    simp only [Int.toNat_natCast] at HN HA
    clear hi
    have hm16 : S.m ≤ 16 := HB.out.1.few
    have c13 := HB.out.1.head.blk.at 13 rfl
    have cq := HB.out.1.row.cell hi2
    obtain ⟨v, s1, s2, s3⟩ := HB.out.1.stk i hi2
    rw [show S.tick.Q i = S.Q i from rfl] at s1
    have CD := sdrain_any W s1
    generalize hQ : S.Q i = Q at *
    have HQ : Hid (S.Q i = Q) := hQ
    clear hQ
    have HQ8 : Q.length ≤ 8 := by have := s1.few; have := s1.max; omega
    have HL : Hid (Lst W 0 v Q ∧ (∀ k, v.ownBlock = some k → c k = 10 + i) ∧ c (A.q i) = 10 + i ∧ v.ownBlock ≠ some (A.q i)) := ⟨s1.lst, s3, s2, s1.ne⟩
    go_wp2_with fail
    refine CD.mono ?_
    rintro e w2 ⟨rfl, t2, m2⟩
    have H2a := SH.stks HB.out.1 hi2 s2 s3 t2 m2 (fun k hk => by simp at hk; simp [hk]) (fun k hk => by simp [Value.ownBlock] at hk)
    obtain ⟨c2, h2⟩ : ∃ c2, SH w2 c2 A { S.tick with Q := fun j => if j = i then [] else S.Q j } ∧ Stp c W c2 w2 := ⟨_, H2a⟩
    have H2 : Hid (SH w2 c2 A { S.tick with Q := fun j => if j = i then [] else S.Q j } ∧ Stp c w c2 w2 ∧ Lst w2 0 v Q ∧ ∀ k, v.ownBlock = some k → c2 k = 10 + i) :=
      ⟨h2.1, HB.out.2.trans h2.2, HL.out.1.muts m2 (fun k hk q => HL.out.2.2.2 (by simp at q; rw [hk, q])), fun k hk => (h2.2.same k (HL.out.1.lt k hk).2).trans (HL.out.2.1 k hk)⟩
    obtain ⟨x, d, rfl⟩ := HL.out.1.form
    clear H2a h2 t2 m2 s1 s2 s3 CD c13 cq HL
    obtain ⟨S2, hS2⟩ : ∃ S2 : Sp, S2 = { S.tick with Q := fun j => if j = i then [] else S.Q j } := ⟨_, rfl⟩
    rw [← hS2] at H2 HA
    clear hS2
    go_wp2
    go_loopg [29] Q.length (fun m q wr => ∃ k : Nat, q = .int .i64 k ∧ k ≤ Q.length ∧ m = Q.length - k ∧ Hid (SH wr c2 A (S2.fres (Q.take k)) ∧ Stp c w c2 wr ∧ Lst wr 0 (.slice x Q.length d) Q))
    case atStart => exact ⟨0, rfl, by omega, by omega, H2.out.1, H2.out.2.1, H2.out.2.2.1⟩
    case round =>
      obtain ⟨k, rfl, hk, hm, hw⟩ := hrel
      have HM : Hid _ := hm
      clear hm
      by_cases hlt : k < Q.length
      · obtain ⟨g, o, rfl, hgl, hc⟩ := hw.out.2.2.rdi (by omega)
        have a0 := hc k hlt
        have hst : Hid ((S2.fres (Q.take k)).fre Q[k] = S2.fres (Q.take (k + 1))) := fres_take hlt
        have CF := wfree_any Q[k] wr hw.out.1
        clear hc
        have b0 := hw.out.1.head.blk.at 0 rfl
        have b1 := hw.out.1.head.blk.at 1 rfl
        have b2 := hw.out.1.head.blk.at 2 rfl
        have b3 := hw.out.1.head.blk.at 3 rfl
        have b4 := hw.out.1.head.blk.at 4 rfl
        have b5 := hw.out.1.head.blk.at 5 rfl
        have b6 := hw.out.1.head.blk.at 6 rfl
        have b7 := hw.out.1.head.blk.at 7 rfl
        have b8 := hw.out.1.head.blk.at 8 rfl
        have b9 := hw.out.1.head.blk.at 9 rfl
        have b10 := hw.out.1.head.blk.at 10 rfl
        have b11 := hw.out.1.head.blk.at 11 rfl
        have b12 := hw.out.1.head.blk.at 12 rfl
        generalize Q[k] = z at *
        go_wp2_with fail
        refine CF.mono ?_
        rintro e w3 ⟨rfl, s3, p3, m3⟩
        have H3 : Hid (SH w3 c2 A (S2.fres (Q.take (k + 1))) ∧ Stp c w c2 w3 ∧ Lst w3 0 (.slice (some ⟨g, o, none⟩) Q.length d) Q) := by
          rw [← hst.out]
          refine ⟨s3, hw.out.2.1.trans p3, hw.out.2.2.muts m3 fun k hk q => ?_⟩
          have h1 := H2.out.2.2.2 k hk
          have h2 := hw.out.1.ctg
          have h3 := hw.out.1.cpg
          simp only [List.mem_cons, List.not_mem_nil, or_false] at q
          rcases q with q | q
          · rw [q, h2] at h1; omega
          · rw [q, h3] at h1; omega
        clear s3 p3 m3 b0 b1 b2 b3 b4 b5 b6 b7 b8 b9 b10 b11 b12 a0 CF hw hst
        go_wp2
        go_roundg (gk - 1)
        all_goals (have := HM.out; try omega)
        exact ⟨k + 1, by go_num, by omega, by omega, H3⟩
      · obtain rfl : k = Q.length := by omega
        have e1 : Q.take Q.length = Q := List.take_length
        rw [e1] at hw
        have HF : Hid (SH wr c2 A (S2.fres Q) ∧ Stp c w c2 wr) := ⟨hw.out.1, hw.out.2.1⟩
        clear hw
        go_wp2
        go_ret
        exact ⟨by rw [HN.out] <;> rfl, c2, by rw [HA.out]; exact HF.out⟩
end
end Go.Proofs.Ytahpnnjemjjfhaa
