/-
  The modules RspE, one behind another.
-/
import Derived.Test.YtahpnnjemjjfhaaGreatM26
/-
  Contracts of the document's space: Look, Drain.
-/
namespace Go.Proofs.YtahpnnjemjjfhaaGreat
open Go.RowKit

theorem nr_erase : ∀ (E : List Ent) (i : Nat), (E.eraseIdx i).map Ent.nr = (E.map Ent.nr).eraseIdx i
  | [], _ => rfl
  | _ :: _, 0 => rfl
  | e :: E, i + 1 => by simp [nr_erase E i]
theorem nd_erase : ∀ {E : List Ent} {i : Nat} (hi : i < E.length), (E.map Ent.th).Nodup → ∀ e, e ∈ E.eraseIdx i ↔ e ∈ E ∧ e.th ≠ E[i].th
  | [], _, hi, _, _ => by simp at hi
  | a :: E, 0, _, h, e => by
    simp only [List.map_cons, List.nodup_cons, List.mem_map, not_exists, not_and] at h
    simp only [List.eraseIdx_cons_zero, List.mem_cons, List.getElem_cons_zero]
    refine ⟨fun q => ⟨.inr q, fun qq => h.1 e q qq⟩, fun q => ?_⟩
    rcases q.1 with rfl | q1
    · exact absurd rfl q.2
    · exact q1
  | a :: E, i + 1, hi, h, e => by
    simp only [List.map_cons, List.nodup_cons, List.mem_map, not_exists, not_and] at h
    have hi' : i < E.length := by simpa using hi
    have ih := nd_erase hi' h.2 e
    simp only [List.eraseIdx_cons_succ, List.mem_cons, List.getElem_cons_succ, ih]
    constructor
    · rintro (rfl | q)
      · exact ⟨.inl rfl, fun q => h.1 _ (List.getElem_mem hi') q.symm⟩
      · exact ⟨.inr q.1, q.2⟩
    · rintro ⟨rfl | q1, q2⟩
      · exact .inl rfl
      · exact .inr ⟨q1, q2⟩
theorem nrel_drop {E : List Ent} {N : List Int} {i : Nat} {t : Int} (h : Nrel E N) (hi : i < E.length) (hx : idx (fun e => e.th == t) E = (i : Int)) : Nrel (E.eraseIdx i) (N.filter fun x => x != t) := by
  have ht : E[i].th = t := by
    rcases idx_cases (fun e => e.th == t) E with ⟨q, _, _⟩ | ⟨j, hj, q1, q2, _⟩
    · rw [q] at hx; omega
    · have : j = i := by rw [q1] at hx; omega
      subst this
      have h3 : E.find? (fun e => e.th == t) = some E[j] := q2
      simpa using List.find?_some h3
  have H := nd_erase hi h.nd
  rw [ht] at H
  refine ⟨fun e he hs => ?_, fun x hx => ?_, ?_, Nat.le_trans (List.length_filter_le _ _) h.few⟩
  · obtain ⟨h1, h2⟩ := (H e).1 he
    rw [h.nt e h1 hs]
    simp [h2]
  · obtain ⟨h1, h2⟩ := List.mem_filter.1 hx
    obtain ⟨e, h3, rfl⟩ := h.sub x h1
    exact ⟨e, (H e).2 ⟨h3, by simpa using h2⟩, rfl⟩
  · exact ((List.eraseIdx_sublist E i).map Ent.th).nodup h.nd

section
variable {B : Nat} {c c' : Nat → Nat} {w w' W : World} {A : Ar} {S : Sp}
set_option maxHeartbeats 8000000 in
theorem rlook_any (t : Int) (w : World) (h : RSH B w c A S) {kb : Nat} (hk : S.Bd kb) (hkb : kb ≤ 50000) (hst : ∀ e ∈ S.E, e.st = 0 ∨ e.st = 1 ∨ e.st = 2) :
    Calls Tryz.prog 48 #[.pointer (some ⟨A.b, 0, none⟩), .int .i64 t] w fun e w' => ∃ x d, e = .returned (.agg #[.int .i64 (S.lookG t).st, .slice x (S.lookG t).G.length d, .int .i64 (S.lookG t).at_]) ∧
      Rdi w' x (S.lookG t).G ∧ ∃ c', RSH B w' c' A (S.look t) ∧ Stp c w c' w' := by
  have HS : Hid (RSH B w c A S) := h
  have HK : Hid (S.Bd kb ∧ kb ≤ 50000) := ⟨hk, hkb⟩
  have hct : 0 ≤ S.ct ∧ S.ct ≤ 50000 := ⟨hk.c0, by have := hk.c1; omega⟩
  have k0 : Kept w (w.alloc (.cells #[.int .i64 0, .slice none 0 0, .int .i64 0] 71)) := (Kept.refl w).alloc _ _
  have c16 := (h.kept k0).cell (i := 16) (u := .int .i64 S.ct) fun _ _ => rfl
  have f16 := (h.kept k0).fz 16
  have z0 : A.b ≠ w.heap.size := by obtain ⟨_, _, _, q⟩ := h.hd; have := h.low A.b (by rw [q]; decide); omega
  clear k0
  have HA : Hid (S.look t = match S.of t with
    | none => S.tick
    | some e => if e.st == 0 then S.tick else S.tick.dropE t) := rfl
  have HG : Hid (S.lookG t = match S.of t with
    | none => ⟨3, [], -1⟩
    | some e => if e.st == 0 then ⟨0, [], -1⟩ else if e.st == 1 then ⟨1, e.G, e.pl⟩ else ⟨e.st, [], -1⟩) := rfl
  have HST : Hid (∀ e ∈ S.E, e.st = 0 ∨ e.st = 1 ∨ e.st = 2) := hst
  obtain ⟨h0, h1⟩ := hct
  have z1 : Hid (c w.heap.size = 0 ∧ B ≤ w.heap.size) := ⟨h.new (Nat.le_refl _), h.base⟩
  have NW : Hid (∀ k, w.heap.size ≤ k → c k = 0) := fun k hk => HS.out.new hk
  clear h hk hkb hst
  go_enter Tryz.func48, Tryz.ntmps48
  go_wp2_with fail
  generalize hW : World.setCell _ _ _ = W
  have HB : Hid (Blk W w.heap.size [.int .i64 0, .slice none 0 0, .int .i64 0] ∧ RSH B W c A S.tick ∧ Stp c w c W ∧ W.heap.size = w.heap.size + 1) := by
    rw [← hW]
    have k1 : Kept w (w.alloc (.cells #[.int .i64 0, .slice none 0 0, .int .i64 0] 71)) := (Kept.refl w).alloc _ _
    have s1 := HS.out.kept k1
    exact ⟨(Blk.new w _ _).set_other z0 _, s1.ticks.1, (Stp.kept k1).trans s1.ticks.2, by simp [World.setCell]⟩
  clear hW c16 f16
  obtain ⟨lv, nv, E, N, l1, l2, l3, l4⟩ := HB.out.2.1.line
  have l2' : E.map Ent.nr = S.E.map Ent.nr := l2
  have CO := lrof_any t W l1
  simp only [Ent.agg] at CO
  have HOF : (S.of t).map Ent.nr = (E.find? fun e => e.th == t).map Ent.nr := (nr_find l2' (fun e => e.th == t) (fun _ => rfl)).symm
  have HL : Hid (RlT (A.rq S.m S.fo (S.ct + 1)) W 0 A.b lv nv E N ∧ E.map Ent.nr = S.E.map Ent.nr ∧ Nrel S.E N ∧ ∀ k, k ∈ footR A.b lv nv E → c k = 3) := ⟨l1, l2', l3, l4⟩
  clear l1 l2 l2' l3 l4
  cases hf : E.find? (fun e => e.th == t) with
  | none =>
    rw [hf] at CO HOF
    simp only [told, Option.getD_none, none7, Option.isSome_none] at CO
    have HOF2 : S.of t = none := by simpa using HOF
    rw [HOF2] at HA HG
    simp only at HA HG
    clear hf HOF HOF2 HL
    refine CO.mono ?_
    rintro e w2 ⟨rfl, k2⟩
    have H2 : Hid (Blk w2 w.heap.size [.int .i64 0, .slice none 0 0, .int .i64 0] ∧ RSH B w2 c A S.tick ∧ Stp c w c w2 ∧ w.heap.size + 1 ≤ w2.heap.size) := ⟨HB.out.1.kept k2, HB.out.2.1.kept k2, HB.out.2.2.1.trans (Stp.kept k2), by have := k2.size; have := HB.out.2.2.2; omega⟩
    clear k2 CO
    go_wp2_with fail
    generalize hW2 : w2.alloc _ = W2
    have k3 : Kept w2 W2 := by rw [← hW2]; exact (Kept.refl w2).alloc _ _
    have H3 : Hid (Blk W2 w.heap.size [.int .i64 0, .slice none 0 0, .int .i64 0] ∧ RSH B W2 c A S.tick ∧ Stp c w c W2 ∧ w.heap.size + 1 ≤ w2.heap.size) := ⟨H2.out.1.kept k3, H2.out.2.1.kept k3, H2.out.2.2.1.trans (Stp.kept k3), H2.out.2.2.2⟩
    clear hW2 k3
    refine (nobody_any 3 W2).mono ?_
    rintro e w3 ⟨rfl, k3⟩
    have H4 : Hid (Blk w3 w.heap.size [.int .i64 0, .slice none 0 0, .int .i64 0] ∧ RSH B w3 c A S.tick ∧ Stp c w c w3) := ⟨H3.out.1.kept k3, H3.out.2.1.kept k3, H3.out.2.2.1.trans (Stp.kept k3)⟩
    clear k3
    have b0 := H4.out.1.at 0 rfl
    have b1 := H4.out.1.at 1 rfl
    have b2 := H4.out.1.at 2 rfl
    have bf := H4.out.1.fz
    go_wp2
    (try simp only [Exit.inBlock, Exit.then])
    obtain ⟨g1, g2, g3, _⟩ := rgrant_end (x := none) (G := []) (.int .i64 3) (.slice none 0 0) (.int .i64 (-1)) H4.out.1 H4.out.2.1 H4.out.2.2 z1.out.1 (Nat.le_refl _) z1.out.2 Rdi.nil (fun _ _ e => by cases e)
    exact bodyPost_ret_by (results_blk rfl _ _ w.heap.size [_, _, _] rfl g1 Tryz.underlying71 (by kernel_rfl)) rfl ⟨none, 0, by rw [HG.out] <;> rfl, by rw [HG.out]; exact Rdi.nil, c, by rw [HA.out]; exact g2, g3⟩
  | some e0 =>
    rw [hf] at CO HOF
    simp only [told, Option.getD_some, Option.isSome_some] at CO
    obtain ⟨s0, hs0, hnr⟩ : ∃ s0, S.of t = some s0 ∧ s0.nr = e0.nr := by
      cases q : S.of t with
      | none => rw [q] at HOF; cases HOF
      | some s0 => rw [q] at HOF; exact ⟨s0, rfl, by simpa using HOF⟩
    have es : s0.st = e0.st := (show s0.nr.st = e0.nr.st from congrArg Ent.st hnr)
    have eG : s0.G = e0.G := (show s0.nr.G = e0.nr.G from congrArg Ent.G hnr)
    have ep : s0.pl = e0.pl := (show s0.nr.pl = e0.nr.pl from congrArg Ent.pl hnr)
    have hsm : e0.st = 0 ∨ e0.st = 1 ∨ e0.st = 2 := by rw [← es]; exact HST.out s0 (List.mem_of_find?_eq_some hs0)
    rw [hs0] at HA HG
    simp only [es, eG, ep] at HA HG
    have HI : Hid (∃ i : Nat, i < E.length ∧ idx (fun e => e.th == t) E = (i : Int)) := by
      rcases idx_cases (fun e => e.th == t) E with ⟨_, q, _⟩ | ⟨i, hi, q1, _⟩
      · rw [q] at hf; cases hf
      · exact ⟨i, hi, q1⟩
    have hin : e0 ∈ E := List.mem_of_find?_eq_some hf
    have HSH : Hid (e0.G.length ≤ 100000 ∧ Rdi W e0.gx e0.G ∧ ∀ g o, e0.gx = some ⟨g, o, none⟩ → g < W.heap.size ∧ c g = 3 ∧ g ∉ A.b :: lv.ownBlock.toList) := by
      refine ⟨HL.out.1.ens.short e0 hin, HL.out.1.ens.got e0 hin, fun g o e => ?_⟩
      have hb : e0.blk = some g := by simp [Ent.blk, e]
      obtain ⟨_, q1, q2, q3⟩ := HL.out.1.ens.gb e0 hin g hb
      refine ⟨q1, HL.out.2.2.2 g (mem_footR.2 (.inr (mem_foot.2 (.inr (.inr ⟨e0, hin, hb⟩))))), fun q => ?_⟩
      rcases List.mem_cons.1 q with q | q
      · exact q2 q
      · exact q3 (by simpa using q)
    clear hf HOF hs0 hnr es eG ep hin
    refine CO.mono ?_
    rintro e w2 ⟨rfl, k2⟩
    have H2 : Hid (Blk w2 w.heap.size [.int .i64 0, .slice none 0 0, .int .i64 0] ∧ RSH B w2 c A S.tick ∧ Stp c w c w2 ∧ w.heap.size + 1 ≤ w2.heap.size) := ⟨HB.out.1.kept k2, HB.out.2.1.kept k2, HB.out.2.2.1.trans (Stp.kept k2), by have := k2.size; have := HB.out.2.2.2; omega⟩
    have HY : Hid (Kept W w2) := k2
    clear k2 CO
    rcases hsm with hs | hs | hs
    · rw [hs] at HA HG
      simp only [beq_self_eq_true, if_true] at HA HG
      rw [hs]
      clear hs
      go_wp2_with fail
      generalize hW2 : w2.alloc _ = W2
      have k3 : Kept w2 W2 := by rw [← hW2]; exact (Kept.refl w2).alloc _ _
      have H3 : Hid (Blk W2 w.heap.size [.int .i64 0, .slice none 0 0, .int .i64 0] ∧ RSH B W2 c A S.tick ∧ Stp c w c W2 ∧ w.heap.size + 1 ≤ w2.heap.size) := ⟨H2.out.1.kept k3, H2.out.2.1.kept k3, H2.out.2.2.1.trans (Stp.kept k3), H2.out.2.2.2⟩
      clear hW2 k3
      refine (nobody_any 0 W2).mono ?_
      rintro e w3 ⟨rfl, k3⟩
      have H4 : Hid (Blk w3 w.heap.size [.int .i64 0, .slice none 0 0, .int .i64 0] ∧ RSH B w3 c A S.tick ∧ Stp c w c w3) := ⟨H3.out.1.kept k3, H3.out.2.1.kept k3, H3.out.2.2.1.trans (Stp.kept k3)⟩
      clear k3
      have b0 := H4.out.1.at 0 rfl
      have b1 := H4.out.1.at 1 rfl
      have b2 := H4.out.1.at 2 rfl
      have bf := H4.out.1.fz
      go_wp2
      (try simp only [Exit.inBlock, Exit.then])
      obtain ⟨g1, g2, g3, _⟩ := rgrant_end (x := none) (G := []) (.int .i64 0) (.slice none 0 0) (.int .i64 (-1)) H4.out.1 H4.out.2.1 H4.out.2.2 z1.out.1 (Nat.le_refl _) z1.out.2 Rdi.nil (fun _ _ e => by cases e)
      exact bodyPost_ret_by (results_blk rfl _ _ w.heap.size [_, _, _] rfl g1 Tryz.underlying71 (by kernel_rfl)) rfl ⟨none, 0, by rw [HG.out] <;> rfl, by rw [HG.out]; exact Rdi.nil, c, by rw [HA.out]; exact g2, g3⟩
    · rw [hs] at HA HG
      simp only [show ((1 : Int) == 0) = false from rfl, beq_self_eq_true, Bool.false_eq_true, if_true, if_false] at HA HG
      rw [hs]
      obtain ⟨i, hi, hix⟩ := HI.out
      go_wp2_with fail
      generalize hW2 : w2.alloc _ = W2
      have k3 : Kept w2 W2 := by rw [← hW2]; exact (Kept.refl w2).alloc _ _
      have H3 : Hid (Blk W2 w.heap.size [.int .i64 0, .slice none 0 0, .int .i64 0] ∧ RSH B W2 c A S.tick ∧ Stp c w c W2 ∧ w.heap.size + 1 ≤ w2.heap.size) := ⟨H2.out.1.kept k3, H2.out.2.1.kept k3, H2.out.2.2.1.trans (Stp.kept k3), H2.out.2.2.2⟩
      have HR : Hid (Blk W2 w2.heap.size [.int .i64 e0.th, .int .i64 e0.fr, .int .i64 e0.sp, .int .i64 1, .int .i64 e0.cy, .int .i64 e0.pl, .slice e0.gx e0.G.length e0.gc] ∧ Kept w2 W2) := by
        rw [← hW2]
        refine ⟨?_, by rw [hW2]; exact k3⟩
        exact Blk.new w2 _ _
      clear hW2 k3
      have LL := HL.out.1.kept (HY.out.trans HR.out.2)
      refine (lrdrop_yes (t := t) W2 LL hi hix (by have := HL.out.2.2.1.few; omega)).mono ?_
      rintro e w3 ⟨rfl, v', nv', t3, m3, f3⟩
      have hix2 : idx (fun e => e.th == t) S.E = (i : Int) := by rw [← nr_idx HL.out.2.1 (fun e => e.th == t) (fun _ => rfl)]; exact hix
      have hi2 : i < S.E.length := by rw [← nr_len HL.out.2.1]; exact hi
      have hDE : S.tick.dropE t = { S.tick with E := S.E.eraseIdx i } := by
        unfold Sp.dropE
        rw [show S.tick.E = S.E from rfl, hix2, Int.toNat_natCast]
      have H3a := RSH.lines (EE := S.E.eraseIdx i) (fo := S.fo) (ct := S.ct + 1) H3.out.2.1 HL.out.2.2.2 t3 m3 (fun k hk => memR_own hk) f3 (by rw [nr_erase, nr_erase, HL.out.2.1]) (nrel_drop HL.out.2.2.1 hi2 hix2)
      have h5 : ∃ c3, (∀ k, w.heap.size ≤ k → k < W2.heap.size → c3 k = 0) ∧ RSH B w3 c3 A (S.tick.dropE t) ∧ Stp c W2 c3 w3 :=
        ⟨_, fun k h1 h2 => (H3a.2.same k h2).trans (NW.out k h1), by rw [hDE]; exact H3a.1, H3a.2⟩
      obtain ⟨c3, z3, s3, p3⟩ := h5
      have H5 : Hid (c3 w.heap.size = 0 ∧ Blk w3 w.heap.size [.int .i64 0, .slice none 0 0, .int .i64 0] ∧ RSH B w3 c3 A (S.tick.dropE t) ∧ Stp c w c3 w3 ∧ Blk w3 w2.heap.size [.int .i64 e0.th, .int .i64 e0.fr, .int .i64 e0.sp, .int .i64 1, .int .i64 e0.cy, .int .i64 e0.pl, .slice e0.gx e0.G.length e0.gc] ∧ Rdi w3 e0.gx e0.G) := by
        have q1 := HR.out.1.lt
        have q2 := H3.out.2.2.2
        refine ⟨z3 _ (Nat.le_refl _) (by omega), p3.blk H3.out.1 z1.out.1, s3, H3.out.2.2.1.trans p3, p3.blk HR.out.1 (NW.out _ (by omega)), (HSH.out.2.1.kept (HY.out.trans HR.out.2)).muts m3 fun g o e => (HSH.out.2.2 g o e).2.2⟩
      clear z3 s3 p3 H3a t3 m3 f3 LL hix2 hi2 hDE
      have r3 := H5.out.2.2.2.2.1.at 3 rfl
      have r5 := H5.out.2.2.2.2.1.at 5 rfl
      have r6 := H5.out.2.2.2.2.1.at 6 rfl
      clear hs
      generalize hp : e0.pl = pl at *
      generalize hG0 : e0.G = G at *
      generalize hgx : e0.gx = gx at *
      generalize hgc : e0.gc = gc at *
      have b0 := H5.out.2.1.at 0 rfl
      have b1 := H5.out.2.1.at 1 rfl
      have b2 := H5.out.2.1.at 2 rfl
      have bf := H5.out.2.1.fz
      go_wp2
      (try simp only [Exit.inBlock, Exit.then])
      obtain ⟨g1, g2, g3, g4⟩ := rgrant_end (x := gx) (G := G) (.int .i64 1) (.slice gx G.length gc) (.int .i64 pl) H5.out.2.1 H5.out.2.2.1 H5.out.2.2.2.1 H5.out.1 (Nat.le_refl _) z1.out.2 H5.out.2.2.2.2.2 (fun g o e q => by have h1 := (HSH.out.2.2 g o e).2.1; rw [q, z1.out.1] at h1; cases h1)
      exact bodyPost_ret_by (results_blk rfl _ _ w.heap.size [_, _, _] rfl g1 Tryz.underlying71 (by kernel_rfl)) rfl ⟨gx, gc, by rw [HG.out] <;> rfl, by rw [HG.out]; exact g4, c3, by rw [HA.out]; exact g2, g3⟩
    · rw [hs] at HA HG
      simp only [show ((2 : Int) == 0) = false from rfl, show ((2 : Int) == 1) = false from rfl, Bool.false_eq_true, if_false] at HA HG
      rw [hs]
      obtain ⟨i, hi, hix⟩ := HI.out
      go_wp2_with fail
      generalize hW2 : w2.alloc _ = W2
      have k3 : Kept w2 W2 := by rw [← hW2]; exact (Kept.refl w2).alloc _ _
      have H3 : Hid (Blk W2 w.heap.size [.int .i64 0, .slice none 0 0, .int .i64 0] ∧ RSH B W2 c A S.tick ∧ Stp c w c W2 ∧ w.heap.size + 1 ≤ w2.heap.size) := ⟨H2.out.1.kept k3, H2.out.2.1.kept k3, H2.out.2.2.1.trans (Stp.kept k3), H2.out.2.2.2⟩
      have HR : Hid (Blk W2 w2.heap.size [.int .i64 e0.th, .int .i64 e0.fr, .int .i64 e0.sp, .int .i64 2, .int .i64 e0.cy, .int .i64 e0.pl, .slice e0.gx e0.G.length e0.gc] ∧ Kept w2 W2) := by
        rw [← hW2]
        refine ⟨?_, by rw [hW2]; exact k3⟩
        exact Blk.new w2 _ _
      clear hW2 k3
      have LL := HL.out.1.kept (HY.out.trans HR.out.2)
      refine (lrdrop_yes (t := t) W2 LL hi hix (by have := HL.out.2.2.1.few; omega)).mono ?_
      rintro e w3 ⟨rfl, v', nv', t3, m3, f3⟩
      have hix2 : idx (fun e => e.th == t) S.E = (i : Int) := by rw [← nr_idx HL.out.2.1 (fun e => e.th == t) (fun _ => rfl)]; exact hix
      have hi2 : i < S.E.length := by rw [← nr_len HL.out.2.1]; exact hi
      have hDE : S.tick.dropE t = { S.tick with E := S.E.eraseIdx i } := by
        unfold Sp.dropE
        rw [show S.tick.E = S.E from rfl, hix2, Int.toNat_natCast]
      have H3a := RSH.lines (EE := S.E.eraseIdx i) (fo := S.fo) (ct := S.ct + 1) H3.out.2.1 HL.out.2.2.2 t3 m3 (fun k hk => memR_own hk) f3 (by rw [nr_erase, nr_erase, HL.out.2.1]) (nrel_drop HL.out.2.2.1 hi2 hix2)
      have h5 : ∃ c3, (∀ k, w.heap.size ≤ k → k < W2.heap.size → c3 k = 0) ∧ RSH B w3 c3 A (S.tick.dropE t) ∧ Stp c W2 c3 w3 :=
        ⟨_, fun k h1 h2 => (H3a.2.same k h2).trans (NW.out k h1), by rw [hDE]; exact H3a.1, H3a.2⟩
      obtain ⟨c3, z3, s3, p3⟩ := h5
      have H5 : Hid (c3 w.heap.size = 0 ∧ Blk w3 w.heap.size [.int .i64 0, .slice none 0 0, .int .i64 0] ∧ RSH B w3 c3 A (S.tick.dropE t) ∧ Stp c w c3 w3 ∧ Blk w3 w2.heap.size [.int .i64 e0.th, .int .i64 e0.fr, .int .i64 e0.sp, .int .i64 2, .int .i64 e0.cy, .int .i64 e0.pl, .slice e0.gx e0.G.length e0.gc] ∧ Rdi w3 e0.gx e0.G) := by
        have q1 := HR.out.1.lt
        have q2 := H3.out.2.2.2
        refine ⟨z3 _ (Nat.le_refl _) (by omega), p3.blk H3.out.1 z1.out.1, s3, H3.out.2.2.1.trans p3, p3.blk HR.out.1 (NW.out _ (by omega)), (HSH.out.2.1.kept (HY.out.trans HR.out.2)).muts m3 fun g o e => (HSH.out.2.2 g o e).2.2⟩
      clear z3 s3 p3 H3a t3 m3 f3 LL hix2 hi2 hDE
      have r3 := H5.out.2.2.2.2.1.at 3 rfl
      clear hs
      go_wp2_with fail
      refine (nobody_any 2 w3).mono ?_
      rintro e w4 ⟨rfl, k4⟩
      have H6 : Hid (Blk w4 w.heap.size [.int .i64 0, .slice none 0 0, .int .i64 0] ∧ RSH B w4 c3 A (S.tick.dropE t) ∧ Stp c w c3 w4) := ⟨H5.out.2.1.kept k4, H5.out.2.2.1.kept k4, H5.out.2.2.2.1.trans (Stp.kept k4)⟩
      clear k4 r3
      have b0 := H6.out.1.at 0 rfl
      have b1 := H6.out.1.at 1 rfl
      have b2 := H6.out.1.at 2 rfl
      have bf := H6.out.1.fz
      go_wp2
      (try simp only [Exit.inBlock, Exit.then])
      obtain ⟨g1, g2, g3, _⟩ := rgrant_end (x := none) (G := []) (.int .i64 2) (.slice none 0 0) (.int .i64 (-1)) H6.out.1 H6.out.2.1 H6.out.2.2 H5.out.1 (Nat.le_refl _) z1.out.2 Rdi.nil (fun _ _ e => by cases e)
      exact bodyPost_ret_by (results_blk rfl _ _ w.heap.size [_, _, _] rfl g1 Tryz.underlying71 (by kernel_rfl)) rfl ⟨none, 0, by rw [HG.out] <;> rfl, by rw [HG.out]; exact Rdi.nil, c3, by rw [HA.out]; exact g2, g3⟩
set_option maxHeartbeats 8000000 in
theorem rdrain_any (t : Int) (w : World) (h : RSH B w c A S) {kb : Nat} (hk : S.Bd kb) (hkb : kb ≤ 50000) :
    Calls Tryz.prog 50 #[.pointer (some ⟨A.b, 0, none⟩), .int .i64 t] w fun e w' => e = .returned (.int .i64 (S.drainN t)) ∧ ∃ c', RSH B w' c' A (S.drain t) ∧ Stp c w c' w' := by
  have HS : Hid (RSH B w c A S) := h
  have hct : 0 ≤ S.ct ∧ S.ct ≤ 50000 := ⟨hk.c0, by have := hk.c1; omega⟩
  have c16 := h.cell (i := 16) (u := .int .i64 S.ct) fun _ _ => rfl
  have c11w := h.cell (i := 11) (u := .slice (some ⟨A.sb, 0, none⟩) S.m A.sc) fun _ _ => rfl
  have f16 := h.fz 16
  have HW : Hid (RSH B (w.setCell ⟨A.b, 16, none⟩ (.int .i64 (S.ct + 1))) c A S.tick ∧ Stp c w c (w.setCell ⟨A.b, 16, none⟩ (.int .i64 (S.ct + 1)))) := h.ticks
  have cqw : ∀ i, i < S.m → (w.setCell ⟨A.b, 16, none⟩ (.int .i64 (S.ct + 1))).cell? ⟨A.sb, i, none⟩ = some (.pointer (some ⟨A.q i, 0, none⟩)) := fun i hi => HW.out.1.qcell hi
  have hm16 : S.m ≤ 16 := h.few
  obtain ⟨h0, h1⟩ := hct
  clear h hk hkb
  have HN : Hid (S.drainN t = if S.isT t then ((S.Q t.toNat).length : Int) else 0) := rfl
  have HA : Hid (S.drain t = if S.isT t then ({ S.tick with Q := fun j => if j = t.toNat then [] else S.Q j } : Sp).fres (S.Q t.toNat) else S.tick) := rfl
  have HI : Hid (S.isT t = decide (0 ≤ t ∧ t < S.m)) := rfl
  by_cases ht0 : t < 0
  · have hi : S.isT t = false := by rw [HI.out]; simp; omega
    rw [hi] at HN HA
    simp only [Bool.false_eq_true, if_false] at HN HA
    clear hi cqw
    go_enter Tryz.func50, Tryz.ntmps50
    go_wp2
    go_ret
    exact ⟨by rw [HN.out] <;> rfl, c, by rw [HA.out]; exact HW.out⟩
  by_cases ht1 : t ≥ (S.m : Int)
  · have hi : S.isT t = false := by rw [HI.out]; simp; omega
    rw [hi] at HN HA
    simp only [Bool.false_eq_true, if_false] at HN HA
    clear hi cqw
    go_enter Tryz.func50, Tryz.ntmps50
    go_wp2
    go_ret
    exact ⟨by rw [HN.out] <;> rfl, c, by rw [HA.out]; exact HW.out⟩
  have hi : S.isT t = true := by rw [HI.out]; simp; omega
  rw [hi] at HN HA
  simp only [if_true] at HN HA
  obtain ⟨i, rfl, hi2⟩ : ∃ i : Nat, t = i ∧ i < S.m := ⟨t.toNat, by omega, by omega⟩
  simp only [Int.toNat_natCast] at HN HA
  clear hi
  have cq := cqw i hi2
  clear cqw
  go_enter Tryz.func50, Tryz.ntmps50
  go_wp2_with fail
  generalize hW : World.setCell _ _ _ = W at *
  have HB : Hid (RSH B W c A S.tick ∧ Stp c w c W) := HW.out
  clear hW HW c16 f16 c11w
  obtain ⟨v, s1, s2, s3⟩ : ∃ v, STab 102 W 0 (A.q i) S.most v (S.Q i) ∧ c (A.q i) = 10 + i ∧ ∀ k, v.ownBlock = some k → c k = 10 + i := HB.out.1.stk i hi2
  have CD := srdrain_any W s1
  generalize hQ : S.Q i = Q0 at *
  clear hQ
  have HQ8 : Q0.length ≤ 8 := by have := s1.few; have := s1.max; omega
  have HL : Hid (Lst W 0 v Q0 ∧ (∀ k, v.ownBlock = some k → c k = 10 + i) ∧ c (A.q i) = 10 + i ∧ v.ownBlock ≠ some (A.q i)) := ⟨s1.lst, s3, s2, s1.ne⟩
  refine CD.mono ?_
  rintro e w2 ⟨rfl, t2, m2⟩
  have H2a := RSH.stks HB.out.1 hi2 s2 s3 t2 m2 (fun k hk => by simp at hk; simp [hk]) (fun k hk => by simp [Value.ownBlock] at hk)
  obtain ⟨c2, h2⟩ : ∃ c2, RSH B w2 c2 A { S.tick with Q := fun j => if j = i then [] else S.Q j } ∧ Stp c W c2 w2 := ⟨_, H2a⟩
  have H2 : Hid (RSH B w2 c2 A { S.tick with Q := fun j => if j = i then [] else S.Q j } ∧ Stp c w c2 w2 ∧ Lst w2 0 v Q0 ∧ ∀ k, v.ownBlock = some k → c2 k = 10 + i) :=
    ⟨h2.1, HB.out.2.trans h2.2, HL.out.1.muts m2 (fun k hk q => HL.out.2.2.2 (by simp at q; rw [hk, q])), fun k hk => (h2.2.same k (HL.out.1.lt k hk).2).trans (HL.out.2.1 k hk)⟩
  obtain ⟨x, d0, rfl⟩ := HL.out.1.form
  clear H2a h2 t2 m2 s1 s2 s3 CD cq HL
  obtain ⟨S2, hS2⟩ : ∃ S2 : Sp, S2 = { S.tick with Q := fun j => if j = i then [] else S.Q j } := ⟨_, rfl⟩
  rw [← hS2] at H2 HA
  clear hS2
  go_wp2
  go_loopg [6] Q0.length (fun m q wr => ∃ k : Nat, q = .int .i64 k ∧ k ≤ Q0.length ∧ m = Q0.length - k ∧ Hid (RSH B wr c2 A (S2.fres (Q0.take k)) ∧ Stp c w c2 wr ∧ Lst wr 0 (.slice x Q0.length d0) Q0))
  case atStart => exact ⟨0, rfl, by omega, by omega, H2.out.1, H2.out.2.1, H2.out.2.2.1⟩
  case round =>
    obtain ⟨k, rfl, hk, hm, hw⟩ := hrel
    have HM : Hid _ := hm
    clear hm
    by_cases hlt : k < Q0.length
    · obtain ⟨g, o, rfl, hgl, hc⟩ := hw.out.2.2.rdi (by omega)
      have a0 := hc k hlt
      have hst : (S2.fres (Q0.take k)).fre Q0[k] = S2.fres (Q0.take (k + 1)) := fres_take hlt
      obtain ⟨S3, hS3⟩ : ∃ S3, S3 = S2.fres (Q0.take k) := ⟨_, rfl⟩
      rw [← hS3] at hw hst
      clear hS3
      have HD : Hid ((∀ u, Kept wr u → u.cell? ⟨A.b, 9, none⟩ = some (.pointer (some ⟨A.tb, 0, none⟩))) ∧ (∀ u, Kept wr u → u.cell? ⟨g, o + k, none⟩ = some (.int .i64 Q0[k]))) :=
        ⟨fun u q => (hw.out.1.kept q).cell (i := 9) (u := .pointer (some ⟨A.tb, 0, none⟩)) (fun _ _ => rfl), fun u q => (q.cell hgl).trans a0⟩
      obtain ⟨z, hz⟩ : ∃ z, z = Q0[k] := ⟨_, rfl⟩
      have HZ : Hid (Q0[k] = z ∧ S3.fre z = S2.fres (Q0.take (k + 1))) := ⟨hz.symm, by rw [hz]; exact hst⟩
      rw [← hz] at HD
      clear hz hst a0 hc
      obtain ⟨Q, hQ⟩ : ∃ Q : World → Prop, Q = fun u => RSH B u c2 A { S3 with T := setT S3.n S3.T z 0 false false } ∧ Stp c w c2 u ∧ Lst u 0 (.slice (some ⟨g, o, none⟩) Q0.length d0) Q0 := ⟨_, rfl⟩
      have HQ : Hid (∀ u, Q u → RSH B u c2 A { S3 with T := setT S3.n S3.T z 0 false false } ∧ Stp c w c2 u ∧ Lst u 0 (.slice (some ⟨g, o, none⟩) Q0.length d0) Q0) := fun u q => by rw [hQ] at q; exact q
      obtain ⟨rb, hrb⟩ : ∃ rb : Bool, rb = (inn S3.n z && isSt 0) := ⟨_, rfl⟩
      have HT : Hid (∀ u, Kept wr u → Calls Tryz.prog 101 #[.pointer (some ⟨A.tb, 0, none⟩), .int .i64 z, .int .i64 0, .bool false, .bool false] u fun e u' => e = .returned (.bool rb) ∧ Q u') := fun u q => by
        obtain ⟨T', t1, t2⟩ := (hw.out.1.kept q).tab
        rw [hrb, hQ]
        refine (trset_any z 0 false false u t1).mono ?_
        rintro e u' ⟨rfl, t3, m3⟩
        have t4 := t2.set z 0 false false false (fun _ => rfl)
        have r := (hw.out.1.kept q).tabs (T := setT S3.n S3.T z 0 false false) t3 t4 m3
        refine ⟨rfl, r.1, hw.out.2.1.trans ((Stp.kept q).trans r.2), (hw.out.2.2.kept q).muts m3 fun j hj qq => ?_⟩
        · have h1 := H2.out.2.2.2 j hj
          simp only [List.mem_cons, List.not_mem_nil, or_false] at qq
          rcases qq with rfl | rfl | rfl
          · rw [hw.out.1.cgs] at h1; omega
          · rw [hw.out.1.cgh] at h1; omega
          · rw [hw.out.1.cgc] at h1; omega
      clear hQ hrb hgl
      go_wp2_with fail
      refine wp_region_ghost (G := Unit) (fun ⟨⟩ => [(.pointer (some ⟨A.b, 0, none⟩)), (.pointer (some ⟨A.b, 0, none⟩)), (.pointer (some ⟨A.b, 9, none⟩)), (.pointer (some ⟨A.tb, 0, none⟩)), (.slice (some ⟨g, o, none⟩) Q0.length d0), (.int .i64 (k : Int)), (.pointer (some ⟨g, o + k, none⟩)), (.int .i64 z), (.bool rb)]) [(39, 0), (40, 1), (41, 2), (42, 3), (43, 4), (44, 5), (45, 6), (46, 7), (47, 8)] (fun ⟨⟩ d u => JP 8 [] (fun u => Kept wr u) (fun u => Q u) d u) (by kernel_rfl) (by kernel_rfl) (by kernel_rfl) (by kernel_rfl) (fun _ => rfl) ?_ ?_ ?_
      · exact ⟨(), JP.start (Kept.refl _).drew⟩
      · intro i1 o1 ho ng a1 d u hh hj0 hi hd hc
        obtain ⟨⟩ := ng
        have hj : JP 8 [] (fun u => Kept wr u) (fun u => Q u) d u := hj0
        clear hj0
        match i1, ho, hi, hd with
        | 0, ho, hi, hd =>
          simp only [List.getElem?_cons_zero, Option.some.injEq] at ho
          subst ho
          have g0 : a1.tmps[0]? = some (.pointer (some ⟨A.b, 0, none⟩)) := hh.old 0 (by kernel_rfl) rfl
          have HN : Hid (JP 8 [] (fun u => Kept wr u) (fun u => Q u) (done d 0) u) := hj.plain 0 (by decide)
          clear hh hd hc hj hi
          refine wpOp_step rfl (fun K hK => ?_)
          go_simp
          exact hK _ _ ⟨⟨⟩, fun _ _ => rfl, by simp [Act.put], HN.out⟩
        | 1, ho, hi, hd =>
          simp only [List.getElem?_cons_succ, List.getElem?_cons_zero, Option.some.injEq] at ho
          subst ho
          have g39 : a1.tmps[39]? = some (.pointer (some ⟨A.b, 0, none⟩)) := hh.did 0 _ 39 rfl rfl (hd { on := 0, ground := .data } (by simp) rfl)
          have HN : Hid (JP 8 [] (fun u => Kept wr u) (fun u => Q u) (done d 1) u) := hj.plain 1 (by decide)
          clear hh hd hc hj hi
          refine wpOp_step rfl (fun K hK => ?_)
          go_simp
          exact hK _ _ ⟨⟨⟩, fun _ _ => rfl, by simp [Act.put], HN.out⟩
        | 2, ho, hi, hd =>
          simp only [List.getElem?_cons_succ, List.getElem?_cons_zero, Option.some.injEq] at ho
          subst ho
          have g40 : a1.tmps[40]? = some (.pointer (some ⟨A.b, 0, none⟩)) := hh.did 1 _ 40 rfl rfl (hd { on := 1, ground := .data } (by simp) rfl)
          have HN : Hid (JP 8 [] (fun u => Kept wr u) (fun u => Q u) (done d 2) u) := hj.plain 2 (by decide)
          clear hh hd hc hj hi
          refine wpOp_step rfl (fun K hK => ?_)
          go_simp
          exact hK _ _ ⟨⟨⟩, fun _ _ => rfl, by simp [Act.put], HN.out⟩
        | 3, ho, hi, hd =>
          simp only [List.getElem?_cons_succ, List.getElem?_cons_zero, Option.some.injEq] at ho
          subst ho
          have g41 : a1.tmps[41]? = some (.pointer (some ⟨A.b, 9, none⟩)) := hh.did 2 _ 41 rfl rfl (hd { on := 2, ground := .data } (by simp) rfl)
          have n8 : d 8 = false := by
            cases q : d 8 with
            | false => rfl
            | true => exact absurd (hc 8 _ rfl q { on := 3, ground := .data } (by simp) rfl) (by simp [hi])
          have h0 := hj.now n8
          have c9 := HD.out.1 u h0
          have HN : Hid (JP 8 [] (fun u => Kept wr u) (fun u => Q u) (done d 3) u) := hj.plain 3 (by decide)
          clear hh hd hc hj hi
          refine wpOp_step rfl (fun K hK => ?_)
          go_simp
          exact hK _ _ ⟨⟨⟩, fun _ _ => rfl, by simp [Act.put], HN.out⟩
        | 4, ho, hi, hd =>
          simp only [List.getElem?_cons_succ, List.getElem?_cons_zero, Option.some.injEq] at ho
          subst ho
          have g5 : a1.tmps[5]? = some (.slice (some ⟨g, o, none⟩) Q0.length d0) := hh.old 5 (by kernel_rfl) rfl
          have HN : Hid (JP 8 [] (fun u => Kept wr u) (fun u => Q u) (done d 4) u) := hj.plain 4 (by decide)
          clear hh hd hc hj hi
          refine wpOp_step rfl (fun K hK => ?_)
          go_simp
          exact hK _ _ ⟨⟨⟩, fun _ _ => rfl, by simp [Act.put], HN.out⟩
        | 5, ho, hi, hd =>
          simp only [List.getElem?_cons_succ, List.getElem?_cons_zero, Option.some.injEq] at ho
          subst ho
          have g6 : a1.tmps[6]? = some (.int .i64 (k : Int)) := hh.old 6 (by kernel_rfl) rfl
          have HN : Hid (JP 8 [] (fun u => Kept wr u) (fun u => Q u) (done d 5) u) := hj.plain 5 (by decide)
          clear hh hd hc hj hi
          refine wpOp_step rfl (fun K hK => ?_)
          go_simp
          exact hK _ _ ⟨⟨⟩, fun _ _ => rfl, by simp [Act.put], HN.out⟩
        | 6, ho, hi, hd =>
          simp only [List.getElem?_cons_succ, List.getElem?_cons_zero, Option.some.injEq] at ho
          subst ho
          have g43 : a1.tmps[43]? = some (.slice (some ⟨g, o, none⟩) Q0.length d0) := hh.did 4 _ 43 rfl rfl (hd { on := 4, ground := .data } (by simp) rfl)
          have g44 : a1.tmps[44]? = some (.int .i64 (k : Int)) := hh.did 5 _ 44 rfl rfl (hd { on := 5, ground := .data } (by simp) rfl)
          have HN : Hid (JP 8 [] (fun u => Kept wr u) (fun u => Q u) (done d 6) u) := hj.plain 6 (by decide)
          clear hh hd hc hj hi
          refine wpOp_step rfl (fun K hK => ?_)
          go_simp
          exact hK _ _ ⟨⟨⟩, fun _ _ => rfl, by simp [Act.put], HN.out⟩
        | 7, ho, hi, hd =>
          simp only [List.getElem?_cons_succ, List.getElem?_cons_zero, Option.some.injEq] at ho
          subst ho
          have g45 : a1.tmps[45]? = some (.pointer (some ⟨g, o + k, none⟩)) := hh.did 6 _ 45 rfl rfl (hd { on := 6, ground := .data } (by simp) rfl)
          have n8 : d 8 = false := by
            cases q : d 8 with
            | false => rfl
            | true => exact absurd (hc 8 _ rfl q { on := 7, ground := .data } (by simp) rfl) (by simp [hi])
          have h0 := hj.now n8
          have cz := HD.out.2 u h0
          have HN : Hid (JP 8 [] (fun u => Kept wr u) (fun u => Q u) (done d 7) u) := hj.plain 7 (by decide)
          clear hh hd hc hj hi
          refine wpOp_step rfl (fun K hK => ?_)
          go_simp
          exact hK _ _ ⟨⟨⟩, fun _ _ => rfl, by simp [Act.put], HN.out⟩
        | 8, ho, hi, hd =>
          simp only [List.getElem?_cons_succ, List.getElem?_cons_zero, Option.some.injEq] at ho
          subst ho
          have g42 : a1.tmps[42]? = some (.pointer (some ⟨A.tb, 0, none⟩)) := hh.did 3 _ 42 rfl rfl (hd { on := 3, ground := .data } (by simp) rfl)
          have g46 : a1.tmps[46]? = some (.int .i64 z) := hh.did 7 _ 46 rfl rfl (hd { on := 7, ground := .data } (by simp) rfl)
          have h0 := hj.now hi
          have C := HT.out u h0
          clear hh hd hc hj hi h0
          refine wpOp_step rfl (fun K hK => ?_)
          go_simp
          refine C.mono ?_
          rintro e u2 ⟨rfl, q2⟩
          exact hK _ _ ⟨(), fun _ _ => rfl, by simp [Act.put], JP.turn (fun r hr => absurd hr (by simp)) q2⟩
        | n + 9, ho, hi, hd => simp at ho
      · intro ng u d hall hj0
        obtain ⟨⟩ := ng
        have hj : JP 8 [] (fun u => Kept wr u) (fun u => Q u) d u := hj0
        clear hj0
        have h1 : Hid (Q u) := hj.fin (hall 8 (by decide))
        clear hall hj
        refine norm_list' (L' := [_, _, _, _, _, _, _, _, _, _, _, _, _, _, _, _, _, _, _, _, _, _, _, _, _, _, _, _, _, _, _, _, _, _, _, _, _, _, _, _, _, _, _, _, _, _, _, _, _, _, _, _, _, _, _, _, _, _, _]) rfl ?_
        have HMid : Hid (RSH B u c2 A { S3 with T := setT S3.n S3.T z 0 false false } ∧ Stp c w c2 u ∧ Lst u 0 (.slice (some ⟨g, o, none⟩) Q0.length d0) Q0) := HQ.out u h1.out
        clear h1 HQ HD HT
        obtain ⟨wm, rfl⟩ : ∃ wm, wm = u := ⟨_, rfl⟩
        obtain ⟨Q, hQ⟩ : ∃ Q : World → Prop, Q = fun u => RSH B u c2 A (S2.fres (Q0.take (k + 1))) ∧ Stp c w c2 u ∧ Lst u 0 (.slice (some ⟨g, o, none⟩) Q0.length d0) Q0 := ⟨_, rfl⟩
        have HQ : Hid (∀ u, Q u → RSH B u c2 A (S2.fres (Q0.take (k + 1))) ∧ Stp c w c2 u ∧ Lst u 0 (.slice (some ⟨g, o, none⟩) Q0.length d0) Q0) := fun u q => by rw [hQ] at q; exact q
        have HD : Hid ((∀ u, Kept wm u → u.cell? ⟨A.b, 10, none⟩ = some (.pointer (some ⟨A.pb, 0, none⟩))) ∧ (∀ u, Kept wm u → u.cell? ⟨g, o + k, none⟩ = some (.int .i64 z))) :=
          ⟨fun u q => (HMid.out.1.kept q).cell (i := 10) (u := .pointer (some ⟨A.pb, 0, none⟩)) (fun _ _ => rfl), fun u q => by
            obtain ⟨g', o', e, hgl, hc⟩ := (HMid.out.2.2.kept q).rdi (by omega)
            cases e
            rw [hc k hlt, HZ.out.1]⟩
        obtain ⟨rb, hrb⟩ : ∃ rb : Bool, rb = giveB S3.n S3.F z := ⟨_, rfl⟩
        have HT : Hid (∀ u, Kept wm u → Calls Tryz.prog 113 #[.pointer (some ⟨A.pb, 0, none⟩), .int .i64 z] u fun e u' => e = .returned (.bool rb) ∧ Q u') := fun u q => by
          rw [hrb, hQ]
          refine (prgive_any z u (HMid.out.1.kept q).pool).mono ?_
          rintro e u' ⟨rfl, t3, m3⟩
          have r := (HMid.out.1.kept q).pools t3 m3
          refine ⟨rfl, ?_, HMid.out.2.1.trans ((Stp.kept q).trans r.2), (HMid.out.2.2.kept q).muts m3 fun j hj qq => ?_⟩
          · rw [← HZ.out.2]; exact r.1
          · have h1 := H2.out.2.2.2 j hj
            rw [List.mem_singleton.1 qq, HMid.out.1.cpg] at h1; omega
        clear hQ hrb
        go_wp2_with fail
        refine wp_region_ghost (G := Unit) (fun ⟨⟩ => [(.pointer (some ⟨A.b, 0, none⟩)), (.pointer (some ⟨A.b, 0, none⟩)), (.pointer (some ⟨A.b, 10, none⟩)), (.pointer (some ⟨A.pb, 0, none⟩)), (.slice (some ⟨g, o, none⟩) Q0.length d0), (.int .i64 (k : Int)), (.pointer (some ⟨g, o + k, none⟩)), (.int .i64 z), (.bool rb)]) [(48, 0), (49, 1), (50, 2), (51, 3), (52, 4), (53, 5), (54, 6), (55, 7), (56, 8)] (fun ⟨⟩ d u => JP 8 [] (fun u => Kept wm u) (fun u => Q u) d u) (by kernel_rfl) (by kernel_rfl) (by kernel_rfl) (by kernel_rfl) (fun _ => rfl) ?_ ?_ ?_
        · exact ⟨(), JP.start (Kept.refl _).drew⟩
        · intro i1 o1 ho ng a1 d u hh hj0 hi hd hc
          obtain ⟨⟩ := ng
          have hj : JP 8 [] (fun u => Kept wm u) (fun u => Q u) d u := hj0
          clear hj0
          match i1, ho, hi, hd with
          | 0, ho, hi, hd =>
            simp only [List.getElem?_cons_zero, Option.some.injEq] at ho
            subst ho
            have g0 : a1.tmps[0]? = some (.pointer (some ⟨A.b, 0, none⟩)) := hh.old 0 (by kernel_rfl) rfl
            have HN : Hid (JP 8 [] (fun u => Kept wm u) (fun u => Q u) (done d 0) u) := hj.plain 0 (by decide)
            clear hh hd hc hj hi
            refine wpOp_step rfl (fun K hK => ?_)
            go_simp
            exact hK _ _ ⟨⟨⟩, fun _ _ => rfl, by simp [Act.put], HN.out⟩
          | 1, ho, hi, hd =>
            simp only [List.getElem?_cons_succ, List.getElem?_cons_zero, Option.some.injEq] at ho
            subst ho
            have g48 : a1.tmps[48]? = some (.pointer (some ⟨A.b, 0, none⟩)) := hh.did 0 _ 48 rfl rfl (hd { on := 0, ground := .data } (by simp) rfl)
            have HN : Hid (JP 8 [] (fun u => Kept wm u) (fun u => Q u) (done d 1) u) := hj.plain 1 (by decide)
            clear hh hd hc hj hi
            refine wpOp_step rfl (fun K hK => ?_)
            go_simp
            exact hK _ _ ⟨⟨⟩, fun _ _ => rfl, by simp [Act.put], HN.out⟩
          | 2, ho, hi, hd =>
            simp only [List.getElem?_cons_succ, List.getElem?_cons_zero, Option.some.injEq] at ho
            subst ho
            have g49 : a1.tmps[49]? = some (.pointer (some ⟨A.b, 0, none⟩)) := hh.did 1 _ 49 rfl rfl (hd { on := 1, ground := .data } (by simp) rfl)
            have HN : Hid (JP 8 [] (fun u => Kept wm u) (fun u => Q u) (done d 2) u) := hj.plain 2 (by decide)
            clear hh hd hc hj hi
            refine wpOp_step rfl (fun K hK => ?_)
            go_simp
            exact hK _ _ ⟨⟨⟩, fun _ _ => rfl, by simp [Act.put], HN.out⟩
          | 3, ho, hi, hd =>
            simp only [List.getElem?_cons_succ, List.getElem?_cons_zero, Option.some.injEq] at ho
            subst ho
            have g50 : a1.tmps[50]? = some (.pointer (some ⟨A.b, 10, none⟩)) := hh.did 2 _ 50 rfl rfl (hd { on := 2, ground := .data } (by simp) rfl)
            have n8 : d 8 = false := by
              cases q : d 8 with
              | false => rfl
              | true => exact absurd (hc 8 _ rfl q { on := 3, ground := .data } (by simp) rfl) (by simp [hi])
            have h0 := hj.now n8
            have c10 := HD.out.1 u h0
            have HN : Hid (JP 8 [] (fun u => Kept wm u) (fun u => Q u) (done d 3) u) := hj.plain 3 (by decide)
            clear hh hd hc hj hi
            refine wpOp_step rfl (fun K hK => ?_)
            go_simp
            exact hK _ _ ⟨⟨⟩, fun _ _ => rfl, by simp [Act.put], HN.out⟩
          | 4, ho, hi, hd =>
            simp only [List.getElem?_cons_succ, List.getElem?_cons_zero, Option.some.injEq] at ho
            subst ho
            have g5 : a1.tmps[5]? = some (.slice (some ⟨g, o, none⟩) Q0.length d0) := hh.old 5 (by kernel_rfl) rfl
            have HN : Hid (JP 8 [] (fun u => Kept wm u) (fun u => Q u) (done d 4) u) := hj.plain 4 (by decide)
            clear hh hd hc hj hi
            refine wpOp_step rfl (fun K hK => ?_)
            go_simp
            exact hK _ _ ⟨⟨⟩, fun _ _ => rfl, by simp [Act.put], HN.out⟩
          | 5, ho, hi, hd =>
            simp only [List.getElem?_cons_succ, List.getElem?_cons_zero, Option.some.injEq] at ho
            subst ho
            have g6 : a1.tmps[6]? = some (.int .i64 (k : Int)) := hh.old 6 (by kernel_rfl) rfl
            have HN : Hid (JP 8 [] (fun u => Kept wm u) (fun u => Q u) (done d 5) u) := hj.plain 5 (by decide)
            clear hh hd hc hj hi
            refine wpOp_step rfl (fun K hK => ?_)
            go_simp
            exact hK _ _ ⟨⟨⟩, fun _ _ => rfl, by simp [Act.put], HN.out⟩
          | 6, ho, hi, hd =>
            simp only [List.getElem?_cons_succ, List.getElem?_cons_zero, Option.some.injEq] at ho
            subst ho
            have g52 : a1.tmps[52]? = some (.slice (some ⟨g, o, none⟩) Q0.length d0) := hh.did 4 _ 52 rfl rfl (hd { on := 4, ground := .data } (by simp) rfl)
            have g53 : a1.tmps[53]? = some (.int .i64 (k : Int)) := hh.did 5 _ 53 rfl rfl (hd { on := 5, ground := .data } (by simp) rfl)
            have HN : Hid (JP 8 [] (fun u => Kept wm u) (fun u => Q u) (done d 6) u) := hj.plain 6 (by decide)
            clear hh hd hc hj hi
            refine wpOp_step rfl (fun K hK => ?_)
            go_simp
            exact hK _ _ ⟨⟨⟩, fun _ _ => rfl, by simp [Act.put], HN.out⟩
          | 7, ho, hi, hd =>
            simp only [List.getElem?_cons_succ, List.getElem?_cons_zero, Option.some.injEq] at ho
            subst ho
            have g54 : a1.tmps[54]? = some (.pointer (some ⟨g, o + k, none⟩)) := hh.did 6 _ 54 rfl rfl (hd { on := 6, ground := .data } (by simp) rfl)
            have n8 : d 8 = false := by
              cases q : d 8 with
              | false => rfl
              | true => exact absurd (hc 8 _ rfl q { on := 7, ground := .data } (by simp) rfl) (by simp [hi])
            have h0 := hj.now n8
            have cz := HD.out.2 u h0
            have HN : Hid (JP 8 [] (fun u => Kept wm u) (fun u => Q u) (done d 7) u) := hj.plain 7 (by decide)
            clear hh hd hc hj hi
            refine wpOp_step rfl (fun K hK => ?_)
            go_simp
            exact hK _ _ ⟨⟨⟩, fun _ _ => rfl, by simp [Act.put], HN.out⟩
          | 8, ho, hi, hd =>
            simp only [List.getElem?_cons_succ, List.getElem?_cons_zero, Option.some.injEq] at ho
            subst ho
            have g51 : a1.tmps[51]? = some (.pointer (some ⟨A.pb, 0, none⟩)) := hh.did 3 _ 51 rfl rfl (hd { on := 3, ground := .data } (by simp) rfl)
            have g55 : a1.tmps[55]? = some (.int .i64 z) := hh.did 7 _ 55 rfl rfl (hd { on := 7, ground := .data } (by simp) rfl)
            have h0 := hj.now hi
            have C := HT.out u h0
            clear hh hd hc hj hi h0
            refine wpOp_step rfl (fun K hK => ?_)
            go_simp
            refine C.mono ?_
            rintro e u2 ⟨rfl, q2⟩
            exact hK _ _ ⟨(), fun _ _ => rfl, by simp [Act.put], JP.turn (fun r hr => absurd hr (by simp)) q2⟩
          | n + 9, ho, hi, hd => simp at ho
        · intro ng u d hall hj0
          obtain ⟨⟩ := ng
          have hj : JP 8 [] (fun u => Kept wm u) (fun u => Q u) d u := hj0
          clear hj0
          have h1 : Hid (Q u) := hj.fin (hall 8 (by decide))
          clear hall hj
          refine norm_list' (L' := [_, _, _, _, _, _, _, _, _, _, _, _, _, _, _, _, _, _, _, _, _, _, _, _, _, _, _, _, _, _, _, _, _, _, _, _, _, _, _, _, _, _, _, _, _, _, _, _, _, _, _, _, _, _, _, _, _, _, _]) rfl ?_
          go_wp2
          go_roundg (gk - 1)
          all_goals (have := HM.out; try omega)
          exact ⟨k + 1, by go_num, by omega, by omega, HQ.out u h1.out⟩
    · obtain rfl : k = Q0.length := by omega
      have e1 : Q0.take Q0.length = Q0 := List.take_length
      rw [e1] at hw
      have HF : Hid (RSH B wr c2 A (S2.fres Q0) ∧ Stp c w c2 wr) := ⟨hw.out.1, hw.out.2.1⟩
      clear hw
      go_wp2
      go_ret
      exact ⟨by rw [HN.out] <;> rfl, c2, by rw [HA.out]; exact HF.out⟩
end
end Go.Proofs.YtahpnnjemjjfhaaGreat

