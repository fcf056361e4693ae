/-
  The modules RspC, one behind another.
-/
import Derived.Test.YtahpnnjemjjfhaaGreatM24
/-
  Contract of the document's Ask.
-/
namespace Go.Proofs.YtahpnnjemjjfhaaGreat
open Go.RowKit

theorem nr_find {E E' : List Ent} (h : E.map Ent.nr = E'.map Ent.nr) (p : Ent → Bool) (hp : ∀ e, p e.nr = p e) : (E.find? p).map Ent.nr = (E'.find? p).map Ent.nr := by
  have F : ∀ E : List Ent, (E.map Ent.nr).find? p = (E.find? p).map Ent.nr := fun E => by
    rw [List.find?_map, show (p ∘ Ent.nr) = p from funext hp]
  rw [← F, ← F, h]
theorem nr_idx {E E' : List Ent} (h : E.map Ent.nr = E'.map Ent.nr) (p : Ent → Bool) (hp : ∀ e, p e.nr = p e) : idx p E = idx p E' := by
  have F : ∀ E : List Ent, idx p (E.map Ent.nr) = idx p E := fun E => by
    unfold idx
    rw [List.findIdx?_map, show (p ∘ Ent.nr) = p from funext hp]
  rw [← F, ← F E', h]
theorem nr_len {E E' : List Ent} (h : E.map Ent.nr = E'.map Ent.nr) : E.length = E'.length := by simpa using congrArg List.length h
theorem nr_wts {E E' : List Ent} (h : E.map Ent.nr = E'.map Ent.nr) : (wts E).length = (wts E').length := by
  have F : ∀ E : List Ent, (wts (E.map Ent.nr)).length = (wts E).length := fun E => by
    unfold wts
    rw [List.filter_map, List.length_map]
    rfl
  rw [← F, ← F E', h]
theorem nr_wth {E E' : List Ent} (h : E.map Ent.nr = E'.map Ent.nr) : (wts E).map Ent.th = (wts E').map Ent.th := by
  have F : ∀ E : List Ent, (wts (E.map Ent.nr)).map Ent.th = (wts E).map Ent.th := fun E => by
    unfold wts
    rw [List.filter_map, List.map_map]
    rfl
  rw [← F, ← F E', h]
theorem nr_mem {E E' : List Ent} (h : E.map Ent.nr = E'.map Ent.nr) {e : Ent} (he : e ∈ E) : ∃ e' ∈ E', e'.nr = e.nr := by
  have h1 : e.nr ∈ E'.map Ent.nr := h ▸ List.mem_map_of_mem he
  obtain ⟨e', h2, h3⟩ := List.mem_map.1 h1
  exact ⟨e', h2, h3⟩
theorem nr_th {E E' : List Ent} (h : E.map Ent.nr = E'.map Ent.nr) {e : Ent} (he : e ∈ E) : ∃ e' ∈ E', e'.th = e.th := by
  obtain ⟨e', h1, h2⟩ := nr_mem h he
  exact ⟨e', h1, show e'.nr.th = e.nr.th from congrArg Ent.th h2⟩
theorem nrel_add {E : List Ent} {N : List Int} {t fr sp : Int} (h : Nrel E N) (ht : ∀ e ∈ E, e.th ≠ t) : Nrel (E ++ [newEnt t fr sp]) N := by
  refine ⟨fun e he hs => ?_, fun x hx => ?_, ?_, h.few⟩
  · rcases List.mem_append.1 he with q | q
    · exact h.nt e q hs
    · rw [List.mem_singleton.1 q]
      refine ⟨fun q => absurd q (by simp [newEnt]), fun q => ?_⟩
      obtain ⟨e', h1, h2⟩ := h.sub _ q
      exact absurd h2 (ht e' h1)
  · obtain ⟨e, h1, h2⟩ := h.sub x hx
    exact ⟨e, List.mem_append_left _ h1, h2⟩
  · rw [List.map_append, List.nodup_append]
    refine ⟨h.nd, by simp, fun a ha b hb e => ?_⟩
    obtain ⟨e', h1, h2⟩ := List.mem_map.1 ha
    have : b = t := by simpa [newEnt] using hb
    exact ht e' h1 (h2.trans (e.trans this))

theorem Kept.alloc_any {w w' : World} (k : Kept w w') (C : Obj) : Kept w (w'.alloc C) := ⟨k.below.alloc k.size _⟩

section
variable {B : Nat} {c c' : Nat → Nat} {w w' W : World} {A : Ar} {S : Sp}
theorem RSH.qcell (h : RSH B w c A S) {i : Nat} (hi : i < S.m) : w.cell? ⟨A.sb, i, none⟩ = some (.pointer (some ⟨A.q i, 0, none⟩)) := by
  obtain ⟨M, f, r1, r2, r3⟩ := h.row
  rw [r1.cell (by omega : i < M), r3 i hi]
/-- A block of one's own was written. -/
theorem RSH.own {b : Nat} (h : RSH B w c A S) (m : Mut [b] w w') (hb : c b = 0) (hB : B ≤ b) : RSH B w' c A S := h.muts m fun k hk => by rw [List.mem_singleton.1 hk]; exact ⟨hb, hB⟩
theorem rgrant_end {b : Nat} {u0 u1 u2 : Value} {c0 : Nat → Nat} {w0 : World} {x : Option Addr} {G : List Int} (v0 v1 v2 : Value) (K : Blk W b [u0, u1, u2]) (s : RSH B W c A S) (p : Stp c0 w0 c W) (hb : c b = 0) (hw : w0.heap.size ≤ b) (hB : B ≤ b) (r : Rdi W x G) (hx : ∀ g o, x = some ⟨g, o, none⟩ → g ≠ b) :
    Blk (((W.setCell ⟨b, 0, none⟩ v0).setCell ⟨b, 1, none⟩ v1).setCell ⟨b, 2, none⟩ v2) b [v0, v1, v2] ∧ RSH B (((W.setCell ⟨b, 0, none⟩ v0).setCell ⟨b, 1, none⟩ v1).setCell ⟨b, 2, none⟩ v2) c A S ∧ Stp c0 w0 c (((W.setCell ⟨b, 0, none⟩ v0).setCell ⟨b, 1, none⟩ v1).setCell ⟨b, 2, none⟩ v2) ∧ Rdi (((W.setCell ⟨b, 0, none⟩ v0).setCell ⟨b, 1, none⟩ v1).setCell ⟨b, 2, none⟩ v2) x G := by
  have m : Mut [b] W (((W.setCell ⟨b, 0, none⟩ v0).setCell ⟨b, 1, none⟩ v1).setCell ⟨b, 2, none⟩ v2) := (((Mut.refl [b] W).setCell (p := ⟨b, 0, none⟩) (by simp) v0).setCell (p := ⟨b, 1, none⟩) (by simp) v1).setCell (p := ⟨b, 2, none⟩) (by simp) v2
  exact ⟨((K.set (i := 0) rfl v0).set (i := 1) rfl v1).set (i := 2) rfl v2, s.own m hb hB, p.own m hw, r.muts m fun g o e q => hx g o e (by simpa using q)⟩

set_option maxRecDepth 20000 in
set_option maxHeartbeats 16000000 in
theorem rask_any (t fr sp : Int) (se : Bool) (w : World) (h : RSH B w c A S) {kb : Nat} (hk : S.Bd kb) (hkb : kb ≤ 50000) :
    Calls Tryz.prog 44 #[.pointer (some ⟨A.b, 0, none⟩), .int .i64 t, .int .i64 fr, .int .i64 sp, .bool se] w fun e w' => ∃ x d, e = .returned (.agg #[.int .i64 (S.askG t fr sp).st, .slice x (S.askG t fr sp).G.length d, .int .i64 (S.askG t fr sp).at_]) ∧
      Rdi w' x (S.askG t fr sp).G ∧ ∃ c', RSH B w' c' A (S.ask t fr sp se) ∧ Stp c w c' w' := by
  have HS : Hid (RSH B w c A S) := h
  have HK : Hid (S.Bd kb ∧ kb ≤ 50000) := ⟨hk, hkb⟩
  have hct : 0 ≤ S.ct ∧ S.ct ≤ 50000 := ⟨hk.c0, by have := hk.c1; omega⟩
  have k0 : Kept w (w.alloc (.cells #[.int .i64 0, .slice none 0 0, .int .i64 0] 71)) := (Kept.refl w).alloc _ _
  have c16 := (h.kept k0).cell (i := 16) (u := .int .i64 S.ct) fun _ _ => rfl
  have f16 := (h.kept k0).fz 16
  have z0 : A.b ≠ w.heap.size := by obtain ⟨_, _, _, q⟩ := h.hd; have := h.low A.b (by rw [q]; decide); omega
  clear k0
  have HA : Hid (S.ask t fr sp se = if S.may t fr sp then
    if sp == 0 && decide (fr ≤ ((S.Q t.toNat).length : Int)) then S.tick.takeS t fr se
    else if decide ((wts S.E).length = 0) && fitsB S fr sp then (S.tick.tk fr sp se).fill t.toNat
    else S.tick.addE t fr sp
  else S.tick) := rfl
  have HG : Hid (S.askG t fr sp = if S.may t fr sp then
    if sp == 0 && decide (fr ≤ ((S.Q t.toNat).length : Int)) then ⟨1, (S.Q t.toNat).take fr.toNat, -1⟩
    else if decide ((wts S.E).length = 0) && fitsB S fr sp then ⟨1, takeZ S.n S.F fr, S.tkA fr sp⟩
    else ⟨0, [], -1⟩
  else ⟨3, [], -1⟩) := rfl
  obtain ⟨h0, h1⟩ := hct
  have z1 : Hid (c w.heap.size = 0 ∧ B ≤ w.heap.size) := ⟨h.new (Nat.le_refl _), h.base⟩
  have NW : Hid (∀ k, w.heap.size ≤ k → c k = 0) := fun k hk => HS.out.new hk
  have hm16 : S.m ≤ 16 := h.few
  have HMF : S.may t fr sp = (decide (0 ≤ t ∧ t < S.m) && decide (1 ≤ fr) && decide (0 ≤ sp) && !(S.of t).isSome) := rfl
  have HTF : (S.of t).isSome = false → ∀ e ∈ S.E, e.th ≠ t := fun a4 e he q => by
    rw [Option.isSome_eq_false_iff, Option.isNone_iff_eq_none] at a4
    have := List.find?_eq_none.1 a4 e he
    simp [q] at this
  clear h hk hkb
  go_enter Tryz.func44, Tryz.ntmps44
  go_wp2_with fail
  generalize hW : World.setCell _ _ _ = W
  have HB : Hid (Blk W w.heap.size [.int .i64 0, .slice none 0 0, .int .i64 0] ∧ RSH B W c A S.tick ∧ Stp c w c W ∧ W.heap.size = w.heap.size + 1) := by
    rw [← hW]
    have k1 : Kept w (w.alloc (.cells #[.int .i64 0, .slice none 0 0, .int .i64 0] 71)) := (Kept.refl w).alloc _ _
    have s1 := HS.out.kept k1
    exact ⟨(Blk.new w _ _).set_other z0 _, s1.ticks.1, (Stp.kept k1).trans s1.ticks.2, by simp [World.setCell]⟩
  clear hW c16 f16
  obtain ⟨lv, nv, E, N, l1, l2, l3, l4⟩ := HB.out.2.1.line
  have CO := lrof_any t W l1
  have hE : (E.find? fun e => e.th == t).isSome = (S.of t).isSome := by
    have := congrArg Option.isSome (nr_find (show E.map Ent.nr = S.E.map Ent.nr from l2) (fun e => e.th == t) (fun _ => rfl))
    simpa [Sp.of] using this
  rw [hE] at CO
  clear l1 l2 l3 l4 hE
  simp only [Ent.agg] at CO
  generalize told _ = ee at *
  generalize (S.of t).isSome = there at *
  have HM : Hid (S.may t fr sp = (decide (0 ≤ t ∧ t < S.m) && decide (1 ≤ fr) && decide (0 ≤ sp) && !there)) := HMF
  have HTH : Hid (there = false → ∀ e ∈ S.E, e.th ≠ t) := HTF
  clear HMF HTF
  refine CO.mono ?_
  rintro e w1 ⟨rfl, k1⟩
  have H1 : Hid (Blk w1 w.heap.size [.int .i64 0, .slice none 0 0, .int .i64 0] ∧ RSH B w1 c A S.tick ∧ Stp c w c w1 ∧ w.heap.size + 1 ≤ w1.heap.size) := ⟨HB.out.1.kept k1, HB.out.2.1.kept k1, HB.out.2.2.1.trans (Stp.kept k1), by have := k1.size; have := HB.out.2.2.2; omega⟩
  clear k1 CO
  have c11 : ∀ C, (w1.alloc C).cell? ⟨A.b, 11, none⟩ = some (.slice (some ⟨A.sb, 0, none⟩) S.m A.sc) := fun C => (H1.out.2.1.kept ((Kept.refl w1).alloc_any C)).cell (i := 11) (u := .slice (some ⟨A.sb, 0, none⟩) S.m A.sc) (fun _ _ => rfl)
  by_cases ht0 : t < 0
  · have hm : S.may t fr sp = false := by rw [HM.out]; simp <;> omega
    rw [hm] at HA HG
    simp only [Bool.false_eq_true, if_false] at HA HG
    clear hm
    go_wp2_with fail
    generalize hW2 : w1.alloc _ = W2
    have H3 : Hid (Blk W2 w.heap.size [.int .i64 0, .slice none 0 0, .int .i64 0] ∧ RSH B W2 c A S.tick ∧ Stp c w c W2 ∧ w.heap.size + 1 ≤ W2.heap.size) := by
      have k3 : Kept w1 W2 := by rw [← hW2]; exact (Kept.refl w1).alloc _ _
      exact ⟨H1.out.1.kept k3, H1.out.2.1.kept k3, H1.out.2.2.1.trans (Stp.kept k3), Nat.le_trans H1.out.2.2.2 k3.size⟩
    clear hW2
    refine (nobody_any 3 W2).mono ?_
    rintro e w3 ⟨rfl, k3⟩
    have H4 : Hid (Blk w3 w.heap.size [.int .i64 0, .slice none 0 0, .int .i64 0] ∧ RSH B w3 c A S.tick ∧ Stp c w c w3) := ⟨H3.out.1.kept k3, H3.out.2.1.kept k3, H3.out.2.2.1.trans (Stp.kept k3)⟩
    clear k3
    have b0 := H4.out.1.at 0 rfl
    have b1 := H4.out.1.at 1 rfl
    have b2 := H4.out.1.at 2 rfl
    have bf := H4.out.1.fz
    go_wp2
    (try simp only [Exit.inBlock, Exit.then])
    obtain ⟨g1, g2, g3, _⟩ := rgrant_end (x := none) (G := []) (.int .i64 3) (.slice none 0 0) (.int .i64 (-1)) H4.out.1 H4.out.2.1 H4.out.2.2 z1.out.1 (Nat.le_refl _) z1.out.2 Rdi.nil (fun _ _ e => by cases e)
    exact bodyPost_ret_by (results_blk rfl _ _ w.heap.size [_, _, _] rfl g1 Tryz.underlying71 (by kernel_rfl)) rfl ⟨none, 0, by rw [HG.out] <;> rfl, by rw [HG.out]; exact Rdi.nil, c, by rw [HA.out]; exact g2, g3⟩
  by_cases ht1 : t ≥ (S.m : Int)
  · have hm : S.may t fr sp = false := by rw [HM.out]; simp <;> omega
    rw [hm] at HA HG
    simp only [Bool.false_eq_true, if_false] at HA HG
    clear hm
    go_wp2_with fail
    generalize hW2 : w1.alloc _ = W2
    have H3 : Hid (Blk W2 w.heap.size [.int .i64 0, .slice none 0 0, .int .i64 0] ∧ RSH B W2 c A S.tick ∧ Stp c w c W2 ∧ w.heap.size + 1 ≤ W2.heap.size) := by
      have k3 : Kept w1 W2 := by rw [← hW2]; exact (Kept.refl w1).alloc _ _
      exact ⟨H1.out.1.kept k3, H1.out.2.1.kept k3, H1.out.2.2.1.trans (Stp.kept k3), Nat.le_trans H1.out.2.2.2 k3.size⟩
    clear hW2
    refine (nobody_any 3 W2).mono ?_
    rintro e w3 ⟨rfl, k3⟩
    have H4 : Hid (Blk w3 w.heap.size [.int .i64 0, .slice none 0 0, .int .i64 0] ∧ RSH B w3 c A S.tick ∧ Stp c w c w3) := ⟨H3.out.1.kept k3, H3.out.2.1.kept k3, H3.out.2.2.1.trans (Stp.kept k3)⟩
    clear k3
    have b0 := H4.out.1.at 0 rfl
    have b1 := H4.out.1.at 1 rfl
    have b2 := H4.out.1.at 2 rfl
    have bf := H4.out.1.fz
    go_wp2
    (try simp only [Exit.inBlock, Exit.then])
    obtain ⟨g1, g2, g3, _⟩ := rgrant_end (x := none) (G := []) (.int .i64 3) (.slice none 0 0) (.int .i64 (-1)) H4.out.1 H4.out.2.1 H4.out.2.2 z1.out.1 (Nat.le_refl _) z1.out.2 Rdi.nil (fun _ _ e => by cases e)
    exact bodyPost_ret_by (results_blk rfl _ _ w.heap.size [_, _, _] rfl g1 Tryz.underlying71 (by kernel_rfl)) rfl ⟨none, 0, by rw [HG.out] <;> rfl, by rw [HG.out]; exact Rdi.nil, c, by rw [HA.out]; exact g2, g3⟩
  by_cases hf0 : fr < 1
  · have hm : S.may t fr sp = false := by rw [HM.out]; simp <;> omega
    rw [hm] at HA HG
    simp only [Bool.false_eq_true, if_false] at HA HG
    clear hm
    go_wp2_with fail
    generalize hW2 : w1.alloc _ = W2
    have H3 : Hid (Blk W2 w.heap.size [.int .i64 0, .slice none 0 0, .int .i64 0] ∧ RSH B W2 c A S.tick ∧ Stp c w c W2 ∧ w.heap.size + 1 ≤ W2.heap.size) := by
      have k3 : Kept w1 W2 := by rw [← hW2]; exact (Kept.refl w1).alloc _ _
      exact ⟨H1.out.1.kept k3, H1.out.2.1.kept k3, H1.out.2.2.1.trans (Stp.kept k3), Nat.le_trans H1.out.2.2.2 k3.size⟩
    clear hW2
    refine (nobody_any 3 W2).mono ?_
    rintro e w3 ⟨rfl, k3⟩
    have H4 : Hid (Blk w3 w.heap.size [.int .i64 0, .slice none 0 0, .int .i64 0] ∧ RSH B w3 c A S.tick ∧ Stp c w c w3) := ⟨H3.out.1.kept k3, H3.out.2.1.kept k3, H3.out.2.2.1.trans (Stp.kept k3)⟩
    clear k3
    have b0 := H4.out.1.at 0 rfl
    have b1 := H4.out.1.at 1 rfl
    have b2 := H4.out.1.at 2 rfl
    have bf := H4.out.1.fz
    go_wp2
    (try simp only [Exit.inBlock, Exit.then])
    obtain ⟨g1, g2, g3, _⟩ := rgrant_end (x := none) (G := []) (.int .i64 3) (.slice none 0 0) (.int .i64 (-1)) H4.out.1 H4.out.2.1 H4.out.2.2 z1.out.1 (Nat.le_refl _) z1.out.2 Rdi.nil (fun _ _ e => by cases e)
    exact bodyPost_ret_by (results_blk rfl _ _ w.heap.size [_, _, _] rfl g1 Tryz.underlying71 (by kernel_rfl)) rfl ⟨none, 0, by rw [HG.out] <;> rfl, by rw [HG.out]; exact Rdi.nil, c, by rw [HA.out]; exact g2, g3⟩
  by_cases hp0 : sp < 0
  · have hm : S.may t fr sp = false := by rw [HM.out]; simp <;> omega
    rw [hm] at HA HG
    simp only [Bool.false_eq_true, if_false] at HA HG
    clear hm
    go_wp2_with fail
    generalize hW2 : w1.alloc _ = W2
    have H3 : Hid (Blk W2 w.heap.size [.int .i64 0, .slice none 0 0, .int .i64 0] ∧ RSH B W2 c A S.tick ∧ Stp c w c W2 ∧ w.heap.size + 1 ≤ W2.heap.size) := by
      have k3 : Kept w1 W2 := by rw [← hW2]; exact (Kept.refl w1).alloc _ _
      exact ⟨H1.out.1.kept k3, H1.out.2.1.kept k3, H1.out.2.2.1.trans (Stp.kept k3), Nat.le_trans H1.out.2.2.2 k3.size⟩
    clear hW2
    refine (nobody_any 3 W2).mono ?_
    rintro e w3 ⟨rfl, k3⟩
    have H4 : Hid (Blk w3 w.heap.size [.int .i64 0, .slice none 0 0, .int .i64 0] ∧ RSH B w3 c A S.tick ∧ Stp c w c w3) := ⟨H3.out.1.kept k3, H3.out.2.1.kept k3, H3.out.2.2.1.trans (Stp.kept k3)⟩
    clear k3
    have b0 := H4.out.1.at 0 rfl
    have b1 := H4.out.1.at 1 rfl
    have b2 := H4.out.1.at 2 rfl
    have bf := H4.out.1.fz
    go_wp2
    (try simp only [Exit.inBlock, Exit.then])
    obtain ⟨g1, g2, g3, _⟩ := rgrant_end (x := none) (G := []) (.int .i64 3) (.slice none 0 0) (.int .i64 (-1)) H4.out.1 H4.out.2.1 H4.out.2.2 z1.out.1 (Nat.le_refl _) z1.out.2 Rdi.nil (fun _ _ e => by cases e)
    exact bodyPost_ret_by (results_blk rfl _ _ w.heap.size [_, _, _] rfl g1 Tryz.underlying71 (by kernel_rfl)) rfl ⟨none, 0, by rw [HG.out] <;> rfl, by rw [HG.out]; exact Rdi.nil, c, by rw [HA.out]; exact g2, g3⟩
  cases there
  case true =>
    have hm : S.may t fr sp = false := by rw [HM.out]; simp <;> omega
    rw [hm] at HA HG
    simp only [Bool.false_eq_true, if_false] at HA HG
    clear hm
    go_wp2_with fail
    generalize hW2 : w1.alloc _ = W2
    have H3 : Hid (Blk W2 w.heap.size [.int .i64 0, .slice none 0 0, .int .i64 0] ∧ RSH B W2 c A S.tick ∧ Stp c w c W2 ∧ w.heap.size + 1 ≤ W2.heap.size) := by
      have k3 : Kept w1 W2 := by rw [← hW2]; exact (Kept.refl w1).alloc _ _
      exact ⟨H1.out.1.kept k3, H1.out.2.1.kept k3, H1.out.2.2.1.trans (Stp.kept k3), Nat.le_trans H1.out.2.2.2 k3.size⟩
    clear hW2
    refine (nobody_any 3 W2).mono ?_
    rintro e w3 ⟨rfl, k3⟩
    have H4 : Hid (Blk w3 w.heap.size [.int .i64 0, .slice none 0 0, .int .i64 0] ∧ RSH B w3 c A S.tick ∧ Stp c w c w3) := ⟨H3.out.1.kept k3, H3.out.2.1.kept k3, H3.out.2.2.1.trans (Stp.kept k3)⟩
    clear k3
    have b0 := H4.out.1.at 0 rfl
    have b1 := H4.out.1.at 1 rfl
    have b2 := H4.out.1.at 2 rfl
    have bf := H4.out.1.fz
    go_wp2
    (try simp only [Exit.inBlock, Exit.then])
    obtain ⟨g1, g2, g3, _⟩ := rgrant_end (x := none) (G := []) (.int .i64 3) (.slice none 0 0) (.int .i64 (-1)) H4.out.1 H4.out.2.1 H4.out.2.2 z1.out.1 (Nat.le_refl _) z1.out.2 Rdi.nil (fun _ _ e => by cases e)
    exact bodyPost_ret_by (results_blk rfl _ _ w.heap.size [_, _, _] rfl g1 Tryz.underlying71 (by kernel_rfl)) rfl ⟨none, 0, by rw [HG.out] <;> rfl, by rw [HG.out]; exact Rdi.nil, c, by rw [HA.out]; exact g2, g3⟩
  case false =>
  have hm : S.may t fr sp = true := by rw [HM.out]; simp <;> omega
  have HMY : Hid (0 ≤ t ∧ 1 ≤ fr ∧ 0 ≤ sp ∧ ∀ e ∈ S.E, e.th ≠ t) := ⟨by omega, by omega, by omega, HTH.out rfl⟩
  rw [hm] at HA HG
  simp only [if_true] at HA HG
  clear hm
  obtain ⟨i, rfl, hi⟩ : ∃ i : Nat, t = i ∧ i < S.m := ⟨t.toNat, by omega, by omega⟩
  simp only [Int.toNat_natCast] at HA HG
  have hfr : 1 ≤ fr := HMY.out.2.1
  have hsp : 0 ≤ sp := HMY.out.2.2.1
  by_cases hs0 : sp = 0
  · subst hs0
    have cq : ∀ C, (w1.alloc C).cell? ⟨A.sb, i, none⟩ = some (.pointer (some ⟨A.q i, 0, none⟩)) := fun C => (H1.out.2.1.kept ((Kept.refl w1).alloc_any C)).qcell hi
    go_wp2_with fail
    generalize hW2 : w1.alloc _ = W2
    have H3 : Hid (Blk W2 w.heap.size [.int .i64 0, .slice none 0 0, .int .i64 0] ∧ RSH B W2 c A S.tick ∧ Stp c w c W2 ∧ w.heap.size + 1 ≤ W2.heap.size) := by
      have k3 : Kept w1 W2 := by rw [← hW2]; exact (Kept.refl w1).alloc _ _
      exact ⟨H1.out.1.kept k3, H1.out.2.1.kept k3, H1.out.2.2.1.trans (Stp.kept k3), Nat.le_trans H1.out.2.2.2 k3.size⟩
    clear hW2
    clear c11 cq
    obtain ⟨v, s1, s2, s3⟩ : ∃ v, STab 102 W2 0 (A.q i) S.most v (S.Q i) ∧ c (A.q i) = 10 + i ∧ ∀ k, v.ownBlock = some k → c k = 10 + i := H3.out.2.1.stk i hi
    by_cases hl : fr ≤ ((S.Q i).length : Int)
    · simp only [hl, decide_true, Bool.and_true, beq_self_eq_true, if_true] at HA HG
      obtain ⟨kf, rfl⟩ : ∃ kf : Nat, fr = kf := ⟨fr.toNat, by omega⟩
      rw [Int.toNat_natCast] at HG
      have CS := srtake_yes (k := kf) W2 s1 (by omega) (by omega)
      generalize hZ : (S.Q i).take kf = Z at *
      have HZ : Hid ((S.Q i).take kf = Z) := hZ
      have hZl : Z.length ≤ 8 := by rw [← hZ, List.length_take]; have := s1.few; have := s1.max; omega
      have HZL : Hid (Z.length ≤ 8) := hZl
      clear hZ hZl
      refine CS.mono ?_
      rintro e w2 ⟨va, v', rfl, l2, t2, m2, f2, n2⟩
      obtain ⟨x, d, rfl⟩ := l2.form
      have H2a := RSH.stks H3.out.2.1 hi s2 s3 t2 m2 (fun k hk => hk) f2
      have H2 : Hid (∃ c2, c2 w.heap.size = 0 ∧ Blk w2 w.heap.size [.int .i64 0, .slice none 0 0, .int .i64 0] ∧ RSH B w2 c2 A { S.tick with Q := fun j => if j = i then (S.Q i).drop kf else S.Q j } ∧ Stp c w c2 w2 ∧ Rdi w2 x Z ∧ ∀ g o, x = some ⟨g, o, none⟩ → c2 g = 0 ∧ W2.heap.size ≤ g) := by
        refine ⟨_, (H2a.2.same _ H3.out.1.lt).trans z1.out.1, H2a.2.blk H3.out.1 z1.out.1, H2a.1, H3.out.2.2.1.trans H2a.2, l2.rdi, fun g o e => ?_⟩
        subst e
        have h1 := (l2.lt g rfl).1
        exact ⟨grow_not h1 (fun q => n2 g rfl (by simpa using q)), h1⟩
      clear H2a l2 t2 m2 f2 n2 CS
      obtain ⟨c2, H2'⟩ := H2.out
      have H4 : Hid (c2 w.heap.size = 0 ∧ Blk w2 w.heap.size [.int .i64 0, .slice none 0 0, .int .i64 0] ∧ RSH B w2 c2 A { S.tick with Q := fun j => if j = i then (S.Q i).drop kf else S.Q j } ∧ Stp c w c2 w2 ∧ Rdi w2 x Z ∧ ∀ g o, x = some ⟨g, o, none⟩ → c2 g = 0 ∧ W2.heap.size ≤ g) := H2'
      clear H2 H2'
      have CU := rused_any (dd := d) se w2 H4.out.2.2.1 H4.out.2.2.2.2.1 (fun g o e q => by rw [(H4.out.2.2.2.2.2 g o e).1] at q; cases q) (by have := HZL.out; omega)
      go_wp2_with fail
      refine CU.mono ?_
      rintro e w3 ⟨rfl, s4, p4, _⟩
      have H5 : Hid (Blk w3 w.heap.size [.int .i64 0, .slice none 0 0, .int .i64 0] ∧ RSH B w3 c2 A (S.tick.takeS i kf se) ∧ Stp c w c2 w3 ∧ Rdi w3 x Z) := by
        refine ⟨p4.blk H4.out.2.1 H4.out.1, ?_, H4.out.2.2.2.1.trans p4, p4.rdi H4.out.2.2.2.2.1 fun g o e => (H4.out.2.2.2.2.2 g o e).1⟩
        have e1 : S.tick.takeS i kf se = { S.tick with T := useT S.n 2 se S.T Z, Q := fun j => if j = i then (S.Q i).drop kf else S.Q j } := by
          rw [← HZ.out]; rfl
        rw [e1]
        exact s4
      clear CU s4 p4
      have b0 := H5.out.1.at 0 rfl
      have b1 := H5.out.1.at 1 rfl
      have b2 := H5.out.1.at 2 rfl
      have bf := H5.out.1.fz
      go_wp2
      (try simp only [Exit.inBlock, Exit.then])
      obtain ⟨g1, g2, g3, g4⟩ := rgrant_end (x := x) (G := Z) (.int .i64 1) (.slice x Z.length d) (.int .i64 (-1)) H5.out.1 H5.out.2.1 H5.out.2.2.1 H4.out.1 (Nat.le_refl _) z1.out.2 H5.out.2.2.2 (fun g o e => by have := (H4.out.2.2.2.2.2 g o e).2; have := H3.out.2.2.2; omega)
      exact bodyPost_ret_by (results_blk rfl _ _ w.heap.size [_, _, _] rfl g1 Tryz.underlying71 (by kernel_rfl)) rfl ⟨x, d, by rw [HG.out] <;> rfl, by rw [HG.out]; exact g4, c2, by rw [HA.out]; exact g2, g3⟩
    · have e0 : decide (fr ≤ ((S.Q i).length : Int)) = false := by simpa using hl
      rw [e0] at HA HG
      simp only [Bool.and_false, Bool.false_eq_true, if_false] at HA HG
      have CS := srtake_no fr W2 s1 (by omega)
      clear e0 hl s1 s2 s3
      refine CS.mono ?_
      rintro e w2 ⟨rfl, e2⟩
      rw [e2]
      clear e2 CS
      obtain ⟨lv0, nv0, E0, N0, q1, q2, _, _⟩ := H3.out.2.1.line
      have CW := lrwaits_any W2 q1
      have hwl : (wts E0).length = (wts S.E).length := nr_wts (show E0.map Ent.nr = S.E.map Ent.nr from q2)
      rw [hwl] at CW
      have hwb : (wts S.E).length ≤ 50000 := by
        have := wts_le S.E
        have := HK.out.1.len
        have := HK.out.2
        omega
      clear q1 q2 hwl
      go_wp2_with fail
      refine CW.mono ?_
      rintro e w2 ⟨rfl, e2⟩
      rw [e2]
      clear e2 CW
      by_cases hz : (wts S.E).length = 0
      · rw [hz] at HA HG
        simp only [decide_true, Bool.true_and] at HA HG
        rw [hz]
        clear hz hwb
        have CF := rfits_any fr 0 W2 H3.out.2.1
        rw [show fitsB S.tick fr 0 = fitsB S fr 0 from rfl] at CF
        go_wp2_with fail
        refine CF.mono ?_
        rintro e w2 ⟨rfl, k2⟩
        have H2 : Hid (Blk w2 w.heap.size [.int .i64 0, .slice none 0 0, .int .i64 0] ∧ RSH B w2 c A S.tick ∧ Stp c w c w2 ∧ w.heap.size + 1 ≤ w2.heap.size) := ⟨H3.out.1.kept k2, H3.out.2.1.kept k2, H3.out.2.2.1.trans (Stp.kept k2), Nat.le_trans H3.out.2.2.2 k2.size⟩
        clear k2 CF H3
        obtain ⟨W2, rfl⟩ : ∃ W2, W2 = w2 := ⟨_, rfl⟩
        have H3 := H2
        clear H2
        cases hft : fitsB S fr 0
        · rw [hft] at HA HG
          simp only [Bool.false_eq_true, if_false] at HA HG
          clear hft
          have HE : Hid (∀ e ∈ S.E, e.th ≠ (i : Int)) := HMY.out.2.2.2
          obtain ⟨lv, nv, E, N, l1, l2, l3, l4⟩ := H3.out.2.1.line
          have l2' : E.map Ent.nr = S.E.map Ent.nr := l2
          have CA := lradd_yes (t := (i : Int)) (f := fr) (s := 0) (s3 := 0) (s4 := 0) (s5 := 0) (x := none) (l := 0) (c := 0) W2 l1 (by
            have e1 : E.length = S.E.length := nr_len l2'
            have := HK.out.1.len
            have := HK.out.2
            omega) (fun e he q => by
            obtain ⟨e2, h2, q2⟩ := nr_th l2' he
            exact HE.out e2 h2 (q2.trans q))
          go_wp2_with fail
          refine CA.mono ?_
          rintro e w4 ⟨rfl, v', t2, m2, f2⟩
          have H2a := RSH.lines (EE := S.E ++ [newEnt i fr 0]) (fo := S.fo) (ct := S.ct + 1) H3.out.2.1 l4 t2 m2 (fun k hk => memR_own hk) f2 (by rw [List.map_append, l2', List.map_append]) (nrel_add l3 (fun e he => HE.out e he))
          have H2 : Hid (∃ c', c' w.heap.size = 0 ∧ Blk w4 w.heap.size [.int .i64 0, .slice none 0 0, .int .i64 0] ∧ RSH B w4 c' A (S.tick.addE i fr 0) ∧ Stp c w c' w4) :=
            ⟨_, (H2a.2.same _ H3.out.1.lt).trans z1.out.1, H2a.2.blk H3.out.1 z1.out.1, H2a.1, H3.out.2.2.1.trans H2a.2⟩
          clear H2a t2 m2 f2 l1 l2 l2' l3 l4 CA
          obtain ⟨c2, H2'⟩ := H2.out
          have H4 : Hid (c2 w.heap.size = 0 ∧ Blk w4 w.heap.size [.int .i64 0, .slice none 0 0, .int .i64 0] ∧ RSH B w4 c2 A (S.tick.addE i fr 0) ∧ Stp c w c2 w4) := H2'
          clear H2 H2'
          go_wp2_with fail
          refine (nobody_any 0 w4).mono ?_
          rintro e w5 ⟨rfl, k5⟩
          have H5 : Hid (Blk w5 w.heap.size [.int .i64 0, .slice none 0 0, .int .i64 0] ∧ RSH B w5 c2 A (S.tick.addE i fr 0) ∧ Stp c w c2 w5) := ⟨H4.out.2.1.kept k5, H4.out.2.2.1.kept k5, H4.out.2.2.2.trans (Stp.kept k5)⟩
          clear k5
          have b0 := H5.out.1.at 0 rfl
          have b1 := H5.out.1.at 1 rfl
          have b2 := H5.out.1.at 2 rfl
          have bf := H5.out.1.fz
          go_wp2
          (try simp only [Exit.inBlock, Exit.then])
          obtain ⟨g1, g2, g3, _⟩ := rgrant_end (x := none) (G := []) (.int .i64 0) (.slice none 0 0) (.int .i64 (-1)) H5.out.1 H5.out.2.1 H5.out.2.2 H4.out.1 (Nat.le_refl _) z1.out.2 Rdi.nil (fun _ _ e => by cases e)
          exact bodyPost_ret_by (results_blk rfl _ _ w.heap.size [_, _, _] rfl g1 Tryz.underlying71 (by kernel_rfl)) rfl ⟨none, 0, by rw [HG.out] <;> rfl, by rw [HG.out]; exact Rdi.nil, c2, by rw [HA.out]; exact g2, g3⟩
        · rw [hft] at HA HG
          simp only [if_true] at HA HG
          have CT := rgrant_any fr 0 se W2 H3.out.2.1 hft hfr hsp
          rw [show takeZ S.tick.n S.tick.F fr = takeZ S.n S.F fr from rfl, show S.tick.tkA fr 0 = S.tkA fr 0 from rfl] at CT
          clear hft
          generalize hZ : takeZ S.n S.F fr = Z at *
          generalize hY : S.tkA fr 0 = ta at *
          obtain ⟨S2, hS2⟩ : ∃ S2, S2 = S.tick.tk fr 0 se := ⟨_, rfl⟩
          have HS2 : Hid (S2.m = S.m ∧ S2.most = S.most) := by rw [hS2]; exact ⟨rfl, rfl⟩
          rw [← hS2] at CT HA
          clear hZ hY hS2
          go_wp2_with fail
          refine CT.mono ?_
          rintro e w2 ⟨x, dx, rfl, s2, p2, r2, n2⟩
          have H2 : Hid (Blk w2 w.heap.size [.int .i64 0, .slice none 0 0, .int .i64 0] ∧ RSH B w2 c A S2 ∧ Stp c w c w2 ∧ Rdi w2 x Z) := ⟨p2.blk H3.out.1 z1.out.1, s2, H3.out.2.2.1.trans p2, r2⟩
          have HX : Hid (∀ g o, x = some ⟨g, o, none⟩ → W2.heap.size ≤ g) := n2
          have HSZ : Hid (w.heap.size + 1 ≤ W2.heap.size ∧ w.heap.size ≤ w2.heap.size) := ⟨H3.out.2.2.2, by have := H3.out.2.2.2; have := p2.mu.size; omega⟩
          clear CT s2 p2 r2 n2
          have HIM : Hid (i < S2.m) := by rw [HS2.out.1]; exact hi
          obtain ⟨rm, hrm⟩ : ∃ rm : Int, rm = (S2.most : Int) - ((S2.Q i).length : Int) := ⟨_, rfl⟩
          obtain ⟨lw, hlw⟩ : ∃ lw, lw = S2.lw i := ⟨_, rfl⟩
          obtain ⟨L, hL⟩ : ∃ L, L = S2.lwZ i := ⟨_, rfl⟩
          obtain ⟨ln, hln⟩ : ∃ ln, ln = L.length := ⟨_, rfl⟩
          have HLN : Hid (ln = L.length) := hln
          have HR : Hid (∀ u, Kept w2 u → Calls Tryz.prog 100 #[.pointer (some ⟨A.q i, 0, none⟩)] u fun e u' => e = .returned (.int .i64 rm) ∧ Kept u u') := fun u k => by
            obtain ⟨v, s1, _⟩ := (H2.out.2.1.kept k).stk i HIM.out
            rw [hrm]
            exact srroom_any u s1
          obtain ⟨P1, hP1⟩ : ∃ P1 : Option Addr → Nat → World → Prop, P1 = fun y dd u => RSH B u c A { S2 with F := dropF S2.F lw } ∧ Stp c w c u ∧ Lst u w2.heap.size (.slice y ln dd) L ∧ Blk u w.heap.size [.int .i64 0, .slice none 0 0, .int .i64 0] ∧ Rdi u x Z := ⟨_, rfl⟩
          have HP : Hid (∀ y dd u, P1 y dd u → RSH B u c A { S2 with F := dropF S2.F lw } ∧ Stp c w c u ∧ Lst u w2.heap.size (.slice y ln dd) L ∧ Blk u w.heap.size [.int .i64 0, .slice none 0 0, .int .i64 0] ∧ Rdi u x Z) := fun y dd u q => by rw [hP1] at q; exact q
          have HL : Hid (∀ u, Kept w2 u → Calls Tryz.prog 99 #[.pointer (some ⟨A.pb, 0, none⟩), .int .i64 rm] u fun e u' => ∃ y dd, e = .returned (.slice y ln dd) ∧ P1 y dd u') := fun u k => by
            refine (prlow_any rm u (H2.out.2.1.kept k).pool).mono ?_
            rintro e u' ⟨v, rfl, g, t, m⟩
            have l := Got.lst g
            rw [hrm, show (lowL S2.n S2.F ((S2.most : Int) - ((S2.Q i).length : Int))).map (fun x : Nat => (x : Int)) = L from hL.symm] at l
            obtain ⟨y, dd, rfl⟩ := l.form
            rw [← hln] at l ⊢
            have r := (H2.out.2.1.kept k).pools t m
            have nd : ∀ g, c g = 0 → g ∉ [A.pg] := fun g h1 q => by
              rw [List.mem_singleton.1 q, H2.out.2.1.cpg] at h1; cases h1
            refine ⟨y, dd, rfl, ?_⟩
            rw [hP1]
            refine ⟨?_, H2.out.2.2.1.trans ((Stp.kept k).trans r.2), l.low k.size, (H2.out.1.kept k).muts m (nd _ z1.out.1), (H2.out.2.2.2.kept k).muts m (fun g o e => nd g (NW.out g (by have := HX.out g o e; have := HSZ.out.1; omega)))⟩
            have r1 := r.1
            rw [hrm] at r1
            rw [hlw]
            exact r1
          have HR1 : Hid ((S2.Q i).length + L.length ≤ S2.most) := by
            obtain ⟨v, s1, _⟩ := H2.out.2.1.stk i HIM.out
            have h1 := s1.few
            have h2 : L.length = min ((S2.most : Int) - ((S2.Q i).length : Int)).toNat (cntB S2.F S2.n) := by
              rw [hL]
              simp only [Sp.lwZ, Sp.lw, List.length_map, lowL_len]
            show _ ≤ _
            omega
          have HFL : Hid (S2.fill i = { S2 with F := dropF S2.F lw, T := useT S2.n 1 false S2.T L, Q := fun j => if j = i then S2.Q i ++ L else S2.Q j }) := by
            show _ = _
            rw [hL, hlw]; rfl
          have HM16 : Hid (S.m ≤ 16 ∧ ln ≤ 1000) := ⟨hm16, by
            obtain ⟨v, s1, _⟩ := H2.out.2.1.stk i HIM.out
            have h1 := s1.max
            have h2 := HR1.out
            omega⟩
          have HC : Hid ((∀ u, Kept w2 u → u.cell? ⟨A.b, 10, none⟩ = some (.pointer (some ⟨A.pb, 0, none⟩))) ∧ (∀ u, Kept w2 u → u.cell? ⟨A.b, 11, none⟩ = some (.slice (some ⟨A.sb, 0, none⟩) S.m A.sc)) ∧ (∀ u, Kept w2 u → u.cell? ⟨A.sb, i, none⟩ = some (.pointer (some ⟨A.q i, 0, none⟩)))) :=
            ⟨fun u q => (H2.out.2.1.kept q).cell (i := 10) (u := .pointer (some ⟨A.pb, 0, none⟩)) (fun _ _ => rfl), fun u q => (H2.out.2.1.kept q).cell (i := 11) (u := .slice (some ⟨A.sb, 0, none⟩) S.m A.sc) (fun _ _ => by rw [← HS2.out.1]; rfl), fun u q => (H2.out.2.1.kept q).qcell (i := i) HIM.out⟩
          clear hrm hlw hL hln hP1
          go_wp2_with fail
          refine wp_region_ghost (G := Option Addr × Nat) (fun ⟨y, dd⟩ => [(.pointer (some ⟨A.b, 0, none⟩)), (.pointer (some ⟨A.b, 0, none⟩)), (.pointer (some ⟨A.b, 10, none⟩)), (.pointer (some ⟨A.pb, 0, none⟩)), (.pointer (some ⟨A.b, 0, none⟩)), (.pointer (some ⟨A.b, 0, none⟩)), (.pointer (some ⟨A.b, 11, none⟩)), (.slice (some ⟨A.sb, 0, none⟩) S.m A.sc), (.int .i64 (i : Int)), (.pointer (some ⟨A.sb, i, none⟩)), (.pointer (some ⟨A.q i, 0, none⟩)), (.int .i64 rm), (.slice y ln dd), (.slice y ln dd)]) [(17, 13), (97, 0), (98, 1), (99, 2), (100, 3), (101, 4), (102, 5), (103, 6), (104, 7), (105, 8), (106, 9), (107, 10), (108, 11), (109, 12)] (fun ⟨y, dd⟩ d u => JP 12 [] (fun u => Kept w2 u) (fun u => P1 y dd u) d u) (by kernel_rfl) (by kernel_rfl) (by kernel_rfl) (by kernel_rfl) (fun _ => rfl) ?_ ?_ ?_
          · exact ⟨⟨none, 0⟩, JP.start (Kept.refl _).drew⟩
          · intro i1 o1 ho ng a1 d u hh hj0 hi hd hc
            obtain ⟨y, dd⟩ := ng
            have hj : JP 12 [] (fun u => Kept w2 u) (fun u => P1 y dd u) d u := hj0
            clear hj0
            match i1, ho, hi, hd with
            | 0, ho, hi, hd =>
              simp only [List.getElem?_cons_zero, Option.some.injEq] at ho
              subst ho
              have g0 : a1.tmps[0]? = some (.pointer (some ⟨A.b, 0, none⟩)) := hh.old 0 (by kernel_rfl) rfl
              have HN : Hid (JP 12 [] (fun u => Kept w2 u) (fun u => P1 y dd u) (done d 0) u) := hj.plain 0 (by decide)
              clear hh hd hc hj hi
              refine wpOp_step rfl (fun K hK => ?_)
              go_simp
              exact hK _ _ ⟨⟨y, dd⟩, fun _ _ => rfl, by simp [Act.put], HN.out⟩
            | 1, ho, hi, hd =>
              simp only [List.getElem?_cons_succ, List.getElem?_cons_zero, Option.some.injEq] at ho
              subst ho
              have g97 : a1.tmps[97]? = some (.pointer (some ⟨A.b, 0, none⟩)) := hh.did 0 _ 97 rfl rfl (hd { on := 0, ground := .data } (by simp) rfl)
              have HN : Hid (JP 12 [] (fun u => Kept w2 u) (fun u => P1 y dd u) (done d 1) u) := hj.plain 1 (by decide)
              clear hh hd hc hj hi
              refine wpOp_step rfl (fun K hK => ?_)
              go_simp
              exact hK _ _ ⟨⟨y, dd⟩, fun _ _ => rfl, by simp [Act.put], HN.out⟩
            | 2, ho, hi, hd =>
              simp only [List.getElem?_cons_succ, List.getElem?_cons_zero, Option.some.injEq] at ho
              subst ho
              have g98 : a1.tmps[98]? = some (.pointer (some ⟨A.b, 0, none⟩)) := hh.did 1 _ 98 rfl rfl (hd { on := 1, ground := .data } (by simp) rfl)
              have HN : Hid (JP 12 [] (fun u => Kept w2 u) (fun u => P1 y dd u) (done d 2) u) := hj.plain 2 (by decide)
              clear hh hd hc hj hi
              refine wpOp_step rfl (fun K hK => ?_)
              go_simp
              exact hK _ _ ⟨⟨y, dd⟩, fun _ _ => rfl, by simp [Act.put], HN.out⟩
            | 3, ho, hi, hd =>
              simp only [List.getElem?_cons_succ, List.getElem?_cons_zero, Option.some.injEq] at ho
              subst ho
              have g99 : a1.tmps[99]? = some (.pointer (some ⟨A.b, 10, none⟩)) := hh.did 2 _ 99 rfl rfl (hd { on := 2, ground := .data } (by simp) rfl)
              have n12 : d 12 = false := by
                cases q : d 12 with
                | false => rfl
                | true => exact absurd (hc 12 _ rfl q { on := 3, ground := .data } (by simp) rfl) (by simp [hi])
              have h0 := hj.now n12
              have c10 := HC.out.1 u h0
              have HN : Hid (JP 12 [] (fun u => Kept w2 u) (fun u => P1 y dd u) (done d 3) u) := hj.plain 3 (by decide)
              clear hh hd hc hj hi
              refine wpOp_step rfl (fun K hK => ?_)
              go_simp
              exact hK _ _ ⟨⟨y, dd⟩, fun _ _ => rfl, by simp [Act.put], HN.out⟩
            | 4, ho, hi, hd =>
              simp only [List.getElem?_cons_succ, List.getElem?_cons_zero, Option.some.injEq] at ho
              subst ho
              have g0 : a1.tmps[0]? = some (.pointer (some ⟨A.b, 0, none⟩)) := hh.old 0 (by kernel_rfl) rfl
              have HN : Hid (JP 12 [] (fun u => Kept w2 u) (fun u => P1 y dd u) (done d 4) u) := hj.plain 4 (by decide)
              clear hh hd hc hj hi
              refine wpOp_step rfl (fun K hK => ?_)
              go_simp
              exact hK _ _ ⟨⟨y, dd⟩, fun _ _ => rfl, by simp [Act.put], HN.out⟩
            | 5, ho, hi, hd =>
              simp only [List.getElem?_cons_succ, List.getElem?_cons_zero, Option.some.injEq] at ho
              subst ho
              have g101 : a1.tmps[101]? = some (.pointer (some ⟨A.b, 0, none⟩)) := hh.did 4 _ 101 rfl rfl (hd { on := 4, ground := .data } (by simp) rfl)
              have HN : Hid (JP 12 [] (fun u => Kept w2 u) (fun u => P1 y dd u) (done d 5) u) := hj.plain 5 (by decide)
              clear hh hd hc hj hi
              refine wpOp_step rfl (fun K hK => ?_)
              go_simp
              exact hK _ _ ⟨⟨y, dd⟩, fun _ _ => rfl, by simp [Act.put], HN.out⟩
            | 6, ho, hi, hd =>
              simp only [List.getElem?_cons_succ, List.getElem?_cons_zero, Option.some.injEq] at ho
              subst ho
              have g102 : a1.tmps[102]? = some (.pointer (some ⟨A.b, 0, none⟩)) := hh.did 5 _ 102 rfl rfl (hd { on := 5, ground := .data } (by simp) rfl)
              have HN : Hid (JP 12 [] (fun u => Kept w2 u) (fun u => P1 y dd u) (done d 6) u) := hj.plain 6 (by decide)
              clear hh hd hc hj hi
              refine wpOp_step rfl (fun K hK => ?_)
              go_simp
              exact hK _ _ ⟨⟨y, dd⟩, fun _ _ => rfl, by simp [Act.put], HN.out⟩
            | 7, ho, hi, hd =>
              simp only [List.getElem?_cons_succ, List.getElem?_cons_zero, Option.some.injEq] at ho
              subst ho
              have g103 : a1.tmps[103]? = some (.pointer (some ⟨A.b, 11, none⟩)) := hh.did 6 _ 103 rfl rfl (hd { on := 6, ground := .data } (by simp) rfl)
              have n12 : d 12 = false := by
                cases q : d 12 with
                | false => rfl
                | true => exact absurd (hc 9 _ rfl (hc 10 _ rfl (hc 11 _ rfl (hc 12 _ rfl q { on := 11, ground := .data } (by simp) rfl) { on := 10, ground := .data } (by simp) rfl) { on := 9, ground := .data } (by simp) rfl) { on := 7, ground := .data } (by simp) rfl) (by simp [hi])
              have h0 := hj.now n12
              have c11 := HC.out.2.1 u h0
              have HN : Hid (JP 12 [] (fun u => Kept w2 u) (fun u => P1 y dd u) (done d 7) u) := hj.plain 7 (by decide)
              clear hh hd hc hj hi
              refine wpOp_step rfl (fun K hK => ?_)
              go_simp
              exact hK _ _ ⟨⟨y, dd⟩, fun _ _ => rfl, by simp [Act.put], HN.out⟩
            | 8, ho, hi, hd =>
              simp only [List.getElem?_cons_succ, List.getElem?_cons_zero, Option.some.injEq] at ho
              subst ho
              have g1 : a1.tmps[1]? = some (.int .i64 (i : Int)) := hh.old 1 (by kernel_rfl) rfl
              have HN : Hid (JP 12 [] (fun u => Kept w2 u) (fun u => P1 y dd u) (done d 8) u) := hj.plain 8 (by decide)
              clear hh hd hc hj hi
              refine wpOp_step rfl (fun K hK => ?_)
              go_simp
              exact hK _ _ ⟨⟨y, dd⟩, fun _ _ => rfl, by simp [Act.put], HN.out⟩
            | 9, ho, hi, hd =>
              simp only [List.getElem?_cons_succ, List.getElem?_cons_zero, Option.some.injEq] at ho
              subst ho
              have g104 : a1.tmps[104]? = some (.slice (some ⟨A.sb, 0, none⟩) S.m A.sc) := hh.did 7 _ 104 rfl rfl (hd { on := 7, ground := .data } (by simp) rfl)
              have g105 : a1.tmps[105]? = some (.int .i64 (i : Int)) := hh.did 8 _ 105 rfl rfl (hd { on := 8, ground := .data } (by simp) rfl)
              have hi16 := HM16.out.1
              have him := HIM.out
              have HN : Hid (JP 12 [] (fun u => Kept w2 u) (fun u => P1 y dd u) (done d 9) u) := hj.plain 9 (by decide)
              clear hh hd hc hj hi
              refine wpOp_step rfl (fun K hK => ?_)
              go_simp
              exact hK _ _ ⟨⟨y, dd⟩, fun _ _ => rfl, by simp [Act.put], HN.out⟩
            | 10, ho, hi, hd =>
              simp only [List.getElem?_cons_succ, List.getElem?_cons_zero, Option.some.injEq] at ho
              subst ho
              have g106 : a1.tmps[106]? = some (.pointer (some ⟨A.sb, i, none⟩)) := hh.did 9 _ 106 rfl rfl (hd { on := 9, ground := .data } (by simp) rfl)
              have n12 : d 12 = false := by
                cases q : d 12 with
                | false => rfl
                | true => exact absurd (hc 11 _ rfl (hc 12 _ rfl q { on := 11, ground := .data } (by simp) rfl) { on := 10, ground := .data } (by simp) rfl) (by simp [hi])
              have h0 := hj.now n12
              have cq := HC.out.2.2 u h0
              have HN : Hid (JP 12 [] (fun u => Kept w2 u) (fun u => P1 y dd u) (done d 10) u) := hj.plain 10 (by decide)
              clear hh hd hc hj hi
              refine wpOp_step rfl (fun K hK => ?_)
              go_simp
              exact hK _ _ ⟨⟨y, dd⟩, fun _ _ => rfl, by simp [Act.put], HN.out⟩
            | 11, ho, hi, hd =>
              simp only [List.getElem?_cons_succ, List.getElem?_cons_zero, Option.some.injEq] at ho
              subst ho
              have g107 : a1.tmps[107]? = some (.pointer (some ⟨A.q i, 0, none⟩)) := hh.did 10 _ 107 rfl rfl (hd { on := 10, ground := .data } (by simp) rfl)
              have n12 : d 12 = false := by
                cases q : d 12 with
                | false => rfl
                | true => exact absurd (hc 12 _ rfl q { on := 11, ground := .data } (by simp) rfl) (by simp [hi])
              have h0 : Hid (Kept w2 u) := hj.now n12
              have HJ : Hid (JP 12 [] (fun u => Kept w2 u) (fun u => P1 y dd u) d u) := hj
              have HI : Hid (d 12 = false) := n12
              have C := HR.out u h0.out
              clear hh hd hc hj hi n12
              refine wpOp_step rfl (fun K hK => ?_)
              go_simp
              refine C.mono ?_
              rintro e u2 ⟨rfl, k2⟩
              exact hK _ _ ⟨⟨y, dd⟩, fun _ _ => rfl, by simp [Act.put], HJ.out.stay HI.out 11 (by decide) (h0.out.trans k2)⟩
            | 12, ho, hi, hd =>
              simp only [List.getElem?_cons_succ, List.getElem?_cons_zero, Option.some.injEq] at ho
              subst ho
              have g100 : a1.tmps[100]? = some (.pointer (some ⟨A.pb, 0, none⟩)) := hh.did 3 _ 100 rfl rfl (hd { on := 3, ground := .data } (by simp) rfl)
              have g108 : a1.tmps[108]? = some (.int .i64 rm) := hh.did 11 _ 108 rfl rfl (hd { on := 11, ground := .data } (by simp) rfl)
              have h0 : Hid (Kept w2 u) := hj.now hi
              have HJ : Hid (JP 12 [] (fun u => Kept w2 u) (fun u => P1 y dd u) d u) := hj
              have HI : Hid (d 12 = false ∧ d 13 = false) := ⟨hi, by
                cases q : d 13 with
                | false => rfl
                | true => exact absurd (hc 13 _ rfl q { on := 12, ground := .data } (by simp) rfl) (by simp [hi])⟩
              have C := HL.out u h0.out
              clear hh hd hc hj hi
              refine wpOp_step rfl (fun K hK => ?_)
              go_simp
              refine C.mono ?_
              rintro e u2 ⟨y', dd', rfl, p1⟩
              refine hK _ _ ⟨⟨y', dd'⟩, fun j hj => ?_, by simp [Act.put], JP.turn (fun r hr => absurd hr (by simp)) p1⟩
              have j12 : j ≠ 12 := fun q => by rw [q, HI.out.1] at hj; cases hj
              have j13 : j ≠ 13 := fun q => by rw [q, HI.out.2] at hj; cases hj
              match j, j12, j13 with
              | 0, _, _ => rfl
              | 1, _, _ => rfl
              | 2, _, _ => rfl
              | 3, _, _ => rfl
              | 4, _, _ => rfl
              | 5, _, _ => rfl
              | 6, _, _ => rfl
              | 7, _, _ => rfl
              | 8, _, _ => rfl
              | 9, _, _ => rfl
              | 10, _, _ => rfl
              | 11, _, _ => rfl
              | j + 14, _, _ => rfl
            | 13, ho, hi, hd =>
              simp only [List.getElem?_cons_succ, List.getElem?_cons_zero, Option.some.injEq] at ho
              subst ho
              have g109 : a1.tmps[109]? = some (.slice y ln dd) := hh.did 12 _ 109 rfl rfl (hd { on := 12, ground := .data } (by simp) rfl)
              have HN : Hid (JP 12 [] (fun u => Kept w2 u) (fun u => P1 y dd u) (done d 13) u) := hj.plain 13 (by decide)
              clear hh hd hc hj hi
              refine wpOp_step rfl (fun K hK => ?_)
              go_simp
              exact hK _ _ ⟨⟨y, dd⟩, fun _ _ => rfl, by simp [Act.put], HN.out⟩
            | n + 14, ho, hi, hd => simp at ho
          · intro ng u d hall hj0
            obtain ⟨y, dd⟩ := ng
            have hj : JP 12 [] (fun u => Kept w2 u) (fun u => P1 y dd u) d u := hj0
            clear hj0
            have h1 : Hid (P1 y dd u) := hj.fin (hall 12 (by decide))
            have H3 : Hid (RSH B u c A { S2 with F := dropF S2.F lw } ∧ Stp c w c u ∧ Lst u w2.heap.size (.slice y ln dd) L ∧ Blk u w.heap.size [.int .i64 0, .slice none 0 0, .int .i64 0] ∧ Rdi u x Z) := HP.out y dd u h1.out
            clear hall hj h1
            refine norm_list' (L' := [_, _, _, _, _, _, _, _, _, _, _, _, _, _, _, _, _, _, _, _, _, _, _, _, _, _, _, _, _, _, _, _, _, _, _, _, _, _, _, _, _, _, _, _, _, _, _, _, _, _, _, _, _, _, _, _, _, _, _, _, _, _, _, _, _, _, _, _, _, _, _, _, _, _, _, _, _, _, _, _, _, _, _, _, _, _, _, _, _, _, _, _, _, _, _, _, _, _, _, _, _, _, _, _, _, _, _, _, _, _, _, _, _, _, _, _, _, _, _, _, _, _, _, _, _, _, _, _, _, _, _, _, _, _, _, _, _, _, _, _, _, _, _, _, _, _, _]) rfl ?_
            have hln0 := HM16.out.2
            go_wp2
            go_loopg [18] ln (fun m q wr => ∃ k : Nat, q = .int .i64 k ∧ k ≤ ln ∧ m = ln - k ∧ Hid (RSH B wr c A { S2 with F := dropF S2.F lw, T := useT S2.n 1 false S2.T (L.take k) } ∧ Stp c w c wr ∧ Lst wr w2.heap.size (.slice y ln dd) L ∧ Blk wr w.heap.size [.int .i64 0, .slice none 0 0, .int .i64 0] ∧ Rdi wr x Z))
            case atStart => exact ⟨0, rfl, by omega, by omega, by simpa [useT] using H3.out.1, H3.out.2⟩
            case round =>
              obtain ⟨k, rfl, hk, hm, hw⟩ := hrel
              have HM : Hid _ := hm
              clear hm
              by_cases hlt : k < ln
              · have hlt2 : k < L.length := by have := HLN.out; omega
                obtain ⟨g, o, rfl, hgl, hc⟩ := hw.out.2.2.1.rdi (by omega)
                have a0 := hc k hlt2
                have hst : Hid (setT S2.n (useT S2.n 1 false S2.T (L.take k)) L[k] 1 false false = useT S2.n 1 false S2.T (L.take (k + 1))) := useT_take hlt2
                have HD : Hid ((∀ u, Kept wr u → u.cell? ⟨A.b, 9, none⟩ = some (.pointer (some ⟨A.tb, 0, none⟩))) ∧ (∀ u, Kept wr u → u.cell? ⟨g, o + k, none⟩ = some (.int .i64 L[k]))) :=
                  ⟨fun u q => (hw.out.1.kept q).cell (i := 9) (u := .pointer (some ⟨A.tb, 0, none⟩)) (fun _ _ => rfl), fun u q => (q.cell hgl).trans a0⟩
                obtain ⟨Q, hQ⟩ : ∃ Q : World → Prop, Q = fun wr => RSH B wr c A { S2 with F := dropF S2.F lw, T := useT S2.n 1 false S2.T (L.take (k + 1)) } ∧ Stp c w c wr ∧ Lst wr w2.heap.size (.slice (some ⟨g, o, none⟩) ln dd) L ∧ Blk wr w.heap.size [.int .i64 0, .slice none 0 0, .int .i64 0] ∧ Rdi wr x Z := ⟨_, rfl⟩
                have HQ : Hid (∀ wr, Q wr → RSH B wr c A { S2 with F := dropF S2.F lw, T := useT S2.n 1 false S2.T (L.take (k + 1)) } ∧ Stp c w c wr ∧ Lst wr w2.heap.size (.slice (some ⟨g, o, none⟩) ln dd) L ∧ Blk wr w.heap.size [.int .i64 0, .slice none 0 0, .int .i64 0] ∧ Rdi wr x Z) := fun u q => by rw [hQ] at q; exact q
                obtain ⟨rb, hrb⟩ : ∃ rb : Bool, rb = (inn S2.n L[k] && isSt 1) := ⟨_, rfl⟩
                have HT : Hid (∀ u, Kept wr u → Calls Tryz.prog 101 #[.pointer (some ⟨A.tb, 0, none⟩), .int .i64 L[k], .int .i64 1, .bool false, .bool se] u fun e u' => e = .returned (.bool rb) ∧ Q u') := fun u q => by
                  obtain ⟨T', t1, t2⟩ := (hw.out.1.kept q).tab
                  rw [hrb, hQ]
                  refine (trset_any L[k] 1 false se u t1).mono ?_
                  rintro e u' ⟨rfl, t3, m3⟩
                  have t4 := t2.set L[k] 1 false false se (fun q => by cases q)
                  rw [hst.out] at t4
                  have r := (hw.out.1.kept q).tabs (T := useT S2.n 1 false S2.T (L.take (k + 1))) t3 t4 m3
                  have nd : ∀ g, c g = 0 → g ∉ [A.gs, A.gh, A.gc] := fun g h1 q => by
                    simp only [List.mem_cons, List.not_mem_nil, or_false] at q
                    rcases q with rfl | rfl | rfl
                    · rw [hw.out.1.cgs] at h1; cases h1
                    · rw [hw.out.1.cgh] at h1; cases h1
                    · rw [hw.out.1.cgc] at h1; cases h1
                  have hz0 : w.heap.size ≤ w2.heap.size := HSZ.out.2
                  exact ⟨rfl, r.1, hw.out.2.1.trans ((Stp.kept q).trans r.2), (hw.out.2.2.1.kept q).muts m3 (fun k hk => nd k (NW.out k (by have := (hw.out.2.2.1.lt k hk).1; omega))),
                    (hw.out.2.2.2.1.kept q).muts m3 (nd _ z1.out.1), (hw.out.2.2.2.2.kept q).muts m3 (fun g o e => nd g (NW.out g (by have := HX.out g o e; have := HSZ.out.1; omega)))⟩
                clear hc a0 hgl hQ hrb hst
                generalize L[k] = z at *
                go_wp2_with fail
                refine wp_region_ghost (G := Unit) (fun ⟨⟩ => [(.pointer (some ⟨A.b, 0, none⟩)), (.pointer (some ⟨A.b, 0, none⟩)), (.pointer (some ⟨A.b, 9, none⟩)), (.pointer (some ⟨A.tb, 0, none⟩)), (.slice (some ⟨g, o, none⟩) ln dd), (.int .i64 (k : Int)), (.pointer (some ⟨g, o + k, none⟩)), (.int .i64 z), (.bool se), (.bool rb)]) [(116, 0), (117, 1), (118, 2), (119, 3), (120, 4), (121, 5), (122, 6), (123, 7), (124, 8), (125, 9)] (fun ⟨⟩ d u => JP 9 [] (fun u => Kept wr u) (fun u => Q u) d u) (by kernel_rfl) (by kernel_rfl) (by kernel_rfl) (by kernel_rfl) (fun _ => rfl) ?_ ?_ ?_
                · exact ⟨(), JP.start (Kept.refl _).drew⟩
                · intro i1 o1 ho ng a1 d u hh hj0 hi hd hc
                  obtain ⟨⟩ := ng
                  have hj : JP 9 [] (fun u => Kept wr u) (fun u => Q u) d u := hj0
                  clear hj0
                  match i1, ho, hi, hd with
                  | 0, ho, hi, hd =>
                    simp only [List.getElem?_cons_zero, Option.some.injEq] at ho
                    subst ho
                    have g0 : a1.tmps[0]? = some (.pointer (some ⟨A.b, 0, none⟩)) := hh.old 0 (by kernel_rfl) rfl
                    have HN : Hid (JP 9 [] (fun u => Kept wr u) (fun u => Q u) (done d 0) u) := hj.plain 0 (by decide)
                    clear hh hd hc hj hi
                    refine wpOp_step rfl (fun K hK => ?_)
                    go_simp
                    exact hK _ _ ⟨⟨⟩, fun _ _ => rfl, by simp [Act.put], HN.out⟩
                  | 1, ho, hi, hd =>
                    simp only [List.getElem?_cons_succ, List.getElem?_cons_zero, Option.some.injEq] at ho
                    subst ho
                    have g116 : a1.tmps[116]? = some (.pointer (some ⟨A.b, 0, none⟩)) := hh.did 0 _ 116 rfl rfl (hd { on := 0, ground := .data } (by simp) rfl)
                    have HN : Hid (JP 9 [] (fun u => Kept wr u) (fun u => Q u) (done d 1) u) := hj.plain 1 (by decide)
                    clear hh hd hc hj hi
                    refine wpOp_step rfl (fun K hK => ?_)
                    go_simp
                    exact hK _ _ ⟨⟨⟩, fun _ _ => rfl, by simp [Act.put], HN.out⟩
                  | 2, ho, hi, hd =>
                    simp only [List.getElem?_cons_succ, List.getElem?_cons_zero, Option.some.injEq] at ho
                    subst ho
                    have g117 : a1.tmps[117]? = some (.pointer (some ⟨A.b, 0, none⟩)) := hh.did 1 _ 117 rfl rfl (hd { on := 1, ground := .data } (by simp) rfl)
                    have HN : Hid (JP 9 [] (fun u => Kept wr u) (fun u => Q u) (done d 2) u) := hj.plain 2 (by decide)
                    clear hh hd hc hj hi
                    refine wpOp_step rfl (fun K hK => ?_)
                    go_simp
                    exact hK _ _ ⟨⟨⟩, fun _ _ => rfl, by simp [Act.put], HN.out⟩
                  | 3, ho, hi, hd =>
                    simp only [List.getElem?_cons_succ, List.getElem?_cons_zero, Option.some.injEq] at ho
                    subst ho
                    have g118 : a1.tmps[118]? = some (.pointer (some ⟨A.b, 9, none⟩)) := hh.did 2 _ 118 rfl rfl (hd { on := 2, ground := .data } (by simp) rfl)
                    have n9 : d 9 = false := by
                      cases q : d 9 with
                      | false => rfl
                      | true => exact absurd (hc 9 _ rfl q { on := 3, ground := .data } (by simp) rfl) (by simp [hi])
                    have h0 := hj.now n9
                    have c9 : u.cell? ⟨A.b, 9, none⟩ = some (.pointer (some ⟨A.tb, 0, none⟩)) := HD.out.1 u h0
                    have HN : Hid (JP 9 [] (fun u => Kept wr u) (fun u => Q u) (done d 3) u) := hj.plain 3 (by decide)
                    clear hh hd hc hj hi
                    refine wpOp_step rfl (fun K hK => ?_)
                    go_simp
                    exact hK _ _ ⟨⟨⟩, fun _ _ => rfl, by simp [Act.put], HN.out⟩
                  | 4, ho, hi, hd =>
                    simp only [List.getElem?_cons_succ, List.getElem?_cons_zero, Option.some.injEq] at ho
                    subst ho
                    have g17 : a1.tmps[17]? = some (.slice (some ⟨g, o, none⟩) ln dd) := hh.old 17 (by kernel_rfl) rfl
                    have HN : Hid (JP 9 [] (fun u => Kept wr u) (fun u => Q u) (done d 4) u) := hj.plain 4 (by decide)
                    clear hh hd hc hj hi
                    refine wpOp_step rfl (fun K hK => ?_)
                    go_simp
                    exact hK _ _ ⟨⟨⟩, fun _ _ => rfl, by simp [Act.put], HN.out⟩
                  | 5, ho, hi, hd =>
                    simp only [List.getElem?_cons_succ, List.getElem?_cons_zero, Option.some.injEq] at ho
                    subst ho
                    have g18 : a1.tmps[18]? = some (.int .i64 (k : Int)) := hh.old 18 (by kernel_rfl) rfl
                    have HN : Hid (JP 9 [] (fun u => Kept wr u) (fun u => Q u) (done d 5) u) := hj.plain 5 (by decide)
                    clear hh hd hc hj hi
                    refine wpOp_step rfl (fun K hK => ?_)
                    go_simp
                    exact hK _ _ ⟨⟨⟩, fun _ _ => rfl, by simp [Act.put], HN.out⟩
                  | 6, ho, hi, hd =>
                    simp only [List.getElem?_cons_succ, List.getElem?_cons_zero, Option.some.injEq] at ho
                    subst ho
                    have g120 : a1.tmps[120]? = some (.slice (some ⟨g, o, none⟩) ln dd) := hh.did 4 _ 120 rfl rfl (hd { on := 4, ground := .data } (by simp) rfl)
                    have g121 : a1.tmps[121]? = some (.int .i64 (k : Int)) := hh.did 5 _ 121 rfl rfl (hd { on := 5, ground := .data } (by simp) rfl)
                    have HN : Hid (JP 9 [] (fun u => Kept wr u) (fun u => Q u) (done d 6) u) := hj.plain 6 (by decide)
                    clear hh hd hc hj hi
                    refine wpOp_step rfl (fun K hK => ?_)
                    go_simp
                    exact hK _ _ ⟨⟨⟩, fun _ _ => rfl, by simp [Act.put], HN.out⟩
                  | 7, ho, hi, hd =>
                    simp only [List.getElem?_cons_succ, List.getElem?_cons_zero, Option.some.injEq] at ho
                    subst ho
                    have g122 : a1.tmps[122]? = some (.pointer (some ⟨g, o + k, none⟩)) := hh.did 6 _ 122 rfl rfl (hd { on := 6, ground := .data } (by simp) rfl)
                    have n9 : d 9 = false := by
                      cases q : d 9 with
                      | false => rfl
                      | true => exact absurd (hc 9 _ rfl q { on := 7, ground := .data } (by simp) rfl) (by simp [hi])
                    have h0 := hj.now n9
                    have cz : u.cell? ⟨g, o + k, none⟩ = some (.int .i64 z) := HD.out.2 u h0
                    have HN : Hid (JP 9 [] (fun u => Kept wr u) (fun u => Q u) (done d 7) u) := hj.plain 7 (by decide)
                    clear hh hd hc hj hi
                    refine wpOp_step rfl (fun K hK => ?_)
                    go_simp
                    exact hK _ _ ⟨⟨⟩, fun _ _ => rfl, by simp [Act.put], HN.out⟩
                  | 8, ho, hi, hd =>
                    simp only [List.getElem?_cons_succ, List.getElem?_cons_zero, Option.some.injEq] at ho
                    subst ho
                    have g4 : a1.tmps[4]? = some (.bool se) := hh.old 4 (by kernel_rfl) rfl
                    have HN : Hid (JP 9 [] (fun u => Kept wr u) (fun u => Q u) (done d 8) u) := hj.plain 8 (by decide)
                    clear hh hd hc hj hi
                    refine wpOp_step rfl (fun K hK => ?_)
                    go_simp
                    exact hK _ _ ⟨⟨⟩, fun _ _ => rfl, by simp [Act.put], HN.out⟩
                  | 9, ho, hi, hd =>
                    simp only [List.getElem?_cons_succ, List.getElem?_cons_zero, Option.some.injEq] at ho
                    subst ho
                    have g119 : a1.tmps[119]? = some (.pointer (some ⟨A.tb, 0, none⟩)) := hh.did 3 _ 119 rfl rfl (hd { on := 3, ground := .data } (by simp) rfl)
                    have g123 : a1.tmps[123]? = some (.int .i64 z) := hh.did 7 _ 123 rfl rfl (hd { on := 7, ground := .data } (by simp) rfl)
                    have g124 : a1.tmps[124]? = some (.bool se) := hh.did 8 _ 124 rfl rfl (hd { on := 8, ground := .data } (by simp) rfl)
                    have h0 := hj.now hi
                    have C := HT.out u h0
                    clear hh hd hc hj hi h0
                    refine wpOp_step rfl (fun K hK => ?_)
                    go_simp
                    refine C.mono ?_
                    rintro e u2 ⟨rfl, q2⟩
                    exact hK _ _ ⟨(), fun _ _ => rfl, by simp [Act.put], JP.turn (fun r hr => absurd hr (by simp)) q2⟩
                  | n + 10, ho, hi, hd => simp at ho
                · intro ng u d hall hj0
                  obtain ⟨⟩ := ng
                  have hj : JP 9 [] (fun u => Kept wr u) (fun u => Q u) d u := hj0
                  clear hj0
                  have h1 : Hid (Q u) := hj.fin (hall 9 (by decide))
                  clear hall hj
                  refine norm_list' (L' := [_, _, _, _, _, _, _, _, _, _, _, _, _, _, _, _, _, _, _, _, _, _, _, _, _, _, _, _, _, _, _, _, _, _, _, _, _, _, _, _, _, _, _, _, _, _, _, _, _, _, _, _, _, _, _, _, _, _, _, _, _, _, _, _, _, _, _, _, _, _, _, _, _, _, _, _, _, _, _, _, _, _, _, _, _, _, _, _, _, _, _, _, _, _, _, _, _, _, _, _, _, _, _, _, _, _, _, _, _, _, _, _, _, _, _, _, _, _, _, _, _, _, _, _, _, _, _, _, _, _, _, _, _, _, _, _, _, _, _, _, _, _, _, _, _, _, _]) rfl ?_
                  go_wp2
                  go_roundg (gk - 1)
                  all_goals (have := HM.out; try omega)
                  exact ⟨k + 1, by go_num, by omega, by omega, HQ.out u h1.out⟩
              · obtain rfl : k = ln := by omega
                have e1 : L.take k = L := by rw [HLN.out, List.take_length]
                rw [e1] at hw
                obtain ⟨v, s1, s2, s3⟩ := hw.out.1.stk i HIM.out
                have c11 := hw.out.1.cell (i := 11) (u := .slice (some ⟨A.sb, 0, none⟩) S.m A.sc) (fun _ _ => by rw [← HS2.out.1]; rfl)
                have cq := hw.out.1.qcell (i := i) HIM.out
                have CP := srput_yes (c := dd) (x := y) (N := L) wr s1 hw.out.2.2.1.rdi (by have := HR1.out; exact this)
                rw [← HLN.out] at CP
                have hi16 := HM16.out.1
                have him : i < S.m := by rw [← HS2.out.1]; exact HIM.out
                go_wp2_with fail
                refine CP.mono ?_
                rintro e w3 ⟨rfl, v', t3, m3, f3⟩
                have H3a := RSH.stks hw.out.1 HIM.out s2 s3 t3 m3 (fun k hk => hk) f3
                have hF : ∃ c', c' w.heap.size = 0 ∧ Blk w3 w.heap.size [.int .i64 0, .slice none 0 0, .int .i64 0] ∧ RSH B w3 c' A (S2.fill i) ∧ Stp c w c' w3 ∧ Rdi w3 x Z := by
                  have hz0 : w.heap.size ≤ w2.heap.size := HSZ.out.2
                  refine ⟨_, (H3a.2.same _ hw.out.2.2.2.1.lt).trans z1.out.1, H3a.2.blk hw.out.2.2.2.1 z1.out.1, ?_, hw.out.2.1.trans H3a.2, H3a.2.rdi hw.out.2.2.2.2 (fun g o e => NW.out g (by have := HX.out g o e; have := HSZ.out.1; omega))⟩
                  rw [HFL.out]
                  exact H3a.1
                clear CP s1 s2 s3 t3 m3 f3 H3a hw c11 cq
                obtain ⟨c3, hF⟩ := hF
                have H5 : Hid (c3 w.heap.size = 0 ∧ Blk w3 w.heap.size [.int .i64 0, .slice none 0 0, .int .i64 0] ∧ RSH B w3 c3 A (S2.fill i) ∧ Stp c w c3 w3 ∧ Rdi w3 x Z) := hF
                clear hF
                have b0 := H5.out.2.1.at 0 rfl
                have b1 := H5.out.2.1.at 1 rfl
                have b2 := H5.out.2.1.at 2 rfl
                have bf := H5.out.2.1.fz
                go_wp2
                (try simp only [Exit.inBlock, Exit.then])
                obtain ⟨g1, g2, g3, g4⟩ := rgrant_end (x := x) (G := Z) (.int .i64 1) (.slice x Z.length dx) (.int .i64 ta) H5.out.2.1 H5.out.2.2.1 H5.out.2.2.2.1 H5.out.1 (Nat.le_refl _) z1.out.2 H5.out.2.2.2.2 (fun g o e => by have := HX.out g o e; have := HSZ.out.1; omega)
                exact bodyPost_ret_by (results_blk rfl _ _ w.heap.size [_, _, _] rfl g1 Tryz.underlying71 (by kernel_rfl)) rfl ⟨x, dx, by rw [HG.out] <;> rfl, by rw [HG.out]; exact g4, c3, by rw [HA.out]; exact g2, g3⟩
      · have e0 : decide ((wts S.E).length = 0) = false := by simpa using hz
        rw [e0] at HA HG
        simp only [Bool.false_and, Bool.false_eq_true, if_false] at HA HG
        clear e0
        have HE : Hid (∀ e ∈ S.E, e.th ≠ (i : Int)) := HMY.out.2.2.2
        obtain ⟨lv, nv, E, N, l1, l2, l3, l4⟩ := H3.out.2.1.line
        have l2' : E.map Ent.nr = S.E.map Ent.nr := l2
        have CA := lradd_yes (t := (i : Int)) (f := fr) (s := 0) (s3 := 0) (s4 := 0) (s5 := 0) (x := none) (l := 0) (c := 0) W2 l1 (by
          have e1 : E.length = S.E.length := nr_len l2'
          have := HK.out.1.len
          have := HK.out.2
          omega) (fun e he q => by
          obtain ⟨e2, h2, q2⟩ := nr_th l2' he
          exact HE.out e2 h2 (q2.trans q))
        go_wp2_with fail
        refine CA.mono ?_
        rintro e w4 ⟨rfl, v', t2, m2, f2⟩
        have H2a := RSH.lines (EE := S.E ++ [newEnt i fr 0]) (fo := S.fo) (ct := S.ct + 1) H3.out.2.1 l4 t2 m2 (fun k hk => memR_own hk) f2 (by rw [List.map_append, l2', List.map_append]) (nrel_add l3 (fun e he => HE.out e he))
        have H2 : Hid (∃ c', c' w.heap.size = 0 ∧ Blk w4 w.heap.size [.int .i64 0, .slice none 0 0, .int .i64 0] ∧ RSH B w4 c' A (S.tick.addE i fr 0) ∧ Stp c w c' w4) :=
          ⟨_, (H2a.2.same _ H3.out.1.lt).trans z1.out.1, H2a.2.blk H3.out.1 z1.out.1, H2a.1, H3.out.2.2.1.trans H2a.2⟩
        clear H2a t2 m2 f2 l1 l2 l2' l3 l4 CA
        obtain ⟨c2, H2'⟩ := H2.out
        have H4 : Hid (c2 w.heap.size = 0 ∧ Blk w4 w.heap.size [.int .i64 0, .slice none 0 0, .int .i64 0] ∧ RSH B w4 c2 A (S.tick.addE i fr 0) ∧ Stp c w c2 w4) := H2'
        clear H2 H2'
        go_wp2_with fail
        refine (nobody_any 0 w4).mono ?_
        rintro e w5 ⟨rfl, k5⟩
        have H5 : Hid (Blk w5 w.heap.size [.int .i64 0, .slice none 0 0, .int .i64 0] ∧ RSH B w5 c2 A (S.tick.addE i fr 0) ∧ Stp c w c2 w5) := ⟨H4.out.2.1.kept k5, H4.out.2.2.1.kept k5, H4.out.2.2.2.trans (Stp.kept k5)⟩
        clear k5
        have b0 := H5.out.1.at 0 rfl
        have b1 := H5.out.1.at 1 rfl
        have b2 := H5.out.1.at 2 rfl
        have bf := H5.out.1.fz
        go_wp2
        (try simp only [Exit.inBlock, Exit.then])
        obtain ⟨g1, g2, g3, _⟩ := rgrant_end (x := none) (G := []) (.int .i64 0) (.slice none 0 0) (.int .i64 (-1)) H5.out.1 H5.out.2.1 H5.out.2.2 H4.out.1 (Nat.le_refl _) z1.out.2 Rdi.nil (fun _ _ e => by cases e)
        exact bodyPost_ret_by (results_blk rfl _ _ w.heap.size [_, _, _] rfl g1 Tryz.underlying71 (by kernel_rfl)) rfl ⟨none, 0, by rw [HG.out] <;> rfl, by rw [HG.out]; exact Rdi.nil, c2, by rw [HA.out]; exact g2, g3⟩
  · have e0 : (sp == 0) = false := by simpa using hs0
    rw [e0] at HA HG
    simp only [Bool.false_and, Bool.false_eq_true, if_false] at HA HG
    clear e0
    go_wp2_with fail
    generalize hW2 : w1.alloc _ = W2
    have H3 : Hid (Blk W2 w.heap.size [.int .i64 0, .slice none 0 0, .int .i64 0] ∧ RSH B W2 c A S.tick ∧ Stp c w c W2 ∧ w.heap.size + 1 ≤ W2.heap.size) := by
      have k3 : Kept w1 W2 := by rw [← hW2]; exact (Kept.refl w1).alloc _ _
      exact ⟨H1.out.1.kept k3, H1.out.2.1.kept k3, H1.out.2.2.1.trans (Stp.kept k3), Nat.le_trans H1.out.2.2.2 k3.size⟩
    clear hW2
    clear c11
    obtain ⟨lv0, nv0, E0, N0, q1, q2, _, _⟩ := H3.out.2.1.line
    have CW := lrwaits_any W2 q1
    have hwl : (wts E0).length = (wts S.E).length := nr_wts (show E0.map Ent.nr = S.E.map Ent.nr from q2)
    rw [hwl] at CW
    have hwb : (wts S.E).length ≤ 50000 := by
      have := wts_le S.E
      have := HK.out.1.len
      have := HK.out.2
      omega
    clear q1 q2 hwl
    refine CW.mono ?_
    rintro e w2 ⟨rfl, e2⟩
    rw [e2]
    clear e2 CW
    by_cases hz : (wts S.E).length = 0
    · rw [hz] at HA HG
      simp only [decide_true, Bool.true_and] at HA HG
      rw [hz]
      clear hz hwb
      have CF := rfits_any fr sp W2 H3.out.2.1
      rw [show fitsB S.tick fr sp = fitsB S fr sp from rfl] at CF
      go_wp2_with fail
      refine CF.mono ?_
      rintro e w2 ⟨rfl, k2⟩
      have H2 : Hid (Blk w2 w.heap.size [.int .i64 0, .slice none 0 0, .int .i64 0] ∧ RSH B w2 c A S.tick ∧ Stp c w c w2 ∧ w.heap.size + 1 ≤ w2.heap.size) := ⟨H3.out.1.kept k2, H3.out.2.1.kept k2, H3.out.2.2.1.trans (Stp.kept k2), Nat.le_trans H3.out.2.2.2 k2.size⟩
      clear k2 CF H3
      obtain ⟨W2, rfl⟩ : ∃ W2, W2 = w2 := ⟨_, rfl⟩
      have H3 := H2
      clear H2
      cases hft : fitsB S fr sp
      · rw [hft] at HA HG
        simp only [Bool.false_eq_true, if_false] at HA HG
        clear hft
        have HE : Hid (∀ e ∈ S.E, e.th ≠ (i : Int)) := HMY.out.2.2.2
        obtain ⟨lv, nv, E, N, l1, l2, l3, l4⟩ := H3.out.2.1.line
        have l2' : E.map Ent.nr = S.E.map Ent.nr := l2
        have CA := lradd_yes (t := (i : Int)) (f := fr) (s := sp) (s3 := 0) (s4 := 0) (s5 := 0) (x := none) (l := 0) (c := 0) W2 l1 (by
          have e1 : E.length = S.E.length := nr_len l2'
          have := HK.out.1.len
          have := HK.out.2
          omega) (fun e he q => by
          obtain ⟨e2, h2, q2⟩ := nr_th l2' he
          exact HE.out e2 h2 (q2.trans q))
        go_wp2_with fail
        refine CA.mono ?_
        rintro e w4 ⟨rfl, v', t2, m2, f2⟩
        have H2a := RSH.lines (EE := S.E ++ [newEnt i fr sp]) (fo := S.fo) (ct := S.ct + 1) H3.out.2.1 l4 t2 m2 (fun k hk => memR_own hk) f2 (by rw [List.map_append, l2', List.map_append]) (nrel_add l3 (fun e he => HE.out e he))
        have H2 : Hid (∃ c', c' w.heap.size = 0 ∧ Blk w4 w.heap.size [.int .i64 0, .slice none 0 0, .int .i64 0] ∧ RSH B w4 c' A (S.tick.addE i fr sp) ∧ Stp c w c' w4) :=
          ⟨_, (H2a.2.same _ H3.out.1.lt).trans z1.out.1, H2a.2.blk H3.out.1 z1.out.1, H2a.1, H3.out.2.2.1.trans H2a.2⟩
        clear H2a t2 m2 f2 l1 l2 l2' l3 l4 CA
        obtain ⟨c2, H2'⟩ := H2.out
        have H4 : Hid (c2 w.heap.size = 0 ∧ Blk w4 w.heap.size [.int .i64 0, .slice none 0 0, .int .i64 0] ∧ RSH B w4 c2 A (S.tick.addE i fr sp) ∧ Stp c w c2 w4) := H2'
        clear H2 H2'
        go_wp2_with fail
        refine (nobody_any 0 w4).mono ?_
        rintro e w5 ⟨rfl, k5⟩
        have H5 : Hid (Blk w5 w.heap.size [.int .i64 0, .slice none 0 0, .int .i64 0] ∧ RSH B w5 c2 A (S.tick.addE i fr sp) ∧ Stp c w c2 w5) := ⟨H4.out.2.1.kept k5, H4.out.2.2.1.kept k5, H4.out.2.2.2.trans (Stp.kept k5)⟩
        clear k5
        have b0 := H5.out.1.at 0 rfl
        have b1 := H5.out.1.at 1 rfl
        have b2 := H5.out.1.at 2 rfl
        have bf := H5.out.1.fz
        go_wp2
        (try simp only [Exit.inBlock, Exit.then])
        obtain ⟨g1, g2, g3, _⟩ := rgrant_end (x := none) (G := []) (.int .i64 0) (.slice none 0 0) (.int .i64 (-1)) H5.out.1 H5.out.2.1 H5.out.2.2 H4.out.1 (Nat.le_refl _) z1.out.2 Rdi.nil (fun _ _ e => by cases e)
        exact bodyPost_ret_by (results_blk rfl _ _ w.heap.size [_, _, _] rfl g1 Tryz.underlying71 (by kernel_rfl)) rfl ⟨none, 0, by rw [HG.out] <;> rfl, by rw [HG.out]; exact Rdi.nil, c2, by rw [HA.out]; exact g2, g3⟩
      · rw [hft] at HA HG
        simp only [if_true] at HA HG
        have CT := rgrant_any fr sp se W2 H3.out.2.1 hft hfr hsp
        rw [show takeZ S.tick.n S.tick.F fr = takeZ S.n S.F fr from rfl, show S.tick.tkA fr sp = S.tkA fr sp from rfl] at CT
        clear hft
        generalize hZ : takeZ S.n S.F fr = Z at *
        generalize hY : S.tkA fr sp = ta at *
        obtain ⟨S2, hS2⟩ : ∃ S2, S2 = S.tick.tk fr sp se := ⟨_, rfl⟩
        have HS2 : Hid (S2.m = S.m ∧ S2.most = S.most) := by rw [hS2]; exact ⟨rfl, rfl⟩
        rw [← hS2] at CT HA
        clear hZ hY hS2
        go_wp2_with fail
        refine CT.mono ?_
        rintro e w2 ⟨x, dx, rfl, s2, p2, r2, n2⟩
        have H2 : Hid (Blk w2 w.heap.size [.int .i64 0, .slice none 0 0, .int .i64 0] ∧ RSH B w2 c A S2 ∧ Stp c w c w2 ∧ Rdi w2 x Z) := ⟨p2.blk H3.out.1 z1.out.1, s2, H3.out.2.2.1.trans p2, r2⟩
        have HX : Hid (∀ g o, x = some ⟨g, o, none⟩ → W2.heap.size ≤ g) := n2
        have HSZ : Hid (w.heap.size + 1 ≤ W2.heap.size ∧ w.heap.size ≤ w2.heap.size) := ⟨H3.out.2.2.2, by have := H3.out.2.2.2; have := p2.mu.size; omega⟩
        clear CT s2 p2 r2 n2
        have HIM : Hid (i < S2.m) := by rw [HS2.out.1]; exact hi
        obtain ⟨rm, hrm⟩ : ∃ rm : Int, rm = (S2.most : Int) - ((S2.Q i).length : Int) := ⟨_, rfl⟩
        obtain ⟨lw, hlw⟩ : ∃ lw, lw = S2.lw i := ⟨_, rfl⟩
        obtain ⟨L, hL⟩ : ∃ L, L = S2.lwZ i := ⟨_, rfl⟩
        obtain ⟨ln, hln⟩ : ∃ ln, ln = L.length := ⟨_, rfl⟩
        have HLN : Hid (ln = L.length) := hln
        have HR : Hid (∀ u, Kept w2 u → Calls Tryz.prog 100 #[.pointer (some ⟨A.q i, 0, none⟩)] u fun e u' => e = .returned (.int .i64 rm) ∧ Kept u u') := fun u k => by
          obtain ⟨v, s1, _⟩ := (H2.out.2.1.kept k).stk i HIM.out
          rw [hrm]
          exact srroom_any u s1
        obtain ⟨P1, hP1⟩ : ∃ P1 : Option Addr → Nat → World → Prop, P1 = fun y dd u => RSH B u c A { S2 with F := dropF S2.F lw } ∧ Stp c w c u ∧ Lst u w2.heap.size (.slice y ln dd) L ∧ Blk u w.heap.size [.int .i64 0, .slice none 0 0, .int .i64 0] ∧ Rdi u x Z := ⟨_, rfl⟩
        have HP : Hid (∀ y dd u, P1 y dd u → RSH B u c A { S2 with F := dropF S2.F lw } ∧ Stp c w c u ∧ Lst u w2.heap.size (.slice y ln dd) L ∧ Blk u w.heap.size [.int .i64 0, .slice none 0 0, .int .i64 0] ∧ Rdi u x Z) := fun y dd u q => by rw [hP1] at q; exact q
        have HL : Hid (∀ u, Kept w2 u → Calls Tryz.prog 99 #[.pointer (some ⟨A.pb, 0, none⟩), .int .i64 rm] u fun e u' => ∃ y dd, e = .returned (.slice y ln dd) ∧ P1 y dd u') := fun u k => by
          refine (prlow_any rm u (H2.out.2.1.kept k).pool).mono ?_
          rintro e u' ⟨v, rfl, g, t, m⟩
          have l := Got.lst g
          rw [hrm, show (lowL S2.n S2.F ((S2.most : Int) - ((S2.Q i).length : Int))).map (fun x : Nat => (x : Int)) = L from hL.symm] at l
          obtain ⟨y, dd, rfl⟩ := l.form
          rw [← hln] at l ⊢
          have r := (H2.out.2.1.kept k).pools t m
          have nd : ∀ g, c g = 0 → g ∉ [A.pg] := fun g h1 q => by
            rw [List.mem_singleton.1 q, H2.out.2.1.cpg] at h1; cases h1
          refine ⟨y, dd, rfl, ?_⟩
          rw [hP1]
          refine ⟨?_, H2.out.2.2.1.trans ((Stp.kept k).trans r.2), l.low k.size, (H2.out.1.kept k).muts m (nd _ z1.out.1), (H2.out.2.2.2.kept k).muts m (fun g o e => nd g (NW.out g (by have := HX.out g o e; have := HSZ.out.1; omega)))⟩
          have r1 := r.1
          rw [hrm] at r1
          rw [hlw]
          exact r1
        have HR1 : Hid ((S2.Q i).length + L.length ≤ S2.most) := by
          obtain ⟨v, s1, _⟩ := H2.out.2.1.stk i HIM.out
          have h1 := s1.few
          have h2 : L.length = min ((S2.most : Int) - ((S2.Q i).length : Int)).toNat (cntB S2.F S2.n) := by
            rw [hL]
            simp only [Sp.lwZ, Sp.lw, List.length_map, lowL_len]
          show _ ≤ _
          omega
        have HFL : Hid (S2.fill i = { S2 with F := dropF S2.F lw, T := useT S2.n 1 false S2.T L, Q := fun j => if j = i then S2.Q i ++ L else S2.Q j }) := by
          show _ = _
          rw [hL, hlw]; rfl
        have HM16 : Hid (S.m ≤ 16 ∧ ln ≤ 1000) := ⟨hm16, by
          obtain ⟨v, s1, _⟩ := H2.out.2.1.stk i HIM.out
          have h1 := s1.max
          have h2 := HR1.out
          omega⟩
        have HC : Hid ((∀ u, Kept w2 u → u.cell? ⟨A.b, 10, none⟩ = some (.pointer (some ⟨A.pb, 0, none⟩))) ∧ (∀ u, Kept w2 u → u.cell? ⟨A.b, 11, none⟩ = some (.slice (some ⟨A.sb, 0, none⟩) S.m A.sc)) ∧ (∀ u, Kept w2 u → u.cell? ⟨A.sb, i, none⟩ = some (.pointer (some ⟨A.q i, 0, none⟩)))) :=
          ⟨fun u q => (H2.out.2.1.kept q).cell (i := 10) (u := .pointer (some ⟨A.pb, 0, none⟩)) (fun _ _ => rfl), fun u q => (H2.out.2.1.kept q).cell (i := 11) (u := .slice (some ⟨A.sb, 0, none⟩) S.m A.sc) (fun _ _ => by rw [← HS2.out.1]; rfl), fun u q => (H2.out.2.1.kept q).qcell (i := i) HIM.out⟩
        clear hrm hlw hL hln hP1
        go_wp2_with fail
        refine wp_region_ghost (G := Option Addr × Nat) (fun ⟨y, dd⟩ => [(.pointer (some ⟨A.b, 0, none⟩)), (.pointer (some ⟨A.b, 0, none⟩)), (.pointer (some ⟨A.b, 10, none⟩)), (.pointer (some ⟨A.pb, 0, none⟩)), (.pointer (some ⟨A.b, 0, none⟩)), (.pointer (some ⟨A.b, 0, none⟩)), (.pointer (some ⟨A.b, 11, none⟩)), (.slice (some ⟨A.sb, 0, none⟩) S.m A.sc), (.int .i64 (i : Int)), (.pointer (some ⟨A.sb, i, none⟩)), (.pointer (some ⟨A.q i, 0, none⟩)), (.int .i64 rm), (.slice y ln dd), (.slice y ln dd)]) [(17, 13), (97, 0), (98, 1), (99, 2), (100, 3), (101, 4), (102, 5), (103, 6), (104, 7), (105, 8), (106, 9), (107, 10), (108, 11), (109, 12)] (fun ⟨y, dd⟩ d u => JP 12 [] (fun u => Kept w2 u) (fun u => P1 y dd u) d u) (by kernel_rfl) (by kernel_rfl) (by kernel_rfl) (by kernel_rfl) (fun _ => rfl) ?_ ?_ ?_
        · exact ⟨⟨none, 0⟩, JP.start (Kept.refl _).drew⟩
        · intro i1 o1 ho ng a1 d u hh hj0 hi hd hc
          obtain ⟨y, dd⟩ := ng
          have hj : JP 12 [] (fun u => Kept w2 u) (fun u => P1 y dd u) d u := hj0
          clear hj0
          match i1, ho, hi, hd with
          | 0, ho, hi, hd =>
            simp only [List.getElem?_cons_zero, Option.some.injEq] at ho
            subst ho
            have g0 : a1.tmps[0]? = some (.pointer (some ⟨A.b, 0, none⟩)) := hh.old 0 (by kernel_rfl) rfl
            have HN : Hid (JP 12 [] (fun u => Kept w2 u) (fun u => P1 y dd u) (done d 0) u) := hj.plain 0 (by decide)
            clear hh hd hc hj hi
            refine wpOp_step rfl (fun K hK => ?_)
            go_simp
            exact hK _ _ ⟨⟨y, dd⟩, fun _ _ => rfl, by simp [Act.put], HN.out⟩
          | 1, ho, hi, hd =>
            simp only [List.getElem?_cons_succ, List.getElem?_cons_zero, Option.some.injEq] at ho
            subst ho
            have g97 : a1.tmps[97]? = some (.pointer (some ⟨A.b, 0, none⟩)) := hh.did 0 _ 97 rfl rfl (hd { on := 0, ground := .data } (by simp) rfl)
            have HN : Hid (JP 12 [] (fun u => Kept w2 u) (fun u => P1 y dd u) (done d 1) u) := hj.plain 1 (by decide)
            clear hh hd hc hj hi
            refine wpOp_step rfl (fun K hK => ?_)
            go_simp
            exact hK _ _ ⟨⟨y, dd⟩, fun _ _ => rfl, by simp [Act.put], HN.out⟩
          | 2, ho, hi, hd =>
            simp only [List.getElem?_cons_succ, List.getElem?_cons_zero, Option.some.injEq] at ho
            subst ho
            have g98 : a1.tmps[98]? = some (.pointer (some ⟨A.b, 0, none⟩)) := hh.did 1 _ 98 rfl rfl (hd { on := 1, ground := .data } (by simp) rfl)
            have HN : Hid (JP 12 [] (fun u => Kept w2 u) (fun u => P1 y dd u) (done d 2) u) := hj.plain 2 (by decide)
            clear hh hd hc hj hi
            refine wpOp_step rfl (fun K hK => ?_)
            go_simp
            exact hK _ _ ⟨⟨y, dd⟩, fun _ _ => rfl, by simp [Act.put], HN.out⟩
          | 3, ho, hi, hd =>
            simp only [List.getElem?_cons_succ, List.getElem?_cons_zero, Option.some.injEq] at ho
            subst ho
            have g99 : a1.tmps[99]? = some (.pointer (some ⟨A.b, 10, none⟩)) := hh.did 2 _ 99 rfl rfl (hd { on := 2, ground := .data } (by simp) rfl)
            have n12 : d 12 = false := by
              cases q : d 12 with
              | false => rfl
              | true => exact absurd (hc 12 _ rfl q { on := 3, ground := .data } (by simp) rfl) (by simp [hi])
            have h0 := hj.now n12
            have c10 := HC.out.1 u h0
            have HN : Hid (JP 12 [] (fun u => Kept w2 u) (fun u => P1 y dd u) (done d 3) u) := hj.plain 3 (by decide)
            clear hh hd hc hj hi
            refine wpOp_step rfl (fun K hK => ?_)
            go_simp
            exact hK _ _ ⟨⟨y, dd⟩, fun _ _ => rfl, by simp [Act.put], HN.out⟩
          | 4, ho, hi, hd =>
            simp only [List.getElem?_cons_succ, List.getElem?_cons_zero, Option.some.injEq] at ho
            subst ho
            have g0 : a1.tmps[0]? = some (.pointer (some ⟨A.b, 0, none⟩)) := hh.old 0 (by kernel_rfl) rfl
            have HN : Hid (JP 12 [] (fun u => Kept w2 u) (fun u => P1 y dd u) (done d 4) u) := hj.plain 4 (by decide)
            clear hh hd hc hj hi
            refine wpOp_step rfl (fun K hK => ?_)
            go_simp
            exact hK _ _ ⟨⟨y, dd⟩, fun _ _ => rfl, by simp [Act.put], HN.out⟩
          | 5, ho, hi, hd =>
            simp only [List.getElem?_cons_succ, List.getElem?_cons_zero, Option.some.injEq] at ho
            subst ho
            have g101 : a1.tmps[101]? = some (.pointer (some ⟨A.b, 0, none⟩)) := hh.did 4 _ 101 rfl rfl (hd { on := 4, ground := .data } (by simp) rfl)
            have HN : Hid (JP 12 [] (fun u => Kept w2 u) (fun u => P1 y dd u) (done d 5) u) := hj.plain 5 (by decide)
            clear hh hd hc hj hi
            refine wpOp_step rfl (fun K hK => ?_)
            go_simp
            exact hK _ _ ⟨⟨y, dd⟩, fun _ _ => rfl, by simp [Act.put], HN.out⟩
          | 6, ho, hi, hd =>
            simp only [List.getElem?_cons_succ, List.getElem?_cons_zero, Option.some.injEq] at ho
            subst ho
            have g102 : a1.tmps[102]? = some (.pointer (some ⟨A.b, 0, none⟩)) := hh.did 5 _ 102 rfl rfl (hd { on := 5, ground := .data } (by simp) rfl)
            have HN : Hid (JP 12 [] (fun u => Kept w2 u) (fun u => P1 y dd u) (done d 6) u) := hj.plain 6 (by decide)
            clear hh hd hc hj hi
            refine wpOp_step rfl (fun K hK => ?_)
            go_simp
            exact hK _ _ ⟨⟨y, dd⟩, fun _ _ => rfl, by simp [Act.put], HN.out⟩
          | 7, ho, hi, hd =>
            simp only [List.getElem?_cons_succ, List.getElem?_cons_zero, Option.some.injEq] at ho
            subst ho
            have g103 : a1.tmps[103]? = some (.pointer (some ⟨A.b, 11, none⟩)) := hh.did 6 _ 103 rfl rfl (hd { on := 6, ground := .data } (by simp) rfl)
            have n12 : d 12 = false := by
              cases q : d 12 with
              | false => rfl
              | true => exact absurd (hc 9 _ rfl (hc 10 _ rfl (hc 11 _ rfl (hc 12 _ rfl q { on := 11, ground := .data } (by simp) rfl) { on := 10, ground := .data } (by simp) rfl) { on := 9, ground := .data } (by simp) rfl) { on := 7, ground := .data } (by simp) rfl) (by simp [hi])
            have h0 := hj.now n12
            have c11 := HC.out.2.1 u h0
            have HN : Hid (JP 12 [] (fun u => Kept w2 u) (fun u => P1 y dd u) (done d 7) u) := hj.plain 7 (by decide)
            clear hh hd hc hj hi
            refine wpOp_step rfl (fun K hK => ?_)
            go_simp
            exact hK _ _ ⟨⟨y, dd⟩, fun _ _ => rfl, by simp [Act.put], HN.out⟩
          | 8, ho, hi, hd =>
            simp only [List.getElem?_cons_succ, List.getElem?_cons_zero, Option.some.injEq] at ho
            subst ho
            have g1 : a1.tmps[1]? = some (.int .i64 (i : Int)) := hh.old 1 (by kernel_rfl) rfl
            have HN : Hid (JP 12 [] (fun u => Kept w2 u) (fun u => P1 y dd u) (done d 8) u) := hj.plain 8 (by decide)
            clear hh hd hc hj hi
            refine wpOp_step rfl (fun K hK => ?_)
            go_simp
            exact hK _ _ ⟨⟨y, dd⟩, fun _ _ => rfl, by simp [Act.put], HN.out⟩
          | 9, ho, hi, hd =>
            simp only [List.getElem?_cons_succ, List.getElem?_cons_zero, Option.some.injEq] at ho
            subst ho
            have g104 : a1.tmps[104]? = some (.slice (some ⟨A.sb, 0, none⟩) S.m A.sc) := hh.did 7 _ 104 rfl rfl (hd { on := 7, ground := .data } (by simp) rfl)
            have g105 : a1.tmps[105]? = some (.int .i64 (i : Int)) := hh.did 8 _ 105 rfl rfl (hd { on := 8, ground := .data } (by simp) rfl)
            have hi16 := HM16.out.1
            have him := HIM.out
            have HN : Hid (JP 12 [] (fun u => Kept w2 u) (fun u => P1 y dd u) (done d 9) u) := hj.plain 9 (by decide)
            clear hh hd hc hj hi
            refine wpOp_step rfl (fun K hK => ?_)
            go_simp
            exact hK _ _ ⟨⟨y, dd⟩, fun _ _ => rfl, by simp [Act.put], HN.out⟩
          | 10, ho, hi, hd =>
            simp only [List.getElem?_cons_succ, List.getElem?_cons_zero, Option.some.injEq] at ho
            subst ho
            have g106 : a1.tmps[106]? = some (.pointer (some ⟨A.sb, i, none⟩)) := hh.did 9 _ 106 rfl rfl (hd { on := 9, ground := .data } (by simp) rfl)
            have n12 : d 12 = false := by
              cases q : d 12 with
              | false => rfl
              | true => exact absurd (hc 11 _ rfl (hc 12 _ rfl q { on := 11, ground := .data } (by simp) rfl) { on := 10, ground := .data } (by simp) rfl) (by simp [hi])
            have h0 := hj.now n12
            have cq := HC.out.2.2 u h0
            have HN : Hid (JP 12 [] (fun u => Kept w2 u) (fun u => P1 y dd u) (done d 10) u) := hj.plain 10 (by decide)
            clear hh hd hc hj hi
            refine wpOp_step rfl (fun K hK => ?_)
            go_simp
            exact hK _ _ ⟨⟨y, dd⟩, fun _ _ => rfl, by simp [Act.put], HN.out⟩
          | 11, ho, hi, hd =>
            simp only [List.getElem?_cons_succ, List.getElem?_cons_zero, Option.some.injEq] at ho
            subst ho
            have g107 : a1.tmps[107]? = some (.pointer (some ⟨A.q i, 0, none⟩)) := hh.did 10 _ 107 rfl rfl (hd { on := 10, ground := .data } (by simp) rfl)
            have n12 : d 12 = false := by
              cases q : d 12 with
              | false => rfl
              | true => exact absurd (hc 12 _ rfl q { on := 11, ground := .data } (by simp) rfl) (by simp [hi])
            have h0 : Hid (Kept w2 u) := hj.now n12
            have HJ : Hid (JP 12 [] (fun u => Kept w2 u) (fun u => P1 y dd u) d u) := hj
            have HI : Hid (d 12 = false) := n12
            have C := HR.out u h0.out
            clear hh hd hc hj hi n12
            refine wpOp_step rfl (fun K hK => ?_)
            go_simp
            refine C.mono ?_
            rintro e u2 ⟨rfl, k2⟩
            exact hK _ _ ⟨⟨y, dd⟩, fun _ _ => rfl, by simp [Act.put], HJ.out.stay HI.out 11 (by decide) (h0.out.trans k2)⟩
          | 12, ho, hi, hd =>
            simp only [List.getElem?_cons_succ, List.getElem?_cons_zero, Option.some.injEq] at ho
            subst ho
            have g100 : a1.tmps[100]? = some (.pointer (some ⟨A.pb, 0, none⟩)) := hh.did 3 _ 100 rfl rfl (hd { on := 3, ground := .data } (by simp) rfl)
            have g108 : a1.tmps[108]? = some (.int .i64 rm) := hh.did 11 _ 108 rfl rfl (hd { on := 11, ground := .data } (by simp) rfl)
            have h0 : Hid (Kept w2 u) := hj.now hi
            have HJ : Hid (JP 12 [] (fun u => Kept w2 u) (fun u => P1 y dd u) d u) := hj
            have HI : Hid (d 12 = false ∧ d 13 = false) := ⟨hi, by
              cases q : d 13 with
              | false => rfl
              | true => exact absurd (hc 13 _ rfl q { on := 12, ground := .data } (by simp) rfl) (by simp [hi])⟩
            have C := HL.out u h0.out
            clear hh hd hc hj hi
            refine wpOp_step rfl (fun K hK => ?_)
            go_simp
            refine C.mono ?_
            rintro e u2 ⟨y', dd', rfl, p1⟩
            refine hK _ _ ⟨⟨y', dd'⟩, fun j hj => ?_, by simp [Act.put], JP.turn (fun r hr => absurd hr (by simp)) p1⟩
            have j12 : j ≠ 12 := fun q => by rw [q, HI.out.1] at hj; cases hj
            have j13 : j ≠ 13 := fun q => by rw [q, HI.out.2] at hj; cases hj
            match j, j12, j13 with
            | 0, _, _ => rfl
            | 1, _, _ => rfl
            | 2, _, _ => rfl
            | 3, _, _ => rfl
            | 4, _, _ => rfl
            | 5, _, _ => rfl
            | 6, _, _ => rfl
            | 7, _, _ => rfl
            | 8, _, _ => rfl
            | 9, _, _ => rfl
            | 10, _, _ => rfl
            | 11, _, _ => rfl
            | j + 14, _, _ => rfl
          | 13, ho, hi, hd =>
            simp only [List.getElem?_cons_succ, List.getElem?_cons_zero, Option.some.injEq] at ho
            subst ho
            have g109 : a1.tmps[109]? = some (.slice y ln dd) := hh.did 12 _ 109 rfl rfl (hd { on := 12, ground := .data } (by simp) rfl)
            have HN : Hid (JP 12 [] (fun u => Kept w2 u) (fun u => P1 y dd u) (done d 13) u) := hj.plain 13 (by decide)
            clear hh hd hc hj hi
            refine wpOp_step rfl (fun K hK => ?_)
            go_simp
            exact hK _ _ ⟨⟨y, dd⟩, fun _ _ => rfl, by simp [Act.put], HN.out⟩
          | n + 14, ho, hi, hd => simp at ho
        · intro ng u d hall hj0
          obtain ⟨y, dd⟩ := ng
          have hj : JP 12 [] (fun u => Kept w2 u) (fun u => P1 y dd u) d u := hj0
          clear hj0
          have h1 : Hid (P1 y dd u) := hj.fin (hall 12 (by decide))
          have H3 : Hid (RSH B u c A { S2 with F := dropF S2.F lw } ∧ Stp c w c u ∧ Lst u w2.heap.size (.slice y ln dd) L ∧ Blk u w.heap.size [.int .i64 0, .slice none 0 0, .int .i64 0] ∧ Rdi u x Z) := HP.out y dd u h1.out
          clear hall hj h1
          refine norm_list' (L' := [_, _, _, _, _, _, _, _, _, _, _, _, _, _, _, _, _, _, _, _, _, _, _, _, _, _, _, _, _, _, _, _, _, _, _, _, _, _, _, _, _, _, _, _, _, _, _, _, _, _, _, _, _, _, _, _, _, _, _, _, _, _, _, _, _, _, _, _, _, _, _, _, _, _, _, _, _, _, _, _, _, _, _, _, _, _, _, _, _, _, _, _, _, _, _, _, _, _, _, _, _, _, _, _, _, _, _, _, _, _, _, _, _, _, _, _, _, _, _, _, _, _, _, _, _, _, _, _, _, _, _, _, _, _, _, _, _, _, _, _, _, _, _, _, _, _, _]) rfl ?_
          have hln0 := HM16.out.2
          go_wp2
          go_loopg [18] ln (fun m q wr => ∃ k : Nat, q = .int .i64 k ∧ k ≤ ln ∧ m = ln - k ∧ Hid (RSH B wr c A { S2 with F := dropF S2.F lw, T := useT S2.n 1 false S2.T (L.take k) } ∧ Stp c w c wr ∧ Lst wr w2.heap.size (.slice y ln dd) L ∧ Blk wr w.heap.size [.int .i64 0, .slice none 0 0, .int .i64 0] ∧ Rdi wr x Z))
          case atStart => exact ⟨0, rfl, by omega, by omega, by simpa [useT] using H3.out.1, H3.out.2⟩
          case round =>
            obtain ⟨k, rfl, hk, hm, hw⟩ := hrel
            have HM : Hid _ := hm
            clear hm
            by_cases hlt : k < ln
            · have hlt2 : k < L.length := by have := HLN.out; omega
              obtain ⟨g, o, rfl, hgl, hc⟩ := hw.out.2.2.1.rdi (by omega)
              have a0 := hc k hlt2
              have hst : Hid (setT S2.n (useT S2.n 1 false S2.T (L.take k)) L[k] 1 false false = useT S2.n 1 false S2.T (L.take (k + 1))) := useT_take hlt2
              have HD : Hid ((∀ u, Kept wr u → u.cell? ⟨A.b, 9, none⟩ = some (.pointer (some ⟨A.tb, 0, none⟩))) ∧ (∀ u, Kept wr u → u.cell? ⟨g, o + k, none⟩ = some (.int .i64 L[k]))) :=
                ⟨fun u q => (hw.out.1.kept q).cell (i := 9) (u := .pointer (some ⟨A.tb, 0, none⟩)) (fun _ _ => rfl), fun u q => (q.cell hgl).trans a0⟩
              obtain ⟨Q, hQ⟩ : ∃ Q : World → Prop, Q = fun wr => RSH B wr c A { S2 with F := dropF S2.F lw, T := useT S2.n 1 false S2.T (L.take (k + 1)) } ∧ Stp c w c wr ∧ Lst wr w2.heap.size (.slice (some ⟨g, o, none⟩) ln dd) L ∧ Blk wr w.heap.size [.int .i64 0, .slice none 0 0, .int .i64 0] ∧ Rdi wr x Z := ⟨_, rfl⟩
              have HQ : Hid (∀ wr, Q wr → RSH B wr c A { S2 with F := dropF S2.F lw, T := useT S2.n 1 false S2.T (L.take (k + 1)) } ∧ Stp c w c wr ∧ Lst wr w2.heap.size (.slice (some ⟨g, o, none⟩) ln dd) L ∧ Blk wr w.heap.size [.int .i64 0, .slice none 0 0, .int .i64 0] ∧ Rdi wr x Z) := fun u q => by rw [hQ] at q; exact q
              obtain ⟨rb, hrb⟩ : ∃ rb : Bool, rb = (inn S2.n L[k] && isSt 1) := ⟨_, rfl⟩
              have HT : Hid (∀ u, Kept wr u → Calls Tryz.prog 101 #[.pointer (some ⟨A.tb, 0, none⟩), .int .i64 L[k], .int .i64 1, .bool false, .bool se] u fun e u' => e = .returned (.bool rb) ∧ Q u') := fun u q => by
                obtain ⟨T', t1, t2⟩ := (hw.out.1.kept q).tab
                rw [hrb, hQ]
                refine (trset_any L[k] 1 false se u t1).mono ?_
                rintro e u' ⟨rfl, t3, m3⟩
                have t4 := t2.set L[k] 1 false false se (fun q => by cases q)
                rw [hst.out] at t4
                have r := (hw.out.1.kept q).tabs (T := useT S2.n 1 false S2.T (L.take (k + 1))) t3 t4 m3
                have nd : ∀ g, c g = 0 → g ∉ [A.gs, A.gh, A.gc] := fun g h1 q => by
                  simp only [List.mem_cons, List.not_mem_nil, or_false] at q
                  rcases q with rfl | rfl | rfl
                  · rw [hw.out.1.cgs] at h1; cases h1
                  · rw [hw.out.1.cgh] at h1; cases h1
                  · rw [hw.out.1.cgc] at h1; cases h1
                have hz0 : w.heap.size ≤ w2.heap.size := HSZ.out.2
                exact ⟨rfl, r.1, hw.out.2.1.trans ((Stp.kept q).trans r.2), (hw.out.2.2.1.kept q).muts m3 (fun k hk => nd k (NW.out k (by have := (hw.out.2.2.1.lt k hk).1; omega))),
                  (hw.out.2.2.2.1.kept q).muts m3 (nd _ z1.out.1), (hw.out.2.2.2.2.kept q).muts m3 (fun g o e => nd g (NW.out g (by have := HX.out g o e; have := HSZ.out.1; omega)))⟩
              clear hc a0 hgl hQ hrb hst
              generalize L[k] = z at *
              go_wp2_with fail
              refine wp_region_ghost (G := Unit) (fun ⟨⟩ => [(.pointer (some ⟨A.b, 0, none⟩)), (.pointer (some ⟨A.b, 0, none⟩)), (.pointer (some ⟨A.b, 9, none⟩)), (.pointer (some ⟨A.tb, 0, none⟩)), (.slice (some ⟨g, o, none⟩) ln dd), (.int .i64 (k : Int)), (.pointer (some ⟨g, o + k, none⟩)), (.int .i64 z), (.bool se), (.bool rb)]) [(116, 0), (117, 1), (118, 2), (119, 3), (120, 4), (121, 5), (122, 6), (123, 7), (124, 8), (125, 9)] (fun ⟨⟩ d u => JP 9 [] (fun u => Kept wr u) (fun u => Q u) d u) (by kernel_rfl) (by kernel_rfl) (by kernel_rfl) (by kernel_rfl) (fun _ => rfl) ?_ ?_ ?_
              · exact ⟨(), JP.start (Kept.refl _).drew⟩
              · intro i1 o1 ho ng a1 d u hh hj0 hi hd hc
                obtain ⟨⟩ := ng
                have hj : JP 9 [] (fun u => Kept wr u) (fun u => Q u) d u := hj0
                clear hj0
                match i1, ho, hi, hd with
                | 0, ho, hi, hd =>
                  simp only [List.getElem?_cons_zero, Option.some.injEq] at ho
                  subst ho
                  have g0 : a1.tmps[0]? = some (.pointer (some ⟨A.b, 0, none⟩)) := hh.old 0 (by kernel_rfl) rfl
                  have HN : Hid (JP 9 [] (fun u => Kept wr u) (fun u => Q u) (done d 0) u) := hj.plain 0 (by decide)
                  clear hh hd hc hj hi
                  refine wpOp_step rfl (fun K hK => ?_)
                  go_simp
                  exact hK _ _ ⟨⟨⟩, fun _ _ => rfl, by simp [Act.put], HN.out⟩
                | 1, ho, hi, hd =>
                  simp only [List.getElem?_cons_succ, List.getElem?_cons_zero, Option.some.injEq] at ho
                  subst ho
                  have g116 : a1.tmps[116]? = some (.pointer (some ⟨A.b, 0, none⟩)) := hh.did 0 _ 116 rfl rfl (hd { on := 0, ground := .data } (by simp) rfl)
                  have HN : Hid (JP 9 [] (fun u => Kept wr u) (fun u => Q u) (done d 1) u) := hj.plain 1 (by decide)
                  clear hh hd hc hj hi
                  refine wpOp_step rfl (fun K hK => ?_)
                  go_simp
                  exact hK _ _ ⟨⟨⟩, fun _ _ => rfl, by simp [Act.put], HN.out⟩
                | 2, ho, hi, hd =>
                  simp only [List.getElem?_cons_succ, List.getElem?_cons_zero, Option.some.injEq] at ho
                  subst ho
                  have g117 : a1.tmps[117]? = some (.pointer (some ⟨A.b, 0, none⟩)) := hh.did 1 _ 117 rfl rfl (hd { on := 1, ground := .data } (by simp) rfl)
                  have HN : Hid (JP 9 [] (fun u => Kept wr u) (fun u => Q u) (done d 2) u) := hj.plain 2 (by decide)
                  clear hh hd hc hj hi
                  refine wpOp_step rfl (fun K hK => ?_)
                  go_simp
                  exact hK _ _ ⟨⟨⟩, fun _ _ => rfl, by simp [Act.put], HN.out⟩
                | 3, ho, hi, hd =>
                  simp only [List.getElem?_cons_succ, List.getElem?_cons_zero, Option.some.injEq] at ho
                  subst ho
                  have g118 : a1.tmps[118]? = some (.pointer (some ⟨A.b, 9, none⟩)) := hh.did 2 _ 118 rfl rfl (hd { on := 2, ground := .data } (by simp) rfl)
                  have n9 : d 9 = false := by
                    cases q : d 9 with
                    | false => rfl
                    | true => exact absurd (hc 9 _ rfl q { on := 3, ground := .data } (by simp) rfl) (by simp [hi])
                  have h0 := hj.now n9
                  have c9 : u.cell? ⟨A.b, 9, none⟩ = some (.pointer (some ⟨A.tb, 0, none⟩)) := HD.out.1 u h0
                  have HN : Hid (JP 9 [] (fun u => Kept wr u) (fun u => Q u) (done d 3) u) := hj.plain 3 (by decide)
                  clear hh hd hc hj hi
                  refine wpOp_step rfl (fun K hK => ?_)
                  go_simp
                  exact hK _ _ ⟨⟨⟩, fun _ _ => rfl, by simp [Act.put], HN.out⟩
                | 4, ho, hi, hd =>
                  simp only [List.getElem?_cons_succ, List.getElem?_cons_zero, Option.some.injEq] at ho
                  subst ho
                  have g17 : a1.tmps[17]? = some (.slice (some ⟨g, o, none⟩) ln dd) := hh.old 17 (by kernel_rfl) rfl
                  have HN : Hid (JP 9 [] (fun u => Kept wr u) (fun u => Q u) (done d 4) u) := hj.plain 4 (by decide)
                  clear hh hd hc hj hi
                  refine wpOp_step rfl (fun K hK => ?_)
                  go_simp
                  exact hK _ _ ⟨⟨⟩, fun _ _ => rfl, by simp [Act.put], HN.out⟩
                | 5, ho, hi, hd =>
                  simp only [List.getElem?_cons_succ, List.getElem?_cons_zero, Option.some.injEq] at ho
                  subst ho
                  have g18 : a1.tmps[18]? = some (.int .i64 (k : Int)) := hh.old 18 (by kernel_rfl) rfl
                  have HN : Hid (JP 9 [] (fun u => Kept wr u) (fun u => Q u) (done d 5) u) := hj.plain 5 (by decide)
                  clear hh hd hc hj hi
                  refine wpOp_step rfl (fun K hK => ?_)
                  go_simp
                  exact hK _ _ ⟨⟨⟩, fun _ _ => rfl, by simp [Act.put], HN.out⟩
                | 6, ho, hi, hd =>
                  simp only [List.getElem?_cons_succ, List.getElem?_cons_zero, Option.some.injEq] at ho
                  subst ho
                  have g120 : a1.tmps[120]? = some (.slice (some ⟨g, o, none⟩) ln dd) := hh.did 4 _ 120 rfl rfl (hd { on := 4, ground := .data } (by simp) rfl)
                  have g121 : a1.tmps[121]? = some (.int .i64 (k : Int)) := hh.did 5 _ 121 rfl rfl (hd { on := 5, ground := .data } (by simp) rfl)
                  have HN : Hid (JP 9 [] (fun u => Kept wr u) (fun u => Q u) (done d 6) u) := hj.plain 6 (by decide)
                  clear hh hd hc hj hi
                  refine wpOp_step rfl (fun K hK => ?_)
                  go_simp
                  exact hK _ _ ⟨⟨⟩, fun _ _ => rfl, by simp [Act.put], HN.out⟩
                | 7, ho, hi, hd =>
                  simp only [List.getElem?_cons_succ, List.getElem?_cons_zero, Option.some.injEq] at ho
                  subst ho
                  have g122 : a1.tmps[122]? = some (.pointer (some ⟨g, o + k, none⟩)) := hh.did 6 _ 122 rfl rfl (hd { on := 6, ground := .data } (by simp) rfl)
                  have n9 : d 9 = false := by
                    cases q : d 9 with
                    | false => rfl
                    | true => exact absurd (hc 9 _ rfl q { on := 7, ground := .data } (by simp) rfl) (by simp [hi])
                  have h0 := hj.now n9
                  have cz : u.cell? ⟨g, o + k, none⟩ = some (.int .i64 z) := HD.out.2 u h0
                  have HN : Hid (JP 9 [] (fun u => Kept wr u) (fun u => Q u) (done d 7) u) := hj.plain 7 (by decide)
                  clear hh hd hc hj hi
                  refine wpOp_step rfl (fun K hK => ?_)
                  go_simp
                  exact hK _ _ ⟨⟨⟩, fun _ _ => rfl, by simp [Act.put], HN.out⟩
                | 8, ho, hi, hd =>
                  simp only [List.getElem?_cons_succ, List.getElem?_cons_zero, Option.some.injEq] at ho
                  subst ho
                  have g4 : a1.tmps[4]? = some (.bool se) := hh.old 4 (by kernel_rfl) rfl
                  have HN : Hid (JP 9 [] (fun u => Kept wr u) (fun u => Q u) (done d 8) u) := hj.plain 8 (by decide)
                  clear hh hd hc hj hi
                  refine wpOp_step rfl (fun K hK => ?_)
                  go_simp
                  exact hK _ _ ⟨⟨⟩, fun _ _ => rfl, by simp [Act.put], HN.out⟩
                | 9, ho, hi, hd =>
                  simp only [List.getElem?_cons_succ, List.getElem?_cons_zero, Option.some.injEq] at ho
                  subst ho
                  have g119 : a1.tmps[119]? = some (.pointer (some ⟨A.tb, 0, none⟩)) := hh.did 3 _ 119 rfl rfl (hd { on := 3, ground := .data } (by simp) rfl)
                  have g123 : a1.tmps[123]? = some (.int .i64 z) := hh.did 7 _ 123 rfl rfl (hd { on := 7, ground := .data } (by simp) rfl)
                  have g124 : a1.tmps[124]? = some (.bool se) := hh.did 8 _ 124 rfl rfl (hd { on := 8, ground := .data } (by simp) rfl)
                  have h0 := hj.now hi
                  have C := HT.out u h0
                  clear hh hd hc hj hi h0
                  refine wpOp_step rfl (fun K hK => ?_)
                  go_simp
                  refine C.mono ?_
                  rintro e u2 ⟨rfl, q2⟩
                  exact hK _ _ ⟨(), fun _ _ => rfl, by simp [Act.put], JP.turn (fun r hr => absurd hr (by simp)) q2⟩
                | n + 10, ho, hi, hd => simp at ho
              · intro ng u d hall hj0
                obtain ⟨⟩ := ng
                have hj : JP 9 [] (fun u => Kept wr u) (fun u => Q u) d u := hj0
                clear hj0
                have h1 : Hid (Q u) := hj.fin (hall 9 (by decide))
                clear hall hj
                refine norm_list' (L' := [_, _, _, _, _, _, _, _, _, _, _, _, _, _, _, _, _, _, _, _, _, _, _, _, _, _, _, _, _, _, _, _, _, _, _, _, _, _, _, _, _, _, _, _, _, _, _, _, _, _, _, _, _, _, _, _, _, _, _, _, _, _, _, _, _, _, _, _, _, _, _, _, _, _, _, _, _, _, _, _, _, _, _, _, _, _, _, _, _, _, _, _, _, _, _, _, _, _, _, _, _, _, _, _, _, _, _, _, _, _, _, _, _, _, _, _, _, _, _, _, _, _, _, _, _, _, _, _, _, _, _, _, _, _, _, _, _, _, _, _, _, _, _, _, _, _, _]) rfl ?_
                go_wp2
                go_roundg (gk - 1)
                all_goals (have := HM.out; try omega)
                exact ⟨k + 1, by go_num, by omega, by omega, HQ.out u h1.out⟩
            · obtain rfl : k = ln := by omega
              have e1 : L.take k = L := by rw [HLN.out, List.take_length]
              rw [e1] at hw
              obtain ⟨v, s1, s2, s3⟩ := hw.out.1.stk i HIM.out
              have c11 := hw.out.1.cell (i := 11) (u := .slice (some ⟨A.sb, 0, none⟩) S.m A.sc) (fun _ _ => by rw [← HS2.out.1]; rfl)
              have cq := hw.out.1.qcell (i := i) HIM.out
              have CP := srput_yes (c := dd) (x := y) (N := L) wr s1 hw.out.2.2.1.rdi (by have := HR1.out; exact this)
              rw [← HLN.out] at CP
              have hi16 := HM16.out.1
              have him : i < S.m := by rw [← HS2.out.1]; exact HIM.out
              go_wp2_with fail
              refine CP.mono ?_
              rintro e w3 ⟨rfl, v', t3, m3, f3⟩
              have H3a := RSH.stks hw.out.1 HIM.out s2 s3 t3 m3 (fun k hk => hk) f3
              have hF : ∃ c', c' w.heap.size = 0 ∧ Blk w3 w.heap.size [.int .i64 0, .slice none 0 0, .int .i64 0] ∧ RSH B w3 c' A (S2.fill i) ∧ Stp c w c' w3 ∧ Rdi w3 x Z := by
                have hz0 : w.heap.size ≤ w2.heap.size := HSZ.out.2
                refine ⟨_, (H3a.2.same _ hw.out.2.2.2.1.lt).trans z1.out.1, H3a.2.blk hw.out.2.2.2.1 z1.out.1, ?_, hw.out.2.1.trans H3a.2, H3a.2.rdi hw.out.2.2.2.2 (fun g o e => NW.out g (by have := HX.out g o e; have := HSZ.out.1; omega))⟩
                rw [HFL.out]
                exact H3a.1
              clear CP s1 s2 s3 t3 m3 f3 H3a hw c11 cq
              obtain ⟨c3, hF⟩ := hF
              have H5 : Hid (c3 w.heap.size = 0 ∧ Blk w3 w.heap.size [.int .i64 0, .slice none 0 0, .int .i64 0] ∧ RSH B w3 c3 A (S2.fill i) ∧ Stp c w c3 w3 ∧ Rdi w3 x Z) := hF
              clear hF
              have b0 := H5.out.2.1.at 0 rfl
              have b1 := H5.out.2.1.at 1 rfl
              have b2 := H5.out.2.1.at 2 rfl
              have bf := H5.out.2.1.fz
              go_wp2
              (try simp only [Exit.inBlock, Exit.then])
              obtain ⟨g1, g2, g3, g4⟩ := rgrant_end (x := x) (G := Z) (.int .i64 1) (.slice x Z.length dx) (.int .i64 ta) H5.out.2.1 H5.out.2.2.1 H5.out.2.2.2.1 H5.out.1 (Nat.le_refl _) z1.out.2 H5.out.2.2.2.2 (fun g o e => by have := HX.out g o e; have := HSZ.out.1; omega)
              exact bodyPost_ret_by (results_blk rfl _ _ w.heap.size [_, _, _] rfl g1 Tryz.underlying71 (by kernel_rfl)) rfl ⟨x, dx, by rw [HG.out] <;> rfl, by rw [HG.out]; exact g4, c3, by rw [HA.out]; exact g2, g3⟩
    · have e0 : decide ((wts S.E).length = 0) = false := by simpa using hz
      rw [e0] at HA HG
      simp only [Bool.false_and, Bool.false_eq_true, if_false] at HA HG
      clear e0
      have HE : Hid (∀ e ∈ S.E, e.th ≠ (i : Int)) := HMY.out.2.2.2
      obtain ⟨lv, nv, E, N, l1, l2, l3, l4⟩ := H3.out.2.1.line
      have l2' : E.map Ent.nr = S.E.map Ent.nr := l2
      have CA := lradd_yes (t := (i : Int)) (f := fr) (s := sp) (s3 := 0) (s4 := 0) (s5 := 0) (x := none) (l := 0) (c := 0) W2 l1 (by
        have e1 : E.length = S.E.length := nr_len l2'
        have := HK.out.1.len
        have := HK.out.2
        omega) (fun e he q => by
        obtain ⟨e2, h2, q2⟩ := nr_th l2' he
        exact HE.out e2 h2 (q2.trans q))
      go_wp2_with fail
      refine CA.mono ?_
      rintro e w4 ⟨rfl, v', t2, m2, f2⟩
      have H2a := RSH.lines (EE := S.E ++ [newEnt i fr sp]) (fo := S.fo) (ct := S.ct + 1) H3.out.2.1 l4 t2 m2 (fun k hk => memR_own hk) f2 (by rw [List.map_append, l2', List.map_append]) (nrel_add l3 (fun e he => HE.out e he))
      have H2 : Hid (∃ c', c' w.heap.size = 0 ∧ Blk w4 w.heap.size [.int .i64 0, .slice none 0 0, .int .i64 0] ∧ RSH B w4 c' A (S.tick.addE i fr sp) ∧ Stp c w c' w4) :=
        ⟨_, (H2a.2.same _ H3.out.1.lt).trans z1.out.1, H2a.2.blk H3.out.1 z1.out.1, H2a.1, H3.out.2.2.1.trans H2a.2⟩
      clear H2a t2 m2 f2 l1 l2 l2' l3 l4 CA
      obtain ⟨c2, H2'⟩ := H2.out
      have H4 : Hid (c2 w.heap.size = 0 ∧ Blk w4 w.heap.size [.int .i64 0, .slice none 0 0, .int .i64 0] ∧ RSH B w4 c2 A (S.tick.addE i fr sp) ∧ Stp c w c2 w4) := H2'
      clear H2 H2'
      go_wp2_with fail
      refine (nobody_any 0 w4).mono ?_
      rintro e w5 ⟨rfl, k5⟩
      have H5 : Hid (Blk w5 w.heap.size [.int .i64 0, .slice none 0 0, .int .i64 0] ∧ RSH B w5 c2 A (S.tick.addE i fr sp) ∧ Stp c w c2 w5) := ⟨H4.out.2.1.kept k5, H4.out.2.2.1.kept k5, H4.out.2.2.2.trans (Stp.kept k5)⟩
      clear k5
      have b0 := H5.out.1.at 0 rfl
      have b1 := H5.out.1.at 1 rfl
      have b2 := H5.out.1.at 2 rfl
      have bf := H5.out.1.fz
      go_wp2
      (try simp only [Exit.inBlock, Exit.then])
      obtain ⟨g1, g2, g3, _⟩ := rgrant_end (x := none) (G := []) (.int .i64 0) (.slice none 0 0) (.int .i64 (-1)) H5.out.1 H5.out.2.1 H5.out.2.2 H4.out.1 (Nat.le_refl _) z1.out.2 Rdi.nil (fun _ _ e => by cases e)
      exact bodyPost_ret_by (results_blk rfl _ _ w.heap.size [_, _, _] rfl g1 Tryz.underlying71 (by kernel_rfl)) rfl ⟨none, 0, by rw [HG.out] <;> rfl, by rw [HG.out]; exact Rdi.nil, c2, by rw [HA.out]; exact g2, g3⟩
end
end Go.Proofs.YtahpnnjemjjfhaaGreat

