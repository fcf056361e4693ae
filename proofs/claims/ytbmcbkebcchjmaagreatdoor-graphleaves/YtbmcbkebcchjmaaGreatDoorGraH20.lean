/-
  Package graph: Do.
-/
import Derived.Test.YtbmcbkebcchjmaaGreatDoorGraG20
namespace Go.Proofs.YtbmcbkebcchjmaaGreatDoor
open Go.RowKit
attribute [local go_sem] run_store_complex

/-- The graph behind the call, as a plain one. -/
def Upd (C : Cf) (base p : Nat) (F : List Nat) (S' : Pg) (w w' : World) : Prop := ∃ F' A', GrA C w' base p F' A' ∧ A'.pg = S' ∧ Grow F F' w w'
theorem Upd.pre {C : Cf} {base p : Nat} {F : List Nat} {S' : Pg} {w w1 w' : World} (k : Kept w w1) (h : Upd C base p F S' w1 w') : Upd C base p F S' w w' := by
  obtain ⟨F', A', h1, h2, h3⟩ := h
  exact ⟨F', A', h1, h2, (Grow.kept k).trans h3⟩
theorem Grow.write {F F' : List Nat} {w w1 w2 w3 : World} (K : Kept w w1) (g : Grow F F' w1 w2) {b : Nat} (h0 : w.heap.size ≤ b) (m : Mut [b] w2 w3) : Grow F F' w w3 := by
  have g := (Grow.kept K).trans g
  refine ⟨⟨m.os.trans g.muta.os, m.tape.trans g.muta.tape, m.output.trans g.muta.output, Nat.le_trans g.muta.size m.size, fun i hi hn => ?_⟩, g.new⟩
  refine (m.block i (Nat.lt_of_lt_of_le hi g.muta.size) fun q => ?_).trans (g.muta.block i hi hn)
  have e : i = b := by simpa using q
  omega

section
variable {C : Cf} {base p : Nat} {F : List Nat} {A : Ga}
theorem Rw.set2 {w : World} {base g n cap : Nat} {vs : List V} (h : Rw 34 2 V.cs w base (.slice (some ⟨g, 0, none⟩) n cap) vs) {j : Nat} (hj : j < vs.length) (v : V) :
    Rw 34 2 V.cs ((w.setCell ⟨g, j * 2, none⟩ (.bool v.r)).setCell ⟨g, j * 2 + 1, none⟩ (.complex .f64 v.x v.y)) base (.slice (some ⟨g, 0, none⟩) n cap) (vs.set j v) := by
  have h1 := h.set V.len hj (j := 0) (by decide) (e' := ⟨v.r, vs[j].x, vs[j].y⟩) (u := .bool v.r) rfl
  have h2 := h1.set V.len (i := j) (by simpa using hj) (j := 1) (by decide) (e' := v) (u := .complex .f64 v.x v.y) (by simp [V.cs])
  rw [List.set_set] at h2
  exact h2
/-- A local is another one. -/
theorem GrA.setLocal {w w2 : World} (h : GrA C w base p F A) {vs vs' : List V} (hL : A.L = some vs) {g cap : Nat} (hg : A.lv = .slice (some ⟨g, 0, none⟩) vs.length cap) (hr : Rw 34 2 V.cs w2 base A.lv vs') (m : Mut [g] w w2) :
    GrA C w2 base p F { A with L := some vs' } := by
  have hgb : A.lv.ownBlock = some g := by rw [hg]; rfl
  have hlv := h.lvs vs hL
  have hn : A.L ≠ none := by rw [hL]; simp
  have np : p ∉ [g] := fun e => h.own.nerw hlv (by decide) (by rw [hgb]; simp at e; rw [e])
  have nmap : ∀ {b : Nat} {kv : Option (Int × Value)}, Mp w b kv → b ∉ [g] := fun {b kv} hb e => mp_ne_rw hb hlv (by rw [hgb]; simp at e; rw [e])
  have ntt : ∀ {t : TypeId} {b : Nat}, Tt w t b → t ≠ 34 → b ∉ [g] := fun {t b} hb h2 e => tt_ne_rw hb hlv (by rw [hgb]; simp at e; rw [e]) h2
  have hloc : Mp w2 A.lb (A.L.map fun _ => ((0 : Int), A.lv)) := h.loc.muts m (nmap h.loc)
  exact {
    own := h.own.muts m np
    cm := h.cm.muts m (fun b o e => by simp at e; rw [← e.1]; exact ntt h.ct (by decide)) (fun i hi b o e => ntt (h.cb i hi b o e) (by decide))
    thg := h.thg.muts m fun k hk q => by
      have e : k = g := by simpa using q
      subst e
      exact rw_ne h.thg hlv (by decide) hk hgb
    ths := fun u hu => by
      rcases h.ths u hu with e | ⟨b, k, v, e1, e2, e3, e4⟩
      · exact .inl e
      · exact .inr ⟨b, k, v, e1, e2, e3.muts m (nmap e3), e4⟩
    loc := by rw [hL] at hloc; exact hloc
    lvs := fun vs e => by
      have e : vs' = vs := by simpa using e
      rw [← e]; exact hr
    glo := h.glo.muts m fun k hk q => by
      have e : k = g := by simpa using q
      subst e
      exact h.ngl k hn hgb hk
    ct := h.ct.muts m (ntt h.ct (by decide))
    cb := fun i hi b o e => (h.cb i hi b o e).muts m (ntt (h.cb i hi b o e) (by decide))
    few := h.few
    kds := h.kds
    ngl := fun k _ e => h.ngl k hn e
    fp := h.fp
    fs := h.fs
    fr := h.fr
    ft := h.ft
    fm := h.fm
    fl := h.fl
    fv := fun k _ e => h.fv k hn e
    fg := h.fg
    lt := fun k hk => ⟨(h.lt k hk).1, Nat.lt_of_lt_of_le (h.lt k hk).2 m.size⟩ }

/-- The graph behind the call, its local written. -/
def Don (C : Cf) (base p : Nat) (F : List Nat) (A : Ga) (T' : List Tp) (vs' : List V) (w w' : World) : Prop :=
  ∃ F' A', GrA C w' base p F' A' ∧ Grow F F' w w' ∧ A'.L = some vs' ∧ A'.lv = A.lv ∧ A'.G = A.G ∧ A'.E.map Th.p = T'
theorem Res.two {T' : List Tp} {w W5 u u2 : World} {L0 L1 : List Value} {b0 b1 : Nat} (h : Res C base p F A T' u u2) (B : Blk u b0 L0 ∧ Blk u b1 L1) (_ : Kept W5 u) (_ : Kept w W5) (hF : b0 ∉ F ∧ b1 ∉ F ∧ ∀ k ∈ F, k < w.heap.size) : Blk u2 b0 L0 ∧ Blk u2 b1 L1 := by
  obtain ⟨F', A', _, g, _⟩ := h
  exact ⟨g.blk B.1 hF.1, g.blk B.2 hF.2.1⟩
theorem Res.cells {T' : List Tp} {w u : World} (h : Res C base p F A T' w u) {vs : List V} (hL : A.L = some vs) {g cap : Nat} (hg : A.lv = .slice (some ⟨g, 0, none⟩) vs.length cap) {j : Nat} (hj : j < vs.length) :
    u.cell? ⟨g, j * 2, none⟩ = some (.bool vs[j].r) ∧ u.cell? ⟨g, j * 2 + 1, none⟩ = some (.complex .f64 vs[j].x vs[j].y) ∧ u.frozen? ⟨g, j * 2, none⟩ = false ∧ u.frozen? ⟨g, j * 2 + 1, none⟩ = false := by
  obtain ⟨F', A', G, _, eL, ev, _⟩ := h
  have r := G.lvs vs (eL.trans hL)
  rw [ev, hg] at r
  exact ⟨r.cell V.len hj (j := 0) rfl, r.cell V.len hj (j := 1) rfl, r.fz _, r.fz _⟩
theorem Don.cells {T' : List Tp} {w u : World} {vs : List V} {j : Nat} {v : V} (h : Don C base p F A T' (vs.set j v) w u) {g cap : Nat} (hg : A.lv = .slice (some ⟨g, 0, none⟩) vs.length cap) (hj : j < vs.length) :
    u.cell? ⟨g, j * 2, none⟩ = some (.bool v.r) ∧ u.cell? ⟨g, j * 2 + 1, none⟩ = some (.complex .f64 v.x v.y) := by
  obtain ⟨F', A', G, _, eL, ev, _⟩ := h
  have r := G.lvs _ eL
  rw [ev, hg] at r
  have e : (vs.set j v)[j]'(by simpa using hj) = v := by simp
  exact ⟨r.cell V.len (i := j) (by simpa using hj) (j := 0) (by rw [e]; rfl), r.cell V.len (i := j) (by simpa using hj) (j := 1) (by rw [e]; rfl)⟩
theorem Res.don {T' : List Tp} {w u : World} (h : Res C base p F A T' w u) {vs : List V} (hL : A.L = some vs) {g cap : Nat} (hg : A.lv = .slice (some ⟨g, 0, none⟩) vs.length cap) {j : Nat} (hj : j < vs.length) (v : V) :
    Don C base p F A T' (vs.set j v) w ((u.setCell ⟨g, j * 2, none⟩ (.bool v.r)).setCell ⟨g, j * 2 + 1, none⟩ (.complex .f64 v.x v.y)) := by
  obtain ⟨F', A', G, gr, eL, ev, eG, eE⟩ := h
  have r := G.lvs vs (eL.trans hL)
  have hm : Mut [g] u ((u.setCell ⟨g, j * 2, none⟩ (.bool v.r)).setCell ⟨g, j * 2 + 1, none⟩ (.complex .f64 v.x v.y)) := ((Mut.refl _ _).setCell (by simp) _).setCell (by simp) _
  have hg' : A'.lv = .slice (some ⟨g, 0, none⟩) vs.length cap := ev.trans hg
  rw [hg'] at r
  have r2 := r.set2 hj v
  rw [← hg'] at r2
  have hgF : g ∈ F' := G.fv g (by rw [eL, hL]; simp) (by rw [hg']; rfl)
  exact ⟨F', _, G.setLocal (eL.trans hL) hg' r2 hm, gr.trans ⟨hm.wide fun k hk => by
    have e : k = g := by simpa using hk
    rw [e]; exact hgF, fun _ h => .inl h⟩, rfl, ev, eG, eE⟩
theorem Don.upd {T' : List Tp} {vs' : List V} {w W5 u u2 : World} (h : Don C base p F A T' vs' W5 u) (K : Kept w W5) {b : Nat} (h0 : w.heap.size ≤ b) {b0 b1 : Nat} (hF : b0 ∉ F ∧ b1 ∉ F ∧ ∀ k ∈ F, k < w.heap.size) (h5 : b < W5.heap.size) (m : Mut [b] u u2) : Upd C base p F ⟨T', some vs', A.G⟩ w u2 := by
  obtain ⟨F', A', G, gr, eL, ev, eG, eE⟩ := h
  refine ⟨F', A', G.muts m (fun k hk q => ?_), ?_, Grow.write K gr h0 m⟩
  · have e : k = b := by simpa using q
    subst e
    rcases gr.new k hk with e | e
    · have := hF.2.2 k e; omega
    · omega
  · unfold Ga.pg
    rw [eL, eG, eE]

set_option maxHeartbeats 8000000 in
set_option maxRecDepth 10000 in
theorem do_res {w : World} (h : GrA C w base p F A) {vs : List V} (hL : A.L = some vs) (o : OP) (j : Nat) (hjl : j < vs.length) (ha : o.a = (j : Int)) (v : V) (T1 : List Tp)
    (e4 : ((o.k : Int) == 4) = false) (e6 : ((o.k : Int) == 6) = false) (e8 : ((o.k : Int) == 8) = false) (e17 : ((o.k : Int) == 17) = false) (e18 : ((o.k : Int) == 18) = false)
    (hR : ∀ W, Kept w W → Calls Tryz.prog 35 #[.pointer (some ⟨p, 0, none⟩), A.lv, o.val, .bool false] W fun e w' => e = .returned (.int .i64 0) ∧ Kept W w')
    (hV : ∀ W, Kept w W → Calls Tryz.prog 38 #[.pointer (some ⟨p, 0, none⟩), A.lv, o.val] W fun e w' => e = .returned v.val ∧ Res C base p F A T1 W w') :
    Calls Tryz.prog 17 #[.pointer (some ⟨p, 0, none⟩), .int .i64 0, o.val, .bool false] w fun e w' => e = .returned (.tuple #[v.val, .int .i64 0]) ∧ Upd C base p F ⟨T1, some (vs.set j v), A.G⟩ w w' := by
  obtain ⟨lg, lc, hlv, hlg, _, hlF⟩ := h.lhere hL (by omega)
  have HL : Hid (A.L = some vs ∧ A.lv = .slice (some ⟨lg, 0, none⟩) vs.length lc) := ⟨hL, hlv⟩
  have HNL : Hid (lg ≠ w.heap.size ∧ lg ≠ w.heap.size + 1) := ⟨by omega, by omega⟩
  have HF : Hid (w.heap.size ∉ F ∧ w.heap.size + 1 ∉ F ∧ ∀ k ∈ F, k < w.heap.size) := ⟨fun q => by have := (h.lt _ q).2; omega, fun q => by have := (h.lt _ q).2; omega, fun k q => (h.lt k q).2⟩
  have HT : Hid (∀ W, Kept w W → _) := fun W q => there_yes (h.kept q) hL
  have HG : Hid (GrA C w base p F A) := h
  have hloc := h.loc
  rw [hL] at hloc
  have HLK : Hid (∀ W, Kept w W → (Instr.lookup 57 (.map (some A.lb)) (.int .i64 0) false).run Tryz.prog W = .ok A.lv W) := fun W q => (Mp.hit (hloc.kept q) in0 Tryz.underlying57 (zeroSl W)).2
  have HR : Hid (∀ W, Kept w W → Calls Tryz.prog 35 #[.pointer (some ⟨p, 0, none⟩), A.lv, o.val, .bool false] W fun e w' => e = .returned (.int .i64 0) ∧ Kept W w') := hR
  have HV : Hid (∀ W, Kept w W → Calls Tryz.prog 38 #[.pointer (some ⟨p, 0, none⟩), A.lv, o.val] W fun e w' => e = .returned v.val ∧ Res C base p F A T1 W w') := hV
  rw [hlv] at HR HV HLK
  clear h hL hR hV hloc hlv hlg hlF
  obtain ⟨k, a, b, c, n, x, y⟩ := o
  unfold OP.val V.val at *
  dsimp only at *
  subst ha
  go_enter Tryz.func17, Tryz.ntmps17
  go_wp2_with fail
  generalize hW1 : w.alloc _ = W1
  have B1 : Hid (Blk W1 w.heap.size [.int .i64 (k : Int), .int .i64 (j : Int), .int .i64 b, .int .i64 c, .int .i64 n, .complex .f64 x y]) := by rw [← hW1]; exact Blk.new w _ _
  have K1 : Hid (Kept w W1) := by rw [← hW1]; exact (Kept.refl w).alloc _ _
  have s1 : W1.heap.size = w.heap.size + 1 := by rw [← hW1]; simp
  clear hW1
  generalize hW2 : W1.alloc _ = W2
  have B2 : Hid (Blk W2 w.heap.size [.int .i64 (k : Int), .int .i64 (j : Int), .int .i64 b, .int .i64 c, .int .i64 n, .complex .f64 x y] ∧ Blk W2 (w.heap.size + 1) [.bool false, .complex .f64 0 0]) := by
    rw [← hW2]
    refine ⟨B1.out.kept ((Kept.refl W1).alloc _ _), ?_⟩
    rw [← s1]; exact Blk.new W1 _ _
  have K2 : Hid (Kept w W2) := by rw [← hW2]; exact K1.out.alloc _ _
  have hs2 : W2.heap.size = w.heap.size + 1 + 1 := by rw [← hW2]; simp [s1]
  have HS2 : Hid (W2.heap.size = w.heap.size + 1 + 1) := hs2
  clear hs2 hW2 B1 K1 s1
  refine (HT.out _ K2.out).mono ?_
  rintro e w3 ⟨rfl, K⟩
  have B3 : Hid (Blk w3 w.heap.size [.int .i64 (k : Int), .int .i64 (j : Int), .int .i64 b, .int .i64 c, .int .i64 n, .complex .f64 x y] ∧ Blk w3 (w.heap.size + 1) [.bool false, .complex .f64 0 0]) := ⟨B2.out.1.kept K, B2.out.2.kept K⟩
  have K3 : Hid (Kept w w3) := K2.out.trans K
  have HS3 : Hid (w.heap.size + 1 + 1 ≤ w3.heap.size) := Nat.le_trans (Nat.le_of_eq HS2.out.symm) K.size
  clear K B2 K2 HS2
  have c10 := (HG.out.kept K3.out).at 10 (v := .map (some A.lb)) rfl
  have hlk := HLK.out w3 K3.out
  have d0 := B3.out.1.at 0 rfl
  have d1 := B3.out.1.at 1 rfl
  have d2 := B3.out.1.at 2 rfl
  have d3 := B3.out.1.at 3 rfl
  have d4 := B3.out.1.at 4 rfl
  have d5 := B3.out.1.at 5 rfl
  go_wp2_with fail
  refine (HR.out _ K3.out).mono ?_
  rintro e W5 ⟨rfl, K⟩
  have B5 : Hid (Blk W5 w.heap.size [.int .i64 (k : Int), .int .i64 (j : Int), .int .i64 b, .int .i64 c, .int .i64 n, .complex .f64 x y] ∧ Blk W5 (w.heap.size + 1) [.bool false, .complex .f64 0 0]) := ⟨B3.out.1.kept K, B3.out.2.kept K⟩
  have K5 : Hid (Kept w W5) := K3.out.trans K
  have HS5 : Hid (w.heap.size + 1 + 1 ≤ W5.heap.size) := Nat.le_trans HS3.out K.size
  clear K B3 K3 HS3 c10 hlk d0 d1 d2 d3 d4 d5
  have d0 := B5.out.1.at 0 rfl
  go_wp2_with fail
  clear d0
  refine wp_region_phaseC [(.slice (some ⟨lg, 0, none⟩) vs.length lc), (.pointer (some ⟨w.heap.size, 1, none⟩)), (.int .i64 (j : Int)), (.pointer (some ⟨p, 0, none⟩)), (.slice (some ⟨lg, 0, none⟩) vs.length lc), (.agg #[.int .i64 (k : Int), .int .i64 (j : Int), .int .i64 b, .int .i64 c, .int .i64 n, .complex .f64 x y]), (.agg #[.bool v.r, .complex .f64 v.x v.y]), (.pointer (some ⟨lg, j * 2, none⟩)), (undef)] [(34, 0), (35, 1), (36, 2), (37, 3), (38, 4), (39, 5), (40, 6), (41, 7)] [_, _, _, _, _, _, _, _, _, _, _, _, _, _, _, _, _, _, _, _, _, _, _, _, _, _, _, _, _, _, _, _, _, _, _, _, _, _, _, _, _, _, _, _, _, _, _, _, _, _, _, _, _, _, _, _, _, _, _, _, _, _, _, _, _, _, _, _, _, _, _, _, _, _, _, _, _, _, _, _, _, _, _, _, _, _, _, _, _] (fun d u => (Blk u w.heap.size [.int .i64 (k : Int), .int .i64 (j : Int), .int .i64 b, .int .i64 c, .int .i64 n, .complex .f64 x y] ∧ Blk u (w.heap.size + 1) [.bool false, .complex .f64 0 0]) ∧ JQ 6 8 [] [] (fun u => Kept W5 u) (fun u => Res C base p F A T1 W5 u) (fun u => Don C base p F A T1 (vs.set j v) W5 u) d u) (by kernel_rfl) (by kernel_rfl) (by kernel_rfl) (by kernel_rfl) rfl ?_ ?_ ?_
  · exact ⟨⟨B5.out.1.kept (Kept.refl _).drew, B5.out.2.kept (Kept.refl _).drew⟩, JQ.start (Kept.refl _).drew⟩
  · intro i1 o1 ho a1 d u hh hj hi hd hc
    match i1, ho, hi, hd with
    | 0, ho, hi, hd =>
      simp only [List.getElem?_cons_zero, Option.some.injEq] at ho
      subst ho
      have g10 : a1.tmps[10]? = some (.slice (some ⟨lg, 0, none⟩) vs.length lc) := hh.old 10 (by kernel_rfl) rfl
      have HN : Hid ((Blk u w.heap.size [.int .i64 (k : Int), .int .i64 (j : Int), .int .i64 b, .int .i64 c, .int .i64 n, .complex .f64 x y] ∧ Blk u (w.heap.size + 1) [.bool false, .complex .f64 0 0]) ∧ JQ 6 8 [] [] (fun u => Kept W5 u) (fun u => Res C base p F A T1 W5 u) (fun u => Don C base p F A T1 (vs.set j v) W5 u) (done d 0) u) := ⟨hj.1, hj.2.plain 0 (by decide) (by decide)⟩
      clear hh hd hc hj hi
      refine wpOp_step rfl (fun K hK => ?_)
      go_simp
      exact hK _ _ ⟨by simp [Act.put], HN.out⟩
    | 1, ho, hi, hd =>
      simp only [List.getElem?_cons_succ, List.getElem?_cons_zero, Option.some.injEq] at ho
      subst ho
      have g6 : a1.tmps[6]? = some (.pointer (some ⟨w.heap.size, 0, none⟩)) := hh.old 6 (by kernel_rfl) rfl
      have HN : Hid ((Blk u w.heap.size [.int .i64 (k : Int), .int .i64 (j : Int), .int .i64 b, .int .i64 c, .int .i64 n, .complex .f64 x y] ∧ Blk u (w.heap.size + 1) [.bool false, .complex .f64 0 0]) ∧ JQ 6 8 [] [] (fun u => Kept W5 u) (fun u => Res C base p F A T1 W5 u) (fun u => Don C base p F A T1 (vs.set j v) W5 u) (done d 1) u) := ⟨hj.1, hj.2.plain 1 (by decide) (by decide)⟩
      clear hh hd hc hj hi
      refine wpOp_step rfl (fun K hK => ?_)
      go_simp
      exact hK _ _ ⟨by simp [Act.put], HN.out⟩
    | 2, ho, hi, hd =>
      simp only [List.getElem?_cons_succ, List.getElem?_cons_zero, Option.some.injEq] at ho
      subst ho
      have g35 : a1.tmps[35]? = some (.pointer (some ⟨w.heap.size, 1, none⟩)) := hh.did 1 _ 35 rfl rfl (hd { on := 1, ground := .data } (by simp) rfl)
      have hA := hj.1
      have d1 := hA.1.at 1 rfl
      have HN : Hid ((Blk u w.heap.size [.int .i64 (k : Int), .int .i64 (j : Int), .int .i64 b, .int .i64 c, .int .i64 n, .complex .f64 x y] ∧ Blk u (w.heap.size + 1) [.bool false, .complex .f64 0 0]) ∧ JQ 6 8 [] [] (fun u => Kept W5 u) (fun u => Res C base p F A T1 W5 u) (fun u => Don C base p F A T1 (vs.set j v) W5 u) (done d 2) u) := ⟨hj.1, hj.2.plain 2 (by decide) (by decide)⟩
      clear hh hd hc hj hi
      refine wpOp_step rfl (fun K hK => ?_)
      go_simp
      exact hK _ _ ⟨by simp [Act.put], HN.out⟩
    | 3, ho, hi, hd =>
      simp only [List.getElem?_cons_succ, List.getElem?_cons_zero, Option.some.injEq] at ho
      subst ho
      have g0 : a1.tmps[0]? = some (.pointer (some ⟨p, 0, none⟩)) := hh.old 0 (by kernel_rfl) rfl
      have HN : Hid ((Blk u w.heap.size [.int .i64 (k : Int), .int .i64 (j : Int), .int .i64 b, .int .i64 c, .int .i64 n, .complex .f64 x y] ∧ Blk u (w.heap.size + 1) [.bool false, .complex .f64 0 0]) ∧ JQ 6 8 [] [] (fun u => Kept W5 u) (fun u => Res C base p F A T1 W5 u) (fun u => Don C base p F A T1 (vs.set j v) W5 u) (done d 3) u) := ⟨hj.1, hj.2.plain 3 (by decide) (by decide)⟩
      clear hh hd hc hj hi
      refine wpOp_step rfl (fun K hK => ?_)
      go_simp
      exact hK _ _ ⟨by simp [Act.put], HN.out⟩
    | 4, ho, hi, hd =>
      simp only [List.getElem?_cons_succ, List.getElem?_cons_zero, Option.some.injEq] at ho
      subst ho
      have g10 : a1.tmps[10]? = some (.slice (some ⟨lg, 0, none⟩) vs.length lc) := hh.old 10 (by kernel_rfl) rfl
      have HN : Hid ((Blk u w.heap.size [.int .i64 (k : Int), .int .i64 (j : Int), .int .i64 b, .int .i64 c, .int .i64 n, .complex .f64 x y] ∧ Blk u (w.heap.size + 1) [.bool false, .complex .f64 0 0]) ∧ JQ 6 8 [] [] (fun u => Kept W5 u) (fun u => Res C base p F A T1 W5 u) (fun u => Don C base p F A T1 (vs.set j v) W5 u) (done d 4) u) := ⟨hj.1, hj.2.plain 4 (by decide) (by decide)⟩
      clear hh hd hc hj hi
      refine wpOp_step rfl (fun K hK => ?_)
      go_simp
      exact hK _ _ ⟨by simp [Act.put], HN.out⟩
    | 5, ho, hi, hd =>
      simp only [List.getElem?_cons_succ, List.getElem?_cons_zero, Option.some.injEq] at ho
      subst ho
      have g6 : a1.tmps[6]? = some (.pointer (some ⟨w.heap.size, 0, none⟩)) := hh.old 6 (by kernel_rfl) rfl
      have hA := hj.1
      have nc : d 6 = false := by
        cases q : d 6 with
        | false => rfl
        | true => exact absurd (hc 6 _ rfl q { on := 5, ground := .data } (by simp) rfl) (by simp [hi])
      have h0 := hj.2.now nc
      have d0 := hA.1.at 0 rfl
      have d1 := hA.1.at 1 rfl
      have d2 := hA.1.at 2 rfl
      have d3 := hA.1.at 3 rfl
      have d4 := hA.1.at 4 rfl
      have d5 := hA.1.at 5 rfl
      have HN : Hid ((Blk u w.heap.size [.int .i64 (k : Int), .int .i64 (j : Int), .int .i64 b, .int .i64 c, .int .i64 n, .complex .f64 x y] ∧ Blk u (w.heap.size + 1) [.bool false, .complex .f64 0 0]) ∧ JQ 6 8 [] [] (fun u => Kept W5 u) (fun u => Res C base p F A T1 W5 u) (fun u => Don C base p F A T1 (vs.set j v) W5 u) (done d 5) u) := ⟨hj.1, hj.2.plain 5 (by decide) (by decide)⟩
      clear hh hd hc hj hi
      refine wpOp_step rfl (fun K hK => ?_)
      go_simp
      exact hK _ _ ⟨by simp [Act.put], HN.out⟩
    | 6, ho, hi, hd =>
      simp only [List.getElem?_cons_succ, List.getElem?_cons_zero, Option.some.injEq] at ho
      subst ho
      have g37 : a1.tmps[37]? = some (.pointer (some ⟨p, 0, none⟩)) := hh.did 3 _ 37 rfl rfl (hd { on := 3, ground := .data } (by simp) rfl)
      have g38 : a1.tmps[38]? = some (.slice (some ⟨lg, 0, none⟩) vs.length lc) := hh.did 4 _ 38 rfl rfl (hd { on := 4, ground := .data } (by simp) rfl)
      have g39 : a1.tmps[39]? = some (.agg #[.int .i64 (k : Int), .int .i64 (j : Int), .int .i64 b, .int .i64 c, .int .i64 n, .complex .f64 x y]) := hh.did 5 _ 39 rfl rfl (hd { on := 5, ground := .data } (by simp) rfl)
      have hA := hj.1
      have h0 := hj.2.now hi
      have HJ : Hid ((Blk u w.heap.size [.int .i64 (k : Int), .int .i64 (j : Int), .int .i64 b, .int .i64 c, .int .i64 n, .complex .f64 x y] ∧ Blk u (w.heap.size + 1) [.bool false, .complex .f64 0 0]) ∧ JQ 6 8 [] [] (fun u => Kept W5 u) (fun u => Res C base p F A T1 W5 u) (fun u => Don C base p F A T1 (vs.set j v) W5 u) d u) := hj
      have HI : Hid (d 6 = false) := hi
      have CA : Hid (Calls _ _ _ _ _) := HV.out u (K5.out.trans h0)
      have HAA : Hid (Blk u w.heap.size [.int .i64 (k : Int), .int .i64 (j : Int), .int .i64 b, .int .i64 c, .int .i64 n, .complex .f64 x y] ∧ Blk u (w.heap.size + 1) [.bool false, .complex .f64 0 0]) := hA
      have HKU : Hid (Kept W5 u) := h0
      clear hA h0
      clear hh hd hc hj hi
      refine wpOp_step rfl (fun K hK => ?_)
      go_simp
      refine CA.out.mono ?_
      rintro e u2 ⟨rfl, hres⟩
      exact hK _ _ ⟨by simp [Act.put], hres.two HAA.out HKU.out K5.out HF.out, HJ.out.2.turn HI.out (by decide) (by simp) (hres.pre HKU.out)⟩
    | 7, ho, hi, hd =>
      simp only [List.getElem?_cons_succ, List.getElem?_cons_zero, Option.some.injEq] at ho
      subst ho
      have g34 : a1.tmps[34]? = some (.slice (some ⟨lg, 0, none⟩) vs.length lc) := hh.did 0 _ 34 rfl rfl (hd { on := 0, ground := .data } (by simp) rfl)
      have g36 : a1.tmps[36]? = some (.int .i64 (j : Int)) := hh.did 2 _ 36 rfl rfl (hd { on := 2, ground := .data } (by simp) rfl)
      have HN : Hid ((Blk u w.heap.size [.int .i64 (k : Int), .int .i64 (j : Int), .int .i64 b, .int .i64 c, .int .i64 n, .complex .f64 x y] ∧ Blk u (w.heap.size + 1) [.bool false, .complex .f64 0 0]) ∧ JQ 6 8 [] [] (fun u => Kept W5 u) (fun u => Res C base p F A T1 W5 u) (fun u => Don C base p F A T1 (vs.set j v) W5 u) (done d 7) u) := ⟨hj.1, hj.2.plain 7 (by decide) (by decide)⟩
      clear hh hd hc hj hi
      refine wpOp_step rfl (fun K hK => ?_)
      go_simp
      exact hK _ _ ⟨by simp [Act.put], HN.out⟩
    | 8, ho, hi, hd =>
      simp only [List.getElem?_cons_succ, List.getElem?_cons_zero, Option.some.injEq] at ho
      subst ho
      have g40 : a1.tmps[40]? = some (.agg #[.bool v.r, .complex .f64 v.x v.y]) := hh.did 6 _ 40 rfl rfl (hd { on := 6, ground := .data } (by simp) rfl)
      have g41 : a1.tmps[41]? = some (.pointer (some ⟨lg, j * 2, none⟩)) := hh.did 7 _ 41 rfl rfl (hd { on := 7, ground := .data } (by simp) rfl)
      have hA := hj.1
      have hcc : d 6 = true := (hd { on := 6, ground := .data } (by simp) rfl)
      have h0 := hj.2.now2 hcc hi
      have HJ : Hid ((Blk u w.heap.size [.int .i64 (k : Int), .int .i64 (j : Int), .int .i64 b, .int .i64 c, .int .i64 n, .complex .f64 x y] ∧ Blk u (w.heap.size + 1) [.bool false, .complex .f64 0 0]) ∧ JQ 6 8 [] [] (fun u => Kept W5 u) (fun u => Res C base p F A T1 W5 u) (fun u => Don C base p F A T1 (vs.set j v) W5 u) d u) := hj
      have HI : Hid (d 8 = false) := hi
      have HCC : Hid (d 6 = true) := hcc
      obtain ⟨f0, f1, f2, f3⟩ := h0.cells HL.out.1 HL.out.2 hjl
      have HAA : Hid (Blk u w.heap.size [.int .i64 (k : Int), .int .i64 (j : Int), .int .i64 b, .int .i64 c, .int .i64 n, .complex .f64 x y] ∧ Blk u (w.heap.size + 1) [.bool false, .complex .f64 0 0]) := hA
      have HP : Hid (Res C base p F A T1 W5 u) := h0
      clear hA h0
      clear hh hd hc hj hi hcc
      refine wpOp_step rfl (fun K hK => ?_)
      go_simp
      exact hK _ _ ⟨by simp [Act.put], ⟨(HAA.out.1.set_other HNL.out.1 _).set_other HNL.out.1 _, (HAA.out.2.set_other HNL.out.2 _).set_other HNL.out.2 _⟩, HJ.out.2.turn2 HCC.out (by simp) (HP.out.don HL.out.1 HL.out.2 hjl v)⟩
    | n + 9, ho, hi, hd => simp at ho
  · intro u d hall hj
    have hA := hj.1
    have h1 := hj.2.fin (hall 8 (by decide))
    clear hall hj
    obtain ⟨B0, B1⟩ := hA
    have HB1 : Hid (Blk u (w.heap.size + 1) [.bool false, .complex .f64 0 0]) := B1
    have d1 := B0.at 1 rfl
    have y0 := B1.at 0 rfl
    have y1 := B1.at 1 rfl
    have yf := B1.fz
    obtain ⟨l0, l1⟩ := h1.cells HL.out.2 hjl
    have HD : Hid (Don C base p F A T1 (vs.set j v) W5 u) := h1
    clear B0 B1 h1
    simp only [List.getD_cons_succ, List.getD_cons_zero]
    go_wp2
    (try simp only [Exit.inBlock, Exit.then])
    exact bodyPost_ret_by (results_blk_tmp (p := 8) (u := 9) rfl _ _ (w.heap.size + 1) v.cs rfl ((HB1.out.set (i := 0) rfl _).set (i := 1) rfl _) Tryz.underlying34 (by kernel_rfl)) rfl
      ⟨rfl, HD.out.upd K5.out (b := w.heap.size + 1) (by omega) HF.out (by have := HS5.out; omega) (((Mut.refl _ _).setCell (by simp) _).setCell (by simp) _)⟩
end
end Go.Proofs.YtbmcbkebcchjmaaGreatDoor
