/-
  Package graph: Do of Set.
-/
import Derived.Test.YtbmcbkebcchjmaaGreatDoorLeaB20
namespace Go.Proofs.YtbmcbkebcchjmaaGreatDoor
open Go.RowKit
attribute [local go_sem] run_store_complex

set_option maxHeartbeats 1000000 in
theorem ofKind_one {w : World} {b : Nat} {v : V} (hv : v.r = true) (hB : Blk w b v.cs) : Calls Tryz.prog 78 #[.bool true, .slice (some ⟨b, 0, none⟩) 1 1] w fun e w' => e = .returned (.int .i64 0) ∧ Kept w w' := by
  obtain ⟨r, x, y⟩ := v
  have hv : r = true := hv
  subst hv
  have a0 := hB.at 0 (v := .bool true) rfl
  have a1 := hB.at 1 (v := .complex .f64 x y) rfl
  have HB : Hid (b < w.heap.size) := hB.lt
  clear hB
  go_enter Tryz.func78, Tryz.ntmps78
  go_wp2_with fail
  refine wp_loop_rounds 2 ?_
  rw [rounds_succ]
  go_wp2_with fail
  rw [rounds_succ]
  go_wp2_with fail
  go_ret
  exact ⟨rfl, by first | exact Kept.refl _ | exact (Kept.refl _).alloc _ _⟩

set_option maxHeartbeats 1000000 in
theorem operands_8 (o : OP) (hk : o.k = 8) (j : Nat) (hj : o.b = (j : Int)) {g m cap : Nat} (hm : j < m) (v : V) (hv : v.r = true) (w : World) (hg : g < w.heap.size) (c0 : w.cell? ⟨g, j * 2, none⟩ = some (.bool v.r)) (c1 : w.cell? ⟨g, j * 2 + 1, none⟩ = some (.complex .f64 v.x v.y)) :
    Calls Tryz.prog 55 #[.slice (some ⟨g, 0, none⟩) m cap, o.val] w fun e w' => e = .returned (.int .i64 0) ∧ Kept w w' := by
  have HL : Hid (∀ W b, Blk W b v.cs → Calls Tryz.prog 78 #[.bool true, .slice (some ⟨b, 0, none⟩) 1 1] W fun e w' => e = .returned (.int .i64 0) ∧ Kept W w') := fun W b hB => ofKind_one hv hB
  obtain ⟨k, a, b, c, n, x, y⟩ := o
  unfold OP.val
  dsimp only at *
  subst hk hj
  have q0 := fun (B : Array Value) (t : TypeId) => (((Kept.refl w).alloc B t).cell (a := ⟨g, j * 2, none⟩) hg).trans c0
  have q1 := fun (B : Array Value) (t : TypeId) => (((Kept.refl w).alloc B t).cell (a := ⟨g, j * 2 + 1, none⟩) hg).trans c1
  clear c0 c1 hv
  go_enter Tryz.func55, Tryz.ntmps55
  go_wp2_with fail
  generalize hW1 : w.alloc _ = W1
  have K1 : Hid (Kept w W1) := by rw [← hW1]; exact (Kept.refl w).alloc _ _
  have s1 : W1.heap.size = w.heap.size + 1 := by rw [← hW1]; simp
  clear hW1
  rw [← s1]
  have HC : Hid (Calls Tryz.prog 78 #[.bool true, .slice (some ⟨W1.heap.size, 0, none⟩) 1 1] (W1.alloc (.cells v.cs.toArray 34)) fun e w' => e = .returned (.int .i64 0) ∧ Kept (W1.alloc (.cells v.cs.toArray 34)) w') := HL.out _ _ (Blk.new W1 v.cs _)
  refine HC.out.mono ?_
  rintro e w2 ⟨rfl, K⟩
  have K2 : Hid (Kept w w2) := (K1.out.alloc _ _).trans K
  clear K q0 q1 HC
  go_wp2
  go_ret
  exact ⟨rfl, K2.out⟩
section
variable {C : Cf} {base p : Nat} {F : List Nat} {A : Ga}

set_option maxHeartbeats 4000000 in
theorem refusal_8 {w : World} (h : GrA C w base p F A) (hv : Vs w) (O : C.Ok) (o : OP) (hk : o.k = 8) (hN : ∀ l ∈ lts o.k, Names C o l) (hM : o.k = 1 ∨ o.k = 2 → ∃ kd, Makes C o kd) {vs : List V} (hL : A.L = some vs) (j : Nat) (hj : j < vs.length) (hb : o.b = (j : Int)) (v : V) (hvj : vs[j] = v) (hvr : v.r = true) :
    Calls Tryz.prog 35 #[.pointer (some ⟨p, 0, none⟩), A.lv, o.val, .bool false] w fun e w' => e = .returned (.int .i64 0) ∧ Kept w w' := by
  have HC : Hid (∀ W, Kept w W → Calls Tryz.prog 54 #[C.val (.slice (some ⟨A.sx, 0, none⟩) C.l C.l), o.val] W fun e w' => e = .returned (.int .i64 0) ∧ Kept W w') := fun W q => opcheck_ok C O _ _ A.sh o (by omega) (by omega) hN hM W (hv.keep q) (h.cm.kept q)
  obtain ⟨lg, lc, hlv, hlg, _, _⟩ := h.lhere hL (by omega)
  have HO : Hid (∀ W, Kept w W → Calls Tryz.prog 55 #[A.lv, o.val] W fun e w' => e = .returned (.int .i64 0) ∧ Kept W w') := fun W q => by
    have l0 := (h.kept q).local hL hlv (a := j) (j := 0) hj (u := .bool v.r) (by rw [hvj]; rfl)
    have l1 := (h.kept q).local hL hlv (a := j) (j := 1) hj (u := .complex .f64 v.x v.y) (by rw [hvj]; rfl)
    rw [hlv]
    exact operands_8 o hk j hb hj v hvr W (Nat.lt_of_lt_of_le hlg q.size) l0 l1
  rw [hlv] at HO ⊢
  clear hlg hvj hlv hL hvr
  generalize vs.length = vl at *
  have HG : Hid (GrA C w base p F A) := h
  clear h hv O hN hM
  obtain ⟨k, a, b, c, n, x, y⟩ := o
  unfold OP.val Cf.val at *
  dsimp only at *
  subst hk hb
  go_enter Tryz.func35, Tryz.ntmps35
  go_wp2_with fail
  generalize hW1 : w.alloc _ = W1
  have B1 : Hid (Blk W1 w.heap.size [.int .i64 ((8 : Nat) : Int), .int .i64 a, .int .i64 j, .int .i64 c, .int .i64 n, .complex .f64 x y]) := by rw [← hW1]; exact Blk.new w _ _
  have K1 : Hid (Kept w W1) := by rw [← hW1]; exact (Kept.refl w).alloc _ _
  clear hW1
  have G1 : Hid (GrA C W1 base p F A) := HG.out.kept K1.out
  have d0 := fun z : KW W1 => z.cell (a := ⟨w.heap.size, 0, none⟩) B1.out.lt (B1.out.at 0 rfl)
  have d1 := fun z : KW W1 => z.cell (a := ⟨w.heap.size, 1, none⟩) B1.out.lt (B1.out.at 1 rfl)
  have d2 := fun z : KW W1 => z.cell (a := ⟨w.heap.size, 2, none⟩) B1.out.lt (B1.out.at 2 rfl)
  have d3 := fun z : KW W1 => z.cell (a := ⟨w.heap.size, 3, none⟩) B1.out.lt (B1.out.at 3 rfl)
  have d4 := fun z : KW W1 => z.cell (a := ⟨w.heap.size, 4, none⟩) B1.out.lt (B1.out.at 4 rfl)
  have d5 := fun z : KW W1 => z.cell (a := ⟨w.heap.size, 5, none⟩) B1.out.lt (B1.out.at 5 rfl)
  have c0 := fun z : KW W1 => z.cell (a := ⟨p, 0, none⟩) G1.out.plt (G1.out.at 0 (v := .int .i64 C.n0) rfl)
  have c1 := fun z : KW W1 => z.cell (a := ⟨p, 1, none⟩) G1.out.plt (G1.out.at 1 (v := .int .i64 C.n1) rfl)
  have c2 := fun z : KW W1 => z.cell (a := ⟨p, 2, none⟩) G1.out.plt (G1.out.at 2 (v := .int .i64 C.n2) rfl)
  have c3 := fun z : KW W1 => z.cell (a := ⟨p, 3, none⟩) G1.out.plt (G1.out.at 3 (v := .int .i64 C.n3) rfl)
  have c4 := fun z : KW W1 => z.cell (a := ⟨p, 4, none⟩) G1.out.plt (G1.out.at 4 (v := .int .i64 C.n4) rfl)
  have c5 := fun z : KW W1 => z.cell (a := ⟨p, 5, none⟩) G1.out.plt (G1.out.at 5 (v := .int .i64 C.n5) rfl)
  have c6 := fun z : KW W1 => z.cell (a := ⟨p, 6, none⟩) G1.out.plt (G1.out.at 6 (v := .int .i64 C.n6) rfl)
  have c7 := fun z : KW W1 => z.cell (a := ⟨p, 7, none⟩) G1.out.plt (G1.out.at 7 (v := .int .i64 C.n7) rfl)
  have c8 := fun z : KW W1 => z.cell (a := ⟨p, 8, none⟩) G1.out.plt (G1.out.at 8 (v := .slice (some ⟨A.sx, 0, none⟩) C.l C.l) rfl)
  refine wp_region_kept (by kernel_rfl) (by kernel_rfl) fun _ => ?_
  repeat (go_big_quiet_step (first | (go_at_call 54; exact kept_of (HC.out _ (K1.out.trans (KW.ok _))))))
  refine wpQuiet_nil ?_
  rintro _ ⟨z, rfl⟩
  have K2 : Hid (Kept w z.it) := K1.out.trans z.ok
  have B2 : Hid (Blk z.it w.heap.size [.int .i64 ((8 : Nat) : Int), .int .i64 a, .int .i64 j, .int .i64 c, .int .i64 n, .complex .f64 x y]) := B1.out.kept z.ok
  clear d0 d1 d2 d3 d4 d5 c0 c1 c2 c3 c4 c5 c6 c7 c8 G1 B1 K1
  generalize z.it = w2 at *
  have d0 := B2.out.at 0 rfl
  have d1 := B2.out.at 1 rfl
  have d2 := B2.out.at 2 rfl
  have d3 := B2.out.at 3 rfl
  have d4 := B2.out.at 4 rfl
  have d5 := B2.out.at 5 rfl
  go_wp2_with fail
  refine (HO.out _ K2.out).mono ?_
  rintro e w3 ⟨rfl, K⟩
  have B3 : Hid (Blk w3 w.heap.size [.int .i64 ((8 : Nat) : Int), .int .i64 a, .int .i64 j, .int .i64 c, .int .i64 n, .complex .f64 x y]) := B2.out.kept K
  have K3 : Hid (Kept w w3) := K2.out.trans K
  clear K d0 d1 d2 d3 d4 d5 B2 K2
  have d0 := B3.out.at 0 rfl
  have d1 := B3.out.at 1 rfl
  have d2 := B3.out.at 2 rfl
  have d3 := B3.out.at 3 rfl
  have d4 := B3.out.at 4 rfl
  have d5 := B3.out.at 5 rfl
  go_wp2
  go_ret
  exact ⟨rfl, K3.out⟩

/-- The globals are others, where they lay. -/
theorem GrA.setGlobal {w w2 : World} (h : GrA C w base p F A) {vs' : List V} {g n cap : Nat} (hg : A.gv = .slice (some ⟨g, 0, none⟩) n cap) (hr : Rw 34 2 V.cs w2 base A.gv vs') (m : Mut [g] w w2) :
    GrA C w2 base p F { A with G := vs' } := by
  have hgb : A.gv.ownBlock = some g := by rw [hg]; rfl
  have hlv := h.glo
  have np : p ∉ [g] := fun e => h.own.nerw hlv (by decide) (by rw [hgb]; simp at e; rw [e])
  have nmap : ∀ {b : Nat} {kv : Option (Int × Value)}, Mp w b kv → b ∉ [g] := fun {b kv} hb e => mp_ne_rw hb hlv (by rw [hgb]; simp at e; rw [e])
  have ntt : ∀ {t : TypeId} {b : Nat}, Tt w t b → t ≠ 34 → b ∉ [g] := fun {t b} hb h2 e => tt_ne_rw hb hlv (by rw [hgb]; simp at e; rw [e]) h2
  exact {
    own := h.own.muts m np
    cm := h.cm.muts m (fun b o e => by simp at e; rw [← e.1]; exact ntt h.ct (by decide)) (fun i hi b o e => ntt (h.cb i hi b o e) (by decide))
    thg := h.thg.muts m fun k hk q => by
      have e : k = g := by simpa using q
      subst e
      exact rw_ne h.thg hlv (by decide) hk hgb
    ths := fun u hu => by
      rcases h.ths u hu with e | ⟨b, k, v, e1, e2, e3, e4⟩
      · exact .inl e
      · exact .inr ⟨b, k, v, e1, e2, e3.muts m (nmap e3), e4⟩
    loc := h.loc.muts m (nmap h.loc)
    lvs := fun vs e => (h.lvs vs e).muts m fun k hk q => by
      have e' : k = g := by simpa using q
      subst e'
      exact h.ngl k (by rw [e]; simp) hk hgb
    glo := hr
    ct := h.ct.muts m (ntt h.ct (by decide))
    cb := fun i hi b o e => (h.cb i hi b o e).muts m (ntt (h.cb i hi b o e) (by decide))
    few := h.few
    kds := h.kds
    ngl := h.ngl
    fp := h.fp
    fs := h.fs
    fr := h.fr
    ft := h.ft
    fm := h.fm
    fl := h.fl
    fv := h.fv
    fg := h.fg
    lt := fun k hk => ⟨(h.lt k hk).1, Nat.lt_of_lt_of_le (h.lt k hk).2 m.size⟩ }

set_option maxHeartbeats 4000000 in
set_option maxRecDepth 10000 in
theorem do_set {w : World} (h : GrA C w base p F A) (hVs : Vs w) (O : C.Ok) {vs : List V} (hL : A.L = some vs) (o : OP) (hk : o.k = 8) (hN : ∀ l ∈ lts o.k, Names C o l)
    (jb : Nat) (hjb : jb < vs.length) (hb : o.b = (jb : Int)) (v : V) (hv : vs[jb] = v) (hvr : v.r = true) (jn : Nat) (hn : o.n = (jn : Int)) (hjn : jn < A.G.length) :
    Calls Tryz.prog 17 #[.pointer (some ⟨p, 0, none⟩), .int .i64 0, o.val, .bool false] w fun e w' => e = .returned (.tuple #[zerV.val, .int .i64 0]) ∧ Upd C base p F ⟨A.E.map Th.p, A.L, A.G.set jn v⟩ w w' := by
  obtain ⟨lg, lc, hlv, hlg, _, hlF⟩ := h.lhere hL (by omega)
  obtain ⟨gg, gc, hgv, _, hgg, _⟩ := h.glo.here (by omega)
  have hgF := h.fg gg (by rw [hgv]; rfl)
  have HF : Hid (w.heap.size ∉ F ∧ w.heap.size + 1 ∉ F ∧ ∀ k ∈ F, k < w.heap.size) := ⟨fun q => by have := (h.lt _ q).2; omega, fun q => by have := (h.lt _ q).2; omega, fun k q => (h.lt k q).2⟩
  have HT : Hid (∀ W, Kept w W → _) := fun W q => there_yes (h.kept q) hL
  have HG : Hid (GrA C w base p F A) := h
  have HGV : Hid (A.gv = .slice (some ⟨gg, 0, none⟩) A.G.length gc ∧ jn < A.G.length ∧ gg ∈ F) := ⟨hgv, hjn, hgF⟩
  have HNG : Hid ((⟨gg, jn * 2, none⟩ : Addr).block ≠ w.heap.size ∧ (⟨gg, jn * 2, none⟩ : Addr).block ≠ w.heap.size + 1) := ⟨by show gg ≠ _; omega, by show gg ≠ _; omega⟩
  have HGC : Hid (∀ u, Kept w u → u.cell? ⟨gg, jn * 2, none⟩ = some (.bool A.G[jn].r) ∧ u.cell? ⟨gg, jn * 2 + 1, none⟩ = some (.complex .f64 A.G[jn].x A.G[jn].y) ∧ u.frozen? ⟨gg, jn * 2, none⟩ = false ∧ u.frozen? ⟨gg, jn * 2 + 1, none⟩ = false) := fun u k => by
    have r := (h.kept k).glo
    rw [hgv] at r
    exact ⟨r.cell V.len hjn (j := 0) rfl, r.cell V.len hjn (j := 1) rfl, r.fz _, r.fz _⟩
  have hloc := h.loc
  rw [hL] at hloc
  have HLK : Hid (∀ W, Kept w W → (Instr.lookup 57 (.map (some A.lb)) (.int .i64 0) false).run Tryz.prog W = .ok A.lv W) := fun W q => (Mp.hit (hloc.kept q) in0 Tryz.underlying57 (zeroSl W)).2
  have HR : Hid (∀ W, Kept w W → Calls Tryz.prog 35 #[.pointer (some ⟨p, 0, none⟩), A.lv, o.val, .bool false] W fun e w' => e = .returned (.int .i64 0) ∧ Kept W w') := fun W q => refusal_8 (h.kept q) (hVs.keep q) O o hk hN (fun e => by omega) hL jb hjb hb v hv hvr
  have HL : Hid (lg < w.heap.size ∧ w.cell? ⟨lg, jb * 2, none⟩ = some (.bool v.r) ∧ w.cell? ⟨lg, jb * 2 + 1, none⟩ = some (.complex .f64 v.x v.y) ∧ p < w.heap.size ∧ w.cell? ⟨p, 11, none⟩ = some (.slice (some ⟨gg, 0, none⟩) A.G.length gc)) :=
    ⟨hlg, h.local hL hlv (a := jb) (j := 0) hjb (by rw [hv]; rfl), h.local hL hlv (a := jb) (j := 1) hjb (by rw [hv]; rfl), h.plt, by have := h.at 11 (v := A.gv) rfl; rw [hgv] at this; exact this⟩
  rw [hlv] at HR HLK
  clear h hVs O hN hL hloc hlv hlg hlF hv hvr hgv hgg hgF
  obtain ⟨k, a, b, c, n, x, y⟩ := o
  unfold OP.val at *
  dsimp only at *
  subst hk hb hn
  go_enter Tryz.func17, Tryz.ntmps17
  go_wp2_with fail
  generalize hW1 : w.alloc _ = W1
  have B1 : Hid (Blk W1 w.heap.size [.int .i64 ((8 : Nat) : Int), .int .i64 a, .int .i64 (jb : Int), .int .i64 c, .int .i64 (jn : Int), .complex .f64 x y]) := by rw [← hW1]; exact Blk.new w _ _
  have K1 : Hid (Kept w W1) := by rw [← hW1]; exact (Kept.refl w).alloc _ _
  have s1 : W1.heap.size = w.heap.size + 1 := by rw [← hW1]; simp
  clear hW1
  generalize hW2 : W1.alloc _ = W2
  have B2 : Hid (Blk W2 w.heap.size [.int .i64 ((8 : Nat) : Int), .int .i64 a, .int .i64 (jb : Int), .int .i64 c, .int .i64 (jn : Int), .complex .f64 x y] ∧ Blk W2 (w.heap.size + 1) [.bool false, .complex .f64 0 0]) := by
    rw [← hW2]
    refine ⟨B1.out.kept ((Kept.refl W1).alloc _ _), ?_⟩
    rw [← s1]; exact Blk.new W1 _ _
  have K2 : Hid (Kept w W2) := by rw [← hW2]; exact K1.out.alloc _ _
  have hs2 : W2.heap.size = w.heap.size + 1 + 1 := by rw [← hW2]; simp [s1]
  have HS2 : Hid (W2.heap.size = w.heap.size + 1 + 1) := hs2
  clear hs2 hW2 B1 K1 s1
  refine (HT.out _ K2.out).mono ?_
  rintro e w3 ⟨rfl, K⟩
  have B3 : Hid (Blk w3 w.heap.size [.int .i64 ((8 : Nat) : Int), .int .i64 a, .int .i64 (jb : Int), .int .i64 c, .int .i64 (jn : Int), .complex .f64 x y] ∧ Blk w3 (w.heap.size + 1) [.bool false, .complex .f64 0 0]) := ⟨B2.out.1.kept K, B2.out.2.kept K⟩
  have K3 : Hid (Kept w w3) := K2.out.trans K
  have HS3 : Hid (w.heap.size + 1 + 1 ≤ w3.heap.size) := Nat.le_trans (Nat.le_of_eq HS2.out.symm) K.size
  clear K B2 K2 HS2
  have c10 := (HG.out.kept K3.out).at 10 (v := .map (some A.lb)) rfl
  have hlk := HLK.out w3 K3.out
  have d0 := B3.out.1.at 0 rfl
  have d1 := B3.out.1.at 1 rfl
  have d2 := B3.out.1.at 2 rfl
  have d3 := B3.out.1.at 3 rfl
  have d4 := B3.out.1.at 4 rfl
  have d5 := B3.out.1.at 5 rfl
  go_wp2_with fail
  refine (HR.out _ K3.out).mono ?_
  rintro e W5 ⟨rfl, K⟩
  have B5 : Hid (Blk W5 w.heap.size [.int .i64 ((8 : Nat) : Int), .int .i64 a, .int .i64 (jb : Int), .int .i64 c, .int .i64 (jn : Int), .complex .f64 x y] ∧ Blk W5 (w.heap.size + 1) [.bool false, .complex .f64 0 0]) := ⟨B3.out.1.kept K, B3.out.2.kept K⟩
  have K5 : Hid (Kept w W5) := K3.out.trans K
  have HS5 : Hid (w.heap.size + 1 + 1 ≤ W5.heap.size) := Nat.le_trans HS3.out K.size
  clear K B3 K3 HS3 c10 hlk d0 d1 d2 d3 d4 d5
  have d0 := B5.out.1.at 0 rfl
  go_wp2_with fail
  clear d0
  refine wp_region_phaseC [(.pointer (some ⟨p, 0, none⟩)), (.pointer (some ⟨p, 0, none⟩)), (.pointer (some ⟨p, 11, none⟩)), (.slice (some ⟨gg, 0, none⟩) A.G.length gc), (.pointer (some ⟨w.heap.size, 4, none⟩)), (.int .i64 (jn : Int)), (.slice (some ⟨lg, 0, none⟩) vs.length lc), (.pointer (some ⟨w.heap.size, 2, none⟩)), (.int .i64 (jb : Int)), (.pointer (some ⟨lg, jb * 2, none⟩)), (.agg #[.bool v.r, .complex .f64 v.x v.y]), (.pointer (some ⟨gg, jn * 2, none⟩)), (undef)] [(67, 0), (68, 1), (69, 2), (70, 3), (71, 4), (72, 5), (73, 6), (74, 7), (75, 8), (76, 9), (77, 10), (78, 11)] [_, _, _, _, _, _, _, _, _, _, _, _, _, _, _, _, _, _, _, _, _, _, _, _, _, _, _, _, _, _, _, _, _, _, _, _, _, _, _, _, _, _, _, _, _, _, _, _, _, _, _, _, _, _, _, _, _, _, _, _, _, _, _, _, _, _, _, _, _, _, _, _, _, _, _, _, _, _, _, _, _, _, _, _, _, _, _, _, _] (fun d u => (Blk u w.heap.size [.int .i64 ((8 : Nat) : Int), .int .i64 a, .int .i64 (jb : Int), .int .i64 c, .int .i64 (jn : Int), .complex .f64 x y] ∧ Blk u (w.heap.size + 1) [.bool false, .complex .f64 0 0]) ∧ JP 12 [] (fun u => Kept W5 u) (fun u => ∃ u0, Kept W5 u0 ∧ u = (u0.setCell ⟨gg, jn * 2, none⟩ (.bool v.r)).setCell ⟨gg, jn * 2 + 1, none⟩ (.complex .f64 v.x v.y)) d u) (by kernel_rfl) (by kernel_rfl) (by kernel_rfl) (by kernel_rfl) rfl ?_ ?_ ?_
  · exact ⟨⟨B5.out.1.kept (Kept.refl _).drew, B5.out.2.kept (Kept.refl _).drew⟩, JP.start (Kept.refl _).drew⟩
  · intro i1 o1 ho a1 d u hh hj hi hd hc
    match i1, ho, hi, hd with
    | 0, ho, hi, hd =>
      simp only [List.getElem?_cons_zero, Option.some.injEq] at ho
      subst ho
      have g0 : a1.tmps[0]? = some (.pointer (some ⟨p, 0, none⟩)) := hh.old 0 (by kernel_rfl) rfl
      have HN : Hid ((Blk u w.heap.size [.int .i64 ((8 : Nat) : Int), .int .i64 a, .int .i64 (jb : Int), .int .i64 c, .int .i64 (jn : Int), .complex .f64 x y] ∧ Blk u (w.heap.size + 1) [.bool false, .complex .f64 0 0]) ∧ JP 12 [] (fun u => Kept W5 u) (fun u => ∃ u0, Kept W5 u0 ∧ u = (u0.setCell ⟨gg, jn * 2, none⟩ (.bool v.r)).setCell ⟨gg, jn * 2 + 1, none⟩ (.complex .f64 v.x v.y)) (done d 0) u) := ⟨hj.1, hj.2.plain 0 (by decide)⟩
      clear hh hd hc hj hi
      refine wpOp_step rfl (fun K hK => ?_)
      go_simp
      exact hK _ _ ⟨by simp [Act.put], HN.out⟩
    | 1, ho, hi, hd =>
      simp only [List.getElem?_cons_succ, List.getElem?_cons_zero, Option.some.injEq] at ho
      subst ho
      have g67 : a1.tmps[67]? = some (.pointer (some ⟨p, 0, none⟩)) := hh.did 0 _ 67 rfl rfl (hd { on := 0, ground := .data } (by simp) rfl)
      have HN : Hid ((Blk u w.heap.size [.int .i64 ((8 : Nat) : Int), .int .i64 a, .int .i64 (jb : Int), .int .i64 c, .int .i64 (jn : Int), .complex .f64 x y] ∧ Blk u (w.heap.size + 1) [.bool false, .complex .f64 0 0]) ∧ JP 12 [] (fun u => Kept W5 u) (fun u => ∃ u0, Kept W5 u0 ∧ u = (u0.setCell ⟨gg, jn * 2, none⟩ (.bool v.r)).setCell ⟨gg, jn * 2 + 1, none⟩ (.complex .f64 v.x v.y)) (done d 1) u) := ⟨hj.1, hj.2.plain 1 (by decide)⟩
      clear hh hd hc hj hi
      refine wpOp_step rfl (fun K hK => ?_)
      go_simp
      exact hK _ _ ⟨by simp [Act.put], HN.out⟩
    | 2, ho, hi, hd =>
      simp only [List.getElem?_cons_succ, List.getElem?_cons_zero, Option.some.injEq] at ho
      subst ho
      have g68 : a1.tmps[68]? = some (.pointer (some ⟨p, 0, none⟩)) := hh.did 1 _ 68 rfl rfl (hd { on := 1, ground := .data } (by simp) rfl)
      have HN : Hid ((Blk u w.heap.size [.int .i64 ((8 : Nat) : Int), .int .i64 a, .int .i64 (jb : Int), .int .i64 c, .int .i64 (jn : Int), .complex .f64 x y] ∧ Blk u (w.heap.size + 1) [.bool false, .complex .f64 0 0]) ∧ JP 12 [] (fun u => Kept W5 u) (fun u => ∃ u0, Kept W5 u0 ∧ u = (u0.setCell ⟨gg, jn * 2, none⟩ (.bool v.r)).setCell ⟨gg, jn * 2 + 1, none⟩ (.complex .f64 v.x v.y)) (done d 2) u) := ⟨hj.1, hj.2.plain 2 (by decide)⟩
      clear hh hd hc hj hi
      refine wpOp_step rfl (fun K hK => ?_)
      go_simp
      exact hK _ _ ⟨by simp [Act.put], HN.out⟩
    | 3, ho, hi, hd =>
      simp only [List.getElem?_cons_succ, List.getElem?_cons_zero, Option.some.injEq] at ho
      subst ho
      have g69 : a1.tmps[69]? = some (.pointer (some ⟨p, 11, none⟩)) := hh.did 2 _ 69 rfl rfl (hd { on := 2, ground := .data } (by simp) rfl)
      have hA := hj.1
      have nc : d 12 = false := by
        cases q : d 12 with
        | false => rfl
        | true => exact absurd (hc 12 _ rfl q { on := 3, ground := .phase } (by simp) rfl) (by simp [hi])
      have h0 := hj.2.now nc
      have c11 := ((K5.out.trans h0).cell (a := ⟨p, 11, none⟩) HL.out.2.2.2.1).trans HL.out.2.2.2.2
      clear h0
      have HN : Hid ((Blk u w.heap.size [.int .i64 ((8 : Nat) : Int), .int .i64 a, .int .i64 (jb : Int), .int .i64 c, .int .i64 (jn : Int), .complex .f64 x y] ∧ Blk u (w.heap.size + 1) [.bool false, .complex .f64 0 0]) ∧ JP 12 [] (fun u => Kept W5 u) (fun u => ∃ u0, Kept W5 u0 ∧ u = (u0.setCell ⟨gg, jn * 2, none⟩ (.bool v.r)).setCell ⟨gg, jn * 2 + 1, none⟩ (.complex .f64 v.x v.y)) (done d 3) u) := ⟨hj.1, hj.2.plain 3 (by decide)⟩
      clear hh hd hc hj hi
      refine wpOp_step rfl (fun K hK => ?_)
      go_simp
      exact hK _ _ ⟨by simp [Act.put], HN.out⟩
    | 4, ho, hi, hd =>
      simp only [List.getElem?_cons_succ, List.getElem?_cons_zero, Option.some.injEq] at ho
      subst ho
      have g6 : a1.tmps[6]? = some (.pointer (some ⟨w.heap.size, 0, none⟩)) := hh.old 6 (by kernel_rfl) rfl
      have HN : Hid ((Blk u w.heap.size [.int .i64 ((8 : Nat) : Int), .int .i64 a, .int .i64 (jb : Int), .int .i64 c, .int .i64 (jn : Int), .complex .f64 x y] ∧ Blk u (w.heap.size + 1) [.bool false, .complex .f64 0 0]) ∧ JP 12 [] (fun u => Kept W5 u) (fun u => ∃ u0, Kept W5 u0 ∧ u = (u0.setCell ⟨gg, jn * 2, none⟩ (.bool v.r)).setCell ⟨gg, jn * 2 + 1, none⟩ (.complex .f64 v.x v.y)) (done d 4) u) := ⟨hj.1, hj.2.plain 4 (by decide)⟩
      clear hh hd hc hj hi
      refine wpOp_step rfl (fun K hK => ?_)
      go_simp
      exact hK _ _ ⟨by simp [Act.put], HN.out⟩
    | 5, ho, hi, hd =>
      simp only [List.getElem?_cons_succ, List.getElem?_cons_zero, Option.some.injEq] at ho
      subst ho
      have g71 : a1.tmps[71]? = some (.pointer (some ⟨w.heap.size, 4, none⟩)) := hh.did 4 _ 71 rfl rfl (hd { on := 4, ground := .data } (by simp) rfl)
      have hA := hj.1
      have nc : d 12 = false := by
        cases q : d 12 with
        | false => rfl
        | true => exact absurd (hc 12 _ rfl q { on := 5, ground := .phase } (by simp) rfl) (by simp [hi])
      have h0 := hj.2.now nc
      have d4 := hA.1.at 4 rfl
      have HN : Hid ((Blk u w.heap.size [.int .i64 ((8 : Nat) : Int), .int .i64 a, .int .i64 (jb : Int), .int .i64 c, .int .i64 (jn : Int), .complex .f64 x y] ∧ Blk u (w.heap.size + 1) [.bool false, .complex .f64 0 0]) ∧ JP 12 [] (fun u => Kept W5 u) (fun u => ∃ u0, Kept W5 u0 ∧ u = (u0.setCell ⟨gg, jn * 2, none⟩ (.bool v.r)).setCell ⟨gg, jn * 2 + 1, none⟩ (.complex .f64 v.x v.y)) (done d 5) u) := ⟨hj.1, hj.2.plain 5 (by decide)⟩
      clear hh hd hc hj hi
      refine wpOp_step rfl (fun K hK => ?_)
      go_simp
      exact hK _ _ ⟨by simp [Act.put], HN.out⟩
    | 6, ho, hi, hd =>
      simp only [List.getElem?_cons_succ, List.getElem?_cons_zero, Option.some.injEq] at ho
      subst ho
      have g10 : a1.tmps[10]? = some (.slice (some ⟨lg, 0, none⟩) vs.length lc) := hh.old 10 (by kernel_rfl) rfl
      have HN : Hid ((Blk u w.heap.size [.int .i64 ((8 : Nat) : Int), .int .i64 a, .int .i64 (jb : Int), .int .i64 c, .int .i64 (jn : Int), .complex .f64 x y] ∧ Blk u (w.heap.size + 1) [.bool false, .complex .f64 0 0]) ∧ JP 12 [] (fun u => Kept W5 u) (fun u => ∃ u0, Kept W5 u0 ∧ u = (u0.setCell ⟨gg, jn * 2, none⟩ (.bool v.r)).setCell ⟨gg, jn * 2 + 1, none⟩ (.complex .f64 v.x v.y)) (done d 6) u) := ⟨hj.1, hj.2.plain 6 (by decide)⟩
      clear hh hd hc hj hi
      refine wpOp_step rfl (fun K hK => ?_)
      go_simp
      exact hK _ _ ⟨by simp [Act.put], HN.out⟩
    | 7, ho, hi, hd =>
      simp only [List.getElem?_cons_succ, List.getElem?_cons_zero, Option.some.injEq] at ho
      subst ho
      have g6 : a1.tmps[6]? = some (.pointer (some ⟨w.heap.size, 0, none⟩)) := hh.old 6 (by kernel_rfl) rfl
      have HN : Hid ((Blk u w.heap.size [.int .i64 ((8 : Nat) : Int), .int .i64 a, .int .i64 (jb : Int), .int .i64 c, .int .i64 (jn : Int), .complex .f64 x y] ∧ Blk u (w.heap.size + 1) [.bool false, .complex .f64 0 0]) ∧ JP 12 [] (fun u => Kept W5 u) (fun u => ∃ u0, Kept W5 u0 ∧ u = (u0.setCell ⟨gg, jn * 2, none⟩ (.bool v.r)).setCell ⟨gg, jn * 2 + 1, none⟩ (.complex .f64 v.x v.y)) (done d 7) u) := ⟨hj.1, hj.2.plain 7 (by decide)⟩
      clear hh hd hc hj hi
      refine wpOp_step rfl (fun K hK => ?_)
      go_simp
      exact hK _ _ ⟨by simp [Act.put], HN.out⟩
    | 8, ho, hi, hd =>
      simp only [List.getElem?_cons_succ, List.getElem?_cons_zero, Option.some.injEq] at ho
      subst ho
      have g74 : a1.tmps[74]? = some (.pointer (some ⟨w.heap.size, 2, none⟩)) := hh.did 7 _ 74 rfl rfl (hd { on := 7, ground := .data } (by simp) rfl)
      have hA := hj.1
      have nc : d 12 = false := by
        cases q : d 12 with
        | false => rfl
        | true => exact absurd (hc 12 _ rfl q { on := 8, ground := .phase } (by simp) rfl) (by simp [hi])
      have h0 := hj.2.now nc
      have d2 := hA.1.at 2 rfl
      have HN : Hid ((Blk u w.heap.size [.int .i64 ((8 : Nat) : Int), .int .i64 a, .int .i64 (jb : Int), .int .i64 c, .int .i64 (jn : Int), .complex .f64 x y] ∧ Blk u (w.heap.size + 1) [.bool false, .complex .f64 0 0]) ∧ JP 12 [] (fun u => Kept W5 u) (fun u => ∃ u0, Kept W5 u0 ∧ u = (u0.setCell ⟨gg, jn * 2, none⟩ (.bool v.r)).setCell ⟨gg, jn * 2 + 1, none⟩ (.complex .f64 v.x v.y)) (done d 8) u) := ⟨hj.1, hj.2.plain 8 (by decide)⟩
      clear hh hd hc hj hi
      refine wpOp_step rfl (fun K hK => ?_)
      go_simp
      exact hK _ _ ⟨by simp [Act.put], HN.out⟩
    | 9, ho, hi, hd =>
      simp only [List.getElem?_cons_succ, List.getElem?_cons_zero, Option.some.injEq] at ho
      subst ho
      have g73 : a1.tmps[73]? = some (.slice (some ⟨lg, 0, none⟩) vs.length lc) := hh.did 6 _ 73 rfl rfl (hd { on := 6, ground := .data } (by simp) rfl)
      have g75 : a1.tmps[75]? = some (.int .i64 (jb : Int)) := hh.did 8 _ 75 rfl rfl (hd { on := 8, ground := .data } (by simp) rfl)
      have HN : Hid ((Blk u w.heap.size [.int .i64 ((8 : Nat) : Int), .int .i64 a, .int .i64 (jb : Int), .int .i64 c, .int .i64 (jn : Int), .complex .f64 x y] ∧ Blk u (w.heap.size + 1) [.bool false, .complex .f64 0 0]) ∧ JP 12 [] (fun u => Kept W5 u) (fun u => ∃ u0, Kept W5 u0 ∧ u = (u0.setCell ⟨gg, jn * 2, none⟩ (.bool v.r)).setCell ⟨gg, jn * 2 + 1, none⟩ (.complex .f64 v.x v.y)) (done d 9) u) := ⟨hj.1, hj.2.plain 9 (by decide)⟩
      clear hh hd hc hj hi
      refine wpOp_step rfl (fun K hK => ?_)
      go_simp
      exact hK _ _ ⟨by simp [Act.put], HN.out⟩
    | 10, ho, hi, hd =>
      simp only [List.getElem?_cons_succ, List.getElem?_cons_zero, Option.some.injEq] at ho
      subst ho
      have g76 : a1.tmps[76]? = some (.pointer (some ⟨lg, jb * 2, none⟩)) := hh.did 9 _ 76 rfl rfl (hd { on := 9, ground := .data } (by simp) rfl)
      have hA := hj.1
      have nc : d 12 = false := by
        cases q : d 12 with
        | false => rfl
        | true => exact absurd (hc 12 _ rfl q { on := 10, ground := .data } (by simp) rfl) (by simp [hi])
      have h0 := hj.2.now nc
      have v0 := ((K5.out.trans h0).cell (a := ⟨lg, jb * 2, none⟩) HL.out.1).trans HL.out.2.1
      have v1 := ((K5.out.trans h0).cell (a := ⟨lg, jb * 2 + 1, none⟩) HL.out.1).trans HL.out.2.2.1
      clear h0
      have HN : Hid ((Blk u w.heap.size [.int .i64 ((8 : Nat) : Int), .int .i64 a, .int .i64 (jb : Int), .int .i64 c, .int .i64 (jn : Int), .complex .f64 x y] ∧ Blk u (w.heap.size + 1) [.bool false, .complex .f64 0 0]) ∧ JP 12 [] (fun u => Kept W5 u) (fun u => ∃ u0, Kept W5 u0 ∧ u = (u0.setCell ⟨gg, jn * 2, none⟩ (.bool v.r)).setCell ⟨gg, jn * 2 + 1, none⟩ (.complex .f64 v.x v.y)) (done d 10) u) := ⟨hj.1, hj.2.plain 10 (by decide)⟩
      clear hh hd hc hj hi
      refine wpOp_step rfl (fun K hK => ?_)
      go_simp
      exact hK _ _ ⟨by simp [Act.put], HN.out⟩
    | 11, ho, hi, hd =>
      simp only [List.getElem?_cons_succ, List.getElem?_cons_zero, Option.some.injEq] at ho
      subst ho
      have g70 : a1.tmps[70]? = some (.slice (some ⟨gg, 0, none⟩) A.G.length gc) := hh.did 3 _ 70 rfl rfl (hd { on := 3, ground := .data } (by simp) rfl)
      have g72 : a1.tmps[72]? = some (.int .i64 (jn : Int)) := hh.did 5 _ 72 rfl rfl (hd { on := 5, ground := .data } (by simp) rfl)
      have HN : Hid ((Blk u w.heap.size [.int .i64 ((8 : Nat) : Int), .int .i64 a, .int .i64 (jb : Int), .int .i64 c, .int .i64 (jn : Int), .complex .f64 x y] ∧ Blk u (w.heap.size + 1) [.bool false, .complex .f64 0 0]) ∧ JP 12 [] (fun u => Kept W5 u) (fun u => ∃ u0, Kept W5 u0 ∧ u = (u0.setCell ⟨gg, jn * 2, none⟩ (.bool v.r)).setCell ⟨gg, jn * 2 + 1, none⟩ (.complex .f64 v.x v.y)) (done d 11) u) := ⟨hj.1, hj.2.plain 11 (by decide)⟩
      clear hh hd hc hj hi
      refine wpOp_step rfl (fun K hK => ?_)
      go_simp
      exact hK _ _ ⟨by simp [Act.put], HN.out⟩
    | 12, ho, hi, hd =>
      simp only [List.getElem?_cons_succ, List.getElem?_cons_zero, Option.some.injEq] at ho
      subst ho
      have g77 : a1.tmps[77]? = some (.agg #[.bool v.r, .complex .f64 v.x v.y]) := hh.did 10 _ 77 rfl rfl (hd { on := 10, ground := .data } (by simp) rfl)
      have g78 : a1.tmps[78]? = some (.pointer (some ⟨gg, jn * 2, none⟩)) := hh.did 11 _ 78 rfl rfl (hd { on := 11, ground := .data } (by simp) rfl)
      have hA := hj.1
      have h0 := hj.2.now hi
      have HJ : Hid ((Blk u w.heap.size [.int .i64 ((8 : Nat) : Int), .int .i64 a, .int .i64 (jb : Int), .int .i64 c, .int .i64 (jn : Int), .complex .f64 x y] ∧ Blk u (w.heap.size + 1) [.bool false, .complex .f64 0 0]) ∧ JP 12 [] (fun u => Kept W5 u) (fun u => ∃ u0, Kept W5 u0 ∧ u = (u0.setCell ⟨gg, jn * 2, none⟩ (.bool v.r)).setCell ⟨gg, jn * 2 + 1, none⟩ (.complex .f64 v.x v.y)) d u) := hj
      have HI : Hid (d 12 = false) := hi
      have HAA : Hid (Blk u w.heap.size [.int .i64 ((8 : Nat) : Int), .int .i64 a, .int .i64 (jb : Int), .int .i64 c, .int .i64 (jn : Int), .complex .f64 x y] ∧ Blk u (w.heap.size + 1) [.bool false, .complex .f64 0 0]) := hA
      have HKU : Hid (Kept W5 u) := h0
      obtain ⟨f0, f1, f2, f3⟩ := HGC.out u (K5.out.trans h0)
      clear hA h0
      clear hh hd hc hj hi
      refine wpOp_step rfl (fun K hK => ?_)
      go_simp
      exact hK _ _ ⟨by simp [Act.put], ⟨(HAA.out.1.set_other HNG.out.1 _).set_other HNG.out.1 _, (HAA.out.2.set_other HNG.out.2 _).set_other HNG.out.2 _⟩, JP.turn (by simp) ⟨u, HKU.out, rfl⟩⟩
    | n + 13, ho, hi, hd => simp at ho
  · intro u d hall hj
    have hA := hj.1
    have h1 := hj.2.fin (hall 12 (by decide))
    clear hall hj
    obtain ⟨B0, B1⟩ := hA
    have HB1 : Hid (Blk u (w.heap.size + 1) [.bool false, .complex .f64 0 0]) := B1
    have y0 := B1.at 0 rfl
    have y1 := B1.at 1 rfl
    have yf := B1.fz
    have HD : Hid (∃ u0, Kept W5 u0 ∧ u = (u0.setCell ⟨gg, jn * 2, none⟩ (.bool v.r)).setCell ⟨gg, jn * 2 + 1, none⟩ (.complex .f64 v.x v.y)) := h1
    clear B0 B1 h1
    simp only [List.getD_cons_succ, List.getD_cons_zero]
    go_wp2
    (try simp only [Exit.inBlock, Exit.then])
    refine bodyPost_ret_by (results_blk_tmp (p := 8) (u := 9) rfl _ _ (w.heap.size + 1) zerV.cs rfl ((HB1.out.set (i := 0) rfl _).set (i := 1) rfl _) Tryz.underlying34 (by kernel_rfl)) rfl
      ⟨rfl, ?_⟩
    obtain ⟨u0, k0, eu⟩ := HD.out
    have kk := K5.out.trans k0
    have hm : Mut [gg] u0 u := by rw [eu]; exact ((Mut.refl _ _).setCell (by simp) _).setCell (by simp) _
    have G6 := (HG.out.kept kk).setGlobal HGV.out.1 (vs' := A.G.set jn v) (by
      have r := (HG.out.kept kk).glo
      rw [HGV.out.1] at r ⊢
      rw [eu]
      exact r.set2 HGV.out.2.1 v) hm
    have hmy : Mut [w.heap.size + 1] u ((u.setCell ⟨w.heap.size + 1, 0, none⟩ (.bool false)).setCell ⟨w.heap.size + 1, 1, none⟩ (.complex .f64 0 0)) := ((Mut.refl _ _).setCell (by simp) _).setCell (by simp) _
    refine ⟨F, _, G6.muts hmy (fun k hk q => ?_), ?_, Grow.write kk (⟨hm.wide (fun k hk => ?_), fun k hk => .inl hk⟩ : Grow F F u0 u) (by omega) hmy⟩
    · have e : k = w.heap.size + 1 := by simpa using q
      exact HF.out.2.1 (e ▸ hk)
    · rfl
    · have e : k = gg := by simpa using hk
      rw [e]; exact HGV.out.2.2
end

theorem does_set {C : Cf} {S : Pg} {o : OP} (O : C.Ok) {vs : List V} (hL : S.L = some vs) (hk : o.k = 8) (hN : ∀ l ∈ lts 8, Names C o l) {jb : Nat} (hjb : jb < vs.length) (hb : o.b = (jb : Int)) {v : V} (hv : vs[jb] = v) (hvr : v.r = true) {jn : Nat} (hn : o.n = (jn : Int)) (hjn : jn < S.G.length) :
    Does C S o zerV ⟨S.T, S.L, S.G.set jn v⟩ := by
  intro base p F w gs
  obtain ⟨A, h, rfl⟩ := gs.gr
  refine (do_set h gs.vs O (vs := vs) hL o hk (by rw [hk]; exact hN) jb hjb hb v hv hvr jn hn hjn).mono ?_
  rintro e w' ⟨rfl, u⟩
  exact ⟨rfl, gs.up u⟩
end Go.Proofs.YtbmcbkebcchjmaaGreatDoor
