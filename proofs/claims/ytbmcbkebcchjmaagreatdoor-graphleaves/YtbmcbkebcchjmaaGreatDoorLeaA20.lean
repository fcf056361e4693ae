/-
  Package graph: Do of Leave; Do of one who is not there.
-/
import Derived.Test.YtbmcbkebcchjmaaGreatDoorSemZ20
namespace Go.Proofs.YtbmcbkebcchjmaaGreatDoor
open Go.RowKit
attribute [local go_sem] run_store_complex
section
variable {C : Cf} {base p : Nat} {F : List Nat} {A : Ga}

set_option maxHeartbeats 1000000 in
theorem operands_18 (lv : Value) (o : OP) (hk : o.k = 18) (w : World) : Calls Tryz.prog 55 #[lv, o.val] w fun e w' => e = .returned (.int .i64 0) ∧ Kept w w' := by
  obtain ⟨k, a, b, c, n, x, y⟩ := o
  unfold OP.val
  dsimp only at *
  subst hk
  go_enter Tryz.func55, Tryz.ntmps55
  go_wp2
  go_ret
  exact ⟨rfl, (Kept.refl w).alloc _ _⟩

set_option maxHeartbeats 4000000 in
theorem refusal_18 {w : World} (h : GrA C w base p F A) (hv : Vs w) (O : C.Ok) (o : OP) (hk : o.k = 18) (hN : ∀ l ∈ lts o.k, Names C o l) (hM : o.k = 1 ∨ o.k = 2 → ∃ kd, Makes C o kd) :
    Calls Tryz.prog 35 #[.pointer (some ⟨p, 0, none⟩), A.lv, o.val, .bool false] w fun e w' => e = .returned (.int .i64 0) ∧ Kept w w' := by
  have HC : Hid (∀ W, Kept w W → Calls Tryz.prog 54 #[C.val (.slice (some ⟨A.sx, 0, none⟩) C.l C.l), o.val] W fun e w' => e = .returned (.int .i64 0) ∧ Kept W w') := fun W q => opcheck_ok C O _ _ A.sh o (by omega) (by omega) hN hM W (hv.keep q) (h.cm.kept q)
  have HO : Hid (∀ W, Kept w W → Calls Tryz.prog 55 #[A.lv, o.val] W fun e w' => e = .returned (.int .i64 0) ∧ Kept W w') := fun W _ => operands_18 A.lv o hk W
  have HG : Hid (GrA C w base p F A) := h
  clear h hv O hN hM
  obtain ⟨k, a, b, c, n, x, y⟩ := o
  unfold OP.val Cf.val at *
  dsimp only at *
  subst hk
  go_enter Tryz.func35, Tryz.ntmps35
  go_wp2_with fail
  generalize hW1 : w.alloc _ = W1
  have B1 : Hid (Blk W1 w.heap.size [.int .i64 ((18 : Nat) : Int), .int .i64 a, .int .i64 b, .int .i64 c, .int .i64 n, .complex .f64 x y]) := by rw [← hW1]; exact Blk.new w _ _
  have K1 : Hid (Kept w W1) := by rw [← hW1]; exact (Kept.refl w).alloc _ _
  clear hW1
  have G1 : Hid (GrA C W1 base p F A) := HG.out.kept K1.out
  have d0 := fun z : KW W1 => z.cell (a := ⟨w.heap.size, 0, none⟩) B1.out.lt (B1.out.at 0 rfl)
  have d1 := fun z : KW W1 => z.cell (a := ⟨w.heap.size, 1, none⟩) B1.out.lt (B1.out.at 1 rfl)
  have d2 := fun z : KW W1 => z.cell (a := ⟨w.heap.size, 2, none⟩) B1.out.lt (B1.out.at 2 rfl)
  have d3 := fun z : KW W1 => z.cell (a := ⟨w.heap.size, 3, none⟩) B1.out.lt (B1.out.at 3 rfl)
  have d4 := fun z : KW W1 => z.cell (a := ⟨w.heap.size, 4, none⟩) B1.out.lt (B1.out.at 4 rfl)
  have d5 := fun z : KW W1 => z.cell (a := ⟨w.heap.size, 5, none⟩) B1.out.lt (B1.out.at 5 rfl)
  have c0 := fun z : KW W1 => z.cell (a := ⟨p, 0, none⟩) G1.out.plt (G1.out.at 0 (v := .int .i64 C.n0) rfl)
  have c1 := fun z : KW W1 => z.cell (a := ⟨p, 1, none⟩) G1.out.plt (G1.out.at 1 (v := .int .i64 C.n1) rfl)
  have c2 := fun z : KW W1 => z.cell (a := ⟨p, 2, none⟩) G1.out.plt (G1.out.at 2 (v := .int .i64 C.n2) rfl)
  have c3 := fun z : KW W1 => z.cell (a := ⟨p, 3, none⟩) G1.out.plt (G1.out.at 3 (v := .int .i64 C.n3) rfl)
  have c4 := fun z : KW W1 => z.cell (a := ⟨p, 4, none⟩) G1.out.plt (G1.out.at 4 (v := .int .i64 C.n4) rfl)
  have c5 := fun z : KW W1 => z.cell (a := ⟨p, 5, none⟩) G1.out.plt (G1.out.at 5 (v := .int .i64 C.n5) rfl)
  have c6 := fun z : KW W1 => z.cell (a := ⟨p, 6, none⟩) G1.out.plt (G1.out.at 6 (v := .int .i64 C.n6) rfl)
  have c7 := fun z : KW W1 => z.cell (a := ⟨p, 7, none⟩) G1.out.plt (G1.out.at 7 (v := .int .i64 C.n7) rfl)
  have c8 := fun z : KW W1 => z.cell (a := ⟨p, 8, none⟩) G1.out.plt (G1.out.at 8 (v := .slice (some ⟨A.sx, 0, none⟩) C.l C.l) rfl)
  refine wp_region_kept (by kernel_rfl) (by kernel_rfl) fun _ => ?_
  repeat (go_big_quiet_step (first | (go_at_call 54; exact kept_of (HC.out _ (K1.out.trans (KW.ok _))))))
  refine wpQuiet_nil ?_
  rintro _ ⟨z, rfl⟩
  have K2 : Hid (Kept w z.it) := K1.out.trans z.ok
  have B2 : Hid (Blk z.it w.heap.size [.int .i64 ((18 : Nat) : Int), .int .i64 a, .int .i64 b, .int .i64 c, .int .i64 n, .complex .f64 x y]) := B1.out.kept z.ok
  clear d0 d1 d2 d3 d4 d5 c0 c1 c2 c3 c4 c5 c6 c7 c8 G1 B1 K1
  generalize z.it = w2 at *
  have d0 := B2.out.at 0 rfl
  have d1 := B2.out.at 1 rfl
  have d2 := B2.out.at 2 rfl
  have d3 := B2.out.at 3 rfl
  have d4 := B2.out.at 4 rfl
  have d5 := B2.out.at 5 rfl
  go_wp2_with fail
  refine (HO.out _ K2.out).mono ?_
  rintro e w3 ⟨rfl, K⟩
  have B3 : Hid (Blk w3 w.heap.size [.int .i64 ((18 : Nat) : Int), .int .i64 a, .int .i64 b, .int .i64 c, .int .i64 n, .complex .f64 x y]) := B2.out.kept K
  have K3 : Hid (Kept w w3) := K2.out.trans K
  clear K d0 d1 d2 d3 d4 d5 B2 K2
  have d0 := B3.out.at 0 rfl
  have d1 := B3.out.at 1 rfl
  have d2 := B3.out.at 2 rfl
  have d3 := B3.out.at 3 rfl
  have d4 := B3.out.at 4 rfl
  have d5 := B3.out.at 5 rfl
  go_wp2
  go_ret
  exact ⟨rfl, K3.out⟩

theorem mp_ne_loc {w : World} {b : Nat} {k : Int} {v : V} {x : Option Addr} {l c : Nat} (h : Mp w b (some (k, v.val))) (h' : Mp w b (some ((0 : Int), .slice x l c))) : False := by
  obtain ⟨u1, p1, r1, _⟩ := World.ownsMap.look_ok h law3 Tryz.underlying72 (zeroV w) (zd := .held _) (zp := []) rfl (key_of in0)
  obtain ⟨u2, p2, r2, _⟩ := World.ownsMap.look_ok h' law3 Tryz.underlying72 (zeroV w) (zd := .held _) (zp := []) rfl (key_of in0)
  rw [r1] at r2
  have e0 : u1 = u2 ∧ Maps.has (mpD (some (k, v.val))) (.int .i64 0) = Maps.has (mpD (some ((0 : Int), .slice x l c))) (.int .i64 0) := by simpa using (Result.ok.inj r2).1
  have e := e0.2
  have hk : k = 0 := by
    have e2 : Maps.has (mpD (some ((0 : Int), Value.slice x l c))) (.int .i64 0) = true := by rfl
    rw [e2] at e
    have e3 : ([((.int .i64 k : Lit), (.held v.val : DataW Value))].any fun q => q.1.sameKey (.int .i64 0)) = true := e
    simpa [Lit.sameKey] using e3
  subst hk
  have q1 := (Mp.hit h in0 Tryz.underlying72 (zeroV w)).2
  have q2 := (Mp.hit h' in0 Tryz.underlying72 (zeroV w)).2
  rw [q1] at q2
  unfold V.val at q2
  simp at q2

/-- There is no thread any more. -/
theorem GrA.left {w w2 : World} (h : GrA C w base p F A) {vs : List V} (hL : A.L = some vs) (hm : Mp w2 A.lb none) (m : Mut [A.lb] w w2) : GrA C w2 base p F { A with L := none } := by
  have hl : Mp w A.lb (some ((0 : Int), A.lv)) := by have := h.loc; rw [hL] at this; exact this
  obtain ⟨lx, ld, hlv⟩ := (h.lvs vs hL).form
  have np : p ∉ [A.lb] := fun e => by
    have e : p = A.lb := by simpa using e
    exact mp_ne_own (e ▸ hl) h.own
  have nrw : ∀ {t : TypeId} {m : Nat} {α : Type} {c : α → List Value} {v : Value} {E : List α}, Rw t m c w base v E → ∀ k, v.ownBlock = some k → k ∉ [A.lb] := fun {t m α c v E} hr k hk e => by
    have e : k = A.lb := by simpa using e
    subst e
    exact mp_ne_rw hl hr hk
  have ntt : ∀ {t : TypeId} {b : Nat}, Tt w t b → b ∉ [A.lb] := fun {t b} hb e => by
    have e : b = A.lb := by simpa using e
    subst e
    obtain ⟨es, cl, e1⟩ := mp_block hl
    obtain ⟨c, f, e2⟩ := hb
    rw [e1] at e2
    simp at e2
  exact {
    own := h.own.muts m np
    cm := h.cm.muts m (fun b o e => by simp at e; rw [← e.1]; exact ntt h.ct) (fun i hi b o e => ntt (h.cb i hi b o e))
    thg := h.thg.muts m (nrw h.thg)
    ths := fun u hu => by
      rcases h.ths u hu with e | ⟨b, k, v, e1, e2, e3, e4⟩
      · exact .inl e
      · refine .inr ⟨b, k, v, e1, e2, e3.muts m (fun q => ?_), e4⟩
        have q : b = A.lb := by simpa using q
        subst q
        rw [hlv] at hl
        exact mp_ne_loc e3 hl
    loc := hm
    lvs := fun vs' e => by simp at e
    glo := h.glo.muts m (nrw h.glo)
    ct := h.ct.muts m (ntt h.ct)
    cb := fun i hi b o e => (h.cb i hi b o e).muts m (ntt (h.cb i hi b o e))
    few := h.few
    kds := h.kds
    ngl := fun _ q => absurd rfl q
    fp := h.fp
    fs := h.fs
    fr := h.fr
    ft := h.ft
    fm := h.fm
    fl := h.fl
    fv := fun _ q => absurd rfl q
    fg := h.fg
    lt := fun b hb => ⟨(h.lt b hb).1, Nat.lt_of_lt_of_le (h.lt b hb).2 m.size⟩ }

set_option maxHeartbeats 4000000 in
set_option maxRecDepth 10000 in
theorem do_leave {w : World} (h : GrA C w base p F A) (hVs : Vs w) (O : C.Ok) {vs : List V} (hL : A.L = some vs) (o : OP) (hk : o.k = 18) :
    Calls Tryz.prog 17 #[.pointer (some ⟨p, 0, none⟩), .int .i64 0, o.val, .bool false] w fun e w' => e = .returned (.tuple #[zerV.val, .int .i64 0]) ∧ Upd C base p F ⟨A.E.map Th.p, none, A.G⟩ w w' := by
  have HF : Hid (w.heap.size ∉ F ∧ w.heap.size + 1 ∉ F ∧ ∀ k ∈ F, k < w.heap.size) := ⟨fun q => by have := (h.lt _ q).2; omega, fun q => by have := (h.lt _ q).2; omega, fun k q => (h.lt k q).2⟩
  have HT : Hid (∀ W, Kept w W → _) := fun W q => there_yes (h.kept q) hL
  have HG : Hid (GrA C w base p F A) := h
  have hloc := h.loc
  rw [hL] at hloc
  have HLO : Hid (Mp w A.lb (some ((0 : Int), A.lv)) ∧ A.L = some vs) := ⟨hloc, hL⟩
  have HLK : Hid (∀ W, Kept w W → (Instr.lookup 57 (.map (some A.lb)) (.int .i64 0) false).run Tryz.prog W = .ok A.lv W) := fun W q => (Mp.hit (hloc.kept q) in0 Tryz.underlying57 (zeroSl W)).2
  have HR : Hid (∀ W, Kept w W → Calls Tryz.prog 35 #[.pointer (some ⟨p, 0, none⟩), A.lv, o.val, .bool false] W fun e w' => e = .returned (.int .i64 0) ∧ Kept W w') := fun W q => refusal_18 (h.kept q) (hVs.keep q) O o hk (by rw [hk]; exact fun l hl => absurd hl (by simp [lts])) (fun e => by omega)
  clear h hVs O hL hloc
  obtain ⟨k, a, b, c, n, x, y⟩ := o
  unfold OP.val at *
  dsimp only at *
  subst hk
  go_enter Tryz.func17, Tryz.ntmps17
  go_wp2_with fail
  generalize hW1 : w.alloc _ = W1
  have B1 : Hid (Blk W1 w.heap.size [.int .i64 ((18 : Nat) : Int), .int .i64 a, .int .i64 b, .int .i64 c, .int .i64 n, .complex .f64 x y]) := by rw [← hW1]; exact Blk.new w _ _
  have K1 : Hid (Kept w W1) := by rw [← hW1]; exact (Kept.refl w).alloc _ _
  have s1 : W1.heap.size = w.heap.size + 1 := by rw [← hW1]; simp
  clear hW1
  generalize hW2 : W1.alloc _ = W2
  have B2 : Hid (Blk W2 w.heap.size [.int .i64 ((18 : Nat) : Int), .int .i64 a, .int .i64 b, .int .i64 c, .int .i64 n, .complex .f64 x y] ∧ Blk W2 (w.heap.size + 1) [.bool false, .complex .f64 0 0]) := by
    rw [← hW2]
    refine ⟨B1.out.kept ((Kept.refl W1).alloc _ _), ?_⟩
    rw [← s1]; exact Blk.new W1 _ _
  have K2 : Hid (Kept w W2) := by rw [← hW2]; exact K1.out.alloc _ _
  have hs2 : W2.heap.size = w.heap.size + 1 + 1 := by rw [← hW2]; simp [s1]
  have HS2 : Hid (W2.heap.size = w.heap.size + 1 + 1) := hs2
  clear hs2 hW2 B1 K1 s1
  refine (HT.out _ K2.out).mono ?_
  rintro e w3 ⟨rfl, K⟩
  have B3 : Hid (Blk w3 w.heap.size [.int .i64 ((18 : Nat) : Int), .int .i64 a, .int .i64 b, .int .i64 c, .int .i64 n, .complex .f64 x y] ∧ Blk w3 (w.heap.size + 1) [.bool false, .complex .f64 0 0]) := ⟨B2.out.1.kept K, B2.out.2.kept K⟩
  have K3 : Hid (Kept w w3) := K2.out.trans K
  have HS3 : Hid (w.heap.size + 1 + 1 ≤ w3.heap.size) := Nat.le_trans (Nat.le_of_eq HS2.out.symm) K.size
  clear K B2 K2 HS2
  have c10 := (HG.out.kept K3.out).at 10 (v := .map (some A.lb)) rfl
  have hlk := HLK.out w3 K3.out
  have d0 := B3.out.1.at 0 rfl
  have d1 := B3.out.1.at 1 rfl
  have d2 := B3.out.1.at 2 rfl
  have d3 := B3.out.1.at 3 rfl
  have d4 := B3.out.1.at 4 rfl
  have d5 := B3.out.1.at 5 rfl
  go_wp2_with fail
  refine (HR.out _ K3.out).mono ?_
  rintro e W5 ⟨rfl, K⟩
  have B5 : Hid (Blk W5 w.heap.size [.int .i64 ((18 : Nat) : Int), .int .i64 a, .int .i64 b, .int .i64 c, .int .i64 n, .complex .f64 x y] ∧ Blk W5 (w.heap.size + 1) [.bool false, .complex .f64 0 0]) := ⟨B3.out.1.kept K, B3.out.2.kept K⟩
  have K5 : Hid (Kept w W5) := K3.out.trans K
  have HS5 : Hid (w.heap.size + 1 + 1 ≤ W5.heap.size) := Nat.le_trans HS3.out K.size
  clear K B3 K3 HS3 c10 hlk d0 d1 d2 d3 d4 d5
  have c10 := (HG.out.kept K5.out).at 10 (v := .map (some A.lb)) rfl
  have d0 := B5.out.1.at 0 rfl
  obtain ⟨W6, hdel, hm6, M6⟩ := (HLO.out.1.kept K5.out).del in0 Tryz.underlying57 0
  have hlb := HF.out.2.2 A.lb HG.out.fl
  have Y6 : Blk W6 (w.heap.size + 1) [.bool false, .complex .f64 0 0] := B5.out.2.muts M6 (by simp; omega)
  have HU : Hid (Upd C base p F ⟨A.E.map Th.p, none, A.G⟩ w ((W6.setCell ⟨w.heap.size + 1, 0, none⟩ (.bool false)).setCell ⟨w.heap.size + 1, 1, none⟩ (.complex .f64 0 0))) := by
    have G6 := (HG.out.kept K5.out).left HLO.out.2 hm6 M6
    have hmy : Mut [w.heap.size + 1] W6 ((W6.setCell ⟨w.heap.size + 1, 0, none⟩ (.bool false)).setCell ⟨w.heap.size + 1, 1, none⟩ (.complex .f64 0 0)) := ((Mut.refl _ _).setCell (by simp) _).setCell (by simp) _
    refine ⟨F, _, G6.muts hmy (fun k hk q => ?_), rfl, Grow.write K5.out (⟨M6.wide (fun k hk => ?_), fun k hk => .inl hk⟩ : Grow F F W5 W6) (by omega) hmy⟩
    · have e : k = w.heap.size + 1 := by simpa using q
      exact HF.out.2.1 (e ▸ hk)
    · have e : k = A.lb := by simpa using hk
      rw [e]; exact HG.out.fl
  have HY : Hid (Blk W6 (w.heap.size + 1) [.bool false, .complex .f64 0 0]) := Y6
  have y0 := Y6.at 0 rfl
  have y1 := Y6.at 1 rfl
  have yf := Y6.fz
  clear hm6 M6 Y6 hlb
  go_wp2_with fail
  (try simp only [Exit.inBlock, Exit.then])
  exact bodyPost_ret_by (results_blk_tmp (p := 8) (u := 9) rfl _ _ (w.heap.size + 1) zerV.cs rfl ((HY.out.set (i := 0) rfl _).set (i := 1) rfl _) Tryz.underlying34 (by kernel_rfl)) rfl
    ⟨rfl, HU.out⟩

set_option maxHeartbeats 4000000 in
set_option maxRecDepth 10000 in
/-- Who is not there is told so. -/
theorem do_gone {w : World} (h : GrA C w base p F A) (hL : A.L = none) (o : OP) :
    Calls Tryz.prog 17 #[.pointer (some ⟨p, 0, none⟩), .int .i64 0, o.val, .bool false] w fun e w' => e = .returned (.tuple #[zerV.val, .int .i64 8]) ∧ Kept w w' := by
  have HT : Hid (∀ W, Kept w W → Calls Tryz.prog 23 #[.pointer (some ⟨p, 0, none⟩), .int .i64 0] W fun e w' => e = .returned (.bool false) ∧ Kept W w') := fun W q => there_no (h.kept q) hL
  clear h hL
  obtain ⟨k, a, b, c, n, x, y⟩ := o
  unfold OP.val
  dsimp only
  go_enter Tryz.func17, Tryz.ntmps17
  go_wp2_with fail
  generalize hW1 : w.alloc _ = W1
  have K1 : Hid (Kept w W1) := by rw [← hW1]; exact (Kept.refl w).alloc _ _
  have s1 : W1.heap.size = w.heap.size + 1 := by rw [← hW1]; simp
  clear hW1
  generalize hW2 : W1.alloc _ = W2
  have Y2 : Hid (Blk W2 (w.heap.size + 1) [.bool false, .complex .f64 0 0]) := by rw [← hW2, ← s1]; exact Blk.new W1 _ _
  have K2 : Hid (Kept w W2) := by rw [← hW2]; exact K1.out.alloc _ _
  clear hW2 K1 s1
  refine (HT.out _ K2.out).mono ?_
  rintro e w3 ⟨rfl, K⟩
  have Y3 : Hid (Blk w3 (w.heap.size + 1) [.bool false, .complex .f64 0 0]) := Y2.out.kept K
  have K3 : Hid (Kept w w3) := K2.out.trans K
  clear K K2 Y2
  have y0 := Y3.out.at 0 rfl
  have y1 := Y3.out.at 1 rfl
  have yf := Y3.out.fz
  go_wp2_with fail
  (try simp only [Exit.inBlock, Exit.then])
  exact bodyPost_ret_by (results_blk_tmp (p := 8) (u := 9) rfl _ _ (w.heap.size + 1) zerV.cs rfl ((Y3.out.set (i := 0) rfl _).set (i := 1) rfl _) Tryz.underlying34 (by kernel_rfl)) rfl
    ⟨rfl, (K3.out.setCell (by simp) _).setCell (by simp) _⟩
end
end Go.Proofs.YtbmcbkebcchjmaaGreatDoor
