/-
  Package graph: New.
-/
import Derived.Test.YtbmcbkebcchjmaaGreatDoorRep20
import Derived.Test.YtbmcbkebcchjmaaGreatDoorSoft19
namespace Go.Proofs.YtbmcbkebcchjmaaGreatDoor
open Go.RowKit
attribute [local go_sem] run_store_complex

theorem cs_len2 (vs : List V) : (vs.flatMap V.cs).length = vs.length * 2 := by
  induction vs with
  | nil => rfl
  | cons v l ih => simp [V.cs, ih]; omega
theorem Own.rw {w : World} {g base : Nat} {vs : List V} (h : Own w g 34 (vs.flatMap V.cs)) (hb : base ≤ g) (hn : vs.length ≤ 1000) : Rw 34 2 V.cs w base (.slice (some ⟨g, 0, none⟩) vs.length vs.length) vs :=
  ⟨cs_len2 vs, .inr ⟨g, vs.length, (vs.flatMap V.cs).toArray, rfl, hb, h, Nat.le_refl _, by unfold maxLen; omega, by rw [List.size_toArray, cs_len2], List.take_of_length_le (by rw [cs_len2]; exact Nat.le_refl _)⟩⟩

/-- The configuration's own copy. -/
def Nc (C : Cf) (base : Nat) (v : Value) (u : World) : Prop := ∃ S g, v = C.val (.slice (some ⟨g, 0, none⟩) C.l C.l) ∧ base ≤ g ∧ CM C u (some ⟨g, 0, none⟩) S ∧ Tt u 43 g ∧ ∀ i, i < C.l → ∀ b o, (S i).x = some ⟨b, o, none⟩ → Tt u 4 b ∧ base ≤ b
def Nm (base : Nat) (v : Value) (u : World) : Prop := ∃ b, v = .map (some b) ∧ base ≤ b ∧ Mp u b none
def Nb (v : Value) (u : World) : Prop := ∃ b, v = .slice (some ⟨b, 0, none⟩) 1 1 ∧ Own u b 34 noneV.cs
def Nr (n base : Nat) (v : Value) (u : World) : Prop := ∃ g, v = .slice (some ⟨g, 0, none⟩) n n ∧ base ≤ g ∧ Own u g 34 ((List.replicate n noneV).flatMap V.cs)
def Ng (C : Cf) (n base : Nat) (v : Value) (u : World) : Prop := ∃ S g m r, v = .agg #[.int .i64 C.n0, .int .i64 C.n1, .int .i64 C.n2, .int .i64 C.n3, .int .i64 C.n4, .int .i64 C.n5, .int .i64 C.n6, .int .i64 C.n7, .slice (some ⟨g, 0, none⟩) C.l C.l, .slice none 0 0, .map (some m), .slice (some ⟨r, 0, none⟩) n n] ∧ base ≤ g ∧ CM C u (some ⟨g, 0, none⟩) S ∧ Tt u 43 g ∧ (∀ i, i < C.l → ∀ b o, (S i).x = some ⟨b, o, none⟩ → Tt u 4 b ∧ base ≤ b) ∧ base ≤ m ∧ Mp u m none ∧ base ≤ r ∧ Own u r 34 ((List.replicate n noneV).flatMap V.cs)
def Np (C : Cf) (n base : Nat) (v : Value) (u : World) : Prop := ∃ p F A, v = .pointer (some ⟨p, 0, none⟩) ∧ GrA C u base p F A ∧ A.E = [] ∧ A.L = none ∧ A.G = List.replicate n noneV
def NG (C : Cf) (n base b : Nat) (x : Option Addr) (c : Nat) : Nat → Value → World → Prop
  | 0, v, _ => v = C.val (.slice x C.l c)
  | 1, v, u => Nc C base v u
  | 2, v, u => Nm base v u
  | 3, v, _ => v = noneV.val
  | 4, v, u => Nb v u
  | 5, v, _ => v = .pointer (some ⟨b, 2, none⟩)
  | 6, v, _ => v = .int .i64 C.n2
  | 7, v, u => Nr n base v u
  | 8, v, u => Ng C n base v u
  | 9, v, u => Np C n base v u
  | 10, v, u => Np C n base v u
  | 11, v, _ => v = .int .i64 0
  | _, _, _ => True
theorem Tt.kept2 {w w' : World} {t : TypeId} {b : Nat} (h : Tt w t b) (k : Kept w w') : Tt w' t b := h.muts (D := []) k.mut (by simp)
theorem Nc.kept {C : Cf} {base : Nat} {v : Value} {u u' : World} (h : Nc C base v u) (k : Kept u u') : Nc C base v u' := by
  obtain ⟨S, g, e, hb, hc, ht, hr⟩ := h
  exact ⟨S, g, e, hb, hc.kept k, ht.kept2 k, fun i hi b o e => ⟨(hr i hi b o e).1.kept2 k, (hr i hi b o e).2⟩⟩
theorem Nm.kept {base : Nat} {v : Value} {u u' : World} (h : Nm base v u) (k : Kept u u') : Nm base v u' := by
  obtain ⟨b, e, hb, hm⟩ := h
  exact ⟨b, e, hb, hm.kept k⟩
theorem Nb.kept {v : Value} {u u' : World} (h : Nb v u) (k : Kept u u') : Nb v u' := by
  obtain ⟨b, e, hm⟩ := h
  exact ⟨b, e, hm.kept k⟩
theorem Nr.kept {n base : Nat} {v : Value} {u u' : World} (h : Nr n base v u) (k : Kept u u') : Nr n base v u' := by
  obtain ⟨b, e, hb, hm⟩ := h
  exact ⟨b, e, hb, hm.kept k⟩
theorem Ng.kept {C : Cf} {n base : Nat} {v : Value} {u u' : World} (h : Ng C n base v u) (k : Kept u u') : Ng C n base v u' := by
  obtain ⟨S, g, m, r, e, hb, hc, ht, hr, h1, h2, h3, h4⟩ := h
  exact ⟨S, g, m, r, e, hb, hc.kept k, ht.kept2 k, fun i hi b o e => ⟨(hr i hi b o e).1.kept2 k, (hr i hi b o e).2⟩, h1, h2.kept k, h3, h4.kept k⟩
theorem Np.kept {C : Cf} {n base : Nat} {v : Value} {u u' : World} (h : Np C n base v u) (k : Kept u u') : Np C n base v u' := by
  obtain ⟨p, F, A, e, hg, h1, h2, h3⟩ := h
  exact ⟨p, F, A, e, hg.kept k, h1, h2, h3⟩
theorem NG.mono {C : Cf} {n base b : Nat} {x : Option Addr} {c : Nat} : ∀ i v w w', Kept w w' → NG C n base b x c i v w → NG C n base b x c i v w'
  | 0, _, _, _, _, h => h
  | 1, _, _, _, k, h => Nc.kept h k
  | 2, _, _, _, k, h => Nm.kept h k
  | 3, _, _, _, _, h => h
  | 4, _, _, _, k, h => Nb.kept h k
  | 5, _, _, _, _, h => h
  | 6, _, _, _, _, h => h
  | 7, _, _, _, k, h => Nr.kept h k
  | 8, _, _, _, k, h => Ng.kept h k
  | 9, _, _, _, k, h => Np.kept h k
  | 10, _, _, _, k, h => Np.kept h k
  | 11, _, _, _, _, h => h
  | _ + 12, _, _, _, _, _ => trivial

/-- The graph that was boxed. -/
theorem Ng.box {C : Cf} {n base : Nat} {v : Value} {u : World} (h : Ng C n base v u) (hn : n ≤ 1000) (hb : base ≤ u.heap.size) : ∃ cs : Array Value, v = .agg cs ∧ Np C n base (.pointer (some ⟨u.heap.size, 0, none⟩)) (u.alloc (.cells cs 62)) := by
  obtain ⟨S, g, m, r, rfl, hbg, hc, ht, hr, h1, h2, h3, h4⟩ := h
  refine ⟨_, rfl, ?_⟩
  generalize hw : u.alloc _ = w
  have k : Kept u w := by rw [← hw]; exact (Kept.refl u).alloc _ _
  have ho : Own w u.heap.size 62 [.int .i64 C.n0, .int .i64 C.n1, .int .i64 C.n2, .int .i64 C.n3, .int .i64 C.n4, .int .i64 C.n5, .int .i64 C.n6, .int .i64 C.n7, .slice (some ⟨g, 0, none⟩) C.l C.l, .slice none 0 0, .map (some m), .slice (some ⟨r, 0, none⟩) n n] := by rw [← hw]; exact Own.new u [_, _, _, _, _, _, _, _, _, _, _, _] _
  clear hw
  have lg : g < u.heap.size := by
    obtain ⟨c, f, e⟩ := ht
    exact (Array.getElem?_eq_some_iff.1 e).1
  have lb : ∀ i, i < C.l → ∀ b o, (S i).x = some ⟨b, o, none⟩ → b < u.heap.size := fun i hi b o e => by
    obtain ⟨c, f, e⟩ := (hr i hi b o e).1
    exact (Array.getElem?_eq_some_iff.1 e).1
  have hrw : Rw 34 2 V.cs w base (.slice (some ⟨r, 0, none⟩) n n) (List.replicate n noneV) := by
    have := Own.rw (base := base) (vs := List.replicate n noneV) (h4.kept k) h3 (by simpa using hn)
    simpa using this
  have kz := k.size
  have zl := ho.lt
  have l1 := h2.lt
  have l2 := h4.lt
  refine ⟨u.heap.size, (List.range w.heap.size).filter (fun k => decide (base ≤ k)), ⟨g, S, [], .slice none 0 0, m, .slice none 0 0, .slice (some ⟨r, 0, none⟩) n n, none, List.replicate n noneV⟩, rfl, ?_, rfl, rfl, rfl⟩
  exact {
    own := ho
    cm := hc.kept k
    thg := Rw.nil _ _ _ _ _
    ths := fun t ht => by simp at ht
    loc := h2.kept k
    lvs := fun vs e => by simp at e
    glo := hrw
    ct := ht.kept2 k
    cb := fun i hi b o e => (hr i hi b o e).1.kept2 k
    few := by simp
    kds := fun t ht => by simp at ht
    ngl := fun _ h => absurd rfl h
    fp := by simp; omega
    fs := by simp; omega
    fr := fun i hi b o e => by
      have := lb i hi b o e
      have := (hr i hi b o e).2
      simp; omega
    ft := fun k e => by simp [Value.ownBlock] at e
    fm := fun t ht => by simp at ht
    fl := by simp; omega
    fv := fun _ h => absurd rfl h
    fg := fun k e => by
      have e : r = k := by simpa [Value.ownBlock] using e
      simp; omega
    lt := fun k hk => by
      simp at hk
      omega }

set_option maxHeartbeats 4000000 in
set_option maxRecDepth 10000 in
theorem gnew_any {C : Cf} {x : Option Addr} {c n : Nat} {T : Nat → Sh} (O : C.Ok) (w : World) (h : CM C w x T) (hn : C.n2 = (n : Int)) (h2 : n = 0 ∨ n = 2) (base : Nat) (hb : base ≤ w.heap.size) :
    Calls Tryz.prog 7 #[C.val (.slice x C.l c)] w fun e w' => ∃ p F A, e = .returned (.tuple #[.pointer (some ⟨p, 0, none⟩), .int .i64 0]) ∧ (GrA C w' base p F A ∧ A.E = [] ∧ A.L = none ∧ A.G = List.replicate n noneV) ∧ Kept w w' := by
  have l8 := O.l8
  have HC : Hid (∀ W, Kept w W → Calls Tryz.prog 20 #[C.val (.slice x C.l c)] W fun e w' => ∃ v, e = .returned v ∧ Nc C base v w' ∧ Kept W w') := fun W k => by
    have h' := h.kept k
    refine (copy_any C.n0 C.n1 C.n2 C.n3 C.n4 C.n5 C.n6 C.n7 x C.l c T C.R W (by omega) (fun i hi => by have := h'.l40 O hi; omega) h'.shps h'.refs).mono ?_
    rintro e w' ⟨g, S, rfl, hg, hrow, hcop, k2⟩
    have gl : g < w'.heap.size := by
      obtain ⟨cs, q, _⟩ := hrow
      exact lt_of_block q
    refine ⟨_, rfl, ⟨S, g, rfl, Nat.le_trans (Nat.le_trans hb k.size) hg, ⟨fun h0 => ⟨g, 0, rfl, gl, fun i hi => ?_⟩, fun i hi => ?_, fun i hi => (hcop i hi).1.trans (h.arr i hi), fun i hi => (hcop i hi).2.1.trans (h.len i hi)⟩, ?_, fun i hi b o e => ?_⟩, k2⟩
    · have a0 := hrow.cell (i := i * 2) (by omega)
      have a1 := hrow.cell (i := i * 2 + 1) (by omega)
      rw [cf_0] at a0
      rw [cf_1] at a1
      simpa using ⟨a0, a1⟩
    · obtain ⟨_, e1, _, y, e2, _, hr, _⟩ := hcop i hi
      rw [e2, e1]
      exact hr
    · obtain ⟨cs, q, _⟩ := hrow
      exact ⟨_, _, q⟩
    · obtain ⟨_, _, _, y, e2, hy, _, ht⟩ := hcop i hi
      rw [e] at e2
      have e2 : b = y := by simpa using (Addr.mk.inj (Option.some.inj e2)).1
      subst e2
      exact ⟨ht, by have := k.size; omega⟩
  have HR : Hid (∀ v W, Nb v W → Kept w W → Calls Tryz.prog 21 #[v, .int .i64 C.n2] W fun e w' => ∃ v, e = .returned v ∧ Nr n base v w' ∧ Kept W w') := fun v W ⟨b, e, ho⟩ k => by
    have kz := k.size
    subst e
    rw [hn]
    rcases h2 with rfl | rfl
    · refine (repeat_0 _ W).mono ?_
      rintro e w' ⟨g, rfl, hg, q, k2⟩
      exact ⟨_, rfl, ⟨g, rfl, by omega, q⟩, k2⟩
    · refine (repeat_2 W ho (by rfl) (by rfl)).mono ?_
      rintro e w' ⟨g, rfl, hg, q, k2⟩
      exact ⟨_, rfl, ⟨g, rfl, by omega, q⟩, k2⟩
  have HK : Hid (∀ W, Kept w W → Calls Tryz.prog 19 #[C.val (.slice x C.l c)] W fun e w' => e = .returned (.int .i64 0) ∧ Kept W w') := fun W k => check_ok O (h.kept k)
  clear h hn O
  unfold Cf.val at *
  go_enter Tryz.func7, Tryz.ntmps7
  go_wp2_with fail
  generalize hW1 : w.alloc _ = W1
  have B1 : Hid (Blk W1 w.heap.size (C.cs (.slice x C.l c))) := by rw [← hW1]; exact Blk.new w (C.cs (.slice x C.l c)) _
  have K1 : Hid (Kept w W1) := by rw [← hW1]; exact (Kept.refl w).alloc _ _
  clear hW1
  have c0 := B1.out.at 0 rfl
  have c1 := B1.out.at 1 rfl
  have c2 := B1.out.at 2 rfl
  have c3 := B1.out.at 3 rfl
  have c4 := B1.out.at 4 rfl
  have c5 := B1.out.at 5 rfl
  have c6 := B1.out.at 6 rfl
  have c7 := B1.out.at 7 rfl
  have c8 := B1.out.at 8 rfl
  go_wp2_with fail
  refine (HK.out _ K1.out).mono ?_
  rintro e w2 ⟨rfl, K⟩
  have K2 : Hid (Kept w w2) := K1.out.trans K
  have HB : Hid (Blk w2 w.heap.size (C.cs (.slice x C.l c))) := B1.out.kept K
  have HZ : Hid (base ≤ w2.heap.size) := by have := K2.out.size; exact Nat.le_trans hb this
  have HCC : Hid (∀ W, Kept w2 W → Calls Tryz.prog 20 #[C.val (.slice x C.l c)] W fun e w' => ∃ v, e = .returned v ∧ Nc C base v w' ∧ Kept W w') := fun W k => HC.out W (K2.out.trans k)
  have HRR : Hid (∀ v W, Nb v W → Kept w2 W → Calls Tryz.prog 21 #[v, .int .i64 C.n2] W fun e w' => ∃ v, e = .returned v ∧ Nr n base v w' ∧ Kept W w') := fun v W q k => HR.out v W q (K2.out.trans k)
  clear HC HR HK B1 K1 K c0 c1 c2 c3 c4 c5 c6 c7 c8
  have HC := HCC
  have HR := HRR
  clear HCC HRR
  go_wp2_with fail
  refine wp_region_soft (W := w2) (fun uu => { tmps := #[C.val (.slice x C.l c), .pointer (some ⟨w.heap.size, 0, none⟩), uu 10, uu 11, .int .i64 0, C.val (.slice x C.l c), .int .i64 0, .int .i64 0, .bool false, undef, uu 0, uu 1, uu 2, uu 3, uu 4, uu 5, uu 6, uu 7, uu 8, uu 9], defers := [] }) (NG C n base w.heap.size x c) (fun i => if i = 10 then .pointer none else if i = 11 then .int .i64 0 else undef) (by kernel_rfl) (by kernel_rfl) NG.mono (Kept.refl _) ?_ ?_
  · intro i o ho uu w1 hk hd
    match i, ho, hd with
    | 0, ho, hd =>
      simp only [List.getElem?_cons_zero, Option.some.injEq] at ho
      subst ho
      have c0 := (hk.cell (a := ⟨w.heap.size, 0, none⟩) HB.out.lt).trans (HB.out.at 0 rfl)
      have c1 := (hk.cell (a := ⟨w.heap.size, 1, none⟩) HB.out.lt).trans (HB.out.at 1 rfl)
      have c2 := (hk.cell (a := ⟨w.heap.size, 2, none⟩) HB.out.lt).trans (HB.out.at 2 rfl)
      have c3 := (hk.cell (a := ⟨w.heap.size, 3, none⟩) HB.out.lt).trans (HB.out.at 3 rfl)
      have c4 := (hk.cell (a := ⟨w.heap.size, 4, none⟩) HB.out.lt).trans (HB.out.at 4 rfl)
      have c5 := (hk.cell (a := ⟨w.heap.size, 5, none⟩) HB.out.lt).trans (HB.out.at 5 rfl)
      have c6 := (hk.cell (a := ⟨w.heap.size, 6, none⟩) HB.out.lt).trans (HB.out.at 6 rfl)
      have c7 := (hk.cell (a := ⟨w.heap.size, 7, none⟩) HB.out.lt).trans (HB.out.at 7 rfl)
      have c8 := (hk.cell (a := ⟨w.heap.size, 8, none⟩) HB.out.lt).trans (HB.out.at 8 rfl)
      clear hd
      refine wpOp_step rfl (fun K hK => ?_)
      go_simp
      exact hK _ _ ⟨C.val (.slice x C.l c), by simp [upd, Cf.val], Kept.refl _, rfl⟩
    | 1, ho, hd =>
      simp only [List.getElem?_cons_succ, List.getElem?_cons_zero, Option.some.injEq] at ho
      subst ho
      have g0 : NG C n base w.heap.size x c 0 (uu 0) w1 := hd { on := 0, ground := .data } (by simp) rfl
      have g0 : uu 0 = C.val (.slice x C.l c) := g0
      have hc := HC.out w1 hk
      clear hd
      refine wpOp_step rfl (fun K hK => ?_)
      go_simp
      refine hc.mono ?_
      rintro e w2 ⟨v, rfl, hv, k2⟩
      exact hK _ _ ⟨v, by simp [upd, g0], k2, hv⟩
    | 2, ho, hd =>
      simp only [List.getElem?_cons_succ, List.getElem?_cons_zero, Option.some.injEq] at ho
      subst ho
      have hmm := @run_makeMap Tryz.prog
      clear hd
      refine wpOp_step rfl (fun K hK => ?_)
      go_simp
      exact hK _ _ ⟨.map (some w1.heap.size), by simp [upd], ⟨(Below.refl _ _).alloc (Nat.le_refl _) _⟩, ⟨w1.heap.size, rfl, Nat.le_trans HZ.out hk.size, Mp.new w1⟩⟩
    | 3, ho, hd =>
      simp only [List.getElem?_cons_succ, List.getElem?_cons_zero, Option.some.injEq] at ho
      subst ho
      clear hd
      refine wpOp_step rfl (fun K hK => ?_)
      go_simp
      refine (gnone_any w1).mono ?_
      rintro e w2 ⟨rfl, k2⟩
      exact hK _ _ ⟨noneV.val, by simp [upd], k2, rfl⟩
    | 4, ho, hd =>
      simp only [List.getElem?_cons_succ, List.getElem?_cons_zero, Option.some.injEq] at ho
      subst ho
      have g3 : NG C n base w.heap.size x c 3 (uu 3) w1 := hd { on := 3, ground := .data } (by simp) rfl
      have g3 : uu 3 = noneV.val := g3
      clear hd
      refine wpOp_step rfl (fun K hK => ?_)
      simp only [g3, V.val]
      go_simp
      exact hK _ _ ⟨.slice (some ⟨w1.heap.size, 0, none⟩) 1 1, by simp [upd, g3, V.val], (Kept.refl _).alloc _ _, ⟨w1.heap.size, rfl, Own.new w1 [_, _] _⟩⟩
    | 5, ho, hd =>
      simp only [List.getElem?_cons_succ, List.getElem?_cons_zero, Option.some.injEq] at ho
      subst ho
      clear hd
      refine wpOp_step rfl (fun K hK => ?_)
      go_simp
      exact hK _ _ ⟨.pointer (some ⟨w.heap.size, 2, none⟩), by simp [upd], Kept.refl _, rfl⟩
    | 6, ho, hd =>
      simp only [List.getElem?_cons_succ, List.getElem?_cons_zero, Option.some.injEq] at ho
      subst ho
      have g5 : NG C n base w.heap.size x c 5 (uu 5) w1 := hd { on := 5, ground := .data } (by simp) rfl
      have g5 : uu 5 = .pointer (some ⟨w.heap.size, 2, none⟩) := g5
      have c2 := (hk.cell (a := ⟨w.heap.size, 2, none⟩) HB.out.lt).trans (HB.out.at 2 rfl)
      clear hd
      refine wpOp_step rfl (fun K hK => ?_)
      go_simp
      exact hK _ _ ⟨.int .i64 C.n2, by simp [upd, g5], Kept.refl _, rfl⟩
    | 7, ho, hd =>
      simp only [List.getElem?_cons_succ, List.getElem?_cons_zero, Option.some.injEq] at ho
      subst ho
      have g4 : NG C n base w.heap.size x c 4 (uu 4) w1 := hd { on := 4, ground := .data } (by simp) rfl
      have g6 : NG C n base w.heap.size x c 6 (uu 6) w1 := hd { on := 6, ground := .data } (by simp) rfl
      have g4 : Nb (uu 4) w1 := g4
      have g6 : uu 6 = .int .i64 C.n2 := g6
      have hr := HR.out (uu 4) w1 g4 hk
      clear hd
      refine wpOp_step rfl (fun K hK => ?_)
      go_simp
      refine hr.mono ?_
      rintro e w2 ⟨v, rfl, hv, k2⟩
      exact hK _ _ ⟨v, by simp [upd, g6], k2, hv⟩
    | 8, ho, hd =>
      simp only [List.getElem?_cons_succ, List.getElem?_cons_zero, Option.some.injEq] at ho
      subst ho
      have g1 : NG C n base w.heap.size x c 1 (uu 1) w1 := hd { on := 1, ground := .data } (by simp) rfl
      have g2 : NG C n base w.heap.size x c 2 (uu 2) w1 := hd { on := 2, ground := .data } (by simp) rfl
      have g7 : NG C n base w.heap.size x c 7 (uu 7) w1 := hd { on := 7, ground := .data } (by simp) rfl
      obtain ⟨T, g, e1, t1, t2, t3, t4⟩ : Nc C base (uu 1) w1 := g1
      obtain ⟨m, e2, t5, t6⟩ : Nm base (uu 2) w1 := g2
      obtain ⟨r, e7, t7, t8⟩ : Nr n base (uu 7) w1 := g7
      unfold Cf.val at e1
      clear hd
      refine wpOp_step rfl (fun K hK => ?_)
      simp only [e1, e2, e7]
      go_simp
      exact hK _ _ ⟨_, by simp [upd, e1, e2, e7], Kept.refl _, ⟨T, g, m, r, rfl, t1, t2, t3, t4, t5, t6, t7, t8⟩⟩
    | 9, ho, hd =>
      simp only [List.getElem?_cons_succ, List.getElem?_cons_zero, Option.some.injEq] at ho
      subst ho
      have g8 : NG C n base w.heap.size x c 8 (uu 8) w1 := hd { on := 8, ground := .data } (by simp) rfl
      obtain ⟨cs, e8, t1⟩ := Ng.box (show Ng C n base (uu 8) w1 from g8) (by omega) (Nat.le_trans HZ.out hk.size)
      clear hd
      refine wpOp_step rfl (fun K hK => ?_)
      simp only [e8]
      go_simp
      exact hK _ _ ⟨.pointer (some ⟨w1.heap.size, 0, none⟩), by simp [upd, e8], (Kept.refl _).alloc _ _, t1⟩
    | 10, ho, hd =>
      simp only [List.getElem?_cons_succ, List.getElem?_cons_zero, Option.some.injEq] at ho
      subst ho
      have g9 : NG C n base w.heap.size x c 9 (uu 9) w1 := hd { on := 9, ground := .data } (by simp) rfl
      clear hd
      refine wpOp_step rfl (fun K hK => ?_)
      go_simp
      exact hK _ _ ⟨uu 9, by simp [upd], Kept.refl _, g9⟩
    | 11, ho, hd =>
      simp only [List.getElem?_cons_succ, List.getElem?_cons_zero, Option.some.injEq] at ho
      subst ho
      clear hd
      refine wpOp_step rfl (fun K hK => ?_)
      go_simp
      exact hK _ _ ⟨.int .i64 0, by simp [upd], Kept.refl _, rfl⟩
    | (n + 12), ho, hd => simp at ho
  · intro uu w1 hk huu
    have r10 : Np C n base (uu 10) w1 := huu 10 (by decide)
    have r11 : uu 11 = .int .i64 0 := huu 11 (by decide)
    clear huu
    have KF : Hid (Kept w w1) := K2.out.trans hk
    clear hk
    obtain ⟨p, F, A, e, q⟩ := r10
    have HQ : Hid (_ ∧ _) := q
    clear q
    simp only [e, r11]
    clear e r11
    go_wp2
    go_ret2
    exact ⟨p, F, A, rfl, HQ.out, KF.out⟩
end Go.Proofs.YtbmcbkebcchjmaaGreatDoor
