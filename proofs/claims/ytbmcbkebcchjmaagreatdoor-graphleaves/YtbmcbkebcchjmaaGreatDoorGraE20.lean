/-
  Package graph: what is made.
-/
import Derived.Test.YtbmcbkebcchjmaaGreatDoorGraD20
import Derived.Test.YtbmcbkebcchjmaaGreatDoorPhase
namespace Go.Proofs.YtbmcbkebcchjmaaGreatDoor
open Go.RowKit
attribute [local go_sem] run_store_complex

/-- What a call leaves that may write into the graph's blocks. -/
structure Grow (F F' : List Nat) (w w' : World) : Prop where
  muta : Mut F w w'
  new : ∀ k ∈ F', k ∈ F ∨ w.heap.size ≤ k
theorem Grow.refl (F : List Nat) (w : World) : Grow F F w w := ⟨Mut.refl _ _, fun _ h => .inl h⟩
theorem Grow.trans {F F' F'' : List Nat} {w w' w'' : World} (h : Grow F F' w w') (k : Grow F' F'' w' w'') : Grow F F'' w w'' := by
  refine ⟨⟨k.muta.os.trans h.muta.os, k.muta.tape.trans h.muta.tape, k.muta.output.trans h.muta.output, Nat.le_trans h.muta.size k.muta.size, fun i hi hn => ?_⟩, fun i hi => ?_⟩
  · refine (k.muta.block i (Nat.lt_of_lt_of_le hi h.muta.size) fun q => ?_).trans (h.muta.block i hi hn)
    rcases h.new i q with e | e
    · exact hn e
    · omega
  · rcases k.new i hi with e | e
    · exact h.new i e
    · exact .inr (Nat.le_trans h.muta.size e)
theorem Grow.kept {F : List Nat} {w w' : World} (k : Kept w w') : Grow F F w w' := ⟨k.mut, fun _ h => .inl h⟩
/-- What does not belong to the graph is as it was. -/
theorem Grow.blk {F F' : List Nat} {w w' : World} (h : Grow F F' w w') {b : Nat} {L : List Value} (B : Blk w b L) (hb : b ∉ F) : Blk w' b L := B.muts h.muta hb

/-- The graph behind the call, as plain values T', its locals' slice the same. -/
def Res (C : Cf) (base p : Nat) (F : List Nat) (A : Ga) (T' : List Tp) (w w' : World) : Prop :=
  ∃ F' A', GrA C w' base p F' A' ∧ Grow F F' w w' ∧ A'.L = A.L ∧ A'.lv = A.lv ∧ A'.G = A.G ∧ A'.E.map Th.p = T'
theorem Res.kept {C : Cf} {base p : Nat} {F : List Nat} {A : Ga} {w w' : World} (h : GrA C w base p F A) (k : Kept w w') : Res C base p F A (A.E.map Th.p) w w' := ⟨F, A, h.kept k, Grow.kept k, rfl, rfl, rfl, rfl⟩
theorem Res.pre {C : Cf} {base p : Nat} {F : List Nat} {A : Ga} {T' : List Tp} {w w1 w' : World} (k : Kept w w1) (h : Res C base p F A T' w1 w') : Res C base p F A T' w w' := by
  obtain ⟨F', A', h1, h2, h3⟩ := h
  exact ⟨F', A', h1, (Grow.kept k).trans h2, h3⟩
theorem Res.post {C : Cf} {base p : Nat} {F : List Nat} {A : Ga} {T' : List Tp} {w w1 w' : World} (h : Res C base p F A T' w w1) (k : Kept w1 w') : Res C base p F A T' w w' := by
  obtain ⟨F', A', h1, h2, h3⟩ := h
  exact ⟨F', A', h1.kept k, h2.trans (Grow.kept k), h3⟩
/-- A block of the call's own is written. -/
theorem Res.write {C : Cf} {base p : Nat} {F : List Nat} {A : Ga} {T' : List Tp} {w w1 w2 w3 : World} (h : Res C base p F A T' w1 w2) (K : Kept w w1) (hF : ∀ k ∈ F, k < w.heap.size) {b : Nat} (h0 : w.heap.size ≤ b) (h1 : b < w1.heap.size) (m : Mut [b] w2 w3) : Res C base p F A T' w w3 := by
  obtain ⟨F', A', h2, h3, h4⟩ := h
  have hb : ∀ k ∈ F', k ∉ [b] := fun k hk q => by
    have e : k = b := by simpa using q
    subst e
    rcases h3.new k hk with e | e
    · have := hF k e; omega
    · omega
  have g := (Grow.kept K).trans h3
  refine ⟨F', A', h2.muts m hb, ⟨⟨m.os.trans g.muta.os, m.tape.trans g.muta.tape, m.output.trans g.muta.output, Nat.le_trans g.muta.size m.size, fun i hi hn => ?_⟩, g.new⟩, h4⟩
  refine (m.block i (Nat.lt_of_lt_of_le hi g.muta.size) fun q => ?_).trans (g.muta.block i hi hn)
  have e : i = b := by simpa using q
  omega

/-! ### Blocks of other kinds are other blocks -/
section
variable {α β : Type} {t t' : TypeId} {m m' : Nat} {c : α → List Value} {c' : β → List Value} {w : World} {base base' : Nat} {v v' : Value} {E : List α} {E' : List β}
theorem rw_block (h : Rw t m c w base v E) {k : Nat} (hk : v.ownBlock = some k) : ∃ cur, w.heap[k]? = some (.cells cur t (0, 0)) := by
  rcases h.2 with ⟨rfl, _⟩ | ⟨g, cap, cur, rfl, _, hg, _⟩
  · cases hk
  · obtain rfl : g = k := by simpa [Value.ownBlock] using hk
    exact ⟨cur, hg⟩
theorem rw_ne (h : Rw t m c w base v E) (h' : Rw t' m' c' w base' v' E') (ht : t ≠ t') {k : Nat} (hk : v.ownBlock = some k) (hk' : v'.ownBlock = some k) : False := by
  obtain ⟨a, ha⟩ := rw_block h hk
  obtain ⟨b, hb⟩ := rw_block h' hk'
  rw [ha] at hb
  simp only [Option.some.injEq, Obj.cells.injEq] at hb
  exact ht hb.2.1
theorem tt_ne_own {L : List Value} {s : TypeId} {q : Nat} (h : Tt w s q) (o : Own w q t L) (hs : s ≠ t) : False := by
  obtain ⟨c, f, e⟩ := h
  unfold Own at o
  rw [e] at o
  simp only [Option.some.injEq, Obj.cells.injEq] at o
  exact hs o.2.1
theorem tt_ne_rw {s : TypeId} {q : Nat} (h : Tt w s q) (r : Rw t m c w base v E) (hk : v.ownBlock = some q) (hs : s ≠ t) : False := by
  obtain ⟨c, f, e⟩ := h
  obtain ⟨cur, e'⟩ := rw_block r hk
  rw [e] at e'
  simp only [Option.some.injEq, Obj.cells.injEq] at e'
  exact hs e'.2.1
theorem mp_block {b : Nat} {kv : Option (Int × Value)} (h : Mp w b kv) : ∃ es cl, w.heap[b]? = some (.map es cl) := by
  obtain ⟨es, clock, hb, _⟩ := h
  exact ⟨es, clock, hb⟩
theorem mp_ne_own {b : Nat} {kv : Option (Int × Value)} {L : List Value} (h : Mp w b kv) (o : Own w b t L) : False := by
  obtain ⟨es, cl, e⟩ := mp_block h
  unfold Own at o
  rw [e] at o
  simp at o
theorem mp_ne_rw {b : Nat} {kv : Option (Int × Value)} (h : Mp w b kv) (r : Rw t m c w base v E) (hk : v.ownBlock = some b) : False := by
  obtain ⟨es, cl, e⟩ := mp_block h
  obtain ⟨cur, e'⟩ := rw_block r hk
  rw [e] at e'
  simp at e'
end

theorem step_append_eq {P : Program} {ops : Array Oper} {o : Oper} {a : Act} {w : World} {K : Act → World → Prop} {Q : Exit → Act → World → Prop} {X : Prop}
    (hg : o.guard = none) (s x : Operand) (t : TypeId) (hop : o.op = Op.call { callee := Callee.builtin Builtin.append, args := #[s, x], argTypes := #[t, t] })
    {v u v' : Value} {w' : World} (hs : a.eval s = v) (hx : a.eval x = u) (hr : (Builtin.append_ #[t, t] o.type #[v, u]).run P w = .ok v' w') (hK : K (a.put o.dst v') w') :
    if Region.wanted o (yielded ops a.tmps) = true then Oper.wp P o a w K Q else X := by
  have hw : Region.wanted o (yielded ops a.tmps) = true := by simp [Region.wanted, hg]
  rw [if_pos hw]
  unfold Oper.wp
  simp [execOp, hop, resolve, invoke, builtin, hs, hx, hr, Result.andThen]
  exact hK
theorem step_mapUpdate_eq {P : Program} {ops : Array Oper} {o : Oper} {a : Act} {w : World} {K : Act → World → Prop} {Q : Exit → Act → World → Prop} {X : Prop}
    (hg : o.guard = none) (m x v : Operand) (t : TypeId) (hop : o.op = Op.mapUpdate t m x v) {mv kv vv : Value} {w' : World} (hm : a.eval m = mv) (hx : a.eval x = kv) (hv : a.eval v = vv)
    (hr : (Instr.mapUpdate t mv kv vv).run P w = .ok () w') (hK : K (a.put o.dst undef) w') :
    if Region.wanted o (yielded ops a.tmps) = true then Oper.wp P o a w K Q else X := by
  have hw : Region.wanted o (yielded ops a.tmps) = true := by simp [Region.wanted, hg]
  rw [if_pos hw]
  unfold Oper.wp
  simp [execOp, hop, hm, hx, hv, hr, Result.andThen]
  exact hK

/-! ### append -/
theorem info_thing : (Tryz.prog.info? 74).map (fun i => (i.zero, i.size, i.bytes)) = some (some (.agg #[.int .i64 0, .int .i64 0, .map none]), 3, 24) := by kernel_rfl

section
variable {C : Cf} {base p : Nat} {F : List Nat} {A : Ga}
/-- The thing's slice is another one, in a block of its own. -/
theorem GrA.push {w w1 : World} (h : GrA C w base p F A) {t : Th} {v' : Value} (hr : Rw 74 3 Th.cs w1 base v' (A.E ++ [t])) (m : Mut A.tv.ownBlock.toList w w1) (f : Fresh w A.tv v')
    (hk : t.p.kd < C.l) (ht : t.b = none ∧ t.p.st = none) (hE : A.E.length < 1000) :
    Res C base p F A (A.E.map Th.p ++ [t.p]) w (w1.setCell ⟨p, 9, none⟩ v') := by
  have hpt : A.tv.ownBlock ≠ some p := h.own.nerw h.thg (by decide)
  have hne : ∀ {k : Nat}, A.tv.ownBlock ≠ some k → k ∉ A.tv.ownBlock.toList := fun hn q => hn (by simpa using q)
  have hp9 : (A.cs C).set 9 v' = ({ A with tv := v', E := A.E ++ [t] } : Ga).cs C := rfl
  have o1 : Own w1 p 62 (A.cs C) := h.own.muts m (hne hpt)
  have o2 := o1.set 9 v'
  rw [hp9] at o2
  -- what is written: the old row, and p
  have hm : Mut (p :: A.tv.ownBlock.toList) w (w1.setCell ⟨p, 9, none⟩ v') := (m.wide fun k hk => List.mem_cons_of_mem _ hk).setCell (by simp) _
  have ngv : A.gv.ownBlock ≠ some p := h.own.nerw h.glo (by decide)
  have nrow : ∀ {v : Value} {G : List V}, Rw 34 2 V.cs w base v G → ∀ k, v.ownBlock = some k → k ∉ p :: A.tv.ownBlock.toList := fun {v G} hr k hk hmem => by
    rcases List.mem_cons.1 hmem with rfl | hmem
    · exact h.own.nerw hr (by decide) hk
    · have hmem : A.tv.ownBlock = some k := by simpa using hmem
      exact rw_ne h.thg hr (by decide) hmem hk
  have nmap : ∀ {b : Nat} {kv : Option (Int × Value)}, Mp w b kv → b ∉ p :: A.tv.ownBlock.toList := fun {b kv} hb hmem => by
    rcases List.mem_cons.1 hmem with rfl | hmem
    · exact mp_ne_own hb h.own
    · have hmem : A.tv.ownBlock = some b := by simpa using hmem
      exact mp_ne_rw hb h.thg hmem
  have ntt : ∀ {t : TypeId} {b : Nat}, Tt w t b → t ≠ 62 → t ≠ 74 → b ∉ p :: A.tv.ownBlock.toList := fun {t b} hb h1 h2 hmem => by
    rcases List.mem_cons.1 hmem with rfl | hmem
    · exact tt_ne_own hb h.own h1
    · have hmem : A.tv.ownBlock = some b := by simpa using hmem
      exact tt_ne_rw hb h.thg hmem h2
  have r2 : Rw 74 3 Th.cs (w1.setCell ⟨p, 9, none⟩ v') base v' (A.E ++ [t]) := hr.muts ((Mut.refl [p] _).setCell (by simp) _) fun k hk hmem => by
    obtain rfl : k = p := by simpa using hmem
    exact o1.nerw hr (by decide) hk
  have hk9 : ∀ k, v'.ownBlock = some k → base ≤ k ∧ k < (w1.setCell ⟨p, 9, none⟩ v').heap.size := fun k hk => r2.lt k hk
  have hs : w.heap.size ≤ (w1.setCell ⟨p, 9, none⟩ v').heap.size := hm.size
  refine ⟨F ++ v'.ownBlock.toList, { A with tv := v', E := A.E ++ [t] }, ?_, ⟨hm.wide fun k hk => ?_, fun k hk => ?_⟩, rfl, rfl, rfl, by simp⟩
  · exact {
      own := o2
      cm := h.cm.muts hm (fun b o e => by simp at e; rw [← e.1]; exact ntt h.ct (by decide) (by decide)) (fun i hi b o e => ntt (h.cb i hi b o e) (by decide) (by decide))
      thg := r2
      ths := fun u hu => by
        rcases List.mem_append.1 hu with hu | hu
        · rcases h.ths u hu with e | ⟨b, k, v, e1, e2, e3, e4⟩
          · exact .inl e
          · exact .inr ⟨b, k, v, e1, e2, e3.muts hm (nmap e3), e4⟩
        · obtain rfl : u = t := by simpa using hu
          exact .inl ht
      loc := h.loc.muts hm (nmap h.loc)
      lvs := fun vs e => (h.lvs vs e).muts hm (nrow (h.lvs vs e))
      glo := h.glo.muts hm (nrow h.glo)
      ct := h.ct.muts hm (ntt h.ct (by decide) (by decide))
      cb := fun i hi b o e => (h.cb i hi b o e).muts hm (ntt (h.cb i hi b o e) (by decide) (by decide))
      few := by simp; omega
      kds := fun u hu => by
        rcases List.mem_append.1 hu with hu | hu
        · exact h.kds u hu
        · obtain rfl : u = t := by simpa using hu
          exact hk
      ngl := h.ngl
      fp := List.mem_append_left _ h.fp
      fs := List.mem_append_left _ h.fs
      fr := fun i hi b o e => List.mem_append_left _ (h.fr i hi b o e)
      ft := fun k e => List.mem_append_right _ (by simp [e])
      fm := fun u hu b e => by
        rcases List.mem_append.1 hu with hu | hu
        · exact List.mem_append_left _ (h.fm u hu b e)
        · obtain rfl : u = t := by simpa using hu
          rw [ht.1] at e
          cases e
      fl := List.mem_append_left _ h.fl
      fv := fun k e e' => List.mem_append_left _ (h.fv k e e')
      fg := fun k e => List.mem_append_left _ (h.fg k e)
      lt := fun k hk => by
        rcases List.mem_append.1 hk with hk | hk
        · exact ⟨(h.lt k hk).1, Nat.lt_of_lt_of_le (h.lt k hk).2 hs⟩
        · exact hk9 k (by simpa using hk) }
  · rcases List.mem_cons.1 hk with rfl | hk
    · exact h.fp
    · exact h.ft k (by simpa using hk)
  · rcases List.mem_append.1 hk with hk | hk
    · exact .inl hk
    · rcases f k (by simpa using hk) with e | e
      · exact .inl (h.ft k e)
      · exact .inr e
end

/-- In the midst of the statement that appends. -/
def JM (W3 W4 w' U : World) (d : Nat → Bool) (u : World) : Prop := (d 7 = true → d 4 = true ∧ d 6 = true) ∧ (d 6 = true → d 5 = true) ∧ (d 10 = true → d 7 = true) ∧ u = (if d 10 then U else if d 7 then w' else if d 6 then W4 else W3)
theorem JM.plain {W3 W4 w' U u : World} {d : Nat → Bool} (h : JM W3 W4 w' U d u) (k : Nat) (h6 : k ≠ 6) (h7 : k ≠ 7) (h10 : k ≠ 10) : JM W3 W4 w' U (done d k) u := by
  obtain ⟨h1, h5, h2, h3⟩ := h
  refine ⟨fun e => ?_, fun e => ?_, fun e => ?_, ?_⟩
  · have e' : d 7 = true := by simpa [done, Ne.symm h7] using e
    obtain ⟨a, b⟩ := h1 e'
    simp only [done]
    refine ⟨?_, ?_⟩ <;> split <;> simp [a, b]
  · have e' : d 6 = true := by simpa [done, Ne.symm h6] using e
    simp [done, h5 e']
  · have e' : d 10 = true := by simpa [done, Ne.symm h10] using e
    have := h2 e'
    simp [done, this]
  · simpa [done, Ne.symm h6, Ne.symm h7, Ne.symm h10] using h3
theorem JM.early {W3 W4 w' U u : World} {d : Nat → Bool} (h : JM W3 W4 w' U d u) (hk : d 4 = false ∨ d 5 = false) (K : Kept W3 W4) : Kept W3 u := by
  obtain ⟨h1, h5, h2, h3⟩ := h
  have h7 : d 7 = false := by
    cases e : d 7
    · rfl
    · obtain ⟨a, b⟩ := h1 e
      rcases hk with q | q
      · rw [a] at q; cases q
      · rw [h5 b] at q; cases q
  have h10 : d 10 = false := by
    cases e : d 10
    · rfl
    · rw [h2 e] at h7; cases h7
  rw [h7, h10] at h3
  simp only [if_false, Bool.false_eq_true] at h3
  rw [h3]
  split
  · exact K
  · exact Kept.refl _
theorem JM.at6 {W3 W4 w' U u : World} {d : Nat → Bool} (h : JM W3 W4 w' U d u) (h6 : d 6 = false) (h55 : d 5 = true) : u = W3 ∧ JM W3 W4 w' U (done d 6) W4 := by
  obtain ⟨h1, h5, h2, h3⟩ := h
  have h7 : d 7 = false := by
    cases e : d 7
    · rfl
    · rw [(h1 e).2] at h6; cases h6
  have h10 : d 10 = false := by
    cases e : d 10
    · rfl
    · rw [h2 e] at h7; cases h7
  refine ⟨by simpa [h6, h7, h10] using h3, fun e => ?_, fun _ => ?_, fun e => ?_, ?_⟩
  · simp [done, h7] at e
  · simp [done, h55]
  · simp [done, h10] at e
  · simp [done, h7, h10]
theorem JM.at7 {W3 W4 w' U u : World} {d : Nat → Bool} (h : JM W3 W4 w' U d u) (h7 : d 7 = false) (h4 : d 4 = true) (h6 : d 6 = true) : u = W4 ∧ JM W3 W4 w' U (done d 7) w' := by
  obtain ⟨h1, h5, h2, h3⟩ := h
  have h10 : d 10 = false := by
    cases e : d 10
    · rfl
    · rw [h2 e] at h7; cases h7
  refine ⟨by simpa [h6, h7, h10] using h3, fun _ => ?_, fun _ => ?_, fun e => ?_, ?_⟩
  · simp [done, h4, h6]
  · simp [done, h5 h6]
  · simp [done]
  · simp [done, h10]
theorem JM.at10 {W3 W4 w' U u : World} {d : Nat → Bool} (h : JM W3 W4 w' U d u) (h7 : d 7 = true) (h10 : d 10 = false) : u = w' ∧ JM W3 W4 w' U (done d 10) U := by
  obtain ⟨h1, h5, h2, h3⟩ := h
  obtain ⟨a, b⟩ := h1 h7
  refine ⟨by simpa [h7, h10] using h3, fun _ => ?_, fun _ => ?_, fun e => ?_, ?_⟩
  · simp [done, a, b]
  · simp [done, h5 b]
  · simp [done, h7]
  · simp [done]
theorem JM.fin {W3 W4 w' U u : World} {d : Nat → Bool} (h : JM W3 W4 w' U d u) (h10 : d 10 = true) : u = U := by
  have := h.2.2.2
  simpa [h10] using this
section
variable {C : Cf} {base p : Nat} {F : List Nat} {A : Ga}

set_option maxHeartbeats 8000000 in
theorem made_1 {w : World} (h : GrA C w base p F A) (o : OP) (hk : o.k = 1) (kd : Nat) (hb : o.b = (kd : Int)) (hkd : kd < C.l) (hE : A.E.length < 1000) (hB : base ≤ w.heap.size) :
    Calls Tryz.prog 59 #[.pointer (some ⟨p, 0, none⟩), o.val] w fun e w' => e = .returned (refV A.E.length).val ∧ Res C base p F A (A.E.map Th.p ++ [⟨kd, 0, none⟩]) w w' := by
  have HG : Hid (GrA C w base p F A) := h
  obtain ⟨cap, htv⟩ := h.thg.form
  obtain ⟨k, a, b, c, n, x, y⟩ := o
  unfold OP.val
  dsimp only at *
  subst hk hb
  have c9 := h.at 9 (v := A.tv) rfl
  have HREF : Hid (∀ W, Calls Tryz.prog 83 #[.int .i64 (A.E.length : Int)] W fun e w' => e = .returned (.complex .f64 (floatOfInt .f64 ((A.E.length : Int) + 1)) 4607182418800017408) ∧ w' = W) := fun W => ref_in _ W (by omega) (by omega)
  clear h
  go_enter Tryz.func59, Tryz.ntmps59
  go_wp2_with fail
  generalize hW3 : ((w.alloc _).alloc _).alloc _ = W3
  have hz : W3.heap.size = w.heap.size + 1 + 1 + 1 := by rw [← hW3]; simp
  have HX : Hid (Blk W3 (w.heap.size + 1 + 1) [.int .i64 (kd : Int), .int .i64 0, .map none]) := by
    rw [← hW3]
    have e : ((w.alloc (.cells #[.int .i64 ((1 : Nat) : Int), .int .i64 a, .int .i64 (kd : Int), .int .i64 c, .int .i64 n, .complex .f64 x y] 38)).alloc (.cells #[.bool false, .complex .f64 0 0] 34)).heap.size = w.heap.size + 1 + 1 := by simp
    have := Blk.new ((w.alloc (.cells #[.int .i64 ((1 : Nat) : Int), .int .i64 a, .int .i64 (kd : Int), .int .i64 c, .int .i64 n, .complex .f64 x y] 38)).alloc (.cells #[.bool false, .complex .f64 0 0] 34)) [.int .i64 (kd : Int), .int .i64 0, .map none] 74
    rw [e] at this
    exact this
  have HY : Hid (Blk W3 (w.heap.size + 1) [.bool false, .complex .f64 0 0]) := by
    rw [← hW3]
    exact (Blk.new2 w #[.int .i64 ((1 : Nat) : Int), .int .i64 a, .int .i64 (kd : Int), .int .i64 c, .int .i64 n, .complex .f64 x y] 38 [.bool false, .complex .f64 0 0] 34).kept ((Kept.refl _).alloc _ _)
  have K3 : Hid (Kept w W3) := by rw [← hW3]; exact (((Kept.refl w).alloc _ _).alloc _ _).alloc _ _
  clear hW3
  have KD : Hid (Kept w W3.drew) := K3.out.drew
  have HF : Hid (p < W3.drew.heap.size ∧ W3.drew.cell? ⟨p, 9, none⟩ = some A.tv) := ⟨Nat.lt_of_lt_of_le HG.out.plt KD.out.size, (HG.out.kept KD.out).at 9 (v := A.tv) rfl⟩
  have K4 : Hid (Kept w (W3.drew.alloc (.cells #[.int .i64 (kd : Int), .int .i64 0, .map none] 74))) := KD.out.alloc _ _
  have G4 := HG.out.kept K4.out
  have hown := Own.new W3.drew [.int .i64 (kd : Int), .int .i64 0, .map none] 74
  obtain ⟨v', w', hrun, hrw, hmut, hfresh⟩ := run_append_rw (P := Tryz.prog) (t := 74) (ts := 60) (ty := 60) (m := 3) (c := Th.cs) (T := [⟨⟨kd, 0, none⟩, none⟩]) Tryz.underlying60 info_thing rfl (by decide) (by decide) Th.len Th.one G4.thg (Nat.le_trans hB K4.out.size) (y := some ⟨W3.heap.size, 0, none⟩) (d := 1)
    (fun _ => ⟨_, rfl, fun j u hu => by
      have hadd : (⟨W3.heap.size, 0, none⟩ : Addr).add j = ⟨W3.heap.size, j, none⟩ := by unfold Addr.add; split <;> simp_all
      rw [hadd]
      exact hown.blk.at j (by simpa [Th.cs] using hu)⟩) (by simp; omega)
  have HR : Hid ((Builtin.append_ #[60, 60] 60 #[A.tv, .slice (some ⟨W3.heap.size, 0, none⟩) 1 1]).run Tryz.prog (W3.drew.alloc (.cells #[.int .i64 (kd : Int), .int .i64 0, .map none] 74)) = .ok v' w') := hrun
  have hpt : A.tv.ownBlock ≠ some p := HG.out.own.nerw HG.out.thg (by decide)
  have hyt : A.tv.ownBlock ≠ some (w.heap.size + 1) := fun e => by have := HG.out.thg.lt _ e; omega
  have ow := G4.own.muts hmut (fun q => hpt (by simpa using q))
  have HP : Hid (w'.cell? ⟨p, 9, none⟩ = some A.tv ∧ w'.frozen? ⟨p, 9, none⟩ = false) := ⟨ow.blk.at 9 rfl, ow.blk.fz 9⟩
  have HY' : Hid (Blk (w'.setCell ⟨p, 9, none⟩ v') (w.heap.size + 1) [.bool false, .complex .f64 0 0]) := by
    refine (((HY.out.kept (Kept.refl _).drew).kept ((Kept.refl _).alloc _ _)).muts hmut (fun q => hyt (by simpa using q))).set_other ?_ _
    have := HG.out.plt
    show p ≠ _
    omega
  have HRes : Hid (Res C base p F A (A.E.map Th.p ++ [⟨kd, 0, none⟩]) (W3.drew.alloc (.cells #[.int .i64 (kd : Int), .int .i64 0, .map none] 74)) (w'.setCell ⟨p, 9, none⟩ v')) := G4.push hrw hmut hfresh hkd ⟨rfl, rfl⟩ hE
  have HC9 : Hid ((w'.setCell ⟨p, 9, none⟩ v').cell? ⟨p, 9, none⟩ = some v') := (ow.set 9 v').blk.at 9 rfl
  obtain ⟨x', d', hv'⟩ := hrw.form
  have hl' : (A.E ++ [(⟨⟨kd, 0, none⟩, none⟩ : Th)]).length = A.E.length + 1 := by simp
  rw [hl'] at hv'
  subst hv'
  have HLT : Hid (∀ k ∈ F, k < w.heap.size) := fun k hk => (HG.out.lt k hk).2
  clear hrun hrw hmut hfresh hown G4 ow c9 hpt hyt hl' htv
  have HZ : Hid (W3.heap.size = _) := hz
  clear hz
  generalize A.tv = tv at *
  refine wp_region_phase [(.pointer (some ⟨p, 0, none⟩)), (.pointer (some ⟨p, 0, none⟩)), (.pointer (some ⟨p, 0, none⟩)), (.pointer (some ⟨p, 9, none⟩)), (tv), (.agg #[.int .i64 (kd : Int), .int .i64 0, .map none]), (.slice (some ⟨W3.heap.size, 0, none⟩) 1 1), (.slice x' (A.E.length + 1) d'), (.pointer (some ⟨p, 0, none⟩)), (.pointer (some ⟨p, 9, none⟩)), (undef)] [(15, 0), (16, 1), (17, 2), (18, 3), (19, 4), (20, 5), (21, 6), (22, 7), (23, 8), (24, 9)] [_, _, _, _, _, _, _, _, _, _, _, _, _, _, _, _, _, _, _, _, _, _, _, _, _, _, _, _, _, _, _, _, _] (fun d u => JM W3.drew (W3.drew.alloc (.cells #[.int .i64 (kd : Int), .int .i64 0, .map none] 74)) w' (w'.setCell ⟨p, 9, none⟩ (.slice x' (A.E.length + 1) d')) d u) (by kernel_rfl) (by kernel_rfl) (by kernel_rfl) (by kernel_rfl) rfl ?_ ?_ ?_
  · exact ⟨fun e => by simp at e, fun e => by simp at e, fun e => by simp at e, by simp⟩
  · intro i1 o ho a1 d u hh hj hi hd
    match i1, ho, hi, hd with
    | 0, ho, hi, hd =>
      simp only [List.getElem?_cons_zero, Option.some.injEq] at ho
      subst ho
      have g0 : a1.tmps[0]? = some (.pointer (some ⟨p, 0, none⟩)) := hh.old 0 (by kernel_rfl) rfl
      clear hh hd
      have HN : Hid (JM W3.drew (W3.drew.alloc (.cells #[.int .i64 (kd : Int), .int .i64 0, .map none] 74)) w' (w'.setCell ⟨p, 9, none⟩ (.slice x' (A.E.length + 1) d')) (done d 0) u) := hj.plain 0 (by decide) (by decide) (by decide)
      clear hj hi
      refine wpOp_step rfl (fun K hK => ?_)
      go_simp
      exact hK _ _ ⟨by simp [Act.put], HN.out⟩
    | 1, ho, hi, hd =>
      simp only [List.getElem?_cons_succ, List.getElem?_cons_zero, Option.some.injEq] at ho
      subst ho
      have g0 : a1.tmps[0]? = some (.pointer (some ⟨p, 0, none⟩)) := hh.old 0 (by kernel_rfl) rfl
      clear hh hd
      have HN : Hid (JM W3.drew (W3.drew.alloc (.cells #[.int .i64 (kd : Int), .int .i64 0, .map none] 74)) w' (w'.setCell ⟨p, 9, none⟩ (.slice x' (A.E.length + 1) d')) (done d 1) u) := hj.plain 1 (by decide) (by decide) (by decide)
      clear hj hi
      refine wpOp_step rfl (fun K hK => ?_)
      go_simp
      exact hK _ _ ⟨by simp [Act.put], HN.out⟩
    | 2, ho, hi, hd =>
      simp only [List.getElem?_cons_succ, List.getElem?_cons_zero, Option.some.injEq] at ho
      subst ho
      have g16 : a1.tmps[16]? = some (.pointer (some ⟨p, 0, none⟩)) := hh.did 1 _ 16 rfl rfl (hd { on := 1, ground := .data } (by simp) rfl)
      clear hh hd
      have HN : Hid (JM W3.drew (W3.drew.alloc (.cells #[.int .i64 (kd : Int), .int .i64 0, .map none] 74)) w' (w'.setCell ⟨p, 9, none⟩ (.slice x' (A.E.length + 1) d')) (done d 2) u) := hj.plain 2 (by decide) (by decide) (by decide)
      clear hj hi
      refine wpOp_step rfl (fun K hK => ?_)
      go_simp
      exact hK _ _ ⟨by simp [Act.put], HN.out⟩
    | 3, ho, hi, hd =>
      simp only [List.getElem?_cons_succ, List.getElem?_cons_zero, Option.some.injEq] at ho
      subst ho
      have g17 : a1.tmps[17]? = some (.pointer (some ⟨p, 0, none⟩)) := hh.did 2 _ 17 rfl rfl (hd { on := 2, ground := .data } (by simp) rfl)
      clear hh hd
      have HN : Hid (JM W3.drew (W3.drew.alloc (.cells #[.int .i64 (kd : Int), .int .i64 0, .map none] 74)) w' (w'.setCell ⟨p, 9, none⟩ (.slice x' (A.E.length + 1) d')) (done d 3) u) := hj.plain 3 (by decide) (by decide) (by decide)
      clear hj hi
      refine wpOp_step rfl (fun K hK => ?_)
      go_simp
      exact hK _ _ ⟨by simp [Act.put], HN.out⟩
    | 4, ho, hi, hd =>
      simp only [List.getElem?_cons_succ, List.getElem?_cons_zero, Option.some.injEq] at ho
      subst ho
      have g18 : a1.tmps[18]? = some (.pointer (some ⟨p, 9, none⟩)) := hh.did 3 _ 18 rfl rfl (hd { on := 3, ground := .data } (by simp) rfl)
      have KE := hj.early (.inl hi) ((Kept.refl _).alloc _ _)
      have cc : u.cell? ⟨p, 9, none⟩ = some tv := (KE.cell (a := ⟨p, 9, none⟩) HF.out.1).trans HF.out.2
      clear KE
      clear hh hd
      have HN : Hid (JM W3.drew (W3.drew.alloc (.cells #[.int .i64 (kd : Int), .int .i64 0, .map none] 74)) w' (w'.setCell ⟨p, 9, none⟩ (.slice x' (A.E.length + 1) d')) (done d 4) u) := hj.plain 4 (by decide) (by decide) (by decide)
      clear hj hi
      refine wpOp_step rfl (fun K hK => ?_)
      go_simp
      exact hK _ _ ⟨by simp [Act.put], HN.out⟩
    | 5, ho, hi, hd =>
      simp only [List.getElem?_cons_succ, List.getElem?_cons_zero, Option.some.injEq] at ho
      subst ho
      have g5 : a1.tmps[5]? = some (.pointer (some ⟨w.heap.size + 1 + 1, 0, none⟩)) := hh.old 5 (by kernel_rfl) rfl
      have KE := hj.early (.inr hi) ((Kept.refl _).alloc _ _)
      have x0 : u.cell? ⟨w.heap.size + 1 + 1, 0, none⟩ = some (.int .i64 (kd : Int)) := (KE.cell (a := ⟨w.heap.size + 1 + 1, 0, none⟩) HX.out.lt).trans (HX.out.at 0 rfl)
      have x1 : u.cell? ⟨w.heap.size + 1 + 1, 1, none⟩ = some (.int .i64 0) := (KE.cell (a := ⟨w.heap.size + 1 + 1, 1, none⟩) HX.out.lt).trans (HX.out.at 1 rfl)
      have x2 : u.cell? ⟨w.heap.size + 1 + 1, 2, none⟩ = some (.map none) := (KE.cell (a := ⟨w.heap.size + 1 + 1, 2, none⟩) HX.out.lt).trans (HX.out.at 2 rfl)
      clear KE
      clear hh hd
      have HN : Hid (JM W3.drew (W3.drew.alloc (.cells #[.int .i64 (kd : Int), .int .i64 0, .map none] 74)) w' (w'.setCell ⟨p, 9, none⟩ (.slice x' (A.E.length + 1) d')) (done d 5) u) := hj.plain 5 (by decide) (by decide) (by decide)
      clear hj hi
      refine wpOp_step rfl (fun K hK => ?_)
      go_simp
      exact hK _ _ ⟨by simp [Act.put], HN.out⟩
    | 6, ho, hi, hd =>
      simp only [List.getElem?_cons_succ, List.getElem?_cons_zero, Option.some.injEq] at ho
      subst ho
      have g20 : a1.tmps[20]? = some (.agg #[.int .i64 (kd : Int), .int .i64 0, .map none]) := hh.did 5 _ 20 rfl rfl (hd { on := 5, ground := .data } (by simp) rfl)
      obtain ⟨eu, HN6⟩ := hj.at6 hi (hd { on := 5, ground := .data } (by simp) rfl)
      subst eu
      clear hh hd
      have HN : Hid (_) := HN6
      clear hj hi HN6
      refine wpOp_step rfl (fun K hK => ?_)
      go_simp
      exact hK _ _ ⟨by simp [Act.put], HN.out⟩
    | 7, ho, hi, hd =>
      simp only [List.getElem?_cons_succ, List.getElem?_cons_zero, Option.some.injEq] at ho
      subst ho
      have g19 : a1.tmps[19]? = some (tv) := hh.did 4 _ 19 rfl rfl (hd { on := 4, ground := .data } (by simp) rfl)
      have g21 : a1.tmps[21]? = some (.slice (some ⟨W3.heap.size, 0, none⟩) 1 1) := hh.did 6 _ 21 rfl rfl (hd { on := 6, ground := .data } (by simp) rfl)
      obtain ⟨eu, HN7⟩ := hj.at7 hi (hd { on := 4, ground := .data } (by simp) rfl) (hd { on := 6, ground := .data } (by simp) rfl)
      subst eu
      have hr := HR.out
      clear hh hd
      have HN : Hid (_) := HN7
      have hs : a1.eval (.tmp 19) = tv := by simp [Act.eval, g19]
      have hx : a1.eval (.tmp 21) = .slice (some ⟨W3.heap.size, 0, none⟩) 1 1 := by simp [Act.eval, g21]
      clear hj hi HN7 g19 g21
      refine wpOp_step rfl (fun K hK => ?_)
      refine step_append_eq rfl (.tmp 19) (.tmp 21) 60 rfl hs hx hr ?_
      exact hK _ _ ⟨by simp [Act.put], HN.out⟩
    | 8, ho, hi, hd =>
      simp only [List.getElem?_cons_succ, List.getElem?_cons_zero, Option.some.injEq] at ho
      subst ho
      have g15 : a1.tmps[15]? = some (.pointer (some ⟨p, 0, none⟩)) := hh.did 0 _ 15 rfl rfl (hd { on := 0, ground := .data } (by simp) rfl)
      clear hh hd
      have HN : Hid (JM W3.drew (W3.drew.alloc (.cells #[.int .i64 (kd : Int), .int .i64 0, .map none] 74)) w' (w'.setCell ⟨p, 9, none⟩ (.slice x' (A.E.length + 1) d')) (done d 8) u) := hj.plain 8 (by decide) (by decide) (by decide)
      clear hj hi
      refine wpOp_step rfl (fun K hK => ?_)
      go_simp
      exact hK _ _ ⟨by simp [Act.put], HN.out⟩
    | 9, ho, hi, hd =>
      simp only [List.getElem?_cons_succ, List.getElem?_cons_zero, Option.some.injEq] at ho
      subst ho
      have g23 : a1.tmps[23]? = some (.pointer (some ⟨p, 0, none⟩)) := hh.did 8 _ 23 rfl rfl (hd { on := 8, ground := .data } (by simp) rfl)
      clear hh hd
      have HN : Hid (JM W3.drew (W3.drew.alloc (.cells #[.int .i64 (kd : Int), .int .i64 0, .map none] 74)) w' (w'.setCell ⟨p, 9, none⟩ (.slice x' (A.E.length + 1) d')) (done d 9) u) := hj.plain 9 (by decide) (by decide) (by decide)
      clear hj hi
      refine wpOp_step rfl (fun K hK => ?_)
      go_simp
      exact hK _ _ ⟨by simp [Act.put], HN.out⟩
    | 10, ho, hi, hd =>
      simp only [List.getElem?_cons_succ, List.getElem?_cons_zero, Option.some.injEq] at ho
      subst ho
      have g22 : a1.tmps[22]? = some (.slice x' (A.E.length + 1) d') := hh.did 7 _ 22 rfl rfl (hd { on := 7, ground := .data } (by simp) rfl)
      have g24 : a1.tmps[24]? = some (.pointer (some ⟨p, 9, none⟩)) := hh.did 9 _ 24 rfl rfl (hd { on := 9, ground := .data } (by simp) rfl)
      obtain ⟨eu, HN10⟩ := hj.at10 (hd { on := 7, ground := .data } (by simp) rfl) hi
      subst eu
      have f9 := HP.out.2
      have c9 := HP.out.1
      clear hh hd
      have HN : Hid (_) := HN10
      clear hj hi HN10
      refine wpOp_step rfl (fun K hK => ?_)
      go_simp
      exact hK _ _ ⟨by simp [Act.put], HN.out⟩
    | n + 11, ho, hi, hd => simp at ho
  · intro u d hall hj
    have eu := hj.fin (hall 10 (by decide))
    subst eu
    clear hall hj
    simp only [List.getD_cons_succ, List.getD_cons_zero]
    have c9 := HC9.out
    have y0 := HY'.out.at 0 rfl
    have y1 := HY'.out.at 1 rfl
    have yf := HY'.out.fz
    go_wp2_with fail
    refine (HREF.out _).mono ?_
    rintro e w5 ⟨rfl, rfl⟩
    go_wp2
    exact bodyPost_ret_by (results_blk rfl _ _ (w.heap.size + 1) (refV A.E.length).cs rfl ((HY'.out.set (i := 0) rfl _).set (i := 1) rfl _) Tryz.underlying34 (by kernel_rfl)) rfl
      ⟨rfl, HRes.out.write K4.out HLT.out (b := w.heap.size + 1) (by omega) (by have := HZ.out; simp; omega) (((Mut.refl _ _).setCell (by simp) _).setCell (by simp) _)⟩

set_option maxHeartbeats 8000000 in
theorem made_2 {w : World} (h : GrA C w base p F A) (o : OP) (hk : o.k = 2) (kd : Nat) (hb : o.b = (kd : Int)) (hkd : kd < C.l) (hE : A.E.length < 1000) (hB : base ≤ w.heap.size) :
    Calls Tryz.prog 59 #[.pointer (some ⟨p, 0, none⟩), o.val] w fun e w' => e = .returned (refV A.E.length).val ∧ Res C base p F A (A.E.map Th.p ++ [⟨kd, o.n, none⟩]) w w' := by
  have HG : Hid (GrA C w base p F A) := h
  obtain ⟨cap, htv⟩ := h.thg.form
  obtain ⟨k, a, b, c, n, x, y⟩ := o
  unfold OP.val
  dsimp only at *
  subst hk hb
  have c9 := h.at 9 (v := A.tv) rfl
  have HREF : Hid (∀ W, Calls Tryz.prog 83 #[.int .i64 (A.E.length : Int)] W fun e w' => e = .returned (.complex .f64 (floatOfInt .f64 ((A.E.length : Int) + 1)) 4607182418800017408) ∧ w' = W) := fun W => ref_in _ W (by omega) (by omega)
  clear h
  go_enter Tryz.func59, Tryz.ntmps59
  go_wp2_with fail
  generalize hW3 : ((w.alloc _).alloc _).alloc _ = W3
  have hz : W3.heap.size = w.heap.size + 1 + 1 + 1 := by rw [← hW3]; simp
  have HX : Hid (Blk W3 (w.heap.size + 1 + 1) [.int .i64 (kd : Int), .int .i64 n, .map none]) := by
    rw [← hW3]
    have e : ((w.alloc (.cells #[.int .i64 ((2 : Nat) : Int), .int .i64 a, .int .i64 (kd : Int), .int .i64 c, .int .i64 n, .complex .f64 x y] 38)).alloc (.cells #[.bool false, .complex .f64 0 0] 34)).heap.size = w.heap.size + 1 + 1 := by simp
    have := Blk.new ((w.alloc (.cells #[.int .i64 ((2 : Nat) : Int), .int .i64 a, .int .i64 (kd : Int), .int .i64 c, .int .i64 n, .complex .f64 x y] 38)).alloc (.cells #[.bool false, .complex .f64 0 0] 34)) [.int .i64 (kd : Int), .int .i64 n, .map none] 74
    rw [e] at this
    exact this
  have HY : Hid (Blk W3 (w.heap.size + 1) [.bool false, .complex .f64 0 0]) := by
    rw [← hW3]
    exact (Blk.new2 w #[.int .i64 ((2 : Nat) : Int), .int .i64 a, .int .i64 (kd : Int), .int .i64 c, .int .i64 n, .complex .f64 x y] 38 [.bool false, .complex .f64 0 0] 34).kept ((Kept.refl _).alloc _ _)
  have K3 : Hid (Kept w W3) := by rw [← hW3]; exact (((Kept.refl w).alloc _ _).alloc _ _).alloc _ _
  clear hW3
  have KD : Hid (Kept w W3.drew) := K3.out.drew
  have HF : Hid (p < W3.drew.heap.size ∧ W3.drew.cell? ⟨p, 9, none⟩ = some A.tv) := ⟨Nat.lt_of_lt_of_le HG.out.plt KD.out.size, (HG.out.kept KD.out).at 9 (v := A.tv) rfl⟩
  have K4 : Hid (Kept w (W3.drew.alloc (.cells #[.int .i64 (kd : Int), .int .i64 n, .map none] 74))) := KD.out.alloc _ _
  have G4 := HG.out.kept K4.out
  have hown := Own.new W3.drew [.int .i64 (kd : Int), .int .i64 n, .map none] 74
  obtain ⟨v', w', hrun, hrw, hmut, hfresh⟩ := run_append_rw (P := Tryz.prog) (t := 74) (ts := 60) (ty := 60) (m := 3) (c := Th.cs) (T := [⟨⟨kd, n, none⟩, none⟩]) Tryz.underlying60 info_thing rfl (by decide) (by decide) Th.len Th.one G4.thg (Nat.le_trans hB K4.out.size) (y := some ⟨W3.heap.size, 0, none⟩) (d := 1)
    (fun _ => ⟨_, rfl, fun j u hu => by
      have hadd : (⟨W3.heap.size, 0, none⟩ : Addr).add j = ⟨W3.heap.size, j, none⟩ := by unfold Addr.add; split <;> simp_all
      rw [hadd]
      exact hown.blk.at j (by simpa [Th.cs] using hu)⟩) (by simp; omega)
  have HR : Hid ((Builtin.append_ #[60, 60] 60 #[A.tv, .slice (some ⟨W3.heap.size, 0, none⟩) 1 1]).run Tryz.prog (W3.drew.alloc (.cells #[.int .i64 (kd : Int), .int .i64 n, .map none] 74)) = .ok v' w') := hrun
  have hpt : A.tv.ownBlock ≠ some p := HG.out.own.nerw HG.out.thg (by decide)
  have hyt : A.tv.ownBlock ≠ some (w.heap.size + 1) := fun e => by have := HG.out.thg.lt _ e; omega
  have ow := G4.own.muts hmut (fun q => hpt (by simpa using q))
  have HP : Hid (w'.cell? ⟨p, 9, none⟩ = some A.tv ∧ w'.frozen? ⟨p, 9, none⟩ = false) := ⟨ow.blk.at 9 rfl, ow.blk.fz 9⟩
  have HY' : Hid (Blk (w'.setCell ⟨p, 9, none⟩ v') (w.heap.size + 1) [.bool false, .complex .f64 0 0]) := by
    refine (((HY.out.kept (Kept.refl _).drew).kept ((Kept.refl _).alloc _ _)).muts hmut (fun q => hyt (by simpa using q))).set_other ?_ _
    have := HG.out.plt
    show p ≠ _
    omega
  have HRes : Hid (Res C base p F A (A.E.map Th.p ++ [⟨kd, n, none⟩]) (W3.drew.alloc (.cells #[.int .i64 (kd : Int), .int .i64 n, .map none] 74)) (w'.setCell ⟨p, 9, none⟩ v')) := G4.push hrw hmut hfresh hkd ⟨rfl, rfl⟩ hE
  have HC9 : Hid ((w'.setCell ⟨p, 9, none⟩ v').cell? ⟨p, 9, none⟩ = some v') := (ow.set 9 v').blk.at 9 rfl
  obtain ⟨x', d', hv'⟩ := hrw.form
  have hl' : (A.E ++ [(⟨⟨kd, n, none⟩, none⟩ : Th)]).length = A.E.length + 1 := by simp
  rw [hl'] at hv'
  subst hv'
  have HLT : Hid (∀ k ∈ F, k < w.heap.size) := fun k hk => (HG.out.lt k hk).2
  clear hrun hrw hmut hfresh hown G4 ow c9 hpt hyt hl' htv
  have HZ : Hid (W3.heap.size = _) := hz
  clear hz
  generalize A.tv = tv at *
  refine wp_region_phase [(.pointer (some ⟨p, 0, none⟩)), (.pointer (some ⟨p, 0, none⟩)), (.pointer (some ⟨p, 0, none⟩)), (.pointer (some ⟨p, 9, none⟩)), (tv), (.agg #[.int .i64 (kd : Int), .int .i64 n, .map none]), (.slice (some ⟨W3.heap.size, 0, none⟩) 1 1), (.slice x' (A.E.length + 1) d'), (.pointer (some ⟨p, 0, none⟩)), (.pointer (some ⟨p, 9, none⟩)), (undef)] [(15, 0), (16, 1), (17, 2), (18, 3), (19, 4), (20, 5), (21, 6), (22, 7), (23, 8), (24, 9)] [_, _, _, _, _, _, _, _, _, _, _, _, _, _, _, _, _, _, _, _, _, _, _, _, _, _, _, _, _, _, _, _, _] (fun d u => JM W3.drew (W3.drew.alloc (.cells #[.int .i64 (kd : Int), .int .i64 n, .map none] 74)) w' (w'.setCell ⟨p, 9, none⟩ (.slice x' (A.E.length + 1) d')) d u) (by kernel_rfl) (by kernel_rfl) (by kernel_rfl) (by kernel_rfl) rfl ?_ ?_ ?_
  · exact ⟨fun e => by simp at e, fun e => by simp at e, fun e => by simp at e, by simp⟩
  · intro i1 o ho a1 d u hh hj hi hd
    match i1, ho, hi, hd with
    | 0, ho, hi, hd =>
      simp only [List.getElem?_cons_zero, Option.some.injEq] at ho
      subst ho
      have g0 : a1.tmps[0]? = some (.pointer (some ⟨p, 0, none⟩)) := hh.old 0 (by kernel_rfl) rfl
      clear hh hd
      have HN : Hid (JM W3.drew (W3.drew.alloc (.cells #[.int .i64 (kd : Int), .int .i64 n, .map none] 74)) w' (w'.setCell ⟨p, 9, none⟩ (.slice x' (A.E.length + 1) d')) (done d 0) u) := hj.plain 0 (by decide) (by decide) (by decide)
      clear hj hi
      refine wpOp_step rfl (fun K hK => ?_)
      go_simp
      exact hK _ _ ⟨by simp [Act.put], HN.out⟩
    | 1, ho, hi, hd =>
      simp only [List.getElem?_cons_succ, List.getElem?_cons_zero, Option.some.injEq] at ho
      subst ho
      have g0 : a1.tmps[0]? = some (.pointer (some ⟨p, 0, none⟩)) := hh.old 0 (by kernel_rfl) rfl
      clear hh hd
      have HN : Hid (JM W3.drew (W3.drew.alloc (.cells #[.int .i64 (kd : Int), .int .i64 n, .map none] 74)) w' (w'.setCell ⟨p, 9, none⟩ (.slice x' (A.E.length + 1) d')) (done d 1) u) := hj.plain 1 (by decide) (by decide) (by decide)
      clear hj hi
      refine wpOp_step rfl (fun K hK => ?_)
      go_simp
      exact hK _ _ ⟨by simp [Act.put], HN.out⟩
    | 2, ho, hi, hd =>
      simp only [List.getElem?_cons_succ, List.getElem?_cons_zero, Option.some.injEq] at ho
      subst ho
      have g16 : a1.tmps[16]? = some (.pointer (some ⟨p, 0, none⟩)) := hh.did 1 _ 16 rfl rfl (hd { on := 1, ground := .data } (by simp) rfl)
      clear hh hd
      have HN : Hid (JM W3.drew (W3.drew.alloc (.cells #[.int .i64 (kd : Int), .int .i64 n, .map none] 74)) w' (w'.setCell ⟨p, 9, none⟩ (.slice x' (A.E.length + 1) d')) (done d 2) u) := hj.plain 2 (by decide) (by decide) (by decide)
      clear hj hi
      refine wpOp_step rfl (fun K hK => ?_)
      go_simp
      exact hK _ _ ⟨by simp [Act.put], HN.out⟩
    | 3, ho, hi, hd =>
      simp only [List.getElem?_cons_succ, List.getElem?_cons_zero, Option.some.injEq] at ho
      subst ho
      have g17 : a1.tmps[17]? = some (.pointer (some ⟨p, 0, none⟩)) := hh.did 2 _ 17 rfl rfl (hd { on := 2, ground := .data } (by simp) rfl)
      clear hh hd
      have HN : Hid (JM W3.drew (W3.drew.alloc (.cells #[.int .i64 (kd : Int), .int .i64 n, .map none] 74)) w' (w'.setCell ⟨p, 9, none⟩ (.slice x' (A.E.length + 1) d')) (done d 3) u) := hj.plain 3 (by decide) (by decide) (by decide)
      clear hj hi
      refine wpOp_step rfl (fun K hK => ?_)
      go_simp
      exact hK _ _ ⟨by simp [Act.put], HN.out⟩
    | 4, ho, hi, hd =>
      simp only [List.getElem?_cons_succ, List.getElem?_cons_zero, Option.some.injEq] at ho
      subst ho
      have g18 : a1.tmps[18]? = some (.pointer (some ⟨p, 9, none⟩)) := hh.did 3 _ 18 rfl rfl (hd { on := 3, ground := .data } (by simp) rfl)
      have KE := hj.early (.inl hi) ((Kept.refl _).alloc _ _)
      have cc : u.cell? ⟨p, 9, none⟩ = some tv := (KE.cell (a := ⟨p, 9, none⟩) HF.out.1).trans HF.out.2
      clear KE
      clear hh hd
      have HN : Hid (JM W3.drew (W3.drew.alloc (.cells #[.int .i64 (kd : Int), .int .i64 n, .map none] 74)) w' (w'.setCell ⟨p, 9, none⟩ (.slice x' (A.E.length + 1) d')) (done d 4) u) := hj.plain 4 (by decide) (by decide) (by decide)
      clear hj hi
      refine wpOp_step rfl (fun K hK => ?_)
      go_simp
      exact hK _ _ ⟨by simp [Act.put], HN.out⟩
    | 5, ho, hi, hd =>
      simp only [List.getElem?_cons_succ, List.getElem?_cons_zero, Option.some.injEq] at ho
      subst ho
      have g5 : a1.tmps[5]? = some (.pointer (some ⟨w.heap.size + 1 + 1, 0, none⟩)) := hh.old 5 (by kernel_rfl) rfl
      have KE := hj.early (.inr hi) ((Kept.refl _).alloc _ _)
      have x0 : u.cell? ⟨w.heap.size + 1 + 1, 0, none⟩ = some (.int .i64 (kd : Int)) := (KE.cell (a := ⟨w.heap.size + 1 + 1, 0, none⟩) HX.out.lt).trans (HX.out.at 0 rfl)
      have x1 : u.cell? ⟨w.heap.size + 1 + 1, 1, none⟩ = some (.int .i64 n) := (KE.cell (a := ⟨w.heap.size + 1 + 1, 1, none⟩) HX.out.lt).trans (HX.out.at 1 rfl)
      have x2 : u.cell? ⟨w.heap.size + 1 + 1, 2, none⟩ = some (.map none) := (KE.cell (a := ⟨w.heap.size + 1 + 1, 2, none⟩) HX.out.lt).trans (HX.out.at 2 rfl)
      clear KE
      clear hh hd
      have HN : Hid (JM W3.drew (W3.drew.alloc (.cells #[.int .i64 (kd : Int), .int .i64 n, .map none] 74)) w' (w'.setCell ⟨p, 9, none⟩ (.slice x' (A.E.length + 1) d')) (done d 5) u) := hj.plain 5 (by decide) (by decide) (by decide)
      clear hj hi
      refine wpOp_step rfl (fun K hK => ?_)
      go_simp
      exact hK _ _ ⟨by simp [Act.put], HN.out⟩
    | 6, ho, hi, hd =>
      simp only [List.getElem?_cons_succ, List.getElem?_cons_zero, Option.some.injEq] at ho
      subst ho
      have g20 : a1.tmps[20]? = some (.agg #[.int .i64 (kd : Int), .int .i64 n, .map none]) := hh.did 5 _ 20 rfl rfl (hd { on := 5, ground := .data } (by simp) rfl)
      obtain ⟨eu, HN6⟩ := hj.at6 hi (hd { on := 5, ground := .data } (by simp) rfl)
      subst eu
      clear hh hd
      have HN : Hid (_) := HN6
      clear hj hi HN6
      refine wpOp_step rfl (fun K hK => ?_)
      go_simp
      exact hK _ _ ⟨by simp [Act.put], HN.out⟩
    | 7, ho, hi, hd =>
      simp only [List.getElem?_cons_succ, List.getElem?_cons_zero, Option.some.injEq] at ho
      subst ho
      have g19 : a1.tmps[19]? = some (tv) := hh.did 4 _ 19 rfl rfl (hd { on := 4, ground := .data } (by simp) rfl)
      have g21 : a1.tmps[21]? = some (.slice (some ⟨W3.heap.size, 0, none⟩) 1 1) := hh.did 6 _ 21 rfl rfl (hd { on := 6, ground := .data } (by simp) rfl)
      obtain ⟨eu, HN7⟩ := hj.at7 hi (hd { on := 4, ground := .data } (by simp) rfl) (hd { on := 6, ground := .data } (by simp) rfl)
      subst eu
      have hr := HR.out
      clear hh hd
      have HN : Hid (_) := HN7
      have hs : a1.eval (.tmp 19) = tv := by simp [Act.eval, g19]
      have hx : a1.eval (.tmp 21) = .slice (some ⟨W3.heap.size, 0, none⟩) 1 1 := by simp [Act.eval, g21]
      clear hj hi HN7 g19 g21
      refine wpOp_step rfl (fun K hK => ?_)
      refine step_append_eq rfl (.tmp 19) (.tmp 21) 60 rfl hs hx hr ?_
      exact hK _ _ ⟨by simp [Act.put], HN.out⟩
    | 8, ho, hi, hd =>
      simp only [List.getElem?_cons_succ, List.getElem?_cons_zero, Option.some.injEq] at ho
      subst ho
      have g15 : a1.tmps[15]? = some (.pointer (some ⟨p, 0, none⟩)) := hh.did 0 _ 15 rfl rfl (hd { on := 0, ground := .data } (by simp) rfl)
      clear hh hd
      have HN : Hid (JM W3.drew (W3.drew.alloc (.cells #[.int .i64 (kd : Int), .int .i64 n, .map none] 74)) w' (w'.setCell ⟨p, 9, none⟩ (.slice x' (A.E.length + 1) d')) (done d 8) u) := hj.plain 8 (by decide) (by decide) (by decide)
      clear hj hi
      refine wpOp_step rfl (fun K hK => ?_)
      go_simp
      exact hK _ _ ⟨by simp [Act.put], HN.out⟩
    | 9, ho, hi, hd =>
      simp only [List.getElem?_cons_succ, List.getElem?_cons_zero, Option.some.injEq] at ho
      subst ho
      have g23 : a1.tmps[23]? = some (.pointer (some ⟨p, 0, none⟩)) := hh.did 8 _ 23 rfl rfl (hd { on := 8, ground := .data } (by simp) rfl)
      clear hh hd
      have HN : Hid (JM W3.drew (W3.drew.alloc (.cells #[.int .i64 (kd : Int), .int .i64 n, .map none] 74)) w' (w'.setCell ⟨p, 9, none⟩ (.slice x' (A.E.length + 1) d')) (done d 9) u) := hj.plain 9 (by decide) (by decide) (by decide)
      clear hj hi
      refine wpOp_step rfl (fun K hK => ?_)
      go_simp
      exact hK _ _ ⟨by simp [Act.put], HN.out⟩
    | 10, ho, hi, hd =>
      simp only [List.getElem?_cons_succ, List.getElem?_cons_zero, Option.some.injEq] at ho
      subst ho
      have g22 : a1.tmps[22]? = some (.slice x' (A.E.length + 1) d') := hh.did 7 _ 22 rfl rfl (hd { on := 7, ground := .data } (by simp) rfl)
      have g24 : a1.tmps[24]? = some (.pointer (some ⟨p, 9, none⟩)) := hh.did 9 _ 24 rfl rfl (hd { on := 9, ground := .data } (by simp) rfl)
      obtain ⟨eu, HN10⟩ := hj.at10 (hd { on := 7, ground := .data } (by simp) rfl) hi
      subst eu
      have f9 := HP.out.2
      have c9 := HP.out.1
      clear hh hd
      have HN : Hid (_) := HN10
      clear hj hi HN10
      refine wpOp_step rfl (fun K hK => ?_)
      go_simp
      exact hK _ _ ⟨by simp [Act.put], HN.out⟩
    | n + 11, ho, hi, hd => simp at ho
  · intro u d hall hj
    have eu := hj.fin (hall 10 (by decide))
    subst eu
    clear hall hj
    simp only [List.getD_cons_succ, List.getD_cons_zero]
    have c9 := HC9.out
    have y0 := HY'.out.at 0 rfl
    have y1 := HY'.out.at 1 rfl
    have yf := HY'.out.fz
    go_wp2_with fail
    refine (HREF.out _).mono ?_
    rintro e w5 ⟨rfl, rfl⟩
    go_wp2
    exact bodyPost_ret_by (results_blk rfl _ _ (w.heap.size + 1) (refV A.E.length).cs rfl ((HY'.out.set (i := 0) rfl _).set (i := 1) rfl _) Tryz.underlying34 (by kernel_rfl)) rfl
      ⟨rfl, HRes.out.write K4.out HLT.out (b := w.heap.size + 1) (by omega) (by have := HZ.out; simp; omega) (((Mut.refl _ _).setCell (by simp) _).setCell (by simp) _)⟩
end
end Go.Proofs.YtbmcbkebcchjmaaGreatDoor
