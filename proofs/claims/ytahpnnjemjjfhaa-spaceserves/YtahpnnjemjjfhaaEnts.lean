/-
  Requests as they lie in memory: rows of structs of some cells each (the program's: eight, the document's: seven); what each got lies apart.
-/
import Derived.Test.YtahpnnjemjjfhaaLst
import Derived.Test.YtahpnnjemjjfhaaCopy20
import Derived.Maps.AppendAt
import Derived.Laws.OwnMore
import Derived.Laws.ResultCell
namespace Go.Proofs.Ytahpnnjemjjfhaa
open Go.RowKit

/-- A request: who asks and for what, its state, its cycles, where it is, what it got; whether it was noted. -/
structure Ent where
  th : Int
  fr : Int
  sp : Int
  st : Int
  cy : Int
  pl : Int
  gx : Option Addr
  gc : Nat
  G : List Int
  nt : Bool

def Ent.c7 (e : Ent) : List Value := [.int .i64 e.th, .int .i64 e.fr, .int .i64 e.sp, .int .i64 e.st, .int .i64 e.cy, .int .i64 e.pl, .slice e.gx e.G.length e.gc]
def Ent.c8 (e : Ent) : List Value := [.int .i64 e.th, .int .i64 e.fr, .int .i64 e.sp, .int .i64 e.st, .int .i64 e.cy, .int .i64 e.pl, .slice e.gx e.G.length e.gc, .bool e.nt]
def Ent.blk (e : Ent) : Option Nat := e.gx.map Addr.block
theorem lc7_one (e : Ent) : ∀ u ∈ e.c7, u.oneCell' = true := by simp [Ent.c7, Value.oneCell']
theorem lc8_one (e : Ent) : ∀ u ∈ e.c8, u.oneCell' = true := by simp [Ent.c8, Value.oneCell']

section
variable {m : Nat} {c : Ent → List Value}
theorem flat_len (hc : ∀ e, (c e).length = m) (E : List Ent) : (E.flatMap c).length = E.length * m := by
  induction E with
  | nil => simp
  | cons e E ih => simp [ih, hc, Nat.succ_mul, Nat.add_comm]
theorem flat_get (hc : ∀ e, (c e).length = m) : ∀ (E : List Ent) (i j : Nat) (hi : i < E.length), j < m → (E.flatMap c)[i * m + j]? = (c E[i])[j]?
  | e :: E, 0, j, _, hj => by
    simp only [List.flatMap_cons, Nat.zero_mul, Nat.zero_add, List.getElem_cons_zero]
    rw [List.getElem?_append_left (by rw [hc]; exact hj)]
  | e :: E, i + 1, j, hi, hj => by
    have hi' : i < E.length := by simpa using hi
    have e1 : (i + 1) * m + j = m + (i * m + j) := by rw [Nat.succ_mul]; omega
    rw [List.flatMap_cons, List.getElem?_append_right (by rw [hc, e1]; omega), hc, e1, Nat.add_sub_cancel_left]
    exact flat_get hc E i j hi' hj
theorem flat_set (hc : ∀ e, (c e).length = m) : ∀ (E : List Ent) (i j : Nat) (e' : Ent) (u : Value) (hi : i < E.length), j < m → c e' = (c E[i]).set j u → (E.flatMap c).set (i * m + j) u = (E.set i e').flatMap c
  | e :: E, 0, j, e', u, _, hj, h => by
    simp only [List.flatMap_cons, Nat.zero_mul, Nat.zero_add, List.set_cons_zero]
    rw [List.set_append_left _ _ (by rw [hc]; exact hj)]
    rw [show c e' = (c e).set j u from h]
  | e :: E, i + 1, j, e', u, hi, hj, h => by
    have hi' : i < E.length := by simpa using hi
    have e1 : (i + 1) * m + j = m + (i * m + j) := by rw [Nat.succ_mul]; omega
    rw [List.flatMap_cons, List.set_append_right _ _ (by rw [hc, e1]; omega), hc, e1, Nat.add_sub_cancel_left, flat_set hc E i j e' u hi' hj h]
    simp
theorem flat_take (hc : ∀ e, (c e).length = m) : ∀ (E : List Ent) (i : Nat), (E.take i).flatMap c = (E.flatMap c).take (i * m)
  | [], i => by simp
  | e :: E, 0 => by simp
  | e :: E, i + 1 => by
    have e1 : (i + 1) * m = m + i * m := by rw [Nat.succ_mul]; omega
    rw [List.take_succ_cons, List.flatMap_cons, List.flatMap_cons, flat_take hc E i, e1, List.take_append, hc, List.take_of_length_le (l := c e) (by rw [hc]; omega), Nat.add_sub_cancel_left]
theorem flat_drop (hc : ∀ e, (c e).length = m) : ∀ (E : List Ent) (i : Nat), (E.drop i).flatMap c = (E.flatMap c).drop (i * m)
  | [], i => by simp
  | e :: E, 0 => by simp
  | e :: E, i + 1 => by
    have e1 : (i + 1) * m = m + i * m := by rw [Nat.succ_mul]; omega
    rw [List.drop_succ_cons, List.flatMap_cons, flat_drop hc E i, e1, List.drop_append, hc, (List.drop_eq_nil_of_le (by rw [hc]; omega) : (c e).drop (m + i * m) = []), Nat.add_sub_cancel_left, List.nil_append]
end

/-- A slice of the call's own of requests, m cells each. -/
def Rw (t : TypeId) (m : Nat) (c : Ent → List Value) (w : World) (base : Nat) (v : Value) (E : List Ent) : Prop := w.ownsRow base t m v E.length (E.flatMap c)

section
variable {t : TypeId} {m : Nat} {c : Ent → List Value} {w w' : World} {base : Nat} {v : Value} {E : List Ent}
theorem Rw.nil (t : TypeId) (m : Nat) (c : Ent → List Value) (w : World) (base : Nat) : Rw t m c w base (.slice none 0 0) [] := World.ownsRow_nil _ _ _ _
theorem Rw.form (h : Rw t m c w base v E) : ∃ x d, v = .slice x E.length d := by
  rcases h.2 with ⟨rfl, h0⟩ | ⟨g, cap, cur, hv, _⟩
  · rw [h0]; exact ⟨_, _, rfl⟩
  · exact ⟨_, _, hv⟩
theorem Rw.here (h : Rw t m c w base v E) (h0 : 0 < E.length) : ∃ g cap, v = .slice (some ⟨g, 0, none⟩) E.length cap ∧ base ≤ g ∧ g < w.heap.size ∧ E.length ≤ cap := by
  rcases h.2 with ⟨_, e⟩ | ⟨g, cap, cur, hv, hb, hg, hn, _⟩
  · omega
  · exact ⟨g, cap, hv, hb, lt_of_block hg, hn⟩
theorem Rw.lt (h : Rw t m c w base v E) : ∀ k, v.ownBlock = some k → base ≤ k ∧ k < w.heap.size := World.ownsRow.lt h
theorem Rw.muts {D : List Nat} (h : Rw t m c w base v E) (q : Mut D w w') (hd : ∀ k, v.ownBlock = some k → k ∉ D) : Rw t m c w' base v E := by
  refine ⟨h.1, ?_⟩
  rcases h.2 with hn | ⟨g, cap, cur, rfl, hb, hgg, rest⟩
  · exact .inl hn
  · refine .inr ⟨g, cap, cur, rfl, hb, ?_, rest⟩
    rw [q.block g (lt_of_block hgg) (hd g rfl)]
    exact hgg
theorem Rw.low (h : Rw t m c w base v E) {b' : Nat} (hb : b' ≤ base) : Rw t m c w b' v E := by
  refine ⟨h.1, ?_⟩
  rcases h.2 with hn | ⟨g, cap, cur, rfl, hb', hgg, rest⟩
  · exact .inl hn
  · exact .inr ⟨g, cap, cur, rfl, Nat.le_trans hb hb', hgg, rest⟩
theorem Rw.kept (h : Rw t m c w base v E) (k : Kept w w') : Rw t m c w' base v E := h.muts (D := []) k.mut (fun _ _ q => by cases q)
theorem Rw.cell {g n d : Nat} (h : Rw t m c w base (.slice (.some ⟨g, 0, none⟩) n d) E) (hc : ∀ e, (c e).length = m) {i j : Nat} (hi : i < E.length) {u : Value} (hu : (c E[i])[j]? = .some u) : w.cell? ⟨g, i * m + j, none⟩ = .some u := by
  have hj : j < m := by have := (List.getElem?_eq_some_iff.1 hu).1; rwa [hc] at this
  have hr := World.ownsRow.cells h (g := g) rfl (i * m + j) u (by rw [flat_get hc E i j hi hj]; exact hu)
  rwa [show (⟨g, 0, none⟩ : Addr).add (i * m + j) = ⟨g, i * m + j, none⟩ by unfold Addr.add; split <;> simp_all] at hr
theorem Rw.fz {g n d : Nat} (h : Rw t m c w base (.slice (.some ⟨g, 0, none⟩) n d) E) (j : Nat) : w.frozen? ⟨g, j, none⟩ = false := by
  rcases h.2 with ⟨h', _⟩ | ⟨g', cap', cur, h', _, hg, _⟩
  · simp at h'
  · simp only [Value.slice.injEq, Option.some.injEq, Addr.mk.injEq, and_true] at h'
    obtain ⟨rfl, _, rfl⟩ := h'
    exact frozen_of_row w g j cur t hg
theorem Rw.set {g n d : Nat} (h : Rw t m c w base (.slice (.some ⟨g, 0, none⟩) n d) E) (hc : ∀ e, (c e).length = m) {i j : Nat} (hi : i < E.length) (hj : j < m) {e' : Ent} {u : Value} (hu : c e' = (c E[i]).set j u) :
    Rw t m c (w.setCell ⟨g, i * m + j, none⟩ u) base (.slice (.some ⟨g, 0, none⟩) n d) (E.set i e') := by
  obtain ⟨x, d', e⟩ := h.form
  obtain ⟨_, rfl, _⟩ := Value.slice.inj e
  have := (World.ownsRow.stored h (i * m + j) u).1
  unfold Rw
  rw [flat_set hc E i j e' u hi hj hu] at this
  rw [List.length_set]
  exact this
/-- Another block than a row's. -/
theorem Own.nerw {b : Nat} {t' : TypeId} {L : List Value} (h : Own w b t' L) (l : Rw t m c w base v E) (ht : t' ≠ t) : v.ownBlock ≠ .some b := fun e => by
  rcases l.2 with ⟨rfl, _⟩ | ⟨g, cap, cur, rfl, _, hg, _⟩
  · cases e
  · obtain rfl : g = b := by simpa [Value.ownBlock] using e
    unfold Own at h
    rw [hg] at h
    simp only [Option.some.injEq, Obj.cells.injEq] at h
    exact ht h.2.1.symm
end

/-- Requests that are read at x. -/
def Rdr (c : Ent → List Value) (w : World) (x : Option Addr) (T : List Ent) : Prop := 0 < T.length → ∃ a, x = some a ∧ ∀ j u, (T.flatMap c)[j]? = some u → w.cell? (a.add j) = some u

section
variable {P : Program} {t ts ty : TypeId} {m : Nat} {c : Ent → List Value} {w : World} {base : Nat} {v : Value} {E T : List Ent}
/-- append, whatever room there is. -/
theorem run_append_rw {z : Value} {bytes : Nat} (ht : P.underlying ts = some (.slice t)) (hin : (P.info? t).map (fun i => (i.zero, i.size, i.bytes)) = some (some z, m, bytes)) (hzs : z.cells.size = m) (hm : 0 < m) (hby : bytes ≤ 1000)
    (hc : ∀ e, (c e).length = m) (h1 : ∀ e, ∀ u ∈ c e, u.oneCell' = true) (h : Rw t m c w base v E) (hb : base ≤ w.heap.size) {y : Option Addr} {d : Nat} (hy : Rdr c w y T) (hn : E.length + T.length ≤ 1000000) :
    ∃ v' w', (Builtin.append_ #[ts, ts] ty #[v, .slice y T.length d]).run P w = .ok v' w' ∧ Rw t m c w' base v' (E ++ T) ∧ Mut v.ownBlock.toList w w' ∧ Fresh w v v' := by
  obtain ⟨i, hi, hz, hs, hbs⟩ := info_parts hin
  by_cases h0 : 0 < T.length
  · obtain ⟨a, rfl, hr⟩ := hy h0
    have hbm : (E.length + T.length) * bytes ≤ 140737488355328 := by
      have : (E.length + T.length) * bytes ≤ 1000000 * 1000 := Nat.mul_le_mul hn hby
      omega
    obtain ⟨v', w', hrun, hown, hg, _, hv⟩ := run_append_own_at (P := P) w base ts ty t i z m bytes ht hi hz hs hbs hzs hm v E.length _ h a T.length d (T.flatMap c) (flat_len hc T) hr (fun u hu => by
      obtain ⟨e, _, he⟩ := List.mem_flatMap.1 hu
      exact h1 e u he) (by unfold maxLen; omega) hbm hb
    refine ⟨v', w', hrun, ?_, mut_grown hg, fun k hk => ?_⟩
    · unfold Rw
      rw [List.length_append, List.flatMap_append]
      exact hown
    · rcases hv with e | e
      · exact .inl (e ▸ hk)
      · rw [e] at hk
        exact .inr (by simp at hk; omega)
  · obtain rfl : T = [] := List.eq_nil_of_length_eq_zero (by omega)
    refine ⟨v, w, ?_, by simpa using h, Mut.refl _ _, Fresh.same _ _⟩
    have hl : ∀ a : Addr, (loadCells a 0).run P w = .ok #[] w := fun a => run_loadCells_list (P := P) w a [] (by simp)
    rcases h.2 with ⟨rfl, _⟩ | ⟨g, cap, cur, rfl, _, _, hnc, _⟩
    · cases y
      · simp [Builtin.append_, run_underlying ht, sizeOf, typeInfo, hi, Builtin.lenOf, Builtin.firstCells]
      · simp [Builtin.append_, run_underlying ht, sizeOf, typeInfo, hi, Builtin.lenOf, Builtin.firstCells, hl]
    · cases y
      · simp [Builtin.append_, run_underlying ht, sizeOf, typeInfo, hi, Builtin.lenOf, Builtin.firstCells, hnc, storeCells]
      · simp [Builtin.append_, run_underlying ht, sizeOf, typeInfo, hi, Builtin.lenOf, Builtin.firstCells, hnc, storeCells, hl]
end

/-- The blocks that requests reach. -/
def gots (E : List Ent) : List Nat := E.flatMap fun e => e.blk.toList

/-- Requests in a row, what each got readable, all apart from block b. -/
structure Ens (t : TypeId) (m : Nat) (c : Ent → List Value) (w : World) (base b : Nat) (v : Value) (E : List Ent) : Prop where
  row : Rw t m c w base v E
  got : ∀ e, e ∈ E → Rdi w e.gx e.G
  gb : ∀ e, e ∈ E → ∀ k, e.blk = some k → base ≤ k ∧ k < w.heap.size ∧ k ≠ b ∧ v.ownBlock ≠ some k
  short : ∀ e, e ∈ E → e.G.length ≤ 100000
  nb : v.ownBlock ≠ some b

/-- The blocks of a line. -/
def foot (b : Nat) (v : Value) (E : List Ent) : List Nat := b :: (v.ownBlock.toList ++ gots E)

section
variable {t : TypeId} {m : Nat} {c : Ent → List Value} {w w' : World} {base b : Nat} {v v' : Value} {E E' : List Ent}
theorem mem_gots {k : Nat} : k ∈ gots E ↔ ∃ e ∈ E, e.blk = some k := by simp [gots, List.mem_flatMap]
theorem mem_foot {k : Nat} : k ∈ foot b v E ↔ k = b ∨ v.ownBlock = some k ∨ ∃ e ∈ E, e.blk = some k := by simp [foot, mem_gots]
theorem Rdi.muts' {D : List Nat} {e : Ent} (h : Rdi w e.gx e.G) (q : Mut D w w') (hd : ∀ k, e.blk = some k → k ∉ D) : Rdi w' e.gx e.G := h.muts q fun g o hx => hd g (by simp [Ent.blk, hx])
theorem Ens.muts {D : List Nat} (h : Ens t m c w base b v E) (q : Mut D w w') (hd : ∀ k, k ∈ foot b v E → k ∉ D) : Ens t m c w' base b v E :=
  ⟨h.row.muts q fun k hk => hd k (mem_foot.2 (.inr (.inl hk))), fun e he => (h.got e he).muts' q fun k hk => hd k (mem_foot.2 (.inr (.inr ⟨e, he, hk⟩))),
    fun e he k hk => by have h1 := h.gb e he k hk; have h2 := q.size; exact ⟨by omega, by omega, by omega, h1.2.2.2⟩, h.short, h.nb⟩
theorem Ens.kept (h : Ens t m c w base b v E) (k : Kept w w') : Ens t m c w' base b v E := h.muts (D := []) k.mut (fun _ _ q => by cases q)
theorem Ens.lt (h : Ens t m c w base b v E) (hb : base ≤ b ∧ b < w.heap.size) : ∀ k, k ∈ foot b v E → base ≤ k ∧ k < w.heap.size := fun k hk => by
  rcases mem_foot.1 hk with rfl | hk | ⟨e, he, hk⟩
  · exact hb
  · exact h.row.lt k hk
  · exact ⟨(h.gb e he k hk).1, (h.gb e he k hk).2.1⟩
/-- One cell of one request is laid anew; where it is what was got, the new one is readable and apart. -/
theorem Ens.set {g n d : Nat} (h : Ens t m c w base b (.slice (some ⟨g, 0, none⟩) n d) E) (hc : ∀ e, (c e).length = m) {i j : Nat} (hi : i < E.length) (hj : j < m) {e' : Ent} {u : Value} (hu : c e' = (c E[i]).set j u)
    (hg : (e'.gx = E[i].gx ∧ e'.G = E[i].G) ∨ (Rdi w e'.gx e'.G ∧ e'.G.length ≤ 100000 ∧ ∀ k, e'.blk = some k → base ≤ k ∧ k < w.heap.size ∧ k ≠ b ∧ k ≠ g)) :
    Ens t m c (w.setCell ⟨g, i * m + j, none⟩ u) base b (.slice (some ⟨g, 0, none⟩) n d) (E.set i e') := by
  have q : Mut [g] w (w.setCell ⟨g, i * m + j, none⟩ u) := (Mut.refl _ _).setCell (by simp) _
  have hgot : ∀ e, e ∈ E.set i e' → Rdi w e.gx e.G ∧ e.G.length ≤ 100000 ∧ ∀ k, e.blk = some k → base ≤ k ∧ k < w.heap.size ∧ k ≠ b ∧ k ≠ g := fun e he => by
    rcases List.mem_or_eq_of_mem_set he with he | rfl
    · exact ⟨h.got e he, h.short e he, fun k hk => ⟨(h.gb e he k hk).1, (h.gb e he k hk).2.1, (h.gb e he k hk).2.2.1, fun q => (h.gb e he k hk).2.2.2 (by simp [Value.ownBlock, q])⟩⟩
    · rcases hg with ⟨e1, e2⟩ | hg
      · have he : E[i] ∈ E := List.getElem_mem hi
        rw [e1, e2]
        refine ⟨h.got _ he, h.short _ he, fun k hk => ?_⟩
        have hk : E[i].blk = some k := by simpa [Ent.blk, e1] using hk
        exact ⟨(h.gb _ he k hk).1, (h.gb _ he k hk).2.1, (h.gb _ he k hk).2.2.1, fun q => (h.gb _ he k hk).2.2.2 (by simp [Value.ownBlock, q])⟩
      · exact hg
  refine ⟨h.row.set hc hi hj hu, fun e he => (hgot e he).1.muts' q fun k hk hd => ((hgot e he).2.2 k hk).2.2.2 (by simpa using hd), fun e he k hk => ?_, fun e he => (hgot e he).2.1, h.nb⟩
  have := (hgot e he).2.2 k hk
  exact ⟨this.1, by simpa using this.2.1, this.2.2.1, by simpa [Value.ownBlock] using fun q => this.2.2.2 q.symm⟩
/-- Another row, the same ones or new ones that got nothing. -/
theorem Ens.turn {D : List Nat} (h : Ens t m c w base b v E) (r : Rw t m c w' base v' E') (q : Mut D w w') (hD : ∀ k, k ∈ D → v.ownBlock = some k ∨ k = b) (f : Fresh w v v') (he : ∀ e, e ∈ E' → e ∈ E ∨ (e.gx = none ∧ e.G = [])) (hb : b < w.heap.size) : Ens t m c w' base b v' E' := by
  refine ⟨r, fun e hE => ?_, fun e hE k hk => ?_, fun e hE => ?_, f.not hb h.nb⟩
  · rcases he e hE with hE | ⟨_, e2⟩
    · exact (h.got e hE).muts' q fun k hk hd => by
        rcases hD k hd with q1 | q1
        · exact (h.gb e hE k hk).2.2.2 q1
        · exact (h.gb e hE k hk).2.2.1 q1
    · rw [e2]; exact Rdi.nil
  · rcases he e hE with hE | ⟨e1, _⟩
    · have h1 := h.gb e hE k hk
      have h2 := q.size
      exact ⟨by omega, by omega, by omega, f.not (by omega) h1.2.2.2⟩
    · simp [Ent.blk, e1] at hk
  · rcases he e hE with hE | ⟨_, e2⟩
    · exact h.short e hE
    · simp [e2]
end
end Go.Proofs.Ytahpnnjemjjfhaa
