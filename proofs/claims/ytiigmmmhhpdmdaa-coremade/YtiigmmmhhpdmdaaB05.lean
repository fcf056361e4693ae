/-
  The modules Ents, Line, LineB, one behind another.
-/
import Derived.Maps.AppendAt
import Derived.Laws.OwnMore
import Derived.Laws.ResultCell
import Derived.Test.YtiigmmmhhpdmdaaB03
import Derived.Test.YtiigmmmhhpdmdaaB04
/-
  Requests as they lie in memory: rows of structs of some cells each (the program's: eight, the document's: seven); what each got lies apart.
-/
namespace Go.Proofs.Ytiigmmmhhpdmdaa
open Go.RowKit

/-- A request: who asks and for what, its state, its cycles, where it is, what it got; whether it was noted. -/
structure Ent where
  th : Int
  fr : Int
  sp : Int
  st : Int
  cy : Int
  pl : Int
  gx : Option Addr
  gc : Nat
  G : List Int
  nt : Bool

def Ent.c7 (e : Ent) : List Value := [.int .i64 e.th, .int .i64 e.fr, .int .i64 e.sp, .int .i64 e.st, .int .i64 e.cy, .int .i64 e.pl, .slice e.gx e.G.length e.gc]
def Ent.c8 (e : Ent) : List Value := [.int .i64 e.th, .int .i64 e.fr, .int .i64 e.sp, .int .i64 e.st, .int .i64 e.cy, .int .i64 e.pl, .slice e.gx e.G.length e.gc, .bool e.nt]
def Ent.blk (e : Ent) : Option Nat := e.gx.map Addr.block
theorem lc7_one (e : Ent) : ∀ u ∈ e.c7, u.oneCell' = true := by simp [Ent.c7, Value.oneCell']
theorem lc8_one (e : Ent) : ∀ u ∈ e.c8, u.oneCell' = true := by simp [Ent.c8, Value.oneCell']

section
variable {m : Nat} {c : Ent → List Value}
theorem flat_len (hc : ∀ e, (c e).length = m) (E : List Ent) : (E.flatMap c).length = E.length * m := by
  induction E with
  | nil => simp
  | cons e E ih => simp [ih, hc, Nat.succ_mul, Nat.add_comm]
theorem flat_get (hc : ∀ e, (c e).length = m) : ∀ (E : List Ent) (i j : Nat) (hi : i < E.length), j < m → (E.flatMap c)[i * m + j]? = (c E[i])[j]?
  | e :: E, 0, j, _, hj => by
    simp only [List.flatMap_cons, Nat.zero_mul, Nat.zero_add, List.getElem_cons_zero]
    rw [List.getElem?_append_left (by rw [hc]; exact hj)]
  | e :: E, i + 1, j, hi, hj => by
    have hi' : i < E.length := by simpa using hi
    have e1 : (i + 1) * m + j = m + (i * m + j) := by rw [Nat.succ_mul]; omega
    rw [List.flatMap_cons, List.getElem?_append_right (by rw [hc, e1]; omega), hc, e1, Nat.add_sub_cancel_left]
    exact flat_get hc E i j hi' hj
theorem flat_set (hc : ∀ e, (c e).length = m) : ∀ (E : List Ent) (i j : Nat) (e' : Ent) (u : Value) (hi : i < E.length), j < m → c e' = (c E[i]).set j u → (E.flatMap c).set (i * m + j) u = (E.set i e').flatMap c
  | e :: E, 0, j, e', u, _, hj, h => by
    simp only [List.flatMap_cons, Nat.zero_mul, Nat.zero_add, List.set_cons_zero]
    rw [List.set_append_left _ _ (by rw [hc]; exact hj)]
    rw [show c e' = (c e).set j u from h]
  | e :: E, i + 1, j, e', u, hi, hj, h => by
    have hi' : i < E.length := by simpa using hi
    have e1 : (i + 1) * m + j = m + (i * m + j) := by rw [Nat.succ_mul]; omega
    rw [List.flatMap_cons, List.set_append_right _ _ (by rw [hc, e1]; omega), hc, e1, Nat.add_sub_cancel_left, flat_set hc E i j e' u hi' hj h]
    simp
theorem flat_take (hc : ∀ e, (c e).length = m) : ∀ (E : List Ent) (i : Nat), (E.take i).flatMap c = (E.flatMap c).take (i * m)
  | [], i => by simp
  | e :: E, 0 => by simp
  | e :: E, i + 1 => by
    have e1 : (i + 1) * m = m + i * m := by rw [Nat.succ_mul]; omega
    rw [List.take_succ_cons, List.flatMap_cons, List.flatMap_cons, flat_take hc E i, e1, List.take_append, hc, List.take_of_length_le (l := c e) (by rw [hc]; omega), Nat.add_sub_cancel_left]
theorem flat_drop (hc : ∀ e, (c e).length = m) : ∀ (E : List Ent) (i : Nat), (E.drop i).flatMap c = (E.flatMap c).drop (i * m)
  | [], i => by simp
  | e :: E, 0 => by simp
  | e :: E, i + 1 => by
    have e1 : (i + 1) * m = m + i * m := by rw [Nat.succ_mul]; omega
    rw [List.drop_succ_cons, List.flatMap_cons, flat_drop hc E i, e1, List.drop_append, hc, (List.drop_eq_nil_of_le (by rw [hc]; omega) : (c e).drop (m + i * m) = []), Nat.add_sub_cancel_left, List.nil_append]
end

/-- A slice of the call's own of requests, m cells each. -/
def Rw (t : TypeId) (m : Nat) (c : Ent → List Value) (w : World) (base : Nat) (v : Value) (E : List Ent) : Prop := w.ownsRow base t m v E.length (E.flatMap c)

section
variable {t : TypeId} {m : Nat} {c : Ent → List Value} {w w' : World} {base : Nat} {v : Value} {E : List Ent}
theorem Rw.nil (t : TypeId) (m : Nat) (c : Ent → List Value) (w : World) (base : Nat) : Rw t m c w base (.slice none 0 0) [] := World.ownsRow_nil _ _ _ _
theorem Rw.form (h : Rw t m c w base v E) : ∃ x d, v = .slice x E.length d := by
  rcases h.2 with ⟨rfl, h0⟩ | ⟨g, cap, cur, hv, _⟩
  · rw [h0]; exact ⟨_, _, rfl⟩
  · exact ⟨_, _, hv⟩
theorem Rw.here (h : Rw t m c w base v E) (h0 : 0 < E.length) : ∃ g cap, v = .slice (some ⟨g, 0, none⟩) E.length cap ∧ base ≤ g ∧ g < w.heap.size ∧ E.length ≤ cap := by
  rcases h.2 with ⟨_, e⟩ | ⟨g, cap, cur, hv, hb, hg, hn, _⟩
  · omega
  · exact ⟨g, cap, hv, hb, lt_of_block hg, hn⟩
theorem Rw.lt (h : Rw t m c w base v E) : ∀ k, v.ownBlock = some k → base ≤ k ∧ k < w.heap.size := World.ownsRow.lt h
theorem Rw.muts {D : List Nat} (h : Rw t m c w base v E) (q : Mut D w w') (hd : ∀ k, v.ownBlock = some k → k ∉ D) : Rw t m c w' base v E := by
  refine ⟨h.1, ?_⟩
  rcases h.2 with hn | ⟨g, cap, cur, rfl, hb, hgg, rest⟩
  · exact .inl hn
  · refine .inr ⟨g, cap, cur, rfl, hb, ?_, rest⟩
    rw [q.block g (lt_of_block hgg) (hd g rfl)]
    exact hgg
theorem Rw.low (h : Rw t m c w base v E) {b' : Nat} (hb : b' ≤ base) : Rw t m c w b' v E := by
  refine ⟨h.1, ?_⟩
  rcases h.2 with hn | ⟨g, cap, cur, rfl, hb', hgg, rest⟩
  · exact .inl hn
  · exact .inr ⟨g, cap, cur, rfl, Nat.le_trans hb hb', hgg, rest⟩
theorem Rw.kept (h : Rw t m c w base v E) (k : Kept w w') : Rw t m c w' base v E := h.muts (D := []) k.mut (fun _ _ q => by cases q)
theorem Rw.cell {g n d : Nat} (h : Rw t m c w base (.slice (.some ⟨g, 0, none⟩) n d) E) (hc : ∀ e, (c e).length = m) {i j : Nat} (hi : i < E.length) {u : Value} (hu : (c E[i])[j]? = .some u) : w.cell? ⟨g, i * m + j, none⟩ = .some u := by
  have hj : j < m := by have := (List.getElem?_eq_some_iff.1 hu).1; rwa [hc] at this
  have hr := World.ownsRow.cells h (g := g) rfl (i * m + j) u (by rw [flat_get hc E i j hi hj]; exact hu)
  rwa [show (⟨g, 0, none⟩ : Addr).add (i * m + j) = ⟨g, i * m + j, none⟩ by unfold Addr.add; split <;> simp_all] at hr
theorem Rw.fz {g n d : Nat} (h : Rw t m c w base (.slice (.some ⟨g, 0, none⟩) n d) E) (j : Nat) : w.frozen? ⟨g, j, none⟩ = false := by
  rcases h.2 with ⟨h', _⟩ | ⟨g', cap', cur, h', _, hg, _⟩
  · simp at h'
  · simp only [Value.slice.injEq, Option.some.injEq, Addr.mk.injEq, and_true] at h'
    obtain ⟨rfl, _, rfl⟩ := h'
    exact frozen_of_row w g j cur t hg
theorem Rw.set {g n d : Nat} (h : Rw t m c w base (.slice (.some ⟨g, 0, none⟩) n d) E) (hc : ∀ e, (c e).length = m) {i j : Nat} (hi : i < E.length) (hj : j < m) {e' : Ent} {u : Value} (hu : c e' = (c E[i]).set j u) :
    Rw t m c (w.setCell ⟨g, i * m + j, none⟩ u) base (.slice (.some ⟨g, 0, none⟩) n d) (E.set i e') := by
  obtain ⟨x, d', e⟩ := h.form
  obtain ⟨_, rfl, _⟩ := Value.slice.inj e
  have := (World.ownsRow.stored h (i * m + j) u).1
  unfold Rw
  rw [flat_set hc E i j e' u hi hj hu] at this
  rw [List.length_set]
  exact this
/-- Another block than a row's. -/
theorem Own.nerw {b : Nat} {t' : TypeId} {L : List Value} (h : Own w b t' L) (l : Rw t m c w base v E) (ht : t' ≠ t) : v.ownBlock ≠ .some b := fun e => by
  rcases l.2 with ⟨rfl, _⟩ | ⟨g, cap, cur, rfl, _, hg, _⟩
  · cases e
  · obtain rfl : g = b := by simpa [Value.ownBlock] using e
    unfold Own at h
    rw [hg] at h
    simp only [Option.some.injEq, Obj.cells.injEq] at h
    exact ht h.2.1.symm
end

/-- Requests that are read at x. -/
def Rdr (c : Ent → List Value) (w : World) (x : Option Addr) (T : List Ent) : Prop := 0 < T.length → ∃ a, x = some a ∧ ∀ j u, (T.flatMap c)[j]? = some u → w.cell? (a.add j) = some u

section
variable {P : Program} {t ts ty : TypeId} {m : Nat} {c : Ent → List Value} {w : World} {base : Nat} {v : Value} {E T : List Ent}
/-- append, whatever room there is. -/
theorem run_append_rw {z : Value} {bytes : Nat} (ht : P.underlying ts = some (.slice t)) (hin : (P.info? t).map (fun i => (i.zero, i.size, i.bytes)) = some (some z, m, bytes)) (hzs : z.cells.size = m) (hm : 0 < m) (hby : bytes ≤ 1000)
    (hc : ∀ e, (c e).length = m) (h1 : ∀ e, ∀ u ∈ c e, u.oneCell' = true) (h : Rw t m c w base v E) (hb : base ≤ w.heap.size) {y : Option Addr} {d : Nat} (hy : Rdr c w y T) (hn : E.length + T.length ≤ 1000000) :
    ∃ v' w', (Builtin.append_ #[ts, ts] ty #[v, .slice y T.length d]).run P w = .ok v' w' ∧ Rw t m c w' base v' (E ++ T) ∧ Mut v.ownBlock.toList w w' ∧ Fresh w v v' := by
  obtain ⟨i, hi, hz, hs, hbs⟩ := info_parts hin
  by_cases h0 : 0 < T.length
  · obtain ⟨a, rfl, hr⟩ := hy h0
    have hbm : (E.length + T.length) * bytes ≤ 140737488355328 := by
      have : (E.length + T.length) * bytes ≤ 1000000 * 1000 := Nat.mul_le_mul hn hby
      omega
    obtain ⟨v', w', hrun, hown, hg, _, hv⟩ := run_append_own_at (P := P) w base ts ty t i z m bytes ht hi hz hs hbs hzs hm v E.length _ h a T.length d (T.flatMap c) (flat_len hc T) hr (fun u hu => by
      obtain ⟨e, _, he⟩ := List.mem_flatMap.1 hu
      exact h1 e u he) (by unfold maxLen; omega) hbm hb
    refine ⟨v', w', hrun, ?_, mut_grown hg, fun k hk => ?_⟩
    · unfold Rw
      rw [List.length_append, List.flatMap_append]
      exact hown
    · rcases hv with e | e
      · exact .inl (e ▸ hk)
      · rw [e] at hk
        exact .inr (by simp at hk; omega)
  · obtain rfl : T = [] := List.eq_nil_of_length_eq_zero (by omega)
    refine ⟨v, w, ?_, by simpa using h, Mut.refl _ _, Fresh.same _ _⟩
    have hl : ∀ a : Addr, (loadCells a 0).run P w = .ok #[] w := fun a => run_loadCells_list (P := P) w a [] (by simp)
    rcases h.2 with ⟨rfl, _⟩ | ⟨g, cap, cur, rfl, _, _, hnc, _⟩
    · cases y
      · simp [Builtin.append_, run_underlying ht, sizeOf, typeInfo, hi, Builtin.lenOf, Builtin.firstCells]
      · simp [Builtin.append_, run_underlying ht, sizeOf, typeInfo, hi, Builtin.lenOf, Builtin.firstCells, hl]
    · cases y
      · simp [Builtin.append_, run_underlying ht, sizeOf, typeInfo, hi, Builtin.lenOf, Builtin.firstCells, hnc, storeCells]
      · simp [Builtin.append_, run_underlying ht, sizeOf, typeInfo, hi, Builtin.lenOf, Builtin.firstCells, hnc, storeCells, hl]
end

/-- The blocks that requests reach. -/
def gots (E : List Ent) : List Nat := E.flatMap fun e => e.blk.toList

/-- Requests in a row, what each got readable, all apart from block b. -/
structure Ens (t : TypeId) (m : Nat) (c : Ent → List Value) (w : World) (base b : Nat) (v : Value) (E : List Ent) : Prop where
  row : Rw t m c w base v E
  got : ∀ e, e ∈ E → Rdi w e.gx e.G
  gb : ∀ e, e ∈ E → ∀ k, e.blk = some k → base ≤ k ∧ k < w.heap.size ∧ k ≠ b ∧ v.ownBlock ≠ some k
  short : ∀ e, e ∈ E → e.G.length ≤ 100000
  nb : v.ownBlock ≠ some b

/-- The blocks of a line. -/
def foot (b : Nat) (v : Value) (E : List Ent) : List Nat := b :: (v.ownBlock.toList ++ gots E)

section
variable {t : TypeId} {m : Nat} {c : Ent → List Value} {w w' : World} {base b : Nat} {v v' : Value} {E E' : List Ent}
theorem mem_gots {k : Nat} : k ∈ gots E ↔ ∃ e ∈ E, e.blk = some k := by simp [gots, List.mem_flatMap]
theorem mem_foot {k : Nat} : k ∈ foot b v E ↔ k = b ∨ v.ownBlock = some k ∨ ∃ e ∈ E, e.blk = some k := by simp [foot, mem_gots]
theorem Rdi.muts' {D : List Nat} {e : Ent} (h : Rdi w e.gx e.G) (q : Mut D w w') (hd : ∀ k, e.blk = some k → k ∉ D) : Rdi w' e.gx e.G := h.muts q fun g o hx => hd g (by simp [Ent.blk, hx])
theorem Ens.muts {D : List Nat} (h : Ens t m c w base b v E) (q : Mut D w w') (hd : ∀ k, k ∈ foot b v E → k ∉ D) : Ens t m c w' base b v E :=
  ⟨h.row.muts q fun k hk => hd k (mem_foot.2 (.inr (.inl hk))), fun e he => (h.got e he).muts' q fun k hk => hd k (mem_foot.2 (.inr (.inr ⟨e, he, hk⟩))),
    fun e he k hk => by have h1 := h.gb e he k hk; have h2 := q.size; exact ⟨by omega, by omega, by omega, h1.2.2.2⟩, h.short, h.nb⟩
theorem Ens.kept (h : Ens t m c w base b v E) (k : Kept w w') : Ens t m c w' base b v E := h.muts (D := []) k.mut (fun _ _ q => by cases q)
theorem Ens.lt (h : Ens t m c w base b v E) (hb : base ≤ b ∧ b < w.heap.size) : ∀ k, k ∈ foot b v E → base ≤ k ∧ k < w.heap.size := fun k hk => by
  rcases mem_foot.1 hk with rfl | hk | ⟨e, he, hk⟩
  · exact hb
  · exact h.row.lt k hk
  · exact ⟨(h.gb e he k hk).1, (h.gb e he k hk).2.1⟩
/-- One cell of one request is laid anew; where it is what was got, the new one is readable and apart. -/
theorem Ens.set {g n d : Nat} (h : Ens t m c w base b (.slice (some ⟨g, 0, none⟩) n d) E) (hc : ∀ e, (c e).length = m) {i j : Nat} (hi : i < E.length) (hj : j < m) {e' : Ent} {u : Value} (hu : c e' = (c E[i]).set j u)
    (hg : (e'.gx = E[i].gx ∧ e'.G = E[i].G) ∨ (Rdi w e'.gx e'.G ∧ e'.G.length ≤ 100000 ∧ ∀ k, e'.blk = some k → base ≤ k ∧ k < w.heap.size ∧ k ≠ b ∧ k ≠ g)) :
    Ens t m c (w.setCell ⟨g, i * m + j, none⟩ u) base b (.slice (some ⟨g, 0, none⟩) n d) (E.set i e') := by
  have q : Mut [g] w (w.setCell ⟨g, i * m + j, none⟩ u) := (Mut.refl _ _).setCell (by simp) _
  have hgot : ∀ e, e ∈ E.set i e' → Rdi w e.gx e.G ∧ e.G.length ≤ 100000 ∧ ∀ k, e.blk = some k → base ≤ k ∧ k < w.heap.size ∧ k ≠ b ∧ k ≠ g := fun e he => by
    rcases List.mem_or_eq_of_mem_set he with he | rfl
    · exact ⟨h.got e he, h.short e he, fun k hk => ⟨(h.gb e he k hk).1, (h.gb e he k hk).2.1, (h.gb e he k hk).2.2.1, fun q => (h.gb e he k hk).2.2.2 (by simp [Value.ownBlock, q])⟩⟩
    · rcases hg with ⟨e1, e2⟩ | hg
      · have he : E[i] ∈ E := List.getElem_mem hi
        rw [e1, e2]
        refine ⟨h.got _ he, h.short _ he, fun k hk => ?_⟩
        have hk : E[i].blk = some k := by simpa [Ent.blk, e1] using hk
        exact ⟨(h.gb _ he k hk).1, (h.gb _ he k hk).2.1, (h.gb _ he k hk).2.2.1, fun q => (h.gb _ he k hk).2.2.2 (by simp [Value.ownBlock, q])⟩
      · exact hg
  refine ⟨h.row.set hc hi hj hu, fun e he => (hgot e he).1.muts' q fun k hk hd => ((hgot e he).2.2 k hk).2.2.2 (by simpa using hd), fun e he k hk => ?_, fun e he => (hgot e he).2.1, h.nb⟩
  have := (hgot e he).2.2 k hk
  exact ⟨this.1, by simpa using this.2.1, this.2.2.1, by simpa [Value.ownBlock] using fun q => this.2.2.2 q.symm⟩
/-- Another row, the same ones or new ones that got nothing. -/
theorem Ens.turn {D : List Nat} (h : Ens t m c w base b v E) (r : Rw t m c w' base v' E') (q : Mut D w w') (hD : ∀ k, k ∈ D → v.ownBlock = some k ∨ k = b) (f : Fresh w v v') (he : ∀ e, e ∈ E' → e ∈ E ∨ (e.gx = none ∧ e.G = [])) (hb : b < w.heap.size) : Ens t m c w' base b v' E' := by
  refine ⟨r, fun e hE => ?_, fun e hE k hk => ?_, fun e hE => ?_, f.not hb h.nb⟩
  · rcases he e hE with hE | ⟨_, e2⟩
    · exact (h.got e hE).muts' q fun k hk hd => by
        rcases hD k hd with q1 | q1
        · exact (h.gb e hE k hk).2.2.2 q1
        · exact (h.gb e hE k hk).2.2.1 q1
    · rw [e2]; exact Rdi.nil
  · rcases he e hE with hE | ⟨e1, _⟩
    · have h1 := h.gb e hE k hk
      have h2 := q.size
      exact ⟨by omega, by omega, by omega, f.not (by omega) h1.2.2.2⟩
    · simp [Ent.blk, e1] at hk
  · rcases he e hE with hE | ⟨_, e2⟩
    · exact h.short e hE
    · simp [e2]
end
end Go.Proofs.Ytiigmmmhhpdmdaa

/-
  Contracts of package line: a line as it lies in memory; New; where a request is (place, head); what is told of it (Of, First); Waits.
-/
namespace Go.Proofs.Ytiigmmmhhpdmdaa
open Go.RowKit

/-- A line at block b. -/
structure LTab (w : World) (base b : Nat) (v : Value) (E : List Ent) : Prop where
  head : Own w b 186 [v]
  ens : Ens 188 8 Ent.c8 w base b v E
  lo : base ≤ b
  few : E.length ≤ 100000

section
variable {w w' : World} {base b : Nat} {v : Value} {E : List Ent}
theorem LTab.ltb (h : LTab w base b v E) : b < w.heap.size := h.head.lt
theorem LTab.lt (h : LTab w base b v E) : ∀ k, k ∈ foot b v E → base ≤ k ∧ k < w.heap.size := h.ens.lt ⟨h.lo, h.ltb⟩
theorem LTab.c0 (h : LTab w base b v E) : w.cell? ⟨b, 0, none⟩ = some v := h.head.blk.at 0 rfl
theorem LTab.fz (h : LTab w base b v E) (i : Nat) : w.frozen? ⟨b, i, none⟩ = false := h.head.blk.fz i
theorem LTab.muts {D : List Nat} (h : LTab w base b v E) (m : Mut D w w') (hd : ∀ k, k ∈ foot b v E → k ∉ D) : LTab w' base b v E :=
  ⟨h.head.muts m (hd b (mem_foot.2 (.inl rfl))), h.ens.muts m hd, h.lo, h.few⟩
theorem LTab.kept (h : LTab w base b v E) (k : Kept w w') : LTab w' base b v E := h.muts (D := []) k.mut (fun _ _ q => by cases q)
/-- Another row behind the head. -/
theorem LTab.turn {v' : Value} {E' : List Ent} (h : LTab w base b v E) (o : Own w' b 186 [v]) (n : Ens 188 8 Ent.c8 w' base b v' E') (hf : E'.length ≤ 100000) : LTab (w'.setCell ⟨b, 0, none⟩ v') base b v' E' := by
  have q : Mut [b] w' (w'.setCell ⟨b, 0, none⟩ v') := (Mut.refl _ _).setCell (by simp) _
  refine ⟨by simpa using o.set 0 v', ⟨n.row.muts q fun k hk hd => ?_, fun e he => (n.got e he).muts' q fun k hk hd => ?_, fun e he k hk => ?_, n.short, n.nb⟩, h.lo, hf⟩
  · simp at hd
    subst hd
    exact n.nb hk
  · simp at hd
    exact (n.gb e he k hk).2.2.1 hd
  · have := n.gb e he k hk
    exact ⟨this.1, by simpa using this.2.1, this.2.2⟩
end

theorem c7len (e : Ent) : e.c7.length = 7 := rfl
theorem c8len (e : Ent) : e.c8.length = 8 := rfl

theorem Rw.eight {t : TypeId} {w : World} {base g n d : Nat} {E : List Ent} (h : Rw t 8 Ent.c8 w base (.slice (some ⟨g, 0, none⟩) n d) E) {k : Nat} (hk : k < E.length) :
    w.cell? ⟨g, k * 8, none⟩ = some (.int .i64 E[k].th) ∧ w.cell? ⟨g, k * 8 + 1, none⟩ = some (.int .i64 E[k].fr) ∧ w.cell? ⟨g, k * 8 + 2, none⟩ = some (.int .i64 E[k].sp) ∧ w.cell? ⟨g, k * 8 + 3, none⟩ = some (.int .i64 E[k].st) ∧
    w.cell? ⟨g, k * 8 + 4, none⟩ = some (.int .i64 E[k].cy) ∧ w.cell? ⟨g, k * 8 + 5, none⟩ = some (.int .i64 E[k].pl) ∧ w.cell? ⟨g, k * 8 + 6, none⟩ = some (.slice E[k].gx E[k].G.length E[k].gc) ∧ w.cell? ⟨g, k * 8 + 7, none⟩ = some (.bool E[k].nt) :=
  ⟨h.cell c8len hk (j := 0) rfl, h.cell c8len hk (j := 1) rfl, h.cell c8len hk (j := 2) rfl, h.cell c8len hk (j := 3) rfl, h.cell c8len hk (j := 4) rfl, h.cell c8len hk (j := 5) rfl, h.cell c8len hk (j := 6) rfl, h.cell c8len hk (j := 7) rfl⟩

set_option maxHeartbeats 400000 in
theorem lnew_any (w : World) {base : Nat} (hb : base ≤ w.heap.size) : Calls Try.prog 76 #[] w fun e w' => ∃ b, e = .returned (.pointer (some ⟨b, 0, none⟩)) ∧ LTab w' base b (.slice none 0 0) [] ∧ Kept w w' ∧ w.heap.size ≤ b := by
  have HO : Hid (∀ w' : World, base ≤ w'.heap.size → LTab (w'.alloc (.cells #[.slice none 0 0] 186)) base w'.heap.size (.slice none 0 0) []) := fun w' hb =>
    ⟨Own.new w' [.slice none 0 0] _, ⟨Rw.nil _ _ _ _ _, fun e he => by simp at he, fun e he => by simp at he, fun e he => by simp at he, by simp [Value.ownBlock]⟩, hb, by simp⟩
  have HK : Hid (base ≤ w.heap.size) := hb
  clear hb
  go_enter Try.func76, Try.ntmps76
  go_wp2
  go_ret
  exact ⟨_, rfl, HO.out w HK.out, (Kept.refl _).alloc _ _, by omega⟩

set_option maxHeartbeats 400000 in
theorem lwaits_one (e : Ent) (w : World) :
    Calls Try.prog 94 #[.agg #[.int .i64 e.th, .int .i64 e.fr, .int .i64 e.sp, .int .i64 e.st, .int .i64 e.cy, .int .i64 e.pl, .slice e.gx e.G.length e.gc, .bool e.nt]] w fun r w' => r = .returned (.bool (e.st == 0)) ∧ Kept w w' := by
  go_enter Try.func94, Try.ntmps94
  go_wp2
  go_ret
  exact ⟨rfl, (Kept.refl _).alloc _ _⟩

set_option maxHeartbeats 400000 in
theorem lsame_one (e : Ent) (t : Int) (B : Nat) (w : World) (hB : B < w.heap.size) (hc : w.cell? ⟨B, 0, none⟩ = some (.int .i64 t)) :
    Calls Try.prog 118 #[.agg #[.int .i64 e.th, .int .i64 e.fr, .int .i64 e.sp, .int .i64 e.st, .int .i64 e.cy, .int .i64 e.pl, .slice e.gx e.G.length e.gc, .bool e.nt], .pointer (some ⟨B, 0, none⟩)] w fun r w' => r = .returned (.bool (e.th == t)) ∧ Kept w w' := by
  have q0 : ∀ A u, (w.alloc (.cells A u)).cell? ⟨B, 0, none⟩ = some (.int .i64 t) := fun A u => ((Kept.refl w).alloc A u).cell hB |>.trans hc
  clear hB hc
  go_enter Try.func118, Try.ntmps118
  go_wp2
  go_ret
  exact ⟨rfl, (Kept.refl _).alloc _ _⟩

/-- The place of the first of which p holds; -1. -/
def idx (p : Ent → Bool) (E : List Ent) : Int := match E.findIdx? p with
  | some i => (i : Int)
  | none => -1
theorem idx_at {p : Ent → Bool} {E : List Ent} {i : Nat} (hi : i < E.length) (h1 : p E[i] = true) (h0 : ∀ e ∈ E.take i, p e = false) : idx p E = (i : Int) := by
  have : E.findIdx? p = some i := List.findIdx?_eq_some_iff_getElem.2 ⟨hi, h1, fun j hj => by
    have := h0 E[j] (List.mem_take_iff_getElem.2 ⟨j, by omega, rfl⟩)
    simp [this]⟩
  simp [idx, this]
theorem take_more {p : Ent → Bool} {E : List Ent} {k : Nat} (hk : k < E.length) (h : ∀ e ∈ E.take k, p e = false) (h1 : p E[k] = false) : ∀ e ∈ E.take (k + 1), p e = false := fun e he => by
  rw [List.take_succ_eq_append_getElem hk] at he
  rcases List.mem_append.1 he with he | he
  · exact h e he
  · simp at he
    rw [he]; exact h1
theorem idx_none {p : Ent → Bool} {E : List Ent} (h : ∀ e ∈ E, p e = false) : idx p E = -1 := by
  have : E.findIdx? p = none := List.findIdx?_eq_none_iff.2 h
  simp [idx, this]
theorem idx_lt {p : Ent → Bool} {E : List Ent} : idx p E = -1 ∨ ∃ i : Nat, idx p E = (i : Int) ∧ ∃ h : i < E.length, p E[i] = true ∧ ∀ j (hj : j < i), p E[j] = false := by
  cases h : E.findIdx? p with
  | none => exact .inl (by simp [idx, h])
  | some i =>
    obtain ⟨hi, h1, h2⟩ := List.findIdx?_eq_some_iff_getElem.1 h
    exact .inr ⟨i, by simp [idx, h], hi, h1, fun j hj => by simpa using h2 j hj⟩

set_option maxHeartbeats 1000000 in
theorem index_head {base : Nat} {v : Value} {E : List Ent} (w : World) (h : Rw 188 8 Ent.c8 w base v E) (hE : E.length ≤ 100000) :
    Calls Try.prog 117 #[v, .func (.func 94) #[] #[]] w fun r w' => r = .returned (.int .i64 (idx (fun e => e.st == 0) E)) ∧ Kept w w' := by
  have HR : Hid (Rw 188 8 Ent.c8 w base v E) := h
  clear h
  obtain ⟨x, d, rfl⟩ := HR.out.form
  go_enter Try.func117, Try.ntmps117
  go_wp2
  go_loopg [8] E.length (fun m i wr => ∃ k : Nat, i = .int .i64 k ∧ k ≤ E.length ∧ m = E.length - k ∧ Hid ((∀ e ∈ E.take k, (e.st == 0) = false) ∧ Kept w wr))
  case atStart => exact ⟨0, rfl, by omega, by omega, fun e he => by simp at he, Kept.refl _⟩
  case round =>
    obtain ⟨k, rfl, hk, hm, hw⟩ := hrel
    have HM : Hid _ := hm
    clear hm
    by_cases hlt : k < E.length
    · obtain ⟨g, cap, ev, _, _, _⟩ := HR.out.here (by omega)
      obtain ⟨rfl, _, rfl⟩ := Value.slice.inj ev
      have HQ := HR.out.kept hw.out.2
      obtain ⟨c0, c1, c2, c3, c4, c5, c6, c7⟩ := HQ.eight hlt
      have HA : Hid (_ → idx (fun e => e.st == 0) E = (k : Int)) := fun q => idx_at (p := fun e => e.st == 0) hlt q hw.out.1
      have HB : Hid (_ → ∀ e ∈ E.take (k + 1), (e.st == 0) = false) := fun q => take_more (p := fun e => e.st == 0) hlt hw.out.1 q
      clear HQ ev
      generalize E[k] = e at *
      have C := lwaits_one e wr
      cases hs : (e.st == 0)
      · rw [hs] at C
        go_wp2_with fail
        refine C.mono ?_
        rintro r w2 ⟨rfl, k2⟩
        have H2 : Hid (Kept w w2) := hw.out.2.trans k2
        clear k2 c0 c1 c2 c3 c4 c5 c6 c7 C
        go_wp2
        go_roundg (gk - 1)
        all_goals (have := HM.out; try omega)
        exact ⟨k + 1, by go_num, by omega, by omega, HB.out hs, H2.out⟩
      · rw [hs] at C
        go_wp2_with fail
        refine C.mono ?_
        rintro r w2 ⟨rfl, k2⟩
        have H2 : Hid (Kept w w2) := hw.out.2.trans k2
        clear k2 c0 c1 c2 c3 c4 c5 c6 c7 C
        go_wp2
        go_ret
        exact ⟨by rw [HA.out hs]; rfl, H2.out⟩
    · obtain rfl : k = E.length := by omega
      have HN : Hid (idx (fun e => e.st == 0) E = -1) := idx_none fun e he => hw.out.1 e (by simpa using he)
      go_wp2
      go_ret
      exact ⟨by rw [HN.out]; rfl, hw.out.2⟩

set_option maxHeartbeats 1000000 in
theorem index_place {base : Nat} {v : Value} {E : List Ent} {t : Int} {B : Nat} (w : World) (h : Rw 188 8 Ent.c8 w base v E) (hE : E.length ≤ 100000) (hB : B < w.heap.size) (hb : w.cell? ⟨B, 0, none⟩ = some (.int .i64 t)) :
    Calls Try.prog 117 #[v, .func (.func 118) #[] #[.pointer (some ⟨B, 0, none⟩)]] w fun r w' => r = .returned (.int .i64 (idx (fun e => e.th == t) E)) ∧ Kept w w' := by
  have HR : Hid (Rw 188 8 Ent.c8 w base v E) := h
  have HB0 : Hid (B < w.heap.size ∧ w.cell? ⟨B, 0, none⟩ = some (.int .i64 t)) := ⟨hB, hb⟩
  clear h hB hb
  obtain ⟨x, d, rfl⟩ := HR.out.form
  go_enter Try.func117, Try.ntmps117
  go_wp2
  go_loopg [8] E.length (fun m i wr => ∃ k : Nat, i = .int .i64 k ∧ k ≤ E.length ∧ m = E.length - k ∧ Hid ((∀ e ∈ E.take k, (e.th == t) = false) ∧ Kept w wr))
  case atStart => exact ⟨0, rfl, by omega, by omega, fun e he => by simp at he, Kept.refl _⟩
  case round =>
    obtain ⟨k, rfl, hk, hm, hw⟩ := hrel
    have HM : Hid _ := hm
    clear hm
    by_cases hlt : k < E.length
    · obtain ⟨g, cap, ev, _, _, _⟩ := HR.out.here (by omega)
      obtain ⟨rfl, _, rfl⟩ := Value.slice.inj ev
      have HQ := HR.out.kept hw.out.2
      obtain ⟨c0, c1, c2, c3, c4, c5, c6, c7⟩ := HQ.eight hlt
      have HA : Hid (_ → idx (fun e => e.th == t) E = (k : Int)) := fun q => idx_at (p := fun e => e.th == t) hlt q hw.out.1
      have HB : Hid (_ → ∀ e ∈ E.take (k + 1), (e.th == t) = false) := fun q => take_more (p := fun e => e.th == t) hlt hw.out.1 q
      clear HQ ev
      generalize E[k] = e at *
      have C := lsame_one e t B wr (Nat.lt_of_lt_of_le HB0.out.1 hw.out.2.size) ((hw.out.2.cell HB0.out.1).trans HB0.out.2)
      cases hs : (e.th == t)
      · rw [hs] at C
        go_wp2_with fail
        refine C.mono ?_
        rintro r w2 ⟨rfl, k2⟩
        have H2 : Hid (Kept w w2) := hw.out.2.trans k2
        clear k2 c0 c1 c2 c3 c4 c5 c6 c7 C
        go_wp2
        go_roundg (gk - 1)
        all_goals (have := HM.out; try omega)
        exact ⟨k + 1, by go_num, by omega, by omega, HB.out hs, H2.out⟩
      · rw [hs] at C
        go_wp2_with fail
        refine C.mono ?_
        rintro r w2 ⟨rfl, k2⟩
        have H2 : Hid (Kept w w2) := hw.out.2.trans k2
        clear k2 c0 c1 c2 c3 c4 c5 c6 c7 C
        go_wp2
        go_ret
        exact ⟨by rw [HA.out hs]; rfl, H2.out⟩
    · obtain rfl : k = E.length := by omega
      have HN : Hid (idx (fun e => e.th == t) E = -1) := idx_none fun e he => hw.out.1 e (by simpa using he)
      go_wp2
      go_ret
      exact ⟨by rw [HN.out]; rfl, hw.out.2⟩

set_option maxHeartbeats 400000 in
theorem lplace_any {base b : Nat} {v : Value} {E : List Ent} (t : Int) (w : World) (h : LTab w base b v E) :
    Calls Try.prog 103 #[.pointer (some ⟨b, 0, none⟩), .int .i64 t] w fun r w' => r = .returned (.int .i64 (idx (fun e => e.th == t) E)) ∧ Kept w w' := by
  have K := (Kept.refl w).alloc #[.int .i64 t] 3
  obtain ⟨x, d, rfl⟩ := h.ens.row.form
  have c0 := (h.kept K).c0
  have C := index_place _ (h.kept K).ens.row h.few (t := t) (B := w.heap.size) (by simp) (by simp)
  clear h
  have HK : Hid (Kept w _) := K
  clear K
  go_enter Try.func103, Try.ntmps103
  go_wp2_with fail
  refine C.mono ?_
  rintro r w2 ⟨rfl, k2⟩
  have H2 : Hid (Kept w w2) := HK.out.trans k2
  clear k2 c0 C
  go_wp2
  go_ret
  exact ⟨rfl, H2.out⟩

set_option maxHeartbeats 1000000 in
theorem lcopied_any {x : Option Addr} {c : Nat} {N : List Int} (w : World) (hx : Rdi w x N) (hn : N.length ≤ 1000000) :
    Calls Try.prog 120 #[.slice x N.length c] w fun e w' => ∃ y d, e = .returned (.slice y N.length d) ∧ Lst w' w.heap.size (.slice y N.length d) N ∧ Kept w w' := by
  have HX : Hid (Rdi w x N) := hx
  have HL : Hid (Lst w w.heap.size (.slice none 0 0) []) := Lst.nil _ _
  have z1 : w.heap.size ≤ w.heap.size := Nat.le_refl _
  have z2 : ([] : List Int).length + N.length ≤ 1000000 := by simpa using hn
  clear hx hn
  go_enter Try.func120, Try.ntmps120
  go_wp2_with (at_builtin; refine wpList_append_lst (T := []) (N := N) rfl _ _ rfl rfl HL.out z1 rfl rfl HX.out z2 ?_)
  intro v2 w2 l2 m2 f2
  have H2 : Hid (Lst w2 w.heap.size v2 N ∧ Kept w w2) := ⟨by simpa using l2, (Kept.refl w).muts m2 (by simp [Value.ownBlock])⟩
  clear l2 m2 f2 z1 z2
  obtain ⟨y2, d2, rfl⟩ := H2.out.1.form
  go_wp2
  go_ret
  exact ⟨_, _, rfl, H2.out⟩

end Go.Proofs.Ytiigmmmhhpdmdaa

/-
  Contracts of package line: what is told of a request (tell, Of, First).
-/
namespace Go.Proofs.Ytiigmmmhhpdmdaa
open Go.RowKit

/-- Seven cells of one block, laid anew. -/
def World.seven (w : World) (b : Nat) (v0 v1 v2 v3 v4 v5 v6 : Value) : World :=
  ((((((w.setCell ⟨b, 0, none⟩ v0).setCell ⟨b, 1, none⟩ v1).setCell ⟨b, 2, none⟩ v2).setCell ⟨b, 3, none⟩ v3).setCell ⟨b, 4, none⟩ v4).setCell ⟨b, 5, none⟩ v5).setCell ⟨b, 6, none⟩ v6
theorem Blk.seven {w : World} {b : Nat} {u0 u1 u2 u3 u4 u5 u6 : Value} (h : Blk w b [u0, u1, u2, u3, u4, u5, u6]) (v0 v1 v2 v3 v4 v5 v6 : Value) : Blk (World.seven w b v0 v1 v2 v3 v4 v5 v6) b [v0, v1, v2, v3, v4, v5, v6] :=
  ((((((h.set (i := 0) rfl v0).set (i := 1) rfl v1).set (i := 2) rfl v2).set (i := 3) rfl v3).set (i := 4) rfl v4).set (i := 5) rfl v5).set (i := 6) rfl v6
theorem Kept.seven {w w' : World} (h : Kept w w') {b : Nat} (hb : w.heap.size ≤ b) (v0 v1 v2 v3 v4 v5 v6 : Value) : Kept w (World.seven w' b v0 v1 v2 v3 v4 v5 v6) :=
  ((((((h.setCell (a := ⟨b, 0, none⟩) hb v0).setCell (a := ⟨b, 1, none⟩) hb v1).setCell (a := ⟨b, 2, none⟩) hb v2).setCell (a := ⟨b, 3, none⟩) hb v3).setCell (a := ⟨b, 4, none⟩) hb v4).setCell (a := ⟨b, 5, none⟩) hb v5).setCell (a := ⟨b, 6, none⟩) hb v6
theorem mut_seven {w : World} {b : Nat} (v0 v1 v2 v3 v4 v5 v6 : Value) : Mut [b] w (World.seven w b v0 v1 v2 v3 v4 v5 v6) :=
  (((((((Mut.refl [b] w).setCell (p := ⟨b, 0, none⟩) (by simp) v0).setCell (p := ⟨b, 1, none⟩) (by simp) v1).setCell (p := ⟨b, 2, none⟩) (by simp) v2).setCell (p := ⟨b, 3, none⟩) (by simp) v3).setCell (p := ⟨b, 4, none⟩) (by simp) v4).setCell (p := ⟨b, 5, none⟩) (by simp) v5).setCell (p := ⟨b, 6, none⟩) (by simp) v6

def none7 : Ent := ⟨0, 0, 0, 0, 0, 0, none, 0, [], false⟩
/-- A request as it is handed over, what it got lying at y. -/
def Ent.agg (e : Ent) (y : Option Addr) (d : Nat) : Value := .agg #[.int .i64 e.th, .int .i64 e.fr, .int .i64 e.sp, .int .i64 e.st, .int .i64 e.cy, .int .i64 e.pl, .slice y e.G.length d]
/-- What is told of a request, if there is one. -/
def told (o : Option Ent) : Ent := o.getD none7

set_option maxHeartbeats 1000000 in
theorem ltell_no {b : Nat} (i : Int) (w : World) (hi : i < 0) :
    Calls Try.prog 111 #[.pointer (some ⟨b, 0, none⟩), .int .i64 i] w fun r w' => r = .returned (.tuple #[none7.agg none 0, .bool false]) ∧ Kept w w' := by
  go_enter Try.func111, Try.ntmps111
  go_wp2
  (try simp only [Exit.inBlock, Exit.then])
  exact bodyPost_ret_by (results_blk_tmp rfl _ _ w.heap.size [.int .i64 0, .int .i64 0, .int .i64 0, .int .i64 0, .int .i64 0, .int .i64 0, .slice none 0 0] rfl (Blk.new _ _ _) Try.underlying137 (by kernel_rfl)) rfl ⟨rfl, (Kept.refl w).alloc _ _⟩

set_option maxHeartbeats 2000000 in
theorem ltell_yes {base b : Nat} {v : Value} {E : List Ent} {k : Nat} (w : World) (h : LTab w base b v E) (hk : k < E.length) :
    Calls Try.prog 111 #[.pointer (some ⟨b, 0, none⟩), .int .i64 (k : Int)] w fun r w' => ∃ y d, r = .returned (.tuple #[E[k].agg y d, .bool true]) ∧ Rdi w' y E[k].G ∧ (∀ g o, y = some ⟨g, o, none⟩ → w.heap.size ≤ g) ∧ Kept w w' := by
  obtain ⟨g, cap, rfl, _, hg, _⟩ := h.ens.row.here (by omega)
  have hl := h.few
  have hb := h.ltb
  have b0 := h.c0
  obtain ⟨c0, c1, c2, c3, c4, c5, c6, -⟩ := h.ens.row.eight hk
  have hG := h.ens.got _ (List.getElem_mem hk)
  have hS := h.ens.short _ (List.getElem_mem hk)
  have K0 : ∀ A t, Kept w (w.alloc (.cells A t)) := fun A t => (Kept.refl w).alloc A t
  have p0 := fun A t => ((K0 A t).cell hb).trans b0
  have q0 := fun A t => ((K0 A t).cell hg).trans c0
  have q1 := fun A t => ((K0 A t).cell hg).trans c1
  have q2 := fun A t => ((K0 A t).cell hg).trans c2
  have q3 := fun A t => ((K0 A t).cell hg).trans c3
  have q4 := fun A t => ((K0 A t).cell hg).trans c4
  have q5 := fun A t => ((K0 A t).cell hg).trans c5
  have q6 := fun A t => ((K0 A t).cell hg).trans c6
  clear h K0 b0 c0 c1 c2 c3 c4 c5 c6
  generalize E[k] = e at *
  have HG : Hid (Rdi w e.gx e.G ∧ e.G.length ≤ 1000000) := ⟨hG, by omega⟩
  have e0 : ¬ (k : Int) < 0 := by omega
  have e1 : (k : Int) < (E.length : Int) := by omega
  clear hG hS
  go_enter Try.func111, Try.ntmps111
  go_wp2_with fail
  generalize hW0 : w.alloc (Obj.cells #[Value.int .i64 0, .int .i64 0, .int .i64 0, .int .i64 0, .int .i64 0, .int .i64 0, .slice none 0 0] _) = W0
  have z0 : W0.heap.size = w.heap.size + 1 := by rw [← hW0]; simp
  have k0 : Kept w W0 := by rw [← hW0]; exact (Kept.refl w).alloc _ _
  have b0 : Blk W0 w.heap.size [.int .i64 0, .int .i64 0, .int .i64 0, .int .i64 0, .int .i64 0, .int .i64 0, .slice none 0 0] := by rw [← hW0]; exact Blk.new w _ _
  clear hW0
  generalize hW1 : W0.alloc _ = W1
  have b1 : Blk W1 (w.heap.size + 1) [.int .i64 e.th, .int .i64 e.fr, .int .i64 e.sp, .int .i64 e.st, .int .i64 e.cy, .int .i64 e.pl, .slice e.gx e.G.length e.gc] := by rw [← hW1, ← z0]; exact Blk.new W0 _ _
  have k1 : Kept W0 W1 := by rw [← hW1]; exact (Kept.refl W0).alloc _ _
  clear hW1
  refine (lcopied_any _ (HG.out.1.kept (k0.trans k1)) HG.out.2).mono ?_
  rintro r w2 ⟨y, d, rfl, l2, k2⟩
  have B0 := (b0.kept k1).kept k2
  have B1 := b1.kept k2
  have HY : Hid (Rdi w2 y e.G ∧ (∀ g o, y = some ⟨g, o, none⟩ → w.heap.size + 1 < g) ∧ Kept w w2) := ⟨l2.rdi, fun g o q => by
    have h1 := (l2.lt g (by rw [q]; rfl)).1
    have h2 := b1.lt
    omega, (k0.trans k1).trans k2⟩
  have d0 := B0.at 0 rfl
  have d1 := B0.at 1 rfl
  have d2 := B0.at 2 rfl
  have d3 := B0.at 3 rfl
  have d4 := B0.at 4 rfl
  have d5 := B0.at 5 rfl
  have d6 := B0.at 6 rfl
  have f0 := B0.fz
  have f1 := B1.fz
  have m0 := B1.at 0 rfl
  have m1 := B1.at 1 rfl
  have m2 := B1.at 2 rfl
  have m3 := B1.at 3 rfl
  have m4 := B1.at 4 rfl
  have m5 := B1.at 5 rfl
  have m6 := B1.at 6 rfl
  have HB : Hid (Blk w2 w.heap.size [.int .i64 0, .int .i64 0, .int .i64 0, .int .i64 0, .int .i64 0, .int .i64 0, .slice none 0 0]) := B0
  clear k0 k1 k2 b0 b1 B0 B1 z0 l2 q0 q1 q2 q3 q4 q5 q6 p0
  go_wp2
  (try simp only [Exit.inBlock, Exit.then])
  obtain ⟨r2, f2, k2⟩ := HY.out
  have B := (HB.out.set_other (a := ⟨w.heap.size + 1, 6, none⟩) (by simp) (.slice y e.G.length d)).seven (.int .i64 e.th) (.int .i64 e.fr) (.int .i64 e.sp) (.int .i64 e.st) (.int .i64 e.cy) (.int .i64 e.pl) (.slice y e.G.length d)
  have K := (k2.setCell (a := ⟨w.heap.size + 1, 6, none⟩) (by simp) (.slice y e.G.length d)).seven (b := w.heap.size) (Nat.le_refl _) (.int .i64 e.th) (.int .i64 e.fr) (.int .i64 e.sp) (.int .i64 e.st) (.int .i64 e.cy) (.int .i64 e.pl) (.slice y e.G.length d)
  have M : Mut [w.heap.size + 1, w.heap.size] w2 (World.seven (w2.setCell ⟨w.heap.size + 1, 6, none⟩ (.slice y e.G.length d)) w.heap.size (.int .i64 e.th) (.int .i64 e.fr) (.int .i64 e.sp) (.int .i64 e.st) (.int .i64 e.cy) (.int .i64 e.pl) (.slice y e.G.length d)) :=
    ((Mut.refl _ _).setCell (by simp) _).trans ((mut_seven _ _ _ _ _ _ _).wide (by simp))
  unfold World.seven at B K M
  exact bodyPost_ret_by (results_blk_tmp rfl _ _ w.heap.size _ rfl B Try.underlying137 (by kernel_rfl)) rfl ⟨y, d, rfl, r2.muts M (fun g o q => by have := f2 g o q; simp; omega), fun g o q => by have := f2 g o q; omega, K⟩
end Go.Proofs.Ytiigmmmhhpdmdaa

