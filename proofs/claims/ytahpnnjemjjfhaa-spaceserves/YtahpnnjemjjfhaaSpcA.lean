/-
  A space as plain values, and as it lies in memory: all its blocks bear a colour; what a call leaves.
-/
import Derived.Test.YtahpnnjemjjfhaaTintNew
import Derived.Test.YtahpnnjemjjfhaaPoolD
import Derived.Test.YtahpnnjemjjfhaaSide
import Derived.Test.YtahpnnjemjjfhaaLineE
import Derived.Test.YtahpnnjemjjfhaaCoilB
import Derived.Test.YtahpnnjemjjfhaaCopy20b
import Derived.Test.YtahpnnjemjjfhaaSpn17
namespace Go.Proofs.Ytahpnnjemjjfhaa
open Go.RowKit

/-- A configuration's numbers, and its shapes as they lie in memory. -/
structure Cv where
  n0 : Int
  n1 : Int
  n2 : Int
  n3 : Int
  n4 : Int
  n5 : Int
  n6 : Int
  n7 : Int
  x : Option Addr
  l : Nat
  c : Nat
  S : Nat → Sh
def Cv.Good (C : Cv) : Prop := Go.Proofs.Ytahpnnjemjjfhaa.Good C.n0 C.n1 C.n2 C.n3 C.n4 C.n5 C.n6 C.n7 C.l C.S

/-- Where a space lies: itself, the table and its row, the pool and its row, the line, the coil, the row of stocks, each stock; its copy of the configuration. -/
structure Ad where
  b : Nat
  tb : Nat
  tg : Nat
  pb : Nat
  pg : Nat
  lb : Nat
  kb : Nat
  sb : Nat
  q : Nat → Nat
  C : Cv

/-- A request without the place of what it got. -/
def Ent.nrm (e : Ent) : Ent := { e with gx := none, gc := 0 }

/-- A space as plain values: the table, what is free, who waits, the coil, m stocks of room for most; forced; the count. -/
structure Sp where
  n : Nat
  T : Nat → Fr
  F : Nat → Bool
  E : List Ent
  K : CS
  m : Nat
  most : Nat
  Q : Nat → List Int
  fo : Bool
  ct : Int

def Sp.tick (S : Sp) : Sp := { S with ct := S.ct + 1 }

/-- The blocks that bear a colour. -/
def cols (c : Nat → Nat) (w : World) : List Nat := (List.range w.heap.size).filter fun k => c k != 0
theorem mem_cols {c : Nat → Nat} {w : World} {k : Nat} : k ∈ cols c w ↔ k < w.heap.size ∧ c k ≠ 0 := by simp [cols]

/-- New blocks get a colour; who had one keeps it; all but those that bore a colour is as it was. -/
structure Stp (c : Nat → Nat) (w : World) (c' : Nat → Nat) (w' : World) : Prop where
  same : ∀ k, k < w.heap.size → c' k = c k
  mu : Mut (cols c w) w w'

theorem mut_trans {D E : List Nat} {w w' w'' : World} (h : Mut D w w') (k : Mut E w' w'') (hd : ∀ j, j ∈ E → j < w.heap.size → j ∈ D) : Mut D w w'' :=
  ⟨k.os.trans h.os, k.tape.trans h.tape, k.output.trans h.output, Nat.le_trans h.size k.size, fun i hi hn => (k.block i (Nat.lt_of_lt_of_le hi h.size) fun q => hn (hd i q hi)).trans (h.block i hi hn)⟩
theorem Stp.refl (c : Nat → Nat) (w : World) : Stp c w c w := ⟨fun _ _ => rfl, Mut.refl _ _⟩
theorem Stp.trans {c c' c'' : Nat → Nat} {w w' w'' : World} (h : Stp c w c' w') (k : Stp c' w' c'' w'') : Stp c w c'' w'' :=
  ⟨fun i hi => (k.same i (Nat.lt_of_lt_of_le hi h.mu.size)).trans (h.same i hi), mut_trans h.mu k.mu fun j hj hl => by
    have := (mem_cols.1 hj).2
    rw [h.same j hl] at this
    exact mem_cols.2 ⟨hl, this⟩⟩
/-- Blocks of a colour alone were written. -/
theorem Stp.of {c : Nat → Nat} {w w' : World} {D : List Nat} (m : Mut D w w') (h : ∀ k, k ∈ D → k < w.heap.size → c k ≠ 0) : Stp c w c w' :=
  ⟨fun _ _ => rfl, mut_trans (Mut.refl _ _) m fun j hj hl => mem_cols.2 ⟨hl, h j hj hl⟩⟩
theorem Stp.kept {c : Nat → Nat} {w w' : World} (k : Kept w w') : Stp c w c w' := Stp.of (D := []) k.mut (fun _ h => by cases h)
theorem Stp.not {c c' : Nat → Nat} {w w' : World} (h : Stp c w c' w') {k : Nat} (hk : k < w.heap.size) (h0 : c k = 0) : k ∉ cols c w ∧ c' k = 0 :=
  ⟨fun q => (mem_cols.1 q).2 h0, (h.same k hk).trans h0⟩

/-- New blocks among L get the colour z. -/
def grow (c : Nat → Nat) (w : World) (L : List Nat) (z : Nat) (k : Nat) : Nat := if k < w.heap.size then c k else if k ∈ L then z else 0
theorem grow_old {c : Nat → Nat} {w : World} {L : List Nat} {z k : Nat} (h : k < w.heap.size) : grow c w L z k = c k := by simp [grow, h]
theorem grow_new {c : Nat → Nat} {w : World} {L : List Nat} {z k : Nat} (h : w.heap.size ≤ k) (hl : k ∈ L) : grow c w L z k = z := by simp [grow, Nat.not_lt.2 h, hl]
theorem grow_not {c : Nat → Nat} {w : World} {L : List Nat} {z k : Nat} (h : w.heap.size ≤ k) (hl : k ∉ L) : grow c w L z k = 0 := by simp [grow, Nat.not_lt.2 h, hl]
theorem Stp.grow {c : Nat → Nat} {w w' : World} {D : List Nat} (m : Mut D w w') (h : ∀ k, k ∈ D → k < w.heap.size → c k ≠ 0) (L : List Nat) (z : Nat) : Stp c w (grow c w L z) w' :=
  ⟨fun _ hk => grow_old hk, (Stp.of m h).mu⟩

/-- A space's head block. -/
def Ad.cells (A : Ad) (m : Nat) (fo : Bool) (ct : Int) : List Value := [.pointer (some ⟨A.tb, 0, none⟩), .pointer (some ⟨A.pb, 0, none⟩), .pointer (some ⟨A.lb, 0, none⟩), .pointer (some ⟨A.kb, 0, none⟩),
  .int .i64 A.C.n0, .int .i64 A.C.n1, .int .i64 A.C.n2, .int .i64 A.C.n3, .int .i64 A.C.n4, .int .i64 A.C.n5, .int .i64 A.C.n6, .int .i64 A.C.n7, .slice A.C.x A.C.l A.C.c, .slice (some ⟨A.sb, 0, none⟩) m m, .bool fo, .int .i64 ct]

/-- A space at A, its blocks of the colours 1 (table), 2 (pool), 3 (line), 4 (coil), 5 (itself), 6 (row of stocks), 7 (shapes), 10 + i (stock i). -/
structure SH (w : World) (c : Nat → Nat) (A : Ad) (S : Sp) : Prop where
  head : Own w A.b 70 (A.cells S.m S.fo S.ct)
  tab : Tab w A.tb A.tg S.n S.T
  pool : PTab 104 w A.pb A.pg S.n S.F
  line : ∃ v E, LTab w 0 A.lb v E ∧ E.map Ent.nrm = S.E ∧ ∀ k, k ∈ foot A.lb v E → c k = 3
  coil : CTab 94 w A.kb S.K
  row : w.rowIs A.sb 72 S.m (fun i => .pointer (some ⟨A.q i, 0, none⟩))
  stk : ∀ i, i < S.m → ∃ v, STab 111 w 0 (A.q i) S.most v (S.Q i) ∧ c (A.q i) = 10 + i ∧ ∀ k, v.ownBlock = some k → c k = 10 + i
  shp : Shps w A.C.x A.C.l A.C.S
  shc : ∀ g o, A.C.x = some ⟨g, o, none⟩ → c g = 7
  good : A.C.Good
  n0 : A.C.n0 = S.n
  n1 : A.C.n1 = S.K.s
  ctb : c A.tb = 1
  ctg : c A.tg = 1
  cpb : c A.pb = 2
  cpg : c A.pg = 2
  ckb : c A.kb = 4
  cb : c A.b = 5
  csb : c A.sb = 6
  few : S.m ≤ 16
  low : ∀ k, c k ≠ 0 → k < w.heap.size

section
variable {c c' : Nat → Nat} {w w' : World} {A : Ad} {S : Sp}
/-- A stock that lies apart. -/
theorem stk_muts {D : List Nat} {i most z : Nat} {Q : List Int} {v : Value} (h : STab 111 w 0 (A.q i) most v Q) (hq : c (A.q i) = z) (hv : ∀ k, v.ownBlock = some k → c k = z) (m : Mut D w w') (hd : ∀ k, k ∈ D → c k ≠ z) : STab 111 w' 0 (A.q i) most v Q :=
  h.muts m (fun q => hd _ q hq) fun k hk q => hd k q (hv k hk)
theorem shp_muts {D : List Nat} {x : Option Addr} {l : Nat} {T : Nat → Sh} (h : Shps w x l T) (m : Mut D w w') (hd : ∀ g o, x = some ⟨g, o, none⟩ → g ∉ D) : Shps w' x l T := fun h0 => by
  obtain ⟨b, o, e, hb, hc⟩ := h h0
  exact ⟨b, o, e, Nat.lt_of_lt_of_le hb m.size, fun i hi => ⟨(m.cell hb (hd b o e)).trans (hc i hi).1, (m.cell hb (hd b o e)).trans (hc i hi).2⟩⟩

/-- What bears no colour was written. -/
theorem SH.muts {D : List Nat} (h : SH w c A S) (m : Mut D w w') (hd : ∀ k, k ∈ D → c k = 0) : SH w' c A S := by
  have H : ∀ k z, c k = z → z ≠ 0 → k ∉ D := fun k z e hz q => hz (e.symm.trans (hd k q))
  obtain ⟨v, E, l1, l2, l3⟩ := h.line
  exact ⟨h.head.muts m (H _ _ h.cb (by decide)), h.tab.muts m (H _ _ h.ctb (by decide)) (H _ _ h.ctg (by decide)), h.pool.muts m (H _ _ h.cpb (by decide)) (H _ _ h.cpg (by decide)),
    ⟨v, E, l1.muts m fun k hk => H _ _ (l3 k hk) (by decide), l2, l3⟩, h.coil.muts m (H _ _ h.ckb (by decide)), m.row h.row (H _ _ h.csb (by decide)),
    fun i hi => by
      obtain ⟨v, s1, s2, s3⟩ := h.stk i hi
      exact ⟨v, stk_muts s1 s2 s3 m (fun k hk e => by rw [hd k hk] at e; omega), s2, s3⟩,
    shp_muts h.shp m (fun g o e => H _ _ (h.shc g o e) (by decide)), h.shc, h.good, h.n0, h.n1, h.ctb, h.ctg, h.cpb, h.cpg, h.ckb, h.cb, h.csb, h.few, fun k hk => Nat.lt_of_lt_of_le (h.low k hk) m.size⟩
theorem SH.kept (h : SH w c A S) (k : Kept w w') : SH w' c A S := h.muts (D := []) k.mut (fun _ q => by cases q)
theorem SH.new (h : SH w c A S) {k : Nat} (hk : w.heap.size ≤ k) : c k = 0 := by
  by_cases e : c k = 0
  · exact e
  · have := h.low k e; omega
/-- The table alone was written. -/
theorem SH.tabs (h : SH w c A S) {T : Nat → Fr} (t : Tab w' A.tb A.tg S.n T) (m : Mut [A.tg] w w') : SH w' c A { S with T := T } := by
  have H : ∀ k z, c k = z → z ≠ 1 → k ∉ [A.tg] := fun k z e hz q => by
    simp only [List.mem_singleton] at q
    subst q
    exact hz (e.symm.trans h.ctg)
  obtain ⟨v, E, l1, l2, l3⟩ := h.line
  exact ⟨h.head.muts m (H _ _ h.cb (by decide)), t, h.pool.muts m (H _ _ h.cpb (by decide)) (H _ _ h.cpg (by decide)),
    ⟨v, E, l1.muts m fun k hk => H _ _ (l3 k hk) (by decide), l2, l3⟩, h.coil.muts m (H _ _ h.ckb (by decide)), m.row h.row (H _ _ h.csb (by decide)),
    fun i hi => by
      obtain ⟨v, s1, s2, s3⟩ := h.stk i hi
      exact ⟨v, stk_muts s1 s2 s3 m (fun k hk e => H _ _ e (by omega) hk), s2, s3⟩,
    shp_muts h.shp m (fun g o e => H _ _ (h.shc g o e) (by decide)), h.shc, h.good, h.n0, h.n1, h.ctb, h.ctg, h.cpb, h.cpg, h.ckb, h.cb, h.csb, h.few, fun k hk => Nat.lt_of_lt_of_le (h.low k hk) m.size⟩
theorem SH.stpt (h : SH w c A S) (m : Mut [A.tg] w w') : Stp c w c w' := Stp.of m fun k hk _ => by
  simp only [List.mem_singleton] at hk
  rw [hk, h.ctg]; decide
/-- The pool alone was written. -/
theorem SH.pools (h : SH w c A S) {F : Nat → Bool} (t : PTab 104 w' A.pb A.pg S.n F) (m : Mut [A.pg] w w') : SH w' c A { S with F := F } := by
  have H : ∀ k z, c k = z → z ≠ 2 → k ∉ [A.pg] := fun k z e hz q => by
    simp only [List.mem_singleton] at q
    subst q
    exact hz (e.symm.trans h.cpg)
  obtain ⟨v, E, l1, l2, l3⟩ := h.line
  exact ⟨h.head.muts m (H _ _ h.cb (by decide)), h.tab.muts m (H _ _ h.ctb (by decide)) (H _ _ h.ctg (by decide)), t,
    ⟨v, E, l1.muts m fun k hk => H _ _ (l3 k hk) (by decide), l2, l3⟩, h.coil.muts m (H _ _ h.ckb (by decide)), m.row h.row (H _ _ h.csb (by decide)),
    fun i hi => by
      obtain ⟨v, s1, s2, s3⟩ := h.stk i hi
      exact ⟨v, stk_muts s1 s2 s3 m (fun k hk e => H _ _ e (by omega) hk), s2, s3⟩,
    shp_muts h.shp m (fun g o e => H _ _ (h.shc g o e) (by decide)), h.shc, h.good, h.n0, h.n1, h.ctb, h.ctg, h.cpb, h.cpg, h.ckb, h.cb, h.csb, h.few, fun k hk => Nat.lt_of_lt_of_le (h.low k hk) m.size⟩
theorem SH.stpp (h : SH w c A S) (m : Mut [A.pg] w w') : Stp c w c w' := Stp.of m fun k hk _ => by
  simp only [List.mem_singleton] at hk
  rw [hk, h.cpg]; decide
/-- The coil alone was written. -/
theorem SH.coils (h : SH w c A S) {K : CS} (t : CTab 94 w' A.kb K) (e : K.s = S.K.s) (m : Mut [A.kb] w w') : SH w' c A { S with K := K } := by
  have H : ∀ k z, c k = z → z ≠ 4 → k ∉ [A.kb] := fun k z e hz q => by
    simp only [List.mem_singleton] at q
    subst q
    exact hz (e.symm.trans h.ckb)
  obtain ⟨v, E, l1, l2, l3⟩ := h.line
  exact ⟨h.head.muts m (H _ _ h.cb (by decide)), h.tab.muts m (H _ _ h.ctb (by decide)) (H _ _ h.ctg (by decide)), h.pool.muts m (H _ _ h.cpb (by decide)) (H _ _ h.cpg (by decide)),
    ⟨v, E, l1.muts m fun k hk => H _ _ (l3 k hk) (by decide), l2, l3⟩, t, m.row h.row (H _ _ h.csb (by decide)),
    fun i hi => by
      obtain ⟨v, s1, s2, s3⟩ := h.stk i hi
      exact ⟨v, stk_muts s1 s2 s3 m (fun k hk e => H _ _ e (by omega) hk), s2, s3⟩,
    shp_muts h.shp m (fun g o e => H _ _ (h.shc g o e) (by decide)), h.shc, h.good, h.n0, h.n1.trans (by rw [e]), h.ctb, h.ctg, h.cpb, h.cpg, h.ckb, h.cb, h.csb, h.few, fun k hk => Nat.lt_of_lt_of_le (h.low k hk) m.size⟩
theorem SH.stpk (h : SH w c A S) (m : Mut [A.kb] w w') : Stp c w c w' := Stp.of m fun k hk _ => by
  simp only [List.mem_singleton] at hk
  rw [hk, h.ckb]; decide
/-- Its head alone was written. -/
theorem SH.heads (h : SH w c A S) {fo : Bool} {ct : Int} (t : Own w' A.b 70 (A.cells S.m fo ct)) (m : Mut [A.b] w w') : SH w' c A { S with fo := fo, ct := ct } := by
  have H : ∀ k z, c k = z → z ≠ 5 → k ∉ [A.b] := fun k z e hz q => by
    simp only [List.mem_singleton] at q
    subst q
    exact hz (e.symm.trans h.cb)
  obtain ⟨v, E, l1, l2, l3⟩ := h.line
  exact ⟨t, h.tab.muts m (H _ _ h.ctb (by decide)) (H _ _ h.ctg (by decide)), h.pool.muts m (H _ _ h.cpb (by decide)) (H _ _ h.cpg (by decide)),
    ⟨v, E, l1.muts m fun k hk => H _ _ (l3 k hk) (by decide), l2, l3⟩, h.coil.muts m (H _ _ h.ckb (by decide)), m.row h.row (H _ _ h.csb (by decide)),
    fun i hi => by
      obtain ⟨v, s1, s2, s3⟩ := h.stk i hi
      exact ⟨v, stk_muts s1 s2 s3 m (fun k hk e => H _ _ e (by omega) hk), s2, s3⟩,
    shp_muts h.shp m (fun g o e => H _ _ (h.shc g o e) (by decide)), h.shc, h.good, h.n0, h.n1, h.ctb, h.ctg, h.cpb, h.cpg, h.ckb, h.cb, h.csb, h.few, fun k hk => Nat.lt_of_lt_of_le (h.low k hk) m.size⟩
theorem SH.stph (h : SH w c A S) (m : Mut [A.b] w w') : Stp c w c w' := Stp.of m fun k hk _ => by
  simp only [List.mem_singleton] at hk
  rw [hk, h.cb]; decide
/-- The count, one higher. -/
theorem SH.ticks (h : SH w c A S) : SH (w.setCell ⟨A.b, 15, none⟩ (.int .i64 (S.ct + 1))) c A S.tick :=
  h.heads (fo := S.fo) (ct := S.ct + 1) (h.head.set 15 _) ((Mut.refl _ _).setCell (by simp) _)

/-- The line alone was written. -/
theorem SH.lines {v v' : Value} {E E' : List Ent} {D : List Nat} (h : SH w c A S) (hf : ∀ k, k ∈ foot A.lb v E → c k = 3) (t : LTab w' 0 A.lb v' E') (m : Mut D w w') (hD : ∀ k, k ∈ D → k ∈ foot A.lb v E) (hn : ∀ k, k ∈ foot A.lb v' E' → k ∈ foot A.lb v E ∨ w.heap.size ≤ k) :
    SH w' (grow c w (foot A.lb v' E') 3) A { S with E := E'.map Ent.nrm } ∧ Stp c w (grow c w (foot A.lb v' E') 3) w' := by
  have hD3 : ∀ k, k ∈ D → c k = 3 := fun k hk => hf k (hD k hk)
  have H : ∀ k z, c k = z → z ≠ 3 → k ∉ D := fun k z e hz q => hz (e.symm.trans (hD3 k q))
  have G : ∀ k z, c k = z → z ≠ 0 → grow c w (foot A.lb v' E') 3 k = z := fun k z e hz => (grow_old (h.low k (by omega))).trans e
  refine ⟨⟨h.head.muts m (H _ _ h.cb (by decide)), h.tab.muts m (H _ _ h.ctb (by decide)) (H _ _ h.ctg (by decide)), h.pool.muts m (H _ _ h.cpb (by decide)) (H _ _ h.cpg (by decide)),
    ⟨v', E', t, rfl, fun k hk => ?_⟩, h.coil.muts m (H _ _ h.ckb (by decide)), m.row h.row (H _ _ h.csb (by decide)),
    fun i hi => ?_, shp_muts h.shp m (fun g o e => H _ _ (h.shc g o e) (by decide)), fun g o e => G _ _ (h.shc g o e) (by decide), h.good, h.n0, h.n1, G _ _ h.ctb (by decide), G _ _ h.ctg (by decide), G _ _ h.cpb (by decide), G _ _ h.cpg (by decide), G _ _ h.ckb (by decide), G _ _ h.cb (by decide), G _ _ h.csb (by decide), h.few, fun k hk => ?_⟩, Stp.grow m (fun k hk _ => by rw [hD3 k hk]; decide) _ _⟩
  · rcases hn k hk with q | q
    · exact G _ _ (hf k q) (by decide)
    · exact grow_new q hk
  · obtain ⟨v, s1, s2, s3⟩ := h.stk i hi
    exact ⟨v, stk_muts s1 s2 s3 m (fun k hk e => H _ _ e (by omega) hk), G _ _ s2 (by omega), fun k hk => G _ _ (s3 k hk) (by omega)⟩
  · by_cases q : k < w.heap.size
    · exact Nat.lt_of_lt_of_le q m.size
    · by_cases q2 : k ∈ foot A.lb v' E'
      · exact (t.lt k q2).2
      · exact absurd (grow_not (by omega) q2) hk

/-- One stock alone was written. -/
theorem SH.stks {v v' : Value} {L : List Int} {D : List Nat} {i : Nat} (h : SH w c A S) (hi : i < S.m) (hq : c (A.q i) = 10 + i) (hv : ∀ k, v.ownBlock = some k → c k = 10 + i) (t : STab 111 w' 0 (A.q i) S.most v' L) (m : Mut D w w')
    (hD : ∀ k, k ∈ D → k ∈ A.q i :: v.ownBlock.toList) (hn : Fresh w v v') :
    SH w' (grow c w v'.ownBlock.toList (10 + i)) A { S with Q := fun j => if j = i then L else S.Q j } ∧ Stp c w (grow c w v'.ownBlock.toList (10 + i)) w' := by
  have hD3 : ∀ k, k ∈ D → c k = 10 + i := fun k hk => by
    have := hD k hk
    simp only [List.mem_cons, Option.mem_toList] at this
    rcases this with rfl | this
    · exact hq
    · exact hv k this
  have H : ∀ k z, c k = z → z ≠ 10 + i → k ∉ D := fun k z e hz q => hz (e.symm.trans (hD3 k q))
  have G : ∀ k z, c k = z → z ≠ 0 → grow c w v'.ownBlock.toList (10 + i) k = z := fun k z e hz => (grow_old (h.low k (by omega))).trans e
  obtain ⟨lv, E, l1, l2, l3⟩ := h.line
  refine ⟨⟨h.head.muts m (H _ _ h.cb (by omega)), h.tab.muts m (H _ _ h.ctb (by omega)) (H _ _ h.ctg (by omega)), h.pool.muts m (H _ _ h.cpb (by omega)) (H _ _ h.cpg (by omega)),
    ⟨lv, E, l1.muts m fun k hk => H _ _ (l3 k hk) (by omega), l2, fun k hk => G _ _ (l3 k hk) (by decide)⟩, h.coil.muts m (H _ _ h.ckb (by omega)), m.row h.row (H _ _ h.csb (by omega)),
    fun j hj => ?_, shp_muts h.shp m (fun g o e => H _ _ (h.shc g o e) (by omega)), fun g o e => G _ _ (h.shc g o e) (by decide), h.good, h.n0, h.n1, G _ _ h.ctb (by decide), G _ _ h.ctg (by decide), G _ _ h.cpb (by decide), G _ _ h.cpg (by decide), G _ _ h.ckb (by decide), G _ _ h.cb (by decide), G _ _ h.csb (by decide), h.few, fun k hk => ?_⟩, Stp.grow m (fun k hk _ => by rw [hD3 k hk]; omega) _ _⟩
  · by_cases e : j = i
    · subst e
      refine ⟨v', by simpa using t, G _ _ hq (by omega), fun k hk => ?_⟩
      rcases hn k hk with q | q
      · exact G _ _ (hv k q) (by omega)
      · exact grow_new q (by simp [hk])
    · obtain ⟨u, s1, s2, s3⟩ := h.stk j hj
      have e2 : S.Q j = if j = i then L else S.Q j := by simp [e]
      exact ⟨u, by simpa [e] using stk_muts s1 s2 s3 m (fun k hk e => H _ _ e (by omega) hk), G _ _ s2 (by omega), fun k hk => G _ _ (s3 k hk) (by omega)⟩
  · by_cases q : k < w.heap.size
    · exact Nat.lt_of_lt_of_le q m.size
    · by_cases q2 : k ∈ v'.ownBlock.toList
      · exact (t.own k (by simp at q2 ⊢; exact .inr q2)).2
      · exact absurd (grow_not (by omega) q2) hk
end
end Go.Proofs.Ytahpnnjemjjfhaa
