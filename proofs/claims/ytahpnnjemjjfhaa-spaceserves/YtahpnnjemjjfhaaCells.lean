/-
  Blocks of the call's own, known whole; what a call leaves that writes into some blocks alone ('Mut D').
-/
import Derived.Test.YtahpnnjemjjfhaaKept
import Derived.OneCell
import Derived.Outline
import Derived.Deep.OwnRows
import Derived.Laws.Rows
namespace Go.Proofs.Ytahpnnjemjjfhaa
open Go.RowKit

/-- A block's first cells, none of them frozen. -/
structure Blk (w : World) (b : Nat) (L : List Value) : Prop where
  lt : b < w.heap.size
  fz : ∀ i, w.frozen? ⟨b, i, none⟩ = false
  cells : ∀ i v, L[i]? = some v → w.cell? ⟨b, i, none⟩ = some v

theorem Blk.at {w : World} {b : Nat} {L : List Value} (h : Blk w b L) (i : Nat) {v : Value} (e : L[i]? = some v) : w.cell? ⟨b, i, none⟩ = some v := h.cells i v e
theorem Blk.kept {w w' : World} {b : Nat} {L : List Value} (h : Blk w b L) (k : Kept w w') : Blk w' b L :=
  ⟨Nat.lt_of_lt_of_le h.lt k.size, fun i => (k.frozen h.lt).trans (h.fz i), fun i v e => (k.cell h.lt).trans (h.cells i v e)⟩
theorem Blk.new (w : World) (L : List Value) (t : TypeId) : Blk (w.alloc (.cells L.toArray t)) w.heap.size L :=
  ⟨by simp, fun i => by simp, fun i v e => by simp [e]⟩
theorem Blk.set {w : World} {b : Nat} {L : List Value} (h : Blk w b L) {i : Nat} {u : Value} (hi : L[i]? = some u) (v : Value) : Blk (w.setCell ⟨b, i, none⟩ v) b (L.set i v) := by
  have hlt : i < L.length := by
    rcases Nat.lt_or_ge i L.length with g | g
    · exact g
    · rw [List.getElem?_eq_none g] at hi; cases hi
  refine ⟨by simpa using h.lt, fun j => (World.frozen?_setCell _ _ _ _).trans (h.fz j), fun j x e => ?_⟩
  by_cases hj : i = j
  · subst hj
    rw [List.getElem?_set_self hlt] at e
    obtain rfl : v = x := by simpa using e
    exact World.cell?_setCell_same _ _ _ (h.cells i u hi)
  · rw [List.getElem?_set_ne hj] at e
    exact (World.cell?_setCell_other w ⟨b, i, none⟩ ⟨b, j, none⟩ v (fun q => hj (congrArg Addr.off q))).trans (h.cells j x e)

/-- All but the blocks of D is as it was; blocks may be new. -/
structure Mut (D : List Nat) (w w' : World) : Prop where
  os : w'.os = w.os
  tape : w'.tape = w.tape
  output : w'.output = w.output
  size : w.heap.size ≤ w'.heap.size
  block : ∀ k, k < w.heap.size → k ∉ D → w'.heap[k]? = w.heap[k]?

section
variable {D E : List Nat} {a w w' w'' : World}

theorem Mut.refl (D : List Nat) (w : World) : Mut D w w := ⟨rfl, rfl, rfl, Nat.le_refl _, fun _ _ _ => rfl⟩
theorem Mut.trans (h : Mut D w w') (k : Mut D w' w'') : Mut D w w'' :=
  ⟨k.os.trans h.os, k.tape.trans h.tape, k.output.trans h.output, Nat.le_trans h.size k.size, fun i hi hd => (k.block i (Nat.lt_of_lt_of_le hi h.size) hd).trans (h.block i hi hd)⟩
theorem Mut.wide (h : Mut D w w') (hd : ∀ k, k ∈ D → k ∈ E) : Mut E w w' := ⟨h.os, h.tape, h.output, h.size, fun i hi he => h.block i hi fun q => he (hd i q)⟩
theorem Mut.drew (h : Mut D w w') : Mut D w w'.drew := ⟨h.os, h.tape, h.output, h.size, h.block⟩
theorem Mut.alloc (h : Mut D w w') (o : Obj) : Mut D w (w'.alloc o) :=
  h.trans ⟨rfl, rfl, rfl, by simp, fun k hk _ => Below.heap_alloc _ _ _ hk⟩
theorem Mut.setCell (h : Mut D w w') {p : Addr} (hp : p.block ∈ D) (u : Value) : Mut D w (w'.setCell p u) :=
  h.trans ⟨rfl, rfl, rfl, by simp [World.setCell], fun k _ hd => Below.heap_setCell _ _ _ _ fun e => hd (e ▸ hp)⟩
theorem Kept.mut (h : Kept w w') : Mut D w w' := ⟨h.below.os, h.below.tape, h.below.output, h.size, fun k hk _ => h.below.block k hk⟩
/-- What was there at first is kept, where only blocks of one's own were written. -/
theorem Kept.muts (h : Kept a w) (m : Mut D w w') (hd : ∀ k, k ∈ D → a.heap.size ≤ k) : Kept a w' :=
  ⟨h.below.trans ⟨m.os, m.tape, m.output, m.size, fun k hk => m.block k (Nat.lt_of_lt_of_le hk h.size) fun q => by have := hd k q; omega⟩⟩
theorem Mut.cell (m : Mut D w w') {p : Addr} (hp : p.block < w.heap.size) (hd : p.block ∉ D) : w'.cell? p = w.cell? p := World.cell?_of_block (w := w) (m.block p.block hp hd)
theorem Mut.frozen (m : Mut D w w') {p : Addr} (hp : p.block < w.heap.size) (hd : p.block ∉ D) : w'.frozen? p = w.frozen? p := World.frozen?_of_block (w := w) (m.block p.block hp hd)
theorem Blk.muts {b : Nat} {L : List Value} (h : Blk w b L) (m : Mut D w w') (hd : b ∉ D) : Blk w' b L :=
  ⟨Nat.lt_of_lt_of_le h.lt m.size, fun i => (m.frozen h.lt hd).trans (h.fz i), fun i v e => (m.cell h.lt hd).trans (h.cells i v e)⟩
theorem Kept.row (k : Kept w w') {b n : Nat} {t : TypeId} {f : Nat → Value} (h : w.rowIs b t n f) : w'.rowIs b t n f := h.of_block (k.below.block b h.lt)
theorem Mut.row (m : Mut D w w') {b n : Nat} {t : TypeId} {f : Nat → Value} (h : w.rowIs b t n f) (hd : b ∉ D) : w'.rowIs b t n f := h.of_block (m.block b h.lt hd)
end

/-- Block b, known whole; none of its cells frozen. -/
def Own (w : World) (b : Nat) (t : TypeId) (L : List Value) : Prop := w.heap[b]? = some (.cells L.toArray t (0, 0))

section
variable {w w' : World} {b : Nat} {t : TypeId} {L : List Value}

theorem Own.lt (h : Own w b t L) : b < w.heap.size := lt_of_block h
theorem Own.blk (h : Own w b t L) : Blk w b L := by
  unfold Own at h
  exact ⟨lt_of_block h, fun i => by simp [World.frozen?, h], fun i v e => by simp [World.cell?, h, e]⟩
theorem Own.new (w : World) (L : List Value) (t : TypeId) : Own (w.alloc (.cells L.toArray t)) w.heap.size t L := heap_alloc_new w _
theorem Own.set (h : Own w b t L) (i : Nat) (v : Value) : Own (w.setCell ⟨b, i, none⟩ v) b t (L.set i v) := by
  unfold Own at *
  simp [World.setCell, Array.getElem?_modify, h]
theorem Own.kept (h : Own w b t L) (k : Kept w w') : Own w' b t L := (k.below.block b h.lt).trans h
theorem Own.muts {D : List Nat} (h : Own w b t L) (m : Mut D w w') (hd : b ∉ D) : Own w' b t L := (m.block b h.lt hd).trans h
theorem Own.alloc (h : Own w b t L) (o : Obj) : Own (w.alloc o) b t L := (heap_alloc_old w o h.lt).trans h
theorem Own.set_other (h : Own w b t L) {a : Addr} (ha : a.block ≠ b) (v : Value) : Own (w.setCell a v) b t L := (Below.heap_setCell w a v b (Ne.symm ha)).trans h
/-- A row of other elements is another block. -/
theorem Own.ne {g n : Nat} {e : TypeId} {f : Nat → Value} (h : Own w b t L) (r : w.rowIs g e n f) (ht : t ≠ e) : b ≠ g := by
  rintro rfl
  obtain ⟨c, hc, _⟩ := r
  unfold Own at h
  rw [hc] at h
  simp only [Option.some.injEq, Obj.cells.injEq] at h
  exact ht h.2.1.symm
end
end Go.Proofs.Ytahpnnjemjjfhaa
