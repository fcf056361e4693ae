/-
  Blocks of the call's own, known whole; a row that is appended to.
-/
import Derived.Test.YtpeplgiofiikhaaCopy
import Derived.OneCell
namespace Go.Proofs.Ytpeplgiofiikhaa
open Go.RowKit

/-- Block b, known whole; none of its cells frozen. -/
def Own (w : World) (b : Nat) (t : TypeId) (L : List Value) : Prop := w.heap[b]? = some (.cells L.toArray t (0, 0))

section
variable {w w' : World} {b : Nat} {t : TypeId} {L : List Value}

theorem Own.lt (h : Own w b t L) : b < w.heap.size := lt_of_block h
theorem Own.blk (h : Own w b t L) : Blk w b L := by
  unfold Own at h
  exact ⟨lt_of_block h, fun i => by simp [World.frozen?, h], fun i v e => by simp [World.cell?, h, e]⟩
theorem Own.new (w : World) (L : List Value) (t : TypeId) : Own (w.alloc (.cells L.toArray t)) w.heap.size t L := heap_alloc_new w _
theorem Own.set (h : Own w b t L) (i : Nat) (v : Value) : Own (w.setCell ⟨b, i, none⟩ v) b t (L.set i v) := by
  unfold Own at *
  simp [World.setCell, Array.getElem?_modify, h]
theorem Own.kept (h : Own w b t L) (k : Kept w w') : Own w' b t L := (k.below.block b h.lt).trans h
theorem Own.alloc (h : Own w b t L) (o : Obj) : Own (w.alloc o) b t L := (heap_alloc_old w o h.lt).trans h
theorem Own.grown {row : Option Nat} (h : Own w b t L) (hg : w.grownBy w' row) (hr : row ≠ some b) : Own w' b t L := (hg.block b h.lt (Ne.symm hr)).trans h
theorem Own.set_other (h : Own w b t L) {a : Addr} (ha : a.block ≠ b) (v : Value) : Own (w.setCell a v) b t L := (Below.heap_setCell w a v b (Ne.symm ha)).trans h

/-- A row of other elements is another block. -/
theorem Own.ne {base : Nat} {e : TypeId} {size : Nat} {v : Value} {n : Nat} {xs : List Value} (h : Own w b t L) (hr : w.ownsRow base e size v n xs) (ht : t ≠ e) : v.ownBlock ≠ some b := by
  rcases hr.2 with ⟨rfl, _⟩ | ⟨g, cap, cur, rfl, _, hg, _⟩
  · simp [Value.ownBlock]
  · intro hb
    simp only [Value.ownBlock, Option.some.injEq] at hb
    subst hb
    unfold Own at h
    rw [hg] at h
    simp only [Option.some.injEq, Obj.cells.injEq] at h
    exact ht h.2.1.symm
end

/-- What a row that is appended to looks like, once something is in it. -/
theorem owns_some {w : World} {base : Nat} {e : TypeId} {size : Nat} {v : Value} {n : Nat} {xs : List Value} (h : w.ownsRow base e size v n xs) (hn : 0 < n) : ∃ g cap, v = .slice (some ⟨g, 0, none⟩) n cap ∧ base ≤ g := by
  rcases h.2 with ⟨_, h0⟩ | ⟨g, cap, cur, hv, hb, _⟩
  · omega
  · exact ⟨g, cap, hv, hb⟩

/-- A row of shapes is one that may be appended to. -/
theorem row_owns {w : World} {g : Nat} {t : TypeId} {l base : Nat} {T : Nat → Sh} (h : w.rowIs g t (l * 2) (cf T)) (hb : base ≤ g) (hl : l ≤ 1000000) :
    w.ownsRow base t 2 (.slice (some ⟨g, 0, none⟩) l l) l ((List.range (l * 2)).map (cf T)) := by
  obtain ⟨c, hc, hs, hf⟩ := h
  refine ⟨by simp, .inr ⟨g, l, c, rfl, hb, hc, Nat.le_refl _, by unfold maxLen; omega, hs, ?_⟩⟩
  apply List.ext_getElem?
  intro i
  by_cases hi : i < l * 2
  · rw [List.getElem?_take, if_pos hi, Array.getElem?_toList, hf i hi]
    simp [hi]
  · rw [List.getElem?_take, if_neg hi]
    simp [hi]

/-- A row of shapes to which one was appended. -/
theorem owns_shps {w : World} {g : Nat} {t : TypeId} {l base cap : Nat} {T : Nat → Sh} (h : w.ownsRow base t 2 (.slice (some ⟨g, 0, none⟩) (l + 1) cap) (l + 1) ((List.range (l * 2)).map (cf T) ++ [.bool false, .slice none 0 0])) :
    Shps w (some ⟨g, 0, none⟩) (l + 1) (fun i => if i = l then ⟨false, none, 0, 0⟩ else T i) := fun _ => by
  have hlt : g < w.heap.size := by
    rcases h.2 with ⟨h', _⟩ | ⟨g', cap', cur, h', _, hg, _⟩
    · simp at h'
    · simp only [Value.slice.injEq, Option.some.injEq, Addr.mk.injEq, and_true, true_and] at h'
      obtain ⟨rfl, rfl⟩ := h'
      exact lt_of_block hg
  refine ⟨g, 0, rfl, hlt, fun i hi => ?_⟩
  have h0 := h.cellAt (i * 2) (by omega)
  have h1 := h.cellAt (i * 2 + 1) (by omega)
  simp only [Nat.zero_add]
  rw [h0, h1]
  by_cases e : i = l
  · subst e
    rw [List.getElem?_append_right (by simp), List.getElem?_append_right (by simp)]
    simp
  · have l0 : i * 2 < l * 2 := by omega
    have l1 : i * 2 + 1 < l * 2 := by omega
    rw [List.getElem?_append_left (by simpa using l0), List.getElem?_append_left (by simpa using l1)]
    simp [e, l0, l1, cf_0, cf_1]

/-- The first shape of a row, whose first cell is laid anew, gets its second. -/
theorem row_first {w : World} {g : Nat} {t : TypeId} {l : Nat} {T : Nat → Sh} (s : Sh) (h : w.rowIs g t (l * 2) (fun j => if j = 0 then .bool s.arr else cf T j)) :
    (w.setCell ⟨g, 1, none⟩ (.slice s.x s.l s.c)).rowIs g t (l * 2) (cf fun i => if i = 0 then s else T i) := by
  refine (h.set 1 (.slice s.x s.l s.c)).congr fun j _ => ?_
  by_cases e1 : j = 1
  · subst e1
    simp [cf]
  · by_cases e0 : j = 0
    · subst e0
      simp [cf]
    · have : j / 2 ≠ 0 := by omega
      simp [cf, e0, e1, this]

/-- What was copied may be if the other may. -/
theorem cop_mays {w : World} {g l : Nat} {S T : Nat → Sh} {R : Nat → Nat → Bool} (h : ∀ i, i < l → Cop w g (S i) (T i) (R i)) (m : Mays l S) : Mays l T := by
  refine ⟨m.1, m.2.1, fun i hi => ?_⟩
  obtain ⟨h0, h1, _⟩ := h i hi
  have := m.2.2 i hi
  unfold Sh.may at *
  rwa [h0, h1]

end Go.Proofs.Ytpeplgiofiikhaa
