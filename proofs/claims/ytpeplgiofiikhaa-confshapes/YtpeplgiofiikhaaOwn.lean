/-
  Blocks of the call's own, known whole; a row that is appended to.
-/
import Derived.Test.YtpeplgiofiikhaaCopy
import Derived.OneCell
namespace Go.Proofs.Ytpeplgiofiikhaa
open Go.RowKit

/-- Block b, known whole; none of its cells frozen. -/
def Own (w : World) (b : Nat) (t : TypeId) (L : List Value) : Prop := w.heap[b]? = some (.cells L.toArray t (0, 0))

section
variable {w w' : World} {b : Nat} {t : TypeId} {L : List Value}

theorem Own.lt (h : Own w b t L) : b < w.heap.size := lt_of_block h
theorem Own.blk (h : Own w b t L) : Blk w b L := by
  unfold Own at h
  exact ⟨lt_of_block h, fun i => by simp [World.frozen?, h], fun i v e => by simp [World.cell?, h, e]⟩
theorem Own.new (w : World) (L : List Value) (t : TypeId) : Own (w.alloc (.cells L.toArray t)) w.heap.size t L := heap_alloc_new w _
theorem Own.set (h : Own w b t L) (i : Nat) (v : Value) : Own (w.setCell ⟨b, i, none⟩ v) b t (L.set i v) := by
  unfold Own at *
  simp [World.setCell, Array.getElem?_modify, h]
theorem Own.kept (h : Own w b t L) (k : Kept w w') : Own w' b t L := (k.below.block b h.lt).trans h
theorem Own.alloc (h : Own w b t L) (o : Obj) : Own (w.alloc o) b t L := (heap_alloc_old w o h.lt).trans h
theorem Own.grown {row : Option Nat} (h : Own w b t L) (hg : w.grownBy w' row) (hr : row ≠ some b) : Own w' b t L := (hg.block b h.lt (Ne.symm hr)).trans h
theorem Own.set_other (h : Own w b t L) {a : Addr} (ha : a.block ≠ b) (v : Value) : Own (w.setCell a v) b t L := (Below.heap_setCell w a v b (Ne.symm ha)).trans h

/-- A row of other elements is another block. -/
theorem Own.ne {base : Nat} {e : TypeId} {size : Nat} {v : Value} {n : Nat} {xs : List Value} (h : Own w b t L) (hr : w.ownsRow base e size v n xs) (ht : t ≠ e) : v.ownBlock ≠ some b := by
  rcases hr.2 with ⟨rfl, _⟩ | ⟨g, cap, cur, rfl, _, hg, _⟩
  · simp [Value.ownBlock]
  · intro hb
    simp only [Value.ownBlock, Option.some.injEq] at hb
    subst hb
    unfold Own at h
    rw [hg] at h
    simp only [Option.some.injEq, Obj.cells.injEq] at h
    exact ht h.2.1.symm
end

/-- What a row that is appended to looks like, once something is in it. -/
theorem owns_some {w : World} {base : Nat} {e : TypeId} {size : Nat} {v : Value} {n : Nat} {xs : List Value} (h : w.ownsRow base e size v n xs) (hn : 0 < n) : ∃ g cap, v = .slice (some ⟨g, 0, none⟩) n cap ∧ base ≤ g := by
  rcases h.2 with ⟨_, h0⟩ | ⟨g, cap, cur, hv, hb, _⟩
  · omega
  · exact ⟨g, cap, hv, hb⟩

/-- A row of shapes is one that may be appended to. -/
theorem row_owns {w : World} {g : Nat} {t : TypeId} {l base : Nat} {T : Nat → Sh} (h : w.rowIs g t (l * 2) (cf T)) (hb : base ≤ g) (hl : l ≤ 1000000) :
    w.ownsRow base t 2 (.slice (some ⟨g, 0, none⟩) l l) l ((List.range (l * 2)).map (cf T)) := by
  obtain ⟨c, hc, hs, hf⟩ := h
  refine ⟨by simp, .inr ⟨g, l, c, rfl, hb, hc, Nat.le_refl _, by unfold maxLen; omega, hs, ?_⟩⟩
  apply List.ext_getElem?
  intro i
  by_cases hi : i < l * 2
  · rw [List.getElem?_take, if_pos hi, Array.getElem?_toList, hf i hi]
    simp [hi]
  · rw [List.getElem?_take, if_neg hi]
    simp [hi]

end Go.Proofs.Ytpeplgiofiikhaa
