/-
  The operations of package spolaw11 that came in.
-/
import Derived.Test.YtfddcfmgigaabaaElems
namespace Go.Proofs.Ytfddcfmgigaabaa
open Go.RowKit Go.ChangeShapes Go.WideShapes Go.Deep

structure Op11 where
  k : Int
  n : Int
def Op11.cells (o : Op11) : List Value := [.int .i64 o.k, .int .i64 o.n]
def Ops (w : World) (x : Option Addr) (l : Nat) (L : Nat → Op11) : Prop := Elems w x l 2 (fun i => (L i).cells)
theorem Ops.kept {w w' : World} {x : Option Addr} {l : Nat} {L : Nat → Op11} (h : Ops w x l L) (k : Kept w w') : Ops w' x l L := Elems.kept h k
theorem Ops.at {w : World} {x : Option Addr} {l : Nat} {L : Nat → Op11} (h : Ops w x l L) (hp : 0 < l) : ∃ b o, x = some ⟨b, o, none⟩ ∧ b < w.heap.size ∧ ∀ i, i < l → w.cell? ⟨b, o + i * 2, none⟩ = some (.int .i64 (L i).k) ∧ w.cell? ⟨b, o + i * 2 + 1, none⟩ = some (.int .i64 (L i).n) := by
  obtain ⟨b, o, e, hb, hc⟩ := h hp
  exact ⟨b, o, e, hb, fun i hi => ⟨by simpa using hc i hi 0 _ (by omega) rfl, hc i hi 1 _ (by omega) rfl⟩⟩

section
variable {H : Type} {enc : TypeId × Value → H} {W : World} {sp : Nat → Bool} {held : Bool}

theorem op_open {n : Nat} {cs : List Value} {y : DataW H × List MemPlace} (h : DataW.trod enc Try.prog W 0 sp held n 32 cs = some y) : ∃ q : Op11, cs = q.cells ∧ (IntKind.min .i64 ≤ q.n ∧ q.n ≤ IntKind.max .i64) := by
  obtain ⟨xs, k, _, _, hlen, hxl, hf⟩ := DataW.trod_struct Try.underlying32 h
  have ce : Try.prog.cellsOf 32 = 2 := by kernel_rfl
  have ci : Try.prog.cellsOf 3 = 1 := by kernel_rfl
  rw [ce] at hlen
  match xs, hxl, cs, hlen with
  | [y0, y1], _, [v0, v1], _ =>
    have g0 := hf 0 _ rfl
    have g1 := hf 1 _ rfl
    simp [ci] at g0 g1
    obtain ⟨z0, e0, _⟩ := DataW.trod_int Try.underlying3 g0
    obtain ⟨z1, e1, _, wz⟩ := DataW.trod_int Try.underlying3 g1
    simp at e0 e1
    exact ⟨⟨z0, z1⟩, by simp [Op11.cells, e0, e1], wf_i64 wz⟩

theorem ops_open {x : Option Addr} {l c : Nat} {d : DataW H} {p : List MemPlace} (h : DataW.Trod enc Try.prog W 0 sp held 22 (.slice x l c) d p) : ∃ L, Ops W x l L ∧ ∀ i, i < l → IntKind.min .i64 ≤ (L i).n ∧ (L i).n ≤ IntKind.max .i64 := by
  have ce : Try.prog.cellsOf 32 = 2 := by kernel_rfl
  obtain ⟨V, hV, hr⟩ := elems_open Try.underlying22 (by rw [ce]; omega) h
  rw [ce] at hV
  haveI : Inhabited Op11 := ⟨⟨0, 0⟩⟩
  exact elems_typed Op11.cells (fun q => IntKind.min .i64 ≤ q.n ∧ q.n ≤ IntKind.max .i64) hV fun i hi => by
    obtain ⟨n, y, hy⟩ := hr i hi
    exact op_open hy
end
end Go.Proofs.Ytfddcfmgigaabaa
