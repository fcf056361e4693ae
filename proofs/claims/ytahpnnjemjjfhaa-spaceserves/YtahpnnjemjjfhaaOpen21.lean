/-
  The operations of package spolaw21 that came in.
-/
import Derived.Test.YtahpnnjemjjfhaaElems
namespace Go.Proofs.Ytahpnnjemjjfhaa
open Go.RowKit Go.ChangeShapes Go.WideShapes Go.Deep

structure Op21 where
  k : Int
  t : Int
  f : Int
  s : Int
  n : Int
  b : Bool
def Op21.cells (o : Op21) : List Value := [.int .i64 o.k, .int .i64 o.t, .int .i64 o.f, .int .i64 o.s, .int .i64 o.n, .bool o.b]
def Ops (w : World) (x : Option Addr) (l : Nat) (L : Nat → Op21) : Prop := Elems w x l 6 (fun i => (L i).cells)
theorem Ops.kept {w w' : World} {x : Option Addr} {l : Nat} {L : Nat → Op21} (h : Ops w x l L) (k : Kept w w') : Ops w' x l L := Elems.kept h k
theorem Ops.at {w : World} {x : Option Addr} {l : Nat} {L : Nat → Op21} (h : Ops w x l L) (hp : 0 < l) : ∃ b o, x = some ⟨b, o, none⟩ ∧ b < w.heap.size ∧ ∀ i, i < l → ∀ j v, (L i).cells[j]? = some v → w.cell? ⟨b, o + i * 6 + j, none⟩ = some v := by
  obtain ⟨b, o, e, hb, hc⟩ := h hp
  exact ⟨b, o, e, hb, fun i hi j v hv => hc i hi j v (by have := (List.getElem?_eq_some_iff.1 hv).1; simpa [Op21.cells] using this) hv⟩

section
variable {H : Type} {enc : TypeId × Value → H} {W : World} {sp : Nat → Bool} {held : Bool}

set_option maxRecDepth 8000 in
theorem op_open {n : Nat} {cs : List Value} {y : DataW H × List MemPlace} (h : DataW.trod enc Try.prog W 0 sp held n 36 cs = some y) : ∃ q : Op21, cs = q.cells := by
  obtain ⟨xs, k, _, _, hlen, hxl, hf⟩ := DataW.trod_struct Try.underlying36 h
  have ce : Try.prog.cellsOf 36 = 6 := by kernel_rfl
  have ci : Try.prog.cellsOf 3 = 1 := by kernel_rfl
  have cb : Try.prog.cellsOf 4 = 1 := by kernel_rfl
  rw [ce] at hlen
  match xs, hxl, cs, hlen with
  | [y0, y1, y2, y3, y4, y5], _, [v0, v1, v2, v3, v4, v5], _ =>
    have g0 := hf 0 _ rfl
    have g1 := hf 1 _ rfl
    have g2 := hf 2 _ rfl
    have g3 := hf 3 _ rfl
    have g4 := hf 4 _ rfl
    have g5 := hf 5 _ rfl
    simp [ci, cb] at g0 g1 g2 g3 g4 g5
    obtain ⟨z0, e0, _⟩ := DataW.trod_int Try.underlying3 g0
    obtain ⟨z1, e1, _⟩ := DataW.trod_int Try.underlying3 g1
    obtain ⟨z2, e2, _⟩ := DataW.trod_int Try.underlying3 g2
    obtain ⟨z3, e3, _⟩ := DataW.trod_int Try.underlying3 g3
    obtain ⟨z4, e4, _⟩ := DataW.trod_int Try.underlying3 g4
    obtain ⟨z5, e5, _⟩ := DataW.trod_bool Try.underlying4 g5
    simp at e0 e1 e2 e3 e4 e5
    exact ⟨⟨z0, z1, z2, z3, z4, z5⟩, by simp [Op21.cells, e0, e1, e2, e3, e4, e5]⟩

theorem ops_open {x : Option Addr} {l c : Nat} {d : DataW H} {p : List MemPlace} (h : DataW.Trod enc Try.prog W 0 sp held 25 (.slice x l c) d p) : ∃ L, Ops W x l L := by
  have ce : Try.prog.cellsOf 36 = 6 := by kernel_rfl
  obtain ⟨V, hV, hr⟩ := elems_open Try.underlying25 (by rw [ce]; omega) h
  rw [ce] at hV
  haveI : Inhabited Op21 := ⟨⟨0, 0, 0, 0, 0, false⟩⟩
  obtain ⟨L, hL, _⟩ := elems_typed Op21.cells (fun _ => True) hV fun i hi => by
    obtain ⟨n, y, hy⟩ := hr i hi
    obtain ⟨q, e⟩ := op_open hy
    exact ⟨q, e, trivial⟩
  exact ⟨L, hL⟩
end
end Go.Proofs.Ytahpnnjemjjfhaa
