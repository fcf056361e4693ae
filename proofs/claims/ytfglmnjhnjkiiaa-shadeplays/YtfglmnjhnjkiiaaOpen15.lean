/-
  The operations of package spolaw15 that came in.
-/
import Derived.Test.YtfglmnjhnjkiiaaElems
namespace Go.Proofs.Ytfglmnjhnjkiiaa
open Go.RowKit Go.ChangeShapes Go.WideShapes Go.Deep

structure Op15 where
  k : Int
  i : Int
  s : Int
  h : Bool
  c : Bool
def Op15.cells (o : Op15) : List Value := [.int .i64 o.k, .int .i64 o.i, .int .i64 o.s, .bool o.h, .bool o.c]
def Ops (w : World) (x : Option Addr) (l : Nat) (L : Nat → Op15) : Prop := Elems w x l 5 (fun i => (L i).cells)
theorem Ops.kept {w w' : World} {x : Option Addr} {l : Nat} {L : Nat → Op15} (h : Ops w x l L) (k : Kept w w') : Ops w' x l L := Elems.kept h k

section
variable {H : Type} {enc : TypeId × Value → H} {W : World} {sp : Nat → Bool} {held : Bool}

theorem op_open {n : Nat} {cs : List Value} {y : DataW H × List MemPlace} (h : DataW.trod enc Try.prog W 0 sp held n 34 cs = some y) : ∃ q : Op15, cs = q.cells := by
  obtain ⟨xs, k, _, _, hlen, hxl, hf⟩ := DataW.trod_struct Try.underlying34 h
  have ce : Try.prog.cellsOf 34 = 5 := by kernel_rfl
  have ci : Try.prog.cellsOf 3 = 1 := by kernel_rfl
  have cb : Try.prog.cellsOf 4 = 1 := by kernel_rfl
  rw [ce] at hlen
  match xs, hxl, cs, hlen with
  | [y0, y1, y2, y3, y4], _, [v0, v1, v2, v3, v4], _ =>
    have g0 := hf 0 _ rfl
    have g1 := hf 1 _ rfl
    have g2 := hf 2 _ rfl
    have g3 := hf 3 _ rfl
    have g4 := hf 4 _ rfl
    simp [ci] at g0 g1 g2
    simp [cb] at g3 g4
    obtain ⟨z0, e0, _⟩ := DataW.trod_int Try.underlying3 g0
    obtain ⟨z1, e1, _⟩ := DataW.trod_int Try.underlying3 g1
    obtain ⟨z2, e2, _⟩ := DataW.trod_int Try.underlying3 g2
    obtain ⟨z3, e3, _⟩ := DataW.trod_bool Try.underlying4 g3
    obtain ⟨z4, e4, _⟩ := DataW.trod_bool Try.underlying4 g4
    simp at e0 e1 e2 e3 e4
    exact ⟨⟨z0, z1, z2, z3, z4⟩, by simp [Op15.cells, e0, e1, e2, e3, e4]⟩

theorem ops_open {x : Option Addr} {l c : Nat} {d : DataW H} {p : List MemPlace} (h : DataW.Trod enc Try.prog W 0 sp held 22 (.slice x l c) d p) : ∃ L, Ops W x l L := by
  have ce : Try.prog.cellsOf 34 = 5 := by kernel_rfl
  obtain ⟨V, hV, hr⟩ := elems_open Try.underlying22 (by rw [ce]; omega) h
  rw [ce] at hV
  haveI : Inhabited Op15 := ⟨⟨0, 0, 0, false, false⟩⟩
  obtain ⟨L, hL, _⟩ := elems_typed Op15.cells (fun _ => True) hV fun i hi => by
    obtain ⟨n, y, hy⟩ := hr i hi
    obtain ⟨q, e⟩ := op_open hy
    exact ⟨q, e, trivial⟩
  exact ⟨L, hL⟩
end
end Go.Proofs.Ytfglmnjhnjkiiaa
