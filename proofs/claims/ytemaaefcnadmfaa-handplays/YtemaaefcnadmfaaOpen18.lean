/-
  The operations of package spolaw18 that came in.
-/
import Derived.Test.YtemaaefcnadmfaaElems
namespace Go.Proofs.Ytemaaefcnadmfaa
open Go.RowKit Go.ChangeShapes Go.WideShapes Go.Deep

structure Op18 where
  k : Int
  t : Int
  s : Int
  f : Bool
def Op18.cells (o : Op18) : List Value := [.int .i64 o.k, .int .i64 o.t, .int .i64 o.s, .bool o.f]
def Ops (w : World) (x : Option Addr) (l : Nat) (L : Nat → Op18) : Prop := Elems w x l 4 (fun i => (L i).cells)
theorem Ops.kept {w w' : World} {x : Option Addr} {l : Nat} {L : Nat → Op18} (h : Ops w x l L) (k : Kept w w') : Ops w' x l L := Elems.kept h k

section
variable {H : Type} {enc : TypeId × Value → H} {W : World} {sp : Nat → Bool} {held : Bool}

theorem op_open {n : Nat} {cs : List Value} {y : DataW H × List MemPlace} (h : DataW.trod enc Try.prog W 0 sp held n 32 cs = some y) : ∃ q : Op18, cs = q.cells := by
  obtain ⟨xs, k, _, _, hlen, hxl, hf⟩ := DataW.trod_struct Try.underlying32 h
  have ce : Try.prog.cellsOf 32 = 4 := by kernel_rfl
  have ci : Try.prog.cellsOf 3 = 1 := by kernel_rfl
  have cb : Try.prog.cellsOf 4 = 1 := by kernel_rfl
  rw [ce] at hlen
  match xs, hxl, cs, hlen with
  | [y0, y1, y2, y3], _, [v0, v1, v2, v3], _ =>
    have g0 := hf 0 _ rfl
    have g1 := hf 1 _ rfl
    have g2 := hf 2 _ rfl
    have g3 := hf 3 _ rfl
    simp [ci, cb] at g0 g1 g2 g3
    obtain ⟨z0, e0, _⟩ := DataW.trod_int Try.underlying3 g0
    obtain ⟨z1, e1, _⟩ := DataW.trod_int Try.underlying3 g1
    obtain ⟨z2, e2, _⟩ := DataW.trod_int Try.underlying3 g2
    obtain ⟨z3, e3, _⟩ := DataW.trod_bool Try.underlying4 g3
    simp at e0 e1 e2 e3
    exact ⟨⟨z0, z1, z2, z3⟩, by simp [Op18.cells, e0, e1, e2, e3]⟩

theorem ops_open {x : Option Addr} {l c : Nat} {d : DataW H} {p : List MemPlace} (h : DataW.Trod enc Try.prog W 0 sp held 22 (.slice x l c) d p) : ∃ L, Ops W x l L := by
  have ce : Try.prog.cellsOf 32 = 4 := by kernel_rfl
  obtain ⟨V, hV, hr⟩ := elems_open Try.underlying22 (by rw [ce]; omega) h
  rw [ce] at hV
  haveI : Inhabited Op18 := ⟨⟨0, 0, 0, false⟩⟩
  obtain ⟨L, hL, _⟩ := elems_typed Op18.cells (fun _ => True) hV fun i hi => by
    obtain ⟨n, y, hy⟩ := hr i hi
    obtain ⟨q, e⟩ := op_open hy
    exact ⟨q, e, trivial⟩
  exact ⟨L, hL⟩
end
end Go.Proofs.Ytemaaefcnadmfaa
