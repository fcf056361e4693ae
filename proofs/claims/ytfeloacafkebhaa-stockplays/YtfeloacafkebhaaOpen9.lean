/-
  The operations of package spolaw9 that came in: two numbers and a list of numbers each.
-/
import Derived.Test.YtfeloacafkebhaaStockBoundsWalk
namespace Go.Proofs.Ytfeloacafkebhaa
open Go.RowKit Go.ChangeShapes Go.WideShapes Go.Deep

structure Op9 where
  k : Int
  n : Int
  x : Option Addr
  c : Nat
  T : List Int
def Op9.cells (o : Op9) : List Value := [.int .i64 o.k, .int .i64 o.n, .slice o.x o.T.length o.c]
def Ops (w : World) (x : Option Addr) (l : Nat) (L : Nat → Op9) : Prop := Elems w x l 3 (fun i => (L i).cells) ∧ ∀ i, i < l → Rdi w (L i).x (L i).T
theorem Ops.kept {w w' : World} {x : Option Addr} {l : Nat} {L : Nat → Op9} (h : Ops w x l L) (k : Kept w w') : Ops w' x l L := ⟨Elems.kept h.1 k, fun i hi => (h.2 i hi).kept k⟩

section
variable {H : Type} {enc : TypeId × Value → H} {W : World} {sp : Nat → Bool} {held : Bool}

theorem list_open {n : Nat} {v : Value} {y : DataW H × List MemPlace} (h : DataW.trod enc Try.prog W 0 sp held n 23 [v] = some y) : ∃ x c, ∃ T : List Int, v = .slice x T.length c ∧ Rdi W x T := by
  have form : ∃ x l c, v = .slice x l c := by
    rcases DataW.trod_slice Try.underlying23 h with ⟨g, _⟩ | ⟨a', len, cap, _, _, _, _, g, _⟩
    · simp at g; exact ⟨_, _, _, g⟩
    · simp at g; exact ⟨_, _, _, g⟩
  obtain ⟨x, l, c, rfl⟩ := form
  obtain ⟨L, hL, _⟩ := ints_open (enc := enc) (W := W) (sp := sp) (held := held) (x := x) (l := l) (c := c) (d := y.1) (p := y.2) ⟨n, h⟩
  obtain ⟨T, rfl, hT⟩ := ints_rdi hL
  exact ⟨x, c, T, rfl, hT⟩

theorem op_open {n : Nat} {cs : List Value} {y : DataW H × List MemPlace} (h : DataW.trod enc Try.prog W 0 sp held n 26 cs = some y) : ∃ q : Op9, cs = q.cells ∧ Rdi W q.x q.T := by
  obtain ⟨xs, k, _, _, hlen, hxl, hf⟩ := DataW.trod_struct Try.underlying26 h
  have ce : Try.prog.cellsOf 26 = 3 := by kernel_rfl
  have ci : Try.prog.cellsOf 3 = 1 := by kernel_rfl
  have cl : Try.prog.cellsOf 23 = 1 := by kernel_rfl
  rw [ce] at hlen
  match xs, hxl, cs, hlen with
  | [y0, y1, y2], _, [v0, v1, v2], _ =>
    have g0 := hf 0 _ rfl
    have g1 := hf 1 _ rfl
    have g2 := hf 2 _ rfl
    simp [ci] at g0 g1
    simp [cl] at g2
    obtain ⟨z0, e0, _⟩ := DataW.trod_int Try.underlying3 g0
    obtain ⟨z1, e1, _⟩ := DataW.trod_int Try.underlying3 g1
    obtain ⟨x, c, T, e2, hT⟩ := list_open g2
    simp at e0 e1
    exact ⟨⟨z0, z1, x, c, T⟩, by simp [Op9.cells, e0, e1, e2], hT⟩

theorem ops_open {x : Option Addr} {l c : Nat} {d : DataW H} {p : List MemPlace} (h : DataW.Trod enc Try.prog W 0 sp held 22 (.slice x l c) d p) : ∃ L, Ops W x l L := by
  have ce : Try.prog.cellsOf 26 = 3 := by kernel_rfl
  obtain ⟨V, hV, hr⟩ := elems_open Try.underlying22 (by rw [ce]; omega) h
  rw [ce] at hV
  haveI : Inhabited Op9 := ⟨⟨0, 0, none, 0, []⟩⟩
  obtain ⟨L, hL, hT⟩ := elems_typed Op9.cells (fun q => Rdi W q.x q.T) hV fun i hi => by
    obtain ⟨n, y, hy⟩ := hr i hi
    exact op_open hy
  exact ⟨L, hL, hT⟩
end
end Go.Proofs.Ytfeloacafkebhaa
