/-
  Slices of truth values that came in.
-/
import Derived.Test.YtemaaefcnadmfaaElems
namespace Go.Proofs.Ytemaaefcnadmfaa
open Go.RowKit

def Bools (w : World) (x : Option Addr) (l : Nat) (L : Nat → Bool) : Prop := Elems w x l 1 (fun i => [.bool (L i)])
theorem Bools.at {w : World} {x : Option Addr} {l : Nat} {L : Nat → Bool} (h : Bools w x l L) (hp : 0 < l) : ∃ b o, x = some ⟨b, o, none⟩ ∧ b < w.heap.size ∧ ∀ i, i < l → w.cell? ⟨b, o + i, none⟩ = some (.bool (L i)) := by
  obtain ⟨b, o, e, hb, hc⟩ := h hp
  exact ⟨b, o, e, hb, fun i hi => by simpa using hc i hi 0 _ (by omega) rfl⟩
section
variable {H : Type} {enc : TypeId × Value → H} {W : World} {sp : Nat → Bool} {held : Bool}
theorem bools_open {x : Option Addr} {l c : Nat} {d : DataW H} {p : List MemPlace} (h : DataW.Trod enc Try.prog W 0 sp held 46 (.slice x l c) d p) :
    ∃ L, Bools W x l L := by
  have ce : Try.prog.cellsOf 4 = 1 := by kernel_rfl
  obtain ⟨V, hV, hr⟩ := elems_open Try.underlying46 (by rw [ce]; omega) h
  rw [ce] at hV
  obtain ⟨L, hL, _⟩ := elems_typed (fun n : Bool => [Value.bool n]) (fun _ => True) hV fun i hi => by
    obtain ⟨n, y, hy⟩ := hr i hi
    obtain ⟨z, hz, _⟩ := DataW.trod_bool Try.underlying4 hy
    exact ⟨z, hz, trivial⟩
  exact ⟨L, hL⟩
end

end Go.Proofs.Ytemaaefcnadmfaa
