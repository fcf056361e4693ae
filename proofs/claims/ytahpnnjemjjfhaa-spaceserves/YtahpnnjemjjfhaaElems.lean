/-
  Slices that came in, of elements without pointers: their cells lie in memory.
-/
import Derived.Test.YtahpnnjemjjfhaaKept
import Derived.Deep.Slices
namespace Go.Proofs.Ytahpnnjemjjfhaa
open Go.RowKit Go.ChangeShapes Go.WideShapes Go.Deep

theorem cell_lt {w : World} {a : Addr} {v : Value} (h : w.cell? a = some v) : a.block < w.heap.size := by
  rcases Nat.lt_or_ge a.block w.heap.size with g | g
  · exact g
  · simp [World.cell?, Array.getElem?_eq_none g] at h

/-- A slice of elements of m cells each that lies in memory. -/
def Elems (w : World) (x : Option Addr) (l m : Nat) (V : Nat → List Value) : Prop :=
  0 < l → ∃ b o, x = some ⟨b, o, none⟩ ∧ b < w.heap.size ∧ ∀ i, i < l → ∀ j v, j < m → (V i)[j]? = some v → w.cell? ⟨b, o + i * m + j, none⟩ = some v

theorem Elems.kept {w w' : World} {x : Option Addr} {l m : Nat} {V : Nat → List Value} (h : Elems w x l m V) (k : Kept w w') : Elems w' x l m V := fun h0 => by
  obtain ⟨b, o, e, hb, hc⟩ := h h0
  exact ⟨b, o, e, Nat.lt_of_lt_of_le hb k.size, fun i hi j v hj hv => (k.cell hb).trans (hc i hi j v hj hv)⟩

section
variable {H : Type} {enc : TypeId × Value → H} {P : Program} {W : World} {sp : Nat → Bool} {held : Bool}

theorem elems_open {t e : TypeId} {x : Option Addr} {l c : Nat} {d : DataW H} {p : List MemPlace} (ht : P.underlying t = some (.slice e)) (hm0 : 0 < P.cellsOf e) (h : DataW.Trod enc P W 0 sp held t (.slice x l c) d p) :
    ∃ V, Elems W x l (P.cellsOf e) V ∧ ∀ i, i < l → ∃ n y, DataW.trod enc P W 0 sp held n e (V i) = some y := by
  obtain ⟨fuel, h⟩ := h
  rcases open_slice ht h with ⟨h0, _⟩ | ⟨a, len, cap, m, n, D, Pl, h0, _, hl, _, hm, _, hx⟩
  · simp [Value.cells] at h0
    exact ⟨fun _ => [], fun h => by omega, fun i hi => by omega⟩
  · simp [Value.cells] at h0
    obtain ⟨rfl, rfl, rfl⟩ := h0
    have hlm : l ≤ m := by rw [hm]; split <;> omega
    obtain ⟨V, hV⟩ := choose_lt (α := List Value) (p := fun i cs' => W.cells? 0 (a.add (i * P.cellsOf e)) (P.cellsOf e) = some cs' ∧ DataW.trod enc P W 0 sp held n e cs' = some (D i, Pl i)) (n := l) (fun i hi => by
      obtain ⟨cs', h1, h2⟩ := hx i (by omega)
      exact ⟨cs', h1, h2⟩)
    refine ⟨V, fun hp => ?_, fun i hi => ⟨n, _, (hV i hi).2⟩⟩
    have cells : ∀ i, i < l → ∀ j, j < P.cellsOf e → W.cell? ((a.add (i * P.cellsOf e)).add j) = (V i)[j]? := fun i hi j hj => (World.cells?_some (hV i hi).1).2.2 j hj
    have len : ∀ i, i < l → (V i).length = P.cellsOf e := fun i hi => (World.cells?_some (hV i hi).1).2.1
    obtain ⟨b, o, s⟩ := a
    have h00 := cells 0 hp 0 hm0
    obtain ⟨v, hv⟩ : ∃ v, (V 0)[0]? = some v := ⟨_, List.getElem?_eq_getElem (by rw [len 0 hp]; exact hm0)⟩
    rw [hv] at h00
    obtain rfl : s = none := by simpa [Addr.add] using World.cell?_spot h00
    refine ⟨b, o, rfl, ?_, fun i hi j v hj hv => ?_⟩
    · simpa [Addr.add] using cell_lt h00
    · have := cells i hi j hj
      rw [add_plain, add_plain, hv] at this
      exact this

theorem elems_typed {α : Type} [Inhabited α] (cells : α → List Value) (ok : α → Prop) {x : Option Addr} {l m : Nat} {V : Nat → List Value} (h : Elems W x l m V) (each : ∀ i, i < l → ∃ q : α, V i = cells q ∧ ok q) :
    ∃ L : Nat → α, Elems W x l m (fun i => cells (L i)) ∧ ∀ i, i < l → ok (L i) := by
  obtain ⟨L, hL⟩ := choose_lt each
  refine ⟨L, fun hp => ?_, fun i hi => (hL i hi).2⟩
  obtain ⟨b, o, e, hb, hc⟩ := h hp
  exact ⟨b, o, e, hb, fun i hi j v hj hv => hc i hi j v hj (by rw [(hL i hi).1]; exact hv)⟩

theorem wf_i64 {n : Int} (h : (Lit.int .i64 n).wf = true) : IntKind.min .i64 ≤ n ∧ n ≤ IntKind.max .i64 := by
  simpa [Lit.wf, IntKind.has] using h
end

/-- A slice of whole numbers. -/
def Ints (w : World) (x : Option Addr) (l : Nat) (L : Nat → Int) : Prop := Elems w x l 1 (fun i => [.int .i64 (L i)])

theorem Ints.at {w : World} {x : Option Addr} {l : Nat} {L : Nat → Int} (h : Ints w x l L) (hp : 0 < l) : ∃ b o, x = some ⟨b, o, none⟩ ∧ b < w.heap.size ∧ ∀ i, i < l → w.cell? ⟨b, o + i, none⟩ = some (.int .i64 (L i)) := by
  obtain ⟨b, o, e, hb, hc⟩ := h hp
  exact ⟨b, o, e, hb, fun i hi => by simpa using hc i hi 0 _ (by omega) rfl⟩
theorem Ints.kept {w w' : World} {x : Option Addr} {l : Nat} {L : Nat → Int} (h : Ints w x l L) (k : Kept w w') : Ints w' x l L := Elems.kept h k

section
variable {H : Type} {enc : TypeId × Value → H} {W : World} {sp : Nat → Bool} {held : Bool}
theorem ints_open {x : Option Addr} {l c : Nat} {d : DataW H} {p : List MemPlace} (h : DataW.Trod enc Try.prog W 0 sp held 38 (.slice x l c) d p) :
    ∃ L, Ints W x l L ∧ ∀ i, i < l → IntKind.min .i64 ≤ L i ∧ L i ≤ IntKind.max .i64 := by
  have ce : Try.prog.cellsOf 3 = 1 := by kernel_rfl
  obtain ⟨V, hV, hr⟩ := elems_open Try.underlying38 (by rw [ce]; omega) h
  rw [ce] at hV
  exact elems_typed (fun n : Int => [Value.int .i64 n]) (fun n => IntKind.min .i64 ≤ n ∧ n ≤ IntKind.max .i64) hV fun i hi => by
    obtain ⟨n, y, hy⟩ := hr i hi
    obtain ⟨z, hz, _, wz⟩ := DataW.trod_int Try.underlying3 hy
    exact ⟨z, hz, wf_i64 wz⟩
end
end Go.Proofs.Ytahpnnjemjjfhaa
