/-
  The modules Open12, one behind another.
-/
import Derived.Deep.SlicePairs
import Derived.Test.YtiigmmmhhpdmdaaB04
import Derived.Test.YtiigmmmhhpdmdaaB17
/-
  A configuration that came in: its shapes, and their fields, lie in memory.
-/
namespace Go.Proofs.Ytiigmmmhhpdmdaa
open Go.RowKit Go.ChangeShapes Go.WideShapes Go.Deep

section
variable {H : Type} {enc : TypeId × Value → H} {W : World} {sp : Nat → Bool} {held : Bool}

theorem refs_open {fuel : Nat} {x : Option Addr} {l c : Nat} {y : DataW H × List MemPlace} (h : DataW.trod enc Try.prog W 0 sp held fuel 70 [.slice x l c] = some y) : ∃ R, Refs W x l R := by
  rcases open_slice1 Try.underlying70 (by kernel_rfl) h with ⟨h0, _⟩ | ⟨a, len, cap, m, n, V, D, Pl, h0, _, hl, _, hm, _, hx⟩
  · simp at h0
    exact ⟨fun _ => false, fun h => by omega⟩
  · simp at h0
    obtain ⟨rfl, rfl, rfl⟩ := h0
    have hlm : l ≤ m := by rw [hm]; split <;> omega
    refine ⟨fun i => match V i with | .bool b => b | _ => false, fun hp => ?_⟩
    obtain ⟨b, o, s⟩ := a
    obtain rfl : s = none := by simpa [Addr.add] using World.cell?_spot (hx 0 (by omega)).1
    refine ⟨b, o, rfl, ?_, fun k hk => ?_⟩
    · simpa [Addr.add] using cell_lt (hx 0 (by omega)).1
    · obtain ⟨h1, h2⟩ := hx k (by omega)
      obtain ⟨q, hq, _⟩ := DataW.trod_bool Try.underlying4 h2
      simp at hq
      rw [add_plain] at h1
      rw [h1, hq]
      simp [hq]

theorem shps_open {fuel : Nat} {x : Option Addr} {l c : Nat} {y : DataW H × List MemPlace} (h : DataW.trod enc Try.prog W 0 sp held fuel 22 [.slice x l c] = some y) :
    ∃ (S : Nat → Sh) (R : Nat → Nat → Bool), Shps W x l S ∧ ∀ i, i < l → Refs W (S i).x (S i).l (R i) := by
  rcases open_slice_pairs Try.underlying22 Try.underlying72 (by kernel_rfl) rfl rfl (by kernel_rfl) (by kernel_rfl) h with ⟨h0, _⟩ | ⟨a, len, cap, m, n, V0, V1, D0, D1, P0, P1, h0, _, hl, _, hm, _, hx⟩
  · simp at h0
    exact ⟨fun _ => ⟨false, none, 0, 0⟩, fun _ _ => false, fun h => by omega, fun i hi => by omega⟩
  · simp at h0
    obtain ⟨rfl, rfl, rfl⟩ := h0
    have hlm : l ≤ m := by rw [hm]; split <;> omega
    have each : ∀ i, i < l → ∃ q : Sh × (Nat → Bool), V0 i = .bool q.1.arr ∧ V1 i = .slice q.1.x q.1.l q.1.c ∧ Refs W q.1.x q.1.l q.2 := by
      intro i hi
      obtain ⟨_, _, h3, h4⟩ := hx i (by omega)
      obtain ⟨b, hb, _⟩ := DataW.trod_bool Try.underlying4 h3
      simp at hb
      rcases DataW.trod_slice Try.underlying70 h4 with ⟨g, _⟩ | ⟨a', len, cap, _, _, _, _, g, _⟩
      · simp at g
        rw [g] at h4
        obtain ⟨R, hR⟩ := refs_open h4
        exact ⟨(⟨b, none, 0, 0⟩, R), hb, g, hR⟩
      · simp at g
        rw [g] at h4
        obtain ⟨R, hR⟩ := refs_open h4
        exact ⟨(⟨b, some a', len, cap⟩, R), hb, g, hR⟩
    haveI : Inhabited (Sh × (Nat → Bool)) := ⟨(⟨false, none, 0, 0⟩, fun _ => false)⟩
    obtain ⟨q, hq⟩ := choose_lt each
    refine ⟨fun i => (q i).1, fun i => (q i).2, fun hp => ?_, fun i hi => (hq i hi).2.2⟩
    obtain ⟨b, o, s⟩ := a
    obtain rfl : s = none := by simpa [Addr.add] using World.cell?_spot (hx 0 (by omega)).1
    refine ⟨b, o, rfl, ?_, fun k hk => ?_⟩
    · simpa [Addr.add] using cell_lt (hx 0 (by omega)).1
    · obtain ⟨h1, h2, _⟩ := hx k (by omega)
      rw [add_plain] at h1 h2
      rw [h1, Nat.add_assoc, h2, (hq k hk).1, (hq k hk).2.1]
      exact ⟨rfl, rfl⟩

theorem conf_open {a0 a1 a2 a3 a4 a5 a6 a7 : Value} {x : Option Addr} {l c : Nat} {d : DataW H} {p : List MemPlace} (h : DataW.Trod enc Try.prog W 0 sp held 24 (.agg #[a0, a1, a2, a3, a4, a5, a6, a7, .slice x l c]) d p) :
    ∃ (S : Nat → Sh) (R : Nat → Nat → Bool), Shps W x l S ∧ ∀ i, i < l → Refs W (S i).x (S i).l (R i) := by
  obtain ⟨fuel, h⟩ := h
  obtain ⟨xs, n, _, _, _, hxl, hf⟩ := DataW.trod_struct Try.underlying24 h
  have h8 := hf 8 _ rfl
  have e : Try.prog.cellsOf 22 = 1 := by kernel_rfl
  simp [Value.cells, e] at h8
  obtain ⟨y, hy⟩ : ∃ y, xs[8]? = some y := by
    have : 8 < xs.length := by rw [hxl]; decide
    exact ⟨_, List.getElem?_eq_getElem this⟩
  rw [hy] at h8
  exact shps_open h8
end
end Go.Proofs.Ytiigmmmhhpdmdaa

