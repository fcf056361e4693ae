/-
  A configuration that came in: its shapes' fields are no more than a slice may hold.
-/
import Derived.Test.YtpdclckgnajcdaaGreatOpen12
import Derived.SizedLaws
namespace Go.Proofs.YtpdclckgnajcdaaGreat
open Go.RowKit Go.ChangeShapes Go.WideShapes Go.Deep

theorem mem_weightsAll {H : Type} {P : Program} {e : TypeId} {d : DataW H} {n : Nat} (hn : n ∈ d.weights P e) : ∀ {ds : List (DataW H)}, d ∈ ds → n ∈ DataW.weightsAll P e ds
  | x :: ds, h => by
    simp only [DataW.weightsAll, List.mem_append]
    rcases List.mem_cons.1 h with rfl | h
    · exact .inl hn
    · exact .inr (mem_weightsAll hn h)

section
variable {H : Type} {enc : TypeId × Value → H} {W : World} {sp : Nat → Bool} {held : Bool} {B : Nat}
theorem refs_sized {fuel : Nat} {x : Option Addr} {l c : Nat} {y : DataW H × List MemPlace} (h : DataW.trod enc Tryz.prog W 0 sp held fuel 27 [.slice x l c] = some y) (hw : ∀ n ∈ y.1.weights Tryz.prog 27, n ≤ B) : l ≤ B := by
  have hb : Tryz.prog.bytesOf 4 = 1 := by kernel_rfl
  rcases open_slice1 Tryz.underlying27 (by kernel_rfl) h with ⟨h0, _⟩ | ⟨a, len, cap, m, n, V, D, Pl, h0, _, hl, _, hm, hy, hx⟩
  · simp at h0
    omega
  · simp at h0
    obtain ⟨rfl, rfl, rfl⟩ := h0
    have := hw ((l + (m - l)) * Tryz.prog.bytesOf 4) (by rw [hy]; simp [DataW.weights, Tryz.underlying27])
    rw [hb] at this
    omega

theorem shps_open_sized {fuel : Nat} {x : Option Addr} {l c : Nat} {y : DataW H × List MemPlace} (h : DataW.trod enc Tryz.prog W 0 sp held fuel 22 [.slice x l c] = some y) (hw : ∀ n ∈ y.1.weights Tryz.prog 22, n ≤ B) :
    ∃ (S : Nat → Sh) (R : Nat → Nat → Bool), Shps W x l S ∧ (∀ i, i < l → Refs W (S i).x (S i).l (R i)) ∧ ∀ i, i < l → (S i).l ≤ B := by
  rcases open_slice_pairs Tryz.underlying22 Tryz.underlying29 (by kernel_rfl) rfl rfl (by kernel_rfl) (by kernel_rfl) h with ⟨h0, _⟩ | ⟨a, len, cap, m, n, V0, V1, D0, D1, P0, P1, h0, _, hl, _, hm, hy, hx⟩
  · simp at h0
    exact ⟨fun _ => ⟨false, none, 0, 0⟩, fun _ _ => false, fun h => by omega, fun i hi => by omega, fun i hi => by omega⟩
  · simp at h0
    obtain ⟨rfl, rfl, rfl⟩ := h0
    have hlm : l ≤ m := by rw [hm]; split <;> omega
    have hD : ∀ i, i < l → ∀ k ∈ (D1 i).weights Tryz.prog 27, k ≤ B := fun i hi k hk => by
      refine hw k ?_
      rw [hy]
      simp only [DataW.weights, Tryz.underlying22, List.mem_cons, List.mem_append]
      refine .inr (.inl (mem_weightsAll (d := .agg [D0 i, D1 i]) ?_ (List.mem_map.2 ⟨i, List.mem_range.2 hi, rfl⟩)))
      simp only [DataW.weights, Tryz.underlying29]
      simp [DataW.weightsEach]
      exact .inr hk
    have each : ∀ i, i < l → ∃ q : Sh × (Nat → Bool), V0 i = .bool q.1.arr ∧ V1 i = .slice q.1.x q.1.l q.1.c ∧ Refs W q.1.x q.1.l q.2 ∧ q.1.l ≤ B := by
      intro i hi
      obtain ⟨_, _, h3, h4⟩ := hx i (by omega)
      obtain ⟨b, hb, _⟩ := DataW.trod_bool Tryz.underlying4 h3
      simp at hb
      rcases DataW.trod_slice Tryz.underlying27 h4 with ⟨g, _⟩ | ⟨a', len, cap, _, _, _, _, g, _⟩
      · simp at g
        rw [g] at h4
        obtain ⟨R, hR⟩ := refs_open h4
        exact ⟨(⟨b, none, 0, 0⟩, R), hb, g, hR, refs_sized h4 (hD i hi)⟩
      · simp at g
        rw [g] at h4
        obtain ⟨R, hR⟩ := refs_open h4
        exact ⟨(⟨b, some a', len, cap⟩, R), hb, g, hR, refs_sized h4 (hD i hi)⟩
    haveI : Inhabited (Sh × (Nat → Bool)) := ⟨(⟨false, none, 0, 0⟩, fun _ => false)⟩
    obtain ⟨q, hq⟩ := choose_lt each
    refine ⟨fun i => (q i).1, fun i => (q i).2, fun hp => ?_, fun i hi => (hq i hi).2.2.1, fun i hi => (hq i hi).2.2.2⟩
    obtain ⟨b, o, s⟩ := a
    obtain rfl : s = none := by simpa [Addr.add] using World.cell?_spot (hx 0 (by omega)).1
    refine ⟨b, o, rfl, ?_, fun k hk => ?_⟩
    · simpa [Addr.add] using cell_lt (hx 0 (by omega)).1
    · obtain ⟨h1, h2, _⟩ := hx k (by omega)
      rw [add_plain] at h1 h2
      rw [h1, Nat.add_assoc, h2, (hq k hk).1, (hq k hk).2.1]
      exact ⟨rfl, rfl⟩

theorem conf_open_sized {a0 a1 a2 a3 a4 a5 a6 a7 : Value} {x : Option Addr} {l c : Nat} {d : DataW H} {p : List MemPlace} (h : DataW.Trod enc Tryz.prog W 0 sp held 24 (.agg #[a0, a1, a2, a3, a4, a5, a6, a7, .slice x l c]) d p)
    (hw : ∀ n ∈ d.weights Tryz.prog 24, n ≤ B) :
    ∃ (S : Nat → Sh) (R : Nat → Nat → Bool), Shps W x l S ∧ (∀ i, i < l → Refs W (S i).x (S i).l (R i)) ∧ ∀ i, i < l → (S i).l ≤ B := by
  obtain ⟨fuel, h⟩ := h
  obtain ⟨xs, n, _, hd, _, hxl, hf⟩ := DataW.trod_struct Tryz.underlying24 h
  have h8 := hf 8 _ rfl
  have e : Tryz.prog.cellsOf 22 = 1 := by kernel_rfl
  simp [Value.cells, e] at h8
  obtain ⟨y, hy⟩ : ∃ y, xs[8]? = some y := by
    have : 8 < xs.length := by rw [hxl]; decide
    exact ⟨_, List.getElem?_eq_getElem this⟩
  rw [hy] at h8
  refine shps_open_sized h8 fun k hk => hw k ?_
  have hd1 : d = .agg (xs.map (·.1)) := by simpa using congrArg Prod.fst hd
  rw [hd1]
  simp only [DataW.weights, Tryz.underlying24]
  exact DataW.weights_mem_each (j := 8) (t := 22) (d := y.1) rfl (by simp [hy]) k hk
end
end Go.Proofs.YtpdclckgnajcdaaGreat
