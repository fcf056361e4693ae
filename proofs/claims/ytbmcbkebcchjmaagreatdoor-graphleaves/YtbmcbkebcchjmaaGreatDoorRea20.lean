/-
  Package graph: what values refer to.
-/
import Derived.Test.YtbmcbkebcchjmaaGreatDoorGraI20
namespace Go.Proofs.YtbmcbkebcchjmaaGreatDoor
open Go.RowKit
attribute [local go_sem] run_store_complex

/-- What a value refers to. -/
inductive Kd : V → Option Nat → Prop
  | num (x y : Nat) : Kd ⟨false, x, y⟩ none
  | none : Kd noneV none
  | ref (i : Nat) (hi : i ≤ 1000000) : Kd (refV i) (some i)
def idl (f : Nat → Option Nat) (k : Nat) : List Int := ((List.range k).filterMap f).map fun (i : Nat) => (i : Int)
theorem idl_succ (f : Nat → Option Nat) (k : Nat) : idl f (k + 1) = idl f k ++ (match f k with | some i => [(i : Int)] | none => []) := by
  unfold idl
  rw [List.range_succ, List.filterMap_append, List.map_append]
  cases h : f k <;> simp [h]
theorem idl_len (f : Nat → Option Nat) (k : Nat) : (idl f k).length ≤ k := by
  unfold idl
  rw [List.length_map]
  exact Nat.le_trans (List.length_filterMap_le _ _) (by simp)
theorem rdi_lit20 (w : World) (N : List Int) : Rdi (w.alloc (.cells (N.map (Value.int .i64)).toArray 3)) (some ⟨w.heap.size, 0, none⟩) N := fun h0 =>
  ⟨w.heap.size, 0, rfl, by simp, fun j hj => by
    simp [hj]⟩

/-- Values that are read at x. -/
def Rdv (w : World) (x : Option Addr) (vs : List V) : Prop := 0 < vs.length → ∃ g, x = some ⟨g, 0, none⟩ ∧ g < w.heap.size ∧ ∀ k (h : k < vs.length), w.cell? ⟨g, k * 2, none⟩ = some (.bool vs[k].r) ∧ w.cell? ⟨g, k * 2 + 1, none⟩ = some (.complex .f64 vs[k].x vs[k].y)
theorem Rdv.of {w : World} {base : Nat} {vs : List V} {x : Option Addr} {n c : Nat} (h : Rw 34 2 V.cs w base (.slice x n c) vs) : Rdv w x vs := fun h0 => by
  obtain ⟨g, cap, e, _, hg, _⟩ := h.here h0
  obtain ⟨e1, e2, e3⟩ := Value.slice.inj e
  subst e1
  exact ⟨g, rfl, hg, fun k hk => ⟨h.cell V.len hk (j := 0) rfl, h.cell V.len hk (j := 1) rfl⟩⟩
theorem Rdv.kept {w w' : World} {vs : List V} {x : Option Addr} (h : Rdv w x vs) (q : Kept w w') : Rdv w' x vs := fun h0 => by
  obtain ⟨g, e, hg, hc⟩ := h h0
  exact ⟨g, e, Nat.lt_of_lt_of_le hg q.size, fun k hk => ⟨(q.cell hg).trans (hc k hk).1, (q.cell hg).trans (hc k hk).2⟩⟩

set_option maxHeartbeats 4000000 in
set_option maxRecDepth 10000 in
theorem identities_any {vs : List V} (f : Nat → Option Nat) (hf : ∀ k (h : k < vs.length), Kd vs[k] (f k)) {x : Option Addr} {cap : Nat} {w : World} (hx : Rdv w x vs) (hl : vs.length ≤ 1000) :
    Calls Tryz.prog 48 #[.slice x vs.length cap] w fun e w' => ∃ v, e = .returned v ∧ Lst w' w.heap.size v (idl f vs.length) ∧ Kept w w' := by
  have HX : Hid (Rdv w x vs) := hx
  have HFF : Hid (∀ k (h : k < vs.length), Kd vs[k] (f k)) := hf
  clear hx hf
  go_enter Tryz.func48, Tryz.ntmps48
  go_wp2_with fail
  go_loopg [3, 10] vs.length (fun m v i wr => ∃ (k : Nat) (y : Option Addr) (d : Nat), v = .slice y (idl f k).length d ∧ i = .int .i64 k ∧ k ≤ vs.length ∧ m = vs.length - k ∧ Hid (Lst wr w.heap.size (.slice y (idl f k).length d) (idl f k) ∧ Kept w wr))
  case atStart => exact ⟨0, none, 0, rfl, rfl, Nat.zero_le _, rfl, Lst.nil _ _, Kept.refl _⟩
  case round =>
    obtain ⟨k, y, d, rfl, rfl, hk, rfl, hh⟩ := hrel
    by_cases hlt : k < vs.length
    · obtain ⟨g, e, hg, hc⟩ := HX.out (by omega)
      subst e
      have hkd := HFF.out k hlt
      obtain ⟨c0, c1⟩ := hc k hlt
      have hs := idl_succ f k
      have HLe : Hid ((idl f k).length ≤ k) := idl_len f k
      have a0 := (hh.out.2.cell (a := ⟨g, k * 2, none⟩) hg).trans c0
      have a1 := (hh.out.2.cell (a := ⟨g, k * 2 + 1, none⟩) hg).trans c1
      clear c0 c1 hc
      generalize vs[k] = vv at hkd a0 a1
      generalize f k = fo at hkd hs
      cases hkd
      case num x0 y0 =>
        have hn : idl f (k + 1) = idl f k := by rw [hs]; simp
        have HN : Hid (idl f (k + 1) = idl f k) := hn
        clear hs hn
        go_wp2
        go_roundg (vs.length - (k + 1))
        case rel => exact ⟨k + 1, y, d, by rw [HN.out], rfl, by omega, rfl, by rw [HN.out]; exact hh.out.1.kept ((Kept.refl _).alloc _ _), hh.out.2.alloc _ _⟩
        case measure => omega
      case none =>
        have hn : idl f (k + 1) = idl f k := by rw [hs]; simp
        have HN : Hid (idl f (k + 1) = idl f k) := hn
        clear hs hn
        unfold noneV at *
        dsimp only at *
        go_wp2_with fail
        refine (index_none _).mono ?_
        rintro e w2 ⟨rfl, rfl⟩
        go_wp2
        go_roundg (vs.length - (k + 1))
        case rel => exact ⟨k + 1, y, d, by rw [HN.out], rfl, by omega, rfl, by rw [HN.out]; exact hh.out.1.kept ((Kept.refl _).alloc _ _), hh.out.2.alloc _ _⟩
        case measure => omega
      case ref i hi =>
        have HN : Hid (idl f (k + 1) = idl f k ++ [(i : Int)]) := hs
        clear hs
        have HI := index_ref i hi
        unfold refV at *
        dsimp only at *
        generalize floatOfInt .f64 ((i : Int) + 1) = fx at *
        go_wp2_with fail
        generalize hW1 : wr.alloc _ = W1
        have H1 : Hid (Lst W1 w.heap.size (.slice y (idl f k).length d) (idl f k) ∧ Kept w W1) := by rw [← hW1]; exact ⟨hh.out.1.kept ((Kept.refl _).alloc _ _), hh.out.2.alloc _ _⟩
        clear hW1 a0 a1
        refine (HI _).mono ?_
        rintro e w2 ⟨rfl, rfl⟩
        have z1 : w.heap.size ≤ (w2.alloc (.cells ([(i : Int)].map (Value.int .i64)).toArray 3)).heap.size := by have := H1.out.2.size; simp; omega
        have z2 : (idl f k).length + ([(i : Int)] : List Int).length ≤ 1000000 := by have := HLe.out; simp; omega
        have R4 : Hid _ := rdi_lit20 w2 [(i : Int)]
        have L5 : Hid _ := H1.out.1.alloc #[.int .i64 (i : Int)] 3
        go_wp2_with (at_builtin; refine wpList_append_lst (T := idl f k) (N := [(i : Int)]) rfl _ _ rfl rfl L5.out z1 rfl rfl R4.out z2 ?_)
        intro v5 w5 l5 m5 f5
        have H5 : Hid (Lst w5 w.heap.size v5 (idl f (k + 1)) ∧ Kept w w5) := ⟨by rw [HN.out]; exact l5, (H1.out.2.alloc _ _).muts m5 (fun q hq => (H1.out.1.lt q (by simpa using hq)).1)⟩
        obtain ⟨y5, d5, rfl⟩ := H5.out.1.form
        clear l5 m5 f5 z1 z2 R4 L5
        go_wp2
        go_roundg (vs.length - (k + 1))
        case rel => exact ⟨k + 1, y5, d5, rfl, rfl, by omega, rfl, H5.out⟩
        case measure => omega
    · obtain rfl : k = vs.length := by omega
      go_wp2
      go_ret
      exact ⟨_, rfl, hh.out⟩
end Go.Proofs.YtbmcbkebcchjmaaGreatDoor
