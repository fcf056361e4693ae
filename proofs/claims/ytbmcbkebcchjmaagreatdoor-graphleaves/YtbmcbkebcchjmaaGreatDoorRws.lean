/-
  Rows of structs of any kind, m cells each: a slice of the call's own (Rw), append.
-/
import Derived.Test.YtbmcbkebcchjmaaGreatDoorLst
import Derived.Maps.AppendAt
import Derived.Laws.OwnMore
import Derived.Laws.ResultCell
namespace Go.Proofs.YtbmcbkebcchjmaaGreatDoor
open Go.RowKit

section
variable {α : Type} {m : Nat} {c : α → List Value}
theorem flat_len (hc : ∀ e, (c e).length = m) (E : List α) : (E.flatMap c).length = E.length * m := by
  induction E with
  | nil => simp
  | cons e E ih => simp [ih, hc, Nat.succ_mul, Nat.add_comm]
theorem flat_get (hc : ∀ e, (c e).length = m) : ∀ (E : List α) (i j : Nat) (hi : i < E.length), j < m → (E.flatMap c)[i * m + j]? = (c E[i])[j]?
  | e :: E, 0, j, _, hj => by
    simp only [List.flatMap_cons, Nat.zero_mul, Nat.zero_add, List.getElem_cons_zero]
    rw [List.getElem?_append_left (by rw [hc]; exact hj)]
  | e :: E, i + 1, j, hi, hj => by
    have hi' : i < E.length := by simpa using hi
    have e1 : (i + 1) * m + j = m + (i * m + j) := by rw [Nat.succ_mul]; omega
    rw [List.flatMap_cons, List.getElem?_append_right (by rw [hc, e1]; omega), hc, e1, Nat.add_sub_cancel_left]
    exact flat_get hc E i j hi' hj
theorem flat_set (hc : ∀ e, (c e).length = m) : ∀ (E : List α) (i j : Nat) (e' : α) (u : Value) (hi : i < E.length), j < m → c e' = (c E[i]).set j u → (E.flatMap c).set (i * m + j) u = (E.set i e').flatMap c
  | e :: E, 0, j, e', u, _, hj, h => by
    simp only [List.flatMap_cons, Nat.zero_mul, Nat.zero_add, List.set_cons_zero]
    rw [List.set_append_left _ _ (by rw [hc]; exact hj)]
    rw [show c e' = (c e).set j u from h]
  | e :: E, i + 1, j, e', u, hi, hj, h => by
    have hi' : i < E.length := by simpa using hi
    have e1 : (i + 1) * m + j = m + (i * m + j) := by rw [Nat.succ_mul]; omega
    rw [List.flatMap_cons, List.set_append_right _ _ (by rw [hc, e1]; omega), hc, e1, Nat.add_sub_cancel_left, flat_set hc E i j e' u hi' hj h]
    simp
theorem flat_take (hc : ∀ e, (c e).length = m) : ∀ (E : List α) (i : Nat), (E.take i).flatMap c = (E.flatMap c).take (i * m)
  | [], i => by simp
  | e :: E, 0 => by simp
  | e :: E, i + 1 => by
    have e1 : (i + 1) * m = m + i * m := by rw [Nat.succ_mul]; omega
    rw [List.take_succ_cons, List.flatMap_cons, List.flatMap_cons, flat_take hc E i, e1, List.take_append, hc, List.take_of_length_le (l := c e) (by rw [hc]; omega), Nat.add_sub_cancel_left]
theorem flat_drop (hc : ∀ e, (c e).length = m) : ∀ (E : List α) (i : Nat), (E.drop i).flatMap c = (E.flatMap c).drop (i * m)
  | [], i => by simp
  | e :: E, 0 => by simp
  | e :: E, i + 1 => by
    have e1 : (i + 1) * m = m + i * m := by rw [Nat.succ_mul]; omega
    rw [List.drop_succ_cons, List.flatMap_cons, flat_drop hc E i, e1, List.drop_append, hc, (List.drop_eq_nil_of_le (by rw [hc]; omega) : (c e).drop (m + i * m) = []), Nat.add_sub_cancel_left, List.nil_append]
end

/-- A slice of the call's own of elements, m cells each. -/
def Rw {α : Type} (t : TypeId) (m : Nat) (c : α → List Value) (w : World) (base : Nat) (v : Value) (E : List α) : Prop := w.ownsRow base t m v E.length (E.flatMap c)

section
variable {α : Type} {t : TypeId} {m : Nat} {c : α → List Value} {w w' : World} {base : Nat} {v : Value} {E : List α}
theorem Rw.nil (t : TypeId) (m : Nat) (c : α → List Value) (w : World) (base : Nat) : Rw t m c w base (.slice none 0 0) [] := World.ownsRow_nil _ _ _ _
theorem Rw.form (h : Rw t m c w base v E) : ∃ x d, v = .slice x E.length d := by
  rcases h.2 with ⟨rfl, h0⟩ | ⟨g, cap, cur, hv, _⟩
  · rw [h0]; exact ⟨_, _, rfl⟩
  · exact ⟨_, _, hv⟩
theorem Rw.here (h : Rw t m c w base v E) (h0 : 0 < E.length) : ∃ g cap, v = .slice (some ⟨g, 0, none⟩) E.length cap ∧ base ≤ g ∧ g < w.heap.size ∧ E.length ≤ cap := by
  rcases h.2 with ⟨_, e⟩ | ⟨g, cap, cur, hv, hb, hg, hn, _⟩
  · omega
  · exact ⟨g, cap, hv, hb, lt_of_block hg, hn⟩
theorem Rw.lt (h : Rw t m c w base v E) : ∀ k, v.ownBlock = some k → base ≤ k ∧ k < w.heap.size := World.ownsRow.lt h
theorem Rw.muts {D : List Nat} (h : Rw t m c w base v E) (q : Mut D w w') (hd : ∀ k, v.ownBlock = some k → k ∉ D) : Rw t m c w' base v E := by
  refine ⟨h.1, ?_⟩
  rcases h.2 with hn | ⟨g, cap, cur, rfl, hb, hgg, rest⟩
  · exact .inl hn
  · refine .inr ⟨g, cap, cur, rfl, hb, ?_, rest⟩
    rw [q.block g (lt_of_block hgg) (hd g rfl)]
    exact hgg
theorem Rw.low (h : Rw t m c w base v E) {b' : Nat} (hb : b' ≤ base) : Rw t m c w b' v E := by
  refine ⟨h.1, ?_⟩
  rcases h.2 with hn | ⟨g, cap, cur, rfl, hb', hgg, rest⟩
  · exact .inl hn
  · exact .inr ⟨g, cap, cur, rfl, Nat.le_trans hb hb', hgg, rest⟩
theorem Rw.kept (h : Rw t m c w base v E) (k : Kept w w') : Rw t m c w' base v E := h.muts (D := []) k.mut (fun _ _ q => by cases q)
theorem Rw.cell {g n d : Nat} (h : Rw t m c w base (.slice (.some ⟨g, 0, none⟩) n d) E) (hc : ∀ e, (c e).length = m) {i j : Nat} (hi : i < E.length) {u : Value} (hu : (c E[i])[j]? = .some u) : w.cell? ⟨g, i * m + j, none⟩ = .some u := by
  have hj : j < m := by have := (List.getElem?_eq_some_iff.1 hu).1; rwa [hc] at this
  have hr := World.ownsRow.cells h (g := g) rfl (i * m + j) u (by rw [flat_get hc E i j hi hj]; exact hu)
  rwa [show (⟨g, 0, none⟩ : Addr).add (i * m + j) = ⟨g, i * m + j, none⟩ by unfold Addr.add; split <;> simp_all] at hr
theorem Rw.fz {g n d : Nat} (h : Rw t m c w base (.slice (.some ⟨g, 0, none⟩) n d) E) (j : Nat) : w.frozen? ⟨g, j, none⟩ = false := by
  rcases h.2 with ⟨h', _⟩ | ⟨g', cap', cur, h', _, hg, _⟩
  · simp at h'
  · simp only [Value.slice.injEq, Option.some.injEq, Addr.mk.injEq, and_true] at h'
    obtain ⟨rfl, _, rfl⟩ := h'
    exact frozen_of_row w g j cur t hg
theorem Rw.set {g n d : Nat} (h : Rw t m c w base (.slice (.some ⟨g, 0, none⟩) n d) E) (hc : ∀ e, (c e).length = m) {i j : Nat} (hi : i < E.length) (hj : j < m) {e' : α} {u : Value} (hu : c e' = (c E[i]).set j u) :
    Rw t m c (w.setCell ⟨g, i * m + j, none⟩ u) base (.slice (.some ⟨g, 0, none⟩) n d) (E.set i e') := by
  obtain ⟨x, d', e⟩ := h.form
  obtain ⟨_, rfl, _⟩ := Value.slice.inj e
  have := (World.ownsRow.stored h (i * m + j) u).1
  unfold Rw
  rw [flat_set hc E i j e' u hi hj hu] at this
  rw [List.length_set]
  exact this
/-- Another block than a row's. -/
theorem Own.nerw {b : Nat} {t' : TypeId} {L : List Value} (h : Own w b t' L) (l : Rw t m c w base v E) (ht : t' ≠ t) : v.ownBlock ≠ .some b := fun e => by
  rcases l.2 with ⟨rfl, _⟩ | ⟨g, cap, cur, rfl, _, hg, _⟩
  · cases e
  · obtain rfl : g = b := by simpa [Value.ownBlock] using e
    unfold Own at h
    rw [hg] at h
    simp only [Option.some.injEq, Obj.cells.injEq] at h
    exact ht h.2.1.symm
end

/-- Requests that are read at x. -/
def Rdr {α : Type} (c : α → List Value) (w : World) (x : Option Addr) (T : List α) : Prop := 0 < T.length → ∃ a, x = some a ∧ ∀ j u, (T.flatMap c)[j]? = some u → w.cell? (a.add j) = some u

section
variable {α : Type} {P : Program} {t ts ty : TypeId} {m : Nat} {c : α → List Value} {w : World} {base : Nat} {v : Value} {E T : List α}
/-- append, whatever room there is. -/
theorem run_append_rw {z : Value} {bytes : Nat} (ht : P.underlying ts = some (.slice t)) (hin : (P.info? t).map (fun i => (i.zero, i.size, i.bytes)) = some (some z, m, bytes)) (hzs : z.cells.size = m) (hm : 0 < m) (hby : bytes ≤ 1000)
    (hc : ∀ e, (c e).length = m) (h1 : ∀ e, ∀ u ∈ c e, u.oneCell' = true) (h : Rw t m c w base v E) (hb : base ≤ w.heap.size) {y : Option Addr} {d : Nat} (hy : Rdr c w y T) (hn : E.length + T.length ≤ 1000000) :
    ∃ v' w', (Builtin.append_ #[ts, ts] ty #[v, .slice y T.length d]).run P w = .ok v' w' ∧ Rw t m c w' base v' (E ++ T) ∧ Mut v.ownBlock.toList w w' ∧ Fresh w v v' := by
  obtain ⟨i, hi, hz, hs, hbs⟩ := info_parts hin
  by_cases h0 : 0 < T.length
  · obtain ⟨a, rfl, hr⟩ := hy h0
    have hbm : (E.length + T.length) * bytes ≤ 140737488355328 := by
      have : (E.length + T.length) * bytes ≤ 1000000 * 1000 := Nat.mul_le_mul hn hby
      omega
    obtain ⟨v', w', hrun, hown, hg, _, hv⟩ := run_append_own_at (P := P) w base ts ty t i z m bytes ht hi hz hs hbs hzs hm v E.length _ h a T.length d (T.flatMap c) (flat_len hc T) hr (fun u hu => by
      obtain ⟨e, _, he⟩ := List.mem_flatMap.1 hu
      exact h1 e u he) (by unfold maxLen; omega) hbm hb
    refine ⟨v', w', hrun, ?_, mut_grown hg, fun k hk => ?_⟩
    · unfold Rw
      rw [List.length_append, List.flatMap_append]
      exact hown
    · rcases hv with e | e
      · exact .inl (e ▸ hk)
      · rw [e] at hk
        exact .inr (by simp at hk; omega)
  · obtain rfl : T = [] := List.eq_nil_of_length_eq_zero (by omega)
    refine ⟨v, w, ?_, by simpa using h, Mut.refl _ _, Fresh.same _ _⟩
    have hl : ∀ a : Addr, (loadCells a 0).run P w = .ok #[] w := fun a => run_loadCells_list (P := P) w a [] (by simp)
    rcases h.2 with ⟨rfl, _⟩ | ⟨g, cap, cur, rfl, _, _, hnc, _⟩
    · cases y
      · simp [Builtin.append_, run_underlying ht, sizeOf, typeInfo, hi, Builtin.lenOf, Builtin.firstCells]
      · simp [Builtin.append_, run_underlying ht, sizeOf, typeInfo, hi, Builtin.lenOf, Builtin.firstCells, hl]
    · cases y
      · simp [Builtin.append_, run_underlying ht, sizeOf, typeInfo, hi, Builtin.lenOf, Builtin.firstCells, hnc, storeCells]
      · simp [Builtin.append_, run_underlying ht, sizeOf, typeInfo, hi, Builtin.lenOf, Builtin.firstCells, hnc, storeCells, hl]
end

end Go.Proofs.YtbmcbkebcchjmaaGreatDoor
