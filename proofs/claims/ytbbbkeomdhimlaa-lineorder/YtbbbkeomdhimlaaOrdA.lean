/-
  LineOrder: what its lists say of the line; how they lie.
-/
import Derived.Test.YtbbbkeomdhimlaaOff
import Derived.Test.YtbbbkeomdhimlaaOpen10
namespace Go.Proofs.Ytbbbkeomdhimlaa
open Go.RowKit

/-- The order of those that wait, and those that were noted, after j operations. -/
structure Pur (E : List Ent) (O Nn : List Int) (j : Nat) : Prop where
  eq : O = (wts E).map Ent.th
  nd : (E.map Ent.th).Nodup
  cy : ∀ e ∈ E, 0 ≤ e.cy ∧ e.cy ≤ (j : Int)
  nt : ∀ e ∈ E, e.st = 0 → (e.nt = true ↔ e.th ∈ Nn)
  sub : ∀ t ∈ Nn, ∃ e ∈ E, e.th = t
  len : E.length ≤ j
  lnn : Nn.length ≤ j

section
variable {E : List Ent} {O Nn : List Int} {j : Nat}
theorem Pur.uniq (h : Pur E O Nn j) : ∀ e ∈ E, ∀ e' ∈ E, e'.th = e.th → e' = e := fun e he e' he' q => by
  obtain ⟨i, hi, rfl⟩ := List.getElem_of_mem he
  obtain ⟨i', hi', rfl⟩ := List.getElem_of_mem he'
  have h1 : (E.map Ent.th)[i']'(by simpa using hi') = (E.map Ent.th)[i]'(by simpa using hi) := by simpa using q
  have := (List.getElem_inj h.nd).1 h1
  subst this
  rfl
theorem find_th {E : List Ent} {t : Int} {e : Ent} (he : e ∈ E) (ht : e.th = t) (hu : ∀ e' ∈ E, e'.th = t → e' = e) : E.find? (fun e => e.th == t) = some e := by
  cases h : E.find? (fun e => e.th == t) with
  | none =>
    have := List.find?_eq_none.1 h e he
    simp [ht] at this
  | some e' =>
    have h1 := List.mem_of_find?_eq_some h
    have h2 : e'.th = t := by simpa using List.find?_some h
    rw [hu e' h1 h2]
theorem Pur.find (h : Pur E O Nn j) {e : Ent} (he : e ∈ E) : E.find? (fun x => x.th == e.th) = some e := find_th he rfl (fun e' he' q => h.uniq e he e' he' q)
theorem Pur.olen (h : Pur E O Nn j) : O.length ≤ j := by rw [h.eq, List.length_map]; exact Nat.le_trans (wts_le E) h.len
theorem Pur.more (h : Pur E O Nn j) : Pur E O Nn (j + 1) := ⟨h.eq, h.nd, fun e he => by have := h.cy e he; omega, h.nt, h.sub, by have := h.len; omega, by have := h.lnn; omega⟩
theorem Pur.waits (h : Pur E O Nn j) : (wts E).length = O.length := by rw [h.eq]; simp
theorem first_wts (E : List Ent) : (E.find? fun e => e.st == 0) = (wts E).head? := by rw [wts, List.head?_filter]
theorem Pur.add (h : Pur E O Nn j) {t : Int} (f s : Int) (ht : ∀ e ∈ E, e.th ≠ t) : Pur (E ++ [newEnt t f s]) (O ++ [t]) Nn (j + 1) := by
  refine ⟨?_, ?_, fun e he => ?_, fun e he hs => ?_, fun x hx => ?_, by have := h.len; simp; omega, by have := h.lnn; omega⟩
  · rw [h.eq, wts, wts, List.filter_append]
    simp [newEnt]
  · rw [List.map_append]
    refine List.nodup_append.2 ⟨h.nd, by simp, fun a ha b hb q => ?_⟩
    simp [newEnt] at hb
    obtain ⟨e, he, rfl⟩ := List.mem_map.1 ha
    exact ht e he (q.trans hb)
  · rcases List.mem_append.1 he with he | he
    · have := h.cy e he; omega
    · simp at he; subst he; simp [newEnt]; omega
  · rcases List.mem_append.1 he with he | he
    · exact h.nt e he hs
    · simp at he
      subst he
      constructor
      · intro q; simp [newEnt] at q
      · intro q
        obtain ⟨e, he, q2⟩ := h.sub _ q
        exact absurd q2 (ht e he)
  · obtain ⟨e, he, q⟩ := h.sub x hx
    exact ⟨e, List.mem_append_left _ he, q⟩
/-- The first that waits waits no more. -/
theorem Pur.take (h : Pur E O Nn j) {i : Nat} (hi : i < E.length) (hs : E[i].st = 0) (h0 : ∀ e ∈ E.take i, (e.st == 0) = false) {e' : Ent} (h1 : e'.th = E[i].th) (h2 : e'.st ≠ 0) (h3 : e'.cy = E[i].cy) :
    O = E[i].th :: ((wts (E.drop (i + 1))).map Ent.th) ∧ Pur (E.set i e') ((wts (E.drop (i + 1))).map Ent.th) Nn (j + 1) ∧ (E.set i e').find? (fun x => x.th == E[i].th) = some e' := by
  have e0 : wts (E.take i) = [] := List.filter_eq_nil_iff.2 (fun e he => by simp [h0 e he])
  have eE : E = E.take i ++ E[i] :: E.drop (i + 1) := by rw [← List.drop_eq_getElem_cons hi, List.take_append_drop]
  have eS : E.set i e' = E.take i ++ e' :: E.drop (i + 1) := List.set_eq_take_append_cons_drop ▸ if_pos hi
  have w1 : wts E = E[i] :: wts (E.drop (i + 1)) := by
    have : wts E = wts (E.take i) ++ wts (E[i] :: E.drop (i + 1)) := by
      conv => lhs; rw [eE]
      exact List.filter_append _ _
    rw [this, e0, List.nil_append, wts, List.filter_cons, if_pos (by simp [hs])]
    rfl
  have w2 : wts (E.set i e') = wts (E.drop (i + 1)) := by
    rw [eS]
    have : wts (E.take i ++ e' :: E.drop (i + 1)) = wts (E.take i) ++ wts (e' :: E.drop (i + 1)) := List.filter_append _ _
    rw [this, e0, List.nil_append, wts, List.filter_cons, if_neg (by simpa using h2)]
    rfl
  have m1 : (E.set i e').map Ent.th = E.map Ent.th := by
    rw [List.map_set, h1]
    apply List.ext_getElem?
    intro q
    rw [List.getElem?_set]
    split
    · rename_i e; subst e; simp [hi]
    · rfl
  have P2 : Pur (E.set i e') ((wts (E.drop (i + 1))).map Ent.th) Nn (j + 1) := by
    refine ⟨by rw [w2], by rw [m1]; exact h.nd, fun e he => ?_, fun e he hs' => ?_, fun x hx => ?_, by have := h.len; rw [List.length_set]; omega, by have := h.lnn; omega⟩
    · rcases List.mem_or_eq_of_mem_set he with he | rfl
      · have := h.cy e he; omega
      · have := h.cy _ (List.getElem_mem hi); omega
    · rcases List.mem_or_eq_of_mem_set he with he | rfl
      · exact h.nt e he hs'
      · exact absurd hs' h2
    · obtain ⟨e, he, q⟩ := h.sub x hx
      have hm : e.th ∈ (E.set i e').map Ent.th := by rw [m1]; exact List.mem_map.2 ⟨e, he, rfl⟩
      obtain ⟨e2, he2, q2⟩ := List.mem_map.1 hm
      exact ⟨e2, he2, q2.trans q⟩
  refine ⟨by rw [h.eq, w1]; rfl, P2, ?_⟩
  have := P2.find (List.mem_set hi e' : e' ∈ E.set i e')
  rwa [h1] at this
theorem wts_note (E : List Ent) : (wts (E.map noteE)).map Ent.th = (wts E).map Ent.th := by
  unfold wts
  rw [List.filter_map, List.map_map]
  rfl
theorem wts_end (E : List Ent) : (wts (E.map endE)).map Ent.th = (wts E).map Ent.th := by
  unfold wts
  rw [List.filter_map, List.map_map]
  rfl
theorem th_map {f : Ent → Ent} (hf : ∀ e, (f e).th = e.th) (E : List Ent) : (E.map f).map Ent.th = E.map Ent.th := by
  rw [List.map_map]
  exact List.map_congr_left fun e _ => hf e
theorem Pur.begins (h : Pur E O Nn j) : Pur (E.map noteE) O O (j + 1) := by
  refine ⟨by rw [wts_note]; exact h.eq, by rw [th_map (f := noteE) (fun _ => rfl)]; exact h.nd, fun e he => ?_, fun e he hs => ?_, fun t ht => ?_, by have := h.len; simp; omega, by have := h.olen; omega⟩
  · obtain ⟨e0, he0, rfl⟩ := List.mem_map.1 he
    have := h.cy e0 he0
    exact ⟨this.1, by show e0.cy ≤ _; omega⟩
  · obtain ⟨e0, he0, rfl⟩ := List.mem_map.1 he
    have hs0 : e0.st = 0 := hs
    refine ⟨fun _ => ?_, fun _ => by simp [noteE, hs0]⟩
    rw [h.eq]
    exact List.mem_map.2 ⟨e0, List.mem_filter.2 ⟨he0, by simp [hs0]⟩, rfl⟩
  · rw [h.eq] at ht
    obtain ⟨e0, he0, rfl⟩ := List.mem_map.1 ht
    exact ⟨noteE e0, List.mem_map.2 ⟨e0, (List.mem_filter.1 he0).1, rfl⟩, rfl⟩
theorem Pur.ends (h : Pur E O Nn j) : Pur (E.map endE) O [] (j + 1) := by
  refine ⟨by rw [wts_end]; exact h.eq, by rw [th_map (f := endE) (fun _ => rfl)]; exact h.nd, fun e he => ?_, fun e he hs => ?_, fun t ht => by simp at ht, by have := h.len; simp; omega, by simp⟩
  · obtain ⟨e0, he0, rfl⟩ := List.mem_map.1 he
    have := h.cy e0 he0
    simp only [endE]
    split <;> omega
  · obtain ⟨e0, he0, rfl⟩ := List.mem_map.1 he
    simp [endE]
/-- One that waits, by its place in the order. -/
theorem Pur.at (h : Pur E O Nn j) {k : Nat} (hk : k < O.length) : ∃ e, e ∈ E ∧ e.th = O[k] ∧ e.st = 0 ∧ E.find? (fun x => x.th == O[k]) = some e := by
  have hk2 : k < (wts E).length := by rw [h.waits]; exact hk
  have e1 : O[k] = ((wts E)[k]).th := by simp [h.eq]
  have hm := List.mem_filter.1 (List.getElem_mem hk2)
  refine ⟨(wts E)[k], hm.1, e1.symm, by simpa using hm.2, ?_⟩
  rw [e1]
  exact h.find hm.1
theorem Pur.ended (h : Pur E O Nn j) {t : Int} {e : Ent} (he : e ∈ E) (ht : e.th = t) (hs : e.st = 0) : (E.map endE).find? (fun x => x.th == t) = some (endE e) ∧ (endE e).cy = e.cy + (if decide (t ∈ Nn) then 1 else 0) := by
  constructor
  · have := h.ends.find (List.mem_map.2 ⟨e, he, rfl⟩ : endE e ∈ E.map endE)
    rwa [show (endE e).th = t from ht] at this
  · have := h.nt e he hs
    rw [ht] at this
    by_cases q : t ∈ Nn
    · simp [endE, this.2 q, hs, q]
    · have : e.nt = false := by simpa using fun x => q (this.1 x)
      simp [endE, this, q]
end

/-- The line, the order, those noted: the call's own, apart from one another. -/
structure Me3 (w u : World) (b : Nat) (v ov nv : Value) (E : List Ent) (O Nn : List Int) : Prop where
  tab : LTab u w.heap.size b v E
  kept : Kept w u
  lo : Lof u w.heap.size ov O
  ln : Lst u w.heap.size nv Nn
  a1 : ∀ k, k ∈ foot b v E → ov.ownBlock ≠ some k
  a2 : ∀ k, k ∈ foot b v E → nv.ownBlock ≠ some k
  a3 : ∀ k, ov.ownBlock = some k → nv.ownBlock ≠ some k
section
variable {w u u' : World} {b : Nat} {v v' ov ov' nv nv' : Value} {E E' : List Ent} {O O' Nn Nn' : List Int}
theorem mem_own {k : Nat} (hk : k ∈ b :: v.ownBlock.toList) : k ∈ foot b v E := by
  simp at hk
  rcases hk with rfl | hk
  · exact mem_foot.2 (.inl rfl)
  · exact mem_foot.2 (.inr (.inl hk))
theorem Me3.still (h : Me3 w u b v ov nv E O Nn) (k : Kept u u') : Me3 w u' b v ov nv E O Nn := ⟨h.tab.kept k, h.kept.trans k, h.lo.kept k, h.ln.kept k, h.a1, h.a2, h.a3⟩
theorem Me3.line (h : Me3 w u b v ov nv E O Nn) (t : LTab u' w.heap.size b v' E') (m : Mut (b :: v.ownBlock.toList) u u') (f : ∀ k, k ∈ foot b v' E' → k ∈ foot b v E ∨ u.heap.size ≤ k) : Me3 w u' b v' ov nv E' O Nn :=
  ⟨t, h.kept.muts m (fun k hk => (h.tab.own k hk).1), h.lo.muts m (fun k hk hd => h.a1 k (mem_own hd) hk), h.ln.muts m (fun k hk hd => h.a2 k (mem_own hd) hk),
    fun k hk q => by
      rcases f k hk with g | g
      · exact h.a1 k g q
      · have := (h.lo.lt k q).2; omega,
    fun k hk q => by
      rcases f k hk with g | g
      · exact h.a2 k g q
      · have := (h.ln.lt k q).2; omega, h.a3⟩
theorem Me3.ords (h : Me3 w u b v ov nv E O Nn) (l : Lof u' w.heap.size ov' O') (m : Mut ov.ownBlock.toList u u') (f : Fresh u ov ov') : Me3 w u' b v ov' nv E O' Nn :=
  ⟨h.tab.muts m (fun k hk hd => h.a1 k hk (by simpa using hd)), h.kept.muts m (fun k hk => (h.lo.lt k (by simpa using hk)).1), l, h.ln.muts m (fun k hk hd => h.a3 k (by simpa using hd) hk),
    fun k hk q => by
      rcases f k q with g | g
      · exact h.a1 k hk g
      · have := (h.tab.lt k hk).2; omega, h.a2,
    fun k q hk => by
      rcases f k q with g | g
      · exact h.a3 k g hk
      · have := (h.ln.lt k hk).2; omega⟩
theorem Me3.notes (h : Me3 w u b v ov nv E O Nn) (k : Kept u u') (l : Lst u' u.heap.size nv' Nn') : Me3 w u' b v ov nv' E O Nn' :=
  ⟨h.tab.kept k, h.kept.trans k, h.lo.kept k, l.low h.kept.size, h.a1,
    fun j hj q => by have h1 := (h.tab.lt j hj).2; have h2 := (l.lt j q).1; omega,
    fun j q hj => by have h1 := (h.lo.lt j q).2; have h2 := (l.lt j hj).1; omega⟩
theorem Me3.none (h : Me3 w u b v ov nv E O Nn) : Me3 w u b v ov (.slice none 0 0) E O [] := ⟨h.tab, h.kept, h.lo, Lst.nil _ _, h.a1, fun _ _ q => by simp [Value.ownBlock] at q, fun _ _ q => by simp [Value.ownBlock] at q⟩
end
end Go.Proofs.Ytbbbkeomdhimlaa
