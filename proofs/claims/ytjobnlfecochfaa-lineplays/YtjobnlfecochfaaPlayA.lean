/-
  LinePlays: both lines, alike; how they lie.
-/
import Derived.Test.YtjobnlfecochfaaRDro
import Derived.Test.YtjobnlfecochfaaRGra
import Derived.Test.YtjobnlfecochfaaRBeg
import Derived.Test.YtjobnlfecochfaaOpen10
namespace Go.Proofs.Ytjobnlfecochfaa
open Go.RowKit

def Ent.key (e : Ent) : Int × Int × Int × Int × Int × Int × List Int := (e.th, e.fr, e.sp, e.st, e.cy, e.pl, e.G)

structure Rel (E R : List Ent) (N : List Int) (j : Nat) : Prop where
  key : E.map Ent.key = R.map Ent.key
  nd : (E.map Ent.th).Nodup
  cy : ∀ e ∈ E, 0 ≤ e.cy ∧ e.cy ≤ (j : Int)
  nt : ∀ e ∈ E, e.st = 0 → (e.nt = true ↔ e.th ∈ N)
  sub : ∀ t ∈ N, ∃ e ∈ E, e.th = t
  len : E.length ≤ j
  lnn : N.length ≤ j

section
variable {E R : List Ent} {N : List Int} {j : Nat}
theorem idx_key {p : Ent → Bool} (q : Int × Int × Int × Int × Int × Int × List Int → Bool) (hp : ∀ e, p e = q e.key) (h : E.map Ent.key = R.map Ent.key) : idx p R = idx p E := by
  have e1 : ∀ L : List Ent, L.findIdx? p = (L.map Ent.key).findIdx? q := fun L => by
    rw [List.findIdx?_map]
    congr 1
    funext e
    exact hp e
  unfold idx
  rw [e1, e1, h]
theorem find_key {p : Ent → Bool} (q : Int × Int × Int × Int × Int × Int × List Int → Bool) (hp : ∀ e, p e = q e.key) (h : E.map Ent.key = R.map Ent.key) : (R.find? p).map Ent.key = (E.find? p).map Ent.key := by
  have e1 : ∀ L : List Ent, (L.find? p).map Ent.key = (L.map Ent.key).find? q := fun L => by
    rw [List.find?_map]
    congr 2
    funext e
    exact hp e
  rw [e1, e1, h]
theorem told_key {o o' : Option Ent} (h : o'.map Ent.key = o.map Ent.key) : (told o').key = (told o).key ∧ o'.isSome = o.isSome := by
  cases o <;> cases o' <;> simp_all [told]
theorem Rel.len2 (h : Rel E R N j) : R.length = E.length := by
  have := congrArg List.length h.key
  simpa using this.symm
theorem Rel.more (h : Rel E R N j) : Rel E R N (j + 1) := ⟨h.key, h.nd, fun e he => by have := h.cy e he; omega, h.nt, h.sub, by have := h.len; omega, by have := h.lnn; omega⟩
theorem Rel.mem (h : Rel E R N j) : ∀ r ∈ R, ∃ e ∈ E, e.key = r.key := fun r hr => by
  have : r.key ∈ E.map Ent.key := by rw [h.key]; exact List.mem_map.2 ⟨r, hr, rfl⟩
  obtain ⟨e, he, q⟩ := List.mem_map.1 this
  exact ⟨e, he, q⟩
theorem Rel.cyR (h : Rel E R N j) : ∀ r ∈ R, 0 ≤ r.cy ∧ r.cy ≤ (j : Int) := fun r hr => by
  obtain ⟨e, he, q⟩ := h.mem r hr
  have : e.cy = r.cy := congrArg (fun k => k.2.2.2.2.1) q
  rw [← this]
  exact h.cy e he
theorem Rel.thR (h : Rel E R N j) {t : Int} : (∃ e ∈ R, e.th = t) ↔ ∃ e ∈ E, e.th = t := by
  have e1 : ∀ L : List Ent, (∃ e ∈ L, e.th = t) ↔ t ∈ (L.map Ent.key).map (fun k => k.1) := fun L => by simp [Ent.key]
  rw [e1, e1, h.key]
theorem Rel.waits (h : Rel E R N j) : (wts R).length = (wts E).length := by
  have e1 : ∀ L : List Ent, (wts L).length = ((L.map Ent.key).filter fun k => k.2.2.2.1 == 0).length := fun L => by
    rw [List.filter_map, List.length_map]
    rfl
  rw [e1, e1, h.key]
theorem Rel.add (h : Rel E R N j) {t : Int} (f s : Int) (ht : ∀ e ∈ E, e.th ≠ t) : Rel (E ++ [newEnt t f s]) (R ++ [newEnt t f s]) N (j + 1) := by
  refine ⟨by rw [List.map_append, List.map_append, h.key], ?_, fun e he => ?_, fun e he hs => ?_, fun x hx => ?_, by have := h.len; simp; omega, by have := h.lnn; omega⟩
  · rw [List.map_append]
    refine List.nodup_append.2 ⟨h.nd, by simp, fun a ha b hb q => ?_⟩
    simp [newEnt] at hb
    obtain ⟨e, he, rfl⟩ := List.mem_map.1 ha
    exact ht e he (q.trans hb)
  · rcases List.mem_append.1 he with he | he
    · have := h.cy e he; omega
    · simp at he; subst he; simp [newEnt]; omega
  · rcases List.mem_append.1 he with he | he
    · exact h.nt e he hs
    · simp at he
      subst he
      constructor
      · intro q; simp [newEnt] at q
      · intro q
        obtain ⟨e, he, q2⟩ := h.sub _ q
        exact absurd q2 (ht e he)
  · obtain ⟨e, he, q⟩ := h.sub x hx
    exact ⟨e, List.mem_append_left _ he, q⟩
theorem Rel.put (h : Rel E R N j) {i : Nat} (hi : i < E.length) {e' r' : Ent} (hk : e'.key = r'.key) (h1 : e'.th = E[i].th) (h2 : e'.st ≠ 0) (h3 : e'.cy = E[i].cy) : Rel (E.set i e') (R.set i r') N (j + 1) := by
  have m1 : (E.set i e').map Ent.th = E.map Ent.th := by
    rw [List.map_set, h1]
    apply List.ext_getElem?
    intro q
    rw [List.getElem?_set]
    split
    · rename_i e; subst e; simp [hi]
    · rfl
  refine ⟨by rw [List.map_set, List.map_set, hk, h.key], by rw [m1]; exact h.nd, fun e he => ?_, fun e he hs' => ?_, fun x hx => ?_, by have := h.len; rw [List.length_set]; omega, by have := h.lnn; omega⟩
  · rcases List.mem_or_eq_of_mem_set he with he | rfl
    · have := h.cy e he; omega
    · have := h.cy _ (List.getElem_mem hi); omega
  · rcases List.mem_or_eq_of_mem_set he with he | rfl
    · exact h.nt e he hs'
    · exact absurd hs' h2
  · obtain ⟨e, he, q⟩ := h.sub x hx
    have hm : e.th ∈ (E.set i e').map Ent.th := by rw [m1]; exact List.mem_map.2 ⟨e, he, rfl⟩
    obtain ⟨e2, he2, q2⟩ := List.mem_map.1 hm
    exact ⟨e2, he2, q2.trans q⟩
theorem map_erase {α β : Type} (f : α → β) (L : List α) (i : Nat) : (L.eraseIdx i).map f = (L.map f).eraseIdx i := by
  rw [List.eraseIdx_eq_take_drop_succ, List.eraseIdx_eq_take_drop_succ, List.map_append, List.map_take, List.map_drop]
theorem Rel.drop (h : Rel E R N j) {i : Nat} {t : Int} (hi : i < E.length) (ht : E[i].th = t) : Rel (E.eraseIdx i) (R.eraseIdx i) (N.filter fun x => x != t) (j + 1) := by
  have hne : ∀ e ∈ E.eraseIdx i, e ∈ E ∧ e.th ≠ t := fun e he => by
    obtain ⟨k, hk, hne, rfl⟩ := List.mem_eraseIdx_iff_getElem.1 he
    refine ⟨List.getElem_mem hk, fun q => hne ?_⟩
    exact (List.getElem_inj h.nd).1 (show (E.map Ent.th)[k]'(by simpa using hk) = (E.map Ent.th)[i]'(by simpa using hi) by simp [q, ht])
  refine ⟨by rw [map_erase, map_erase, h.key], by rw [map_erase]; exact h.nd.sublist (List.eraseIdx_sublist _ _), fun e he => ?_, fun e he hs => ?_, fun x hx => ?_, ?_, ?_⟩
  · have := h.cy e (hne e he).1; omega
  · rw [h.nt e (hne e he).1 hs, List.mem_filter]
    have := (hne e he).2
    simp [this]
  · obtain ⟨h1, h2⟩ := List.mem_filter.1 hx
    obtain ⟨e, he, q⟩ := h.sub x h1
    obtain ⟨k, hk, rfl⟩ := List.getElem_of_mem he
    refine ⟨E[k], List.mem_eraseIdx_iff_getElem.2 ⟨k, hk, fun e2 => ?_, rfl⟩, q⟩
    subst e2
    rw [← q, ht] at h2
    simp at h2
  · have := h.len
    have := List.length_eraseIdx_le E i
    omega
  · have := h.lnn
    have := List.length_filter_le (fun x => x != t) N
    omega
theorem Rel.begins (h : Rel E R N j) : Rel (E.map noteE) R ((wts R).map Ent.th) (j + 1) := by
  have e0 : (wts R).map Ent.th = (wts E).map Ent.th := by
    have e1 : ∀ L : List Ent, (wts L).map Ent.th = ((L.map Ent.key).filter fun k => k.2.2.2.1 == 0).map fun k => k.1 := fun L => by
      rw [List.filter_map, List.map_map]
      rfl
    rw [e1, e1, h.key]
  have e2 : (E.map noteE).map Ent.th = E.map Ent.th := by rw [List.map_map]; rfl
  refine ⟨by rw [List.map_map]; exact h.key, by rw [e2]; exact h.nd, fun e he => ?_, fun e he hs => ?_, fun t ht => ?_, by have := h.len; simp; omega, ?_⟩
  · obtain ⟨e0, he0, rfl⟩ := List.mem_map.1 he
    have := h.cy e0 he0
    exact ⟨this.1, by show e0.cy ≤ _; omega⟩
  · obtain ⟨e1, he1, rfl⟩ := List.mem_map.1 he
    have hs0 : e1.st = 0 := hs
    rw [e0]
    refine ⟨fun _ => List.mem_map.2 ⟨e1, List.mem_filter.2 ⟨he1, by simp [hs0]⟩, rfl⟩, fun _ => by simp [noteE, hs0]⟩
  · rw [e0] at ht
    obtain ⟨e1, he1, rfl⟩ := List.mem_map.1 ht
    exact ⟨noteE e1, List.mem_map.2 ⟨e1, (List.mem_filter.1 he1).1, rfl⟩, rfl⟩
  · rw [e0, List.length_map]
    have := wts_le E
    have := h.len
    omega
theorem Rel.ends (h : Rel E R N j) : Rel (E.map endE) (R.map (endR N)) [] (j + 1) := by
  have e2 : (E.map endE).map Ent.th = E.map Ent.th := by rw [List.map_map]; rfl
  refine ⟨?_, by rw [e2]; exact h.nd, fun e he => ?_, fun e he hs => ?_, by simp, by have := h.len; simp; omega, by simp⟩
  · have e3 : (E.map endE).map Ent.key = E.map fun e => (endR N e).key := by
      rw [List.map_map]
      apply List.map_congr_left
      intro e he
      by_cases hs : e.st = 0
      · have := h.nt e he hs
        by_cases q : e.th ∈ N
        · simp [endE, endR, Ent.key, hs, this.2 q, q]
        · have : e.nt = false := by simpa using fun x => q (this.1 x)
          simp [endE, endR, Ent.key, this, q]
      · have : (e.st == 0) = false := by simpa using hs
        simp [endE, endR, Ent.key, this]
    have e4 : ∀ L : List Ent, (L.map fun e => (endR N e).key) = (L.map Ent.key).map fun k => (k.1, k.2.1, k.2.2.1, k.2.2.2.1, (if k.2.2.2.1 == 0 && decide (k.1 ∈ N) then k.2.2.2.2.1 + 1 else k.2.2.2.2.1), k.2.2.2.2.2.1, k.2.2.2.2.2.2) := fun L => by
      rw [List.map_map]
      rfl
    rw [e3, e4, h.key, ← e4, List.map_map]
    rfl
  · obtain ⟨e0, he0, rfl⟩ := List.mem_map.1 he
    have := h.cy e0 he0
    simp only [endE]
    split <;> omega
  · obtain ⟨e0, he0, rfl⟩ := List.mem_map.1 he
    simp [endE]
end

/-- Both lines: the call's own, apart from one another; blocks o and r are none of theirs. -/
structure Tw (w u : World) (b : Nat) (v : Value) (E : List Ent) (b' : Nat) (v' nv : Value) (R : List Ent) (N : List Int) (o r : Nat) : Prop where
  tab : LTab u w.heap.size b v E
  ref : RTab u w.heap.size b' v' nv R N
  kept : Kept w u
  sep : ∀ k, k ∈ foot b v E → k ∉ footR b' v' nv R
  no : ∀ k, k ∈ foot b v E → k ≠ o ∧ k ≠ r
  nr : ∀ k, k ∈ footR b' v' nv R → k ≠ o ∧ k ≠ r
  lt : o < u.heap.size ∧ r < u.heap.size
section
variable {w u u' : World} {b b' o r : Nat} {v v' nv v2 nv2 : Value} {E R E2 R2 : List Ent} {N N2 : List Int}
theorem mem_own {k : Nat} (hk : k ∈ b :: v.ownBlock.toList) : k ∈ foot b v E := by
  simp at hk
  rcases hk with rfl | hk
  · exact mem_foot.2 (.inl rfl)
  · exact mem_foot.2 (.inr (.inl hk))
theorem Tw.still (h : Tw w u b v E b' v' nv R N o r) (k : Kept u u') : Tw w u' b v E b' v' nv R N o r := ⟨h.tab.kept k, h.ref.kept k, h.kept.trans k, h.sep, h.no, h.nr, by have := h.lt; have := k.size; omega⟩
theorem Tw.fst (h : Tw w u b v E b' v' nv R N o r) (t : LTab u' w.heap.size b v2 E2) (m : Mut (b :: v.ownBlock.toList) u u') (f : ∀ k, k ∈ foot b v2 E2 → k ∈ foot b v E ∨ u.heap.size ≤ k) : Tw w u' b v2 E2 b' v' nv R N o r :=
  ⟨t, h.ref.muts m (fun k hk hd => h.sep k (mem_own hd) hk), h.kept.muts m (fun k hk => (h.tab.own k hk).1),
    fun k hk q => by
      rcases f k hk with g | g
      · exact h.sep k g q
      · have := (h.ref.lt k q).2; omega,
    fun k hk => by
      rcases f k hk with g | g
      · exact h.no k g
      · have := h.lt; omega, h.nr, by have := h.lt; have := m.size; omega⟩
theorem Tw.snd (h : Tw w u b v E b' v' nv R N o r) (t : RTab u' w.heap.size b' v2 nv2 R2 N2) (m : Mut (b' :: v'.ownBlock.toList) u u') (f : ∀ k, k ∈ footR b' v2 nv2 R2 → k ∈ footR b' v' nv R ∨ u.heap.size ≤ k) : Tw w u' b v E b' v2 nv2 R2 N2 o r :=
  ⟨h.tab.muts m (fun k hk hd => h.sep k hk (memR_own hd)), t, h.kept.muts m (fun k hk => (h.ref.own k hk).1),
    fun k hk q => by
      rcases f k q with g | g
      · exact h.sep k hk g
      · have := (h.tab.lt k hk).2; omega, h.no,
    fun k hk => by
      rcases f k hk with g | g
      · exact h.nr k g
      · have := h.lt; omega, by have := h.lt; have := m.size; omega⟩
theorem Tw.o1 (h : Tw w u b v E b' v' nv R N o r) : o ∉ b :: v.ownBlock.toList ∧ r ∉ b :: v.ownBlock.toList := ⟨fun q => (h.no o (mem_own q)).1 rfl, fun q => (h.no r (mem_own q)).2 rfl⟩
theorem Tw.o2 (h : Tw w u b v E b' v' nv R N o r) : o ∉ b' :: v'.ownBlock.toList ∧ r ∉ b' :: v'.ownBlock.toList := ⟨fun q => (h.nr o (memR_own q)).1 rfl, fun q => (h.nr r (memR_own q)).2 rfl⟩
/-- Other blocks beside. -/
theorem Tw.beside (h : Tw w u b v E b' v' nv R N o r) (k : Kept u u') {o2 r2 : Nat} (h1 : u.heap.size ≤ o2 ∨ o2 = o) (h2 : u.heap.size ≤ r2 ∨ r2 = o) (h3 : o2 < u'.heap.size) (h4 : r2 < u'.heap.size) : Tw w u' b v E b' v' nv R N o2 r2 :=
  ⟨h.tab.kept k, h.ref.kept k, h.kept.trans k, h.sep, fun q hq => by have := (h.tab.lt q hq).2; have := h.no q hq; omega, fun q hq => by have := (h.ref.lt q hq).2; have := h.nr q hq; omega, h3, h4⟩
end

/-- What is known in the midst of 'p.F(..) == x.F(..)': operations c1 and c2 are the two calls. -/
structure PJ (w u : World) (b b' : Nat) (E R : List Ent) (N : List Int) (P1 : List Ent → Prop) (P2 : List Ent → List Int → Prop) (o r : Nat) (C : List Value) (rt : TypeId) (D : List Value) (c1 c2 : Nat) (d : Nat → Bool) : Prop where
  own : Own u o 33 C
  rwn : Own u r rt D
  two : ∃ v E' v' nv R' N', Tw w u b v E' b' v' nv R' N' o r ∧ (if d c1 then P1 E' else E' = E) ∧ (if d c2 then P2 R' N' else R' = R ∧ N' = N)
section
variable {w u u' : World} {b b' o r : Nat} {E R : List Ent} {N : List Int} {P1 : List Ent → Prop} {P2 : List Ent → List Int → Prop} {C D : List Value} {rt : TypeId} {c1 c2 : Nat} {d : Nat → Bool}
theorem PJ.plain (h : PJ w u b b' E R N P1 P2 o r C rt D c1 c2 d) (i : Nat) (h1 : i ≠ c1) (h2 : i ≠ c2) : PJ w u b b' E R N P1 P2 o r C rt D c1 c2 (done d i) := by
  have e3 : done d i c1 = d c1 := by simp [done, Ne.symm h1]
  have e7 : done d i c2 = d c2 := by simp [done, Ne.symm h2]
  exact ⟨h.own, h.rwn, by rw [e3, e7]; exact h.two⟩
theorem PJ.call1 (hne : c1 ≠ c2) (h : PJ w u b b' E R N P1 P2 o r C rt D c1 c2 d) (hi : d c1 = false) : ∃ v, LTab u w.heap.size b v E ∧ Kept w u ∧ ∀ u' v2 E2, LTab u' w.heap.size b v2 E2 → P1 E2 → Mut (b :: v.ownBlock.toList) u u' → (∀ k, k ∈ foot b v2 E2 → k ∈ foot b v E ∨ u.heap.size ≤ k) → PJ w u' b b' E R N P1 P2 o r C rt D c1 c2 (done d c1) := by
  obtain ⟨v, E', v', nv, R', N', t, q1, q2⟩ := h.two
  rw [hi] at q1
  simp only [Bool.false_eq_true, if_false] at q1
  subst q1
  refine ⟨v, t.tab, t.kept, fun u' v2 E2 t2 p m f => ⟨h.own.muts m t.o1.1, h.rwn.muts m t.o1.2, v2, E2, v', nv, R', N', t.fst t2 m f, ?_, ?_⟩⟩
  · rw [show done d c1 c1 = true by simp [done]]
    exact p
  · rw [show done d c1 c2 = d c2 by simp [done, Ne.symm hne]]
    exact q2
theorem PJ.call2 (hne : c1 ≠ c2) (h : PJ w u b b' E R N P1 P2 o r C rt D c1 c2 d) (hi : d c2 = false) : ∃ v' nv, RTab u w.heap.size b' v' nv R N ∧ Kept w u ∧ ∀ u' v2 nv2 R2 N2, RTab u' w.heap.size b' v2 nv2 R2 N2 → P2 R2 N2 → Mut (b' :: v'.ownBlock.toList) u u' → (∀ k, k ∈ footR b' v2 nv2 R2 → k ∈ footR b' v' nv R ∨ u.heap.size ≤ k) → PJ w u' b b' E R N P1 P2 o r C rt D c1 c2 (done d c2) := by
  obtain ⟨v, E', v', nv, R', N', t, q1, q2⟩ := h.two
  rw [hi] at q2
  simp only [Bool.false_eq_true, if_false] at q2
  obtain ⟨rfl, rfl⟩ := q2
  refine ⟨v', nv, t.ref, t.kept, fun u' v2 nv2 R2 N2 t2 p m f => ⟨h.own.muts m t.o2.1, h.rwn.muts m t.o2.2, v, E', v2, nv2, R2, N2, t.snd t2 m f, ?_, ?_⟩⟩
  · rw [show done d c2 c1 = d c1 by simp [done, hne]]
    exact q1
  · rw [show done d c2 c2 = true by simp [done]]
    exact p
end
end Go.Proofs.Ytjobnlfecochfaa
