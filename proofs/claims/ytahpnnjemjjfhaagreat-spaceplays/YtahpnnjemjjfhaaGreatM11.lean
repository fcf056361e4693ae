/-
  The modules Phase, Mix, Ghost21, one behind another.
-/
import Derived.Orders
import Derived.Test.YtahpnnjemjjfhaaGreatM01
/-
  A region that draws its order, each of whose operations leaves a value that is known, and some of which turn the world (calls that write): walked once for each operation, whatever the order. 'J d' is what is known of the world when the operations of d have been carried out.
-/
namespace Go.Proofs.YtahpnnjemjjfhaaGreat
open Go.RowKit

def done (d : Nat → Bool) (k : Nat) : Nat → Bool := fun j => if j = k then true else d j

/-- Each operation waits for earlier ones alone. -/
def backB (ops : Array Oper) : Bool := (List.range ops.size).all fun i => match ops[i]? with
  | some o => o.after.all fun e => decide (e.on < i)
  | none => false

theorem backB_spec {ops : Array Oper} (h : backB ops = true) {i : Nat} {o : Oper} (ho : ops[i]? = some o) {e : Edge} (he : e ∈ o.after) : e.on < i := by
  have hi : i < ops.size := (Array.getElem?_eq_some_iff.1 ho).1
  have h1 := List.all_eq_true.1 h i (List.mem_range.2 hi)
  simp only [ho] at h1
  have h2 := Array.all_eq_true'.1 h1 e he
  simpa using h2

theorem listed_of_ready {ops : Array Oper} (hb : backB ops = true) {listed : Array Bool} (hs : listed.size = ops.size) (hr : Region.ready .any ops listed = []) : ∀ n i, i < n → i < ops.size → listed.getD i false = true := by
  intro n
  induction n with
  | zero => intro i hi; omega
  | succ n ih =>
    intro i hi hio
    by_cases hin : i < n
    · exact ih i hin hio
    · obtain rfl : i = n := by omega
      cases hl : listed.getD i false with
      | true => rfl
      | false =>
        have hu : listed.getD i true = false := by
          have : i < listed.size := by omega
          simp [this] at hl ⊢
          exact hl
        have : i ∈ Region.ready .any ops listed := mem_ready.2 ⟨hu, _, Array.getElem?_eq_getElem hio, fun e he _ => ih e.on (backB_spec hb (Array.getElem?_eq_getElem hio) he) (by have := backB_spec hb (Array.getElem?_eq_getElem hio) he; omega)⟩
        rw [hr] at this
        cases this

/-- No two operations write one slot; each slot is there. -/
def slotsB (n : Nat) (l : List Oper) : Bool := decide (l.filterMap (·.dst)).Nodup && (l.filterMap (·.dst)).all fun s => decide (s < n)

theorem slots_inj : ∀ {l : List Oper}, (l.filterMap (·.dst)).Nodup → ∀ {i j : Nat} {x y : Oper} {s : Nat}, l[i]? = some x → l[j]? = some y → x.dst = some s → y.dst = some s → i = j
  | [], _, i, _, _, _, _, hi, _, _, _ => by simp at hi
  | o :: l, h, i, j, x, y, s, hi, hj, hx, hy => by
    have mem : ∀ {k : Nat} {z : Oper}, l[k]? = some z → z.dst = some s → s ∈ l.filterMap (·.dst) := fun {k z} hk hz => List.mem_filterMap.2 ⟨z, List.mem_of_getElem? hk, hz⟩
    cases i with
    | zero =>
      cases j with
      | zero => rfl
      | succ j =>
        simp at hi hj
        subst hi
        simp only [List.filterMap_cons, hx, List.nodup_cons] at h
        exact absurd (mem hj hy) h.1
    | succ i =>
      cases j with
      | zero =>
        simp at hi hj
        subst hj
        simp only [List.filterMap_cons, hy, List.nodup_cons] at h
        exact absurd (mem hi hx) h.1
      | succ j =>
        simp at hi hj
        have h' : (l.filterMap (·.dst)).Nodup := by
          rw [List.filterMap_cons] at h
          split at h
          · exact h
          · exact (List.nodup_cons.1 h).2
        rw [slots_inj h' hi hj hx hy]

/-- The frame when the operations of d have been carried out. -/
structure Held (a0 a : Act) (l : List Oper) (d : Nat → Bool) (vals : List Value) : Prop where
  defers : a.defers = a0.defers
  size : a.tmps.size = a0.tmps.size
  did : ∀ i o s, l[i]? = some o → o.dst = some s → d i = true → a.tmps[s]? = some (vals.getD i undef)
  rest : ∀ s, (∀ i o, l[i]? = some o → o.dst = some s → d i = false) → a.tmps[s]? = a0.tmps[s]?

def writesB (l : List Oper) (s : Nat) : Bool := l.any fun o => o.dst == some s

theorem Held.old {a0 a : Act} {l : List Oper} {d : Nat → Bool} {vals : List Value} (h : Held a0 a l d vals) (s : Nat) (hs : writesB l s = false) {v : Value} (hv : a0.tmps[s]? = some v) : a.tmps[s]? = some v := by
  rw [h.rest s fun i o ho he => ?_, hv]
  have := List.any_eq_false.1 hs o (List.mem_of_getElem? ho)
  simp [he] at this

theorem Held.put {a0 a : Act} {l : List Oper} {d : Nat → Bool} {vals : List Value} (h : Held a0 a l d vals) (hn : slotsB a0.tmps.size l = true) {i : Nat} {o : Oper} (ho : l[i]? = some o) : Held a0 (a.put o.dst (vals.getD i undef)) l (done d i) vals := by
  unfold slotsB at hn
  rw [Bool.and_eq_true] at hn
  have nd : (l.filterMap (·.dst)).Nodup := of_decide_eq_true hn.1
  cases hd : o.dst with
  | none =>
    refine ⟨h.defers, h.size, fun j x s hj hx hdj => ?_, fun s hs => h.rest s fun j x hj hx => ?_⟩
    · by_cases e : j = i
      · subst e
        rw [ho] at hj
        obtain rfl : o = x := by simpa using hj
        rw [hd] at hx
        cases hx
      · exact h.did j x s hj hx (by simpa [done, e] using hdj)
    · have := hs j x hj hx
      by_cases e : j = i
      · subst e; simp [done] at this
      · simpa [done, e] using this
  | some t =>
    have ht : t < a.tmps.size := by
      have := List.all_eq_true.1 hn.2 t (List.mem_filterMap.2 ⟨o, List.mem_of_getElem? ho, hd⟩)
      rw [h.size]
      simpa using this
    refine ⟨h.defers, by simpa [Act.put] using h.size, fun j x s hj hx hdj => ?_, fun s hs => ?_⟩
    · by_cases e : j = i
      · subst e
        rw [ho] at hj
        obtain rfl : o = x := by simpa using hj
        rw [hd] at hx
        obtain rfl : t = s := by simpa using hx
        simp [Act.put, ht]
      · have hne : t ≠ s := fun q => e (slots_inj nd hj ho hx (q ▸ hd))
        have := h.did j x s hj hx (by simpa [done, e] using hdj)
        simp only [Act.put]
        rw [Array.getElem?_setIfInBounds_ne hne]
        exact this
    · have hne : t ≠ s := fun q => by
        have := hs i o ho (q ▸ hd)
        simp [done] at this
      simp only [Act.put]
      rw [Array.getElem?_setIfInBounds_ne hne]
      refine h.rest s fun j x hj hx => ?_
      have := hs j x hj hx
      by_cases e : j = i
      · subst e; simp [done] at this
      · simpa [done, e] using this

theorem wpAny_phase {P : Program} {l : List Oper} {Q : Exit → Act → World → Prop} {a0 : Act} {vals : List Value} {J : (Nat → Bool) → World → Prop} (hb : backB l.toArray = true) (hn : slotsB a0.tmps.size l = true)
    (step : ∀ i o, l[i]? = some o → ∀ a d u, Held a0 a l d vals → J d u → d i = false → (∀ e ∈ o.after, Region.binds .any e = true → d e.on = true) →
      wpOp P l.toArray Q i (fun a' w' => a' = a.put o.dst (vals.getD i undef) ∧ J (done d i) w') a u)
    (fin : ∀ a u d, (∀ i, i < l.length → d i = true) → Held a0 a l d vals → J d u → Q .normal a u) :
    ∀ (fuel : Nat) (listed : Array Bool) (a : Act) (u : World) (d : Nat → Bool), listed.size = l.length → listed.toList.countP (fun b => !b) ≤ fuel → (∀ i, i < l.length → d i = listed.getD i false) → Held a0 a l d vals → J d u →
      wpAny P .any l.toArray Q fuel listed a u := by
  intro fuel
  induction fuel with
  | zero =>
    intro listed a u d hs hc hd hh hj
    have hall : ∀ i, i < l.length → listed.getD i false = true := fun i hi => by
      have h0 : listed.toList.countP (fun b => !b) = 0 := by omega
      have hi' : i < listed.size := by omega
      have := List.countP_eq_zero.1 h0 listed[i] (by simp)
      simpa [hi'] using this
    refine ⟨?_, fin a u d (fun i hi => (hd i hi).trans (hall i hi)) hh hj⟩
    apply List.eq_nil_iff_forall_not_mem.2
    intro j hj'
    obtain ⟨h1, o, ho, _⟩ := mem_ready.1 hj'
    have hjo : j < l.length := by simpa using (Array.getElem?_eq_some_iff.1 ho).1
    have h2 := hall j hjo
    have hj'' : j < listed.size := by omega
    simp [hj''] at h1 h2
    rw [h1] at h2
    cases h2
  | succ fuel ih =>
    intro listed a u d hs hc hd hh hj
    refine ⟨fun hr => fin a u d (fun i hi => (hd i hi).trans (listed_of_ready hb (by simpa using hs) hr l.length i hi (by simpa using hi))) hh hj, fun i hi => ?_⟩
    obtain ⟨h1, o, ho, hdep⟩ := mem_ready.1 hi
    have ho' : l[i]? = some o := by simpa using ho
    have hio : i < l.length := by simpa using (Array.getElem?_eq_some_iff.1 ho).1
    have hil : i < listed.size := by omega
    have hf : d i = false := by
      rw [hd i hio]
      simpa [hil] using h1
    refine wpOp_mono ?_ (step i o ho' a d u hh hj hf fun e he hbn => ?_)
    · rintro a' w' ⟨rfl, hj'⟩
      refine ih (listed.setIfInBounds i true) _ w' (done d i) (by simpa using hs) ?_ (fun j hjl => ?_) (hh.put hn ho') hj'
      · have hfalse : listed[i] = false := by simpa [hil] using h1
        rw [Array.toList_setIfInBounds, List.countP_set (by simpa using hil)]
        simp only [Array.countP_toList] at hc
        simp [hfalse]
        omega
      · by_cases e : j = i
        · subst e
          simp [done, hil]
        · simp only [done, e, if_false]
          rw [hd j hjl, Array.getD_eq_getD_getElem?, Array.getD_eq_getD_getElem?, Array.getElem?_setIfInBounds_ne (Ne.symm e)]
    · have h2 := hdep e he hbn
      have hlt := backB_spec hb ho he
      rw [hd e.on (by omega)]
      exact h2

/-- The frame behind the region, slot by slot: 'ps' has the slots that were written, in their order, each with its operation's number. -/
def patch (vals : List Value) : List (Nat × Nat) → Nat → List Value → List Value
  | p :: ps, i, x :: xs => bif i == p.1 then vals.getD p.2 undef :: patch vals ps (i + 1) xs else x :: patch vals (p :: ps) (i + 1) xs
  | [], _, xs => xs
  | _ :: _, _, [] => []

def fromB : Nat → List (Nat × Nat) → Bool
  | _, [] => true
  | i, p :: ps => decide (i ≤ p.1) && fromB (p.1 + 1) ps

theorem fromB_mem : ∀ {ps : List (Nat × Nat)} {i : Nat}, fromB i ps = true → ∀ p ∈ ps, i ≤ p.1
  | [], _, _, p, hp => by cases hp
  | q :: ps, i, h, p, hp => by
    simp only [fromB, Bool.and_eq_true, decide_eq_true_eq] at h
    rcases List.mem_cons.1 hp with rfl | hp
    · exact h.1
    · have := fromB_mem h.2 p hp
      omega

theorem patch_get (vals : List Value) : ∀ (xs : List Value) (ps : List (Nat × Nat)) (i : Nat), fromB i ps = true → ∀ k, k < xs.length →
    ((∀ p ∈ ps, p.1 = i + k → (patch vals ps i xs)[k]? = some (vals.getD p.2 undef)) ∧ ((∀ p ∈ ps, p.1 ≠ i + k) → (patch vals ps i xs)[k]? = xs[k]?))
  | [], _, _, _, k, hk => by simp at hk
  | x :: xs, [], i, _, k, _ => ⟨(fun p hp => absurd hp (by simp)), fun _ => by simp [patch]⟩
  | x :: xs, q :: ps, i, hf, k, hk => by
    have hf' := hf
    simp only [fromB, Bool.and_eq_true, decide_eq_true_eq] at hf
    by_cases e : i = q.1
    · have hb : (i == q.1) = true := by simpa using e
      have e2 : patch vals (q :: ps) i (x :: xs) = vals.getD q.2 undef :: patch vals ps (i + 1) xs := by simp [patch, hb]
      rw [e2]
      cases k with
      | zero =>
        refine ⟨fun p hp h0 => ?_, fun h => absurd (by simpa using e.symm) (h q (by simp))⟩
        rcases List.mem_cons.1 hp with rfl | hp
        · simp
        · have := fromB_mem hf.2 p hp
          omega
      | succ k =>
        have ih := patch_get vals xs ps (i + 1) (by rw [e]; exact hf.2) k (by simpa using hk)
        refine ⟨fun p hp h0 => ?_, fun h => ?_⟩
        · rcases List.mem_cons.1 hp with rfl | hp
          · omega
          · simpa using ih.1 p hp (by omega)
        · simpa using ih.2 fun p hp => by have := h p (List.mem_cons_of_mem _ hp); omega
    · have hb : (i == q.1) = false := by simpa using e
      have e2 : patch vals (q :: ps) i (x :: xs) = x :: patch vals (q :: ps) (i + 1) xs := by simp [patch, hb]
      rw [e2]
      cases k with
      | zero =>
        refine ⟨fun p hp h0 => ?_, fun _ => by simp⟩
        rcases List.mem_cons.1 hp with rfl | hp
        · omega
        · have := fromB_mem hf.2 p hp
          omega
      | succ k =>
        have ih := patch_get vals xs (q :: ps) (i + 1) (by simp only [fromB, Bool.and_eq_true, decide_eq_true_eq]; exact ⟨by omega, hf.2⟩) k (by simpa using hk)
        exact ⟨fun p hp h0 => by simpa using ih.1 p hp (by omega), fun h => by simpa using ih.2 fun p hp => by have := h p hp; omega⟩

theorem patch_length (vals : List Value) : ∀ (xs : List Value) (ps : List (Nat × Nat)) (i : Nat), (patch vals ps i xs).length = xs.length
  | [], [], _ => rfl
  | [], _ :: _, _ => rfl
  | _ :: _, [], _ => rfl
  | x :: xs, q :: ps, i => by
    cases hb : i == q.1
    · simp [patch, hb, patch_length vals xs (q :: ps) (i + 1)]
    · simp [patch, hb, patch_length vals xs ps (i + 1)]

/-- 'ps' are the slots of the operations. -/
def pairsB (l : List Oper) (ps : List (Nat × Nat)) : Bool :=
  fromB 0 ps && (ps.all fun p => (l[p.2]?).bind (·.dst) == some p.1) && (List.range l.length).all fun i => match (l[i]?).bind (·.dst) with
    | some s => ps.any fun p => p == (s, i)
    | none => true

theorem Held.patched {a0 a : Act} {l : List Oper} {d : Nat → Bool} {vals : List Value} (h : Held a0 a l d vals) (ps : List (Nat × Nat)) (hp : pairsB l ps = true) (hall : ∀ i, i < l.length → d i = true) : a = ⟨(patch vals ps 0 a0.tmps.toList).toArray, a0.defers⟩ := by
  unfold pairsB at hp
  simp only [Bool.and_eq_true] at hp
  have e : a.tmps = (patch vals ps 0 a0.tmps.toList).toArray := by
    apply Array.ext_getElem?
    intro s
    by_cases hs : s < a0.tmps.size
    · have pg := patch_get vals a0.tmps.toList ps 0 hp.1.1 s (by simpa using hs)
      simp only [Nat.zero_add] at pg
      by_cases q : ∃ p, p ∈ ps ∧ p.1 = s
      · obtain ⟨p, hpm, hps⟩ := q
        have h1 : (l[p.2]?).bind (·.dst) = some p.1 := by simpa using List.all_eq_true.1 hp.1.2 p hpm
        obtain ⟨o, ho, hd⟩ := Option.bind_eq_some_iff.1 h1
        rw [h.did p.2 o s ho (by rw [hd, hps]) (hall _ (List.getElem?_eq_some_iff.1 ho).1)]
        have := pg.1 p hpm hps
        simpa using this.symm
      · rw [h.rest s fun i o hi ho => ?_]
        · have := pg.2 fun p hpm hps => q ⟨p, hpm, hps⟩
          simpa using this.symm
        · have hil := (List.getElem?_eq_some_iff.1 hi).1
          have h2 := List.all_eq_true.1 hp.2 i (List.mem_range.2 hil)
          simp only [hi, Option.bind_some, ho] at h2
          obtain ⟨p, hpm, hpe⟩ := List.any_eq_true.1 h2
          exact absurd ⟨p, hpm, by simp at hpe; simp [hpe]⟩ q
    · rw [Array.getElem?_eq_none (by rw [h.size]; omega), Array.getElem?_eq_none (by simp [patch_length]; omega)]
  cases a
  simp only at e
  rw [e]
  have := h.defers
  simp only at this
  rw [this]

theorem wp_region_phase {P : Program} {id : Nat} {l : List Oper} {Q : Exit → Act → World → Prop} {a0 : Act} {w : World} (vals : List Value) (ps : List (Nat × Nat)) (L : List Value) (J : (Nat → Bool) → World → Prop)
    (hm : P.follows .mixedOrders = true) (hb : backB l.toArray = true) (hn : slotsB a0.tmps.size l = true) (hp : pairsB l ps = true) (hL : patch vals ps 0 a0.tmps.toList = L) (h0 : J (fun _ => false) w.drew)
    (step : ∀ i o, l[i]? = some o → ∀ a d u, Held a0 a l d vals → J d u → d i = false → (∀ e ∈ o.after, Region.binds .any e = true → d e.on = true) →
      wpOp P l.toArray Q i (fun a' w' => a' = a.put o.dst (vals.getD i undef) ∧ J (done d i) w') a u)
    (fin : ∀ u d, (∀ i, i < l.length → d i = true) → J d u → Q .normal ⟨L.toArray, a0.defers⟩ u) :
    (Code.region id l.toArray true).wp P Q a0 w := by
  refine wp_region_any hm (wpAny_phase (J := J) hb hn step (fun a u d hall hh hj => ?_) _ _ a0 _ (fun _ => false) (by simp) ?_ (fun i hi => by simp [hi]) ⟨rfl, rfl, (fun i o s _ _ h => absurd h (by simp)), fun _ _ => rfl⟩ h0)
  · rw [hh.patched ps hp hall, hL]
    exact fin u d hall hj
  · exact Nat.le_trans List.countP_le_length (by simp)

end Go.Proofs.YtahpnnjemjjfhaaGreat

/-
  A region that draws its order, some of whose operations turn the world (calls that write) and leave what depends on it (a new slice): walked once for each operation, whatever the order. 'J d vals' is what is known of the world and of what the operations have left, when the operations of d have been carried out.
-/
namespace Go.Proofs.YtahpnnjemjjfhaaGreat
open Go.RowKit

theorem Held.congr {a0 a : Act} {l : List Oper} {d : Nat → Bool} {vals vals' : List Value} (h : Held a0 a l d vals) (e : ∀ i, d i = true → vals.getD i undef = vals'.getD i undef) : Held a0 a l d vals' :=
  ⟨h.defers, h.size, fun i o s hi ho hd => by rw [← e i hd]; exact h.did i o s hi ho hd, h.rest⟩

theorem getD_set_self {vals : List Value} {i : Nat} (h : i < vals.length) (v : Value) : (vals.set i v).getD i undef = v := by simp [List.getD_eq_getElem?_getD, h]
theorem getD_set_ne {vals : List Value} {i j : Nat} (h : i ≠ j) (v : Value) : (vals.set i v).getD j undef = vals.getD j undef := by simp [List.getD_eq_getElem?_getD, h]

theorem wpAny_mix {P : Program} {l : List Oper} {Q : Exit → Act → World → Prop} {a0 : Act} {J : (Nat → Bool) → List Value → World → Prop} (hb : backB l.toArray = true) (hn : slotsB a0.tmps.size l = true)
    (step : ∀ i o, l[i]? = some o → ∀ a d vals u, vals.length = l.length → Held a0 a l d vals → J d vals u → d i = false → (∀ e ∈ o.after, Region.binds .any e = true → d e.on = true) →
      wpOp P l.toArray Q i (fun a' w' => ∃ v, a' = a.put o.dst v ∧ J (done d i) (vals.set i v) w') a u)
    (fin : ∀ a u d vals, vals.length = l.length → (∀ i, i < l.length → d i = true) → Held a0 a l d vals → J d vals u → Q .normal a u) :
    ∀ (fuel : Nat) (listed : Array Bool) (a : Act) (u : World) (d : Nat → Bool) (vals : List Value), vals.length = l.length → listed.size = l.length → listed.toList.countP (fun b => !b) ≤ fuel → (∀ i, i < l.length → d i = listed.getD i false) → Held a0 a l d vals → J d vals u →
      wpAny P .any l.toArray Q fuel listed a u := by
  intro fuel
  induction fuel with
  | zero =>
    intro listed a u d vals hv hs hc hd hh hj
    have hall : ∀ i, i < l.length → listed.getD i false = true := fun i hi => by
      have h0 : listed.toList.countP (fun b => !b) = 0 := by omega
      have hi' : i < listed.size := by omega
      have := List.countP_eq_zero.1 h0 listed[i] (by simp)
      simpa [hi'] using this
    refine ⟨?_, fin a u d vals hv (fun i hi => (hd i hi).trans (hall i hi)) hh hj⟩
    apply List.eq_nil_iff_forall_not_mem.2
    intro j hj'
    obtain ⟨h1, o, ho, _⟩ := mem_ready.1 hj'
    have hjo : j < l.length := by simpa using (Array.getElem?_eq_some_iff.1 ho).1
    have h2 := hall j hjo
    have hj'' : j < listed.size := by omega
    simp [hj''] at h1 h2
    rw [h1] at h2
    cases h2
  | succ fuel ih =>
    intro listed a u d vals hv hs hc hd hh hj
    refine ⟨fun hr => fin a u d vals hv (fun i hi => (hd i hi).trans (listed_of_ready hb (by simpa using hs) hr l.length i hi (by simpa using hi))) hh hj, fun i hi => ?_⟩
    obtain ⟨h1, o, ho, hdep⟩ := mem_ready.1 hi
    have ho' : l[i]? = some o := by simpa using ho
    have hio : i < l.length := by simpa using (Array.getElem?_eq_some_iff.1 ho).1
    have hil : i < listed.size := by omega
    have hf : d i = false := by
      rw [hd i hio]
      simpa [hil] using h1
    refine wpOp_mono ?_ (step i o ho' a d vals u hv hh hj hf fun e he hbn => ?_)
    · rintro a' w' ⟨v, rfl, hj'⟩
      have hh2 : Held a0 a l d (vals.set i v) := hh.congr fun j hdj => by
        have hne : i ≠ j := fun q => by subst q; rw [hf] at hdj; cases hdj
        rw [getD_set_ne hne]
      have hh3 := hh2.put hn ho'
      rw [getD_set_self (by omega)] at hh3
      refine ih (listed.setIfInBounds i true) _ w' (done d i) (vals.set i v) (by simpa using hv) (by simpa using hs) ?_ (fun j hjl => ?_) hh3 hj'
      · have hfalse : listed[i] = false := by simpa [hil] using h1
        rw [Array.toList_setIfInBounds, List.countP_set (by simpa using hil)]
        simp only [Array.countP_toList] at hc
        simp [hfalse]
        omega
      · by_cases e : j = i
        · subst e
          simp [done, hil]
        · simp only [done, e, if_false]
          rw [hd j hjl, Array.getD_eq_getD_getElem?, Array.getD_eq_getD_getElem?, Array.getElem?_setIfInBounds_ne (Ne.symm e)]
    · have h2 := hdep e he hbn
      have hlt := backB_spec hb ho he
      rw [hd e.on (by omega)]
      exact h2

/-- 'vals': what is left, as far as it is known ahead (anything elsewhere). -/
theorem wp_region_mix {P : Program} {id : Nat} {l : List Oper} {Q : Exit → Act → World → Prop} {a0 : Act} {w : World} (vals : List Value) (ps : List (Nat × Nat)) (J : (Nat → Bool) → List Value → World → Prop)
    (hm : P.follows .mixedOrders = true) (hb : backB l.toArray = true) (hn : slotsB a0.tmps.size l = true) (hp : pairsB l ps = true) (hv : vals.length = l.length) (h0 : J (fun _ => false) vals w.drew)
    (step : ∀ i o, l[i]? = some o → ∀ a d vals u, vals.length = l.length → Held a0 a l d vals → J d vals u → d i = false → (∀ e ∈ o.after, Region.binds .any e = true → d e.on = true) →
      wpOp P l.toArray Q i (fun a' w' => ∃ v, a' = a.put o.dst v ∧ J (done d i) (vals.set i v) w') a u)
    (fin : ∀ u d vals, vals.length = l.length → (∀ i, i < l.length → d i = true) → J d vals u → Q .normal ⟨(patch vals ps 0 a0.tmps.toList).toArray, a0.defers⟩ u) :
    (Code.region id l.toArray true).wp P Q a0 w := by
  refine wp_region_any hm (wpAny_mix (J := J) hb hn step (fun a u d vals hv hall hh hj => ?_) _ _ a0 _ (fun _ => false) vals hv (by simp) ?_ (fun i hi => by simp [hi]) ⟨rfl, rfl, (fun i o s _ _ h => absurd h (by simp)), fun _ _ => rfl⟩ h0)
  · rw [hh.patched ps hp hall]
    exact fin u d vals hv hall hj
  · exact Nat.le_trans List.countP_le_length (by simp)
end Go.Proofs.YtahpnnjemjjfhaaGreat

/-
  A region that draws its order, whose values are known but for a ghost (of type G) that a call chooses.
-/
namespace Go.Proofs.YtahpnnjemjjfhaaGreat
open Go.RowKit

theorem done_up (d : Nat → Bool) (k : Nat) {r : Nat} (h : d r = true) : done d k r = true := by
  unfold done; split <;> simp [h]
/-- Operation c turns the world; those of rs come ahead of it. -/
def JP (c : Nat) (rs : List Nat) (P0 P1 : World → Prop) (d : Nat → Bool) (u : World) : Prop := (d c = true → ∀ r ∈ rs, d r = true) ∧ (if d c then P1 u else P0 u)
section
variable {c : Nat} {rs : List Nat} {P0 P1 : World → Prop} {d : Nat → Bool} {u : World}
theorem JP.start (h : P0 u) : JP c rs P0 P1 (fun _ => false) u := ⟨fun e => absurd e (by simp), by simpa using h⟩
theorem JP.plain (h : JP c rs P0 P1 d u) (k : Nat) (hk : k ≠ c) : JP c rs P0 P1 (done d k) u := by
  have e : done d k c = d c := by simp [done, Ne.symm hk]
  refine ⟨fun q r hr => done_up d k (h.1 (e ▸ q) r hr), ?_⟩
  rw [e]; exact h.2
theorem JP.now (h : JP c rs P0 P1 d u) (hk : d c = false) : P0 u := by simpa [hk] using h.2
theorem JP.now1 (h : JP c rs P0 P1 d u) (hk : d c = true) : P1 u := by simpa [hk] using h.2
theorem JP.stay (h : JP c rs P0 P1 d u) (nc : d c = false) (k : Nat) (hk : k ≠ c) {u' : World} (h' : P0 u') : JP c rs P0 P1 (done d k) u' := by
  have e : done d k c = d c := by simp [done, Ne.symm hk]
  refine ⟨fun q r hr => done_up d k (h.1 (e ▸ q) r hr), ?_⟩
  rw [e, nc]; exact h'
theorem JP.stay1 (h : JP c rs P0 P1 d u) (nc : d c = true) (k : Nat) (hk : k ≠ c) {u' : World} (h' : P1 u') : JP c rs P0 P1 (done d k) u' := by
  have e : done d k c = d c := by simp [done, Ne.symm hk]
  refine ⟨fun q r hr => done_up d k (h.1 (e ▸ q) r hr), ?_⟩
  rw [e, nc]; exact h'
theorem JP.turn (hr : ∀ r ∈ rs, d r = true) {u' : World} (h : P1 u') : JP c rs P0 P1 (done d c) u' :=
  ⟨fun _ r q => done_up d c (hr r q), by simpa [done] using h⟩
theorem JP.fin (h : JP c rs P0 P1 d u) (hc : d c = true) : P1 u := by simpa [hc] using h.2
end

/-- What is done is closed: what an operation waits for has been done. -/
def Cl (l : List Oper) (d : Nat → Bool) : Prop := ∀ i o, l[i]? = some o → d i = true → ∀ e ∈ o.after, Region.binds .any e = true → d e.on = true
theorem Cl.step {l : List Oper} {d : Nat → Bool} (h : Cl l d) {i : Nat} {o : Oper} (ho : l[i]? = some o) (hd : ∀ e ∈ o.after, Region.binds .any e = true → d e.on = true) : Cl l (done d i) := fun j x hx hj e he hb => by
  by_cases q : j = i
  · subst q
    rw [ho] at hx
    obtain rfl : o = x := Option.some.inj hx
    exact done_up d j (hd e he hb)
  · exact done_up d i (h j x hx (by simpa [done, q] using hj) e he hb)

theorem norm_list' {Q : Exit → Act → World → Prop} {L L' : List Value} {ds : List Deferred} {u : World} (e : L = L') (h : Q .normal ⟨L'.toArray, ds⟩ u) : Q .normal ⟨L.toArray, ds⟩ u := e ▸ h

theorem patch_congr {v1 v2 : List Value} (h : ∀ j, v1.getD j undef = v2.getD j undef) : ∀ (L : List Value) (ps : List (Nat × Nat)) (n : Nat), patch v1 ps n L = patch v2 ps n L
  | [], [], _ => by simp [patch]
  | [], _ :: _, _ => by simp [patch]
  | _ :: _, [], _ => by simp [patch]
  | x :: xs, p :: ps, n => by
    rw [patch, patch, h, patch_congr h xs ps, patch_congr h xs (p :: ps)]

theorem wp_region_ghost {P : Program} {id : Nat} {l : List Oper} {Q : Exit → Act → World → Prop} {a0 : Act} {w : World} {G : Type} (K : G → List Value) (ps : List (Nat × Nat)) (J : G → (Nat → Bool) → World → Prop)
    (hm : P.follows .mixedOrders = true) (hb : backB l.toArray = true) (hn : slotsB a0.tmps.size l = true) (hp : pairsB l ps = true) (hv : ∀ g, (K g).length = l.length) (h0 : ∃ g, J g (fun _ => false) w.drew)
    (step : ∀ i o, l[i]? = some o → ∀ g a d u, Held a0 a l d (K g) → J g d u → d i = false → (∀ e ∈ o.after, Region.binds .any e = true → d e.on = true) → Cl l d →
      wpOp P l.toArray Q i (fun a' w' => ∃ g', (∀ j, d j = true → (K g').getD j undef = (K g).getD j undef) ∧ a' = a.put o.dst ((K g').getD i undef) ∧ J g' (done d i) w') a u)
    (fin : ∀ g u d, (∀ i, i < l.length → d i = true) → J g d u → Q .normal ⟨(patch (K g) ps 0 a0.tmps.toList).toArray, a0.defers⟩ u) :
    (Code.region id l.toArray true).wp P Q a0 w := by
  obtain ⟨g0, h0⟩ := h0
  refine wp_region_mix (K g0) ps (fun d vals u => Cl l d ∧ ∃ g, (∀ j, d j = true → vals.getD j undef = (K g).getD j undef) ∧ J g d u) hm hb hn hp (hv g0) ⟨fun i o _ h => absurd h (by simp), g0, fun _ _ => rfl, h0⟩ ?_ ?_
  · rintro i o ho a d vals u hvl hh ⟨hc, g, hk, hj⟩ hi hd
    refine wpOp_mono (fun a' w' h => ?_) (step i o ho g a d u (hh.congr hk) hj hi hd hc)
    obtain ⟨g', e1, e2, e3⟩ := h
    have hil : i < vals.length := by rw [hvl]; exact (List.getElem?_eq_some_iff.1 ho).1
    refine ⟨_, e2, hc.step ho hd, g', fun j hj => ?_, e3⟩
    by_cases q : i = j
    · subst q
      rw [getD_set_self hil]
    · rw [getD_set_ne q, e1 j (by simpa [done, Ne.symm q] using hj), hk j (by simpa [done, Ne.symm q] using hj)]
  · rintro u d vals hvl hall ⟨hc, g, hk, hj⟩
    have e : patch vals ps 0 a0.tmps.toList = patch (K g) ps 0 a0.tmps.toList := patch_congr (fun j => by
      by_cases q : j < l.length
      · exact hk j (hall j q)
      · have q1 : vals[j]? = none := List.getElem?_eq_none (by omega)
        have q2 : (K g)[j]? = none := List.getElem?_eq_none (by rw [hv]; omega)
        rw [List.getD_eq_getElem?_getD, List.getD_eq_getElem?_getD, q1, q2]) _ _ _
    rw [e]
    exact fin g u d hall hj
end Go.Proofs.YtahpnnjemjjfhaaGreat

