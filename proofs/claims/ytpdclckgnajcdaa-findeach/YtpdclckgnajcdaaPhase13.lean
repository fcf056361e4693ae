/-
  As Phase, where an operation may wait for a later one by an edge that binds no order of this kind.
-/
import Derived.Test.YtpdclckgnajcdaaPhase
namespace Go.Proofs.Ytpdclckgnajcdaa
open Go.RowKit

/-- Each operation waits for earlier ones alone. -/
def backC (ops : Array Oper) : Bool := (List.range ops.size).all fun i => match ops[i]? with
  | some o => o.after.all fun e => !Region.binds .any e || decide (e.on < i)
  | none => false

theorem backC_spec {ops : Array Oper} (h : backC ops = true) {i : Nat} {o : Oper} (ho : ops[i]? = some o) {e : Edge} (he : e ∈ o.after) (hb : Region.binds .any e = true) : e.on < i := by
  have hi : i < ops.size := (Array.getElem?_eq_some_iff.1 ho).1
  have h1 := List.all_eq_true.1 h i (List.mem_range.2 hi)
  simp only [ho] at h1
  have h2 := Array.all_eq_true'.1 h1 e he
  simpa [hb] using h2

theorem listed_of_ready2 {ops : Array Oper} (hb : backC ops = true) {listed : Array Bool} (hs : listed.size = ops.size) (hr : Region.ready .any ops listed = []) : ∀ n i, i < n → i < ops.size → listed.getD i false = true := by
  intro n
  induction n with
  | zero => intro i hi; omega
  | succ n ih =>
    intro i hi hio
    by_cases hin : i < n
    · exact ih i hin hio
    · obtain rfl : i = n := by omega
      cases hl : listed.getD i false with
      | true => rfl
      | false =>
        have hu : listed.getD i true = false := by
          have : i < listed.size := by omega
          simp [this] at hl ⊢
          exact hl
        have : i ∈ Region.ready .any ops listed := mem_ready.2 ⟨hu, _, Array.getElem?_eq_getElem hio, fun e he q => ih e.on (backC_spec hb (Array.getElem?_eq_getElem hio) he q) (by have := backC_spec hb (Array.getElem?_eq_getElem hio) he q; omega)⟩
        rw [hr] at this
        cases this

theorem wpAny_phase2 {P : Program} {l : List Oper} {Q : Exit → Act → World → Prop} {a0 : Act} {vals : List Value} {J : (Nat → Bool) → World → Prop} (hb : backC l.toArray = true) (hn : slotsB a0.tmps.size l = true)
    (step : ∀ i o, l[i]? = some o → ∀ a d u, Held a0 a l d vals → J d u → d i = false → (∀ e ∈ o.after, Region.binds .any e = true → d e.on = true) →
      wpOp P l.toArray Q i (fun a' w' => a' = a.put o.dst (vals.getD i undef) ∧ J (done d i) w') a u)
    (fin : ∀ a u d, (∀ i, i < l.length → d i = true) → Held a0 a l d vals → J d u → Q .normal a u) :
    ∀ (fuel : Nat) (listed : Array Bool) (a : Act) (u : World) (d : Nat → Bool), listed.size = l.length → listed.toList.countP (fun b => !b) ≤ fuel → (∀ i, i < l.length → d i = listed.getD i false) → Held a0 a l d vals → J d u →
      wpAny P .any l.toArray Q fuel listed a u := by
  intro fuel
  induction fuel with
  | zero =>
    intro listed a u d hs hc hd hh hj
    have hall : ∀ i, i < l.length → listed.getD i false = true := fun i hi => by
      have h0 : listed.toList.countP (fun b => !b) = 0 := by omega
      have hi' : i < listed.size := by omega
      have := List.countP_eq_zero.1 h0 listed[i] (by simp)
      simpa [hi'] using this
    refine ⟨?_, fin a u d (fun i hi => (hd i hi).trans (hall i hi)) hh hj⟩
    apply List.eq_nil_iff_forall_not_mem.2
    intro j hj'
    obtain ⟨h1, o, ho, _⟩ := mem_ready.1 hj'
    have hjo : j < l.length := by simpa using (Array.getElem?_eq_some_iff.1 ho).1
    have h2 := hall j hjo
    have hj'' : j < listed.size := by omega
    simp [hj''] at h1 h2
    rw [h1] at h2
    cases h2
  | succ fuel ih =>
    intro listed a u d hs hc hd hh hj
    refine ⟨fun hr => fin a u d (fun i hi => (hd i hi).trans (listed_of_ready2 hb (by simpa using hs) hr l.length i hi (by simpa using hi))) hh hj, fun i hi => ?_⟩
    obtain ⟨h1, o, ho, hdep⟩ := mem_ready.1 hi
    have ho' : l[i]? = some o := by simpa using ho
    have hio : i < l.length := by simpa using (Array.getElem?_eq_some_iff.1 ho).1
    have hil : i < listed.size := by omega
    have hf : d i = false := by
      rw [hd i hio]
      simpa [hil] using h1
    refine wpOp_mono ?_ (step i o ho' a d u hh hj hf fun e he hbn => ?_)
    · rintro a' w' ⟨rfl, hj'⟩
      refine ih (listed.setIfInBounds i true) _ w' (done d i) (by simpa using hs) ?_ (fun j hjl => ?_) (hh.put hn ho') hj'
      · have hfalse : listed[i] = false := by simpa [hil] using h1
        rw [Array.toList_setIfInBounds, List.countP_set (by simpa using hil)]
        simp only [Array.countP_toList] at hc
        simp [hfalse]
        omega
      · by_cases e : j = i
        · subst e
          simp [done, hil]
        · simp only [done, e, if_false]
          rw [hd j hjl, Array.getD_eq_getD_getElem?, Array.getD_eq_getD_getElem?, Array.getElem?_setIfInBounds_ne (Ne.symm e)]
    · have h2 := hdep e he hbn
      have hlt := backC_spec hb ho he hbn
      rw [hd e.on (by omega)]
      exact h2

theorem wp_region_phase2 {P : Program} {id : Nat} {l : List Oper} {Q : Exit → Act → World → Prop} {a0 : Act} {w : World} (vals : List Value) (ps : List (Nat × Nat)) (L : List Value) (J : (Nat → Bool) → World → Prop)
    (hm : P.follows .mixedOrders = true) (hb : backC l.toArray = true) (hn : slotsB a0.tmps.size l = true) (hp : pairsB l ps = true) (hL : patch vals ps 0 a0.tmps.toList = L) (h0 : J (fun _ => false) w.drew)
    (step : ∀ i o, l[i]? = some o → ∀ a d u, Held a0 a l d vals → J d u → d i = false → (∀ e ∈ o.after, Region.binds .any e = true → d e.on = true) →
      wpOp P l.toArray Q i (fun a' w' => a' = a.put o.dst (vals.getD i undef) ∧ J (done d i) w') a u)
    (fin : ∀ u d, (∀ i, i < l.length → d i = true) → J d u → Q .normal ⟨L.toArray, a0.defers⟩ u) :
    (Code.region id l.toArray true).wp P Q a0 w := by
  refine wp_region_any hm (wpAny_phase2 (J := J) hb hn step (fun a u d hall hh hj => ?_) _ _ a0 _ (fun _ => false) (by simp) ?_ (fun i hi => by simp [hi]) ⟨rfl, rfl, (fun i o s _ _ h => absurd h (by simp)), fun _ _ => rfl⟩ h0)
  · rw [hh.patched ps hp hall, hL]
    exact fin u d hall hj
  · exact Nat.le_trans List.countP_le_length (by simp)

end Go.Proofs.Ytpdclckgnajcdaa
