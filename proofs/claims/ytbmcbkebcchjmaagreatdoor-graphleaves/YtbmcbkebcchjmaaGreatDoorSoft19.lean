/-
  A region that draws its order, whose operations may make memory, and whose calls may answer what depends on the world (a new slice): walked once for each operation, whatever the order.
  For each operation a property of what it leaves in its temporary is given, which goes on holding in whatever world keeps what was there; each operation is shown to yield it from the properties of those alone for which it waits.
-/
import Derived.Test.YtbmcbkebcchjmaaGreatDoorPhase
namespace Go.Proofs.YtbmcbkebcchjmaaGreatDoor
open Go.RowKit

def upd (u : Nat → Value) (k : Nat) (v : Value) : Nat → Value := fun j => if j = k then v else u j
theorem upd_same (u : Nat → Value) (k : Nat) (v : Value) : upd u k v k = v := by simp [upd]
theorem upd_other (u : Nat → Value) {j k : Nat} (v : Value) (h : j ≠ k) : upd u k v j = u j := by simp [upd, h]

theorem wpAny_soft {P : Program} {ops : Array Oper} {Q : Exit → Act → World → Prop} {W : World} {mk : (Nat → Value) → Act} {G : Nat → Value → World → Prop}
    (mono : ∀ i v w w', Kept w w' → G i v w → G i v w') (hb : backB ops = true)
    (step : ∀ i o, ops[i]? = some o → ∀ u w, Kept W w → (∀ e ∈ o.after, Region.binds .any e = true → G e.on (u e.on) w) →
      wpOp P ops Q i (fun a' w' => ∃ v, a' = mk (upd u i v) ∧ Kept w w' ∧ G i v w') (mk u) w)
    (fin : ∀ u w, Kept W w → (∀ i, i < ops.size → G i (u i) w) → Q .normal (mk u) w) :
    ∀ (fuel : Nat) (listed : Array Bool) (u : Nat → Value) (w : World), listed.size = ops.size → listed.toList.countP (fun b => !b) ≤ fuel → Kept W w → (∀ i, listed.getD i false = true → G i (u i) w) →
      wpAny P .any ops Q fuel listed (mk u) w := by
  intro fuel
  induction fuel with
  | zero =>
    intro listed u w hs hc hk hg
    have hall : ∀ i, i < ops.size → listed.getD i false = true := fun i hi => by
      have h0 : listed.toList.countP (fun b => !b) = 0 := by omega
      have := List.countP_eq_zero.1 h0 listed[i] (by simp)
      have hi' : i < listed.size := by omega
      simpa [hi'] using this
    refine ⟨?_, fin u w hk fun i hi => hg i (hall i hi)⟩
    apply List.eq_nil_iff_forall_not_mem.2
    intro j hj
    obtain ⟨h1, o, ho, _⟩ := mem_ready.1 hj
    have hjo : j < ops.size := (Array.getElem?_eq_some_iff.1 ho).1
    have h2 := hall j hjo
    have hj' : j < listed.size := by omega
    simp [hj'] at h1 h2
    rw [h1] at h2
    cases h2
  | succ fuel ih =>
    intro listed u w hs hc hk hg
    refine ⟨fun hr => fin u w hk fun i hi => hg i (listed_of_ready hb hs hr ops.size i hi hi), fun i hi => ?_⟩
    obtain ⟨h1, o, ho, hdep⟩ := mem_ready.1 hi
    have hio : i < ops.size := (Array.getElem?_eq_some_iff.1 ho).1
    have hil : i < listed.size := by omega
    refine wpOp_mono ?_ (step i o ho u w hk fun e he hbn => hg e.on (hdep e he hbn))
    rintro a' w' ⟨v, rfl, hk', hv⟩
    refine ih (listed.setIfInBounds i true) (upd u i v) w' (by simpa using hs) ?_ (hk.trans hk') fun j hj => ?_
    · have hfalse : listed[i] = false := by simpa [hil] using h1
      rw [Array.toList_setIfInBounds, List.countP_set (by simpa using hil)]
      simp only [Array.countP_toList] at hc
      simp [hfalse]
      omega
    · by_cases e : j = i
      · subst e
        rw [upd_same]
        exact hv
      · rw [upd_other u v e]
        refine mono j _ w w' hk' (hg j ?_)
        rw [Array.getD_eq_getD_getElem?, Array.getElem?_setIfInBounds_ne (Ne.symm e), ← Array.getD_eq_getD_getElem?] at hj
        exact hj

theorem wp_region_soft {P : Program} {id : Nat} {l : List Oper} {Q : Exit → Act → World → Prop} {W w : World} (mk : (Nat → Value) → Act) (G : Nat → Value → World → Prop) (u : Nat → Value)
    (hm : P.follows .mixedOrders = true) (hb : backB l.toArray = true) (mono : ∀ i v w w', Kept w w' → G i v w → G i v w') (hk : Kept W w)
    (step : ∀ i o, l[i]? = some o → ∀ u w, Kept W w → (∀ e ∈ o.after, Region.binds .any e = true → G e.on (u e.on) w) →
      wpOp P l.toArray Q i (fun a' w' => ∃ v, a' = mk (upd u i v) ∧ Kept w w' ∧ G i v w') (mk u) w)
    (fin : ∀ u w, Kept W w → (∀ i, i < l.length → G i (u i) w) → Q .normal (mk u) w) :
    (Code.region id l.toArray true).wp P Q (mk u) w := by
  refine wp_region_any hm (wpAny_soft (W := W) mono hb (fun i o ho => step i o (by simpa using ho)) (by simpa using fin) _ _ u _ (by simp) ?_ hk.drew fun i hi => ?_)
  · exact Nat.le_trans List.countP_le_length (by simp)
  · exfalso
    rcases Nat.lt_or_ge i l.length with h | h
    · simp [h] at hi
    · simp [h] at hi

/-- .. where what each operation but one leaves is known ('vals'), and of what that one (number s) leaves a property X that holds on. -/
theorem wp_region_soft1 {P : Program} {id : Nat} {l : List Oper} {Q : Exit → Act → World → Prop} {W w : World} (mk : (Nat → Value) → Act) (vals : List Value) (s : Nat) (X : Value → World → Prop) (u : Nat → Value)
    (hm : P.follows .mixedOrders = true) (hb : backB l.toArray = true) (mono : ∀ v w w', Kept w w' → X v w → X v w') (hk : Kept W w)
    (step : ∀ i o, l[i]? = some o → ∀ u w, Kept W w → (∀ e ∈ o.after, Region.binds .any e = true → e.on ≠ s → u e.on = vals.getD e.on undef) → ((∃ e ∈ o.after, Region.binds .any e = true ∧ e.on = s) → X (u s) w) →
      wpOp P l.toArray Q i (fun a' w' => ∃ v, a' = mk (upd u i v) ∧ Kept w w' ∧ (i = s → X v w') ∧ (i ≠ s → v = vals.getD i undef)) (mk u) w)
    (fin : ∀ u w, Kept W w → (∀ i, i < l.length → i ≠ s → u i = vals.getD i undef) → Q .normal (mk u) w) :
    (Code.region id l.toArray true).wp P Q (mk u) w := by
  refine wp_region_soft mk (fun i v w => (i = s → X v w) ∧ (i ≠ s → v = vals.getD i undef)) u hm hb (fun i v w w' k h => ⟨fun e => mono v w w' k (h.1 e), h.2⟩) hk (fun i o ho u w hk hd => step i o ho u w hk (fun e he hb hne => (hd e he hb).2 hne) fun ⟨e, he, hb, hs⟩ => ?_) (fun u w hk h => fin u w hk fun i hi hne => (h i hi).2 hne)
  subst hs
  exact (hd e he hb).1 rfl

end Go.Proofs.YtbmcbkebcchjmaaGreatDoor
