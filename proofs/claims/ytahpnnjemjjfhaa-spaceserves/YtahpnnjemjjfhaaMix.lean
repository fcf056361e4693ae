/-
  A region that draws its order, some of whose operations turn the world (calls that write) and leave what depends on it (a new slice): walked once for each operation, whatever the order. 'J d vals' is what is known of the world and of what the operations have left, when the operations of d have been carried out.
-/
import Derived.Test.YtahpnnjemjjfhaaPhase
namespace Go.Proofs.Ytahpnnjemjjfhaa
open Go.RowKit

theorem Held.congr {a0 a : Act} {l : List Oper} {d : Nat → Bool} {vals vals' : List Value} (h : Held a0 a l d vals) (e : ∀ i, d i = true → vals.getD i undef = vals'.getD i undef) : Held a0 a l d vals' :=
  ⟨h.defers, h.size, fun i o s hi ho hd => by rw [← e i hd]; exact h.did i o s hi ho hd, h.rest⟩

theorem getD_set_self {vals : List Value} {i : Nat} (h : i < vals.length) (v : Value) : (vals.set i v).getD i undef = v := by simp [List.getD_eq_getElem?_getD, h]
theorem getD_set_ne {vals : List Value} {i j : Nat} (h : i ≠ j) (v : Value) : (vals.set i v).getD j undef = vals.getD j undef := by simp [List.getD_eq_getElem?_getD, h]

theorem wpAny_mix {P : Program} {l : List Oper} {Q : Exit → Act → World → Prop} {a0 : Act} {J : (Nat → Bool) → List Value → World → Prop} (hb : backB l.toArray = true) (hn : slotsB a0.tmps.size l = true)
    (step : ∀ i o, l[i]? = some o → ∀ a d vals u, vals.length = l.length → Held a0 a l d vals → J d vals u → d i = false → (∀ e ∈ o.after, Region.binds .any e = true → d e.on = true) →
      wpOp P l.toArray Q i (fun a' w' => ∃ v, a' = a.put o.dst v ∧ J (done d i) (vals.set i v) w') a u)
    (fin : ∀ a u d vals, vals.length = l.length → (∀ i, i < l.length → d i = true) → Held a0 a l d vals → J d vals u → Q .normal a u) :
    ∀ (fuel : Nat) (listed : Array Bool) (a : Act) (u : World) (d : Nat → Bool) (vals : List Value), vals.length = l.length → listed.size = l.length → listed.toList.countP (fun b => !b) ≤ fuel → (∀ i, i < l.length → d i = listed.getD i false) → Held a0 a l d vals → J d vals u →
      wpAny P .any l.toArray Q fuel listed a u := by
  intro fuel
  induction fuel with
  | zero =>
    intro listed a u d vals hv hs hc hd hh hj
    have hall : ∀ i, i < l.length → listed.getD i false = true := fun i hi => by
      have h0 : listed.toList.countP (fun b => !b) = 0 := by omega
      have hi' : i < listed.size := by omega
      have := List.countP_eq_zero.1 h0 listed[i] (by simp)
      simpa [hi'] using this
    refine ⟨?_, fin a u d vals hv (fun i hi => (hd i hi).trans (hall i hi)) hh hj⟩
    apply List.eq_nil_iff_forall_not_mem.2
    intro j hj'
    obtain ⟨h1, o, ho, _⟩ := mem_ready.1 hj'
    have hjo : j < l.length := by simpa using (Array.getElem?_eq_some_iff.1 ho).1
    have h2 := hall j hjo
    have hj'' : j < listed.size := by omega
    simp [hj''] at h1 h2
    rw [h1] at h2
    cases h2
  | succ fuel ih =>
    intro listed a u d vals hv hs hc hd hh hj
    refine ⟨fun hr => fin a u d vals hv (fun i hi => (hd i hi).trans (listed_of_ready hb (by simpa using hs) hr l.length i hi (by simpa using hi))) hh hj, fun i hi => ?_⟩
    obtain ⟨h1, o, ho, hdep⟩ := mem_ready.1 hi
    have ho' : l[i]? = some o := by simpa using ho
    have hio : i < l.length := by simpa using (Array.getElem?_eq_some_iff.1 ho).1
    have hil : i < listed.size := by omega
    have hf : d i = false := by
      rw [hd i hio]
      simpa [hil] using h1
    refine wpOp_mono ?_ (step i o ho' a d vals u hv hh hj hf fun e he hbn => ?_)
    · rintro a' w' ⟨v, rfl, hj'⟩
      have hh2 : Held a0 a l d (vals.set i v) := hh.congr fun j hdj => by
        have hne : i ≠ j := fun q => by subst q; rw [hf] at hdj; cases hdj
        rw [getD_set_ne hne]
      have hh3 := hh2.put hn ho'
      rw [getD_set_self (by omega)] at hh3
      refine ih (listed.setIfInBounds i true) _ w' (done d i) (vals.set i v) (by simpa using hv) (by simpa using hs) ?_ (fun j hjl => ?_) hh3 hj'
      · have hfalse : listed[i] = false := by simpa [hil] using h1
        rw [Array.toList_setIfInBounds, List.countP_set (by simpa using hil)]
        simp only [Array.countP_toList] at hc
        simp [hfalse]
        omega
      · by_cases e : j = i
        · subst e
          simp [done, hil]
        · simp only [done, e, if_false]
          rw [hd j hjl, Array.getD_eq_getD_getElem?, Array.getD_eq_getD_getElem?, Array.getElem?_setIfInBounds_ne (Ne.symm e)]
    · have h2 := hdep e he hbn
      have hlt := backB_spec hb ho he
      rw [hd e.on (by omega)]
      exact h2

/-- 'vals': what is left, as far as it is known ahead (anything elsewhere). -/
theorem wp_region_mix {P : Program} {id : Nat} {l : List Oper} {Q : Exit → Act → World → Prop} {a0 : Act} {w : World} (vals : List Value) (ps : List (Nat × Nat)) (J : (Nat → Bool) → List Value → World → Prop)
    (hm : P.follows .mixedOrders = true) (hb : backB l.toArray = true) (hn : slotsB a0.tmps.size l = true) (hp : pairsB l ps = true) (hv : vals.length = l.length) (h0 : J (fun _ => false) vals w.drew)
    (step : ∀ i o, l[i]? = some o → ∀ a d vals u, vals.length = l.length → Held a0 a l d vals → J d vals u → d i = false → (∀ e ∈ o.after, Region.binds .any e = true → d e.on = true) →
      wpOp P l.toArray Q i (fun a' w' => ∃ v, a' = a.put o.dst v ∧ J (done d i) (vals.set i v) w') a u)
    (fin : ∀ u d vals, vals.length = l.length → (∀ i, i < l.length → d i = true) → J d vals u → Q .normal ⟨(patch vals ps 0 a0.tmps.toList).toArray, a0.defers⟩ u) :
    (Code.region id l.toArray true).wp P Q a0 w := by
  refine wp_region_any hm (wpAny_mix (J := J) hb hn step (fun a u d vals hv hall hh hj => ?_) _ _ a0 _ (fun _ => false) vals hv (by simp) ?_ (fun i hi => by simp [hi]) ⟨rfl, rfl, (fun i o s _ _ h => absurd h (by simp)), fun _ _ => rfl⟩ h0)
  · rw [hh.patched ps hp hall]
    exact fin u d vals hv hall hj
  · exact Nat.le_trans List.countP_le_length (by simp)
end Go.Proofs.Ytahpnnjemjjfhaa
