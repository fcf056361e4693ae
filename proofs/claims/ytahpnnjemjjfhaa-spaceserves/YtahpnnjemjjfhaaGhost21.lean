/-
  A region that draws its order, whose values are known but for a ghost (of type G) that a call chooses.
-/
import Derived.Test.YtahpnnjemjjfhaaMix
namespace Go.Proofs.Ytahpnnjemjjfhaa
open Go.RowKit

theorem done_up (d : Nat → Bool) (k : Nat) {r : Nat} (h : d r = true) : done d k r = true := by
  unfold done; split <;> simp [h]
/-- Operation c turns the world; those of rs come ahead of it. -/
def JP (c : Nat) (rs : List Nat) (P0 P1 : World → Prop) (d : Nat → Bool) (u : World) : Prop := (d c = true → ∀ r ∈ rs, d r = true) ∧ (if d c then P1 u else P0 u)
section
variable {c : Nat} {rs : List Nat} {P0 P1 : World → Prop} {d : Nat → Bool} {u : World}
theorem JP.start (h : P0 u) : JP c rs P0 P1 (fun _ => false) u := ⟨fun e => absurd e (by simp), by simpa using h⟩
theorem JP.plain (h : JP c rs P0 P1 d u) (k : Nat) (hk : k ≠ c) : JP c rs P0 P1 (done d k) u := by
  have e : done d k c = d c := by simp [done, Ne.symm hk]
  refine ⟨fun q r hr => done_up d k (h.1 (e ▸ q) r hr), ?_⟩
  rw [e]; exact h.2
theorem JP.now (h : JP c rs P0 P1 d u) (hk : d c = false) : P0 u := by simpa [hk] using h.2
theorem JP.now1 (h : JP c rs P0 P1 d u) (hk : d c = true) : P1 u := by simpa [hk] using h.2
theorem JP.stay (h : JP c rs P0 P1 d u) (nc : d c = false) (k : Nat) (hk : k ≠ c) {u' : World} (h' : P0 u') : JP c rs P0 P1 (done d k) u' := by
  have e : done d k c = d c := by simp [done, Ne.symm hk]
  refine ⟨fun q r hr => done_up d k (h.1 (e ▸ q) r hr), ?_⟩
  rw [e, nc]; exact h'
theorem JP.stay1 (h : JP c rs P0 P1 d u) (nc : d c = true) (k : Nat) (hk : k ≠ c) {u' : World} (h' : P1 u') : JP c rs P0 P1 (done d k) u' := by
  have e : done d k c = d c := by simp [done, Ne.symm hk]
  refine ⟨fun q r hr => done_up d k (h.1 (e ▸ q) r hr), ?_⟩
  rw [e, nc]; exact h'
theorem JP.turn (hr : ∀ r ∈ rs, d r = true) {u' : World} (h : P1 u') : JP c rs P0 P1 (done d c) u' :=
  ⟨fun _ r q => done_up d c (hr r q), by simpa [done] using h⟩
theorem JP.fin (h : JP c rs P0 P1 d u) (hc : d c = true) : P1 u := by simpa [hc] using h.2
end

/-- What is done is closed: what an operation waits for has been done. -/
def Cl (l : List Oper) (d : Nat → Bool) : Prop := ∀ i o, l[i]? = some o → d i = true → ∀ e ∈ o.after, Region.binds .any e = true → d e.on = true
theorem Cl.step {l : List Oper} {d : Nat → Bool} (h : Cl l d) {i : Nat} {o : Oper} (ho : l[i]? = some o) (hd : ∀ e ∈ o.after, Region.binds .any e = true → d e.on = true) : Cl l (done d i) := fun j x hx hj e he hb => by
  by_cases q : j = i
  · subst q
    rw [ho] at hx
    obtain rfl : o = x := Option.some.inj hx
    exact done_up d j (hd e he hb)
  · exact done_up d i (h j x hx (by simpa [done, q] using hj) e he hb)

theorem norm_list' {Q : Exit → Act → World → Prop} {L L' : List Value} {ds : List Deferred} {u : World} (e : L = L') (h : Q .normal ⟨L'.toArray, ds⟩ u) : Q .normal ⟨L.toArray, ds⟩ u := e ▸ h

theorem patch_congr {v1 v2 : List Value} (h : ∀ j, v1.getD j undef = v2.getD j undef) : ∀ (L : List Value) (ps : List (Nat × Nat)) (n : Nat), patch v1 ps n L = patch v2 ps n L
  | [], [], _ => by simp [patch]
  | [], _ :: _, _ => by simp [patch]
  | _ :: _, [], _ => by simp [patch]
  | x :: xs, p :: ps, n => by
    rw [patch, patch, h, patch_congr h xs ps, patch_congr h xs (p :: ps)]

theorem wp_region_ghost {P : Program} {id : Nat} {l : List Oper} {Q : Exit → Act → World → Prop} {a0 : Act} {w : World} {G : Type} (K : G → List Value) (ps : List (Nat × Nat)) (J : G → (Nat → Bool) → World → Prop)
    (hm : P.follows .mixedOrders = true) (hb : backB l.toArray = true) (hn : slotsB a0.tmps.size l = true) (hp : pairsB l ps = true) (hv : ∀ g, (K g).length = l.length) (h0 : ∃ g, J g (fun _ => false) w.drew)
    (step : ∀ i o, l[i]? = some o → ∀ g a d u, Held a0 a l d (K g) → J g d u → d i = false → (∀ e ∈ o.after, Region.binds .any e = true → d e.on = true) → Cl l d →
      wpOp P l.toArray Q i (fun a' w' => ∃ g', (∀ j, d j = true → (K g').getD j undef = (K g).getD j undef) ∧ a' = a.put o.dst ((K g').getD i undef) ∧ J g' (done d i) w') a u)
    (fin : ∀ g u d, (∀ i, i < l.length → d i = true) → J g d u → Q .normal ⟨(patch (K g) ps 0 a0.tmps.toList).toArray, a0.defers⟩ u) :
    (Code.region id l.toArray true).wp P Q a0 w := by
  obtain ⟨g0, h0⟩ := h0
  refine wp_region_mix (K g0) ps (fun d vals u => Cl l d ∧ ∃ g, (∀ j, d j = true → vals.getD j undef = (K g).getD j undef) ∧ J g d u) hm hb hn hp (hv g0) ⟨fun i o _ h => absurd h (by simp), g0, fun _ _ => rfl, h0⟩ ?_ ?_
  · rintro i o ho a d vals u hvl hh ⟨hc, g, hk, hj⟩ hi hd
    refine wpOp_mono (fun a' w' h => ?_) (step i o ho g a d u (hh.congr hk) hj hi hd hc)
    obtain ⟨g', e1, e2, e3⟩ := h
    have hil : i < vals.length := by rw [hvl]; exact (List.getElem?_eq_some_iff.1 ho).1
    refine ⟨_, e2, hc.step ho hd, g', fun j hj => ?_, e3⟩
    by_cases q : i = j
    · subst q
      rw [getD_set_self hil]
    · rw [getD_set_ne q, e1 j (by simpa [done, Ne.symm q] using hj), hk j (by simpa [done, Ne.symm q] using hj)]
  · rintro u d vals hvl hall ⟨hc, g, hk, hj⟩
    have e : patch vals ps 0 a0.tmps.toList = patch (K g) ps 0 a0.tmps.toList := patch_congr (fun j => by
      by_cases q : j < l.length
      · exact hk j (hall j q)
      · have q1 : vals[j]? = none := List.getElem?_eq_none (by omega)
        have q2 : (K g)[j]? = none := List.getElem?_eq_none (by rw [hv]; omega)
        rw [List.getD_eq_getElem?_getD, List.getD_eq_getElem?_getD, q1, q2]) _ _ _
    rw [e]
    exact fin g u d hall hj
end Go.Proofs.Ytahpnnjemjjfhaa
