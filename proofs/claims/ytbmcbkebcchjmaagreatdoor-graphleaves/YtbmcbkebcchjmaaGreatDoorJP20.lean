/-
  In the midst of a statement whose order is drawn, one or two of whose operations turn the world: what is known of it.
-/
import Derived.Test.YtbmcbkebcchjmaaGreatDoorPhase
namespace Go.Proofs.YtbmcbkebcchjmaaGreatDoor
open Go.RowKit

/-- Operation c turns the world; those of rs come ahead of it. -/
def JP (c : Nat) (rs : List Nat) (P0 P1 : World → Prop) (d : Nat → Bool) (u : World) : Prop := (d c = true → ∀ r ∈ rs, d r = true) ∧ (if d c then P1 u else P0 u)
section
variable {c : Nat} {rs : List Nat} {P0 P1 : World → Prop} {d : Nat → Bool} {u : World}
theorem JP.start (h : P0 u) : JP c rs P0 P1 (fun _ => false) u := ⟨fun e => absurd e (by simp), by simpa using h⟩
theorem done_up (d : Nat → Bool) (k : Nat) {r : Nat} (h : d r = true) : done d k r = true := by
  unfold done; split <;> simp [h]
theorem JP.plain (h : JP c rs P0 P1 d u) (k : Nat) (hk : k ≠ c) : JP c rs P0 P1 (done d k) u := by
  have e : done d k c = d c := by simp [done, Ne.symm hk]
  refine ⟨fun q r hr => done_up d k (h.1 (e ▸ q) r hr), ?_⟩
  rw [e]; exact h.2
theorem JP.early (h : JP c rs P0 P1 d u) {k : Nat} (hk : d k = false) (hm : k ∈ rs) : P0 u := by
  have e : d c = false := by
    cases q : d c
    · rfl
    · rw [h.1 q k hm] at hk; cases hk
  simpa [e] using h.2
theorem JP.now (h : JP c rs P0 P1 d u) (hk : d c = false) : P0 u := by simpa [hk] using h.2
theorem JP.stay (h : JP c rs P0 P1 d u) (nc : d c = false) (k : Nat) (hk : k ≠ c) {u' : World} (h' : P0 u') : JP c rs P0 P1 (done d k) u' := by
  have e : done d k c = d c := by simp [done, Ne.symm hk]
  refine ⟨fun q r hr => done_up d k (h.1 (e ▸ q) r hr), ?_⟩
  rw [e, nc]; exact h'
theorem JP.turn (hr : ∀ r ∈ rs, d r = true) {u' : World} (h : P1 u') : JP c rs P0 P1 (done d c) u' :=
  ⟨fun _ r q => done_up d c (hr r q), by simpa [done] using h⟩
theorem JP.fin (h : JP c rs P0 P1 d u) (hc : d c = true) : P1 u := by simpa [hc] using h.2
end

/-- Operation c turns the world, and then operation s does; those of rs come ahead of c, those of rt ahead of s. -/
def JQ (c s : Nat) (rs rt : List Nat) (P0 P1 P2 : World → Prop) (d : Nat → Bool) (u : World) : Prop :=
  (d c = true → ∀ r ∈ rs, d r = true) ∧ (d s = true → d c = true ∧ ∀ r ∈ rt, d r = true) ∧ (if d s then P2 u else if d c then P1 u else P0 u)
section
variable {c s : Nat} {rs rt : List Nat} {P0 P1 P2 : World → Prop} {d : Nat → Bool} {u : World}
theorem JQ.start (h : P0 u) : JQ c s rs rt P0 P1 P2 (fun _ => false) u := ⟨fun e => absurd e (by simp), fun e => absurd e (by simp), by simpa using h⟩
theorem JQ.plain (h : JQ c s rs rt P0 P1 P2 d u) (k : Nat) (hk : k ≠ c) (hs : k ≠ s) : JQ c s rs rt P0 P1 P2 (done d k) u := by
  have e : done d k c = d c := by simp [done, Ne.symm hk]
  have e2 : done d k s = d s := by simp [done, Ne.symm hs]
  refine ⟨fun q r hr => done_up d k (h.1 (e ▸ q) r hr), fun q => ?_, ?_⟩
  · obtain ⟨a, b⟩ := h.2.1 (e2 ▸ q)
    exact ⟨done_up d k a, fun r hr => done_up d k (b r hr)⟩
  · rw [e, e2]; exact h.2.2
theorem JQ.early (h : JQ c s rs rt P0 P1 P2 d u) {k : Nat} (hk : d k = false) (hm : k ∈ rs) : P0 u := by
  have e : d c = false := by
    cases q : d c
    · rfl
    · rw [h.1 q k hm] at hk; cases hk
  have e2 : d s = false := by
    cases q : d s
    · rfl
    · rw [(h.2.1 q).1] at e; cases e
  simpa [e, e2] using h.2.2
theorem JQ.mid (h : JQ c s rs rt P0 P1 P2 d u) {k : Nat} (hk : d k = false) (hm : k ∈ rt) : P0 u ∨ P1 u := by
  have e2 : d s = false := by
    cases q : d s
    · rfl
    · rw [(h.2.1 q).2 k hm] at hk; cases hk
  have := h.2.2
  rw [e2] at this
  simp only [if_false, Bool.false_eq_true] at this
  split at this
  · exact .inr this
  · exact .inl this
theorem JQ.now (h : JQ c s rs rt P0 P1 P2 d u) (hk : d c = false) : P0 u := by
  have e2 : d s = false := by
    cases q : d s
    · rfl
    · rw [(h.2.1 q).1] at hk; cases hk
  simpa [hk, e2] using h.2.2
theorem JQ.turn (h : JQ c s rs rt P0 P1 P2 d u) (hk : d c = false) (hne : c ≠ s) (hr : ∀ r ∈ rs, d r = true) {u' : World} (hp : P1 u') : JQ c s rs rt P0 P1 P2 (done d c) u' := by
  have e2 : d s = false := by
    cases q : d s
    · rfl
    · rw [(h.2.1 q).1] at hk; cases hk
  have e3 : done d c s = false := by simp [done, Ne.symm hne, e2]
  refine ⟨fun _ r q => done_up d c (hr r q), fun q => ?_, ?_⟩
  · rw [e3] at q; cases q
  · rw [e3]; simpa [done] using hp
theorem JQ.now2 (h : JQ c s rs rt P0 P1 P2 d u) (hc : d c = true) (hk : d s = false) : P1 u := by simpa [hc, hk] using h.2.2
theorem JQ.turn2 (h : JQ c s rs rt P0 P1 P2 d u) (hc : d c = true) (hr : ∀ r ∈ rt, d r = true) {u' : World} (hp : P2 u') : JQ c s rs rt P0 P1 P2 (done d s) u' := by
  refine ⟨fun _ r q => done_up d s (h.1 hc r q), fun _ => ⟨done_up d s hc, fun r q => done_up d s (hr r q)⟩, by simpa [done] using hp⟩
theorem JQ.fin (h : JQ c s rs rt P0 P1 P2 d u) (hs : d s = true) : P2 u := by simpa [hs] using h.2.2
end
/-- What is done is closed: what an operation waits for has been done. -/
def Cl (l : List Oper) (d : Nat → Bool) : Prop := ∀ i o, l[i]? = some o → d i = true → ∀ e ∈ o.after, Region.binds .any e = true → d e.on = true
theorem Cl.step {l : List Oper} {d : Nat → Bool} (h : Cl l d) {i : Nat} {o : Oper} (ho : l[i]? = some o) (hd : ∀ e ∈ o.after, Region.binds .any e = true → d e.on = true) : Cl l (done d i) := fun j x hx hj e he hb => by
  by_cases q : j = i
  · subst q
    rw [ho] at hx
    obtain rfl : o = x := Option.some.inj hx
    exact done_up d j (hd e he hb)
  · exact done_up d i (h j x hx (by simpa [done, q] using hj) e he hb)

theorem wp_region_phaseC {P : Program} {id : Nat} {l : List Oper} {Q : Exit → Act → World → Prop} {a0 : Act} {w : World} (vals : List Value) (ps : List (Nat × Nat)) (L : List Value) (J : (Nat → Bool) → World → Prop)
    (hm : P.follows .mixedOrders = true) (hb : backB l.toArray = true) (hn : slotsB a0.tmps.size l = true) (hp : pairsB l ps = true) (hL : patch vals ps 0 a0.tmps.toList = L) (h0 : J (fun _ => false) w.drew)
    (step : ∀ i o, l[i]? = some o → ∀ a d u, Held a0 a l d vals → J d u → d i = false → (∀ e ∈ o.after, Region.binds .any e = true → d e.on = true) → Cl l d →
      wpOp P l.toArray Q i (fun a' w' => a' = a.put o.dst (vals.getD i undef) ∧ J (done d i) w') a u)
    (fin : ∀ u d, (∀ i, i < l.length → d i = true) → J d u → Q .normal ⟨L.toArray, a0.defers⟩ u) : (Code.region id l.toArray true).wp P Q a0 w :=
  wp_region_phase vals ps L (fun d u => Cl l d ∧ J d u) hm hb hn hp hL ⟨fun i o _ h => absurd h (by simp), h0⟩
    (fun i o ho a d u hh hj hi hd => wpOp_mono (fun a' w' ⟨e, h⟩ => ⟨e, hj.1.step ho hd, h⟩) (step i o ho a d u hh hj.2 hi hd hj.1)) (fun u d hall hj => fin u d hall hj.2)
end Go.Proofs.YtbmcbkebcchjmaaGreatDoor
