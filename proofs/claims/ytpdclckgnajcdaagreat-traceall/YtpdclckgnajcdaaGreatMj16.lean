/-
  A region that draws its order with one call whose answer is new; a new program of package trace.
-/
import Derived.Test.YtpdclckgnajcdaaGreatTrJ
import Derived.Test.YtpdclckgnajcdaaGreatMix
namespace Go.Proofs.YtpdclckgnajcdaaGreat
open Go.RowKit

theorem norm_list' {Q : Exit → Act → World → Prop} {L L' : List Value} {ds : List Deferred} {u : World} (e : L = L') (h : Q .normal ⟨L'.toArray, ds⟩ u) : Q .normal ⟨L.toArray, ds⟩ u := e ▸ h
structure MJ (K : Nat → Option Value) (c e : Nat) (W0 : World → Prop) (W1 : Value → World → Prop) (d : Nat → Bool) (vals : List Value) (u : World) : Prop where
  kn : ∀ k V, K k = some V → d k = true → vals.getD k undef = V
  bf : d c = false → W0 u
  af : d c = true → W1 (vals.getD c undef) u
  la : d e = true → d c = true ∧ vals.getD e undef = vals.getD c undef ∧ d 0 = true
section
variable {K : Nat → Option Value} {c e : Nat} {W0 : World → Prop} {W1 : Value → World → Prop} {d : Nat → Bool} {vals : List Value} {u u' : World}
theorem MJ.kns (h : MJ K c e W0 W1 d vals u) {k : Nat} {v : Value} (hl : k < vals.length) (hK : ∀ V, K k = some V → v = V) : ∀ j V, K j = some V → done d k j = true → (vals.set k v).getD j undef = V := fun j V hj hd => by
  by_cases q : k = j
  · subst q
    rw [getD_set_self hl]
    exact hK V hj
  · rw [getD_set_ne q]
    exact h.kn j V hj (by simpa [done, Ne.symm q] using hd)
theorem MJ.plain (h : MJ K c e W0 W1 d vals u) (k : Nat) (V : Value) (hl : k < vals.length) (hc : k ≠ c) (he : k ≠ e) (hK : K k = some V) : MJ K c e W0 W1 (done d k) (vals.set k V) u := by
  have e1 : done d k c = d c := by simp [done, Ne.symm hc]
  have e2 : done d k e = d e := by simp [done, Ne.symm he]
  refine ⟨h.kns hl (fun V' q => by rw [hK] at q; simpa using q), by rw [e1]; exact h.bf, by rw [e1, getD_set_ne hc]; exact h.af, fun q => ?_⟩
  rw [e2] at q
  have := h.la q
  rw [e1, getD_set_ne he, getD_set_ne hc]
  refine ⟨this.1, this.2.1, ?_⟩
  simp only [done]
  split
  · rfl
  · exact this.2.2
theorem MJ.call (h : MJ K c e W0 W1 d vals u) {v : Value} (hl : c < vals.length) (hce : c ≠ e) (hi : d c = false) (hK : K c = none) (hw : W1 v u') : MJ K c e W0 W1 (done d c) (vals.set c v) u' := by
  refine ⟨h.kns hl (fun V q => by rw [hK] at q; cases q), fun q => by simp [done] at q, fun _ => by rw [getD_set_self hl]; exact hw, fun q => ?_⟩
  have e2 : done d c e = d e := by simp [done, Ne.symm hce]
  rw [e2] at q
  rw [(h.la q).1] at hi
  cases hi
theorem MJ.last (h : MJ K c e W0 W1 d vals u) (hl : e < vals.length) (hce : c ≠ e) (hd : d c = true) (hd0 : d 0 = true) (hK : K e = none) : MJ K c e W0 W1 (done d e) (vals.set e (vals.getD c undef)) u := by
  have e1 : done d e c = d c := by simp [done, hce]
  refine ⟨h.kns hl (fun V q => by rw [hK] at q; cases q), by rw [e1]; exact h.bf, by rw [e1, getD_set_ne (Ne.symm hce)]; exact h.af, fun _ => ⟨by rw [e1]; exact hd, by rw [getD_set_self hl, getD_set_ne (Ne.symm hce)], by simp [done, hd0]⟩⟩
  all_goals simp_all
end

/-- A new program: where it is, what it begins with. -/
def Newf (V : World) (q0 : Td) (n0 n1 : Int) (sl : Nat) (S : Nat → Sh) (R : Nat → Nat → Bool) (v : Value) (u : World) : Prop :=
  Kept V u ∧ ∃ p E, v = .pointer (some ⟨p, 0, none⟩) ∧ (∀ RT, TS u p E RT q0) ∧ V.heap.size ≤ p ∧ Began n0 n1 sl S R E
theorem trace_newf (n0 n1 n2 n3 n4 n5 n6 n7 : Int) (sx : Option Addr) (sl sc : Nat) (S : Nat → Sh) (R : Nat → Nat → Bool) (head : Int) (V u : World) (hK : Kept V u) (hS : Shps u sx sl S) (hR : ∀ i, i < sl → Refs u (S i).x (S i).l (R i)) (hg : Good n0 n1 n2 n3 n4 n5 n6 n7 sl S) (hh : 0 ≤ head ∧ head < n0) :
    Calls Tryz.prog 20 #[.agg #[.int .i64 n0, .int .i64 n1, .int .i64 n2, .int .i64 n3, .int .i64 n4, .int .i64 n5, .int .i64 n6, .int .i64 n7, .slice sx sl sc], .int .i64 head, .bool true] u fun e u' => ∃ v, e = .returned v ∧ Newf V (td0 head true) n0 n1 sl S R v u' := by
  refine (tnew_is n0 n1 n2 n3 n4 n5 n6 n7 sx sl sc S R head true (fun _ => true) u hS hR hg hh).mono ?_
  rintro e u' ⟨p, E, rfl, hF, hp, K, hE⟩
  exact ⟨_, rfl, hK.trans K, p, E, rfl, fun RT => ⟨hF.b, hF.row, hF.cop, hF.pg, hF.ok, fun h0 => absurd h0 (by simp [td0]), fun k o h0 => absurd h0 (by simp [td0])⟩, by have := hK.size; omega, hE⟩
end Go.Proofs.YtpdclckgnajcdaaGreat
