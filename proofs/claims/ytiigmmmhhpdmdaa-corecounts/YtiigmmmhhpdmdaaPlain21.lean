/-
  A space as plain values: what the laws ask of it.
-/
import Derived.Test.YtiigmmmhhpdmdaaB17
namespace Go.Proofs.Ytiigmmmhhpdmdaa
open Go.RowKit

section
variable {c : Nat → Nat} {w : World} {A : Ad} {S : Sp}
/-- The table and the pool, alike below n. -/
theorem SH.like (h : SH w c A S) {T : Nat → Fr} {F : Nat → Bool} (hT : ∀ j, j < S.n → S.T j = T j) (hF : ∀ j, j < S.n → S.F j = F j) : SH w c A { S with T := T, F := F } :=
  ⟨h.head, ⟨h.tab.head, h.tab.row.congr fun j hj => by
    have := hT (j / 3) (by omega)
    simp only [fc, this], h.tab.few⟩, h.pool.congr hF, h.line, h.coil, h.row, h.stk, h.shp, h.shc, h.good, h.n0, h.n1, h.ctb, h.ctg, h.cpb, h.cpg, h.ckb, h.cb, h.csb, h.few, h.low⟩
end

/-- Alike, as far as one can see. -/
structure Eqv (S S' : Sp) : Prop where
  n : S.n = S'.n
  T : ∀ j, j < S.n → S.T j = S'.T j
  F : ∀ j, j < S.n → S.F j = S'.F j
  E : S.E = S'.E
  K : S.K = S'.K
  m : S.m = S'.m
  most : S.most = S'.most
  Q : ∀ i, i < S.m → S.Q i = S'.Q i
  fo : S.fo = S'.fo
  ct : S.ct = S'.ct
theorem SH.eqv {c : Nat → Nat} {w : World} {A : Ad} {S S' : Sp} (h : SH w c A S) (e : Eqv S S') : SH w c A S' := by
  obtain ⟨n', T', F', E', K', m', most', Q', fo', ct'⟩ := S'
  obtain ⟨e1, e2, e3, e4, e5, e6, e7, e8, e9, e10⟩ := e
  simp only at *
  subst e1 e4 e5 e6 e7 e9 e10
  have h2 := h.like e2 e3
  exact ⟨h2.head, h2.tab, h2.pool, h2.line, h2.coil, h2.row, fun i hi => by
    obtain ⟨v, s1, s2⟩ := h2.stk i hi
    refine ⟨v, ?_, s2⟩
    have e : S.Q i = Q' i := e8 i hi
    show STab _ w 0 (A.q i) S.most v (Q' i)
    rw [← e]
    exact s1, h2.shp, h2.shc, h2.good, h2.n0, h2.n1, h2.ctb, h2.ctg, h2.cpb, h2.cpg, h2.ckb, h2.cb, h2.csb, h2.few, h2.low⟩

/-- Set one after another: each of L has the state z. -/
theorem useT_at {n : Nat} {z : Int} {se : Bool} (hz : isSt z = true) : ∀ (L : List Int) (T : Nat → Fr) {j : Nat}, j < n → useT n z se T L j = if (j : Int) ∈ L then ⟨z, false, se⟩ else T j
  | [], T, j, _ => by simp [useT]
  | x :: L, T, j, hj => by
    have ih := useT_at (se := se) hz L (setT n T x z false se) hj
    rw [show useT n z se T (x :: L) = useT n z se (setT n T x z false se) L from rfl, ih]
    by_cases h1 : (j : Int) ∈ L
    · simp [h1]
    · by_cases h2 : (j : Int) = x
      · subst h2
        have h3 : inn n (j : Int) = true := tinn_of hj
        simp [h1, setT, h3, hz]
      · have h4 : ¬ (j : Int) ∈ x :: L := by simp [h1, h2]
        rw [if_neg h1, if_neg h4]
        unfold setT
        split
        · rename_i hi
          simp only [Bool.and_eq_true] at hi
          obtain ⟨k, rfl, hk⟩ := tinn_iff hi.1
          have : j ≠ k := fun q => h2 (by rw [q])
          simp [this]
        · rfl

theorem setT_at {n k : Nat} {z : Int} {se : Bool} {T : Nat → Fr} (hz : isSt z = true) (hk : k < n) (j : Nat) : setT n T (k : Int) z false se j = if j = k then ⟨z, false, se⟩ else T j := by
  have h1 : inn n (k : Int) = true := tinn_of hk
  unfold setT
  rw [h1, hz]
  simp
theorem giveF_at {n k : Nat} {F : Nat → Bool} (hk : k < n) (hf : F k = false) (j : Nat) : giveF n F (k : Int) j = if j = k then true else F j := by
  have h1 : inn n (k : Int) = true := tinn_of hk
  have h2 : giveB n F (k : Int) = true := by unfold giveB; rw [h1, Int.toNat_natCast, hf]; rfl
  unfold giveF
  rw [if_pos h2, Int.toNat_natCast]
  rfl
theorem cntB_drop {F : Nat → Bool} {L : List Nat} : ∀ {n : Nat}, L.Nodup → (∀ x ∈ L, x < n ∧ F x = true) → cntB (dropF F L) n + L.length = cntB F n := by
  induction L generalizing F with
  | nil => intro n _ _; simp [dropF_nil]
  | cons x L ih =>
    intro n hn hm
    obtain ⟨h1, h2⟩ := List.nodup_cons.1 hn
    obtain ⟨hx, hfx⟩ := hm x (by simp)
    have e : dropF F (x :: L) = dropF (setB F x false) L := by
      funext j
      by_cases q : j = x
      · subst q; simp [dropF, setB]
      · simp [dropF, setB, q]
    have hs : ∀ y ∈ L, y < n ∧ setB F x false y = true := fun y hy => by
      have := hm y (by simp [hy])
      have hne : y ≠ x := fun q => h1 (q ▸ hy)
      exact ⟨this.1, by rw [setB_other F false hne]; exact this.2⟩
    have := ih (F := setB F x false) (n := n) h2 hs
    have e2 : setB (setB F x false) x true = F := by
      funext j
      by_cases q : j = x
      · subst q; simp [setB, hfx]
      · simp [setB, q]
    have := cntB_set_true (F := setB F x false) (i := x) (by simp [setB]) hx
    rw [e2] at this
    rw [e, List.length_cons]
    omega

theorem freeU_nodup (F : Nat → Bool) (a : Nat) : ∀ n, (freeU F a n).Nodup
  | 0 => List.nodup_nil
  | n + 1 => by
    rw [freeU, List.nodup_append]
    refine ⟨freeU_nodup F a n, by split <;> simp, fun x hx y hy => ?_⟩
    have := (freeU_mem.1 hx).2.1
    split at hy
    · simp at hy; omega
    · simp at hy
/-- What is taken: free ones, each once. -/
theorem takeL_ok {n : Nat} {F : Nat → Bool} {k : Int} (h : takeB n F k = true) : (takeL n F k).Nodup ∧ (∀ x ∈ takeL n F k, x < n ∧ F x = true) ∧ (takeL n F k).length = k.toNat := by
  refine ⟨?_, ?_, takeL_len h⟩
  · rw [takeL, if_pos h]
    cases runO n F k with
    | some a => exact List.nodup_range'
    | none => exact (freeU_nodup F 0 n).sublist (List.take_sublist _ _)
  · intro x hx
    rw [takeL, if_pos h] at hx
    cases hr : runO n F k with
    | some a =>
      rw [hr] at hx
      obtain ⟨m, rfl, h1, h2, h3, _⟩ := runO_inv hr
      simp only [Int.toNat_natCast, List.mem_range'_1] at hx
      refine ⟨by omega, ?_⟩
      have := h3 (x - a) (by omega)
      rwa [show a + (x - a) = x by omega] at this
    | none =>
      rw [hr] at hx
      have := freeU_mem.1 (List.mem_of_mem_take hx)
      exact ⟨this.2.1, this.2.2⟩
theorem lowL_ok {n : Nat} {F : Nat → Bool} {k : Int} : (lowL n F k).Nodup ∧ (∀ x ∈ lowL n F k, x < n ∧ F x = true) ∧ (lowL n F k).length = min k.toNat (cntB F n) := by
  refine ⟨(freeU_nodup F 0 n).sublist (List.take_sublist _ _), fun x hx => ?_, lowL_len n F k⟩
  have := freeU_mem.1 (List.mem_of_mem_take hx)
  exact ⟨this.2.1, this.2.2⟩

/-- Granted at once, out of what is free, without a spine. -/
theorem ask_now {S : Sp} {t fr : Int} (se : Bool) (hm : S.may t fr 0 = true) (hq : ((S.Q t.toNat).length : Int) < fr) (hw : (wts S.E).length = 0) (hc : fr ≤ (cntB S.F S.n : Int)) :
    S.askG t fr 0 = ⟨1, takeZ S.n S.F fr, -1⟩ ∧ S.ask t fr 0 se = (S.tick.tk fr 0 se).fill t.toNat := by
  have h1 : decide (fr ≤ ((S.Q t.toNat).length : Int)) = false := by simp; omega
  have h2 : fitsB S fr 0 = true := by simp [fitsB]; omega
  constructor
  · unfold Sp.askG
    rw [if_pos hm, h1, hw, h2]
    simp [Sp.tkA]
  · unfold Sp.ask
    rw [if_pos hm, h1, hw, h2]
    simp
/-- Nothing is kept: nothing is filled. -/
theorem fill_none {S : Sp} {i : Nat} (h : ((S.Q i).length : Int) = S.most) : Eqv (S.fill i) S := by
  have e : S.lw i = [] := by
    unfold Sp.lw lowL
    rw [h]
    simp
  have e2 : S.lwZ i = [] := by unfold Sp.lwZ; rw [e]; rfl
  refine ⟨rfl, fun j _ => ?_, fun j _ => ?_, rfl, rfl, rfl, rfl, fun j _ => ?_, rfl, rfl⟩
  · unfold Sp.fill; rw [e2]; rfl
  · unfold Sp.fill; rw [e, dropF_nil]
  · unfold Sp.fill
    rw [e2]
    by_cases q : j = i
    · subst q; simp
    · simp [q]
theorem Eqv.trans {S S' S'' : Sp} (h : Eqv S S') (k : Eqv S' S'') : Eqv S S'' :=
  ⟨h.n.trans k.n, fun j hj => (h.T j hj).trans (k.T j (h.n ▸ hj)), fun j hj => (h.F j hj).trans (k.F j (h.n ▸ hj)), h.E.trans k.E, h.K.trans k.K, h.m.trans k.m, h.most.trans k.most, fun i hi => (h.Q i hi).trans (k.Q i (h.m ▸ hi)), h.fo.trans k.fo, h.ct.trans k.ct⟩
end Go.Proofs.Ytiigmmmhhpdmdaa
