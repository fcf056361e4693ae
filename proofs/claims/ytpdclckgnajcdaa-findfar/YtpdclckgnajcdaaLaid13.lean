/-
  What is laid: each write is of a word that there is, no two of one; what memory holds behind them.
-/
import Derived.Test.YtpdclckgnajcdaaMj13
namespace Go.Proofs.Ytpdclckgnajcdaa
open Go.RowKit

theorem obj_laid {n0 n1 n2 : Int} {L : Nat → Int} {l n' : Nat} (kind : Int) (R : Nat → Bool) (fl : Nat) (hf : Frs L l n0) (ht : ¬ Twice L l) (h1 : 0 ≤ n1) (h2 : 0 ≤ n2) (hn : (n' : Int) = 8 * n0 + 2 * n1 + n2) :
    (∀ i, i < 8 * l → ∃ a : Nat, a < n' ∧ (objF kind R L l fl i).a = (a : Int)) ∧ Has n' (8 * l) (wrt (objF kind R L l fl) (8 * l)) (objF kind R L l fl) := by
  have hb : ∀ i, i < 8 * l → 0 ≤ (objF kind R L l fl i).a ∧ (objF kind R L l fl i).a < n' := fun i hi => by
    have := hf (i / 8) (by omega)
    simp only [objF]
    omega
  refine ⟨fun i hi => ⟨(objF kind R L l fl i).a.toNat, by have := hb i hi; omega, by have := hb i hi; omega⟩, has_wrt hb fun i hi k hk => ?_⟩
  simp only [objF]
  exact onc_frag_ne ht hi hk

theorem arr_laid {n0 n1 n2 : Int} {L : Nat → Int} {l n' : Nat} (kind n : Int) (R : Nat → Bool) (at' : Int) (hf : Frs L l n0) (ht : ¬ Twice L l) (h0 : 0 ≤ n0) (h1 : 0 ≤ n1) (h2 : 0 ≤ n2) (hn : (n' : Int) = 8 * n0 + 2 * n1 + n2) (hF : modeA n L l = 1 → Fit n0 n1 at' (l + 1)) :
    (∀ i, i < 8 * l + spN n L l → ∃ a : Nat, a < n' ∧ (arrF kind n (modeA n L l) R L l at' i).a = (a : Int)) ∧ Has n' (8 * l + spN n L l) (wrt (arrF kind n (modeA n L l) R L l at') (8 * l + spN n L l)) (arrF kind n (modeA n L l) R L l at') := by
  have hlo : ∀ i, i < 8 * l → (arrF kind n (modeA n L l) R L l at' i).a = L (i / 8) * 8 + ((i % 8 : Nat) : Int) := fun i hi => by
    unfold arrF
    rw [if_pos (by omega)]
  have hhi : ∀ i, 8 * l ≤ i → (arrF kind n (modeA n L l) R L l at' i).a = at' + ((i - 8 * l : Nat) : Int) := fun i hi => by
    unfold arrF
    rw [if_neg (by omega), show i - l * 8 = i - 8 * l by omega]
  have hsp : ∀ i, 8 * l ≤ i → i < 8 * l + spN n L l → Fit n0 n1 at' (l + 1) ∧ i < 8 * l + (l + 1) := fun i h1 h2 => by
    unfold spN at h2
    split at h2
    · rename_i q; exact ⟨hF q, by omega⟩
    · omega
  have hb : ∀ i, i < 8 * l + spN n L l → 0 ≤ (arrF kind n (modeA n L l) R L l at' i).a ∧ (arrF kind n (modeA n L l) R L l at' i).a < n' := fun i hi => by
    by_cases q : i < 8 * l
    · have := hf (i / 8) (by omega)
      rw [hlo i q]
      omega
    · obtain ⟨hFit, hi2⟩ := hsp i (by omega) hi
      rw [hhi i (by omega)]
      rcases hFit with r | r <;> omega
  refine ⟨fun i hi => ⟨(arrF kind n (modeA n L l) R L l at' i).a.toNat, by have := hb i hi; omega, by have := hb i hi; omega⟩, has_wrt hb fun i hi k hk => ?_⟩
  by_cases q : i < 8 * l
  · rw [hlo i q, hlo k (by omega)]
    exact onc_frag_ne ht q hk
  · obtain ⟨hFit, hi2⟩ := hsp i (by omega) hi
    rw [hhi i (by omega)]
    by_cases q2 : k < 8 * l
    · have := hf (k / 8) (by omega)
      rw [hlo k q2]
      rcases hFit with r | r <;> omega
    · rw [hhi k (by omega)]
      omega
theorem fits_nn {n0 n1 n2 n3 n4 n5 n6 n7 : Int} (h : Fits n0 n1 n2 n3 n4 n5 n6 n7) : 0 ≤ n0 ∧ 0 ≤ n1 ∧ 0 ≤ n2 ∧ 8 * n0 + 2 * n1 + n2 ≤ 100000 := by
  unfold Fits at h
  omega
end Go.Proofs.Ytpdclckgnajcdaa
