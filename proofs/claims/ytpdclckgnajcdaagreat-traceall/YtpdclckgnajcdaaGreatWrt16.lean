/-
  What memory holds behind a row of writes.
-/
import Derived.Test.YtpdclckgnajcdaaGreatPlan10
namespace Go.Proofs.YtpdclckgnajcdaaGreat
open Go.RowKit

def wrt (f : Nat → Wr) : Nat → Nat → Cx
  | 0, _ => cz
  | k + 1, a => if (f k).a = (a : Int) then (f k).z else wrt f k a
theorem wrt_get {f : Nat → Wr} : ∀ {N : Nat}, (∀ i, i < N → ∀ k, k < i → (f k).a ≠ (f i).a) → ∀ {i a : Nat}, i < N → (f i).a = (a : Int) → wrt f N a = (f i).z
  | 0, _, _, _, h, _ => absurd h (Nat.not_lt_zero _)
  | N + 1, hd, i, a, hi, ha => by
    by_cases e : i = N
    · subst e
      rw [wrt, if_pos ha]
    · have hne := hd N (by omega) i (by omega)
      rw [wrt, if_neg (fun q => hne (ha.trans q.symm))]
      exact wrt_get (fun i hi => hd i (by omega)) (by omega) ha
theorem wrt_step {f : Nat → Wr} {k a : Nat} (ha : (f k).a = (a : Int)) (j : Nat) : (if j = a then (f k).z else wrt f k j) = wrt f (k + 1) j := by
  rw [wrt, ha]
  by_cases e : j = a
  · rw [if_pos e, if_pos (by omega)]
  · rw [if_neg e, if_neg (by omega)]
/-- What was written is there. -/
def Has (n N : Nat) (F : Nat → Cx) (f : Nat → Wr) : Prop := ∀ i, i < N → ∃ a : Nat, a < n ∧ (f i).a = (a : Int) ∧ F a = (f i).z
theorem has_wrt {f : Nat → Wr} {n N : Nat} (hb : ∀ i, i < N → 0 ≤ (f i).a ∧ (f i).a < n) (hd : ∀ i, i < N → ∀ k, k < i → (f k).a ≠ (f i).a) : Has n N (wrt f N) f := fun i hi => by
  have := hb i hi
  have e : (f i).a = (((f i).a.toNat : Nat) : Int) := (Int.toNat_of_nonneg this.1).symm
  exact ⟨(f i).a.toNat, by omega, e, wrt_get hd hi e⟩
theorem objF_at (kind : Int) (R : Nat → Bool) (L : Nat → Int) (l fl j c : Nat) (hc : c < 8) : (objF kind R L l fl (8 * j + c)).a = L j * 8 + (c : Int) ∧ (objF kind R L l fl (8 * j + c)).z = objW kind R L l fl j c := by
  have e1 : (8 * j + c) / 8 = j := by omega
  have e2 : (8 * j + c) % 8 = c := by omega
  simp only [objF, e1, e2]
  exact ⟨trivial, trivial⟩
theorem arrF_at (kind n mode : Int) (R : Nat → Bool) (L : Nat → Int) (l : Nat) (at' : Int) (j c : Nat) (hj : j < l) (hc : c < 8) : (arrF kind n mode R L l at' (8 * j + c)).a = L j * 8 + (c : Int) ∧ (arrF kind n mode R L l at' (8 * j + c)).z = arrW kind n mode R L l at' j c := by
  have e1 : (8 * j + c) / 8 = j := by omega
  have e2 : (8 * j + c) % 8 = c := by omega
  have e3 : 8 * j + c < l * 8 := by omega
  simp only [arrF, e1, e2, if_pos e3]
  exact ⟨trivial, trivial⟩
theorem arrF_sp (kind n mode : Int) (R : Nat → Bool) (L : Nat → Int) (l : Nat) (at' : Int) (j : Nat) : (arrF kind n mode R L l at' (8 * l + j)).a = at' + (j : Int) ∧ (arrF kind n mode R L l at' (8 * l + j)).z = spW L l j := by
  have e3 : ¬ 8 * l + j < l * 8 := by omega
  have e4 : 8 * l + j - l * 8 = j := by omega
  simp only [arrF, if_neg e3, e4]
  exact ⟨trivial, trivial⟩

theorem sideU_all {L : Nat → Int} : ∀ {l : Nat}, sideU L l = true → ∀ j, j < l → L j = L 0 + j
  | 0, _, j, h => absurd h (Nat.not_lt_zero _)
  | l + 1, h, j, hj => by
    rw [sideU, Bool.and_eq_true] at h
    rcases Nat.lt_succ_iff_lt_or_eq.1 hj with q | rfl
    · exact sideU_all h.1 j q
    · by_cases h0 : j = 0
      · subst h0; simp
      · have h2 : L j = L (j - 1) + 1 := by
          have := h.2
          simpa [h0] using this
        have h3 := sideU_all h.1 (j - 1) (by omega)
        rw [h2, h3]
        omega

end Go.Proofs.YtpdclckgnajcdaaGreat
