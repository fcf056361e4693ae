/-
  What memory holds where references are stored over what was laid; a shade of any sizes.
-/
import Derived.Test.YtpdclckgnajcdaaGreatWrt16
import Derived.Test.YtpdclckgnajcdaaGreatFirst15
namespace Go.Proofs.YtpdclckgnajcdaaGreat
open Go.RowKit

/-- The memory G, in which the slots at ad hold references. -/
def ovr (G : Nat → Cx) (ad : Nat → Nat) (V : Nat → Option Int) : Nat → Nat → Cx
  | 0 => G
  | s + 1 => fun a => match V s with
    | none => ovr G ad V s a
    | some i => if a = ad s then cr i else ovr G ad V s a
section
variable {G : Nat → Cx} {ad : Nat → Nat} {V : Nat → Option Int} {s : Nat}
theorem ovr_none (h : V s = none) : ovr G ad V (s + 1) = ovr G ad V s := by
  funext a
  simp only [ovr, h]
theorem ovr_some {i : Int} (h : V s = some i) (a : Nat) : (if a = ad s then cr i else ovr G ad V s a) = ovr G ad V (s + 1) a := by
  simp only [ovr, h]
theorem ovr_off {a : Nat} : ∀ {K : Nat}, (∀ t, t < K → V t ≠ none → ad t ≠ a) → ovr G ad V K a = G a
  | 0, _ => rfl
  | K + 1, h => by
    have ih := ovr_off (K := K) fun t ht => h t (by omega)
    have hk := h K (by omega)
    simp only [ovr]
    cases e : V K with
    | none => exact ih
    | some i =>
      have := hk (by rw [e]; simp)
      simp only [if_neg (Ne.symm this), ih]
theorem ovr_on {i : Int} : ∀ {K : Nat}, s < K → V s = some i → (∀ t, t < K → t ≠ s → ad t ≠ ad s) → ovr G ad V K (ad s) = cr i
  | 0, h, _, _ => absurd h (Nat.not_lt_zero _)
  | K + 1, h, hv, hd => by
    by_cases e : s = K
    · subst e
      rw [← ovr_some hv, if_pos rfl]
    · have ih := ovr_on (K := K) (by omega) hv fun t ht => hd t (by omega)
      have hk := hd K (by omega) (fun q => e q.symm)
      simp only [ovr]
      cases e2 : V K with
      | none => exact ih
      | some i2 => simp only [if_neg (Ne.symm hk), ih]
end
theorem snew_either (n most : Int) (u : World) (h0 : IntKind.min .i64 ≤ n) (h1 : n ≤ IntKind.max .i64) :
    Calls Tryz.prog 13 #[.int .i64 n, .int .i64 most] u fun e w' => (∃ (v : Value) (r : Int), e = .returned (.tuple #[v, .int .i64 r])) ∧ Kept u w' := by
  by_cases h : 0 ≤ n ∧ n ≤ 1024 ∧ 1 ≤ most ∧ most ≤ 256
  · obtain ⟨a, rfl⟩ : ∃ a : Nat, n = a := ⟨n.toNat, by omega⟩
    obtain ⟨m, rfl⟩ : ∃ m : Nat, most = m := ⟨most.toNat, by omega⟩
    exact (snew_any a m u (by omega) h.2.2.1 h.2.2.2 (Nat.le_refl _)).mono fun _ _ ⟨sb, tb, g, pb, v, he, _, k, _⟩ => ⟨⟨_, _, he⟩, k⟩
  · exact (snew_bad n most u h h0 h1).mono fun _ _ ⟨he, k⟩ => ⟨⟨_, _, he⟩, k⟩
end Go.Proofs.YtpdclckgnajcdaaGreat
