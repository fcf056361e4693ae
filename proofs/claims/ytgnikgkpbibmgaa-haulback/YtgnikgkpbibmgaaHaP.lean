/-
  What is read while spines are copied: each sentinel that was told reads its slots, wherever they are.
-/
import Derived.Test.YtgnikgkpbibmgaaHaO
namespace Go.Proofs.Ytgnikgkpbibmgaa
open Go.RowKit

theorem Ph.mem {L : Pl} {t : Nat} {d : Hd} {F : Nat → Cx} {K : CS} (h : Ph L t d F K) : ∃ i X, F = L.mem i X ∧ i ≤ L.N ∧ L.P i ≤ X := by
  rcases h with ⟨i, a1, a2, a3, a4, a5, a6, _⟩ | ⟨i, a1, a2, a3, a4, a5, a6, _⟩ | ⟨i, a1, a2, a3, a4, a5, a6, _⟩ | ⟨i, a1, a2, a3, a4, a5, a6, _⟩ | ⟨i, a1, a2, a3, a4, a5, a6, _⟩ | ⟨i, a1, a2, a3, a4, a5, a6, _⟩ | ⟨i, a1, a2, a3, a4, a5, a6, _⟩ | ⟨i, s, a1, a2, a3, a4, a5, a6, _⟩ | ⟨i, s, a1, a2, a3, a4, a5, a6, _⟩ | ⟨i, a1, a2, a4, a5, a6, _⟩ | ⟨i, a1, a2, a4, a5, a6, _⟩ | ⟨a1, a2, a3, a4, a5⟩
  all_goals (first | exact ⟨_, _, a6, by omega, by omega⟩ | exact ⟨_, _, a4, Nat.le_refl _, Nat.le_refl _⟩)

/-- The slots that the laws lay. -/
def slR (i j : Nat) : Cx := cr (100 * (i : Int) + (j : Int))
section
variable {L : Pl} {tl : Nat → Bool} {sr : Nat}
/-- Whatever is copied as yet. -/
theorem mem_reads (ho : L.Ok) (hG : ∀ k j, k < L.N → j < L.z k → L.G (L.A k + (2 + j)) = slR k j) (hW : ∀ k, k < L.N → (tl k = true → L.W k = ((L.src + L.A k : Nat) : Int)) ∧ (tl k = false → L.W k = -1 ∧ L.mv k = false)) {i X len : Nat} (_hi : i ≤ L.N) (hX : L.P i ≤ X) (hl : 8 * L.n0 + 2 * L.n = len) :
    Reads (L.mem i X) len (8 * L.n0) L.N L.z tl := by
  intro k hk
  have hN := ho.N
  have hc := ho.cases
  have h1 := ho.one hk
  have hP := L.P_le k
  refine ⟨by omega, fun ht => ?_, fun ht => ?_⟩
  · obtain ⟨e1, e2⟩ := (hW k hk).2 ht
    rw [Pl.mem_sent ho hk rfl, if_neg (fun q => by rw [e2] at q; cases q.2), e1]
  · have e1 := (hW k hk).1 ht
    by_cases q : k < i ∧ L.mv k = true
    · refine ⟨L.dst + L.P k, by rw [Pl.mem_sent ho hk rfl, if_pos q], by omega, by omega, fun j hj => ?_⟩
      have h2 : L.P (k + 1) ≤ L.P i := Pl.P_mono (by omega)
      rw [Pl.P_yes q.2] at h2
      rw [Pl.mem_dst ho (x := L.P k + (2 + j)) (by omega) (by omega), if_pos (by omega), Pl.Cn_at q.2 (by omega) (by omega) hk]
      have e : L.A k + (L.P k + (2 + j) - L.P k) = L.A k + (2 + j) := by omega
      rw [e]
      exact hG k j hk hj
    · refine ⟨L.src + L.A k, by rw [Pl.mem_sent ho hk rfl, if_neg q, e1], by omega, by omega, fun j hj => ?_⟩
      rw [Pl.mem_src ho (x := L.A k + (2 + j)) (by omega) (by omega)]
      exact hG k j hk hj
end
section
variable {N : Nat} {z : Nat → Nat} {bl tl : Nat → Bool} {n0 : Nat}
theorem Ls_reads (h0 : 4 ≤ n0 ∧ n0 ≤ 1024) (hN : N ≤ n0) (hn : Aof z N ≤ 2000) {i X len : Nat} (hi : i ≤ N) (hX : (Lp N z bl (Wt z tl (-1) n0) slR n0).P i ≤ X) (hl : 8 * n0 + 2 * Aof z N = len) :
    Reads ((Lp N z bl (Wt z tl (-1) n0) slR n0).mem i X) len (8 * n0) N z tl :=
  mem_reads (L := Lp N z bl (Wt z tl (-1) n0) slR n0) (Lt_ok (.inr rfl) h0 hN hn) (fun k j hk hj => by
    rw [Lp_A]
    refine (Lp_G hk (by have hz : (Lp N z bl (Wt z tl (-1) n0) slR n0).z k = z k := rfl; omega)).trans ?_
    unfold wordAt
    rw [if_neg (by omega), if_neg (by omega)]
    congr 1
    omega) (fun k hk => ⟨fun ht => by
      rw [Lp_A]
      show Wt z tl (-1) n0 k = _
      unfold Wt
      rw [if_pos ht]
      rfl, fun ht => ⟨by
      show Wt z tl (-1) n0 k = _
      unfold Wt
      rw [if_neg (by rw [ht]; exact Bool.false_ne_true)], by rw [Lt_mv (by omega) h0.1, ht, Bool.and_false]⟩⟩) hi hX hl
theorem Ls_P (x : Int) (hx : x ≤ 0) (h0 : 4 ≤ n0) (sl : Nat → Nat → Cx) (i : Nat) : (Lp N z bl (Wt z tl x n0) sl n0).P (i + 1) = (Lp N z bl (Wt z tl x n0) sl n0).P i + (if (bl i && tl i) = true then z i + 2 else 0) := by
  simp only [Pl.P]
  rw [Lt_mv hx h0]
  rfl
theorem Ls_mc (x : Int) (hx : x ≤ 0) (h0 : 4 ≤ n0) (sl : Nat → Nat → Cx) (i : Nat) : (Lp N z bl (Wt z tl x n0) sl n0).mc (i + 1) = (Lp N z bl (Wt z tl x n0) sl n0).mc i + (if (bl i && tl i) = true then 1 else 0) := by
  simp only [Pl.mc]
  rw [Lt_mv hx h0]
end
/-- What is read at any time of a run. -/
theorem Rz.reads {L : Pl} {U u : World} {X : Bl} {len p q0 c0 t : Nat} {E : En} {base N : Nat} {z : Nat → Nat} {tl : Nat → Bool} (h : Rz L U X len p E q0 c0 t u) (hR : ∀ i Y, i ≤ L.N → L.P i ≤ Y → Reads (L.mem i Y) len base N z tl) : ∃ q F, Mm u X.b X.M len F q ∧ Reads F len base N z tl := by
  obtain ⟨d, S, K, q, F, hr⟩ := h.run
  obtain ⟨i, Y, rfl, h1, h2⟩ := hr.ph.mem
  exact ⟨q, _, hr.al.mx.mm, hR i Y h1 h2⟩
theorem nil_eq {n : Nat} (h : n ≤ 0) : ((n : Int) == 0) = true := by
  have e : (n : Int) = 0 := by omega
  rw [e]
  rfl
end Go.Proofs.Ytgnikgkpbibmgaa
