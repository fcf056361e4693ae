/-
  What the laws' plans say: which spines are copied, how many steps; writes at numbers that are sums.
-/
import Derived.Test.YtgnikgkpbibmgaaReads17
namespace Go.Proofs.Ytgnikgkpbibmgaa
open Go.RowKit

theorem Mz.wr {U u : World} {X : Bl} {n q : Nat} {F G : Nat → Cx} {S : ShS} {K : CS} (i : Int) (a : Nat) (z : Cx) (h : Mz U u X n q F S K) (hi : i = (a : Int)) (ha : a < n) (hq : q ≤ 1000000) (he : ∀ j, (if j = a then z else F j) = G j) :
    Calls Try.prog 12 #[.pointer (some ⟨X.M, 0, none⟩), .int .i64 i, .complex .f64 z.re z.im] u fun e w' => e = .returned (.int .i64 0) ∧ Mz U w' X n (q + 1) G S K := by
  rw [hi]
  exact (h.write a z ha hq fun j _ => he j).mono fun _ _ ⟨h1, h2, _⟩ => ⟨h1, h2⟩

/-- What the words 4 say: of those that were told where they are; of the others x. -/
def Wt (z : Nat → Nat) (tl : Nat → Bool) (x : Int) (n0 : Nat) (i : Nat) : Int := if tl i = true then ((8 * n0 + Aof z i : Nat) : Int) else x
section
variable {N : Nat} {z : Nat → Nat} {bl tl : Nat → Bool} {x : Int} {sl : Nat → Nat → Cx} {n0 : Nat}
theorem Lt_mv (hx : x ≤ 0) (h0 : 4 ≤ n0) (i : Nat) : (Lp N z bl (Wt z tl x n0) sl n0).mv i = (bl i && tl i) := by
  unfold Pl.mv
  rw [Lp_A]
  have hs : (Lp N z bl (Wt z tl x n0) sl n0).src = 8 * n0 := rfl
  rw [hs]
  have hW : (Lp N z bl (Wt z tl x n0) sl n0).W i = Wt z tl x n0 i := rfl
  have hb : (Lp N z bl (Wt z tl x n0) sl n0).bl i = bl i := rfl
  rw [hW, hb]
  unfold Wt
  cases tl i
  · have : ¬ x = ((8 * n0 + Aof z i : Nat) : Int) := by omega
    simp
    omega
  · simp
theorem Lt_ok (hx : x = 0 ∨ x = -1) (h0 : 4 ≤ n0 ∧ n0 ≤ 1024) (hN : N ≤ n0) (hn : Aof z N ≤ 2000) : (Lp N z bl (Wt z tl x n0) sl n0).Ok :=
  Lp_ok h0 hN hn fun i hi => by
    have := Aof_step z hi
    unfold Wt
    split <;> omega
theorem Lt_cost (hx : x ≤ 0) (h0 : 4 ≤ n0) (i : Nat) : (Lp N z bl (Wt z tl x n0) sl n0).cost i = if bl i = false then 4 else if tl i = false then 5 else 8 + 2 * z i := by
  unfold Pl.cost
  rw [Lt_mv hx h0]
  have hb : (Lp N z bl (Wt z tl x n0) sl n0).bl i = bl i := rfl
  have hz : (Lp N z bl (Wt z tl x n0) sl n0).z i = z i := rfl
  rw [hb, hz]
  cases bl i
  · simp
  · simp
theorem Lt_tm (hx : x ≤ 0) (h0 : 4 ≤ n0) (i : Nat) : (Lp N z bl (Wt z tl x n0) sl n0).tm (i + 1) = (Lp N z bl (Wt z tl x n0) sl n0).tm i + (if bl i = false then 4 else if tl i = false then 5 else 8 + 2 * z i) := by
  simp only [Pl.tm]
  rw [Lt_cost hx h0]
theorem Lt_env {E : En} {len : Nat} (hx : x = 0 ∨ x = -1) (h0 : 4 ≤ n0 ∧ n0 ≤ 1024) (hN : N ≤ n0) (hn : Aof z N ≤ 2000) (hE : Began (n0 : Int) (Aof z N : Int) E) (hl : 8 * n0 + 2 * Aof z N = len) : Env (Lp N z bl (Wt z tl x n0) sl n0) E len := ⟨Lt_ok hx h0 hN hn, hE.1, hE.2, hl⟩
end
theorem ks_turn (n : Nat) (hn : 0 < n) : takes ⟨n, 0, 0, 0, 0⟩ (n : Int) = true ∧ turns (takeS ⟨n, 0, 0, 0, 0⟩ (n : Int)) = true ∧ turnS (takeS ⟨n, 0, 0, 0, 0⟩ (n : Int)) = ⟨n, 1, n, n, 0⟩ := by
  have h : takes ⟨n, 0, 0, 0, 0⟩ (n : Int) = true := by
    simp [takes, roomF, CS.u]
    omega
  refine ⟨h, ?_, ?_⟩
  · simp [takeS, h, putU, turns, CS.o]
  · simp [takeS, h, putU, turnS, turns, CS.o, CS.u]
theorem Lp_k0 {N : Nat} {z : Nat → Nat} {bl : Nat → Bool} {W : Nat → Int} {sl : Nat → Nat → Cx} {n0 : Nat} : (Lp N z bl W sl n0).Ks 0 = ⟨Aof z N, 1, Aof z N, Aof z N, 0⟩ := by
  simp [Pl.Ks, Lp, Pl.A, Pl.P]
theorem Rz.still {L : Pl} {U u u' : World} {X : Bl} {len p q0 c0 t : Nat} {E : En} (h : Rz L U X len p E q0 c0 t u) (k : Kept u u') : Rz L U X len p E q0 c0 t u' := by
  obtain ⟨d, S, K, q, F, hr⟩ := h.run
  exact ⟨h.kept.trans k, ⟨d, S, K, q, F, ⟨hr.al.mx.kept k, hr.al.hs.kept k, hr.al.lt⟩, hr.ph, hr.sp, hr.q, hr.c, hr.bk⟩, h.lp⟩
theorem tm_pos {L : Pl} (h : 0 < L.N) : 4 ≤ L.tm L.N := by
  have h1 := Pl.tm_lt (L := L) h
  have h2 := L.cost_lo 0
  omega
end Go.Proofs.Ytgnikgkpbibmgaa
