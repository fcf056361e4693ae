/-
  There and back: the plan of the second copying, and what is there behind it.
-/
import Derived.Test.YtgnikgkpbibmgaaHaP
namespace Go.Proofs.Ytgnikgkpbibmgaa
open Go.RowKit

theorem Mz.wrm {U u : World} {X : Bl} {n q : Nat} {F G : Nat → Cx} {S : ShS} {K : CS} (i : Int) (a : Nat) (z : Cx) (h : Mz U u X n q F S K) (hi : i = (a : Int)) (ha : a < n) (hq : q ≤ 1000000) (he : ∀ j, (if j = a then z else F j) = G j) :
    Calls Try.prog 12 #[.pointer (some ⟨X.M, 0, none⟩), .int .i64 i, .complex .f64 z.re z.im] u fun e w' => e = .returned (.int .i64 0) ∧ Mz U w' X n (q + 1) G S K ∧ Mut X.all u w' := by
  rw [hi]
  exact h.write a z ha hq fun j _ => he j

/-- A row of truth values of the law's own, beside the rest. -/
structure Rw17 (U u : World) (X : Bl) (ab l : Nat) (V : Nat → Bool) : Prop where
  row : u.rowIs ab 4 l (fun i => .bool (V i))
  lo : U.heap.size ≤ ab
  na : ab ∉ X.all
section
variable {U u u' : World} {X : Bl} {ab l n q : Nat} {V : Nat → Bool} {F : Nat → Cx} {S : ShS} {K : CS}
theorem Rw17.muts {D : List Nat} (h : Rw17 U u X ab l V) (m : Mut D u u') (hd : ab ∉ D) : Rw17 U u' X ab l V := ⟨m.row h.row hd, h.lo, h.na⟩
theorem Rw17.mut (h : Rw17 U u X ab l V) (m : Mut X.all u u') : Rw17 U u' X ab l V := h.muts m h.na
theorem Rw17.kept (h : Rw17 U u X ab l V) (k : Kept u u') : Rw17 U u' X ab l V := h.muts (D := []) k.mut (by simp)
theorem Rw17.rdv (h : Rw17 U u X ab l V) : Rdv u (some ⟨ab, 0, none⟩) l (fun i => .bool (V i)) := fun _ => ⟨ab, 0, rfl, h.row.lt, fun i hi => by rw [Nat.zero_add]; exact h.row.cell hi⟩
/-- One is set. -/
theorem Rw17.set (h : Rw17 U u X ab l V) (hz : Mz U u X n q F S K) (k : Nat) : Rw17 U (u.setCell ⟨ab, k, none⟩ (.bool true)) X ab l (fun i => if i = k then true else V i) ∧ Mz U (u.setCell ⟨ab, k, none⟩ (.bool true)) X n q F S K := by
  have m : Mut [ab] u (u.setCell ⟨ab, k, none⟩ (.bool true)) := (Mut.refl _ _).setCell (by simp) _
  refine ⟨⟨(h.row.set k (.bool true)).congr fun i _ => ?_, h.lo, h.na⟩, hz.kept.muts m (by simp; exact h.lo), hz.mx.muts m fun x hx hd => ?_⟩
  · by_cases e : i = k <;> simp [e]
  · obtain rfl : x = ab := by simpa using hd
    exact h.na hx
end

/-- Where a copying begins: the plan LL, memory F and the coil K; all are copied. -/
structure Bp (n0 nn l0 : Nat) (zz : Nat → Nat) (t : Nat) (LL : Pl) (F : Nat → Cx) (K : CS) : Prop where
  ok : LL.Ok
  fr : LL.fr = t
  n : LL.n = nn
  N : LL.N = l0
  n0 : LL.n0 = n0
  z : LL.z = zz
  F : F = LL.mem 0 0
  tu : turns K = true
  ts : turnS K = LL.Ks 0
  bl : ∀ i, i < l0 → LL.bl i = true
  mv : ∀ i, i < l0 → LL.mv i = true
  sl : ∀ k j, k < l0 → j < zz k → LL.G (LL.A k + (2 + j)) = slR k j
  W : ∀ k, k < l0 → LL.W k = ((LL.src + LL.A k : Nat) : Int)
section
variable {n0 nn l0 t : Nat} {zz : Nat → Nat} {LL : Pl} {F : Nat → Cx} {K : CS}
theorem all_P (h : ∀ i, i < l0 → LL.mv i = true) : ∀ i, i ≤ l0 → LL.P i = LL.A i ∧ LL.mc i = i
  | 0, _ => ⟨rfl, rfl⟩
  | i + 1, hi => by
    obtain ⟨h1, h2⟩ := all_P h i (by omega)
    have h3 := h i (by omega)
    refine ⟨?_, ?_⟩
    · rw [Pl.P_yes h3, h1]
      rfl
    · simp only [Pl.mc, if_pos h3, h2]
theorem Bp.reads (h : Bp n0 nn l0 zz t LL F K) {i X len : Nat} (hi : i ≤ l0) (hX : LL.P i ≤ X) (hl : 8 * n0 + 2 * nn = len) : Reads (LL.mem i X) len (8 * n0) l0 zz (fun _ => true) := by
  have := mem_reads (L := LL) (tl := fun _ => true) h.ok (fun k j hk hj => h.sl k j (by rw [← h.N]; exact hk) (by rw [← h.z]; exact hj)) (fun k hk => ⟨fun _ => h.W k (by rw [← h.N]; exact hk), fun q => by cases q⟩) (i := i) (X := X) (len := len) (by rw [h.N]; exact hi) hX (by rw [h.n0, h.n]; exact hl)
  rwa [h.n0, h.N, h.z] at this
theorem Bp.ks (h : Bp n0 nn l0 zz t LL F K) : LL.Ks l0 = if t = 0 then ⟨nn, 1, 0, nn, nn⟩ else ⟨nn, 0, 0, nn, nn⟩ := by
  have hA : LL.A l0 = nn := by rw [← h.N, h.ok.all, h.n]
  have hP := (all_P h.mv l0 (Nat.le_refl _)).1
  unfold Pl.Ks
  rw [h.fr, h.n, hA, hP, hA, Nat.sub_self]
theorem Bp.dones (h : Bp n0 nn l0 zz t LL F K) : dones (LL.Ks l0) = true := by
  rw [h.ks]
  split <;> rfl
/-- The second one: from the other space, which holds the copies. -/
def back (LL : Pl) : Pl := ⟨LL.N, LL.z, LL.bl, fun i => ((LL.dst + LL.A i : Nat) : Int), LL.Cn LL.N, LL.G, 1, LL.n, LL.n0⟩
theorem back_A (i : Nat) : (back LL).A i = LL.A i := by rw [A_of, A_of]; rfl
theorem Bp.next (h : Bp n0 nn l0 zz 0 LL F K) : Bp n0 nn l0 zz 1 (back LL) (LL.mem l0 (LL.P l0)) (doneS (LL.Ks l0)) := by
  have ho := h.ok
  have hs : LL.src = 8 * LL.n0 ∧ LL.dst = 8 * LL.n0 + LL.n := ⟨by simp [Pl.src, h.fr], by simp [Pl.dst, h.fr]⟩
  have hbs : (back LL).src = LL.dst ∧ (back LL).dst = LL.src := ⟨by rw [hs.2]; rfl, by rw [hs.1]; rfl⟩
  have hAll := all_P h.mv
  have hA : LL.A l0 = nn := by rw [← h.N, ho.all, h.n]
  have hP : LL.P l0 = LL.n := by rw [(hAll l0 (Nat.le_refl _)).1, hA, h.n]
  have hC : ∀ i c, i < l0 → c < LL.z i + 2 → LL.Cn LL.N (LL.A i + c) = LL.G (LL.A i + c) := fun i c hi hc => by
    have e := (hAll i (by omega)).1
    rw [Pl.Cn_at (h.mv i hi) (by omega) (by omega) (by rw [h.N]; exact hi), e]
    congr 1
    omega
  have hmv : ∀ i, i < l0 → (back LL).mv i = true := fun i hi => by
    have h1 : (back LL).bl i = true := h.bl i hi
    unfold Pl.mv
    rw [h1, back_A, hbs.1, Bool.true_and]
    exact decide_eq_true rfl
  refine ⟨⟨.inr rfl, ho.n0, ho.N, ho.n, by rw [back_A]; exact ho.all, fun i hi => ?_, fun i hi => ?_, fun i hi => ?_⟩, rfl, h.n, h.N, h.n0, h.z, ?_, ?_, ?_, h.bl, hmv, fun k j hk hj => ?_, fun k hk => ?_⟩
  · have h1 := ho.one hi
    have h2 := ho.n0
    have h3 := ho.n
    show (((LL.dst + LL.A i : Nat) : Int)).natAbs < 100000
    omega
  · rw [back_A]
    exact (hC i 0 (by rw [← h.N]; exact hi) (by omega)).trans (ho.g0 i hi)
  · rw [back_A]
    exact (hC i 1 (by rw [← h.N]; exact hi) (by omega)).trans (ho.g1 i hi)
  · funext j
    have hN := h.N
    unfold Pl.mem
    rw [hbs.1, hbs.2, hs.1, hs.2]
    show (if j < 8 * LL.n0 then _ else _) = (if j < 8 * LL.n0 then (if j % 8 = 4 ∧ j / 8 < LL.N then (if j / 8 < 0 ∧ (back LL).mv (j / 8) = true then _ else cw ((LL.dst + LL.A (j / 8) : Nat) : Int)) else cz) else if 8 * LL.n0 + LL.n ≤ j ∧ j < 8 * LL.n0 + LL.n + LL.n then LL.Cn LL.N (j - (8 * LL.n0 + LL.n)) else if 8 * LL.n0 ≤ j ∧ j < 8 * LL.n0 + LL.n then (if j - 8 * LL.n0 < 0 then _ else LL.G (j - 8 * LL.n0)) else cz)
    by_cases q : j < 8 * LL.n0
    · rw [if_pos q, if_pos q]
      by_cases r : j % 8 = 4 ∧ j / 8 < LL.N
      · rw [if_pos r, if_pos r, if_pos ⟨by omega, h.mv _ (by omega)⟩, if_neg (by omega), (hAll _ (by omega)).1, hs.2]
      · rw [if_neg r, if_neg r]
    · rw [if_neg q, if_neg q]
      by_cases r : j < 8 * LL.n0 + LL.n
      · rw [if_pos (by omega), if_neg (by omega), if_pos (by omega), if_neg (by omega)]
      · rw [if_neg (by omega)]
        by_cases s : j < 8 * LL.n0 + LL.n + LL.n
        · rw [if_pos (by omega), if_pos (by omega), if_pos (by omega)]
        · rw [if_neg (by omega), if_neg (by omega), if_neg (by omega)]
  · rw [h.ks]
    rfl
  · rw [h.ks]
    have e : (back LL).Ks 0 = ⟨LL.n, 0, LL.n, 0, LL.n⟩ := rfl
    rw [e, h.n]
    simp [doneS, Go.Proofs.Ytgnikgkpbibmgaa.dones, turnS, turns, CS.o, CS.u]
  · rw [back_A]
    exact (hC k (2 + j) hk (by rw [h.z]; omega)).trans (h.sl k j hk hj)
  · rw [back_A, hbs.1]
    rfl
/-- Behind it each sentinel tells of its copy. -/
theorem Bp.last (h : Bp n0 nn l0 zz 1 LL F K) {k : Nat} (hk : k < l0) : LL.mem l0 (LL.P l0) (8 * k + 4) = cw ((8 * n0 + Aof zz k : Nat) : Int) := by
  have hd : LL.dst = 8 * n0 := by rw [← h.n0]; simp [Pl.dst, h.fr]
  rw [Pl.mem_sent h.ok (by rw [h.N]; exact hk) rfl, if_pos ⟨hk, h.mv k hk⟩, (all_P h.mv k (by omega)).1, A_of, h.z, hd]
theorem Bp.tm (h : Bp n0 nn l0 zz t LL F K) : LL.tm LL.N ≤ 4 * l0 + 2 * nn := by
  have h1 := LL.tm_hi LL.N
  rw [h.ok.all, h.n, h.N] at h1
  rw [h.N]
  exact h1
theorem Bp.begin (h4 : 4 ≤ n0 ∧ n0 ≤ 1024) (hN : l0 ≤ n0) (hn : Aof zz l0 = nn) (hn2 : nn ≤ 2000) (hp : 0 < nn) : Bp n0 nn l0 zz 0 (Lp l0 zz (fun _ => true) (Wt zz (fun _ => true) 0 n0) slR n0) ((Lp l0 zz (fun _ => true) (Wt zz (fun _ => true) 0 n0) slR n0).mem 0 0) (takeS ⟨nn, 0, 0, 0, 0⟩ (nn : Int)) := by
  have hks := ks_turn nn hp
  refine ⟨Lt_ok (.inl rfl) h4 hN (by omega), rfl, hn, rfl, rfl, rfl, rfl, hks.2.1, ?_, fun _ _ => rfl, fun i _ => by rw [Lt_mv (by omega) h4.1]; rfl, fun k j hk hj => ?_, fun k _ => ?_⟩
  · rw [hks.2.2, Lp_k0, hn]
  · rw [Lp_A]
    refine (Lp_G hk (by omega)).trans ?_
    unfold wordAt
    rw [if_neg (by omega), if_neg (by omega)]
    congr 1
    omega
  · rw [Lp_A]
    rfl
end
end Go.Proofs.Ytgnikgkpbibmgaa
