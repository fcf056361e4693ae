/-
  What package haul copies, as plain values: where each spine lies, where its copy, what memory holds in between.
-/
import Derived.Test.YtgnikgkpbibmgaaHaJ
namespace Go.Proofs.Ytgnikgkpbibmgaa
open Go.RowKit

/-- Spines one behind the other: how many, their slots, which sentinels are black, what their words 4 say; the words of the space, and of the other one at first; which space, how large; how many fragments. -/
structure Pl where
  N : Nat
  z : Nat → Nat
  bl : Nat → Bool
  W : Nat → Int
  G : Nat → Cx
  O : Nat → Cx
  fr : Nat
  n : Nat
  n0 : Nat

namespace Pl
variable (L : Pl)
/-- Where the spine i begins. -/
def A : Nat → Nat
  | 0 => 0
  | i + 1 => A i + (L.z i + 2)
def src : Nat := if L.fr = 0 then 8 * L.n0 else 8 * L.n0 + L.n
def dst : Nat := if L.fr = 0 then 8 * L.n0 + L.n else 8 * L.n0
/-- Is it copied? -/
def mv (i : Nat) : Bool := L.bl i && decide (L.W i = ((L.src + L.A i : Nat) : Int))
/-- Where its copy begins. -/
def P : Nat → Nat
  | 0 => 0
  | i + 1 => P i + (if L.mv i = true then L.z i + 2 else 0)
def mc : Nat → Nat
  | 0 => 0
  | i + 1 => mc i + (if L.mv i = true then 1 else 0)
def cost (i : Nat) : Nat := if L.bl i = false then 4 else if L.mv i = false then 5 else 8 + 2 * L.z i
def tm : Nat → Nat
  | 0 => 0
  | i + 1 => tm i + L.cost i
/-- The copies of the first ones. -/
def Cn : Nat → Nat → Cx
  | 0, _ => cz
  | i + 1, x => if L.mv i = true ∧ L.P i ≤ x then L.G (L.A i + (x - L.P i)) else Cn i x
/-- Memory, when the sentinels of the first i tell of their copies, and X words are copied. -/
def mem (i X a : Nat) : Cx :=
  if a < 8 * L.n0 then (if a % 8 = 4 ∧ a / 8 < L.N then (if a / 8 < i ∧ L.mv (a / 8) = true then cw ((L.dst + L.P (a / 8) : Nat) : Int) else cw (L.W (a / 8))) else cz)
  else if L.src ≤ a ∧ a < L.src + L.n then L.G (a - L.src)
  else if L.dst ≤ a ∧ a < L.dst + L.n then (if a - L.dst < X then L.Cn L.N (a - L.dst) else L.O (a - L.dst))
  else cz
/-- The coil, when the first i are done with. -/
def Ks (i : Nat) : CS := if L.fr = 0 then ⟨L.n, 1, L.n - L.A i, L.n, L.P i⟩ else ⟨L.n, 0, L.n - L.A i, L.P i, L.n⟩
structure Ok : Prop where
  fr : L.fr = 0 ∨ L.fr = 1
  n0 : 4 ≤ L.n0 ∧ L.n0 ≤ 1024
  N : L.N ≤ L.n0
  n : L.n ≤ 2000
  all : L.A L.N = L.n
  W : ∀ i, i < L.N → (L.W i).natAbs < 100000
  g0 : ∀ i, i < L.N → L.G (L.A i) = cr i
  g1 : ∀ i, i < L.N → L.G (L.A i + 1) = cw (L.z i)

section
variable {L}
theorem A_mono {i j : Nat} (h : i ≤ j) : L.A i ≤ L.A j := by
  induction j with
  | zero => obtain rfl : i = 0 := by omega
            exact Nat.le_refl _
  | succ j ih =>
    by_cases e : i = j + 1
    · rw [e]; exact Nat.le_refl _
    · have := ih (by omega)
      simp only [A]
      omega
theorem P_mono {i j : Nat} (h : i ≤ j) : L.P i ≤ L.P j := by
  induction j with
  | zero => obtain rfl : i = 0 := by omega
            exact Nat.le_refl _
  | succ j ih =>
    by_cases e : i = j + 1
    · rw [e]; exact Nat.le_refl _
    · have := ih (by omega)
      simp only [P]
      omega
theorem P_le : ∀ i, L.P i ≤ L.A i
  | 0 => Nat.le_refl _
  | i + 1 => by
    have := P_le i
    simp only [P, A]
    split <;> omega
theorem mc_le : ∀ i, L.mc i ≤ i
  | 0 => Nat.le_refl _
  | i + 1 => by
    have := mc_le i
    simp only [mc]
    split <;> omega
theorem A_two : ∀ i, 2 * i ≤ L.A i
  | 0 => Nat.le_refl _
  | i + 1 => by
    have := A_two i
    simp only [A]
    omega
theorem Ok.one (h : L.Ok) {i : Nat} (hi : i < L.N) : L.A i + (L.z i + 2) ≤ L.n := by
  have := A_mono (L := L) (show i + 1 ≤ L.N from hi)
  rw [h.all] at this
  exact this
theorem Ok.last (h : L.Ok) {i : Nat} (hi : i < L.N) : L.A i + (L.z i + 2) = L.n ↔ i + 1 = L.N := by
  constructor
  · intro e
    by_cases q : i + 1 < L.N
    · have := h.one q
      simp only [A] at this
      omega
    · omega
  · intro e
    have := h.all
    rw [← e] at this
    exact this
theorem P_yes {i : Nat} (h : L.mv i = true) : L.P (i + 1) = L.P i + (L.z i + 2) := by simp only [P, if_pos h]
theorem P_no {i : Nat} (h : L.mv i = false) : L.P (i + 1) = L.P i := by simp [P, h]
theorem mv_bl {i : Nat} (h : L.mv i = true) : L.bl i = true := by
  unfold mv at h
  exact (Bool.and_eq_true _ _ ▸ h).1
theorem mv_W {i : Nat} (h : L.mv i = true) : L.W i = ((L.src + L.A i : Nat) : Int) := by
  unfold mv at h
  have := (Bool.and_eq_true _ _ ▸ h).2
  exact of_decide_eq_true this
theorem cost_mv {i : Nat} (h : L.mv i = true) : L.cost i = 8 + 2 * L.z i := by simp [cost, h, mv_bl h]
theorem cost_bl {i : Nat} (h : L.bl i = true) (hm : L.mv i = false) : L.cost i = 5 := by simp [cost, h, hm]
theorem cost_no {i : Nat} (h : L.bl i = false) : L.cost i = 4 := by simp [cost, h]
theorem mv_no {i : Nat} (h : L.bl i = false) : L.mv i = false := by simp [mv, h]
theorem tm_mono {i j : Nat} (h : i ≤ j) : L.tm i ≤ L.tm j := by
  induction j with
  | zero => obtain rfl : i = 0 := by omega
            exact Nat.le_refl _
  | succ j ih =>
    by_cases e : i = j + 1
    · rw [e]; exact Nat.le_refl _
    · have := ih (by omega)
      simp only [tm]
      omega
theorem cost_lo (i : Nat) : 4 ≤ L.cost i := by
  unfold cost
  split
  · omega
  · split <;> omega
theorem cost_hi (i : Nat) : L.cost i ≤ 8 + 2 * L.z i := by
  unfold cost
  split
  · omega
  · split <;> omega
theorem tm_hi : ∀ i, L.tm i ≤ 4 * i + 2 * L.A i
  | 0 => Nat.le_refl _
  | i + 1 => by
    have := tm_hi i
    have := cost_hi (L := L) i
    simp only [tm, A]
    omega
theorem tm_lt {i : Nat} (hi : i < L.N) : L.tm i + L.cost i ≤ L.tm L.N := tm_mono (L := L) (show i + 1 ≤ L.N from hi)
theorem Cn_at {i x : Nat} (hm : L.mv i = true) (h1 : L.P i ≤ x) (h2 : x < L.P i + (L.z i + 2)) : ∀ {k : Nat}, i < k → L.Cn k x = L.G (L.A i + (x - L.P i))
  | 0, h => absurd h (Nat.not_lt_zero _)
  | k + 1, h => by
    by_cases e : i = k
    · subst e
      simp only [Cn, hm, h1, and_self, if_true]
    · have h3 : L.P (i + 1) ≤ L.P k := P_mono (by omega)
      rw [P_yes hm] at h3
      have : ¬ (L.mv k = true ∧ L.P k ≤ x) := fun q => by omega
      simp only [Cn, if_neg this]
      exact Cn_at hm h1 h2 (by omega)

theorem Ok.cases (h : L.Ok) : (L.fr = 0 ∧ L.src = 8 * L.n0 ∧ L.dst = 8 * L.n0 + L.n) ∨ (L.fr = 1 ∧ L.src = 8 * L.n0 + L.n ∧ L.dst = 8 * L.n0) := by
  rcases h.fr with e | e
  · exact .inl ⟨e, by simp [src, e], by simp [dst, e]⟩
  · exact .inr ⟨e, by simp [src, e], by simp [dst, e]⟩
/-- The words of the space stay. -/
theorem mem_src (h : L.Ok) {i X x a : Nat} (hx : x < L.n) (ha : L.src + x = a) : L.mem i X a = L.G x := by
  have hc := h.cases
  unfold mem
  rw [if_neg (by omega), if_pos (by omega)]
  congr 1
  omega
theorem mem_dst (h : L.Ok) {i X x a : Nat} (hx : x < L.n) (ha : L.dst + x = a) : L.mem i X a = if x < X then L.Cn L.N x else L.O x := by
  have hc := h.cases
  unfold mem
  rw [if_neg (by omega), if_neg (by omega), if_pos (by omega)]
  have e : a - L.dst = x := by omega
  rw [e]
theorem mem_sent (h : L.Ok) {i X k a : Nat} (hk : k < L.N) (ha : 8 * k + 4 = a) : L.mem i X a = if k < i ∧ L.mv k = true then cw ((L.dst + L.P k : Nat) : Int) else cw (L.W k) := by
  have hN := h.N
  unfold mem
  have e : a / 8 = k := by omega
  rw [if_pos (by omega), if_pos (by omega), e]
/-- A word more is copied. -/
theorem mem_copy (h : L.Ok) {i c a : Nat} (hi : i < L.N) (hm : L.mv i = true) (hc : c < L.z i + 2) (ha : L.dst + (L.P i + c) = a) (j : Nat) : (if j = a then L.G (L.A i + c) else L.mem i (L.P i + c) j) = L.mem i (L.P i + (c + 1)) j := by
  have hk := h.cases
  have hn : L.P i + (L.z i + 2) ≤ L.n := by
    have := h.one hi
    have := P_le (L := L) i
    omega
  by_cases e : j = a
  · rw [if_pos e, e, mem_dst h (x := L.P i + c) (by omega) ha, if_pos (by omega), Cn_at hm (by omega) (by omega) hi]
    congr 2
    omega
  · rw [if_neg e]
    unfold mem
    split
    · rfl
    · split
      · rfl
      · split
        · by_cases q : j - L.dst < L.P i + c
          · rw [if_pos q, if_pos (by omega)]
          · rw [if_neg q, if_neg (by omega)]
        · rfl
/-- A sentinel tells of its copy. -/
theorem mem_turn (h : L.Ok) {i a : Nat} (hi : i < L.N) (hm : L.mv i = true) (ha : 8 * i + 4 = a) (j : Nat) : (if j = a then cw ((L.dst + L.P i : Nat) : Int) else L.mem i (L.P i + (L.z i + 2)) j) = L.mem (i + 1) (L.P (i + 1)) j := by
  rw [P_yes hm]
  have hN := h.N
  by_cases e : j = a
  · rw [if_pos e, e, mem_sent h hi ha, if_pos ⟨by omega, hm⟩]
  · rw [if_neg e]
    unfold mem
    split
    · split
      · rename_i q
        have hne : j / 8 ≠ i := by omega
        by_cases g : j / 8 < i ∧ L.mv (j / 8) = true
        · rw [if_pos g, if_pos ⟨by omega, g.2⟩]
        · rw [if_neg g, if_neg (fun z => g ⟨by omega, z.2⟩)]
      · rfl
    · rfl
theorem mem_skip {i : Nat} (hm : L.mv i = false) : L.mem i (L.P i) = L.mem (i + 1) (L.P (i + 1)) := by
  funext j
  rw [P_no hm]
  unfold mem
  split
  · split
    · rename_i q
      by_cases g : j / 8 < i ∧ L.mv (j / 8) = true
      · rw [if_pos g, if_pos ⟨by omega, g.2⟩]
      · rw [if_neg g, if_neg (fun z => g ⟨by
          have : j / 8 ≠ i := fun e => by rw [e, hm] at z; cases z.2
          omega, z.2⟩)]
    · rfl
  · rfl
theorem Ok.kskips (h : L.Ok) {i : Nat} (hi : i < L.N) : skips (L.Ks i) (2 + (L.z i : Int)) = true := by
  have := h.one hi
  unfold skips Ks
  split <;> simp <;> omega
theorem Ok.kskipS (h : L.Ok) {i : Nat} (hi : i < L.N) (hm : L.mv i = false) : skipS (L.Ks i) (2 + (L.z i : Int)) = L.Ks (i + 1) := by
  have h1 := h.one hi
  have e : (2 + (L.z i : Int)).toNat = L.z i + 2 := by omega
  unfold skipS
  rw [if_pos (h.kskips hi), e]
  unfold Ks
  rw [P_no hm]
  split <;> simp [A] <;> omega
theorem Ok.kcopyA (h : L.Ok) {i : Nat} (hi : i < L.N) : copyA (L.Ks i) (2 + (L.z i : Int)) = (L.P i : Int) := by
  unfold copyA
  rw [if_pos (h.kskips hi)]
  rcases h.fr with e | e <;> simp [CS.u, Ks, e]
theorem Ok.kcopyS (h : L.Ok) {i : Nat} (hi : i < L.N) (hm : L.mv i = true) : copyS (L.Ks i) (2 + (L.z i : Int)) = L.Ks (i + 1) := by
  have h1 := h.one hi
  have e : (2 + (L.z i : Int)).toNat = L.z i + 2 := by omega
  unfold copyS
  rw [if_pos (h.kskips hi), e]
  unfold Ks putU
  rw [P_yes hm]
  rcases h.fr with e | e <;> simp [e, A] <;> omega
end
end Pl
end Go.Proofs.Ytgnikgkpbibmgaa
