/-
  What is free, as plain functions: counts, the free ones in their order, the highest run, what is taken.
-/
import Derived.Test.YtahpnnjemjjfhaaTintNew
namespace Go.Proofs.Ytahpnnjemjjfhaa
open Go.RowKit

/-- How many of the first k are free. -/
def cntB (F : Nat → Bool) : Nat → Nat
  | 0 => 0
  | k + 1 => cntB F k + if F k then 1 else 0

theorem cntB_le (F : Nat → Bool) : ∀ k, cntB F k ≤ k
  | 0 => Nat.le_refl _
  | k + 1 => by
    have := cntB_le F k
    simp only [cntB]
    split <;> omega
theorem cntB_congr {F G : Nat → Bool} : ∀ {k : Nat}, (∀ j, j < k → F j = G j) → cntB F k = cntB G k
  | 0, _ => rfl
  | k + 1, h => by
    have := cntB_congr (k := k) fun j hj => h j (by omega)
    simp [cntB, this, h k (by omega)]
theorem cntB_all {F : Nat → Bool} : ∀ {k : Nat}, (∀ j, j < k → F j = true) → cntB F k = k
  | 0, _ => rfl
  | k + 1, h => by
    have := cntB_all (k := k) fun j hj => h j (by omega)
    simp [cntB, this, h k (by omega)]
def setB (F : Nat → Bool) (i : Nat) (v : Bool) (j : Nat) : Bool := if j = i then v else F j
theorem setB_same (F : Nat → Bool) (i : Nat) (v : Bool) : setB F i v i = v := by simp [setB]
theorem setB_other (F : Nat → Bool) {i j : Nat} (v : Bool) (h : j ≠ i) : setB F i v j = F j := by simp [setB, h]
theorem cntB_set_true {F : Nat → Bool} {i : Nat} (hf : F i = false) : ∀ {k : Nat}, i < k → cntB (setB F i true) k = cntB F k + 1
  | 0, h => by omega
  | k + 1, h => by
    by_cases e : i = k
    · subst e
      have : cntB (setB F i true) i = cntB F i := cntB_congr fun j hj => setB_other F true (by omega)
      simp only [cntB, this, hf, setB_same, if_true, Bool.false_eq_true, if_false, Nat.add_zero]
    · have := cntB_set_true hf (k := k) (by omega)
      simp only [cntB, this, setB_other F true (show k ≠ i by omega)]
      omega

/-- Of a to i - 1 those that are free, rising. -/
def freeU (F : Nat → Bool) (a : Nat) : Nat → List Nat
  | 0 => []
  | i + 1 => freeU F a i ++ if a ≤ i ∧ F i = true then [i] else []

theorem freeU_len (F : Nat → Bool) : ∀ i, (freeU F 0 i).length = cntB F i
  | 0 => rfl
  | i + 1 => by
    simp only [freeU, cntB, List.length_append, freeU_len F i]
    cases F i <;> simp
theorem freeU_len_le (F : Nat → Bool) (a : Nat) : ∀ i, (freeU F a i).length ≤ i
  | 0 => Nat.le_refl _
  | i + 1 => by
    have := freeU_len_le F a i
    simp only [freeU, List.length_append]
    split <;> simp <;> omega
theorem freeU_mem {F : Nat → Bool} {a j : Nat} : ∀ {i : Nat}, j ∈ freeU F a i ↔ a ≤ j ∧ j < i ∧ F j = true
  | 0 => by simp [freeU]
  | i + 1 => by
    simp only [freeU, List.mem_append, freeU_mem (i := i)]
    by_cases e : j = i
    · subst e
      by_cases h : a ≤ j ∧ F j = true
      · simp [h]
      · simp only [h, if_false, List.not_mem_nil, or_false]
        constructor
        · rintro ⟨_, h2, _⟩; omega
        · rintro ⟨h1, _, h3⟩; exact absurd ⟨h1, h3⟩ h
    · constructor
      · rintro (⟨h1, h2, h3⟩ | h)
        · exact ⟨h1, by omega, h3⟩
        · split at h <;> simp at h
          omega
      · rintro ⟨h1, h2, h3⟩
        exact .inl ⟨h1, by omega, h3⟩
theorem freeU_pre (F : Nat → Bool) (a i : Nat) : ∀ m, ∃ r, freeU F a (i + m) = freeU F a i ++ r
  | 0 => ⟨[], by simp⟩
  | m + 1 => by
    obtain ⟨r, hr⟩ := freeU_pre F a i m
    exact ⟨r ++ _, by rw [show i + (m + 1) = (i + m) + 1 by omega, freeU, hr, List.append_assoc]⟩
theorem freeU_low (F : Nat → Bool) (a : Nat) : ∀ i, i ≤ a → freeU F a i = []
  | 0, _ => rfl
  | i + 1, h => by
    rw [freeU, freeU_low F a i (by omega)]
    simp
    omega
/-- Taken until there are k, or no more. -/
theorem freeU_take {F : Nat → Bool} {a i n k : Nat} (hi : i ≤ n) (hl : (freeU F a i).length ≤ k) (he : i = n ∨ (freeU F a i).length = k) : (freeU F a n).take k = freeU F a i := by
  rcases he with rfl | e
  · exact List.take_of_length_le hl
  · obtain ⟨r, hr⟩ := freeU_pre F a i (n - i)
    rw [show i + (n - i) = n by omega] at hr
    rw [hr, ← e]
    simp
theorem freeU_range {F : Nat → Bool} {a : Nat} : ∀ {k : Nat}, (∀ j, j < k → F (a + j) = true) → freeU F a (a + k) = List.range' a k
  | 0, _ => by simpa using freeU_low F a a (Nat.le_refl _)
  | k + 1, h => by
    rw [show a + (k + 1) = (a + k) + 1 by omega, freeU, freeU_range (k := k) fun j hj => h j (by omega), List.range'_concat]
    simp [h k (by omega)]

/-- What is left free. -/
def dropF (F : Nat → Bool) (T : List Nat) (j : Nat) : Bool := F j && !T.contains j
theorem dropF_nil (F : Nat → Bool) : dropF F [] = F := by funext j; simp [dropF]
theorem dropF_step_hit {F : Nat → Bool} {a i : Nat} (ha : a ≤ i) (h : F i = true) : dropF F (freeU F a (i + 1)) = setB (dropF F (freeU F a i)) i false := by
  funext j
  by_cases e : j = i
  · subst e
    simp [dropF, freeU, ha, h, setB]
  · simp [dropF, freeU, ha, h, e, setB]
theorem dropF_at {F : Nat → Bool} {a i : Nat} : dropF F (freeU F a i) i = F i := by
  have h : i ∉ freeU F a i := fun q => by have := (freeU_mem.1 q).2.1; omega
  simp [dropF, h]
theorem freeU_miss {F : Nat → Bool} {a i : Nat} (h : F i = false) : freeU F a (i + 1) = freeU F a i := by simp [freeU, h]
theorem freeU_hit {F : Nat → Bool} {a i : Nat} (ha : a ≤ i) (h : F i = true) : freeU F a (i + 1) = freeU F a i ++ [i] := by simp [freeU, h, ha]

/-- Are a to a + k - 1 free? -/
def runsB (F : Nat → Bool) (a : Nat) : Nat → Bool
  | 0 => true
  | k + 1 => runsB F a k && F (a + k)
theorem prunsB_iff {F : Nat → Bool} {a : Nat} : ∀ {k : Nat}, runsB F a k = true ↔ ∀ j, j < k → F (a + j) = true
  | 0 => by simp [runsB]
  | k + 1 => by
    simp only [runsB, Bool.and_eq_true, prunsB_iff (k := k)]
    constructor
    · rintro ⟨h1, h2⟩ j hj
      by_cases e : j = k
      · rw [e]; exact h2
      · exact h1 j (by omega)
    · intro h
      exact ⟨fun j hj => h j (by omega), h k (by omega)⟩
theorem prunsB_no {F : Nat → Bool} {a k : Nat} (j : Nat) (hj : j < k) (h : F (a + j) = false) : runsB F a k = false := by
  cases e : runsB F a k
  · rfl
  · rw [prunsB_iff.1 e j hj] at h; cases h

/-- The highest run of k that begins below m. -/
def topR (F : Nat → Bool) (k : Nat) : Nat → Option Nat
  | 0 => none
  | m + 1 => if runsB F m k then some m else topR F k m
theorem topR_some {F : Nat → Bool} {k a : Nat} (h : runsB F a k = true) : ∀ {m : Nat}, a < m → (∀ x, a < x → x < m → runsB F x k = false) → topR F k m = some a
  | 0, ha, _ => by omega
  | m + 1, ha, hi => by
    by_cases e : a = m
    · subst e; simp [topR, h]
    · rw [topR, if_neg (by simp [hi m (by omega) (by omega)]), topR_some h (by omega) fun x h1 h2 => hi x h1 (by omega)]
theorem topR_none {F : Nat → Bool} {k : Nat} : ∀ {m : Nat}, (∀ x, x < m → runsB F x k = false) → topR F k m = none
  | 0, _ => rfl
  | m + 1, hi => by rw [topR, if_neg (by simp [hi m (by omega)]), topR_none fun x h => hi x (by omega)]
theorem topR_inv {F : Nat → Bool} {k a : Nat} : ∀ {m : Nat}, topR F k m = some a → a < m ∧ runsB F a k = true ∧ ∀ x, a < x → x < m → runsB F x k = false
  | 0, h => by simp [topR] at h
  | m + 1, h => by
    rw [topR] at h
    split at h
    · rename_i e
      obtain rfl : m = a := by simpa using h
      exact ⟨by omega, e, fun x h1 h2 => by omega⟩
    · rename_i e
      obtain ⟨h1, h2, h3⟩ := topR_inv h
      refine ⟨by omega, h2, fun x q1 q2 => ?_⟩
      by_cases ex : x = m
      · rw [ex]; simpa using e
      · exact h3 x q1 (by omega)
theorem topR_non {F : Nat → Bool} {k : Nat} : ∀ {m : Nat}, topR F k m = none → ∀ x, x < m → runsB F x k = false
  | 0, _ => fun x h => by omega
  | m + 1, h => by
    rw [topR] at h
    split at h
    · cases h
    · rename_i e
      intro x hx
      by_cases ex : x = m
      · rw [ex]; simpa using e
      · exact topR_non h x (by omega)

/-- Where the highest run of k free ones begins. -/
def runO (n : Nat) (F : Nat → Bool) (k : Int) : Option Nat := if 1 ≤ k ∧ k ≤ n then topR F k.toNat (n + 1 - k.toNat) else none
def runV : Option Nat → Int
  | some a => a
  | none => 0
theorem runO_some {n k a : Nat} {F : Nat → Bool} (hk : 1 ≤ k) (hn : a + k ≤ n) (h : runsB F a k = true) (hi : ∀ x, a < x → x + k ≤ n → runsB F x k = false) : runO n F k = some a := by
  rw [runO, if_pos (by omega), Int.toNat_natCast]
  exact topR_some h (by omega) fun x h1 h2 => hi x h1 (by omega)
theorem runO_none {n k : Nat} {F : Nat → Bool} (hi : ∀ x, x + k ≤ n → runsB F x k = false) : runO n F k = none := by
  rw [runO]
  split
  · rw [Int.toNat_natCast]
    exact topR_none fun x h => hi x (by omega)
  · rfl
theorem runO_low {n : Nat} {k : Int} {F : Nat → Bool} (h : k < 1) : runO n F k = none := by rw [runO, if_neg (by omega)]
theorem runO_high {n : Nat} {k : Int} {F : Nat → Bool} (h : (n : Int) < k) : runO n F k = none := by rw [runO, if_neg (by omega)]
theorem runO_inv {n a : Nat} {k : Int} {F : Nat → Bool} (h : runO n F k = some a) : ∃ m : Nat, k = m ∧ 1 ≤ m ∧ a + m ≤ n ∧ (∀ j, j < m → F (a + j) = true) ∧ ∀ x, a < x → x + m ≤ n → runsB F x m = false := by
  rw [runO] at h
  split at h
  · rename_i e
    obtain ⟨h1, h2, h3⟩ := topR_inv h
    exact ⟨k.toNat, by omega, by omega, by omega, prunsB_iff.1 h2, fun x q1 q2 => h3 x q1 (by omega)⟩
  · cases h

/-- What Low and Take take. -/
def lowL (n : Nat) (F : Nat → Bool) (k : Int) : List Nat := (freeU F 0 n).take k.toNat
def takeB (n : Nat) (F : Nat → Bool) (k : Int) : Bool := decide (1 ≤ k ∧ k ≤ cntB F n)
def takeL (n : Nat) (F : Nat → Bool) (k : Int) : List Nat :=
  if takeB n F k then (match runO n F k with | some a => List.range' a k.toNat | none => lowL n F k) else []
theorem lowL_len (n : Nat) (F : Nat → Bool) (k : Int) : (lowL n F k).length = min k.toNat (cntB F n) := by simp [lowL, freeU_len]
theorem lowL_min (n : Nat) (F : Nat → Bool) (k : Int) : lowL n F (min k (cntB F n)) = lowL n F k := by
  have hl := freeU_len F n
  by_cases h : k ≤ cntB F n
  · rw [Int.min_eq_left h]
  · rw [Int.min_eq_right (by omega), lowL, lowL, List.take_of_length_le (by omega), List.take_of_length_le (by omega)]
theorem takeL_len {n : Nat} {F : Nat → Bool} {k : Int} (h : takeB n F k = true) : (takeL n F k).length = k.toNat := by
  have h2 := h
  simp [takeB] at h2
  rw [takeL, if_pos h]
  split
  · simp
  · rw [lowL_len]; omega

def giveB (n : Nat) (F : Nat → Bool) (i : Int) : Bool := inn n i && !F i.toNat
def giveF (n : Nat) (F : Nat → Bool) (i : Int) : Nat → Bool := if giveB n F i then setB F i.toNat true else F
def hasB (n : Nat) (F : Nat → Bool) (i : Int) : Bool := inn n i && F i.toNat
end Go.Proofs.Ytahpnnjemjjfhaa
