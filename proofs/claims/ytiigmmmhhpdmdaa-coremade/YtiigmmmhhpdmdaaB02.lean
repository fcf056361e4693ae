/-
  The modules Free, Pool, PoolB, PoolC, PoolD, one behind another.
-/
import Derived.OwnWalk
import Derived.Test.YtiigmmmhhpdmdaaB01
/-
  What is free, as plain functions: counts, the free ones in their order, the highest run, what is taken.
-/
namespace Go.Proofs.Ytiigmmmhhpdmdaa
open Go.RowKit

/-- How many of the first k are free. -/
def cntB (F : Nat → Bool) : Nat → Nat
  | 0 => 0
  | k + 1 => cntB F k + if F k then 1 else 0

theorem cntB_le (F : Nat → Bool) : ∀ k, cntB F k ≤ k
  | 0 => Nat.le_refl _
  | k + 1 => by
    have := cntB_le F k
    simp only [cntB]
    split <;> omega
theorem cntB_congr {F G : Nat → Bool} : ∀ {k : Nat}, (∀ j, j < k → F j = G j) → cntB F k = cntB G k
  | 0, _ => rfl
  | k + 1, h => by
    have := cntB_congr (k := k) fun j hj => h j (by omega)
    simp [cntB, this, h k (by omega)]
theorem cntB_all {F : Nat → Bool} : ∀ {k : Nat}, (∀ j, j < k → F j = true) → cntB F k = k
  | 0, _ => rfl
  | k + 1, h => by
    have := cntB_all (k := k) fun j hj => h j (by omega)
    simp [cntB, this, h k (by omega)]
def setB (F : Nat → Bool) (i : Nat) (v : Bool) (j : Nat) : Bool := if j = i then v else F j
theorem setB_same (F : Nat → Bool) (i : Nat) (v : Bool) : setB F i v i = v := by simp [setB]
theorem setB_other (F : Nat → Bool) {i j : Nat} (v : Bool) (h : j ≠ i) : setB F i v j = F j := by simp [setB, h]
theorem cntB_set_true {F : Nat → Bool} {i : Nat} (hf : F i = false) : ∀ {k : Nat}, i < k → cntB (setB F i true) k = cntB F k + 1
  | 0, h => by omega
  | k + 1, h => by
    by_cases e : i = k
    · subst e
      have : cntB (setB F i true) i = cntB F i := cntB_congr fun j hj => setB_other F true (by omega)
      simp only [cntB, this, hf, setB_same, if_true, Bool.false_eq_true, if_false, Nat.add_zero]
    · have := cntB_set_true hf (k := k) (by omega)
      simp only [cntB, this, setB_other F true (show k ≠ i by omega)]
      omega

/-- Of a to i - 1 those that are free, rising. -/
def freeU (F : Nat → Bool) (a : Nat) : Nat → List Nat
  | 0 => []
  | i + 1 => freeU F a i ++ if a ≤ i ∧ F i = true then [i] else []

theorem freeU_len (F : Nat → Bool) : ∀ i, (freeU F 0 i).length = cntB F i
  | 0 => rfl
  | i + 1 => by
    simp only [freeU, cntB, List.length_append, freeU_len F i]
    cases F i <;> simp
theorem freeU_len_le (F : Nat → Bool) (a : Nat) : ∀ i, (freeU F a i).length ≤ i
  | 0 => Nat.le_refl _
  | i + 1 => by
    have := freeU_len_le F a i
    simp only [freeU, List.length_append]
    split <;> simp <;> omega
theorem freeU_mem {F : Nat → Bool} {a j : Nat} : ∀ {i : Nat}, j ∈ freeU F a i ↔ a ≤ j ∧ j < i ∧ F j = true
  | 0 => by simp [freeU]
  | i + 1 => by
    simp only [freeU, List.mem_append, freeU_mem (i := i)]
    by_cases e : j = i
    · subst e
      by_cases h : a ≤ j ∧ F j = true
      · simp [h]
      · simp only [h, if_false, List.not_mem_nil, or_false]
        constructor
        · rintro ⟨_, h2, _⟩; omega
        · rintro ⟨h1, _, h3⟩; exact absurd ⟨h1, h3⟩ h
    · constructor
      · rintro (⟨h1, h2, h3⟩ | h)
        · exact ⟨h1, by omega, h3⟩
        · split at h <;> simp at h
          omega
      · rintro ⟨h1, h2, h3⟩
        exact .inl ⟨h1, by omega, h3⟩
theorem freeU_pre (F : Nat → Bool) (a i : Nat) : ∀ m, ∃ r, freeU F a (i + m) = freeU F a i ++ r
  | 0 => ⟨[], by simp⟩
  | m + 1 => by
    obtain ⟨r, hr⟩ := freeU_pre F a i m
    exact ⟨r ++ _, by rw [show i + (m + 1) = (i + m) + 1 by omega, freeU, hr, List.append_assoc]⟩
theorem freeU_low (F : Nat → Bool) (a : Nat) : ∀ i, i ≤ a → freeU F a i = []
  | 0, _ => rfl
  | i + 1, h => by
    rw [freeU, freeU_low F a i (by omega)]
    simp
    omega
/-- Taken until there are k, or no more. -/
theorem freeU_take {F : Nat → Bool} {a i n k : Nat} (hi : i ≤ n) (hl : (freeU F a i).length ≤ k) (he : i = n ∨ (freeU F a i).length = k) : (freeU F a n).take k = freeU F a i := by
  rcases he with rfl | e
  · exact List.take_of_length_le hl
  · obtain ⟨r, hr⟩ := freeU_pre F a i (n - i)
    rw [show i + (n - i) = n by omega] at hr
    rw [hr, ← e]
    simp
theorem freeU_range {F : Nat → Bool} {a : Nat} : ∀ {k : Nat}, (∀ j, j < k → F (a + j) = true) → freeU F a (a + k) = List.range' a k
  | 0, _ => by simpa using freeU_low F a a (Nat.le_refl _)
  | k + 1, h => by
    rw [show a + (k + 1) = (a + k) + 1 by omega, freeU, freeU_range (k := k) fun j hj => h j (by omega), List.range'_concat]
    simp [h k (by omega)]

/-- What is left free. -/
def dropF (F : Nat → Bool) (T : List Nat) (j : Nat) : Bool := F j && !T.contains j
theorem dropF_nil (F : Nat → Bool) : dropF F [] = F := by funext j; simp [dropF]
theorem dropF_step_hit {F : Nat → Bool} {a i : Nat} (ha : a ≤ i) (h : F i = true) : dropF F (freeU F a (i + 1)) = setB (dropF F (freeU F a i)) i false := by
  funext j
  by_cases e : j = i
  · subst e
    simp [dropF, freeU, ha, h, setB]
  · simp [dropF, freeU, ha, h, e, setB]
theorem dropF_at {F : Nat → Bool} {a i : Nat} : dropF F (freeU F a i) i = F i := by
  have h : i ∉ freeU F a i := fun q => by have := (freeU_mem.1 q).2.1; omega
  simp [dropF, h]
theorem freeU_miss {F : Nat → Bool} {a i : Nat} (h : F i = false) : freeU F a (i + 1) = freeU F a i := by simp [freeU, h]
theorem freeU_hit {F : Nat → Bool} {a i : Nat} (ha : a ≤ i) (h : F i = true) : freeU F a (i + 1) = freeU F a i ++ [i] := by simp [freeU, h, ha]

/-- Are a to a + k - 1 free? -/
def runsB (F : Nat → Bool) (a : Nat) : Nat → Bool
  | 0 => true
  | k + 1 => runsB F a k && F (a + k)
theorem prunsB_iff {F : Nat → Bool} {a : Nat} : ∀ {k : Nat}, runsB F a k = true ↔ ∀ j, j < k → F (a + j) = true
  | 0 => by simp [runsB]
  | k + 1 => by
    simp only [runsB, Bool.and_eq_true, prunsB_iff (k := k)]
    constructor
    · rintro ⟨h1, h2⟩ j hj
      by_cases e : j = k
      · rw [e]; exact h2
      · exact h1 j (by omega)
    · intro h
      exact ⟨fun j hj => h j (by omega), h k (by omega)⟩
theorem prunsB_no {F : Nat → Bool} {a k : Nat} (j : Nat) (hj : j < k) (h : F (a + j) = false) : runsB F a k = false := by
  cases e : runsB F a k
  · rfl
  · rw [prunsB_iff.1 e j hj] at h; cases h

/-- The highest run of k that begins below m. -/
def topR (F : Nat → Bool) (k : Nat) : Nat → Option Nat
  | 0 => none
  | m + 1 => if runsB F m k then some m else topR F k m
theorem topR_some {F : Nat → Bool} {k a : Nat} (h : runsB F a k = true) : ∀ {m : Nat}, a < m → (∀ x, a < x → x < m → runsB F x k = false) → topR F k m = some a
  | 0, ha, _ => by omega
  | m + 1, ha, hi => by
    by_cases e : a = m
    · subst e; simp [topR, h]
    · rw [topR, if_neg (by simp [hi m (by omega) (by omega)]), topR_some h (by omega) fun x h1 h2 => hi x h1 (by omega)]
theorem topR_none {F : Nat → Bool} {k : Nat} : ∀ {m : Nat}, (∀ x, x < m → runsB F x k = false) → topR F k m = none
  | 0, _ => rfl
  | m + 1, hi => by rw [topR, if_neg (by simp [hi m (by omega)]), topR_none fun x h => hi x (by omega)]
theorem topR_inv {F : Nat → Bool} {k a : Nat} : ∀ {m : Nat}, topR F k m = some a → a < m ∧ runsB F a k = true ∧ ∀ x, a < x → x < m → runsB F x k = false
  | 0, h => by simp [topR] at h
  | m + 1, h => by
    rw [topR] at h
    split at h
    · rename_i e
      obtain rfl : m = a := by simpa using h
      exact ⟨by omega, e, fun x h1 h2 => by omega⟩
    · rename_i e
      obtain ⟨h1, h2, h3⟩ := topR_inv h
      refine ⟨by omega, h2, fun x q1 q2 => ?_⟩
      by_cases ex : x = m
      · rw [ex]; simpa using e
      · exact h3 x q1 (by omega)
theorem topR_non {F : Nat → Bool} {k : Nat} : ∀ {m : Nat}, topR F k m = none → ∀ x, x < m → runsB F x k = false
  | 0, _ => fun x h => by omega
  | m + 1, h => by
    rw [topR] at h
    split at h
    · cases h
    · rename_i e
      intro x hx
      by_cases ex : x = m
      · rw [ex]; simpa using e
      · exact topR_non h x (by omega)

/-- Where the highest run of k free ones begins. -/
def runO (n : Nat) (F : Nat → Bool) (k : Int) : Option Nat := if 1 ≤ k ∧ k ≤ n then topR F k.toNat (n + 1 - k.toNat) else none
def runV : Option Nat → Int
  | some a => a
  | none => 0
theorem runO_some {n k a : Nat} {F : Nat → Bool} (hk : 1 ≤ k) (hn : a + k ≤ n) (h : runsB F a k = true) (hi : ∀ x, a < x → x + k ≤ n → runsB F x k = false) : runO n F k = some a := by
  rw [runO, if_pos (by omega), Int.toNat_natCast]
  exact topR_some h (by omega) fun x h1 h2 => hi x h1 (by omega)
theorem runO_none {n k : Nat} {F : Nat → Bool} (hi : ∀ x, x + k ≤ n → runsB F x k = false) : runO n F k = none := by
  rw [runO]
  split
  · rw [Int.toNat_natCast]
    exact topR_none fun x h => hi x (by omega)
  · rfl
theorem runO_low {n : Nat} {k : Int} {F : Nat → Bool} (h : k < 1) : runO n F k = none := by rw [runO, if_neg (by omega)]
theorem runO_high {n : Nat} {k : Int} {F : Nat → Bool} (h : (n : Int) < k) : runO n F k = none := by rw [runO, if_neg (by omega)]
theorem runO_inv {n a : Nat} {k : Int} {F : Nat → Bool} (h : runO n F k = some a) : ∃ m : Nat, k = m ∧ 1 ≤ m ∧ a + m ≤ n ∧ (∀ j, j < m → F (a + j) = true) ∧ ∀ x, a < x → x + m ≤ n → runsB F x m = false := by
  rw [runO] at h
  split at h
  · rename_i e
    obtain ⟨h1, h2, h3⟩ := topR_inv h
    exact ⟨k.toNat, by omega, by omega, by omega, prunsB_iff.1 h2, fun x q1 q2 => h3 x q1 (by omega)⟩
  · cases h

/-- What Low and Take take. -/
def lowL (n : Nat) (F : Nat → Bool) (k : Int) : List Nat := (freeU F 0 n).take k.toNat
def takeB (n : Nat) (F : Nat → Bool) (k : Int) : Bool := decide (1 ≤ k ∧ k ≤ cntB F n)
def takeL (n : Nat) (F : Nat → Bool) (k : Int) : List Nat :=
  if takeB n F k then (match runO n F k with | some a => List.range' a k.toNat | none => lowL n F k) else []
theorem lowL_len (n : Nat) (F : Nat → Bool) (k : Int) : (lowL n F k).length = min k.toNat (cntB F n) := by simp [lowL, freeU_len]
theorem lowL_min (n : Nat) (F : Nat → Bool) (k : Int) : lowL n F (min k (cntB F n)) = lowL n F k := by
  have hl := freeU_len F n
  by_cases h : k ≤ cntB F n
  · rw [Int.min_eq_left h]
  · rw [Int.min_eq_right (by omega), lowL, lowL, List.take_of_length_le (by omega), List.take_of_length_le (by omega)]
theorem takeL_len {n : Nat} {F : Nat → Bool} {k : Int} (h : takeB n F k = true) : (takeL n F k).length = k.toNat := by
  have h2 := h
  simp [takeB] at h2
  rw [takeL, if_pos h]
  split
  · simp
  · rw [lowL_len]; omega

def giveB (n : Nat) (F : Nat → Bool) (i : Int) : Bool := inn n i && !F i.toNat
def giveF (n : Nat) (F : Nat → Bool) (i : Int) : Nat → Bool := if giveB n F i then setB F i.toNat true else F
def hasB (n : Nat) (F : Nat → Bool) (i : Int) : Bool := inn n i && F i.toNat
end Go.Proofs.Ytiigmmmhhpdmdaa

/-
  Contracts of package pool: a pool as it lies in memory; each method answers as a plain function of what is free.
-/
namespace Go.Proofs.Ytiigmmmhhpdmdaa
open Go.RowKit

/-- A pool (of head type t) at block b, its marks at block g. -/
structure PTab (t : TypeId) (w : World) (b g n : Nat) (F : Nat → Bool) : Prop where
  head : Own w b t [.slice (some ⟨g, 0, none⟩) n n]
  row : w.rowIs g 4 n (fun j => .bool (F j))
  ne : b ≠ g
  few : n ≤ 1024

section
variable {t : TypeId} {w w' w'' : World} {b g n : Nat} {F : Nat → Bool}
theorem PTab.kept (h : PTab t w b g n F) (k : Kept w w') : PTab t w' b g n F := ⟨h.head.kept k, k.row h.row, h.ne, h.few⟩
theorem PTab.muts {D : List Nat} (h : PTab t w b g n F) (m : Mut D w w') (hb : b ∉ D) (hg : g ∉ D) : PTab t w' b g n F := ⟨h.head.muts m hb, m.row h.row hg, h.ne, h.few⟩
theorem PTab.hd (h : PTab t w b g n F) : w.cell? ⟨b, 0, none⟩ = some (.slice (some ⟨g, 0, none⟩) n n) := h.head.blk.at 0 rfl
theorem PTab.at (h : PTab t w b g n F) {k : Nat} (hk : k < n) : w.cell? ⟨g, k, none⟩ = some (.bool (F k)) := h.row.cell hk
theorem PTab.ltb (h : PTab t w b g n F) : b < w.heap.size := h.head.lt
theorem PTab.ltg (h : PTab t w b g n F) : g < w.heap.size := h.row.lt
theorem PTab.set (h : PTab t w b g n F) (k : Nat) (v : Bool) : PTab t (w.setCell ⟨g, k, none⟩ (.bool v)) b g n (setB F k v) :=
  ⟨h.head.set_other (Ne.symm h.ne) _, (h.row.set _ _).congr fun j _ => by by_cases e : j = k <;> simp [e, setB], h.ne, h.few⟩
theorem PTab.alloc (h : PTab t w b g n F) (c : Array Value) (u : TypeId) : PTab t (w.alloc (.cells c u)) b g n F := h.kept ((Kept.refl w).alloc c u)
theorem PTab.grown {row : Option Nat} (h : PTab t w b g n F) (hg : w.grownBy w' row) (hr : ∀ k, row = some k → k ≠ b ∧ k ≠ g) : PTab t w' b g n F :=
  ⟨(hg.block b h.ltb fun e => (hr b e.symm).1 rfl).trans h.head, h.row.of_block (hg.block g h.ltg fun e => (hr g e.symm).2 rfl), h.ne, h.few⟩
theorem PTab.congr {G : Nat → Bool} (h : PTab t w b g n F) (e : ∀ j, j < n → F j = G j) : PTab t w b g n G := ⟨h.head, h.row.congr fun j hj => by rw [e j hj], h.ne, h.few⟩
theorem Mut.grown {D : List Nat} {row : Option Nat} (h : Mut D w w') (hg : w'.grownBy w'' row) (hr : ∀ k, row = some k → w.heap.size ≤ k) : Mut D w w'' :=
  ⟨hg.os.trans h.os, hg.tape.trans h.tape, hg.output.trans h.output, Nat.le_trans h.size hg.size, fun k hk hd =>
    (hg.block k (Nat.lt_of_lt_of_le hk h.size) fun e => by have := hr k e.symm; omega).trans (h.block k hk hd)⟩
end

/-- A slice of the call's own that holds the numbers T. -/
def Got (w : World) (base : Nat) (v : Value) (T : List Nat) : Prop := w.ownsRow base 3 1 v T.length (T.map fun x : Nat => .int .i64 (x : Int))

section
variable {w w' w'' : World} {base : Nat} {v : Value} {T : List Nat}
theorem Got.form (h : Got w base v T) : ∃ x c, v = .slice x T.length c := by
  rcases h.2 with ⟨rfl, h0⟩ | ⟨g, cap, cur, hv, _⟩
  · rw [h0]; exact ⟨_, _, rfl⟩
  · exact ⟨_, _, hv⟩
theorem Got.nil (w : World) (base : Nat) : Got w base (.slice none 0 0) [] := World.ownsRow_nil _ _ _ _
theorem Got.alloc (h : Got w base v T) (o : Obj) : Got (w.alloc o) base v T := World.ownsRow.alloc h o
theorem Got.set (h : Got w base v T) {a : Addr} (ha : a.block < base) (u : Value) : Got (w.setCell a u) base v T :=
  ownsRow_setCell_other h (fun e => by have := (World.ownsRow.lt h _ e).1; omega) u
theorem Got.muts {D : List Nat} (h : Got w base v T) (m : Mut D w w') (hd : ∀ k, k ∈ D → k < base) : Got w' base v T := by
  refine ⟨h.1, ?_⟩
  rcases h.2 with hn | ⟨g, cap, cur, rfl, hb, hgg, rest⟩
  · exact .inl hn
  · refine .inr ⟨g, cap, cur, rfl, hb, ?_, rest⟩
    rw [m.block g (lt_of_block hgg) fun q => by have := hd g q; omega]
    exact hgg
theorem Got.kept (h : Got w base v T) (k : Kept w w') : Got w' base v T := h.muts (D := []) k.mut (fun _ q => by cases q)
theorem Got.low (h : Got w base v T) {b' : Nat} (hb : b' ≤ base) : Got w b' v T := by
  refine ⟨h.1, ?_⟩
  rcases h.2 with hn | ⟨g, cap, cur, rfl, hb', hgg, rest⟩
  · exact .inl hn
  · exact .inr ⟨g, cap, cur, rfl, Nat.le_trans hb hb', hgg, rest⟩
theorem Got.at {x : Option Addr} {l c : Nat} (h : Got w base (.slice x l c) T) {i : Nat} (hi : i < T.length) : ∃ g, x = some ⟨g, 0, none⟩ ∧ base ≤ g ∧ g < w.heap.size ∧ ∀ j, (hj : j < T.length) → w.cell? ⟨g, j, none⟩ = some (.int .i64 (T[j] : Nat)) := by
  rcases h.2 with ⟨e, h0⟩ | ⟨g, cap, cur, e, hb, hg, _⟩
  · omega
  · have e1 : x = some ⟨g, 0, none⟩ := by simpa using (Value.slice.inj e).1
    refine ⟨g, e1, hb, lt_of_block hg, fun j hj => ?_⟩
    have h1 := World.ownsRow.cells h (g := g) (by rw [e1]; rfl) j (.int .i64 (T[j] : Nat)) (by simp [hj])
    rwa [show (⟨g, 0, none⟩ : Addr).add j = ⟨g, j, none⟩ by unfold Addr.add; split <;> simp_all] at h1
theorem Got.push {v' : Value} {j : Nat} (h : w.ownsRow base 3 1 v' (T.length + 1) ((T.map fun x : Nat => .int .i64 (x : Int)) ++ [.int .i64 (j : Int)])) : Got w base v' (T ++ [j]) := by
  unfold Got
  simpa using h
end

theorem info_int8 : (Try.prog.info? 3).map (fun i => (i.zero, i.size, i.bytes)) = some (some (.int .i64 0), 1, 8) := by kernel_rfl
theorem info_bool8 : (Try.prog.info? 4).map (fun i => (i.zero, i.size, i.bytes)) = some (some (.bool false), 1, 1) := by kernel_rfl

set_option maxHeartbeats 1000000 in
theorem pfree_any {b g n : Nat} {F : Nat → Bool} (w : World) (h : PTab 176 w b g n F) :
    Calls Try.prog 48 #[.pointer (some ⟨b, 0, none⟩)] w fun e w' => e = .returned (.int .i64 (cntB F n)) ∧ w' = w := by
  have c0 := h.hd
  have hn := h.few
  have HT : Hid (PTab 176 w b g n F) := h
  clear h
  go_enter Try.func48, Try.ntmps48
  go_wp2
  clear c0
  go_loopg [3, 11] n (fun m x i wr => ∃ k : Nat, i = .int .i64 k ∧ k ≤ n ∧ m = n - k ∧ x = .int .i64 (cntB F k) ∧ wr = w)
  case atStart => exact ⟨0, rfl, by omega, by omega, rfl, rfl⟩
  case round =>
    obtain ⟨k, rfl, hk, hm, rfl, rfl⟩ := hrel
    have HM : Hid _ := hm
    clear hm
    have l0 := cntB_le F k
    by_cases hlt : k < n
    · have a0 := HT.out.at hlt
      have s0 : Hid (cntB F (k + 1) = cntB F k + if F k then 1 else 0) := rfl
      cases hf : F k
      all_goals (rw [hf] at a0 s0; clear hf)
      all_goals go_wp2
      all_goals go_roundg (gk - 1)
      all_goals (have := HM.out; try omega)
      all_goals exact ⟨k + 1, by go_num, by omega, by omega, by simp [s0.out], rfl⟩
    · obtain rfl : k = n := by omega
      go_wp2
      go_ret
      exact ⟨rfl, rfl⟩
end Go.Proofs.Ytiigmmmhhpdmdaa

/-
  Contracts of package pool: New, Run, Low, Take.
-/
namespace Go.Proofs.Ytiigmmmhhpdmdaa
open Go.RowKit

def F1 : Nat → Bool := fun _ => true

theorem run_make_bools (n : Nat) (h : n ≤ 1024) (w : World) :
    (Instr.makeSlice 70 (.int .i64 (n : Int)) (.int .i64 (n : Int))).run Try.prog w = .ok (.slice (some ⟨w.heap.size, 0, none⟩) n n) (w.alloc (.cells (madeCells #[.bool false] n) 4)) := by
  obtain ⟨i, hi, hz, hs, hb⟩ := info_parts info_bool8
  have hr := run_make (P := Try.prog) w 70 4 i _ Try.underlying70 hi hz .i64 .i64 n n (by omega) (Int.le_refl _) (by rw [hb]; omega) (by omega)
  simp only [Int.toNat_natCast, hs, Nat.mul_one] at hr
  exact hr

theorem ppool_made (t : TypeId) (w : World) (n : Nat) (hn : n ≤ 1024) : PTab t ((w.alloc (.cells (madeCells #[.bool false] n) 4)).alloc (.cells #[.slice (some ⟨w.heap.size, 0, none⟩) n n] t)) (w.heap.size + 1) w.heap.size n (fun _ => false) := by
  refine ⟨?_, (World.rowIs_made w _ n _).alloc _, by omega, hn⟩
  have h := Own.new (w.alloc (.cells (madeCells #[.bool false] n) 4)) [.slice (some ⟨w.heap.size, 0, none⟩) n n] t
  simpa using h

set_option maxHeartbeats 800000 in
theorem pnew_bad (n : Int) (w : World) (hn : ¬ (0 ≤ n ∧ n ≤ 1024)) :
    Calls Try.prog 73 #[.int .i64 n] w fun e w' => e = .returned (.tuple #[.pointer none, .int .i64 1]) ∧ w' = w := by
  by_cases h0 : n < 0
  · clear hn
    go_enter Try.func73, Try.ntmps73
    go_wp2
    go_ret2
    exact ⟨rfl, rfl⟩
  · have h1 : 1024 < n := by omega
    clear hn
    go_enter Try.func73, Try.ntmps73
    go_wp2
    go_ret2
    exact ⟨rfl, rfl⟩

theorem below_step (k : Nat) : setB (fun j => decide (j < k)) k true = fun j => decide (j < k + 1) := by
  funext j
  by_cases e : j = k
  · subst e; simp [setB]
  · simp [setB, e]; omega

set_option maxHeartbeats 800000 in
theorem pnew_any (n : Nat) (w : World) (hn : n ≤ 1024) :
    Calls Try.prog 73 #[.int .i64 n] w fun e w' => ∃ b g, e = .returned (.tuple #[.pointer (some ⟨b, 0, none⟩), .int .i64 0]) ∧ PTab 176 w' b g n F1 ∧ w.heap.size ≤ b ∧ w.heap.size ≤ g ∧ Kept w w' := by
  have hmk := run_make_bools n hn
  have PM : Hid _ := ppool_made 176 w n hn
  have KM : Hid (Kept w ((w.alloc (.cells (madeCells #[.bool false] n) 4)).alloc (.cells #[.slice (some ⟨w.heap.size, 0, none⟩) n n] 176))) := ((Kept.refl w).alloc _ _).alloc _ _
  go_enter Try.func73, Try.ntmps73
  go_wp2
  clear hmk
  go_loopg [21] n (fun m i wr => ∃ k : Nat, i = .int .i64 k ∧ k ≤ n ∧ m = n - k ∧ Hid (PTab 176 wr (w.heap.size + 1) w.heap.size n (fun j => decide (j < k)) ∧ Kept w wr))
  case atStart => exact ⟨0, rfl, by omega, by omega, PM.out.congr (fun j _ => by simp), KM.out⟩
  case round =>
    clear PM KM
    obtain ⟨k, rfl, hk, hm, hw⟩ := hrel
    have HM : Hid _ := hm
    clear hm
    have c0 := hw.out.1.hd
    by_cases hlt : k < n
    · have c1 := hw.out.1.at hlt
      have c2 := hw.out.1.row.frozen
      go_wp2
      go_roundg (gk - 1)
      all_goals (have := HM.out; try omega)
      refine ⟨k + 1, by go_num, by omega, by omega, ?_, ?_⟩
      · have := hw.out.1.set k true
        rwa [below_step] at this
      · exact hw.out.2.setCell (Nat.le_refl _) _
    · obtain rfl : k = n := by omega
      go_wp2
      go_ret2
      exact ⟨_, _, rfl, hw.out.1.congr (fun j hj => by simp [F1, hj]), by omega, by omega, hw.out.2⟩

/-- What Run knows at x: from x on q are free, then one that is not, or the end; no run begins from x on. -/
structure RunInv (n : Nat) (F : Nat → Bool) (k x q : Nat) : Prop where
  low : 1 ≤ k
  qk : q < k
  top : x + q ≤ n
  all : ∀ j, j < q → F (x + j) = true
  stop : x + q = n ∨ F (x + q) = false
  non : ∀ a, x ≤ a → a + k ≤ n → runsB F a k = false

section
variable {n k y q : Nat} {F : Nat → Bool}
theorem RunInv.start (hk : 1 ≤ k) : RunInv n F k n 0 := ⟨hk, by omega, by omega, fun j h => by omega, .inl rfl, fun a h1 h2 => by omega⟩
theorem RunInv.miss (h : RunInv n F k (y + 1) q) (hf : F y = false) : RunInv n F k y 0 :=
  ⟨h.low, h.low, by have := h.top; omega, fun j h => by omega, .inr hf, fun a h1 h2 => by
    by_cases e : a = y
    · subst e; exact prunsB_no 0 h.low hf
    · exact h.non a (by omega) h2⟩
theorem RunInv.hit (h : RunInv n F k (y + 1) q) (hf : F y = true) (hq : q + 1 < k) : RunInv n F k y (q + 1) :=
  ⟨h.low, hq, by have := h.top; omega, fun j hj => by
    by_cases e : j = 0
    · subst e; exact hf
    · have := h.all (j - 1) (by omega)
      rwa [show y + 1 + (j - 1) = y + j by omega] at this, by
    rcases h.stop with e | e
    · exact .inl (by omega)
    · exact .inr (by rwa [show y + (q + 1) = y + 1 + q by omega]), fun a h1 h2 => by
    by_cases e : a = y
    · subst e
      rcases h.stop with e | e
      · omega
      · exact prunsB_no (q + 1) hq (by rwa [show a + (q + 1) = a + 1 + q by omega])
    · exact h.non a (by omega) h2⟩
theorem RunInv.found (h : RunInv n F k (y + 1) q) (hf : F y = true) (hq : q + 1 = k) : runO n F k = some y :=
  runO_some h.low (by have := h.top; omega) (prunsB_iff.2 fun j hj => by
    by_cases e : j = 0
    · subst e; exact hf
    · have := h.all (j - 1) (by omega)
      rwa [show y + 1 + (j - 1) = y + j by omega] at this) fun x h1 h2 => h.non x (by omega) h2
theorem RunInv.over (h : RunInv n F k 0 q) : runO n F k = none := runO_none fun x hx => h.non x (by omega) hx
end

set_option maxHeartbeats 1000000 in
theorem prun_any {b g n : Nat} {F : Nat → Bool} (k : Int) (w : World) (h : PTab 176 w b g n F) :
    Calls Try.prog 95 #[.pointer (some ⟨b, 0, none⟩), .int .i64 k] w fun e w' => e = .returned (.tuple #[.int .i64 (runV (runO n F k)), .bool (runO n F k).isSome]) ∧ w' = w := by
  by_cases hk : k < 1
  · rw [runO_low hk]
    clear h
    go_enter Try.func95, Try.ntmps95
    go_wp2
    go_ret2
    exact ⟨rfl, rfl⟩
  · obtain ⟨kn, rfl⟩ : ∃ kn : Nat, k = kn := ⟨k.toNat, by omega⟩
    have c0 := h.hd
    have hn := h.few
    have HT : Hid (PTab 176 w b g n F) := h
    clear h
    generalize hR : runO n F kn = R
    have HR : Hid (runO n F kn = R) := hR
    clear hR
    go_enter Try.func95, Try.ntmps95
    go_wp2
    go_loopg [6, 7] (n + 1) (fun m s i wr => ∃ x q : Nat, i = .int .i64 ((x : Int) - 1) ∧ s = .int .i64 q ∧ x ≤ n ∧ q ≤ n ∧ m = x + 1 ∧ wr = w ∧ Hid (RunInv n F kn x q))
    case atStart => exact ⟨n, 0, rfl, rfl, by omega, by omega, rfl, rfl, RunInv.start (by omega)⟩
    case round =>
      obtain ⟨x, q, rfl, rfl, hx, hq, hm, rfl, hi⟩ := hrel
      have HM : Hid _ := hm
      clear hm
      cases x with
      | zero =>
        have e : R = none := HR.out.symm.trans hi.out.over
        subst e
        have e0 : ((0 : Nat) : Int) - 1 = -1 := rfl
        rw [e0]
        go_wp2
        go_ret2
        exact ⟨rfl, rfl⟩
      | succ y =>
        have e0 : ((y + 1 : Nat) : Int) - 1 = y := by omega
        rw [e0]
        clear e0
        have c1 := HT.out.at (k := y) (by omega)
        cases hf : F y
        · have HI : Hid (RunInv n F kn y 0) := hi.out.miss hf
          rw [hf] at c1
          clear hi hf
          go_wp2
          go_roundg (gk - 1)
          all_goals (have := HM.out; try omega)
          exact ⟨y, 0, rfl, rfl, by omega, by omega, by omega, rfl, HI⟩
        · rw [hf] at c1
          by_cases hq1 : q + 1 = kn
          · have e : R = some y := HR.out.symm.trans (hi.out.found hf hq1)
            subst e
            have q1 : ((q : Int) + 1 == (kn : Int)) = true := by simp; omega
            clear hi hf hq1
            go_wp2
            go_ret2
            exact ⟨rfl, rfl⟩
          · have qk := hi.out.qk
            have HI : Hid (RunInv n F kn y (q + 1) ∧ y + (q + 1) ≤ n) := ⟨hi.out.hit hf (by omega), by have := hi.out.top; omega⟩
            have q1 : ((q : Int) + 1 == (kn : Int)) = false := by simp; omega
            clear hi hf hq1 qk
            go_wp2
            go_roundg (gk - 1)
            all_goals (have := HM.out; try omega)
            exact ⟨y, q + 1, rfl, by go_num, by omega, by have := HI.out.2; omega, by omega, rfl, HI.out.1⟩
end Go.Proofs.Ytiigmmmhhpdmdaa

/-
  Contracts of package pool: takeFrom, Low, Take; the laws' own comparison of lists.
-/
namespace Go.Proofs.Ytiigmmmhhpdmdaa
open Go.RowKit

theorem run_make_ints (k : Nat) (h : k ≤ 1024) (w : World) :
    (Instr.makeSlice 59 (.int .i64 0) (.int .i64 (k : Int))).run Try.prog w = .ok (.slice (some ⟨w.heap.size, 0, none⟩) 0 k) (w.alloc (.cells (madeCells #[.int .i64 0] k) 3)) := by
  obtain ⟨i, hi, hz, hs, hb⟩ := info_parts info_int8
  have hr := run_make (P := Try.prog) w 59 3 i _ Try.underlying59 hi hz .i64 .i64 0 k (by omega) (by omega) (by rw [hb]; omega) (by omega)
  simp only [Int.toNat_natCast, Int.toNat_zero, hs, Nat.mul_one] at hr
  exact hr

theorem pnew_cell (w : World) (C : Array Value) (t : TypeId) {m : Nat} (hm : m = w.heap.size) (i : Nat) : (w.alloc (.cells C t)).cell? ⟨m, i, none⟩ = C[i]? := by
  subst hm
  simp

theorem pgot_made (w : World) (k : Nat) (h : k ≤ 1024) : Got (w.alloc (.cells (madeCells #[.int .i64 0] k) 3)) w.heap.size (.slice (some ⟨w.heap.size, 0, none⟩) 0 k) [] :=
  World.ownsRow_made w _ k (Nat.le_refl _) (by unfold maxLen; omega) (by rw [size_madeCells]; omega)

set_option maxHeartbeats 2000000 in
theorem ptakeFrom_any {b g n : Nat} {F : Nat → Bool} (a : Nat) (k : Int) (w : World) (h : PTab 176 w b g n F) (ha : a ≤ n) (hk : k ≤ 1024) :
    Calls Try.prog 113 #[.pointer (some ⟨b, 0, none⟩), .int .i64 a, .int .i64 k] w fun e w' => ∃ v, e = .returned v ∧ Got w' w.heap.size v ((freeU F a n).take k.toNat) ∧ PTab 176 w' b g n (dropF F ((freeU F a n).take k.toNat)) ∧ Mut [g] w w' := by
  by_cases h1 : k < 1
  · have e0 : k.toNat = 0 := by omega
    have HT : Hid (PTab 176 w b g n F) := h
    clear h
    go_enter Try.func113, Try.ntmps113
    go_wp2
    go_ret
    simp only [e0, List.take_zero, dropF_nil]
    exact ⟨_, rfl, Got.nil _ _, HT.out, Mut.refl _ _⟩
  · obtain ⟨kn, rfl⟩ : ∃ kn : Nat, k = kn := ⟨k.toNat, by omega⟩
    rw [Int.toNat_natCast]
    have hk' : kn ≤ 1024 := by omega
    have hmk := run_make_ints kn hk'
    have hn := h.few
    have HT : Hid (PTab 176 w b g n F) := h
    have GM : Hid _ := pgot_made w kn hk'
    have MM : Hid (Mut [g] w (w.alloc (.cells (madeCells #[.int .i64 0] kn) 3))) := (Mut.refl _ _).alloc _
    have PM : Hid (PTab 176 (w.alloc (.cells (madeCells #[.int .i64 0] kn) 3)) b g n F) := h.alloc _ _
    have hlb : Hid (b < w.heap.size ∧ g < w.heap.size) := ⟨h.ltb, h.ltg⟩
    clear h
    go_enter Try.func113, Try.ntmps113
    go_wp2
    clear hmk
    go_loopg [7, 8] (n + 1 - a) (fun m v i wr => ∃ j : Nat, i = .int .i64 j ∧ a ≤ j ∧ j ≤ n ∧ m = n + 1 - j ∧ (freeU F a j).length ≤ kn ∧ Hid (PTab 176 wr b g n (dropF F (freeU F a j)) ∧ Got wr w.heap.size v (freeU F a j) ∧ Mut [g] w wr))
    case atStart =>
      refine ⟨a, rfl, by omega, by omega, by omega, ?_, ?_⟩
      · rw [freeU_low F a a (Nat.le_refl _)]; simp
      · rw [freeU_low F a a (Nat.le_refl _), dropF_nil]
        exact ⟨PM.out, GM.out, MM.out⟩
    case round =>
      clear GM MM PM HT
      obtain ⟨j, rfl, haj, hj, hm, hl, hw⟩ := hrel
      have HM : Hid _ := hm
      clear hm
      obtain ⟨x, c, rfl⟩ := hw.out.2.1.form
      have c0 := hw.out.1.hd
      by_cases hend : j = n ∨ (freeU F a j).length = kn
      · have HE : Hid ((freeU F a n).take kn = freeU F a j) := freeU_take hj hl hend
        rcases hend with rfl | e
        · clear hl
          go_wp2
          go_ret
          rw [HE.out]
          exact ⟨_, rfl, hw.out.2.1, hw.out.1, hw.out.2.2⟩
        · by_cases hlt : j < n
          · have e2 : ¬ ((freeU F a j).length : Int) < kn := by omega
            clear e hl
            generalize hL : (freeU F a j).length = L at *
            have HL : Hid _ := hL
            clear hL
            go_wp2
            go_ret
            rw [HE.out]
            exact ⟨_, rfl, hw.out.2.1, hw.out.1, hw.out.2.2⟩
          · clear hl e
            go_wp2
            go_ret
            rw [HE.out]
            exact ⟨_, rfl, hw.out.2.1, hw.out.1, hw.out.2.2⟩
      · have hlt : j < n := by omega
        have hl2 : ((freeU F a j).length : Int) < kn := by omega
        have c1 := hw.out.1.at hlt
        rw [dropF_at] at c1
        cases hf : F j
        · rw [hf] at c1
          have HE : Hid (freeU F a (j + 1) = freeU F a j) := freeU_miss hf
          clear hf hend hl
          go_wp2
          go_roundg (gk - 1)
          all_goals (have := HM.out; try omega)
          refine ⟨j + 1, by go_num, by omega, by omega, by omega, ?_, ?_⟩
          · rw [HE.out]; omega
          · rw [HE.out]; exact hw
        · rw [hf] at c1
          have c2 := hw.out.1.row.frozen
          have HE : Hid (freeU F a (j + 1) = freeU F a j ++ [j] ∧ dropF F (freeU F a (j + 1)) = setB (dropF F (freeU F a j)) j false) := ⟨freeU_hit haj hf, dropF_step_hit haj hf⟩
          have HG : Hid _ := (hw.out.2.1.set (a := ⟨g, j, none⟩) hlb.out.2 (.bool false))
          have hsz := hw.out.2.2.size
          obtain ⟨i0, hi, hz0, hz1, hz2⟩ := info_parts info_int8
          clear hf hend hl
          go_wp2_with (at_builtin; refine wpList_append_own _ rfl _ _ 59 rfl w.heap.size 3 i0 (.int .i64 0) 1 8 Try.underlying59 hi hz0 hz1 hz2 rfl (by decide) _ _ _ rfl (HG.out.alloc _) ⟨wr.heap.size, 0, none⟩ 1 1 [.int .i64 j] rfl rfl ?c1 ?c2 ?c3 ?c4 ?c5 ?_)
          case c1 =>
            intro q u hq
            match q, hq with
            | 0, hq => simp at hq; subst hq; simp [Addr.add]; exact (pnew_cell (wr.setCell ⟨g, j, none⟩ (.bool false)) _ _ (by simp [World.setCell]) 0).trans rfl
          case c2 => intro u hu; simp at hu; subst hu; rfl
          case c3 => unfold maxLen; omega
          case c4 => omega
          case c5 => simp; omega
          intro v' w1 hown' hgrow _
          have HN : Hid (PTab 176 w1 b g n (dropF F (freeU F a (j + 1))) ∧ Got w1 w.heap.size v' (freeU F a (j + 1)) ∧ Mut [g] w w1) := by
            have hr : ∀ k, (Value.slice x (freeU F a j).length c).ownBlock = some k → w.heap.size ≤ k := fun k e => (World.ownsRow.lt hw.out.2.1 k e).1
            refine ⟨?_, ?_, ?_⟩
            · rw [HE.out.2]
              exact ((hw.out.1.set j false).alloc _ _).grown hgrow fun k e => by have := hr k e; have := hlb.out; omega
            · rw [HE.out.1]
              exact Got.push hown'
            · exact ((hw.out.2.2.setCell (p := ⟨g, j, none⟩) (by simp) _).alloc _).grown hgrow hr
          clear hown' hgrow HG hw
          go_wp2
          go_roundg (gk - 1)
          all_goals (have := HM.out; try omega)
          refine ⟨j + 1, by go_num, by omega, by omega, by omega, ?_, HN.out⟩
          rw [HE.out.1]; simp; omega
end Go.Proofs.Ytiigmmmhhpdmdaa

/-
  Contracts of package pool: Low, Take; the comparison of two lists; the laws' own 'first'.
-/
namespace Go.Proofs.Ytiigmmmhhpdmdaa
open Go.RowKit

theorem lowL_all {n : Nat} {F : Nat → Bool} {k : Int} (h : (cntB F n : Int) < k) : (freeU F 0 n).take ((cntB F n : Nat) : Int).toNat = lowL n F k := by
  have := lowL_min n F k
  rwa [Int.min_eq_right (by omega)] at this

set_option maxHeartbeats 1000000 in
theorem plow_any {b g n : Nat} {F : Nat → Bool} (k : Int) (w : World) (h : PTab 176 w b g n F) :
    Calls Try.prog 100 #[.pointer (some ⟨b, 0, none⟩), .int .i64 k] w fun e w' => ∃ v, e = .returned v ∧ Got w' w.heap.size v (lowL n F k) ∧ PTab 176 w' b g n (dropF F (lowL n F k)) ∧ Mut [g] w w' := by
  have H := pfree_any w h
  have hc := cntB_le F n
  have hn := h.few
  have HT : Hid (PTab 176 w b g n F) := h
  clear h
  by_cases hk : (cntB F n : Int) < k
  · have HE : Hid _ := lowL_all hk
    go_enter Try.func100, Try.ntmps100
    go_wp2_with fail
    refine H.mono ?_
    rintro e w' ⟨rfl, rfl⟩
    go_wp2_with fail
    refine (ptakeFrom_any 0 (cntB F n) _ HT.out (by omega) (by omega)).mono ?_
    rintro e w' ⟨v, rfl, hg, hp, hm⟩
    have HN : Hid (Got _ _ _ _ ∧ PTab _ _ _ _ _ _ ∧ Mut _ _ _) := ⟨hg, hp, hm⟩
    clear hg hp hm
    go_wp2
    go_ret
    rw [← HE.out]
    exact ⟨_, rfl, HN.out⟩
  · go_enter Try.func100, Try.ntmps100
    go_wp2_with fail
    refine H.mono ?_
    rintro e w' ⟨rfl, rfl⟩
    go_wp2_with fail
    refine (ptakeFrom_any 0 k _ HT.out (by omega) (by omega)).mono ?_
    rintro e w' ⟨v, rfl, hg, hp, hm⟩
    have HN : Hid (Got _ _ _ _ ∧ PTab _ _ _ _ _ _ ∧ Mut _ _ _) := ⟨hg, hp, hm⟩
    clear hg hp hm
    go_wp2
    go_ret
    exact ⟨_, rfl, HN.out⟩

theorem take_run {n a : Nat} {F : Nat → Bool} {k : Int} (ht : takeB n F k = true) (hr : runO n F k = some a) : (freeU F a n).take k.toNat = takeL n F k ∧ a ≤ n ∧ takeL n F k = List.range' a k.toNat := by
  have e : takeL n F k = List.range' a k.toNat := by rw [takeL, if_pos ht, hr]
  obtain ⟨m, rfl, h1, h2, h3, _⟩ := runO_inv hr
  have := freeU_range h3
  rw [e, Int.toNat_natCast]
  refine ⟨?_, by omega, rfl⟩
  rw [← this]
  exact freeU_take h2 (by rw [this]; simp) (.inr (by rw [this]; simp))
theorem take_low {n : Nat} {F : Nat → Bool} {k : Int} (ht : takeB n F k = true) (hr : runO n F k = none) : lowL n F k = takeL n F k := by
  rw [takeL, if_pos ht, hr]
theorem ptake_no {n : Nat} {F : Nat → Bool} {k : Int} (ht : takeB n F k = false) : takeL n F k = [] := by
  rw [takeL, if_neg (by simp [ht])]

set_option maxHeartbeats 1000000 in
theorem ptake_any {b g n : Nat} {F : Nat → Bool} (k : Int) (w : World) (h : PTab 176 w b g n F) :
    Calls Try.prog 97 #[.pointer (some ⟨b, 0, none⟩), .int .i64 k] w fun e w' => ∃ v, e = .returned (.tuple #[v, .bool (takeB n F k)]) ∧ Got w' w.heap.size v (takeL n F k) ∧ PTab 176 w' b g n (dropF F (takeL n F k)) ∧ Mut [g] w w' := by
  have H := pfree_any w h
  have hc := cntB_le F n
  have hn := h.few
  have HT : Hid (PTab 176 w b g n F) := h
  cases ht : takeB n F k
  · have HE : Hid _ := ptake_no ht
    have h2 : ¬ (1 ≤ k ∧ k ≤ cntB F n) := by simpa [takeB] using ht
    clear ht h
    by_cases hk : k < 1
    · clear h2 hc
      go_enter Try.func97, Try.ntmps97
      go_wp2
      go_ret2
      rw [HE.out, dropF_nil]
      exact ⟨_, rfl, Got.nil _ _, HT.out, Mut.refl _ _⟩
    · have h3 : (cntB F n : Int) < k := by omega
      clear h2 hc
      go_enter Try.func97, Try.ntmps97
      go_wp2_with fail
      refine H.mono ?_
      rintro e w' ⟨rfl, rfl⟩
      go_wp2
      go_ret2
      rw [HE.out, dropF_nil]
      exact ⟨_, rfl, Got.nil _ _, HT.out, Mut.refl _ _⟩
  · have h2 : 1 ≤ k ∧ k ≤ cntB F n := by simpa [takeB] using ht
    obtain ⟨h3, h4⟩ := h2
    have R := prun_any k w h
    cases hr : runO n F k with
    | none =>
      have HE : Hid _ := take_low ht hr
      rw [hr] at R
      clear ht hr h
      go_enter Try.func97, Try.ntmps97
      go_wp2_with fail
      refine H.mono ?_
      rintro e w' ⟨rfl, rfl⟩
      go_wp2_with fail
      refine R.mono ?_
      rintro e w' ⟨rfl, rfl⟩
      go_wp2_with fail
      refine (plow_any k _ HT.out).mono ?_
      rintro e w' ⟨v, rfl, hg, hp, hm⟩
      have HN : Hid (Got _ _ _ _ ∧ PTab _ _ _ _ _ _ ∧ Mut _ _ _) := ⟨hg, hp, hm⟩
      clear hg hp hm
      go_wp2
      go_ret2
      rw [← HE.out]
      exact ⟨_, rfl, HN.out⟩
    | some a =>
      have HE : Hid _ := take_run ht hr
      have ha := HE.out.2.1
      rw [hr] at R
      clear ht hr h
      go_enter Try.func97, Try.ntmps97
      go_wp2_with fail
      refine H.mono ?_
      rintro e w' ⟨rfl, rfl⟩
      go_wp2_with fail
      refine R.mono ?_
      rintro e w' ⟨rfl, rfl⟩
      go_wp2_with fail
      refine (ptakeFrom_any a k _ HT.out (by omega) (by omega)).mono ?_
      rintro e w' ⟨v, rfl, hg, hp, hm⟩
      have HN : Hid (Got _ _ _ _ ∧ PTab _ _ _ _ _ _ ∧ Mut _ _ _) := ⟨hg, hp, hm⟩
      clear hg hp hm
      go_wp2
      go_ret2
      rw [← HE.out.1]
      exact ⟨_, rfl, HN.out⟩

end Go.Proofs.Ytiigmmmhhpdmdaa

