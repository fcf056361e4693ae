/-
  Spines that a law lays: the plan, what memory holds while they are laid, which sentinels are black; the laws' own Ref, Whole, Int.
-/
import Derived.Test.YtgnikgkpbibmgaaHaM
namespace Go.Proofs.Ytgnikgkpbibmgaa
open Go.RowKit

def Aof (z : Nat → Nat) : Nat → Nat
  | 0 => 0
  | i + 1 => Aof z i + (z i + 2)
theorem A_of (L : Pl) : ∀ i, L.A i = Aof L.z i
  | 0 => rfl
  | i + 1 => by
    simp only [Pl.A, Aof]
    rw [A_of L i]
theorem Aof_mono (z : Nat → Nat) {i j : Nat} (h : i ≤ j) : Aof z i ≤ Aof z j := by
  induction j with
  | zero => obtain rfl : i = 0 := by omega
            exact Nat.le_refl _
  | succ j ih =>
    by_cases e : i = j + 1
    · rw [e]; exact Nat.le_refl _
    · have := ih (by omega)
      simp only [Aof]
      omega
theorem Aof_step (z : Nat → Nat) {i N : Nat} (h : i < N) : Aof z i + (z i + 2) ≤ Aof z N := Aof_mono z (show i + 1 ≤ N from h)
theorem Aof_two (z : Nat → Nat) : ∀ i, 2 * i ≤ Aof z i
  | 0 => Nat.le_refl _
  | i + 1 => by
    have := Aof_two z i
    simp only [Aof]
    omega
theorem Aof_congr {z y : Nat → Nat} : ∀ {i : Nat}, (∀ j, j < i → z j = y j) → Aof z i = Aof y i
  | 0, _ => rfl
  | i + 1, h => by
    simp only [Aof]
    rw [Aof_congr fun j hj => h j (by omega), h i (by omega)]
/-- The words of the first spines; those of the slots by sl. -/
def Gw (z : Nat → Nat) (sl : Nat → Nat → Cx) : Nat → Nat → Cx
  | 0, _ => cz
  | i + 1, x => if Aof z i ≤ x then (if x = Aof z i then cr i else if x = Aof z i + 1 then cw (z i) else sl i (x - (Aof z i + 2))) else Gw z sl i x
def wordAt (z : Nat → Nat) (sl : Nat → Nat → Cx) (i c : Nat) : Cx := if c = 0 then cr i else if c = 1 then cw (z i) else sl i (c - 2)
theorem Gw_at {z : Nat → Nat} {sl : Nat → Nat → Cx} {i c : Nat} (hc : c < z i + 2) : ∀ {k : Nat}, i < k → Gw z sl k (Aof z i + c) = wordAt z sl i c
  | 0, h => absurd h (Nat.not_lt_zero _)
  | k + 1, h => by
    by_cases e : i = k
    · subst e
      rw [Gw, if_pos (by omega)]
      unfold wordAt
      by_cases h0 : c = 0
      · rw [if_pos (by omega), if_pos h0]
      · rw [if_neg (by omega), if_neg h0]
        by_cases h1 : c = 1
        · rw [if_pos (by omega), if_pos h1]
        · rw [if_neg (by omega), if_neg h1]
          congr 1
          omega
    · have := Aof_step z (show i < k by omega)
      rw [Gw, if_neg (by omega)]
      exact Gw_at hc (by omega)
def Lp (N : Nat) (z : Nat → Nat) (bl : Nat → Bool) (W : Nat → Int) (sl : Nat → Nat → Cx) (n0 : Nat) : Pl := ⟨N, z, bl, W, Gw z sl N, fun _ => cz, 0, Aof z N, n0⟩

section
variable {N : Nat} {z : Nat → Nat} {bl : Nat → Bool} {W : Nat → Int} {sl : Nat → Nat → Cx} {n0 : Nat}
theorem Lp_A (i : Nat) : (Lp N z bl W sl n0).A i = Aof z i := A_of _ i
theorem Lp_G {i c : Nat} (hi : i < N) (hc : c < z i + 2) : (Lp N z bl W sl n0).G (Aof z i + c) = wordAt z sl i c := Gw_at hc hi
theorem Lp_ok (h0 : 4 ≤ n0 ∧ n0 ≤ 1024) (hN : N ≤ n0) (hn : Aof z N ≤ 2000) (hW : ∀ i, i < N → (W i).natAbs < 100000) : (Lp N z bl W sl n0).Ok :=
  ⟨.inl rfl, h0, hN, hn, Lp_A N, hW, fun i hi => by
    rw [Lp_A]
    exact (Lp_G (c := 0) hi (by omega)).trans rfl, fun i hi => by
    rw [Lp_A]
    exact (Lp_G (c := 1) hi (by omega)).trans rfl⟩
end

/-- Memory, when the first i sentinels and Y words of the space are laid. -/
def su (L : Pl) (i Y a : Nat) : Cx := if a < 8 * L.n0 then (if a % 8 = 4 ∧ a / 8 < i then cw (L.W (a / 8)) else cz) else if a < 8 * L.n0 + Y then L.G (a - 8 * L.n0) else cz
section
variable {L : Pl}
theorem su_zero : (fun _ => cz) = su L 0 0 := by
  funext a
  unfold su
  split
  · rw [if_neg (by omega)]
  · rw [if_neg (by omega)]
theorem su_word (i Y : Nat) {a : Nat} (ha : 8 * L.n0 + Y = a) (j : Nat) : (if j = a then L.G Y else su L i Y j) = su L i (Y + 1) j := by
  by_cases e : j = a
  · rw [if_pos e]
    unfold su
    rw [if_neg (by omega), if_pos (by omega)]
    congr 1
    omega
  · rw [if_neg e]
    unfold su
    split
    · rfl
    · by_cases q : j < 8 * L.n0 + Y
      · rw [if_pos q, if_pos (by omega)]
      · rw [if_neg q, if_neg (by omega)]
theorem su_sent (i Y : Nat) {a : Nat} (hi : i < L.n0) (ha : 8 * i + 4 = a) (j : Nat) : (if j = a then cw (L.W i) else su L i Y j) = su L (i + 1) Y j := by
  by_cases e : j = a
  · rw [if_pos e]
    unfold su
    have : j / 8 = i := by omega
    rw [if_pos (by omega), if_pos (by omega), this]
  · rw [if_neg e]
    unfold su
    split
    · by_cases q : j % 8 = 4 ∧ j / 8 < i
      · rw [if_pos q, if_pos (by omega)]
      · rw [if_neg q, if_neg (by omega)]
    · rfl
theorem su_twice (i Y : Nat) (x : Cx) {a : Nat} (hi : i < L.n0) (ha : 8 * i + 4 = a) (j : Nat) : (if j = a then cw (L.W i) else (fun j => if j = a then x else su L i Y j) j) = su L (i + 1) Y j := by
  rw [← su_sent i Y hi ha j]
  by_cases e : j = a
  · rw [if_pos e, if_pos e]
  · rw [if_neg e, if_neg e]
    exact if_neg e
theorem su_none (i Y : Nat) (h : cw (L.W i) = cz) : su L i Y = su L (i + 1) Y := by
  funext j
  unfold su
  split
  · by_cases q : j % 8 = 4 ∧ j / 8 < i
    · rw [if_pos q, if_pos (by omega)]
    · rw [if_neg q]
      by_cases e : j % 8 = 4 ∧ j / 8 < i + 1
      · have : j / 8 = i := by omega
        rw [if_pos e, this, h]
      · rw [if_neg e]
  · rfl
theorem su_blank (i Y k : Nat) (h : ∀ c, c < k → L.G (Y + c) = cz) : su L i Y = su L i (Y + k) := by
  funext j
  unfold su
  split
  · rfl
  · by_cases q : j < 8 * L.n0 + Y
    · rw [if_pos q, if_pos (by omega)]
    · rw [if_neg q]
      by_cases e : j < 8 * L.n0 + (Y + k)
      · rw [if_pos e]
        have := h (j - 8 * L.n0 - Y) (by omega)
        rw [← this]
        congr 1
        omega
      · rw [if_neg e]
theorem su_end (hf : L.fr = 0) (hO : ∀ x, L.O x = cz) : su L L.N L.n = L.mem 0 0 := by
  funext j
  unfold su Pl.mem
  have hs : L.src = 8 * L.n0 := by simp [Pl.src, hf]
  rw [hs]
  split
  · split
    · rw [if_neg (by omega)]
    · rfl
  · by_cases q : j < 8 * L.n0 + L.n
    · rw [if_pos q, if_pos (by omega)]
    · rw [if_neg q, if_neg (by omega)]
      split
      · rw [if_neg (by omega), hO]
      · rfl
end
theorem cw_zero : cw 0 = cz := by
  unfold cw cz
  rw [fi_zero]

/-- The first i are heads, used, black or not. -/
structure Bk (S : ShS) (n0 i : Nat) (bl : Nat → Bool) : Prop where
  n : S.n = n0
  c : S.c = 0
  bk : ∀ j : Nat, j < i → blackB S (j : Int) true = bl j
theorem Bk.new (n0 : Nat) (bl : Nat → Bool) : Bk (ShS.new n0 1) n0 0 bl := ⟨rfl, rfl, fun _ hj => absurd hj (Nat.not_lt_zero _)⟩
theorem Bk.set {S : ShS} {n0 i : Nat} {bl : Nat → Bool} (h : Bk S n0 i bl) (hi : i < n0) : Bk (S.set (i : Int) 2 true (bl i)) n0 (i + 1) bl := by
  refine ⟨h.n, h.c, fun j hj => ?_⟩
  have h1 : inn S.n (i : Int) = true := by rw [h.n]; exact inn_of hi
  have h2 : inn S.n (j : Int) = true := by rw [h.n]; exact inn_of (by omega)
  by_cases e : j = i
  · subst e
    simp [blackB, ShS.set, setT, hdd, blk, usd, h1, isSt]
  · have h3 := h.bk j (by omega)
    simp only [blackB, hdd, blk, usd, h2, Bool.true_and] at h3
    simp [blackB, ShS.set, setT, hdd, blk, usd, h1, h2, isSt, e]
    simpa using h3

theorem rref_in (i : Int) (w : World) (h1 : 0 ≤ i) (h2 : i ≤ 1000000) : Calls Try.prog 13 #[.int .i64 i] w fun e w' => e = .returned (.complex .f64 (cr i).re (cr i).im) ∧ w' = w := by
  go_enter Try.func13, Try.ntmps13
  go_wp2
  go_ret
  exact ⟨rfl, rfl⟩
theorem rwhole_in (n : Int) (w : World) (h1 : -1000000 ≤ n) (h2 : n ≤ 1000000) : Calls Try.prog 14 #[.int .i64 n] w fun e w' => e = .returned (.complex .f64 (cw n).re (cw n).im) ∧ w' = w := by
  go_enter Try.func14, Try.ntmps14
  go_wp2
  go_ret
  exact ⟨rfl, rfl⟩
set_option maxHeartbeats 400000 in
theorem rint_in (n : Int) (w : World) (h1 : -1000000 ≤ n) (h2 : n ≤ 1000000) : Calls Try.prog 21 #[.complex .f64 (cw n).re (cw n).im] w fun e w' => e = .returned (.tuple #[.int .i64 n, .bool true]) ∧ w' = w := by
  have hlo := Flo.order_lo (Flo.repH_fi n (by omega)) (by omega)
  have hhi := Flo.order_hi (Flo.repH_fi n (by omega)) (by omega)
  have h3 := fun w => run_convert_float_int (P := Try.prog) w 83 3 .f64 .i64 _ n (by kernel_rfl) Try.underlying3 (Flo.isI_toInt (Flo.isI_fi n (by omega)))
  have CW : Hid (∀ w, Calls Try.prog 14 #[.int .i64 n] w _) := fun w => rwhole_in n w h1 h2
  have CS : Hid (∀ w, Calls Try.prog 29 #[.complex .f64 (floatOfInt .f64 n) 0, .complex .f64 (floatOfInt .f64 n) 0] w _) := fun w => word_is (floatOfInt .f64 n) 0 (floatOfInt .f64 n) 0 true (nn_fi n) nn_zero (nn_fi n) nn_zero (by simp) w
  unfold cw at *
  simp only [] at *
  go_enter Try.func21, Try.ntmps21
  go_wp2_with fail
  refine (CW.out _).mono ?_
  rintro e w' ⟨rfl, rfl⟩
  go_wp2_with fail
  refine (CS.out _).mono ?_
  rintro e w' ⟨rfl, rfl⟩
  go_wp2
  go_ret2
  exact ⟨rfl, rfl⟩
theorem rword_cr (i : Int) (w : World) : Calls Try.prog 29 #[.complex .f64 (cr i).re (cr i).im, .complex .f64 (cr i).re (cr i).im] w fun e w' => e = .returned (.bool true) ∧ w' = w := word_is _ _ _ _ true (nn_fi _) nn_one (nn_fi _) nn_one (by simp) w
theorem rword_cw (i : Int) (w : World) : Calls Try.prog 29 #[.complex .f64 (cw i).re (cw i).im, .complex .f64 (cw i).re (cw i).im] w fun e w' => e = .returned (.bool true) ∧ w' = w := word_is _ _ _ _ true (nn_fi _) nn_zero (nn_fi _) nn_zero (by simp) w
end Go.Proofs.Ytgnikgkpbibmgaa
