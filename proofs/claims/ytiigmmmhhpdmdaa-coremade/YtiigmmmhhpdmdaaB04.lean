/-
  The modules Conf12, Copy20, one behind another.
-/
import Derived.Outline
import Derived.Laws.CopyOwn
import Derived.Deep.OwnRows
import Derived.Laws.Rows
import Derived.Laws.ResultCell
import Derived.Test.YtiigmmmhhpdmdaaB01
/-
  Contracts of package conf's Check and of what it calls: each answers as a plain function of the numbers and of the shapes that lie in memory; what was there is kept.
-/
namespace Go.Proofs.Ytiigmmmhhpdmdaa
open Go.RowKit

/-- A configuration's cells. -/
def cl (n0 n1 n2 n3 n4 n5 n6 n7 : Int) (v : Value) : List Value := [.int .i64 n0, .int .i64 n1, .int .i64 n2, .int .i64 n3, .int .i64 n4, .int .i64 n5, .int .i64 n6, .int .i64 n7, v]

/-- A shape as it lies in memory: its kind, and its fields' slice. -/
structure Sh where
  arr : Bool
  x : Option Addr
  l : Nat
  c : Nat

/-- May it be? -/
def Sh.may (s : Sh) : Bool := if s.arr then (s.l : Int) == 1 else decide ((s.l : Int) ≤ 40)

/-- A slice of shapes that lies in memory. -/
def Shps (w : World) (x : Option Addr) (l : Nat) (S : Nat → Sh) : Prop :=
  0 < l → ∃ b o, x = some ⟨b, o, none⟩ ∧ b < w.heap.size ∧ ∀ i, i < l → w.cell? ⟨b, o + i * 2, none⟩ = some (.bool (S i).arr) ∧ w.cell? ⟨b, o + i * 2 + 1, none⟩ = some (.slice (S i).x (S i).l (S i).c)

theorem Shps.kept {w w' : World} {x : Option Addr} {l : Nat} {S : Nat → Sh} (h : Shps w x l S) (k : Kept w w') : Shps w' x l S := fun h0 => by
  obtain ⟨b, o, e, hb, hc⟩ := h h0
  exact ⟨b, o, e, Nat.lt_of_lt_of_le hb k.size, fun i hi => ⟨(k.cell hb).trans (hc i hi).1, (k.cell hb).trans (hc i hi).2⟩⟩

/-- A slice of bools that lies in memory. -/
def Refs (w : World) (x : Option Addr) (l : Nat) (R : Nat → Bool) : Prop :=
  0 < l → ∃ b o, x = some ⟨b, o, none⟩ ∧ b < w.heap.size ∧ ∀ k, k < l → w.cell? ⟨b, o + k, none⟩ = some (.bool (R k))

theorem Refs.kept {w w' : World} {x : Option Addr} {l : Nat} {R : Nat → Bool} (h : Refs w x l R) (k : Kept w w') : Refs w' x l R := fun h0 => by
  obtain ⟨b, o, e, hb, hc⟩ := h h0
  exact ⟨b, o, e, Nat.lt_of_lt_of_le hb k.size, fun i hi => (k.cell hb).trans (hc i hi)⟩

def Mays (l : Nat) (S : Nat → Sh) : Prop := 1 ≤ l ∧ l ≤ 8 ∧ ∀ i, i < l → (S i).may = true

def Fits (n0 n1 n2 n3 n4 n5 n6 n7 : Int) : Prop :=
  (4 ≤ n0 ∧ n0 ≤ 1024) ∧ (0 ≤ n1 ∧ n1 ≤ 2048) ∧ (0 ≤ n2 ∧ n2 ≤ 8) ∧ (1 ≤ n6 ∧ n6 ≤ 256) ∧ (0 ≤ n7 ∧ n7 ≤ n0) ∧ (1 ≤ n3 ∧ n3 ≤ 16) ∧ (1 ≤ n4 ∧ n4 ≤ 8) ∧ (0 ≤ n5 ∧ n5 ≤ 8) ∧ n3 * n5 ≤ n0

/-- Check's answer: 0, 1 (a number is out of its bounds), 4 (the shapes). -/
structure Checks (n0 n1 n2 n3 n4 n5 n6 n7 : Int) (l : Nat) (S : Nat → Sh) (r : Int) : Prop where
  out : ¬ Fits n0 n1 n2 n3 n4 n5 n6 n7 → r = 1
  kind : Fits n0 n1 n2 n3 n4 n5 n6 n7 → ¬ Mays l S → r = 4
  ok : Fits n0 n1 n2 n3 n4 n5 n6 n7 → Mays l S → r = 0

theorem Checks.some (n0 n1 n2 n3 n4 n5 n6 n7 : Int) (l : Nat) (S : Nat → Sh) : ∃ r, Checks n0 n1 n2 n3 n4 n5 n6 n7 l S r ∧ (r = 0 ∨ r = 1 ∨ r = 4) := by
  by_cases h : Fits n0 n1 n2 n3 n4 n5 n6 n7
  · by_cases m : Mays l S
    · exact ⟨0, ⟨fun n => absurd h n, fun _ n => absurd m n, fun _ _ => rfl⟩, by simp⟩
    · exact ⟨4, ⟨fun n => absurd h n, fun _ _ => rfl, fun _ n => absurd n m⟩, by simp⟩
  · exact ⟨1, ⟨fun _ => rfl, fun n => absurd n h, fun n => absurd n h⟩, by simp⟩

theorem Checks.zero {n0 n1 n2 n3 n4 n5 n6 n7 : Int} {l : Nat} {S : Nat → Sh} (h : Checks n0 n1 n2 n3 n4 n5 n6 n7 l S 0) : Fits n0 n1 n2 n3 n4 n5 n6 n7 ∧ Mays l S := by
  by_cases f : Fits n0 n1 n2 n3 n4 n5 n6 n7
  · by_cases m : Mays l S
    · exact ⟨f, m⟩
    · exact absurd (h.kind f m) (by omega)
  · exact absurd (h.out f) (by omega)
theorem Checks.of_ok {n0 n1 n2 n3 n4 n5 n6 n7 : Int} {l : Nat} {S : Nat → Sh} (f : Fits n0 n1 n2 n3 n4 n5 n6 n7) (m : Mays l S) : Checks n0 n1 n2 n3 n4 n5 n6 n7 l S 0 := ⟨fun n => absurd f n, fun _ n => absurd m n, fun _ _ => rfl⟩
theorem Checks.of_out {n0 n1 n2 n3 n4 n5 n6 n7 : Int} {l : Nat} {S : Nat → Sh} (f : ¬ Fits n0 n1 n2 n3 n4 n5 n6 n7) : Checks n0 n1 n2 n3 n4 n5 n6 n7 l S 1 := ⟨fun _ => rfl, fun n => absurd n f, fun n => absurd n f⟩
theorem Checks.of_kind {n0 n1 n2 n3 n4 n5 n6 n7 : Int} {l : Nat} {S : Nat → Sh} (f : Fits n0 n1 n2 n3 n4 n5 n6 n7) (m : ¬ Mays l S) : Checks n0 n1 n2 n3 n4 n5 n6 n7 l S 4 := ⟨fun n => absurd f n, fun _ _ => rfl, fun _ n => absurd n m⟩

set_option maxHeartbeats 400000 in
theorem may_any (s : Sh) (w : World) :
    Calls Try.prog 105 #[.agg #[.bool s.arr, .slice s.x s.l s.c]] w fun e w' => e = .returned (.bool s.may) ∧ Kept w w' := by
  obtain ⟨b, x, l, c⟩ := s
  cases b
  · simp only [Sh.may]
    go_enter Try.func105, Try.ntmps105
    go_wp2
    go_ret
    exact ⟨rfl, (Kept.refl _).alloc _ _⟩
  · simp only [Sh.may]
    go_enter Try.func105, Try.ntmps105
    go_wp2
    go_ret
    exact ⟨rfl, (Kept.refl _).alloc _ _⟩

set_option maxHeartbeats 400000 in
theorem within_any (n lo hi : Int) (p : Bool) (w : World) (hp : p = true ↔ lo ≤ n ∧ n ≤ hi) :
    Calls Try.prog 104 #[.int .i64 n, .int .i64 lo, .int .i64 hi] w fun e w' => e = .returned (.bool p) ∧ w' = w := by
  by_cases h1 : lo ≤ n
  · by_cases h2 : n ≤ hi
    · obtain rfl : p = true := hp.2 ⟨h1, h2⟩
      clear hp
      go_enter Try.func104, Try.ntmps104
      go_wp2
      go_ret
      exact ⟨rfl, rfl⟩
    · obtain rfl : p = false := by
        cases p
        · rfl
        · have := hp.1 rfl
          omega
      clear hp
      go_enter Try.func104, Try.ntmps104
      go_wp2
      go_ret
      exact ⟨rfl, rfl⟩
  · obtain rfl : p = false := by
      cases p
      · rfl
      · have := hp.1 rfl
        omega
    clear hp
    go_enter Try.func104, Try.ntmps104
    go_wp2
    go_ret
    exact ⟨rfl, rfl⟩

theorem bool_iff (q : Prop) : ∃ p : Bool, p = true ↔ q := by
  by_cases h : q
  · exact ⟨true, by simp [h]⟩
  · exact ⟨false, by simp [h]⟩

set_option maxHeartbeats 1000000 in
theorem heap_fits (n0 n1 n2 n3 n4 n5 n6 n7 : Int) (x : Option Addr) (l c : Nat) (p : Bool) (w : World)
    (hp : p = true ↔ (4 ≤ n0 ∧ n0 ≤ 1024) ∧ (0 ≤ n1 ∧ n1 ≤ 2048) ∧ (0 ≤ n2 ∧ n2 ≤ 8) ∧ (1 ≤ n6 ∧ n6 ≤ 256) ∧ (0 ≤ n7 ∧ n7 ≤ n0)) :
    Calls Try.prog 62 #[.agg #[.int .i64 n0, .int .i64 n1, .int .i64 n2, .int .i64 n3, .int .i64 n4, .int .i64 n5, .int .i64 n6, .int .i64 n7, .slice x l c]] w fun e w' => e = .returned (.bool p) ∧ Kept w w' := by
  obtain ⟨q0, h0⟩ := bool_iff (4 ≤ n0 ∧ n0 ≤ 1024)
  obtain ⟨q1, h1⟩ := bool_iff (0 ≤ n1 ∧ n1 ≤ 2048)
  obtain ⟨q2, h2⟩ := bool_iff (0 ≤ n2 ∧ n2 ≤ 8)
  obtain ⟨q3, h3⟩ := bool_iff (1 ≤ n6 ∧ n6 ≤ 256)
  obtain ⟨q4, h4⟩ := bool_iff (0 ≤ n7 ∧ n7 ≤ n0)
  have C0 : Hid (∀ w, Calls Try.prog 104 #[.int .i64 n0, .int .i64 4, .int .i64 1024] w _) := fun w => within_any n0 4 1024 q0 w h0
  have C1 : Hid (∀ w, Calls Try.prog 104 #[.int .i64 n1, .int .i64 0, .int .i64 2048] w _) := fun w => within_any n1 0 2048 q1 w h1
  have C2 : Hid (∀ w, Calls Try.prog 104 #[.int .i64 n2, .int .i64 0, .int .i64 8] w _) := fun w => within_any n2 0 8 q2 w h2
  have C3 : Hid (∀ w, Calls Try.prog 104 #[.int .i64 n6, .int .i64 1, .int .i64 256] w _) := fun w => within_any n6 1 256 q3 w h3
  have C4 : Hid (∀ w, Calls Try.prog 104 #[.int .i64 n7, .int .i64 0, .int .i64 n0] w _) := fun w => within_any n7 0 n0 q4 w h4
  rw [← h0, ← h1, ← h2, ← h3, ← h4] at hp
  clear h0 h1 h2 h3 h4
  obtain rfl : p = (q0 && (q1 && (q2 && (q3 && q4)))) := by rw [Bool.eq_iff_iff, hp]; simp only [Bool.and_eq_true]
  clear hp
  go_enter Try.func62, Try.ntmps62
  go_wp2_with fail
  refine (C0.out _).mono ?_
  rintro e w' ⟨rfl, rfl⟩
  cases q0
  · go_wp2
    go_ret
    exact ⟨rfl, (Kept.refl _).alloc _ _⟩
  go_wp2_with fail
  refine (C1.out _).mono ?_
  rintro e w' ⟨rfl, rfl⟩
  cases q1
  · go_wp2
    go_ret
    exact ⟨rfl, (Kept.refl _).alloc _ _⟩
  go_wp2_with fail
  refine (C2.out _).mono ?_
  rintro e w' ⟨rfl, rfl⟩
  cases q2
  · go_wp2
    go_ret
    exact ⟨rfl, (Kept.refl _).alloc _ _⟩
  go_wp2_with fail
  refine (C3.out _).mono ?_
  rintro e w' ⟨rfl, rfl⟩
  cases q3
  · go_wp2
    go_ret
    exact ⟨rfl, (Kept.refl _).alloc _ _⟩
  go_wp2_with fail
  refine (C4.out _).mono ?_
  rintro e w' ⟨rfl, rfl⟩
  go_wp2
  go_ret
  exact ⟨by simp, (Kept.refl _).alloc _ _⟩

theorem mul_bounds {a b : Int} (ha : 1 ≤ a ∧ a ≤ 16) (hb : 0 ≤ b ∧ b ≤ 8) : 0 ≤ a * b ∧ a * b ≤ 128 :=
  ⟨Int.mul_nonneg (by omega) hb.1, Int.le_trans (Int.mul_le_mul ha.2 hb.2 hb.1 (by omega)) (by omega)⟩

set_option maxHeartbeats 1000000 in
theorem threads_fit (n0 n1 n2 n3 n4 n5 n6 n7 : Int) (x : Option Addr) (l c : Nat) (p : Bool) (w : World)
    (hp : p = true ↔ (1 ≤ n3 ∧ n3 ≤ 16) ∧ (1 ≤ n4 ∧ n4 ≤ 8) ∧ (0 ≤ n5 ∧ n5 ≤ 8) ∧ n3 * n5 ≤ n0) :
    Calls Try.prog 63 #[.agg #[.int .i64 n0, .int .i64 n1, .int .i64 n2, .int .i64 n3, .int .i64 n4, .int .i64 n5, .int .i64 n6, .int .i64 n7, .slice x l c]] w fun e w' => e = .returned (.bool p) ∧ Kept w w' := by
  obtain ⟨q0, h0⟩ := bool_iff (1 ≤ n3 ∧ n3 ≤ 16)
  obtain ⟨q1, h1⟩ := bool_iff (1 ≤ n4 ∧ n4 ≤ 8)
  obtain ⟨q2, h2⟩ := bool_iff (0 ≤ n5 ∧ n5 ≤ 8)
  obtain ⟨q3, h3⟩ := bool_iff (n3 * n5 ≤ n0)
  have C0 : Hid (∀ w, Calls Try.prog 104 #[.int .i64 n3, .int .i64 1, .int .i64 16] w _) := fun w => within_any n3 1 16 q0 w h0
  have C1 : Hid (∀ w, Calls Try.prog 104 #[.int .i64 n4, .int .i64 1, .int .i64 8] w _) := fun w => within_any n4 1 8 q1 w h1
  have C2 : Hid (∀ w, Calls Try.prog 104 #[.int .i64 n5, .int .i64 0, .int .i64 8] w _) := fun w => within_any n5 0 8 q2 w h2
  have H0 : Hid _ := h0
  have H2 : Hid _ := h2
  have H3 : Hid _ := h3
  rw [← h0, ← h1, ← h2, ← h3] at hp
  clear h0 h1 h2 h3
  obtain rfl : p = (q0 && (q1 && (q2 && q3))) := by rw [Bool.eq_iff_iff, hp]; simp only [Bool.and_eq_true]
  clear hp
  go_enter Try.func63, Try.ntmps63
  go_wp2_with fail
  refine (C0.out _).mono ?_
  rintro e w' ⟨rfl, rfl⟩
  cases q0
  · go_wp2
    go_ret
    exact ⟨rfl, (Kept.refl _).alloc _ _⟩
  go_wp2_with fail
  refine (C1.out _).mono ?_
  rintro e w' ⟨rfl, rfl⟩
  cases q1
  · go_wp2
    go_ret
    exact ⟨rfl, (Kept.refl _).alloc _ _⟩
  go_wp2_with fail
  refine (C2.out _).mono ?_
  rintro e w' ⟨rfl, rfl⟩
  cases q2
  · go_wp2
    go_ret
    exact ⟨rfl, (Kept.refl _).alloc _ _⟩
  have b0 : 1 ≤ n3 ∧ n3 ≤ 16 := by have := H0.out; simpa using this
  have b2 : 0 ≤ n5 ∧ n5 ≤ 8 := by have := H2.out; simpa using this
  obtain ⟨m0, m1⟩ := mul_bounds b0 b2
  clear b0 b2
  have h3 := H3.out
  by_cases hm : n3 * n5 ≤ n0
  · obtain rfl : q3 = true := h3.2 hm
    clear h3
    go_wp2
    go_ret
    exact ⟨rfl, (Kept.refl _).alloc _ _⟩
  · obtain rfl : q3 = false := by
      cases q3
      · rfl
      · exact absurd (by simpa using h3) hm
    clear h3
    go_wp2
    go_ret
    exact ⟨by simp [hm], (Kept.refl _).alloc _ _⟩

set_option maxHeartbeats 1000000 in
theorem shapes_may (x : Option Addr) (l c : Nat) (S : Nat → Sh) (p : Bool) (w : World) (hS : l ≤ 8 → Shps w x l S) (hp : p = true ↔ Mays l S) :
    Calls Try.prog 64 #[.slice x l c] w fun e w' => e = .returned (.bool p) ∧ Kept w w' := by
  obtain ⟨q0, h0⟩ := bool_iff (1 ≤ (l : Int) ∧ (l : Int) ≤ 8)
  have C0 : Hid (∀ w, Calls Try.prog 104 #[.int .i64 l, .int .i64 1, .int .i64 8] w _) := fun w => within_any l 1 8 q0 w h0
  have HP : Hid _ := hp
  have HS : Hid (l ≤ 8 → Shps w x l S) := hS
  have H0 : Hid _ := h0
  clear hp hS h0
  go_enter Try.func64, Try.ntmps64
  go_wp2_with fail
  refine (C0.out _).mono ?_
  rintro e w' ⟨rfl, rfl⟩
  cases q0
  · have hp := HP.out
    obtain rfl : p = false := by
      cases p
      · rfl
      · have m : Mays l S := by simpa using hp
        have z := H0.out
        have := m.1
        have := m.2.1
        simp at z
        omega
    clear hp
    go_wp2
    go_ret
    exact ⟨rfl, Kept.refl _⟩
  have hl : 1 ≤ (l : Int) ∧ (l : Int) ≤ 8 := by have := H0.out; simpa using this
  go_wp2_with fail
  go_loopg [11] l (fun m i wr => ∃ k : Nat, i = .int .i64 k ∧ k ≤ l ∧ m = l - k ∧ Hid (Kept w' wr) ∧ Hid (∀ i, i < k → (S i).may = true))
  case atStart => exact ⟨0, rfl, by omega, by omega, Kept.refl _, fun _ h => absurd h (Nat.not_lt_zero _)⟩
  case round =>
    obtain ⟨k, rfl, hk0, hm, KK, hall⟩ := hrel
    have HM : Hid _ := hm
    clear hm
    by_cases hlt : k < l
    · obtain ⟨b, o, rfl, hb, hc⟩ := HS.out (by omega) (by omega)
      have a0 : wr.cell? ⟨b, o + k * 2, none⟩ = _ := (KK.out.cell hb).trans (hc k hlt).1
      have a1 : wr.cell? ⟨b, o + k * 2 + 1, none⟩ = _ := (KK.out.cell hb).trans (hc k hlt).2
      have M : Hid (∀ w, _) := fun w => may_any (S k) w
      clear hc
      go_wp2_with fail
      refine (M.out _).mono ?_
      rintro e w2 ⟨rfl, K2⟩
      have K3 : Hid (Kept w' w2) := (KK.out.alloc _ _).trans K2
      clear K2 a0 a1 M
      cases hmay : (S k).may
      · obtain rfl : p = false := by
          cases p
          · rfl
          · have m : Mays l S := by have := HP.out; simpa using this
            rw [m.2.2 k hlt] at hmay
            cases hmay
        clear hmay
        go_wp2
        go_ret
        exact ⟨rfl, K3.out⟩
      · have hall2 : Hid (∀ i, i < k + 1 → (S i).may = true) := fun i hi => by
          rcases Nat.lt_succ_iff_lt_or_eq.1 hi with h | rfl
          · exact hall.out i h
          · exact hmay
        clear hmay
        go_wp2
        go_roundg (gk - 1)
        case measure => have := HM.out; omega
        case rel => have := HM.out; exact ⟨k + 1, by go_num, by omega, by omega, K3, hall2⟩
    · obtain rfl : k = l := by omega
      obtain rfl : p = true := by
        cases p
        · have m := HP.out
          simp at m
          exact absurd ⟨by omega, by omega, hall.out⟩ m
        · rfl
      go_wp2
      go_ret
      exact ⟨rfl, KK.out⟩

set_option maxHeartbeats 1000000 in
theorem check_gen (n0 n1 n2 n3 n4 n5 n6 n7 : Int) (x : Option Addr) (l c : Nat) (S : Nat → Sh) (r : Int) (w : World) (hS : l ≤ 8 → Shps w x l S) (hr : Checks n0 n1 n2 n3 n4 n5 n6 n7 l S r) :
    Calls Try.prog 24 #[.agg #[.int .i64 n0, .int .i64 n1, .int .i64 n2, .int .i64 n3, .int .i64 n4, .int .i64 n5, .int .i64 n6, .int .i64 n7, .slice x l c]] w fun e w' => e = .returned (.int .i64 r) ∧ Kept w w' := by
  obtain ⟨q0, h0⟩ := bool_iff ((4 ≤ n0 ∧ n0 ≤ 1024) ∧ (0 ≤ n1 ∧ n1 ≤ 2048) ∧ (0 ≤ n2 ∧ n2 ≤ 8) ∧ (1 ≤ n6 ∧ n6 ≤ 256) ∧ (0 ≤ n7 ∧ n7 ≤ n0))
  obtain ⟨q1, h1⟩ := bool_iff ((1 ≤ n3 ∧ n3 ≤ 16) ∧ (1 ≤ n4 ∧ n4 ≤ 8) ∧ (0 ≤ n5 ∧ n5 ≤ 8) ∧ n3 * n5 ≤ n0)
  obtain ⟨q2, h2⟩ := bool_iff (Mays l S)
  have C0 : Hid (∀ w, _) := fun w => heap_fits n0 n1 n2 n3 n4 n5 n6 n7 x l c q0 w h0
  have C1 : Hid (∀ w, _) := fun w => threads_fit n0 n1 n2 n3 n4 n5 n6 n7 x l c q1 w h1
  have C2 : Hid (∀ w', Kept w w' → _) := fun w' k => shapes_may x l c S q2 w' (fun h => (hS h).kept k) h2
  have hr : r = if q0 && q1 then (if q2 then 0 else 4) else 1 := by
    by_cases hf : Fits n0 n1 n2 n3 n4 n5 n6 n7
    · obtain ⟨f0, f1, f2, f3, f4, f5, f6, f7, f8⟩ := id hf
      obtain rfl : q0 = true := h0.2 ⟨f0, f1, f2, f3, f4⟩
      obtain rfl : q1 = true := h1.2 ⟨f5, f6, f7, f8⟩
      by_cases m : Mays l S
      · obtain rfl : q2 = true := h2.2 m
        exact hr.ok hf m
      · obtain rfl : q2 = false := by
          cases q2
          · rfl
          · exact absurd (h2.1 rfl) m
        exact hr.kind hf m
    · have : (q0 && q1) = false := by
        cases hq : (q0 && q1)
        · rfl
        · rw [Bool.and_eq_true] at hq
          obtain ⟨f0, f1, f2, f3, f4⟩ := h0.1 hq.1
          obtain ⟨f5, f6, f7, f8⟩ := h1.1 hq.2
          exact absurd ⟨f0, f1, f2, f3, f4, f5, f6, f7, f8⟩ hf
      rw [this]
      exact hr.out hf
  subst hr
  clear h0 h1 h2 hS
  go_enter Try.func24, Try.ntmps24
  go_wp2_with fail
  refine (C0.out _).mono ?_
  rintro e w1 ⟨rfl, K1⟩
  cases q0
  · go_wp2
    go_ret
    exact ⟨rfl, K1.ofAlloc⟩
  have c0 := K1.own 0
  have c1 := K1.own 1
  have c2 := K1.own 2
  have c3 := K1.own 3
  have c4 := K1.own 4
  have c5 := K1.own 5
  have c6 := K1.own 6
  have c7 := K1.own 7
  have c8 := K1.own 8
  simp only [List.getElem?_toArray, List.getElem?_cons_zero, List.getElem?_cons_succ] at c0 c1 c2 c3 c4 c5 c6 c7 c8
  have KK : Hid (Kept _ w1) := K1
  clear K1
  go_wp2_with fail
  refine (C1.out _).mono ?_
  rintro e w2 ⟨rfl, K2⟩
  have K3 : Hid (Kept _ w2) := KK.out.trans K2
  clear K2 c0 c1 c2 c3 c4 c5 c6 c7 c8 KK
  cases q1
  · go_wp2
    go_ret
    exact ⟨rfl, K3.out.ofAlloc⟩
  have c8 := K3.out.own 8
  simp only [List.getElem?_toArray, List.getElem?_cons_zero, List.getElem?_cons_succ] at c8
  go_wp2_with fail
  refine (C2.out _ K3.out.ofAlloc).mono ?_
  rintro e w4 ⟨rfl, K4⟩
  have K5 : Hid (Kept w w4) := K3.out.ofAlloc.trans K4
  clear K4 c8 K3
  cases q2
  · go_wp2
    go_ret
    exact ⟨rfl, K5.out⟩
  · go_wp2
    go_ret
    exact ⟨rfl, K5.out⟩

theorem check_any (n0 n1 n2 n3 n4 n5 n6 n7 : Int) (x : Option Addr) (l c : Nat) (S : Nat → Sh) (r : Int) (w : World) (hS : Shps w x l S) (hr : Checks n0 n1 n2 n3 n4 n5 n6 n7 l S r) :
    Calls Try.prog 24 #[.agg #[.int .i64 n0, .int .i64 n1, .int .i64 n2, .int .i64 n3, .int .i64 n4, .int .i64 n5, .int .i64 n6, .int .i64 n7, .slice x l c]] w fun e w' => e = .returned (.int .i64 r) ∧ Kept w w' :=
  check_gen n0 n1 n2 n3 n4 n5 n6 n7 x l c S r w (fun _ => hS) hr
/-- Too many shapes: whatever they are. -/
theorem check_many (n0 n1 n2 n3 n4 n5 n6 n7 : Int) (x : Option Addr) (l c : Nat) (w : World) (hf : Fits n0 n1 n2 n3 n4 n5 n6 n7) (hl : 8 < l) :
    Calls Try.prog 24 #[.agg #[.int .i64 n0, .int .i64 n1, .int .i64 n2, .int .i64 n3, .int .i64 n4, .int .i64 n5, .int .i64 n6, .int .i64 n7, .slice x l c]] w fun e w' => e = .returned (.int .i64 4) ∧ Kept w w' :=
  check_gen n0 n1 n2 n3 n4 n5 n6 n7 x l c (fun _ => ⟨false, none, 0, 0⟩) 4 w (fun h => by omega) (Checks.of_kind hf fun m => by have := m.2.1; omega)

end Go.Proofs.Ytiigmmmhhpdmdaa

/-
  Contracts of package conf's Copy and of what it calls: the same, in new blocks; what was there is kept.
-/
namespace Go.Proofs.Ytiigmmmhhpdmdaa
open Go.RowKit Go.ChangeShapes Go.WideShapes

theorem Kept.setRow {w w' : World} (h : Kept w w') {g : Nat} (hg : w.heap.size ≤ g) (cs : Array Value) : Kept w (w'.setRow g cs) := ⟨below_setRow h.below hg cs⟩

theorem run_loadVar_blk {P : Program} (w : World) (g : Nat) (ty : TypeId) (L : List Value) {fs : Array Field} (hb : Blk w g L) (hu : P.underlying ty = some (.struct fs)) (hi : (P.info? ty).map (·.size) = some L.length) :
    (loadVar ty ⟨g, 0, none⟩).run P w = .ok (.agg L.toArray) w := by
  have hl : (loadCells ⟨g, 0, none⟩ L.length).run P w = .ok L.toArray w :=
    run_loadCells_list (P := P) w ⟨g, 0, none⟩ L (fun j v hv => by
      have hadd : (⟨g, 0, none⟩ : Addr).add j = ⟨g, j, none⟩ := by unfold Addr.add; split <;> simp_all
      rw [hadd]
      exact hb.cells j v hv)
  cases hq : P.info? ty with
  | none => simp [hq] at hi
  | some i =>
    have hs : i.size = L.length := by simpa [hq] using hi
    have hagg : (isAgg ty).run P w = .ok true w := by simp [isAgg, run_underlying hu]
    simp [loadVar, hagg, sizeOf, typeInfo, hq, hs, hl]

theorem results_blk {P : Program} {fn : Func} {p : Tmp} {ty : TypeId} (h : fn.results = #[.cell p ty]) (tmps : Array Value) (w : World) (g : Nat) (L : List Value) {fs : Array Field}
    (hp : tmps.getD p undef = .pointer (some ⟨g, 0, none⟩)) (hb : Blk w g L) (hu : P.underlying ty = some (.struct fs)) (hi : (P.info? ty).map (·.size) = some L.length) :
    (results fn tmps).run P w = .ok (.agg L.toArray) w := by
  have hp' : tmps[p]?.getD undef = .pointer (some ⟨g, 0, none⟩) := by simpa using hp
  simp [results, h, hp', asAddr, run_loadVar_blk w g ty L hb hu hi]

theorem results_blk_tmp {P : Program} {fn : Func} {p u : Tmp} {ty : TypeId} (h : fn.results = #[.cell p ty, .tmp u]) (tmps : Array Value) (w : World) (g : Nat) (L : List Value) {fs : Array Field}
    (hp : tmps.getD p undef = .pointer (some ⟨g, 0, none⟩)) (hb : Blk w g L) (hu : P.underlying ty = some (.struct fs)) (hi : (P.info? ty).map (·.size) = some L.length) :
    (results fn tmps).run P w = .ok (.tuple #[.agg L.toArray, tmps.getD u undef]) w := by
  rw [results_cell_tmp h, hp]
  simp [asAddr, run_loadVar_blk w g ty L hb hu hi, Result.andThen]

theorem Blk.new2 (w : World) (A : Array Value) (t : TypeId) (L : List Value) (u : TypeId) : Blk ((w.alloc (.cells A t)).alloc (.cells L.toArray u)) (w.heap.size + 1) L := by
  have h := Blk.new (w.alloc (.cells A t)) L u
  have e : (w.alloc (.cells A t)).heap.size = w.heap.size + 1 := by simp
  rwa [e] at h
theorem Blk.set_other {w : World} {b : Nat} {L : List Value} (h : Blk w b L) {a : Addr} (ha : a.block ≠ b) (v : Value) : Blk (w.setCell a v) b L :=
  ⟨by simpa using h.lt, fun j => (World.frozen?_setCell _ _ _ _).trans (h.fz j), fun j x e => (World.cell?_setCell_other w a ⟨b, j, none⟩ v (fun q => ha (congrArg Addr.block q))).trans (h.cells j x e)⟩
theorem Refs.set_other {w : World} {g o l : Nat} {R : Nat → Bool} (h : Refs w (some ⟨g, o, none⟩) l R) {a : Addr} (ha : a.block ≠ g) (v : Value) : Refs (w.setCell a v) (some ⟨g, o, none⟩) l R := fun h0 => by
  obtain ⟨b, q, e, hb, hc⟩ := h h0
  simp only [Option.some.injEq, Addr.mk.injEq, and_true] at e
  obtain ⟨rfl, rfl⟩ := e
  exact ⟨g, o, rfl, by simpa using hb, fun k hk => (World.cell?_setCell_other w a ⟨g, o + k, none⟩ v (fun q => ha (congrArg Addr.block q))).trans (hc k hk)⟩

/-- A block of truth values. -/
def Bt (w : World) (y : Nat) : Prop := ∃ c f, w.heap[y]? = some (.cells c 4 f)
theorem Bt.lt {w : World} {y : Nat} (h : Bt w y) : y < w.heap.size := by
  obtain ⟨c, f, h⟩ := h
  exact (Array.getElem?_eq_some_iff.1 h).1
theorem Bt.kept {w w' : World} {y : Nat} (h : Bt w y) (k : Kept w w') : Bt w' y := by
  have hl := h.lt
  obtain ⟨c, f, h⟩ := h
  exact ⟨c, f, (k.below.block y hl).trans h⟩
theorem Bt.muts {w w' : World} {y : Nat} {D : List Nat} (h : Bt w y) (m : Mut D w w') (hd : y ∉ D) : Bt w' y := by
  have hl := h.lt
  obtain ⟨c, f, h⟩ := h
  exact ⟨c, f, (m.block y hl hd).trans h⟩
theorem Bt.set_other {w : World} {y : Nat} (h : Bt w y) {a : Addr} (ha : a.block ≠ y) (v : Value) : Bt (w.setCell a v) y := by
  obtain ⟨c, f, h⟩ := h
  exact ⟨c, f, (Below.heap_setCell w a v y (Ne.symm ha)).trans h⟩

theorem info_bool : (Try.prog.info? 4).map (fun i => (i.zero, i.size, i.bytes)) = some (some (.bool false), 1, 1) := by kernel_rfl

set_option maxHeartbeats 1000000 in
theorem copy_shape (s : Sh) (R : Nat → Bool) (w : World) (hl : s.l ≤ 140737488351232) (hR : Refs w s.x s.l R) :
    Calls Try.prog 78 #[.agg #[.bool s.arr, .slice s.x s.l s.c]] w fun e w' => ∃ g, e = .returned (.agg #[.bool s.arr, .slice (some ⟨g, 0, none⟩) s.l s.l]) ∧ w.heap.size ≤ g ∧ (Refs w' (some ⟨g, 0, none⟩) s.l R ∧ Bt w' g) ∧ Kept w w' := by
  obtain ⟨b, x, l, c⟩ := s
  simp only at hl hR ⊢
  have hmk := run_make_row' (P := Try.prog) 70 4 (.bool false) 1 Try.underlying70 info_bool rfl .i64 .i64 l (by omega) (by omega)
  have HR : Hid (Refs w x l R) := hR
  clear hR
  obtain ⟨W3, hcp, K3, B0, B1, R3, T3⟩ : ∃ W3, (Builtin.copy_ #[70, 70] 3 #[.slice (some ⟨w.heap.size + 1 + 1, 0, none⟩) l l, .slice x l c]).run Try.prog (((w.alloc (.cells #[.bool b, .slice x l c] 72)).alloc (.cells #[.bool false, .slice none 0 0] 72)).alloc (.cells (madeCells #[.bool false] l) 4)) = .ok (goInt l) W3 ∧ Kept w W3 ∧
      Blk W3 w.heap.size [.bool b, .slice x l c] ∧ Blk W3 (w.heap.size + 1) [.bool false, .slice none 0 0] ∧ Refs W3 (some ⟨w.heap.size + 1 + 1, 0, none⟩) l R ∧ Bt W3 (w.heap.size + 1 + 1) := by
    generalize hW0 : w.alloc (.cells #[.bool b, .slice x l c] 72) = W0
    have z0 : W0.heap.size = w.heap.size + 1 := by rw [← hW0]; simp
    have b0 : Blk W0 w.heap.size [.bool b, .slice x l c] := by rw [← hW0]; exact Blk.new w _ _
    have k0 : Kept w W0 := by rw [← hW0]; exact (Kept.refl w).alloc _ _
    clear hW0
    generalize hW1 : W0.alloc (.cells #[.bool false, .slice none 0 0] 72) = W1
    have z1 : W1.heap.size = w.heap.size + 1 + 1 := by rw [← hW1]; simp [z0]
    have b1 : Blk W1 (w.heap.size + 1) [.bool false, .slice none 0 0] := by rw [← hW1, ← z0]; exact Blk.new W0 _ _
    have k1 : Kept W0 W1 := by rw [← hW1]; exact (Kept.refl W0).alloc _ _
    clear hW1
    have hrow : (W1.alloc (.cells (madeCells #[.bool false] l) 4)).heap[w.heap.size + 1 + 1]? = some (.cells (madeCells #[.bool false] l) 4 (0, 0)) := by rw [← z1]; exact heap_alloc_new _ _
    have k2 : Kept W1 (W1.alloc (.cells (madeCells #[.bool false] l) 4)) := (Kept.refl W1).alloc _ _
    have kk : Kept w (W1.alloc (.cells (madeCells #[.bool false] l) 4)) := (k0.trans k1).trans k2
    generalize W1.alloc (.cells (madeCells #[.bool false] l) 4) = W2 at *
    by_cases h0 : l = 0
    · subst h0
      exact ⟨W2, run_copy_none W2 _ _ _ 4 _ _ _ _ _ _ Try.underlying70 (by kernel_rfl) rfl, kk, (b0.kept k1).kept k2, b1.kept k2, fun h => by omega, _, _, hrow⟩
    · obtain ⟨a, o, rfl, ha, hc⟩ := HR.out (by omega)
      have hlen : ((List.range l).map fun k => Value.bool (R k)).length = l := by simp
      have hrun := run_copy_row (P := Try.prog) W2 70 70 3 4 (w.heap.size + 1 + 1) 0 l l ⟨a, o, none⟩ l c (madeCells #[.bool false] l) 4 ((List.range l).map fun k => Value.bool (R k)) Try.underlying70 (by kernel_rfl) hrow (by simp)
        (fun j v hj => by
          by_cases hjl : j < l
          · simp [hjl] at hj
            subst hj
            rw [add_plain]
            exact (kk.cell ha).trans (hc j hjl)
          · simp [hjl] at hj) (by simp [size_madeCells]) (by simp [Value.oneCell'])
      have hrw : List.take 0 (madeCells #[.bool false] l).toList ++ (List.range l).map (fun k => Value.bool (R k)) ++ List.drop (0 + l) (madeCells #[.bool false] l).toList = (List.range l).map (fun k => Value.bool (R k)) := by
        have : List.drop (0 + l) (madeCells #[.bool false] l).toList = [] := List.drop_eq_nil_of_le (by simp [size_madeCells])
        rw [this]
        simp
      rw [hlen, hrw] at hrun
      have k3 := k2.setRow (g := w.heap.size + 1 + 1) (by omega) ((List.range l).map fun k => Value.bool (R k)).toArray
      have hrow3 := setRow_heap W2 (w.heap.size + 1 + 1) _ ((List.range l).map fun k => Value.bool (R k)).toArray _ _ hrow
      refine ⟨_, hrun, (k0.trans k1).trans k3, (b0.kept k1).kept k3, b1.kept k3, fun _ => ⟨w.heap.size + 1 + 1, 0, rfl, ?_, fun k hk => ?_⟩, _, _, hrow3⟩
      · exact (Array.getElem?_eq_some_iff.1 hrow3).1
      · simp [World.cell?, hrow3, hk]
  have c0 := B0.at 0 rfl
  have c1 := B0.at 1 rfl
  have d0 := B1.at 0 rfl
  have d1 := B1.at 1 rfl
  have f0 := B0.fz
  have f1 := B1.fz
  have HK : Hid (Kept w W3) := K3
  have HR3 : Hid (Refs _ _ _ _) := R3
  have HT3 : Hid (Bt _ _) := T3
  have HB : Hid (_ ∧ _) := ⟨B0, B1⟩
  clear K3 R3 T3 B0 B1
  go_enter Try.func78, Try.ntmps78
  go_wp2
  (try simp only [Exit.inBlock, Exit.then])
  obtain ⟨B0, B1⟩ := HB.out
  refine bodyPost_ret_by (v := .agg #[.bool b, .slice (some ⟨w.heap.size + 1 + 1, 0, none⟩) l l]) (results_blk rfl _ _ (w.heap.size + 1) [_, _] rfl (((B1.set_other ?_ _).set (i := 0) rfl _).set (i := 1) rfl _) Try.underlying72 (by kernel_rfl)) rfl
    ⟨w.heap.size + 1 + 1, rfl, by omega, ⟨((HR3.out.set_other ?_ _).set_other ?_ _).set_other ?_ _, ((HT3.out.set_other ?_ _).set_other ?_ _).set_other ?_ _⟩, ((HK.out.setCell ?_ _).setCell ?_ _).setCell ?_ _⟩
  all_goals (first | (simp; done) | (simp; omega))

/-- The cells of a row of shapes. -/
def cf (T : Nat → Sh) (j : Nat) : Value := if j % 2 = 0 then .bool (T (j / 2)).arr else .slice (T (j / 2)).x (T (j / 2)).l (T (j / 2)).c

theorem cf_0 (T : Nat → Sh) (k : Nat) : cf T (k * 2) = .bool (T k).arr := by simp [cf]
theorem cf_1 (T : Nat → Sh) (k : Nat) : cf T (k * 2 + 1) = .slice (T k).x (T k).l (T k).c := by
  have h1 : (k * 2 + 1) % 2 = 1 := by omega
  have h2 : (k * 2 + 1) / 2 = k := by omega
  simp [cf, h1, h2]

/-- A row of shapes is a slice of shapes. -/
theorem row_shps {w : World} {g : Nat} {t : TypeId} {l : Nat} {T : Nat → Sh} (h : w.rowIs g t (l * 2) (cf T)) : Shps w (some ⟨g, 0, none⟩) l T := fun _ =>
  ⟨g, 0, rfl, h.lt, fun i hi => by
    have h0 := h.cell (i := i * 2) (by omega)
    have h1 := h.cell (i := i * 2 + 1) (by omega)
    rw [cf_0] at h0
    rw [cf_1] at h1
    simp only [Nat.zero_add]
    exact ⟨h0, h1⟩⟩

/-- One shape of the row is laid anew. -/
theorem row_set {w : World} {g : Nat} {t : TypeId} {l : Nat} {T : Nat → Sh} (h : w.rowIs g t (l * 2) (cf T)) (k : Nat) (s : Sh) :
    ((w.setCell ⟨g, k * 2, none⟩ (.bool s.arr)).setCell ⟨g, k * 2 + 1, none⟩ (.slice s.x s.l s.c)).rowIs g t (l * 2) (cf fun i => if i = k then s else T i) := by
  refine ((h.set (k * 2) (.bool s.arr)).set (k * 2 + 1) (.slice s.x s.l s.c)).congr fun j _ => ?_
  by_cases e1 : j = k * 2 + 1
  · subst e1
    simp [cf_1]
  · by_cases e0 : j = k * 2
    · subst e0
      simp [cf_0]
    · have : j / 2 ≠ k := by omega
      simp [cf, e0, e1, this]

/-- What was copied: alike, its fields in a block of its own, which came behind block g. -/
def Cop (w : World) (g : Nat) (s s' : Sh) (R : Nat → Bool) : Prop := s'.arr = s.arr ∧ s'.l = s.l ∧ s'.c = s.l ∧ ∃ y, s'.x = some ⟨y, 0, none⟩ ∧ g < y ∧ Refs w (some ⟨y, 0, none⟩) s.l R ∧ Bt w y

theorem Cop.kept {w w' : World} {g : Nat} {s s' : Sh} {R : Nat → Bool} (h : Cop w g s s' R) (k : Kept w w') : Cop w' g s s' R := by
  obtain ⟨h0, h1, h2, y, h3, h4, h5⟩ := h
  exact ⟨h0, h1, h2, y, h3, h4, h5.1.kept k, h5.2.kept k⟩
theorem Cop.set {w : World} {g : Nat} {s s' : Sh} {R : Nat → Bool} (h : Cop w g s s' R) (i : Nat) (v : Value) : Cop (w.setCell ⟨g, i, none⟩ v) g s s' R := by
  obtain ⟨h0, h1, h2, y, h3, h4, h5⟩ := h
  exact ⟨h0, h1, h2, y, h3, h4, h5.1.set_other (by simp; omega) v, h5.2.set_other (by simp; omega) v⟩

theorem done_set {w wr : World} {G : Nat} {t : TypeId} {l : Nat} {S T : Nat → Sh} {R : Nat → Nat → Bool} (h : Kept w wr ∧ wr.rowIs G t (l * 2) (cf T) ∧ ∀ i, i < l → Cop wr G (S i) (T i) (R i)) {a : Addr} (h0 : w.heap.size ≤ a.block) (h1 : a.block < G) (v : Value) :
    Kept w (wr.setCell a v) ∧ (wr.setCell a v).rowIs G t (l * 2) (cf T) ∧ ∀ i, i < l → Cop (wr.setCell a v) G (S i) (T i) (R i) :=
  ⟨h.1.setCell h0 v, h.2.1.setOther (by omega) v, fun i hi => by
    obtain ⟨e0, e1, e2, y, e3, e4, e5⟩ := h.2.2 i hi
    exact ⟨e0, e1, e2, y, e3, e4, e5.1.set_other (by omega) v, e5.2.set_other (by omega) v⟩⟩

theorem info_shape : (Try.prog.info? 72).map (fun i => (i.zero, i.size, i.bytes)) = some (some (.agg #[.bool false, .slice none 0 0]), 2, 32) := by kernel_rfl

theorem run_make_shapes (n : Nat) (h : n ≤ 1000000) (w : World) :
    (Instr.makeSlice 22 (.int .i64 (n : Int)) (.int .i64 (n : Int))).run Try.prog w = .ok (.slice (some ⟨w.heap.size, 0, none⟩) n n) (w.alloc (.cells (madeCells #[.bool false, .slice none 0 0] (n * 2)) 72)) := by
  obtain ⟨i, hi, hz, hs, hb⟩ := info_parts info_shape
  have hr := run_make (P := Try.prog) w 22 72 i _ Try.underlying22 hi hz .i64 .i64 n n (by omega) (Int.le_refl _) (by rw [hb]; omega) (by omega)
  simp only [Int.toNat_natCast, hs] at hr
  exact hr

theorem crow_made (w : World) (n : Nat) (t : TypeId) : (w.alloc (.cells (madeCells #[.bool false, .slice none 0 0] (n * 2)) t)).rowIs w.heap.size t (n * 2) (cf fun _ => ⟨false, none, 0, 0⟩) := by
  have h := World.rowIs_alloc w (madeCells #[.bool false, .slice none 0 0] (n * 2)) t (cf fun _ => ⟨false, none, 0, 0⟩) (fun i hi => by
    rw [size_madeCells] at hi
    rcases Nat.mod_two_eq_zero_or_one i with e | e
    · simp [madeCells, hi, cf, e]
    · simp [madeCells, hi, cf, e])
  rwa [size_madeCells] at h

theorem copy_step {W wr w2 : World} {G : Nat} {t : TypeId} {l k g : Nat} {S T : Nat → Sh} {R : Nat → Nat → Bool} (hk : Kept W wr) (hG : W.heap.size ≤ G) (hrow : wr.rowIs G t (l * 2) (cf T)) (hall : ∀ i, i < k → Cop wr G (S i) (T i) (R i))
    (k2 : Kept wr w2) (hg : wr.heap.size ≤ g) (hR : Refs w2 (some ⟨g, 0, none⟩) (S k).l (R k) ∧ Bt w2 g) :
    ∃ T', Kept W ((w2.setCell ⟨G, k * 2, none⟩ (.bool (S k).arr)).setCell ⟨G, k * 2 + 1, none⟩ (.slice (some ⟨g, 0, none⟩) (S k).l (S k).l)) ∧
      ((w2.setCell ⟨G, k * 2, none⟩ (.bool (S k).arr)).setCell ⟨G, k * 2 + 1, none⟩ (.slice (some ⟨g, 0, none⟩) (S k).l (S k).l)).rowIs G t (l * 2) (cf T') ∧
      ∀ i, i < k + 1 → Cop ((w2.setCell ⟨G, k * 2, none⟩ (.bool (S k).arr)).setCell ⟨G, k * 2 + 1, none⟩ (.slice (some ⟨g, 0, none⟩) (S k).l (S k).l)) G (S i) (T' i) (R i) := by
  refine ⟨_, ((hk.trans k2).setCell hG _).setCell hG _, row_set (k2.row hrow) k ⟨(S k).arr, some ⟨g, 0, none⟩, (S k).l, (S k).l⟩, fun i hi => Cop.set (Cop.set ?_ _ _) _ _⟩
  by_cases e : i = k
  · subst e
    have := hrow.lt
    simp only [if_true]
    exact ⟨rfl, rfl, rfl, g, rfl, by omega, hR⟩
  · simp only [e, if_false]
    exact (hall i (by omega)).kept k2

end Go.Proofs.Ytiigmmmhhpdmdaa

