/-
  Contracts of package conf's Check and of what it calls: each answers as a plain function of the numbers and of the shapes that lie in memory; what was there is kept.
-/
import Derived.Test.YtahpnnjemjjfhaaCells
import Derived.Outline
namespace Go.Proofs.Ytahpnnjemjjfhaa
open Go.RowKit

/-- A configuration's cells. -/
def cl (n0 n1 n2 n3 n4 n5 n6 n7 : Int) (v : Value) : List Value := [.int .i64 n0, .int .i64 n1, .int .i64 n2, .int .i64 n3, .int .i64 n4, .int .i64 n5, .int .i64 n6, .int .i64 n7, v]

/-- A shape as it lies in memory: its kind, and its fields' slice. -/
structure Sh where
  arr : Bool
  x : Option Addr
  l : Nat
  c : Nat

/-- May it be? -/
def Sh.may (s : Sh) : Bool := if s.arr then (s.l : Int) == 1 else decide ((s.l : Int) ≤ 40)

/-- A slice of shapes that lies in memory. -/
def Shps (w : World) (x : Option Addr) (l : Nat) (S : Nat → Sh) : Prop :=
  0 < l → ∃ b o, x = some ⟨b, o, none⟩ ∧ b < w.heap.size ∧ ∀ i, i < l → w.cell? ⟨b, o + i * 2, none⟩ = some (.bool (S i).arr) ∧ w.cell? ⟨b, o + i * 2 + 1, none⟩ = some (.slice (S i).x (S i).l (S i).c)

theorem Shps.kept {w w' : World} {x : Option Addr} {l : Nat} {S : Nat → Sh} (h : Shps w x l S) (k : Kept w w') : Shps w' x l S := fun h0 => by
  obtain ⟨b, o, e, hb, hc⟩ := h h0
  exact ⟨b, o, e, Nat.lt_of_lt_of_le hb k.size, fun i hi => ⟨(k.cell hb).trans (hc i hi).1, (k.cell hb).trans (hc i hi).2⟩⟩

/-- A slice of bools that lies in memory. -/
def Refs (w : World) (x : Option Addr) (l : Nat) (R : Nat → Bool) : Prop :=
  0 < l → ∃ b o, x = some ⟨b, o, none⟩ ∧ b < w.heap.size ∧ ∀ k, k < l → w.cell? ⟨b, o + k, none⟩ = some (.bool (R k))

theorem Refs.kept {w w' : World} {x : Option Addr} {l : Nat} {R : Nat → Bool} (h : Refs w x l R) (k : Kept w w') : Refs w' x l R := fun h0 => by
  obtain ⟨b, o, e, hb, hc⟩ := h h0
  exact ⟨b, o, e, Nat.lt_of_lt_of_le hb k.size, fun i hi => (k.cell hb).trans (hc i hi)⟩

def Mays (l : Nat) (S : Nat → Sh) : Prop := 1 ≤ l ∧ l ≤ 8 ∧ ∀ i, i < l → (S i).may = true

def Fits (n0 n1 n2 n3 n4 n5 n6 n7 : Int) : Prop :=
  (4 ≤ n0 ∧ n0 ≤ 1024) ∧ (0 ≤ n1 ∧ n1 ≤ 2048) ∧ (0 ≤ n2 ∧ n2 ≤ 8) ∧ (1 ≤ n6 ∧ n6 ≤ 256) ∧ (0 ≤ n7 ∧ n7 ≤ n0) ∧ (1 ≤ n3 ∧ n3 ≤ 16) ∧ (1 ≤ n4 ∧ n4 ≤ 8) ∧ (0 ≤ n5 ∧ n5 ≤ 8) ∧ n3 * n5 ≤ n0

/-- Check's answer: 0, 1 (a number is out of its bounds), 4 (the shapes). -/
structure Checks (n0 n1 n2 n3 n4 n5 n6 n7 : Int) (l : Nat) (S : Nat → Sh) (r : Int) : Prop where
  out : ¬ Fits n0 n1 n2 n3 n4 n5 n6 n7 → r = 1
  kind : Fits n0 n1 n2 n3 n4 n5 n6 n7 → ¬ Mays l S → r = 4
  ok : Fits n0 n1 n2 n3 n4 n5 n6 n7 → Mays l S → r = 0

theorem Checks.some (n0 n1 n2 n3 n4 n5 n6 n7 : Int) (l : Nat) (S : Nat → Sh) : ∃ r, Checks n0 n1 n2 n3 n4 n5 n6 n7 l S r ∧ (r = 0 ∨ r = 1 ∨ r = 4) := by
  by_cases h : Fits n0 n1 n2 n3 n4 n5 n6 n7
  · by_cases m : Mays l S
    · exact ⟨0, ⟨fun n => absurd h n, fun _ n => absurd m n, fun _ _ => rfl⟩, by simp⟩
    · exact ⟨4, ⟨fun n => absurd h n, fun _ _ => rfl, fun _ n => absurd n m⟩, by simp⟩
  · exact ⟨1, ⟨fun _ => rfl, fun n => absurd n h, fun n => absurd n h⟩, by simp⟩

theorem Checks.zero {n0 n1 n2 n3 n4 n5 n6 n7 : Int} {l : Nat} {S : Nat → Sh} (h : Checks n0 n1 n2 n3 n4 n5 n6 n7 l S 0) : Fits n0 n1 n2 n3 n4 n5 n6 n7 ∧ Mays l S := by
  by_cases f : Fits n0 n1 n2 n3 n4 n5 n6 n7
  · by_cases m : Mays l S
    · exact ⟨f, m⟩
    · exact absurd (h.kind f m) (by omega)
  · exact absurd (h.out f) (by omega)
theorem Checks.of_ok {n0 n1 n2 n3 n4 n5 n6 n7 : Int} {l : Nat} {S : Nat → Sh} (f : Fits n0 n1 n2 n3 n4 n5 n6 n7) (m : Mays l S) : Checks n0 n1 n2 n3 n4 n5 n6 n7 l S 0 := ⟨fun n => absurd f n, fun _ n => absurd m n, fun _ _ => rfl⟩
theorem Checks.of_out {n0 n1 n2 n3 n4 n5 n6 n7 : Int} {l : Nat} {S : Nat → Sh} (f : ¬ Fits n0 n1 n2 n3 n4 n5 n6 n7) : Checks n0 n1 n2 n3 n4 n5 n6 n7 l S 1 := ⟨fun _ => rfl, fun n => absurd n f, fun n => absurd n f⟩
theorem Checks.of_kind {n0 n1 n2 n3 n4 n5 n6 n7 : Int} {l : Nat} {S : Nat → Sh} (f : Fits n0 n1 n2 n3 n4 n5 n6 n7) (m : ¬ Mays l S) : Checks n0 n1 n2 n3 n4 n5 n6 n7 l S 4 := ⟨fun n => absurd f n, fun _ _ => rfl, fun _ n => absurd n m⟩

set_option maxHeartbeats 400000 in
theorem may_any (s : Sh) (w : World) :
    Calls Try.prog 63 #[.agg #[.bool s.arr, .slice s.x s.l s.c]] w fun e w' => e = .returned (.bool s.may) ∧ Kept w w' := by
  obtain ⟨b, x, l, c⟩ := s
  cases b
  · simp only [Sh.may]
    go_enter Try.func63, Try.ntmps63
    go_wp2
    go_ret
    exact ⟨rfl, (Kept.refl _).alloc _ _⟩
  · simp only [Sh.may]
    go_enter Try.func63, Try.ntmps63
    go_wp2
    go_ret
    exact ⟨rfl, (Kept.refl _).alloc _ _⟩

set_option maxHeartbeats 400000 in
theorem within_any (n lo hi : Int) (p : Bool) (w : World) (hp : p = true ↔ lo ≤ n ∧ n ≤ hi) :
    Calls Try.prog 62 #[.int .i64 n, .int .i64 lo, .int .i64 hi] w fun e w' => e = .returned (.bool p) ∧ w' = w := by
  by_cases h1 : lo ≤ n
  · by_cases h2 : n ≤ hi
    · obtain rfl : p = true := hp.2 ⟨h1, h2⟩
      clear hp
      go_enter Try.func62, Try.ntmps62
      go_wp2
      go_ret
      exact ⟨rfl, rfl⟩
    · obtain rfl : p = false := by
        cases p
        · rfl
        · have := hp.1 rfl
          omega
      clear hp
      go_enter Try.func62, Try.ntmps62
      go_wp2
      go_ret
      exact ⟨rfl, rfl⟩
  · obtain rfl : p = false := by
      cases p
      · rfl
      · have := hp.1 rfl
        omega
    clear hp
    go_enter Try.func62, Try.ntmps62
    go_wp2
    go_ret
    exact ⟨rfl, rfl⟩

theorem bool_iff (q : Prop) : ∃ p : Bool, p = true ↔ q := by
  by_cases h : q
  · exact ⟨true, by simp [h]⟩
  · exact ⟨false, by simp [h]⟩

set_option maxHeartbeats 1000000 in
theorem heap_fits (n0 n1 n2 n3 n4 n5 n6 n7 : Int) (x : Option Addr) (l c : Nat) (p : Bool) (w : World)
    (hp : p = true ↔ (4 ≤ n0 ∧ n0 ≤ 1024) ∧ (0 ≤ n1 ∧ n1 ≤ 2048) ∧ (0 ≤ n2 ∧ n2 ≤ 8) ∧ (1 ≤ n6 ∧ n6 ≤ 256) ∧ (0 ≤ n7 ∧ n7 ≤ n0)) :
    Calls Try.prog 34 #[.agg #[.int .i64 n0, .int .i64 n1, .int .i64 n2, .int .i64 n3, .int .i64 n4, .int .i64 n5, .int .i64 n6, .int .i64 n7, .slice x l c]] w fun e w' => e = .returned (.bool p) ∧ Kept w w' := by
  obtain ⟨q0, h0⟩ := bool_iff (4 ≤ n0 ∧ n0 ≤ 1024)
  obtain ⟨q1, h1⟩ := bool_iff (0 ≤ n1 ∧ n1 ≤ 2048)
  obtain ⟨q2, h2⟩ := bool_iff (0 ≤ n2 ∧ n2 ≤ 8)
  obtain ⟨q3, h3⟩ := bool_iff (1 ≤ n6 ∧ n6 ≤ 256)
  obtain ⟨q4, h4⟩ := bool_iff (0 ≤ n7 ∧ n7 ≤ n0)
  have C0 : Hid (∀ w, Calls Try.prog 62 #[.int .i64 n0, .int .i64 4, .int .i64 1024] w _) := fun w => within_any n0 4 1024 q0 w h0
  have C1 : Hid (∀ w, Calls Try.prog 62 #[.int .i64 n1, .int .i64 0, .int .i64 2048] w _) := fun w => within_any n1 0 2048 q1 w h1
  have C2 : Hid (∀ w, Calls Try.prog 62 #[.int .i64 n2, .int .i64 0, .int .i64 8] w _) := fun w => within_any n2 0 8 q2 w h2
  have C3 : Hid (∀ w, Calls Try.prog 62 #[.int .i64 n6, .int .i64 1, .int .i64 256] w _) := fun w => within_any n6 1 256 q3 w h3
  have C4 : Hid (∀ w, Calls Try.prog 62 #[.int .i64 n7, .int .i64 0, .int .i64 n0] w _) := fun w => within_any n7 0 n0 q4 w h4
  rw [← h0, ← h1, ← h2, ← h3, ← h4] at hp
  clear h0 h1 h2 h3 h4
  obtain rfl : p = (q0 && (q1 && (q2 && (q3 && q4)))) := by rw [Bool.eq_iff_iff, hp]; simp only [Bool.and_eq_true]
  clear hp
  go_enter Try.func34, Try.ntmps34
  go_wp2_with fail
  refine (C0.out _).mono ?_
  rintro e w' ⟨rfl, rfl⟩
  cases q0
  · go_wp2
    go_ret
    exact ⟨rfl, (Kept.refl _).alloc _ _⟩
  go_wp2_with fail
  refine (C1.out _).mono ?_
  rintro e w' ⟨rfl, rfl⟩
  cases q1
  · go_wp2
    go_ret
    exact ⟨rfl, (Kept.refl _).alloc _ _⟩
  go_wp2_with fail
  refine (C2.out _).mono ?_
  rintro e w' ⟨rfl, rfl⟩
  cases q2
  · go_wp2
    go_ret
    exact ⟨rfl, (Kept.refl _).alloc _ _⟩
  go_wp2_with fail
  refine (C3.out _).mono ?_
  rintro e w' ⟨rfl, rfl⟩
  cases q3
  · go_wp2
    go_ret
    exact ⟨rfl, (Kept.refl _).alloc _ _⟩
  go_wp2_with fail
  refine (C4.out _).mono ?_
  rintro e w' ⟨rfl, rfl⟩
  go_wp2
  go_ret
  exact ⟨by simp, (Kept.refl _).alloc _ _⟩

theorem mul_bounds {a b : Int} (ha : 1 ≤ a ∧ a ≤ 16) (hb : 0 ≤ b ∧ b ≤ 8) : 0 ≤ a * b ∧ a * b ≤ 128 :=
  ⟨Int.mul_nonneg (by omega) hb.1, Int.le_trans (Int.mul_le_mul ha.2 hb.2 hb.1 (by omega)) (by omega)⟩

set_option maxHeartbeats 1000000 in
theorem threads_fit (n0 n1 n2 n3 n4 n5 n6 n7 : Int) (x : Option Addr) (l c : Nat) (p : Bool) (w : World)
    (hp : p = true ↔ (1 ≤ n3 ∧ n3 ≤ 16) ∧ (1 ≤ n4 ∧ n4 ≤ 8) ∧ (0 ≤ n5 ∧ n5 ≤ 8) ∧ n3 * n5 ≤ n0) :
    Calls Try.prog 35 #[.agg #[.int .i64 n0, .int .i64 n1, .int .i64 n2, .int .i64 n3, .int .i64 n4, .int .i64 n5, .int .i64 n6, .int .i64 n7, .slice x l c]] w fun e w' => e = .returned (.bool p) ∧ Kept w w' := by
  obtain ⟨q0, h0⟩ := bool_iff (1 ≤ n3 ∧ n3 ≤ 16)
  obtain ⟨q1, h1⟩ := bool_iff (1 ≤ n4 ∧ n4 ≤ 8)
  obtain ⟨q2, h2⟩ := bool_iff (0 ≤ n5 ∧ n5 ≤ 8)
  obtain ⟨q3, h3⟩ := bool_iff (n3 * n5 ≤ n0)
  have C0 : Hid (∀ w, Calls Try.prog 62 #[.int .i64 n3, .int .i64 1, .int .i64 16] w _) := fun w => within_any n3 1 16 q0 w h0
  have C1 : Hid (∀ w, Calls Try.prog 62 #[.int .i64 n4, .int .i64 1, .int .i64 8] w _) := fun w => within_any n4 1 8 q1 w h1
  have C2 : Hid (∀ w, Calls Try.prog 62 #[.int .i64 n5, .int .i64 0, .int .i64 8] w _) := fun w => within_any n5 0 8 q2 w h2
  have H0 : Hid _ := h0
  have H2 : Hid _ := h2
  have H3 : Hid _ := h3
  rw [← h0, ← h1, ← h2, ← h3] at hp
  clear h0 h1 h2 h3
  obtain rfl : p = (q0 && (q1 && (q2 && q3))) := by rw [Bool.eq_iff_iff, hp]; simp only [Bool.and_eq_true]
  clear hp
  go_enter Try.func35, Try.ntmps35
  go_wp2_with fail
  refine (C0.out _).mono ?_
  rintro e w' ⟨rfl, rfl⟩
  cases q0
  · go_wp2
    go_ret
    exact ⟨rfl, (Kept.refl _).alloc _ _⟩
  go_wp2_with fail
  refine (C1.out _).mono ?_
  rintro e w' ⟨rfl, rfl⟩
  cases q1
  · go_wp2
    go_ret
    exact ⟨rfl, (Kept.refl _).alloc _ _⟩
  go_wp2_with fail
  refine (C2.out _).mono ?_
  rintro e w' ⟨rfl, rfl⟩
  cases q2
  · go_wp2
    go_ret
    exact ⟨rfl, (Kept.refl _).alloc _ _⟩
  have b0 : 1 ≤ n3 ∧ n3 ≤ 16 := by have := H0.out; simpa using this
  have b2 : 0 ≤ n5 ∧ n5 ≤ 8 := by have := H2.out; simpa using this
  obtain ⟨m0, m1⟩ := mul_bounds b0 b2
  clear b0 b2
  have h3 := H3.out
  by_cases hm : n3 * n5 ≤ n0
  · obtain rfl : q3 = true := h3.2 hm
    clear h3
    go_wp2
    go_ret
    exact ⟨rfl, (Kept.refl _).alloc _ _⟩
  · obtain rfl : q3 = false := by
      cases q3
      · rfl
      · exact absurd (by simpa using h3) hm
    clear h3
    go_wp2
    go_ret
    exact ⟨by simp [hm], (Kept.refl _).alloc _ _⟩

set_option maxHeartbeats 1000000 in
theorem shapes_may (x : Option Addr) (l c : Nat) (S : Nat → Sh) (p : Bool) (w : World) (hS : l ≤ 8 → Shps w x l S) (hp : p = true ↔ Mays l S) :
    Calls Try.prog 36 #[.slice x l c] w fun e w' => e = .returned (.bool p) ∧ Kept w w' := by
  obtain ⟨q0, h0⟩ := bool_iff (1 ≤ (l : Int) ∧ (l : Int) ≤ 8)
  have C0 : Hid (∀ w, Calls Try.prog 62 #[.int .i64 l, .int .i64 1, .int .i64 8] w _) := fun w => within_any l 1 8 q0 w h0
  have HP : Hid _ := hp
  have HS : Hid (l ≤ 8 → Shps w x l S) := hS
  have H0 : Hid _ := h0
  clear hp hS h0
  go_enter Try.func36, Try.ntmps36
  go_wp2_with fail
  refine (C0.out _).mono ?_
  rintro e w' ⟨rfl, rfl⟩
  cases q0
  · have hp := HP.out
    obtain rfl : p = false := by
      cases p
      · rfl
      · have m : Mays l S := by simpa using hp
        have z := H0.out
        have := m.1
        have := m.2.1
        simp at z
        omega
    clear hp
    go_wp2
    go_ret
    exact ⟨rfl, Kept.refl _⟩
  have hl : 1 ≤ (l : Int) ∧ (l : Int) ≤ 8 := by have := H0.out; simpa using this
  go_wp2_with fail
  go_loopg [11] l (fun m i wr => ∃ k : Nat, i = .int .i64 k ∧ k ≤ l ∧ m = l - k ∧ Hid (Kept w' wr) ∧ Hid (∀ i, i < k → (S i).may = true))
  case atStart => exact ⟨0, rfl, by omega, by omega, Kept.refl _, fun _ h => absurd h (Nat.not_lt_zero _)⟩
  case round =>
    obtain ⟨k, rfl, hk0, hm, KK, hall⟩ := hrel
    have HM : Hid _ := hm
    clear hm
    by_cases hlt : k < l
    · obtain ⟨b, o, rfl, hb, hc⟩ := HS.out (by omega) (by omega)
      have a0 : wr.cell? ⟨b, o + k * 2, none⟩ = _ := (KK.out.cell hb).trans (hc k hlt).1
      have a1 : wr.cell? ⟨b, o + k * 2 + 1, none⟩ = _ := (KK.out.cell hb).trans (hc k hlt).2
      have M : Hid (∀ w, _) := fun w => may_any (S k) w
      clear hc
      go_wp2_with fail
      refine (M.out _).mono ?_
      rintro e w2 ⟨rfl, K2⟩
      have K3 : Hid (Kept w' w2) := (KK.out.alloc _ _).trans K2
      clear K2 a0 a1 M
      cases hmay : (S k).may
      · obtain rfl : p = false := by
          cases p
          · rfl
          · have m : Mays l S := by have := HP.out; simpa using this
            rw [m.2.2 k hlt] at hmay
            cases hmay
        clear hmay
        go_wp2
        go_ret
        exact ⟨rfl, K3.out⟩
      · have hall2 : Hid (∀ i, i < k + 1 → (S i).may = true) := fun i hi => by
          rcases Nat.lt_succ_iff_lt_or_eq.1 hi with h | rfl
          · exact hall.out i h
          · exact hmay
        clear hmay
        go_wp2
        go_roundg (gk - 1)
        case measure => have := HM.out; omega
        case rel => have := HM.out; exact ⟨k + 1, by go_num, by omega, by omega, K3, hall2⟩
    · obtain rfl : k = l := by omega
      obtain rfl : p = true := by
        cases p
        · have m := HP.out
          simp at m
          exact absurd ⟨by omega, by omega, hall.out⟩ m
        · rfl
      go_wp2
      go_ret
      exact ⟨rfl, KK.out⟩

set_option maxHeartbeats 1000000 in
theorem check_gen (n0 n1 n2 n3 n4 n5 n6 n7 : Int) (x : Option Addr) (l c : Nat) (S : Nat → Sh) (r : Int) (w : World) (hS : l ≤ 8 → Shps w x l S) (hr : Checks n0 n1 n2 n3 n4 n5 n6 n7 l S r) :
    Calls Try.prog 12 #[.agg #[.int .i64 n0, .int .i64 n1, .int .i64 n2, .int .i64 n3, .int .i64 n4, .int .i64 n5, .int .i64 n6, .int .i64 n7, .slice x l c]] w fun e w' => e = .returned (.int .i64 r) ∧ Kept w w' := by
  obtain ⟨q0, h0⟩ := bool_iff ((4 ≤ n0 ∧ n0 ≤ 1024) ∧ (0 ≤ n1 ∧ n1 ≤ 2048) ∧ (0 ≤ n2 ∧ n2 ≤ 8) ∧ (1 ≤ n6 ∧ n6 ≤ 256) ∧ (0 ≤ n7 ∧ n7 ≤ n0))
  obtain ⟨q1, h1⟩ := bool_iff ((1 ≤ n3 ∧ n3 ≤ 16) ∧ (1 ≤ n4 ∧ n4 ≤ 8) ∧ (0 ≤ n5 ∧ n5 ≤ 8) ∧ n3 * n5 ≤ n0)
  obtain ⟨q2, h2⟩ := bool_iff (Mays l S)
  have C0 : Hid (∀ w, _) := fun w => heap_fits n0 n1 n2 n3 n4 n5 n6 n7 x l c q0 w h0
  have C1 : Hid (∀ w, _) := fun w => threads_fit n0 n1 n2 n3 n4 n5 n6 n7 x l c q1 w h1
  have C2 : Hid (∀ w', Kept w w' → _) := fun w' k => shapes_may x l c S q2 w' (fun h => (hS h).kept k) h2
  have hr : r = if q0 && q1 then (if q2 then 0 else 4) else 1 := by
    by_cases hf : Fits n0 n1 n2 n3 n4 n5 n6 n7
    · obtain ⟨f0, f1, f2, f3, f4, f5, f6, f7, f8⟩ := id hf
      obtain rfl : q0 = true := h0.2 ⟨f0, f1, f2, f3, f4⟩
      obtain rfl : q1 = true := h1.2 ⟨f5, f6, f7, f8⟩
      by_cases m : Mays l S
      · obtain rfl : q2 = true := h2.2 m
        exact hr.ok hf m
      · obtain rfl : q2 = false := by
          cases q2
          · rfl
          · exact absurd (h2.1 rfl) m
        exact hr.kind hf m
    · have : (q0 && q1) = false := by
        cases hq : (q0 && q1)
        · rfl
        · rw [Bool.and_eq_true] at hq
          obtain ⟨f0, f1, f2, f3, f4⟩ := h0.1 hq.1
          obtain ⟨f5, f6, f7, f8⟩ := h1.1 hq.2
          exact absurd ⟨f0, f1, f2, f3, f4, f5, f6, f7, f8⟩ hf
      rw [this]
      exact hr.out hf
  subst hr
  clear h0 h1 h2 hS
  go_enter Try.func12, Try.ntmps12
  go_wp2_with fail
  refine (C0.out _).mono ?_
  rintro e w1 ⟨rfl, K1⟩
  cases q0
  · go_wp2
    go_ret
    exact ⟨rfl, K1.ofAlloc⟩
  have c0 := K1.own 0
  have c1 := K1.own 1
  have c2 := K1.own 2
  have c3 := K1.own 3
  have c4 := K1.own 4
  have c5 := K1.own 5
  have c6 := K1.own 6
  have c7 := K1.own 7
  have c8 := K1.own 8
  simp only [List.getElem?_toArray, List.getElem?_cons_zero, List.getElem?_cons_succ] at c0 c1 c2 c3 c4 c5 c6 c7 c8
  have KK : Hid (Kept _ w1) := K1
  clear K1
  go_wp2_with fail
  refine (C1.out _).mono ?_
  rintro e w2 ⟨rfl, K2⟩
  have K3 : Hid (Kept _ w2) := KK.out.trans K2
  clear K2 c0 c1 c2 c3 c4 c5 c6 c7 c8 KK
  cases q1
  · go_wp2
    go_ret
    exact ⟨rfl, K3.out.ofAlloc⟩
  have c8 := K3.out.own 8
  simp only [List.getElem?_toArray, List.getElem?_cons_zero, List.getElem?_cons_succ] at c8
  go_wp2_with fail
  refine (C2.out _ K3.out.ofAlloc).mono ?_
  rintro e w4 ⟨rfl, K4⟩
  have K5 : Hid (Kept w w4) := K3.out.ofAlloc.trans K4
  clear K4 c8 K3
  cases q2
  · go_wp2
    go_ret
    exact ⟨rfl, K5.out⟩
  · go_wp2
    go_ret
    exact ⟨rfl, K5.out⟩

theorem check_any (n0 n1 n2 n3 n4 n5 n6 n7 : Int) (x : Option Addr) (l c : Nat) (S : Nat → Sh) (r : Int) (w : World) (hS : Shps w x l S) (hr : Checks n0 n1 n2 n3 n4 n5 n6 n7 l S r) :
    Calls Try.prog 12 #[.agg #[.int .i64 n0, .int .i64 n1, .int .i64 n2, .int .i64 n3, .int .i64 n4, .int .i64 n5, .int .i64 n6, .int .i64 n7, .slice x l c]] w fun e w' => e = .returned (.int .i64 r) ∧ Kept w w' :=
  check_gen n0 n1 n2 n3 n4 n5 n6 n7 x l c S r w (fun _ => hS) hr
/-- Too many shapes: whatever they are. -/
theorem check_many (n0 n1 n2 n3 n4 n5 n6 n7 : Int) (x : Option Addr) (l c : Nat) (w : World) (hf : Fits n0 n1 n2 n3 n4 n5 n6 n7) (hl : 8 < l) :
    Calls Try.prog 12 #[.agg #[.int .i64 n0, .int .i64 n1, .int .i64 n2, .int .i64 n3, .int .i64 n4, .int .i64 n5, .int .i64 n6, .int .i64 n7, .slice x l c]] w fun e w' => e = .returned (.int .i64 4) ∧ Kept w w' :=
  check_gen n0 n1 n2 n3 n4 n5 n6 n7 x l c (fun _ => ⟨false, none, 0, 0⟩) 4 w (fun h => by omega) (Checks.of_kind hf fun m => by have := m.2.1; omega)

end Go.Proofs.Ytahpnnjemjjfhaa
