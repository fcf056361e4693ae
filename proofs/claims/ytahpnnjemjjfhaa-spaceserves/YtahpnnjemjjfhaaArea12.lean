/-
  Contracts of package area (chapter 5), over conf.Check's.
-/
import Derived.Test.YtahpnnjemjjfhaaFew12
import Derived.OwnWalk
namespace Go.Proofs.Ytahpnnjemjjfhaa
open Go.RowKit

/-- A configuration that may be. -/
def Good (n0 n1 n2 n3 n4 n5 n6 n7 : Int) (l : Nat) (S : Nat → Sh) : Prop := Fits n0 n1 n2 n3 n4 n5 n6 n7 ∧ Mays l S

/-- An address and its error: u and 0 where there is one, else 0 and 1. -/
structure At (P : Prop) (u v r : Int) : Prop where
  yes : P → v = u ∧ r = 0
  no : ¬ P → v = 0 ∧ r = 1
theorem At.some (P : Prop) (u : Int) : ∃ v r, At P u v r := by
  by_cases h : P
  · exact ⟨u, 0, fun _ => ⟨rfl, rfl⟩, fun n => absurd h n⟩
  · exact ⟨0, 1, fun y => absurd y h, fun _ => ⟨rfl, rfl⟩⟩
theorem At.is {P : Prop} (u : Int) (h : P) : At P u u 0 := ⟨fun _ => ⟨rfl, rfl⟩, fun n => absurd h n⟩
theorem At.not {P : Prop} (u : Int) (h : ¬ P) : At P u 0 1 := ⟨fun y => absurd y h, fun _ => ⟨rfl, rfl⟩⟩
theorem At.one {P : Prop} {u v r : Int} (h : At P u v r) : r = 0 ∨ r = 1 := by
  by_cases p : P
  · exact .inl (h.yes p).2
  · exact .inr (h.no p).2

/-- A number, 0 where there is none. -/
structure Is (P : Prop) (u v : Int) : Prop where
  yes : P → v = u
  no : ¬ P → v = 0
theorem Is.some (P : Prop) (u : Int) : ∃ v, Is P u v := by
  by_cases h : P
  · exact ⟨u, fun _ => rfl, fun n => absurd h n⟩
  · exact ⟨0, fun y => absurd y h, fun _ => rfl⟩
theorem Is.is {P : Prop} (u : Int) (h : P) : Is P u u := ⟨fun _ => rfl, fun n => absurd h n⟩

/-- What an address is of. -/
structure OfIs (P : Prop) (n0 n1 n2 a r i k : Int) : Prop where
  no : ¬ (P ∧ 0 ≤ a ∧ a < 8 * n0 + 2 * n1 + n2) → r = 0 ∧ i = 0 ∧ k = 0
  frag : P → 0 ≤ a → a < 8 * n0 → r = 1 ∧ i = a / 8 ∧ k = a % 8
  sp0 : P → 8 * n0 ≤ a → a < 8 * n0 + n1 → r = 2 ∧ i = 0 ∧ k = a - 8 * n0
  sp1 : P → 8 * n0 + n1 ≤ a → a < 8 * n0 + 2 * n1 → r = 3 ∧ i = 0 ∧ k = a - 8 * n0 - n1
  glob : P → 8 * n0 + 2 * n1 ≤ a → a < 8 * n0 + 2 * n1 + n2 → r = 4 ∧ i = 0 ∧ k = a - 8 * n0 - 2 * n1
theorem OfIs.some {n0 n1 n2 n3 n4 n5 n6 n7 : Int} {l : Nat} {S : Nat → Sh} (a : Int) : ∃ r i k, OfIs (Good n0 n1 n2 n3 n4 n5 n6 n7 l S) n0 n1 n2 a r i k := by
  by_cases h : Good n0 n1 n2 n3 n4 n5 n6 n7 l S ∧ 0 ≤ a ∧ a < 8 * n0 + 2 * n1 + n2
  · obtain ⟨hg, h0, h1⟩ := h
    obtain ⟨⟨f0, f1, f2, _⟩, _⟩ := id hg
    by_cases g0 : a < 8 * n0
    · exact ⟨1, a / 8, a % 8, fun n => absurd ⟨hg, h0, h1⟩ n, fun _ _ _ => ⟨rfl, rfl, rfl⟩, fun _ _ _ => by omega, fun _ _ _ => by omega, fun _ _ _ => by omega⟩
    · by_cases g1 : a < 8 * n0 + n1
      · exact ⟨2, 0, a - 8 * n0, fun n => absurd ⟨hg, h0, h1⟩ n, fun _ _ _ => by omega, fun _ _ _ => ⟨rfl, rfl, rfl⟩, fun _ _ _ => by omega, fun _ _ _ => by omega⟩
      · by_cases g2 : a < 8 * n0 + 2 * n1
        · exact ⟨3, 0, a - 8 * n0 - n1, fun n => absurd ⟨hg, h0, h1⟩ n, fun _ _ _ => by omega, fun _ _ _ => by omega, fun _ _ _ => ⟨rfl, rfl, rfl⟩, fun _ _ _ => by omega⟩
        · exact ⟨4, 0, a - 8 * n0 - 2 * n1, fun n => absurd ⟨hg, h0, h1⟩ n, fun _ _ _ => by omega, fun _ _ _ => by omega, fun _ _ _ => by omega, fun _ _ _ => ⟨rfl, rfl, rfl⟩⟩
  · refine ⟨0, 0, 0, fun _ => ⟨rfl, rfl, rfl⟩, ?_, ?_, ?_, ?_⟩ <;>
    · intro hg h0 h1
      obtain ⟨⟨f0, f1, f2, _⟩, _⟩ := id hg
      exact absurd ⟨hg, by omega, by omega⟩ h


set_option maxHeartbeats 400000 in
theorem area_may (n0 n1 n2 n3 n4 n5 n6 n7 : Int) (x : Option Addr) (l c : Nat) (S : Nat → Sh) (p : Bool) (w : World) (hS : Shps w x l S) (hp : p = true ↔ Good n0 n1 n2 n3 n4 n5 n6 n7 l S) :
    Calls Try.prog 100 #[.agg #[.int .i64 n0, .int .i64 n1, .int .i64 n2, .int .i64 n3, .int .i64 n4, .int .i64 n5, .int .i64 n6, .int .i64 n7, .slice x l c]] w fun e w' => e = .returned (.bool p) ∧ Kept w w' := by
  obtain ⟨r, hr, _⟩ := Checks.some n0 n1 n2 n3 n4 n5 n6 n7 l S
  have C : Hid (∀ w, Shps w x l S → _) := fun w h => check_any n0 n1 n2 n3 n4 n5 n6 n7 x l c S r w h hr
  have hb : (r == 0) = p := by
    rw [Bool.eq_iff_iff, hp, beq_iff_eq]
    exact ⟨fun e => Checks.zero (e ▸ hr), fun g => hr.ok g.1 g.2⟩
  have HS : Hid (Shps w x l S) := hS
  have HB : Hid ((r == 0) = p) := hb
  clear hS hr hp hb
  go_enter Try.func100, Try.ntmps100
  go_wp2_with fail
  refine (C.out _ (HS.out.kept ((Kept.refl w).alloc _ _))).mono ?_
  rintro e w2 ⟨rfl, K⟩
  have K2 : Hid (Kept w w2) := K.ofAlloc
  clear K C HS
  go_wp2
  go_ret
  exact ⟨by rw [HB.out]; rfl, K2.out⟩

set_option maxHeartbeats 400000 in
theorem among_any (n m : Int) (p : Bool) (w : World) (hp : p = true ↔ 0 ≤ n ∧ n < m) :
    Calls Try.prog 101 #[.int .i64 n, .int .i64 m] w fun e w' => e = .returned (.bool p) ∧ w' = w := by
  by_cases h1 : 0 ≤ n
  · by_cases h2 : n < m
    · obtain rfl : p = true := hp.2 ⟨h1, h2⟩
      clear hp
      go_enter Try.func101, Try.ntmps101
      go_wp2
      go_ret
      exact ⟨rfl, rfl⟩
    · obtain rfl : p = false := by
        cases p
        · rfl
        · have := hp.1 rfl
          omega
      clear hp
      go_enter Try.func101, Try.ntmps101
      go_wp2
      go_ret
      exact ⟨rfl, rfl⟩
  · obtain rfl : p = false := by
      cases p
      · rfl
      · have := hp.1 rfl
        omega
    clear hp
    go_enter Try.func101, Try.ntmps101
    go_wp2
    go_ret
    exact ⟨rfl, rfl⟩

theorem mul_few {s n : Int} (hs : 0 ≤ s ∧ s ≤ 2) (hn : 0 ≤ n ∧ n ≤ 2048) : 0 ≤ s * n ∧ s * n ≤ 4096 :=
  ⟨Int.mul_nonneg hs.1 hn.1, Int.le_trans (Int.mul_le_mul hs.2 hn.2 hn.1 (by omega)) (by omega)⟩

set_option maxHeartbeats 400000 in
theorem spine_from (n0 n1 n2 n3 n4 n5 n6 n7 : Int) (x : Option Addr) (l c : Nat) (s u : Int) (w : World) (f0 : 4 ≤ n0 ∧ n0 ≤ 1024) (f1 : 0 ≤ n1 ∧ n1 ≤ 2048) (hs : 0 ≤ s ∧ s ≤ 2) (hu : n0 * 8 + s * n1 = u) :
    Calls Try.prog 102 #[.agg #[.int .i64 n0, .int .i64 n1, .int .i64 n2, .int .i64 n3, .int .i64 n4, .int .i64 n5, .int .i64 n6, .int .i64 n7, .slice x l c], .int .i64 s] w fun e w' => e = .returned (.int .i64 u) ∧ Kept w w' := by
  subst hu
  obtain ⟨m0, m1⟩ := mul_few hs f1
  obtain ⟨a0, a1⟩ := f0
  obtain ⟨a2, a3⟩ := f1
  obtain ⟨a4, a5⟩ := hs
  go_enter Try.func102, Try.ntmps102
  go_wp2
  go_ret
  exact ⟨rfl, (Kept.refl _).alloc _ _⟩

end Go.Proofs.Ytahpnnjemjjfhaa
