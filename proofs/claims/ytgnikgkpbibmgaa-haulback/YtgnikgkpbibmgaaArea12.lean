/-
  Contracts of package area (chapter 5), over conf.Check's.
-/
import Derived.Test.YtgnikgkpbibmgaaFew12
import Derived.OwnWalk
namespace Go.Proofs.Ytgnikgkpbibmgaa
open Go.RowKit

/-- A configuration that may be. -/
def Good (n0 n1 n2 n3 n4 n5 n6 n7 : Int) (l : Nat) (S : Nat → Sh) : Prop := Fits n0 n1 n2 n3 n4 n5 n6 n7 ∧ Mays l S

/-- An address and its error: u and 0 where there is one, else 0 and 1. -/
structure At (P : Prop) (u v r : Int) : Prop where
  yes : P → v = u ∧ r = 0
  no : ¬ P → v = 0 ∧ r = 1
theorem At.some (P : Prop) (u : Int) : ∃ v r, At P u v r := by
  by_cases h : P
  · exact ⟨u, 0, fun _ => ⟨rfl, rfl⟩, fun n => absurd h n⟩
  · exact ⟨0, 1, fun y => absurd y h, fun _ => ⟨rfl, rfl⟩⟩
theorem At.is {P : Prop} (u : Int) (h : P) : At P u u 0 := ⟨fun _ => ⟨rfl, rfl⟩, fun n => absurd h n⟩
theorem At.not {P : Prop} (u : Int) (h : ¬ P) : At P u 0 1 := ⟨fun y => absurd y h, fun _ => ⟨rfl, rfl⟩⟩
theorem At.one {P : Prop} {u v r : Int} (h : At P u v r) : r = 0 ∨ r = 1 := by
  by_cases p : P
  · exact .inl (h.yes p).2
  · exact .inr (h.no p).2

/-- A number, 0 where there is none. -/
structure Is (P : Prop) (u v : Int) : Prop where
  yes : P → v = u
  no : ¬ P → v = 0
theorem Is.some (P : Prop) (u : Int) : ∃ v, Is P u v := by
  by_cases h : P
  · exact ⟨u, fun _ => rfl, fun n => absurd h n⟩
  · exact ⟨0, fun y => absurd y h, fun _ => rfl⟩
theorem Is.is {P : Prop} (u : Int) (h : P) : Is P u u := ⟨fun _ => rfl, fun n => absurd h n⟩

/-- What an address is of. -/
structure OfIs (P : Prop) (n0 n1 n2 a r i k : Int) : Prop where
  no : ¬ (P ∧ 0 ≤ a ∧ a < 8 * n0 + 2 * n1 + n2) → r = 0 ∧ i = 0 ∧ k = 0
  frag : P → 0 ≤ a → a < 8 * n0 → r = 1 ∧ i = a / 8 ∧ k = a % 8
  sp0 : P → 8 * n0 ≤ a → a < 8 * n0 + n1 → r = 2 ∧ i = 0 ∧ k = a - 8 * n0
  sp1 : P → 8 * n0 + n1 ≤ a → a < 8 * n0 + 2 * n1 → r = 3 ∧ i = 0 ∧ k = a - 8 * n0 - n1
  glob : P → 8 * n0 + 2 * n1 ≤ a → a < 8 * n0 + 2 * n1 + n2 → r = 4 ∧ i = 0 ∧ k = a - 8 * n0 - 2 * n1
theorem OfIs.some {n0 n1 n2 n3 n4 n5 n6 n7 : Int} {l : Nat} {S : Nat → Sh} (a : Int) : ∃ r i k, OfIs (Good n0 n1 n2 n3 n4 n5 n6 n7 l S) n0 n1 n2 a r i k := by
  by_cases h : Good n0 n1 n2 n3 n4 n5 n6 n7 l S ∧ 0 ≤ a ∧ a < 8 * n0 + 2 * n1 + n2
  · obtain ⟨hg, h0, h1⟩ := h
    obtain ⟨⟨f0, f1, f2, _⟩, _⟩ := id hg
    by_cases g0 : a < 8 * n0
    · exact ⟨1, a / 8, a % 8, fun n => absurd ⟨hg, h0, h1⟩ n, fun _ _ _ => ⟨rfl, rfl, rfl⟩, fun _ _ _ => by omega, fun _ _ _ => by omega, fun _ _ _ => by omega⟩
    · by_cases g1 : a < 8 * n0 + n1
      · exact ⟨2, 0, a - 8 * n0, fun n => absurd ⟨hg, h0, h1⟩ n, fun _ _ _ => by omega, fun _ _ _ => ⟨rfl, rfl, rfl⟩, fun _ _ _ => by omega, fun _ _ _ => by omega⟩
      · by_cases g2 : a < 8 * n0 + 2 * n1
        · exact ⟨3, 0, a - 8 * n0 - n1, fun n => absurd ⟨hg, h0, h1⟩ n, fun _ _ _ => by omega, fun _ _ _ => by omega, fun _ _ _ => ⟨rfl, rfl, rfl⟩, fun _ _ _ => by omega⟩
        · exact ⟨4, 0, a - 8 * n0 - 2 * n1, fun n => absurd ⟨hg, h0, h1⟩ n, fun _ _ _ => by omega, fun _ _ _ => by omega, fun _ _ _ => by omega, fun _ _ _ => ⟨rfl, rfl, rfl⟩⟩
  · refine ⟨0, 0, 0, fun _ => ⟨rfl, rfl, rfl⟩, ?_, ?_, ?_, ?_⟩ <;>
    · intro hg h0 h1
      obtain ⟨⟨f0, f1, f2, _⟩, _⟩ := id hg
      exact absurd ⟨hg, by omega, by omega⟩ h


set_option maxHeartbeats 400000 in
theorem area_may (n0 n1 n2 n3 n4 n5 n6 n7 : Int) (x : Option Addr) (l c : Nat) (S : Nat → Sh) (p : Bool) (w : World) (hS : Shps w x l S) (hp : p = true ↔ Good n0 n1 n2 n3 n4 n5 n6 n7 l S) :
    Calls Try.prog 83 #[.agg #[.int .i64 n0, .int .i64 n1, .int .i64 n2, .int .i64 n3, .int .i64 n4, .int .i64 n5, .int .i64 n6, .int .i64 n7, .slice x l c]] w fun e w' => e = .returned (.bool p) ∧ Kept w w' := by
  obtain ⟨r, hr, _⟩ := Checks.some n0 n1 n2 n3 n4 n5 n6 n7 l S
  have C : Hid (∀ w, Shps w x l S → _) := fun w h => check_any n0 n1 n2 n3 n4 n5 n6 n7 x l c S r w h hr
  have hb : (r == 0) = p := by
    rw [Bool.eq_iff_iff, hp, beq_iff_eq]
    exact ⟨fun e => Checks.zero (e ▸ hr), fun g => hr.ok g.1 g.2⟩
  have HS : Hid (Shps w x l S) := hS
  have HB : Hid ((r == 0) = p) := hb
  clear hS hr hp hb
  go_enter Try.func83, Try.ntmps83
  go_wp2_with fail
  refine (C.out _ (HS.out.kept ((Kept.refl w).alloc _ _))).mono ?_
  rintro e w2 ⟨rfl, K⟩
  have K2 : Hid (Kept w w2) := K.ofAlloc
  clear K C HS
  go_wp2
  go_ret
  exact ⟨by rw [HB.out]; rfl, K2.out⟩

set_option maxHeartbeats 400000 in
theorem among_any (n m : Int) (p : Bool) (w : World) (hp : p = true ↔ 0 ≤ n ∧ n < m) :
    Calls Try.prog 84 #[.int .i64 n, .int .i64 m] w fun e w' => e = .returned (.bool p) ∧ w' = w := by
  by_cases h1 : 0 ≤ n
  · by_cases h2 : n < m
    · obtain rfl : p = true := hp.2 ⟨h1, h2⟩
      clear hp
      go_enter Try.func84, Try.ntmps84
      go_wp2
      go_ret
      exact ⟨rfl, rfl⟩
    · obtain rfl : p = false := by
        cases p
        · rfl
        · have := hp.1 rfl
          omega
      clear hp
      go_enter Try.func84, Try.ntmps84
      go_wp2
      go_ret
      exact ⟨rfl, rfl⟩
  · obtain rfl : p = false := by
      cases p
      · rfl
      · have := hp.1 rfl
        omega
    clear hp
    go_enter Try.func84, Try.ntmps84
    go_wp2
    go_ret
    exact ⟨rfl, rfl⟩

theorem mul_few {s n : Int} (hs : 0 ≤ s ∧ s ≤ 2) (hn : 0 ≤ n ∧ n ≤ 2048) : 0 ≤ s * n ∧ s * n ≤ 4096 :=
  ⟨Int.mul_nonneg hs.1 hn.1, Int.le_trans (Int.mul_le_mul hs.2 hn.2 hn.1 (by omega)) (by omega)⟩

set_option maxHeartbeats 400000 in
theorem spine_from (n0 n1 n2 n3 n4 n5 n6 n7 : Int) (x : Option Addr) (l c : Nat) (s u : Int) (w : World) (f0 : 4 ≤ n0 ∧ n0 ≤ 1024) (f1 : 0 ≤ n1 ∧ n1 ≤ 2048) (hs : 0 ≤ s ∧ s ≤ 2) (hu : n0 * 8 + s * n1 = u) :
    Calls Try.prog 85 #[.agg #[.int .i64 n0, .int .i64 n1, .int .i64 n2, .int .i64 n3, .int .i64 n4, .int .i64 n5, .int .i64 n6, .int .i64 n7, .slice x l c], .int .i64 s] w fun e w' => e = .returned (.int .i64 u) ∧ Kept w w' := by
  subst hu
  obtain ⟨m0, m1⟩ := mul_few hs f1
  obtain ⟨a0, a1⟩ := f0
  obtain ⟨a2, a3⟩ := f1
  obtain ⟨a4, a5⟩ := hs
  go_enter Try.func85, Try.ntmps85
  go_wp2
  go_ret
  exact ⟨rfl, (Kept.refl _).alloc _ _⟩

set_option maxHeartbeats 1000000 in
theorem frag_any (n0 n1 n2 n3 n4 n5 n6 n7 : Int) (x : Option Addr) (l c : Nat) (S : Nat → Sh) (i k v r : Int) (w : World) (hS : Shps w x l S) (h : At (Good n0 n1 n2 n3 n4 n5 n6 n7 l S ∧ (0 ≤ i ∧ i < n0) ∧ (0 ≤ k ∧ k < 8)) (i * 8 + k) v r) :
    Calls Try.prog 73 #[.agg #[.int .i64 n0, .int .i64 n1, .int .i64 n2, .int .i64 n3, .int .i64 n4, .int .i64 n5, .int .i64 n6, .int .i64 n7, .slice x l c], .int .i64 i, .int .i64 k] w fun e w' => e = .returned (.tuple #[.int .i64 v, .int .i64 r]) ∧ Kept w w' := by
  obtain ⟨p, hp⟩ := bool_iff (Good n0 n1 n2 n3 n4 n5 n6 n7 l S)
  obtain ⟨q0, h0⟩ := bool_iff (0 ≤ i ∧ i < n0)
  obtain ⟨q1, h1⟩ := bool_iff (0 ≤ k ∧ k < 8)
  have C : Hid (∀ w, Shps w x l S → _) := fun w h => area_may n0 n1 n2 n3 n4 n5 n6 n7 x l c S p w h hp
  have C0 : Hid (∀ w, Calls Try.prog 84 #[.int .i64 i, .int .i64 n0] w _) := fun w => among_any i n0 q0 w h0
  have C1 : Hid (∀ w, Calls Try.prog 84 #[.int .i64 k, .int .i64 8] w _) := fun w => among_any k 8 q1 w h1
  have HS : Hid (Shps w x l S) := hS
  have HP : Hid (p = true ↔ Good n0 n1 n2 n3 n4 n5 n6 n7 l S) := hp
  have H : Hid (At (Good n0 n1 n2 n3 n4 n5 n6 n7 l S ∧ (0 ≤ i ∧ i < n0) ∧ (0 ≤ k ∧ k < 8)) (i * 8 + k) v r) := h
  have H0 : Hid (q0 = true ↔ 0 ≤ i ∧ i < n0) := h0
  have H1 : Hid (q1 = true ↔ 0 ≤ k ∧ k < 8) := h1
  clear hS hp h h0 h1
  go_enter Try.func73, Try.ntmps73
  go_wp2_with fail
  generalize hW1 : w.alloc _ = W1
  have B1 : Hid (Blk W1 w.heap.size (cl n0 n1 n2 n3 n4 n5 n6 n7 (.slice x l c))) := by rw [← hW1]; exact Blk.new w _ _
  have K1 : Hid (Kept w W1) := by rw [← hW1]; exact (Kept.refl w).alloc _ _
  clear hW1
  refine (C.out _ (HS.out.kept K1.out)).mono ?_
  rintro e w2 ⟨rfl, K⟩
  have B2 : Hid (Blk w2 w.heap.size _) := B1.out.kept K
  have K2 : Hid (Kept w w2) := K1.out.trans K
  clear K B1 K1 C HS
  cases p
  · obtain ⟨rfl, rfl⟩ := H.out.no (fun g => absurd (HP.out.2 g.1) (by simp))
    go_wp2
    go_ret2
    exact ⟨rfl, K2.out⟩
  have c0 := B2.out.at 0 rfl
  have c1 := B2.out.at 1 rfl
  have c2 := B2.out.at 2 rfl
  have c3 := B2.out.at 3 rfl
  have c4 := B2.out.at 4 rfl
  have c5 := B2.out.at 5 rfl
  have c6 := B2.out.at 6 rfl
  have c7 := B2.out.at 7 rfl
  have c8 := B2.out.at 8 rfl
  go_wp2_with fail
  refine (C0.out _).mono ?_
  rintro e w' ⟨rfl, rfl⟩
  cases q0
  · obtain ⟨rfl, rfl⟩ := H.out.no (fun g => absurd (H0.out.2 g.2.1) (by simp))
    go_wp2
    go_ret2
    exact ⟨rfl, K2.out⟩
  go_wp2_with fail
  refine (C1.out _).mono ?_
  rintro e w' ⟨rfl, rfl⟩
  cases q1
  · obtain ⟨rfl, rfl⟩ := H.out.no (fun g => absurd (H1.out.2 g.2.2) (by simp))
    go_wp2
    go_ret2
    exact ⟨rfl, K2.out⟩
  have g : Good n0 n1 n2 n3 n4 n5 n6 n7 l S := by have := HP.out; simpa using this
  have g0 : 0 ≤ i ∧ i < n0 := by have := H0.out; simpa using this
  have g1 : 0 ≤ k ∧ k < 8 := by have := H1.out; simpa using this
  obtain ⟨rfl, rfl⟩ := H.out.yes ⟨g, g0, g1⟩
  obtain ⟨⟨⟨a0, a1⟩, ⟨a2, a3⟩, ⟨a4, a5⟩, _⟩, _⟩ := g
  obtain ⟨b0, e0⟩ := g0
  obtain ⟨b1, e1⟩ := g1
  clear H HP H0 C0 H1 C1
  go_wp2
  go_ret2
  exact ⟨by (first | rfl | (congr 4; omega) | (simp; omega)), K2.out⟩


end Go.Proofs.Ytgnikgkpbibmgaa
