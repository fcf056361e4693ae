/-
  Contracts of package area (chapter 5), over conf.Check's.
-/
import Derived.Test.YtpdclckgnajcdaaGreatFew12
import Derived.OwnWalk
namespace Go.Proofs.YtpdclckgnajcdaaGreat
open Go.RowKit

/-- A configuration that may be. -/
def Good (n0 n1 n2 n3 n4 n5 n6 n7 : Int) (l : Nat) (S : Nat → Sh) : Prop := Fits n0 n1 n2 n3 n4 n5 n6 n7 ∧ Mays l S

/-- An address and its error: u and 0 where there is one, else 0 and 1. -/
structure At (P : Prop) (u v r : Int) : Prop where
  yes : P → v = u ∧ r = 0
  no : ¬ P → v = 0 ∧ r = 1
theorem At.some (P : Prop) (u : Int) : ∃ v r, At P u v r := by
  by_cases h : P
  · exact ⟨u, 0, fun _ => ⟨rfl, rfl⟩, fun n => absurd h n⟩
  · exact ⟨0, 1, fun y => absurd y h, fun _ => ⟨rfl, rfl⟩⟩
theorem At.is {P : Prop} (u : Int) (h : P) : At P u u 0 := ⟨fun _ => ⟨rfl, rfl⟩, fun n => absurd h n⟩
theorem At.not {P : Prop} (u : Int) (h : ¬ P) : At P u 0 1 := ⟨fun y => absurd y h, fun _ => ⟨rfl, rfl⟩⟩
theorem At.one {P : Prop} {u v r : Int} (h : At P u v r) : r = 0 ∨ r = 1 := by
  by_cases p : P
  · exact .inl (h.yes p).2
  · exact .inr (h.no p).2

/-- A number, 0 where there is none. -/
structure Is (P : Prop) (u v : Int) : Prop where
  yes : P → v = u
  no : ¬ P → v = 0
theorem Is.some (P : Prop) (u : Int) : ∃ v, Is P u v := by
  by_cases h : P
  · exact ⟨u, fun _ => rfl, fun n => absurd h n⟩
  · exact ⟨0, fun y => absurd y h, fun _ => rfl⟩
theorem Is.is {P : Prop} (u : Int) (h : P) : Is P u u := ⟨fun _ => rfl, fun n => absurd h n⟩

/-- What an address is of. -/
structure OfIs (P : Prop) (n0 n1 n2 a r i k : Int) : Prop where
  no : ¬ (P ∧ 0 ≤ a ∧ a < 8 * n0 + 2 * n1 + n2) → r = 0 ∧ i = 0 ∧ k = 0
  frag : P → 0 ≤ a → a < 8 * n0 → r = 1 ∧ i = a / 8 ∧ k = a % 8
  sp0 : P → 8 * n0 ≤ a → a < 8 * n0 + n1 → r = 2 ∧ i = 0 ∧ k = a - 8 * n0
  sp1 : P → 8 * n0 + n1 ≤ a → a < 8 * n0 + 2 * n1 → r = 3 ∧ i = 0 ∧ k = a - 8 * n0 - n1
  glob : P → 8 * n0 + 2 * n1 ≤ a → a < 8 * n0 + 2 * n1 + n2 → r = 4 ∧ i = 0 ∧ k = a - 8 * n0 - 2 * n1
theorem OfIs.some {n0 n1 n2 n3 n4 n5 n6 n7 : Int} {l : Nat} {S : Nat → Sh} (a : Int) : ∃ r i k, OfIs (Good n0 n1 n2 n3 n4 n5 n6 n7 l S) n0 n1 n2 a r i k := by
  by_cases h : Good n0 n1 n2 n3 n4 n5 n6 n7 l S ∧ 0 ≤ a ∧ a < 8 * n0 + 2 * n1 + n2
  · obtain ⟨hg, h0, h1⟩ := h
    obtain ⟨⟨f0, f1, f2, _⟩, _⟩ := id hg
    by_cases g0 : a < 8 * n0
    · exact ⟨1, a / 8, a % 8, fun n => absurd ⟨hg, h0, h1⟩ n, fun _ _ _ => ⟨rfl, rfl, rfl⟩, fun _ _ _ => by omega, fun _ _ _ => by omega, fun _ _ _ => by omega⟩
    · by_cases g1 : a < 8 * n0 + n1
      · exact ⟨2, 0, a - 8 * n0, fun n => absurd ⟨hg, h0, h1⟩ n, fun _ _ _ => by omega, fun _ _ _ => ⟨rfl, rfl, rfl⟩, fun _ _ _ => by omega, fun _ _ _ => by omega⟩
      · by_cases g2 : a < 8 * n0 + 2 * n1
        · exact ⟨3, 0, a - 8 * n0 - n1, fun n => absurd ⟨hg, h0, h1⟩ n, fun _ _ _ => by omega, fun _ _ _ => by omega, fun _ _ _ => ⟨rfl, rfl, rfl⟩, fun _ _ _ => by omega⟩
        · exact ⟨4, 0, a - 8 * n0 - 2 * n1, fun n => absurd ⟨hg, h0, h1⟩ n, fun _ _ _ => by omega, fun _ _ _ => by omega, fun _ _ _ => by omega, fun _ _ _ => ⟨rfl, rfl, rfl⟩⟩
  · refine ⟨0, 0, 0, fun _ => ⟨rfl, rfl, rfl⟩, ?_, ?_, ?_, ?_⟩ <;>
    · intro hg h0 h1
      obtain ⟨⟨f0, f1, f2, _⟩, _⟩ := id hg
      exact absurd ⟨hg, by omega, by omega⟩ h


set_option maxHeartbeats 400000 in
theorem area_may (n0 n1 n2 n3 n4 n5 n6 n7 : Int) (x : Option Addr) (l c : Nat) (S : Nat → Sh) (p : Bool) (w : World) (hS : Shps w x l S) (hp : p = true ↔ Good n0 n1 n2 n3 n4 n5 n6 n7 l S) :
    Calls Tryz.prog 68 #[.agg #[.int .i64 n0, .int .i64 n1, .int .i64 n2, .int .i64 n3, .int .i64 n4, .int .i64 n5, .int .i64 n6, .int .i64 n7, .slice x l c]] w fun e w' => e = .returned (.bool p) ∧ Kept w w' := by
  obtain ⟨r, hr, _⟩ := Checks.some n0 n1 n2 n3 n4 n5 n6 n7 l S
  have C : Hid (∀ w, Shps w x l S → _) := fun w h => check_any n0 n1 n2 n3 n4 n5 n6 n7 x l c S r w h hr
  have hb : (r == 0) = p := by
    rw [Bool.eq_iff_iff, hp, beq_iff_eq]
    exact ⟨fun e => Checks.zero (e ▸ hr), fun g => hr.ok g.1 g.2⟩
  have HS : Hid (Shps w x l S) := hS
  have HB : Hid ((r == 0) = p) := hb
  clear hS hr hp hb
  go_enter Tryz.func68, Tryz.ntmps68
  go_wp2_with fail
  refine (C.out _ (HS.out.kept ((Kept.refl w).alloc _ _))).mono ?_
  rintro e w2 ⟨rfl, K⟩
  have K2 : Hid (Kept w w2) := K.ofAlloc
  clear K C HS
  go_wp2
  go_ret
  exact ⟨by rw [HB.out]; rfl, K2.out⟩

set_option maxHeartbeats 400000 in
theorem among_any (n m : Int) (p : Bool) (w : World) (hp : p = true ↔ 0 ≤ n ∧ n < m) :
    Calls Tryz.prog 69 #[.int .i64 n, .int .i64 m] w fun e w' => e = .returned (.bool p) ∧ w' = w := by
  by_cases h1 : 0 ≤ n
  · by_cases h2 : n < m
    · obtain rfl : p = true := hp.2 ⟨h1, h2⟩
      clear hp
      go_enter Tryz.func69, Tryz.ntmps69
      go_wp2
      go_ret
      exact ⟨rfl, rfl⟩
    · obtain rfl : p = false := by
        cases p
        · rfl
        · have := hp.1 rfl
          omega
      clear hp
      go_enter Tryz.func69, Tryz.ntmps69
      go_wp2
      go_ret
      exact ⟨rfl, rfl⟩
  · obtain rfl : p = false := by
      cases p
      · rfl
      · have := hp.1 rfl
        omega
    clear hp
    go_enter Tryz.func69, Tryz.ntmps69
    go_wp2
    go_ret
    exact ⟨rfl, rfl⟩

theorem mul_few {s n : Int} (hs : 0 ≤ s ∧ s ≤ 2) (hn : 0 ≤ n ∧ n ≤ 2048) : 0 ≤ s * n ∧ s * n ≤ 4096 :=
  ⟨Int.mul_nonneg hs.1 hn.1, Int.le_trans (Int.mul_le_mul hs.2 hn.2 hn.1 (by omega)) (by omega)⟩

set_option maxHeartbeats 400000 in
theorem spine_from (n0 n1 n2 n3 n4 n5 n6 n7 : Int) (x : Option Addr) (l c : Nat) (s u : Int) (w : World) (f0 : 4 ≤ n0 ∧ n0 ≤ 1024) (f1 : 0 ≤ n1 ∧ n1 ≤ 2048) (hs : 0 ≤ s ∧ s ≤ 2) (hu : n0 * 8 + s * n1 = u) :
    Calls Tryz.prog 88 #[.agg #[.int .i64 n0, .int .i64 n1, .int .i64 n2, .int .i64 n3, .int .i64 n4, .int .i64 n5, .int .i64 n6, .int .i64 n7, .slice x l c], .int .i64 s] w fun e w' => e = .returned (.int .i64 u) ∧ Kept w w' := by
  subst hu
  obtain ⟨m0, m1⟩ := mul_few hs f1
  obtain ⟨a0, a1⟩ := f0
  obtain ⟨a2, a3⟩ := f1
  obtain ⟨a4, a5⟩ := hs
  go_enter Tryz.func88, Tryz.ntmps88
  go_wp2
  go_ret
  exact ⟨rfl, (Kept.refl _).alloc _ _⟩

set_option maxHeartbeats 400000 in
theorem globals_from (n0 n1 n2 n3 n4 n5 n6 n7 : Int) (x : Option Addr) (l c : Nat) (w : World) (f0 : 4 ≤ n0 ∧ n0 ≤ 1024) (f1 : 0 ≤ n1 ∧ n1 ≤ 2048) :
    Calls Tryz.prog 89 #[.agg #[.int .i64 n0, .int .i64 n1, .int .i64 n2, .int .i64 n3, .int .i64 n4, .int .i64 n5, .int .i64 n6, .int .i64 n7, .slice x l c]] w fun e w' => e = .returned (.int .i64 (8 * n0 + 2 * n1)) ∧ Kept w w' := by
  have C : Hid (∀ w, _) := fun w => spine_from n0 n1 n2 n3 n4 n5 n6 n7 x l c 2 (8 * n0 + 2 * n1) w f0 f1 (by omega) (by omega)
  go_enter Tryz.func89, Tryz.ntmps89
  go_wp2_with fail
  refine (C.out _).mono ?_
  rintro e w2 ⟨rfl, K⟩
  have K2 : Hid (Kept w w2) := K.ofAlloc
  clear K C
  go_wp2
  go_ret
  exact ⟨rfl, K2.out⟩


set_option maxHeartbeats 1000000 in
theorem words_any (n0 n1 n2 n3 n4 n5 n6 n7 : Int) (x : Option Addr) (l c : Nat) (S : Nat → Sh) (v : Int) (w : World) (hS : Shps w x l S) (h : Is (Good n0 n1 n2 n3 n4 n5 n6 n7 l S) (8 * n0 + 2 * n1 + n2) v) :
    Calls Tryz.prog 87 #[.agg #[.int .i64 n0, .int .i64 n1, .int .i64 n2, .int .i64 n3, .int .i64 n4, .int .i64 n5, .int .i64 n6, .int .i64 n7, .slice x l c]] w fun e w' => e = .returned (.int .i64 v) ∧ Kept w w' := by
  obtain ⟨p, hp⟩ := bool_iff (Good n0 n1 n2 n3 n4 n5 n6 n7 l S)
  have C : Hid (∀ w, Shps w x l S → _) := fun w h => area_may n0 n1 n2 n3 n4 n5 n6 n7 x l c S p w h hp
  have HS : Hid (Shps w x l S) := hS
  have HP : Hid (p = true ↔ Good n0 n1 n2 n3 n4 n5 n6 n7 l S) := hp
  have H : Hid (Is (Good n0 n1 n2 n3 n4 n5 n6 n7 l S) (8 * n0 + 2 * n1 + n2) v) := h
  clear hS hp h
  go_enter Tryz.func87, Tryz.ntmps87
  go_wp2_with fail
  generalize hW1 : w.alloc _ = W1
  have B1 : Hid (Blk W1 w.heap.size (cl n0 n1 n2 n3 n4 n5 n6 n7 (.slice x l c))) := by rw [← hW1]; exact Blk.new w _ _
  have K1 : Hid (Kept w W1) := by rw [← hW1]; exact (Kept.refl w).alloc _ _
  clear hW1
  refine (C.out _ (HS.out.kept K1.out)).mono ?_
  rintro e w2 ⟨rfl, K⟩
  have B2 : Hid (Blk w2 w.heap.size _) := B1.out.kept K
  have K2 : Hid (Kept w w2) := K1.out.trans K
  clear K B1 K1 C HS
  cases p
  · obtain rfl := H.out.no (fun g => absurd (HP.out.2 g) (by simp))
    go_wp2
    go_ret
    exact ⟨rfl, K2.out⟩
  have g : Good n0 n1 n2 n3 n4 n5 n6 n7 l S := by have := HP.out; simpa using this
  obtain rfl := H.out.yes g
  obtain ⟨⟨⟨a0, a1⟩, ⟨a2, a3⟩, ⟨a4, a5⟩, _⟩, _⟩ := g
  clear H HP
  have G : Hid (∀ w, _) := fun w => globals_from n0 n1 n2 n3 n4 n5 n6 n7 x l c w ⟨a0, a1⟩ ⟨a2, a3⟩
  have c0 := B2.out.at 0 rfl
  have c1 := B2.out.at 1 rfl
  have c2 := B2.out.at 2 rfl
  have c3 := B2.out.at 3 rfl
  have c4 := B2.out.at 4 rfl
  have c5 := B2.out.at 5 rfl
  have c6 := B2.out.at 6 rfl
  have c7 := B2.out.at 7 rfl
  have c8 := B2.out.at 8 rfl
  go_wp2_with fail
  clear c0 c1 c2 c3 c4 c5 c6 c7 c8
  have d0 := fun z : KW w2 => z.cell B2.out.lt (B2.out.at 0 rfl)
  have d1 := fun z : KW w2 => z.cell B2.out.lt (B2.out.at 1 rfl)
  have d2 := fun z : KW w2 => z.cell B2.out.lt (B2.out.at 2 rfl)
  have d3 := fun z : KW w2 => z.cell B2.out.lt (B2.out.at 3 rfl)
  have d4 := fun z : KW w2 => z.cell B2.out.lt (B2.out.at 4 rfl)
  have d5 := fun z : KW w2 => z.cell B2.out.lt (B2.out.at 5 rfl)
  have d6 := fun z : KW w2 => z.cell B2.out.lt (B2.out.at 6 rfl)
  have d7 := fun z : KW w2 => z.cell B2.out.lt (B2.out.at 7 rfl)
  have d8 := fun z : KW w2 => z.cell B2.out.lt (B2.out.at 8 rfl)
  refine wp_region_kept (by kernel_rfl) (by kernel_rfl) fun _ => ?_
  repeat (go_big_quiet_step (first | (go_at_call 89; exact kept_of (G.out _))))
  refine wpQuiet_nil ?_
  rintro _ ⟨z, rfl⟩
  clear d0 d1 d2 d3 d4 d5 d6 d7 d8
  go_wp2
  go_ret
  exact ⟨rfl, K2.out.trans z.ok⟩


set_option maxHeartbeats 1000000 in
theorem frag_any (n0 n1 n2 n3 n4 n5 n6 n7 : Int) (x : Option Addr) (l c : Nat) (S : Nat → Sh) (i k v r : Int) (w : World) (hS : Shps w x l S) (h : At (Good n0 n1 n2 n3 n4 n5 n6 n7 l S ∧ (0 ≤ i ∧ i < n0) ∧ (0 ≤ k ∧ k < 8)) (i * 8 + k) v r) :
    Calls Tryz.prog 48 #[.agg #[.int .i64 n0, .int .i64 n1, .int .i64 n2, .int .i64 n3, .int .i64 n4, .int .i64 n5, .int .i64 n6, .int .i64 n7, .slice x l c], .int .i64 i, .int .i64 k] w fun e w' => e = .returned (.tuple #[.int .i64 v, .int .i64 r]) ∧ Kept w w' := by
  obtain ⟨p, hp⟩ := bool_iff (Good n0 n1 n2 n3 n4 n5 n6 n7 l S)
  obtain ⟨q0, h0⟩ := bool_iff (0 ≤ i ∧ i < n0)
  obtain ⟨q1, h1⟩ := bool_iff (0 ≤ k ∧ k < 8)
  have C : Hid (∀ w, Shps w x l S → _) := fun w h => area_may n0 n1 n2 n3 n4 n5 n6 n7 x l c S p w h hp
  have C0 : Hid (∀ w, Calls Tryz.prog 69 #[.int .i64 i, .int .i64 n0] w _) := fun w => among_any i n0 q0 w h0
  have C1 : Hid (∀ w, Calls Tryz.prog 69 #[.int .i64 k, .int .i64 8] w _) := fun w => among_any k 8 q1 w h1
  have HS : Hid (Shps w x l S) := hS
  have HP : Hid (p = true ↔ Good n0 n1 n2 n3 n4 n5 n6 n7 l S) := hp
  have H : Hid (At (Good n0 n1 n2 n3 n4 n5 n6 n7 l S ∧ (0 ≤ i ∧ i < n0) ∧ (0 ≤ k ∧ k < 8)) (i * 8 + k) v r) := h
  have H0 : Hid (q0 = true ↔ 0 ≤ i ∧ i < n0) := h0
  have H1 : Hid (q1 = true ↔ 0 ≤ k ∧ k < 8) := h1
  clear hS hp h h0 h1
  go_enter Tryz.func48, Tryz.ntmps48
  go_wp2_with fail
  generalize hW1 : w.alloc _ = W1
  have B1 : Hid (Blk W1 w.heap.size (cl n0 n1 n2 n3 n4 n5 n6 n7 (.slice x l c))) := by rw [← hW1]; exact Blk.new w _ _
  have K1 : Hid (Kept w W1) := by rw [← hW1]; exact (Kept.refl w).alloc _ _
  clear hW1
  refine (C.out _ (HS.out.kept K1.out)).mono ?_
  rintro e w2 ⟨rfl, K⟩
  have B2 : Hid (Blk w2 w.heap.size _) := B1.out.kept K
  have K2 : Hid (Kept w w2) := K1.out.trans K
  clear K B1 K1 C HS
  cases p
  · obtain ⟨rfl, rfl⟩ := H.out.no (fun g => absurd (HP.out.2 g.1) (by simp))
    go_wp2
    go_ret2
    exact ⟨rfl, K2.out⟩
  have c0 := B2.out.at 0 rfl
  have c1 := B2.out.at 1 rfl
  have c2 := B2.out.at 2 rfl
  have c3 := B2.out.at 3 rfl
  have c4 := B2.out.at 4 rfl
  have c5 := B2.out.at 5 rfl
  have c6 := B2.out.at 6 rfl
  have c7 := B2.out.at 7 rfl
  have c8 := B2.out.at 8 rfl
  go_wp2_with fail
  refine (C0.out _).mono ?_
  rintro e w' ⟨rfl, rfl⟩
  cases q0
  · obtain ⟨rfl, rfl⟩ := H.out.no (fun g => absurd (H0.out.2 g.2.1) (by simp))
    go_wp2
    go_ret2
    exact ⟨rfl, K2.out⟩
  go_wp2_with fail
  refine (C1.out _).mono ?_
  rintro e w' ⟨rfl, rfl⟩
  cases q1
  · obtain ⟨rfl, rfl⟩ := H.out.no (fun g => absurd (H1.out.2 g.2.2) (by simp))
    go_wp2
    go_ret2
    exact ⟨rfl, K2.out⟩
  have g : Good n0 n1 n2 n3 n4 n5 n6 n7 l S := by have := HP.out; simpa using this
  have g0 : 0 ≤ i ∧ i < n0 := by have := H0.out; simpa using this
  have g1 : 0 ≤ k ∧ k < 8 := by have := H1.out; simpa using this
  obtain ⟨rfl, rfl⟩ := H.out.yes ⟨g, g0, g1⟩
  obtain ⟨⟨⟨a0, a1⟩, ⟨a2, a3⟩, ⟨a4, a5⟩, _⟩, _⟩ := g
  obtain ⟨b0, e0⟩ := g0
  obtain ⟨b1, e1⟩ := g1
  clear H HP H0 C0 H1 C1
  go_wp2
  go_ret2
  exact ⟨by (first | rfl | (congr 4; omega) | (simp; omega)), K2.out⟩


set_option maxHeartbeats 2000000 in
theorem of_any (n0 n1 n2 n3 n4 n5 n6 n7 : Int) (x : Option Addr) (l c : Nat) (S : Nat → Sh) (a r i k : Int) (w : World) (hS : Shps w x l S) (h : OfIs (Good n0 n1 n2 n3 n4 n5 n6 n7 l S) n0 n1 n2 a r i k) :
    Calls Tryz.prog 66 #[.agg #[.int .i64 n0, .int .i64 n1, .int .i64 n2, .int .i64 n3, .int .i64 n4, .int .i64 n5, .int .i64 n6, .int .i64 n7, .slice x l c], .int .i64 a] w fun e w' => e = .returned (.tuple #[.int .i64 r, .int .i64 i, .int .i64 k]) ∧ Kept w w' := by
  obtain ⟨v, hv⟩ := Is.some (Good n0 n1 n2 n3 n4 n5 n6 n7 l S) (8 * n0 + 2 * n1 + n2)
  obtain ⟨p, hp⟩ := bool_iff (0 ≤ a ∧ a < v)
  have C : Hid (∀ w, Shps w x l S → _) := fun w h => words_any n0 n1 n2 n3 n4 n5 n6 n7 x l c S v w h hv
  have C0 : Hid (∀ w, Calls Tryz.prog 69 #[.int .i64 a, .int .i64 v] w _) := fun w => among_any a v p w hp
  have HS : Hid (Shps w x l S) := hS
  have HP : Hid (p = true ↔ 0 ≤ a ∧ a < v) := hp
  have HV : Hid (Is (Good n0 n1 n2 n3 n4 n5 n6 n7 l S) (8 * n0 + 2 * n1 + n2) v) := hv
  have H : Hid (OfIs (Good n0 n1 n2 n3 n4 n5 n6 n7 l S) n0 n1 n2 a r i k) := h
  clear hS hp h hv
  go_enter Tryz.func66, Tryz.ntmps66
  go_wp2_with fail
  generalize hW1 : w.alloc _ = W1
  have B1 : Hid (Blk W1 w.heap.size (cl n0 n1 n2 n3 n4 n5 n6 n7 (.slice x l c))) := by rw [← hW1]; exact Blk.new w _ _
  have K1 : Hid (Kept w W1) := by rw [← hW1]; exact (Kept.refl w).alloc _ _
  clear hW1
  refine (C.out _ (HS.out.kept K1.out)).mono ?_
  rintro e w2 ⟨rfl, K⟩
  have B2 : Hid (Blk w2 w.heap.size _) := B1.out.kept K
  have K2 : Hid (Kept w w2) := K1.out.trans K
  clear K B1 K1 C HS
  go_wp2_with fail
  refine (C0.out _).mono ?_
  rintro e w' ⟨rfl, rfl⟩
  clear C0
  cases p
  · obtain ⟨rfl, rfl, rfl⟩ := H.out.no (fun g => absurd (HP.out.2 ⟨g.2.1, by rw [HV.out.yes g.1]; exact g.2.2⟩) (by simp))
    clear H HV HP
    go_wp2
    go_ret3
    exact ⟨rfl, K2.out⟩
  have gp : 0 ≤ a ∧ a < v := by have := HP.out; simpa using this
  have g : Good n0 n1 n2 n3 n4 n5 n6 n7 l S := Classical.byContradiction fun n => by have := HV.out.no n; omega
  obtain rfl := HV.out.yes g
  have G : Hid (Good n0 n1 n2 n3 n4 n5 n6 n7 l S) := g
  obtain ⟨⟨⟨a0, a1⟩, ⟨a2, a3⟩, ⟨a4, a5⟩, _⟩, _⟩ := g
  obtain ⟨b0, b1⟩ := gp
  have D0 : Hid (∀ w, _) := fun w => spine_from n0 n1 n2 n3 n4 n5 n6 n7 x l c 0 (8 * n0) w ⟨a0, a1⟩ ⟨a2, a3⟩ (by omega) (by omega)
  have D1 : Hid (∀ w, _) := fun w => spine_from n0 n1 n2 n3 n4 n5 n6 n7 x l c 1 (8 * n0 + n1) w ⟨a0, a1⟩ ⟨a2, a3⟩ (by omega) (by omega)
  have D2 : Hid (∀ w, _) := fun w => globals_from n0 n1 n2 n3 n4 n5 n6 n7 x l c w ⟨a0, a1⟩ ⟨a2, a3⟩
  clear HV HP
  have c0 := B2.out.at 0 rfl
  have c1 := B2.out.at 1 rfl
  have c2 := B2.out.at 2 rfl
  have c3 := B2.out.at 3 rfl
  have c4 := B2.out.at 4 rfl
  have c5 := B2.out.at 5 rfl
  have c6 := B2.out.at 6 rfl
  have c7 := B2.out.at 7 rfl
  have c8 := B2.out.at 8 rfl
  go_wp2_with fail
  refine (D0.out _).mono ?_
  rintro e w3 ⟨rfl, K⟩
  have B3 : Hid (Blk w3 w.heap.size _) := B2.out.kept K
  have K3 : Hid (Kept w w3) := K2.out.trans K
  clear K B2 K2 c0 c1 c2 c3 c4 c5 c6 c7 c8
  by_cases g0 : a < 8 * n0
  · obtain ⟨rfl, rfl, rfl⟩ := H.out.frag G.out b0 g0
    clear H G
    go_wp2
    go_ret3
    exact ⟨by (first | rfl | (congr 4; omega) | (simp; omega)), K3.out⟩
  have c0 := B3.out.at 0 rfl
  have c1 := B3.out.at 1 rfl
  have c2 := B3.out.at 2 rfl
  have c3 := B3.out.at 3 rfl
  have c4 := B3.out.at 4 rfl
  have c5 := B3.out.at 5 rfl
  have c6 := B3.out.at 6 rfl
  have c7 := B3.out.at 7 rfl
  have c8 := B3.out.at 8 rfl
  go_wp2_with fail
  refine (D1.out _).mono ?_
  rintro e w4 ⟨rfl, K⟩
  have B4 : Hid (Blk w4 w.heap.size _) := B3.out.kept K
  have K4 : Hid (Kept w w4) := K3.out.trans K
  clear K B3 K3 c0 c1 c2 c3 c4 c5 c6 c7 c8
  by_cases g1 : a < 8 * n0 + n1
  · obtain ⟨rfl, rfl, rfl⟩ := H.out.sp0 G.out (by omega) g1
    clear H G
    have c0 := B4.out.at 0 rfl
    have c1 := B4.out.at 1 rfl
    have c2 := B4.out.at 2 rfl
    have c3 := B4.out.at 3 rfl
    have c4 := B4.out.at 4 rfl
    have c5 := B4.out.at 5 rfl
    have c6 := B4.out.at 6 rfl
    have c7 := B4.out.at 7 rfl
    have c8 := B4.out.at 8 rfl
    go_wp2_with fail
    refine (D0.out _).mono ?_
    rintro e w5 ⟨rfl, K⟩
    have B5 : Hid (Blk w5 w.heap.size _) := B4.out.kept K
    have K5 : Hid (Kept w w5) := K4.out.trans K
    clear K B4 K4 c0 c1 c2 c3 c4 c5 c6 c7 c8
    go_wp2
    go_ret3
    exact ⟨by (first | rfl | (congr 4; omega) | (simp; omega)), K5.out⟩
  have c0 := B4.out.at 0 rfl
  have c1 := B4.out.at 1 rfl
  have c2 := B4.out.at 2 rfl
  have c3 := B4.out.at 3 rfl
  have c4 := B4.out.at 4 rfl
  have c5 := B4.out.at 5 rfl
  have c6 := B4.out.at 6 rfl
  have c7 := B4.out.at 7 rfl
  have c8 := B4.out.at 8 rfl
  go_wp2_with fail
  refine (D2.out _).mono ?_
  rintro e w5 ⟨rfl, K⟩
  have B5 : Hid (Blk w5 w.heap.size _) := B4.out.kept K
  have K5 : Hid (Kept w w5) := K4.out.trans K
  clear K B4 K4 c0 c1 c2 c3 c4 c5 c6 c7 c8
  by_cases g2 : a < 8 * n0 + 2 * n1
  · obtain ⟨rfl, rfl, rfl⟩ := H.out.sp1 G.out (by omega) g2
    clear H G
    have c0 := B5.out.at 0 rfl
    have c1 := B5.out.at 1 rfl
    have c2 := B5.out.at 2 rfl
    have c3 := B5.out.at 3 rfl
    have c4 := B5.out.at 4 rfl
    have c5 := B5.out.at 5 rfl
    have c6 := B5.out.at 6 rfl
    have c7 := B5.out.at 7 rfl
    have c8 := B5.out.at 8 rfl
    go_wp2_with fail
    refine (D1.out _).mono ?_
    rintro e w6 ⟨rfl, K⟩
    have B6 : Hid (Blk w6 w.heap.size _) := B5.out.kept K
    have K6 : Hid (Kept w w6) := K5.out.trans K
    clear K B5 K5 c0 c1 c2 c3 c4 c5 c6 c7 c8
    go_wp2
    go_ret3
    exact ⟨by (first | rfl | (congr 4; omega) | (simp; omega)), K6.out⟩
  · obtain ⟨rfl, rfl, rfl⟩ := H.out.glob G.out (by omega) b1
    clear H G
    have c0 := B5.out.at 0 rfl
    have c1 := B5.out.at 1 rfl
    have c2 := B5.out.at 2 rfl
    have c3 := B5.out.at 3 rfl
    have c4 := B5.out.at 4 rfl
    have c5 := B5.out.at 5 rfl
    have c6 := B5.out.at 6 rfl
    have c7 := B5.out.at 7 rfl
    have c8 := B5.out.at 8 rfl
    go_wp2_with fail
    refine (D2.out _).mono ?_
    rintro e w6 ⟨rfl, K⟩
    have B6 : Hid (Blk w6 w.heap.size _) := B5.out.kept K
    have K6 : Hid (Kept w w6) := K5.out.trans K
    clear K B5 K5 c0 c1 c2 c3 c4 c5 c6 c7 c8
    go_wp2
    go_ret3
    exact ⟨by (first | rfl | (congr 4; omega) | (simp; omega)), K6.out⟩

end Go.Proofs.YtpdclckgnajcdaaGreat
