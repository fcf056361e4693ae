/-
  The modules RefCheck12, Ref512, Are22, one behind another.
-/
import Derived.Test.YtiigmmmhhpdmdaaB04
import Derived.Test.YtiigmmmhhpdmdaaB07
/-
  Contracts of the laws' own package sporef1, as far as Check goes.
-/
namespace Go.Proofs.Ytiigmmmhhpdmdaa
open Go.RowKit

set_option maxHeartbeats 400000 in
theorem in_any (n lo hi : Int) (p : Bool) (w : World) (hp : p = true ↔ lo ≤ n ∧ n ≤ hi) :
    Calls Try.prog 79 #[.int .i64 n, .int .i64 lo, .int .i64 hi] w fun e w' => e = .returned (.bool p) ∧ w' = w := by
  by_cases h1 : n ≥ lo
  · by_cases h2 : n ≤ hi
    · obtain rfl : p = true := hp.2 ⟨h1, h2⟩
      clear hp
      go_enter Try.func79, Try.ntmps79
      go_wp2
      go_ret
      exact ⟨rfl, rfl⟩
    · obtain rfl : p = false := by
        cases p
        · rfl
        · have := hp.1 rfl
          omega
      clear hp
      go_enter Try.func79, Try.ntmps79
      go_wp2
      go_ret
      exact ⟨rfl, rfl⟩
  · obtain rfl : p = false := by
      cases p
      · rfl
      · have := hp.1 rfl
        omega
    clear hp
    go_enter Try.func79, Try.ntmps79
    go_wp2
    go_ret
    exact ⟨rfl, rfl⟩

set_option maxHeartbeats 400000 in
theorem ref_may (s : Sh) (w : World) :
    Calls Try.prog 80 #[.agg #[.bool s.arr, .slice s.x s.l s.c]] w fun e w' => e = .returned (.bool s.may) ∧ Kept w w' := by
  obtain ⟨b, x, l, c⟩ := s
  cases b
  · simp only [Sh.may]
    go_enter Try.func80, Try.ntmps80
    go_wp2
    go_ret
    exact ⟨by simp, (Kept.refl _).alloc _ _⟩
  · by_cases h : (l : Int) = 1
    · have t1 : ((l : Int) == 1) = true := by simp [h]
      simp only [Sh.may]
      clear h
      go_enter Try.func80, Try.ntmps80
      go_wp2
      go_ret
      exact ⟨by simp, (Kept.refl _).alloc _ _⟩
    · have t1 : ((l : Int) == 1) = false := by simp [h]
      simp only [Sh.may]
      clear h
      go_enter Try.func80, Try.ntmps80
      go_wp2
      go_ret
      exact ⟨by simp, (Kept.refl _).alloc _ _⟩
set_option maxHeartbeats 2000000 in
theorem ref_check (n0 n1 n2 n3 n4 n5 n6 n7 : Int) (x : Option Addr) (l c : Nat) (S : Nat → Sh) (r : Int) (w : World) (hS : Shps w x l S) (hr : Checks n0 n1 n2 n3 n4 n5 n6 n7 l S r) :
    Calls Try.prog 34 #[.agg #[.int .i64 n0, .int .i64 n1, .int .i64 n2, .int .i64 n3, .int .i64 n4, .int .i64 n5, .int .i64 n6, .int .i64 n7, .slice x l c]] w fun e w' => e = .returned (.int .i64 r) ∧ Kept w w' := by
  obtain ⟨q0, h0⟩ := bool_iff (4 ≤ n0 ∧ n0 ≤ 1024)
  obtain ⟨q1, h1⟩ := bool_iff (0 ≤ n1 ∧ n1 ≤ 2048)
  obtain ⟨q2, h2⟩ := bool_iff (0 ≤ n2 ∧ n2 ≤ 8)
  obtain ⟨q3, h3⟩ := bool_iff (1 ≤ n3 ∧ n3 ≤ 16)
  obtain ⟨q4, h4⟩ := bool_iff (1 ≤ n4 ∧ n4 ≤ 8)
  obtain ⟨q5, h5⟩ := bool_iff (0 ≤ n5 ∧ n5 ≤ 8)
  obtain ⟨q6, h6⟩ := bool_iff (1 ≤ n6 ∧ n6 ≤ 256)
  obtain ⟨q7, h7⟩ := bool_iff (0 ≤ n7 ∧ n7 ≤ n0)
  obtain ⟨q8, h8⟩ := bool_iff (n3 * n5 ≤ n0)
  obtain ⟨q9, h9⟩ := bool_iff (1 ≤ (l : Int) ∧ (l : Int) ≤ 8)
  obtain ⟨q10, h10⟩ := bool_iff (∀ i, i < l → (S i).may = true)
  have hr : r = if (q0 && (q1 && (q2 && (q3 && (q4 && (q5 && (q6 && (q7 && q8)))))))) then (if q9 then (if q10 then 0 else 4) else 4) else 1 := by
    by_cases hf : Fits n0 n1 n2 n3 n4 n5 n6 n7
    · obtain ⟨f0, f1, f2, f6, f7, f3, f4, f5, f8⟩ := id hf
      rw [h0.2 f0, h1.2 f1, h2.2 f2, h3.2 f3, h4.2 f4, h5.2 f5, h6.2 f6, h7.2 f7, h8.2 f8]
      by_cases m : Mays l S
      · rw [h9.2 ⟨by have := m.1; omega, by have := m.2.1; omega⟩, h10.2 m.2.2]
        exact hr.ok hf m
      · rw [hr.kind hf m]
        cases q9
        · rfl
        · cases q10
          · rfl
          · exact absurd ⟨by have := h9.1 rfl; omega, by have := h9.1 rfl; omega, h10.1 rfl⟩ m
    · rw [hr.out hf]
      cases hq : (q0 && (q1 && (q2 && (q3 && (q4 && (q5 && (q6 && (q7 && q8))))))))
      · rfl
      · simp only [Bool.and_eq_true] at hq
        obtain ⟨e0, e1, e2, e3, e4, e5, e6, e7, e8⟩ := hq
        exact absurd ⟨h0.1 e0, h1.1 e1, h2.1 e2, h6.1 e6, h7.1 e7, h3.1 e3, h4.1 e4, h5.1 e5, h8.1 e8⟩ hf
  subst hr
  have C0 : Hid (∀ w, Calls Try.prog 79 #[.int .i64 n0, .int .i64 4, .int .i64 1024] w _) := fun w => in_any n0 4 1024 q0 w h0
  have C1 : Hid (∀ w, Calls Try.prog 79 #[.int .i64 n1, .int .i64 0, .int .i64 2048] w _) := fun w => in_any n1 0 2048 q1 w h1
  have C2 : Hid (∀ w, Calls Try.prog 79 #[.int .i64 n2, .int .i64 0, .int .i64 8] w _) := fun w => in_any n2 0 8 q2 w h2
  have C3 : Hid (∀ w, Calls Try.prog 79 #[.int .i64 n3, .int .i64 1, .int .i64 16] w _) := fun w => in_any n3 1 16 q3 w h3
  have C4 : Hid (∀ w, Calls Try.prog 79 #[.int .i64 n4, .int .i64 1, .int .i64 8] w _) := fun w => in_any n4 1 8 q4 w h4
  have C5 : Hid (∀ w, Calls Try.prog 79 #[.int .i64 n5, .int .i64 0, .int .i64 8] w _) := fun w => in_any n5 0 8 q5 w h5
  have C6 : Hid (∀ w, Calls Try.prog 79 #[.int .i64 n6, .int .i64 1, .int .i64 256] w _) := fun w => in_any n6 1 256 q6 w h6
  have C7 : Hid (∀ w, Calls Try.prog 79 #[.int .i64 n7, .int .i64 0, .int .i64 n0] w _) := fun w => in_any n7 0 n0 q7 w h7
  have C9 : Hid (∀ w, Calls Try.prog 79 #[.int .i64 l, .int .i64 1, .int .i64 8] w _) := fun w => in_any l 1 8 q9 w h9
  have H3 : Hid (q3 = true ↔ 1 ≤ n3 ∧ n3 ≤ 16) := h3
  have H5 : Hid (q5 = true ↔ 0 ≤ n5 ∧ n5 ≤ 8) := h5
  have H8 : Hid (q8 = true ↔ n3 * n5 ≤ n0) := h8
  have H9 : Hid (q9 = true ↔ 1 ≤ (l : Int) ∧ (l : Int) ≤ 8) := h9
  have H10 : Hid (q10 = true ↔ ∀ i, i < l → (S i).may = true) := h10
  have HS : Hid (Shps w x l S) := hS
  clear h0 h1 h2 h3 h4 h5 h6 h7 h8 h9 h10 hS
  go_enter Try.func34, Try.ntmps34
  go_wp2_with fail
  refine (C0.out _).mono ?_
  rintro e w' ⟨rfl, rfl⟩
  cases q0
  · go_wp2
    go_ret
    exact ⟨rfl, (Kept.refl _).alloc _ _⟩
  go_wp2_with fail
  refine (C1.out _).mono ?_
  rintro e w' ⟨rfl, rfl⟩
  cases q1
  · go_wp2
    go_ret
    exact ⟨rfl, (Kept.refl _).alloc _ _⟩
  go_wp2_with fail
  refine (C2.out _).mono ?_
  rintro e w' ⟨rfl, rfl⟩
  cases q2
  · go_wp2
    go_ret
    exact ⟨rfl, (Kept.refl _).alloc _ _⟩
  go_wp2_with fail
  refine (C3.out _).mono ?_
  rintro e w' ⟨rfl, rfl⟩
  cases q3
  · go_wp2
    go_ret
    exact ⟨rfl, (Kept.refl _).alloc _ _⟩
  go_wp2_with fail
  refine (C4.out _).mono ?_
  rintro e w' ⟨rfl, rfl⟩
  cases q4
  · go_wp2
    go_ret
    exact ⟨rfl, (Kept.refl _).alloc _ _⟩
  go_wp2_with fail
  refine (C5.out _).mono ?_
  rintro e w' ⟨rfl, rfl⟩
  cases q5
  · go_wp2
    go_ret
    exact ⟨rfl, (Kept.refl _).alloc _ _⟩
  go_wp2_with fail
  refine (C6.out _).mono ?_
  rintro e w' ⟨rfl, rfl⟩
  cases q6
  · go_wp2
    go_ret
    exact ⟨rfl, (Kept.refl _).alloc _ _⟩
  go_wp2_with fail
  refine (C7.out _).mono ?_
  rintro e w' ⟨rfl, rfl⟩
  cases q7
  · go_wp2
    go_ret
    exact ⟨rfl, (Kept.refl _).alloc _ _⟩
  have b0 : 1 ≤ n3 ∧ n3 ≤ 16 := by have := H3.out; simpa using this
  have b2 : 0 ≤ n5 ∧ n5 ≤ 8 := by have := H5.out; simpa using this
  obtain ⟨m0, m1⟩ := mul_bounds b0 b2
  clear b0 b2
  have h8 := H8.out
  by_cases hm : n3 * n5 > n0
  · obtain rfl : q8 = false := by
      cases q8
      · rfl
      · exact absurd (h8.1 rfl) (by omega)
    clear h8
    go_wp2
    go_ret
    exact ⟨rfl, (Kept.refl _).alloc _ _⟩
  obtain rfl : q8 = true := h8.2 (by omega)
  clear h8
  go_wp2_with fail
  refine (C9.out _).mono ?_
  rintro e w' ⟨rfl, rfl⟩
  cases q9
  · go_wp2
    go_ret
    exact ⟨rfl, (Kept.refl _).alloc _ _⟩
  have hl : 1 ≤ (l : Int) ∧ (l : Int) ≤ 8 := by have := H9.out; simpa using this
  go_wp2_with fail
  generalize hW1 : w.alloc _ = W1
  have B1 : Hid (Blk W1 w.heap.size (cl n0 n1 n2 n3 n4 n5 n6 n7 (.slice x l c))) := by rw [← hW1]; exact Blk.new w _ _
  have K1 : Hid (Kept w W1) := by rw [← hW1]; exact (Kept.refl w).alloc _ _
  clear hW1
  go_loopg [3] l (fun m i wr => ∃ k : Nat, i = .int .i64 k ∧ k ≤ l ∧ m = l - k ∧ Hid (Kept W1 wr) ∧ Hid (∀ i, i < k → (S i).may = true))
  case atStart => exact ⟨0, rfl, by omega, by omega, Kept.refl _, fun _ h => absurd h (Nat.not_lt_zero _)⟩
  case round =>
    obtain ⟨k, rfl, hk0, hm, KK, hall⟩ := hrel
    have HM : Hid _ := hm
    clear hm
    have c8 := (B1.out.kept KK.out).at 8 rfl
    by_cases hlt : k < l
    · obtain ⟨b, o, rfl, hb, hc⟩ := HS.out (by omega)
      have kr : Kept w wr := K1.out.trans KK.out
      have a0 : wr.cell? ⟨b, o + k * 2, none⟩ = _ := (kr.cell hb).trans (hc k hlt).1
      have a1 : wr.cell? ⟨b, o + k * 2 + 1, none⟩ = _ := (kr.cell hb).trans (hc k hlt).2
      have M : Hid (∀ w, _) := fun w => ref_may (S k) w
      clear hc kr
      go_wp2_with fail
      refine (M.out _).mono ?_
      rintro e w2 ⟨rfl, K2⟩
      have K3 : Hid (Kept W1 w2) := KK.out.trans K2
      clear K2 a0 a1 M c8
      cases hmay : (S k).may
      · obtain rfl : q10 = false := by
          cases q10
          · rfl
          · have m := H10.out
            simp only [true_iff] at m
            rw [m k hlt] at hmay
            cases hmay
        clear hmay
        go_wp2
        go_ret
        exact ⟨rfl, K1.out.trans K3.out⟩
      · have hall2 : Hid (∀ i, i < k + 1 → (S i).may = true) := fun i hi => by
          rcases Nat.lt_succ_iff_lt_or_eq.1 hi with h | rfl
          · exact hall.out i h
          · exact hmay
        clear hmay
        go_wp2
        go_roundg (gk - 1)
        case measure => have := HM.out; omega
        case rel => have := HM.out; exact ⟨k + 1, by go_num, by omega, by omega, K3, hall2⟩
    · obtain rfl : k = l := by omega
      obtain rfl : q10 = true := by
        cases q10
        · have m := H10.out
          have := hall.out
          simp at m
          obtain ⟨i, h1, h2⟩ := m
          rw [this i h1] at h2
          cases h2
        · rfl
      go_wp2
      go_ret
      exact ⟨rfl, K1.out.trans KK.out⟩

end Go.Proofs.Ytiigmmmhhpdmdaa

/-
  Contracts of the laws' own package sporef1, chapter 5: Words, Frag, SpineAt, Global, Of.
-/
namespace Go.Proofs.Ytiigmmmhhpdmdaa
open Go.RowKit


set_option maxHeartbeats 1000000 in
theorem ref_words (n0 n1 n2 n3 n4 n5 n6 n7 : Int) (x : Option Addr) (l c : Nat) (S : Nat → Sh) (v : Int) (w : World) (hS : Shps w x l S) (h : Is (Good n0 n1 n2 n3 n4 n5 n6 n7 l S) (8 * n0 + 2 * n1 + n2) v) :
    Calls Try.prog 36 #[.agg #[.int .i64 n0, .int .i64 n1, .int .i64 n2, .int .i64 n3, .int .i64 n4, .int .i64 n5, .int .i64 n6, .int .i64 n7, .slice x l c]] w fun e w' => e = .returned (.int .i64 v) ∧ Kept w w' := by
  by_cases hg : Good n0 n1 n2 n3 n4 n5 n6 n7 l S
  · obtain rfl := h.yes hg
    have C : Hid (∀ w, Shps w x l S → Calls Try.prog 34 #[.agg #[.int .i64 n0, .int .i64 n1, .int .i64 n2, .int .i64 n3, .int .i64 n4, .int .i64 n5, .int .i64 n6, .int .i64 n7, .slice x l c]] w fun e w' => e = .returned (.int .i64 0) ∧ Kept w w') := fun w h => ref_check n0 n1 n2 n3 n4 n5 n6 n7 x l c S 0 w h (Checks.of_ok hg.1 hg.2)
    have HS : Hid (Shps w x l S) := hS
    obtain ⟨⟨⟨a0, a1⟩, ⟨a2, a3⟩, ⟨a4, a5⟩, _⟩, _⟩ := id hg
    clear hS hg h
    go_enter Try.func36, Try.ntmps36
    go_wp2_with fail
    generalize hW1 : w.alloc _ = W1
    have B1 : Hid (Blk W1 w.heap.size (cl n0 n1 n2 n3 n4 n5 n6 n7 (.slice x l c))) := by rw [← hW1]; exact Blk.new w _ _
    have K1 : Hid (Kept w W1) := by rw [← hW1]; exact (Kept.refl w).alloc _ _
    clear hW1
    refine (C.out _ (HS.out.kept K1.out)).mono ?_
    rintro e w2 ⟨rfl, K⟩
    have B2 : Hid (Blk w2 w.heap.size _) := B1.out.kept K
    have K2 : Hid (Kept w w2) := K1.out.trans K
    clear K B1 K1 C HS
    have c0 := B2.out.at 0 rfl
    have c1 := B2.out.at 1 rfl
    have c2 := B2.out.at 2 rfl
    have c3 := B2.out.at 3 rfl
    have c4 := B2.out.at 4 rfl
    have c5 := B2.out.at 5 rfl
    have c6 := B2.out.at 6 rfl
    have c7 := B2.out.at 7 rfl
    have c8 := B2.out.at 8 rfl
    go_wp2
    go_ret
    exact ⟨by (first | rfl | (congr 4; omega) | (simp; omega)), K2.out⟩
  · obtain ⟨r0, hr0, _⟩ := Checks.some n0 n1 n2 n3 n4 n5 n6 n7 l S
    have t0 : (r0 != 0) = true := by
      simp only [bne_iff_ne, ne_eq]
      intro e
      exact hg (Checks.zero (e ▸ hr0))
    have C : Hid (∀ w, Shps w x l S → _) := fun w h => ref_check n0 n1 n2 n3 n4 n5 n6 n7 x l c S r0 w h hr0
    have HS : Hid (Shps w x l S) := hS
    obtain rfl := h.no (fun g => hg g)
    clear hS hr0 hg h
    go_enter Try.func36, Try.ntmps36
    go_wp2_with fail
    generalize hW1 : w.alloc _ = W1
    have B1 : Hid (Blk W1 w.heap.size (cl n0 n1 n2 n3 n4 n5 n6 n7 (.slice x l c))) := by rw [← hW1]; exact Blk.new w _ _
    have K1 : Hid (Kept w W1) := by rw [← hW1]; exact (Kept.refl w).alloc _ _
    clear hW1
    refine (C.out _ (HS.out.kept K1.out)).mono ?_
    rintro e w2 ⟨rfl, K⟩
    have B2 : Hid (Blk w2 w.heap.size _) := B1.out.kept K
    have K2 : Hid (Kept w w2) := K1.out.trans K
    clear K B1 K1 C HS
    go_wp2
    go_ret
    exact ⟨rfl, K2.out⟩


end Go.Proofs.Ytiigmmmhhpdmdaa

/-
  Contracts of package area's Global, and of the document's.
-/
namespace Go.Proofs.Ytiigmmmhhpdmdaa
open Go.RowKit

set_option maxHeartbeats 1000000 in
theorem global_any (n0 n1 n2 n3 n4 n5 n6 n7 : Int) (x : Option Addr) (l c : Nat) (S : Nat → Sh) (g v r : Int) (w : World) (hS : Shps w x l S) (h : At (Good n0 n1 n2 n3 n4 n5 n6 n7 l S ∧ (0 ≤ g ∧ g < n2)) (8 * n0 + 2 * n1 + g) v r) :
    Calls Try.prog 68 #[.agg #[.int .i64 n0, .int .i64 n1, .int .i64 n2, .int .i64 n3, .int .i64 n4, .int .i64 n5, .int .i64 n6, .int .i64 n7, .slice x l c], .int .i64 g] w fun e w' => e = .returned (.tuple #[.int .i64 v, .int .i64 r]) ∧ Kept w w' := by
  obtain ⟨p, hp⟩ := bool_iff (Good n0 n1 n2 n3 n4 n5 n6 n7 l S)
  obtain ⟨q0, h0⟩ := bool_iff (0 ≤ g ∧ g < n2)
  have C : Hid (∀ w, Shps w x l S → _) := fun w h => area_may n0 n1 n2 n3 n4 n5 n6 n7 x l c S p w h hp
  have C0 : Hid (∀ w, Calls Try.prog 108 #[.int .i64 g, .int .i64 n2] w _) := fun w => among_any g n2 q0 w h0
  have HS : Hid (Shps w x l S) := hS
  have HP : Hid (p = true ↔ Good n0 n1 n2 n3 n4 n5 n6 n7 l S) := hp
  have H : Hid (At (Good n0 n1 n2 n3 n4 n5 n6 n7 l S ∧ (0 ≤ g ∧ g < n2)) (8 * n0 + 2 * n1 + g) v r) := h
  have H0 : Hid (q0 = true ↔ 0 ≤ g ∧ g < n2) := h0
  clear hS hp h h0
  go_enter Try.func68, Try.ntmps68
  go_wp2_with fail
  generalize hW1 : w.alloc _ = W1
  have B1 : Hid (Blk W1 w.heap.size (cl n0 n1 n2 n3 n4 n5 n6 n7 (.slice x l c))) := by rw [← hW1]; exact Blk.new w _ _
  have K1 : Hid (Kept w W1) := by rw [← hW1]; exact (Kept.refl w).alloc _ _
  clear hW1
  refine (C.out _ (HS.out.kept K1.out)).mono ?_
  rintro e w2 ⟨rfl, K⟩
  have B2 : Hid (Blk w2 w.heap.size _) := B1.out.kept K
  have K2 : Hid (Kept w w2) := K1.out.trans K
  clear K B1 K1 C HS
  cases p
  · obtain ⟨rfl, rfl⟩ := H.out.no (fun y => absurd (HP.out.2 y.1) (by simp))
    go_wp2
    go_ret2
    exact ⟨rfl, K2.out⟩
  have c0 := B2.out.at 0 rfl
  have c1 := B2.out.at 1 rfl
  have c2 := B2.out.at 2 rfl
  have c3 := B2.out.at 3 rfl
  have c4 := B2.out.at 4 rfl
  have c5 := B2.out.at 5 rfl
  have c6 := B2.out.at 6 rfl
  have c7 := B2.out.at 7 rfl
  have c8 := B2.out.at 8 rfl
  go_wp2_with fail
  refine (C0.out _).mono ?_
  rintro e w' ⟨rfl, rfl⟩
  cases q0
  · obtain ⟨rfl, rfl⟩ := H.out.no (fun y => absurd (H0.out.2 y.2) (by simp))
    go_wp2
    go_ret2
    exact ⟨rfl, K2.out⟩
  have gg : Good n0 n1 n2 n3 n4 n5 n6 n7 l S := by have := HP.out; simpa using this
  have g0 : 0 ≤ g ∧ g < n2 := by have := H0.out; simpa using this
  obtain ⟨rfl, rfl⟩ := H.out.yes ⟨gg, g0⟩
  obtain ⟨⟨⟨a0, a1⟩, ⟨a2, a3⟩, ⟨a4, a5⟩, _⟩, _⟩ := gg
  have D : Hid (∀ w, _) := fun w => globals_from n0 n1 n2 n3 n4 n5 n6 n7 x l c w ⟨a0, a1⟩ ⟨a2, a3⟩
  obtain ⟨b0, e0⟩ := g0
  clear H HP H0 C0
  go_wp2_with fail
  refine (D.out _).mono ?_
  rintro e w3 ⟨rfl, K⟩
  have K3 : Hid (Kept w w3) := K2.out.trans K
  clear K K2 B2 c0 c1 c2 c3 c4 c5 c6 c7 c8
  go_wp2
  go_ret2
  exact ⟨by (first | rfl | (congr 4; omega) | (simp; omega)), K3.out⟩

set_option maxHeartbeats 1000000 in
theorem ref_global (n0 n1 n2 n3 n4 n5 n6 n7 : Int) (x : Option Addr) (l c : Nat) (S : Nat → Sh) (g v r : Int) (w : World) (hS : Shps w x l S) (h : At (Good n0 n1 n2 n3 n4 n5 n6 n7 l S ∧ (0 ≤ g ∧ g < n2)) (8 * n0 + 2 * n1 + g) v r) :
    Calls Try.prog 40 #[.agg #[.int .i64 n0, .int .i64 n1, .int .i64 n2, .int .i64 n3, .int .i64 n4, .int .i64 n5, .int .i64 n6, .int .i64 n7, .slice x l c], .int .i64 g] w fun e w' => e = .returned (.tuple #[.int .i64 v, .int .i64 r]) ∧ Kept w w' := by
  by_cases hg : Good n0 n1 n2 n3 n4 n5 n6 n7 l S
  · have HG : Hid (Good n0 n1 n2 n3 n4 n5 n6 n7 l S) := hg
    have H : Hid (At (Good n0 n1 n2 n3 n4 n5 n6 n7 l S ∧ (0 ≤ g ∧ g < n2)) (8 * n0 + 2 * n1 + g) v r) := h
    have C : Hid (∀ w, Shps w x l S → Calls Try.prog 34 #[.agg #[.int .i64 n0, .int .i64 n1, .int .i64 n2, .int .i64 n3, .int .i64 n4, .int .i64 n5, .int .i64 n6, .int .i64 n7, .slice x l c]] w fun e w' => e = .returned (.int .i64 0) ∧ Kept w w') := fun w h => ref_check n0 n1 n2 n3 n4 n5 n6 n7 x l c S 0 w h (Checks.of_ok hg.1 hg.2)
    have HS : Hid (Shps w x l S) := hS
    obtain ⟨⟨⟨a0, a1⟩, ⟨a2, a3⟩, ⟨a4, a5⟩, _⟩, _⟩ := id hg
    obtain ⟨q0, h0⟩ := bool_iff (0 ≤ g ∧ g < n2)
    have C0 : Hid (∀ w, Calls Try.prog 79 #[.int .i64 g, .int .i64 0, .int .i64 (n2 - 1)] w _) := fun w => in_any g 0 (n2 - 1) q0 w (h0.trans (by omega))
    have H0 : Hid (q0 = true ↔ 0 ≤ g ∧ g < n2) := h0
    clear hS hg h h0
    go_enter Try.func40, Try.ntmps40
    go_wp2_with fail
    generalize hW1 : w.alloc _ = W1
    have B1 : Hid (Blk W1 w.heap.size (cl n0 n1 n2 n3 n4 n5 n6 n7 (.slice x l c))) := by rw [← hW1]; exact Blk.new w _ _
    have K1 : Hid (Kept w W1) := by rw [← hW1]; exact (Kept.refl w).alloc _ _
    clear hW1
    refine (C.out _ (HS.out.kept K1.out)).mono ?_
    rintro e w2 ⟨rfl, K⟩
    have B2 : Hid (Blk w2 w.heap.size _) := B1.out.kept K
    have K2 : Hid (Kept w w2) := K1.out.trans K
    clear K B1 K1 C HS
    have c0 := B2.out.at 0 rfl
    have c1 := B2.out.at 1 rfl
    have c2 := B2.out.at 2 rfl
    have c3 := B2.out.at 3 rfl
    have c4 := B2.out.at 4 rfl
    have c5 := B2.out.at 5 rfl
    have c6 := B2.out.at 6 rfl
    have c7 := B2.out.at 7 rfl
    have c8 := B2.out.at 8 rfl
    go_wp2_with fail
    refine (C0.out _).mono ?_
    rintro e w' ⟨rfl, rfl⟩
    cases q0
    · obtain ⟨rfl, rfl⟩ := H.out.no (fun y => absurd (H0.out.2 y.2) (by simp))
      go_wp2
      go_ret2
      exact ⟨rfl, K2.out⟩
    have g0 : 0 ≤ g ∧ g < n2 := by have := H0.out; simpa using this
    obtain ⟨rfl, rfl⟩ := H.out.yes ⟨HG.out, g0⟩
    obtain ⟨b0, e0⟩ := g0
    clear H HG H0 C0
    go_wp2
    go_ret2
    exact ⟨by (first | rfl | (congr 4; omega) | (simp; omega)), K2.out⟩
  · obtain ⟨r0, hr0, _⟩ := Checks.some n0 n1 n2 n3 n4 n5 n6 n7 l S
    have t0 : (r0 != 0) = true := by
      simp only [bne_iff_ne, ne_eq]
      intro e
      exact hg (Checks.zero (e ▸ hr0))
    have C : Hid (∀ w, Shps w x l S → _) := fun w h => ref_check n0 n1 n2 n3 n4 n5 n6 n7 x l c S r0 w h hr0
    have HS : Hid (Shps w x l S) := hS
    obtain ⟨rfl, rfl⟩ := h.no (fun g => hg g.1)
    clear hS hr0 hg h
    go_enter Try.func40, Try.ntmps40
    go_wp2_with fail
    generalize hW1 : w.alloc _ = W1
    have B1 : Hid (Blk W1 w.heap.size (cl n0 n1 n2 n3 n4 n5 n6 n7 (.slice x l c))) := by rw [← hW1]; exact Blk.new w _ _
    have K1 : Hid (Kept w W1) := by rw [← hW1]; exact (Kept.refl w).alloc _ _
    clear hW1
    refine (C.out _ (HS.out.kept K1.out)).mono ?_
    rintro e w2 ⟨rfl, K⟩
    have B2 : Hid (Blk w2 w.heap.size _) := B1.out.kept K
    have K2 : Hid (Kept w w2) := K1.out.trans K
    clear K B1 K1 C HS
    go_wp2
    go_ret2
    exact ⟨rfl, K2.out⟩
end Go.Proofs.Ytiigmmmhhpdmdaa

