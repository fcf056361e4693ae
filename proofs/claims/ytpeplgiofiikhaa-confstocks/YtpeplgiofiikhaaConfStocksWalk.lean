/-
  ConfStocks's walk.
-/
import Derived.Test.YtpeplgiofiikhaaFirst4
import Derived.Test.YtpeplgiofiikhaaOpen
namespace Go.Proofs.Ytpeplgiofiikhaa
open Go.RowKit

set_option maxHeartbeats 1000000 in
theorem stocks_many (n0 n1 n2 n3 n4 n5 n6 n7 : Int) (x : Option Addr) (l c : Nat) (S : Nat → Sh) (n9 n10 : Int) (w : World) (hS : Shps w x l S) (hf : ¬ Small l S) :
    Calls Try.prog 6 #[.agg #[.int .i64 n0, .int .i64 n1, .int .i64 n2, .int .i64 n3, .int .i64 n4, .int .i64 n5, .int .i64 n6, .int .i64 n7, .slice x l c], .int .i64 n9, .int .i64 n10] w fun e w' => e = .returned (.bool true) ∧ Kept w w' := by
  have HS : Hid (Shps w x l S) := hS
  have F : Hid (∀ w, Shps w x l S → _) := fun w h => few_any n0 n1 n2 n3 n4 n5 n6 n7 x l c S false w h (by simp [hf])
  clear hS
  go_enter Try.func6, Try.ntmps6
  go_wp2_with fail
  generalize hW1 : w.alloc _ = W1
  have B1 : Hid (Blk W1 w.heap.size (cl n0 n1 n2 n3 n4 n5 n6 n7 (.slice x l c))) := by rw [← hW1]; exact Blk.new w _ _
  have K1 : Hid (Kept w W1) := by rw [← hW1]; exact (Kept.refl w).alloc _ _
  clear hW1
  refine (first_any _).mono ?_
  rintro e w2 ⟨rfl, K⟩
  have B2 : Hid (Blk w2 w.heap.size _) := B1.out.kept K
  have K2 : Hid (Kept w w2) := K1.out.trans K
  clear K K1 B1
  have c0 := B2.out.at 0 rfl
  have c1 := B2.out.at 1 rfl
  have c2 := B2.out.at 2 rfl
  have c3 := B2.out.at 3 rfl
  have c4 := B2.out.at 4 rfl
  have c5 := B2.out.at 5 rfl
  have c6 := B2.out.at 6 rfl
  have c7 := B2.out.at 7 rfl
  have c8 := B2.out.at 8 rfl
  go_wp2_with fail
  refine (F.out _ (HS.out.kept K2.out)).mono ?_
  rintro e w3 ⟨rfl, K⟩
  have B3 : Hid (Blk w3 w.heap.size _) := B2.out.kept K
  have K3 : Hid (Kept w w3) := K2.out.trans K
  clear K K2 B2 c0 c1 c2 c3 c4 c5 c6 c7 c8
  go_wp2_with fail
  refine (first_any _).mono ?_
  rintro e w5 ⟨rfl, K⟩
  have K5 : Hid (Kept w w5) := K3.out.trans K
  clear K
  go_wp2
  go_ret
  exact ⟨rfl, K5.out⟩

set_option maxHeartbeats 1000000 in
theorem stocks_bad (n0 n1 n2 n3 n4 n5 n6 n7 : Int) (x : Option Addr) (l c : Nat) (S : Nat → Sh) (n9 n10 : Int) (w : World) (hS : Shps w x l S) (hf : Small l S) (hb : ¬ (Fits n0 n1 n2 n3 n4 n5 n6 n7 ∧ Mays l S) ∨ n9 < 1 ∨ 16 < n9 ∨ n10 < 0 ∨ 8 < n10) :
    Calls Try.prog 6 #[.agg #[.int .i64 n0, .int .i64 n1, .int .i64 n2, .int .i64 n3, .int .i64 n4, .int .i64 n5, .int .i64 n6, .int .i64 n7, .slice x l c], .int .i64 n9, .int .i64 n10] w fun e w' => e = .returned (.bool true) ∧ Kept w w' := by
  have HS : Hid (Shps w x l S) := hS
  have F : Hid (∀ w, Shps w x l S → _) := fun w h => few_any n0 n1 n2 n3 n4 n5 n6 n7 x l c S true w h (by simp [hf])
  obtain ⟨r, hr, hr3⟩ := Checks.some n0 n1 n2 n3 n4 n5 n6 n7 l S
  have C : Hid (∀ w, Shps w x l S → _) := fun w h => check_any n0 n1 n2 n3 n4 n5 n6 n7 x l c S r w h hr
  have HH : Hid (r = 0 → n9 < 1 ∨ 16 < n9 ∨ n10 < 0 ∨ 8 < n10) := by
    intro e
    subst e
    rcases hb with h | h
    · exact absurd hr.zero h
    · exact h
  clear hS hr hb
  go_enter Try.func6, Try.ntmps6
  go_wp2_with fail
  generalize hW1 : w.alloc _ = W1
  have B1 : Hid (Blk W1 w.heap.size (cl n0 n1 n2 n3 n4 n5 n6 n7 (.slice x l c))) := by rw [← hW1]; exact Blk.new w _ _
  have K1 : Hid (Kept w W1) := by rw [← hW1]; exact (Kept.refl w).alloc _ _
  clear hW1
  refine (first_any _).mono ?_
  rintro e w2 ⟨rfl, K⟩
  have B2 : Hid (Blk w2 w.heap.size _) := B1.out.kept K
  have K2 : Hid (Kept w w2) := K1.out.trans K
  clear K K1 B1
  have c0 := B2.out.at 0 rfl
  have c1 := B2.out.at 1 rfl
  have c2 := B2.out.at 2 rfl
  have c3 := B2.out.at 3 rfl
  have c4 := B2.out.at 4 rfl
  have c5 := B2.out.at 5 rfl
  have c6 := B2.out.at 6 rfl
  have c7 := B2.out.at 7 rfl
  have c8 := B2.out.at 8 rfl
  go_wp2_with fail
  refine (F.out _ (HS.out.kept K2.out)).mono ?_
  rintro e w3 ⟨rfl, K⟩
  have B3 : Hid (Blk w3 w.heap.size _) := B2.out.kept K
  have K3 : Hid (Kept w w3) := K2.out.trans K
  clear K K2 B2 c0 c1 c2 c3 c4 c5 c6 c7 c8
  have c0 := B3.out.at 0 rfl
  have c1 := B3.out.at 1 rfl
  have c2 := B3.out.at 2 rfl
  have c3 := B3.out.at 3 rfl
  have c4 := B3.out.at 4 rfl
  have c5 := B3.out.at 5 rfl
  have c6 := B3.out.at 6 rfl
  have c7 := B3.out.at 7 rfl
  have c8 := B3.out.at 8 rfl
  go_wp2_with fail
  refine (C.out _ (HS.out.kept K3.out)).mono ?_
  rintro e w4 ⟨rfl, K⟩
  have B4 : Hid (Blk w4 w.heap.size _) := B3.out.kept K
  have K4 : Hid (Kept w w4) := K3.out.trans K
  clear K K3 B3 c0 c1 c2 c3 c4 c5 c6 c7 c8
  by_cases h0 : r = 0
  · have h := HH.out h0
    subst h0
    by_cases g1 : n9 < 1
    · clear h
      go_wp2_with fail
      refine (first_any _).mono ?_
      rintro e w5 ⟨rfl, K⟩
      have K5 : Hid (Kept w w5) := K4.out.trans K
      clear K
      go_wp2
      go_ret
      exact ⟨rfl, K5.out⟩
    by_cases g2 : n9 > 16
    · clear h
      go_wp2_with fail
      refine (first_any _).mono ?_
      rintro e w5 ⟨rfl, K⟩
      have K5 : Hid (Kept w w5) := K4.out.trans K
      clear K
      go_wp2
      go_ret
      exact ⟨rfl, K5.out⟩
    by_cases g3 : n10 < 0
    · clear h
      go_wp2_with fail
      refine (first_any _).mono ?_
      rintro e w5 ⟨rfl, K⟩
      have K5 : Hid (Kept w w5) := K4.out.trans K
      clear K
      go_wp2
      go_ret
      exact ⟨rfl, K5.out⟩
    · have g4 : n10 > 8 := by omega
      clear h
      go_wp2_with fail
      refine (first_any _).mono ?_
      rintro e w5 ⟨rfl, K⟩
      have K5 : Hid (Kept w w5) := K4.out.trans K
      clear K
      go_wp2
      go_ret
      exact ⟨rfl, K5.out⟩
  · have h1 : (r != 0) = true := by simp [h0]
    clear h0
    go_wp2_with fail
    refine (first_any _).mono ?_
    rintro e w5 ⟨rfl, K⟩
    have K5 : Hid (Kept w w5) := K4.out.trans K
    clear K
    go_wp2
    go_ret
    exact ⟨rfl, K5.out⟩

set_option maxHeartbeats 1000000 in
theorem stocks_good (n0 n1 n2 n3 n4 n5 n6 n7 : Int) (x : Option Addr) (l c : Nat) (S : Nat → Sh) (n9 n10 : Int) (w : World) (hS : Shps w x l S) (hf : Small l S) (fit : Fits n0 n1 n2 n3 n4 n5 n6 n7) (may : Mays l S) (g1 : 1 ≤ n9) (g2 : n9 ≤ 16) (g3 : 0 ≤ n10) (g4 : n10 ≤ 8) :
    Calls Try.prog 6 #[.agg #[.int .i64 n0, .int .i64 n1, .int .i64 n2, .int .i64 n3, .int .i64 n4, .int .i64 n5, .int .i64 n6, .int .i64 n7, .slice x l c], .int .i64 n9, .int .i64 n10] w fun e w' => e = .returned (.bool true) ∧ Kept w w' := by
  have HS : Hid (Shps w x l S) := hS
  have F : Hid (∀ w, Shps w x l S → _) := fun w h => few_any n0 n1 n2 n3 n4 n5 n6 n7 x l c S true w h (by simp [hf])
  have C : Hid (∀ w, Shps w x l S → _) := fun w h => check_any n0 n1 n2 n3 n4 n5 n6 n7 x l c S 0 w h (Checks.of_ok fit may)
  obtain ⟨q, hq⟩ := bool_iff (n9 * n10 ≤ n0)
  have D : Hid (∀ w, Shps w x l S → Calls Try.prog 12 #[.agg #[.int .i64 n0, .int .i64 n1, .int .i64 n2, .int .i64 n9, .int .i64 n4, .int .i64 n10, .int .i64 n6, .int .i64 n7, .slice x l c]] w fun e w' => e = .returned (.int .i64 (if q then 0 else 1)) ∧ Kept w w') := fun w h =>
    check_any n0 n1 n2 n9 n4 n10 n6 n7 x l c S _ w h (by
      obtain ⟨f0, f1, f2, f3, f4, _, f6, _⟩ := fit
      cases q
      · refine Checks.of_out fun f => ?_
        have := hq.2 f.2.2.2.2.2.2.2.2
        cases this
      · exact Checks.of_ok ⟨f0, f1, f2, f3, f4, ⟨g1, g2⟩, f6, ⟨g3, g4⟩, hq.1 rfl⟩ may)
  have m1 := mul_bounds ⟨g1, g2⟩ ⟨g3, g4⟩
  have m2 := mul_bounds fit.2.2.2.2.2.1 fit.2.2.2.2.2.2.2.1
  have m3 := fit.2.2.2.2.2.2.2.2
  have HQ : Hid (decide (n9 * n10 ≤ n0) = q) := by
    cases q
    · have : ¬ n9 * n10 ≤ n0 := fun h => by have := hq.2 h; cases this
      exact decide_eq_false this
    · exact decide_eq_true (hq.1 rfl)
  clear hS hf fit may hq
  have t1 : ¬ n9 < 1 := by omega
  have t2 : ¬ n9 > 16 := by omega
  have t3 : ¬ n10 < 0 := by omega
  have t4 : ¬ n10 > 8 := by omega
  go_enter Try.func6, Try.ntmps6
  go_wp2_with fail
  generalize hW1 : w.alloc _ = W1
  have B1 : Hid (Blk W1 w.heap.size (cl n0 n1 n2 n3 n4 n5 n6 n7 (.slice x l c))) := by rw [← hW1]; exact Blk.new w _ _
  have K1 : Hid (Kept w W1) := by rw [← hW1]; exact (Kept.refl w).alloc _ _
  clear hW1
  refine (first_any _).mono ?_
  rintro e w2 ⟨rfl, K⟩
  have B2 : Hid (Blk w2 w.heap.size _) := B1.out.kept K
  have K2 : Hid (Kept w w2) := K1.out.trans K
  clear K K1 B1
  have c0 := B2.out.at 0 rfl
  have c1 := B2.out.at 1 rfl
  have c2 := B2.out.at 2 rfl
  have c3 := B2.out.at 3 rfl
  have c4 := B2.out.at 4 rfl
  have c5 := B2.out.at 5 rfl
  have c6 := B2.out.at 6 rfl
  have c7 := B2.out.at 7 rfl
  have c8 := B2.out.at 8 rfl
  go_wp2_with fail
  refine (F.out _ (HS.out.kept K2.out)).mono ?_
  rintro e w3 ⟨rfl, K⟩
  have B3 : Hid (Blk w3 w.heap.size _) := B2.out.kept K
  have K3 : Hid (Kept w w3) := K2.out.trans K
  clear K K2 B2 c0 c1 c2 c3 c4 c5 c6 c7 c8
  have c0 := B3.out.at 0 rfl
  have c1 := B3.out.at 1 rfl
  have c2 := B3.out.at 2 rfl
  have c3 := B3.out.at 3 rfl
  have c4 := B3.out.at 4 rfl
  have c5 := B3.out.at 5 rfl
  have c6 := B3.out.at 6 rfl
  have c7 := B3.out.at 7 rfl
  have c8 := B3.out.at 8 rfl
  go_wp2_with fail
  refine (C.out _ (HS.out.kept K3.out)).mono ?_
  rintro e w4 ⟨rfl, K⟩
  have B4 : Hid (Blk w4 w.heap.size _) := B3.out.kept K
  have K4 : Hid (Kept w w4) := K3.out.trans K
  clear K K3 B3 c0 c1 c2 c3 c4 c5 c6 c7 c8
  have c0 := B4.out.at 0 rfl
  have c1 := B4.out.at 1 rfl
  have c2 := B4.out.at 2 rfl
  have c3 := B4.out.at 3 rfl
  have c4 := B4.out.at 4 rfl
  have c5 := B4.out.at 5 rfl
  have c6 := B4.out.at 6 rfl
  have c7 := B4.out.at 7 rfl
  have c8 := B4.out.at 8 rfl
  go_wp2_with fail
  generalize hW : w4.alloc _ = W5
  have K : Kept w4 W5 := by
    rw [← hW]
    exact (Kept.refl w4).alloc _ _
  have D5 : Hid (Blk W5 w4.heap.size (cl n0 n1 n2 n9 n4 n10 n6 n7 (.slice x l c))) := by
    rw [← hW]
    exact Blk.new w4 _ _
  have E5 : Hid (Blk W5 w.heap.size (cl n0 n1 n2 n3 n4 n5 n6 n7 (.slice x l c))) := B4.out.kept K
  have K5 : Hid (Kept w W5) := K4.out.trans K
  have S5 : Hid (∀ z : KW W5, Shps z.it x l S) := fun z => (HS.out.kept K5.out).kept z.ok
  clear hW K K4 B4 c0 c1 c2 c3 c4 c5 c6 c7 c8
  have d0 := fun z : KW W5 => z.cell D5.out.lt (D5.out.at 0 rfl)
  have d1 := fun z : KW W5 => z.cell D5.out.lt (D5.out.at 1 rfl)
  have d2 := fun z : KW W5 => z.cell D5.out.lt (D5.out.at 2 rfl)
  have d3 := fun z : KW W5 => z.cell D5.out.lt (D5.out.at 3 rfl)
  have d4 := fun z : KW W5 => z.cell D5.out.lt (D5.out.at 4 rfl)
  have d5 := fun z : KW W5 => z.cell D5.out.lt (D5.out.at 5 rfl)
  have d6 := fun z : KW W5 => z.cell D5.out.lt (D5.out.at 6 rfl)
  have d7 := fun z : KW W5 => z.cell D5.out.lt (D5.out.at 7 rfl)
  have d8 := fun z : KW W5 => z.cell D5.out.lt (D5.out.at 8 rfl)
  have e0 := fun z : KW W5 => z.cell E5.out.lt (E5.out.at 0 rfl)
  have e3 := fun z : KW W5 => z.cell E5.out.lt (E5.out.at 3 rfl)
  have e5 := fun z : KW W5 => z.cell E5.out.lt (E5.out.at 5 rfl)
  cases q
  · have D1 : Hid (∀ w, Shps w x l S → Calls Try.prog 12 #[.agg #[.int .i64 n0, .int .i64 n1, .int .i64 n2, .int .i64 n9, .int .i64 n4, .int .i64 n10, .int .i64 n6, .int .i64 n7, .slice x l c]] w fun e w' => e = .returned (.int .i64 1) ∧ Kept w w') := D
    have hq : decide (n9 * n10 ≤ n0) = false := by
      have := HQ.out
      simpa using this
    refine wp_region_kept (by kernel_rfl) (by kernel_rfl) fun _ => ?_
    repeat (go_big_quiet_step (first | (go_at_call 8; exact kept_of (first_any _)) | (go_at_call 12; exact kept_of (D1.out _ (S5.out _)))))
    refine wpQuiet_nil ?_
    rintro _ ⟨z, rfl⟩
    clear d0 d1 d2 d3 d4 d5 d6 d7 d8 e0 e3 e5
    go_wp2
    go_ret
    exact ⟨rfl, K5.out.trans z.ok⟩
  · have D1 : Hid (∀ w, Shps w x l S → Calls Try.prog 12 #[.agg #[.int .i64 n0, .int .i64 n1, .int .i64 n2, .int .i64 n9, .int .i64 n4, .int .i64 n10, .int .i64 n6, .int .i64 n7, .slice x l c]] w fun e w' => e = .returned (.int .i64 0) ∧ Kept w w') := D
    have hq : n9 * n10 ≤ n0 := by
      have := HQ.out
      simpa using this
    refine wp_region_kept (by kernel_rfl) (by kernel_rfl) fun _ => ?_
    repeat (go_big_quiet_step (first | (go_at_call 8; exact kept_of (first_any _)) | (go_at_call 12; exact kept_of (D1.out _ (S5.out _)))))
    refine wpQuiet_nil ?_
    rintro _ ⟨z, rfl⟩
    clear d0 d1 d2 d3 d4 d5 d6 d7 d8 e0 e3 e5
    go_wp2
    go_ret
    exact ⟨rfl, K5.out.trans z.ok⟩

theorem confStocks_any (n0 : Int) (n1 : Int) (n2 : Int) (n3 : Int) (n4 : Int) (n5 : Int) (n6 : Int) (n7 : Int) (x8 : Option Addr) (l8 c8 : Nat) (S8 : Nat → Sh) (R8 : Nat → Nat → Bool) (n9 : Int) (n10 : Int) (w : World) (_lo0 : IntKind.min .i64 ≤ n0) (_hi0 : n0 ≤ IntKind.max .i64) (_lo1 : IntKind.min .i64 ≤ n1) (_hi1 : n1 ≤ IntKind.max .i64) (_lo2 : IntKind.min .i64 ≤ n2) (_hi2 : n2 ≤ IntKind.max .i64) (_lo3 : IntKind.min .i64 ≤ n3) (_hi3 : n3 ≤ IntKind.max .i64) (_lo4 : IntKind.min .i64 ≤ n4) (_hi4 : n4 ≤ IntKind.max .i64) (_lo5 : IntKind.min .i64 ≤ n5) (_hi5 : n5 ≤ IntKind.max .i64) (_lo6 : IntKind.min .i64 ≤ n6) (_hi6 : n6 ≤ IntKind.max .i64) (_lo7 : IntKind.min .i64 ≤ n7) (_hi7 : n7 ≤ IntKind.max .i64) (_h8c : l8 ≤ c8) (hS8 : Shps w x8 l8 S8) (_hR8 : ∀ i, i < l8 → Refs w (S8 i).x (S8 i).l (R8 i)) (_lo9 : IntKind.min .i64 ≤ n9) (_hi9 : n9 ≤ IntKind.max .i64) (_lo10 : IntKind.min .i64 ≤ n10) (_hi10 : n10 ≤ IntKind.max .i64) :
    Calls Try.prog 6 #[.agg #[.int .i64 n0, .int .i64 n1, .int .i64 n2, .int .i64 n3, .int .i64 n4, .int .i64 n5, .int .i64 n6, .int .i64 n7, .slice x8 l8 c8], .int .i64 n9, .int .i64 n10] w fun e w' => e = .returned (.bool true) ∧ Kept w w' := by
  by_cases hf : Small l8 S8
  · by_cases hb : ¬ (Fits n0 n1 n2 n3 n4 n5 n6 n7 ∧ Mays l8 S8) ∨ n9 < 1 ∨ 16 < n9 ∨ n10 < 0 ∨ 8 < n10
    · exact stocks_bad n0 n1 n2 n3 n4 n5 n6 n7 x8 l8 c8 S8 n9 n10 w hS8 hf hb
    · have hfm : Fits n0 n1 n2 n3 n4 n5 n6 n7 ∧ Mays l8 S8 := Classical.byContradiction fun h => hb (Or.inl h)
      have hr : ¬ (n9 < 1 ∨ 16 < n9 ∨ n10 < 0 ∨ 8 < n10) := fun h => hb (Or.inr h)
      exact stocks_good n0 n1 n2 n3 n4 n5 n6 n7 x8 l8 c8 S8 n9 n10 w hS8 hf hfm.1 hfm.2 (by omega) (by omega) (by omega) (by omega)
  · exact stocks_many n0 n1 n2 n3 n4 n5 n6 n7 x8 l8 c8 S8 n9 n10 w hS8 hf
end Go.Proofs.Ytpeplgiofiikhaa
