/-
  TintBorn: the walk.
-/
import Derived.Test.YtbipkhcgnimgkaaTintNew
namespace Go.Proofs.Ytbipkhcgnimgkaa
open Go.RowKit

set_option maxHeartbeats 2000000 in
theorem born_bad (n i s : Int) (c : Bool) (w : World) (hn : ¬ (0 ≤ n ∧ n ≤ 1024)) :
    Calls Try.prog 6 #[.int .i64 n, .int .i64 i, .int .i64 s, .bool c] w fun e w' => e = .returned (.bool true) ∧ Kept w w' := by
  have HN : Hid (∀ w, _) := fun w => new_bad n w hn
  clear hn
  go_enter Try.func6, Try.ntmps6
  go_wp2_with fail
  refine (first_any _).mono ?_
  rintro e w1 ⟨rfl, k1⟩
  have K1 : Hid (Kept w w1) := k1
  clear k1
  go_wp2_with fail
  refine (HN.out _).mono ?_
  rintro e w2 ⟨rfl, rfl⟩
  go_wp2_with fail
  refine (first_any _).mono ?_
  rintro e w9 ⟨rfl, k9⟩
  have K9 : Hid (Kept w w9) := K1.out.trans k9
  clear k9
  go_wp2
  go_ret
  exact ⟨rfl, K9.out⟩

set_option maxHeartbeats 2000000 in
theorem born_out (n : Nat) (i s : Int) (c : Bool) (w : World) (hn : n ≤ 1024) (ho : ¬ ((n : Int) ≤ 100 ∧ 0 ≤ s ∧ s ≤ 2)) :
    Calls Try.prog 6 #[.int .i64 n, .int .i64 i, .int .i64 s, .bool c] w fun e w' => e = .returned (.bool true) ∧ Kept w w' := by
  go_enter Try.func6, Try.ntmps6
  go_wp2_with fail
  refine (first_any _).mono ?_
  rintro e w1 ⟨rfl, k1⟩
  have K1 : Hid (Kept w w1) := k1
  clear k1
  go_wp2_with fail
  refine (new_any n w1 (by omega)).mono ?_
  rintro e w2 ⟨b, g, rfl, ht, hb, hg, k2⟩
  have H2 : Hid (Tab w2 b g n T0 ∧ w.heap.size ≤ g ∧ Kept w w2) := ⟨ht, by have := K1.out.size; omega, K1.out.trans k2⟩
  clear ht hb hg k2 K1
  have K2 : Hid (Kept w w2) := H2.out.2.2
  clear H2
  rcases (show (100 < (n : Int)) ∨ ((n : Int) ≤ 100 ∧ s < 0) ∨ ((n : Int) ≤ 100 ∧ 0 ≤ s ∧ 2 < s) by omega) with h | ⟨h, h1⟩ | ⟨h, h1, h2⟩
  · go_wp2_with fail
    refine (first_any _).mono ?_
    rintro e w9 ⟨rfl, k9⟩
    have K9 : Hid (Kept w w9) := K2.out.trans k9
    clear k9
    go_wp2
    go_ret
    exact ⟨rfl, K9.out⟩
  · go_wp2_with fail
    refine (first_any _).mono ?_
    rintro e w9 ⟨rfl, k9⟩
    have K9 : Hid (Kept w w9) := K2.out.trans k9
    clear k9
    go_wp2
    go_ret
    exact ⟨rfl, K9.out⟩
  · go_wp2_with fail
    refine (first_any _).mono ?_
    rintro e w9 ⟨rfl, k9⟩
    have K9 : Hid (Kept w w9) := K2.out.trans k9
    clear k9
    go_wp2
    go_ret
    exact ⟨rfl, K9.out⟩

set_option maxHeartbeats 2000000 in
theorem born_low (n : Nat) (i s : Int) (c : Bool) (w : World) (hn : (n : Int) ≤ 100) (hs : 0 ≤ s ∧ s ≤ 2) (hi : i < 0) :
    Calls Try.prog 6 #[.int .i64 n, .int .i64 i, .int .i64 s, .bool c] w fun e w' => e = .returned (.bool true) ∧ Kept w w' := by
  obtain ⟨T1, T2, e1, e2, e3, a1, a2, a3, a4, a5, a6⟩ : ∃ T1 T2, Hid (setT n T0 i s false c = T1) ∧ Hid (bornT n T1 i = T2) ∧ Hid (bornT n T2 i = T2) ∧ Hid ((inn n i && isSt s) = false) ∧ Hid (bornB n T1 i = false) ∧ Hid (bornB n T2 i = false) ∧ Hid (hdd n T2 i = false) ∧ Hid (blk n T2 i c = false) ∧ Hid (blk n T2 i (!c) = false) := by
    have h : inn n i = false := by simp [inn]; omega
    exact ⟨T0, T0, by simp [Hid, setT, h], by simp [Hid, bornT, bornB, usd, h], by simp [Hid, bornT, bornB, usd, h], by simp [Hid, h], by simp [Hid, bornB, usd, h], by simp [Hid, bornB, usd, h], by simp [Hid, hdd, h], by simp [Hid, blk, usd, h], by simp [Hid, blk, usd, h]⟩
  have hs1 := hs.1
  have hs2 := hs.2
  clear hs
  go_enter Try.func6, Try.ntmps6
  go_wp2_with fail
  refine (first_any _).mono ?_
  rintro e w1 ⟨rfl, k1⟩
  have K1 : Hid (Kept w w1) := k1
  clear k1
  go_wp2_with fail
  refine (new_any n w1 (by omega)).mono ?_
  rintro e w2 ⟨b, g, rfl, ht, hb, hg, k2⟩
  have H2 : Hid (Tab w2 b g n T0 ∧ w.heap.size ≤ g ∧ Kept w w2) := ⟨ht, by have := K1.out.size; omega, K1.out.trans k2⟩
  clear ht hb hg k2 K1
  go_wp2_with fail
  refine (set_any i s false c _ H2.out.1).mono ?_
  rintro e w3 ⟨rfl, ht, m3⟩
  have H3 : Hid (Tab w3 b g n T1 ∧ w.heap.size ≤ g ∧ Kept w w3) := ⟨e1.out ▸ ht, H2.out.2.1, H2.out.2.2.muts m3 (by simpa using H2.out.2.1)⟩
  clear ht m3 H2
  rw [a1.out]
  go_wp2_with fail
  refine (born_any i _ H3.out.1).mono ?_
  rintro e w4 ⟨rfl, ht, m4⟩
  have H4 : Hid (Tab w4 b g n T2 ∧ w.heap.size ≤ g ∧ Kept w w4) := ⟨e2.out ▸ ht, H3.out.2.1, H3.out.2.2.muts m4 (by simpa using H3.out.2.1)⟩
  clear ht m4 H3
  rw [a2.out]
  go_wp2_with fail
  refine (born_any i _ H4.out.1).mono ?_
  rintro e w5 ⟨rfl, ht, m5⟩
  have H5 : Hid (Tab w5 b g n T2 ∧ w.heap.size ≤ g ∧ Kept w w5) := ⟨e3.out ▸ ht, H4.out.2.1, H4.out.2.2.muts m5 (by simpa using H4.out.2.1)⟩
  clear ht m5 H4
  rw [a3.out]
  go_wp2_with fail
  refine (first_any _).mono ?_
  rintro e w6 ⟨rfl, k6⟩
  have H6 : Hid (Tab w6 b g n T2 ∧ Kept w w6) := ⟨H5.out.1.kept k6, H5.out.2.2.trans k6⟩
  clear k6 H5
  go_wp2_with fail
  refine (head_any i _ H6.out.1).mono ?_
  rintro e w7 ⟨rfl, rfl⟩
  rw [a4.out]
  go_wp2_with fail
  refine (black_any i c _ H6.out.1).mono ?_
  rintro e w8 ⟨rfl, rfl⟩
  rw [a5.out]
  go_wp2_with fail
  refine (black_any i (!c) _ H6.out.1).mono ?_
  rintro e w9 ⟨rfl, rfl⟩
  rw [a6.out]
  go_wp2
  go_ret
  exact ⟨rfl, H6.out.2⟩

set_option maxHeartbeats 2000000 in
theorem born_high (n : Nat) (i s : Int) (c : Bool) (w : World) (hn : (n : Int) ≤ 100) (hs : 0 ≤ s ∧ s ≤ 2) (hi0 : 0 ≤ i) (hi : ¬ i < (n : Int)) :
    Calls Try.prog 6 #[.int .i64 n, .int .i64 i, .int .i64 s, .bool c] w fun e w' => e = .returned (.bool true) ∧ Kept w w' := by
  obtain ⟨T1, T2, e1, e2, e3, a1, a2, a3, a4, a5, a6⟩ : ∃ T1 T2, Hid (setT n T0 i s false c = T1) ∧ Hid (bornT n T1 i = T2) ∧ Hid (bornT n T2 i = T2) ∧ Hid ((inn n i && isSt s) = false) ∧ Hid (bornB n T1 i = false) ∧ Hid (bornB n T2 i = false) ∧ Hid (hdd n T2 i = false) ∧ Hid (blk n T2 i c = false) ∧ Hid (blk n T2 i (!c) = false) := by
    have h : inn n i = false := by simp [inn]; omega
    exact ⟨T0, T0, by simp [Hid, setT, h], by simp [Hid, bornT, bornB, usd, h], by simp [Hid, bornT, bornB, usd, h], by simp [Hid, h], by simp [Hid, bornB, usd, h], by simp [Hid, bornB, usd, h], by simp [Hid, hdd, h], by simp [Hid, blk, usd, h], by simp [Hid, blk, usd, h]⟩
  have hs1 := hs.1
  have hs2 := hs.2
  clear hs
  go_enter Try.func6, Try.ntmps6
  go_wp2_with fail
  refine (first_any _).mono ?_
  rintro e w1 ⟨rfl, k1⟩
  have K1 : Hid (Kept w w1) := k1
  clear k1
  go_wp2_with fail
  refine (new_any n w1 (by omega)).mono ?_
  rintro e w2 ⟨b, g, rfl, ht, hb, hg, k2⟩
  have H2 : Hid (Tab w2 b g n T0 ∧ w.heap.size ≤ g ∧ Kept w w2) := ⟨ht, by have := K1.out.size; omega, K1.out.trans k2⟩
  clear ht hb hg k2 K1
  go_wp2_with fail
  refine (set_any i s false c _ H2.out.1).mono ?_
  rintro e w3 ⟨rfl, ht, m3⟩
  have H3 : Hid (Tab w3 b g n T1 ∧ w.heap.size ≤ g ∧ Kept w w3) := ⟨e1.out ▸ ht, H2.out.2.1, H2.out.2.2.muts m3 (by simpa using H2.out.2.1)⟩
  clear ht m3 H2
  rw [a1.out]
  go_wp2_with fail
  refine (born_any i _ H3.out.1).mono ?_
  rintro e w4 ⟨rfl, ht, m4⟩
  have H4 : Hid (Tab w4 b g n T2 ∧ w.heap.size ≤ g ∧ Kept w w4) := ⟨e2.out ▸ ht, H3.out.2.1, H3.out.2.2.muts m4 (by simpa using H3.out.2.1)⟩
  clear ht m4 H3
  rw [a2.out]
  go_wp2_with fail
  refine (born_any i _ H4.out.1).mono ?_
  rintro e w5 ⟨rfl, ht, m5⟩
  have H5 : Hid (Tab w5 b g n T2 ∧ w.heap.size ≤ g ∧ Kept w w5) := ⟨e3.out ▸ ht, H4.out.2.1, H4.out.2.2.muts m5 (by simpa using H4.out.2.1)⟩
  clear ht m5 H4
  rw [a3.out]
  go_wp2_with fail
  refine (first_any _).mono ?_
  rintro e w6 ⟨rfl, k6⟩
  have H6 : Hid (Tab w6 b g n T2 ∧ Kept w w6) := ⟨H5.out.1.kept k6, H5.out.2.2.trans k6⟩
  clear k6 H5
  go_wp2_with fail
  refine (head_any i _ H6.out.1).mono ?_
  rintro e w7 ⟨rfl, rfl⟩
  rw [a4.out]
  go_wp2_with fail
  refine (black_any i c _ H6.out.1).mono ?_
  rintro e w8 ⟨rfl, rfl⟩
  rw [a5.out]
  go_wp2_with fail
  refine (black_any i (!c) _ H6.out.1).mono ?_
  rintro e w9 ⟨rfl, rfl⟩
  rw [a6.out]
  go_wp2
  go_ret
  exact ⟨rfl, H6.out.2⟩

set_option maxHeartbeats 2000000 in
theorem born_other (n : Nat) (i s : Int) (c : Bool) (w : World) (hn : (n : Int) ≤ 100) (hs : 0 ≤ s ∧ s ≤ 2) (hi0 : 0 ≤ i) (hi : i < (n : Int)) (h2 : (s == 2) = false) :
    Calls Try.prog 6 #[.int .i64 n, .int .i64 i, .int .i64 s, .bool c] w fun e w' => e = .returned (.bool true) ∧ Kept w w' := by
  obtain ⟨T1, T2, e1, e2, e3, a1, a2, a3, a4, a5, a6⟩ : ∃ T1 T2, Hid (setT n T0 i s false c = T1) ∧ Hid (bornT n T1 i = T2) ∧ Hid (bornT n T2 i = T2) ∧ Hid ((inn n i && isSt s) = true) ∧ Hid (bornB n T1 i = false) ∧ Hid (bornB n T2 i = false) ∧ Hid (hdd n T2 i = false) ∧ Hid (blk n T2 i c = false) ∧ Hid (blk n T2 i (!c) = false) := by
    have h : inn n i = true := by simp [inn]; omega
    have hS : isSt s = true := by
      rcases (show s = 0 ∨ s = 1 ∨ s = 2 by omega) with rfl | rfl | rfl <;> rfl
    have t1 : setT n T0 i s false c = fun j => if j = i.toNat then ⟨s, false, c⟩ else T0 j := by simp [setT, h, hS]
    refine ⟨fun j => if j = i.toNat then ⟨s, false, c⟩ else T0 j, fun j => if j = i.toNat then ⟨s, false, c⟩ else T0 j, t1, ?_, ?_, by simp [Hid, h, hS], ?_, ?_, ?_, ?_, ?_⟩
    all_goals simp [Hid, bornT, bornB, usd, hdd, blk, h, h2]
  have hs1 := hs.1
  have hs2 := hs.2
  clear hs
  go_enter Try.func6, Try.ntmps6
  go_wp2_with fail
  refine (first_any _).mono ?_
  rintro e w1 ⟨rfl, k1⟩
  have K1 : Hid (Kept w w1) := k1
  clear k1
  go_wp2_with fail
  refine (new_any n w1 (by omega)).mono ?_
  rintro e w2 ⟨b, g, rfl, ht, hb, hg, k2⟩
  have H2 : Hid (Tab w2 b g n T0 ∧ w.heap.size ≤ g ∧ Kept w w2) := ⟨ht, by have := K1.out.size; omega, K1.out.trans k2⟩
  clear ht hb hg k2 K1
  go_wp2_with fail
  refine (set_any i s false c _ H2.out.1).mono ?_
  rintro e w3 ⟨rfl, ht, m3⟩
  have H3 : Hid (Tab w3 b g n T1 ∧ w.heap.size ≤ g ∧ Kept w w3) := ⟨e1.out ▸ ht, H2.out.2.1, H2.out.2.2.muts m3 (by simpa using H2.out.2.1)⟩
  clear ht m3 H2
  rw [a1.out]
  go_wp2_with fail
  refine (born_any i _ H3.out.1).mono ?_
  rintro e w4 ⟨rfl, ht, m4⟩
  have H4 : Hid (Tab w4 b g n T2 ∧ w.heap.size ≤ g ∧ Kept w w4) := ⟨e2.out ▸ ht, H3.out.2.1, H3.out.2.2.muts m4 (by simpa using H3.out.2.1)⟩
  clear ht m4 H3
  rw [a2.out]
  go_wp2_with fail
  refine (born_any i _ H4.out.1).mono ?_
  rintro e w5 ⟨rfl, ht, m5⟩
  have H5 : Hid (Tab w5 b g n T2 ∧ w.heap.size ≤ g ∧ Kept w w5) := ⟨e3.out ▸ ht, H4.out.2.1, H4.out.2.2.muts m5 (by simpa using H4.out.2.1)⟩
  clear ht m5 H4
  rw [a3.out]
  go_wp2_with fail
  refine (first_any _).mono ?_
  rintro e w6 ⟨rfl, k6⟩
  have H6 : Hid (Tab w6 b g n T2 ∧ Kept w w6) := ⟨H5.out.1.kept k6, H5.out.2.2.trans k6⟩
  clear k6 H5
  go_wp2_with fail
  refine (head_any i _ H6.out.1).mono ?_
  rintro e w7 ⟨rfl, rfl⟩
  rw [a4.out]
  go_wp2_with fail
  refine (black_any i c _ H6.out.1).mono ?_
  rintro e w8 ⟨rfl, rfl⟩
  rw [a5.out]
  go_wp2_with fail
  refine (black_any i (!c) _ H6.out.1).mono ?_
  rintro e w9 ⟨rfl, rfl⟩
  rw [a6.out]
  go_wp2
  go_ret
  exact ⟨rfl, H6.out.2⟩

set_option maxHeartbeats 2000000 in
theorem born_used (n : Nat) (i s : Int) (c : Bool) (w : World) (hn : (n : Int) ≤ 100) (hs : 0 ≤ s ∧ s ≤ 2) (hi0 : 0 ≤ i) (hi : i < (n : Int)) (h2 : (s == 2) = true) :
    Calls Try.prog 6 #[.int .i64 n, .int .i64 i, .int .i64 s, .bool c] w fun e w' => e = .returned (.bool true) ∧ Kept w w' := by
  obtain ⟨T1, T2, e1, e2, e3, a1, a2, a3, a4, a5, a6⟩ : ∃ T1 T2, Hid (setT n T0 i s false c = T1) ∧ Hid (bornT n T1 i = T2) ∧ Hid (bornT n T2 i = T2) ∧ Hid ((inn n i && isSt s) = true) ∧ Hid (bornB n T1 i = true) ∧ Hid (bornB n T2 i = false) ∧ Hid (hdd n T2 i = true) ∧ Hid (blk n T2 i c = true) ∧ Hid (blk n T2 i (!c) = false) := by
    have h : inn n i = true := by simp [inn]; omega
    have hS : isSt s = true := by
      rcases (show s = 0 ∨ s = 1 ∨ s = 2 by omega) with rfl | rfl | rfl <;> rfl
    have t1 : setT n T0 i s false c = fun j => if j = i.toNat then ⟨s, false, c⟩ else T0 j := by simp [setT, h, hS]
    refine ⟨fun j => if j = i.toNat then ⟨s, false, c⟩ else T0 j, fun j => if j = i.toNat then ⟨s, true, c⟩ else T0 j, t1, ?_, ?_, by simp [Hid, h, hS], ?_, ?_, ?_, ?_, ?_⟩
    · unfold Hid
      funext j
      by_cases e : j = i.toNat <;> simp [bornT, bornB, usd, h, h2, e]
    all_goals simp [Hid, bornT, bornB, usd, hdd, blk, h, h2]
  have hs1 := hs.1
  have hs2 := hs.2
  clear hs
  go_enter Try.func6, Try.ntmps6
  go_wp2_with fail
  refine (first_any _).mono ?_
  rintro e w1 ⟨rfl, k1⟩
  have K1 : Hid (Kept w w1) := k1
  clear k1
  go_wp2_with fail
  refine (new_any n w1 (by omega)).mono ?_
  rintro e w2 ⟨b, g, rfl, ht, hb, hg, k2⟩
  have H2 : Hid (Tab w2 b g n T0 ∧ w.heap.size ≤ g ∧ Kept w w2) := ⟨ht, by have := K1.out.size; omega, K1.out.trans k2⟩
  clear ht hb hg k2 K1
  go_wp2_with fail
  refine (set_any i s false c _ H2.out.1).mono ?_
  rintro e w3 ⟨rfl, ht, m3⟩
  have H3 : Hid (Tab w3 b g n T1 ∧ w.heap.size ≤ g ∧ Kept w w3) := ⟨e1.out ▸ ht, H2.out.2.1, H2.out.2.2.muts m3 (by simpa using H2.out.2.1)⟩
  clear ht m3 H2
  rw [a1.out]
  go_wp2_with fail
  refine (born_any i _ H3.out.1).mono ?_
  rintro e w4 ⟨rfl, ht, m4⟩
  have H4 : Hid (Tab w4 b g n T2 ∧ w.heap.size ≤ g ∧ Kept w w4) := ⟨e2.out ▸ ht, H3.out.2.1, H3.out.2.2.muts m4 (by simpa using H3.out.2.1)⟩
  clear ht m4 H3
  rw [a2.out]
  go_wp2_with fail
  refine (born_any i _ H4.out.1).mono ?_
  rintro e w5 ⟨rfl, ht, m5⟩
  have H5 : Hid (Tab w5 b g n T2 ∧ w.heap.size ≤ g ∧ Kept w w5) := ⟨e3.out ▸ ht, H4.out.2.1, H4.out.2.2.muts m5 (by simpa using H4.out.2.1)⟩
  clear ht m5 H4
  rw [a3.out]
  go_wp2_with fail
  refine (first_any _).mono ?_
  rintro e w6 ⟨rfl, k6⟩
  have H6 : Hid (Tab w6 b g n T2 ∧ Kept w w6) := ⟨H5.out.1.kept k6, H5.out.2.2.trans k6⟩
  clear k6 H5
  go_wp2_with fail
  refine (head_any i _ H6.out.1).mono ?_
  rintro e w7 ⟨rfl, rfl⟩
  rw [a4.out]
  go_wp2_with fail
  refine (black_any i c _ H6.out.1).mono ?_
  rintro e w8 ⟨rfl, rfl⟩
  rw [a5.out]
  go_wp2_with fail
  refine (black_any i (!c) _ H6.out.1).mono ?_
  rintro e w9 ⟨rfl, rfl⟩
  rw [a6.out]
  go_wp2
  go_ret
  exact ⟨rfl, H6.out.2⟩

theorem tintBorn_any (n0 : Int) (n1 : Int) (n2 : Int) (p3 : Bool) (w : World) (_lo0 : IntKind.min .i64 ≤ n0) (_hi0 : n0 ≤ IntKind.max .i64) (_lo1 : IntKind.min .i64 ≤ n1) (_hi1 : n1 ≤ IntKind.max .i64) (_lo2 : IntKind.min .i64 ≤ n2) (_hi2 : n2 ≤ IntKind.max .i64) :
    Calls Try.prog 6 #[.int .i64 n0, .int .i64 n1, .int .i64 n2, .bool p3] w fun e w' => e = .returned (.bool true) ∧ Kept w w' := by
  by_cases hn : 0 ≤ n0 ∧ n0 ≤ 1024
  · obtain ⟨n, rfl⟩ : ∃ n : Nat, n0 = n := ⟨n0.toNat, by omega⟩
    by_cases ho : (n : Int) ≤ 100 ∧ 0 ≤ n2 ∧ n2 ≤ 2
    · by_cases h0 : n1 < 0
      · exact born_low n n1 n2 p3 w ho.1 ho.2 h0
      · by_cases h1 : n1 < (n : Int)
        · cases h2 : n2 == 2
          · exact born_other n n1 n2 p3 w ho.1 ho.2 (by omega) h1 h2
          · exact born_used n n1 n2 p3 w ho.1 ho.2 (by omega) h1 h2
        · exact born_high n n1 n2 p3 w ho.1 ho.2 (by omega) h1
    · exact born_out n n1 n2 p3 w (by omega) ho
  · exact born_bad n0 n1 n2 p3 w hn
end Go.Proofs.Ytbipkhcgnimgkaa
