/-
  TintSets: the walk.
-/
import Derived.Test.YtbipkhcgnimgkaaTintNew
namespace Go.Proofs.Ytbipkhcgnimgkaa
open Go.RowKit

set_option maxHeartbeats 2000000 in
set_option maxRecDepth 20000 in
theorem sets_bad (n i s : Int) (p c : Bool) (w : World) (hn : ¬ (0 ≤ n ∧ n ≤ 1024)) :
    Calls Try.prog 7 #[.int .i64 n, .int .i64 i, .int .i64 s, .bool p, .bool c] w fun e w' => e = .returned (.bool true) ∧ Kept w w' := by
  have HN : Hid (∀ w, _) := fun w => new_bad n w hn
  clear hn
  go_enter Try.func7, Try.ntmps7
  go_wp2_with fail
  refine (first_any _).mono ?_
  rintro e w1 ⟨rfl, k1⟩
  have K1 : Hid (Kept w w1) := k1
  clear k1
  go_wp2_with fail
  refine (HN.out _).mono ?_
  rintro e w2 ⟨rfl, rfl⟩
  go_wp2_with fail
  refine (first_any _).mono ?_
  rintro e w9 ⟨rfl, k9⟩
  have K9 : Hid (Kept w w9) := K1.out.trans k9
  clear k9
  go_wp2
  go_ret
  exact ⟨rfl, K9.out⟩

set_option maxHeartbeats 2000000 in
set_option maxRecDepth 20000 in
theorem sets_out (n : Nat) (i s : Int) (p c : Bool) (w : World) (hn : n ≤ 1024) (ho : ¬ ((1 ≤ (n : Int) ∧ (n : Int) ≤ 100) ∧ (0 ≤ i ∧ i < n) ∧ 0 ≤ s ∧ s ≤ 2)) :
    Calls Try.prog 7 #[.int .i64 n, .int .i64 i, .int .i64 s, .bool p, .bool c] w fun e w' => e = .returned (.bool true) ∧ Kept w w' := by
  go_enter Try.func7, Try.ntmps7
  go_wp2_with fail
  refine (first_any _).mono ?_
  rintro e w1 ⟨rfl, k1⟩
  have K1 : Hid (Kept w w1) := k1
  clear k1
  go_wp2_with fail
  refine (new_any n w1 (by omega)).mono ?_
  rintro e w2 ⟨b, g, rfl, ht, hb, hg, k2⟩
  have H2 : Hid (Tab w2 b g n T0 ∧ w.heap.size ≤ g ∧ Kept w w2) := ⟨ht, by have := K1.out.size; omega, K1.out.trans k2⟩
  clear ht hb hg k2 K1
  have K2 : Hid (Kept w w2) := H2.out.2.2
  clear H2
  rcases (show ((n : Int) < 1) ∨ (1 ≤ (n : Int) ∧ 100 < (n : Int)) ∨ (1 ≤ (n : Int) ∧ (n : Int) ≤ 100 ∧ i < 0) ∨ (1 ≤ (n : Int) ∧ (n : Int) ≤ 100 ∧ 0 ≤ i ∧ (n : Int) ≤ i) ∨ (1 ≤ (n : Int) ∧ (n : Int) ≤ 100 ∧ 0 ≤ i ∧ i < (n : Int) ∧ s < 0) ∨ (1 ≤ (n : Int) ∧ (n : Int) ≤ 100 ∧ 0 ≤ i ∧ i < (n : Int) ∧ 0 ≤ s ∧ 2 < s) by omega) with h | ⟨h, h1⟩ | ⟨h, h1, h2⟩ | ⟨h, h1, h2, h3⟩ | ⟨h, h1, h2, h3, h4⟩ | ⟨h, h1, h2, h3, h4, h5⟩
  · go_wp2_with fail
    refine (first_any _).mono ?_
    rintro e w9 ⟨rfl, k9⟩
    have K9 : Hid (Kept w w9) := K2.out.trans k9
    clear k9
    go_wp2
    go_ret
    exact ⟨rfl, K9.out⟩
  · go_wp2_with fail
    refine (first_any _).mono ?_
    rintro e w9 ⟨rfl, k9⟩
    have K9 : Hid (Kept w w9) := K2.out.trans k9
    clear k9
    go_wp2
    go_ret
    exact ⟨rfl, K9.out⟩
  · go_wp2_with fail
    refine (first_any _).mono ?_
    rintro e w9 ⟨rfl, k9⟩
    have K9 : Hid (Kept w w9) := K2.out.trans k9
    clear k9
    go_wp2
    go_ret
    exact ⟨rfl, K9.out⟩
  · go_wp2_with fail
    refine (first_any _).mono ?_
    rintro e w9 ⟨rfl, k9⟩
    have K9 : Hid (Kept w w9) := K2.out.trans k9
    clear k9
    go_wp2
    go_ret
    exact ⟨rfl, K9.out⟩
  · go_wp2_with fail
    refine (first_any _).mono ?_
    rintro e w9 ⟨rfl, k9⟩
    have K9 : Hid (Kept w w9) := K2.out.trans k9
    clear k9
    go_wp2
    go_ret
    exact ⟨rfl, K9.out⟩
  · go_wp2_with fail
    refine (first_any _).mono ?_
    rintro e w9 ⟨rfl, k9⟩
    have K9 : Hid (Kept w w9) := K2.out.trans k9
    clear k9
    go_wp2
    go_ret
    exact ⟨rfl, K9.out⟩

set_option maxHeartbeats 2000000 in
set_option maxRecDepth 20000 in
theorem sets_in (n : Nat) (i : Nat) (s : Int) (p c : Bool) (w : World) (hn1 : 1 ≤ (n : Int)) (hn : (n : Int) ≤ 100) (hi : (i : Int) < n) (hs1 : 0 ≤ s) (hs2 : s ≤ 2) :
    Calls Try.prog 7 #[.int .i64 n, .int .i64 i, .int .i64 s, .bool p, .bool c] w fun e w' => e = .returned (.bool true) ∧ Kept w w' := by
  obtain ⟨T1, hT, e1, e2, e3, e4, e5⟩ : ∃ T1, Hid (T1 = fun j => if j = i then ⟨s, p && (s == 2), c⟩ else T0 j) ∧ Hid (setT n T0 i s p c = T1) ∧ Hid (setT n T1 i 3 p c = T1) ∧ Hid (setT n T1 i (-1) p c = T1) ∧ Hid (setT n T1 n s p c = T1) ∧ Hid (setT n T1 (-1) s p c = T1) := by
    have h : inn n i = true := by simp [inn]; omega
    have hS : isSt s = true := by
      rcases (show s = 0 ∨ s = 1 ∨ s = 2 by omega) with rfl | rfl | rfl <;> rfl
    refine ⟨_, rfl, ?_, ?_, ?_, ?_, ?_⟩
    · simp [Hid, setT, h, hS]
    all_goals simp [Hid, setT, inn, isSt]
  have a1 : Hid ((inn n i && isSt s) = true) := by
    have h : inn n i = true := by simp [inn]; omega
    have hS : isSt s = true := by
      rcases (show s = 0 ∨ s = 1 ∨ s = 2 by omega) with rfl | rfl | rfl <;> rfl
    simp [Hid, h, hS]
  have a2 : Hid ((inn n i && isSt 3) = false) := by simp [Hid, isSt]
  have a3 : Hid ((inn n i && isSt (-1)) = false) := by simp [Hid, isSt]
  have a4 : Hid ((inn n n && isSt s) = false) := by simp [Hid, inn]
  have a5 : Hid ((inn n (-1) && isSt s) = false) := by simp [Hid, inn]
  have b1 : Hid (stt n T1 n = 0) := by simp [Hid, stt, inn]
  have b2 : Hid (hdd n T1 (-1) = false) := by simp [Hid, hdd, inn]
  have b3 : Hid (blk n T1 n c = false) := by simp [Hid, blk, usd, inn]
  go_enter Try.func7, Try.ntmps7
  go_wp2_with fail
  refine (first_any _).mono ?_
  rintro e w1 ⟨rfl, k1⟩
  have K1 : Hid (Kept w w1) := k1
  clear k1
  go_wp2_with fail
  refine (new_any n w1 (by omega)).mono ?_
  rintro e w2 ⟨b, g, rfl, ht, hb, hg, k2⟩
  have H2 : Hid (Tab w2 b g n T0 ∧ w.heap.size ≤ g ∧ Kept w w2) := ⟨ht, by have := K1.out.size; omega, K1.out.trans k2⟩
  clear ht hb hg k2 K1
  go_wp2_with fail
  refine (set_any i s p c _ H2.out.1).mono ?_
  rintro e w3 ⟨rfl, ht, m3⟩
  have H3 : Hid (Tab w3 b g n T1 ∧ w.heap.size ≤ g ∧ Kept w w3) := ⟨e1.out ▸ ht, H2.out.2.1, H2.out.2.2.muts m3 (by simpa using H2.out.2.1)⟩
  clear ht m3 H2
  rw [a1.out]
  go_wp2_with fail
  refine (set_any i 3 p c _ H3.out.1).mono ?_
  rintro e w4 ⟨rfl, ht, m3⟩
  have H4 : Hid (Tab w4 b g n T1 ∧ w.heap.size ≤ g ∧ Kept w w4) := ⟨e2.out ▸ ht, H3.out.2.1, H3.out.2.2.muts m3 (by simpa using H3.out.2.1)⟩
  clear ht m3 H3
  rw [a2.out]
  go_wp2_with fail
  refine (set_any i (-1) p c _ H4.out.1).mono ?_
  rintro e w5 ⟨rfl, ht, m3⟩
  have H5 : Hid (Tab w5 b g n T1 ∧ w.heap.size ≤ g ∧ Kept w w5) := ⟨e3.out ▸ ht, H4.out.2.1, H4.out.2.2.muts m3 (by simpa using H4.out.2.1)⟩
  clear ht m3 H4
  rw [a3.out]
  go_wp2_with fail
  refine (set_any n s p c _ H5.out.1).mono ?_
  rintro e w6 ⟨rfl, ht, m3⟩
  have H6 : Hid (Tab w6 b g n T1 ∧ w.heap.size ≤ g ∧ Kept w w6) := ⟨e4.out ▸ ht, H5.out.2.1, H5.out.2.2.muts m3 (by simpa using H5.out.2.1)⟩
  clear ht m3 H5
  rw [a4.out]
  go_wp2_with fail
  refine (set_any (-1) s p c _ H6.out.1).mono ?_
  rintro e w7 ⟨rfl, ht, m3⟩
  have H7 : Hid (Tab w7 b g n T1 ∧ w.heap.size ≤ g ∧ Kept w w7) := ⟨e5.out ▸ ht, H6.out.2.1, H6.out.2.2.muts m3 (by simpa using H6.out.2.1)⟩
  clear ht m3 H6
  rw [a5.out]
  go_wp2_with fail
  clear a1 a2 a3 a4 a5 e1 e2 e3 e4 e5
  go_loopg [13] n (fun m k wr => ∃ j : Nat, k = .int .i64 j ∧ j ≤ n ∧ m = n - j ∧ Hid (wr = w7))
  case atStart => exact ⟨0, rfl, by omega, by omega, rfl⟩
  case round =>
    obtain ⟨k, rfl, hk, hm, hw⟩ := hrel
    obtain rfl := hw.out
    have HM : Hid _ := hm
    clear hm hw
    by_cases hlt : k < n
    · have hin : inn n k = true := inn_of hlt
      by_cases he : k = i
      · subst he
        have d1 : Hid (stt n T1 k = s) := by rw [hT.out]; simp [Hid, stt, hin]
        have d2 : Hid (hdd n T1 k = (p && (s == 2))) := by rw [hT.out]; simp [Hid, hdd, hin]
        have d3 : Hid (blk n T1 k c = (s == 2)) := by rw [hT.out]; simp [Hid, blk, usd, hin]
        clear hin
        go_wp2_with fail
        refine (state_any k _ H7.out.1).mono ?_
        rintro e w8 ⟨rfl, rfl⟩
        rw [d1.out]
        go_wp2_with fail
        refine (head_any k _ H7.out.1).mono ?_
        rintro e w8 ⟨rfl, rfl⟩
        rw [d2.out]
        generalize hq : (s == 2) = q at d3 ⊢
        cases p <;> cases q
        all_goals go_wp2_with fail
        all_goals (refine (black_any k c _ H7.out.1).mono ?_; rintro e w8 ⟨rfl, rfl⟩; rw [d3.out])
        all_goals go_wp2
        all_goals go_roundg (gk - 1)
        all_goals (have := HM.out; try omega)
        all_goals exact ⟨k + 1, by go_num, by omega, by omega, rfl⟩
      · have he2 : ((k : Int) == (i : Int)) = false := by simp; omega
        have d1 : Hid (stt n T1 k = 0) := by rw [hT.out]; simp [Hid, stt, he, T0]
        have d2 : Hid (hdd n T1 k = false) := by rw [hT.out]; simp [Hid, hdd, he, T0]
        have d3 : Hid (blk n T1 k c = false) := by rw [hT.out]; simp [Hid, blk, usd, he, T0]
        clear hin
        go_wp2_with fail
        refine (state_any k _ H7.out.1).mono ?_
        rintro e w8 ⟨rfl, rfl⟩
        rw [d1.out]
        go_wp2_with fail
        refine (head_any k _ H7.out.1).mono ?_
        rintro e w8 ⟨rfl, rfl⟩
        rw [d2.out]
        go_wp2_with fail
        refine (black_any k c _ H7.out.1).mono ?_
        rintro e w8 ⟨rfl, rfl⟩
        rw [d3.out]
        go_wp2
        go_roundg (gk - 1)
        all_goals (have := HM.out; try omega)
        all_goals exact ⟨k + 1, by go_num, by omega, by omega, rfl⟩
    · obtain rfl : k = n := by omega
      go_wp2_with fail
      refine (first_any _).mono ?_
      rintro e w8 ⟨rfl, k8⟩
      have H8 : Hid (Tab w8 b g k T1 ∧ Kept w w8) := ⟨H7.out.1.kept k8, H7.out.2.2.trans k8⟩
      clear k8 H7
      go_wp2_with fail
      refine (state_any k _ H8.out.1).mono ?_
      rintro e w9 ⟨rfl, rfl⟩
      rw [b1.out]
      go_wp2_with fail
      refine (head_any (-1) _ H8.out.1).mono ?_
      rintro e w9 ⟨rfl, rfl⟩
      rw [b2.out]
      go_wp2_with fail
      refine (black_any k c _ H8.out.1).mono ?_
      rintro e w9 ⟨rfl, rfl⟩
      rw [b3.out]
      go_wp2
      go_ret
      exact ⟨rfl, H8.out.2⟩

theorem tintSets_any (n0 : Int) (n1 : Int) (n2 : Int) (p3 : Bool) (p4 : Bool) (w : World) (_lo0 : IntKind.min .i64 ≤ n0) (_hi0 : n0 ≤ IntKind.max .i64) (_lo1 : IntKind.min .i64 ≤ n1) (_hi1 : n1 ≤ IntKind.max .i64) (_lo2 : IntKind.min .i64 ≤ n2) (_hi2 : n2 ≤ IntKind.max .i64) :
    Calls Try.prog 7 #[.int .i64 n0, .int .i64 n1, .int .i64 n2, .bool p3, .bool p4] w fun e w' => e = .returned (.bool true) ∧ Kept w w' := by
  by_cases hn : 0 ≤ n0 ∧ n0 ≤ 1024
  · obtain ⟨n, rfl⟩ : ∃ n : Nat, n0 = n := ⟨n0.toNat, by omega⟩
    by_cases ho : (1 ≤ (n : Int) ∧ (n : Int) ≤ 100) ∧ (0 ≤ n1 ∧ n1 < n) ∧ 0 ≤ n2 ∧ n2 ≤ 2
    · obtain ⟨i, rfl⟩ : ∃ i : Nat, n1 = i := ⟨n1.toNat, by omega⟩
      exact sets_in n i n2 p3 p4 w ho.1.1 ho.1.2 ho.2.1.2 ho.2.2.1 ho.2.2.2
    · exact sets_out n n1 n2 p3 p4 w (by omega) ho
  · exact sets_bad n0 n1 n2 p3 p4 w hn
end Go.Proofs.Ytbipkhcgnimgkaa
