/-
  The document's own words, sizes and places (packages sporef1, sporef6): contracts.
-/
import Derived.Test.YtpdclckgnajcdaaPlan10
import Derived.Test.YtpdclckgnajcdaaRef412
import Derived.Test.YtpdclckgnajcdaaRef512
namespace Go.Proofs.Ytpdclckgnajcdaa
open Go.RowKit
attribute [local go_sem] run_store_complex

theorem rnone_any (w : World) : Calls Try.prog 49 #[] w fun e w' => e = .returned (.complex .f64 0 4607182418800017408) ∧ w' = w := by
  go_enter Try.func49, Try.ntmps49
  go_wp2
  go_ret
  exact ⟨rfl, rfl⟩
theorem rref_in (i : Int) (w : World) (h1 : 0 ≤ i) (h2 : i ≤ 1024) : Calls Try.prog 50 #[.int .i64 i] w fun e w' => e = .returned (.complex .f64 (floatOfInt .f64 (i + 1)) 4607182418800017408) ∧ w' = w := by
  go_enter Try.func50, Try.ntmps50
  go_wp2
  go_ret
  exact ⟨rfl, rfl⟩
theorem rhead_in (k m : Int) (w : World) (h1 : 0 ≤ k) (h2 : k ≤ 1000) (h3 : 0 ≤ m) (h4 : m ≤ 1000) : Calls Try.prog 51 #[.int .i64 k, .int .i64 m] w fun e w' => e = .returned (.complex .f64 (floatOfInt .f64 k) (floatOfInt .f64 m)) ∧ w' = w := by
  go_enter Try.func51, Try.ntmps51
  go_wp2
  go_ret
  exact ⟨rfl, rfl⟩
theorem rwhole_in (n : Int) (w : World) (h1 : -1000000 ≤ n) (h2 : n ≤ 1000000) : Calls Try.prog 62 #[.int .i64 n] w fun e w' => e = .returned (.complex .f64 (floatOfInt .f64 n) 0) ∧ w' = w := by
  go_enter Try.func62, Try.ntmps62
  go_wp2
  go_ret
  exact ⟨rfl, rfl⟩
set_option maxHeartbeats 400000 in
theorem rblank_any (b : Bool) (w : World) : Calls Try.prog 53 #[.bool b] w fun e w' => e = .returned (.complex .f64 (un b).re (un b).im) ∧ w' = w := by
  cases b
  · go_enter Try.func53, Try.ntmps53
    go_wp2
    go_ret
    exact ⟨rfl, rfl⟩
  · go_enter Try.func53, Try.ntmps53
    go_wp2_with fail
    refine (rnone_any _).mono ?_
    rintro e w' ⟨rfl, rfl⟩
    go_wp2
    go_ret
    exact ⟨rfl, rfl⟩
set_option maxHeartbeats 400000 in
theorem rdata_any (n : Int) (w : World) : Calls Try.prog 87 #[.int .i64 n] w fun e w' => e = .returned (.int .i64 (dat n)) ∧ w' = w := by
  unfold dat
  by_cases h1 : n < 1
  · rw [if_pos (.inl h1)]
    go_enter Try.func87, Try.ntmps87
    go_wp2
    go_ret
    exact ⟨rfl, rfl⟩
  · by_cases h2 : n > 512
    · rw [if_pos (.inr h2)]
      go_enter Try.func87, Try.ntmps87
      go_wp2
      go_ret
      exact ⟨rfl, rfl⟩
    · rw [if_neg (by omega)]
      have hd : (n + 7).tdiv 8 = (n + 7) / 8 := Int.tdiv_eq_ediv_of_nonneg (by omega)
      obtain ⟨d, he⟩ : ∃ d, (n + 7) / 8 = d := ⟨_, rfl⟩
      rw [he] at hd ⊢
      have hd0 : 0 ≤ d := by omega
      have hd1 : d ≤ 100 := by omega
      clear he
      go_enter Try.func87, Try.ntmps87
      go_wp2
      go_ret
      exact ⟨rfl, rfl⟩
set_option maxHeartbeats 1000000 in
theorem rsize_arr (x : Option Addr) (c : Nat) (n : Int) (w : World) : Calls Try.prog 47 #[.agg #[.bool true, .slice x 1 c], .int .i64 n] w fun e w' => e = .returned (.int .i64 (arrSize n)) ∧ Kept w w' := by
  have M : Hid (∀ w, Calls Try.prog 86 #[.agg #[.bool true, .slice x 1 c]] w fun e w' => e = .returned (.bool true) ∧ Kept w w') := fun w => ref_may ⟨true, x, 1, c⟩ w
  have D : Hid (∀ w, Calls Try.prog 87 #[.int .i64 n] w _) := fun w => rdata_any n w
  have hl := dat_lo n
  have hh := dat_hi n
  obtain ⟨s, hs⟩ : ∃ s, arrSize n = s := ⟨_, rfl⟩
  rw [hs]
  obtain ⟨dn, hdn⟩ : ∃ dn, dat n = dn := ⟨_, rfl⟩
  rw [hdn] at D hl hh
  have HS : Hid (arrSize n = s ∧ dat n = dn) := ⟨hs, hdn⟩
  clear hs hdn
  go_enter Try.func47, Try.ntmps47
  go_wp2_with fail
  refine (M.out _).mono ?_
  rintro e w1 ⟨rfl, K1⟩
  have c0 := K1.own 0
  have c1 := K1.own 1
  simp only [List.getElem?_toArray, List.getElem?_cons_zero, List.getElem?_cons_succ] at c0 c1
  have KK : Hid (Kept w w1) := K1.ofAlloc
  clear K1
  by_cases h1 : n ≥ 0
  · by_cases h2 : n ≤ 512
    · obtain rfl : s = 1 + dn := by rw [← HS.out.1, ← HS.out.2]; unfold arrSize; rw [if_neg (by omega)]
      go_wp2_with fail
      refine (D.out _).mono ?_
      rintro e w2 ⟨rfl, rfl⟩
      go_wp2
      go_ret
      exact ⟨rfl, KK.out⟩
    · obtain rfl : s = -1 := by rw [← HS.out.1]; unfold arrSize; rw [if_pos (by omega)]
      go_wp2
      go_ret
      exact ⟨rfl, KK.out⟩
  · obtain rfl : s = -1 := by rw [← HS.out.1]; unfold arrSize; rw [if_pos (by omega)]
    go_wp2
    go_ret
    exact ⟨rfl, KK.out⟩
set_option maxHeartbeats 1000000 in
theorem rsize_obj (x : Option Addr) (l c : Nat) (s : Int) (w : World) (h : l ≤ 40) (hs : 1 + (l : Int) / 7 = s) : Calls Try.prog 47 #[.agg #[.bool false, .slice x l c], .int .i64 0] w fun e w' => e = .returned (.int .i64 s) ∧ Kept w w' := by
  have M : Hid (∀ w, Calls Try.prog 86 #[.agg #[.bool false, .slice x l c]] w fun e w' => e = .returned (.bool true) ∧ Kept w w') := fun w => by
    have := ref_may ⟨false, x, l, c⟩ w
    have e : (Sh.may ⟨false, x, l, c⟩) = true := by simp [Sh.may]; omega
    rwa [e] at this
  have hd : (l : Int).tdiv 7 = (l : Int) / 7 := Int.tdiv_eq_ediv_of_nonneg (by omega)
  obtain ⟨d, he⟩ : ∃ d, (l : Int) / 7 = d := ⟨_, rfl⟩
  rw [he] at hd hs
  have hd0 : 0 ≤ d := by omega
  have hd1 : d ≤ 100 := by omega
  have e6 : (l : Int) - 6 + 6 = l := by omega
  have HD : Hid ((l : Int) / 7 = d) := he
  clear he
  go_enter Try.func47, Try.ntmps47
  go_wp2_with fail
  refine (M.out _).mono ?_
  rintro e w1 ⟨rfl, K1⟩
  have c0 := K1.own 0
  have c1 := K1.own 1
  simp only [List.getElem?_toArray, List.getElem?_cons_zero, List.getElem?_cons_succ] at c0 c1
  have KK : Hid (Kept w w1) := K1.ofAlloc
  clear K1
  by_cases h6 : (l : Int) ≤ 6
  · obtain rfl : s = 1 := by have := HD.out; omega
    clear hd e6 hs
    go_wp2
    go_ret
    exact ⟨rfl, KK.out⟩
  · obtain rfl : s = 1 + d := hs.symm
    clear hs
    go_wp2
    go_ret
    exact ⟨rfl, KK.out⟩
set_option maxHeartbeats 1000000 in
theorem rspine_arr (x : Option Addr) (c : Nat) (n : Int) (w : World) : Calls Try.prog 60 #[.agg #[.bool true, .slice x 1 c], .int .i64 n] w fun e w' => e = .returned (.int .i64 (spineOf n)) ∧ Kept w w' := by
  have M : Hid (∀ w, Calls Try.prog 86 #[.agg #[.bool true, .slice x 1 c]] w fun e w' => e = .returned (.bool true) ∧ Kept w w') := fun w => ref_may ⟨true, x, 1, c⟩ w
  have D : Hid (∀ w, Calls Try.prog 87 #[.int .i64 n] w _) := fun w => rdata_any n w
  have hl := dat_lo n
  have hh := dat_hi n
  unfold spineOf
  generalize dat n = dn at *
  go_enter Try.func60, Try.ntmps60
  go_wp2_with fail
  refine (M.out _).mono ?_
  rintro e w1 ⟨rfl, K1⟩
  have c0 := K1.own 0
  simp only [List.getElem?_toArray, List.getElem?_cons_zero] at c0
  have KK : Hid (Kept w w1) := K1.ofAlloc
  clear K1
  go_wp2_with fail
  refine (D.out _).mono ?_
  rintro e w2 ⟨rfl, rfl⟩
  by_cases h4 : dn ≤ 4
  · go_wp2
    go_ret
    exact ⟨by simp, KK.out⟩
  · go_wp2_with fail
    refine (D.out _).mono ?_
    rintro e w3 ⟨rfl, rfl⟩
    go_wp2
    go_ret
    exact ⟨by simp, KK.out⟩
set_option maxHeartbeats 1000000 in
theorem rplace_in (x : Option Addr) (l c : Nat) (k a b : Nat) (w : World) (h : l ≤ 40) (hk : k < l) (ha : (k + 1) / 7 = a) (hb : 1 + (k + 1) % 7 = b) :
    Calls Try.prog 52 #[.agg #[.bool false, .slice x l c], .int .i64 k] w fun e w' => e = .returned (.tuple #[.int .i64 a, .int .i64 b, .bool true]) ∧ Kept w w' := by
  have M : Hid (∀ w, Calls Try.prog 86 #[.agg #[.bool false, .slice x l c]] w fun e w' => e = .returned (.bool true) ∧ Kept w w') := fun w => by
    have := ref_may ⟨false, x, l, c⟩ w
    have e : (Sh.may ⟨false, x, l, c⟩) = true := by simp [Sh.may]; omega
    rwa [e] at this
  have HA : Hid ((k + 1) / 7 = a ∧ 1 + (k + 1) % 7 = b) := ⟨ha, hb⟩
  clear ha hb
  go_enter Try.func52, Try.ntmps52
  go_wp2_with fail
  refine (M.out _).mono ?_
  rintro e w1 ⟨rfl, K1⟩
  have c0 := K1.own 0
  have c1 := K1.own 1
  simp only [List.getElem?_toArray, List.getElem?_cons_zero, List.getElem?_cons_succ] at c0 c1
  have KK : Hid (Kept w w1) := K1.ofAlloc
  clear K1
  have hk0 : ¬ (k : Int) < 0 := by omega
  have hk1 : ¬ (k : Int) ≥ (l : Int) := by omega
  by_cases h6 : (k : Int) < 6
  · have e1 : a = 0 := by have := HA.out; omega
    have e2 : (b : Int) = 2 + k := by have := HA.out; omega
    have HE : Hid (a = 0 ∧ (b : Int) = 2 + k) := ⟨e1, e2⟩
    clear e1 e2
    go_wp2
    go_ret3
    exact ⟨by rw [HE.out.1, HE.out.2]; rfl, KK.out⟩
  · have h1 : ((k : Int) - 6).tdiv 7 = (a : Int) - 1 := by rw [Int.tdiv_eq_ediv_of_nonneg (by omega)]; have := HA.out; omega
    have h2 : ((k : Int) - 6).tmod 7 = (b : Int) - 1 := by rw [Int.tmod_eq_emod_of_nonneg (by omega)]; have := HA.out; omega
    have ha1 : a ≤ 10 := by have := HA.out; omega
    have hb1 : b ≤ 10 := by have := HA.out; omega
    have e1 : 1 + ((a : Int) - 1) = a := by omega
    have e2 : 1 + ((b : Int) - 1) = b := by omega
    clear HA
    go_wp2
    go_ret3
    exact ⟨rfl, KK.out⟩
set_option maxHeartbeats 1000000 in
theorem rhas_any {x : Option Addr} {l c : Nat} {L : Nat → Int} (q : Int) (p : Bool) (w : World) (hl : (l : Int) ≤ 1000000) (hx : Rdf w x l L) (hp : p = true ↔ ∃ j, j < l ∧ L j = q) :
    Calls Try.prog 88 #[.slice x l c, .int .i64 q] w fun e w' => e = .returned (.bool p) ∧ w' = w := by
  have HX : Hid (Rdf w x l L) := hx
  have HP : Hid (p = true ↔ ∃ j, j < l ∧ L j = q) := hp
  clear hx hp
  go_enter Try.func88, Try.ntmps88
  go_wp2
  go_loopg [5] l (fun m i wr => ∃ k : Nat, i = .int .i64 k ∧ k ≤ l ∧ m = l - k ∧ Hid (wr = w ∧ ∀ j, j < k → L j ≠ q))
  case atStart => exact ⟨0, rfl, by omega, by omega, rfl, fun _ h => absurd h (Nat.not_lt_zero _)⟩
  case round =>
    obtain ⟨k, rfl, hk, hm, hw⟩ := hrel
    obtain rfl := hw.out.1
    have HM : Hid _ := hm
    clear hm
    by_cases hlt : k < l
    · obtain ⟨g, o, rfl, hg, cc⟩ := HX.out (by omega)
      have c1 := cc k hlt
      have HY : Hid (L k = q → p = true) := fun e => HP.out.2 ⟨k, hlt, e⟩
      have HZ : Hid (L k ≠ q → ∀ j, j < k + 1 → L j ≠ q) := fun e j hj => by
        rcases Nat.lt_succ_iff_lt_or_eq.1 hj with h | rfl
        · exact hw.out.2 j h
        · exact e
      clear cc
      generalize L k = v at *
      by_cases he : v = q
      · have e1 : (v == q) = true := by simpa using he
        obtain rfl := HY.out he
        clear he
        go_wp2
        go_ret
        exact ⟨rfl, rfl⟩
      · have e1 : (v == q) = false := by simpa using he
        have HE : Hid _ := HZ.out he
        clear he
        go_wp2
        go_roundg (gk - 1)
        all_goals (have := HM.out; try omega)
        exact ⟨k + 1, by go_num, by omega, by omega, rfl, HE.out⟩
    · obtain rfl : l = k := by omega
      obtain rfl : p = false := by
        cases p
        · rfl
        · obtain ⟨j, hj, e⟩ := HP.out.1 rfl
          exact absurd e (hw.out.2 j hj)
      go_wp2
      go_ret
      exact ⟨rfl, rfl⟩
set_option maxHeartbeats 1000000 in
theorem rtwice_any {x : Option Addr} {l c : Nat} {L : Nat → Int} (p : Bool) (w : World) (hl : (l : Int) ≤ 1000000) (hc : l ≤ c) (hx : Rdf w x l L) (hp : p = true ↔ Twice L l) :
    Calls Try.prog 48 #[.slice x l c] w fun e w' => e = .returned (.bool p) ∧ Kept w w' := by
  have HX : Hid (Rdf w x l L) := hx
  have HP : Hid (p = true ↔ Twice L l) := hp
  clear hx hp
  go_enter Try.func48, Try.ntmps48
  go_wp2
  go_loopg [3] l (fun m i wr => ∃ k : Nat, i = .int .i64 k ∧ k ≤ l ∧ m = l - k ∧ Hid (Kept w wr ∧ ¬ Twice L k))
  case atStart => exact ⟨0, rfl, by omega, by omega, Kept.refl _, fun ⟨i, j, _, h, _⟩ => absurd h (Nat.not_lt_zero _)⟩
  case round =>
    obtain ⟨k, rfl, hk, hm, hw⟩ := hrel
    have HM : Hid _ := hm
    clear hm
    by_cases hlt : k < l
    · obtain ⟨g, o, rfl, hg, cc⟩ := HX.out.kept hw.out.1 (by omega)
      have c1 := cc k hlt
      obtain ⟨b, hb⟩ := bool_iff (∃ j, j < k ∧ L j = L k)
      have C0 : Hid (∀ w', Kept wr w' → Calls Try.prog 88 #[.slice (some ⟨g, o, none⟩) k c, .int .i64 (L k)] w' fun e w'' => e = .returned (.bool b) ∧ w'' = w') := fun w' q => rhas_any (L k) b w' (by omega) (fun _ => ⟨g, o, rfl, Nat.lt_of_lt_of_le hg q.size, fun j hj => (q.cell hg).trans (cc j (by omega))⟩) hb
      have HY : Hid (b = true → p = true) := fun e => by
        obtain ⟨j, hj, e⟩ := hb.1 e
        exact HP.out.2 ⟨j, k, hj, hlt, e⟩
      have HZ : Hid (b = false → ¬ Twice L (k + 1)) := fun e ⟨i, j, h1, h2, h3⟩ => by
        rcases Nat.lt_succ_iff_lt_or_eq.1 h2 with h | rfl
        · exact hw.out.2 ⟨i, j, h1, h, h3⟩
        · exact absurd (hb.2 ⟨i, h1, h3⟩) (by simp [e])
      clear cc hb
      generalize L k = q at *
      have d1 := fun z : KW wr => z.cell hg c1
      go_upto_region 4 with fail
      refine wp_region_kept (by kernel_rfl) (by kernel_rfl) fun _ => ?_
      repeat (go_big_quiet_step (first | (go_at_call 88; exact kept_of_same (C0.out _ (by rename_i z; exact z.ok)))))
      refine wpQuiet_nil ?_
      rintro _ ⟨z, rfl⟩
      have HK : Hid (Kept w z.it) := hw.out.1.trans z.ok
      clear d1 c1
      cases b
      · have HE : Hid (¬ Twice L (k + 1)) := HZ.out (by trivial)
        go_wp2
        go_roundg (gk - 1)
        all_goals (have := HM.out; try omega)
        exact ⟨k + 1, by go_num, by omega, by omega, HK.out, HE.out⟩
      · obtain rfl : p = true := HY.out (by trivial)
        go_wp2
        go_ret
        exact ⟨rfl, HK.out⟩
    · obtain rfl : l = k := by omega
      obtain rfl : p = false := by
        cases p
        · rfl
        · exact absurd (HP.out.1 rfl) hw.out.2
      go_wp2
      go_ret
      exact ⟨rfl, hw.out.1⟩
set_option maxHeartbeats 1000000 in
theorem rwrong_any (n0 n1 n2 n3 n4 n5 n6 n7 : Int) (sx : Option Addr) (sl sc : Nat) {x : Option Addr} {l c : Nat} {L : Nat → Int} (p : Bool) (w : World) (hl : (l : Int) ≤ 1000000) (hx : Rdf w x l L) (hp : p = true ↔ ¬ Frs L l n0) :
    Calls Try.prog 45 #[.agg #[.int .i64 n0, .int .i64 n1, .int .i64 n2, .int .i64 n3, .int .i64 n4, .int .i64 n5, .int .i64 n6, .int .i64 n7, .slice sx sl sc], .slice x l c] w fun e w' => e = .returned (.bool p) ∧ Kept w w' := by
  have HX : Hid (Rdf w x l L) := hx
  have HP : Hid (p = true ↔ ¬ Frs L l n0) := hp
  clear hx hp
  go_enter Try.func45, Try.ntmps45
  go_wp2_with fail
  generalize hW1 : w.alloc _ = W1
  have B1 : Hid (Blk W1 w.heap.size (cl n0 n1 n2 n3 n4 n5 n6 n7 (.slice sx sl sc))) := by rw [← hW1]; exact Blk.new w _ _
  have K1 : Hid (Kept w W1) := by rw [← hW1]; exact (Kept.refl w).alloc _ _
  clear hW1
  go_loopg [5] l (fun m i wr => ∃ k : Nat, i = .int .i64 k ∧ k ≤ l ∧ m = l - k ∧ Hid (Kept W1 wr ∧ Frs L k n0))
  case atStart => exact ⟨0, rfl, by omega, by omega, Kept.refl _, fun _ h => absurd h (Nat.not_lt_zero _)⟩
  case round =>
    obtain ⟨k, rfl, hk, hm, hw⟩ := hrel
    have HM : Hid _ := hm
    clear hm
    by_cases hlt : k < l
    · obtain ⟨g, o, rfl, hg, cc⟩ := (HX.out.kept K1.out).kept hw.out.1 (by omega)
      have c1 := cc k hlt
      have B2 := B1.out.kept hw.out.1
      have c0 := B2.at 0 rfl
      have hb := B2.lt
      have HY : Hid (p = false → 0 ≤ L k ∧ L k < n0) := fun e => by
        have : Frs L l n0 := Classical.byContradiction fun h => by rw [HP.out.2 h] at e; cases e
        exact this k hlt
      have HZ : Hid (0 ≤ L k ∧ L k < n0 → Frs L (k + 1) n0) := fun e j hj => by
        rcases Nat.lt_succ_iff_lt_or_eq.1 hj with h | rfl
        · exact hw.out.2 j h
        · exact e
      clear cc B2
      generalize L k = q at *
      have d0 := fun z : KW wr => z.cell hb c0
      have d1 := fun z : KW wr => z.cell hg c1
      by_cases h1 : q < 0
      · obtain rfl : p = true := by
          cases p
          · have := HY.out rfl; omega
          · rfl
        have g1 : decide (q < 0) = true := by simpa using h1
        go_upto_region 4 with fail
        refine wp_region_kept (by kernel_rfl) (by kernel_rfl) fun _ => ?_
        repeat (go_big_quiet_step (fail))
        refine wpQuiet_nil ?_
        rintro _ ⟨z, rfl⟩
        have HK : Hid (Kept W1 z.it) := hw.out.1.trans z.ok
        clear d0 d1 c0 c1
        go_wp2
        go_ret
        exact ⟨rfl, K1.out.trans HK.out⟩
      · have g1 : decide (q < 0) = false := by simpa using h1
        by_cases h2 : q ≥ n0
        · obtain rfl : p = true := by
            cases p
            · have := HY.out rfl; omega
            · rfl
          have g2 : decide (q ≥ n0) = true := by simpa using h2
          have g3 : decide (n0 ≤ q) = true := by simpa using h2
          go_upto_region 4 with fail
          refine wp_region_kept (by kernel_rfl) (by kernel_rfl) fun _ => ?_
          repeat (go_big_quiet_step (fail))
          refine wpQuiet_nil ?_
          rintro _ ⟨z, rfl⟩
          have HK : Hid (Kept W1 z.it) := hw.out.1.trans z.ok
          clear d0 d1 c0 c1
          go_wp2
          go_ret
          exact ⟨rfl, K1.out.trans HK.out⟩
        · have g2 : decide (q ≥ n0) = false := by simpa using h2
          have g3 : decide (n0 ≤ q) = false := by simpa using h2
          have HE : Hid _ := HZ.out ⟨by omega, by omega⟩
          go_upto_region 4 with fail
          refine wp_region_kept (by kernel_rfl) (by kernel_rfl) fun _ => ?_
          repeat (go_big_quiet_step (fail))
          refine wpQuiet_nil ?_
          rintro _ ⟨z, rfl⟩
          have HK : Hid (Kept W1 z.it) := hw.out.1.trans z.ok
          clear d0 d1 c0 c1
          go_wp2
          go_roundg (gk - 1)
          all_goals (have := HM.out; try omega)
          exact ⟨k + 1, by go_num, by omega, by omega, HK.out, HE.out⟩
    · obtain rfl : l = k := by omega
      obtain rfl : p = false := by
        cases p
        · rfl
        · exact absurd hw.out.2 (HP.out.1 rfl)
      go_wp2
      go_ret
      exact ⟨rfl, K1.out.trans hw.out.1⟩
set_option maxHeartbeats 2000000 in
theorem rput_any {base n : Nat} {v : Value} {f : Nat → Wr} {F : Nat → Cx} (i : Int) (w : World) (h : Ws w base v n f) (hb : base ≤ w.heap.size) (hn : n ≤ 10000) (hi : 0 ≤ i ∧ i ≤ 1024) (hf : ∀ j, j < 8 → f (n + j) = ⟨8 * i + j, F j⟩) :
    Calls Try.prog 54 #[v, .int .i64 i, .agg (eight F).toArray] w fun e w' => ∃ v', e = .returned v' ∧ Ws w' base v' (n + 8) f ∧ Mut v.ownBlock.toList w w' ∧ Fresh w v v' := by
  have HH : Hid (Ws w base v n f ∧ ∀ j, j < 8 → f (n + j) = ⟨8 * i + j, F j⟩) := ⟨h, hf⟩
  have HB : Hid (base ≤ w.heap.size) := hb
  clear h hf hb
  simp only [eight]
  go_enter Try.func54, Try.ntmps54
  go_wp2_with fail
  generalize hW1 : w.alloc _ = W1
  have B1 : Hid (Own W1 w.heap.size 65 (eight F)) := by rw [← hW1]; exact Own.new w (eight F) _
  have K1 : Hid (Kept w W1) := by rw [← hW1]; exact (Kept.refl w).alloc _ _
  clear hW1
  go_loopg [0, 7] 8 (fun m vv j wr => ∃ k : Nat, j = .int .i64 k ∧ k ≤ 8 ∧ m = 8 - k ∧ Hid (Ws wr base vv (n + k) f ∧ Mut v.ownBlock.toList w wr ∧ Fresh w v vv ∧ Own wr w.heap.size 65 (eight F)))
  case atStart => exact ⟨0, rfl, by omega, by omega, HH.out.1.kept K1.out, K1.out.mut, Fresh.same _ _, B1.out⟩
  case round =>
    obtain ⟨k, rfl, hk, hm, hw⟩ := hrel
    have HM : Hid _ := hm
    clear hm
    by_cases hlt : k < 8
    · have c1 : wr.cell? ⟨w.heap.size, k, none⟩ = _ := hw.out.2.2.2.blk.at k (eight_get F hlt)
      have HF : Hid (f (n + k) = ⟨8 * i + k, (F k).re, (F k).im⟩) := HH.out.2 k hlt
      have hL : Hid (Ws _ _ _ _ _) := hw.out.1
      have z1 : base ≤ wr.heap.size := by have := HB.out; have := hw.out.2.1.size; omega
      have z2 : n + k ≤ 100000 := by omega
      go_wp2_with (at_builtin; refine wpList_push rfl _ _ rfl rfl hL.out z1 z2 rfl HF.out ?_)
      intro v3 w3 h3 m3 f3
      have HN : Hid (Ws w3 base v3 (n + (k + 1)) f ∧ Mut v.ownBlock.toList w w3 ∧ Fresh w v v3 ∧ Own w3 w.heap.size 65 (eight F)) := by
        refine ⟨h3, hw.out.2.1.step m3 hw.out.2.2.1 rfl, hw.out.2.2.1.trans f3 hw.out.2.1.size, hw.out.2.2.2.muts m3 fun hq => ?_⟩
        have hne := hw.out.2.2.2.nerw hw.out.1 (by decide)
        exact hne (by simpa using hq)
      clear h3 m3 f3 hL hw c1
      go_wp2
      go_roundg (gk - 1)
      all_goals (have := HM.out; try omega)
      exact ⟨k + 1, by go_num, by omega, by omega, HN⟩
    · obtain rfl : k = 8 := by omega
      go_wp2
      go_ret
      exact ⟨_, rfl, hw.out.1, hw.out.2.1, hw.out.2.2.1⟩
end Go.Proofs.Ytpdclckgnajcdaa
