/-
  ShadeSenses: the walk.
-/
import Derived.Test.YtfglmnjhnjkiiaaFirst15
namespace Go.Proofs.Ytfglmnjhnjkiiaa
open Go.RowKit

set_option maxHeartbeats 2000000 in
set_option maxRecDepth 20000 in
theorem senses_bad (n f : Int) (w : World) (hn : ¬ (0 ≤ n ∧ n ≤ 1024)) (h0 : IntKind.min .i64 ≤ n) (h1 : n ≤ IntKind.max .i64) :
    Calls Try.prog 6 #[.int .i64 n, .int .i64 f] w fun e w' => e = .returned (.bool true) ∧ Kept w w' := by
  have HN : Hid (∀ w, _) := fun w => snew_bad n 200 w (by omega) h0 h1
  clear hn h0 h1
  go_enter Try.func6, Try.ntmps6
  go_wp2_with fail
  refine (first_any _).mono ?_
  rintro e w1 ⟨rfl, k1⟩
  have K1 : Hid (Kept w w1) := k1
  clear k1
  go_wp2_with fail
  refine (HN.out _).mono ?_
  rintro e w2 ⟨rfl, k2⟩
  have K2 : Hid (Kept w w2) := K1.out.trans k2
  clear k2
  go_wp2_with fail
  refine (first_any _).mono ?_
  rintro e w3 ⟨rfl, k3⟩
  have K3 : Hid (Kept w w3) := K2.out.trans k3
  clear k3
  go_wp2
  go_ret
  exact ⟨rfl, K3.out⟩

set_option maxHeartbeats 2000000 in
set_option maxRecDepth 20000 in
theorem senses_out (n : Nat) (f : Int) (w : World) (hn : n ≤ 1024) (ho : 100 < (n : Int) ∨ ((n : Int) ≤ 100 ∧ f < 0) ∨ ((n : Int) ≤ 100 ∧ 0 ≤ f ∧ 20 < f)) :
    Calls Try.prog 6 #[.int .i64 n, .int .i64 f] w fun e w' => e = .returned (.bool true) ∧ Kept w w' := by
  have HN : Hid (∀ u, Kept w u → _) := fun u k => ms_new (w := w) n 200 u k hn (by omega) (by omega)
  rcases ho with h | ⟨h, h2⟩ | ⟨h, h2, h3⟩
  all_goals go_enter Try.func6, Try.ntmps6
  all_goals go_wp2_with fail
  all_goals (refine (first_any _).mono ?_; rintro e w1 ⟨rfl, k1⟩)
  all_goals (have K1 : Hid (Kept w w1) := k1; clear k1)
  all_goals go_wp2_with fail
  all_goals (refine (HN.out _ K1.out).mono ?_; rintro e w2 ⟨b, tb, rfl, t2⟩)
  all_goals (have K2 : Hid (Kept w w2) := t2.kept; clear t2 K1)
  all_goals go_wp2_with fail
  all_goals (refine (first_any _).mono ?_; rintro e w3 ⟨rfl, k3⟩)
  all_goals (have K3 : Hid (Kept w w3) := K2.out.trans k3; clear k3)
  all_goals go_wp2
  all_goals go_ret
  all_goals exact ⟨rfl, K3.out⟩

/-- The first i are heads of one colour. -/
def hdsT (i : Nat) (k : Nat) : Fr := if k < i then ⟨2, true, false⟩ else ⟨0, false, false⟩
/-- All n are heads; the first j of the colour s, the others not. -/
def mixT (n j : Nat) (s : Bool) (k : Nat) : Fr := if k < n then ⟨2, true, if k < j then s else !s⟩ else ⟨0, false, false⟩
theorem hdsT_mix (n : Nat) : hdsT n = mixT n 0 true := by
  funext k
  simp [hdsT, mixT]
theorem mixT_all (n : Nat) (s : Bool) : mixT n n s = mixT n 0 (!s) := by
  funext k
  unfold mixT
  by_cases h : k < n
  · simp [h]
  · simp [h]
theorem hdsT_set {n i : Nat} (hi : i < n) : setT n (hdsT i) i 2 true false = hdsT (i + 1) := by
  funext k
  have e : (inn n (i : Int) && isSt 2) = true := by simp [inn_of hi, isSt]
  unfold setT
  rw [e, if_pos rfl]
  simp only [Int.toNat_natCast]
  unfold hdsT
  by_cases hk : k = i
  · subst hk
    simp
  · by_cases h2 : k < i
    · simp [hk, h2, show k < i + 1 by omega]
    · simp [hk, h2, show ¬ k < i + 1 by omega]

/-- The numbers below j. -/
def ups (j : Nat) : List Int := (List.range j).map (fun i : Nat => (i : Int))
theorem ups_succ (j : Nat) : ups (j + 1) = ups j ++ [(j : Int)] := by simp [ups, List.range_succ]
theorem ups_len (j : Nat) : (ups j).length = j := by simp [ups]

section
variable {n i c : Nat} {s z : Bool} {P : List Int}
theorem mix_at (hi : i < n) (j : Nat) : mixT n j s i = ⟨2, true, if i < j then s else !s⟩ := by simp [mixT, hi]
theorem mix_black (hi : i < n) : blackB ⟨n, 200, mixT n i s, P, z, c⟩ i s = false := by
  simp [blackB, blk, mix_at hi]
theorem mix_grey (hi : i < n) : greyB ⟨n, 200, mixT n i s, P, z, c⟩ i s = true := by
  simp [greyB, hdd, markB, usd, inn_of hi, mix_at hi]
theorem mix_greyS (hi : i < n) (hp : P.length < 200) : greyS ⟨n, 200, mixT n i s, P, z, c⟩ i s = ⟨n, 200, mixT n (i + 1) s, P ++ [(i : Int)], z, c + 1⟩ := by
  have e : greyB (ShS.tick ⟨n, 200, mixT n i s, P, z, c⟩) i s = true := mix_grey hi
  unfold greyS layS
  rw [if_pos e]
  simp only [ShS.tick, pushT, pushZ, hp, if_true, ShS.mk.injEq, true_and, and_true]
  funext k
  have e2 : markB n (mixT n i s) i s = true := by simp [markB, usd, inn_of hi, mix_at hi]
  simp only [markT, e2, if_true, Int.toNat_natCast]
  by_cases hk : k = i
  · subst hk
    simp [mix_at hi]
  · unfold mixT
    by_cases h2 : k < i
    · simp [hk, h2, show k < i + 1 by omega]
    · simp [hk, h2, show ¬ k < i + 1 by omega]
theorem mix_no (hi : i < n) : greyB ⟨n, 200, mixT n (i + 1) s, P, z, c⟩ i s = false := by
  simp [greyB, hdd, markB, usd, inn_of hi, mix_at hi]
theorem mix_noS (hi : i < n) : greyS ⟨n, 200, mixT n (i + 1) s, P, z, c⟩ i s = ⟨n, 200, mixT n (i + 1) s, P, z, c + 1⟩ := by
  have e : greyB (ShS.tick ⟨n, 200, mixT n (i + 1) s, P, z, c⟩) i s = false := mix_no hi
  unfold greyS layS
  rw [e]
  rfl
theorem mix_yes (hi : i < n) : blackB ⟨n, 200, mixT n (i + 1) s, P, z, c⟩ i s = true := by
  simp [blackB, hdd, blk, usd, inn_of hi, mix_at hi]
theorem mix_other (hi : i < n) : blackB ⟨n, 200, mixT n (i + 1) s, P, z, c⟩ i (!s) = false := by
  simp [blackB, hdd, blk, usd, inn_of hi, mix_at hi]
end

set_option maxHeartbeats 8000000 in
set_option maxRecDepth 20000 in
theorem senses_in (n f : Nat) (w : World) (hn : (n : Int) ≤ 100) (hf : (f : Int) ≤ 20) :
    Calls Try.prog 6 #[.int .i64 n, .int .i64 f] w fun e w' => e = .returned (.bool true) ∧ Kept w w' := by
  have HN : Hid (∀ u, Kept w u → _) := fun u k => ms_new (w := w) n 200 u k (by omega) (by omega) (by omega)
  go_enter Try.func6, Try.ntmps6
  go_wp2_with fail
  refine (first_any _).mono ?_
  rintro e w1 ⟨rfl, k1⟩
  have K1 : Hid (Kept w w1) := k1
  clear k1
  go_wp2_with fail
  refine (HN.out _ K1.out).mono ?_
  rintro e w2 ⟨b, tb, rfl, t2⟩
  have H2 : Hid (Ms w w2 b tb ⟨n, 200, hdsT 0, [], false, 0⟩) := t2
  clear t2 K1 HN
  go_wp2_with fail
  refine (ms_table H2.out).mono ?_
  rintro e w3 ⟨rfl, rfl⟩
  go_wp2
  go_loopg [7] n (fun m i wr => ∃ j : Nat, i = .int .i64 j ∧ j ≤ n ∧ m = n - j ∧ Hid (Ms w wr b tb ⟨n, 200, hdsT j, [], false, 0⟩))
  case atStart => exact ⟨0, rfl, by omega, by omega, H2.out⟩
  case round =>
    obtain ⟨j, rfl, hj, hm, HR⟩ := hrel
    have HM : Hid _ := hm
    clear hm H2
    by_cases hlt : j < n
    · go_wp2_with fail
      refine (ms_table HR.out).mono ?_
      rintro e w4 ⟨rfl, rfl⟩
      go_wp2_with fail
      refine (ms_set j 2 true false HR.out).mono ?_
      rintro e w5 ⟨rfl, t5⟩
      have H5 : Hid (Ms w w5 b tb ⟨n, 200, hdsT (j + 1), [], false, 0⟩) := by
        have := t5
        unfold ShS.set at this
        simp only [hdsT_set hlt] at this
        exact this
      clear t5 HR
      go_wp2
      go_roundg (n - (j + 1))
      all_goals (have := HM.out; try omega)
      exact ⟨j + 1, by go_num, by omega, by omega, H5.out⟩
    · obtain rfl : j = n := by omega
      have H3 : Hid (Ms w wr b tb ⟨j, 200, mixT j 0 true, [], false, 0⟩) := by
        have := HR.out
        rwa [hdsT_mix] at this
      clear HR HM
      go_wp2
      go_loopg [8, 9] f (fun m s i wr2 => ∃ (q c : Nat) (t : Bool), s = .bool t ∧ i = .int .i64 q ∧ q ≤ f ∧ m = f - q ∧ c ≤ 600 * q ∧ Hid (Ms w wr2 b tb ⟨j, 200, mixT j 0 (!t), [], false, c⟩))
      case atStart => exact ⟨0, 0, false, rfl, rfl, by omega, by omega, by omega, H3.out⟩
      case round =>
        obtain ⟨q, c, t, rfl, rfl, hq, hm, hc, HR⟩ := hrel
        have HM : Hid _ := hm
        have HC : Hid _ := hc
        clear hm hc H3
        by_cases hqf : q < f
        · obtain ⟨s, hs⟩ : ∃ s, (!t) = s := ⟨_, rfl⟩
          rw [hs] at HR
          go_wp2
          clear hs
          go_loopg [10] j (fun m i wr2 => ∃ (p c : Nat), i = .int .i64 p ∧ p ≤ j ∧ m = j - p ∧ c ≤ 600 * q + 5 * p ∧ Hid (Ms w wr2 b tb ⟨j, 200, mixT j p s, ups p, false, c⟩))
          case atStart => exact ⟨0, c, rfl, by omega, by omega, HC.out, HR.out⟩
          case round =>
            obtain ⟨p, c, rfl, hp, hm, hc, HR⟩ := hrel
            have HM2 : Hid _ := hm
            have HC2 : Hid _ := hc
            clear hm
            have L0 : Hid (c + 5 < lots) := by simp only [Hid, lots]; omega
            clear hc
            by_cases hpj : p < j
            · have hl : Hid (p < j) := hpj
              go_wp2_with fail
              refine (ms_black p s HR.out (by have := L0.out; simp only [lots] at this ⊢; omega)).mono ?_
              rintro e w5 ⟨rfl, t5⟩
              have H5 : Hid (Ms w w5 b tb ⟨j, 200, mixT j p s, ups p, false, c + 1⟩) := t5
              clear t5
              rw [mix_black hl.out]
              go_wp2_with fail
              refine (ms_grey p s H5.out (by have := L0.out; simp only [lots] at this ⊢; omega)).mono ?_
              rintro e w6 ⟨rfl, t6⟩
              have H6 : Hid (Ms w w6 b tb ⟨j, 200, mixT j (p + 1) s, ups (p + 1), false, c + 2⟩) := by
                rw [mix_greyS hl.out (by rw [ups_len]; have := hl.out; omega), ← ups_succ] at t6
                exact t6
              clear t6 H5
              rw [mix_grey hl.out]
              go_wp2_with fail
              refine (ms_grey p s H6.out (by have := L0.out; simp only [lots] at this ⊢; omega)).mono ?_
              rintro e w7 ⟨rfl, t7⟩
              have H7 : Hid (Ms w w7 b tb ⟨j, 200, mixT j (p + 1) s, ups (p + 1), false, c + 3⟩) := by
                rw [mix_noS hl.out] at t7
                exact t7
              clear t7 H6
              rw [mix_no hl.out]
              go_wp2_with fail
              refine (ms_black p s H7.out (by have := L0.out; simp only [lots] at this ⊢; omega)).mono ?_
              rintro e w8 ⟨rfl, t8⟩
              have H8 : Hid (Ms w w8 b tb ⟨j, 200, mixT j (p + 1) s, ups (p + 1), false, c + 4⟩) := t8
              clear t8 H7
              rw [mix_yes hl.out]
              go_wp2_with fail
              refine (ms_black p (!s) H8.out (by have := L0.out; simp only [lots] at this ⊢; omega)).mono ?_
              rintro e w9 ⟨rfl, t9⟩
              have H9 : Hid (Ms w w9 b tb ⟨j, 200, mixT j (p + 1) s, ups (p + 1), false, c + 5⟩) := t9
              clear t9 H8
              rw [mix_other hl.out]
              go_wp2
              go_roundg (j - (p + 1))
              all_goals (have := HM2.out; have := HC2.out; try omega)
              exact ⟨p + 1, c + 5, by go_num, by omega, by omega, by omega, H9.out⟩
            · obtain rfl : p = j := by omega
              have H4 : Hid (Ms w wr b tb ⟨p, 200, mixT p 0 (!s), ups p, false, c⟩ ∧ c ≤ 600 * q + 500) := ⟨by
                have := HR.out
                rwa [mixT_all] at this, by have := HC2.out; omega⟩
              clear HR HC2 HM2 L0
              go_wp2
              go_loopg [11] p (fun m i wr2 => ∃ (r c : Nat), i = .int .i64 ((r : Int) - 1) ∧ r ≤ p ∧ m = r ∧ c + r ≤ 600 * q + 500 + p ∧ Hid (Ms w wr2 b tb ⟨p, 200, mixT p 0 (!s), ups r, false, c⟩))
              case atStart => exact ⟨p, c, rfl, by omega, by omega, by have := H4.out.2; omega, H4.out.1⟩
              case round =>
                obtain ⟨r, c, rfl, hr, hm, hc, HR⟩ := hrel
                have HM3 : Hid _ := hm
                have HC3 : Hid _ := hc
                clear hm hc H4
                by_cases hr0 : 0 < r
                · obtain ⟨k, rfl⟩ : ∃ k, r = k + 1 := ⟨r - 1, by omega⟩
                  have e9 : (((k + 1 : Nat)) : Int) - 1 = (k : Int) := by omega
                  rw [e9]
                  clear e9
                  go_wp2_with fail
                  refine (ms_next HR.out (by have := HC3.out; simp only [lots]; omega)).mono ?_
                  rintro e w5 ⟨rfl, t5⟩
                  have H5 : Hid (Ms w w5 b tb ⟨p, 200, mixT p 0 (!s), ups k, false, c + 1⟩) := by
                    have e : (ups (k + 1)).dropLast = ups k := by simp [ups_succ]
                    unfold ShS.tick ShS.pop at t5
                    simp only [e] at t5
                    exact t5
                  have e1 : topI (ups (k + 1)) = (k : Int) := by simp [topI, ups_succ]
                  have e2 : isI (ups (k + 1)) = true := by simp [isI, ups_succ]
                  rw [e1, e2]
                  clear t5 HR e1 e2
                  go_wp2
                  go_roundg k
                  all_goals (have := HM3.out; have := HC3.out; try omega)
                  exact ⟨k, c + 1, by go_num, by omega, by omega, by omega, H5.out⟩
                · obtain rfl : r = 0 := by omega
                  go_wp2
                  go_roundg (f - (q + 1))
                  all_goals (have := HM.out; have := HC3.out; try omega)
                  exact ⟨q + 1, c, s, rfl, by go_num, by omega, by omega, by omega, HR.out⟩
        · obtain rfl : q = f := by omega
          have L0 : Hid (c + 5 < lots) := by
            have := HC.out
            simp only [Hid, lots]
            omega
          clear HC HM
          go_wp2_with fail
          refine (ms_next HR.out (by have := L0.out; simp only [lots] at this ⊢; omega)).mono ?_
          rintro e w5 ⟨rfl, t5⟩
          have H5 : Hid (Ms w w5 b tb ⟨j, 200, mixT j 0 (!t), [], false, c + 1⟩) := t5
          have e1 : topI [] = 0 := rfl
          have e2 : isI [] = false := rfl
          rw [e1, e2]
          clear t5 HR e1 e2
          go_wp2_with fail
          refine (first_any _).mono ?_
          rintro e w6 ⟨rfl, k6⟩
          have H6 : Hid (Ms w w6 b tb ⟨j, 200, mixT j 0 (!t), [], false, c + 1⟩) := H5.out.still k6
          clear k6 H5
          go_wp2_with fail
          refine (ms_lost H6.out (by have := L0.out; simp only [lots] at this ⊢; omega)).mono ?_
          rintro e w7 ⟨rfl, t7⟩
          have K7 : Hid (Kept w w7) := t7.kept
          clear t7 H6
          go_wp2
          go_ret
          exact ⟨rfl, K7.out⟩

theorem shadeSenses_any (n0 f0 : Int) (w : World) (lo0 : IntKind.min .i64 ≤ n0) (hi0 : n0 ≤ IntKind.max .i64) (_lo1 : IntKind.min .i64 ≤ f0) (_hi1 : f0 ≤ IntKind.max .i64) :
    Calls Try.prog 6 #[.int .i64 n0, .int .i64 f0] w fun e w' => e = .returned (.bool true) ∧ Kept w w' := by
  by_cases hn : 0 ≤ n0 ∧ n0 ≤ 1024
  · obtain ⟨n, rfl⟩ : ∃ n : Nat, n0 = n := ⟨n0.toNat, by omega⟩
    by_cases ho : 100 < (n : Int) ∨ ((n : Int) ≤ 100 ∧ f0 < 0) ∨ ((n : Int) ≤ 100 ∧ 0 ≤ f0 ∧ 20 < f0)
    · exact senses_out n f0 w (by omega) ho
    · obtain ⟨f, rfl⟩ : ∃ f : Nat, f0 = f := ⟨f0.toNat, by omega⟩
      exact senses_in n f w (by omega) (by omega)
  · exact senses_bad n0 f0 w hn lo0 hi0
end Go.Proofs.Ytfglmnjhnjkiiaa
