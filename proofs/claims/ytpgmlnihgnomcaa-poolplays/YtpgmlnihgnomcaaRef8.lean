/-
  Contracts of the document's pool (package sporef6): the same functions of what is free as package pool's.
-/
import Derived.Test.YtpgmlnihgnomcaaPoolD
namespace Go.Proofs.Ytpgmlnihgnomcaa
open Go.RowKit

set_option maxHeartbeats 400000 in
theorem rhas_any {b g n : Nat} {F : Nat → Bool} (i : Int) (w : World) (h : PTab 48 w b g n F) :
    Calls Try.prog 22 #[.pointer (some ⟨b, 0, none⟩), .int .i64 i] w fun e w' => e = .returned (.bool (hasB n F i)) ∧ w' = w := by
  have c0 := h.hd
  cases hi : inn n i
  · have h1 := inn_not hi
    simp only [hasB, hi, Bool.false_and]
    by_cases h0 : 0 ≤ i
    · have h2 : ¬ i < (n : Int) := fun q => h1 ⟨h0, q⟩
      clear h1 hi h
      go_enter Try.func22, Try.ntmps22
      go_wp2
      go_ret
      exact ⟨rfl, rfl⟩
    · clear h1 hi h
      go_enter Try.func22, Try.ntmps22
      go_wp2
      go_ret
      exact ⟨rfl, rfl⟩
  · obtain ⟨k, rfl, hk⟩ := inn_iff hi
    have c1 := h.at hk
    simp only [hasB, hi, Bool.true_and, Int.toNat_natCast]
    clear h hi
    go_enter Try.func22, Try.ntmps22
    go_wp2
    go_ret
    exact ⟨rfl, rfl⟩

set_option maxHeartbeats 400000 in
theorem rgive_any {b g n : Nat} {F : Nat → Bool} (i : Int) (w : World) (h : PTab 48 w b g n F) :
    Calls Try.prog 16 #[.pointer (some ⟨b, 0, none⟩), .int .i64 i] w fun e w' => e = .returned (.bool (giveB n F i)) ∧ PTab 48 w' b g n (giveF n F i) ∧ Mut [g] w w' := by
  have c0 := h.hd
  have HT : Hid (PTab 48 w b g n F) := h
  cases hi : inn n i
  · have h1 := inn_not hi
    simp only [giveB, giveF, hi, Bool.false_and, Bool.false_eq_true, if_false]
    by_cases h0 : 0 ≤ i
    · have h2 : ¬ i < (n : Int) := fun q => h1 ⟨h0, q⟩
      clear h1 hi h
      go_enter Try.func16, Try.ntmps16
      go_wp2
      go_ret
      exact ⟨rfl, HT.out, Mut.refl _ _⟩
    · clear h1 hi h
      go_enter Try.func16, Try.ntmps16
      go_wp2
      go_ret
      exact ⟨rfl, HT.out, Mut.refl _ _⟩
  · obtain ⟨k, rfl, hk⟩ := inn_iff hi
    have c1 := h.at hk
    have c2 := h.row.frozen
    simp only [giveB, giveF, hi, Bool.true_and, Int.toNat_natCast]
    clear h hi
    cases hf : F k
    · rw [hf] at c1
      clear hf
      go_enter Try.func16, Try.ntmps16
      go_wp2
      go_ret
      exact ⟨rfl, HT.out.set k true, (Mut.refl _ _).setCell (by simp) _⟩
    · rw [hf] at c1
      clear hf
      go_enter Try.func16, Try.ntmps16
      go_wp2
      go_ret
      exact ⟨rfl, HT.out, Mut.refl _ _⟩

set_option maxHeartbeats 1000000 in
theorem rfree_any {b g n : Nat} {F : Nat → Bool} (w : World) (h : PTab 48 w b g n F) :
    Calls Try.prog 20 #[.pointer (some ⟨b, 0, none⟩)] w fun e w' => e = .returned (.int .i64 (cntB F n)) ∧ w' = w := by
  have c0 := h.hd
  have hn := h.few
  have HT : Hid (PTab 48 w b g n F) := h
  clear h
  go_enter Try.func20, Try.ntmps20
  go_wp2
  go_loopg [3, 4] n (fun m x i wr => ∃ k : Nat, i = .int .i64 k ∧ k ≤ n ∧ m = n - k ∧ x = .int .i64 (cntB F k) ∧ wr = w)
  case atStart => exact ⟨0, rfl, by omega, by omega, rfl, rfl⟩
  case round =>
    obtain ⟨k, rfl, hk, hm, rfl, rfl⟩ := hrel
    have HM : Hid _ := hm
    clear hm
    have l0 := cntB_le F k
    by_cases hlt : k < n
    · have a0 := HT.out.at hlt
      have s0 : Hid (cntB F (k + 1) = cntB F k + if F k then 1 else 0) := rfl
      cases hf : F k
      all_goals (rw [hf] at a0 s0; clear hf)
      all_goals go_wp2
      all_goals go_roundg (gk - 1)
      all_goals (have := HM.out; try omega)
      all_goals exact ⟨k + 1, by go_num, by omega, by omega, by simp [s0.out], rfl⟩
    · obtain rfl : k = n := by omega
      go_wp2
      go_ret
      exact ⟨rfl, rfl⟩

set_option maxHeartbeats 800000 in
theorem rnew_bad (n : Int) (w : World) (hn : ¬ (0 ≤ n ∧ n ≤ 1024)) :
    Calls Try.prog 9 #[.int .i64 n] w fun e w' => e = .returned (.tuple #[.pointer none, .int .i64 1]) ∧ w' = w := by
  by_cases h0 : n < 0
  · clear hn
    go_enter Try.func9, Try.ntmps9
    go_wp2
    go_ret2
    exact ⟨rfl, rfl⟩
  · have h1 : 1024 < n := by omega
    clear hn
    go_enter Try.func9, Try.ntmps9
    go_wp2
    go_ret2
    exact ⟨rfl, rfl⟩

set_option maxHeartbeats 800000 in
theorem rnew_any (n : Nat) (w : World) (hn : n ≤ 1024) :
    Calls Try.prog 9 #[.int .i64 n] w fun e w' => ∃ b g, e = .returned (.tuple #[.pointer (some ⟨b, 0, none⟩), .int .i64 0]) ∧ PTab 48 w' b g n F1 ∧ w.heap.size ≤ b ∧ w.heap.size ≤ g ∧ Kept w w' := by
  have hmk := run_make_bools n hn
  have PM : Hid _ := pool_made 48 w n hn
  have KM : Hid (Kept w ((w.alloc (.cells (madeCells #[.bool false] n) 4)).alloc (.cells #[.slice (some ⟨w.heap.size, 0, none⟩) n n] 48))) := ((Kept.refl w).alloc _ _).alloc _ _
  go_enter Try.func9, Try.ntmps9
  go_wp2
  clear hmk
  go_loopg [5] n (fun m i wr => ∃ k : Nat, i = .int .i64 k ∧ k ≤ n ∧ m = n - k ∧ Hid (PTab 48 wr (w.heap.size + 1) w.heap.size n (fun j => decide (j < k)) ∧ Kept w wr))
  case atStart => exact ⟨0, rfl, by omega, by omega, PM.out.congr (fun j _ => by simp), KM.out⟩
  case round =>
    clear PM KM
    obtain ⟨k, rfl, hk, hm, hw⟩ := hrel
    have HM : Hid _ := hm
    clear hm
    have c0 := hw.out.1.hd
    by_cases hlt : k < n
    · have c1 := hw.out.1.at hlt
      have c2 := hw.out.1.row.frozen
      go_wp2
      go_roundg (gk - 1)
      all_goals (have := HM.out; try omega)
      refine ⟨k + 1, by go_num, by omega, by omega, ?_, ?_⟩
      · have := hw.out.1.set k true
        rwa [below_step] at this
      · exact hw.out.2.setCell (Nat.le_refl _) _
    · obtain rfl : k = n := by omega
      go_wp2
      go_ret2
      exact ⟨_, _, rfl, hw.out.1.congr (fun j hj => by simp [F1, hj]), by omega, by omega, hw.out.2⟩

set_option maxHeartbeats 2000000 in
theorem rrun_any {b g n : Nat} {F : Nat → Bool} (k : Int) (w : World) (h : PTab 48 w b g n F) :
    Calls Try.prog 18 #[.pointer (some ⟨b, 0, none⟩), .int .i64 k] w fun e w' => e = .returned (.tuple #[.int .i64 (runV (runO n F k)), .bool (runO n F k).isSome]) ∧ w' = w := by
  have c0 := h.hd
  have hn := h.few
  by_cases hk : k < 1
  · rw [runO_low hk]
    clear h
    go_enter Try.func18, Try.ntmps18
    go_wp2
    go_ret2
    exact ⟨rfl, rfl⟩
  · by_cases hk2 : (n : Int) < k
    · rw [runO_high hk2]
      clear h
      go_enter Try.func18, Try.ntmps18
      go_wp2
      go_ret2
      exact ⟨rfl, rfl⟩
    · obtain ⟨K, rfl⟩ : ∃ K : Nat, k = K := ⟨k.toNat, by omega⟩
      have HT : Hid (PTab 48 w b g n F) := h
      have HR : Hid (topR F K (n + 1 - K) = runO n F K) := by
        rw [runO, if_pos (by omega), Int.toNat_natCast]
        exact rfl
      generalize runO n F K = R at *
      clear h
      go_enter Try.func18, Try.ntmps18
      go_wp2
      go_loopg [6] (n + 1) (fun t s wr => ∃ m : Nat, s = .int .i64 ((m : Int) - 1) ∧ m + K ≤ n + 1 ∧ t = m + K ∧ w = wr ∧ Hid (topR F K m = R))
      case atStart => exact ⟨n + 1 - K, by congr 1; omega, by omega, by omega, rfl, HR⟩
      case round =>
        obtain ⟨m, rfl, hmK, hm, rfl, hr⟩ := hrel
        have HM : Hid _ := hm
        clear hm HR
        cases m with
        | zero =>
          have e0 : ((0 : Nat) : Int) - 1 = -1 := rfl
          rw [e0]
          have e1 : R = none := hr.out.symm
          subst e1
          go_wp2
          go_ret2
          exact ⟨rfl, rfl⟩
        | succ a =>
          have e0 : ((a + 1 : Nat) : Int) - 1 = a := by omega
          rw [e0]
          clear e0
          go_wp2_with fail
          go_loopg [7] K (fun t s wr => ∃ q : Nat, s = .int .i64 q ∧ q ≤ K ∧ t = K - q ∧ w = wr ∧ Hid (runsB F a q = true))
          case atStart => exact ⟨0, rfl, by omega, rfl, rfl, rfl⟩
          case round =>
            obtain ⟨q, rfl, hq, hm, rfl, hs⟩ := hrel
            have HM2 : Hid _ := hm
            clear hm
            by_cases hqK : q < K
            · have c1 := HT.out.at (k := a + q) (by omega)
              cases hf : F (a + q)
              · rw [hf] at c1
                have HE : Hid (topR F K a = R) := by
                  have := hr.out
                  rw [topR, if_neg (by rw [runsB_no q hqK hf]; simp)] at this
                  exact this
                have z : ((q : Int) == (K : Int)) = false := by simp; omega
                clear hf
                go_wp2
                go_roundg (a + K)
                all_goals (have := HM.out; try omega)
                exact ⟨a, rfl, by omega, rfl, rfl, HE⟩
              · rw [hf] at c1
                have HE : Hid (runsB F a (q + 1) = true) := by
                  simp [Hid, runsB, hs.out, hf]
                clear hf
                go_wp2
                go_roundg (K - (q + 1))
                all_goals (have := HM2.out; try omega)
                exact ⟨q + 1, by go_num, by omega, rfl, rfl, HE⟩
            · obtain rfl : K = q := by omega
              have e1 : R = some a := by
                have := hr.out
                rw [topR, if_pos hs.out] at this
                exact this.symm
              subst e1
              have z : ((K : Int) == (K : Int)) = true := by simp
              go_wp2
              go_ret2
              exact ⟨rfl, rfl⟩
end Go.Proofs.Ytpgmlnihgnomcaa
