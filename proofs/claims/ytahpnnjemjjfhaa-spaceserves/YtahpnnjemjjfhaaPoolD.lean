/-
  Contracts of package pool: Low, Take; the comparison of two lists; the laws' own 'first'.
-/
import Derived.Test.YtahpnnjemjjfhaaPoolC
namespace Go.Proofs.Ytahpnnjemjjfhaa
open Go.RowKit

theorem lowL_all {n : Nat} {F : Nat → Bool} {k : Int} (h : (cntB F n : Int) < k) : (freeU F 0 n).take ((cntB F n : Nat) : Int).toNat = lowL n F k := by
  have := lowL_min n F k
  rwa [Int.min_eq_right (by omega)] at this

set_option maxHeartbeats 1000000 in
theorem plow_any {b g n : Nat} {F : Nat → Bool} (k : Int) (w : World) (h : PTab 104 w b g n F) :
    Calls Try.prog 80 #[.pointer (some ⟨b, 0, none⟩), .int .i64 k] w fun e w' => ∃ v, e = .returned v ∧ Got w' w.heap.size v (lowL n F k) ∧ PTab 104 w' b g n (dropF F (lowL n F k)) ∧ Mut [g] w w' := by
  have H := pfree_any w h
  have hc := cntB_le F n
  have hn := h.few
  have HT : Hid (PTab 104 w b g n F) := h
  clear h
  by_cases hk : (cntB F n : Int) < k
  · have HE : Hid _ := lowL_all hk
    go_enter Try.func80, Try.ntmps80
    go_wp2_with fail
    refine H.mono ?_
    rintro e w' ⟨rfl, rfl⟩
    go_wp2_with fail
    refine (ptakeFrom_any 0 (cntB F n) _ HT.out (by omega) (by omega)).mono ?_
    rintro e w' ⟨v, rfl, hg, hp, hm⟩
    have HN : Hid (Got _ _ _ _ ∧ PTab _ _ _ _ _ _ ∧ Mut _ _ _) := ⟨hg, hp, hm⟩
    clear hg hp hm
    go_wp2
    go_ret
    rw [← HE.out]
    exact ⟨_, rfl, HN.out⟩
  · go_enter Try.func80, Try.ntmps80
    go_wp2_with fail
    refine H.mono ?_
    rintro e w' ⟨rfl, rfl⟩
    go_wp2_with fail
    refine (ptakeFrom_any 0 k _ HT.out (by omega) (by omega)).mono ?_
    rintro e w' ⟨v, rfl, hg, hp, hm⟩
    have HN : Hid (Got _ _ _ _ ∧ PTab _ _ _ _ _ _ ∧ Mut _ _ _) := ⟨hg, hp, hm⟩
    clear hg hp hm
    go_wp2
    go_ret
    exact ⟨_, rfl, HN.out⟩

theorem take_run {n a : Nat} {F : Nat → Bool} {k : Int} (ht : takeB n F k = true) (hr : runO n F k = some a) : (freeU F a n).take k.toNat = takeL n F k ∧ a ≤ n ∧ takeL n F k = List.range' a k.toNat := by
  have e : takeL n F k = List.range' a k.toNat := by rw [takeL, if_pos ht, hr]
  obtain ⟨m, rfl, h1, h2, h3, _⟩ := runO_inv hr
  have := freeU_range h3
  rw [e, Int.toNat_natCast]
  refine ⟨?_, by omega, rfl⟩
  rw [← this]
  exact freeU_take h2 (by rw [this]; simp) (.inr (by rw [this]; simp))
theorem take_low {n : Nat} {F : Nat → Bool} {k : Int} (ht : takeB n F k = true) (hr : runO n F k = none) : lowL n F k = takeL n F k := by
  rw [takeL, if_pos ht, hr]
theorem ptake_no {n : Nat} {F : Nat → Bool} {k : Int} (ht : takeB n F k = false) : takeL n F k = [] := by
  rw [takeL, if_neg (by simp [ht])]

set_option maxHeartbeats 1000000 in
theorem ptake_any {b g n : Nat} {F : Nat → Bool} (k : Int) (w : World) (h : PTab 104 w b g n F) :
    Calls Try.prog 77 #[.pointer (some ⟨b, 0, none⟩), .int .i64 k] w fun e w' => ∃ v, e = .returned (.tuple #[v, .bool (takeB n F k)]) ∧ Got w' w.heap.size v (takeL n F k) ∧ PTab 104 w' b g n (dropF F (takeL n F k)) ∧ Mut [g] w w' := by
  have H := pfree_any w h
  have hc := cntB_le F n
  have hn := h.few
  have HT : Hid (PTab 104 w b g n F) := h
  cases ht : takeB n F k
  · have HE : Hid _ := ptake_no ht
    have h2 : ¬ (1 ≤ k ∧ k ≤ cntB F n) := by simpa [takeB] using ht
    clear ht h
    by_cases hk : k < 1
    · clear h2 hc
      go_enter Try.func77, Try.ntmps77
      go_wp2
      go_ret2
      rw [HE.out, dropF_nil]
      exact ⟨_, rfl, Got.nil _ _, HT.out, Mut.refl _ _⟩
    · have h3 : (cntB F n : Int) < k := by omega
      clear h2 hc
      go_enter Try.func77, Try.ntmps77
      go_wp2_with fail
      refine H.mono ?_
      rintro e w' ⟨rfl, rfl⟩
      go_wp2
      go_ret2
      rw [HE.out, dropF_nil]
      exact ⟨_, rfl, Got.nil _ _, HT.out, Mut.refl _ _⟩
  · have h2 : 1 ≤ k ∧ k ≤ cntB F n := by simpa [takeB] using ht
    obtain ⟨h3, h4⟩ := h2
    have R := prun_any k w h
    cases hr : runO n F k with
    | none =>
      have HE : Hid _ := take_low ht hr
      rw [hr] at R
      clear ht hr h
      go_enter Try.func77, Try.ntmps77
      go_wp2_with fail
      refine H.mono ?_
      rintro e w' ⟨rfl, rfl⟩
      go_wp2_with fail
      refine R.mono ?_
      rintro e w' ⟨rfl, rfl⟩
      go_wp2_with fail
      refine (plow_any k _ HT.out).mono ?_
      rintro e w' ⟨v, rfl, hg, hp, hm⟩
      have HN : Hid (Got _ _ _ _ ∧ PTab _ _ _ _ _ _ ∧ Mut _ _ _) := ⟨hg, hp, hm⟩
      clear hg hp hm
      go_wp2
      go_ret2
      rw [← HE.out]
      exact ⟨_, rfl, HN.out⟩
    | some a =>
      have HE : Hid _ := take_run ht hr
      have ha := HE.out.2.1
      rw [hr] at R
      clear ht hr h
      go_enter Try.func77, Try.ntmps77
      go_wp2_with fail
      refine H.mono ?_
      rintro e w' ⟨rfl, rfl⟩
      go_wp2_with fail
      refine R.mono ?_
      rintro e w' ⟨rfl, rfl⟩
      go_wp2_with fail
      refine (ptakeFrom_any a k _ HT.out (by omega) (by omega)).mono ?_
      rintro e w' ⟨v, rfl, hg, hp, hm⟩
      have HN : Hid (Got _ _ _ _ ∧ PTab _ _ _ _ _ _ ∧ Mut _ _ _) := ⟨hg, hp, hm⟩
      clear hg hp hm
      go_wp2
      go_ret2
      rw [← HE.out.1]
      exact ⟨_, rfl, HN.out⟩

end Go.Proofs.Ytahpnnjemjjfhaa
