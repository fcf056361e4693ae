/-
  Contracts of package pool: Low, Take; the comparison of two lists; the laws' own 'first'.
-/
import Derived.Test.YtpgmlnihgnomcaaPoolC
namespace Go.Proofs.Ytpgmlnihgnomcaa
open Go.RowKit

theorem lowL_all {n : Nat} {F : Nat → Bool} {k : Int} (h : (cntB F n : Int) < k) : (freeU F 0 n).take ((cntB F n : Nat) : Int).toNat = lowL n F k := by
  have := lowL_min n F k
  rwa [Int.min_eq_right (by omega)] at this

set_option maxHeartbeats 1000000 in
theorem low_any {b g n : Nat} {F : Nat → Bool} (k : Int) (w : World) (h : PTab 46 w b g n F) :
    Calls Try.prog 13 #[.pointer (some ⟨b, 0, none⟩), .int .i64 k] w fun e w' => ∃ v, e = .returned v ∧ Got w' w.heap.size v (lowL n F k) ∧ PTab 46 w' b g n (dropF F (lowL n F k)) ∧ Mut [g] w w' := by
  have H := free_any w h
  have hc := cntB_le F n
  have hn := h.few
  have HT : Hid (PTab 46 w b g n F) := h
  clear h
  by_cases hk : (cntB F n : Int) < k
  · have HE : Hid _ := lowL_all hk
    go_enter Try.func13, Try.ntmps13
    go_wp2_with fail
    refine H.mono ?_
    rintro e w' ⟨rfl, rfl⟩
    go_wp2_with fail
    refine (takeFrom_any 0 (cntB F n) _ HT.out (by omega) (by omega)).mono ?_
    rintro e w' ⟨v, rfl, hg, hp, hm⟩
    have HN : Hid (Got _ _ _ _ ∧ PTab _ _ _ _ _ _ ∧ Mut _ _ _) := ⟨hg, hp, hm⟩
    clear hg hp hm
    go_wp2
    go_ret
    rw [← HE.out]
    exact ⟨_, rfl, HN.out⟩
  · go_enter Try.func13, Try.ntmps13
    go_wp2_with fail
    refine H.mono ?_
    rintro e w' ⟨rfl, rfl⟩
    go_wp2_with fail
    refine (takeFrom_any 0 k _ HT.out (by omega) (by omega)).mono ?_
    rintro e w' ⟨v, rfl, hg, hp, hm⟩
    have HN : Hid (Got _ _ _ _ ∧ PTab _ _ _ _ _ _ ∧ Mut _ _ _) := ⟨hg, hp, hm⟩
    clear hg hp hm
    go_wp2
    go_ret
    exact ⟨_, rfl, HN.out⟩

theorem take_run {n a : Nat} {F : Nat → Bool} {k : Int} (ht : takeB n F k = true) (hr : runO n F k = some a) : (freeU F a n).take k.toNat = takeL n F k ∧ a ≤ n ∧ takeL n F k = List.range' a k.toNat := by
  have e : takeL n F k = List.range' a k.toNat := by rw [takeL, if_pos ht, hr]
  obtain ⟨m, rfl, h1, h2, h3, _⟩ := runO_inv hr
  have := freeU_range h3
  rw [e, Int.toNat_natCast]
  refine ⟨?_, by omega, rfl⟩
  rw [← this]
  exact freeU_take h2 (by rw [this]; simp) (.inr (by rw [this]; simp))
theorem take_low {n : Nat} {F : Nat → Bool} {k : Int} (ht : takeB n F k = true) (hr : runO n F k = none) : lowL n F k = takeL n F k := by
  rw [takeL, if_pos ht, hr]
theorem take_no {n : Nat} {F : Nat → Bool} {k : Int} (ht : takeB n F k = false) : takeL n F k = [] := by
  rw [takeL, if_neg (by simp [ht])]

set_option maxHeartbeats 1000000 in
theorem take_any {b g n : Nat} {F : Nat → Bool} (k : Int) (w : World) (h : PTab 46 w b g n F) :
    Calls Try.prog 10 #[.pointer (some ⟨b, 0, none⟩), .int .i64 k] w fun e w' => ∃ v, e = .returned (.tuple #[v, .bool (takeB n F k)]) ∧ Got w' w.heap.size v (takeL n F k) ∧ PTab 46 w' b g n (dropF F (takeL n F k)) ∧ Mut [g] w w' := by
  have H := free_any w h
  have hc := cntB_le F n
  have hn := h.few
  have HT : Hid (PTab 46 w b g n F) := h
  cases ht : takeB n F k
  · have HE : Hid _ := take_no ht
    have h2 : ¬ (1 ≤ k ∧ k ≤ cntB F n) := by simpa [takeB] using ht
    clear ht h
    by_cases hk : k < 1
    · clear h2 hc
      go_enter Try.func10, Try.ntmps10
      go_wp2
      go_ret2
      rw [HE.out, dropF_nil]
      exact ⟨_, rfl, Got.nil _ _, HT.out, Mut.refl _ _⟩
    · have h3 : (cntB F n : Int) < k := by omega
      clear h2 hc
      go_enter Try.func10, Try.ntmps10
      go_wp2_with fail
      refine H.mono ?_
      rintro e w' ⟨rfl, rfl⟩
      go_wp2
      go_ret2
      rw [HE.out, dropF_nil]
      exact ⟨_, rfl, Got.nil _ _, HT.out, Mut.refl _ _⟩
  · have h2 : 1 ≤ k ∧ k ≤ cntB F n := by simpa [takeB] using ht
    obtain ⟨h3, h4⟩ := h2
    have R := run_any k w h
    cases hr : runO n F k with
    | none =>
      have HE : Hid _ := take_low ht hr
      rw [hr] at R
      clear ht hr h
      go_enter Try.func10, Try.ntmps10
      go_wp2_with fail
      refine H.mono ?_
      rintro e w' ⟨rfl, rfl⟩
      go_wp2_with fail
      refine R.mono ?_
      rintro e w' ⟨rfl, rfl⟩
      go_wp2_with fail
      refine (low_any k _ HT.out).mono ?_
      rintro e w' ⟨v, rfl, hg, hp, hm⟩
      have HN : Hid (Got _ _ _ _ ∧ PTab _ _ _ _ _ _ ∧ Mut _ _ _) := ⟨hg, hp, hm⟩
      clear hg hp hm
      go_wp2
      go_ret2
      rw [← HE.out]
      exact ⟨_, rfl, HN.out⟩
    | some a =>
      have HE : Hid _ := take_run ht hr
      have ha := HE.out.2.1
      rw [hr] at R
      clear ht hr h
      go_enter Try.func10, Try.ntmps10
      go_wp2_with fail
      refine H.mono ?_
      rintro e w' ⟨rfl, rfl⟩
      go_wp2_with fail
      refine R.mono ?_
      rintro e w' ⟨rfl, rfl⟩
      go_wp2_with fail
      refine (takeFrom_any a k _ HT.out (by omega) (by omega)).mono ?_
      rintro e w' ⟨v, rfl, hg, hp, hm⟩
      have HN : Hid (Got _ _ _ _ ∧ PTab _ _ _ _ _ _ ∧ Mut _ _ _) := ⟨hg, hp, hm⟩
      clear hg hp hm
      go_wp2
      go_ret2
      rw [← HE.out.1]
      exact ⟨_, rfl, HN.out⟩

/-- A slice from which the numbers T are read. -/
def Rd (w : World) (x : Option Addr) (T : List Nat) : Prop := 0 < T.length → ∃ g, x = some ⟨g, 0, none⟩ ∧ g < w.heap.size ∧ ∀ j, (hj : j < T.length) → w.cell? ⟨g, j, none⟩ = some (.int .i64 (T[j] : Nat))
theorem Got.rd {w : World} {base l c : Nat} {x : Option Addr} {T : List Nat} (h : Got w base (.slice x l c) T) : Rd w x T := fun h0 => by
  obtain ⟨g, e, _, hl, hc⟩ := h.at h0
  exact ⟨g, e, hl, hc⟩
theorem Rd.kept {w w' : World} {x : Option Addr} {T : List Nat} (h : Rd w x T) (k : Kept w w') : Rd w' x T := fun h0 => by
  obtain ⟨g, e, hl, hc⟩ := h h0
  exact ⟨g, e, Nat.lt_of_lt_of_le hl k.size, fun j hj => (k.cell hl).trans (hc j hj)⟩

set_option maxHeartbeats 1000000 in
theorem ints_any {x y : Option Addr} {c d : Nat} {T : List Nat} (w : World) (hl : T.length ≤ 1000000) (hx : Rd w x T) (hy : Rd w y T) :
    Calls Try.prog 12 #[.slice x T.length c, .slice y T.length d] w fun e w' => e = .returned (.bool true) ∧ Kept w w' := by
  have HX : Hid (Rd w x T ∧ Rd w y T) := ⟨hx, hy⟩
  clear hx hy
  have h0 : ((T.length : Int) != (T.length : Int)) = false := by simp
  go_enter Try.func12, Try.ntmps12
  go_wp2
  clear h0
  go_loopg [5] T.length (fun m i wr => ∃ k : Nat, i = .int .i64 k ∧ k ≤ T.length ∧ m = T.length - k ∧ Hid (Kept w wr))
  case atStart => exact ⟨0, rfl, by omega, by omega, Kept.refl _⟩
  case round =>
    obtain ⟨k, rfl, hk, hm, hw⟩ := hrel
    have HM : Hid _ := hm
    clear hm
    by_cases hlt : k < T.length
    · obtain ⟨g, rfl, _, c1⟩ := HX.out.1.kept hw.out (by omega)
      obtain ⟨g2, rfl, _, c2⟩ := HX.out.2.kept hw.out (by omega)
      have d1 := c1 k hlt
      have d2 := c2 k hlt
      clear c1 c2
      generalize T[k] = tk at *
      generalize T.length = L at *
      have q0 : ((tk : Int) != (tk : Int)) = false := by simp
      go_wp2
      go_region
      all_goals go_wp2
      all_goals go_roundg (gk - 1)
      all_goals (have := HM.out; try omega)
      all_goals exact ⟨k + 1, by go_num, by omega, by omega, hw.out.drew⟩
    · obtain e : k = T.length := by omega
      generalize T.length = L at *
      subst e
      go_wp2
      go_ret
      exact ⟨rfl, hw.out⟩
end Go.Proofs.Ytpgmlnihgnomcaa
