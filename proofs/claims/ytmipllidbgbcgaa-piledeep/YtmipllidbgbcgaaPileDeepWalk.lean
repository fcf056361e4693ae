/-
  PileDeep: the walk.
-/
import Derived.Test.YtmipllidbgbcgaaFirst14
namespace Go.Proofs.Ytmipllidbgbcgaa
open Go.RowKit

set_option maxHeartbeats 2000000 in
set_option maxRecDepth 20000 in
theorem deep_bad (n : Int) (x : Option Addr) (l c : Nat) (w : World) (hn : ¬ (1 ≤ n ∧ n ≤ 256)) :
    Calls Try.prog 5 #[.int .i64 n, .slice x l c] w fun e w' => e = .returned (.bool true) ∧ Kept w w' := by
  have HN : Hid (∀ w, _) := fun w => new_bad n w hn
  rcases (show n < 1 ∨ (1 ≤ n ∧ 256 < n) by omega) with h | ⟨h0, h⟩
  all_goals clear hn
  all_goals go_enter Try.func5, Try.ntmps5
  all_goals go_wp2_with fail
  all_goals (refine (first_any _).mono ?_; rintro e w1 ⟨rfl, k1⟩)
  all_goals (have K1 : Hid (Kept w w1) := k1; clear k1)
  all_goals go_wp2_with fail
  all_goals (refine (HN.out _).mono ?_; rintro e w2 ⟨rfl, rfl⟩)
  all_goals go_wp2_with fail
  all_goals (refine (first_any _).mono ?_; rintro e w3 ⟨rfl, k3⟩)
  all_goals (have K3 : Hid (Kept w w3) := K1.out.trans k3; clear k3)
  all_goals go_wp2
  all_goals go_ret
  all_goals exact ⟨rfl, K3.out⟩

set_option maxHeartbeats 2000000 in
set_option maxRecDepth 20000 in
theorem deep_out (n : Nat) (x : Option Addr) (l c : Nat) (w : World) (h1 : 1 ≤ (n : Int)) (hn : (n : Int) ≤ 256) (ho : 200 < (l : Int)) :
    Calls Try.prog 5 #[.int .i64 n, .slice x l c] w fun e w' => e = .returned (.bool true) ∧ Kept w w' := by
  go_enter Try.func5, Try.ntmps5
  go_wp2_with fail
  refine (first_any _).mono ?_
  rintro e w1 ⟨rfl, k1⟩
  have K1 : Hid (Kept w w1) := k1
  clear k1
  go_wp2_with fail
  refine (mine_new n _ K1.out h1 hn).mono ?_
  rintro e w2 ⟨b, rfl, t2⟩
  have K2 : Hid (Kept w w2) := t2.kept
  clear t2 K1
  go_wp2_with fail
  refine (first_any _).mono ?_
  rintro e w3 ⟨rfl, k3⟩
  have K3 : Hid (Kept w w3) := K2.out.trans k3
  clear k3
  go_wp2
  go_ret
  exact ⟨rfl, K3.out⟩

/-- The numbers below j. -/
def ups (j : Nat) : List Int := pre (fun i => (i : Int)) j
theorem ups_succ (j : Nat) : ups (j + 1) = ups j ++ [(j : Int)] := pre_succ _ j
theorem ups_len (j : Nat) : (ups j).length = j := pre_len _ j

set_option maxHeartbeats 8000000 in
set_option maxRecDepth 20000 in
theorem deep_in (n : Nat) (x : Option Addr) (l c : Nat) (L : Nat → Int) (w : World) (hX : Ints w x l L) (h1 : 1 ≤ (n : Int)) (hn : (n : Int) ≤ 256) (hl : (l : Int) ≤ 200) :
    Calls Try.prog 5 #[.int .i64 n, .slice x l c] w fun e w' => e = .returned (.bool true) ∧ Kept w w' := by
  have HX : Hid (Ints w x l L) := hX
  clear hX
  go_enter Try.func5, Try.ntmps5
  go_wp2_with fail
  refine (first_any _).mono ?_
  rintro e w1 ⟨rfl, k1⟩
  have K1 : Hid (Kept w w1) := k1
  clear k1
  go_wp2_with fail
  refine (mine_new n _ K1.out h1 hn).mono ?_
  rintro e w2 ⟨b, rfl, t2⟩
  have H2 : Hid (Mine w w2 b n [] false) := t2
  clear t2 K1
  go_wp2
  go_loopg [7] l (fun m i wr => ∃ j : Nat, i = .int .i64 j ∧ j ≤ l ∧ m = l - j ∧ Hid (Mine w wr b n [] false))
  case atStart => exact ⟨0, rfl, by omega, by omega, H2.out⟩
  case round =>
    obtain ⟨j, rfl, hj, hm, HR⟩ := hrel
    have HM : Hid _ := hm
    clear hm H2
    by_cases hlt : j < l
    · obtain ⟨bx, ox, rfl, hbx, hcx⟩ := HX.out.at (by omega)
      have e0 : wr.cell? ⟨bx, ox + j, none⟩ = _ := (HR.out.kept.cell hbx).trans (hcx j hlt)
      go_wp2_with fail
      refine (mine_push (L j) HR.out (by simp; omega)).mono ?_
      rintro e w3 ⟨rfl, t3⟩
      have H3 : Hid (Mine w w3 b n ([] ++ [L j]) false) := t3
      clear t3 HR e0
      go_wp2_with fail
      refine (mine_pop H3.out).mono ?_
      rintro e w4 ⟨rfl, t4⟩
      have H4 : Hid (Mine w w4 b n [] false) := t4
      have e0 : w4.cell? ⟨bx, ox + j, none⟩ = _ := (t4.kept.cell hbx).trans (hcx j hlt)
      clear t4 H3 hcx hbx
      go_wp2_with fail
      refine (mine_lost H4.out).mono ?_
      rintro e w5 ⟨rfl, rfl⟩
      go_wp2_with fail
      refine (mine_len H4.out).mono ?_
      rintro e w6 ⟨rfl, rfl⟩
      have e1 : ((([] : List Int).length : Nat) : Int) = 0 := rfl
      rw [e1]
      go_wp2
      go_roundg (l - (j + 1))
      all_goals (have := HM.out; try omega)
      exact ⟨j + 1, by go_num, by omega, by omega, H4.out⟩
    · obtain rfl : j = l := by omega
      go_wp2
      go_loopg [10] n (fun m i wr2 => ∃ q : Nat, i = .int .i64 (q : Int) ∧ q ≤ n ∧ m = n - q ∧ Hid (Mine w wr2 b n (ups q) false))
      case atStart => exact ⟨0, rfl, by omega, by omega, HR.out⟩
      case round =>
        obtain ⟨q, rfl, hq, hm2, HQ⟩ := hrel
        have HM2 : Hid _ := hm2
        clear hm2 HR
        by_cases hqn : q < n
        · go_wp2_with fail
          refine (mine_push (q : Int) HQ.out (by rw [ups_len]; omega)).mono ?_
          rintro e w3 ⟨rfl, t3⟩
          have H3 : Hid (Mine w w3 b n (ups (q + 1)) false) := by rw [ups_succ]; exact t3
          clear t3 HQ
          go_wp2_with fail
          refine (mine_lost H3.out).mono ?_
          rintro e w4 ⟨rfl, rfl⟩
          go_wp2
          go_roundg (n - (q + 1))
          all_goals (have := HM2.out; try omega)
          exact ⟨q + 1, by go_num, by omega, by omega, H3.out⟩
        · obtain rfl : q = n := by omega
          go_wp2_with fail
          refine (mine_push_no 7 HQ.out (ups_len _)).mono ?_
          rintro e w3 ⟨rfl, t3⟩
          have H3 : Hid (Mine w w3 b q (ups q) true) := t3
          clear t3 HQ
          go_wp2_with fail
          refine (mine_lost H3.out).mono ?_
          rintro e w4 ⟨rfl, rfl⟩
          go_wp2_with fail
          refine (mine_found H3.out).mono ?_
          rintro e w5 ⟨rfl, t5⟩
          have H5 : Hid (Mine w w5 b q (ups q) false) := t5
          clear t5 H3
          go_wp2_with fail
          refine (mine_lost H5.out).mono ?_
          rintro e w6 ⟨rfl, rfl⟩
          obtain ⟨r, hr, H6⟩ : ∃ r : Nat, (r : Int) = (q : Int) - 1 ∧ Hid (Mine w w6 b q (ups r ++ [(r : Int)]) false) := ⟨q - 1, by omega, by
            rw [← ups_succ, show q - 1 + 1 = q by omega]
            exact H5.out⟩
          have HRQ : Hid ((r : Int) = (q : Int) - 1) := hr
          have HU : Hid ((ups r).length < q) := by
            rw [ups_len]
            show r < q
            omega
          clear H5
          go_wp2_with fail
          refine (mine_pop H6.out).mono ?_
          rintro e w7 ⟨rfl, t7⟩
          have H7 : Hid (Mine w w7 b q (ups r) false) := t7
          clear t7 H6
          go_wp2_with fail
          refine (first_any _).mono ?_
          rintro e w8 ⟨rfl, k8⟩
          have H8 : Hid (Mine w w8 b q (ups r) false) := H7.out.still k8
          clear k8 H7
          have e8 : ((r : Int) == (q : Int) - 1) = true := by simpa using HRQ.out
          clear hr
          go_wp2_with fail
          refine (mine_push 8 H8.out HU.out).mono ?_
          rintro e w9 ⟨rfl, t9⟩
          have H9 : Hid (Mine w w9 b q (ups r ++ [8]) false) := t9
          clear t9 H8
          go_wp2_with fail
          refine (mine_lost H9.out).mono ?_
          rintro e w10 ⟨rfl, rfl⟩
          go_wp2
          go_ret
          exact ⟨by simp, H9.out.kept⟩

theorem pileDeep_any (n0 : Int) (x1 : Option Addr) (l1 c1 : Nat) (L1 : Nat → Int) (w : World) (_lo0 : IntKind.min .i64 ≤ n0) (_hi0 : n0 ≤ IntKind.max .i64) (_h1c : l1 ≤ c1) (hL1 : Ints w x1 l1 L1) (_hB1 : ∀ i, i < l1 → IntKind.min .i64 ≤ L1 i ∧ L1 i ≤ IntKind.max .i64) :
    Calls Try.prog 5 #[.int .i64 n0, .slice x1 l1 c1] w fun e w' => e = .returned (.bool true) ∧ Kept w w' := by
  by_cases hn : 1 ≤ n0 ∧ n0 ≤ 256
  · obtain ⟨n, rfl⟩ : ∃ n : Nat, n0 = n := ⟨n0.toNat, by omega⟩
    by_cases ho : 200 < (l1 : Int)
    · exact deep_out n x1 l1 c1 w hn.1 hn.2 ho
    · exact deep_in n x1 l1 c1 L1 w hL1 hn.1 hn.2 (by omega)
  · exact deep_bad n0 x1 l1 c1 w hn
end Go.Proofs.Ytmipllidbgbcgaa
