/-
  PileOdd: the walk.
-/
import Derived.Test.YtmipllidbgbcgaaFirst14
namespace Go.Proofs.Ytmipllidbgbcgaa
open Go.RowKit

set_option maxHeartbeats 2000000 in
set_option maxRecDepth 20000 in
theorem odd_out (x : Option Addr) (l c : Nat) (w : World) (ho : 256 < (l : Int)) :
    Calls Try.prog 6 #[.slice x l c] w fun e w' => e = .returned (.bool true) ∧ Kept w w' := by
  have HN : Hid (∀ u : World, Kept w u → _) := fun u k => mine_new (w := w) 256 u k (by omega) (by omega)
  go_enter Try.func6, Try.ntmps6
  go_wp2_with fail
  refine (first_any _).mono ?_
  rintro e w1 ⟨rfl, k1⟩
  have K1 : Hid (Kept w w1) := k1
  clear k1
  go_wp2_with fail
  refine (HN.out _ K1.out).mono ?_
  rintro e w2 ⟨b, rfl, t2⟩
  have K2 : Hid (Kept w w2) := t2.kept
  clear t2 K1
  go_wp2_with fail
  refine (first_any _).mono ?_
  rintro e w3 ⟨rfl, k3⟩
  have K3 : Hid (Kept w w3) := K2.out.trans k3
  clear k3
  go_wp2
  go_ret
  exact ⟨rfl, K3.out⟩

set_option maxHeartbeats 4000000 in
set_option maxRecDepth 20000 in
theorem odd_in (x : Option Addr) (l c : Nat) (L : Nat → Int) (w : World) (hX : Ints w x l L) (hl : (l : Int) ≤ 256) :
    Calls Try.prog 6 #[.slice x l c] w fun e w' => e = .returned (.bool true) ∧ Kept w w' := by
  have HN : Hid (∀ u : World, Kept w u → _) := fun u k => mine_new (w := w) 256 u k (by omega) (by omega)
  have HX : Hid (Ints w x l L) := hX
  clear hX
  go_enter Try.func6, Try.ntmps6
  go_wp2_with fail
  refine (first_any _).mono ?_
  rintro e w1 ⟨rfl, k1⟩
  have K1 : Hid (Kept w w1) := k1
  clear k1
  go_wp2_with fail
  refine (HN.out _ K1.out).mono ?_
  rintro e w2 ⟨b, rfl, t2⟩
  have H2 : Hid (Mine w w2 b 256 [] false) := t2
  clear t2 K1 HN
  go_wp2
  go_loopg [5] l (fun m i wr => ∃ j : Nat, i = .int .i64 j ∧ j ≤ l ∧ m = l - j ∧ Hid (Mine w wr b 256 (pre L j) false))
  case atStart => exact ⟨0, rfl, by omega, by omega, H2.out⟩
  case round =>
    obtain ⟨j, rfl, hj, hm, HR⟩ := hrel
    have HM : Hid _ := hm
    clear hm H2
    by_cases hlt : j < l
    · obtain ⟨bx, ox, rfl, hbx, hcx⟩ := HX.out.at (by omega)
      have e0 : wr.cell? ⟨bx, ox + j, none⟩ = _ := (HR.out.kept.cell hbx).trans (hcx j hlt)
      clear hcx hbx
      go_wp2_with fail
      refine (mine_push (L j) HR.out (by rw [pre_len]; omega)).mono ?_
      rintro e w3 ⟨rfl, t3⟩
      have H3 : Hid (Mine w w3 b 256 (pre L (j + 1)) false) := by rw [pre_succ]; exact t3
      clear t3 HR e0
      go_wp2_with fail
      refine (mine_len H3.out).mono ?_
      rintro e w4 ⟨rfl, rfl⟩
      rw [pre_len]
      go_wp2
      go_roundg (l - (j + 1))
      all_goals (have := HM.out; try omega)
      exact ⟨j + 1, by go_num, by omega, by omega, H3.out⟩
    · obtain rfl : j = l := by omega
      go_wp2
      go_loopg [6] j (fun m i wr2 => ∃ q : Nat, i = .int .i64 ((q : Int) - 1) ∧ q ≤ j ∧ m = q ∧ Hid (Mine w wr2 b 256 (pre L q) false))
      case atStart => exact ⟨j, rfl, by omega, by omega, HR.out⟩
      case round =>
        obtain ⟨q, rfl, hq, hm2, HQ⟩ := hrel
        have HM2 : Hid _ := hm2
        clear hm2 HR
        by_cases hq0 : 0 < q
        · obtain ⟨r, rfl⟩ : ∃ r, q = r + 1 := ⟨q - 1, by omega⟩
          obtain ⟨bx, ox, rfl, hbx, hcx⟩ := HX.out.at (by omega)
          have PY : Hid (Mine w wr b 256 (pre L r ++ [L r]) false) := by rw [← pre_succ]; exact HQ.out
          have e9 : (((r + 1 : Nat)) : Int) - 1 = (r : Int) := by omega
          rw [e9]
          clear e9 HQ
          go_wp2_with fail
          refine (mine_pop PY.out).mono ?_
          rintro e w3 ⟨rfl, t3⟩
          have H3 : Hid (Mine w w3 b 256 (pre L r) false) := t3
          have e0 : w3.cell? ⟨bx, ox + r, none⟩ = _ := (t3.kept.cell hbx).trans (hcx r (by omega))
          clear t3 PY hcx hbx
          go_wp2_with fail
          refine (mine_len H3.out).mono ?_
          rintro e w4 ⟨rfl, rfl⟩
          rw [pre_len]
          go_wp2
          go_roundg r
          all_goals (have := HM2.out; try omega)
          exact ⟨r, by go_num, by omega, by omega, H3.out⟩
        · obtain rfl : q = 0 := by omega
          go_wp2_with fail
          refine (first_any _).mono ?_
          rintro e w5 ⟨rfl, k5⟩
          have H5 : Hid (Mine w w5 b 256 [] false) := HQ.out.still k5
          clear k5 HQ
          go_wp2_with fail
          refine (mine_lost H5.out).mono ?_
          rintro e w6 ⟨rfl, rfl⟩
          go_wp2
          go_ret
          exact ⟨rfl, H5.out.kept⟩

theorem pileOdd_any (x0 : Option Addr) (l0 c0 : Nat) (L0 : Nat → Int) (w : World) (_h0c : l0 ≤ c0) (hL0 : Ints w x0 l0 L0) (_hB0 : ∀ i, i < l0 → IntKind.min .i64 ≤ L0 i ∧ L0 i ≤ IntKind.max .i64) :
    Calls Try.prog 6 #[.slice x0 l0 c0] w fun e w' => e = .returned (.bool true) ∧ Kept w w' := by
  by_cases ho : 256 < (l0 : Int)
  · exact odd_out x0 l0 c0 w ho
  · exact odd_in x0 l0 c0 L0 w hL0 (by omega)
end Go.Proofs.Ytmipllidbgbcgaa
