/-
  PileLast: the walk.
-/
import Derived.Test.YtmipllidbgbcgaaFirst14
namespace Go.Proofs.Ytmipllidbgbcgaa
open Go.RowKit

set_option maxHeartbeats 2000000 in
set_option maxRecDepth 20000 in
theorem last_bad (n : Int) (x : Option Addr) (l c : Nat) (w : World) (hn : ¬ (1 ≤ n ∧ n ≤ 256)) :
    Calls Try.prog 4 #[.int .i64 n, .slice x l c] w fun e w' => e = .returned (.bool true) ∧ Kept w w' := by
  have HN : Hid (∀ w, _) := fun w => new_bad n w hn
  clear hn
  go_enter Try.func4, Try.ntmps4
  go_wp2_with fail
  refine (first_any _).mono ?_
  rintro e w1 ⟨rfl, k1⟩
  have K1 : Hid (Kept w w1) := k1
  clear k1
  go_wp2_with fail
  refine (HN.out _).mono ?_
  rintro e w2 ⟨rfl, rfl⟩
  go_wp2_with fail
  refine (first_any _).mono ?_
  rintro e w3 ⟨rfl, k3⟩
  have K3 : Hid (Kept w w3) := K1.out.trans k3
  clear k3
  go_wp2
  go_ret
  exact ⟨rfl, K3.out⟩

set_option maxHeartbeats 2000000 in
set_option maxRecDepth 20000 in
theorem last_out (n : Nat) (x : Option Addr) (l c : Nat) (w : World) (h1 : 1 ≤ (n : Int)) (hn : (n : Int) ≤ 256) (ho : 200 < (l : Int)) :
    Calls Try.prog 4 #[.int .i64 n, .slice x l c] w fun e w' => e = .returned (.bool true) ∧ Kept w w' := by
  go_enter Try.func4, Try.ntmps4
  go_wp2_with fail
  refine (first_any _).mono ?_
  rintro e w1 ⟨rfl, k1⟩
  have K1 : Hid (Kept w w1) := k1
  clear k1
  go_wp2_with fail
  refine (mine_new n _ K1.out h1 hn).mono ?_
  rintro e w2 ⟨b, rfl, t2⟩
  have K2 : Hid (Kept w w2) := t2.kept
  clear t2 K1
  go_wp2_with fail
  refine (first_any _).mono ?_
  rintro e w3 ⟨rfl, k3⟩
  have K3 : Hid (Kept w w3) := K2.out.trans k3
  clear k3
  go_wp2
  go_ret
  exact ⟨rfl, K3.out⟩

/-- What j pushes leave, the first n of them laid. -/
def LastW (w u : World) (b n : Nat) (L : Nat → Int) (j : Nat) : Prop := Mine w u b n (pre L (min j n)) (decide (n < j))

set_option maxHeartbeats 8000000 in
set_option maxRecDepth 20000 in
theorem last_in (n : Nat) (x : Option Addr) (l c : Nat) (L : Nat → Int) (w : World) (hX : Ints w x l L) (h1 : 1 ≤ (n : Int)) (hn : (n : Int) ≤ 256) (hl : (l : Int) ≤ 200) :
    Calls Try.prog 4 #[.int .i64 n, .slice x l c] w fun e w' => e = .returned (.bool true) ∧ Kept w w' := by
  have HX : Hid (Ints w x l L) := hX
  clear hX
  go_enter Try.func4, Try.ntmps4
  go_wp2_with fail
  refine (first_any _).mono ?_
  rintro e w1 ⟨rfl, k1⟩
  have K1 : Hid (Kept w w1) := k1
  clear k1
  go_wp2_with fail
  refine (mine_new n _ K1.out h1 hn).mono ?_
  rintro e w2 ⟨b, rfl, t2⟩
  have H2 : Hid (LastW w w2 b n L 0) := by simpa [Hid, LastW, pre] using t2
  clear t2 K1
  go_wp2
  go_loopg [7] l (fun m i wr => ∃ j : Nat, i = .int .i64 j ∧ j ≤ l ∧ m = l - j ∧ Hid (LastW w wr b n L j))
  case atStart => exact ⟨0, rfl, by omega, by omega, H2.out⟩
  case round =>
    obtain ⟨j, rfl, hj, hm, HR⟩ := hrel
    have HM : Hid _ := hm
    clear hm H2
    by_cases hlt : j < l
    · obtain ⟨bx, ox, rfl, hbx, hcx⟩ := HX.out.at (by omega)
      have e0 : wr.cell? ⟨bx, ox + j, none⟩ = _ := (HR.out.kept.cell hbx).trans (hcx j hlt)
      clear hcx hbx
      by_cases hjn : (j : Int) < (n : Int)
      · have T1 : Hid (Mine w wr b n (pre L j) false) := by
          have := HR.out
          unfold LastW at this
          rwa [show min j n = j by omega, decide_eq_false (by omega)] at this
        clear HR
        go_wp2_with fail
        refine (mine_push (L j) T1.out (by rw [pre_len]; omega)).mono ?_
        rintro e w3 ⟨rfl, t3⟩
        have H3 : Hid (Mine w w3 b n (pre L (j + 1)) false) := by rw [pre_succ]; exact t3
        clear t3 T1 e0
        go_wp2_with fail
        refine (mine_lost H3.out).mono ?_
        rintro e w4 ⟨rfl, rfl⟩
        go_wp2
        go_roundg (l - (j + 1))
        all_goals (have := HM.out; try omega)
        exact ⟨j + 1, by go_num, by omega, by omega, by
          unfold LastW
          rw [show min (j + 1) n = j + 1 by omega, decide_eq_false (by omega)]
          exact H3.out⟩
      · have T1 : Hid (Mine w wr b n (pre L n) (decide (n < j))) := by
          have := HR.out
          unfold LastW at this
          rwa [show min j n = n by omega] at this
        clear HR
        go_wp2_with fail
        refine (mine_push_no (L j) T1.out (by rw [pre_len])).mono ?_
        rintro e w3 ⟨rfl, t3⟩
        have H3 : Hid (Mine w w3 b n (pre L n) true) := t3
        clear t3 T1 e0
        go_wp2_with fail
        refine (mine_lost H3.out).mono ?_
        rintro e w4 ⟨rfl, rfl⟩
        go_wp2
        go_roundg (l - (j + 1))
        all_goals (have := HM.out; try omega)
        exact ⟨j + 1, by go_num, by omega, by omega, by
          unfold LastW
          rw [show min (j + 1) n = n by omega, decide_eq_true (by omega)]
          exact H3.out⟩
    · obtain rfl : j = l := by omega
      obtain ⟨p, hp, hp2, hpj, hpn, HT⟩ : ∃ p : Nat, (if n < j then (n : Int) else (j : Int)) = (p : Int) ∧ (if n < j then Value.int .i64 (n : Int) else Value.int .i64 (j : Int)) = Value.int .i64 (p : Int) ∧ p ≤ j ∧ p ≤ n ∧ Hid (Mine w wr b n (pre L p) (decide (n < j))) := by
        refine ⟨min j n, ?_, ?_, by omega, by omega, HR.out⟩
        · split <;> omega
        · split
          · rw [show min j n = n by omega]
          · rw [show min j n = j by omega]
      obtain ⟨z, hz, hzi⟩ : ∃ z : Bool, decide (n < j) = z ∧ decide ((j : Int) > (n : Int)) = z := ⟨_, rfl, by simp⟩
      rw [hz] at HT
      clear HR
      go_wp2
      go_loopg [9] p (fun m i wr2 => ∃ q : Nat, i = .int .i64 ((q : Int) - 1) ∧ q ≤ p ∧ m = q ∧ Hid (Mine w wr2 b n (pre L q) z))
      case atStart => exact ⟨p, rfl, by omega, by omega, HT.out⟩
      case round =>
        obtain ⟨q, rfl, hq, hm2, HQ⟩ := hrel
        have HM2 : Hid _ := hm2
        clear hm2 HT
        by_cases hq0 : 0 < q
        · obtain ⟨r, rfl⟩ : ∃ r, q = r + 1 := ⟨q - 1, by omega⟩
          obtain ⟨bx, ox, rfl, hbx, hcx⟩ := HX.out.at (by omega)
          have PY : Hid (Mine w wr b n (pre L r ++ [L r]) z) := by rw [← pre_succ]; exact HQ.out
          have e9 : (((r + 1 : Nat)) : Int) - 1 = (r : Int) := by omega
          rw [e9]
          clear e9 HQ
          go_wp2_with fail
          refine (mine_pop PY.out).mono ?_
          rintro e w3 ⟨rfl, t3⟩
          have H3 : Hid (Mine w w3 b n (pre L r) z) := t3
          have e0 : w3.cell? ⟨bx, ox + r, none⟩ = _ := (t3.kept.cell hbx).trans (hcx r (by omega))
          clear t3 PY hcx hbx
          go_wp2
          go_roundg r
          all_goals (have := HM2.out; try omega)
          exact ⟨r, by go_num, by omega, by omega, H3.out⟩
        · obtain rfl : q = 0 := by omega
          have T1 : Hid (Mine w wr b n [] z) := HQ.out
          clear HQ
          go_wp2_with fail
          refine (mine_pop_no T1.out).mono ?_
          rintro e w3 ⟨rfl, rfl⟩
          go_wp2_with fail
          refine (mine_lost T1.out).mono ?_
          rintro e w4 ⟨rfl, rfl⟩
          go_wp2_with fail
          refine (mine_found T1.out).mono ?_
          rintro e w5 ⟨rfl, t5⟩
          have H5 : Hid (Mine w w5 b n [] false) := t5
          clear t5 T1
          go_wp2_with fail
          refine (first_any _).mono ?_
          rintro e w6 ⟨rfl, k6⟩
          have H6 : Hid (Mine w w6 b n [] false) := H5.out.still k6
          clear k6 H5
          have zz : (z == z) = true := by simp
          go_wp2_with fail
          refine (mine_lost H6.out).mono ?_
          rintro e w7 ⟨rfl, rfl⟩
          go_wp2_with fail
          refine (mine_len H6.out).mono ?_
          rintro e w8 ⟨rfl, rfl⟩
          have e0 : ((([] : List Int).length : Nat) : Int) = 0 := rfl
          rw [e0]
          go_wp2
          go_ret
          exact ⟨by simp, H6.out.kept⟩

theorem pileLast_any (n0 : Int) (x1 : Option Addr) (l1 c1 : Nat) (L1 : Nat → Int) (w : World) (_lo0 : IntKind.min .i64 ≤ n0) (_hi0 : n0 ≤ IntKind.max .i64) (_h1c : l1 ≤ c1) (hL1 : Ints w x1 l1 L1) (_hB1 : ∀ i, i < l1 → IntKind.min .i64 ≤ L1 i ∧ L1 i ≤ IntKind.max .i64) :
    Calls Try.prog 4 #[.int .i64 n0, .slice x1 l1 c1] w fun e w' => e = .returned (.bool true) ∧ Kept w w' := by
  by_cases hn : 1 ≤ n0 ∧ n0 ≤ 256
  · obtain ⟨n, rfl⟩ : ∃ n : Nat, n0 = n := ⟨n0.toNat, by omega⟩
    by_cases ho : 200 < (l1 : Int)
    · exact last_out n x1 l1 c1 w hn.1 hn.2 ho
    · exact last_in n x1 l1 c1 L1 w hL1 hn.1 hn.2 (by omega)
  · exact last_bad n0 x1 l1 c1 w hn
end Go.Proofs.Ytmipllidbgbcgaa
