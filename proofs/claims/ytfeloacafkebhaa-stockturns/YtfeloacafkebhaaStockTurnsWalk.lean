/-
  StockTurns: the walk.
-/
import Derived.Test.YtfeloacafkebhaaStockBoundsWalk
import Derived.Test.YtfeloacafkebhaaStockSidesWalk
import Derived.Laws.BitsLemmas
namespace Go.Proofs.Ytfeloacafkebhaa
open Go.RowKit

theorem i64_and7 (n : Int) : bits .and .i64 n 7 = n % 8 := by
  have h7 : (BitVec.ofInt 64 7).toNat = 2 ^ 3 - 1 := by decide
  have key : (BitVec.ofInt 64 n &&& BitVec.ofInt 64 7).toNat = (n % ((2 ^ 64 : Nat) : Int)).toNat % 2 ^ 3 := by
    rw [BitVec.toNat_and, BitVec.toNat_ofInt, h7, Nat.and_two_pow_sub_one_eq_mod]
  show IntKind.i64.wrap ((BitVec.ofInt 64 n &&& BitVec.ofInt 64 7).toNat : Nat) = n % 8
  rw [key, IntKind.wrap_i64]
  omega

theorem upL_add (f : Int) (a : Nat) : ∀ b, upL f a ++ upL (f + (a : Int)) b = upL f (a + b)
  | 0 => by simp [upL]
  | b + 1 => by
    rw [upL, ← List.append_assoc, upL_add f a b, ← Nat.add_assoc, upL]
    congr 2
    omega
theorem upL_take (f : Int) (n k : Nat) (h : k ≤ n) : (upL f n).take k = upL f k := by
  obtain ⟨m, rfl⟩ : ∃ m, n = k + m := ⟨n - k, by omega⟩
  rw [← upL_add]
  exact List.take_left' (upL_len f k)
theorem upL_drop (f : Int) (n k : Nat) (h : k ≤ n) : (upL f n).drop k = upL (f + (k : Int)) (n - k) := by
  obtain ⟨m, rfl⟩ : ∃ m, n = k + m := ⟨n - k, by omega⟩
  rw [← upL_add, Nat.add_sub_cancel_left]
  exact List.drop_left' (upL_len f k)

/-- The stock of StockTurns: it holds the numbers from O to I - 1. -/
structure Turn (w wr : World) (b most I O : Nat) (v : Value) : Prop where
  tab : STab 46 wr w.heap.size b most v (upL (O : Int) (I - O))
  kept : Kept w wr
theorem Turn.still {w wr wr' : World} {b most I O : Nat} {v : Value} (h : Turn w wr b most I O v) (k : Kept wr wr') : Turn w wr' b most I O v := ⟨h.tab.kept k, h.kept.trans k⟩

set_option maxHeartbeats 2000000 in
set_option maxRecDepth 20000 in
theorem turns_bad (n : Int) (x : Option Addr) (l c : Nat) (w : World) (hn : ¬ (0 ≤ n ∧ n ≤ 8)) :
    Calls Try.prog 7 #[.int .i64 n, .slice x l c] w fun e w' => e = .returned (.bool true) ∧ Kept w w' := by
  have HN : Hid (∀ w, _) := fun w => new_bad n w hn
  clear hn
  go_enter Try.func7, Try.ntmps7
  go_wp2_with fail
  refine (first_any _).mono ?_
  rintro e w1 ⟨rfl, k1⟩
  have K1 : Hid (Kept w w1) := k1
  clear k1
  go_wp2_with fail
  refine (HN.out _).mono ?_
  rintro e w2 ⟨rfl, rfl⟩
  go_wp2_with fail
  refine (first_any _).mono ?_
  rintro e w3 ⟨rfl, k3⟩
  have K3 : Hid (Kept w w3) := K1.out.trans k3
  clear k3
  go_wp2
  go_ret
  exact ⟨rfl, K3.out⟩

set_option maxHeartbeats 2000000 in
set_option maxRecDepth 20000 in
theorem turns_out (n : Nat) (x : Option Addr) (l c : Nat) (w : World) (hn : n ≤ 8) (ho : (n : Int) < 1 ∨ (1 ≤ (n : Int) ∧ 200 < (l : Int))) :
    Calls Try.prog 7 #[.int .i64 n, .slice x l c] w fun e w' => e = .returned (.bool true) ∧ Kept w w' := by
  rcases ho with h | ⟨h1, h⟩
  all_goals go_enter Try.func7, Try.ntmps7
  all_goals go_wp2_with fail
  all_goals (refine (first_any _).mono ?_; rintro e w1 ⟨rfl, k1⟩)
  all_goals (have K1 : Hid (Kept w w1) := k1; clear k1)
  all_goals go_wp2_with fail
  all_goals (refine (new_any n _ hn K1.out.size).mono ?_; rintro e w2 ⟨b, rfl, _, k2, _⟩)
  all_goals (have K2 : Hid (Kept w w2) := K1.out.trans k2; clear k2 K1)
  all_goals go_wp2_with fail
  all_goals (refine (first_any _).mono ?_; rintro e w3 ⟨rfl, k3⟩)
  all_goals (have K3 : Hid (Kept w w3) := K2.out.trans k3; clear k3)
  all_goals go_wp2
  all_goals go_ret
  all_goals exact ⟨rfl, K3.out⟩

set_option maxHeartbeats 1500000 in
set_option maxRecDepth 20000 in
theorem turns_in (n : Nat) (x : Option Addr) (l c : Nat) (L : Nat → Int) (w : World) (hX : Ints w x l L) (hn1 : 1 ≤ (n : Int)) (hn : (n : Int) ≤ 8) (hl : (l : Int) ≤ 200) :
    Calls Try.prog 7 #[.int .i64 n, .slice x l c] w fun e w' => e = .returned (.bool true) ∧ Kept w w' := by
  have HX : Hid (Ints w x l L) := hX
  clear hX
  go_enter Try.func7, Try.ntmps7
  go_wp2_with fail
  refine (first_any _).mono ?_
  rintro e w1 ⟨rfl, k1⟩
  have K1 : Hid (Kept w w1) := k1
  clear k1
  go_wp2_with fail
  refine (new_any n _ (by omega) K1.out.size).mono ?_
  rintro e w2 ⟨b, rfl, ht, k2, _⟩
  have H2 : Hid (Turn w w2 b n 0 0 (.slice none 0 0)) := ⟨ht, K1.out.trans k2⟩
  clear k2 K1 ht
  go_wp2
  go_loopg [7, 8, 9] l (fun m vi vo i wr' => ∃ (j I O : Nat) (v : Value), i = .int .i64 j ∧ vi = .int .i64 I ∧ vo = .int .i64 O ∧ j ≤ l ∧ m = l - j ∧ I ≤ 8 * j ∧ O ≤ I ∧ I ≤ O + n ∧ Hid (Turn w wr' b n I O v))
  case atStart => exact ⟨0, 0, 0, _, rfl, rfl, rfl, by omega, by omega, by omega, by omega, by omega, H2.out⟩
  case round =>
    obtain ⟨j, I, O, v, rfl, rfl, rfl, hj, hm, hI, hO, hIO, HR⟩ := hrel
    have HM : Hid _ := hm
    clear hm H2
    have HLE : Hid (∀ f i, (upL f i).length = i) := upL_len
    by_cases hlt : j < l
    · obtain ⟨bx, ox, rfl, hbx, hcx⟩ := HX.out.at (by omega)
      have e0 := (HR.out.kept.cell (a := ⟨bx, ox + j, none⟩) hbx).trans (hcx j hlt)
      clear hcx hbx HX
      obtain ⟨q, hq, hq7⟩ : ∃ q : Nat, bits .and .i64 (L j) 7 = (q : Int) ∧ q ≤ 7 := ⟨(L j % 8).toNat, by rw [i64_and7]; omega, by omega⟩
      generalize L j = z at *
      obtain ⟨wA, rfl⟩ : ∃ wA, wA = wr := ⟨wr, rfl⟩
      go_upto_block 2 with fail
      clear e0 hq
      go_cut [11, 12] from 51 to 67 (fun vm _ wc => ∃ (k : Nat) (y : Option Addr) (d : Nat), vm = .slice y k d ∧ k ≤ q ∧ k ≤ n - (I - O) ∧ Hid (Turn w wc b n I O v ∧ Lst wc wA.heap.size (.slice y k d) (upL (I : Int) k)))
      case first =>
        go_wp2_with fail
        go_loopg [11, 12] q (fun m vm i wr2 => ∃ k : Nat, i = .int .i64 k ∧ k ≤ q ∧ k ≤ n - (I - O) ∧ m = q - k ∧ Hid (Turn w wr2 b n I O v ∧ Lst wr2 wA.heap.size vm (upL (I : Int) k) ∧ Kept wA wr2))
        case atStart => exact ⟨0, rfl, by omega, by omega, by omega, HR.out, Lst.nil _ _, Kept.refl _⟩
        case round =>
          obtain ⟨k, rfl, hk, hkr, hm, HC⟩ := hrel
          have HM2 : Hid _ := hm
          clear hm
          obtain ⟨y, d, e2⟩ := HC.out.2.1.form
          rw [HLE.out] at e2
          subst e2
          by_cases h1 : k < q
          · go_wp2_with fail
            refine (room_any _ HC.out.1.tab).mono ?_
            rintro e w3 ⟨rfl, k3⟩
            have H3 : Hid (Turn w w3 b n I O v ∧ Lst w3 wA.heap.size (.slice y k d) (upL (I : Int) k) ∧ Kept wA w3) := ⟨HC.out.1.still k3, HC.out.2.1.kept k3, HC.out.2.2.trans k3⟩
            clear k3 HC
            rw [HLE.out]
            by_cases h2 : (k : Int) < (n : Int) - ((I - O : Nat) : Int)
            · have HA : Hid (Lst (w3.alloc (.cells #[.int .i64 ((I : Int) + (k : Int))] 3)) wA.heap.size (.slice y k d) (upL (I : Int) k)) := H3.out.2.1.alloc _ _
              have HX2 : Hid (Rdi (w3.alloc (.cells #[.int .i64 ((I : Int) + (k : Int))] 3)) (some ⟨w3.heap.size, 0, none⟩) [(I : Int) + (k : Int)]) := rdi_lit w3 [(I : Int) + (k : Int)]
              have z1 : wA.heap.size ≤ (w3.alloc (.cells #[.int .i64 ((I : Int) + (k : Int))] 3)).heap.size := by have := H3.out.2.2.size; simp; omega
              have z2 : (upL (I : Int) k).length + [(I : Int) + (k : Int)].length ≤ 1000000 := by rw [HLE.out]; simp; omega
              go_wp2_with (at_builtin; refine wpList_append_lst (T := upL (I : Int) k) (N := [(I : Int) + (k : Int)]) rfl _ _ rfl rfl HA.out z1 rfl rfl HX2.out z2 ?_)
              intro v2 w4 l4 m4 f4
              have H4 : Hid (Turn w w4 b n I O v ∧ Lst w4 wA.heap.size v2 (upL (I : Int) (k + 1)) ∧ Kept wA w4) := by
                have kk : Kept wA w4 := (H3.out.2.2.alloc _ _).muts m4 (fun q hq => (H3.out.2.1.lt q (by simpa using hq)).1)
                exact ⟨HR.out.still kk, l4, kk⟩
              clear l4 m4 f4 z1 z2 HA HX2
              obtain ⟨y2, d2, e2⟩ := H4.out.2.1.form
              rw [HLE.out] at e2
              subst e2
              go_wp2
              go_roundg (gk - 1)
              all_goals (have := HM2.out; try omega)
              exact ⟨k + 1, by go_num, by omega, by omega, by omega, H4.out⟩
            · go_wp2
              go_meet
              case rel => exact ⟨k, y, d, rfl, hk, hkr, H3.out.1, H3.out.2.1⟩
          · go_wp2
            go_meet
            case rel => exact ⟨k, y, d, rfl, hk, hkr, HC.out.1, HC.out.2.1⟩
      case rest =>
        obtain ⟨k, y, d, rfl, hk, hkr, HC⟩ := hcut
        clear HR
        have PY := put_yes (x := y) (c := d) (N := upL (I : Int) k) _ HC.out.1.tab HC.out.2.rdi (by rw [HLE.out, HLE.out]; omega)
        have ET : Hid (upL (O : Int) (I - O) ++ upL (I : Int) k = upL (O : Int) (I + k - O)) := by
          have := upL_add (O : Int) (I - O) k
          rw [show (O : Int) + ((I - O : Nat) : Int) = (I : Int) by omega, show I - O + k = I + k - O by omega] at this
          exact this
        rw [HLE.out, ET.out] at PY
        go_wp2_with fail
        refine PY.mono ?_
        rintro e w5 ⟨rfl, v5, s5, m5, f5⟩
        have H5 : Hid (Turn w w5 b n (I + k) O v5) := ⟨s5, HC.out.1.kept.muts m5 (fun q hq => (HC.out.1.tab.own q hq).1)⟩
        clear s5 m5 f5 HC PY
        obtain ⟨p, hp, hp1, hp2⟩ : ∃ p : Nat, (if (I : Int) + (k : Int) - (O : Int) < (q : Int) / 2 + 1 then (I : Int) + (k : Int) - (O : Int) else (q : Int) / 2 + 1) = (p : Int) ∧ p ≤ I + k - O ∧ (1 ≤ p ∨ (p = 0 ∧ I + k = O)) := by
          refine ⟨min (I + k - O) (q / 2 + 1), ?_, by omega, by omega⟩
          split <;> omega
        by_cases hp0 : p = 0
        · have hIO2 : Hid (I + k = O) := by
            show I + k = O
            omega
          have z2 : decide ((p : Int) ≥ 1) = false := decide_eq_false (by omega)
          have z3 : decide (1 ≤ (p : Int)) = false := decide_eq_false (by omega)
          have TN := take_no (p : Int) _ H5.out.tab (by omega)
          clear hp0 hp2
          go_wp2_with fail
          refine TN.mono ?_
          rintro e w6 ⟨rfl, rfl⟩
          go_wp2
          refine wp_loop_rounds 1 ?_
          rw [rounds_succ]
          go_wp2
          go_roundg (l - (j + 1))
          all_goals (have := HM.out; try omega)
          exact ⟨j + 1, I + k, O, v5, by go_num, by go_num, rfl, by omega, rfl, by omega, by have := hIO2.out; omega, by omega, H5.out⟩
        · have TY := take_yes (k := p) _ H5.out.tab (by omega) (by rw [HLE.out]; omega)
          rw [upL_take _ _ _ hp1, upL_drop _ _ _ hp1] at TY
          go_wp2_with fail
          refine TY.mono ?_
          rintro e w6 ⟨va, v6, rfl, l6, s6, m6, _, _⟩
          have H6 : Hid (Turn w w6 b n (I + k) (O + p) v6) := ⟨by
            have : ((O + p : Nat) : Int) = (O : Int) + (p : Int) := by omega
            rw [this, show I + k - (O + p) = I + k - O - p by omega]
            exact s6, H5.out.kept.muts m6 (fun q hq => (H5.out.tab.own q hq).1)⟩
          obtain ⟨yg, dg, e2⟩ := l6.form
          rw [HLE.out] at e2
          subst e2
          obtain ⟨gg, og, rfl, _, cc⟩ := l6.rdi (by rw [HLE.out]; omega)
          have HG : Hid (∀ i, i < p → w6.cell? ⟨gg, og + i, none⟩ = some (.int .i64 ((O : Int) + (i : Int)))) := fun i hi => by
            rw [cc i (by rw [HLE.out]; exact hi), upL_get]
          clear cc l6 s6 m6 TY H5
          have z1 : ((p : Int) != (p : Int)) = false := by simp
          have z2 : decide ((p : Int) ≥ 1) = true := decide_eq_true (by omega)
          have z3 : decide (1 ≤ (p : Int)) = true := decide_eq_true (by omega)
          go_wp2
          clear z1 z2 z3
          go_loopg [8, 16] p (fun m vo i wr3 => ∃ t : Nat, i = .int .i64 t ∧ vo = .int .i64 ((O : Int) + (t : Int)) ∧ t ≤ p ∧ m = p - t ∧ w6 = wr3)
          case atStart => exact ⟨0, rfl, by simp, by omega, by omega, rfl⟩
          case round =>
            obtain ⟨t, rfl, rfl, ht, hm, rfl⟩ := hrel
            have HM3 : Hid _ := hm
            clear hm
            by_cases htp : t < p
            · have c1 := HG.out t htp
              have z1 : ((O : Int) + (t : Int) != (O : Int) + (t : Int)) = false := by simp
              go_wp2
              go_roundg (gk - 1)
              all_goals (have := HM3.out; try omega)
              exact ⟨t + 1, by go_num, by go_num, by omega, by omega, rfl⟩
            · obtain rfl : t = p := by omega
              go_wp2
              go_roundg (l - (j + 1))
              all_goals (have := HM.out; try omega)
              exact ⟨j + 1, I + k, O + t, v6, by go_num, by go_num, by go_num, by omega, rfl, by omega, by omega, by omega, H6.out⟩
    · obtain rfl : j = l := by omega
      have e1 : ((I - O : Nat) : Int) = (I : Int) - (O : Int) := by omega
      go_wp2_with fail
      refine (first_any _).mono ?_
      rintro e w3 ⟨rfl, k3⟩
      have H3 : Hid (Turn w w3 b n I O v) := HR.out.still k3
      clear k3 HR
      go_wp2_with fail
      refine (len_any _ H3.out.tab).mono ?_
      rintro e w4 ⟨rfl, rfl⟩
      rw [HLE.out, e1]
      go_wp2
      go_ret
      exact ⟨by simp, H3.out.kept⟩

theorem stockTurns_any (n0 : Int) (x1 : Option Addr) (l1 c1 : Nat) (L1 : Nat → Int) (w : World) (_lo0 : IntKind.min .i64 ≤ n0) (_hi0 : n0 ≤ IntKind.max .i64) (_h1c : l1 ≤ c1) (hL1 : Ints w x1 l1 L1) (_hB1 : ∀ i, i < l1 → IntKind.min .i64 ≤ L1 i ∧ L1 i ≤ IntKind.max .i64) :
    Calls Try.prog 7 #[.int .i64 n0, .slice x1 l1 c1] w fun e w' => e = .returned (.bool true) ∧ Kept w w' := by
  by_cases hn : 0 ≤ n0 ∧ n0 ≤ 8
  · obtain ⟨n, rfl⟩ : ∃ n : Nat, n0 = n := ⟨n0.toNat, by omega⟩
    by_cases ho : (n : Int) < 1 ∨ (1 ≤ (n : Int) ∧ 200 < (l1 : Int))
    · exact turns_out n x1 l1 c1 w (by omega) ho
    · exact turns_in n x1 l1 c1 L1 w hL1 (by omega) hn.2 (by omega)
  · exact turns_bad n0 x1 l1 c1 w hn
end Go.Proofs.Ytfeloacafkebhaa
