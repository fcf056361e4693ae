/-
  PoolRuns: the walk.
-/
import Derived.Test.YtpgmlnihgnomcaaTaken
import Derived.Test.YtpgmlnihgnomcaaElems
import Derived.Deep.CutBlock
namespace Go.Proofs.Ytpgmlnihgnomcaa
open Go.RowKit

theorem give_cnt_no {n : Nat} {F : Nat → Bool} {i : Int} (h : giveB n F i = false) : giveF n F i = F := by simp [giveF, h]
theorem give_cnt_yes {n : Nat} {F : Nat → Bool} {i : Int} (h : giveB n F i = true) : cntB (giveF n F i) n = cntB F n + 1 := by
  have h2 := h
  simp only [giveB, Bool.and_eq_true, Bool.not_eq_true'] at h2
  obtain ⟨u, rfl, hu⟩ := inn_iff h2.1
  rw [giveF, if_pos h]
  simpa using cntB_set_true (by simpa using h2.2) hu

def bestV : Option Nat → Int
  | some a => a
  | none => -1

/-- How it stands. -/
structure Ru (w wr : World) (b g n : Nat) (F : Nat → Bool) : Prop where
  tab : PTab 46 wr b g n F
  lg : w.heap.size ≤ g
  kept : Kept w wr
theorem Ru.step {w wr w' : World} {b g n : Nat} {F F' : Nat → Bool} (h : Ru w wr b g n F) (t : PTab 46 w' b g n F') (k : Mut [g] wr w') : Ru w w' b g n F' :=
  ⟨t, h.lg, h.kept.muts k (by simpa using h.lg)⟩
theorem Ru.still {w wr w' : World} {b g n : Nat} {F : Nat → Bool} (h : Ru w wr b g n F) (k : Kept wr w') : Ru w w' b g n F := ⟨h.tab.kept k, h.lg, h.kept.trans k⟩

theorem all_taken (n : Nat) : ∀ j, j < n → dropF F1 (takeL n F1 n) j = false := fun j hj => by
  have hc : cntB F1 n = n := cntB_all fun _ _ => rfl
  have ht : takeB n F1 n = true := by simp [takeB, hc]; omega
  have hg := (takeL_good n F1 n).cnt
  have hl := takeL_len ht
  rw [Int.toNat_natCast] at hl
  rw [hc, hl] at hg
  have h0 : cntB (dropF F1 (takeL n F1 n)) n = 0 := by omega
  generalize dropF F1 (takeL n F1 n) = G at *
  clear hg hl ht hc
  have : ∀ m, m ≤ n → cntB G m = 0 → ∀ j, j < m → G j = false := fun m => by
    induction m with
    | zero => intro _ _ j hj; omega
    | succ m ih =>
      intro hm h j hj
      rw [cntB] at h
      by_cases e : j = m
      · subst e
        cases q : G j
        · rfl
        · rw [q] at h; simp at h
      · exact ih (by omega) (by omega) j (by omega)
  exact this n (Nat.le_refl _) h0 j hj

set_option maxHeartbeats 2000000 in
set_option maxRecDepth 20000 in
theorem runs_bad (n k : Int) (x : Option Addr) (l c : Nat) (w : World) (hn : ¬ (0 ≤ n ∧ n ≤ 1024)) :
    Calls Try.prog 5 #[.int .i64 n, .int .i64 k, .slice x l c] w fun e w' => e = .returned (.bool true) ∧ Kept w w' := by
  have HN : Hid (∀ w, _) := fun w => new_bad n w hn
  clear hn
  go_enter Try.func5, Try.ntmps5
  go_wp2_with fail
  refine (first_any _).mono ?_
  rintro e w1 ⟨rfl, k1⟩
  have K1 : Hid (Kept w w1) := k1
  clear k1
  go_wp2_with fail
  refine (HN.out _).mono ?_
  rintro e w2 ⟨rfl, rfl⟩
  go_wp2_with fail
  refine (first_any _).mono ?_
  rintro e w3 ⟨rfl, k3⟩
  have K3 : Hid (Kept w w3) := K1.out.trans k3
  clear k3
  go_wp2
  go_ret
  exact ⟨rfl, K3.out⟩

set_option maxHeartbeats 2000000 in
set_option maxRecDepth 20000 in
theorem runs_out (n : Nat) (k : Int) (x : Option Addr) (l c : Nat) (w : World) (hn : n ≤ 1024) (ho : ¬ (n ≤ 200 ∧ l ≤ 200)) :
    Calls Try.prog 5 #[.int .i64 n, .int .i64 k, .slice x l c] w fun e w' => e = .returned (.bool true) ∧ Kept w w' := by
  go_enter Try.func5, Try.ntmps5
  go_wp2_with fail
  refine (first_any _).mono ?_
  rintro e w1 ⟨rfl, k1⟩
  have K1 : Hid (Kept w w1) := k1
  clear k1
  go_wp2_with fail
  refine (new_any n _ hn).mono ?_
  rintro e w2 ⟨b, g, rfl, _, _, _, k2⟩
  have K2 : Hid (Kept w w2) := K1.out.trans k2
  clear k2 K1
  rcases (show (200 < (n : Int)) ∨ ((n : Int) ≤ 200 ∧ 200 < (l : Int)) by omega) with h | ⟨h, h1⟩
  all_goals clear ho hn
  all_goals go_wp2_with fail
  all_goals (refine (first_any _).mono ?_; rintro e w3 ⟨rfl, k3⟩)
  all_goals (have K3 : Hid (Kept w w3) := K2.out.trans k3; clear k3)
  all_goals go_wp2
  all_goals go_ret
  all_goals exact ⟨rfl, K3.out⟩

set_option maxHeartbeats 8000000 in
set_option maxRecDepth 20000 in
theorem runs_in (n : Nat) (k : Int) (x : Option Addr) (l c : Nat) (L : Nat → Int) (w : World) (hn : (n : Int) ≤ 200) (hl : (l : Int) ≤ 200) (hL : Ints w x l L) :
    Calls Try.prog 5 #[.int .i64 n, .int .i64 k, .slice x l c] w fun e w' => e = .returned (.bool true) ∧ Kept w w' := by
  have HL : Hid (Ints w x l L) := hL
  clear hL
  go_enter Try.func5, Try.ntmps5
  go_wp2_with fail
  refine (first_any _).mono ?_
  rintro e w1 ⟨rfl, k1⟩
  have K1 : Hid (Kept w w1) := k1
  clear k1
  go_wp2_with fail
  refine (new_any n _ (by omega)).mono ?_
  rintro e w2 ⟨b, g, rfl, ht, hb, hg, k2⟩
  have H2 : Hid (Ru w w2 b g n F1) := ⟨ht, by have := K1.out.size; omega, K1.out.trans k2⟩
  clear ht hb hg k2 K1
  go_wp2_with fail
  refine (take_any n _ H2.out.tab).mono ?_
  rintro e w3 ⟨v, rfl, hgot, hp, hm⟩
  obtain ⟨y, d, rfl⟩ := hgot.form
  have H3 : Hid (Ru w w3 b g n (fun _ => false)) := H2.out.step (hp.congr (all_taken n)) hm
  have HF : Hid (0 < n → takeB n F1 n = true ∧ (takeL n F1 n).length = n) := fun h0 => by
    have hc : cntB F1 n = n := cntB_all fun _ _ => rfl
    have ht : takeB n F1 n = true := by simp [takeB, hc]; omega
    exact ⟨ht, by simpa using takeL_len ht⟩
  clear hgot hp hm H2
  generalize (takeL n F1 n).length = len at *
  generalize takeB n F1 n = tb at *
  go_upto_region 7 with fail
  go_cut [9, 10, 67] from 56 (fun s9 s10 s67 wc => s67 = .bool false ∧ wc = w3)
  case first =>
    by_cases h0 : 0 < n
    · obtain ⟨rfl, rfl⟩ := HF.out h0
      have z1 : decide ((len : Int) > 0) = true := decide_eq_true (by omega)
      have z2 : ((len : Int) != (len : Int)) = false := by simp
      go_wp2
      go_meet
      case rel => exact ⟨rfl, rfl⟩
    · have z1 : decide ((n : Int) > 0) = false := decide_eq_false (by omega)
      have z2 : ¬ (0 < (n : Int)) := by omega
      clear h0
      go_wp2
      go_meet
      case rel => exact ⟨rfl, rfl⟩
  case rest =>
    obtain ⟨rfl, rfl⟩ := hcut
    clear HF
    go_wp2
    go_loopg [11, 12] l (fun t fr i wr => ∃ (a : Nat) (F : Nat → Bool), i = .int .i64 a ∧ a ≤ l ∧ t = l - a ∧ fr = .int .i64 (cntB F n) ∧ Hid (Ru w wr b g n F))
    case atStart =>
      refine ⟨0, fun _ => false, rfl, by omega, by omega, ?_, H3.out⟩
      have : cntB (fun _ => false) n = 0 := by
        have h : ∀ m, cntB (fun _ => false) m = 0 := fun m => by
          induction m with
          | zero => rfl
          | succ m ih => simp [cntB, ih]
        exact h n
      rw [this]; rfl
    case round =>
      clear H3
      obtain ⟨a, F, rfl, ha, hm, rfl, hw⟩ := hrel
      have HM : Hid _ := hm
      clear hm
      have hc := cntB_le F n
      by_cases hla : a < l
      · obtain ⟨gx, ox, rfl, hgx, cx⟩ := (HL.out.kept hw.out.kept).at (by omega)
        have c1 := cx a hla
        clear cx hgx
        generalize L a = v at *
        go_wp2_with fail
        refine (give_any v _ hw.out.tab).mono ?_
        rintro e w4 ⟨rfl, ht, hm⟩
        cases hg : giveB n F v
        · rw [give_cnt_no hg] at ht
          have HW : Hid (Ru w w4 b g n F) := hw.out.step ht hm
          clear ht hm hw hg c1
          go_wp2
          go_roundg (gk - 1)
          all_goals (have := HM.out; try omega)
          exact ⟨a + 1, F, by go_num, by omega, by omega, rfl, HW⟩
        · have HE : Hid (cntB (giveF n F v) n = cntB F n + 1) := give_cnt_yes hg
          have HW : Hid (Ru w w4 b g n (giveF n F v)) := hw.out.step ht hm
          clear ht hm hw hg c1
          go_wp2
          go_roundg (gk - 1)
          all_goals (have := HM.out; try omega)
          exact ⟨a + 1, _, by go_num, by omega, by omega, by rw [HE.out]; go_num, HW⟩
      · obtain rfl : a = l := by omega
        clear HM HL
        obtain ⟨wA, rfl⟩ : ∃ wA, wA = wr := ⟨wr, rfl⟩
        go_upto_block 2 with fail
        go_cut [13, 14, 15] from 82 to 113 (fun s13 s14 s15 wc => s13 = .int .i64 (bestV (runO n F k)) ∧ wA = wc)
        case first =>
          rcases (show k < 1 ∨ (1 ≤ k ∧ (n : Int) < k) ∨ (1 ≤ k ∧ k ≤ (n : Int)) by omega) with h1 | ⟨h1, h2⟩ | ⟨h1, h2⟩
          · have HR : Hid (runO n F k = none) := runO_low h1
            go_wp2_with fail
            go_loopg [13, 14] 0 (fun t s13 s14 wr2 => s13 = .int .i64 (-1) ∧ s14 = .int .i64 0 ∧ wA = wr2)
            case atStart => exact ⟨rfl, rfl, rfl⟩
            case round =>
              obtain ⟨rfl, rfl, rfl⟩ := hrel
              go_wp2
              go_meet
              case rel => exact ⟨by rw [HR.out]; rfl, rfl⟩
          · have HR : Hid (runO n F k = none) := runO_high h2
            go_wp2_with fail
            go_loopg [13, 14] 0 (fun t s13 s14 wr2 => s13 = .int .i64 (-1) ∧ s14 = .int .i64 0 ∧ wA = wr2)
            case atStart => exact ⟨rfl, rfl, rfl⟩
            case round =>
              obtain ⟨rfl, rfl, rfl⟩ := hrel
              go_wp2
              go_meet
              case rel => exact ⟨by rw [HR.out]; rfl, rfl⟩
          · obtain ⟨K, rfl⟩ : ∃ K : Nat, k = K := ⟨k.toNat, by omega⟩
            go_wp2_with fail
            go_loopg [13, 14] (n + 1) (fun t s13 s14 wr2 => ∃ a : Nat, s14 = .int .i64 a ∧ s13 = .int .i64 (bestV (topR F K a)) ∧ a + K ≤ n + 1 ∧ t = n + 1 - a ∧ wA = wr2)
            case atStart => exact ⟨0, rfl, rfl, by omega, rfl, rfl⟩
            case round =>
              obtain ⟨a, rfl, rfl, haK, hm, rfl⟩ := hrel
              have HM : Hid _ := hm
              clear hm
              by_cases haN : a + K ≤ n
              · have ha2 : (a : Int) ≤ (n : Int) - (K : Int) := by omega
                go_wp2_with fail
                go_loopg [15] K (fun t s15 wr3 => ∃ q : Nat, s15 = .int .i64 q ∧ q ≤ K ∧ t = K - q ∧ wA = wr3 ∧ Hid (runsB F a q = true))
                case atStart => exact ⟨0, rfl, by omega, rfl, rfl, rfl⟩
                case round =>
                  obtain ⟨q, rfl, hq, hm, rfl, hr⟩ := hrel
                  have HM2 : Hid _ := hm
                  clear hm
                  by_cases hqK : q < K
                  · have hin : inn n ((a : Int) + (q : Int)) = true := by simp [inn]; omega
                    have e1 : ((a : Int) + (q : Int)).toNat = a + q := by omega
                    cases hf : F (a + q)
                    · have HB : Hid (hasB n F ((a : Int) + (q : Int)) = false) := by simp [Hid, hasB, hin, e1, hf]
                      have HE : Hid (topR F K (a + 1) = topR F K a) := by
                        rw [topR, if_neg (by rw [runsB_no q hqK hf]; simp)]
                        exact rfl
                      clear hin e1 hf
                      go_wp2_with fail
                      refine (has_any _ _ hw.out.tab).mono ?_
                      rintro e w4 ⟨rfl, rfl⟩
                      rw [HB.out]
                      have z : ((q : Int) == (K : Int)) = false := by simp; omega
                      go_wp2
                      go_roundg (n + 1 - (a + 1))
                      all_goals (have := HM.out; try omega)
                      exact ⟨a + 1, by go_num, by rw [HE.out], by omega, rfl, rfl⟩
                    · have HB : Hid (hasB n F ((a : Int) + (q : Int)) = true ∧ runsB F a (q + 1) = true) := ⟨by simp [hasB, hin, e1, hf], by rw [runsB, hr.out, hf]; rfl⟩
                      clear hin e1 hf
                      go_wp2_with fail
                      refine (has_any _ _ hw.out.tab).mono ?_
                      rintro e w4 ⟨rfl, rfl⟩
                      rw [HB.out.1]
                      go_wp2
                      go_roundg (K - (q + 1))
                      all_goals (have := HM2.out; try omega)
                      exact ⟨q + 1, by go_num, by omega, rfl, rfl, HB.out.2⟩
                  · obtain rfl : K = q := by omega
                    have HE : Hid (topR F K (a + 1) = some a) := by
                      rw [topR, if_pos hr.out]
                      exact rfl
                    have z : ((K : Int) == (K : Int)) = true := by simp
                    go_wp2
                    go_roundg (n + 1 - (a + 1))
                    all_goals (have := HM.out; try omega)
                    exact ⟨a + 1, by go_num, by rw [HE.out]; rfl, by omega, rfl, rfl⟩
              · have HE : Hid (topR F K a = runO n F K) := by
                  rw [runO, if_pos (by omega), Int.toNat_natCast, show n + 1 - K = a by omega]
                  exact rfl
                have ha2 : ¬ (a : Int) ≤ (n : Int) - (K : Int) := by omega
                go_wp2
                go_meet
                case rel => exact ⟨by rw [HE.out], rfl⟩
        case rest =>
          obtain ⟨rfl, rfl⟩ := hcut
          have HK : Hid (Ru w wA b g n F) := hw.out
          go_wp2_with fail
          refine (run_any k _ hw.out.tab).mono ?_
          rintro e w4 ⟨rfl, rfl⟩
          generalize hR : runO n F k = R
          have HR : Hid (runO n F k = R) := hR
          clear hR
          go_upto_region 25 with fail
          go_cut [131] from 120 (fun s131 wc => s131 = .bool false ∧ w4 = wc)
          case first =>
            cases R with
            | none =>
              have z : decide (bestV none ≥ 0) = false := rfl
              go_wp2
              go_meet
              case rel => exact ⟨rfl, rfl⟩
            | some a =>
              have e0 : bestV (some a) = (a : Int) := rfl
              have e1 : runV (some a) = (a : Int) := rfl
              rw [e0, e1]
              have z : ((a : Int) != (a : Int)) = false := by simp
              go_wp2
              go_meet
              case rel => exact ⟨rfl, rfl⟩
          case rest =>
            obtain ⟨rfl, rfl⟩ := hcut
            have hc2 := cntB_le F n
            go_upto_block 6 with fail
            go_cut [18, 19] from 132 to 149 (fun v s19 wc => ∃ (y2 : Option Addr) (d2 : Nat) (low : List Nat), v = .slice y2 low.length d2 ∧ Hid (lowL n F k = low) ∧ Hid (Ru w wc b g n F ∧ Got wc w4.heap.size (.slice y2 low.length d2) low ∧ w4.heap.size ≤ wc.heap.size ∧ g < w4.heap.size))
            case first =>
              go_wp2_with fail
              go_loopg [18, 19] (n + 1) (fun t v i wr2 => ∃ j : Nat, i = .int .i64 j ∧ j ≤ n ∧ t = n + 1 - j ∧ (freeU F 0 j).length ≤ k.toNat ∧ Hid (Ru w wr2 b g n F ∧ Got wr2 w4.heap.size v (freeU F 0 j) ∧ Kept w4 wr2))
              case atStart => exact ⟨0, rfl, by omega, by omega, by simp [freeU], hw.out, Got.nil _ _, Kept.refl _⟩
              case round =>
                obtain ⟨j, rfl, hj, hm, hlen, hw⟩ := hrel
                have HM : Hid _ := hm
                clear hm
                obtain ⟨y2, d2, rfl⟩ := hw.out.2.1.form
                by_cases hend : j < n ∧ ((freeU F 0 j).length : Int) < k
                · obtain ⟨hjn, hlk⟩ := hend
                  have hin : inn n j = true := inn_of hjn
                  cases hf : F j
                  · have HB : Hid (hasB n F j = false ∧ freeU F 0 (j + 1) = freeU F 0 j) := ⟨by simp [hasB, hf], freeU_miss hf⟩
                    clear hin hf
                    go_wp2_with fail
                    refine (has_any j _ hw.out.1.tab).mono ?_
                    rintro e w5 ⟨rfl, rfl⟩
                    rw [HB.out.1]
                    go_wp2
                    go_roundg (gk - 1)
                    all_goals (have := HM.out; try omega)
                    refine ⟨j + 1, by go_num, by omega, by omega, ?_, ?_⟩
                    · rw [HB.out.2]; omega
                    · rw [HB.out.2]; exact hw
                  · have HB : Hid (hasB n F j = true ∧ freeU F 0 (j + 1) = freeU F 0 j ++ [j]) := ⟨by simp [hasB, hf, hin], freeU_hit (by omega) hf⟩
                    have hfl := freeU_len_le F 0 j
                    have hsz := hw.out.2.2.size
                    obtain ⟨i0, hi, hz0, hz1, hz2⟩ := info_parts info_int8
                    clear hin hf
                    go_wp2_with fail
                    refine (has_any j _ hw.out.1.tab).mono ?_
                    rintro e w5 ⟨rfl, rfl⟩
                    rw [HB.out.1]
                    have HG : Hid _ := hw.out.2.1
                    go_wp2_with (at_builtin; refine wpList_append_own _ rfl _ _ 33 rfl w4.heap.size 3 i0 (.int .i64 0) 1 8 Try.underlying33 hi hz0 hz1 hz2 rfl (by decide) _ _ _ rfl (HG.out.alloc _) ⟨w5.heap.size, 0, none⟩ 1 1 [.int .i64 j] rfl rfl ?c1 ?c2 ?c3 ?c4 ?c5 ?_)
                    case c1 =>
                      intro q u hq
                      match q, hq with
                      | 0, hq => simp at hq; subst hq; simp [Addr.add]
                    case c2 => intro u hu; simp at hu; subst hu; rfl
                    case c3 => unfold maxLen; omega
                    case c4 => omega
                    case c5 => simp; omega
                    intro v' w6 hown' hgrow _
                    have HN : Hid (Ru w w6 b g n F ∧ Got w6 w4.heap.size v' (freeU F 0 (j + 1)) ∧ Kept w4 w6) := by
                      have hr : ∀ k, (Value.slice y2 (freeU F 0 j).length d2).ownBlock = some k → w4.heap.size ≤ k := fun k e => (World.ownsRow.lt hw.out.2.1 k e).1
                      have k46 : Kept w4 w6 := (hw.out.2.2.alloc _ _).grownBy hgrow hr
                      refine ⟨HK.out.still k46, ?_, k46⟩
                      rw [HB.out.2]
                      exact Got.push hown'
                    clear hown' hgrow HG hw
                    go_wp2
                    go_roundg (gk - 1)
                    all_goals (have := HM.out; try omega)
                    refine ⟨j + 1, by go_num, by omega, by omega, ?_, HN.out⟩
                    rw [HB.out.2]; simp; omega
                · have HE : Hid (lowL n F k = freeU F 0 j) := freeU_take hj hlen (by omega)
                  have H5 : Hid (Ru w wr b g n F ∧ Got wr w4.heap.size (.slice y2 (freeU F 0 j).length d2) (freeU F 0 j) ∧ w4.heap.size ≤ wr.heap.size ∧ g < w4.heap.size) := ⟨hw.out.1, hw.out.2.1, hw.out.2.2.size, HK.out.tab.ltg⟩
                  clear hw HM
                  rcases (show ¬ (j < n) ∨ (j < n ∧ ¬ ((freeU F 0 j).length : Int) < k) by omega) with hx | ⟨hx, hx2⟩
                  all_goals clear hend hlen
                  all_goals go_wp2
                  all_goals go_meet
                  all_goals exact ⟨y2, d2, freeU F 0 j, rfl, HE, H5⟩
            case rest =>
              obtain ⟨y2, d2, low, rfl, HE, H5⟩ := hcut
              clear hw HK
              go_wp2_with fail
              refine (take_any k _ H5.out.1.tab).mono ?_
              rintro e w5 ⟨v, rfl, hg, hp, hm⟩
              have HC : Hid (cntB (dropF F (takeL n F k)) n + (takeL n F k).length = cntB F n) := (takeL_good n F k).cnt
              cases ht : takeB n F k
              · have h2 : ¬ (1 ≤ k ∧ k ≤ cntB F n) := by simpa [takeB] using ht
                rw [take_no ht, dropF_nil] at hp
                rw [take_no ht] at hg
                have HW : Hid (Ru w w5 b g n F) := H5.out.1.step hp hm
                obtain ⟨y3, d3, rfl⟩ := hg.form
                simp only [List.length_nil]
                clear hg hp hm H5 HE HC
                rcases (show k < 1 ∨ (1 ≤ k ∧ (cntB F n : Int) < k) by omega) with h3 | ⟨h3, h4⟩
                all_goals clear h2 ht
                all_goals go_wp2_with fail
                all_goals (refine (first_any _).mono ?_; rintro e w6 ⟨rfl, k6⟩)
                all_goals (have K6 : Hid (Kept w w6) := HW.out.kept.trans k6; clear k6)
                all_goals go_wp2
                all_goals go_ret
                all_goals exact ⟨rfl, K6.out⟩
              · have h2 : 1 ≤ k ∧ k ≤ cntB F n := by simpa [takeB] using ht
                obtain ⟨h2, h3⟩ := h2
                have HT : Hid ((takeL n F k).length = k.toNat) := takeL_len ht
                have HW : Hid (Ru w w5 b g n (dropF F (takeL n F k))) := H5.out.1.step hp hm
                cases R with
                | none =>
                  have HL : Hid (takeL n F k = low) := (take_low ht HR.out).symm.trans HE.out
                  rw [HL.out] at HC HT HW hg
                  obtain ⟨y3, d3, rfl⟩ := hg.form
                  have HG : Hid (Rd w5 y3 low ∧ Rd w5 y2 low) := ⟨hg.rd, (H5.out.2.1.muts hm (by simpa using H5.out.2.2.2)).rd⟩
                  clear hg hp hm H5 HE ht HL
                  have hll : (low.length : Int) = k := by have := HT.out; omega
                  have hll2 : Hid (low.length = k.toNat) := HT.out
                  have z1 : ((low.length : Int) == k) = true := by simp; omega
                  have z2 : ¬ ((n : Int) < (low.length : Int)) := by omega
                  have HZ : Hid ((cntB (dropF F low) n : Int) = (cntB F n : Int) - k) := by have := HC.out; simp [Hid]; omega
                  have hb := cntB_le (dropF F low) n
                  clear hll
                  go_wp2_with fail
                  refine (first_any _).mono ?_
                  rintro e w6 ⟨rfl, k6⟩
                  have H6 : Hid (Ru w w6 b g n (dropF F low) ∧ Rd w6 y3 low ∧ Rd w6 y2 low) := ⟨HW.out.still k6, HG.out.1.kept k6, HG.out.2.kept k6⟩
                  clear k6 HW HG
                  go_wp2_with fail
                  refine (free_any _ H6.out.1.tab).mono ?_
                  rintro e w7 ⟨rfl, rfl⟩
                  have z3 : ((cntB (dropF F low) n : Int) == (cntB F n : Int) - k) = true := by have := HZ.out; simp; omega
                  go_wp2_with fail
                  refine (ints_any (T := low) _ (by have := hll2.out; omega) H6.out.2.1 H6.out.2.2).mono ?_
                  rintro e w8 ⟨rfl, k8⟩
                  have K8 : Hid (Kept w w8) := H6.out.1.kept.trans k8
                  clear k8
                  go_wp2
                  go_ret
                  exact ⟨rfl, K8.out⟩
                | some a =>
                  have HA : Hid (takeL n F k = List.range' a k.toNat) := (take_run ht HR.out).2.2
                  have e0 : bestV (some a) = (a : Int) := rfl
                  rw [e0]
                  clear e0
                  obtain ⟨y3, d3, rfl⟩ := hg.form
                  have HG : Hid (Rd w5 y3 (takeL n F k)) := hg.rd
                  have hal : a ≤ n := by
                    obtain ⟨m, _, _, h, _⟩ := runO_inv HR.out
                    omega
                  clear hg hp hm H5 HE ht
                  generalize takeL n F k = T at *
                  have hll : (T.length : Int) = k := by have := HT.out; omega
                  have hll2 : T.length ≤ n := by omega
                  have z1 : ((T.length : Int) == k) = true := by simp; omega
                  have z2 : ¬ ((n : Int) < (T.length : Int)) := by omega
                  have HZ : Hid ((cntB (dropF F T) n : Int) = (cntB F n : Int) - k) := by have := HC.out; simp [Hid]; omega
                  have hb := cntB_le (dropF F T) n
                  clear hll
                  go_wp2
                  go_loopg [22] T.length (fun t i wr2 => ∃ q : Nat, i = .int .i64 q ∧ q ≤ T.length ∧ t = T.length - q ∧ w5 = wr2)
                  case atStart => exact ⟨0, rfl, by omega, rfl, rfl⟩
                  case round =>
                    obtain ⟨q, rfl, hq, hm, rfl⟩ := hrel
                    have HM : Hid _ := hm
                    clear hm
                    by_cases hqT : q < T.length
                    · obtain ⟨gl, rfl, _, cl⟩ := HG.out (by omega)
                      have c1 := cl q hqT
                      have e1 : T[q] = a + q := by simp [HA.out]
                      rw [e1] at c1
                      have z3 : (((a + q : Nat) : Int) != (a : Int) + (q : Int)) = false := by simp
                      clear cl e1
                      go_wp2
                      go_roundg (gk - 1)
                      all_goals (have := HM.out; try omega)
                      exact ⟨q + 1, by go_num, by omega, by omega, rfl⟩
                    · obtain hq2 : q = T.length := by omega
                      clear HM
                      go_wp2_with fail
                      refine (first_any _).mono ?_
                      rintro e w6 ⟨rfl, k6⟩
                      have H6 : Hid (Ru w w6 b g n (dropF F T)) := HW.out.still k6
                      clear k6
                      go_wp2_with fail
                      refine (free_any _ H6.out.tab).mono ?_
                      rintro e w7 ⟨rfl, rfl⟩
                      have z3 : ((cntB (dropF F T) n : Int) == (cntB F n : Int) - k) = true := by have := HZ.out; simp; omega
                      go_wp2
                      go_ret
                      exact ⟨rfl, H6.out.kept⟩

theorem poolRuns_any (n0 : Int) (n1 : Int) (x2 : Option Addr) (l2 c2 : Nat) (L2 : Nat → Int) (w : World) (_lo0 : IntKind.min .i64 ≤ n0) (_hi0 : n0 ≤ IntKind.max .i64) (_lo1 : IntKind.min .i64 ≤ n1) (_hi1 : n1 ≤ IntKind.max .i64) (_h2c : l2 ≤ c2) (hL2 : Ints w x2 l2 L2) (_hB2 : ∀ i, i < l2 → IntKind.min .i64 ≤ L2 i ∧ L2 i ≤ IntKind.max .i64) :
    Calls Try.prog 5 #[.int .i64 n0, .int .i64 n1, .slice x2 l2 c2] w fun e w' => e = .returned (.bool true) ∧ Kept w w' := by
  by_cases hn : 0 ≤ n0 ∧ n0 ≤ 1024
  · obtain ⟨n, rfl⟩ : ∃ n : Nat, n0 = n := ⟨n0.toNat, by omega⟩
    by_cases ho : n ≤ 200 ∧ l2 ≤ 200
    · exact runs_in n n1 x2 l2 c2 L2 w (by omega) (by omega) hL2
    · exact runs_out n n1 x2 l2 c2 w (by omega) ho
  · exact runs_bad n0 n1 x2 l2 c2 w hn
end Go.Proofs.Ytpgmlnihgnomcaa
