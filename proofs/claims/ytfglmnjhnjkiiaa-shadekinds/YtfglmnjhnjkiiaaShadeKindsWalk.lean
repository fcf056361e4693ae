/-
  ShadeKinds: the walk.
-/
import Derived.Test.YtfglmnjhnjkiiaaFirst15
import Derived.Test.YtfglmnjhnjkiiaaElems
namespace Go.Proofs.Ytfglmnjhnjkiiaa
open Go.RowKit

set_option maxHeartbeats 2000000 in
set_option maxRecDepth 20000 in
theorem kinds_bad (n : Int) (x : Option Addr) (l c : Nat) (w : World) (hn : ¬ (0 ≤ n ∧ n ≤ 1024)) (h0 : IntKind.min .i64 ≤ n) (h1 : n ≤ IntKind.max .i64) :
    Calls Try.prog 5 #[.int .i64 n, .slice x l c] w fun e w' => e = .returned (.bool true) ∧ Kept w w' := by
  have HN : Hid (∀ w, _) := fun w => snew_bad n 200 w (by omega) h0 h1
  clear hn h0 h1
  go_enter Try.func5, Try.ntmps5
  go_wp2_with fail
  refine (first_any _).mono ?_
  rintro e w1 ⟨rfl, k1⟩
  have K1 : Hid (Kept w w1) := k1
  clear k1
  go_wp2_with fail
  refine (HN.out _).mono ?_
  rintro e w2 ⟨rfl, k2⟩
  have K2 : Hid (Kept w w2) := K1.out.trans k2
  clear k2
  go_wp2_with fail
  refine (first_any _).mono ?_
  rintro e w3 ⟨rfl, k3⟩
  have K3 : Hid (Kept w w3) := K2.out.trans k3
  clear k3
  go_wp2
  go_ret
  exact ⟨rfl, K3.out⟩

set_option maxHeartbeats 2000000 in
set_option maxRecDepth 20000 in
theorem kinds_out (n : Nat) (x : Option Addr) (l c : Nat) (w : World) (hn : n ≤ 1024) (ho : 100 < (n : Int) ∨ ((n : Int) ≤ 100 ∧ (l : Int) < (n : Int))) :
    Calls Try.prog 5 #[.int .i64 n, .slice x l c] w fun e w' => e = .returned (.bool true) ∧ Kept w w' := by
  have HN : Hid (∀ u, Kept w u → _) := fun u k => ms_new (w := w) n 200 u k hn (by omega) (by omega)
  rcases ho with h | ⟨h, h2⟩
  all_goals go_enter Try.func5, Try.ntmps5
  all_goals go_wp2_with fail
  all_goals (refine (first_any _).mono ?_; rintro e w1 ⟨rfl, k1⟩)
  all_goals (have K1 : Hid (Kept w w1) := k1; clear k1)
  all_goals go_wp2_with fail
  all_goals (refine (HN.out _ K1.out).mono ?_; rintro e w2 ⟨b, tb, rfl, t2⟩)
  all_goals (have K2 : Hid (Kept w w2) := t2.kept; clear t2 K1)
  all_goals go_wp2_with fail
  all_goals (refine (first_any _).mono ?_; rintro e w3 ⟨rfl, k3⟩)
  all_goals (have K3 : Hid (Kept w w3) := K2.out.trans k3; clear k3)
  all_goals go_wp2
  all_goals go_ret
  all_goals exact ⟨rfl, K3.out⟩

/-- A fragment of kind k: 1 a head, 2 a part, 3 one that a thread keeps; c: looked at. -/
def kfr (k : Int) (c : Bool) : Fr := if k = 1 then ⟨2, true, c⟩ else if k = 2 then ⟨2, false, c⟩ else if k = 3 then ⟨1, false, false⟩ else ⟨0, false, false⟩
theorem kfr_at1 {k : Int} (h : k = 1) : kfr k false = ⟨2, true && ((2 : Int) == 2), false⟩ := by simp [kfr, h]
theorem kfr_at2 {k : Int} (h : k = 2) : kfr k false = ⟨2, false && ((2 : Int) == 2), false⟩ := by simp [kfr, h]
theorem kfr_at3 {k : Int} (h : k = 3) : kfr k false = ⟨1, false && ((1 : Int) == 2), false⟩ := by simp [kfr, h]
/-- The first i are set, the first j of them looked at. -/
def kdT (K : Nat → Int) (i j : Nat) (y : Nat) : Fr := if y < i then kfr (K y) (decide (y < j)) else ⟨0, false, false⟩
/-- The heads below j. -/
def hdl (K : Nat → Int) : Nat → List Int
  | 0 => []
  | j + 1 => if K j = 1 then hdl K j ++ [(j : Int)] else hdl K j
theorem hdl_len (K : Nat → Int) : ∀ j, (hdl K j).length ≤ j
  | 0 => Nat.le_refl _
  | j + 1 => by
    have := hdl_len K j
    simp only [hdl]
    split
    · simp; omega
    · omega

section
variable {K : Nat → Int} {n i j : Nat}
theorem kdT_set {st : Int} {p : Bool} (hi : i < n) (hs : isSt st = true) (h : kfr (K i) false = ⟨st, p && (st == 2), false⟩) : setT n (kdT K i 0) i st p false = kdT K (i + 1) 0 := by
  funext k
  have e : (inn n (i : Int) && isSt st) = true := by simp [inn_of hi, hs]
  unfold setT
  rw [e, if_pos rfl]
  simp only [Int.toNat_natCast]
  unfold kdT
  by_cases hk : k = i
  · subst hk
    simp [h]
  · by_cases h2 : k < i
    · simp [hk, h2, show k < i + 1 by omega]
    · simp [hk, h2, show ¬ k < i + 1 by omega]
theorem kdT_same (h : kfr (K i) false = ⟨0, false, false⟩) : kdT K i 0 = kdT K (i + 1) 0 := by
  funext k
  unfold kdT
  by_cases hk : k = i
  · subst hk
    simp [h]
  · by_cases h2 : k < i
    · simp [h2, show k < i + 1 by omega]
    · simp [h2, show ¬ k < i + 1 by omega]
theorem kdT_at (hj : j < n) (m : Nat) : kdT K n m j = kfr (K j) (decide (j < m)) := by simp [kdT, hj]
theorem kdT_mark (hj : j < n) (h : K j = 1 ∨ K j = 2) : markT n (kdT K n j) j true = kdT K n (j + 1) := by
  have e2 : markB n (kdT K n j) j true = true := by
    rcases h with h | h
    · simp [markB, usd, inn_of hj, kdT_at hj, kfr, h]
    · simp [markB, usd, inn_of hj, kdT_at hj, kfr, h]
  funext k
  simp only [markT, e2, if_true, Int.toNat_natCast]
  by_cases hk : k = j
  · subst hk
    rcases h with h | h
    · simp [kdT_at hj, kfr, h]
    · simp [kdT_at hj, kfr, h]
  · unfold kdT
    by_cases h2 : k < j
    · simp [hk, h2, show k < j + 1 by omega]
    · simp [hk, h2, show ¬ k < j + 1 by omega]
theorem kdT_stay (h : ¬ (K j = 1 ∨ K j = 2)) : kdT K n (j + 1) = kdT K n j := by
  funext k
  unfold kdT
  by_cases hk : k = j
  · subst hk
    have h1 : ¬ K k = 1 := fun q => h (.inl q)
    have h2 : ¬ K k = 2 := fun q => h (.inr q)
    simp [kfr, h1, h2]
  · by_cases h2 : k < j
    · simp [h2, show k < j + 1 by omega]
    · simp [h2, show ¬ k < j + 1 by omega]

/-- One round of the second loop. -/
theorem kinds_round (K : Nat → Int) (hj : j < n) (hn : n ≤ 100) {S0 S1 S2 : ShS} (e0 : S0 = ⟨n, 200, kdT K n j, hdl K j, false, 4 * j⟩) (e1 : S1 = greyS S0.tick j true) (e2 : S2 = S1.tick.mark j true) :
    blackB S0 j true = false ∧ greyB S0.tick j true = (K j == 1) ∧ markB S1.n S1.T j true = (K j == 2) ∧ blackB S2 j true = (K j == 1) ∧ S2.tick = ⟨n, 200, kdT K n (j + 1), hdl K (j + 1), false, 4 * (j + 1)⟩ ∧ blk n (kdT K n (j + 1)) j true = (K j == 1 || K j == 2) ∧ S1.c = 4 * j + 2 ∧ S2.c = 4 * j + 3 := by
  have hl : (hdl K j).length < 200 := by have := hdl_len K j; omega
  have a0 : blackB S0 j true = false := by
    subst e0
    by_cases h1 : K j = 1
    · simp [blackB, hdd, blk, usd, inn_of hj, kdT_at hj, kfr, h1]
    · by_cases h2 : K j = 2
      · simp [blackB, hdd, blk, usd, inn_of hj, kdT_at hj, kfr, h2]
      · by_cases h3 : K j = 3
        · simp [blackB, hdd, blk, usd, inn_of hj, kdT_at hj, kfr, h3]
        · simp [blackB, hdd, blk, usd, inn_of hj, kdT_at hj, kfr, h1, h2, h3]
  have a5 : blk n (kdT K n (j + 1)) j true = (K j == 1 || K j == 2) := by
    by_cases h1 : K j = 1
    · simp [blk, usd, inn_of hj, kdT_at hj, kfr, h1]
    · by_cases h2 : K j = 2
      · simp [blk, usd, inn_of hj, kdT_at hj, kfr, h2]
      · by_cases h3 : K j = 3
        · simp [blk, usd, inn_of hj, kdT_at hj, kfr, h3]
        · simp [blk, usd, inn_of hj, kdT_at hj, kfr, h1, h2, h3]
  by_cases h1 : K j = 1
  · have g : greyB S0.tick j true = true := by
      subst e0
      simp [greyB, ShS.tick, hdd, markB, usd, inn_of hj, kdT_at hj, kfr, h1]
    have E1 : S1 = ⟨n, 200, kdT K n (j + 1), hdl K (j + 1), false, 4 * j + 2⟩ := by
      rw [e1]
      unfold greyS layS
      rw [show greyB S0.tick.tick j true = true from g, if_pos rfl]
      subst e0
      simp [ShS.tick, kdT_mark hj (.inl h1), pushT, pushZ, hl, hdl, h1]
    have m : markB n (kdT K n (j + 1)) j true = false := by simp [markB, usd, inn_of hj, kdT_at hj, kfr, h1]
    have E2 : S2 = ⟨n, 200, kdT K n (j + 1), hdl K (j + 1), false, 4 * j + 3⟩ := by
      rw [e2, E1]
      simp [ShS.tick, ShS.mark, markT, m]
    refine ⟨a0, by rw [g]; simp [h1], by rw [E1]; simpa [h1] using m, ?_, by rw [E2]; simp [ShS.tick]; omega, a5, by rw [E1], by rw [E2]⟩
    rw [E2]
    simp [blackB, hdd, blk, usd, inn_of hj, kdT_at hj, kfr, h1]
  · have g : greyB S0.tick j true = false := by
      subst e0
      by_cases h2 : K j = 2
      · simp [greyB, ShS.tick, hdd, markB, usd, inn_of hj, kdT_at hj, kfr, h2]
      · by_cases h3 : K j = 3
        · simp [greyB, ShS.tick, hdd, markB, usd, inn_of hj, kdT_at hj, kfr, h3]
        · simp [greyB, ShS.tick, hdd, markB, usd, inn_of hj, kdT_at hj, kfr, h1, h2, h3]
    have E1 : S1 = ⟨n, 200, kdT K n j, hdl K (j + 1), false, 4 * j + 2⟩ := by
      rw [e1]
      unfold greyS layS
      rw [show greyB S0.tick.tick j true = false from g]
      subst e0
      simp [ShS.tick, hdl, h1]
    by_cases h2 : K j = 2
    · have m : markB n (kdT K n j) j true = true := by simp [markB, usd, inn_of hj, kdT_at hj, kfr, h2]
      have E2 : S2 = ⟨n, 200, kdT K n (j + 1), hdl K (j + 1), false, 4 * j + 3⟩ := by
        rw [e2, E1]
        simp [ShS.tick, ShS.mark, kdT_mark hj (.inr h2)]
      refine ⟨a0, by rw [g]; simp [h1], by rw [E1]; simpa [h2] using m, ?_, by rw [E2]; simp [ShS.tick]; omega, a5, by rw [E1], by rw [E2]⟩
      rw [E2]
      simp [blackB, hdd, blk, usd, inn_of hj, kdT_at hj, kfr, h2]
    · have m : markB n (kdT K n j) j true = false := by
        by_cases h3 : K j = 3
        · simp [markB, usd, inn_of hj, kdT_at hj, kfr, h3]
        · simp [markB, usd, inn_of hj, kdT_at hj, kfr, h1, h2, h3]
      have E2 : S2 = ⟨n, 200, kdT K n (j + 1), hdl K (j + 1), false, 4 * j + 3⟩ := by
        rw [e2, E1, kdT_stay (fun q => q.elim h1 h2)]
        simp [ShS.tick, ShS.mark, markT, m]
      refine ⟨a0, by rw [g]; simp [h1], by rw [E1]; exact m.trans (by simp [h2]), ?_, by rw [E2]; simp [ShS.tick]; omega, a5, by rw [E1], by rw [E2]⟩
      rw [E2]
      by_cases h3 : K j = 3
      · simp [blackB, hdd, blk, usd, inn_of hj, kdT_at hj, kfr, h3]
      · simp [blackB, hdd, blk, usd, inn_of hj, kdT_at hj, kfr, h1, h2, h3]
end

set_option maxHeartbeats 8000000 in
set_option maxRecDepth 20000 in
theorem kinds_in (n : Nat) (x : Option Addr) (l c : Nat) (L : Nat → Int) (w : World) (hX : Ints w x l L) (hn : (n : Int) ≤ 100) (hl : (n : Int) ≤ (l : Int)) :
    Calls Try.prog 5 #[.int .i64 n, .slice x l c] w fun e w' => e = .returned (.bool true) ∧ Kept w w' := by
  have HX : Hid (Ints w x l L) := hX
  have HN : Hid (∀ u, Kept w u → _) := fun u k => ms_new (w := w) n 200 u k (by omega) (by omega) (by omega)
  obtain ⟨K, HK⟩ : ∃ K : Nat → Int, Hid (∀ j, bits BinOp.and IntKind.i64 (L j) 3 = K j) := ⟨_, fun _ => rfl⟩
  clear hX
  go_enter Try.func5, Try.ntmps5
  go_wp2_with fail
  refine (first_any _).mono ?_
  rintro e w1 ⟨rfl, k1⟩
  have K1 : Hid (Kept w w1) := k1
  clear k1
  go_wp2_with fail
  refine (HN.out _ K1.out).mono ?_
  rintro e w2 ⟨b, tb, rfl, t2⟩
  have H2 : Hid (Ms w w2 b tb ⟨n, 200, kdT K 0 0, [], false, 0⟩) := t2
  clear t2 K1 HN
  go_wp2_with fail
  refine (ms_table H2.out).mono ?_
  rintro e w3 ⟨rfl, rfl⟩
  go_wp2
  go_loopg [8] n (fun m i wr => ∃ j : Nat, i = .int .i64 j ∧ j ≤ n ∧ m = n - j ∧ Hid (Ms w wr b tb ⟨n, 200, kdT K j 0, [], false, 0⟩))
  case atStart => exact ⟨0, rfl, by omega, by omega, H2.out⟩
  case round =>
    obtain ⟨j, rfl, hj, hm, HR⟩ := hrel
    have HM : Hid _ := hm
    clear hm H2
    by_cases hlt : j < n
    · obtain ⟨bx, ox, rfl, hbx, hcx⟩ := HX.out.at (by omega)
      have e0 : wr.cell? ⟨bx, ox + j, none⟩ = _ := (HR.out.kept.cell hbx).trans (hcx j (by omega))
      have e1 := HK.out j
      clear hcx hbx
      rcases (show ((K j == 1) = true) ∨ ((K j == 1) = false ∧ (K j == 2) = true) ∨ ((K j == 1) = false ∧ (K j == 2) = false ∧ (K j == 3) = true) ∨ ((K j == 1) = false ∧ (K j == 2) = false ∧ (K j == 3) = false) by
        cases (K j == 1) <;> cases (K j == 2) <;> cases (K j == 3) <;> simp) with q1 | ⟨q1, q2⟩ | ⟨q1, q2, q3⟩ | ⟨q1, q2, q3⟩
      · have HS : Hid (setT n (kdT K j 0) j 2 true false = kdT K (j + 1) 0) := kdT_set hlt rfl (kfr_at1 (by simpa using q1))
        go_wp2_with fail
        refine (ms_table HR.out).mono ?_
        rintro e w4 ⟨rfl, rfl⟩
        go_wp2_with fail
        refine (ms_set j 2 true false HR.out).mono ?_
        rintro e w5 ⟨rfl, t5⟩
        have H5 : Hid (Ms w w5 b tb ⟨n, 200, kdT K (j + 1) 0, [], false, 0⟩) := by
          unfold ShS.set at t5
          simp only [HS.out] at t5
          exact t5
        clear t5 HR e0 e1
        go_wp2
        go_roundg (n - (j + 1))
        all_goals (have := HM.out; try omega)
        exact ⟨j + 1, by go_num, by omega, by omega, H5.out⟩
      · have HS : Hid (setT n (kdT K j 0) j 2 false false = kdT K (j + 1) 0) := kdT_set hlt rfl (kfr_at2 (by simpa using q2))
        go_wp2_with fail
        refine (ms_table HR.out).mono ?_
        rintro e w4 ⟨rfl, rfl⟩
        go_wp2_with fail
        refine (ms_set j 2 false false HR.out).mono ?_
        rintro e w5 ⟨rfl, t5⟩
        have H5 : Hid (Ms w w5 b tb ⟨n, 200, kdT K (j + 1) 0, [], false, 0⟩) := by
          unfold ShS.set at t5
          simp only [HS.out] at t5
          exact t5
        clear t5 HR e0 e1
        go_wp2
        go_roundg (n - (j + 1))
        all_goals (have := HM.out; try omega)
        exact ⟨j + 1, by go_num, by omega, by omega, H5.out⟩
      · have HS : Hid (setT n (kdT K j 0) j 1 false false = kdT K (j + 1) 0) := kdT_set hlt rfl (kfr_at3 (by simpa using q3))
        go_wp2_with fail
        refine (ms_table HR.out).mono ?_
        rintro e w4 ⟨rfl, rfl⟩
        go_wp2_with fail
        refine (ms_set j 1 false false HR.out).mono ?_
        rintro e w5 ⟨rfl, t5⟩
        have H5 : Hid (Ms w w5 b tb ⟨n, 200, kdT K (j + 1) 0, [], false, 0⟩) := by
          unfold ShS.set at t5
          simp only [HS.out] at t5
          exact t5
        clear t5 HR e0 e1
        go_wp2
        go_roundg (n - (j + 1))
        all_goals (have := HM.out; try omega)
        exact ⟨j + 1, by go_num, by omega, by omega, H5.out⟩
      · have H5 : Hid (Ms w wr b tb ⟨n, 200, kdT K (j + 1) 0, [], false, 0⟩) := by
          rw [← kdT_same]
          · exact HR.out
          · have a1 : ¬ K j = 1 := by simpa using q1
            have a2 : ¬ K j = 2 := by simpa using q2
            have a3 : ¬ K j = 3 := by simpa using q3
            simp [kfr, a1, a2, a3]
        clear HR
        go_wp2
        go_roundg (n - (j + 1))
        all_goals (have := HM.out; try omega)
        exact ⟨j + 1, by go_num, by omega, by omega, H5.out⟩
    · obtain rfl : j = n := by omega
      clear HM
      go_wp2
      go_loopg [7, 9] j (fun m h i wr2 => ∃ p : Nat, h = .int .i64 ((hdl K p).length : Int) ∧ i = .int .i64 p ∧ p ≤ j ∧ m = j - p ∧ Hid (Ms w wr2 b tb ⟨j, 200, kdT K j p, hdl K p, false, 4 * p⟩))
      case atStart => exact ⟨0, rfl, rfl, by omega, by omega, HR.out⟩
      case round =>
        obtain ⟨p, rfl, rfl, hp, hm, HQ⟩ := hrel
        have HM : Hid _ := hm
        clear hm HR
        have hlen := hdl_len K p
        by_cases hpj : p < j
        · obtain ⟨bx, ox, rfl, hbx, hcx⟩ := HX.out.at (by omega)
          have e0 : wr.cell? ⟨bx, ox + p, none⟩ = _ := (HQ.out.kept.cell hbx).trans (hcx p (by omega))
          have e1 := HK.out p
          clear hcx hbx
          obtain ⟨S0, hS0⟩ : ∃ S0 : ShS, S0 = ⟨j, 200, kdT K j p, hdl K p, false, 4 * p⟩ := ⟨_, rfl⟩
          obtain ⟨S1, hS1⟩ : ∃ S1, S1 = greyS S0.tick p true := ⟨_, rfl⟩
          obtain ⟨S2, hS2⟩ : ∃ S2, S2 = S1.tick.mark p true := ⟨_, rfl⟩
          have R0 := kinds_round K hpj (by omega) hS0 hS1 hS2
          have R : Hid (_ ∧ _) := R0
          have C0 : Hid (S0.c = 4 * p) := by rw [hS0]; rfl
          have HL : Hid (4 * p + 4 < lots) := by simp only [Hid, lots]; omega
          have HL1 : Hid (hdl K (p + 1) = if K p = 1 then hdl K p ++ [(p : Int)] else hdl K p) := rfl
          have Q0 : Hid (Ms w wr b tb S0) := by rw [hS0]; exact HQ.out
          have E1 : Hid (S1 = greyS S0.tick p true) := hS1
          have E2 : Hid (S2 = S1.tick.mark p true) := hS2
          clear R0 hS0 hS1 hS2 HQ
          rcases (show ((K p == 1) = true ∧ (K p == 2) = false) ∨ ((K p == 1) = false ∧ (K p == 2) = true) ∨ ((K p == 1) = false ∧ (K p == 2) = false) by
            by_cases h1 : K p = 1
            · exact .inl ⟨by simp [h1], by simp [h1]⟩
            · by_cases h2 : K p = 2
              · exact .inr (.inl ⟨by simp [h1], by simp [h2]⟩)
              · exact .inr (.inr ⟨by simp [h1], by simp [h2]⟩)) with ⟨q1, q2⟩ | ⟨q1, q2⟩ | ⟨q1, q2⟩
          all_goals go_wp2_with fail
          all_goals (refine (ms_black p true Q0.out (by have := HL.out; rw [C0.out]; simp only [lots] at this ⊢; omega)).mono ?_; rintro e w4 ⟨rfl, t4⟩)
          all_goals (have H4 : Hid (Ms w w4 b tb S0.tick) := t4; clear t4 Q0)
          all_goals (rw [R.out.1])
          all_goals (clear e0)
          all_goals go_wp2_with fail
          all_goals (refine (ms_grey p true H4.out (by have := HL.out; have := C0.out; simp only [ShS.tick, lots] at *; omega)).mono ?_; rintro e w5 ⟨rfl, t5⟩)
          all_goals (have H5 : Hid (Ms w w5 b tb S1) := by rw [E1.out]; exact t5)
          all_goals (clear t5 H4)
          all_goals (rw [R.out.2.1, q1])
          all_goals go_wp2_with fail
          all_goals (refine (ms_part p true H5.out (by have := HL.out; rw [R.out.2.2.2.2.2.2.1]; simp only [lots] at *; omega)).mono ?_; rintro e w6 ⟨rfl, t6⟩)
          all_goals (have H6 : Hid (Ms w w6 b tb S2) := by rw [E2.out]; exact t6)
          all_goals (clear t6 H5)
          all_goals (rw [R.out.2.2.1, q2])
          all_goals go_wp2_with fail
          all_goals (refine (ms_black p true H6.out (by have := HL.out; rw [R.out.2.2.2.2.2.2.2]; simp only [lots] at *; omega)).mono ?_; rintro e w7 ⟨rfl, t7⟩)
          all_goals (have H7 : Hid (Ms w w7 b tb ⟨j, 200, kdT K j (p + 1), hdl K (p + 1), false, 4 * (p + 1)⟩) := by rw [← R.out.2.2.2.2.1]; exact t7)
          all_goals (clear t7 H6)
          all_goals (rw [R.out.2.2.2.1, q1])
          all_goals go_wp2_with fail
          all_goals (refine (ms_table H7.out).mono ?_; rintro e w8 ⟨rfl, rfl⟩)
          all_goals go_wp2_with fail
          all_goals (refine (ms_tblack p true H7.out).mono ?_; rintro e w9 ⟨rfl, rfl⟩)
          all_goals (simp only [R.out.2.2.2.2.2.1, q1, q2, Bool.or_false, Bool.or_true])
          all_goals (clear R E1 E2 C0 HL)
          all_goals go_wp2
          all_goals go_roundg (j - (p + 1))
          all_goals (have := HM.out; try omega)
          · exact ⟨p + 1, by
              rw [HL1.out, if_pos (by simpa using q1)]
              simp, by go_num, by omega, by omega, H7.out⟩
          · exact ⟨p + 1, by
              rw [HL1.out, if_neg (by simpa using q1)], by go_num, by omega, by omega, H7.out⟩
          · exact ⟨p + 1, by
              rw [HL1.out, if_neg (by simpa using q1)], by go_num, by omega, by omega, H7.out⟩
        · obtain rfl : p = j := by omega
          have HL : Hid (4 * p + 4 < lots) := by simp only [Hid, lots]; omega
          clear HM
          go_wp2_with fail
          refine (first_any _).mono ?_
          rintro e w4 ⟨rfl, k4⟩
          have H4 : Hid (Ms w w4 b tb ⟨p, 200, kdT K p p, hdl K p, false, 4 * p⟩) := HQ.out.still k4
          clear k4 HQ
          go_wp2_with fail
          refine (ms_len H4.out).mono ?_
          rintro e w5 ⟨rfl, rfl⟩
          go_wp2_with fail
          refine (ms_count H4.out).mono ?_
          rintro e w6 ⟨rfl, rfl⟩
          have e9 : ((4 * p : Nat) : Int) = 4 * (p : Int) := by omega
          simp only [e9]
          clear e9
          go_wp2_with fail
          refine (ms_lost H4.out (by have := HL.out; simp only [lots] at *; omega)).mono ?_
          rintro e w7 ⟨rfl, t7⟩
          have K7 : Hid (Kept w w7) := t7.kept
          clear t7 H4
          go_wp2
          go_ret
          exact ⟨rfl, K7.out⟩

theorem shadeKinds_any (n0 : Int) (x1 : Option Addr) (l1 c1 : Nat) (L1 : Nat → Int) (w : World) (lo0 : IntKind.min .i64 ≤ n0) (hi0 : n0 ≤ IntKind.max .i64) (_h1c : l1 ≤ c1) (hL1 : Ints w x1 l1 L1) (_hB1 : ∀ i, i < l1 → IntKind.min .i64 ≤ L1 i ∧ L1 i ≤ IntKind.max .i64) :
    Calls Try.prog 5 #[.int .i64 n0, .slice x1 l1 c1] w fun e w' => e = .returned (.bool true) ∧ Kept w w' := by
  by_cases hn : 0 ≤ n0 ∧ n0 ≤ 1024
  · obtain ⟨n, rfl⟩ : ∃ n : Nat, n0 = n := ⟨n0.toNat, by omega⟩
    by_cases ho : 100 < (n : Int) ∨ ((n : Int) ≤ 100 ∧ (l1 : Int) < (n : Int))
    · exact kinds_out n x1 l1 c1 w (by omega) ho
    · exact kinds_in n x1 l1 c1 L1 w hL1 (by omega) (by omega)
  · exact kinds_bad n0 x1 l1 c1 w hn lo0 hi0
end Go.Proofs.Ytfglmnjhnjkiiaa
