/-
  CoilKept: the walk.
-/
import Derived.Test.YtfddcfmgigaabaaFirst11
import Derived.Test.YtfddcfmgigaabaaElems
namespace Go.Proofs.Ytfddcfmgigaabaa
open Go.RowKit

set_option maxHeartbeats 2000000 in
set_option maxRecDepth 20000 in
theorem kept_bad (s n : Int) (x : Option Addr) (l c : Nat) (w : World) (hs : ¬ (0 ≤ s ∧ s ≤ 2048)) :
    Calls Try.prog 6 #[.int .i64 s, .int .i64 n, .slice x l c] w fun e w' => e = .returned (.bool true) ∧ Kept w w' := by
  have HN : Hid (∀ w, _) := fun w => new_bad s w hs
  clear hs
  go_enter Try.func6, Try.ntmps6
  go_wp2_with fail
  refine (first_any _).mono ?_
  rintro e w1 ⟨rfl, k1⟩
  have K1 : Hid (Kept w w1) := k1
  clear k1
  go_wp2_with fail
  refine (HN.out _).mono ?_
  rintro e w2 ⟨rfl, rfl⟩
  go_wp2_with fail
  refine (first_any _).mono ?_
  rintro e w3 ⟨rfl, k3⟩
  have K3 : Hid (Kept w w3) := K1.out.trans k3
  clear k3
  go_wp2
  go_ret
  exact ⟨rfl, K3.out⟩

set_option maxHeartbeats 4000000 in
set_option maxRecDepth 20000 in
theorem kept_out (s : Nat) (n : Int) (x : Option Addr) (l c : Nat) (w : World) (hs : s ≤ 2048) (ho : 2000 < (s : Int) ∨ ((s : Int) ≤ 2000 ∧ n < 1) ∨ ((s : Int) ≤ 2000 ∧ 1 ≤ n ∧ (s : Int) < n) ∨ ((s : Int) ≤ 2000 ∧ 1 ≤ n ∧ n ≤ (s : Int) ∧ 100 < (l : Int))) :
    Calls Try.prog 6 #[.int .i64 (s : Int), .int .i64 n, .slice x l c] w fun e w' => e = .returned (.bool true) ∧ Kept w w' := by
  rcases ho with h1 | ⟨h1, h2⟩ | ⟨h1, h2, h3⟩ | ⟨h1, h2, h3, h4⟩
  all_goals go_enter Try.func6, Try.ntmps6
  all_goals go_wp2_with fail
  all_goals (refine (first_any _).mono ?_; rintro e w1 ⟨rfl, k1⟩)
  all_goals (have K1 : Hid (Kept w w1) := k1; clear k1)
  all_goals go_wp2_with fail
  all_goals (refine (new_any s _ hs).mono ?_; rintro e w2 ⟨p, rfl, -, k2, -⟩)
  all_goals (have K2 : Hid (Kept w w2) := K1.out.trans k2; clear k2 K1)
  all_goals go_wp2_with fail
  all_goals (refine (first_any _).mono ?_; rintro e w3 ⟨rfl, k3⟩)
  all_goals (have K3 : Hid (Kept w w3) := K2.out.trans k3; clear k3)
  all_goals go_wp2
  all_goals go_ret
  all_goals exact ⟨rfl, K3.out⟩

/-- A coil of one's own, and all else as it was. -/
structure Mine (w wr : World) (p : Nat) (S : CS) : Prop where
  tab : CTab 47 wr p S
  kept : Kept w wr
  lo : w.heap.size ≤ p
section
variable {w wr wr' : World} {p : Nat} {S S' : CS}
theorem Mine.still (h : Mine w wr p S) (k : Kept wr wr') : Mine w wr' p S := ⟨h.tab.kept k, h.kept.trans k, h.lo⟩
theorem Mine.step (h : Mine w wr p S) (t : CTab 47 wr' p S') (m : Mut [p] wr wr') : Mine w wr' p S' := ⟨t, h.kept.muts m (by simpa using h.lo), h.lo⟩
theorem Mine.eq (h : Mine w wr p S) (e : S = S') : Mine w wr p S' := e ▸ h
end

set_option maxHeartbeats 2000000 in
set_option maxRecDepth 20000 in
theorem kept_in (s n : Nat) (x : Option Addr) (l c : Nat) (L : Nat → Int) (w : World) (hX : Ints w x l L) (hs : (s : Int) ≤ 2000) (hn1 : 1 ≤ (n : Int)) (hn : (n : Int) ≤ (s : Int)) (hl : (l : Int) ≤ 100) :
    Calls Try.prog 6 #[.int .i64 (s : Int), .int .i64 (n : Int), .slice x l c] w fun e w' => e = .returned (.bool true) ∧ Kept w w' := by
  have HX : Hid (Ints w x l L) := hX
  clear hX
  go_enter Try.func6, Try.ntmps6
  go_wp2_with fail
  refine (first_any _).mono ?_
  rintro e w1 ⟨rfl, k1⟩
  have K1 : Hid (Kept w w1) := k1
  clear k1
  go_wp2_with fail
  refine (new_any s _ (by omega)).mono ?_
  rintro e w2 ⟨p, rfl, t2, k2, l2⟩
  have H2 : Hid (Mine w w2 p ⟨s, 0, 0, 0, 0⟩) := ⟨t2, K1.out.trans k2, Nat.le_trans K1.out.size l2⟩
  clear k2 K1 t2 l2
  go_wp2_with fail
  refine (take_any (n : Int) _ H2.out.tab).mono ?_
  rintro e w3 ⟨rfl, t3, m3⟩
  have H3 : Hid (Mine w w3 p ⟨s, 0, 0, n, 0⟩) := (H2.out.step t3 m3).eq (by
    have : takes ⟨s, 0, 0, 0, 0⟩ (n : Int) = true := decide_eq_true (by simp [roomF, CS.u]; omega)
    simp [takeS, this, putU])
  clear t3 m3 H2
  generalize takeA _ _ = va
  generalize takes _ _ = vb
  go_wp2_with fail
  refine (turn_any _ H3.out.tab).mono ?_
  rintro e w4 ⟨rfl, t4, m4⟩
  have H4 : Hid (Mine w w4 p ⟨s, 1, n, n, 0⟩) := H3.out.step t4 m4
  have e4 : turns ⟨s, 0, 0, n, 0⟩ = true := rfl
  rw [e4]
  clear t4 m4 H3 e4
  go_wp2_with fail
  go_loopg [9, 10] l (fun m vf i wr' => ∃ (j f : Nat), i = .int .i64 j ∧ vf = .int .i64 f ∧ j ≤ l ∧ m = l - j ∧ f + n ≤ s ∧ Hid (Mine w wr' p ⟨s, 1, n, n, f⟩))
  case atStart => exact ⟨0, 0, rfl, rfl, by omega, by omega, by omega, H4.out⟩
  case round =>
    obtain ⟨j, f, rfl, rfl, hj, hm, hf, HR⟩ := hrel
    have HM : Hid _ := hm
    clear hm H4
    by_cases hlt : j < l
    · obtain ⟨bx, ox, rfl, hbx, hcx⟩ := HX.out.at (by omega)
      have EX : Hid (∀ u, Kept w u → u.cell? ⟨bx, ox + j, none⟩ = some (.int .i64 (L j))) := fun u k => (k.cell hbx).trans (hcx j hlt)
      clear hcx hbx HX
      have e0 := EX.out wr HR.out.kept
      generalize L j = z at *
      go_wp2_with fail
      refine (take_any z _ HR.out.tab).mono ?_
      rintro e w5 ⟨rfl, t5, m5⟩
      have H5 : Hid (Mine w w5 p (takeS ⟨s, 1, n, n, f⟩ z)) := HR.out.step t5 m5
      clear t5 m5 HR e0
      have e0 := EX.out w5 H5.out.kept
      by_cases h1 : 1 ≤ z
      · by_cases h2 : z ≤ (s : Int) - (n : Int) - (f : Int)
        · have et : takes ⟨s, 1, n, n, f⟩ z = true := decide_eq_true (by simp [roomF, CS.u]; omega)
          obtain ⟨q, rfl⟩ : ∃ q : Nat, z = q := ⟨z.toNat, by omega⟩
          have H6 : Hid (Mine w w5 p ⟨s, 1, n, n, f + q⟩) := H5.out.eq (by simp [takeS, et, putU])
          have ea : takeA ⟨s, 1, n, n, f⟩ (q : Int) = (f : Int) := by simp [takeA, et, CS.u]
          rw [ea, et]
          clear H5 ea et
          go_wp2
          go_roundg (l - (j + 1))
          all_goals (have := HM.out; try omega)
          exact ⟨j + 1, f + q, by go_num, by go_num, by omega, rfl, by omega, H6.out⟩
        · have et : takes ⟨s, 1, n, n, f⟩ z = false := decide_eq_false (by simp [roomF, CS.u]; omega)
          have H6 : Hid (Mine w w5 p ⟨s, 1, n, n, f⟩) := H5.out.eq (by simp [takeS, et])
          rw [et]
          generalize takeA _ _ = va2
          clear H5 et
          go_wp2
          go_roundg (l - (j + 1))
          all_goals (have := HM.out; try omega)
          exact ⟨j + 1, f, by go_num, rfl, by omega, rfl, by omega, H6.out⟩
      · have et : takes ⟨s, 1, n, n, f⟩ z = false := decide_eq_false (by omega)
        have H6 : Hid (Mine w w5 p ⟨s, 1, n, n, f⟩) := H5.out.eq (by simp [takeS, et])
        rw [et]
        generalize takeA _ _ = va2
        clear H5 et
        go_wp2
        go_roundg (l - (j + 1))
        all_goals (have := HM.out; try omega)
        exact ⟨j + 1, f, by go_num, rfl, by omega, rfl, by omega, H6.out⟩
    · obtain rfl : j = l := by omega
      go_wp2_with fail
      refine (copy_any (n : Int) _ HR.out.tab).mono ?_
      rintro e w5 ⟨rfl, t5, m5⟩
      have es : skips ⟨s, 1, n, n, f⟩ (n : Int) = true := decide_eq_true (by simp; omega)
      have ea : copyA ⟨s, 1, n, n, f⟩ (n : Int) = (f : Int) := by simp [copyA, es, CS.u]
      have H5 : Hid (Mine w w5 p ⟨s, 1, 0, n, f + n⟩) := (HR.out.step t5 m5).eq (by simp [copyS, es, putU])
      rw [ea, es]
      clear t5 m5 HR ea es
      go_wp2_with fail
      refine (copy_any 1 _ H5.out.tab).mono ?_
      rintro e w6 ⟨rfl, t6, m6⟩
      have es : skips ⟨s, 1, 0, n, f + n⟩ 1 = false := decide_eq_false (by simp)
      have H6 : Hid (Mine w w6 p ⟨s, 1, 0, n, f + n⟩) := (H5.out.step t6 m6).eq (by simp [copyS, es])
      rw [es]
      generalize copyA _ _ = va2
      clear t6 m6 H5 es
      go_wp2_with fail
      refine (first_any _).mono ?_
      rintro e w7 ⟨rfl, k7⟩
      have H7 : Hid (Mine w w7 p ⟨s, 1, 0, n, f + n⟩) := H6.out.still k7
      clear k7 H6
      go_wp2_with fail
      refine (left_any _ H7.out.tab).mono ?_
      rintro e w8 ⟨rfl, rfl⟩
      go_wp2_with fail
      refine (current_any _ H7.out.tab).mono ?_
      rintro e w9 ⟨rfl, rfl⟩
      go_wp2_with fail
      refine (used_any _ _ H7.out.tab).mono ?_
      rintro e w10 ⟨rfl, rfl⟩
      have eu : usedF ⟨s, 1, 0, n, f + n⟩ ((1 : Nat) : Int) = (f : Int) + (n : Int) := by simp [usedF]
      have ez : ((f : Int) + (n : Int) == (f : Int) + (n : Int)) = true := by simp
      simp only [z1] at *
      rw [eu]
      go_wp2_with fail
      refine (done_any _ H7.out.tab).mono ?_
      rintro e w11 ⟨rfl, t11, m11⟩
      have H11 : Hid (Kept w w11) := (H7.out.step t11 m11).kept
      have ed : dones ⟨s, 1, 0, n, f + n⟩ = true := rfl
      rw [ed]
      clear t11 m11 H7
      go_wp2
      go_ret
      exact ⟨rfl, H11.out⟩

theorem coilKept_any (n0 n1 : Int) (x2 : Option Addr) (l2 c2 : Nat) (L2 : Nat → Int) (w : World) (_lo0 : IntKind.min .i64 ≤ n0) (_hi0 : n0 ≤ IntKind.max .i64) (_lo1 : IntKind.min .i64 ≤ n1) (_hi1 : n1 ≤ IntKind.max .i64) (_h2c : l2 ≤ c2) (hL2 : Ints w x2 l2 L2) (_hB2 : ∀ i, i < l2 → IntKind.min .i64 ≤ L2 i ∧ L2 i ≤ IntKind.max .i64) :
    Calls Try.prog 6 #[.int .i64 n0, .int .i64 n1, .slice x2 l2 c2] w fun e w' => e = .returned (.bool true) ∧ Kept w w' := by
  by_cases hs : 0 ≤ n0 ∧ n0 ≤ 2048
  · obtain ⟨s, rfl⟩ : ∃ s : Nat, n0 = s := ⟨n0.toNat, by omega⟩
    by_cases ho : 2000 < (s : Int) ∨ ((s : Int) ≤ 2000 ∧ n1 < 1) ∨ ((s : Int) ≤ 2000 ∧ 1 ≤ n1 ∧ (s : Int) < n1) ∨ ((s : Int) ≤ 2000 ∧ 1 ≤ n1 ∧ n1 ≤ (s : Int) ∧ 100 < (l2 : Int))
    · exact kept_out s n1 x2 l2 c2 w (by omega) ho
    · obtain ⟨n, rfl⟩ : ∃ n : Nat, n1 = n := ⟨n1.toNat, by omega⟩
      exact kept_in s n x2 l2 c2 L2 w hL2 (by omega) (by omega) (by omega) (by omega)
  · exact kept_bad n0 n1 x2 l2 c2 w hs
end Go.Proofs.Ytfddcfmgigaabaa
