/-
  CoilTurns: the walk.
-/
import Derived.Test.YtfddcfmgigaabaaCoilKeptWalk
namespace Go.Proofs.Ytfddcfmgigaabaa
open Go.RowKit Go.ChangeShapes Go.WideShapes Go.Deep

/-- A slice of truth values. -/
def Bools (w : World) (x : Option Addr) (l : Nat) (L : Nat → Bool) : Prop := Elems w x l 1 (fun i => [.bool (L i)])
theorem Bools.at {w : World} {x : Option Addr} {l : Nat} {L : Nat → Bool} (h : Bools w x l L) (hp : 0 < l) : ∃ b o, x = some ⟨b, o, none⟩ ∧ b < w.heap.size ∧ ∀ i, i < l → w.cell? ⟨b, o + i, none⟩ = some (.bool (L i)) := by
  obtain ⟨b, o, e, hb, hc⟩ := h hp
  exact ⟨b, o, e, hb, fun i hi => by simpa using hc i hi 0 _ (by omega) rfl⟩
section
variable {H : Type} {enc : TypeId × Value → H} {W : World} {sp : Nat → Bool} {held : Bool}
theorem bools_open {x : Option Addr} {l c : Nat} {d : DataW H} {p : List MemPlace} (h : DataW.Trod enc Try.prog W 0 sp held 42 (.slice x l c) d p) :
    ∃ L, Bools W x l L := by
  have ce : Try.prog.cellsOf 4 = 1 := by kernel_rfl
  obtain ⟨V, hV, hr⟩ := elems_open Try.underlying42 (by rw [ce]; omega) h
  rw [ce] at hV
  obtain ⟨L, hL, _⟩ := elems_typed (fun n : Bool => [Value.bool n]) (fun _ => True) hV fun i hi => by
    obtain ⟨n, y, hy⟩ := hr i hi
    obtain ⟨z, hz, _⟩ := DataW.trod_bool Try.underlying4 hy
    exact ⟨z, hz, trivial⟩
  exact ⟨L, hL⟩
end

set_option maxHeartbeats 2000000 in
set_option maxRecDepth 20000 in
theorem turns_bad (s n : Int) (x : Option Addr) (l c : Nat) (w : World) (hs : ¬ (0 ≤ s ∧ s ≤ 2048)) :
    Calls Try.prog 5 #[.int .i64 s, .int .i64 n, .slice x l c] w fun e w' => e = .returned (.bool true) ∧ Kept w w' := by
  have HN : Hid (∀ w, _) := fun w => new_bad s w hs
  clear hs
  go_enter Try.func5, Try.ntmps5
  go_wp2_with fail
  refine (first_any _).mono ?_
  rintro e w1 ⟨rfl, k1⟩
  have K1 : Hid (Kept w w1) := k1
  clear k1
  go_wp2_with fail
  refine (HN.out _).mono ?_
  rintro e w2 ⟨rfl, rfl⟩
  go_wp2_with fail
  refine (first_any _).mono ?_
  rintro e w3 ⟨rfl, k3⟩
  have K3 : Hid (Kept w w3) := K1.out.trans k3
  clear k3
  go_wp2
  go_ret
  exact ⟨rfl, K3.out⟩

set_option maxHeartbeats 4000000 in
set_option maxRecDepth 20000 in
theorem turns_out (s : Nat) (n : Int) (x : Option Addr) (l c : Nat) (w : World) (hs : s ≤ 2048) (ho : n < 1 ∨ (1 ≤ n ∧ (s : Int) < n) ∨ (1 ≤ n ∧ n ≤ (s : Int) ∧ 40 < (l : Int))) :
    Calls Try.prog 5 #[.int .i64 (s : Int), .int .i64 n, .slice x l c] w fun e w' => e = .returned (.bool true) ∧ Kept w w' := by
  rcases ho with h1 | ⟨h1, h2⟩ | ⟨h1, h2, h3⟩
  all_goals go_enter Try.func5, Try.ntmps5
  all_goals go_wp2_with fail
  all_goals (refine (first_any _).mono ?_; rintro e w1 ⟨rfl, k1⟩)
  all_goals (have K1 : Hid (Kept w w1) := k1; clear k1)
  all_goals go_wp2_with fail
  all_goals (refine (new_any s _ hs).mono ?_; rintro e w2 ⟨p, rfl, -, k2, -⟩)
  all_goals (have K2 : Hid (Kept w w2) := K1.out.trans k2; clear k2 K1)
  all_goals go_wp2_with fail
  all_goals (refine (first_any _).mono ?_; rintro e w3 ⟨rfl, k3⟩)
  all_goals (have K3 : Hid (Kept w w3) := K2.out.trans k3; clear k3)
  all_goals go_wp2
  all_goals go_ret
  all_goals exact ⟨rfl, K3.out⟩

/-- u words used in the space that is filled (k), none in the other one, none kept. -/
def one (k s u : Nat) : CS := if k = 0 then ⟨s, 0, 0, u, 0⟩ else ⟨s, 1, 0, 0, u⟩

set_option maxHeartbeats 4000000 in
set_option maxRecDepth 20000 in
theorem turns_in (s n : Nat) (x : Option Addr) (l c : Nat) (L : Nat → Bool) (w : World) (hX : Bools w x l L) (hs : (s : Int) ≤ 2048) (hn1 : 1 ≤ (n : Int)) (hn : (n : Int) ≤ (s : Int)) (hl : (l : Int) ≤ 40) :
    Calls Try.prog 5 #[.int .i64 (s : Int), .int .i64 (n : Int), .slice x l c] w fun e w' => e = .returned (.bool true) ∧ Kept w w' := by
  have HX : Hid (Bools w x l L) := hX
  clear hX
  go_enter Try.func5, Try.ntmps5
  go_wp2_with fail
  refine (first_any _).mono ?_
  rintro e w1 ⟨rfl, k1⟩
  have K1 : Hid (Kept w w1) := k1
  clear k1
  go_wp2_with fail
  refine (new_any s _ (by omega)).mono ?_
  rintro e w2 ⟨p, rfl, t2, k2, l2⟩
  have H2 : Hid (Mine w w2 p ⟨s, 0, 0, 0, 0⟩) := ⟨t2, K1.out.trans k2, Nat.le_trans K1.out.size l2⟩
  clear k2 K1 t2 l2
  go_wp2_with fail
  refine (take_any (n : Int) _ H2.out.tab).mono ?_
  rintro e w3 ⟨rfl, t3, m3⟩
  have e3 : takes ⟨s, 0, 0, 0, 0⟩ (n : Int) = true := decide_eq_true (by simp [roomF, CS.u]; omega)
  have H3 : Hid (Mine w w3 p (one 0 s n)) := (H2.out.step t3 m3).eq (by
    simp [takeS, e3, putU, one])
  rw [e3]
  clear t3 m3 H2 e3
  generalize takeA _ _ = va
  go_wp2_with fail
  go_loopg [9, 12, 13, 14, 15] l (fun m vu i _ _ _ wr' => ∃ (j u k : Nat), i = .int .i64 j ∧ vu = .int .i64 u ∧ j ≤ l ∧ m = l - j ∧ u ≤ s ∧ k ≤ 1 ∧ Hid (Mine w wr' p (one k s u)))
  case atStart => exact ⟨0, n, 0, rfl, rfl, by omega, by omega, by omega, by omega, H3.out⟩
  case round =>
    obtain ⟨j, u, k, rfl, rfl, hj, hm, hu, hk, HR⟩ := hrel
    have HM : Hid _ := hm
    clear hm H3
    by_cases hlt : j < l
    · obtain ⟨bx, ox, rfl, hbx, hcx⟩ := HX.out.at (by omega)
      have EX : Hid (∀ u, Kept w u → u.cell? ⟨bx, ox + j, none⟩ = some (.bool (L j))) := fun u k => (k.cell hbx).trans (hcx j hlt)
      clear hcx hbx HX
      rcases (by omega : k = 0 ∨ k = 1) with rfl | rfl
      · have HR0 : Hid (Mine w wr p ⟨s, 0, 0, u, 0⟩) := HR.out
        clear HR
        go_wp2_with fail
        refine (current_any _ HR0.out.tab).mono ?_
        rintro e w4 ⟨rfl, rfl⟩
        simp only [z0]
        go_wp2_with fail
        refine (turn_any _ HR0.out.tab).mono ?_
        rintro e w5 ⟨rfl, t5, m5⟩
        have H5 : Hid (Mine w w5 p ⟨s, 1, u, u, 0⟩) := HR0.out.step t5 m5
        have e5 : turns ⟨s, 0, 0, u, 0⟩ = true := rfl
        rw [e5]
        clear t5 m5 HR0 e5
        go_wp2_with fail
        refine (current_any _ H5.out.tab).mono ?_
        rintro e w6 ⟨rfl, rfl⟩
        simp only [z1]
        go_wp2_with fail
        refine (left_any _ H5.out.tab).mono ?_
        rintro e w7 ⟨rfl, rfl⟩
        have z2 : ((u : Int) != (u : Int)) = false := by simp
        go_wp2_with fail
        by_cases hu0 : u = 0
        · subst hu0
          refine (turn_any _ H5.out.tab).mono ?_
          rintro e w8 ⟨rfl, t8, m8⟩
          have H8 : Hid (Mine w w8 p ⟨s, 0, 0, 0, 0⟩) := H5.out.step t8 m8
          have e8 : turns ⟨s, 1, 0, 0, 0⟩ = true := rfl
          rw [e8]
          clear t8 m8 H5 e8 z2
          simp only [z0]
          go_wp2_with fail
          refine (first_any _).mono ?_
          rintro e w9 ⟨rfl, k9⟩
          have H9 : Hid (Mine w w9 p ⟨s, 0, 0, 0, 0⟩) := H8.out.still k9
          clear k9 H8
          go_wp2_with fail
          refine (done_any _ H9.out.tab).mono ?_
          rintro e w10 ⟨rfl, t10, m10⟩
          have H10 : Hid (Kept w w10) := (H9.out.step t10 m10).kept
          have e10 : dones ⟨s, 0, 0, 0, 0⟩ = true := rfl
          rw [e10]
          clear t10 m10 H9 e10
          go_wp2
          go_ret
          exact ⟨rfl, H10.out⟩
        · refine (turn_any _ H5.out.tab).mono ?_
          rintro e w8 ⟨rfl, t8, m8⟩
          have e8 : turns ⟨s, 1, u, u, 0⟩ = false := by simpa [turns, CS.o] using hu0
          have H8 : Hid (Mine w w8 p ⟨s, 1, u, u, 0⟩) := (H5.out.step t8 m8).eq (by simp [turnS, e8])
          rw [e8]
          clear t8 m8 H5 e8 z2
          have z3 : ((u : Int) == 0) = false := by simpa using hu0
          have e0 := EX.out w8 H8.out.kept
          go_wp2_with fail
          refine (done_any _ H8.out.tab).mono ?_
          rintro e w9 ⟨rfl, t9, m9⟩
          have e9 : dones ⟨s, 1, u, u, 0⟩ = false := by simpa [dones] using hu0
          have H9 : Hid (Mine w w9 p ⟨s, 1, u, u, 0⟩) := (H8.out.step t9 m9).eq (by simp [doneS, e9])
          rw [e9]
          clear t9 m9 H8 e9 z3 e0
          have e0 := EX.out w9 H9.out.kept
          have es : skips ⟨s, 1, u, u, 0⟩ (u : Int) = true := decide_eq_true (by simp; omega)
          cases hL : L j
          · rw [hL] at e0
            clear hL EX
            go_wp2_with fail
            refine (copy_any (u : Int) _ H9.out.tab).mono ?_
            rintro e w10 ⟨rfl, t10, m10⟩
            have ea : copyA ⟨s, 1, u, u, 0⟩ (u : Int) = 0 := by simp [copyA, es, CS.u]
            have H10 : Hid (Mine w w10 p ⟨s, 1, 0, u, u⟩) := (H9.out.step t10 m10).eq (by simp [copyS, es, putU])
            rw [ea, es]
            clear t10 m10 H9 ea es e0
            go_wp2_with fail
            refine (done_any _ H10.out.tab).mono ?_
            rintro e w11 ⟨rfl, t11, m11⟩
            have e11 : dones ⟨s, 1, 0, u, u⟩ = true := rfl
            have H11 : Hid (Mine w w11 p ⟨s, 1, 0, 0, u⟩) := H10.out.step t11 m11
            rw [e11]
            clear t11 m11 H10 e11
            go_wp2_with fail
            refine (used_any _ _ H11.out.tab).mono ?_
            rintro e w12 ⟨rfl, rfl⟩
            have e12 : usedF ⟨s, 1, 0, 0, u⟩ 0 = 0 := rfl
            rw [e12]
            go_wp2_with fail
            refine (used_any _ _ H11.out.tab).mono ?_
            rintro e w13 ⟨rfl, rfl⟩
            have e13 : usedF ⟨s, 1, 0, 0, u⟩ 1 = (u : Int) := rfl
            rw [e13]
            have z2 : ((u : Int) != (u : Int)) = false := by simp
            clear e12 e13
            go_wp2_with fail
            refine (room_any _ H11.out.tab).mono ?_
            rintro e w14 ⟨rfl, k14⟩
            have e14 : roomF ⟨s, 1, 0, 0, u⟩ = (s : Int) - (u : Int) := by simp [roomF, CS.u]
            rw [e14]
            have z4 : ((s : Int) - (u : Int) != (s : Int) - (u : Int)) = false := by simp
            have H14 : Hid (Mine w w14 p (one 1 s u)) := H11.out.still k14
            clear k14 H11 e14
            go_wp2
            go_roundg (l - (j + 1))
            all_goals (have := HM.out; try omega)
            exact ⟨j + 1, u, 1, by go_num, rfl, by omega, rfl, by omega, by omega, H14.out⟩
          · rw [hL] at e0
            clear hL EX
            go_wp2_with fail
            refine (skip_any (u : Int) _ H9.out.tab).mono ?_
            rintro e w10 ⟨rfl, t10, m10⟩
            have H10 : Hid (Mine w w10 p ⟨s, 1, 0, u, 0⟩) := (H9.out.step t10 m10).eq (by simp [skipS, es])
            rw [es]
            clear t10 m10 H9 es e0
            go_wp2_with fail
            refine (done_any _ H10.out.tab).mono ?_
            rintro e w11 ⟨rfl, t11, m11⟩
            have e11 : dones ⟨s, 1, 0, u, 0⟩ = true := rfl
            have H11 : Hid (Mine w w11 p ⟨s, 1, 0, 0, 0⟩) := H10.out.step t11 m11
            rw [e11]
            clear t11 m11 H10 e11
            go_wp2_with fail
            refine (used_any _ _ H11.out.tab).mono ?_
            rintro e w12 ⟨rfl, rfl⟩
            have e12 : usedF ⟨s, 1, 0, 0, 0⟩ 0 = 0 := rfl
            rw [e12]
            go_wp2_with fail
            refine (used_any _ _ H11.out.tab).mono ?_
            rintro e w13 ⟨rfl, rfl⟩
            have e13 : usedF ⟨s, 1, 0, 0, 0⟩ 1 = 0 := rfl
            rw [e13]
            clear e12 e13
            go_wp2_with fail
            refine (room_any _ H11.out.tab).mono ?_
            rintro e w14 ⟨rfl, k14⟩
            have e14 : roomF ⟨s, 1, 0, 0, 0⟩ = (s : Int) := by simp [roomF, CS.u]
            rw [e14]
            have z4 : ((s : Int) != (s : Int)) = false := by simp
            have H14 : Hid (Mine w w14 p (one 1 s 0)) := H11.out.still k14
            clear k14 H11 e14
            go_wp2
            go_roundg (l - (j + 1))
            all_goals (have := HM.out; try omega)
            exact ⟨j + 1, 0, 1, by go_num, rfl, by omega, rfl, by omega, by omega, H14.out⟩
      · have HR0 : Hid (Mine w wr p ⟨s, 1, 0, 0, u⟩) := HR.out
        clear HR
        go_wp2_with fail
        refine (current_any _ HR0.out.tab).mono ?_
        rintro e w4 ⟨rfl, rfl⟩
        simp only [z1]
        go_wp2_with fail
        refine (turn_any _ HR0.out.tab).mono ?_
        rintro e w5 ⟨rfl, t5, m5⟩
        have H5 : Hid (Mine w w5 p ⟨s, 0, u, 0, u⟩) := HR0.out.step t5 m5
        have e5 : turns ⟨s, 1, 0, 0, u⟩ = true := rfl
        rw [e5]
        clear t5 m5 HR0 e5
        go_wp2_with fail
        refine (current_any _ H5.out.tab).mono ?_
        rintro e w6 ⟨rfl, rfl⟩
        simp only [z0]
        go_wp2_with fail
        refine (left_any _ H5.out.tab).mono ?_
        rintro e w7 ⟨rfl, rfl⟩
        have z2 : ((u : Int) != (u : Int)) = false := by simp
        go_wp2_with fail
        by_cases hu0 : u = 0
        · subst hu0
          refine (turn_any _ H5.out.tab).mono ?_
          rintro e w8 ⟨rfl, t8, m8⟩
          have H8 : Hid (Mine w w8 p ⟨s, 1, 0, 0, 0⟩) := H5.out.step t8 m8
          have e8 : turns ⟨s, 0, 0, 0, 0⟩ = true := rfl
          rw [e8]
          clear t8 m8 H5 e8 z2
          simp only [z0]
          go_wp2_with fail
          refine (first_any _).mono ?_
          rintro e w9 ⟨rfl, k9⟩
          have H9 : Hid (Mine w w9 p ⟨s, 1, 0, 0, 0⟩) := H8.out.still k9
          clear k9 H8
          go_wp2_with fail
          refine (done_any _ H9.out.tab).mono ?_
          rintro e w10 ⟨rfl, t10, m10⟩
          have H10 : Hid (Kept w w10) := (H9.out.step t10 m10).kept
          have e10 : dones ⟨s, 1, 0, 0, 0⟩ = true := rfl
          rw [e10]
          clear t10 m10 H9 e10
          go_wp2
          go_ret
          exact ⟨rfl, H10.out⟩
        · refine (turn_any _ H5.out.tab).mono ?_
          rintro e w8 ⟨rfl, t8, m8⟩
          have e8 : turns ⟨s, 0, u, 0, u⟩ = false := by simpa [turns, CS.o] using hu0
          have H8 : Hid (Mine w w8 p ⟨s, 0, u, 0, u⟩) := (H5.out.step t8 m8).eq (by simp [turnS, e8])
          rw [e8]
          clear t8 m8 H5 e8 z2
          have z3 : ((u : Int) == 0) = false := by simpa using hu0
          have e0 := EX.out w8 H8.out.kept
          go_wp2_with fail
          refine (done_any _ H8.out.tab).mono ?_
          rintro e w9 ⟨rfl, t9, m9⟩
          have e9 : dones ⟨s, 0, u, 0, u⟩ = false := by simpa [dones] using hu0
          have H9 : Hid (Mine w w9 p ⟨s, 0, u, 0, u⟩) := (H8.out.step t9 m9).eq (by simp [doneS, e9])
          rw [e9]
          clear t9 m9 H8 e9 z3 e0
          have e0 := EX.out w9 H9.out.kept
          have es : skips ⟨s, 0, u, 0, u⟩ (u : Int) = true := decide_eq_true (by simp; omega)
          cases hL : L j
          · rw [hL] at e0
            clear hL EX
            go_wp2_with fail
            refine (copy_any (u : Int) _ H9.out.tab).mono ?_
            rintro e w10 ⟨rfl, t10, m10⟩
            have ea : copyA ⟨s, 0, u, 0, u⟩ (u : Int) = 0 := by simp [copyA, es, CS.u]
            have H10 : Hid (Mine w w10 p ⟨s, 0, 0, u, u⟩) := (H9.out.step t10 m10).eq (by simp [copyS, es, putU])
            rw [ea, es]
            clear t10 m10 H9 ea es e0
            go_wp2_with fail
            refine (done_any _ H10.out.tab).mono ?_
            rintro e w11 ⟨rfl, t11, m11⟩
            have e11 : dones ⟨s, 0, 0, u, u⟩ = true := rfl
            have H11 : Hid (Mine w w11 p ⟨s, 0, 0, u, 0⟩) := H10.out.step t11 m11
            rw [e11]
            clear t11 m11 H10 e11
            go_wp2_with fail
            refine (used_any _ _ H11.out.tab).mono ?_
            rintro e w12 ⟨rfl, rfl⟩
            have e12 : usedF ⟨s, 0, 0, u, 0⟩ 1 = 0 := rfl
            rw [e12]
            go_wp2_with fail
            refine (used_any _ _ H11.out.tab).mono ?_
            rintro e w13 ⟨rfl, rfl⟩
            have e13 : usedF ⟨s, 0, 0, u, 0⟩ 0 = (u : Int) := rfl
            rw [e13]
            have z2 : ((u : Int) != (u : Int)) = false := by simp
            clear e12 e13
            go_wp2_with fail
            refine (room_any _ H11.out.tab).mono ?_
            rintro e w14 ⟨rfl, k14⟩
            have e14 : roomF ⟨s, 0, 0, u, 0⟩ = (s : Int) - (u : Int) := by simp [roomF, CS.u]
            rw [e14]
            have z4 : ((s : Int) - (u : Int) != (s : Int) - (u : Int)) = false := by simp
            have H14 : Hid (Mine w w14 p (one 0 s u)) := H11.out.still k14
            clear k14 H11 e14
            go_wp2
            go_roundg (l - (j + 1))
            all_goals (have := HM.out; try omega)
            exact ⟨j + 1, u, 0, by go_num, rfl, by omega, rfl, by omega, by omega, H14.out⟩
          · rw [hL] at e0
            clear hL EX
            go_wp2_with fail
            refine (skip_any (u : Int) _ H9.out.tab).mono ?_
            rintro e w10 ⟨rfl, t10, m10⟩
            have H10 : Hid (Mine w w10 p ⟨s, 0, 0, 0, u⟩) := (H9.out.step t10 m10).eq (by simp [skipS, es])
            rw [es]
            clear t10 m10 H9 es e0
            go_wp2_with fail
            refine (done_any _ H10.out.tab).mono ?_
            rintro e w11 ⟨rfl, t11, m11⟩
            have e11 : dones ⟨s, 0, 0, 0, u⟩ = true := rfl
            have H11 : Hid (Mine w w11 p ⟨s, 0, 0, 0, 0⟩) := H10.out.step t11 m11
            rw [e11]
            clear t11 m11 H10 e11
            go_wp2_with fail
            refine (used_any _ _ H11.out.tab).mono ?_
            rintro e w12 ⟨rfl, rfl⟩
            have e12 : usedF ⟨s, 0, 0, 0, 0⟩ 1 = 0 := rfl
            rw [e12]
            go_wp2_with fail
            refine (used_any _ _ H11.out.tab).mono ?_
            rintro e w13 ⟨rfl, rfl⟩
            have e13 : usedF ⟨s, 0, 0, 0, 0⟩ 0 = 0 := rfl
            rw [e13]
            clear e12 e13
            go_wp2_with fail
            refine (room_any _ H11.out.tab).mono ?_
            rintro e w14 ⟨rfl, k14⟩
            have e14 : roomF ⟨s, 0, 0, 0, 0⟩ = (s : Int) := by simp [roomF, CS.u]
            rw [e14]
            have z4 : ((s : Int) != (s : Int)) = false := by simp
            have H14 : Hid (Mine w w14 p (one 0 s 0)) := H11.out.still k14
            clear k14 H11 e14
            go_wp2
            go_roundg (l - (j + 1))
            all_goals (have := HM.out; try omega)
            exact ⟨j + 1, 0, 0, by go_num, rfl, by omega, rfl, by omega, by omega, H14.out⟩
    · obtain rfl : j = l := by omega
      go_wp2_with fail
      refine (first_any _).mono ?_
      rintro e w4 ⟨rfl, k4⟩
      have H4 : Hid (Kept w w4) := HR.out.kept.trans k4
      clear k4 HR
      go_wp2
      go_ret
      exact ⟨rfl, H4.out⟩

theorem coilTurns_any (n0 : Int) (n1 : Int) (x2 : Option Addr) (l2 c2 : Nat) (L2 : Nat → Bool) (w : World) (_lo0 : IntKind.min .i64 ≤ n0) (_hi0 : n0 ≤ IntKind.max .i64) (_lo1 : IntKind.min .i64 ≤ n1) (_hi1 : n1 ≤ IntKind.max .i64) (_h2c : l2 ≤ c2) (hL2 : Bools w x2 l2 L2) :
    Calls Try.prog 5 #[.int .i64 n0, .int .i64 n1, .slice x2 l2 c2] w fun e w' => e = .returned (.bool true) ∧ Kept w w' := by
  by_cases hs : 0 ≤ n0 ∧ n0 ≤ 2048
  · obtain ⟨s, rfl⟩ : ∃ s : Nat, n0 = s := ⟨n0.toNat, by omega⟩
    by_cases ho : n1 < 1 ∨ (1 ≤ n1 ∧ (s : Int) < n1) ∨ (1 ≤ n1 ∧ n1 ≤ (s : Int) ∧ 40 < (l2 : Int))
    · exact turns_out s n1 x2 l2 c2 w (by omega) ho
    · obtain ⟨n, rfl⟩ : ∃ n : Nat, n1 = n := ⟨n1.toNat, by omega⟩
      exact turns_in s n x2 l2 c2 L2 w hL2 (by omega) (by omega) (by omega) (by omega)
  · exact turns_bad n0 n1 x2 l2 c2 w hs
end Go.Proofs.Ytfddcfmgigaabaa
