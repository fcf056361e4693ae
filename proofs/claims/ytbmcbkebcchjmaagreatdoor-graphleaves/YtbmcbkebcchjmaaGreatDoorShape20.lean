/-
  Contracts of package shape's functions (May, Data, Size, Spine, Place and what they call): each answers as a plain function of the shape's kind, the number of its fields and the number asked for; what was there is kept.
-/
import Derived.Test.YtbmcbkebcchjmaaGreatDoorKept
namespace Go.Proofs.YtbmcbkebcchjmaaGreatDoor
open Go.RowKit

set_option maxHeartbeats 400000 in
theorem may_obj (x : Option Addr) (l c : Nat) (w : World) :
    Calls Tryz.prog 25 #[.agg #[.bool false, .slice x l c]] w fun e w' => e = .returned (.bool (decide ((l : Int) ≤ 40))) ∧ Kept w w' := by
  go_enter Tryz.func25, Tryz.ntmps25
  go_wp2
  go_ret
  exact ⟨rfl, (Kept.refl _).alloc _ _⟩

set_option maxHeartbeats 400000 in
theorem may_arr (x : Option Addr) (l c : Nat) (w : World) :
    Calls Tryz.prog 25 #[.agg #[.bool true, .slice x l c]] w fun e w' => e = .returned (.bool ((l : Int) == 1)) ∧ Kept w w' := by
  go_enter Tryz.func25, Tryz.ntmps25
  go_wp2
  go_ret
  exact ⟨rfl, (Kept.refl _).alloc _ _⟩

theorem may_some (b : Bool) (x : Option Addr) (l c : Nat) (w : World) :
    ∃ p : Bool, (p = true → b = false → l ≤ 40) ∧ Calls Tryz.prog 25 #[.agg #[.bool b, .slice x l c]] w fun e w' => e = .returned (.bool p) ∧ Kept w w' := by
  cases b
  · exact ⟨_, fun h _ => by simp at h; omega, may_obj x l c w⟩
  · exact ⟨_, fun _ h => by simp at h, may_arr x l c w⟩

set_option maxHeartbeats 400000 in
theorem round_up (n s r : Int) (w : World) (hn : 0 ≤ n) (hn2 : n ≤ 1000000) (hs : 1 ≤ s) (hs2 : s ≤ 1000000) (hr : (n + s - 1) / s = r) :
    Calls Tryz.prog 46 #[.int .i64 n, .int .i64 s] w fun e w' => e = .returned (.int .i64 r) ∧ w' = w := by
  have h1 : (n + s - 1).tdiv s = r := by rw [Int.tdiv_eq_ediv_of_nonneg (by omega)]; exact hr
  have h0 : 0 ≤ r := by rw [← hr]; exact Int.ediv_nonneg (by omega) (by omega)
  have h2 : r ≤ n + s - 1 := by rw [← hr]; exact Int.ediv_le_self _ (by omega)
  clear hr
  go_enter Tryz.func46, Tryz.ntmps46
  go_wp2
  go_ret
  refine ⟨?_, rfl⟩
  simp


set_option maxHeartbeats 400000 in
theorem data_in (n d : Int) (w : World) (h1 : 1 ≤ n) (h2 : n ≤ 512) (hd : (n + 7) / 8 = d) :
    Calls Tryz.prog 28 #[.int .i64 n] w fun e w' => e = .returned (.int .i64 d) ∧ w' = w := by
  have R : Hid (∀ w, Calls Tryz.prog 46 #[.int .i64 n, .int .i64 8] w _) := fun w => round_up n 8 d w (by omega) (by omega) (by omega) (by omega) (by omega)
  clear hd
  have h3 : ¬ n < 1 := by omega
  have h4 : ¬ n > 512 := by omega
  go_enter Tryz.func28, Tryz.ntmps28
  go_wp2_with fail
  refine (R.out _).mono ?_
  rintro e w' ⟨rfl, rfl⟩
  go_wp2
  go_ret
  exact ⟨rfl, rfl⟩

set_option maxHeartbeats 400000 in
theorem data_out (n : Int) (w : World) (h : n < 1 ∨ 512 < n) :
    Calls Tryz.prog 28 #[.int .i64 n] w fun e w' => e = .returned (.int .i64 0) ∧ w' = w := by
  by_cases h1 : n < 1
  · clear h
    go_enter Tryz.func28, Tryz.ntmps28
    go_wp2
    go_ret
    exact ⟨rfl, rfl⟩
  · have h2 : n > 512 := by omega
    clear h
    go_enter Tryz.func28, Tryz.ntmps28
    go_wp2
    go_ret
    exact ⟨rfl, rfl⟩

def dat (n : Int) : Int := if n < 1 ∨ 512 < n then 0 else (n + 7) / 8

theorem data_any (n : Int) (w : World) :
    Calls Tryz.prog 28 #[.int .i64 n] w fun e w' => e = .returned (.int .i64 (dat n)) ∧ w' = w := by
  unfold dat
  split
  · rename_i h; exact data_out n w h
  · exact data_in n _ w (by omega) (by omega) rfl

theorem dat_lo (n : Int) : 0 ≤ dat n := by unfold dat; split <;> omega
theorem dat_hi (n : Int) : dat n ≤ 64 := by unfold dat; split <;> omega

set_option maxHeartbeats 400000 in
theorem array_size_in (n : Int) (w : World) (h1 : 0 ≤ n) (h2 : n ≤ 512) :
    Calls Tryz.prog 26 #[.int .i64 n] w fun e w' => e = .returned (.int .i64 (1 + dat n)) ∧ w' = w := by
  have R : Hid (∀ w, Calls Tryz.prog 28 #[.int .i64 n] w _) := fun w => data_any n w
  have l1 := dat_lo n
  have l2 := dat_hi n
  generalize dat n = d at *
  have h3 : ¬ n < 0 := by omega
  have h4 : ¬ n > 512 := by omega
  go_enter Tryz.func26, Tryz.ntmps26
  go_wp2_with fail
  refine (R.out _).mono ?_
  rintro e w' ⟨rfl, rfl⟩
  go_wp2
  go_ret
  exact ⟨rfl, rfl⟩

set_option maxHeartbeats 400000 in
theorem array_size_out (n : Int) (w : World) (h : n < 0 ∨ 512 < n) :
    Calls Tryz.prog 26 #[.int .i64 n] w fun e w' => e = .returned (.int .i64 (-1)) ∧ w' = w := by
  by_cases h1 : n < 0
  · clear h
    go_enter Tryz.func26, Tryz.ntmps26
    go_wp2
    go_ret
    exact ⟨rfl, rfl⟩
  · have h2 : n > 512 := by omega
    clear h
    go_enter Tryz.func26, Tryz.ntmps26
    go_wp2
    go_ret
    exact ⟨rfl, rfl⟩

def arrSize (n : Int) : Int := if n < 0 ∨ 512 < n then -1 else 1 + dat n

theorem array_size_any (n : Int) (w : World) :
    Calls Tryz.prog 26 #[.int .i64 n] w fun e w' => e = .returned (.int .i64 (arrSize n)) ∧ w' = w := by
  unfold arrSize
  split
  · rename_i h; exact array_size_out n w h
  · exact array_size_in n w (by omega) (by omega)

set_option maxHeartbeats 400000 in
theorem object_size (l : Nat) (s : Int) (w : World) (h : l ≤ 40) (hs : 1 + (l : Int) / 7 = s) :
    Calls Tryz.prog 27 #[.int .i64 l] w fun e w' => e = .returned (.int .i64 s) ∧ w' = w := by
  by_cases h6 : (l : Int) ≤ 6
  · have e1 : s = 1 := by omega
    subst e1
    clear hs
    go_enter Tryz.func27, Tryz.ntmps27
    go_wp2
    go_ret
    exact ⟨rfl, rfl⟩
  · have R : Hid (∀ w, Calls Tryz.prog 46 #[.int .i64 ((l : Int) - 6), .int .i64 7] w _) := fun w => round_up ((l : Int) - 6) 7 (s - 1) w (by omega) (by omega) (by omega) (by omega) (by omega)
    have b1 : 1 ≤ s := by omega
    have b2 : s ≤ 10 := by omega
    clear hs
    go_enter Tryz.func27, Tryz.ntmps27
    go_wp2_with fail
    refine (R.out _).mono ?_
    rintro e w' ⟨rfl, rfl⟩
    go_wp2
    go_ret
    refine ⟨?_, rfl⟩
    rw [show (1 : Int) + (s - 1) = s by omega]
    rfl

set_option maxHeartbeats 400000 in
theorem size_obj (x : Option Addr) (l c : Nat) (s : Int) (w : World) (h : l ≤ 40) (hs : 1 + (l : Int) / 7 = s) :
    Calls Tryz.prog 11 #[.agg #[.bool false, .slice x l c], .int .i64 0] w fun e w' => e = .returned (.int .i64 s) ∧ Kept w w' := by
  have M : Hid (∀ w, Calls Tryz.prog 25 #[.agg #[.bool false, .slice x l c]] w fun e w' => e = .returned (.bool true) ∧ Kept w w') := fun w => by
    have := may_obj x l c w
    rwa [decide_eq_true (by omega : (l : Int) ≤ 40)] at this
  have O : Hid (∀ w, Calls Tryz.prog 27 #[.int .i64 l] w _) := fun w => object_size l s w h hs
  clear hs
  go_enter Tryz.func11, Tryz.ntmps11
  go_wp2_with fail
  refine (M.out _).mono ?_
  rintro e w' ⟨rfl, hk⟩
  have c0 := hk.own 0
  have c1 := hk.own 1
  simp only [List.getElem?_toArray, List.getElem?_cons_zero, List.getElem?_cons_succ] at c0 c1
  go_wp2_with fail
  refine (O.out _).mono ?_
  rintro e w' ⟨rfl, rfl⟩
  go_wp2
  go_ret
  exact ⟨rfl, hk.ofAlloc⟩

set_option maxHeartbeats 400000 in
theorem size_arr (x : Option Addr) (c : Nat) (n : Int) (w : World) :
    Calls Tryz.prog 11 #[.agg #[.bool true, .slice x 1 c], .int .i64 n] w fun e w' => e = .returned (.int .i64 (arrSize n)) ∧ Kept w w' := by
  have M : Hid (∀ w, Calls Tryz.prog 25 #[.agg #[.bool true, .slice x 1 c]] w fun e w' => e = .returned (.bool true) ∧ Kept w w') := fun w => may_arr x 1 c w
  have O : Hid (∀ w, Calls Tryz.prog 26 #[.int .i64 n] w _) := fun w => array_size_any n w
  go_enter Tryz.func11, Tryz.ntmps11
  go_wp2_with fail
  refine (M.out _).mono ?_
  rintro e w' ⟨rfl, hk⟩
  have c0 := hk.own 0
  have c1 := hk.own 1
  simp only [List.getElem?_toArray, List.getElem?_cons_zero, List.getElem?_cons_succ] at c0 c1
  go_wp2_with fail
  refine (O.out _).mono ?_
  rintro e w' ⟨rfl, rfl⟩
  go_wp2
  go_ret
  exact ⟨rfl, hk.ofAlloc⟩

def spineOf (n : Int) : Int := if dat n ≤ 4 then 0 else dat n + 2

set_option maxHeartbeats 400000 in
theorem spine_arr (x : Option Addr) (c : Nat) (n : Int) (w : World) :
    Calls Tryz.prog 12 #[.agg #[.bool true, .slice x 1 c], .int .i64 n] w fun e w' => e = .returned (.int .i64 (spineOf n)) ∧ Kept w w' := by
  have M : Hid (∀ w, Calls Tryz.prog 25 #[.agg #[.bool true, .slice x 1 c]] w fun e w' => e = .returned (.bool true) ∧ Kept w w') := fun w => may_arr x 1 c w
  have D : Hid (∀ w, Calls Tryz.prog 28 #[.int .i64 n] w _) := fun w => data_any n w
  have l1 := dat_lo n
  have l2 := dat_hi n
  unfold spineOf
  generalize dat n = d at *
  by_cases h4 : d ≤ 4
  · simp only [h4, if_true]
    go_enter Tryz.func12, Tryz.ntmps12
    go_wp2_with fail
    refine (M.out _).mono ?_
    rintro e w' ⟨rfl, hk⟩
    go_wp2_with fail
    refine (D.out _).mono ?_
    rintro e w' ⟨rfl, rfl⟩
    go_wp2
    go_ret
    exact ⟨rfl, hk.ofAlloc⟩
  · simp only [h4, if_false]
    go_enter Tryz.func12, Tryz.ntmps12
    go_wp2_with fail
    refine (M.out _).mono ?_
    rintro e w' ⟨rfl, hk⟩
    go_wp2_with fail
    refine (D.out _).mono ?_
    rintro e w' ⟨rfl, rfl⟩
    go_wp2
    go_ret
    exact ⟨rfl, hk.ofAlloc⟩

set_option maxHeartbeats 400000 in
theorem spine_obj (x : Option Addr) (l c : Nat) (n : Int) (w : World) :
    Calls Tryz.prog 12 #[.agg #[.bool false, .slice x l c], .int .i64 n] w fun e w' => e = .returned (.int .i64 0) ∧ Kept w w' := by
  go_enter Tryz.func12, Tryz.ntmps12
  go_wp2
  go_ret
  exact ⟨rfl, (Kept.refl _).alloc _ _⟩

end Go.Proofs.YtbmcbkebcchjmaaGreatDoor
