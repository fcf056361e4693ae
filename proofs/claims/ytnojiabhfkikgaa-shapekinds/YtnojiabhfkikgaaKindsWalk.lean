/-
  ShapeKinds's walk.
-/
import Derived.Test.YtnojiabhfkikgaaFirst
import Derived.Outline
import Derived.Deep.LoopGhost
namespace Go.Proofs.Ytnojiabhfkikgaa
open Go.RowKit

set_option maxHeartbeats 1000000 in
theorem kinds_in (x y : Option Addr) (l c d : Nat) (w : World) (h : l ≤ 40) :
    Calls Try.prog 6 #[.slice x l c, .slice y l d] w fun e w' => e = .returned (.bool true) ∧ Kept w w' := by
  have h0 : ¬ (l : Int) > 40 := by omega
  have S : Hid (∀ x c w, Calls Try.prog 10 #[.agg #[.bool false, .slice x l c], .int .i64 0] w _) := fun x c w => size_obj x l c (1 + (l : Int) / 7) w h rfl
  generalize 1 + (l : Int) / 7 = s at S
  have M : Hid (∀ x c w, Calls Try.prog 9 #[.agg #[.bool false, .slice x l c]] w fun e w' => e = .returned (.bool true) ∧ Kept w w') := fun x c w => by
    have := may_obj x l c w
    rwa [decide_eq_true (by omega : (l : Int) ≤ 40)] at this
  go_enter Try.func6, Try.ntmps6
  go_wp2_with fail
  refine (first_any _).mono ?_
  rintro e w1 ⟨rfl, k1⟩
  go_wp2_with fail
  generalize hW : (w1.alloc (Obj.cells #[Value.bool false, Value.slice x l c] 24)).alloc (Obj.cells #[Value.bool false, Value.slice y l d] 24) = W
  have s0 : w1.heap.size < W.heap.size := by rw [← hW]; simp; omega
  have s1 : w1.heap.size + 1 < W.heap.size := by rw [← hW]; simp
  have a0 : W.cell? ⟨w1.heap.size, 0, none⟩ = some (.bool false) := by rw [← hW]; simp
  have a1 : W.cell? ⟨w1.heap.size, 1, none⟩ = some (.slice x l c) := by rw [← hW]; simp
  have b0 : W.cell? ⟨w1.heap.size + 1, 0, none⟩ = some (.bool false) := by rw [← hW]; simp
  have b1 : W.cell? ⟨w1.heap.size + 1, 1, none⟩ = some (.slice y l d) := by rw [← hW]; simp
  have k2 : Kept w W := by rw [← hW]; exact (k1.alloc _ _).alloc _ _
  have A0 : Hid (∀ x : KW W, _) := fun x : KW W => x.cell s0 a0
  have A1 : Hid (∀ x : KW W, _) := fun x : KW W => x.cell s0 a1
  have B0 : Hid (∀ x : KW W, _) := fun x : KW W => x.cell s1 b0
  have B1 : Hid (∀ x : KW W, _) := fun x : KW W => x.cell s1 b1
  clear hW k1 a0 a1 b0 b1 s0 s1
  have d0 := A0.out
  have d1 := A1.out
  have d2 := B0.out
  have d3 := B1.out
  refine wp_region_kept (by kernel_rfl) (by kernel_rfl) fun _ => ?_
  repeat (go_big_quiet_step (first | (go_at_call 9; exact kept_of (M.out _ _ _)) | (go_at_call 10; exact kept_of (S.out _ _ _))))
  refine wpQuiet_nil ?_
  rintro _ ⟨z, rfl⟩
  clear d0 d1 d2 d3
  go_wp2_with fail
  go_loopg [7] (l + 2) (fun m i wr => ∃ k : Int, i = .int .i64 k ∧ -1 ≤ k ∧ k ≤ l + 1 ∧ (m : Int) = l + 1 - k ∧ Hid (Kept W wr))
  case atStart => exact ⟨-1, rfl, by omega, by omega, by omega, z.ok⟩
  case round =>
    obtain ⟨k, rfl, hk0, hk1, hm, KK⟩ := hrel
    have HM : Hid _ := hm
    clear hm
    by_cases hlt : k ≤ (l : Int)
    · have a0 := A0.out ⟨wr, KK.out⟩
      have a1 := A1.out ⟨wr, KK.out⟩
      obtain ⟨i, v, p, hp, PL⟩ : ∃ (i v : Int) (p : Bool), p = (decide (0 ≤ k) && decide (k < l)) ∧ ∀ x c w, Calls Try.prog 11 #[.agg #[.bool false, .slice x l c], .int .i64 k] w fun e w' => e = .returned (.tuple #[.int .i64 i, .int .i64 v, .bool p]) ∧ Kept w w' := by
        by_cases hin : 0 ≤ k ∧ k < l
        · exact ⟨_, _, true, by simp [hin], fun x c w => place_in x l c k _ _ w h hin.1 hin.2 rfl rfl⟩
        · refine ⟨_, _, false, ?_, fun x c w => place_out x l c k w h (by omega)⟩
          rw [← Bool.decide_and, decide_eq_false hin]
      have PL : Hid _ := PL
      have HP : Hid _ := hp
      clear hp
      go_wp2_with fail
      refine (PL.out _ _ _).mono ?_
      rintro e w3 ⟨rfl, K3⟩
      have K4 : Hid (Kept W w3) := KK.out.trans K3
      have b0 := B0.out ⟨w3, K4.out⟩
      have b1 := B1.out ⟨w3, K4.out⟩
      clear K3 a0 a1
      go_wp2_with fail
      refine (PL.out _ _ _).mono ?_
      rintro e w5 ⟨rfl, K5⟩
      have K6 : Hid (Kept W w5) := K4.out.trans K5
      clear K5 b0 b1
      have hp := HP.out
      by_cases g0 : 0 ≤ k
      · by_cases g1 : k < (l : Int)
        · obtain rfl : p = true := by rw [hp]; simp [g0, g1]
          clear hp
          go_wp2
          go_roundg (gk - 1)
          case measure => have := HM.out; omega
          case rel => have := HM.out; exact ⟨k + 1, by go_num, by omega, by omega, by omega, K6⟩
        · obtain rfl : p = false := by rw [hp]; simp [g1]
          clear hp
          go_wp2
          go_roundg (gk - 1)
          case measure => have := HM.out; omega
          case rel => have := HM.out; exact ⟨k + 1, by go_num, by omega, by omega, by omega, K6⟩
      · obtain rfl : p = false := by rw [hp]; simp [g0]
        clear hp
        go_wp2
        go_roundg (gk - 1)
        case measure => have := HM.out; omega
        case rel => have := HM.out; exact ⟨k + 1, by go_num, by omega, by omega, by omega, K6⟩
    · go_wp2_with fail
      refine (first_any _).mono ?_
      rintro e w6 ⟨rfl, K7⟩
      go_wp2
      go_ret
      exact ⟨rfl, k2.trans (KK.out.trans K7)⟩

set_option maxHeartbeats 1000000 in
theorem kinds_out (x y : Option Addr) (l m c d : Nat) (w : World) (h : l ≠ m ∨ 40 < l) :
    Calls Try.prog 6 #[.slice x l c, .slice y m d] w fun e w' => e = .returned (.bool true) ∧ Kept w w' := by
  by_cases h1 : l = m
  · subst h1
    have h2 : (l : Int) > 40 := by omega
    clear h
    go_enter Try.func6, Try.ntmps6
    go_wp2_with fail
    refine (first_any _).mono ?_
    rintro e w1 ⟨rfl, k1⟩
    go_wp2_with fail
    refine (first_any _).mono ?_
    rintro e w2 ⟨rfl, k2⟩
    go_wp2
    go_ret
    exact ⟨rfl, k1.trans k2⟩
  · have h2 : ((l : Int) != m) = true := by simp; omega
    clear h h1
    go_enter Try.func6, Try.ntmps6
    go_wp2_with fail
    refine (first_any _).mono ?_
    rintro e w1 ⟨rfl, k1⟩
    go_wp2_with fail
    refine (first_any _).mono ?_
    rintro e w2 ⟨rfl, k2⟩
    go_wp2
    go_ret
    exact ⟨rfl, k1.trans k2⟩

theorem kinds_any (x y : Option Addr) (l m c d : Nat) (w : World) :
    Calls Try.prog 6 #[.slice x l c, .slice y m d] w fun e w' => e = .returned (.bool true) ∧ Kept w w' := by
  by_cases h : l ≠ m ∨ 40 < l
  · exact kinds_out x y l m c d w h
  · obtain rfl : l = m := by omega
    exact kinds_in x y l c d w (by omega)
end Go.Proofs.Ytnojiabhfkikgaa
