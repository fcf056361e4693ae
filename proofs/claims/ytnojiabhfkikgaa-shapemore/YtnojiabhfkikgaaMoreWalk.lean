/-
  ShapeMore's walk.
-/
import Derived.Test.YtnojiabhfkikgaaFirst
import Derived.Outline
import Derived.RegionTactic
import Derived.Deep.RegionWith
import Derived.BigRegion
import Derived.Deep.LoopGhost
namespace Go.Proofs.Ytnojiabhfkikgaa
open Go.RowKit

set_option maxHeartbeats 4000000 in
theorem more_in (x : Option Addr) (n l c : Nat) (w : World) (X Y v : Int) (h1 : n + 1 ≤ l) (h2 : l ≤ 1000) (h3 : l ≤ c) (h : n < 40)
    (hx0 : 1 ≤ X) (hx1 : X ≤ 10) (hy0 : 1 ≤ Y) (hy1 : Y ≤ 10) (hxy : ¬ Y < X) (hyx : ¬ Y > X + 1) (hv : v ≥ 1) (b : Bool) (hb : (Y == X) = b)
    (SX : Hid (∀ w, Calls Try.prog 10 #[.agg #[.bool false, .slice x n c], .int .i64 0] w fun e w' => e = .returned (.int .i64 X) ∧ Kept w w'))
    (SY : Hid (∀ w, Calls Try.prog 10 #[.agg #[.bool false, .slice x (n + 1 : Nat) c], .int .i64 0] w fun e w' => e = .returned (.int .i64 Y) ∧ Kept w w'))
    (PN : Hid (∀ w, Calls Try.prog 11 #[.agg #[.bool false, .slice x (n + 1 : Nat) c], .int .i64 n] w fun e w' => e = .returned (.tuple #[.int .i64 (Y - 1), .int .i64 v, .bool true]) ∧ Kept w w'))
    (PA : Hid (∀ k : Int, 0 ≤ k → k < n → ∃ i u : Int, (∀ w, Calls Try.prog 11 #[.agg #[.bool false, .slice x n c], .int .i64 k] w fun e w' => e = .returned (.tuple #[.int .i64 i, .int .i64 u, .bool true]) ∧ Kept w w')
      ∧ ∀ w, Calls Try.prog 11 #[.agg #[.bool false, .slice x (n + 1 : Nat) c], .int .i64 k] w fun e w' => e = .returned (.tuple #[.int .i64 i, .int .i64 u, .bool true]) ∧ Kept w w'))
    (SP : Hid (∀ w, Calls Try.prog 13 #[.agg #[.bool false, .slice x n c], .int .i64 n] w fun e w' => e = .returned (.int .i64 0) ∧ Kept w w')) :
    Calls Try.prog 5 #[.int .i64 n, .slice x l c] w fun e w' => e = .returned (.bool true) ∧ Kept w w' := by
  have t0 : ¬ (n : Int) < 0 := by omega
  have t1 : ¬ (n : Int) ≥ 40 := by omega
  have t2 : ¬ (l : Int) < n + 1 := by omega
  have t3 : ¬ (l : Int) > 1000 := by omega
  go_enter Try.func5, Try.ntmps5
  go_wp2_with fail
  refine (first_any _).mono ?_
  rintro e w1 ⟨rfl, k1⟩
  go_wp2_with fail
  go_region
  all_goals go_wp2_with fail
  generalize hW : ((w1.alloc (Obj.cells #[Value.bool false, Value.slice x n c] 24)).alloc (Obj.cells #[Value.bool false, Value.slice x (n + 1) c] 24)).drew = W
  have s0 : w1.heap.size < W.heap.size := by rw [← hW]; simp; omega
  have s1 : w1.heap.size + 1 < W.heap.size := by rw [← hW]; simp
  have a0 : W.cell? ⟨w1.heap.size, 0, none⟩ = some (.bool false) := by rw [← hW]; simp
  have a1 : W.cell? ⟨w1.heap.size, 1, none⟩ = some (.slice x n c) := by rw [← hW]; simp
  have b0 : W.cell? ⟨w1.heap.size + 1, 0, none⟩ = some (.bool false) := by rw [← hW]; simp
  have b1 : W.cell? ⟨w1.heap.size + 1, 1, none⟩ = some (.slice x (n + 1) c) := by rw [← hW]; simp
  have A0 : Hid (∀ x : KW W, _) := fun x : KW W => x.cell s0 a0
  have A1 : Hid (∀ x : KW W, _) := fun x : KW W => x.cell s0 a1
  have B0 : Hid (∀ x : KW W, _) := fun x : KW W => x.cell s1 b0
  have B1 : Hid (∀ x : KW W, _) := fun x : KW W => x.cell s1 b1
  have k2 : Kept w W := by rw [← hW]; exact ((k1.alloc _ _).alloc _ _).drew
  rotate_left
  generalize hW : ((w1.alloc (Obj.cells #[Value.bool false, Value.slice x (n + 1) c] 24)).alloc (Obj.cells #[Value.bool false, Value.slice x n c] 24)).drew = W
  have s0 : w1.heap.size < W.heap.size := by rw [← hW]; simp; omega
  have s1 : w1.heap.size + 1 < W.heap.size := by rw [← hW]; simp
  have b0 : W.cell? ⟨w1.heap.size, 0, none⟩ = some (.bool false) := by rw [← hW]; simp
  have b1 : W.cell? ⟨w1.heap.size, 1, none⟩ = some (.slice x (n + 1) c) := by rw [← hW]; simp
  have a0 : W.cell? ⟨w1.heap.size + 1, 0, none⟩ = some (.bool false) := by rw [← hW]; simp
  have a1 : W.cell? ⟨w1.heap.size + 1, 1, none⟩ = some (.slice x n c) := by rw [← hW]; simp
  have A0 : Hid (∀ x : KW W, _) := fun x : KW W => x.cell s1 a0
  have A1 : Hid (∀ x : KW W, _) := fun x : KW W => x.cell s1 a1
  have B0 : Hid (∀ x : KW W, _) := fun x : KW W => x.cell s0 b0
  have B1 : Hid (∀ x : KW W, _) := fun x : KW W => x.cell s0 b1
  have k2 : Kept w W := by rw [← hW]; exact ((k1.alloc _ _).alloc _ _).drew
  rotate_left
  all_goals
    clear hW k1 a0 a1 b0 b1 s0 s1
    have d0 := A0.out
    have d1 := A1.out
    have d2 := B0.out
    have d3 := B1.out
    refine wp_region_kept (by kernel_rfl) (by kernel_rfl) fun _ => ?_
    repeat (go_big_quiet_step (first | (go_at_call_of 10 (Value.slice x n c); exact kept_of (SX.out _)) | (go_at_call 10; exact kept_of (SY.out _))))
    refine wpQuiet_nil ?_
    rintro _ ⟨z, rfl⟩
    clear d0 d1 d2 d3
    go_wp2_with fail
    go_loopg [9] n (fun m i wr => ∃ k : Int, i = .int .i64 k ∧ 0 ≤ k ∧ k ≤ n ∧ (m : Int) = n - k ∧ Hid (Kept W wr))
    case atStart => exact ⟨0, rfl, by omega, by omega, by omega, z.ok⟩
    case round =>
      obtain ⟨k, rfl, hk0, hk1, hm, KK⟩ := hrel
      have HM : Hid _ := hm
      clear hm
      by_cases hlt : k < (n : Int)
      · have a0 := A0.out ⟨wr, KK.out⟩
        have a1 := A1.out ⟨wr, KK.out⟩
        obtain ⟨i, u, PL, PR⟩ := PA.out k hk0 hlt
        have PL : Hid _ := PL
        have PR : Hid _ := PR
        go_wp2_with fail
        refine (PL.out _).mono ?_
        rintro e w3 ⟨rfl, K3⟩
        have K4 : Hid (Kept W w3) := KK.out.trans K3
        have b0 := B0.out ⟨w3, K4.out⟩
        have b1 := B1.out ⟨w3, K4.out⟩
        clear K3 a0 a1
        go_wp2_with fail
        refine (PR.out _).mono ?_
        rintro e w5 ⟨rfl, K5⟩
        have K6 : Hid (Kept W w5) := K4.out.trans K5
        clear K5 b0 b1
        go_wp2
        go_roundg (gk - 1)
        case measure => have := HM.out; omega
        case rel => have := HM.out; exact ⟨k + 1, by go_num, by omega, by omega, by omega, K6⟩
      · have b0 := B0.out ⟨wr, KK.out⟩
        have b1 := B1.out ⟨wr, KK.out⟩
        go_wp2_with fail
        refine (PN.out _).mono ?_
        rintro e w3 ⟨rfl, K3⟩
        have K4 : Hid (Kept W w3) := KK.out.trans K3
        clear K3 b0 b1
        have a0 := A0.out ⟨w3, K4.out⟩
        have a1 := A1.out ⟨w3, K4.out⟩
        go_wp2_with fail
        refine (first_any _).mono ?_
        rintro e w4 ⟨rfl, K5⟩
        have K6 : Hid (Kept W w4) := K4.out.trans K5
        clear K5 a0 a1
        have a0 := A0.out ⟨w4, K6.out⟩
        have a1 := A1.out ⟨w4, K6.out⟩
        cases b
        all_goals
          go_wp2_with fail
          refine (SP.out _).mono ?_
          rintro e w6 ⟨rfl, K7⟩
          go_wp2
          go_ret
          exact ⟨rfl, k2.trans (K6.out.trans K7)⟩

set_option maxHeartbeats 1000000 in
theorem more_out (x : Option Addr) (n : Int) (l c : Nat) (w : World) (h : n < 0 ∨ 40 ≤ n ∨ (l : Int) < n + 1 ∨ 1000 < l) :
    Calls Try.prog 5 #[.int .i64 n, .slice x l c] w fun e w' => e = .returned (.bool true) ∧ Kept w w' := by
  by_cases h0 : n < 0
  · clear h
    go_enter Try.func5, Try.ntmps5
    go_wp2_with fail
    refine (first_any _).mono ?_
    rintro e w1 ⟨rfl, k1⟩
    go_wp2_with fail
    refine (first_any _).mono ?_
    rintro e w2 ⟨rfl, k2⟩
    go_wp2
    go_ret
    exact ⟨rfl, k1.trans k2⟩
  by_cases h1 : n ≥ 40
  · clear h
    go_enter Try.func5, Try.ntmps5
    go_wp2_with fail
    refine (first_any _).mono ?_
    rintro e w1 ⟨rfl, k1⟩
    go_wp2_with fail
    refine (first_any _).mono ?_
    rintro e w2 ⟨rfl, k2⟩
    go_wp2
    go_ret
    exact ⟨rfl, k1.trans k2⟩
  by_cases h2 : (l : Int) < n + 1
  · clear h
    go_enter Try.func5, Try.ntmps5
    go_wp2_with fail
    refine (first_any _).mono ?_
    rintro e w1 ⟨rfl, k1⟩
    go_wp2_with fail
    refine (first_any _).mono ?_
    rintro e w2 ⟨rfl, k2⟩
    go_wp2
    go_ret
    exact ⟨rfl, k1.trans k2⟩
  · have h3 : (l : Int) > 1000 := by omega
    clear h
    go_enter Try.func5, Try.ntmps5
    go_wp2_with fail
    refine (first_any _).mono ?_
    rintro e w1 ⟨rfl, k1⟩
    go_wp2_with fail
    refine (first_any _).mono ?_
    rintro e w2 ⟨rfl, k2⟩
    go_wp2
    go_ret
    exact ⟨rfl, k1.trans k2⟩

theorem more_any (x : Option Addr) (n : Int) (l c : Nat) (w : World) (hc : l ≤ c) :
    Calls Try.prog 5 #[.int .i64 n, .slice x l c] w fun e w' => e = .returned (.bool true) ∧ Kept w w' := by
  by_cases h : n < 0 ∨ 40 ≤ n ∨ (l : Int) < n + 1 ∨ 1000 < l
  · exact more_out x n l c w h
  · obtain ⟨m, rfl⟩ : ∃ m : Nat, n = m := ⟨n.toNat, by omega⟩
    have e1 : ((m + 1 : Nat) : Int) = (m : Int) + 1 := by omega
    refine more_in x m l c w (1 + (m : Int) / 7) (1 + ((m : Int) + 1) / 7) (1 + ((m : Int) + 1) % 7) (by omega) (by omega) hc (by omega) (by omega) (by omega) (by omega) (by omega) (by omega) (by omega) (by omega) _ rfl
      (fun w => size_obj x m c _ w (by omega) rfl) (fun w => size_obj x (m + 1) c _ w (by omega) (by rw [e1])) (fun w => place_in x (m + 1) c m _ _ w (by omega) (by omega) (by omega) (by omega) rfl)
      (fun k h0 h1 => ⟨(k + 1) / 7, 1 + (k + 1) % 7, fun w => place_in x m c k _ _ w (by omega) h0 h1 rfl rfl, fun w => place_in x (m + 1) c k _ _ w (by omega) h0 (by omega) rfl rfl⟩) (fun w => spine_obj x m c m w)
end Go.Proofs.Ytnojiabhfkikgaa
