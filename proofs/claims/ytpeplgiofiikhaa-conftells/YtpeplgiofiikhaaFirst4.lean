/-
  The laws' own 'first' of package spolaw4 returns true; what was there is kept.
-/
import Derived.Test.YtpeplgiofiikhaaConf
import Derived.Laws.BitsLemmas
namespace Go.Proofs.Ytpeplgiofiikhaa
open Go.RowKit

theorem i64_and7 (n : Int) : bits .and .i64 n 7 = n % 8 := by
  have h7 : (BitVec.ofInt 64 7).toNat = 2 ^ 3 - 1 := by decide
  have key : (BitVec.ofInt 64 n &&& BitVec.ofInt 64 7).toNat = (n % ((2 ^ 64 : Nat) : Int)).toNat % 2 ^ 3 := by
    rw [BitVec.toNat_and, BitVec.toNat_ofInt, h7, Nat.and_two_pow_sub_one_eq_mod]
  show IntKind.i64.wrap ((BitVec.ofInt 64 n &&& BitVec.ofInt 64 7).toNat : Nat) = n % 8
  rw [key, IntKind.wrap_i64]
  omega

theorem and7_none {n : Int} (g0 : (bits .and .i64 n 7 == 0) = false) (g1 : (bits .and .i64 n 7 == 1) = false) (g2 : (bits .and .i64 n 7 == 2) = false) (g3 : (bits .and .i64 n 7 == 3) = false)
    (g4 : (bits .and .i64 n 7 == 4) = false) (g5 : (bits .and .i64 n 7 == 5) = false) (g6 : (bits .and .i64 n 7 == 6) = false) (g7 : (bits .and .i64 n 7 == 7) = false) : False := by
  rw [i64_and7] at g0 g1 g2 g3 g4 g5 g6 g7
  simp only [beq_eq_false_iff_ne, ne_eq] at g0 g1 g2 g3 g4 g5 g6 g7
  omega

/-- One shape that lies in a block of its own. -/
theorem shps_one {w : World} {b : Nat} (s : Sh) (hb : b < w.heap.size) (h0 : w.cell? ⟨b, 0, none⟩ = some (.bool s.arr)) (h1 : w.cell? ⟨b, 1, none⟩ = some (.slice s.x s.l s.c)) : Shps w (some ⟨b, 0, none⟩) 1 (fun _ => s) := fun _ =>
  ⟨b, 0, rfl, hb, fun i hi => by
    obtain rfl : i = 0 := by omega
    exact ⟨h0, h1⟩⟩

theorem mays_one (s : Sh) (h : s.may = true) : Mays 1 (fun _ => s) := ⟨by omega, by omega, fun _ _ => h⟩

set_option maxHeartbeats 1000000 in
theorem first_any (w : World) : Calls Try.prog 8 #[] w fun e w' => e = .returned (.bool true) ∧ Kept w w' := by
  have C0 : Hid (∀ w x, Shps w x 1 (fun _ => ⟨false, none, 0, 0⟩) → _) := fun w x h => check_any 4 0 0 1 1 0 1 0 x 1 1 _ 0 w h ⟨fun n => absurd (by unfold Fits; decide) n, fun _ n => absurd (mays_one _ (by decide)) n, fun _ _ => rfl⟩
  have C1 : Hid (∀ w x, Shps w x 1 (fun _ => ⟨false, none, 0, 0⟩) → _) := fun w x h => check_any 3 0 0 1 1 0 1 0 x 1 1 _ 1 w h ⟨fun _ => rfl, fun n => absurd n (by unfold Fits; decide), fun n => absurd n (by unfold Fits; decide)⟩
  go_enter Try.func8, Try.ntmps8
  go_wp2_with fail
  generalize hW0 : w.alloc (Obj.cells #[Value.bool false, Value.slice none 0 0] 29) = W0
  have S0 : Hid (Shps W0 (some ⟨w.heap.size, 0, none⟩) 1 (fun _ => ⟨false, none, 0, 0⟩)) := by
    rw [← hW0]
    exact shps_one ⟨false, none, 0, 0⟩ (by simp) (by simp) (by simp)
  have k0 : Hid (Kept w W0) := by rw [← hW0]; exact (Kept.refl w).alloc _ _
  have hz : w.heap.size + 1 = W0.heap.size := by rw [← hW0]; simp
  rw [hz]
  clear hW0 hz
  generalize hW1 : W0.alloc _ = W1
  have B1 : Hid (Blk W1 W0.heap.size (cl 4 0 0 1 1 0 1 0 (.slice (some ⟨w.heap.size, 0, none⟩) 1 1))) := by rw [← hW1]; exact Blk.new W0 _ _
  have K1 : Hid (Kept W0 W1) := by rw [← hW1]; exact (Kept.refl W0).alloc _ _
  clear hW1
  refine (C0.out _ _ (S0.out.kept K1.out)).mono ?_
  rintro e w2 ⟨rfl, K⟩
  have B2 : Hid (Blk w2 W0.heap.size _) := B1.out.kept K
  have K2 : Hid (Kept W0 w2) := K1.out.trans K
  clear K K1 B1
  have c0 := B2.out.at 0 rfl
  have c1 := B2.out.at 1 rfl
  have c2 := B2.out.at 2 rfl
  have c3 := B2.out.at 3 rfl
  have c4 := B2.out.at 4 rfl
  have c5 := B2.out.at 5 rfl
  have c6 := B2.out.at 6 rfl
  have c7 := B2.out.at 7 rfl
  have c8 := B2.out.at 8 rfl
  have f0 := B2.out.fz 0
  go_wp2_with fail
  generalize hW3 : w2.setCell _ _ = W3
  have K3 : Hid (Kept W0 W3) := by rw [← hW3]; exact K2.out.setCell (Nat.le_refl _) _
  clear hW3
  refine (C1.out _ _ (S0.out.kept K3.out)).mono ?_
  rintro e w4 ⟨rfl, K⟩
  have K4 : Hid (Kept w w4) := k0.out.trans (K3.out.trans K)
  clear K K2 B2 c0 c1 c2 c3 c4 c5 c6 c7 c8 f0
  go_wp2
  go_ret
  exact ⟨rfl, K4.out⟩

/-- Small: at most 100 shapes of at most 1000 fields. -/
def Small (l : Nat) (S : Nat → Sh) : Prop := l ≤ 100 ∧ ∀ i, i < l → (S i).l ≤ 1000

set_option maxHeartbeats 1000000 in
theorem few_any (n0 n1 n2 n3 n4 n5 n6 n7 : Int) (x : Option Addr) (l c : Nat) (S : Nat → Sh) (p : Bool) (w : World) (hS : Shps w x l S) (hp : p = true ↔ Small l S) :
    Calls Try.prog 9 #[.agg #[.int .i64 n0, .int .i64 n1, .int .i64 n2, .int .i64 n3, .int .i64 n4, .int .i64 n5, .int .i64 n6, .int .i64 n7, .slice x l c]] w fun e w' => e = .returned (.bool p) ∧ Kept w w' := by
  have HP : Hid _ := hp
  have HS : Hid _ := hS
  clear hp hS
  go_enter Try.func9, Try.ntmps9
  go_wp2_with fail
  generalize hW1 : w.alloc _ = W1
  have B1 : Hid (Blk W1 w.heap.size (cl n0 n1 n2 n3 n4 n5 n6 n7 (.slice x l c))) := by rw [← hW1]; exact Blk.new w _ _
  have K1 : Hid (Kept w W1) := by rw [← hW1]; exact (Kept.refl w).alloc _ _
  clear hW1
  have c8 := B1.out.at 8 rfl
  go_loopg [3] l (fun m i wr => ∃ k : Nat, i = .int .i64 k ∧ k ≤ l ∧ k ≤ 100 ∧ m = l - k ∧ Hid (wr = W1) ∧ Hid (∀ i, i < k → (S i).l ≤ 1000))
  case atStart => exact ⟨0, rfl, by omega, by omega, by omega, rfl, fun _ h => absurd h (Nat.not_lt_zero _)⟩
  case round =>
    obtain ⟨k, rfl, hk0, hk1, hm, hw, hall⟩ := hrel
    obtain rfl := hw.out
    have HM : Hid _ := hm
    clear hm
    by_cases hlt : k < l
    · by_cases hlt2 : k < 100
      · obtain ⟨b, o, rfl, hb, hc⟩ := HS.out (by omega)
        have a1 : wr.cell? ⟨b, o + k * 2 + 1, none⟩ = _ := (K1.out.cell hb).trans (hc k hlt).2
        clear hc
        by_cases hbig : ((S k).l : Int) > 1000
        · obtain rfl : p = false := by
            cases p
            · rfl
            · have m : Small l S := by have := HP.out; simpa using this
              have := m.2 k hlt
              omega
          go_wp2
          go_ret
          exact ⟨rfl, K1.out⟩
        · have hall2 : Hid (∀ i, i < k + 1 → (S i).l ≤ 1000) := fun i hi => by
            rcases Nat.lt_succ_iff_lt_or_eq.1 hi with h | rfl
            · exact hall.out i h
            · omega
          go_wp2
          go_roundg (gk - 1)
          case measure => have := HM.out; omega
          case rel => have := HM.out; exact ⟨k + 1, by go_num, by omega, by omega, by omega, rfl, hall2⟩
      · obtain rfl : p = false := by
          cases p
          · rfl
          · have m : Small l S := by have := HP.out; simpa using this
            have := m.1
            omega
        have hl2 : ¬ (l : Int) ≤ 100 := by omega
        go_wp2
        go_ret
        exact ⟨by simp, K1.out⟩
    · obtain rfl : k = l := by omega
      obtain rfl : p = true := by
        cases p
        · have m := HP.out
          simp at m
          exact absurd ⟨by omega, hall.out⟩ m
        · rfl
      have hl2 : (k : Int) ≤ 100 := by omega
      go_wp2
      go_ret
      exact ⟨by simp, K1.out⟩

end Go.Proofs.Ytpeplgiofiikhaa
