/-
  Small configurations, and the contract of the laws' own 'Few' (package spolaw4).
-/
import Derived.Test.YtahpnnjemjjfhaaConf12
namespace Go.Proofs.Ytahpnnjemjjfhaa
open Go.RowKit

/-- One shape that lies in a block of its own. -/
theorem shps_one {w : World} {b : Nat} (s : Sh) (hb : b < w.heap.size) (h0 : w.cell? ⟨b, 0, none⟩ = some (.bool s.arr)) (h1 : w.cell? ⟨b, 1, none⟩ = some (.slice s.x s.l s.c)) : Shps w (some ⟨b, 0, none⟩) 1 (fun _ => s) := fun _ =>
  ⟨b, 0, rfl, hb, fun i hi => by
    obtain rfl : i = 0 := by omega
    exact ⟨h0, h1⟩⟩

theorem mays_one (s : Sh) (h : s.may = true) : Mays 1 (fun _ => s) := ⟨by omega, by omega, fun _ _ => h⟩

/-- Small: at most 100 shapes of at most 1000 fields. -/
def Small (l : Nat) (S : Nat → Sh) : Prop := l ≤ 100 ∧ ∀ i, i < l → (S i).l ≤ 1000

set_option maxHeartbeats 1000000 in
theorem few_any (n0 n1 n2 n3 n4 n5 n6 n7 : Int) (x : Option Addr) (l c : Nat) (S : Nat → Sh) (p : Bool) (w : World) (hS : Shps w x l S) (hp : p = true ↔ Small l S) :
    Calls Try.prog 11 #[.agg #[.int .i64 n0, .int .i64 n1, .int .i64 n2, .int .i64 n3, .int .i64 n4, .int .i64 n5, .int .i64 n6, .int .i64 n7, .slice x l c]] w fun e w' => e = .returned (.bool p) ∧ Kept w w' := by
  have HP : Hid _ := hp
  have HS : Hid _ := hS
  clear hp hS
  go_enter Try.func11, Try.ntmps11
  go_wp2_with fail
  generalize hW1 : w.alloc _ = W1
  have B1 : Hid (Blk W1 w.heap.size (cl n0 n1 n2 n3 n4 n5 n6 n7 (.slice x l c))) := by rw [← hW1]; exact Blk.new w _ _
  have K1 : Hid (Kept w W1) := by rw [← hW1]; exact (Kept.refl w).alloc _ _
  clear hW1
  have c8 := B1.out.at 8 rfl
  go_loopg [3] l (fun m i wr => ∃ k : Nat, i = .int .i64 k ∧ k ≤ l ∧ k ≤ 100 ∧ m = l - k ∧ Hid (wr = W1) ∧ Hid (∀ i, i < k → (S i).l ≤ 1000))
  case atStart => exact ⟨0, rfl, by omega, by omega, by omega, rfl, fun _ h => absurd h (Nat.not_lt_zero _)⟩
  case round =>
    obtain ⟨k, rfl, hk0, hk1, hm, hw, hall⟩ := hrel
    obtain rfl := hw.out
    have HM : Hid _ := hm
    clear hm
    by_cases hlt : k < l
    · by_cases hlt2 : k < 100
      · obtain ⟨b, o, rfl, hb, hc⟩ := HS.out (by omega)
        have a1 : wr.cell? ⟨b, o + k * 2 + 1, none⟩ = _ := (K1.out.cell hb).trans (hc k hlt).2
        clear hc
        by_cases hbig : ((S k).l : Int) > 1000
        · obtain rfl : p = false := by
            cases p
            · rfl
            · have m : Small l S := by have := HP.out; simpa using this
              have := m.2 k hlt
              omega
          go_wp2
          go_ret
          exact ⟨rfl, K1.out⟩
        · have hall2 : Hid (∀ i, i < k + 1 → (S i).l ≤ 1000) := fun i hi => by
            rcases Nat.lt_succ_iff_lt_or_eq.1 hi with h | rfl
            · exact hall.out i h
            · omega
          go_wp2
          go_roundg (gk - 1)
          case measure => have := HM.out; omega
          case rel => have := HM.out; exact ⟨k + 1, by go_num, by omega, by omega, by omega, rfl, hall2⟩
      · obtain rfl : p = false := by
          cases p
          · rfl
          · have m : Small l S := by have := HP.out; simpa using this
            have := m.1
            omega
        have hl2 : ¬ (l : Int) ≤ 100 := by omega
        go_wp2
        go_ret
        exact ⟨by simp, K1.out⟩
    · obtain rfl : k = l := by omega
      obtain rfl : p = true := by
        cases p
        · have m := HP.out
          simp at m
          exact absurd ⟨by omega, hall.out⟩ m
        · rfl
      have hl2 : (k : Int) ≤ 100 := by omega
      go_wp2
      go_ret
      exact ⟨by simp, K1.out⟩

end Go.Proofs.Ytahpnnjemjjfhaa
