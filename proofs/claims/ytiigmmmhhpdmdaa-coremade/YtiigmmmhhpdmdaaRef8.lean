/-
  Contracts of the document's pool (package sporef6): the same functions of what is free as package pool's.
-/
import Derived.Test.YtiigmmmhhpdmdaaB02
namespace Go.Proofs.Ytiigmmmhhpdmdaa
open Go.RowKit

set_option maxHeartbeats 800000 in
theorem prnew_bad (n : Int) (w : World) (hn : ¬ (0 ≤ n ∧ n ≤ 1024)) :
    Calls Try.prog 82 #[.int .i64 n] w fun e w' => e = .returned (.tuple #[.pointer none, .int .i64 1]) ∧ w' = w := by
  by_cases h0 : n < 0
  · clear hn
    go_enter Try.func82, Try.ntmps82
    go_wp2
    go_ret2
    exact ⟨rfl, rfl⟩
  · have h1 : 1024 < n := by omega
    clear hn
    go_enter Try.func82, Try.ntmps82
    go_wp2
    go_ret2
    exact ⟨rfl, rfl⟩

set_option maxHeartbeats 800000 in
theorem prnew_any (n : Nat) (w : World) (hn : n ≤ 1024) :
    Calls Try.prog 82 #[.int .i64 n] w fun e w' => ∃ b g, e = .returned (.tuple #[.pointer (some ⟨b, 0, none⟩), .int .i64 0]) ∧ PTab 199 w' b g n F1 ∧ w.heap.size ≤ b ∧ w.heap.size ≤ g ∧ Kept w w' := by
  have hmk := run_make_bools n hn
  have PM : Hid _ := ppool_made 199 w n hn
  have KM : Hid (Kept w ((w.alloc (.cells (madeCells #[.bool false] n) 4)).alloc (.cells #[.slice (some ⟨w.heap.size, 0, none⟩) n n] 199))) := ((Kept.refl w).alloc _ _).alloc _ _
  go_enter Try.func82, Try.ntmps82
  go_wp2
  clear hmk
  go_loopg [5] n (fun m i wr => ∃ k : Nat, i = .int .i64 k ∧ k ≤ n ∧ m = n - k ∧ Hid (PTab 199 wr (w.heap.size + 1) w.heap.size n (fun j => decide (j < k)) ∧ Kept w wr))
  case atStart => exact ⟨0, rfl, by omega, by omega, PM.out.congr (fun j _ => by simp), KM.out⟩
  case round =>
    clear PM KM
    obtain ⟨k, rfl, hk, hm, hw⟩ := hrel
    have HM : Hid _ := hm
    clear hm
    have c0 := hw.out.1.hd
    by_cases hlt : k < n
    · have c1 := hw.out.1.at hlt
      have c2 := hw.out.1.row.frozen
      go_wp2
      go_roundg (gk - 1)
      all_goals (have := HM.out; try omega)
      refine ⟨k + 1, by go_num, by omega, by omega, ?_, ?_⟩
      · have := hw.out.1.set k true
        rwa [below_step] at this
      · exact hw.out.2.setCell (Nat.le_refl _) _
    · obtain rfl : k = n := by omega
      go_wp2
      go_ret2
      exact ⟨_, _, rfl, hw.out.1.congr (fun j hj => by simp [F1, hj]), by omega, by omega, hw.out.2⟩

end Go.Proofs.Ytiigmmmhhpdmdaa
