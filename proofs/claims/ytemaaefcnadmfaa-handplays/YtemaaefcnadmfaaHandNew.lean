/-
  New.
-/
import Derived.Test.YtemaaefcnadmfaaHand
namespace Go.Proofs.Ytemaaefcnadmfaa
open Go.RowKit

theorem info_int18 : (Try.prog.info? 3).map (fun i => (i.zero, i.size, i.bytes)) = some (some (.int .i64 0), 1, 8) := by kernel_rfl

set_option maxHeartbeats 800000 in
theorem hnew_bad (n : Int) (w : World) (hn : ¬ (1 ≤ n ∧ n ≤ 16)) :
    Calls Try.prog 8 #[.int .i64 n] w fun e w' => e = .returned (.tuple #[.pointer none, .int .i64 1]) ∧ w' = w := by
  by_cases h0 : n < 1
  · clear hn
    go_enter Try.func8, Try.ntmps8
    go_wp2
    go_ret2
    exact ⟨rfl, rfl⟩
  · have h1 : 16 < n := by omega
    clear hn
    go_enter Try.func8, Try.ntmps8
    go_wp2
    go_ret2
    exact ⟨rfl, rfl⟩

/-- The threads that New lays: the first j are told. -/
def oj (j : Nat) : Nat → Value := fun i => if i < j then .int .i64 (-1) else .int .i64 0

set_option maxHeartbeats 2000000 in
theorem hnew_any (n : Nat) (w : World) (h1 : 1 ≤ (n : Int)) (hn : (n : Int) ≤ 16) :
    Calls Try.prog 8 #[.int .i64 n] w fun e w' => ∃ b g, e = .returned (.tuple #[.pointer (some ⟨b, 0, none⟩), .int .i64 0]) ∧ HH w' b g n (Hs.first n) ∧ w.heap.size ≤ b ∧ w.heap.size ≤ g ∧ Kept w w' := by
  have hmk := run_make_row' (P := Try.prog) 42 3 (.int .i64 0) 8 Try.underlying42 info_int18 rfl .i64 .i64 n (by omega) (by omega)
  go_enter Try.func8, Try.ntmps8
  go_upto_block 0 with fail
  have HR : Hid ((w.alloc (.cells (madeCells #[.int .i64 0] n) 3)).rowIs w.heap.size 3 n (oj 0) ∧ Kept w (w.alloc (.cells (madeCells #[.int .i64 0] n) 3))) := ⟨(World.rowIs_made w (.int .i64 0) n 3).congr (fun i _ => by simp [oj]), (Kept.refl w).alloc _ _⟩
  clear hmk
  generalize w.alloc _ = w1 at *
  go_wp2
  go_loopg [16] n (fun m i wr => ∃ j : Nat, i = .int .i64 j ∧ j ≤ n ∧ m = n - j ∧ Hid (wr.rowIs w.heap.size 3 n (oj j) ∧ Kept w wr))
  case atStart => exact ⟨0, rfl, by omega, by omega, HR.out⟩
  case round =>
    obtain ⟨j, rfl, hj, hm, HJ⟩ := hrel
    have HM : Hid _ := hm
    clear hm HR
    by_cases hlt : j < n
    · have c0 := HJ.out.1.cell hlt
      have cf := HJ.out.1.frozen
      have HN : Hid ((wr.setCell ⟨w.heap.size, j, none⟩ (.int .i64 (-1))).rowIs w.heap.size 3 n (oj (j + 1)) ∧ Kept w (wr.setCell ⟨w.heap.size, j, none⟩ (.int .i64 (-1)))) := ⟨(HJ.out.1.set j _).congr (fun i _ => by
        by_cases e : i = j
        · simp [oj, e]
        · simp only [oj, e, if_false]
          have : (i < j + 1) = (i < j) := by simp; omega
          simp only [this]), HJ.out.2.setCell (by simp) _⟩
      clear HJ
      go_wp2
      go_roundg (n - (j + 1))
      all_goals (have := HM.out; try omega)
      exact ⟨j + 1, by go_num, by omega, by omega, HN.out⟩
    · obtain rfl : j = n := by omega
      have h16 : j ≤ 16 := by omega
      have HB : Hid (Kept w wr ∧ HH (wr.alloc (.cells #[.int .i64 0, .bool false, .slice (some ⟨w.heap.size, 0, none⟩) j j, .int .i64 0] 53)) wr.heap.size w.heap.size j (Hs.first j)) := ⟨HJ.out.2, Own.new wr [.int .i64 0, .bool false, .slice (some ⟨w.heap.size, 0, none⟩) j j, .int .i64 0] _, ⟨_, HJ.out.1.alloc _, fun i hi => by have : i < j := hi; simp [oj, this, Hs.first]⟩, by simp [Hs.first], Hs.first_ok h16, by decide⟩
      clear HJ HM
      go_wp2
      go_ret2
      exact ⟨_, _, rfl, HB.out.2, HB.out.1.size, by omega, HB.out.1.alloc _ _⟩
end Go.Proofs.Ytemaaefcnadmfaa
