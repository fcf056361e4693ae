/-
  Contracts of package coil: each method answers and leaves what a plain function of the coil's five numbers says.
-/
import Derived.Test.YtahpnnjemjjfhaaCoilT
namespace Go.Proofs.Ytahpnnjemjjfhaa
open Go.RowKit

set_option maxHeartbeats 800000 in
theorem knew_bad (n : Int) (w : World) (hn : ¬ (0 ≤ n ∧ n ≤ 2048)) :
    Calls Try.prog 66 #[.int .i64 n] w fun e w' => e = .returned (.tuple #[.pointer none, .int .i64 1]) ∧ w' = w := by
  by_cases h0 : n < 0
  · clear hn
    go_enter Try.func66, Try.ntmps66
    go_wp2
    go_ret2
    exact ⟨rfl, rfl⟩
  · have h1 : 2048 < n := by omega
    clear hn
    go_enter Try.func66, Try.ntmps66
    go_wp2
    go_ret2
    exact ⟨rfl, rfl⟩

set_option maxHeartbeats 800000 in
theorem knew_any (s : Nat) (w : World) (hs : s ≤ 2048) :
    Calls Try.prog 66 #[.int .i64 s] w fun e w' => ∃ p, e = .returned (.tuple #[.pointer (some ⟨p, 0, none⟩), .int .i64 0]) ∧ CTab 94 w' p ⟨s, 0, 0, 0, 0⟩ ∧ Kept w w' ∧ w.heap.size ≤ p := by
  have HO : Hid (∀ w' : World, CTab 94 (w'.alloc (.cells #[.int .i64 (s : Int), .int .i64 0, .int .i64 0, .int .i64 0, .int .i64 0] 94)) w'.heap.size ⟨s, 0, 0, 0, 0⟩) := fun w' => CTab.new w' _ hs
  go_enter Try.func66, Try.ntmps66
  go_wp2
  go_ret2
  exact ⟨_, rfl, HO.out w, (Kept.refl _).alloc _ _, by omega⟩

theorem z0 : ((0 : Nat) : Int) = 0 := rfl
theorem z1 : ((1 : Nat) : Int) = 1 := rfl

section
variable {p : Nat} {S : CS}

set_option maxHeartbeats 400000 in
theorem kcurrent_any (w : World) (h : CTab 94 w p S) :
    Calls Try.prog 95 #[.pointer (some ⟨p, 0, none⟩)] w fun e w' => e = .returned (.int .i64 (S.c : Int)) ∧ w' = w := by
  have c1 := h.c1
  clear h
  go_enter Try.func95, Try.ntmps95
  go_wp2
  go_ret
  exact ⟨rfl, rfl⟩

set_option maxHeartbeats 400000 in
theorem kused_any (i : Int) (w : World) (h : CTab 94 w p S) :
    Calls Try.prog 27 #[.pointer (some ⟨p, 0, none⟩), .int .i64 i] w fun e w' => e = .returned (.int .i64 (usedF S i)) ∧ w' = w := by
  have c3 := h.c3
  have c4 := h.c4
  clear h
  by_cases h0 : i < 0
  · have e : usedF S i = 0 := by
      unfold usedF
      rw [if_neg (by omega), if_neg (by omega)]
    rw [e]
    clear e
    go_enter Try.func27, Try.ntmps27
    go_wp2
    go_ret
    exact ⟨rfl, rfl⟩
  · by_cases h1 : 2 ≤ i
    · have e : usedF S i = 0 := by
        unfold usedF
        rw [if_neg (by omega), if_neg (by omega)]
      rw [e]
      clear e
      go_enter Try.func27, Try.ntmps27
      go_wp2
      go_ret
      exact ⟨rfl, rfl⟩
    · rcases (by omega : i = 0 ∨ i = 1) with rfl | rfl
      all_goals go_enter Try.func27, Try.ntmps27
      all_goals go_wp2
      all_goals go_ret
      all_goals exact ⟨by simp [usedF], rfl⟩

set_option maxHeartbeats 800000 in
theorem kroom_any (w : World) (h : CTab 94 w p S) :
    Calls Try.prog 76 #[.pointer (some ⟨p, 0, none⟩)] w fun e w' => e = .returned (.int .i64 (roomF S)) ∧ Kept w w' := by
  have hp := h.lt
  have c0 := KW.cell (a := ⟨p, 0, none⟩) hp h.c0
  have c1 := KW.cell (a := ⟨p, 1, none⟩) hp h.c1
  have c2 := KW.cell (a := ⟨p, 2, none⟩) hp h.c2
  have c3 := KW.cell (a := ⟨p, 3, none⟩) hp h.c3
  have c4 := KW.cell (a := ⟨p, 4, none⟩) hp h.c4
  have h1 := h.ok.max
  have h2 := h.ok.two
  have h3 := h.ok.fit
  clear h hp
  obtain ⟨s, c, k, a, b⟩ := S
  simp only [roomF, CS.u] at *
  rcases h2 with rfl | rfl
  all_goals simp only [if_true, if_false, Nat.one_ne_zero, z0, z1] at *
  all_goals go_enter Try.func76, Try.ntmps76
  all_goals go_wp2
  all_goals refine wp_region_kept (by kernel_rfl) (by kernel_rfl) fun _ => ?_
  all_goals repeat (go_big_quiet_step (fail))
  all_goals refine wpQuiet_nil ?_
  all_goals rintro _ ⟨z, rfl⟩
  all_goals go_wp2
  all_goals go_ret
  all_goals exact ⟨by go_num, z.ok⟩
end
end Go.Proofs.Ytahpnnjemjjfhaa
