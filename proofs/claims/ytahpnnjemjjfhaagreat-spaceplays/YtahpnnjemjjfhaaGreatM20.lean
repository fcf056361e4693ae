/-
  The modules RCoil, First10, one behind another.
-/
import Derived.Test.YtahpnnjemjjfhaaGreatM04
import Derived.Test.YtahpnnjemjjfhaaGreatM08
/-
  The document's coil: each method answers and leaves what the same plain functions say.
-/
namespace Go.Proofs.YtahpnnjemjjfhaaGreat
open Go.RowKit

set_option maxHeartbeats 800000 in
theorem krnew_bad (n : Int) (w : World) (hn : ¬ (0 ≤ n ∧ n ≤ 2048)) :
    Calls Tryz.prog 42 #[.int .i64 n] w fun e w' => e = .returned (.tuple #[.pointer none, .int .i64 1]) ∧ w' = w := by
  by_cases h0 : n < 0
  · clear hn
    go_enter Tryz.func42, Tryz.ntmps42
    go_wp2
    go_ret2
    exact ⟨rfl, rfl⟩
  · have h1 : 2048 < n := by omega
    clear hn
    go_enter Tryz.func42, Tryz.ntmps42
    go_wp2
    go_ret2
    exact ⟨rfl, rfl⟩

set_option maxHeartbeats 800000 in
theorem krnew_any (s : Nat) (w : World) (hs : s ≤ 2048) :
    Calls Tryz.prog 42 #[.int .i64 s] w fun e w' => ∃ p, e = .returned (.tuple #[.pointer (some ⟨p, 0, none⟩), .int .i64 0]) ∧ CTab 63 w' p ⟨s, 0, 0, 0, 0⟩ ∧ Kept w w' ∧ w.heap.size ≤ p := by
  have HO : Hid (∀ w' : World, CTab 63 (w'.alloc (.cells #[.int .i64 (s : Int), .int .i64 0, .int .i64 0, .int .i64 0, .int .i64 0] 63)) w'.heap.size ⟨s, 0, 0, 0, 0⟩) := fun w' => CTab.new w' _ hs
  go_enter Tryz.func42, Tryz.ntmps42
  go_wp2
  go_ret2
  exact ⟨_, rfl, HO.out w, (Kept.refl _).alloc _ _, by omega⟩

section
variable {p : Nat} {S : CS}

set_option maxHeartbeats 800000 in
theorem krroom_any (w : World) (h : CTab 63 w p S) :
    Calls Tryz.prog 27 #[.pointer (some ⟨p, 0, none⟩)] w fun e w' => e = .returned (.int .i64 (roomF S)) ∧ Kept w w' := by
  have hp := h.lt
  have c0 := KW.cell (a := ⟨p, 0, none⟩) hp h.c0
  have c1 := KW.cell (a := ⟨p, 1, none⟩) hp h.c1
  have c2 := KW.cell (a := ⟨p, 2, none⟩) hp h.c2
  have c3 := KW.cell (a := ⟨p, 3, none⟩) hp h.c3
  have c4 := KW.cell (a := ⟨p, 4, none⟩) hp h.c4
  have h1 := h.ok.max
  have h2 := h.ok.two
  have h3 := h.ok.fit
  clear h hp
  obtain ⟨s, c, k, a, b⟩ := S
  simp only [roomF, CS.u] at *
  rcases h2 with rfl | rfl
  all_goals simp only [if_true, if_false, Nat.one_ne_zero, z0, z1] at *
  all_goals go_enter Tryz.func27, Tryz.ntmps27
  all_goals go_wp2
  all_goals refine wp_region_kept (by kernel_rfl) (by kernel_rfl) fun _ => ?_
  all_goals repeat (go_big_quiet_step (fail))
  all_goals refine wpQuiet_nil ?_
  all_goals rintro _ ⟨z, rfl⟩
  all_goals go_wp2
  all_goals go_ret
  all_goals exact ⟨by go_num, z.ok⟩

set_option maxHeartbeats 1000000 in
theorem krskip_any (n : Int) (w : World) (h : CTab 63 w p S) :
    Calls Tryz.prog 68 #[.pointer (some ⟨p, 0, none⟩), .int .i64 n] w fun e w' => e = .returned (.bool (skips S n)) ∧ CTab 63 w' p (skipS S n) ∧ Mut [p] w w' := by
  have HT : Hid (CTab 63 w p S) := h
  have c2 := h.c2
  have fz := h.fz
  have hk : S.k ≤ 2048 := by have := h.ok.max; have := h.ok.fit; omega
  have HO := h.ok.skip n
  clear h
  cases ht : skips S n
  · simp only [skipS, ht, if_false, Bool.false_eq_true]
    by_cases h1 : n < 1
    · clear ht
      go_enter Tryz.func68, Tryz.ntmps68
      go_wp2
      go_ret
      exact ⟨rfl, HT.out, Mut.refl _ _⟩
    · have h2 : (S.k : Int) < n := by
        simp only [skips, decide_eq_false_iff_not] at ht
        omega
      clear ht
      go_enter Tryz.func68, Tryz.ntmps68
      go_wp2
      go_ret
      exact ⟨rfl, HT.out, Mut.refl _ _⟩
  · simp only [skipS, ht, if_true] at HO ⊢
    obtain ⟨m, rfl, hm1, hm2⟩ := skips_room ht
    clear ht
    have HO2 : Hid _ := HO
    clear HO
    have e : ((S.k : Int) - (m : Int)) = ((S.k - m : Nat) : Int) := by omega
    go_enter Tryz.func68, Tryz.ntmps68
    go_wp2
    go_ret
    refine ⟨rfl, HT.out.put 2 _ ?_ HO2.out, (Mut.refl _ _).setCell (by simp) _⟩
    simp [CS.cells]

set_option maxHeartbeats 2000000 in
theorem krtake_any (n : Int) (w : World) (h : CTab 63 w p S) :
    Calls Tryz.prog 147 #[.pointer (some ⟨p, 0, none⟩), .int .i64 n] w fun e w' => e = .returned (.tuple #[.int .i64 (takeA S n), .bool (takes S n)]) ∧ CTab 63 w' p (takeS S n) ∧ Mut [p] w w' := by
  have HT : Hid (CTab 63 w p S) := h
  clear h
  cases ht : takes S n
  · simp only [takeA, takeS, ht, if_false, Bool.false_eq_true]
    by_cases h1 : n < 1
    · clear ht
      go_enter Tryz.func147, Tryz.ntmps147
      go_wp2
      go_ret2
      exact ⟨rfl, HT.out, Mut.refl _ _⟩
    · have h2 : roomF S < n := by
        simp only [takes, decide_eq_false_iff_not] at ht
        omega
      clear ht
      generalize hr : roomF S = r at h2
      have HR := krroom_any _ HT.out
      rw [hr] at HR
      clear hr
      go_enter Tryz.func147, Tryz.ntmps147
      go_wp2_with fail
      refine HR.mono ?_
      rintro e w1 ⟨rfl, k1⟩
      have H1 : Hid (CTab 63 w1 p S ∧ Kept w w1) := ⟨HT.out.kept k1, k1⟩
      clear k1
      go_wp2
      go_ret2
      exact ⟨rfl, H1.out.1, H1.out.2.mut⟩
  · simp only [takeA, takeS, ht, if_true]
    have HO := HT.out.ok.take n
    rw [takeS, if_pos ht] at HO
    obtain ⟨m, rfl, hm1, hm2, hm3⟩ := takes_room ht
    clear ht
    have HR := krroom_any _ HT.out
    generalize hr : roomF S = r at hm3 HR
    clear hr
    obtain ⟨h1, h2, h3, h4, h5⟩ := HT.out.ok
    obtain ⟨s, c, k, a, b⟩ := S
    simp only [CS.u, CS.o, Int.toNat_natCast, putU] at h1 h2 h3 h4 h5 hm2 HO ⊢
    rcases h2 with rfl | rfl
    all_goals simp only [if_true, if_false, Nat.one_ne_zero] at *
    all_goals have HO2 : Hid _ := HO
    all_goals clear HO
    · go_enter Tryz.func147, Tryz.ntmps147
      go_wp2_with fail
      refine HR.mono ?_
      rintro e w1 ⟨rfl, k1⟩
      have H1 : Hid (CTab 63 w1 p ⟨s, 0, k, a, b⟩ ∧ Kept w w1) := ⟨HT.out.kept k1, k1⟩
      clear k1
      have c1 := H1.out.1.c1
      have cu := H1.out.1.c3
      have fz := H1.out.1.fz
      simp only [z0] at c1
      go_wp2_with fail
      go_region
      clear c1 cu fz
      have H2 : Hid (CTab 63 ((w1.setCell ⟨p, 3, none⟩ (.int .i64 ((a : Int) + (m : Int)))).drew) p ⟨s, 0, k, a + m, b⟩ ∧ Mut [p] w ((w1.setCell ⟨p, 3, none⟩ (.int .i64 ((a : Int) + (m : Int)))).drew)) := ⟨(H1.out.1.put 3 _ (by simp [CS.cells]) HO2.out).drew, (H1.out.2.mut.setCell (by simp) _).drew⟩
      go_wp2_with fail
      generalize (w1.setCell ⟨p, 3, none⟩ (.int .i64 ((a : Int) + (m : Int)))).drew = w2 at *
      have c1 := KW.cell (a := ⟨p, 1, none⟩) H2.out.1.lt H2.out.1.c1
      have cu := KW.cell (a := ⟨p, 3, none⟩) H2.out.1.lt H2.out.1.c3
      simp only [z0] at c1
      refine wp_region_kept (by kernel_rfl) (by kernel_rfl) fun _ => ?_
      repeat (go_big_quiet_step (fail))
      refine wpQuiet_nil ?_
      rintro _ ⟨z, rfl⟩
      go_wp2
      go_ret2
      exact ⟨by simp, H2.out.1.kept z.ok, H2.out.2.trans z.ok.mut⟩
    · go_enter Tryz.func147, Tryz.ntmps147
      go_wp2_with fail
      refine HR.mono ?_
      rintro e w1 ⟨rfl, k1⟩
      have H1 : Hid (CTab 63 w1 p ⟨s, 1, k, a, b⟩ ∧ Kept w w1) := ⟨HT.out.kept k1, k1⟩
      clear k1
      have c1 := H1.out.1.c1
      have cu := H1.out.1.c4
      have fz := H1.out.1.fz
      simp only [z1] at c1
      go_wp2_with fail
      go_region
      clear c1 cu fz
      have H2 : Hid (CTab 63 ((w1.setCell ⟨p, 4, none⟩ (.int .i64 ((b : Int) + (m : Int)))).drew) p ⟨s, 1, k, a, b + m⟩ ∧ Mut [p] w ((w1.setCell ⟨p, 4, none⟩ (.int .i64 ((b : Int) + (m : Int)))).drew)) := ⟨(H1.out.1.put 4 _ (by simp [CS.cells]) HO2.out).drew, (H1.out.2.mut.setCell (by simp) _).drew⟩
      go_wp2_with fail
      generalize (w1.setCell ⟨p, 4, none⟩ (.int .i64 ((b : Int) + (m : Int)))).drew = w2 at *
      have c1 := KW.cell (a := ⟨p, 1, none⟩) H2.out.1.lt H2.out.1.c1
      have cu := KW.cell (a := ⟨p, 4, none⟩) H2.out.1.lt H2.out.1.c4
      simp only [z1] at c1
      refine wp_region_kept (by kernel_rfl) (by kernel_rfl) fun _ => ?_
      repeat (go_big_quiet_step (fail))
      refine wpQuiet_nil ?_
      rintro _ ⟨z, rfl⟩
      go_wp2
      go_ret2
      exact ⟨by simp, H2.out.1.kept z.ok, H2.out.2.trans z.ok.mut⟩

set_option maxHeartbeats 2000000 in
theorem krcopy_any (n : Int) (w : World) (h : CTab 63 w p S) :
    Calls Tryz.prog 70 #[.pointer (some ⟨p, 0, none⟩), .int .i64 n] w fun e w' => e = .returned (.tuple #[.int .i64 (copyA S n), .bool (skips S n)]) ∧ CTab 63 w' p (copyS S n) ∧ Mut [p] w w' := by
  have HT : Hid (CTab 63 w p S) := h
  have c2 := h.c2
  have fz := h.fz
  have hk : S.k ≤ 2048 := by have := h.ok.max; have := h.ok.fit; omega
  clear h
  cases ht : skips S n
  · simp only [copyA, copyS, ht, if_false, Bool.false_eq_true]
    by_cases h1 : n < 1
    · clear ht
      go_enter Tryz.func70, Tryz.ntmps70
      go_wp2
      go_ret2
      exact ⟨rfl, HT.out, Mut.refl _ _⟩
    · have h2 : (S.k : Int) < n := by
        simp only [skips, decide_eq_false_iff_not] at ht
        omega
      clear ht
      go_enter Tryz.func70, Tryz.ntmps70
      go_wp2
      go_ret2
      exact ⟨rfl, HT.out, Mut.refl _ _⟩
  · simp only [copyA, copyS, ht, if_true]
    have HS := HT.out.ok.skip n
    have HO := HT.out.ok.copy n
    rw [skipS, if_pos ht] at HS
    rw [copyS, if_pos ht] at HO
    obtain ⟨m, rfl, hm1, hm2⟩ := skips_room ht
    clear ht
    obtain ⟨h1, h2, h3, h4, h5⟩ := HT.out.ok
    obtain ⟨s, c, k, a, b⟩ := S
    simp only [CS.u, CS.o, Int.toNat_natCast, putU] at h1 h2 h3 h4 h5 hm2 HO HS ⊢
    rcases h2 with rfl | rfl
    all_goals simp only [if_true, if_false, Nat.one_ne_zero] at *
    all_goals have HO2 : Hid _ := HO
    all_goals have HS2 : Hid _ := HS
    all_goals clear HO HS
    · have H1 : Hid (CTab 63 (w.setCell ⟨p, 2, none⟩ (.int .i64 ((k : Int) - (m : Int)))) p ⟨s, 0, k - m, a, b⟩ ∧ Mut [p] w (w.setCell ⟨p, 2, none⟩ (.int .i64 ((k : Int) - (m : Int))))) := ⟨HT.out.put 2 _ (by simp [CS.cells]; omega) HS2.out, (Mut.refl _ _).setCell (by simp) _⟩
      go_enter Tryz.func70, Tryz.ntmps70
      go_wp2_with fail
      generalize (w.setCell ⟨p, 2, none⟩ (.int .i64 ((k : Int) - (m : Int)))) = w1 at *
      clear c2 fz
      have c1 := H1.out.1.c1
      have cu := H1.out.1.c3
      have fz := H1.out.1.fz
      simp only [z0] at c1
      go_region
      clear c1 cu fz
      have H2 : Hid (CTab 63 ((w1.setCell ⟨p, 3, none⟩ (.int .i64 ((a : Int) + (m : Int)))).drew) p ⟨s, 0, k - m, a + m, b⟩ ∧ Mut [p] w ((w1.setCell ⟨p, 3, none⟩ (.int .i64 ((a : Int) + (m : Int)))).drew)) := ⟨(H1.out.1.put 3 _ (by simp [CS.cells]) HO2.out).drew, (H1.out.2.setCell (by simp) _).drew⟩
      go_wp2_with fail
      generalize (w1.setCell ⟨p, 3, none⟩ (.int .i64 ((a : Int) + (m : Int)))).drew = w2 at *
      have c1 := KW.cell (a := ⟨p, 1, none⟩) H2.out.1.lt H2.out.1.c1
      have cu := KW.cell (a := ⟨p, 3, none⟩) H2.out.1.lt H2.out.1.c3
      simp only [z0] at c1
      refine wp_region_kept (by kernel_rfl) (by kernel_rfl) fun _ => ?_
      repeat (go_big_quiet_step (fail))
      refine wpQuiet_nil ?_
      rintro _ ⟨z, rfl⟩
      go_wp2
      go_ret2
      exact ⟨by simp, H2.out.1.kept z.ok, H2.out.2.trans z.ok.mut⟩
    · have H1 : Hid (CTab 63 (w.setCell ⟨p, 2, none⟩ (.int .i64 ((k : Int) - (m : Int)))) p ⟨s, 1, k - m, a, b⟩ ∧ Mut [p] w (w.setCell ⟨p, 2, none⟩ (.int .i64 ((k : Int) - (m : Int))))) := ⟨HT.out.put 2 _ (by simp [CS.cells]; omega) HS2.out, (Mut.refl _ _).setCell (by simp) _⟩
      go_enter Tryz.func70, Tryz.ntmps70
      go_wp2_with fail
      generalize (w.setCell ⟨p, 2, none⟩ (.int .i64 ((k : Int) - (m : Int)))) = w1 at *
      clear c2 fz
      have c1 := H1.out.1.c1
      have cu := H1.out.1.c4
      have fz := H1.out.1.fz
      simp only [z1] at c1
      go_region
      clear c1 cu fz
      have H2 : Hid (CTab 63 ((w1.setCell ⟨p, 4, none⟩ (.int .i64 ((b : Int) + (m : Int)))).drew) p ⟨s, 1, k - m, a, b + m⟩ ∧ Mut [p] w ((w1.setCell ⟨p, 4, none⟩ (.int .i64 ((b : Int) + (m : Int)))).drew)) := ⟨(H1.out.1.put 4 _ (by simp [CS.cells]) HO2.out).drew, (H1.out.2.setCell (by simp) _).drew⟩
      go_wp2_with fail
      generalize (w1.setCell ⟨p, 4, none⟩ (.int .i64 ((b : Int) + (m : Int)))).drew = w2 at *
      have c1 := KW.cell (a := ⟨p, 1, none⟩) H2.out.1.lt H2.out.1.c1
      have cu := KW.cell (a := ⟨p, 4, none⟩) H2.out.1.lt H2.out.1.c4
      simp only [z1] at c1
      refine wp_region_kept (by kernel_rfl) (by kernel_rfl) fun _ => ?_
      repeat (go_big_quiet_step (fail))
      refine wpQuiet_nil ?_
      rintro _ ⟨z, rfl⟩
      go_wp2
      go_ret2
      exact ⟨by simp, H2.out.1.kept z.ok, H2.out.2.trans z.ok.mut⟩

set_option maxHeartbeats 1000000 in
theorem krturn_any (w : World) (h : CTab 63 w p S) :
    Calls Tryz.prog 117 #[.pointer (some ⟨p, 0, none⟩)] w fun e w' => e = .returned (.bool (turns S)) ∧ CTab 63 w' p (turnS S) ∧ Mut [p] w w' := by
  have HT : Hid (CTab 63 w p S) := h
  have HO : Hid (turnS S).Ok := h.ok.turn
  have h1 := h.ok.max
  have h2 := h.ok.two
  have hp := h.lt
  have q1 := KW.cell (a := ⟨p, 1, none⟩) hp h.c1
  have q3 := KW.cell (a := ⟨p, 3, none⟩) hp h.c3
  have q4 := KW.cell (a := ⟨p, 4, none⟩) hp h.c4
  clear h
  obtain ⟨s, c, k, a, b⟩ := S
  simp only [CS.o, CS.u, turns, turnS] at *
  rcases h2 with rfl | rfl
  · simp only [if_true, z0, Nat.sub_zero] at *
    by_cases hb : b = 0
    · subst hb
      simp only [beq_self_eq_true, if_true, z0] at *
      go_enter Tryz.func117, Tryz.ntmps117
      go_wp2_with fail
      refine wp_region_kept (by kernel_rfl) (by kernel_rfl) fun _ => ?_
      repeat (go_big_quiet_step (fail))
      refine wpQuiet_nil ?_
      rintro _ ⟨z, rfl⟩
      clear q1 q3 q4
      have HZ : Hid (CTab 63 z.it p _ ∧ Kept w z.it) := ⟨HT.out.kept z.ok, z.ok⟩
      have c1 := HZ.out.1.c1
      have c2 := HZ.out.1.c2
      have cu := HZ.out.1.c3
      have fz := HZ.out.1.fz
      simp only [z0] at c1
      generalize z.it = w1 at *
      go_wp2
      go_region
      go_wp2
      go_ret
      exact ⟨rfl, ⟨(HZ.out.1.own.set 2 _).drew.set 1 _, HO.out⟩, ((HZ.out.2.mut.setCell (by simp) _).drew).setCell (by simp) _⟩
    · have hb2 : (b == 0) = false := by simpa using hb
      have hb3 : ((b : Int) == 0) = false := by simpa using hb
      have hb4 : ((b : Int) != 0) = true := by simpa using hb
      simp only [hb2, if_false, Bool.false_eq_true] at HO ⊢
      go_enter Tryz.func117, Tryz.ntmps117
      go_wp2_with fail
      refine wp_region_kept (by kernel_rfl) (by kernel_rfl) fun _ => ?_
      repeat (go_big_quiet_step (fail))
      refine wpQuiet_nil ?_
      rintro _ ⟨z, rfl⟩
      clear q1 q3 q4
      have HZ : Hid (CTab 63 z.it p _ ∧ Kept w z.it) := ⟨HT.out.kept z.ok, z.ok⟩
      generalize z.it = w1 at *
      go_wp2
      go_ret
      exact ⟨rfl, HZ.out.1, HZ.out.2.mut⟩
  · simp only [if_false, Nat.one_ne_zero, z1, Nat.sub_self] at *
    by_cases hb : a = 0
    · subst hb
      simp only [beq_self_eq_true, if_true, z0] at *
      go_enter Tryz.func117, Tryz.ntmps117
      go_wp2_with fail
      refine wp_region_kept (by kernel_rfl) (by kernel_rfl) fun _ => ?_
      repeat (go_big_quiet_step (fail))
      refine wpQuiet_nil ?_
      rintro _ ⟨z, rfl⟩
      clear q1 q3 q4
      have HZ : Hid (CTab 63 z.it p _ ∧ Kept w z.it) := ⟨HT.out.kept z.ok, z.ok⟩
      have c1 := HZ.out.1.c1
      have c2 := HZ.out.1.c2
      have cu := HZ.out.1.c4
      have fz := HZ.out.1.fz
      simp only [z1] at c1
      generalize z.it = w1 at *
      go_wp2
      go_region
      go_wp2
      go_ret
      exact ⟨rfl, ⟨(HZ.out.1.own.set 2 _).drew.set 1 _, HO.out⟩, ((HZ.out.2.mut.setCell (by simp) _).drew).setCell (by simp) _⟩
    · have hb2 : (a == 0) = false := by simpa using hb
      have hb3 : ((a : Int) == 0) = false := by simpa using hb
      have hb4 : ((a : Int) != 0) = true := by simpa using hb
      simp only [hb2, if_false, Bool.false_eq_true] at HO ⊢
      go_enter Tryz.func117, Tryz.ntmps117
      go_wp2_with fail
      refine wp_region_kept (by kernel_rfl) (by kernel_rfl) fun _ => ?_
      repeat (go_big_quiet_step (fail))
      refine wpQuiet_nil ?_
      rintro _ ⟨z, rfl⟩
      clear q1 q3 q4
      have HZ : Hid (CTab 63 z.it p _ ∧ Kept w z.it) := ⟨HT.out.kept z.ok, z.ok⟩
      generalize z.it = w1 at *
      go_wp2
      go_ret
      exact ⟨rfl, HZ.out.1, HZ.out.2.mut⟩

set_option maxHeartbeats 1000000 in
theorem krdone_any (w : World) (h : CTab 63 w p S) :
    Calls Tryz.prog 119 #[.pointer (some ⟨p, 0, none⟩)] w fun e w' => e = .returned (.bool (dones S)) ∧ CTab 63 w' p (doneS S) ∧ Mut [p] w w' := by
  have HT : Hid (CTab 63 w p S) := h
  have HO : Hid (doneS S).Ok := h.ok.done
  have h2 := h.ok.two
  have c1 := h.c1
  have c2 := h.c2
  have q3 := h.c3
  have q4 := h.c4
  have fz := h.fz
  clear h
  obtain ⟨s, c, k, a, b⟩ := S
  simp only [dones, doneS] at *
  by_cases hb : k = 0
  · subst hb
    simp only [beq_self_eq_true, if_true, z0] at *
    rcases h2 with rfl | rfl
    · simp only [if_true, z0] at *
      go_enter Tryz.func119, Tryz.ntmps119
      go_wp2_with fail
      go_region
      all_goals go_wp2
      all_goals go_ret
      all_goals exact ⟨rfl, ⟨HT.out.own.drew.set 4 _, HO.out⟩, (Mut.refl _ _).drew.setCell (by simp) _⟩
    · simp only [if_false, Nat.one_ne_zero, z1] at *
      go_enter Tryz.func119, Tryz.ntmps119
      go_wp2_with fail
      go_region
      all_goals go_wp2
      all_goals go_ret
      all_goals exact ⟨rfl, ⟨HT.out.own.drew.set 3 _, HO.out⟩, (Mut.refl _ _).drew.setCell (by simp) _⟩
  · have hb2 : (k == 0) = false := by simpa using hb
    have hb3 : ((k : Int) == 0) = false := by simpa using hb
    have hb4 : ((k : Int) != 0) = true := by simpa using hb
    simp only [hb2, if_false, Bool.false_eq_true] at HO ⊢
    go_enter Tryz.func119, Tryz.ntmps119
    go_wp2
    go_ret
    exact ⟨rfl, HT.out, Mut.refl _ _⟩
end
end Go.Proofs.YtahpnnjemjjfhaaGreat

/-
  The laws' own 'first' of layer 10; lists of numbers (copied, compared, asked).
-/
namespace Go.Proofs.YtahpnnjemjjfhaaGreat
open Go.RowKit

theorem LTab.own {w : World} {base b : Nat} {v : Value} {E : List Ent} (h : LTab w base b v E) : ∀ k, k ∈ b :: v.ownBlock.toList → base ≤ k ∧ k < w.heap.size := fun k hk => h.lt k (by
  simp at hk
  rcases hk with rfl | hk
  · exact mem_foot.2 (.inl rfl)
  · exact mem_foot.2 (.inr (.inl hk)))

theorem rdi_lit (w : World) (C : List Int) : Rdi (w.alloc (.cells (C.map (Value.int .i64)).toArray 3)) (some ⟨w.heap.size, 0, none⟩) C := fun _ => ⟨w.heap.size, 0, rfl, by simp, fun j hj => by simp [hj]⟩

set_option maxHeartbeats 1000000 in
theorem lcopy_any {x : Option Addr} {c : Nat} {N : List Int} (w : World) (hx : Rdi w x N) (hn : N.length ≤ 1000000) :
    Calls Tryz.prog 144 #[.slice x N.length c] w fun e w' => ∃ v, e = .returned v ∧ Lst w' w.heap.size v N ∧ Kept w w' := by
  have HX : Hid (Rdi (w.alloc (.cells #[] 3)) x N) := hx.kept ((Kept.refl w).alloc _ _)
  have HL : Hid _ := lst_empty w
  have z1 : w.heap.size ≤ (w.alloc (.cells #[] 3)).heap.size := by simp
  have z2 : ([] : List Int).length + N.length ≤ 1000000 := by simpa using hn
  clear hx hn
  go_enter Tryz.func144, Tryz.ntmps144
  go_wp2_with (at_builtin; refine wpList_append_lst (T := []) (N := N) rfl _ _ rfl rfl HL.out z1 rfl rfl HX.out z2 ?_)
  intro v2 w2 l2 m2 f2
  have H2 : Hid (Lst w2 w.heap.size v2 N ∧ Kept w w2) := ⟨by simpa using l2, ((Kept.refl w).alloc _ _).muts m2 (by simp [Value.ownBlock])⟩
  clear l2 m2 f2 z1 z2
  obtain ⟨y2, d2, rfl⟩ := H2.out.1.form
  go_wp2
  go_ret
  exact ⟨_, rfl, H2.out⟩

theorem lhas_no {t : Int} {T : List Int} {k : Nat} (hk : k < T.length) (h : t ∉ T.take k) (h1 : T[k] ≠ t) : t ∉ T.take (k + 1) := fun he => by
  rw [List.take_succ_eq_append_getElem hk] at he
  rcases List.mem_append.1 he with he | he
  · exact h he
  · simp at he
    exact h1 he.symm

set_option maxHeartbeats 1000000 in
theorem lhas_any {x : Option Addr} {c : Nat} {T : List Int} (t : Int) (w : World) (hl : T.length ≤ 1000000) (hx : Rdi w x T) :
    Calls Tryz.prog 153 #[.slice x T.length c, .int .i64 t] w fun e w' => e = .returned (.bool (decide (t ∈ T))) ∧ Kept w w' := by
  have HX : Hid (Rdi w x T) := hx
  clear hx
  go_enter Tryz.func153, Tryz.ntmps153
  go_wp2
  go_loopg [5] T.length (fun m i wr => ∃ k : Nat, i = .int .i64 k ∧ k ≤ T.length ∧ m = T.length - k ∧ Hid (t ∉ T.take k ∧ Kept w wr))
  case atStart => exact ⟨0, rfl, by omega, by omega, by simp, Kept.refl _⟩
  case round =>
    obtain ⟨k, rfl, hk, hm, hw⟩ := hrel
    have HM : Hid _ := hm
    clear hm
    by_cases hlt : k < T.length
    · obtain ⟨g, o, rfl, _, c1⟩ := HX.out.kept hw.out.2 (by omega)
      have d1 := c1 k hlt
      have HY : Hid (T[k] = t → decide (t ∈ T) = true) := fun q => by
        rw [← q]; exact decide_eq_true (List.getElem_mem hlt)
      have HZ : Hid (T[k] ≠ t → t ∉ T.take (k + 1)) := fun q => lhas_no hlt hw.out.1 q
      clear c1
      generalize T[k] = tk at *
      by_cases ht : tk = t
      · have e1 : (tk == t) = true := by simpa using ht
        have HE : Hid _ := HY.out ht
        clear ht
        go_wp2
        go_ret
        exact ⟨by rw [HE.out]; rfl, hw.out.2⟩
      · have e1 : (tk == t) = false := by simpa using ht
        have HE : Hid _ := HZ.out ht
        clear ht
        go_wp2
        go_roundg (gk - 1)
        all_goals (have := HM.out; try omega)
        exact ⟨k + 1, by go_num, by omega, by omega, HE.out, hw.out.2⟩
    · have HE : Hid (decide (t ∈ T) = false) := decide_eq_false (by have := hw.out.1; rwa [List.take_of_length_le (by omega)] at this)
      obtain rfl : k = T.length := by omega
      go_wp2
      go_ret
      exact ⟨by rw [HE.out]; rfl, hw.out.2⟩
end Go.Proofs.YtahpnnjemjjfhaaGreat

