/-
  The document's coil: each method answers and leaves what the same plain functions say.
-/
import Derived.Test.YtfddcfmgigaabaaCoilB
namespace Go.Proofs.Ytfddcfmgigaabaa
open Go.RowKit

set_option maxHeartbeats 800000 in
theorem rnew_bad (n : Int) (w : World) (hn : ¬ (0 ≤ n ∧ n ≤ 2048)) :
    Calls Try.prog 9 #[.int .i64 n] w fun e w' => e = .returned (.tuple #[.pointer none, .int .i64 1]) ∧ w' = w := by
  by_cases h0 : n < 0
  · clear hn
    go_enter Try.func9, Try.ntmps9
    go_wp2
    go_ret2
    exact ⟨rfl, rfl⟩
  · have h1 : 2048 < n := by omega
    clear hn
    go_enter Try.func9, Try.ntmps9
    go_wp2
    go_ret2
    exact ⟨rfl, rfl⟩

set_option maxHeartbeats 800000 in
theorem rnew_any (s : Nat) (w : World) (hs : s ≤ 2048) :
    Calls Try.prog 9 #[.int .i64 s] w fun e w' => ∃ p, e = .returned (.tuple #[.pointer (some ⟨p, 0, none⟩), .int .i64 0]) ∧ CTab 39 w' p ⟨s, 0, 0, 0, 0⟩ ∧ Kept w w' ∧ w.heap.size ≤ p := by
  have HO : Hid (∀ w' : World, CTab 39 (w'.alloc (.cells #[.int .i64 (s : Int), .int .i64 0, .int .i64 0, .int .i64 0, .int .i64 0] 39)) w'.heap.size ⟨s, 0, 0, 0, 0⟩) := fun w' => CTab.new w' _ hs
  go_enter Try.func9, Try.ntmps9
  go_wp2
  go_ret2
  exact ⟨_, rfl, HO.out w, (Kept.refl _).alloc _ _, by omega⟩

section
variable {p : Nat} {S : CS}

set_option maxHeartbeats 800000 in
theorem rroom_any (w : World) (h : CTab 39 w p S) :
    Calls Try.prog 23 #[.pointer (some ⟨p, 0, none⟩)] w fun e w' => e = .returned (.int .i64 (roomF S)) ∧ Kept w w' := by
  have hp := h.lt
  have c0 := KW.cell (a := ⟨p, 0, none⟩) hp h.c0
  have c1 := KW.cell (a := ⟨p, 1, none⟩) hp h.c1
  have c2 := KW.cell (a := ⟨p, 2, none⟩) hp h.c2
  have c3 := KW.cell (a := ⟨p, 3, none⟩) hp h.c3
  have c4 := KW.cell (a := ⟨p, 4, none⟩) hp h.c4
  have h1 := h.ok.max
  have h2 := h.ok.two
  have h3 := h.ok.fit
  clear h hp
  obtain ⟨s, c, k, a, b⟩ := S
  simp only [roomF, CS.u] at *
  rcases h2 with rfl | rfl
  all_goals simp only [if_true, if_false, Nat.one_ne_zero, z0, z1] at *
  all_goals go_enter Try.func23, Try.ntmps23
  all_goals go_wp2
  all_goals refine wp_region_kept (by kernel_rfl) (by kernel_rfl) fun _ => ?_
  all_goals repeat (go_big_quiet_step (fail))
  all_goals refine wpQuiet_nil ?_
  all_goals rintro _ ⟨z, rfl⟩
  all_goals go_wp2
  all_goals go_ret
  all_goals exact ⟨by go_num, z.ok⟩

set_option maxHeartbeats 1000000 in
theorem rskip_any (n : Int) (w : World) (h : CTab 39 w p S) :
    Calls Try.prog 17 #[.pointer (some ⟨p, 0, none⟩), .int .i64 n] w fun e w' => e = .returned (.bool (skips S n)) ∧ CTab 39 w' p (skipS S n) ∧ Mut [p] w w' := by
  have HT : Hid (CTab 39 w p S) := h
  have c2 := h.c2
  have fz := h.fz
  have hk : S.k ≤ 2048 := by have := h.ok.max; have := h.ok.fit; omega
  have HO := h.ok.skip n
  clear h
  cases ht : skips S n
  · simp only [skipS, ht, if_false, Bool.false_eq_true]
    by_cases h1 : n < 1
    · clear ht
      go_enter Try.func17, Try.ntmps17
      go_wp2
      go_ret
      exact ⟨rfl, HT.out, Mut.refl _ _⟩
    · have h2 : (S.k : Int) < n := by
        simp only [skips, decide_eq_false_iff_not] at ht
        omega
      clear ht
      go_enter Try.func17, Try.ntmps17
      go_wp2
      go_ret
      exact ⟨rfl, HT.out, Mut.refl _ _⟩
  · simp only [skipS, ht, if_true] at HO ⊢
    obtain ⟨m, rfl, hm1, hm2⟩ := skips_room ht
    clear ht
    have HO2 : Hid _ := HO
    clear HO
    have e : ((S.k : Int) - (m : Int)) = ((S.k - m : Nat) : Int) := by omega
    go_enter Try.func17, Try.ntmps17
    go_wp2
    go_ret
    refine ⟨rfl, HT.out.put 2 _ ?_ HO2.out, (Mut.refl _ _).setCell (by simp) _⟩
    simp [CS.cells]

set_option maxHeartbeats 2000000 in
theorem rtake_any (n : Int) (w : World) (h : CTab 39 w p S) :
    Calls Try.prog 11 #[.pointer (some ⟨p, 0, none⟩), .int .i64 n] w fun e w' => e = .returned (.tuple #[.int .i64 (takeA S n), .bool (takes S n)]) ∧ CTab 39 w' p (takeS S n) ∧ Mut [p] w w' := by
  have HT : Hid (CTab 39 w p S) := h
  clear h
  cases ht : takes S n
  · simp only [takeA, takeS, ht, if_false, Bool.false_eq_true]
    by_cases h1 : n < 1
    · clear ht
      go_enter Try.func11, Try.ntmps11
      go_wp2
      go_ret2
      exact ⟨rfl, HT.out, Mut.refl _ _⟩
    · have h2 : roomF S < n := by
        simp only [takes, decide_eq_false_iff_not] at ht
        omega
      clear ht
      generalize hr : roomF S = r at h2
      have HR := rroom_any _ HT.out
      rw [hr] at HR
      clear hr
      go_enter Try.func11, Try.ntmps11
      go_wp2_with fail
      refine HR.mono ?_
      rintro e w1 ⟨rfl, k1⟩
      have H1 : Hid (CTab 39 w1 p S ∧ Kept w w1) := ⟨HT.out.kept k1, k1⟩
      clear k1
      go_wp2
      go_ret2
      exact ⟨rfl, H1.out.1, H1.out.2.mut⟩
  · simp only [takeA, takeS, ht, if_true]
    have HO := HT.out.ok.take n
    rw [takeS, if_pos ht] at HO
    obtain ⟨m, rfl, hm1, hm2, hm3⟩ := takes_room ht
    clear ht
    have HR := rroom_any _ HT.out
    generalize hr : roomF S = r at hm3 HR
    clear hr
    obtain ⟨h1, h2, h3, h4, h5⟩ := HT.out.ok
    obtain ⟨s, c, k, a, b⟩ := S
    simp only [CS.u, CS.o, Int.toNat_natCast, putU] at h1 h2 h3 h4 h5 hm2 HO ⊢
    rcases h2 with rfl | rfl
    all_goals simp only [if_true, if_false, Nat.one_ne_zero] at *
    all_goals have HO2 : Hid _ := HO
    all_goals clear HO
    · go_enter Try.func11, Try.ntmps11
      go_wp2_with fail
      refine HR.mono ?_
      rintro e w1 ⟨rfl, k1⟩
      have H1 : Hid (CTab 39 w1 p ⟨s, 0, k, a, b⟩ ∧ Kept w w1) := ⟨HT.out.kept k1, k1⟩
      clear k1
      have c1 := H1.out.1.c1
      have cu := H1.out.1.c3
      have fz := H1.out.1.fz
      simp only [z0] at c1
      go_wp2_with fail
      go_region
      clear c1 cu fz
      have H2 : Hid (CTab 39 ((w1.setCell ⟨p, 3, none⟩ (.int .i64 ((a : Int) + (m : Int)))).drew) p ⟨s, 0, k, a + m, b⟩ ∧ Mut [p] w ((w1.setCell ⟨p, 3, none⟩ (.int .i64 ((a : Int) + (m : Int)))).drew)) := ⟨(H1.out.1.put 3 _ (by simp [CS.cells]) HO2.out).drew, (H1.out.2.mut.setCell (by simp) _).drew⟩
      go_wp2_with fail
      generalize (w1.setCell ⟨p, 3, none⟩ (.int .i64 ((a : Int) + (m : Int)))).drew = w2 at *
      have c1 := KW.cell (a := ⟨p, 1, none⟩) H2.out.1.lt H2.out.1.c1
      have cu := KW.cell (a := ⟨p, 3, none⟩) H2.out.1.lt H2.out.1.c3
      simp only [z0] at c1
      refine wp_region_kept (by kernel_rfl) (by kernel_rfl) fun _ => ?_
      repeat (go_big_quiet_step (fail))
      refine wpQuiet_nil ?_
      rintro _ ⟨z, rfl⟩
      go_wp2
      go_ret2
      exact ⟨by simp, H2.out.1.kept z.ok, H2.out.2.trans z.ok.mut⟩
    · go_enter Try.func11, Try.ntmps11
      go_wp2_with fail
      refine HR.mono ?_
      rintro e w1 ⟨rfl, k1⟩
      have H1 : Hid (CTab 39 w1 p ⟨s, 1, k, a, b⟩ ∧ Kept w w1) := ⟨HT.out.kept k1, k1⟩
      clear k1
      have c1 := H1.out.1.c1
      have cu := H1.out.1.c4
      have fz := H1.out.1.fz
      simp only [z1] at c1
      go_wp2_with fail
      go_region
      clear c1 cu fz
      have H2 : Hid (CTab 39 ((w1.setCell ⟨p, 4, none⟩ (.int .i64 ((b : Int) + (m : Int)))).drew) p ⟨s, 1, k, a, b + m⟩ ∧ Mut [p] w ((w1.setCell ⟨p, 4, none⟩ (.int .i64 ((b : Int) + (m : Int)))).drew)) := ⟨(H1.out.1.put 4 _ (by simp [CS.cells]) HO2.out).drew, (H1.out.2.mut.setCell (by simp) _).drew⟩
      go_wp2_with fail
      generalize (w1.setCell ⟨p, 4, none⟩ (.int .i64 ((b : Int) + (m : Int)))).drew = w2 at *
      have c1 := KW.cell (a := ⟨p, 1, none⟩) H2.out.1.lt H2.out.1.c1
      have cu := KW.cell (a := ⟨p, 4, none⟩) H2.out.1.lt H2.out.1.c4
      simp only [z1] at c1
      refine wp_region_kept (by kernel_rfl) (by kernel_rfl) fun _ => ?_
      repeat (go_big_quiet_step (fail))
      refine wpQuiet_nil ?_
      rintro _ ⟨z, rfl⟩
      go_wp2
      go_ret2
      exact ⟨by simp, H2.out.1.kept z.ok, H2.out.2.trans z.ok.mut⟩

set_option maxHeartbeats 2000000 in
theorem rcopy_any (n : Int) (w : World) (h : CTab 39 w p S) :
    Calls Try.prog 15 #[.pointer (some ⟨p, 0, none⟩), .int .i64 n] w fun e w' => e = .returned (.tuple #[.int .i64 (copyA S n), .bool (skips S n)]) ∧ CTab 39 w' p (copyS S n) ∧ Mut [p] w w' := by
  have HT : Hid (CTab 39 w p S) := h
  have c2 := h.c2
  have fz := h.fz
  have hk : S.k ≤ 2048 := by have := h.ok.max; have := h.ok.fit; omega
  clear h
  cases ht : skips S n
  · simp only [copyA, copyS, ht, if_false, Bool.false_eq_true]
    by_cases h1 : n < 1
    · clear ht
      go_enter Try.func15, Try.ntmps15
      go_wp2
      go_ret2
      exact ⟨rfl, HT.out, Mut.refl _ _⟩
    · have h2 : (S.k : Int) < n := by
        simp only [skips, decide_eq_false_iff_not] at ht
        omega
      clear ht
      go_enter Try.func15, Try.ntmps15
      go_wp2
      go_ret2
      exact ⟨rfl, HT.out, Mut.refl _ _⟩
  · simp only [copyA, copyS, ht, if_true]
    have HS := HT.out.ok.skip n
    have HO := HT.out.ok.copy n
    rw [skipS, if_pos ht] at HS
    rw [copyS, if_pos ht] at HO
    obtain ⟨m, rfl, hm1, hm2⟩ := skips_room ht
    clear ht
    obtain ⟨h1, h2, h3, h4, h5⟩ := HT.out.ok
    obtain ⟨s, c, k, a, b⟩ := S
    simp only [CS.u, CS.o, Int.toNat_natCast, putU] at h1 h2 h3 h4 h5 hm2 HO HS ⊢
    rcases h2 with rfl | rfl
    all_goals simp only [if_true, if_false, Nat.one_ne_zero] at *
    all_goals have HO2 : Hid _ := HO
    all_goals have HS2 : Hid _ := HS
    all_goals clear HO HS
    · have H1 : Hid (CTab 39 (w.setCell ⟨p, 2, none⟩ (.int .i64 ((k : Int) - (m : Int)))) p ⟨s, 0, k - m, a, b⟩ ∧ Mut [p] w (w.setCell ⟨p, 2, none⟩ (.int .i64 ((k : Int) - (m : Int))))) := ⟨HT.out.put 2 _ (by simp [CS.cells]; omega) HS2.out, (Mut.refl _ _).setCell (by simp) _⟩
      go_enter Try.func15, Try.ntmps15
      go_wp2_with fail
      generalize (w.setCell ⟨p, 2, none⟩ (.int .i64 ((k : Int) - (m : Int)))) = w1 at *
      clear c2 fz
      have c1 := H1.out.1.c1
      have cu := H1.out.1.c3
      have fz := H1.out.1.fz
      simp only [z0] at c1
      go_region
      clear c1 cu fz
      have H2 : Hid (CTab 39 ((w1.setCell ⟨p, 3, none⟩ (.int .i64 ((a : Int) + (m : Int)))).drew) p ⟨s, 0, k - m, a + m, b⟩ ∧ Mut [p] w ((w1.setCell ⟨p, 3, none⟩ (.int .i64 ((a : Int) + (m : Int)))).drew)) := ⟨(H1.out.1.put 3 _ (by simp [CS.cells]) HO2.out).drew, (H1.out.2.setCell (by simp) _).drew⟩
      go_wp2_with fail
      generalize (w1.setCell ⟨p, 3, none⟩ (.int .i64 ((a : Int) + (m : Int)))).drew = w2 at *
      have c1 := KW.cell (a := ⟨p, 1, none⟩) H2.out.1.lt H2.out.1.c1
      have cu := KW.cell (a := ⟨p, 3, none⟩) H2.out.1.lt H2.out.1.c3
      simp only [z0] at c1
      refine wp_region_kept (by kernel_rfl) (by kernel_rfl) fun _ => ?_
      repeat (go_big_quiet_step (fail))
      refine wpQuiet_nil ?_
      rintro _ ⟨z, rfl⟩
      go_wp2
      go_ret2
      exact ⟨by simp, H2.out.1.kept z.ok, H2.out.2.trans z.ok.mut⟩
    · have H1 : Hid (CTab 39 (w.setCell ⟨p, 2, none⟩ (.int .i64 ((k : Int) - (m : Int)))) p ⟨s, 1, k - m, a, b⟩ ∧ Mut [p] w (w.setCell ⟨p, 2, none⟩ (.int .i64 ((k : Int) - (m : Int))))) := ⟨HT.out.put 2 _ (by simp [CS.cells]; omega) HS2.out, (Mut.refl _ _).setCell (by simp) _⟩
      go_enter Try.func15, Try.ntmps15
      go_wp2_with fail
      generalize (w.setCell ⟨p, 2, none⟩ (.int .i64 ((k : Int) - (m : Int)))) = w1 at *
      clear c2 fz
      have c1 := H1.out.1.c1
      have cu := H1.out.1.c4
      have fz := H1.out.1.fz
      simp only [z1] at c1
      go_region
      clear c1 cu fz
      have H2 : Hid (CTab 39 ((w1.setCell ⟨p, 4, none⟩ (.int .i64 ((b : Int) + (m : Int)))).drew) p ⟨s, 1, k - m, a, b + m⟩ ∧ Mut [p] w ((w1.setCell ⟨p, 4, none⟩ (.int .i64 ((b : Int) + (m : Int)))).drew)) := ⟨(H1.out.1.put 4 _ (by simp [CS.cells]) HO2.out).drew, (H1.out.2.setCell (by simp) _).drew⟩
      go_wp2_with fail
      generalize (w1.setCell ⟨p, 4, none⟩ (.int .i64 ((b : Int) + (m : Int)))).drew = w2 at *
      have c1 := KW.cell (a := ⟨p, 1, none⟩) H2.out.1.lt H2.out.1.c1
      have cu := KW.cell (a := ⟨p, 4, none⟩) H2.out.1.lt H2.out.1.c4
      simp only [z1] at c1
      refine wp_region_kept (by kernel_rfl) (by kernel_rfl) fun _ => ?_
      repeat (go_big_quiet_step (fail))
      refine wpQuiet_nil ?_
      rintro _ ⟨z, rfl⟩
      go_wp2
      go_ret2
      exact ⟨by simp, H2.out.1.kept z.ok, H2.out.2.trans z.ok.mut⟩

set_option maxHeartbeats 1000000 in
theorem rturn_any (w : World) (h : CTab 39 w p S) :
    Calls Try.prog 13 #[.pointer (some ⟨p, 0, none⟩)] w fun e w' => e = .returned (.bool (turns S)) ∧ CTab 39 w' p (turnS S) ∧ Mut [p] w w' := by
  have HT : Hid (CTab 39 w p S) := h
  have HO : Hid (turnS S).Ok := h.ok.turn
  have h1 := h.ok.max
  have h2 := h.ok.two
  have hp := h.lt
  have q1 := KW.cell (a := ⟨p, 1, none⟩) hp h.c1
  have q3 := KW.cell (a := ⟨p, 3, none⟩) hp h.c3
  have q4 := KW.cell (a := ⟨p, 4, none⟩) hp h.c4
  clear h
  obtain ⟨s, c, k, a, b⟩ := S
  simp only [CS.o, CS.u, turns, turnS] at *
  rcases h2 with rfl | rfl
  · simp only [if_true, z0, Nat.sub_zero] at *
    by_cases hb : b = 0
    · subst hb
      simp only [beq_self_eq_true, if_true, z0] at *
      go_enter Try.func13, Try.ntmps13
      go_wp2_with fail
      refine wp_region_kept (by kernel_rfl) (by kernel_rfl) fun _ => ?_
      repeat (go_big_quiet_step (fail))
      refine wpQuiet_nil ?_
      rintro _ ⟨z, rfl⟩
      clear q1 q3 q4
      have HZ : Hid (CTab 39 z.it p _ ∧ Kept w z.it) := ⟨HT.out.kept z.ok, z.ok⟩
      have c1 := HZ.out.1.c1
      have c2 := HZ.out.1.c2
      have cu := HZ.out.1.c3
      have fz := HZ.out.1.fz
      simp only [z0] at c1
      generalize z.it = w1 at *
      go_wp2
      go_region
      go_wp2
      go_ret
      exact ⟨rfl, ⟨(HZ.out.1.own.set 2 _).drew.set 1 _, HO.out⟩, ((HZ.out.2.mut.setCell (by simp) _).drew).setCell (by simp) _⟩
    · have hb2 : (b == 0) = false := by simpa using hb
      have hb3 : ((b : Int) == 0) = false := by simpa using hb
      have hb4 : ((b : Int) != 0) = true := by simpa using hb
      simp only [hb2, if_false, Bool.false_eq_true] at HO ⊢
      go_enter Try.func13, Try.ntmps13
      go_wp2_with fail
      refine wp_region_kept (by kernel_rfl) (by kernel_rfl) fun _ => ?_
      repeat (go_big_quiet_step (fail))
      refine wpQuiet_nil ?_
      rintro _ ⟨z, rfl⟩
      clear q1 q3 q4
      have HZ : Hid (CTab 39 z.it p _ ∧ Kept w z.it) := ⟨HT.out.kept z.ok, z.ok⟩
      generalize z.it = w1 at *
      go_wp2
      go_ret
      exact ⟨rfl, HZ.out.1, HZ.out.2.mut⟩
  · simp only [if_false, Nat.one_ne_zero, z1, Nat.sub_self] at *
    by_cases hb : a = 0
    · subst hb
      simp only [beq_self_eq_true, if_true, z0] at *
      go_enter Try.func13, Try.ntmps13
      go_wp2_with fail
      refine wp_region_kept (by kernel_rfl) (by kernel_rfl) fun _ => ?_
      repeat (go_big_quiet_step (fail))
      refine wpQuiet_nil ?_
      rintro _ ⟨z, rfl⟩
      clear q1 q3 q4
      have HZ : Hid (CTab 39 z.it p _ ∧ Kept w z.it) := ⟨HT.out.kept z.ok, z.ok⟩
      have c1 := HZ.out.1.c1
      have c2 := HZ.out.1.c2
      have cu := HZ.out.1.c4
      have fz := HZ.out.1.fz
      simp only [z1] at c1
      generalize z.it = w1 at *
      go_wp2
      go_region
      go_wp2
      go_ret
      exact ⟨rfl, ⟨(HZ.out.1.own.set 2 _).drew.set 1 _, HO.out⟩, ((HZ.out.2.mut.setCell (by simp) _).drew).setCell (by simp) _⟩
    · have hb2 : (a == 0) = false := by simpa using hb
      have hb3 : ((a : Int) == 0) = false := by simpa using hb
      have hb4 : ((a : Int) != 0) = true := by simpa using hb
      simp only [hb2, if_false, Bool.false_eq_true] at HO ⊢
      go_enter Try.func13, Try.ntmps13
      go_wp2_with fail
      refine wp_region_kept (by kernel_rfl) (by kernel_rfl) fun _ => ?_
      repeat (go_big_quiet_step (fail))
      refine wpQuiet_nil ?_
      rintro _ ⟨z, rfl⟩
      clear q1 q3 q4
      have HZ : Hid (CTab 39 z.it p _ ∧ Kept w z.it) := ⟨HT.out.kept z.ok, z.ok⟩
      generalize z.it = w1 at *
      go_wp2
      go_ret
      exact ⟨rfl, HZ.out.1, HZ.out.2.mut⟩

set_option maxHeartbeats 1000000 in
theorem rdone_any (w : World) (h : CTab 39 w p S) :
    Calls Try.prog 19 #[.pointer (some ⟨p, 0, none⟩)] w fun e w' => e = .returned (.bool (dones S)) ∧ CTab 39 w' p (doneS S) ∧ Mut [p] w w' := by
  have HT : Hid (CTab 39 w p S) := h
  have HO : Hid (doneS S).Ok := h.ok.done
  have h2 := h.ok.two
  have c1 := h.c1
  have c2 := h.c2
  have q3 := h.c3
  have q4 := h.c4
  have fz := h.fz
  clear h
  obtain ⟨s, c, k, a, b⟩ := S
  simp only [dones, doneS] at *
  by_cases hb : k = 0
  · subst hb
    simp only [beq_self_eq_true, if_true, z0] at *
    rcases h2 with rfl | rfl
    · simp only [if_true, z0] at *
      go_enter Try.func19, Try.ntmps19
      go_wp2_with fail
      go_region
      all_goals go_wp2
      all_goals go_ret
      all_goals exact ⟨rfl, ⟨HT.out.own.drew.set 4 _, HO.out⟩, (Mut.refl _ _).drew.setCell (by simp) _⟩
    · simp only [if_false, Nat.one_ne_zero, z1] at *
      go_enter Try.func19, Try.ntmps19
      go_wp2_with fail
      go_region
      all_goals go_wp2
      all_goals go_ret
      all_goals exact ⟨rfl, ⟨HT.out.own.drew.set 3 _, HO.out⟩, (Mut.refl _ _).drew.setCell (by simp) _⟩
  · have hb2 : (k == 0) = false := by simpa using hb
    have hb3 : ((k : Int) == 0) = false := by simpa using hb
    have hb4 : ((k : Int) != 0) = true := by simpa using hb
    simp only [hb2, if_false, Bool.false_eq_true] at HO ⊢
    go_enter Try.func19, Try.ntmps19
    go_wp2
    go_ret
    exact ⟨rfl, HT.out, Mut.refl _ _⟩
end
end Go.Proofs.Ytfddcfmgigaabaa
