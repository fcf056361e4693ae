/-
  Contracts of package coil: the methods that write.
-/
import Derived.Test.YtgnikgkpbibmgaaCoil
namespace Go.Proofs.Ytgnikgkpbibmgaa
open Go.RowKit

section
variable {p : Nat} {S : CS}

theorem Own.drew {w : World} {b : Nat} {t : TypeId} {L : List Value} (h : Own w b t L) : Own w.drew b t L := h
theorem CTab.drew {w : World} {t : TypeId} (h : CTab t w p S) : CTab t w.drew p S := ⟨h.own.drew, h.ok⟩
/-- One cell written anew. -/
theorem CTab.put {w : World} {t : TypeId} (h : CTab t w p S) (i : Nat) (v : Value) {S' : CS} (e : S.cells.set i v = S'.cells) (ok : S'.Ok) : CTab t (w.setCell ⟨p, i, none⟩ v) p S' :=
  ⟨e ▸ h.own.set i v, ok⟩

set_option maxHeartbeats 1000000 in
theorem use_any (m : Nat) (w : World) (h : CTab 73 w p S) (hm : S.u + m + S.k ≤ S.s) :
    Calls Try.prog 41 #[.pointer (some ⟨p, 0, none⟩), .int .i64 (m : Int)] w fun e w' => e = .returned (.int .i64 (S.u : Int)) ∧ CTab 73 w' p (putU S m) ∧ Mut [p] w w' := by
  have HT : Hid (CTab 73 w p S) := h
  have HM : Hid (S.u + m + S.k ≤ S.s) := hm
  have hp := h.lt
  have c1 := KW.cell (a := ⟨p, 1, none⟩) hp h.c1
  have c3 := KW.cell (a := ⟨p, 3, none⟩) hp h.c3
  have c4 := KW.cell (a := ⟨p, 4, none⟩) hp h.c4
  have h1 := h.ok.max
  have h2 := h.ok.two
  clear h hp
  obtain ⟨s, c, k, a, b⟩ := S
  simp only [CS.u] at *
  rcases h2 with rfl | rfl
  all_goals simp only [if_true, if_false, Nat.one_ne_zero, z0, z1] at *
  all_goals go_enter Try.func41, Try.ntmps41
  all_goals go_wp2
  all_goals refine wp_region_kept (by kernel_rfl) (by kernel_rfl) fun _ => ?_
  all_goals repeat (go_big_quiet_step (fail))
  all_goals refine wpQuiet_nil ?_
  all_goals rintro _ ⟨z, rfl⟩
  all_goals clear c1 c3 c4
  all_goals have HZ : Hid (CTab 73 z.it p _ ∧ Kept w z.it) := ⟨HT.out.kept z.ok, z.ok⟩
  all_goals have c1 := HZ.out.1.c1
  all_goals have c3 := HZ.out.1.c3
  all_goals have c4 := HZ.out.1.c4
  all_goals have fz := HZ.out.1.fz
  all_goals simp only [z0, z1] at c1 c3 c4
  all_goals generalize z.it = w1 at *
  all_goals go_wp2
  all_goals go_region
  all_goals go_wp2
  all_goals go_ret
  · refine ⟨rfl, HZ.out.1.drew.put 3 _ ?_ ?_, (HZ.out.2.mut.drew).setCell (by simp) _⟩
    · simp [CS.cells, putU]
    · have := HZ.out.1.ok
      obtain ⟨g1, g2, g3, g4, g5⟩ := this
      simp only [CS.u, CS.o, if_true] at *
      constructor <;> simp [putU, CS.u, CS.o] <;> omega
  · refine ⟨rfl, HZ.out.1.drew.put 4 _ ?_ ?_, (HZ.out.2.mut.drew).setCell (by simp) _⟩
    · simp [CS.cells, putU]
    · have := HZ.out.1.ok
      obtain ⟨g1, g2, g3, g4, g5⟩ := this
      simp only [CS.u, CS.o, if_false, Nat.one_ne_zero] at *
      constructor <;> simp [putU, CS.u, CS.o] <;> omega

theorem takes_room {n : Int} (h : takes S n = true) : ∃ m : Nat, n = m ∧ 1 ≤ m ∧ S.u + m + S.k ≤ S.s ∧ (m : Int) ≤ roomF S := by
  have h : 1 ≤ n ∧ n ≤ roomF S := of_decide_eq_true h
  unfold roomF at *
  exact ⟨n.toNat, by omega, by omega, by omega, by omega⟩

set_option maxHeartbeats 1000000 in
theorem ktake_any (n : Int) (w : World) (h : CTab 73 w p S) :
    Calls Try.prog 15 #[.pointer (some ⟨p, 0, none⟩), .int .i64 n] w fun e w' => e = .returned (.tuple #[.int .i64 (takeA S n), .bool (takes S n)]) ∧ CTab 73 w' p (takeS S n) ∧ Mut [p] w w' := by
  have HT : Hid (CTab 73 w p S) := h
  clear h
  cases ht : takes S n
  · simp only [takeA, takeS, ht, if_false, Bool.false_eq_true]
    by_cases h1 : n < 1
    · clear ht
      go_enter Try.func15, Try.ntmps15
      go_wp2
      go_ret2
      exact ⟨rfl, HT.out, Mut.refl _ _⟩
    · have h2 : roomF S < n := by
        simp only [takes, decide_eq_false_iff_not] at ht
        omega
      clear ht
      generalize hr : roomF S = r at h2
      have HR := kroom_any _ HT.out
      rw [hr] at HR
      clear hr
      go_enter Try.func15, Try.ntmps15
      go_wp2_with fail
      refine HR.mono ?_
      rintro e w1 ⟨rfl, k1⟩
      have H1 : Hid (CTab 73 w1 p S ∧ Kept w w1) := ⟨HT.out.kept k1, k1⟩
      clear k1
      go_wp2
      go_ret2
      exact ⟨rfl, H1.out.1, H1.out.2.mut⟩
  · simp only [takeA, takeS, ht, if_true]
    obtain ⟨m, rfl, hm1, hm2, hm3⟩ := takes_room ht
    clear ht
    have HM : Hid (S.u + m + S.k ≤ S.s) := hm2
    clear hm2
    have HR := kroom_any _ HT.out
    generalize hr : roomF S = r at hm3 HR
    clear hr
    go_enter Try.func15, Try.ntmps15
    go_wp2_with fail
    refine HR.mono ?_
    rintro e w1 ⟨rfl, k1⟩
    have H1 : Hid (CTab 73 w1 p S ∧ Kept w w1) := ⟨HT.out.kept k1, k1⟩
    clear k1
    go_wp2_with fail
    refine (use_any m _ H1.out.1 HM.out).mono ?_
    rintro e w2 ⟨rfl, t2, m2⟩
    have H2 : Hid (CTab 73 w2 p (putU S m) ∧ Mut [p] w w2) := ⟨t2, H1.out.2.mut.trans m2⟩
    clear t2 m2
    go_wp2
    go_ret2
    exact ⟨rfl, H2.out.1, H2.out.2⟩

theorem skips_room {n : Int} (h : skips S n = true) : ∃ m : Nat, n = m ∧ 1 ≤ m ∧ m ≤ S.k := by
  simp only [skips, decide_eq_true_eq] at h
  exact ⟨n.toNat, by omega, by omega, by omega⟩

set_option maxHeartbeats 1000000 in
theorem kskip_any (n : Int) (w : World) (h : CTab 73 w p S) :
    Calls Try.prog 63 #[.pointer (some ⟨p, 0, none⟩), .int .i64 n] w fun e w' => e = .returned (.bool (skips S n)) ∧ CTab 73 w' p (skipS S n) ∧ Mut [p] w w' := by
  have HT : Hid (CTab 73 w p S) := h
  have c2 := h.c2
  have fz := h.fz
  have hk : S.k ≤ 2048 := by have := h.ok.max; have := h.ok.fit; omega
  have HO := h.ok.skip n
  clear h
  cases ht : skips S n
  · simp only [skipS, ht, if_false, Bool.false_eq_true]
    by_cases h1 : n < 1
    · clear ht
      go_enter Try.func63, Try.ntmps63
      go_wp2
      go_ret
      exact ⟨rfl, HT.out, Mut.refl _ _⟩
    · have h2 : (S.k : Int) < n := by
        simp only [skips, decide_eq_false_iff_not] at ht
        omega
      clear ht
      go_enter Try.func63, Try.ntmps63
      go_wp2
      go_ret
      exact ⟨rfl, HT.out, Mut.refl _ _⟩
  · simp only [skipS, ht, if_true] at HO ⊢
    obtain ⟨m, rfl, hm1, hm2⟩ := skips_room ht
    clear ht
    have HO2 : Hid _ := HO
    clear HO
    have e : ((S.k : Int) - (m : Int)) = ((S.k - m : Nat) : Int) := by omega
    go_enter Try.func63, Try.ntmps63
    go_wp2
    go_ret
    refine ⟨rfl, HT.out.put 2 _ ?_ HO2.out, (Mut.refl _ _).setCell (by simp) _⟩
    simp [CS.cells]

set_option maxHeartbeats 1000000 in
theorem kcopy_any (n : Int) (w : World) (h : CTab 73 w p S) :
    Calls Try.prog 62 #[.pointer (some ⟨p, 0, none⟩), .int .i64 n] w fun e w' => e = .returned (.tuple #[.int .i64 (copyA S n), .bool (skips S n)]) ∧ CTab 73 w' p (copyS S n) ∧ Mut [p] w w' := by
  have HT : Hid (CTab 73 w p S) := h
  have HS := kskip_any n _ h
  clear h
  cases ht : skips S n
  · simp only [copyA, copyS, skipS, ht, if_false, Bool.false_eq_true] at HS ⊢
    clear ht
    go_enter Try.func62, Try.ntmps62
    go_wp2_with fail
    refine HS.mono ?_
    rintro e w1 ⟨rfl, t1, m1⟩
    have H1 : Hid (CTab 73 w1 p S ∧ Mut [p] w w1) := ⟨t1, m1⟩
    clear t1 m1
    go_wp2
    go_ret2
    exact ⟨rfl, H1.out⟩
  · simp only [copyA, copyS, skipS, ht, if_true] at HS ⊢
    obtain ⟨m, rfl, hm1, hm2⟩ := skips_room ht
    clear ht
    have HM : Hid (m ≤ S.k) := hm2
    clear hm2
    simp only [Int.toNat_natCast] at HS ⊢
    have e : S.u = CS.u { S with k := S.k - m } := rfl
    rw [e]
    clear e
    generalize hS : ({ S with k := S.k - m } : CS) = S1 at *
    have HF : Hid (S1.u + m + S1.k ≤ S1.s) := by
      subst hS
      have := HT.out.ok.fit
      have := HM.out
      show CS.u S + m + (S.k - m) ≤ S.s
      omega
    clear hS
    go_enter Try.func62, Try.ntmps62
    go_wp2_with fail
    refine HS.mono ?_
    rintro e w1 ⟨rfl, t1, m1⟩
    have H1 : Hid (CTab 73 w1 p S1 ∧ Mut [p] w w1) := ⟨t1, m1⟩
    clear t1 m1
    go_wp2_with fail
    refine (use_any m _ H1.out.1 HF.out).mono ?_
    rintro e w2 ⟨rfl, t2, m2⟩
    have H2 : Hid (CTab 73 w2 p (putU S1 m) ∧ Mut [p] w w2) := ⟨t2, H1.out.2.trans m2⟩
    clear t2 m2
    go_wp2
    go_ret2
    exact ⟨rfl, H2.out.1, H2.out.2⟩

set_option maxHeartbeats 1000000 in
theorem kturn_any (w : World) (h : CTab 73 w p S) :
    Calls Try.prog 16 #[.pointer (some ⟨p, 0, none⟩)] w fun e w' => e = .returned (.bool (turns S)) ∧ CTab 73 w' p (turnS S) ∧ Mut [p] w w' := by
  have HT : Hid (CTab 73 w p S) := h
  have HO : Hid (turnS S).Ok := h.ok.turn
  have h1 := h.ok.max
  have h2 := h.ok.two
  have hp := h.lt
  have q3 := KW.cell (a := ⟨p, 3, none⟩) hp h.c3
  have q4 := KW.cell (a := ⟨p, 4, none⟩) hp h.c4
  clear h
  obtain ⟨s, c, k, a, b⟩ := S
  have G : Hid (∀ x : KW w, Calls Try.prog 42 #[.pointer (some ⟨p, 0, none⟩)] x.it fun e w' => e = .returned (.int .i64 ((1 - c : Nat) : Int)) ∧ Kept x.it w') := fun x => (kother_any _ (HT.out.kept x.ok)).mono (by rintro e w' ⟨rfl, rfl⟩; exact ⟨rfl, Kept.refl _⟩)
  simp only [CS.o, CS.u, turns, turnS] at *
  rcases h2 with rfl | rfl
  · simp only [if_true, z1, Nat.sub_zero] at *
    by_cases hb : b = 0
    · subst hb
      simp only [beq_self_eq_true, if_true, z0] at *
      go_enter Try.func16, Try.ntmps16
      go_wp2_with fail
      refine wp_region_kept (by kernel_rfl) (by kernel_rfl) fun _ => ?_
      repeat (go_big_quiet_step ((go_at_call 42; exact kept_of (G.out _))))
      refine wpQuiet_nil ?_
      rintro _ ⟨z, rfl⟩
      clear q3 q4
      have HZ : Hid (CTab 73 z.it p _ ∧ Kept w z.it) := ⟨HT.out.kept z.ok, z.ok⟩
      have c1 := HZ.out.1.c1
      have c2 := HZ.out.1.c2
      have cu := HZ.out.1.c3
      have fz := HZ.out.1.fz
      simp only [z0] at c1
      generalize z.it = w1 at *
      go_wp2
      go_region
      clear c1 c2 cu fz
      have H2 : Hid (Own ((w1.setCell ⟨p, 2, none⟩ (.int .i64 (a : Int))).drew) p 73 (CS.cells ⟨s, 0, a, a, 0⟩) ∧ Mut [p] w ((w1.setCell ⟨p, 2, none⟩ (.int .i64 (a : Int))).drew)) := ⟨(HZ.out.1.own.set 2 _).drew, (HZ.out.2.mut.setCell (by simp) _).drew⟩
      go_wp2_with fail
      generalize (w1.setCell ⟨p, 2, none⟩ (.int .i64 (a : Int))).drew = w2 at *
      refine (kother_aux 0 _ (H2.out.1.blk.at 1 rfl) (by omega)).mono ?_
      rintro e w3 ⟨rfl, rfl⟩
      have fz := H2.out.1.blk.fz
      have c1 : w3.cell? ⟨p, 1, none⟩ = some (.int .i64 0) := H2.out.1.blk.at 1 rfl
      go_wp2
      go_ret
      exact ⟨rfl, ⟨H2.out.1.set 1 _, HO.out⟩, H2.out.2.setCell (by simp) _⟩
    · have hb2 : (b == 0) = false := by simpa using hb
      have hb3 : ((b : Int) == 0) = false := by simpa using hb
      have hb4 : ((b : Int) != 0) = true := by simpa using hb
      simp only [hb2, if_false, Bool.false_eq_true] at HO ⊢
      go_enter Try.func16, Try.ntmps16
      go_wp2_with fail
      refine wp_region_kept (by kernel_rfl) (by kernel_rfl) fun _ => ?_
      repeat (go_big_quiet_step ((go_at_call 42; exact kept_of (G.out _))))
      refine wpQuiet_nil ?_
      rintro _ ⟨z, rfl⟩
      clear q3 q4
      have HZ : Hid (CTab 73 z.it p _ ∧ Kept w z.it) := ⟨HT.out.kept z.ok, z.ok⟩
      generalize z.it = w1 at *
      go_wp2
      go_ret
      exact ⟨rfl, HZ.out.1, HZ.out.2.mut⟩
  · simp only [if_false, Nat.one_ne_zero, z0, Nat.sub_self] at *
    by_cases hb : a = 0
    · subst hb
      simp only [beq_self_eq_true, if_true, z0] at *
      go_enter Try.func16, Try.ntmps16
      go_wp2_with fail
      refine wp_region_kept (by kernel_rfl) (by kernel_rfl) fun _ => ?_
      repeat (go_big_quiet_step ((go_at_call 42; exact kept_of (G.out _))))
      refine wpQuiet_nil ?_
      rintro _ ⟨z, rfl⟩
      clear q3 q4
      have HZ : Hid (CTab 73 z.it p _ ∧ Kept w z.it) := ⟨HT.out.kept z.ok, z.ok⟩
      have c1 := HZ.out.1.c1
      have c2 := HZ.out.1.c2
      have cu := HZ.out.1.c4
      have fz := HZ.out.1.fz
      simp only [z1] at c1
      generalize z.it = w1 at *
      go_wp2
      go_region
      clear c1 c2 cu fz
      have H2 : Hid (Own ((w1.setCell ⟨p, 2, none⟩ (.int .i64 (b : Int))).drew) p 73 (CS.cells ⟨s, 1, b, 0, b⟩) ∧ Mut [p] w ((w1.setCell ⟨p, 2, none⟩ (.int .i64 (b : Int))).drew)) := ⟨(HZ.out.1.own.set 2 _).drew, (HZ.out.2.mut.setCell (by simp) _).drew⟩
      go_wp2_with fail
      generalize (w1.setCell ⟨p, 2, none⟩ (.int .i64 (b : Int))).drew = w2 at *
      refine (kother_aux 1 _ (H2.out.1.blk.at 1 rfl) (by omega)).mono ?_
      rintro e w3 ⟨rfl, rfl⟩
      have fz := H2.out.1.blk.fz
      have c1 : w3.cell? ⟨p, 1, none⟩ = some (.int .i64 1) := H2.out.1.blk.at 1 rfl
      go_wp2
      go_ret
      exact ⟨rfl, ⟨H2.out.1.set 1 _, HO.out⟩, H2.out.2.setCell (by simp) _⟩
    · have hb2 : (a == 0) = false := by simpa using hb
      have hb3 : ((a : Int) == 0) = false := by simpa using hb
      have hb4 : ((a : Int) != 0) = true := by simpa using hb
      simp only [hb2, if_false, Bool.false_eq_true] at HO ⊢
      go_enter Try.func16, Try.ntmps16
      go_wp2_with fail
      refine wp_region_kept (by kernel_rfl) (by kernel_rfl) fun _ => ?_
      repeat (go_big_quiet_step ((go_at_call 42; exact kept_of (G.out _))))
      refine wpQuiet_nil ?_
      rintro _ ⟨z, rfl⟩
      clear q3 q4
      have HZ : Hid (CTab 73 z.it p _ ∧ Kept w z.it) := ⟨HT.out.kept z.ok, z.ok⟩
      generalize z.it = w1 at *
      go_wp2
      go_ret
      exact ⟨rfl, HZ.out.1, HZ.out.2.mut⟩

set_option maxHeartbeats 1000000 in
theorem kdone_any (w : World) (h : CTab 73 w p S) :
    Calls Try.prog 27 #[.pointer (some ⟨p, 0, none⟩)] w fun e w' => e = .returned (.bool (dones S)) ∧ CTab 73 w' p (doneS S) ∧ Mut [p] w w' := by
  have HT : Hid (CTab 73 w p S) := h
  have HO : Hid (doneS S).Ok := h.ok.done
  have h2 := h.ok.two
  have c2 := h.c2
  have q3 := h.c3
  have q4 := h.c4
  have fz := h.fz
  clear h
  obtain ⟨s, c, k, a, b⟩ := S
  have G : Hid (∀ x : World, x.cell? ⟨p, 1, none⟩ = some (.int .i64 (c : Int)) → Calls Try.prog 42 #[.pointer (some ⟨p, 0, none⟩)] x fun e w' => e = .returned (.int .i64 ((1 - c : Nat) : Int)) ∧ w' = x) := fun x hx => kother_aux c x hx h2
  have C1 : Hid (w.cell? ⟨p, 1, none⟩ = some (.int .i64 (c : Int))) := HT.out.c1
  simp only [dones, doneS] at *
  by_cases hb : k = 0
  · subst hb
    simp only [beq_self_eq_true, if_true, z0] at *
    rcases h2 with rfl | rfl
    · simp only [if_true, z0, z1, Nat.sub_zero] at *
      go_enter Try.func27, Try.ntmps27
      go_wp2_with fail
      go_region_with (go_at_call 42; refine (G.out w.drew C1.out).mono ?_; rintro r w2 ⟨rfl, rfl⟩)
      all_goals go_wp2
      all_goals go_ret
      all_goals exact ⟨rfl, ⟨HT.out.own.drew.set 4 _, HO.out⟩, (Mut.refl _ _).drew.setCell (by simp) _⟩
    · simp only [if_false, Nat.one_ne_zero, z0, z1, Nat.sub_self] at *
      go_enter Try.func27, Try.ntmps27
      go_wp2_with fail
      go_region_with (go_at_call 42; refine (G.out w.drew C1.out).mono ?_; rintro r w2 ⟨rfl, rfl⟩)
      all_goals go_wp2
      all_goals go_ret
      all_goals exact ⟨rfl, ⟨HT.out.own.drew.set 3 _, HO.out⟩, (Mut.refl _ _).drew.setCell (by simp) _⟩
  · have hb2 : (k == 0) = false := by simpa using hb
    have hb3 : ((k : Int) == 0) = false := by simpa using hb
    have hb4 : ((k : Int) != 0) = true := by simpa using hb
    simp only [hb2, if_false, Bool.false_eq_true] at HO ⊢
    go_enter Try.func27, Try.ntmps27
    go_wp2
    go_ret
    exact ⟨rfl, HT.out, Mut.refl _ _⟩
end
end Go.Proofs.Ytgnikgkpbibmgaa
