/-
  Contracts of package coil: the methods that write.
-/
import Derived.Test.YtahpnnjemjjfhaaCoil
namespace Go.Proofs.Ytahpnnjemjjfhaa
open Go.RowKit

section
variable {p : Nat} {S : CS}

theorem Own.drew {w : World} {b : Nat} {t : TypeId} {L : List Value} (h : Own w b t L) : Own w.drew b t L := h
theorem CTab.drew {w : World} {t : TypeId} (h : CTab t w p S) : CTab t w.drew p S := ⟨h.own.drew, h.ok⟩
/-- One cell written anew. -/
theorem CTab.put {w : World} {t : TypeId} (h : CTab t w p S) (i : Nat) (v : Value) {S' : CS} (e : S.cells.set i v = S'.cells) (ok : S'.Ok) : CTab t (w.setCell ⟨p, i, none⟩ v) p S' :=
  ⟨e ▸ h.own.set i v, ok⟩

set_option maxHeartbeats 1000000 in
theorem kuse_any (m : Nat) (w : World) (h : CTab 94 w p S) (hm : S.u + m + S.k ≤ S.s) :
    Calls Try.prog 99 #[.pointer (some ⟨p, 0, none⟩), .int .i64 (m : Int)] w fun e w' => e = .returned (.int .i64 (S.u : Int)) ∧ CTab 94 w' p (putU S m) ∧ Mut [p] w w' := by
  have HT : Hid (CTab 94 w p S) := h
  have HM : Hid (S.u + m + S.k ≤ S.s) := hm
  have hp := h.lt
  have c1 := KW.cell (a := ⟨p, 1, none⟩) hp h.c1
  have c3 := KW.cell (a := ⟨p, 3, none⟩) hp h.c3
  have c4 := KW.cell (a := ⟨p, 4, none⟩) hp h.c4
  have h1 := h.ok.max
  have h2 := h.ok.two
  clear h hp
  obtain ⟨s, c, k, a, b⟩ := S
  simp only [CS.u] at *
  rcases h2 with rfl | rfl
  all_goals simp only [if_true, if_false, Nat.one_ne_zero, z0, z1] at *
  all_goals go_enter Try.func99, Try.ntmps99
  all_goals go_wp2
  all_goals refine wp_region_kept (by kernel_rfl) (by kernel_rfl) fun _ => ?_
  all_goals repeat (go_big_quiet_step (fail))
  all_goals refine wpQuiet_nil ?_
  all_goals rintro _ ⟨z, rfl⟩
  all_goals clear c1 c3 c4
  all_goals have HZ : Hid (CTab 94 z.it p _ ∧ Kept w z.it) := ⟨HT.out.kept z.ok, z.ok⟩
  all_goals have c1 := HZ.out.1.c1
  all_goals have c3 := HZ.out.1.c3
  all_goals have c4 := HZ.out.1.c4
  all_goals have fz := HZ.out.1.fz
  all_goals simp only [z0, z1] at c1 c3 c4
  all_goals generalize z.it = w1 at *
  all_goals go_wp2
  all_goals go_region
  all_goals go_wp2
  all_goals go_ret
  · refine ⟨rfl, HZ.out.1.drew.put 3 _ ?_ ?_, (HZ.out.2.mut.drew).setCell (by simp) _⟩
    · simp [CS.cells, putU]
    · have := HZ.out.1.ok
      obtain ⟨g1, g2, g3, g4, g5⟩ := this
      simp only [CS.u, CS.o, if_true] at *
      constructor <;> simp [putU, CS.u, CS.o] <;> omega
  · refine ⟨rfl, HZ.out.1.drew.put 4 _ ?_ ?_, (HZ.out.2.mut.drew).setCell (by simp) _⟩
    · simp [CS.cells, putU]
    · have := HZ.out.1.ok
      obtain ⟨g1, g2, g3, g4, g5⟩ := this
      simp only [CS.u, CS.o, if_false, Nat.one_ne_zero] at *
      constructor <;> simp [putU, CS.u, CS.o] <;> omega

theorem takes_room {n : Int} (h : takes S n = true) : ∃ m : Nat, n = m ∧ 1 ≤ m ∧ S.u + m + S.k ≤ S.s ∧ (m : Int) ≤ roomF S := by
  have h : 1 ≤ n ∧ n ≤ roomF S := of_decide_eq_true h
  unfold roomF at *
  exact ⟨n.toNat, by omega, by omega, by omega, by omega⟩

set_option maxHeartbeats 1000000 in
theorem ktake_any (n : Int) (w : World) (h : CTab 94 w p S) :
    Calls Try.prog 93 #[.pointer (some ⟨p, 0, none⟩), .int .i64 n] w fun e w' => e = .returned (.tuple #[.int .i64 (takeA S n), .bool (takes S n)]) ∧ CTab 94 w' p (takeS S n) ∧ Mut [p] w w' := by
  have HT : Hid (CTab 94 w p S) := h
  clear h
  cases ht : takes S n
  · simp only [takeA, takeS, ht, if_false, Bool.false_eq_true]
    by_cases h1 : n < 1
    · clear ht
      go_enter Try.func93, Try.ntmps93
      go_wp2
      go_ret2
      exact ⟨rfl, HT.out, Mut.refl _ _⟩
    · have h2 : roomF S < n := by
        simp only [takes, decide_eq_false_iff_not] at ht
        omega
      clear ht
      generalize hr : roomF S = r at h2
      have HR := kroom_any _ HT.out
      rw [hr] at HR
      clear hr
      go_enter Try.func93, Try.ntmps93
      go_wp2_with fail
      refine HR.mono ?_
      rintro e w1 ⟨rfl, k1⟩
      have H1 : Hid (CTab 94 w1 p S ∧ Kept w w1) := ⟨HT.out.kept k1, k1⟩
      clear k1
      go_wp2
      go_ret2
      exact ⟨rfl, H1.out.1, H1.out.2.mut⟩
  · simp only [takeA, takeS, ht, if_true]
    obtain ⟨m, rfl, hm1, hm2, hm3⟩ := takes_room ht
    clear ht
    have HM : Hid (S.u + m + S.k ≤ S.s) := hm2
    clear hm2
    have HR := kroom_any _ HT.out
    generalize hr : roomF S = r at hm3 HR
    clear hr
    go_enter Try.func93, Try.ntmps93
    go_wp2_with fail
    refine HR.mono ?_
    rintro e w1 ⟨rfl, k1⟩
    have H1 : Hid (CTab 94 w1 p S ∧ Kept w w1) := ⟨HT.out.kept k1, k1⟩
    clear k1
    go_wp2_with fail
    refine (kuse_any m _ H1.out.1 HM.out).mono ?_
    rintro e w2 ⟨rfl, t2, m2⟩
    have H2 : Hid (CTab 94 w2 p (putU S m) ∧ Mut [p] w w2) := ⟨t2, H1.out.2.mut.trans m2⟩
    clear t2 m2
    go_wp2
    go_ret2
    exact ⟨rfl, H2.out.1, H2.out.2⟩

theorem skips_room {n : Int} (h : skips S n = true) : ∃ m : Nat, n = m ∧ 1 ≤ m ∧ m ≤ S.k := by
  simp only [skips, decide_eq_true_eq] at h
  exact ⟨n.toNat, by omega, by omega, by omega⟩

end
end Go.Proofs.Ytahpnnjemjjfhaa
