/-
  CoilRoom: the walk.
-/
import Derived.Test.YtfddcfmgigaabaaCoilKeptWalk
import Derived.Test.YtfddcfmgigaabaaOpen11
import Derived.Test.YtfddcfmgigaabaaPhase
import Derived.Deep.CutBlock
namespace Go.Proofs.Ytfddcfmgigaabaa
open Go.RowKit

theorem Own.apart {w : World} {b g : Nat} {t e : TypeId} {L M : List Value} (h : Own w b t L) (k : Own w g e M) (ht : t ≠ e) : b ≠ g := by
  rintro rfl
  unfold Own at h k
  rw [h] at k
  simp only [Option.some.injEq, Obj.cells.injEq] at k
  exact ht k.2.1

/-- The coil, where its words end, the operation. -/
structure Rm (w wr : World) (p g ob : Nat) (S : CS) (E0 E1 : Nat) (K N : Int) : Prop where
  mine : Mine w wr p S
  ends : Own wr g 37 [.int .i64 (E0 : Int), .int .i64 (E1 : Int)]
  op : Own wr ob 32 [.int .i64 K, .int .i64 N]
  log : w.heap.size ≤ g
section
variable {w wr wr' : World} {p g ob : Nat} {S S' : CS} {E0 E1 : Nat} {K N : Int}
theorem Rm.gp (h : Rm w wr p g ob S E0 E1 K N) : g ≠ p := h.ends.apart h.mine.tab.own (by decide)
theorem Rm.op_p (h : Rm w wr p g ob S E0 E1 K N) : ob ≠ p := h.op.apart h.mine.tab.own (by decide)
theorem Rm.op_g (h : Rm w wr p g ob S E0 E1 K N) : ob ≠ g := h.op.apart h.ends (by decide)
theorem Rm.still (h : Rm w wr p g ob S E0 E1 K N) (k : Kept wr wr') : Rm w wr' p g ob S E0 E1 K N := ⟨h.mine.still k, h.ends.kept k, h.op.kept k, h.log⟩
theorem Rm.step (h : Rm w wr p g ob S E0 E1 K N) (t : CTab 47 wr' p S') (m : Mut [p] wr wr') : Rm w wr' p g ob S' E0 E1 K N :=
  ⟨h.mine.step t m, h.ends.muts m (by simpa using h.gp), h.op.muts m (by simpa using h.op_p), h.log⟩
theorem Rm.eq (h : Rm w wr p g ob S E0 E1 K N) (e : S = S') : Rm w wr p g ob S' E0 E1 K N := e ▸ h
theorem Rm.kept (h : Rm w wr p g ob S E0 E1 K N) : Kept w wr := h.mine.kept
/-- An end written anew. -/
theorem Rm.put {F0 F1 : Nat} (h : Rm w wr p g ob S E0 E1 K N) (m : Mut [g] wr wr') (o : Own wr' g 37 [.int .i64 (F0 : Int), .int .i64 (F1 : Int)]) : Rm w wr' p g ob S F0 F1 K N :=
  ⟨⟨h.mine.tab.muts m (by simpa using Ne.symm h.gp), h.mine.kept.muts m (by simpa using h.log), h.mine.lo⟩, o, h.op.muts m (by simpa using h.op_g), h.log⟩
end

set_option maxHeartbeats 2000000 in
set_option maxRecDepth 20000 in
theorem room_bad (s : Int) (x : Option Addr) (l c : Nat) (w : World) (hs : ¬ (0 ≤ s ∧ s ≤ 2048)) :
    Calls Try.prog 4 #[.int .i64 s, .slice x l c] w fun e w' => e = .returned (.bool true) ∧ Kept w w' := by
  have HN : Hid (∀ w, _) := fun w => new_bad s w hs
  clear hs
  go_enter Try.func4, Try.ntmps4
  go_wp2_with fail
  refine (first_any _).mono ?_
  rintro e w1 ⟨rfl, k1⟩
  have K1 : Hid (Kept w w1) := k1
  clear k1
  go_wp2_with fail
  refine (HN.out _).mono ?_
  rintro e w2 ⟨rfl, rfl⟩
  go_wp2_with fail
  refine (first_any _).mono ?_
  rintro e w3 ⟨rfl, k3⟩
  have K3 : Hid (Kept w w3) := K1.out.trans k3
  clear k3
  go_wp2
  go_ret
  exact ⟨rfl, K3.out⟩

set_option maxHeartbeats 4000000 in
set_option maxRecDepth 20000 in
theorem room_out (s : Nat) (x : Option Addr) (l c : Nat) (w : World) (hs : s ≤ 2048) (h1 : 500 < (l : Int)) :
    Calls Try.prog 4 #[.int .i64 (s : Int), .slice x l c] w fun e w' => e = .returned (.bool true) ∧ Kept w w' := by
  go_enter Try.func4, Try.ntmps4
  go_wp2_with fail
  refine (first_any _).mono ?_
  rintro e w1 ⟨rfl, k1⟩
  have K1 : Hid (Kept w w1) := k1
  clear k1
  go_wp2_with fail
  refine (new_any s _ hs).mono ?_
  rintro e w2 ⟨p, rfl, -, k2, -⟩
  have K2 : Hid (Kept w w2) := K1.out.trans k2
  clear k2 K1
  go_wp2_with fail
  refine (first_any _).mono ?_
  rintro e w3 ⟨rfl, k3⟩
  have K3 : Hid (Kept w w3) := K2.out.trans k3
  clear k3
  go_wp2
  go_ret
  exact ⟨rfl, K3.out⟩

set_option maxHeartbeats 20000000 in
set_option maxRecDepth 20000 in
theorem room_in (s : Nat) (x : Option Addr) (l c : Nat) (L : Nat → Op11) (w : World) (hX : Ops w x l L) (hB : ∀ i, i < l → IntKind.min .i64 ≤ (L i).n ∧ (L i).n ≤ IntKind.max .i64) (hs : (s : Int) ≤ 2048) (hl : (l : Int) ≤ 500) :
    Calls Try.prog 4 #[.int .i64 (s : Int), .slice x l c] w fun e w' => e = .returned (.bool true) ∧ Kept w w' := by
  have HX : Hid (Ops w x l L) := hX
  have HB : Hid (∀ i, i < l → IntKind.min .i64 ≤ (L i).n ∧ (L i).n ≤ IntKind.max .i64) := hB
  clear hX hB
  go_enter Try.func4, Try.ntmps4
  go_wp2_with fail
  refine (first_any _).mono ?_
  rintro e w1 ⟨rfl, k1⟩
  have K1 : Hid (Kept w w1) := k1
  clear k1
  go_wp2_with fail
  refine (new_any s _ (by omega)).mono ?_
  rintro e w2 ⟨p, rfl, t2, k2, l2⟩
  have H2 : Hid (Mine w w2 p ⟨s, 0, 0, 0, 0⟩) := ⟨t2, K1.out.trans k2, Nat.le_trans K1.out.size l2⟩
  clear k2 K1 t2 l2
  go_wp2_with fail
  generalize hW : w2.alloc _ = W2
  have H3 : Hid (Mine w W2 p ⟨s, 0, 0, 0, 0⟩ ∧ Own W2 w2.heap.size 37 [.int .i64 0, .int .i64 0] ∧ w.heap.size ≤ w2.heap.size) := by
    rw [← hW]
    exact ⟨H2.out.still ((Kept.refl _).alloc _ _), Own.new w2 _ _, H2.out.kept.size⟩
  clear hW H2
  generalize w2.heap.size = g at *
  go_loopg [8] l (fun m i wr' => ∃ (j : Nat), i = .int .i64 j ∧ j ≤ l ∧ m = l - j ∧ Hid (∃ S : CS, S.s = s ∧ Mine w wr' p S ∧ Own wr' g 37 [.int .i64 (S.a : Int), .int .i64 (S.b : Int)] ∧ w.heap.size ≤ g))
  case atStart => exact ⟨0, rfl, by omega, by omega, _, rfl, H3.out⟩
  case round =>
    obtain ⟨j, rfl, hj, hm, HR⟩ := hrel
    have HM : Hid _ := hm
    clear hm H3
    by_cases hlt : j < l
    · obtain ⟨bx, ox, rfl, hbx, hcx⟩ := HX.out.at (by omega)
      obtain ⟨S, hSs, hR⟩ := HR.out
      have e0 := (hR.1.kept.cell (a := ⟨bx, ox + j * 2, none⟩) hbx).trans (hcx j hlt).1
      have e1 := (hR.1.kept.cell (a := ⟨bx, ox + j * 2 + 1, none⟩) hbx).trans (hcx j hlt).2
      have hon := HB.out j hlt
      clear hcx hbx HX HB
      generalize (L j).k = ok at *
      generalize (L j).n = on at *
      have hi1 := hon.1
      have hi2 := hon.2
      clear hon
      obtain ⟨s0, c0, k, a, b⟩ := S
      obtain rfl : s0 = s := hSs
      have HS : Hid _ := hR
      clear hR HR
      obtain ⟨h1, h2, h3, h4, h5⟩ := HS.out.1.tab.ok
      simp only [CS.u, CS.o] at h1 h2 h3 h4 h5
      rcases h2 with rfl | rfl
      · simp only [if_true] at h3 h4 h5
        go_wp2_with fail
        generalize hW : wr.alloc _ = W
        have HW : Hid (Rm w W p g wr.heap.size ⟨s0, 0, k, a, b⟩ a b ok on) := by
          rw [← hW]
          exact ⟨HS.out.1.still ((Kept.refl _).alloc _ _), HS.out.2.1.kept ((Kept.refl _).alloc _ _), Own.new wr [.int .i64 ok, .int .i64 on] _, HS.out.2.2⟩
        clear hW HS e0 e1
        generalize wr.heap.size = ob at *
        refine (current_any _ HW.out.mine.tab).mono ?_
        rintro e w4 ⟨rfl, rfl⟩
        simp only [z0]
        go_wp2_with fail
        refine (left_any _ HW.out.mine.tab).mono ?_
        rintro e w5 ⟨rfl, rfl⟩
        have b0 := HW.out.op.blk.at 0 rfl
        go_upto_block 2 with fail
        clear b0
        have b1 := HW.out.op.blk.at 1 rfl
        go_cut [11, 12] from 63 to 163 (fun vat vok wc => ∃ (q : Int) (y : Bool), vat = .int .i64 q ∧ vok = .bool y ∧ Hid (∃ (S' : CS) (E0 E1 : Nat), S'.s = s0 ∧ Rm w wc p g ob S' E0 E1 ok on ∧ ((y = false ∧ E0 = S'.a ∧ E1 = S'.b) ∨ (y = true ∧ 1 ≤ on ∧ S'.c = 0 ∧ q = (E0 : Int) ∧ (E0 : Int) + on = (S'.a : Int) ∧ E1 = S'.b))))
        case first =>
          by_cases h10 : ok = 0
          · have h10' : (ok == 0) = true := by simpa using h10
            clear h10
            as_aux_lemma =>
              go_wp2_with fail
              refine (take_any on _ HW.out.mine.tab).mono ?_
              rintro e w6 ⟨rfl, t6, m6⟩
              have H6 : Hid (Rm w w6 p g ob (takeS ⟨s0, 0, k, a, b⟩ on) a b ok on) := HW.out.step t6 m6
              clear t6 m6 HW b1
              by_cases g1 : 1 ≤ on
              · have g1' : decide (on ≥ 1) = true := decide_eq_true g1
                by_cases g2 : on ≤ (s0 : Int) - (a : Int) - (k : Int)
                · obtain ⟨m, rfl⟩ : ∃ m : Nat, on = m := ⟨on.toNat, by omega⟩
                  have et : takes ⟨s0, 0, k, a, b⟩ (m : Int) = true := decide_eq_true (by simp [roomF, CS.u]; omega)
                  have H7 : Hid (Rm w w6 p g ob ⟨s0, 0, k, (a + m), b⟩ a b ok (m : Int)) := H6.out.eq (by simp [takeS, et, putU])
                  have ea : takeA ⟨s0, 0, k, a, b⟩ (m : Int) = (a : Int) := by simp [takeA, et, CS.u]
                  rw [ea, et]
                  clear H6 ea et
                  go_wp2_with fail
                  have q1 := KW.cell (a := ⟨ob, 1, none⟩) H7.out.op.lt (H7.out.op.blk.at 1 rfl)
                  have q2 := KW.cell (a := ⟨g, 0, none⟩) H7.out.ends.lt (H7.out.ends.blk.at 0 rfl)
                  have q3 := KW.cell (a := ⟨g, 1, none⟩) H7.out.ends.lt (H7.out.ends.blk.at 1 rfl)
                  refine wp_region_kept (by kernel_rfl) (by kernel_rfl) fun _ => ?_
                  repeat (go_big_quiet_step (fail))
                  refine wpQuiet_nil ?_
                  rintro _ ⟨z, rfl⟩
                  clear q1 q2 q3
                  go_wp2
                  go_meet
                  case rel => exact ⟨_, true, rfl, rfl, _, a, b, rfl, H7.out.still z.ok, .inr ⟨rfl, g1, rfl, rfl, by simp, rfl⟩⟩
                · have g2' : decide (on ≤ (s0 : Int) - (a : Int) - (k : Int)) = false := decide_eq_false g2
                  have et : takes ⟨s0, 0, k, a, b⟩ on = false := decide_eq_false (by simp [roomF, CS.u]; omega)
                  have H7 : Hid (Rm w w6 p g ob ⟨s0, 0, k, a, b⟩ a b ok on) := H6.out.eq (by simp [takeS, et])
                  rw [et]
                  generalize takeA _ _ = va
                  clear H6 et
                  go_wp2_with fail
                  have q1 := KW.cell (a := ⟨ob, 1, none⟩) H7.out.op.lt (H7.out.op.blk.at 1 rfl)
                  have q2 := KW.cell (a := ⟨g, 0, none⟩) H7.out.ends.lt (H7.out.ends.blk.at 0 rfl)
                  have q3 := KW.cell (a := ⟨g, 1, none⟩) H7.out.ends.lt (H7.out.ends.blk.at 1 rfl)
                  refine wp_region_kept (by kernel_rfl) (by kernel_rfl) fun _ => ?_
                  repeat (go_big_quiet_step (fail))
                  refine wpQuiet_nil ?_
                  rintro _ ⟨z, rfl⟩
                  clear q1 q2 q3
                  go_wp2
                  go_meet
                  case rel => exact ⟨_, false, rfl, rfl, _, a, b, rfl, H7.out.still z.ok, .inl ⟨rfl, rfl, rfl⟩⟩
              · have g1' : decide (on ≥ 1) = false := decide_eq_false (by omega)
                have g1'' : decide (1 ≤ on) = false := decide_eq_false g1
                have et : takes ⟨s0, 0, k, a, b⟩ on = false := decide_eq_false (by omega)
                have H7 : Hid (Rm w w6 p g ob ⟨s0, 0, k, a, b⟩ a b ok on) := H6.out.eq (by simp [takeS, et])
                rw [et]
                generalize takeA _ _ = va
                clear H6 et
                go_wp2_with fail
                have q1 := KW.cell (a := ⟨ob, 1, none⟩) H7.out.op.lt (H7.out.op.blk.at 1 rfl)
                have q2 := KW.cell (a := ⟨g, 0, none⟩) H7.out.ends.lt (H7.out.ends.blk.at 0 rfl)
                have q3 := KW.cell (a := ⟨g, 1, none⟩) H7.out.ends.lt (H7.out.ends.blk.at 1 rfl)
                refine wp_region_kept (by kernel_rfl) (by kernel_rfl) fun _ => ?_
                repeat (go_big_quiet_step (fail))
                refine wpQuiet_nil ?_
                rintro _ ⟨z, rfl⟩
                clear q1 q2 q3
                go_wp2
                go_meet
                case rel => exact ⟨_, false, rfl, rfl, _, a, b, rfl, H7.out.still z.ok, .inl ⟨rfl, rfl, rfl⟩⟩
          · have h10' : (ok == 0) = false := by simpa using h10
            clear h10
            by_cases h12 : ok = 2
            · have h12' : (ok == 2) = true := by simpa using h12
              clear h12
              as_aux_lemma =>
                go_wp2_with fail
                refine (copy_any on _ HW.out.mine.tab).mono ?_
                rintro e w6 ⟨rfl, t6, m6⟩
                have H6 : Hid (Rm w w6 p g ob (copyS ⟨s0, 0, k, a, b⟩ on) a b ok on) := HW.out.step t6 m6
                clear t6 m6 HW b1
                by_cases g1 : 1 ≤ on
                · have g1' : decide (on ≥ 1) = true := decide_eq_true g1
                  by_cases g2 : on ≤ (k : Int)
                  · obtain ⟨m, rfl⟩ : ∃ m : Nat, on = m := ⟨on.toNat, by omega⟩
                    have et : skips ⟨s0, 0, k, a, b⟩ (m : Int) = true := decide_eq_true (by simp; omega)
                    have H7 : Hid (Rm w w6 p g ob ⟨s0, 0, (k - m), (a + m), b⟩ a b ok (m : Int)) := H6.out.eq (by simp [copyS, et, putU])
                    have ea : copyA ⟨s0, 0, k, a, b⟩ (m : Int) = (a : Int) := by simp [copyA, et, CS.u]
                    rw [ea, et]
                    clear H6 ea et
                    have ez : ((k - m : Nat) : Int) = (k : Int) - (m : Int) := by omega
                    have GL : Hid (∀ x : KW w6, Calls Try.prog 24 #[.pointer (some ⟨p, 0, none⟩)] x.it fun e w' => e = .returned (.int .i64 ((k : Int) - (m : Int))) ∧ w' = x.it) := fun x => by
                      have := left_any _ (H7.out.mine.tab.kept x.ok)
                      simp only [ez] at this
                      exact this
                    clear ez
                    have ez : ((k : Int) - (m : Int) != (k : Int) - (m : Int)) = false := by simp
                    go_wp2_with fail
                    have q1 := KW.cell (a := ⟨ob, 1, none⟩) H7.out.op.lt (H7.out.op.blk.at 1 rfl)
                    have q2 := KW.cell (a := ⟨g, 0, none⟩) H7.out.ends.lt (H7.out.ends.blk.at 0 rfl)
                    have q3 := KW.cell (a := ⟨g, 1, none⟩) H7.out.ends.lt (H7.out.ends.blk.at 1 rfl)
                    refine wp_region_kept (by kernel_rfl) (by kernel_rfl) fun _ => ?_
                    repeat (go_big_quiet_step ((go_at_call 24; exact kept_of_same (GL.out _))))
                    refine wpQuiet_nil ?_
                    rintro _ ⟨z, rfl⟩
                    clear q1 q2 q3
                    go_wp2
                    go_meet
                    case rel => exact ⟨_, true, rfl, rfl, _, a, b, rfl, H7.out.still z.ok, .inr ⟨rfl, g1, rfl, rfl, by simp, rfl⟩⟩
                  · have g2' : decide (on ≤ (k : Int)) = false := decide_eq_false g2
                    have et : skips ⟨s0, 0, k, a, b⟩ on = false := decide_eq_false (by simp; omega)
                    have H7 : Hid (Rm w w6 p g ob ⟨s0, 0, k, a, b⟩ a b ok on) := H6.out.eq (by simp [copyS, et])
                    rw [et]
                    generalize copyA _ _ = va
                    clear H6 et
                    go_wp2_with fail
                    have q1 := KW.cell (a := ⟨ob, 1, none⟩) H7.out.op.lt (H7.out.op.blk.at 1 rfl)
                    have q2 := KW.cell (a := ⟨g, 0, none⟩) H7.out.ends.lt (H7.out.ends.blk.at 0 rfl)
                    have q3 := KW.cell (a := ⟨g, 1, none⟩) H7.out.ends.lt (H7.out.ends.blk.at 1 rfl)
                    refine wp_region_kept (by kernel_rfl) (by kernel_rfl) fun _ => ?_
                    repeat (go_big_quiet_step (fail))
                    refine wpQuiet_nil ?_
                    rintro _ ⟨z, rfl⟩
                    clear q1 q2 q3
                    go_wp2
                    go_meet
                    case rel => exact ⟨_, false, rfl, rfl, _, a, b, rfl, H7.out.still z.ok, .inl ⟨rfl, rfl, rfl⟩⟩
                · have g1' : decide (on ≥ 1) = false := decide_eq_false (by omega)
                  have g1'' : decide (1 ≤ on) = false := decide_eq_false g1
                  have et : skips ⟨s0, 0, k, a, b⟩ on = false := decide_eq_false (by omega)
                  have H7 : Hid (Rm w w6 p g ob ⟨s0, 0, k, a, b⟩ a b ok on) := H6.out.eq (by simp [copyS, et])
                  rw [et]
                  generalize copyA _ _ = va
                  clear H6 et
                  go_wp2_with fail
                  have q1 := KW.cell (a := ⟨ob, 1, none⟩) H7.out.op.lt (H7.out.op.blk.at 1 rfl)
                  have q2 := KW.cell (a := ⟨g, 0, none⟩) H7.out.ends.lt (H7.out.ends.blk.at 0 rfl)
                  have q3 := KW.cell (a := ⟨g, 1, none⟩) H7.out.ends.lt (H7.out.ends.blk.at 1 rfl)
                  refine wp_region_kept (by kernel_rfl) (by kernel_rfl) fun _ => ?_
                  repeat (go_big_quiet_step (fail))
                  refine wpQuiet_nil ?_
                  rintro _ ⟨z, rfl⟩
                  clear q1 q2 q3
                  go_wp2
                  go_meet
                  case rel => exact ⟨_, false, rfl, rfl, _, a, b, rfl, H7.out.still z.ok, .inl ⟨rfl, rfl, rfl⟩⟩
            · have h12' : (ok == 2) = false := by simpa using h12
              clear h12
              by_cases h11 : ok = 1
              · have h11' : (ok == 1) = true := by simpa using h11
                clear h11
                as_aux_lemma =>
                  by_cases ho : b = 0
                  · subst ho
                    as_aux_lemma =>
                      have TC : Hid (∀ u, Rm w u p g ob ⟨s0, 0, k, a, 0⟩ a 0 ok on → Calls Try.prog 12 #[.pointer (some ⟨p, 0, none⟩)] u fun e w' => e = .returned (.bool true) ∧ Rm w w' p g ob ⟨s0, 1, a, a, 0⟩ a 0 ok on) := fun u H => by
                        refine (turn_any _ H.mine.tab).mono ?_
                        rintro e w6 ⟨rfl, t6, m6⟩
                        exact ⟨rfl, H.step t6 m6⟩
                      have CC : Hid (∀ u, Rm w u p g ob ⟨s0, 1, a, a, 0⟩ a 0 ok on → Calls Try.prog 20 #[.pointer (some ⟨p, 0, none⟩)] u fun e w' => e = .returned (.int .i64 1) ∧ w' = u) := fun u H => current_any _ H.mine.tab
                      have CF : Hid (∀ u, Rm w u p g ob ⟨s0, 1, a, a, 0⟩ a 0 ok on → Calls Try.prog 24 #[.pointer (some ⟨p, 0, none⟩)] u fun e w' => e = .returned (.int .i64 (a : Int)) ∧ w' = u) := fun u H => left_any _ H.mine.tab
                      go_upto_region 25 with fail
                      refine wp_region_phase [(.pointer (some ⟨p, 0, none⟩)), (.bool true), (.int .i64 0), (.int .i64 1), (.pointer (some ⟨g, 1, none⟩)), (.int .i64 ((0 : Nat) : Int)), (.bool true), (.bool false), (.bool false), (.pointer (some ⟨p, 0, none⟩)), (.int .i64 1), (.int .i64 0), (.int .i64 1), (.bool true), (.bool true), (.pointer (some ⟨p, 0, none⟩)), (.int .i64 (a : Int)), (.int .i64 0), (.pointer (some ⟨g, 0, none⟩)), (.int .i64 ((a : Nat) : Int)), (.bool false), (.bool false), (.bool false)] [(123, 0), (124, 1), (125, 2), (126, 3), (127, 4), (128, 5), (129, 6), (130, 7), (131, 8), (132, 9), (133, 10), (134, 11), (135, 12), (136, 13), (137, 14), (138, 15), (139, 16), (140, 17), (141, 18), (142, 19), (143, 20), (144, 21), (145, 22)] [_, _, _, _, _, _, _, _, _, _, _, _, _, _, _, _, _, _, _, _, _, _, _, _, _, _, _, _, _, _, _, _, _, _, _, _, _, _, _, _, _, _, _, _, _, _, _, _, _, _, _, _, _, _, _, _, _, _, _, _, _, _, _, _, _, _, _, _, _, _, _, _, _, _, _, _, _, _, _, _, _, _, _, _, _, _, _, _, _, _, _, _, _, _, _, _, _, _, _, _, _, _, _, _, _, _, _, _, _, _, _, _, _, _, _, _, _, _, _, _, _, _, _, _, _, _, _, _, _, _, _, _, _, _, _, _, _, _, _, _, _, _, _, _, _, _, _, _, _, _, _, _, _, _, _, _, _, _, _, _, _, _, _, _, _, _, _, _, _, _, _, _, _, _, _, _, _, _, _, _, _, _, _, _, _, _, _, _, _, _, _, _, _, _, _, _, _, _, _, _, _, _, _, _, _, _, _, _, _, _, _, _, _, _, _, _, _, _, _, _, _, _, _, _, _, _, _, _] (fun d u => (Rm w u p g ob (if d 1 then ⟨s0, 1, a, a, 0⟩ else ⟨s0, 0, k, a, 0⟩) a 0 ok on ∧ (d 7 = true → d 1 = true) ∧ (d 8 = true → d 1 = true) ∧ (d 14 = true → d 1 = true))) (by kernel_rfl) (by kernel_rfl) (by kernel_rfl) (by kernel_rfl) rfl ?_ ?_ ?_
                      · exact ⟨HW.out.still (Kept.refl _).drew, by simp, by simp, by simp⟩
                      · intro i o hoo y d u hh hj hi hd
                        match i, hoo, hi, hd with
                        | 0, hoo, hi, hd =>
                          simp only [List.getElem?_cons_zero, Option.some.injEq] at hoo
                          subst hoo
                          have g5 : y.tmps[5]? = some (.pointer (some ⟨p, 0, none⟩)) := hh.old 5 (by kernel_rfl) rfl
                          clear hh hd
                          have HN : Hid (Rm w u p g ob (if done d 0 1 then ⟨s0, 1, a, a, 0⟩ else ⟨s0, 0, k, a, 0⟩) a 0 ok on ∧ (done d 0 7 = true → done d 0 1 = true) ∧ (done d 0 8 = true → done d 0 1 = true) ∧ (done d 0 14 = true → done d 0 1 = true)) := ⟨by simpa [done] using hj.1, by simpa [done] using hj.2.1, by simpa [done] using hj.2.2.1, by simpa [done] using hj.2.2.2⟩
                          clear hj hi
                          refine wpOp_step rfl (fun K hK => ?_)
                          go_simp
                          exact hK _ _ ⟨by simp [Act.put], HN.out⟩
                        | 1, hoo, hi, hd =>
                          simp only [List.getElem?_cons_succ, List.getElem?_cons_zero, Option.some.injEq] at hoo
                          subst hoo
                          have g123 : y.tmps[123]? = some (.pointer (some ⟨p, 0, none⟩)) := hh.did 0 _ 123 rfl rfl (hd { on := 0, ground := .data } (by simp) rfl)
                          clear hh hd
                          have CA := TC.out u (by have := hj.1; rw [hi] at this; exact this)
                          have HN : Hid (∀ u, Rm w u p g ob ⟨s0, 1, a, a, 0⟩ a 0 ok on → (Rm w u p g ob (if done d 1 1 then ⟨s0, 1, a, a, 0⟩ else ⟨s0, 0, k, a, 0⟩) a 0 ok on ∧ (done d 1 7 = true → done d 1 1 = true) ∧ (done d 1 8 = true → done d 1 1 = true) ∧ (done d 1 14 = true → done d 1 1 = true))) := fun u h => ⟨by simpa [done] using h, by simp [done], by simp [done], by simp [done]⟩
                          clear hj hi
                          refine wpOp_step rfl (fun K hK => ?_)
                          go_simp
                          refine CA.mono ?_
                          rintro e u2 ⟨rfl, h2⟩
                          exact hK _ _ ⟨by simp [Act.put], HN.out u2 h2⟩
                        | 2, hoo, hi, hd =>
                          simp only [List.getElem?_cons_succ, List.getElem?_cons_zero, Option.some.injEq] at hoo
                          subst hoo
                          have g10 : y.tmps[10]? = some (.int .i64 0) := hh.old 10 (by kernel_rfl) rfl
                          clear hh hd
                          have HN : Hid (Rm w u p g ob (if done d 2 1 then ⟨s0, 1, a, a, 0⟩ else ⟨s0, 0, k, a, 0⟩) a 0 ok on ∧ (done d 2 7 = true → done d 2 1 = true) ∧ (done d 2 8 = true → done d 2 1 = true) ∧ (done d 2 14 = true → done d 2 1 = true)) := ⟨by simpa [done] using hj.1, by simpa [done] using hj.2.1, by simpa [done] using hj.2.2.1, by simpa [done] using hj.2.2.2⟩
                          clear hj hi
                          refine wpOp_step rfl (fun K hK => ?_)
                          go_simp
                          exact hK _ _ ⟨by simp [Act.put], HN.out⟩
                        | 3, hoo, hi, hd =>
                          simp only [List.getElem?_cons_succ, List.getElem?_cons_zero, Option.some.injEq] at hoo
                          subst hoo
                          have g125 : y.tmps[125]? = some (.int .i64 0) := hh.did 2 _ 125 rfl rfl (hd { on := 2, ground := .data } (by simp) rfl)
                          clear hh hd
                          have HN : Hid (Rm w u p g ob (if done d 3 1 then ⟨s0, 1, a, a, 0⟩ else ⟨s0, 0, k, a, 0⟩) a 0 ok on ∧ (done d 3 7 = true → done d 3 1 = true) ∧ (done d 3 8 = true → done d 3 1 = true) ∧ (done d 3 14 = true → done d 3 1 = true)) := ⟨by simpa [done] using hj.1, by simpa [done] using hj.2.1, by simpa [done] using hj.2.2.1, by simpa [done] using hj.2.2.2⟩
                          clear hj hi
                          refine wpOp_step rfl (fun K hK => ?_)
                          go_simp
                          exact hK _ _ ⟨by first | (simp [Act.put]; done) | (simp [Act.put]; rfl), HN.out⟩
                        | 4, hoo, hi, hd =>
                          simp only [List.getElem?_cons_succ, List.getElem?_cons_zero, Option.some.injEq] at hoo
                          subst hoo
                          have g7 : y.tmps[7]? = some (.pointer (some ⟨g, 0, none⟩)) := hh.old 7 (by kernel_rfl) rfl
                          have g126 : y.tmps[126]? = some (.int .i64 1) := hh.did 3 _ 126 rfl rfl (hd { on := 3, ground := .data } (by simp) rfl)
                          clear hh hd
                          have HN : Hid (Rm w u p g ob (if done d 4 1 then ⟨s0, 1, a, a, 0⟩ else ⟨s0, 0, k, a, 0⟩) a 0 ok on ∧ (done d 4 7 = true → done d 4 1 = true) ∧ (done d 4 8 = true → done d 4 1 = true) ∧ (done d 4 14 = true → done d 4 1 = true)) := ⟨by simpa [done] using hj.1, by simpa [done] using hj.2.1, by simpa [done] using hj.2.2.1, by simpa [done] using hj.2.2.2⟩
                          clear hj hi
                          refine wpOp_step rfl (fun K hK => ?_)
                          go_simp
                          exact hK _ _ ⟨by simp [Act.put], HN.out⟩
                        | 5, hoo, hi, hd =>
                          simp only [List.getElem?_cons_succ, List.getElem?_cons_zero, Option.some.injEq] at hoo
                          subst hoo
                          have g127 : y.tmps[127]? = some (.pointer (some ⟨g, 1, none⟩)) := hh.did 4 _ 127 rfl rfl (hd { on := 4, ground := .data } (by simp) rfl)
                          have cc := hj.1.ends.blk.at 1 rfl
                          clear hh hd
                          have HN : Hid (Rm w u p g ob (if done d 5 1 then ⟨s0, 1, a, a, 0⟩ else ⟨s0, 0, k, a, 0⟩) a 0 ok on ∧ (done d 5 7 = true → done d 5 1 = true) ∧ (done d 5 8 = true → done d 5 1 = true) ∧ (done d 5 14 = true → done d 5 1 = true)) := ⟨by simpa [done] using hj.1, by simpa [done] using hj.2.1, by simpa [done] using hj.2.2.1, by simpa [done] using hj.2.2.2⟩
                          clear hj hi
                          refine wpOp_step rfl (fun K hK => ?_)
                          go_simp
                          exact hK _ _ ⟨by simp [Act.put], HN.out⟩
                        | 6, hoo, hi, hd =>
                          simp only [List.getElem?_cons_succ, List.getElem?_cons_zero, Option.some.injEq] at hoo
                          subst hoo
                          have g128 : y.tmps[128]? = some (.int .i64 ((0 : Nat) : Int)) := hh.did 5 _ 128 rfl rfl (hd { on := 5, ground := .data } (by simp) rfl)
                          clear hh hd
                          have HN : Hid (Rm w u p g ob (if done d 6 1 then ⟨s0, 1, a, a, 0⟩ else ⟨s0, 0, k, a, 0⟩) a 0 ok on ∧ (done d 6 7 = true → done d 6 1 = true) ∧ (done d 6 8 = true → done d 6 1 = true) ∧ (done d 6 14 = true → done d 6 1 = true)) := ⟨by simpa [done] using hj.1, by simpa [done] using hj.2.1, by simpa [done] using hj.2.2.1, by simpa [done] using hj.2.2.2⟩
                          clear hj hi
                          refine wpOp_step rfl (fun K hK => ?_)
                          go_simp
                          exact hK _ _ ⟨by simp [Act.put], HN.out⟩
                        | 7, hoo, hi, hd =>
                          simp only [List.getElem?_cons_succ, List.getElem?_cons_zero, Option.some.injEq] at hoo
                          subst hoo
                          have g124 : y.tmps[124]? = some (.bool true) := hh.did 1 _ 124 rfl rfl (hd { on := 1, ground := .data } (by simp) rfl)
                          have g129 : y.tmps[129]? = some (.bool true) := hh.did 6 _ 129 rfl rfl (hd { on := 6, ground := .data } (by simp) rfl)
                          have h17 : d 1 = true := hd { on := 1, ground := .data } (by simp) rfl
                          clear hh hd
                          have HN : Hid (Rm w u p g ob (if done d 7 1 then ⟨s0, 1, a, a, 0⟩ else ⟨s0, 0, k, a, 0⟩) a 0 ok on ∧ (done d 7 7 = true → done d 7 1 = true) ∧ (done d 7 8 = true → done d 7 1 = true) ∧ (done d 7 14 = true → done d 7 1 = true)) := ⟨by simpa [done] using hj.1, by simp [done, h17], by simp [done, h17], by simp [done, h17]⟩
                          clear h17
                          clear hj hi
                          refine wpOp_step rfl (fun K hK => ?_)
                          go_simp
                          exact hK _ _ ⟨by simp [Act.put], HN.out⟩
                        | 8, hoo, hi, hd =>
                          simp only [List.getElem?_cons_succ, List.getElem?_cons_zero, Option.some.injEq] at hoo
                          subst hoo
                          have g130 : y.tmps[130]? = some (.bool false) := hh.did 7 _ 130 rfl rfl (hd { on := 7, ground := .data } (by simp) rfl)
                          have h17 : d 1 = true := hj.2.1 (hd { on := 7, ground := .data } (by simp) rfl)
                          clear hh hd
                          have HN : Hid (Rm w u p g ob (if done d 8 1 then ⟨s0, 1, a, a, 0⟩ else ⟨s0, 0, k, a, 0⟩) a 0 ok on ∧ (done d 8 7 = true → done d 8 1 = true) ∧ (done d 8 8 = true → done d 8 1 = true) ∧ (done d 8 14 = true → done d 8 1 = true)) := ⟨by simpa [done] using hj.1, by simp [done, h17], by simp [done, h17], by simp [done, h17]⟩
                          clear h17
                          clear hj hi
                          refine wpOp_step rfl (fun K hK => ?_)
                          go_simp
                          exact hK _ _ ⟨by simp [Act.put], HN.out⟩
                        | 9, hoo, hi, hd =>
                          simp only [List.getElem?_cons_succ, List.getElem?_cons_zero, Option.some.injEq] at hoo
                          subst hoo
                          have g5 : y.tmps[5]? = some (.pointer (some ⟨p, 0, none⟩)) := hh.old 5 (by kernel_rfl) rfl
                          have g131 : y.tmps[131]? = some (.bool false) := hh.did 8 _ 131 rfl rfl (hd { on := 8, ground := .guard } (by simp) rfl)
                          clear hh hd
                          have HN : Hid (Rm w u p g ob (if done d 9 1 then ⟨s0, 1, a, a, 0⟩ else ⟨s0, 0, k, a, 0⟩) a 0 ok on ∧ (done d 9 7 = true → done d 9 1 = true) ∧ (done d 9 8 = true → done d 9 1 = true) ∧ (done d 9 14 = true → done d 9 1 = true)) := ⟨by simpa [done] using hj.1, by simpa [done] using hj.2.1, by simpa [done] using hj.2.2.1, by simpa [done] using hj.2.2.2⟩
                          clear hj hi
                          refine wpOp_step rfl (fun K hK => ?_)
                          go_simp
                          exact hK _ _ ⟨by simp [Act.put], HN.out⟩
                        | 10, hoo, hi, hd =>
                          simp only [List.getElem?_cons_succ, List.getElem?_cons_zero, Option.some.injEq] at hoo
                          subst hoo
                          have g132 : y.tmps[132]? = some (.pointer (some ⟨p, 0, none⟩)) := hh.did 9 _ 132 rfl rfl (hd { on := 9, ground := .data } (by simp) rfl)
                          have g131 : y.tmps[131]? = some (.bool false) := hh.did 8 _ 131 rfl rfl (hd { on := 8, ground := .guard } (by simp) rfl)
                          have h17 : d 1 = true := hj.2.2.1 (hd { on := 8, ground := .guard } (by simp) rfl)
                          clear hh hd
                          have CA := CC.out u (by have := hj.1; rw [h17] at this; exact this)
                          have HN : Hid (Rm w u p g ob (if done d 10 1 then ⟨s0, 1, a, a, 0⟩ else ⟨s0, 0, k, a, 0⟩) a 0 ok on ∧ (done d 10 7 = true → done d 10 1 = true) ∧ (done d 10 8 = true → done d 10 1 = true) ∧ (done d 10 14 = true → done d 10 1 = true)) := by
                            have := hj
                            simp [Hid, done] at this ⊢
                            first | exact this | simp [this, h17]
                          clear hj hi h17
                          refine wpOp_step rfl (fun K hK => ?_)
                          go_simp
                          refine CA.mono ?_
                          rintro e u2 ⟨rfl, rfl⟩
                          exact hK _ _ ⟨by simp [Act.put], HN.out⟩
                        | 11, hoo, hi, hd =>
                          simp only [List.getElem?_cons_succ, List.getElem?_cons_zero, Option.some.injEq] at hoo
                          subst hoo
                          have g10 : y.tmps[10]? = some (.int .i64 0) := hh.old 10 (by kernel_rfl) rfl
                          have g131 : y.tmps[131]? = some (.bool false) := hh.did 8 _ 131 rfl rfl (hd { on := 8, ground := .guard } (by simp) rfl)
                          clear hh hd
                          have HN : Hid (Rm w u p g ob (if done d 11 1 then ⟨s0, 1, a, a, 0⟩ else ⟨s0, 0, k, a, 0⟩) a 0 ok on ∧ (done d 11 7 = true → done d 11 1 = true) ∧ (done d 11 8 = true → done d 11 1 = true) ∧ (done d 11 14 = true → done d 11 1 = true)) := ⟨by simpa [done] using hj.1, by simpa [done] using hj.2.1, by simpa [done] using hj.2.2.1, by simpa [done] using hj.2.2.2⟩
                          clear hj hi
                          refine wpOp_step rfl (fun K hK => ?_)
                          go_simp
                          exact hK _ _ ⟨by simp [Act.put], HN.out⟩
                        | 12, hoo, hi, hd =>
                          simp only [List.getElem?_cons_succ, List.getElem?_cons_zero, Option.some.injEq] at hoo
                          subst hoo
                          have g134 : y.tmps[134]? = some (.int .i64 0) := hh.did 11 _ 134 rfl rfl (hd { on := 11, ground := .data } (by simp) rfl)
                          have g131 : y.tmps[131]? = some (.bool false) := hh.did 8 _ 131 rfl rfl (hd { on := 8, ground := .guard } (by simp) rfl)
                          clear hh hd
                          have HN : Hid (Rm w u p g ob (if done d 12 1 then ⟨s0, 1, a, a, 0⟩ else ⟨s0, 0, k, a, 0⟩) a 0 ok on ∧ (done d 12 7 = true → done d 12 1 = true) ∧ (done d 12 8 = true → done d 12 1 = true) ∧ (done d 12 14 = true → done d 12 1 = true)) := ⟨by simpa [done] using hj.1, by simpa [done] using hj.2.1, by simpa [done] using hj.2.2.1, by simpa [done] using hj.2.2.2⟩
                          clear hj hi
                          refine wpOp_step rfl (fun K hK => ?_)
                          go_simp
                          exact hK _ _ ⟨by first | (simp [Act.put]; done) | (simp [Act.put]; rfl), HN.out⟩
                        | 13, hoo, hi, hd =>
                          simp only [List.getElem?_cons_succ, List.getElem?_cons_zero, Option.some.injEq] at hoo
                          subst hoo
                          have g133 : y.tmps[133]? = some (.int .i64 1) := hh.did 10 _ 133 rfl rfl (hd { on := 10, ground := .data } (by simp) rfl)
                          have g135 : y.tmps[135]? = some (.int .i64 1) := hh.did 12 _ 135 rfl rfl (hd { on := 12, ground := .data } (by simp) rfl)
                          have g131 : y.tmps[131]? = some (.bool false) := hh.did 8 _ 131 rfl rfl (hd { on := 8, ground := .guard } (by simp) rfl)
                          clear hh hd
                          have HN : Hid (Rm w u p g ob (if done d 13 1 then ⟨s0, 1, a, a, 0⟩ else ⟨s0, 0, k, a, 0⟩) a 0 ok on ∧ (done d 13 7 = true → done d 13 1 = true) ∧ (done d 13 8 = true → done d 13 1 = true) ∧ (done d 13 14 = true → done d 13 1 = true)) := ⟨by simpa [done] using hj.1, by simpa [done] using hj.2.1, by simpa [done] using hj.2.2.1, by simpa [done] using hj.2.2.2⟩
                          clear hj hi
                          refine wpOp_step rfl (fun K hK => ?_)
                          go_simp
                          exact hK _ _ ⟨by simp [Act.put], HN.out⟩
                        | 14, hoo, hi, hd =>
                          simp only [List.getElem?_cons_succ, List.getElem?_cons_zero, Option.some.injEq] at hoo
                          subst hoo
                          have g136 : y.tmps[136]? = some (.bool true) := hh.did 13 _ 136 rfl rfl (hd { on := 13, ground := .data } (by simp) rfl)
                          have g131 : y.tmps[131]? = some (.bool false) := hh.did 8 _ 131 rfl rfl (hd { on := 8, ground := .guard } (by simp) rfl)
                          have h17 : d 1 = true := hj.2.2.1 (hd { on := 8, ground := .guard } (by simp) rfl)
                          clear hh hd
                          have HN : Hid (Rm w u p g ob (if done d 14 1 then ⟨s0, 1, a, a, 0⟩ else ⟨s0, 0, k, a, 0⟩) a 0 ok on ∧ (done d 14 7 = true → done d 14 1 = true) ∧ (done d 14 8 = true → done d 14 1 = true) ∧ (done d 14 14 = true → done d 14 1 = true)) := ⟨by simpa [done] using hj.1, by simp [done, h17], by simp [done, h17], by simp [done, h17]⟩
                          clear h17
                          clear hj hi
                          refine wpOp_step rfl (fun K hK => ?_)
                          go_simp
                          exact hK _ _ ⟨by simp [Act.put], HN.out⟩
                        | 15, hoo, hi, hd =>
                          simp only [List.getElem?_cons_succ, List.getElem?_cons_zero, Option.some.injEq] at hoo
                          subst hoo
                          have g5 : y.tmps[5]? = some (.pointer (some ⟨p, 0, none⟩)) := hh.old 5 (by kernel_rfl) rfl
                          have g137 : y.tmps[137]? = some (.bool true) := hh.did 14 _ 137 rfl rfl (hd { on := 14, ground := .guard } (by simp) rfl)
                          clear hh hd
                          have HN : Hid (Rm w u p g ob (if done d 15 1 then ⟨s0, 1, a, a, 0⟩ else ⟨s0, 0, k, a, 0⟩) a 0 ok on ∧ (done d 15 7 = true → done d 15 1 = true) ∧ (done d 15 8 = true → done d 15 1 = true) ∧ (done d 15 14 = true → done d 15 1 = true)) := ⟨by simpa [done] using hj.1, by simpa [done] using hj.2.1, by simpa [done] using hj.2.2.1, by simpa [done] using hj.2.2.2⟩
                          clear hj hi
                          refine wpOp_step rfl (fun K hK => ?_)
                          go_simp
                          exact hK _ _ ⟨by simp [Act.put], HN.out⟩
                        | 16, hoo, hi, hd =>
                          simp only [List.getElem?_cons_succ, List.getElem?_cons_zero, Option.some.injEq] at hoo
                          subst hoo
                          have g138 : y.tmps[138]? = some (.pointer (some ⟨p, 0, none⟩)) := hh.did 15 _ 138 rfl rfl (hd { on := 15, ground := .data } (by simp) rfl)
                          have g137 : y.tmps[137]? = some (.bool true) := hh.did 14 _ 137 rfl rfl (hd { on := 14, ground := .guard } (by simp) rfl)
                          have h17 : d 1 = true := hj.2.2.2 (hd { on := 14, ground := .guard } (by simp) rfl)
                          clear hh hd
                          have CA := CF.out u (by have := hj.1; rw [h17] at this; exact this)
                          have HN : Hid (Rm w u p g ob (if done d 16 1 then ⟨s0, 1, a, a, 0⟩ else ⟨s0, 0, k, a, 0⟩) a 0 ok on ∧ (done d 16 7 = true → done d 16 1 = true) ∧ (done d 16 8 = true → done d 16 1 = true) ∧ (done d 16 14 = true → done d 16 1 = true)) := by
                            have := hj
                            simp [Hid, done] at this ⊢
                            first | exact this | simp [this, h17]
                          clear hj hi h17
                          refine wpOp_step rfl (fun K hK => ?_)
                          go_simp
                          refine CA.mono ?_
                          rintro e u2 ⟨rfl, rfl⟩
                          exact hK _ _ ⟨by simp [Act.put], HN.out⟩
                        | 17, hoo, hi, hd =>
                          simp only [List.getElem?_cons_succ, List.getElem?_cons_zero, Option.some.injEq] at hoo
                          subst hoo
                          have g10 : y.tmps[10]? = some (.int .i64 0) := hh.old 10 (by kernel_rfl) rfl
                          have g137 : y.tmps[137]? = some (.bool true) := hh.did 14 _ 137 rfl rfl (hd { on := 14, ground := .guard } (by simp) rfl)
                          clear hh hd
                          have HN : Hid (Rm w u p g ob (if done d 17 1 then ⟨s0, 1, a, a, 0⟩ else ⟨s0, 0, k, a, 0⟩) a 0 ok on ∧ (done d 17 7 = true → done d 17 1 = true) ∧ (done d 17 8 = true → done d 17 1 = true) ∧ (done d 17 14 = true → done d 17 1 = true)) := ⟨by simpa [done] using hj.1, by simpa [done] using hj.2.1, by simpa [done] using hj.2.2.1, by simpa [done] using hj.2.2.2⟩
                          clear hj hi
                          refine wpOp_step rfl (fun K hK => ?_)
                          go_simp
                          exact hK _ _ ⟨by simp [Act.put], HN.out⟩
                        | 18, hoo, hi, hd =>
                          simp only [List.getElem?_cons_succ, List.getElem?_cons_zero, Option.some.injEq] at hoo
                          subst hoo
                          have g7 : y.tmps[7]? = some (.pointer (some ⟨g, 0, none⟩)) := hh.old 7 (by kernel_rfl) rfl
                          have g140 : y.tmps[140]? = some (.int .i64 0) := hh.did 17 _ 140 rfl rfl (hd { on := 17, ground := .data } (by simp) rfl)
                          have g137 : y.tmps[137]? = some (.bool true) := hh.did 14 _ 137 rfl rfl (hd { on := 14, ground := .guard } (by simp) rfl)
                          clear hh hd
                          have HN : Hid (Rm w u p g ob (if done d 18 1 then ⟨s0, 1, a, a, 0⟩ else ⟨s0, 0, k, a, 0⟩) a 0 ok on ∧ (done d 18 7 = true → done d 18 1 = true) ∧ (done d 18 8 = true → done d 18 1 = true) ∧ (done d 18 14 = true → done d 18 1 = true)) := ⟨by simpa [done] using hj.1, by simpa [done] using hj.2.1, by simpa [done] using hj.2.2.1, by simpa [done] using hj.2.2.2⟩
                          clear hj hi
                          refine wpOp_step rfl (fun K hK => ?_)
                          go_simp
                          exact hK _ _ ⟨by simp [Act.put], HN.out⟩
                        | 19, hoo, hi, hd =>
                          simp only [List.getElem?_cons_succ, List.getElem?_cons_zero, Option.some.injEq] at hoo
                          subst hoo
                          have g141 : y.tmps[141]? = some (.pointer (some ⟨g, 0, none⟩)) := hh.did 18 _ 141 rfl rfl (hd { on := 18, ground := .data } (by simp) rfl)
                          have g137 : y.tmps[137]? = some (.bool true) := hh.did 14 _ 137 rfl rfl (hd { on := 14, ground := .guard } (by simp) rfl)
                          have cc := hj.1.ends.blk.at 0 rfl
                          clear hh hd
                          have HN : Hid (Rm w u p g ob (if done d 19 1 then ⟨s0, 1, a, a, 0⟩ else ⟨s0, 0, k, a, 0⟩) a 0 ok on ∧ (done d 19 7 = true → done d 19 1 = true) ∧ (done d 19 8 = true → done d 19 1 = true) ∧ (done d 19 14 = true → done d 19 1 = true)) := ⟨by simpa [done] using hj.1, by simpa [done] using hj.2.1, by simpa [done] using hj.2.2.1, by simpa [done] using hj.2.2.2⟩
                          clear hj hi
                          refine wpOp_step rfl (fun K hK => ?_)
                          go_simp
                          exact hK _ _ ⟨by simp [Act.put], HN.out⟩
                        | 20, hoo, hi, hd =>
                          simp only [List.getElem?_cons_succ, List.getElem?_cons_zero, Option.some.injEq] at hoo
                          subst hoo
                          have g139 : y.tmps[139]? = some (.int .i64 (a : Int)) := hh.did 16 _ 139 rfl rfl (hd { on := 16, ground := .data } (by simp) rfl)
                          have g142 : y.tmps[142]? = some (.int .i64 ((a : Nat) : Int)) := hh.did 19 _ 142 rfl rfl (hd { on := 19, ground := .data } (by simp) rfl)
                          have g137 : y.tmps[137]? = some (.bool true) := hh.did 14 _ 137 rfl rfl (hd { on := 14, ground := .guard } (by simp) rfl)
                          clear hh hd
                          have HN : Hid (Rm w u p g ob (if done d 20 1 then ⟨s0, 1, a, a, 0⟩ else ⟨s0, 0, k, a, 0⟩) a 0 ok on ∧ (done d 20 7 = true → done d 20 1 = true) ∧ (done d 20 8 = true → done d 20 1 = true) ∧ (done d 20 14 = true → done d 20 1 = true)) := ⟨by simpa [done] using hj.1, by simpa [done] using hj.2.1, by simpa [done] using hj.2.2.1, by simpa [done] using hj.2.2.2⟩
                          clear hj hi
                          refine wpOp_step rfl (fun K hK => ?_)
                          go_simp
                          exact hK _ _ ⟨by simp [Act.put], HN.out⟩
                        | 21, hoo, hi, hd =>
                          simp only [List.getElem?_cons_succ, List.getElem?_cons_zero, Option.some.injEq] at hoo
                          subst hoo
                          have g137 : y.tmps[137]? = some (.bool true) := hh.did 14 _ 137 rfl rfl (hd { on := 14, ground := .data } (by simp) rfl)
                          have g143 : y.tmps[143]? = some (.bool false) := hh.did 20 _ 143 rfl rfl (hd { on := 20, ground := .data } (by simp) rfl)
                          have g131 : y.tmps[131]? = some (.bool false) := hh.did 8 _ 131 rfl rfl (hd { on := 8, ground := .guard } (by simp) rfl)
                          clear hh hd
                          have HN : Hid (Rm w u p g ob (if done d 21 1 then ⟨s0, 1, a, a, 0⟩ else ⟨s0, 0, k, a, 0⟩) a 0 ok on ∧ (done d 21 7 = true → done d 21 1 = true) ∧ (done d 21 8 = true → done d 21 1 = true) ∧ (done d 21 14 = true → done d 21 1 = true)) := ⟨by simpa [done] using hj.1, by simpa [done] using hj.2.1, by simpa [done] using hj.2.2.1, by simpa [done] using hj.2.2.2⟩
                          clear hj hi
                          refine wpOp_step rfl (fun K hK => ?_)
                          go_simp
                          exact hK _ _ ⟨by simp [Act.put], HN.out⟩
                        | 22, hoo, hi, hd =>
                          simp only [List.getElem?_cons_succ, List.getElem?_cons_zero, Option.some.injEq] at hoo
                          subst hoo
                          have g131 : y.tmps[131]? = some (.bool false) := hh.did 8 _ 131 rfl rfl (hd { on := 8, ground := .data } (by simp) rfl)
                          have g144 : y.tmps[144]? = some (.bool false) := hh.did 21 _ 144 rfl rfl (hd { on := 21, ground := .data } (by simp) rfl)
                          clear hh hd
                          have HN : Hid (Rm w u p g ob (if done d 22 1 then ⟨s0, 1, a, a, 0⟩ else ⟨s0, 0, k, a, 0⟩) a 0 ok on ∧ (done d 22 7 = true → done d 22 1 = true) ∧ (done d 22 8 = true → done d 22 1 = true) ∧ (done d 22 14 = true → done d 22 1 = true)) := ⟨by simpa [done] using hj.1, by simpa [done] using hj.2.1, by simpa [done] using hj.2.2.1, by simpa [done] using hj.2.2.2⟩
                          clear hj hi
                          refine wpOp_step rfl (fun K hK => ?_)
                          go_simp
                          exact hK _ _ ⟨by simp [Act.put], HN.out⟩
                        | k + 23, hoo, _, _ => simp at hoo
                      · intro u d hall hj
                        have H6 : Hid (Rm w u p g ob ⟨s0, 1, a, a, 0⟩ a 0 ok on) := by
                          have h := hj.1
                          rw [hall 1 (by decide)] at h
                          exact h
                        clear hall hj
                        simp only [List.getD_cons_succ, List.getD_cons_zero]
                        go_wp2
                        go_meet
                        case rel => exact ⟨_, false, rfl, rfl, _, _, _, rfl, H6.out, .inl ⟨rfl, rfl, rfl⟩⟩
                  · as_aux_lemma =>
                      have ho' : ((b : Int) == 0) = false := by simpa using ho
                      have TC : Hid (∀ u, Rm w u p g ob ⟨s0, 0, k, a, b⟩ a b ok on → Calls Try.prog 12 #[.pointer (some ⟨p, 0, none⟩)] u fun e w' => e = .returned (.bool false) ∧ Rm w w' p g ob ⟨s0, 0, k, a, b⟩ a b ok on) := fun u H => by
                        refine (turn_any _ H.mine.tab).mono ?_
                        rintro e w6 ⟨rfl, t6, m6⟩
                        have e1 : turns ⟨s0, 0, k, a, b⟩ = false := by simpa [turns, CS.o] using ho
                        exact ⟨by rw [e1], (H.step t6 m6).eq (by simp [turnS, e1])⟩
                      have CC : Hid (∀ u, Rm w u p g ob ⟨s0, 0, k, a, b⟩ a b ok on → Calls Try.prog 20 #[.pointer (some ⟨p, 0, none⟩)] u fun e w' => e = .returned (.int .i64 0) ∧ w' = u) := fun u H => current_any _ H.mine.tab
                      go_upto_region 25 with fail
                      refine wp_region_phase [(.pointer (some ⟨p, 0, none⟩)), (.bool false), (.int .i64 0), (.int .i64 1), (.pointer (some ⟨g, 1, none⟩)), (.int .i64 ((b : Nat) : Int)), (.bool false), (.bool false), (.bool false), (.pointer (some ⟨p, 0, none⟩)), (.int .i64 0), (.int .i64 0), (.int .i64 1), (.bool false), (.bool false), undef, undef, undef, undef, undef, undef, (.bool false), (.bool false)] [(123, 0), (124, 1), (125, 2), (126, 3), (127, 4), (128, 5), (129, 6), (130, 7), (131, 8), (132, 9), (133, 10), (134, 11), (135, 12), (136, 13), (137, 14), (138, 15), (139, 16), (140, 17), (141, 18), (142, 19), (143, 20), (144, 21), (145, 22)] [_, _, _, _, _, _, _, _, _, _, _, _, _, _, _, _, _, _, _, _, _, _, _, _, _, _, _, _, _, _, _, _, _, _, _, _, _, _, _, _, _, _, _, _, _, _, _, _, _, _, _, _, _, _, _, _, _, _, _, _, _, _, _, _, _, _, _, _, _, _, _, _, _, _, _, _, _, _, _, _, _, _, _, _, _, _, _, _, _, _, _, _, _, _, _, _, _, _, _, _, _, _, _, _, _, _, _, _, _, _, _, _, _, _, _, _, _, _, _, _, _, _, _, _, _, _, _, _, _, _, _, _, _, _, _, _, _, _, _, _, _, _, _, _, _, _, _, _, _, _, _, _, _, _, _, _, _, _, _, _, _, _, _, _, _, _, _, _, _, _, _, _, _, _, _, _, _, _, _, _, _, _, _, _, _, _, _, _, _, _, _, _, _, _, _, _, _, _, _, _, _, _, _, _, _, _, _, _, _, _, _, _, _, _, _, _, _, _, _, _, _, _, _, _, _, _, _, _] (fun d u => (Rm w u p g ob (if d 1 then ⟨s0, 0, k, a, b⟩ else ⟨s0, 0, k, a, b⟩) a b ok on ∧ (d 7 = true → d 1 = true) ∧ (d 8 = true → d 1 = true) ∧ (d 14 = true → d 1 = true))) (by kernel_rfl) (by kernel_rfl) (by kernel_rfl) (by kernel_rfl) rfl ?_ ?_ ?_
                      · exact ⟨HW.out.still (Kept.refl _).drew, by simp, by simp, by simp⟩
                      · intro i o hoo y d u hh hj hi hd
                        match i, hoo, hi, hd with
                        | 0, hoo, hi, hd =>
                          simp only [List.getElem?_cons_zero, Option.some.injEq] at hoo
                          subst hoo
                          have g5 : y.tmps[5]? = some (.pointer (some ⟨p, 0, none⟩)) := hh.old 5 (by kernel_rfl) rfl
                          clear hh hd
                          have HN : Hid (Rm w u p g ob (if done d 0 1 then ⟨s0, 0, k, a, b⟩ else ⟨s0, 0, k, a, b⟩) a b ok on ∧ (done d 0 7 = true → done d 0 1 = true) ∧ (done d 0 8 = true → done d 0 1 = true) ∧ (done d 0 14 = true → done d 0 1 = true)) := ⟨by simpa [done] using hj.1, by simpa [done] using hj.2.1, by simpa [done] using hj.2.2.1, by simpa [done] using hj.2.2.2⟩
                          clear hj hi
                          refine wpOp_step rfl (fun K hK => ?_)
                          go_simp
                          exact hK _ _ ⟨by simp [Act.put], HN.out⟩
                        | 1, hoo, hi, hd =>
                          simp only [List.getElem?_cons_succ, List.getElem?_cons_zero, Option.some.injEq] at hoo
                          subst hoo
                          have g123 : y.tmps[123]? = some (.pointer (some ⟨p, 0, none⟩)) := hh.did 0 _ 123 rfl rfl (hd { on := 0, ground := .data } (by simp) rfl)
                          clear hh hd
                          have CA := TC.out u (by have := hj.1; rw [hi] at this; exact this)
                          have HN : Hid (∀ u, Rm w u p g ob ⟨s0, 0, k, a, b⟩ a b ok on → (Rm w u p g ob (if done d 1 1 then ⟨s0, 0, k, a, b⟩ else ⟨s0, 0, k, a, b⟩) a b ok on ∧ (done d 1 7 = true → done d 1 1 = true) ∧ (done d 1 8 = true → done d 1 1 = true) ∧ (done d 1 14 = true → done d 1 1 = true))) := fun u h => ⟨by simpa [done] using h, by simp [done], by simp [done], by simp [done]⟩
                          clear hj hi
                          refine wpOp_step rfl (fun K hK => ?_)
                          go_simp
                          refine CA.mono ?_
                          rintro e u2 ⟨rfl, h2⟩
                          exact hK _ _ ⟨by simp [Act.put], HN.out u2 h2⟩
                        | 2, hoo, hi, hd =>
                          simp only [List.getElem?_cons_succ, List.getElem?_cons_zero, Option.some.injEq] at hoo
                          subst hoo
                          have g10 : y.tmps[10]? = some (.int .i64 0) := hh.old 10 (by kernel_rfl) rfl
                          clear hh hd
                          have HN : Hid (Rm w u p g ob (if done d 2 1 then ⟨s0, 0, k, a, b⟩ else ⟨s0, 0, k, a, b⟩) a b ok on ∧ (done d 2 7 = true → done d 2 1 = true) ∧ (done d 2 8 = true → done d 2 1 = true) ∧ (done d 2 14 = true → done d 2 1 = true)) := ⟨by simpa [done] using hj.1, by simpa [done] using hj.2.1, by simpa [done] using hj.2.2.1, by simpa [done] using hj.2.2.2⟩
                          clear hj hi
                          refine wpOp_step rfl (fun K hK => ?_)
                          go_simp
                          exact hK _ _ ⟨by simp [Act.put], HN.out⟩
                        | 3, hoo, hi, hd =>
                          simp only [List.getElem?_cons_succ, List.getElem?_cons_zero, Option.some.injEq] at hoo
                          subst hoo
                          have g125 : y.tmps[125]? = some (.int .i64 0) := hh.did 2 _ 125 rfl rfl (hd { on := 2, ground := .data } (by simp) rfl)
                          clear hh hd
                          have HN : Hid (Rm w u p g ob (if done d 3 1 then ⟨s0, 0, k, a, b⟩ else ⟨s0, 0, k, a, b⟩) a b ok on ∧ (done d 3 7 = true → done d 3 1 = true) ∧ (done d 3 8 = true → done d 3 1 = true) ∧ (done d 3 14 = true → done d 3 1 = true)) := ⟨by simpa [done] using hj.1, by simpa [done] using hj.2.1, by simpa [done] using hj.2.2.1, by simpa [done] using hj.2.2.2⟩
                          clear hj hi
                          refine wpOp_step rfl (fun K hK => ?_)
                          go_simp
                          exact hK _ _ ⟨by first | (simp [Act.put]; done) | (simp [Act.put]; rfl), HN.out⟩
                        | 4, hoo, hi, hd =>
                          simp only [List.getElem?_cons_succ, List.getElem?_cons_zero, Option.some.injEq] at hoo
                          subst hoo
                          have g7 : y.tmps[7]? = some (.pointer (some ⟨g, 0, none⟩)) := hh.old 7 (by kernel_rfl) rfl
                          have g126 : y.tmps[126]? = some (.int .i64 1) := hh.did 3 _ 126 rfl rfl (hd { on := 3, ground := .data } (by simp) rfl)
                          clear hh hd
                          have HN : Hid (Rm w u p g ob (if done d 4 1 then ⟨s0, 0, k, a, b⟩ else ⟨s0, 0, k, a, b⟩) a b ok on ∧ (done d 4 7 = true → done d 4 1 = true) ∧ (done d 4 8 = true → done d 4 1 = true) ∧ (done d 4 14 = true → done d 4 1 = true)) := ⟨by simpa [done] using hj.1, by simpa [done] using hj.2.1, by simpa [done] using hj.2.2.1, by simpa [done] using hj.2.2.2⟩
                          clear hj hi
                          refine wpOp_step rfl (fun K hK => ?_)
                          go_simp
                          exact hK _ _ ⟨by simp [Act.put], HN.out⟩
                        | 5, hoo, hi, hd =>
                          simp only [List.getElem?_cons_succ, List.getElem?_cons_zero, Option.some.injEq] at hoo
                          subst hoo
                          have g127 : y.tmps[127]? = some (.pointer (some ⟨g, 1, none⟩)) := hh.did 4 _ 127 rfl rfl (hd { on := 4, ground := .data } (by simp) rfl)
                          have cc := hj.1.ends.blk.at 1 rfl
                          clear hh hd
                          have HN : Hid (Rm w u p g ob (if done d 5 1 then ⟨s0, 0, k, a, b⟩ else ⟨s0, 0, k, a, b⟩) a b ok on ∧ (done d 5 7 = true → done d 5 1 = true) ∧ (done d 5 8 = true → done d 5 1 = true) ∧ (done d 5 14 = true → done d 5 1 = true)) := ⟨by simpa [done] using hj.1, by simpa [done] using hj.2.1, by simpa [done] using hj.2.2.1, by simpa [done] using hj.2.2.2⟩
                          clear hj hi
                          refine wpOp_step rfl (fun K hK => ?_)
                          go_simp
                          exact hK _ _ ⟨by simp [Act.put], HN.out⟩
                        | 6, hoo, hi, hd =>
                          simp only [List.getElem?_cons_succ, List.getElem?_cons_zero, Option.some.injEq] at hoo
                          subst hoo
                          have g128 : y.tmps[128]? = some (.int .i64 ((b : Nat) : Int)) := hh.did 5 _ 128 rfl rfl (hd { on := 5, ground := .data } (by simp) rfl)
                          clear hh hd
                          have HN : Hid (Rm w u p g ob (if done d 6 1 then ⟨s0, 0, k, a, b⟩ else ⟨s0, 0, k, a, b⟩) a b ok on ∧ (done d 6 7 = true → done d 6 1 = true) ∧ (done d 6 8 = true → done d 6 1 = true) ∧ (done d 6 14 = true → done d 6 1 = true)) := ⟨by simpa [done] using hj.1, by simpa [done] using hj.2.1, by simpa [done] using hj.2.2.1, by simpa [done] using hj.2.2.2⟩
                          clear hj hi
                          refine wpOp_step rfl (fun K hK => ?_)
                          go_simp
                          exact hK _ _ ⟨by simp [Act.put], HN.out⟩
                        | 7, hoo, hi, hd =>
                          simp only [List.getElem?_cons_succ, List.getElem?_cons_zero, Option.some.injEq] at hoo
                          subst hoo
                          have g124 : y.tmps[124]? = some (.bool false) := hh.did 1 _ 124 rfl rfl (hd { on := 1, ground := .data } (by simp) rfl)
                          have g129 : y.tmps[129]? = some (.bool false) := hh.did 6 _ 129 rfl rfl (hd { on := 6, ground := .data } (by simp) rfl)
                          have h17 : d 1 = true := hd { on := 1, ground := .data } (by simp) rfl
                          clear hh hd
                          have HN : Hid (Rm w u p g ob (if done d 7 1 then ⟨s0, 0, k, a, b⟩ else ⟨s0, 0, k, a, b⟩) a b ok on ∧ (done d 7 7 = true → done d 7 1 = true) ∧ (done d 7 8 = true → done d 7 1 = true) ∧ (done d 7 14 = true → done d 7 1 = true)) := ⟨by simpa [done] using hj.1, by simp [done, h17], by simp [done, h17], by simp [done, h17]⟩
                          clear h17
                          clear hj hi
                          refine wpOp_step rfl (fun K hK => ?_)
                          go_simp
                          exact hK _ _ ⟨by simp [Act.put], HN.out⟩
                        | 8, hoo, hi, hd =>
                          simp only [List.getElem?_cons_succ, List.getElem?_cons_zero, Option.some.injEq] at hoo
                          subst hoo
                          have g130 : y.tmps[130]? = some (.bool false) := hh.did 7 _ 130 rfl rfl (hd { on := 7, ground := .data } (by simp) rfl)
                          have h17 : d 1 = true := hj.2.1 (hd { on := 7, ground := .data } (by simp) rfl)
                          clear hh hd
                          have HN : Hid (Rm w u p g ob (if done d 8 1 then ⟨s0, 0, k, a, b⟩ else ⟨s0, 0, k, a, b⟩) a b ok on ∧ (done d 8 7 = true → done d 8 1 = true) ∧ (done d 8 8 = true → done d 8 1 = true) ∧ (done d 8 14 = true → done d 8 1 = true)) := ⟨by simpa [done] using hj.1, by simp [done, h17], by simp [done, h17], by simp [done, h17]⟩
                          clear h17
                          clear hj hi
                          refine wpOp_step rfl (fun K hK => ?_)
                          go_simp
                          exact hK _ _ ⟨by simp [Act.put], HN.out⟩
                        | 9, hoo, hi, hd =>
                          simp only [List.getElem?_cons_succ, List.getElem?_cons_zero, Option.some.injEq] at hoo
                          subst hoo
                          have g5 : y.tmps[5]? = some (.pointer (some ⟨p, 0, none⟩)) := hh.old 5 (by kernel_rfl) rfl
                          have g131 : y.tmps[131]? = some (.bool false) := hh.did 8 _ 131 rfl rfl (hd { on := 8, ground := .guard } (by simp) rfl)
                          clear hh hd
                          have HN : Hid (Rm w u p g ob (if done d 9 1 then ⟨s0, 0, k, a, b⟩ else ⟨s0, 0, k, a, b⟩) a b ok on ∧ (done d 9 7 = true → done d 9 1 = true) ∧ (done d 9 8 = true → done d 9 1 = true) ∧ (done d 9 14 = true → done d 9 1 = true)) := ⟨by simpa [done] using hj.1, by simpa [done] using hj.2.1, by simpa [done] using hj.2.2.1, by simpa [done] using hj.2.2.2⟩
                          clear hj hi
                          refine wpOp_step rfl (fun K hK => ?_)
                          go_simp
                          exact hK _ _ ⟨by simp [Act.put], HN.out⟩
                        | 10, hoo, hi, hd =>
                          simp only [List.getElem?_cons_succ, List.getElem?_cons_zero, Option.some.injEq] at hoo
                          subst hoo
                          have g132 : y.tmps[132]? = some (.pointer (some ⟨p, 0, none⟩)) := hh.did 9 _ 132 rfl rfl (hd { on := 9, ground := .data } (by simp) rfl)
                          have g131 : y.tmps[131]? = some (.bool false) := hh.did 8 _ 131 rfl rfl (hd { on := 8, ground := .guard } (by simp) rfl)
                          have h17 : d 1 = true := hj.2.2.1 (hd { on := 8, ground := .guard } (by simp) rfl)
                          clear hh hd
                          have CA := CC.out u (by have := hj.1; rw [h17] at this; exact this)
                          have HN : Hid (Rm w u p g ob (if done d 10 1 then ⟨s0, 0, k, a, b⟩ else ⟨s0, 0, k, a, b⟩) a b ok on ∧ (done d 10 7 = true → done d 10 1 = true) ∧ (done d 10 8 = true → done d 10 1 = true) ∧ (done d 10 14 = true → done d 10 1 = true)) := by
                            have := hj
                            simp [Hid, done] at this ⊢
                            first | exact this | simp [this, h17]
                          clear hj hi h17
                          refine wpOp_step rfl (fun K hK => ?_)
                          go_simp
                          refine CA.mono ?_
                          rintro e u2 ⟨rfl, rfl⟩
                          exact hK _ _ ⟨by simp [Act.put], HN.out⟩
                        | 11, hoo, hi, hd =>
                          simp only [List.getElem?_cons_succ, List.getElem?_cons_zero, Option.some.injEq] at hoo
                          subst hoo
                          have g10 : y.tmps[10]? = some (.int .i64 0) := hh.old 10 (by kernel_rfl) rfl
                          have g131 : y.tmps[131]? = some (.bool false) := hh.did 8 _ 131 rfl rfl (hd { on := 8, ground := .guard } (by simp) rfl)
                          clear hh hd
                          have HN : Hid (Rm w u p g ob (if done d 11 1 then ⟨s0, 0, k, a, b⟩ else ⟨s0, 0, k, a, b⟩) a b ok on ∧ (done d 11 7 = true → done d 11 1 = true) ∧ (done d 11 8 = true → done d 11 1 = true) ∧ (done d 11 14 = true → done d 11 1 = true)) := ⟨by simpa [done] using hj.1, by simpa [done] using hj.2.1, by simpa [done] using hj.2.2.1, by simpa [done] using hj.2.2.2⟩
                          clear hj hi
                          refine wpOp_step rfl (fun K hK => ?_)
                          go_simp
                          exact hK _ _ ⟨by simp [Act.put], HN.out⟩
                        | 12, hoo, hi, hd =>
                          simp only [List.getElem?_cons_succ, List.getElem?_cons_zero, Option.some.injEq] at hoo
                          subst hoo
                          have g134 : y.tmps[134]? = some (.int .i64 0) := hh.did 11 _ 134 rfl rfl (hd { on := 11, ground := .data } (by simp) rfl)
                          have g131 : y.tmps[131]? = some (.bool false) := hh.did 8 _ 131 rfl rfl (hd { on := 8, ground := .guard } (by simp) rfl)
                          clear hh hd
                          have HN : Hid (Rm w u p g ob (if done d 12 1 then ⟨s0, 0, k, a, b⟩ else ⟨s0, 0, k, a, b⟩) a b ok on ∧ (done d 12 7 = true → done d 12 1 = true) ∧ (done d 12 8 = true → done d 12 1 = true) ∧ (done d 12 14 = true → done d 12 1 = true)) := ⟨by simpa [done] using hj.1, by simpa [done] using hj.2.1, by simpa [done] using hj.2.2.1, by simpa [done] using hj.2.2.2⟩
                          clear hj hi
                          refine wpOp_step rfl (fun K hK => ?_)
                          go_simp
                          exact hK _ _ ⟨by first | (simp [Act.put]; done) | (simp [Act.put]; rfl), HN.out⟩
                        | 13, hoo, hi, hd =>
                          simp only [List.getElem?_cons_succ, List.getElem?_cons_zero, Option.some.injEq] at hoo
                          subst hoo
                          have g133 : y.tmps[133]? = some (.int .i64 0) := hh.did 10 _ 133 rfl rfl (hd { on := 10, ground := .data } (by simp) rfl)
                          have g135 : y.tmps[135]? = some (.int .i64 1) := hh.did 12 _ 135 rfl rfl (hd { on := 12, ground := .data } (by simp) rfl)
                          have g131 : y.tmps[131]? = some (.bool false) := hh.did 8 _ 131 rfl rfl (hd { on := 8, ground := .guard } (by simp) rfl)
                          clear hh hd
                          have HN : Hid (Rm w u p g ob (if done d 13 1 then ⟨s0, 0, k, a, b⟩ else ⟨s0, 0, k, a, b⟩) a b ok on ∧ (done d 13 7 = true → done d 13 1 = true) ∧ (done d 13 8 = true → done d 13 1 = true) ∧ (done d 13 14 = true → done d 13 1 = true)) := ⟨by simpa [done] using hj.1, by simpa [done] using hj.2.1, by simpa [done] using hj.2.2.1, by simpa [done] using hj.2.2.2⟩
                          clear hj hi
                          refine wpOp_step rfl (fun K hK => ?_)
                          go_simp
                          exact hK _ _ ⟨by simp [Act.put], HN.out⟩
                        | 14, hoo, hi, hd =>
                          simp only [List.getElem?_cons_succ, List.getElem?_cons_zero, Option.some.injEq] at hoo
                          subst hoo
                          have g136 : y.tmps[136]? = some (.bool false) := hh.did 13 _ 136 rfl rfl (hd { on := 13, ground := .data } (by simp) rfl)
                          have g131 : y.tmps[131]? = some (.bool false) := hh.did 8 _ 131 rfl rfl (hd { on := 8, ground := .guard } (by simp) rfl)
                          have h17 : d 1 = true := hj.2.2.1 (hd { on := 8, ground := .guard } (by simp) rfl)
                          clear hh hd
                          have HN : Hid (Rm w u p g ob (if done d 14 1 then ⟨s0, 0, k, a, b⟩ else ⟨s0, 0, k, a, b⟩) a b ok on ∧ (done d 14 7 = true → done d 14 1 = true) ∧ (done d 14 8 = true → done d 14 1 = true) ∧ (done d 14 14 = true → done d 14 1 = true)) := ⟨by simpa [done] using hj.1, by simp [done, h17], by simp [done, h17], by simp [done, h17]⟩
                          clear h17
                          clear hj hi
                          refine wpOp_step rfl (fun K hK => ?_)
                          go_simp
                          exact hK _ _ ⟨by simp [Act.put], HN.out⟩
                        | 15, hoo, hi, hd =>
                          simp only [List.getElem?_cons_succ, List.getElem?_cons_zero, Option.some.injEq] at hoo
                          subst hoo
                          have g5 : y.tmps[5]? = some (.pointer (some ⟨p, 0, none⟩)) := hh.old 5 (by kernel_rfl) rfl
                          have g137 : y.tmps[137]? = some (.bool false) := hh.did 14 _ 137 rfl rfl (hd { on := 14, ground := .guard } (by simp) rfl)
                          clear hh hd
                          have HN : Hid (Rm w u p g ob (if done d 15 1 then ⟨s0, 0, k, a, b⟩ else ⟨s0, 0, k, a, b⟩) a b ok on ∧ (done d 15 7 = true → done d 15 1 = true) ∧ (done d 15 8 = true → done d 15 1 = true) ∧ (done d 15 14 = true → done d 15 1 = true)) := ⟨by simpa [done] using hj.1, by simpa [done] using hj.2.1, by simpa [done] using hj.2.2.1, by simpa [done] using hj.2.2.2⟩
                          clear hj hi
                          refine wpOp_step rfl (fun K hK => ?_)
                          go_simp
                          exact hK _ _ ⟨by simp [Act.put], HN.out⟩
                        | 16, hoo, hi, hd =>
                          simp only [List.getElem?_cons_succ, List.getElem?_cons_zero, Option.some.injEq] at hoo
                          subst hoo
                          have g138 : y.tmps[138]? = some undef := hh.did 15 _ 138 rfl rfl (hd { on := 15, ground := .data } (by simp) rfl)
                          have g137 : y.tmps[137]? = some (.bool false) := hh.did 14 _ 137 rfl rfl (hd { on := 14, ground := .guard } (by simp) rfl)
                          have h17 : d 1 = true := hj.2.2.2 (hd { on := 14, ground := .guard } (by simp) rfl)
                          clear hh hd
                          have HN : Hid (Rm w u p g ob (if done d 16 1 then ⟨s0, 0, k, a, b⟩ else ⟨s0, 0, k, a, b⟩) a b ok on ∧ (done d 16 7 = true → done d 16 1 = true) ∧ (done d 16 8 = true → done d 16 1 = true) ∧ (done d 16 14 = true → done d 16 1 = true)) := ⟨by simpa [done] using hj.1, by simpa [done] using hj.2.1, by simpa [done] using hj.2.2.1, by simpa [done] using hj.2.2.2⟩
                          clear hj hi
                          refine wpOp_step rfl (fun K hK => ?_)
                          go_simp
                          exact hK _ _ ⟨by simp [Act.put], HN.out⟩
                        | 17, hoo, hi, hd =>
                          simp only [List.getElem?_cons_succ, List.getElem?_cons_zero, Option.some.injEq] at hoo
                          subst hoo
                          have g10 : y.tmps[10]? = some (.int .i64 0) := hh.old 10 (by kernel_rfl) rfl
                          have g137 : y.tmps[137]? = some (.bool false) := hh.did 14 _ 137 rfl rfl (hd { on := 14, ground := .guard } (by simp) rfl)
                          clear hh hd
                          have HN : Hid (Rm w u p g ob (if done d 17 1 then ⟨s0, 0, k, a, b⟩ else ⟨s0, 0, k, a, b⟩) a b ok on ∧ (done d 17 7 = true → done d 17 1 = true) ∧ (done d 17 8 = true → done d 17 1 = true) ∧ (done d 17 14 = true → done d 17 1 = true)) := ⟨by simpa [done] using hj.1, by simpa [done] using hj.2.1, by simpa [done] using hj.2.2.1, by simpa [done] using hj.2.2.2⟩
                          clear hj hi
                          refine wpOp_step rfl (fun K hK => ?_)
                          go_simp
                          exact hK _ _ ⟨by simp [Act.put], HN.out⟩
                        | 18, hoo, hi, hd =>
                          simp only [List.getElem?_cons_succ, List.getElem?_cons_zero, Option.some.injEq] at hoo
                          subst hoo
                          have g7 : y.tmps[7]? = some (.pointer (some ⟨g, 0, none⟩)) := hh.old 7 (by kernel_rfl) rfl
                          have g140 : y.tmps[140]? = some undef := hh.did 17 _ 140 rfl rfl (hd { on := 17, ground := .data } (by simp) rfl)
                          have g137 : y.tmps[137]? = some (.bool false) := hh.did 14 _ 137 rfl rfl (hd { on := 14, ground := .guard } (by simp) rfl)
                          clear hh hd
                          have HN : Hid (Rm w u p g ob (if done d 18 1 then ⟨s0, 0, k, a, b⟩ else ⟨s0, 0, k, a, b⟩) a b ok on ∧ (done d 18 7 = true → done d 18 1 = true) ∧ (done d 18 8 = true → done d 18 1 = true) ∧ (done d 18 14 = true → done d 18 1 = true)) := ⟨by simpa [done] using hj.1, by simpa [done] using hj.2.1, by simpa [done] using hj.2.2.1, by simpa [done] using hj.2.2.2⟩
                          clear hj hi
                          refine wpOp_step rfl (fun K hK => ?_)
                          go_simp
                          exact hK _ _ ⟨by simp [Act.put], HN.out⟩
                        | 19, hoo, hi, hd =>
                          simp only [List.getElem?_cons_succ, List.getElem?_cons_zero, Option.some.injEq] at hoo
                          subst hoo
                          have g141 : y.tmps[141]? = some undef := hh.did 18 _ 141 rfl rfl (hd { on := 18, ground := .data } (by simp) rfl)
                          have g137 : y.tmps[137]? = some (.bool false) := hh.did 14 _ 137 rfl rfl (hd { on := 14, ground := .guard } (by simp) rfl)
                          clear hh hd
                          have HN : Hid (Rm w u p g ob (if done d 19 1 then ⟨s0, 0, k, a, b⟩ else ⟨s0, 0, k, a, b⟩) a b ok on ∧ (done d 19 7 = true → done d 19 1 = true) ∧ (done d 19 8 = true → done d 19 1 = true) ∧ (done d 19 14 = true → done d 19 1 = true)) := ⟨by simpa [done] using hj.1, by simpa [done] using hj.2.1, by simpa [done] using hj.2.2.1, by simpa [done] using hj.2.2.2⟩
                          clear hj hi
                          refine wpOp_step rfl (fun K hK => ?_)
                          go_simp
                          exact hK _ _ ⟨by simp [Act.put], HN.out⟩
                        | 20, hoo, hi, hd =>
                          simp only [List.getElem?_cons_succ, List.getElem?_cons_zero, Option.some.injEq] at hoo
                          subst hoo
                          have g139 : y.tmps[139]? = some undef := hh.did 16 _ 139 rfl rfl (hd { on := 16, ground := .data } (by simp) rfl)
                          have g142 : y.tmps[142]? = some undef := hh.did 19 _ 142 rfl rfl (hd { on := 19, ground := .data } (by simp) rfl)
                          have g137 : y.tmps[137]? = some (.bool false) := hh.did 14 _ 137 rfl rfl (hd { on := 14, ground := .guard } (by simp) rfl)
                          clear hh hd
                          have HN : Hid (Rm w u p g ob (if done d 20 1 then ⟨s0, 0, k, a, b⟩ else ⟨s0, 0, k, a, b⟩) a b ok on ∧ (done d 20 7 = true → done d 20 1 = true) ∧ (done d 20 8 = true → done d 20 1 = true) ∧ (done d 20 14 = true → done d 20 1 = true)) := ⟨by simpa [done] using hj.1, by simpa [done] using hj.2.1, by simpa [done] using hj.2.2.1, by simpa [done] using hj.2.2.2⟩
                          clear hj hi
                          refine wpOp_step rfl (fun K hK => ?_)
                          go_simp
                          exact hK _ _ ⟨by simp [Act.put], HN.out⟩
                        | 21, hoo, hi, hd =>
                          simp only [List.getElem?_cons_succ, List.getElem?_cons_zero, Option.some.injEq] at hoo
                          subst hoo
                          have g137 : y.tmps[137]? = some (.bool false) := hh.did 14 _ 137 rfl rfl (hd { on := 14, ground := .data } (by simp) rfl)
                          have g143 : y.tmps[143]? = some undef := hh.did 20 _ 143 rfl rfl (hd { on := 20, ground := .data } (by simp) rfl)
                          have g131 : y.tmps[131]? = some (.bool false) := hh.did 8 _ 131 rfl rfl (hd { on := 8, ground := .guard } (by simp) rfl)
                          clear hh hd
                          have HN : Hid (Rm w u p g ob (if done d 21 1 then ⟨s0, 0, k, a, b⟩ else ⟨s0, 0, k, a, b⟩) a b ok on ∧ (done d 21 7 = true → done d 21 1 = true) ∧ (done d 21 8 = true → done d 21 1 = true) ∧ (done d 21 14 = true → done d 21 1 = true)) := ⟨by simpa [done] using hj.1, by simpa [done] using hj.2.1, by simpa [done] using hj.2.2.1, by simpa [done] using hj.2.2.2⟩
                          clear hj hi
                          refine wpOp_step rfl (fun K hK => ?_)
                          go_simp
                          exact hK _ _ ⟨by simp [Act.put], HN.out⟩
                        | 22, hoo, hi, hd =>
                          simp only [List.getElem?_cons_succ, List.getElem?_cons_zero, Option.some.injEq] at hoo
                          subst hoo
                          have g131 : y.tmps[131]? = some (.bool false) := hh.did 8 _ 131 rfl rfl (hd { on := 8, ground := .data } (by simp) rfl)
                          have g144 : y.tmps[144]? = some (.bool false) := hh.did 21 _ 144 rfl rfl (hd { on := 21, ground := .data } (by simp) rfl)
                          clear hh hd
                          have HN : Hid (Rm w u p g ob (if done d 22 1 then ⟨s0, 0, k, a, b⟩ else ⟨s0, 0, k, a, b⟩) a b ok on ∧ (done d 22 7 = true → done d 22 1 = true) ∧ (done d 22 8 = true → done d 22 1 = true) ∧ (done d 22 14 = true → done d 22 1 = true)) := ⟨by simpa [done] using hj.1, by simpa [done] using hj.2.1, by simpa [done] using hj.2.2.1, by simpa [done] using hj.2.2.2⟩
                          clear hj hi
                          refine wpOp_step rfl (fun K hK => ?_)
                          go_simp
                          exact hK _ _ ⟨by simp [Act.put], HN.out⟩
                        | k + 23, hoo, _, _ => simp at hoo
                      · intro u d hall hj
                        have H6 : Hid (Rm w u p g ob ⟨s0, 0, k, a, b⟩ a b ok on) := by
                          have h := hj.1
                          rw [hall 1 (by decide)] at h
                          exact h
                        clear hall hj
                        simp only [List.getD_cons_succ, List.getD_cons_zero]
                        go_wp2
                        go_meet
                        case rel => exact ⟨_, false, rfl, rfl, _, _, _, rfl, H6.out, .inl ⟨rfl, rfl, rfl⟩⟩
              · have h11' : (ok == 1) = false := by simpa using h11
                clear h11
                by_cases h13 : ok = 3
                · have h13' : (ok == 3) = true := by simpa using h13
                  clear h13
                  as_aux_lemma =>
                    go_wp2_with fail
                    refine (skip_any on _ HW.out.mine.tab).mono ?_
                    rintro e w6 ⟨rfl, t6, m6⟩
                    have H6 : Hid (Rm w w6 p g ob (skipS ⟨s0, 0, k, a, b⟩ on) a b ok on) := HW.out.step t6 m6
                    clear t6 m6 HW b1
                    generalize skips _ _ = vs
                    go_wp2
                    go_meet
                    case rel =>
                      refine ⟨0, false, rfl, rfl, _, a, b, ?_, H6.out, .inl ⟨rfl, ?_, ?_⟩⟩
                      all_goals (unfold skipS; split <;> rfl)
                · have h13' : (ok == 3) = false := by simpa using h13
                  clear h13
                  by_cases h14 : ok = 4
                  · have h14' : (ok == 4) = true := by simpa using h14
                    clear h14
                    as_aux_lemma =>
                      by_cases hk : k = 0
                      · subst hk
                        simp only [z0]
                        go_wp2_with fail
                        refine (done_any _ HW.out.mine.tab).mono ?_
                        rintro e w6 ⟨rfl, t6, m6⟩
                        have H6 : Hid (Rm w w6 p g ob ⟨s0, 0, 0, a, 0⟩ a b ok on) := HW.out.step t6 m6
                        have e6 : dones ⟨s0, 0, 0, a, b⟩ = true := rfl
                        rw [e6]
                        clear t6 m6 HW b1 e6
                        have d2 := H6.out.ends.blk.at 0 rfl
                        have d3 := H6.out.ends.blk.at 1 rfl
                        have df := H6.out.ends.blk.fz
                        go_wp2
                        have H7 : Hid (Rm w (w6.setCell ⟨g, 1, none⟩ (.int .i64 0)) p g ob ⟨s0, 0, 0, a, 0⟩ a 0 ok on) := H6.out.put ((Mut.refl _ _).setCell (by simp) _) (H6.out.ends.set 1 _)
                        go_meet
                        case rel => exact ⟨_, false, rfl, rfl, _, _, _, rfl, H7.out, .inl ⟨rfl, rfl, rfl⟩⟩
                      · have hk' : ((k : Int) == 0) = false := by simpa using hk
                        go_wp2_with fail
                        refine (done_any _ HW.out.mine.tab).mono ?_
                        rintro e w6 ⟨rfl, t6, m6⟩
                        have e6 : dones ⟨s0, 0, k, a, b⟩ = false := by simpa [dones] using hk
                        have H6 : Hid (Rm w w6 p g ob ⟨s0, 0, k, a, b⟩ a b ok on) := (HW.out.step t6 m6).eq (by simp [doneS, e6])
                        rw [e6]
                        clear t6 m6 HW b1 e6
                        go_wp2
                        go_meet
                        case rel => exact ⟨_, false, rfl, rfl, _, _, _, rfl, H6.out, .inl ⟨rfl, rfl, rfl⟩⟩
                  · have h14' : (ok == 4) = false := by simpa using h14
                    clear h14
                    go_wp2
                    go_meet
                    case rel => exact ⟨0, false, rfl, rfl, _, a, b, rfl, HW.out, .inl ⟨rfl, rfl, rfl⟩⟩
        case rest =>
          clear HW b1
          obtain ⟨q, y, rfl, rfl, hc⟩ := hcut
          obtain ⟨⟨s2, c2, k2, a2, b2⟩, E0, E1, hs2, h7, hor⟩ := hc.out
          have H7 : Hid _ := h7
          obtain rfl : s2 = s0 := hs2
          clear hc h7 h1 h3 h4 h5 hs
          rcases hor with ⟨rfl, e1, e2⟩ | ⟨rfl, hon, rfl, rfl, hsum, e1⟩
          · have H9 : Hid (Rm w wc p g ob ⟨s2, c2, k2, a2, b2⟩ a2 b2 ok on) := by
              have := H7.out
              rw [e1, e2] at this
              exact this
            clear H7 e1 e2
            obtain ⟨f1, f2, f3, f4, f5⟩ := H9.out.mine.tab.ok
            simp only [CS.u, CS.o] at f1 f2 f3 f4 f5
            rcases f2 with rfl | rfl
            · simp only [if_true] at f3 f4 f5
              as_aux_lemma =>
                go_wp2_with fail
                refine (current_any _ H9.out.mine.tab).mono ?_
                rintro e w10 ⟨rfl, rfl⟩
                simp only [z0]
                have GA : Hid (∀ x : KW w10, Calls Try.prog 21 #[.pointer (some ⟨p, 0, none⟩), .int .i64 0] x.it fun e w' => e = .returned (.int .i64 (a2 : Int)) ∧ w' = x.it) := fun x => used_any 0 _ (H9.out.mine.tab.kept x.ok)
                have GB : Hid (∀ x : KW w10, Calls Try.prog 21 #[.pointer (some ⟨p, 0, none⟩), .int .i64 1] x.it fun e w' => e = .returned (.int .i64 (b2 : Int)) ∧ w' = x.it) := fun x => used_any 1 _ (H9.out.mine.tab.kept x.ok)
                have GL : Hid (∀ x : KW w10, Calls Try.prog 24 #[.pointer (some ⟨p, 0, none⟩)] x.it fun e w' => e = .returned (.int .i64 (k2 : Int)) ∧ w' = x.it) := fun x => left_any _ (H9.out.mine.tab.kept x.ok)
                have GR : Hid (∀ x : KW w10, Calls Try.prog 22 #[.pointer (some ⟨p, 0, none⟩)] x.it fun e w' => e = .returned (.int .i64 ((s2 : Int) - (a2 : Int) - (k2 : Int))) ∧ Kept x.it w') := fun x => room_any _ (H9.out.mine.tab.kept x.ok)
                have y1 : ((a2 : Int) != (a2 : Int)) = false := by simp
                have y2 : ((b2 : Int) != (b2 : Int)) = false := by simp
                have y3 : decide ((k2 : Int) < 0) = false := decide_eq_false (by omega)
                have y4 : decide ((a2 : Int) + (k2 : Int) > (s2 : Int)) = false := decide_eq_false (by omega)
                have y4' : decide ((s2 : Int) < (a2 : Int) + (k2 : Int)) = false := decide_eq_false (by omega)
                have y5 : ((s2 : Int) - (a2 : Int) - (k2 : Int) != (s2 : Int) - (a2 : Int) - (k2 : Int)) = false := by simp
                go_wp2_with fail
                have q2 := KW.cell (a := ⟨g, 0, none⟩) H9.out.ends.lt (H9.out.ends.blk.at 0 rfl)
                have q3 := KW.cell (a := ⟨g, 1, none⟩) H9.out.ends.lt (H9.out.ends.blk.at 1 rfl)
                refine wp_region_kept (by kernel_rfl) (by kernel_rfl) fun _ => ?_
                repeat (go_big_quiet_step (first | (go_at_call_of 21 (#[Value.pointer (some ⟨p, 0, none⟩), Value.int IntKind.i64 0]); exact kept_of_same (GA.out _)) | (go_at_call_of 21 (#[Value.pointer (some ⟨p, 0, none⟩), Value.int IntKind.i64 1]); exact kept_of_same (GB.out _)) | (go_at_call 24; exact kept_of_same (GL.out _)) | (go_at_call 22; exact kept_of (GR.out _))))
                refine wpQuiet_nil ?_
                rintro _ ⟨z, rfl⟩
                clear q2 q3
                have H10 : Hid (Mine w z.it p ⟨s2, 0, k2, a2, b2⟩ ∧ Own z.it g 37 [.int .i64 (a2 : Int), .int .i64 (b2 : Int)] ∧ w.heap.size ≤ g) := ⟨H9.out.mine.still z.ok, H9.out.ends.kept z.ok, H9.out.log⟩
                clear GA GB GL GR y1 y2 y3 y4 y4' y5 H9
                go_wp2
                go_roundg (l - (j + 1))
                all_goals (have := HM.out; try omega)
                exact ⟨j + 1, by go_num, by omega, rfl, _, rfl, H10.out⟩
            · simp only [if_false, Nat.one_ne_zero] at f3 f4 f5
              as_aux_lemma =>
                go_wp2_with fail
                refine (current_any _ H9.out.mine.tab).mono ?_
                rintro e w10 ⟨rfl, rfl⟩
                simp only [z1]
                have GA : Hid (∀ x : KW w10, Calls Try.prog 21 #[.pointer (some ⟨p, 0, none⟩), .int .i64 0] x.it fun e w' => e = .returned (.int .i64 (a2 : Int)) ∧ w' = x.it) := fun x => used_any 0 _ (H9.out.mine.tab.kept x.ok)
                have GB : Hid (∀ x : KW w10, Calls Try.prog 21 #[.pointer (some ⟨p, 0, none⟩), .int .i64 1] x.it fun e w' => e = .returned (.int .i64 (b2 : Int)) ∧ w' = x.it) := fun x => used_any 1 _ (H9.out.mine.tab.kept x.ok)
                have GL : Hid (∀ x : KW w10, Calls Try.prog 24 #[.pointer (some ⟨p, 0, none⟩)] x.it fun e w' => e = .returned (.int .i64 (k2 : Int)) ∧ w' = x.it) := fun x => left_any _ (H9.out.mine.tab.kept x.ok)
                have GR : Hid (∀ x : KW w10, Calls Try.prog 22 #[.pointer (some ⟨p, 0, none⟩)] x.it fun e w' => e = .returned (.int .i64 ((s2 : Int) - (b2 : Int) - (k2 : Int))) ∧ Kept x.it w') := fun x => room_any _ (H9.out.mine.tab.kept x.ok)
                have y1 : ((a2 : Int) != (a2 : Int)) = false := by simp
                have y2 : ((b2 : Int) != (b2 : Int)) = false := by simp
                have y3 : decide ((k2 : Int) < 0) = false := decide_eq_false (by omega)
                have y4 : decide ((b2 : Int) + (k2 : Int) > (s2 : Int)) = false := decide_eq_false (by omega)
                have y4' : decide ((s2 : Int) < (b2 : Int) + (k2 : Int)) = false := decide_eq_false (by omega)
                have y5 : ((s2 : Int) - (b2 : Int) - (k2 : Int) != (s2 : Int) - (b2 : Int) - (k2 : Int)) = false := by simp
                go_wp2_with fail
                have q2 := KW.cell (a := ⟨g, 0, none⟩) H9.out.ends.lt (H9.out.ends.blk.at 0 rfl)
                have q3 := KW.cell (a := ⟨g, 1, none⟩) H9.out.ends.lt (H9.out.ends.blk.at 1 rfl)
                refine wp_region_kept (by kernel_rfl) (by kernel_rfl) fun _ => ?_
                repeat (go_big_quiet_step (first | (go_at_call_of 21 (#[Value.pointer (some ⟨p, 0, none⟩), Value.int IntKind.i64 0]); exact kept_of_same (GA.out _)) | (go_at_call_of 21 (#[Value.pointer (some ⟨p, 0, none⟩), Value.int IntKind.i64 1]); exact kept_of_same (GB.out _)) | (go_at_call 24; exact kept_of_same (GL.out _)) | (go_at_call 22; exact kept_of (GR.out _))))
                refine wpQuiet_nil ?_
                rintro _ ⟨z, rfl⟩
                clear q2 q3
                have H10 : Hid (Mine w z.it p ⟨s2, 1, k2, a2, b2⟩ ∧ Own z.it g 37 [.int .i64 (a2 : Int), .int .i64 (b2 : Int)] ∧ w.heap.size ≤ g) := ⟨H9.out.mine.still z.ok, H9.out.ends.kept z.ok, H9.out.log⟩
                clear GA GB GL GR y1 y2 y3 y4 y4' y5 H9
                go_wp2
                go_roundg (l - (j + 1))
                all_goals (have := HM.out; try omega)
                exact ⟨j + 1, by go_num, by omega, rfl, _, rfl, H10.out⟩
          · obtain ⟨f1, f2, f3, f4, f5⟩ := H7.out.mine.tab.ok
            simp only [CS.u, CS.o, if_true] at f1 f3 f4 f5
            clear f2
            simp only at hsum e1
            obtain rfl : b2 = E1 := e1.symm
            have d0 := H7.out.op.blk.at 1 rfl
            have d2 := H7.out.ends.blk.at 0 rfl
            have d3 := H7.out.ends.blk.at 1 rfl
            have df := H7.out.ends.blk.fz
            have y0 : ((E0 : Int) != (E0 : Int)) = false := by simp
            go_wp2
            go_region
            all_goals try rw [hsum]
            have H9 : Hid (Rm w (wc.setCell ⟨g, 0, none⟩ (.int .i64 (a2 : Int))).drew p g ob ⟨s2, 0, k2, a2, b2⟩ a2 b2 ok on) := H7.out.put ((Mut.refl _ _).setCell (by simp) _).drew (H7.out.ends.set 0 _).drew
            clear d0 d2 d3 df y0 H7 hsum
            go_wp2_with fail
            generalize (wc.setCell ⟨g, 0, none⟩ (.int .i64 (a2 : Int))).drew = w9 at *
            as_aux_lemma =>
              refine (current_any _ H9.out.mine.tab).mono ?_
              rintro e w10 ⟨rfl, rfl⟩
              simp only [z0]
              have GA : Hid (∀ x : KW w10, Calls Try.prog 21 #[.pointer (some ⟨p, 0, none⟩), .int .i64 0] x.it fun e w' => e = .returned (.int .i64 (a2 : Int)) ∧ w' = x.it) := fun x => used_any 0 _ (H9.out.mine.tab.kept x.ok)
              have GB : Hid (∀ x : KW w10, Calls Try.prog 21 #[.pointer (some ⟨p, 0, none⟩), .int .i64 1] x.it fun e w' => e = .returned (.int .i64 (b2 : Int)) ∧ w' = x.it) := fun x => used_any 1 _ (H9.out.mine.tab.kept x.ok)
              have GL : Hid (∀ x : KW w10, Calls Try.prog 24 #[.pointer (some ⟨p, 0, none⟩)] x.it fun e w' => e = .returned (.int .i64 (k2 : Int)) ∧ w' = x.it) := fun x => left_any _ (H9.out.mine.tab.kept x.ok)
              have GR : Hid (∀ x : KW w10, Calls Try.prog 22 #[.pointer (some ⟨p, 0, none⟩)] x.it fun e w' => e = .returned (.int .i64 ((s2 : Int) - (a2 : Int) - (k2 : Int))) ∧ Kept x.it w') := fun x => room_any _ (H9.out.mine.tab.kept x.ok)
              have y1 : ((a2 : Int) != (a2 : Int)) = false := by simp
              have y2 : ((b2 : Int) != (b2 : Int)) = false := by simp
              have y3 : decide ((k2 : Int) < 0) = false := decide_eq_false (by omega)
              have y4 : decide ((a2 : Int) + (k2 : Int) > (s2 : Int)) = false := decide_eq_false (by omega)
              have y4' : decide ((s2 : Int) < (a2 : Int) + (k2 : Int)) = false := decide_eq_false (by omega)
              have y5 : ((s2 : Int) - (a2 : Int) - (k2 : Int) != (s2 : Int) - (a2 : Int) - (k2 : Int)) = false := by simp
              go_wp2_with fail
              have q2 := KW.cell (a := ⟨g, 0, none⟩) H9.out.ends.lt (H9.out.ends.blk.at 0 rfl)
              have q3 := KW.cell (a := ⟨g, 1, none⟩) H9.out.ends.lt (H9.out.ends.blk.at 1 rfl)
              refine wp_region_kept (by kernel_rfl) (by kernel_rfl) fun _ => ?_
              repeat (go_big_quiet_step (first | (go_at_call_of 21 (#[Value.pointer (some ⟨p, 0, none⟩), Value.int IntKind.i64 0]); exact kept_of_same (GA.out _)) | (go_at_call_of 21 (#[Value.pointer (some ⟨p, 0, none⟩), Value.int IntKind.i64 1]); exact kept_of_same (GB.out _)) | (go_at_call 24; exact kept_of_same (GL.out _)) | (go_at_call 22; exact kept_of (GR.out _))))
              refine wpQuiet_nil ?_
              rintro _ ⟨z, rfl⟩
              clear q2 q3
              have H10 : Hid (Mine w z.it p ⟨s2, 0, k2, a2, b2⟩ ∧ Own z.it g 37 [.int .i64 (a2 : Int), .int .i64 (b2 : Int)] ∧ w.heap.size ≤ g) := ⟨H9.out.mine.still z.ok, H9.out.ends.kept z.ok, H9.out.log⟩
              clear GA GB GL GR y1 y2 y3 y4 y4' y5 H9
              go_wp2
              go_roundg (l - (j + 1))
              all_goals (have := HM.out; try omega)
              exact ⟨j + 1, by go_num, by omega, rfl, _, rfl, H10.out⟩
      · simp only [if_false, Nat.one_ne_zero] at h3 h4 h5
        go_wp2_with fail
        generalize hW : wr.alloc _ = W
        have HW : Hid (Rm w W p g wr.heap.size ⟨s0, 1, k, a, b⟩ a b ok on) := by
          rw [← hW]
          exact ⟨HS.out.1.still ((Kept.refl _).alloc _ _), HS.out.2.1.kept ((Kept.refl _).alloc _ _), Own.new wr [.int .i64 ok, .int .i64 on] _, HS.out.2.2⟩
        clear hW HS e0 e1
        generalize wr.heap.size = ob at *
        refine (current_any _ HW.out.mine.tab).mono ?_
        rintro e w4 ⟨rfl, rfl⟩
        simp only [z1]
        go_wp2_with fail
        refine (left_any _ HW.out.mine.tab).mono ?_
        rintro e w5 ⟨rfl, rfl⟩
        have b0 := HW.out.op.blk.at 0 rfl
        go_upto_block 2 with fail
        clear b0
        have b1 := HW.out.op.blk.at 1 rfl
        go_cut [11, 12] from 63 to 163 (fun vat vok wc => ∃ (q : Int) (y : Bool), vat = .int .i64 q ∧ vok = .bool y ∧ Hid (∃ (S' : CS) (E0 E1 : Nat), S'.s = s0 ∧ Rm w wc p g ob S' E0 E1 ok on ∧ ((y = false ∧ E0 = S'.a ∧ E1 = S'.b) ∨ (y = true ∧ 1 ≤ on ∧ S'.c = 1 ∧ q = (E1 : Int) ∧ (E1 : Int) + on = (S'.b : Int) ∧ E0 = S'.a))))
        case first =>
          by_cases h10 : ok = 0
          · have h10' : (ok == 0) = true := by simpa using h10
            clear h10
            as_aux_lemma =>
              go_wp2_with fail
              refine (take_any on _ HW.out.mine.tab).mono ?_
              rintro e w6 ⟨rfl, t6, m6⟩
              have H6 : Hid (Rm w w6 p g ob (takeS ⟨s0, 1, k, a, b⟩ on) a b ok on) := HW.out.step t6 m6
              clear t6 m6 HW b1
              by_cases g1 : 1 ≤ on
              · have g1' : decide (on ≥ 1) = true := decide_eq_true g1
                by_cases g2 : on ≤ (s0 : Int) - (b : Int) - (k : Int)
                · obtain ⟨m, rfl⟩ : ∃ m : Nat, on = m := ⟨on.toNat, by omega⟩
                  have et : takes ⟨s0, 1, k, a, b⟩ (m : Int) = true := decide_eq_true (by simp [roomF, CS.u]; omega)
                  have H7 : Hid (Rm w w6 p g ob ⟨s0, 1, k, a, (b + m)⟩ a b ok (m : Int)) := H6.out.eq (by simp [takeS, et, putU])
                  have ea : takeA ⟨s0, 1, k, a, b⟩ (m : Int) = (b : Int) := by simp [takeA, et, CS.u]
                  rw [ea, et]
                  clear H6 ea et
                  go_wp2_with fail
                  have q1 := KW.cell (a := ⟨ob, 1, none⟩) H7.out.op.lt (H7.out.op.blk.at 1 rfl)
                  have q2 := KW.cell (a := ⟨g, 0, none⟩) H7.out.ends.lt (H7.out.ends.blk.at 0 rfl)
                  have q3 := KW.cell (a := ⟨g, 1, none⟩) H7.out.ends.lt (H7.out.ends.blk.at 1 rfl)
                  refine wp_region_kept (by kernel_rfl) (by kernel_rfl) fun _ => ?_
                  repeat (go_big_quiet_step (fail))
                  refine wpQuiet_nil ?_
                  rintro _ ⟨z, rfl⟩
                  clear q1 q2 q3
                  go_wp2
                  go_meet
                  case rel => exact ⟨_, true, rfl, rfl, _, a, b, rfl, H7.out.still z.ok, .inr ⟨rfl, g1, rfl, rfl, by simp, rfl⟩⟩
                · have g2' : decide (on ≤ (s0 : Int) - (b : Int) - (k : Int)) = false := decide_eq_false g2
                  have et : takes ⟨s0, 1, k, a, b⟩ on = false := decide_eq_false (by simp [roomF, CS.u]; omega)
                  have H7 : Hid (Rm w w6 p g ob ⟨s0, 1, k, a, b⟩ a b ok on) := H6.out.eq (by simp [takeS, et])
                  rw [et]
                  generalize takeA _ _ = va
                  clear H6 et
                  go_wp2_with fail
                  have q1 := KW.cell (a := ⟨ob, 1, none⟩) H7.out.op.lt (H7.out.op.blk.at 1 rfl)
                  have q2 := KW.cell (a := ⟨g, 0, none⟩) H7.out.ends.lt (H7.out.ends.blk.at 0 rfl)
                  have q3 := KW.cell (a := ⟨g, 1, none⟩) H7.out.ends.lt (H7.out.ends.blk.at 1 rfl)
                  refine wp_region_kept (by kernel_rfl) (by kernel_rfl) fun _ => ?_
                  repeat (go_big_quiet_step (fail))
                  refine wpQuiet_nil ?_
                  rintro _ ⟨z, rfl⟩
                  clear q1 q2 q3
                  go_wp2
                  go_meet
                  case rel => exact ⟨_, false, rfl, rfl, _, a, b, rfl, H7.out.still z.ok, .inl ⟨rfl, rfl, rfl⟩⟩
              · have g1' : decide (on ≥ 1) = false := decide_eq_false (by omega)
                have g1'' : decide (1 ≤ on) = false := decide_eq_false g1
                have et : takes ⟨s0, 1, k, a, b⟩ on = false := decide_eq_false (by omega)
                have H7 : Hid (Rm w w6 p g ob ⟨s0, 1, k, a, b⟩ a b ok on) := H6.out.eq (by simp [takeS, et])
                rw [et]
                generalize takeA _ _ = va
                clear H6 et
                go_wp2_with fail
                have q1 := KW.cell (a := ⟨ob, 1, none⟩) H7.out.op.lt (H7.out.op.blk.at 1 rfl)
                have q2 := KW.cell (a := ⟨g, 0, none⟩) H7.out.ends.lt (H7.out.ends.blk.at 0 rfl)
                have q3 := KW.cell (a := ⟨g, 1, none⟩) H7.out.ends.lt (H7.out.ends.blk.at 1 rfl)
                refine wp_region_kept (by kernel_rfl) (by kernel_rfl) fun _ => ?_
                repeat (go_big_quiet_step (fail))
                refine wpQuiet_nil ?_
                rintro _ ⟨z, rfl⟩
                clear q1 q2 q3
                go_wp2
                go_meet
                case rel => exact ⟨_, false, rfl, rfl, _, a, b, rfl, H7.out.still z.ok, .inl ⟨rfl, rfl, rfl⟩⟩
          · have h10' : (ok == 0) = false := by simpa using h10
            clear h10
            by_cases h12 : ok = 2
            · have h12' : (ok == 2) = true := by simpa using h12
              clear h12
              as_aux_lemma =>
                go_wp2_with fail
                refine (copy_any on _ HW.out.mine.tab).mono ?_
                rintro e w6 ⟨rfl, t6, m6⟩
                have H6 : Hid (Rm w w6 p g ob (copyS ⟨s0, 1, k, a, b⟩ on) a b ok on) := HW.out.step t6 m6
                clear t6 m6 HW b1
                by_cases g1 : 1 ≤ on
                · have g1' : decide (on ≥ 1) = true := decide_eq_true g1
                  by_cases g2 : on ≤ (k : Int)
                  · obtain ⟨m, rfl⟩ : ∃ m : Nat, on = m := ⟨on.toNat, by omega⟩
                    have et : skips ⟨s0, 1, k, a, b⟩ (m : Int) = true := decide_eq_true (by simp; omega)
                    have H7 : Hid (Rm w w6 p g ob ⟨s0, 1, (k - m), a, (b + m)⟩ a b ok (m : Int)) := H6.out.eq (by simp [copyS, et, putU])
                    have ea : copyA ⟨s0, 1, k, a, b⟩ (m : Int) = (b : Int) := by simp [copyA, et, CS.u]
                    rw [ea, et]
                    clear H6 ea et
                    have ez : ((k - m : Nat) : Int) = (k : Int) - (m : Int) := by omega
                    have GL : Hid (∀ x : KW w6, Calls Try.prog 24 #[.pointer (some ⟨p, 0, none⟩)] x.it fun e w' => e = .returned (.int .i64 ((k : Int) - (m : Int))) ∧ w' = x.it) := fun x => by
                      have := left_any _ (H7.out.mine.tab.kept x.ok)
                      simp only [ez] at this
                      exact this
                    clear ez
                    have ez : ((k : Int) - (m : Int) != (k : Int) - (m : Int)) = false := by simp
                    go_wp2_with fail
                    have q1 := KW.cell (a := ⟨ob, 1, none⟩) H7.out.op.lt (H7.out.op.blk.at 1 rfl)
                    have q2 := KW.cell (a := ⟨g, 0, none⟩) H7.out.ends.lt (H7.out.ends.blk.at 0 rfl)
                    have q3 := KW.cell (a := ⟨g, 1, none⟩) H7.out.ends.lt (H7.out.ends.blk.at 1 rfl)
                    refine wp_region_kept (by kernel_rfl) (by kernel_rfl) fun _ => ?_
                    repeat (go_big_quiet_step ((go_at_call 24; exact kept_of_same (GL.out _))))
                    refine wpQuiet_nil ?_
                    rintro _ ⟨z, rfl⟩
                    clear q1 q2 q3
                    go_wp2
                    go_meet
                    case rel => exact ⟨_, true, rfl, rfl, _, a, b, rfl, H7.out.still z.ok, .inr ⟨rfl, g1, rfl, rfl, by simp, rfl⟩⟩
                  · have g2' : decide (on ≤ (k : Int)) = false := decide_eq_false g2
                    have et : skips ⟨s0, 1, k, a, b⟩ on = false := decide_eq_false (by simp; omega)
                    have H7 : Hid (Rm w w6 p g ob ⟨s0, 1, k, a, b⟩ a b ok on) := H6.out.eq (by simp [copyS, et])
                    rw [et]
                    generalize copyA _ _ = va
                    clear H6 et
                    go_wp2_with fail
                    have q1 := KW.cell (a := ⟨ob, 1, none⟩) H7.out.op.lt (H7.out.op.blk.at 1 rfl)
                    have q2 := KW.cell (a := ⟨g, 0, none⟩) H7.out.ends.lt (H7.out.ends.blk.at 0 rfl)
                    have q3 := KW.cell (a := ⟨g, 1, none⟩) H7.out.ends.lt (H7.out.ends.blk.at 1 rfl)
                    refine wp_region_kept (by kernel_rfl) (by kernel_rfl) fun _ => ?_
                    repeat (go_big_quiet_step (fail))
                    refine wpQuiet_nil ?_
                    rintro _ ⟨z, rfl⟩
                    clear q1 q2 q3
                    go_wp2
                    go_meet
                    case rel => exact ⟨_, false, rfl, rfl, _, a, b, rfl, H7.out.still z.ok, .inl ⟨rfl, rfl, rfl⟩⟩
                · have g1' : decide (on ≥ 1) = false := decide_eq_false (by omega)
                  have g1'' : decide (1 ≤ on) = false := decide_eq_false g1
                  have et : skips ⟨s0, 1, k, a, b⟩ on = false := decide_eq_false (by omega)
                  have H7 : Hid (Rm w w6 p g ob ⟨s0, 1, k, a, b⟩ a b ok on) := H6.out.eq (by simp [copyS, et])
                  rw [et]
                  generalize copyA _ _ = va
                  clear H6 et
                  go_wp2_with fail
                  have q1 := KW.cell (a := ⟨ob, 1, none⟩) H7.out.op.lt (H7.out.op.blk.at 1 rfl)
                  have q2 := KW.cell (a := ⟨g, 0, none⟩) H7.out.ends.lt (H7.out.ends.blk.at 0 rfl)
                  have q3 := KW.cell (a := ⟨g, 1, none⟩) H7.out.ends.lt (H7.out.ends.blk.at 1 rfl)
                  refine wp_region_kept (by kernel_rfl) (by kernel_rfl) fun _ => ?_
                  repeat (go_big_quiet_step (fail))
                  refine wpQuiet_nil ?_
                  rintro _ ⟨z, rfl⟩
                  clear q1 q2 q3
                  go_wp2
                  go_meet
                  case rel => exact ⟨_, false, rfl, rfl, _, a, b, rfl, H7.out.still z.ok, .inl ⟨rfl, rfl, rfl⟩⟩
            · have h12' : (ok == 2) = false := by simpa using h12
              clear h12
              by_cases h11 : ok = 1
              · have h11' : (ok == 1) = true := by simpa using h11
                clear h11
                as_aux_lemma =>
                  by_cases ho : a = 0
                  · subst ho
                    as_aux_lemma =>
                      have TC : Hid (∀ u, Rm w u p g ob ⟨s0, 1, k, 0, b⟩ 0 b ok on → Calls Try.prog 12 #[.pointer (some ⟨p, 0, none⟩)] u fun e w' => e = .returned (.bool true) ∧ Rm w w' p g ob ⟨s0, 0, b, 0, b⟩ 0 b ok on) := fun u H => by
                        refine (turn_any _ H.mine.tab).mono ?_
                        rintro e w6 ⟨rfl, t6, m6⟩
                        exact ⟨rfl, H.step t6 m6⟩
                      have CC : Hid (∀ u, Rm w u p g ob ⟨s0, 0, b, 0, b⟩ 0 b ok on → Calls Try.prog 20 #[.pointer (some ⟨p, 0, none⟩)] u fun e w' => e = .returned (.int .i64 0) ∧ w' = u) := fun u H => current_any _ H.mine.tab
                      have CF : Hid (∀ u, Rm w u p g ob ⟨s0, 0, b, 0, b⟩ 0 b ok on → Calls Try.prog 24 #[.pointer (some ⟨p, 0, none⟩)] u fun e w' => e = .returned (.int .i64 (b : Int)) ∧ w' = u) := fun u H => left_any _ H.mine.tab
                      go_upto_region 25 with fail
                      refine wp_region_phase [(.pointer (some ⟨p, 0, none⟩)), (.bool true), (.int .i64 1), (.int .i64 0), (.pointer (some ⟨g, 0, none⟩)), (.int .i64 ((0 : Nat) : Int)), (.bool true), (.bool false), (.bool false), (.pointer (some ⟨p, 0, none⟩)), (.int .i64 0), (.int .i64 1), (.int .i64 0), (.bool true), (.bool true), (.pointer (some ⟨p, 0, none⟩)), (.int .i64 (b : Int)), (.int .i64 1), (.pointer (some ⟨g, 1, none⟩)), (.int .i64 ((b : Nat) : Int)), (.bool false), (.bool false), (.bool false)] [(123, 0), (124, 1), (125, 2), (126, 3), (127, 4), (128, 5), (129, 6), (130, 7), (131, 8), (132, 9), (133, 10), (134, 11), (135, 12), (136, 13), (137, 14), (138, 15), (139, 16), (140, 17), (141, 18), (142, 19), (143, 20), (144, 21), (145, 22)] [_, _, _, _, _, _, _, _, _, _, _, _, _, _, _, _, _, _, _, _, _, _, _, _, _, _, _, _, _, _, _, _, _, _, _, _, _, _, _, _, _, _, _, _, _, _, _, _, _, _, _, _, _, _, _, _, _, _, _, _, _, _, _, _, _, _, _, _, _, _, _, _, _, _, _, _, _, _, _, _, _, _, _, _, _, _, _, _, _, _, _, _, _, _, _, _, _, _, _, _, _, _, _, _, _, _, _, _, _, _, _, _, _, _, _, _, _, _, _, _, _, _, _, _, _, _, _, _, _, _, _, _, _, _, _, _, _, _, _, _, _, _, _, _, _, _, _, _, _, _, _, _, _, _, _, _, _, _, _, _, _, _, _, _, _, _, _, _, _, _, _, _, _, _, _, _, _, _, _, _, _, _, _, _, _, _, _, _, _, _, _, _, _, _, _, _, _, _, _, _, _, _, _, _, _, _, _, _, _, _, _, _, _, _, _, _, _, _, _, _, _, _, _, _, _, _, _, _] (fun d u => (Rm w u p g ob (if d 1 then ⟨s0, 0, b, 0, b⟩ else ⟨s0, 1, k, 0, b⟩) 0 b ok on ∧ (d 7 = true → d 1 = true) ∧ (d 8 = true → d 1 = true) ∧ (d 14 = true → d 1 = true))) (by kernel_rfl) (by kernel_rfl) (by kernel_rfl) (by kernel_rfl) rfl ?_ ?_ ?_
                      · exact ⟨HW.out.still (Kept.refl _).drew, by simp, by simp, by simp⟩
                      · intro i o hoo y d u hh hj hi hd
                        match i, hoo, hi, hd with
                        | 0, hoo, hi, hd =>
                          simp only [List.getElem?_cons_zero, Option.some.injEq] at hoo
                          subst hoo
                          have g5 : y.tmps[5]? = some (.pointer (some ⟨p, 0, none⟩)) := hh.old 5 (by kernel_rfl) rfl
                          clear hh hd
                          have HN : Hid (Rm w u p g ob (if done d 0 1 then ⟨s0, 0, b, 0, b⟩ else ⟨s0, 1, k, 0, b⟩) 0 b ok on ∧ (done d 0 7 = true → done d 0 1 = true) ∧ (done d 0 8 = true → done d 0 1 = true) ∧ (done d 0 14 = true → done d 0 1 = true)) := ⟨by simpa [done] using hj.1, by simpa [done] using hj.2.1, by simpa [done] using hj.2.2.1, by simpa [done] using hj.2.2.2⟩
                          clear hj hi
                          refine wpOp_step rfl (fun K hK => ?_)
                          go_simp
                          exact hK _ _ ⟨by simp [Act.put], HN.out⟩
                        | 1, hoo, hi, hd =>
                          simp only [List.getElem?_cons_succ, List.getElem?_cons_zero, Option.some.injEq] at hoo
                          subst hoo
                          have g123 : y.tmps[123]? = some (.pointer (some ⟨p, 0, none⟩)) := hh.did 0 _ 123 rfl rfl (hd { on := 0, ground := .data } (by simp) rfl)
                          clear hh hd
                          have CA := TC.out u (by have := hj.1; rw [hi] at this; exact this)
                          have HN : Hid (∀ u, Rm w u p g ob ⟨s0, 0, b, 0, b⟩ 0 b ok on → (Rm w u p g ob (if done d 1 1 then ⟨s0, 0, b, 0, b⟩ else ⟨s0, 1, k, 0, b⟩) 0 b ok on ∧ (done d 1 7 = true → done d 1 1 = true) ∧ (done d 1 8 = true → done d 1 1 = true) ∧ (done d 1 14 = true → done d 1 1 = true))) := fun u h => ⟨by simpa [done] using h, by simp [done], by simp [done], by simp [done]⟩
                          clear hj hi
                          refine wpOp_step rfl (fun K hK => ?_)
                          go_simp
                          refine CA.mono ?_
                          rintro e u2 ⟨rfl, h2⟩
                          exact hK _ _ ⟨by simp [Act.put], HN.out u2 h2⟩
                        | 2, hoo, hi, hd =>
                          simp only [List.getElem?_cons_succ, List.getElem?_cons_zero, Option.some.injEq] at hoo
                          subst hoo
                          have g10 : y.tmps[10]? = some (.int .i64 1) := hh.old 10 (by kernel_rfl) rfl
                          clear hh hd
                          have HN : Hid (Rm w u p g ob (if done d 2 1 then ⟨s0, 0, b, 0, b⟩ else ⟨s0, 1, k, 0, b⟩) 0 b ok on ∧ (done d 2 7 = true → done d 2 1 = true) ∧ (done d 2 8 = true → done d 2 1 = true) ∧ (done d 2 14 = true → done d 2 1 = true)) := ⟨by simpa [done] using hj.1, by simpa [done] using hj.2.1, by simpa [done] using hj.2.2.1, by simpa [done] using hj.2.2.2⟩
                          clear hj hi
                          refine wpOp_step rfl (fun K hK => ?_)
                          go_simp
                          exact hK _ _ ⟨by simp [Act.put], HN.out⟩
                        | 3, hoo, hi, hd =>
                          simp only [List.getElem?_cons_succ, List.getElem?_cons_zero, Option.some.injEq] at hoo
                          subst hoo
                          have g125 : y.tmps[125]? = some (.int .i64 1) := hh.did 2 _ 125 rfl rfl (hd { on := 2, ground := .data } (by simp) rfl)
                          clear hh hd
                          have HN : Hid (Rm w u p g ob (if done d 3 1 then ⟨s0, 0, b, 0, b⟩ else ⟨s0, 1, k, 0, b⟩) 0 b ok on ∧ (done d 3 7 = true → done d 3 1 = true) ∧ (done d 3 8 = true → done d 3 1 = true) ∧ (done d 3 14 = true → done d 3 1 = true)) := ⟨by simpa [done] using hj.1, by simpa [done] using hj.2.1, by simpa [done] using hj.2.2.1, by simpa [done] using hj.2.2.2⟩
                          clear hj hi
                          refine wpOp_step rfl (fun K hK => ?_)
                          go_simp
                          exact hK _ _ ⟨by first | (simp [Act.put]; done) | (simp [Act.put]; rfl), HN.out⟩
                        | 4, hoo, hi, hd =>
                          simp only [List.getElem?_cons_succ, List.getElem?_cons_zero, Option.some.injEq] at hoo
                          subst hoo
                          have g7 : y.tmps[7]? = some (.pointer (some ⟨g, 0, none⟩)) := hh.old 7 (by kernel_rfl) rfl
                          have g126 : y.tmps[126]? = some (.int .i64 0) := hh.did 3 _ 126 rfl rfl (hd { on := 3, ground := .data } (by simp) rfl)
                          clear hh hd
                          have HN : Hid (Rm w u p g ob (if done d 4 1 then ⟨s0, 0, b, 0, b⟩ else ⟨s0, 1, k, 0, b⟩) 0 b ok on ∧ (done d 4 7 = true → done d 4 1 = true) ∧ (done d 4 8 = true → done d 4 1 = true) ∧ (done d 4 14 = true → done d 4 1 = true)) := ⟨by simpa [done] using hj.1, by simpa [done] using hj.2.1, by simpa [done] using hj.2.2.1, by simpa [done] using hj.2.2.2⟩
                          clear hj hi
                          refine wpOp_step rfl (fun K hK => ?_)
                          go_simp
                          exact hK _ _ ⟨by simp [Act.put], HN.out⟩
                        | 5, hoo, hi, hd =>
                          simp only [List.getElem?_cons_succ, List.getElem?_cons_zero, Option.some.injEq] at hoo
                          subst hoo
                          have g127 : y.tmps[127]? = some (.pointer (some ⟨g, 0, none⟩)) := hh.did 4 _ 127 rfl rfl (hd { on := 4, ground := .data } (by simp) rfl)
                          have cc := hj.1.ends.blk.at 0 rfl
                          clear hh hd
                          have HN : Hid (Rm w u p g ob (if done d 5 1 then ⟨s0, 0, b, 0, b⟩ else ⟨s0, 1, k, 0, b⟩) 0 b ok on ∧ (done d 5 7 = true → done d 5 1 = true) ∧ (done d 5 8 = true → done d 5 1 = true) ∧ (done d 5 14 = true → done d 5 1 = true)) := ⟨by simpa [done] using hj.1, by simpa [done] using hj.2.1, by simpa [done] using hj.2.2.1, by simpa [done] using hj.2.2.2⟩
                          clear hj hi
                          refine wpOp_step rfl (fun K hK => ?_)
                          go_simp
                          exact hK _ _ ⟨by simp [Act.put], HN.out⟩
                        | 6, hoo, hi, hd =>
                          simp only [List.getElem?_cons_succ, List.getElem?_cons_zero, Option.some.injEq] at hoo
                          subst hoo
                          have g128 : y.tmps[128]? = some (.int .i64 ((0 : Nat) : Int)) := hh.did 5 _ 128 rfl rfl (hd { on := 5, ground := .data } (by simp) rfl)
                          clear hh hd
                          have HN : Hid (Rm w u p g ob (if done d 6 1 then ⟨s0, 0, b, 0, b⟩ else ⟨s0, 1, k, 0, b⟩) 0 b ok on ∧ (done d 6 7 = true → done d 6 1 = true) ∧ (done d 6 8 = true → done d 6 1 = true) ∧ (done d 6 14 = true → done d 6 1 = true)) := ⟨by simpa [done] using hj.1, by simpa [done] using hj.2.1, by simpa [done] using hj.2.2.1, by simpa [done] using hj.2.2.2⟩
                          clear hj hi
                          refine wpOp_step rfl (fun K hK => ?_)
                          go_simp
                          exact hK _ _ ⟨by simp [Act.put], HN.out⟩
                        | 7, hoo, hi, hd =>
                          simp only [List.getElem?_cons_succ, List.getElem?_cons_zero, Option.some.injEq] at hoo
                          subst hoo
                          have g124 : y.tmps[124]? = some (.bool true) := hh.did 1 _ 124 rfl rfl (hd { on := 1, ground := .data } (by simp) rfl)
                          have g129 : y.tmps[129]? = some (.bool true) := hh.did 6 _ 129 rfl rfl (hd { on := 6, ground := .data } (by simp) rfl)
                          have h17 : d 1 = true := hd { on := 1, ground := .data } (by simp) rfl
                          clear hh hd
                          have HN : Hid (Rm w u p g ob (if done d 7 1 then ⟨s0, 0, b, 0, b⟩ else ⟨s0, 1, k, 0, b⟩) 0 b ok on ∧ (done d 7 7 = true → done d 7 1 = true) ∧ (done d 7 8 = true → done d 7 1 = true) ∧ (done d 7 14 = true → done d 7 1 = true)) := ⟨by simpa [done] using hj.1, by simp [done, h17], by simp [done, h17], by simp [done, h17]⟩
                          clear h17
                          clear hj hi
                          refine wpOp_step rfl (fun K hK => ?_)
                          go_simp
                          exact hK _ _ ⟨by simp [Act.put], HN.out⟩
                        | 8, hoo, hi, hd =>
                          simp only [List.getElem?_cons_succ, List.getElem?_cons_zero, Option.some.injEq] at hoo
                          subst hoo
                          have g130 : y.tmps[130]? = some (.bool false) := hh.did 7 _ 130 rfl rfl (hd { on := 7, ground := .data } (by simp) rfl)
                          have h17 : d 1 = true := hj.2.1 (hd { on := 7, ground := .data } (by simp) rfl)
                          clear hh hd
                          have HN : Hid (Rm w u p g ob (if done d 8 1 then ⟨s0, 0, b, 0, b⟩ else ⟨s0, 1, k, 0, b⟩) 0 b ok on ∧ (done d 8 7 = true → done d 8 1 = true) ∧ (done d 8 8 = true → done d 8 1 = true) ∧ (done d 8 14 = true → done d 8 1 = true)) := ⟨by simpa [done] using hj.1, by simp [done, h17], by simp [done, h17], by simp [done, h17]⟩
                          clear h17
                          clear hj hi
                          refine wpOp_step rfl (fun K hK => ?_)
                          go_simp
                          exact hK _ _ ⟨by simp [Act.put], HN.out⟩
                        | 9, hoo, hi, hd =>
                          simp only [List.getElem?_cons_succ, List.getElem?_cons_zero, Option.some.injEq] at hoo
                          subst hoo
                          have g5 : y.tmps[5]? = some (.pointer (some ⟨p, 0, none⟩)) := hh.old 5 (by kernel_rfl) rfl
                          have g131 : y.tmps[131]? = some (.bool false) := hh.did 8 _ 131 rfl rfl (hd { on := 8, ground := .guard } (by simp) rfl)
                          clear hh hd
                          have HN : Hid (Rm w u p g ob (if done d 9 1 then ⟨s0, 0, b, 0, b⟩ else ⟨s0, 1, k, 0, b⟩) 0 b ok on ∧ (done d 9 7 = true → done d 9 1 = true) ∧ (done d 9 8 = true → done d 9 1 = true) ∧ (done d 9 14 = true → done d 9 1 = true)) := ⟨by simpa [done] using hj.1, by simpa [done] using hj.2.1, by simpa [done] using hj.2.2.1, by simpa [done] using hj.2.2.2⟩
                          clear hj hi
                          refine wpOp_step rfl (fun K hK => ?_)
                          go_simp
                          exact hK _ _ ⟨by simp [Act.put], HN.out⟩
                        | 10, hoo, hi, hd =>
                          simp only [List.getElem?_cons_succ, List.getElem?_cons_zero, Option.some.injEq] at hoo
                          subst hoo
                          have g132 : y.tmps[132]? = some (.pointer (some ⟨p, 0, none⟩)) := hh.did 9 _ 132 rfl rfl (hd { on := 9, ground := .data } (by simp) rfl)
                          have g131 : y.tmps[131]? = some (.bool false) := hh.did 8 _ 131 rfl rfl (hd { on := 8, ground := .guard } (by simp) rfl)
                          have h17 : d 1 = true := hj.2.2.1 (hd { on := 8, ground := .guard } (by simp) rfl)
                          clear hh hd
                          have CA := CC.out u (by have := hj.1; rw [h17] at this; exact this)
                          have HN : Hid (Rm w u p g ob (if done d 10 1 then ⟨s0, 0, b, 0, b⟩ else ⟨s0, 1, k, 0, b⟩) 0 b ok on ∧ (done d 10 7 = true → done d 10 1 = true) ∧ (done d 10 8 = true → done d 10 1 = true) ∧ (done d 10 14 = true → done d 10 1 = true)) := by
                            have := hj
                            simp [Hid, done] at this ⊢
                            first | exact this | simp [this, h17]
                          clear hj hi h17
                          refine wpOp_step rfl (fun K hK => ?_)
                          go_simp
                          refine CA.mono ?_
                          rintro e u2 ⟨rfl, rfl⟩
                          exact hK _ _ ⟨by simp [Act.put], HN.out⟩
                        | 11, hoo, hi, hd =>
                          simp only [List.getElem?_cons_succ, List.getElem?_cons_zero, Option.some.injEq] at hoo
                          subst hoo
                          have g10 : y.tmps[10]? = some (.int .i64 1) := hh.old 10 (by kernel_rfl) rfl
                          have g131 : y.tmps[131]? = some (.bool false) := hh.did 8 _ 131 rfl rfl (hd { on := 8, ground := .guard } (by simp) rfl)
                          clear hh hd
                          have HN : Hid (Rm w u p g ob (if done d 11 1 then ⟨s0, 0, b, 0, b⟩ else ⟨s0, 1, k, 0, b⟩) 0 b ok on ∧ (done d 11 7 = true → done d 11 1 = true) ∧ (done d 11 8 = true → done d 11 1 = true) ∧ (done d 11 14 = true → done d 11 1 = true)) := ⟨by simpa [done] using hj.1, by simpa [done] using hj.2.1, by simpa [done] using hj.2.2.1, by simpa [done] using hj.2.2.2⟩
                          clear hj hi
                          refine wpOp_step rfl (fun K hK => ?_)
                          go_simp
                          exact hK _ _ ⟨by simp [Act.put], HN.out⟩
                        | 12, hoo, hi, hd =>
                          simp only [List.getElem?_cons_succ, List.getElem?_cons_zero, Option.some.injEq] at hoo
                          subst hoo
                          have g134 : y.tmps[134]? = some (.int .i64 1) := hh.did 11 _ 134 rfl rfl (hd { on := 11, ground := .data } (by simp) rfl)
                          have g131 : y.tmps[131]? = some (.bool false) := hh.did 8 _ 131 rfl rfl (hd { on := 8, ground := .guard } (by simp) rfl)
                          clear hh hd
                          have HN : Hid (Rm w u p g ob (if done d 12 1 then ⟨s0, 0, b, 0, b⟩ else ⟨s0, 1, k, 0, b⟩) 0 b ok on ∧ (done d 12 7 = true → done d 12 1 = true) ∧ (done d 12 8 = true → done d 12 1 = true) ∧ (done d 12 14 = true → done d 12 1 = true)) := ⟨by simpa [done] using hj.1, by simpa [done] using hj.2.1, by simpa [done] using hj.2.2.1, by simpa [done] using hj.2.2.2⟩
                          clear hj hi
                          refine wpOp_step rfl (fun K hK => ?_)
                          go_simp
                          exact hK _ _ ⟨by first | (simp [Act.put]; done) | (simp [Act.put]; rfl), HN.out⟩
                        | 13, hoo, hi, hd =>
                          simp only [List.getElem?_cons_succ, List.getElem?_cons_zero, Option.some.injEq] at hoo
                          subst hoo
                          have g133 : y.tmps[133]? = some (.int .i64 0) := hh.did 10 _ 133 rfl rfl (hd { on := 10, ground := .data } (by simp) rfl)
                          have g135 : y.tmps[135]? = some (.int .i64 0) := hh.did 12 _ 135 rfl rfl (hd { on := 12, ground := .data } (by simp) rfl)
                          have g131 : y.tmps[131]? = some (.bool false) := hh.did 8 _ 131 rfl rfl (hd { on := 8, ground := .guard } (by simp) rfl)
                          clear hh hd
                          have HN : Hid (Rm w u p g ob (if done d 13 1 then ⟨s0, 0, b, 0, b⟩ else ⟨s0, 1, k, 0, b⟩) 0 b ok on ∧ (done d 13 7 = true → done d 13 1 = true) ∧ (done d 13 8 = true → done d 13 1 = true) ∧ (done d 13 14 = true → done d 13 1 = true)) := ⟨by simpa [done] using hj.1, by simpa [done] using hj.2.1, by simpa [done] using hj.2.2.1, by simpa [done] using hj.2.2.2⟩
                          clear hj hi
                          refine wpOp_step rfl (fun K hK => ?_)
                          go_simp
                          exact hK _ _ ⟨by simp [Act.put], HN.out⟩
                        | 14, hoo, hi, hd =>
                          simp only [List.getElem?_cons_succ, List.getElem?_cons_zero, Option.some.injEq] at hoo
                          subst hoo
                          have g136 : y.tmps[136]? = some (.bool true) := hh.did 13 _ 136 rfl rfl (hd { on := 13, ground := .data } (by simp) rfl)
                          have g131 : y.tmps[131]? = some (.bool false) := hh.did 8 _ 131 rfl rfl (hd { on := 8, ground := .guard } (by simp) rfl)
                          have h17 : d 1 = true := hj.2.2.1 (hd { on := 8, ground := .guard } (by simp) rfl)
                          clear hh hd
                          have HN : Hid (Rm w u p g ob (if done d 14 1 then ⟨s0, 0, b, 0, b⟩ else ⟨s0, 1, k, 0, b⟩) 0 b ok on ∧ (done d 14 7 = true → done d 14 1 = true) ∧ (done d 14 8 = true → done d 14 1 = true) ∧ (done d 14 14 = true → done d 14 1 = true)) := ⟨by simpa [done] using hj.1, by simp [done, h17], by simp [done, h17], by simp [done, h17]⟩
                          clear h17
                          clear hj hi
                          refine wpOp_step rfl (fun K hK => ?_)
                          go_simp
                          exact hK _ _ ⟨by simp [Act.put], HN.out⟩
                        | 15, hoo, hi, hd =>
                          simp only [List.getElem?_cons_succ, List.getElem?_cons_zero, Option.some.injEq] at hoo
                          subst hoo
                          have g5 : y.tmps[5]? = some (.pointer (some ⟨p, 0, none⟩)) := hh.old 5 (by kernel_rfl) rfl
                          have g137 : y.tmps[137]? = some (.bool true) := hh.did 14 _ 137 rfl rfl (hd { on := 14, ground := .guard } (by simp) rfl)
                          clear hh hd
                          have HN : Hid (Rm w u p g ob (if done d 15 1 then ⟨s0, 0, b, 0, b⟩ else ⟨s0, 1, k, 0, b⟩) 0 b ok on ∧ (done d 15 7 = true → done d 15 1 = true) ∧ (done d 15 8 = true → done d 15 1 = true) ∧ (done d 15 14 = true → done d 15 1 = true)) := ⟨by simpa [done] using hj.1, by simpa [done] using hj.2.1, by simpa [done] using hj.2.2.1, by simpa [done] using hj.2.2.2⟩
                          clear hj hi
                          refine wpOp_step rfl (fun K hK => ?_)
                          go_simp
                          exact hK _ _ ⟨by simp [Act.put], HN.out⟩
                        | 16, hoo, hi, hd =>
                          simp only [List.getElem?_cons_succ, List.getElem?_cons_zero, Option.some.injEq] at hoo
                          subst hoo
                          have g138 : y.tmps[138]? = some (.pointer (some ⟨p, 0, none⟩)) := hh.did 15 _ 138 rfl rfl (hd { on := 15, ground := .data } (by simp) rfl)
                          have g137 : y.tmps[137]? = some (.bool true) := hh.did 14 _ 137 rfl rfl (hd { on := 14, ground := .guard } (by simp) rfl)
                          have h17 : d 1 = true := hj.2.2.2 (hd { on := 14, ground := .guard } (by simp) rfl)
                          clear hh hd
                          have CA := CF.out u (by have := hj.1; rw [h17] at this; exact this)
                          have HN : Hid (Rm w u p g ob (if done d 16 1 then ⟨s0, 0, b, 0, b⟩ else ⟨s0, 1, k, 0, b⟩) 0 b ok on ∧ (done d 16 7 = true → done d 16 1 = true) ∧ (done d 16 8 = true → done d 16 1 = true) ∧ (done d 16 14 = true → done d 16 1 = true)) := by
                            have := hj
                            simp [Hid, done] at this ⊢
                            first | exact this | simp [this, h17]
                          clear hj hi h17
                          refine wpOp_step rfl (fun K hK => ?_)
                          go_simp
                          refine CA.mono ?_
                          rintro e u2 ⟨rfl, rfl⟩
                          exact hK _ _ ⟨by simp [Act.put], HN.out⟩
                        | 17, hoo, hi, hd =>
                          simp only [List.getElem?_cons_succ, List.getElem?_cons_zero, Option.some.injEq] at hoo
                          subst hoo
                          have g10 : y.tmps[10]? = some (.int .i64 1) := hh.old 10 (by kernel_rfl) rfl
                          have g137 : y.tmps[137]? = some (.bool true) := hh.did 14 _ 137 rfl rfl (hd { on := 14, ground := .guard } (by simp) rfl)
                          clear hh hd
                          have HN : Hid (Rm w u p g ob (if done d 17 1 then ⟨s0, 0, b, 0, b⟩ else ⟨s0, 1, k, 0, b⟩) 0 b ok on ∧ (done d 17 7 = true → done d 17 1 = true) ∧ (done d 17 8 = true → done d 17 1 = true) ∧ (done d 17 14 = true → done d 17 1 = true)) := ⟨by simpa [done] using hj.1, by simpa [done] using hj.2.1, by simpa [done] using hj.2.2.1, by simpa [done] using hj.2.2.2⟩
                          clear hj hi
                          refine wpOp_step rfl (fun K hK => ?_)
                          go_simp
                          exact hK _ _ ⟨by simp [Act.put], HN.out⟩
                        | 18, hoo, hi, hd =>
                          simp only [List.getElem?_cons_succ, List.getElem?_cons_zero, Option.some.injEq] at hoo
                          subst hoo
                          have g7 : y.tmps[7]? = some (.pointer (some ⟨g, 0, none⟩)) := hh.old 7 (by kernel_rfl) rfl
                          have g140 : y.tmps[140]? = some (.int .i64 1) := hh.did 17 _ 140 rfl rfl (hd { on := 17, ground := .data } (by simp) rfl)
                          have g137 : y.tmps[137]? = some (.bool true) := hh.did 14 _ 137 rfl rfl (hd { on := 14, ground := .guard } (by simp) rfl)
                          clear hh hd
                          have HN : Hid (Rm w u p g ob (if done d 18 1 then ⟨s0, 0, b, 0, b⟩ else ⟨s0, 1, k, 0, b⟩) 0 b ok on ∧ (done d 18 7 = true → done d 18 1 = true) ∧ (done d 18 8 = true → done d 18 1 = true) ∧ (done d 18 14 = true → done d 18 1 = true)) := ⟨by simpa [done] using hj.1, by simpa [done] using hj.2.1, by simpa [done] using hj.2.2.1, by simpa [done] using hj.2.2.2⟩
                          clear hj hi
                          refine wpOp_step rfl (fun K hK => ?_)
                          go_simp
                          exact hK _ _ ⟨by simp [Act.put], HN.out⟩
                        | 19, hoo, hi, hd =>
                          simp only [List.getElem?_cons_succ, List.getElem?_cons_zero, Option.some.injEq] at hoo
                          subst hoo
                          have g141 : y.tmps[141]? = some (.pointer (some ⟨g, 1, none⟩)) := hh.did 18 _ 141 rfl rfl (hd { on := 18, ground := .data } (by simp) rfl)
                          have g137 : y.tmps[137]? = some (.bool true) := hh.did 14 _ 137 rfl rfl (hd { on := 14, ground := .guard } (by simp) rfl)
                          have cc := hj.1.ends.blk.at 1 rfl
                          clear hh hd
                          have HN : Hid (Rm w u p g ob (if done d 19 1 then ⟨s0, 0, b, 0, b⟩ else ⟨s0, 1, k, 0, b⟩) 0 b ok on ∧ (done d 19 7 = true → done d 19 1 = true) ∧ (done d 19 8 = true → done d 19 1 = true) ∧ (done d 19 14 = true → done d 19 1 = true)) := ⟨by simpa [done] using hj.1, by simpa [done] using hj.2.1, by simpa [done] using hj.2.2.1, by simpa [done] using hj.2.2.2⟩
                          clear hj hi
                          refine wpOp_step rfl (fun K hK => ?_)
                          go_simp
                          exact hK _ _ ⟨by simp [Act.put], HN.out⟩
                        | 20, hoo, hi, hd =>
                          simp only [List.getElem?_cons_succ, List.getElem?_cons_zero, Option.some.injEq] at hoo
                          subst hoo
                          have g139 : y.tmps[139]? = some (.int .i64 (b : Int)) := hh.did 16 _ 139 rfl rfl (hd { on := 16, ground := .data } (by simp) rfl)
                          have g142 : y.tmps[142]? = some (.int .i64 ((b : Nat) : Int)) := hh.did 19 _ 142 rfl rfl (hd { on := 19, ground := .data } (by simp) rfl)
                          have g137 : y.tmps[137]? = some (.bool true) := hh.did 14 _ 137 rfl rfl (hd { on := 14, ground := .guard } (by simp) rfl)
                          clear hh hd
                          have HN : Hid (Rm w u p g ob (if done d 20 1 then ⟨s0, 0, b, 0, b⟩ else ⟨s0, 1, k, 0, b⟩) 0 b ok on ∧ (done d 20 7 = true → done d 20 1 = true) ∧ (done d 20 8 = true → done d 20 1 = true) ∧ (done d 20 14 = true → done d 20 1 = true)) := ⟨by simpa [done] using hj.1, by simpa [done] using hj.2.1, by simpa [done] using hj.2.2.1, by simpa [done] using hj.2.2.2⟩
                          clear hj hi
                          refine wpOp_step rfl (fun K hK => ?_)
                          go_simp
                          exact hK _ _ ⟨by simp [Act.put], HN.out⟩
                        | 21, hoo, hi, hd =>
                          simp only [List.getElem?_cons_succ, List.getElem?_cons_zero, Option.some.injEq] at hoo
                          subst hoo
                          have g137 : y.tmps[137]? = some (.bool true) := hh.did 14 _ 137 rfl rfl (hd { on := 14, ground := .data } (by simp) rfl)
                          have g143 : y.tmps[143]? = some (.bool false) := hh.did 20 _ 143 rfl rfl (hd { on := 20, ground := .data } (by simp) rfl)
                          have g131 : y.tmps[131]? = some (.bool false) := hh.did 8 _ 131 rfl rfl (hd { on := 8, ground := .guard } (by simp) rfl)
                          clear hh hd
                          have HN : Hid (Rm w u p g ob (if done d 21 1 then ⟨s0, 0, b, 0, b⟩ else ⟨s0, 1, k, 0, b⟩) 0 b ok on ∧ (done d 21 7 = true → done d 21 1 = true) ∧ (done d 21 8 = true → done d 21 1 = true) ∧ (done d 21 14 = true → done d 21 1 = true)) := ⟨by simpa [done] using hj.1, by simpa [done] using hj.2.1, by simpa [done] using hj.2.2.1, by simpa [done] using hj.2.2.2⟩
                          clear hj hi
                          refine wpOp_step rfl (fun K hK => ?_)
                          go_simp
                          exact hK _ _ ⟨by simp [Act.put], HN.out⟩
                        | 22, hoo, hi, hd =>
                          simp only [List.getElem?_cons_succ, List.getElem?_cons_zero, Option.some.injEq] at hoo
                          subst hoo
                          have g131 : y.tmps[131]? = some (.bool false) := hh.did 8 _ 131 rfl rfl (hd { on := 8, ground := .data } (by simp) rfl)
                          have g144 : y.tmps[144]? = some (.bool false) := hh.did 21 _ 144 rfl rfl (hd { on := 21, ground := .data } (by simp) rfl)
                          clear hh hd
                          have HN : Hid (Rm w u p g ob (if done d 22 1 then ⟨s0, 0, b, 0, b⟩ else ⟨s0, 1, k, 0, b⟩) 0 b ok on ∧ (done d 22 7 = true → done d 22 1 = true) ∧ (done d 22 8 = true → done d 22 1 = true) ∧ (done d 22 14 = true → done d 22 1 = true)) := ⟨by simpa [done] using hj.1, by simpa [done] using hj.2.1, by simpa [done] using hj.2.2.1, by simpa [done] using hj.2.2.2⟩
                          clear hj hi
                          refine wpOp_step rfl (fun K hK => ?_)
                          go_simp
                          exact hK _ _ ⟨by simp [Act.put], HN.out⟩
                        | k + 23, hoo, _, _ => simp at hoo
                      · intro u d hall hj
                        have H6 : Hid (Rm w u p g ob ⟨s0, 0, b, 0, b⟩ 0 b ok on) := by
                          have h := hj.1
                          rw [hall 1 (by decide)] at h
                          exact h
                        clear hall hj
                        simp only [List.getD_cons_succ, List.getD_cons_zero]
                        go_wp2
                        go_meet
                        case rel => exact ⟨_, false, rfl, rfl, _, _, _, rfl, H6.out, .inl ⟨rfl, rfl, rfl⟩⟩
                  · as_aux_lemma =>
                      have ho' : ((a : Int) == 0) = false := by simpa using ho
                      have TC : Hid (∀ u, Rm w u p g ob ⟨s0, 1, k, a, b⟩ a b ok on → Calls Try.prog 12 #[.pointer (some ⟨p, 0, none⟩)] u fun e w' => e = .returned (.bool false) ∧ Rm w w' p g ob ⟨s0, 1, k, a, b⟩ a b ok on) := fun u H => by
                        refine (turn_any _ H.mine.tab).mono ?_
                        rintro e w6 ⟨rfl, t6, m6⟩
                        have e1 : turns ⟨s0, 1, k, a, b⟩ = false := by simpa [turns, CS.o] using ho
                        exact ⟨by rw [e1], (H.step t6 m6).eq (by simp [turnS, e1])⟩
                      have CC : Hid (∀ u, Rm w u p g ob ⟨s0, 1, k, a, b⟩ a b ok on → Calls Try.prog 20 #[.pointer (some ⟨p, 0, none⟩)] u fun e w' => e = .returned (.int .i64 1) ∧ w' = u) := fun u H => current_any _ H.mine.tab
                      go_upto_region 25 with fail
                      refine wp_region_phase [(.pointer (some ⟨p, 0, none⟩)), (.bool false), (.int .i64 1), (.int .i64 0), (.pointer (some ⟨g, 0, none⟩)), (.int .i64 ((a : Nat) : Int)), (.bool false), (.bool false), (.bool false), (.pointer (some ⟨p, 0, none⟩)), (.int .i64 1), (.int .i64 1), (.int .i64 0), (.bool false), (.bool false), undef, undef, undef, undef, undef, undef, (.bool false), (.bool false)] [(123, 0), (124, 1), (125, 2), (126, 3), (127, 4), (128, 5), (129, 6), (130, 7), (131, 8), (132, 9), (133, 10), (134, 11), (135, 12), (136, 13), (137, 14), (138, 15), (139, 16), (140, 17), (141, 18), (142, 19), (143, 20), (144, 21), (145, 22)] [_, _, _, _, _, _, _, _, _, _, _, _, _, _, _, _, _, _, _, _, _, _, _, _, _, _, _, _, _, _, _, _, _, _, _, _, _, _, _, _, _, _, _, _, _, _, _, _, _, _, _, _, _, _, _, _, _, _, _, _, _, _, _, _, _, _, _, _, _, _, _, _, _, _, _, _, _, _, _, _, _, _, _, _, _, _, _, _, _, _, _, _, _, _, _, _, _, _, _, _, _, _, _, _, _, _, _, _, _, _, _, _, _, _, _, _, _, _, _, _, _, _, _, _, _, _, _, _, _, _, _, _, _, _, _, _, _, _, _, _, _, _, _, _, _, _, _, _, _, _, _, _, _, _, _, _, _, _, _, _, _, _, _, _, _, _, _, _, _, _, _, _, _, _, _, _, _, _, _, _, _, _, _, _, _, _, _, _, _, _, _, _, _, _, _, _, _, _, _, _, _, _, _, _, _, _, _, _, _, _, _, _, _, _, _, _, _, _, _, _, _, _, _, _, _, _, _, _] (fun d u => (Rm w u p g ob (if d 1 then ⟨s0, 1, k, a, b⟩ else ⟨s0, 1, k, a, b⟩) a b ok on ∧ (d 7 = true → d 1 = true) ∧ (d 8 = true → d 1 = true) ∧ (d 14 = true → d 1 = true))) (by kernel_rfl) (by kernel_rfl) (by kernel_rfl) (by kernel_rfl) rfl ?_ ?_ ?_
                      · exact ⟨HW.out.still (Kept.refl _).drew, by simp, by simp, by simp⟩
                      · intro i o hoo y d u hh hj hi hd
                        match i, hoo, hi, hd with
                        | 0, hoo, hi, hd =>
                          simp only [List.getElem?_cons_zero, Option.some.injEq] at hoo
                          subst hoo
                          have g5 : y.tmps[5]? = some (.pointer (some ⟨p, 0, none⟩)) := hh.old 5 (by kernel_rfl) rfl
                          clear hh hd
                          have HN : Hid (Rm w u p g ob (if done d 0 1 then ⟨s0, 1, k, a, b⟩ else ⟨s0, 1, k, a, b⟩) a b ok on ∧ (done d 0 7 = true → done d 0 1 = true) ∧ (done d 0 8 = true → done d 0 1 = true) ∧ (done d 0 14 = true → done d 0 1 = true)) := ⟨by simpa [done] using hj.1, by simpa [done] using hj.2.1, by simpa [done] using hj.2.2.1, by simpa [done] using hj.2.2.2⟩
                          clear hj hi
                          refine wpOp_step rfl (fun K hK => ?_)
                          go_simp
                          exact hK _ _ ⟨by simp [Act.put], HN.out⟩
                        | 1, hoo, hi, hd =>
                          simp only [List.getElem?_cons_succ, List.getElem?_cons_zero, Option.some.injEq] at hoo
                          subst hoo
                          have g123 : y.tmps[123]? = some (.pointer (some ⟨p, 0, none⟩)) := hh.did 0 _ 123 rfl rfl (hd { on := 0, ground := .data } (by simp) rfl)
                          clear hh hd
                          have CA := TC.out u (by have := hj.1; rw [hi] at this; exact this)
                          have HN : Hid (∀ u, Rm w u p g ob ⟨s0, 1, k, a, b⟩ a b ok on → (Rm w u p g ob (if done d 1 1 then ⟨s0, 1, k, a, b⟩ else ⟨s0, 1, k, a, b⟩) a b ok on ∧ (done d 1 7 = true → done d 1 1 = true) ∧ (done d 1 8 = true → done d 1 1 = true) ∧ (done d 1 14 = true → done d 1 1 = true))) := fun u h => ⟨by simpa [done] using h, by simp [done], by simp [done], by simp [done]⟩
                          clear hj hi
                          refine wpOp_step rfl (fun K hK => ?_)
                          go_simp
                          refine CA.mono ?_
                          rintro e u2 ⟨rfl, h2⟩
                          exact hK _ _ ⟨by simp [Act.put], HN.out u2 h2⟩
                        | 2, hoo, hi, hd =>
                          simp only [List.getElem?_cons_succ, List.getElem?_cons_zero, Option.some.injEq] at hoo
                          subst hoo
                          have g10 : y.tmps[10]? = some (.int .i64 1) := hh.old 10 (by kernel_rfl) rfl
                          clear hh hd
                          have HN : Hid (Rm w u p g ob (if done d 2 1 then ⟨s0, 1, k, a, b⟩ else ⟨s0, 1, k, a, b⟩) a b ok on ∧ (done d 2 7 = true → done d 2 1 = true) ∧ (done d 2 8 = true → done d 2 1 = true) ∧ (done d 2 14 = true → done d 2 1 = true)) := ⟨by simpa [done] using hj.1, by simpa [done] using hj.2.1, by simpa [done] using hj.2.2.1, by simpa [done] using hj.2.2.2⟩
                          clear hj hi
                          refine wpOp_step rfl (fun K hK => ?_)
                          go_simp
                          exact hK _ _ ⟨by simp [Act.put], HN.out⟩
                        | 3, hoo, hi, hd =>
                          simp only [List.getElem?_cons_succ, List.getElem?_cons_zero, Option.some.injEq] at hoo
                          subst hoo
                          have g125 : y.tmps[125]? = some (.int .i64 1) := hh.did 2 _ 125 rfl rfl (hd { on := 2, ground := .data } (by simp) rfl)
                          clear hh hd
                          have HN : Hid (Rm w u p g ob (if done d 3 1 then ⟨s0, 1, k, a, b⟩ else ⟨s0, 1, k, a, b⟩) a b ok on ∧ (done d 3 7 = true → done d 3 1 = true) ∧ (done d 3 8 = true → done d 3 1 = true) ∧ (done d 3 14 = true → done d 3 1 = true)) := ⟨by simpa [done] using hj.1, by simpa [done] using hj.2.1, by simpa [done] using hj.2.2.1, by simpa [done] using hj.2.2.2⟩
                          clear hj hi
                          refine wpOp_step rfl (fun K hK => ?_)
                          go_simp
                          exact hK _ _ ⟨by first | (simp [Act.put]; done) | (simp [Act.put]; rfl), HN.out⟩
                        | 4, hoo, hi, hd =>
                          simp only [List.getElem?_cons_succ, List.getElem?_cons_zero, Option.some.injEq] at hoo
                          subst hoo
                          have g7 : y.tmps[7]? = some (.pointer (some ⟨g, 0, none⟩)) := hh.old 7 (by kernel_rfl) rfl
                          have g126 : y.tmps[126]? = some (.int .i64 0) := hh.did 3 _ 126 rfl rfl (hd { on := 3, ground := .data } (by simp) rfl)
                          clear hh hd
                          have HN : Hid (Rm w u p g ob (if done d 4 1 then ⟨s0, 1, k, a, b⟩ else ⟨s0, 1, k, a, b⟩) a b ok on ∧ (done d 4 7 = true → done d 4 1 = true) ∧ (done d 4 8 = true → done d 4 1 = true) ∧ (done d 4 14 = true → done d 4 1 = true)) := ⟨by simpa [done] using hj.1, by simpa [done] using hj.2.1, by simpa [done] using hj.2.2.1, by simpa [done] using hj.2.2.2⟩
                          clear hj hi
                          refine wpOp_step rfl (fun K hK => ?_)
                          go_simp
                          exact hK _ _ ⟨by simp [Act.put], HN.out⟩
                        | 5, hoo, hi, hd =>
                          simp only [List.getElem?_cons_succ, List.getElem?_cons_zero, Option.some.injEq] at hoo
                          subst hoo
                          have g127 : y.tmps[127]? = some (.pointer (some ⟨g, 0, none⟩)) := hh.did 4 _ 127 rfl rfl (hd { on := 4, ground := .data } (by simp) rfl)
                          have cc := hj.1.ends.blk.at 0 rfl
                          clear hh hd
                          have HN : Hid (Rm w u p g ob (if done d 5 1 then ⟨s0, 1, k, a, b⟩ else ⟨s0, 1, k, a, b⟩) a b ok on ∧ (done d 5 7 = true → done d 5 1 = true) ∧ (done d 5 8 = true → done d 5 1 = true) ∧ (done d 5 14 = true → done d 5 1 = true)) := ⟨by simpa [done] using hj.1, by simpa [done] using hj.2.1, by simpa [done] using hj.2.2.1, by simpa [done] using hj.2.2.2⟩
                          clear hj hi
                          refine wpOp_step rfl (fun K hK => ?_)
                          go_simp
                          exact hK _ _ ⟨by simp [Act.put], HN.out⟩
                        | 6, hoo, hi, hd =>
                          simp only [List.getElem?_cons_succ, List.getElem?_cons_zero, Option.some.injEq] at hoo
                          subst hoo
                          have g128 : y.tmps[128]? = some (.int .i64 ((a : Nat) : Int)) := hh.did 5 _ 128 rfl rfl (hd { on := 5, ground := .data } (by simp) rfl)
                          clear hh hd
                          have HN : Hid (Rm w u p g ob (if done d 6 1 then ⟨s0, 1, k, a, b⟩ else ⟨s0, 1, k, a, b⟩) a b ok on ∧ (done d 6 7 = true → done d 6 1 = true) ∧ (done d 6 8 = true → done d 6 1 = true) ∧ (done d 6 14 = true → done d 6 1 = true)) := ⟨by simpa [done] using hj.1, by simpa [done] using hj.2.1, by simpa [done] using hj.2.2.1, by simpa [done] using hj.2.2.2⟩
                          clear hj hi
                          refine wpOp_step rfl (fun K hK => ?_)
                          go_simp
                          exact hK _ _ ⟨by simp [Act.put], HN.out⟩
                        | 7, hoo, hi, hd =>
                          simp only [List.getElem?_cons_succ, List.getElem?_cons_zero, Option.some.injEq] at hoo
                          subst hoo
                          have g124 : y.tmps[124]? = some (.bool false) := hh.did 1 _ 124 rfl rfl (hd { on := 1, ground := .data } (by simp) rfl)
                          have g129 : y.tmps[129]? = some (.bool false) := hh.did 6 _ 129 rfl rfl (hd { on := 6, ground := .data } (by simp) rfl)
                          have h17 : d 1 = true := hd { on := 1, ground := .data } (by simp) rfl
                          clear hh hd
                          have HN : Hid (Rm w u p g ob (if done d 7 1 then ⟨s0, 1, k, a, b⟩ else ⟨s0, 1, k, a, b⟩) a b ok on ∧ (done d 7 7 = true → done d 7 1 = true) ∧ (done d 7 8 = true → done d 7 1 = true) ∧ (done d 7 14 = true → done d 7 1 = true)) := ⟨by simpa [done] using hj.1, by simp [done, h17], by simp [done, h17], by simp [done, h17]⟩
                          clear h17
                          clear hj hi
                          refine wpOp_step rfl (fun K hK => ?_)
                          go_simp
                          exact hK _ _ ⟨by simp [Act.put], HN.out⟩
                        | 8, hoo, hi, hd =>
                          simp only [List.getElem?_cons_succ, List.getElem?_cons_zero, Option.some.injEq] at hoo
                          subst hoo
                          have g130 : y.tmps[130]? = some (.bool false) := hh.did 7 _ 130 rfl rfl (hd { on := 7, ground := .data } (by simp) rfl)
                          have h17 : d 1 = true := hj.2.1 (hd { on := 7, ground := .data } (by simp) rfl)
                          clear hh hd
                          have HN : Hid (Rm w u p g ob (if done d 8 1 then ⟨s0, 1, k, a, b⟩ else ⟨s0, 1, k, a, b⟩) a b ok on ∧ (done d 8 7 = true → done d 8 1 = true) ∧ (done d 8 8 = true → done d 8 1 = true) ∧ (done d 8 14 = true → done d 8 1 = true)) := ⟨by simpa [done] using hj.1, by simp [done, h17], by simp [done, h17], by simp [done, h17]⟩
                          clear h17
                          clear hj hi
                          refine wpOp_step rfl (fun K hK => ?_)
                          go_simp
                          exact hK _ _ ⟨by simp [Act.put], HN.out⟩
                        | 9, hoo, hi, hd =>
                          simp only [List.getElem?_cons_succ, List.getElem?_cons_zero, Option.some.injEq] at hoo
                          subst hoo
                          have g5 : y.tmps[5]? = some (.pointer (some ⟨p, 0, none⟩)) := hh.old 5 (by kernel_rfl) rfl
                          have g131 : y.tmps[131]? = some (.bool false) := hh.did 8 _ 131 rfl rfl (hd { on := 8, ground := .guard } (by simp) rfl)
                          clear hh hd
                          have HN : Hid (Rm w u p g ob (if done d 9 1 then ⟨s0, 1, k, a, b⟩ else ⟨s0, 1, k, a, b⟩) a b ok on ∧ (done d 9 7 = true → done d 9 1 = true) ∧ (done d 9 8 = true → done d 9 1 = true) ∧ (done d 9 14 = true → done d 9 1 = true)) := ⟨by simpa [done] using hj.1, by simpa [done] using hj.2.1, by simpa [done] using hj.2.2.1, by simpa [done] using hj.2.2.2⟩
                          clear hj hi
                          refine wpOp_step rfl (fun K hK => ?_)
                          go_simp
                          exact hK _ _ ⟨by simp [Act.put], HN.out⟩
                        | 10, hoo, hi, hd =>
                          simp only [List.getElem?_cons_succ, List.getElem?_cons_zero, Option.some.injEq] at hoo
                          subst hoo
                          have g132 : y.tmps[132]? = some (.pointer (some ⟨p, 0, none⟩)) := hh.did 9 _ 132 rfl rfl (hd { on := 9, ground := .data } (by simp) rfl)
                          have g131 : y.tmps[131]? = some (.bool false) := hh.did 8 _ 131 rfl rfl (hd { on := 8, ground := .guard } (by simp) rfl)
                          have h17 : d 1 = true := hj.2.2.1 (hd { on := 8, ground := .guard } (by simp) rfl)
                          clear hh hd
                          have CA := CC.out u (by have := hj.1; rw [h17] at this; exact this)
                          have HN : Hid (Rm w u p g ob (if done d 10 1 then ⟨s0, 1, k, a, b⟩ else ⟨s0, 1, k, a, b⟩) a b ok on ∧ (done d 10 7 = true → done d 10 1 = true) ∧ (done d 10 8 = true → done d 10 1 = true) ∧ (done d 10 14 = true → done d 10 1 = true)) := by
                            have := hj
                            simp [Hid, done] at this ⊢
                            first | exact this | simp [this, h17]
                          clear hj hi h17
                          refine wpOp_step rfl (fun K hK => ?_)
                          go_simp
                          refine CA.mono ?_
                          rintro e u2 ⟨rfl, rfl⟩
                          exact hK _ _ ⟨by simp [Act.put], HN.out⟩
                        | 11, hoo, hi, hd =>
                          simp only [List.getElem?_cons_succ, List.getElem?_cons_zero, Option.some.injEq] at hoo
                          subst hoo
                          have g10 : y.tmps[10]? = some (.int .i64 1) := hh.old 10 (by kernel_rfl) rfl
                          have g131 : y.tmps[131]? = some (.bool false) := hh.did 8 _ 131 rfl rfl (hd { on := 8, ground := .guard } (by simp) rfl)
                          clear hh hd
                          have HN : Hid (Rm w u p g ob (if done d 11 1 then ⟨s0, 1, k, a, b⟩ else ⟨s0, 1, k, a, b⟩) a b ok on ∧ (done d 11 7 = true → done d 11 1 = true) ∧ (done d 11 8 = true → done d 11 1 = true) ∧ (done d 11 14 = true → done d 11 1 = true)) := ⟨by simpa [done] using hj.1, by simpa [done] using hj.2.1, by simpa [done] using hj.2.2.1, by simpa [done] using hj.2.2.2⟩
                          clear hj hi
                          refine wpOp_step rfl (fun K hK => ?_)
                          go_simp
                          exact hK _ _ ⟨by simp [Act.put], HN.out⟩
                        | 12, hoo, hi, hd =>
                          simp only [List.getElem?_cons_succ, List.getElem?_cons_zero, Option.some.injEq] at hoo
                          subst hoo
                          have g134 : y.tmps[134]? = some (.int .i64 1) := hh.did 11 _ 134 rfl rfl (hd { on := 11, ground := .data } (by simp) rfl)
                          have g131 : y.tmps[131]? = some (.bool false) := hh.did 8 _ 131 rfl rfl (hd { on := 8, ground := .guard } (by simp) rfl)
                          clear hh hd
                          have HN : Hid (Rm w u p g ob (if done d 12 1 then ⟨s0, 1, k, a, b⟩ else ⟨s0, 1, k, a, b⟩) a b ok on ∧ (done d 12 7 = true → done d 12 1 = true) ∧ (done d 12 8 = true → done d 12 1 = true) ∧ (done d 12 14 = true → done d 12 1 = true)) := ⟨by simpa [done] using hj.1, by simpa [done] using hj.2.1, by simpa [done] using hj.2.2.1, by simpa [done] using hj.2.2.2⟩
                          clear hj hi
                          refine wpOp_step rfl (fun K hK => ?_)
                          go_simp
                          exact hK _ _ ⟨by first | (simp [Act.put]; done) | (simp [Act.put]; rfl), HN.out⟩
                        | 13, hoo, hi, hd =>
                          simp only [List.getElem?_cons_succ, List.getElem?_cons_zero, Option.some.injEq] at hoo
                          subst hoo
                          have g133 : y.tmps[133]? = some (.int .i64 1) := hh.did 10 _ 133 rfl rfl (hd { on := 10, ground := .data } (by simp) rfl)
                          have g135 : y.tmps[135]? = some (.int .i64 0) := hh.did 12 _ 135 rfl rfl (hd { on := 12, ground := .data } (by simp) rfl)
                          have g131 : y.tmps[131]? = some (.bool false) := hh.did 8 _ 131 rfl rfl (hd { on := 8, ground := .guard } (by simp) rfl)
                          clear hh hd
                          have HN : Hid (Rm w u p g ob (if done d 13 1 then ⟨s0, 1, k, a, b⟩ else ⟨s0, 1, k, a, b⟩) a b ok on ∧ (done d 13 7 = true → done d 13 1 = true) ∧ (done d 13 8 = true → done d 13 1 = true) ∧ (done d 13 14 = true → done d 13 1 = true)) := ⟨by simpa [done] using hj.1, by simpa [done] using hj.2.1, by simpa [done] using hj.2.2.1, by simpa [done] using hj.2.2.2⟩
                          clear hj hi
                          refine wpOp_step rfl (fun K hK => ?_)
                          go_simp
                          exact hK _ _ ⟨by simp [Act.put], HN.out⟩
                        | 14, hoo, hi, hd =>
                          simp only [List.getElem?_cons_succ, List.getElem?_cons_zero, Option.some.injEq] at hoo
                          subst hoo
                          have g136 : y.tmps[136]? = some (.bool false) := hh.did 13 _ 136 rfl rfl (hd { on := 13, ground := .data } (by simp) rfl)
                          have g131 : y.tmps[131]? = some (.bool false) := hh.did 8 _ 131 rfl rfl (hd { on := 8, ground := .guard } (by simp) rfl)
                          have h17 : d 1 = true := hj.2.2.1 (hd { on := 8, ground := .guard } (by simp) rfl)
                          clear hh hd
                          have HN : Hid (Rm w u p g ob (if done d 14 1 then ⟨s0, 1, k, a, b⟩ else ⟨s0, 1, k, a, b⟩) a b ok on ∧ (done d 14 7 = true → done d 14 1 = true) ∧ (done d 14 8 = true → done d 14 1 = true) ∧ (done d 14 14 = true → done d 14 1 = true)) := ⟨by simpa [done] using hj.1, by simp [done, h17], by simp [done, h17], by simp [done, h17]⟩
                          clear h17
                          clear hj hi
                          refine wpOp_step rfl (fun K hK => ?_)
                          go_simp
                          exact hK _ _ ⟨by simp [Act.put], HN.out⟩
                        | 15, hoo, hi, hd =>
                          simp only [List.getElem?_cons_succ, List.getElem?_cons_zero, Option.some.injEq] at hoo
                          subst hoo
                          have g5 : y.tmps[5]? = some (.pointer (some ⟨p, 0, none⟩)) := hh.old 5 (by kernel_rfl) rfl
                          have g137 : y.tmps[137]? = some (.bool false) := hh.did 14 _ 137 rfl rfl (hd { on := 14, ground := .guard } (by simp) rfl)
                          clear hh hd
                          have HN : Hid (Rm w u p g ob (if done d 15 1 then ⟨s0, 1, k, a, b⟩ else ⟨s0, 1, k, a, b⟩) a b ok on ∧ (done d 15 7 = true → done d 15 1 = true) ∧ (done d 15 8 = true → done d 15 1 = true) ∧ (done d 15 14 = true → done d 15 1 = true)) := ⟨by simpa [done] using hj.1, by simpa [done] using hj.2.1, by simpa [done] using hj.2.2.1, by simpa [done] using hj.2.2.2⟩
                          clear hj hi
                          refine wpOp_step rfl (fun K hK => ?_)
                          go_simp
                          exact hK _ _ ⟨by simp [Act.put], HN.out⟩
                        | 16, hoo, hi, hd =>
                          simp only [List.getElem?_cons_succ, List.getElem?_cons_zero, Option.some.injEq] at hoo
                          subst hoo
                          have g138 : y.tmps[138]? = some undef := hh.did 15 _ 138 rfl rfl (hd { on := 15, ground := .data } (by simp) rfl)
                          have g137 : y.tmps[137]? = some (.bool false) := hh.did 14 _ 137 rfl rfl (hd { on := 14, ground := .guard } (by simp) rfl)
                          have h17 : d 1 = true := hj.2.2.2 (hd { on := 14, ground := .guard } (by simp) rfl)
                          clear hh hd
                          have HN : Hid (Rm w u p g ob (if done d 16 1 then ⟨s0, 1, k, a, b⟩ else ⟨s0, 1, k, a, b⟩) a b ok on ∧ (done d 16 7 = true → done d 16 1 = true) ∧ (done d 16 8 = true → done d 16 1 = true) ∧ (done d 16 14 = true → done d 16 1 = true)) := ⟨by simpa [done] using hj.1, by simpa [done] using hj.2.1, by simpa [done] using hj.2.2.1, by simpa [done] using hj.2.2.2⟩
                          clear hj hi
                          refine wpOp_step rfl (fun K hK => ?_)
                          go_simp
                          exact hK _ _ ⟨by simp [Act.put], HN.out⟩
                        | 17, hoo, hi, hd =>
                          simp only [List.getElem?_cons_succ, List.getElem?_cons_zero, Option.some.injEq] at hoo
                          subst hoo
                          have g10 : y.tmps[10]? = some (.int .i64 1) := hh.old 10 (by kernel_rfl) rfl
                          have g137 : y.tmps[137]? = some (.bool false) := hh.did 14 _ 137 rfl rfl (hd { on := 14, ground := .guard } (by simp) rfl)
                          clear hh hd
                          have HN : Hid (Rm w u p g ob (if done d 17 1 then ⟨s0, 1, k, a, b⟩ else ⟨s0, 1, k, a, b⟩) a b ok on ∧ (done d 17 7 = true → done d 17 1 = true) ∧ (done d 17 8 = true → done d 17 1 = true) ∧ (done d 17 14 = true → done d 17 1 = true)) := ⟨by simpa [done] using hj.1, by simpa [done] using hj.2.1, by simpa [done] using hj.2.2.1, by simpa [done] using hj.2.2.2⟩
                          clear hj hi
                          refine wpOp_step rfl (fun K hK => ?_)
                          go_simp
                          exact hK _ _ ⟨by simp [Act.put], HN.out⟩
                        | 18, hoo, hi, hd =>
                          simp only [List.getElem?_cons_succ, List.getElem?_cons_zero, Option.some.injEq] at hoo
                          subst hoo
                          have g7 : y.tmps[7]? = some (.pointer (some ⟨g, 0, none⟩)) := hh.old 7 (by kernel_rfl) rfl
                          have g140 : y.tmps[140]? = some undef := hh.did 17 _ 140 rfl rfl (hd { on := 17, ground := .data } (by simp) rfl)
                          have g137 : y.tmps[137]? = some (.bool false) := hh.did 14 _ 137 rfl rfl (hd { on := 14, ground := .guard } (by simp) rfl)
                          clear hh hd
                          have HN : Hid (Rm w u p g ob (if done d 18 1 then ⟨s0, 1, k, a, b⟩ else ⟨s0, 1, k, a, b⟩) a b ok on ∧ (done d 18 7 = true → done d 18 1 = true) ∧ (done d 18 8 = true → done d 18 1 = true) ∧ (done d 18 14 = true → done d 18 1 = true)) := ⟨by simpa [done] using hj.1, by simpa [done] using hj.2.1, by simpa [done] using hj.2.2.1, by simpa [done] using hj.2.2.2⟩
                          clear hj hi
                          refine wpOp_step rfl (fun K hK => ?_)
                          go_simp
                          exact hK _ _ ⟨by simp [Act.put], HN.out⟩
                        | 19, hoo, hi, hd =>
                          simp only [List.getElem?_cons_succ, List.getElem?_cons_zero, Option.some.injEq] at hoo
                          subst hoo
                          have g141 : y.tmps[141]? = some undef := hh.did 18 _ 141 rfl rfl (hd { on := 18, ground := .data } (by simp) rfl)
                          have g137 : y.tmps[137]? = some (.bool false) := hh.did 14 _ 137 rfl rfl (hd { on := 14, ground := .guard } (by simp) rfl)
                          clear hh hd
                          have HN : Hid (Rm w u p g ob (if done d 19 1 then ⟨s0, 1, k, a, b⟩ else ⟨s0, 1, k, a, b⟩) a b ok on ∧ (done d 19 7 = true → done d 19 1 = true) ∧ (done d 19 8 = true → done d 19 1 = true) ∧ (done d 19 14 = true → done d 19 1 = true)) := ⟨by simpa [done] using hj.1, by simpa [done] using hj.2.1, by simpa [done] using hj.2.2.1, by simpa [done] using hj.2.2.2⟩
                          clear hj hi
                          refine wpOp_step rfl (fun K hK => ?_)
                          go_simp
                          exact hK _ _ ⟨by simp [Act.put], HN.out⟩
                        | 20, hoo, hi, hd =>
                          simp only [List.getElem?_cons_succ, List.getElem?_cons_zero, Option.some.injEq] at hoo
                          subst hoo
                          have g139 : y.tmps[139]? = some undef := hh.did 16 _ 139 rfl rfl (hd { on := 16, ground := .data } (by simp) rfl)
                          have g142 : y.tmps[142]? = some undef := hh.did 19 _ 142 rfl rfl (hd { on := 19, ground := .data } (by simp) rfl)
                          have g137 : y.tmps[137]? = some (.bool false) := hh.did 14 _ 137 rfl rfl (hd { on := 14, ground := .guard } (by simp) rfl)
                          clear hh hd
                          have HN : Hid (Rm w u p g ob (if done d 20 1 then ⟨s0, 1, k, a, b⟩ else ⟨s0, 1, k, a, b⟩) a b ok on ∧ (done d 20 7 = true → done d 20 1 = true) ∧ (done d 20 8 = true → done d 20 1 = true) ∧ (done d 20 14 = true → done d 20 1 = true)) := ⟨by simpa [done] using hj.1, by simpa [done] using hj.2.1, by simpa [done] using hj.2.2.1, by simpa [done] using hj.2.2.2⟩
                          clear hj hi
                          refine wpOp_step rfl (fun K hK => ?_)
                          go_simp
                          exact hK _ _ ⟨by simp [Act.put], HN.out⟩
                        | 21, hoo, hi, hd =>
                          simp only [List.getElem?_cons_succ, List.getElem?_cons_zero, Option.some.injEq] at hoo
                          subst hoo
                          have g137 : y.tmps[137]? = some (.bool false) := hh.did 14 _ 137 rfl rfl (hd { on := 14, ground := .data } (by simp) rfl)
                          have g143 : y.tmps[143]? = some undef := hh.did 20 _ 143 rfl rfl (hd { on := 20, ground := .data } (by simp) rfl)
                          have g131 : y.tmps[131]? = some (.bool false) := hh.did 8 _ 131 rfl rfl (hd { on := 8, ground := .guard } (by simp) rfl)
                          clear hh hd
                          have HN : Hid (Rm w u p g ob (if done d 21 1 then ⟨s0, 1, k, a, b⟩ else ⟨s0, 1, k, a, b⟩) a b ok on ∧ (done d 21 7 = true → done d 21 1 = true) ∧ (done d 21 8 = true → done d 21 1 = true) ∧ (done d 21 14 = true → done d 21 1 = true)) := ⟨by simpa [done] using hj.1, by simpa [done] using hj.2.1, by simpa [done] using hj.2.2.1, by simpa [done] using hj.2.2.2⟩
                          clear hj hi
                          refine wpOp_step rfl (fun K hK => ?_)
                          go_simp
                          exact hK _ _ ⟨by simp [Act.put], HN.out⟩
                        | 22, hoo, hi, hd =>
                          simp only [List.getElem?_cons_succ, List.getElem?_cons_zero, Option.some.injEq] at hoo
                          subst hoo
                          have g131 : y.tmps[131]? = some (.bool false) := hh.did 8 _ 131 rfl rfl (hd { on := 8, ground := .data } (by simp) rfl)
                          have g144 : y.tmps[144]? = some (.bool false) := hh.did 21 _ 144 rfl rfl (hd { on := 21, ground := .data } (by simp) rfl)
                          clear hh hd
                          have HN : Hid (Rm w u p g ob (if done d 22 1 then ⟨s0, 1, k, a, b⟩ else ⟨s0, 1, k, a, b⟩) a b ok on ∧ (done d 22 7 = true → done d 22 1 = true) ∧ (done d 22 8 = true → done d 22 1 = true) ∧ (done d 22 14 = true → done d 22 1 = true)) := ⟨by simpa [done] using hj.1, by simpa [done] using hj.2.1, by simpa [done] using hj.2.2.1, by simpa [done] using hj.2.2.2⟩
                          clear hj hi
                          refine wpOp_step rfl (fun K hK => ?_)
                          go_simp
                          exact hK _ _ ⟨by simp [Act.put], HN.out⟩
                        | k + 23, hoo, _, _ => simp at hoo
                      · intro u d hall hj
                        have H6 : Hid (Rm w u p g ob ⟨s0, 1, k, a, b⟩ a b ok on) := by
                          have h := hj.1
                          rw [hall 1 (by decide)] at h
                          exact h
                        clear hall hj
                        simp only [List.getD_cons_succ, List.getD_cons_zero]
                        go_wp2
                        go_meet
                        case rel => exact ⟨_, false, rfl, rfl, _, _, _, rfl, H6.out, .inl ⟨rfl, rfl, rfl⟩⟩
              · have h11' : (ok == 1) = false := by simpa using h11
                clear h11
                by_cases h13 : ok = 3
                · have h13' : (ok == 3) = true := by simpa using h13
                  clear h13
                  as_aux_lemma =>
                    go_wp2_with fail
                    refine (skip_any on _ HW.out.mine.tab).mono ?_
                    rintro e w6 ⟨rfl, t6, m6⟩
                    have H6 : Hid (Rm w w6 p g ob (skipS ⟨s0, 1, k, a, b⟩ on) a b ok on) := HW.out.step t6 m6
                    clear t6 m6 HW b1
                    generalize skips _ _ = vs
                    go_wp2
                    go_meet
                    case rel =>
                      refine ⟨0, false, rfl, rfl, _, a, b, ?_, H6.out, .inl ⟨rfl, ?_, ?_⟩⟩
                      all_goals (unfold skipS; split <;> rfl)
                · have h13' : (ok == 3) = false := by simpa using h13
                  clear h13
                  by_cases h14 : ok = 4
                  · have h14' : (ok == 4) = true := by simpa using h14
                    clear h14
                    as_aux_lemma =>
                      by_cases hk : k = 0
                      · subst hk
                        simp only [z0]
                        go_wp2_with fail
                        refine (done_any _ HW.out.mine.tab).mono ?_
                        rintro e w6 ⟨rfl, t6, m6⟩
                        have H6 : Hid (Rm w w6 p g ob ⟨s0, 1, 0, 0, b⟩ a b ok on) := HW.out.step t6 m6
                        have e6 : dones ⟨s0, 1, 0, a, b⟩ = true := rfl
                        rw [e6]
                        clear t6 m6 HW b1 e6
                        have d2 := H6.out.ends.blk.at 0 rfl
                        have d3 := H6.out.ends.blk.at 1 rfl
                        have df := H6.out.ends.blk.fz
                        go_wp2
                        have H7 : Hid (Rm w (w6.setCell ⟨g, 0, none⟩ (.int .i64 0)) p g ob ⟨s0, 1, 0, 0, b⟩ 0 b ok on) := H6.out.put ((Mut.refl _ _).setCell (by simp) _) (H6.out.ends.set 0 _)
                        go_meet
                        case rel => exact ⟨_, false, rfl, rfl, _, _, _, rfl, H7.out, .inl ⟨rfl, rfl, rfl⟩⟩
                      · have hk' : ((k : Int) == 0) = false := by simpa using hk
                        go_wp2_with fail
                        refine (done_any _ HW.out.mine.tab).mono ?_
                        rintro e w6 ⟨rfl, t6, m6⟩
                        have e6 : dones ⟨s0, 1, k, a, b⟩ = false := by simpa [dones] using hk
                        have H6 : Hid (Rm w w6 p g ob ⟨s0, 1, k, a, b⟩ a b ok on) := (HW.out.step t6 m6).eq (by simp [doneS, e6])
                        rw [e6]
                        clear t6 m6 HW b1 e6
                        go_wp2
                        go_meet
                        case rel => exact ⟨_, false, rfl, rfl, _, _, _, rfl, H6.out, .inl ⟨rfl, rfl, rfl⟩⟩
                  · have h14' : (ok == 4) = false := by simpa using h14
                    clear h14
                    go_wp2
                    go_meet
                    case rel => exact ⟨0, false, rfl, rfl, _, a, b, rfl, HW.out, .inl ⟨rfl, rfl, rfl⟩⟩
        case rest =>
          clear HW b1
          obtain ⟨q, y, rfl, rfl, hc⟩ := hcut
          obtain ⟨⟨s2, c2, k2, a2, b2⟩, E0, E1, hs2, h7, hor⟩ := hc.out
          have H7 : Hid _ := h7
          obtain rfl : s2 = s0 := hs2
          clear hc h7 h1 h3 h4 h5 hs
          rcases hor with ⟨rfl, e1, e2⟩ | ⟨rfl, hon, rfl, rfl, hsum, e1⟩
          · have H9 : Hid (Rm w wc p g ob ⟨s2, c2, k2, a2, b2⟩ a2 b2 ok on) := by
              have := H7.out
              rw [e1, e2] at this
              exact this
            clear H7 e1 e2
            obtain ⟨f1, f2, f3, f4, f5⟩ := H9.out.mine.tab.ok
            simp only [CS.u, CS.o] at f1 f2 f3 f4 f5
            rcases f2 with rfl | rfl
            · simp only [if_true] at f3 f4 f5
              as_aux_lemma =>
                go_wp2_with fail
                refine (current_any _ H9.out.mine.tab).mono ?_
                rintro e w10 ⟨rfl, rfl⟩
                simp only [z0]
                have GA : Hid (∀ x : KW w10, Calls Try.prog 21 #[.pointer (some ⟨p, 0, none⟩), .int .i64 0] x.it fun e w' => e = .returned (.int .i64 (a2 : Int)) ∧ w' = x.it) := fun x => used_any 0 _ (H9.out.mine.tab.kept x.ok)
                have GB : Hid (∀ x : KW w10, Calls Try.prog 21 #[.pointer (some ⟨p, 0, none⟩), .int .i64 1] x.it fun e w' => e = .returned (.int .i64 (b2 : Int)) ∧ w' = x.it) := fun x => used_any 1 _ (H9.out.mine.tab.kept x.ok)
                have GL : Hid (∀ x : KW w10, Calls Try.prog 24 #[.pointer (some ⟨p, 0, none⟩)] x.it fun e w' => e = .returned (.int .i64 (k2 : Int)) ∧ w' = x.it) := fun x => left_any _ (H9.out.mine.tab.kept x.ok)
                have GR : Hid (∀ x : KW w10, Calls Try.prog 22 #[.pointer (some ⟨p, 0, none⟩)] x.it fun e w' => e = .returned (.int .i64 ((s2 : Int) - (a2 : Int) - (k2 : Int))) ∧ Kept x.it w') := fun x => room_any _ (H9.out.mine.tab.kept x.ok)
                have y1 : ((a2 : Int) != (a2 : Int)) = false := by simp
                have y2 : ((b2 : Int) != (b2 : Int)) = false := by simp
                have y3 : decide ((k2 : Int) < 0) = false := decide_eq_false (by omega)
                have y4 : decide ((a2 : Int) + (k2 : Int) > (s2 : Int)) = false := decide_eq_false (by omega)
                have y4' : decide ((s2 : Int) < (a2 : Int) + (k2 : Int)) = false := decide_eq_false (by omega)
                have y5 : ((s2 : Int) - (a2 : Int) - (k2 : Int) != (s2 : Int) - (a2 : Int) - (k2 : Int)) = false := by simp
                go_wp2_with fail
                have q2 := KW.cell (a := ⟨g, 0, none⟩) H9.out.ends.lt (H9.out.ends.blk.at 0 rfl)
                have q3 := KW.cell (a := ⟨g, 1, none⟩) H9.out.ends.lt (H9.out.ends.blk.at 1 rfl)
                refine wp_region_kept (by kernel_rfl) (by kernel_rfl) fun _ => ?_
                repeat (go_big_quiet_step (first | (go_at_call_of 21 (#[Value.pointer (some ⟨p, 0, none⟩), Value.int IntKind.i64 0]); exact kept_of_same (GA.out _)) | (go_at_call_of 21 (#[Value.pointer (some ⟨p, 0, none⟩), Value.int IntKind.i64 1]); exact kept_of_same (GB.out _)) | (go_at_call 24; exact kept_of_same (GL.out _)) | (go_at_call 22; exact kept_of (GR.out _))))
                refine wpQuiet_nil ?_
                rintro _ ⟨z, rfl⟩
                clear q2 q3
                have H10 : Hid (Mine w z.it p ⟨s2, 0, k2, a2, b2⟩ ∧ Own z.it g 37 [.int .i64 (a2 : Int), .int .i64 (b2 : Int)] ∧ w.heap.size ≤ g) := ⟨H9.out.mine.still z.ok, H9.out.ends.kept z.ok, H9.out.log⟩
                clear GA GB GL GR y1 y2 y3 y4 y4' y5 H9
                go_wp2
                go_roundg (l - (j + 1))
                all_goals (have := HM.out; try omega)
                exact ⟨j + 1, by go_num, by omega, rfl, _, rfl, H10.out⟩
            · simp only [if_false, Nat.one_ne_zero] at f3 f4 f5
              as_aux_lemma =>
                go_wp2_with fail
                refine (current_any _ H9.out.mine.tab).mono ?_
                rintro e w10 ⟨rfl, rfl⟩
                simp only [z1]
                have GA : Hid (∀ x : KW w10, Calls Try.prog 21 #[.pointer (some ⟨p, 0, none⟩), .int .i64 0] x.it fun e w' => e = .returned (.int .i64 (a2 : Int)) ∧ w' = x.it) := fun x => used_any 0 _ (H9.out.mine.tab.kept x.ok)
                have GB : Hid (∀ x : KW w10, Calls Try.prog 21 #[.pointer (some ⟨p, 0, none⟩), .int .i64 1] x.it fun e w' => e = .returned (.int .i64 (b2 : Int)) ∧ w' = x.it) := fun x => used_any 1 _ (H9.out.mine.tab.kept x.ok)
                have GL : Hid (∀ x : KW w10, Calls Try.prog 24 #[.pointer (some ⟨p, 0, none⟩)] x.it fun e w' => e = .returned (.int .i64 (k2 : Int)) ∧ w' = x.it) := fun x => left_any _ (H9.out.mine.tab.kept x.ok)
                have GR : Hid (∀ x : KW w10, Calls Try.prog 22 #[.pointer (some ⟨p, 0, none⟩)] x.it fun e w' => e = .returned (.int .i64 ((s2 : Int) - (b2 : Int) - (k2 : Int))) ∧ Kept x.it w') := fun x => room_any _ (H9.out.mine.tab.kept x.ok)
                have y1 : ((a2 : Int) != (a2 : Int)) = false := by simp
                have y2 : ((b2 : Int) != (b2 : Int)) = false := by simp
                have y3 : decide ((k2 : Int) < 0) = false := decide_eq_false (by omega)
                have y4 : decide ((b2 : Int) + (k2 : Int) > (s2 : Int)) = false := decide_eq_false (by omega)
                have y4' : decide ((s2 : Int) < (b2 : Int) + (k2 : Int)) = false := decide_eq_false (by omega)
                have y5 : ((s2 : Int) - (b2 : Int) - (k2 : Int) != (s2 : Int) - (b2 : Int) - (k2 : Int)) = false := by simp
                go_wp2_with fail
                have q2 := KW.cell (a := ⟨g, 0, none⟩) H9.out.ends.lt (H9.out.ends.blk.at 0 rfl)
                have q3 := KW.cell (a := ⟨g, 1, none⟩) H9.out.ends.lt (H9.out.ends.blk.at 1 rfl)
                refine wp_region_kept (by kernel_rfl) (by kernel_rfl) fun _ => ?_
                repeat (go_big_quiet_step (first | (go_at_call_of 21 (#[Value.pointer (some ⟨p, 0, none⟩), Value.int IntKind.i64 0]); exact kept_of_same (GA.out _)) | (go_at_call_of 21 (#[Value.pointer (some ⟨p, 0, none⟩), Value.int IntKind.i64 1]); exact kept_of_same (GB.out _)) | (go_at_call 24; exact kept_of_same (GL.out _)) | (go_at_call 22; exact kept_of (GR.out _))))
                refine wpQuiet_nil ?_
                rintro _ ⟨z, rfl⟩
                clear q2 q3
                have H10 : Hid (Mine w z.it p ⟨s2, 1, k2, a2, b2⟩ ∧ Own z.it g 37 [.int .i64 (a2 : Int), .int .i64 (b2 : Int)] ∧ w.heap.size ≤ g) := ⟨H9.out.mine.still z.ok, H9.out.ends.kept z.ok, H9.out.log⟩
                clear GA GB GL GR y1 y2 y3 y4 y4' y5 H9
                go_wp2
                go_roundg (l - (j + 1))
                all_goals (have := HM.out; try omega)
                exact ⟨j + 1, by go_num, by omega, rfl, _, rfl, H10.out⟩
          · obtain ⟨f1, f2, f3, f4, f5⟩ := H7.out.mine.tab.ok
            simp only [CS.u, CS.o, if_false, Nat.one_ne_zero] at f1 f3 f4 f5
            clear f2
            simp only at hsum e1
            obtain rfl : a2 = E0 := e1.symm
            have d0 := H7.out.op.blk.at 1 rfl
            have d2 := H7.out.ends.blk.at 0 rfl
            have d3 := H7.out.ends.blk.at 1 rfl
            have df := H7.out.ends.blk.fz
            have y0 : ((E1 : Int) != (E1 : Int)) = false := by simp
            go_wp2
            go_region
            all_goals try rw [hsum]
            have H9 : Hid (Rm w (wc.setCell ⟨g, 1, none⟩ (.int .i64 (b2 : Int))).drew p g ob ⟨s2, 1, k2, a2, b2⟩ a2 b2 ok on) := H7.out.put ((Mut.refl _ _).setCell (by simp) _).drew (H7.out.ends.set 1 _).drew
            clear d0 d2 d3 df y0 H7 hsum
            go_wp2_with fail
            generalize (wc.setCell ⟨g, 1, none⟩ (.int .i64 (b2 : Int))).drew = w9 at *
            as_aux_lemma =>
              refine (current_any _ H9.out.mine.tab).mono ?_
              rintro e w10 ⟨rfl, rfl⟩
              simp only [z1]
              have GA : Hid (∀ x : KW w10, Calls Try.prog 21 #[.pointer (some ⟨p, 0, none⟩), .int .i64 0] x.it fun e w' => e = .returned (.int .i64 (a2 : Int)) ∧ w' = x.it) := fun x => used_any 0 _ (H9.out.mine.tab.kept x.ok)
              have GB : Hid (∀ x : KW w10, Calls Try.prog 21 #[.pointer (some ⟨p, 0, none⟩), .int .i64 1] x.it fun e w' => e = .returned (.int .i64 (b2 : Int)) ∧ w' = x.it) := fun x => used_any 1 _ (H9.out.mine.tab.kept x.ok)
              have GL : Hid (∀ x : KW w10, Calls Try.prog 24 #[.pointer (some ⟨p, 0, none⟩)] x.it fun e w' => e = .returned (.int .i64 (k2 : Int)) ∧ w' = x.it) := fun x => left_any _ (H9.out.mine.tab.kept x.ok)
              have GR : Hid (∀ x : KW w10, Calls Try.prog 22 #[.pointer (some ⟨p, 0, none⟩)] x.it fun e w' => e = .returned (.int .i64 ((s2 : Int) - (b2 : Int) - (k2 : Int))) ∧ Kept x.it w') := fun x => room_any _ (H9.out.mine.tab.kept x.ok)
              have y1 : ((a2 : Int) != (a2 : Int)) = false := by simp
              have y2 : ((b2 : Int) != (b2 : Int)) = false := by simp
              have y3 : decide ((k2 : Int) < 0) = false := decide_eq_false (by omega)
              have y4 : decide ((b2 : Int) + (k2 : Int) > (s2 : Int)) = false := decide_eq_false (by omega)
              have y4' : decide ((s2 : Int) < (b2 : Int) + (k2 : Int)) = false := decide_eq_false (by omega)
              have y5 : ((s2 : Int) - (b2 : Int) - (k2 : Int) != (s2 : Int) - (b2 : Int) - (k2 : Int)) = false := by simp
              go_wp2_with fail
              have q2 := KW.cell (a := ⟨g, 0, none⟩) H9.out.ends.lt (H9.out.ends.blk.at 0 rfl)
              have q3 := KW.cell (a := ⟨g, 1, none⟩) H9.out.ends.lt (H9.out.ends.blk.at 1 rfl)
              refine wp_region_kept (by kernel_rfl) (by kernel_rfl) fun _ => ?_
              repeat (go_big_quiet_step (first | (go_at_call_of 21 (#[Value.pointer (some ⟨p, 0, none⟩), Value.int IntKind.i64 0]); exact kept_of_same (GA.out _)) | (go_at_call_of 21 (#[Value.pointer (some ⟨p, 0, none⟩), Value.int IntKind.i64 1]); exact kept_of_same (GB.out _)) | (go_at_call 24; exact kept_of_same (GL.out _)) | (go_at_call 22; exact kept_of (GR.out _))))
              refine wpQuiet_nil ?_
              rintro _ ⟨z, rfl⟩
              clear q2 q3
              have H10 : Hid (Mine w z.it p ⟨s2, 1, k2, a2, b2⟩ ∧ Own z.it g 37 [.int .i64 (a2 : Int), .int .i64 (b2 : Int)] ∧ w.heap.size ≤ g) := ⟨H9.out.mine.still z.ok, H9.out.ends.kept z.ok, H9.out.log⟩
              clear GA GB GL GR y1 y2 y3 y4 y4' y5 H9
              go_wp2
              go_roundg (l - (j + 1))
              all_goals (have := HM.out; try omega)
              exact ⟨j + 1, by go_num, by omega, rfl, _, rfl, H10.out⟩
    · obtain rfl : j = l := by omega
      have K4 : Hid (Kept w wr) := by
        obtain ⟨_, _, h, _⟩ := HR.out
        exact h.kept
      clear HR
      go_wp2_with fail
      refine (first_any _).mono ?_
      rintro e w4 ⟨rfl, k4⟩
      have H4 : Hid (Kept w w4) := K4.out.trans k4
      clear k4 K4
      go_wp2
      go_ret
      exact ⟨rfl, H4.out⟩

theorem coilRoom_any (n0 : Int) (x1 : Option Addr) (l1 c1 : Nat) (L1 : Nat → Op11) (w : World) (_lo0 : IntKind.min .i64 ≤ n0) (_hi0 : n0 ≤ IntKind.max .i64) (_h1c : l1 ≤ c1) (hL1 : Ops w x1 l1 L1) (hB1 : ∀ i, i < l1 → IntKind.min .i64 ≤ (L1 i).n ∧ (L1 i).n ≤ IntKind.max .i64) :
    Calls Try.prog 4 #[.int .i64 n0, .slice x1 l1 c1] w fun e w' => e = .returned (.bool true) ∧ Kept w w' := by
  by_cases hs : 0 ≤ n0 ∧ n0 ≤ 2048
  · obtain ⟨s, rfl⟩ : ∃ s : Nat, n0 = s := ⟨n0.toNat, by omega⟩
    by_cases ho : 500 < (l1 : Int)
    · exact room_out s x1 l1 c1 w (by omega) ho
    · exact room_in s x1 l1 c1 L1 w hL1 hB1 (by omega) (by omega)
  · exact room_bad n0 x1 l1 c1 w hs
end Go.Proofs.Ytfddcfmgigaabaa
