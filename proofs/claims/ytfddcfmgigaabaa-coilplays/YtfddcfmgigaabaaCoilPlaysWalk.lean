/-
  CoilPlays: the walk.
-/
import Derived.Test.YtfddcfmgigaabaaRCoil
import Derived.Test.YtfddcfmgigaabaaFirst11
import Derived.Test.YtfddcfmgigaabaaOpen11
import Derived.Test.YtfddcfmgigaabaaPhase
import Derived.Deep.CutBlock
namespace Go.Proofs.Ytfddcfmgigaabaa
open Go.RowKit

theorem Own.far {w : World} {b g : Nat} {t e : TypeId} {L M : List Value} (h : Own w b t L) (k : Own w g e M) (ht : t ≠ e) : b ≠ g := by
  rintro rfl
  unfold Own at h k
  rw [h] at k
  simp only [Option.some.injEq, Obj.cells.injEq] at k
  exact ht k.2.1

/-- The coil and the document's coil. -/
structure Two (w u : World) (p p' : Nat) (S S' : CS) : Prop where
  tab : CTab 47 u p S
  ref : CTab 39 u p' S'
  kept : Kept w u
  lo : w.heap.size ≤ p
  lo' : w.heap.size ≤ p'
section
variable {w u u' : World} {p p' ob : Nat} {S S' S1 : CS} {L : List Value}
theorem Two.ne (h : Two w u p p' S S') : p ≠ p' := h.tab.own.far h.ref.own (by decide)
theorem Two.still (h : Two w u p p' S S') (k : Kept u u') : Two w u' p p' S S' := ⟨h.tab.kept k, h.ref.kept k, h.kept.trans k, h.lo, h.lo'⟩
theorem Two.fst (h : Two w u p p' S S') (t : CTab 47 u' p S1) (m : Mut [p] u u') : Two w u' p p' S1 S' :=
  ⟨t, h.ref.muts m (by simpa using Ne.symm h.ne), h.kept.muts m (by simpa using h.lo), h.lo, h.lo'⟩
theorem Two.snd (h : Two w u p p' S S') (t : CTab 39 u' p' S1) (m : Mut [p'] u u') : Two w u' p p' S S1 :=
  ⟨h.tab.muts m (by simpa using h.ne), t, h.kept.muts m (by simpa using h.lo'), h.lo, h.lo'⟩
/-- Both, and the operation. -/
structure Tw3 (w u : World) (p p' ob : Nat) (S S' : CS) (K N : Int) : Prop where
  two : Two w u p p' S S'
  op : Own u ob 32 [.int .i64 K, .int .i64 N]
variable {K N : Int}
theorem Tw3.still (h : Tw3 w u p p' ob S S' K N) (k : Kept u u') : Tw3 w u' p p' ob S S' K N := ⟨h.two.still k, h.op.kept k⟩
theorem Tw3.fst (h : Tw3 w u p p' ob S S' K N) (t : CTab 47 u' p S1) (m : Mut [p] u u') : Tw3 w u' p p' ob S1 S' K N :=
  ⟨h.two.fst t m, h.op.muts m (by simpa using h.op.far h.two.tab.own (by decide))⟩
theorem Tw3.snd (h : Tw3 w u p p' ob S S' K N) (t : CTab 39 u' p' S1) (m : Mut [p'] u u') : Tw3 w u' p p' ob S S1 K N :=
  ⟨h.two.snd t m, h.op.muts m (by simpa using h.op.far h.two.ref.own (by decide))⟩
end

set_option maxHeartbeats 2000000 in
set_option maxRecDepth 20000 in
theorem plays_bad (s : Int) (x : Option Addr) (l c : Nat) (w : World) (hs : ¬ (0 ≤ s ∧ s ≤ 2048)) (hl : (l : Int) ≤ 500) :
    Calls Try.prog 3 #[.int .i64 s, .slice x l c] w fun e w' => e = .returned (.bool true) ∧ Kept w w' := by
  have HN : Hid (∀ w, _) := fun w => new_bad s w hs
  have HF : Hid (∀ w, _) := fun w => rnew_bad s w hs
  clear hs
  go_enter Try.func3, Try.ntmps3
  go_wp2_with fail
  refine (first_any _).mono ?_
  rintro e w1 ⟨rfl, k1⟩
  have K1 : Hid (Kept w w1) := k1
  clear k1
  go_wp2_with fail
  refine (HN.out _).mono ?_
  rintro e w2 ⟨rfl, rfl⟩
  go_wp2_with fail
  refine (HF.out _).mono ?_
  rintro e w3 ⟨rfl, rfl⟩
  go_wp2
  refine wp_loop_rounds 1 ?_
  rw [rounds_succ]
  go_wp2_with fail
  refine (first_any _).mono ?_
  rintro e w5 ⟨rfl, k5⟩
  have K5 : Hid (Kept w w5) := K1.out.trans k5
  clear k5
  go_wp2
  go_ret
  exact ⟨rfl, K5.out⟩

set_option maxHeartbeats 2000000 in
set_option maxRecDepth 20000 in
theorem plays_bad2 (s : Int) (x : Option Addr) (l c : Nat) (w : World) (hs : ¬ (0 ≤ s ∧ s ≤ 2048)) (hl : 500 < (l : Int)) :
    Calls Try.prog 3 #[.int .i64 s, .slice x l c] w fun e w' => e = .returned (.bool true) ∧ Kept w w' := by
  have HN : Hid (∀ w, _) := fun w => new_bad s w hs
  have HF : Hid (∀ w, _) := fun w => rnew_bad s w hs
  clear hs
  go_enter Try.func3, Try.ntmps3
  go_wp2_with fail
  refine (first_any _).mono ?_
  rintro e w1 ⟨rfl, k1⟩
  have K1 : Hid (Kept w w1) := k1
  clear k1
  go_wp2_with fail
  refine (HN.out _).mono ?_
  rintro e w2 ⟨rfl, rfl⟩
  go_wp2_with fail
  refine (HF.out _).mono ?_
  rintro e w3 ⟨rfl, rfl⟩
  go_wp2_with fail
  refine (first_any _).mono ?_
  rintro e w5 ⟨rfl, k5⟩
  have K5 : Hid (Kept w w5) := K1.out.trans k5
  clear k5
  go_wp2
  go_ret
  exact ⟨rfl, K5.out⟩

set_option maxHeartbeats 2000000 in
set_option maxRecDepth 20000 in
theorem plays_out (s : Nat) (x : Option Addr) (l c : Nat) (w : World) (hs : s ≤ 2048) (hl : 500 < (l : Int)) :
    Calls Try.prog 3 #[.int .i64 (s : Int), .slice x l c] w fun e w' => e = .returned (.bool true) ∧ Kept w w' := by
  go_enter Try.func3, Try.ntmps3
  go_wp2_with fail
  refine (first_any _).mono ?_
  rintro e w1 ⟨rfl, k1⟩
  have K1 : Hid (Kept w w1) := k1
  clear k1
  go_wp2_with fail
  refine (new_any s _ (by omega)).mono ?_
  rintro e w2 ⟨p, rfl, t2, k2, l2⟩
  have H2 : Hid (CTab 47 w2 p ⟨s, 0, 0, 0, 0⟩ ∧ Kept w w2 ∧ w.heap.size ≤ p) := ⟨t2, K1.out.trans k2, Nat.le_trans K1.out.size l2⟩
  clear k2 K1 t2 l2
  go_wp2_with fail
  refine (rnew_any s _ (by omega)).mono ?_
  rintro e w3 ⟨p', rfl, t3, k3, l3⟩
  have H3 : Hid (Two w w3 p p' ⟨s, 0, 0, 0, 0⟩ ⟨s, 0, 0, 0, 0⟩) := ⟨H2.out.1.kept k3, t3, H2.out.2.1.trans k3, H2.out.2.2, Nat.le_trans H2.out.2.1.size l3⟩
  clear k3 H2 t3 l3
  go_wp2_with fail
  refine (first_any _).mono ?_
  rintro e w5 ⟨rfl, k5⟩
  have K5 : Hid (Kept w w5) := H3.out.kept.trans k5
  clear k5
  go_wp2
  go_ret
  exact ⟨rfl, K5.out⟩

set_option maxHeartbeats 20000000 in
set_option maxRecDepth 20000 in
theorem plays_in (s : Nat) (x : Option Addr) (l c : Nat) (L : Nat → Op11) (w : World) (hX : Ops w x l L) (hB : ∀ i, i < l → IntKind.min .i64 ≤ (L i).n ∧ (L i).n ≤ IntKind.max .i64) (hs : s ≤ 2048) (hl : (l : Int) ≤ 500) :
    Calls Try.prog 3 #[.int .i64 (s : Int), .slice x l c] w fun e w' => e = .returned (.bool true) ∧ Kept w w' := by
  have HX : Hid (Ops w x l L) := hX
  have HB : Hid (∀ i, i < l → IntKind.min .i64 ≤ (L i).n ∧ (L i).n ≤ IntKind.max .i64) := hB
  clear hX hB
  go_enter Try.func3, Try.ntmps3
  go_wp2_with fail
  refine (first_any _).mono ?_
  rintro e w1 ⟨rfl, k1⟩
  have K1 : Hid (Kept w w1) := k1
  clear k1
  go_wp2_with fail
  refine (new_any s _ (by omega)).mono ?_
  rintro e w2 ⟨p, rfl, t2, k2, l2⟩
  have H2 : Hid (CTab 47 w2 p ⟨s, 0, 0, 0, 0⟩ ∧ Kept w w2 ∧ w.heap.size ≤ p) := ⟨t2, K1.out.trans k2, Nat.le_trans K1.out.size l2⟩
  clear k2 K1 t2 l2
  go_wp2_with fail
  refine (rnew_any s _ (by omega)).mono ?_
  rintro e w3 ⟨p', rfl, t3, k3, l3⟩
  have H3 : Hid (Two w w3 p p' ⟨s, 0, 0, 0, 0⟩ ⟨s, 0, 0, 0, 0⟩) := ⟨H2.out.1.kept k3, t3, H2.out.2.1.trans k3, H2.out.2.2, Nat.le_trans H2.out.2.1.size l3⟩
  clear k3 H2 t3 l3
  go_wp2_with fail
  go_loopg [9] l (fun m i wr' => ∃ (j : Nat), i = .int .i64 j ∧ j ≤ l ∧ m = l - j ∧ Hid (∃ S : CS, Two w wr' p p' S S))
  case atStart => exact ⟨0, rfl, by omega, by omega, _, H3.out⟩
  case round =>
    obtain ⟨j, rfl, hj, hm, HR⟩ := hrel
    have HM : Hid _ := hm
    clear hm H3
    by_cases hlt : j < l
    · obtain ⟨bx, ox, rfl, hbx, hcx⟩ := HX.out.at (by omega)
      obtain ⟨S, hR⟩ := HR.out
      have e0 := (hR.kept.cell (a := ⟨bx, ox + j * 2, none⟩) hbx).trans (hcx j hlt).1
      have e1 := (hR.kept.cell (a := ⟨bx, ox + j * 2 + 1, none⟩) hbx).trans (hcx j hlt).2
      have hon := HB.out j hlt
      clear hcx hbx HX HB
      generalize (L j).k = ok at *
      generalize (L j).n = on at *
      clear hon
      have HS : Hid (Two w wr p p' S S) := hR
      clear hR HR
      go_upto_block 2 with fail
      generalize hW : wr.alloc _ = W
      have HW : Hid (Tw3 w W p p' wr.heap.size S S ok on) := by
        rw [← hW]
        exact ⟨HS.out.still ((Kept.refl _).alloc _ _), Own.new wr [.int .i64 ok, .int .i64 on] _⟩
      clear hW HS e0 e1
      generalize wr.heap.size = ob at *
      have b1 := HW.out.op.blk.at 1 rfl
      go_cut [11, 12, 13, 14, 15, 16, 17, 18, 19] from 76 to 148 (fun q _ _ _ _ _ _ _ _ wc => q = .bool true ∧ Hid (∃ S : CS, Two w wc p p' S S))
      case first =>
        by_cases h10 : ok = 0
        · have h10' : (ok == 0) = true := by simpa using h10
          clear h10
          as_aux_lemma =>
            obtain ⟨va, vb, S1, CA, CX⟩ : ∃ (va : Int) (vb : Bool) (S1 : CS), Hid (∀ u, CTab 47 u p S → Calls Try.prog 10 #[.pointer (some ⟨p, 0, none⟩), .int .i64 on] u fun e w' => e = .returned (.tuple #[.int .i64 va, .bool vb]) ∧ CTab 47 w' p S1 ∧ Mut [p] u w') ∧ Hid (∀ u, CTab 39 u p' S → Calls Try.prog 11 #[.pointer (some ⟨p', 0, none⟩), .int .i64 on] u fun e w' => e = .returned (.tuple #[.int .i64 va, .bool vb]) ∧ CTab 39 w' p' S1 ∧ Mut [p'] u w') := ⟨takeA S on, takes S on, takeS S on, fun u h => take_any on u h, fun u h => rtake_any on u h⟩
            have eb : (vb == vb) = true := by simp
            have ea : (va == va) = true := by simp
            go_wp2_with fail
            refine (CA.out _ HW.out.two.tab).mono ?_
            rintro e w6 ⟨rfl, t6, m6⟩
            have H6 : Hid (Tw3 w w6 p p' ob S1 S ok on) := HW.out.fst t6 m6
            clear t6 m6 HW b1
            have b1 := H6.out.op.blk.at 1 rfl
            go_wp2_with fail
            refine (CX.out _ H6.out.two.ref).mono ?_
            rintro e w7 ⟨rfl, t7, m7⟩
            have H7 : Hid (Tw3 w w7 p p' ob S1 S1 ok on) := H6.out.snd t7 m7
            clear t7 m7 H6 b1
            go_wp2
            go_meet
            case rel => exact ⟨rfl, _, H7.out.two⟩
        · have h10' : (ok == 0) = false := by simpa using h10
          clear h10
          by_cases h11 : ok = 1
          · have h11' : (ok == 1) = true := by simpa using h11
            clear h11
            as_aux_lemma =>
              obtain ⟨vb, S1, CA, CX⟩ : ∃ (vb : Bool) (S1 : CS), Hid (∀ u, CTab 47 u p S → Calls Try.prog 12 #[.pointer (some ⟨p, 0, none⟩)] u fun e w' => e = .returned (.bool vb) ∧ CTab 47 w' p S1 ∧ Mut [p] u w') ∧ Hid (∀ u, CTab 39 u p' S → Calls Try.prog 13 #[.pointer (some ⟨p', 0, none⟩)] u fun e w' => e = .returned (.bool vb) ∧ CTab 39 w' p' S1 ∧ Mut [p'] u w') := ⟨turns S, turnS S, fun u h => turn_any u h, fun u h => rturn_any u h⟩
              have eb : (vb == vb) = true := by simp
              go_wp2_with fail
              refine (CA.out _ HW.out.two.tab).mono ?_
              rintro e w6 ⟨rfl, t6, m6⟩
              have H6 : Hid (Tw3 w w6 p p' ob S1 S ok on) := HW.out.fst t6 m6
              clear t6 m6 HW b1
              have b1 := H6.out.op.blk.at 1 rfl
              go_wp2_with fail
              refine (CX.out _ H6.out.two.ref).mono ?_
              rintro e w7 ⟨rfl, t7, m7⟩
              have H7 : Hid (Tw3 w w7 p p' ob S1 S1 ok on) := H6.out.snd t7 m7
              clear t7 m7 H6 b1
              go_wp2
              go_meet
              case rel => exact ⟨rfl, _, H7.out.two⟩
          · have h11' : (ok == 1) = false := by simpa using h11
            clear h11
            by_cases h12 : ok = 2
            · have h12' : (ok == 2) = true := by simpa using h12
              clear h12
              as_aux_lemma =>
                obtain ⟨va, vb, S1, CA, CX⟩ : ∃ (va : Int) (vb : Bool) (S1 : CS), Hid (∀ u, CTab 47 u p S → Calls Try.prog 14 #[.pointer (some ⟨p, 0, none⟩), .int .i64 on] u fun e w' => e = .returned (.tuple #[.int .i64 va, .bool vb]) ∧ CTab 47 w' p S1 ∧ Mut [p] u w') ∧ Hid (∀ u, CTab 39 u p' S → Calls Try.prog 15 #[.pointer (some ⟨p', 0, none⟩), .int .i64 on] u fun e w' => e = .returned (.tuple #[.int .i64 va, .bool vb]) ∧ CTab 39 w' p' S1 ∧ Mut [p'] u w') := ⟨copyA S on, skips S on, copyS S on, fun u h => copy_any on u h, fun u h => rcopy_any on u h⟩
                have eb : (vb == vb) = true := by simp
                have ea : (va == va) = true := by simp
                go_wp2_with fail
                refine (CA.out _ HW.out.two.tab).mono ?_
                rintro e w6 ⟨rfl, t6, m6⟩
                have H6 : Hid (Tw3 w w6 p p' ob S1 S ok on) := HW.out.fst t6 m6
                clear t6 m6 HW b1
                have b1 := H6.out.op.blk.at 1 rfl
                go_wp2_with fail
                refine (CX.out _ H6.out.two.ref).mono ?_
                rintro e w7 ⟨rfl, t7, m7⟩
                have H7 : Hid (Tw3 w w7 p p' ob S1 S1 ok on) := H6.out.snd t7 m7
                clear t7 m7 H6 b1
                go_wp2
                go_meet
                case rel => exact ⟨rfl, _, H7.out.two⟩
            · have h12' : (ok == 2) = false := by simpa using h12
              clear h12
              by_cases h13 : ok = 3
              · have h13' : (ok == 3) = true := by simpa using h13
                clear h13
                as_aux_lemma =>
                  obtain ⟨vb, S1, CA, CX⟩ : ∃ (vb : Bool) (S1 : CS), Hid (∀ u, CTab 47 u p S → Calls Try.prog 16 #[.pointer (some ⟨p, 0, none⟩), .int .i64 on] u fun e w' => e = .returned (.bool vb) ∧ CTab 47 w' p S1 ∧ Mut [p] u w') ∧ Hid (∀ u, CTab 39 u p' S → Calls Try.prog 17 #[.pointer (some ⟨p', 0, none⟩), .int .i64 on] u fun e w' => e = .returned (.bool vb) ∧ CTab 39 w' p' S1 ∧ Mut [p'] u w') := ⟨skips S on, skipS S on, fun u h => skip_any on u h, fun u h => rskip_any on u h⟩
                  go_upto_region 24 with fail
                  refine wp_region_phase [(.pointer (some ⟨p, 0, none⟩)), (.pointer (some ⟨ob, 1, none⟩)), (.int .i64 on), (.bool vb), (.pointer (some ⟨p', 0, none⟩)), (.pointer (some ⟨ob, 1, none⟩)), (.int .i64 on), (.bool vb), (.bool true), (.bool true)] [(11, 9), (133, 0), (134, 1), (135, 2), (136, 3), (137, 4), (138, 5), (139, 6), (140, 7), (141, 8)] [_, _, _, _, _, _, _, _, _, _, _, _, _, _, _, _, _, _, _, _, _, _, _, _, _, _, _, _, _, _, _, _, _, _, _, _, _, _, _, _, _, _, _, _, _, _, _, _, _, _, _, _, _, _, _, _, _, _, _, _, _, _, _, _, _, _, _, _, _, _, _, _, _, _, _, _, _, _, _, _, _, _, _, _, _, _, _, _, _, _, _, _, _, _, _, _, _, _, _, _, _, _, _, _, _, _, _, _, _, _, _, _, _, _, _, _, _, _, _, _, _, _, _, _, _, _, _, _, _, _, _, _, _, _, _, _, _, _, _, _, _, _, _, _, _, _, _, _, _, _, _, _, _, _, _, _, _, _, _, _, _, _, _, _, _, _, _, _, _, _, _, _, _, _, _, _, _, _, _, _, _, _, _, _, _, _, _, _, _, _, _, _, _, _, _, _, _] (fun d u => Tw3 w u p p' ob (if d 3 then S1 else S) (if d 7 then S1 else S) ok on) (by kernel_rfl) (by kernel_rfl) (by kernel_rfl) (by kernel_rfl) rfl ?_ ?_ ?_
                  · exact HW.out.still (Kept.refl _).drew
                  · intro i o hoo y d u hh hj hi hd
                    match i, hoo, hi, hd with
                    | 0, hoo, hi, hd =>
                      simp only [List.getElem?_cons_zero, Option.some.injEq] at hoo
                      subst hoo
                      have g5 : y.tmps[5]? = some (.pointer (some ⟨p, 0, none⟩)) := hh.old 5 (by kernel_rfl) rfl
                      clear hh hd
                      have HN : Hid (Tw3 w u p p' ob (if done d 0 3 then S1 else S) (if done d 0 7 then S1 else S) ok on) := by simpa [Hid, done] using hj
                      clear hj hi
                      refine wpOp_step rfl (fun K hK => ?_)
                      go_simp
                      exact hK _ _ ⟨by simp [Act.put], HN.out⟩
                    | 1, hoo, hi, hd =>
                      simp only [List.getElem?_cons_succ, List.getElem?_cons_zero, Option.some.injEq] at hoo
                      subst hoo
                      have g10 : y.tmps[10]? = some (.pointer (some ⟨ob, 0, none⟩)) := hh.old 10 (by kernel_rfl) rfl
                      clear hh hd
                      have HN : Hid (Tw3 w u p p' ob (if done d 1 3 then S1 else S) (if done d 1 7 then S1 else S) ok on) := by simpa [Hid, done] using hj
                      clear hj hi
                      refine wpOp_step rfl (fun K hK => ?_)
                      go_simp
                      exact hK _ _ ⟨by simp [Act.put], HN.out⟩
                    | 2, hoo, hi, hd =>
                      simp only [List.getElem?_cons_succ, List.getElem?_cons_zero, Option.some.injEq] at hoo
                      subst hoo
                      have g134 : y.tmps[134]? = some (.pointer (some ⟨ob, 1, none⟩)) := hh.did 1 _ 134 rfl rfl (hd { on := 1, ground := .data } (by simp) rfl)
                      have cc := hj.op.blk.at 1 rfl
                      clear hh hd
                      have HN : Hid (Tw3 w u p p' ob (if done d 2 3 then S1 else S) (if done d 2 7 then S1 else S) ok on) := by simpa [Hid, done] using hj
                      clear hj hi
                      refine wpOp_step rfl (fun K hK => ?_)
                      go_simp
                      exact hK _ _ ⟨by simp [Act.put], HN.out⟩
                    | 3, hoo, hi, hd =>
                      simp only [List.getElem?_cons_succ, List.getElem?_cons_zero, Option.some.injEq] at hoo
                      subst hoo
                      have g133 : y.tmps[133]? = some (.pointer (some ⟨p, 0, none⟩)) := hh.did 0 _ 133 rfl rfl (hd { on := 0, ground := .data } (by simp) rfl)
                      have g135 : y.tmps[135]? = some (.int .i64 on) := hh.did 2 _ 135 rfl rfl (hd { on := 2, ground := .data } (by simp) rfl)
                      clear hh hd
                      have CB := CA.out u (by have := hj.two.tab; rw [hi] at this; exact this)
                      have HN : Hid (∀ u', CTab 47 u' p S1 → Mut [p] u u' → Tw3 w u' p p' ob (if done d 3 3 then S1 else S) (if done d 3 7 then S1 else S) ok on) := fun u' h m => by simpa [done] using hj.fst h m
                      clear hj hi
                      refine wpOp_step rfl (fun K hK => ?_)
                      go_simp
                      refine CB.mono ?_
                      rintro e u2 ⟨rfl, h2, m2⟩
                      exact hK _ _ ⟨by simp [Act.put], HN.out u2 h2 m2⟩
                    | 4, hoo, hi, hd =>
                      simp only [List.getElem?_cons_succ, List.getElem?_cons_zero, Option.some.injEq] at hoo
                      subst hoo
                      have g7 : y.tmps[7]? = some (.pointer (some ⟨p', 0, none⟩)) := hh.old 7 (by kernel_rfl) rfl
                      clear hh hd
                      have HN : Hid (Tw3 w u p p' ob (if done d 4 3 then S1 else S) (if done d 4 7 then S1 else S) ok on) := by simpa [Hid, done] using hj
                      clear hj hi
                      refine wpOp_step rfl (fun K hK => ?_)
                      go_simp
                      exact hK _ _ ⟨by simp [Act.put], HN.out⟩
                    | 5, hoo, hi, hd =>
                      simp only [List.getElem?_cons_succ, List.getElem?_cons_zero, Option.some.injEq] at hoo
                      subst hoo
                      have g10 : y.tmps[10]? = some (.pointer (some ⟨ob, 0, none⟩)) := hh.old 10 (by kernel_rfl) rfl
                      clear hh hd
                      have HN : Hid (Tw3 w u p p' ob (if done d 5 3 then S1 else S) (if done d 5 7 then S1 else S) ok on) := by simpa [Hid, done] using hj
                      clear hj hi
                      refine wpOp_step rfl (fun K hK => ?_)
                      go_simp
                      exact hK _ _ ⟨by simp [Act.put], HN.out⟩
                    | 6, hoo, hi, hd =>
                      simp only [List.getElem?_cons_succ, List.getElem?_cons_zero, Option.some.injEq] at hoo
                      subst hoo
                      have g138 : y.tmps[138]? = some (.pointer (some ⟨ob, 1, none⟩)) := hh.did 5 _ 138 rfl rfl (hd { on := 5, ground := .data } (by simp) rfl)
                      have cc := hj.op.blk.at 1 rfl
                      clear hh hd
                      have HN : Hid (Tw3 w u p p' ob (if done d 6 3 then S1 else S) (if done d 6 7 then S1 else S) ok on) := by simpa [Hid, done] using hj
                      clear hj hi
                      refine wpOp_step rfl (fun K hK => ?_)
                      go_simp
                      exact hK _ _ ⟨by simp [Act.put], HN.out⟩
                    | 7, hoo, hi, hd =>
                      simp only [List.getElem?_cons_succ, List.getElem?_cons_zero, Option.some.injEq] at hoo
                      subst hoo
                      have g137 : y.tmps[137]? = some (.pointer (some ⟨p', 0, none⟩)) := hh.did 4 _ 137 rfl rfl (hd { on := 4, ground := .data } (by simp) rfl)
                      have g139 : y.tmps[139]? = some (.int .i64 on) := hh.did 6 _ 139 rfl rfl (hd { on := 6, ground := .data } (by simp) rfl)
                      clear hh hd
                      have CB := CX.out u (by have := hj.two.ref; rw [hi] at this; exact this)
                      have HN : Hid (∀ u', CTab 39 u' p' S1 → Mut [p'] u u' → Tw3 w u' p p' ob (if done d 7 3 then S1 else S) (if done d 7 7 then S1 else S) ok on) := fun u' h m => by simpa [done] using hj.snd h m
                      clear hj hi
                      refine wpOp_step rfl (fun K hK => ?_)
                      go_simp
                      refine CB.mono ?_
                      rintro e u2 ⟨rfl, h2, m2⟩
                      exact hK _ _ ⟨by simp [Act.put], HN.out u2 h2 m2⟩
                    | 8, hoo, hi, hd =>
                      simp only [List.getElem?_cons_succ, List.getElem?_cons_zero, Option.some.injEq] at hoo
                      subst hoo
                      have g136 : y.tmps[136]? = some (.bool vb) := hh.did 3 _ 136 rfl rfl (hd { on := 3, ground := .data } (by simp) rfl)
                      have g140 : y.tmps[140]? = some (.bool vb) := hh.did 7 _ 140 rfl rfl (hd { on := 7, ground := .data } (by simp) rfl)
                      have zz : (vb == vb) = true := by simp
                      clear hh hd
                      have HN : Hid (Tw3 w u p p' ob (if done d 8 3 then S1 else S) (if done d 8 7 then S1 else S) ok on) := by simpa [Hid, done] using hj
                      clear hj hi
                      refine wpOp_step rfl (fun K hK => ?_)
                      go_simp
                      exact hK _ _ ⟨by simp [Act.put], HN.out⟩
                    | 9, hoo, hi, hd =>
                      simp only [List.getElem?_cons_succ, List.getElem?_cons_zero, Option.some.injEq] at hoo
                      subst hoo
                      have g141 : y.tmps[141]? = some (.bool true) := hh.did 8 _ 141 rfl rfl (hd { on := 8, ground := .data } (by simp) rfl)
                      clear hh hd
                      have HN : Hid (Tw3 w u p p' ob (if done d 9 3 then S1 else S) (if done d 9 7 then S1 else S) ok on) := by simpa [Hid, done] using hj
                      clear hj hi
                      refine wpOp_step rfl (fun K hK => ?_)
                      go_simp
                      exact hK _ _ ⟨by simp [Act.put], HN.out⟩
                    | k + 10, hoo, _, _ => simp at hoo
                  · intro u d hall hj
                    have H6 : Hid (Tw3 w u p p' ob S1 S1 ok on) := by
                      have h := hj
                      rw [hall 3 (by decide), hall 7 (by decide)] at h
                      exact h
                    clear hall hj
                    simp only [List.getD_cons_succ, List.getD_cons_zero]
                    go_wp2
                    go_meet
                    case rel => exact ⟨rfl, _, H6.out.two⟩
              · have h13' : (ok == 3) = false := by simpa using h13
                clear h13
                by_cases h14 : ok = 4
                · have h14' : (ok == 4) = true := by simpa using h14
                  clear h14
                  as_aux_lemma =>
                    obtain ⟨vb, S1, CA, CX⟩ : ∃ (vb : Bool) (S1 : CS), Hid (∀ u, CTab 47 u p S → Calls Try.prog 18 #[.pointer (some ⟨p, 0, none⟩)] u fun e w' => e = .returned (.bool vb) ∧ CTab 47 w' p S1 ∧ Mut [p] u w') ∧ Hid (∀ u, CTab 39 u p' S → Calls Try.prog 19 #[.pointer (some ⟨p', 0, none⟩)] u fun e w' => e = .returned (.bool vb) ∧ CTab 39 w' p' S1 ∧ Mut [p'] u w') := ⟨dones S, doneS S, fun u h => done_any u h, fun u h => rdone_any u h⟩
                    have eb : (vb == vb) = true := by simp
                    go_wp2_with fail
                    refine (CA.out _ HW.out.two.tab).mono ?_
                    rintro e w6 ⟨rfl, t6, m6⟩
                    have H6 : Hid (Tw3 w w6 p p' ob S1 S ok on) := HW.out.fst t6 m6
                    clear t6 m6 HW b1
                    have b1 := H6.out.op.blk.at 1 rfl
                    go_wp2_with fail
                    refine (CX.out _ H6.out.two.ref).mono ?_
                    rintro e w7 ⟨rfl, t7, m7⟩
                    have H7 : Hid (Tw3 w w7 p p' ob S1 S1 ok on) := H6.out.snd t7 m7
                    clear t7 m7 H6 b1
                    go_wp2
                    go_meet
                    case rel => exact ⟨rfl, _, H7.out.two⟩
                · have h14' : (ok == 4) = false := by simpa using h14
                  clear h14
                  go_wp2
                  go_meet
                  case rel => exact ⟨rfl, _, HW.out.two⟩
      case rest =>
        as_aux_lemma =>
          clear HW b1
          obtain ⟨rfl, hc⟩ := hcut
          obtain ⟨S2, h2⟩ := hc.out
          have H2 : Hid (Two w wc p p' S2 S2) := h2
          clear hc h2
          obtain ⟨f1, f2, f3, f4, f5⟩ := H2.out.tab.ok
          obtain ⟨s2, c2, k2, a2, b2⟩ := S2
          have GC : Hid (∀ x : KW wc, Calls Try.prog 20 #[.pointer (some ⟨p, 0, none⟩)] x.it fun e w' => e = .returned (.int .i64 (c2 : Int)) ∧ w' = x.it) := fun x => current_any _ (H2.out.tab.kept x.ok)
          have GA : Hid (∀ x : KW wc, Calls Try.prog 21 #[.pointer (some ⟨p, 0, none⟩), .int .i64 0] x.it fun e w' => e = .returned (.int .i64 (a2 : Int)) ∧ w' = x.it) := fun x => used_any 0 _ (H2.out.tab.kept x.ok)
          have GB : Hid (∀ x : KW wc, Calls Try.prog 21 #[.pointer (some ⟨p, 0, none⟩), .int .i64 1] x.it fun e w' => e = .returned (.int .i64 (b2 : Int)) ∧ w' = x.it) := fun x => used_any 1 _ (H2.out.tab.kept x.ok)
          have GL : Hid (∀ x : KW wc, Calls Try.prog 24 #[.pointer (some ⟨p, 0, none⟩)] x.it fun e w' => e = .returned (.int .i64 (k2 : Int)) ∧ w' = x.it) := fun x => left_any _ (H2.out.tab.kept x.ok)
          obtain ⟨r2, GR, GX⟩ : ∃ r2 : Int, Hid (∀ x : KW wc, Calls Try.prog 22 #[.pointer (some ⟨p, 0, none⟩)] x.it fun e w' => e = .returned (.int .i64 r2) ∧ Kept x.it w') ∧ Hid (∀ x : KW wc, Calls Try.prog 23 #[.pointer (some ⟨p', 0, none⟩)] x.it fun e w' => e = .returned (.int .i64 r2) ∧ Kept x.it w') := ⟨_, fun x => room_any _ (H2.out.tab.kept x.ok), fun x => rroom_any _ (H2.out.ref.kept x.ok)⟩
          have q1 := KW.cell (a := ⟨p', 1, none⟩) H2.out.ref.lt H2.out.ref.c1
          have q2 := KW.cell (a := ⟨p', 2, none⟩) H2.out.ref.lt H2.out.ref.c2
          have q3 := KW.cell (a := ⟨p', 3, none⟩) H2.out.ref.lt H2.out.ref.c3
          have q4 := KW.cell (a := ⟨p', 4, none⟩) H2.out.ref.lt H2.out.ref.c4
          simp only at q1 q2 q3 q4
          have y1 : ((a2 : Int) != (a2 : Int)) = false := by simp
          have y2 : ((b2 : Int) != (b2 : Int)) = false := by simp
          have y3 : ((c2 : Int) != (c2 : Int)) = false := by simp
          have y4 : ((k2 : Int) != (k2 : Int)) = false := by simp
          have y5 : (r2 != r2) = false := by simp
          clear f1 f2 f3 f4 f5
          go_wp2_with fail
          refine wp_region_kept (by kernel_rfl) (by kernel_rfl) fun _ => ?_
          repeat (go_big_quiet_step (first | (go_at_call 20; exact kept_of_same (GC.out _)) | (go_at_call_of 21 (#[Value.pointer (some ⟨p, 0, none⟩), Value.int IntKind.i64 0]); exact kept_of_same (GA.out _)) | (go_at_call_of 21 (#[Value.pointer (some ⟨p, 0, none⟩), Value.int IntKind.i64 1]); exact kept_of_same (GB.out _)) | (go_at_call 24; exact kept_of_same (GL.out _)) | (go_at_call 22; exact kept_of (GR.out _)) | (go_at_call 23; exact kept_of (GX.out _))))
          refine wpQuiet_nil ?_
          rintro _ ⟨z, rfl⟩
          have H10 : Hid (∃ S, Two w z.it p p' S S) := ⟨_, H2.out.still z.ok⟩
          clear GC GA GB GL GR GX q1 q2 q3 q4 y1 y2 y3 y4 y5 H2
          go_wp2
          go_roundg (l - (j + 1))
          all_goals (have := HM.out; try omega)
          exact ⟨j + 1, by go_num, by omega, rfl, H10.out⟩
    · obtain rfl : j = l := by omega
      have K4 : Hid (Kept w wr) := by
        obtain ⟨_, h⟩ := HR.out
        exact h.kept
      clear HR
      go_wp2_with fail
      refine (first_any _).mono ?_
      rintro e w4 ⟨rfl, k4⟩
      have H4 : Hid (Kept w w4) := K4.out.trans k4
      clear k4 K4
      go_wp2
      go_ret
      exact ⟨rfl, H4.out⟩

theorem coilPlays_any (n0 : Int) (x1 : Option Addr) (l1 c1 : Nat) (L1 : Nat → Op11) (w : World) (_lo0 : IntKind.min .i64 ≤ n0) (_hi0 : n0 ≤ IntKind.max .i64) (_h1c : l1 ≤ c1) (hL1 : Ops w x1 l1 L1) (hB1 : ∀ i, i < l1 → IntKind.min .i64 ≤ (L1 i).n ∧ (L1 i).n ≤ IntKind.max .i64) :
    Calls Try.prog 3 #[.int .i64 n0, .slice x1 l1 c1] w fun e w' => e = .returned (.bool true) ∧ Kept w w' := by
  by_cases hs : 0 ≤ n0 ∧ n0 ≤ 2048
  · obtain ⟨s, rfl⟩ : ∃ s : Nat, n0 = s := ⟨n0.toNat, by omega⟩
    by_cases ho : 500 < (l1 : Int)
    · exact plays_out s x1 l1 c1 w (by omega) ho
    · exact plays_in s x1 l1 c1 L1 w hL1 hB1 (by omega) (by omega)
  · by_cases ho : 500 < (l1 : Int)
    · exact plays_bad2 n0 x1 l1 c1 w hs ho
    · exact plays_bad n0 x1 l1 c1 w hs (by omega)
end Go.Proofs.Ytfddcfmgigaabaa
