/-
  LinePlays: the walk.
-/
import Derived.Test.YtjobnlfecochfaaPlayB
import Derived.Test.YtjobnlfecochfaaPhase
import Derived.Deep.CutBlock
import Derived.Test.YtjobnlfecochfaaRow
namespace Go.Proofs.Ytjobnlfecochfaa
open Go.RowKit

set_option maxHeartbeats 20000000 in
set_option maxRecDepth 20000 in
theorem plays_walk (x : Option Addr) (l c : Nat) (L : Nat → Op10) (w : World) (hX : Ops w x l L) :
    Calls Try.prog 3 #[.slice x l c] w fun e w' => e = .returned (.bool true) ∧ Kept w w' := by
  have HX : Hid (Ops w x l L) := hX
  clear hX
  go_enter Try.func3, Try.ntmps3
  go_wp2_with fail
  refine (lfirst_any _).mono ?_
  rintro e w1 ⟨rfl, k1⟩
  have K1 : Hid (Kept w w1) := k1
  clear k1
  go_wp2_with fail
  refine (new_any _ K1.out.size).mono ?_
  rintro e w2 ⟨b, rfl, t2, k2, -⟩
  have H2 : Hid (LTab w2 w.heap.size b (.slice none 0 0) [] ∧ Kept w w2) := ⟨t2, K1.out.trans k2⟩
  clear k2 K1 t2
  go_wp2_with fail
  generalize hW : w2.alloc _ = W3
  have H3 : Hid (Tw w W3 b (.slice none 0 0) [] w2.heap.size (.slice none 0 0) (.slice none 0 0) [] [] W3.heap.size W3.heap.size → False) := fun h => by have := h.lt.1; omega
  have HT3 : Hid (LTab W3 w.heap.size b (.slice none 0 0) [] ∧ RTab W3 w.heap.size w2.heap.size (.slice none 0 0) (.slice none 0 0) [] [] ∧ Kept w W3 ∧ b ≠ w2.heap.size) := by
    have k3 : Kept w2 W3 := by rw [← hW]; exact (Kept.refl _).alloc _ _
    refine ⟨H2.out.1.kept k3, ⟨by rw [← hW]; exact Own.new w2 [.slice none 0 0, .slice none 0 0] _, ⟨Rw.nil _ _ _ _ _, fun e he => by simp at he, fun e he => by simp at he, fun e he => by simp at he, by simp [Value.ownBlock]⟩, Lst.nil _ _, H2.out.2.size, by simp, by simp [Value.ownBlock], by simp [Value.ownBlock]⟩, H2.out.2.trans k3, by have := H2.out.1.ltb; omega⟩
  clear hW H2 H3
  generalize w2.heap.size = b' at *
  refine (few_any _ (HX.out.kept HT3.out.2.2.1)).mono ?_
  rintro e w3 ⟨rfl, h⟩
  rcases h with rfl | ⟨rfl, hl, hT⟩
  · go_wp2_with fail
    refine (lfirst_any _).mono ?_
    rintro e w4 ⟨rfl, k4⟩
    have K4 : Hid (Kept w w4) := HT3.out.2.2.1.trans k4
    clear k4
    go_wp2
    go_ret
    exact ⟨rfl, K4.out⟩
  · have HT : Hid _ := hT
    clear hT
    go_wp2_with fail
    go_loopg [5] l (fun m i wr => ∃ j : Nat, i = .int .i64 j ∧ j ≤ l ∧ m = l - j ∧ Hid (∃ v E v' nv R N, (LTab wr w.heap.size b v E ∧ RTab wr w.heap.size b' v' nv R N ∧ Kept w wr ∧ ∀ k, k ∈ foot b v E → k ∉ footR b' v' nv R) ∧ Rel E R N j))
    case atStart => exact ⟨0, rfl, by omega, by omega, _, _, _, _, _, _, ⟨HT3.out.1, HT3.out.2.1, HT3.out.2.2.1, fun k hk q => by
      simp [foot, footR, gots, Value.ownBlock] at hk q
      exact HT3.out.2.2.2 (hk.symm.trans q)⟩, ⟨rfl, by simp, by simp, by simp, by simp, by simp, by simp⟩⟩
    case round =>
      obtain ⟨j, rfl, hj, hm, hw⟩ := hrel
      have HM : Hid _ := hm
      clear hm HT3
      by_cases hlt : j < l
      · obtain ⟨v, E, v', nv, R, N, h3, hP⟩ := hw.out
        have H3 : Hid (LTab wr w.heap.size b v E ∧ RTab wr w.heap.size b' v' nv R N ∧ Kept w wr ∧ ∀ k, k ∈ foot b v E → k ∉ footR b' v' nv R) := h3
        have HP : Hid (Rel E R N j) := hP
        clear h3 hP hw
        obtain ⟨bx, ox, rfl, hbx, e0, e1, e2, e3, e4, e5⟩ := (HX.out.kept H3.out.2.2.1).six hlt
        have HRX : Hid (Rdi w (L j).x (L j).T ∧ (L j).T.length ≤ 2000) := ⟨HX.out.2 j hlt, HT.out j hlt⟩
        clear hbx HX HT
        generalize L j = o at *
        obtain ⟨ok, ot, of, os, oa, ol, oc, N0⟩ := o
        simp only at e0 e1 e2 e3 e4 e5 HRX
        go_upto_block 2 with fail
        clear e0 e1 e2 e3 e4 e5
        generalize hW : wr.alloc _ = W
        have BO : Hid (Own W wr.heap.size 33 [.int .i64 ok, .int .i64 ot, .int .i64 of, .int .i64 os, .int .i64 oa, .slice ol N0.length oc]) := by rw [← hW]; exact Own.new wr _ _
        have HW : Hid (Tw w W b v E b' v' nv R N wr.heap.size wr.heap.size) := by
          have k4 : Kept wr W := by rw [← hW]; exact (Kept.refl wr).alloc _ _
          have hz := BO.out.lt
          exact ⟨H3.out.1.kept k4, H3.out.2.1.kept k4, H3.out.2.2.1.trans k4, H3.out.2.2.2, fun k hk => by have := (H3.out.1.lt k hk).2; omega, fun k hk => by have := (H3.out.2.1.lt k hk).2; omega, hz, hz⟩
        clear hW H3
        generalize wr.heap.size = ob at *
        have b0 := BO.out.blk.at 0 rfl
        go_cut [7] from 45 to 169 (fun vok wc => vok = .bool true ∧ Hid (∃ v E v' nv R N, Tw w wc b v E b' v' nv R N ob ob ∧ Rel E R N (j + 1) ∧ Own wc ob 33 [.int .i64 ok, .int .i64 ot, .int .i64 of, .int .i64 os, .int .i64 oa, .slice ol N0.length oc]))
        case first =>
          by_cases h0 : ok = 0
          · have h0' : (ok == 0) = true := by simpa using h0
            clear h0
            as_aux_lemma =>
              obtain ⟨fit, P1, P2, cl, cr, hrel⟩ := add_both (w := w) (b := b) (b' := b') HP.out (by omega) ot of os oa oa oa ol N0.length oc
              have CL : Hid (CallsL w b E P1 fit 10 #[.pointer (some ⟨b, 0, none⟩), .agg #[.int .i64 ot, .int .i64 of, .int .i64 os, .int .i64 oa, .int .i64 oa, .int .i64 oa, .slice ol N0.length oc]]) := cl
              have CR : Hid (CallsR w b' R N P2 fit 11 #[.pointer (some ⟨b', 0, none⟩), .agg #[.int .i64 ot, .int .i64 of, .int .i64 os, .int .i64 oa, .int .i64 oa, .int .i64 oa, .slice ol N0.length oc]]) := cr
              have HREL : Hid (∀ E' R' N', P1 E' → P2 R' N' → Rel E' R' N' (j + 1)) := hrel
              clear cl cr hrel
              have b1 := BO.out.blk.at 1 rfl
              have b2 := BO.out.blk.at 2 rfl
              have b3 := BO.out.blk.at 3 rfl
              have b4 := BO.out.blk.at 4 rfl
              have b5 := BO.out.blk.at 5 rfl
              go_upto_region 13 with fail
              refine wp_region_row [(.pointer (some ⟨ob, 1, none⟩)), (.int .i64 ot), (.pointer (some ⟨ob, 2, none⟩)), (.int .i64 of), (.pointer (some ⟨ob, 3, none⟩)), (.int .i64 os), (.pointer (some ⟨ob, 4, none⟩)), (.int .i64 oa), (.pointer (some ⟨ob, 4, none⟩)), (.int .i64 oa), (.pointer (some ⟨ob, 4, none⟩)), (.int .i64 oa), (.pointer (some ⟨ob, 5, none⟩)), (.slice ol N0.length oc), (.agg #[.int .i64 ot, .int .i64 of, .int .i64 os, .int .i64 oa, .int .i64 oa, .int .i64 oa, .slice ol N0.length oc]), (.pointer (some ⟨W.heap.size, 0, none⟩)), undef] [(8, 15), (48, 0), (49, 1), (50, 2), (51, 3), (52, 4), (53, 5), (54, 6), (55, 7), (56, 8), (57, 9), (58, 10), (59, 11), (60, 12), (61, 13), (62, 14)] [_, _, _, _, _, _, _, _, _, _, _, _, _, _, _, _, _, _, _, _, _, _, _, _, _, _, _, _, _, _, _, _, _, _, _, _, _, _, _, _, _, _, _, _, _, _, _, _, _, _, _, _, _, _, _, _, _, _, _, _, _, _, _, _, _, _, _, _, _, _, _, _, _, _, _, _, _, _, _, _, _, _, _, _, _, _, _, _, _, _, _, _, _, _, _, _, _, _, _, _, _, _, _, _, _, _, _, _, _, _, _, _, _, _, _, _, _, _, _, _, _, _, _, _, _, _, _, _, _, _, _, _, _, _, _, _, _, _, _, _, _, _, _, _, _, _, _, _, _, _, _, _, _, _, _, _, _, _, _, _, _, _, _, _, _, _, _, _, _, _, _] (fun i u => (i ≤ 15 → u = W) ∧ (i = 16 → u = W.alloc (.cells #[.int .i64 0, .int .i64 0, .int .i64 0, .int .i64 0, .int .i64 0, .int .i64 0, .slice none 0 0] 35)) ∧ (i = 17 → Own u W.heap.size 35 [.int .i64 ot, .int .i64 of, .int .i64 os, .int .i64 oa, .int .i64 oa, .int .i64 oa, .slice ol N0.length oc] ∧ Kept W u)) (by kernel_rfl) (by kernel_rfl) rfl ⟨fun _ => rfl, by omega, by omega⟩ ?_ ?_
              · intro i o ho a u hh hj
                match i, ho, hh, hj with
                | 0, ho, hh, hj =>
                  simp only [List.getElem?_cons_zero, Option.some.injEq] at ho
                  subst ho
                  obtain rfl : u = W := hj.1 (by omega)
                  clear hj
                  have g6 : a.tmps[6]? = some (.pointer (some ⟨ob, 0, none⟩)) := hh.old 6 (by kernel_rfl) rfl
                  clear hh
                  refine wpOp_step rfl (fun K hK => ?_)
                  go_simp
                  exact hK _ _ ⟨by simp [Act.put], ⟨fun _ => rfl, by omega, by omega⟩⟩
                | 1, ho, hh, hj =>
                  simp only [List.getElem?_cons_succ, List.getElem?_cons_zero, Option.some.injEq] at ho
                  subst ho
                  obtain rfl : u = W := hj.1 (by omega)
                  clear hj
                  have g48 : a.tmps[48]? = some (.pointer (some ⟨ob, 1, none⟩)) := hh.did 0 _ 48 rfl rfl (by decide)
                  clear hh
                  refine wpOp_step rfl (fun K hK => ?_)
                  go_simp
                  exact hK _ _ ⟨by simp [Act.put], ⟨fun _ => rfl, by omega, by omega⟩⟩
                | 2, ho, hh, hj =>
                  simp only [List.getElem?_cons_succ, List.getElem?_cons_zero, Option.some.injEq] at ho
                  subst ho
                  obtain rfl : u = W := hj.1 (by omega)
                  clear hj
                  have g6 : a.tmps[6]? = some (.pointer (some ⟨ob, 0, none⟩)) := hh.old 6 (by kernel_rfl) rfl
                  clear hh
                  refine wpOp_step rfl (fun K hK => ?_)
                  go_simp
                  exact hK _ _ ⟨by simp [Act.put], ⟨fun _ => rfl, by omega, by omega⟩⟩
                | 3, ho, hh, hj =>
                  simp only [List.getElem?_cons_succ, List.getElem?_cons_zero, Option.some.injEq] at ho
                  subst ho
                  obtain rfl : u = W := hj.1 (by omega)
                  clear hj
                  have g50 : a.tmps[50]? = some (.pointer (some ⟨ob, 2, none⟩)) := hh.did 2 _ 50 rfl rfl (by decide)
                  clear hh
                  refine wpOp_step rfl (fun K hK => ?_)
                  go_simp
                  exact hK _ _ ⟨by simp [Act.put], ⟨fun _ => rfl, by omega, by omega⟩⟩
                | 4, ho, hh, hj =>
                  simp only [List.getElem?_cons_succ, List.getElem?_cons_zero, Option.some.injEq] at ho
                  subst ho
                  obtain rfl : u = W := hj.1 (by omega)
                  clear hj
                  have g6 : a.tmps[6]? = some (.pointer (some ⟨ob, 0, none⟩)) := hh.old 6 (by kernel_rfl) rfl
                  clear hh
                  refine wpOp_step rfl (fun K hK => ?_)
                  go_simp
                  exact hK _ _ ⟨by simp [Act.put], ⟨fun _ => rfl, by omega, by omega⟩⟩
                | 5, ho, hh, hj =>
                  simp only [List.getElem?_cons_succ, List.getElem?_cons_zero, Option.some.injEq] at ho
                  subst ho
                  obtain rfl : u = W := hj.1 (by omega)
                  clear hj
                  have g52 : a.tmps[52]? = some (.pointer (some ⟨ob, 3, none⟩)) := hh.did 4 _ 52 rfl rfl (by decide)
                  clear hh
                  refine wpOp_step rfl (fun K hK => ?_)
                  go_simp
                  exact hK _ _ ⟨by simp [Act.put], ⟨fun _ => rfl, by omega, by omega⟩⟩
                | 6, ho, hh, hj =>
                  simp only [List.getElem?_cons_succ, List.getElem?_cons_zero, Option.some.injEq] at ho
                  subst ho
                  obtain rfl : u = W := hj.1 (by omega)
                  clear hj
                  have g6 : a.tmps[6]? = some (.pointer (some ⟨ob, 0, none⟩)) := hh.old 6 (by kernel_rfl) rfl
                  clear hh
                  refine wpOp_step rfl (fun K hK => ?_)
                  go_simp
                  exact hK _ _ ⟨by simp [Act.put], ⟨fun _ => rfl, by omega, by omega⟩⟩
                | 7, ho, hh, hj =>
                  simp only [List.getElem?_cons_succ, List.getElem?_cons_zero, Option.some.injEq] at ho
                  subst ho
                  obtain rfl : u = W := hj.1 (by omega)
                  clear hj
                  have g54 : a.tmps[54]? = some (.pointer (some ⟨ob, 4, none⟩)) := hh.did 6 _ 54 rfl rfl (by decide)
                  clear hh
                  refine wpOp_step rfl (fun K hK => ?_)
                  go_simp
                  exact hK _ _ ⟨by simp [Act.put], ⟨fun _ => rfl, by omega, by omega⟩⟩
                | 8, ho, hh, hj =>
                  simp only [List.getElem?_cons_succ, List.getElem?_cons_zero, Option.some.injEq] at ho
                  subst ho
                  obtain rfl : u = W := hj.1 (by omega)
                  clear hj
                  have g6 : a.tmps[6]? = some (.pointer (some ⟨ob, 0, none⟩)) := hh.old 6 (by kernel_rfl) rfl
                  clear hh
                  refine wpOp_step rfl (fun K hK => ?_)
                  go_simp
                  exact hK _ _ ⟨by simp [Act.put], ⟨fun _ => rfl, by omega, by omega⟩⟩
                | 9, ho, hh, hj =>
                  simp only [List.getElem?_cons_succ, List.getElem?_cons_zero, Option.some.injEq] at ho
                  subst ho
                  obtain rfl : u = W := hj.1 (by omega)
                  clear hj
                  have g56 : a.tmps[56]? = some (.pointer (some ⟨ob, 4, none⟩)) := hh.did 8 _ 56 rfl rfl (by decide)
                  clear hh
                  refine wpOp_step rfl (fun K hK => ?_)
                  go_simp
                  exact hK _ _ ⟨by simp [Act.put], ⟨fun _ => rfl, by omega, by omega⟩⟩
                | 10, ho, hh, hj =>
                  simp only [List.getElem?_cons_succ, List.getElem?_cons_zero, Option.some.injEq] at ho
                  subst ho
                  obtain rfl : u = W := hj.1 (by omega)
                  clear hj
                  have g6 : a.tmps[6]? = some (.pointer (some ⟨ob, 0, none⟩)) := hh.old 6 (by kernel_rfl) rfl
                  clear hh
                  refine wpOp_step rfl (fun K hK => ?_)
                  go_simp
                  exact hK _ _ ⟨by simp [Act.put], ⟨fun _ => rfl, by omega, by omega⟩⟩
                | 11, ho, hh, hj =>
                  simp only [List.getElem?_cons_succ, List.getElem?_cons_zero, Option.some.injEq] at ho
                  subst ho
                  obtain rfl : u = W := hj.1 (by omega)
                  clear hj
                  have g58 : a.tmps[58]? = some (.pointer (some ⟨ob, 4, none⟩)) := hh.did 10 _ 58 rfl rfl (by decide)
                  clear hh
                  refine wpOp_step rfl (fun K hK => ?_)
                  go_simp
                  exact hK _ _ ⟨by simp [Act.put], ⟨fun _ => rfl, by omega, by omega⟩⟩
                | 12, ho, hh, hj =>
                  simp only [List.getElem?_cons_succ, List.getElem?_cons_zero, Option.some.injEq] at ho
                  subst ho
                  obtain rfl : u = W := hj.1 (by omega)
                  clear hj
                  have g6 : a.tmps[6]? = some (.pointer (some ⟨ob, 0, none⟩)) := hh.old 6 (by kernel_rfl) rfl
                  clear hh
                  refine wpOp_step rfl (fun K hK => ?_)
                  go_simp
                  exact hK _ _ ⟨by simp [Act.put], ⟨fun _ => rfl, by omega, by omega⟩⟩
                | 13, ho, hh, hj =>
                  simp only [List.getElem?_cons_succ, List.getElem?_cons_zero, Option.some.injEq] at ho
                  subst ho
                  obtain rfl : u = W := hj.1 (by omega)
                  clear hj
                  have g60 : a.tmps[60]? = some (.pointer (some ⟨ob, 5, none⟩)) := hh.did 12 _ 60 rfl rfl (by decide)
                  clear hh
                  refine wpOp_step rfl (fun K hK => ?_)
                  go_simp
                  exact hK _ _ ⟨by simp [Act.put], ⟨fun _ => rfl, by omega, by omega⟩⟩
                | 14, ho, hh, hj =>
                  simp only [List.getElem?_cons_succ, List.getElem?_cons_zero, Option.some.injEq] at ho
                  subst ho
                  obtain rfl : u = W := hj.1 (by omega)
                  clear hj
                  have g49 : a.tmps[49]? = some (.int .i64 ot) := hh.did 1 _ 49 rfl rfl (by decide)
                  have g51 : a.tmps[51]? = some (.int .i64 of) := hh.did 3 _ 51 rfl rfl (by decide)
                  have g53 : a.tmps[53]? = some (.int .i64 os) := hh.did 5 _ 53 rfl rfl (by decide)
                  have g55 : a.tmps[55]? = some (.int .i64 oa) := hh.did 7 _ 55 rfl rfl (by decide)
                  have g57 : a.tmps[57]? = some (.int .i64 oa) := hh.did 9 _ 57 rfl rfl (by decide)
                  have g59 : a.tmps[59]? = some (.int .i64 oa) := hh.did 11 _ 59 rfl rfl (by decide)
                  have g61 : a.tmps[61]? = some (.slice ol N0.length oc) := hh.did 13 _ 61 rfl rfl (by decide)
                  clear hh
                  have e49 : a.eval (.tmp 49) = (.int .i64 ot) := by simp [Act.eval, g49]
                  have e51 : a.eval (.tmp 51) = (.int .i64 of) := by simp [Act.eval, g51]
                  have e53 : a.eval (.tmp 53) = (.int .i64 os) := by simp [Act.eval, g53]
                  have e55 : a.eval (.tmp 55) = (.int .i64 oa) := by simp [Act.eval, g55]
                  have e57 : a.eval (.tmp 57) = (.int .i64 oa) := by simp [Act.eval, g57]
                  have e59 : a.eval (.tmp 59) = (.int .i64 oa) := by simp [Act.eval, g59]
                  have e61 : a.eval (.tmp 61) = (.slice ol N0.length oc) := by simp [Act.eval, g61]
                  refine wpOp_step rfl (fun K hK => ?_)
                  simp only [Region.wanted]
                  refine wp_build_to 35 _ rfl #[.int .i64 ot, .int .i64 of, .int .i64 os, .int .i64 oa, .int .i64 oa, .int .i64 oa, .slice ol N0.length oc] ?_ (hK _ _ ⟨rfl, ⟨fun _ => rfl, by omega, by omega⟩⟩)
                  simp only [List.map_toArray, List.map_cons, List.map_nil, e49, e51, e53, e55, e57, e59, e61]
                  kernel_rfl
                | 15, ho, hh, hj =>
                  simp only [List.getElem?_cons_succ, List.getElem?_cons_zero, Option.some.injEq] at ho
                  subst ho
                  obtain rfl : u = W := hj.1 (by omega)
                  clear hj
                  clear hh
                  refine wpOp_step rfl (fun K hK => ?_)
                  go_simp
                  exact hK _ _ ⟨by simp [Act.put], ⟨by omega, fun _ => rfl, by omega⟩⟩
                | 16, ho, hh, hj =>
                  simp only [List.getElem?_cons_succ, List.getElem?_cons_zero, Option.some.injEq] at ho
                  subst ho
                  obtain rfl := hj.2.1 rfl
                  clear hj
                  have g8 : a.tmps[8]? = some (.pointer (some ⟨W.heap.size, 0, none⟩)) := hh.did 15 _ 8 rfl rfl (by decide)
                  have g62 : a.tmps[62]? = some (.agg #[.int .i64 ot, .int .i64 of, .int .i64 os, .int .i64 oa, .int .i64 oa, .int .i64 oa, .slice ol N0.length oc]) := hh.did 14 _ 62 rfl rfl (by decide)
                  clear hh
                  have e8 : a.eval (.tmp 8) = (.pointer (some ⟨W.heap.size, 0, none⟩)) := by simp [Act.eval, g8]
                  have e62 : a.eval (.tmp 62) = (.agg #[.int .i64 ot, .int .i64 of, .int .i64 os, .int .i64 oa, .int .i64 oa, .int .i64 oa, .slice ol N0.length oc]) := by simp [Act.eval, g62]
                  refine wpOp_step rfl (fun K hK => ?_)
                  simp only [Region.wanted]
                  exact wp_store_new 35 (.tmp 8) (.tmp 62) rfl [.int .i64 ot, .int .i64 of, .int .i64 os, .int .i64 oa, .int .i64 oa, .int .i64 oa, .slice ol N0.length oc] e8 e62 (by kernel_rfl) rfl (by kernel_rfl) (fun w2 h1 h2 => hK _ _ ⟨rfl, by omega, by omega, fun _ => ⟨h1, h2⟩⟩)
                | k + 17, ho, _, _ => simp at ho
              intro W2 hj
              obtain ⟨RB0, k2⟩ := hj.2.2 rfl
              clear hj
              simp only [List.getD_cons_succ, List.getD_cons_zero]
              have HW2 : Tw w W2 b v E b' v' nv R N ob W.heap.size := HW.out.beside k2 (.inr rfl) (.inl (Nat.le_refl _)) (Nat.lt_of_lt_of_le HW.out.lt.1 k2.size) RB0.lt
              have BO2 := BO.out.kept k2
              clear b0 b1 b2 b3 b4 b5 BO HW
              generalize W.heap.size = rb at *
              have HW : Hid (Tw w W2 b v E b' v' nv R N ob rb) := HW2
              have BO : Hid (Own W2 ob 33 [.int .i64 ok, .int .i64 ot, .int .i64 of, .int .i64 os, .int .i64 oa, .slice ol N0.length oc]) := BO2
              have RBO : Hid (Own W2 rb 35 [.int .i64 ot, .int .i64 of, .int .i64 os, .int .i64 oa, .int .i64 oa, .int .i64 oa, .slice ol N0.length oc]) := RB0
              clear HW2 BO2 RB0 k2
              go_wp2_with fail
              refine wp_region_phase [(.pointer (some ⟨b, 0, none⟩)), (.agg #[.int .i64 ot, .int .i64 of, .int .i64 os, .int .i64 oa, .int .i64 oa, .int .i64 oa, .slice ol N0.length oc]), (.bool fit), (.pointer (some ⟨b', 0, none⟩)), (.agg #[.int .i64 ot, .int .i64 of, .int .i64 os, .int .i64 oa, .int .i64 oa, .int .i64 oa, .slice ol N0.length oc]), (.bool fit), (.bool true), (.bool true)] [(7, 7), (63, 0), (64, 1), (65, 2), (66, 3), (67, 4), (68, 5), (69, 6)] [_, _, _, _, _, _, _, _, _, _, _, _, _, _, _, _, _, _, _, _, _, _, _, _, _, _, _, _, _, _, _, _, _, _, _, _, _, _, _, _, _, _, _, _, _, _, _, _, _, _, _, _, _, _, _, _, _, _, _, _, _, _, _, _, _, _, _, _, _, _, _, _, _, _, _, _, _, _, _, _, _, _, _, _, _, _, _, _, _, _, _, _, _, _, _, _, _, _, _, _, _, _, _, _, _, _, _, _, _, _, _, _, _, _, _, _, _, _, _, _, _, _, _, _, _, _, _, _, _, _, _, _, _, _, _, _, _, _, _, _, _, _, _, _, _, _, _, _, _, _, _, _, _, _, _, _, _, _, _, _, _, _, _, _, _, _, _, _, _, _, _] (fun d u => PJ w u b b' E R N P1 P2 ob rb [.int .i64 ok, .int .i64 ot, .int .i64 of, .int .i64 os, .int .i64 oa, .slice ol N0.length oc] 35 [.int .i64 ot, .int .i64 of, .int .i64 os, .int .i64 oa, .int .i64 oa, .int .i64 oa, .slice ol N0.length oc] 2 5 d) (by kernel_rfl) (by kernel_rfl) (by kernel_rfl) (by kernel_rfl) rfl ?_ ?_ ?_
              · exact ⟨BO.out.kept (Kept.refl _).drew, RBO.out.kept (Kept.refl _).drew, v, E, v', nv, R, N, HW.out.still (Kept.refl _).drew, by simp, by simp⟩
              · intro k o ho a d u hh hj hi hd
                match k, ho, hi, hd with
                | 0, ho, hi, hd =>
                  simp only [List.getElem?_cons_zero, Option.some.injEq] at ho
                  subst ho
                  have g3 : a.tmps[3]? = some (.pointer (some ⟨b, 0, none⟩)) := hh.old 3 (by kernel_rfl) rfl
                  clear hh hd
                  have HN : Hid (PJ w u b b' E R N P1 P2 ob rb [.int .i64 ok, .int .i64 ot, .int .i64 of, .int .i64 os, .int .i64 oa, .slice ol N0.length oc] 35 [.int .i64 ot, .int .i64 of, .int .i64 os, .int .i64 oa, .int .i64 oa, .int .i64 oa, .slice ol N0.length oc] 2 5 (done d 0)) := hj.plain 0 (by decide) (by decide)
                  clear hj hi
                  refine wpOp_step rfl (fun K hK => ?_)
                  go_simp
                  exact hK _ _ ⟨by simp [Act.put], HN.out⟩
                | 1, ho, hi, hd =>
                  simp only [List.getElem?_cons_succ, List.getElem?_cons_zero, Option.some.injEq] at ho
                  subst ho
                  have g8 : a.tmps[8]? = some (.pointer (some ⟨rb, 0, none⟩)) := hh.old 8 (by kernel_rfl) rfl
                  have cc0 := hj.rwn.blk.at 0 rfl
                  have cc1 := hj.rwn.blk.at 1 rfl
                  have cc2 := hj.rwn.blk.at 2 rfl
                  have cc3 := hj.rwn.blk.at 3 rfl
                  have cc4 := hj.rwn.blk.at 4 rfl
                  have cc5 := hj.rwn.blk.at 5 rfl
                  have cc6 := hj.rwn.blk.at 6 rfl
                  clear hh hd
                  have HN : Hid (PJ w u b b' E R N P1 P2 ob rb [.int .i64 ok, .int .i64 ot, .int .i64 of, .int .i64 os, .int .i64 oa, .slice ol N0.length oc] 35 [.int .i64 ot, .int .i64 of, .int .i64 os, .int .i64 oa, .int .i64 oa, .int .i64 oa, .slice ol N0.length oc] 2 5 (done d 1)) := hj.plain 1 (by decide) (by decide)
                  clear hj hi
                  refine wpOp_step rfl (fun K hK => ?_)
                  go_simp
                  exact hK _ _ ⟨by simp [Act.put], HN.out⟩
                | 2, ho, hi, hd =>
                  simp only [List.getElem?_cons_succ, List.getElem?_cons_zero, Option.some.injEq] at ho
                  subst ho
                  have g63 : a.tmps[63]? = some (.pointer (some ⟨b, 0, none⟩)) := hh.did 0 _ 63 rfl rfl (hd { on := 0, ground := .data } (by simp) rfl)
                  have g64 : a.tmps[64]? = some (.agg #[.int .i64 ot, .int .i64 of, .int .i64 os, .int .i64 oa, .int .i64 oa, .int .i64 oa, .slice ol N0.length oc]) := hh.did 1 _ 64 rfl rfl (hd { on := 1, ground := .data } (by simp) rfl)
                  clear hh hd
                  obtain ⟨v1, t1, kp1, nx⟩ := hj.call1 (by decide) hi
                  have CA := CL.out u v1 t1 kp1
                  have HNx : Hid _ := nx
                  clear hj hi t1 kp1 nx
                  refine wpOp_step rfl (fun K hK => ?_)
                  go_simp
                  refine CA.mono ?_
                  rintro e u2 ⟨rfl, v2, E2, t2, p, m, f⟩
                  exact hK _ _ ⟨by simp [Act.put], HNx.out u2 v2 E2 t2 p m f⟩
                | 3, ho, hi, hd =>
                  simp only [List.getElem?_cons_succ, List.getElem?_cons_zero, Option.some.injEq] at ho
                  subst ho
                  have g4 : a.tmps[4]? = some (.pointer (some ⟨b', 0, none⟩)) := hh.old 4 (by kernel_rfl) rfl
                  clear hh hd
                  have HN : Hid (PJ w u b b' E R N P1 P2 ob rb [.int .i64 ok, .int .i64 ot, .int .i64 of, .int .i64 os, .int .i64 oa, .slice ol N0.length oc] 35 [.int .i64 ot, .int .i64 of, .int .i64 os, .int .i64 oa, .int .i64 oa, .int .i64 oa, .slice ol N0.length oc] 2 5 (done d 3)) := hj.plain 3 (by decide) (by decide)
                  clear hj hi
                  refine wpOp_step rfl (fun K hK => ?_)
                  go_simp
                  exact hK _ _ ⟨by simp [Act.put], HN.out⟩
                | 4, ho, hi, hd =>
                  simp only [List.getElem?_cons_succ, List.getElem?_cons_zero, Option.some.injEq] at ho
                  subst ho
                  have g8 : a.tmps[8]? = some (.pointer (some ⟨rb, 0, none⟩)) := hh.old 8 (by kernel_rfl) rfl
                  have cc0 := hj.rwn.blk.at 0 rfl
                  have cc1 := hj.rwn.blk.at 1 rfl
                  have cc2 := hj.rwn.blk.at 2 rfl
                  have cc3 := hj.rwn.blk.at 3 rfl
                  have cc4 := hj.rwn.blk.at 4 rfl
                  have cc5 := hj.rwn.blk.at 5 rfl
                  have cc6 := hj.rwn.blk.at 6 rfl
                  clear hh hd
                  have HN : Hid (PJ w u b b' E R N P1 P2 ob rb [.int .i64 ok, .int .i64 ot, .int .i64 of, .int .i64 os, .int .i64 oa, .slice ol N0.length oc] 35 [.int .i64 ot, .int .i64 of, .int .i64 os, .int .i64 oa, .int .i64 oa, .int .i64 oa, .slice ol N0.length oc] 2 5 (done d 4)) := hj.plain 4 (by decide) (by decide)
                  clear hj hi
                  refine wpOp_step rfl (fun K hK => ?_)
                  go_simp
                  exact hK _ _ ⟨by simp [Act.put], HN.out⟩
                | 5, ho, hi, hd =>
                  simp only [List.getElem?_cons_succ, List.getElem?_cons_zero, Option.some.injEq] at ho
                  subst ho
                  have g66 : a.tmps[66]? = some (.pointer (some ⟨b', 0, none⟩)) := hh.did 3 _ 66 rfl rfl (hd { on := 3, ground := .data } (by simp) rfl)
                  have g67 : a.tmps[67]? = some (.agg #[.int .i64 ot, .int .i64 of, .int .i64 os, .int .i64 oa, .int .i64 oa, .int .i64 oa, .slice ol N0.length oc]) := hh.did 4 _ 67 rfl rfl (hd { on := 4, ground := .data } (by simp) rfl)
                  clear hh hd
                  obtain ⟨v1, n1, t1, kp1, nx⟩ := hj.call2 (by decide) hi
                  have CA := CR.out u v1 n1 t1 kp1
                  have HNx : Hid _ := nx
                  clear hj hi t1 kp1 nx
                  refine wpOp_step rfl (fun K hK => ?_)
                  go_simp
                  refine CA.mono ?_
                  rintro e u2 ⟨rfl, v2, n2, R2, N2, t2, p, m, f⟩
                  exact hK _ _ ⟨by simp [Act.put], HNx.out u2 v2 n2 R2 N2 t2 p m f⟩
                | 6, ho, hi, hd =>
                  simp only [List.getElem?_cons_succ, List.getElem?_cons_zero, Option.some.injEq] at ho
                  subst ho
                  have g65 : a.tmps[65]? = some (.bool fit) := hh.did 2 _ 65 rfl rfl (hd { on := 2, ground := .data } (by simp) rfl)
                  have g68 : a.tmps[68]? = some (.bool fit) := hh.did 5 _ 68 rfl rfl (hd { on := 5, ground := .data } (by simp) rfl)
                  have zz : (fit == fit) = true := by simp
                  clear hh hd
                  have HN : Hid (PJ w u b b' E R N P1 P2 ob rb [.int .i64 ok, .int .i64 ot, .int .i64 of, .int .i64 os, .int .i64 oa, .slice ol N0.length oc] 35 [.int .i64 ot, .int .i64 of, .int .i64 os, .int .i64 oa, .int .i64 oa, .int .i64 oa, .slice ol N0.length oc] 2 5 (done d 6)) := hj.plain 6 (by decide) (by decide)
                  clear hj hi
                  refine wpOp_step rfl (fun K hK => ?_)
                  go_simp
                  exact hK _ _ ⟨by simp [Act.put], HN.out⟩
                | 7, ho, hi, hd =>
                  simp only [List.getElem?_cons_succ, List.getElem?_cons_zero, Option.some.injEq] at ho
                  subst ho
                  have g69 : a.tmps[69]? = some (.bool true) := hh.did 6 _ 69 rfl rfl (hd { on := 6, ground := .data } (by simp) rfl)
                  clear hh hd
                  have HN : Hid (PJ w u b b' E R N P1 P2 ob rb [.int .i64 ok, .int .i64 ot, .int .i64 of, .int .i64 os, .int .i64 oa, .slice ol N0.length oc] 35 [.int .i64 ot, .int .i64 of, .int .i64 os, .int .i64 oa, .int .i64 oa, .int .i64 oa, .slice ol N0.length oc] 2 5 (done d 7)) := hj.plain 7 (by decide) (by decide)
                  clear hj hi
                  refine wpOp_step rfl (fun K hK => ?_)
                  go_simp
                  exact hK _ _ ⟨by simp [Act.put], HN.out⟩
                | k + 8, ho, _, _ => simp at ho
              · intro u d hall hj
                obtain ⟨v2, E2, v3, n3, R3, N3, t, q1, q2⟩ := hj.two
                rw [hall 2 (by decide)] at q1
                rw [hall 5 (by decide)] at q2
                have HE : Hid (Tw w u b v2 E2 b' v3 n3 R3 N3 ob ob ∧ Rel E2 R3 N3 (j + 1) ∧ Own u ob 33 [.int .i64 ok, .int .i64 ot, .int .i64 of, .int .i64 os, .int .i64 oa, .slice ol N0.length oc]) := ⟨t.back, HREL.out E2 R3 N3 q1 q2, hj.own⟩
                clear hall hj t q1 q2
                simp only [List.getD_cons_succ, List.getD_cons_zero]
                go_wp2
                go_meet
                case rel => exact ⟨rfl, v2, E2, v3, n3, R3, N3, HE.out⟩
          · have h0' : (ok == 0) = false := by simpa using h0
            clear h0
            by_cases h1 : ok = 1
            · have h1' : (ok == 1) = true := by simpa using h1
              clear h1
              as_aux_lemma =>
                obtain ⟨fit, P1, P2, cl, cr, hrel⟩ := grant_both (w := w) (b := b) (b' := b') HP.out oc oa HRX.out.1 HRX.out.2
                have CL : Hid (CallsL w b E P1 fit 12 #[.pointer (some ⟨b, 0, none⟩), .slice ol N0.length oc, .int .i64 oa]) := cl
                have CR : Hid (CallsR w b' R N P2 fit 13 #[.pointer (some ⟨b', 0, none⟩), .slice ol N0.length oc, .int .i64 oa]) := cr
                have HREL : Hid (∀ E' R' N', P1 E' → P2 R' N' → Rel E' R' N' (j + 1)) := hrel
                clear cl cr hrel
                have RBO : Hid (Own W ob 33 [.int .i64 ok, .int .i64 ot, .int .i64 of, .int .i64 os, .int .i64 oa, .slice ol N0.length oc]) := BO.out
                clear b0
                go_upto_region 16 with fail
                refine wp_region_phase [(.pointer (some ⟨b, 0, none⟩)), (.pointer (some ⟨ob, 5, none⟩)), (.slice ol N0.length oc), (.pointer (some ⟨ob, 4, none⟩)), (.int .i64 oa), (.bool fit), (.pointer (some ⟨b', 0, none⟩)), (.pointer (some ⟨ob, 5, none⟩)), (.slice ol N0.length oc), (.pointer (some ⟨ob, 4, none⟩)), (.int .i64 oa), (.bool fit), (.bool true), (.bool true)] [(7, 13), (72, 0), (73, 1), (74, 2), (75, 3), (76, 4), (77, 5), (78, 6), (79, 7), (80, 8), (81, 9), (82, 10), (83, 11), (84, 12)] [_, _, _, _, _, _, _, _, _, _, _, _, _, _, _, _, _, _, _, _, _, _, _, _, _, _, _, _, _, _, _, _, _, _, _, _, _, _, _, _, _, _, _, _, _, _, _, _, _, _, _, _, _, _, _, _, _, _, _, _, _, _, _, _, _, _, _, _, _, _, _, _, _, _, _, _, _, _, _, _, _, _, _, _, _, _, _, _, _, _, _, _, _, _, _, _, _, _, _, _, _, _, _, _, _, _, _, _, _, _, _, _, _, _, _, _, _, _, _, _, _, _, _, _, _, _, _, _, _, _, _, _, _, _, _, _, _, _, _, _, _, _, _, _, _, _, _, _, _, _, _, _, _, _, _, _, _, _, _, _, _, _, _, _, _, _, _, _, _, _, _] (fun d u => PJ w u b b' E R N P1 P2 ob ob [.int .i64 ok, .int .i64 ot, .int .i64 of, .int .i64 os, .int .i64 oa, .slice ol N0.length oc] 33 [.int .i64 ok, .int .i64 ot, .int .i64 of, .int .i64 os, .int .i64 oa, .slice ol N0.length oc] 5 11 d) (by kernel_rfl) (by kernel_rfl) (by kernel_rfl) (by kernel_rfl) rfl ?_ ?_ ?_
                · exact ⟨BO.out.kept (Kept.refl _).drew, RBO.out.kept (Kept.refl _).drew, v, E, v', nv, R, N, HW.out.still (Kept.refl _).drew, by simp, by simp⟩
                · intro k o ho a d u hh hj hi hd
                  match k, ho, hi, hd with
                  | 0, ho, hi, hd =>
                    simp only [List.getElem?_cons_zero, Option.some.injEq] at ho
                    subst ho
                    have g3 : a.tmps[3]? = some (.pointer (some ⟨b, 0, none⟩)) := hh.old 3 (by kernel_rfl) rfl
                    clear hh hd
                    have HN : Hid (PJ w u b b' E R N P1 P2 ob ob [.int .i64 ok, .int .i64 ot, .int .i64 of, .int .i64 os, .int .i64 oa, .slice ol N0.length oc] 33 [.int .i64 ok, .int .i64 ot, .int .i64 of, .int .i64 os, .int .i64 oa, .slice ol N0.length oc] 5 11 (done d 0)) := hj.plain 0 (by decide) (by decide)
                    clear hj hi
                    refine wpOp_step rfl (fun K hK => ?_)
                    go_simp
                    exact hK _ _ ⟨by simp [Act.put], HN.out⟩
                  | 1, ho, hi, hd =>
                    simp only [List.getElem?_cons_succ, List.getElem?_cons_zero, Option.some.injEq] at ho
                    subst ho
                    have g6 : a.tmps[6]? = some (.pointer (some ⟨ob, 0, none⟩)) := hh.old 6 (by kernel_rfl) rfl
                    clear hh hd
                    have HN : Hid (PJ w u b b' E R N P1 P2 ob ob [.int .i64 ok, .int .i64 ot, .int .i64 of, .int .i64 os, .int .i64 oa, .slice ol N0.length oc] 33 [.int .i64 ok, .int .i64 ot, .int .i64 of, .int .i64 os, .int .i64 oa, .slice ol N0.length oc] 5 11 (done d 1)) := hj.plain 1 (by decide) (by decide)
                    clear hj hi
                    refine wpOp_step rfl (fun K hK => ?_)
                    go_simp
                    exact hK _ _ ⟨by simp [Act.put], HN.out⟩
                  | 2, ho, hi, hd =>
                    simp only [List.getElem?_cons_succ, List.getElem?_cons_zero, Option.some.injEq] at ho
                    subst ho
                    have g73 : a.tmps[73]? = some (.pointer (some ⟨ob, 5, none⟩)) := hh.did 1 _ 73 rfl rfl (hd { on := 1, ground := .data } (by simp) rfl)
                    have cc := hj.own.blk.at 5 rfl
                    clear hh hd
                    have HN : Hid (PJ w u b b' E R N P1 P2 ob ob [.int .i64 ok, .int .i64 ot, .int .i64 of, .int .i64 os, .int .i64 oa, .slice ol N0.length oc] 33 [.int .i64 ok, .int .i64 ot, .int .i64 of, .int .i64 os, .int .i64 oa, .slice ol N0.length oc] 5 11 (done d 2)) := hj.plain 2 (by decide) (by decide)
                    clear hj hi
                    refine wpOp_step rfl (fun K hK => ?_)
                    go_simp
                    exact hK _ _ ⟨by simp [Act.put], HN.out⟩
                  | 3, ho, hi, hd =>
                    simp only [List.getElem?_cons_succ, List.getElem?_cons_zero, Option.some.injEq] at ho
                    subst ho
                    have g6 : a.tmps[6]? = some (.pointer (some ⟨ob, 0, none⟩)) := hh.old 6 (by kernel_rfl) rfl
                    clear hh hd
                    have HN : Hid (PJ w u b b' E R N P1 P2 ob ob [.int .i64 ok, .int .i64 ot, .int .i64 of, .int .i64 os, .int .i64 oa, .slice ol N0.length oc] 33 [.int .i64 ok, .int .i64 ot, .int .i64 of, .int .i64 os, .int .i64 oa, .slice ol N0.length oc] 5 11 (done d 3)) := hj.plain 3 (by decide) (by decide)
                    clear hj hi
                    refine wpOp_step rfl (fun K hK => ?_)
                    go_simp
                    exact hK _ _ ⟨by simp [Act.put], HN.out⟩
                  | 4, ho, hi, hd =>
                    simp only [List.getElem?_cons_succ, List.getElem?_cons_zero, Option.some.injEq] at ho
                    subst ho
                    have g75 : a.tmps[75]? = some (.pointer (some ⟨ob, 4, none⟩)) := hh.did 3 _ 75 rfl rfl (hd { on := 3, ground := .data } (by simp) rfl)
                    have cc := hj.own.blk.at 4 rfl
                    clear hh hd
                    have HN : Hid (PJ w u b b' E R N P1 P2 ob ob [.int .i64 ok, .int .i64 ot, .int .i64 of, .int .i64 os, .int .i64 oa, .slice ol N0.length oc] 33 [.int .i64 ok, .int .i64 ot, .int .i64 of, .int .i64 os, .int .i64 oa, .slice ol N0.length oc] 5 11 (done d 4)) := hj.plain 4 (by decide) (by decide)
                    clear hj hi
                    refine wpOp_step rfl (fun K hK => ?_)
                    go_simp
                    exact hK _ _ ⟨by simp [Act.put], HN.out⟩
                  | 5, ho, hi, hd =>
                    simp only [List.getElem?_cons_succ, List.getElem?_cons_zero, Option.some.injEq] at ho
                    subst ho
                    have g72 : a.tmps[72]? = some (.pointer (some ⟨b, 0, none⟩)) := hh.did 0 _ 72 rfl rfl (hd { on := 0, ground := .data } (by simp) rfl)
                    have g74 : a.tmps[74]? = some (.slice ol N0.length oc) := hh.did 2 _ 74 rfl rfl (hd { on := 2, ground := .data } (by simp) rfl)
                    have g76 : a.tmps[76]? = some (.int .i64 oa) := hh.did 4 _ 76 rfl rfl (hd { on := 4, ground := .data } (by simp) rfl)
                    clear hh hd
                    obtain ⟨v1, t1, kp1, nx⟩ := hj.call1 (by decide) hi
                    have CA := CL.out u v1 t1 kp1
                    have HNx : Hid _ := nx
                    clear hj hi t1 kp1 nx
                    refine wpOp_step rfl (fun K hK => ?_)
                    go_simp
                    refine CA.mono ?_
                    rintro e u2 ⟨rfl, v2, E2, t2, p, m, f⟩
                    exact hK _ _ ⟨by simp [Act.put], HNx.out u2 v2 E2 t2 p m f⟩
                  | 6, ho, hi, hd =>
                    simp only [List.getElem?_cons_succ, List.getElem?_cons_zero, Option.some.injEq] at ho
                    subst ho
                    have g4 : a.tmps[4]? = some (.pointer (some ⟨b', 0, none⟩)) := hh.old 4 (by kernel_rfl) rfl
                    clear hh hd
                    have HN : Hid (PJ w u b b' E R N P1 P2 ob ob [.int .i64 ok, .int .i64 ot, .int .i64 of, .int .i64 os, .int .i64 oa, .slice ol N0.length oc] 33 [.int .i64 ok, .int .i64 ot, .int .i64 of, .int .i64 os, .int .i64 oa, .slice ol N0.length oc] 5 11 (done d 6)) := hj.plain 6 (by decide) (by decide)
                    clear hj hi
                    refine wpOp_step rfl (fun K hK => ?_)
                    go_simp
                    exact hK _ _ ⟨by simp [Act.put], HN.out⟩
                  | 7, ho, hi, hd =>
                    simp only [List.getElem?_cons_succ, List.getElem?_cons_zero, Option.some.injEq] at ho
                    subst ho
                    have g6 : a.tmps[6]? = some (.pointer (some ⟨ob, 0, none⟩)) := hh.old 6 (by kernel_rfl) rfl
                    clear hh hd
                    have HN : Hid (PJ w u b b' E R N P1 P2 ob ob [.int .i64 ok, .int .i64 ot, .int .i64 of, .int .i64 os, .int .i64 oa, .slice ol N0.length oc] 33 [.int .i64 ok, .int .i64 ot, .int .i64 of, .int .i64 os, .int .i64 oa, .slice ol N0.length oc] 5 11 (done d 7)) := hj.plain 7 (by decide) (by decide)
                    clear hj hi
                    refine wpOp_step rfl (fun K hK => ?_)
                    go_simp
                    exact hK _ _ ⟨by simp [Act.put], HN.out⟩
                  | 8, ho, hi, hd =>
                    simp only [List.getElem?_cons_succ, List.getElem?_cons_zero, Option.some.injEq] at ho
                    subst ho
                    have g79 : a.tmps[79]? = some (.pointer (some ⟨ob, 5, none⟩)) := hh.did 7 _ 79 rfl rfl (hd { on := 7, ground := .data } (by simp) rfl)
                    have cc := hj.own.blk.at 5 rfl
                    clear hh hd
                    have HN : Hid (PJ w u b b' E R N P1 P2 ob ob [.int .i64 ok, .int .i64 ot, .int .i64 of, .int .i64 os, .int .i64 oa, .slice ol N0.length oc] 33 [.int .i64 ok, .int .i64 ot, .int .i64 of, .int .i64 os, .int .i64 oa, .slice ol N0.length oc] 5 11 (done d 8)) := hj.plain 8 (by decide) (by decide)
                    clear hj hi
                    refine wpOp_step rfl (fun K hK => ?_)
                    go_simp
                    exact hK _ _ ⟨by simp [Act.put], HN.out⟩
                  | 9, ho, hi, hd =>
                    simp only [List.getElem?_cons_succ, List.getElem?_cons_zero, Option.some.injEq] at ho
                    subst ho
                    have g6 : a.tmps[6]? = some (.pointer (some ⟨ob, 0, none⟩)) := hh.old 6 (by kernel_rfl) rfl
                    clear hh hd
                    have HN : Hid (PJ w u b b' E R N P1 P2 ob ob [.int .i64 ok, .int .i64 ot, .int .i64 of, .int .i64 os, .int .i64 oa, .slice ol N0.length oc] 33 [.int .i64 ok, .int .i64 ot, .int .i64 of, .int .i64 os, .int .i64 oa, .slice ol N0.length oc] 5 11 (done d 9)) := hj.plain 9 (by decide) (by decide)
                    clear hj hi
                    refine wpOp_step rfl (fun K hK => ?_)
                    go_simp
                    exact hK _ _ ⟨by simp [Act.put], HN.out⟩
                  | 10, ho, hi, hd =>
                    simp only [List.getElem?_cons_succ, List.getElem?_cons_zero, Option.some.injEq] at ho
                    subst ho
                    have g81 : a.tmps[81]? = some (.pointer (some ⟨ob, 4, none⟩)) := hh.did 9 _ 81 rfl rfl (hd { on := 9, ground := .data } (by simp) rfl)
                    have cc := hj.own.blk.at 4 rfl
                    clear hh hd
                    have HN : Hid (PJ w u b b' E R N P1 P2 ob ob [.int .i64 ok, .int .i64 ot, .int .i64 of, .int .i64 os, .int .i64 oa, .slice ol N0.length oc] 33 [.int .i64 ok, .int .i64 ot, .int .i64 of, .int .i64 os, .int .i64 oa, .slice ol N0.length oc] 5 11 (done d 10)) := hj.plain 10 (by decide) (by decide)
                    clear hj hi
                    refine wpOp_step rfl (fun K hK => ?_)
                    go_simp
                    exact hK _ _ ⟨by simp [Act.put], HN.out⟩
                  | 11, ho, hi, hd =>
                    simp only [List.getElem?_cons_succ, List.getElem?_cons_zero, Option.some.injEq] at ho
                    subst ho
                    have g78 : a.tmps[78]? = some (.pointer (some ⟨b', 0, none⟩)) := hh.did 6 _ 78 rfl rfl (hd { on := 6, ground := .data } (by simp) rfl)
                    have g80 : a.tmps[80]? = some (.slice ol N0.length oc) := hh.did 8 _ 80 rfl rfl (hd { on := 8, ground := .data } (by simp) rfl)
                    have g82 : a.tmps[82]? = some (.int .i64 oa) := hh.did 10 _ 82 rfl rfl (hd { on := 10, ground := .data } (by simp) rfl)
                    clear hh hd
                    obtain ⟨v1, n1, t1, kp1, nx⟩ := hj.call2 (by decide) hi
                    have CA := CR.out u v1 n1 t1 kp1
                    have HNx : Hid _ := nx
                    clear hj hi t1 kp1 nx
                    refine wpOp_step rfl (fun K hK => ?_)
                    go_simp
                    refine CA.mono ?_
                    rintro e u2 ⟨rfl, v2, n2, R2, N2, t2, p, m, f⟩
                    exact hK _ _ ⟨by simp [Act.put], HNx.out u2 v2 n2 R2 N2 t2 p m f⟩
                  | 12, ho, hi, hd =>
                    simp only [List.getElem?_cons_succ, List.getElem?_cons_zero, Option.some.injEq] at ho
                    subst ho
                    have g77 : a.tmps[77]? = some (.bool fit) := hh.did 5 _ 77 rfl rfl (hd { on := 5, ground := .data } (by simp) rfl)
                    have g83 : a.tmps[83]? = some (.bool fit) := hh.did 11 _ 83 rfl rfl (hd { on := 11, ground := .data } (by simp) rfl)
                    have zz : (fit == fit) = true := by simp
                    clear hh hd
                    have HN : Hid (PJ w u b b' E R N P1 P2 ob ob [.int .i64 ok, .int .i64 ot, .int .i64 of, .int .i64 os, .int .i64 oa, .slice ol N0.length oc] 33 [.int .i64 ok, .int .i64 ot, .int .i64 of, .int .i64 os, .int .i64 oa, .slice ol N0.length oc] 5 11 (done d 12)) := hj.plain 12 (by decide) (by decide)
                    clear hj hi
                    refine wpOp_step rfl (fun K hK => ?_)
                    go_simp
                    exact hK _ _ ⟨by simp [Act.put], HN.out⟩
                  | 13, ho, hi, hd =>
                    simp only [List.getElem?_cons_succ, List.getElem?_cons_zero, Option.some.injEq] at ho
                    subst ho
                    have g84 : a.tmps[84]? = some (.bool true) := hh.did 12 _ 84 rfl rfl (hd { on := 12, ground := .data } (by simp) rfl)
                    clear hh hd
                    have HN : Hid (PJ w u b b' E R N P1 P2 ob ob [.int .i64 ok, .int .i64 ot, .int .i64 of, .int .i64 os, .int .i64 oa, .slice ol N0.length oc] 33 [.int .i64 ok, .int .i64 ot, .int .i64 of, .int .i64 os, .int .i64 oa, .slice ol N0.length oc] 5 11 (done d 13)) := hj.plain 13 (by decide) (by decide)
                    clear hj hi
                    refine wpOp_step rfl (fun K hK => ?_)
                    go_simp
                    exact hK _ _ ⟨by simp [Act.put], HN.out⟩
                  | k + 14, ho, _, _ => simp at ho
                · intro u d hall hj
                  obtain ⟨v2, E2, v3, n3, R3, N3, t, q1, q2⟩ := hj.two
                  rw [hall 5 (by decide)] at q1
                  rw [hall 11 (by decide)] at q2
                  have HE : Hid (Tw w u b v2 E2 b' v3 n3 R3 N3 ob ob ∧ Rel E2 R3 N3 (j + 1) ∧ Own u ob 33 [.int .i64 ok, .int .i64 ot, .int .i64 of, .int .i64 os, .int .i64 oa, .slice ol N0.length oc]) := ⟨t.back, HREL.out E2 R3 N3 q1 q2, hj.own⟩
                  clear hall hj t q1 q2
                  simp only [List.getD_cons_succ, List.getD_cons_zero]
                  go_wp2
                  go_meet
                  case rel => exact ⟨rfl, v2, E2, v3, n3, R3, N3, HE.out⟩
            · have h1' : (ok == 1) = false := by simpa using h1
              clear h1
              by_cases h2 : ok = 2
              · have h2' : (ok == 2) = true := by simpa using h2
                clear h2
                as_aux_lemma =>
                  obtain ⟨fit, P1, P2, cl, cr, hrel⟩ := fail_both (w := w) (b := b) (b' := b') HP.out
                  have CL : Hid (CallsL w b E P1 fit 14 #[.pointer (some ⟨b, 0, none⟩)]) := cl
                  have CR : Hid (CallsR w b' R N P2 fit 15 #[.pointer (some ⟨b', 0, none⟩)]) := cr
                  have HREL : Hid (∀ E' R' N', P1 E' → P2 R' N' → Rel E' R' N' (j + 1)) := hrel
                  clear cl cr hrel
                  go_wp2_with fail
                  refine (CL.out _ _ HW.out.tab HW.out.kept).mono ?_
                  rintro e w4 ⟨rfl, v4, E4, t4, p4, m4, f4⟩
                  have H4 : Hid (Tw w w4 b v4 E4 b' v' nv R N ob ob ∧ Own w4 ob 33 [.int .i64 ok, .int .i64 ot, .int .i64 of, .int .i64 os, .int .i64 oa, .slice ol N0.length oc]) := ⟨HW.out.fst t4 m4 f4, BO.out.muts m4 HW.out.o1.1⟩
                  clear t4 m4 f4 HW BO b0
                  go_wp2_with fail
                  refine (CR.out _ _ _ H4.out.1.ref H4.out.1.kept).mono ?_
                  rintro e w5 ⟨rfl, v5, n5, R5, N5, t5, p5, m5, f5⟩
                  have H5 : Hid (Tw w w5 b v4 E4 b' v5 n5 R5 N5 ob ob ∧ Rel E4 R5 N5 (j + 1) ∧ Own w5 ob 33 [.int .i64 ok, .int .i64 ot, .int .i64 of, .int .i64 os, .int .i64 oa, .slice ol N0.length oc]) := ⟨H4.out.1.snd t5 m5 f5, HREL.out E4 R5 N5 p4 p5, H4.out.2.muts m5 H4.out.1.o2.1⟩
                  clear t5 m5 f5 H4 p4 p5
                  have zz : (fit == fit) = true := by simp
                  go_wp2
                  go_meet
                  case rel => exact ⟨rfl, v4, E4, v5, n5, R5, N5, H5.out⟩
              · have h2' : (ok == 2) = false := by simpa using h2
                clear h2
                by_cases h3 : ok = 3
                · have h3' : (ok == 3) = true := by simpa using h3
                  clear h3
                  as_aux_lemma =>
                    obtain ⟨fit, P1, P2, cl, cr, hrel⟩ := drop_both (w := w) (b := b) (b' := b') HP.out (by omega) ot
                    have CL : Hid (CallsL w b E P1 fit 16 #[.pointer (some ⟨b, 0, none⟩), .int .i64 ot]) := cl
                    have CR : Hid (CallsR w b' R N P2 fit 17 #[.pointer (some ⟨b', 0, none⟩), .int .i64 ot]) := cr
                    have HREL : Hid (∀ E' R' N', P1 E' → P2 R' N' → Rel E' R' N' (j + 1)) := hrel
                    clear cl cr hrel
                    have RBO : Hid (Own W ob 33 [.int .i64 ok, .int .i64 ot, .int .i64 of, .int .i64 os, .int .i64 oa, .slice ol N0.length oc]) := BO.out
                    clear b0
                    go_upto_region 20 with fail
                    refine wp_region_phase [(.pointer (some ⟨b, 0, none⟩)), (.pointer (some ⟨ob, 1, none⟩)), (.int .i64 ot), (.bool fit), (.pointer (some ⟨b', 0, none⟩)), (.pointer (some ⟨ob, 1, none⟩)), (.int .i64 ot), (.bool fit), (.bool true), (.bool true)] [(7, 9), (94, 0), (95, 1), (96, 2), (97, 3), (98, 4), (99, 5), (100, 6), (101, 7), (102, 8)] [_, _, _, _, _, _, _, _, _, _, _, _, _, _, _, _, _, _, _, _, _, _, _, _, _, _, _, _, _, _, _, _, _, _, _, _, _, _, _, _, _, _, _, _, _, _, _, _, _, _, _, _, _, _, _, _, _, _, _, _, _, _, _, _, _, _, _, _, _, _, _, _, _, _, _, _, _, _, _, _, _, _, _, _, _, _, _, _, _, _, _, _, _, _, _, _, _, _, _, _, _, _, _, _, _, _, _, _, _, _, _, _, _, _, _, _, _, _, _, _, _, _, _, _, _, _, _, _, _, _, _, _, _, _, _, _, _, _, _, _, _, _, _, _, _, _, _, _, _, _, _, _, _, _, _, _, _, _, _, _, _, _, _, _, _, _, _, _, _, _, _] (fun d u => PJ w u b b' E R N P1 P2 ob ob [.int .i64 ok, .int .i64 ot, .int .i64 of, .int .i64 os, .int .i64 oa, .slice ol N0.length oc] 33 [.int .i64 ok, .int .i64 ot, .int .i64 of, .int .i64 os, .int .i64 oa, .slice ol N0.length oc] 3 7 d) (by kernel_rfl) (by kernel_rfl) (by kernel_rfl) (by kernel_rfl) rfl ?_ ?_ ?_
                    · exact ⟨BO.out.kept (Kept.refl _).drew, RBO.out.kept (Kept.refl _).drew, v, E, v', nv, R, N, HW.out.still (Kept.refl _).drew, by simp, by simp⟩
                    · intro k o ho a d u hh hj hi hd
                      match k, ho, hi, hd with
                      | 0, ho, hi, hd =>
                        simp only [List.getElem?_cons_zero, Option.some.injEq] at ho
                        subst ho
                        have g3 : a.tmps[3]? = some (.pointer (some ⟨b, 0, none⟩)) := hh.old 3 (by kernel_rfl) rfl
                        clear hh hd
                        have HN : Hid (PJ w u b b' E R N P1 P2 ob ob [.int .i64 ok, .int .i64 ot, .int .i64 of, .int .i64 os, .int .i64 oa, .slice ol N0.length oc] 33 [.int .i64 ok, .int .i64 ot, .int .i64 of, .int .i64 os, .int .i64 oa, .slice ol N0.length oc] 3 7 (done d 0)) := hj.plain 0 (by decide) (by decide)
                        clear hj hi
                        refine wpOp_step rfl (fun K hK => ?_)
                        go_simp
                        exact hK _ _ ⟨by simp [Act.put], HN.out⟩
                      | 1, ho, hi, hd =>
                        simp only [List.getElem?_cons_succ, List.getElem?_cons_zero, Option.some.injEq] at ho
                        subst ho
                        have g6 : a.tmps[6]? = some (.pointer (some ⟨ob, 0, none⟩)) := hh.old 6 (by kernel_rfl) rfl
                        clear hh hd
                        have HN : Hid (PJ w u b b' E R N P1 P2 ob ob [.int .i64 ok, .int .i64 ot, .int .i64 of, .int .i64 os, .int .i64 oa, .slice ol N0.length oc] 33 [.int .i64 ok, .int .i64 ot, .int .i64 of, .int .i64 os, .int .i64 oa, .slice ol N0.length oc] 3 7 (done d 1)) := hj.plain 1 (by decide) (by decide)
                        clear hj hi
                        refine wpOp_step rfl (fun K hK => ?_)
                        go_simp
                        exact hK _ _ ⟨by simp [Act.put], HN.out⟩
                      | 2, ho, hi, hd =>
                        simp only [List.getElem?_cons_succ, List.getElem?_cons_zero, Option.some.injEq] at ho
                        subst ho
                        have g95 : a.tmps[95]? = some (.pointer (some ⟨ob, 1, none⟩)) := hh.did 1 _ 95 rfl rfl (hd { on := 1, ground := .data } (by simp) rfl)
                        have cc := hj.own.blk.at 1 rfl
                        clear hh hd
                        have HN : Hid (PJ w u b b' E R N P1 P2 ob ob [.int .i64 ok, .int .i64 ot, .int .i64 of, .int .i64 os, .int .i64 oa, .slice ol N0.length oc] 33 [.int .i64 ok, .int .i64 ot, .int .i64 of, .int .i64 os, .int .i64 oa, .slice ol N0.length oc] 3 7 (done d 2)) := hj.plain 2 (by decide) (by decide)
                        clear hj hi
                        refine wpOp_step rfl (fun K hK => ?_)
                        go_simp
                        exact hK _ _ ⟨by simp [Act.put], HN.out⟩
                      | 3, ho, hi, hd =>
                        simp only [List.getElem?_cons_succ, List.getElem?_cons_zero, Option.some.injEq] at ho
                        subst ho
                        have g94 : a.tmps[94]? = some (.pointer (some ⟨b, 0, none⟩)) := hh.did 0 _ 94 rfl rfl (hd { on := 0, ground := .data } (by simp) rfl)
                        have g96 : a.tmps[96]? = some (.int .i64 ot) := hh.did 2 _ 96 rfl rfl (hd { on := 2, ground := .data } (by simp) rfl)
                        clear hh hd
                        obtain ⟨v1, t1, kp1, nx⟩ := hj.call1 (by decide) hi
                        have CA := CL.out u v1 t1 kp1
                        have HNx : Hid _ := nx
                        clear hj hi t1 kp1 nx
                        refine wpOp_step rfl (fun K hK => ?_)
                        go_simp
                        refine CA.mono ?_
                        rintro e u2 ⟨rfl, v2, E2, t2, p, m, f⟩
                        exact hK _ _ ⟨by simp [Act.put], HNx.out u2 v2 E2 t2 p m f⟩
                      | 4, ho, hi, hd =>
                        simp only [List.getElem?_cons_succ, List.getElem?_cons_zero, Option.some.injEq] at ho
                        subst ho
                        have g4 : a.tmps[4]? = some (.pointer (some ⟨b', 0, none⟩)) := hh.old 4 (by kernel_rfl) rfl
                        clear hh hd
                        have HN : Hid (PJ w u b b' E R N P1 P2 ob ob [.int .i64 ok, .int .i64 ot, .int .i64 of, .int .i64 os, .int .i64 oa, .slice ol N0.length oc] 33 [.int .i64 ok, .int .i64 ot, .int .i64 of, .int .i64 os, .int .i64 oa, .slice ol N0.length oc] 3 7 (done d 4)) := hj.plain 4 (by decide) (by decide)
                        clear hj hi
                        refine wpOp_step rfl (fun K hK => ?_)
                        go_simp
                        exact hK _ _ ⟨by simp [Act.put], HN.out⟩
                      | 5, ho, hi, hd =>
                        simp only [List.getElem?_cons_succ, List.getElem?_cons_zero, Option.some.injEq] at ho
                        subst ho
                        have g6 : a.tmps[6]? = some (.pointer (some ⟨ob, 0, none⟩)) := hh.old 6 (by kernel_rfl) rfl
                        clear hh hd
                        have HN : Hid (PJ w u b b' E R N P1 P2 ob ob [.int .i64 ok, .int .i64 ot, .int .i64 of, .int .i64 os, .int .i64 oa, .slice ol N0.length oc] 33 [.int .i64 ok, .int .i64 ot, .int .i64 of, .int .i64 os, .int .i64 oa, .slice ol N0.length oc] 3 7 (done d 5)) := hj.plain 5 (by decide) (by decide)
                        clear hj hi
                        refine wpOp_step rfl (fun K hK => ?_)
                        go_simp
                        exact hK _ _ ⟨by simp [Act.put], HN.out⟩
                      | 6, ho, hi, hd =>
                        simp only [List.getElem?_cons_succ, List.getElem?_cons_zero, Option.some.injEq] at ho
                        subst ho
                        have g99 : a.tmps[99]? = some (.pointer (some ⟨ob, 1, none⟩)) := hh.did 5 _ 99 rfl rfl (hd { on := 5, ground := .data } (by simp) rfl)
                        have cc := hj.own.blk.at 1 rfl
                        clear hh hd
                        have HN : Hid (PJ w u b b' E R N P1 P2 ob ob [.int .i64 ok, .int .i64 ot, .int .i64 of, .int .i64 os, .int .i64 oa, .slice ol N0.length oc] 33 [.int .i64 ok, .int .i64 ot, .int .i64 of, .int .i64 os, .int .i64 oa, .slice ol N0.length oc] 3 7 (done d 6)) := hj.plain 6 (by decide) (by decide)
                        clear hj hi
                        refine wpOp_step rfl (fun K hK => ?_)
                        go_simp
                        exact hK _ _ ⟨by simp [Act.put], HN.out⟩
                      | 7, ho, hi, hd =>
                        simp only [List.getElem?_cons_succ, List.getElem?_cons_zero, Option.some.injEq] at ho
                        subst ho
                        have g98 : a.tmps[98]? = some (.pointer (some ⟨b', 0, none⟩)) := hh.did 4 _ 98 rfl rfl (hd { on := 4, ground := .data } (by simp) rfl)
                        have g100 : a.tmps[100]? = some (.int .i64 ot) := hh.did 6 _ 100 rfl rfl (hd { on := 6, ground := .data } (by simp) rfl)
                        clear hh hd
                        obtain ⟨v1, n1, t1, kp1, nx⟩ := hj.call2 (by decide) hi
                        have CA := CR.out u v1 n1 t1 kp1
                        have HNx : Hid _ := nx
                        clear hj hi t1 kp1 nx
                        refine wpOp_step rfl (fun K hK => ?_)
                        go_simp
                        refine CA.mono ?_
                        rintro e u2 ⟨rfl, v2, n2, R2, N2, t2, p, m, f⟩
                        exact hK _ _ ⟨by simp [Act.put], HNx.out u2 v2 n2 R2 N2 t2 p m f⟩
                      | 8, ho, hi, hd =>
                        simp only [List.getElem?_cons_succ, List.getElem?_cons_zero, Option.some.injEq] at ho
                        subst ho
                        have g97 : a.tmps[97]? = some (.bool fit) := hh.did 3 _ 97 rfl rfl (hd { on := 3, ground := .data } (by simp) rfl)
                        have g101 : a.tmps[101]? = some (.bool fit) := hh.did 7 _ 101 rfl rfl (hd { on := 7, ground := .data } (by simp) rfl)
                        have zz : (fit == fit) = true := by simp
                        clear hh hd
                        have HN : Hid (PJ w u b b' E R N P1 P2 ob ob [.int .i64 ok, .int .i64 ot, .int .i64 of, .int .i64 os, .int .i64 oa, .slice ol N0.length oc] 33 [.int .i64 ok, .int .i64 ot, .int .i64 of, .int .i64 os, .int .i64 oa, .slice ol N0.length oc] 3 7 (done d 8)) := hj.plain 8 (by decide) (by decide)
                        clear hj hi
                        refine wpOp_step rfl (fun K hK => ?_)
                        go_simp
                        exact hK _ _ ⟨by simp [Act.put], HN.out⟩
                      | 9, ho, hi, hd =>
                        simp only [List.getElem?_cons_succ, List.getElem?_cons_zero, Option.some.injEq] at ho
                        subst ho
                        have g102 : a.tmps[102]? = some (.bool true) := hh.did 8 _ 102 rfl rfl (hd { on := 8, ground := .data } (by simp) rfl)
                        clear hh hd
                        have HN : Hid (PJ w u b b' E R N P1 P2 ob ob [.int .i64 ok, .int .i64 ot, .int .i64 of, .int .i64 os, .int .i64 oa, .slice ol N0.length oc] 33 [.int .i64 ok, .int .i64 ot, .int .i64 of, .int .i64 os, .int .i64 oa, .slice ol N0.length oc] 3 7 (done d 9)) := hj.plain 9 (by decide) (by decide)
                        clear hj hi
                        refine wpOp_step rfl (fun K hK => ?_)
                        go_simp
                        exact hK _ _ ⟨by simp [Act.put], HN.out⟩
                      | k + 10, ho, _, _ => simp at ho
                    · intro u d hall hj
                      obtain ⟨v2, E2, v3, n3, R3, N3, t, q1, q2⟩ := hj.two
                      rw [hall 3 (by decide)] at q1
                      rw [hall 7 (by decide)] at q2
                      have HE : Hid (Tw w u b v2 E2 b' v3 n3 R3 N3 ob ob ∧ Rel E2 R3 N3 (j + 1) ∧ Own u ob 33 [.int .i64 ok, .int .i64 ot, .int .i64 of, .int .i64 os, .int .i64 oa, .slice ol N0.length oc]) := ⟨t.back, HREL.out E2 R3 N3 q1 q2, hj.own⟩
                      clear hall hj t q1 q2
                      simp only [List.getD_cons_succ, List.getD_cons_zero]
                      go_wp2
                      go_meet
                      case rel => exact ⟨rfl, v2, E2, v3, n3, R3, N3, HE.out⟩
                · have h3' : (ok == 3) = false := by simpa using h3
                  clear h3
                  by_cases h4 : ok = 4
                  · have h4' : (ok == 4) = true := by simpa using h4
                    clear h4
                    as_aux_lemma =>
                      go_wp2_with fail
                      refine (begin_any _ HW.out.tab).mono ?_
                      rintro e w4 ⟨rfl, t4, m4⟩
                      have H4 : Hid (Tw w w4 b v (E.map noteE) b' v' nv R N ob ob ∧ Own w4 ob 33 [.int .i64 ok, .int .i64 ot, .int .i64 of, .int .i64 os, .int .i64 oa, .slice ol N0.length oc]) := ⟨HW.out.fst t4 m4 (fun k hk => .inl (foot_upd (f := noteE) (fun _ => rfl) hk)), BO.out.muts m4 HW.out.o1.1⟩
                      clear t4 m4 HW BO b0
                      go_wp2_with fail
                      refine (rbegin_any _ H4.out.1.ref).mono ?_
                      rintro e w5 ⟨rfl, n5, t5, m5, f5⟩
                      have H5 : Hid (Tw w w5 b v (E.map noteE) b' v' n5 R ((wts R).map Ent.th) ob ob ∧ Rel (E.map noteE) R ((wts R).map Ent.th) (j + 1) ∧ Own w5 ob 33 [.int .i64 ok, .int .i64 ot, .int .i64 of, .int .i64 os, .int .i64 oa, .slice ol N0.length oc]) := ⟨H4.out.1.snd t5 m5 f5, HP.out.begins, H4.out.2.muts m5 H4.out.1.o2.1⟩
                      clear t5 m5 f5 H4
                      go_wp2
                      go_meet
                      case rel => exact ⟨rfl, _, _, _, _, _, _, H5.out⟩
                  · have h4' : (ok == 4) = false := by simpa using h4
                    clear h4
                    by_cases h5 : ok = 5
                    · have h5' : (ok == 5) = true := by simpa using h5
                      clear h5
                      as_aux_lemma =>
                        go_wp2_with fail
                        refine (end_any _ HW.out.tab (fun e he => by have := HP.out.cy e he; omega)).mono ?_
                        rintro e w4 ⟨rfl, t4, m4⟩
                        have H4 : Hid (Tw w w4 b v (E.map endE) b' v' nv R N ob ob ∧ Own w4 ob 33 [.int .i64 ok, .int .i64 ot, .int .i64 of, .int .i64 os, .int .i64 oa, .slice ol N0.length oc]) := ⟨HW.out.fst t4 m4 (fun k hk => .inl (foot_upd (f := endE) (fun _ => rfl) hk)), BO.out.muts m4 HW.out.o1.1⟩
                        clear t4 m4 HW BO b0
                        go_wp2_with fail
                        refine (rend_any _ H4.out.1.ref (fun e he => by have := HP.out.cyR e he; omega) (by have := HP.out.lnn; omega)).mono ?_
                        rintro e w5 ⟨rfl, t5, m5⟩
                        have H5 : Hid (Tw w w5 b v (E.map endE) b' v' (.slice none 0 0) (R.map (endR N)) [] ob ob ∧ Rel (E.map endE) (R.map (endR N)) [] (j + 1) ∧ Own w5 ob 33 [.int .i64 ok, .int .i64 ot, .int .i64 of, .int .i64 os, .int .i64 oa, .slice ol N0.length oc]) := ⟨H4.out.1.snd t5 m5 (fun k hk => .inl (by
                          rcases mem_footR.1 hk with g | g
                          · simp [Value.ownBlock] at g
                          · exact mem_footR.2 (.inr (foot_upd (f := endR N) (fun _ => rfl) g)))), HP.out.ends, H4.out.2.muts m5 H4.out.1.o2.1⟩
                        clear t5 m5 H4
                        go_wp2
                        go_meet
                        case rel => exact ⟨rfl, _, _, _, _, _, _, H5.out⟩
                    · have h5' : (ok == 5) = false := by simpa using h5
                      clear h5
                      go_wp2
                      go_meet
                      case rel => exact ⟨rfl, v, E, v', nv, R, N, HW.out, HP.out.more, BO.out⟩
        case rest =>
          as_aux_lemma =>
            clear HP HW BO HRX b0
            obtain ⟨rfl, hc⟩ := hcut
            obtain ⟨v, E, v', nv, R, N, h3, hP, hB⟩ := hc.out
            have HH : Hid (Tw w wc b v E b' v' nv R N ob ob ∧ Own wc ob 33 [.int .i64 ok, .int .i64 ot, .int .i64 of, .int .i64 os, .int .i64 oa, .slice ol N0.length oc]) := ⟨h3, hB⟩
            have HP : Hid (Rel E R N (j + 1)) := hP
            clear h3 hP hB hc
            obtain ⟨k1, s1⟩ := told_key (find_key (p := fun e => e.th == ot) (fun k => k.1 == ot) (fun _ => rfl) HP.out.key)
            obtain ⟨k2, s2⟩ := told_key (find_key (p := fun e => e.st == 0) (fun k => k.2.2.2.1 == 0) (fun _ => rfl) HP.out.key)
            have CA : Hid (∀ u, Kept wc u → _) := fun u k => of_any ot u (HH.out.1.still k).tab
            have CB : Hid (∀ u, Kept wc u → _) := fun u k => rof_any ot u (HH.out.1.still k).ref
            have CC : Hid (∀ u, Kept wc u → _) := fun u k => first_any u (HH.out.1.still k).tab
            have CD : Hid (∀ u, Kept wc u → _) := fun u k => rfirst_any u (HH.out.1.still k).ref
            have CE : Hid (∀ u, Kept wc u → _) := fun u k => waits_any u (HH.out.1.still k).tab
            have CF : Hid (∀ u, Kept wc u → _) := fun u k => rwaits_any u (HH.out.1.still k).ref
            rw [HP.out.waits] at CF
            have RD1 : Hid (∀ u, Kept wc u → _) := fun u k => told_rdi (HH.out.1.still k).ref (fun e => e.th == ot)
            have RD2 : Hid (∀ u, Kept wc u → _) := fun u k => told_rdi (HH.out.1.still k).ref (fun e => e.st == 0)
            rw [s1] at CB
            rw [s2] at CD
            generalize (wts E).length = wl at *
            generalize (E.find? fun e => e.th == ot).isSome = i1 at *
            generalize (E.find? fun e => e.st == 0).isSome = i2 at *
            generalize told (R.find? fun e => e.th == ot) = r1 at *
            generalize told (R.find? fun e => e.st == 0) = r2 at *
            generalize told (E.find? fun e => e.th == ot) = e1 at *
            generalize told (E.find? fun e => e.st == 0) = e2 at *
            simp only [agg_key k1] at CB
            simp only [agg_key k2] at CD
            have hG1 : r1.G = e1.G := congrArg (fun k => k.2.2.2.2.2.2) k1
            have hG2 : r2.G = e2.G := congrArg (fun k => k.2.2.2.2.2.2) k2
            rw [hG1] at RD1
            rw [hG2] at RD2
            have HP0 : Hid (Rel E R N (j + 1)) := HP.out
            clear k1 k2 s1 s2 hG1 hG2 HP
            have b1 := HH.out.2.blk.at 1 rfl
            have KC : Hid (Kept w wc ∧ Own wc ob 33 [.int .i64 ok, .int .i64 ot, .int .i64 of, .int .i64 os, .int .i64 oa, .slice ol N0.length oc]) := ⟨HH.out.1.kept, HH.out.2⟩
            have HHT : Hid (Tw w wc b v E b' v' nv R N ob ob) := HH.out.1
            clear HH
            go_wp2_with fail
            refine (CA.out _ (Kept.refl _)).mono ?_
            rintro e w4 ⟨y4, d4, rfl, q4, -, k4⟩
            rw [agg_in]
            have H4 : Hid (Kept wc w4 ∧ Rdi w4 y4 e1.G) := ⟨k4, q4⟩
            clear k4 q4 CA b1
            have b1 := fun A u => ((KC.out.2.kept H4.out.1).kept ((Kept.refl w4).alloc A u)).blk.at 1 rfl
            go_wp2_with fail
            generalize hW : w4.alloc _ = W4
            have B4 : Blk W4 w4.heap.size [.int .i64 e1.th, .int .i64 e1.fr, .int .i64 e1.sp, .int .i64 e1.st, .int .i64 e1.cy, .int .i64 e1.pl, .slice y4 e1.G.length d4] := by rw [← hW]; exact Blk.new w4 _ _
            have k4 : Kept w4 W4 := by rw [← hW]; exact (Kept.refl _).alloc _ _
            clear hW b1
            have H4' : Hid (Kept wc W4 ∧ Rdi W4 y4 e1.G) := ⟨H4.out.1.trans k4, H4.out.2.kept k4⟩
            clear k4 H4
            refine (CB.out _ H4'.out.1).mono ?_
            rintro e w5 ⟨rfl, k5⟩
            rw [agg_in]
            generalize w4.heap.size = ba at *
            have H5 : Hid (Kept wc w5 ∧ Rdi w5 y4 e1.G ∧ Blk w5 ba [.int .i64 e1.th, .int .i64 e1.fr, .int .i64 e1.sp, .int .i64 e1.st, .int .i64 e1.cy, .int .i64 e1.pl, .slice y4 e1.G.length d4]) := ⟨H4'.out.1.trans k5, H4'.out.2.kept k5, B4.kept k5⟩
            clear k5 CB B4 H4'
            go_wp2_with fail
            generalize hW : w5.alloc _ = W5
            have B5 : Blk W5 w5.heap.size [.int .i64 e1.th, .int .i64 e1.fr, .int .i64 e1.sp, .int .i64 e1.st, .int .i64 e1.cy, .int .i64 e1.pl, .slice r1.gx e1.G.length r1.gc] := by rw [← hW]; exact Blk.new w5 _ _
            have k5 : Kept w5 W5 := by rw [← hW]; exact (Kept.refl _).alloc _ _
            clear hW
            have H5' : Hid (Kept wc W5 ∧ Rdi W5 y4 e1.G ∧ Blk W5 ba [.int .i64 e1.th, .int .i64 e1.fr, .int .i64 e1.sp, .int .i64 e1.st, .int .i64 e1.cy, .int .i64 e1.pl, .slice y4 e1.G.length d4]) := ⟨H5.out.1.trans k5, H5.out.2.1.kept k5, H5.out.2.2.kept k5⟩
            clear k5 H5
            refine (CC.out _ H5'.out.1).mono ?_
            rintro e w6 ⟨y6, d6, rfl, q6, -, k6⟩
            rw [agg_in]
            generalize w5.heap.size = bb at *
            have H6 : Hid (Kept wc w6 ∧ Rdi w6 y4 e1.G ∧ Blk w6 ba [.int .i64 e1.th, .int .i64 e1.fr, .int .i64 e1.sp, .int .i64 e1.st, .int .i64 e1.cy, .int .i64 e1.pl, .slice y4 e1.G.length d4] ∧ Blk w6 bb [.int .i64 e1.th, .int .i64 e1.fr, .int .i64 e1.sp, .int .i64 e1.st, .int .i64 e1.cy, .int .i64 e1.pl, .slice r1.gx e1.G.length r1.gc] ∧ Rdi w6 y6 e2.G) := ⟨H5'.out.1.trans k6, H5'.out.2.1.kept k6, H5'.out.2.2.kept k6, B5.kept k6, q6⟩
            clear k6 q6 CC B5 H5'
            go_wp2_with fail
            generalize hW : w6.alloc _ = W6
            have B6 : Blk W6 w6.heap.size [.int .i64 e2.th, .int .i64 e2.fr, .int .i64 e2.sp, .int .i64 e2.st, .int .i64 e2.cy, .int .i64 e2.pl, .slice y6 e2.G.length d6] := by rw [← hW]; exact Blk.new w6 _ _
            have k6 : Kept w6 W6 := by rw [← hW]; exact (Kept.refl _).alloc _ _
            clear hW
            have H6' : Hid (Kept wc W6 ∧ Rdi W6 y4 e1.G ∧ Blk W6 ba [.int .i64 e1.th, .int .i64 e1.fr, .int .i64 e1.sp, .int .i64 e1.st, .int .i64 e1.cy, .int .i64 e1.pl, .slice y4 e1.G.length d4] ∧ Blk W6 bb [.int .i64 e1.th, .int .i64 e1.fr, .int .i64 e1.sp, .int .i64 e1.st, .int .i64 e1.cy, .int .i64 e1.pl, .slice r1.gx e1.G.length r1.gc] ∧ Rdi W6 y6 e2.G) := ⟨H6.out.1.trans k6, H6.out.2.1.kept k6, H6.out.2.2.1.kept k6, H6.out.2.2.2.1.kept k6, H6.out.2.2.2.2.kept k6⟩
            clear k6 H6
            refine (CD.out _ H6'.out.1).mono ?_
            rintro e w7 ⟨rfl, k7⟩
            rw [agg_in]
            generalize w6.heap.size = bc at *
            have H7 : Hid (Kept wc w7 ∧ Rdi w7 y4 e1.G ∧ Blk w7 ba [.int .i64 e1.th, .int .i64 e1.fr, .int .i64 e1.sp, .int .i64 e1.st, .int .i64 e1.cy, .int .i64 e1.pl, .slice y4 e1.G.length d4] ∧ Blk w7 bb [.int .i64 e1.th, .int .i64 e1.fr, .int .i64 e1.sp, .int .i64 e1.st, .int .i64 e1.cy, .int .i64 e1.pl, .slice r1.gx e1.G.length r1.gc] ∧ Rdi w7 y6 e2.G ∧ Blk w7 bc [.int .i64 e2.th, .int .i64 e2.fr, .int .i64 e2.sp, .int .i64 e2.st, .int .i64 e2.cy, .int .i64 e2.pl, .slice y6 e2.G.length d6]) := ⟨H6'.out.1.trans k7, H6'.out.2.1.kept k7, H6'.out.2.2.1.kept k7, H6'.out.2.2.2.1.kept k7, H6'.out.2.2.2.2.kept k7, B6.kept k7⟩
            clear k7 CD B6 H6'
            have q1 : (i1 != i1) = false := by simp
            have q2 : (i2 != i2) = false := by simp
            obtain ⟨W8, hW8⟩ : ∃ W8, W8 = w7.alloc (.cells #[.int .i64 e2.th, .int .i64 e2.fr, .int .i64 e2.sp, .int .i64 e2.st, .int .i64 e2.cy, .int .i64 e2.pl, .slice r2.gx e2.G.length r2.gc] 35) := ⟨_, rfl⟩
            have k8 : Kept w7 W8 := by rw [hW8]; exact (Kept.refl _).alloc _ _
            have B8 : Blk W8 w7.heap.size [.int .i64 e2.th, .int .i64 e2.fr, .int .i64 e2.sp, .int .i64 e2.st, .int .i64 e2.cy, .int .i64 e2.pl, .slice r2.gx e2.G.length r2.gc] := by rw [hW8]; exact Blk.new w7 _ _
            have H8 : Hid (Kept wc W8 ∧ Rdi W8 y4 e1.G ∧ Rdi W8 y6 e2.G ∧ Blk W8 bc [.int .i64 e2.th, .int .i64 e2.fr, .int .i64 e2.sp, .int .i64 e2.st, .int .i64 e2.cy, .int .i64 e2.pl, .slice y6 e2.G.length d6] ∧ Blk W8 w7.heap.size [.int .i64 e2.th, .int .i64 e2.fr, .int .i64 e2.sp, .int .i64 e2.st, .int .i64 e2.cy, .int .i64 e2.pl, .slice r2.gx e2.G.length r2.gc]) := ⟨H7.out.1.trans k8, H7.out.2.1.kept k8, H7.out.2.2.2.2.1.kept k8, H7.out.2.2.2.2.2.kept k8, B8⟩
            have BA := H7.out.2.2.1.kept k8
            have BB := H7.out.2.2.2.1.kept k8
            have a0 := BA.at 0 rfl
            have a1 := BA.at 1 rfl
            have a2 := BA.at 2 rfl
            have a3 := BA.at 3 rfl
            have a4 := BA.at 4 rfl
            have a5 := BA.at 5 rfl
            have a6 := BA.at 6 rfl
            have c0 := BB.at 0 rfl
            have c1 := BB.at 1 rfl
            have c2 := BB.at 2 rfl
            have c3 := BB.at 3 rfl
            have c4 := BB.at 4 rfl
            have c5 := BB.at 5 rfl
            have c6 := BB.at 6 rfl
            have CS : Hid _ := same_any (e := e1) (y := y4) (y' := r1.gx) (d := d4) (d' := r1.gc) W8 (by have := (RD1.out W8 H8.out.1).2; omega) H8.out.2.1 (RD1.out W8 H8.out.1).1
            clear BA BB B8 k8 H7
            go_upto_region 31 with fail
            rw [← hW8]
            clear hW8
            go_wp2_with fail
            refine Calls.mono CS.out ?_
            rintro e w9 ⟨rfl, k9⟩
            have H9 : Hid (Kept wc w9 ∧ Rdi w9 y6 e2.G ∧ Blk w9 bc [.int .i64 e2.th, .int .i64 e2.fr, .int .i64 e2.sp, .int .i64 e2.st, .int .i64 e2.cy, .int .i64 e2.pl, .slice y6 e2.G.length d6] ∧ Blk w9 w7.heap.size [.int .i64 e2.th, .int .i64 e2.fr, .int .i64 e2.sp, .int .i64 e2.st, .int .i64 e2.cy, .int .i64 e2.pl, .slice r2.gx e2.G.length r2.gc]) := ⟨H8.out.1.trans k9, H8.out.2.2.1.kept k9, H8.out.2.2.2.1.kept k9, H8.out.2.2.2.2.kept k9⟩
            clear a0 a1 a2 a3 a4 a5 a6 c0 c1 c2 c3 c4 c5 c6 k9 H8 CS
            generalize w7.heap.size = bd at *
            have BA := H9.out.2.2.1
            have BB := H9.out.2.2.2
            have a0 := BA.at 0 rfl
            have a1 := BA.at 1 rfl
            have a2 := BA.at 2 rfl
            have a3 := BA.at 3 rfl
            have a4 := BA.at 4 rfl
            have a5 := BA.at 5 rfl
            have a6 := BA.at 6 rfl
            have c0 := BB.at 0 rfl
            have c1 := BB.at 1 rfl
            have c2 := BB.at 2 rfl
            have c3 := BB.at 3 rfl
            have c4 := BB.at 4 rfl
            have c5 := BB.at 5 rfl
            have c6 := BB.at 6 rfl
            have CS : Hid _ := same_any (e := e2) (y := y6) (y' := r2.gx) (d := d6) (d' := r2.gc) w9 (by have := (RD2.out w9 H9.out.1).2; omega) H9.out.2.1 (RD2.out w9 H9.out.1).1
            clear BA BB
            go_wp2_with fail
            refine Calls.mono CS.out ?_
            rintro e w10 ⟨rfl, k10⟩
            have K10 : Hid (Kept wc w10) := H9.out.1.trans k10
            clear a0 a1 a2 a3 a4 a5 a6 c0 c1 c2 c3 c4 c5 c6 k10 CS H9
            go_wp2_with fail
            refine (CE.out _ K10.out).mono ?_
            rintro e w11 ⟨rfl, k11⟩
            have K11 : Hid (Kept wc w11) := K10.out.trans k11
            clear k11 CE K10
            go_wp2_with fail
            refine (CF.out _ K11.out).mono ?_
            rintro e w12 ⟨rfl, rfl⟩
            have HZ : Hid (Tw w w12 b v E b' v' nv R N ob ob) := HHT.out.still K11.out
            have q3 : ((wl : Int) != (wl : Int)) = false := by simp
            clear CF RD1 RD2 K11 KC HHT
            go_wp2
            go_roundg (l - (j + 1))
            all_goals (have := HM.out; try omega)
            exact ⟨j + 1, by go_num, by omega, rfl, v, E, v', nv, R, N, ⟨HZ.out.tab, HZ.out.ref, HZ.out.kept, HZ.out.sep⟩, HP0.out⟩
      · obtain rfl : j = l := by omega
        have K4 : Hid (Kept w wr) := by
          obtain ⟨v, E, v', nv, R, N, h3, _⟩ := hw.out
          exact h3.2.2.1
        clear hw HM
        go_wp2_with fail
        refine (lfirst_any _).mono ?_
        rintro e w5 ⟨rfl, k5⟩
        have K5 : Hid (Kept w w5) := K4.out.trans k5
        clear k5
        go_wp2
        go_ret
        exact ⟨rfl, K5.out⟩

theorem linePlays_any (x0 : Option Addr) (l0 c0 : Nat) (L0 : Nat → Op10) (w : World) (_h0c : l0 ≤ c0) (hL0 : Ops w x0 l0 L0) :
    Calls Try.prog 3 #[.slice x0 l0 c0] w fun e w' => e = .returned (.bool true) ∧ Kept w w' := plays_walk x0 l0 c0 L0 w hL0
end Go.Proofs.Ytjobnlfecochfaa
