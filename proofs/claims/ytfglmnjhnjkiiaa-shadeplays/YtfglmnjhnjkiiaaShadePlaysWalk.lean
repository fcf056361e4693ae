/-
  ShadePlays: the walk.
-/
import Derived.Test.YtfglmnjhnjkiiaaPlay15
import Derived.Test.YtfglmnjhnjkiiaaOpen15
import Derived.Deep.CutBlock
namespace Go.Proofs.Ytfglmnjhnjkiiaa
open Go.RowKit

set_option maxHeartbeats 4000000 in
set_option maxRecDepth 20000 in
theorem plays_bad (n most : Int) (x : Option Addr) (l c : Nat) (w : World) (hn : ¬ (0 ≤ n ∧ n ≤ 1024 ∧ 1 ≤ most ∧ most ≤ 256)) (h0 : IntKind.min .i64 ≤ n) (h1 : n ≤ IntKind.max .i64) :
    Calls Try.prog 3 #[.int .i64 n, .int .i64 most, .slice x l c] w fun e w' => e = .returned (.bool true) ∧ Kept w w' := by
  have HN : Hid (∀ w, _) := fun w => snew_bad n most w hn h0 h1
  have HR : Hid (∀ w, _) := fun w => rsnew_bad n most w hn h0 h1
  clear hn h0 h1
  rcases (show 500 < (l : Int) ∨ (l : Int) ≤ 500 by omega) with ho | ho
  all_goals go_enter Try.func3, Try.ntmps3
  all_goals go_wp2_with fail
  all_goals (refine (first_any _).mono ?_; rintro e w1 ⟨rfl, k1⟩)
  all_goals (have K1 : Hid (Kept w w1) := k1; clear k1)
  all_goals go_wp2_with fail
  all_goals (refine (HN.out _).mono ?_; rintro e w2 ⟨rfl, k2⟩)
  all_goals (have K2 : Hid (Kept w w2) := K1.out.trans k2; clear k2)
  all_goals go_wp2_with fail
  all_goals (refine (HR.out _).mono ?_; rintro e w3 ⟨rfl, k3⟩)
  all_goals (have K3 : Hid (Kept w w3) := K2.out.trans k3; clear k3)
  all_goals go_wp2_with fail
  all_goals (refine (first_any _).mono ?_; rintro e w4 ⟨rfl, k4⟩)
  all_goals (have K4 : Hid (Kept w w4) := K3.out.trans k4; clear k4)
  all_goals go_wp2
  all_goals go_ret
  all_goals exact ⟨rfl, K4.out⟩

set_option maxHeartbeats 4000000 in
set_option maxRecDepth 20000 in
theorem plays_out (n most : Nat) (x : Option Addr) (l c : Nat) (w : World) (hn : n ≤ 1024) (h1 : 1 ≤ (most : Int)) (hm : (most : Int) ≤ 256) (ho : 500 < (l : Int)) :
    Calls Try.prog 3 #[.int .i64 n, .int .i64 most, .slice x l c] w fun e w' => e = .returned (.bool true) ∧ Kept w w' := by
  have HN : Hid (∀ w : World, _) := fun w => snew_any n most w hn h1 hm (base := 0) (by omega)
  have HR : Hid (∀ w : World, _) := fun w => rsnew_any n most w hn h1 hm (base := 0) (by omega)
  clear hn h1 hm
  go_enter Try.func3, Try.ntmps3
  go_wp2_with fail
  refine (first_any _).mono ?_
  rintro e w1 ⟨rfl, k1⟩
  have K1 : Hid (Kept w w1) := k1
  clear k1
  go_wp2_with fail
  refine (HN.out _).mono ?_
  rintro e w2 ⟨b, tb, g, pb, v, rfl, _, k2, _⟩
  have K2 : Hid (Kept w w2) := K1.out.trans k2
  clear k2 K1
  go_wp2_with fail
  refine (HR.out _).mono ?_
  rintro e w3 ⟨b', tb', gs, gh, gc, v', rfl, _, k3, _⟩
  have K3 : Hid (Kept w w3) := K2.out.trans k3
  clear k3 K2
  go_wp2_with fail
  refine (first_any _).mono ?_
  rintro e w4 ⟨rfl, k4⟩
  have K4 : Hid (Kept w w4) := K3.out.trans k4
  clear k4
  go_wp2
  go_ret
  exact ⟨rfl, K4.out⟩

set_option maxHeartbeats 16000000 in
set_option maxRecDepth 20000 in
theorem plays_in (n most : Nat) (x : Option Addr) (l c : Nat) (L : Nat → Op15) (w : World) (hX : Ops w x l L) (hn : n ≤ 1024) (h1 : 1 ≤ (most : Int)) (hm : (most : Int) ≤ 256) (hl : (l : Int) ≤ 500) :
    Calls Try.prog 3 #[.int .i64 n, .int .i64 most, .slice x l c] w fun e w' => e = .returned (.bool true) ∧ Kept w w' := by
  have HX : Hid (Ops w x l L) := hX
  have HN : Hid (∀ u : World, Kept w u → _) := fun u k => snew_any n most u hn h1 hm (base := w.heap.size) k.size
  have HR : Hid (∀ u : World, Kept w u → _) := fun u k => rsnew_any n most u hn h1 hm (base := w.heap.size) k.size
  clear hX hn h1 hm
  go_enter Try.func3, Try.ntmps3
  go_wp2_with fail
  refine (first_any _).mono ?_
  rintro e w1 ⟨rfl, k1⟩
  have K1 : Hid (Kept w w1) := k1
  clear k1
  go_wp2_with fail
  refine (HN.out _ K1.out).mono ?_
  rintro e w2 ⟨b, tb, g, pb, v, rfl, t2, k2, n2⟩
  have H2 : Hid (ShC w2 w.heap.size b tb g pb v (ShS.new n most) ∧ Kept w w2) := ⟨t2, K1.out.trans k2⟩
  clear t2 k2 n2 K1
  go_wp2_with fail
  refine (HR.out _ H2.out.2).mono ?_
  rintro e w3 ⟨b', tb', gs, gh, gc, v', rfl, t3, k3, n3⟩
  have H3 : Hid (Tw w w3 b tb b' tb' (ShF b tb g pb v) (RSF b' tb' gs gh gc v') (ShS.new n most) (ShS.new n most)) := ⟨⟨g, pb, v, rfl, H2.out.1.kept k3⟩, ⟨gs, gh, gc, v', rfl, t3⟩, fun k hk hd => by
    have := (H2.out.1.own k hk).2
    have := n3 k hd
    omega, H2.out.2.trans k3⟩
  clear t3 k3 n3 H2 HN HR
  generalize ShF b tb g pb v = F at *
  generalize RSF b' tb' gs gh gc v' = F' at *
  go_wp2_with fail
  refine (sh_table _ H3.out.tab).mono ?_
  rintro e w4 ⟨rfl, rfl⟩
  go_wp2
  go_loopg [12] l (fun m i wr' => ∃ (j : Nat) (S : ShS) (F F' : List Nat), i = .int .i64 j ∧ j ≤ l ∧ m = l - j ∧ Hid (Tw w wr' b tb b' tb' F F' S S ∧ S.c ≤ j))
  case atStart => exact ⟨0, _, _, _, rfl, by omega, by omega, H3.out, Nat.le_refl _⟩
  case round =>
    obtain ⟨j, S, F, F', rfl, hj, hm, HR⟩ := hrel
    have HM : Hid _ := hm
    clear hm H3
    by_cases hlt : j < l
    · obtain ⟨bx, ox, rfl, hbx, hcx⟩ := HX.out (by omega)
      have e0 : wr.cell? ⟨bx, ox + j * 5, none⟩ = _ := (HR.out.1.kept.cell hbx).trans (hcx j hlt 0 _ (by omega) rfl)
      have e1 : wr.cell? ⟨bx, ox + j * 5 + 1, none⟩ = _ := (HR.out.1.kept.cell hbx).trans (hcx j hlt 1 _ (by omega) rfl)
      have e2 : wr.cell? ⟨bx, ox + j * 5 + 2, none⟩ = _ := (HR.out.1.kept.cell hbx).trans (hcx j hlt 2 _ (by omega) rfl)
      have e3 : wr.cell? ⟨bx, ox + j * 5 + 3, none⟩ = _ := (HR.out.1.kept.cell hbx).trans (hcx j hlt 3 _ (by omega) rfl)
      have e4 : wr.cell? ⟨bx, ox + j * 5 + 4, none⟩ = _ := (HR.out.1.kept.cell hbx).trans (hcx j hlt 4 _ (by omega) rfl)
      clear hcx hbx HX
      generalize L j = o at *
      obtain ⟨ok, oi, os, oh, oc⟩ := o
      simp only at e0 e1 e2 e3 e4
      go_upto_block 2 with fail
      clear e0 e1 e2 e3 e4
      generalize hW : wr.alloc _ = W
      have BO : Hid (Own W wr.heap.size 34 [.int .i64 ok, .int .i64 oi, .int .i64 os, .bool oh, .bool oc]) := by rw [← hW]; exact Own.new wr _ _
      have HW : Hid (Tw w W b tb b' tb' F F' S S) := by rw [← hW]; exact HR.out.1.still ((Kept.refl wr).alloc _ _)
      have HSc : Hid (S.c ≤ j) := HR.out.2
      have HLt : Hid (S.c < lots) := by have := HR.out.2; simp only [Hid, lots]; omega
      clear hW HR
      generalize wr.heap.size = ob at *
      go_cut [14, 15, 16, 17, 18] from 80 to 191 (fun q _ _ _ _ wc => q = .bool true ∧ ∃ (S : ShS) (F F' : List Nat), Hid (Tw w wc b tb b' tb' F F' S S ∧ Own wc ob 34 [.int .i64 ok, .int .i64 oi, .int .i64 os, .bool oh, .bool oc] ∧ S.c ≤ j + 1))
      case first =>
        by_cases g0 : ok = 0
        · have f0 : (ok == 0) = true := by simpa using g0
          clear g0
          obtain ⟨X, hPX⟩ : ∃ X : ShS, ShS.set S oi os oh oc = X := ⟨_, rfl⟩
          obtain ⟨an, hAn⟩ : ∃ an : Bool, (inn S.n oi && isSt os) = an := ⟨_, rfl⟩
          have HPX : Hid (ShS.set S oi os oh oc = X) := hPX
          have HAn : Hid ((inn S.n oi && isSt os) = an) := hAn
          have hXc : X.c ≤ j + 1 := by
            rw [← hPX]
            have := HSc.out
            simp only [ShS.set]; omega
          have HXc : Hid (X.c ≤ j + 1) := hXc
          clear hPX hAn hXc
          go_upto_region 19 with fail
          refine wp_region_phase [(.pointer (some ⟨tb, 0, none⟩)), (.pointer (some ⟨ob, 1, none⟩)), (.int .i64 oi), (.pointer (some ⟨ob, 2, none⟩)), (.int .i64 os), (.pointer (some ⟨ob, 3, none⟩)), (.bool oh), (.pointer (some ⟨ob, 4, none⟩)), (.bool oc), (.bool an), (.pointer (some ⟨b', 0, none⟩)), (.pointer (some ⟨b', 0, none⟩)), (.pointer (some ⟨b', 0, none⟩)), (.pointer (some ⟨tb', 0, none⟩)), (.pointer (some ⟨ob, 1, none⟩)), (.int .i64 oi), (.pointer (some ⟨ob, 2, none⟩)), (.int .i64 os), (.pointer (some ⟨ob, 3, none⟩)), (.bool oh), (.pointer (some ⟨ob, 4, none⟩)), (.bool oc), (.bool an), (.bool true), (.bool true)] [(14, 24), (82, 0), (83, 1), (84, 2), (85, 3), (86, 4), (87, 5), (88, 6), (89, 7), (90, 8), (91, 9), (92, 10), (93, 11), (94, 12), (95, 13), (96, 14), (97, 15), (98, 16), (99, 17), (100, 18), (101, 19), (102, 20), (103, 21), (104, 22), (105, 23)] [_, _, _, _, _, _, _, _, _, _, _, _, _, _, _, _, _, _, _, _, _, _, _, _, _, _, _, _, _, _, _, _, _, _, _, _, _, _, _, _, _, _, _, _, _, _, _, _, _, _, _, _, _, _, _, _, _, _, _, _, _, _, _, _, _, _, _, _, _, _, _, _, _, _, _, _, _, _, _, _, _, _, _, _, _, _, _, _, _, _, _, _, _, _, _, _, _, _, _, _, _, _, _, _, _, _, _, _, _, _, _, _, _, _, _, _, _, _, _, _, _, _, _, _, _, _, _, _, _, _, _, _, _, _, _, _, _, _, _, _, _, _, _, _, _, _, _, _, _, _, _, _, _, _, _, _, _, _, _, _, _, _, _, _, _, _, _, _, _, _, _, _, _, _, _, _, _, _, _, _, _, _, _, _, _, _, _, _, _, _, _, _, _, _, _, _, _, _, _, _, _, _, _, _, _, _, _, _, _, _, _, _, _, _, _, _, _, _, _, _, _, _, _, _, _, _, _, _, _, _, _, _] (fun d u => CJ w u b tb b' tb' S X ob [.int .i64 ok, .int .i64 oi, .int .i64 os, .bool oh, .bool oc] 9 22 d) (by kernel_rfl) (by kernel_rfl) (by kernel_rfl) (by kernel_rfl) rfl ?_ ?_ ?_
          · exact ⟨BO.out.kept (Kept.refl _).drew, F, F', by simpa using HW.out.still (Kept.refl _).drew⟩
          · intro i1 o ho a1 d u hh hj hi hd
            match i1, ho, hi, hd with
            | 0, ho, hi, hd =>
              simp only [List.getElem?_cons_zero, Option.some.injEq] at ho
              subst ho
              have g11 : a1.tmps[11]? = some (.pointer (some ⟨tb, 0, none⟩)) := hh.old 11 (by kernel_rfl) rfl
              clear hh hd
              have HN : Hid (CJ w u b tb b' tb' S X ob [.int .i64 ok, .int .i64 oi, .int .i64 os, .bool oh, .bool oc] 9 22 (done d 0)) := hj.plain 0 (by decide) (by decide)
              clear hj hi
              refine wpOp_step rfl (fun K hK => ?_)
              go_simp
              exact hK _ _ ⟨by simp [Act.put], HN.out⟩
            | 1, ho, hi, hd =>
              simp only [List.getElem?_cons_succ, List.getElem?_cons_zero, Option.some.injEq] at ho
              subst ho
              have g13 : a1.tmps[13]? = some (.pointer (some ⟨ob, 0, none⟩)) := hh.old 13 (by kernel_rfl) rfl
              clear hh hd
              have HN : Hid (CJ w u b tb b' tb' S X ob [.int .i64 ok, .int .i64 oi, .int .i64 os, .bool oh, .bool oc] 9 22 (done d 1)) := hj.plain 1 (by decide) (by decide)
              clear hj hi
              refine wpOp_step rfl (fun K hK => ?_)
              go_simp
              exact hK _ _ ⟨by simp [Act.put], HN.out⟩
            | 2, ho, hi, hd =>
              simp only [List.getElem?_cons_succ, List.getElem?_cons_zero, Option.some.injEq] at ho
              subst ho
              have g83 : a1.tmps[83]? = some (.pointer (some ⟨ob, 1, none⟩)) := hh.did 1 _ 83 rfl rfl (hd { on := 1, ground := .data } (by simp) rfl)
              have cc := hj.own.blk.at 1 rfl
              clear hh hd
              have HN : Hid (CJ w u b tb b' tb' S X ob [.int .i64 ok, .int .i64 oi, .int .i64 os, .bool oh, .bool oc] 9 22 (done d 2)) := hj.plain 2 (by decide) (by decide)
              clear hj hi
              refine wpOp_step rfl (fun K hK => ?_)
              go_simp
              exact hK _ _ ⟨by simp [Act.put], HN.out⟩
            | 3, ho, hi, hd =>
              simp only [List.getElem?_cons_succ, List.getElem?_cons_zero, Option.some.injEq] at ho
              subst ho
              have g13 : a1.tmps[13]? = some (.pointer (some ⟨ob, 0, none⟩)) := hh.old 13 (by kernel_rfl) rfl
              clear hh hd
              have HN : Hid (CJ w u b tb b' tb' S X ob [.int .i64 ok, .int .i64 oi, .int .i64 os, .bool oh, .bool oc] 9 22 (done d 3)) := hj.plain 3 (by decide) (by decide)
              clear hj hi
              refine wpOp_step rfl (fun K hK => ?_)
              go_simp
              exact hK _ _ ⟨by simp [Act.put], HN.out⟩
            | 4, ho, hi, hd =>
              simp only [List.getElem?_cons_succ, List.getElem?_cons_zero, Option.some.injEq] at ho
              subst ho
              have g85 : a1.tmps[85]? = some (.pointer (some ⟨ob, 2, none⟩)) := hh.did 3 _ 85 rfl rfl (hd { on := 3, ground := .data } (by simp) rfl)
              have cc := hj.own.blk.at 2 rfl
              clear hh hd
              have HN : Hid (CJ w u b tb b' tb' S X ob [.int .i64 ok, .int .i64 oi, .int .i64 os, .bool oh, .bool oc] 9 22 (done d 4)) := hj.plain 4 (by decide) (by decide)
              clear hj hi
              refine wpOp_step rfl (fun K hK => ?_)
              go_simp
              exact hK _ _ ⟨by simp [Act.put], HN.out⟩
            | 5, ho, hi, hd =>
              simp only [List.getElem?_cons_succ, List.getElem?_cons_zero, Option.some.injEq] at ho
              subst ho
              have g13 : a1.tmps[13]? = some (.pointer (some ⟨ob, 0, none⟩)) := hh.old 13 (by kernel_rfl) rfl
              clear hh hd
              have HN : Hid (CJ w u b tb b' tb' S X ob [.int .i64 ok, .int .i64 oi, .int .i64 os, .bool oh, .bool oc] 9 22 (done d 5)) := hj.plain 5 (by decide) (by decide)
              clear hj hi
              refine wpOp_step rfl (fun K hK => ?_)
              go_simp
              exact hK _ _ ⟨by simp [Act.put], HN.out⟩
            | 6, ho, hi, hd =>
              simp only [List.getElem?_cons_succ, List.getElem?_cons_zero, Option.some.injEq] at ho
              subst ho
              have g87 : a1.tmps[87]? = some (.pointer (some ⟨ob, 3, none⟩)) := hh.did 5 _ 87 rfl rfl (hd { on := 5, ground := .data } (by simp) rfl)
              have cc := hj.own.blk.at 3 rfl
              clear hh hd
              have HN : Hid (CJ w u b tb b' tb' S X ob [.int .i64 ok, .int .i64 oi, .int .i64 os, .bool oh, .bool oc] 9 22 (done d 6)) := hj.plain 6 (by decide) (by decide)
              clear hj hi
              refine wpOp_step rfl (fun K hK => ?_)
              go_simp
              exact hK _ _ ⟨by simp [Act.put], HN.out⟩
            | 7, ho, hi, hd =>
              simp only [List.getElem?_cons_succ, List.getElem?_cons_zero, Option.some.injEq] at ho
              subst ho
              have g13 : a1.tmps[13]? = some (.pointer (some ⟨ob, 0, none⟩)) := hh.old 13 (by kernel_rfl) rfl
              clear hh hd
              have HN : Hid (CJ w u b tb b' tb' S X ob [.int .i64 ok, .int .i64 oi, .int .i64 os, .bool oh, .bool oc] 9 22 (done d 7)) := hj.plain 7 (by decide) (by decide)
              clear hj hi
              refine wpOp_step rfl (fun K hK => ?_)
              go_simp
              exact hK _ _ ⟨by simp [Act.put], HN.out⟩
            | 8, ho, hi, hd =>
              simp only [List.getElem?_cons_succ, List.getElem?_cons_zero, Option.some.injEq] at ho
              subst ho
              have g89 : a1.tmps[89]? = some (.pointer (some ⟨ob, 4, none⟩)) := hh.did 7 _ 89 rfl rfl (hd { on := 7, ground := .data } (by simp) rfl)
              have cc := hj.own.blk.at 4 rfl
              clear hh hd
              have HN : Hid (CJ w u b tb b' tb' S X ob [.int .i64 ok, .int .i64 oi, .int .i64 os, .bool oh, .bool oc] 9 22 (done d 8)) := hj.plain 8 (by decide) (by decide)
              clear hj hi
              refine wpOp_step rfl (fun K hK => ?_)
              go_simp
              exact hK _ _ ⟨by simp [Act.put], HN.out⟩
            | 9, ho, hi, hd =>
              simp only [List.getElem?_cons_succ, List.getElem?_cons_zero, Option.some.injEq] at ho
              subst ho
              have g82 : a1.tmps[82]? = some (.pointer (some ⟨tb, 0, none⟩)) := hh.did 0 _ 82 rfl rfl (hd { on := 0, ground := .data } (by simp) rfl)
              have g84 : a1.tmps[84]? = some (.int .i64 oi) := hh.did 2 _ 84 rfl rfl (hd { on := 2, ground := .data } (by simp) rfl)
              have g86 : a1.tmps[86]? = some (.int .i64 os) := hh.did 4 _ 86 rfl rfl (hd { on := 4, ground := .data } (by simp) rfl)
              have g88 : a1.tmps[88]? = some (.bool oh) := hh.did 6 _ 88 rfl rfl (hd { on := 6, ground := .data } (by simp) rfl)
              have g90 : a1.tmps[90]? = some (.bool oc) := hh.did 8 _ 90 rfl rfl (hd { on := 8, ground := .data } (by simp) rfl)
              clear hh hd
              obtain ⟨F, F', t⟩ := hj.two
              simp only [hi, Bool.false_eq_true, if_false] at t
              have CA : Hid (Calls _ _ _ _ _) := sh_set oi os oh oc u t.tab
              have HN : Hid (∀ u' F2, Sh u' w.heap.size b tb F2 (ShS.set S oi os oh oc) → Mut F u u' → Grow u F F2 → CJ w u' b tb b' tb' S X ob [.int .i64 ok, .int .i64 oi, .int .i64 os, .bool oh, .bool oc] 9 22 (done d 9)) := fun u' F2 s m f => hj.call1 (by decide) t (by rw [← HPX.out]; exact s) m f
              rw [HAn.out] at CA
              clear hj hi t
              refine wpOp_step rfl (fun K hK => ?_)
              go_simp
              refine CA.out.mono ?_
              rintro e u' ⟨rfl, F2, hs, m, f⟩
              exact hK _ _ ⟨by simp [Act.put], HN.out u' F2 hs m f⟩
            | 10, ho, hi, hd =>
              simp only [List.getElem?_cons_succ, List.getElem?_cons_zero, Option.some.injEq] at ho
              subst ho
              have g9 : a1.tmps[9]? = some (.pointer (some ⟨b', 0, none⟩)) := hh.old 9 (by kernel_rfl) rfl
              clear hh hd
              have HN : Hid (CJ w u b tb b' tb' S X ob [.int .i64 ok, .int .i64 oi, .int .i64 os, .bool oh, .bool oc] 9 22 (done d 10)) := hj.plain 10 (by decide) (by decide)
              clear hj hi
              refine wpOp_step rfl (fun K hK => ?_)
              go_simp
              exact hK _ _ ⟨by simp [Act.put], HN.out⟩
            | 11, ho, hi, hd =>
              simp only [List.getElem?_cons_succ, List.getElem?_cons_zero, Option.some.injEq] at ho
              subst ho
              have g92 : a1.tmps[92]? = some (.pointer (some ⟨b', 0, none⟩)) := hh.did 10 _ 92 rfl rfl (hd { on := 10, ground := .data } (by simp) rfl)
              clear hh hd
              have HN : Hid (CJ w u b tb b' tb' S X ob [.int .i64 ok, .int .i64 oi, .int .i64 os, .bool oh, .bool oc] 9 22 (done d 11)) := hj.plain 11 (by decide) (by decide)
              clear hj hi
              refine wpOp_step rfl (fun K hK => ?_)
              go_simp
              exact hK _ _ ⟨by simp [Act.put], HN.out⟩
            | 12, ho, hi, hd =>
              simp only [List.getElem?_cons_succ, List.getElem?_cons_zero, Option.some.injEq] at ho
              subst ho
              have g93 : a1.tmps[93]? = some (.pointer (some ⟨b', 0, none⟩)) := hh.did 11 _ 93 rfl rfl (hd { on := 11, ground := .data } (by simp) rfl)
              clear hh hd
              have HN : Hid (CJ w u b tb b' tb' S X ob [.int .i64 ok, .int .i64 oi, .int .i64 os, .bool oh, .bool oc] 9 22 (done d 12)) := hj.plain 12 (by decide) (by decide)
              clear hj hi
              refine wpOp_step rfl (fun K hK => ?_)
              go_simp
              exact hK _ _ ⟨by simp [Act.put], HN.out⟩
            | 13, ho, hi, hd =>
              simp only [List.getElem?_cons_succ, List.getElem?_cons_zero, Option.some.injEq] at ho
              subst ho
              have g94 : a1.tmps[94]? = some (.pointer (some ⟨b', 0, none⟩)) := hh.did 12 _ 94 rfl rfl (hd { on := 12, ground := .data } (by simp) rfl)
              have cc := hj.c0
              clear hh hd
              have HN : Hid (CJ w u b tb b' tb' S X ob [.int .i64 ok, .int .i64 oi, .int .i64 os, .bool oh, .bool oc] 9 22 (done d 13)) := hj.plain 13 (by decide) (by decide)
              clear hj hi
              refine wpOp_step rfl (fun K hK => ?_)
              go_simp
              exact hK _ _ ⟨by simp [Act.put], HN.out⟩
            | 14, ho, hi, hd =>
              simp only [List.getElem?_cons_succ, List.getElem?_cons_zero, Option.some.injEq] at ho
              subst ho
              have g13 : a1.tmps[13]? = some (.pointer (some ⟨ob, 0, none⟩)) := hh.old 13 (by kernel_rfl) rfl
              clear hh hd
              have HN : Hid (CJ w u b tb b' tb' S X ob [.int .i64 ok, .int .i64 oi, .int .i64 os, .bool oh, .bool oc] 9 22 (done d 14)) := hj.plain 14 (by decide) (by decide)
              clear hj hi
              refine wpOp_step rfl (fun K hK => ?_)
              go_simp
              exact hK _ _ ⟨by simp [Act.put], HN.out⟩
            | 15, ho, hi, hd =>
              simp only [List.getElem?_cons_succ, List.getElem?_cons_zero, Option.some.injEq] at ho
              subst ho
              have g96 : a1.tmps[96]? = some (.pointer (some ⟨ob, 1, none⟩)) := hh.did 14 _ 96 rfl rfl (hd { on := 14, ground := .data } (by simp) rfl)
              have cc := hj.own.blk.at 1 rfl
              clear hh hd
              have HN : Hid (CJ w u b tb b' tb' S X ob [.int .i64 ok, .int .i64 oi, .int .i64 os, .bool oh, .bool oc] 9 22 (done d 15)) := hj.plain 15 (by decide) (by decide)
              clear hj hi
              refine wpOp_step rfl (fun K hK => ?_)
              go_simp
              exact hK _ _ ⟨by simp [Act.put], HN.out⟩
            | 16, ho, hi, hd =>
              simp only [List.getElem?_cons_succ, List.getElem?_cons_zero, Option.some.injEq] at ho
              subst ho
              have g13 : a1.tmps[13]? = some (.pointer (some ⟨ob, 0, none⟩)) := hh.old 13 (by kernel_rfl) rfl
              clear hh hd
              have HN : Hid (CJ w u b tb b' tb' S X ob [.int .i64 ok, .int .i64 oi, .int .i64 os, .bool oh, .bool oc] 9 22 (done d 16)) := hj.plain 16 (by decide) (by decide)
              clear hj hi
              refine wpOp_step rfl (fun K hK => ?_)
              go_simp
              exact hK _ _ ⟨by simp [Act.put], HN.out⟩
            | 17, ho, hi, hd =>
              simp only [List.getElem?_cons_succ, List.getElem?_cons_zero, Option.some.injEq] at ho
              subst ho
              have g98 : a1.tmps[98]? = some (.pointer (some ⟨ob, 2, none⟩)) := hh.did 16 _ 98 rfl rfl (hd { on := 16, ground := .data } (by simp) rfl)
              have cc := hj.own.blk.at 2 rfl
              clear hh hd
              have HN : Hid (CJ w u b tb b' tb' S X ob [.int .i64 ok, .int .i64 oi, .int .i64 os, .bool oh, .bool oc] 9 22 (done d 17)) := hj.plain 17 (by decide) (by decide)
              clear hj hi
              refine wpOp_step rfl (fun K hK => ?_)
              go_simp
              exact hK _ _ ⟨by simp [Act.put], HN.out⟩
            | 18, ho, hi, hd =>
              simp only [List.getElem?_cons_succ, List.getElem?_cons_zero, Option.some.injEq] at ho
              subst ho
              have g13 : a1.tmps[13]? = some (.pointer (some ⟨ob, 0, none⟩)) := hh.old 13 (by kernel_rfl) rfl
              clear hh hd
              have HN : Hid (CJ w u b tb b' tb' S X ob [.int .i64 ok, .int .i64 oi, .int .i64 os, .bool oh, .bool oc] 9 22 (done d 18)) := hj.plain 18 (by decide) (by decide)
              clear hj hi
              refine wpOp_step rfl (fun K hK => ?_)
              go_simp
              exact hK _ _ ⟨by simp [Act.put], HN.out⟩
            | 19, ho, hi, hd =>
              simp only [List.getElem?_cons_succ, List.getElem?_cons_zero, Option.some.injEq] at ho
              subst ho
              have g100 : a1.tmps[100]? = some (.pointer (some ⟨ob, 3, none⟩)) := hh.did 18 _ 100 rfl rfl (hd { on := 18, ground := .data } (by simp) rfl)
              have cc := hj.own.blk.at 3 rfl
              clear hh hd
              have HN : Hid (CJ w u b tb b' tb' S X ob [.int .i64 ok, .int .i64 oi, .int .i64 os, .bool oh, .bool oc] 9 22 (done d 19)) := hj.plain 19 (by decide) (by decide)
              clear hj hi
              refine wpOp_step rfl (fun K hK => ?_)
              go_simp
              exact hK _ _ ⟨by simp [Act.put], HN.out⟩
            | 20, ho, hi, hd =>
              simp only [List.getElem?_cons_succ, List.getElem?_cons_zero, Option.some.injEq] at ho
              subst ho
              have g13 : a1.tmps[13]? = some (.pointer (some ⟨ob, 0, none⟩)) := hh.old 13 (by kernel_rfl) rfl
              clear hh hd
              have HN : Hid (CJ w u b tb b' tb' S X ob [.int .i64 ok, .int .i64 oi, .int .i64 os, .bool oh, .bool oc] 9 22 (done d 20)) := hj.plain 20 (by decide) (by decide)
              clear hj hi
              refine wpOp_step rfl (fun K hK => ?_)
              go_simp
              exact hK _ _ ⟨by simp [Act.put], HN.out⟩
            | 21, ho, hi, hd =>
              simp only [List.getElem?_cons_succ, List.getElem?_cons_zero, Option.some.injEq] at ho
              subst ho
              have g102 : a1.tmps[102]? = some (.pointer (some ⟨ob, 4, none⟩)) := hh.did 20 _ 102 rfl rfl (hd { on := 20, ground := .data } (by simp) rfl)
              have cc := hj.own.blk.at 4 rfl
              clear hh hd
              have HN : Hid (CJ w u b tb b' tb' S X ob [.int .i64 ok, .int .i64 oi, .int .i64 os, .bool oh, .bool oc] 9 22 (done d 21)) := hj.plain 21 (by decide) (by decide)
              clear hj hi
              refine wpOp_step rfl (fun K hK => ?_)
              go_simp
              exact hK _ _ ⟨by simp [Act.put], HN.out⟩
            | 22, ho, hi, hd =>
              simp only [List.getElem?_cons_succ, List.getElem?_cons_zero, Option.some.injEq] at ho
              subst ho
              have g95 : a1.tmps[95]? = some (.pointer (some ⟨tb', 0, none⟩)) := hh.did 13 _ 95 rfl rfl (hd { on := 13, ground := .data } (by simp) rfl)
              have g97 : a1.tmps[97]? = some (.int .i64 oi) := hh.did 15 _ 97 rfl rfl (hd { on := 15, ground := .data } (by simp) rfl)
              have g99 : a1.tmps[99]? = some (.int .i64 os) := hh.did 17 _ 99 rfl rfl (hd { on := 17, ground := .data } (by simp) rfl)
              have g101 : a1.tmps[101]? = some (.bool oh) := hh.did 19 _ 101 rfl rfl (hd { on := 19, ground := .data } (by simp) rfl)
              have g103 : a1.tmps[103]? = some (.bool oc) := hh.did 21 _ 103 rfl rfl (hd { on := 21, ground := .data } (by simp) rfl)
              clear hh hd
              obtain ⟨F, F', t⟩ := hj.two
              simp only [hi, Bool.false_eq_true, if_false] at t
              have CA : Hid (Calls _ _ _ _ _) := rsh_set oi os oh oc u t.ref
              have HN : Hid (∀ u' F2, RSh u' w.heap.size b' tb' F2 (ShS.set S oi os oh oc) → Mut F' u u' → Grow u F' F2 → CJ w u' b tb b' tb' S X ob [.int .i64 ok, .int .i64 oi, .int .i64 os, .bool oh, .bool oc] 9 22 (done d 22)) := fun u' F2 s m f => hj.call2 (by decide) t (by rw [← HPX.out]; exact s) m f
              rw [HAn.out] at CA
              clear hj hi t
              refine wpOp_step rfl (fun K hK => ?_)
              go_simp
              refine CA.out.mono ?_
              rintro e u' ⟨rfl, F2, hs, m, f⟩
              exact hK _ _ ⟨by simp [Act.put], HN.out u' F2 hs m f⟩
            | 23, ho, hi, hd =>
              simp only [List.getElem?_cons_succ, List.getElem?_cons_zero, Option.some.injEq] at ho
              subst ho
              have g91 : a1.tmps[91]? = some (.bool an) := hh.did 9 _ 91 rfl rfl (hd { on := 9, ground := .data } (by simp) rfl)
              have g104 : a1.tmps[104]? = some (.bool an) := hh.did 22 _ 104 rfl rfl (hd { on := 22, ground := .data } (by simp) rfl)
              have zz : (an == an) = true := by simp
              clear hh hd
              have HN : Hid (CJ w u b tb b' tb' S X ob [.int .i64 ok, .int .i64 oi, .int .i64 os, .bool oh, .bool oc] 9 22 (done d 23)) := hj.plain 23 (by decide) (by decide)
              clear hj hi
              refine wpOp_step rfl (fun K hK => ?_)
              go_simp
              exact hK _ _ ⟨by simp [Act.put], HN.out⟩
            | 24, ho, hi, hd =>
              simp only [List.getElem?_cons_succ, List.getElem?_cons_zero, Option.some.injEq] at ho
              subst ho
              have g105 : a1.tmps[105]? = some (.bool true) := hh.did 23 _ 105 rfl rfl (hd { on := 23, ground := .data } (by simp) rfl)
              clear hh hd
              have HN : Hid (CJ w u b tb b' tb' S X ob [.int .i64 ok, .int .i64 oi, .int .i64 os, .bool oh, .bool oc] 9 22 (done d 24)) := hj.plain 24 (by decide) (by decide)
              clear hj hi
              refine wpOp_step rfl (fun K hK => ?_)
              go_simp
              exact hK _ _ ⟨by simp [Act.put], HN.out⟩
            | n + 25, ho, hi, hd => simp at ho
          · intro u d hall hj
            obtain ⟨F2, F3, t⟩ := hj.two
            have h1 := hall 9 (by decide)
            have h2 := hall 22 (by decide)
            rw [h1, h2] at t
            have HE : Hid (Tw w u b tb b' tb' F2 F3 X X ∧ Own u ob 34 [.int .i64 ok, .int .i64 oi, .int .i64 os, .bool oh, .bool oc] ∧ X.c ≤ j + 1) := ⟨t, hj.own, HXc.out⟩
            clear hall hj t h1 h2
            simp only [List.getD_cons_succ, List.getD_cons_zero]
            go_wp2
            go_meet
            case rel => exact ⟨rfl, X, _, _, HE.out⟩
        · by_cases g1 : ok = 1
          · have f0 : (ok == 0) = false := by simpa using g0
            have f1 : (ok == 1) = true := by simpa using g1
            clear g0 g1
            obtain ⟨X, hPX⟩ : ∃ X : ShS, greyS S oi oc = X := ⟨_, rfl⟩
            obtain ⟨an, hAn⟩ : ∃ an : Bool, (greyB S oi oc) = an := ⟨_, rfl⟩
            have HPX : Hid (greyS S oi oc = X) := hPX
            have HAn : Hid ((greyB S oi oc) = an) := hAn
            have hXc : X.c ≤ j + 1 := by
              rw [← hPX]
              have := HSc.out
              rw [greyS_c]; omega
            have HXc : Hid (X.c ≤ j + 1) := hXc
            clear hPX hAn hXc
            go_upto_region 21 with fail
            refine wp_region_phase [(.pointer (some ⟨b, 0, none⟩)), (.pointer (some ⟨ob, 1, none⟩)), (.int .i64 oi), (.pointer (some ⟨ob, 4, none⟩)), (.bool oc), (.bool an), (.pointer (some ⟨b', 0, none⟩)), (.pointer (some ⟨ob, 1, none⟩)), (.int .i64 oi), (.pointer (some ⟨ob, 4, none⟩)), (.bool oc), (.bool an), (.bool true), (.bool true)] [(14, 13), (108, 0), (109, 1), (110, 2), (111, 3), (112, 4), (113, 5), (114, 6), (115, 7), (116, 8), (117, 9), (118, 10), (119, 11), (120, 12)] [_, _, _, _, _, _, _, _, _, _, _, _, _, _, _, _, _, _, _, _, _, _, _, _, _, _, _, _, _, _, _, _, _, _, _, _, _, _, _, _, _, _, _, _, _, _, _, _, _, _, _, _, _, _, _, _, _, _, _, _, _, _, _, _, _, _, _, _, _, _, _, _, _, _, _, _, _, _, _, _, _, _, _, _, _, _, _, _, _, _, _, _, _, _, _, _, _, _, _, _, _, _, _, _, _, _, _, _, _, _, _, _, _, _, _, _, _, _, _, _, _, _, _, _, _, _, _, _, _, _, _, _, _, _, _, _, _, _, _, _, _, _, _, _, _, _, _, _, _, _, _, _, _, _, _, _, _, _, _, _, _, _, _, _, _, _, _, _, _, _, _, _, _, _, _, _, _, _, _, _, _, _, _, _, _, _, _, _, _, _, _, _, _, _, _, _, _, _, _, _, _, _, _, _, _, _, _, _, _, _, _, _, _, _, _, _, _, _, _, _, _, _, _, _, _, _, _, _, _, _, _, _] (fun d u => CJ w u b tb b' tb' S X ob [.int .i64 ok, .int .i64 oi, .int .i64 os, .bool oh, .bool oc] 5 11 d) (by kernel_rfl) (by kernel_rfl) (by kernel_rfl) (by kernel_rfl) rfl ?_ ?_ ?_
            · exact ⟨BO.out.kept (Kept.refl _).drew, F, F', by simpa using HW.out.still (Kept.refl _).drew⟩
            · intro i1 o ho a1 d u hh hj hi hd
              match i1, ho, hi, hd with
              | 0, ho, hi, hd =>
                simp only [List.getElem?_cons_zero, Option.some.injEq] at ho
                subst ho
                have g7 : a1.tmps[7]? = some (.pointer (some ⟨b, 0, none⟩)) := hh.old 7 (by kernel_rfl) rfl
                clear hh hd
                have HN : Hid (CJ w u b tb b' tb' S X ob [.int .i64 ok, .int .i64 oi, .int .i64 os, .bool oh, .bool oc] 5 11 (done d 0)) := hj.plain 0 (by decide) (by decide)
                clear hj hi
                refine wpOp_step rfl (fun K hK => ?_)
                go_simp
                exact hK _ _ ⟨by simp [Act.put], HN.out⟩
              | 1, ho, hi, hd =>
                simp only [List.getElem?_cons_succ, List.getElem?_cons_zero, Option.some.injEq] at ho
                subst ho
                have g13 : a1.tmps[13]? = some (.pointer (some ⟨ob, 0, none⟩)) := hh.old 13 (by kernel_rfl) rfl
                clear hh hd
                have HN : Hid (CJ w u b tb b' tb' S X ob [.int .i64 ok, .int .i64 oi, .int .i64 os, .bool oh, .bool oc] 5 11 (done d 1)) := hj.plain 1 (by decide) (by decide)
                clear hj hi
                refine wpOp_step rfl (fun K hK => ?_)
                go_simp
                exact hK _ _ ⟨by simp [Act.put], HN.out⟩
              | 2, ho, hi, hd =>
                simp only [List.getElem?_cons_succ, List.getElem?_cons_zero, Option.some.injEq] at ho
                subst ho
                have g109 : a1.tmps[109]? = some (.pointer (some ⟨ob, 1, none⟩)) := hh.did 1 _ 109 rfl rfl (hd { on := 1, ground := .data } (by simp) rfl)
                have cc := hj.own.blk.at 1 rfl
                clear hh hd
                have HN : Hid (CJ w u b tb b' tb' S X ob [.int .i64 ok, .int .i64 oi, .int .i64 os, .bool oh, .bool oc] 5 11 (done d 2)) := hj.plain 2 (by decide) (by decide)
                clear hj hi
                refine wpOp_step rfl (fun K hK => ?_)
                go_simp
                exact hK _ _ ⟨by simp [Act.put], HN.out⟩
              | 3, ho, hi, hd =>
                simp only [List.getElem?_cons_succ, List.getElem?_cons_zero, Option.some.injEq] at ho
                subst ho
                have g13 : a1.tmps[13]? = some (.pointer (some ⟨ob, 0, none⟩)) := hh.old 13 (by kernel_rfl) rfl
                clear hh hd
                have HN : Hid (CJ w u b tb b' tb' S X ob [.int .i64 ok, .int .i64 oi, .int .i64 os, .bool oh, .bool oc] 5 11 (done d 3)) := hj.plain 3 (by decide) (by decide)
                clear hj hi
                refine wpOp_step rfl (fun K hK => ?_)
                go_simp
                exact hK _ _ ⟨by simp [Act.put], HN.out⟩
              | 4, ho, hi, hd =>
                simp only [List.getElem?_cons_succ, List.getElem?_cons_zero, Option.some.injEq] at ho
                subst ho
                have g111 : a1.tmps[111]? = some (.pointer (some ⟨ob, 4, none⟩)) := hh.did 3 _ 111 rfl rfl (hd { on := 3, ground := .data } (by simp) rfl)
                have cc := hj.own.blk.at 4 rfl
                clear hh hd
                have HN : Hid (CJ w u b tb b' tb' S X ob [.int .i64 ok, .int .i64 oi, .int .i64 os, .bool oh, .bool oc] 5 11 (done d 4)) := hj.plain 4 (by decide) (by decide)
                clear hj hi
                refine wpOp_step rfl (fun K hK => ?_)
                go_simp
                exact hK _ _ ⟨by simp [Act.put], HN.out⟩
              | 5, ho, hi, hd =>
                simp only [List.getElem?_cons_succ, List.getElem?_cons_zero, Option.some.injEq] at ho
                subst ho
                have g108 : a1.tmps[108]? = some (.pointer (some ⟨b, 0, none⟩)) := hh.did 0 _ 108 rfl rfl (hd { on := 0, ground := .data } (by simp) rfl)
                have g110 : a1.tmps[110]? = some (.int .i64 oi) := hh.did 2 _ 110 rfl rfl (hd { on := 2, ground := .data } (by simp) rfl)
                have g112 : a1.tmps[112]? = some (.bool oc) := hh.did 4 _ 112 rfl rfl (hd { on := 4, ground := .data } (by simp) rfl)
                clear hh hd
                obtain ⟨F, F', t⟩ := hj.two
                simp only [hi, Bool.false_eq_true, if_false] at t
                have CA : Hid (Calls _ _ _ _ _) := sh_grey oi oc u t.tab HLt.out
                have HN : Hid (∀ u' F2, Sh u' w.heap.size b tb F2 (greyS S oi oc) → Mut F u u' → Grow u F F2 → CJ w u' b tb b' tb' S X ob [.int .i64 ok, .int .i64 oi, .int .i64 os, .bool oh, .bool oc] 5 11 (done d 5)) := fun u' F2 s m f => hj.call1 (by decide) t (by rw [← HPX.out]; exact s) m f
                rw [HAn.out] at CA
                clear hj hi t
                refine wpOp_step rfl (fun K hK => ?_)
                go_simp
                refine CA.out.mono ?_
                rintro e u' ⟨rfl, F2, hs, m, f⟩
                exact hK _ _ ⟨by simp [Act.put], HN.out u' F2 hs m f⟩
              | 6, ho, hi, hd =>
                simp only [List.getElem?_cons_succ, List.getElem?_cons_zero, Option.some.injEq] at ho
                subst ho
                have g9 : a1.tmps[9]? = some (.pointer (some ⟨b', 0, none⟩)) := hh.old 9 (by kernel_rfl) rfl
                clear hh hd
                have HN : Hid (CJ w u b tb b' tb' S X ob [.int .i64 ok, .int .i64 oi, .int .i64 os, .bool oh, .bool oc] 5 11 (done d 6)) := hj.plain 6 (by decide) (by decide)
                clear hj hi
                refine wpOp_step rfl (fun K hK => ?_)
                go_simp
                exact hK _ _ ⟨by simp [Act.put], HN.out⟩
              | 7, ho, hi, hd =>
                simp only [List.getElem?_cons_succ, List.getElem?_cons_zero, Option.some.injEq] at ho
                subst ho
                have g13 : a1.tmps[13]? = some (.pointer (some ⟨ob, 0, none⟩)) := hh.old 13 (by kernel_rfl) rfl
                clear hh hd
                have HN : Hid (CJ w u b tb b' tb' S X ob [.int .i64 ok, .int .i64 oi, .int .i64 os, .bool oh, .bool oc] 5 11 (done d 7)) := hj.plain 7 (by decide) (by decide)
                clear hj hi
                refine wpOp_step rfl (fun K hK => ?_)
                go_simp
                exact hK _ _ ⟨by simp [Act.put], HN.out⟩
              | 8, ho, hi, hd =>
                simp only [List.getElem?_cons_succ, List.getElem?_cons_zero, Option.some.injEq] at ho
                subst ho
                have g115 : a1.tmps[115]? = some (.pointer (some ⟨ob, 1, none⟩)) := hh.did 7 _ 115 rfl rfl (hd { on := 7, ground := .data } (by simp) rfl)
                have cc := hj.own.blk.at 1 rfl
                clear hh hd
                have HN : Hid (CJ w u b tb b' tb' S X ob [.int .i64 ok, .int .i64 oi, .int .i64 os, .bool oh, .bool oc] 5 11 (done d 8)) := hj.plain 8 (by decide) (by decide)
                clear hj hi
                refine wpOp_step rfl (fun K hK => ?_)
                go_simp
                exact hK _ _ ⟨by simp [Act.put], HN.out⟩
              | 9, ho, hi, hd =>
                simp only [List.getElem?_cons_succ, List.getElem?_cons_zero, Option.some.injEq] at ho
                subst ho
                have g13 : a1.tmps[13]? = some (.pointer (some ⟨ob, 0, none⟩)) := hh.old 13 (by kernel_rfl) rfl
                clear hh hd
                have HN : Hid (CJ w u b tb b' tb' S X ob [.int .i64 ok, .int .i64 oi, .int .i64 os, .bool oh, .bool oc] 5 11 (done d 9)) := hj.plain 9 (by decide) (by decide)
                clear hj hi
                refine wpOp_step rfl (fun K hK => ?_)
                go_simp
                exact hK _ _ ⟨by simp [Act.put], HN.out⟩
              | 10, ho, hi, hd =>
                simp only [List.getElem?_cons_succ, List.getElem?_cons_zero, Option.some.injEq] at ho
                subst ho
                have g117 : a1.tmps[117]? = some (.pointer (some ⟨ob, 4, none⟩)) := hh.did 9 _ 117 rfl rfl (hd { on := 9, ground := .data } (by simp) rfl)
                have cc := hj.own.blk.at 4 rfl
                clear hh hd
                have HN : Hid (CJ w u b tb b' tb' S X ob [.int .i64 ok, .int .i64 oi, .int .i64 os, .bool oh, .bool oc] 5 11 (done d 10)) := hj.plain 10 (by decide) (by decide)
                clear hj hi
                refine wpOp_step rfl (fun K hK => ?_)
                go_simp
                exact hK _ _ ⟨by simp [Act.put], HN.out⟩
              | 11, ho, hi, hd =>
                simp only [List.getElem?_cons_succ, List.getElem?_cons_zero, Option.some.injEq] at ho
                subst ho
                have g114 : a1.tmps[114]? = some (.pointer (some ⟨b', 0, none⟩)) := hh.did 6 _ 114 rfl rfl (hd { on := 6, ground := .data } (by simp) rfl)
                have g116 : a1.tmps[116]? = some (.int .i64 oi) := hh.did 8 _ 116 rfl rfl (hd { on := 8, ground := .data } (by simp) rfl)
                have g118 : a1.tmps[118]? = some (.bool oc) := hh.did 10 _ 118 rfl rfl (hd { on := 10, ground := .data } (by simp) rfl)
                clear hh hd
                obtain ⟨F, F', t⟩ := hj.two
                simp only [hi, Bool.false_eq_true, if_false] at t
                have CA : Hid (Calls _ _ _ _ _) := rsh_grey oi oc u t.ref HLt.out
                have HN : Hid (∀ u' F2, RSh u' w.heap.size b' tb' F2 (greyS S oi oc) → Mut F' u u' → Grow u F' F2 → CJ w u' b tb b' tb' S X ob [.int .i64 ok, .int .i64 oi, .int .i64 os, .bool oh, .bool oc] 5 11 (done d 11)) := fun u' F2 s m f => hj.call2 (by decide) t (by rw [← HPX.out]; exact s) m f
                rw [HAn.out] at CA
                clear hj hi t
                refine wpOp_step rfl (fun K hK => ?_)
                go_simp
                refine CA.out.mono ?_
                rintro e u' ⟨rfl, F2, hs, m, f⟩
                exact hK _ _ ⟨by simp [Act.put], HN.out u' F2 hs m f⟩
              | 12, ho, hi, hd =>
                simp only [List.getElem?_cons_succ, List.getElem?_cons_zero, Option.some.injEq] at ho
                subst ho
                have g113 : a1.tmps[113]? = some (.bool an) := hh.did 5 _ 113 rfl rfl (hd { on := 5, ground := .data } (by simp) rfl)
                have g119 : a1.tmps[119]? = some (.bool an) := hh.did 11 _ 119 rfl rfl (hd { on := 11, ground := .data } (by simp) rfl)
                have zz : (an == an) = true := by simp
                clear hh hd
                have HN : Hid (CJ w u b tb b' tb' S X ob [.int .i64 ok, .int .i64 oi, .int .i64 os, .bool oh, .bool oc] 5 11 (done d 12)) := hj.plain 12 (by decide) (by decide)
                clear hj hi
                refine wpOp_step rfl (fun K hK => ?_)
                go_simp
                exact hK _ _ ⟨by simp [Act.put], HN.out⟩
              | 13, ho, hi, hd =>
                simp only [List.getElem?_cons_succ, List.getElem?_cons_zero, Option.some.injEq] at ho
                subst ho
                have g120 : a1.tmps[120]? = some (.bool true) := hh.did 12 _ 120 rfl rfl (hd { on := 12, ground := .data } (by simp) rfl)
                clear hh hd
                have HN : Hid (CJ w u b tb b' tb' S X ob [.int .i64 ok, .int .i64 oi, .int .i64 os, .bool oh, .bool oc] 5 11 (done d 13)) := hj.plain 13 (by decide) (by decide)
                clear hj hi
                refine wpOp_step rfl (fun K hK => ?_)
                go_simp
                exact hK _ _ ⟨by simp [Act.put], HN.out⟩
              | n + 14, ho, hi, hd => simp at ho
            · intro u d hall hj
              obtain ⟨F2, F3, t⟩ := hj.two
              have h1 := hall 5 (by decide)
              have h2 := hall 11 (by decide)
              rw [h1, h2] at t
              have HE : Hid (Tw w u b tb b' tb' F2 F3 X X ∧ Own u ob 34 [.int .i64 ok, .int .i64 oi, .int .i64 os, .bool oh, .bool oc] ∧ X.c ≤ j + 1) := ⟨t, hj.own, HXc.out⟩
              clear hall hj t h1 h2
              simp only [List.getD_cons_succ, List.getD_cons_zero]
              go_wp2
              go_meet
              case rel => exact ⟨rfl, X, _, _, HE.out⟩
          · by_cases g2 : ok = 2
            · have f0 : (ok == 0) = false := by simpa using g0
              have f1 : (ok == 1) = false := by simpa using g1
              have f2 : (ok == 2) = true := by simpa using g2
              clear g0 g1 g2
              obtain ⟨X, hPX⟩ : ∃ X : ShS, S.tick = X := ⟨_, rfl⟩
              obtain ⟨an, hAn⟩ : ∃ an : Bool, (blackB S oi oc) = an := ⟨_, rfl⟩
              have HPX : Hid (S.tick = X) := hPX
              have HAn : Hid ((blackB S oi oc) = an) := hAn
              have hXc : X.c ≤ j + 1 := by
                rw [← hPX]
                have := HSc.out
                simp only [ShS.tick]; omega
              have HXc : Hid (X.c ≤ j + 1) := hXc
              clear hPX hAn hXc
              go_upto_region 23 with fail
              refine wp_region_phase [(.pointer (some ⟨b, 0, none⟩)), (.pointer (some ⟨ob, 1, none⟩)), (.int .i64 oi), (.pointer (some ⟨ob, 4, none⟩)), (.bool oc), (.bool an), (.pointer (some ⟨b', 0, none⟩)), (.pointer (some ⟨ob, 1, none⟩)), (.int .i64 oi), (.pointer (some ⟨ob, 4, none⟩)), (.bool oc), (.bool an), (.bool true), (.bool true)] [(14, 13), (123, 0), (124, 1), (125, 2), (126, 3), (127, 4), (128, 5), (129, 6), (130, 7), (131, 8), (132, 9), (133, 10), (134, 11), (135, 12)] [_, _, _, _, _, _, _, _, _, _, _, _, _, _, _, _, _, _, _, _, _, _, _, _, _, _, _, _, _, _, _, _, _, _, _, _, _, _, _, _, _, _, _, _, _, _, _, _, _, _, _, _, _, _, _, _, _, _, _, _, _, _, _, _, _, _, _, _, _, _, _, _, _, _, _, _, _, _, _, _, _, _, _, _, _, _, _, _, _, _, _, _, _, _, _, _, _, _, _, _, _, _, _, _, _, _, _, _, _, _, _, _, _, _, _, _, _, _, _, _, _, _, _, _, _, _, _, _, _, _, _, _, _, _, _, _, _, _, _, _, _, _, _, _, _, _, _, _, _, _, _, _, _, _, _, _, _, _, _, _, _, _, _, _, _, _, _, _, _, _, _, _, _, _, _, _, _, _, _, _, _, _, _, _, _, _, _, _, _, _, _, _, _, _, _, _, _, _, _, _, _, _, _, _, _, _, _, _, _, _, _, _, _, _, _, _, _, _, _, _, _, _, _, _, _, _, _, _, _, _, _, _] (fun d u => CJ w u b tb b' tb' S X ob [.int .i64 ok, .int .i64 oi, .int .i64 os, .bool oh, .bool oc] 5 11 d) (by kernel_rfl) (by kernel_rfl) (by kernel_rfl) (by kernel_rfl) rfl ?_ ?_ ?_
              · exact ⟨BO.out.kept (Kept.refl _).drew, F, F', by simpa using HW.out.still (Kept.refl _).drew⟩
              · intro i1 o ho a1 d u hh hj hi hd
                match i1, ho, hi, hd with
                | 0, ho, hi, hd =>
                  simp only [List.getElem?_cons_zero, Option.some.injEq] at ho
                  subst ho
                  have g7 : a1.tmps[7]? = some (.pointer (some ⟨b, 0, none⟩)) := hh.old 7 (by kernel_rfl) rfl
                  clear hh hd
                  have HN : Hid (CJ w u b tb b' tb' S X ob [.int .i64 ok, .int .i64 oi, .int .i64 os, .bool oh, .bool oc] 5 11 (done d 0)) := hj.plain 0 (by decide) (by decide)
                  clear hj hi
                  refine wpOp_step rfl (fun K hK => ?_)
                  go_simp
                  exact hK _ _ ⟨by simp [Act.put], HN.out⟩
                | 1, ho, hi, hd =>
                  simp only [List.getElem?_cons_succ, List.getElem?_cons_zero, Option.some.injEq] at ho
                  subst ho
                  have g13 : a1.tmps[13]? = some (.pointer (some ⟨ob, 0, none⟩)) := hh.old 13 (by kernel_rfl) rfl
                  clear hh hd
                  have HN : Hid (CJ w u b tb b' tb' S X ob [.int .i64 ok, .int .i64 oi, .int .i64 os, .bool oh, .bool oc] 5 11 (done d 1)) := hj.plain 1 (by decide) (by decide)
                  clear hj hi
                  refine wpOp_step rfl (fun K hK => ?_)
                  go_simp
                  exact hK _ _ ⟨by simp [Act.put], HN.out⟩
                | 2, ho, hi, hd =>
                  simp only [List.getElem?_cons_succ, List.getElem?_cons_zero, Option.some.injEq] at ho
                  subst ho
                  have g124 : a1.tmps[124]? = some (.pointer (some ⟨ob, 1, none⟩)) := hh.did 1 _ 124 rfl rfl (hd { on := 1, ground := .data } (by simp) rfl)
                  have cc := hj.own.blk.at 1 rfl
                  clear hh hd
                  have HN : Hid (CJ w u b tb b' tb' S X ob [.int .i64 ok, .int .i64 oi, .int .i64 os, .bool oh, .bool oc] 5 11 (done d 2)) := hj.plain 2 (by decide) (by decide)
                  clear hj hi
                  refine wpOp_step rfl (fun K hK => ?_)
                  go_simp
                  exact hK _ _ ⟨by simp [Act.put], HN.out⟩
                | 3, ho, hi, hd =>
                  simp only [List.getElem?_cons_succ, List.getElem?_cons_zero, Option.some.injEq] at ho
                  subst ho
                  have g13 : a1.tmps[13]? = some (.pointer (some ⟨ob, 0, none⟩)) := hh.old 13 (by kernel_rfl) rfl
                  clear hh hd
                  have HN : Hid (CJ w u b tb b' tb' S X ob [.int .i64 ok, .int .i64 oi, .int .i64 os, .bool oh, .bool oc] 5 11 (done d 3)) := hj.plain 3 (by decide) (by decide)
                  clear hj hi
                  refine wpOp_step rfl (fun K hK => ?_)
                  go_simp
                  exact hK _ _ ⟨by simp [Act.put], HN.out⟩
                | 4, ho, hi, hd =>
                  simp only [List.getElem?_cons_succ, List.getElem?_cons_zero, Option.some.injEq] at ho
                  subst ho
                  have g126 : a1.tmps[126]? = some (.pointer (some ⟨ob, 4, none⟩)) := hh.did 3 _ 126 rfl rfl (hd { on := 3, ground := .data } (by simp) rfl)
                  have cc := hj.own.blk.at 4 rfl
                  clear hh hd
                  have HN : Hid (CJ w u b tb b' tb' S X ob [.int .i64 ok, .int .i64 oi, .int .i64 os, .bool oh, .bool oc] 5 11 (done d 4)) := hj.plain 4 (by decide) (by decide)
                  clear hj hi
                  refine wpOp_step rfl (fun K hK => ?_)
                  go_simp
                  exact hK _ _ ⟨by simp [Act.put], HN.out⟩
                | 5, ho, hi, hd =>
                  simp only [List.getElem?_cons_succ, List.getElem?_cons_zero, Option.some.injEq] at ho
                  subst ho
                  have g123 : a1.tmps[123]? = some (.pointer (some ⟨b, 0, none⟩)) := hh.did 0 _ 123 rfl rfl (hd { on := 0, ground := .data } (by simp) rfl)
                  have g125 : a1.tmps[125]? = some (.int .i64 oi) := hh.did 2 _ 125 rfl rfl (hd { on := 2, ground := .data } (by simp) rfl)
                  have g127 : a1.tmps[127]? = some (.bool oc) := hh.did 4 _ 127 rfl rfl (hd { on := 4, ground := .data } (by simp) rfl)
                  clear hh hd
                  obtain ⟨F, F', t⟩ := hj.two
                  simp only [hi, Bool.false_eq_true, if_false] at t
                  have CA : Hid (Calls _ _ _ _ _) := sh_black oi oc u t.tab HLt.out
                  have HN : Hid (∀ u' F2, Sh u' w.heap.size b tb F2 (S.tick) → Mut F u u' → Grow u F F2 → CJ w u' b tb b' tb' S X ob [.int .i64 ok, .int .i64 oi, .int .i64 os, .bool oh, .bool oc] 5 11 (done d 5)) := fun u' F2 s m f => hj.call1 (by decide) t (by rw [← HPX.out]; exact s) m f
                  rw [HAn.out] at CA
                  clear hj hi t
                  refine wpOp_step rfl (fun K hK => ?_)
                  go_simp
                  refine CA.out.mono ?_
                  rintro e u' ⟨rfl, F2, hs, m, f⟩
                  exact hK _ _ ⟨by simp [Act.put], HN.out u' F2 hs m f⟩
                | 6, ho, hi, hd =>
                  simp only [List.getElem?_cons_succ, List.getElem?_cons_zero, Option.some.injEq] at ho
                  subst ho
                  have g9 : a1.tmps[9]? = some (.pointer (some ⟨b', 0, none⟩)) := hh.old 9 (by kernel_rfl) rfl
                  clear hh hd
                  have HN : Hid (CJ w u b tb b' tb' S X ob [.int .i64 ok, .int .i64 oi, .int .i64 os, .bool oh, .bool oc] 5 11 (done d 6)) := hj.plain 6 (by decide) (by decide)
                  clear hj hi
                  refine wpOp_step rfl (fun K hK => ?_)
                  go_simp
                  exact hK _ _ ⟨by simp [Act.put], HN.out⟩
                | 7, ho, hi, hd =>
                  simp only [List.getElem?_cons_succ, List.getElem?_cons_zero, Option.some.injEq] at ho
                  subst ho
                  have g13 : a1.tmps[13]? = some (.pointer (some ⟨ob, 0, none⟩)) := hh.old 13 (by kernel_rfl) rfl
                  clear hh hd
                  have HN : Hid (CJ w u b tb b' tb' S X ob [.int .i64 ok, .int .i64 oi, .int .i64 os, .bool oh, .bool oc] 5 11 (done d 7)) := hj.plain 7 (by decide) (by decide)
                  clear hj hi
                  refine wpOp_step rfl (fun K hK => ?_)
                  go_simp
                  exact hK _ _ ⟨by simp [Act.put], HN.out⟩
                | 8, ho, hi, hd =>
                  simp only [List.getElem?_cons_succ, List.getElem?_cons_zero, Option.some.injEq] at ho
                  subst ho
                  have g130 : a1.tmps[130]? = some (.pointer (some ⟨ob, 1, none⟩)) := hh.did 7 _ 130 rfl rfl (hd { on := 7, ground := .data } (by simp) rfl)
                  have cc := hj.own.blk.at 1 rfl
                  clear hh hd
                  have HN : Hid (CJ w u b tb b' tb' S X ob [.int .i64 ok, .int .i64 oi, .int .i64 os, .bool oh, .bool oc] 5 11 (done d 8)) := hj.plain 8 (by decide) (by decide)
                  clear hj hi
                  refine wpOp_step rfl (fun K hK => ?_)
                  go_simp
                  exact hK _ _ ⟨by simp [Act.put], HN.out⟩
                | 9, ho, hi, hd =>
                  simp only [List.getElem?_cons_succ, List.getElem?_cons_zero, Option.some.injEq] at ho
                  subst ho
                  have g13 : a1.tmps[13]? = some (.pointer (some ⟨ob, 0, none⟩)) := hh.old 13 (by kernel_rfl) rfl
                  clear hh hd
                  have HN : Hid (CJ w u b tb b' tb' S X ob [.int .i64 ok, .int .i64 oi, .int .i64 os, .bool oh, .bool oc] 5 11 (done d 9)) := hj.plain 9 (by decide) (by decide)
                  clear hj hi
                  refine wpOp_step rfl (fun K hK => ?_)
                  go_simp
                  exact hK _ _ ⟨by simp [Act.put], HN.out⟩
                | 10, ho, hi, hd =>
                  simp only [List.getElem?_cons_succ, List.getElem?_cons_zero, Option.some.injEq] at ho
                  subst ho
                  have g132 : a1.tmps[132]? = some (.pointer (some ⟨ob, 4, none⟩)) := hh.did 9 _ 132 rfl rfl (hd { on := 9, ground := .data } (by simp) rfl)
                  have cc := hj.own.blk.at 4 rfl
                  clear hh hd
                  have HN : Hid (CJ w u b tb b' tb' S X ob [.int .i64 ok, .int .i64 oi, .int .i64 os, .bool oh, .bool oc] 5 11 (done d 10)) := hj.plain 10 (by decide) (by decide)
                  clear hj hi
                  refine wpOp_step rfl (fun K hK => ?_)
                  go_simp
                  exact hK _ _ ⟨by simp [Act.put], HN.out⟩
                | 11, ho, hi, hd =>
                  simp only [List.getElem?_cons_succ, List.getElem?_cons_zero, Option.some.injEq] at ho
                  subst ho
                  have g129 : a1.tmps[129]? = some (.pointer (some ⟨b', 0, none⟩)) := hh.did 6 _ 129 rfl rfl (hd { on := 6, ground := .data } (by simp) rfl)
                  have g131 : a1.tmps[131]? = some (.int .i64 oi) := hh.did 8 _ 131 rfl rfl (hd { on := 8, ground := .data } (by simp) rfl)
                  have g133 : a1.tmps[133]? = some (.bool oc) := hh.did 10 _ 133 rfl rfl (hd { on := 10, ground := .data } (by simp) rfl)
                  clear hh hd
                  obtain ⟨F, F', t⟩ := hj.two
                  simp only [hi, Bool.false_eq_true, if_false] at t
                  have CA : Hid (Calls _ _ _ _ _) := rsh_black oi oc u t.ref HLt.out
                  have HN : Hid (∀ u' F2, RSh u' w.heap.size b' tb' F2 (S.tick) → Mut F' u u' → Grow u F' F2 → CJ w u' b tb b' tb' S X ob [.int .i64 ok, .int .i64 oi, .int .i64 os, .bool oh, .bool oc] 5 11 (done d 11)) := fun u' F2 s m f => hj.call2 (by decide) t (by rw [← HPX.out]; exact s) m f
                  rw [HAn.out] at CA
                  clear hj hi t
                  refine wpOp_step rfl (fun K hK => ?_)
                  go_simp
                  refine CA.out.mono ?_
                  rintro e u' ⟨rfl, F2, hs, m, f⟩
                  exact hK _ _ ⟨by simp [Act.put], HN.out u' F2 hs m f⟩
                | 12, ho, hi, hd =>
                  simp only [List.getElem?_cons_succ, List.getElem?_cons_zero, Option.some.injEq] at ho
                  subst ho
                  have g128 : a1.tmps[128]? = some (.bool an) := hh.did 5 _ 128 rfl rfl (hd { on := 5, ground := .data } (by simp) rfl)
                  have g134 : a1.tmps[134]? = some (.bool an) := hh.did 11 _ 134 rfl rfl (hd { on := 11, ground := .data } (by simp) rfl)
                  have zz : (an == an) = true := by simp
                  clear hh hd
                  have HN : Hid (CJ w u b tb b' tb' S X ob [.int .i64 ok, .int .i64 oi, .int .i64 os, .bool oh, .bool oc] 5 11 (done d 12)) := hj.plain 12 (by decide) (by decide)
                  clear hj hi
                  refine wpOp_step rfl (fun K hK => ?_)
                  go_simp
                  exact hK _ _ ⟨by simp [Act.put], HN.out⟩
                | 13, ho, hi, hd =>
                  simp only [List.getElem?_cons_succ, List.getElem?_cons_zero, Option.some.injEq] at ho
                  subst ho
                  have g135 : a1.tmps[135]? = some (.bool true) := hh.did 12 _ 135 rfl rfl (hd { on := 12, ground := .data } (by simp) rfl)
                  clear hh hd
                  have HN : Hid (CJ w u b tb b' tb' S X ob [.int .i64 ok, .int .i64 oi, .int .i64 os, .bool oh, .bool oc] 5 11 (done d 13)) := hj.plain 13 (by decide) (by decide)
                  clear hj hi
                  refine wpOp_step rfl (fun K hK => ?_)
                  go_simp
                  exact hK _ _ ⟨by simp [Act.put], HN.out⟩
                | n + 14, ho, hi, hd => simp at ho
              · intro u d hall hj
                obtain ⟨F2, F3, t⟩ := hj.two
                have h1 := hall 5 (by decide)
                have h2 := hall 11 (by decide)
                rw [h1, h2] at t
                have HE : Hid (Tw w u b tb b' tb' F2 F3 X X ∧ Own u ob 34 [.int .i64 ok, .int .i64 oi, .int .i64 os, .bool oh, .bool oc] ∧ X.c ≤ j + 1) := ⟨t, hj.own, HXc.out⟩
                clear hall hj t h1 h2
                simp only [List.getD_cons_succ, List.getD_cons_zero]
                go_wp2
                go_meet
                case rel => exact ⟨rfl, X, _, _, HE.out⟩
            · by_cases g3 : ok = 3
              · have f0 : (ok == 0) = false := by simpa using g0
                have f1 : (ok == 1) = false := by simpa using g1
                have f2 : (ok == 2) = false := by simpa using g2
                have f3 : (ok == 3) = true := by simpa using g3
                clear g0 g1 g2 g3
                obtain ⟨X, hPX⟩ : ∃ X : ShS, S.tick.mark oi oc = X := ⟨_, rfl⟩
                obtain ⟨an, hAn⟩ : ∃ an : Bool, (markB S.n S.T oi oc) = an := ⟨_, rfl⟩
                have HPX : Hid (S.tick.mark oi oc = X) := hPX
                have HAn : Hid ((markB S.n S.T oi oc) = an) := hAn
                have hXc : X.c ≤ j + 1 := by
                  rw [← hPX]
                  have := HSc.out
                  simp only [ShS.tick, ShS.mark]; omega
                have HXc : Hid (X.c ≤ j + 1) := hXc
                clear hPX hAn hXc
                go_upto_region 25 with fail
                refine wp_region_phase [(.pointer (some ⟨b, 0, none⟩)), (.pointer (some ⟨ob, 1, none⟩)), (.int .i64 oi), (.pointer (some ⟨ob, 4, none⟩)), (.bool oc), (.bool an), (.pointer (some ⟨b', 0, none⟩)), (.pointer (some ⟨ob, 1, none⟩)), (.int .i64 oi), (.pointer (some ⟨ob, 4, none⟩)), (.bool oc), (.bool an), (.bool true), (.bool true)] [(14, 13), (138, 0), (139, 1), (140, 2), (141, 3), (142, 4), (143, 5), (144, 6), (145, 7), (146, 8), (147, 9), (148, 10), (149, 11), (150, 12)] [_, _, _, _, _, _, _, _, _, _, _, _, _, _, _, _, _, _, _, _, _, _, _, _, _, _, _, _, _, _, _, _, _, _, _, _, _, _, _, _, _, _, _, _, _, _, _, _, _, _, _, _, _, _, _, _, _, _, _, _, _, _, _, _, _, _, _, _, _, _, _, _, _, _, _, _, _, _, _, _, _, _, _, _, _, _, _, _, _, _, _, _, _, _, _, _, _, _, _, _, _, _, _, _, _, _, _, _, _, _, _, _, _, _, _, _, _, _, _, _, _, _, _, _, _, _, _, _, _, _, _, _, _, _, _, _, _, _, _, _, _, _, _, _, _, _, _, _, _, _, _, _, _, _, _, _, _, _, _, _, _, _, _, _, _, _, _, _, _, _, _, _, _, _, _, _, _, _, _, _, _, _, _, _, _, _, _, _, _, _, _, _, _, _, _, _, _, _, _, _, _, _, _, _, _, _, _, _, _, _, _, _, _, _, _, _, _, _, _, _, _, _, _, _, _, _, _, _, _, _, _, _] (fun d u => CJ w u b tb b' tb' S X ob [.int .i64 ok, .int .i64 oi, .int .i64 os, .bool oh, .bool oc] 5 11 d) (by kernel_rfl) (by kernel_rfl) (by kernel_rfl) (by kernel_rfl) rfl ?_ ?_ ?_
                · exact ⟨BO.out.kept (Kept.refl _).drew, F, F', by simpa using HW.out.still (Kept.refl _).drew⟩
                · intro i1 o ho a1 d u hh hj hi hd
                  match i1, ho, hi, hd with
                  | 0, ho, hi, hd =>
                    simp only [List.getElem?_cons_zero, Option.some.injEq] at ho
                    subst ho
                    have g7 : a1.tmps[7]? = some (.pointer (some ⟨b, 0, none⟩)) := hh.old 7 (by kernel_rfl) rfl
                    clear hh hd
                    have HN : Hid (CJ w u b tb b' tb' S X ob [.int .i64 ok, .int .i64 oi, .int .i64 os, .bool oh, .bool oc] 5 11 (done d 0)) := hj.plain 0 (by decide) (by decide)
                    clear hj hi
                    refine wpOp_step rfl (fun K hK => ?_)
                    go_simp
                    exact hK _ _ ⟨by simp [Act.put], HN.out⟩
                  | 1, ho, hi, hd =>
                    simp only [List.getElem?_cons_succ, List.getElem?_cons_zero, Option.some.injEq] at ho
                    subst ho
                    have g13 : a1.tmps[13]? = some (.pointer (some ⟨ob, 0, none⟩)) := hh.old 13 (by kernel_rfl) rfl
                    clear hh hd
                    have HN : Hid (CJ w u b tb b' tb' S X ob [.int .i64 ok, .int .i64 oi, .int .i64 os, .bool oh, .bool oc] 5 11 (done d 1)) := hj.plain 1 (by decide) (by decide)
                    clear hj hi
                    refine wpOp_step rfl (fun K hK => ?_)
                    go_simp
                    exact hK _ _ ⟨by simp [Act.put], HN.out⟩
                  | 2, ho, hi, hd =>
                    simp only [List.getElem?_cons_succ, List.getElem?_cons_zero, Option.some.injEq] at ho
                    subst ho
                    have g139 : a1.tmps[139]? = some (.pointer (some ⟨ob, 1, none⟩)) := hh.did 1 _ 139 rfl rfl (hd { on := 1, ground := .data } (by simp) rfl)
                    have cc := hj.own.blk.at 1 rfl
                    clear hh hd
                    have HN : Hid (CJ w u b tb b' tb' S X ob [.int .i64 ok, .int .i64 oi, .int .i64 os, .bool oh, .bool oc] 5 11 (done d 2)) := hj.plain 2 (by decide) (by decide)
                    clear hj hi
                    refine wpOp_step rfl (fun K hK => ?_)
                    go_simp
                    exact hK _ _ ⟨by simp [Act.put], HN.out⟩
                  | 3, ho, hi, hd =>
                    simp only [List.getElem?_cons_succ, List.getElem?_cons_zero, Option.some.injEq] at ho
                    subst ho
                    have g13 : a1.tmps[13]? = some (.pointer (some ⟨ob, 0, none⟩)) := hh.old 13 (by kernel_rfl) rfl
                    clear hh hd
                    have HN : Hid (CJ w u b tb b' tb' S X ob [.int .i64 ok, .int .i64 oi, .int .i64 os, .bool oh, .bool oc] 5 11 (done d 3)) := hj.plain 3 (by decide) (by decide)
                    clear hj hi
                    refine wpOp_step rfl (fun K hK => ?_)
                    go_simp
                    exact hK _ _ ⟨by simp [Act.put], HN.out⟩
                  | 4, ho, hi, hd =>
                    simp only [List.getElem?_cons_succ, List.getElem?_cons_zero, Option.some.injEq] at ho
                    subst ho
                    have g141 : a1.tmps[141]? = some (.pointer (some ⟨ob, 4, none⟩)) := hh.did 3 _ 141 rfl rfl (hd { on := 3, ground := .data } (by simp) rfl)
                    have cc := hj.own.blk.at 4 rfl
                    clear hh hd
                    have HN : Hid (CJ w u b tb b' tb' S X ob [.int .i64 ok, .int .i64 oi, .int .i64 os, .bool oh, .bool oc] 5 11 (done d 4)) := hj.plain 4 (by decide) (by decide)
                    clear hj hi
                    refine wpOp_step rfl (fun K hK => ?_)
                    go_simp
                    exact hK _ _ ⟨by simp [Act.put], HN.out⟩
                  | 5, ho, hi, hd =>
                    simp only [List.getElem?_cons_succ, List.getElem?_cons_zero, Option.some.injEq] at ho
                    subst ho
                    have g138 : a1.tmps[138]? = some (.pointer (some ⟨b, 0, none⟩)) := hh.did 0 _ 138 rfl rfl (hd { on := 0, ground := .data } (by simp) rfl)
                    have g140 : a1.tmps[140]? = some (.int .i64 oi) := hh.did 2 _ 140 rfl rfl (hd { on := 2, ground := .data } (by simp) rfl)
                    have g142 : a1.tmps[142]? = some (.bool oc) := hh.did 4 _ 142 rfl rfl (hd { on := 4, ground := .data } (by simp) rfl)
                    clear hh hd
                    obtain ⟨F, F', t⟩ := hj.two
                    simp only [hi, Bool.false_eq_true, if_false] at t
                    have CA : Hid (Calls _ _ _ _ _) := sh_part oi oc u t.tab HLt.out
                    have HN : Hid (∀ u' F2, Sh u' w.heap.size b tb F2 (S.tick.mark oi oc) → Mut F u u' → Grow u F F2 → CJ w u' b tb b' tb' S X ob [.int .i64 ok, .int .i64 oi, .int .i64 os, .bool oh, .bool oc] 5 11 (done d 5)) := fun u' F2 s m f => hj.call1 (by decide) t (by rw [← HPX.out]; exact s) m f
                    rw [HAn.out] at CA
                    clear hj hi t
                    refine wpOp_step rfl (fun K hK => ?_)
                    go_simp
                    refine CA.out.mono ?_
                    rintro e u' ⟨rfl, F2, hs, m, f⟩
                    exact hK _ _ ⟨by simp [Act.put], HN.out u' F2 hs m f⟩
                  | 6, ho, hi, hd =>
                    simp only [List.getElem?_cons_succ, List.getElem?_cons_zero, Option.some.injEq] at ho
                    subst ho
                    have g9 : a1.tmps[9]? = some (.pointer (some ⟨b', 0, none⟩)) := hh.old 9 (by kernel_rfl) rfl
                    clear hh hd
                    have HN : Hid (CJ w u b tb b' tb' S X ob [.int .i64 ok, .int .i64 oi, .int .i64 os, .bool oh, .bool oc] 5 11 (done d 6)) := hj.plain 6 (by decide) (by decide)
                    clear hj hi
                    refine wpOp_step rfl (fun K hK => ?_)
                    go_simp
                    exact hK _ _ ⟨by simp [Act.put], HN.out⟩
                  | 7, ho, hi, hd =>
                    simp only [List.getElem?_cons_succ, List.getElem?_cons_zero, Option.some.injEq] at ho
                    subst ho
                    have g13 : a1.tmps[13]? = some (.pointer (some ⟨ob, 0, none⟩)) := hh.old 13 (by kernel_rfl) rfl
                    clear hh hd
                    have HN : Hid (CJ w u b tb b' tb' S X ob [.int .i64 ok, .int .i64 oi, .int .i64 os, .bool oh, .bool oc] 5 11 (done d 7)) := hj.plain 7 (by decide) (by decide)
                    clear hj hi
                    refine wpOp_step rfl (fun K hK => ?_)
                    go_simp
                    exact hK _ _ ⟨by simp [Act.put], HN.out⟩
                  | 8, ho, hi, hd =>
                    simp only [List.getElem?_cons_succ, List.getElem?_cons_zero, Option.some.injEq] at ho
                    subst ho
                    have g145 : a1.tmps[145]? = some (.pointer (some ⟨ob, 1, none⟩)) := hh.did 7 _ 145 rfl rfl (hd { on := 7, ground := .data } (by simp) rfl)
                    have cc := hj.own.blk.at 1 rfl
                    clear hh hd
                    have HN : Hid (CJ w u b tb b' tb' S X ob [.int .i64 ok, .int .i64 oi, .int .i64 os, .bool oh, .bool oc] 5 11 (done d 8)) := hj.plain 8 (by decide) (by decide)
                    clear hj hi
                    refine wpOp_step rfl (fun K hK => ?_)
                    go_simp
                    exact hK _ _ ⟨by simp [Act.put], HN.out⟩
                  | 9, ho, hi, hd =>
                    simp only [List.getElem?_cons_succ, List.getElem?_cons_zero, Option.some.injEq] at ho
                    subst ho
                    have g13 : a1.tmps[13]? = some (.pointer (some ⟨ob, 0, none⟩)) := hh.old 13 (by kernel_rfl) rfl
                    clear hh hd
                    have HN : Hid (CJ w u b tb b' tb' S X ob [.int .i64 ok, .int .i64 oi, .int .i64 os, .bool oh, .bool oc] 5 11 (done d 9)) := hj.plain 9 (by decide) (by decide)
                    clear hj hi
                    refine wpOp_step rfl (fun K hK => ?_)
                    go_simp
                    exact hK _ _ ⟨by simp [Act.put], HN.out⟩
                  | 10, ho, hi, hd =>
                    simp only [List.getElem?_cons_succ, List.getElem?_cons_zero, Option.some.injEq] at ho
                    subst ho
                    have g147 : a1.tmps[147]? = some (.pointer (some ⟨ob, 4, none⟩)) := hh.did 9 _ 147 rfl rfl (hd { on := 9, ground := .data } (by simp) rfl)
                    have cc := hj.own.blk.at 4 rfl
                    clear hh hd
                    have HN : Hid (CJ w u b tb b' tb' S X ob [.int .i64 ok, .int .i64 oi, .int .i64 os, .bool oh, .bool oc] 5 11 (done d 10)) := hj.plain 10 (by decide) (by decide)
                    clear hj hi
                    refine wpOp_step rfl (fun K hK => ?_)
                    go_simp
                    exact hK _ _ ⟨by simp [Act.put], HN.out⟩
                  | 11, ho, hi, hd =>
                    simp only [List.getElem?_cons_succ, List.getElem?_cons_zero, Option.some.injEq] at ho
                    subst ho
                    have g144 : a1.tmps[144]? = some (.pointer (some ⟨b', 0, none⟩)) := hh.did 6 _ 144 rfl rfl (hd { on := 6, ground := .data } (by simp) rfl)
                    have g146 : a1.tmps[146]? = some (.int .i64 oi) := hh.did 8 _ 146 rfl rfl (hd { on := 8, ground := .data } (by simp) rfl)
                    have g148 : a1.tmps[148]? = some (.bool oc) := hh.did 10 _ 148 rfl rfl (hd { on := 10, ground := .data } (by simp) rfl)
                    clear hh hd
                    obtain ⟨F, F', t⟩ := hj.two
                    simp only [hi, Bool.false_eq_true, if_false] at t
                    have CA : Hid (Calls _ _ _ _ _) := rsh_part oi oc u t.ref HLt.out
                    have HN : Hid (∀ u' F2, RSh u' w.heap.size b' tb' F2 (S.tick.mark oi oc) → Mut F' u u' → Grow u F' F2 → CJ w u' b tb b' tb' S X ob [.int .i64 ok, .int .i64 oi, .int .i64 os, .bool oh, .bool oc] 5 11 (done d 11)) := fun u' F2 s m f => hj.call2 (by decide) t (by rw [← HPX.out]; exact s) m f
                    rw [HAn.out] at CA
                    clear hj hi t
                    refine wpOp_step rfl (fun K hK => ?_)
                    go_simp
                    refine CA.out.mono ?_
                    rintro e u' ⟨rfl, F2, hs, m, f⟩
                    exact hK _ _ ⟨by simp [Act.put], HN.out u' F2 hs m f⟩
                  | 12, ho, hi, hd =>
                    simp only [List.getElem?_cons_succ, List.getElem?_cons_zero, Option.some.injEq] at ho
                    subst ho
                    have g143 : a1.tmps[143]? = some (.bool an) := hh.did 5 _ 143 rfl rfl (hd { on := 5, ground := .data } (by simp) rfl)
                    have g149 : a1.tmps[149]? = some (.bool an) := hh.did 11 _ 149 rfl rfl (hd { on := 11, ground := .data } (by simp) rfl)
                    have zz : (an == an) = true := by simp
                    clear hh hd
                    have HN : Hid (CJ w u b tb b' tb' S X ob [.int .i64 ok, .int .i64 oi, .int .i64 os, .bool oh, .bool oc] 5 11 (done d 12)) := hj.plain 12 (by decide) (by decide)
                    clear hj hi
                    refine wpOp_step rfl (fun K hK => ?_)
                    go_simp
                    exact hK _ _ ⟨by simp [Act.put], HN.out⟩
                  | 13, ho, hi, hd =>
                    simp only [List.getElem?_cons_succ, List.getElem?_cons_zero, Option.some.injEq] at ho
                    subst ho
                    have g150 : a1.tmps[150]? = some (.bool true) := hh.did 12 _ 150 rfl rfl (hd { on := 12, ground := .data } (by simp) rfl)
                    clear hh hd
                    have HN : Hid (CJ w u b tb b' tb' S X ob [.int .i64 ok, .int .i64 oi, .int .i64 os, .bool oh, .bool oc] 5 11 (done d 13)) := hj.plain 13 (by decide) (by decide)
                    clear hj hi
                    refine wpOp_step rfl (fun K hK => ?_)
                    go_simp
                    exact hK _ _ ⟨by simp [Act.put], HN.out⟩
                  | n + 14, ho, hi, hd => simp at ho
                · intro u d hall hj
                  obtain ⟨F2, F3, t⟩ := hj.two
                  have h1 := hall 5 (by decide)
                  have h2 := hall 11 (by decide)
                  rw [h1, h2] at t
                  have HE : Hid (Tw w u b tb b' tb' F2 F3 X X ∧ Own u ob 34 [.int .i64 ok, .int .i64 oi, .int .i64 os, .bool oh, .bool oc] ∧ X.c ≤ j + 1) := ⟨t, hj.own, HXc.out⟩
                  clear hall hj t h1 h2
                  simp only [List.getD_cons_succ, List.getD_cons_zero]
                  go_wp2
                  go_meet
                  case rel => exact ⟨rfl, X, _, _, HE.out⟩
              · by_cases g4 : ok = 4
                · have f0 : (ok == 0) = false := by simpa using g0
                  have f1 : (ok == 1) = false := by simpa using g1
                  have f2 : (ok == 2) = false := by simpa using g2
                  have f3 : (ok == 3) = false := by simpa using g3
                  have f4 : (ok == 4) = true := by simpa using g4
                  clear g0 g1 g2 g3 g4
                  go_wp2_with fail
                  refine (sh_next _ HW.out.tab HLt.out).mono ?_
                  rintro e w4 ⟨rfl, F4, s4, m4, f4⟩
                  have H4 : Hid (Tw w w4 b tb b' tb' F4 F' S.tick.pop S ∧ Own w4 ob 34 [.int .i64 ok, .int .i64 oi, .int .i64 os, .bool oh, .bool oc]) := ⟨HW.out.fst s4 m4 f4, BO.out.muts m4 (HW.out.tab.out BO.out)⟩
                  clear s4 m4 f4 HW BO
                  go_wp2_with fail
                  refine (rsh_next _ H4.out.1.ref HLt.out).mono ?_
                  rintro e w5 ⟨rfl, F5, s5, m5, f5⟩
                  have H5 : Hid (Tw w w5 b tb b' tb' F4 F5 S.tick.pop S.tick.pop ∧ Own w5 ob 34 [.int .i64 ok, .int .i64 oi, .int .i64 os, .bool oh, .bool oc] ∧ S.tick.pop.c ≤ j + 1) := ⟨H4.out.1.snd s5 m5 f5, H4.out.2.muts m5 (H4.out.1.ref.out H4.out.2), by
                    have := HSc.out
                    simp only [ShS.tick, ShS.pop]
                    omega⟩
                  clear s5 m5 f5 H4
                  generalize topI S.P = ti at *
                  generalize isI S.P = td at *
                  have q1 : (ti == ti) = true := by simp
                  have q2 : (td == td) = true := by simp
                  go_wp2
                  go_meet
                  case rel => exact ⟨rfl, S.tick.pop, _, _, H5.out⟩
                · by_cases g5 : ok = 5
                  · have f0 : (ok == 0) = false := by simpa using g0
                    have f1 : (ok == 1) = false := by simpa using g1
                    have f2 : (ok == 2) = false := by simpa using g2
                    have f3 : (ok == 3) = false := by simpa using g3
                    have f4 : (ok == 4) = false := by simpa using g4
                    have f5 : (ok == 5) = true := by simpa using g5
                    clear g0 g1 g2 g3 g4 g5
                    go_wp2_with fail
                    refine (sh_lost _ HW.out.tab HLt.out).mono ?_
                    rintro e w4 ⟨rfl, F4, s4, m4, f4⟩
                    have H4 : Hid (Tw w w4 b tb b' tb' F4 F' S.tick.found S ∧ Own w4 ob 34 [.int .i64 ok, .int .i64 oi, .int .i64 os, .bool oh, .bool oc]) := ⟨HW.out.fst s4 m4 f4, BO.out.muts m4 (HW.out.tab.out BO.out)⟩
                    clear s4 m4 f4 HW BO
                    go_wp2_with fail
                    refine (rsh_lost _ H4.out.1.ref HLt.out).mono ?_
                    rintro e w5 ⟨rfl, F5, s5, m5, f5⟩
                    have H5 : Hid (Tw w w5 b tb b' tb' F4 F5 S.tick.found S.tick.found ∧ Own w5 ob 34 [.int .i64 ok, .int .i64 oi, .int .i64 os, .bool oh, .bool oc] ∧ S.tick.found.c ≤ j + 1) := ⟨H4.out.1.snd s5 m5 f5, H4.out.2.muts m5 (H4.out.1.ref.out H4.out.2), by
                      have := HSc.out
                      simp only [ShS.tick, ShS.found]
                      omega⟩
                    clear s5 m5 f5 H4
                    generalize S.z = td at *
                    have q2 : (td == td) = true := by simp
                    go_wp2
                    go_meet
                    case rel => exact ⟨rfl, S.tick.found, _, _, H5.out⟩
                  · by_cases g6 : ok = 6
                    · have f0 : (ok == 0) = false := by simpa using g0
                      have f1 : (ok == 1) = false := by simpa using g1
                      have f2 : (ok == 2) = false := by simpa using g2
                      have f3 : (ok == 3) = false := by simpa using g3
                      have f4 : (ok == 4) = false := by simpa using g4
                      have f5 : (ok == 5) = false := by simpa using g5
                      have f6 : (ok == 6) = true := by simpa using g6
                      clear g0 g1 g2 g3 g4 g5 g6
                      obtain ⟨X, hPX⟩ : ∃ X : ShS, S.born oi = X := ⟨_, rfl⟩
                      obtain ⟨an, hAn⟩ : ∃ an : Bool, (bornB S.n S.T oi) = an := ⟨_, rfl⟩
                      have HPX : Hid (S.born oi = X) := hPX
                      have HAn : Hid ((bornB S.n S.T oi) = an) := hAn
                      have hXc : X.c ≤ j + 1 := by
                        rw [← hPX]
                        have := HSc.out
                        simp only [ShS.born]; omega
                      have HXc : Hid (X.c ≤ j + 1) := hXc
                      clear hPX hAn hXc
                      go_upto_region 33 with fail
                      refine wp_region_phase [(.pointer (some ⟨tb, 0, none⟩)), (.pointer (some ⟨ob, 1, none⟩)), (.int .i64 oi), (.bool an), (.pointer (some ⟨b', 0, none⟩)), (.pointer (some ⟨b', 0, none⟩)), (.pointer (some ⟨b', 0, none⟩)), (.pointer (some ⟨tb', 0, none⟩)), (.pointer (some ⟨ob, 1, none⟩)), (.int .i64 oi), (.bool an), (.bool true), (.bool true)] [(14, 12), (180, 0), (181, 1), (182, 2), (183, 3), (184, 4), (185, 5), (186, 6), (187, 7), (188, 8), (189, 9), (190, 10), (191, 11)] [_, _, _, _, _, _, _, _, _, _, _, _, _, _, _, _, _, _, _, _, _, _, _, _, _, _, _, _, _, _, _, _, _, _, _, _, _, _, _, _, _, _, _, _, _, _, _, _, _, _, _, _, _, _, _, _, _, _, _, _, _, _, _, _, _, _, _, _, _, _, _, _, _, _, _, _, _, _, _, _, _, _, _, _, _, _, _, _, _, _, _, _, _, _, _, _, _, _, _, _, _, _, _, _, _, _, _, _, _, _, _, _, _, _, _, _, _, _, _, _, _, _, _, _, _, _, _, _, _, _, _, _, _, _, _, _, _, _, _, _, _, _, _, _, _, _, _, _, _, _, _, _, _, _, _, _, _, _, _, _, _, _, _, _, _, _, _, _, _, _, _, _, _, _, _, _, _, _, _, _, _, _, _, _, _, _, _, _, _, _, _, _, _, _, _, _, _, _, _, _, _, _, _, _, _, _, _, _, _, _, _, _, _, _, _, _, _, _, _, _, _, _, _, _, _, _, _, _, _, _, _, _] (fun d u => CJ w u b tb b' tb' S X ob [.int .i64 ok, .int .i64 oi, .int .i64 os, .bool oh, .bool oc] 3 10 d) (by kernel_rfl) (by kernel_rfl) (by kernel_rfl) (by kernel_rfl) rfl ?_ ?_ ?_
                      · exact ⟨BO.out.kept (Kept.refl _).drew, F, F', by simpa using HW.out.still (Kept.refl _).drew⟩
                      · intro i1 o ho a1 d u hh hj hi hd
                        match i1, ho, hi, hd with
                        | 0, ho, hi, hd =>
                          simp only [List.getElem?_cons_zero, Option.some.injEq] at ho
                          subst ho
                          have g11 : a1.tmps[11]? = some (.pointer (some ⟨tb, 0, none⟩)) := hh.old 11 (by kernel_rfl) rfl
                          clear hh hd
                          have HN : Hid (CJ w u b tb b' tb' S X ob [.int .i64 ok, .int .i64 oi, .int .i64 os, .bool oh, .bool oc] 3 10 (done d 0)) := hj.plain 0 (by decide) (by decide)
                          clear hj hi
                          refine wpOp_step rfl (fun K hK => ?_)
                          go_simp
                          exact hK _ _ ⟨by simp [Act.put], HN.out⟩
                        | 1, ho, hi, hd =>
                          simp only [List.getElem?_cons_succ, List.getElem?_cons_zero, Option.some.injEq] at ho
                          subst ho
                          have g13 : a1.tmps[13]? = some (.pointer (some ⟨ob, 0, none⟩)) := hh.old 13 (by kernel_rfl) rfl
                          clear hh hd
                          have HN : Hid (CJ w u b tb b' tb' S X ob [.int .i64 ok, .int .i64 oi, .int .i64 os, .bool oh, .bool oc] 3 10 (done d 1)) := hj.plain 1 (by decide) (by decide)
                          clear hj hi
                          refine wpOp_step rfl (fun K hK => ?_)
                          go_simp
                          exact hK _ _ ⟨by simp [Act.put], HN.out⟩
                        | 2, ho, hi, hd =>
                          simp only [List.getElem?_cons_succ, List.getElem?_cons_zero, Option.some.injEq] at ho
                          subst ho
                          have g181 : a1.tmps[181]? = some (.pointer (some ⟨ob, 1, none⟩)) := hh.did 1 _ 181 rfl rfl (hd { on := 1, ground := .data } (by simp) rfl)
                          have cc := hj.own.blk.at 1 rfl
                          clear hh hd
                          have HN : Hid (CJ w u b tb b' tb' S X ob [.int .i64 ok, .int .i64 oi, .int .i64 os, .bool oh, .bool oc] 3 10 (done d 2)) := hj.plain 2 (by decide) (by decide)
                          clear hj hi
                          refine wpOp_step rfl (fun K hK => ?_)
                          go_simp
                          exact hK _ _ ⟨by simp [Act.put], HN.out⟩
                        | 3, ho, hi, hd =>
                          simp only [List.getElem?_cons_succ, List.getElem?_cons_zero, Option.some.injEq] at ho
                          subst ho
                          have g180 : a1.tmps[180]? = some (.pointer (some ⟨tb, 0, none⟩)) := hh.did 0 _ 180 rfl rfl (hd { on := 0, ground := .data } (by simp) rfl)
                          have g182 : a1.tmps[182]? = some (.int .i64 oi) := hh.did 2 _ 182 rfl rfl (hd { on := 2, ground := .data } (by simp) rfl)
                          clear hh hd
                          obtain ⟨F, F', t⟩ := hj.two
                          simp only [hi, Bool.false_eq_true, if_false] at t
                          have CA : Hid (Calls _ _ _ _ _) := sh_born oi u t.tab
                          have HN : Hid (∀ u' F2, Sh u' w.heap.size b tb F2 (S.born oi) → Mut F u u' → Grow u F F2 → CJ w u' b tb b' tb' S X ob [.int .i64 ok, .int .i64 oi, .int .i64 os, .bool oh, .bool oc] 3 10 (done d 3)) := fun u' F2 s m f => hj.call1 (by decide) t (by rw [← HPX.out]; exact s) m f
                          rw [HAn.out] at CA
                          clear hj hi t
                          refine wpOp_step rfl (fun K hK => ?_)
                          go_simp
                          refine CA.out.mono ?_
                          rintro e u' ⟨rfl, F2, hs, m, f⟩
                          exact hK _ _ ⟨by simp [Act.put], HN.out u' F2 hs m f⟩
                        | 4, ho, hi, hd =>
                          simp only [List.getElem?_cons_succ, List.getElem?_cons_zero, Option.some.injEq] at ho
                          subst ho
                          have g9 : a1.tmps[9]? = some (.pointer (some ⟨b', 0, none⟩)) := hh.old 9 (by kernel_rfl) rfl
                          clear hh hd
                          have HN : Hid (CJ w u b tb b' tb' S X ob [.int .i64 ok, .int .i64 oi, .int .i64 os, .bool oh, .bool oc] 3 10 (done d 4)) := hj.plain 4 (by decide) (by decide)
                          clear hj hi
                          refine wpOp_step rfl (fun K hK => ?_)
                          go_simp
                          exact hK _ _ ⟨by simp [Act.put], HN.out⟩
                        | 5, ho, hi, hd =>
                          simp only [List.getElem?_cons_succ, List.getElem?_cons_zero, Option.some.injEq] at ho
                          subst ho
                          have g184 : a1.tmps[184]? = some (.pointer (some ⟨b', 0, none⟩)) := hh.did 4 _ 184 rfl rfl (hd { on := 4, ground := .data } (by simp) rfl)
                          clear hh hd
                          have HN : Hid (CJ w u b tb b' tb' S X ob [.int .i64 ok, .int .i64 oi, .int .i64 os, .bool oh, .bool oc] 3 10 (done d 5)) := hj.plain 5 (by decide) (by decide)
                          clear hj hi
                          refine wpOp_step rfl (fun K hK => ?_)
                          go_simp
                          exact hK _ _ ⟨by simp [Act.put], HN.out⟩
                        | 6, ho, hi, hd =>
                          simp only [List.getElem?_cons_succ, List.getElem?_cons_zero, Option.some.injEq] at ho
                          subst ho
                          have g185 : a1.tmps[185]? = some (.pointer (some ⟨b', 0, none⟩)) := hh.did 5 _ 185 rfl rfl (hd { on := 5, ground := .data } (by simp) rfl)
                          clear hh hd
                          have HN : Hid (CJ w u b tb b' tb' S X ob [.int .i64 ok, .int .i64 oi, .int .i64 os, .bool oh, .bool oc] 3 10 (done d 6)) := hj.plain 6 (by decide) (by decide)
                          clear hj hi
                          refine wpOp_step rfl (fun K hK => ?_)
                          go_simp
                          exact hK _ _ ⟨by simp [Act.put], HN.out⟩
                        | 7, ho, hi, hd =>
                          simp only [List.getElem?_cons_succ, List.getElem?_cons_zero, Option.some.injEq] at ho
                          subst ho
                          have g186 : a1.tmps[186]? = some (.pointer (some ⟨b', 0, none⟩)) := hh.did 6 _ 186 rfl rfl (hd { on := 6, ground := .data } (by simp) rfl)
                          have cc := hj.c0
                          clear hh hd
                          have HN : Hid (CJ w u b tb b' tb' S X ob [.int .i64 ok, .int .i64 oi, .int .i64 os, .bool oh, .bool oc] 3 10 (done d 7)) := hj.plain 7 (by decide) (by decide)
                          clear hj hi
                          refine wpOp_step rfl (fun K hK => ?_)
                          go_simp
                          exact hK _ _ ⟨by simp [Act.put], HN.out⟩
                        | 8, ho, hi, hd =>
                          simp only [List.getElem?_cons_succ, List.getElem?_cons_zero, Option.some.injEq] at ho
                          subst ho
                          have g13 : a1.tmps[13]? = some (.pointer (some ⟨ob, 0, none⟩)) := hh.old 13 (by kernel_rfl) rfl
                          clear hh hd
                          have HN : Hid (CJ w u b tb b' tb' S X ob [.int .i64 ok, .int .i64 oi, .int .i64 os, .bool oh, .bool oc] 3 10 (done d 8)) := hj.plain 8 (by decide) (by decide)
                          clear hj hi
                          refine wpOp_step rfl (fun K hK => ?_)
                          go_simp
                          exact hK _ _ ⟨by simp [Act.put], HN.out⟩
                        | 9, ho, hi, hd =>
                          simp only [List.getElem?_cons_succ, List.getElem?_cons_zero, Option.some.injEq] at ho
                          subst ho
                          have g188 : a1.tmps[188]? = some (.pointer (some ⟨ob, 1, none⟩)) := hh.did 8 _ 188 rfl rfl (hd { on := 8, ground := .data } (by simp) rfl)
                          have cc := hj.own.blk.at 1 rfl
                          clear hh hd
                          have HN : Hid (CJ w u b tb b' tb' S X ob [.int .i64 ok, .int .i64 oi, .int .i64 os, .bool oh, .bool oc] 3 10 (done d 9)) := hj.plain 9 (by decide) (by decide)
                          clear hj hi
                          refine wpOp_step rfl (fun K hK => ?_)
                          go_simp
                          exact hK _ _ ⟨by simp [Act.put], HN.out⟩
                        | 10, ho, hi, hd =>
                          simp only [List.getElem?_cons_succ, List.getElem?_cons_zero, Option.some.injEq] at ho
                          subst ho
                          have g187 : a1.tmps[187]? = some (.pointer (some ⟨tb', 0, none⟩)) := hh.did 7 _ 187 rfl rfl (hd { on := 7, ground := .data } (by simp) rfl)
                          have g189 : a1.tmps[189]? = some (.int .i64 oi) := hh.did 9 _ 189 rfl rfl (hd { on := 9, ground := .data } (by simp) rfl)
                          clear hh hd
                          obtain ⟨F, F', t⟩ := hj.two
                          simp only [hi, Bool.false_eq_true, if_false] at t
                          have CA : Hid (Calls _ _ _ _ _) := rsh_born oi u t.ref
                          have HN : Hid (∀ u' F2, RSh u' w.heap.size b' tb' F2 (S.born oi) → Mut F' u u' → Grow u F' F2 → CJ w u' b tb b' tb' S X ob [.int .i64 ok, .int .i64 oi, .int .i64 os, .bool oh, .bool oc] 3 10 (done d 10)) := fun u' F2 s m f => hj.call2 (by decide) t (by rw [← HPX.out]; exact s) m f
                          rw [HAn.out] at CA
                          clear hj hi t
                          refine wpOp_step rfl (fun K hK => ?_)
                          go_simp
                          refine CA.out.mono ?_
                          rintro e u' ⟨rfl, F2, hs, m, f⟩
                          exact hK _ _ ⟨by simp [Act.put], HN.out u' F2 hs m f⟩
                        | 11, ho, hi, hd =>
                          simp only [List.getElem?_cons_succ, List.getElem?_cons_zero, Option.some.injEq] at ho
                          subst ho
                          have g183 : a1.tmps[183]? = some (.bool an) := hh.did 3 _ 183 rfl rfl (hd { on := 3, ground := .data } (by simp) rfl)
                          have g190 : a1.tmps[190]? = some (.bool an) := hh.did 10 _ 190 rfl rfl (hd { on := 10, ground := .data } (by simp) rfl)
                          have zz : (an == an) = true := by simp
                          clear hh hd
                          have HN : Hid (CJ w u b tb b' tb' S X ob [.int .i64 ok, .int .i64 oi, .int .i64 os, .bool oh, .bool oc] 3 10 (done d 11)) := hj.plain 11 (by decide) (by decide)
                          clear hj hi
                          refine wpOp_step rfl (fun K hK => ?_)
                          go_simp
                          exact hK _ _ ⟨by simp [Act.put], HN.out⟩
                        | 12, ho, hi, hd =>
                          simp only [List.getElem?_cons_succ, List.getElem?_cons_zero, Option.some.injEq] at ho
                          subst ho
                          have g191 : a1.tmps[191]? = some (.bool true) := hh.did 11 _ 191 rfl rfl (hd { on := 11, ground := .data } (by simp) rfl)
                          clear hh hd
                          have HN : Hid (CJ w u b tb b' tb' S X ob [.int .i64 ok, .int .i64 oi, .int .i64 os, .bool oh, .bool oc] 3 10 (done d 12)) := hj.plain 12 (by decide) (by decide)
                          clear hj hi
                          refine wpOp_step rfl (fun K hK => ?_)
                          go_simp
                          exact hK _ _ ⟨by simp [Act.put], HN.out⟩
                        | n + 13, ho, hi, hd => simp at ho
                      · intro u d hall hj
                        obtain ⟨F2, F3, t⟩ := hj.two
                        have h1 := hall 3 (by decide)
                        have h2 := hall 10 (by decide)
                        rw [h1, h2] at t
                        have HE : Hid (Tw w u b tb b' tb' F2 F3 X X ∧ Own u ob 34 [.int .i64 ok, .int .i64 oi, .int .i64 os, .bool oh, .bool oc] ∧ X.c ≤ j + 1) := ⟨t, hj.own, HXc.out⟩
                        clear hall hj t h1 h2
                        simp only [List.getD_cons_succ, List.getD_cons_zero]
                        go_wp2
                        go_meet
                        case rel => exact ⟨rfl, X, _, _, HE.out⟩
                    · have f0 : (ok == 0) = false := by simpa using g0
                      have f1 : (ok == 1) = false := by simpa using g1
                      have f2 : (ok == 2) = false := by simpa using g2
                      have f3 : (ok == 3) = false := by simpa using g3
                      have f4 : (ok == 4) = false := by simpa using g4
                      have f5 : (ok == 5) = false := by simpa using g5
                      have f6 : (ok == 6) = false := by simpa using g6
                      clear g0 g1 g2 g3 g4 g5 g6
                      go_wp2
                      go_meet
                      case rel => exact ⟨rfl, S, F, F', HW.out, BO.out, by have := HSc.out; omega⟩
      case rest =>
        clear HW BO HSc HLt
        obtain ⟨rfl, S, F, F', HC⟩ := hcut
        obtain ⟨yr, dr, hP⟩ := HC.out.1.ref.c2
        have hT1 := HC.out.1.tab.few
        have C1 : Hid (∀ q : KW wc, _) := fun q => sh_len q.it (HC.out.1.tab.kept q.ok)
        have C2 : Hid (∀ q : KW wc, _) := fun q => sh_count q.it (HC.out.1.tab.kept q.ok)
        have C3 : Hid (∀ q : KW wc, _) := fun q => sh_tblack oi oc q.it (HC.out.1.tab.kept q.ok)
        have C4 : Hid (∀ q : KW wc, _) := fun q => rsh_tblack oi oc q.it (HC.out.1.ref.kept q.ok)
        have d0 := fun q : KW wc => q.cell HC.out.1.ref.ltb HC.out.1.ref.c0
        have d1 := fun q : KW wc => q.cell HC.out.1.ref.ltb hP
        have d2 := fun q : KW wc => q.cell HC.out.1.ref.ltb HC.out.1.ref.c4
        have d3 := fun q : KW wc => q.cell HC.out.2.1.lt (HC.out.2.1.blk.at 1 rfl)
        have d4 := fun q : KW wc => q.cell HC.out.2.1.lt (HC.out.2.1.blk.at 4 rfl)
        have HZ : Hid (∀ q : KW wc, Tw w q.it b tb b' tb' F F' S S ∧ S.c ≤ j + 1) := fun q => ⟨HC.out.1.still q.ok, HC.out.2.2⟩
        clear HC hP
        generalize S.P.length = pl at *
        generalize blk S.n S.T oi oc = bk at *
        obtain ⟨sc, hsc⟩ : ∃ sc, S.c = sc := ⟨_, rfl⟩
        have HSC : Hid (S.c = sc) := hsc
        rw [hsc] at C2 d2
        clear hsc
        have z1 : ((pl : Int) != (pl : Int)) = false := by simp
        have z2 : (bk != bk) = false := by simp
        have z3 : ((sc : Int) != (sc : Int)) = false := by simp
        go_upto_region 34 with fail
        refine wp_region_kept (by kernel_rfl) (by kernel_rfl) fun _ => ?_
        repeat (go_big_quiet_step (first | (go_at_call 25; exact kept_of_same (C1.out _)) | (go_at_call 26; exact kept_of_same (C2.out _)) | (go_at_call 27; exact kept_of_same (C3.out _)) | (go_at_call 28; exact kept_of_same (C4.out _))))
        refine wpQuiet_nil ?_
        rintro _ ⟨q, rfl⟩
        have HZ2 := HZ.out q
        have HZ3 : Hid (Tw w q.it b tb b' tb' F F' S S ∧ S.c ≤ j + 1) := HZ2
        clear d0 d1 d2 d3 d4 C1 C2 C3 C4 HZ HZ2
        go_wp2
        go_roundg (l - (j + 1))
        all_goals (have := HM.out; try omega)
        all_goals exact ⟨j + 1, _, _, _, by go_num, by omega, rfl, HZ3.out⟩
    · obtain rfl : l = j := by omega
      have K2 : Hid (Kept w wr) := HR.out.1.kept
      clear HR HM
      go_wp2_with fail
      refine (first_any _).mono ?_
      rintro e w9 ⟨rfl, k9⟩
      have K9 : Hid (Kept w w9) := K2.out.trans k9
      clear k9
      go_wp2
      go_ret
      exact ⟨rfl, K9.out⟩

theorem shadePlays_any (n0 : Int) (n1 : Int) (x2 : Option Addr) (l2 c2 : Nat) (L2 : Nat → Op15) (w : World) (lo0 : IntKind.min .i64 ≤ n0) (hi0 : n0 ≤ IntKind.max .i64) (_lo1 : IntKind.min .i64 ≤ n1) (_hi1 : n1 ≤ IntKind.max .i64) (_h2c : l2 ≤ c2) (hL2 : Ops w x2 l2 L2) :
    Calls Try.prog 3 #[.int .i64 n0, .int .i64 n1, .slice x2 l2 c2] w fun e w' => e = .returned (.bool true) ∧ Kept w w' := by
  by_cases hn : 0 ≤ n0 ∧ n0 ≤ 1024 ∧ 1 ≤ n1 ∧ n1 ≤ 256
  · obtain ⟨n, rfl⟩ : ∃ n : Nat, n0 = n := ⟨n0.toNat, by omega⟩
    obtain ⟨most, rfl⟩ : ∃ n : Nat, n1 = n := ⟨n1.toNat, by omega⟩
    by_cases ho : 500 < (l2 : Int)
    · exact plays_out n most x2 l2 c2 w (by omega) hn.2.2.1 hn.2.2.2 ho
    · exact plays_in n most x2 l2 c2 L2 w hL2 (by omega) hn.2.2.1 hn.2.2.2 (by omega)
  · exact plays_bad n0 n1 x2 l2 c2 w hn lo0 hi0
end Go.Proofs.Ytfglmnjhnjkiiaa
