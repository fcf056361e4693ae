/-
  The modules RspB, one behind another.
-/
import Derived.Test.YtahpnnjemjjfhaaGreatM23
/-
  Contracts of the document's space: what was not granted, used, fits, grant.
-/
namespace Go.Proofs.YtahpnnjemjjfhaaGreat
open Go.RowKit

set_option maxHeartbeats 400000 in
theorem nobody_any (st : Int) (w : World) : Calls Tryz.prog 94 #[.int .i64 st] w fun e w' => e = .returned (.agg #[.int .i64 st, .slice none 0 0, .int .i64 (-1)]) ∧ Kept w w' := by
  have B0 : Hid (Blk (w.alloc (.cells #[.int .i64 st, .slice none 0 0, .int .i64 (-1)] 71)) w.heap.size [.int .i64 st, .slice none 0 0, .int .i64 (-1)]) := Blk.new w _ _
  go_enter Tryz.func94, Tryz.ntmps94
  go_wp2
  (try simp only [Exit.inBlock, Exit.then])
  exact bodyPost_ret_by (results_blk rfl _ _ w.heap.size [_, _, _] rfl B0.out Tryz.underlying71 (by kernel_rfl)) rfl ⟨rfl, (Kept.refl w).alloc _ _⟩

set_option maxHeartbeats 1000000 in
theorem rspine_any (C : Cv) (s k : Int) (w : World) (hS : Shps w C.x C.l C.S) (hG : C.Good) (h0 : 0 ≤ s ∧ s < 2) (h1 : 0 ≤ k ∧ k < C.n1) :
    Calls Tryz.prog 148 #[.agg #[.int .i64 C.n0, .int .i64 C.n1, .int .i64 C.n2, .int .i64 C.n3, .int .i64 C.n4, .int .i64 C.n5, .int .i64 C.n6, .int .i64 C.n7, .slice C.x C.l C.c], .int .i64 s, .int .i64 k] w fun e w' => e = .returned (.tuple #[.int .i64 (8 * C.n0 + s * C.n1 + k), .int .i64 0]) ∧ Kept w w' := by
  obtain ⟨n0, n1, n2, n3, n4, n5, n6, n7, x, l, c, S⟩ := C
  have HS : Hid (∀ u, Kept w u → Shps u x l S) := fun u k => hS.kept k
  have hG' : Good n0 n1 n2 n3 n4 n5 n6 n7 l S := hG
  have hc : Checks n0 n1 n2 n3 n4 n5 n6 n7 l S 0 := Checks.of_ok hG'.1 hG'.2
  have HCk : Hid (Checks n0 n1 n2 n3 n4 n5 n6 n7 l S 0) := hc
  obtain ⟨⟨⟨a0, a1⟩, ⟨a2, a3⟩, _⟩, _⟩ := hG'
  simp only at h0 h1 ⊢
  obtain ⟨h00, h01⟩ := h0
  obtain ⟨h10, h11⟩ := h1
  clear hS hG hc
  go_enter Tryz.func148, Tryz.ntmps148
  have s01 : 0 ≤ s * n1 ∧ s * n1 ≤ 2048 := by
    have : s = 0 ∨ s = 1 := by omega
    rcases this with rfl | rfl <;> omega
  have HN : Hid (4 ≤ n0 ∧ n0 ≤ 1024 ∧ 0 ≤ n1 ∧ n1 ≤ 2048 ∧ 0 ≤ s * n1 ∧ s * n1 ≤ 2048 ∧ 0 ≤ k ∧ k < n1 ∧ 0 ≤ s ∧ s < 2) := ⟨a0, a1, a2, a3, s01.1, s01.2, h10, h11, h00, h01⟩
  clear s01
  go_wp2_with fail
  generalize hW1 : w.alloc _ = W1
  have H1 : Hid (Blk W1 w.heap.size (cl n0 n1 n2 n3 n4 n5 n6 n7 (.slice x l c)) ∧ Kept w W1) := by rw [← hW1]; exact ⟨Blk.new w _ _, (Kept.refl w).alloc _ _⟩
  clear hW1
  have CK := ref_check n0 n1 n2 n3 n4 n5 n6 n7 x l c S 0 W1 (HS.out W1 H1.out.2) HCk.out
  refine CK.mono ?_
  rintro e w2 ⟨rfl, k2⟩
  have H2 : Hid (Blk w2 w.heap.size (cl n0 n1 n2 n3 n4 n5 n6 n7 (.slice x l c)) ∧ Kept w w2) := ⟨H1.out.1.kept k2, H1.out.2.trans k2⟩
  clear k2 H1 CK
  have b0 := H2.out.1.at 0 rfl
  have b1 := H2.out.1.at 1 rfl
  go_wp2_with fail
  refine (in_any s 0 1 true w2 (by have := HN.out; simp; omega)).mono ?_
  rintro e w3 ⟨rfl, e3⟩
  rw [e3]
  clear e3
  go_wp2_with fail
  refine (in_any k 0 (n1 - 1) true w2 (by have := HN.out; simp; omega)).mono ?_
  rintro e w3 ⟨rfl, e3⟩
  rw [e3]
  clear e3
  have hs01 : s = 0 ∨ s = 1 := by have := HN.out; omega
  rcases hs01 with rfl | rfl
  · go_wp2
    go_ret2
    exact ⟨by simp, H2.out.2⟩
  · go_wp2
    go_ret2
    exact ⟨by simp, H2.out.2⟩

section
variable {B : Nat} {c : Nat → Nat} {A : Ar} {S : Sp}
set_option maxHeartbeats 4000000 in
theorem rused_any {x : Option Addr} {dd : Nat} {G : List Int} (se : Bool) (w : World) (h : RSH B w c A S) (hx : Rdi w x G) (hg : ∀ g o, x = some ⟨g, o, none⟩ → c g ≠ 1) (hl : G.length ≤ 1000000) :
    Calls Tryz.prog 96 #[.pointer (some ⟨A.b, 0, none⟩), .slice x G.length dd, .bool se] w fun e w' => e = .returned (.tuple #[]) ∧ RSH B w' c A { S with T := useT S.n 2 se S.T G } ∧ Stp c w c w' ∧ Mut [A.gs, A.gh, A.gc] w w' := by
  have HX : Hid (Rdi w x G ∧ ∀ g o, x = some ⟨g, o, none⟩ → g ∉ [A.gs, A.gh, A.gc]) := ⟨hx, fun g o e q => by
    have h1 := hg g o e
    simp only [List.mem_cons, List.not_mem_nil, or_false] at q
    rcases q with rfl | rfl | rfl
    · exact h1 h.cgs
    · exact h1 h.cgh
    · exact h1 h.cgc⟩
  have H : Hid (RSH B w c A S) := h
  clear h hx hg
  go_enter Tryz.func96, Tryz.ntmps96
  go_wp2
  go_loopg [6] G.length (fun m i wr => ∃ k : Nat, i = .int .i64 k ∧ k ≤ G.length ∧ m = G.length - k ∧ Hid (RSH B wr c A { S with T := useT S.n 2 se S.T (G.take k) } ∧ Stp c w c wr ∧ Mut [A.gs, A.gh, A.gc] w wr))
  case atStart => exact ⟨0, rfl, by omega, by omega, by simpa [useT] using H.out, Stp.refl _ _, Mut.refl _ _⟩
  case round =>
    obtain ⟨k, rfl, hk, hm, hw⟩ := hrel
    have HM : Hid _ := hm
    clear hm
    by_cases hlt : k < G.length
    · have hx2 : Rdi wr x G := HX.out.1.muts hw.out.2.2 HX.out.2
      obtain ⟨g, o, rfl, hgl, hc⟩ := hx2 (by omega)
      have hst : Hid (setT S.n (useT S.n 2 se S.T (G.take k)) G[k] 2 false se = useT S.n 2 se S.T (G.take (k + 1))) := useT_take hlt
      have a0 := hc k hlt
      have HC : Hid ((∀ u, Kept wr u → u.cell? ⟨A.b, 9, none⟩ = some (.pointer (some ⟨A.tb, 0, none⟩))) ∧ (∀ u, Kept wr u → u.cell? ⟨g, o + k, none⟩ = some (.int .i64 G[k]))) :=
        ⟨fun u q => (hw.out.1.kept q).cell (i := 9) (u := .pointer (some ⟨A.tb, 0, none⟩)) (fun _ _ => rfl), fun u q => (q.cell hgl).trans a0⟩
      obtain ⟨Q, hQ⟩ : ∃ Q : World → Prop, Q = fun u => RSH B u c A { S with T := useT S.n 2 se S.T (G.take (k + 1)) } ∧ Stp c w c u ∧ Mut [A.gs, A.gh, A.gc] w u := ⟨_, rfl⟩
      have HQ : Hid (∀ u, Q u → RSH B u c A { S with T := useT S.n 2 se S.T (G.take (k + 1)) } ∧ Stp c w c u ∧ Mut [A.gs, A.gh, A.gc] w u) := fun u q => by rw [hQ] at q; exact q
      obtain ⟨rb, hrb⟩ : ∃ rb : Bool, rb = (inn S.n G[k] && isSt 2) := ⟨_, rfl⟩
      have HT : Hid (∀ u, Kept wr u → Calls Tryz.prog 101 #[.pointer (some ⟨A.tb, 0, none⟩), .int .i64 G[k], .int .i64 2, .bool false, .bool se] u fun e u' => e = .returned (.bool rb) ∧ Q u') := fun u q => by
        obtain ⟨T', t1, t2⟩ := (hw.out.1.kept q).tab
        rw [hrb, hQ]
        refine (trset_any G[k] 2 false se u t1).mono ?_
        rintro e u' ⟨rfl, t3, m3⟩
        have t4 := t2.set G[k] 2 false se se (fun _ => rfl)
        rw [hst.out] at t4
        have r := (hw.out.1.kept q).tabs (T := useT S.n 2 se S.T (G.take (k + 1))) t3 t4 m3
        exact ⟨rfl, r.1, hw.out.2.1.trans ((Stp.kept q).trans r.2), hw.out.2.2.trans (q.mut.trans m3)⟩
      clear hc a0 hgl hQ hrb hst hx2
      generalize G[k] = z at *
      go_wp2_with fail
      refine wp_region_ghost (G := Unit) (fun ⟨⟩ => [(.pointer (some ⟨A.b, 0, none⟩)), (.pointer (some ⟨A.b, 0, none⟩)), (.pointer (some ⟨A.b, 9, none⟩)), (.pointer (some ⟨A.tb, 0, none⟩)), (.slice (some ⟨g, o, none⟩) G.length dd), (.int .i64 (k : Int)), (.pointer (some ⟨g, o + k, none⟩)), (.int .i64 z), (.bool se), (.bool rb)]) [(13, 0), (14, 1), (15, 2), (16, 3), (17, 4), (18, 5), (19, 6), (20, 7), (21, 8), (22, 9)] (fun ⟨⟩ d u => JP 9 [] (fun u => Kept wr u) (fun u => Q u) d u) (by kernel_rfl) (by kernel_rfl) (by kernel_rfl) (by kernel_rfl) (fun _ => rfl) ?_ ?_ ?_
      · exact ⟨(), JP.start (Kept.refl _).drew⟩
      · intro i1 o1 ho ng a1 d u hh hj0 hi hd hc
        obtain ⟨⟩ := ng
        have hj : JP 9 [] (fun u => Kept wr u) (fun u => Q u) d u := hj0
        clear hj0
        match i1, ho, hi, hd with
        | 0, ho, hi, hd =>
          simp only [List.getElem?_cons_zero, Option.some.injEq] at ho
          subst ho
          have g0 : a1.tmps[0]? = some (.pointer (some ⟨A.b, 0, none⟩)) := hh.old 0 (by kernel_rfl) rfl
          have HN : Hid (JP 9 [] (fun u => Kept wr u) (fun u => Q u) (done d 0) u) := hj.plain 0 (by decide)
          clear hh hd hc hj hi
          refine wpOp_step rfl (fun K hK => ?_)
          go_simp
          exact hK _ _ ⟨⟨⟩, fun _ _ => rfl, by simp [Act.put], HN.out⟩
        | 1, ho, hi, hd =>
          simp only [List.getElem?_cons_succ, List.getElem?_cons_zero, Option.some.injEq] at ho
          subst ho
          have g13 : a1.tmps[13]? = some (.pointer (some ⟨A.b, 0, none⟩)) := hh.did 0 _ 13 rfl rfl (hd { on := 0, ground := .data } (by simp) rfl)
          have HN : Hid (JP 9 [] (fun u => Kept wr u) (fun u => Q u) (done d 1) u) := hj.plain 1 (by decide)
          clear hh hd hc hj hi
          refine wpOp_step rfl (fun K hK => ?_)
          go_simp
          exact hK _ _ ⟨⟨⟩, fun _ _ => rfl, by simp [Act.put], HN.out⟩
        | 2, ho, hi, hd =>
          simp only [List.getElem?_cons_succ, List.getElem?_cons_zero, Option.some.injEq] at ho
          subst ho
          have g14 : a1.tmps[14]? = some (.pointer (some ⟨A.b, 0, none⟩)) := hh.did 1 _ 14 rfl rfl (hd { on := 1, ground := .data } (by simp) rfl)
          have HN : Hid (JP 9 [] (fun u => Kept wr u) (fun u => Q u) (done d 2) u) := hj.plain 2 (by decide)
          clear hh hd hc hj hi
          refine wpOp_step rfl (fun K hK => ?_)
          go_simp
          exact hK _ _ ⟨⟨⟩, fun _ _ => rfl, by simp [Act.put], HN.out⟩
        | 3, ho, hi, hd =>
          simp only [List.getElem?_cons_succ, List.getElem?_cons_zero, Option.some.injEq] at ho
          subst ho
          have g15 : a1.tmps[15]? = some (.pointer (some ⟨A.b, 9, none⟩)) := hh.did 2 _ 15 rfl rfl (hd { on := 2, ground := .data } (by simp) rfl)
          have n9 : d 9 = false := by
            cases q : d 9 with
            | false => rfl
            | true => exact absurd (hc 9 _ rfl q { on := 3, ground := .data } (by simp) rfl) (by simp [hi])
          have h0 := hj.now n9
          have c9 : u.cell? ⟨A.b, 9, none⟩ = some (.pointer (some ⟨A.tb, 0, none⟩)) := HC.out.1 u h0
          have HN : Hid (JP 9 [] (fun u => Kept wr u) (fun u => Q u) (done d 3) u) := hj.plain 3 (by decide)
          clear hh hd hc hj hi
          refine wpOp_step rfl (fun K hK => ?_)
          go_simp
          exact hK _ _ ⟨⟨⟩, fun _ _ => rfl, by simp [Act.put], HN.out⟩
        | 4, ho, hi, hd =>
          simp only [List.getElem?_cons_succ, List.getElem?_cons_zero, Option.some.injEq] at ho
          subst ho
          have g1 : a1.tmps[1]? = some (.slice (some ⟨g, o, none⟩) G.length dd) := hh.old 1 (by kernel_rfl) rfl
          have HN : Hid (JP 9 [] (fun u => Kept wr u) (fun u => Q u) (done d 4) u) := hj.plain 4 (by decide)
          clear hh hd hc hj hi
          refine wpOp_step rfl (fun K hK => ?_)
          go_simp
          exact hK _ _ ⟨⟨⟩, fun _ _ => rfl, by simp [Act.put], HN.out⟩
        | 5, ho, hi, hd =>
          simp only [List.getElem?_cons_succ, List.getElem?_cons_zero, Option.some.injEq] at ho
          subst ho
          have g6 : a1.tmps[6]? = some (.int .i64 (k : Int)) := hh.old 6 (by kernel_rfl) rfl
          have HN : Hid (JP 9 [] (fun u => Kept wr u) (fun u => Q u) (done d 5) u) := hj.plain 5 (by decide)
          clear hh hd hc hj hi
          refine wpOp_step rfl (fun K hK => ?_)
          go_simp
          exact hK _ _ ⟨⟨⟩, fun _ _ => rfl, by simp [Act.put], HN.out⟩
        | 6, ho, hi, hd =>
          simp only [List.getElem?_cons_succ, List.getElem?_cons_zero, Option.some.injEq] at ho
          subst ho
          have g17 : a1.tmps[17]? = some (.slice (some ⟨g, o, none⟩) G.length dd) := hh.did 4 _ 17 rfl rfl (hd { on := 4, ground := .data } (by simp) rfl)
          have g18 : a1.tmps[18]? = some (.int .i64 (k : Int)) := hh.did 5 _ 18 rfl rfl (hd { on := 5, ground := .data } (by simp) rfl)
          have HN : Hid (JP 9 [] (fun u => Kept wr u) (fun u => Q u) (done d 6) u) := hj.plain 6 (by decide)
          clear hh hd hc hj hi
          refine wpOp_step rfl (fun K hK => ?_)
          go_simp
          exact hK _ _ ⟨⟨⟩, fun _ _ => rfl, by simp [Act.put], HN.out⟩
        | 7, ho, hi, hd =>
          simp only [List.getElem?_cons_succ, List.getElem?_cons_zero, Option.some.injEq] at ho
          subst ho
          have g19 : a1.tmps[19]? = some (.pointer (some ⟨g, o + k, none⟩)) := hh.did 6 _ 19 rfl rfl (hd { on := 6, ground := .data } (by simp) rfl)
          have n9 : d 9 = false := by
            cases q : d 9 with
            | false => rfl
            | true => exact absurd (hc 9 _ rfl q { on := 7, ground := .data } (by simp) rfl) (by simp [hi])
          have h0 := hj.now n9
          have cz : u.cell? ⟨g, o + k, none⟩ = some (.int .i64 z) := HC.out.2 u h0
          have HN : Hid (JP 9 [] (fun u => Kept wr u) (fun u => Q u) (done d 7) u) := hj.plain 7 (by decide)
          clear hh hd hc hj hi
          refine wpOp_step rfl (fun K hK => ?_)
          go_simp
          exact hK _ _ ⟨⟨⟩, fun _ _ => rfl, by simp [Act.put], HN.out⟩
        | 8, ho, hi, hd =>
          simp only [List.getElem?_cons_succ, List.getElem?_cons_zero, Option.some.injEq] at ho
          subst ho
          have g2 : a1.tmps[2]? = some (.bool se) := hh.old 2 (by kernel_rfl) rfl
          have HN : Hid (JP 9 [] (fun u => Kept wr u) (fun u => Q u) (done d 8) u) := hj.plain 8 (by decide)
          clear hh hd hc hj hi
          refine wpOp_step rfl (fun K hK => ?_)
          go_simp
          exact hK _ _ ⟨⟨⟩, fun _ _ => rfl, by simp [Act.put], HN.out⟩
        | 9, ho, hi, hd =>
          simp only [List.getElem?_cons_succ, List.getElem?_cons_zero, Option.some.injEq] at ho
          subst ho
          have g16 : a1.tmps[16]? = some (.pointer (some ⟨A.tb, 0, none⟩)) := hh.did 3 _ 16 rfl rfl (hd { on := 3, ground := .data } (by simp) rfl)
          have g20 : a1.tmps[20]? = some (.int .i64 z) := hh.did 7 _ 20 rfl rfl (hd { on := 7, ground := .data } (by simp) rfl)
          have g21 : a1.tmps[21]? = some (.bool se) := hh.did 8 _ 21 rfl rfl (hd { on := 8, ground := .data } (by simp) rfl)
          have h0 := hj.now hi
          have C := HT.out u h0
          clear hh hd hc hj hi h0
          refine wpOp_step rfl (fun K hK => ?_)
          go_simp
          refine C.mono ?_
          rintro e u2 ⟨rfl, q2⟩
          exact hK _ _ ⟨(), fun _ _ => rfl, by simp [Act.put], JP.turn (fun r hr => absurd hr (by simp)) q2⟩
        | n + 10, ho, hi, hd => simp at ho
      · intro ng u d hall hj0
        obtain ⟨⟩ := ng
        have hj : JP 9 [] (fun u => Kept wr u) (fun u => Q u) d u := hj0
        clear hj0
        have h1 : Hid (Q u) := hj.fin (hall 9 (by decide))
        clear hall hj
        refine norm_list' (L' := [_, _, _, _, _, _, _, _, _, _, _, _, _, _, _, _, _, _, _, _, _, _, _]) rfl ?_
        go_wp2
        go_roundg (gk - 1)
        all_goals (have := HM.out; try omega)
        exact ⟨k + 1, by go_num, by omega, by omega, HQ.out u h1.out⟩
    · obtain rfl : k = G.length := by omega
      have e1 : G.take G.length = G := List.take_length
      rw [e1] at hw
      go_wp2
      go_end0
      exact ⟨rfl, hw.out⟩

set_option maxHeartbeats 1000000 in
theorem rfits_any (fr sp : Int) (w : World) (h : RSH B w c A S) :
    Calls Tryz.prog 97 #[.pointer (some ⟨A.b, 0, none⟩), .int .i64 fr, .int .i64 sp] w fun e w' => e = .returned (.bool (fitsB S fr sp)) ∧ Kept w w' := by
  have b10 := h.cell (i := 10) (u := .pointer (some ⟨A.pb, 0, none⟩)) fun _ _ => rfl
  have b14 := h.cell (i := 14) (u := .pointer (some ⟨A.kb, 0, none⟩)) fun _ _ => rfl
  have CR := prrun_any fr w h.pool
  have CF := prfree_any w h.pool
  have CK := krroom_any w h.coil
  have HF : Hid (fitsB S fr sp = (!decide ((cntB S.F S.n : Int) < fr) && ((sp == 0) || (runO S.n S.F fr).isSome || decide (sp ≤ roomF S.K)))) := rfl
  clear h
  generalize (runO S.n S.F fr) = R0 at *
  generalize roomF S.K = r0 at *
  generalize cntB S.F S.n = cf at *
  go_enter Tryz.func97, Tryz.ntmps97
  go_wp2_with fail
  refine CR.mono ?_
  rintro e w2 ⟨rfl, e2⟩
  rw [e2]
  clear e2 CR
  go_wp2_with fail
  refine CF.mono ?_
  rintro e w2 ⟨rfl, e2⟩
  rw [e2]
  clear e2 CF
  by_cases hlt : (cf : Int) < fr
  · have g1 : ¬ (cf : Int) ≥ fr := by omega
    go_wp2
    go_ret
    exact ⟨by simp [HF.out, hlt], Kept.refl _⟩
  · have g1 : (cf : Int) ≥ fr := by omega
    by_cases h0 : sp = 0
    · subst h0
      go_wp2
      go_ret
      exact ⟨by simp [HF.out, hlt], Kept.refl _⟩
    · have q0 : (sp == 0) = false := by simpa using h0
      cases hr : R0.isSome
      · rw [hr] at HF
        go_wp2_with fail
        refine CK.mono ?_
        rintro e w4 ⟨rfl, k4⟩
        have K4 : Hid (Kept w w4) := k4
        clear k4 CK
        by_cases hs : sp ≤ r0
        · have g2 : r0 ≥ sp := hs
          go_wp2
          go_ret
          exact ⟨by simp [HF.out, hlt, q0, hs], K4.out⟩
        · have g2 : ¬ r0 ≥ sp := hs
          go_wp2
          go_ret
          exact ⟨by simp [HF.out, hlt, q0], K4.out⟩
      · rw [hr] at HF
        go_wp2
        go_ret
        exact ⟨by simp [HF.out, hlt], Kept.refl _⟩

set_option maxHeartbeats 4000000 in
theorem rgrant_any (fr sp : Int) (se : Bool) (w : World) (h : RSH B w c A S) (ht : fitsB S fr sp = true) (hf : 1 ≤ fr) (hs : 0 ≤ sp) :
    Calls Tryz.prog 98 #[.pointer (some ⟨A.b, 0, none⟩), .int .i64 fr, .int .i64 sp, .bool se] w fun e w' => ∃ x d, e = .returned (.tuple #[.slice x (takeZ S.n S.F fr).length d, .int .i64 (S.tkA fr sp)]) ∧
      RSH B w' c A (S.tk fr sp se) ∧ Stp c w c w' ∧ Rdi w' x (takeZ S.n S.F fr) ∧ ∀ g o, x = some ⟨g, o, none⟩ → w.heap.size ≤ g := by
  have HS : Hid (RSH B w c A S) := h
  obtain ⟨hT, hP⟩ := fits_takes ht hf hs
  have HP : Hid ((sp == 0 || (runO S.n S.F fr).isSome) = false → takes S.K sp = true) := hP
  have HL : Hid ((takeZ S.n S.F fr).length ≤ 1024) := by
    have hk : 1 ≤ fr ∧ fr ≤ cntB S.F S.n := by simpa [takeB] using hT
    have h1 := cntB_le S.F S.n
    have h2 := h.pool.few
    have hl : (takeZ S.n S.F fr).length = fr.toNat := by simp [takeZ, takeL_len hT]
    show _ ≤ _
    omega
  have HA : Hid (S.tkA fr sp = if sp == 0 || (runO S.n S.F fr).isSome then -1 else S.at) := rfl
  have HK : Hid (S.tk fr sp se = { S with T := useT S.n 2 se S.T (takeZ S.n S.F fr), F := dropF S.F (takeL S.n S.F fr), K := if sp == 0 || (runO S.n S.F fr).isSome then S.K else takeS S.K sp }) := rfl
  have HTB : Hid (takeB S.n S.F fr = true) := hT
  have NW : Hid (∀ k, w.heap.size ≤ k → c k = 0) := fun k hk => HS.out.new hk
  have b10 := h.cell (i := 10) (u := .pointer (some ⟨A.pb, 0, none⟩)) fun _ _ => rfl
  have CR := prrun_any fr w h.pool
  have CT := prtake_any fr w h.pool
  rw [hT] at CT
  have HSP : Hid (0 ≤ sp) := hs
  clear h ht hP hT hf hs
  obtain ⟨rn, hrn⟩ : ∃ rn, rn = (runO S.n S.F fr).isSome := ⟨_, rfl⟩
  rw [← hrn] at CR HP HA HK
  clear hrn
  go_enter Tryz.func98, Tryz.ntmps98
  go_wp2_with fail
  refine CR.mono ?_
  rintro e w2 ⟨rfl, e2⟩
  rw [e2]
  clear e2 CR
  go_wp2_with fail
  refine CT.mono ?_
  rintro e w2 ⟨v, rfl, g2, t2, m2⟩
  have l2 := Got.lst g2
  rw [show ((takeL S.n S.F fr).map fun x : Nat => (x : Int)) = takeZ S.n S.F fr from rfl] at l2
  obtain ⟨x, d, rfl⟩ := l2.form
  have H2 : Hid (RSH B w2 c A { S with F := dropF S.F (takeL S.n S.F fr) } ∧ Stp c w c w2 ∧ Lst w2 w.heap.size (.slice x (takeZ S.n S.F fr).length d) (takeZ S.n S.F fr)) :=
    ⟨(HS.out.pools t2 m2).1, (HS.out.pools t2 m2).2, l2⟩
  have HX : Hid (∀ g o, x = some ⟨g, o, none⟩ → w.heap.size ≤ g) := fun g o e => by
    subst e
    exact (l2.lt g rfl).1
  clear CT g2 t2 m2 l2 b10
  have CU := rused_any (dd := d) se w2 H2.out.1 H2.out.2.2.rdi (fun g o e q => by rw [NW.out g (HX.out g o e)] at q; cases q) (by have := HL.out; omega)
  generalize hG : takeZ S.n S.F fr = G at *
  have HG : Hid (takeZ S.n S.F fr = G) := hG
  clear hG
  go_wp2_with fail
  refine CU.mono ?_
  rintro e w3 ⟨rfl, s3, p3, m3⟩
  have H3 : Hid (RSH B w3 c A { S with T := useT S.n 2 se S.T G, F := dropF S.F (takeL S.n S.F fr) } ∧ Stp c w c w3 ∧ Rdi w3 x G) := by
    refine ⟨s3, H2.out.2.1.trans p3, H2.out.2.2.rdi.muts m3 fun g o e q => ?_⟩
    have h1 := NW.out g (HX.out g o e)
    simp only [List.mem_cons, List.not_mem_nil, or_false] at q
    rcases q with rfl | rfl | rfl
    · rw [HS.out.cgs] at h1; cases h1
    · rw [HS.out.cgh] at h1; cases h1
    · rw [HS.out.cgc] at h1; cases h1
  clear CU s3 p3 m3 H2
  by_cases hb : (sp == 0 || rn) = true
  · have e1 : Hid (S.tkA fr sp = -1) := (HA.out.trans (if_pos hb) : S.tkA fr sp = -1)
    have e2 : Hid (RSH B w3 c A (S.tk fr sp se)) := by rw [HK.out, hb]; exact H3.out.1
    by_cases h0 : sp = 0
    · subst h0
      have g0 : ¬ (0 : Int) > 0 := by omega
      clear hb
      go_wp2
      go_ret2
      exact ⟨x, d, by rw [e1.out, HG.out] <;> rfl, e2.out, H3.out.2.1, HG.out ▸ H3.out.2.2, HX.out⟩
    · obtain rfl : rn = true := by
        have q0 : (sp == 0) = false := by simpa using h0
        rw [q0] at hb; simpa using hb
      have g0 : sp > 0 := by have := HSP.out; omega
      clear hb
      go_wp2
      go_ret2
      exact ⟨x, d, by rw [e1.out, HG.out] <;> rfl, e2.out, H3.out.2.1, HG.out ▸ H3.out.2.2, HX.out⟩
  · have hb : (sp == 0 || rn) = false := by simpa using hb
    have ht : takes S.K sp = true := HP.out hb
    have e1 : Hid (S.tkA fr sp = S.at) := by rw [HA.out, hb]; rfl
    have HK2 : Hid (S.tk fr sp se = { S with T := useT S.n 2 se S.T G, F := dropF S.F (takeL S.n S.F fr), K := takeS S.K sp }) := by rw [HK.out, hb]; rfl
    obtain ⟨hb1, rfl⟩ : (sp == 0) = false ∧ rn = false := by simpa [Bool.or_eq_false_iff] using hb
    have g0 : sp > 0 := by have := HSP.out; have : sp ≠ 0 := by simpa using hb1
                           omega
    have TA : Hid (takeA S.K sp = (S.K.u : Int) ∧ (takeS S.K sp).s = S.K.s ∧ (takeS S.K sp).c = S.K.c ∧ S.K.u < S.K.s ∧ (S.K.c = 0 ∨ S.K.c = 1)) := by
      obtain ⟨m, rfl, q1, q2, q3⟩ := takes_room ht
      refine ⟨by simp [takeA, ht], ?_, ?_, by omega, HS.out.coil.ok.two⟩
      · simp only [takeS, ht, if_true, putU]; split <;> rfl
      · simp only [takeS, ht, if_true, putU]; split <;> rfl
    have CK := krtake_any sp w3 H3.out.1.coil
    have b14 := H3.out.1.cell (i := 14) (u := .pointer (some ⟨A.kb, 0, none⟩)) fun _ _ => rfl
    rw [show takeA ({ S with T := useT S.n 2 se S.T G, F := dropF S.F (takeL S.n S.F fr) } : Sp).K sp = (S.K.u : Int) from TA.out.1, show takes ({ S with T := useT S.n 2 se S.T G, F := dropF S.F (takeL S.n S.F fr) } : Sp).K sp = true from ht] at CK
    clear hb ht hb1
    go_wp2_with fail
    refine CK.mono ?_
    rintro e w4 ⟨rfl, t4, m4⟩
    have H2 : Hid (RSH B w4 c A (S.tk fr sp se) ∧ Stp c w c w4 ∧ Rdi w4 x G) := by
      have r := H3.out.1.coils t4 TA.out.2.1 m4
      refine ⟨by rw [HK2.out]; exact r.1, H3.out.2.1.trans r.2, H3.out.2.2.muts m4 fun g o e q => ?_⟩
      have h1 := NW.out g (HX.out g o e)
      rw [List.mem_singleton.1 q, HS.out.ckb] at h1; cases h1
    clear CK t4 m4 b14
    obtain ⟨w2, rfl⟩ : ∃ w2, w2 = w4 := ⟨_, rfl⟩
    have L2 := H2.out.1.low A.b (by obtain ⟨_, _, _, q⟩ := H2.out.1.hd; rw [q]; decide)
    have LK := H2.out.1.low A.kb (by rw [H2.out.1.ckb]; decide)
    have f0 := fun z : KW w2 => z.cell (a := ⟨A.b, 0, none⟩) L2 (H2.out.1.cell (i := 0) (u := .int .i64 A.C.n0) fun _ _ => rfl)
    have f1 := fun z : KW w2 => z.cell (a := ⟨A.b, 1, none⟩) L2 (H2.out.1.cell (i := 1) (u := .int .i64 A.C.n1) fun _ _ => rfl)
    have f2 := fun z : KW w2 => z.cell (a := ⟨A.b, 2, none⟩) L2 (H2.out.1.cell (i := 2) (u := .int .i64 A.C.n2) fun _ _ => rfl)
    have f3 := fun z : KW w2 => z.cell (a := ⟨A.b, 3, none⟩) L2 (H2.out.1.cell (i := 3) (u := .int .i64 A.C.n3) fun _ _ => rfl)
    have f4 := fun z : KW w2 => z.cell (a := ⟨A.b, 4, none⟩) L2 (H2.out.1.cell (i := 4) (u := .int .i64 A.C.n4) fun _ _ => rfl)
    have f5 := fun z : KW w2 => z.cell (a := ⟨A.b, 5, none⟩) L2 (H2.out.1.cell (i := 5) (u := .int .i64 A.C.n5) fun _ _ => rfl)
    have f6 := fun z : KW w2 => z.cell (a := ⟨A.b, 6, none⟩) L2 (H2.out.1.cell (i := 6) (u := .int .i64 A.C.n6) fun _ _ => rfl)
    have f7 := fun z : KW w2 => z.cell (a := ⟨A.b, 7, none⟩) L2 (H2.out.1.cell (i := 7) (u := .int .i64 A.C.n7) fun _ _ => rfl)
    have f8 := fun z : KW w2 => z.cell (a := ⟨A.b, 8, none⟩) L2 (H2.out.1.cell (i := 8) (u := .slice A.C.x A.C.l A.C.c) fun _ _ => rfl)
    have f14 := fun z : KW w2 => z.cell (a := ⟨A.b, 14, none⟩) L2 (H2.out.1.cell (i := 14) (u := .pointer (some ⟨A.kb, 0, none⟩)) fun _ _ => rfl)
    have ck1 : w2.cell? ⟨A.kb, 1, none⟩ = some (.int .i64 (S.K.c : Int)) := by
      have := H2.out.1.coil.c1
      rw [HK2.out] at this
      rw [this]
      show some (Value.int .i64 (((takeS S.K sp).c : Nat) : Int)) = _
      rw [TA.out.2.2.1]
    have k1 := fun z : KW w2 => z.cell (a := ⟨A.kb, 1, none⟩) LK ck1
    clear ck1
    have CP : Hid (∀ z : KW w2, _) := fun z : KW w2 => rspine_any A.C (S.K.c : Int) (S.K.u : Int) z.it (H2.out.1.kept z.ok).shp HS.out.good (by rcases TA.out.2.2.2.2 with q | q <;> rw [q] <;> decide) (by have := TA.out.2.2.2.1; have := HS.out.n1; omega)
    have ea : 8 * A.C.n0 + (S.K.c : Int) * A.C.n1 + (S.K.u : Int) = S.at := by
      rw [HS.out.n0, HS.out.n1]; rfl
    rw [ea] at CP
    clear ea
    generalize hsa : S.at = sa at *
    have HSA : Hid (S.at = sa) := hsa
    clear hsa
    generalize S.K.c = kc at *
    generalize S.K.u = ku at *
    go_wp2_with fail
    refine wp_region_kept (by kernel_rfl) (by kernel_rfl) fun _ => ?_
    repeat (go_big_quiet_step (first | (go_at_call 148; exact kept_of (CP.out _))))
    refine wpQuiet_nil ?_
    rintro _ ⟨z, rfl⟩
    have H4 : Hid (RSH B z.it c A (S.tk fr sp se) ∧ Stp c w c z.it ∧ Rdi z.it x G) := ⟨H2.out.1.kept z.ok, H2.out.2.1.trans (Stp.kept z.ok), H2.out.2.2.kept z.ok⟩
    clear H2 f0 f1 f2 f3 f4 f5 f6 f7 f8 f14 k1 CP
    go_wp2
    go_ret2
    exact ⟨x, d, by rw [e1.out, HG.out] <;> rfl, H4.out.1, H4.out.2.1, HG.out ▸ H4.out.2.2, HX.out⟩
end
end Go.Proofs.YtahpnnjemjjfhaaGreat

