/-
  The modules One0, One1, one behind another.
-/
import Derived.Test.YtahpnnjemjjfhaaGreatM31
/-
  An operation on both spaces: kind 0.
-/
namespace Go.Proofs.YtahpnnjemjjfhaaGreat
open Go.RowKit

set_option maxHeartbeats 4000000 in
set_option maxRecDepth 20000 in
theorem one_0 {w0 : World} {A : Ad} {R : Ar} {S : Sp} {kb : Nat} (t f s n : Int) (b : Bool) (w : World) (h : Two w0 A R S w) (hi : Inv S kb) (hkb : kb ≤ 50000) (hn : A.C.n7 = R.C.n7) :
    Calls Tryz.prog 11 #[.pointer (some ⟨A.b, 0, none⟩), .pointer (some ⟨R.b, 0, none⟩), .agg #[.int .i64 0, .int .i64 t, .int .i64 f, .int .i64 s, .int .i64 n, .bool b]] w fun e w' => e = .returned (.bool true) ∧ Two w0 A R (S.op ⟨0, t, f, s, n, b⟩) w' := by
  have HT : Hid (Two w0 A R S w) := h
  have HI : Hid (Inv S kb ∧ kb ≤ 50000 ∧ A.C.n7 = R.C.n7) := ⟨hi, hkb, hn⟩
  clear h hi hkb hn
  go_enter Tryz.func11, Tryz.ntmps11
  go_upto_region 1 with fail
  generalize hW : w.alloc _ = W
  have H0 : Hid (Tw w0 A R w.heap.size [.int .i64 0, .int .i64 t, .int .i64 f, .int .i64 s, .int .i64 n, .bool b] [] S S W) := by
    rw [← hW]
    exact HT.out.box [.int .i64 0, .int .i64 t, .int .i64 f, .int .i64 s, .int .i64 n, .bool b]
  clear hW HT
  generalize w.heap.size = ob at *
  have e0 : W.cell? ⟨ob, 0, none⟩ = some (.int .i64 0) := H0.out.own.blk.at 0 rfl
  obtain ⟨gs, hgs⟩ : ∃ gs, (S.askG t f s).st = gs := ⟨_, rfl⟩
  obtain ⟨G, hG⟩ : ∃ G, (S.askG t f s).G = G := ⟨_, rfl⟩
  obtain ⟨ga, hga⟩ : ∃ ga, (S.askG t f s).at_ = ga := ⟨_, rfl⟩
  have HL : G.length ≤ 1000000 := by
    rw [← hG]
    obtain ⟨c, c', a, _⟩ := H0.out.ex
    exact askG_short a t f s
  have HE : S.op ⟨0, t, f, s, n, b⟩ = S.ask t f s b := by show _ = _; simp [Sp.op]
  obtain ⟨P0, hP0⟩ : ∃ P0 : World → Prop, P0 = fun u => Tw w0 A R ob [.int .i64 0, .int .i64 t, .int .i64 f, .int .i64 s, .int .i64 n, .bool b] [] S S u := ⟨_, rfl⟩
  obtain ⟨P1, hP1⟩ : ∃ P1 : Option Addr → World → Prop, P1 = fun x u => Rdi u x G ∧ ∃ X, Apart x X ∧ Tw w0 A R ob [.int .i64 0, .int .i64 t, .int .i64 f, .int .i64 s, .int .i64 n, .bool b] X (S.ask t f s b) S u := ⟨_, rfl⟩
  obtain ⟨P2, hP2⟩ : ∃ P2 : Option Addr → Option Addr → World → Prop, P2 = fun x1 x2 u => Rdi u x1 G ∧ Rdi u x2 G ∧ Tw w0 A R ob [.int .i64 0, .int .i64 t, .int .i64 f, .int .i64 s, .int .i64 n, .bool b] [] (S.ask t f s b) (S.ask t f s b) u := ⟨_, rfl⟩
  have A0 : Hid (∀ u, P0 u → Blk u ob [.int .i64 0, .int .i64 t, .int .i64 f, .int .i64 s, .int .i64 n, .bool b]) := fun u q => by rw [hP0] at q; exact q.own.blk
  have A1 : Hid (∀ x u, P1 x u → Blk u ob [.int .i64 0, .int .i64 t, .int .i64 f, .int .i64 s, .int .i64 n, .bool b]) := fun x u q => by
    rw [hP1] at q
    obtain ⟨_, X, _, q⟩ := q
    exact q.own.blk
  have A2 : Hid (∀ x1 x2 u, P2 x1 x2 u → Blk u ob [.int .i64 0, .int .i64 t, .int .i64 f, .int .i64 s, .int .i64 n, .bool b]) := fun x1 x2 u q => by rw [hP2] at q; exact q.2.2.own.blk
  have E2 : Hid (∀ x1 x2 u, P2 x1 x2 u → Two w0 A R (S.op ⟨0, t, f, s, n, b⟩) u) := fun x1 x2 u q => by rw [hP2] at q; rw [HE]; exact q.2.2.two
  have K1 : Hid (∀ u, P0 u → Calls Tryz.prog _ _ u fun e u' => ∃ x d, e = .returned (.agg #[.int .i64 gs, .slice x G.length d, .int .i64 ga]) ∧ P1 x u') := fun u q => by
    rw [hP0] at q
    rw [hP1, ← hgs, ← hG, ← hga]
    exact pk_ask t f s b q HI.out.1.bd HI.out.2.1
  have K2 : Hid (∀ x u, P1 x u → Calls Tryz.prog _ _ u fun e u' => ∃ x' d, e = .returned (.agg #[.int .i64 gs, .slice x' G.length d, .int .i64 ga]) ∧ P2 x x' u') := fun x u q => by
    rw [hP1] at q
    obtain ⟨r1, X, hX, q⟩ := q
    rw [hP2]
    rw [← hG] at r1
    rw [← hgs, ← hG, ← hga]
    exact dc_ask t f s b q hX r1 HI.out.1.bd HI.out.2.1
  have K3 : Hid (∀ x1 (d1 : Nat) x2 (d2 : Nat) u, P2 x1 x2 u → Calls Tryz.prog 43 #[.agg #[.int .i64 gs, .slice x1 G.length d1, .int .i64 ga], .agg #[.int .i64 gs, .slice x2 G.length d2, .int .i64 ga]] u fun e u' => e = .returned (.bool true) ∧ P2 x1 x2 u') := fun x1 d1 x2 d2 u q => by
    rw [hP2] at q ⊢
    exact (same_grant gs ga x1 x2 d1 d2 G u HL q.1 q.2.1).mono fun _ _ ⟨e, k⟩ => ⟨e, q.1.kept k, q.2.1.kept k, q.2.2.still k⟩
  have HS : Hid (P0 W.drew) := by rw [hP0]; exact H0.out.still (Kept.refl _).drew
  clear hgs hG hga HL HE hP0 hP1 hP2 HI
  go_upto_region 3 with fail
  clear e0 H0
  refine wp_region_ghost (G := (Option Addr × Nat) × (Option Addr × Nat)) (fun ⟨⟨x1, d1⟩, ⟨x2, d2⟩⟩ => [(.pointer (some ⟨A.b, 0, none⟩)), (.pointer (some ⟨ob, 1, none⟩)), (.int .i64 t), (.pointer (some ⟨ob, 2, none⟩)), (.int .i64 f), (.pointer (some ⟨ob, 3, none⟩)), (.int .i64 s), (.pointer (some ⟨ob, 5, none⟩)), (.bool b), (.agg #[.int .i64 gs, .slice x1 G.length d1, .int .i64 ga]), (.pointer (some ⟨R.b, 0, none⟩)), (.pointer (some ⟨ob, 1, none⟩)), (.int .i64 t), (.pointer (some ⟨ob, 2, none⟩)), (.int .i64 f), (.pointer (some ⟨ob, 3, none⟩)), (.int .i64 s), (.pointer (some ⟨ob, 5, none⟩)), (.bool b), (.agg #[.int .i64 gs, .slice x2 G.length d2, .int .i64 ga]), (.bool true), (.bool true)]) [(6, 21), (15, 0), (16, 1), (17, 2), (18, 3), (19, 4), (20, 5), (21, 6), (22, 7), (23, 8), (24, 9), (25, 10), (26, 11), (27, 12), (28, 13), (29, 14), (30, 15), (31, 16), (32, 17), (33, 18), (34, 19), (35, 20)] (fun ⟨⟨x1, d1⟩, ⟨x2, d2⟩⟩ d u => J3 9 19 (fun u => P0 u) (fun u => P1 x1 u) (fun u => P2 x1 x2 u) d u) (by kernel_rfl) (by kernel_rfl) (by kernel_rfl) (by kernel_rfl) (fun _ => rfl) ?_ ?_ ?_
  · exact ⟨⟨⟨none, 0⟩, ⟨none, 0⟩⟩, J3.start HS.out⟩
  · intro i1 o1 ho ng a1 d u hh hj0 hi hd hc
    obtain ⟨⟨x1, d1⟩, ⟨x2, d2⟩⟩ := ng
    have hj : J3 9 19 (fun u => P0 u) (fun u => P1 x1 u) (fun u => P2 x1 x2 u) d u := hj0
    clear hj0
    match i1, ho, hi, hd with
    | 0, ho, hi, hd =>
      simp only [List.getElem?_cons_zero, Option.some.injEq] at ho
      subst ho
      have g0 : a1.tmps[0]? = some (.pointer (some ⟨A.b, 0, none⟩)) := hh.old 0 (by kernel_rfl) rfl
      have HN : Hid (J3 9 19 (fun u => P0 u) (fun u => P1 x1 u) (fun u => P2 x1 x2 u) (done d 0) u) := hj.plain 0 (by decide) (by decide)
      clear hh hd hc hj hi
      refine wpOp_step rfl (fun K hK => ?_)
      go_simp
      exact hK _ _ ⟨⟨⟨x1, d1⟩, ⟨x2, d2⟩⟩, fun _ _ => rfl, by simp [Act.put], HN.out⟩
    | 1, ho, hi, hd =>
      simp only [List.getElem?_cons_succ, List.getElem?_cons_zero, Option.some.injEq] at ho
      subst ho
      have g5 : a1.tmps[5]? = some (.pointer (some ⟨ob, 0, none⟩)) := hh.old 5 (by kernel_rfl) rfl
      have HN : Hid (J3 9 19 (fun u => P0 u) (fun u => P1 x1 u) (fun u => P2 x1 x2 u) (done d 1) u) := hj.plain 1 (by decide) (by decide)
      clear hh hd hc hj hi
      refine wpOp_step rfl (fun K hK => ?_)
      go_simp
      exact hK _ _ ⟨⟨⟨x1, d1⟩, ⟨x2, d2⟩⟩, fun _ _ => rfl, by simp [Act.put], HN.out⟩
    | 2, ho, hi, hd =>
      simp only [List.getElem?_cons_succ, List.getElem?_cons_zero, Option.some.injEq] at ho
      subst ho
      have g16 : a1.tmps[16]? = some (.pointer (some ⟨ob, 1, none⟩)) := hh.did 1 _ 16 rfl rfl (hd { on := 1, ground := .data } (by simp) rfl)
      have cc : Blk u ob [.int .i64 0, .int .i64 t, .int .i64 f, .int .i64 s, .int .i64 n, .bool b] := (hj.any (Q := fun u => Blk u ob [.int .i64 0, .int .i64 t, .int .i64 f, .int .i64 s, .int .i64 n, .bool b]) A0.out (A1.out x1) (A2.out x1 x2))
      have c1 := cc.at 1 rfl
      have HN : Hid (J3 9 19 (fun u => P0 u) (fun u => P1 x1 u) (fun u => P2 x1 x2 u) (done d 2) u) := hj.plain 2 (by decide) (by decide)
      clear hh hd hc hj hi
      refine wpOp_step rfl (fun K hK => ?_)
      go_simp
      exact hK _ _ ⟨⟨⟨x1, d1⟩, ⟨x2, d2⟩⟩, fun _ _ => rfl, by simp [Act.put], HN.out⟩
    | 3, ho, hi, hd =>
      simp only [List.getElem?_cons_succ, List.getElem?_cons_zero, Option.some.injEq] at ho
      subst ho
      have g5 : a1.tmps[5]? = some (.pointer (some ⟨ob, 0, none⟩)) := hh.old 5 (by kernel_rfl) rfl
      have HN : Hid (J3 9 19 (fun u => P0 u) (fun u => P1 x1 u) (fun u => P2 x1 x2 u) (done d 3) u) := hj.plain 3 (by decide) (by decide)
      clear hh hd hc hj hi
      refine wpOp_step rfl (fun K hK => ?_)
      go_simp
      exact hK _ _ ⟨⟨⟨x1, d1⟩, ⟨x2, d2⟩⟩, fun _ _ => rfl, by simp [Act.put], HN.out⟩
    | 4, ho, hi, hd =>
      simp only [List.getElem?_cons_succ, List.getElem?_cons_zero, Option.some.injEq] at ho
      subst ho
      have g18 : a1.tmps[18]? = some (.pointer (some ⟨ob, 2, none⟩)) := hh.did 3 _ 18 rfl rfl (hd { on := 3, ground := .data } (by simp) rfl)
      have cc : Blk u ob [.int .i64 0, .int .i64 t, .int .i64 f, .int .i64 s, .int .i64 n, .bool b] := (hj.any (Q := fun u => Blk u ob [.int .i64 0, .int .i64 t, .int .i64 f, .int .i64 s, .int .i64 n, .bool b]) A0.out (A1.out x1) (A2.out x1 x2))
      have c1 := cc.at 2 rfl
      have HN : Hid (J3 9 19 (fun u => P0 u) (fun u => P1 x1 u) (fun u => P2 x1 x2 u) (done d 4) u) := hj.plain 4 (by decide) (by decide)
      clear hh hd hc hj hi
      refine wpOp_step rfl (fun K hK => ?_)
      go_simp
      exact hK _ _ ⟨⟨⟨x1, d1⟩, ⟨x2, d2⟩⟩, fun _ _ => rfl, by simp [Act.put], HN.out⟩
    | 5, ho, hi, hd =>
      simp only [List.getElem?_cons_succ, List.getElem?_cons_zero, Option.some.injEq] at ho
      subst ho
      have g5 : a1.tmps[5]? = some (.pointer (some ⟨ob, 0, none⟩)) := hh.old 5 (by kernel_rfl) rfl
      have HN : Hid (J3 9 19 (fun u => P0 u) (fun u => P1 x1 u) (fun u => P2 x1 x2 u) (done d 5) u) := hj.plain 5 (by decide) (by decide)
      clear hh hd hc hj hi
      refine wpOp_step rfl (fun K hK => ?_)
      go_simp
      exact hK _ _ ⟨⟨⟨x1, d1⟩, ⟨x2, d2⟩⟩, fun _ _ => rfl, by simp [Act.put], HN.out⟩
    | 6, ho, hi, hd =>
      simp only [List.getElem?_cons_succ, List.getElem?_cons_zero, Option.some.injEq] at ho
      subst ho
      have g20 : a1.tmps[20]? = some (.pointer (some ⟨ob, 3, none⟩)) := hh.did 5 _ 20 rfl rfl (hd { on := 5, ground := .data } (by simp) rfl)
      have cc : Blk u ob [.int .i64 0, .int .i64 t, .int .i64 f, .int .i64 s, .int .i64 n, .bool b] := (hj.any (Q := fun u => Blk u ob [.int .i64 0, .int .i64 t, .int .i64 f, .int .i64 s, .int .i64 n, .bool b]) A0.out (A1.out x1) (A2.out x1 x2))
      have c1 := cc.at 3 rfl
      have HN : Hid (J3 9 19 (fun u => P0 u) (fun u => P1 x1 u) (fun u => P2 x1 x2 u) (done d 6) u) := hj.plain 6 (by decide) (by decide)
      clear hh hd hc hj hi
      refine wpOp_step rfl (fun K hK => ?_)
      go_simp
      exact hK _ _ ⟨⟨⟨x1, d1⟩, ⟨x2, d2⟩⟩, fun _ _ => rfl, by simp [Act.put], HN.out⟩
    | 7, ho, hi, hd =>
      simp only [List.getElem?_cons_succ, List.getElem?_cons_zero, Option.some.injEq] at ho
      subst ho
      have g5 : a1.tmps[5]? = some (.pointer (some ⟨ob, 0, none⟩)) := hh.old 5 (by kernel_rfl) rfl
      have HN : Hid (J3 9 19 (fun u => P0 u) (fun u => P1 x1 u) (fun u => P2 x1 x2 u) (done d 7) u) := hj.plain 7 (by decide) (by decide)
      clear hh hd hc hj hi
      refine wpOp_step rfl (fun K hK => ?_)
      go_simp
      exact hK _ _ ⟨⟨⟨x1, d1⟩, ⟨x2, d2⟩⟩, fun _ _ => rfl, by simp [Act.put], HN.out⟩
    | 8, ho, hi, hd =>
      simp only [List.getElem?_cons_succ, List.getElem?_cons_zero, Option.some.injEq] at ho
      subst ho
      have g22 : a1.tmps[22]? = some (.pointer (some ⟨ob, 5, none⟩)) := hh.did 7 _ 22 rfl rfl (hd { on := 7, ground := .data } (by simp) rfl)
      have cc : Blk u ob [.int .i64 0, .int .i64 t, .int .i64 f, .int .i64 s, .int .i64 n, .bool b] := (hj.any (Q := fun u => Blk u ob [.int .i64 0, .int .i64 t, .int .i64 f, .int .i64 s, .int .i64 n, .bool b]) A0.out (A1.out x1) (A2.out x1 x2))
      have c1 := cc.at 5 rfl
      have HN : Hid (J3 9 19 (fun u => P0 u) (fun u => P1 x1 u) (fun u => P2 x1 x2 u) (done d 8) u) := hj.plain 8 (by decide) (by decide)
      clear hh hd hc hj hi
      refine wpOp_step rfl (fun K hK => ?_)
      go_simp
      exact hK _ _ ⟨⟨⟨x1, d1⟩, ⟨x2, d2⟩⟩, fun _ _ => rfl, by simp [Act.put], HN.out⟩
    | 9, ho, hi, hd =>
      simp only [List.getElem?_cons_succ, List.getElem?_cons_zero, Option.some.injEq] at ho
      subst ho
      have g15 : a1.tmps[15]? = some (.pointer (some ⟨A.b, 0, none⟩)) := hh.did 0 _ 15 rfl rfl (hd { on := 0, ground := .data } (by simp) rfl)
      have g17 : a1.tmps[17]? = some (.int .i64 t) := hh.did 2 _ 17 rfl rfl (hd { on := 2, ground := .data } (by simp) rfl)
      have g19 : a1.tmps[19]? = some (.int .i64 f) := hh.did 4 _ 19 rfl rfl (hd { on := 4, ground := .data } (by simp) rfl)
      have g21 : a1.tmps[21]? = some (.int .i64 s) := hh.did 6 _ 21 rfl rfl (hd { on := 6, ground := .data } (by simp) rfl)
      have g23 : a1.tmps[23]? = some (.bool b) := hh.did 8 _ 23 rfl rfl (hd { on := 8, ground := .data } (by simp) rfl)
      have n19 : d 19 = false := by
        cases q : d 19 with
        | false => rfl
        | true => exact absurd (hc 19 _ rfl q { on := 9, ground := .chain } (by simp) rfl) (by simp [hi])
      have HJ : Hid (J3 9 19 (fun u => P0 u) (fun u => P1 x1 u) (fun u => P2 x1 x2 u) d u) := hj
      have HD : Hid (d 9 = false ∧ d 19 = false) := ⟨hi, n19⟩
      have CA : Hid (Calls _ _ _ _ _) := K1.out u (hj.now hi)
      clear hh hd hc hj hi n19
      refine wpOp_step rfl (fun K hK => ?_)
      go_simp
      refine CA.out.mono ?_
      rintro e u2 ⟨x1', d1', rfl, p1⟩
      refine hK _ _ ⟨⟨⟨x1', d1'⟩, ⟨x2, d2⟩⟩, fun j hj => ?_, by simp [Act.put], show J3 9 19 (fun u => P0 u) (fun u => P1 x1' u) (fun u => P2 x1' x2 u) (done d 9) u2 from ⟨fun q => by simp [done] at q, fun _ _ => p1, fun q => by rw [show done d 9 19 = d 19 by simp [done], HD.out.2] at q; cases q⟩⟩
      have j9 : j ≠ 9 := fun q => by rw [q, HD.out.1] at hj; cases hj
      match j, j9 with
      | 0, _ => rfl
      | 1, _ => rfl
      | 2, _ => rfl
      | 3, _ => rfl
      | 4, _ => rfl
      | 5, _ => rfl
      | 6, _ => rfl
      | 7, _ => rfl
      | 8, _ => rfl
      | 10, _ => rfl
      | 11, _ => rfl
      | 12, _ => rfl
      | 13, _ => rfl
      | 14, _ => rfl
      | 15, _ => rfl
      | 16, _ => rfl
      | 17, _ => rfl
      | 18, _ => rfl
      | 19, _ => rfl
      | 20, _ => rfl
      | 21, _ => rfl
      | j + 22, _ => rfl
    | 10, ho, hi, hd =>
      simp only [List.getElem?_cons_succ, List.getElem?_cons_zero, Option.some.injEq] at ho
      subst ho
      have g1 : a1.tmps[1]? = some (.pointer (some ⟨R.b, 0, none⟩)) := hh.old 1 (by kernel_rfl) rfl
      have HN : Hid (J3 9 19 (fun u => P0 u) (fun u => P1 x1 u) (fun u => P2 x1 x2 u) (done d 10) u) := hj.plain 10 (by decide) (by decide)
      clear hh hd hc hj hi
      refine wpOp_step rfl (fun K hK => ?_)
      go_simp
      exact hK _ _ ⟨⟨⟨x1, d1⟩, ⟨x2, d2⟩⟩, fun _ _ => rfl, by simp [Act.put], HN.out⟩
    | 11, ho, hi, hd =>
      simp only [List.getElem?_cons_succ, List.getElem?_cons_zero, Option.some.injEq] at ho
      subst ho
      have g5 : a1.tmps[5]? = some (.pointer (some ⟨ob, 0, none⟩)) := hh.old 5 (by kernel_rfl) rfl
      have HN : Hid (J3 9 19 (fun u => P0 u) (fun u => P1 x1 u) (fun u => P2 x1 x2 u) (done d 11) u) := hj.plain 11 (by decide) (by decide)
      clear hh hd hc hj hi
      refine wpOp_step rfl (fun K hK => ?_)
      go_simp
      exact hK _ _ ⟨⟨⟨x1, d1⟩, ⟨x2, d2⟩⟩, fun _ _ => rfl, by simp [Act.put], HN.out⟩
    | 12, ho, hi, hd =>
      simp only [List.getElem?_cons_succ, List.getElem?_cons_zero, Option.some.injEq] at ho
      subst ho
      have g26 : a1.tmps[26]? = some (.pointer (some ⟨ob, 1, none⟩)) := hh.did 11 _ 26 rfl rfl (hd { on := 11, ground := .data } (by simp) rfl)
      have cc : Blk u ob [.int .i64 0, .int .i64 t, .int .i64 f, .int .i64 s, .int .i64 n, .bool b] := (hj.any (Q := fun u => Blk u ob [.int .i64 0, .int .i64 t, .int .i64 f, .int .i64 s, .int .i64 n, .bool b]) A0.out (A1.out x1) (A2.out x1 x2))
      have c1 := cc.at 1 rfl
      have HN : Hid (J3 9 19 (fun u => P0 u) (fun u => P1 x1 u) (fun u => P2 x1 x2 u) (done d 12) u) := hj.plain 12 (by decide) (by decide)
      clear hh hd hc hj hi
      refine wpOp_step rfl (fun K hK => ?_)
      go_simp
      exact hK _ _ ⟨⟨⟨x1, d1⟩, ⟨x2, d2⟩⟩, fun _ _ => rfl, by simp [Act.put], HN.out⟩
    | 13, ho, hi, hd =>
      simp only [List.getElem?_cons_succ, List.getElem?_cons_zero, Option.some.injEq] at ho
      subst ho
      have g5 : a1.tmps[5]? = some (.pointer (some ⟨ob, 0, none⟩)) := hh.old 5 (by kernel_rfl) rfl
      have HN : Hid (J3 9 19 (fun u => P0 u) (fun u => P1 x1 u) (fun u => P2 x1 x2 u) (done d 13) u) := hj.plain 13 (by decide) (by decide)
      clear hh hd hc hj hi
      refine wpOp_step rfl (fun K hK => ?_)
      go_simp
      exact hK _ _ ⟨⟨⟨x1, d1⟩, ⟨x2, d2⟩⟩, fun _ _ => rfl, by simp [Act.put], HN.out⟩
    | 14, ho, hi, hd =>
      simp only [List.getElem?_cons_succ, List.getElem?_cons_zero, Option.some.injEq] at ho
      subst ho
      have g28 : a1.tmps[28]? = some (.pointer (some ⟨ob, 2, none⟩)) := hh.did 13 _ 28 rfl rfl (hd { on := 13, ground := .data } (by simp) rfl)
      have cc : Blk u ob [.int .i64 0, .int .i64 t, .int .i64 f, .int .i64 s, .int .i64 n, .bool b] := (hj.any (Q := fun u => Blk u ob [.int .i64 0, .int .i64 t, .int .i64 f, .int .i64 s, .int .i64 n, .bool b]) A0.out (A1.out x1) (A2.out x1 x2))
      have c1 := cc.at 2 rfl
      have HN : Hid (J3 9 19 (fun u => P0 u) (fun u => P1 x1 u) (fun u => P2 x1 x2 u) (done d 14) u) := hj.plain 14 (by decide) (by decide)
      clear hh hd hc hj hi
      refine wpOp_step rfl (fun K hK => ?_)
      go_simp
      exact hK _ _ ⟨⟨⟨x1, d1⟩, ⟨x2, d2⟩⟩, fun _ _ => rfl, by simp [Act.put], HN.out⟩
    | 15, ho, hi, hd =>
      simp only [List.getElem?_cons_succ, List.getElem?_cons_zero, Option.some.injEq] at ho
      subst ho
      have g5 : a1.tmps[5]? = some (.pointer (some ⟨ob, 0, none⟩)) := hh.old 5 (by kernel_rfl) rfl
      have HN : Hid (J3 9 19 (fun u => P0 u) (fun u => P1 x1 u) (fun u => P2 x1 x2 u) (done d 15) u) := hj.plain 15 (by decide) (by decide)
      clear hh hd hc hj hi
      refine wpOp_step rfl (fun K hK => ?_)
      go_simp
      exact hK _ _ ⟨⟨⟨x1, d1⟩, ⟨x2, d2⟩⟩, fun _ _ => rfl, by simp [Act.put], HN.out⟩
    | 16, ho, hi, hd =>
      simp only [List.getElem?_cons_succ, List.getElem?_cons_zero, Option.some.injEq] at ho
      subst ho
      have g30 : a1.tmps[30]? = some (.pointer (some ⟨ob, 3, none⟩)) := hh.did 15 _ 30 rfl rfl (hd { on := 15, ground := .data } (by simp) rfl)
      have cc : Blk u ob [.int .i64 0, .int .i64 t, .int .i64 f, .int .i64 s, .int .i64 n, .bool b] := (hj.any (Q := fun u => Blk u ob [.int .i64 0, .int .i64 t, .int .i64 f, .int .i64 s, .int .i64 n, .bool b]) A0.out (A1.out x1) (A2.out x1 x2))
      have c1 := cc.at 3 rfl
      have HN : Hid (J3 9 19 (fun u => P0 u) (fun u => P1 x1 u) (fun u => P2 x1 x2 u) (done d 16) u) := hj.plain 16 (by decide) (by decide)
      clear hh hd hc hj hi
      refine wpOp_step rfl (fun K hK => ?_)
      go_simp
      exact hK _ _ ⟨⟨⟨x1, d1⟩, ⟨x2, d2⟩⟩, fun _ _ => rfl, by simp [Act.put], HN.out⟩
    | 17, ho, hi, hd =>
      simp only [List.getElem?_cons_succ, List.getElem?_cons_zero, Option.some.injEq] at ho
      subst ho
      have g5 : a1.tmps[5]? = some (.pointer (some ⟨ob, 0, none⟩)) := hh.old 5 (by kernel_rfl) rfl
      have HN : Hid (J3 9 19 (fun u => P0 u) (fun u => P1 x1 u) (fun u => P2 x1 x2 u) (done d 17) u) := hj.plain 17 (by decide) (by decide)
      clear hh hd hc hj hi
      refine wpOp_step rfl (fun K hK => ?_)
      go_simp
      exact hK _ _ ⟨⟨⟨x1, d1⟩, ⟨x2, d2⟩⟩, fun _ _ => rfl, by simp [Act.put], HN.out⟩
    | 18, ho, hi, hd =>
      simp only [List.getElem?_cons_succ, List.getElem?_cons_zero, Option.some.injEq] at ho
      subst ho
      have g32 : a1.tmps[32]? = some (.pointer (some ⟨ob, 5, none⟩)) := hh.did 17 _ 32 rfl rfl (hd { on := 17, ground := .data } (by simp) rfl)
      have cc : Blk u ob [.int .i64 0, .int .i64 t, .int .i64 f, .int .i64 s, .int .i64 n, .bool b] := (hj.any (Q := fun u => Blk u ob [.int .i64 0, .int .i64 t, .int .i64 f, .int .i64 s, .int .i64 n, .bool b]) A0.out (A1.out x1) (A2.out x1 x2))
      have c1 := cc.at 5 rfl
      have HN : Hid (J3 9 19 (fun u => P0 u) (fun u => P1 x1 u) (fun u => P2 x1 x2 u) (done d 18) u) := hj.plain 18 (by decide) (by decide)
      clear hh hd hc hj hi
      refine wpOp_step rfl (fun K hK => ?_)
      go_simp
      exact hK _ _ ⟨⟨⟨x1, d1⟩, ⟨x2, d2⟩⟩, fun _ _ => rfl, by simp [Act.put], HN.out⟩
    | 19, ho, hi, hd =>
      simp only [List.getElem?_cons_succ, List.getElem?_cons_zero, Option.some.injEq] at ho
      subst ho
      have g25 : a1.tmps[25]? = some (.pointer (some ⟨R.b, 0, none⟩)) := hh.did 10 _ 25 rfl rfl (hd { on := 10, ground := .data } (by simp) rfl)
      have g27 : a1.tmps[27]? = some (.int .i64 t) := hh.did 12 _ 27 rfl rfl (hd { on := 12, ground := .data } (by simp) rfl)
      have g29 : a1.tmps[29]? = some (.int .i64 f) := hh.did 14 _ 29 rfl rfl (hd { on := 14, ground := .data } (by simp) rfl)
      have g31 : a1.tmps[31]? = some (.int .i64 s) := hh.did 16 _ 31 rfl rfl (hd { on := 16, ground := .data } (by simp) rfl)
      have g33 : a1.tmps[33]? = some (.bool b) := hh.did 18 _ 33 rfl rfl (hd { on := 18, ground := .data } (by simp) rfl)
      have y9 : d 9 = true := (hd { on := 9, ground := .chain } (by simp) rfl)
      have HJ : Hid (J3 9 19 (fun u => P0 u) (fun u => P1 x1 u) (fun u => P2 x1 x2 u) d u) := hj
      have HD : Hid (d 9 = true ∧ d 19 = false) := ⟨y9, hi⟩
      have CA : Hid (Calls _ _ _ _ _) := K2.out x1 u (hj.mid y9 hi)
      clear hh hd hc hj hi y9
      refine wpOp_step rfl (fun K hK => ?_)
      go_simp
      refine CA.out.mono ?_
      rintro e u2 ⟨x2', d2', rfl, p2⟩
      refine hK _ _ ⟨⟨⟨x1, d1⟩, ⟨x2', d2'⟩⟩, fun j hj => ?_, by simp [Act.put], show J3 9 19 (fun u => P0 u) (fun u => P1 x1 u) (fun u => P2 x1 x2' u) (done d 19) u2 from J3.turn2 (P2 := fun u => P2 x1 x2' u) ⟨HJ.out.1, HJ.out.2.1, fun q => by rw [HD.out.2] at q; cases q⟩ HD.out.1 (by decide) p2⟩
      have j19 : j ≠ 19 := fun q => by rw [q, HD.out.2] at hj; cases hj
      match j, j19 with
      | 0, _ => rfl
      | 1, _ => rfl
      | 2, _ => rfl
      | 3, _ => rfl
      | 4, _ => rfl
      | 5, _ => rfl
      | 6, _ => rfl
      | 7, _ => rfl
      | 8, _ => rfl
      | 9, _ => rfl
      | 10, _ => rfl
      | 11, _ => rfl
      | 12, _ => rfl
      | 13, _ => rfl
      | 14, _ => rfl
      | 15, _ => rfl
      | 16, _ => rfl
      | 17, _ => rfl
      | 18, _ => rfl
      | 20, _ => rfl
      | 21, _ => rfl
      | j + 22, _ => rfl
    | 20, ho, hi, hd =>
      simp only [List.getElem?_cons_succ, List.getElem?_cons_zero, Option.some.injEq] at ho
      subst ho
      have g24 : a1.tmps[24]? = some (.agg #[.int .i64 gs, .slice x1 G.length d1, .int .i64 ga]) := hh.did 9 _ 24 rfl rfl (hd { on := 9, ground := .data } (by simp) rfl)
      have g34 : a1.tmps[34]? = some (.agg #[.int .i64 gs, .slice x2 G.length d2, .int .i64 ga]) := hh.did 19 _ 34 rfl rfl (hd { on := 19, ground := .data } (by simp) rfl)
      have y19 : d 19 = true := (hd { on := 19, ground := .data } (by simp) rfl)
      have y9 : d 9 = true := (hd { on := 9, ground := .data } (by simp) rfl)
      have HJ : Hid (J3 9 19 (fun u => P0 u) (fun u => P1 x1 u) (fun u => P2 x1 x2 u) d u) := hj
      have HD : Hid (d 9 = true ∧ d 19 = true) := ⟨y9, y19⟩
      have CA : Hid (Calls _ _ _ _ _) := K3.out x1 d1 x2 d2 u (hj.fin y19)
      clear hh hd hc hj hi y9 y19
      refine wpOp_step rfl (fun K hK => ?_)
      go_simp
      refine CA.out.mono ?_
      rintro e u2 ⟨rfl, p3⟩
      exact hK _ _ ⟨⟨⟨x1, d1⟩, ⟨x2, d2⟩⟩, fun _ _ => rfl, by simp [Act.put], HJ.out.stay2 20 (by decide) (by decide) HD.out.1 HD.out.2 p3⟩
    | 21, ho, hi, hd =>
      simp only [List.getElem?_cons_succ, List.getElem?_cons_zero, Option.some.injEq] at ho
      subst ho
      have g35 : a1.tmps[35]? = some (.bool true) := hh.did 20 _ 35 rfl rfl (hd { on := 20, ground := .data } (by simp) rfl)
      have HN : Hid (J3 9 19 (fun u => P0 u) (fun u => P1 x1 u) (fun u => P2 x1 x2 u) (done d 21) u) := hj.plain 21 (by decide) (by decide)
      clear hh hd hc hj hi
      refine wpOp_step rfl (fun K hK => ?_)
      go_simp
      exact hK _ _ ⟨⟨⟨x1, d1⟩, ⟨x2, d2⟩⟩, fun _ _ => rfl, by simp [Act.put], HN.out⟩
    | n + 22, ho, hi, hd => simp at ho
  · intro ng u d hall hj0
    obtain ⟨⟨x1, d1⟩, ⟨x2, d2⟩⟩ := ng
    have hj : J3 9 19 (fun u => P0 u) (fun u => P1 x1 u) (fun u => P2 x1 x2 u) d u := hj0
    clear hj0
    have h2 : Hid (P2 x1 x2 u) := hj.fin (hall 19 (by decide))
    clear hall hj
    refine norm_list' (L' := [_, _, _, _, _, _, _, _, _, _, _, _, _, _, _, _, _, _, _, _, _, _, _, _, _, _, _, _, _, _, _, _, _, _, _, _, _, _, _, _, _, _, _, _, _, _, _, _, _, _, _, _, _, _, _, _, _, _, _, _, _, _, _, _, _, _, _, _, _, _, _, _, _, _, _, _, _, _, _, _, _, _, _, _, _, _, _, _, _, _, _, _, _, _, _, _, _, _, _, _, _, _, _, _, _, _, _, _, _, _, _, _, _, _, _, _, _, _, _, _, _, _, _, _, _, _, _, _, _, _, _, _, _, _, _, _, _, _, _, _, _, _, _, _, _, _, _, _, _, _, _, _, _, _, _, _, _, _, _, _, _, _, _, _, _, _, _, _, _, _, _, _, _, _, _, _, _]) rfl ?_
    have H2 : Hid (Two w0 A R (S.op ⟨0, t, f, s, n, b⟩) u) := E2.out x1 x2 u h2.out
    clear h2 E2
    go_wp2
    go_ret
    exact ⟨rfl, H2.out⟩
end Go.Proofs.YtahpnnjemjjfhaaGreat

/-
  An operation on both spaces: kind 1.
-/
namespace Go.Proofs.YtahpnnjemjjfhaaGreat
open Go.RowKit

set_option maxHeartbeats 4000000 in
set_option maxRecDepth 20000 in
theorem one_1 {w0 : World} {A : Ad} {R : Ar} {S : Sp} {kb : Nat} (t f s n : Int) (b : Bool) (w : World) (h : Two w0 A R S w) (hi : Inv S kb) (hkb : kb ≤ 50000) (hn : A.C.n7 = R.C.n7) :
    Calls Tryz.prog 11 #[.pointer (some ⟨A.b, 0, none⟩), .pointer (some ⟨R.b, 0, none⟩), .agg #[.int .i64 1, .int .i64 t, .int .i64 f, .int .i64 s, .int .i64 n, .bool b]] w fun e w' => e = .returned (.bool true) ∧ Two w0 A R (S.op ⟨1, t, f, s, n, b⟩) w' := by
  have HT : Hid (Two w0 A R S w) := h
  have HI : Hid (Inv S kb ∧ kb ≤ 50000 ∧ A.C.n7 = R.C.n7) := ⟨hi, hkb, hn⟩
  clear h hi hkb hn
  go_enter Tryz.func11, Tryz.ntmps11
  go_upto_region 1 with fail
  generalize hW : w.alloc _ = W
  have H0 : Hid (Tw w0 A R w.heap.size [.int .i64 1, .int .i64 t, .int .i64 f, .int .i64 s, .int .i64 n, .bool b] [] S S W) := by
    rw [← hW]
    exact HT.out.box [.int .i64 1, .int .i64 t, .int .i64 f, .int .i64 s, .int .i64 n, .bool b]
  clear hW HT
  generalize w.heap.size = ob at *
  have e0 : W.cell? ⟨ob, 0, none⟩ = some (.int .i64 1) := H0.out.own.blk.at 0 rfl
  have HE : Hid (S.op ⟨1, t, f, s, n, b⟩ = S.born n) := by show _ = _; simp [Sp.op]
  obtain ⟨vv, hvv⟩ : ∃ vv, bornB S.n S.T n = vv := ⟨_, rfl⟩
  obtain ⟨P0, hP0⟩ : ∃ P0 : World → Prop, P0 = fun u => Tw w0 A R ob [.int .i64 1, .int .i64 t, .int .i64 f, .int .i64 s, .int .i64 n, .bool b] [] (S) (S) u := ⟨_, rfl⟩
  obtain ⟨P1, hP1⟩ : ∃ P1 : World → Prop, P1 = fun u => Tw w0 A R ob [.int .i64 1, .int .i64 t, .int .i64 f, .int .i64 s, .int .i64 n, .bool b] [] (S.born n) (S) u := ⟨_, rfl⟩
  obtain ⟨P2, hP2⟩ : ∃ P2 : World → Prop, P2 = fun u => Tw w0 A R ob [.int .i64 1, .int .i64 t, .int .i64 f, .int .i64 s, .int .i64 n, .bool b] [] (S.born n) (S.born n) u := ⟨_, rfl⟩
  have A0 : Hid (∀ u, P0 u → Blk u ob [.int .i64 1, .int .i64 t, .int .i64 f, .int .i64 s, .int .i64 n, .bool b]) := fun u q => by rw [hP0] at q; exact q.own.blk
  have A1 : Hid (∀ u, P1 u → Blk u ob [.int .i64 1, .int .i64 t, .int .i64 f, .int .i64 s, .int .i64 n, .bool b]) := fun u q => by rw [hP1] at q; exact q.own.blk
  have A2 : Hid (∀ u, P2 u → Blk u ob [.int .i64 1, .int .i64 t, .int .i64 f, .int .i64 s, .int .i64 n, .bool b]) := fun u q => by rw [hP2] at q; exact q.own.blk
  have E2 : Hid ((fun u => Tw w0 A R ob [.int .i64 1, .int .i64 t, .int .i64 f, .int .i64 s, .int .i64 n, .bool b] [] (S.born n) (S.born n) u) = P2) := hP2.symm
  have K1 : Hid (∀ u, P0 u → Calls Tryz.prog _ _ u fun e u' => e = .returned (.bool vv) ∧ P1 u') := fun u q => by
    rw [hP0] at q
    rw [hP1, ← hvv]
    exact pk_born n q HI.out.1.bd HI.out.2.1
  have K2 : Hid (∀ u, P1 u → Calls Tryz.prog _ _ u fun e u' => e = .returned (.bool vv) ∧ P2 u') := fun u q => by
    rw [hP1] at q
    rw [hP2, ← hvv]
    exact dc_born n q HI.out.1.bd HI.out.2.1
  have HS : Hid (P0 W.drew) := by rw [hP0]; exact H0.out.still (Kept.refl _).drew
  clear hvv hP0 hP1 hP2 HI
  go_upto_region 5 with fail
  clear e0 H0
  refine wp_region_ghost (G := Unit) (fun ⟨⟩ => [(.pointer (some ⟨A.b, 0, none⟩)), (.pointer (some ⟨ob, 4, none⟩)), (.int .i64 n), (.bool vv), (.pointer (some ⟨R.b, 0, none⟩)), (.pointer (some ⟨ob, 4, none⟩)), (.int .i64 n), (.bool vv), (.bool true), (.bool true)]) [(6, 9), (38, 0), (39, 1), (40, 2), (41, 3), (42, 4), (43, 5), (44, 6), (45, 7), (46, 8)] (fun ⟨⟩ d u => J3 3 7 (fun u => P0 u) (fun u => P1 u) (fun u => P2 u) d u) (by kernel_rfl) (by kernel_rfl) (by kernel_rfl) (by kernel_rfl) (fun _ => rfl) ?_ ?_ ?_
  · exact ⟨⟨⟩, J3.start HS.out⟩
  · intro i1 o1 ho ng a1 d u hh hj0 hi hd hc
    obtain ⟨⟩ := ng
    have hj : J3 3 7 (fun u => P0 u) (fun u => P1 u) (fun u => P2 u) d u := hj0
    clear hj0
    match i1, ho, hi, hd with
    | 0, ho, hi, hd =>
      simp only [List.getElem?_cons_zero, Option.some.injEq] at ho
      subst ho
      have g0 : a1.tmps[0]? = some (.pointer (some ⟨A.b, 0, none⟩)) := hh.old 0 (by kernel_rfl) rfl
      have HN : Hid (J3 3 7 (fun u => P0 u) (fun u => P1 u) (fun u => P2 u) (done d 0) u) := hj.plain 0 (by decide) (by decide)
      clear hh hd hc hj hi
      refine wpOp_step rfl (fun K hK => ?_)
      go_simp
      exact hK _ _ ⟨⟨⟩, fun _ _ => rfl, by simp [Act.put], HN.out⟩
    | 1, ho, hi, hd =>
      simp only [List.getElem?_cons_succ, List.getElem?_cons_zero, Option.some.injEq] at ho
      subst ho
      have g5 : a1.tmps[5]? = some (.pointer (some ⟨ob, 0, none⟩)) := hh.old 5 (by kernel_rfl) rfl
      have HN : Hid (J3 3 7 (fun u => P0 u) (fun u => P1 u) (fun u => P2 u) (done d 1) u) := hj.plain 1 (by decide) (by decide)
      clear hh hd hc hj hi
      refine wpOp_step rfl (fun K hK => ?_)
      go_simp
      exact hK _ _ ⟨⟨⟩, fun _ _ => rfl, by simp [Act.put], HN.out⟩
    | 2, ho, hi, hd =>
      simp only [List.getElem?_cons_succ, List.getElem?_cons_zero, Option.some.injEq] at ho
      subst ho
      have g39 : a1.tmps[39]? = some (.pointer (some ⟨ob, 4, none⟩)) := hh.did 1 _ 39 rfl rfl (hd { on := 1, ground := .data } (by simp) rfl)
      have cc : Blk u ob [.int .i64 1, .int .i64 t, .int .i64 f, .int .i64 s, .int .i64 n, .bool b] := (hj.any (Q := fun u => Blk u ob [.int .i64 1, .int .i64 t, .int .i64 f, .int .i64 s, .int .i64 n, .bool b]) A0.out A1.out A2.out)
      have c1 := cc.at 4 rfl
      have HN : Hid (J3 3 7 (fun u => P0 u) (fun u => P1 u) (fun u => P2 u) (done d 2) u) := hj.plain 2 (by decide) (by decide)
      clear hh hd hc hj hi
      refine wpOp_step rfl (fun K hK => ?_)
      go_simp
      exact hK _ _ ⟨⟨⟩, fun _ _ => rfl, by simp [Act.put], HN.out⟩
    | 3, ho, hi, hd =>
      simp only [List.getElem?_cons_succ, List.getElem?_cons_zero, Option.some.injEq] at ho
      subst ho
      have g38 : a1.tmps[38]? = some (.pointer (some ⟨A.b, 0, none⟩)) := hh.did 0 _ 38 rfl rfl (hd { on := 0, ground := .data } (by simp) rfl)
      have g40 : a1.tmps[40]? = some (.int .i64 n) := hh.did 2 _ 40 rfl rfl (hd { on := 2, ground := .data } (by simp) rfl)
      have n7 : d 7 = false := by
        cases q : d 7 with
        | false => rfl
        | true => exact absurd (hc 7 _ rfl q { on := 3, ground := .chain } (by simp) rfl) (by simp [hi])
      have HJ : Hid (J3 3 7 (fun u => P0 u) (fun u => P1 u) (fun u => P2 u) d u) := hj
      have HD : Hid (d 3 = false ∧ d 7 = false) := ⟨hi, n7⟩
      have CA : Hid (Calls _ _ _ _ _) := K1.out u (hj.now hi)
      clear hh hd hc hj hi n7
      refine wpOp_step rfl (fun K hK => ?_)
      go_simp
      refine CA.out.mono ?_
      rintro e u2 ⟨rfl, p1⟩
      exact hK _ _ ⟨⟨⟩, fun _ _ => rfl, by simp [Act.put], HJ.out.turn (by decide) HD.out.1 p1 HD.out.2⟩
    | 4, ho, hi, hd =>
      simp only [List.getElem?_cons_succ, List.getElem?_cons_zero, Option.some.injEq] at ho
      subst ho
      have g1 : a1.tmps[1]? = some (.pointer (some ⟨R.b, 0, none⟩)) := hh.old 1 (by kernel_rfl) rfl
      have HN : Hid (J3 3 7 (fun u => P0 u) (fun u => P1 u) (fun u => P2 u) (done d 4) u) := hj.plain 4 (by decide) (by decide)
      clear hh hd hc hj hi
      refine wpOp_step rfl (fun K hK => ?_)
      go_simp
      exact hK _ _ ⟨⟨⟩, fun _ _ => rfl, by simp [Act.put], HN.out⟩
    | 5, ho, hi, hd =>
      simp only [List.getElem?_cons_succ, List.getElem?_cons_zero, Option.some.injEq] at ho
      subst ho
      have g5 : a1.tmps[5]? = some (.pointer (some ⟨ob, 0, none⟩)) := hh.old 5 (by kernel_rfl) rfl
      have HN : Hid (J3 3 7 (fun u => P0 u) (fun u => P1 u) (fun u => P2 u) (done d 5) u) := hj.plain 5 (by decide) (by decide)
      clear hh hd hc hj hi
      refine wpOp_step rfl (fun K hK => ?_)
      go_simp
      exact hK _ _ ⟨⟨⟩, fun _ _ => rfl, by simp [Act.put], HN.out⟩
    | 6, ho, hi, hd =>
      simp only [List.getElem?_cons_succ, List.getElem?_cons_zero, Option.some.injEq] at ho
      subst ho
      have g43 : a1.tmps[43]? = some (.pointer (some ⟨ob, 4, none⟩)) := hh.did 5 _ 43 rfl rfl (hd { on := 5, ground := .data } (by simp) rfl)
      have cc : Blk u ob [.int .i64 1, .int .i64 t, .int .i64 f, .int .i64 s, .int .i64 n, .bool b] := (hj.any (Q := fun u => Blk u ob [.int .i64 1, .int .i64 t, .int .i64 f, .int .i64 s, .int .i64 n, .bool b]) A0.out A1.out A2.out)
      have c1 := cc.at 4 rfl
      have HN : Hid (J3 3 7 (fun u => P0 u) (fun u => P1 u) (fun u => P2 u) (done d 6) u) := hj.plain 6 (by decide) (by decide)
      clear hh hd hc hj hi
      refine wpOp_step rfl (fun K hK => ?_)
      go_simp
      exact hK _ _ ⟨⟨⟩, fun _ _ => rfl, by simp [Act.put], HN.out⟩
    | 7, ho, hi, hd =>
      simp only [List.getElem?_cons_succ, List.getElem?_cons_zero, Option.some.injEq] at ho
      subst ho
      have g42 : a1.tmps[42]? = some (.pointer (some ⟨R.b, 0, none⟩)) := hh.did 4 _ 42 rfl rfl (hd { on := 4, ground := .data } (by simp) rfl)
      have g44 : a1.tmps[44]? = some (.int .i64 n) := hh.did 6 _ 44 rfl rfl (hd { on := 6, ground := .data } (by simp) rfl)
      have y3 : d 3 = true := (hd { on := 3, ground := .chain } (by simp) rfl)
      have HJ : Hid (J3 3 7 (fun u => P0 u) (fun u => P1 u) (fun u => P2 u) d u) := hj
      have HD : Hid (d 3 = true) := y3
      have CA : Hid (Calls _ _ _ _ _) := K2.out u (hj.mid y3 hi)
      clear hh hd hc hj hi y3
      refine wpOp_step rfl (fun K hK => ?_)
      go_simp
      refine CA.out.mono ?_
      rintro e u2 ⟨rfl, p2⟩
      exact hK _ _ ⟨⟨⟩, fun _ _ => rfl, by simp [Act.put], HJ.out.turn2 HD.out (by decide) p2⟩
    | 8, ho, hi, hd =>
      simp only [List.getElem?_cons_succ, List.getElem?_cons_zero, Option.some.injEq] at ho
      subst ho
      have g41 : a1.tmps[41]? = some (.bool vv) := hh.did 3 _ 41 rfl rfl (hd { on := 3, ground := .data } (by simp) rfl)
      have g45 : a1.tmps[45]? = some (.bool vv) := hh.did 7 _ 45 rfl rfl (hd { on := 7, ground := .data } (by simp) rfl)
      have zz : (vv == vv) = true := by simp
      have HN : Hid (J3 3 7 (fun u => P0 u) (fun u => P1 u) (fun u => P2 u) (done d 8) u) := hj.plain 8 (by decide) (by decide)
      clear hh hd hc hj hi
      refine wpOp_step rfl (fun K hK => ?_)
      go_simp
      exact hK _ _ ⟨⟨⟩, fun _ _ => rfl, by simp [Act.put], HN.out⟩
    | 9, ho, hi, hd =>
      simp only [List.getElem?_cons_succ, List.getElem?_cons_zero, Option.some.injEq] at ho
      subst ho
      have g46 : a1.tmps[46]? = some (.bool true) := hh.did 8 _ 46 rfl rfl (hd { on := 8, ground := .data } (by simp) rfl)
      have HN : Hid (J3 3 7 (fun u => P0 u) (fun u => P1 u) (fun u => P2 u) (done d 9) u) := hj.plain 9 (by decide) (by decide)
      clear hh hd hc hj hi
      refine wpOp_step rfl (fun K hK => ?_)
      go_simp
      exact hK _ _ ⟨⟨⟩, fun _ _ => rfl, by simp [Act.put], HN.out⟩
    | n + 10, ho, hi, hd => simp at ho
  · intro ng u d hall hj0
    obtain ⟨⟩ := ng
    have hj : J3 3 7 (fun u => P0 u) (fun u => P1 u) (fun u => P2 u) d u := hj0
    clear hj0
    have h2 : Hid (P2 u) := hj.fin (hall 7 (by decide))
    clear hall hj
    refine norm_list' (L' := [_, _, _, _, _, _, _, _, _, _, _, _, _, _, _, _, _, _, _, _, _, _, _, _, _, _, _, _, _, _, _, _, _, _, _, _, _, _, _, _, _, _, _, _, _, _, _, _, _, _, _, _, _, _, _, _, _, _, _, _, _, _, _, _, _, _, _, _, _, _, _, _, _, _, _, _, _, _, _, _, _, _, _, _, _, _, _, _, _, _, _, _, _, _, _, _, _, _, _, _, _, _, _, _, _, _, _, _, _, _, _, _, _, _, _, _, _, _, _, _, _, _, _, _, _, _, _, _, _, _, _, _, _, _, _, _, _, _, _, _, _, _, _, _, _, _, _, _, _, _, _, _, _, _, _, _, _, _, _, _, _, _, _, _, _, _, _, _, _, _, _, _, _, _, _, _, _]) rfl ?_
    rw [← E2.out] at h2
    have H2 : Hid (Two w0 A R (S.op ⟨1, t, f, s, n, b⟩) u) := by rw [HE.out]; exact h2.out.two
    clear h2 HE
    go_wp2
    go_ret
    exact ⟨rfl, H2.out⟩
end Go.Proofs.YtahpnnjemjjfhaaGreat

