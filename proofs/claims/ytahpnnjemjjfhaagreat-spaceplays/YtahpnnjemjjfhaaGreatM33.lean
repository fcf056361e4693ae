/-
  The modules One2, One3, One4, One5, One6, One7, One8, one behind another.
-/
import Derived.Test.YtahpnnjemjjfhaaGreatM31
/-
  An operation on both spaces: kind 2.
-/
namespace Go.Proofs.YtahpnnjemjjfhaaGreat
open Go.RowKit

set_option maxHeartbeats 4000000 in
set_option maxRecDepth 20000 in
theorem one_2 {w0 : World} {A : Ad} {R : Ar} {S : Sp} {kb : Nat} (t f s n : Int) (b : Bool) (w : World) (h : Two w0 A R S w) (hi : Inv S kb) (hkb : kb ≤ 50000) (hn : A.C.n7 = R.C.n7) :
    Calls Tryz.prog 11 #[.pointer (some ⟨A.b, 0, none⟩), .pointer (some ⟨R.b, 0, none⟩), .agg #[.int .i64 2, .int .i64 t, .int .i64 f, .int .i64 s, .int .i64 n, .bool b]] w fun e w' => e = .returned (.bool true) ∧ Two w0 A R (S.op ⟨2, t, f, s, n, b⟩) w' := by
  have HT : Hid (Two w0 A R S w) := h
  have HI : Hid (Inv S kb ∧ kb ≤ 50000 ∧ A.C.n7 = R.C.n7) := ⟨hi, hkb, hn⟩
  clear h hi hkb hn
  go_enter Tryz.func11, Tryz.ntmps11
  go_upto_region 1 with fail
  generalize hW : w.alloc _ = W
  have H0 : Hid (Tw w0 A R w.heap.size [.int .i64 2, .int .i64 t, .int .i64 f, .int .i64 s, .int .i64 n, .bool b] [] S S W) := by
    rw [← hW]
    exact HT.out.box [.int .i64 2, .int .i64 t, .int .i64 f, .int .i64 s, .int .i64 n, .bool b]
  clear hW HT
  generalize w.heap.size = ob at *
  have e0 : W.cell? ⟨ob, 0, none⟩ = some (.int .i64 2) := H0.out.own.blk.at 0 rfl
  obtain ⟨gs, hgs⟩ : ∃ gs, (S.lookG t).st = gs := ⟨_, rfl⟩
  obtain ⟨G, hG⟩ : ∃ G, (S.lookG t).G = G := ⟨_, rfl⟩
  obtain ⟨ga, hga⟩ : ∃ ga, (S.lookG t).at_ = ga := ⟨_, rfl⟩
  have HL : G.length ≤ 1000000 := by
    rw [← hG]
    obtain ⟨c, c', a, _⟩ := H0.out.ex
    exact lookG_short a t
  have HE : S.op ⟨2, t, f, s, n, b⟩ = S.look t := by show _ = _; simp [Sp.op]
  obtain ⟨P0, hP0⟩ : ∃ P0 : World → Prop, P0 = fun u => Tw w0 A R ob [.int .i64 2, .int .i64 t, .int .i64 f, .int .i64 s, .int .i64 n, .bool b] [] S S u := ⟨_, rfl⟩
  obtain ⟨P1, hP1⟩ : ∃ P1 : Option Addr → World → Prop, P1 = fun x u => Rdi u x G ∧ ∃ X, Apart x X ∧ Tw w0 A R ob [.int .i64 2, .int .i64 t, .int .i64 f, .int .i64 s, .int .i64 n, .bool b] X (S.look t) S u := ⟨_, rfl⟩
  obtain ⟨P2, hP2⟩ : ∃ P2 : Option Addr → Option Addr → World → Prop, P2 = fun x1 x2 u => Rdi u x1 G ∧ Rdi u x2 G ∧ Tw w0 A R ob [.int .i64 2, .int .i64 t, .int .i64 f, .int .i64 s, .int .i64 n, .bool b] [] (S.look t) (S.look t) u := ⟨_, rfl⟩
  have A0 : Hid (∀ u, P0 u → Blk u ob [.int .i64 2, .int .i64 t, .int .i64 f, .int .i64 s, .int .i64 n, .bool b]) := fun u q => by rw [hP0] at q; exact q.own.blk
  have A1 : Hid (∀ x u, P1 x u → Blk u ob [.int .i64 2, .int .i64 t, .int .i64 f, .int .i64 s, .int .i64 n, .bool b]) := fun x u q => by
    rw [hP1] at q
    obtain ⟨_, X, _, q⟩ := q
    exact q.own.blk
  have A2 : Hid (∀ x1 x2 u, P2 x1 x2 u → Blk u ob [.int .i64 2, .int .i64 t, .int .i64 f, .int .i64 s, .int .i64 n, .bool b]) := fun x1 x2 u q => by rw [hP2] at q; exact q.2.2.own.blk
  have E2 : Hid (∀ x1 x2 u, P2 x1 x2 u → Two w0 A R (S.op ⟨2, t, f, s, n, b⟩) u) := fun x1 x2 u q => by rw [hP2] at q; rw [HE]; exact q.2.2.two
  have K1 : Hid (∀ u, P0 u → Calls Tryz.prog _ _ u fun e u' => ∃ x d, e = .returned (.agg #[.int .i64 gs, .slice x G.length d, .int .i64 ga]) ∧ P1 x u') := fun u q => by
    rw [hP0] at q
    rw [hP1, ← hgs, ← hG, ← hga]
    exact pk_look t q HI.out.1.bd HI.out.2.1
  have K2 : Hid (∀ x u, P1 x u → Calls Tryz.prog _ _ u fun e u' => ∃ x' d, e = .returned (.agg #[.int .i64 gs, .slice x' G.length d, .int .i64 ga]) ∧ P2 x x' u') := fun x u q => by
    rw [hP1] at q
    obtain ⟨r1, X, hX, q⟩ := q
    rw [hP2]
    rw [← hG] at r1
    rw [← hgs, ← hG, ← hga]
    exact dc_look t q hX r1 HI.out.1.bd HI.out.2.1 HI.out.1.st
  have K3 : Hid (∀ x1 (d1 : Nat) x2 (d2 : Nat) u, P2 x1 x2 u → Calls Tryz.prog 43 #[.agg #[.int .i64 gs, .slice x1 G.length d1, .int .i64 ga], .agg #[.int .i64 gs, .slice x2 G.length d2, .int .i64 ga]] u fun e u' => e = .returned (.bool true) ∧ P2 x1 x2 u') := fun x1 d1 x2 d2 u q => by
    rw [hP2] at q ⊢
    exact (same_grant gs ga x1 x2 d1 d2 G u HL q.1 q.2.1).mono fun _ _ ⟨e, k⟩ => ⟨e, q.1.kept k, q.2.1.kept k, q.2.2.still k⟩
  have HS : Hid (P0 W.drew) := by rw [hP0]; exact H0.out.still (Kept.refl _).drew
  clear hgs hG hga HL HE hP0 hP1 hP2 HI
  go_upto_region 7 with fail
  clear e0 H0
  refine wp_region_ghost (G := (Option Addr × Nat) × (Option Addr × Nat)) (fun ⟨⟨x1, d1⟩, ⟨x2, d2⟩⟩ => [(.pointer (some ⟨A.b, 0, none⟩)), (.pointer (some ⟨ob, 1, none⟩)), (.int .i64 t), (.agg #[.int .i64 gs, .slice x1 G.length d1, .int .i64 ga]), (.pointer (some ⟨R.b, 0, none⟩)), (.pointer (some ⟨ob, 1, none⟩)), (.int .i64 t), (.agg #[.int .i64 gs, .slice x2 G.length d2, .int .i64 ga]), (.bool true), (.bool true)]) [(6, 9), (49, 0), (50, 1), (51, 2), (52, 3), (53, 4), (54, 5), (55, 6), (56, 7), (57, 8)] (fun ⟨⟨x1, d1⟩, ⟨x2, d2⟩⟩ d u => J3 3 7 (fun u => P0 u) (fun u => P1 x1 u) (fun u => P2 x1 x2 u) d u) (by kernel_rfl) (by kernel_rfl) (by kernel_rfl) (by kernel_rfl) (fun _ => rfl) ?_ ?_ ?_
  · exact ⟨⟨⟨none, 0⟩, ⟨none, 0⟩⟩, J3.start HS.out⟩
  · intro i1 o1 ho ng a1 d u hh hj0 hi hd hc
    obtain ⟨⟨x1, d1⟩, ⟨x2, d2⟩⟩ := ng
    have hj : J3 3 7 (fun u => P0 u) (fun u => P1 x1 u) (fun u => P2 x1 x2 u) d u := hj0
    clear hj0
    match i1, ho, hi, hd with
    | 0, ho, hi, hd =>
      simp only [List.getElem?_cons_zero, Option.some.injEq] at ho
      subst ho
      have g0 : a1.tmps[0]? = some (.pointer (some ⟨A.b, 0, none⟩)) := hh.old 0 (by kernel_rfl) rfl
      have HN : Hid (J3 3 7 (fun u => P0 u) (fun u => P1 x1 u) (fun u => P2 x1 x2 u) (done d 0) u) := hj.plain 0 (by decide) (by decide)
      clear hh hd hc hj hi
      refine wpOp_step rfl (fun K hK => ?_)
      go_simp
      exact hK _ _ ⟨⟨⟨x1, d1⟩, ⟨x2, d2⟩⟩, fun _ _ => rfl, by simp [Act.put], HN.out⟩
    | 1, ho, hi, hd =>
      simp only [List.getElem?_cons_succ, List.getElem?_cons_zero, Option.some.injEq] at ho
      subst ho
      have g5 : a1.tmps[5]? = some (.pointer (some ⟨ob, 0, none⟩)) := hh.old 5 (by kernel_rfl) rfl
      have HN : Hid (J3 3 7 (fun u => P0 u) (fun u => P1 x1 u) (fun u => P2 x1 x2 u) (done d 1) u) := hj.plain 1 (by decide) (by decide)
      clear hh hd hc hj hi
      refine wpOp_step rfl (fun K hK => ?_)
      go_simp
      exact hK _ _ ⟨⟨⟨x1, d1⟩, ⟨x2, d2⟩⟩, fun _ _ => rfl, by simp [Act.put], HN.out⟩
    | 2, ho, hi, hd =>
      simp only [List.getElem?_cons_succ, List.getElem?_cons_zero, Option.some.injEq] at ho
      subst ho
      have g50 : a1.tmps[50]? = some (.pointer (some ⟨ob, 1, none⟩)) := hh.did 1 _ 50 rfl rfl (hd { on := 1, ground := .data } (by simp) rfl)
      have cc : Blk u ob [.int .i64 2, .int .i64 t, .int .i64 f, .int .i64 s, .int .i64 n, .bool b] := (hj.any (Q := fun u => Blk u ob [.int .i64 2, .int .i64 t, .int .i64 f, .int .i64 s, .int .i64 n, .bool b]) A0.out (A1.out x1) (A2.out x1 x2))
      have c1 := cc.at 1 rfl
      have HN : Hid (J3 3 7 (fun u => P0 u) (fun u => P1 x1 u) (fun u => P2 x1 x2 u) (done d 2) u) := hj.plain 2 (by decide) (by decide)
      clear hh hd hc hj hi
      refine wpOp_step rfl (fun K hK => ?_)
      go_simp
      exact hK _ _ ⟨⟨⟨x1, d1⟩, ⟨x2, d2⟩⟩, fun _ _ => rfl, by simp [Act.put], HN.out⟩
    | 3, ho, hi, hd =>
      simp only [List.getElem?_cons_succ, List.getElem?_cons_zero, Option.some.injEq] at ho
      subst ho
      have g49 : a1.tmps[49]? = some (.pointer (some ⟨A.b, 0, none⟩)) := hh.did 0 _ 49 rfl rfl (hd { on := 0, ground := .data } (by simp) rfl)
      have g51 : a1.tmps[51]? = some (.int .i64 t) := hh.did 2 _ 51 rfl rfl (hd { on := 2, ground := .data } (by simp) rfl)
      have n7 : d 7 = false := by
        cases q : d 7 with
        | false => rfl
        | true => exact absurd (hc 7 _ rfl q { on := 3, ground := .chain } (by simp) rfl) (by simp [hi])
      have HJ : Hid (J3 3 7 (fun u => P0 u) (fun u => P1 x1 u) (fun u => P2 x1 x2 u) d u) := hj
      have HD : Hid (d 3 = false ∧ d 7 = false) := ⟨hi, n7⟩
      have CA : Hid (Calls _ _ _ _ _) := K1.out u (hj.now hi)
      clear hh hd hc hj hi n7
      refine wpOp_step rfl (fun K hK => ?_)
      go_simp
      refine CA.out.mono ?_
      rintro e u2 ⟨x1', d1', rfl, p1⟩
      refine hK _ _ ⟨⟨⟨x1', d1'⟩, ⟨x2, d2⟩⟩, fun j hj => ?_, by simp [Act.put], show J3 3 7 (fun u => P0 u) (fun u => P1 x1' u) (fun u => P2 x1' x2 u) (done d 3) u2 from ⟨fun q => by simp [done] at q, fun _ _ => p1, fun q => by rw [show done d 3 7 = d 7 by simp [done], HD.out.2] at q; cases q⟩⟩
      have j3 : j ≠ 3 := fun q => by rw [q, HD.out.1] at hj; cases hj
      match j, j3 with
      | 0, _ => rfl
      | 1, _ => rfl
      | 2, _ => rfl
      | 4, _ => rfl
      | 5, _ => rfl
      | 6, _ => rfl
      | 7, _ => rfl
      | 8, _ => rfl
      | 9, _ => rfl
      | j + 10, _ => rfl
    | 4, ho, hi, hd =>
      simp only [List.getElem?_cons_succ, List.getElem?_cons_zero, Option.some.injEq] at ho
      subst ho
      have g1 : a1.tmps[1]? = some (.pointer (some ⟨R.b, 0, none⟩)) := hh.old 1 (by kernel_rfl) rfl
      have HN : Hid (J3 3 7 (fun u => P0 u) (fun u => P1 x1 u) (fun u => P2 x1 x2 u) (done d 4) u) := hj.plain 4 (by decide) (by decide)
      clear hh hd hc hj hi
      refine wpOp_step rfl (fun K hK => ?_)
      go_simp
      exact hK _ _ ⟨⟨⟨x1, d1⟩, ⟨x2, d2⟩⟩, fun _ _ => rfl, by simp [Act.put], HN.out⟩
    | 5, ho, hi, hd =>
      simp only [List.getElem?_cons_succ, List.getElem?_cons_zero, Option.some.injEq] at ho
      subst ho
      have g5 : a1.tmps[5]? = some (.pointer (some ⟨ob, 0, none⟩)) := hh.old 5 (by kernel_rfl) rfl
      have HN : Hid (J3 3 7 (fun u => P0 u) (fun u => P1 x1 u) (fun u => P2 x1 x2 u) (done d 5) u) := hj.plain 5 (by decide) (by decide)
      clear hh hd hc hj hi
      refine wpOp_step rfl (fun K hK => ?_)
      go_simp
      exact hK _ _ ⟨⟨⟨x1, d1⟩, ⟨x2, d2⟩⟩, fun _ _ => rfl, by simp [Act.put], HN.out⟩
    | 6, ho, hi, hd =>
      simp only [List.getElem?_cons_succ, List.getElem?_cons_zero, Option.some.injEq] at ho
      subst ho
      have g54 : a1.tmps[54]? = some (.pointer (some ⟨ob, 1, none⟩)) := hh.did 5 _ 54 rfl rfl (hd { on := 5, ground := .data } (by simp) rfl)
      have cc : Blk u ob [.int .i64 2, .int .i64 t, .int .i64 f, .int .i64 s, .int .i64 n, .bool b] := (hj.any (Q := fun u => Blk u ob [.int .i64 2, .int .i64 t, .int .i64 f, .int .i64 s, .int .i64 n, .bool b]) A0.out (A1.out x1) (A2.out x1 x2))
      have c1 := cc.at 1 rfl
      have HN : Hid (J3 3 7 (fun u => P0 u) (fun u => P1 x1 u) (fun u => P2 x1 x2 u) (done d 6) u) := hj.plain 6 (by decide) (by decide)
      clear hh hd hc hj hi
      refine wpOp_step rfl (fun K hK => ?_)
      go_simp
      exact hK _ _ ⟨⟨⟨x1, d1⟩, ⟨x2, d2⟩⟩, fun _ _ => rfl, by simp [Act.put], HN.out⟩
    | 7, ho, hi, hd =>
      simp only [List.getElem?_cons_succ, List.getElem?_cons_zero, Option.some.injEq] at ho
      subst ho
      have g53 : a1.tmps[53]? = some (.pointer (some ⟨R.b, 0, none⟩)) := hh.did 4 _ 53 rfl rfl (hd { on := 4, ground := .data } (by simp) rfl)
      have g55 : a1.tmps[55]? = some (.int .i64 t) := hh.did 6 _ 55 rfl rfl (hd { on := 6, ground := .data } (by simp) rfl)
      have y3 : d 3 = true := (hd { on := 3, ground := .chain } (by simp) rfl)
      have HJ : Hid (J3 3 7 (fun u => P0 u) (fun u => P1 x1 u) (fun u => P2 x1 x2 u) d u) := hj
      have HD : Hid (d 3 = true ∧ d 7 = false) := ⟨y3, hi⟩
      have CA : Hid (Calls _ _ _ _ _) := K2.out x1 u (hj.mid y3 hi)
      clear hh hd hc hj hi y3
      refine wpOp_step rfl (fun K hK => ?_)
      go_simp
      refine CA.out.mono ?_
      rintro e u2 ⟨x2', d2', rfl, p2⟩
      refine hK _ _ ⟨⟨⟨x1, d1⟩, ⟨x2', d2'⟩⟩, fun j hj => ?_, by simp [Act.put], show J3 3 7 (fun u => P0 u) (fun u => P1 x1 u) (fun u => P2 x1 x2' u) (done d 7) u2 from J3.turn2 (P2 := fun u => P2 x1 x2' u) ⟨HJ.out.1, HJ.out.2.1, fun q => by rw [HD.out.2] at q; cases q⟩ HD.out.1 (by decide) p2⟩
      have j7 : j ≠ 7 := fun q => by rw [q, HD.out.2] at hj; cases hj
      match j, j7 with
      | 0, _ => rfl
      | 1, _ => rfl
      | 2, _ => rfl
      | 3, _ => rfl
      | 4, _ => rfl
      | 5, _ => rfl
      | 6, _ => rfl
      | 8, _ => rfl
      | 9, _ => rfl
      | j + 10, _ => rfl
    | 8, ho, hi, hd =>
      simp only [List.getElem?_cons_succ, List.getElem?_cons_zero, Option.some.injEq] at ho
      subst ho
      have g52 : a1.tmps[52]? = some (.agg #[.int .i64 gs, .slice x1 G.length d1, .int .i64 ga]) := hh.did 3 _ 52 rfl rfl (hd { on := 3, ground := .data } (by simp) rfl)
      have g56 : a1.tmps[56]? = some (.agg #[.int .i64 gs, .slice x2 G.length d2, .int .i64 ga]) := hh.did 7 _ 56 rfl rfl (hd { on := 7, ground := .data } (by simp) rfl)
      have y7 : d 7 = true := (hd { on := 7, ground := .data } (by simp) rfl)
      have y3 : d 3 = true := (hd { on := 3, ground := .data } (by simp) rfl)
      have HJ : Hid (J3 3 7 (fun u => P0 u) (fun u => P1 x1 u) (fun u => P2 x1 x2 u) d u) := hj
      have HD : Hid (d 3 = true ∧ d 7 = true) := ⟨y3, y7⟩
      have CA : Hid (Calls _ _ _ _ _) := K3.out x1 d1 x2 d2 u (hj.fin y7)
      clear hh hd hc hj hi y3 y7
      refine wpOp_step rfl (fun K hK => ?_)
      go_simp
      refine CA.out.mono ?_
      rintro e u2 ⟨rfl, p3⟩
      exact hK _ _ ⟨⟨⟨x1, d1⟩, ⟨x2, d2⟩⟩, fun _ _ => rfl, by simp [Act.put], HJ.out.stay2 8 (by decide) (by decide) HD.out.1 HD.out.2 p3⟩
    | 9, ho, hi, hd =>
      simp only [List.getElem?_cons_succ, List.getElem?_cons_zero, Option.some.injEq] at ho
      subst ho
      have g57 : a1.tmps[57]? = some (.bool true) := hh.did 8 _ 57 rfl rfl (hd { on := 8, ground := .data } (by simp) rfl)
      have HN : Hid (J3 3 7 (fun u => P0 u) (fun u => P1 x1 u) (fun u => P2 x1 x2 u) (done d 9) u) := hj.plain 9 (by decide) (by decide)
      clear hh hd hc hj hi
      refine wpOp_step rfl (fun K hK => ?_)
      go_simp
      exact hK _ _ ⟨⟨⟨x1, d1⟩, ⟨x2, d2⟩⟩, fun _ _ => rfl, by simp [Act.put], HN.out⟩
    | n + 10, ho, hi, hd => simp at ho
  · intro ng u d hall hj0
    obtain ⟨⟨x1, d1⟩, ⟨x2, d2⟩⟩ := ng
    have hj : J3 3 7 (fun u => P0 u) (fun u => P1 x1 u) (fun u => P2 x1 x2 u) d u := hj0
    clear hj0
    have h2 : Hid (P2 x1 x2 u) := hj.fin (hall 7 (by decide))
    clear hall hj
    refine norm_list' (L' := [_, _, _, _, _, _, _, _, _, _, _, _, _, _, _, _, _, _, _, _, _, _, _, _, _, _, _, _, _, _, _, _, _, _, _, _, _, _, _, _, _, _, _, _, _, _, _, _, _, _, _, _, _, _, _, _, _, _, _, _, _, _, _, _, _, _, _, _, _, _, _, _, _, _, _, _, _, _, _, _, _, _, _, _, _, _, _, _, _, _, _, _, _, _, _, _, _, _, _, _, _, _, _, _, _, _, _, _, _, _, _, _, _, _, _, _, _, _, _, _, _, _, _, _, _, _, _, _, _, _, _, _, _, _, _, _, _, _, _, _, _, _, _, _, _, _, _, _, _, _, _, _, _, _, _, _, _, _, _, _, _, _, _, _, _, _, _, _, _, _, _, _, _, _, _, _, _]) rfl ?_
    have H2 : Hid (Two w0 A R (S.op ⟨2, t, f, s, n, b⟩) u) := E2.out x1 x2 u h2.out
    clear h2 E2
    go_wp2
    go_ret
    exact ⟨rfl, H2.out⟩
end Go.Proofs.YtahpnnjemjjfhaaGreat

/-
  An operation on both spaces: kind 3.
-/
namespace Go.Proofs.YtahpnnjemjjfhaaGreat
open Go.RowKit

set_option maxHeartbeats 4000000 in
set_option maxRecDepth 20000 in
theorem one_3 {w0 : World} {A : Ad} {R : Ar} {S : Sp} {kb : Nat} (t f s n : Int) (b : Bool) (w : World) (h : Two w0 A R S w) (hi : Inv S kb) (hkb : kb ≤ 50000) (hn : A.C.n7 = R.C.n7) :
    Calls Tryz.prog 11 #[.pointer (some ⟨A.b, 0, none⟩), .pointer (some ⟨R.b, 0, none⟩), .agg #[.int .i64 3, .int .i64 t, .int .i64 f, .int .i64 s, .int .i64 n, .bool b]] w fun e w' => e = .returned (.bool true) ∧ Two w0 A R (S.op ⟨3, t, f, s, n, b⟩) w' := by
  have HT : Hid (Two w0 A R S w) := h
  have HI : Hid (Inv S kb ∧ kb ≤ 50000 ∧ A.C.n7 = R.C.n7) := ⟨hi, hkb, hn⟩
  clear h hi hkb hn
  go_enter Tryz.func11, Tryz.ntmps11
  go_upto_region 1 with fail
  generalize hW : w.alloc _ = W
  have H0 : Hid (Tw w0 A R w.heap.size [.int .i64 3, .int .i64 t, .int .i64 f, .int .i64 s, .int .i64 n, .bool b] [] S S W) := by
    rw [← hW]
    exact HT.out.box [.int .i64 3, .int .i64 t, .int .i64 f, .int .i64 s, .int .i64 n, .bool b]
  clear hW HT
  generalize w.heap.size = ob at *
  have e0 : W.cell? ⟨ob, 0, none⟩ = some (.int .i64 3) := H0.out.own.blk.at 0 rfl
  have HE : Hid (S.op ⟨3, t, f, s, n, b⟩ = S.drain t) := by show _ = _; simp [Sp.op]
  obtain ⟨vv, hvv⟩ : ∃ vv, S.drainN t = vv := ⟨_, rfl⟩
  obtain ⟨P0, hP0⟩ : ∃ P0 : World → Prop, P0 = fun u => Tw w0 A R ob [.int .i64 3, .int .i64 t, .int .i64 f, .int .i64 s, .int .i64 n, .bool b] [] (S) (S) u := ⟨_, rfl⟩
  obtain ⟨P1, hP1⟩ : ∃ P1 : World → Prop, P1 = fun u => Tw w0 A R ob [.int .i64 3, .int .i64 t, .int .i64 f, .int .i64 s, .int .i64 n, .bool b] [] (S.drain t) (S) u := ⟨_, rfl⟩
  obtain ⟨P2, hP2⟩ : ∃ P2 : World → Prop, P2 = fun u => Tw w0 A R ob [.int .i64 3, .int .i64 t, .int .i64 f, .int .i64 s, .int .i64 n, .bool b] [] (S.drain t) (S.drain t) u := ⟨_, rfl⟩
  have A0 : Hid (∀ u, P0 u → Blk u ob [.int .i64 3, .int .i64 t, .int .i64 f, .int .i64 s, .int .i64 n, .bool b]) := fun u q => by rw [hP0] at q; exact q.own.blk
  have A1 : Hid (∀ u, P1 u → Blk u ob [.int .i64 3, .int .i64 t, .int .i64 f, .int .i64 s, .int .i64 n, .bool b]) := fun u q => by rw [hP1] at q; exact q.own.blk
  have A2 : Hid (∀ u, P2 u → Blk u ob [.int .i64 3, .int .i64 t, .int .i64 f, .int .i64 s, .int .i64 n, .bool b]) := fun u q => by rw [hP2] at q; exact q.own.blk
  have E2 : Hid ((fun u => Tw w0 A R ob [.int .i64 3, .int .i64 t, .int .i64 f, .int .i64 s, .int .i64 n, .bool b] [] (S.drain t) (S.drain t) u) = P2) := hP2.symm
  have K1 : Hid (∀ u, P0 u → Calls Tryz.prog _ _ u fun e u' => e = .returned (.int .i64 vv) ∧ P1 u') := fun u q => by
    rw [hP0] at q
    rw [hP1, ← hvv]
    exact pk_drain t q HI.out.1.bd HI.out.2.1
  have K2 : Hid (∀ u, P1 u → Calls Tryz.prog _ _ u fun e u' => e = .returned (.int .i64 vv) ∧ P2 u') := fun u q => by
    rw [hP1] at q
    rw [hP2, ← hvv]
    exact dc_drain t q HI.out.1.bd HI.out.2.1
  have HS : Hid (P0 W.drew) := by rw [hP0]; exact H0.out.still (Kept.refl _).drew
  clear hvv hP0 hP1 hP2 HI
  go_upto_region 9 with fail
  clear e0 H0
  refine wp_region_ghost (G := Unit) (fun ⟨⟩ => [(.pointer (some ⟨A.b, 0, none⟩)), (.pointer (some ⟨ob, 1, none⟩)), (.int .i64 t), (.int .i64 vv), (.pointer (some ⟨R.b, 0, none⟩)), (.pointer (some ⟨ob, 1, none⟩)), (.int .i64 t), (.int .i64 vv), (.bool true), (.bool true)]) [(6, 9), (60, 0), (61, 1), (62, 2), (63, 3), (64, 4), (65, 5), (66, 6), (67, 7), (68, 8)] (fun ⟨⟩ d u => J3 3 7 (fun u => P0 u) (fun u => P1 u) (fun u => P2 u) d u) (by kernel_rfl) (by kernel_rfl) (by kernel_rfl) (by kernel_rfl) (fun _ => rfl) ?_ ?_ ?_
  · exact ⟨⟨⟩, J3.start HS.out⟩
  · intro i1 o1 ho ng a1 d u hh hj0 hi hd hc
    obtain ⟨⟩ := ng
    have hj : J3 3 7 (fun u => P0 u) (fun u => P1 u) (fun u => P2 u) d u := hj0
    clear hj0
    match i1, ho, hi, hd with
    | 0, ho, hi, hd =>
      simp only [List.getElem?_cons_zero, Option.some.injEq] at ho
      subst ho
      have g0 : a1.tmps[0]? = some (.pointer (some ⟨A.b, 0, none⟩)) := hh.old 0 (by kernel_rfl) rfl
      have HN : Hid (J3 3 7 (fun u => P0 u) (fun u => P1 u) (fun u => P2 u) (done d 0) u) := hj.plain 0 (by decide) (by decide)
      clear hh hd hc hj hi
      refine wpOp_step rfl (fun K hK => ?_)
      go_simp
      exact hK _ _ ⟨⟨⟩, fun _ _ => rfl, by simp [Act.put], HN.out⟩
    | 1, ho, hi, hd =>
      simp only [List.getElem?_cons_succ, List.getElem?_cons_zero, Option.some.injEq] at ho
      subst ho
      have g5 : a1.tmps[5]? = some (.pointer (some ⟨ob, 0, none⟩)) := hh.old 5 (by kernel_rfl) rfl
      have HN : Hid (J3 3 7 (fun u => P0 u) (fun u => P1 u) (fun u => P2 u) (done d 1) u) := hj.plain 1 (by decide) (by decide)
      clear hh hd hc hj hi
      refine wpOp_step rfl (fun K hK => ?_)
      go_simp
      exact hK _ _ ⟨⟨⟩, fun _ _ => rfl, by simp [Act.put], HN.out⟩
    | 2, ho, hi, hd =>
      simp only [List.getElem?_cons_succ, List.getElem?_cons_zero, Option.some.injEq] at ho
      subst ho
      have g61 : a1.tmps[61]? = some (.pointer (some ⟨ob, 1, none⟩)) := hh.did 1 _ 61 rfl rfl (hd { on := 1, ground := .data } (by simp) rfl)
      have cc : Blk u ob [.int .i64 3, .int .i64 t, .int .i64 f, .int .i64 s, .int .i64 n, .bool b] := (hj.any (Q := fun u => Blk u ob [.int .i64 3, .int .i64 t, .int .i64 f, .int .i64 s, .int .i64 n, .bool b]) A0.out A1.out A2.out)
      have c1 := cc.at 1 rfl
      have HN : Hid (J3 3 7 (fun u => P0 u) (fun u => P1 u) (fun u => P2 u) (done d 2) u) := hj.plain 2 (by decide) (by decide)
      clear hh hd hc hj hi
      refine wpOp_step rfl (fun K hK => ?_)
      go_simp
      exact hK _ _ ⟨⟨⟩, fun _ _ => rfl, by simp [Act.put], HN.out⟩
    | 3, ho, hi, hd =>
      simp only [List.getElem?_cons_succ, List.getElem?_cons_zero, Option.some.injEq] at ho
      subst ho
      have g60 : a1.tmps[60]? = some (.pointer (some ⟨A.b, 0, none⟩)) := hh.did 0 _ 60 rfl rfl (hd { on := 0, ground := .data } (by simp) rfl)
      have g62 : a1.tmps[62]? = some (.int .i64 t) := hh.did 2 _ 62 rfl rfl (hd { on := 2, ground := .data } (by simp) rfl)
      have n7 : d 7 = false := by
        cases q : d 7 with
        | false => rfl
        | true => exact absurd (hc 7 _ rfl q { on := 3, ground := .chain } (by simp) rfl) (by simp [hi])
      have HJ : Hid (J3 3 7 (fun u => P0 u) (fun u => P1 u) (fun u => P2 u) d u) := hj
      have HD : Hid (d 3 = false ∧ d 7 = false) := ⟨hi, n7⟩
      have CA : Hid (Calls _ _ _ _ _) := K1.out u (hj.now hi)
      clear hh hd hc hj hi n7
      refine wpOp_step rfl (fun K hK => ?_)
      go_simp
      refine CA.out.mono ?_
      rintro e u2 ⟨rfl, p1⟩
      exact hK _ _ ⟨⟨⟩, fun _ _ => rfl, by simp [Act.put], HJ.out.turn (by decide) HD.out.1 p1 HD.out.2⟩
    | 4, ho, hi, hd =>
      simp only [List.getElem?_cons_succ, List.getElem?_cons_zero, Option.some.injEq] at ho
      subst ho
      have g1 : a1.tmps[1]? = some (.pointer (some ⟨R.b, 0, none⟩)) := hh.old 1 (by kernel_rfl) rfl
      have HN : Hid (J3 3 7 (fun u => P0 u) (fun u => P1 u) (fun u => P2 u) (done d 4) u) := hj.plain 4 (by decide) (by decide)
      clear hh hd hc hj hi
      refine wpOp_step rfl (fun K hK => ?_)
      go_simp
      exact hK _ _ ⟨⟨⟩, fun _ _ => rfl, by simp [Act.put], HN.out⟩
    | 5, ho, hi, hd =>
      simp only [List.getElem?_cons_succ, List.getElem?_cons_zero, Option.some.injEq] at ho
      subst ho
      have g5 : a1.tmps[5]? = some (.pointer (some ⟨ob, 0, none⟩)) := hh.old 5 (by kernel_rfl) rfl
      have HN : Hid (J3 3 7 (fun u => P0 u) (fun u => P1 u) (fun u => P2 u) (done d 5) u) := hj.plain 5 (by decide) (by decide)
      clear hh hd hc hj hi
      refine wpOp_step rfl (fun K hK => ?_)
      go_simp
      exact hK _ _ ⟨⟨⟩, fun _ _ => rfl, by simp [Act.put], HN.out⟩
    | 6, ho, hi, hd =>
      simp only [List.getElem?_cons_succ, List.getElem?_cons_zero, Option.some.injEq] at ho
      subst ho
      have g65 : a1.tmps[65]? = some (.pointer (some ⟨ob, 1, none⟩)) := hh.did 5 _ 65 rfl rfl (hd { on := 5, ground := .data } (by simp) rfl)
      have cc : Blk u ob [.int .i64 3, .int .i64 t, .int .i64 f, .int .i64 s, .int .i64 n, .bool b] := (hj.any (Q := fun u => Blk u ob [.int .i64 3, .int .i64 t, .int .i64 f, .int .i64 s, .int .i64 n, .bool b]) A0.out A1.out A2.out)
      have c1 := cc.at 1 rfl
      have HN : Hid (J3 3 7 (fun u => P0 u) (fun u => P1 u) (fun u => P2 u) (done d 6) u) := hj.plain 6 (by decide) (by decide)
      clear hh hd hc hj hi
      refine wpOp_step rfl (fun K hK => ?_)
      go_simp
      exact hK _ _ ⟨⟨⟩, fun _ _ => rfl, by simp [Act.put], HN.out⟩
    | 7, ho, hi, hd =>
      simp only [List.getElem?_cons_succ, List.getElem?_cons_zero, Option.some.injEq] at ho
      subst ho
      have g64 : a1.tmps[64]? = some (.pointer (some ⟨R.b, 0, none⟩)) := hh.did 4 _ 64 rfl rfl (hd { on := 4, ground := .data } (by simp) rfl)
      have g66 : a1.tmps[66]? = some (.int .i64 t) := hh.did 6 _ 66 rfl rfl (hd { on := 6, ground := .data } (by simp) rfl)
      have y3 : d 3 = true := (hd { on := 3, ground := .chain } (by simp) rfl)
      have HJ : Hid (J3 3 7 (fun u => P0 u) (fun u => P1 u) (fun u => P2 u) d u) := hj
      have HD : Hid (d 3 = true) := y3
      have CA : Hid (Calls _ _ _ _ _) := K2.out u (hj.mid y3 hi)
      clear hh hd hc hj hi y3
      refine wpOp_step rfl (fun K hK => ?_)
      go_simp
      refine CA.out.mono ?_
      rintro e u2 ⟨rfl, p2⟩
      exact hK _ _ ⟨⟨⟩, fun _ _ => rfl, by simp [Act.put], HJ.out.turn2 HD.out (by decide) p2⟩
    | 8, ho, hi, hd =>
      simp only [List.getElem?_cons_succ, List.getElem?_cons_zero, Option.some.injEq] at ho
      subst ho
      have g63 : a1.tmps[63]? = some (.int .i64 vv) := hh.did 3 _ 63 rfl rfl (hd { on := 3, ground := .data } (by simp) rfl)
      have g67 : a1.tmps[67]? = some (.int .i64 vv) := hh.did 7 _ 67 rfl rfl (hd { on := 7, ground := .data } (by simp) rfl)
      have zz : (vv == vv) = true := by simp
      have HN : Hid (J3 3 7 (fun u => P0 u) (fun u => P1 u) (fun u => P2 u) (done d 8) u) := hj.plain 8 (by decide) (by decide)
      clear hh hd hc hj hi
      refine wpOp_step rfl (fun K hK => ?_)
      go_simp
      exact hK _ _ ⟨⟨⟩, fun _ _ => rfl, by simp [Act.put], HN.out⟩
    | 9, ho, hi, hd =>
      simp only [List.getElem?_cons_succ, List.getElem?_cons_zero, Option.some.injEq] at ho
      subst ho
      have g68 : a1.tmps[68]? = some (.bool true) := hh.did 8 _ 68 rfl rfl (hd { on := 8, ground := .data } (by simp) rfl)
      have HN : Hid (J3 3 7 (fun u => P0 u) (fun u => P1 u) (fun u => P2 u) (done d 9) u) := hj.plain 9 (by decide) (by decide)
      clear hh hd hc hj hi
      refine wpOp_step rfl (fun K hK => ?_)
      go_simp
      exact hK _ _ ⟨⟨⟩, fun _ _ => rfl, by simp [Act.put], HN.out⟩
    | n + 10, ho, hi, hd => simp at ho
  · intro ng u d hall hj0
    obtain ⟨⟩ := ng
    have hj : J3 3 7 (fun u => P0 u) (fun u => P1 u) (fun u => P2 u) d u := hj0
    clear hj0
    have h2 : Hid (P2 u) := hj.fin (hall 7 (by decide))
    clear hall hj
    refine norm_list' (L' := [_, _, _, _, _, _, _, _, _, _, _, _, _, _, _, _, _, _, _, _, _, _, _, _, _, _, _, _, _, _, _, _, _, _, _, _, _, _, _, _, _, _, _, _, _, _, _, _, _, _, _, _, _, _, _, _, _, _, _, _, _, _, _, _, _, _, _, _, _, _, _, _, _, _, _, _, _, _, _, _, _, _, _, _, _, _, _, _, _, _, _, _, _, _, _, _, _, _, _, _, _, _, _, _, _, _, _, _, _, _, _, _, _, _, _, _, _, _, _, _, _, _, _, _, _, _, _, _, _, _, _, _, _, _, _, _, _, _, _, _, _, _, _, _, _, _, _, _, _, _, _, _, _, _, _, _, _, _, _, _, _, _, _, _, _, _, _, _, _, _, _, _, _, _, _, _, _]) rfl ?_
    rw [← E2.out] at h2
    have H2 : Hid (Two w0 A R (S.op ⟨3, t, f, s, n, b⟩) u) := by rw [HE.out]; exact h2.out.two
    clear h2 HE
    go_wp2
    go_ret
    exact ⟨rfl, H2.out⟩
end Go.Proofs.YtahpnnjemjjfhaaGreat

/-
  An operation on both spaces: kind 4.
-/
namespace Go.Proofs.YtahpnnjemjjfhaaGreat
open Go.RowKit

set_option maxHeartbeats 4000000 in
set_option maxRecDepth 20000 in
theorem one_4 {w0 : World} {A : Ad} {R : Ar} {S : Sp} {kb : Nat} (t f s n : Int) (b : Bool) (w : World) (h : Two w0 A R S w) (hi : Inv S kb) (hkb : kb ≤ 50000) (hn : A.C.n7 = R.C.n7) :
    Calls Tryz.prog 11 #[.pointer (some ⟨A.b, 0, none⟩), .pointer (some ⟨R.b, 0, none⟩), .agg #[.int .i64 4, .int .i64 t, .int .i64 f, .int .i64 s, .int .i64 n, .bool b]] w fun e w' => e = .returned (.bool true) ∧ Two w0 A R (S.op ⟨4, t, f, s, n, b⟩) w' := by
  have HT : Hid (Two w0 A R S w) := h
  have HI : Hid (Inv S kb ∧ kb ≤ 50000 ∧ A.C.n7 = R.C.n7) := ⟨hi, hkb, hn⟩
  clear h hi hkb hn
  go_enter Tryz.func11, Tryz.ntmps11
  go_upto_region 1 with fail
  generalize hW : w.alloc _ = W
  have H0 : Hid (Tw w0 A R w.heap.size [.int .i64 4, .int .i64 t, .int .i64 f, .int .i64 s, .int .i64 n, .bool b] [] S S W) := by
    rw [← hW]
    exact HT.out.box [.int .i64 4, .int .i64 t, .int .i64 f, .int .i64 s, .int .i64 n, .bool b]
  clear hW HT
  generalize w.heap.size = ob at *
  have e0 : W.cell? ⟨ob, 0, none⟩ = some (.int .i64 4) := H0.out.own.blk.at 0 rfl
  have HE : Hid (S.op ⟨4, t, f, s, n, b⟩ = S.tick) := by show _ = _; simp [Sp.op]
  go_wp2_with fail
  refine (pk_wants H0.out HI.out.1.bd HI.out.2.1).mono ?_
  rintro e w1 ⟨rfl, t1⟩
  have H1 : Hid (Tw w0 A R ob [.int .i64 4, .int .i64 t, .int .i64 f, .int .i64 s, .int .i64 n, .bool b] [] (S.tick) S w1) := t1
  clear t1 H0 e0
  go_wp2_with fail
  refine (dc_wants HI.out.2.2 H1.out HI.out.1.bd HI.out.2.1).mono ?_
  rintro e w2 ⟨rfl, t2⟩
  have H2 : Hid (Two w0 A R (S.op ⟨4, t, f, s, n, b⟩) w2) := by rw [HE.out]; exact t2.two
  clear t2 H1 HE
  have z1 : (A.wants S == A.wants S) = true := by simp
  go_wp2
  go_ret
  exact ⟨rfl, H2.out⟩
end Go.Proofs.YtahpnnjemjjfhaaGreat

/-
  An operation on both spaces: kind 5.
-/
namespace Go.Proofs.YtahpnnjemjjfhaaGreat
open Go.RowKit

set_option maxHeartbeats 4000000 in
set_option maxRecDepth 20000 in
theorem one_5 {w0 : World} {A : Ad} {R : Ar} {S : Sp} {kb : Nat} (t f s n : Int) (b : Bool) (w : World) (h : Two w0 A R S w) (hi : Inv S kb) (hkb : kb ≤ 50000) (hn : A.C.n7 = R.C.n7) :
    Calls Tryz.prog 11 #[.pointer (some ⟨A.b, 0, none⟩), .pointer (some ⟨R.b, 0, none⟩), .agg #[.int .i64 5, .int .i64 t, .int .i64 f, .int .i64 s, .int .i64 n, .bool b]] w fun e w' => e = .returned (.bool true) ∧ Two w0 A R (S.op ⟨5, t, f, s, n, b⟩) w' := by
  have HT : Hid (Two w0 A R S w) := h
  have HI : Hid (Inv S kb ∧ kb ≤ 50000 ∧ A.C.n7 = R.C.n7) := ⟨hi, hkb, hn⟩
  clear h hi hkb hn
  go_enter Tryz.func11, Tryz.ntmps11
  go_upto_region 1 with fail
  generalize hW : w.alloc _ = W
  have H0 : Hid (Tw w0 A R w.heap.size [.int .i64 5, .int .i64 t, .int .i64 f, .int .i64 s, .int .i64 n, .bool b] [] S S W) := by
    rw [← hW]
    exact HT.out.box [.int .i64 5, .int .i64 t, .int .i64 f, .int .i64 s, .int .i64 n, .bool b]
  clear hW HT
  generalize w.heap.size = ob at *
  have e0 : W.cell? ⟨ob, 0, none⟩ = some (.int .i64 5) := H0.out.own.blk.at 0 rfl
  have HE : Hid (S.op ⟨5, t, f, s, n, b⟩ = S.force) := by show _ = _; simp [Sp.op]
  go_wp2_with fail
  refine (pk_force H0.out HI.out.1.bd HI.out.2.1).mono ?_
  rintro e w1 ⟨rfl, t1⟩
  have H1 : Hid (Tw w0 A R ob [.int .i64 5, .int .i64 t, .int .i64 f, .int .i64 s, .int .i64 n, .bool b] [] (S.force) S w1) := t1
  clear t1 H0 e0
  go_wp2_with fail
  refine (dc_force H1.out HI.out.1.bd HI.out.2.1).mono ?_
  rintro e w2 ⟨rfl, t2⟩
  have H2 : Hid (Two w0 A R (S.op ⟨5, t, f, s, n, b⟩) w2) := by rw [HE.out]; exact t2.two
  clear t2 H1 HE
  go_wp2
  go_ret
  exact ⟨rfl, H2.out⟩
end Go.Proofs.YtahpnnjemjjfhaaGreat

/-
  An operation on both spaces: kind 6.
-/
namespace Go.Proofs.YtahpnnjemjjfhaaGreat
open Go.RowKit

set_option maxHeartbeats 4000000 in
set_option maxRecDepth 20000 in
theorem one_6 {w0 : World} {A : Ad} {R : Ar} {S : Sp} {kb : Nat} (t f s n : Int) (b : Bool) (w : World) (h : Two w0 A R S w) (hi : Inv S kb) (hkb : kb ≤ 50000) (hn : A.C.n7 = R.C.n7) :
    Calls Tryz.prog 11 #[.pointer (some ⟨A.b, 0, none⟩), .pointer (some ⟨R.b, 0, none⟩), .agg #[.int .i64 6, .int .i64 t, .int .i64 f, .int .i64 s, .int .i64 n, .bool b]] w fun e w' => e = .returned (.bool true) ∧ Two w0 A R (S.op ⟨6, t, f, s, n, b⟩) w' := by
  have HT : Hid (Two w0 A R S w) := h
  have HI : Hid (Inv S kb ∧ kb ≤ 50000 ∧ A.C.n7 = R.C.n7) := ⟨hi, hkb, hn⟩
  clear h hi hkb hn
  go_enter Tryz.func11, Tryz.ntmps11
  go_upto_region 1 with fail
  generalize hW : w.alloc _ = W
  have H0 : Hid (Tw w0 A R w.heap.size [.int .i64 6, .int .i64 t, .int .i64 f, .int .i64 s, .int .i64 n, .bool b] [] S S W) := by
    rw [← hW]
    exact HT.out.box [.int .i64 6, .int .i64 t, .int .i64 f, .int .i64 s, .int .i64 n, .bool b]
  clear hW HT
  generalize w.heap.size = ob at *
  have e0 : W.cell? ⟨ob, 0, none⟩ = some (.int .i64 6) := H0.out.own.blk.at 0 rfl
  have HE : Hid (S.op ⟨6, t, f, s, n, b⟩ = S.begin) := by show _ = _; simp [Sp.op]
  go_wp2_with fail
  refine (pk_begin H0.out HI.out.1.bd HI.out.2.1).mono ?_
  rintro e w1 ⟨rfl, t1⟩
  have H1 : Hid (Tw w0 A R ob [.int .i64 6, .int .i64 t, .int .i64 f, .int .i64 s, .int .i64 n, .bool b] [] (S.begin) S w1) := t1
  clear t1 H0 e0
  go_wp2_with fail
  refine (dc_begin H1.out HI.out.1.bd HI.out.2.1).mono ?_
  rintro e w2 ⟨rfl, t2⟩
  have H2 : Hid (Two w0 A R (S.op ⟨6, t, f, s, n, b⟩) w2) := by rw [HE.out]; exact t2.two
  clear t2 H1 HE
  go_wp2
  go_ret
  exact ⟨rfl, H2.out⟩
end Go.Proofs.YtahpnnjemjjfhaaGreat

/-
  An operation on both spaces: kind 7.
-/
namespace Go.Proofs.YtahpnnjemjjfhaaGreat
open Go.RowKit

set_option maxHeartbeats 4000000 in
set_option maxRecDepth 20000 in
theorem one_7 {w0 : World} {A : Ad} {R : Ar} {S : Sp} {kb : Nat} (t f s n : Int) (b : Bool) (w : World) (h : Two w0 A R S w) (hi : Inv S kb) (hkb : kb ≤ 50000) (hn : A.C.n7 = R.C.n7) :
    Calls Tryz.prog 11 #[.pointer (some ⟨A.b, 0, none⟩), .pointer (some ⟨R.b, 0, none⟩), .agg #[.int .i64 7, .int .i64 t, .int .i64 f, .int .i64 s, .int .i64 n, .bool b]] w fun e w' => e = .returned (.bool true) ∧ Two w0 A R (S.op ⟨7, t, f, s, n, b⟩) w' := by
  have HT : Hid (Two w0 A R S w) := h
  have HI : Hid (Inv S kb ∧ kb ≤ 50000 ∧ A.C.n7 = R.C.n7) := ⟨hi, hkb, hn⟩
  clear h hi hkb hn
  go_enter Tryz.func11, Tryz.ntmps11
  go_upto_region 1 with fail
  generalize hW : w.alloc _ = W
  have H0 : Hid (Tw w0 A R w.heap.size [.int .i64 7, .int .i64 t, .int .i64 f, .int .i64 s, .int .i64 n, .bool b] [] S S W) := by
    rw [← hW]
    exact HT.out.box [.int .i64 7, .int .i64 t, .int .i64 f, .int .i64 s, .int .i64 n, .bool b]
  clear hW HT
  generalize w.heap.size = ob at *
  have e0 : W.cell? ⟨ob, 0, none⟩ = some (.int .i64 7) := H0.out.own.blk.at 0 rfl
  have HE : Hid (S.op ⟨7, t, f, s, n, b⟩ = S.turn) := by show _ = _; simp [Sp.op]
  go_wp2_with fail
  refine (pk_turn H0.out HI.out.1.bd HI.out.2.1).mono ?_
  rintro e w1 ⟨rfl, t1⟩
  have H1 : Hid (Tw w0 A R ob [.int .i64 7, .int .i64 t, .int .i64 f, .int .i64 s, .int .i64 n, .bool b] [] (S.turn) S w1) := t1
  clear t1 H0 e0
  go_wp2_with fail
  refine (dc_turn H1.out HI.out.1.bd HI.out.2.1).mono ?_
  rintro e w2 ⟨rfl, t2⟩
  have H2 : Hid (Two w0 A R (S.op ⟨7, t, f, s, n, b⟩) w2) := by rw [HE.out]; exact t2.two
  clear t2 H1 HE
  have z1 : (turns S.K == turns S.K) = true := by simp
  go_wp2
  go_ret
  exact ⟨rfl, H2.out⟩
end Go.Proofs.YtahpnnjemjjfhaaGreat

/-
  An operation on both spaces: kind 8.
-/
namespace Go.Proofs.YtahpnnjemjjfhaaGreat
open Go.RowKit

set_option maxHeartbeats 4000000 in
set_option maxRecDepth 20000 in
theorem one_8 {w0 : World} {A : Ad} {R : Ar} {S : Sp} {kb : Nat} (t f s n : Int) (b : Bool) (w : World) (h : Two w0 A R S w) (hi : Inv S kb) (hkb : kb ≤ 50000) (hn : A.C.n7 = R.C.n7) :
    Calls Tryz.prog 11 #[.pointer (some ⟨A.b, 0, none⟩), .pointer (some ⟨R.b, 0, none⟩), .agg #[.int .i64 8, .int .i64 t, .int .i64 f, .int .i64 s, .int .i64 n, .bool b]] w fun e w' => e = .returned (.bool true) ∧ Two w0 A R (S.op ⟨8, t, f, s, n, b⟩) w' := by
  have HT : Hid (Two w0 A R S w) := h
  have HI : Hid (Inv S kb ∧ kb ≤ 50000 ∧ A.C.n7 = R.C.n7) := ⟨hi, hkb, hn⟩
  clear h hi hkb hn
  go_enter Tryz.func11, Tryz.ntmps11
  go_upto_region 1 with fail
  generalize hW : w.alloc _ = W
  have H0 : Hid (Tw w0 A R w.heap.size [.int .i64 8, .int .i64 t, .int .i64 f, .int .i64 s, .int .i64 n, .bool b] [] S S W) := by
    rw [← hW]
    exact HT.out.box [.int .i64 8, .int .i64 t, .int .i64 f, .int .i64 s, .int .i64 n, .bool b]
  clear hW HT
  generalize w.heap.size = ob at *
  have e0 : W.cell? ⟨ob, 0, none⟩ = some (.int .i64 8) := H0.out.own.blk.at 0 rfl
  have HE : Hid (S.op ⟨8, t, f, s, n, b⟩ = S.doneC) := by show _ = _; simp [Sp.op]
  go_wp2_with fail
  refine (pk_done H0.out HI.out.1.bd HI.out.2.1).mono ?_
  rintro e w1 ⟨rfl, t1⟩
  have H1 : Hid (Tw w0 A R ob [.int .i64 8, .int .i64 t, .int .i64 f, .int .i64 s, .int .i64 n, .bool b] [] (S.doneC) S w1) := t1
  clear t1 H0 e0
  go_wp2_with fail
  refine (dc_done H1.out HI.out.1.bd HI.out.2.1).mono ?_
  rintro e w2 ⟨rfl, t2⟩
  have H2 : Hid (Two w0 A R (S.op ⟨8, t, f, s, n, b⟩) w2) := by rw [HE.out]; exact t2.two
  clear t2 H1 HE
  have z1 : (dones S.K == dones S.K) = true := by simp
  go_wp2
  go_ret
  exact ⟨rfl, H2.out⟩
end Go.Proofs.YtahpnnjemjjfhaaGreat

