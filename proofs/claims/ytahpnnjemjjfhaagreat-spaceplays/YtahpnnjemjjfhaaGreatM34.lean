/-
  The modules One9, One10, One11, one behind another.
-/
import Derived.Test.YtahpnnjemjjfhaaGreatM31
/-
  An operation on both spaces: kind 9.
-/
namespace Go.Proofs.YtahpnnjemjjfhaaGreat
open Go.RowKit

set_option maxHeartbeats 4000000 in
set_option maxRecDepth 20000 in
theorem one_9 {w0 : World} {A : Ad} {R : Ar} {S : Sp} {kb : Nat} (t f s n : Int) (b : Bool) (w : World) (h : Two w0 A R S w) (hi : Inv S kb) (hkb : kb ≤ 50000) (hn : A.C.n7 = R.C.n7) :
    Calls Tryz.prog 11 #[.pointer (some ⟨A.b, 0, none⟩), .pointer (some ⟨R.b, 0, none⟩), .agg #[.int .i64 9, .int .i64 t, .int .i64 f, .int .i64 s, .int .i64 n, .bool b]] w fun e w' => e = .returned (.bool true) ∧ Two w0 A R (S.op ⟨9, t, f, s, n, b⟩) w' := by
  have HT : Hid (Two w0 A R S w) := h
  have HI : Hid (Inv S kb ∧ kb ≤ 50000 ∧ A.C.n7 = R.C.n7) := ⟨hi, hkb, hn⟩
  clear h hi hkb hn
  go_enter Tryz.func11, Tryz.ntmps11
  go_upto_region 1 with fail
  generalize hW : w.alloc _ = W
  have H0 : Hid (Tw w0 A R w.heap.size [.int .i64 9, .int .i64 t, .int .i64 f, .int .i64 s, .int .i64 n, .bool b] [] S S W) := by
    rw [← hW]
    exact HT.out.box [.int .i64 9, .int .i64 t, .int .i64 f, .int .i64 s, .int .i64 n, .bool b]
  clear hW HT
  generalize w.heap.size = ob at *
  have e0 : W.cell? ⟨ob, 0, none⟩ = some (.int .i64 9) := H0.out.own.blk.at 0 rfl
  have HE : Hid (S.op ⟨9, t, f, s, n, b⟩ = S.sweep n b) := by show _ = _; simp [Sp.op]
  obtain ⟨vv, hvv⟩ : ∃ vv, S.sweeps n b = vv := ⟨_, rfl⟩
  obtain ⟨P0, hP0⟩ : ∃ P0 : World → Prop, P0 = fun u => Tw w0 A R ob [.int .i64 9, .int .i64 t, .int .i64 f, .int .i64 s, .int .i64 n, .bool b] [] (S) (S) u := ⟨_, rfl⟩
  obtain ⟨P1, hP1⟩ : ∃ P1 : World → Prop, P1 = fun u => Tw w0 A R ob [.int .i64 9, .int .i64 t, .int .i64 f, .int .i64 s, .int .i64 n, .bool b] [] (S.sweep n b) (S) u := ⟨_, rfl⟩
  obtain ⟨P2, hP2⟩ : ∃ P2 : World → Prop, P2 = fun u => Tw w0 A R ob [.int .i64 9, .int .i64 t, .int .i64 f, .int .i64 s, .int .i64 n, .bool b] [] (S.sweep n b) (S.sweep n b) u := ⟨_, rfl⟩
  have A0 : Hid (∀ u, P0 u → Blk u ob [.int .i64 9, .int .i64 t, .int .i64 f, .int .i64 s, .int .i64 n, .bool b]) := fun u q => by rw [hP0] at q; exact q.own.blk
  have A1 : Hid (∀ u, P1 u → Blk u ob [.int .i64 9, .int .i64 t, .int .i64 f, .int .i64 s, .int .i64 n, .bool b]) := fun u q => by rw [hP1] at q; exact q.own.blk
  have A2 : Hid (∀ u, P2 u → Blk u ob [.int .i64 9, .int .i64 t, .int .i64 f, .int .i64 s, .int .i64 n, .bool b]) := fun u q => by rw [hP2] at q; exact q.own.blk
  have E2 : Hid ((fun u => Tw w0 A R ob [.int .i64 9, .int .i64 t, .int .i64 f, .int .i64 s, .int .i64 n, .bool b] [] (S.sweep n b) (S.sweep n b) u) = P2) := hP2.symm
  have K1 : Hid (∀ u, P0 u → Calls Tryz.prog _ _ u fun e u' => e = .returned (.bool vv) ∧ P1 u') := fun u q => by
    rw [hP0] at q
    rw [hP1, ← hvv]
    exact pk_sweep n b q HI.out.1.bd HI.out.2.1
  have K2 : Hid (∀ u, P1 u → Calls Tryz.prog _ _ u fun e u' => e = .returned (.bool vv) ∧ P2 u') := fun u q => by
    rw [hP1] at q
    rw [hP2, ← hvv]
    exact dc_sweep n b q HI.out.1.bd HI.out.2.1
  have HS : Hid (P0 W.drew) := by rw [hP0]; exact H0.out.still (Kept.refl _).drew
  clear hvv hP0 hP1 hP2 HI
  go_upto_region 23 with fail
  clear e0 H0
  refine wp_region_ghost (G := Unit) (fun ⟨⟩ => [(.pointer (some ⟨A.b, 0, none⟩)), (.pointer (some ⟨ob, 4, none⟩)), (.int .i64 n), (.pointer (some ⟨ob, 5, none⟩)), (.bool b), (.bool vv), (.pointer (some ⟨R.b, 0, none⟩)), (.pointer (some ⟨ob, 4, none⟩)), (.int .i64 n), (.pointer (some ⟨ob, 5, none⟩)), (.bool b), (.bool vv), (.bool true), (.bool true)]) [(6, 13), (104, 0), (105, 1), (106, 2), (107, 3), (108, 4), (109, 5), (110, 6), (111, 7), (112, 8), (113, 9), (114, 10), (115, 11), (116, 12)] (fun ⟨⟩ d u => J3 5 11 (fun u => P0 u) (fun u => P1 u) (fun u => P2 u) d u) (by kernel_rfl) (by kernel_rfl) (by kernel_rfl) (by kernel_rfl) (fun _ => rfl) ?_ ?_ ?_
  · exact ⟨⟨⟩, J3.start HS.out⟩
  · intro i1 o1 ho ng a1 d u hh hj0 hi hd hc
    obtain ⟨⟩ := ng
    have hj : J3 5 11 (fun u => P0 u) (fun u => P1 u) (fun u => P2 u) d u := hj0
    clear hj0
    match i1, ho, hi, hd with
    | 0, ho, hi, hd =>
      simp only [List.getElem?_cons_zero, Option.some.injEq] at ho
      subst ho
      have g0 : a1.tmps[0]? = some (.pointer (some ⟨A.b, 0, none⟩)) := hh.old 0 (by kernel_rfl) rfl
      have HN : Hid (J3 5 11 (fun u => P0 u) (fun u => P1 u) (fun u => P2 u) (done d 0) u) := hj.plain 0 (by decide) (by decide)
      clear hh hd hc hj hi
      refine wpOp_step rfl (fun K hK => ?_)
      go_simp
      exact hK _ _ ⟨⟨⟩, fun _ _ => rfl, by simp [Act.put], HN.out⟩
    | 1, ho, hi, hd =>
      simp only [List.getElem?_cons_succ, List.getElem?_cons_zero, Option.some.injEq] at ho
      subst ho
      have g5 : a1.tmps[5]? = some (.pointer (some ⟨ob, 0, none⟩)) := hh.old 5 (by kernel_rfl) rfl
      have HN : Hid (J3 5 11 (fun u => P0 u) (fun u => P1 u) (fun u => P2 u) (done d 1) u) := hj.plain 1 (by decide) (by decide)
      clear hh hd hc hj hi
      refine wpOp_step rfl (fun K hK => ?_)
      go_simp
      exact hK _ _ ⟨⟨⟩, fun _ _ => rfl, by simp [Act.put], HN.out⟩
    | 2, ho, hi, hd =>
      simp only [List.getElem?_cons_succ, List.getElem?_cons_zero, Option.some.injEq] at ho
      subst ho
      have g105 : a1.tmps[105]? = some (.pointer (some ⟨ob, 4, none⟩)) := hh.did 1 _ 105 rfl rfl (hd { on := 1, ground := .data } (by simp) rfl)
      have cc : Blk u ob [.int .i64 9, .int .i64 t, .int .i64 f, .int .i64 s, .int .i64 n, .bool b] := (hj.any (Q := fun u => Blk u ob [.int .i64 9, .int .i64 t, .int .i64 f, .int .i64 s, .int .i64 n, .bool b]) A0.out A1.out A2.out)
      have c1 := cc.at 4 rfl
      have HN : Hid (J3 5 11 (fun u => P0 u) (fun u => P1 u) (fun u => P2 u) (done d 2) u) := hj.plain 2 (by decide) (by decide)
      clear hh hd hc hj hi
      refine wpOp_step rfl (fun K hK => ?_)
      go_simp
      exact hK _ _ ⟨⟨⟩, fun _ _ => rfl, by simp [Act.put], HN.out⟩
    | 3, ho, hi, hd =>
      simp only [List.getElem?_cons_succ, List.getElem?_cons_zero, Option.some.injEq] at ho
      subst ho
      have g5 : a1.tmps[5]? = some (.pointer (some ⟨ob, 0, none⟩)) := hh.old 5 (by kernel_rfl) rfl
      have HN : Hid (J3 5 11 (fun u => P0 u) (fun u => P1 u) (fun u => P2 u) (done d 3) u) := hj.plain 3 (by decide) (by decide)
      clear hh hd hc hj hi
      refine wpOp_step rfl (fun K hK => ?_)
      go_simp
      exact hK _ _ ⟨⟨⟩, fun _ _ => rfl, by simp [Act.put], HN.out⟩
    | 4, ho, hi, hd =>
      simp only [List.getElem?_cons_succ, List.getElem?_cons_zero, Option.some.injEq] at ho
      subst ho
      have g107 : a1.tmps[107]? = some (.pointer (some ⟨ob, 5, none⟩)) := hh.did 3 _ 107 rfl rfl (hd { on := 3, ground := .data } (by simp) rfl)
      have cc : Blk u ob [.int .i64 9, .int .i64 t, .int .i64 f, .int .i64 s, .int .i64 n, .bool b] := (hj.any (Q := fun u => Blk u ob [.int .i64 9, .int .i64 t, .int .i64 f, .int .i64 s, .int .i64 n, .bool b]) A0.out A1.out A2.out)
      have c1 := cc.at 5 rfl
      have HN : Hid (J3 5 11 (fun u => P0 u) (fun u => P1 u) (fun u => P2 u) (done d 4) u) := hj.plain 4 (by decide) (by decide)
      clear hh hd hc hj hi
      refine wpOp_step rfl (fun K hK => ?_)
      go_simp
      exact hK _ _ ⟨⟨⟩, fun _ _ => rfl, by simp [Act.put], HN.out⟩
    | 5, ho, hi, hd =>
      simp only [List.getElem?_cons_succ, List.getElem?_cons_zero, Option.some.injEq] at ho
      subst ho
      have g104 : a1.tmps[104]? = some (.pointer (some ⟨A.b, 0, none⟩)) := hh.did 0 _ 104 rfl rfl (hd { on := 0, ground := .data } (by simp) rfl)
      have g106 : a1.tmps[106]? = some (.int .i64 n) := hh.did 2 _ 106 rfl rfl (hd { on := 2, ground := .data } (by simp) rfl)
      have g108 : a1.tmps[108]? = some (.bool b) := hh.did 4 _ 108 rfl rfl (hd { on := 4, ground := .data } (by simp) rfl)
      have n11 : d 11 = false := by
        cases q : d 11 with
        | false => rfl
        | true => exact absurd (hc 11 _ rfl q { on := 5, ground := .chain } (by simp) rfl) (by simp [hi])
      have HJ : Hid (J3 5 11 (fun u => P0 u) (fun u => P1 u) (fun u => P2 u) d u) := hj
      have HD : Hid (d 5 = false ∧ d 11 = false) := ⟨hi, n11⟩
      have CA : Hid (Calls _ _ _ _ _) := K1.out u (hj.now hi)
      clear hh hd hc hj hi n11
      refine wpOp_step rfl (fun K hK => ?_)
      go_simp
      refine CA.out.mono ?_
      rintro e u2 ⟨rfl, p1⟩
      exact hK _ _ ⟨⟨⟩, fun _ _ => rfl, by simp [Act.put], HJ.out.turn (by decide) HD.out.1 p1 HD.out.2⟩
    | 6, ho, hi, hd =>
      simp only [List.getElem?_cons_succ, List.getElem?_cons_zero, Option.some.injEq] at ho
      subst ho
      have g1 : a1.tmps[1]? = some (.pointer (some ⟨R.b, 0, none⟩)) := hh.old 1 (by kernel_rfl) rfl
      have HN : Hid (J3 5 11 (fun u => P0 u) (fun u => P1 u) (fun u => P2 u) (done d 6) u) := hj.plain 6 (by decide) (by decide)
      clear hh hd hc hj hi
      refine wpOp_step rfl (fun K hK => ?_)
      go_simp
      exact hK _ _ ⟨⟨⟩, fun _ _ => rfl, by simp [Act.put], HN.out⟩
    | 7, ho, hi, hd =>
      simp only [List.getElem?_cons_succ, List.getElem?_cons_zero, Option.some.injEq] at ho
      subst ho
      have g5 : a1.tmps[5]? = some (.pointer (some ⟨ob, 0, none⟩)) := hh.old 5 (by kernel_rfl) rfl
      have HN : Hid (J3 5 11 (fun u => P0 u) (fun u => P1 u) (fun u => P2 u) (done d 7) u) := hj.plain 7 (by decide) (by decide)
      clear hh hd hc hj hi
      refine wpOp_step rfl (fun K hK => ?_)
      go_simp
      exact hK _ _ ⟨⟨⟩, fun _ _ => rfl, by simp [Act.put], HN.out⟩
    | 8, ho, hi, hd =>
      simp only [List.getElem?_cons_succ, List.getElem?_cons_zero, Option.some.injEq] at ho
      subst ho
      have g111 : a1.tmps[111]? = some (.pointer (some ⟨ob, 4, none⟩)) := hh.did 7 _ 111 rfl rfl (hd { on := 7, ground := .data } (by simp) rfl)
      have cc : Blk u ob [.int .i64 9, .int .i64 t, .int .i64 f, .int .i64 s, .int .i64 n, .bool b] := (hj.any (Q := fun u => Blk u ob [.int .i64 9, .int .i64 t, .int .i64 f, .int .i64 s, .int .i64 n, .bool b]) A0.out A1.out A2.out)
      have c1 := cc.at 4 rfl
      have HN : Hid (J3 5 11 (fun u => P0 u) (fun u => P1 u) (fun u => P2 u) (done d 8) u) := hj.plain 8 (by decide) (by decide)
      clear hh hd hc hj hi
      refine wpOp_step rfl (fun K hK => ?_)
      go_simp
      exact hK _ _ ⟨⟨⟩, fun _ _ => rfl, by simp [Act.put], HN.out⟩
    | 9, ho, hi, hd =>
      simp only [List.getElem?_cons_succ, List.getElem?_cons_zero, Option.some.injEq] at ho
      subst ho
      have g5 : a1.tmps[5]? = some (.pointer (some ⟨ob, 0, none⟩)) := hh.old 5 (by kernel_rfl) rfl
      have HN : Hid (J3 5 11 (fun u => P0 u) (fun u => P1 u) (fun u => P2 u) (done d 9) u) := hj.plain 9 (by decide) (by decide)
      clear hh hd hc hj hi
      refine wpOp_step rfl (fun K hK => ?_)
      go_simp
      exact hK _ _ ⟨⟨⟩, fun _ _ => rfl, by simp [Act.put], HN.out⟩
    | 10, ho, hi, hd =>
      simp only [List.getElem?_cons_succ, List.getElem?_cons_zero, Option.some.injEq] at ho
      subst ho
      have g113 : a1.tmps[113]? = some (.pointer (some ⟨ob, 5, none⟩)) := hh.did 9 _ 113 rfl rfl (hd { on := 9, ground := .data } (by simp) rfl)
      have cc : Blk u ob [.int .i64 9, .int .i64 t, .int .i64 f, .int .i64 s, .int .i64 n, .bool b] := (hj.any (Q := fun u => Blk u ob [.int .i64 9, .int .i64 t, .int .i64 f, .int .i64 s, .int .i64 n, .bool b]) A0.out A1.out A2.out)
      have c1 := cc.at 5 rfl
      have HN : Hid (J3 5 11 (fun u => P0 u) (fun u => P1 u) (fun u => P2 u) (done d 10) u) := hj.plain 10 (by decide) (by decide)
      clear hh hd hc hj hi
      refine wpOp_step rfl (fun K hK => ?_)
      go_simp
      exact hK _ _ ⟨⟨⟩, fun _ _ => rfl, by simp [Act.put], HN.out⟩
    | 11, ho, hi, hd =>
      simp only [List.getElem?_cons_succ, List.getElem?_cons_zero, Option.some.injEq] at ho
      subst ho
      have g110 : a1.tmps[110]? = some (.pointer (some ⟨R.b, 0, none⟩)) := hh.did 6 _ 110 rfl rfl (hd { on := 6, ground := .data } (by simp) rfl)
      have g112 : a1.tmps[112]? = some (.int .i64 n) := hh.did 8 _ 112 rfl rfl (hd { on := 8, ground := .data } (by simp) rfl)
      have g114 : a1.tmps[114]? = some (.bool b) := hh.did 10 _ 114 rfl rfl (hd { on := 10, ground := .data } (by simp) rfl)
      have y5 : d 5 = true := (hd { on := 5, ground := .chain } (by simp) rfl)
      have HJ : Hid (J3 5 11 (fun u => P0 u) (fun u => P1 u) (fun u => P2 u) d u) := hj
      have HD : Hid (d 5 = true) := y5
      have CA : Hid (Calls _ _ _ _ _) := K2.out u (hj.mid y5 hi)
      clear hh hd hc hj hi y5
      refine wpOp_step rfl (fun K hK => ?_)
      go_simp
      refine CA.out.mono ?_
      rintro e u2 ⟨rfl, p2⟩
      exact hK _ _ ⟨⟨⟩, fun _ _ => rfl, by simp [Act.put], HJ.out.turn2 HD.out (by decide) p2⟩
    | 12, ho, hi, hd =>
      simp only [List.getElem?_cons_succ, List.getElem?_cons_zero, Option.some.injEq] at ho
      subst ho
      have g109 : a1.tmps[109]? = some (.bool vv) := hh.did 5 _ 109 rfl rfl (hd { on := 5, ground := .data } (by simp) rfl)
      have g115 : a1.tmps[115]? = some (.bool vv) := hh.did 11 _ 115 rfl rfl (hd { on := 11, ground := .data } (by simp) rfl)
      have zz : (vv == vv) = true := by simp
      have HN : Hid (J3 5 11 (fun u => P0 u) (fun u => P1 u) (fun u => P2 u) (done d 12) u) := hj.plain 12 (by decide) (by decide)
      clear hh hd hc hj hi
      refine wpOp_step rfl (fun K hK => ?_)
      go_simp
      exact hK _ _ ⟨⟨⟩, fun _ _ => rfl, by simp [Act.put], HN.out⟩
    | 13, ho, hi, hd =>
      simp only [List.getElem?_cons_succ, List.getElem?_cons_zero, Option.some.injEq] at ho
      subst ho
      have g116 : a1.tmps[116]? = some (.bool true) := hh.did 12 _ 116 rfl rfl (hd { on := 12, ground := .data } (by simp) rfl)
      have HN : Hid (J3 5 11 (fun u => P0 u) (fun u => P1 u) (fun u => P2 u) (done d 13) u) := hj.plain 13 (by decide) (by decide)
      clear hh hd hc hj hi
      refine wpOp_step rfl (fun K hK => ?_)
      go_simp
      exact hK _ _ ⟨⟨⟩, fun _ _ => rfl, by simp [Act.put], HN.out⟩
    | n + 14, ho, hi, hd => simp at ho
  · intro ng u d hall hj0
    obtain ⟨⟩ := ng
    have hj : J3 5 11 (fun u => P0 u) (fun u => P1 u) (fun u => P2 u) d u := hj0
    clear hj0
    have h2 : Hid (P2 u) := hj.fin (hall 11 (by decide))
    clear hall hj
    refine norm_list' (L' := [_, _, _, _, _, _, _, _, _, _, _, _, _, _, _, _, _, _, _, _, _, _, _, _, _, _, _, _, _, _, _, _, _, _, _, _, _, _, _, _, _, _, _, _, _, _, _, _, _, _, _, _, _, _, _, _, _, _, _, _, _, _, _, _, _, _, _, _, _, _, _, _, _, _, _, _, _, _, _, _, _, _, _, _, _, _, _, _, _, _, _, _, _, _, _, _, _, _, _, _, _, _, _, _, _, _, _, _, _, _, _, _, _, _, _, _, _, _, _, _, _, _, _, _, _, _, _, _, _, _, _, _, _, _, _, _, _, _, _, _, _, _, _, _, _, _, _, _, _, _, _, _, _, _, _, _, _, _, _, _, _, _, _, _, _, _, _, _, _, _, _, _, _, _, _, _, _]) rfl ?_
    rw [← E2.out] at h2
    have H2 : Hid (Two w0 A R (S.op ⟨9, t, f, s, n, b⟩) u) := by rw [HE.out]; exact h2.out.two
    clear h2 HE
    go_wp2
    go_ret
    exact ⟨rfl, H2.out⟩
end Go.Proofs.YtahpnnjemjjfhaaGreat

/-
  An operation on both spaces: kind 10.
-/
namespace Go.Proofs.YtahpnnjemjjfhaaGreat
open Go.RowKit

set_option maxHeartbeats 4000000 in
set_option maxRecDepth 20000 in
theorem one_10 {w0 : World} {A : Ad} {R : Ar} {S : Sp} {kb : Nat} (t f s n : Int) (b : Bool) (w : World) (h : Two w0 A R S w) (hi : Inv S kb) (hkb : kb ≤ 50000) (hn : A.C.n7 = R.C.n7) :
    Calls Tryz.prog 11 #[.pointer (some ⟨A.b, 0, none⟩), .pointer (some ⟨R.b, 0, none⟩), .agg #[.int .i64 10, .int .i64 t, .int .i64 f, .int .i64 s, .int .i64 n, .bool b]] w fun e w' => e = .returned (.bool true) ∧ Two w0 A R (S.op ⟨10, t, f, s, n, b⟩) w' := by
  have HT : Hid (Two w0 A R S w) := h
  have HI : Hid (Inv S kb ∧ kb ≤ 50000 ∧ A.C.n7 = R.C.n7) := ⟨hi, hkb, hn⟩
  clear h hi hkb hn
  go_enter Tryz.func11, Tryz.ntmps11
  go_upto_region 1 with fail
  generalize hW : w.alloc _ = W
  have H0 : Hid (Tw w0 A R w.heap.size [.int .i64 10, .int .i64 t, .int .i64 f, .int .i64 s, .int .i64 n, .bool b] [] S S W) := by
    rw [← hW]
    exact HT.out.box [.int .i64 10, .int .i64 t, .int .i64 f, .int .i64 s, .int .i64 n, .bool b]
  clear hW HT
  generalize w.heap.size = ob at *
  have e0 : W.cell? ⟨ob, 0, none⟩ = some (.int .i64 10) := H0.out.own.blk.at 0 rfl
  have HE : Hid (S.op ⟨10, t, f, s, n, b⟩ = S.end_) := by show _ = _; simp [Sp.op]
  go_wp2_with fail
  refine (pk_end H0.out HI.out.1.bd HI.out.2.1).mono ?_
  rintro e w1 ⟨rfl, t1⟩
  have H1 : Hid (Tw w0 A R ob [.int .i64 10, .int .i64 t, .int .i64 f, .int .i64 s, .int .i64 n, .bool b] [] (S.end_) S w1) := t1
  clear t1 H0 e0
  go_wp2_with fail
  refine (dc_end H1.out HI.out.1.bd HI.out.2.1).mono ?_
  rintro e w2 ⟨rfl, t2⟩
  have H2 : Hid (Two w0 A R (S.op ⟨10, t, f, s, n, b⟩) w2) := by rw [HE.out]; exact t2.two
  clear t2 H1 HE
  go_wp2
  go_ret
  exact ⟨rfl, H2.out⟩
end Go.Proofs.YtahpnnjemjjfhaaGreat

/-
  An operation on both spaces: kind 11.
-/
namespace Go.Proofs.YtahpnnjemjjfhaaGreat
open Go.RowKit

set_option maxHeartbeats 4000000 in
set_option maxRecDepth 20000 in
theorem one_11 {w0 : World} {A : Ad} {R : Ar} {S : Sp} {kb : Nat} (t f s n : Int) (b : Bool) (w : World) (h : Two w0 A R S w) (hi : Inv S kb) (hkb : kb ≤ 50000) (hn : A.C.n7 = R.C.n7) :
    Calls Tryz.prog 11 #[.pointer (some ⟨A.b, 0, none⟩), .pointer (some ⟨R.b, 0, none⟩), .agg #[.int .i64 11, .int .i64 t, .int .i64 f, .int .i64 s, .int .i64 n, .bool b]] w fun e w' => e = .returned (.bool true) ∧ Two w0 A R (S.op ⟨11, t, f, s, n, b⟩) w' := by
  have HT : Hid (Two w0 A R S w) := h
  have HI : Hid (Inv S kb ∧ kb ≤ 50000 ∧ A.C.n7 = R.C.n7) := ⟨hi, hkb, hn⟩
  clear h hi hkb hn
  go_enter Tryz.func11, Tryz.ntmps11
  go_upto_region 1 with fail
  generalize hW : w.alloc _ = W
  have H0 : Hid (Tw w0 A R w.heap.size [.int .i64 11, .int .i64 t, .int .i64 f, .int .i64 s, .int .i64 n, .bool b] [] S S W) := by
    rw [← hW]
    exact HT.out.box [.int .i64 11, .int .i64 t, .int .i64 f, .int .i64 s, .int .i64 n, .bool b]
  clear hW HT
  generalize w.heap.size = ob at *
  have e0 : W.cell? ⟨ob, 0, none⟩ = some (.int .i64 11) := H0.out.own.blk.at 0 rfl
  have HE : Hid (S.op ⟨11, t, f, s, n, b⟩ = S.serve b) := by show _ = _; simp [Sp.op]
  obtain ⟨vv, hvv⟩ : ∃ vv, S.serves = vv := ⟨_, rfl⟩
  obtain ⟨P0, hP0⟩ : ∃ P0 : World → Prop, P0 = fun u => Tw w0 A R ob [.int .i64 11, .int .i64 t, .int .i64 f, .int .i64 s, .int .i64 n, .bool b] [] (S) (S) u := ⟨_, rfl⟩
  obtain ⟨P1, hP1⟩ : ∃ P1 : World → Prop, P1 = fun u => Tw w0 A R ob [.int .i64 11, .int .i64 t, .int .i64 f, .int .i64 s, .int .i64 n, .bool b] [] (S.serve b) (S) u := ⟨_, rfl⟩
  obtain ⟨P2, hP2⟩ : ∃ P2 : World → Prop, P2 = fun u => Tw w0 A R ob [.int .i64 11, .int .i64 t, .int .i64 f, .int .i64 s, .int .i64 n, .bool b] [] (S.serve b) (S.serve b) u := ⟨_, rfl⟩
  have A0 : Hid (∀ u, P0 u → Blk u ob [.int .i64 11, .int .i64 t, .int .i64 f, .int .i64 s, .int .i64 n, .bool b]) := fun u q => by rw [hP0] at q; exact q.own.blk
  have A1 : Hid (∀ u, P1 u → Blk u ob [.int .i64 11, .int .i64 t, .int .i64 f, .int .i64 s, .int .i64 n, .bool b]) := fun u q => by rw [hP1] at q; exact q.own.blk
  have A2 : Hid (∀ u, P2 u → Blk u ob [.int .i64 11, .int .i64 t, .int .i64 f, .int .i64 s, .int .i64 n, .bool b]) := fun u q => by rw [hP2] at q; exact q.own.blk
  have E2 : Hid ((fun u => Tw w0 A R ob [.int .i64 11, .int .i64 t, .int .i64 f, .int .i64 s, .int .i64 n, .bool b] [] (S.serve b) (S.serve b) u) = P2) := hP2.symm
  have K1 : Hid (∀ u, P0 u → Calls Tryz.prog _ _ u fun e u' => e = .returned (.bool vv) ∧ P1 u') := fun u q => by
    rw [hP0] at q
    rw [hP1, ← hvv]
    exact pk_serve b q HI.out.1.bd HI.out.2.1
  have K2 : Hid (∀ u, P1 u → Calls Tryz.prog _ _ u fun e u' => e = .returned (.bool vv) ∧ P2 u') := fun u q => by
    rw [hP1] at q
    rw [hP2, ← hvv]
    exact dc_serve b q HI.out.1.bd HI.out.2.1
  have HS : Hid (P0 W.drew) := by rw [hP0]; exact H0.out.still (Kept.refl _).drew
  clear hvv hP0 hP1 hP2 HI
  go_upto_region 28 with fail
  clear e0 H0
  refine wp_region_ghost (G := Unit) (fun ⟨⟩ => [(.pointer (some ⟨A.b, 0, none⟩)), (.pointer (some ⟨ob, 5, none⟩)), (.bool b), (.bool vv), (.pointer (some ⟨R.b, 0, none⟩)), (.pointer (some ⟨ob, 5, none⟩)), (.bool b), (.bool vv), (.bool true), (.bool true)]) [(6, 9), (125, 0), (126, 1), (127, 2), (128, 3), (129, 4), (130, 5), (131, 6), (132, 7), (133, 8)] (fun ⟨⟩ d u => J3 3 7 (fun u => P0 u) (fun u => P1 u) (fun u => P2 u) d u) (by kernel_rfl) (by kernel_rfl) (by kernel_rfl) (by kernel_rfl) (fun _ => rfl) ?_ ?_ ?_
  · exact ⟨⟨⟩, J3.start HS.out⟩
  · intro i1 o1 ho ng a1 d u hh hj0 hi hd hc
    obtain ⟨⟩ := ng
    have hj : J3 3 7 (fun u => P0 u) (fun u => P1 u) (fun u => P2 u) d u := hj0
    clear hj0
    match i1, ho, hi, hd with
    | 0, ho, hi, hd =>
      simp only [List.getElem?_cons_zero, Option.some.injEq] at ho
      subst ho
      have g0 : a1.tmps[0]? = some (.pointer (some ⟨A.b, 0, none⟩)) := hh.old 0 (by kernel_rfl) rfl
      have HN : Hid (J3 3 7 (fun u => P0 u) (fun u => P1 u) (fun u => P2 u) (done d 0) u) := hj.plain 0 (by decide) (by decide)
      clear hh hd hc hj hi
      refine wpOp_step rfl (fun K hK => ?_)
      go_simp
      exact hK _ _ ⟨⟨⟩, fun _ _ => rfl, by simp [Act.put], HN.out⟩
    | 1, ho, hi, hd =>
      simp only [List.getElem?_cons_succ, List.getElem?_cons_zero, Option.some.injEq] at ho
      subst ho
      have g5 : a1.tmps[5]? = some (.pointer (some ⟨ob, 0, none⟩)) := hh.old 5 (by kernel_rfl) rfl
      have HN : Hid (J3 3 7 (fun u => P0 u) (fun u => P1 u) (fun u => P2 u) (done d 1) u) := hj.plain 1 (by decide) (by decide)
      clear hh hd hc hj hi
      refine wpOp_step rfl (fun K hK => ?_)
      go_simp
      exact hK _ _ ⟨⟨⟩, fun _ _ => rfl, by simp [Act.put], HN.out⟩
    | 2, ho, hi, hd =>
      simp only [List.getElem?_cons_succ, List.getElem?_cons_zero, Option.some.injEq] at ho
      subst ho
      have g126 : a1.tmps[126]? = some (.pointer (some ⟨ob, 5, none⟩)) := hh.did 1 _ 126 rfl rfl (hd { on := 1, ground := .data } (by simp) rfl)
      have cc : Blk u ob [.int .i64 11, .int .i64 t, .int .i64 f, .int .i64 s, .int .i64 n, .bool b] := (hj.any (Q := fun u => Blk u ob [.int .i64 11, .int .i64 t, .int .i64 f, .int .i64 s, .int .i64 n, .bool b]) A0.out A1.out A2.out)
      have c1 := cc.at 5 rfl
      have HN : Hid (J3 3 7 (fun u => P0 u) (fun u => P1 u) (fun u => P2 u) (done d 2) u) := hj.plain 2 (by decide) (by decide)
      clear hh hd hc hj hi
      refine wpOp_step rfl (fun K hK => ?_)
      go_simp
      exact hK _ _ ⟨⟨⟩, fun _ _ => rfl, by simp [Act.put], HN.out⟩
    | 3, ho, hi, hd =>
      simp only [List.getElem?_cons_succ, List.getElem?_cons_zero, Option.some.injEq] at ho
      subst ho
      have g125 : a1.tmps[125]? = some (.pointer (some ⟨A.b, 0, none⟩)) := hh.did 0 _ 125 rfl rfl (hd { on := 0, ground := .data } (by simp) rfl)
      have g127 : a1.tmps[127]? = some (.bool b) := hh.did 2 _ 127 rfl rfl (hd { on := 2, ground := .data } (by simp) rfl)
      have n7 : d 7 = false := by
        cases q : d 7 with
        | false => rfl
        | true => exact absurd (hc 7 _ rfl q { on := 3, ground := .chain } (by simp) rfl) (by simp [hi])
      have HJ : Hid (J3 3 7 (fun u => P0 u) (fun u => P1 u) (fun u => P2 u) d u) := hj
      have HD : Hid (d 3 = false ∧ d 7 = false) := ⟨hi, n7⟩
      have CA : Hid (Calls _ _ _ _ _) := K1.out u (hj.now hi)
      clear hh hd hc hj hi n7
      refine wpOp_step rfl (fun K hK => ?_)
      go_simp
      refine CA.out.mono ?_
      rintro e u2 ⟨rfl, p1⟩
      exact hK _ _ ⟨⟨⟩, fun _ _ => rfl, by simp [Act.put], HJ.out.turn (by decide) HD.out.1 p1 HD.out.2⟩
    | 4, ho, hi, hd =>
      simp only [List.getElem?_cons_succ, List.getElem?_cons_zero, Option.some.injEq] at ho
      subst ho
      have g1 : a1.tmps[1]? = some (.pointer (some ⟨R.b, 0, none⟩)) := hh.old 1 (by kernel_rfl) rfl
      have HN : Hid (J3 3 7 (fun u => P0 u) (fun u => P1 u) (fun u => P2 u) (done d 4) u) := hj.plain 4 (by decide) (by decide)
      clear hh hd hc hj hi
      refine wpOp_step rfl (fun K hK => ?_)
      go_simp
      exact hK _ _ ⟨⟨⟩, fun _ _ => rfl, by simp [Act.put], HN.out⟩
    | 5, ho, hi, hd =>
      simp only [List.getElem?_cons_succ, List.getElem?_cons_zero, Option.some.injEq] at ho
      subst ho
      have g5 : a1.tmps[5]? = some (.pointer (some ⟨ob, 0, none⟩)) := hh.old 5 (by kernel_rfl) rfl
      have HN : Hid (J3 3 7 (fun u => P0 u) (fun u => P1 u) (fun u => P2 u) (done d 5) u) := hj.plain 5 (by decide) (by decide)
      clear hh hd hc hj hi
      refine wpOp_step rfl (fun K hK => ?_)
      go_simp
      exact hK _ _ ⟨⟨⟩, fun _ _ => rfl, by simp [Act.put], HN.out⟩
    | 6, ho, hi, hd =>
      simp only [List.getElem?_cons_succ, List.getElem?_cons_zero, Option.some.injEq] at ho
      subst ho
      have g130 : a1.tmps[130]? = some (.pointer (some ⟨ob, 5, none⟩)) := hh.did 5 _ 130 rfl rfl (hd { on := 5, ground := .data } (by simp) rfl)
      have cc : Blk u ob [.int .i64 11, .int .i64 t, .int .i64 f, .int .i64 s, .int .i64 n, .bool b] := (hj.any (Q := fun u => Blk u ob [.int .i64 11, .int .i64 t, .int .i64 f, .int .i64 s, .int .i64 n, .bool b]) A0.out A1.out A2.out)
      have c1 := cc.at 5 rfl
      have HN : Hid (J3 3 7 (fun u => P0 u) (fun u => P1 u) (fun u => P2 u) (done d 6) u) := hj.plain 6 (by decide) (by decide)
      clear hh hd hc hj hi
      refine wpOp_step rfl (fun K hK => ?_)
      go_simp
      exact hK _ _ ⟨⟨⟩, fun _ _ => rfl, by simp [Act.put], HN.out⟩
    | 7, ho, hi, hd =>
      simp only [List.getElem?_cons_succ, List.getElem?_cons_zero, Option.some.injEq] at ho
      subst ho
      have g129 : a1.tmps[129]? = some (.pointer (some ⟨R.b, 0, none⟩)) := hh.did 4 _ 129 rfl rfl (hd { on := 4, ground := .data } (by simp) rfl)
      have g131 : a1.tmps[131]? = some (.bool b) := hh.did 6 _ 131 rfl rfl (hd { on := 6, ground := .data } (by simp) rfl)
      have y3 : d 3 = true := (hd { on := 3, ground := .chain } (by simp) rfl)
      have HJ : Hid (J3 3 7 (fun u => P0 u) (fun u => P1 u) (fun u => P2 u) d u) := hj
      have HD : Hid (d 3 = true) := y3
      have CA : Hid (Calls _ _ _ _ _) := K2.out u (hj.mid y3 hi)
      clear hh hd hc hj hi y3
      refine wpOp_step rfl (fun K hK => ?_)
      go_simp
      refine CA.out.mono ?_
      rintro e u2 ⟨rfl, p2⟩
      exact hK _ _ ⟨⟨⟩, fun _ _ => rfl, by simp [Act.put], HJ.out.turn2 HD.out (by decide) p2⟩
    | 8, ho, hi, hd =>
      simp only [List.getElem?_cons_succ, List.getElem?_cons_zero, Option.some.injEq] at ho
      subst ho
      have g128 : a1.tmps[128]? = some (.bool vv) := hh.did 3 _ 128 rfl rfl (hd { on := 3, ground := .data } (by simp) rfl)
      have g132 : a1.tmps[132]? = some (.bool vv) := hh.did 7 _ 132 rfl rfl (hd { on := 7, ground := .data } (by simp) rfl)
      have zz : (vv == vv) = true := by simp
      have HN : Hid (J3 3 7 (fun u => P0 u) (fun u => P1 u) (fun u => P2 u) (done d 8) u) := hj.plain 8 (by decide) (by decide)
      clear hh hd hc hj hi
      refine wpOp_step rfl (fun K hK => ?_)
      go_simp
      exact hK _ _ ⟨⟨⟩, fun _ _ => rfl, by simp [Act.put], HN.out⟩
    | 9, ho, hi, hd =>
      simp only [List.getElem?_cons_succ, List.getElem?_cons_zero, Option.some.injEq] at ho
      subst ho
      have g133 : a1.tmps[133]? = some (.bool true) := hh.did 8 _ 133 rfl rfl (hd { on := 8, ground := .data } (by simp) rfl)
      have HN : Hid (J3 3 7 (fun u => P0 u) (fun u => P1 u) (fun u => P2 u) (done d 9) u) := hj.plain 9 (by decide) (by decide)
      clear hh hd hc hj hi
      refine wpOp_step rfl (fun K hK => ?_)
      go_simp
      exact hK _ _ ⟨⟨⟩, fun _ _ => rfl, by simp [Act.put], HN.out⟩
    | n + 10, ho, hi, hd => simp at ho
  · intro ng u d hall hj0
    obtain ⟨⟩ := ng
    have hj : J3 3 7 (fun u => P0 u) (fun u => P1 u) (fun u => P2 u) d u := hj0
    clear hj0
    have h2 : Hid (P2 u) := hj.fin (hall 7 (by decide))
    clear hall hj
    refine norm_list' (L' := [_, _, _, _, _, _, _, _, _, _, _, _, _, _, _, _, _, _, _, _, _, _, _, _, _, _, _, _, _, _, _, _, _, _, _, _, _, _, _, _, _, _, _, _, _, _, _, _, _, _, _, _, _, _, _, _, _, _, _, _, _, _, _, _, _, _, _, _, _, _, _, _, _, _, _, _, _, _, _, _, _, _, _, _, _, _, _, _, _, _, _, _, _, _, _, _, _, _, _, _, _, _, _, _, _, _, _, _, _, _, _, _, _, _, _, _, _, _, _, _, _, _, _, _, _, _, _, _, _, _, _, _, _, _, _, _, _, _, _, _, _, _, _, _, _, _, _, _, _, _, _, _, _, _, _, _, _, _, _, _, _, _, _, _, _, _, _, _, _, _, _, _, _, _, _, _, _]) rfl ?_
    rw [← E2.out] at h2
    have H2 : Hid (Two w0 A R (S.op ⟨11, t, f, s, n, b⟩) u) := by rw [HE.out]; exact h2.out.two
    clear h2 HE
    go_wp2
    go_ret
    exact ⟨rfl, H2.out⟩
end Go.Proofs.YtahpnnjemjjfhaaGreat

