/-
  The modules One12, Back21, one behind another.
-/
import Derived.Test.YtahpnnjemjjfhaaGreatM11
import Derived.Test.YtahpnnjemjjfhaaGreatM31
/-
  An operation on both spaces: kind 12.
-/
namespace Go.Proofs.YtahpnnjemjjfhaaGreat
open Go.RowKit

set_option maxHeartbeats 4000000 in
set_option maxRecDepth 20000 in
theorem one_12 {w0 : World} {A : Ad} {R : Ar} {S : Sp} {kb : Nat} (t f s n : Int) (b : Bool) (w : World) (h : Two w0 A R S w) (hi : Inv S kb) (hkb : kb ≤ 50000) (hn : A.C.n7 = R.C.n7) :
    Calls Tryz.prog 11 #[.pointer (some ⟨A.b, 0, none⟩), .pointer (some ⟨R.b, 0, none⟩), .agg #[.int .i64 12, .int .i64 t, .int .i64 f, .int .i64 s, .int .i64 n, .bool b]] w fun e w' => e = .returned (.bool true) ∧ Two w0 A R (S.op ⟨12, t, f, s, n, b⟩) w' := by
  have HT : Hid (Two w0 A R S w) := h
  have HI : Hid (Inv S kb ∧ kb ≤ 50000 ∧ A.C.n7 = R.C.n7) := ⟨hi, hkb, hn⟩
  clear h hi hkb hn
  go_enter Tryz.func11, Tryz.ntmps11
  go_upto_region 1 with fail
  generalize hW : w.alloc _ = W
  have H0 : Hid (Tw w0 A R w.heap.size [.int .i64 12, .int .i64 t, .int .i64 f, .int .i64 s, .int .i64 n, .bool b] [] S S W) := by
    rw [← hW]
    exact HT.out.box [.int .i64 12, .int .i64 t, .int .i64 f, .int .i64 s, .int .i64 n, .bool b]
  clear hW HT
  generalize w.heap.size = ob at *
  have e0 : W.cell? ⟨ob, 0, none⟩ = some (.int .i64 12) := H0.out.own.blk.at 0 rfl
  have HE : Hid (S.op ⟨12, t, f, s, n, b⟩ = { S with K := skipS S.K n }) := by show _ = _; simp [Sp.op]
  obtain ⟨vv, hvv⟩ : ∃ vv, skips S.K n = vv := ⟨_, rfl⟩
  obtain ⟨P0, hP0⟩ : ∃ P0 : World → Prop, P0 = fun u => Tw w0 A R ob [.int .i64 12, .int .i64 t, .int .i64 f, .int .i64 s, .int .i64 n, .bool b] [] (S) (S) u := ⟨_, rfl⟩
  obtain ⟨P1, hP1⟩ : ∃ P1 : World → Prop, P1 = fun u => Tw w0 A R ob [.int .i64 12, .int .i64 t, .int .i64 f, .int .i64 s, .int .i64 n, .bool b] [] ({ S with K := skipS S.K n }) (S) u := ⟨_, rfl⟩
  obtain ⟨P2, hP2⟩ : ∃ P2 : World → Prop, P2 = fun u => Tw w0 A R ob [.int .i64 12, .int .i64 t, .int .i64 f, .int .i64 s, .int .i64 n, .bool b] [] ({ S with K := skipS S.K n }) ({ S with K := skipS S.K n }) u := ⟨_, rfl⟩
  have A0 : Hid (∀ u, P0 u → Blk u ob [.int .i64 12, .int .i64 t, .int .i64 f, .int .i64 s, .int .i64 n, .bool b]) := fun u q => by rw [hP0] at q; exact q.own.blk
  have A1 : Hid (∀ u, P1 u → Blk u ob [.int .i64 12, .int .i64 t, .int .i64 f, .int .i64 s, .int .i64 n, .bool b]) := fun u q => by rw [hP1] at q; exact q.own.blk
  have A2 : Hid (∀ u, P2 u → Blk u ob [.int .i64 12, .int .i64 t, .int .i64 f, .int .i64 s, .int .i64 n, .bool b]) := fun u q => by rw [hP2] at q; exact q.own.blk
  have B0 : Hid (∀ u, P0 u → u.cell? ⟨R.b, 14, none⟩ = some (.pointer (some ⟨R.kb, 0, none⟩))) := fun u q => by rw [hP0] at q; exact q.c14
  have B1 : Hid (∀ u, P1 u → u.cell? ⟨R.b, 14, none⟩ = some (.pointer (some ⟨R.kb, 0, none⟩))) := fun u q => by rw [hP1] at q; exact q.c14
  have B2 : Hid (∀ u, P2 u → u.cell? ⟨R.b, 14, none⟩ = some (.pointer (some ⟨R.kb, 0, none⟩))) := fun u q => by rw [hP2] at q; exact q.c14
  have E2 : Hid ((fun u => Tw w0 A R ob [.int .i64 12, .int .i64 t, .int .i64 f, .int .i64 s, .int .i64 n, .bool b] [] ({ S with K := skipS S.K n }) ({ S with K := skipS S.K n }) u) = P2) := hP2.symm
  have K0 : Hid (∀ u, P0 u → Calls Tryz.prog _ _ u fun e u' => e = .returned (.pointer (some ⟨A.kb, 0, none⟩)) ∧ u' = u) := fun u q => by
    rw [hP0] at q
    exact tw_coil q
  have K1 : Hid (∀ u, P0 u → Calls Tryz.prog _ _ u fun e u' => e = .returned (.bool vv) ∧ P1 u') := fun u q => by
    rw [hP0] at q
    rw [hP1, ← hvv]
    exact pk_skip n q
  have K2 : Hid (∀ u, P1 u → Calls Tryz.prog _ _ u fun e u' => e = .returned (.bool vv) ∧ P2 u') := fun u q => by
    rw [hP1] at q
    rw [hP2, ← hvv]
    exact dc_skip n q
  have HS : Hid (P0 W.drew) := by rw [hP0]; exact H0.out.still (Kept.refl _).drew
  clear hvv hP0 hP1 hP2 HI
  go_upto_region 30 with fail
  clear e0 H0
  refine wp_region_ghost (G := Unit) (fun ⟨⟩ => [(.pointer (some ⟨A.b, 0, none⟩)), (.pointer (some ⟨A.kb, 0, none⟩)), (.pointer (some ⟨ob, 4, none⟩)), (.int .i64 n), (.bool vv), (.pointer (some ⟨R.b, 0, none⟩)), (.pointer (some ⟨R.b, 0, none⟩)), (.pointer (some ⟨R.b, 14, none⟩)), (.pointer (some ⟨R.kb, 0, none⟩)), (.pointer (some ⟨ob, 4, none⟩)), (.int .i64 n), (.bool vv), (.bool true), (.bool true)]) [(6, 13), (136, 0), (137, 1), (138, 2), (139, 3), (140, 4), (141, 5), (142, 6), (143, 7), (144, 8), (145, 9), (146, 10), (147, 11), (148, 12)] (fun ⟨⟩ d u => J3 4 11 (fun u => P0 u) (fun u => P1 u) (fun u => P2 u) d u) (by kernel_rfl) (by kernel_rfl) (by kernel_rfl) (by kernel_rfl) (fun _ => rfl) ?_ ?_ ?_
  · exact ⟨⟨⟩, J3.start HS.out⟩
  · intro i1 o1 ho ng a1 d u hh hj0 hi hd hc
    obtain ⟨⟩ := ng
    have hj : J3 4 11 (fun u => P0 u) (fun u => P1 u) (fun u => P2 u) d u := hj0
    clear hj0
    match i1, ho, hi, hd with
    | 0, ho, hi, hd =>
      simp only [List.getElem?_cons_zero, Option.some.injEq] at ho
      subst ho
      have g0 : a1.tmps[0]? = some (.pointer (some ⟨A.b, 0, none⟩)) := hh.old 0 (by kernel_rfl) rfl
      have HN : Hid (J3 4 11 (fun u => P0 u) (fun u => P1 u) (fun u => P2 u) (done d 0) u) := hj.plain 0 (by decide) (by decide)
      clear hh hd hc hj hi
      refine wpOp_step rfl (fun K hK => ?_)
      go_simp
      exact hK _ _ ⟨⟨⟩, fun _ _ => rfl, by simp [Act.put], HN.out⟩
    | 1, ho, hi, hd =>
      simp only [List.getElem?_cons_succ, List.getElem?_cons_zero, Option.some.injEq] at ho
      subst ho
      have g136 : a1.tmps[136]? = some (.pointer (some ⟨A.b, 0, none⟩)) := hh.did 0 _ 136 rfl rfl (hd { on := 0, ground := .data } (by simp) rfl)
      have n4 : d 4 = false := by
        cases q : d 4 with
        | false => rfl
        | true => exact absurd (hc 4 _ rfl q { on := 1, ground := .data } (by simp) rfl) (by simp [hi])
      have CA : Hid (Calls _ _ _ _ _) := K0.out u (hj.now n4)
      have HN : Hid (J3 4 11 (fun u => P0 u) (fun u => P1 u) (fun u => P2 u) (done d 1) u) := hj.plain 1 (by decide) (by decide)
      clear hh hd hc hj hi n4
      refine wpOp_step rfl (fun K hK => ?_)
      go_simp
      refine CA.out.mono ?_
      rintro e u2 ⟨rfl, rfl⟩
      exact hK _ _ ⟨⟨⟩, fun _ _ => rfl, by simp [Act.put], HN.out⟩
    | 2, ho, hi, hd =>
      simp only [List.getElem?_cons_succ, List.getElem?_cons_zero, Option.some.injEq] at ho
      subst ho
      have g5 : a1.tmps[5]? = some (.pointer (some ⟨ob, 0, none⟩)) := hh.old 5 (by kernel_rfl) rfl
      have HN : Hid (J3 4 11 (fun u => P0 u) (fun u => P1 u) (fun u => P2 u) (done d 2) u) := hj.plain 2 (by decide) (by decide)
      clear hh hd hc hj hi
      refine wpOp_step rfl (fun K hK => ?_)
      go_simp
      exact hK _ _ ⟨⟨⟩, fun _ _ => rfl, by simp [Act.put], HN.out⟩
    | 3, ho, hi, hd =>
      simp only [List.getElem?_cons_succ, List.getElem?_cons_zero, Option.some.injEq] at ho
      subst ho
      have g138 : a1.tmps[138]? = some (.pointer (some ⟨ob, 4, none⟩)) := hh.did 2 _ 138 rfl rfl (hd { on := 2, ground := .data } (by simp) rfl)
      have cc : Blk u ob [.int .i64 12, .int .i64 t, .int .i64 f, .int .i64 s, .int .i64 n, .bool b] := (hj.any (Q := fun u => Blk u ob [.int .i64 12, .int .i64 t, .int .i64 f, .int .i64 s, .int .i64 n, .bool b]) A0.out A1.out A2.out)
      have c1 := cc.at 4 rfl
      have HN : Hid (J3 4 11 (fun u => P0 u) (fun u => P1 u) (fun u => P2 u) (done d 3) u) := hj.plain 3 (by decide) (by decide)
      clear hh hd hc hj hi
      refine wpOp_step rfl (fun K hK => ?_)
      go_simp
      exact hK _ _ ⟨⟨⟩, fun _ _ => rfl, by simp [Act.put], HN.out⟩
    | 4, ho, hi, hd =>
      simp only [List.getElem?_cons_succ, List.getElem?_cons_zero, Option.some.injEq] at ho
      subst ho
      have g137 : a1.tmps[137]? = some (.pointer (some ⟨A.kb, 0, none⟩)) := hh.did 1 _ 137 rfl rfl (hd { on := 1, ground := .data } (by simp) rfl)
      have g139 : a1.tmps[139]? = some (.int .i64 n) := hh.did 3 _ 139 rfl rfl (hd { on := 3, ground := .data } (by simp) rfl)
      have n11 : d 11 = false := by
        cases q : d 11 with
        | false => rfl
        | true => exact absurd (hc 11 _ rfl q { on := 4, ground := .chain } (by simp) rfl) (by simp [hi])
      have HJ : Hid (J3 4 11 (fun u => P0 u) (fun u => P1 u) (fun u => P2 u) d u) := hj
      have HD : Hid (d 4 = false ∧ d 11 = false) := ⟨hi, n11⟩
      have CA : Hid (Calls _ _ _ _ _) := K1.out u (hj.now hi)
      clear hh hd hc hj hi n11
      refine wpOp_step rfl (fun K hK => ?_)
      go_simp
      refine CA.out.mono ?_
      rintro e u2 ⟨rfl, p1⟩
      exact hK _ _ ⟨⟨⟩, fun _ _ => rfl, by simp [Act.put], HJ.out.turn (by decide) HD.out.1 p1 HD.out.2⟩
    | 5, ho, hi, hd =>
      simp only [List.getElem?_cons_succ, List.getElem?_cons_zero, Option.some.injEq] at ho
      subst ho
      have g1 : a1.tmps[1]? = some (.pointer (some ⟨R.b, 0, none⟩)) := hh.old 1 (by kernel_rfl) rfl
      have HN : Hid (J3 4 11 (fun u => P0 u) (fun u => P1 u) (fun u => P2 u) (done d 5) u) := hj.plain 5 (by decide) (by decide)
      clear hh hd hc hj hi
      refine wpOp_step rfl (fun K hK => ?_)
      go_simp
      exact hK _ _ ⟨⟨⟩, fun _ _ => rfl, by simp [Act.put], HN.out⟩
    | 6, ho, hi, hd =>
      simp only [List.getElem?_cons_succ, List.getElem?_cons_zero, Option.some.injEq] at ho
      subst ho
      have g141 : a1.tmps[141]? = some (.pointer (some ⟨R.b, 0, none⟩)) := hh.did 5 _ 141 rfl rfl (hd { on := 5, ground := .data } (by simp) rfl)
      have HN : Hid (J3 4 11 (fun u => P0 u) (fun u => P1 u) (fun u => P2 u) (done d 6) u) := hj.plain 6 (by decide) (by decide)
      clear hh hd hc hj hi
      refine wpOp_step rfl (fun K hK => ?_)
      go_simp
      exact hK _ _ ⟨⟨⟩, fun _ _ => rfl, by simp [Act.put], HN.out⟩
    | 7, ho, hi, hd =>
      simp only [List.getElem?_cons_succ, List.getElem?_cons_zero, Option.some.injEq] at ho
      subst ho
      have g142 : a1.tmps[142]? = some (.pointer (some ⟨R.b, 0, none⟩)) := hh.did 6 _ 142 rfl rfl (hd { on := 6, ground := .data } (by simp) rfl)
      have HN : Hid (J3 4 11 (fun u => P0 u) (fun u => P1 u) (fun u => P2 u) (done d 7) u) := hj.plain 7 (by decide) (by decide)
      clear hh hd hc hj hi
      refine wpOp_step rfl (fun K hK => ?_)
      go_simp
      exact hK _ _ ⟨⟨⟩, fun _ _ => rfl, by simp [Act.put], HN.out⟩
    | 8, ho, hi, hd =>
      simp only [List.getElem?_cons_succ, List.getElem?_cons_zero, Option.some.injEq] at ho
      subst ho
      have g143 : a1.tmps[143]? = some (.pointer (some ⟨R.b, 14, none⟩)) := hh.did 7 _ 143 rfl rfl (hd { on := 7, ground := .data } (by simp) rfl)
      have c1 := hj.any (Q := fun u => u.cell? ⟨R.b, 14, none⟩ = some (.pointer (some ⟨R.kb, 0, none⟩))) B0.out B1.out B2.out
      have HN : Hid (J3 4 11 (fun u => P0 u) (fun u => P1 u) (fun u => P2 u) (done d 8) u) := hj.plain 8 (by decide) (by decide)
      clear hh hd hc hj hi
      refine wpOp_step rfl (fun K hK => ?_)
      go_simp
      exact hK _ _ ⟨⟨⟩, fun _ _ => rfl, by simp [Act.put], HN.out⟩
    | 9, ho, hi, hd =>
      simp only [List.getElem?_cons_succ, List.getElem?_cons_zero, Option.some.injEq] at ho
      subst ho
      have g5 : a1.tmps[5]? = some (.pointer (some ⟨ob, 0, none⟩)) := hh.old 5 (by kernel_rfl) rfl
      have HN : Hid (J3 4 11 (fun u => P0 u) (fun u => P1 u) (fun u => P2 u) (done d 9) u) := hj.plain 9 (by decide) (by decide)
      clear hh hd hc hj hi
      refine wpOp_step rfl (fun K hK => ?_)
      go_simp
      exact hK _ _ ⟨⟨⟩, fun _ _ => rfl, by simp [Act.put], HN.out⟩
    | 10, ho, hi, hd =>
      simp only [List.getElem?_cons_succ, List.getElem?_cons_zero, Option.some.injEq] at ho
      subst ho
      have g145 : a1.tmps[145]? = some (.pointer (some ⟨ob, 4, none⟩)) := hh.did 9 _ 145 rfl rfl (hd { on := 9, ground := .data } (by simp) rfl)
      have cc : Blk u ob [.int .i64 12, .int .i64 t, .int .i64 f, .int .i64 s, .int .i64 n, .bool b] := (hj.any (Q := fun u => Blk u ob [.int .i64 12, .int .i64 t, .int .i64 f, .int .i64 s, .int .i64 n, .bool b]) A0.out A1.out A2.out)
      have c1 := cc.at 4 rfl
      have HN : Hid (J3 4 11 (fun u => P0 u) (fun u => P1 u) (fun u => P2 u) (done d 10) u) := hj.plain 10 (by decide) (by decide)
      clear hh hd hc hj hi
      refine wpOp_step rfl (fun K hK => ?_)
      go_simp
      exact hK _ _ ⟨⟨⟩, fun _ _ => rfl, by simp [Act.put], HN.out⟩
    | 11, ho, hi, hd =>
      simp only [List.getElem?_cons_succ, List.getElem?_cons_zero, Option.some.injEq] at ho
      subst ho
      have g144 : a1.tmps[144]? = some (.pointer (some ⟨R.kb, 0, none⟩)) := hh.did 8 _ 144 rfl rfl (hd { on := 8, ground := .data } (by simp) rfl)
      have g146 : a1.tmps[146]? = some (.int .i64 n) := hh.did 10 _ 146 rfl rfl (hd { on := 10, ground := .data } (by simp) rfl)
      have y4 : d 4 = true := (hd { on := 4, ground := .chain } (by simp) rfl)
      have HJ : Hid (J3 4 11 (fun u => P0 u) (fun u => P1 u) (fun u => P2 u) d u) := hj
      have HD : Hid (d 4 = true) := y4
      have CA : Hid (Calls _ _ _ _ _) := K2.out u (hj.mid y4 hi)
      clear hh hd hc hj hi y4
      refine wpOp_step rfl (fun K hK => ?_)
      go_simp
      refine CA.out.mono ?_
      rintro e u2 ⟨rfl, p2⟩
      exact hK _ _ ⟨⟨⟩, fun _ _ => rfl, by simp [Act.put], HJ.out.turn2 HD.out (by decide) p2⟩
    | 12, ho, hi, hd =>
      simp only [List.getElem?_cons_succ, List.getElem?_cons_zero, Option.some.injEq] at ho
      subst ho
      have g140 : a1.tmps[140]? = some (.bool vv) := hh.did 4 _ 140 rfl rfl (hd { on := 4, ground := .data } (by simp) rfl)
      have g147 : a1.tmps[147]? = some (.bool vv) := hh.did 11 _ 147 rfl rfl (hd { on := 11, ground := .data } (by simp) rfl)
      have zz : (vv == vv) = true := by simp
      have HN : Hid (J3 4 11 (fun u => P0 u) (fun u => P1 u) (fun u => P2 u) (done d 12) u) := hj.plain 12 (by decide) (by decide)
      clear hh hd hc hj hi
      refine wpOp_step rfl (fun K hK => ?_)
      go_simp
      exact hK _ _ ⟨⟨⟩, fun _ _ => rfl, by simp [Act.put], HN.out⟩
    | 13, ho, hi, hd =>
      simp only [List.getElem?_cons_succ, List.getElem?_cons_zero, Option.some.injEq] at ho
      subst ho
      have g148 : a1.tmps[148]? = some (.bool true) := hh.did 12 _ 148 rfl rfl (hd { on := 12, ground := .data } (by simp) rfl)
      have HN : Hid (J3 4 11 (fun u => P0 u) (fun u => P1 u) (fun u => P2 u) (done d 13) u) := hj.plain 13 (by decide) (by decide)
      clear hh hd hc hj hi
      refine wpOp_step rfl (fun K hK => ?_)
      go_simp
      exact hK _ _ ⟨⟨⟩, fun _ _ => rfl, by simp [Act.put], HN.out⟩
    | n + 14, ho, hi, hd => simp at ho
  · intro ng u d hall hj0
    obtain ⟨⟩ := ng
    have hj : J3 4 11 (fun u => P0 u) (fun u => P1 u) (fun u => P2 u) d u := hj0
    clear hj0
    have h2 : Hid (P2 u) := hj.fin (hall 11 (by decide))
    clear hall hj
    refine norm_list' (L' := [_, _, _, _, _, _, _, _, _, _, _, _, _, _, _, _, _, _, _, _, _, _, _, _, _, _, _, _, _, _, _, _, _, _, _, _, _, _, _, _, _, _, _, _, _, _, _, _, _, _, _, _, _, _, _, _, _, _, _, _, _, _, _, _, _, _, _, _, _, _, _, _, _, _, _, _, _, _, _, _, _, _, _, _, _, _, _, _, _, _, _, _, _, _, _, _, _, _, _, _, _, _, _, _, _, _, _, _, _, _, _, _, _, _, _, _, _, _, _, _, _, _, _, _, _, _, _, _, _, _, _, _, _, _, _, _, _, _, _, _, _, _, _, _, _, _, _, _, _, _, _, _, _, _, _, _, _, _, _, _, _, _, _, _, _, _, _, _, _, _, _, _, _, _, _, _, _]) rfl ?_
    rw [← E2.out] at h2
    have H2 : Hid (Two w0 A R (S.op ⟨12, t, f, s, n, b⟩) u) := by rw [HE.out]; exact h2.out.two
    clear h2 HE
    go_wp2
    go_ret
    exact ⟨rfl, H2.out⟩
end Go.Proofs.YtahpnnjemjjfhaaGreat

/-
  As Mix and Ghost21, for regions that hold edges which don't bind where the order is drawn.
-/
namespace Go.Proofs.YtahpnnjemjjfhaaGreat
open Go.RowKit

/-- Each operation waits for earlier ones alone, as far as edges bind. -/
def backC (ops : Array Oper) : Bool := (List.range ops.size).all fun i => match ops[i]? with
  | some o => o.after.all fun e => !Region.binds .any e || decide (e.on < i)
  | none => false

theorem backC_spec {ops : Array Oper} (h : backC ops = true) {i : Nat} {o : Oper} (ho : ops[i]? = some o) {e : Edge} (he : e ∈ o.after) (hb : Region.binds .any e = true) : e.on < i := by
  have hi : i < ops.size := (Array.getElem?_eq_some_iff.1 ho).1
  have h1 := List.all_eq_true.1 h i (List.mem_range.2 hi)
  simp only [ho] at h1
  have h2 := Array.all_eq_true'.1 h1 e he
  simpa [hb] using h2

theorem listed_of_readyC {ops : Array Oper} (hb : backC ops = true) {listed : Array Bool} (hs : listed.size = ops.size) (hr : Region.ready .any ops listed = []) : ∀ n i, i < n → i < ops.size → listed.getD i false = true := by
  intro n
  induction n with
  | zero => intro i hi; omega
  | succ n ih =>
    intro i hi hio
    by_cases hin : i < n
    · exact ih i hin hio
    · obtain rfl : i = n := by omega
      cases hl : listed.getD i false with
      | true => rfl
      | false =>
        have hu : listed.getD i true = false := by
          have : i < listed.size := by omega
          simp [this] at hl ⊢
          exact hl
        have : i ∈ Region.ready .any ops listed := mem_ready.2 ⟨hu, _, Array.getElem?_eq_getElem hio, fun e he hq => ih e.on (backC_spec hb (Array.getElem?_eq_getElem hio) he hq) (by have := backC_spec hb (Array.getElem?_eq_getElem hio) he hq; omega)⟩
        rw [hr] at this
        cases this

theorem wpAny_mixC {P : Program} {l : List Oper} {Q : Exit → Act → World → Prop} {a0 : Act} {J : (Nat → Bool) → List Value → World → Prop} (hb : backC l.toArray = true) (hn : slotsB a0.tmps.size l = true)
    (step : ∀ i o, l[i]? = some o → ∀ a d vals u, vals.length = l.length → Held a0 a l d vals → J d vals u → d i = false → (∀ e ∈ o.after, Region.binds .any e = true → d e.on = true) →
      wpOp P l.toArray Q i (fun a' w' => ∃ v, a' = a.put o.dst v ∧ J (done d i) (vals.set i v) w') a u)
    (fin : ∀ a u d vals, vals.length = l.length → (∀ i, i < l.length → d i = true) → Held a0 a l d vals → J d vals u → Q .normal a u) :
    ∀ (fuel : Nat) (listed : Array Bool) (a : Act) (u : World) (d : Nat → Bool) (vals : List Value), vals.length = l.length → listed.size = l.length → listed.toList.countP (fun b => !b) ≤ fuel → (∀ i, i < l.length → d i = listed.getD i false) → Held a0 a l d vals → J d vals u →
      wpAny P .any l.toArray Q fuel listed a u := by
  intro fuel
  induction fuel with
  | zero =>
    intro listed a u d vals hv hs hc hd hh hj
    have hall : ∀ i, i < l.length → listed.getD i false = true := fun i hi => by
      have h0 : listed.toList.countP (fun b => !b) = 0 := by omega
      have hi' : i < listed.size := by omega
      have := List.countP_eq_zero.1 h0 listed[i] (by simp)
      simpa [hi'] using this
    refine ⟨?_, fin a u d vals hv (fun i hi => (hd i hi).trans (hall i hi)) hh hj⟩
    apply List.eq_nil_iff_forall_not_mem.2
    intro j hj'
    obtain ⟨h1, o, ho, _⟩ := mem_ready.1 hj'
    have hjo : j < l.length := by simpa using (Array.getElem?_eq_some_iff.1 ho).1
    have h2 := hall j hjo
    have hj'' : j < listed.size := by omega
    simp [hj''] at h1 h2
    rw [h1] at h2
    cases h2
  | succ fuel ih =>
    intro listed a u d vals hv hs hc hd hh hj
    refine ⟨fun hr => fin a u d vals hv (fun i hi => (hd i hi).trans (listed_of_readyC hb (by simpa using hs) hr l.length i hi (by simpa using hi))) hh hj, fun i hi => ?_⟩
    obtain ⟨h1, o, ho, hdep⟩ := mem_ready.1 hi
    have ho' : l[i]? = some o := by simpa using ho
    have hio : i < l.length := by simpa using (Array.getElem?_eq_some_iff.1 ho).1
    have hil : i < listed.size := by omega
    have hf : d i = false := by
      rw [hd i hio]
      simpa [hil] using h1
    refine wpOp_mono ?_ (step i o ho' a d vals u hv hh hj hf fun e he hbn => ?_)
    · rintro a' w' ⟨v, rfl, hj'⟩
      have hh2 : Held a0 a l d (vals.set i v) := hh.congr fun j hdj => by
        have hne : i ≠ j := fun q => by subst q; rw [hf] at hdj; cases hdj
        rw [getD_set_ne hne]
      have hh3 := hh2.put hn ho'
      rw [getD_set_self (by omega)] at hh3
      refine ih (listed.setIfInBounds i true) _ w' (done d i) (vals.set i v) (by simpa using hv) (by simpa using hs) ?_ (fun j hjl => ?_) hh3 hj'
      · have hfalse : listed[i] = false := by simpa [hil] using h1
        rw [Array.toList_setIfInBounds, List.countP_set (by simpa using hil)]
        simp only [Array.countP_toList] at hc
        simp [hfalse]
        omega
      · by_cases e : j = i
        · subst e
          simp [done, hil]
        · simp only [done, e, if_false]
          rw [hd j hjl, Array.getD_eq_getD_getElem?, Array.getD_eq_getD_getElem?, Array.getElem?_setIfInBounds_ne (Ne.symm e)]
    · have h2 := hdep e he hbn
      have hlt := backC_spec hb ho he hbn
      rw [hd e.on (by omega)]
      exact h2

/-- 'vals': what is left, as far as it is known ahead (anything elsewhere). -/
theorem wp_region_mixC {P : Program} {id : Nat} {l : List Oper} {Q : Exit → Act → World → Prop} {a0 : Act} {w : World} (vals : List Value) (ps : List (Nat × Nat)) (J : (Nat → Bool) → List Value → World → Prop)
    (hm : P.follows .mixedOrders = true) (hb : backC l.toArray = true) (hn : slotsB a0.tmps.size l = true) (hp : pairsB l ps = true) (hv : vals.length = l.length) (h0 : J (fun _ => false) vals w.drew)
    (step : ∀ i o, l[i]? = some o → ∀ a d vals u, vals.length = l.length → Held a0 a l d vals → J d vals u → d i = false → (∀ e ∈ o.after, Region.binds .any e = true → d e.on = true) →
      wpOp P l.toArray Q i (fun a' w' => ∃ v, a' = a.put o.dst v ∧ J (done d i) (vals.set i v) w') a u)
    (fin : ∀ u d vals, vals.length = l.length → (∀ i, i < l.length → d i = true) → J d vals u → Q .normal ⟨(patch vals ps 0 a0.tmps.toList).toArray, a0.defers⟩ u) :
    (Code.region id l.toArray true).wp P Q a0 w := by
  refine wp_region_any hm (wpAny_mixC (J := J) hb hn step (fun a u d vals hv hall hh hj => ?_) _ _ a0 _ (fun _ => false) vals hv (by simp) ?_ (fun i hi => by simp [hi]) ⟨rfl, rfl, (fun i o s _ _ h => absurd h (by simp)), fun _ _ => rfl⟩ h0)
  · rw [hh.patched ps hp hall]
    exact fin u d vals hv hall hj
  · exact Nat.le_trans List.countP_le_length (by simp)

theorem wp_region_ghostC {P : Program} {id : Nat} {l : List Oper} {Q : Exit → Act → World → Prop} {a0 : Act} {w : World} {G : Type} (K : G → List Value) (ps : List (Nat × Nat)) (J : G → (Nat → Bool) → World → Prop)
    (hm : P.follows .mixedOrders = true) (hb : backC l.toArray = true) (hn : slotsB a0.tmps.size l = true) (hp : pairsB l ps = true) (hv : ∀ g, (K g).length = l.length) (h0 : ∃ g, J g (fun _ => false) w.drew)
    (step : ∀ i o, l[i]? = some o → ∀ g a d u, Held a0 a l d (K g) → J g d u → d i = false → (∀ e ∈ o.after, Region.binds .any e = true → d e.on = true) → Cl l d →
      wpOp P l.toArray Q i (fun a' w' => ∃ g', (∀ j, d j = true → (K g').getD j undef = (K g).getD j undef) ∧ a' = a.put o.dst ((K g').getD i undef) ∧ J g' (done d i) w') a u)
    (fin : ∀ g u d, (∀ i, i < l.length → d i = true) → J g d u → Q .normal ⟨(patch (K g) ps 0 a0.tmps.toList).toArray, a0.defers⟩ u) :
    (Code.region id l.toArray true).wp P Q a0 w := by
  obtain ⟨g0, h0⟩ := h0
  refine wp_region_mixC (K g0) ps (fun d vals u => Cl l d ∧ ∃ g, (∀ j, d j = true → vals.getD j undef = (K g).getD j undef) ∧ J g d u) hm hb hn hp (hv g0) ⟨fun i o _ h => absurd h (by simp), g0, fun _ _ => rfl, h0⟩ ?_ ?_
  · rintro i o ho a d vals u hvl hh ⟨hc, g, hk, hj⟩ hi hd
    refine wpOp_mono (fun a' w' h => ?_) (step i o ho g a d u (hh.congr hk) hj hi hd hc)
    obtain ⟨g', e1, e2, e3⟩ := h
    have hil : i < vals.length := by rw [hvl]; exact (List.getElem?_eq_some_iff.1 ho).1
    refine ⟨_, e2, hc.step ho hd, g', fun j hj => ?_, e3⟩
    by_cases q : i = j
    · subst q
      rw [getD_set_self hil]
    · rw [getD_set_ne q, e1 j (by simpa [done, Ne.symm q] using hj), hk j (by simpa [done, Ne.symm q] using hj)]
  · rintro u d vals hvl hall ⟨hc, g, hk, hj⟩
    have e : patch vals ps 0 a0.tmps.toList = patch (K g) ps 0 a0.tmps.toList := patch_congr (fun j => by
      by_cases q : j < l.length
      · exact hk j (hall j q)
      · have q1 : vals[j]? = none := List.getElem?_eq_none (by omega)
        have q2 : (K g)[j]? = none := List.getElem?_eq_none (by rw [hv]; omega)
        rw [List.getD_eq_getElem?_getD, List.getD_eq_getElem?_getD, q1, q2]) _ _ _
    rw [e]
    exact fin g u d hall hj
end Go.Proofs.YtahpnnjemjjfhaaGreat

