/-
  The modules One13, OneZ, SplA, one behind another.
-/
import Derived.Test.YtahpnnjemjjfhaaGreatM09
import Derived.Test.YtahpnnjemjjfhaaGreatM16
import Derived.Test.YtahpnnjemjjfhaaGreatM18
import Derived.Test.YtahpnnjemjjfhaaGreatM31
import Derived.Test.YtahpnnjemjjfhaaGreatM32
import Derived.Test.YtahpnnjemjjfhaaGreatM33
import Derived.Test.YtahpnnjemjjfhaaGreatM34
import Derived.Test.YtahpnnjemjjfhaaGreatM35
/-
  An operation on both spaces: kind 13.
-/
namespace Go.Proofs.YtahpnnjemjjfhaaGreat
open Go.RowKit

set_option maxHeartbeats 4000000 in
set_option maxRecDepth 20000 in
theorem one_13 {w0 : World} {A : Ad} {R : Ar} {S : Sp} {kb : Nat} (t f s n : Int) (b : Bool) (w : World) (h : Two w0 A R S w) (hi : Inv S kb) (hkb : kb ≤ 50000) (hn : A.C.n7 = R.C.n7) :
    Calls Tryz.prog 11 #[.pointer (some ⟨A.b, 0, none⟩), .pointer (some ⟨R.b, 0, none⟩), .agg #[.int .i64 13, .int .i64 t, .int .i64 f, .int .i64 s, .int .i64 n, .bool b]] w fun e w' => e = .returned (.bool true) ∧ Two w0 A R (S.op ⟨13, t, f, s, n, b⟩) w' := by
  have HT : Hid (Two w0 A R S w) := h
  have HI : Hid (Inv S kb ∧ kb ≤ 50000 ∧ A.C.n7 = R.C.n7) := ⟨hi, hkb, hn⟩
  clear h hi hkb hn
  go_enter Tryz.func11, Tryz.ntmps11
  go_upto_region 1 with fail
  generalize hW : w.alloc _ = W
  have H0 : Hid (Tw w0 A R w.heap.size [.int .i64 13, .int .i64 t, .int .i64 f, .int .i64 s, .int .i64 n, .bool b] [] S S W) := by
    rw [← hW]
    exact HT.out.box [.int .i64 13, .int .i64 t, .int .i64 f, .int .i64 s, .int .i64 n, .bool b]
  clear hW HT
  generalize w.heap.size = ob at *
  have e0 : W.cell? ⟨ob, 0, none⟩ = some (.int .i64 13) := H0.out.own.blk.at 0 rfl
  have HE : Hid (S.op ⟨13, t, f, s, n, b⟩ = { S with K := copyS S.K n }) := by show _ = _; simp [Sp.op]
  obtain ⟨va, hva⟩ : ∃ va, copyA S.K n = va := ⟨_, rfl⟩
  obtain ⟨vb, hvb⟩ : ∃ vb, skips S.K n = vb := ⟨_, rfl⟩
  obtain ⟨P0, hP0⟩ : ∃ P0 : World → Prop, P0 = fun u => Tw w0 A R ob [.int .i64 13, .int .i64 t, .int .i64 f, .int .i64 s, .int .i64 n, .bool b] [] (S) (S) u := ⟨_, rfl⟩
  obtain ⟨P1, hP1⟩ : ∃ P1 : World → Prop, P1 = fun u => Tw w0 A R ob [.int .i64 13, .int .i64 t, .int .i64 f, .int .i64 s, .int .i64 n, .bool b] [] ({ S with K := copyS S.K n }) (S) u := ⟨_, rfl⟩
  obtain ⟨P2, hP2⟩ : ∃ P2 : World → Prop, P2 = fun u => Tw w0 A R ob [.int .i64 13, .int .i64 t, .int .i64 f, .int .i64 s, .int .i64 n, .bool b] [] ({ S with K := copyS S.K n }) ({ S with K := copyS S.K n }) u := ⟨_, rfl⟩
  have A0 : Hid (∀ u, P0 u → Blk u ob [.int .i64 13, .int .i64 t, .int .i64 f, .int .i64 s, .int .i64 n, .bool b]) := fun u q => by rw [hP0] at q; exact q.own.blk
  have A1 : Hid (∀ u, P1 u → Blk u ob [.int .i64 13, .int .i64 t, .int .i64 f, .int .i64 s, .int .i64 n, .bool b]) := fun u q => by rw [hP1] at q; exact q.own.blk
  have A2 : Hid (∀ u, P2 u → Blk u ob [.int .i64 13, .int .i64 t, .int .i64 f, .int .i64 s, .int .i64 n, .bool b]) := fun u q => by rw [hP2] at q; exact q.own.blk
  have B1 : Hid (∀ u, P1 u → u.cell? ⟨R.b, 14, none⟩ = some (.pointer (some ⟨R.kb, 0, none⟩))) := fun u q => by rw [hP1] at q; exact q.c14
  have B2 : Hid (∀ u, P2 u → u.cell? ⟨R.b, 14, none⟩ = some (.pointer (some ⟨R.kb, 0, none⟩))) := fun u q => by rw [hP2] at q; exact q.c14
  have E2 : Hid ((fun u => Tw w0 A R ob [.int .i64 13, .int .i64 t, .int .i64 f, .int .i64 s, .int .i64 n, .bool b] [] ({ S with K := copyS S.K n }) ({ S with K := copyS S.K n }) u) = P2) := hP2.symm
  have D1 : Hid (∀ u, P1 u → P1 u.drew) := fun u q => by rw [hP1] at q ⊢; exact q.still (Kept.refl _).drew
  have K0 : Hid (∀ u, P0 u → Calls Tryz.prog _ _ u fun e u' => e = .returned (.pointer (some ⟨A.kb, 0, none⟩)) ∧ u' = u) := fun u q => by
    rw [hP0] at q
    exact tw_coil q
  have K1 : Hid (∀ u, P0 u → Calls Tryz.prog _ _ u fun e u' => e = .returned (.tuple #[.int .i64 va, .bool vb]) ∧ P1 u') := fun u q => by
    rw [hP0] at q
    rw [hP1, ← hva, ← hvb]
    exact pk_copy n q
  have K2 : Hid (∀ u, P1 u → Calls Tryz.prog _ _ u fun e u' => e = .returned (.tuple #[.int .i64 va, .bool vb]) ∧ P2 u') := fun u q => by
    rw [hP1] at q
    rw [hP2, ← hva, ← hvb]
    exact dc_copy n q
  have HS : Hid (P0 W.drew) := by rw [hP0]; exact H0.out.still (Kept.refl _).drew
  clear hva hvb hP0 hP1 hP2 HI
  go_upto_region 32 with fail
  clear e0 H0
  refine wp_region_ghostC (G := Unit) (fun ⟨⟩ => [(.pointer (some ⟨A.b, 0, none⟩)), (.pointer (some ⟨A.kb, 0, none⟩)), (.pointer (some ⟨ob, 4, none⟩)), (.int .i64 n), (.tuple #[.int .i64 va, .bool vb]), (.tuple #[.int .i64 va, .bool vb]), (.int .i64 va), (.bool vb), (.int .i64 va), (.bool vb)]) [(7, 8), (8, 9), (151, 5), (152, 0), (153, 1), (154, 2), (155, 3), (156, 4), (157, 6), (158, 7)] (fun ⟨⟩ d u => JP 4 [] (fun u => P0 u) (fun u => P1 u) d u) (by kernel_rfl) (by kernel_rfl) (by kernel_rfl) (by kernel_rfl) (fun _ => rfl) ?_ ?_ ?_
  · exact ⟨⟨⟩, JP.start HS.out⟩
  · intro i1 o1 ho ng a1 d u hh hj0 hi hd hc
    obtain ⟨⟩ := ng
    have hj : JP 4 [] (fun u => P0 u) (fun u => P1 u) d u := hj0
    clear hj0
    match i1, ho, hi, hd with
    | 0, ho, hi, hd =>
      simp only [List.getElem?_cons_zero, Option.some.injEq] at ho
      subst ho
      have g0 : a1.tmps[0]? = some (.pointer (some ⟨A.b, 0, none⟩)) := hh.old 0 (by kernel_rfl) rfl
      have HN : Hid (JP 4 [] (fun u => P0 u) (fun u => P1 u) (done d 0) u) := hj.plain 0 (by decide)
      clear hh hd hc hj hi
      refine wpOp_step rfl (fun K hK => ?_)
      go_simp
      exact hK _ _ ⟨⟨⟩, fun _ _ => rfl, by simp [Act.put], HN.out⟩
    | 1, ho, hi, hd =>
      simp only [List.getElem?_cons_succ, List.getElem?_cons_zero, Option.some.injEq] at ho
      subst ho
      have g152 : a1.tmps[152]? = some (.pointer (some ⟨A.b, 0, none⟩)) := hh.did 0 _ 152 rfl rfl (hd { on := 0, ground := .data } (by simp) rfl)
      have n4 : d 4 = false := by
        cases q : d 4 with
        | false => rfl
        | true => exact absurd (hc 4 _ rfl q { on := 1, ground := .data } (by simp) rfl) (by simp [hi])
      have CA : Hid (Calls _ _ _ _ _) := K0.out u (hj.now n4)
      have HN : Hid (JP 4 [] (fun u => P0 u) (fun u => P1 u) (done d 1) u) := hj.plain 1 (by decide)
      clear hh hd hc hj hi n4
      refine wpOp_step rfl (fun K hK => ?_)
      go_simp
      refine CA.out.mono ?_
      rintro e u2 ⟨rfl, rfl⟩
      exact hK _ _ ⟨⟨⟩, fun _ _ => rfl, by simp [Act.put], HN.out⟩
    | 2, ho, hi, hd =>
      simp only [List.getElem?_cons_succ, List.getElem?_cons_zero, Option.some.injEq] at ho
      subst ho
      have g5 : a1.tmps[5]? = some (.pointer (some ⟨ob, 0, none⟩)) := hh.old 5 (by kernel_rfl) rfl
      have HN : Hid (JP 4 [] (fun u => P0 u) (fun u => P1 u) (done d 2) u) := hj.plain 2 (by decide)
      clear hh hd hc hj hi
      refine wpOp_step rfl (fun K hK => ?_)
      go_simp
      exact hK _ _ ⟨⟨⟩, fun _ _ => rfl, by simp [Act.put], HN.out⟩
    | 3, ho, hi, hd =>
      simp only [List.getElem?_cons_succ, List.getElem?_cons_zero, Option.some.injEq] at ho
      subst ho
      have g154 : a1.tmps[154]? = some (.pointer (some ⟨ob, 4, none⟩)) := hh.did 2 _ 154 rfl rfl (hd { on := 2, ground := .data } (by simp) rfl)
      have cc : Blk u ob [.int .i64 13, .int .i64 t, .int .i64 f, .int .i64 s, .int .i64 n, .bool b] := (hj.any (Q := fun u => Blk u ob [.int .i64 13, .int .i64 t, .int .i64 f, .int .i64 s, .int .i64 n, .bool b]) A0.out A1.out)
      have c1 := cc.at 4 rfl
      have HN : Hid (JP 4 [] (fun u => P0 u) (fun u => P1 u) (done d 3) u) := hj.plain 3 (by decide)
      clear hh hd hc hj hi
      refine wpOp_step rfl (fun K hK => ?_)
      go_simp
      exact hK _ _ ⟨⟨⟩, fun _ _ => rfl, by simp [Act.put], HN.out⟩
    | 4, ho, hi, hd =>
      simp only [List.getElem?_cons_succ, List.getElem?_cons_zero, Option.some.injEq] at ho
      subst ho
      have g153 : a1.tmps[153]? = some (.pointer (some ⟨A.kb, 0, none⟩)) := hh.did 1 _ 153 rfl rfl (hd { on := 1, ground := .data } (by simp) rfl)
      have g155 : a1.tmps[155]? = some (.int .i64 n) := hh.did 3 _ 155 rfl rfl (hd { on := 3, ground := .data } (by simp) rfl)
      have CA : Hid (Calls _ _ _ _ _) := K1.out u (hj.now hi)
      clear hh hd hc hj hi
      refine wpOp_step rfl (fun K hK => ?_)
      go_simp
      refine CA.out.mono ?_
      rintro e u2 ⟨rfl, p1⟩
      exact hK _ _ ⟨⟨⟩, fun _ _ => rfl, by simp [Act.put], JP.turn (fun r hr => absurd hr (by simp)) p1⟩
    | 5, ho, hi, hd =>
      simp only [List.getElem?_cons_succ, List.getElem?_cons_zero, Option.some.injEq] at ho
      subst ho
      have g156 : a1.tmps[156]? = some (.tuple #[.int .i64 va, .bool vb]) := hh.did 4 _ 156 rfl rfl (hd { on := 4, ground := .data } (by simp) rfl)
      have HN : Hid (JP 4 [] (fun u => P0 u) (fun u => P1 u) (done d 5) u) := hj.plain 5 (by decide)
      clear hh hd hc hj hi
      refine wpOp_step rfl (fun K hK => ?_)
      go_simp
      exact hK _ _ ⟨⟨⟩, fun _ _ => rfl, by simp [Act.put], HN.out⟩
    | 6, ho, hi, hd =>
      simp only [List.getElem?_cons_succ, List.getElem?_cons_zero, Option.some.injEq] at ho
      subst ho
      have g151 : a1.tmps[151]? = some (.tuple #[.int .i64 va, .bool vb]) := hh.did 5 _ 151 rfl rfl (hd { on := 5, ground := .data } (by simp) rfl)
      have HN : Hid (JP 4 [] (fun u => P0 u) (fun u => P1 u) (done d 6) u) := hj.plain 6 (by decide)
      clear hh hd hc hj hi
      refine wpOp_step rfl (fun K hK => ?_)
      go_simp
      exact hK _ _ ⟨⟨⟩, fun _ _ => rfl, by simp [Act.put], HN.out⟩
    | 7, ho, hi, hd =>
      simp only [List.getElem?_cons_succ, List.getElem?_cons_zero, Option.some.injEq] at ho
      subst ho
      have g151 : a1.tmps[151]? = some (.tuple #[.int .i64 va, .bool vb]) := hh.did 5 _ 151 rfl rfl (hd { on := 5, ground := .data } (by simp) rfl)
      have HN : Hid (JP 4 [] (fun u => P0 u) (fun u => P1 u) (done d 7) u) := hj.plain 7 (by decide)
      clear hh hd hc hj hi
      refine wpOp_step rfl (fun K hK => ?_)
      go_simp
      exact hK _ _ ⟨⟨⟩, fun _ _ => rfl, by simp [Act.put], HN.out⟩
    | 8, ho, hi, hd =>
      simp only [List.getElem?_cons_succ, List.getElem?_cons_zero, Option.some.injEq] at ho
      subst ho
      have g157 : a1.tmps[157]? = some (.int .i64 va) := hh.did 6 _ 157 rfl rfl (hd { on := 6, ground := .data } (by simp) rfl)
      have HN : Hid (JP 4 [] (fun u => P0 u) (fun u => P1 u) (done d 8) u) := hj.plain 8 (by decide)
      clear hh hd hc hj hi
      refine wpOp_step rfl (fun K hK => ?_)
      go_simp
      exact hK _ _ ⟨⟨⟩, fun _ _ => rfl, by simp [Act.put], HN.out⟩
    | 9, ho, hi, hd =>
      simp only [List.getElem?_cons_succ, List.getElem?_cons_zero, Option.some.injEq] at ho
      subst ho
      have g158 : a1.tmps[158]? = some (.bool vb) := hh.did 7 _ 158 rfl rfl (hd { on := 7, ground := .data } (by simp) rfl)
      have HN : Hid (JP 4 [] (fun u => P0 u) (fun u => P1 u) (done d 9) u) := hj.plain 9 (by decide)
      clear hh hd hc hj hi
      refine wpOp_step rfl (fun K hK => ?_)
      go_simp
      exact hK _ _ ⟨⟨⟩, fun _ _ => rfl, by simp [Act.put], HN.out⟩
    | n + 10, ho, hi, hd => simp at ho
  · intro ng u d hall hj0
    obtain ⟨⟩ := ng
    have hj : JP 4 [] (fun u => P0 u) (fun u => P1 u) d u := hj0
    clear hj0
    have h1 : Hid (P1 u) := hj.fin (hall 4 (by decide))
    clear hall hj
    refine norm_list' (L' := [_, _, _, _, _, _, _, _, _, _, _, _, _, _, _, _, _, _, _, _, _, _, _, _, _, _, _, _, _, _, _, _, _, _, _, _, _, _, _, _, _, _, _, _, _, _, _, _, _, _, _, _, _, _, _, _, _, _, _, _, _, _, _, _, _, _, _, _, _, _, _, _, _, _, _, _, _, _, _, _, _, _, _, _, _, _, _, _, _, _, _, _, _, _, _, _, _, _, _, _, _, _, _, _, _, _, _, _, _, _, _, _, _, _, _, _, _, _, _, _, _, _, _, _, _, _, _, _, _, _, _, _, _, _, _, _, _, _, _, _, _, _, _, _, _, _, _, _, _, _, _, _, _, _, _, _, _, _, _, _, _, _, _, _, _, _, _, _, _, _, _, _, _, _, _, _, _]) rfl ?_
    go_upto_region 33 with fail
    refine wp_region_ghostC (G := Unit) (fun ⟨⟩ => [(.pointer (some ⟨R.b, 0, none⟩)), (.pointer (some ⟨R.b, 0, none⟩)), (.pointer (some ⟨R.b, 14, none⟩)), (.pointer (some ⟨R.kb, 0, none⟩)), (.pointer (some ⟨ob, 4, none⟩)), (.int .i64 n), (.tuple #[.int .i64 va, .bool vb]), (.tuple #[.int .i64 va, .bool vb]), (.int .i64 va), (.bool vb), (.int .i64 va), (.bool vb)]) [(9, 10), (10, 11), (159, 7), (160, 0), (161, 1), (162, 2), (163, 3), (164, 4), (165, 5), (166, 6), (167, 8), (168, 9)] (fun ⟨⟩ d u => JP 6 [] (fun u => P1 u) (fun u => P2 u) d u) (by kernel_rfl) (by kernel_rfl) (by kernel_rfl) (by kernel_rfl) (fun _ => rfl) ?_ ?_ ?_
    · exact ⟨⟨⟩, JP.start (D1.out _ h1.out)⟩
    · intro i1 o1 ho ng a1 d u hh hj0 hi hd hc
      obtain ⟨⟩ := ng
      have hj : JP 6 [] (fun u => P1 u) (fun u => P2 u) d u := hj0
      clear hj0
      match i1, ho, hi, hd with
      | 0, ho, hi, hd =>
        simp only [List.getElem?_cons_zero, Option.some.injEq] at ho
        subst ho
        have g1 : a1.tmps[1]? = some (.pointer (some ⟨R.b, 0, none⟩)) := hh.old 1 (by kernel_rfl) rfl
        have HN : Hid (JP 6 [] (fun u => P1 u) (fun u => P2 u) (done d 0) u) := hj.plain 0 (by decide)
        clear hh hd hc hj hi
        refine wpOp_step rfl (fun K hK => ?_)
        go_simp
        exact hK _ _ ⟨⟨⟩, fun _ _ => rfl, by simp [Act.put], HN.out⟩
      | 1, ho, hi, hd =>
        simp only [List.getElem?_cons_succ, List.getElem?_cons_zero, Option.some.injEq] at ho
        subst ho
        have g160 : a1.tmps[160]? = some (.pointer (some ⟨R.b, 0, none⟩)) := hh.did 0 _ 160 rfl rfl (hd { on := 0, ground := .data } (by simp) rfl)
        have HN : Hid (JP 6 [] (fun u => P1 u) (fun u => P2 u) (done d 1) u) := hj.plain 1 (by decide)
        clear hh hd hc hj hi
        refine wpOp_step rfl (fun K hK => ?_)
        go_simp
        exact hK _ _ ⟨⟨⟩, fun _ _ => rfl, by simp [Act.put], HN.out⟩
      | 2, ho, hi, hd =>
        simp only [List.getElem?_cons_succ, List.getElem?_cons_zero, Option.some.injEq] at ho
        subst ho
        have g161 : a1.tmps[161]? = some (.pointer (some ⟨R.b, 0, none⟩)) := hh.did 1 _ 161 rfl rfl (hd { on := 1, ground := .data } (by simp) rfl)
        have HN : Hid (JP 6 [] (fun u => P1 u) (fun u => P2 u) (done d 2) u) := hj.plain 2 (by decide)
        clear hh hd hc hj hi
        refine wpOp_step rfl (fun K hK => ?_)
        go_simp
        exact hK _ _ ⟨⟨⟩, fun _ _ => rfl, by simp [Act.put], HN.out⟩
      | 3, ho, hi, hd =>
        simp only [List.getElem?_cons_succ, List.getElem?_cons_zero, Option.some.injEq] at ho
        subst ho
        have g162 : a1.tmps[162]? = some (.pointer (some ⟨R.b, 14, none⟩)) := hh.did 2 _ 162 rfl rfl (hd { on := 2, ground := .data } (by simp) rfl)
        have c1 := hj.any (Q := fun u => u.cell? ⟨R.b, 14, none⟩ = some (.pointer (some ⟨R.kb, 0, none⟩))) B1.out B2.out
        have HN : Hid (JP 6 [] (fun u => P1 u) (fun u => P2 u) (done d 3) u) := hj.plain 3 (by decide)
        clear hh hd hc hj hi
        refine wpOp_step rfl (fun K hK => ?_)
        go_simp
        exact hK _ _ ⟨⟨⟩, fun _ _ => rfl, by simp [Act.put], HN.out⟩
      | 4, ho, hi, hd =>
        simp only [List.getElem?_cons_succ, List.getElem?_cons_zero, Option.some.injEq] at ho
        subst ho
        have g5 : a1.tmps[5]? = some (.pointer (some ⟨ob, 0, none⟩)) := hh.old 5 (by kernel_rfl) rfl
        have HN : Hid (JP 6 [] (fun u => P1 u) (fun u => P2 u) (done d 4) u) := hj.plain 4 (by decide)
        clear hh hd hc hj hi
        refine wpOp_step rfl (fun K hK => ?_)
        go_simp
        exact hK _ _ ⟨⟨⟩, fun _ _ => rfl, by simp [Act.put], HN.out⟩
      | 5, ho, hi, hd =>
        simp only [List.getElem?_cons_succ, List.getElem?_cons_zero, Option.some.injEq] at ho
        subst ho
        have g164 : a1.tmps[164]? = some (.pointer (some ⟨ob, 4, none⟩)) := hh.did 4 _ 164 rfl rfl (hd { on := 4, ground := .data } (by simp) rfl)
        have cc : Blk u ob [.int .i64 13, .int .i64 t, .int .i64 f, .int .i64 s, .int .i64 n, .bool b] := (hj.any (Q := fun u => Blk u ob [.int .i64 13, .int .i64 t, .int .i64 f, .int .i64 s, .int .i64 n, .bool b]) A1.out A2.out)
        have c1 := cc.at 4 rfl
        have HN : Hid (JP 6 [] (fun u => P1 u) (fun u => P2 u) (done d 5) u) := hj.plain 5 (by decide)
        clear hh hd hc hj hi
        refine wpOp_step rfl (fun K hK => ?_)
        go_simp
        exact hK _ _ ⟨⟨⟩, fun _ _ => rfl, by simp [Act.put], HN.out⟩
      | 6, ho, hi, hd =>
        simp only [List.getElem?_cons_succ, List.getElem?_cons_zero, Option.some.injEq] at ho
        subst ho
        have g163 : a1.tmps[163]? = some (.pointer (some ⟨R.kb, 0, none⟩)) := hh.did 3 _ 163 rfl rfl (hd { on := 3, ground := .data } (by simp) rfl)
        have g165 : a1.tmps[165]? = some (.int .i64 n) := hh.did 5 _ 165 rfl rfl (hd { on := 5, ground := .data } (by simp) rfl)
        have CA : Hid (Calls _ _ _ _ _) := K2.out u (hj.now hi)
        clear hh hd hc hj hi
        refine wpOp_step rfl (fun K hK => ?_)
        go_simp
        refine CA.out.mono ?_
        rintro e u2 ⟨rfl, p2⟩
        exact hK _ _ ⟨⟨⟩, fun _ _ => rfl, by simp [Act.put], JP.turn (fun r hr => absurd hr (by simp)) p2⟩
      | 7, ho, hi, hd =>
        simp only [List.getElem?_cons_succ, List.getElem?_cons_zero, Option.some.injEq] at ho
        subst ho
        have g166 : a1.tmps[166]? = some (.tuple #[.int .i64 va, .bool vb]) := hh.did 6 _ 166 rfl rfl (hd { on := 6, ground := .data } (by simp) rfl)
        have HN : Hid (JP 6 [] (fun u => P1 u) (fun u => P2 u) (done d 7) u) := hj.plain 7 (by decide)
        clear hh hd hc hj hi
        refine wpOp_step rfl (fun K hK => ?_)
        go_simp
        exact hK _ _ ⟨⟨⟩, fun _ _ => rfl, by simp [Act.put], HN.out⟩
      | 8, ho, hi, hd =>
        simp only [List.getElem?_cons_succ, List.getElem?_cons_zero, Option.some.injEq] at ho
        subst ho
        have g159 : a1.tmps[159]? = some (.tuple #[.int .i64 va, .bool vb]) := hh.did 7 _ 159 rfl rfl (hd { on := 7, ground := .data } (by simp) rfl)
        have HN : Hid (JP 6 [] (fun u => P1 u) (fun u => P2 u) (done d 8) u) := hj.plain 8 (by decide)
        clear hh hd hc hj hi
        refine wpOp_step rfl (fun K hK => ?_)
        go_simp
        exact hK _ _ ⟨⟨⟩, fun _ _ => rfl, by simp [Act.put], HN.out⟩
      | 9, ho, hi, hd =>
        simp only [List.getElem?_cons_succ, List.getElem?_cons_zero, Option.some.injEq] at ho
        subst ho
        have g159 : a1.tmps[159]? = some (.tuple #[.int .i64 va, .bool vb]) := hh.did 7 _ 159 rfl rfl (hd { on := 7, ground := .data } (by simp) rfl)
        have HN : Hid (JP 6 [] (fun u => P1 u) (fun u => P2 u) (done d 9) u) := hj.plain 9 (by decide)
        clear hh hd hc hj hi
        refine wpOp_step rfl (fun K hK => ?_)
        go_simp
        exact hK _ _ ⟨⟨⟩, fun _ _ => rfl, by simp [Act.put], HN.out⟩
      | 10, ho, hi, hd =>
        simp only [List.getElem?_cons_succ, List.getElem?_cons_zero, Option.some.injEq] at ho
        subst ho
        have g167 : a1.tmps[167]? = some (.int .i64 va) := hh.did 8 _ 167 rfl rfl (hd { on := 8, ground := .data } (by simp) rfl)
        have HN : Hid (JP 6 [] (fun u => P1 u) (fun u => P2 u) (done d 10) u) := hj.plain 10 (by decide)
        clear hh hd hc hj hi
        refine wpOp_step rfl (fun K hK => ?_)
        go_simp
        exact hK _ _ ⟨⟨⟩, fun _ _ => rfl, by simp [Act.put], HN.out⟩
      | 11, ho, hi, hd =>
        simp only [List.getElem?_cons_succ, List.getElem?_cons_zero, Option.some.injEq] at ho
        subst ho
        have g168 : a1.tmps[168]? = some (.bool vb) := hh.did 9 _ 168 rfl rfl (hd { on := 9, ground := .data } (by simp) rfl)
        have HN : Hid (JP 6 [] (fun u => P1 u) (fun u => P2 u) (done d 11) u) := hj.plain 11 (by decide)
        clear hh hd hc hj hi
        refine wpOp_step rfl (fun K hK => ?_)
        go_simp
        exact hK _ _ ⟨⟨⟩, fun _ _ => rfl, by simp [Act.put], HN.out⟩
      | n + 12, ho, hi, hd => simp at ho
    · intro ng u d hall hj0
      obtain ⟨⟩ := ng
      have hj : JP 6 [] (fun u => P1 u) (fun u => P2 u) d u := hj0
      clear hj0
      have h2 : Hid (P2 u) := hj.fin (hall 6 (by decide))
      clear hall hj
      refine norm_list' (L' := [_, _, _, _, _, _, _, _, _, _, _, _, _, _, _, _, _, _, _, _, _, _, _, _, _, _, _, _, _, _, _, _, _, _, _, _, _, _, _, _, _, _, _, _, _, _, _, _, _, _, _, _, _, _, _, _, _, _, _, _, _, _, _, _, _, _, _, _, _, _, _, _, _, _, _, _, _, _, _, _, _, _, _, _, _, _, _, _, _, _, _, _, _, _, _, _, _, _, _, _, _, _, _, _, _, _, _, _, _, _, _, _, _, _, _, _, _, _, _, _, _, _, _, _, _, _, _, _, _, _, _, _, _, _, _, _, _, _, _, _, _, _, _, _, _, _, _, _, _, _, _, _, _, _, _, _, _, _, _, _, _, _, _, _, _, _, _, _, _, _, _, _, _, _, _, _, _]) rfl ?_
      rw [← E2.out] at h2
      have z1 : (va == va) = true := by simp
      have z2 : (vb == vb) = true := by simp
      have H2 : Hid (Two w0 A R (S.op ⟨13, t, f, s, n, b⟩) u) := by rw [HE.out]; exact h2.out.two
      clear h2 HE
      go_wp2
      go_ret
      exact ⟨rfl, H2.out⟩
end Go.Proofs.YtahpnnjemjjfhaaGreat

/-
  Any operation on both spaces.
-/
namespace Go.Proofs.YtahpnnjemjjfhaaGreat
open Go.RowKit

set_option maxHeartbeats 4000000 in
set_option maxRecDepth 20000 in
theorem one_else {w0 : World} {A : Ad} {R : Ar} {S : Sp} (k t f s n : Int) (b : Bool) (w : World) (h : Two w0 A R S w) (hk : k < 0 ∨ 13 < k) :
    Calls Tryz.prog 11 #[.pointer (some ⟨A.b, 0, none⟩), .pointer (some ⟨R.b, 0, none⟩), .agg #[.int .i64 k, .int .i64 t, .int .i64 f, .int .i64 s, .int .i64 n, .bool b]] w fun e w' => e = .returned (.bool true) ∧ Two w0 A R (S.op ⟨k, t, f, s, n, b⟩) w' := by
  have h0 : (k == 0) = false := by simp; omega
  have h1 : (k == 1) = false := by simp; omega
  have h2 : (k == 2) = false := by simp; omega
  have h3 : (k == 3) = false := by simp; omega
  have h4 : (k == 4) = false := by simp; omega
  have h5 : (k == 5) = false := by simp; omega
  have h6 : (k == 6) = false := by simp; omega
  have h7 : (k == 7) = false := by simp; omega
  have h8 : (k == 8) = false := by simp; omega
  have h9 : (k == 9) = false := by simp; omega
  have h10 : (k == 10) = false := by simp; omega
  have h11 : (k == 11) = false := by simp; omega
  have h12 : (k == 12) = false := by simp; omega
  have h13 : (k == 13) = false := by simp; omega
  have HT : Hid (Two w0 A R S w) := h
  have HE : Hid (S.op ⟨k, t, f, s, n, b⟩ = S) := by
    show _ = _
    simp only [Sp.op]
    rw [if_neg (show ¬ k = 0 by omega)]
    rw [if_neg (show ¬ k = 1 by omega)]
    rw [if_neg (show ¬ k = 2 by omega)]
    rw [if_neg (show ¬ k = 3 by omega)]
    rw [if_neg (show ¬ k = 4 by omega)]
    rw [if_neg (show ¬ k = 5 by omega)]
    rw [if_neg (show ¬ k = 6 by omega)]
    rw [if_neg (show ¬ k = 7 by omega)]
    rw [if_neg (show ¬ k = 8 by omega)]
    rw [if_neg (show ¬ k = 9 by omega)]
    rw [if_neg (show ¬ k = 10 by omega)]
    rw [if_neg (show ¬ k = 11 by omega)]
    rw [if_neg (show ¬ k = 12 by omega)]
    rw [if_neg (show ¬ k = 13 by omega)]
  clear h hk
  go_enter Tryz.func11, Tryz.ntmps11
  go_upto_region 1 with fail
  generalize hW : w.alloc _ = W
  have H0 : Hid (Tw w0 A R w.heap.size [.int .i64 k, .int .i64 t, .int .i64 f, .int .i64 s, .int .i64 n, .bool b] [] S S W) := by
    rw [← hW]
    exact HT.out.box [.int .i64 k, .int .i64 t, .int .i64 f, .int .i64 s, .int .i64 n, .bool b]
  clear hW HT
  have e0 : W.cell? ⟨w.heap.size, 0, none⟩ = some (.int .i64 k) := H0.out.own.blk.at 0 rfl
  have H2 : Hid (Two w0 A R (S.op ⟨k, t, f, s, n, b⟩) W) := by rw [HE.out]; exact H0.out.two
  clear H0 HE
  go_wp2
  go_ret
  exact ⟨rfl, H2.out⟩

theorem one_any {w0 : World} {A : Ad} {R : Ar} {S : Sp} {kb : Nat} (o : Op21) (w : World) (h : Two w0 A R S w) (hi : Inv S kb) (hkb : kb ≤ 50000) (hn : A.C.n7 = R.C.n7) :
    Calls Tryz.prog 11 #[.pointer (some ⟨A.b, 0, none⟩), .pointer (some ⟨R.b, 0, none⟩), .agg o.cells.toArray] w fun e w' => e = .returned (.bool true) ∧ Two w0 A R (S.op o) w' := by
  obtain ⟨k, t, f, s, n, b⟩ := o
  by_cases q0 : k = 0
  · subst q0
    exact one_0 t f s n b w h hi hkb hn
  by_cases q1 : k = 1
  · subst q1
    exact one_1 t f s n b w h hi hkb hn
  by_cases q2 : k = 2
  · subst q2
    exact one_2 t f s n b w h hi hkb hn
  by_cases q3 : k = 3
  · subst q3
    exact one_3 t f s n b w h hi hkb hn
  by_cases q4 : k = 4
  · subst q4
    exact one_4 t f s n b w h hi hkb hn
  by_cases q5 : k = 5
  · subst q5
    exact one_5 t f s n b w h hi hkb hn
  by_cases q6 : k = 6
  · subst q6
    exact one_6 t f s n b w h hi hkb hn
  by_cases q7 : k = 7
  · subst q7
    exact one_7 t f s n b w h hi hkb hn
  by_cases q8 : k = 8
  · subst q8
    exact one_8 t f s n b w h hi hkb hn
  by_cases q9 : k = 9
  · subst q9
    exact one_9 t f s n b w h hi hkb hn
  by_cases q10 : k = 10
  · subst q10
    exact one_10 t f s n b w h hi hkb hn
  by_cases q11 : k = 11
  · subst q11
    exact one_11 t f s n b w h hi hkb hn
  by_cases q12 : k = 12
  · subst q12
    exact one_12 t f s n b w h hi hkb hn
  by_cases q13 : k = 13
  · subst q13
    exact one_13 t f s n b w h hi hkb hn
  exact one_else k t f s n b w h (by omega)
end Go.Proofs.YtahpnnjemjjfhaaGreat

/-
  What both spaces tell, side by side.
-/
namespace Go.Proofs.YtahpnnjemjjfhaaGreat
open Go.RowKit

section
variable {w0 u : World} {A : Ad} {R : Ar} {S : Sp}
theorem two_counts (h : Two w0 A R S u) : Calls Tryz.prog 12 #[.pointer (some ⟨A.tb, 0, none⟩)] u fun e u' => e = .returned (.tuple #[.int .i64 (cnt S.T 0 S.n), .int .i64 (cnt S.T 1 S.n), .int .i64 (cnt S.T 2 S.n)]) ∧ Kept u u' := by
  obtain ⟨⟨c, c', a, r, _⟩, _⟩ := h
  exact tcounts_any u a.tab
theorem two_rcounts (h : Two w0 A R S u) (hs : Snd S) : Calls Tryz.prog 13 #[.pointer (some ⟨R.tb, 0, none⟩)] u fun e u' => e = .returned (.tuple #[.int .i64 (cnt S.T 0 S.n), .int .i64 (cnt S.T 1 S.n), .int .i64 (cnt S.T 2 S.n)]) ∧ Kept u u' := by
  obtain ⟨⟨c, c', a, r, _⟩, _⟩ := h
  obtain ⟨T', t, e⟩ := r.tab
  rw [← e.cnt 0, ← e.cnt 1, ← e.cnt 2]
  exact trcounts_any u t fun j hj => by rw [(e j hj).1]; exact hs.st j hj
theorem two_state (i : Int) (h : Two w0 A R S u) : Calls Tryz.prog 14 #[.pointer (some ⟨A.tb, 0, none⟩), .int .i64 i] u fun e u' => e = .returned (.int .i64 (stt S.n S.T i)) ∧ u' = u := by
  obtain ⟨⟨c, c', a, r, _⟩, _⟩ := h
  exact tstate_any i u a.tab
theorem two_rstate (i : Int) (h : Two w0 A R S u) : Calls Tryz.prog 15 #[.pointer (some ⟨R.tb, 0, none⟩), .int .i64 i] u fun e u' => e = .returned (.int .i64 (stt S.n S.T i)) ∧ u' = u := by
  obtain ⟨⟨c, c', a, r, _⟩, _⟩ := h
  obtain ⟨T', t, e⟩ := r.tab
  rw [← e.stt]
  exact trstate_any i u t
theorem two_head (i : Int) (h : Two w0 A R S u) : Calls Tryz.prog 16 #[.pointer (some ⟨A.tb, 0, none⟩), .int .i64 i] u fun e u' => e = .returned (.bool (hdd S.n S.T i)) ∧ u' = u := by
  obtain ⟨⟨c, c', a, r, _⟩, _⟩ := h
  exact thead_any i u a.tab
theorem two_rhead (i : Int) (h : Two w0 A R S u) : Calls Tryz.prog 17 #[.pointer (some ⟨R.tb, 0, none⟩), .int .i64 i] u fun e u' => e = .returned (.bool (hdd S.n S.T i)) ∧ u' = u := by
  obtain ⟨⟨c, c', a, r, _⟩, _⟩ := h
  obtain ⟨T', t, e⟩ := r.tab
  rw [← e.hdd]
  exact trhead_any i u t
theorem two_black (i : Int) (h : Two w0 A R S u) : Calls Tryz.prog 18 #[.pointer (some ⟨A.tb, 0, none⟩), .int .i64 i, .bool true] u fun e u' => e = .returned (.bool (blk S.n S.T i true)) ∧ u' = u := by
  obtain ⟨⟨c, c', a, r, _⟩, _⟩ := h
  exact tblack_any i true u a.tab
theorem two_rblack (i : Int) (h : Two w0 A R S u) : Calls Tryz.prog 19 #[.pointer (some ⟨R.tb, 0, none⟩), .int .i64 i, .bool true] u fun e u' => e = .returned (.bool (blk S.n S.T i true)) ∧ u' = u := by
  obtain ⟨⟨c, c', a, r, _⟩, _⟩ := h
  obtain ⟨T', t, e⟩ := r.tab
  rw [← e.blk]
  exact trblack_any i true u t
theorem two_count (h : Two w0 A R S u) : Calls Tryz.prog 20 #[.pointer (some ⟨A.b, 0, none⟩)] u fun e u' => e = .returned (.int .i64 S.ct) ∧ u' = u := by
  obtain ⟨⟨c, c', a, r, _⟩, _⟩ := h
  exact wcount_any u a
theorem two_waits (h : Two w0 A R S u) : Calls Tryz.prog 21 #[.pointer (some ⟨A.b, 0, none⟩)] u fun e u' => e = .returned (.int .i64 ((wts S.E).length : Int)) ∧ Kept u u' := by
  obtain ⟨⟨c, c', a, r, _⟩, _⟩ := h
  exact wwaits_any u a
theorem two_rwaits (h : Two w0 A R S u) : Calls Tryz.prog 22 #[.pointer (some ⟨R.b, 0, none⟩)] u fun e u' => e = .returned (.int .i64 ((wts S.E).length : Int)) ∧ u' = u := by
  obtain ⟨⟨c, c', a, r, _⟩, _⟩ := h
  exact rwaits_any u r
theorem two_free (h : Two w0 A R S u) : Calls Tryz.prog 23 #[.pointer (some ⟨A.b, 0, none⟩)] u fun e u' => e = .returned (.int .i64 (cntB S.F S.n : Int)) ∧ u' = u := by
  obtain ⟨⟨c, c', a, r, _⟩, _⟩ := h
  exact wfrees_any u a
theorem two_rfree (h : Two w0 A R S u) : Calls Tryz.prog 24 #[.pointer (some ⟨R.pb, 0, none⟩)] u fun e u' => e = .returned (.int .i64 (cntB S.F S.n : Int)) ∧ u' = u := by
  obtain ⟨⟨c, c', a, r, _⟩, _⟩ := h
  exact prfree_any u r.pool
theorem two_coil (h : Two w0 A R S u) : Calls Tryz.prog 10 #[.pointer (some ⟨A.b, 0, none⟩)] u fun e u' => e = .returned (.pointer (some ⟨A.kb, 0, none⟩)) ∧ u' = u := by
  obtain ⟨⟨c, c', a, r, _⟩, _⟩ := h
  exact wcoil_any u a
theorem two_current (h : Two w0 A R S u) : Calls Tryz.prog 25 #[.pointer (some ⟨A.kb, 0, none⟩)] u fun e u' => e = .returned (.int .i64 (S.K.c : Int)) ∧ u' = u := by
  obtain ⟨⟨c, c', a, r, _⟩, _⟩ := h
  exact kcurrent_any u a.coil
theorem two_left (h : Two w0 A R S u) : Calls Tryz.prog 28 #[.pointer (some ⟨A.kb, 0, none⟩)] u fun e u' => e = .returned (.int .i64 (S.K.k : Int)) ∧ u' = u := by
  obtain ⟨⟨c, c', a, r, _⟩, _⟩ := h
  exact kleft_any u a.coil
theorem two_room (h : Two w0 A R S u) : Calls Tryz.prog 26 #[.pointer (some ⟨A.kb, 0, none⟩)] u fun e u' => e = .returned (.int .i64 (roomF S.K)) ∧ Kept u u' := by
  obtain ⟨⟨c, c', a, r, _⟩, _⟩ := h
  exact kroom_any u a.coil
theorem two_rroom (h : Two w0 A R S u) : Calls Tryz.prog 27 #[.pointer (some ⟨R.kb, 0, none⟩)] u fun e u' => e = .returned (.int .i64 (roomF S.K)) ∧ Kept u u' := by
  obtain ⟨⟨c, c', a, r, _⟩, _⟩ := h
  exact krroom_any u r.coil
theorem Two.r10 (h : Two w0 A R S u) : u.cell? ⟨R.b, 10, none⟩ = some (.pointer (some ⟨R.pb, 0, none⟩)) := by
  obtain ⟨⟨c, c', a, r, _⟩, _⟩ := h
  exact r.cell (i := 10) (u := .pointer (some ⟨R.pb, 0, none⟩)) fun _ _ => rfl
theorem Two.r14 (h : Two w0 A R S u) : u.cell? ⟨R.b, 14, none⟩ = some (.pointer (some ⟨R.kb, 0, none⟩)) := by
  obtain ⟨⟨c, c', a, r, _⟩, _⟩ := h
  exact r.cell (i := 14) (u := .pointer (some ⟨R.kb, 0, none⟩)) fun _ _ => rfl
theorem Two.r16 (h : Two w0 A R S u) : u.cell? ⟨R.b, 16, none⟩ = some (.int .i64 S.ct) := by
  obtain ⟨⟨c, c', a, r, _⟩, _⟩ := h
  exact r.cell (i := 16) (u := .int .i64 S.ct) fun _ _ => rfl
theorem Two.k1 (h : Two w0 A R S u) : u.cell? ⟨R.kb, 1, none⟩ = some (.int .i64 (S.K.c : Int)) := by
  obtain ⟨⟨c, c', a, r, _⟩, _⟩ := h
  exact r.coil.c1
theorem Two.k2 (h : Two w0 A R S u) : u.cell? ⟨R.kb, 2, none⟩ = some (.int .i64 (S.K.k : Int)) := by
  obtain ⟨⟨c, c', a, r, _⟩, _⟩ := h
  exact r.coil.c2

/-- Both were made. -/
theorem two_made {w w1 w2 w3 w4 : World} {n s m ch : Nat} {tb tg : Nat} {rb gs gh gc : Nat} {c c' : Nat → Nat} (k1 : Kept w w1) (l1 : w.heap.size ≤ tb ∧ w.heap.size ≤ tg) (t1 : tb < w1.heap.size ∧ tg < w1.heap.size) (k2 : Kept w1 w2)
    (l2 : w1.heap.size ≤ rb ∧ w1.heap.size ≤ gs ∧ w1.heap.size ≤ gh ∧ w1.heap.size ≤ gc) (t2 : rb < w2.heap.size ∧ gs < w2.heap.size ∧ gh < w2.heap.size ∧ gc < w2.heap.size)
    (a : SH w3 c A (Sp.new n s m ch)) (hc : ∀ k, c k ≠ 0 → k = tb ∨ k = tg ∨ w2.heap.size ≤ k) (m3 : Mut [tg] w2 w3)
    (r : RSH w.heap.size w4 c' R (Sp.new n s m ch)) (hr : ∀ k, c' k ≠ 0 → k = rb ∨ k = gs ∨ k = gh ∨ k = gc ∨ w3.heap.size ≤ k) (k4 : Kept w3 w4) : Two w A R (Sp.new n s m ch) w4 := by
  have z1 := k1.size
  have z2 := k2.size
  have z3 := m3.size
  refine ⟨⟨c, c', a.kept k4, r, fun k hk => ?_, fun k hk => ?_⟩, ((k1.trans k2).muts m3 fun k hk => by rw [List.mem_singleton.1 hk]; exact l1.2).trans k4⟩
  · have h1 := hc k hk
    have h2 := a.low k hk
    by_cases e : c' k = 0
    · exact e
    · have h3 := hr k e
      omega
  · have := hc k hk
    omega
end
end Go.Proofs.YtahpnnjemjjfhaaGreat

