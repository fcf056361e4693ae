/-
  Package graph: what an operation puts into its A.
-/
import Derived.Test.YtbmcbkebcchjmaaGreatDoorGraDz20
import Derived.Test.YtbmcbkebcchjmaaGreatDoorGraI20
namespace Go.Proofs.YtbmcbkebcchjmaaGreatDoor
open Go.RowKit
attribute [local go_sem] run_store_complex
section
variable {C : Cf} {base p : Nat} {F : List Nat} {A : Ga}

theorem nil_look (k : Int) (W : World) : (Instr.lookup 72 (.map none) (.int .i64 k) true).run Tryz.prog W = .ok (.tuple #[.agg #[.bool false, .complex .f64 0 0], .bool false]) W := by kernel_rfl
set_option maxHeartbeats 4000000 in
theorem read_none {w : World} (h : GrA C w base p F A) (O : C.Ok) {i : Nat} (hi : i < A.E.length) {g cap : Nat} (hg : A.tv = .slice (some ⟨g, 0, none⟩) A.E.length cap) (hst : A.E[i].p.st = none) {j : Nat} (hj : C.A A.E[i].p.kd = false → j < C.L A.E[i].p.kd) :
    Calls Tryz.prog 60 #[.pointer (some ⟨p, 0, none⟩), .pointer (some ⟨g, i * 3, none⟩), .int .i64 (j : Int)] w fun e w' => e = .returned (V.val (if C.isR A.E[i].p.kd j then noneV else zerV)) ∧ Kept w w' := by
  have hgl := h.thlt hg
  have hb : A.E[i].b = none := by
    rcases h.ths _ (List.getElem_mem hi) with e | ⟨b, k, v, _, e, _⟩
    · exact e.1
    · rw [hst] at e; cases e
  have t2 : w.cell? ⟨g, i * 3 + 2, none⟩ = some (.map none) := h.thing hg hi (j := 2) (by simp [Th.cs, hb])
  have q2 := fun (B : Array Value) (t : TypeId) => (((Kept.refl w).alloc B t).cell (a := ⟨g, i * 3 + 2, none⟩) hgl).trans t2
  have HR : Hid (∀ W, Kept w W → Calls Tryz.prog 57 #[.pointer (some ⟨p, 0, none⟩), .pointer (some ⟨g, i * 3, none⟩), .int .i64 (j : Int)] W fun e w' => e = .returned (.bool (C.isR A.E[i].p.kd j)) ∧ Kept W w') := fun W q => isRef_any (h.kept q) O hi hg hj
  have hnl := nil_look
  clear h O hst hj hb hg t2 hgl
  generalize C.isR A.E[i].p.kd j = rr at *
  go_enter Tryz.func60, Tryz.ntmps60
  go_wp2_with fail
  generalize hW1 : w.alloc _ = W1
  have s1 : W1.heap.size = w.heap.size + 1 := by rw [← hW1]; simp
  have K1 : Hid (Kept w W1) := by rw [← hW1]; exact (Kept.refl _).alloc _ _
  have Y1 : Hid (Blk W1 w.heap.size [.bool false, .complex .f64 0 0]) := by rw [← hW1]; exact Blk.new w _ _
  clear hW1
  generalize hW2 : W1.alloc _ = W2
  have K2 : Hid (Kept w W2) := by rw [← hW2]; exact K1.out.alloc _ _
  have Y2 : Hid (Blk W2 w.heap.size [.bool false, .complex .f64 0 0]) := by rw [← hW2]; exact Y1.out.kept ((Kept.refl _).alloc _ _)
  clear hW2 s1 K1 Y1 q2
  refine (HR.out _ K2.out).mono ?_
  rintro e w3 ⟨rfl, K⟩
  have K3 : Hid (Kept w w3) := K2.out.trans K
  have Y3 : Hid (Blk w3 w.heap.size [.bool false, .complex .f64 0 0]) := Y2.out.kept K
  clear K K2 Y2
  cases rr
  · go_wp2_with fail
    refine (gnumber_any 0 0 _).mono ?_
    rintro e w4 ⟨rfl, K⟩
    have K4 : Hid (Kept w w4) := K3.out.trans K
    have Y4 : Hid (Blk w4 w.heap.size [.bool false, .complex .f64 0 0]) := Y3.out.kept K
    clear K K3 Y3
    have y0 := Y4.out.at 0 rfl
    have y1 := Y4.out.at 1 rfl
    have yf := Y4.out.fz
    go_wp2
    exact bodyPost_ret_by (results_blk rfl _ _ w.heap.size zerV.cs rfl ((Y4.out.set (i := 0) rfl _).set (i := 1) rfl _) Tryz.underlying34 (by kernel_rfl)) rfl
      ⟨rfl, (K4.out.setCell (by simp) _).setCell (by simp) _⟩
  · go_wp2_with fail
    refine (gnone_any _).mono ?_
    unfold noneV V.val
    dsimp only
    rintro e w4 ⟨rfl, K⟩
    have K4 : Hid (Kept w w4) := K3.out.trans K
    have Y4 : Hid (Blk w4 w.heap.size [.bool false, .complex .f64 0 0]) := Y3.out.kept K
    clear K K3 Y3
    have y0 := Y4.out.at 0 rfl
    have y1 := Y4.out.at 1 rfl
    have yf := Y4.out.fz
    go_wp2
    exact bodyPost_ret_by (results_blk rfl _ _ w.heap.size noneV.cs rfl ((Y4.out.set (i := 0) rfl _).set (i := 1) rfl _) Tryz.underlying34 (by kernel_rfl)) rfl
      ⟨rfl, (K4.out.setCell (by simp) _).setCell (by simp) _⟩

set_option maxHeartbeats 4000000 in
theorem result_2 {w : World} (h : GrA C w base p F A) (o : OP) (hk : o.k = 2) (kd : Nat) (hb : o.b = (kd : Int)) (hkd : kd < C.l) (hE : A.E.length < 1000) (hB : base ≤ w.heap.size) :
    Calls Tryz.prog 38 #[.pointer (some ⟨p, 0, none⟩), A.lv, o.val] w fun e w' => e = .returned (refV A.E.length).val ∧ Res C base p F A (A.E.map Th.p ++ [⟨kd, o.n, none⟩]) w w' := by
  have HM : Hid (∀ W, Kept w W → Calls Tryz.prog 59 #[.pointer (some ⟨p, 0, none⟩), o.val] W fun e w' => e = .returned (refV A.E.length).val ∧ Res C base p F A (A.E.map Th.p ++ [⟨kd, o.n, none⟩]) W w') := fun W q => made_2 (h.kept q) o hk kd hb hkd hE (Nat.le_trans hB q.size)
  have HF : Hid (∀ k ∈ F, k < w.heap.size) := fun k hk => (h.lt k hk).2
  clear h
  obtain ⟨k, a, b, c, n, x, y⟩ := o
  unfold OP.val at *
  dsimp only at *
  subst hk hb
  go_enter Tryz.func38, Tryz.ntmps38
  go_wp2_with fail
  generalize hW1 : w.alloc _ = W1
  have B1 : Hid (Blk W1 w.heap.size [.int .i64 ((2 : Nat) : Int), .int .i64 a, .int .i64 kd, .int .i64 c, .int .i64 n, .complex .f64 x y]) := by rw [← hW1]; exact Blk.new w _ _
  have K1 : Hid (Kept w W1) := by rw [← hW1]; exact (Kept.refl w).alloc _ _
  have s1 : W1.heap.size = w.heap.size + 1 := by rw [← hW1]; simp
  clear hW1
  generalize hW2 : W1.alloc _ = W2
  have HY : Hid (Blk W2 (w.heap.size + 1) [.bool false, .complex .f64 0 0]) := by rw [← hW2, ← s1]; exact Blk.new W1 _ _
  have B2 : Hid (Blk W2 w.heap.size [.int .i64 ((2 : Nat) : Int), .int .i64 a, .int .i64 kd, .int .i64 c, .int .i64 n, .complex .f64 x y]) := by rw [← hW2]; exact B1.out.kept ((Kept.refl W1).alloc _ _)
  have K2 : Hid (Kept w W2) := by rw [← hW2]; exact K1.out.alloc _ _
  have hs2 : W2.heap.size = w.heap.size + 1 + 1 := by rw [← hW2]; simp [s1]
  have HS : Hid (W2.heap.size = w.heap.size + 1 + 1) := hs2
  clear hs2
  clear hW2 B1 K1 s1
  have d0 := B2.out.at 0 rfl
  have d1 := B2.out.at 1 rfl
  have d2 := B2.out.at 2 rfl
  have d3 := B2.out.at 3 rfl
  have d4 := B2.out.at 4 rfl
  have d5 := B2.out.at 5 rfl
  go_wp2_with fail
  refine (HM.out _ K2.out).mono ?_
  rintro e w3 ⟨rfl, hres⟩
  have HRes : Hid (Res C base p F A _ W2 w3) := hres
  have HY3 : Hid (Blk w3 (w.heap.size + 1) [.bool false, .complex .f64 0 0]) := by
    obtain ⟨F', A', _, g, _⟩ := hres
    exact g.blk HY.out (fun q => by have := HF.out _ q; omega)
  clear hres d0 d1 d2 d3 d4 d5
  unfold refV V.val
  dsimp only
  have y0 := HY3.out.at 0 rfl
  have y1 := HY3.out.at 1 rfl
  have yf := HY3.out.fz
  go_wp2
  (try simp only [Exit.inBlock, Exit.then])
  exact bodyPost_ret_by (results_blk rfl _ _ (w.heap.size + 1) (refV A.E.length).cs rfl ((HY3.out.set (i := 0) rfl _).set (i := 1) rfl _) Tryz.underlying34 (by kernel_rfl)) rfl
    ⟨rfl, HRes.out.write K2.out HF.out (b := w.heap.size + 1) (by omega) (by have := HS.out; omega) (((Mut.refl _ _).setCell (by simp) _).setCell (by simp) _)⟩

set_option maxHeartbeats 4000000 in
set_option maxRecDepth 10000 in
theorem result_5 {w : World} (h : GrA C w base p F A) (O : C.Ok) (o : OP) (hk : o.k = 5) {vs : List V} (hL : A.L = some vs) {i : Nat} (hi : i < A.E.length) (j : Nat) (hj : j < vs.length) (hb : o.b = (j : Int)) (hvj : vs[j] = refV i) (hst : A.E[i].p.st = none) (jn : Nat) (hn : o.n = (jn : Int)) (hA : C.A A.E[i].p.kd = true) (v : V) (hv : v = if C.isR A.E[i].p.kd jn then noneV else zerV) :
    Calls Tryz.prog 38 #[.pointer (some ⟨p, 0, none⟩), A.lv, o.val] w fun e w' => e = .returned v.val ∧ Res C base p F A (A.E.map Th.p) w w' := by
  obtain ⟨lg, lc, hlv, hlg, _, _⟩ := h.lhere hL (by omega)
  obtain ⟨g, cap, hg, hgl, _⟩ := h.here hi
  have HT : Hid (∀ W, Kept w W → Calls Tryz.prog 36 #[.pointer (some ⟨p, 0, none⟩), (refV i).val] W fun e w' => e = .returned (.pointer (some ⟨g, i * 3, none⟩)) ∧ Kept W w') := fun W q => thing_any (h.kept q) hi hg
  have HRD : Hid (∀ W, Kept w W → Calls Tryz.prog 60 #[.pointer (some ⟨p, 0, none⟩), .pointer (some ⟨g, i * 3, none⟩), .int .i64 (jn : Int)] W fun e w' => e = .returned v.val ∧ Kept W w') := fun W q => by
    rw [hv]
    exact read_none (h.kept q) O hi hg hst (fun e => by rw [hA] at e; cases e)
  have HV : Hid (lg < w.heap.size ∧ w.cell? ⟨lg, j * 2, none⟩ = some (.bool (refV i).r) ∧ w.cell? ⟨lg, j * 2 + 1, none⟩ = some (.complex .f64 (refV i).x (refV i).y)) :=
    ⟨hlg, h.local hL hlv (a := j) (j := 0) hj (by rw [hvj]; rfl), h.local hL hlv (a := j) (j := 1) hj (by rw [hvj]; rfl)⟩
  have HG : Hid (GrA C w base p F A) := h
  rw [hlv]
  clear h hlg hgl hvj hlv hg hL O hst hA hv
  generalize vs.length = vl at *
  obtain ⟨k, a, b, c, n, x, y⟩ := o
  unfold OP.val at *
  dsimp only at *
  subst hk hb hn
  unfold refV V.val at *
  dsimp only at *
  generalize floatOfInt .f64 ((i : Int) + 1) = fx at *
  go_enter Tryz.func38, Tryz.ntmps38
  go_wp2_with fail
  generalize hW1 : w.alloc _ = W1
  have B1 : Hid (Blk W1 w.heap.size [.int .i64 ((5 : Nat) : Int), .int .i64 a, .int .i64 (j : Int), .int .i64 c, .int .i64 (jn : Int), .complex .f64 x y]) := by rw [← hW1]; exact Blk.new w _ _
  have K1 : Hid (Kept w W1) := by rw [← hW1]; exact (Kept.refl w).alloc _ _
  have s1 : W1.heap.size = w.heap.size + 1 := by rw [← hW1]; simp
  clear hW1
  generalize hW2 : W1.alloc _ = W2
  have HY : Hid (Blk W2 (w.heap.size + 1) [.bool false, .complex .f64 0 0]) := by rw [← hW2, ← s1]; exact Blk.new W1 _ _
  have B2 : Hid (Blk W2 w.heap.size [.int .i64 ((5 : Nat) : Int), .int .i64 a, .int .i64 (j : Int), .int .i64 c, .int .i64 (jn : Int), .complex .f64 x y]) := by rw [← hW2]; exact B1.out.kept ((Kept.refl W1).alloc _ _)
  have K2 : Hid (Kept w W2) := by rw [← hW2]; exact K1.out.alloc _ _
  have hs2 : W2.heap.size = w.heap.size + 1 + 1 := by rw [← hW2]; simp [s1]
  have HS : Hid (W2.heap.size = w.heap.size + 1 + 1) := hs2
  clear hs2
  clear hW2 B1 K1 s1
  have d0 := B2.out.at 0 rfl
  have d1 := B2.out.at 1 rfl
  have d2 := B2.out.at 2 rfl
  have d3 := B2.out.at 3 rfl
  have d4 := B2.out.at 4 rfl
  have d5 := B2.out.at 5 rfl
  go_wp2_with fail
  clear d0 d1 d2 d3 d4 d5
  refine wp_region_phaseC [(.pointer (some ⟨p, 0, none⟩)), (.pointer (some ⟨p, 0, none⟩)), (.slice (some ⟨lg, 0, none⟩) vl lc), (.pointer (some ⟨w.heap.size, 2, none⟩)), (.int .i64 (j : Int)), (.pointer (some ⟨lg, j * 2, none⟩)), (.agg #[.bool true, .complex .f64 fx 4607182418800017408]), (.pointer (some ⟨g, i * 3, none⟩)), (.pointer (some ⟨w.heap.size, 4, none⟩)), (.int .i64 (jn : Int)), (.agg #[.bool v.r, .complex .f64 v.x v.y]), (undef)] [(18, 0), (19, 1), (20, 2), (21, 3), (22, 4), (23, 5), (24, 6), (25, 7), (26, 8), (27, 9), (28, 10)] [_, _, _, _, _, _, _, _, _, _, _, _, _, _, _, _, _, _, _, _, _, _, _, _, _, _, _, _, _, _, _, _, _, _, _, _, _, _, _, _, _, _, _, _, _, _, _, _, _, _, _, _, _, _, _, _, _, _, _, _, _, _, _, _, _, _, _, _, _, _, _, _, _, _, _, _, _, _, _, _, _, _, _, _, _, _, _, _, _, _, _, _, _, _, _, _, _, _, _, _, _, _, _, _, _, _, _, _, _, _, _, _, _, _, _, _, _, _, _, _, _, _, _, _, _, _, _, _, _] (fun d u => Blk u w.heap.size [.int .i64 ((5 : Nat) : Int), .int .i64 a, .int .i64 (j : Int), .int .i64 c, .int .i64 (jn : Int), .complex .f64 x y] ∧ JP 11 [] (fun u => Kept W2 u) (fun u => ∃ u0, Kept W2 u0 ∧ u = (u0.setCell ⟨w.heap.size + 1, 0, none⟩ (.bool v.r)).setCell ⟨w.heap.size + 1, 1, none⟩ (.complex .f64 v.x v.y)) d u) (by kernel_rfl) (by kernel_rfl) (by kernel_rfl) (by kernel_rfl) rfl ?_ ?_ ?_
  · exact ⟨B2.out.kept (Kept.refl _).drew, JP.start (Kept.refl _).drew⟩
  · intro i1 o1 ho a1 d u hh hj hi hd hc
    match i1, ho, hi, hd with
    | 0, ho, hi, hd =>
      simp only [List.getElem?_cons_zero, Option.some.injEq] at ho
      subst ho
      have g0 : a1.tmps[0]? = some (.pointer (some ⟨p, 0, none⟩)) := hh.old 0 (by kernel_rfl) rfl
      have HN : Hid (Blk u w.heap.size [.int .i64 ((5 : Nat) : Int), .int .i64 a, .int .i64 (j : Int), .int .i64 c, .int .i64 (jn : Int), .complex .f64 x y] ∧ JP 11 [] (fun u => Kept W2 u) (fun u => ∃ u0, Kept W2 u0 ∧ u = (u0.setCell ⟨w.heap.size + 1, 0, none⟩ (.bool v.r)).setCell ⟨w.heap.size + 1, 1, none⟩ (.complex .f64 v.x v.y)) (done d 0) u) := ⟨hj.1, hj.2.plain 0 (by decide)⟩
      clear hh hd hc hj hi
      refine wpOp_step rfl (fun K hK => ?_)
      go_simp
      exact hK _ _ ⟨by simp [Act.put], HN.out⟩
    | 1, ho, hi, hd =>
      simp only [List.getElem?_cons_succ, List.getElem?_cons_zero, Option.some.injEq] at ho
      subst ho
      have g0 : a1.tmps[0]? = some (.pointer (some ⟨p, 0, none⟩)) := hh.old 0 (by kernel_rfl) rfl
      have HN : Hid (Blk u w.heap.size [.int .i64 ((5 : Nat) : Int), .int .i64 a, .int .i64 (j : Int), .int .i64 c, .int .i64 (jn : Int), .complex .f64 x y] ∧ JP 11 [] (fun u => Kept W2 u) (fun u => ∃ u0, Kept W2 u0 ∧ u = (u0.setCell ⟨w.heap.size + 1, 0, none⟩ (.bool v.r)).setCell ⟨w.heap.size + 1, 1, none⟩ (.complex .f64 v.x v.y)) (done d 1) u) := ⟨hj.1, hj.2.plain 1 (by decide)⟩
      clear hh hd hc hj hi
      refine wpOp_step rfl (fun K hK => ?_)
      go_simp
      exact hK _ _ ⟨by simp [Act.put], HN.out⟩
    | 2, ho, hi, hd =>
      simp only [List.getElem?_cons_succ, List.getElem?_cons_zero, Option.some.injEq] at ho
      subst ho
      have g1 : a1.tmps[1]? = some (.slice (some ⟨lg, 0, none⟩) vl lc) := hh.old 1 (by kernel_rfl) rfl
      have HN : Hid (Blk u w.heap.size [.int .i64 ((5 : Nat) : Int), .int .i64 a, .int .i64 (j : Int), .int .i64 c, .int .i64 (jn : Int), .complex .f64 x y] ∧ JP 11 [] (fun u => Kept W2 u) (fun u => ∃ u0, Kept W2 u0 ∧ u = (u0.setCell ⟨w.heap.size + 1, 0, none⟩ (.bool v.r)).setCell ⟨w.heap.size + 1, 1, none⟩ (.complex .f64 v.x v.y)) (done d 2) u) := ⟨hj.1, hj.2.plain 2 (by decide)⟩
      clear hh hd hc hj hi
      refine wpOp_step rfl (fun K hK => ?_)
      go_simp
      exact hK _ _ ⟨by simp [Act.put], HN.out⟩
    | 3, ho, hi, hd =>
      simp only [List.getElem?_cons_succ, List.getElem?_cons_zero, Option.some.injEq] at ho
      subst ho
      have g5 : a1.tmps[5]? = some (.pointer (some ⟨w.heap.size, 0, none⟩)) := hh.old 5 (by kernel_rfl) rfl
      have HN : Hid (Blk u w.heap.size [.int .i64 ((5 : Nat) : Int), .int .i64 a, .int .i64 (j : Int), .int .i64 c, .int .i64 (jn : Int), .complex .f64 x y] ∧ JP 11 [] (fun u => Kept W2 u) (fun u => ∃ u0, Kept W2 u0 ∧ u = (u0.setCell ⟨w.heap.size + 1, 0, none⟩ (.bool v.r)).setCell ⟨w.heap.size + 1, 1, none⟩ (.complex .f64 v.x v.y)) (done d 3) u) := ⟨hj.1, hj.2.plain 3 (by decide)⟩
      clear hh hd hc hj hi
      refine wpOp_step rfl (fun K hK => ?_)
      go_simp
      exact hK _ _ ⟨by simp [Act.put], HN.out⟩
    | 4, ho, hi, hd =>
      simp only [List.getElem?_cons_succ, List.getElem?_cons_zero, Option.some.injEq] at ho
      subst ho
      have g21 : a1.tmps[21]? = some (.pointer (some ⟨w.heap.size, 2, none⟩)) := hh.did 3 _ 21 rfl rfl (hd { on := 3, ground := .data } (by simp) rfl)
      have hA := hj.1
      have nc : d 11 = false := by
        cases q : d 11 with
        | false => rfl
        | true => exact absurd (hc 11 _ rfl q { on := 4, ground := .phase } (by simp) rfl) (by simp [hi])
      have h0 := hj.2.now nc
      have d2 := hA.at 2 rfl
      have HN : Hid (Blk u w.heap.size [.int .i64 ((5 : Nat) : Int), .int .i64 a, .int .i64 (j : Int), .int .i64 c, .int .i64 (jn : Int), .complex .f64 x y] ∧ JP 11 [] (fun u => Kept W2 u) (fun u => ∃ u0, Kept W2 u0 ∧ u = (u0.setCell ⟨w.heap.size + 1, 0, none⟩ (.bool v.r)).setCell ⟨w.heap.size + 1, 1, none⟩ (.complex .f64 v.x v.y)) (done d 4) u) := ⟨hj.1, hj.2.plain 4 (by decide)⟩
      clear hh hd hc hj hi
      refine wpOp_step rfl (fun K hK => ?_)
      go_simp
      exact hK _ _ ⟨by simp [Act.put], HN.out⟩
    | 5, ho, hi, hd =>
      simp only [List.getElem?_cons_succ, List.getElem?_cons_zero, Option.some.injEq] at ho
      subst ho
      have g20 : a1.tmps[20]? = some (.slice (some ⟨lg, 0, none⟩) vl lc) := hh.did 2 _ 20 rfl rfl (hd { on := 2, ground := .data } (by simp) rfl)
      have g22 : a1.tmps[22]? = some (.int .i64 (j : Int)) := hh.did 4 _ 22 rfl rfl (hd { on := 4, ground := .data } (by simp) rfl)
      have HN : Hid (Blk u w.heap.size [.int .i64 ((5 : Nat) : Int), .int .i64 a, .int .i64 (j : Int), .int .i64 c, .int .i64 (jn : Int), .complex .f64 x y] ∧ JP 11 [] (fun u => Kept W2 u) (fun u => ∃ u0, Kept W2 u0 ∧ u = (u0.setCell ⟨w.heap.size + 1, 0, none⟩ (.bool v.r)).setCell ⟨w.heap.size + 1, 1, none⟩ (.complex .f64 v.x v.y)) (done d 5) u) := ⟨hj.1, hj.2.plain 5 (by decide)⟩
      clear hh hd hc hj hi
      refine wpOp_step rfl (fun K hK => ?_)
      go_simp
      exact hK _ _ ⟨by simp [Act.put], HN.out⟩
    | 6, ho, hi, hd =>
      simp only [List.getElem?_cons_succ, List.getElem?_cons_zero, Option.some.injEq] at ho
      subst ho
      have g23 : a1.tmps[23]? = some (.pointer (some ⟨lg, j * 2, none⟩)) := hh.did 5 _ 23 rfl rfl (hd { on := 5, ground := .data } (by simp) rfl)
      have hA := hj.1
      have nc : d 11 = false := by
        cases q : d 11 with
        | false => rfl
        | true => exact absurd (hc 11 _ rfl q { on := 6, ground := .phase } (by simp) rfl) (by simp [hi])
      have h0 := hj.2.now nc
      have v0 := ((K2.out.trans h0).cell (a := ⟨lg, j * 2, none⟩) HV.out.1).trans HV.out.2.1
      have v1 := ((K2.out.trans h0).cell (a := ⟨lg, j * 2 + 1, none⟩) HV.out.1).trans HV.out.2.2
      clear h0
      have HN : Hid (Blk u w.heap.size [.int .i64 ((5 : Nat) : Int), .int .i64 a, .int .i64 (j : Int), .int .i64 c, .int .i64 (jn : Int), .complex .f64 x y] ∧ JP 11 [] (fun u => Kept W2 u) (fun u => ∃ u0, Kept W2 u0 ∧ u = (u0.setCell ⟨w.heap.size + 1, 0, none⟩ (.bool v.r)).setCell ⟨w.heap.size + 1, 1, none⟩ (.complex .f64 v.x v.y)) (done d 6) u) := ⟨hj.1, hj.2.plain 6 (by decide)⟩
      clear hh hd hc hj hi
      refine wpOp_step rfl (fun K hK => ?_)
      go_simp
      exact hK _ _ ⟨by simp [Act.put], HN.out⟩
    | 7, ho, hi, hd =>
      simp only [List.getElem?_cons_succ, List.getElem?_cons_zero, Option.some.injEq] at ho
      subst ho
      have g19 : a1.tmps[19]? = some (.pointer (some ⟨p, 0, none⟩)) := hh.did 1 _ 19 rfl rfl (hd { on := 1, ground := .data } (by simp) rfl)
      have g24 : a1.tmps[24]? = some (.agg #[.bool true, .complex .f64 fx 4607182418800017408]) := hh.did 6 _ 24 rfl rfl (hd { on := 6, ground := .data } (by simp) rfl)
      have hA := hj.1
      have nc : d 11 = false := by
        cases q : d 11 with
        | false => rfl
        | true => exact absurd (hc 11 _ rfl q { on := 7, ground := .phase } (by simp) rfl) (by simp [hi])
      have h0 := hj.2.now nc
      have HJ : Hid (Blk u w.heap.size [.int .i64 ((5 : Nat) : Int), .int .i64 a, .int .i64 (j : Int), .int .i64 c, .int .i64 (jn : Int), .complex .f64 x y] ∧ JP 11 [] (fun u => Kept W2 u) (fun u => ∃ u0, Kept W2 u0 ∧ u = (u0.setCell ⟨w.heap.size + 1, 0, none⟩ (.bool v.r)).setCell ⟨w.heap.size + 1, 1, none⟩ (.complex .f64 v.x v.y)) d u) := hj
      have HNC : Hid (d 11 = false) := nc
      have CA : Hid (Calls _ _ _ _ _) := HT.out u (K2.out.trans h0)
      have HAA : Hid (Blk u w.heap.size [.int .i64 ((5 : Nat) : Int), .int .i64 a, .int .i64 (j : Int), .int .i64 c, .int .i64 (jn : Int), .complex .f64 x y]) := hA
      have HKU : Hid (Kept W2 u) := h0
      clear hA h0 nc
      clear hh hd hc hj hi
      refine wpOp_step rfl (fun K hK => ?_)
      go_simp
      refine CA.out.mono ?_
      rintro e u2 ⟨rfl, KK⟩
      exact hK _ _ ⟨by simp [Act.put], HAA.out.kept KK, HJ.out.2.stay HNC.out 7 (by decide) (HKU.out.trans KK)⟩
    | 8, ho, hi, hd =>
      simp only [List.getElem?_cons_succ, List.getElem?_cons_zero, Option.some.injEq] at ho
      subst ho
      have g5 : a1.tmps[5]? = some (.pointer (some ⟨w.heap.size, 0, none⟩)) := hh.old 5 (by kernel_rfl) rfl
      have HN : Hid (Blk u w.heap.size [.int .i64 ((5 : Nat) : Int), .int .i64 a, .int .i64 (j : Int), .int .i64 c, .int .i64 (jn : Int), .complex .f64 x y] ∧ JP 11 [] (fun u => Kept W2 u) (fun u => ∃ u0, Kept W2 u0 ∧ u = (u0.setCell ⟨w.heap.size + 1, 0, none⟩ (.bool v.r)).setCell ⟨w.heap.size + 1, 1, none⟩ (.complex .f64 v.x v.y)) (done d 8) u) := ⟨hj.1, hj.2.plain 8 (by decide)⟩
      clear hh hd hc hj hi
      refine wpOp_step rfl (fun K hK => ?_)
      go_simp
      exact hK _ _ ⟨by simp [Act.put], HN.out⟩
    | 9, ho, hi, hd =>
      simp only [List.getElem?_cons_succ, List.getElem?_cons_zero, Option.some.injEq] at ho
      subst ho
      have g26 : a1.tmps[26]? = some (.pointer (some ⟨w.heap.size, 4, none⟩)) := hh.did 8 _ 26 rfl rfl (hd { on := 8, ground := .data } (by simp) rfl)
      have hA := hj.1
      have nc : d 11 = false := by
        cases q : d 11 with
        | false => rfl
        | true => exact absurd (hc 11 _ rfl q { on := 9, ground := .phase } (by simp) rfl) (by simp [hi])
      have h0 := hj.2.now nc
      have d4 := hA.at 4 rfl
      have HN : Hid (Blk u w.heap.size [.int .i64 ((5 : Nat) : Int), .int .i64 a, .int .i64 (j : Int), .int .i64 c, .int .i64 (jn : Int), .complex .f64 x y] ∧ JP 11 [] (fun u => Kept W2 u) (fun u => ∃ u0, Kept W2 u0 ∧ u = (u0.setCell ⟨w.heap.size + 1, 0, none⟩ (.bool v.r)).setCell ⟨w.heap.size + 1, 1, none⟩ (.complex .f64 v.x v.y)) (done d 9) u) := ⟨hj.1, hj.2.plain 9 (by decide)⟩
      clear hh hd hc hj hi
      refine wpOp_step rfl (fun K hK => ?_)
      go_simp
      exact hK _ _ ⟨by simp [Act.put], HN.out⟩
    | 10, ho, hi, hd =>
      simp only [List.getElem?_cons_succ, List.getElem?_cons_zero, Option.some.injEq] at ho
      subst ho
      have g18 : a1.tmps[18]? = some (.pointer (some ⟨p, 0, none⟩)) := hh.did 0 _ 18 rfl rfl (hd { on := 0, ground := .data } (by simp) rfl)
      have g25 : a1.tmps[25]? = some (.pointer (some ⟨g, i * 3, none⟩)) := hh.did 7 _ 25 rfl rfl (hd { on := 7, ground := .data } (by simp) rfl)
      have g27 : a1.tmps[27]? = some (.int .i64 (jn : Int)) := hh.did 9 _ 27 rfl rfl (hd { on := 9, ground := .data } (by simp) rfl)
      have hA := hj.1
      have nc : d 11 = false := by
        cases q : d 11 with
        | false => rfl
        | true => exact absurd (hc 11 _ rfl q { on := 10, ground := .data } (by simp) rfl) (by simp [hi])
      have h0 := hj.2.now nc
      have HJ : Hid (Blk u w.heap.size [.int .i64 ((5 : Nat) : Int), .int .i64 a, .int .i64 (j : Int), .int .i64 c, .int .i64 (jn : Int), .complex .f64 x y] ∧ JP 11 [] (fun u => Kept W2 u) (fun u => ∃ u0, Kept W2 u0 ∧ u = (u0.setCell ⟨w.heap.size + 1, 0, none⟩ (.bool v.r)).setCell ⟨w.heap.size + 1, 1, none⟩ (.complex .f64 v.x v.y)) d u) := hj
      have HNC : Hid (d 11 = false) := nc
      have CA : Hid (Calls _ _ _ _ _) := HRD.out u (K2.out.trans h0)
      have HAA : Hid (Blk u w.heap.size [.int .i64 ((5 : Nat) : Int), .int .i64 a, .int .i64 (j : Int), .int .i64 c, .int .i64 (jn : Int), .complex .f64 x y]) := hA
      have HKU : Hid (Kept W2 u) := h0
      clear hA h0 nc
      clear hh hd hc hj hi
      refine wpOp_step rfl (fun K hK => ?_)
      go_simp
      refine CA.out.mono ?_
      rintro e u2 ⟨rfl, KK⟩
      exact hK _ _ ⟨by simp [Act.put], HAA.out.kept KK, HJ.out.2.stay HNC.out 10 (by decide) (HKU.out.trans KK)⟩
    | 11, ho, hi, hd =>
      simp only [List.getElem?_cons_succ, List.getElem?_cons_zero, Option.some.injEq] at ho
      subst ho
      have g6 : a1.tmps[6]? = some (.pointer (some ⟨w.heap.size + 1, 0, none⟩)) := hh.old 6 (by kernel_rfl) rfl
      have g28 : a1.tmps[28]? = some (.agg #[.bool v.r, .complex .f64 v.x v.y]) := hh.did 10 _ 28 rfl rfl (hd { on := 10, ground := .data } (by simp) rfl)
      have hA := hj.1
      have h0 := hj.2.now hi
      have HJ : Hid (Blk u w.heap.size [.int .i64 ((5 : Nat) : Int), .int .i64 a, .int .i64 (j : Int), .int .i64 c, .int .i64 (jn : Int), .complex .f64 x y] ∧ JP 11 [] (fun u => Kept W2 u) (fun u => ∃ u0, Kept W2 u0 ∧ u = (u0.setCell ⟨w.heap.size + 1, 0, none⟩ (.bool v.r)).setCell ⟨w.heap.size + 1, 1, none⟩ (.complex .f64 v.x v.y)) d u) := hj
      have HI : Hid (d 11 = false) := hi
      have HY2 := HY.out.kept h0
      have y0 := HY2.at 0 rfl
      have y1 := HY2.at 1 rfl
      have yf := HY2.fz
      have HAA : Hid (Blk u w.heap.size [.int .i64 ((5 : Nat) : Int), .int .i64 a, .int .i64 (j : Int), .int .i64 c, .int .i64 (jn : Int), .complex .f64 x y]) := hA
      have HKU : Hid (Kept W2 u) := h0
      clear hA h0 HY2
      clear hh hd hc hj hi
      refine wpOp_step rfl (fun K hK => ?_)
      go_simp
      exact hK _ _ ⟨by simp [Act.put], (HAA.out.set_other (by simp) _).set_other (by simp) _, JP.turn (by simp) ⟨u, HKU.out, rfl⟩⟩
    | n + 12, ho, hi, hd => simp at ho
  · intro u d hall hj
    have hA := hj.1
    have h1 := hj.2.fin (hall 11 (by decide))
    clear hall hj
    clear hA
    obtain ⟨u0, k0, rfl⟩ := h1
    simp only [List.getD_cons_succ, List.getD_cons_zero]
    have HK0 : Hid (Kept W2 u0) := k0
    clear k0
    go_wp2
    (try simp only [Exit.inBlock, Exit.then])
    exact bodyPost_ret_by (results_blk rfl _ _ (w.heap.size + 1) v.cs rfl (((HY.out.kept HK0.out).set (i := 0) rfl _).set (i := 1) rfl _) Tryz.underlying34 (by kernel_rfl)) rfl
      ⟨rfl, Res.kept HG.out (((K2.out.trans HK0.out).setCell (by simp) _).setCell (by simp) _)⟩

set_option maxHeartbeats 4000000 in
set_option maxRecDepth 10000 in
theorem result_10 {w : World} (h : GrA C w base p F A) (o : OP) (hk : o.k = 10) {vs : List V} (hL : A.L = some vs) {i : Nat} (hi : i < A.E.length) (j : Nat) (hj : j < vs.length) (hb : o.b = (j : Int)) (hvj : vs[j] = refV i) (z : Int) (hz : A.E[i].p.ln = z) (hz1 : -9007199254740992 ≤ z) (hz2 : z ≤ 9007199254740992) :
    Calls Tryz.prog 38 #[.pointer (some ⟨p, 0, none⟩), A.lv, o.val] w fun e w' => e = .returned (numV z).val ∧ Res C base p F A (A.E.map Th.p) w w' := by
  obtain ⟨lg, lc, hlv, hlg, _, _⟩ := h.lhere hL (by omega)
  obtain ⟨g, cap, hg, hgl, _⟩ := h.here hi
  have HT : Hid (∀ W, Kept w W → Calls Tryz.prog 36 #[.pointer (some ⟨p, 0, none⟩), (refV i).val] W fun e w' => e = .returned (.pointer (some ⟨g, i * 3, none⟩)) ∧ Kept W w') := fun W q => thing_any (h.kept q) hi hg
  have HL : Hid (g < w.heap.size ∧ w.cell? ⟨g, i * 3 + 1, none⟩ = some (.int .i64 z)) := ⟨hgl, by rw [← hz]; exact h.thing hg hi (j := 1) rfl⟩
  have HW : Hid (∀ W, Calls Tryz.prog 63 #[.int .i64 z] W fun e w' => e = .returned (.complex .f64 (floatOfInt .f64 z) 0) ∧ w' = W) := fun W => whole_in z W hz1 hz2
  have HV : Hid (lg < w.heap.size ∧ w.cell? ⟨lg, j * 2, none⟩ = some (.bool (refV i).r) ∧ w.cell? ⟨lg, j * 2 + 1, none⟩ = some (.complex .f64 (refV i).x (refV i).y)) :=
    ⟨hlg, h.local hL hlv (a := j) (j := 0) hj (by rw [hvj]; rfl), h.local hL hlv (a := j) (j := 1) hj (by rw [hvj]; rfl)⟩
  have HG : Hid (GrA C w base p F A) := h
  rw [hlv]
  clear h hlg hgl hvj hlv hg hL hz hz1 hz2
  generalize vs.length = vl at *
  obtain ⟨k, a, b, c, n, x, y⟩ := o
  unfold OP.val at *
  dsimp only at *
  subst hk hb
  unfold refV numV V.val at *
  dsimp only at *
  generalize floatOfInt .f64 ((i : Int) + 1) = fx at *
  generalize hzz : floatOfInt .f64 z = fz at *
  have v0 := fun (B D : Array Value) (t s : TypeId) => ((((Kept.refl w).alloc B t).alloc D s).cell (a := ⟨lg, j * 2, none⟩) HV.out.1).trans HV.out.2.1
  have v1 := fun (B D : Array Value) (t s : TypeId) => ((((Kept.refl w).alloc B t).alloc D s).cell (a := ⟨lg, j * 2 + 1, none⟩) HV.out.1).trans HV.out.2.2
  go_enter Tryz.func38, Tryz.ntmps38
  go_wp2_with fail
  generalize hW1 : w.alloc _ = W1
  have B1 : Hid (Blk W1 w.heap.size [.int .i64 ((10 : Nat) : Int), .int .i64 a, .int .i64 (j : Int), .int .i64 c, .int .i64 n, .complex .f64 x y]) := by rw [← hW1]; exact Blk.new w _ _
  have K1 : Hid (Kept w W1) := by rw [← hW1]; exact (Kept.refl w).alloc _ _
  have s1 : W1.heap.size = w.heap.size + 1 := by rw [← hW1]; simp
  clear hW1
  generalize hW2 : W1.alloc _ = W2
  have HY : Hid (Blk W2 (w.heap.size + 1) [.bool false, .complex .f64 0 0]) := by rw [← hW2, ← s1]; exact Blk.new W1 _ _
  have B2 : Hid (Blk W2 w.heap.size [.int .i64 ((10 : Nat) : Int), .int .i64 a, .int .i64 (j : Int), .int .i64 c, .int .i64 n, .complex .f64 x y]) := by rw [← hW2]; exact B1.out.kept ((Kept.refl W1).alloc _ _)
  have K2 : Hid (Kept w W2) := by rw [← hW2]; exact K1.out.alloc _ _
  have hs2 : W2.heap.size = w.heap.size + 1 + 1 := by rw [← hW2]; simp [s1]
  have HS : Hid (W2.heap.size = w.heap.size + 1 + 1) := hs2
  clear hs2
  clear hW2 B1 K1 s1
  refine (HT.out _ K2.out).mono ?_
  rintro e w3 ⟨rfl, K⟩
  have K3 : Hid (Kept w w3) := K2.out.trans K
  have Y3 : Hid (Blk w3 (w.heap.size + 1) [.bool false, .complex .f64 0 0]) := HY.out.kept K
  clear K K2 HY v0 v1 B2
  have e1 := (K3.out.cell (a := ⟨g, i * 3 + 1, none⟩) HL.out.1).trans HL.out.2
  go_wp2_with fail
  refine (HW.out _).mono ?_
  rintro e w4 ⟨rfl, e4⟩
  rw [e4]
  clear e4 e1
  go_wp2_with fail
  refine (gnumber_any _ _ _).mono ?_
  rintro e w5 ⟨rfl, K⟩
  have K5 : Hid (Kept w w5) := K3.out.trans K
  have HY3 : Hid (Blk w5 (w.heap.size + 1) [.bool false, .complex .f64 0 0]) := Y3.out.kept K
  clear K K3 Y3
  have y0 := HY3.out.at 0 rfl
  have y1 := HY3.out.at 1 rfl
  have yf := HY3.out.fz
  go_wp2
  (try simp only [Exit.inBlock, Exit.then])
  exact bodyPost_ret_by (results_blk rfl _ _ (w.heap.size + 1) [.bool false, .complex .f64 fz 0] rfl ((HY3.out.set (i := 0) rfl _).set (i := 1) rfl _) Tryz.underlying34 (by kernel_rfl)) rfl
    ⟨rfl, Res.kept HG.out ((K5.out.setCell (by simp) _).setCell (by simp) _)⟩

set_option maxHeartbeats 4000000 in
set_option maxRecDepth 10000 in
theorem result_11 {w : World} (h : GrA C w base p F A) (o : OP) (hk : o.k = 11) {vs : List V} (hL : A.L = some vs) {i : Nat} (hi : i < A.E.length) (j : Nat) (hj : j < vs.length) (hb : o.b = (j : Int)) (hvj : vs[j] = refV i) (z : Int) (hz : (A.E[i].p.kd : Int) = z) (hz1 : -9007199254740992 ≤ z) (hz2 : z ≤ 9007199254740992) :
    Calls Tryz.prog 38 #[.pointer (some ⟨p, 0, none⟩), A.lv, o.val] w fun e w' => e = .returned (numV z).val ∧ Res C base p F A (A.E.map Th.p) w w' := by
  obtain ⟨lg, lc, hlv, hlg, _, _⟩ := h.lhere hL (by omega)
  obtain ⟨g, cap, hg, hgl, _⟩ := h.here hi
  have HT : Hid (∀ W, Kept w W → Calls Tryz.prog 36 #[.pointer (some ⟨p, 0, none⟩), (refV i).val] W fun e w' => e = .returned (.pointer (some ⟨g, i * 3, none⟩)) ∧ Kept W w') := fun W q => thing_any (h.kept q) hi hg
  have HL : Hid (g < w.heap.size ∧ w.cell? ⟨g, i * 3, none⟩ = some (.int .i64 z)) := ⟨hgl, by rw [← hz]; exact h.thing hg hi (j := 0) rfl⟩
  have HW : Hid (∀ W, Calls Tryz.prog 63 #[.int .i64 z] W fun e w' => e = .returned (.complex .f64 (floatOfInt .f64 z) 0) ∧ w' = W) := fun W => whole_in z W hz1 hz2
  have HV : Hid (lg < w.heap.size ∧ w.cell? ⟨lg, j * 2, none⟩ = some (.bool (refV i).r) ∧ w.cell? ⟨lg, j * 2 + 1, none⟩ = some (.complex .f64 (refV i).x (refV i).y)) :=
    ⟨hlg, h.local hL hlv (a := j) (j := 0) hj (by rw [hvj]; rfl), h.local hL hlv (a := j) (j := 1) hj (by rw [hvj]; rfl)⟩
  have HG : Hid (GrA C w base p F A) := h
  rw [hlv]
  clear h hlg hgl hvj hlv hg hL hz hz1 hz2
  generalize vs.length = vl at *
  obtain ⟨k, a, b, c, n, x, y⟩ := o
  unfold OP.val at *
  dsimp only at *
  subst hk hb
  unfold refV numV V.val at *
  dsimp only at *
  generalize floatOfInt .f64 ((i : Int) + 1) = fx at *
  generalize hzz : floatOfInt .f64 z = fz at *
  have v0 := fun (B D : Array Value) (t s : TypeId) => ((((Kept.refl w).alloc B t).alloc D s).cell (a := ⟨lg, j * 2, none⟩) HV.out.1).trans HV.out.2.1
  have v1 := fun (B D : Array Value) (t s : TypeId) => ((((Kept.refl w).alloc B t).alloc D s).cell (a := ⟨lg, j * 2 + 1, none⟩) HV.out.1).trans HV.out.2.2
  go_enter Tryz.func38, Tryz.ntmps38
  go_wp2_with fail
  generalize hW1 : w.alloc _ = W1
  have B1 : Hid (Blk W1 w.heap.size [.int .i64 ((11 : Nat) : Int), .int .i64 a, .int .i64 (j : Int), .int .i64 c, .int .i64 n, .complex .f64 x y]) := by rw [← hW1]; exact Blk.new w _ _
  have K1 : Hid (Kept w W1) := by rw [← hW1]; exact (Kept.refl w).alloc _ _
  have s1 : W1.heap.size = w.heap.size + 1 := by rw [← hW1]; simp
  clear hW1
  generalize hW2 : W1.alloc _ = W2
  have HY : Hid (Blk W2 (w.heap.size + 1) [.bool false, .complex .f64 0 0]) := by rw [← hW2, ← s1]; exact Blk.new W1 _ _
  have B2 : Hid (Blk W2 w.heap.size [.int .i64 ((11 : Nat) : Int), .int .i64 a, .int .i64 (j : Int), .int .i64 c, .int .i64 n, .complex .f64 x y]) := by rw [← hW2]; exact B1.out.kept ((Kept.refl W1).alloc _ _)
  have K2 : Hid (Kept w W2) := by rw [← hW2]; exact K1.out.alloc _ _
  have hs2 : W2.heap.size = w.heap.size + 1 + 1 := by rw [← hW2]; simp [s1]
  have HS : Hid (W2.heap.size = w.heap.size + 1 + 1) := hs2
  clear hs2
  clear hW2 B1 K1 s1
  refine (HT.out _ K2.out).mono ?_
  rintro e w3 ⟨rfl, K⟩
  have K3 : Hid (Kept w w3) := K2.out.trans K
  have Y3 : Hid (Blk w3 (w.heap.size + 1) [.bool false, .complex .f64 0 0]) := HY.out.kept K
  clear K K2 HY v0 v1 B2
  have e1 := (K3.out.cell (a := ⟨g, i * 3, none⟩) HL.out.1).trans HL.out.2
  go_wp2_with fail
  refine (HW.out _).mono ?_
  rintro e w4 ⟨rfl, e4⟩
  rw [e4]
  clear e4 e1
  go_wp2_with fail
  refine (gnumber_any _ _ _).mono ?_
  rintro e w5 ⟨rfl, K⟩
  have K5 : Hid (Kept w w5) := K3.out.trans K
  have HY3 : Hid (Blk w5 (w.heap.size + 1) [.bool false, .complex .f64 0 0]) := Y3.out.kept K
  clear K K3 Y3
  have y0 := HY3.out.at 0 rfl
  have y1 := HY3.out.at 1 rfl
  have yf := HY3.out.fz
  go_wp2
  (try simp only [Exit.inBlock, Exit.then])
  exact bodyPost_ret_by (results_blk rfl _ _ (w.heap.size + 1) [.bool false, .complex .f64 fz 0] rfl ((HY3.out.set (i := 0) rfl _).set (i := 1) rfl _) Tryz.underlying34 (by kernel_rfl)) rfl
    ⟨rfl, Res.kept HG.out ((K5.out.setCell (by simp) _).setCell (by simp) _)⟩
end
end Go.Proofs.YtbmcbkebcchjmaaGreatDoor
