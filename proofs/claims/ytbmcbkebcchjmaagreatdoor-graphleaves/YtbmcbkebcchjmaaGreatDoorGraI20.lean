/-
  Package graph: Do of Store.
-/
import Derived.Test.YtbmcbkebcchjmaaGreatDoorGraH20
namespace Go.Proofs.YtbmcbkebcchjmaaGreatDoor
open Go.RowKit
attribute [local go_sem] run_store_complex
section
variable {C : Cf} {base p : Nat} {F : List Nat} {A : Ga}
theorem Res.upd {T1 : List Tp} {w u : World} (h : Res C base p F A T1 w u) : Upd C base p F ⟨T1, A.L, A.G⟩ w u := by
  obtain ⟨F', A', G, gr, eL, ev, eG, eE⟩ := h
  exact ⟨F', A', G, by unfold Ga.pg; rw [eL, eG, eE], gr⟩

set_option maxHeartbeats 8000000 in
set_option maxRecDepth 10000 in
theorem do_store {w : World} (h : GrA C w base p F A) (hVs : Vs w) (O : C.Ok) {vs : List V} (hL : A.L = some vs) (o : OP) (hk : o.k = 4) (hN : ∀ l ∈ lts o.k, Names C o l) {i : Nat} (hi : i < A.E.length) (hst : A.E[i].p.st = none)
    (j : Nat) (hjl : j < vs.length) (ha : o.a = (j : Int)) (hvj : vs[j] = refV i) (jb : Nat) (hjb : jb < vs.length) (hb : o.b = (jb : Int)) (v : V) (hv : vs[jb] = v) (jn : Nat) (hn : o.n = (jn : Int)) (hjn : jn ≤ 1000000) (hA0 : C.A A.E[i].p.kd = false) (hf : jn < C.L A.E[i].p.kd) (hr : v.r = C.isR A.E[i].p.kd jn) (hB : base ≤ w.heap.size) :
    Calls Tryz.prog 17 #[.pointer (some ⟨p, 0, none⟩), .int .i64 0, o.val, .bool false] w fun e w' => e = .returned (.tuple #[zerV.val, .int .i64 0]) ∧ Upd C base p F ⟨((A.E.map Th.p).set i ⟨A.E[i].p.kd, A.E[i].p.ln, some ((jn : Int), v)⟩), A.L, A.G⟩ w w' := by
  obtain ⟨lg, lc, hlv, hlg, _, hlF⟩ := h.lhere hL (by omega)
  obtain ⟨g, cap, hg, hgl, _⟩ := h.here hi
  have hbn : A.E[i].b = none := by
    rcases h.ths A.E[i] (List.getElem_mem hi) with e | ⟨b, k, v, _, e, _⟩
    · exact e.1
    · rw [hst] at e; cases e
  have HF : Hid (w.heap.size ∉ F ∧ w.heap.size + 1 ∉ F ∧ ∀ k ∈ F, k < w.heap.size) := ⟨fun q => by have := (h.lt _ q).2; omega, fun q => by have := (h.lt _ q).2; omega, fun k q => (h.lt k q).2⟩
  have HT : Hid (∀ W, Kept w W → _) := fun W q => there_yes (h.kept q) hL
  have HG : Hid (GrA C w base p F A) := h
  have hloc := h.loc
  rw [hL] at hloc
  have HLK : Hid (∀ W, Kept w W → (Instr.lookup 57 (.map (some A.lb)) (.int .i64 0) false).run Tryz.prog W = .ok A.lv W) := fun W q => (Mp.hit (hloc.kept q) in0 Tryz.underlying57 (zeroSl W)).2
  have HR : Hid (∀ W, Kept w W → Calls Tryz.prog 35 #[.pointer (some ⟨p, 0, none⟩), A.lv, o.val, .bool false] W fun e w' => e = .returned (.int .i64 0) ∧ Kept W w') := fun W q => refusal_4 (h.kept q) (hVs.keep q) O o hk hN (fun e => by omega) hL hi j hjl ha hvj jb hjb hb jn hn hA0 hf (by rw [hv]; exact hr)
  have HT2 : Hid (∀ W, Kept w W → Calls Tryz.prog 36 #[.pointer (some ⟨p, 0, none⟩), (refV i).val] W fun e w' => e = .returned (.pointer (some ⟨g, i * 3, none⟩)) ∧ Kept W w') := fun W q => thing_any (h.kept q) hi hg
  have HST : Hid (∀ W, Kept w W → Calls Tryz.prog 37 #[.pointer (some ⟨g, i * 3, none⟩), .int .i64 (jn : Int), v.val] W fun e w' => e = .returned (.tuple #[]) ∧ Res C base p F A ((A.E.map Th.p).set i ⟨A.E[i].p.kd, A.E[i].p.ln, some ((jn : Int), v)⟩) W w') := fun W q => store_any (h.kept q) hi hg hbn jn hjn v (Nat.le_trans hB q.size)
  have HL : Hid (lg < w.heap.size ∧ w.cell? ⟨lg, j * 2, none⟩ = some (.bool (refV i).r) ∧ w.cell? ⟨lg, j * 2 + 1, none⟩ = some (.complex .f64 (refV i).x (refV i).y) ∧ w.cell? ⟨lg, jb * 2, none⟩ = some (.bool v.r) ∧ w.cell? ⟨lg, jb * 2 + 1, none⟩ = some (.complex .f64 v.x v.y)) :=
    ⟨hlg, h.local hL hlv (a := j) (j := 0) hjl (by rw [hvj]; rfl), h.local hL hlv (a := j) (j := 1) hjl (by rw [hvj]; rfl), h.local hL hlv (a := jb) (j := 0) hjb (by rw [hv]; rfl), h.local hL hlv (a := jb) (j := 1) hjb (by rw [hv]; rfl)⟩
  have e4 : (((4 : Nat) : Int) == 4) = true := rfl
  rw [hlv] at HR HLK
  clear h hVs O hN hL hloc hlv hlg hlF hv hvj hg hgl hbn hr hf hA0 hjn hB
  obtain ⟨k, a, b, c, n, x, y⟩ := o
  unfold OP.val V.val at *
  dsimp only at *
  subst hk ha hb hn
  unfold refV at *
  dsimp only at *
  generalize floatOfInt .f64 ((i : Int) + 1) = fx at *
  go_enter Tryz.func17, Tryz.ntmps17
  go_wp2_with fail
  generalize hW1 : w.alloc _ = W1
  have B1 : Hid (Blk W1 w.heap.size [.int .i64 ((4 : Nat) : Int), .int .i64 (j : Int), .int .i64 (jb : Int), .int .i64 c, .int .i64 (jn : Int), .complex .f64 x y]) := by rw [← hW1]; exact Blk.new w _ _
  have K1 : Hid (Kept w W1) := by rw [← hW1]; exact (Kept.refl w).alloc _ _
  have s1 : W1.heap.size = w.heap.size + 1 := by rw [← hW1]; simp
  clear hW1
  generalize hW2 : W1.alloc _ = W2
  have B2 : Hid (Blk W2 w.heap.size [.int .i64 ((4 : Nat) : Int), .int .i64 (j : Int), .int .i64 (jb : Int), .int .i64 c, .int .i64 (jn : Int), .complex .f64 x y] ∧ Blk W2 (w.heap.size + 1) [.bool false, .complex .f64 0 0]) := by
    rw [← hW2]
    refine ⟨B1.out.kept ((Kept.refl W1).alloc _ _), ?_⟩
    rw [← s1]; exact Blk.new W1 _ _
  have K2 : Hid (Kept w W2) := by rw [← hW2]; exact K1.out.alloc _ _
  have hs2 : W2.heap.size = w.heap.size + 1 + 1 := by rw [← hW2]; simp [s1]
  have HS2 : Hid (W2.heap.size = w.heap.size + 1 + 1) := hs2
  clear hs2 hW2 B1 K1 s1
  refine (HT.out _ K2.out).mono ?_
  rintro e w3 ⟨rfl, K⟩
  have B3 : Hid (Blk w3 w.heap.size [.int .i64 ((4 : Nat) : Int), .int .i64 (j : Int), .int .i64 (jb : Int), .int .i64 c, .int .i64 (jn : Int), .complex .f64 x y] ∧ Blk w3 (w.heap.size + 1) [.bool false, .complex .f64 0 0]) := ⟨B2.out.1.kept K, B2.out.2.kept K⟩
  have K3 : Hid (Kept w w3) := K2.out.trans K
  have HS3 : Hid (w.heap.size + 1 + 1 ≤ w3.heap.size) := Nat.le_trans (Nat.le_of_eq HS2.out.symm) K.size
  clear K B2 K2 HS2
  have c10 := (HG.out.kept K3.out).at 10 (v := .map (some A.lb)) rfl
  have hlk := HLK.out w3 K3.out
  have d0 := B3.out.1.at 0 rfl
  have d1 := B3.out.1.at 1 rfl
  have d2 := B3.out.1.at 2 rfl
  have d3 := B3.out.1.at 3 rfl
  have d4 := B3.out.1.at 4 rfl
  have d5 := B3.out.1.at 5 rfl
  go_wp2_with fail
  refine (HR.out _ K3.out).mono ?_
  rintro e W5 ⟨rfl, K⟩
  have B5 : Hid (Blk W5 w.heap.size [.int .i64 ((4 : Nat) : Int), .int .i64 (j : Int), .int .i64 (jb : Int), .int .i64 c, .int .i64 (jn : Int), .complex .f64 x y] ∧ Blk W5 (w.heap.size + 1) [.bool false, .complex .f64 0 0]) := ⟨B3.out.1.kept K, B3.out.2.kept K⟩
  have K5 : Hid (Kept w W5) := K3.out.trans K
  have HS5 : Hid (w.heap.size + 1 + 1 ≤ W5.heap.size) := Nat.le_trans HS3.out K.size
  clear K B3 K3 HS3 c10 hlk d0 d1 d2 d3 d4 d5
  have d0 := B5.out.1.at 0 rfl
  go_wp2_with fail
  clear d0
  refine wp_region_phaseC [(.pointer (some ⟨p, 0, none⟩)), (.slice (some ⟨lg, 0, none⟩) vs.length lc), (.pointer (some ⟨w.heap.size, 1, none⟩)), (.int .i64 (j : Int)), (.pointer (some ⟨lg, j * 2, none⟩)), (.agg #[.bool true, .complex .f64 fx 4607182418800017408]), (.pointer (some ⟨g, i * 3, none⟩)), (.pointer (some ⟨w.heap.size, 4, none⟩)), (.int .i64 (jn : Int)), (.slice (some ⟨lg, 0, none⟩) vs.length lc), (.pointer (some ⟨w.heap.size, 2, none⟩)), (.int .i64 (jb : Int)), (.pointer (some ⟨lg, jb * 2, none⟩)), (.agg #[.bool v.r, .complex .f64 v.x v.y]), (.tuple #[])] [(50, 0), (51, 1), (52, 2), (53, 3), (54, 4), (55, 5), (56, 6), (57, 7), (58, 8), (59, 9), (60, 10), (61, 11), (62, 12), (63, 13), (64, 14)] [_, _, _, _, _, _, _, _, _, _, _, _, _, _, _, _, _, _, _, _, _, _, _, _, _, _, _, _, _, _, _, _, _, _, _, _, _, _, _, _, _, _, _, _, _, _, _, _, _, _, _, _, _, _, _, _, _, _, _, _, _, _, _, _, _, _, _, _, _, _, _, _, _, _, _, _, _, _, _, _, _, _, _, _, _, _, _, _, _] (fun d u => (Blk u w.heap.size [.int .i64 ((4 : Nat) : Int), .int .i64 (j : Int), .int .i64 (jb : Int), .int .i64 c, .int .i64 (jn : Int), .complex .f64 x y] ∧ Blk u (w.heap.size + 1) [.bool false, .complex .f64 0 0]) ∧ JP 14 [] (fun u => Kept W5 u) (fun u => Res C base p F A ((A.E.map Th.p).set i ⟨A.E[i].p.kd, A.E[i].p.ln, some ((jn : Int), v)⟩) W5 u) d u) (by kernel_rfl) (by kernel_rfl) (by kernel_rfl) (by kernel_rfl) rfl ?_ ?_ ?_
  · exact ⟨⟨B5.out.1.kept (Kept.refl _).drew, B5.out.2.kept (Kept.refl _).drew⟩, JP.start (Kept.refl _).drew⟩
  · intro i1 o1 ho a1 d u hh hj hi hd hc
    match i1, ho, hi, hd with
    | 0, ho, hi, hd =>
      simp only [List.getElem?_cons_zero, Option.some.injEq] at ho
      subst ho
      have g0 : a1.tmps[0]? = some (.pointer (some ⟨p, 0, none⟩)) := hh.old 0 (by kernel_rfl) rfl
      have HN : Hid ((Blk u w.heap.size [.int .i64 ((4 : Nat) : Int), .int .i64 (j : Int), .int .i64 (jb : Int), .int .i64 c, .int .i64 (jn : Int), .complex .f64 x y] ∧ Blk u (w.heap.size + 1) [.bool false, .complex .f64 0 0]) ∧ JP 14 [] (fun u => Kept W5 u) (fun u => Res C base p F A ((A.E.map Th.p).set i ⟨A.E[i].p.kd, A.E[i].p.ln, some ((jn : Int), v)⟩) W5 u) (done d 0) u) := ⟨hj.1, hj.2.plain 0 (by decide)⟩
      clear hh hd hc hj hi
      refine wpOp_step rfl (fun K hK => ?_)
      go_simp
      exact hK _ _ ⟨by simp [Act.put], HN.out⟩
    | 1, ho, hi, hd =>
      simp only [List.getElem?_cons_succ, List.getElem?_cons_zero, Option.some.injEq] at ho
      subst ho
      have g10 : a1.tmps[10]? = some (.slice (some ⟨lg, 0, none⟩) vs.length lc) := hh.old 10 (by kernel_rfl) rfl
      have HN : Hid ((Blk u w.heap.size [.int .i64 ((4 : Nat) : Int), .int .i64 (j : Int), .int .i64 (jb : Int), .int .i64 c, .int .i64 (jn : Int), .complex .f64 x y] ∧ Blk u (w.heap.size + 1) [.bool false, .complex .f64 0 0]) ∧ JP 14 [] (fun u => Kept W5 u) (fun u => Res C base p F A ((A.E.map Th.p).set i ⟨A.E[i].p.kd, A.E[i].p.ln, some ((jn : Int), v)⟩) W5 u) (done d 1) u) := ⟨hj.1, hj.2.plain 1 (by decide)⟩
      clear hh hd hc hj hi
      refine wpOp_step rfl (fun K hK => ?_)
      go_simp
      exact hK _ _ ⟨by simp [Act.put], HN.out⟩
    | 2, ho, hi, hd =>
      simp only [List.getElem?_cons_succ, List.getElem?_cons_zero, Option.some.injEq] at ho
      subst ho
      have g6 : a1.tmps[6]? = some (.pointer (some ⟨w.heap.size, 0, none⟩)) := hh.old 6 (by kernel_rfl) rfl
      have HN : Hid ((Blk u w.heap.size [.int .i64 ((4 : Nat) : Int), .int .i64 (j : Int), .int .i64 (jb : Int), .int .i64 c, .int .i64 (jn : Int), .complex .f64 x y] ∧ Blk u (w.heap.size + 1) [.bool false, .complex .f64 0 0]) ∧ JP 14 [] (fun u => Kept W5 u) (fun u => Res C base p F A ((A.E.map Th.p).set i ⟨A.E[i].p.kd, A.E[i].p.ln, some ((jn : Int), v)⟩) W5 u) (done d 2) u) := ⟨hj.1, hj.2.plain 2 (by decide)⟩
      clear hh hd hc hj hi
      refine wpOp_step rfl (fun K hK => ?_)
      go_simp
      exact hK _ _ ⟨by simp [Act.put], HN.out⟩
    | 3, ho, hi, hd =>
      simp only [List.getElem?_cons_succ, List.getElem?_cons_zero, Option.some.injEq] at ho
      subst ho
      have g52 : a1.tmps[52]? = some (.pointer (some ⟨w.heap.size, 1, none⟩)) := hh.did 2 _ 52 rfl rfl (hd { on := 2, ground := .data } (by simp) rfl)
      have hA := hj.1
      have nc : d 14 = false := by
        cases q : d 14 with
        | false => rfl
        | true => exact absurd (hc 4 _ rfl (hc 5 _ rfl (hc 6 _ rfl (hc 14 _ rfl q { on := 6, ground := .data } (by simp) rfl) { on := 5, ground := .data } (by simp) rfl) { on := 4, ground := .data } (by simp) rfl) { on := 3, ground := .data } (by simp) rfl) (by simp [hi])
      have h0 := hj.2.now nc
      have d1 := hA.1.at 1 rfl
      have HN : Hid ((Blk u w.heap.size [.int .i64 ((4 : Nat) : Int), .int .i64 (j : Int), .int .i64 (jb : Int), .int .i64 c, .int .i64 (jn : Int), .complex .f64 x y] ∧ Blk u (w.heap.size + 1) [.bool false, .complex .f64 0 0]) ∧ JP 14 [] (fun u => Kept W5 u) (fun u => Res C base p F A ((A.E.map Th.p).set i ⟨A.E[i].p.kd, A.E[i].p.ln, some ((jn : Int), v)⟩) W5 u) (done d 3) u) := ⟨hj.1, hj.2.plain 3 (by decide)⟩
      clear hh hd hc hj hi
      refine wpOp_step rfl (fun K hK => ?_)
      go_simp
      exact hK _ _ ⟨by simp [Act.put], HN.out⟩
    | 4, ho, hi, hd =>
      simp only [List.getElem?_cons_succ, List.getElem?_cons_zero, Option.some.injEq] at ho
      subst ho
      have g51 : a1.tmps[51]? = some (.slice (some ⟨lg, 0, none⟩) vs.length lc) := hh.did 1 _ 51 rfl rfl (hd { on := 1, ground := .data } (by simp) rfl)
      have g53 : a1.tmps[53]? = some (.int .i64 (j : Int)) := hh.did 3 _ 53 rfl rfl (hd { on := 3, ground := .data } (by simp) rfl)
      have HN : Hid ((Blk u w.heap.size [.int .i64 ((4 : Nat) : Int), .int .i64 (j : Int), .int .i64 (jb : Int), .int .i64 c, .int .i64 (jn : Int), .complex .f64 x y] ∧ Blk u (w.heap.size + 1) [.bool false, .complex .f64 0 0]) ∧ JP 14 [] (fun u => Kept W5 u) (fun u => Res C base p F A ((A.E.map Th.p).set i ⟨A.E[i].p.kd, A.E[i].p.ln, some ((jn : Int), v)⟩) W5 u) (done d 4) u) := ⟨hj.1, hj.2.plain 4 (by decide)⟩
      clear hh hd hc hj hi
      refine wpOp_step rfl (fun K hK => ?_)
      go_simp
      exact hK _ _ ⟨by simp [Act.put], HN.out⟩
    | 5, ho, hi, hd =>
      simp only [List.getElem?_cons_succ, List.getElem?_cons_zero, Option.some.injEq] at ho
      subst ho
      have g54 : a1.tmps[54]? = some (.pointer (some ⟨lg, j * 2, none⟩)) := hh.did 4 _ 54 rfl rfl (hd { on := 4, ground := .data } (by simp) rfl)
      have hA := hj.1
      have nc : d 14 = false := by
        cases q : d 14 with
        | false => rfl
        | true => exact absurd (hc 6 _ rfl (hc 14 _ rfl q { on := 6, ground := .data } (by simp) rfl) { on := 5, ground := .data } (by simp) rfl) (by simp [hi])
      have h0 := hj.2.now nc
      have v0 := ((K5.out.trans h0).cell (a := ⟨lg, j * 2, none⟩) HL.out.1).trans HL.out.2.1
      have v1 := ((K5.out.trans h0).cell (a := ⟨lg, j * 2 + 1, none⟩) HL.out.1).trans HL.out.2.2.1
      clear h0
      have HN : Hid ((Blk u w.heap.size [.int .i64 ((4 : Nat) : Int), .int .i64 (j : Int), .int .i64 (jb : Int), .int .i64 c, .int .i64 (jn : Int), .complex .f64 x y] ∧ Blk u (w.heap.size + 1) [.bool false, .complex .f64 0 0]) ∧ JP 14 [] (fun u => Kept W5 u) (fun u => Res C base p F A ((A.E.map Th.p).set i ⟨A.E[i].p.kd, A.E[i].p.ln, some ((jn : Int), v)⟩) W5 u) (done d 5) u) := ⟨hj.1, hj.2.plain 5 (by decide)⟩
      clear hh hd hc hj hi
      refine wpOp_step rfl (fun K hK => ?_)
      go_simp
      exact hK _ _ ⟨by simp [Act.put], HN.out⟩
    | 6, ho, hi, hd =>
      simp only [List.getElem?_cons_succ, List.getElem?_cons_zero, Option.some.injEq] at ho
      subst ho
      have g50 : a1.tmps[50]? = some (.pointer (some ⟨p, 0, none⟩)) := hh.did 0 _ 50 rfl rfl (hd { on := 0, ground := .data } (by simp) rfl)
      have g55 : a1.tmps[55]? = some (.agg #[.bool true, .complex .f64 fx 4607182418800017408]) := hh.did 5 _ 55 rfl rfl (hd { on := 5, ground := .data } (by simp) rfl)
      have hA := hj.1
      have nc : d 14 = false := by
        cases q : d 14 with
        | false => rfl
        | true => exact absurd (hc 14 _ rfl q { on := 6, ground := .data } (by simp) rfl) (by simp [hi])
      have h0 := hj.2.now nc
      have HJ : Hid ((Blk u w.heap.size [.int .i64 ((4 : Nat) : Int), .int .i64 (j : Int), .int .i64 (jb : Int), .int .i64 c, .int .i64 (jn : Int), .complex .f64 x y] ∧ Blk u (w.heap.size + 1) [.bool false, .complex .f64 0 0]) ∧ JP 14 [] (fun u => Kept W5 u) (fun u => Res C base p F A ((A.E.map Th.p).set i ⟨A.E[i].p.kd, A.E[i].p.ln, some ((jn : Int), v)⟩) W5 u) d u) := hj
      have HNC : Hid (d 14 = false) := nc
      have CA : Hid (Calls _ _ _ _ _) := HT2.out u (K5.out.trans h0)
      have HAA : Hid (Blk u w.heap.size [.int .i64 ((4 : Nat) : Int), .int .i64 (j : Int), .int .i64 (jb : Int), .int .i64 c, .int .i64 (jn : Int), .complex .f64 x y] ∧ Blk u (w.heap.size + 1) [.bool false, .complex .f64 0 0]) := hA
      have HKU : Hid (Kept W5 u) := h0
      clear hA h0 nc
      clear hh hd hc hj hi
      refine wpOp_step rfl (fun K hK => ?_)
      go_simp
      refine CA.out.mono ?_
      rintro e u2 ⟨rfl, KK⟩
      exact hK _ _ ⟨by simp [Act.put], ⟨HAA.out.1.kept KK, HAA.out.2.kept KK⟩, HJ.out.2.stay HNC.out 6 (by decide) (HKU.out.trans KK)⟩
    | 7, ho, hi, hd =>
      simp only [List.getElem?_cons_succ, List.getElem?_cons_zero, Option.some.injEq] at ho
      subst ho
      have g6 : a1.tmps[6]? = some (.pointer (some ⟨w.heap.size, 0, none⟩)) := hh.old 6 (by kernel_rfl) rfl
      have HN : Hid ((Blk u w.heap.size [.int .i64 ((4 : Nat) : Int), .int .i64 (j : Int), .int .i64 (jb : Int), .int .i64 c, .int .i64 (jn : Int), .complex .f64 x y] ∧ Blk u (w.heap.size + 1) [.bool false, .complex .f64 0 0]) ∧ JP 14 [] (fun u => Kept W5 u) (fun u => Res C base p F A ((A.E.map Th.p).set i ⟨A.E[i].p.kd, A.E[i].p.ln, some ((jn : Int), v)⟩) W5 u) (done d 7) u) := ⟨hj.1, hj.2.plain 7 (by decide)⟩
      clear hh hd hc hj hi
      refine wpOp_step rfl (fun K hK => ?_)
      go_simp
      exact hK _ _ ⟨by simp [Act.put], HN.out⟩
    | 8, ho, hi, hd =>
      simp only [List.getElem?_cons_succ, List.getElem?_cons_zero, Option.some.injEq] at ho
      subst ho
      have g57 : a1.tmps[57]? = some (.pointer (some ⟨w.heap.size, 4, none⟩)) := hh.did 7 _ 57 rfl rfl (hd { on := 7, ground := .data } (by simp) rfl)
      have hA := hj.1
      have nc : d 14 = false := by
        cases q : d 14 with
        | false => rfl
        | true => exact absurd (hc 14 _ rfl q { on := 8, ground := .data } (by simp) rfl) (by simp [hi])
      have h0 := hj.2.now nc
      have d4 := hA.1.at 4 rfl
      have HN : Hid ((Blk u w.heap.size [.int .i64 ((4 : Nat) : Int), .int .i64 (j : Int), .int .i64 (jb : Int), .int .i64 c, .int .i64 (jn : Int), .complex .f64 x y] ∧ Blk u (w.heap.size + 1) [.bool false, .complex .f64 0 0]) ∧ JP 14 [] (fun u => Kept W5 u) (fun u => Res C base p F A ((A.E.map Th.p).set i ⟨A.E[i].p.kd, A.E[i].p.ln, some ((jn : Int), v)⟩) W5 u) (done d 8) u) := ⟨hj.1, hj.2.plain 8 (by decide)⟩
      clear hh hd hc hj hi
      refine wpOp_step rfl (fun K hK => ?_)
      go_simp
      exact hK _ _ ⟨by simp [Act.put], HN.out⟩
    | 9, ho, hi, hd =>
      simp only [List.getElem?_cons_succ, List.getElem?_cons_zero, Option.some.injEq] at ho
      subst ho
      have g10 : a1.tmps[10]? = some (.slice (some ⟨lg, 0, none⟩) vs.length lc) := hh.old 10 (by kernel_rfl) rfl
      have HN : Hid ((Blk u w.heap.size [.int .i64 ((4 : Nat) : Int), .int .i64 (j : Int), .int .i64 (jb : Int), .int .i64 c, .int .i64 (jn : Int), .complex .f64 x y] ∧ Blk u (w.heap.size + 1) [.bool false, .complex .f64 0 0]) ∧ JP 14 [] (fun u => Kept W5 u) (fun u => Res C base p F A ((A.E.map Th.p).set i ⟨A.E[i].p.kd, A.E[i].p.ln, some ((jn : Int), v)⟩) W5 u) (done d 9) u) := ⟨hj.1, hj.2.plain 9 (by decide)⟩
      clear hh hd hc hj hi
      refine wpOp_step rfl (fun K hK => ?_)
      go_simp
      exact hK _ _ ⟨by simp [Act.put], HN.out⟩
    | 10, ho, hi, hd =>
      simp only [List.getElem?_cons_succ, List.getElem?_cons_zero, Option.some.injEq] at ho
      subst ho
      have g6 : a1.tmps[6]? = some (.pointer (some ⟨w.heap.size, 0, none⟩)) := hh.old 6 (by kernel_rfl) rfl
      have HN : Hid ((Blk u w.heap.size [.int .i64 ((4 : Nat) : Int), .int .i64 (j : Int), .int .i64 (jb : Int), .int .i64 c, .int .i64 (jn : Int), .complex .f64 x y] ∧ Blk u (w.heap.size + 1) [.bool false, .complex .f64 0 0]) ∧ JP 14 [] (fun u => Kept W5 u) (fun u => Res C base p F A ((A.E.map Th.p).set i ⟨A.E[i].p.kd, A.E[i].p.ln, some ((jn : Int), v)⟩) W5 u) (done d 10) u) := ⟨hj.1, hj.2.plain 10 (by decide)⟩
      clear hh hd hc hj hi
      refine wpOp_step rfl (fun K hK => ?_)
      go_simp
      exact hK _ _ ⟨by simp [Act.put], HN.out⟩
    | 11, ho, hi, hd =>
      simp only [List.getElem?_cons_succ, List.getElem?_cons_zero, Option.some.injEq] at ho
      subst ho
      have g60 : a1.tmps[60]? = some (.pointer (some ⟨w.heap.size, 2, none⟩)) := hh.did 10 _ 60 rfl rfl (hd { on := 10, ground := .data } (by simp) rfl)
      have hA := hj.1
      have nc : d 14 = false := by
        cases q : d 14 with
        | false => rfl
        | true => exact absurd (hc 12 _ rfl (hc 13 _ rfl (hc 14 _ rfl q { on := 13, ground := .data } (by simp) rfl) { on := 12, ground := .data } (by simp) rfl) { on := 11, ground := .data } (by simp) rfl) (by simp [hi])
      have h0 := hj.2.now nc
      have d2 := hA.1.at 2 rfl
      have HN : Hid ((Blk u w.heap.size [.int .i64 ((4 : Nat) : Int), .int .i64 (j : Int), .int .i64 (jb : Int), .int .i64 c, .int .i64 (jn : Int), .complex .f64 x y] ∧ Blk u (w.heap.size + 1) [.bool false, .complex .f64 0 0]) ∧ JP 14 [] (fun u => Kept W5 u) (fun u => Res C base p F A ((A.E.map Th.p).set i ⟨A.E[i].p.kd, A.E[i].p.ln, some ((jn : Int), v)⟩) W5 u) (done d 11) u) := ⟨hj.1, hj.2.plain 11 (by decide)⟩
      clear hh hd hc hj hi
      refine wpOp_step rfl (fun K hK => ?_)
      go_simp
      exact hK _ _ ⟨by simp [Act.put], HN.out⟩
    | 12, ho, hi, hd =>
      simp only [List.getElem?_cons_succ, List.getElem?_cons_zero, Option.some.injEq] at ho
      subst ho
      have g59 : a1.tmps[59]? = some (.slice (some ⟨lg, 0, none⟩) vs.length lc) := hh.did 9 _ 59 rfl rfl (hd { on := 9, ground := .data } (by simp) rfl)
      have g61 : a1.tmps[61]? = some (.int .i64 (jb : Int)) := hh.did 11 _ 61 rfl rfl (hd { on := 11, ground := .data } (by simp) rfl)
      have HN : Hid ((Blk u w.heap.size [.int .i64 ((4 : Nat) : Int), .int .i64 (j : Int), .int .i64 (jb : Int), .int .i64 c, .int .i64 (jn : Int), .complex .f64 x y] ∧ Blk u (w.heap.size + 1) [.bool false, .complex .f64 0 0]) ∧ JP 14 [] (fun u => Kept W5 u) (fun u => Res C base p F A ((A.E.map Th.p).set i ⟨A.E[i].p.kd, A.E[i].p.ln, some ((jn : Int), v)⟩) W5 u) (done d 12) u) := ⟨hj.1, hj.2.plain 12 (by decide)⟩
      clear hh hd hc hj hi
      refine wpOp_step rfl (fun K hK => ?_)
      go_simp
      exact hK _ _ ⟨by simp [Act.put], HN.out⟩
    | 13, ho, hi, hd =>
      simp only [List.getElem?_cons_succ, List.getElem?_cons_zero, Option.some.injEq] at ho
      subst ho
      have g62 : a1.tmps[62]? = some (.pointer (some ⟨lg, jb * 2, none⟩)) := hh.did 12 _ 62 rfl rfl (hd { on := 12, ground := .data } (by simp) rfl)
      have hA := hj.1
      have nc : d 14 = false := by
        cases q : d 14 with
        | false => rfl
        | true => exact absurd (hc 14 _ rfl q { on := 13, ground := .data } (by simp) rfl) (by simp [hi])
      have h0 := hj.2.now nc
      have v0 := ((K5.out.trans h0).cell (a := ⟨lg, jb * 2, none⟩) HL.out.1).trans HL.out.2.2.2.1
      have v1 := ((K5.out.trans h0).cell (a := ⟨lg, jb * 2 + 1, none⟩) HL.out.1).trans HL.out.2.2.2.2
      clear h0
      have HN : Hid ((Blk u w.heap.size [.int .i64 ((4 : Nat) : Int), .int .i64 (j : Int), .int .i64 (jb : Int), .int .i64 c, .int .i64 (jn : Int), .complex .f64 x y] ∧ Blk u (w.heap.size + 1) [.bool false, .complex .f64 0 0]) ∧ JP 14 [] (fun u => Kept W5 u) (fun u => Res C base p F A ((A.E.map Th.p).set i ⟨A.E[i].p.kd, A.E[i].p.ln, some ((jn : Int), v)⟩) W5 u) (done d 13) u) := ⟨hj.1, hj.2.plain 13 (by decide)⟩
      clear hh hd hc hj hi
      refine wpOp_step rfl (fun K hK => ?_)
      go_simp
      exact hK _ _ ⟨by simp [Act.put], HN.out⟩
    | 14, ho, hi, hd =>
      simp only [List.getElem?_cons_succ, List.getElem?_cons_zero, Option.some.injEq] at ho
      subst ho
      have g56 : a1.tmps[56]? = some (.pointer (some ⟨g, i * 3, none⟩)) := hh.did 6 _ 56 rfl rfl (hd { on := 6, ground := .data } (by simp) rfl)
      have g58 : a1.tmps[58]? = some (.int .i64 (jn : Int)) := hh.did 8 _ 58 rfl rfl (hd { on := 8, ground := .data } (by simp) rfl)
      have g63 : a1.tmps[63]? = some (.agg #[.bool v.r, .complex .f64 v.x v.y]) := hh.did 13 _ 63 rfl rfl (hd { on := 13, ground := .data } (by simp) rfl)
      have hA := hj.1
      have h0 := hj.2.now hi
      have HJ : Hid ((Blk u w.heap.size [.int .i64 ((4 : Nat) : Int), .int .i64 (j : Int), .int .i64 (jb : Int), .int .i64 c, .int .i64 (jn : Int), .complex .f64 x y] ∧ Blk u (w.heap.size + 1) [.bool false, .complex .f64 0 0]) ∧ JP 14 [] (fun u => Kept W5 u) (fun u => Res C base p F A ((A.E.map Th.p).set i ⟨A.E[i].p.kd, A.E[i].p.ln, some ((jn : Int), v)⟩) W5 u) d u) := hj
      have HI : Hid (d 14 = false) := hi
      have CA : Hid (Calls _ _ _ _ _) := HST.out u (K5.out.trans h0)
      have HAA : Hid (Blk u w.heap.size [.int .i64 ((4 : Nat) : Int), .int .i64 (j : Int), .int .i64 (jb : Int), .int .i64 c, .int .i64 (jn : Int), .complex .f64 x y] ∧ Blk u (w.heap.size + 1) [.bool false, .complex .f64 0 0]) := hA
      have HKU : Hid (Kept W5 u) := h0
      clear hA h0
      clear hh hd hc hj hi
      refine wpOp_step rfl (fun K hK => ?_)
      go_simp
      refine CA.out.mono ?_
      rintro e u2 ⟨rfl, hres⟩
      exact hK _ _ ⟨by simp [Act.put], hres.two HAA.out HKU.out K5.out HF.out, JP.turn (by simp) (hres.pre HKU.out)⟩
    | n + 15, ho, hi, hd => simp at ho
  · intro u d hall hj
    have hA := hj.1
    have h1 := hj.2.fin (hall 14 (by decide))
    clear hall hj
    obtain ⟨B0, B1⟩ := hA
    have HB1 : Hid (Blk u (w.heap.size + 1) [.bool false, .complex .f64 0 0]) := B1
    have y0 := B1.at 0 rfl
    have y1 := B1.at 1 rfl
    have yf := B1.fz
    have HD : Hid (Res C base p F A ((A.E.map Th.p).set i ⟨A.E[i].p.kd, A.E[i].p.ln, some ((jn : Int), v)⟩) W5 u) := h1
    clear B0 B1 h1
    simp only [List.getD_cons_succ, List.getD_cons_zero]
    go_wp2
    (try simp only [Exit.inBlock, Exit.then])
    exact bodyPost_ret_by (results_blk_tmp (p := 8) (u := 9) rfl _ _ (w.heap.size + 1) zerV.cs rfl ((HB1.out.set (i := 0) rfl _).set (i := 1) rfl _) Tryz.underlying34 (by kernel_rfl)) rfl
      ⟨rfl, (HD.out.write K5.out HF.out.2.2 (b := w.heap.size + 1) (by omega) (by have := HS5.out; omega) (((Mut.refl _ _).setCell (by simp) _).setCell (by simp) _)).upd⟩
end
end Go.Proofs.YtbmcbkebcchjmaaGreatDoor
