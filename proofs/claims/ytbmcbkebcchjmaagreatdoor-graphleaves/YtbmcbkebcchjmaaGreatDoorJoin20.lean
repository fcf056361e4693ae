/-
  Package graph: Join.
-/
import Derived.Test.YtbmcbkebcchjmaaGreatDoorNew20
namespace Go.Proofs.YtbmcbkebcchjmaaGreatDoor
open Go.RowKit
attribute [local go_sem] run_store_complex

section
variable {C : Cf} {base p : Nat} {F : List Nat} {A : Ga}
theorem mp_ne_mp {w : World} {b : Nat} {k : Int} {v : Value} (h : Mp w b (some (k, v))) (h' : Mp w b none) (hk : IntKind.min .i64 ≤ k ∧ k ≤ IntKind.max .i64) : False := by
  have e1 := (Mp.hit h hk Tryz.underlying72 (zeroV w)).1
  have e2 := Mp.miss h' hk Tryz.underlying72 (zeroV w)
  rw [e1] at e2
  simp at e2

theorem made_zero {n : Nat} (h : n = 1 ∨ n = 4) : madeCells #[.bool false, .complex .f64 0 0] (n * 2) = ((List.replicate n zerV).flatMap V.cs).toArray := by
  rcases h with rfl | rfl <;> kernel_rfl

/-- There is a thread now, and its locals. -/
theorem GrA.joined {w w2 : World} (h : GrA C w base p F A) (hL : A.L = none) {g n cap : Nat} {vs : List V} (hg : w.heap.size ≤ g) (hr : Rw 34 2 V.cs w2 base (.slice (some ⟨g, 0, none⟩) n cap) vs)
    (hm : Mp w2 A.lb (some (0, .slice (some ⟨g, 0, none⟩) n cap))) (m : Mut [A.lb] w w2) : Upd C base p F ⟨A.E.map Th.p, some vs, A.G⟩ w w2 := by
  have hl : Mp w A.lb none := by have := h.loc; rw [hL] at this; exact this
  have hF : ∀ k ∈ F, k < w.heap.size := fun k hk => (h.lt k hk).2
  have np : p ∉ [A.lb] := fun e => by
    have e : p = A.lb := by simpa using e
    exact mp_ne_own (e ▸ hl) h.own
  have nmap : ∀ {b : Nat} {k : Int} {v : Value}, Mp w b (some (k, v)) → IntKind.min .i64 ≤ k ∧ k ≤ IntKind.max .i64 → b ∉ [A.lb] := fun {b k v} hb hk e => by
    have e : b = A.lb := by simpa using e
    subst e
    exact mp_ne_mp hb hl hk
  have nrw : ∀ {t : TypeId} {m : Nat} {α : Type} {c : α → List Value} {v : Value} {E : List α}, Rw t m c w base v E → ∀ k, v.ownBlock = some k → k ∉ [A.lb] := fun {t m α c v E} hr k hk e => by
    have e : k = A.lb := by simpa using e
    subst e
    exact mp_ne_rw hl hr hk
  have ntt : ∀ {t : TypeId} {b : Nat}, Tt w t b → b ∉ [A.lb] := fun {t b} hb e => by
    have e : b = A.lb := by simpa using e
    subst e
    obtain ⟨es, cl, e1⟩ := mp_block hl
    obtain ⟨c, f, e2⟩ := hb
    rw [e1] at e2
    simp at e2
  have gl := (hr.lt g rfl).2
  refine ⟨g :: F, { A with L := some vs, lv := .slice (some ⟨g, 0, none⟩) n cap }, ?_, rfl, ⟨m.wide fun k hk => by
    have e : k = A.lb := by simpa using hk
    rw [e]; exact h.fl, fun b hb => ?_⟩⟩
  · exact {
      own := h.own.muts m np
      cm := h.cm.muts m (fun b o e => by simp at e; rw [← e.1]; exact ntt h.ct) (fun i hi b o e => ntt (h.cb i hi b o e))
      thg := h.thg.muts m (nrw h.thg)
      ths := fun u hu => by
        rcases h.ths u hu with e | ⟨b, k, v, e1, e2, e3, e4⟩
        · exact .inl e
        · exact .inr ⟨b, k, v, e1, e2, e3.muts m (nmap e3 e4), e4⟩
      loc := hm
      lvs := fun vs' e => by
        have e : vs = vs' := by simpa using e
        rw [← e]; exact hr
      glo := h.glo.muts m (nrw h.glo)
      ct := h.ct.muts m (ntt h.ct)
      cb := fun i hi b o e => (h.cb i hi b o e).muts m (ntt (h.cb i hi b o e))
      few := h.few
      kds := h.kds
      ngl := fun k _ e e' => by
        have e : g = k := by simpa [Value.ownBlock] using e
        have := (h.lt k (h.fg k e')).2
        omega
      fp := List.mem_cons_of_mem _ h.fp
      fs := List.mem_cons_of_mem _ h.fs
      fr := fun i hi b o e => List.mem_cons_of_mem _ (h.fr i hi b o e)
      ft := fun k e => List.mem_cons_of_mem _ (h.ft k e)
      fm := fun u hu b e => List.mem_cons_of_mem _ (h.fm u hu b e)
      fl := List.mem_cons_of_mem _ h.fl
      fv := fun k _ e => by
        have e : g = k := by simpa [Value.ownBlock] using e
        rw [e]; simp
      fg := fun k e => List.mem_cons_of_mem _ (h.fg k e)
      lt := fun b hb => by
        rcases List.mem_cons.1 hb with rfl | hb
        · exact hr.lt b rfl
        · exact ⟨(h.lt b hb).1, Nat.lt_of_lt_of_le (h.lt b hb).2 m.size⟩ }
  · rcases List.mem_cons.1 hb with rfl | hb
    · exact .inr hg
    · exact .inl hb

set_option maxHeartbeats 4000000 in
set_option maxRecDepth 10000 in
theorem join_any {w : World} (h : GrA C w base p F A) (O : C.Ok) (hL : A.L = none) {n : Nat} (hn : C.n4 = (n : Int)) (h1 : n = 1 ∨ n = 4) (hB : base ≤ w.heap.size) :
    Calls Tryz.prog 8 #[.pointer (some ⟨p, 0, none⟩), .int .i64 0] w fun e w' => e = .returned (.bool true) ∧ Upd C base p F ⟨A.E.map Th.p, some (List.replicate n zerV), A.G⟩ w w' := by
  have c3 := h.at 3 (v := .int .i64 C.n3) rfl
  have hn3 := O.fits.2.2.2.2.2.1.1
  have t3 : decide (C.n3 ≤ 0) = false := decide_eq_false (by omega)
  have HT : Hid (Calls Tryz.prog 23 #[.pointer (some ⟨p, 0, none⟩), .int .i64 0] w fun e w' => e = .returned (.bool false) ∧ Kept w w') := there_no h hL
  have HG : Hid (GrA C w base p F A) := h
  have HN : Hid (C.n4 = (n : Int) ∧ (n = 1 ∨ n = 4) ∧ base ≤ w.heap.size ∧ A.L = none) := ⟨hn, h1, hB, hL⟩
  clear h O hL hn h1 hB hn3
  go_enter Tryz.func8, Tryz.ntmps8
  go_wp2_with fail
  refine HT.out.mono ?_
  rintro e w2 ⟨rfl, K⟩
  clear c3
  have KK : Hid (Kept w w2) := K
  have G3 : Hid (GrA C w2.drew base p F A) := HG.out.kept K.drew
  have HMK : Hid ((Instr.makeSlice 50 (.int .i64 (n : Int)) (.int .i64 (n : Int))).run Tryz.prog w2.drew = .ok (.slice (some ⟨w2.drew.heap.size, 0, none⟩) n n) (w2.drew.alloc (.cells (madeCells #[.bool false, .complex .f64 0 0] (n * 2)) 34))) := run_make_values n (by have := HN.out.2.1; omega) w2.drew
  have K4 : Kept w2.drew (w2.drew.alloc (.cells (madeCells #[.bool false, .complex .f64 0 0] (n * 2)) 34)) := (Kept.refl _).alloc _ _
  have hl4 : Mp (w2.drew.alloc (.cells (madeCells #[.bool false, .complex .f64 0 0] (n * 2)) 34)) A.lb none := by
    have := (G3.out.kept K4).loc
    rw [HN.out.2.2.2] at this
    exact this
  obtain ⟨W5, hr5, m5, M5⟩ := hl4.put in0 Tryz.underlying57 (.slice (some ⟨w2.heap.size, 0, none⟩) n n)
  have HR : Hid _ := hr5
  have HA3 : Hid (w2.drew.cell? ⟨p, 10, none⟩ = some (.map (some A.lb)) ∧ w2.drew.cell? ⟨p, 4, none⟩ = some (.int .i64 (n : Int))) := ⟨G3.out.at 10 rfl, by
    have := G3.out.at 4 (v := .int .i64 C.n4) rfl
    rw [HN.out.1] at this
    exact this⟩
  have HA4 : Hid ((w2.drew.alloc (.cells (madeCells #[.bool false, .complex .f64 0 0] (n * 2)) 34)).cell? ⟨p, 10, none⟩ = some (.map (some A.lb)) ∧ (w2.drew.alloc (.cells (madeCells #[.bool false, .complex .f64 0 0] (n * 2)) 34)).cell? ⟨p, 4, none⟩ = some (.int .i64 (n : Int))) := ⟨(K4.cell (a := ⟨p, 10, none⟩) G3.out.plt).trans HA3.out.1, (K4.cell (a := ⟨p, 4, none⟩) G3.out.plt).trans HA3.out.2⟩
  have HU : Hid (Upd C base p F ⟨A.E.map Th.p, some (List.replicate n zerV), A.G⟩ w W5) := by
    have hb2 := HN.out.2.2.1
    have hz := KK.out.size
    have hr : Rw 34 2 V.cs (w2.drew.alloc (.cells (madeCells #[.bool false, .complex .f64 0 0] (n * 2)) 34)) base (.slice (some ⟨w2.heap.size, 0, none⟩) n n) (List.replicate n zerV) := by
      rw [made_zero HN.out.2.1]
      have ho : Own (w2.drew.alloc (.cells ((List.replicate n zerV).flatMap V.cs).toArray 34)) w2.heap.size 34 ((List.replicate n zerV).flatMap V.cs) := Own.new w2.drew _ _
      have := ho.rw (base := base) (by omega) (by have := HN.out.2.1; simp; omega)
      simpa using this
    have lb := (G3.out.lt _ G3.out.fl).2
    refine Upd.pre KK.out.drew (G3.out.joined HN.out.2.2.2 (g := w2.heap.size) (Nat.le_refl _) (hr.muts M5 fun k hk q => ?_) m5 ((K4.mut.trans (M5.wide (by simp)))))
    have e : w2.heap.size = k := by simpa [Value.ownBlock] using hk
    have e' : k = A.lb := by simpa using q
    have : A.lb < w2.heap.size := lb
    omega
  have HA5 : Hid (W5.cell? ⟨p, 10, none⟩ = some (.map (some A.lb)) ∧ W5.cell? ⟨p, 4, none⟩ = some (.int .i64 (n : Int))) := by
    have np : p ∉ [A.lb] := fun e => by
      have e : p = A.lb := by simpa using e
      exact mp_ne_own (e ▸ hl4) (G3.out.kept K4).own
    have o5 := ((G3.out.kept K4).own.muts M5 np).blk
    refine ⟨o5.at 10 rfl, ?_⟩
    have := o5.at 4 (v := .int .i64 C.n4) rfl
    rw [HN.out.1] at this
    exact this
  clear hr5 m5 M5 hl4 K4 K
  go_wp2_with fail
  refine wp_region_phaseC [(.pointer (some ⟨p, 0, none⟩)), (.pointer (some ⟨p, 0, none⟩)), (.pointer (some ⟨p, 10, none⟩)), (.map (some A.lb)), (.int .i64 0), (.pointer (some ⟨p, 0, none⟩)), (.pointer (some ⟨p, 0, none⟩)), (.pointer (some ⟨p, 0, none⟩)), (.pointer (some ⟨p, 4, none⟩)), (.int .i64 (n : Int)), (.slice (some ⟨w2.heap.size, 0, none⟩) n n), (undef)] [(21, 0), (22, 1), (23, 2), (24, 3), (25, 4), (26, 5), (27, 6), (28, 7), (29, 8), (30, 9), (31, 10)] [_, _, _, _, _, _, _, _, _, _, _, _, _, _, _, _, _, _, _, _, _, _, _, _, _, _, _, _, _, _, _, _] (fun d u => (u.cell? ⟨p, 10, none⟩ = some (.map (some A.lb)) ∧ u.cell? ⟨p, 4, none⟩ = some (.int .i64 (n : Int))) ∧ JQ 10 11 [] [] (fun u => u = w2.drew) (fun u => u = (w2.drew.alloc (.cells (madeCells #[.bool false, .complex .f64 0 0] (n * 2)) 34))) (fun u => u = W5) d u) (by kernel_rfl) (by kernel_rfl) (by kernel_rfl) (by kernel_rfl) rfl ?_ ?_ ?_
  · exact ⟨HA3.out, JQ.start rfl⟩
  · intro i1 o1 ho a1 d u hh hj hi hd hc
    match i1, ho, hi, hd with
    | 0, ho, hi, hd =>
      simp only [List.getElem?_cons_zero, Option.some.injEq] at ho
      subst ho
      have g0 : a1.tmps[0]? = some (.pointer (some ⟨p, 0, none⟩)) := hh.old 0 (by kernel_rfl) rfl
      have HN : Hid ((u.cell? ⟨p, 10, none⟩ = some (.map (some A.lb)) ∧ u.cell? ⟨p, 4, none⟩ = some (.int .i64 (n : Int))) ∧ JQ 10 11 [] [] (fun u => u = w2.drew) (fun u => u = (w2.drew.alloc (.cells (madeCells #[.bool false, .complex .f64 0 0] (n * 2)) 34))) (fun u => u = W5) (done d 0) u) := ⟨hj.1, hj.2.plain 0 (by decide) (by decide)⟩
      clear hh hd hc hj hi
      refine wpOp_step rfl (fun K hK => ?_)
      go_simp
      exact hK _ _ ⟨by simp [Act.put], HN.out⟩
    | 1, ho, hi, hd =>
      simp only [List.getElem?_cons_succ, List.getElem?_cons_zero, Option.some.injEq] at ho
      subst ho
      have g21 : a1.tmps[21]? = some (.pointer (some ⟨p, 0, none⟩)) := hh.did 0 _ 21 rfl rfl (hd { on := 0, ground := .data } (by simp) rfl)
      have HN : Hid ((u.cell? ⟨p, 10, none⟩ = some (.map (some A.lb)) ∧ u.cell? ⟨p, 4, none⟩ = some (.int .i64 (n : Int))) ∧ JQ 10 11 [] [] (fun u => u = w2.drew) (fun u => u = (w2.drew.alloc (.cells (madeCells #[.bool false, .complex .f64 0 0] (n * 2)) 34))) (fun u => u = W5) (done d 1) u) := ⟨hj.1, hj.2.plain 1 (by decide) (by decide)⟩
      clear hh hd hc hj hi
      refine wpOp_step rfl (fun K hK => ?_)
      go_simp
      exact hK _ _ ⟨by simp [Act.put], HN.out⟩
    | 2, ho, hi, hd =>
      simp only [List.getElem?_cons_succ, List.getElem?_cons_zero, Option.some.injEq] at ho
      subst ho
      have g22 : a1.tmps[22]? = some (.pointer (some ⟨p, 0, none⟩)) := hh.did 1 _ 22 rfl rfl (hd { on := 1, ground := .data } (by simp) rfl)
      have HN : Hid ((u.cell? ⟨p, 10, none⟩ = some (.map (some A.lb)) ∧ u.cell? ⟨p, 4, none⟩ = some (.int .i64 (n : Int))) ∧ JQ 10 11 [] [] (fun u => u = w2.drew) (fun u => u = (w2.drew.alloc (.cells (madeCells #[.bool false, .complex .f64 0 0] (n * 2)) 34))) (fun u => u = W5) (done d 2) u) := ⟨hj.1, hj.2.plain 2 (by decide) (by decide)⟩
      clear hh hd hc hj hi
      refine wpOp_step rfl (fun K hK => ?_)
      go_simp
      exact hK _ _ ⟨by simp [Act.put], HN.out⟩
    | 3, ho, hi, hd =>
      simp only [List.getElem?_cons_succ, List.getElem?_cons_zero, Option.some.injEq] at ho
      subst ho
      have g23 : a1.tmps[23]? = some (.pointer (some ⟨p, 10, none⟩)) := hh.did 2 _ 23 rfl rfl (hd { on := 2, ground := .data } (by simp) rfl)
      have hA := hj.1
      have c10 := hA.1
      have HN : Hid ((u.cell? ⟨p, 10, none⟩ = some (.map (some A.lb)) ∧ u.cell? ⟨p, 4, none⟩ = some (.int .i64 (n : Int))) ∧ JQ 10 11 [] [] (fun u => u = w2.drew) (fun u => u = (w2.drew.alloc (.cells (madeCells #[.bool false, .complex .f64 0 0] (n * 2)) 34))) (fun u => u = W5) (done d 3) u) := ⟨hj.1, hj.2.plain 3 (by decide) (by decide)⟩
      clear hh hd hc hj hi
      refine wpOp_step rfl (fun K hK => ?_)
      go_simp
      exact hK _ _ ⟨by simp [Act.put], HN.out⟩
    | 4, ho, hi, hd =>
      simp only [List.getElem?_cons_succ, List.getElem?_cons_zero, Option.some.injEq] at ho
      subst ho
      have g1 : a1.tmps[1]? = some (.int .i64 0) := hh.old 1 (by kernel_rfl) rfl
      have HN : Hid ((u.cell? ⟨p, 10, none⟩ = some (.map (some A.lb)) ∧ u.cell? ⟨p, 4, none⟩ = some (.int .i64 (n : Int))) ∧ JQ 10 11 [] [] (fun u => u = w2.drew) (fun u => u = (w2.drew.alloc (.cells (madeCells #[.bool false, .complex .f64 0 0] (n * 2)) 34))) (fun u => u = W5) (done d 4) u) := ⟨hj.1, hj.2.plain 4 (by decide) (by decide)⟩
      clear hh hd hc hj hi
      refine wpOp_step rfl (fun K hK => ?_)
      go_simp
      exact hK _ _ ⟨by simp [Act.put], HN.out⟩
    | 5, ho, hi, hd =>
      simp only [List.getElem?_cons_succ, List.getElem?_cons_zero, Option.some.injEq] at ho
      subst ho
      have g0 : a1.tmps[0]? = some (.pointer (some ⟨p, 0, none⟩)) := hh.old 0 (by kernel_rfl) rfl
      have HN : Hid ((u.cell? ⟨p, 10, none⟩ = some (.map (some A.lb)) ∧ u.cell? ⟨p, 4, none⟩ = some (.int .i64 (n : Int))) ∧ JQ 10 11 [] [] (fun u => u = w2.drew) (fun u => u = (w2.drew.alloc (.cells (madeCells #[.bool false, .complex .f64 0 0] (n * 2)) 34))) (fun u => u = W5) (done d 5) u) := ⟨hj.1, hj.2.plain 5 (by decide) (by decide)⟩
      clear hh hd hc hj hi
      refine wpOp_step rfl (fun K hK => ?_)
      go_simp
      exact hK _ _ ⟨by simp [Act.put], HN.out⟩
    | 6, ho, hi, hd =>
      simp only [List.getElem?_cons_succ, List.getElem?_cons_zero, Option.some.injEq] at ho
      subst ho
      have g26 : a1.tmps[26]? = some (.pointer (some ⟨p, 0, none⟩)) := hh.did 5 _ 26 rfl rfl (hd { on := 5, ground := .data } (by simp) rfl)
      have HN : Hid ((u.cell? ⟨p, 10, none⟩ = some (.map (some A.lb)) ∧ u.cell? ⟨p, 4, none⟩ = some (.int .i64 (n : Int))) ∧ JQ 10 11 [] [] (fun u => u = w2.drew) (fun u => u = (w2.drew.alloc (.cells (madeCells #[.bool false, .complex .f64 0 0] (n * 2)) 34))) (fun u => u = W5) (done d 6) u) := ⟨hj.1, hj.2.plain 6 (by decide) (by decide)⟩
      clear hh hd hc hj hi
      refine wpOp_step rfl (fun K hK => ?_)
      go_simp
      exact hK _ _ ⟨by simp [Act.put], HN.out⟩
    | 7, ho, hi, hd =>
      simp only [List.getElem?_cons_succ, List.getElem?_cons_zero, Option.some.injEq] at ho
      subst ho
      have g27 : a1.tmps[27]? = some (.pointer (some ⟨p, 0, none⟩)) := hh.did 6 _ 27 rfl rfl (hd { on := 6, ground := .data } (by simp) rfl)
      have HN : Hid ((u.cell? ⟨p, 10, none⟩ = some (.map (some A.lb)) ∧ u.cell? ⟨p, 4, none⟩ = some (.int .i64 (n : Int))) ∧ JQ 10 11 [] [] (fun u => u = w2.drew) (fun u => u = (w2.drew.alloc (.cells (madeCells #[.bool false, .complex .f64 0 0] (n * 2)) 34))) (fun u => u = W5) (done d 7) u) := ⟨hj.1, hj.2.plain 7 (by decide) (by decide)⟩
      clear hh hd hc hj hi
      refine wpOp_step rfl (fun K hK => ?_)
      go_simp
      exact hK _ _ ⟨by simp [Act.put], HN.out⟩
    | 8, ho, hi, hd =>
      simp only [List.getElem?_cons_succ, List.getElem?_cons_zero, Option.some.injEq] at ho
      subst ho
      have g28 : a1.tmps[28]? = some (.pointer (some ⟨p, 0, none⟩)) := hh.did 7 _ 28 rfl rfl (hd { on := 7, ground := .data } (by simp) rfl)
      have HN : Hid ((u.cell? ⟨p, 10, none⟩ = some (.map (some A.lb)) ∧ u.cell? ⟨p, 4, none⟩ = some (.int .i64 (n : Int))) ∧ JQ 10 11 [] [] (fun u => u = w2.drew) (fun u => u = (w2.drew.alloc (.cells (madeCells #[.bool false, .complex .f64 0 0] (n * 2)) 34))) (fun u => u = W5) (done d 8) u) := ⟨hj.1, hj.2.plain 8 (by decide) (by decide)⟩
      clear hh hd hc hj hi
      refine wpOp_step rfl (fun K hK => ?_)
      go_simp
      exact hK _ _ ⟨by simp [Act.put], HN.out⟩
    | 9, ho, hi, hd =>
      simp only [List.getElem?_cons_succ, List.getElem?_cons_zero, Option.some.injEq] at ho
      subst ho
      have g29 : a1.tmps[29]? = some (.pointer (some ⟨p, 4, none⟩)) := hh.did 8 _ 29 rfl rfl (hd { on := 8, ground := .data } (by simp) rfl)
      have hA := hj.1
      have nc : d 10 = false := by
        cases q : d 10 with
        | false => rfl
        | true => exact absurd (hc 10 _ rfl q { on := 9, ground := .data } (by simp) rfl) (by simp [hi])
      have h0 := hj.2.now nc
      have c4 := hA.2
      clear h0
      have HN : Hid ((u.cell? ⟨p, 10, none⟩ = some (.map (some A.lb)) ∧ u.cell? ⟨p, 4, none⟩ = some (.int .i64 (n : Int))) ∧ JQ 10 11 [] [] (fun u => u = w2.drew) (fun u => u = (w2.drew.alloc (.cells (madeCells #[.bool false, .complex .f64 0 0] (n * 2)) 34))) (fun u => u = W5) (done d 9) u) := ⟨hj.1, hj.2.plain 9 (by decide) (by decide)⟩
      clear hh hd hc hj hi
      refine wpOp_step rfl (fun K hK => ?_)
      go_simp
      exact hK _ _ ⟨by simp [Act.put], HN.out⟩
    | 10, ho, hi, hd =>
      simp only [List.getElem?_cons_succ, List.getElem?_cons_zero, Option.some.injEq] at ho
      subst ho
      have g30 : a1.tmps[30]? = some (.int .i64 (n : Int)) := hh.did 9 _ 30 rfl rfl (hd { on := 9, ground := .data } (by simp) rfl)
      have hA := hj.1
      have h0 := hj.2.now hi
      have HJ : Hid ((u.cell? ⟨p, 10, none⟩ = some (.map (some A.lb)) ∧ u.cell? ⟨p, 4, none⟩ = some (.int .i64 (n : Int))) ∧ JQ 10 11 [] [] (fun u => u = w2.drew) (fun u => u = (w2.drew.alloc (.cells (madeCells #[.bool false, .complex .f64 0 0] (n * 2)) 34))) (fun u => u = W5) d u) := hj
      have HI : Hid (d 10 = false) := hi
      subst h0
      have hmk := HMK.out
      clear hh hd hc hj hi
      refine wpOp_step rfl (fun K hK => ?_)
      go_simp
      exact hK _ _ ⟨by simp [Act.put], HA4.out, HJ.out.2.turn HI.out (by decide) (by simp) rfl⟩
    | 11, ho, hi, hd =>
      simp only [List.getElem?_cons_succ, List.getElem?_cons_zero, Option.some.injEq] at ho
      subst ho
      have g24 : a1.tmps[24]? = some (.map (some A.lb)) := hh.did 3 _ 24 rfl rfl (hd { on := 3, ground := .data } (by simp) rfl)
      have g25 : a1.tmps[25]? = some (.int .i64 0) := hh.did 4 _ 25 rfl rfl (hd { on := 4, ground := .data } (by simp) rfl)
      have g31 : a1.tmps[31]? = some (.slice (some ⟨w2.heap.size, 0, none⟩) n n) := hh.did 10 _ 31 rfl rfl (hd { on := 10, ground := .data } (by simp) rfl)
      have hA := hj.1
      have hcc : d 10 = true := (hd { on := 10, ground := .data } (by simp) rfl)
      have h0 := hj.2.now2 hcc hi
      have HJ : Hid ((u.cell? ⟨p, 10, none⟩ = some (.map (some A.lb)) ∧ u.cell? ⟨p, 4, none⟩ = some (.int .i64 (n : Int))) ∧ JQ 10 11 [] [] (fun u => u = w2.drew) (fun u => u = (w2.drew.alloc (.cells (madeCells #[.bool false, .complex .f64 0 0] (n * 2)) 34))) (fun u => u = W5) d u) := hj
      have HI : Hid (d 11 = false) := hi
      have HCC : Hid (d 10 = true) := hcc
      subst h0
      have hr := HR.out
      have hm : a1.eval (.tmp 24) = .map (some A.lb) := by simp [Act.eval, g24]
      have hx : a1.eval (.tmp 25) = .int .i64 0 := by simp [Act.eval, g25]
      have hv : a1.eval (.tmp 31) = .slice (some ⟨w2.heap.size, 0, none⟩) n n := by simp [Act.eval, g31]
      clear hh hd hc hj hi hcc
      refine wpOp_step rfl (fun K hK => ?_)
      refine step_mapUpdate_eq rfl (.tmp 24) (.tmp 25) (.tmp 31) 57 rfl hm hx hv hr ?_
      exact hK _ _ ⟨by simp [Act.put], HA5.out, HJ.out.2.turn2 HCC.out (by simp) rfl⟩
    | n + 12, ho, hi, hd => simp at ho
  · intro u d hall hj
    have hA := hj.1
    have h1 := hj.2.fin (hall 11 (by decide))
    clear hall hj
    clear hA
    subst h1
    simp only [List.getD_cons_succ, List.getD_cons_zero]
    go_wp2
    go_ret
    exact ⟨rfl, HU.out⟩
end
end Go.Proofs.YtbmcbkebcchjmaaGreatDoor
