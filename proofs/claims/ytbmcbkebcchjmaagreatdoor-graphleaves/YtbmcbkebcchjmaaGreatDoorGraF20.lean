/-
  Package graph: what is stored.
-/
import Derived.Test.YtbmcbkebcchjmaaGreatDoorGraE20
import Derived.Test.YtbmcbkebcchjmaaGreatDoorJP20
namespace Go.Proofs.YtbmcbkebcchjmaaGreatDoor
open Go.RowKit
attribute [local go_sem] run_store_complex

section
variable {C : Cf} {base p : Nat} {F : List Nat} {A : Ga}
/-- A thing's map is a new one, with one entry. -/
theorem GrA.stored {w w4 : World} (h : GrA C w base p F A) {i : Nat} (hi : i < A.E.length) {g cap : Nat} (hg : A.tv = .slice (some ⟨g, 0, none⟩) A.E.length cap) {mb : Nat} {k : Int} {v : V} (hk : IntKind.min .i64 ≤ k ∧ k ≤ IntKind.max .i64)
    (hr : Rw 74 3 Th.cs w4 base A.tv (A.E.set i ⟨⟨A.E[i].p.kd, A.E[i].p.ln, some (k, v)⟩, some mb⟩)) (hm : Mp w4 mb (some (k, v.val))) (m : Mut [g, mb] w w4) (hn : w.heap.size ≤ mb) (hB : base ≤ w.heap.size) :
    Res C base p F A ((A.E.map Th.p).set i ⟨A.E[i].p.kd, A.E[i].p.ln, some (k, v)⟩) w w4 := by
  have hgb : A.tv.ownBlock = some g := by rw [hg]; rfl
  have nmb : ∀ {b : Nat}, b < w.heap.size → b ≠ g → b ∉ [g, mb] := fun {b} hb h1 q => by
    rcases List.mem_cons.1 q with e | q
    · exact h1 e
    · have e : b = mb := by simpa using q
      omega
  have hF : ∀ k ∈ F, k < w.heap.size := fun k hk => (h.lt k hk).2
  have np : p ≠ g := fun e => h.own.nerw h.thg (by decide) (by rw [hgb, e])
  have nmap : ∀ {b : Nat} {kv : Option (Int × Value)}, Mp w b kv → b ≠ g := fun {b kv} hb e => mp_ne_rw hb h.thg (by rw [hgb, e])
  have nrow : ∀ {v : Value} {G : List V}, Rw 34 2 V.cs w base v G → ∀ k, v.ownBlock = some k → k ≠ g := fun {v G} hr k hk e => by
    subst e
    exact rw_ne h.thg hr (by decide) hgb hk
  have ntt : ∀ {t : TypeId} {b : Nat}, Tt w t b → t ≠ 74 → b ≠ g := fun {t b} hb h2 e => tt_ne_rw hb h.thg (by rw [hgb, e]) h2
  have hlm := hm.lt
  refine ⟨mb :: F, { A with E := A.E.set i ⟨⟨A.E[i].p.kd, A.E[i].p.ln, some (k, v)⟩, some mb⟩ }, ?_, ⟨⟨m.os, m.tape, m.output, m.size, fun b hb hn' => m.block b hb (nmb hb fun e => hn' (by rw [e]; exact h.ft g hgb))⟩, fun b hb => ?_⟩, rfl, rfl, rfl, ?_⟩
  · exact {
      own := h.own.muts m (nmb h.plt np)
      cm := h.cm.muts m (fun b o e => by simp at e; rw [← e.1]; exact nmb (hF _ h.fs) (ntt h.ct (by decide))) (fun i hi b o e => nmb (hF _ (h.fr i hi b o e)) (ntt (h.cb i hi b o e) (by decide)))
      thg := hr
      ths := fun u hu => by
        rcases List.mem_or_eq_of_mem_set hu with hu | rfl
        · rcases h.ths u hu with e | ⟨b, k, v, e1, e2, e3, e4⟩
          · exact .inl e
          · exact .inr ⟨b, k, v, e1, e2, e3.muts m (nmb e3.lt (nmap e3)), e4⟩
        · exact .inr ⟨mb, k, v, rfl, rfl, hm, hk⟩
      loc := h.loc.muts m (nmb h.loc.lt (nmap h.loc))
      lvs := fun vs e => (h.lvs vs e).muts m fun k hk => nmb ((h.lvs vs e).lt k hk).2 (nrow (h.lvs vs e) k hk)
      glo := h.glo.muts m fun k hk => nmb (h.glo.lt k hk).2 (nrow h.glo k hk)
      ct := h.ct.muts m (nmb (hF _ h.fs) (ntt h.ct (by decide)))
      cb := fun i hi b o e => (h.cb i hi b o e).muts m (nmb (hF _ (h.fr i hi b o e)) (ntt (h.cb i hi b o e) (by decide)))
      few := by simpa using h.few
      kds := fun u hu => by
        rcases List.mem_or_eq_of_mem_set hu with hu | rfl
        · exact h.kds u hu
        · exact h.kds A.E[i] (List.getElem_mem hi)
      ngl := h.ngl
      fp := List.mem_cons_of_mem _ h.fp
      fs := List.mem_cons_of_mem _ h.fs
      fr := fun i hi b o e => List.mem_cons_of_mem _ (h.fr i hi b o e)
      ft := fun k e => List.mem_cons_of_mem _ (h.ft k e)
      fm := fun u hu b e => by
        rcases List.mem_or_eq_of_mem_set hu with hu | rfl
        · exact List.mem_cons_of_mem _ (h.fm u hu b e)
        · have e : mb = b := by simpa using e
          rw [← e]; simp
      fl := List.mem_cons_of_mem _ h.fl
      fv := fun k e e' => List.mem_cons_of_mem _ (h.fv k e e')
      fg := fun k e => List.mem_cons_of_mem _ (h.fg k e)
      lt := fun b hb => by
        rcases List.mem_cons.1 hb with rfl | hb
        · exact ⟨by omega, hlm⟩
        · exact ⟨(h.lt b hb).1, Nat.lt_of_lt_of_le (h.lt b hb).2 m.size⟩ }
  · rcases List.mem_cons.1 hb with rfl | hb
    · exact .inr hn
    · exact .inl hb
  · simp [List.map_set]

theorem nil_map (W : World) : (binOp .eql 72 (.map none) (.map none)).run Tryz.prog W = .ok (.bool true) W := by kernel_rfl

set_option maxHeartbeats 4000000 in
set_option maxRecDepth 10000 in
theorem store_any {w : World} (h : GrA C w base p F A) {i : Nat} (hi : i < A.E.length) {g cap : Nat} (hg : A.tv = .slice (some ⟨g, 0, none⟩) A.E.length cap) (hb : A.E[i].b = none) (j : Nat) (hj : j ≤ 1000000) (v : V) (hB : base ≤ w.heap.size) :
    Calls Tryz.prog 37 #[.pointer (some ⟨g, i * 3, none⟩), .int .i64 (j : Int), v.val] w fun e w' => e = .returned (.tuple #[]) ∧ Res C base p F A ((A.E.map Th.p).set i ⟨A.E[i].p.kd, A.E[i].p.ln, some ((j : Int), v)⟩) w w' := by
  have hgl := h.thlt hg
  have t2 : w.cell? ⟨g, i * 3 + 2, none⟩ = some (.map none) := h.thing hg hi (j := 2) (by simp [Th.cs, hb])
  have hgb : A.tv.ownBlock = some g := by rw [hg]; rfl
  -- the world ahead of the last statement
  obtain ⟨W2, hW2⟩ : ∃ W2, (w.alloc (.cells #[.bool v.r, .complex .f64 v.x v.y] 34)).alloc (.map #[] 0) = W2 := ⟨_, rfl⟩
  have z1 : (w.alloc (.cells #[.bool v.r, .complex .f64 v.x v.y] 34)).heap.size = w.heap.size + 1 := by simp
  have k1 : Kept w (w.alloc (.cells #[.bool v.r, .complex .f64 v.x v.y] 34)) := (Kept.refl w).alloc _ _
  have k12 : Kept (w.alloc (.cells #[.bool v.r, .complex .f64 v.x v.y] 34)) W2 := by rw [← hW2]; exact ⟨(Below.refl _ _).alloc (Nat.le_refl _) _⟩
  have k2 := k1.trans k12
  have m2 : Mp W2 (w.heap.size + 1) none := by
    have := Mp.new (w.alloc (.cells #[.bool v.r, .complex .f64 v.x v.y] 34))
    rwa [hW2, z1] at this
  have b2 : Blk W2 w.heap.size v.cs := (Blk.new w v.cs 34).kept k12
  have r2 := (h.kept k2).thg
  rw [hg] at r2
  have t2' := (k2.cell (a := ⟨g, i * 3 + 2, none⟩) hgl).trans t2
  have f2 : W2.frozen? ⟨g, i * 3 + 2, none⟩ = false := r2.fz _
  obtain ⟨W3, hW3⟩ : ∃ W3, W2.setCell ⟨g, i * 3 + 2, none⟩ (.map (some (w.heap.size + 1))) = W3 := ⟨_, rfl⟩
  have M3 : Mut [g] W2 W3 := by rw [← hW3]; exact (Mut.refl _ _).setCell (by simp) _
  have b3 : Blk W3.drew w.heap.size v.cs := (b2.muts M3 (by simp; omega)).kept (Kept.refl _).drew
  have m3 : Mp W3.drew (w.heap.size + 1) none := (m2.muts M3 (by simp; omega)).kept (Kept.refl _).drew
  have r3 : Rw 74 3 Th.cs W3.drew base (.slice (some ⟨g, 0, none⟩) A.E.length cap) (A.E.set i ⟨⟨A.E[i].p.kd, A.E[i].p.ln, some ((j : Int), v)⟩, some (w.heap.size + 1)⟩) := by
    rw [← hW3]
    exact (r2.set Th.len hi (j := 2) (by decide) (e' := ⟨⟨A.E[i].p.kd, A.E[i].p.ln, some ((j : Int), v)⟩, some (w.heap.size + 1)⟩) (u := .map (some (w.heap.size + 1))) (by simp [Th.cs])).kept (Kept.refl _).drew
  obtain ⟨W4, hr4, m4, M4⟩ := m3.put (in64 (k := j) (by omega)) Tryz.underlying72 v.val
  have r4 := r3.muts M4 (fun k hk => by
    have e : g = k := by simpa [Value.ownBlock] using hk
    simp; omega)
  have HRes : Hid (Res C base p F A ((A.E.map Th.p).set i ⟨A.E[i].p.kd, A.E[i].p.ln, some ((j : Int), v)⟩) w W4) := h.stored hi hg (in64 (k := j) (by omega)) (by rw [hg]; exact r4) m4 ((k2.mut.trans ((M3.drew).wide (by simp))).trans (M4.wide (by simp))) (by omega) hB
  have HR : Hid _ := hr4
  have HC : Hid (W3.drew.cell? ⟨g, i * 3 + 2, none⟩ = some (.map (some (w.heap.size + 1))) ∧ W3.drew.cell? ⟨w.heap.size, 0, none⟩ = some (.bool v.r) ∧ W3.drew.cell? ⟨w.heap.size, 1, none⟩ = some (.complex .f64 v.x v.y)) := by
    refine ⟨?_, b3.at 0 rfl, b3.at 1 rfl⟩
    exact Rw.cell r3 Th.len (i := i) (j := 2) (by simpa using hi) (by simp [Th.cs])
  have HW : Hid (_ ∧ _) := ⟨hW2, hW3⟩
  have q2 := fun (B : Array Value) (t : TypeId) => (((Kept.refl w).alloc B t).cell (a := ⟨g, i * 3 + 2, none⟩) hgl).trans t2
  have HF2 : Hid (W2.cell? ⟨g, i * 3 + 2, none⟩ = some (.map none) ∧ W2.frozen? ⟨g, i * 3 + 2, none⟩ = false) := ⟨t2', f2⟩
  clear z1 t2' f2 h r4 m4 M4 hr4 r3 m3 b3 M3 r2 b2 m2 k2 k12 k1 hgb hg hb
  have hmm := @run_makeMap Tryz.prog
  have heq := nil_map
  have e1 := HF2.out.1
  have e2 := HF2.out.2
  unfold V.val at *
  go_enter Tryz.func37, Tryz.ntmps37
  go_wp2_with fail
  refine wp_region_phaseC [(.pointer (some ⟨g, i * 3, none⟩)), (.pointer (some ⟨g, i * 3, none⟩)), (.pointer (some ⟨g, i * 3 + 2, none⟩)), (.map (some (w.heap.size + 1))), (.int .i64 (j : Int)), (.agg #[.bool v.r, .complex .f64 v.x v.y]), (undef)] [(15, 0), (16, 1), (17, 2), (18, 3), (19, 4), (20, 5)] [_, _, _, _, _, _, _, _, _, _, _, _, _, _, _, _, _, _, _, _, _] (fun d u => True ∧ JP 6 [] (fun u => u = W3.drew) (fun u => u = W4) d u) (by kernel_rfl) (by kernel_rfl) (by kernel_rfl) (by kernel_rfl) rfl ?_ ?_ ?_
  · exact ⟨trivial, JP.start rfl⟩
  · intro i1 o1 ho a1 d u hh hj hi hd hc
    match i1, ho, hi, hd with
    | 0, ho, hi, hd =>
      simp only [List.getElem?_cons_zero, Option.some.injEq] at ho
      subst ho
      have g0 : a1.tmps[0]? = some (.pointer (some ⟨g, i * 3, none⟩)) := hh.old 0 (by kernel_rfl) rfl
      have HN : Hid (True ∧ JP 6 [] (fun u => u = W3.drew) (fun u => u = W4) (done d 0) u) := ⟨hj.1, hj.2.plain 0 (by decide)⟩
      clear hh hd hc hj hi
      refine wpOp_step rfl (fun K hK => ?_)
      go_simp
      exact hK _ _ ⟨by simp [Act.put], HN.out⟩
    | 1, ho, hi, hd =>
      simp only [List.getElem?_cons_succ, List.getElem?_cons_zero, Option.some.injEq] at ho
      subst ho
      have g15 : a1.tmps[15]? = some (.pointer (some ⟨g, i * 3, none⟩)) := hh.did 0 _ 15 rfl rfl (hd { on := 0, ground := .data } (by simp) rfl)
      have HN : Hid (True ∧ JP 6 [] (fun u => u = W3.drew) (fun u => u = W4) (done d 1) u) := ⟨hj.1, hj.2.plain 1 (by decide)⟩
      clear hh hd hc hj hi
      refine wpOp_step rfl (fun K hK => ?_)
      go_simp
      exact hK _ _ ⟨by simp [Act.put], HN.out⟩
    | 2, ho, hi, hd =>
      simp only [List.getElem?_cons_succ, List.getElem?_cons_zero, Option.some.injEq] at ho
      subst ho
      have g16 : a1.tmps[16]? = some (.pointer (some ⟨g, i * 3, none⟩)) := hh.did 1 _ 16 rfl rfl (hd { on := 1, ground := .data } (by simp) rfl)
      have HN : Hid (True ∧ JP 6 [] (fun u => u = W3.drew) (fun u => u = W4) (done d 2) u) := ⟨hj.1, hj.2.plain 2 (by decide)⟩
      clear hh hd hc hj hi
      refine wpOp_step rfl (fun K hK => ?_)
      go_simp
      exact hK _ _ ⟨by simp [Act.put], HN.out⟩
    | 3, ho, hi, hd =>
      simp only [List.getElem?_cons_succ, List.getElem?_cons_zero, Option.some.injEq] at ho
      subst ho
      have g17 : a1.tmps[17]? = some (.pointer (some ⟨g, i * 3 + 2, none⟩)) := hh.did 2 _ 17 rfl rfl (hd { on := 2, ground := .data } (by simp) rfl)
      have hA := hj.1
      have nc : d 6 = false := by
        cases q : d 6 with
        | false => rfl
        | true => exact absurd (hc 6 _ rfl q { on := 3, ground := .data } (by simp) rfl) (by simp [hi])
      have h0 := hj.2.now nc
      have c2 := HC.out.1
      rw [← h0] at c2
      clear h0
      have HN : Hid (True ∧ JP 6 [] (fun u => u = W3.drew) (fun u => u = W4) (done d 3) u) := ⟨hj.1, hj.2.plain 3 (by decide)⟩
      clear hh hd hc hj hi
      refine wpOp_step rfl (fun K hK => ?_)
      go_simp
      exact hK _ _ ⟨by simp [Act.put], HN.out⟩
    | 4, ho, hi, hd =>
      simp only [List.getElem?_cons_succ, List.getElem?_cons_zero, Option.some.injEq] at ho
      subst ho
      have g1 : a1.tmps[1]? = some (.int .i64 (j : Int)) := hh.old 1 (by kernel_rfl) rfl
      have HN : Hid (True ∧ JP 6 [] (fun u => u = W3.drew) (fun u => u = W4) (done d 4) u) := ⟨hj.1, hj.2.plain 4 (by decide)⟩
      clear hh hd hc hj hi
      refine wpOp_step rfl (fun K hK => ?_)
      go_simp
      exact hK _ _ ⟨by simp [Act.put], HN.out⟩
    | 5, ho, hi, hd =>
      simp only [List.getElem?_cons_succ, List.getElem?_cons_zero, Option.some.injEq] at ho
      subst ho
      have g5 : a1.tmps[5]? = some (.pointer (some ⟨w.heap.size, 0, none⟩)) := hh.old 5 (by kernel_rfl) rfl
      have hA := hj.1
      have nc : d 6 = false := by
        cases q : d 6 with
        | false => rfl
        | true => exact absurd (hc 6 _ rfl q { on := 5, ground := .data } (by simp) rfl) (by simp [hi])
      have h0 := hj.2.now nc
      have x0 := HC.out.2.1
      have x1 := HC.out.2.2
      rw [← h0] at x0 x1
      clear h0
      have HN : Hid (True ∧ JP 6 [] (fun u => u = W3.drew) (fun u => u = W4) (done d 5) u) := ⟨hj.1, hj.2.plain 5 (by decide)⟩
      clear hh hd hc hj hi
      refine wpOp_step rfl (fun K hK => ?_)
      go_simp
      exact hK _ _ ⟨by simp [Act.put], HN.out⟩
    | 6, ho, hi, hd =>
      simp only [List.getElem?_cons_succ, List.getElem?_cons_zero, Option.some.injEq] at ho
      subst ho
      have g18 : a1.tmps[18]? = some (.map (some (w.heap.size + 1))) := hh.did 3 _ 18 rfl rfl (hd { on := 3, ground := .data } (by simp) rfl)
      have g19 : a1.tmps[19]? = some (.int .i64 (j : Int)) := hh.did 4 _ 19 rfl rfl (hd { on := 4, ground := .data } (by simp) rfl)
      have g20 : a1.tmps[20]? = some (.agg #[.bool v.r, .complex .f64 v.x v.y]) := hh.did 5 _ 20 rfl rfl (hd { on := 5, ground := .data } (by simp) rfl)
      have hA := hj.1
      have h0 := hj.2.now hi
      have HJ : Hid (True ∧ JP 6 [] (fun u => u = W3.drew) (fun u => u = W4) d u) := hj
      have HI : Hid (d 6 = false) := hi
      subst h0
      have hr := HR.out
      have hm : a1.eval (.tmp 18) = .map (some (w.heap.size + 1)) := by simp [Act.eval, g18]
      have hx : a1.eval (.tmp 19) = .int .i64 (j : Int) := by simp [Act.eval, g19]
      have hv : a1.eval (.tmp 20) = .agg #[.bool v.r, .complex .f64 v.x v.y] := by simp [Act.eval, g20]
      clear hh hd hc hj hi
      refine wpOp_step rfl (fun K hK => ?_)
      refine step_mapUpdate_eq rfl (.tmp 18) (.tmp 19) (.tmp 20) 72 rfl hm hx hv hr ?_
      exact hK _ _ ⟨by simp [Act.put], trivial, JP.turn (by simp) rfl⟩
    | n + 7, ho, hi, hd => simp at ho
  · intro u d hall hj
    have hA := hj.1
    have h1 := hj.2.fin (hall 6 (by decide))
    clear hall hj
    subst h1
    simp only [List.getD_cons_succ, List.getD_cons_zero]
    clear hA
    go_wp2
    refine bodyPost_end (results_none rfl _ _ _) rfl ?_
    exact ⟨rfl, HRes.out⟩
end
end Go.Proofs.YtbmcbkebcchjmaaGreatDoor
