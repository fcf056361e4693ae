/-
  The document's line: Begin, End.
-/
import Derived.Test.YtjobnlfecochfaaRLine
import Derived.Deep.CutBlock
namespace Go.Proofs.Ytjobnlfecochfaa
open Go.RowKit

def endR (N : List Int) (e : Ent) : Ent := { e with cy := if e.st == 0 && decide (e.th ∈ N) then e.cy + 1 else e.cy }

theorem wth_more {E : List Ent} {k : Nat} (hk : k < E.length) : (wts (E.take (k + 1))).map Ent.th = (wts (E.take k)).map Ent.th ++ (if E[k].st == 0 then [E[k].th] else []) := by
  rw [List.take_succ_eq_append_getElem hk]
  unfold wts
  rw [List.filter_append, List.map_append]
  by_cases h : (E[k].st == 0) = true
  · simp [h]
  · simp [h]

set_option maxHeartbeats 8000000 in
theorem rbegin_any {base b : Nat} {v nv : Value} {E : List Ent} {N : List Int} (w : World) (h : RTab w base b v nv E N) :
    Calls Try.prog 19 #[.pointer (some ⟨b, 0, none⟩)] w fun r w' => r = .returned (.tuple #[]) ∧ ∃ nv', RTab w' base b v nv' E ((wts E).map Ent.th) ∧ Mut (b :: v.ownBlock.toList) w w' ∧ ∀ k, k ∈ footR b v nv' E → k ∈ footR b v nv E ∨ w.heap.size ≤ k := by
  obtain ⟨x, d, rfl⟩ := h.ens.row.form
  have c1 := h.c1
  have cf := h.fz
  have hl := h.few
  have H0 : Hid (RTab (w.setCell ⟨b, 1, none⟩ (.slice none 0 0)) base b (.slice x E.length d) (.slice none 0 0) E []) := h.note (Lst.nil _ _) (by simp [Value.ownBlock]) (by simp [Value.ownBlock])
  have HB : Hid (∀ k, k ∈ foot b (.slice x E.length d) E → k < w.heap.size) := fun k hk => (h.lt k (mem_footR.2 (.inr hk))).2
  have HLB : Hid (base ≤ w.heap.size) := by have h1 := h.lo; have h2 := h.ltb; show base ≤ _; omega
  clear h
  go_enter Try.func19, Try.ntmps19
  go_wp2
  clear c1 cf
  go_loopg [2] E.length (fun m i wr => ∃ k : Nat, i = .int .i64 k ∧ k ≤ E.length ∧ m = E.length - k ∧ Hid (∃ nv, RTab wr base b (.slice x E.length d) nv E ((wts (E.take k)).map Ent.th) ∧ Mut [b] w wr ∧ ∀ q, nv.ownBlock = some q → w.heap.size ≤ q))
  case atStart => exact ⟨0, rfl, by omega, by omega, _, H0.out, (Mut.refl _ _).setCell (by simp) _, by simp [Value.ownBlock]⟩
  case round =>
    obtain ⟨k, rfl, hk, hm, hw⟩ := hrel
    have HM : Hid _ := hm
    clear hm H0
    obtain ⟨nv, hT, hM, hN⟩ := hw.out
    have H1 : Hid (RTab wr base b (.slice x E.length d) nv E ((wts (E.take k)).map Ent.th) ∧ Mut [b] w wr ∧ ∀ q, nv.ownBlock = some q → w.heap.size ≤ q) := ⟨hT, hM, hN⟩
    clear hT hM hN hw
    have b0 := H1.out.1.c0
    by_cases hlt : k < E.length
    · obtain ⟨g, cap, ev, _, _, _⟩ := H1.out.1.ens.row.here (by omega)
      obtain ⟨rfl, _, rfl⟩ := Value.slice.inj ev
      obtain ⟨d0, -, -, d3, -⟩ := H1.out.1.ens.row.seven hlt
      have HC : Hid _ := wth_more hlt
      have e1 : (k : Int) < (E.length : Int) := by omega
      have hle : ((wts (E.take k)).map Ent.th).length ≤ k := by rw [List.length_map]; exact Nat.le_trans (wts_le _) (by simp; omega)
      clear ev
      generalize E[k] = e at *
      by_cases hs : (e.st == 0) = true
      · have HCt : Hid ((wts (E.take (k + 1))).map Ent.th = (wts (E.take k)).map Ent.th ++ [e.th]) := by have := HC.out; rwa [if_pos hs] at this
        obtain ⟨T, hT⟩ : ∃ T, T = (wts (E.take k)).map Ent.th := ⟨_, rfl⟩
        rw [← hT] at H1 HCt hle
        clear hT HC
        have kk := (Kept.refl wr).drew.alloc #[.int .i64 e.th] 3
        obtain ⟨v', w', hrun0, l', m', f'⟩ := run_append_lst 28 (H1.out.1.ln.kept kk) (Nat.le_trans (Nat.le_trans HLB.out H1.out.2.1.size) kk.size) (c := 1) (rdi_lit wr.drew [e.th]) (by simp; omega)
        have hrun : (Builtin.append_ #[28, 28] 28 #[nv, .slice (some ⟨wr.heap.size, 0, none⟩) 1 1]).run Try.prog (wr.alloc (.cells #[.int .i64 e.th] 3)).drew = .ok v' w' := hrun0
        clear hrun0
        have hA : ∀ q, q ∈ foot b (.slice (some ⟨g, 0, none⟩) E.length d) E → q ∉ nv.ownBlock.toList := fun q hq hd => by
          have h1 := HB.out q hq
          have h2 := H1.out.2.2 q (by simpa using hd)
          omega
        have T2 := H1.out.1.kept kk
        have hv' : ∀ q, v'.ownBlock = some q → w.heap.size ≤ q := fun q hq => by
          rcases f' q hq with g | g
          · exact H1.out.2.2 q g
          · exact Nat.le_trans (Nat.le_trans H1.out.2.1.size kk.size) g
        have O2 : Own w' b 30 [.slice (some ⟨g, 0, none⟩) E.length d, nv] := T2.head.muts m' (hA b (mem_foot.2 (.inl rfl)))
        have a1 := O2.blk.at 1 rfl
        have a2 := O2.blk.fz
        have bl : b < w.heap.size := HB.out b (mem_foot.2 (.inl rfl))
        have HR : Hid (RTab (w'.setCell ⟨b, 1, none⟩ v') base b (.slice (some ⟨g, 0, none⟩) E.length d) v' E ((wts (E.take (k + 1))).map Ent.th) ∧ Mut [b] w (w'.setCell ⟨b, 1, none⟩ v') ∧ ∀ q, v'.ownBlock = some q → w.heap.size ≤ q) := by
          rw [HCt.out]
          refine ⟨⟨by simpa using O2.set 1 v', (T2.ens.muts m' hA).atb 1 v', l'.atb (fun q => by have := hv' b q; omega) 1 v', T2.lo, T2.few, fun q => by have := hv' b q; omega, fun q hq hd => ?_⟩, ?_, hv'⟩
          · have h1 := HB.out q (mem_foot.2 (.inr (.inl hq)))
            have h2 := hv' q hd
            omega
          · have m2 : Mut [b] w w' := ⟨m'.os.trans (kk.mut (D := [b])).os |>.trans H1.out.2.1.os, m'.tape.trans (kk.mut (D := [b])).tape |>.trans H1.out.2.1.tape, m'.output.trans (kk.mut (D := [b])).output |>.trans H1.out.2.1.output, Nat.le_trans (Nat.le_trans H1.out.2.1.size kk.size) m'.size, fun q hq hd => by
              have h1 : q < wr.heap.size := Nat.lt_of_lt_of_le hq H1.out.2.1.size
              rw [m'.block q (Nat.lt_of_lt_of_le h1 kk.size) (fun hx => by have := H1.out.2.2 q (by simpa using hx); omega), (kk.mut (D := [])).block q h1 (by simp)]
              exact H1.out.2.1.block q hq hd⟩
            exact m2.setCell (by simp) _
        have c1 : wr.cell? ⟨b, 1, none⟩ = some nv := H1.out.1.c1
        have b0' : ∀ A u, (wr.alloc (.cells A u)).cell? ⟨b, 0, none⟩ = some (.slice (some ⟨g, 0, none⟩) E.length d) := fun A u => (H1.out.1.kept ((Kept.refl _).alloc A u)).c0
        have c1' : ∀ A u, (wr.alloc (.cells A u)).cell? ⟨b, 1, none⟩ = some nv := fun A u => (H1.out.1.kept ((Kept.refl _).alloc A u)).c1
        obtain ⟨yn, dn, en⟩ := H1.out.1.ln.form
        subst en
        obtain ⟨yv, dv, evv⟩ := l'.form
        rw [List.length_append, show ([e.th] : List Int).length = 1 from rfl] at evv
        subst evv
        clear T2 O2 l' m' f' hA hv' kk H1 hle
        go_wp2_with fail
        go_region_law (refine step_append_eq rfl (.tmp 28) (.tmp 37) 28 rfl (by first | rfl | (simp [Act.eval]; done) | simp [Act.eval, Act.put]) (by first | rfl | (simp [Act.eval]; done) | simp [Act.eval, Act.put]) hrun ?_)
        all_goals clear hrun
        all_goals go_wp2
        all_goals go_roundg (gk - 1)
        all_goals (have := HM.out; try omega)
        all_goals exact ⟨k + 1, by go_num, by omega, by omega, _, HR.out⟩
      · have hs' : (e.st == 0) = false := by simpa using hs
        have HCt : Hid ((wts (E.take (k + 1))).map Ent.th = (wts (E.take k)).map Ent.th) := by have := HC.out; rwa [if_neg hs, List.append_nil] at this
        clear hs HC hle
        go_wp2
        go_roundg (gk - 1)
        all_goals (have := HM.out; try omega)
        exact ⟨k + 1, by go_num, by omega, by omega, nv, by rw [HCt.out]; exact H1.out.1, H1.out.2⟩
    · obtain rfl : k = E.length := by omega
      rw [List.take_length] at H1
      go_wp2
      go_end0
      exact ⟨rfl, nv, H1.out.1, H1.out.2.1.wide (by simp), fun q hq => by
        rcases mem_footR.1 hq with g | g
        · exact .inr (H1.out.2.2 q g)
        · exact .inl (mem_footR.2 (.inr g))⟩

theorem upd_still {f : Ent → Ent} {k : Nat} {E : List Ent} (hk : k < E.length) (hf : f E[k] = E[k]) : upd f (k + 1) E = upd f k E := by
  rw [← upd_set hk, hf]
  have h2 : k < (upd f k E).length := by rw [upd_len]; exact hk
  have e := upd_get (f := f) hk
  conv => lhs; rw [← e]
  exact List.set_getElem_self h2

set_option maxHeartbeats 8000000 in
theorem rend_any {base b : Nat} {v nv : Value} {E : List Ent} {N : List Int} (w : World) (h : RTab w base b v nv E N) (hcy : ∀ e ∈ E, 0 ≤ e.cy ∧ e.cy ≤ 1000000) (hN : N.length ≤ 1000000) :
    Calls Try.prog 21 #[.pointer (some ⟨b, 0, none⟩)] w fun r w' => r = .returned (.tuple #[]) ∧ RTab w' base b v (.slice none 0 0) (E.map (endR N)) [] ∧ Mut (b :: v.ownBlock.toList) w w' := by
  obtain ⟨x, d, rfl⟩ := h.ens.row.form
  have hl := h.few
  have HT : Hid (RTab w base b (.slice x E.length d) nv E N) := h
  have HY : Hid _ := hcy
  have HNL : Hid _ := hN
  clear h hcy hN
  go_enter Try.func21, Try.ntmps21
  go_wp2_with fail
  go_loopg [2] E.length (fun m i wr => ∃ k : Nat, i = .int .i64 k ∧ k ≤ E.length ∧ m = E.length - k ∧ Hid (RTab wr base b (.slice x E.length d) nv (upd (endR N) k E) N ∧ Mut (b :: (Value.slice x E.length d).ownBlock.toList) w wr))
  case atStart => exact ⟨0, rfl, by omega, by omega, by rw [upd_zero]; exact HT.out, Mut.refl _ _⟩
  case round =>
    obtain ⟨k, rfl, hk, hm, hw⟩ := hrel
    have HM : Hid _ := hm
    clear hm
    have b0 := hw.out.1.c0
    by_cases hlt : k < E.length
    · obtain ⟨g, cap, ev, _, hg, _⟩ := HT.out.ens.row.here (by omega)
      obtain ⟨rfl, _, rfl⟩ := Value.slice.inj ev
      have hlt2 : k < (upd (endR N) k E).length := by rw [upd_len]; exact hlt
      have cc := hw.out.1.ens.row.seven hlt2
      rw [upd_get hlt] at cc
      obtain ⟨c0, -, -, c3, c4, -⟩ := cc
      have hy := HY.out _ (List.getElem_mem hlt)
      have HA : Hid ((E[k].st == 0 && decide (E[k].th ∈ N)) = false → ∀ w2, Kept wr w2 → RTab w2 base b (.slice (some ⟨g, 0, none⟩) E.length d) nv (upd (endR N) (k + 1) E) N) := fun q w2 k2 => by
        rw [upd_still hlt (by simp only [endR, q]; rfl)]
        exact hw.out.1.kept k2
      have HB : Hid ((E[k].st == 0 && decide (E[k].th ∈ N)) = true → ∀ w2, Kept wr w2 → RTab (w2.setCell ⟨g, k * 7 + 4, none⟩ (.int .i64 (E[k].cy + 1))) base b (.slice (some ⟨g, 0, none⟩) E.length d) nv (upd (endR N) (k + 1) E) N) := fun q w2 k2 => by
        have := (hw.out.1.kept k2).set hlt2 (j := 4) (e' := endR N E[k]) (u := .int .i64 (E[k].cy + 1)) (by omega) (by rw [upd_get hlt]; simp only [endR, q]; rfl) (.inl (by rw [upd_get hlt]; exact ⟨rfl, rfl⟩))
        rwa [upd_set hlt] at this
      have hgw : g < wr.heap.size := by have := hw.out.2.size; omega
      have hbw : b < wr.heap.size := hw.out.1.ltb
      have e1 : (k : Int) < (E.length : Int) := by omega
      obtain ⟨yn, dn, en⟩ := hw.out.1.ln.form
      subst en
      have c1 := hw.out.1.c1
      have G : Hid (∀ z : KW wr, Calls Try.prog 31 #[.slice yn N.length dn, .int .i64 E[k].th] z.it fun r w' => r = .returned (.bool (decide (E[k].th ∈ N))) ∧ Kept z.it w') := fun z => has_any _ _ HNL.out (hw.out.1.kept z.ok).ln.rdi
      have HK : Hid (∀ w2, Kept wr w2 → Mut (b :: (Value.slice (some ⟨g, 0, none⟩) E.length d).ownBlock.toList) w w2 ∧ (∀ i, w2.frozen? ⟨g, i, none⟩ = false)) := fun w2 k2 => ⟨hw.out.2.trans k2.mut, (hw.out.1.kept k2).ens.row.fz⟩
      clear ev
      generalize decide (E[k].th ∈ N) = ni at *
      generalize E[k] = e at *
      have d0 := fun z : KW wr => z.cell (a := ⟨g, k * 7, none⟩) hgw c0
      have d3 := fun z : KW wr => z.cell (a := ⟨g, k * 7 + 3, none⟩) hgw c3
      have a0 := fun z : KW wr => z.cell (a := ⟨b, 0, none⟩) hbw b0
      have a1 := fun z : KW wr => z.cell (a := ⟨b, 1, none⟩) hbw c1
      clear c0 c3
      cases hs : (e.st == 0)
      · have HZ : Hid _ := HA.out (by simp [hs])
        clear HA HB
        go_upto_region 3 with fail
        refine wp_region_kept (by kernel_rfl) (by kernel_rfl) fun _ => ?_
        repeat (go_big_quiet_step (first | (go_at_call 31; exact kept_of (G.out _))))
        refine wpQuiet_nil ?_
        rintro _ ⟨z, rfl⟩
        have H2 : Hid (RTab z.it base b (.slice (some ⟨g, 0, none⟩) E.length d) (.slice yn N.length dn) (upd (endR N) (k + 1) E) N ∧ Mut (b :: (Value.slice (some ⟨g, 0, none⟩) E.length d).ownBlock.toList) w z.it) := ⟨HZ.out z.it z.ok, (HK.out z.it z.ok).1⟩
        clear d0 d3 a0 a1 HZ HK G
        go_wp2
        go_roundg (gk - 1)
        all_goals (have := HM.out; try omega)
        exact ⟨k + 1, by go_num, by omega, by omega, H2.out⟩
      · cases ni
        · have HZ : Hid _ := HA.out (by simp)
          clear HA HB
          go_upto_region 3 with fail
          refine wp_region_kept (by kernel_rfl) (by kernel_rfl) fun _ => ?_
          repeat (go_big_quiet_step (first | (go_at_call 31; exact kept_of (G.out _))))
          refine wpQuiet_nil ?_
          rintro _ ⟨z, rfl⟩
          have H2 : Hid (RTab z.it base b (.slice (some ⟨g, 0, none⟩) E.length d) (.slice yn N.length dn) (upd (endR N) (k + 1) E) N ∧ Mut (b :: (Value.slice (some ⟨g, 0, none⟩) E.length d).ownBlock.toList) w z.it) := ⟨HZ.out z.it z.ok, (HK.out z.it z.ok).1⟩
          clear d0 d3 a0 a1 HZ HK G
          go_wp2
          go_roundg (gk - 1)
          all_goals (have := HM.out; try omega)
          exact ⟨k + 1, by go_num, by omega, by omega, H2.out⟩
        · have HZ : Hid _ := HB.out (by simp [hs])
          clear HA HB
          go_upto_region 3 with fail
          refine wp_region_kept (by kernel_rfl) (by kernel_rfl) fun _ => ?_
          repeat (go_big_quiet_step (first | (go_at_call 31; exact kept_of (G.out _))))
          refine wpQuiet_nil ?_
          rintro _ ⟨z, rfl⟩
          have x0 := a0 z
          have x4 := z.cell (a := ⟨g, k * 7 + 4, none⟩) hgw c4
          have xf := (HK.out z.it z.ok).2
          have H2 : Hid (RTab (z.it.setCell ⟨g, k * 7 + 4, none⟩ (.int .i64 (e.cy + 1))) base b (.slice (some ⟨g, 0, none⟩) E.length d) (.slice yn N.length dn) (upd (endR N) (k + 1) E) N ∧ Mut (b :: (Value.slice (some ⟨g, 0, none⟩) E.length d).ownBlock.toList) w (z.it.setCell ⟨g, k * 7 + 4, none⟩ (.int .i64 (e.cy + 1)))) := ⟨HZ.out z.it z.ok, (HK.out z.it z.ok).1.setCell (by simp [Value.ownBlock]) _⟩
          clear d0 d3 a0 a1 HZ HK G
          generalize z.it = wz at *
          go_wp2
          go_roundg (gk - 1)
          all_goals (have := HM.out; try omega)
          exact ⟨k + 1, by go_num, by omega, by omega, H2.out⟩
    · obtain rfl : k = E.length := by omega
      have HN : Hid (RTab wr base b (.slice x E.length d) nv (E.map (endR N)) N) := by have := hw.out.1; rwa [upd_all] at this
      have c1 := HN.out.c1
      have cf := HN.out.fz
      have HR : Hid (RTab (wr.setCell ⟨b, 1, none⟩ (.slice none 0 0)) base b (.slice x E.length d) (.slice none 0 0) (E.map (endR N)) []) := HN.out.note (Lst.nil _ _) (by simp [Value.ownBlock]) (by simp [Value.ownBlock])
      go_wp2
      go_end0
      exact ⟨rfl, HR.out, hw.out.2.setCell (by simp) _⟩
end Go.Proofs.Ytjobnlfecochfaa
