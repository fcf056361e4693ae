/-
  The modules RspF, one behind another.
-/
import Derived.Test.YtahpnnjemjjfhaaGreatM27
/-
  Contracts of the document's space: Serve, Wants.
-/
namespace Go.Proofs.YtahpnnjemjjfhaaGreat
open Go.RowKit

theorem nrel_set {E : List Ent} {N : List Int} {i : Nat} {x : Ent} (h : Nrel E N) (hi : i < E.length) (ht : x.th = E[i].th) (hs : x.st ≠ 0) : Nrel (E.set i x) N := by
  have hm : (E.set i x).map Ent.th = E.map Ent.th := by
    rw [List.map_set, ht]
    refine List.ext_getElem (by simp) fun j h1 h2 => ?_
    rw [List.getElem_set]
    split
    · rename_i q; subst q; simp
    · rfl
  refine ⟨fun e he h0 => ?_, fun y hy => ?_, by rw [hm]; exact h.nd, h.few⟩
  · rcases List.mem_or_eq_of_mem_set he with q | q
    · exact h.nt e q h0
    · rw [q] at h0; exact absurd h0 hs
  · obtain ⟨e, h1, h2⟩ := h.sub y hy
    have h3 : e.th ∈ (E.set i x).map Ent.th := by rw [hm]; exact List.mem_map_of_mem h1
    obtain ⟨e', h4, h5⟩ := List.mem_map.1 h3
    exact ⟨e', h4, h5.trans h2⟩
def Ar.wants (A : Ar) (S : Sp) : Bool := S.fo || decide (0 < (wts S.E).length) || decide ((cntB S.F S.n : Int) < A.C.n7)

section
variable {B : Nat} {c c' : Nat → Nat} {w w' W : World} {A : Ar} {S : Sp}
set_option maxHeartbeats 8000000 in
theorem rserve_any (se : Bool) (w : World) (h : RSH B w c A S) {kb : Nat} (hk : S.Bd kb) (hkb : kb ≤ 50000) :
    Calls Tryz.prog 66 #[.pointer (some ⟨A.b, 0, none⟩), .bool se] w fun e w' => e = .returned (.bool S.serves) ∧ ∃ c', RSH B w' c' A (S.serve se) ∧ Stp c w c' w' := by
  have HV : Hid (S.serves = match S.hd with
    | none => false
    | some e => fitsB S e.fr e.sp || decide (2 ≤ e.cy)) := rfl
  have HA : Hid (S.serve se = match S.hd with
    | none => S.tick
    | some e => if fitsB S e.fr e.sp then (S.tick.tk e.fr e.sp se).setE { e with st := 1, pl := S.tkA e.fr e.sp, G := takeZ S.n S.F e.fr }
      else if 2 ≤ e.cy then S.tick.setE { e with st := 2 } else S.tick) := rfl
  have HS : Hid (RSH B w c A S) := h
  have HK : Hid (S.Bd kb ∧ kb ≤ 50000) := ⟨hk, hkb⟩
  have hct : 0 ≤ S.ct ∧ S.ct ≤ 50000 := ⟨hk.c0, by have := hk.c1; omega⟩
  have c16 := h.cell (i := 16) (u := .int .i64 S.ct) fun _ _ => rfl
  have f16 := h.fz 16
  have HW : Hid (∀ W, w.setCell ⟨A.b, 16, none⟩ (.int .i64 (S.ct + 1)) = W → RSH B W c A S.tick ∧ Stp c w c W) := fun W hW => by
    rw [← hW]
    exact h.ticks
  obtain ⟨h0, h1⟩ := hct
  clear h hk hkb
  go_enter Tryz.func66, Tryz.ntmps66
  go_wp2_with fail
  generalize hW : World.setCell _ _ _ = W
  have HB : Hid (RSH B W c A S.tick ∧ Stp c w c W) := HW.out W hW
  clear hW HW c16 f16
  obtain ⟨lv, nv, E, N, l1, l2, l3, l4⟩ := HB.out.1.line
  have l2' : E.map Ent.nr = S.E.map Ent.nr := l2
  have CO := lrfirst_any W l1
  simp only [Ent.agg] at CO
  have HOF : S.hd.map Ent.nr = (E.find? fun e => e.st == 0).map Ent.nr := (nr_find l2' (fun e => e.st == 0) (fun _ => rfl)).symm
  have HL : Hid (RlT (A.rq S.m S.fo (S.ct + 1)) W 0 A.b lv nv E N ∧ E.map Ent.nr = S.E.map Ent.nr ∧ Nrel S.E N ∧ ∀ k, k ∈ footR A.b lv nv E → c k = 3) := ⟨l1, l2', l3, l4⟩
  clear l1 l2 l2' l3 l4
  rcases idx_cases (fun e => e.st == 0) E with ⟨hix, hf, _⟩ | ⟨i, hi, hix, hf, hst, _⟩
  · rw [hf] at CO HOF
    simp only [told, Option.getD_none, none7, Option.isSome_none] at CO
    have HOF2 : S.hd = none := by simpa using HOF
    rw [HOF2] at HV HA
    simp only at HV HA
    clear hf HOF HOF2 HL hix
    refine CO.mono ?_
    rintro e w2 ⟨rfl, k2⟩
    have H2 : Hid (RSH B w2 c A S.tick ∧ Stp c w c w2 ∧ Kept w2 (w2.alloc (.cells #[.int .i64 0, .int .i64 0, .int .i64 0, .int .i64 0, .int .i64 0, .int .i64 0, .slice none 0 0] 126))) := ⟨HB.out.1.kept k2, HB.out.2.trans (Stp.kept k2), (Kept.refl w2).alloc _ _⟩
    clear k2 CO
    go_wp2
    go_ret
    exact ⟨by rw [HV.out] <;> rfl, c, by rw [HA.out]; exact ⟨H2.out.1.kept H2.out.2.2, H2.out.2.1.trans (Stp.kept H2.out.2.2)⟩⟩
  · rw [hf] at CO HOF
    simp only [told, Option.getD_some, Option.isSome_some] at CO
    have hix2 : idx (fun e => e.st == 0) S.E = (i : Int) := by rw [← nr_idx HL.out.2.1 (fun e => e.st == 0) (fun _ => rfl)]; exact hix
    have hi2 : i < S.E.length := by rw [← nr_len HL.out.2.1]; exact hi
    obtain ⟨s0, hs0, hnr, hsi⟩ : ∃ s0, S.hd = some s0 ∧ s0.nr = E[i].nr ∧ s0 = S.E[i] := by
      rcases idx_cases (fun e => e.st == 0) S.E with ⟨q, _, _⟩ | ⟨j, hj, q1, q2, _⟩
      · rw [q] at hix2; omega
      · have : j = i := by rw [q1] at hix2; omega
        subst this
        have q3 : S.hd = some S.E[j] := q2
        rw [q3] at HOF
        exact ⟨_, q3, by simpa using HOF, rfl⟩
    rw [hs0] at HV HA
    simp only at HV HA
    have efr : s0.fr = E[i].fr := (show s0.nr.fr = E[i].nr.fr from congrArg Ent.fr hnr)
    have esp : s0.sp = E[i].sp := (show s0.nr.sp = E[i].nr.sp from congrArg Ent.sp hnr)
    have ecy : s0.cy = E[i].cy := (show s0.nr.cy = E[i].nr.cy from congrArg Ent.cy hnr)
    have hsE : s0 ∈ S.E := by rw [hsi]; exact List.getElem_mem hi2
    have hps := HK.out.1.pos _ hsE
    have hcy := HK.out.1.cyc _ hsE
    rw [efr, esp] at HV HA hps
    rw [ecy] at HV HA hcy
    have HIX : Hid (i < E.length ∧ idx (fun e => e.st == 0) E = (i : Int) ∧ i < S.E.length ∧ idx (fun e => e.st == 0) S.E = (i : Int)) := ⟨hi, hix, hi2, hix2⟩
    have HSI : Hid (s0 = S.E[i]) := hsi
    have HSE : Hid (∀ S' : Sp, S'.E = S.E → ∀ x : Ent, S'.setE x = { S' with E := S.E.set i x }) := fun S' e x => by
      unfold Sp.setE
      rw [e, hix2, Int.toNat_natCast]
    obtain ⟨e0, he0⟩ : ∃ e0, e0 = E[i] := ⟨_, rfl⟩
    rw [← he0] at CO HV HA hps hcy hnr efr esp ecy
    have HEI : Hid (e0 = E[i] ∧ s0.nr = e0.nr) := ⟨he0, hnr⟩
    clear hf HOF hst he0 hix hs0 hnr hsi hsE hix2
    refine CO.mono ?_
    rintro e w2 ⟨rfl, k2⟩
    have H2 : Hid (RSH B w2 c A S.tick ∧ Stp c w c w2 ∧ Kept W w2) := ⟨HB.out.1.kept k2, HB.out.2.trans (Stp.kept k2), k2⟩
    clear k2 CO
    obtain ⟨fr, hfr⟩ : ∃ fr, fr = e0.fr := ⟨_, rfl⟩
    obtain ⟨sp, hsp⟩ : ∃ sp, sp = e0.sp := ⟨_, rfl⟩
    rw [← hfr, ← hsp] at HV HA hps
    rw [← hfr, ← hsp]
    have HEQ : Hid (s0.fr = fr ∧ s0.sp = sp ∧ s0.cy = e0.cy) := ⟨efr.trans hfr.symm, esp.trans hsp.symm, ecy⟩
    clear hfr hsp efr esp ecy
    go_wp2_with fail
    generalize hW2 : w2.alloc _ = W2
    obtain ⟨rb, hrb⟩ : ∃ rb, rb = w2.heap.size := ⟨_, rfl⟩
    rw [← hrb]
    have k2 : Kept w2 W2 := by rw [← hW2]; exact (Kept.refl w2).alloc _ _
    have HR0 : Hid (Blk W2 rb [.int .i64 e0.th, .int .i64 fr, .int .i64 sp, .int .i64 e0.st, .int .i64 e0.cy, .int .i64 e0.pl, .slice e0.gx e0.G.length e0.gc]) := by
      rw [← hW2, hrb]; exact Blk.new w2 _ _
    have HS0 : Hid (RSH B W2 c A S.tick ∧ Stp c w c W2 ∧ Kept W W2) := ⟨H2.out.1.kept k2, H2.out.2.1.trans (Stp.kept k2), H2.out.2.2.trans k2⟩
    clear hW2 k2 H2 hrb
    have CF : Calls Tryz.prog 97 #[.pointer (some ⟨A.b, 0, none⟩), .int .i64 fr, .int .i64 sp] W2 fun e w' => e = .returned (.bool (fitsB S fr sp)) ∧ Kept W2 w' := rfits_any (S := S.tick) fr sp W2 HS0.out.1
    refine CF.mono ?_
    rintro e w3 ⟨rfl, k3⟩
    have HR : Hid (Blk w3 rb [.int .i64 e0.th, .int .i64 fr, .int .i64 sp, .int .i64 e0.st, .int .i64 e0.cy, .int .i64 e0.pl, .slice e0.gx e0.G.length e0.gc]) := HR0.out.kept k3
    have HS2 : Hid (RSH B w3 c A S.tick ∧ Stp c w c w3 ∧ Kept W w3) := ⟨HS0.out.1.kept k3, HS0.out.2.1.trans (Stp.kept k3), HS0.out.2.2.trans k3⟩
    clear CF k3 HR0 HS0
    have r1 := HR.out.at 1 rfl
    have r2 := HR.out.at 2 rfl
    have r4 := HR.out.at 4 rfl
    have HPS : Hid (1 ≤ fr ∧ 0 ≤ sp) := hps
    cases hft : fitsB S fr sp
    · rw [hft] at HV HA
      simp only [Bool.false_or, Bool.false_eq_true, if_false] at HV HA
      clear hft hps
      by_cases hc2 : 2 ≤ e0.cy
      · rw [if_pos hc2] at HA
        have hd2 : decide (2 ≤ e0.cy) = true := by simpa using hc2
        rw [hd2] at HV
        clear hd2
        have g2 : e0.cy ≥ 2 := hc2
        have CL := lrfail_yes w3 (HL.out.1.kept HS2.out.2.2) HIX.out.1 HIX.out.2.1
        go_wp2_with fail
        refine CL.mono ?_
        rintro e w4 ⟨rfl, t3, m3, f3⟩
        have H3a := RSH.lines (EE := S.E.set i { s0 with st := 2 }) (fo := S.fo) (ct := S.ct + 1) HS2.out.1 HL.out.2.2.2 t3 m3 (fun k hk => memR_own hk) f3
          (by rw [List.map_set, List.map_set, HL.out.2.1]
              have h1 : ({ E[i] with st := 2 } : Ent).nr = { E[i].nr with st := 2 } := rfl
              have h2 : ({ s0 with st := 2 } : Ent).nr = { s0.nr with st := 2 } := rfl
              rw [h1, h2, HEI.out.2, HEI.out.1])
          (nrel_set HL.out.2.2.1 HIX.out.2.2.1 (by rw [← HSI.out]) (by show (2 : Int) ≠ 0; decide))
        have H3 : Hid (∃ c', RSH B w4 c' A (S.tick.setE { s0 with st := 2 }) ∧ Stp c w c' w4) := by
          refine ⟨_, ?_, HS2.out.2.1.trans H3a.2⟩
          rw [HSE.out S.tick rfl]
          exact H3a.1
        clear H3a t3 m3 f3 CL r1 r2 r4
        go_wp2
        go_ret
        exact ⟨by rw [HV.out] <;> rfl, by rw [HA.out]; have H4 := H3.out; rw [HEQ.out.1, HEQ.out.2.1, HEQ.out.2.2] at H4; exact H4⟩
      · rw [if_neg hc2] at HA
        have hd2 : decide (2 ≤ e0.cy) = false := by simpa using hc2
        rw [hd2] at HV
        clear hd2
        have g2 : ¬ e0.cy ≥ 2 := hc2
        go_wp2
        go_ret
        exact ⟨by rw [HV.out] <;> rfl, c, by rw [HA.out]; exact ⟨HS2.out.1, HS2.out.2.1⟩⟩
    · rw [hft] at HV HA
      simp only [Bool.true_or, if_true] at HV HA
      have CT := rgrant_any fr sp se w3 HS2.out.1 hft HPS.out.1 HPS.out.2
      rw [show takeZ S.tick.n S.tick.F fr = takeZ S.n S.F fr from rfl, show S.tick.tkA fr sp = S.tkA fr sp from rfl] at CT
      have hZl : (takeZ S.n S.F fr).length ≤ 100000 := by
        have h2 := (fits_takes hft HPS.out.1 HPS.out.2).1
        have : (takeZ S.n S.F fr).length = fr.toNat := by simp [takeZ, takeL_len h2]
        simp only [takeB, decide_eq_true_eq] at h2
        have h3 := cntB_le S.F S.n
        have h4 := HS2.out.1.pool.few
        have h5 : S.tick.n = S.n := rfl
        omega
      generalize takeZ S.n S.F fr = Z at *
      generalize S.tkA fr sp = ta at *
      clear hft hps
      go_wp2_with fail
      refine CT.mono ?_
      rintro e w4 ⟨x, dx, rfl, s4, p4, x4, n4⟩
      obtain ⟨v, nv', E', N', q1, q2, q3, q4⟩ := s4.line
      have q2' : E'.map Ent.nr = S.E.map Ent.nr := q2
      have hix' : idx (fun e => e.st == 0) E' = (i : Int) := by rw [nr_idx q2' (fun e => e.st == 0) (fun _ => rfl)]; exact HIX.out.2.2.2
      have hi' : i < E'.length := by rw [nr_len q2']; exact HIX.out.2.2.1
      have hEi : E'[i].nr = s0.nr := by
        have := congrArg (fun l => l[i]?) q2'
        simp only [List.getElem?_map, List.getElem?_eq_getElem hi', List.getElem?_eq_getElem HIX.out.2.2.1, Option.map_some, Option.some.injEq] at this
        rw [this, HSI.out]
      have CG := lrgrant_yes (c := dx) (p := ta) w4 q1 hi' hix' x4 hZl
      have HW4 : Hid (RSH B w4 c A (S.tick.tk fr sp se) ∧ Stp c w c w4 ∧ E'.map Ent.nr = S.E.map Ent.nr ∧ Nrel S.E N' ∧ (∀ k, k ∈ footR A.b v nv' E' → c k = 3) ∧ E'[i].nr = s0.nr) := ⟨s4, HS2.out.2.1.trans p4, q2', q3, q4, hEi⟩
      clear CT s4 p4 x4 n4 q1 q2 q2' q3 q4 hEi r1 r2 r4
      go_wp2_with fail
      refine CG.mono ?_
      rintro e w5 ⟨rfl, y', d', t3, m3, f3⟩
      have H3a := RSH.lines (EE := S.E.set i { s0 with st := 1, pl := ta, G := Z }) (fo := S.fo) (ct := S.ct + 1) HW4.out.1 HW4.out.2.2.2.2.1 t3 m3 (fun k hk => memR_own hk) f3
        (by rw [List.map_set, List.map_set, HW4.out.2.2.1]
            have h1 : ({ E'[i] with st := 1, pl := ta, gx := y', gc := d', G := Z } : Ent).nr = { E'[i].nr with st := 1, pl := ta, G := Z } := rfl
            have h2 : ({ s0 with st := 1, pl := ta, G := Z } : Ent).nr = { s0.nr with st := 1, pl := ta, G := Z } := rfl
            rw [h1, h2, HW4.out.2.2.2.2.2])
        (nrel_set HW4.out.2.2.2.1 HIX.out.2.2.1 (by rw [← HSI.out]) (by show (1 : Int) ≠ 0; decide))
      have H3 : Hid (∃ c', RSH B w5 c' A ((S.tick.tk fr sp se).setE { s0 with st := 1, pl := ta, G := Z }) ∧ Stp c w c' w5) := by
        refine ⟨_, ?_, HW4.out.2.1.trans H3a.2⟩
        rw [HSE.out (S.tick.tk fr sp se) rfl]
        exact H3a.1
      clear H3a t3 m3 f3 CG
      go_wp2
      go_ret
      exact ⟨by rw [HV.out] <;> rfl, by rw [HA.out]; have H4 := H3.out; rw [HEQ.out.1, HEQ.out.2.1, HEQ.out.2.2] at H4; exact H4⟩
set_option maxHeartbeats 4000000 in
theorem rwants_any (w : World) (h : RSH B w c A S) {kb : Nat} (hk : S.Bd kb) (hkb : kb ≤ 50000) :
    Calls Tryz.prog 52 #[.pointer (some ⟨A.b, 0, none⟩)] w fun e w' => e = .returned (.bool (A.wants S)) ∧ RSH B w' c A S.tick ∧ Stp c w c w' := by
  have HV : Hid (A.wants S = (S.fo || decide (0 < (wts S.E).length) || decide ((cntB S.F S.n : Int) < A.C.n7))) := rfl
  have hlen : (wts S.E).length ≤ 50000 := by have := wts_le S.E; have := hk.len; omega
  have HS : Hid (RSH B w c A S) := h
  have HK : Hid (S.Bd kb ∧ kb ≤ 50000) := ⟨hk, hkb⟩
  have hct : 0 ≤ S.ct ∧ S.ct ≤ 50000 := ⟨hk.c0, by have := hk.c1; omega⟩
  have c16 := h.cell (i := 16) (u := .int .i64 S.ct) fun _ _ => rfl
  have f16 := h.fz 16
  have HW : Hid (∀ W, w.setCell ⟨A.b, 16, none⟩ (.int .i64 (S.ct + 1)) = W → RSH B W c A S.tick ∧ Stp c w c W) := fun W hW => by
    rw [← hW]
    exact h.ticks
  obtain ⟨h0, h1⟩ := hct
  clear h hk hkb
  go_enter Tryz.func52, Tryz.ntmps52
  go_wp2_with fail
  generalize hW : World.setCell _ _ _ = W
  have HB : Hid (RSH B W c A S.tick ∧ Stp c w c W) := HW.out W hW
  clear hW HW c16 f16
  have CW : Hid (∀ z : KW W, Calls Tryz.prog 75 #[.pointer (some ⟨A.b, 12, none⟩)] z.it fun e w' => e = .returned (.int .i64 ((wts S.E).length : Int)) ∧ w' = z.it) := fun z => by
    obtain ⟨v, nv, E, N, l1, l2, l3, l4⟩ := (HB.out.1.kept z.ok).line
    have C := lrwaits_any z.it l1
    rw [nr_wts l2] at C
    exact C
  have CF : Hid (∀ z : KW W, Calls Tryz.prog 24 #[.pointer (some ⟨A.pb, 0, none⟩)] z.it fun e w' => e = .returned (.int .i64 (cntB S.F S.n : Int)) ∧ w' = z.it) := fun z => prfree_any z.it (HB.out.1.kept z.ok).pool
  have LH : A.b < W.heap.size := by obtain ⟨_, _, q, _⟩ := HB.out.1.hd; exact q.lt
  have b7 := fun z : KW W => z.cell (a := ⟨A.b, 7, none⟩) LH (HB.out.1.cell (i := 7) (u := .int .i64 A.C.n7) fun _ _ => rfl)
  have b10 := fun z : KW W => z.cell (a := ⟨A.b, 10, none⟩) LH (HB.out.1.cell (i := 10) (u := .pointer (some ⟨A.pb, 0, none⟩)) fun _ _ => rfl)
  have b15 := fun z : KW W => z.cell (a := ⟨A.b, 15, none⟩) LH (HB.out.1.cell (i := 15) (u := .bool S.fo) fun _ _ => rfl)
  have HE2 : Hid (∀ w', (∃ z : KW W, w' = z.it) → RSH B w' c A S.tick ∧ Stp c w c w') := fun w' ⟨z, e⟩ => by rw [e]; exact ⟨HB.out.1.kept z.ok, HB.out.2.trans (Stp.kept z.ok)⟩
  generalize (wts S.E).length = wl at *
  generalize (cntB S.F S.n) = cf at *
  generalize A.C.n7 = n7 at *
  generalize S.fo = fo at *
  by_cases hw : 0 < wl
  · have dw : decide (0 < wl) = true := by simpa using hw
    have hgt : (wl : Int) > 0 := by omega
    rw [dw, Bool.or_true, Bool.true_or] at HV
    clear dw
    refine wp_region_kept (by kernel_rfl) (by kernel_rfl) fun _ => ?_
    repeat (go_big_quiet_step (first | (go_at_call 75; exact kept_of_same (CW.out _)) | (go_at_call 24; exact kept_of_same (CF.out _))))
    refine wpQuiet_nil ?_
    intro w' hz
    have H3 : Hid _ := HE2.out w' hz
    clear hz b7 b10 b15
    go_wp2
    go_ret
    exact ⟨by rw [HV.out] <;> rfl, H3.out⟩
  · have dw : decide (0 < wl) = false := by simpa using hw
    obtain rfl : wl = 0 := by omega
    rw [dw] at HV
    rw [show ((0 : Nat) : Int) = 0 from rfl] at CW
    clear dw hw
    by_cases hn : (cf : Int) < n7
    · have dn : decide ((cf : Int) < n7) = true := by simpa using hn
      rw [dn, Bool.or_true] at HV
      clear dn
      refine wp_region_kept (by kernel_rfl) (by kernel_rfl) fun _ => ?_
      repeat (go_big_quiet_step (first | (go_at_call 75; exact kept_of_same (CW.out _)) | (go_at_call 24; exact kept_of_same (CF.out _))))
      refine wpQuiet_nil ?_
      intro w' hz
      have H3 : Hid _ := HE2.out w' hz
      clear hz b7 b10 b15
      go_wp2
      go_ret
      exact ⟨by rw [HV.out] <;> rfl, H3.out⟩
    · have dn : decide ((cf : Int) < n7) = false := by simpa using hn
      rw [dn] at HV
      clear dn
      cases fo
      · refine wp_region_kept (by kernel_rfl) (by kernel_rfl) fun _ => ?_
        repeat (go_big_quiet_step (first | (go_at_call 75; exact kept_of_same (CW.out _)) | (go_at_call 24; exact kept_of_same (CF.out _))))
        refine wpQuiet_nil ?_
        intro w' hz
        have H3 : Hid _ := HE2.out w' hz
        clear hz b7 b10 b15
        go_wp2
        go_ret
        exact ⟨by rw [HV.out] <;> rfl, H3.out⟩
      · refine wp_region_kept (by kernel_rfl) (by kernel_rfl) fun _ => ?_
        repeat (go_big_quiet_step (first | (go_at_call 75; exact kept_of_same (CW.out _)) | (go_at_call 24; exact kept_of_same (CF.out _))))
        refine wpQuiet_nil ?_
        intro w' hz
        have H3 : Hid _ := HE2.out w' hz
        clear hz b7 b10 b15
        go_wp2
        go_ret
        exact ⟨by rw [HV.out] <;> rfl, H3.out⟩
end
end Go.Proofs.YtahpnnjemjjfhaaGreat

