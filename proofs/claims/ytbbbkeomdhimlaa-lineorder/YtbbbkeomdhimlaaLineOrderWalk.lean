/-
  LineOrder: the walk.
-/
import Derived.Test.YtbbbkeomdhimlaaOrdA
import Derived.Deep.CutBlock
namespace Go.Proofs.Ytbbbkeomdhimlaa
open Go.RowKit

theorem agg_in (e : Ent) (y : Option Addr) (d : Nat) : e.agg y d = .agg #[.int .i64 e.th, .int .i64 e.fr, .int .i64 e.sp, .int .i64 e.st, .int .i64 e.cy, .int .i64 e.pl, .slice y e.G.length d] := rfl

/-- What was counted of the first k of the order. -/
def cyc (E : List Ent) (t : Int) : Int := (told (E.find? fun e => e.th == t)).cy
theorem cyc_more {E : List Ent} {O : List Int} {k : Nat} (hk : k < O.length) : (O.take (k + 1)).map (cyc E) = (O.take k).map (cyc E) ++ [cyc E O[k]] := by
  rw [List.take_succ_eq_append_getElem hk, List.map_append]
  rfl

set_option maxHeartbeats 20000000 in
set_option maxRecDepth 20000 in
theorem order_walk (x : Option Addr) (l c : Nat) (L : Nat → Op10) (w : World) (hX : Ops w x l L) :
    Calls Try.prog 4 #[.slice x l c] w fun e w' => e = .returned (.bool true) ∧ Kept w w' := by
  have HX : Hid (Ops w x l L) := hX
  clear hX
  go_enter Try.func4, Try.ntmps4
  go_wp2_with fail
  refine (lfirst_any _).mono ?_
  rintro e w1 ⟨rfl, k1⟩
  have K1 : Hid (Kept w w1) := k1
  clear k1
  go_wp2_with fail
  refine (new_any _ K1.out.size).mono ?_
  rintro e w2 ⟨b, rfl, t2, k2, -⟩
  have H2 : Hid (Me3 w w2 b (.slice none 0 0) (.slice none 0 0) (.slice none 0 0) [] [] [] ∧ Pur [] [] [] 0) := ⟨⟨t2, K1.out.trans k2, Lof.nil _ _, Lst.nil _ _, fun _ _ q => (by simp [Value.ownBlock] at q), fun _ _ q => (by simp [Value.ownBlock] at q), fun _ q => (by simp [Value.ownBlock] at q)⟩, ⟨rfl, by simp, by simp, by simp, by simp, by simp, by simp⟩⟩
  clear k2 K1 t2
  go_wp2_with fail
  refine (few_any _ (HX.out.kept H2.out.1.kept)).mono ?_
  rintro e w3 ⟨rfl, h⟩
  rcases h with rfl | ⟨rfl, hl, hT⟩
  · go_wp2_with fail
    refine (lfirst_any _).mono ?_
    rintro e w4 ⟨rfl, k4⟩
    have K4 : Hid (Kept w w4) := H2.out.1.kept.trans k4
    clear k4
    go_wp2
    go_ret
    exact ⟨rfl, K4.out⟩
  · have HT : Hid _ := hT
    clear hT
    go_wp2_with fail
    go_loopg [4, 5, 6] l (fun m vo vn i wr => ∃ j : Nat, i = .int .i64 j ∧ j ≤ l ∧ m = l - j ∧ ∃ (yo yn : Option Addr) (q co qn cn : Nat), vo = .slice yo q co ∧ vn = .slice yn qn cn ∧ q ≤ j ∧ qn ≤ j ∧ Hid (∃ v E O Nn, Me3 w wr b v (.slice yo q co) (.slice yn qn cn) E O Nn ∧ Pur E O Nn j ∧ O.length = q ∧ Nn.length = qn))
    case atStart => exact ⟨0, rfl, by omega, by omega, _, _, _, _, _, _, rfl, rfl, by omega, by omega, _, _, _, _, H2.out.1, H2.out.2, rfl, rfl⟩
    case round =>
      obtain ⟨j, rfl, hj, hm, yo, yn, q, co, qn, cn, rfl, rfl, hq, hqn, hw⟩ := hrel
      have HM : Hid _ := hm
      clear hm H2
      by_cases hlt : j < l
      · obtain ⟨v, E, O, Nn, h3, hP, hO, hN⟩ := hw.out
        have H3 : Hid (Me3 w wr b v (.slice yo q co) (.slice yn qn cn) E O Nn) := h3
        have HP : Hid (Pur E O Nn j ∧ O.length = q ∧ Nn.length = qn) := ⟨hP, hO, hN⟩
        clear h3 hP hO hN hw
        obtain ⟨bx, ox, rfl, hbx, e0, e1, e2, e3, e4, e5⟩ := (HX.out.kept H3.out.kept).six hlt
        have HRX : Hid (Rdi w (L j).x (L j).T ∧ (L j).T.length ≤ 2000) := ⟨HX.out.2 j hlt, HT.out j hlt⟩
        clear hbx HX HT
        generalize L j = o at *
        obtain ⟨ok, ot, of, os, oa, ol, oc, N⟩ := o
        simp only at e0 e1 e2 e3 e4 e5 HRX
        go_upto_block 2 with fail
        clear e0 e1 e2 e3 e4 e5
        generalize hW : wr.alloc _ = W
        have BO : Hid (Own W wr.heap.size 33 [.int .i64 ok, .int .i64 ot, .int .i64 of, .int .i64 os, .int .i64 oa, .slice ol N.length oc]) := by rw [← hW]; exact Own.new wr _ _
        have HW : Hid (Me3 w W b v (.slice yo q co) (.slice yn qn cn) E O Nn) := by rw [← hW]; exact H3.out.still ((Kept.refl wr).alloc _ _)
        have NB : Hid ((∀ k, k ∈ foot b v E → wr.heap.size ≠ k) ∧ ∀ k, (Value.slice yo q co).ownBlock = some k → wr.heap.size ≠ k) := ⟨fun k hk e => by have := (H3.out.tab.lt k hk).2; omega, fun k hk e => by have := (H3.out.lo.lt k hk).2; omega⟩
        clear hW H3
        generalize wr.heap.size = ob at *
        have b0 := BO.out.blk.at 0 rfl
        go_cut [4, 5] from 47 to 206 (fun vo vn wc => ∃ (yo yn : Option Addr) (q co qn cn : Nat), vo = .slice yo q co ∧ vn = .slice yn qn cn ∧ q ≤ j + 1 ∧ qn ≤ j + 1 ∧ Hid (∃ v E O Nn, Me3 w wc b v (.slice yo q co) (.slice yn qn cn) E O Nn ∧ Pur E O Nn (j + 1) ∧ O.length = q ∧ Nn.length = qn))
        case first =>
          by_cases h0 : ok = 0
          · have h0' : (ok == 0) = true := by simpa using h0
            clear h0
            as_aux_lemma =>
              have b1 := BO.out.blk.at 1 rfl
              have b2 := BO.out.blk.at 2 rfl
              by_cases hm : ∃ e ∈ E, e.th = ot
              · have A := add_no (t := ot) (f := of) (s := 0) (s3 := 0) (s4 := 0) (s5 := 0) (x := none) (l := 0) (c := 0) _ HW.out.tab hm
                clear hm
                go_wp2_with fail
                refine A.mono ?_
                rintro e w4 ⟨rfl, k4⟩
                have H4 : Hid (Me3 w w4 b v (.slice yo q co) (.slice yn qn cn) E O Nn) := HW.out.still k4
                clear k4 A HW BO b0 b1 b2
                go_wp2
                go_meet
                case rel => exact ⟨yo, yn, q, co, qn, cn, rfl, rfl, by omega, by omega, v, E, O, Nn, H4.out, HP.out.1.more, HP.out.2⟩
              · have hno : ∀ e ∈ E, e.th ≠ ot := fun e he q => hm ⟨e, he, q⟩
                have A := add_yes (t := ot) (f := of) (s := 0) (s3 := 0) (s4 := 0) (s5 := 0) (x := none) (l := 0) (c := 0) _ HW.out.tab (by have := HP.out.1.len; omega) hno
                have P4 : Hid (Pur (E ++ [newEnt ot of 0]) (O ++ [ot]) Nn (j + 1)) := HP.out.1.add of 0 hno
                clear hm hno
                go_wp2_with fail
                refine A.mono ?_
                rintro e w4 ⟨rfl, v4, t4, m4, f4⟩
                have H4 : Hid (Me3 w w4 b v4 (.slice yo q co) (.slice yn qn cn) (E ++ [newEnt ot of 0]) O Nn) := HW.out.line t4 m4 f4
                have B4 := BO.out.muts m4 (fun k => NB.out.1 _ (mem_own k) rfl)
                have c1 := B4.blk.at 1 rfl
                have z4 := H4.out.kept.size
                have z1 : w.heap.size ≤ (w4.alloc (.cells #[.int .i64 ot] 3)).heap.size := by simp; omega
                have z2 : O.length + ([ot] : List Int).length ≤ 1000000 := by rw [HP.out.2.1]; simp; omega
                have R4 : Hid _ := rdi_lit w4 [ot]
                have L5 : Hid _ := H4.out.lo.kept ((Kept.refl w4).alloc #[.int .i64 ot] 3)
                clear t4 m4 f4 A HW BO b0 b1 b2 B4 z4
                go_wp2_with (at_builtin; refine wpList_append_lof (T := O) (N := [ot]) rfl _ _ rfl rfl L5.out z1 rfl rfl R4.out z2 ?_)
                intro v5 w5 l5 m5 f5
                have H5 : Hid (Me3 w w5 b v4 v5 (.slice yn qn cn) (E ++ [newEnt ot of 0]) (O ++ [ot]) Nn) := (H4.out.still ((Kept.refl w4).alloc #[.int .i64 ot] 3)).ords l5 m5 f5
                have HL5 : Hid ((O ++ [ot]).length = q + 1) := by rw [List.length_append, HP.out.2.1]; rfl
                obtain ⟨y5, d5, e5⟩ := l5.form
                rw [HL5.out] at e5
                subst e5
                clear l5 m5 f5 z1 z2 H4 L5 R4 c1
                go_wp2
                go_meet
                case rel => exact ⟨y5, yn, q + 1, d5, qn, cn, rfl, rfl, by omega, by omega, v4, _, _, Nn, H5.out, P4.out, HL5.out, HP.out.2.2⟩
          · have h0' : (ok == 0) = false := by simpa using h0
            clear h0
            by_cases h1 : ok = 1
            · have h1' : (ok == 1) = true := by simpa using h1
              have hne : ((1 : Int) != ok) = false := by simp [h1]
              clear h1
              as_aux_lemma =>
                have b5 := BO.out.blk.at 5 rfl
                have b4 := BO.out.blk.at 4 rfl
                rcases idx_cases (fun e => e.st == 0) E with ⟨i1, -, i3⟩ | ⟨i, hi, i1, -, i4, i5⟩
                · have A := grant_no (x := ol) (l := N.length) (c := oc) (p := oa) _ HW.out.tab i1
                  have hq0 : q = 0 := by
                    rw [← HP.out.2.1, ← HP.out.1.waits, wts, List.filter_eq_nil_iff.2 (fun e he => by simp [i3 e he])]
                    rfl
                  have z1 : decide ((q : Int) > 0) = false := decide_eq_false (by omega)
                  have z2 : decide (0 < q) = false := decide_eq_false (by omega)
                  have HQ0 : Hid _ := hq0
                  clear i1 i3 hq0
                  go_wp2_with fail
                  refine A.mono ?_
                  rintro e w4 ⟨rfl, k4⟩
                  have H4 : Hid (Me3 w w4 b v (.slice yo q co) (.slice yn qn cn) E O Nn) := HW.out.still k4
                  clear k4 A HW BO b0 b4 b5
                  go_wp2
                  go_meet
                  case rel => exact ⟨yo, yn, q, co, qn, cn, rfl, rfl, by omega, by omega, v, E, O, Nn, H4.out, HP.out.1.more, HP.out.2⟩
                · have A := grant_yes (x := ol) (c := oc) (N := N) (p := oa) _ HW.out.tab hi i1 (HRX.out.1.kept HW.out.kept) (by have := HRX.out.2; omega)
                  go_wp2_with fail
                  refine A.mono ?_
                  rintro e w4 ⟨rfl, y4, d4, t4, m4, f4⟩
                  obtain ⟨p1, p2, p3⟩ := HP.out.1.take (e' := ({ E[i] with st := 1, pl := oa, gx := y4, gc := d4, G := N } : Ent)) hi (by simpa using i4) i5 rfl (by simp) rfl
                  have HI : Hid (E[i].th = E[i].th) := rfl
                  have EC : Hid (({ E[i] with st := 1, pl := oa, gx := y4, gc := d4, G := N } : Ent).th = E[i].th ∧ ({ E[i] with st := 1, pl := oa, gx := y4, gc := d4, G := N } : Ent).st = 1) := ⟨rfl, rfl⟩
                  obtain ⟨E4, hE4⟩ : ∃ E4, E4 = E.set i ({ E[i] with st := 1, pl := oa, gx := y4, gc := d4, G := N } : Ent) := ⟨_, rfl⟩
                  obtain ⟨O', hO'⟩ : ∃ O', O' = (wts (E.drop (i + 1))).map Ent.th := ⟨_, rfl⟩
                  obtain ⟨e4, he4⟩ : ∃ e4 : Ent, e4 = ({ E[i] with st := 1, pl := oa, gx := y4, gc := d4, G := N } : Ent) := ⟨_, rfl⟩
                  have F4 : Hid (1 = e4.st ∧ oa = e4.pl ∧ N = e4.G) := by rw [he4]; exact ⟨rfl, rfl, rfl⟩
                  rw [← he4] at hE4
                  rw [← hO'] at p1 p2
                  rw [← he4] at p2 p3 t4 f4
                  rw [← hE4] at p2 p3 t4 f4
                  generalize E[i].th = t0 at *
                  have HP4 : Hid (Pur E4 O' Nn (j + 1) ∧ q = O'.length + 1) := ⟨p2, by rw [← HP.out.2.1, p1]; rfl⟩
                  have H4 : Hid (Me3 w w4 b v (.slice yo q co) (.slice yn qn cn) E4 (t0 :: O') Nn) := by
                    have := HW.out.line t4 m4 f4
                    rwa [p1] at this
                  have HF : Hid (E4.find? (fun x => x.th == t0) = some e4) := p3
                  have B4 := BO.out.muts m4 (fun k => NB.out.1 _ (mem_own k) rfl)
                  have HB4 : Hid (Own w4 ob 33 [.int .i64 ok, .int .i64 ot, .int .i64 of, .int .i64 os, .int .i64 oa, .slice ol N.length oc]) := B4
                  have HNq : Hid (Nn.length = qn) := HP.out.2.2
                  clear t4 m4 f4 A HW BO b0 b4 b5 B4 p1 p2 p3 HI EC hE4 hO' he4 i1 i4 i5 HP NB
                  obtain ⟨et, ef, es, est, ec, ep, eg, egc, eG, en⟩ := e4
                  obtain ⟨f1, f2, f3⟩ : 1 = est ∧ oa = ep ∧ N = eG := F4.out
                  subst f1
                  subst f2
                  subst f3
                  clear F4
                  obtain ⟨g, o, ey, hg, cc⟩ := H4.out.lo.rdi (by simp)
                  subst ey
                  have c0 := cc 0 (by simp)
                  rw [Nat.add_zero, List.getElem_cons_zero] at c0
                  clear cc
                  obtain ⟨hco, hlo⟩ := H4.out.lo.tail
                  have HLO : Hid (Lof w4 w.heap.size (.slice (if co = 1 then some ⟨g, o, none⟩ else some ⟨g, o + 1, none⟩) O'.length (co - 1)) O') := hlo
                  clear hlo
                  have hq0 : 0 < q := by have := HP4.out.2; omega
                  have z1 : decide ((q : Int) > 0) = true := decide_eq_true (by omega)
                  have z2 : decide (0 < q) = true := decide_eq_true (by omega)
                  have z3 : (0 : Int) < (q : Int) := by omega
                  have C5 := of_any t0 _ H4.out.tab
                  rw [HF.out] at C5
                  go_wp2_with fail
                  refine C5.mono ?_
                  rintro e w5 ⟨y5, d5, rfl, r5, -, k5⟩
                  rw [show (told (some (⟨et, ef, es, 1, ec, oa, eg, egc, N, en⟩ : Ent))).agg y5 d5 = .agg #[.int .i64 et, .int .i64 ef, .int .i64 es, .int .i64 1, .int .i64 ec, .int .i64 oa, .slice y5 N.length d5] from rfl, show (some (⟨et, ef, es, 1, ec, oa, eg, egc, N, en⟩ : Ent)).isSome = true from rfl]
                  have H5 : Hid (Me3 w w5 b v (.slice (some ⟨g, o, none⟩) q co) (.slice yn qn cn) E4 (t0 :: O') Nn ∧ Rdi w5 y5 (⟨et, ef, es, 1, ec, oa, eg, egc, N, en⟩ : Ent).G) := ⟨H4.out.still k5, r5⟩
                  have B5 := HB4.out.kept (k5.alloc #[.int .i64 et, .int .i64 ef, .int .i64 es, .int .i64 1, .int .i64 ec, .int .i64 oa, .slice y5 N.length d5] 35)
                  have a0 := B5.blk.at 0 rfl
                  have a4 := B5.blk.at 4 rfl
                  have a5 := B5.blk.at 5 rfl
                  have HL6 : Hid (Lof w5 w.heap.size (.slice (if co = 1 then some ⟨g, o, none⟩ else some ⟨g, o + 1, none⟩) O'.length (co - 1)) O') := HLO.out.kept k5
                  clear r5 k5 C5 H4 HB4 c0 HLO HF
                  have h5G : Hid (Rdi w5 y5 N) := H5.out.2
                  have hpp : (oa != oa) = false := by simp
                  obtain ⟨W6, hW6⟩ : ∃ W6, W6 = w5.alloc (.cells #[.int .i64 et, .int .i64 ef, .int .i64 es, .int .i64 1, .int .i64 ec, .int .i64 oa, .slice y5 N.length d5] 35) := ⟨_, rfl⟩
                  have k6 : Kept w5 W6 := by rw [hW6]; exact (Kept.refl _).alloc _ _
                  have D6 : Blk W6 w5.heap.size [.int .i64 et, .int .i64 ef, .int .i64 es, .int .i64 1, .int .i64 ec, .int .i64 oa, .slice y5 N.length d5] := by rw [hW6]; exact Blk.new w5 _ _
                  rw [← hW6] at B5
                  have H6 : Hid (Me3 w W6 b v (.slice (some ⟨g, o, none⟩) q co) (.slice yn qn cn) E4 (t0 :: O') Nn) := H5.out.1.still k6
                  have C6 := ints_any (x := y5) (y := ol) (c := d5) (d := oc) (T := N) W6 (by have := HRX.out.2; omega) (h5G.out.kept k6) (HRX.out.1.kept H6.out.kept)
                  have B6 : Hid (Own W6 ob 33 [.int .i64 ok, .int .i64 ot, .int .i64 of, .int .i64 os, .int .i64 oa, .slice ol N.length oc]) := B5
                  have D6h : Hid (Blk W6 w5.heap.size [.int .i64 et, .int .i64 ef, .int .i64 es, .int .i64 1, .int .i64 ec, .int .i64 oa, .slice y5 N.length d5]) := D6
                  have K6 : Hid (Kept w5 W6) := k6
                  clear B5 D6 k6
                  rw [hW6] at C6
                  go_wp2_with fail
                  refine C6.mono ?_
                  rw [← hW6]
                  rintro e w7 ⟨rfl, k7⟩
                  have a8 := (B6.out.kept k7).blk.at 4 rfl
                  have a7 := (D6h.out.kept k7).at 5 rfl
                  have H7 : Hid (Me3 w w7 b v (.slice (some ⟨g, o, none⟩) q co) (.slice yn qn cn) E4 (t0 :: O') Nn ∧ Lof w7 w.heap.size (.slice (if co = 1 then some ⟨g, o, none⟩ else some ⟨g, o + 1, none⟩) O'.length (co - 1)) O') := ⟨H6.out.still k7, HL6.out.kept (K6.out.trans k7)⟩
                  clear H5 H6 HL6 K6 D6h C6 B6 k7 h5G a0 a4 a5 hW6
                  have r1 : (1 : Int) ≤ (q : Int) := by omega
                  have HQ : Hid (q - 1 = O'.length) := by have := HP4.out.2; show q - 1 = _; omega
                  by_cases hc1 : co = 1
                  · have hc2 : (1 : Nat) = co := hc1.symm
                    subst hc2
                    go_wp2
                    go_meet
                    case rel =>
                      refine ⟨_, yn, q - 1, _, qn, cn, rfl, rfl, by omega, by omega, v, E4, O', Nn, ?_, HP4.out.1, HQ.out.symm, HNq.out⟩
                      have h7 := H7.out
                      have l7 := h7.2
                      first | rw [if_pos rfl, ← HQ.out] at l7 | rw [if_pos trivial, ← HQ.out] at l7
                      exact h7.1.ords l7 (Mut.refl _ _) (fun k hk => .inl (by simpa [Value.ownBlock] using hk))
                  · go_wp2
                    go_meet
                    case rel =>
                      refine ⟨_, yn, q - 1, _, qn, cn, rfl, rfl, by omega, by omega, v, E4, O', Nn, ?_, HP4.out.1, HQ.out.symm, HNq.out⟩
                      have h7 := H7.out
                      have l7 := h7.2
                      rw [if_neg hc1, ← HQ.out] at l7
                      exact h7.1.ords l7 (Mut.refl _ _) (fun k hk => .inl (by simpa [Value.ownBlock] using hk))
            · have h1' : (ok == 1) = false := by simpa using h1
              clear h1
              by_cases h2 : ok = 2
              · have h2' : (ok == 2) = true := by simpa using h2
                have hne : ((2 : Int) != ok) = false := by simp [h2]
                clear h2
                as_aux_lemma =>
                  have b5 := BO.out.blk.at 5 rfl
                  have b4 := BO.out.blk.at 4 rfl
                  rcases idx_cases (fun e => e.st == 0) E with ⟨i1, -, i3⟩ | ⟨i, hi, i1, -, i4, i5⟩
                  · have A := fail_no _ HW.out.tab i1
                    have hq0 : q = 0 := by
                      rw [← HP.out.2.1, ← HP.out.1.waits, wts, List.filter_eq_nil_iff.2 (fun e he => by simp [i3 e he])]
                      rfl
                    have z1 : decide ((q : Int) > 0) = false := decide_eq_false (by omega)
                    have z2 : decide (0 < q) = false := decide_eq_false (by omega)
                    have HQ0 : Hid _ := hq0
                    clear i1 i3 hq0
                    go_wp2_with fail
                    refine A.mono ?_
                    rintro e w4 ⟨rfl, k4⟩
                    have H4 : Hid (Me3 w w4 b v (.slice yo q co) (.slice yn qn cn) E O Nn) := HW.out.still k4
                    clear k4 A HW BO b0 b4 b5
                    go_wp2
                    go_meet
                    case rel => exact ⟨yo, yn, q, co, qn, cn, rfl, rfl, by omega, by omega, v, E, O, Nn, H4.out, HP.out.1.more, HP.out.2⟩
                  · have A := fail_yes _ HW.out.tab hi i1
                    go_wp2_with fail
                    refine A.mono ?_
                    rintro e w4 ⟨rfl, t4, m4, f4⟩
                    obtain ⟨p1, p2, p3⟩ := HP.out.1.take (e' := ({ E[i] with st := 2 } : Ent)) hi (by simpa using i4) i5 rfl (by simp) rfl
                    have HI : Hid (E[i].th = E[i].th) := rfl
                    have EC : Hid (({ E[i] with st := 2 } : Ent).th = E[i].th ∧ ({ E[i] with st := 2 } : Ent).st = 2) := ⟨rfl, rfl⟩
                    obtain ⟨E4, hE4⟩ : ∃ E4, E4 = E.set i ({ E[i] with st := 2 } : Ent) := ⟨_, rfl⟩
                    obtain ⟨O', hO'⟩ : ∃ O', O' = (wts (E.drop (i + 1))).map Ent.th := ⟨_, rfl⟩
                    obtain ⟨e4, he4⟩ : ∃ e4 : Ent, e4 = ({ E[i] with st := 2 } : Ent) := ⟨_, rfl⟩
                    have F4 : Hid (2 = e4.st) := by rw [he4]; exact rfl
                    rw [← he4] at hE4
                    rw [← hO'] at p1 p2
                    rw [← he4] at p2 p3 t4 f4
                    rw [← hE4] at p2 p3 t4 f4
                    generalize E[i].th = t0 at *
                    have HP4 : Hid (Pur E4 O' Nn (j + 1) ∧ q = O'.length + 1) := ⟨p2, by rw [← HP.out.2.1, p1]; rfl⟩
                    have H4 : Hid (Me3 w w4 b v (.slice yo q co) (.slice yn qn cn) E4 (t0 :: O') Nn) := by
                      have := HW.out.line t4 m4 f4
                      rwa [p1] at this
                    have HF : Hid (E4.find? (fun x => x.th == t0) = some e4) := p3
                    have B4 := BO.out.muts m4 (fun k => NB.out.1 _ (mem_own k) rfl)
                    have HB4 : Hid (Own w4 ob 33 [.int .i64 ok, .int .i64 ot, .int .i64 of, .int .i64 os, .int .i64 oa, .slice ol N.length oc]) := B4
                    have HNq : Hid (Nn.length = qn) := HP.out.2.2
                    clear t4 m4 f4 A HW BO b0 b4 b5 B4 p1 p2 p3 HI EC hE4 hO' he4 i1 i4 i5 HP NB
                    obtain ⟨et, ef, es, est, ec, ep, eg, egc, eG, en⟩ := e4
                    have f1 : 2 = est := F4.out
                    subst f1
                    clear F4
                    obtain ⟨g, o, ey, hg, cc⟩ := H4.out.lo.rdi (by simp)
                    subst ey
                    have c0 := cc 0 (by simp)
                    rw [Nat.add_zero, List.getElem_cons_zero] at c0
                    clear cc
                    obtain ⟨hco, hlo⟩ := H4.out.lo.tail
                    have HLO : Hid (Lof w4 w.heap.size (.slice (if co = 1 then some ⟨g, o, none⟩ else some ⟨g, o + 1, none⟩) O'.length (co - 1)) O') := hlo
                    clear hlo
                    have hq0 : 0 < q := by have := HP4.out.2; omega
                    have z1 : decide ((q : Int) > 0) = true := decide_eq_true (by omega)
                    have z2 : decide (0 < q) = true := decide_eq_true (by omega)
                    have z3 : (0 : Int) < (q : Int) := by omega
                    have C5 := of_any t0 _ H4.out.tab
                    rw [HF.out] at C5
                    go_wp2_with fail
                    refine C5.mono ?_
                    rintro e w5 ⟨y5, d5, rfl, r5, -, k5⟩
                    rw [show (told (some (⟨et, ef, es, 2, ec, ep, eg, egc, eG, en⟩ : Ent))).agg y5 d5 = .agg #[.int .i64 et, .int .i64 ef, .int .i64 es, .int .i64 2, .int .i64 ec, .int .i64 ep, .slice y5 eG.length d5] from rfl, show (some (⟨et, ef, es, 2, ec, ep, eg, egc, eG, en⟩ : Ent)).isSome = true from rfl]
                    have H5 : Hid (Me3 w w5 b v (.slice (some ⟨g, o, none⟩) q co) (.slice yn qn cn) E4 (t0 :: O') Nn ∧ Rdi w5 y5 (⟨et, ef, es, 2, ec, ep, eg, egc, eG, en⟩ : Ent).G) := ⟨H4.out.still k5, r5⟩
                    have B5 := HB4.out.kept (k5.alloc #[.int .i64 et, .int .i64 ef, .int .i64 es, .int .i64 2, .int .i64 ec, .int .i64 ep, .slice y5 eG.length d5] 35)
                    have a0 := B5.blk.at 0 rfl
                    have a4 := B5.blk.at 4 rfl
                    have a5 := B5.blk.at 5 rfl
                    have HL6 : Hid (Lof w5 w.heap.size (.slice (if co = 1 then some ⟨g, o, none⟩ else some ⟨g, o + 1, none⟩) O'.length (co - 1)) O') := HLO.out.kept k5
                    clear r5 k5 C5 H4 HB4 c0 HLO HF
                    have H7 : Hid (∀ w7, Kept w5 w7 → Me3 w w7 b v (.slice (some ⟨g, o, none⟩) q co) (.slice yn qn cn) E4 (t0 :: O') Nn ∧ Lof w7 w.heap.size (.slice (if co = 1 then some ⟨g, o, none⟩ else some ⟨g, o + 1, none⟩) O'.length (co - 1)) O') := fun w7 k7 => ⟨H5.out.1.still k7, HL6.out.kept k7⟩
                    clear H5 HL6 B5
                    have r1 : (1 : Int) ≤ (q : Int) := by omega
                    have HQ : Hid (q - 1 = O'.length) := by have := HP4.out.2; show q - 1 = _; omega
                    by_cases hc1 : co = 1
                    · have hc2 : (1 : Nat) = co := hc1.symm
                      subst hc2
                      go_wp2
                      go_meet
                      case rel =>
                        refine ⟨_, yn, q - 1, _, qn, cn, rfl, rfl, by omega, by omega, v, E4, O', Nn, ?_, HP4.out.1, HQ.out.symm, HNq.out⟩
                        have h7 := H7.out _ ((Kept.refl w5).alloc #[.int .i64 et, .int .i64 ef, .int .i64 es, .int .i64 2, .int .i64 ec, .int .i64 ep, .slice y5 eG.length d5] 35)
                        have l7 := h7.2
                        first | rw [if_pos rfl, ← HQ.out] at l7 | rw [if_pos trivial, ← HQ.out] at l7
                        exact h7.1.ords l7 (Mut.refl _ _) (fun k hk => .inl (by simpa [Value.ownBlock] using hk))
                    · go_wp2
                      go_meet
                      case rel =>
                        refine ⟨_, yn, q - 1, _, qn, cn, rfl, rfl, by omega, by omega, v, E4, O', Nn, ?_, HP4.out.1, HQ.out.symm, HNq.out⟩
                        have h7 := H7.out _ ((Kept.refl w5).alloc #[.int .i64 et, .int .i64 ef, .int .i64 es, .int .i64 2, .int .i64 ec, .int .i64 ep, .slice y5 eG.length d5] 35)
                        have l7 := h7.2
                        rw [if_neg hc1, ← HQ.out] at l7
                        exact h7.1.ords l7 (Mut.refl _ _) (fun k hk => .inl (by simpa [Value.ownBlock] using hk))
              · have h2' : (ok == 2) = false := by simpa using h2
                clear h2
                by_cases h4 : ok = 4
                · have h4' : (ok == 4) = true := by simpa using h4
                  clear h4
                  as_aux_lemma =>
                    go_wp2_with fail
                    refine (begin_any _ HW.out.tab).mono ?_
                    rintro e w4 ⟨rfl, t4, m4⟩
                    have H4 : Hid (Me3 w w4 b v (.slice yo q co) (.slice yn qn cn) (E.map noteE) O Nn) := HW.out.line t4 m4 (fun k hk => .inl (foot_upd (f := noteE) (fun _ => rfl) hk))
                    clear t4 m4 HW BO b0
                    have C5 := copy_any (x := yo) (c := co) (N := O) _ H4.out.lo.rdi (by rw [HP.out.2.1]; omega)
                    rw [HP.out.2.1] at C5
                    go_wp2_with fail
                    refine C5.mono ?_
                    rintro e w5 ⟨v5, rfl, l5, k5⟩
                    have H5 : Hid (Me3 w w5 b v (.slice yo q co) v5 (E.map noteE) O O) := H4.out.notes k5 l5
                    obtain ⟨y5, d5, e5⟩ := l5.form
                    rw [HP.out.2.1] at e5
                    subst e5
                    clear l5 k5 C5 H4
                    go_wp2
                    go_meet
                    case rel => exact ⟨yo, y5, q, co, q, d5, rfl, rfl, by omega, by omega, v, _, O, O, H5.out, HP.out.1.begins, HP.out.2.1, HP.out.2.1⟩
                · have h4' : (ok == 4) = false := by simpa using h4
                  clear h4
                  by_cases h5 : ok = 5
                  · have h5' : (ok == 5) = true := by simpa using h5
                    clear h5
                    as_aux_lemma =>
                      have hE5 : ∀ k (hk : k < O.length), ∃ e, e ∈ E ∧ e.th = O[k] ∧ e.st = 0 ∧ E.find? (fun x => x.th == O[k]) = some e := fun k hk => HP.out.1.at hk
                      have HE5 : Hid _ := hE5
                      clear hE5 b0 BO NB HRX
                      obtain ⟨wA, rfl⟩ : ∃ wA, wA = W := ⟨_, rfl⟩
                      go_wp2_with fail
                      go_loopg [11, 12] q (fun m vb i wr2 => ∃ k2 : Nat, i = .int .i64 k2 ∧ k2 ≤ q ∧ m = q - k2 ∧ ∃ (yb : Option Addr) (cb : Nat), vb = .slice yb k2 cb ∧ Hid (Kept wA wr2 ∧ Lst wr2 wA.heap.size (.slice yb k2 cb) ((O.take k2).map (cyc E))))
                      case atStart => exact ⟨0, rfl, by omega, by omega, _, _, rfl, Kept.refl _, Lst.nil _ _⟩
                      case round =>
                        obtain ⟨k2, rfl, hk2, hm, yb, cb, rfl, hb⟩ := hrel
                        have HM2 : Hid _ := hm
                        clear hm
                        by_cases hlt2 : k2 < q
                        · have hlO : k2 < O.length := by rw [HP.out.2.1]; exact hlt2
                          obtain ⟨g, o, ey, hg, cc⟩ := HW.out.lo.rdi (by omega)
                          subst ey
                          have c1 := (hb.out.1.cell (a := ⟨g, o + k2, none⟩) hg).trans (cc k2 hlO)
                          obtain ⟨e2, he2, ht2, hs2, hf2⟩ := HE5.out k2 hlO
                          have C := of_any O[k2] _ (HW.out.still hb.out.1).tab
                          rw [hf2] at C
                          have HC : Hid ((O.take (k2 + 1)).map (cyc E) = (O.take k2).map (cyc E) ++ [e2.cy]) := by
                            rw [cyc_more hlO]
                            show _ = _
                            simp only [cyc, hf2]
                            rfl
                          clear cc he2 ht2 hs2 hf2
                          generalize O[k2] = t2 at *
                          have z5 : (k2 : Int) < (q : Int) := by omega
                          go_wp2_with fail
                          refine C.mono ?_
                          rintro e w4 ⟨y4, d4, rfl, -, -, k4⟩
                          rw [show told (some e2) = e2 from rfl, agg_in, show (some e2).isSome = true from rfl]
                          clear C c1
                          have H4 : Hid (Kept wA w4 ∧ Lst w4 wA.heap.size (.slice yb k2 cb) ((O.take k2).map (cyc E))) := ⟨hb.out.1.trans k4, hb.out.2.kept k4⟩
                          clear k4
                          have kA := ((Kept.refl w4).alloc #[.int .i64 e2.th, .int .i64 e2.fr, .int .i64 e2.sp, .int .i64 e2.st, .int .i64 e2.cy, .int .i64 e2.pl, .slice y4 e2.G.length d4] 35)
                          obtain ⟨W5, hW5⟩ : ∃ W5, W5 = w4.alloc (.cells #[.int .i64 e2.th, .int .i64 e2.fr, .int .i64 e2.sp, .int .i64 e2.st, .int .i64 e2.cy, .int .i64 e2.pl, .slice y4 e2.G.length d4] 35) := ⟨_, rfl⟩
                          rw [← hW5] at kA
                          have L5 : Hid (Lst (W5.alloc (.cells #[.int .i64 e2.cy] 3)) wA.heap.size (.slice yb k2 cb) ((O.take k2).map (cyc E))) := (H4.out.2.kept kA).alloc _ _
                          have R5 : Hid (Rdi (W5.alloc (.cells #[.int .i64 e2.cy] 3)) (some ⟨W5.heap.size, 0, none⟩) [e2.cy]) := rdi_lit W5 [e2.cy]
                          have K5 : Hid (Kept wA (W5.alloc (.cells #[.int .i64 e2.cy] 3))) := (H4.out.1.trans kA).alloc _ _
                          have zz : W5.heap.size = w4.heap.size + 1 := by rw [hW5]; simp
                          rw [hW5] at L5 R5 K5 zz
                          clear hW5 kA
                          have z1 := K5.out.size
                          have z2 : ((O.take k2).map (cyc E)).length + ([e2.cy] : List Int).length ≤ 1000000 := by simp; omega
                          have hl2 : ((O.take k2).map (cyc E)).length = k2 := by rw [List.length_map, List.length_take]; omega
                          have HL2 : Hid _ := hl2
                          have HZ2 : Hid _ := z2
                          rw [zz] at R5
                          clear z2 hl2 zz
                          go_wp2_with (at_builtin; refine wpList_append_lst (T := (O.take k2).map (cyc E)) (N := [e2.cy]) rfl _ _ rfl rfl L5.out z1 rfl rfl R5.out HZ2.out ?_)
                          intro v6 w6 l6 m6 f6
                          have H6 : Hid (Kept wA w6 ∧ Lst w6 wA.heap.size v6 ((O.take (k2 + 1)).map (cyc E))) := ⟨K5.out.muts m6 (fun k hk => (L5.out.lt k (by simpa using hk)).1), by rw [HC.out, List.map_take]; exact l6⟩
                          obtain ⟨y6, d6, e6⟩ := H6.out.2.form
                          rw [HC.out, List.length_append, HL2.out, show ([e2.cy] : List Int).length = 1 from rfl] at e6
                          subst e6
                          clear l6 m6 f6 L5 R5 K5 z1 H4 HL2 HZ2
                          go_wp2
                          go_roundg (q - (k2 + 1))
                          all_goals (have := HM2.out; try omega)
                          exact ⟨k2 + 1, by go_num, by omega, by omega, _, _, rfl, H6.out⟩
                        · obtain rfl : k2 = q := by omega
                          have hbb : Hid (Kept wA wr ∧ Lst wr wA.heap.size (.slice yb k2 cb) (O.map (cyc E))) := by
                            have := hb.out
                            rwa [List.take_of_length_le (by rw [HP.out.2.1]; omega)] at this
                          clear hb HM2
                          have H4 : Hid (Me3 w wr b v (.slice yo k2 co) (.slice yn qn cn) E O Nn) := HW.out.still hbb.out.1
                          have hall : ∀ k, k ∈ foot b v E → k < wA.heap.size := fun k hk => (HW.out.tab.lt k hk).2
                          have HALL : Hid _ := hall
                          clear hall
                          go_wp2_with fail
                          refine (end_any _ H4.out.tab (fun e he => by have := HP.out.1.cy e he; omega)).mono ?_
                          rintro e w5 ⟨rfl, t5, m5⟩
                          have H5 : Hid (Me3 w w5 b v (.slice yo k2 co) (.slice yn qn cn) (E.map endE) O Nn) := H4.out.line t5 m5 (fun k hk => .inl (foot_upd (f := endE) (fun _ => rfl) hk))
                          have L5 : Hid (Lst w5 wA.heap.size (.slice yb k2 cb) (O.map (cyc E))) := hbb.out.2.muts m5 (fun k hk hd => by
                            have h1 := HALL.out k (mem_own hd)
                            have h2 := (hbb.out.2.lt k hk).1
                            omega)
                          clear t5 m5 H4 hbb HALL HW
                          go_wp2_with fail
                          go_loopg [15] k2 (fun m i wr2 => ∃ k3 : Nat, i = .int .i64 k3 ∧ k3 ≤ k2 ∧ m = k2 - k3 ∧ Hid (Kept w5 wr2))
                          case atStart => exact ⟨0, rfl, by omega, by omega, Kept.refl _⟩
                          case round =>
                            obtain ⟨k3, rfl, hk3, hm, hk5⟩ := hrel
                            have HM3 : Hid _ := hm
                            clear hm
                            by_cases hlt3 : k3 < k2
                            · have hlO : k3 < O.length := by rw [HP.out.2.1]; exact hlt3
                              obtain ⟨g, o, ey, hg, cc⟩ := H5.out.lo.rdi (by omega)
                              subst ey
                              have c1 := cc k3 hlO
                              obtain ⟨gb, ob2, eyb, hgb, ccb⟩ := L5.out.rdi (by simp; omega)
                              subst eyb
                              have cb1 := ccb k3 (by simpa using hlO)
                              rw [List.getElem_map] at cb1
                              obtain ⟨e2, he2, ht2, hs2, hf2⟩ := HE5.out k3 hlO
                              rw [show cyc E O[k3] = e2.cy by simp only [cyc, hf2]; rfl] at cb1
                              obtain ⟨q1, q2⟩ := HP.out.1.ended he2 ht2 hs2
                              have hcy := HP.out.1.cy e2 he2
                              have HCell : Hid (∀ w', Kept wr w' → w'.cell? ⟨g, o + k3, none⟩ = some (.int .i64 O[k3]) ∧ w'.cell? ⟨gb, ob2 + k3, none⟩ = some (.int .i64 e2.cy)) := fun w' kk => ⟨((hk5.out.trans kk).cell (a := ⟨g, o + k3, none⟩) hg).trans c1, ((hk5.out.trans kk).cell (a := ⟨gb, ob2 + k3, none⟩) hgb).trans cb1⟩
                              have C := of_any O[k3] _ (H5.out.still hk5.out).tab
                              rw [q1] at C
                              have HS : Hid (∀ w', Kept wr w' → Calls Try.prog 31 #[.slice yn qn cn, .int .i64 O[k3]] w' fun e w2 => e = .returned (.bool (decide (O[k3] ∈ Nn))) ∧ Kept w' w2) := fun w' kk => by
                                have := has_any (x := yn) (c := cn) (T := Nn) O[k3] w' (by rw [HP.out.2.2]; omega) ((H5.out.still (hk5.out.trans kk)).ln.rdi)
                                rwa [HP.out.2.2] at this
                              obtain ⟨e3, he3⟩ : ∃ e3, e3 = endE e2 := ⟨_, rfl⟩
                              rw [← he3] at C q2
                              have c2 := (HCell.out wr (Kept.refl _)).1
                              clear cc ccb he2 ht2 hs2 hf2 q1 he3 c1 cb1
                              generalize decide (O[k3] ∈ Nn) = ni at *
                              have Q2 : Hid (e3.cy = e2.cy + (if ni = true then 1 else 0)) := q2
                              clear q2
                              generalize O[k3] = t2 at *
                              have z5 : (k3 : Int) < (k2 : Int) := by omega
                              go_wp2_with fail
                              refine C.mono ?_
                              rintro e w6 ⟨y6, d6, rfl, -, -, k6⟩
                              rw [show told (some e3) = e3 from rfl, agg_in, show (some e3).isSome = true from rfl]
                              have kA := k6.alloc #[.int .i64 e3.th, .int .i64 e3.fr, .int .i64 e3.sp, .int .i64 e3.st, .int .i64 e3.cy, .int .i64 e3.pl, .slice y6 e3.G.length d6] 35
                              have B6 : Blk _ w6.heap.size [.int .i64 e3.th, .int .i64 e3.fr, .int .i64 e3.sp, .int .i64 e3.st, .int .i64 e3.cy, .int .i64 e3.pl, .slice y6 e3.G.length d6] := Blk.new w6 _ 35
                              have c3 := fun A u => (HCell.out (w6.alloc (.cells A u)) (k6.alloc A u)).1
                              have S6 := HS.out _ kA
                              have HKA : Hid (Kept wr _ ∧ Blk _ _ _) := ⟨kA, B6⟩
                              clear kA B6 k6 C c2 HS
                              go_wp2_with fail
                              refine S6.mono ?_
                              rintro e w7 ⟨rfl, k7⟩
                              have B7 := HKA.out.2.kept k7
                              have a4 := B7.at 4 rfl
                              obtain ⟨c4, c5⟩ := HCell.out _ (HKA.out.1.trans k7)
                              have H7 : Hid (Kept w5 w7) := (hk5.out.trans HKA.out.1).trans k7
                              generalize w6.heap.size = rb at *
                              clear B7 k7 S6 HKA c3 HCell c4
                              have hcy1 : 0 ≤ e2.cy := hcy.1
                              have hcy2 : e2.cy ≤ 200 := by have := hcy.2; omega
                              cases ni
                              · have q3 : e3.cy = e2.cy := by simpa using Q2.out
                                rw [q3] at a4
                                have z6 : (e2.cy != e2.cy) = false := by simp
                                clear Q2 q3 hcy
                                go_wp2
                                go_region
                                all_goals go_wp2
                                all_goals go_roundg (k2 - (k3 + 1))
                                all_goals (have := HM3.out; try omega)
                                all_goals exact ⟨k3 + 1, by go_num, by omega, by omega, H7.out.drew⟩
                              · have q3 : e3.cy = e2.cy + 1 := by simpa using Q2.out
                                rw [q3] at a4
                                have z6 : (e2.cy + 1 != e2.cy + 1) = false := by simp
                                clear Q2 q3 hcy
                                go_wp2
                                go_region
                                all_goals go_wp2
                                all_goals go_roundg (k2 - (k3 + 1))
                                all_goals (have := HM3.out; try omega)
                                all_goals exact ⟨k3 + 1, by go_num, by omega, by omega, H7.out.drew⟩
                            · obtain rfl : k3 = k2 := by omega
                              have H6 : Hid (Me3 w wr b v (.slice yo k3 co) (.slice none 0 0) (E.map endE) O []) := (H5.out.still hk5.out).none
                              clear H5 L5 hk5 HM3
                              go_wp2
                              go_meet
                              case rel => exact ⟨yo, none, k3, co, 0, 0, rfl, rfl, by omega, by omega, v, _, O, [], H6.out, HP.out.1.ends, HP.out.2.1, rfl⟩
                  · have h5' : (ok == 5) = false := by simpa using h5
                    clear h5
                    go_wp2
                    go_meet
                    case rel => exact ⟨yo, yn, q, co, qn, cn, rfl, rfl, by omega, by omega, v, E, O, Nn, HW.out, HP.out.1.more, HP.out.2⟩
        case rest =>
          as_aux_lemma =>
            clear HP HW BO NB HRX b0
            obtain ⟨yo, yn, q, co, qn, cn, rfl, rfl, hq, hqn, hc⟩ := hcut
            obtain ⟨v, E, O, Nn, h3, hP, hO, hN⟩ := hc.out
            have HH : Hid (Me3 w wc b v (.slice yo q co) (.slice yn qn cn) E O Nn) := h3
            have HP : Hid (Pur E O Nn (j + 1) ∧ O.length = q ∧ Nn.length = qn) := ⟨hP, hO, hN⟩
            clear h3 hP hO hN hc
            have CW := waits_any _ HH.out.tab
            rw [HP.out.1.waits, HP.out.2.1] at CW
            have z3 : ((q : Int) != (q : Int)) = false := by simp
            go_wp2_with fail
            refine CW.mono ?_
            rintro e w4 ⟨rfl, k4⟩
            have H4 : Hid (Me3 w w4 b v (.slice yo q co) (.slice yn qn cn) E O Nn) := HH.out.still k4
            clear k4 CW HH
            have CF := first_any _ H4.out.tab
            rw [first_wts] at CF
            have HOW : Hid (O = (wts E).map Ent.th) := HP.out.1.eq
            cases hWE : wts E with
            | nil =>
              have hq0 : q = 0 := by rw [← HP.out.2.1, HOW.out, hWE]; rfl
              rw [hWE, show ([] : List Ent).head? = none from rfl] at CF
              have z1 : decide ((q : Int) > 0) = false := decide_eq_false (by omega)
              have z2 : decide (0 < q) = false := decide_eq_false (by omega)
              have HQ0 : Hid (q = 0) := hq0
              clear hq0 hWE HOW
              go_wp2_with fail
              refine CF.mono ?_
              rintro e wP ⟨yP, dP, rfl, -, -, kP⟩
              rw [show (told none).agg yP dP = .agg #[.int .i64 0, .int .i64 0, .int .i64 0, .int .i64 0, .int .i64 0, .int .i64 0, .slice yP 0 dP] from rfl, show (none : Option Ent).isSome = false from rfl]
              have HQ : Hid (Me3 w wP b v (.slice yo q co) (.slice yn qn cn) E O Nn) := H4.out.still kP
              clear kP CF H4
              go_upto_region 52 with fail
              generalize hW : wP.alloc _ = WP
              have HR : Hid (Me3 w WP b v (.slice yo q co) (.slice yn qn cn) E O Nn) := by rw [← hW]; exact HQ.out.still ((Kept.refl _).alloc _ _)
              clear hW HQ
              refine wp_region_kept (by kernel_rfl) (by kernel_rfl) fun _ => ?_
              repeat (go_big_quiet_step (fail))
              refine wpQuiet_nil ?_
              rintro _ ⟨z, rfl⟩
              have HZ : Hid (Me3 w z.it b v (.slice yo q co) (.slice yn qn cn) E O Nn) := HR.out.still z.ok
              clear HR
              go_wp2
              go_roundg (l - (j + 1))
              all_goals (have := HM.out; try omega)
              exact ⟨j + 1, by go_num, by omega, rfl, _, _, _, _, _, _, rfl, rfl, by omega, by omega, v, E, O, Nn, HZ.out, HP.out⟩
            | cons e0 E2 =>
              have hO0 : O = e0.th :: E2.map Ent.th := by rw [HOW.out, hWE]; rfl
              have hq1 : 0 < q := by rw [← HP.out.2.1, hO0]; simp
              rw [hWE, show (e0 :: E2).head? = some e0 from rfl] at CF
              have z1 : decide ((q : Int) > 0) = true := decide_eq_true (by omega)
              have z2 : decide (0 < q) = true := decide_eq_true (by omega)
              have z4 : (e0.th != e0.th) = false := by simp
              have z5 : (0 : Int) < (q : Int) := by omega
              obtain ⟨g1, o1, ey, hg1, cc⟩ := H4.out.lo.rdi (by rw [HP.out.2.1]; exact hq1)
              subst ey
              have c1 := cc 0 (by rw [HP.out.2.1]; exact hq1)
              rw [show O[0]'(by rw [HP.out.2.1]; exact hq1) = e0.th by simp [hO0]] at c1
              rw [Nat.add_zero] at c1
              have HQ1 : Hid (0 < q) := hq1
              clear cc hq1 hO0 hWE HOW
              go_wp2_with fail
              refine CF.mono ?_
              rintro e wP ⟨yP, dP, rfl, -, -, kP⟩
              rw [show (told (some e0)) = e0 from rfl, agg_in, show (some e0).isSome = true from rfl]
              have HQ : Hid (Me3 w wP b v (.slice (some ⟨g1, o1, none⟩) q co) (.slice yn qn cn) E O Nn) := H4.out.still kP
              have c2 := (kP.cell (a := ⟨g1, o1, none⟩) hg1).trans c1
              have hg2 : g1 < wP.heap.size := Nat.lt_of_lt_of_le hg1 kP.size
              clear kP CF H4 c1 hg1
              go_upto_region 52 with fail
              generalize hW : wP.alloc _ = WP
              have HR : Hid (Me3 w WP b v (.slice (some ⟨g1, o1, none⟩) q co) (.slice yn qn cn) E O Nn) := by rw [← hW]; exact HQ.out.still ((Kept.refl _).alloc _ _)
              have bP : Blk WP wP.heap.size [.int .i64 e0.th, .int .i64 e0.fr, .int .i64 e0.sp, .int .i64 e0.st, .int .i64 e0.cy, .int .i64 e0.pl, .slice yP e0.G.length dP] := by rw [← hW]; exact Blk.new wP _ _
              have kW : Kept wP WP := by rw [← hW]; exact (Kept.refl _).alloc _ _
              have d1 := fun z : KW WP => z.cell bP.lt (bP.at 0 rfl)
              have d2 := fun z : KW WP => z.cell (a := ⟨g1, o1, none⟩) (Nat.lt_of_lt_of_le hg2 kW.size) ((kW.cell hg2).trans c2)
              clear hW HQ bP kW c2 hg2
              refine wp_region_kept (by kernel_rfl) (by kernel_rfl) fun _ => ?_
              repeat (go_big_quiet_step (fail))
              refine wpQuiet_nil ?_
              rintro _ ⟨z, rfl⟩
              have HZ : Hid (Me3 w z.it b v (.slice (some ⟨g1, o1, none⟩) q co) (.slice yn qn cn) E O Nn) := HR.out.still z.ok
              clear HR d1 d2
              go_wp2
              go_roundg (l - (j + 1))
              all_goals (have := HM.out; try omega)
              exact ⟨j + 1, by go_num, by omega, rfl, _, _, _, _, _, _, rfl, rfl, by omega, by omega, v, E, O, Nn, HZ.out, HP.out⟩
      · obtain rfl : j = l := by omega
        have K4 : Hid (Kept w wr) := by
          obtain ⟨v, E, O, Nn, h3, _⟩ := hw.out
          exact h3.kept
        clear hw HM
        go_wp2_with fail
        refine (lfirst_any _).mono ?_
        rintro e w5 ⟨rfl, k5⟩
        have K5 : Hid (Kept w w5) := K4.out.trans k5
        clear k5
        go_wp2
        go_ret
        exact ⟨rfl, K5.out⟩

theorem lineOrder_any (x0 : Option Addr) (l0 c0 : Nat) (L0 : Nat → Op10) (w : World) (_h0c : l0 ≤ c0) (hL0 : Ops w x0 l0 L0) :
    Calls Try.prog 4 #[.slice x0 l0 c0] w fun e w' => e = .returned (.bool true) ∧ Kept w w' := order_walk x0 l0 c0 L0 w hL0
end Go.Proofs.Ytbbbkeomdhimlaa
