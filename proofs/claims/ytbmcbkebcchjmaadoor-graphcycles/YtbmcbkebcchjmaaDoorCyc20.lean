/-
  GraphCycles.
-/
import Derived.Test.YtbmcbkebcchjmaaDoorRing20
namespace Go.Proofs.YtbmcbkebcchjmaaDoor
open Go.RowKit
attribute [local go_sem] run_store_complex

/-- What Reach and Live answer of a closed ring, one of which is held. -/
theorem ring_reach {base p n : Nat} {F : List Nat} {w : World} (h : GS CW base p F (cS n) w) (h1 : 1 ≤ n) (h2 : n ≤ 100) :
    Calls Tryd.prog 9 #[.pointer (some ⟨p, 0, none⟩)] w fun e w' => ∃ x d, e = .returned (.slice x n d) ∧ Kept w w' := by
  refine (gs_reach h (vs := [noneV, refV (n - 1), noneV, zerV]) rfl (tg := [none, none]) (tl := [none, some (n - 1), none, none]) (Kds.rep 2) ⟨rfl, fun k q q' => ?_⟩ (by decide) (by simp) (rsc n) (ring_leads h2) ?_ ?_).mono ?_
  · have q : k < 4 := q
    rcases (by omega : k = 0 ∨ k = 1 ∨ k = 2 ∨ k = 3) with rfl | rfl | rfl | rfl
    · exact Kd.none
    · exact Kd.ref _ (by omega)
    · exact Kd.none
    · exact Kd.num _ _
  · intro r hr
    have : r = n - 1 := by simpa using hr
    show r < (ringC n).length
    rw [ringC_len]; omega
  · intro i j e
    show j < (ringC n).length
    rw [ringC_len]; exact ring_in i j e
  · rintro e w' ⟨v, ids, rfl, hl, hn, hi, k⟩
    have hp := all_perm hn fun x => (hi x).trans (ring_all h1 x)
    have e1 : ids.length = n := by rw [hp.length_eq, List.length_range]
    obtain ⟨x, d, rfl⟩ := hl.form
    rw [NI_len, e1]
    exact ⟨x, d, rfl, k⟩
theorem ring_live {base p n : Nat} {F : List Nat} {w : World} (h : GS CW base p F (cS n) w) (h1 : 1 ≤ n) (h2 : n ≤ 100) :
    Calls Tryd.prog 10 #[.pointer (some ⟨p, 0, none⟩)] w fun e w' => e = .returned (.tuple #[.int .i64 (n : Int), .int .i64 0]) ∧ Kept w w' := by
  refine (gs_live h CW.ok (vs := [noneV, refV (n - 1), noneV, zerV]) rfl (tg := [none, none]) (tl := [none, some (n - 1), none, none]) (Kds.rep 2) ⟨rfl, fun k q q' => ?_⟩ (by decide) (by simp) (rsc n) (ring_leads h2) ?_ ?_ ?_).mono ?_
  · have q : k < 4 := q
    rcases (by omega : k = 0 ∨ k = 1 ∨ k = 2 ∨ k = 3) with rfl | rfl | rfl | rfl
    · exact Kd.none
    · exact Kd.ref _ (by omega)
    · exact Kd.none
    · exact Kd.num _ _
  · intro r hr
    have : r = n - 1 := by simpa using hr
    show r < (ringC n).length
    rw [ringC_len]; omega
  · intro i j e
    show j < (ringC n).length
    rw [ringC_len]; exact ring_in i j e
  · intro i t e _
    obtain ⟨_, rfl⟩ := ring_get e
    rfl
  · rintro e w' ⟨ids, rfl, hn, hi, k⟩
    have hp := all_perm hn fun x => (hi x).trans (ring_all h1 x)
    have f1 : ∀ i, i < n → frT CW (cS n).T i = 1 := fun i hi => by
      unfold frT
      have : (cS n).T[i]? = some ⟨0, 0, some ((0 : Int), refV (if i = 0 then n - 1 else i - 1))⟩ := by
        show (ringC n)[i]? = _
        unfold ringC
        rw [List.getElem?_map, List.getElem?_range hi]
        rfl
      rw [this]
      exact (by decide : (1 : Int) + 3 / 7 = 1)
    have f2 : ∀ i, i < n → spT CW (cS n).T i = 0 := fun i hi => by
      unfold spT
      have : (cS n).T[i]? = some ⟨0, 0, some ((0 : Int), refV (if i = 0 then n - 1 else i - 1))⟩ := by
        show (ringC n)[i]? = _
        unfold ringC
        rw [List.getElem?_map, List.getElem?_range hi]
        rfl
      rw [this]
      rfl
    rw [sum_of hp f1, sum_of hp f2, Int.one_mul, Int.zero_mul]
    exact ⟨rfl, k⟩
def dS (n : Nat) : Pg := ⟨ringC n, some [noneV, noneV, noneV, zerV], gG⟩
theorem ring_kds : Kds [noneV, noneV, noneV, zerV] [none, none, none, none] := ⟨rfl, fun k q q' => by
  have q : k < 4 := q
  rcases (by omega : k = 0 ∨ k = 1 ∨ k = 2 ∨ k = 3) with rfl | rfl | rfl | rfl
  · exact Kd.none
  · exact Kd.none
  · exact Kd.none
  · exact Kd.num _ _⟩
theorem gone_reach {base p n : Nat} {F : List Nat} {w : World} (h : GS CW base p F (dS n) w) (h2 : n ≤ 100) :
    Calls Tryd.prog 9 #[.pointer (some ⟨p, 0, none⟩)] w fun e w' => ∃ x d, e = .returned (.slice x 0 d) ∧ Kept w w' := by
  refine (gs_reach h (vs := [noneV, noneV, noneV, zerV]) rfl (tg := [none, none]) (tl := [none, none, none, none]) (Kds.rep 2) ring_kds (by decide) (by decide) (rsc n) (ring_leads h2) (by simp) ?_).mono ?_
  · intro i j e
    show j < (ringC n).length
    rw [ringC_len]; exact ring_in i j e
  · rintro e w' ⟨v, ids, rfl, hl, hn, hi, k⟩
    rw [ids_nil hi] at hl
    obtain ⟨x, d, rfl⟩ := hl.form
    exact ⟨x, d, rfl, k⟩
theorem gone_live {base p n : Nat} {F : List Nat} {w : World} (h : GS CW base p F (dS n) w) (h2 : n ≤ 100) :
    Calls Tryd.prog 10 #[.pointer (some ⟨p, 0, none⟩)] w fun e w' => e = .returned (.tuple #[.int .i64 0, .int .i64 0]) ∧ Kept w w' := by
  refine (gs_live h CW.ok (vs := [noneV, noneV, noneV, zerV]) rfl (tg := [none, none]) (tl := [none, none, none, none]) (Kds.rep 2) ring_kds (by decide) (by decide) (rsc n) (ring_leads h2) (by simp) ?_ ?_).mono ?_
  · intro i j e
    show j < (ringC n).length
    rw [ringC_len]; exact ring_in i j e
  · intro i t e _
    obtain ⟨_, rfl⟩ := ring_get e
    rfl
  · rintro e w' ⟨ids, rfl, hn, hi, k⟩
    rw [ids_nil hi]
    exact ⟨rfl, k⟩

/-- 'one', its operations just laid down. -/
theorem one_at {C : Cf} {base p : Nat} {F : List Nat} {S S' : Pg} {a u : World} (h : GS C base p F S u) (k : Kept a u) (hb : a.heap.size ≤ base) {l : List OP} {v : V} (hr : Runs C S l v S') (hl : l.length ≤ 10) (t : TypeId) :
    Calls Tryd.prog 8 #[.pointer (some ⟨p, 0, none⟩), .slice (some ⟨u.heap.size, 0, none⟩) l.length l.length] (u.alloc (.cells (l.flatMap OP.cs).toArray t)) fun e w' => e = .returned (.tuple #[.agg #[.bool v.r, .complex .f64 v.x v.y], .int .i64 0]) ∧ ∃ F', GS C base p F' S' w' ∧ Kept a w' := by
  have k1 : Kept u (u.alloc (.cells (l.flatMap OP.cs).toArray t)) := (Kept.refl _).alloc _ _
  refine (one_any (h.kept k1) hr hl (Ol.new u l t hl) (fun q => absurd (h.ge _ q).2 (by omega))).mono ?_
  rintro e w' ⟨rfl, F', g, r⟩
  exact ⟨rfl, F', g, (h.kept k1).apart r (k.trans k1) hb⟩

set_option maxHeartbeats 8000000 in
set_option maxRecDepth 10000 in
theorem cycles_any {w : World} (hv : Vs w) (n : Int) : Calls Tryd.prog 3 #[.int .i64 n] w fun e w' => e = .returned (.bool true) ∧ Kept w w' := by
  have HV : Hid (Vs w) := hv
  clear hv
  go_enter Tryd.func3, Tryd.ntmps3
  go_wp2_with fail
  refine (first_any HV.out).mono ?_
  rintro e w1 ⟨rfl, k1⟩
  have K1 : Hid (Kept w w1) := k1
  clear k1
  go_wp2_with fail
  refine (wide_any w1).mono ?_
  rintro e w2 ⟨g, S, rfl, hcm, k2⟩
  have K2 : Hid (Kept w w2 ∧ CM CW w2 (some ⟨g, 0, none⟩) S) := ⟨K1.out.trans k2, hcm⟩
  clear hcm k2 K1
  unfold Cf.val Cw
  dsimp only
  go_wp2_with fail
  generalize hW3 : w2.alloc _ = W3
  have K3 : Hid (Kept w W3 ∧ CM CW W3 (some ⟨g, 0, none⟩) S) := by
    have k : Kept w2 W3 := by rw [← hW3]; exact (Kept.refl _).alloc _ _
    exact ⟨K2.out.1.trans k, K2.out.2.kept k⟩
  clear hW3 K2
  have HN : Hid (Calls Tryd.prog 6 #[CW.val (.slice (some ⟨g, 0, none⟩) 3 3)] W3 fun e w' => ∃ p F, e = .returned (.tuple #[.pointer (some ⟨p, 0, none⟩), .int .i64 0]) ∧ GS CW W3.heap.size p F ⟨[], none, [noneV, noneV]⟩ w' ∧ Kept W3 w') := gs_new CW.ok W3 K3.out.2 (HV.out.keep K3.out.1) (n := 2) rfl (.inr rfl)
  refine HN.out.mono ?_
  rintro e w4 ⟨p, F4, rfl, g4, k4⟩
  have HB : Hid (w.heap.size ≤ W3.heap.size) := K3.out.1.size
  have G4 : Hid (GS CW W3.heap.size p F4 ⟨[], none, [noneV, noneV]⟩ w4 ∧ Kept w w4) := ⟨g4, K3.out.1.trans k4⟩
  clear g4 k4 HN K3
  go_wp2_with fail
  have HJ : Hid (Calls Tryd.prog 7 #[.pointer (some ⟨p, 0, none⟩), .int .i64 0] w4 fun e w' => e = .returned (.bool true) ∧ ∃ F', GS CW W3.heap.size p F' ⟨[], some [zerV, zerV, zerV, zerV], gG⟩ w' ∧ Grow F4 F' w4 w') := gs_join G4.out.1 CW.ok rfl (n := 4) rfl (.inr rfl)
  refine HJ.out.mono ?_
  rintro e w5 ⟨rfl, F5, g5, r5⟩
  have G5 : Hid (GS CW W3.heap.size p F5 ⟨[], some [zerV, zerV, zerV, zerV], gG⟩ w5 ∧ Kept w w5) := ⟨g5, G4.out.1.apart r5 G4.out.2 HB.out⟩
  clear HJ G4 g5 r5
  by_cases b1 : n < 1
  · have t1 : decide (n < 1) = true := decide_eq_true b1
    go_wp2_with fail
    refine (first_any (HV.out.keep G5.out.2)).mono ?_
    rintro e w6 ⟨rfl, k6⟩
    have K6 : Hid (Kept w w6) := G5.out.2.trans k6
    clear k6 G5
    go_wp2_with fail
    go_ret
    exact ⟨rfl, K6.out⟩
  · have t1 : decide (n < 1) = false := decide_eq_false b1
    by_cases b2 : 100 < n
    · have t2 : decide (100 < n) = true := decide_eq_true b2
      go_wp2_with fail
      refine (first_any (HV.out.keep G5.out.2)).mono ?_
      rintro e w6 ⟨rfl, k6⟩
      have K6 : Hid (Kept w w6) := G5.out.2.trans k6
      clear k6 G5
      go_wp2_with fail
      go_ret
      exact ⟨rfl, K6.out⟩
    · obtain ⟨N, rfl⟩ : ∃ N : Nat, n = (N : Int) := ⟨n.toNat, by omega⟩
      have hN1 : 1 ≤ N := by omega
      have hN2 : N ≤ 100 := by omega
      have t2 : decide (100 < (N : Int)) = false := decide_eq_false b2
      clear b1 b2
      go_wp2_with fail
      have H6 : Hid (Calls Tryd.prog 8 #[.pointer (some ⟨p, 0, none⟩), .slice (some ⟨w5.heap.size, 0, none⟩) 2 2] (w5.alloc (.cells ([oNew 0, oCopy 1 0].flatMap OP.cs).toArray 38)) fun e w' => e = .returned (.tuple #[.agg #[.bool (refV 0).r, .complex .f64 (refV 0).x (refV 0).y], .int .i64 0]) ∧ ∃ F', GS CW W3.heap.size p F' (rS 1 zerV) w' ∧ Kept w w') := one_at G5.out.1 G5.out.2 HB.out does_ring0 (by decide) _
      refine H6.out.mono ?_
      rintro e w6 ⟨rfl, F6, g6, k6⟩
      have G6 : Hid (GS CW W3.heap.size p F6 (rS 1 zerV) w6 ∧ Kept w w6) := ⟨g6, k6⟩
      clear H6 G5 g6 k6
      go_wp2_with fail
      generalize hW7 : w6.alloc _ = W7
      have G7 : Hid (GS CW W3.heap.size p F6 (rS 1 zerV) W7 ∧ Kept w W7) := by
        have k : Kept w6 W7 := by rw [← hW7]; exact (Kept.refl _).alloc _ _
        exact ⟨G6.out.1.kept k, G6.out.2.trans k⟩
      clear hW7 G6
      go_loopg [7, 8] (N - 1) (fun m f i wr => ∃ (j : Nat) (F : List Nat) (x : V), f = .int .i64 0 ∧ i = .int .i64 (j : Int) ∧ 1 ≤ j ∧ j ≤ N ∧ m = N - j ∧ Hid (GS CW W3.heap.size p F (rS j x) wr ∧ Kept w wr))
      case atStart => exact ⟨1, F6, zerV, rfl, rfl, Nat.le_refl _, hN1, rfl, G7.out⟩
      case round =>
        obtain ⟨j, F, x, rfl, rfl, hj1, hj2, rfl, hh⟩ := hrel
        by_cases hlt : j < N
        · go_wp2_with fail
          have H8 : Hid (Calls Tryd.prog 8 #[.pointer (some ⟨p, 0, none⟩), .slice (some ⟨wr.heap.size, 0, none⟩) 3 3] (wr.alloc (.cells ([oNew 2, oStore 2 0 1, oCopy 1 2].flatMap OP.cs).toArray 38)) fun e w' => e = .returned (.tuple #[.agg #[.bool (refV j).r, .complex .f64 (refV j).x (refV j).y], .int .i64 0]) ∧ ∃ F', GS CW W3.heap.size p F' (rS (j + 1) (refV j)) w' ∧ Kept w w') := one_at hh.out.1 hh.out.2 HB.out (does_ring hj1 (by omega) x) (by decide) _
          refine H8.out.mono ?_
          rintro e w8 ⟨rfl, F8, g8, k8⟩
          have G8 : Hid (GS CW W3.heap.size p F8 (rS (j + 1) (refV j)) w8 ∧ Kept w w8) := ⟨g8, k8⟩
          clear H8 g8 k8
          go_wp2_with fail
          go_roundg (N - (j + 1))
          case rel => exact ⟨j + 1, F8, refV j, rfl, rfl, by omega, by omega, rfl, G8.out⟩
          case measure => omega
        · obtain rfl : j = N := by omega
          clear G7
          go_wp2_with fail
          have H9 : Hid (Calls Tryd.prog 8 #[.pointer (some ⟨p, 0, none⟩), .slice (some ⟨wr.heap.size, 0, none⟩) 3 3] (wr.alloc (.cells ([oStore 0 0 1, oClear 0, oClear 2].flatMap OP.cs).toArray 38)) fun e w' => e = .returned (.tuple #[.agg #[.bool noneV.r, .complex .f64 noneV.x noneV.y], .int .i64 0]) ∧ ∃ F', GS CW W3.heap.size p F' (cS j) w' ∧ Kept w w') := one_at hh.out.1 hh.out.2 HB.out (does_close hj1 x) (by decide) _
          refine H9.out.mono ?_
          rintro e w9 ⟨rfl, F9, g9, k9⟩
          have G9 : Hid (GS CW W3.heap.size p F9 (cS j) w9 ∧ Kept w w9) := ⟨g9, k9⟩
          clear H9 hh g9 k9
          go_wp2_with fail
          generalize hWa : w9.alloc _ = Wa
          have Ga : Hid (GS CW W3.heap.size p F9 (cS j) Wa ∧ Kept w Wa) := by
            have k : Kept w9 Wa := by rw [← hWa]; exact (Kept.refl _).alloc _ _
            exact ⟨G9.out.1.kept k, G9.out.2.trans k⟩
          clear hWa G9
          refine (ring_reach Ga.out.1 hN1 hN2).mono ?_
          rintro e wb ⟨x1, d1, rfl, kb⟩
          have Gb : Hid (GS CW W3.heap.size p F9 (cS j) wb ∧ Kept w wb) := ⟨Ga.out.1.kept kb, Ga.out.2.trans kb⟩
          clear Ga kb
          go_wp2_with fail
          refine (ring_live Gb.out.1 hN1 hN2).mono ?_
          rintro e wc ⟨rfl, kc⟩
          have Gc : Hid (GS CW W3.heap.size p F9 (cS j) wc ∧ Kept w wc) := ⟨Gb.out.1.kept kc, Gb.out.2.trans kc⟩
          clear Gb kc
          go_wp2_with fail
          have Hd : Hid (Calls Tryd.prog 8 #[.pointer (some ⟨p, 0, none⟩), .slice (some ⟨wc.heap.size, 0, none⟩) 1 1] (wc.alloc (.cells ([oClear 1].flatMap OP.cs).toArray 38)) fun e w' => e = .returned (.tuple #[.agg #[.bool noneV.r, .complex .f64 noneV.x noneV.y], .int .i64 0]) ∧ ∃ F', GS CW W3.heap.size p F' (dS j) w' ∧ Kept w w') := one_at Gc.out.1 Gc.out.2 HB.out (does_drop j) (by decide) _
          refine Hd.out.mono ?_
          rintro e wd ⟨rfl, Fd, gd, kd⟩
          have Gd : Hid (GS CW W3.heap.size p Fd (dS j) wd ∧ Kept w wd) := ⟨gd, kd⟩
          clear Hd Gc gd kd
          go_wp2_with fail
          generalize hWe : wd.alloc _ = We
          have Ge : Hid (GS CW W3.heap.size p Fd (dS j) We ∧ Kept w We) := by
            have k : Kept wd We := by rw [← hWe]; exact (Kept.refl _).alloc _ _
            exact ⟨Gd.out.1.kept k, Gd.out.2.trans k⟩
          clear hWe Gd
          refine (gone_live Ge.out.1 hN2).mono ?_
          rintro e wf ⟨rfl, kf⟩
          have Gf : Hid (GS CW W3.heap.size p Fd (dS j) wf ∧ Kept w wf) := ⟨Ge.out.1.kept kf, Ge.out.2.trans kf⟩
          clear Ge kf
          go_wp2_with fail
          refine (first_any (HV.out.keep Gf.out.2)).mono ?_
          rintro e wg ⟨rfl, kg⟩
          have Gg : Hid (GS CW W3.heap.size p Fd (dS j) wg ∧ Kept w wg) := ⟨Gf.out.1.kept kg, Gf.out.2.trans kg⟩
          clear Gf kg
          go_wp2_with fail
          refine (gone_reach Gg.out.1 hN2).mono ?_
          rintro e wh ⟨x2, d2, rfl, kh⟩
          have Gh : Hid (GS CW W3.heap.size p Fd (dS j) wh ∧ Kept w wh) := ⟨Gg.out.1.kept kh, Gg.out.2.trans kh⟩
          clear Gg kh
          go_wp2_with fail
          have Hi : Hid (Calls Tryd.prog 11 #[.pointer (some ⟨p, 0, none⟩)] wh fun e w' => e = .returned (.int .i64 (j : Int)) ∧ w' = wh) := by
            have := gs_len Gh.out.1
            rw [show (dS j).T.length = j from ringC_len j] at this
            exact this
          refine Hi.out.mono ?_
          rintro e wi ⟨rfl, ei⟩
          rw [ei]
          clear ei Hi
          go_wp2_with fail
          go_ret
          exact ⟨rfl, Gh.out.2⟩
end Go.Proofs.YtbmcbkebcchjmaaDoor
