/-
  The law SpaceStocks: who is granted at once fills its stock.
-/
import Derived.Test.YtahpnnjemjjfhaaSnd21
namespace Go.Proofs.Ytahpnnjemjjfhaa
open Go.RowKit

/-- Sixty fragments: what thread 0 keeps, what is used. -/
structure Sk (S : Sp) (ch st us : Nat) : Prop where
  n : S.n = 60
  m : S.m = 3
  most : S.most = ch
  E : S.E = []
  snd : Snd S
  len : (S.Q 0).length = st
  c1 : cnt S.T 1 60 = st
  c2 : cnt S.T 2 60 = us
section
variable {S : Sp} {ch st us fr : Nat}
theorem Sk.all (h : Sk S ch st us) : cnt S.T 0 60 + st + us = 60 := by
  have := cnt_all (T := S.T) (n := 60) (by have := h.snd.st; rw [h.n] at this; exact this)
  rw [h.c1, h.c2] at this
  omega
theorem Sk.free (h : Sk S ch st us) : cntB S.F S.n = cnt S.T 0 60 := by rw [h.snd.free, h.n]
theorem Sk.may (h : Sk S ch st us) (hf : 1 ≤ fr) : S.may 0 fr 0 = true := by
  simp only [Sp.may, Sp.isT, Sp.of, h.E, h.m]
  simp; omega
theorem casts {L : List Int} {n : Nat} (h : ∀ x, x ∈ L → ∃ k : Nat, x = k ∧ k < n) : ∃ M : List Nat, L = M.map fun x : Nat => (x : Int) := by
  refine ⟨L.map Int.toNat, ?_⟩
  rw [List.map_map]
  conv => lhs; rw [← List.map_id L]
  refine List.map_congr_left fun x hx => ?_
  obtain ⟨k, rfl, _⟩ := h x hx
  simp
theorem nodup_uncast {M : List Nat} (h : (M.map fun x : Nat => (x : Int)).Nodup) : M.Nodup := by
  rw [List.Nodup, List.pairwise_map] at h
  exact h.imp fun h e => h (by rw [e])
/-- Out of the stock. -/
theorem Sk.own (h : Sk S ch st us) (hf : 1 ≤ fr) (hs : fr ≤ st) : ∃ Z : List Int, Z.length = fr ∧ S.askG 0 fr 0 = ⟨1, Z, -1⟩ ∧ Sk (S.ask 0 fr 0 true) ch (st - fr) (us + fr) ∧ cntB (S.ask 0 fr 0 true).F (S.ask 0 fr 0 true).n = cntB S.F S.n := by
  have hm := h.may hf
  have hd : decide ((fr : Int) ≤ ((S.Q (0 : Int).toNat).length : Int)) = true := by
    have := h.len
    simp; omega
  have e1 : S.ask 0 fr 0 true = S.tick.takeS 0 fr true := by
    unfold Sp.ask
    rw [if_pos hm, hd]; simp
  have e2 : S.askG 0 fr 0 = ⟨1, (S.Q 0).take fr, -1⟩ := by
    unfold Sp.askG
    rw [if_pos hm, hd]; simp
  have ht : Snd S.tick := h.snd.like rfl rfl rfl rfl rfl
  have hm3 := h.m
  have hn60 := h.n
  obtain ⟨M, hM⟩ := casts (L := (S.Q 0).take fr) (n := 60) fun x hx => by
    obtain ⟨k, e, hk, _⟩ := h.snd.sk 0 (by omega) x (List.mem_of_mem_take hx)
    exact ⟨k, e, by omega⟩
  have hMl : M.length = fr := by
    have := congrArg List.length hM
    rw [List.length_take, List.length_map, h.len] at this
    omega
  have hMn : M.Nodup := nodup_uncast (hM ▸ (h.snd.nd 0 (by omega)).sublist (List.take_sublist _ _))
  have hMm : ∀ x ∈ M, x < 60 ∧ (S.T x).s = 1 := fun x hx => by
    have : (x : Int) ∈ (S.Q 0).take fr := by rw [hM, mem_cast]; exact hx
    obtain ⟨k, e, hk, hs'⟩ := h.snd.sk 0 (by omega) _ (List.mem_of_mem_take this)
    obtain rfl : x = k := by omega
    exact ⟨by omega, hs'⟩
  have hT : (S.tick.takeS 0 fr true).T = useT 60 2 true S.T (M.map fun x : Nat => (x : Int)) := by
    show useT S.n 2 true S.T ((S.Q 0).take (fr : Int).toNat) = _
    rw [hn60, Int.toNat_natCast, hM]
  have q1 := cnt_use (T := S.T) (se := true) (z := 2) (by decide) (by decide) hMn hMm 1
  have q2 := cnt_use (T := S.T) (se := true) (z := 2) (by decide) (by decide) hMn hMm 2
  rw [h.c1] at q1
  rw [h.c2] at q2
  simp at q1 q2
  refine ⟨(S.Q 0).take fr, by rw [List.length_take, h.len]; omega, e2, ?_, ?_⟩
  · rw [e1]
    refine ⟨hn60, hm3, h.most, h.E, ht.takeS 0 (by show 0 < S.m; omega) fr true, ?_, ?_, ?_⟩
    · show (if (0 : Nat) = (0 : Int).toNat then (S.Q (0 : Int).toNat).drop (fr : Int).toNat else S.Q 0).length = _
      simp [h.len]
    · rw [hT]; omega
    · rw [hT]; omega
  · rw [e1]; rfl
/-- Out of what is free: the stock is full then. -/
theorem Sk.now (h : Sk S ch st us) (hf : 1 ≤ fr ∧ fr ≤ 5) (hs : st < fr) (hu : us ≤ 35) (hc : ch ≤ 8) (hsc : st ≤ ch) : ∃ Z : List Int, Z.length = fr ∧ S.askG 0 fr 0 = ⟨1, Z, -1⟩ ∧ Sk (S.ask 0 fr 0 true) ch ch (us + fr) := by
  have hm := h.may hf.1
  have hall := h.all
  have hfree := h.free
  have hm3 := h.m
  have hn60 := h.n
  have hlen := h.len
  have hmost := h.most
  obtain ⟨a1, a2⟩ := ask_now (S := S) (t := 0) (fr := fr) true hm (by rw [show (0 : Int).toNat = 0 from rfl]; omega) (by rw [h.E]; rfl) (by omega)
  have ht : Snd S.tick := h.snd.like rfl rfl rfl rfl rfl
  have hT0 : takeB S.n S.F fr = true := by simp [takeB]; omega
  obtain ⟨t1, t2, t3⟩ := takeL_ok hT0
  rw [Int.toNat_natCast] at t3
  have s1 : Snd (S.tick.tk fr 0 true) := ht.tk fr 0 true hT0
  obtain ⟨l1, l2, l3⟩ := lowL_ok (n := S.n) (F := dropF S.F (takeL S.n S.F fr)) (k := (S.most : Int) - ((S.Q 0).length : Int))
  have hcd := cntB_drop t1 t2
  have hl : (lowL S.n (dropF S.F (takeL S.n S.F fr)) ((S.most : Int) - ((S.Q 0).length : Int))).length = ch - st := by
    rw [l3]; omega
  have q1 := cnt_use (n := S.n) (T := S.T) (L := takeL S.n S.F fr) (se := true) (z := 2) (y := 0) (by decide) (by decide) t1 (fun x hx => ⟨(t2 x hx).1, (h.snd.fr x (t2 x hx).1).1 (t2 x hx).2⟩)
  have q2 := cnt_use (n := S.n) (T := (S.tick.tk fr 0 true).T) (L := lowL S.n (dropF S.F (takeL S.n S.F fr)) ((S.most : Int) - ((S.Q 0).length : Int))) (se := false) (z := 1) (y := 0) (by decide) (by decide) l1 (fun x hx => ⟨(l2 x hx).1, (s1.fr x (l2 x hx).1).1 (l2 x hx).2⟩)
  rw [hn60] at q1 q2
  have hT1 : (S.tick.tk fr 0 true).T = useT 60 2 true S.T ((takeL 60 S.F fr).map fun x : Nat => (x : Int)) := by
    show useT S.n 2 true S.T ((takeL S.n S.F fr).map fun x : Nat => (x : Int)) = _
    rw [hn60]
  have hT2 : ((S.tick.tk fr 0 true).fill 0).T = useT 60 1 false (S.tick.tk fr 0 true).T ((lowL 60 (dropF S.F (takeL 60 S.F fr)) ((S.most : Int) - ((S.Q 0).length : Int))).map fun x : Nat => (x : Int)) := by
    show useT S.n 1 false (S.tick.tk fr 0 true).T ((lowL S.n (dropF S.F (takeL S.n S.F fr)) ((S.most : Int) - ((S.Q 0).length : Int))).map fun x : Nat => (x : Int)) = _
    rw [hn60]
  rw [hn60] at t3 hl
  have c1 := h.c1
  have c2 := h.c2
  have p1 := q1 1
  have p2 := q1 2
  have r1 := q2 1
  have r2 := q2 2
  rw [hT1] at r1 r2
  simp at p1 p2 r1 r2
  refine ⟨takeZ S.n S.F fr, by simp only [takeZ, List.length_map, hn60, t3], a1, ?_⟩
  rw [a2]
  refine ⟨hn60, hm3, hmost, h.E, s1.fill 0 (by show 0 < S.m; omega), ?_, ?_, ?_⟩
  · show (if (0 : Nat) = (0 : Int).toNat then S.Q 0 ++ ((lowL S.n (dropF S.F (takeL S.n S.F fr)) ((S.most : Int) - ((S.Q 0).length : Int))).map fun x : Nat => (x : Int)) else S.Q 0).length = ch
    rw [hn60]
    simp [hl]
    omega
  · show cnt ((S.tick.tk fr 0 true).fill 0).T 1 60 = ch
    rw [hT2, hT1]; omega
  · show cnt ((S.tick.tk fr 0 true).fill 0).T 2 60 = us + fr
    rw [hT2, hT1]; omega
theorem fres_T : ∀ (L : List Int) (S : Sp), (S.fres L).T = useT S.n 0 false S.T L
  | [], _ => rfl
  | x :: L, S => by
    show ((S.fre x).fres L).T = _
    rw [fres_T L]
    rfl
theorem Sk.drain (h : Sk S ch st us) : S.drainN 0 = (st : Int) ∧ Sk (S.drain 0) ch 0 us := by
  have hm3 := h.m
  have hn60 := h.n
  have hi : S.isT 0 = true := by simp [Sp.isT]; omega
  have e : S.drain 0 = ({ S.tick with Q := fun j => if j = (0 : Int).toNat then [] else S.Q j } : Sp).fres (S.Q 0) := by
    unfold Sp.drain; rw [if_pos hi]; rfl
  obtain ⟨M, hM⟩ := casts (L := S.Q 0) (n := 60) fun x hx => by
    obtain ⟨k, e, hk, _⟩ := h.snd.sk 0 (by omega) x hx
    exact ⟨k, e, by omega⟩
  have hMl : M.length = st := by
    have := congrArg List.length hM
    rw [List.length_map, h.len] at this
    omega
  have hMn : M.Nodup := nodup_uncast (hM ▸ h.snd.nd 0 (by omega))
  have hMm : ∀ x ∈ M, x < 60 ∧ (S.T x).s = 1 := fun x hx => by
    have : (x : Int) ∈ S.Q 0 := by rw [hM, mem_cast]; exact hx
    obtain ⟨k, e, hk, hs'⟩ := h.snd.sk 0 (by omega) _ this
    obtain rfl : x = k := by omega
    exact ⟨by omega, hs'⟩
  have hT : (S.drain 0).T = useT 60 0 false S.T (M.map fun x : Nat => (x : Int)) := by
    rw [e, fres_T, ← hM, show ({ S.tick with Q := fun j => if j = (0 : Int).toNat then [] else S.Q j } : Sp).n = 60 from hn60]
    rfl
  have q1 := cnt_use (T := S.T) (se := false) (z := 0) (by decide) (by decide) hMn hMm 1
  have q2 := cnt_use (T := S.T) (se := false) (z := 0) (by decide) (by decide) hMn hMm 2
  rw [h.c1] at q1
  rw [h.c2] at q2
  simp at q1 q2
  have sm := fres_same (S.Q 0) ({ S.tick with Q := fun j => if j = (0 : Int).toNat then [] else S.Q j } : Sp)
  rw [← e] at sm
  refine ⟨by unfold Sp.drainN; rw [if_pos hi]; show ((S.Q 0).length : Int) = _; rw [h.len], sm.2.2.2.1.trans hn60, sm.1.trans hm3, sm.2.2.2.2.2.2.2.trans h.most, sm.2.2.1.trans h.E, h.snd.drain 0, ?_, ?_, ?_⟩
  · rw [sm.2.1]; rfl
  · rw [hT]; omega
  · rw [hT]; omega
end
theorem sk_new (ch : Nat) : Sk (Sp.new 60 0 3 ch) ch 0 0 := ⟨rfl, rfl, rfl, rfl, Snd.new _ _ _ _, rfl, by kernel_rfl, by kernel_rfl⟩

set_option maxRecDepth 8000 in
set_option maxHeartbeats 8000000 in
theorem stocks_in (ch fr : Nat) (w : World) (hc : ch ≤ 8) (hf : 1 ≤ fr ∧ fr ≤ 5) : Calls Try.prog 5 #[.int .i64 (ch : Int), .int .i64 (fr : Int)] w fun e w' => e = .returned (.bool true) ∧ Kept w w' := by
  obtain ⟨hf1, hf2⟩ := hf
  have HH : Hid (ch ≤ 8 ∧ 1 ≤ fr ∧ fr ≤ 5) := ⟨hc, hf1, hf2⟩
  go_enter Try.func5, Try.ntmps5
  go_wp2_with fail
  refine (first_any w).mono ?_
  rintro e wa ⟨rfl, ka⟩
  have KA : Hid (Kept w wa) := ka
  clear ka
  go_wp2_with fail
  refine (small_any 60 0 ch wa).mono ?_
  rintro e W ⟨b, rfl, sb, kb⟩
  have KB : Hid (Kept w W ∧ Shps W (some ⟨b, 0, none⟩) 1 S1) := ⟨KA.out.trans kb, sb⟩
  clear sb kb KA
  have CM := made_small 60 0 ch W KB.out.2 (by omega)
  go_wp2_with fail
  refine CM.mono ?_
  rintro e w1 ⟨A, rfl, l1, _⟩
  have H1 : Hid (Lw W w1 A (Sp.new 60 0 3 ch) 0 []) := l1
  clear l1 CM
  go_wp2
  go_loopg [7, 8, 9] 8 (fun m vs vu i wr => ∃ (k st us : Nat) (S : Sp), i = .int .i64 k ∧ vs = .int .i64 st ∧ vu = .int .i64 us ∧ k ≤ 8 ∧ m = 8 - k ∧ (st ≤ ch ∧ us ≤ 5 * k) ∧ Hid (Lw W wr A S k [] ∧ Sk S ch st us))
  case atStart => exact ⟨0, 0, 0, _, rfl, rfl, rfl, by omega, by omega, by omega, H1.out, sk_new ch⟩
  case round =>
    obtain ⟨k, st, us, S, rfl, rfl, rfl, hk, hm, hb, hw⟩ := hrel
    have HM : Hid _ := hm
    have HB : Hid _ := hb
    obtain ⟨hb1, hb2⟩ := hb
    clear hm
    by_cases hlt : k < 8
    · have hki : (k : Int) < 8 := by omega
      have C := hw.out.1.free
      obtain ⟨fre, hfre⟩ : ∃ fre, fre = cntB S.F S.n := ⟨_, rfl⟩
      rw [← hfre] at C
      have HF : Hid (fre = cntB S.F S.n ∧ fre + st + us = 60) := ⟨hfre, by have := hw.out.2.all; have := hw.out.2.free; omega⟩
      go_wp2_with fail
      refine C.mono ?_
      rintro e w2 ⟨rfl, e2⟩
      rw [e2]
      clear C e2 hfre
      by_cases hge : fr ≤ st
      · obtain ⟨Z, z1, z2, z3, z4⟩ := hw.out.2.own HH.out.2.1 hge
        have C := hw.out.1.ask (fun _ h => by cases h) (by omega) 0 fr 0 true
        rw [z2] at C
        simp only [z1] at C
        have HZ : Hid (Sk (S.ask 0 fr 0 true) ch (st - fr) (us + fr) ∧ cntB (S.ask 0 fr 0 true).F (S.ask 0 fr 0 true).n = fre) := ⟨z3, by rw [z4, HF.out.1]⟩
        obtain ⟨S2, hS2⟩ : ∃ S2, S2 = S.ask 0 fr 0 true := ⟨_, rfl⟩
        rw [← hS2] at C HZ
        clear z1 z2 z3 z4 hS2
        go_wp2_with fail
        refine C.mono ?_
        rintro e w3 ⟨x, d, rfl, _, _, lw3, _⟩
        have H3 : Hid (Lw W w3 A S2 (k + 1) []) := lw3
        clear C lw3 hw
        have hgi : (st : Int) ≥ (fr : Int) := by omega
        go_wp2_with fail
        generalize hW : World.alloc _ _ = w4
        have H4 : Hid (Lw W w4 A S2 (k + 1) [] ∧ Sk S2 ch (st - fr) (us + fr)) := by
          rw [← hW]
          exact ⟨H3.out.keep ((Kept.refl _).alloc _ _), HZ.out.1⟩
        clear hW H3
        have C := H4.out.1.free
        rw [HZ.out.2] at C
        refine C.mono ?_
        rintro e w5 ⟨rfl, e5⟩
        rw [e5]
        clear C e5
        have HS : Hid (fr ≤ st) := hge
        have C := tcounts_any w4 H4.out.1.tab
        rw [show S2.n = 60 from H4.out.2.n] at C
        rw [show ((cnt S2.T 0 60 : Nat) : Int) = 60 - ((st : Int) - (fr : Int)) - ((us : Int) + (fr : Int)) by have := H4.out.2.all; have := H4.out.2.c1; have := H4.out.2.c2; have := HS.out; omega, show ((cnt S2.T 1 60 : Nat) : Int) = ((st : Int) - (fr : Int)) by have := H4.out.2.c1; have := HS.out; omega, show ((cnt S2.T 2 60 : Nat) : Int) = (us : Int) + (fr : Int) by have := H4.out.2.c2; omega] at C
        go_wp2_with fail
        refine C.mono ?_
        rintro e w5 ⟨rfl, k5⟩
        have H5 : Hid (Lw W w5 A S2 (k + 1) [] ∧ Sk S2 ch (st - fr) (us + fr)) := ⟨H4.out.1.keep k5, H4.out.2⟩
        clear C k5 H4
        go_wp2
        go_roundg (gk - 1)
        all_goals (have := HM.out; try omega)
        exact ⟨k + 1, (st - fr), us + fr, S2, by go_num, by first | go_num | (congr 1; omega), by first | go_num | (congr 1; omega), by omega, by omega, by have := HB.out; omega, H5⟩
      · obtain ⟨Z, z1, z2, z3⟩ := hw.out.2.now ⟨HH.out.2.1, HH.out.2.2⟩ (by omega) (by omega) HH.out.1 (by omega)
        have C := hw.out.1.ask (fun _ h => by cases h) (by omega) 0 fr 0 true
        rw [z2] at C
        simp only [z1] at C
        have HZ : Hid (Sk (S.ask 0 fr 0 true) ch ch (us + fr)) := z3
        obtain ⟨S2, hS2⟩ : ∃ S2, S2 = S.ask 0 fr 0 true := ⟨_, rfl⟩
        rw [← hS2] at C HZ
        clear z1 z2 z3 hS2
        go_wp2_with fail
        refine C.mono ?_
        rintro e w3 ⟨x, d, rfl, _, _, lw3, _⟩
        have H3 : Hid (Lw W w3 A S2 (k + 1) []) := lw3
        clear C lw3 hw
        have hgi : ¬ (st : Int) ≥ (fr : Int) := by omega
        have hf60 : fre ≤ 60 := by have := HF.out.2; omega
        have hmn : ¬ ((fre : Int) - (fr : Int) < (ch : Int) - (st : Int)) := by have := HF.out.2; omega
        go_wp2_with fail
        generalize hW : World.alloc _ _ = w4
        have H4 : Hid (Lw W w4 A S2 (k + 1) [] ∧ Sk S2 ch ch (us + fr)) := by
          rw [← hW]
          exact ⟨H3.out.keep ((Kept.refl _).alloc _ _), HZ.out⟩
        clear hW H3
        have C := H4.out.1.free
        rw [show ((cntB S2.F S2.n : Nat) : Int) = (fre : Int) - (fr : Int) - ((ch : Int) - (st : Int)) by have := H4.out.2.all; have := H4.out.2.free; have := HF.out.2; omega] at C
        refine C.mono ?_
        rintro e w5 ⟨rfl, e5⟩
        rw [e5]
        clear C e5
        have C := tcounts_any w4 H4.out.1.tab
        rw [show S2.n = 60 from H4.out.2.n] at C
        rw [show ((cnt S2.T 0 60 : Nat) : Int) = 60 - ((st : Int) + ((ch : Int) - (st : Int))) - ((us : Int) + (fr : Int)) by have := H4.out.2.all; have := H4.out.2.c1; have := H4.out.2.c2; omega, show ((cnt S2.T 1 60 : Nat) : Int) = ((st : Int) + ((ch : Int) - (st : Int))) by have := H4.out.2.c1; omega, show ((cnt S2.T 2 60 : Nat) : Int) = (us : Int) + (fr : Int) by have := H4.out.2.c2; omega] at C
        go_wp2_with fail
        refine C.mono ?_
        rintro e w5 ⟨rfl, k5⟩
        have H5 : Hid (Lw W w5 A S2 (k + 1) [] ∧ Sk S2 ch ch (us + fr)) := ⟨H4.out.1.keep k5, H4.out.2⟩
        clear C k5 H4
        go_wp2
        go_roundg (gk - 1)
        all_goals (have := HM.out; try omega)
        exact ⟨k + 1, ch, us + fr, S2, by go_num, by first | go_num | (congr 1; omega), by first | go_num | (congr 1; omega), by omega, by omega, by have := HB.out; omega, H5⟩
    · obtain rfl : k = 8 := by omega
      obtain ⟨d1, d2⟩ := hw.out.2.drain
      have C := hw.out.1.drain (fun _ h => by cases h) (by omega) 0
      rw [d1] at C
      obtain ⟨S2, hS2⟩ : ∃ S2, S2 = S.drain 0 := ⟨_, rfl⟩
      rw [← hS2] at C d2
      clear hS2
      go_wp2_with fail
      refine C.mono ?_
      rintro e w2 ⟨rfl, lw2, _⟩
      have H2 : Hid (Lw W w2 A S2 9 [] ∧ Sk S2 ch 0 us) := ⟨lw2, d2⟩
      clear C lw2 hw d1 d2
      have C := tcounts_any w2 H2.out.1.tab
      rw [show S2.n = 60 from H2.out.2.n] at C
      rw [show ((cnt S2.T 1 60 : Nat) : Int) = 0 by have := H2.out.2.c1; omega] at C
      go_wp2_with fail
      refine C.mono ?_
      rintro e w3 ⟨rfl, k3⟩
      have H3 : Hid (Lw W w3 A S2 9 [] ∧ Sk S2 ch 0 us) := ⟨H2.out.1.keep k3, H2.out.2⟩
      clear C k3 H2
      generalize cnt S2.T 0 60 = ca at *
      generalize cnt S2.T 2 60 = cc at *
      go_wp2_with fail
      refine (first_any w3).mono ?_
      rintro e w4 ⟨rfl, k4⟩
      have H4 : Hid (Lw W w4 A S2 9 [] ∧ Sk S2 ch 0 us) := ⟨H3.out.1.keep k4, H3.out.2⟩
      clear k4 H3
      obtain ⟨d1, d2⟩ := H4.out.2.drain
      have C := H4.out.1.drain (fun _ h => by cases h) (by omega) 0
      rw [d1] at C
      go_wp2_with fail
      refine C.mono ?_
      rintro e w5 ⟨rfl, lw5, _⟩
      have H5 : Hid (Lw W w5 A (S2.drain 0) 10 [] ∧ Sk (S2.drain 0) ch 0 us) := ⟨lw5, d2⟩
      clear C lw5 d1 d2 H4
      have C := H5.out.1.free
      rw [show ((cntB (S2.drain 0).F (S2.drain 0).n : Nat) : Int) = 60 - (us : Int) by have := H5.out.2.all; have := H5.out.2.free; omega] at C
      go_wp2_with fail
      refine C.mono ?_
      rintro e w6 ⟨rfl, e6⟩
      rw [e6]
      clear C e6
      go_wp2
      go_ret
      exact ⟨rfl, KB.out.1.trans H5.out.1.kept⟩

set_option maxRecDepth 8000 in
set_option maxHeartbeats 1000000 in
theorem spaceStocks_any (n0 : Int) (n1 : Int) (w : World) (_lo0 : IntKind.min .i64 ≤ n0) (_hi0 : n0 ≤ IntKind.max .i64) (_lo1 : IntKind.min .i64 ≤ n1) (_hi1 : n1 ≤ IntKind.max .i64) :
    Calls Try.prog 5 #[.int .i64 n0, .int .i64 n1] w fun e w' => e = .returned (.bool true) ∧ Kept w w' := by
  clear _lo0 _hi0 _lo1 _hi1
  by_cases h : (0 ≤ n0 ∧ n0 ≤ 8) ∧ (1 ≤ n1 ∧ n1 ≤ 5)
  · obtain ⟨a, rfl⟩ : ∃ a : Nat, n0 = a := ⟨n0.toNat, by omega⟩
    obtain ⟨b, rfl⟩ : ∃ b : Nat, n1 = b := ⟨n1.toNat, by omega⟩
    exact stocks_in a b w (by omega) (by omega)
  · have F : Hid (∀ w, _) := fun w => first_any w
    have hcases : n0 < 0 ∨ (¬ n0 < 0 ∧ n0 > 8) ∨ (¬ n0 < 0 ∧ ¬ n0 > 8 ∧ n1 < 1) ∨ (¬ n0 < 0 ∧ ¬ n0 > 8 ∧ ¬ n1 < 1 ∧ n1 > 5) := by omega
    clear h
    rcases hcases with h0 | ⟨h0, h1⟩ | ⟨h0, h1, h2⟩ | ⟨h0, h1, h2, h3⟩
    all_goals go_enter Try.func5, Try.ntmps5
    all_goals go_wp2_with fail
    all_goals refine (F.out w).mono ?_
    all_goals rintro e w1 ⟨rfl, k1⟩
    all_goals have K1 : Hid (Kept w w1) := k1
    all_goals clear k1
    all_goals go_wp2_with fail
    all_goals refine (F.out w1).mono ?_
    all_goals rintro e w2 ⟨rfl, k2⟩
    all_goals have K2 : Hid (Kept w w2) := K1.out.trans k2
    all_goals clear k2
    all_goals go_wp2
    all_goals go_ret
    all_goals exact ⟨rfl, K2.out⟩
end Go.Proofs.Ytahpnnjemjjfhaa
