/-
  The walk of TraceRing.
-/
import Derived.Test.YtpdclckgnajcdaaGreatFirst16
import Derived.Test.YtpdclckgnajcdaaGreatRefP16
namespace Go.Proofs.YtpdclckgnajcdaaGreat
open Go.RowKit

def upd (F : Nat → Cx) (a : Nat) (z : Cx) : Nat → Cx := fun j => if j = a then z else F j
/-- Two fields, both references. -/
def F2r (s0 : Nat) : Nat → Sh := fun _ => ⟨false, some ⟨s0, 0, none⟩, 2, 2⟩
theorem goodR (s0 : Nat) : Good 4 0 0 1 1 0 4 0 1 (F2r s0) := ⟨by unfold Fits; decide, mays_one _ (by rfl)⟩
theorem asksR (s0 j : Nat) (hj : j < 2) : Asks (AG 4 0 0 1 1 0 4 0 1 (F2r s0) (fun _ => (j : Int)) 1) (AK 1 (F2r s0) 0 false) (AI (F2r s0) 0 0 false) (AF (F2r s0) 0 0 false (fun _ => (j : Int)) 1) 0 := by
  refine ⟨fun h => absurd ?_ h, fun _ h => absurd ?_ h, fun _ _ h => absurd ?_ h, fun _ _ _ h => absurd ?_ h, fun _ _ _ _ => rfl⟩
  · exact ⟨goodR s0, fun i _ => by show 0 ≤ (j : Int) ∧ (j : Int) < 4; omega⟩
  · exact ⟨by decide, by decide, rfl⟩
  · show 0 ≤ sizeU false 2 0
    decide
  · exact ⟨(by show ((1 : Nat) : Int) = sizeU false 2 0; decide), fun ⟨i, k, h1, h2, _⟩ => by omega⟩
/-- All sixteen writes. -/
def fwA (i : Nat) : Wr := ⟨(i : Int), objW 0 (fun _ => true) (fun _ => ((i / 8 : Nat) : Int)) 1 2 0 (i % 8)⟩
theorem fwA_is (s0 j i : Nat) (hi : i < 8) : objF 0 ((fun _ _ => true) (0 : Int).toNat) (fun _ => (j : Int)) 1 (F2r s0 (0 : Int).toNat).l i = fwA (8 * j + i) := by
  have h1 : i / 8 = 0 := by omega
  have h2 : i % 8 = i := by omega
  have h3 : (8 * j + i) / 8 = j := by omega
  have h4 : (8 * j + i) % 8 = i := by omega
  simp only [objF, fwA, h1, h2, h3, h4, F2r]
  congr 1
  omega
theorem fwA_get (a : Nat) (h : a < 16) : wrt fwA 16 a = (fwA a).z := wrt_get (f := fwA) (N := 16) (fun i _ k hk => by simp only [fwA]; omega) h rfl
theorem memR1 : wrt fwA 16 1 = ch 0 (modeO (fun _ => 0) 1) := fwA_get 1 (by decide)
theorem memR2 : wrt fwA 16 2 = cn := fwA_get 2 (by decide)
def SA : Nat → ShS
  | 0 => ShS.new 4 4
  | j + 1 => (SA j).set (j : Int) 2 true false
def S0r : ShS := SA 2
def S1r (self : Bool) : ShS := if self then greyS S0r 0 true else S0r
def S2r (self : Bool) : ShS := greyS (S1r self) 1 true
def xR (self : Bool) : Th := ⟨false, fun _ => true, 2, 2, fun _ => 0, 1, 0, 0, 0, fun s => if s = 0 then (if self then some 0 else none) else if s = 1 then some 1 else none⟩
def JR (self : Bool) (j s : Nat) (S : ShS) : Prop := j = 0 ∧ (s = 0 → S = S0r) ∧ (s = 1 → S = S1r self) ∧ (s = 2 → S = S2r self)
theorem jokR (self : Bool) : Jok (xR self) true (JR self) := by
  refine ⟨fun j s S h1 h2 _ => ?_, fun j s S i hs _ hV ⟨h0, a, b, _⟩ => ?_, fun j s S hs hV ⟨h0, a, _, _⟩ => ?_⟩
  · simp only [xR] at h2
    omega
  · simp only [xR] at hs hV
    rcases (by omega : s = 0 ∨ s = 1) with rfl | rfl
    · cases self
      · simp at hV
      · simp at hV
        subst hV
        refine ⟨h0, (fun h => by cases h), fun _ => ?_, (fun h => by cases h)⟩
        rw [a rfl]
        rfl
    · simp at hV
      subst hV
      refine ⟨h0, (fun h => by cases h), (fun h => by cases h), fun _ => ?_⟩
      rw [b rfl]
      rfl
  · simp only [xR] at hs hV
    rcases (by omega : s = 0 ∨ s = 1) with rfl | rfl
    · have hv := hV rfl
      cases self
      · refine ⟨h0, (fun h => by cases h), fun _ => ?_, (fun h => by cases h)⟩
        rw [a rfl]
        rfl
      · simp at hv
    · have hv := hV rfl
      simp at hv
theorem okR (self : Bool) : ThOk 4 0 (xR self) := by
  refine ⟨fun _ => by cases self <;> decide, (fun h => by cases h), fun j _ => by simp [xR], by simp [xR], (fun h => by cases h), (fun h => by cases h), fun _ => rfl, (fun h => by simp [xR] at h), (fun h => by simp [xR] at h), fun s i h => ?_⟩
  simp only [xR] at h
  split at h
  · split at h
    · simp at h; omega
    · cases h
  · split at h
    · simp at h; omega
    · cases h
theorem envR (self : Bool) {E : En} {F : Nat → Cx} {s0 : Nat} (h : Began 4 0 1 (F2r s0) (fun _ _ => true) E) (hF : F 1 = ch 0 (modeO (fun _ => 0) 1) ∧ F 2 = (if self then cr 0 else cn) ∧ F 3 = cr 1) : Env E 32 F 0 (modeO (fun _ => 0) 1) (xR self) := by
  obtain ⟨h1, h2, h3, h4, h5⟩ := h
  have hm : 0 ≤ modeO (fun _ => 0) 1 ∧ modeO (fun _ => 0) 1 ≤ 1 := by unfold modeO; split <;> omega
  refine ⟨by rw [h1, h2]; exact okR self, ⟨⟨1, by decide, by simp [xR], hF.1⟩, (fun h => by cases h), (fun h => by cases h), (fun h => by simp [xR] at h), (fun h => by simp [xR] at h), fun j h6 h7 => by simp [xR] at h7; omega, fun s h6 _ => ?_⟩, by omega, by rw [h4]; rfl, by rw [h4]; rfl, by rw [h5]; rfl, hm, (fun h => by cases h), by omega⟩
  simp only [xR] at h6
  rcases (by omega : s = 0 ∨ s = 1) with rfl | rfl
  · refine ⟨2, by decide, by simp [xR, Th.A, Th.B], ?_⟩
    rw [hF.2.1]
    cases self <;> rfl
  · exact ⟨3, by decide, by simp [xR, Th.A, Th.B], hF.2.2⟩

set_option maxRecDepth 20000 in
set_option maxHeartbeats 16000000 in
theorem traceRing_any (self back : Bool) (w : World) : Calls Tryz.prog 5 #[.bool self, .bool back] w fun e w' => e = .returned (.bool true) ∧ Kept w w' := by
  go_enter Tryz.func5, Tryz.ntmps5
  go_wp2_with fail
  refine (first_any _).mono ?_
  rintro e w1 ⟨rfl, K0⟩
  obtain ⟨s0, hs0⟩ : ∃ s0, w1.heap.size = s0 := ⟨_, rfl⟩
  have HK0 : Hid (Kept w w1) := K0
  clear K0
  go_upto_region 4 with fail
  generalize hW0 : w1.alloc (Obj.cells #[Value.bool true, Value.bool true] _) = Wa
  have r0 : Refs Wa (some ⟨s0, 0, none⟩) 2 (fun _ => true) := by
    rw [← hW0, ← hs0]
    exact fun _ => ⟨_, 0, rfl, by simp, fun i hi => by
      rcases (by omega : i = 0 ∨ i = 1) with rfl | rfl
      · simp
      · simp⟩
  have k0 : Kept w1 Wa := by rw [← hW0]; exact (Kept.refl w1).alloc _ _
  have z0 : Wa.heap.size = s0 + 1 := by rw [← hW0]; simp [hs0]
  clear hW0
  generalize hW1 : Wa.alloc (Obj.cells #[Value.bool false, Value.slice _ 2 2] _) = Wb
  have s1 : Shps Wb (some ⟨s0 + 1, 0, none⟩) 1 (F2r s0) := by
    rw [← hW1, ← z0]
    exact shps_one ⟨false, some ⟨s0, 0, none⟩, 2, 2⟩ (by simp) (by simp) (by simp)
  have k1 : Kept Wa Wb := by rw [← hW1]; exact (Kept.refl Wa).alloc _ _
  have z1 : Wb.heap.size = s0 + 1 + 1 := by rw [← hW1]; simp [z0]
  clear hW1
  generalize hW2 : Wb.alloc _ = U
  have b2 : Blk U (s0 + 1 + 1) (cl 4 0 0 1 1 0 4 0 (.slice (some ⟨s0 + 1, 0, none⟩) 1 1)) := by rw [← hW2, ← z1]; exact Blk.new Wb _ _
  have k2 : Kept Wb U := by rw [← hW2]; exact (Kept.refl Wb).alloc _ _
  clear hW2
  have HU : Hid (Kept w U ∧ Blk U (s0 + 1 + 1) (cl 4 0 0 1 1 0 4 0 (.slice (some ⟨s0 + 1, 0, none⟩) 1 1)) ∧ Shps U (some ⟨s0 + 1, 0, none⟩) 1 (F2r s0) ∧ Refs U (some ⟨s0, 0, none⟩) 2 (fun _ => true)) := ⟨((HK0.out.trans k0).trans k1).trans k2, b2, s1.kept k2, (r0.kept k1).kept k2⟩
  clear r0 k0 z0 s1 k1 z1 b2 k2 HK0 hs0
  have hcb := HU.out.2.1
  have c0 := hcb.at 0 rfl
  have c1 := hcb.at 1 rfl
  have c2 := hcb.at 2 rfl
  have c3 := hcb.at 3 rfl
  have c4 := hcb.at 4 rfl
  have c5 := hcb.at 5 rfl
  have c6 := hcb.at 6 rfl
  have c7 := hcb.at 7 rfl
  have c8 := hcb.at 8 rfl
  clear hcb
  have CF : Hid (Calls Tryz.prog 12 #[.agg #[.int .i64 4, .int .i64 0, .int .i64 0, .int .i64 1, .int .i64 1, .int .i64 0, .int .i64 4, .int .i64 0, .slice (some ⟨s0 + 1, 0, none⟩) 1 1], .slice none 0 0] U _) := fill_nil 4 0 0 1 1 0 4 0 _ 1 1 (F2r s0) 32 U HU.out.2.2.1 (Is.is _ (goodR s0)) (by decide)
  go_wp2_with fail
  refine CF.out.mono ?_
  rintro e V ⟨b, M, rfl, hM, K4, hb, hMb⟩
  have HV : Hid (Kept U V ∧ Mm V b M 32 (fun _ => cz) 0 ∧ U.heap.size ≤ M ∧ U.heap.size ≤ b) := ⟨K4, hM, hMb, hb⟩
  clear K4 hM hb hMb CF c0 c1 c2 c3 c4 c5 c6 c7 c8
  go_wp2_with fail
  refine (mo_new 4 4 HV.out.1 HV.out.2.1 HV.out.2.2.1 HV.out.2.2.2 (by decide) (by decide) (by decide)).mono ?_
  rintro e Wm ⟨sb, tb, rfl, HMo⟩
  have HI : Hid (Mo U Wm b M 32 sb tb (wrt fwA 0) 0 (SA 0)) := HMo
  clear HMo HV
  go_wp2_with fail
  refine (mo_table HI.out).mono ?_
  rintro e Wn ⟨rfl, rfl⟩
  go_wp2_with fail
  go_loopg [9] 2 (fun m i wr => ∃ j : Nat, i = .int .i64 j ∧ j ≤ 2 ∧ m = 2 - j ∧ Hid (Mo U wr b M 32 sb tb (wrt fwA (8 * j)) (8 * j) (SA j)))
  case atStart => exact ⟨0, rfl, by omega, by omega, HI.out⟩
  case round =>
    clear HI
    obtain ⟨j, rfl, hj, hm, hwo⟩ := hrel
    have HMo : Hid _ := hm
    clear hm
    obtain ⟨wA, rfl⟩ : ∃ wA, wA = wr := ⟨_, rfl⟩
    by_cases hlo : j < 2
    · have hcb := HU.out.2.1.kept hwo.out.kept
      have c0 := hcb.at 0 rfl
      have c1 := hcb.at 1 rfl
      have c2 := hcb.at 2 rfl
      have c3 := hcb.at 3 rfl
      have c4 := hcb.at 4 rfl
      have c5 := hcb.at 5 rfl
      have c6 := hcb.at 6 rfl
      have c7 := hcb.at 7 rfl
      have c8 := hcb.at 8 rfl
      clear hcb
      have K1 : Kept wA (wA.alloc (.cells #[.int .i64 (j : Int)] 3)) := (Kept.refl _).alloc _ _
      have CO : Hid (Calls Tryz.prog 10 #[.agg #[.int .i64 4, .int .i64 0, .int .i64 0, .int .i64 1, .int .i64 1, .int .i64 0, .int .i64 4, .int .i64 0, .slice (some ⟨s0 + 1, 0, none⟩) 1 1], .int .i64 0, .slice (some ⟨wA.heap.size, 0, none⟩) 1 1] (wA.alloc (.cells #[.int .i64 (j : Int)] 3)) _) := object_yes 4 0 0 1 1 0 4 0 _ 1 1 (F2r s0) (fun _ _ => true) 0 (L := fun _ => (j : Int)) (c := 1) (l := 1) _ ((HU.out.2.2.1.kept hwo.out.kept).kept K1) (fun i hi => (HU.out.2.2.2.kept hwo.out.kept).kept K1) (by decide) (by decide) (fun _ => ⟨wA.heap.size, 0, rfl, by simp, fun i hi => by
        obtain rfl : i = 0 := by omega
        simp⟩) (asksR s0 j hlo)
      have HO : Hid (Mo U (wA.alloc (.cells #[.int .i64 (j : Int)] 3)) b M 32 sb tb (wrt fwA (8 * j)) (8 * j) (SA j)) := hwo.out.still K1
      clear K1 hwo
      go_wp2_with fail
      refine CO.out.mono ?_
      rintro e W ⟨v, rfl, hv, K⟩
      obtain ⟨g, dd, rfl, hg1, hg2, hgc⟩ := hv.here (by decide)
      have HI0 : Hid (Mo U W b M 32 sb tb (wrt fwA (8 * j + 0)) (8 * j + 0) (SA j)) := HO.out.still K
      have HWS : Hid (g < W.heap.size ∧ g ≠ M ∧ g ≠ b ∧ ∀ i, i < 8 → W.cell? ⟨g, i * 2, none⟩ = some (.int .i64 (fwA (8 * j + i)).a) ∧ W.cell? ⟨g, i * 2 + 1, none⟩ = some (.complex .f64 (fwA (8 * j + i)).z.re (fwA (8 * j + i)).z.im)) := by
        have h1 := HO.out.mm.hd.lt
        have h2 := HO.out.mm.row.lt
        refine ⟨hg2, by omega, by omega, fun i hi => ?_⟩
        rw [← fwA_is s0 j i hi]
        exact hgc i hi
      have HA : Hid (∀ k, k < 8 → ∃ a : Nat, a < 32 ∧ (fwA (8 * j + k)).a = (a : Int)) := fun k hk => ⟨8 * j + k, by omega, rfl⟩
      clear hv hg1 hg2 hgc K HO CO c0 c1 c2 c3 c4 c5 c6 c7 c8
      obtain ⟨fw, hfw⟩ : ∃ fw, fw = fwA := ⟨_, rfl⟩
      rw [← hfw] at HA HWS HI0
      have HFW : Hid (fw = fwA) := hfw
      clear hfw
      go_wp2_with fail
      go_loopg [12] 8 (fun m i wr => ∃ k : Nat, i = .int .i64 k ∧ k ≤ 8 ∧ m = 8 - k ∧ Hid (Mo U wr b M 32 sb tb (wrt fw (8 * j + k)) (8 * j + k) (SA j) ∧ Mut [M, b] W wr))
      case atStart => exact ⟨0, rfl, by omega, by omega, HI0.out, Mut.refl _ _⟩
      case round =>
        obtain ⟨k, rfl, hk, hm, hw⟩ := hrel
        have HM : Hid _ := hm
        clear hm
        by_cases hlt : k < 8
        · obtain ⟨a, han, hfa⟩ := HA.out k hlt
          have ca : wr.cell? ⟨g, k * 2, none⟩ = some (.int .i64 (a : Int)) := (hw.out.2.cell HWS.out.1 (by have := HWS.out.2.1; have := HWS.out.2.2.1; simp; omega)).trans (by rw [← hfa]; exact (HWS.out.2.2.2 k hlt).1)
          have cb : wr.cell? ⟨g, k * 2 + 1, none⟩ = some (.complex .f64 (fw (8 * j + k)).z.re (fw (8 * j + k)).z.im) := (hw.out.2.cell HWS.out.1 (by have := HWS.out.2.1; have := HWS.out.2.2.1; simp; omega)).trans (HWS.out.2.2.2 k hlt).2
          have CW : Hid (Calls Tryz.prog 15 #[.pointer (some ⟨M, 0, none⟩), .int .i64 a, .complex .f64 (fw (8 * j + k)).z.re (fw (8 * j + k)).z.im] wr.drew _) := mo_write (G := wrt fw (8 * j + k + 1)) a (fw (8 * j + k)).z (hw.out.1.still (Kept.refl _).drew) han (by omega) (fun j _ => wrt_step hfa j)
          have HD : Hid (Mut [M, b] W wr.drew) := hw.out.2.drew
          clear hw
          generalize (fw (8 * j + k)).z = zz at *
          go_wp2_with fail
          go_region_with (go_at_call 15; refine CW.out.mono ?_; rintro e w2 ⟨rfl, t2, m2⟩; have HR : Hid (Mo U w2 b M 32 sb tb (wrt fw (8 * j + (k + 1))) (8 * j + (k + 1)) (SA j) ∧ Mut [M, b] W w2) := ⟨t2, HD.out.trans m2⟩; clear t2 m2)
          all_goals go_wp2
          all_goals go_roundg (8 - (k + 1))
          all_goals (first | (have := HM.out; omega) | (rename_i HR; exact ⟨k + 1, by go_num, by omega, by omega, HR.out⟩))
        · obtain rfl : 8 = k := by omega
          have HW2 : Hid (Mo U wr b M 32 sb tb (wrt fw (8 * j + 8)) (8 * j + 8) (SA j)) := hw.out.1
          clear hw HM hk hlt HI0 HA HWS
          obtain ⟨W2, rfl⟩ : ∃ W2, W2 = wr := ⟨_, rfl⟩
          rw [HFW.out] at HW2
          go_wp2_with fail
          refine (mo_table HW2.out).mono ?_
          rintro e w3 ⟨rfl, rfl⟩
          go_wp2_with fail
          refine (mo_set (j : Int) 2 true false HW2.out).mono ?_
          rintro e w4 ⟨rfl, t4⟩
          have HN4 : Hid (Mo U w4 b M 32 sb tb (wrt fwA (8 * (j + 1))) (8 * (j + 1)) (SA (j + 1))) := t4
          clear t4 HW2
          go_wp2
          go_roundg (2 - (j + 1))
          case measure => have := HMo.out; omega
          case rel => exact ⟨j + 1, by go_num, by omega, by omega, HN4⟩
    · obtain rfl : 2 = j := by omega
      have HOK : Hid (Mo U wA b M 32 sb tb (wrt fwA 16) 16 S0r) := hwo.out
      clear hwo hlo HMo hj
      obtain ⟨z0, hz0⟩ : ∃ z, z = cr 0 := ⟨_, rfl⟩
      obtain ⟨z1, hz1⟩ : ∃ z, z = cr 1 := ⟨_, rfl⟩
      obtain ⟨G0, hG0⟩ : ∃ G, G = wrt fwA 16 := ⟨_, rfl⟩
      rw [← hG0] at HOK
      have HZ : Hid (z0 = cr 0 ∧ z1 = cr 1 ∧ G0 1 = ch 0 (modeO (fun _ => 0) 1) ∧ G0 2 = cn) := ⟨hz0, hz1, by rw [hG0]; exact memR1, by rw [hG0]; exact memR2⟩
      have CR0 : Hid (∀ w, Calls Tryz.prog 18 #[.int .i64 0] w fun e w' => e = .returned (.complex .f64 z0.re z0.im) ∧ w' = w) := fun w => by rw [hz0]; exact rref_in 0 w (by decide) (by decide)
      have CR1 : Hid (∀ w, Calls Tryz.prog 18 #[.int .i64 1] w fun e w' => e = .returned (.complex .f64 z1.re z1.im) ∧ w' = w) := fun w => by rw [hz1]; exact rref_in 1 w (by decide) (by decide)
      clear hz0 hz1 hG0
      cases self
      · cases back
        · go_wp2_with fail
          refine (CR1.out _).mono ?_
          rintro e wba ⟨rfl, rfl⟩
          go_wp2_with fail
          refine (mo_write (G := (upd G0 3 z1)) 3 z1 HOK.out (by decide) (by decide) (fun j _ => rfl)).mono ?_
          rintro e wb ⟨rfl, t2, _⟩
          have HM2 : Hid (Mo U wb b M 32 sb tb (upd G0 3 z1) 17 S0r) := t2
          clear t2 HOK
          have hcb := HU.out.2.1.kept HM2.out.kept
          have c0 := hcb.at 0 rfl
          have c1 := hcb.at 1 rfl
          have c2 := hcb.at 2 rfl
          have c3 := hcb.at 3 rfl
          have c4 := hcb.at 4 rfl
          have c5 := hcb.at 5 rfl
          have c6 := hcb.at 6 rfl
          have c7 := hcb.at 7 rfl
          have c8 := hcb.at 8 rfl
          clear hcb
          have CN : Hid (Calls Tryz.prog 20 #[.agg #[.int .i64 4, .int .i64 0, .int .i64 0, .int .i64 1, .int .i64 1, .int .i64 0, .int .i64 4, .int .i64 0, .slice (some ⟨s0 + 1, 0, none⟩) 1 1], .int .i64 0, .bool true] _ _) := tnew_is 4 0 0 1 1 0 4 0 _ 1 1 (F2r s0) (fun _ _ => true) 0 true (fun _ => true) _ (HU.out.2.2.1.kept HM2.out.kept) (fun i hi => HU.out.2.2.2.kept HM2.out.kept) (goodR s0) (by omega)
          go_wp2_with fail
          refine CN.out.mono ?_
          rintro e W3 ⟨p, E, rfl, ht, hp, hK, hE⟩
          have HRN : Hid (Run U p b M 32 sb tb (upd G0 3 z1) E (xR false) true (JR false) 17 0 0 W3) := mo_run HM2.out ht hp hK (by decide) ⟨rfl, fun _ => rfl, (fun h => by cases h), (fun h => by cases h)⟩
          have HENV : Hid (Env E 32 (upd G0 3 z1) 0 (modeO (fun _ => 0) 1) (xR false)) := envR false hE ⟨by simpa [upd] using HZ.out.2.2.1, by simpa [upd] using HZ.out.2.2.2, by simpa [upd] using HZ.out.2.1⟩
          have HJK : Hid (Jok (xR false) true (JR false)) := jokR false
          have HQC : Hid (17 ≤ 50000 ∧ 0 ≤ 50000) := ⟨by decide, by decide⟩
          clear ht hp hK hE CN HM2 c0 c1 c2 c3 c4 c5 c6 c7 c8
          obtain ⟨T, hT⟩ : ∃ T, T = 4 := ⟨_, rfl⟩
          have HT : Hid ((xR false).all = T) := by show (xR false).all = T; rw [hT]; decide
          have hTl : T ≤ 10 := by omega
          have HTn : Hid (T = 4) := hT
          clear hT
          go_wp2_with fail
          go_loopg [15] T (fun m i wr => ∃ t : Nat, i = .int .i64 t ∧ t ≤ T ∧ m = T - t ∧ Hid (Run U p b M 32 sb tb (upd G0 3 z1) E (xR false) true (JR false) 17 0 t wr))
          case atStart => exact ⟨0, rfl, by omega, by omega, HRN.out⟩
          case round =>
            obtain ⟨t, rfl, ht, hm, hw⟩ := hrel
            have HM : Hid _ := hm
            clear hm
            by_cases hlt : t < T
            · have h10 : (t : Int) < 20 := by omega
              have e1 : decide (t = (xR false).all) = false := by rw [HT.out]; simp; omega
              have CG : Hid (Calls Tryz.prog 22 #[.pointer (some ⟨p, 0, none⟩), .pointer (some ⟨M, 0, none⟩), .pointer (some ⟨sb, 0, none⟩)] wr _) := run_go HENV.out HJK.out wr hw.out (by rw [HT.out]; omega) HQC.out.1 HQC.out.2
              go_wp2_with fail
              refine (run_done _ hw.out).mono ?_
              rintro e w4 ⟨rfl, rfl⟩
              rw [e1]
              clear hw e1
              go_wp2_with fail
              refine CG.out.mono ?_
              rintro e w5 ⟨rfl, HR⟩
              have HN : Hid (Run U p b M 32 sb tb (upd G0 3 z1) E (xR false) true (JR false) 17 0 (t + 1) w5) := HR
              clear HR CG
              go_wp2
              go_roundg (T - (t + 1))
              case measure => have := HM.out; omega
              case rel => exact ⟨t + 1, by go_num, by omega, by omega, HN⟩
            · obtain rfl : T = t := by omega
              have h10 : (T : Int) < 20 := by omega
              have e1 : decide (T = (xR false).all) = true := by rw [HT.out]; simp
              go_wp2_with fail
              refine (run_done _ hw.out).mono ?_
              rintro e w4 ⟨rfl, rfl⟩
              rw [e1]
              have HW4 : Hid (Run U p b M 32 sb tb (upd G0 3 z1) E (xR false) true (JR false) 17 0 (xR false).all w4) := by rw [HT.out]; exact hw.out
              clear hw HM hlt ht e1 HRN
              go_wp2_with fail
              refine (first_any _).mono ?_
              rintro e w6 ⟨rfl, K6⟩
              obtain ⟨S, hms, _, hJ⟩ := run_end HW4.out
              have hS : S = S2r false := hJ.2.2.2 rfl
              subst hS
              have HS9 : Hid (Run U p b M 32 sb tb (upd G0 3 z1) E (xR false) true (JR false) 17 0 (xR false).all w4) := HW4.out
              have HW6 : Hid (Ms U w6 sb tb (S2r false)) := hms.still K6
              have HK6 : Hid (Kept w4 w6) := K6
              clear K6 hms hJ
              obtain ⟨d, S', q', hA, hsp, _, _, hs⟩ := HS9.out
              have CD : Hid (Calls Tryz.prog 21 #[.pointer (some ⟨p, 0, none⟩)] w6 fun e w' => e = .returned (.bool true) ∧ w' = w6) := tdone_is true w6 (hA.ts.kept HK6.out) (by rw [hs.all.1, hsp]; simp)
              have CS : Hid (Calls Tryz.prog 25 #[.pointer (some ⟨p, 0, none⟩)] w6 fun e w' => e = .returned (.int .i64 4) ∧ w' = w6) := by
                have := tsteps_is w6 (hA.ts.kept HK6.out)
                rw [hsp, HT.out, HTn.out] at this
                exact this
              clear hA hsp hs HS9 HK6 HW4
              go_wp2_with fail
              refine CD.out.mono ?_
              rintro e w7 ⟨rfl, rfl⟩
              go_wp2_with fail
              refine CS.out.mono ?_
              rintro e w8 ⟨rfl, rfl⟩
              clear CD CS
              go_wp2_with fail
              refine (ms_table HW6.out).mono ?_
              rintro e w9 ⟨rfl, rfl⟩
              go_wp2_with fail
              refine (ms_tblack 1 true HW6.out).mono ?_
              rintro e w10 ⟨rfl, rfl⟩
              rw [show blk (S2r false).n (S2r false).T 1 true = true by decide]
              go_wp2_with fail
              refine (ms_table HW6.out).mono ?_
              rintro e w11 ⟨rfl, rfl⟩
              go_wp2_with fail
              refine (ms_tblack 0 true HW6.out).mono ?_
              rintro e w12 ⟨rfl, rfl⟩
              rw [show blk (S2r false).n (S2r false).T 0 true = false by decide]
              go_wp2_with fail
              refine (ms_len HW6.out).mono ?_
              rintro e w13 ⟨rfl, rfl⟩
              rw [show (S2r false).P.length = 1 by decide]
              have HK9 : Hid (Kept w w13) := HU.out.1.trans HW6.out.kept
              clear HW6
              go_wp2
              go_ret
              exact ⟨rfl, HK9.out⟩
        · go_wp2_with fail
          refine (CR1.out _).mono ?_
          rintro e wba ⟨rfl, rfl⟩
          go_wp2_with fail
          refine (mo_write (G := (upd G0 3 z1)) 3 z1 HOK.out (by decide) (by decide) (fun j _ => rfl)).mono ?_
          rintro e wb ⟨rfl, t2, _⟩
          have HM2 : Hid (Mo U wb b M 32 sb tb (upd G0 3 z1) 17 S0r) := t2
          clear t2 HOK
          go_wp2_with fail
          refine (CR0.out _).mono ?_
          rintro e wca ⟨rfl, rfl⟩
          go_wp2_with fail
          refine (mo_write (G := (upd (upd G0 3 z1) 10 z0)) 10 z0 HM2.out (by decide) (by decide) (fun j _ => rfl)).mono ?_
          rintro e wc ⟨rfl, t2, _⟩
          have HM3 : Hid (Mo U wc b M 32 sb tb (upd (upd G0 3 z1) 10 z0) 18 S0r) := t2
          clear t2 HM2
          have hcb := HU.out.2.1.kept HM3.out.kept
          have c0 := hcb.at 0 rfl
          have c1 := hcb.at 1 rfl
          have c2 := hcb.at 2 rfl
          have c3 := hcb.at 3 rfl
          have c4 := hcb.at 4 rfl
          have c5 := hcb.at 5 rfl
          have c6 := hcb.at 6 rfl
          have c7 := hcb.at 7 rfl
          have c8 := hcb.at 8 rfl
          clear hcb
          have CN : Hid (Calls Tryz.prog 20 #[.agg #[.int .i64 4, .int .i64 0, .int .i64 0, .int .i64 1, .int .i64 1, .int .i64 0, .int .i64 4, .int .i64 0, .slice (some ⟨s0 + 1, 0, none⟩) 1 1], .int .i64 0, .bool true] _ _) := tnew_is 4 0 0 1 1 0 4 0 _ 1 1 (F2r s0) (fun _ _ => true) 0 true (fun _ => true) _ (HU.out.2.2.1.kept HM3.out.kept) (fun i hi => HU.out.2.2.2.kept HM3.out.kept) (goodR s0) (by omega)
          go_wp2_with fail
          refine CN.out.mono ?_
          rintro e W3 ⟨p, E, rfl, ht, hp, hK, hE⟩
          have HRN : Hid (Run U p b M 32 sb tb (upd (upd G0 3 z1) 10 z0) E (xR false) true (JR false) 18 0 0 W3) := mo_run HM3.out ht hp hK (by decide) ⟨rfl, fun _ => rfl, (fun h => by cases h), (fun h => by cases h)⟩
          have HENV : Hid (Env E 32 (upd (upd G0 3 z1) 10 z0) 0 (modeO (fun _ => 0) 1) (xR false)) := envR false hE ⟨by simpa [upd] using HZ.out.2.2.1, by simpa [upd] using HZ.out.2.2.2, by simpa [upd] using HZ.out.2.1⟩
          have HJK : Hid (Jok (xR false) true (JR false)) := jokR false
          have HQC : Hid (18 ≤ 50000 ∧ 0 ≤ 50000) := ⟨by decide, by decide⟩
          clear ht hp hK hE CN HM3 c0 c1 c2 c3 c4 c5 c6 c7 c8
          obtain ⟨T, hT⟩ : ∃ T, T = 4 := ⟨_, rfl⟩
          have HT : Hid ((xR false).all = T) := by show (xR false).all = T; rw [hT]; decide
          have hTl : T ≤ 10 := by omega
          have HTn : Hid (T = 4) := hT
          clear hT
          go_wp2_with fail
          go_loopg [15] T (fun m i wr => ∃ t : Nat, i = .int .i64 t ∧ t ≤ T ∧ m = T - t ∧ Hid (Run U p b M 32 sb tb (upd (upd G0 3 z1) 10 z0) E (xR false) true (JR false) 18 0 t wr))
          case atStart => exact ⟨0, rfl, by omega, by omega, HRN.out⟩
          case round =>
            obtain ⟨t, rfl, ht, hm, hw⟩ := hrel
            have HM : Hid _ := hm
            clear hm
            by_cases hlt : t < T
            · have h10 : (t : Int) < 20 := by omega
              have e1 : decide (t = (xR false).all) = false := by rw [HT.out]; simp; omega
              have CG : Hid (Calls Tryz.prog 22 #[.pointer (some ⟨p, 0, none⟩), .pointer (some ⟨M, 0, none⟩), .pointer (some ⟨sb, 0, none⟩)] wr _) := run_go HENV.out HJK.out wr hw.out (by rw [HT.out]; omega) HQC.out.1 HQC.out.2
              go_wp2_with fail
              refine (run_done _ hw.out).mono ?_
              rintro e w4 ⟨rfl, rfl⟩
              rw [e1]
              clear hw e1
              go_wp2_with fail
              refine CG.out.mono ?_
              rintro e w5 ⟨rfl, HR⟩
              have HN : Hid (Run U p b M 32 sb tb (upd (upd G0 3 z1) 10 z0) E (xR false) true (JR false) 18 0 (t + 1) w5) := HR
              clear HR CG
              go_wp2
              go_roundg (T - (t + 1))
              case measure => have := HM.out; omega
              case rel => exact ⟨t + 1, by go_num, by omega, by omega, HN⟩
            · obtain rfl : T = t := by omega
              have h10 : (T : Int) < 20 := by omega
              have e1 : decide (T = (xR false).all) = true := by rw [HT.out]; simp
              go_wp2_with fail
              refine (run_done _ hw.out).mono ?_
              rintro e w4 ⟨rfl, rfl⟩
              rw [e1]
              have HW4 : Hid (Run U p b M 32 sb tb (upd (upd G0 3 z1) 10 z0) E (xR false) true (JR false) 18 0 (xR false).all w4) := by rw [HT.out]; exact hw.out
              clear hw HM hlt ht e1 HRN
              go_wp2_with fail
              refine (first_any _).mono ?_
              rintro e w6 ⟨rfl, K6⟩
              obtain ⟨S, hms, _, hJ⟩ := run_end HW4.out
              have hS : S = S2r false := hJ.2.2.2 rfl
              subst hS
              have HS9 : Hid (Run U p b M 32 sb tb (upd (upd G0 3 z1) 10 z0) E (xR false) true (JR false) 18 0 (xR false).all w4) := HW4.out
              have HW6 : Hid (Ms U w6 sb tb (S2r false)) := hms.still K6
              have HK6 : Hid (Kept w4 w6) := K6
              clear K6 hms hJ
              obtain ⟨d, S', q', hA, hsp, _, _, hs⟩ := HS9.out
              have CD : Hid (Calls Tryz.prog 21 #[.pointer (some ⟨p, 0, none⟩)] w6 fun e w' => e = .returned (.bool true) ∧ w' = w6) := tdone_is true w6 (hA.ts.kept HK6.out) (by rw [hs.all.1, hsp]; simp)
              have CS : Hid (Calls Tryz.prog 25 #[.pointer (some ⟨p, 0, none⟩)] w6 fun e w' => e = .returned (.int .i64 4) ∧ w' = w6) := by
                have := tsteps_is w6 (hA.ts.kept HK6.out)
                rw [hsp, HT.out, HTn.out] at this
                exact this
              clear hA hsp hs HS9 HK6 HW4
              go_wp2_with fail
              refine CD.out.mono ?_
              rintro e w7 ⟨rfl, rfl⟩
              go_wp2_with fail
              refine CS.out.mono ?_
              rintro e w8 ⟨rfl, rfl⟩
              clear CD CS
              go_wp2_with fail
              refine (ms_table HW6.out).mono ?_
              rintro e w9 ⟨rfl, rfl⟩
              go_wp2_with fail
              refine (ms_tblack 1 true HW6.out).mono ?_
              rintro e w10 ⟨rfl, rfl⟩
              rw [show blk (S2r false).n (S2r false).T 1 true = true by decide]
              go_wp2_with fail
              refine (ms_table HW6.out).mono ?_
              rintro e w11 ⟨rfl, rfl⟩
              go_wp2_with fail
              refine (ms_tblack 0 true HW6.out).mono ?_
              rintro e w12 ⟨rfl, rfl⟩
              rw [show blk (S2r false).n (S2r false).T 0 true = false by decide]
              go_wp2_with fail
              refine (ms_len HW6.out).mono ?_
              rintro e w13 ⟨rfl, rfl⟩
              rw [show (S2r false).P.length = 1 by decide]
              have HK9 : Hid (Kept w w13) := HU.out.1.trans HW6.out.kept
              clear HW6
              go_wp2
              go_ret
              exact ⟨rfl, HK9.out⟩
      · cases back
        · go_wp2_with fail
          refine (CR0.out _).mono ?_
          rintro e waa ⟨rfl, rfl⟩
          go_wp2_with fail
          refine (mo_write (G := (upd G0 2 z0)) 2 z0 HOK.out (by decide) (by decide) (fun j _ => rfl)).mono ?_
          rintro e wa ⟨rfl, t2, _⟩
          have HM1 : Hid (Mo U wa b M 32 sb tb (upd G0 2 z0) 17 S0r) := t2
          clear t2 HOK
          go_wp2_with fail
          refine (CR1.out _).mono ?_
          rintro e wba ⟨rfl, rfl⟩
          go_wp2_with fail
          refine (mo_write (G := (upd (upd G0 2 z0) 3 z1)) 3 z1 HM1.out (by decide) (by decide) (fun j _ => rfl)).mono ?_
          rintro e wb ⟨rfl, t2, _⟩
          have HM2 : Hid (Mo U wb b M 32 sb tb (upd (upd G0 2 z0) 3 z1) 18 S0r) := t2
          clear t2 HM1
          have hcb := HU.out.2.1.kept HM2.out.kept
          have c0 := hcb.at 0 rfl
          have c1 := hcb.at 1 rfl
          have c2 := hcb.at 2 rfl
          have c3 := hcb.at 3 rfl
          have c4 := hcb.at 4 rfl
          have c5 := hcb.at 5 rfl
          have c6 := hcb.at 6 rfl
          have c7 := hcb.at 7 rfl
          have c8 := hcb.at 8 rfl
          clear hcb
          have CN : Hid (Calls Tryz.prog 20 #[.agg #[.int .i64 4, .int .i64 0, .int .i64 0, .int .i64 1, .int .i64 1, .int .i64 0, .int .i64 4, .int .i64 0, .slice (some ⟨s0 + 1, 0, none⟩) 1 1], .int .i64 0, .bool true] _ _) := tnew_is 4 0 0 1 1 0 4 0 _ 1 1 (F2r s0) (fun _ _ => true) 0 true (fun _ => true) _ (HU.out.2.2.1.kept HM2.out.kept) (fun i hi => HU.out.2.2.2.kept HM2.out.kept) (goodR s0) (by omega)
          go_wp2_with fail
          refine CN.out.mono ?_
          rintro e W3 ⟨p, E, rfl, ht, hp, hK, hE⟩
          have HRN : Hid (Run U p b M 32 sb tb (upd (upd G0 2 z0) 3 z1) E (xR true) true (JR true) 18 0 0 W3) := mo_run HM2.out ht hp hK (by decide) ⟨rfl, fun _ => rfl, (fun h => by cases h), (fun h => by cases h)⟩
          have HENV : Hid (Env E 32 (upd (upd G0 2 z0) 3 z1) 0 (modeO (fun _ => 0) 1) (xR true)) := envR true hE ⟨by simpa [upd] using HZ.out.2.2.1, by simpa [upd] using HZ.out.1, by simpa [upd] using HZ.out.2.1⟩
          have HJK : Hid (Jok (xR true) true (JR true)) := jokR true
          have HQC : Hid (18 ≤ 50000 ∧ 0 ≤ 50000) := ⟨by decide, by decide⟩
          clear ht hp hK hE CN HM2 c0 c1 c2 c3 c4 c5 c6 c7 c8
          obtain ⟨T, hT⟩ : ∃ T, T = 5 := ⟨_, rfl⟩
          have HT : Hid ((xR true).all = T) := by show (xR true).all = T; rw [hT]; decide
          have hTl : T ≤ 10 := by omega
          have HTn : Hid (T = 5) := hT
          clear hT
          go_wp2_with fail
          go_loopg [15] T (fun m i wr => ∃ t : Nat, i = .int .i64 t ∧ t ≤ T ∧ m = T - t ∧ Hid (Run U p b M 32 sb tb (upd (upd G0 2 z0) 3 z1) E (xR true) true (JR true) 18 0 t wr))
          case atStart => exact ⟨0, rfl, by omega, by omega, HRN.out⟩
          case round =>
            obtain ⟨t, rfl, ht, hm, hw⟩ := hrel
            have HM : Hid _ := hm
            clear hm
            by_cases hlt : t < T
            · have h10 : (t : Int) < 20 := by omega
              have e1 : decide (t = (xR true).all) = false := by rw [HT.out]; simp; omega
              have CG : Hid (Calls Tryz.prog 22 #[.pointer (some ⟨p, 0, none⟩), .pointer (some ⟨M, 0, none⟩), .pointer (some ⟨sb, 0, none⟩)] wr _) := run_go HENV.out HJK.out wr hw.out (by rw [HT.out]; omega) HQC.out.1 HQC.out.2
              go_wp2_with fail
              refine (run_done _ hw.out).mono ?_
              rintro e w4 ⟨rfl, rfl⟩
              rw [e1]
              clear hw e1
              go_wp2_with fail
              refine CG.out.mono ?_
              rintro e w5 ⟨rfl, HR⟩
              have HN : Hid (Run U p b M 32 sb tb (upd (upd G0 2 z0) 3 z1) E (xR true) true (JR true) 18 0 (t + 1) w5) := HR
              clear HR CG
              go_wp2
              go_roundg (T - (t + 1))
              case measure => have := HM.out; omega
              case rel => exact ⟨t + 1, by go_num, by omega, by omega, HN⟩
            · obtain rfl : T = t := by omega
              have h10 : (T : Int) < 20 := by omega
              have e1 : decide (T = (xR true).all) = true := by rw [HT.out]; simp
              go_wp2_with fail
              refine (run_done _ hw.out).mono ?_
              rintro e w4 ⟨rfl, rfl⟩
              rw [e1]
              have HW4 : Hid (Run U p b M 32 sb tb (upd (upd G0 2 z0) 3 z1) E (xR true) true (JR true) 18 0 (xR true).all w4) := by rw [HT.out]; exact hw.out
              clear hw HM hlt ht e1 HRN
              go_wp2_with fail
              refine (first_any _).mono ?_
              rintro e w6 ⟨rfl, K6⟩
              obtain ⟨S, hms, _, hJ⟩ := run_end HW4.out
              have hS : S = S2r true := hJ.2.2.2 rfl
              subst hS
              have HS9 : Hid (Run U p b M 32 sb tb (upd (upd G0 2 z0) 3 z1) E (xR true) true (JR true) 18 0 (xR true).all w4) := HW4.out
              have HW6 : Hid (Ms U w6 sb tb (S2r true)) := hms.still K6
              have HK6 : Hid (Kept w4 w6) := K6
              clear K6 hms hJ
              obtain ⟨d, S', q', hA, hsp, _, _, hs⟩ := HS9.out
              have CD : Hid (Calls Tryz.prog 21 #[.pointer (some ⟨p, 0, none⟩)] w6 fun e w' => e = .returned (.bool true) ∧ w' = w6) := tdone_is true w6 (hA.ts.kept HK6.out) (by rw [hs.all.1, hsp]; simp)
              have CS : Hid (Calls Tryz.prog 25 #[.pointer (some ⟨p, 0, none⟩)] w6 fun e w' => e = .returned (.int .i64 5) ∧ w' = w6) := by
                have := tsteps_is w6 (hA.ts.kept HK6.out)
                rw [hsp, HT.out, HTn.out] at this
                exact this
              clear hA hsp hs HS9 HK6 HW4
              go_wp2_with fail
              refine CD.out.mono ?_
              rintro e w7 ⟨rfl, rfl⟩
              go_wp2_with fail
              refine CS.out.mono ?_
              rintro e w8 ⟨rfl, rfl⟩
              clear CD CS
              go_wp2_with fail
              refine (ms_table HW6.out).mono ?_
              rintro e w9 ⟨rfl, rfl⟩
              go_wp2_with fail
              refine (ms_tblack 1 true HW6.out).mono ?_
              rintro e w10 ⟨rfl, rfl⟩
              rw [show blk (S2r true).n (S2r true).T 1 true = true by decide]
              go_wp2_with fail
              refine (ms_table HW6.out).mono ?_
              rintro e w11 ⟨rfl, rfl⟩
              go_wp2_with fail
              refine (ms_tblack 0 true HW6.out).mono ?_
              rintro e w12 ⟨rfl, rfl⟩
              rw [show blk (S2r true).n (S2r true).T 0 true = true by decide]
              go_wp2_with fail
              refine (ms_len HW6.out).mono ?_
              rintro e w13 ⟨rfl, rfl⟩
              rw [show (S2r true).P.length = 2 by decide]
              have HK9 : Hid (Kept w w13) := HU.out.1.trans HW6.out.kept
              clear HW6
              go_wp2
              go_ret
              exact ⟨rfl, HK9.out⟩
        · go_wp2_with fail
          refine (CR0.out _).mono ?_
          rintro e waa ⟨rfl, rfl⟩
          go_wp2_with fail
          refine (mo_write (G := (upd G0 2 z0)) 2 z0 HOK.out (by decide) (by decide) (fun j _ => rfl)).mono ?_
          rintro e wa ⟨rfl, t2, _⟩
          have HM1 : Hid (Mo U wa b M 32 sb tb (upd G0 2 z0) 17 S0r) := t2
          clear t2 HOK
          go_wp2_with fail
          refine (CR1.out _).mono ?_
          rintro e wba ⟨rfl, rfl⟩
          go_wp2_with fail
          refine (mo_write (G := (upd (upd G0 2 z0) 3 z1)) 3 z1 HM1.out (by decide) (by decide) (fun j _ => rfl)).mono ?_
          rintro e wb ⟨rfl, t2, _⟩
          have HM2 : Hid (Mo U wb b M 32 sb tb (upd (upd G0 2 z0) 3 z1) 18 S0r) := t2
          clear t2 HM1
          go_wp2_with fail
          refine (CR0.out _).mono ?_
          rintro e wca ⟨rfl, rfl⟩
          go_wp2_with fail
          refine (mo_write (G := (upd (upd (upd G0 2 z0) 3 z1) 10 z0)) 10 z0 HM2.out (by decide) (by decide) (fun j _ => rfl)).mono ?_
          rintro e wc ⟨rfl, t2, _⟩
          have HM3 : Hid (Mo U wc b M 32 sb tb (upd (upd (upd G0 2 z0) 3 z1) 10 z0) 19 S0r) := t2
          clear t2 HM2
          have hcb := HU.out.2.1.kept HM3.out.kept
          have c0 := hcb.at 0 rfl
          have c1 := hcb.at 1 rfl
          have c2 := hcb.at 2 rfl
          have c3 := hcb.at 3 rfl
          have c4 := hcb.at 4 rfl
          have c5 := hcb.at 5 rfl
          have c6 := hcb.at 6 rfl
          have c7 := hcb.at 7 rfl
          have c8 := hcb.at 8 rfl
          clear hcb
          have CN : Hid (Calls Tryz.prog 20 #[.agg #[.int .i64 4, .int .i64 0, .int .i64 0, .int .i64 1, .int .i64 1, .int .i64 0, .int .i64 4, .int .i64 0, .slice (some ⟨s0 + 1, 0, none⟩) 1 1], .int .i64 0, .bool true] _ _) := tnew_is 4 0 0 1 1 0 4 0 _ 1 1 (F2r s0) (fun _ _ => true) 0 true (fun _ => true) _ (HU.out.2.2.1.kept HM3.out.kept) (fun i hi => HU.out.2.2.2.kept HM3.out.kept) (goodR s0) (by omega)
          go_wp2_with fail
          refine CN.out.mono ?_
          rintro e W3 ⟨p, E, rfl, ht, hp, hK, hE⟩
          have HRN : Hid (Run U p b M 32 sb tb (upd (upd (upd G0 2 z0) 3 z1) 10 z0) E (xR true) true (JR true) 19 0 0 W3) := mo_run HM3.out ht hp hK (by decide) ⟨rfl, fun _ => rfl, (fun h => by cases h), (fun h => by cases h)⟩
          have HENV : Hid (Env E 32 (upd (upd (upd G0 2 z0) 3 z1) 10 z0) 0 (modeO (fun _ => 0) 1) (xR true)) := envR true hE ⟨by simpa [upd] using HZ.out.2.2.1, by simpa [upd] using HZ.out.1, by simpa [upd] using HZ.out.2.1⟩
          have HJK : Hid (Jok (xR true) true (JR true)) := jokR true
          have HQC : Hid (19 ≤ 50000 ∧ 0 ≤ 50000) := ⟨by decide, by decide⟩
          clear ht hp hK hE CN HM3 c0 c1 c2 c3 c4 c5 c6 c7 c8
          obtain ⟨T, hT⟩ : ∃ T, T = 5 := ⟨_, rfl⟩
          have HT : Hid ((xR true).all = T) := by show (xR true).all = T; rw [hT]; decide
          have hTl : T ≤ 10 := by omega
          have HTn : Hid (T = 5) := hT
          clear hT
          go_wp2_with fail
          go_loopg [15] T (fun m i wr => ∃ t : Nat, i = .int .i64 t ∧ t ≤ T ∧ m = T - t ∧ Hid (Run U p b M 32 sb tb (upd (upd (upd G0 2 z0) 3 z1) 10 z0) E (xR true) true (JR true) 19 0 t wr))
          case atStart => exact ⟨0, rfl, by omega, by omega, HRN.out⟩
          case round =>
            obtain ⟨t, rfl, ht, hm, hw⟩ := hrel
            have HM : Hid _ := hm
            clear hm
            by_cases hlt : t < T
            · have h10 : (t : Int) < 20 := by omega
              have e1 : decide (t = (xR true).all) = false := by rw [HT.out]; simp; omega
              have CG : Hid (Calls Tryz.prog 22 #[.pointer (some ⟨p, 0, none⟩), .pointer (some ⟨M, 0, none⟩), .pointer (some ⟨sb, 0, none⟩)] wr _) := run_go HENV.out HJK.out wr hw.out (by rw [HT.out]; omega) HQC.out.1 HQC.out.2
              go_wp2_with fail
              refine (run_done _ hw.out).mono ?_
              rintro e w4 ⟨rfl, rfl⟩
              rw [e1]
              clear hw e1
              go_wp2_with fail
              refine CG.out.mono ?_
              rintro e w5 ⟨rfl, HR⟩
              have HN : Hid (Run U p b M 32 sb tb (upd (upd (upd G0 2 z0) 3 z1) 10 z0) E (xR true) true (JR true) 19 0 (t + 1) w5) := HR
              clear HR CG
              go_wp2
              go_roundg (T - (t + 1))
              case measure => have := HM.out; omega
              case rel => exact ⟨t + 1, by go_num, by omega, by omega, HN⟩
            · obtain rfl : T = t := by omega
              have h10 : (T : Int) < 20 := by omega
              have e1 : decide (T = (xR true).all) = true := by rw [HT.out]; simp
              go_wp2_with fail
              refine (run_done _ hw.out).mono ?_
              rintro e w4 ⟨rfl, rfl⟩
              rw [e1]
              have HW4 : Hid (Run U p b M 32 sb tb (upd (upd (upd G0 2 z0) 3 z1) 10 z0) E (xR true) true (JR true) 19 0 (xR true).all w4) := by rw [HT.out]; exact hw.out
              clear hw HM hlt ht e1 HRN
              go_wp2_with fail
              refine (first_any _).mono ?_
              rintro e w6 ⟨rfl, K6⟩
              obtain ⟨S, hms, _, hJ⟩ := run_end HW4.out
              have hS : S = S2r true := hJ.2.2.2 rfl
              subst hS
              have HS9 : Hid (Run U p b M 32 sb tb (upd (upd (upd G0 2 z0) 3 z1) 10 z0) E (xR true) true (JR true) 19 0 (xR true).all w4) := HW4.out
              have HW6 : Hid (Ms U w6 sb tb (S2r true)) := hms.still K6
              have HK6 : Hid (Kept w4 w6) := K6
              clear K6 hms hJ
              obtain ⟨d, S', q', hA, hsp, _, _, hs⟩ := HS9.out
              have CD : Hid (Calls Tryz.prog 21 #[.pointer (some ⟨p, 0, none⟩)] w6 fun e w' => e = .returned (.bool true) ∧ w' = w6) := tdone_is true w6 (hA.ts.kept HK6.out) (by rw [hs.all.1, hsp]; simp)
              have CS : Hid (Calls Tryz.prog 25 #[.pointer (some ⟨p, 0, none⟩)] w6 fun e w' => e = .returned (.int .i64 5) ∧ w' = w6) := by
                have := tsteps_is w6 (hA.ts.kept HK6.out)
                rw [hsp, HT.out, HTn.out] at this
                exact this
              clear hA hsp hs HS9 HK6 HW4
              go_wp2_with fail
              refine CD.out.mono ?_
              rintro e w7 ⟨rfl, rfl⟩
              go_wp2_with fail
              refine CS.out.mono ?_
              rintro e w8 ⟨rfl, rfl⟩
              clear CD CS
              go_wp2_with fail
              refine (ms_table HW6.out).mono ?_
              rintro e w9 ⟨rfl, rfl⟩
              go_wp2_with fail
              refine (ms_tblack 1 true HW6.out).mono ?_
              rintro e w10 ⟨rfl, rfl⟩
              rw [show blk (S2r true).n (S2r true).T 1 true = true by decide]
              go_wp2_with fail
              refine (ms_table HW6.out).mono ?_
              rintro e w11 ⟨rfl, rfl⟩
              go_wp2_with fail
              refine (ms_tblack 0 true HW6.out).mono ?_
              rintro e w12 ⟨rfl, rfl⟩
              rw [show blk (S2r true).n (S2r true).T 0 true = true by decide]
              go_wp2_with fail
              refine (ms_len HW6.out).mono ?_
              rintro e w13 ⟨rfl, rfl⟩
              rw [show (S2r true).P.length = 2 by decide]
              have HK9 : Hid (Kept w w13) := HU.out.1.trans HW6.out.kept
              clear HW6
              go_wp2
              go_ret
              exact ⟨rfl, HK9.out⟩
end Go.Proofs.YtpdclckgnajcdaaGreat
