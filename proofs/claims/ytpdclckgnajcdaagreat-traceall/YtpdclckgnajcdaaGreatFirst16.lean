/-
  The laws' own 'first' of package spolaw16 returns true; what was there is kept.
-/
import Derived.Test.YtpdclckgnajcdaaGreatMo16
import Derived.Test.YtpdclckgnajcdaaGreatFirst12
namespace Go.Proofs.YtpdclckgnajcdaaGreat
open Go.RowKit

/-- An object without fields. -/
def x16 : Th := ⟨false, fun _ => false, 0, 0, G0, 1, 0, 0, 0, fun _ => none⟩
theorem ok16 : ThOk 4 0 x16 := by
  refine ⟨fun _ => by decide, (fun h => by cases h), fun j _ => by simp [x16, G0], by decide, (fun h => by cases h), (fun h => by cases h), fun _ => rfl, (fun h => by cases h), (fun h => by cases h), fun _ _ h => by cases h⟩
theorem jok16 : Jok x16 true (fun _ _ _ => True) := ⟨fun _ _ _ _ _ _ => trivial, fun _ _ _ _ _ _ _ _ => trivial, fun _ _ _ _ _ _ => trivial⟩
theorem env16 {E : En} (h : Began 4 0 1 F0 (fun _ _ => false) E) : Env E 32 (wrt (objF 0 (fun _ => false) G0 1 0) 8) 0 (modeO G0 1) x16 := by
  obtain ⟨h1, h2, h3, h4, h5⟩ := h
  have hm : 0 ≤ modeO G0 1 ∧ modeO G0 1 ≤ 1 := by unfold modeO; split <;> omega
  refine ⟨by rw [h1, h2]; exact ok16, ⟨⟨17, by decide, by decide, ?_⟩, (fun h => by cases h), (fun h => by cases h), (fun h => by cases h), (fun h => by cases h), fun j h6 h7 => by simp [x16] at h7; omega, fun s h6 => by simp [x16] at h6⟩, by omega, by rw [h4]; rfl, by rw [h4]; rfl, by rw [h5]; rfl, hm, (fun h => by cases h), by omega⟩
  refine (wrt_get (f := objF 0 (fun _ => false) G0 1 0) (N := 8) (fun i hi k hk => ?_) (i := 1) (a := 17) (by decide) (by decide)).trans rfl
  simp only [objF, G0]
  omega

set_option maxRecDepth 20000 in
set_option maxHeartbeats 8000000 in
theorem first_any (w : World) : Calls Tryz.prog 6 #[] w fun e w' => e = .returned (.bool true) ∧ Kept w w' := by
  have C0 : Hid (∀ w sx xb, Shps w sx 1 F0 → xb < w.heap.size → w.cell? ⟨xb, 0, none⟩ = some (.int .i64 2) → Calls Tryz.prog 10 #[.agg #[.int .i64 4, .int .i64 0, .int .i64 0, .int .i64 1, .int .i64 1, .int .i64 0, .int .i64 1, .int .i64 0, .slice sx 1 1], .int .i64 0, .slice (some ⟨xb, 0, none⟩) 1 1] w _) := fun w sx xb hS hb hc =>
    object_yes 4 0 0 1 1 0 1 0 sx 1 1 F0 (fun _ _ => false) 0 (L := G0) (c := 1) w hS (fun i hi h => absurd h (by simp [F0])) (by decide) (by decide) (fun _ => ⟨xb, 0, rfl, hb, fun j hj => by
      obtain rfl : j = 0 := by omega
      exact hc⟩) asks_first
  go_enter Tryz.func6, Tryz.ntmps6
  go_wp2_with fail
  generalize hW0 : w.alloc (Obj.cells #[Value.bool false, Value.slice none 0 0] _) = W0
  have S0 : Shps W0 (some ⟨w.heap.size, 0, none⟩) 1 F0 := by
    rw [← hW0]
    exact shps_one ⟨false, none, 0, 0⟩ (by simp) (by simp) (by simp)
  have k0 : Kept w W0 := by rw [← hW0]; exact (Kept.refl w).alloc _ _
  have z0 : W0.heap.size = w.heap.size + 1 := by rw [← hW0]; simp
  clear hW0
  generalize hW1 : W0.alloc _ = W1
  have k1 : Kept W0 W1 := by rw [← hW1]; exact (Kept.refl W0).alloc _ _
  have b1 : Blk W1 (w.heap.size + 1) (cl 4 0 0 1 1 0 1 0 (.slice (some ⟨w.heap.size, 0, none⟩) 1 1)) := by rw [← hW1, ← z0]; exact Blk.new W0 _ _
  have z1 : W1.heap.size = w.heap.size + 1 + 1 := by rw [← hW1]; simp [z0]
  clear hW1
  generalize hW2 : W1.alloc _ = W2
  have k2 : Kept W1 W2 := by rw [← hW2]; exact (Kept.refl W1).alloc _ _
  have d0 : W2.cell? ⟨w.heap.size + 1 + 1, 0, none⟩ = some (.int .i64 2) := by rw [← hW2, ← z1]; simp
  have hlb : w.heap.size + 1 + 1 < W2.heap.size := by rw [← hW2]; simp [z1]
  clear hW2
  have HB : Hid (Kept w W2 ∧ Blk W2 (w.heap.size + 1) (cl 4 0 0 1 1 0 1 0 (.slice (some ⟨w.heap.size, 0, none⟩) 1 1)) ∧ Shps W2 (some ⟨w.heap.size, 0, none⟩) 1 F0) := ⟨(k0.trans k1).trans k2, b1.kept k2, (S0.kept k1).kept k2⟩
  refine (C0.out _ _ _ HB.out.2.2 hlb d0).mono ?_
  rintro e U ⟨v, rfl, hv, K⟩
  have HU : Hid (Kept w U ∧ Blk U (w.heap.size + 1) (cl 4 0 0 1 1 0 1 0 (.slice (some ⟨w.heap.size, 0, none⟩) 1 1)) ∧ Shps U (some ⟨w.heap.size, 0, none⟩) 1 F0) := ⟨HB.out.1.trans K, HB.out.2.1.kept K, HB.out.2.2.kept K⟩
  clear S0 k0 z0 k1 b1 z1 k2 d0 hlb HB C0 K
  obtain ⟨g, dd, rfl, hg1, hg2, hgc⟩ := hv.here (by decide)
  clear hv
  have hcb := HU.out.2.1
  have c0 := hcb.at 0 rfl
  have c1 := hcb.at 1 rfl
  have c2 := hcb.at 2 rfl
  have c3 := hcb.at 3 rfl
  have c4 := hcb.at 4 rfl
  have c5 := hcb.at 5 rfl
  have c6 := hcb.at 6 rfl
  have c7 := hcb.at 7 rfl
  have c8 := hcb.at 8 rfl
  clear hcb
  have CF : Hid (Calls Tryz.prog 12 #[.agg #[.int .i64 4, .int .i64 0, .int .i64 0, .int .i64 1, .int .i64 1, .int .i64 0, .int .i64 1, .int .i64 0, .slice (some ⟨w.heap.size, 0, none⟩) 1 1], .slice none 0 0] U _) := fill_nil 4 0 0 1 1 0 1 0 _ 1 1 F0 32 U HU.out.2.2 (Is.is _ asks_first.zero.1.1) (by decide)
  go_wp2_with fail
  refine CF.out.mono ?_
  rintro e V ⟨b, M, rfl, hM, K4, hb, hMb⟩
  have HV : Hid (Kept U V ∧ Mm V b M 32 (fun _ => cz) 0 ∧ U.heap.size ≤ M ∧ U.heap.size ≤ b) := ⟨K4, hM, hMb, hb⟩
  clear K4 hM hb hMb CF c0 c1 c2 c3 c4 c5 c6 c7 c8
  go_wp2_with fail
  refine (mo_new 4 1 HV.out.1 HV.out.2.1 HV.out.2.2.1 HV.out.2.2.2 (by decide) (by decide) (by decide)).mono ?_
  rintro e W ⟨sb, tb, rfl, HMo⟩
  obtain ⟨fw, hfw⟩ : ∃ fw, fw = objF 0 (fun _ => false) G0 1 0 := ⟨_, rfl⟩
  have HFW : Hid (fw = objF 0 (fun _ => false) G0 1 0) := hfw
  have HI0 : Hid (Mo U W b M 32 sb tb (wrt fw 0) 0 (ShS.new 4 1)) := HMo
  have HWS : Hid (g < W.heap.size ∧ g ≠ M ∧ g ≠ b ∧ ∀ i, i < 8 → W.cell? ⟨g, i * 2, none⟩ = some (.int .i64 (fw i).a) ∧ W.cell? ⟨g, i * 2 + 1, none⟩ = some (.complex .f64 (fw i).z.re (fw i).z.im)) := by
    rw [hfw]
    have h1 := HV.out.2.2
    exact ⟨Nat.lt_of_lt_of_le hg2 HMo.kept.size, by omega, by omega, fun i hi => ⟨(HMo.kept.cell hg2).trans (hgc i hi).1, (HMo.kept.cell hg2).trans (hgc i hi).2⟩⟩
  have HA : Hid (∀ k, k < 8 → ∃ a : Nat, a < 32 ∧ (fw k).a = (a : Int)) := fun k hk => by
    rw [hfw]
    exact ⟨16 + k, by omega, by simp [objF, G0]; omega⟩
  clear hfw HMo HV hg1 hg2 hgc
  go_wp2_with fail
  go_loopg [7] 8 (fun m i wr => ∃ k : Nat, i = .int .i64 k ∧ k ≤ 8 ∧ m = 8 - k ∧ Hid (Mo U wr b M 32 sb tb (wrt fw k) k (ShS.new 4 1) ∧ Mut [M, b] W wr))
  case atStart => exact ⟨0, rfl, by omega, by omega, HI0.out, Mut.refl _ _⟩
  case round =>
    obtain ⟨k, rfl, hk, hm, hw⟩ := hrel
    have HM : Hid _ := hm
    clear hm
    by_cases hlt : k < 8
    · obtain ⟨a, han, hfa⟩ := HA.out k hlt
      have ca : wr.cell? ⟨g, k * 2, none⟩ = some (.int .i64 (a : Int)) := (hw.out.2.cell HWS.out.1 (by have := HWS.out.2.1; have := HWS.out.2.2.1; simp; omega)).trans (by rw [← hfa]; exact (HWS.out.2.2.2 k hlt).1)
      have cb : wr.cell? ⟨g, k * 2 + 1, none⟩ = some (.complex .f64 (fw (k)).z.re (fw (k)).z.im) := (hw.out.2.cell HWS.out.1 (by have := HWS.out.2.1; have := HWS.out.2.2.1; simp; omega)).trans (HWS.out.2.2.2 k hlt).2
      have CW : Hid (Calls Tryz.prog 15 #[.pointer (some ⟨M, 0, none⟩), .int .i64 a, .complex .f64 (fw (k)).z.re (fw (k)).z.im] wr.drew _) := mo_write (G := wrt fw (k + 1)) a (fw (k)).z (hw.out.1.still (Kept.refl _).drew) han (by omega) (fun j _ => wrt_step hfa j)
      have HD : Hid (Mut [M, b] W wr.drew) := hw.out.2.drew
      clear hw
      generalize (fw (k)).z = zz at *
      go_wp2_with fail
      go_region_with (go_at_call 15; refine CW.out.mono ?_; rintro e w2 ⟨rfl, t2, m2⟩; have HR : Hid (Mo U w2 b M 32 sb tb (wrt fw (k + 1)) (k + 1) (ShS.new 4 1) ∧ Mut [M, b] W w2) := ⟨t2, HD.out.trans m2⟩; clear t2 m2)
      all_goals go_wp2
      all_goals go_roundg (8 - (k + 1))
      all_goals (first | (have := HM.out; omega) | (rename_i HR; exact ⟨k + 1, by go_num, by omega, by omega, HR.out⟩))
    · obtain rfl : 8 = k := by omega
      have HW2 : Hid (Mo U wr b M 32 sb tb (wrt fw 8) 8 (ShS.new 4 1)) := hw.out.1
      clear hw HM hk hlt HI0 HA HWS
      obtain ⟨W2, rfl⟩ : ∃ W2, W2 = wr := ⟨_, rfl⟩
      have hcb := HU.out.2.1.kept HW2.out.kept
      have c0 := hcb.at 0 rfl
      have c1 := hcb.at 1 rfl
      have c2 := hcb.at 2 rfl
      have c3 := hcb.at 3 rfl
      have c4 := hcb.at 4 rfl
      have c5 := hcb.at 5 rfl
      have c6 := hcb.at 6 rfl
      have c7 := hcb.at 7 rfl
      have c8 := hcb.at 8 rfl
      clear hcb
      have CN : Hid (Calls Tryz.prog 20 #[.agg #[.int .i64 4, .int .i64 0, .int .i64 0, .int .i64 1, .int .i64 1, .int .i64 0, .int .i64 1, .int .i64 0, .slice (some ⟨w.heap.size, 0, none⟩) 1 1], .int .i64 2, .bool true] W2 _) := tnew_is 4 0 0 1 1 0 1 0 _ 1 1 F0 (fun _ _ => false) 2 true (fun _ => false) W2 (HU.out.2.2.kept HW2.out.kept) (fun i hi h => absurd h (by simp [F0])) asks_first.zero.1.1 (by omega)
      go_wp2_with fail
      refine CN.out.mono ?_
      rintro e W3 ⟨p, E, rfl, ht, hp, hK, hE⟩
      have hrun : Run ⟨U, fun _ => none⟩ p b M 32 sb tb (wrt fw 8) E x16 true (fun _ _ _ => True) 8 0 0 W3 := mo_run HW2.out ht hp hK (by decide) trivial
      have henv : Env E 32 (wrt fw 8) 0 (modeO G0 1) x16 := by rw [HFW.out]; exact env16 hE
      have R0 : Hid (Run ⟨U, fun _ => none⟩ p b M 32 sb tb (wrt fw 8) E x16 true (fun _ _ _ => True) 8 0 0 W3) := hrun
      have CS : Hid (Calls Tryz.prog 22 #[.pointer (some ⟨p, 0, none⟩), .pointer (some ⟨M, 0, none⟩), .pointer (some ⟨sb, 0, none⟩)] W3 _) := run_go henv jok16 W3 hrun (by decide) (by decide) (by decide)
      clear ht hp hK hE hrun henv CN HW2 c0 c1 c2 c3 c4 c5 c6 c7 c8
      go_wp2_with fail
      refine CS.out.mono ?_
      rintro e W4 ⟨rfl, HR⟩
      have HR4 : Hid (Run ⟨U, fun _ => none⟩ p b M 32 sb tb (wrt fw 8) E x16 true (fun _ _ _ => True) 8 0 x16.all W4) := HR
      have e1 : decide (0 + 1 = x16.all) = true := by decide
      rw [e1]
      clear HR CS R0 e1
      go_wp2_with fail
      refine (run_done _ HR4.out).mono ?_
      rintro e W5 ⟨rfl, rfl⟩
      rw [decide_eq_true rfl]
      go_wp2_with fail
      refine (run_errno _ HR4.out).mono ?_
      rintro e W6 ⟨rfl, rfl⟩
      go_wp2_with fail
      refine (run_steps _ HR4.out).mono ?_
      rintro e W7 ⟨rfl, rfl⟩
      have e2 : ((x16.all : Nat) : Int) = 1 := by decide
      rw [e2]
      have HK9 : Hid (Kept w W7) := HU.out.1.trans (run_kept HR4.out)
      clear HR4 e2 HU
      go_wp2
      go_ret
      exact ⟨rfl, HK9.out⟩
end Go.Proofs.YtpdclckgnajcdaaGreat
