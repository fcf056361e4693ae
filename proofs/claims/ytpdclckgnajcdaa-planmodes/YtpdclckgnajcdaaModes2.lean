/-
  The walk of PlanModes: mode 2.
-/
import Derived.Test.YtpdclckgnajcdaaModesA
namespace Go.Proofs.Ytpdclckgnajcdaa
open Go.RowKit

set_option maxRecDepth 20000 in
set_option maxHeartbeats 4000000 in
theorem modes_2 (n0 n1 n2 n3 n4 n5 n6 n7 : Int) (sx : Option Addr) (sl sc : Nat) (S : Nat → Sh) (R : Nat → Nat → Bool) (k : Nat) ( n : Int) (x : Option Addr) (l c : Nat) (L : Nat → Int) (at' : Int) (w : World) (hS : Shps w sx sl S) (hR : ∀ i, i < sl → Refs w (S i).x (S i).l (R i)) (hc : l ≤ c) (hx : Rdf w x l L) (hk : k < sl) (hZ : (S k).l ≤ 140737488351232) (hm : Small sl S) (hab : (S k).arr = true) (hl : l ≤ 200) (hr : Asks (AG n0 n1 n2 n3 n4 n5 n6 n7 sl S L l) (AK sl S k true) (AI S k n true) (AF S k n true L l) 0) (hmo : modeA n L l = 2) :
    Calls Try.prog 5 #[.agg #[.int .i64 n0, .int .i64 n1, .int .i64 n2, .int .i64 n3, .int .i64 n4, .int .i64 n5, .int .i64 n6, .int .i64 n7, .slice sx sl sc], .int .i64 k, .int .i64 n, .slice x l c, .int .i64 at'] w fun e w' => e = .returned (.bool true) ∧ Kept w w' := by
  have CF : Hid (∀ w', Kept w w' → Calls Try.prog 11 #[.agg #[.int .i64 n0, .int .i64 n1, .int .i64 n2, .int .i64 n3, .int .i64 n4, .int .i64 n5, .int .i64 n6, .int .i64 n7, .slice sx sl sc]] w' _) := fun w' k => few_any n0 n1 n2 n3 n4 n5 n6 n7 sx sl sc S true w' (hS.kept k) ⟨fun _ => hm, fun _ => rfl⟩
  have CS : Hid (∀ w', Kept w w' → Calls Try.prog 18 #[.agg #[.int .i64 n0, .int .i64 n1, .int .i64 n2, .int .i64 n3, .int .i64 n4, .int .i64 n5, .int .i64 n6, .int .i64 n7, .slice sx sl sc], .int .i64 k] w' _) := fun w' q => shape_in n0 n1 n2 n3 n4 n5 n6 n7 sx sl sc S (R k) k w' hk hZ (hS.kept q) ((hR k hk).kept q)
  obtain ⟨fl, hfe⟩ : ∃ fl, (S k).l = fl := ⟨_, rfl⟩
  obtain ⟨ab, hae⟩ : ∃ ab, (S k).arr = ab := ⟨_, rfl⟩
  have HFL : Hid ((S k).arr = ab ∧ (S k).l = fl) := ⟨hae, hfe⟩
  obtain rfl : ab = true := by rw [← hae, hab]
  have CA : Hid (∀ w', Kept w w' → Calls Try.prog 14 #[.agg #[.int .i64 n0, .int .i64 n1, .int .i64 n2, .int .i64 n3, .int .i64 n4, .int .i64 n5, .int .i64 n6, .int .i64 n7, .slice sx sl sc], .int .i64 k, .int .i64 n, .slice x l c, .int .i64 at'] w' _) := fun w' q => array_yes n0 n1 n2 n3 n4 n5 n6 n7 sx sl sc S R k n (c := c) at' w' (hS.kept q) (fun i hi => (hR i hi).kept q) (by omega) hc (hx.kept q) hr (fun h => by rw [hmo] at h; cases h)
  obtain ⟨f, hf⟩ : ∃ f, arrF k n (modeA n L l) (R (k : Int).toNat) L l at' = f := ⟨_, rfl⟩
  rw [hf] at CA
  have hz := hr.zero
  have hn5 : 0 ≤ n ∧ n ≤ 512 := by
    have := hz.2.2.1
    unfold AI at this
    simp only [sizeU, arrSize, if_true] at this
    split at this <;> omega
  have hld : (l : Int) = 1 + dat n := by
    have := hz.2.2.2.1
    simp only [sizeU, arrSize, if_true] at this
    rw [if_neg (by omega)] at this
    exact this
  have hdl := dat_lo n
  have hdh := dat_hi n
  have hg := hz.1
  have hkd : 0 ≤ (k : Int) ∧ (k : Int) ≤ 8 := ⟨by omega, by have := hg.1.2.2.1; omega⟩
  have CD : Hid (∀ w, Calls Try.prog 21 #[.int .i64 n] w _) := fun w => data_any n w
  obtain ⟨dn, hdn⟩ : ∃ dn, dat n = dn := ⟨_, rfl⟩
  rw [hdn] at CD
  obtain ⟨F, hFd⟩ : ∃ F, sentW k n 2 L l at' = F := ⟨_, rfl⟩
  have hfz : ∀ i, i < 8 → (f i).z = F i := fun i hi => by
    have e0 : i / 8 = 0 := by omega
    have e1 : i % 8 = i := by omega
    rw [← hf, ← hFd, hmo]
    unfold arrF
    rw [if_pos (by omega)]
    simp only [e0, e1, arrW, if_true]
  have HFZ : Hid (∀ i, i < 8 → (f i).z = F i) := hfz
  have HFD : Hid (sentW k n 2 L l at' = F) := hFd
  obtain ⟨T, hT⟩ : ∃ T, 8 * l + spN n L l = T := ⟨_, rfl⟩
  rw [hT] at CA
  have hspn : spN n L l = 0 := by unfold spN; rw [hmo]; rfl
  have hT8 : ¬ (T : Int) < 8 := by omega
  have hl1 : 1 ≤ l := by omega
  have hl65 : l ≤ 65 := by omega
  have hT3 : T ≤ 2000 := by omega
  have hl0 : ((l : Int) == 0) = false := by simp; omega
  have HT : Hid (8 * l + 0 = T) := by rw [← hspn]; exact hT
  have HX : Hid (Rdf w x l L) := hx
  have HLL : Hid (∀ j, j < l → 0 ≤ L j ∧ L j ≤ 1024) := fun j hj => by have := hg.2 j hj; have := hg.1.1.1.2; omega
  have hd4 : dn > 4 := by
    unfold modeA at hmo
    split at hmo
    · cases hmo
    · omega
  have hsd : sideU L l = true := by
    unfold modeA at hmo
    split at hmo
    · cases hmo
    · split at hmo
      · assumption
      · cases hmo
  have HSD : Hid (sideU L l = true) := hsd
  have hl5 : 5 ≤ l := by omega
  clear hsd
  clear hS hR hk hm hZ hab hfe hae hr hz hg hld hdl hdh hdn hf hFd hfz hT hspn hmo hx
  go_enter Try.func5, Try.ntmps5
  go_wp2_with fail
  generalize hW1 : w.alloc _ = W1
  have HW1 : Hid (Kept w W1 ∧ Blk W1 w.heap.size (cl n0 n1 n2 n3 n4 n5 n6 n7 (.slice sx sl sc))) := by rw [← hW1]; exact ⟨(Kept.refl w).alloc _ _, Blk.new w _ _⟩
  clear hW1
  refine (first_any _).mono ?_
  rintro e u1 ⟨rfl, K⟩
  have HW : Hid (Kept w u1 ∧ Blk u1 w.heap.size (cl n0 n1 n2 n3 n4 n5 n6 n7 (.slice sx sl sc))) := ⟨HW1.out.1.trans K, HW1.out.2.kept K⟩
  clear HW1 K
  have c0 := HW.out.2.at 0 rfl
  have c1 := HW.out.2.at 1 rfl
  have c2 := HW.out.2.at 2 rfl
  have c3 := HW.out.2.at 3 rfl
  have c4 := HW.out.2.at 4 rfl
  have c5 := HW.out.2.at 5 rfl
  have c6 := HW.out.2.at 6 rfl
  have c7 := HW.out.2.at 7 rfl
  have c8 := HW.out.2.at 8 rfl
  go_wp2_with fail
  refine (CS.out _ HW.out.1).mono ?_
  rintro e u4 ⟨rg, rfl, _, _, K⟩
  have HV : Hid (Kept w u4 ∧ Blk u4 w.heap.size (cl n0 n1 n2 n3 n4 n5 n6 n7 (.slice sx sl sc))) := ⟨HW.out.1.trans K, HW.out.2.kept K⟩
  clear HW K c0 c1 c2 c3 c4 c5 c6 c7 c8 CS
  rw [HFL.out.1, HFL.out.2]
  go_upto_region 4 with fail
  generalize hW3 : u4.alloc _ = W3
  have HW : Hid (Kept w W3 ∧ Blk W3 w.heap.size (cl n0 n1 n2 n3 n4 n5 n6 n7 (.slice sx sl sc)) ∧ Blk W3 u4.heap.size [.bool true, .slice (some ⟨rg, 0, none⟩) fl fl]) := by rw [← hW3]; exact ⟨HV.out.1.alloc _ _, HV.out.2.kept ((Kept.refl _).alloc _ _), Blk.new u4 [_, _] _⟩
  clear HV hW3
  have c0 := HW.out.2.1.at 0 rfl
  have c1 := HW.out.2.1.at 1 rfl
  have c2 := HW.out.2.1.at 2 rfl
  have c3 := HW.out.2.1.at 3 rfl
  have c4 := HW.out.2.1.at 4 rfl
  have c5 := HW.out.2.1.at 5 rfl
  have c6 := HW.out.2.1.at 6 rfl
  have c7 := HW.out.2.1.at 7 rfl
  have c8 := HW.out.2.1.at 8 rfl
  go_wp2_with fail
  refine (CF.out _ HW.out.1).mono ?_
  rintro e u5 ⟨rfl, K⟩
  have HV : Hid (Kept w u5 ∧ Blk u5 w.heap.size (cl n0 n1 n2 n3 n4 n5 n6 n7 (.slice sx sl sc)) ∧ Blk u5 u4.heap.size [.bool true, .slice (some ⟨rg, 0, none⟩) fl fl]) := ⟨HW.out.1.trans K, HW.out.2.1.kept K, HW.out.2.2.kept K⟩
  clear HW K c0 c1 c2 c3 c4 c5 c6 c7 c8 CF
  have s0 := HV.out.2.2.at 0 rfl
  have hl2 : ¬ (l : Int) > 200 := by omega
  have c0 := HV.out.2.1.at 0 rfl
  have c1 := HV.out.2.1.at 1 rfl
  have c2 := HV.out.2.1.at 2 rfl
  have c3 := HV.out.2.1.at 3 rfl
  have c4 := HV.out.2.1.at 4 rfl
  have c5 := HV.out.2.1.at 5 rfl
  have c6 := HV.out.2.1.at 6 rfl
  have c7 := HV.out.2.1.at 7 rfl
  have c8 := HV.out.2.1.at 8 rfl
  go_wp2_with fail
  refine (CA.out _ HV.out.1).mono ?_
  rintro e u6 ⟨v, rfl, hv, K⟩
  obtain ⟨g, d, rfl, _, hgl, hcells⟩ := hv.here (by omega)
  obtain ⟨xb, xo, rfl, hxb, hxc⟩ := HX.out (by omega)
  have KK := HV.out.1.trans K
  have HO : Hid (Mow w u6 g l xb xo L F) := ⟨KK, ⟨Nat.lt_of_lt_of_le hxb KK.size, fun j hj => (KK.cell hxb).trans (hxc j hj)⟩, ⟨hgl, fun i hi => by rw [← HFZ.out i hi]; exact (hcells i (by omega)).2⟩⟩
  clear HV K s0 c0 c1 c2 c3 c4 c5 c6 c7 c8 CA hv hgl hcells hxb hxc KK HX HFZ
  go_wp2_with fail
  refine (CD.out _).mono ?_
  rintro e u7 ⟨rfl, rfl⟩
  go_wp2_with fail
  go_loopg [17, 18] (l - 1) (fun mm v j wr => ∃ (i : Nat) (q : Bool), j = .int .i64 i ∧ v = .bool q ∧ 1 ≤ i ∧ i ≤ l ∧ mm = l - i ∧ Hid (q = true ↔ ∀ j, j < i → L j = L 0 + j) ∧ Hid (Mow w wr g l xb xo L F))
  case atStart => exact ⟨1, true, rfl, rfl, by omega, by omega, by omega, iff_t (fun j hj => by
    obtain rfl : j = 0 := by omega
    simp), HO⟩
  case round =>
    obtain ⟨i, q, rfl, rfl, hi1, hi2, hmm, HQ, hw⟩ := hrel
    have HMM : Hid _ := hmm
    clear hmm HO
    by_cases hlt : i < l
    · have hx := hw.out.got.1
      have b1 := hw.out.got.2 i hlt
      have b0 : wr.cell? ⟨xb, xo, none⟩ = some (.int .i64 (L 0)) := hw.out.got.2 0 (by omega)
      have p0 := HLL.out 0 (by omega)
      have p1 := HLL.out i hlt
      have HY : Hid (q = true → L i = L 0 + i → ∀ j, j < i + 1 → L j = L 0 + j) := fun h1 h2 j hj => by
        rcases Nat.lt_succ_iff_lt_or_eq.1 hj with h | rfl
        · exact HQ.out.1 h1 j h
        · exact h2
      have HN2 : Hid ((∀ j, j < i + 1 → L j = L 0 + j) → q = true ∧ L i = L 0 + i) := fun h => ⟨HQ.out.2 fun j hj => h j (by omega), h i (by omega)⟩
      clear HQ
      generalize L 0 = v0 at *
      generalize L i = v1 at *
      have d0 := fun z : KW wr => z.cell hx b0
      have d1 := fun z : KW wr => z.cell hx b1
      cases q
      · go_upto_region 19 with fail
        refine wp_region_kept (by kernel_rfl) (by kernel_rfl) fun _ => ?_
        repeat (go_big_quiet_step (fail))
        refine wpQuiet_nil ?_
        rintro _ ⟨z, rfl⟩
        have HN : Hid (Mow w z.it g l xb xo L F) := hw.out.still z.ok
        clear d0 d1 b0 b1 hw
        go_wp2
        go_roundg (l - (i + 1))
        all_goals (have := HMM.out; try omega)
        exact ⟨i + 1, false, by go_num, rfl, by omega, by omega, by omega, iff_f (fun h => by have := (HN2.out h).1; cases this), HN⟩
      · by_cases hE : v1 = v0 + i
        · have e1 : ((v1 : Int) == v0 + (i : Int)) = true := by simpa using hE
          have HE : Hid _ := HY.out rfl hE
          clear hE
          go_upto_region 19 with fail
          refine wp_region_kept (by kernel_rfl) (by kernel_rfl) fun _ => ?_
          repeat (go_big_quiet_step (fail))
          refine wpQuiet_nil ?_
          rintro _ ⟨z, rfl⟩
          have HN : Hid (Mow w z.it g l xb xo L F) := hw.out.still z.ok
          clear d0 d1 b0 b1 hw
          go_wp2
          go_roundg (l - (i + 1))
          all_goals (have := HMM.out; try omega)
          exact ⟨i + 1, true, by go_num, rfl, by omega, by omega, by omega, iff_t HE.out, HN⟩
        · have e1 : ((v1 : Int) == v0 + (i : Int)) = false := by simpa using hE
          have HE : Hid (¬ v1 = v0 + i) := hE
          clear hE
          go_upto_region 19 with fail
          refine wp_region_kept (by kernel_rfl) (by kernel_rfl) fun _ => ?_
          repeat (go_big_quiet_step (fail))
          refine wpQuiet_nil ?_
          rintro _ ⟨z, rfl⟩
          have HN : Hid (Mow w z.it g l xb xo L F) := hw.out.still z.ok
          clear d0 d1 b0 b1 hw
          go_wp2
          go_roundg (l - (i + 1))
          all_goals (have := HMM.out; try omega)
          exact ⟨i + 1, false, by go_num, rfl, by omega, by omega, by omega, iff_f (fun h => HE.out (HN2.out h).2), HN⟩
    · obtain rfl : l = i := by omega
      obtain rfl : q = true := by
        have h1 := HQ.out
        have h2 := HSD.out
        exact h1.2 (sideU_all h2)
      have HO8 : Hid (Mow w wr g l xb xo L F) := hw
      clear hw HQ HMM
      obtain ⟨u8, hu8⟩ : ∃ u8, u8 = wr := ⟨_, rfl⟩
      rw [← hu8] at HO8 ⊢
      clear hu8
      have hgl := HO8.out.wr.1
      have F1 : F 1 = ⟨(floatOfInt .f64 (k : Int)), (floatOfInt .f64 0)⟩ := by rw [← HFD.out]; rfl
      have F2 : F 2 = ⟨(floatOfInt .f64 n), 0⟩ := by rw [← HFD.out]; rfl
      have F3 : F 3 = ⟨(floatOfInt .f64 2), 0⟩ := by rw [← HFD.out]; rfl
      have F4 : F 4 = ⟨(floatOfInt .f64 (L 1 + 1)), 4607182418800017408⟩ := by rw [← HFD.out]; (show refAt L l 1 = _); exact if_pos (by omega)
      have a1 : u8.cell? ⟨g, 3, none⟩ = _ := HO8.out.wr.2 1 (by omega)
      rw [F1] at a1
      have a2 : u8.cell? ⟨g, 5, none⟩ = _ := HO8.out.wr.2 2 (by omega)
      rw [F2] at a2
      have a3 : u8.cell? ⟨g, 7, none⟩ = _ := HO8.out.wr.2 3 (by omega)
      rw [F3] at a3
      have a4 : u8.cell? ⟨g, 9, none⟩ = _ := HO8.out.wr.2 4 (by omega)
      rw [F4] at a4
      clear F1 F2 F3 F4
      have hs1 : L 1 = L 0 + 1 := by have := sideU_all HSD.out 1 (by omega); simpa using this
      have b0 : u8.cell? ⟨xb, xo, none⟩ = some (.int .i64 (L 0)) := HO8.out.got.2 0 (by omega)
      have hx := HO8.out.got.1
      have p0 := HLL.out 0 (by omega)
      have e12 : L 1 + 1 = L 0 + 2 := by omega
      rw [e12] at a4
      clear hs1 e12
      have z0 : floatOfInt .f64 0 = 0 := fi_zero
      rw [z0] at a1
      clear z0
      generalize L 0 = v0 at *
      obtain ⟨v2, hv2⟩ : ∃ v2, v0 + 2 = v2 := ⟨_, rfl⟩
      rw [hv2] at a4
      have CW1 : Hid (∀ w, Calls Try.prog 22 #[.complex .f64 (floatOfInt .f64 (k : Int)) 0, .complex .f64 (floatOfInt .f64 (k : Int)) 0] w _) := fun w => word_is _ _ _ _ true (nn_fi _) nn_zero (nn_fi _) nn_zero (by simp) w
      have d1 := fun z : KW u8 => z.cell hgl a1
      have CW2 : Hid (∀ w, Calls Try.prog 22 #[.complex .f64 (floatOfInt .f64 n) 0, .complex .f64 (floatOfInt .f64 n) 0] w _) := fun w => word_is _ _ _ _ true (nn_fi _) nn_zero (nn_fi _) nn_zero (by simp) w
      have d2 := fun z : KW u8 => z.cell hgl a2
      have CW3 : Hid (∀ w, Calls Try.prog 22 #[.complex .f64 (floatOfInt .f64 2) 0, .complex .f64 (floatOfInt .f64 2) 0] w _) := fun w => word_is _ _ _ _ true (nn_fi _) nn_zero (nn_fi _) nn_zero (by simp) w
      have d3 := fun z : KW u8 => z.cell hgl a3
      have CW4 : Hid (∀ w, Calls Try.prog 22 #[.complex .f64 (floatOfInt .f64 v2) 4607182418800017408, .complex .f64 (floatOfInt .f64 v2) 4607182418800017408] w _) := fun w => word_is _ _ _ _ true (nn_fi _) nn_one (nn_fi _) nn_one (by simp) w
      have d4 := fun z : KW u8 => z.cell hgl a4
      have db := fun z : KW u8 => z.cell hx b0
      have eT : ¬ (T : Int) > 8 * (l : Int) := by have := HT.out; omega
      have eT2 : decide ((T : Int) > 8 * (l : Int)) = false := by simpa using eT
      have eT3 : decide (8 * (l : Int) < (T : Int)) = false := by simpa using eT
      go_upto_region 22 with fail
      refine wp_region_kept (by kernel_rfl) (by kernel_rfl) fun _ => ?_
      simp only [List.append_eq, List.cons_append, List.nil_append]
      repeat (go_big_quiet_step (first | (go_at_call 10; exact kept_of (first_any _)) | (go_at_call_of 22 (#[Value.complex .f64 (floatOfInt .f64 (k : Int)) 0, Value.complex .f64 (floatOfInt .f64 (k : Int)) 0]); exact kept_of_same (CW1.out _)) | (go_at_call_of 22 (#[Value.complex .f64 (floatOfInt .f64 n) 0, Value.complex .f64 (floatOfInt .f64 n) 0]); exact kept_of_same (CW2.out _)) | (go_at_call_of 22 (#[Value.complex .f64 (floatOfInt .f64 2) 0, Value.complex .f64 (floatOfInt .f64 2) 0]); exact kept_of_same (CW3.out _)) | (go_at_call_of 22 (#[Value.complex .f64 (floatOfInt .f64 v2) 4607182418800017408, Value.complex .f64 (floatOfInt .f64 v2) 4607182418800017408]); exact kept_of_same (CW4.out _))))
      refine wpQuiet_nil ?_
      rintro _ ⟨z, rfl⟩
      have HK : Hid (Kept w z.it) := HO8.out.kept.trans z.ok
      clear HO8 d1 a1 d2 a2 d3 a3 d4 a4 db b0
      go_wp2
      go_ret
      exact ⟨by simp, HK.out⟩
end Go.Proofs.Ytpdclckgnajcdaa
