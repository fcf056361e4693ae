/-
  The ways of FindEach: of an array.
-/
import Derived.Test.YtpdclckgnajcdaaMj13
import Derived.Test.YtpdclckgnajcdaaEachA
namespace Go.Proofs.Ytpdclckgnajcdaa
open Go.RowKit

set_option maxRecDepth 20000 in
set_option maxHeartbeats 8000000 in
theorem each_arr_yes (n0 n1 n2 n3 n4 n5 n6 n7 : Int) (sx : Option Addr) (sl sc : Nat) (S : Nat → Sh) (R : Nat → Nat → Bool) (k : Nat) (n : Int) (x : Option Addr) (l c : Nat) (L : Nat → Int) (at' : Int) (w : World) (hS : Shps w sx sl S) (hR : ∀ i, i < sl → Refs w (S i).x (S i).l (R i)) (hk : k < sl) (hZ : (S k).l ≤ 140737488351232) (hm : Small sl S) (hl : l ≤ 200) (hab : (S k).arr = true) (r0 : Int) (CO : ∀ w', Kept w w' → Calls Try.prog 12 #[.agg #[.int .i64 n0, .int .i64 n1, .int .i64 n2, .int .i64 n3, .int .i64 n4, .int .i64 n5, .int .i64 n6, .int .i64 n7, .slice sx sl sc], .int .i64 k, .slice x l c] w' fun e w'' => e = .returned (.tuple #[.slice none 0 0, .int .i64 r0]) ∧ Kept w' w'')
    (N : Nat) (fw : Nat → Wr) (CA : ∀ w', Kept w w' → Calls Try.prog 14 #[.agg #[.int .i64 n0, .int .i64 n1, .int .i64 n2, .int .i64 n3, .int .i64 n4, .int .i64 n5, .int .i64 n6, .int .i64 n7, .slice sx sl sc], .int .i64 k, .int .i64 n, .slice x l c, .int .i64 at'] w' fun e w'' => ∃ v, e = .returned (.tuple #[v, .int .i64 0]) ∧ Ws w'' w'.heap.size v N fw ∧ Kept w' w'') (hN0 : 0 < N) (hN : N ≤ 2000) (hg : Good n0 n1 n2 n3 n4 n5 n6 n7 sl S) (n' : Nat) (hn' : (n' : Int) = 8 * n0 + 2 * n1 + n2) (hA : ∀ i, i < N → ∃ a : Nat, a < n' ∧ (fw i).a = (a : Int))
    (hx : Rdf w x l L) (hl0 : 0 < l) (hL0 : 0 ≤ L 0 ∧ L 0 < n0) (mn : Nat) (hmn : (n : Int) = mn) (hmb : mn ≤ 512) (hli : ∀ j, j < mn → 1 + j / 8 < l) (AD : Nat → Nat) (hAD : ∀ j, j < mn → (AD j : Int) = L (1 + j / 8) * 8 + ((j % 8 : Nat) : Int)) (hinj : ∀ i j, i < j → j < mn → AD i ≠ AD j)
    (hgo : ∀ t, t ≤ mn + 1 → ∀ p E, Began n0 n1 sl S R E → ∃ T St, Told p E n' (wrt fw N) mn AD (fun _ => R k 0) (fd0 (L 0) ((t : Int) - 1) true) t (fun _ => 5) T St) :
    Calls Try.prog 7 #[.agg #[.int .i64 n0, .int .i64 n1, .int .i64 n2, .int .i64 n3, .int .i64 n4, .int .i64 n5, .int .i64 n6, .int .i64 n7, .slice sx sl sc], .int .i64 k, .int .i64 n, .slice x l c, .int .i64 at'] w fun e w' => e = .returned (.bool true) ∧ Kept w w' := by
  have hnb : n' ≤ 100000 := by
    have hf := hg.1
    unfold Fits at hf
    omega
  have CF : Hid (∀ w', Kept w w' → Calls Try.prog 11 #[.agg #[.int .i64 n0, .int .i64 n1, .int .i64 n2, .int .i64 n3, .int .i64 n4, .int .i64 n5, .int .i64 n6, .int .i64 n7, .slice sx sl sc]] w' _) := fun w' k => few_any n0 n1 n2 n3 n4 n5 n6 n7 sx sl sc S true w' (hS.kept k) ⟨fun _ => hm, fun _ => rfl⟩
  have CS : Hid (∀ w', Kept w w' → Calls Try.prog 18 #[.agg #[.int .i64 n0, .int .i64 n1, .int .i64 n2, .int .i64 n3, .int .i64 n4, .int .i64 n5, .int .i64 n6, .int .i64 n7, .slice sx sl sc], .int .i64 k] w' _) := fun w' q => shape_in n0 n1 n2 n3 n4 n5 n6 n7 sx sl sc S (R k) k w' hk hZ (hS.kept q) ((hR k hk).kept q)
  obtain ⟨fl, hfe⟩ : ∃ fl, (S k).l = fl := ⟨_, rfl⟩
  obtain ⟨ab, hae⟩ : ∃ ab, (S k).arr = ab := ⟨_, rfl⟩
  have HFL : Hid ((S k).arr = ab ∧ (S k).l = fl) := ⟨hae, hfe⟩
  obtain rfl : ab = true := by rw [← hae, hab]
  have CO : Hid (∀ w', Kept w w' → _) := CO
  have CA : Hid (∀ w', Kept w w' → _) := CA
  have CL : Hid (∀ w', Kept w w' → Calls Try.prog 25 #[.agg #[.int .i64 n0, .int .i64 n1, .int .i64 n2, .int .i64 n3, .int .i64 n4, .int .i64 n5, .int .i64 n6, .int .i64 n7, .slice sx sl sc], .slice none 0 0] w' _) := fun w' q => fill_nil n0 n1 n2 n3 n4 n5 n6 n7 sx sl sc S n' w' (hS.kept q) (by rw [hn']; exact Is.is _ hg) hnb
  have HSR : Hid (Shps w sx sl S ∧ (∀ i, i < sl → Refs w (S i).x (S i).l (R i)) ∧ Good n0 n1 n2 n3 n4 n5 n6 n7 sl S ∧ 0 ≤ L 0 ∧ L 0 < n0) := ⟨hS, hR, hg, hL0.1, hL0.2⟩
  have HA : Hid (∀ i, i < N → ∃ a : Nat, a < n' ∧ (fw i).a = (a : Int)) := hA
  obtain ⟨xb, xo, rfl, hxb, hxc⟩ := hx hl0
  have HX : Hid (xb < w.heap.size ∧ ∀ j, j < l → w.cell? ⟨xb, xo + j, none⟩ = some (.int .i64 (L j))) := ⟨hxb, hxc⟩
  obtain ⟨cc, rfl⟩ : ∃ cc, cc = c := ⟨_, rfl⟩
  have HGO0 : Hid (∀ t, t ≤ mn + 1 → ∀ p E, Began n0 n1 sl S R E → ∃ T St, Told p E n' (wrt fw N) mn AD (fun _ => R k 0) (fd0 (L 0) ((t : Int) - 1) true) t (fun _ => 5) T St) := hgo
  have h40 : fl ≤ 40 := by rw [← hfe]; exact may_few (hg.2.2.2 k hk)
  have HFR : Hid (∀ j, j < mn → 1 + j / 8 < l) := hli
  have HAD : Hid ((∀ j, j < mn → (AD j : Int) = L (1 + j / 8) * 8 + ((j % 8 : Nat) : Int)) ∧ ∀ i j, i < j → j < mn → AD i ≠ AD j) := ⟨hAD, hinj⟩
  have CWD : Hid (∀ w', Kept w w' → Calls Try.prog 28 #[.agg #[.int .i64 n0, .int .i64 n1, .int .i64 n2, .int .i64 n3, .int .i64 n4, .int .i64 n5, .int .i64 n6, .int .i64 n7, .slice sx sl sc]] w' _) := fun w' q => ref_words n0 n1 n2 n3 n4 n5 n6 n7 sx sl sc S (n' : Int) w' (hS.kept q) (by rw [hn']; exact Is.is _ hg)
  obtain rfl : fl = 1 := by rw [← hfe]; exact (may_len (hg.2.2.2 k hk)).2 hab
  obtain rfl : n = (mn : Int) := hmn
  clear hgo hli hAD hinj
  clear hS hR hk hm hZ hab hfe hae hg hn' hA hx hxb hxc hL0
  go_enter Try.func7, Try.ntmps7
  go_wp2_with fail
  generalize hW1 : w.alloc _ = W1
  have HW1 : Hid (Kept w W1 ∧ Blk W1 w.heap.size (cl n0 n1 n2 n3 n4 n5 n6 n7 (.slice sx sl sc))) := by rw [← hW1]; exact ⟨(Kept.refl w).alloc _ _, Blk.new w _ _⟩
  clear hW1
  refine (first_any _).mono ?_
  rintro e u1 ⟨rfl, K⟩
  have HW : Hid (Kept w u1 ∧ Blk u1 w.heap.size (cl n0 n1 n2 n3 n4 n5 n6 n7 (.slice sx sl sc))) := ⟨HW1.out.1.trans K, HW1.out.2.kept K⟩
  clear HW1 K
  have c0 := HW.out.2.at 0 rfl
  have c1 := HW.out.2.at 1 rfl
  have c2 := HW.out.2.at 2 rfl
  have c3 := HW.out.2.at 3 rfl
  have c4 := HW.out.2.at 4 rfl
  have c5 := HW.out.2.at 5 rfl
  have c6 := HW.out.2.at 6 rfl
  have c7 := HW.out.2.at 7 rfl
  have c8 := HW.out.2.at 8 rfl
  go_wp2_with fail
  refine (CS.out _ HW.out.1).mono ?_
  rintro e u4 ⟨rg, rfl, hrg, hRR, K⟩
  rw [HFL.out.2] at hRR
  have HV : Hid (Kept w u4 ∧ Blk u4 w.heap.size (cl n0 n1 n2 n3 n4 n5 n6 n7 (.slice sx sl sc)) ∧ Refs u4 (some ⟨rg, 0, none⟩) 1 (R k)) := ⟨HW.out.1.trans K, HW.out.2.kept K, hRR⟩
  clear HW K c0 c1 c2 c3 c4 c5 c6 c7 c8 CS hrg hRR
  rw [HFL.out.1, HFL.out.2]
  go_upto_region 4 with fail
  generalize hW3 : u4.alloc _ = W3
  have HW : Hid (Kept w W3 ∧ Blk W3 w.heap.size (cl n0 n1 n2 n3 n4 n5 n6 n7 (.slice sx sl sc)) ∧ Blk W3 u4.heap.size [.bool true, .slice (some ⟨rg, 0, none⟩) 1 1] ∧ Refs W3 (some ⟨rg, 0, none⟩) 1 (R k)) := by rw [← hW3]; exact ⟨HV.out.1.alloc _ _, HV.out.2.1.kept ((Kept.refl _).alloc _ _), Blk.new u4 [_, _] _, HV.out.2.2.kept ((Kept.refl _).alloc _ _)⟩
  clear HV hW3
  generalize u4.heap.size = sb at *
  have c0 := HW.out.2.1.at 0 rfl
  have c1 := HW.out.2.1.at 1 rfl
  have c2 := HW.out.2.1.at 2 rfl
  have c3 := HW.out.2.1.at 3 rfl
  have c4 := HW.out.2.1.at 4 rfl
  have c5 := HW.out.2.1.at 5 rfl
  have c6 := HW.out.2.1.at 6 rfl
  have c7 := HW.out.2.1.at 7 rfl
  have c8 := HW.out.2.1.at 8 rfl
  go_wp2_with fail
  refine (CF.out _ HW.out.1).mono ?_
  rintro e u5 ⟨rfl, K⟩
  have HK : Hid (Kept w u5 ∧ Blk u5 w.heap.size (cl n0 n1 n2 n3 n4 n5 n6 n7 (.slice sx sl sc)) ∧ Blk u5 sb [.bool true, .slice (some ⟨rg, 0, none⟩) 1 1] ∧ Refs u5 (some ⟨rg, 0, none⟩) 1 (R k)) := ⟨HW.out.1.trans K, HW.out.2.1.kept K, HW.out.2.2.1.kept K, HW.out.2.2.2.kept K⟩
  clear HW K c0 c1 c2 c3 c4 c5 c6 c7 c8 CF
  have s0 := HK.out.2.2.1.at 0 rfl
  have hl2 : ¬ (l : Int) > 200 := by omega
  have hcb := HK.out.2.1
  have c0 := hcb.at 0 rfl
  have c1 := hcb.at 1 rfl
  have c2 := hcb.at 2 rfl
  have c3 := hcb.at 3 rfl
  have c4 := hcb.at 4 rfl
  have c5 := hcb.at 5 rfl
  have c6 := hcb.at 6 rfl
  have c7 := hcb.at 7 rfl
  have c8 := hcb.at 8 rfl
  clear hcb
  go_wp2_with fail
  refine (CO.out _ HK.out.1).mono ?_
  rintro e u6 ⟨rfl, K⟩
  have HK6 : Hid (Kept w u6 ∧ Blk u6 w.heap.size (cl n0 n1 n2 n3 n4 n5 n6 n7 (.slice sx sl sc)) ∧ Blk u6 sb [.bool true, .slice (some ⟨rg, 0, none⟩) 1 1] ∧ Refs u6 (some ⟨rg, 0, none⟩) 1 (R k)) := ⟨HK.out.1.trans K, HK.out.2.1.kept K, HK.out.2.2.1.kept K, HK.out.2.2.2.kept K⟩
  clear HK K c0 c1 c2 c3 c4 c5 c6 c7 c8 s0 CO
  have hcb := HK6.out.2.1
  have c0 := hcb.at 0 rfl
  have c1 := hcb.at 1 rfl
  have c2 := hcb.at 2 rfl
  have c3 := hcb.at 3 rfl
  have c4 := hcb.at 4 rfl
  have c5 := hcb.at 5 rfl
  have c6 := hcb.at 6 rfl
  have c7 := hcb.at 7 rfl
  have c8 := hcb.at 8 rfl
  have s0 := HK6.out.2.2.1.at 0 rfl
  have s1 := HK6.out.2.2.1.at 1 rfl
  clear hcb
  go_wp2_with fail
  refine (CA.out _ HK6.out.1).mono ?_
  rintro e u7 ⟨v, rfl, hv, K⟩
  have HK7 : Hid (Kept w u7 ∧ Blk u7 w.heap.size (cl n0 n1 n2 n3 n4 n5 n6 n7 (.slice sx sl sc)) ∧ Blk u7 sb [.bool true, .slice (some ⟨rg, 0, none⟩) 1 1] ∧ Refs u7 (some ⟨rg, 0, none⟩) 1 (R k)) := ⟨HK6.out.1.trans K, HK6.out.2.1.kept K, HK6.out.2.2.1.kept K, HK6.out.2.2.2.kept K⟩
  clear HK6 K c0 c1 c2 c3 c4 c5 c6 c7 c8 s0 s1 CA
  have hcb := HK7.out.2.1
  have c0 := hcb.at 0 rfl
  have c1 := hcb.at 1 rfl
  have c2 := hcb.at 2 rfl
  have c3 := hcb.at 3 rfl
  have c4 := hcb.at 4 rfl
  have c5 := hcb.at 5 rfl
  have c6 := hcb.at 6 rfl
  have c7 := hcb.at 7 rfl
  have c8 := hcb.at 8 rfl
  have s0 := HK7.out.2.2.1.at 0 rfl
  have s1 := HK7.out.2.2.1.at 1 rfl
  clear hcb
  obtain ⟨g, dd, rfl, hg1, hg2, hgc⟩ := hv.here hN0
  clear hv
  go_wp2_with fail
  refine (CL.out _ HK7.out.1).mono ?_
  rintro e W ⟨b, M, rfl, hM, K8, hb8, hM8⟩
  have HMM : Hid (Mm W b M n' (fun _ => cz) 0) := hM
  have HWS : Hid (g < W.heap.size ∧ g ≠ M ∧ g ≠ b ∧ ∀ i, i < N → W.cell? ⟨g, i * 2, none⟩ = some (.int .i64 (fw i).a) ∧ W.cell? ⟨g, i * 2 + 1, none⟩ = some (.complex .f64 (fw i).z.re (fw i).z.im)) :=
    ⟨by have := K8.size; omega, by omega, by omega, fun i hi => ⟨(K8.cell hg2).trans (hgc i hi).1, (K8.cell hg2).trans (hgc i hi).2⟩⟩
  have HKU : Hid (Kept w u7 ∧ Blk u7 w.heap.size (cl n0 n1 n2 n3 n4 n5 n6 n7 (.slice sx sl sc)) ∧ Blk u7 sb [.bool true, .slice (some ⟨rg, 0, none⟩) 1 1] ∧ Refs u7 (some ⟨rg, 0, none⟩) 1 (R k) ∧ Kept u7 W ∧ u7.heap.size ≤ b ∧ u7.heap.size ≤ M) := ⟨HK7.out.1, HK7.out.2.1, HK7.out.2.2.1, HK7.out.2.2.2, K8, hb8, hM8⟩
  have hlz : ((l : Int) == 0) = false := by simp; omega
  clear HK7 hM K8 hb8 hM8 hg1 hg2 hgc CL c0 c1 c2 c3 c4 c5 c6 c7 c8 s0 s1
  go_wp2_with fail
  go_loopg [17] N (fun m i wr => ∃ k : Nat, i = .int .i64 k ∧ k ≤ N ∧ m = N - k ∧ Hid (Mut [M, b] W wr ∧ Mm wr b M n' (wrt fw k) k))
  case atStart => exact ⟨0, rfl, by omega, by omega, Mut.refl _ _, HMM.out⟩
  case round =>
    obtain ⟨k, rfl, hk, hm, hw⟩ := hrel
    have HM : Hid _ := hm
    clear hm
    by_cases hlt : k < N
    · obtain ⟨a, han, hfa⟩ := HA.out k hlt
      go_wp2_with fail
      refine wp_region_phase [(.pointer (some ⟨M, 0, none⟩)), (.slice (some ⟨g, 0, none⟩) N dd), (.int .i64 (k : Int)), (.pointer (some ⟨g, k * 2, none⟩)), (.pointer (some ⟨g, k * 2, none⟩)), (.int .i64 (a : Int)), (.slice (some ⟨g, 0, none⟩) N dd), (.int .i64 (k : Int)), (.pointer (some ⟨g, k * 2, none⟩)), (.pointer (some ⟨g, k * 2 + 1, none⟩)), (.complex .f64 (fw k).z.re (fw k).z.im), (.int .i64 0)] [(93, 0), (94, 1), (95, 2), (96, 3), (97, 4), (98, 5), (99, 6), (100, 7), (101, 8), (102, 9), (103, 10), (104, 11)] [_, _, _, _, _, _, _, _, _, _, _, _, _, _, _, _, _, _, _, _, _, _, _, _, _, _, _, _, _, _, _, _, _, _, _, _, _, _, _, _, _, _, _, _, _, _, _, _, _, _, _, _, _, _, _, _, _, _, _, _, _, _, _, _, _, _, _, _, _, _, _, _, _, _, _, _, _, _, _, _, _, _, _, _, _, _, _, _, _, _, _, _, _, _, _, _, _, _, _, _, _, _, _, _, _, _, _, _, _, _, _, _, _, _, _, _, _, _, _, _, _, _, _, _, _, _, _, _, _, _, _, _, _, _, _, _, _, _, _, _, _, _, _, _, _, _, _, _, _, _, _, _, _, _, _, _, _, _, _, _, _, _, _, _, _, _, _, _, _, _, _, _, _, _, _, _, _, _, _, _, _, _, _, _, _, _, _, _, _, _, _, _, _, _, _, _, _, _, _, _, _, _, _, _, _, _, _, _, _, _, _, _, _, _, _, _, _, _, _, _, _, _, _, _, _, _, _, _, _, _, _, _, _, _, _, _, _, _, _, _, _, _, _, _, _, _, _, _, _, _, _, _, _, _, _, _, _, _, _, _, _, _, _, _, _, _, _, _, _, _, _] (fun d u => Mm u b M n' (wrt fw (if d 11 then k + 1 else k)) (if d 11 then k + 1 else k) ∧ Mut [M, b] W u) (by kernel_rfl) (by kernel_rfl) (by kernel_rfl) (by kernel_rfl) rfl ?_ ?_ ?_
      · exact ⟨by simpa using hw.out.2.kept (Kept.refl _).drew, hw.out.1.drew⟩
      · intro i1 o ho a1 d u hh hj hi hd
        match i1, ho, hi, hd with
        | 0, ho, hi, hd =>
          simp only [List.getElem?_cons_zero, Option.some.injEq] at ho
          subst ho
          have g16 : a1.tmps[16]? = some (.pointer (some ⟨M, 0, none⟩)) := hh.old 16 (by kernel_rfl) rfl
          clear hh hd
          have HN : Hid (Mm u b M n' (wrt fw (if done d 0 11 then k + 1 else k)) (if done d 0 11 then k + 1 else k) ∧ Mut [M, b] W u) := (by simpa [done] using hj : Mm u b M n' (wrt fw (if done d 0 11 then k + 1 else k)) (if done d 0 11 then k + 1 else k) ∧ Mut [M, b] W u)
          clear hj hi
          refine wpOp_step rfl (fun K hK => ?_)
          go_simp
          exact hK _ _ ⟨by simp [Act.put], HN.out⟩
        | 1, ho, hi, hd =>
          simp only [List.getElem?_cons_succ, List.getElem?_cons_zero, Option.some.injEq] at ho
          subst ho
          have g13 : a1.tmps[13]? = some (.slice (some ⟨g, 0, none⟩) N dd) := hh.old 13 (by kernel_rfl) rfl
          clear hh hd
          have HN : Hid (Mm u b M n' (wrt fw (if done d 1 11 then k + 1 else k)) (if done d 1 11 then k + 1 else k) ∧ Mut [M, b] W u) := (by simpa [done] using hj : Mm u b M n' (wrt fw (if done d 1 11 then k + 1 else k)) (if done d 1 11 then k + 1 else k) ∧ Mut [M, b] W u)
          clear hj hi
          refine wpOp_step rfl (fun K hK => ?_)
          go_simp
          exact hK _ _ ⟨by simp [Act.put], HN.out⟩
        | 2, ho, hi, hd =>
          simp only [List.getElem?_cons_succ, List.getElem?_cons_zero, Option.some.injEq] at ho
          subst ho
          have g17 : a1.tmps[17]? = some (.int .i64 (k : Int)) := hh.old 17 (by kernel_rfl) rfl
          clear hh hd
          have HN : Hid (Mm u b M n' (wrt fw (if done d 2 11 then k + 1 else k)) (if done d 2 11 then k + 1 else k) ∧ Mut [M, b] W u) := (by simpa [done] using hj : Mm u b M n' (wrt fw (if done d 2 11 then k + 1 else k)) (if done d 2 11 then k + 1 else k) ∧ Mut [M, b] W u)
          clear hj hi
          refine wpOp_step rfl (fun K hK => ?_)
          go_simp
          exact hK _ _ ⟨by simp [Act.put], HN.out⟩
        | 3, ho, hi, hd =>
          simp only [List.getElem?_cons_succ, List.getElem?_cons_zero, Option.some.injEq] at ho
          subst ho
          have g94 : a1.tmps[94]? = some (.slice (some ⟨g, 0, none⟩) N dd) := hh.did 1 _ 94 rfl rfl (hd { on := 1, ground := .data } (by simp) rfl)
          have g95 : a1.tmps[95]? = some (.int .i64 (k : Int)) := hh.did 2 _ 95 rfl rfl (hd { on := 2, ground := .data } (by simp) rfl)
          clear hh hd
          have HN : Hid (Mm u b M n' (wrt fw (if done d 3 11 then k + 1 else k)) (if done d 3 11 then k + 1 else k) ∧ Mut [M, b] W u) := (by simpa [done] using hj : Mm u b M n' (wrt fw (if done d 3 11 then k + 1 else k)) (if done d 3 11 then k + 1 else k) ∧ Mut [M, b] W u)
          clear hj hi
          refine wpOp_step rfl (fun K hK => ?_)
          go_simp
          exact hK _ _ ⟨by simp [Act.put], HN.out⟩
        | 4, ho, hi, hd =>
          simp only [List.getElem?_cons_succ, List.getElem?_cons_zero, Option.some.injEq] at ho
          subst ho
          have g96 : a1.tmps[96]? = some (.pointer (some ⟨g, k * 2, none⟩)) := hh.did 3 _ 96 rfl rfl (hd { on := 3, ground := .data } (by simp) rfl)
          clear hh hd
          have HN : Hid (Mm u b M n' (wrt fw (if done d 4 11 then k + 1 else k)) (if done d 4 11 then k + 1 else k) ∧ Mut [M, b] W u) := (by simpa [done] using hj : Mm u b M n' (wrt fw (if done d 4 11 then k + 1 else k)) (if done d 4 11 then k + 1 else k) ∧ Mut [M, b] W u)
          clear hj hi
          refine wpOp_step rfl (fun K hK => ?_)
          go_simp
          exact hK _ _ ⟨by simp [Act.put], HN.out⟩
        | 5, ho, hi, hd =>
          simp only [List.getElem?_cons_succ, List.getElem?_cons_zero, Option.some.injEq] at ho
          subst ho
          have g97 : a1.tmps[97]? = some (.pointer (some ⟨g, k * 2, none⟩)) := hh.did 4 _ 97 rfl rfl (hd { on := 4, ground := .data } (by simp) rfl)
          have ca : u.cell? ⟨g, k * 2, none⟩ = some (.int .i64 (a : Int)) := (hj.2.cell HWS.out.1 (by have := HWS.out.2.1; have := HWS.out.2.2.1; simp; omega)).trans (by rw [← hfa]; exact (HWS.out.2.2.2 k hlt).1)
          clear hh hd
          have HN : Hid (Mm u b M n' (wrt fw (if done d 5 11 then k + 1 else k)) (if done d 5 11 then k + 1 else k) ∧ Mut [M, b] W u) := (by simpa [done] using hj : Mm u b M n' (wrt fw (if done d 5 11 then k + 1 else k)) (if done d 5 11 then k + 1 else k) ∧ Mut [M, b] W u)
          clear hj hi
          refine wpOp_step rfl (fun K hK => ?_)
          go_simp
          exact hK _ _ ⟨by simp [Act.put], HN.out⟩
        | 6, ho, hi, hd =>
          simp only [List.getElem?_cons_succ, List.getElem?_cons_zero, Option.some.injEq] at ho
          subst ho
          have g13 : a1.tmps[13]? = some (.slice (some ⟨g, 0, none⟩) N dd) := hh.old 13 (by kernel_rfl) rfl
          clear hh hd
          have HN : Hid (Mm u b M n' (wrt fw (if done d 6 11 then k + 1 else k)) (if done d 6 11 then k + 1 else k) ∧ Mut [M, b] W u) := (by simpa [done] using hj : Mm u b M n' (wrt fw (if done d 6 11 then k + 1 else k)) (if done d 6 11 then k + 1 else k) ∧ Mut [M, b] W u)
          clear hj hi
          refine wpOp_step rfl (fun K hK => ?_)
          go_simp
          exact hK _ _ ⟨by simp [Act.put], HN.out⟩
        | 7, ho, hi, hd =>
          simp only [List.getElem?_cons_succ, List.getElem?_cons_zero, Option.some.injEq] at ho
          subst ho
          have g17 : a1.tmps[17]? = some (.int .i64 (k : Int)) := hh.old 17 (by kernel_rfl) rfl
          clear hh hd
          have HN : Hid (Mm u b M n' (wrt fw (if done d 7 11 then k + 1 else k)) (if done d 7 11 then k + 1 else k) ∧ Mut [M, b] W u) := (by simpa [done] using hj : Mm u b M n' (wrt fw (if done d 7 11 then k + 1 else k)) (if done d 7 11 then k + 1 else k) ∧ Mut [M, b] W u)
          clear hj hi
          refine wpOp_step rfl (fun K hK => ?_)
          go_simp
          exact hK _ _ ⟨by simp [Act.put], HN.out⟩
        | 8, ho, hi, hd =>
          simp only [List.getElem?_cons_succ, List.getElem?_cons_zero, Option.some.injEq] at ho
          subst ho
          have g99 : a1.tmps[99]? = some (.slice (some ⟨g, 0, none⟩) N dd) := hh.did 6 _ 99 rfl rfl (hd { on := 6, ground := .data } (by simp) rfl)
          have g100 : a1.tmps[100]? = some (.int .i64 (k : Int)) := hh.did 7 _ 100 rfl rfl (hd { on := 7, ground := .data } (by simp) rfl)
          clear hh hd
          have HN : Hid (Mm u b M n' (wrt fw (if done d 8 11 then k + 1 else k)) (if done d 8 11 then k + 1 else k) ∧ Mut [M, b] W u) := (by simpa [done] using hj : Mm u b M n' (wrt fw (if done d 8 11 then k + 1 else k)) (if done d 8 11 then k + 1 else k) ∧ Mut [M, b] W u)
          clear hj hi
          refine wpOp_step rfl (fun K hK => ?_)
          go_simp
          exact hK _ _ ⟨by simp [Act.put], HN.out⟩
        | 9, ho, hi, hd =>
          simp only [List.getElem?_cons_succ, List.getElem?_cons_zero, Option.some.injEq] at ho
          subst ho
          have g101 : a1.tmps[101]? = some (.pointer (some ⟨g, k * 2, none⟩)) := hh.did 8 _ 101 rfl rfl (hd { on := 8, ground := .data } (by simp) rfl)
          clear hh hd
          have HN : Hid (Mm u b M n' (wrt fw (if done d 9 11 then k + 1 else k)) (if done d 9 11 then k + 1 else k) ∧ Mut [M, b] W u) := (by simpa [done] using hj : Mm u b M n' (wrt fw (if done d 9 11 then k + 1 else k)) (if done d 9 11 then k + 1 else k) ∧ Mut [M, b] W u)
          clear hj hi
          refine wpOp_step rfl (fun K hK => ?_)
          go_simp
          exact hK _ _ ⟨by simp [Act.put], HN.out⟩
        | 10, ho, hi, hd =>
          simp only [List.getElem?_cons_succ, List.getElem?_cons_zero, Option.some.injEq] at ho
          subst ho
          have g102 : a1.tmps[102]? = some (.pointer (some ⟨g, k * 2 + 1, none⟩)) := hh.did 9 _ 102 rfl rfl (hd { on := 9, ground := .data } (by simp) rfl)
          have cb : u.cell? ⟨g, k * 2 + 1, none⟩ = some (.complex .f64 (fw k).z.re (fw k).z.im) := (hj.2.cell HWS.out.1 (by have := HWS.out.2.1; have := HWS.out.2.2.1; simp; omega)).trans (HWS.out.2.2.2 k hlt).2
          clear hh hd
          have HN : Hid (Mm u b M n' (wrt fw (if done d 10 11 then k + 1 else k)) (if done d 10 11 then k + 1 else k) ∧ Mut [M, b] W u) := (by simpa [done] using hj : Mm u b M n' (wrt fw (if done d 10 11 then k + 1 else k)) (if done d 10 11 then k + 1 else k) ∧ Mut [M, b] W u)
          clear hj hi
          refine wpOp_step rfl (fun K hK => ?_)
          go_simp
          exact hK _ _ ⟨by simp [Act.put], HN.out⟩
        | 11, ho, hi, hd =>
          simp only [List.getElem?_cons_succ, List.getElem?_cons_zero, Option.some.injEq] at ho
          subst ho
          have g93 : a1.tmps[93]? = some (.pointer (some ⟨M, 0, none⟩)) := hh.did 0 _ 93 rfl rfl (hd { on := 0, ground := .data } (by simp) rfl)
          have g98 : a1.tmps[98]? = some (.int .i64 (a : Int)) := hh.did 5 _ 98 rfl rfl (hd { on := 5, ground := .data } (by simp) rfl)
          have g103 : a1.tmps[103]? = some (.complex .f64 (fw k).z.re (fw k).z.im) := hh.did 10 _ 103 rfl rfl (hd { on := 10, ground := .data } (by simp) rfl)
          have CA := mem_write (G := wrt fw (k + 1)) a (fw k).z u (by have B := hj.1; simp only [hi, Bool.false_eq_true, if_false] at B; exact B) han (by omega) (fun j _ => wrt_step hfa j)
          clear hh hd
          have HN : Hid (∀ u', Mm u' b M n' (wrt fw (k + 1)) (k + 1) → Mut [M, b] u u' → Mm u' b M n' (wrt fw (if done d 11 11 then k + 1 else k)) (if done d 11 11 then k + 1 else k) ∧ Mut [M, b] W u') := fun u' x y => ⟨by simpa [done] using x, hj.2.trans y⟩
          clear hj hi
          refine wpOp_step rfl (fun K hK => ?_)
          go_simp
          refine CA.mono ?_
          rintro e u' ⟨rfl, x, y⟩
          exact hK _ _ ⟨by simp [Act.put], HN.out u' x y⟩
        | n + 12, ho, hi, hd => simp at ho
      · intro u d hall hj
        have HN : Hid (Mut [M, b] W u ∧ Mm u b M n' (wrt fw (k + 1)) (k + 1)) := by
          have B := hj.1
          rw [hall 11 (by decide)] at B
          exact ⟨hj.2, B⟩
        clear hj hall
        go_wp2
        go_roundg (N - (k + 1))
        case measure => have := HM.out; omega
        case rel => exact ⟨k + 1, by go_num, by omega, by omega, HN⟩
    · obtain rfl : N = k := by omega
      have HW2 : Hid (Mut [M, b] W wr ∧ Mm wr b M n' (wrt fw N) N) := hw
      clear hw HM hk hlt HMM HA
      obtain ⟨W2, rfl⟩ : ∃ W2, W2 = wr := ⟨_, rfl⟩
      have HK9 : Hid (Kept u7 W2) := HKU.out.2.2.2.2.1.muts HW2.out.1 (by have := HKU.out.2.2.2.2.2; simp; omega)
      have HKV : Hid (Kept w W2) := HKU.out.1.trans HK9.out
      have HCB : Hid (Blk W2 w.heap.size (cl n0 n1 n2 n3 n4 n5 n6 n7 (.slice sx sl sc))) := HKU.out.2.1.kept HK9.out
      have HSB : Hid (Blk W2 sb [.bool true, .slice (some ⟨rg, 0, none⟩) 1 1] ∧ Refs W2 (some ⟨rg, 0, none⟩) 1 (R k)) := ⟨HKU.out.2.2.1.kept HK9.out, HKU.out.2.2.2.1.kept HK9.out⟩
      have HMW : Hid (Mm W2 b M n' (wrt fw N) N ∧ w.heap.size ≤ b ∧ w.heap.size ≤ M) := ⟨HW2.out.2, by have := HKU.out.2.2.2.2.2.1; have := HKU.out.1.size; omega, by have := HKU.out.2.2.2.2.2.2; have := HKU.out.1.size; omega⟩
      have HU7 : Hid (Kept w u7 ∧ Blk u7 w.heap.size (cl n0 n1 n2 n3 n4 n5 n6 n7 (.slice sx sl sc)) ∧ Blk u7 sb [.bool true, .slice (some ⟨rg, 0, none⟩) 1 1] ∧ Refs u7 (some ⟨rg, 0, none⟩) 1 (R k) ∧ u7.heap.size ≤ b ∧ u7.heap.size ≤ M ∧ Kept u7 W2) := ⟨HKU.out.1, HKU.out.2.1, HKU.out.2.2.1, HKU.out.2.2.2.1, HKU.out.2.2.2.2.2.1, HKU.out.2.2.2.2.2.2, HK9.out⟩
      clear HKU HW2 HWS HK9
      have cB := HU7.out.2.1.kept HU7.out.2.2.2.2.2.2
      have k0 := fun z : KW W2 => z.cell (a := ⟨w.heap.size, 0, none⟩) cB.lt (cB.at 0 rfl)
      have k1 := fun z : KW W2 => z.cell (a := ⟨w.heap.size, 1, none⟩) cB.lt (cB.at 1 rfl)
      have k2 := fun z : KW W2 => z.cell (a := ⟨w.heap.size, 2, none⟩) cB.lt (cB.at 2 rfl)
      have k3 := fun z : KW W2 => z.cell (a := ⟨w.heap.size, 3, none⟩) cB.lt (cB.at 3 rfl)
      have k4 := fun z : KW W2 => z.cell (a := ⟨w.heap.size, 4, none⟩) cB.lt (cB.at 4 rfl)
      have k5 := fun z : KW W2 => z.cell (a := ⟨w.heap.size, 5, none⟩) cB.lt (cB.at 5 rfl)
      have k6 := fun z : KW W2 => z.cell (a := ⟨w.heap.size, 6, none⟩) cB.lt (cB.at 6 rfl)
      have k7 := fun z : KW W2 => z.cell (a := ⟨w.heap.size, 7, none⟩) cB.lt (cB.at 7 rfl)
      have k8 := fun z : KW W2 => z.cell (a := ⟨w.heap.size, 8, none⟩) cB.lt (cB.at 8 rfl)
      have CLn : Hid (∀ z : KW W2, Calls Try.prog 27 #[.pointer (some ⟨M, 0, none⟩)] z.it fun e w' => e = .returned (.int .i64 (n' : Int)) ∧ w' = z.it) := fun z => mem_len _ (HMW.out.1.kept z.ok)
      have CWz : Hid (∀ z : KW W2, Calls Try.prog 28 #[.agg #[.int .i64 n0, .int .i64 n1, .int .i64 n2, .int .i64 n3, .int .i64 n4, .int .i64 n5, .int .i64 n6, .int .i64 n7, .slice sx sl sc]] z.it fun e w' => e = .returned (.int .i64 (n' : Int)) ∧ Kept z.it w') := fun z => CWD.out _ (HKV.out.trans z.ok)
      clear HCB HSB cB CWD
      go_upto_region 18 with fail
      refine wp_region_kept (by kernel_rfl) (by kernel_rfl) fun _ => ?_
      repeat (go_big_quiet_step (first | (go_at_call 27; exact kept_of_same (CLn.out _)) | (go_at_call 28; exact kept_of (CWz.out _))))
      refine wpQuiet_nil ?_
      rintro _ ⟨z, rfl⟩
      have HL4 : Hid (Kept u7 z.it ∧ Mm z.it b M n' (wrt fw N) N) := ⟨HU7.out.2.2.2.2.2.2.trans z.ok, HMW.out.1.kept z.ok⟩
      clear k0 k1 k2 k3 k4 k5 k6 k7 k8 CLn CWz HMW HKV
      generalize z.it = W4 at *
      have hmk := run_make_bool n' (by omega)
      go_wp2_with fail
      refine (mem_len _ HL4.out.2).mono ?_
      rintro e W5 ⟨rfl, rfl⟩
      go_upto_region 21 with fail
      generalize hW6 : W5.alloc _ = W6
      have k6 : Kept W5 W6 := by rw [← hW6]; exact (Kept.refl _).alloc _ _
      have r6 : W6.rowIs W5.heap.size 4 n' (mv fun _ => false) := by rw [← hW6]; exact row_made_bool W5 n'
      have HMB0 : Hid (u7.heap.size ≤ W5.heap.size ∧ M < W5.heap.size ∧ b < W5.heap.size) := ⟨HL4.out.1.size, HL4.out.2.hd.lt, HL4.out.2.row.lt⟩
      have HL5 : Hid (Kept u7 W6 ∧ Mm W6 b M n' (wrt fw N) N ∧ W6.rowIs W5.heap.size 4 n' (mv (mtb AD (min (0 - 1) mn)))) := ⟨HL4.out.1.trans k6, HL4.out.2.kept k6, r6.congr (fun i _ => by simp [mv, mtb])⟩
      clear hW6 k6 r6 HL4 hmk
      generalize W5.heap.size = mb at *
      go_wp2_with fail
      go_loopg [19] (mn + 2) (fun m i wr => ∃ (t q : Nat) (kI : Int), i = .int .i64 kI ∧ kI = (t : Int) - 1 ∧ t ≤ mn + 2 ∧ m = mn + 2 - t ∧ q ≤ 2000 + 7 * t ∧ Hid (Kept u7 wr ∧ Mm wr b M n' (wrt fw N) q ∧ wr.rowIs mb 4 n' (mv (mtb AD (min (t - 1) mn)))))
      case atStart => exact ⟨0, N, -1, rfl, by omega, by omega, by omega, by omega, HL5⟩
      case round =>
        obtain ⟨t, q, kI, rfl, hkI, ht, hm, hq, hw⟩ := hrel
        have HMo : Hid _ := hm
        have HKI : Hid ((t : Int) - 1 = kI) := hkI.symm
        have hk1 : -1 ≤ kI := by omega
        have hk2 : kI ≤ 600 := by omega
        clear hm
        obtain ⟨V, rfl⟩ : ∃ V, V = wr := ⟨_, rfl⟩
        by_cases hlt : t ≤ mn + 1
        · have hle : kI ≤ (mn : Int) := by omega
          have HVM : Hid (Kept u7 V ∧ Mm V b M n' (wrt fw N) q ∧ V.rowIs mb 4 n' (mv (mtb AD (min (t - 1) mn)))) := hw
          have HKV : Hid (Kept w V) := HU7.out.1.trans HVM.out.1
          have HCB : Hid (Blk V w.heap.size (cl n0 n1 n2 n3 n4 n5 n6 n7 (.slice sx sl sc))) := HU7.out.2.1.kept HVM.out.1
          clear hw hkI
          have CField : Hid (∀ u, Kept V u → Calls Try.prog 29 #[.agg #[.int .i64 n0, .int .i64 n1, .int .i64 n2, .int .i64 n3, .int .i64 n4, .int .i64 n5, .int .i64 n6, .int .i64 n7, .slice sx sl sc], .int .i64 (L 0), .int .i64 kI] u _) := fun u q => field_newf n0 n1 n2 n3 n4 n5 n6 n7 sx sl sc S R (L 0) kI V u q (HSR.out.1.kept (HKV.out.trans q)) (fun i hi => (HSR.out.2.1 i hi).kept (HKV.out.trans q)) HSR.out.2.2.1 HSR.out.2.2.2
          go_wp2_with fail
          refine wp_region_mix [undef, undef, undef, undef, undef, undef, undef] [(20, 6), (118, 0), (119, 1), (120, 2), (121, 3), (122, 4), (123, 5)] (fun d vals u => MJ (fun q1 => match q1 with | 0 => some (.agg #[.int .i64 n0, .int .i64 n1, .int .i64 n2, .int .i64 n3, .int .i64 n4, .int .i64 n5, .int .i64 n6, .int .i64 n7, .slice sx sl sc]) | 1 => some (.slice (some ⟨xb, xo, none⟩) l cc) | 2 => some (.pointer (some ⟨xb, xo, none⟩)) | 3 => some (.int .i64 (L 0)) | 4 => some (.int .i64 kI) | _ => none) 5 6 (fun u => Kept V u) (fun v u => Newf V (fd0 (L 0) kI false) n0 n1 sl S R v u) d vals u) (by kernel_rfl) (by kernel_rfl) (by kernel_rfl) (by kernel_rfl) rfl ?_ ?_ ?_
          · exact ⟨fun _ _ _ h => absurd h (by simp), fun _ => (Kept.refl _).drew, fun h => absurd h (by simp), fun h => absurd h (by simp)⟩
          · intro i1 o ho a1 d vals u hv0 hh hj hi hd
            have hv : vals.length = 7 := hv0
            have hKR : Kept V u := by
              cases hq : d 5
              · exact hj.bf hq
              · exact (hj.af hq).1
            match i1, ho, hi, hd with
            | 0, ho, hi, hd =>
              simp only [List.getElem?_cons_zero, Option.some.injEq] at ho
              subst ho
              have g5 : a1.tmps[5]? = some (.pointer (some ⟨w.heap.size, 0, none⟩)) := hh.old 5 (by kernel_rfl) rfl
              have B := HCB.out.kept hKR
              have c0 := B.at 0 rfl
              have c1 := B.at 1 rfl
              have c2 := B.at 2 rfl
              have c3 := B.at 3 rfl
              have c4 := B.at 4 rfl
              have c5 := B.at 5 rfl
              have c6 := B.at 6 rfl
              have c7 := B.at 7 rfl
              have c8 := B.at 8 rfl
              clear B
              have HN : Hid (MJ (fun q1 => match q1 with | 0 => some (.agg #[.int .i64 n0, .int .i64 n1, .int .i64 n2, .int .i64 n3, .int .i64 n4, .int .i64 n5, .int .i64 n6, .int .i64 n7, .slice sx sl sc]) | 1 => some (.slice (some ⟨xb, xo, none⟩) l cc) | 2 => some (.pointer (some ⟨xb, xo, none⟩)) | 3 => some (.int .i64 (L 0)) | 4 => some (.int .i64 kI) | _ => none) 5 6 (fun u => Kept V u) (fun v u => Newf V (fd0 (L 0) kI false) n0 n1 sl S R v u) (done d 0) (vals.set 0 (.agg #[.int .i64 n0, .int .i64 n1, .int .i64 n2, .int .i64 n3, .int .i64 n4, .int .i64 n5, .int .i64 n6, .int .i64 n7, .slice sx sl sc])) u) := hj.plain 0 _ (by omega) (by decide) (by decide) rfl
              clear hh hd hj hi hKR
              refine wpOp_step rfl (fun K hK => ?_)
              go_simp
              exact hK _ _ ⟨_, by simp [Act.put], HN.out⟩
            | 1, ho, hi, hd =>
              simp only [List.getElem?_cons_succ, List.getElem?_cons_zero, Option.some.injEq] at ho
              subst ho
              have g3 : a1.tmps[3]? = some (.slice (some ⟨xb, xo, none⟩) l cc) := hh.old 3 (by kernel_rfl) rfl
              have HN : Hid (MJ (fun q1 => match q1 with | 0 => some (.agg #[.int .i64 n0, .int .i64 n1, .int .i64 n2, .int .i64 n3, .int .i64 n4, .int .i64 n5, .int .i64 n6, .int .i64 n7, .slice sx sl sc]) | 1 => some (.slice (some ⟨xb, xo, none⟩) l cc) | 2 => some (.pointer (some ⟨xb, xo, none⟩)) | 3 => some (.int .i64 (L 0)) | 4 => some (.int .i64 kI) | _ => none) 5 6 (fun u => Kept V u) (fun v u => Newf V (fd0 (L 0) kI false) n0 n1 sl S R v u) (done d 1) (vals.set 1 (.slice (some ⟨xb, xo, none⟩) l cc)) u) := hj.plain 1 _ (by omega) (by decide) (by decide) rfl
              clear hh hd hj hi hKR
              refine wpOp_step rfl (fun K hK => ?_)
              go_simp
              exact hK _ _ ⟨_, by simp [Act.put], HN.out⟩
            | 2, ho, hi, hd =>
              simp only [List.getElem?_cons_succ, List.getElem?_cons_zero, Option.some.injEq] at ho
              subst ho
              have g119 : a1.tmps[119]? = some (.slice (some ⟨xb, xo, none⟩) l cc) := (hh.did 1 _ 119 rfl rfl (hd { on := 1, ground := .data } (by simp) rfl)).trans (congrArg some (hj.kn 1 _ rfl (hd { on := 1, ground := .data } (by simp) rfl)))
              have HN : Hid (MJ (fun q1 => match q1 with | 0 => some (.agg #[.int .i64 n0, .int .i64 n1, .int .i64 n2, .int .i64 n3, .int .i64 n4, .int .i64 n5, .int .i64 n6, .int .i64 n7, .slice sx sl sc]) | 1 => some (.slice (some ⟨xb, xo, none⟩) l cc) | 2 => some (.pointer (some ⟨xb, xo, none⟩)) | 3 => some (.int .i64 (L 0)) | 4 => some (.int .i64 kI) | _ => none) 5 6 (fun u => Kept V u) (fun v u => Newf V (fd0 (L 0) kI false) n0 n1 sl S R v u) (done d 2) (vals.set 2 (.pointer (some ⟨xb, xo, none⟩))) u) := hj.plain 2 _ (by omega) (by decide) (by decide) rfl
              clear hh hd hj hi hKR
              refine wpOp_step rfl (fun K hK => ?_)
              go_simp
              exact hK _ _ ⟨_, by simp [Act.put], HN.out⟩
            | 3, ho, hi, hd =>
              simp only [List.getElem?_cons_succ, List.getElem?_cons_zero, Option.some.injEq] at ho
              subst ho
              have g120 : a1.tmps[120]? = some (.pointer (some ⟨xb, xo, none⟩)) := (hh.did 2 _ 120 rfl rfl (hd { on := 2, ground := .data } (by simp) rfl)).trans (congrArg some (hj.kn 2 _ rfl (hd { on := 2, ground := .data } (by simp) rfl)))
              have cg : u.cell? ⟨xb, xo, none⟩ = some (.int .i64 (L 0)) := ((HKV.out.trans hKR).cell HX.out.1).trans (HX.out.2 0 (by omega))
              have HN : Hid (MJ (fun q1 => match q1 with | 0 => some (.agg #[.int .i64 n0, .int .i64 n1, .int .i64 n2, .int .i64 n3, .int .i64 n4, .int .i64 n5, .int .i64 n6, .int .i64 n7, .slice sx sl sc]) | 1 => some (.slice (some ⟨xb, xo, none⟩) l cc) | 2 => some (.pointer (some ⟨xb, xo, none⟩)) | 3 => some (.int .i64 (L 0)) | 4 => some (.int .i64 kI) | _ => none) 5 6 (fun u => Kept V u) (fun v u => Newf V (fd0 (L 0) kI false) n0 n1 sl S R v u) (done d 3) (vals.set 3 (.int .i64 (L 0))) u) := hj.plain 3 _ (by omega) (by decide) (by decide) rfl
              clear hh hd hj hi hKR
              refine wpOp_step rfl (fun K hK => ?_)
              go_simp
              exact hK _ _ ⟨_, by simp [Act.put], HN.out⟩
            | 4, ho, hi, hd =>
              simp only [List.getElem?_cons_succ, List.getElem?_cons_zero, Option.some.injEq] at ho
              subst ho
              have g19 : a1.tmps[19]? = some (.int .i64 kI) := hh.old 19 (by kernel_rfl) rfl
              have HN : Hid (MJ (fun q1 => match q1 with | 0 => some (.agg #[.int .i64 n0, .int .i64 n1, .int .i64 n2, .int .i64 n3, .int .i64 n4, .int .i64 n5, .int .i64 n6, .int .i64 n7, .slice sx sl sc]) | 1 => some (.slice (some ⟨xb, xo, none⟩) l cc) | 2 => some (.pointer (some ⟨xb, xo, none⟩)) | 3 => some (.int .i64 (L 0)) | 4 => some (.int .i64 kI) | _ => none) 5 6 (fun u => Kept V u) (fun v u => Newf V (fd0 (L 0) kI false) n0 n1 sl S R v u) (done d 4) (vals.set 4 (.int .i64 kI)) u) := hj.plain 4 _ (by omega) (by decide) (by decide) rfl
              clear hh hd hj hi hKR
              refine wpOp_step rfl (fun K hK => ?_)
              go_simp
              exact hK _ _ ⟨_, by simp [Act.put], HN.out⟩
            | 5, ho, hi, hd =>
              simp only [List.getElem?_cons_succ, List.getElem?_cons_zero, Option.some.injEq] at ho
              subst ho
              have g118 : a1.tmps[118]? = some (.agg #[.int .i64 n0, .int .i64 n1, .int .i64 n2, .int .i64 n3, .int .i64 n4, .int .i64 n5, .int .i64 n6, .int .i64 n7, .slice sx sl sc]) := (hh.did 0 _ 118 rfl rfl (hd { on := 0, ground := .data } (by simp) rfl)).trans (congrArg some (hj.kn 0 _ rfl (hd { on := 0, ground := .data } (by simp) rfl)))
              have g121 : a1.tmps[121]? = some (.int .i64 (L 0)) := (hh.did 3 _ 121 rfl rfl (hd { on := 3, ground := .data } (by simp) rfl)).trans (congrArg some (hj.kn 3 _ rfl (hd { on := 3, ground := .data } (by simp) rfl)))
              have g122 : a1.tmps[122]? = some (.int .i64 kI) := (hh.did 4 _ 122 rfl rfl (hd { on := 4, ground := .data } (by simp) rfl)).trans (congrArg some (hj.kn 4 _ rfl (hd { on := 4, ground := .data } (by simp) rfl)))
              have CA := CField.out u hKR
              have HN : Hid (∀ v' u', Newf V (fd0 (L 0) kI false) n0 n1 sl S R v' u' → MJ (fun q1 => match q1 with | 0 => some (.agg #[.int .i64 n0, .int .i64 n1, .int .i64 n2, .int .i64 n3, .int .i64 n4, .int .i64 n5, .int .i64 n6, .int .i64 n7, .slice sx sl sc]) | 1 => some (.slice (some ⟨xb, xo, none⟩) l cc) | 2 => some (.pointer (some ⟨xb, xo, none⟩)) | 3 => some (.int .i64 (L 0)) | 4 => some (.int .i64 kI) | _ => none) 5 6 (fun u => Kept V u) (fun v u => Newf V (fd0 (L 0) kI false) n0 n1 sl S R v u) (done d 5) (vals.set 5 v') u') := fun v' u' q => hj.call (by omega) (by decide) hi rfl q
              clear hh hd hj hi hKR
              refine wpOp_step rfl (fun K hK => ?_)
              go_simp
              refine CA.mono ?_
              rintro e u' ⟨v', rfl, q1⟩
              exact hK _ _ ⟨v', by simp [Act.put], HN.out v' u' q1⟩
            | 6, ho, hi, hd =>
              simp only [List.getElem?_cons_succ, List.getElem?_cons_zero, Option.some.injEq] at ho
              subst ho
              have g123 : a1.tmps[123]? = some (vals.getD 5 undef) := hh.did 5 _ 123 rfl rfl (hd { on := 5, ground := .data } (by simp) rfl)
              have HN0 := hj.last (by omega) (by decide) (hd { on := 5, ground := .data } (by simp) rfl) (hd { on := 0, ground := .phase } (by simp) rfl) rfl
              obtain ⟨y, hy⟩ : ∃ y, vals.getD 5 undef = y := ⟨_, rfl⟩
              rw [hy] at HN0 g123
              have HN : Hid (MJ (fun q1 => match q1 with | 0 => some (.agg #[.int .i64 n0, .int .i64 n1, .int .i64 n2, .int .i64 n3, .int .i64 n4, .int .i64 n5, .int .i64 n6, .int .i64 n7, .slice sx sl sc]) | 1 => some (.slice (some ⟨xb, xo, none⟩) l cc) | 2 => some (.pointer (some ⟨xb, xo, none⟩)) | 3 => some (.int .i64 (L 0)) | 4 => some (.int .i64 kI) | _ => none) 5 6 (fun u => Kept V u) (fun v u => Newf V (fd0 (L 0) kI false) n0 n1 sl S R v u) (done d 6) (vals.set 6 y) u) := HN0
              clear hh hd hj hi hKR HN0 hy
              refine wpOp_step rfl (fun K hK => ?_)
              go_simp
              exact hK _ _ ⟨y, by simp [Act.put], HN.out⟩
            | n + 7, ho, _, _ => simp at ho
          · intro u d vals hv hall hj
            have h9 := hj.af (hall 5 (by decide))
            have h10 := (hj.la (hall 6 (by decide))).2.1
            clear hall hj
            match vals, hv, h9, h10 with
            | [y0, y1, y2, y3, y4, y5, y6], _, h9, h10 =>
              simp only [List.getD_cons_succ, List.getD_cons_zero] at h9 h10
              subst h10
              obtain ⟨K5, p, E, hy, hF5, hp5, hE5⟩ := h9
              subst hy
              refine norm_list' (L' := [_, _, _, _, _, _, _, _, _, _, _, _, _, _, _, _, _, _, _, _, _, _, _, _, _, _, _, _, _, _, _, _, _, _, _, _, _, _, _, _, _, _, _, _, _, _, _, _, _, _, _, _, _, _, _, _, _, _, _, _, _, _, _, _, _, _, _, _, _, _, _, _, _, _, _, _, _, _, _, _, _, _, _, _, _, _, _, _, _, _, _, _, _, _, _, _, _, _, _, _, _, _, _, _, _, _, _, _, _, _, _, _, _, _, _, _, _, _, _, _, _, _, _, _, _, _, _, _, _, _, _, _, _, _, _, _, _, _, _, _, _, _, _, _, _, _, _, _, _, _, _, _, _, _, _, _, _, _, _, _, _, _, _, _, _, _, _, _, _, _, _, _, _, _, _, _, _, _, _, _, _, _, _, _, _, _, _, _, _, _, _, _, _, _, _, _, _, _, _, _, _, _, _, _, _, _, _, _, _, _, _, _, _, _, _, _, _, _, _, _, _, _, _, _, _, _, _, _, _, _, _, _, _, _, _, _, _, _, _, _, _, _, _, _, _, _, _, _, _, _, _, _, _, _, _, _, _, _, _, _, _, _, _, _, _, _, _, _, _, _, _]) rfl ?_
              simp only [List.getD_cons_succ, List.getD_cons_zero]
              have s0 := ((HU7.out.2.2.1.kept HVM.out.1).kept K5).at 0 rfl
              have HVM2 : Hid (Kept u7 u ∧ Mm u b M n' (wrt fw N) q ∧ u.rowIs mb 4 n' (mv (mtb AD (min (t - 1) mn)))) := ⟨HVM.out.1.trans K5, HVM.out.2.1.kept K5, K5.row HVM.out.2.2⟩
              clear HVM hF5 hp5 hE5 K5 HCB HKV CField E
              have HVM := HVM2
              clear HVM2
              obtain ⟨V2, rfl⟩ : ∃ V2, V2 = u := ⟨_, rfl⟩
              obtain ⟨po, rfl⟩ : ∃ po, po = p := ⟨_, rfl⟩
              have HKV : Hid (Kept w V2) := HU7.out.1.trans HVM.out.1
              have HCB : Hid (Blk V2 w.heap.size (cl n0 n1 n2 n3 n4 n5 n6 n7 (.slice sx sl sc))) := HU7.out.2.1.kept HVM.out.1
              have CElem : Hid (∀ u, Kept V2 u → Calls Try.prog 30 #[.agg #[.int .i64 n0, .int .i64 n1, .int .i64 n2, .int .i64 n3, .int .i64 n4, .int .i64 n5, .int .i64 n6, .int .i64 n7, .slice sx sl sc], .int .i64 (L 0), .int .i64 kI] u _) := fun u q => elem_newf n0 n1 n2 n3 n4 n5 n6 n7 sx sl sc S R (L 0) kI V2 u q (HSR.out.1.kept (HKV.out.trans q)) (fun i hi => (HSR.out.2.1 i hi).kept (HKV.out.trans q)) HSR.out.2.2.1 HSR.out.2.2.2
              go_wp2_with fail
              clear s0
              refine wp_region_mix [undef, undef, undef, undef, undef, undef, undef] [(20, 6), (126, 0), (127, 1), (128, 2), (129, 3), (130, 4), (131, 5)] (fun d vals u => MJ (fun q1 => match q1 with | 0 => some (.agg #[.int .i64 n0, .int .i64 n1, .int .i64 n2, .int .i64 n3, .int .i64 n4, .int .i64 n5, .int .i64 n6, .int .i64 n7, .slice sx sl sc]) | 1 => some (.slice (some ⟨xb, xo, none⟩) l cc) | 2 => some (.pointer (some ⟨xb, xo, none⟩)) | 3 => some (.int .i64 (L 0)) | 4 => some (.int .i64 kI) | _ => none) 5 6 (fun u => Kept V2 u) (fun v u => Newf V2 (fd0 (L 0) kI true) n0 n1 sl S R v u) d vals u) (by kernel_rfl) (by kernel_rfl) (by kernel_rfl) (by kernel_rfl) rfl ?_ ?_ ?_
              · exact ⟨fun _ _ _ h => absurd h (by simp), fun _ => (Kept.refl _).drew, fun h => absurd h (by simp), fun h => absurd h (by simp)⟩
              · intro i1 o ho a1 d vals u hv0 hh hj hi hd
                have hv : vals.length = 7 := hv0
                have hKR : Kept V2 u := by
                  cases hq : d 5
                  · exact hj.bf hq
                  · exact (hj.af hq).1
                match i1, ho, hi, hd with
                | 0, ho, hi, hd =>
                  simp only [List.getElem?_cons_zero, Option.some.injEq] at ho
                  subst ho
                  have g5 : a1.tmps[5]? = some (.pointer (some ⟨w.heap.size, 0, none⟩)) := hh.old 5 (by kernel_rfl) rfl
                  have B := HCB.out.kept hKR
                  have c0 := B.at 0 rfl
                  have c1 := B.at 1 rfl
                  have c2 := B.at 2 rfl
                  have c3 := B.at 3 rfl
                  have c4 := B.at 4 rfl
                  have c5 := B.at 5 rfl
                  have c6 := B.at 6 rfl
                  have c7 := B.at 7 rfl
                  have c8 := B.at 8 rfl
                  clear B
                  have HN : Hid (MJ (fun q1 => match q1 with | 0 => some (.agg #[.int .i64 n0, .int .i64 n1, .int .i64 n2, .int .i64 n3, .int .i64 n4, .int .i64 n5, .int .i64 n6, .int .i64 n7, .slice sx sl sc]) | 1 => some (.slice (some ⟨xb, xo, none⟩) l cc) | 2 => some (.pointer (some ⟨xb, xo, none⟩)) | 3 => some (.int .i64 (L 0)) | 4 => some (.int .i64 kI) | _ => none) 5 6 (fun u => Kept V2 u) (fun v u => Newf V2 (fd0 (L 0) kI true) n0 n1 sl S R v u) (done d 0) (vals.set 0 (.agg #[.int .i64 n0, .int .i64 n1, .int .i64 n2, .int .i64 n3, .int .i64 n4, .int .i64 n5, .int .i64 n6, .int .i64 n7, .slice sx sl sc])) u) := hj.plain 0 _ (by omega) (by decide) (by decide) rfl
                  clear hh hd hj hi hKR
                  refine wpOp_step rfl (fun K hK => ?_)
                  go_simp
                  exact hK _ _ ⟨_, by simp [Act.put], HN.out⟩
                | 1, ho, hi, hd =>
                  simp only [List.getElem?_cons_succ, List.getElem?_cons_zero, Option.some.injEq] at ho
                  subst ho
                  have g3 : a1.tmps[3]? = some (.slice (some ⟨xb, xo, none⟩) l cc) := hh.old 3 (by kernel_rfl) rfl
                  have HN : Hid (MJ (fun q1 => match q1 with | 0 => some (.agg #[.int .i64 n0, .int .i64 n1, .int .i64 n2, .int .i64 n3, .int .i64 n4, .int .i64 n5, .int .i64 n6, .int .i64 n7, .slice sx sl sc]) | 1 => some (.slice (some ⟨xb, xo, none⟩) l cc) | 2 => some (.pointer (some ⟨xb, xo, none⟩)) | 3 => some (.int .i64 (L 0)) | 4 => some (.int .i64 kI) | _ => none) 5 6 (fun u => Kept V2 u) (fun v u => Newf V2 (fd0 (L 0) kI true) n0 n1 sl S R v u) (done d 1) (vals.set 1 (.slice (some ⟨xb, xo, none⟩) l cc)) u) := hj.plain 1 _ (by omega) (by decide) (by decide) rfl
                  clear hh hd hj hi hKR
                  refine wpOp_step rfl (fun K hK => ?_)
                  go_simp
                  exact hK _ _ ⟨_, by simp [Act.put], HN.out⟩
                | 2, ho, hi, hd =>
                  simp only [List.getElem?_cons_succ, List.getElem?_cons_zero, Option.some.injEq] at ho
                  subst ho
                  have g127 : a1.tmps[127]? = some (.slice (some ⟨xb, xo, none⟩) l cc) := (hh.did 1 _ 127 rfl rfl (hd { on := 1, ground := .data } (by simp) rfl)).trans (congrArg some (hj.kn 1 _ rfl (hd { on := 1, ground := .data } (by simp) rfl)))
                  have HN : Hid (MJ (fun q1 => match q1 with | 0 => some (.agg #[.int .i64 n0, .int .i64 n1, .int .i64 n2, .int .i64 n3, .int .i64 n4, .int .i64 n5, .int .i64 n6, .int .i64 n7, .slice sx sl sc]) | 1 => some (.slice (some ⟨xb, xo, none⟩) l cc) | 2 => some (.pointer (some ⟨xb, xo, none⟩)) | 3 => some (.int .i64 (L 0)) | 4 => some (.int .i64 kI) | _ => none) 5 6 (fun u => Kept V2 u) (fun v u => Newf V2 (fd0 (L 0) kI true) n0 n1 sl S R v u) (done d 2) (vals.set 2 (.pointer (some ⟨xb, xo, none⟩))) u) := hj.plain 2 _ (by omega) (by decide) (by decide) rfl
                  clear hh hd hj hi hKR
                  refine wpOp_step rfl (fun K hK => ?_)
                  go_simp
                  exact hK _ _ ⟨_, by simp [Act.put], HN.out⟩
                | 3, ho, hi, hd =>
                  simp only [List.getElem?_cons_succ, List.getElem?_cons_zero, Option.some.injEq] at ho
                  subst ho
                  have g128 : a1.tmps[128]? = some (.pointer (some ⟨xb, xo, none⟩)) := (hh.did 2 _ 128 rfl rfl (hd { on := 2, ground := .data } (by simp) rfl)).trans (congrArg some (hj.kn 2 _ rfl (hd { on := 2, ground := .data } (by simp) rfl)))
                  have cg : u.cell? ⟨xb, xo, none⟩ = some (.int .i64 (L 0)) := ((HKV.out.trans hKR).cell HX.out.1).trans (HX.out.2 0 (by omega))
                  have HN : Hid (MJ (fun q1 => match q1 with | 0 => some (.agg #[.int .i64 n0, .int .i64 n1, .int .i64 n2, .int .i64 n3, .int .i64 n4, .int .i64 n5, .int .i64 n6, .int .i64 n7, .slice sx sl sc]) | 1 => some (.slice (some ⟨xb, xo, none⟩) l cc) | 2 => some (.pointer (some ⟨xb, xo, none⟩)) | 3 => some (.int .i64 (L 0)) | 4 => some (.int .i64 kI) | _ => none) 5 6 (fun u => Kept V2 u) (fun v u => Newf V2 (fd0 (L 0) kI true) n0 n1 sl S R v u) (done d 3) (vals.set 3 (.int .i64 (L 0))) u) := hj.plain 3 _ (by omega) (by decide) (by decide) rfl
                  clear hh hd hj hi hKR
                  refine wpOp_step rfl (fun K hK => ?_)
                  go_simp
                  exact hK _ _ ⟨_, by simp [Act.put], HN.out⟩
                | 4, ho, hi, hd =>
                  simp only [List.getElem?_cons_succ, List.getElem?_cons_zero, Option.some.injEq] at ho
                  subst ho
                  have g19 : a1.tmps[19]? = some (.int .i64 kI) := hh.old 19 (by kernel_rfl) rfl
                  have HN : Hid (MJ (fun q1 => match q1 with | 0 => some (.agg #[.int .i64 n0, .int .i64 n1, .int .i64 n2, .int .i64 n3, .int .i64 n4, .int .i64 n5, .int .i64 n6, .int .i64 n7, .slice sx sl sc]) | 1 => some (.slice (some ⟨xb, xo, none⟩) l cc) | 2 => some (.pointer (some ⟨xb, xo, none⟩)) | 3 => some (.int .i64 (L 0)) | 4 => some (.int .i64 kI) | _ => none) 5 6 (fun u => Kept V2 u) (fun v u => Newf V2 (fd0 (L 0) kI true) n0 n1 sl S R v u) (done d 4) (vals.set 4 (.int .i64 kI)) u) := hj.plain 4 _ (by omega) (by decide) (by decide) rfl
                  clear hh hd hj hi hKR
                  refine wpOp_step rfl (fun K hK => ?_)
                  go_simp
                  exact hK _ _ ⟨_, by simp [Act.put], HN.out⟩
                | 5, ho, hi, hd =>
                  simp only [List.getElem?_cons_succ, List.getElem?_cons_zero, Option.some.injEq] at ho
                  subst ho
                  have g126 : a1.tmps[126]? = some (.agg #[.int .i64 n0, .int .i64 n1, .int .i64 n2, .int .i64 n3, .int .i64 n4, .int .i64 n5, .int .i64 n6, .int .i64 n7, .slice sx sl sc]) := (hh.did 0 _ 126 rfl rfl (hd { on := 0, ground := .data } (by simp) rfl)).trans (congrArg some (hj.kn 0 _ rfl (hd { on := 0, ground := .data } (by simp) rfl)))
                  have g129 : a1.tmps[129]? = some (.int .i64 (L 0)) := (hh.did 3 _ 129 rfl rfl (hd { on := 3, ground := .data } (by simp) rfl)).trans (congrArg some (hj.kn 3 _ rfl (hd { on := 3, ground := .data } (by simp) rfl)))
                  have g130 : a1.tmps[130]? = some (.int .i64 kI) := (hh.did 4 _ 130 rfl rfl (hd { on := 4, ground := .data } (by simp) rfl)).trans (congrArg some (hj.kn 4 _ rfl (hd { on := 4, ground := .data } (by simp) rfl)))
                  have CA := CElem.out u hKR
                  have HN : Hid (∀ v' u', Newf V2 (fd0 (L 0) kI true) n0 n1 sl S R v' u' → MJ (fun q1 => match q1 with | 0 => some (.agg #[.int .i64 n0, .int .i64 n1, .int .i64 n2, .int .i64 n3, .int .i64 n4, .int .i64 n5, .int .i64 n6, .int .i64 n7, .slice sx sl sc]) | 1 => some (.slice (some ⟨xb, xo, none⟩) l cc) | 2 => some (.pointer (some ⟨xb, xo, none⟩)) | 3 => some (.int .i64 (L 0)) | 4 => some (.int .i64 kI) | _ => none) 5 6 (fun u => Kept V2 u) (fun v u => Newf V2 (fd0 (L 0) kI true) n0 n1 sl S R v u) (done d 5) (vals.set 5 v') u') := fun v' u' q => hj.call (by omega) (by decide) hi rfl q
                  clear hh hd hj hi hKR
                  refine wpOp_step rfl (fun K hK => ?_)
                  go_simp
                  refine CA.mono ?_
                  rintro e u' ⟨v', rfl, q1⟩
                  exact hK _ _ ⟨v', by simp [Act.put], HN.out v' u' q1⟩
                | 6, ho, hi, hd =>
                  simp only [List.getElem?_cons_succ, List.getElem?_cons_zero, Option.some.injEq] at ho
                  subst ho
                  have g131 : a1.tmps[131]? = some (vals.getD 5 undef) := hh.did 5 _ 131 rfl rfl (hd { on := 5, ground := .data } (by simp) rfl)
                  have HN0 := hj.last (by omega) (by decide) (hd { on := 5, ground := .data } (by simp) rfl) (hd { on := 0, ground := .phase } (by simp) rfl) rfl
                  obtain ⟨y, hy⟩ : ∃ y, vals.getD 5 undef = y := ⟨_, rfl⟩
                  rw [hy] at HN0 g131
                  have HN : Hid (MJ (fun q1 => match q1 with | 0 => some (.agg #[.int .i64 n0, .int .i64 n1, .int .i64 n2, .int .i64 n3, .int .i64 n4, .int .i64 n5, .int .i64 n6, .int .i64 n7, .slice sx sl sc]) | 1 => some (.slice (some ⟨xb, xo, none⟩) l cc) | 2 => some (.pointer (some ⟨xb, xo, none⟩)) | 3 => some (.int .i64 (L 0)) | 4 => some (.int .i64 kI) | _ => none) 5 6 (fun u => Kept V2 u) (fun v u => Newf V2 (fd0 (L 0) kI true) n0 n1 sl S R v u) (done d 6) (vals.set 6 y) u) := HN0
                  clear hh hd hj hi hKR HN0 hy
                  refine wpOp_step rfl (fun K hK => ?_)
                  go_simp
                  exact hK _ _ ⟨y, by simp [Act.put], HN.out⟩
                | n + 7, ho, _, _ => simp at ho
              · intro u d vals hv hall hj
                have h9 := hj.af (hall 5 (by decide))
                have h10 := (hj.la (hall 6 (by decide))).2.1
                clear hall hj
                match vals, hv, h9, h10 with
                | [y0, y1, y2, y3, y4, y5, y6], _, h9, h10 =>
                  simp only [List.getD_cons_succ, List.getD_cons_zero] at h9 h10
                  subst h10
                  obtain ⟨K5, p, E, hy, hF5, hp5, hE5⟩ := h9
                  subst hy
                  refine norm_list' (L' := [_, _, _, _, _, _, _, _, _, _, _, _, _, _, _, _, _, _, _, _, _, _, _, _, _, _, _, _, _, _, _, _, _, _, _, _, _, _, _, _, _, _, _, _, _, _, _, _, _, _, _, _, _, _, _, _, _, _, _, _, _, _, _, _, _, _, _, _, _, _, _, _, _, _, _, _, _, _, _, _, _, _, _, _, _, _, _, _, _, _, _, _, _, _, _, _, _, _, _, _, _, _, _, _, _, _, _, _, _, _, _, _, _, _, _, _, _, _, _, _, _, _, _, _, _, _, _, _, _, _, _, _, _, _, _, _, _, _, _, _, _, _, _, _, _, _, _, _, _, _, _, _, _, _, _, _, _, _, _, _, _, _, _, _, _, _, _, _, _, _, _, _, _, _, _, _, _, _, _, _, _, _, _, _, _, _, _, _, _, _, _, _, _, _, _, _, _, _, _, _, _, _, _, _, _, _, _, _, _, _, _, _, _, _, _, _, _, _, _, _, _, _, _, _, _, _, _, _, _, _, _, _, _, _, _, _, _, _, _, _, _, _, _, _, _, _, _, _, _, _, _, _, _, _, _, _, _, _, _, _, _, _, _, _, _, _, _, _, _, _, _]) rfl ?_
                  simp only [List.getD_cons_succ, List.getD_cons_zero]
                  clear CElem
                  obtain ⟨T, St, hTO⟩ := HGO0.out t (by omega) p E hE5
                  obtain ⟨W3, rfl⟩ : ∃ W3, W3 = u := ⟨_, rfl⟩
                  have HTO : Hid (Told p E n' (wrt fw N) mn AD (fun _ => R k 0) (fd0 (L 0) ((t : Int) - 1) true) t (fun _ => 5) T St) := hTO
                  have HGO : Hid (Goes p E n' (wrt fw N) T St) := hTO.goes
                  have hT7 : T ≤ 7 := hTO.goes.hi
                  have hV := HVM.out.1.size
                  have HS0 : Hid (FS W3 p E (St 0) ∧ Mm W3 b M n' (wrt fw N) q ∧ b < p ∧ M < p) := ⟨by rw [hTO.start, HKI.out]; exact hF5, HVM.out.2.1.kept K5, by have := HVM.out.2.1.row.lt; omega, by have := HVM.out.2.1.hd.lt; omega⟩
                  have HKW : Hid (Kept u7 W3 ∧ u7.heap.size ≤ p ∧ u7.heap.size ≤ M) := ⟨HVM.out.1.trans K5, by omega, HU7.out.2.2.2.2.2.1⟩
                  have HMT : Hid (W3.rowIs mb 4 n' (mv (mtb AD (min (t - 1) mn)))) := K5.row HVM.out.2.2
                  have HMB : Hid (u7.heap.size ≤ mb ∧ M < mb ∧ b < mb ∧ mb < p) := ⟨HMB0.out.1, HMB0.out.2.1, HMB0.out.2.2, by have := HVM.out.2.2.lt; omega⟩
                  clear hTO hF5 hp5 hE5 K5 HVM HCB HKV hV
                  go_wp2_with fail
                  go_loopg [21] T (fun m i wr => ∃ s : Nat, i = .int .i64 s ∧ s ≤ T ∧ m = T - s ∧ Hid (FS wr p E (St s) ∧ Mm wr b M n' (wrt fw N) (q + s) ∧ Mut [p, M] W3 wr))
                  case atStart => exact ⟨0, rfl, by omega, by omega, HS0.out.1, HS0.out.2.1, Mut.refl _ _⟩
                  case round =>
                    obtain ⟨s, rfl, ht, hm, hw⟩ := hrel
                    have HM : Hid _ := hm
                    clear hm
                    by_cases hlt : s < T
                    · have h8 : ((St s).st == 8) = false := by rw [HGO.out.st s ht]; simp; omega
                      have h10 : (s : Int) < 20 := by omega
                      have hcc : q + s ≤ 100000 := by omega
                      go_wp2_with fail
                      refine (done_is false _ hw.out.1 h8).mono ?_
                      rintro e w4 ⟨rfl, rfl⟩
                      go_wp2_with fail
                      refine (HGO.out.step s hlt b M (q + s) _ hw.out.1 hw.out.2.1 HS0.out.2.2.1 HS0.out.2.2.2 hcc).mono ?_
                      rintro e w5 ⟨rfl, x1, x2, x3⟩
                      have HN : Hid (FS w5 p E (St (s + 1)) ∧ Mm w5 b M n' (wrt fw N) (q + (s + 1)) ∧ Mut [p, M] W3 w5) := ⟨x1, x2, hw.out.2.2.trans x3⟩
                      clear x1 x2 x3 hw h8
                      go_wp2
                      go_roundg (T - (s + 1))
                      case measure => have := HM.out; omega
                      case rel => exact ⟨s + 1, by go_num, by omega, by omega, HN⟩
                    · obtain rfl : T = s := by omega
                      have h8 : ((St T).st == 8) = true := by rw [HGO.out.st T ht]; simp
                      have h10 : (T : Int) < 20 := by omega
                      go_wp2_with fail
                      refine (done_is true _ hw.out.1 h8).mono ?_
                      rintro e w4 ⟨rfl, rfl⟩
                      have HW4 : Hid (FS w4 p E (St T) ∧ Mm w4 b M n' (wrt fw N) (q + T) ∧ Mut [p, M] W3 w4) := hw
                      clear hw HM h8 ht hlt
                      have HW5 : Hid (Kept u7 w4 ∧ Mm w4 b M n' (wrt fw N) (q + T) ∧ w4.rowIs mb 4 n' (mv (mtb AD (min (t - 1) mn))) ∧ FS w4 p E (St T)) := ⟨HKW.out.1.muts HW4.out.2.2 (by have := HKW.out.2; simp; omega), HW4.out.2.1, HW4.out.2.2.row HMT.out (by have := HMB.out; simp; omega), HW4.out.1⟩
                      by_cases hto : t = 0 ∨ t = mn + 1
                      · have HOT : Hid ((St T).at' = -1 ∧ (St T).er = 5) := HTO.out.out hto
                        have HTT0 : Hid (t = 0 ∨ t = mn + 1) := hto
                        by_cases ht0 : t = 0
                        · have e0 : kI < 0 := by have := HKI.out; omega
                          clear hto ht0
                          go_wp2_with fail
                          refine (errno_is _ HW4.out.1).mono ?_
                          rintro e y5 ⟨rfl, rfl⟩
                          rw [HOT.out.2]
                          go_wp2_with fail
                          refine (at_is _ HW4.out.1).mono ?_
                          rintro e y6 ⟨rfl, rfl⟩
                          rw [HOT.out.1]
                          go_wp2
                          go_roundg (mn + 2 - (t + 1))
                          case measure => have := HMo.out; omega
                          case rel => exact ⟨t + 1, q + T, kI + 1, rfl, by have := HKI.out; omega, by omega, by omega, by omega, HW5.out.1, HW5.out.2.1, by
                              have := HW5.out.2.2.1
                              have hh := HTT0.out
                              rwa [show min (t - 1) mn = min (t + 1 - 1) mn by omega] at this⟩
                        · have e0 : ¬ kI < 0 := by have := HKI.out; omega
                          have e1 : kI ≥ (mn : Int) := by have := HKI.out; omega
                          clear hto ht0
                          go_wp2_with fail
                          refine (errno_is _ HW4.out.1).mono ?_
                          rintro e y5 ⟨rfl, rfl⟩
                          rw [HOT.out.2]
                          go_wp2_with fail
                          refine (at_is _ HW4.out.1).mono ?_
                          rintro e y6 ⟨rfl, rfl⟩
                          rw [HOT.out.1]
                          go_wp2
                          go_roundg (mn + 2 - (t + 1))
                          case measure => have := HMo.out; omega
                          case rel => exact ⟨t + 1, q + T, kI + 1, rfl, by have := HKI.out; omega, by omega, by omega, by omega, HW5.out.1, HW5.out.2.1, by
                              have := HW5.out.2.2.1
                              have hh := HTT0.out
                              rwa [show min (t - 1) mn = min (t + 1 - 1) mn by omega] at this⟩
                      · have HW5 : Hid (Kept u7 w4 ∧ Mm w4 b M n' (wrt fw N) (q + T) ∧ w4.rowIs mb 4 n' (mv (mtb AD (t - 1))) ∧ FS w4 p E (St T)) := ⟨HW5.out.1, HW5.out.2.1, by have := HW5.out.2.2.1; rwa [show min (t - 1) mn = t - 1 by omega] at this, HW5.out.2.2.2⟩
                        obtain ⟨j, rfl⟩ : ∃ j, t = j + 1 := ⟨t - 1, by omega⟩
                        obtain rfl : kI = (j : Int) := by have := HKI.out; omega
                        have hjm : j < mn := by omega
                        have HTL : Hid (T ≤ (fun _ => 5) j ∧ Tells n' (wrt fw N) (St T) (AD j) ((fun _ => R k 0) j)) := HTO.out.inn j rfl hjm
                        have H5 : Hid (Kept u7 w4 ∧ Mm w4 b M n' (wrt fw N) (q + T) ∧ w4.rowIs mb 4 n' (mv (mtb AD j)) ∧ FS w4 p E (St T)) := ⟨HW5.out.1, HW5.out.2.1, HW5.out.2.2.1, HW4.out.1⟩
                        have e0 : ¬ (j : Int) < 0 := by omega
                        have e1 : ¬ (j : Int) ≥ (mn : Int) := by omega
                        have HNM : Hid (mtb AD j (AD j) = false) := mtb_not (fun i hi => HAD.out.2 i j hi hjm)
                        obtain ⟨a, ha⟩ : ∃ a, AD j = a := ⟨_, rfl⟩
                        have HA5 : Hid (AD j = a) := ha
                        have han : a < n' := by rw [← ha]; exact HTL.out.2.lt
                        have hab5 : a ≤ 100000 := by omega
                        clear ha HW5 HW4
                        go_wp2_with fail
                        refine (at_is _ H5.out.2.2.2).mono ?_
                        rintro e w5 ⟨rfl, rfl⟩
                        rw [HTL.out.2.at_, HA5.out]
                        have CD : Hid (∀ z : KW w5, Calls Try.prog 31 #[.pointer (some ⟨p, 0, none⟩)] z.it fun e w' => e = .returned (.bool true) ∧ w' = z.it) := fun z => done_is true _ (H5.out.2.2.2.kept z.ok) (by rw [HGO.out.st T (Nat.le_refl _)]; simp)
                        have CE : Hid (∀ z : KW w5, Calls Try.prog 33 #[.pointer (some ⟨p, 0, none⟩)] z.it fun e w' => e = .returned (.int .i64 0) ∧ w' = z.it) := fun z => by
                          have := errno_is _ (H5.out.2.2.2.kept z.ok)
                          rw [HTL.out.2.er] at this
                          exact this
                        have CT : Hid (∀ z : KW w5, Calls Try.prog 35 #[.pointer (some ⟨p, 0, none⟩)] z.it fun e w' => e = .returned (.int .i64 (T : Int)) ∧ w' = z.it) := fun z => by
                          have := steps_is _ (H5.out.2.2.2.kept z.ok)
                          rw [HGO.out.sp] at this
                          exact this
                        have CR : Hid (∀ z : KW w5, Calls Try.prog 36 #[.pointer (some ⟨p, 0, none⟩)] z.it fun e w' => e = .returned (.bool (R k 0)) ∧ w' = z.it) := fun z => by
                          have := ref_is _ (H5.out.2.2.2.kept z.ok) (by rw [HTL.out.2.at_]; omega)
                          rw [HTL.out.2.rf] at this
                          exact this
                        have c5 := H5.out.2.2.1.cell han
                        have hmb5 : mb < w5.heap.size := H5.out.2.2.1.lt
                        have c5' : w5.cell? ⟨mb, a, none⟩ = some (.bool false) := by
                          have q : mtb AD j a = false := by rw [← HA5.out]; exact HNM.out
                          rw [c5]
                          simp only [mv, q]
                        have d5 := fun z : KW w5 => z.cell (a := ⟨mb, a, none⟩) hmb5 c5'
                        have sB := HU7.out.2.2.1.kept H5.out.1
                        have d0 := fun z : KW w5 => z.cell (a := ⟨sb, 0, none⟩) sB.lt (sB.at 0 rfl)
                        have d1 := fun z : KW w5 => z.cell (a := ⟨sb, 1, none⟩) sB.lt (sB.at 1 rfl)
                        have rB : rg < w5.heap.size ∧ ∀ i, i < 1 → w5.cell? ⟨rg, i, none⟩ = some (.bool (R k i)) := by
                          obtain ⟨g', o', e, hg', cc⟩ := HU7.out.2.2.2.1.kept H5.out.1 (by omega)
                          obtain ⟨rfl, rfl⟩ : rg = g' ∧ 0 = o' := by simpa using e
                          exact ⟨hg', fun i hi => by simpa using cc i hi⟩
                        have d2 := fun z : KW w5 => z.cell (a := ⟨rg, 0, none⟩) rB.1 (rB.2 0 (by omega))
                        obtain ⟨j8, hj8⟩ : ∃ j8, j / 8 = j8 := ⟨_, rfl⟩
                        have hjj : (j : Int) / 8 = (j8 : Int) := by omega
                        obtain ⟨Lq, hLq⟩ : ∃ Lq, L (1 + j8) = Lq := ⟨_, rfl⟩
                        have hfr : 1 + j8 < l := by rw [← hj8]; exact HFR.out j hjm
                        have hfi : (1 : Int) + (j8 : Int) < (l : Int) := by omega
                        have xK : Kept w w5 := HU7.out.1.trans H5.out.1
                        have gq : w5.cell? ⟨xb, xo + (1 + j8), none⟩ = some (.int .i64 Lq) := (xK.cell HX.out.1).trans (by rw [← hLq]; exact HX.out.2 (1 + j8) hfr)
                        have d3 := fun z : KW w5 => z.cell (a := ⟨xb, xo + (1 + j8), none⟩) (by have := HX.out.1; have := xK.size; simp only; omega) gq
                        have haL : (a : Int) = Lq * 8 + ((j % 8 : Nat) : Int) := by
                          have := HAD.out.1 j hjm
                          rw [HA5.out, hj8, hLq] at this
                          exact this
                        have ha8 : (a : Int) / 8 = Lq := by omega
                        have hb7 : bits .and .i64 (a : Int) 7 = ((j % 8 : Nat) : Int) := by rw [i64_and7]; omega
                        have hb7' : bits .and .i64 (j : Int) 7 = ((j % 8 : Nat) : Int) := by rw [i64_and7]; omega
                        obtain ⟨jm, hjm8⟩ : ∃ jm, j % 8 = jm := ⟨_, rfl⟩
                        rw [hjm8] at hb7 hb7'
                        have hT5 : ¬ (T : Int) > 5 := by have hh : T ≤ 5 := HTL.out.1; omega
                        have hT5' : decide ((T : Int) > 5) = false := by simpa using hT5
                        have hT6' : decide ((5 : Int) < (T : Int)) = false := by simpa using hT5
                        have hT7' : decide (5 < T) = false := by simp; omega
                        clear haL hjm8 hLq gq xK
                        have f1 : decide ((a : Int) < 0) = false := by simp
                        have f2 : decide ((a : Int) ≥ (n' : Int)) = false := by simp; omega
                        have f3 : decide ((n' : Int) ≤ (a : Int)) = false := by simp; omega
                        have f4 : decide (n' ≤ a) = false := by simp; omega
                        clear c5 c5' sB rB hmb5
                        go_upto_region 37 with fail
                        refine wp_region_kept (by kernel_rfl) (by kernel_rfl) fun _ => ?_
                        (try simp only [List.append_eq, List.cons_append, List.nil_append])
                        repeat (go_big_quiet_step (first | (go_at_call 31; exact kept_of_same (CD.out _)) | (go_at_call 33; exact kept_of_same (CE.out _)) | (go_at_call 35; exact kept_of_same (CT.out _)) | (go_at_call 36; exact kept_of_same (CR.out _))))
                        refine wpQuiet_nil ?_
                        rintro _ ⟨z, rfl⟩
                        have H6 : Hid (Kept u7 z.it ∧ Mm z.it b M n' (wrt fw N) (q + T) ∧ z.it.rowIs mb 4 n' (mv (mtb AD j)) ∧ FS z.it p E (St T)) := ⟨H5.out.1.trans z.ok, H5.out.2.1.kept z.ok, z.ok.row H5.out.2.2.1, H5.out.2.2.2.kept z.ok⟩
                        clear H5
                        generalize z.it = w6 at *
                        have s0 := (HU7.out.2.2.1.kept H6.out.1).at 0 rfl
                        go_upto_region 43 with fail
                        obtain ⟨W8, rfl⟩ : ∃ W8, W8 = w6 := ⟨_, rfl⟩
                        have H8 := H6
                        clear H6 s0 d0 d1 d2 d3 d5 f1 f2 f3 f4
                        have hm6 := H8.out.2.2.1
                        have c8 := hm6.cell han
                        have z8 := hm6.frozen
                        have H9 : Hid (Kept u7 (W8.setCell ⟨mb, a, none⟩ (.bool true)) ∧ Mm (W8.setCell ⟨mb, a, none⟩ (.bool true)) b M n' (wrt fw N) (q + T) ∧ (W8.setCell ⟨mb, a, none⟩ (.bool true)).rowIs mb 4 n' (mv (mtb AD (j + 1))) ∧ FS (W8.setCell ⟨mb, a, none⟩ (.bool true)) p E (St T)) := by
                          have hMb := HMB.out
                          have mm : Mut [mb] W8 (W8.setCell ⟨mb, a, none⟩ (.bool true)) := (Mut.refl _ _).setCell (by simp) _
                          refine ⟨H8.out.1.muts mm (by simp; omega), H8.out.2.1.muts mm (by simp; omega) (by simp; omega), (hm6.set a (.bool true)).congr (fun i hi => ?_), H8.out.2.2.2.muts mm (by simp; omega)⟩
                          simp only [mv, mtb]
                          rw [HA5.out]
                          by_cases e : i = a
                          · simp [e]
                          · simp [e]
                        clear hm6
                        go_wp2_with fail
                        refine (mem_peek a _ H9.out.2.1 han).mono ?_
                        rintro e y1 ⟨rfl, rfl⟩
                        go_wp2_with fail
                        refine (ref_is _ H9.out.2.2.2 (by rw [HTL.out.2.at_]; omega)).mono ?_
                        rintro e y2 ⟨rfl, rfl⟩
                        rw [HTL.out.2.rf]
                        go_wp2_with fail
                        refine (blank_any _ _).mono ?_
                        rintro e y3 ⟨rfl, rfl⟩
                        go_wp2_with fail
                        rw [show wrt fw N a = un ((fun _ => R k 0) j) by rw [← HA5.out]; exact HTL.out.2.is_]
                        refine (same_un _ _).mono ?_
                        rintro e y4 ⟨rfl, rfl⟩
                        go_wp2
                        go_roundg (mn + 2 - (j + 1 + 1))
                        case measure => have := HMo.out; omega
                        case rel => exact ⟨j + 1 + 1, q + T, (j : Int) + 1, rfl, by omega, by omega, by omega, by omega, H9.out.1, H9.out.2.1, by rw [show min (j + 1 + 1 - 1) mn = j + 1 by omega]; exact H9.out.2.2.1⟩
        · have hle : ¬ kI ≤ (mn : Int) := by omega
          have HKF : Hid (Kept w V) := HU7.out.1.trans hw.out.1
          clear hw hkI
          go_wp2_with fail
          refine (first_any _).mono ?_
          rintro e u9 ⟨rfl, K9⟩
          have K10 : Hid (Kept w u9) := HKF.out.trans K9
          clear K9
          go_wp2
          go_ret
          exact ⟨rfl, K10.out⟩
end Go.Proofs.Ytpdclckgnajcdaa
