/-
  TraceAll's walk over objects that are laid.
-/
import Derived.Test.YtpdclckgnajcdaaGreatAllA16
import Derived.Test.YtpdclckgnajcdaaGreatMo17
import Derived.Test.YtpdclckgnajcdaaGreatMj16
import Derived.Test.YtpdclckgnajcdaaGreatLaid16
namespace Go.Proofs.YtpdclckgnajcdaaGreat
open Go.RowKit

set_option maxRecDepth 20000 in
set_option maxHeartbeats 16000000 in
theorem all_obj_yes (n0 n1 n2 n3 n4 n5 n6 n7 : Int) (sx : Option Addr) (sl sc : Nat) (S : Nat → Sh) (R : Nat → Nat → Bool) (k : Nat) (n : Int) (x : Option Addr) (l c : Nat) (L : Nat → Int) (at' : Int) (y : Option Addr) (yl yc : Nat) (w : World) (hS : Shps w sx sl S) (hR : ∀ i, i < sl → Refs w (S i).x (S i).l (R i)) (hk : k < sl) (hZ : (S k).l ≤ 140737488351232) (hm : Small sl S) (hl : l ≤ 200) (hab : (S k).arr = false) 
    (N : Nat) (fw : Nat → Wr) (CO : ∀ w', Kept w w' → Calls Tryz.prog 10 #[.agg #[.int .i64 n0, .int .i64 n1, .int .i64 n2, .int .i64 n3, .int .i64 n4, .int .i64 n5, .int .i64 n6, .int .i64 n7, .slice sx sl sc], .int .i64 k, .slice x l c] w' fun e w'' => ∃ v, e = .returned (.tuple #[v, .int .i64 0]) ∧ Ws w'' w'.heap.size v N fw ∧ Kept w' w'') (hN0 : 0 < N) (hN : N ≤ 2000) (hg : Good n0 n1 n2 n3 n4 n5 n6 n7 sl S) (n' : Nat) (hn' : (n' : Int) = 8 * n0 + 2 * n1 + n2) (hA : ∀ i, i < N → ∃ a : Nat, a < n' ∧ (fw i).a = (a : Int))
    (hx : Rdf w x l L) (hl0 : 0 < l) (hq6 : 1 ≤ n6 ∧ n6 ≤ 256) (hyl : yl ≤ 600) (hr0 : Checks n0 n1 n2 n3 n4 n5 n6 n7 sl S 0) (RV : Nat → Int) (hy : Rdf w y yl RV) (th : Th) (K : Nat) (ad : Nat → Nat) (hm' : Int) (hK : K ≤ 512) (hmany : (S k).l = K) (hTL : th.L = L) (hTlq : th.l = l) (hTN : th.N = K) (hTR : ∀ s, s < K → th.ref s = R k s)
    (hTV : ∀ s, th.V s = if s < K ∧ s < yl ∧ th.ref s = true ∧ 0 ≤ RV s ∧ RV s < n0 then some (RV s) else none) (hall : th.all < 18 * l + 3) (hall2 : th.all ≤ 2000) (hfr : ∀ j, j < l → 0 ≤ L j ∧ L j < n0) (hsl : ∀ s, s < K → (s + 1) / 7 < l)
    (had : ∀ s, s < K → L ((s + 1) / 7) * 8 + ((1 + (s + 1) % 7 : Nat) : Int) = ad s ∧ ad s < n') (hEnv : ∀ E, Began n0 n1 sl S R E → Env E n' (ovr (wrt fw N) ad th.V K) k hm' th) :
    Calls Tryz.prog 3 #[.agg #[.int .i64 n0, .int .i64 n1, .int .i64 n2, .int .i64 n3, .int .i64 n4, .int .i64 n5, .int .i64 n6, .int .i64 n7, .slice sx sl sc], .int .i64 k, .int .i64 n, .slice x l c, .int .i64 at', .slice y yl yc] w fun e w' => e = .returned (.bool true) ∧ Kept w w' := by
  have hnb : n' ≤ 100000 := by
    have hf := hg.1
    unfold Fits at hf
    omega
  have hn0 : 4 ≤ n0 ∧ n0 ≤ 1024 := by
    have hf := hg.1
    unfold Fits at hf
    omega
  obtain ⟨sn, hsn⟩ : ∃ sn : Nat, n0 = (sn : Int) := ⟨n0.toNat, by omega⟩
  obtain ⟨sm, hsm⟩ : ∃ sm : Nat, n6 = (sm : Int) := ⟨n6.toNat, by omega⟩
  subst hsn hsm
  have h40 : (S k).l ≤ 40 := may_few (hg.2.2.2 k hk)
  have CF : Hid (∀ w', Kept w w' → Calls Tryz.prog 9 #[.agg #[.int .i64 (sn : Int), .int .i64 n1, .int .i64 n2, .int .i64 n3, .int .i64 n4, .int .i64 n5, .int .i64 (sm : Int), .int .i64 n7, .slice sx sl sc]] w' _) := fun w' k => few_any (sn : Int) n1 n2 n3 n4 n5 (sm : Int) n7 sx sl sc S true w' (hS.kept k) ⟨fun _ => hm, fun _ => rfl⟩
  have CK : Hid (∀ w', Kept w w' → Calls Tryz.prog 8 #[.agg #[.int .i64 (sn : Int), .int .i64 n1, .int .i64 n2, .int .i64 n3, .int .i64 n4, .int .i64 n5, .int .i64 (sm : Int), .int .i64 n7, .slice sx sl sc]] w' _) := fun w' q => ref_check (sn : Int) n1 n2 n3 n4 n5 (sm : Int) n7 sx sl sc S 0 w' (hS.kept q) hr0
  have CS : Hid (∀ w', Kept w w' → Calls Tryz.prog 7 #[.agg #[.int .i64 (sn : Int), .int .i64 n1, .int .i64 n2, .int .i64 n3, .int .i64 n4, .int .i64 n5, .int .i64 (sm : Int), .int .i64 n7, .slice sx sl sc], .int .i64 k] w' _) := fun w' q => shape_in (sn : Int) n1 n2 n3 n4 n5 (sm : Int) n7 sx sl sc S (R k) k w' hk hZ (hS.kept q) ((hR k hk).kept q)
  obtain ⟨fl, hfe⟩ : ∃ fl, (S k).l = fl := ⟨_, rfl⟩
  obtain ⟨ab, hae⟩ : ∃ ab, (S k).arr = ab := ⟨_, rfl⟩
  have HFL : Hid ((S k).arr = ab ∧ (S k).l = fl) := ⟨hae, hfe⟩
  obtain rfl : ab = false := by rw [← hae, hab]
  rw [hfe] at h40 hmany
  have CO : Hid (∀ w', Kept w w' → _) := CO
  have CL : Hid (∀ w', Kept w w' → Calls Tryz.prog 12 #[.agg #[.int .i64 (sn : Int), .int .i64 n1, .int .i64 n2, .int .i64 n3, .int .i64 n4, .int .i64 n5, .int .i64 (sm : Int), .int .i64 n7, .slice sx sl sc], .slice none 0 0] w' _) := fun w' q => fill_nil (sn : Int) n1 n2 n3 n4 n5 (sm : Int) n7 sx sl sc S n' w' (hS.kept q) (by rw [hn']; exact Is.is _ hg) hnb
  have HSR : Hid (Shps w sx sl S ∧ (∀ i, i < sl → Refs w (S i).x (S i).l (R i)) ∧ Good (sn : Int) n1 n2 n3 n4 n5 (sm : Int) n7 sl S) := ⟨hS, hR, hg⟩
  have HA : Hid (∀ i, i < N → ∃ a : Nat, a < n' ∧ (fw i).a = (a : Int)) := hA
  obtain ⟨xb, xo, rfl, hxb, hxc⟩ := hx hl0
  have HX : Hid (xb < w.heap.size ∧ ∀ j, j < l → w.cell? ⟨xb, xo + j, none⟩ = some (.int .i64 (L j))) := ⟨hxb, hxc⟩
  have HY : Hid (Rdf w y yl RV) := hy
  obtain ⟨cc, rfl⟩ : ∃ cc, cc = c := ⟨_, rfl⟩
  obtain ⟨Tl, hTl⟩ : ∃ Tl : Int → Prop, Tl = fun i => ∃ j, 1 ≤ j ∧ j < l ∧ L j = i := ⟨_, rfl⟩
  have HTl : Hid (∀ i, Tl i ↔ ∃ j, 1 ≤ j ∧ j < l ∧ L j = i) := fun i => by rw [hTl]
  have HTH : Hid (th.L = L ∧ th.l = l ∧ th.N = K ∧ (∀ s, s < K → th.ref s = R k s) ∧ (∀ s, th.V s = if s < K ∧ s < yl ∧ th.ref s = true ∧ 0 ≤ RV s ∧ RV s < (sn : Int) then some (RV s) else none) ∧ th.all < 18 * l + 3 ∧ th.all ≤ 2000) := ⟨hTL, hTlq, hTN, hTR, hTV, hall, hall2⟩
  have HAD : Hid ((∀ s, s < K → (s + 1) / 7 < l) ∧ ∀ s, s < K → L ((s + 1) / 7) * 8 + ((1 + (s + 1) % 7 : Nat) : Int) = ad s ∧ ad s < n') := ⟨hsl, had⟩
  have HEV : Hid (∀ E, Began (sn : Int) n1 sl S R E → Env E n' (ovr (wrt fw N) ad th.V K) k hm' th) := hEnv
  have HFR : Hid (∀ j, j < l → 0 ≤ L j ∧ L j < (sn : Int)) := hfr
  have hyl2 : ¬ (yl : Int) > 600 := by omega
  have hmk := run_make_bools sn (by omega)
  clear hS hR hk hm hZ hab hfe hae hg hn' hA hx hxb hxc hy hTl hTL hTlq hTN hTR hTV hall hall2 hfr hsl had hEnv hr0
  have hmany2 := hmany.symm
  clear hmany
  subst hmany2
  go_enter Tryz.func3, Tryz.ntmps3
  go_wp2_with fail
  generalize hW1 : w.alloc _ = W1
  have HW1 : Hid (Kept w W1 ∧ Blk W1 w.heap.size (cl (sn : Int) n1 n2 n3 n4 n5 (sm : Int) n7 (.slice sx sl sc))) := by rw [← hW1]; exact ⟨(Kept.refl w).alloc _ _, Blk.new w _ _⟩
  clear hW1
  refine (first_any _).mono ?_
  rintro e u1 ⟨rfl, Kz⟩
  have HW : Hid (Kept w u1 ∧ Blk u1 w.heap.size (cl (sn : Int) n1 n2 n3 n4 n5 (sm : Int) n7 (.slice sx sl sc))) := ⟨HW1.out.1.trans Kz, HW1.out.2.kept Kz⟩
  clear HW1 Kz
  have c0 := HW.out.2.at 0 rfl
  have c1 := HW.out.2.at 1 rfl
  have c2 := HW.out.2.at 2 rfl
  have c3 := HW.out.2.at 3 rfl
  have c4 := HW.out.2.at 4 rfl
  have c5 := HW.out.2.at 5 rfl
  have c6 := HW.out.2.at 6 rfl
  have c7 := HW.out.2.at 7 rfl
  have c8 := HW.out.2.at 8 rfl
  go_wp2_with fail
  refine (CS.out _ HW.out.1).mono ?_
  rintro e u4 ⟨rg, rfl, hrg, hRR, Kz⟩
  rw [HFL.out.2] at hRR
  have HV : Hid (Kept w u4 ∧ Blk u4 w.heap.size (cl (sn : Int) n1 n2 n3 n4 n5 (sm : Int) n7 (.slice sx sl sc)) ∧ Refs u4 (some ⟨rg, 0, none⟩) K (R k)) := ⟨HW.out.1.trans Kz, HW.out.2.kept Kz, hRR⟩
  clear HW Kz c0 c1 c2 c3 c4 c5 c6 c7 c8 CS hrg hRR
  rw [HFL.out.1, HFL.out.2]
  go_upto_region 4 with fail
  generalize hW3 : u4.alloc _ = W3
  have HW : Hid (Kept w W3 ∧ Blk W3 w.heap.size (cl (sn : Int) n1 n2 n3 n4 n5 (sm : Int) n7 (.slice sx sl sc)) ∧ Blk W3 u4.heap.size [.bool false, .slice (some ⟨rg, 0, none⟩) K K] ∧ Refs W3 (some ⟨rg, 0, none⟩) K (R k)) := by rw [← hW3]; exact ⟨HV.out.1.alloc _ _, HV.out.2.1.kept ((Kept.refl _).alloc _ _), Blk.new u4 [_, _] _, HV.out.2.2.kept ((Kept.refl _).alloc _ _)⟩
  clear HV hW3
  generalize u4.heap.size = sb at *
  have c0 := HW.out.2.1.at 0 rfl
  have c1 := HW.out.2.1.at 1 rfl
  have c2 := HW.out.2.1.at 2 rfl
  have c3 := HW.out.2.1.at 3 rfl
  have c4 := HW.out.2.1.at 4 rfl
  have c5 := HW.out.2.1.at 5 rfl
  have c6 := HW.out.2.1.at 6 rfl
  have c7 := HW.out.2.1.at 7 rfl
  have c8 := HW.out.2.1.at 8 rfl
  go_wp2_with fail
  refine (CK.out _ HW.out.1).mono ?_
  rintro e uk ⟨rfl, Kz⟩
  have HWk : Hid (Kept w uk ∧ Blk uk w.heap.size (cl (sn : Int) n1 n2 n3 n4 n5 (sm : Int) n7 (.slice sx sl sc)) ∧ Blk uk sb [.bool false, .slice (some ⟨rg, 0, none⟩) K K] ∧ Refs uk (some ⟨rg, 0, none⟩) K (R k)) := ⟨HW.out.1.trans Kz, HW.out.2.1.kept Kz, HW.out.2.2.1.kept Kz, HW.out.2.2.2.kept Kz⟩
  clear HW Kz c0 c1 c2 c3 c4 c5 c6 c7 c8 CK
  have HW := HWk
  clear HWk
  have c0 := HW.out.2.1.at 0 rfl
  have c1 := HW.out.2.1.at 1 rfl
  have c2 := HW.out.2.1.at 2 rfl
  have c3 := HW.out.2.1.at 3 rfl
  have c4 := HW.out.2.1.at 4 rfl
  have c5 := HW.out.2.1.at 5 rfl
  have c6 := HW.out.2.1.at 6 rfl
  have c7 := HW.out.2.1.at 7 rfl
  have c8 := HW.out.2.1.at 8 rfl
  go_wp2_with fail
  refine (CF.out _ HW.out.1).mono ?_
  rintro e u5 ⟨rfl, Kz⟩
  have HK : Hid (Kept w u5 ∧ Blk u5 w.heap.size (cl (sn : Int) n1 n2 n3 n4 n5 (sm : Int) n7 (.slice sx sl sc)) ∧ Blk u5 sb [.bool false, .slice (some ⟨rg, 0, none⟩) K K] ∧ Refs u5 (some ⟨rg, 0, none⟩) K (R k)) := ⟨HW.out.1.trans Kz, HW.out.2.1.kept Kz, HW.out.2.2.1.kept Kz, HW.out.2.2.2.kept Kz⟩
  clear HW Kz c0 c1 c2 c3 c4 c5 c6 c7 c8 CF
  have s0 := HK.out.2.2.1.at 0 rfl
  have hl2 : ¬ (l : Int) > 200 := by omega
  have hcb := HK.out.2.1
  have c0 := hcb.at 0 rfl
  have c1 := hcb.at 1 rfl
  have c2 := hcb.at 2 rfl
  have c3 := hcb.at 3 rfl
  have c4 := hcb.at 4 rfl
  have c5 := hcb.at 5 rfl
  have c6 := hcb.at 6 rfl
  have c7 := hcb.at 7 rfl
  have c8 := hcb.at 8 rfl
  clear hcb
  go_wp2_with fail
  refine (CO.out _ HK.out.1).mono ?_
  rintro e u7 ⟨v, rfl, hv, Kz⟩
  have HK7 : Hid (Kept w u7 ∧ Blk u7 w.heap.size (cl (sn : Int) n1 n2 n3 n4 n5 (sm : Int) n7 (.slice sx sl sc)) ∧ Blk u7 sb [.bool false, .slice (some ⟨rg, 0, none⟩) K K] ∧ Refs u7 (some ⟨rg, 0, none⟩) K (R k)) := ⟨HK.out.1.trans Kz, HK.out.2.1.kept Kz, HK.out.2.2.1.kept Kz, HK.out.2.2.2.kept Kz⟩
  clear HK Kz c0 c1 c2 c3 c4 c5 c6 c7 c8 s0 CO
  have hcb := HK7.out.2.1
  have c0 := hcb.at 0 rfl
  have c1 := hcb.at 1 rfl
  have c2 := hcb.at 2 rfl
  have c3 := hcb.at 3 rfl
  have c4 := hcb.at 4 rfl
  have c5 := hcb.at 5 rfl
  have c6 := hcb.at 6 rfl
  have c7 := hcb.at 7 rfl
  have c8 := hcb.at 8 rfl
  have s0 := HK7.out.2.2.1.at 0 rfl
  have s1 := HK7.out.2.2.1.at 1 rfl
  clear hcb
  obtain ⟨g, dd, rfl, hg1, hg2, hgc⟩ := hv.here hN0
  clear hv
  obtain ⟨U, rfl⟩ : ∃ U, U = u7 := ⟨_, rfl⟩
  go_wp2_with fail
  refine (CL.out _ HK7.out.1).mono ?_
  rintro e V ⟨b, M, rfl, hM, K8, hb8, hM8⟩
  have HV : Hid (Kept U V ∧ Mm V b M n' (fun _ => cz) 0 ∧ U.heap.size ≤ M ∧ U.heap.size ≤ b) := ⟨K8, hM, hM8, hb8⟩
  have HU7 : Hid (Kept w U ∧ Blk U w.heap.size (cl (sn : Int) n1 n2 n3 n4 n5 (sm : Int) n7 (.slice sx sl sc)) ∧ Blk U sb [.bool false, .slice (some ⟨rg, 0, none⟩) K K] ∧ Refs U (some ⟨rg, 0, none⟩) K (R k)) := HK7
  have hlz : ((l : Int) == 0) = false := by simp; omega
  clear hM K8 hb8 hM8 CL c0 c1 c2 c3 c4 c5 c6 c7 c8 s0 s1 HK7
  have hcb := HU7.out.2.1.kept HV.out.1
  have c0 := hcb.at 0 rfl
  have c1 := hcb.at 1 rfl
  have c2 := hcb.at 2 rfl
  have c3 := hcb.at 3 rfl
  have c4 := hcb.at 4 rfl
  have c5 := hcb.at 5 rfl
  have c6 := hcb.at 6 rfl
  have c7 := hcb.at 7 rfl
  have c8 := hcb.at 8 rfl
  clear hcb
  have CSN : Hid (Calls Tryz.prog 13 #[.int .i64 (sn : Int), .int .i64 (sm : Int)] V fun e w' => ∃ sb1 tb, e = .returned (.tuple #[.pointer (some ⟨sb1, 0, none⟩), .int .i64 0]) ∧ Mo U w' b M n' sb1 tb (fun _ => cz) 0 (ShS.new sn sm)) := mo_new sn sm HV.out.1 HV.out.2.1 HV.out.2.2.1 HV.out.2.2.2 (by omega) (by omega) (by omega)
  go_wp2_with fail
  refine CSN.out.mono ?_
  rintro e W ⟨sb1, tb, rfl, HMo⟩
  have HI0 : Hid (Mo U W b M n' sb1 tb (wrt fw 0) 0 (ShS.new sn sm)) := HMo
  have HWS : Hid (g < W.heap.size ∧ g ≠ M ∧ g ≠ b ∧ ∀ i, i < N → W.cell? ⟨g, i * 2, none⟩ = some (.int .i64 (fw i).a) ∧ W.cell? ⟨g, i * 2 + 1, none⟩ = some (.complex .f64 (fw i).z.re (fw i).z.im)) := by
    have h1 := HV.out.2.2
    exact ⟨Nat.lt_of_lt_of_le hg2 HMo.kept.size, by omega, by omega, fun i hi => ⟨(HMo.kept.cell hg2).trans (hgc i hi).1, (HMo.kept.cell hg2).trans (hgc i hi).2⟩⟩
  clear HMo HV hg1 hg2 hgc CSN c0 c1 c2 c3 c4 c5 c6 c7 c8
  go_wp2_with fail
  refine (mo_table HI0.out).mono ?_
  rintro e Wx ⟨rfl, rfl⟩
  obtain ⟨W, rfl⟩ : ∃ W, W = Wx := ⟨_, rfl⟩
  go_wp2_with fail
  go_loopg [21] N (fun m i wr => ∃ k : Nat, i = .int .i64 k ∧ k ≤ N ∧ m = N - k ∧ Hid (Mo U wr b M n' sb1 tb (wrt fw k) k (ShS.new sn sm) ∧ Mut [M, b] W wr))
  case atStart => exact ⟨0, rfl, by omega, by omega, HI0.out, Mut.refl _ _⟩
  case round =>
    obtain ⟨k, rfl, hk, hm, hw⟩ := hrel
    have HM : Hid _ := hm
    clear hm
    by_cases hlt : k < N
    · obtain ⟨a, han, hfa⟩ := HA.out k hlt
      have ca : wr.cell? ⟨g, k * 2, none⟩ = some (.int .i64 (a : Int)) := (hw.out.2.cell HWS.out.1 (by have := HWS.out.2.1; have := HWS.out.2.2.1; simp; omega)).trans (by rw [← hfa]; exact (HWS.out.2.2.2 k hlt).1)
      have cb : wr.cell? ⟨g, k * 2 + 1, none⟩ = some (.complex .f64 (fw (k)).z.re (fw (k)).z.im) := (hw.out.2.cell HWS.out.1 (by have := HWS.out.2.1; have := HWS.out.2.2.1; simp; omega)).trans (HWS.out.2.2.2 k hlt).2
      have CW : Hid (Calls Tryz.prog 15 #[.pointer (some ⟨M, 0, none⟩), .int .i64 a, .complex .f64 (fw (k)).z.re (fw (k)).z.im] wr.drew _) := mo_write (G := wrt fw (k + 1)) a (fw (k)).z (hw.out.1.still (Kept.refl _).drew) han (by omega) (fun j _ => wrt_step hfa j)
      have HD : Hid (Mut [M, b] W wr.drew) := hw.out.2.drew
      clear hw
      generalize (fw (k)).z = zz at *
      go_wp2_with fail
      go_region_with (go_at_call 15; refine CW.out.mono ?_; rintro e w2 ⟨rfl, t2, m2⟩; have HR : Hid (Mo U w2 b M n' sb1 tb (wrt fw (k + 1)) (k + 1) (ShS.new sn sm) ∧ Mut [M, b] W w2) := ⟨t2, HD.out.trans m2⟩; clear t2 m2)
      all_goals go_wp2
      all_goals go_roundg (N - (k + 1))
      all_goals (first | (have := HM.out; omega) | (rename_i HR; exact ⟨k + 1, by go_num, by omega, by omega, HR.out⟩))
    · obtain rfl : N = k := by omega
      have HW2 : Hid (Mo U wr b M n' sb1 tb (wrt fw N) N (ShS.new sn sm)) := hw.out.1
      clear hw HM hk hlt HI0 HA HWS
      obtain ⟨W2, rfl⟩ : ∃ W2, W2 = wr := ⟨_, rfl⟩
      go_wp2_with fail
      go_loopg [22] sn (fun m kk wr => ∃ t : Nat, kk = .int .i64 t ∧ t ≤ sn ∧ m = sn - t ∧ Hid (∃ S1 : ShS, Mo U wr b M n' sb1 tb (wrt fw N) N S1 ∧ (S1.n = sn ∧ S1.c = 0 ∧ ∀ i, i < t → S1.T i = ⟨2, true, false⟩)))
      case atStart => exact ⟨0, rfl, by omega, by omega, ⟨ShS.new sn sm, HW2.out, rfl, rfl, fun i hi => by omega⟩⟩
      case round =>
        clear HW2
        obtain ⟨t, rfl, ht, hm, hw⟩ := hrel
        have HMt : Hid _ := hm
        clear hm
        obtain ⟨wA, rfl⟩ : ∃ wA, wA = wr := ⟨_, rfl⟩
        obtain ⟨S1, hw1, hw2⟩ := hw.out
        have HS1 : Hid (Mo U wA b M n' sb1 tb (wrt fw N) N S1) := hw1
        have HS2 : Hid (S1.n = sn ∧ S1.c = 0 ∧ ∀ i, i < t → S1.T i = ⟨2, true, false⟩) := hw2
        have hcb := HU7.out.2.1.kept hw1.kept
        have c0 := hcb.at 0 rfl
        clear hcb hw1 hw2 hw
        by_cases hlt : t < sn
        · go_wp2_with fail
          refine (mo_table HS1.out).mono ?_
          rintro e w3 ⟨rfl, rfl⟩
          go_wp2_with fail
          refine (mo_set (t : Int) 2 true false HS1.out).mono ?_
          rintro e w4 ⟨rfl, t4⟩
          have HN : Hid (∃ S1 : ShS, Mo U w4 b M n' sb1 tb (wrt fw N) N S1 ∧ (S1.n = sn ∧ S1.c = 0 ∧ ∀ i, i < (t + 1) → S1.T i = ⟨2, true, false⟩)) := ⟨_, t4, HS2.out.1, HS2.out.2.1, fun i hi => by
            show setT S1.n S1.T (t : Int) 2 true false i = _
            rw [HS2.out.1, setT_at hlt]
            split
            · rfl
            · exact HS2.out.2.2 i (by omega)⟩
          clear t4 HS1 HS2 c0
          go_wp2
          go_roundg (sn - (t + 1))
          case measure => have := HMt.out; omega
          case rel => exact ⟨t + 1, by go_num, by omega, by omega, HN⟩
        · obtain rfl : sn = t := by omega
          clear hlt ht HMt
          have hmk1 := hmk wA
          obtain ⟨wb, hwb⟩ : ∃ wb, wA.heap.size = wb := ⟨_, rfl⟩
          have HMW : Hid (Mw U (wA.alloc (.cells (madeCells #[.bool false] sn) 4)) b M n' sb1 tb (wrt fw N) N S1 wb sn (fun _ => false)) := by rw [← hwb]; exact mw_new HS1.out sn
          rw [hwb] at hmk1
          have HF0 : Hid (S1.n = sn ∧ S1.c = 0 ∧ ∀ i, i < sn → (S1.T i).s = 2 ∧ (S1.T i).c = false ∧ ((S1.T i).h = true ↔ ¬ ∃ j, 1 ≤ j ∧ j < 0 ∧ L j = (i : Int)) ∧ ((fun _ => false) i = true ↔ ∃ j, 1 ≤ j ∧ j < 0 ∧ L j = (i : Int))) := ⟨HS2.out.1, HS2.out.2.1, fun i hi => by rw [HS2.out.2.2 i hi]; simp⟩
          clear hmk hwb HS1 HS2
          go_wp2_with fail
          go_loopg [24] l (fun m kk wr => ∃ t : Nat, kk = .int .i64 t ∧ t ≤ l ∧ m = l - t ∧ Hid (∃ S1 W, Mw U wr b M n' sb1 tb (wrt fw N) N S1 wb sn W ∧ (S1.n = sn ∧ S1.c = 0 ∧ ∀ i, i < sn → (S1.T i).s = 2 ∧ (S1.T i).c = false ∧ ((S1.T i).h = true ↔ ¬ ∃ j, 1 ≤ j ∧ j < t ∧ L j = (i : Int)) ∧ (W i = true ↔ ∃ j, 1 ≤ j ∧ j < t ∧ L j = (i : Int)))))
          case atStart => exact ⟨0, rfl, by omega, by omega, ⟨S1, _, HMW.out, HF0.out⟩⟩
          case round =>
            clear HMW HF0
            obtain ⟨t, rfl, ht, hm, hw⟩ := hrel
            have HMt : Hid _ := hm
            clear hm
            obtain ⟨wB, rfl⟩ : ∃ wB, wB = wr := ⟨_, rfl⟩
            obtain ⟨S2, W2, hw1, hf1, hf2, hf3⟩ := hw.out
            have HMG : Hid (Mw U wB b M n' sb1 tb (wrt fw N) N S2 wb sn W2) := hw1
            clear hw hw1
            by_cases hlt : t < l
            · have hKw : Kept w wB := HU7.out.1.trans HMG.out.mo.kept
              obtain ⟨gi, hgi⟩ : ∃ gi : Nat, L t = gi := ⟨(L t).toNat, by have := HFR.out t hlt; omega⟩
              have hgn : gi < sn := by have := HFR.out t hlt; omega
              have HGX : Hid (w.cell? ⟨xb, xo + t, none⟩ = some (.int .i64 (gi : Int))) := by rw [← hgi]; exact HX.out.2 t hlt
              have gx := (hKw.cell HX.out.1).trans HGX.out
              by_cases h0 : t = 0
              · subst h0
                have HN : Hid (∃ S1 W, Mw U wB b M n' sb1 tb (wrt fw N) N S1 wb sn W ∧ (S1.n = sn ∧ S1.c = 0 ∧ ∀ i, i < sn → (S1.T i).s = 2 ∧ (S1.T i).c = false ∧ ((S1.T i).h = true ↔ ¬ ∃ j, 1 ≤ j ∧ j < (0 + 1) ∧ L j = (i : Int)) ∧ (W i = true ↔ ∃ j, 1 ≤ j ∧ j < (0 + 1) ∧ L j = (i : Int)))) := ⟨S2, W2, HMG.out, hf1, hf2, fun i hi => by
                  obtain ⟨b1, b2, b3, b4⟩ := hf3 i hi
                  refine ⟨b1, b2, b3.trans (not_congr ?_), b4.trans ?_⟩ <;> exact ⟨fun ⟨j, a1, a2, _⟩ => by omega, fun ⟨j, a1, a2, _⟩ => by omega⟩⟩
                clear HMG hf1 hf2 hf3 hKw hgi
                go_wp2
                go_roundg (l - (0 + 1))
                case measure => have := HMt.out; omega
                case rel => exact ⟨0 + 1, by go_num, by omega, by omega, HN⟩
              have h1 : 0 < t := by omega
              have cw := HMG.out.row.cell hgn
              have zw := HMG.out.row.frozen
              go_wp2_with fail
              obtain ⟨W3, hW3⟩ : ∃ W3 : Nat → Bool, W3 = fun j => if j = gi then true else W2 j := ⟨_, rfl⟩
              obtain ⟨S3, hS3⟩ : ∃ S3, S3 = S2.set (gi : Int) 2 false false := ⟨_, rfl⟩
              have HM1 : Hid (Mw U (wB.setCell ⟨wb, gi, none⟩ (.bool true)) b M n' sb1 tb (wrt fw N) N S2 wb sn W3) := HMG.out.put gi (fun j _ => by rw [hW3])
              obtain ⟨bb, hbb⟩ : ∃ bb, bb = (inn S2.n (gi : Int) && isSt 2) := ⟨_, rfl⟩
              have HST : Hid (∀ u, Mw U u b M n' sb1 tb (wrt fw N) N S2 wb sn W3 → Calls Tryz.prog 16 #[.pointer (some ⟨tb, 0, none⟩), .int .i64 (gi : Int), .int .i64 2, .bool false, .bool false] u fun e w' => e = .returned (.bool bb) ∧ Mw U w' b M n' sb1 tb (wrt fw N) N S3 wb sn W3) := fun u hu => by rw [hbb, hS3]; exact mw_set (gi : Int) 2 false false hu
              have hex : ∀ i : Nat, (∃ j, 1 ≤ j ∧ j < t + 1 ∧ L j = (i : Int)) ↔ ((∃ j, 1 ≤ j ∧ j < t ∧ L j = (i : Int)) ∨ i = gi) := fun i => by
                constructor
                · rintro ⟨j, a1, a2, a3⟩
                  by_cases e : j = t
                  · subst e; right; omega
                  · exact .inl ⟨j, a1, by omega, a3⟩
                · rintro (⟨j, a1, a2, a3⟩ | rfl)
                  · exact ⟨j, a1, by omega, a3⟩
                  · exact ⟨t, by omega, by omega, hgi⟩
              have HF3 : Hid (S3.n = sn ∧ S3.c = 0 ∧ ∀ i, i < sn → (S3.T i).s = 2 ∧ (S3.T i).c = false ∧ ((S3.T i).h = true ↔ ¬ ∃ j, 1 ≤ j ∧ j < (t + 1) ∧ L j = (i : Int)) ∧ (W3 i = true ↔ ∃ j, 1 ≤ j ∧ j < (t + 1) ∧ L j = (i : Int))) := ⟨by rw [hS3]; exact hf1, by rw [hS3]; exact hf2, fun i hi => by
                obtain ⟨b1, b2, b3, b4⟩ := hf3 i hi
                have eT : S3.T i = if i = gi then ⟨2, false, false⟩ else S2.T i := by
                  rw [hS3]
                  show setT S2.n S2.T (gi : Int) 2 false false i = _
                  rw [hf1, setT_at hgn]
                have eW : W3 i = if i = gi then true else W2 i := by rw [hW3]
                rw [eT, eW, hex i]
                by_cases e : i = gi
                · simp [e]
                · rw [if_neg e, if_neg e]
                  exact ⟨b1, b2, b3.trans (not_congr ⟨.inl, fun z => z.elim id (fun z => absurd z e)⟩), b4.trans ⟨.inl, fun z => z.elim id (fun z => absurd z e)⟩⟩⟩
              clear hex hbb hW3 hS3 hf1 hf2 hf3 hgi HMG gx cw zw hKw
              obtain ⟨wC, hwC⟩ : ∃ wC, wB.setCell ⟨wb, gi, none⟩ (.bool true) = wC := ⟨_, rfl⟩
              rw [hwC] at HM1 ⊢
              clear hwC
              have HM1d : Hid (Mw U wC.drew b M n' sb1 tb (wrt fw N) N S2 wb sn W3) := HM1.out.still (Kept.refl _).drew
              clear HM1
              refine wp_region_phase [(.pointer (some ⟨sb1, 0, none⟩)), (.pointer (some ⟨tb, 0, none⟩)), (.slice (some ⟨xb, xo, none⟩) l cc), (.int .i64 (t : Int)), (.pointer (some ⟨xb, xo + t, none⟩)), (.int .i64 (gi : Int)), (.bool bb)] [(171, 0), (172, 1), (173, 2), (174, 3), (175, 4), (176, 5), (177, 6)] [_, _, _, _, _, _, _, _, _, _, _, _, _, _, _, _, _, _, _, _, _, _, _, _, _, _, _, _, _, _, _, _, _, _, _, _, _, _, _, _, _, _, _, _, _, _, _, _, _, _, _, _, _, _, _, _, _, _, _, _, _, _, _, _, _, _, _, _, _, _, _, _, _, _, _, _, _, _, _, _, _, _, _, _, _, _, _, _, _, _, _, _, _, _, _, _, _, _, _, _, _, _, _, _, _, _, _, _, _, _, _, _, _, _, _, _, _, _, _, _, _, _, _, _, _, _, _, _, _, _, _, _, _, _, _, _, _, _, _, _, _, _, _, _, _, _, _, _, _, _, _, _, _, _, _, _, _, _, _, _, _, _, _, _, _, _, _, _, _, _, _, _, _, _, _, _, _, _, _, _, _, _, _, _, _, _, _, _, _, _, _, _, _, _, _, _, _, _, _, _, _, _, _, _, _, _, _, _, _, _, _, _, _, _, _, _, _, _, _, _, _, _, _, _, _, _, _, _, _, _, _, _, _, _, _, _, _, _, _, _, _, _, _, _, _, _, _, _, _, _, _, _, _, _, _, _, _, _, _, _, _, _, _, _, _, _, _, _, _, _, _, _, _, _, _, _, _, _, _, _, _, _, _, _, _, _, _, _, _, _, _, _, _, _, _, _, _, _, _, _, _, _, _, _, _, _, _, _, _, _] (fun d u => Mw U u b M n' sb1 tb (wrt fw N) N (if d 6 then S3 else S2) wb sn W3) (by kernel_rfl) (by kernel_rfl) (by kernel_rfl) (by kernel_rfl) rfl ?_ ?_ ?_
              · exact (by simpa using HM1d.out)
              · intro i1 o ho a1 d u hh hj hi hd
                match i1, ho, hi, hd with
                | 0, ho, hi, hd =>
                  simp only [List.getElem?_cons_zero, Option.some.injEq] at ho
                  subst ho
                  have g19 : a1.tmps[19]? = some (.pointer (some ⟨sb1, 0, none⟩)) := hh.old 19 (by kernel_rfl) rfl
                  clear hh hd
                  have HN : Hid (Mw U u b M n' sb1 tb (wrt fw N) N (if done d 0 6 then S3 else S2) wb sn W3) := (by simpa [done] using hj : Mw U u b M n' sb1 tb (wrt fw N) N (if done d 0 6 then S3 else S2) wb sn W3)
                  clear hj hi
                  refine wpOp_step rfl (fun K hK => ?_)
                  go_simp
                  exact hK _ _ ⟨by simp [Act.put], HN.out⟩
                | 1, ho, hi, hd =>
                  simp only [List.getElem?_cons_succ, List.getElem?_cons_zero, Option.some.injEq] at ho
                  subst ho
                  have g171 : a1.tmps[171]? = some (.pointer (some ⟨sb1, 0, none⟩)) := hh.did 0 _ 171 rfl rfl (hd { on := 0, ground := .data } (by simp) rfl)
                  have CA := mw_table hj
                  clear hh hd
                  have HN : Hid (Mw U u b M n' sb1 tb (wrt fw N) N (if done d 1 6 then S3 else S2) wb sn W3) := (by simpa [done] using hj : Mw U u b M n' sb1 tb (wrt fw N) N (if done d 1 6 then S3 else S2) wb sn W3)
                  clear hj hi
                  refine wpOp_step rfl (fun K hK => ?_)
                  go_simp
                  refine CA.mono ?_
                  rintro e u' ⟨rfl, rfl⟩
                  exact hK _ _ ⟨by simp [Act.put], HN.out⟩
                | 2, ho, hi, hd =>
                  simp only [List.getElem?_cons_succ, List.getElem?_cons_zero, Option.some.injEq] at ho
                  subst ho
                  have g3 : a1.tmps[3]? = some (.slice (some ⟨xb, xo, none⟩) l cc) := hh.old 3 (by kernel_rfl) rfl
                  clear hh hd
                  have HN : Hid (Mw U u b M n' sb1 tb (wrt fw N) N (if done d 2 6 then S3 else S2) wb sn W3) := (by simpa [done] using hj : Mw U u b M n' sb1 tb (wrt fw N) N (if done d 2 6 then S3 else S2) wb sn W3)
                  clear hj hi
                  refine wpOp_step rfl (fun K hK => ?_)
                  go_simp
                  exact hK _ _ ⟨by simp [Act.put], HN.out⟩
                | 3, ho, hi, hd =>
                  simp only [List.getElem?_cons_succ, List.getElem?_cons_zero, Option.some.injEq] at ho
                  subst ho
                  have g24 : a1.tmps[24]? = some (.int .i64 (t : Int)) := hh.old 24 (by kernel_rfl) rfl
                  clear hh hd
                  have HN : Hid (Mw U u b M n' sb1 tb (wrt fw N) N (if done d 3 6 then S3 else S2) wb sn W3) := (by simpa [done] using hj : Mw U u b M n' sb1 tb (wrt fw N) N (if done d 3 6 then S3 else S2) wb sn W3)
                  clear hj hi
                  refine wpOp_step rfl (fun K hK => ?_)
                  go_simp
                  exact hK _ _ ⟨by simp [Act.put], HN.out⟩
                | 4, ho, hi, hd =>
                  simp only [List.getElem?_cons_succ, List.getElem?_cons_zero, Option.some.injEq] at ho
                  subst ho
                  have g173 : a1.tmps[173]? = some (.slice (some ⟨xb, xo, none⟩) l cc) := hh.did 2 _ 173 rfl rfl (hd { on := 2, ground := .data } (by simp) rfl)
                  have g174 : a1.tmps[174]? = some (.int .i64 (t : Int)) := hh.did 3 _ 174 rfl rfl (hd { on := 3, ground := .data } (by simp) rfl)
                  clear hh hd
                  have HN : Hid (Mw U u b M n' sb1 tb (wrt fw N) N (if done d 4 6 then S3 else S2) wb sn W3) := (by simpa [done] using hj : Mw U u b M n' sb1 tb (wrt fw N) N (if done d 4 6 then S3 else S2) wb sn W3)
                  clear hj hi
                  refine wpOp_step rfl (fun K hK => ?_)
                  go_simp
                  exact hK _ _ ⟨by simp [Act.put], HN.out⟩
                | 5, ho, hi, hd =>
                  simp only [List.getElem?_cons_succ, List.getElem?_cons_zero, Option.some.injEq] at ho
                  subst ho
                  have g175 : a1.tmps[175]? = some (.pointer (some ⟨xb, xo + t, none⟩)) := hh.did 4 _ 175 rfl rfl (hd { on := 4, ground := .data } (by simp) rfl)
                  have cg : u.cell? ⟨xb, xo + t, none⟩ = some (.int .i64 (gi : Int)) := ((HU7.out.1.trans hj.mo.kept).cell HX.out.1).trans HGX.out
                  clear hh hd
                  have HN : Hid (Mw U u b M n' sb1 tb (wrt fw N) N (if done d 5 6 then S3 else S2) wb sn W3) := (by simpa [done] using hj : Mw U u b M n' sb1 tb (wrt fw N) N (if done d 5 6 then S3 else S2) wb sn W3)
                  clear hj hi
                  refine wpOp_step rfl (fun K hK => ?_)
                  go_simp
                  exact hK _ _ ⟨by simp [Act.put], HN.out⟩
                | 6, ho, hi, hd =>
                  simp only [List.getElem?_cons_succ, List.getElem?_cons_zero, Option.some.injEq] at ho
                  subst ho
                  have g172 : a1.tmps[172]? = some (.pointer (some ⟨tb, 0, none⟩)) := hh.did 1 _ 172 rfl rfl (hd { on := 1, ground := .data } (by simp) rfl)
                  have g176 : a1.tmps[176]? = some (.int .i64 (gi : Int)) := hh.did 5 _ 176 rfl rfl (hd { on := 5, ground := .data } (by simp) rfl)
                  have CA := HST.out u (by have B := hj; simp only [hi, Bool.false_eq_true, if_false] at B; exact B)
                  clear hh hd
                  have HN : Hid (∀ u', Mw U u' b M n' sb1 tb (wrt fw N) N S3 wb sn W3 → Mw U u' b M n' sb1 tb (wrt fw N) N (if done d 6 6 then S3 else S2) wb sn W3) := fun u' x => by simpa [done] using x
                  clear hj hi
                  refine wpOp_step rfl (fun K hK => ?_)
                  go_simp
                  refine CA.mono ?_
                  rintro e u' ⟨rfl, x⟩
                  exact hK _ _ ⟨by simp [Act.put], HN.out u' x⟩
                | n + 7, ho, hi, hd => simp at ho
              · intro u d hall hj
                have HMf : Hid (Mw U u b M n' sb1 tb (wrt fw N) N S3 wb sn W3) := by
                  have B := hj
                  rw [hall 6 (by decide)] at B
                  exact B
                clear hj hall
                go_wp2
                go_roundg (l - (t + 1))
                case measure => have := HMt.out; omega
                case rel => exact ⟨t + 1, by go_num, by omega, by omega, ⟨S3, W3, HMf.out, HF3.out⟩⟩
            · obtain rfl : l = t := by omega
              obtain ⟨SA, rfl⟩ : ∃ SA, SA = S2 := ⟨_, rfl⟩
              have HSA : Hid (SA.n = sn ∧ SA.c = 0 ∧ ∀ i, i < sn → (SA.T i).s = 2 ∧ (SA.T i).c = false ∧ ((SA.T i).h = true ↔ ¬ Tl (i : Int))) := ⟨hf1, hf2, fun i hi => ⟨(hf3 i hi).1, (hf3 i hi).2.1, by rw [HTl.out]; exact (hf3 i hi).2.2.1⟩⟩
              have HJ0 : Hid (JA th sn Tl 0 0 SA) := ⟨hf1, fun i hi => ⟨(HSA.out.2.2 i hi).1, (HSA.out.2.2 i hi).2.2, by
                rw [(HSA.out.2.2 i hi).2.1]
                constructor
                · intro h; cases h
                · rintro (⟨j, a1, a2, _⟩ | ⟨_, s, a1, _⟩) <;> omega⟩⟩
              have HWG : Hid (∀ i, i < sn → (W2 i = true ↔ Tl (i : Int) ∨ ∃ s, s < 0 ∧ th.V s = some (i : Int))) := fun i hi => by
                rw [(hf3 i hi).2.2.2, HTl.out]
                exact ⟨.inl, fun z => z.elim id fun ⟨s, a1, _⟩ => absurd a1 (Nat.not_lt_zero _)⟩
              clear hf1 hf2 hf3 hlt ht HMt
              go_wp2_with fail
              go_loopg [25] K (fun m kk wr => ∃ t q : Nat, kk = .int .i64 t ∧ t ≤ K ∧ m = K - t ∧ q ≤ 2000 + t ∧ Hid (∃ W, Mw U wr b M n' sb1 tb (ovr (wrt fw N) ad th.V t) q SA wb sn W ∧ (∀ i, i < sn → (W i = true ↔ Tl (i : Int) ∨ ∃ s, s < t ∧ th.V s = some (i : Int)))))
              case atStart => exact ⟨0, N, rfl, by omega, by omega, by omega, ⟨W2, HMG.out, HWG.out⟩⟩
              case round =>
                obtain ⟨t, q, rfl, ht, hm, hq, hw⟩ := hrel
                have HMt : Hid _ := hm
                clear hm
                obtain ⟨wA, rfl⟩ : ∃ wA, wA = wr := ⟨_, rfl⟩
                by_cases ht1 : t < K
                · by_cases ht2 : t < yl
                  · obtain ⟨W0, hw0, hwp⟩ := hw.out
                    have HM0 : Hid (Mw U wA b M n' sb1 tb (ovr (wrt fw N) ad th.V t) q SA wb sn W0) := hw0
                    have HWP : Hid (∀ i, i < sn → (W0 i = true ↔ Tl (i : Int) ∨ ∃ s, s < t ∧ th.V s = some (i : Int))) := hwp
                    clear hw hw0 hwp
                    have hKw : Kept w wA := HU7.out.1.trans HM0.out.mo.kept
                    obtain ⟨yb, yo, rfl, hyb, hyc⟩ := HY.out (by omega)
                    obtain ⟨av, hav⟩ : ∃ av, RV t = av := ⟨_, rfl⟩
                    have HCY : Hid (∀ u, Kept w u → yb < u.heap.size ∧ u.cell? ⟨yb, yo + t, none⟩ = some (.int .i64 av)) := fun u ku => ⟨Nat.lt_of_lt_of_le hyb ku.size, (ku.cell hyb).trans (by rw [← hav]; exact hyc t ht2)⟩
                    have HVt : Hid (th.V t = if t < K ∧ t < yl ∧ th.ref t = true ∧ 0 ≤ av ∧ av < sn then some av else none) := by
                      have := HTH.out.2.2.2.2.1 t
                      rw [hav] at this
                      exact this
                    have hcb := HU7.out.2.1.kept HM0.out.mo.kept
                    have ly := fun z : KW wA => z.cell (a := ⟨yb, yo + t, none⟩) (HCY.out wA hKw).1 (HCY.out wA hKw).2
                    have lc := fun z : KW wA => z.cell (a := ⟨w.heap.size, 0, none⟩) hcb.lt (hcb.at 0 rfl)
                    clear hcb hKw hyc hyb hav
                    by_cases ha0 : av < 0
                    · have f1 : decide (av < 0) = true := by simpa using ha0
                      go_wp2_with fail
                      refine wp_region_kept (by kernel_rfl) (by kernel_rfl) fun _ => ?_
                      (try simp only [List.append_eq, List.cons_append, List.nil_append])
                      repeat (go_big_quiet_step (fail))
                      refine wpQuiet_nil ?_
                      rintro _ ⟨z, rfl⟩
                      have HM1 : Hid (Mw U z.it b M n' sb1 tb (ovr (wrt fw N) ad th.V t) q SA wb sn W0) := HM0.out.still z.ok
                      clear HM0 ly lc
                      obtain ⟨wB, hwB⟩ : ∃ wB, z.it = wB := ⟨_, rfl⟩
                      rw [hwB] at HM1 ⊢
                      clear hwB
                      have hVn : th.V t = none := by
                        rw [HVt.out, if_neg]
                        rintro ⟨_, _, _, z1, z2⟩
                        omega
                      have HN : Hid (∃ W, Mw U wB b M n' sb1 tb (ovr (wrt fw N) ad th.V (t + 1)) q SA wb sn W ∧ (∀ i, i < sn → (W i = true ↔ Tl (i : Int) ∨ ∃ s, s < (t + 1) ∧ th.V s = some (i : Int)))) := by
                        refine ⟨W0, by rw [ovr_none hVn]; exact HM1.out, fun i hi => ?_⟩
                        rw [HWP.out i hi]
                        constructor
                        · rintro (z | ⟨s, z1, z2⟩)
                          · exact .inl z
                          · exact .inr ⟨s, by omega, z2⟩
                        · rintro (z | ⟨s, z1, z2⟩)
                          · exact .inl z
                          · by_cases e : s = t
                            · subst e; rw [hVn] at z2; cases z2
                            · exact .inr ⟨s, by omega, z2⟩
                      clear HM1 hVn
                      go_wp2
                      go_roundg (K - (t + 1))
                      case measure => have := HMt.out; omega
                      case rel => exact ⟨t + 1, q, by go_num, by omega, by omega, by omega, HN⟩
                    by_cases ha1 : av < (sn : Int)
                    case neg =>
                      have f1 : decide (av < 0) = false := by simpa using ha0
                      have f2 : decide (av ≥ (sn : Int)) = true := by simp; omega
                      have f3 : decide ((sn : Int) ≤ av) = true := by simp; omega
                      go_wp2_with fail
                      refine wp_region_kept (by kernel_rfl) (by kernel_rfl) fun _ => ?_
                      (try simp only [List.append_eq, List.cons_append, List.nil_append])
                      repeat (go_big_quiet_step (fail))
                      refine wpQuiet_nil ?_
                      rintro _ ⟨z, rfl⟩
                      have HM1 : Hid (Mw U z.it b M n' sb1 tb (ovr (wrt fw N) ad th.V t) q SA wb sn W0) := HM0.out.still z.ok
                      clear HM0 ly lc
                      obtain ⟨wB, hwB⟩ : ∃ wB, z.it = wB := ⟨_, rfl⟩
                      rw [hwB] at HM1 ⊢
                      clear hwB
                      have hVn : th.V t = none := by
                        rw [HVt.out, if_neg]
                        rintro ⟨_, _, _, z1, z2⟩
                        omega
                      have HN : Hid (∃ W, Mw U wB b M n' sb1 tb (ovr (wrt fw N) ad th.V (t + 1)) q SA wb sn W ∧ (∀ i, i < sn → (W i = true ↔ Tl (i : Int) ∨ ∃ s, s < (t + 1) ∧ th.V s = some (i : Int)))) := by
                        refine ⟨W0, by rw [ovr_none hVn]; exact HM1.out, fun i hi => ?_⟩
                        rw [HWP.out i hi]
                        constructor
                        · rintro (z | ⟨s, z1, z2⟩)
                          · exact .inl z
                          · exact .inr ⟨s, by omega, z2⟩
                        · rintro (z | ⟨s, z1, z2⟩)
                          · exact .inl z
                          · by_cases e : s = t
                            · subst e; rw [hVn] at z2; cases z2
                            · exact .inr ⟨s, by omega, z2⟩
                      clear HM1 hVn
                      go_wp2
                      go_roundg (K - (t + 1))
                      case measure => have := HMt.out; omega
                      case rel => exact ⟨t + 1, q, by go_num, by omega, by omega, by omega, HN⟩
                    case pos =>
                      obtain ⟨ai, rfl⟩ : ∃ ai : Nat, av = ai := ⟨av.toNat, by omega⟩
                      have hai : ai < sn := by omega
                      have f1 : decide ((ai : Int) < 0) = false := by simp
                      have f2 : decide ((ai : Int) ≥ (sn : Int)) = false := by simp; omega
                      have f3 : decide ((sn : Int) ≤ (ai : Int)) = false := by simp; omega
                      have f4 : decide (sn ≤ ai) = false := by simp; omega
                      go_wp2_with fail
                      refine wp_region_kept (by kernel_rfl) (by kernel_rfl) fun _ => ?_
                      (try simp only [List.append_eq, List.cons_append, List.nil_append])
                      repeat (go_big_quiet_step (fail))
                      refine wpQuiet_nil ?_
                      rintro _ ⟨z, rfl⟩
                      have HM1 : Hid (Mw U z.it b M n' sb1 tb (ovr (wrt fw N) ad th.V t) q SA wb sn W0) := HM0.out.still z.ok
                      clear HM0 ly lc
                      obtain ⟨wB, hwB⟩ : ∃ wB, z.it = wB := ⟨_, rfl⟩
                      rw [hwB] at HM1 ⊢
                      clear hwB
                      obtain ⟨i7, hi7⟩ : ∃ i7, (t + 1) / 7 = i7 := ⟨_, rfl⟩
                      obtain ⟨v7, hv7⟩ : ∃ v7, 1 + (t + 1) % 7 = v7 := ⟨_, rfl⟩
                      have hix : i7 < l := by rw [← hi7]; exact HAD.out.1 t ht1
                      have had := HAD.out.2 t ht1
                      rw [hi7, hv7] at had
                      have CP : Hid (∀ u, Calls Tryz.prog 17 #[.agg #[.bool false, .slice (some ⟨rg, 0, none⟩) K K], .int .i64 (t : Int)] u _) := fun u => rplace_in (some ⟨rg, 0, none⟩) K K t i7 v7 u h40 ht1 hi7 hv7
                      obtain ⟨aj, haj⟩ : ∃ aj, ad t = aj := ⟨_, rfl⟩
                      rw [haj] at had
                      obtain ⟨had1, had2⟩ := had
                      obtain ⟨Lq, hLq⟩ : ∃ Lq, L i7 = Lq := ⟨_, rfl⟩
                      rw [hLq] at had1
                      have hlq := HFR.out _ hix
                      rw [hLq] at hlq
                      have hlb : 0 ≤ Lq ∧ Lq ≤ 1024 := by omega
                      obtain ⟨hlb0, hlb1⟩ := hlb
                      have eA : 8 * Lq + (v7 : Int) = (aj : Int) := by omega
                      have hv8 : v7 ≤ 8 := by omega
                      clear had1 hlq
                      obtain ⟨rf, hrf⟩ : ∃ rf, R k t = rf := ⟨_, rfl⟩
                      have HRF : Hid (th.ref t = rf) := (HTH.out.2.2.2.1 t ht1).trans hrf
                      have hsb0 := HU7.out.2.2.1.kept HM1.out.mo.kept
                      have s0 := hsb0.at 0 rfl
                      have s1 := hsb0.at 1 rfl
                      clear hsb0
                      go_wp2_with fail
                      refine (CP.out _).mono ?_
                      rintro e w3 ⟨rfl, K3⟩
                      have HM2 : Hid (Mw U w3 b M n' sb1 tb (ovr (wrt fw N) ad th.V t) q SA wb sn W0) := HM1.out.still K3
                      clear HM1 K3 CP s0 s1
                      have hKw : Kept w w3 := HU7.out.1.trans HM2.out.mo.kept
                      have hsb := HU7.out.2.2.1.kept HM2.out.mo.kept
                      obtain ⟨rb0, ro0, hre, hrl, hrc⟩ := (HU7.out.2.2.2.kept HM2.out.mo.kept) (by omega)
                      obtain ⟨rfl, rfl⟩ : rg = rb0 ∧ 0 = ro0 := by simpa using hre
                      have cr0 := hrc t (by omega)
                      rw [Nat.zero_add, hrf] at cr0
                      have ls := fun z : KW w3 => z.cell (a := ⟨sb, 1, none⟩) hsb.lt (hsb.at 1 rfl)
                      have lr := fun z : KW w3 => z.cell (a := ⟨rg, t, none⟩) hrl cr0
                      have gx : w3.cell? ⟨xb, xo + i7, none⟩ = some (.int .i64 Lq) := (hKw.cell HX.out.1).trans (by rw [← hLq]; exact HX.out.2 _ hix)
                      have lx := fun z : KW w3 => z.cell (a := ⟨xb, xo + i7, none⟩) (by have := HX.out.1; have := hKw.size; simp only; omega) gx
                      clear hKw hsb hre hrl hrc cr0 gx hLq
                      go_wp2_with fail
                      refine wp_region_kept (by kernel_rfl) (by kernel_rfl) fun _ => ?_
                      (try simp only [List.append_eq, List.cons_append, List.nil_append])
                      repeat (go_big_quiet_step (fail))
                      refine wpQuiet_nil ?_
                      rintro _ ⟨z, rfl⟩
                      have HM3 : Hid (Mw U z.it b M n' sb1 tb (ovr (wrt fw N) ad th.V t) q SA wb sn W0) := HM2.out.still z.ok
                      clear HM2 ls lr lx
                      obtain ⟨wC, hwC⟩ : ∃ wC, z.it = wC := ⟨_, rfl⟩
                      rw [hwC] at HM3 ⊢
                      clear hwC
                      (try rw [eA])
                      cases rf
                      · have hVn : th.V t = none := by
                          rw [HVt.out, if_neg]
                          rintro ⟨_, _, z, _⟩
                          rw [HRF.out] at z
                          cases z
                        have HN : Hid (∃ W, Mw U wC b M n' sb1 tb (ovr (wrt fw N) ad th.V (t + 1)) q SA wb sn W ∧ (∀ i, i < sn → (W i = true ↔ Tl (i : Int) ∨ ∃ s, s < (t + 1) ∧ th.V s = some (i : Int)))) := by
                          refine ⟨W0, by rw [ovr_none hVn]; exact HM3.out, fun i hi => ?_⟩
                          rw [HWP.out i hi]
                          constructor
                          · rintro (z | ⟨s, z1, z2⟩)
                            · exact .inl z
                            · exact .inr ⟨s, by omega, z2⟩
                          · rintro (z | ⟨s, z1, z2⟩)
                            · exact .inl z
                            · by_cases e : s = t
                              · subst e; rw [hVn] at z2; cases z2
                              · exact .inr ⟨s, by omega, z2⟩
                        clear HM3 hVn
                        go_wp2
                        go_roundg (K - (t + 1))
                        case measure => have := HMt.out; omega
                        case rel => exact ⟨t + 1, q, by go_num, by omega, by omega, by omega, HN⟩
                      · have hVs : th.V t = some (ai : Int) := by
                          rw [HVt.out, if_pos ⟨ht1, ht2, HRF.out, by omega, by omega⟩]
                        obtain ⟨zz, hzz⟩ : ∃ zz, zz = cr (ai : Int) := ⟨_, rfl⟩
                        have CR : Hid (∀ u, Calls Tryz.prog 18 #[.int .i64 (ai : Int)] u fun e w' => e = .returned (.complex .f64 zz.re zz.im) ∧ w' = u) := fun u => by rw [hzz]; exact rref_in (ai : Int) u (by omega) (by omega)
                        have HWV : Hid (∀ u, Mw U u b M n' sb1 tb (ovr (wrt fw N) ad th.V t) q SA wb sn W0 → Calls Tryz.prog 15 #[.pointer (some ⟨M, 0, none⟩), .int .i64 (aj : Int), .complex .f64 zz.re zz.im] u fun e w' => e = .returned (.int .i64 0) ∧ Mw U w' b M n' sb1 tb (ovr (wrt fw N) ad th.V (t + 1)) (q + 1) SA wb sn W0) := fun u hu => by
                          rw [← haj]
                          exact mw_write (G := (ovr (wrt fw N) ad th.V (t + 1))) (ad t) zz hu (by rw [haj]; exact had2) (by omega) (fun i _ => by rw [hzz]; exact ovr_some hVs i)
                        have HVS : Hid (th.V t = some (ai : Int)) := hVs
                        have hhdd : hdd SA.n SA.T (ai : Int) = true ↔ ¬ Tl (ai : Int) := by
                          unfold hdd
                          rw [HSA.out.1, inn_of hai, Bool.true_and, Int.toNat_natCast]
                          exact (HSA.out.2.2 ai hai).2.2
                        obtain ⟨hd, hhd⟩ : ∃ hd, hdd SA.n SA.T (ai : Int) = hd := ⟨_, rfl⟩
                        rw [hhd] at hhdd
                        have HHD : Hid (hd = true ↔ ¬ Tl (ai : Int)) := hhdd
                        have HHd : Hid (hdd SA.n SA.T (ai : Int) = hd) := hhd
                        clear hhdd hhd hVs hzz
                        have cy := (HCY.out wC (HU7.out.1.trans HM3.out.mo.kept)).2
                        go_wp2_with fail
                        refine (CR.out _).mono ?_
                        rintro e w5 ⟨rfl, rfl⟩
                        go_wp2_with fail
                        refine (HWV.out _ HM3.out).mono ?_
                        rintro e w6 ⟨rfl, hm4⟩
                        have HM4 : Hid (Mw U w6 b M n' sb1 tb (ovr (wrt fw N) ad th.V (t + 1)) (q + 1) SA wb sn W0) := hm4
                        clear hm4 HM3 cy CR HWV
                        have hKw : Kept w w6 := HU7.out.1.trans HM4.out.mo.kept
                        have ly := fun z : KW w6 => z.cell (a := ⟨yb, yo + t, none⟩) (HCY.out w6 hKw).1 (HCY.out w6 hKw).2
                        have CT : Hid (∀ z : KW w6, Calls Tryz.prog 14 #[.pointer (some ⟨sb1, 0, none⟩)] z.it fun e w' => e = .returned (.pointer (some ⟨tb, 0, none⟩)) ∧ w' = z.it) := fun z => mw_table (HM4.out.still z.ok)
                        have CH : Hid (∀ z : KW w6, Calls Tryz.prog 19 #[.pointer (some ⟨tb, 0, none⟩), .int .i64 (ai : Int)] z.it fun e w' => e = .returned (.bool hd) ∧ w' = z.it) := fun z => by
                          have := mw_head (ai : Int) (HM4.out.still z.ok)
                          rw [HHd.out] at this
                          exact this
                        clear hKw
                        go_wp2_with fail
                        refine wp_region_kept (by kernel_rfl) (by kernel_rfl) fun _ => ?_
                        (try simp only [List.append_eq, List.cons_append, List.nil_append])
                        repeat (go_big_quiet_step (first | (go_at_call 14; exact kept_of_same (CT.out _)) | (go_at_call 19; exact kept_of_same (CH.out _))))
                        refine wpQuiet_nil ?_
                        rintro _ ⟨z, rfl⟩
                        have HM5 : Hid (Mw U z.it b M n' sb1 tb (ovr (wrt fw N) ad th.V (t + 1)) (q + 1) SA wb sn W0) := HM4.out.still z.ok
                        clear HM4 ly CT CH
                        obtain ⟨wD, hwD⟩ : ∃ wD, z.it = wD := ⟨_, rfl⟩
                        rw [hwD] at HM5 ⊢
                        clear hwD
                        cases hd
                        · have HN : Hid (∃ W, Mw U wD b M n' sb1 tb (ovr (wrt fw N) ad th.V (t + 1)) (q + 1) SA wb sn W ∧ (∀ i, i < sn → (W i = true ↔ Tl (i : Int) ∨ ∃ s, s < (t + 1) ∧ th.V s = some (i : Int)))) := ⟨W0, HM5.out, fun i hi => by
                            rw [HWP.out i hi]
                            constructor
                            · rintro (z | ⟨s, z1, z2⟩)
                              · exact .inl z
                              · exact .inr ⟨s, by omega, z2⟩
                            · rintro (z | ⟨s, z1, z2⟩)
                              · exact .inl z
                              · by_cases e : s = t
                                · subst e
                                  rw [HVS.out] at z2
                                  have e2 : (ai : Int) = (i : Int) := by simpa using z2
                                  rw [← e2]
                                  exact .inl (Classical.byContradiction fun z3 => by have := HHD.out.2 z3; cases this)
                                · exact .inr ⟨s, by omega, z2⟩⟩
                          clear HM5
                          go_wp2
                          go_roundg (K - (t + 1))
                          case measure => have := HMt.out; omega
                          case rel => exact ⟨t + 1, (q + 1), by go_num, by omega, by omega, by omega, HN⟩
                        · have HN : Hid (∃ W, Mw U (wD.setCell ⟨wb, ai, none⟩ (.bool true)) b M n' sb1 tb (ovr (wrt fw N) ad th.V (t + 1)) (q + 1) SA wb sn W ∧ (∀ i, i < sn → (W i = true ↔ Tl (i : Int) ∨ ∃ s, s < (t + 1) ∧ th.V s = some (i : Int)))) := ⟨fun j => if j = ai then true else W0 j, HM5.out.put ai (fun j _ => rfl), fun i hi => by
                            have h0 := HWP.out i hi
                            show (if i = ai then true else W0 i) = true ↔ _
                            by_cases e0 : i = ai
                            · rw [if_pos e0]
                              exact ⟨fun _ => .inr ⟨t, by omega, by rw [HVS.out, e0]⟩, fun _ => rfl⟩
                            · rw [if_neg e0, h0]
                              constructor
                              · rintro (z | ⟨s, z1, z2⟩)
                                · exact .inl z
                                · exact .inr ⟨s, by omega, z2⟩
                              · rintro (z | ⟨s, z1, z2⟩)
                                · exact .inl z
                                · by_cases e : s = t
                                  · subst e
                                    rw [HVS.out] at z2
                                    have e2 : (ai : Int) = (i : Int) := by simpa using z2
                                    omega
                                  · exact .inr ⟨s, by omega, z2⟩⟩
                          have cw := HM5.out.row.cell hai
                          have zw := HM5.out.row.frozen
                          have cy := (HCY.out wD (HU7.out.1.trans HM5.out.mo.kept)).2
                          clear HM5
                          go_wp2
                          go_roundg (K - (t + 1))
                          case measure => have := HMt.out; omega
                          case rel => exact ⟨t + 1, (q + 1), by go_num, by omega, by omega, by omega, HN⟩
                  · obtain ⟨WF, h1, h2⟩ := hw.out
                    have hve : ∀ s, t ≤ s → s < K → th.V s = none := fun s h3 h4 => by
                      rw [HTH.out.2.2.2.2.1, if_neg]
                      rintro ⟨_, z, _⟩
                      omega
                    have HMW0 : Hid (Mw U wA b M n' sb1 tb (ovr (wrt fw N) ad th.V K) q SA wb sn WF) := by rw [ovr_end (by omega) hve]; exact h1
                    have HWF : Hid (∀ i, i < sn → (WF i = true ↔ Tl (i : Int) ∨ ∃ s, s < K ∧ th.V s = some (i : Int))) := fun i hi => by
                      rw [h2 i hi]
                      constructor
                      · rintro (z | ⟨s, z1, z2⟩)
                        · exact .inl z
                        · exact .inr ⟨s, by omega, z2⟩
                      · rintro (z | ⟨s, z1, z2⟩)
                        · exact .inl z
                        · by_cases e : s < t
                          · exact .inr ⟨s, e, z2⟩
                          · rw [hve s (by omega) z1] at z2
                            cases z2
                    clear hw h1 h2 hve HMt
                    obtain ⟨W8, rfl⟩ : ∃ W8, W8 = wA := ⟨_, rfl⟩
                    have HKV : Hid (Kept w W8) := HU7.out.1.trans HMW0.out.mo.kept
                    have HCB : Hid (Blk W8 w.heap.size (cl (sn : Int) n1 n2 n3 n4 n5 (sm : Int) n7 (.slice sx sl sc))) := HU7.out.2.1.kept HMW0.out.mo.kept
                    have CN : Hid (∀ u, Kept W8 u → Calls Tryz.prog 20 #[.agg #[.int .i64 (sn : Int), .int .i64 n1, .int .i64 n2, .int .i64 n3, .int .i64 n4, .int .i64 n5, .int .i64 (sm : Int), .int .i64 n7, .slice sx sl sc], .int .i64 (L 0), .bool true] u _) := fun u z => trace_newf (sn : Int) n1 n2 n3 n4 n5 (sm : Int) n7 sx sl sc S R (L 0) W8 u z (HSR.out.1.kept (HKV.out.trans z)) (fun i hi => (HSR.out.2.1 i hi).kept (HKV.out.trans z)) HSR.out.2.2 (HFR.out 0 (by omega))
                    have hcb := HCB.out
                    have c0 := hcb.at 0 rfl
                    have c1 := hcb.at 1 rfl
                    have c2 := hcb.at 2 rfl
                    have c3 := hcb.at 3 rfl
                    have c4 := hcb.at 4 rfl
                    have c5 := hcb.at 5 rfl
                    have c6 := hcb.at 6 rfl
                    have c7 := hcb.at 7 rfl
                    have c8 := hcb.at 8 rfl
                    go_wp2_with fail
                    clear hcb c0 c1 c2 c3 c4 c5 c6 c7 c8
                    refine wp_region_mix [undef, undef, undef, undef, undef, undef] [(31, 5), (261, 0), (262, 1), (263, 2), (264, 3), (265, 4)] (fun d vals u => MJ (fun q1 => match q1 with | 0 => some (.agg #[.int .i64 (sn : Int), .int .i64 n1, .int .i64 n2, .int .i64 n3, .int .i64 n4, .int .i64 n5, .int .i64 (sm : Int), .int .i64 n7, .slice sx sl sc]) | 1 => some (.slice (some ⟨xb, xo, none⟩) l cc) | 2 => some (.pointer (some ⟨xb, xo, none⟩)) | 3 => some (.int .i64 (L 0)) | _ => none) 4 5 (fun u => Kept W8 u) (fun v u => Newf W8 (td0 (L 0) true) (sn : Int) n1 sl S R v u) d vals u) (by kernel_rfl) (by kernel_rfl) (by kernel_rfl) (by kernel_rfl) rfl ?_ ?_ ?_
                    · exact ⟨fun _ _ _ h => absurd h (by simp), fun _ => (Kept.refl _).drew, fun h => absurd h (by simp), fun h => absurd h (by simp)⟩
                    · intro i1 o ho a1 d vals u hv0 hh hj hi hd
                      have hv : vals.length = 6 := hv0
                      have hKR : Kept W8 u := by
                        cases hq : d 4
                        · exact hj.bf hq
                        · exact (hj.af hq).1
                      match i1, ho, hi, hd with
                      | 0, ho, hi, hd =>
                        simp only [List.getElem?_cons_zero, Option.some.injEq] at ho
                        subst ho
                        have g6 : a1.tmps[6]? = some (.pointer (some ⟨w.heap.size, 0, none⟩)) := hh.old 6 (by kernel_rfl) rfl
                        have B := HCB.out.kept hKR
                        have c0 := B.at 0 rfl
                        have c1 := B.at 1 rfl
                        have c2 := B.at 2 rfl
                        have c3 := B.at 3 rfl
                        have c4 := B.at 4 rfl
                        have c5 := B.at 5 rfl
                        have c6 := B.at 6 rfl
                        have c7 := B.at 7 rfl
                        have c8 := B.at 8 rfl
                        clear B
                        have HN : Hid (MJ (fun q1 => match q1 with | 0 => some (.agg #[.int .i64 (sn : Int), .int .i64 n1, .int .i64 n2, .int .i64 n3, .int .i64 n4, .int .i64 n5, .int .i64 (sm : Int), .int .i64 n7, .slice sx sl sc]) | 1 => some (.slice (some ⟨xb, xo, none⟩) l cc) | 2 => some (.pointer (some ⟨xb, xo, none⟩)) | 3 => some (.int .i64 (L 0)) | _ => none) 4 5 (fun u => Kept W8 u) (fun v u => Newf W8 (td0 (L 0) true) (sn : Int) n1 sl S R v u) (done d 0) (vals.set 0 (.agg #[.int .i64 (sn : Int), .int .i64 n1, .int .i64 n2, .int .i64 n3, .int .i64 n4, .int .i64 n5, .int .i64 (sm : Int), .int .i64 n7, .slice sx sl sc])) u) := hj.plain 0 _ (by omega) (by decide) (by decide) rfl
                        clear hh hd hj hi hKR
                        refine wpOp_step rfl (fun K hK => ?_)
                        go_simp
                        exact hK _ _ ⟨_, by simp [Act.put], HN.out⟩
                      | 1, ho, hi, hd =>
                        simp only [List.getElem?_cons_succ, List.getElem?_cons_zero, Option.some.injEq] at ho
                        subst ho
                        have g3 : a1.tmps[3]? = some (.slice (some ⟨xb, xo, none⟩) l cc) := hh.old 3 (by kernel_rfl) rfl
                        have HN : Hid (MJ (fun q1 => match q1 with | 0 => some (.agg #[.int .i64 (sn : Int), .int .i64 n1, .int .i64 n2, .int .i64 n3, .int .i64 n4, .int .i64 n5, .int .i64 (sm : Int), .int .i64 n7, .slice sx sl sc]) | 1 => some (.slice (some ⟨xb, xo, none⟩) l cc) | 2 => some (.pointer (some ⟨xb, xo, none⟩)) | 3 => some (.int .i64 (L 0)) | _ => none) 4 5 (fun u => Kept W8 u) (fun v u => Newf W8 (td0 (L 0) true) (sn : Int) n1 sl S R v u) (done d 1) (vals.set 1 (.slice (some ⟨xb, xo, none⟩) l cc)) u) := hj.plain 1 _ (by omega) (by decide) (by decide) rfl
                        clear hh hd hj hi hKR
                        refine wpOp_step rfl (fun K hK => ?_)
                        go_simp
                        exact hK _ _ ⟨_, by simp [Act.put], HN.out⟩
                      | 2, ho, hi, hd =>
                        simp only [List.getElem?_cons_succ, List.getElem?_cons_zero, Option.some.injEq] at ho
                        subst ho
                        have g262 : a1.tmps[262]? = some (.slice (some ⟨xb, xo, none⟩) l cc) := (hh.did 1 _ 262 rfl rfl (hd { on := 1, ground := .data } (by simp) rfl)).trans (congrArg some (hj.kn 1 _ rfl (hd { on := 1, ground := .data } (by simp) rfl)))
                        have HN : Hid (MJ (fun q1 => match q1 with | 0 => some (.agg #[.int .i64 (sn : Int), .int .i64 n1, .int .i64 n2, .int .i64 n3, .int .i64 n4, .int .i64 n5, .int .i64 (sm : Int), .int .i64 n7, .slice sx sl sc]) | 1 => some (.slice (some ⟨xb, xo, none⟩) l cc) | 2 => some (.pointer (some ⟨xb, xo, none⟩)) | 3 => some (.int .i64 (L 0)) | _ => none) 4 5 (fun u => Kept W8 u) (fun v u => Newf W8 (td0 (L 0) true) (sn : Int) n1 sl S R v u) (done d 2) (vals.set 2 (.pointer (some ⟨xb, xo, none⟩))) u) := hj.plain 2 _ (by omega) (by decide) (by decide) rfl
                        clear hh hd hj hi hKR
                        refine wpOp_step rfl (fun K hK => ?_)
                        go_simp
                        exact hK _ _ ⟨_, by simp [Act.put], HN.out⟩
                      | 3, ho, hi, hd =>
                        simp only [List.getElem?_cons_succ, List.getElem?_cons_zero, Option.some.injEq] at ho
                        subst ho
                        have g263 : a1.tmps[263]? = some (.pointer (some ⟨xb, xo, none⟩)) := (hh.did 2 _ 263 rfl rfl (hd { on := 2, ground := .data } (by simp) rfl)).trans (congrArg some (hj.kn 2 _ rfl (hd { on := 2, ground := .data } (by simp) rfl)))
                        have cg : u.cell? ⟨xb, xo, none⟩ = some (.int .i64 (L 0)) := ((HKV.out.trans hKR).cell HX.out.1).trans (HX.out.2 0 (by omega))
                        have HN : Hid (MJ (fun q1 => match q1 with | 0 => some (.agg #[.int .i64 (sn : Int), .int .i64 n1, .int .i64 n2, .int .i64 n3, .int .i64 n4, .int .i64 n5, .int .i64 (sm : Int), .int .i64 n7, .slice sx sl sc]) | 1 => some (.slice (some ⟨xb, xo, none⟩) l cc) | 2 => some (.pointer (some ⟨xb, xo, none⟩)) | 3 => some (.int .i64 (L 0)) | _ => none) 4 5 (fun u => Kept W8 u) (fun v u => Newf W8 (td0 (L 0) true) (sn : Int) n1 sl S R v u) (done d 3) (vals.set 3 (.int .i64 (L 0))) u) := hj.plain 3 _ (by omega) (by decide) (by decide) rfl
                        clear hh hd hj hi hKR
                        refine wpOp_step rfl (fun K hK => ?_)
                        go_simp
                        exact hK _ _ ⟨_, by simp [Act.put], HN.out⟩
                      | 4, ho, hi, hd =>
                        simp only [List.getElem?_cons_succ, List.getElem?_cons_zero, Option.some.injEq] at ho
                        subst ho
                        have g261 : a1.tmps[261]? = some (.agg #[.int .i64 (sn : Int), .int .i64 n1, .int .i64 n2, .int .i64 n3, .int .i64 n4, .int .i64 n5, .int .i64 (sm : Int), .int .i64 n7, .slice sx sl sc]) := (hh.did 0 _ 261 rfl rfl (hd { on := 0, ground := .data } (by simp) rfl)).trans (congrArg some (hj.kn 0 _ rfl (hd { on := 0, ground := .data } (by simp) rfl)))
                        have g264 : a1.tmps[264]? = some (.int .i64 (L 0)) := (hh.did 3 _ 264 rfl rfl (hd { on := 3, ground := .data } (by simp) rfl)).trans (congrArg some (hj.kn 3 _ rfl (hd { on := 3, ground := .data } (by simp) rfl)))
                        have CA := CN.out u hKR
                        have HN : Hid (∀ v' u', Newf W8 (td0 (L 0) true) (sn : Int) n1 sl S R v' u' → MJ (fun q1 => match q1 with | 0 => some (.agg #[.int .i64 (sn : Int), .int .i64 n1, .int .i64 n2, .int .i64 n3, .int .i64 n4, .int .i64 n5, .int .i64 (sm : Int), .int .i64 n7, .slice sx sl sc]) | 1 => some (.slice (some ⟨xb, xo, none⟩) l cc) | 2 => some (.pointer (some ⟨xb, xo, none⟩)) | 3 => some (.int .i64 (L 0)) | _ => none) 4 5 (fun u => Kept W8 u) (fun v u => Newf W8 (td0 (L 0) true) (sn : Int) n1 sl S R v u) (done d 4) (vals.set 4 v') u') := fun v' u' q => hj.call (by omega) (by decide) hi rfl q
                        clear hh hd hj hi hKR
                        refine wpOp_step rfl (fun K hK => ?_)
                        go_simp
                        refine CA.mono ?_
                        rintro e u' ⟨v', rfl, q1⟩
                        exact hK _ _ ⟨v', by simp [Act.put], HN.out v' u' q1⟩
                      | 5, ho, hi, hd =>
                        simp only [List.getElem?_cons_succ, List.getElem?_cons_zero, Option.some.injEq] at ho
                        subst ho
                        have g265 : a1.tmps[265]? = some (vals.getD 4 undef) := hh.did 4 _ 265 rfl rfl (hd { on := 4, ground := .data } (by simp) rfl)
                        have HN0 := hj.last (by omega) (by decide) (hd { on := 4, ground := .data } (by simp) rfl) (hd { on := 0, ground := .phase } (by simp) rfl) rfl
                        obtain ⟨y, hy⟩ : ∃ y, vals.getD 4 undef = y := ⟨_, rfl⟩
                        rw [hy] at HN0 g265
                        have HN : Hid (MJ (fun q1 => match q1 with | 0 => some (.agg #[.int .i64 (sn : Int), .int .i64 n1, .int .i64 n2, .int .i64 n3, .int .i64 n4, .int .i64 n5, .int .i64 (sm : Int), .int .i64 n7, .slice sx sl sc]) | 1 => some (.slice (some ⟨xb, xo, none⟩) l cc) | 2 => some (.pointer (some ⟨xb, xo, none⟩)) | 3 => some (.int .i64 (L 0)) | _ => none) 4 5 (fun u => Kept W8 u) (fun v u => Newf W8 (td0 (L 0) true) (sn : Int) n1 sl S R v u) (done d 5) (vals.set 5 y) u) := HN0
                        clear hh hd hj hi hKR HN0 hy
                        refine wpOp_step rfl (fun K hK => ?_)
                        go_simp
                        exact hK _ _ ⟨y, by simp [Act.put], HN.out⟩
                      | n + 6, ho, _, _ => simp at ho
                    · intro u d vals hv hall hj
                      have h9 := hj.af (hall 4 (by decide))
                      have h10 := (hj.la (hall 5 (by decide))).2.1
                      clear hall hj
                      match vals, hv, h9, h10 with
                      | [y0, y1, y2, y3, y4, y5], _, h9, h10 =>
                        simp only [List.getD_cons_succ, List.getD_cons_zero] at h9 h10
                        subst h10
                        obtain ⟨K5, p, E, hy, hF5, hp5, hE5⟩ := h9
                        subst hy
                        refine norm_list' (L' := [_, _, _, _, _, _, _, _, _, _, _, _, _, _, _, _, _, _, _, _, _, _, _, _, _, _, _, _, _, _, _, _, _, _, _, _, _, _, _, _, _, _, _, _, _, _, _, _, _, _, _, _, _, _, _, _, _, _, _, _, _, _, _, _, _, _, _, _, _, _, _, _, _, _, _, _, _, _, _, _, _, _, _, _, _, _, _, _, _, _, _, _, _, _, _, _, _, _, _, _, _, _, _, _, _, _, _, _, _, _, _, _, _, _, _, _, _, _, _, _, _, _, _, _, _, _, _, _, _, _, _, _, _, _, _, _, _, _, _, _, _, _, _, _, _, _, _, _, _, _, _, _, _, _, _, _, _, _, _, _, _, _, _, _, _, _, _, _, _, _, _, _, _, _, _, _, _, _, _, _, _, _, _, _, _, _, _, _, _, _, _, _, _, _, _, _, _, _, _, _, _, _, _, _, _, _, _, _, _, _, _, _, _, _, _, _, _, _, _, _, _, _, _, _, _, _, _, _, _, _, _, _, _, _, _, _, _, _, _, _, _, _, _, _, _, _, _, _, _, _, _, _, _, _, _, _, _, _, _, _, _, _, _, _, _, _, _, _, _, _, _, _, _, _, _, _, _, _, _, _, _, _, _, _, _, _, _, _, _, _, _, _, _, _, _, _, _, _, _, _, _, _, _, _, _, _, _, _, _, _]) rfl ?_
                        simp only [List.getD_cons_succ, List.getD_cons_zero]
                        have hrun : Run ⟨U, fun k => if k = wb then W8.heap[wb]? else none⟩ p b M n' sb1 tb (ovr (wrt fw N) ad th.V K) E th true (JA th sn Tl) q 0 0 u := by
                          have hm8 : Mw U W8 b M n' sb1 tb (ovr (wrt fw N) ad th.V K) q SA wb sn WF := HMW0.out
                          exact mw_run hm8 (by rw [HTH.out.1]; exact hF5 _) hp5 K5 (by rw [HSA.out.2.1]; exact Nat.zero_le _) HJ0.out
                        have HRN : Hid (Run ⟨U, fun k => if k = wb then W8.heap[wb]? else none⟩ p b M n' sb1 tb (ovr (wrt fw N) ad th.V K) E th true (JA th sn Tl) q 0 0 u) := hrun
                        have HENV : Hid (Env E n' (ovr (wrt fw N) ad th.V K) k hm' th) := HEV.out E hE5
                        clear hrun hF5 hp5 hE5 K5 CN HCB HKV
                        have HJK : Hid (Jok th true (JA th sn Tl)) := jokA (fun j hj => by rw [HTH.out.1]; exact HFR.out j (by rw [HTH.out.2.1] at hj; exact hj)) (fun s i hv => by
                          rw [HTH.out.2.2.2.2.1] at hv
                          split at hv
                          · rename_i hc
                            obtain rfl : RV s = i := by simpa using hv
                            exact ⟨hc.2.2.1, hc.2.2.2.1, hc.2.2.2.2⟩
                          · cases hv)
                        have HQC : Hid (q ≤ 50000 ∧ 0 ≤ 50000) := ⟨by omega, by decide⟩
                        obtain ⟨T, hT⟩ : ∃ T, th.all = T := ⟨_, rfl⟩
                        have HT : Hid (th.all = T) := hT
                        have hTl : T ≤ 2000 := by rw [← hT]; exact HTH.out.2.2.2.2.2.2
                        have hTb : T < 18 * l + 3 := by rw [← hT]; exact HTH.out.2.2.2.2.2.1
                        clear hT
                        go_wp2_with fail
                        go_loopg [32] T (fun m i wr => ∃ t : Nat, i = .int .i64 t ∧ t ≤ T ∧ m = T - t ∧ Hid (Run ⟨U, fun k => if k = wb then W8.heap[wb]? else none⟩ p b M n' sb1 tb (ovr (wrt fw N) ad th.V K) E th true (JA th sn Tl) q 0 t wr))
                        case atStart => exact ⟨0, rfl, by omega, by omega, HRN.out⟩
                        case round =>
                          obtain ⟨t, rfl, ht, hm, hw⟩ := hrel
                          have HM : Hid _ := hm
                          clear hm
                          by_cases hlt : t < T
                          · have h10 : (t : Int) < 18 * (l : Int) + 3 := by omega
                            have e1 : decide (t = th.all) = false := by rw [HT.out]; simp; omega
                            have CG : Hid (Calls Tryz.prog 22 #[.pointer (some ⟨p, 0, none⟩), .pointer (some ⟨M, 0, none⟩), .pointer (some ⟨sb1, 0, none⟩)] wr _) := run_go HENV.out HJK.out wr hw.out (by rw [HT.out]; omega) HQC.out.1 HQC.out.2
                            go_wp2_with fail
                            refine (run_done _ hw.out).mono ?_
                            rintro e w4 ⟨rfl, rfl⟩
                            rw [e1]
                            clear hw e1
                            go_wp2_with fail
                            refine CG.out.mono ?_
                            rintro e w5 ⟨rfl, HR⟩
                            have HN : Hid (Run ⟨U, fun k => if k = wb then W8.heap[wb]? else none⟩ p b M n' sb1 tb (ovr (wrt fw N) ad th.V K) E th true (JA th sn Tl) q 0 (t + 1) w5) := HR
                            clear HR CG
                            go_wp2
                            go_roundg (T - (t + 1))
                            case measure => have := HM.out; omega
                            case rel => exact ⟨t + 1, by go_num, by omega, by omega, HN⟩
                          · obtain rfl : T = t := by omega
                            have h10 : (T : Int) < 18 * (l : Int) + 3 := by omega
                            have e1 : decide (T = th.all) = true := by rw [HT.out]; simp
                            go_wp2_with fail
                            refine (run_done _ hw.out).mono ?_
                            rintro e w4 ⟨rfl, rfl⟩
                            rw [e1]
                            have HW4 : Hid (Run ⟨U, fun k => if k = wb then W8.heap[wb]? else none⟩ p b M n' sb1 tb (ovr (wrt fw N) ad th.V K) E th true (JA th sn Tl) q 0 th.all w4) := by rw [HT.out]; exact hw.out
                            clear hw HM hlt ht e1 HRN
                            obtain ⟨d6, S6, q6, hA6, hsp6, _, _, hs6⟩ := HW4.out
                            obtain ⟨S9, hms, _, hJA⟩ := run_end HW4.out
                            have HROW := run_row HMW0.out HW4.out
                            have hdn := hs6.all
                            rw [hsp6, decide_eq_true rfl] at hdn
                            have HDN : Hid ((d6.st == 10) = true ∧ d6.er = 0) := ⟨hdn.1, (hdn.2.2 hdn.1).1⟩
                            have HTS : Hid (TS w4 p E th.R d6) := hA6.ts
                            have HMS : Hid (Ms U w4 sb1 tb S9 ∧ w4.rowIs wb 4 sn (bv WF)) := ⟨hms, HROW⟩
                            have HEQ : Hid (∀ i, i < sn → blk S9.n S9.T (i : Int) true = WF i) := fun i hi => fin_eq (K := K) (fun z => by rw [HTl.out, HTH.out.2.1]; constructor <;> (rintro ⟨j1, e1, e2, e3⟩; exact ⟨j1, e1, by omega, by first | (rw [HTH.out.1]; exact e3) | (rw [HTH.out.1] at e3; exact e3)⟩)) (by rw [← HTH.out.2.2.1]; exact hJA) HWF.out i hi
                            have HKE : Hid (Kept w w4) := HU7.out.1.trans hms.kept
                            clear hA6 hsp6 hs6 hms hJA HROW hdn HW4 HMW0
                            have hcb := HU7.out.2.1.kept HMS.out.1.kept
                            clear hcb
                            go_wp2_with fail
                            go_loopg [33] sn (fun m i wr => ∃ t : Nat, i = .int .i64 t ∧ t ≤ sn ∧ m = sn - t ∧ Hid (Kept w4 wr))
                            case atStart => exact ⟨0, rfl, by omega, by omega, Kept.refl _⟩
                            case round =>
                              obtain ⟨t, rfl, ht, hm, hw⟩ := hrel
                              have HM : Hid _ := hm
                              clear hm
                              obtain ⟨wF, rfl⟩ : ∃ wF, wF = wr := ⟨_, rfl⟩
                              have HMSr : Hid (Ms U wF sb1 tb S9 ∧ wF.rowIs wb 4 sn (bv WF)) := ⟨HMS.out.1.still hw.out, hw.out.row HMS.out.2⟩
                              have hcb := HU7.out.2.1.kept HMSr.out.1.kept
                              have c0 := hcb.at 0 rfl
                              clear hcb
                              by_cases hlt : t < sn
                              · have q1 := fun z : KW wF => z.cell (a := ⟨wb, t, none⟩) HMSr.out.2.lt (HMSr.out.2.cell hlt)
                                have CT : Hid (∀ z : KW wF, Calls Tryz.prog 14 #[.pointer (some ⟨sb1, 0, none⟩)] z.it fun e w' => e = .returned (.pointer (some ⟨tb, 0, none⟩)) ∧ w' = z.it) := fun z => ms_table (HMSr.out.1.still z.ok)
                                have CB : Hid (∀ z : KW wF, Calls Tryz.prog 23 #[.pointer (some ⟨tb, 0, none⟩), .int .i64 (t : Int), .bool true] z.it fun e w' => e = .returned (.bool (WF t)) ∧ w' = z.it) := fun z => by
                                  have := ms_tblack (t : Int) true (HMSr.out.1.still z.ok)
                                  rw [HEQ.out t hlt] at this
                                  exact this
                                unfold bv at q1
                                generalize WF t = wt at q1 CB
                                have ene : (wt != wt) = false := by simp
                                go_wp2_with fail
                                refine wp_region_kept (by kernel_rfl) (by kernel_rfl) fun _ => ?_
                                (try simp only [List.append_eq, List.cons_append, List.nil_append])
                                repeat (go_big_quiet_step (first | (go_at_call 14; exact kept_of_same (CT.out _)) | (go_at_call 23; exact kept_of_same (CB.out _))))
                                refine wpQuiet_nil ?_
                                rintro _ ⟨z, rfl⟩
                                have HK9 : Hid (Kept w4 z.it) := hw.out.trans z.ok
                                clear hw HMSr CT CB q1 c0
                                generalize z.it = wG at *
                                go_wp2
                                go_roundg (sn - (t + 1))
                                case measure => have := HM.out; omega
                                case rel => exact ⟨t + 1, by go_num, by omega, by omega, HK9⟩
                              · obtain rfl : sn = t := by omega
                                have HTSr : Hid (TS wF p E th.R d6) := HTS.out.kept hw.out
                                have HKEr : Hid (Kept w wF) := HKE.out.trans hw.out
                                clear hw HM HMSr HTS HKE
                                go_wp2_with fail
                                refine (first_any _).mono ?_
                                rintro e w6 ⟨rfl, K6⟩
                                have HD : Hid (TS w6 p E th.R d6) := HTSr.out.kept K6
                                have HK6 : Hid (Kept w w6) := HKEr.out.trans K6
                                clear K6 HTSr HKEr
                                go_wp2_with fail
                                refine (tdone_is true _ HD.out HDN.out.1).mono ?_
                                rintro e w7 ⟨rfl, rfl⟩
                                have CE : Hid (Calls Tryz.prog 24 #[.pointer (some ⟨p, 0, none⟩)] w7 fun e w' => e = .returned (.int .i64 0) ∧ w' = w7) := by
                                  have := terrno_is w7 HD.out
                                  rw [HDN.out.2] at this
                                  exact this
                                clear HD
                                go_wp2_with fail
                                refine CE.out.mono ?_
                                rintro e w8 ⟨rfl, rfl⟩
                                clear CE
                                go_wp2
                                go_ret
                                exact ⟨rfl, HK6.out⟩
                · obtain rfl : K = t := by omega
                  obtain ⟨WF, h1, h2⟩ := hw.out
                  have HMW0 : Hid (Mw U wA b M n' sb1 tb (ovr (wrt fw N) ad th.V K) q SA wb sn WF) := h1
                  have HWF : Hid (∀ i, i < sn → (WF i = true ↔ Tl (i : Int) ∨ ∃ s, s < K ∧ th.V s = some (i : Int))) := h2
                  clear hw h1 h2 HMt
                  obtain ⟨W8, rfl⟩ : ∃ W8, W8 = wA := ⟨_, rfl⟩
                  have HKV : Hid (Kept w W8) := HU7.out.1.trans HMW0.out.mo.kept
                  have HCB : Hid (Blk W8 w.heap.size (cl (sn : Int) n1 n2 n3 n4 n5 (sm : Int) n7 (.slice sx sl sc))) := HU7.out.2.1.kept HMW0.out.mo.kept
                  have CN : Hid (∀ u, Kept W8 u → Calls Tryz.prog 20 #[.agg #[.int .i64 (sn : Int), .int .i64 n1, .int .i64 n2, .int .i64 n3, .int .i64 n4, .int .i64 n5, .int .i64 (sm : Int), .int .i64 n7, .slice sx sl sc], .int .i64 (L 0), .bool true] u _) := fun u z => trace_newf (sn : Int) n1 n2 n3 n4 n5 (sm : Int) n7 sx sl sc S R (L 0) W8 u z (HSR.out.1.kept (HKV.out.trans z)) (fun i hi => (HSR.out.2.1 i hi).kept (HKV.out.trans z)) HSR.out.2.2 (HFR.out 0 (by omega))
                  have hcb := HCB.out
                  have c0 := hcb.at 0 rfl
                  have c1 := hcb.at 1 rfl
                  have c2 := hcb.at 2 rfl
                  have c3 := hcb.at 3 rfl
                  have c4 := hcb.at 4 rfl
                  have c5 := hcb.at 5 rfl
                  have c6 := hcb.at 6 rfl
                  have c7 := hcb.at 7 rfl
                  have c8 := hcb.at 8 rfl
                  go_wp2_with fail
                  clear hcb c0 c1 c2 c3 c4 c5 c6 c7 c8
                  refine wp_region_mix [undef, undef, undef, undef, undef, undef] [(31, 5), (261, 0), (262, 1), (263, 2), (264, 3), (265, 4)] (fun d vals u => MJ (fun q1 => match q1 with | 0 => some (.agg #[.int .i64 (sn : Int), .int .i64 n1, .int .i64 n2, .int .i64 n3, .int .i64 n4, .int .i64 n5, .int .i64 (sm : Int), .int .i64 n7, .slice sx sl sc]) | 1 => some (.slice (some ⟨xb, xo, none⟩) l cc) | 2 => some (.pointer (some ⟨xb, xo, none⟩)) | 3 => some (.int .i64 (L 0)) | _ => none) 4 5 (fun u => Kept W8 u) (fun v u => Newf W8 (td0 (L 0) true) (sn : Int) n1 sl S R v u) d vals u) (by kernel_rfl) (by kernel_rfl) (by kernel_rfl) (by kernel_rfl) rfl ?_ ?_ ?_
                  · exact ⟨fun _ _ _ h => absurd h (by simp), fun _ => (Kept.refl _).drew, fun h => absurd h (by simp), fun h => absurd h (by simp)⟩
                  · intro i1 o ho a1 d vals u hv0 hh hj hi hd
                    have hv : vals.length = 6 := hv0
                    have hKR : Kept W8 u := by
                      cases hq : d 4
                      · exact hj.bf hq
                      · exact (hj.af hq).1
                    match i1, ho, hi, hd with
                    | 0, ho, hi, hd =>
                      simp only [List.getElem?_cons_zero, Option.some.injEq] at ho
                      subst ho
                      have g6 : a1.tmps[6]? = some (.pointer (some ⟨w.heap.size, 0, none⟩)) := hh.old 6 (by kernel_rfl) rfl
                      have B := HCB.out.kept hKR
                      have c0 := B.at 0 rfl
                      have c1 := B.at 1 rfl
                      have c2 := B.at 2 rfl
                      have c3 := B.at 3 rfl
                      have c4 := B.at 4 rfl
                      have c5 := B.at 5 rfl
                      have c6 := B.at 6 rfl
                      have c7 := B.at 7 rfl
                      have c8 := B.at 8 rfl
                      clear B
                      have HN : Hid (MJ (fun q1 => match q1 with | 0 => some (.agg #[.int .i64 (sn : Int), .int .i64 n1, .int .i64 n2, .int .i64 n3, .int .i64 n4, .int .i64 n5, .int .i64 (sm : Int), .int .i64 n7, .slice sx sl sc]) | 1 => some (.slice (some ⟨xb, xo, none⟩) l cc) | 2 => some (.pointer (some ⟨xb, xo, none⟩)) | 3 => some (.int .i64 (L 0)) | _ => none) 4 5 (fun u => Kept W8 u) (fun v u => Newf W8 (td0 (L 0) true) (sn : Int) n1 sl S R v u) (done d 0) (vals.set 0 (.agg #[.int .i64 (sn : Int), .int .i64 n1, .int .i64 n2, .int .i64 n3, .int .i64 n4, .int .i64 n5, .int .i64 (sm : Int), .int .i64 n7, .slice sx sl sc])) u) := hj.plain 0 _ (by omega) (by decide) (by decide) rfl
                      clear hh hd hj hi hKR
                      refine wpOp_step rfl (fun K hK => ?_)
                      go_simp
                      exact hK _ _ ⟨_, by simp [Act.put], HN.out⟩
                    | 1, ho, hi, hd =>
                      simp only [List.getElem?_cons_succ, List.getElem?_cons_zero, Option.some.injEq] at ho
                      subst ho
                      have g3 : a1.tmps[3]? = some (.slice (some ⟨xb, xo, none⟩) l cc) := hh.old 3 (by kernel_rfl) rfl
                      have HN : Hid (MJ (fun q1 => match q1 with | 0 => some (.agg #[.int .i64 (sn : Int), .int .i64 n1, .int .i64 n2, .int .i64 n3, .int .i64 n4, .int .i64 n5, .int .i64 (sm : Int), .int .i64 n7, .slice sx sl sc]) | 1 => some (.slice (some ⟨xb, xo, none⟩) l cc) | 2 => some (.pointer (some ⟨xb, xo, none⟩)) | 3 => some (.int .i64 (L 0)) | _ => none) 4 5 (fun u => Kept W8 u) (fun v u => Newf W8 (td0 (L 0) true) (sn : Int) n1 sl S R v u) (done d 1) (vals.set 1 (.slice (some ⟨xb, xo, none⟩) l cc)) u) := hj.plain 1 _ (by omega) (by decide) (by decide) rfl
                      clear hh hd hj hi hKR
                      refine wpOp_step rfl (fun K hK => ?_)
                      go_simp
                      exact hK _ _ ⟨_, by simp [Act.put], HN.out⟩
                    | 2, ho, hi, hd =>
                      simp only [List.getElem?_cons_succ, List.getElem?_cons_zero, Option.some.injEq] at ho
                      subst ho
                      have g262 : a1.tmps[262]? = some (.slice (some ⟨xb, xo, none⟩) l cc) := (hh.did 1 _ 262 rfl rfl (hd { on := 1, ground := .data } (by simp) rfl)).trans (congrArg some (hj.kn 1 _ rfl (hd { on := 1, ground := .data } (by simp) rfl)))
                      have HN : Hid (MJ (fun q1 => match q1 with | 0 => some (.agg #[.int .i64 (sn : Int), .int .i64 n1, .int .i64 n2, .int .i64 n3, .int .i64 n4, .int .i64 n5, .int .i64 (sm : Int), .int .i64 n7, .slice sx sl sc]) | 1 => some (.slice (some ⟨xb, xo, none⟩) l cc) | 2 => some (.pointer (some ⟨xb, xo, none⟩)) | 3 => some (.int .i64 (L 0)) | _ => none) 4 5 (fun u => Kept W8 u) (fun v u => Newf W8 (td0 (L 0) true) (sn : Int) n1 sl S R v u) (done d 2) (vals.set 2 (.pointer (some ⟨xb, xo, none⟩))) u) := hj.plain 2 _ (by omega) (by decide) (by decide) rfl
                      clear hh hd hj hi hKR
                      refine wpOp_step rfl (fun K hK => ?_)
                      go_simp
                      exact hK _ _ ⟨_, by simp [Act.put], HN.out⟩
                    | 3, ho, hi, hd =>
                      simp only [List.getElem?_cons_succ, List.getElem?_cons_zero, Option.some.injEq] at ho
                      subst ho
                      have g263 : a1.tmps[263]? = some (.pointer (some ⟨xb, xo, none⟩)) := (hh.did 2 _ 263 rfl rfl (hd { on := 2, ground := .data } (by simp) rfl)).trans (congrArg some (hj.kn 2 _ rfl (hd { on := 2, ground := .data } (by simp) rfl)))
                      have cg : u.cell? ⟨xb, xo, none⟩ = some (.int .i64 (L 0)) := ((HKV.out.trans hKR).cell HX.out.1).trans (HX.out.2 0 (by omega))
                      have HN : Hid (MJ (fun q1 => match q1 with | 0 => some (.agg #[.int .i64 (sn : Int), .int .i64 n1, .int .i64 n2, .int .i64 n3, .int .i64 n4, .int .i64 n5, .int .i64 (sm : Int), .int .i64 n7, .slice sx sl sc]) | 1 => some (.slice (some ⟨xb, xo, none⟩) l cc) | 2 => some (.pointer (some ⟨xb, xo, none⟩)) | 3 => some (.int .i64 (L 0)) | _ => none) 4 5 (fun u => Kept W8 u) (fun v u => Newf W8 (td0 (L 0) true) (sn : Int) n1 sl S R v u) (done d 3) (vals.set 3 (.int .i64 (L 0))) u) := hj.plain 3 _ (by omega) (by decide) (by decide) rfl
                      clear hh hd hj hi hKR
                      refine wpOp_step rfl (fun K hK => ?_)
                      go_simp
                      exact hK _ _ ⟨_, by simp [Act.put], HN.out⟩
                    | 4, ho, hi, hd =>
                      simp only [List.getElem?_cons_succ, List.getElem?_cons_zero, Option.some.injEq] at ho
                      subst ho
                      have g261 : a1.tmps[261]? = some (.agg #[.int .i64 (sn : Int), .int .i64 n1, .int .i64 n2, .int .i64 n3, .int .i64 n4, .int .i64 n5, .int .i64 (sm : Int), .int .i64 n7, .slice sx sl sc]) := (hh.did 0 _ 261 rfl rfl (hd { on := 0, ground := .data } (by simp) rfl)).trans (congrArg some (hj.kn 0 _ rfl (hd { on := 0, ground := .data } (by simp) rfl)))
                      have g264 : a1.tmps[264]? = some (.int .i64 (L 0)) := (hh.did 3 _ 264 rfl rfl (hd { on := 3, ground := .data } (by simp) rfl)).trans (congrArg some (hj.kn 3 _ rfl (hd { on := 3, ground := .data } (by simp) rfl)))
                      have CA := CN.out u hKR
                      have HN : Hid (∀ v' u', Newf W8 (td0 (L 0) true) (sn : Int) n1 sl S R v' u' → MJ (fun q1 => match q1 with | 0 => some (.agg #[.int .i64 (sn : Int), .int .i64 n1, .int .i64 n2, .int .i64 n3, .int .i64 n4, .int .i64 n5, .int .i64 (sm : Int), .int .i64 n7, .slice sx sl sc]) | 1 => some (.slice (some ⟨xb, xo, none⟩) l cc) | 2 => some (.pointer (some ⟨xb, xo, none⟩)) | 3 => some (.int .i64 (L 0)) | _ => none) 4 5 (fun u => Kept W8 u) (fun v u => Newf W8 (td0 (L 0) true) (sn : Int) n1 sl S R v u) (done d 4) (vals.set 4 v') u') := fun v' u' q => hj.call (by omega) (by decide) hi rfl q
                      clear hh hd hj hi hKR
                      refine wpOp_step rfl (fun K hK => ?_)
                      go_simp
                      refine CA.mono ?_
                      rintro e u' ⟨v', rfl, q1⟩
                      exact hK _ _ ⟨v', by simp [Act.put], HN.out v' u' q1⟩
                    | 5, ho, hi, hd =>
                      simp only [List.getElem?_cons_succ, List.getElem?_cons_zero, Option.some.injEq] at ho
                      subst ho
                      have g265 : a1.tmps[265]? = some (vals.getD 4 undef) := hh.did 4 _ 265 rfl rfl (hd { on := 4, ground := .data } (by simp) rfl)
                      have HN0 := hj.last (by omega) (by decide) (hd { on := 4, ground := .data } (by simp) rfl) (hd { on := 0, ground := .phase } (by simp) rfl) rfl
                      obtain ⟨y, hy⟩ : ∃ y, vals.getD 4 undef = y := ⟨_, rfl⟩
                      rw [hy] at HN0 g265
                      have HN : Hid (MJ (fun q1 => match q1 with | 0 => some (.agg #[.int .i64 (sn : Int), .int .i64 n1, .int .i64 n2, .int .i64 n3, .int .i64 n4, .int .i64 n5, .int .i64 (sm : Int), .int .i64 n7, .slice sx sl sc]) | 1 => some (.slice (some ⟨xb, xo, none⟩) l cc) | 2 => some (.pointer (some ⟨xb, xo, none⟩)) | 3 => some (.int .i64 (L 0)) | _ => none) 4 5 (fun u => Kept W8 u) (fun v u => Newf W8 (td0 (L 0) true) (sn : Int) n1 sl S R v u) (done d 5) (vals.set 5 y) u) := HN0
                      clear hh hd hj hi hKR HN0 hy
                      refine wpOp_step rfl (fun K hK => ?_)
                      go_simp
                      exact hK _ _ ⟨y, by simp [Act.put], HN.out⟩
                    | n + 6, ho, _, _ => simp at ho
                  · intro u d vals hv hall hj
                    have h9 := hj.af (hall 4 (by decide))
                    have h10 := (hj.la (hall 5 (by decide))).2.1
                    clear hall hj
                    match vals, hv, h9, h10 with
                    | [y0, y1, y2, y3, y4, y5], _, h9, h10 =>
                      simp only [List.getD_cons_succ, List.getD_cons_zero] at h9 h10
                      subst h10
                      obtain ⟨K5, p, E, hy, hF5, hp5, hE5⟩ := h9
                      subst hy
                      refine norm_list' (L' := [_, _, _, _, _, _, _, _, _, _, _, _, _, _, _, _, _, _, _, _, _, _, _, _, _, _, _, _, _, _, _, _, _, _, _, _, _, _, _, _, _, _, _, _, _, _, _, _, _, _, _, _, _, _, _, _, _, _, _, _, _, _, _, _, _, _, _, _, _, _, _, _, _, _, _, _, _, _, _, _, _, _, _, _, _, _, _, _, _, _, _, _, _, _, _, _, _, _, _, _, _, _, _, _, _, _, _, _, _, _, _, _, _, _, _, _, _, _, _, _, _, _, _, _, _, _, _, _, _, _, _, _, _, _, _, _, _, _, _, _, _, _, _, _, _, _, _, _, _, _, _, _, _, _, _, _, _, _, _, _, _, _, _, _, _, _, _, _, _, _, _, _, _, _, _, _, _, _, _, _, _, _, _, _, _, _, _, _, _, _, _, _, _, _, _, _, _, _, _, _, _, _, _, _, _, _, _, _, _, _, _, _, _, _, _, _, _, _, _, _, _, _, _, _, _, _, _, _, _, _, _, _, _, _, _, _, _, _, _, _, _, _, _, _, _, _, _, _, _, _, _, _, _, _, _, _, _, _, _, _, _, _, _, _, _, _, _, _, _, _, _, _, _, _, _, _, _, _, _, _, _, _, _, _, _, _, _, _, _, _, _, _, _, _, _, _, _, _, _, _, _, _, _, _, _, _, _, _, _, _]) rfl ?_
                      simp only [List.getD_cons_succ, List.getD_cons_zero]
                      have hrun : Run ⟨U, fun k => if k = wb then W8.heap[wb]? else none⟩ p b M n' sb1 tb (ovr (wrt fw N) ad th.V K) E th true (JA th sn Tl) q 0 0 u := by
                        have hm8 : Mw U W8 b M n' sb1 tb (ovr (wrt fw N) ad th.V K) q SA wb sn WF := HMW0.out
                        exact mw_run hm8 (by rw [HTH.out.1]; exact hF5 _) hp5 K5 (by rw [HSA.out.2.1]; exact Nat.zero_le _) HJ0.out
                      have HRN : Hid (Run ⟨U, fun k => if k = wb then W8.heap[wb]? else none⟩ p b M n' sb1 tb (ovr (wrt fw N) ad th.V K) E th true (JA th sn Tl) q 0 0 u) := hrun
                      have HENV : Hid (Env E n' (ovr (wrt fw N) ad th.V K) k hm' th) := HEV.out E hE5
                      clear hrun hF5 hp5 hE5 K5 CN HCB HKV
                      have HJK : Hid (Jok th true (JA th sn Tl)) := jokA (fun j hj => by rw [HTH.out.1]; exact HFR.out j (by rw [HTH.out.2.1] at hj; exact hj)) (fun s i hv => by
                        rw [HTH.out.2.2.2.2.1] at hv
                        split at hv
                        · rename_i hc
                          obtain rfl : RV s = i := by simpa using hv
                          exact ⟨hc.2.2.1, hc.2.2.2.1, hc.2.2.2.2⟩
                        · cases hv)
                      have HQC : Hid (q ≤ 50000 ∧ 0 ≤ 50000) := ⟨by omega, by decide⟩
                      obtain ⟨T, hT⟩ : ∃ T, th.all = T := ⟨_, rfl⟩
                      have HT : Hid (th.all = T) := hT
                      have hTl : T ≤ 2000 := by rw [← hT]; exact HTH.out.2.2.2.2.2.2
                      have hTb : T < 18 * l + 3 := by rw [← hT]; exact HTH.out.2.2.2.2.2.1
                      clear hT
                      go_wp2_with fail
                      go_loopg [32] T (fun m i wr => ∃ t : Nat, i = .int .i64 t ∧ t ≤ T ∧ m = T - t ∧ Hid (Run ⟨U, fun k => if k = wb then W8.heap[wb]? else none⟩ p b M n' sb1 tb (ovr (wrt fw N) ad th.V K) E th true (JA th sn Tl) q 0 t wr))
                      case atStart => exact ⟨0, rfl, by omega, by omega, HRN.out⟩
                      case round =>
                        obtain ⟨t, rfl, ht, hm, hw⟩ := hrel
                        have HM : Hid _ := hm
                        clear hm
                        by_cases hlt : t < T
                        · have h10 : (t : Int) < 18 * (l : Int) + 3 := by omega
                          have e1 : decide (t = th.all) = false := by rw [HT.out]; simp; omega
                          have CG : Hid (Calls Tryz.prog 22 #[.pointer (some ⟨p, 0, none⟩), .pointer (some ⟨M, 0, none⟩), .pointer (some ⟨sb1, 0, none⟩)] wr _) := run_go HENV.out HJK.out wr hw.out (by rw [HT.out]; omega) HQC.out.1 HQC.out.2
                          go_wp2_with fail
                          refine (run_done _ hw.out).mono ?_
                          rintro e w4 ⟨rfl, rfl⟩
                          rw [e1]
                          clear hw e1
                          go_wp2_with fail
                          refine CG.out.mono ?_
                          rintro e w5 ⟨rfl, HR⟩
                          have HN : Hid (Run ⟨U, fun k => if k = wb then W8.heap[wb]? else none⟩ p b M n' sb1 tb (ovr (wrt fw N) ad th.V K) E th true (JA th sn Tl) q 0 (t + 1) w5) := HR
                          clear HR CG
                          go_wp2
                          go_roundg (T - (t + 1))
                          case measure => have := HM.out; omega
                          case rel => exact ⟨t + 1, by go_num, by omega, by omega, HN⟩
                        · obtain rfl : T = t := by omega
                          have h10 : (T : Int) < 18 * (l : Int) + 3 := by omega
                          have e1 : decide (T = th.all) = true := by rw [HT.out]; simp
                          go_wp2_with fail
                          refine (run_done _ hw.out).mono ?_
                          rintro e w4 ⟨rfl, rfl⟩
                          rw [e1]
                          have HW4 : Hid (Run ⟨U, fun k => if k = wb then W8.heap[wb]? else none⟩ p b M n' sb1 tb (ovr (wrt fw N) ad th.V K) E th true (JA th sn Tl) q 0 th.all w4) := by rw [HT.out]; exact hw.out
                          clear hw HM hlt ht e1 HRN
                          obtain ⟨d6, S6, q6, hA6, hsp6, _, _, hs6⟩ := HW4.out
                          obtain ⟨S9, hms, _, hJA⟩ := run_end HW4.out
                          have HROW := run_row HMW0.out HW4.out
                          have hdn := hs6.all
                          rw [hsp6, decide_eq_true rfl] at hdn
                          have HDN : Hid ((d6.st == 10) = true ∧ d6.er = 0) := ⟨hdn.1, (hdn.2.2 hdn.1).1⟩
                          have HTS : Hid (TS w4 p E th.R d6) := hA6.ts
                          have HMS : Hid (Ms U w4 sb1 tb S9 ∧ w4.rowIs wb 4 sn (bv WF)) := ⟨hms, HROW⟩
                          have HEQ : Hid (∀ i, i < sn → blk S9.n S9.T (i : Int) true = WF i) := fun i hi => fin_eq (K := K) (fun z => by rw [HTl.out, HTH.out.2.1]; constructor <;> (rintro ⟨j1, e1, e2, e3⟩; exact ⟨j1, e1, by omega, by first | (rw [HTH.out.1]; exact e3) | (rw [HTH.out.1] at e3; exact e3)⟩)) (by rw [← HTH.out.2.2.1]; exact hJA) HWF.out i hi
                          have HKE : Hid (Kept w w4) := HU7.out.1.trans hms.kept
                          clear hA6 hsp6 hs6 hms hJA HROW hdn HW4 HMW0
                          have hcb := HU7.out.2.1.kept HMS.out.1.kept
                          clear hcb
                          go_wp2_with fail
                          go_loopg [33] sn (fun m i wr => ∃ t : Nat, i = .int .i64 t ∧ t ≤ sn ∧ m = sn - t ∧ Hid (Kept w4 wr))
                          case atStart => exact ⟨0, rfl, by omega, by omega, Kept.refl _⟩
                          case round =>
                            obtain ⟨t, rfl, ht, hm, hw⟩ := hrel
                            have HM : Hid _ := hm
                            clear hm
                            obtain ⟨wF, rfl⟩ : ∃ wF, wF = wr := ⟨_, rfl⟩
                            have HMSr : Hid (Ms U wF sb1 tb S9 ∧ wF.rowIs wb 4 sn (bv WF)) := ⟨HMS.out.1.still hw.out, hw.out.row HMS.out.2⟩
                            have hcb := HU7.out.2.1.kept HMSr.out.1.kept
                            have c0 := hcb.at 0 rfl
                            clear hcb
                            by_cases hlt : t < sn
                            · have q1 := fun z : KW wF => z.cell (a := ⟨wb, t, none⟩) HMSr.out.2.lt (HMSr.out.2.cell hlt)
                              have CT : Hid (∀ z : KW wF, Calls Tryz.prog 14 #[.pointer (some ⟨sb1, 0, none⟩)] z.it fun e w' => e = .returned (.pointer (some ⟨tb, 0, none⟩)) ∧ w' = z.it) := fun z => ms_table (HMSr.out.1.still z.ok)
                              have CB : Hid (∀ z : KW wF, Calls Tryz.prog 23 #[.pointer (some ⟨tb, 0, none⟩), .int .i64 (t : Int), .bool true] z.it fun e w' => e = .returned (.bool (WF t)) ∧ w' = z.it) := fun z => by
                                have := ms_tblack (t : Int) true (HMSr.out.1.still z.ok)
                                rw [HEQ.out t hlt] at this
                                exact this
                              unfold bv at q1
                              generalize WF t = wt at q1 CB
                              have ene : (wt != wt) = false := by simp
                              go_wp2_with fail
                              refine wp_region_kept (by kernel_rfl) (by kernel_rfl) fun _ => ?_
                              (try simp only [List.append_eq, List.cons_append, List.nil_append])
                              repeat (go_big_quiet_step (first | (go_at_call 14; exact kept_of_same (CT.out _)) | (go_at_call 23; exact kept_of_same (CB.out _))))
                              refine wpQuiet_nil ?_
                              rintro _ ⟨z, rfl⟩
                              have HK9 : Hid (Kept w4 z.it) := hw.out.trans z.ok
                              clear hw HMSr CT CB q1 c0
                              generalize z.it = wG at *
                              go_wp2
                              go_roundg (sn - (t + 1))
                              case measure => have := HM.out; omega
                              case rel => exact ⟨t + 1, by go_num, by omega, by omega, HK9⟩
                            · obtain rfl : sn = t := by omega
                              have HTSr : Hid (TS wF p E th.R d6) := HTS.out.kept hw.out
                              have HKEr : Hid (Kept w wF) := HKE.out.trans hw.out
                              clear hw HM HMSr HTS HKE
                              go_wp2_with fail
                              refine (first_any _).mono ?_
                              rintro e w6 ⟨rfl, K6⟩
                              have HD : Hid (TS w6 p E th.R d6) := HTSr.out.kept K6
                              have HK6 : Hid (Kept w w6) := HKEr.out.trans K6
                              clear K6 HTSr HKEr
                              go_wp2_with fail
                              refine (tdone_is true _ HD.out HDN.out.1).mono ?_
                              rintro e w7 ⟨rfl, rfl⟩
                              have CE : Hid (Calls Tryz.prog 24 #[.pointer (some ⟨p, 0, none⟩)] w7 fun e w' => e = .returned (.int .i64 0) ∧ w' = w7) := by
                                have := terrno_is w7 HD.out
                                rw [HDN.out.2] at this
                                exact this
                              clear HD
                              go_wp2_with fail
                              refine CE.out.mono ?_
                              rintro e w8 ⟨rfl, rfl⟩
                              clear CE
                              go_wp2
                              go_ret
                              exact ⟨rfl, HK6.out⟩
end Go.Proofs.YtpdclckgnajcdaaGreat
