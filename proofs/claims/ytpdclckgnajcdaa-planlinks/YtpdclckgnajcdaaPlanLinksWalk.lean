/-
  The walk of PlanLinks.
-/
import Derived.Test.YtpdclckgnajcdaaFirst12
import Derived.Test.YtpdclckgnajcdaaOpen12
namespace Go.Proofs.Ytpdclckgnajcdaa
open Go.RowKit

theorem ints_rdf {w : World} {x : Option Addr} {l : Nat} {L : Nat → Int} (h : Ints w x l L) : Rdf w x l L := fun h0 => h.at h0
theorem nn_un (b : Bool) : NN (un b).re ∧ NN (un b).im := by
  cases b
  · exact ⟨nn_zero, nn_zero⟩
  · exact ⟨nn_zero, nn_one⟩

/-- What a law's loops over an object's writes read. -/
structure Obs (w U : World) (sb rg fl l g xb xo : Nat) (R : Nat → Bool) (L : Nat → Int) (f : Nat → Wr) : Prop where
  kept : Kept w U
  sh : Blk U sb [.bool false, .slice (some ⟨rg, 0, none⟩) fl fl]
  refs : Refs U (some ⟨rg, 0, none⟩) fl R
  got : xb < U.heap.size ∧ ∀ j, j < l → U.cell? ⟨xb, xo + j, none⟩ = some (.int .i64 (L j))
  wr : g < U.heap.size ∧ ∀ i, i < 8 * l → U.cell? ⟨g, i * 2, none⟩ = some (.int .i64 (f i).a) ∧ U.cell? ⟨g, i * 2 + 1, none⟩ = some (.complex .f64 (f i).z.re (f i).z.im)
theorem Obs.still {w U U' : World} {sb rg fl l g xb xo : Nat} {R : Nat → Bool} {L : Nat → Int} {f : Nat → Wr} (h : Obs w U sb rg fl l g xb xo R L f) (k : Kept U U') : Obs w U' sb rg fl l g xb xo R L f :=
  ⟨h.kept.trans k, h.sh.kept k, h.refs.kept k, ⟨Nat.lt_of_lt_of_le h.got.1 k.size, fun j hj => (k.cell h.got.1).trans (h.got.2 j hj)⟩, ⟨Nat.lt_of_lt_of_le h.wr.1 k.size, fun i hi => ⟨(k.cell h.wr.1).trans (h.wr.2 i hi).1, (k.cell h.wr.1).trans (h.wr.2 i hi).2⟩⟩⟩

set_option maxRecDepth 20000 in
set_option maxHeartbeats 4000000 in
theorem planLinks_any (n0 n1 n2 n3 n4 n5 n6 n7 : Int) (sx : Option Addr) (sl sc : Nat) (S : Nat → Sh) (R : Nat → Nat → Bool) (kind : Int) (x : Option Addr) (l c : Nat) (L : Nat → Int) (w : World) (hS : Shps w sx sl S) (hR : ∀ i, i < sl → Refs w (S i).x (S i).l (R i)) (hZ : ∀ i, i < sl → (S i).l ≤ 140737488351232)
    (hc : l ≤ c) (hL : Ints w x l L) :
    Calls Try.prog 6 #[.agg #[.int .i64 n0, .int .i64 n1, .int .i64 n2, .int .i64 n3, .int .i64 n4, .int .i64 n5, .int .i64 n6, .int .i64 n7, .slice sx sl sc], .int .i64 kind, .slice x l c] w fun e w' => e = .returned (.bool true) ∧ Kept w w' := by
  obtain ⟨p, hp⟩ := bool_iff (Small sl S)
  have CF : Hid (∀ w', Kept w w' → Calls Try.prog 11 #[.agg #[.int .i64 n0, .int .i64 n1, .int .i64 n2, .int .i64 n3, .int .i64 n4, .int .i64 n5, .int .i64 n6, .int .i64 n7, .slice sx sl sc]] w' _) := fun w' k => few_any n0 n1 n2 n3 n4 n5 n6 n7 sx sl sc S p w' (hS.kept k) hp
  have HP : Hid (p = true ↔ Small sl S) := hp
  have HH : Hid (Shps w sx sl S ∧ (∀ i, i < sl → Refs w (S i).x (S i).l (R i)) ∧ (∀ i, i < sl → (S i).l ≤ 140737488351232) ∧ Rdf w x l L) := ⟨hS, hR, hZ, ints_rdf hL⟩
  clear hp hS hR hZ hL
  go_enter Try.func6, Try.ntmps6
  go_wp2_with fail
  generalize hW1 : w.alloc _ = W1
  have HW1 : Hid (Kept w W1 ∧ Blk W1 w.heap.size (cl n0 n1 n2 n3 n4 n5 n6 n7 (.slice sx sl sc))) := by rw [← hW1]; exact ⟨(Kept.refl w).alloc _ _, Blk.new w _ _⟩
  clear hW1
  refine (first_any _).mono ?_
  rintro e u1 ⟨rfl, K⟩
  have HW : Hid (Kept w u1 ∧ Blk u1 w.heap.size (cl n0 n1 n2 n3 n4 n5 n6 n7 (.slice sx sl sc))) := ⟨HW1.out.1.trans K, HW1.out.2.kept K⟩
  clear HW1 K
  have c0 := HW.out.2.at 0 rfl
  have c1 := HW.out.2.at 1 rfl
  have c2 := HW.out.2.at 2 rfl
  have c3 := HW.out.2.at 3 rfl
  have c4 := HW.out.2.at 4 rfl
  have c5 := HW.out.2.at 5 rfl
  have c6 := HW.out.2.at 6 rfl
  have c7 := HW.out.2.at 7 rfl
  have c8 := HW.out.2.at 8 rfl
  by_cases hk : kind < 0 ∨ (sl : Int) ≤ kind
  · have CS : Hid (∀ w, Calls Try.prog 18 #[.agg #[.int .i64 n0, .int .i64 n1, .int .i64 n2, .int .i64 n3, .int .i64 n4, .int .i64 n5, .int .i64 n6, .int .i64 n7, .slice sx sl sc], .int .i64 kind] w _) := fun w => shape_out n0 n1 n2 n3 n4 n5 n6 n7 sx sl sc kind w hk
    clear hk
    go_wp2_with fail
    refine (CS.out _).mono ?_
    rintro e u2 ⟨rfl, K⟩
    have HV : Hid (Kept w u2 ∧ Blk u2 w.heap.size (cl n0 n1 n2 n3 n4 n5 n6 n7 (.slice sx sl sc))) := ⟨HW.out.1.trans K, HW.out.2.kept K⟩
    clear HW K c0 c1 c2 c3 c4 c5 c6 c7 c8 CS
    go_upto_region 4 with fail
    generalize hW3 : u2.alloc _ = W3
    have HW : Hid (Kept w W3 ∧ Blk W3 w.heap.size (cl n0 n1 n2 n3 n4 n5 n6 n7 (.slice sx sl sc))) := by rw [← hW3]; exact ⟨HV.out.1.alloc _ _, HV.out.2.kept ((Kept.refl _).alloc _ _)⟩
    clear HV hW3
    have c0 := HW.out.2.at 0 rfl
    have c1 := HW.out.2.at 1 rfl
    have c2 := HW.out.2.at 2 rfl
    have c3 := HW.out.2.at 3 rfl
    have c4 := HW.out.2.at 4 rfl
    have c5 := HW.out.2.at 5 rfl
    have c6 := HW.out.2.at 6 rfl
    have c7 := HW.out.2.at 7 rfl
    have c8 := HW.out.2.at 8 rfl
    go_wp2_with fail
    refine (CF.out _ HW.out.1).mono ?_
    rintro e u4 ⟨rfl, K⟩
    have HK : Hid (Kept w u4) := HW.out.1.trans K
    clear HW K c0 c1 c2 c3 c4 c5 c6 c7 c8
    cases p
    · go_wp2_with fail
      refine (first_any _).mono ?_
      rintro e u9 ⟨rfl, K9⟩
      have K10 : Hid (Kept w u9) := HK.out.trans K9
      clear K9
      go_wp2
      go_ret
      exact ⟨rfl, K10.out⟩
    · go_wp2_with fail
      refine (first_any _).mono ?_
      rintro e u9 ⟨rfl, K9⟩
      have K10 : Hid (Kept w u9) := HK.out.trans K9
      clear K9
      go_wp2
      go_ret
      exact ⟨rfl, K10.out⟩
  obtain ⟨k, rfl⟩ : ∃ k : Nat, kind = k := ⟨kind.toNat, by omega⟩
  have hks : k < sl := by omega
  have HKS : Hid (k < sl) := hks
  have CS : Hid (∀ w', Kept w w' → Calls Try.prog 18 #[.agg #[.int .i64 n0, .int .i64 n1, .int .i64 n2, .int .i64 n3, .int .i64 n4, .int .i64 n5, .int .i64 n6, .int .i64 n7, .slice sx sl sc], .int .i64 k] w' _) := fun w' q => shape_in n0 n1 n2 n3 n4 n5 n6 n7 sx sl sc S (R k) k w' hks (HH.out.2.2.1 k hks) (HH.out.1.kept q) ((HH.out.2.1 k hks).kept q)
  clear hk hks
  go_wp2_with fail
  refine (CS.out _ HW.out.1).mono ?_
  rintro e u2 ⟨rg, rfl, hg, hRf, K⟩
  have HV : Hid (Kept w u2 ∧ Blk u2 w.heap.size (cl n0 n1 n2 n3 n4 n5 n6 n7 (.slice sx sl sc)) ∧ Refs u2 (some ⟨rg, 0, none⟩) (S k).l (R k)) := ⟨HW.out.1.trans K, HW.out.2.kept K, hRf⟩
  clear HW K c0 c1 c2 c3 c4 c5 c6 c7 c8 CS hg hRf
  obtain ⟨fl, hfl⟩ : ∃ fl, (S k).l = fl := ⟨_, rfl⟩
  obtain ⟨ab, hab⟩ : ∃ ab, (S k).arr = ab := ⟨_, rfl⟩
  rw [hfl, hab]
  rw [hfl] at HV
  have HFL : Hid ((S k).l = fl ∧ (S k).arr = ab) := ⟨hfl, hab⟩
  clear hfl hab
  go_upto_region 4 with fail
  generalize hW3 : u2.alloc _ = W3
  have HW : Hid (Kept w W3 ∧ Blk W3 w.heap.size (cl n0 n1 n2 n3 n4 n5 n6 n7 (.slice sx sl sc)) ∧ Refs W3 (some ⟨rg, 0, none⟩) fl (R k) ∧ Blk W3 u2.heap.size [.bool ab, .slice (some ⟨rg, 0, none⟩) fl fl]) := by
    rw [← hW3]
    exact ⟨HV.out.1.alloc _ _, HV.out.2.1.kept ((Kept.refl _).alloc _ _), HV.out.2.2.kept ((Kept.refl _).alloc _ _), Blk.new u2 [_, _] _⟩
  clear HV hW3
  have c0 := HW.out.2.1.at 0 rfl
  have c1 := HW.out.2.1.at 1 rfl
  have c2 := HW.out.2.1.at 2 rfl
  have c3 := HW.out.2.1.at 3 rfl
  have c4 := HW.out.2.1.at 4 rfl
  have c5 := HW.out.2.1.at 5 rfl
  have c6 := HW.out.2.1.at 6 rfl
  have c7 := HW.out.2.1.at 7 rfl
  have c8 := HW.out.2.1.at 8 rfl
  go_wp2_with fail
  refine (CF.out _ HW.out.1).mono ?_
  rintro e u4 ⟨rfl, K⟩
  have HK : Hid (Kept w u4) := HW.out.1.trans K
  have HV : Hid (Kept w u4 ∧ Blk u4 w.heap.size (cl n0 n1 n2 n3 n4 n5 n6 n7 (.slice sx sl sc)) ∧ Refs u4 (some ⟨rg, 0, none⟩) fl (R k) ∧ Blk u4 u2.heap.size [.bool ab, .slice (some ⟨rg, 0, none⟩) fl fl]) := ⟨HW.out.1.trans K, HW.out.2.1.kept K, HW.out.2.2.1.kept K, HW.out.2.2.2.kept K⟩
  clear HW K c0 c1 c2 c3 c4 c5 c6 c7 c8
  have s0 := HV.out.2.2.2.at 0 rfl
  cases p
  · go_wp2_with fail
    refine (first_any _).mono ?_
    rintro e u9 ⟨rfl, K9⟩
    have K10 : Hid (Kept w u9) := HK.out.trans K9
    clear K9
    go_wp2
    go_ret
    exact ⟨rfl, K10.out⟩
  cases ab
  case true => 
    go_wp2_with fail
    refine (first_any _).mono ?_
    rintro e u9 ⟨rfl, K9⟩
    have K10 : Hid (Kept w u9) := HK.out.trans K9
    clear K9
    go_wp2
    go_ret
    exact ⟨rfl, K10.out⟩
  by_cases hl200 : (l : Int) > 200
  · go_wp2_with fail
    refine (first_any _).mono ?_
    rintro e u9 ⟨rfl, K9⟩
    have K10 : Hid (Kept w u9) := HK.out.trans K9
    clear K9
    go_wp2
    go_ret
    exact ⟨rfl, K10.out⟩
  have HFEW : Hid (Small sl S) := HP.out.1 rfl
  clear HK CF HP
  have HW : Hid (Kept w u4 ∧ Blk u4 w.heap.size (cl n0 n1 n2 n3 n4 n5 n6 n7 (.slice sx sl sc))) := ⟨HV.out.1, HV.out.2.1⟩
  have c0 := HW.out.2.at 0 rfl
  have c1 := HW.out.2.at 1 rfl
  have c2 := HW.out.2.at 2 rfl
  have c3 := HW.out.2.at 3 rfl
  have c4 := HW.out.2.at 4 rfl
  have c5 := HW.out.2.at 5 rfl
  have c6 := HW.out.2.at 6 rfl
  have c7 := HW.out.2.at 7 rfl
  have c8 := HW.out.2.at 8 rfl
  obtain ⟨r, hr⟩ := Asks.some (AG n0 n1 n2 n3 n4 n5 n6 n7 sl S L l) (AK sl S k false) (AI S k 0 false) (AF S k 0 false L l)
  by_cases hr0 : r = 0
  case neg =>
    have CO : Hid (∀ w', Kept w w' → Calls Try.prog 12 #[.agg #[.int .i64 n0, .int .i64 n1, .int .i64 n2, .int .i64 n3, .int .i64 n4, .int .i64 n5, .int .i64 n6, .int .i64 n7, .slice sx sl sc], .int .i64 k, .slice x l c] w' _) := fun w' q => object_no n0 n1 n2 n3 n4 n5 n6 n7 sx sl sc S R k (c := c) r w' (HH.out.1.kept q) (fun i hi => (HH.out.2.1 i hi).kept q) (by omega) hc (HH.out.2.2.2.kept q) hr hr0
    have er : (r != 0) = true := by simpa using hr0
    clear hr hr0
    go_wp2_with fail
    refine (CO.out _ HW.out.1).mono ?_
    rintro e u5 ⟨rfl, K⟩
    have HK : Hid (Kept w u5) := HW.out.1.trans K
    clear HW HV K c0 c1 c2 c3 c4 c5 c6 c7 c8 s0
    go_wp2_with fail
    refine (first_any _).mono ?_
    rintro e u9 ⟨rfl, K9⟩
    have K10 : Hid (Kept w u9) := HK.out.trans K9
    clear K9
    go_wp2
    go_ret
    exact ⟨rfl, K10.out⟩
  subst hr0
  obtain ⟨hg, hkk, _, hf⟩ := hr.zero
  have hfl40 : fl ≤ 40 := by
    have := may_few (hg.1.2.2.2 k HKS.out)
    have := HFL.out.1
    omega
  have hlf : (l : Int) = 1 + (fl : Int) / 7 := by
    have := hf.1
    rw [Int.toNat_natCast, HFL.out.1] at this
    simpa [sizeU] using this
  have HLF : Hid ((l : Int) = 1 + (fl : Int) / 7) := hlf
  have hl8 : l ≤ 8 := by omega
  have hl1 : 1 ≤ l := by omega
  clear hlf
  have HLL : Hid (∀ j, j < l → 0 ≤ L j ∧ L j ≤ 1024) := fun j hj => by have := hg.2 j hj; have := hg.1.1.1.2; omega
  have CO : Hid (∀ w', Kept w w' → Calls Try.prog 12 #[.agg #[.int .i64 n0, .int .i64 n1, .int .i64 n2, .int .i64 n3, .int .i64 n4, .int .i64 n5, .int .i64 n6, .int .i64 n7, .slice sx sl sc], .int .i64 k, .slice x l c] w' _) := fun w' q => object_yes n0 n1 n2 n3 n4 n5 n6 n7 sx sl sc S R k (c := c) w' (HH.out.1.kept q) (fun i hi => (HH.out.2.1 i hi).kept q) (by omega) hc (HH.out.2.2.2.kept q) hr
  clear hr hg hkk hf
  go_wp2_with fail
  refine (CO.out _ HW.out.1).mono ?_
  rintro e u5 ⟨v, rfl, hv, K⟩
  obtain ⟨g, d, rfl, _, hgl, hcells⟩ := hv.here (by omega)
  obtain ⟨xb, xo, rfl, hxb, hxc⟩ := HH.out.2.2.2 (by omega)
  obtain ⟨f, hf⟩ : ∃ f, objF k (R (k : Int).toNat) L l (S (k : Int).toNat).l = f := ⟨_, rfl⟩
  rw [hf] at hcells
  have HF : Hid (f = objF k (R k) L l fl) := (by rw [← hf, Int.toNat_natCast, HFL.out.1] : f = objF k (R k) L l fl)
  have KK : Kept w u5 := HV.out.1.trans K
  have HO : Hid (Obs w u5 u2.heap.size rg fl l g xb xo (R k) L f) := ⟨KK, HV.out.2.2.2.kept K, HV.out.2.2.1.kept K, ⟨Nat.lt_of_lt_of_le hxb KK.size, fun j hj => (KK.cell hxb).trans (hxc j hj)⟩, ⟨hgl, hcells⟩⟩
  clear hf hv hgl hcells hxb hxc K KK HV HW HH CO s0 c0 c1 c2 c3 c4 c5 c6 c7 c8
  have e8 : (((8 * l : Nat) : Int) != 8 * (l : Int)) = false := by simp
  have e8' : ((8 * (l : Int)) != 8 * (l : Int)) = false := by simp
  go_wp2_with fail
  go_loopg [11] l (fun m v wr => ∃ k1 : Nat, v = .int .i64 k1 ∧ k1 ≤ l ∧ m = l - k1 ∧ Hid (Obs w wr u2.heap.size rg fl l g xb xo (R k) L f))
  case atStart => exact ⟨0, rfl, by omega, by omega, HO⟩
  case round =>
    obtain ⟨j, rfl, hj0, hm, hw⟩ := hrel
    have HM : Hid _ := hm
    clear hm HO
    by_cases hlt : j < l
    · have a1 := (hw.out.wr.2 (8 * j) (by omega)).1
      have a2 := (hw.out.wr.2 (8 * j) (by omega)).2
      have b1 := hw.out.got.2 j hlt
      have p1 := HLL.out j hlt
      have ef : f (8 * j) = ⟨8 * L j, refAt L l (j + 1)⟩ := by
        have e1 : 8 * j / 8 = j := by omega
        have e2 : 8 * j % 8 = 0 := by omega
        rw [HF.out]
        simp only [objF, objW, e1, e2, if_true]
        simp
        omega
      rw [ef] at a1 a2
      simp only at a1 a2
      clear ef
      have et : (8 * (j : Int)).toNat = 8 * j := by omega
      have hx := hw.out.got.1
      have hgl := hw.out.wr.1
      by_cases h1 : j + 1 < l
      · have b2 := hw.out.got.2 (j + 1) h1
        have p2 := HLL.out (j + 1) h1
        have er : refAt L l (j + 1) = ⟨floatOfInt .f64 (L (j + 1) + 1), 4607182418800017408⟩ := if_pos h1
        rw [er] at a2
        simp only at a2
        have CWd : Hid (∀ w, Calls Try.prog 22 #[.complex .f64 (floatOfInt .f64 (L (j + 1) + 1)) 4607182418800017408, .complex .f64 (floatOfInt .f64 (L (j + 1) + 1)) 4607182418800017408] w _) := fun w => word_is _ _ _ _ true (nn_fi _) nn_one (nn_fi _) nn_one (by simp) w
        clear er
        generalize L j = v1 at *
        generalize L (j + 1) = v2 at *
        have hk2 : (j : Int) + 1 < (l : Int) := by omega
        have en : ((8 * v1 : Int) != 8 * v1) = false := by simp
        have d0 := fun z : KW wr => z.cell hgl a1
        have d1 := fun z : KW wr => z.cell hgl a2
        have d2 := fun z : KW wr => z.cell hx b1
        go_upto_region 17 with fail
        refine wp_region_kept (by kernel_rfl) (by kernel_rfl) fun _ => ?_
        repeat (go_big_quiet_step (first | (go_at_call 22; exact kept_of_same (CWd.out _))))
        refine wpQuiet_nil ?_
        rintro _ ⟨z, rfl⟩
        have HN : Hid (Obs w z.it u2.heap.size rg fl l g xb xo (R k) L f) := hw.out.still z.ok
        clear d0 d1 d2 hw CWd
        go_wp2
        go_roundg (l - (j + 1))
        all_goals (have := HM.out; try omega)
        exact ⟨j + 1, by go_num, by omega, by omega, HN⟩
      · have er : refAt L l (j + 1) = ⟨0, 4607182418800017408⟩ := if_neg h1
        rw [er] at a2
        simp only at a2
        have CWd : Hid (∀ w, Calls Try.prog 22 #[.complex .f64 0 4607182418800017408, .complex .f64 0 4607182418800017408] w _) := fun w => word_is _ _ _ _ true nn_zero nn_one nn_zero nn_one (by simp) w
        clear er
        generalize L j = v1 at *
        have hk2 : ¬ (j : Int) + 1 < (l : Int) := by omega
        have en : ((8 * v1 : Int) != 8 * v1) = false := by simp
        have d0 := fun z : KW wr => z.cell hgl a1
        have d1 := fun z : KW wr => z.cell hgl a2
        have d2 := fun z : KW wr => z.cell hx b1
        go_upto_region 17 with fail
        refine wp_region_kept (by kernel_rfl) (by kernel_rfl) fun _ => ?_
        repeat (go_big_quiet_step (first | (go_at_call 22; exact kept_of_same (CWd.out _))))
        refine wpQuiet_nil ?_
        rintro _ ⟨z, rfl⟩
        have HN : Hid (Obs w z.it u2.heap.size rg fl l g xb xo (R k) L f) := hw.out.still z.ok
        clear d0 d1 d2 hw CWd
        go_wp2
        go_roundg (l - (j + 1))
        all_goals (have := HM.out; try omega)
        exact ⟨j + 1, by go_num, by omega, by omega, HN⟩
    · have s0 := hw.out.sh.at 0 rfl
      have s1 := hw.out.sh.at 1 rfl
      have HO : Hid (Obs w wr u2.heap.size rg fl l g xb xo (R k) L f) := hw
      obtain rfl : j = l := by omega
      clear hw HM s0 s1
      go_wp2_with fail
      go_loopg [13] fl (fun m v wr => ∃ k1 : Nat, v = .int .i64 k1 ∧ k1 ≤ fl ∧ m = fl - k1 ∧ Hid (Obs w wr u2.heap.size rg fl j g xb xo (R k) L f))
      case atStart => exact ⟨0, rfl, by omega, by omega, HO⟩
      case round =>
        obtain ⟨i, rfl, hi0, hm, hw⟩ := hrel
        have HM : Hid _ := hm
        clear hm HO
        have s0 := hw.out.sh.at 0 rfl
        have s1 := hw.out.sh.at 1 rfl
        by_cases hlt : i < fl
        · obtain ⟨a, ha⟩ : ∃ a, (i + 1) / 7 = a := ⟨_, rfl⟩
          obtain ⟨b, hb⟩ : ∃ b, 1 + (i + 1) % 7 = b := ⟨_, rfl⟩
          have CP : Hid (∀ w, Calls Try.prog 23 #[.agg #[.bool false, .slice (some ⟨rg, 0, none⟩) fl fl], .int .i64 i] w _) := fun w => place_in (some ⟨rg, 0, none⟩) fl fl i a b w hfl40 (by omega) (by omega) (by omega) (by omega)
          have hal : a < j := by have := HLF.out; omega
          have hb8 : b < 8 := by omega
          have ef0 : f (8 * a + b) = ⟨8 * L a + b, un (R k i)⟩ := by
            have e1 : (8 * a + b) / 8 = a := by omega
            have e2 : (8 * a + b) % 8 = b := by omega
            have e3 : ¬ b = 0 := by omega
            have e4 : ¬ (a = 0 ∧ b = 1) := by omega
            have e5 : 7 * a + b < fl + 2 := by omega
            have e6 : 7 * a + b - 2 = i := by omega
            have e7 : L a * 8 = 8 * L a := by omega
            rw [HF.out]
            simp only [objF, objW, e1, e2, if_neg e3, if_neg e4, if_pos e5, e6, e7]
          have ef : Hid (f (8 * a + b) = ⟨8 * L a + b, un (R k i)⟩) := ef0
          clear ha hb ef0
          go_wp2_with fail
          refine (CP.out _).mono ?_
          rintro e w2 ⟨rfl, K⟩
          have HO2 : Hid (Obs w w2 u2.heap.size rg fl j g xb xo (R k) L f) := hw.out.still K
          clear K hw s0 s1 CP
          have s1 := HO2.out.sh.at 1 rfl
          have rf : w2.cell? ⟨rg, i, none⟩ = some (.bool (R k i)) := by
            obtain ⟨g', o', e, hg, cc⟩ := HO2.out.refs (by omega)
            obtain ⟨rfl, rfl⟩ : rg = g' ∧ 0 = o' := by simpa using e
            simpa using cc i hlt
          have a1 := (HO2.out.wr.2 (8 * a + b) (by omega)).1
          have a2 := (HO2.out.wr.2 (8 * a + b) (by omega)).2
          have b1 := HO2.out.got.2 a hal
          have p1 := HLL.out a hal
          rw [ef.out] at a1 a2
          simp only at a1 a2
          have et : (8 * (a : Int) + (b : Int)).toNat = 8 * a + b := by omega
          have hx := HO2.out.got.1
          have hgl := HO2.out.wr.1
          have eg : decide ((a : Int) ≥ (j : Int)) = false := by simp; omega
          have eg2 : decide ((j : Int) ≤ (a : Int)) = false := by simp; omega
          have eg3 : decide (j ≤ a) = false := by simp; omega
          clear ef
          generalize L a = v1 at *
          have en : ((8 * v1 + (b : Int) : Int) != 8 * v1 + (b : Int)) = false := by simp
          generalize R k i = q at *
          have d0 := fun z : KW w2 => z.cell hgl a1
          have d2 := fun z : KW w2 => z.cell hx b1
          cases q
          · have a2' : w2.cell? ⟨g, (8 * a + b) * 2 + 1, none⟩ = some (.complex .f64 0 0) := a2
            have d1 := fun z : KW w2 => z.cell hgl a2'
            have CWd : Hid (∀ w, Calls Try.prog 22 #[.complex .f64 0 0, .complex .f64 0 0] w _) := fun w => word_is _ _ _ _ true nn_zero nn_zero nn_zero nn_zero (by simp) w
            go_upto_region 26 with fail
            refine wp_region_kept (by kernel_rfl) (by kernel_rfl) fun _ => ?_
            repeat (go_big_quiet_step (first | (go_at_call 22; exact kept_of_same (CWd.out _))))
            refine wpQuiet_nil ?_
            rintro _ ⟨z, rfl⟩
            have HN : Hid (Obs w z.it u2.heap.size rg fl j g xb xo (R k) L f) := HO2.out.still z.ok
            clear d0 d1 d2 HO2 CWd a1 a2 a2' b1 rf s1
            go_wp2
            go_roundg (fl - (i + 1))
            all_goals (have := HM.out; try omega)
            exact ⟨i + 1, by go_num, by omega, by omega, HN⟩
          · have a2' : w2.cell? ⟨g, (8 * a + b) * 2 + 1, none⟩ = some (.complex .f64 0 4607182418800017408) := a2
            have d1 := fun z : KW w2 => z.cell hgl a2'
            have CWd : Hid (∀ w, Calls Try.prog 22 #[.complex .f64 0 4607182418800017408, .complex .f64 0 4607182418800017408] w _) := fun w => word_is _ _ _ _ true nn_zero nn_one nn_zero nn_one (by simp) w
            go_upto_region 26 with fail
            refine wp_region_kept (by kernel_rfl) (by kernel_rfl) fun _ => ?_
            repeat (go_big_quiet_step (first | (go_at_call 22; exact kept_of_same (CWd.out _))))
            refine wpQuiet_nil ?_
            rintro _ ⟨z, rfl⟩
            have HN : Hid (Obs w z.it u2.heap.size rg fl j g xb xo (R k) L f) := HO2.out.still z.ok
            clear d0 d1 d2 HO2 CWd a1 a2 a2' b1 rf s1
            go_wp2
            go_roundg (fl - (i + 1))
            all_goals (have := HM.out; try omega)
            exact ⟨i + 1, by go_num, by omega, by omega, HN⟩
        · obtain rfl : i = fl := by omega
          have HK : Hid (Kept w wr) := hw.out.kept
          clear hw
          go_wp2_with fail
          refine (first_any _).mono ?_
          rintro e u9 ⟨rfl, K9⟩
          have K10 : Hid (Kept w u9) := HK.out.trans K9
          clear K9
          go_wp2
          go_ret
          exact ⟨rfl, K10.out⟩
end Go.Proofs.Ytpdclckgnajcdaa
