/-
  The document's Object (package sporef6): what is written, its fragments apart.
-/
import Derived.Test.YtpdclckgnajcdaaRefC
namespace Go.Proofs.Ytpdclckgnajcdaa
open Go.RowKit
attribute [local go_sem] run_store_complex

set_option maxRecDepth 20000 in
set_option maxHeartbeats 4000000 in
theorem robject_yes0 (n0 n1 n2 n3 n4 n5 n6 n7 : Int) (sx : Option Addr) (sl sc : Nat) (S : Nat → Sh) (R : Nat → Nat → Bool) (k : Nat) {x : Option Addr} {l c : Nat} {L : Nat → Int} (w : World) (hS : Shps w sx sl S) (hR : ∀ i, i < sl → Refs w (S i).x (S i).l (R i))
    (hc : l ≤ c) (hx : Rdf w x l L) (hr : Asks (AG n0 n1 n2 n3 n4 n5 n6 n7 sl S L l) (AK sl S k false) (AI S k 0 false) (AF S k 0 false L l) 0) (hsd : sideU L l = false) :
    Calls Try.prog 13 #[.agg #[.int .i64 n0, .int .i64 n1, .int .i64 n2, .int .i64 n3, .int .i64 n4, .int .i64 n5, .int .i64 n6, .int .i64 n7, .slice sx sl sc], .int .i64 k, .slice x l c] w fun e w' => (∃ v, e = .returned (.tuple #[v, .int .i64 0]) ∧ Ws w' w.heap.size v (8 * l) (objF k (R k) L l (S k).l)) ∧ Kept w w' := by
  obtain ⟨hg, hk, _, hf⟩ := hr.zero
  have hk2 := hk.2.2
  have hf1 := hf.1
  rw [Int.toNat_natCast] at hk2 hf1
  have hkn : k < sl := by have := hk.2.1; omega
  have hfl : (S k).l ≤ 40 := may_few (hg.1.2.2.2 _ hkn)
  have hlz : 1 + ((S k).l : Int) / 7 = l := by rw [hf1]; rfl
  have hl8 : l ≤ 8 := by omega
  have hl1 : 1 ≤ l := by omega
  have hk8 : (k : Int) ≤ 8 := by have := hg.1.2.2.1; omega
  have hL : ∀ j, j < l → 0 ≤ L j ∧ L j ≤ 1024 := fun j hj => by have := hg.2 j hj; have := hg.1.1.1.2; omega
  obtain ⟨xb, xo, rfl, hxb, hxc⟩ := hx (by omega)
  have C0 : Hid (∀ w', Kept w w' → Calls Try.prog 44 #[.agg #[.int .i64 n0, .int .i64 n1, .int .i64 n2, .int .i64 n3, .int .i64 n4, .int .i64 n5, .int .i64 n6, .int .i64 n7, .slice sx sl sc]] w' _) := fun w' k => ref_check n0 n1 n2 n3 n4 n5 n6 n7 sx sl sc S 0 w' (hS.kept k) (Checks.of_ok hg.1.1 hg.1.2)
  have C1 : Hid (∀ w', Kept w w' → Calls Try.prog 45 #[.agg #[.int .i64 n0, .int .i64 n1, .int .i64 n2, .int .i64 n3, .int .i64 n4, .int .i64 n5, .int .i64 n6, .int .i64 n7, .slice sx sl sc], .slice (some ⟨xb, xo, none⟩) l c] w' _) := fun w' k => rwrong_any n0 n1 n2 n3 n4 n5 n6 n7 sx sl sc (c := c) false w' (by omega) (hx.kept k) ⟨fun h => (by cases h), fun h => absurd hg.2 h⟩
  have C2 : Hid (∀ w', Kept w w' → Calls Try.prog 48 #[.slice (some ⟨xb, xo, none⟩) l c] w' _) := fun w' k => rtwice_any (c := c) false w' (by omega) hc (hx.kept k) ⟨fun h => (by cases h), fun h => absurd h hf.2⟩
  have CS : Hid (∀ w', Kept w w' → Calls Try.prog 46 #[.agg #[.int .i64 n0, .int .i64 n1, .int .i64 n2, .int .i64 n3, .int .i64 n4, .int .i64 n5, .int .i64 n6, .int .i64 n7, .slice sx sl sc], .int .i64 k] w' _) := fun w' q => ref_shape_in n0 n1 n2 n3 n4 n5 n6 n7 sx sl sc S k w' hkn (hS.kept q)
  have CSd : Hid (∀ w', Kept w w' → Calls Try.prog 20 #[.slice (some ⟨xb, xo, none⟩) l c] w' _) := fun w' q => rside_any (c := c) w' (by omega) (hx.kept q) (small_i64 hL)
  rw [hsd] at CSd
  have hmo : modeO L l = 0 := by unfold modeO; rw [hsd]; rfl
  have CH : Hid (∀ w, Calls Try.prog 51 #[.int .i64 k, .int .i64 0] w _) := fun w => rhead_in k 0 w (by omega) (by omega) (by omega) (by omega)
  obtain ⟨fl, hfe⟩ : ∃ fl, (S k).l = fl := ⟨_, rfl⟩
  obtain ⟨sxx, hxe⟩ : ∃ sxx, (S k).x = sxx := ⟨_, rfl⟩
  obtain ⟨sfc, hce⟩ : ∃ sfc, (S k).c = sfc := ⟨_, rfl⟩
  have hRk : Refs w sxx fl (R k) := by rw [← hfe, ← hxe]; exact hR k hkn
  rw [hfe] at hfl hlz
  have CZ : Hid (∀ w, Calls Try.prog 47 #[.agg #[.bool false, .slice sxx fl sfc], .int .i64 0] w _) := fun w => rsize_obj sxx fl sfc l w hfl hlz
  have CP : Hid (∀ (i a b : Nat) w, i < fl → (i + 1) / 7 = a → 1 + (i + 1) % 7 = b → Calls Try.prog 52 #[.agg #[.bool false, .slice sxx fl sfc], .int .i64 i] w _) := fun i a b w hi ha hb => rplace_in sxx fl sfc i a b w hfl hi ha hb
  have HFE : Hid ((S k).l = fl ∧ (S k).arr = false ∧ (S k).x = sxx ∧ (S k).c = sfc) := ⟨hfe, hk2, hxe, hce⟩
  have HLZ : Hid (1 + (fl : Int) / 7 = l) := hlz
  have HX : Hid (xb < w.heap.size ∧ ∀ j, j < l → w.cell? ⟨xb, xo + j, none⟩ = some (.int .i64 (L j))) := ⟨hxb, hxc⟩
  have HLL : Hid (∀ j, j < l → 0 ≤ L j ∧ L j ≤ 1024) := hL
  have HR : Hid (Refs w sxx fl (R k)) := hRk
  have HMO : Hid (modeO L l = 0) := hmo
  have hmk := run_make_arr8 l (by omega)
  have ez : ((l : Int) != (l : Int)) = false := by simp
  clear hS hR hr hx hxb hxc hfe hxe hce hL hg hk hk2 hf hf1 hkn hRk hmo hsd hlz
  go_enter Try.func13, Try.ntmps13
  go_wp2_with fail
  generalize hW1 : w.alloc _ = W1
  have HW1 : Hid (Kept w W1 ∧ Blk W1 w.heap.size (cl n0 n1 n2 n3 n4 n5 n6 n7 (.slice sx sl sc))) := by rw [← hW1]; exact ⟨(Kept.refl w).alloc _ _, Blk.new w _ _⟩
  clear hW1
  refine (C0.out _ HW1.out.1).mono ?_
  rintro e u1 ⟨rfl, K⟩
  have HW : Hid (Kept w u1 ∧ Blk u1 w.heap.size (cl n0 n1 n2 n3 n4 n5 n6 n7 (.slice sx sl sc))) := ⟨HW1.out.1.trans K, HW1.out.2.kept K⟩
  clear HW1 K
  have c0 := HW.out.2.at 0 rfl
  have c1 := HW.out.2.at 1 rfl
  have c2 := HW.out.2.at 2 rfl
  have c3 := HW.out.2.at 3 rfl
  have c4 := HW.out.2.at 4 rfl
  have c5 := HW.out.2.at 5 rfl
  have c6 := HW.out.2.at 6 rfl
  have c7 := HW.out.2.at 7 rfl
  have c8 := HW.out.2.at 8 rfl
  go_wp2_with fail
  refine (C1.out _ HW.out.1).mono ?_
  rintro e u2 ⟨rfl, K⟩
  have HW2 : Hid (Kept w u2 ∧ Blk u2 w.heap.size (cl n0 n1 n2 n3 n4 n5 n6 n7 (.slice sx sl sc))) := ⟨HW.out.1.trans K, HW.out.2.kept K⟩
  clear HW K c0 c1 c2 c3 c4 c5 c6 c7 c8
  have c0 := HW2.out.2.at 0 rfl
  have c1 := HW2.out.2.at 1 rfl
  have c2 := HW2.out.2.at 2 rfl
  have c3 := HW2.out.2.at 3 rfl
  have c4 := HW2.out.2.at 4 rfl
  have c5 := HW2.out.2.at 5 rfl
  have c6 := HW2.out.2.at 6 rfl
  have c7 := HW2.out.2.at 7 rfl
  have c8 := HW2.out.2.at 8 rfl
  go_wp2_with fail
  refine (CS.out _ HW2.out.1).mono ?_
  rintro e u3 ⟨rfl, K⟩
  have HK3 : Hid (Kept w u3) := HW2.out.1.trans K
  clear HW2 K c0 c1 c2 c3 c4 c5 c6 c7 c8 CS
  rw [HFE.out.1, HFE.out.2.1, HFE.out.2.2.1, HFE.out.2.2.2]
  go_wp2_with fail
  generalize hW3 : u3.alloc _ = W3
  have HB3 : Hid (Kept w W3 ∧ Blk W3 u3.heap.size [.bool false, .slice sxx fl sfc]) := by rw [← hW3]; exact ⟨HK3.out.alloc _ _, Blk.new u3 [_, _] _⟩
  clear hW3 HK3
  refine (CZ.out _).mono ?_
  rintro e u4 ⟨rfl, K⟩
  have HB4 : Hid (Kept w u4 ∧ Blk u4 u3.heap.size [.bool false, .slice sxx fl sfc]) := ⟨HB3.out.1.trans K, HB3.out.2.kept K⟩
  clear K CZ HB3
  go_wp2_with fail
  refine (C2.out _ HB4.out.1).mono ?_
  rintro e u5 ⟨rfl, K⟩
  have HB5 : Hid (Kept w u5 ∧ Blk u5 u3.heap.size [.bool false, .slice sxx fl sfc]) := ⟨HB4.out.1.trans K, HB4.out.2.kept K⟩
  clear K C2 HB4
  go_wp2_with fail
  generalize hW6 : u5.alloc _ = W6
  have HD6 : Hid (Wd w W6 u5.heap.size l u3.heap.size [.bool false, .slice sxx fl sfc] (fun _ => cz)) := by
    rw [← hW6]
    exact ⟨HB5.out.1.alloc _ _, row_made8 u5 l, HB5.out.2.kept ((Kept.refl _).alloc _ _), HB5.out.1.size, by have := HB5.out.2.lt; omega⟩
  clear hW6 HB5
  obtain ⟨g, hge⟩ : ∃ g, u5.heap.size = g := ⟨_, rfl⟩
  obtain ⟨sb, hse⟩ : ∃ sb, u3.heap.size = sb := ⟨_, rfl⟩
  rw [hge, hse] at HD6
  rw [hge, hse]
  clear hge hse
  refine (CSd.out _ HD6.out.kept).mono ?_
  rintro e u7 ⟨rfl, K⟩
  have HD7 : Hid (Wd w u7 g l sb [.bool false, .slice sxx fl sfc] (rowW k 0 (R k) L l 0 false 0)) := (HD6.out.still K).congr fun j _ => (rowW_0 j).symm
  clear K HD6 CSd
  go_wp2_with fail
  go_loopg [12] l (fun m v wr => ∃ a : Nat, v = .int .i64 a ∧ a ≤ l ∧ m = l - a ∧ Hid (Wd w wr g l sb [.bool false, .slice sxx fl sfc] (rowW k 0 (R k) L l a false 0)))
  case atStart => exact ⟨0, rfl, by omega, by omega, HD7⟩
  case round =>
    obtain ⟨a, rfl, ha0, hm, HD⟩ := hrel
    have HM : Hid _ := hm
    clear hm HD7
    by_cases hlt : a < l
    · go_upto_region 15 with fail
      refine wp_region_phase [(.slice (some ⟨g, 0, none⟩) l l), (.int .i64 a), (.complex .f64 0 4607182418800017408), (.pointer (some ⟨g, a * 8, none⟩)), (.pointer (some ⟨g, a * 8, none⟩)), (undef)] [(59, 0), (60, 1), (61, 2), (62, 3), (63, 4)] [_, _, _, _, _, _, _, _, _, _, _, _, _, _, _, _, _, _, _, _, _, _, _, _, _, _, _, _, _, _, _, _, _, _, _, _, _, _, _, _, _, _, _, _, _, _, _, _, _, _, _, _, _, _, _, _, _, _, _, _, _, _, _, _, _, _, _, _, _, _, _, _, _, _, _, _, _, _, _, _, _, _, _, _, _, _, _, _, _, _, _, _, _, _, _, _, _, _, _, _, _, _, _, _, _, _, _, _, _, _, _, _, _, _, _, _, _, _, _, _, _, _, _, _, _, _, _] (fun d u => Wd w u g l sb [.bool false, .slice sxx fl sfc] (if d 5 then (fun j => if j = a * 8 then cn else rowW k 0 (R k) L l a false 0 j) else rowW k 0 (R k) L l a false 0)) (by kernel_rfl) (by kernel_rfl) (by kernel_rfl) (by kernel_rfl) rfl ?_ ?_ ?_
      · simpa using HD.out.still (Kept.refl _).drew
      · intro i1 o ho a1 d u hh hj hi hd
        match i1, ho, hi, hd with
        | 0, ho, hi, hd =>
          simp only [List.getElem?_cons_zero, Option.some.injEq] at ho
          subst ho
          have g10 : a1.tmps[10]? = some (.slice (some ⟨g, 0, none⟩) l l) := hh.old 10 (by kernel_rfl) rfl
          clear hh hd
          have HN : Hid (Wd w u g l sb [.bool false, .slice sxx fl sfc] (if done d 0 5 then (fun j => if j = a * 8 then cn else rowW k 0 (R k) L l a false 0 j) else rowW k 0 (R k) L l a false 0)) := (by simpa [done] using hj : Wd w u g l sb [.bool false, .slice sxx fl sfc] (if done d 0 5 then (fun j => if j = a * 8 then cn else rowW k 0 (R k) L l a false 0 j) else rowW k 0 (R k) L l a false 0))
          clear hj hi
          refine wpOp_step rfl (fun K hK => ?_)
          go_simp
          exact hK _ _ ⟨by simp [Act.put], HN.out⟩
        | 1, ho, hi, hd =>
          simp only [List.getElem?_cons_succ, List.getElem?_cons_zero, Option.some.injEq] at ho
          subst ho
          have g12 : a1.tmps[12]? = some (.int .i64 a) := hh.old 12 (by kernel_rfl) rfl
          clear hh hd
          have HN : Hid (Wd w u g l sb [.bool false, .slice sxx fl sfc] (if done d 1 5 then (fun j => if j = a * 8 then cn else rowW k 0 (R k) L l a false 0 j) else rowW k 0 (R k) L l a false 0)) := (by simpa [done] using hj : Wd w u g l sb [.bool false, .slice sxx fl sfc] (if done d 1 5 then (fun j => if j = a * 8 then cn else rowW k 0 (R k) L l a false 0 j) else rowW k 0 (R k) L l a false 0))
          clear hj hi
          refine wpOp_step rfl (fun K hK => ?_)
          go_simp
          exact hK _ _ ⟨by simp [Act.put], HN.out⟩
        | 2, ho, hi, hd =>
          simp only [List.getElem?_cons_succ, List.getElem?_cons_zero, Option.some.injEq] at ho
          subst ho
          have CA := rnone_any u
          clear hh hd
          have HN : Hid (Wd w u g l sb [.bool false, .slice sxx fl sfc] (if done d 2 5 then (fun j => if j = a * 8 then cn else rowW k 0 (R k) L l a false 0 j) else rowW k 0 (R k) L l a false 0)) := (by simpa [done] using hj : Wd w u g l sb [.bool false, .slice sxx fl sfc] (if done d 2 5 then (fun j => if j = a * 8 then cn else rowW k 0 (R k) L l a false 0 j) else rowW k 0 (R k) L l a false 0))
          clear hj hi
          refine wpOp_step rfl (fun K hK => ?_)
          go_simp
          refine CA.mono ?_
          rintro e u' ⟨rfl, rfl⟩
          exact hK _ _ ⟨by simp [Act.put], HN.out⟩
        | 3, ho, hi, hd =>
          simp only [List.getElem?_cons_succ, List.getElem?_cons_zero, Option.some.injEq] at ho
          subst ho
          have g59 : a1.tmps[59]? = some (.slice (some ⟨g, 0, none⟩) l l) := hh.did 0 _ 59 rfl rfl (hd { on := 0, ground := .data } (by simp) rfl)
          have g60 : a1.tmps[60]? = some (.int .i64 a) := hh.did 1 _ 60 rfl rfl (hd { on := 1, ground := .data } (by simp) rfl)
          clear hh hd
          have HN : Hid (Wd w u g l sb [.bool false, .slice sxx fl sfc] (if done d 3 5 then (fun j => if j = a * 8 then cn else rowW k 0 (R k) L l a false 0 j) else rowW k 0 (R k) L l a false 0)) := (by simpa [done] using hj : Wd w u g l sb [.bool false, .slice sxx fl sfc] (if done d 3 5 then (fun j => if j = a * 8 then cn else rowW k 0 (R k) L l a false 0 j) else rowW k 0 (R k) L l a false 0))
          clear hj hi
          refine wpOp_step rfl (fun K hK => ?_)
          go_simp
          exact hK _ _ ⟨by simp [Act.put], HN.out⟩
        | 4, ho, hi, hd =>
          simp only [List.getElem?_cons_succ, List.getElem?_cons_zero, Option.some.injEq] at ho
          subst ho
          have g62 : a1.tmps[62]? = some (.pointer (some ⟨g, a * 8, none⟩)) := hh.did 3 _ 62 rfl rfl (hd { on := 3, ground := .data } (by simp) rfl)
          clear hh hd
          have HN : Hid (Wd w u g l sb [.bool false, .slice sxx fl sfc] (if done d 4 5 then (fun j => if j = a * 8 then cn else rowW k 0 (R k) L l a false 0 j) else rowW k 0 (R k) L l a false 0)) := (by simpa [done] using hj : Wd w u g l sb [.bool false, .slice sxx fl sfc] (if done d 4 5 then (fun j => if j = a * 8 then cn else rowW k 0 (R k) L l a false 0 j) else rowW k 0 (R k) L l a false 0))
          clear hj hi
          refine wpOp_step rfl (fun K hK => ?_)
          go_simp
          exact hK _ _ ⟨by simp [Act.put], HN.out⟩
        | 5, ho, hi, hd =>
          simp only [List.getElem?_cons_succ, List.getElem?_cons_zero, Option.some.injEq] at ho
          subst ho
          have g61 : a1.tmps[61]? = some (.complex .f64 0 4607182418800017408) := hh.did 2 _ 61 rfl rfl (hd { on := 2, ground := .data } (by simp) rfl)
          have g63 : a1.tmps[63]? = some (.pointer (some ⟨g, a * 8, none⟩)) := hh.did 4 _ 63 rfl rfl (hd { on := 4, ground := .data } (by simp) rfl)
          have hj1 : Wd w u g l sb [.bool false, .slice sxx fl sfc] (rowW k 0 (R k) L l a false 0) := by simpa [hi] using hj
          have qc : u.cell? ⟨g, a * 8, none⟩ = _ := hj1.row.cell (by omega)
          have qf : u.frozen? ⟨g, a * 8, none⟩ = false := hj1.row.frozen _
          simp only [rv] at qc
          clear hh hd
          have HN : Hid (Wd w u g l sb [.bool false, .slice sxx fl sfc] (rowW k 0 (R k) L l a false 0)) := hj1
          clear hj hj1 hi
          refine wpOp_step rfl (fun K hK => ?_)
          go_simp
          refine hK _ _ ⟨by simp [Act.put], ?_⟩
          simp only [done, if_true]
          exact HN.out.put (cn) (fun j hj => rfl)
        | n + 6, ho, hi, hd => simp at ho
      · intro u d hall hj
        have HD2 : Hid (Wd w u g l sb [.bool false, .slice sxx fl sfc] ((fun j => if j = a * 8 then cn else rowW k 0 (R k) L l a false 0 j))) := (by have := hall 5 (by decide); simpa [this] using hj : Wd w u g l sb [.bool false, .slice sxx fl sfc] ((fun j => if j = a * 8 then cn else rowW k 0 (R k) L l a false 0 j)))
        clear hall hj HD
        simp only [List.getD_cons_succ, List.getD_cons_zero]
        by_cases h1 : a + 1 < l
        · have hk2 : (a : Int) + 1 < (l : Int) := by omega
          have HD : Hid (Wd w u g l sb [.bool false, .slice sxx fl sfc] ((fun j => if j = a * 8 then cn else rowW k 0 (R k) L l a false 0 j))) := HD2
          clear HD2
          go_upto_region 17 with fail
          refine wp_region_phase [(.slice (some ⟨g, 0, none⟩) l l), (.int .i64 a), (.slice (some ⟨xb, xo, none⟩) l c), (.int .i64 a), (.int .i64 ((a : Int) + 1)), (.pointer (some ⟨xb, xo + (a + 1), none⟩)), (.int .i64 (L (a + 1))), (.complex .f64 (floatOfInt .f64 (L (a + 1) + 1)) 4607182418800017408), (.pointer (some ⟨g, a * 8, none⟩)), (.pointer (some ⟨g, a * 8, none⟩)), (undef)] [(69, 0), (70, 1), (71, 2), (72, 3), (73, 4), (74, 5), (75, 6), (76, 7), (77, 8), (78, 9)] [_, _, _, _, _, _, _, _, _, _, _, _, _, _, _, _, _, _, _, _, _, _, _, _, _, _, _, _, _, _, _, _, _, _, _, _, _, _, _, _, _, _, _, _, _, _, _, _, _, _, _, _, _, _, _, _, _, _, _, _, _, _, _, _, _, _, _, _, _, _, _, _, _, _, _, _, _, _, _, _, _, _, _, _, _, _, _, _, _, _, _, _, _, _, _, _, _, _, _, _, _, _, _, _, _, _, _, _, _, _, _, _, _, _, _, _, _, _, _, _, _, _, _, _, _, _, _] (fun d u => Wd w u g l sb [.bool false, .slice sxx fl sfc] (if d 10 then (rowW k 0 (R k) L l (a + 1) false 0) else (fun j => if j = a * 8 then cn else rowW k 0 (R k) L l a false 0 j))) (by kernel_rfl) (by kernel_rfl) (by kernel_rfl) (by kernel_rfl) rfl ?_ ?_ ?_
          · simpa using HD.out.still (Kept.refl _).drew
          · intro i1 o ho a1 d u hh hj hi hd
            match i1, ho, hi, hd with
            | 0, ho, hi, hd =>
              simp only [List.getElem?_cons_zero, Option.some.injEq] at ho
              subst ho
              have g10 : a1.tmps[10]? = some (.slice (some ⟨g, 0, none⟩) l l) := hh.old 10 (by kernel_rfl) rfl
              clear hh hd
              have HN : Hid (Wd w u g l sb [.bool false, .slice sxx fl sfc] (if done d 0 10 then (rowW k 0 (R k) L l (a + 1) false 0) else (fun j => if j = a * 8 then cn else rowW k 0 (R k) L l a false 0 j))) := (by simpa [done] using hj : Wd w u g l sb [.bool false, .slice sxx fl sfc] (if done d 0 10 then (rowW k 0 (R k) L l (a + 1) false 0) else (fun j => if j = a * 8 then cn else rowW k 0 (R k) L l a false 0 j)))
              clear hj hi
              refine wpOp_step rfl (fun K hK => ?_)
              go_simp
              exact hK _ _ ⟨by simp [Act.put], HN.out⟩
            | 1, ho, hi, hd =>
              simp only [List.getElem?_cons_succ, List.getElem?_cons_zero, Option.some.injEq] at ho
              subst ho
              have g12 : a1.tmps[12]? = some (.int .i64 a) := hh.old 12 (by kernel_rfl) rfl
              clear hh hd
              have HN : Hid (Wd w u g l sb [.bool false, .slice sxx fl sfc] (if done d 1 10 then (rowW k 0 (R k) L l (a + 1) false 0) else (fun j => if j = a * 8 then cn else rowW k 0 (R k) L l a false 0 j))) := (by simpa [done] using hj : Wd w u g l sb [.bool false, .slice sxx fl sfc] (if done d 1 10 then (rowW k 0 (R k) L l (a + 1) false 0) else (fun j => if j = a * 8 then cn else rowW k 0 (R k) L l a false 0 j)))
              clear hj hi
              refine wpOp_step rfl (fun K hK => ?_)
              go_simp
              exact hK _ _ ⟨by simp [Act.put], HN.out⟩
            | 2, ho, hi, hd =>
              simp only [List.getElem?_cons_succ, List.getElem?_cons_zero, Option.some.injEq] at ho
              subst ho
              have g2 : a1.tmps[2]? = some (.slice (some ⟨xb, xo, none⟩) l c) := hh.old 2 (by kernel_rfl) rfl
              clear hh hd
              have HN : Hid (Wd w u g l sb [.bool false, .slice sxx fl sfc] (if done d 2 10 then (rowW k 0 (R k) L l (a + 1) false 0) else (fun j => if j = a * 8 then cn else rowW k 0 (R k) L l a false 0 j))) := (by simpa [done] using hj : Wd w u g l sb [.bool false, .slice sxx fl sfc] (if done d 2 10 then (rowW k 0 (R k) L l (a + 1) false 0) else (fun j => if j = a * 8 then cn else rowW k 0 (R k) L l a false 0 j)))
              clear hj hi
              refine wpOp_step rfl (fun K hK => ?_)
              go_simp
              exact hK _ _ ⟨by simp [Act.put], HN.out⟩
            | 3, ho, hi, hd =>
              simp only [List.getElem?_cons_succ, List.getElem?_cons_zero, Option.some.injEq] at ho
              subst ho
              have g12 : a1.tmps[12]? = some (.int .i64 a) := hh.old 12 (by kernel_rfl) rfl
              clear hh hd
              have HN : Hid (Wd w u g l sb [.bool false, .slice sxx fl sfc] (if done d 3 10 then (rowW k 0 (R k) L l (a + 1) false 0) else (fun j => if j = a * 8 then cn else rowW k 0 (R k) L l a false 0 j))) := (by simpa [done] using hj : Wd w u g l sb [.bool false, .slice sxx fl sfc] (if done d 3 10 then (rowW k 0 (R k) L l (a + 1) false 0) else (fun j => if j = a * 8 then cn else rowW k 0 (R k) L l a false 0 j)))
              clear hj hi
              refine wpOp_step rfl (fun K hK => ?_)
              go_simp
              exact hK _ _ ⟨by simp [Act.put], HN.out⟩
            | 4, ho, hi, hd =>
              simp only [List.getElem?_cons_succ, List.getElem?_cons_zero, Option.some.injEq] at ho
              subst ho
              have g72 : a1.tmps[72]? = some (.int .i64 a) := hh.did 3 _ 72 rfl rfl (hd { on := 3, ground := .data } (by simp) rfl)
              have ewr : IntKind.i64.wrap ((a : Int) + 1) = (a : Int) + 1 := by rw [IntKind.wrap_i64]; omega
              clear hh hd
              have HN : Hid (Wd w u g l sb [.bool false, .slice sxx fl sfc] (if done d 4 10 then (rowW k 0 (R k) L l (a + 1) false 0) else (fun j => if j = a * 8 then cn else rowW k 0 (R k) L l a false 0 j))) := (by simpa [done] using hj : Wd w u g l sb [.bool false, .slice sxx fl sfc] (if done d 4 10 then (rowW k 0 (R k) L l (a + 1) false 0) else (fun j => if j = a * 8 then cn else rowW k 0 (R k) L l a false 0 j)))
              clear hj hi
              refine wpOp_step rfl (fun K hK => ?_)
              go_simp
              exact hK _ _ ⟨by simp [Act.put], HN.out⟩
            | 5, ho, hi, hd =>
              simp only [List.getElem?_cons_succ, List.getElem?_cons_zero, Option.some.injEq] at ho
              subst ho
              have g71 : a1.tmps[71]? = some (.slice (some ⟨xb, xo, none⟩) l c) := hh.did 2 _ 71 rfl rfl (hd { on := 2, ground := .data } (by simp) rfl)
              have g73 : a1.tmps[73]? = some (.int .i64 ((a : Int) + 1)) := hh.did 4 _ 73 rfl rfl (hd { on := 4, ground := .data } (by simp) rfl)
              clear hh hd
              have HN : Hid (Wd w u g l sb [.bool false, .slice sxx fl sfc] (if done d 5 10 then (rowW k 0 (R k) L l (a + 1) false 0) else (fun j => if j = a * 8 then cn else rowW k 0 (R k) L l a false 0 j))) := (by simpa [done] using hj : Wd w u g l sb [.bool false, .slice sxx fl sfc] (if done d 5 10 then (rowW k 0 (R k) L l (a + 1) false 0) else (fun j => if j = a * 8 then cn else rowW k 0 (R k) L l a false 0 j)))
              clear hj hi
              refine wpOp_step rfl (fun K hK => ?_)
              go_simp
              exact hK _ _ ⟨by simp [Act.put], HN.out⟩
            | 6, ho, hi, hd =>
              simp only [List.getElem?_cons_succ, List.getElem?_cons_zero, Option.some.injEq] at ho
              subst ho
              have g74 : a1.tmps[74]? = some (.pointer (some ⟨xb, xo + (a + 1), none⟩)) := hh.did 5 _ 74 rfl rfl (hd { on := 5, ground := .data } (by simp) rfl)
              have bc : u.cell? ⟨xb, xo + (a + 1), none⟩ = some (.int .i64 (L (a + 1))) := (hj.kept.cell HX.out.1).trans (HX.out.2 (a + 1) h1)
              clear hh hd
              have HN : Hid (Wd w u g l sb [.bool false, .slice sxx fl sfc] (if done d 6 10 then (rowW k 0 (R k) L l (a + 1) false 0) else (fun j => if j = a * 8 then cn else rowW k 0 (R k) L l a false 0 j))) := (by simpa [done] using hj : Wd w u g l sb [.bool false, .slice sxx fl sfc] (if done d 6 10 then (rowW k 0 (R k) L l (a + 1) false 0) else (fun j => if j = a * 8 then cn else rowW k 0 (R k) L l a false 0 j)))
              clear hj hi
              refine wpOp_step rfl (fun K hK => ?_)
              go_simp
              exact hK _ _ ⟨by simp [Act.put], HN.out⟩
            | 7, ho, hi, hd =>
              simp only [List.getElem?_cons_succ, List.getElem?_cons_zero, Option.some.injEq] at ho
              subst ho
              have g75 : a1.tmps[75]? = some (.int .i64 (L (a + 1))) := hh.did 6 _ 75 rfl rfl (hd { on := 6, ground := .data } (by simp) rfl)
              have pl := HLL.out (a + 1) h1
              have CA := rref_in (L (a + 1)) u pl.1 pl.2
              clear hh hd
              have HN : Hid (Wd w u g l sb [.bool false, .slice sxx fl sfc] (if done d 7 10 then (rowW k 0 (R k) L l (a + 1) false 0) else (fun j => if j = a * 8 then cn else rowW k 0 (R k) L l a false 0 j))) := (by simpa [done] using hj : Wd w u g l sb [.bool false, .slice sxx fl sfc] (if done d 7 10 then (rowW k 0 (R k) L l (a + 1) false 0) else (fun j => if j = a * 8 then cn else rowW k 0 (R k) L l a false 0 j)))
              clear hj hi
              refine wpOp_step rfl (fun K hK => ?_)
              go_simp
              refine CA.mono ?_
              rintro e u' ⟨rfl, rfl⟩
              exact hK _ _ ⟨by simp [Act.put], HN.out⟩
            | 8, ho, hi, hd =>
              simp only [List.getElem?_cons_succ, List.getElem?_cons_zero, Option.some.injEq] at ho
              subst ho
              have g69 : a1.tmps[69]? = some (.slice (some ⟨g, 0, none⟩) l l) := hh.did 0 _ 69 rfl rfl (hd { on := 0, ground := .data } (by simp) rfl)
              have g70 : a1.tmps[70]? = some (.int .i64 a) := hh.did 1 _ 70 rfl rfl (hd { on := 1, ground := .data } (by simp) rfl)
              clear hh hd
              have HN : Hid (Wd w u g l sb [.bool false, .slice sxx fl sfc] (if done d 8 10 then (rowW k 0 (R k) L l (a + 1) false 0) else (fun j => if j = a * 8 then cn else rowW k 0 (R k) L l a false 0 j))) := (by simpa [done] using hj : Wd w u g l sb [.bool false, .slice sxx fl sfc] (if done d 8 10 then (rowW k 0 (R k) L l (a + 1) false 0) else (fun j => if j = a * 8 then cn else rowW k 0 (R k) L l a false 0 j)))
              clear hj hi
              refine wpOp_step rfl (fun K hK => ?_)
              go_simp
              exact hK _ _ ⟨by simp [Act.put], HN.out⟩
            | 9, ho, hi, hd =>
              simp only [List.getElem?_cons_succ, List.getElem?_cons_zero, Option.some.injEq] at ho
              subst ho
              have g77 : a1.tmps[77]? = some (.pointer (some ⟨g, a * 8, none⟩)) := hh.did 8 _ 77 rfl rfl (hd { on := 8, ground := .data } (by simp) rfl)
              clear hh hd
              have HN : Hid (Wd w u g l sb [.bool false, .slice sxx fl sfc] (if done d 9 10 then (rowW k 0 (R k) L l (a + 1) false 0) else (fun j => if j = a * 8 then cn else rowW k 0 (R k) L l a false 0 j))) := (by simpa [done] using hj : Wd w u g l sb [.bool false, .slice sxx fl sfc] (if done d 9 10 then (rowW k 0 (R k) L l (a + 1) false 0) else (fun j => if j = a * 8 then cn else rowW k 0 (R k) L l a false 0 j)))
              clear hj hi
              refine wpOp_step rfl (fun K hK => ?_)
              go_simp
              exact hK _ _ ⟨by simp [Act.put], HN.out⟩
            | 10, ho, hi, hd =>
              simp only [List.getElem?_cons_succ, List.getElem?_cons_zero, Option.some.injEq] at ho
              subst ho
              have g76 : a1.tmps[76]? = some (.complex .f64 (floatOfInt .f64 (L (a + 1) + 1)) 4607182418800017408) := hh.did 7 _ 76 rfl rfl (hd { on := 7, ground := .data } (by simp) rfl)
              have g78 : a1.tmps[78]? = some (.pointer (some ⟨g, a * 8, none⟩)) := hh.did 9 _ 78 rfl rfl (hd { on := 9, ground := .data } (by simp) rfl)
              have hj1 : Wd w u g l sb [.bool false, .slice sxx fl sfc] ((fun j => if j = a * 8 then cn else rowW k 0 (R k) L l a false 0 j)) := by simpa [hi] using hj
              have qc : u.cell? ⟨g, a * 8, none⟩ = _ := hj1.row.cell (by omega)
              have qf : u.frozen? ⟨g, a * 8, none⟩ = false := hj1.row.frozen _
              simp only [rv] at qc
              clear hh hd
              have HN : Hid (Wd w u g l sb [.bool false, .slice sxx fl sfc] ((fun j => if j = a * 8 then cn else rowW k 0 (R k) L l a false 0 j))) := hj1
              clear hj hj1 hi
              refine wpOp_step rfl (fun K hK => ?_)
              go_simp
              refine hK _ _ ⟨by simp [Act.put], ?_⟩
              simp only [done, if_true]
              exact HN.out.put (cr (L (a + 1))) (fun j hj => by
                  have q := rowW_link (kind := k) (mode := 0) (R := R k) (L := L) (l := l) (a := a) (hd := false) (m := 0) j
                  rw [← q]
                  have er : refAt L l (a + 1) = cr (L (a + 1)) := if_pos h1
                  by_cases e : j = a * 8
                  · rw [if_pos e, if_pos e, er]
                  · rw [if_neg e, if_neg e]
                    simp only [if_neg e])
            | n + 11, ho, hi, hd => simp at ho
          · intro u d hall hj
            have HD2 : Hid (Wd w u g l sb [.bool false, .slice sxx fl sfc] ((rowW k 0 (R k) L l (a + 1) false 0))) := (by have := hall 10 (by decide); simpa [this] using hj : Wd w u g l sb [.bool false, .slice sxx fl sfc] ((rowW k 0 (R k) L l (a + 1) false 0)))
            clear hall hj HD
            simp only [List.getD_cons_succ, List.getD_cons_zero]
            go_wp2
            go_roundg (l - (a + 1))
            all_goals (have := HM.out; try omega)
            exact ⟨a + 1, by go_num, by omega, by omega, HD2⟩
        · have hk2 : ¬ (a : Int) + 1 < (l : Int) := by omega
          have HD3 : Hid (Wd w u g l sb [.bool false, .slice sxx fl sfc] (rowW k 0 (R k) L l (a + 1) false 0)) := HD2.out.congr fun j _ => by
            have q := rowW_link (kind := k) (mode := 0) (R := R k) (L := L) (l := l) (a := a) (hd := false) (m := 0) j
            have er : refAt L l (a + 1) = cn := if_neg h1
            rw [er] at q
            exact q
          go_wp2
          go_roundg (l - (a + 1))
          all_goals (have := HM.out; try omega)
          exact ⟨a + 1, by go_num, by omega, by omega, HD3⟩
    · obtain rfl : l = a := by omega
      go_upto_region 18 with fail
      refine wp_region_phase [(.slice (some ⟨g, 0, none⟩) l l), (.int .i64 k), (.int .i64 0), (.complex .f64 (floatOfInt .f64 (k : Int)) (floatOfInt .f64 0)), (.pointer (some ⟨g, 0, none⟩)), (.pointer (some ⟨g, 1, none⟩)), (undef)] [(79, 0), (80, 1), (81, 2), (82, 3), (83, 4), (84, 5)] [_, _, _, _, _, _, _, _, _, _, _, _, _, _, _, _, _, _, _, _, _, _, _, _, _, _, _, _, _, _, _, _, _, _, _, _, _, _, _, _, _, _, _, _, _, _, _, _, _, _, _, _, _, _, _, _, _, _, _, _, _, _, _, _, _, _, _, _, _, _, _, _, _, _, _, _, _, _, _, _, _, _, _, _, _, _, _, _, _, _, _, _, _, _, _, _, _, _, _, _, _, _, _, _, _, _, _, _, _, _, _, _, _, _, _, _, _, _, _, _, _, _, _, _, _, _, _] (fun d u => Wd w u g l sb [.bool false, .slice sxx fl sfc] (if d 6 then (rowW k 0 (R k) L l l true 0) else rowW k 0 (R k) L l l false 0)) (by kernel_rfl) (by kernel_rfl) (by kernel_rfl) (by kernel_rfl) rfl ?_ ?_ ?_
      · simpa using HD.out.still (Kept.refl _).drew
      · intro i1 o ho a1 d u hh hj hi hd
        match i1, ho, hi, hd with
        | 0, ho, hi, hd =>
          simp only [List.getElem?_cons_zero, Option.some.injEq] at ho
          subst ho
          have g10 : a1.tmps[10]? = some (.slice (some ⟨g, 0, none⟩) l l) := hh.old 10 (by kernel_rfl) rfl
          clear hh hd
          have HN : Hid (Wd w u g l sb [.bool false, .slice sxx fl sfc] (if done d 0 6 then (rowW k 0 (R k) L l l true 0) else rowW k 0 (R k) L l l false 0)) := (by simpa [done] using hj : Wd w u g l sb [.bool false, .slice sxx fl sfc] (if done d 0 6 then (rowW k 0 (R k) L l l true 0) else rowW k 0 (R k) L l l false 0))
          clear hj hi
          refine wpOp_step rfl (fun K hK => ?_)
          go_simp
          exact hK _ _ ⟨by simp [Act.put], HN.out⟩
        | 1, ho, hi, hd =>
          simp only [List.getElem?_cons_succ, List.getElem?_cons_zero, Option.some.injEq] at ho
          subst ho
          have g1 : a1.tmps[1]? = some (.int .i64 k) := hh.old 1 (by kernel_rfl) rfl
          clear hh hd
          have HN : Hid (Wd w u g l sb [.bool false, .slice sxx fl sfc] (if done d 1 6 then (rowW k 0 (R k) L l l true 0) else rowW k 0 (R k) L l l false 0)) := (by simpa [done] using hj : Wd w u g l sb [.bool false, .slice sxx fl sfc] (if done d 1 6 then (rowW k 0 (R k) L l l true 0) else rowW k 0 (R k) L l l false 0))
          clear hj hi
          refine wpOp_step rfl (fun K hK => ?_)
          go_simp
          exact hK _ _ ⟨by simp [Act.put], HN.out⟩
        | 2, ho, hi, hd =>
          simp only [List.getElem?_cons_succ, List.getElem?_cons_zero, Option.some.injEq] at ho
          subst ho
          have g11 : a1.tmps[11]? = some (.int .i64 0) := hh.old 11 (by kernel_rfl) rfl
          clear hh hd
          have HN : Hid (Wd w u g l sb [.bool false, .slice sxx fl sfc] (if done d 2 6 then (rowW k 0 (R k) L l l true 0) else rowW k 0 (R k) L l l false 0)) := (by simpa [done] using hj : Wd w u g l sb [.bool false, .slice sxx fl sfc] (if done d 2 6 then (rowW k 0 (R k) L l l true 0) else rowW k 0 (R k) L l l false 0))
          clear hj hi
          refine wpOp_step rfl (fun K hK => ?_)
          go_simp
          exact hK _ _ ⟨by simp [Act.put], HN.out⟩
        | 3, ho, hi, hd =>
          simp only [List.getElem?_cons_succ, List.getElem?_cons_zero, Option.some.injEq] at ho
          subst ho
          have g80 : a1.tmps[80]? = some (.int .i64 k) := hh.did 1 _ 80 rfl rfl (hd { on := 1, ground := .data } (by simp) rfl)
          have g81 : a1.tmps[81]? = some (.int .i64 0) := hh.did 2 _ 81 rfl rfl (hd { on := 2, ground := .data } (by simp) rfl)
          have CA := CH.out u
          clear hh hd
          have HN : Hid (Wd w u g l sb [.bool false, .slice sxx fl sfc] (if done d 3 6 then (rowW k 0 (R k) L l l true 0) else rowW k 0 (R k) L l l false 0)) := (by simpa [done] using hj : Wd w u g l sb [.bool false, .slice sxx fl sfc] (if done d 3 6 then (rowW k 0 (R k) L l l true 0) else rowW k 0 (R k) L l l false 0))
          clear hj hi
          refine wpOp_step rfl (fun K hK => ?_)
          go_simp
          refine CA.mono ?_
          rintro e u' ⟨rfl, rfl⟩
          exact hK _ _ ⟨by simp [Act.put], HN.out⟩
        | 4, ho, hi, hd =>
          simp only [List.getElem?_cons_succ, List.getElem?_cons_zero, Option.some.injEq] at ho
          subst ho
          have g79 : a1.tmps[79]? = some (.slice (some ⟨g, 0, none⟩) l l) := hh.did 0 _ 79 rfl rfl (hd { on := 0, ground := .data } (by simp) rfl)
          have hz0 : 0 < l := by omega
          clear hh hd
          have HN : Hid (Wd w u g l sb [.bool false, .slice sxx fl sfc] (if done d 4 6 then (rowW k 0 (R k) L l l true 0) else rowW k 0 (R k) L l l false 0)) := (by simpa [done] using hj : Wd w u g l sb [.bool false, .slice sxx fl sfc] (if done d 4 6 then (rowW k 0 (R k) L l l true 0) else rowW k 0 (R k) L l l false 0))
          clear hj hi
          refine wpOp_step rfl (fun K hK => ?_)
          go_simp
          exact hK _ _ ⟨by simp [Act.put], HN.out⟩
        | 5, ho, hi, hd =>
          simp only [List.getElem?_cons_succ, List.getElem?_cons_zero, Option.some.injEq] at ho
          subst ho
          have g83 : a1.tmps[83]? = some (.pointer (some ⟨g, 0, none⟩)) := hh.did 4 _ 83 rfl rfl (hd { on := 4, ground := .data } (by simp) rfl)
          clear hh hd
          have HN : Hid (Wd w u g l sb [.bool false, .slice sxx fl sfc] (if done d 5 6 then (rowW k 0 (R k) L l l true 0) else rowW k 0 (R k) L l l false 0)) := (by simpa [done] using hj : Wd w u g l sb [.bool false, .slice sxx fl sfc] (if done d 5 6 then (rowW k 0 (R k) L l l true 0) else rowW k 0 (R k) L l l false 0))
          clear hj hi
          refine wpOp_step rfl (fun K hK => ?_)
          go_simp
          exact hK _ _ ⟨by simp [Act.put], HN.out⟩
        | 6, ho, hi, hd =>
          simp only [List.getElem?_cons_succ, List.getElem?_cons_zero, Option.some.injEq] at ho
          subst ho
          have g82 : a1.tmps[82]? = some (.complex .f64 (floatOfInt .f64 (k : Int)) (floatOfInt .f64 0)) := hh.did 3 _ 82 rfl rfl (hd { on := 3, ground := .data } (by simp) rfl)
          have g84 : a1.tmps[84]? = some (.pointer (some ⟨g, 1, none⟩)) := hh.did 5 _ 84 rfl rfl (hd { on := 5, ground := .data } (by simp) rfl)
          have hj1 : Wd w u g l sb [.bool false, .slice sxx fl sfc] (rowW k 0 (R k) L l l false 0) := by simpa [hi] using hj
          have qc : u.cell? ⟨g, 1, none⟩ = _ := hj1.row.cell (by omega)
          have qf : u.frozen? ⟨g, 1, none⟩ = false := hj1.row.frozen _
          simp only [rv] at qc
          clear hh hd
          have HN : Hid (Wd w u g l sb [.bool false, .slice sxx fl sfc] (rowW k 0 (R k) L l l false 0)) := hj1
          clear hj hj1 hi
          refine wpOp_step rfl (fun K hK => ?_)
          go_simp
          refine hK _ _ ⟨by simp [Act.put], ?_⟩
          simp only [done, if_true]
          exact HN.out.put (ch k 0) (fun j hj => rowW_head j)
        | n + 7, ho, hi, hd => simp at ho
      · intro u d hall hj
        have HD2 : Hid (Wd w u g l sb [.bool false, .slice sxx fl sfc] ((rowW k 0 (R k) L l l true 0))) := (by have := hall 6 (by decide); simpa [this] using hj : Wd w u g l sb [.bool false, .slice sxx fl sfc] ((rowW k 0 (R k) L l l true 0)))
        clear hall hj HD
        simp only [List.getD_cons_succ, List.getD_cons_zero]
        have HD : Hid (Wd w u g l sb [.bool false, .slice sxx fl sfc] (rowW k 0 (R k) L l l true 0)) := HD2
        clear HD2
        go_wp2_with fail
        go_loopg [13] fl (fun m v wr => ∃ i : Nat, v = .int .i64 i ∧ i ≤ fl ∧ m = fl - i ∧ Hid (Wd w wr g l sb [.bool false, .slice sxx fl sfc] (rowW k 0 (R k) L l l true i)))
        case atStart => exact ⟨0, rfl, by omega, by omega, HD⟩
        case round =>
          obtain ⟨i, rfl, hi0, hm2, hw⟩ := hrel
          have HM2 : Hid _ := hm2
          clear hm2 HD
          have s0 := hw.out.sh.at 0 rfl
          have s1 := hw.out.sh.at 1 rfl
          by_cases hlt2 : i < fl
          · obtain ⟨a, ha⟩ : ∃ a, (i + 1) / 7 = a := ⟨_, rfl⟩
            obtain ⟨b, hb⟩ : ∃ b, 1 + (i + 1) % 7 = b := ⟨_, rfl⟩
            have CP2 : Hid (∀ w, _) := fun w => CP.out i a b w hlt2 ha hb
            have hal : a < l := by have := HLZ.out; omega
            have hb8 : b < 8 := by omega
            have hal2 : (a : Int) < (l : Int) := by omega
            have HAB : Hid ((i + 1) / 7 = a ∧ 1 + (i + 1) % 7 = b) := ⟨ha, hb⟩
            clear ha hb
            go_wp2_with fail
            refine (CP2.out _).mono ?_
            rintro e w2 ⟨rfl, K⟩
            have HD0 : Hid (Wd w w2 g l sb [.bool false, .slice sxx fl sfc] (rowW k 0 (R k) L l l true i)) := hw.out.still K
            clear K hw s0 s1 CP2
            obtain ⟨rb, ro, hre, hrb, hrc⟩ := HR.out (by omega)
            subst hre
            have HD : Hid (Wd w w2 g l sb [.bool false, .slice (some ⟨rb, ro, none⟩) fl sfc] (rowW k 0 (R k) L l l true i)) := HD0
            have HRB : Hid (rb < w.heap.size ∧ w.cell? ⟨rb, ro + i, none⟩ = some (.bool (R k i))) := ⟨hrb, hrc i hlt2⟩
            clear HD0 hrb hrc
            go_upto_region 23 with fail
            refine wp_region_phase [(.slice (some ⟨g, 0, none⟩) l l), (.int .i64 a), (.int .i64 b), (.pointer (some ⟨sb, 1, none⟩)), (.slice (some ⟨rb, ro, none⟩) fl sfc), (.int .i64 i), (.pointer (some ⟨rb, ro + i, none⟩)), (.bool (R k i)), (.complex .f64 (un (R k i)).re (un (R k i)).im), (.pointer (some ⟨g, a * 8, none⟩)), (.pointer (some ⟨g, a * 8 + b, none⟩)), (undef)] [(99, 0), (100, 1), (101, 2), (102, 3), (103, 4), (104, 5), (105, 6), (106, 7), (107, 8), (108, 9), (109, 10)] [_, _, _, _, _, _, _, _, _, _, _, _, _, _, _, _, _, _, _, _, _, _, _, _, _, _, _, _, _, _, _, _, _, _, _, _, _, _, _, _, _, _, _, _, _, _, _, _, _, _, _, _, _, _, _, _, _, _, _, _, _, _, _, _, _, _, _, _, _, _, _, _, _, _, _, _, _, _, _, _, _, _, _, _, _, _, _, _, _, _, _, _, _, _, _, _, _, _, _, _, _, _, _, _, _, _, _, _, _, _, _, _, _, _, _, _, _, _, _, _, _, _, _, _, _, _, _] (fun d u => Wd w u g l sb [.bool false, .slice (some ⟨rb, ro, none⟩) fl sfc] (if d 11 then (rowW k 0 (R k) L l l true (i + 1)) else rowW k 0 (R k) L l l true i)) (by kernel_rfl) (by kernel_rfl) (by kernel_rfl) (by kernel_rfl) rfl ?_ ?_ ?_
            · simpa using HD.out.still (Kept.refl _).drew
            · intro i1 o ho a1 d u hh hj hi hd
              match i1, ho, hi, hd with
              | 0, ho, hi, hd =>
                simp only [List.getElem?_cons_zero, Option.some.injEq] at ho
                subst ho
                have g10 : a1.tmps[10]? = some (.slice (some ⟨g, 0, none⟩) l l) := hh.old 10 (by kernel_rfl) rfl
                clear hh hd
                have HN : Hid (Wd w u g l sb [.bool false, .slice (some ⟨rb, ro, none⟩) fl sfc] (if done d 0 11 then (rowW k 0 (R k) L l l true (i + 1)) else rowW k 0 (R k) L l l true i)) := (by simpa [done] using hj : Wd w u g l sb [.bool false, .slice (some ⟨rb, ro, none⟩) fl sfc] (if done d 0 11 then (rowW k 0 (R k) L l l true (i + 1)) else rowW k 0 (R k) L l l true i))
                clear hj hi
                refine wpOp_step rfl (fun K hK => ?_)
                go_simp
                exact hK _ _ ⟨by simp [Act.put], HN.out⟩
              | 1, ho, hi, hd =>
                simp only [List.getElem?_cons_succ, List.getElem?_cons_zero, Option.some.injEq] at ho
                subst ho
                have g14 : a1.tmps[14]? = some (.int .i64 a) := hh.old 14 (by kernel_rfl) rfl
                clear hh hd
                have HN : Hid (Wd w u g l sb [.bool false, .slice (some ⟨rb, ro, none⟩) fl sfc] (if done d 1 11 then (rowW k 0 (R k) L l l true (i + 1)) else rowW k 0 (R k) L l l true i)) := (by simpa [done] using hj : Wd w u g l sb [.bool false, .slice (some ⟨rb, ro, none⟩) fl sfc] (if done d 1 11 then (rowW k 0 (R k) L l l true (i + 1)) else rowW k 0 (R k) L l l true i))
                clear hj hi
                refine wpOp_step rfl (fun K hK => ?_)
                go_simp
                exact hK _ _ ⟨by simp [Act.put], HN.out⟩
              | 2, ho, hi, hd =>
                simp only [List.getElem?_cons_succ, List.getElem?_cons_zero, Option.some.injEq] at ho
                subst ho
                have g15 : a1.tmps[15]? = some (.int .i64 b) := hh.old 15 (by kernel_rfl) rfl
                clear hh hd
                have HN : Hid (Wd w u g l sb [.bool false, .slice (some ⟨rb, ro, none⟩) fl sfc] (if done d 2 11 then (rowW k 0 (R k) L l l true (i + 1)) else rowW k 0 (R k) L l l true i)) := (by simpa [done] using hj : Wd w u g l sb [.bool false, .slice (some ⟨rb, ro, none⟩) fl sfc] (if done d 2 11 then (rowW k 0 (R k) L l l true (i + 1)) else rowW k 0 (R k) L l l true i))
                clear hj hi
                refine wpOp_step rfl (fun K hK => ?_)
                go_simp
                exact hK _ _ ⟨by simp [Act.put], HN.out⟩
              | 3, ho, hi, hd =>
                simp only [List.getElem?_cons_succ, List.getElem?_cons_zero, Option.some.injEq] at ho
                subst ho
                have g8 : a1.tmps[8]? = some (.pointer (some ⟨sb, 0, none⟩)) := hh.old 8 (by kernel_rfl) rfl
                clear hh hd
                have HN : Hid (Wd w u g l sb [.bool false, .slice (some ⟨rb, ro, none⟩) fl sfc] (if done d 3 11 then (rowW k 0 (R k) L l l true (i + 1)) else rowW k 0 (R k) L l l true i)) := (by simpa [done] using hj : Wd w u g l sb [.bool false, .slice (some ⟨rb, ro, none⟩) fl sfc] (if done d 3 11 then (rowW k 0 (R k) L l l true (i + 1)) else rowW k 0 (R k) L l l true i))
                clear hj hi
                refine wpOp_step rfl (fun K hK => ?_)
                go_simp
                exact hK _ _ ⟨by simp [Act.put], HN.out⟩
              | 4, ho, hi, hd =>
                simp only [List.getElem?_cons_succ, List.getElem?_cons_zero, Option.some.injEq] at ho
                subst ho
                have g102 : a1.tmps[102]? = some (.pointer (some ⟨sb, 1, none⟩)) := hh.did 3 _ 102 rfl rfl (hd { on := 3, ground := .data } (by simp) rfl)
                have sc := hj.sh.at 1 rfl
                clear hh hd
                have HN : Hid (Wd w u g l sb [.bool false, .slice (some ⟨rb, ro, none⟩) fl sfc] (if done d 4 11 then (rowW k 0 (R k) L l l true (i + 1)) else rowW k 0 (R k) L l l true i)) := (by simpa [done] using hj : Wd w u g l sb [.bool false, .slice (some ⟨rb, ro, none⟩) fl sfc] (if done d 4 11 then (rowW k 0 (R k) L l l true (i + 1)) else rowW k 0 (R k) L l l true i))
                clear hj hi
                refine wpOp_step rfl (fun K hK => ?_)
                go_simp
                exact hK _ _ ⟨by simp [Act.put], HN.out⟩
              | 5, ho, hi, hd =>
                simp only [List.getElem?_cons_succ, List.getElem?_cons_zero, Option.some.injEq] at ho
                subst ho
                have g13 : a1.tmps[13]? = some (.int .i64 i) := hh.old 13 (by kernel_rfl) rfl
                clear hh hd
                have HN : Hid (Wd w u g l sb [.bool false, .slice (some ⟨rb, ro, none⟩) fl sfc] (if done d 5 11 then (rowW k 0 (R k) L l l true (i + 1)) else rowW k 0 (R k) L l l true i)) := (by simpa [done] using hj : Wd w u g l sb [.bool false, .slice (some ⟨rb, ro, none⟩) fl sfc] (if done d 5 11 then (rowW k 0 (R k) L l l true (i + 1)) else rowW k 0 (R k) L l l true i))
                clear hj hi
                refine wpOp_step rfl (fun K hK => ?_)
                go_simp
                exact hK _ _ ⟨by simp [Act.put], HN.out⟩
              | 6, ho, hi, hd =>
                simp only [List.getElem?_cons_succ, List.getElem?_cons_zero, Option.some.injEq] at ho
                subst ho
                have g103 : a1.tmps[103]? = some (.slice (some ⟨rb, ro, none⟩) fl sfc) := hh.did 4 _ 103 rfl rfl (hd { on := 4, ground := .data } (by simp) rfl)
                have g104 : a1.tmps[104]? = some (.int .i64 i) := hh.did 5 _ 104 rfl rfl (hd { on := 5, ground := .data } (by simp) rfl)
                clear hh hd
                have HN : Hid (Wd w u g l sb [.bool false, .slice (some ⟨rb, ro, none⟩) fl sfc] (if done d 6 11 then (rowW k 0 (R k) L l l true (i + 1)) else rowW k 0 (R k) L l l true i)) := (by simpa [done] using hj : Wd w u g l sb [.bool false, .slice (some ⟨rb, ro, none⟩) fl sfc] (if done d 6 11 then (rowW k 0 (R k) L l l true (i + 1)) else rowW k 0 (R k) L l l true i))
                clear hj hi
                refine wpOp_step rfl (fun K hK => ?_)
                go_simp
                exact hK _ _ ⟨by simp [Act.put], HN.out⟩
              | 7, ho, hi, hd =>
                simp only [List.getElem?_cons_succ, List.getElem?_cons_zero, Option.some.injEq] at ho
                subst ho
                have g105 : a1.tmps[105]? = some (.pointer (some ⟨rb, ro + i, none⟩)) := hh.did 6 _ 105 rfl rfl (hd { on := 6, ground := .data } (by simp) rfl)
                have bc : u.cell? ⟨rb, ro + i, none⟩ = some (.bool (R k i)) := (hj.kept.cell HRB.out.1).trans HRB.out.2
                clear hh hd
                have HN : Hid (Wd w u g l sb [.bool false, .slice (some ⟨rb, ro, none⟩) fl sfc] (if done d 7 11 then (rowW k 0 (R k) L l l true (i + 1)) else rowW k 0 (R k) L l l true i)) := (by simpa [done] using hj : Wd w u g l sb [.bool false, .slice (some ⟨rb, ro, none⟩) fl sfc] (if done d 7 11 then (rowW k 0 (R k) L l l true (i + 1)) else rowW k 0 (R k) L l l true i))
                clear hj hi
                refine wpOp_step rfl (fun K hK => ?_)
                go_simp
                exact hK _ _ ⟨by simp [Act.put], HN.out⟩
              | 8, ho, hi, hd =>
                simp only [List.getElem?_cons_succ, List.getElem?_cons_zero, Option.some.injEq] at ho
                subst ho
                have g106 : a1.tmps[106]? = some (.bool (R k i)) := hh.did 7 _ 106 rfl rfl (hd { on := 7, ground := .data } (by simp) rfl)
                have CA := rblank_any (R k i) u
                clear hh hd
                have HN : Hid (Wd w u g l sb [.bool false, .slice (some ⟨rb, ro, none⟩) fl sfc] (if done d 8 11 then (rowW k 0 (R k) L l l true (i + 1)) else rowW k 0 (R k) L l l true i)) := (by simpa [done] using hj : Wd w u g l sb [.bool false, .slice (some ⟨rb, ro, none⟩) fl sfc] (if done d 8 11 then (rowW k 0 (R k) L l l true (i + 1)) else rowW k 0 (R k) L l l true i))
                clear hj hi
                refine wpOp_step rfl (fun K hK => ?_)
                go_simp
                refine CA.mono ?_
                rintro e u' ⟨rfl, rfl⟩
                exact hK _ _ ⟨by simp [Act.put], HN.out⟩
              | 9, ho, hi, hd =>
                simp only [List.getElem?_cons_succ, List.getElem?_cons_zero, Option.some.injEq] at ho
                subst ho
                have g99 : a1.tmps[99]? = some (.slice (some ⟨g, 0, none⟩) l l) := hh.did 0 _ 99 rfl rfl (hd { on := 0, ground := .data } (by simp) rfl)
                have g100 : a1.tmps[100]? = some (.int .i64 a) := hh.did 1 _ 100 rfl rfl (hd { on := 1, ground := .data } (by simp) rfl)
                clear hh hd
                have HN : Hid (Wd w u g l sb [.bool false, .slice (some ⟨rb, ro, none⟩) fl sfc] (if done d 9 11 then (rowW k 0 (R k) L l l true (i + 1)) else rowW k 0 (R k) L l l true i)) := (by simpa [done] using hj : Wd w u g l sb [.bool false, .slice (some ⟨rb, ro, none⟩) fl sfc] (if done d 9 11 then (rowW k 0 (R k) L l l true (i + 1)) else rowW k 0 (R k) L l l true i))
                clear hj hi
                refine wpOp_step rfl (fun K hK => ?_)
                go_simp
                exact hK _ _ ⟨by simp [Act.put], HN.out⟩
              | 10, ho, hi, hd =>
                simp only [List.getElem?_cons_succ, List.getElem?_cons_zero, Option.some.injEq] at ho
                subst ho
                have g101 : a1.tmps[101]? = some (.int .i64 b) := hh.did 2 _ 101 rfl rfl (hd { on := 2, ground := .data } (by simp) rfl)
                have g108 : a1.tmps[108]? = some (.pointer (some ⟨g, a * 8, none⟩)) := hh.did 9 _ 108 rfl rfl (hd { on := 9, ground := .data } (by simp) rfl)
                have hb9 : (b : Int) < 8 := by omega
                have hb10 : ¬ (b : Int) < 0 := by omega
                clear hh hd
                have HN : Hid (Wd w u g l sb [.bool false, .slice (some ⟨rb, ro, none⟩) fl sfc] (if done d 10 11 then (rowW k 0 (R k) L l l true (i + 1)) else rowW k 0 (R k) L l l true i)) := (by simpa [done] using hj : Wd w u g l sb [.bool false, .slice (some ⟨rb, ro, none⟩) fl sfc] (if done d 10 11 then (rowW k 0 (R k) L l l true (i + 1)) else rowW k 0 (R k) L l l true i))
                clear hj hi
                refine wpOp_step rfl (fun K hK => ?_)
                go_simp
                exact hK _ _ ⟨by simp [Act.put], HN.out⟩
              | 11, ho, hi, hd =>
                simp only [List.getElem?_cons_succ, List.getElem?_cons_zero, Option.some.injEq] at ho
                subst ho
                have g107 : a1.tmps[107]? = some (.complex .f64 (un (R k i)).re (un (R k i)).im) := hh.did 8 _ 107 rfl rfl (hd { on := 8, ground := .data } (by simp) rfl)
                have g109 : a1.tmps[109]? = some (.pointer (some ⟨g, a * 8 + b, none⟩)) := hh.did 10 _ 109 rfl rfl (hd { on := 10, ground := .data } (by simp) rfl)
                have hj1 : Wd w u g l sb [.bool false, .slice (some ⟨rb, ro, none⟩) fl sfc] (rowW k 0 (R k) L l l true i) := by simpa [hi] using hj
                have qc : u.cell? ⟨g, a * 8 + b, none⟩ = _ := hj1.row.cell (by omega)
                have qf : u.frozen? ⟨g, a * 8 + b, none⟩ = false := hj1.row.frozen _
                simp only [rv] at qc
                clear hh hd
                have HN : Hid (Wd w u g l sb [.bool false, .slice (some ⟨rb, ro, none⟩) fl sfc] (rowW k 0 (R k) L l l true i)) := hj1
                clear hj hj1 hi
                refine wpOp_step rfl (fun K hK => ?_)
                go_simp
                refine hK _ _ ⟨by simp [Act.put], ?_⟩
                simp only [done, if_true]
                exact HN.out.put (un (R k i)) (fun j hj => by
                    rw [← HAB.out.1, ← HAB.out.2]
                    exact rowW_field j)
              | n + 12, ho, hi, hd => simp at ho
            · intro u d hall hj
              have HD2 : Hid (Wd w u g l sb [.bool false, .slice (some ⟨rb, ro, none⟩) fl sfc] ((rowW k 0 (R k) L l l true (i + 1)))) := (by have := hall 11 (by decide); simpa [this] using hj : Wd w u g l sb [.bool false, .slice (some ⟨rb, ro, none⟩) fl sfc] ((rowW k 0 (R k) L l l true (i + 1))))
              clear hall hj HD
              simp only [List.getD_cons_succ, List.getD_cons_zero]
              go_wp2
              go_roundg (fl - (i + 1))
              all_goals (have := HM2.out; try omega)
              exact ⟨i + 1, by go_num, by omega, by omega, HD2⟩
          · obtain rfl : fl = i := by omega
            obtain ⟨f, hff⟩ : ∃ f, f = objF k (R k) L l fl := ⟨_, rfl⟩
            have HFF : Hid (f = objF k (R k) L l fl) := hff
            have HD : Hid (Wd w wr g l sb [.bool false, .slice sxx fl sfc] (rowW k 0 (R k) L l l true fl)) := hw
            clear hff hw HM2
            go_wp2_with fail
            go_loopg [17, 18] l (fun m v j wr => ∃ a : Nat, j = .int .i64 a ∧ a ≤ l ∧ m = l - a ∧ Hid (Kept w wr ∧ wr.rowIs g 65 (l * 8) (rv (rowW k 0 (R k) L l l true fl)) ∧ Ws wr w.heap.size v (a * 8) f ∧ v.ownBlock ≠ some g))
            case atStart => exact ⟨0, rfl, by omega, by omega, HD.out.kept, HD.out.row, by simpa using Ws.nil _ _ _, by simp [Value.ownBlock]⟩
            case round =>
              obtain ⟨a, rfl, ha3, hm3, H3⟩ := hrel
              have HM3 : Hid _ := hm3
              clear hm3 HD
              by_cases hlt3 : a < l
              · have HV0 : Hid (u17.ownBlock ≠ some g) := H3.out.2.2.2
                have HRD : Hid (∀ j, j < 8 → rowW k 0 (R k) L l l true fl (a * 8 + j) = objW k (R k) L l fl a j) := fun j hj => by rw [← HMO.out]; exact rowW_done hlt3 hj
                go_upto_region 28 with fail
                refine wp_region_mix [undef, undef, undef, undef, undef, undef, undef, undef, undef, undef, undef] [(17, 10), (116, 0), (117, 1), (118, 2), (119, 3), (120, 4), (121, 5), (122, 6), (123, 7), (124, 8), (125, 9)] (fun d vals u => MJ (fun q1 => match q1 with | 0 => some (u17) | 1 => some (.slice (some ⟨xb, xo, none⟩) l c) | 2 => some (.int .i64 a) | 3 => some (.pointer (some ⟨xb, xo + a, none⟩)) | 4 => some (.int .i64 (L a)) | 5 => some (.slice (some ⟨g, 0, none⟩) l l) | 6 => some (.int .i64 a) | 7 => some (.pointer (some ⟨g, a * 8, none⟩)) | 8 => some (.agg #[.complex .f64 ((objW k (R k) L l fl a) 0).re ((objW k (R k) L l fl a) 0).im, .complex .f64 ((objW k (R k) L l fl a) 1).re ((objW k (R k) L l fl a) 1).im, .complex .f64 ((objW k (R k) L l fl a) 2).re ((objW k (R k) L l fl a) 2).im, .complex .f64 ((objW k (R k) L l fl a) 3).re ((objW k (R k) L l fl a) 3).im, .complex .f64 ((objW k (R k) L l fl a) 4).re ((objW k (R k) L l fl a) 4).im, .complex .f64 ((objW k (R k) L l fl a) 5).re ((objW k (R k) L l fl a) 5).im, .complex .f64 ((objW k (R k) L l fl a) 6).re ((objW k (R k) L l fl a) 6).im, .complex .f64 ((objW k (R k) L l fl a) 7).re ((objW k (R k) L l fl a) 7).im]) | _ => none) 9 10 (fun u => Kept w u ∧ u.rowIs g 65 (l * 8) (rv (rowW k 0 (R k) L l l true fl)) ∧ Ws u w.heap.size u17 (a * 8) f) (fun v u => Kept w u ∧ u.rowIs g 65 (l * 8) (rv (rowW k 0 (R k) L l l true fl)) ∧ Ws u w.heap.size v (a * 8 + 8) f ∧ v.ownBlock ≠ some g) d vals u) (by kernel_rfl) (by kernel_rfl) (by kernel_rfl) (by kernel_rfl) rfl ?_ ?_ ?_
                · exact ⟨fun _ _ _ h => absurd h (by simp), fun _ => ⟨H3.out.1.drew, H3.out.2.1.drew, H3.out.2.2.1.kept (Kept.refl _).drew⟩, fun h => absurd h (by simp), fun h => absurd h (by simp)⟩
                · intro i1 o ho a1 d vals u hu17 hh hj hi hd
                  have hv : vals.length = 11 := hu17
                  have hKR : Kept w u ∧ u.rowIs g 65 (l * 8) (rv (rowW k 0 (R k) L l l true fl)) := by
                    cases hq : d 9
                    · exact ⟨(hj.bf hq).1, (hj.bf hq).2.1⟩
                    · exact ⟨(hj.af hq).1, (hj.af hq).2.1⟩
                  match i1, ho, hi, hd with
                  | 0, ho, hi, hd =>
                    simp only [List.getElem?_cons_zero, Option.some.injEq] at ho
                    subst ho
                    have g17 : a1.tmps[17]? = some u17 := (hh.rest 17 fun i o hio hdst => by
                      have e9 : i = 10 := slots_inj (of_decide_eq_true (by kernel_rfl)) hio (j := 10) rfl hdst rfl
                      subst e9
                      cases hq : d 10
                      · rfl
                      · exact absurd (hj.la hq).2.2 (by simp [hi])).trans rfl
                    have HN : Hid (MJ (fun q1 => match q1 with | 0 => some (u17) | 1 => some (.slice (some ⟨xb, xo, none⟩) l c) | 2 => some (.int .i64 a) | 3 => some (.pointer (some ⟨xb, xo + a, none⟩)) | 4 => some (.int .i64 (L a)) | 5 => some (.slice (some ⟨g, 0, none⟩) l l) | 6 => some (.int .i64 a) | 7 => some (.pointer (some ⟨g, a * 8, none⟩)) | 8 => some (.agg #[.complex .f64 ((objW k (R k) L l fl a) 0).re ((objW k (R k) L l fl a) 0).im, .complex .f64 ((objW k (R k) L l fl a) 1).re ((objW k (R k) L l fl a) 1).im, .complex .f64 ((objW k (R k) L l fl a) 2).re ((objW k (R k) L l fl a) 2).im, .complex .f64 ((objW k (R k) L l fl a) 3).re ((objW k (R k) L l fl a) 3).im, .complex .f64 ((objW k (R k) L l fl a) 4).re ((objW k (R k) L l fl a) 4).im, .complex .f64 ((objW k (R k) L l fl a) 5).re ((objW k (R k) L l fl a) 5).im, .complex .f64 ((objW k (R k) L l fl a) 6).re ((objW k (R k) L l fl a) 6).im, .complex .f64 ((objW k (R k) L l fl a) 7).re ((objW k (R k) L l fl a) 7).im]) | _ => none) 9 10 (fun u => Kept w u ∧ u.rowIs g 65 (l * 8) (rv (rowW k 0 (R k) L l l true fl)) ∧ Ws u w.heap.size u17 (a * 8) f) (fun v u => Kept w u ∧ u.rowIs g 65 (l * 8) (rv (rowW k 0 (R k) L l l true fl)) ∧ Ws u w.heap.size v (a * 8 + 8) f ∧ v.ownBlock ≠ some g) (done d 0) (vals.set 0 (u17)) u) := hj.plain 0 _ (by omega) (by decide) (by decide) rfl
                    clear hh hd hj hi hKR
                    refine wpOp_step rfl (fun K hK => ?_)
                    go_simp
                    exact hK _ _ ⟨_, by simp [Act.put], HN.out⟩
                  | 1, ho, hi, hd =>
                    simp only [List.getElem?_cons_succ, List.getElem?_cons_zero, Option.some.injEq] at ho
                    subst ho
                    have g2 : a1.tmps[2]? = some (.slice (some ⟨xb, xo, none⟩) l c) := hh.old 2 (by kernel_rfl) rfl
                    have HN : Hid (MJ (fun q1 => match q1 with | 0 => some (u17) | 1 => some (.slice (some ⟨xb, xo, none⟩) l c) | 2 => some (.int .i64 a) | 3 => some (.pointer (some ⟨xb, xo + a, none⟩)) | 4 => some (.int .i64 (L a)) | 5 => some (.slice (some ⟨g, 0, none⟩) l l) | 6 => some (.int .i64 a) | 7 => some (.pointer (some ⟨g, a * 8, none⟩)) | 8 => some (.agg #[.complex .f64 ((objW k (R k) L l fl a) 0).re ((objW k (R k) L l fl a) 0).im, .complex .f64 ((objW k (R k) L l fl a) 1).re ((objW k (R k) L l fl a) 1).im, .complex .f64 ((objW k (R k) L l fl a) 2).re ((objW k (R k) L l fl a) 2).im, .complex .f64 ((objW k (R k) L l fl a) 3).re ((objW k (R k) L l fl a) 3).im, .complex .f64 ((objW k (R k) L l fl a) 4).re ((objW k (R k) L l fl a) 4).im, .complex .f64 ((objW k (R k) L l fl a) 5).re ((objW k (R k) L l fl a) 5).im, .complex .f64 ((objW k (R k) L l fl a) 6).re ((objW k (R k) L l fl a) 6).im, .complex .f64 ((objW k (R k) L l fl a) 7).re ((objW k (R k) L l fl a) 7).im]) | _ => none) 9 10 (fun u => Kept w u ∧ u.rowIs g 65 (l * 8) (rv (rowW k 0 (R k) L l l true fl)) ∧ Ws u w.heap.size u17 (a * 8) f) (fun v u => Kept w u ∧ u.rowIs g 65 (l * 8) (rv (rowW k 0 (R k) L l l true fl)) ∧ Ws u w.heap.size v (a * 8 + 8) f ∧ v.ownBlock ≠ some g) (done d 1) (vals.set 1 (.slice (some ⟨xb, xo, none⟩) l c)) u) := hj.plain 1 _ (by omega) (by decide) (by decide) rfl
                    clear hh hd hj hi hKR
                    refine wpOp_step rfl (fun K hK => ?_)
                    go_simp
                    exact hK _ _ ⟨_, by simp [Act.put], HN.out⟩
                  | 2, ho, hi, hd =>
                    simp only [List.getElem?_cons_succ, List.getElem?_cons_zero, Option.some.injEq] at ho
                    subst ho
                    have g18 : a1.tmps[18]? = some (.int .i64 a) := hh.old 18 (by kernel_rfl) rfl
                    have HN : Hid (MJ (fun q1 => match q1 with | 0 => some (u17) | 1 => some (.slice (some ⟨xb, xo, none⟩) l c) | 2 => some (.int .i64 a) | 3 => some (.pointer (some ⟨xb, xo + a, none⟩)) | 4 => some (.int .i64 (L a)) | 5 => some (.slice (some ⟨g, 0, none⟩) l l) | 6 => some (.int .i64 a) | 7 => some (.pointer (some ⟨g, a * 8, none⟩)) | 8 => some (.agg #[.complex .f64 ((objW k (R k) L l fl a) 0).re ((objW k (R k) L l fl a) 0).im, .complex .f64 ((objW k (R k) L l fl a) 1).re ((objW k (R k) L l fl a) 1).im, .complex .f64 ((objW k (R k) L l fl a) 2).re ((objW k (R k) L l fl a) 2).im, .complex .f64 ((objW k (R k) L l fl a) 3).re ((objW k (R k) L l fl a) 3).im, .complex .f64 ((objW k (R k) L l fl a) 4).re ((objW k (R k) L l fl a) 4).im, .complex .f64 ((objW k (R k) L l fl a) 5).re ((objW k (R k) L l fl a) 5).im, .complex .f64 ((objW k (R k) L l fl a) 6).re ((objW k (R k) L l fl a) 6).im, .complex .f64 ((objW k (R k) L l fl a) 7).re ((objW k (R k) L l fl a) 7).im]) | _ => none) 9 10 (fun u => Kept w u ∧ u.rowIs g 65 (l * 8) (rv (rowW k 0 (R k) L l l true fl)) ∧ Ws u w.heap.size u17 (a * 8) f) (fun v u => Kept w u ∧ u.rowIs g 65 (l * 8) (rv (rowW k 0 (R k) L l l true fl)) ∧ Ws u w.heap.size v (a * 8 + 8) f ∧ v.ownBlock ≠ some g) (done d 2) (vals.set 2 (.int .i64 a)) u) := hj.plain 2 _ (by omega) (by decide) (by decide) rfl
                    clear hh hd hj hi hKR
                    refine wpOp_step rfl (fun K hK => ?_)
                    go_simp
                    exact hK _ _ ⟨_, by simp [Act.put], HN.out⟩
                  | 3, ho, hi, hd =>
                    simp only [List.getElem?_cons_succ, List.getElem?_cons_zero, Option.some.injEq] at ho
                    subst ho
                    have g117 : a1.tmps[117]? = some (.slice (some ⟨xb, xo, none⟩) l c) := (hh.did 1 _ 117 rfl rfl (hd { on := 1, ground := .data } (by simp) rfl)).trans (congrArg some (hj.kn 1 _ rfl (hd { on := 1, ground := .data } (by simp) rfl)))
                    have g118 : a1.tmps[118]? = some (.int .i64 a) := (hh.did 2 _ 118 rfl rfl (hd { on := 2, ground := .data } (by simp) rfl)).trans (congrArg some (hj.kn 2 _ rfl (hd { on := 2, ground := .data } (by simp) rfl)))
                    have HN : Hid (MJ (fun q1 => match q1 with | 0 => some (u17) | 1 => some (.slice (some ⟨xb, xo, none⟩) l c) | 2 => some (.int .i64 a) | 3 => some (.pointer (some ⟨xb, xo + a, none⟩)) | 4 => some (.int .i64 (L a)) | 5 => some (.slice (some ⟨g, 0, none⟩) l l) | 6 => some (.int .i64 a) | 7 => some (.pointer (some ⟨g, a * 8, none⟩)) | 8 => some (.agg #[.complex .f64 ((objW k (R k) L l fl a) 0).re ((objW k (R k) L l fl a) 0).im, .complex .f64 ((objW k (R k) L l fl a) 1).re ((objW k (R k) L l fl a) 1).im, .complex .f64 ((objW k (R k) L l fl a) 2).re ((objW k (R k) L l fl a) 2).im, .complex .f64 ((objW k (R k) L l fl a) 3).re ((objW k (R k) L l fl a) 3).im, .complex .f64 ((objW k (R k) L l fl a) 4).re ((objW k (R k) L l fl a) 4).im, .complex .f64 ((objW k (R k) L l fl a) 5).re ((objW k (R k) L l fl a) 5).im, .complex .f64 ((objW k (R k) L l fl a) 6).re ((objW k (R k) L l fl a) 6).im, .complex .f64 ((objW k (R k) L l fl a) 7).re ((objW k (R k) L l fl a) 7).im]) | _ => none) 9 10 (fun u => Kept w u ∧ u.rowIs g 65 (l * 8) (rv (rowW k 0 (R k) L l l true fl)) ∧ Ws u w.heap.size u17 (a * 8) f) (fun v u => Kept w u ∧ u.rowIs g 65 (l * 8) (rv (rowW k 0 (R k) L l l true fl)) ∧ Ws u w.heap.size v (a * 8 + 8) f ∧ v.ownBlock ≠ some g) (done d 3) (vals.set 3 (.pointer (some ⟨xb, xo + a, none⟩))) u) := hj.plain 3 _ (by omega) (by decide) (by decide) rfl
                    clear hh hd hj hi hKR
                    refine wpOp_step rfl (fun K hK => ?_)
                    go_simp
                    exact hK _ _ ⟨_, by simp [Act.put], HN.out⟩
                  | 4, ho, hi, hd =>
                    simp only [List.getElem?_cons_succ, List.getElem?_cons_zero, Option.some.injEq] at ho
                    subst ho
                    have g119 : a1.tmps[119]? = some (.pointer (some ⟨xb, xo + a, none⟩)) := (hh.did 3 _ 119 rfl rfl (hd { on := 3, ground := .data } (by simp) rfl)).trans (congrArg some (hj.kn 3 _ rfl (hd { on := 3, ground := .data } (by simp) rfl)))
                    have bc : u.cell? ⟨xb, xo + a, none⟩ = some (.int .i64 (L a)) := (hKR.1.cell HX.out.1).trans (HX.out.2 a hlt3)
                    have HN : Hid (MJ (fun q1 => match q1 with | 0 => some (u17) | 1 => some (.slice (some ⟨xb, xo, none⟩) l c) | 2 => some (.int .i64 a) | 3 => some (.pointer (some ⟨xb, xo + a, none⟩)) | 4 => some (.int .i64 (L a)) | 5 => some (.slice (some ⟨g, 0, none⟩) l l) | 6 => some (.int .i64 a) | 7 => some (.pointer (some ⟨g, a * 8, none⟩)) | 8 => some (.agg #[.complex .f64 ((objW k (R k) L l fl a) 0).re ((objW k (R k) L l fl a) 0).im, .complex .f64 ((objW k (R k) L l fl a) 1).re ((objW k (R k) L l fl a) 1).im, .complex .f64 ((objW k (R k) L l fl a) 2).re ((objW k (R k) L l fl a) 2).im, .complex .f64 ((objW k (R k) L l fl a) 3).re ((objW k (R k) L l fl a) 3).im, .complex .f64 ((objW k (R k) L l fl a) 4).re ((objW k (R k) L l fl a) 4).im, .complex .f64 ((objW k (R k) L l fl a) 5).re ((objW k (R k) L l fl a) 5).im, .complex .f64 ((objW k (R k) L l fl a) 6).re ((objW k (R k) L l fl a) 6).im, .complex .f64 ((objW k (R k) L l fl a) 7).re ((objW k (R k) L l fl a) 7).im]) | _ => none) 9 10 (fun u => Kept w u ∧ u.rowIs g 65 (l * 8) (rv (rowW k 0 (R k) L l l true fl)) ∧ Ws u w.heap.size u17 (a * 8) f) (fun v u => Kept w u ∧ u.rowIs g 65 (l * 8) (rv (rowW k 0 (R k) L l l true fl)) ∧ Ws u w.heap.size v (a * 8 + 8) f ∧ v.ownBlock ≠ some g) (done d 4) (vals.set 4 (.int .i64 (L a))) u) := hj.plain 4 _ (by omega) (by decide) (by decide) rfl
                    clear hh hd hj hi hKR
                    refine wpOp_step rfl (fun K hK => ?_)
                    go_simp
                    exact hK _ _ ⟨_, by simp [Act.put], HN.out⟩
                  | 5, ho, hi, hd =>
                    simp only [List.getElem?_cons_succ, List.getElem?_cons_zero, Option.some.injEq] at ho
                    subst ho
                    have g10 : a1.tmps[10]? = some (.slice (some ⟨g, 0, none⟩) l l) := hh.old 10 (by kernel_rfl) rfl
                    have HN : Hid (MJ (fun q1 => match q1 with | 0 => some (u17) | 1 => some (.slice (some ⟨xb, xo, none⟩) l c) | 2 => some (.int .i64 a) | 3 => some (.pointer (some ⟨xb, xo + a, none⟩)) | 4 => some (.int .i64 (L a)) | 5 => some (.slice (some ⟨g, 0, none⟩) l l) | 6 => some (.int .i64 a) | 7 => some (.pointer (some ⟨g, a * 8, none⟩)) | 8 => some (.agg #[.complex .f64 ((objW k (R k) L l fl a) 0).re ((objW k (R k) L l fl a) 0).im, .complex .f64 ((objW k (R k) L l fl a) 1).re ((objW k (R k) L l fl a) 1).im, .complex .f64 ((objW k (R k) L l fl a) 2).re ((objW k (R k) L l fl a) 2).im, .complex .f64 ((objW k (R k) L l fl a) 3).re ((objW k (R k) L l fl a) 3).im, .complex .f64 ((objW k (R k) L l fl a) 4).re ((objW k (R k) L l fl a) 4).im, .complex .f64 ((objW k (R k) L l fl a) 5).re ((objW k (R k) L l fl a) 5).im, .complex .f64 ((objW k (R k) L l fl a) 6).re ((objW k (R k) L l fl a) 6).im, .complex .f64 ((objW k (R k) L l fl a) 7).re ((objW k (R k) L l fl a) 7).im]) | _ => none) 9 10 (fun u => Kept w u ∧ u.rowIs g 65 (l * 8) (rv (rowW k 0 (R k) L l l true fl)) ∧ Ws u w.heap.size u17 (a * 8) f) (fun v u => Kept w u ∧ u.rowIs g 65 (l * 8) (rv (rowW k 0 (R k) L l l true fl)) ∧ Ws u w.heap.size v (a * 8 + 8) f ∧ v.ownBlock ≠ some g) (done d 5) (vals.set 5 (.slice (some ⟨g, 0, none⟩) l l)) u) := hj.plain 5 _ (by omega) (by decide) (by decide) rfl
                    clear hh hd hj hi hKR
                    refine wpOp_step rfl (fun K hK => ?_)
                    go_simp
                    exact hK _ _ ⟨_, by simp [Act.put], HN.out⟩
                  | 6, ho, hi, hd =>
                    simp only [List.getElem?_cons_succ, List.getElem?_cons_zero, Option.some.injEq] at ho
                    subst ho
                    have g18 : a1.tmps[18]? = some (.int .i64 a) := hh.old 18 (by kernel_rfl) rfl
                    have HN : Hid (MJ (fun q1 => match q1 with | 0 => some (u17) | 1 => some (.slice (some ⟨xb, xo, none⟩) l c) | 2 => some (.int .i64 a) | 3 => some (.pointer (some ⟨xb, xo + a, none⟩)) | 4 => some (.int .i64 (L a)) | 5 => some (.slice (some ⟨g, 0, none⟩) l l) | 6 => some (.int .i64 a) | 7 => some (.pointer (some ⟨g, a * 8, none⟩)) | 8 => some (.agg #[.complex .f64 ((objW k (R k) L l fl a) 0).re ((objW k (R k) L l fl a) 0).im, .complex .f64 ((objW k (R k) L l fl a) 1).re ((objW k (R k) L l fl a) 1).im, .complex .f64 ((objW k (R k) L l fl a) 2).re ((objW k (R k) L l fl a) 2).im, .complex .f64 ((objW k (R k) L l fl a) 3).re ((objW k (R k) L l fl a) 3).im, .complex .f64 ((objW k (R k) L l fl a) 4).re ((objW k (R k) L l fl a) 4).im, .complex .f64 ((objW k (R k) L l fl a) 5).re ((objW k (R k) L l fl a) 5).im, .complex .f64 ((objW k (R k) L l fl a) 6).re ((objW k (R k) L l fl a) 6).im, .complex .f64 ((objW k (R k) L l fl a) 7).re ((objW k (R k) L l fl a) 7).im]) | _ => none) 9 10 (fun u => Kept w u ∧ u.rowIs g 65 (l * 8) (rv (rowW k 0 (R k) L l l true fl)) ∧ Ws u w.heap.size u17 (a * 8) f) (fun v u => Kept w u ∧ u.rowIs g 65 (l * 8) (rv (rowW k 0 (R k) L l l true fl)) ∧ Ws u w.heap.size v (a * 8 + 8) f ∧ v.ownBlock ≠ some g) (done d 6) (vals.set 6 (.int .i64 a)) u) := hj.plain 6 _ (by omega) (by decide) (by decide) rfl
                    clear hh hd hj hi hKR
                    refine wpOp_step rfl (fun K hK => ?_)
                    go_simp
                    exact hK _ _ ⟨_, by simp [Act.put], HN.out⟩
                  | 7, ho, hi, hd =>
                    simp only [List.getElem?_cons_succ, List.getElem?_cons_zero, Option.some.injEq] at ho
                    subst ho
                    have g121 : a1.tmps[121]? = some (.slice (some ⟨g, 0, none⟩) l l) := (hh.did 5 _ 121 rfl rfl (hd { on := 5, ground := .data } (by simp) rfl)).trans (congrArg some (hj.kn 5 _ rfl (hd { on := 5, ground := .data } (by simp) rfl)))
                    have g122 : a1.tmps[122]? = some (.int .i64 a) := (hh.did 6 _ 122 rfl rfl (hd { on := 6, ground := .data } (by simp) rfl)).trans (congrArg some (hj.kn 6 _ rfl (hd { on := 6, ground := .data } (by simp) rfl)))
                    have HN : Hid (MJ (fun q1 => match q1 with | 0 => some (u17) | 1 => some (.slice (some ⟨xb, xo, none⟩) l c) | 2 => some (.int .i64 a) | 3 => some (.pointer (some ⟨xb, xo + a, none⟩)) | 4 => some (.int .i64 (L a)) | 5 => some (.slice (some ⟨g, 0, none⟩) l l) | 6 => some (.int .i64 a) | 7 => some (.pointer (some ⟨g, a * 8, none⟩)) | 8 => some (.agg #[.complex .f64 ((objW k (R k) L l fl a) 0).re ((objW k (R k) L l fl a) 0).im, .complex .f64 ((objW k (R k) L l fl a) 1).re ((objW k (R k) L l fl a) 1).im, .complex .f64 ((objW k (R k) L l fl a) 2).re ((objW k (R k) L l fl a) 2).im, .complex .f64 ((objW k (R k) L l fl a) 3).re ((objW k (R k) L l fl a) 3).im, .complex .f64 ((objW k (R k) L l fl a) 4).re ((objW k (R k) L l fl a) 4).im, .complex .f64 ((objW k (R k) L l fl a) 5).re ((objW k (R k) L l fl a) 5).im, .complex .f64 ((objW k (R k) L l fl a) 6).re ((objW k (R k) L l fl a) 6).im, .complex .f64 ((objW k (R k) L l fl a) 7).re ((objW k (R k) L l fl a) 7).im]) | _ => none) 9 10 (fun u => Kept w u ∧ u.rowIs g 65 (l * 8) (rv (rowW k 0 (R k) L l l true fl)) ∧ Ws u w.heap.size u17 (a * 8) f) (fun v u => Kept w u ∧ u.rowIs g 65 (l * 8) (rv (rowW k 0 (R k) L l l true fl)) ∧ Ws u w.heap.size v (a * 8 + 8) f ∧ v.ownBlock ≠ some g) (done d 7) (vals.set 7 (.pointer (some ⟨g, a * 8, none⟩))) u) := hj.plain 7 _ (by omega) (by decide) (by decide) rfl
                    clear hh hd hj hi hKR
                    refine wpOp_step rfl (fun K hK => ?_)
                    go_simp
                    exact hK _ _ ⟨_, by simp [Act.put], HN.out⟩
                  | 8, ho, hi, hd =>
                    simp only [List.getElem?_cons_succ, List.getElem?_cons_zero, Option.some.injEq] at ho
                    subst ho
                    have g123 : a1.tmps[123]? = some (.pointer (some ⟨g, a * 8, none⟩)) := (hh.did 7 _ 123 rfl rfl (hd { on := 7, ground := .data } (by simp) rfl)).trans (congrArg some (hj.kn 7 _ rfl (hd { on := 7, ground := .data } (by simp) rfl)))
                    have x0 : u.cell? ⟨g, a * 8, none⟩ = some (.complex .f64 (objW k (R k) L l fl a 0).re (objW k (R k) L l fl a 0).im) := by
                      have := hKR.2.cell (i := a * 8 + 0) (by omega)
                      rw [rv, HRD.out 0 (by omega)] at this
                      exact this
                    have x1 : u.cell? ⟨g, a * 8 + 1, none⟩ = some (.complex .f64 (objW k (R k) L l fl a 1).re (objW k (R k) L l fl a 1).im) := by
                      have := hKR.2.cell (i := a * 8 + 1) (by omega)
                      rw [rv, HRD.out 1 (by omega)] at this
                      exact this
                    have x2 : u.cell? ⟨g, a * 8 + 2, none⟩ = some (.complex .f64 (objW k (R k) L l fl a 2).re (objW k (R k) L l fl a 2).im) := by
                      have := hKR.2.cell (i := a * 8 + 2) (by omega)
                      rw [rv, HRD.out 2 (by omega)] at this
                      exact this
                    have x3 : u.cell? ⟨g, a * 8 + 3, none⟩ = some (.complex .f64 (objW k (R k) L l fl a 3).re (objW k (R k) L l fl a 3).im) := by
                      have := hKR.2.cell (i := a * 8 + 3) (by omega)
                      rw [rv, HRD.out 3 (by omega)] at this
                      exact this
                    have x4 : u.cell? ⟨g, a * 8 + 4, none⟩ = some (.complex .f64 (objW k (R k) L l fl a 4).re (objW k (R k) L l fl a 4).im) := by
                      have := hKR.2.cell (i := a * 8 + 4) (by omega)
                      rw [rv, HRD.out 4 (by omega)] at this
                      exact this
                    have x5 : u.cell? ⟨g, a * 8 + 5, none⟩ = some (.complex .f64 (objW k (R k) L l fl a 5).re (objW k (R k) L l fl a 5).im) := by
                      have := hKR.2.cell (i := a * 8 + 5) (by omega)
                      rw [rv, HRD.out 5 (by omega)] at this
                      exact this
                    have x6 : u.cell? ⟨g, a * 8 + 6, none⟩ = some (.complex .f64 (objW k (R k) L l fl a 6).re (objW k (R k) L l fl a 6).im) := by
                      have := hKR.2.cell (i := a * 8 + 6) (by omega)
                      rw [rv, HRD.out 6 (by omega)] at this
                      exact this
                    have x7 : u.cell? ⟨g, a * 8 + 7, none⟩ = some (.complex .f64 (objW k (R k) L l fl a 7).re (objW k (R k) L l fl a 7).im) := by
                      have := hKR.2.cell (i := a * 8 + 7) (by omega)
                      rw [rv, HRD.out 7 (by omega)] at this
                      exact this
                    have HN : Hid (MJ (fun q1 => match q1 with | 0 => some (u17) | 1 => some (.slice (some ⟨xb, xo, none⟩) l c) | 2 => some (.int .i64 a) | 3 => some (.pointer (some ⟨xb, xo + a, none⟩)) | 4 => some (.int .i64 (L a)) | 5 => some (.slice (some ⟨g, 0, none⟩) l l) | 6 => some (.int .i64 a) | 7 => some (.pointer (some ⟨g, a * 8, none⟩)) | 8 => some (.agg #[.complex .f64 ((objW k (R k) L l fl a) 0).re ((objW k (R k) L l fl a) 0).im, .complex .f64 ((objW k (R k) L l fl a) 1).re ((objW k (R k) L l fl a) 1).im, .complex .f64 ((objW k (R k) L l fl a) 2).re ((objW k (R k) L l fl a) 2).im, .complex .f64 ((objW k (R k) L l fl a) 3).re ((objW k (R k) L l fl a) 3).im, .complex .f64 ((objW k (R k) L l fl a) 4).re ((objW k (R k) L l fl a) 4).im, .complex .f64 ((objW k (R k) L l fl a) 5).re ((objW k (R k) L l fl a) 5).im, .complex .f64 ((objW k (R k) L l fl a) 6).re ((objW k (R k) L l fl a) 6).im, .complex .f64 ((objW k (R k) L l fl a) 7).re ((objW k (R k) L l fl a) 7).im]) | _ => none) 9 10 (fun u => Kept w u ∧ u.rowIs g 65 (l * 8) (rv (rowW k 0 (R k) L l l true fl)) ∧ Ws u w.heap.size u17 (a * 8) f) (fun v u => Kept w u ∧ u.rowIs g 65 (l * 8) (rv (rowW k 0 (R k) L l l true fl)) ∧ Ws u w.heap.size v (a * 8 + 8) f ∧ v.ownBlock ≠ some g) (done d 8) (vals.set 8 (.agg #[.complex .f64 ((objW k (R k) L l fl a) 0).re ((objW k (R k) L l fl a) 0).im, .complex .f64 ((objW k (R k) L l fl a) 1).re ((objW k (R k) L l fl a) 1).im, .complex .f64 ((objW k (R k) L l fl a) 2).re ((objW k (R k) L l fl a) 2).im, .complex .f64 ((objW k (R k) L l fl a) 3).re ((objW k (R k) L l fl a) 3).im, .complex .f64 ((objW k (R k) L l fl a) 4).re ((objW k (R k) L l fl a) 4).im, .complex .f64 ((objW k (R k) L l fl a) 5).re ((objW k (R k) L l fl a) 5).im, .complex .f64 ((objW k (R k) L l fl a) 6).re ((objW k (R k) L l fl a) 6).im, .complex .f64 ((objW k (R k) L l fl a) 7).re ((objW k (R k) L l fl a) 7).im])) u) := hj.plain 8 _ (by omega) (by decide) (by decide) rfl
                    clear hh hd hj hi hKR
                    refine wpOp_step rfl (fun K hK => ?_)
                    go_simp
                    exact hK _ _ ⟨_, by simp [Act.put], HN.out⟩
                  | 9, ho, hi, hd =>
                    simp only [List.getElem?_cons_succ, List.getElem?_cons_zero, Option.some.injEq] at ho
                    subst ho
                    have g116 : a1.tmps[116]? = some (u17) := (hh.did 0 _ 116 rfl rfl (hd { on := 0, ground := .data } (by simp) rfl)).trans (congrArg some (hj.kn 0 _ rfl (hd { on := 0, ground := .data } (by simp) rfl)))
                    have g120 : a1.tmps[120]? = some (.int .i64 (L a)) := (hh.did 4 _ 120 rfl rfl (hd { on := 4, ground := .data } (by simp) rfl)).trans (congrArg some (hj.kn 4 _ rfl (hd { on := 4, ground := .data } (by simp) rfl)))
                    have g124 : a1.tmps[124]? = some (.agg #[.complex .f64 ((objW k (R k) L l fl a) 0).re ((objW k (R k) L l fl a) 0).im, .complex .f64 ((objW k (R k) L l fl a) 1).re ((objW k (R k) L l fl a) 1).im, .complex .f64 ((objW k (R k) L l fl a) 2).re ((objW k (R k) L l fl a) 2).im, .complex .f64 ((objW k (R k) L l fl a) 3).re ((objW k (R k) L l fl a) 3).im, .complex .f64 ((objW k (R k) L l fl a) 4).re ((objW k (R k) L l fl a) 4).im, .complex .f64 ((objW k (R k) L l fl a) 5).re ((objW k (R k) L l fl a) 5).im, .complex .f64 ((objW k (R k) L l fl a) 6).re ((objW k (R k) L l fl a) 6).im, .complex .f64 ((objW k (R k) L l fl a) 7).re ((objW k (R k) L l fl a) 7).im]) := (hh.did 8 _ 124 rfl rfl (hd { on := 8, ground := .data } (by simp) rfl)).trans (congrArg some (hj.kn 8 _ rfl (hd { on := 8, ground := .data } (by simp) rfl)))
                    have ws := (hj.bf hi).2.2
                    have CA := rput_any (F := objW k (R k) L l fl a) (L a) u ws hKR.1.size (by omega) (HLL.out a hlt3) (fun j hj8 => by
                      have e1 : (a * 8 + j) / 8 = a := by omega
                      have e2 : (a * 8 + j) % 8 = j := by omega
                      rw [HFF.out]
                      simp only [objF, e1, e2]
                      congr 1
                      omega)
                    have HN : Hid (∀ v' u', Ws u' w.heap.size v' (a * 8 + 8) f → Mut u17.ownBlock.toList u u' → Fresh u u17 v' → MJ (fun q1 => match q1 with | 0 => some (u17) | 1 => some (.slice (some ⟨xb, xo, none⟩) l c) | 2 => some (.int .i64 a) | 3 => some (.pointer (some ⟨xb, xo + a, none⟩)) | 4 => some (.int .i64 (L a)) | 5 => some (.slice (some ⟨g, 0, none⟩) l l) | 6 => some (.int .i64 a) | 7 => some (.pointer (some ⟨g, a * 8, none⟩)) | 8 => some (.agg #[.complex .f64 ((objW k (R k) L l fl a) 0).re ((objW k (R k) L l fl a) 0).im, .complex .f64 ((objW k (R k) L l fl a) 1).re ((objW k (R k) L l fl a) 1).im, .complex .f64 ((objW k (R k) L l fl a) 2).re ((objW k (R k) L l fl a) 2).im, .complex .f64 ((objW k (R k) L l fl a) 3).re ((objW k (R k) L l fl a) 3).im, .complex .f64 ((objW k (R k) L l fl a) 4).re ((objW k (R k) L l fl a) 4).im, .complex .f64 ((objW k (R k) L l fl a) 5).re ((objW k (R k) L l fl a) 5).im, .complex .f64 ((objW k (R k) L l fl a) 6).re ((objW k (R k) L l fl a) 6).im, .complex .f64 ((objW k (R k) L l fl a) 7).re ((objW k (R k) L l fl a) 7).im]) | _ => none) 9 10 (fun u => Kept w u ∧ u.rowIs g 65 (l * 8) (rv (rowW k 0 (R k) L l l true fl)) ∧ Ws u w.heap.size u17 (a * 8) f) (fun v u => Kept w u ∧ u.rowIs g 65 (l * 8) (rv (rowW k 0 (R k) L l l true fl)) ∧ Ws u w.heap.size v (a * 8 + 8) f ∧ v.ownBlock ≠ some g) (done d 9) (vals.set 9 v') u') := fun v' u' q1 q2 q3 => hj.call (by omega) (by decide) hi rfl ⟨hKR.1.muts q2 (fun b hb => (ws.lt b (by simpa using hb)).1), q2.row hKR.2 (by have := HV0.out; simpa using this), q1, q3.not hKR.2.lt HV0.out⟩
                    clear hh hd hj hi ws hKR
                    refine wpOp_step rfl (fun K hK => ?_)
                    go_simp
                    refine CA.mono ?_
                    rintro e u' ⟨v', rfl, q1, q2, q3⟩
                    exact hK _ _ ⟨v', by simp [Act.put], HN.out v' u' q1 q2 q3⟩
                  | 10, ho, hi, hd =>
                    simp only [List.getElem?_cons_succ, List.getElem?_cons_zero, Option.some.injEq] at ho
                    subst ho
                    have g125 : a1.tmps[125]? = some (vals.getD 9 undef) := hh.did 9 _ 125 rfl rfl (hd { on := 9, ground := .data } (by simp) rfl)
                    have HN0 := hj.last (by omega) (by decide) (hd { on := 9, ground := .data } (by simp) rfl) (hd { on := 0, ground := .phase } (by simp) rfl) rfl
                    obtain ⟨y, hy⟩ : ∃ y, vals.getD 9 undef = y := ⟨_, rfl⟩
                    rw [hy] at HN0 g125
                    have HN : Hid (MJ (fun q1 => match q1 with | 0 => some (u17) | 1 => some (.slice (some ⟨xb, xo, none⟩) l c) | 2 => some (.int .i64 a) | 3 => some (.pointer (some ⟨xb, xo + a, none⟩)) | 4 => some (.int .i64 (L a)) | 5 => some (.slice (some ⟨g, 0, none⟩) l l) | 6 => some (.int .i64 a) | 7 => some (.pointer (some ⟨g, a * 8, none⟩)) | 8 => some (.agg #[.complex .f64 ((objW k (R k) L l fl a) 0).re ((objW k (R k) L l fl a) 0).im, .complex .f64 ((objW k (R k) L l fl a) 1).re ((objW k (R k) L l fl a) 1).im, .complex .f64 ((objW k (R k) L l fl a) 2).re ((objW k (R k) L l fl a) 2).im, .complex .f64 ((objW k (R k) L l fl a) 3).re ((objW k (R k) L l fl a) 3).im, .complex .f64 ((objW k (R k) L l fl a) 4).re ((objW k (R k) L l fl a) 4).im, .complex .f64 ((objW k (R k) L l fl a) 5).re ((objW k (R k) L l fl a) 5).im, .complex .f64 ((objW k (R k) L l fl a) 6).re ((objW k (R k) L l fl a) 6).im, .complex .f64 ((objW k (R k) L l fl a) 7).re ((objW k (R k) L l fl a) 7).im]) | _ => none) 9 10 (fun u => Kept w u ∧ u.rowIs g 65 (l * 8) (rv (rowW k 0 (R k) L l l true fl)) ∧ Ws u w.heap.size u17 (a * 8) f) (fun v u => Kept w u ∧ u.rowIs g 65 (l * 8) (rv (rowW k 0 (R k) L l l true fl)) ∧ Ws u w.heap.size v (a * 8 + 8) f ∧ v.ownBlock ≠ some g) (done d 10) (vals.set 10 y) u) := HN0
                    clear hh hd hj hi hKR HN0 hy
                    refine wpOp_step rfl (fun K hK => ?_)
                    go_simp
                    exact hK _ _ ⟨y, by simp [Act.put], HN.out⟩
                  | n + 11, ho, _, _ => simp at ho
                · intro u d vals hv hall hj
                  have h9 := hj.af (hall 9 (by decide))
                  have h10 := (hj.la (hall 10 (by decide))).2.1
                  clear hall hj
                  match vals, hv, h9, h10 with
                  | [y0, y1, y2, y3, y4, y5, y6, y7, y8, y9, y10], _, h9, h10 =>
                    simp only [List.getD_cons_succ, List.getD_cons_zero] at h9 h10
                    subst h10
                    have HE : Hid (Kept w u ∧ u.rowIs g 65 (l * 8) (rv (rowW k 0 (R k) L l l true fl)) ∧ Ws u w.heap.size y10 ((a + 1) * 8) f ∧ y10.ownBlock ≠ some g) := ⟨h9.1, h9.2.1, by rw [show (a + 1) * 8 = a * 8 + 8 by omega]; exact h9.2.2.1, h9.2.2.2⟩
                    clear h9 H3
                    refine norm_list' (L' := [_, _, _, _, _, _, _, _, _, _, _, _, _, _, _, _, _, _, _, _, _, _, _, _, _, _, _, _, _, _, _, _, _, _, _, _, _, _, _, _, _, _, _, _, _, _, _, _, _, _, _, _, _, _, _, _, _, _, _, _, _, _, _, _, _, _, _, _, _, _, _, _, _, _, _, _, _, _, _, _, _, _, _, _, _, _, _, _, _, _, _, _, _, _, _, _, _, _, _, _, _, _, _, _, _, _, _, _, _, _, _, _, _, _, _, _, _, _, _, _, _, _, _, _, _, _, _]) rfl ?_
                    simp only [List.getD_cons_succ, List.getD_cons_zero]
                    go_wp2
                    go_roundg (l - (a + 1))
                    all_goals (have := HM3.out; try omega)
                    exact ⟨a + 1, by go_num, by omega, by omega, HE⟩
              · obtain rfl : l = a := by omega
                go_wp2
                go_ret2
                exact ⟨⟨_, rfl, by rw [Nat.mul_comm 8 l, HFE.out.1, ← HFF.out]; exact H3.out.2.2.1⟩, H3.out.1⟩
end Go.Proofs.Ytpdclckgnajcdaa
