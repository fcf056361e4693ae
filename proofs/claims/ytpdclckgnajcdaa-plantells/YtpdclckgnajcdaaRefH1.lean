/-
  The document's Array (package sporef6): what is written, mode 1.
-/
import Derived.Test.YtpdclckgnajcdaaRefF
namespace Go.Proofs.Ytpdclckgnajcdaa
open Go.RowKit
attribute [local go_sem] run_store_complex

theorem rdr_two (w : World) (a b : Wr) : Rdr Wr.c (w.alloc (.cells (a.c ++ b.c).toArray 45)) (some ⟨w.heap.size, 0, none⟩) [a, b] := fun _ => ⟨_, rfl, fun j u hu => by
  rw [show (⟨w.heap.size, 0, none⟩ : Addr).add j = ⟨w.heap.size, j, none⟩ by unfold Addr.add; split <;> simp_all]
  simpa using hu⟩
theorem wpList_push2 {w : World} {ops : Array Oper} {rest : List Oper} {o : Oper} {a : Act} {Q : Exit → Act → World → Prop} (hgd : o.guard = none) (s x : Operand)
    (ho : o.op = .call { callee := .builtin .append, args := #[s, x], argTypes := #[28, 28] }) {base n d : Nat} {v : Value} {f : Nat → Wr} (hs : a.eval s = v) (h : Ws w base v n f) (hb : base ≤ w.heap.size)
    (hn : n ≤ 100000) (hx : a.eval x = .slice (some ⟨w.heap.size, 0, none⟩) 2 d) {A B : Int} {p q p2 q2 : Nat} (hA : f n = ⟨A, p, q⟩) (hB : f (n + 1) = ⟨B, p2, q2⟩)
    (hK : ∀ v' w', Ws w' base v' (n + 2) f → Mut v.ownBlock.toList w w' → Fresh w v v' → wpList Try.prog ops Q rest (a.put o.dst v') w') :
    wpList Try.prog ops Q (o :: rest) a (w.alloc (.cells #[.int .i64 A, .complex .f64 p q, .int .i64 B, .complex .f64 p2 q2] 45)) := by
  have k0 : Kept w (w.alloc (.cells (([f n, f (n + 1)].flatMap Wr.c)).toArray 45)) := (Kept.refl w).alloc _ _
  have hrd : Rdr Wr.c (w.alloc (.cells (([f n, f (n + 1)].flatMap Wr.c)).toArray 45)) (some ⟨w.heap.size, 0, none⟩) [f n, f (n + 1)] := by
    have := rdr_two w (f n) (f (n + 1))
    simpa using this
  obtain ⟨v', w', hr, h2, h3, h4⟩ := run_append_rw (ty := o.type) (T := [f n, f (n + 1)]) (d := d) Try.underlying28 info_write rfl (by decide) (by decide) wr_len wr_one (Rw.kept h k0) (by have := k0.size; omega) hrd (by simp; omega)
  have hw2 : Ws w' base v' (n + 2) f := by
    unfold Ws
    rw [range_push (n + 1), range_push n, List.append_assoc]
    exact h2
  have hf2 : Fresh w v v' := fun k hk => by
    rcases h4 k hk with e | e
    · exact .inl e
    · have := k0.size; exact .inr (by omega)
  have hm2 := k0.mut.trans h3
  simp only [List.flatMap_cons, List.flatMap_nil, hA, hB, Wr.c, List.cons_append, List.nil_append, List.append_nil, List.length_cons, List.length_nil, Nat.zero_add, Nat.reduceAdd] at hr
  refine wpList_plain hgd fun K hK' => ?_
  unfold Oper.wp execOp
  simp only [ho, resolve, invoke, builtin, Sem.run_bind, Sem.run_pure, Result.andThen_ok, List.map_toArray, List.map_cons, List.map_nil, hs, hx, hr]
  exact hK' _ _ (hK v' w' hw2 hm2 hf2)

set_option maxRecDepth 20000 in
set_option maxHeartbeats 4000000 in
theorem rarray_yes1 (n0 n1 n2 n3 n4 n5 n6 n7 : Int) (sx : Option Addr) (sl sc : Nat) (S : Nat → Sh) (R : Nat → Nat → Bool) (k : Nat) (n : Int) {x : Option Addr} {l c : Nat} {L : Nat → Int} (at' : Int) (w : World) (hS : Shps w sx sl S) (hR : ∀ i, i < sl → Refs w (S i).x (S i).l (R i))
    (hc : l ≤ c) (hx : Rdf w x l L) (hr : Asks (AG n0 n1 n2 n3 n4 n5 n6 n7 sl S L l) (AK sl S k true) (AI S k n true) (AF S k n true L l) 0) (hm1 : modeA n L l = 1) (hF : Fit n0 n1 at' (l + 1)) :
    Calls Try.prog 15 #[.agg #[.int .i64 n0, .int .i64 n1, .int .i64 n2, .int .i64 n3, .int .i64 n4, .int .i64 n5, .int .i64 n6, .int .i64 n7, .slice sx sl sc], .int .i64 k, .int .i64 n, .slice x l c, .int .i64 at'] w fun e w' => (∃ v, e = .returned (.tuple #[v, .int .i64 0]) ∧ Ws w' w.heap.size v (8 * l + (l + 1)) (arrF k n 1 (R k) L l at')) ∧ Kept w w' := by
  obtain ⟨hg, hk, hi, hf⟩ := hr.zero
  have hk2 := hk.2.2
  rw [Int.toNat_natCast] at hk2
  have hkn : k < sl := by have := hk.2.1; omega
  have hfl : (S k).l = 1 := (may_len (hg.1.2.2.2 _ hkn)).2 hk2
  have hlz : arrSize n = l := hf.1.symm
  have hn5 : 0 ≤ n ∧ n ≤ 512 := by
    have := hi
    unfold AI at this
    simp only [sizeU, arrSize, if_true] at this
    split at this <;> omega
  have hld : (l : Int) = 1 + dat n := by
    rw [← hlz]
    unfold arrSize
    rw [if_neg (by omega)]
  have hdl := dat_lo n
  have hdh := dat_hi n
  have hl1 : 1 ≤ l := by omega
  have hl65 : l ≤ 65 := by omega
  have hk8 : (k : Int) ≤ 8 := by have := hg.1.2.2.1; omega
  have hL : ∀ j, j < l → 0 ≤ L j ∧ L j ≤ 1024 := fun j hj => by have := hg.2 j hj; have := hg.1.1.1.2; omega
  obtain ⟨xb, xo, rfl, hxb, hxc⟩ := hx (by omega)
  have C0 : Hid (∀ w', Kept w w' → Calls Try.prog 44 #[.agg #[.int .i64 n0, .int .i64 n1, .int .i64 n2, .int .i64 n3, .int .i64 n4, .int .i64 n5, .int .i64 n6, .int .i64 n7, .slice sx sl sc]] w' _) := fun w' k => ref_check n0 n1 n2 n3 n4 n5 n6 n7 sx sl sc S 0 w' (hS.kept k) (Checks.of_ok hg.1.1 hg.1.2)
  have C1 : Hid (∀ w', Kept w w' → Calls Try.prog 45 #[.agg #[.int .i64 n0, .int .i64 n1, .int .i64 n2, .int .i64 n3, .int .i64 n4, .int .i64 n5, .int .i64 n6, .int .i64 n7, .slice sx sl sc], .slice (some ⟨xb, xo, none⟩) l c] w' _) := fun w' k => rwrong_any n0 n1 n2 n3 n4 n5 n6 n7 sx sl sc (c := c) false w' (by omega) (hx.kept k) ⟨fun h => (by cases h), fun h => absurd hg.2 h⟩
  have C2 : Hid (∀ w', Kept w w' → Calls Try.prog 48 #[.slice (some ⟨xb, xo, none⟩) l c] w' _) := fun w' k => rtwice_any (c := c) false w' (by omega) hc (hx.kept k) ⟨fun h => (by cases h), fun h => absurd h hf.2⟩
  have CS : Hid (∀ w', Kept w w' → Calls Try.prog 46 #[.agg #[.int .i64 n0, .int .i64 n1, .int .i64 n2, .int .i64 n3, .int .i64 n4, .int .i64 n5, .int .i64 n6, .int .i64 n7, .slice sx sl sc], .int .i64 k] w' _) := fun w' q => ref_shape_in n0 n1 n2 n3 n4 n5 n6 n7 sx sl sc S k w' hkn (hS.kept q)
  have CSd : Hid (∀ w', Kept w w' → Calls Try.prog 20 #[.slice (some ⟨xb, xo, none⟩) l c] w' _) := fun w' q => rside_any (c := c) w' (by omega) (hx.kept q) (small_i64 hL)
  obtain ⟨sxx, hxe⟩ : ∃ sxx, (S k).x = sxx := ⟨_, rfl⟩
  obtain ⟨sfc, hce⟩ : ∃ sfc, (S k).c = sfc := ⟨_, rfl⟩
  have hRk : Refs w sxx 1 (R k) := by rw [← hfl, ← hxe]; exact hR k hkn
  have CZ : Hid (∀ w, Calls Try.prog 47 #[.agg #[.bool true, .slice sxx 1 sfc], .int .i64 n] w fun e w' => e = .returned (.int .i64 l) ∧ Kept w w') := fun w => by rw [← hlz]; exact rsize_arr sxx sfc n w
  have CPn : Hid (∀ w, Calls Try.prog 60 #[.agg #[.bool true, .slice sxx 1 sfc], .int .i64 n] w _) := fun w => rspine_arr sxx sfc n w
  have HFE : Hid ((S k).l = 1 ∧ (S k).arr = true ∧ (S k).x = sxx ∧ (S k).c = sfc) := ⟨hfl, hk2, hxe, hce⟩
  have HX : Hid (xb < w.heap.size ∧ ∀ j, j < l → w.cell? ⟨xb, xo + j, none⟩ = some (.int .i64 (L j))) := ⟨hxb, hxc⟩
  have HLL : Hid (∀ j, j < l → 0 ≤ L j ∧ L j ≤ 1024) := hL
  have HR : Hid (Refs w sxx 1 (R k)) := hRk
  have ez : ((l : Int) != (l : Int)) = false := by simp
  have hlneg : ¬ (l : Int) < 0 := by omega
  have hsd : sideU L l = false ∧ 4 < dat n := by
    unfold modeA at hm1
    split at hm1
    · cases hm1
    · split at hm1
      · cases hm1
      · exact ⟨by simp_all, by omega⟩
  obtain ⟨wn, hwn⟩ : ∃ wn : Nat, l + 1 = wn := ⟨_, rfl⟩
  have hsp : spineOf n = (wn : Int) := by unfold spineOf; rw [if_neg (by omega)]; omega
  rw [hsp] at CPn
  rw [hsd.1] at CSd
  have hwn0 : (wn : Int) > 0 := by omega
  have hwn1 : wn ≤ 66 := by omega
  have CF2 : Hid (∀ w', Kept w w' → Calls Try.prog 61 #[.agg #[.int .i64 n0, .int .i64 n1, .int .i64 n2, .int .i64 n3, .int .i64 n4, .int .i64 n5, .int .i64 n6, .int .i64 n7, .slice sx sl sc], .int .i64 at', .int .i64 wn] w' _) := fun w' q => rspot_any n0 n1 n2 n3 n4 n5 n6 n7 sx sl sc S at' wn true w' (hS.kept q) hg.1 (by omega) ⟨fun _ => by rw [← hwn]; simpa using hF, fun _ => rfl⟩
  have hatb : 0 ≤ at' ∧ at' ≤ 20000 := by have := hg.1.1.1; have := hg.1.1.2.1; rcases hF with q | q <;> omega
  have CWa : Hid (∀ w, Calls Try.prog 62 #[.int .i64 at'] w _) := fun w => rwhole_in at' w (by omega) (by omega)
  clear hF
  have CHd : Hid (∀ w, Calls Try.prog 51 #[.int .i64 k, .int .i64 0] w _) := fun w => rhead_in k 0 w (by omega) (by omega) (by omega) (by omega)
  have CWn : Hid (∀ w, Calls Try.prog 62 #[.int .i64 n] w _) := fun w => rwhole_in n w (by omega) (by omega)
  have CWm : Hid (∀ w, Calls Try.prog 62 #[.int .i64 1] w _) := fun w => rwhole_in 1 w (by omega) (by omega)
  obtain ⟨f, hff⟩ : ∃ f, f = arrF k n 1 (R k) L l at' := ⟨_, rfl⟩
  have HFF : Hid (f = arrF k n 1 (R k) L l at') := hff
  have hl5 : 1 ≤ l := by omega
  have hl2 : 2 ≤ l := by omega
  clear hS hR hr hx hxb hxc hxe hce hL hg hk hk2 hf hi hkn hRk hlz hm1 hfl hld hdl hdh hff hsp hsd hwn
  go_enter Try.func15, Try.ntmps15
  go_wp2_with fail
  generalize hW1 : w.alloc _ = W1
  have HW1 : Hid (Kept w W1 ∧ Blk W1 w.heap.size (cl n0 n1 n2 n3 n4 n5 n6 n7 (.slice sx sl sc))) := by rw [← hW1]; exact ⟨(Kept.refl w).alloc _ _, Blk.new w _ _⟩
  clear hW1
  refine (C0.out _ HW1.out.1).mono ?_
  rintro e u1 ⟨rfl, K⟩
  have HW : Hid (Kept w u1 ∧ Blk u1 w.heap.size (cl n0 n1 n2 n3 n4 n5 n6 n7 (.slice sx sl sc))) := ⟨HW1.out.1.trans K, HW1.out.2.kept K⟩
  clear HW1 K
  have c0 := HW.out.2.at 0 rfl
  have c1 := HW.out.2.at 1 rfl
  have c2 := HW.out.2.at 2 rfl
  have c3 := HW.out.2.at 3 rfl
  have c4 := HW.out.2.at 4 rfl
  have c5 := HW.out.2.at 5 rfl
  have c6 := HW.out.2.at 6 rfl
  have c7 := HW.out.2.at 7 rfl
  have c8 := HW.out.2.at 8 rfl
  go_wp2_with fail
  refine (C1.out _ HW.out.1).mono ?_
  rintro e u2 ⟨rfl, K⟩
  have HW2 : Hid (Kept w u2 ∧ Blk u2 w.heap.size (cl n0 n1 n2 n3 n4 n5 n6 n7 (.slice sx sl sc))) := ⟨HW.out.1.trans K, HW.out.2.kept K⟩
  clear HW K c0 c1 c2 c3 c4 c5 c6 c7 c8
  have c0 := HW2.out.2.at 0 rfl
  have c1 := HW2.out.2.at 1 rfl
  have c2 := HW2.out.2.at 2 rfl
  have c3 := HW2.out.2.at 3 rfl
  have c4 := HW2.out.2.at 4 rfl
  have c5 := HW2.out.2.at 5 rfl
  have c6 := HW2.out.2.at 6 rfl
  have c7 := HW2.out.2.at 7 rfl
  have c8 := HW2.out.2.at 8 rfl
  go_wp2_with fail
  refine (CS.out _ HW2.out.1).mono ?_
  rintro e u3 ⟨rfl, K⟩
  have HW3 : Hid (Kept w u3 ∧ Blk u3 w.heap.size (cl n0 n1 n2 n3 n4 n5 n6 n7 (.slice sx sl sc))) := ⟨HW2.out.1.trans K, HW2.out.2.kept K⟩
  clear HW2 K c0 c1 c2 c3 c4 c5 c6 c7 c8 CS
  rw [HFE.out.1, HFE.out.2.1, HFE.out.2.2.1, HFE.out.2.2.2]
  go_wp2_with fail
  generalize hW3 : u3.alloc _ = W3
  obtain ⟨sb, hse⟩ : ∃ sb, u3.heap.size = sb := ⟨_, rfl⟩
  have HB3 : Hid (Kept w W3 ∧ Blk W3 w.heap.size (cl n0 n1 n2 n3 n4 n5 n6 n7 (.slice sx sl sc)) ∧ Blk W3 sb [.bool true, .slice sxx 1 sfc]) := by rw [← hW3, ← hse]; exact ⟨HW3.out.1.alloc _ _, HW3.out.2.kept ((Kept.refl _).alloc _ _), Blk.new u3 [_, _] _⟩
  rw [hse]
  clear hW3 HW3 hse
  refine (CZ.out _).mono ?_
  rintro e u4 ⟨rfl, K⟩
  have HB4 : Hid (Kept w u4 ∧ Blk u4 w.heap.size (cl n0 n1 n2 n3 n4 n5 n6 n7 (.slice sx sl sc)) ∧ Blk u4 sb [.bool true, .slice sxx 1 sfc]) := ⟨HB3.out.1.trans K, HB3.out.2.1.kept K, HB3.out.2.2.kept K⟩
  clear K HB3
  have s0 := HB4.out.2.2.at 0 rfl
  have s1 := HB4.out.2.2.at 1 rfl
  go_wp2_with fail
  refine (CZ.out _).mono ?_
  rintro e u5 ⟨rfl, K⟩
  have HB5 : Hid (Kept w u5 ∧ Blk u5 w.heap.size (cl n0 n1 n2 n3 n4 n5 n6 n7 (.slice sx sl sc)) ∧ Blk u5 sb [.bool true, .slice sxx 1 sfc]) := ⟨HB4.out.1.trans K, HB4.out.2.1.kept K, HB4.out.2.2.kept K⟩
  clear K CZ HB4 s0 s1
  go_wp2_with fail
  refine (C2.out _ HB5.out.1).mono ?_
  rintro e u6 ⟨rfl, K⟩
  have HB6 : Hid (Kept w u6 ∧ Blk u6 w.heap.size (cl n0 n1 n2 n3 n4 n5 n6 n7 (.slice sx sl sc)) ∧ Blk u6 sb [.bool true, .slice sxx 1 sfc]) := ⟨HB5.out.1.trans K, HB5.out.2.1.kept K, HB5.out.2.2.kept K⟩
  clear K C2 HB5
  have s0 := HB6.out.2.2.at 0 rfl
  have s1 := HB6.out.2.2.at 1 rfl
  go_wp2_with fail
  refine (CPn.out _).mono ?_
  rintro e u7 ⟨rfl, K⟩
  have HB7 : Hid (Kept w u7 ∧ Blk u7 w.heap.size (cl n0 n1 n2 n3 n4 n5 n6 n7 (.slice sx sl sc)) ∧ Blk u7 sb [.bool true, .slice sxx 1 sfc]) := ⟨HB6.out.1.trans K, HB6.out.2.1.kept K, HB6.out.2.2.kept K⟩
  clear K CPn HB6 s0 s1
  go_wp2_with fail
  refine (CSd.out _ HB7.out.1).mono ?_
  rintro e u8 ⟨rfl, K⟩
  have HB8 : Hid (Kept w u8 ∧ Blk u8 w.heap.size (cl n0 n1 n2 n3 n4 n5 n6 n7 (.slice sx sl sc)) ∧ Blk u8 sb [.bool true, .slice sxx 1 sfc]) := ⟨HB7.out.1.trans K, HB7.out.2.1.kept K, HB7.out.2.2.kept K⟩
  clear K CSd HB7
  have c0 := HB8.out.2.1.at 0 rfl
  have c1 := HB8.out.2.1.at 1 rfl
  have c2 := HB8.out.2.1.at 2 rfl
  have c3 := HB8.out.2.1.at 3 rfl
  have c4 := HB8.out.2.1.at 4 rfl
  have c5 := HB8.out.2.1.at 5 rfl
  have c6 := HB8.out.2.1.at 6 rfl
  have c7 := HB8.out.2.1.at 7 rfl
  have c8 := HB8.out.2.1.at 8 rfl
  go_wp2_with fail
  refine (CF2.out _ HB8.out.1).mono ?_
  rintro e u9 ⟨rfl, K⟩
  have HB9 : Hid (Kept w u9 ∧ Blk u9 w.heap.size (cl n0 n1 n2 n3 n4 n5 n6 n7 (.slice sx sl sc)) ∧ Blk u9 sb [.bool true, .slice sxx 1 sfc]) := ⟨HB8.out.1.trans K, HB8.out.2.1.kept K, HB8.out.2.2.kept K⟩
  clear K CF2 HB8 c0 c1 c2 c3 c4 c5 c6 c7 c8
  go_upto_region 20 with fail
  generalize hW9 : u9.alloc _ = W9
  obtain ⟨wb, hwe⟩ : ∃ wb, u9.heap.size = wb := ⟨_, rfl⟩
  rw [hwe]
  have HO : Hid (Kept w W9 ∧ Blk W9 sb [.bool true, .slice sxx 1 sfc] ∧ Own W9 wb 65 (eight (fun _ => cz)) ∧ sb < wb ∧ w.heap.size ≤ wb) := by
    rw [← hW9, ← hwe]
    exact ⟨HB9.out.1.alloc _ _, HB9.out.2.2.kept ((Kept.refl _).alloc _ _), Own.new u9 (eight fun _ => cz) _, HB9.out.2.2.lt, HB9.out.1.size⟩
  clear hW9 hwe HB9
  have d0 := HO.out.2.2.1.blk.at 0 rfl
  have d1 := HO.out.2.2.1.blk.at 1 rfl
  have d2 := HO.out.2.2.1.blk.at 2 rfl
  have d3 := HO.out.2.2.1.blk.at 3 rfl
  have fz := HO.out.2.2.1.blk.fz
  go_wp2_with fail
  refine (rnone_any _).mono ?_
  rintro e z1 ⟨rfl, rfl⟩
  go_wp2_with fail
  refine (CHd.out _).mono ?_
  rintro e z2 ⟨rfl, rfl⟩
  go_wp2_with fail
  refine (CWn.out _).mono ?_
  rintro e z3 ⟨rfl, rfl⟩
  go_wp2_with fail
  refine (CWm.out _).mono ?_
  rintro e z4 ⟨rfl, rfl⟩
  go_upto_region 21 with fail
  generalize hW10 : (((z4.setCell _ _).setCell _ _).setCell _ _).setCell _ _ = W10
  have HWB : Hid (sb < wb ∧ w.heap.size ≤ wb) := HO.out.2.2.2
  have HO2 : Hid (Kept w W10 ∧ Blk W10 sb [.bool true, .slice sxx 1 sfc] ∧ Own W10 wb 65 (eight (sentP k n 1))) := by
    rw [← hW10]
    have hs := HWB.out.1
    refine ⟨(((HO.out.1.setCell HWB.out.2 _).setCell HWB.out.2 _).setCell HWB.out.2 _).setCell HWB.out.2 _, (((HO.out.2.1.set_other (by simp; omega) _).set_other (by simp; omega) _).set_other (by simp; omega) _).set_other (by simp; omega) _, ?_⟩
    exact (((HO.out.2.2.1.set 0 _).set 1 _).set 2 _).set 3 _
  clear hW10 HO d0 d1 d2 d3 fz CHd CWn CWm
  go_wp2_with fail
  refine (CWa.out _).mono ?_
  rintro e y2 ⟨rfl, rfl⟩
  have dd := HO2.out.2.2.blk.at 4 rfl
  have fz := HO2.out.2.2.blk.fz
  go_upto_region 33 with fail
  generalize hV9 : y2.setCell _ _ = V9
  have HS : Hid (Kept w V9 ∧ Blk V9 sb [.bool true, .slice sxx 1 sfc] ∧ Own V9 wb 65 (eight (sentW k n 1 L l at'))) := by
    rw [← hV9]
    refine ⟨HO2.out.1.setCell HWB.out.2 _, HO2.out.2.1.set_other (by have := HWB.out.1; simp; omega) _, HO2.out.2.2.put (by omega) (cw at') fun j hj => ?_⟩
    exact sent_1 rfl j hj
  clear hV9 HO2 dd fz CWa
  refine wp_region_mix [undef, undef, undef, undef, undef, undef] [(19, 5), (126, 0), (127, 1), (128, 2), (129, 3), (130, 4)] (fun d vals u => MJ (fun q1 => match q1 with | 0 => some (.slice (some ⟨xb, xo, none⟩) l c) | 1 => some (.pointer (some ⟨xb, xo, none⟩)) | 2 => some (.int .i64 (L 0)) | 3 => some (.agg #[.complex .f64 ((sentW k n 1 L l at') 0).re ((sentW k n 1 L l at') 0).im, .complex .f64 ((sentW k n 1 L l at') 1).re ((sentW k n 1 L l at') 1).im, .complex .f64 ((sentW k n 1 L l at') 2).re ((sentW k n 1 L l at') 2).im, .complex .f64 ((sentW k n 1 L l at') 3).re ((sentW k n 1 L l at') 3).im, .complex .f64 ((sentW k n 1 L l at') 4).re ((sentW k n 1 L l at') 4).im, .complex .f64 ((sentW k n 1 L l at') 5).re ((sentW k n 1 L l at') 5).im, .complex .f64 ((sentW k n 1 L l at') 6).re ((sentW k n 1 L l at') 6).im, .complex .f64 ((sentW k n 1 L l at') 7).re ((sentW k n 1 L l at') 7).im]) | _ => none) 4 5 (fun u => Kept w u ∧ Blk u sb [.bool true, .slice sxx 1 sfc] ∧ Own u wb 65 (eight (sentW k n 1 L l at'))) (fun v u => Kept w u ∧ Blk u sb [.bool true, .slice sxx 1 sfc] ∧ Own u wb 65 (eight (sentW k n 1 L l at')) ∧ Ws u w.heap.size v 8 f ∧ v.ownBlock ≠ some sb) d vals u) (by kernel_rfl) (by kernel_rfl) (by kernel_rfl) (by kernel_rfl) rfl ?_ ?_ ?_
  · exact ⟨fun _ _ _ h => absurd h (by simp), fun _ => ⟨HS.out.1.drew, HS.out.2.1.kept (Kept.refl _).drew, HS.out.2.2.kept (Kept.refl _).drew⟩, fun h => absurd h (by simp), fun h => absurd h (by simp)⟩
  · intro i1 o ho a1 d vals u hv0 hh hj hi hd
    have hv : vals.length = 6 := hv0
    have hKR : Kept w u ∧ Blk u sb [.bool true, .slice sxx 1 sfc] ∧ Own u wb 65 (eight (sentW k n 1 L l at')) := by
      cases hq : d 4
      · exact hj.bf hq
      · exact ⟨(hj.af hq).1, (hj.af hq).2.1, (hj.af hq).2.2.1⟩
    match i1, ho, hi, hd with
    | 0, ho, hi, hd =>
      simp only [List.getElem?_cons_zero, Option.some.injEq] at ho
      subst ho
      have g3 : a1.tmps[3]? = some (.slice (some ⟨xb, xo, none⟩) l c) := hh.old 3 (by kernel_rfl) rfl
      have HN : Hid (MJ (fun q1 => match q1 with | 0 => some (.slice (some ⟨xb, xo, none⟩) l c) | 1 => some (.pointer (some ⟨xb, xo, none⟩)) | 2 => some (.int .i64 (L 0)) | 3 => some (.agg #[.complex .f64 ((sentW k n 1 L l at') 0).re ((sentW k n 1 L l at') 0).im, .complex .f64 ((sentW k n 1 L l at') 1).re ((sentW k n 1 L l at') 1).im, .complex .f64 ((sentW k n 1 L l at') 2).re ((sentW k n 1 L l at') 2).im, .complex .f64 ((sentW k n 1 L l at') 3).re ((sentW k n 1 L l at') 3).im, .complex .f64 ((sentW k n 1 L l at') 4).re ((sentW k n 1 L l at') 4).im, .complex .f64 ((sentW k n 1 L l at') 5).re ((sentW k n 1 L l at') 5).im, .complex .f64 ((sentW k n 1 L l at') 6).re ((sentW k n 1 L l at') 6).im, .complex .f64 ((sentW k n 1 L l at') 7).re ((sentW k n 1 L l at') 7).im]) | _ => none) 4 5 (fun u => Kept w u ∧ Blk u sb [.bool true, .slice sxx 1 sfc] ∧ Own u wb 65 (eight (sentW k n 1 L l at'))) (fun v u => Kept w u ∧ Blk u sb [.bool true, .slice sxx 1 sfc] ∧ Own u wb 65 (eight (sentW k n 1 L l at')) ∧ Ws u w.heap.size v 8 f ∧ v.ownBlock ≠ some sb) (done d 0) (vals.set 0 (.slice (some ⟨xb, xo, none⟩) l c)) u) := hj.plain 0 _ (by omega) (by decide) (by decide) rfl
      clear hh hd hj hi hKR
      refine wpOp_step rfl (fun K hK => ?_)
      go_simp
      exact hK _ _ ⟨_, by simp [Act.put], HN.out⟩
    | 1, ho, hi, hd =>
      simp only [List.getElem?_cons_succ, List.getElem?_cons_zero, Option.some.injEq] at ho
      subst ho
      have g126 : a1.tmps[126]? = some (.slice (some ⟨xb, xo, none⟩) l c) := (hh.did 0 _ 126 rfl rfl (hd { on := 0, ground := .data } (by simp) rfl)).trans (congrArg some (hj.kn 0 _ rfl (hd { on := 0, ground := .data } (by simp) rfl)))
      have hz0 : 0 < l := by omega
      have HN : Hid (MJ (fun q1 => match q1 with | 0 => some (.slice (some ⟨xb, xo, none⟩) l c) | 1 => some (.pointer (some ⟨xb, xo, none⟩)) | 2 => some (.int .i64 (L 0)) | 3 => some (.agg #[.complex .f64 ((sentW k n 1 L l at') 0).re ((sentW k n 1 L l at') 0).im, .complex .f64 ((sentW k n 1 L l at') 1).re ((sentW k n 1 L l at') 1).im, .complex .f64 ((sentW k n 1 L l at') 2).re ((sentW k n 1 L l at') 2).im, .complex .f64 ((sentW k n 1 L l at') 3).re ((sentW k n 1 L l at') 3).im, .complex .f64 ((sentW k n 1 L l at') 4).re ((sentW k n 1 L l at') 4).im, .complex .f64 ((sentW k n 1 L l at') 5).re ((sentW k n 1 L l at') 5).im, .complex .f64 ((sentW k n 1 L l at') 6).re ((sentW k n 1 L l at') 6).im, .complex .f64 ((sentW k n 1 L l at') 7).re ((sentW k n 1 L l at') 7).im]) | _ => none) 4 5 (fun u => Kept w u ∧ Blk u sb [.bool true, .slice sxx 1 sfc] ∧ Own u wb 65 (eight (sentW k n 1 L l at'))) (fun v u => Kept w u ∧ Blk u sb [.bool true, .slice sxx 1 sfc] ∧ Own u wb 65 (eight (sentW k n 1 L l at')) ∧ Ws u w.heap.size v 8 f ∧ v.ownBlock ≠ some sb) (done d 1) (vals.set 1 (.pointer (some ⟨xb, xo, none⟩))) u) := hj.plain 1 _ (by omega) (by decide) (by decide) rfl
      clear hh hd hj hi hKR
      refine wpOp_step rfl (fun K hK => ?_)
      go_simp
      exact hK _ _ ⟨_, by simp [Act.put], HN.out⟩
    | 2, ho, hi, hd =>
      simp only [List.getElem?_cons_succ, List.getElem?_cons_zero, Option.some.injEq] at ho
      subst ho
      have g127 : a1.tmps[127]? = some (.pointer (some ⟨xb, xo, none⟩)) := (hh.did 1 _ 127 rfl rfl (hd { on := 1, ground := .data } (by simp) rfl)).trans (congrArg some (hj.kn 1 _ rfl (hd { on := 1, ground := .data } (by simp) rfl)))
      have bc : u.cell? ⟨xb, xo, none⟩ = some (.int .i64 (L 0)) := (hKR.1.cell HX.out.1).trans (HX.out.2 0 (by omega))
      have HN : Hid (MJ (fun q1 => match q1 with | 0 => some (.slice (some ⟨xb, xo, none⟩) l c) | 1 => some (.pointer (some ⟨xb, xo, none⟩)) | 2 => some (.int .i64 (L 0)) | 3 => some (.agg #[.complex .f64 ((sentW k n 1 L l at') 0).re ((sentW k n 1 L l at') 0).im, .complex .f64 ((sentW k n 1 L l at') 1).re ((sentW k n 1 L l at') 1).im, .complex .f64 ((sentW k n 1 L l at') 2).re ((sentW k n 1 L l at') 2).im, .complex .f64 ((sentW k n 1 L l at') 3).re ((sentW k n 1 L l at') 3).im, .complex .f64 ((sentW k n 1 L l at') 4).re ((sentW k n 1 L l at') 4).im, .complex .f64 ((sentW k n 1 L l at') 5).re ((sentW k n 1 L l at') 5).im, .complex .f64 ((sentW k n 1 L l at') 6).re ((sentW k n 1 L l at') 6).im, .complex .f64 ((sentW k n 1 L l at') 7).re ((sentW k n 1 L l at') 7).im]) | _ => none) 4 5 (fun u => Kept w u ∧ Blk u sb [.bool true, .slice sxx 1 sfc] ∧ Own u wb 65 (eight (sentW k n 1 L l at'))) (fun v u => Kept w u ∧ Blk u sb [.bool true, .slice sxx 1 sfc] ∧ Own u wb 65 (eight (sentW k n 1 L l at')) ∧ Ws u w.heap.size v 8 f ∧ v.ownBlock ≠ some sb) (done d 2) (vals.set 2 (.int .i64 (L 0))) u) := hj.plain 2 _ (by omega) (by decide) (by decide) rfl
      clear hh hd hj hi hKR
      refine wpOp_step rfl (fun K hK => ?_)
      go_simp
      exact hK _ _ ⟨_, by simp [Act.put], HN.out⟩
    | 3, ho, hi, hd =>
      simp only [List.getElem?_cons_succ, List.getElem?_cons_zero, Option.some.injEq] at ho
      subst ho
      have g17 : a1.tmps[17]? = some (.pointer (some ⟨wb, 0, none⟩)) := hh.old 17 (by kernel_rfl) rfl
      have x0 := hKR.2.2.blk.at 0 rfl
      have x1 := hKR.2.2.blk.at 1 rfl
      have x2 := hKR.2.2.blk.at 2 rfl
      have x3 := hKR.2.2.blk.at 3 rfl
      have x4 := hKR.2.2.blk.at 4 rfl
      have x5 := hKR.2.2.blk.at 5 rfl
      have x6 := hKR.2.2.blk.at 6 rfl
      have x7 := hKR.2.2.blk.at 7 rfl
      have HN : Hid (MJ (fun q1 => match q1 with | 0 => some (.slice (some ⟨xb, xo, none⟩) l c) | 1 => some (.pointer (some ⟨xb, xo, none⟩)) | 2 => some (.int .i64 (L 0)) | 3 => some (.agg #[.complex .f64 ((sentW k n 1 L l at') 0).re ((sentW k n 1 L l at') 0).im, .complex .f64 ((sentW k n 1 L l at') 1).re ((sentW k n 1 L l at') 1).im, .complex .f64 ((sentW k n 1 L l at') 2).re ((sentW k n 1 L l at') 2).im, .complex .f64 ((sentW k n 1 L l at') 3).re ((sentW k n 1 L l at') 3).im, .complex .f64 ((sentW k n 1 L l at') 4).re ((sentW k n 1 L l at') 4).im, .complex .f64 ((sentW k n 1 L l at') 5).re ((sentW k n 1 L l at') 5).im, .complex .f64 ((sentW k n 1 L l at') 6).re ((sentW k n 1 L l at') 6).im, .complex .f64 ((sentW k n 1 L l at') 7).re ((sentW k n 1 L l at') 7).im]) | _ => none) 4 5 (fun u => Kept w u ∧ Blk u sb [.bool true, .slice sxx 1 sfc] ∧ Own u wb 65 (eight (sentW k n 1 L l at'))) (fun v u => Kept w u ∧ Blk u sb [.bool true, .slice sxx 1 sfc] ∧ Own u wb 65 (eight (sentW k n 1 L l at')) ∧ Ws u w.heap.size v 8 f ∧ v.ownBlock ≠ some sb) (done d 3) (vals.set 3 (.agg #[.complex .f64 ((sentW k n 1 L l at') 0).re ((sentW k n 1 L l at') 0).im, .complex .f64 ((sentW k n 1 L l at') 1).re ((sentW k n 1 L l at') 1).im, .complex .f64 ((sentW k n 1 L l at') 2).re ((sentW k n 1 L l at') 2).im, .complex .f64 ((sentW k n 1 L l at') 3).re ((sentW k n 1 L l at') 3).im, .complex .f64 ((sentW k n 1 L l at') 4).re ((sentW k n 1 L l at') 4).im, .complex .f64 ((sentW k n 1 L l at') 5).re ((sentW k n 1 L l at') 5).im, .complex .f64 ((sentW k n 1 L l at') 6).re ((sentW k n 1 L l at') 6).im, .complex .f64 ((sentW k n 1 L l at') 7).re ((sentW k n 1 L l at') 7).im])) u) := hj.plain 3 _ (by omega) (by decide) (by decide) rfl
      clear hh hd hj hi hKR
      refine wpOp_step rfl (fun K hK => ?_)
      go_simp
      exact hK _ _ ⟨_, by simp [Act.put], HN.out⟩
    | 4, ho, hi, hd =>
      simp only [List.getElem?_cons_succ, List.getElem?_cons_zero, Option.some.injEq] at ho
      subst ho
      have g128 : a1.tmps[128]? = some (.int .i64 (L 0)) := (hh.did 2 _ 128 rfl rfl (hd { on := 2, ground := .data } (by simp) rfl)).trans (congrArg some (hj.kn 2 _ rfl (hd { on := 2, ground := .data } (by simp) rfl)))
      have g129 : a1.tmps[129]? = some (.agg #[.complex .f64 ((sentW k n 1 L l at') 0).re ((sentW k n 1 L l at') 0).im, .complex .f64 ((sentW k n 1 L l at') 1).re ((sentW k n 1 L l at') 1).im, .complex .f64 ((sentW k n 1 L l at') 2).re ((sentW k n 1 L l at') 2).im, .complex .f64 ((sentW k n 1 L l at') 3).re ((sentW k n 1 L l at') 3).im, .complex .f64 ((sentW k n 1 L l at') 4).re ((sentW k n 1 L l at') 4).im, .complex .f64 ((sentW k n 1 L l at') 5).re ((sentW k n 1 L l at') 5).im, .complex .f64 ((sentW k n 1 L l at') 6).re ((sentW k n 1 L l at') 6).im, .complex .f64 ((sentW k n 1 L l at') 7).re ((sentW k n 1 L l at') 7).im]) := (hh.did 3 _ 129 rfl rfl (hd { on := 3, ground := .data } (by simp) rfl)).trans (congrArg some (hj.kn 3 _ rfl (hd { on := 3, ground := .data } (by simp) rfl)))
      have CA := rput_any (base := w.heap.size) (n := 0) (v := .slice none 0 0) (f := f) (F := sentW k n 1 L l at') (L 0) u (Ws.nil _ _ _) hKR.1.size (by omega) (HLL.out 0 (by omega)) (fun j hj8 => by
        have e0 : 0 + j < l * 8 := by omega
        have e1 : (0 + j) / 8 = 0 := by omega
        have e2 : (0 + j) % 8 = j := by omega
        rw [HFF.out]
        simp only [arrF, arrW, e1, e2, if_pos e0, if_true]
        congr 1
        omega)
      have HN : Hid (∀ v' u', Ws u' w.heap.size v' (0 + 8) f → Mut (Value.slice none 0 0).ownBlock.toList u u' → Fresh u (.slice none 0 0) v' → MJ (fun q1 => match q1 with | 0 => some (.slice (some ⟨xb, xo, none⟩) l c) | 1 => some (.pointer (some ⟨xb, xo, none⟩)) | 2 => some (.int .i64 (L 0)) | 3 => some (.agg #[.complex .f64 ((sentW k n 1 L l at') 0).re ((sentW k n 1 L l at') 0).im, .complex .f64 ((sentW k n 1 L l at') 1).re ((sentW k n 1 L l at') 1).im, .complex .f64 ((sentW k n 1 L l at') 2).re ((sentW k n 1 L l at') 2).im, .complex .f64 ((sentW k n 1 L l at') 3).re ((sentW k n 1 L l at') 3).im, .complex .f64 ((sentW k n 1 L l at') 4).re ((sentW k n 1 L l at') 4).im, .complex .f64 ((sentW k n 1 L l at') 5).re ((sentW k n 1 L l at') 5).im, .complex .f64 ((sentW k n 1 L l at') 6).re ((sentW k n 1 L l at') 6).im, .complex .f64 ((sentW k n 1 L l at') 7).re ((sentW k n 1 L l at') 7).im]) | _ => none) 4 5 (fun u => Kept w u ∧ Blk u sb [.bool true, .slice sxx 1 sfc] ∧ Own u wb 65 (eight (sentW k n 1 L l at'))) (fun v u => Kept w u ∧ Blk u sb [.bool true, .slice sxx 1 sfc] ∧ Own u wb 65 (eight (sentW k n 1 L l at')) ∧ Ws u w.heap.size v 8 f ∧ v.ownBlock ≠ some sb) (done d 4) (vals.set 4 v') u') := fun v' u' q1 q2 q3 => hj.call (by omega) (by decide) hi rfl ⟨hKR.1.muts q2 (fun b hb => by simp [Value.ownBlock] at hb), hKR.2.1.muts q2 (by simp [Value.ownBlock]), hKR.2.2.muts q2 (by simp [Value.ownBlock]), by simpa using q1, q3.not hKR.2.1.lt (by simp [Value.ownBlock])⟩
      clear hh hd hj hi hKR
      refine wpOp_step rfl (fun K hK => ?_)
      go_simp
      refine CA.mono ?_
      rintro e u' ⟨v', rfl, q1, q2, q3⟩
      exact hK _ _ ⟨v', by simp [Act.put], HN.out v' u' q1 q2 q3⟩
    | 5, ho, hi, hd =>
      simp only [List.getElem?_cons_succ, List.getElem?_cons_zero, Option.some.injEq] at ho
      subst ho
      have g130 : a1.tmps[130]? = some (vals.getD 4 undef) := hh.did 4 _ 130 rfl rfl (hd { on := 4, ground := .data } (by simp) rfl)
      have HN0 := hj.last (by omega) (by decide) (hd { on := 4, ground := .data } (by simp) rfl) (hd { on := 0, ground := .phase } (by simp) rfl) rfl
      obtain ⟨y, hy⟩ : ∃ y, vals.getD 4 undef = y := ⟨_, rfl⟩
      rw [hy] at HN0 g130
      have HN : Hid (MJ (fun q1 => match q1 with | 0 => some (.slice (some ⟨xb, xo, none⟩) l c) | 1 => some (.pointer (some ⟨xb, xo, none⟩)) | 2 => some (.int .i64 (L 0)) | 3 => some (.agg #[.complex .f64 ((sentW k n 1 L l at') 0).re ((sentW k n 1 L l at') 0).im, .complex .f64 ((sentW k n 1 L l at') 1).re ((sentW k n 1 L l at') 1).im, .complex .f64 ((sentW k n 1 L l at') 2).re ((sentW k n 1 L l at') 2).im, .complex .f64 ((sentW k n 1 L l at') 3).re ((sentW k n 1 L l at') 3).im, .complex .f64 ((sentW k n 1 L l at') 4).re ((sentW k n 1 L l at') 4).im, .complex .f64 ((sentW k n 1 L l at') 5).re ((sentW k n 1 L l at') 5).im, .complex .f64 ((sentW k n 1 L l at') 6).re ((sentW k n 1 L l at') 6).im, .complex .f64 ((sentW k n 1 L l at') 7).re ((sentW k n 1 L l at') 7).im]) | _ => none) 4 5 (fun u => Kept w u ∧ Blk u sb [.bool true, .slice sxx 1 sfc] ∧ Own u wb 65 (eight (sentW k n 1 L l at'))) (fun v u => Kept w u ∧ Blk u sb [.bool true, .slice sxx 1 sfc] ∧ Own u wb 65 (eight (sentW k n 1 L l at')) ∧ Ws u w.heap.size v 8 f ∧ v.ownBlock ≠ some sb) (done d 5) (vals.set 5 y) u) := HN0
      clear hh hd hj hi hKR HN0 hy
      refine wpOp_step rfl (fun K hK => ?_)
      go_simp
      exact hK _ _ ⟨y, by simp [Act.put], HN.out⟩
    | n + 6, ho, _, _ => simp at ho
  · intro u d vals hv hall hj
    have h9 := hj.af (hall 4 (by decide))
    have h10 := (hj.la (hall 5 (by decide))).2.1
    clear hall hj
    match vals, hv, h9, h10 with
    | [y0, y1, y2, y3, y4, y5], _, h9, h10 =>
      simp only [List.getD_cons_succ, List.getD_cons_zero] at h9 h10
      subst h10
      have HE : Hid (Kept w u ∧ Blk u sb [.bool true, .slice sxx 1 sfc] ∧ Ws u w.heap.size y5 (8 + 0 * 8) f ∧ y5.ownBlock ≠ some sb) := ⟨h9.1, h9.2.1, by simpa using h9.2.2.2.1, h9.2.2.2.2⟩
      clear h9 HS
      refine norm_list' (L' := [_, _, _, _, _, _, _, _, _, _, _, _, _, _, _, _, _, _, _, _, _, _, _, _, _, _, _, _, _, _, _, _, _, _, _, _, _, _, _, _, _, _, _, _, _, _, _, _, _, _, _, _, _, _, _, _, _, _, _, _, _, _, _, _, _, _, _, _, _, _, _, _, _, _, _, _, _, _, _, _, _, _, _, _, _, _, _, _, _, _, _, _, _, _, _, _, _, _, _, _, _, _, _, _, _, _, _, _, _, _, _, _, _, _, _, _, _, _, _, _, _, _, _, _, _, _, _, _, _, _, _, _, _, _, _, _, _, _, _, _, _, _, _, _, _, _, _, _, _, _, _, _, _, _, _, _, _, _, _, _, _, _, _, _, _, _, _, _, _, _, _, _, _, _, _, _, _, _, _, _, _, _, _, _, _, _, _, _, _, _, _]) rfl ?_
      simp only [List.getD_cons_succ, List.getD_cons_zero]
      go_wp2_with fail
      go_loopg [19, 20] (l - 1) (fun mm v j wr => ∃ a : Nat, j = .int .i64 a ∧ a ≤ l - 1 ∧ mm = l - 1 - a ∧ Hid (Kept w wr ∧ Blk wr sb [.bool true, .slice sxx 1 sfc] ∧ Ws wr w.heap.size v (8 + a * 8) f ∧ v.ownBlock ≠ some sb))
      case atStart => exact ⟨0, rfl, by omega, by omega, HE⟩
      case round =>
        obtain ⟨a, rfl, ha0, hmm3, H3⟩ := hrel
        have HM3 : Hid _ := hmm3
        clear hmm3 HE
        by_cases hlt3 : a < l - 1
        · have hk3 : (a : Int) < (l : Int) - 1 := by omega
          go_wp2_with fail
          generalize hE : wr.alloc _ = E1
          obtain ⟨eb, hee⟩ : ∃ eb, wr.heap.size = eb := ⟨_, rfl⟩
          rw [hee]
          have H4 : Hid (Kept w E1 ∧ Blk E1 sb [.bool true, .slice sxx 1 sfc] ∧ Ws E1 w.heap.size u19 (8 + a * 8) f ∧ Own E1 eb 65 (eight (fun q => if q < 0 then un (R k 0) else cz))) := by
            rw [← hE, ← hee]
            exact ⟨H3.out.1.alloc _ _, H3.out.2.1.kept ((Kept.refl _).alloc _ _), H3.out.2.2.1.kept ((Kept.refl _).alloc _ _), Own.new wr (eight fun _ => cz) _⟩
          have HEB : Hid (sb < eb ∧ w.heap.size ≤ eb ∧ u19.ownBlock ≠ some eb ∧ u19.ownBlock ≠ some sb) := by
            rw [← hee]
            exact ⟨H3.out.2.1.lt, H3.out.1.size, fun q => by have := (H3.out.2.2.1.lt _ q).2; omega, H3.out.2.2.2⟩
          clear hE hee H3
          go_loopg [22] 8 (fun mm v wr => ∃ i : Nat, v = .int .i64 i ∧ i ≤ 8 ∧ mm = 8 - i ∧ Hid (Kept w wr ∧ Blk wr sb [.bool true, .slice sxx 1 sfc] ∧ Ws wr w.heap.size u19 (8 + a * 8) f ∧ Own wr eb 65 (eight (fun q => if q < i then un (R k 0) else cz))))
          case atStart => exact ⟨0, rfl, by omega, by omega, H4⟩
          case round =>
            obtain ⟨i, rfl, hi0, hmm4, H5⟩ := hrel
            have HM4 : Hid _ := hmm4
            clear hmm4 H4
            by_cases hi8 : i < 8
            · obtain ⟨rb, ro, hre, hrb, hrc⟩ := HR.out (by omega)
              subst hre
              have s1 := H5.out.2.1.at 1 rfl
              have rf : wr.cell? ⟨rb, ro, none⟩ = some (.bool (R k 0)) := (H5.out.1.cell hrb).trans (hrc 0 (by omega))
              go_wp2_with fail
              refine (rblank_any (R k 0) _).mono ?_
              rintro e y3 ⟨rfl, rfl⟩
              have hi9 : (i : Int) < 8 := by omega
              have dd : y3.cell? ⟨eb, i, none⟩ = _ := H5.out.2.2.2.blk.at i (eight_get _ hi8)
              have fz := H5.out.2.2.2.blk.fz
              have HN : Hid (Kept w (y3.setCell ⟨eb, i, none⟩ (.complex .f64 (un (R k 0)).re (un (R k 0)).im)) ∧ Blk (y3.setCell ⟨eb, i, none⟩ (.complex .f64 (un (R k 0)).re (un (R k 0)).im)) sb [.bool true, .slice (some ⟨rb, ro, none⟩) 1 sfc] ∧ Ws (y3.setCell ⟨eb, i, none⟩ (.complex .f64 (un (R k 0)).re (un (R k 0)).im)) w.heap.size u19 (8 + a * 8) f ∧ Own (y3.setCell ⟨eb, i, none⟩ (.complex .f64 (un (R k 0)).re (un (R k 0)).im)) eb 65 (eight (fun q => if q < (i + 1) then un (R k 0) else cz))) := by
                have hs := HEB.out.1
                refine ⟨H5.out.1.setCell HEB.out.2.1 _, H5.out.2.1.set_other (by simp; omega) _, H5.out.2.2.1.muts ((Mut.refl [eb] _).setCell (by simp) _) (fun b hb => by have := HEB.out.2.2.1; rw [hb] at this; simpa using this), H5.out.2.2.2.put hi8 (un (R k 0)) fun j hj => ?_⟩
                by_cases e1 : j = i
                · have e2 : j < i + 1 := by omega
                  rw [if_pos e1, if_pos e2]
                · have e2 : (j < i + 1) ↔ (j < i) := by omega
                  simp only [if_neg e1, e2]
              clear H5 s1 rf
              go_wp2
              go_roundg (8 - (i + 1))
              all_goals (have := HM4.out; try omega)
              exact ⟨i + 1, by go_num, by omega, by omega, HN⟩
            · obtain rfl : i = 8 := by omega
              have H6 : Hid (Kept w wr ∧ Blk wr sb [.bool true, .slice sxx 1 sfc] ∧ Ws wr w.heap.size u19 (8 + a * 8) f ∧ Own wr eb 65 (eight (fun _ => un (R k 0)))) := H5
              clear H5 HM4
              go_upto_region 42 with fail
              refine wp_region_mix [undef, undef, undef, undef, undef, undef, undef, undef, undef] [(19, 8), (147, 0), (148, 1), (149, 2), (150, 3), (151, 4), (152, 5), (153, 6), (154, 7)] (fun d vals u => MJ (fun q1 => match q1 with | 0 => some (u19) | 1 => some (.slice (some ⟨xb, xo, none⟩) l c) | 2 => some (.int .i64 a) | 3 => some (.int .i64 (1 + (a : Int))) | 4 => some (.pointer (some ⟨xb, xo + (1 + a), none⟩)) | 5 => some (.int .i64 (L (1 + a))) | 6 => some (.agg #[.complex .f64 ((fun _ => un (R k 0)) 0).re ((fun _ => un (R k 0)) 0).im, .complex .f64 ((fun _ => un (R k 0)) 1).re ((fun _ => un (R k 0)) 1).im, .complex .f64 ((fun _ => un (R k 0)) 2).re ((fun _ => un (R k 0)) 2).im, .complex .f64 ((fun _ => un (R k 0)) 3).re ((fun _ => un (R k 0)) 3).im, .complex .f64 ((fun _ => un (R k 0)) 4).re ((fun _ => un (R k 0)) 4).im, .complex .f64 ((fun _ => un (R k 0)) 5).re ((fun _ => un (R k 0)) 5).im, .complex .f64 ((fun _ => un (R k 0)) 6).re ((fun _ => un (R k 0)) 6).im, .complex .f64 ((fun _ => un (R k 0)) 7).re ((fun _ => un (R k 0)) 7).im]) | _ => none) 7 8 (fun u => Kept w u ∧ Blk u sb [.bool true, .slice sxx 1 sfc] ∧ Own u eb 65 (eight (fun _ => un (R k 0))) ∧ Ws u w.heap.size u19 (8 + a * 8) f) (fun v u => Kept w u ∧ Blk u sb [.bool true, .slice sxx 1 sfc] ∧ Own u eb 65 (eight (fun _ => un (R k 0))) ∧ Ws u w.heap.size v (8 + a * 8 + 8) f ∧ v.ownBlock ≠ some sb) d vals u) (by kernel_rfl) (by kernel_rfl) (by kernel_rfl) (by kernel_rfl) rfl ?_ ?_ ?_
              · exact ⟨fun _ _ _ h => absurd h (by simp), fun _ => ⟨H6.out.1.drew, H6.out.2.1.kept (Kept.refl _).drew, H6.out.2.2.2.kept (Kept.refl _).drew, H6.out.2.2.1.kept (Kept.refl _).drew⟩, fun h => absurd h (by simp), fun h => absurd h (by simp)⟩
              · intro i1 o ho a1 d vals u hv0 hh hj hi hd
                have hv : vals.length = 9 := hv0
                have hKR : Kept w u ∧ Blk u sb [.bool true, .slice sxx 1 sfc] ∧ Own u eb 65 (eight (fun _ => un (R k 0))) := by
                  cases hq : d 7
                  · exact ⟨(hj.bf hq).1, (hj.bf hq).2.1, (hj.bf hq).2.2.1⟩
                  · exact ⟨(hj.af hq).1, (hj.af hq).2.1, (hj.af hq).2.2.1⟩
                match i1, ho, hi, hd with
                | 0, ho, hi, hd =>
                  simp only [List.getElem?_cons_zero, Option.some.injEq] at ho
                  subst ho
                  have g19 : a1.tmps[19]? = some (u19) := (hh.rest 19 fun i o hio hdst => by
                    have e9 : i = 8 := slots_inj (of_decide_eq_true (by kernel_rfl)) hio (j := 8) rfl hdst rfl
                    subst e9
                    cases hq : d 8
                    · rfl
                    · exact absurd (hj.la hq).2.2 (by simp [hi])).trans rfl
                  have HN : Hid (MJ (fun q1 => match q1 with | 0 => some (u19) | 1 => some (.slice (some ⟨xb, xo, none⟩) l c) | 2 => some (.int .i64 a) | 3 => some (.int .i64 (1 + (a : Int))) | 4 => some (.pointer (some ⟨xb, xo + (1 + a), none⟩)) | 5 => some (.int .i64 (L (1 + a))) | 6 => some (.agg #[.complex .f64 ((fun _ => un (R k 0)) 0).re ((fun _ => un (R k 0)) 0).im, .complex .f64 ((fun _ => un (R k 0)) 1).re ((fun _ => un (R k 0)) 1).im, .complex .f64 ((fun _ => un (R k 0)) 2).re ((fun _ => un (R k 0)) 2).im, .complex .f64 ((fun _ => un (R k 0)) 3).re ((fun _ => un (R k 0)) 3).im, .complex .f64 ((fun _ => un (R k 0)) 4).re ((fun _ => un (R k 0)) 4).im, .complex .f64 ((fun _ => un (R k 0)) 5).re ((fun _ => un (R k 0)) 5).im, .complex .f64 ((fun _ => un (R k 0)) 6).re ((fun _ => un (R k 0)) 6).im, .complex .f64 ((fun _ => un (R k 0)) 7).re ((fun _ => un (R k 0)) 7).im]) | _ => none) 7 8 (fun u => Kept w u ∧ Blk u sb [.bool true, .slice sxx 1 sfc] ∧ Own u eb 65 (eight (fun _ => un (R k 0))) ∧ Ws u w.heap.size u19 (8 + a * 8) f) (fun v u => Kept w u ∧ Blk u sb [.bool true, .slice sxx 1 sfc] ∧ Own u eb 65 (eight (fun _ => un (R k 0))) ∧ Ws u w.heap.size v (8 + a * 8 + 8) f ∧ v.ownBlock ≠ some sb) (done d 0) (vals.set 0 (u19)) u) := hj.plain 0 _ (by omega) (by decide) (by decide) rfl
                  clear hh hd hj hi hKR
                  refine wpOp_step rfl (fun K hK => ?_)
                  go_simp
                  exact hK _ _ ⟨_, by simp [Act.put], HN.out⟩
                | 1, ho, hi, hd =>
                  simp only [List.getElem?_cons_succ, List.getElem?_cons_zero, Option.some.injEq] at ho
                  subst ho
                  have g3 : a1.tmps[3]? = some (.slice (some ⟨xb, xo, none⟩) l c) := hh.old 3 (by kernel_rfl) rfl
                  have HN : Hid (MJ (fun q1 => match q1 with | 0 => some (u19) | 1 => some (.slice (some ⟨xb, xo, none⟩) l c) | 2 => some (.int .i64 a) | 3 => some (.int .i64 (1 + (a : Int))) | 4 => some (.pointer (some ⟨xb, xo + (1 + a), none⟩)) | 5 => some (.int .i64 (L (1 + a))) | 6 => some (.agg #[.complex .f64 ((fun _ => un (R k 0)) 0).re ((fun _ => un (R k 0)) 0).im, .complex .f64 ((fun _ => un (R k 0)) 1).re ((fun _ => un (R k 0)) 1).im, .complex .f64 ((fun _ => un (R k 0)) 2).re ((fun _ => un (R k 0)) 2).im, .complex .f64 ((fun _ => un (R k 0)) 3).re ((fun _ => un (R k 0)) 3).im, .complex .f64 ((fun _ => un (R k 0)) 4).re ((fun _ => un (R k 0)) 4).im, .complex .f64 ((fun _ => un (R k 0)) 5).re ((fun _ => un (R k 0)) 5).im, .complex .f64 ((fun _ => un (R k 0)) 6).re ((fun _ => un (R k 0)) 6).im, .complex .f64 ((fun _ => un (R k 0)) 7).re ((fun _ => un (R k 0)) 7).im]) | _ => none) 7 8 (fun u => Kept w u ∧ Blk u sb [.bool true, .slice sxx 1 sfc] ∧ Own u eb 65 (eight (fun _ => un (R k 0))) ∧ Ws u w.heap.size u19 (8 + a * 8) f) (fun v u => Kept w u ∧ Blk u sb [.bool true, .slice sxx 1 sfc] ∧ Own u eb 65 (eight (fun _ => un (R k 0))) ∧ Ws u w.heap.size v (8 + a * 8 + 8) f ∧ v.ownBlock ≠ some sb) (done d 1) (vals.set 1 (.slice (some ⟨xb, xo, none⟩) l c)) u) := hj.plain 1 _ (by omega) (by decide) (by decide) rfl
                  clear hh hd hj hi hKR
                  refine wpOp_step rfl (fun K hK => ?_)
                  go_simp
                  exact hK _ _ ⟨_, by simp [Act.put], HN.out⟩
                | 2, ho, hi, hd =>
                  simp only [List.getElem?_cons_succ, List.getElem?_cons_zero, Option.some.injEq] at ho
                  subst ho
                  have g20 : a1.tmps[20]? = some (.int .i64 a) := hh.old 20 (by kernel_rfl) rfl
                  have HN : Hid (MJ (fun q1 => match q1 with | 0 => some (u19) | 1 => some (.slice (some ⟨xb, xo, none⟩) l c) | 2 => some (.int .i64 a) | 3 => some (.int .i64 (1 + (a : Int))) | 4 => some (.pointer (some ⟨xb, xo + (1 + a), none⟩)) | 5 => some (.int .i64 (L (1 + a))) | 6 => some (.agg #[.complex .f64 ((fun _ => un (R k 0)) 0).re ((fun _ => un (R k 0)) 0).im, .complex .f64 ((fun _ => un (R k 0)) 1).re ((fun _ => un (R k 0)) 1).im, .complex .f64 ((fun _ => un (R k 0)) 2).re ((fun _ => un (R k 0)) 2).im, .complex .f64 ((fun _ => un (R k 0)) 3).re ((fun _ => un (R k 0)) 3).im, .complex .f64 ((fun _ => un (R k 0)) 4).re ((fun _ => un (R k 0)) 4).im, .complex .f64 ((fun _ => un (R k 0)) 5).re ((fun _ => un (R k 0)) 5).im, .complex .f64 ((fun _ => un (R k 0)) 6).re ((fun _ => un (R k 0)) 6).im, .complex .f64 ((fun _ => un (R k 0)) 7).re ((fun _ => un (R k 0)) 7).im]) | _ => none) 7 8 (fun u => Kept w u ∧ Blk u sb [.bool true, .slice sxx 1 sfc] ∧ Own u eb 65 (eight (fun _ => un (R k 0))) ∧ Ws u w.heap.size u19 (8 + a * 8) f) (fun v u => Kept w u ∧ Blk u sb [.bool true, .slice sxx 1 sfc] ∧ Own u eb 65 (eight (fun _ => un (R k 0))) ∧ Ws u w.heap.size v (8 + a * 8 + 8) f ∧ v.ownBlock ≠ some sb) (done d 2) (vals.set 2 (.int .i64 a)) u) := hj.plain 2 _ (by omega) (by decide) (by decide) rfl
                  clear hh hd hj hi hKR
                  refine wpOp_step rfl (fun K hK => ?_)
                  go_simp
                  exact hK _ _ ⟨_, by simp [Act.put], HN.out⟩
                | 3, ho, hi, hd =>
                  simp only [List.getElem?_cons_succ, List.getElem?_cons_zero, Option.some.injEq] at ho
                  subst ho
                  have g149 : a1.tmps[149]? = some (.int .i64 a) := (hh.did 2 _ 149 rfl rfl (hd { on := 2, ground := .data } (by simp) rfl)).trans (congrArg some (hj.kn 2 _ rfl (hd { on := 2, ground := .data } (by simp) rfl)))
                  have ewr : IntKind.i64.wrap (1 + (a : Int)) = 1 + (a : Int) := by rw [IntKind.wrap_i64]; omega
                  have HN : Hid (MJ (fun q1 => match q1 with | 0 => some (u19) | 1 => some (.slice (some ⟨xb, xo, none⟩) l c) | 2 => some (.int .i64 a) | 3 => some (.int .i64 (1 + (a : Int))) | 4 => some (.pointer (some ⟨xb, xo + (1 + a), none⟩)) | 5 => some (.int .i64 (L (1 + a))) | 6 => some (.agg #[.complex .f64 ((fun _ => un (R k 0)) 0).re ((fun _ => un (R k 0)) 0).im, .complex .f64 ((fun _ => un (R k 0)) 1).re ((fun _ => un (R k 0)) 1).im, .complex .f64 ((fun _ => un (R k 0)) 2).re ((fun _ => un (R k 0)) 2).im, .complex .f64 ((fun _ => un (R k 0)) 3).re ((fun _ => un (R k 0)) 3).im, .complex .f64 ((fun _ => un (R k 0)) 4).re ((fun _ => un (R k 0)) 4).im, .complex .f64 ((fun _ => un (R k 0)) 5).re ((fun _ => un (R k 0)) 5).im, .complex .f64 ((fun _ => un (R k 0)) 6).re ((fun _ => un (R k 0)) 6).im, .complex .f64 ((fun _ => un (R k 0)) 7).re ((fun _ => un (R k 0)) 7).im]) | _ => none) 7 8 (fun u => Kept w u ∧ Blk u sb [.bool true, .slice sxx 1 sfc] ∧ Own u eb 65 (eight (fun _ => un (R k 0))) ∧ Ws u w.heap.size u19 (8 + a * 8) f) (fun v u => Kept w u ∧ Blk u sb [.bool true, .slice sxx 1 sfc] ∧ Own u eb 65 (eight (fun _ => un (R k 0))) ∧ Ws u w.heap.size v (8 + a * 8 + 8) f ∧ v.ownBlock ≠ some sb) (done d 3) (vals.set 3 (.int .i64 (1 + (a : Int)))) u) := hj.plain 3 _ (by omega) (by decide) (by decide) rfl
                  clear hh hd hj hi hKR
                  refine wpOp_step rfl (fun K hK => ?_)
                  go_simp
                  exact hK _ _ ⟨_, by simp [Act.put], HN.out⟩
                | 4, ho, hi, hd =>
                  simp only [List.getElem?_cons_succ, List.getElem?_cons_zero, Option.some.injEq] at ho
                  subst ho
                  have g148 : a1.tmps[148]? = some (.slice (some ⟨xb, xo, none⟩) l c) := (hh.did 1 _ 148 rfl rfl (hd { on := 1, ground := .data } (by simp) rfl)).trans (congrArg some (hj.kn 1 _ rfl (hd { on := 1, ground := .data } (by simp) rfl)))
                  have g150 : a1.tmps[150]? = some (.int .i64 (1 + (a : Int))) := (hh.did 3 _ 150 rfl rfl (hd { on := 3, ground := .data } (by simp) rfl)).trans (congrArg some (hj.kn 3 _ rfl (hd { on := 3, ground := .data } (by simp) rfl)))
                  have hal : 1 + a < l := by omega
                  have hal2 : 1 + (a : Int) < (l : Int) := by omega
                  have et : (1 + (a : Int)).toNat = 1 + a := by omega
                  have HN : Hid (MJ (fun q1 => match q1 with | 0 => some (u19) | 1 => some (.slice (some ⟨xb, xo, none⟩) l c) | 2 => some (.int .i64 a) | 3 => some (.int .i64 (1 + (a : Int))) | 4 => some (.pointer (some ⟨xb, xo + (1 + a), none⟩)) | 5 => some (.int .i64 (L (1 + a))) | 6 => some (.agg #[.complex .f64 ((fun _ => un (R k 0)) 0).re ((fun _ => un (R k 0)) 0).im, .complex .f64 ((fun _ => un (R k 0)) 1).re ((fun _ => un (R k 0)) 1).im, .complex .f64 ((fun _ => un (R k 0)) 2).re ((fun _ => un (R k 0)) 2).im, .complex .f64 ((fun _ => un (R k 0)) 3).re ((fun _ => un (R k 0)) 3).im, .complex .f64 ((fun _ => un (R k 0)) 4).re ((fun _ => un (R k 0)) 4).im, .complex .f64 ((fun _ => un (R k 0)) 5).re ((fun _ => un (R k 0)) 5).im, .complex .f64 ((fun _ => un (R k 0)) 6).re ((fun _ => un (R k 0)) 6).im, .complex .f64 ((fun _ => un (R k 0)) 7).re ((fun _ => un (R k 0)) 7).im]) | _ => none) 7 8 (fun u => Kept w u ∧ Blk u sb [.bool true, .slice sxx 1 sfc] ∧ Own u eb 65 (eight (fun _ => un (R k 0))) ∧ Ws u w.heap.size u19 (8 + a * 8) f) (fun v u => Kept w u ∧ Blk u sb [.bool true, .slice sxx 1 sfc] ∧ Own u eb 65 (eight (fun _ => un (R k 0))) ∧ Ws u w.heap.size v (8 + a * 8 + 8) f ∧ v.ownBlock ≠ some sb) (done d 4) (vals.set 4 (.pointer (some ⟨xb, xo + (1 + a), none⟩))) u) := hj.plain 4 _ (by omega) (by decide) (by decide) rfl
                  clear hh hd hj hi hKR
                  refine wpOp_step rfl (fun K hK => ?_)
                  go_simp
                  exact hK _ _ ⟨_, by simp [Act.put], HN.out⟩
                | 5, ho, hi, hd =>
                  simp only [List.getElem?_cons_succ, List.getElem?_cons_zero, Option.some.injEq] at ho
                  subst ho
                  have g151 : a1.tmps[151]? = some (.pointer (some ⟨xb, xo + (1 + a), none⟩)) := (hh.did 4 _ 151 rfl rfl (hd { on := 4, ground := .data } (by simp) rfl)).trans (congrArg some (hj.kn 4 _ rfl (hd { on := 4, ground := .data } (by simp) rfl)))
                  have bc : u.cell? ⟨xb, xo + (1 + a), none⟩ = some (.int .i64 (L (1 + a))) := (hKR.1.cell HX.out.1).trans (HX.out.2 (1 + a) (by omega))
                  have HN : Hid (MJ (fun q1 => match q1 with | 0 => some (u19) | 1 => some (.slice (some ⟨xb, xo, none⟩) l c) | 2 => some (.int .i64 a) | 3 => some (.int .i64 (1 + (a : Int))) | 4 => some (.pointer (some ⟨xb, xo + (1 + a), none⟩)) | 5 => some (.int .i64 (L (1 + a))) | 6 => some (.agg #[.complex .f64 ((fun _ => un (R k 0)) 0).re ((fun _ => un (R k 0)) 0).im, .complex .f64 ((fun _ => un (R k 0)) 1).re ((fun _ => un (R k 0)) 1).im, .complex .f64 ((fun _ => un (R k 0)) 2).re ((fun _ => un (R k 0)) 2).im, .complex .f64 ((fun _ => un (R k 0)) 3).re ((fun _ => un (R k 0)) 3).im, .complex .f64 ((fun _ => un (R k 0)) 4).re ((fun _ => un (R k 0)) 4).im, .complex .f64 ((fun _ => un (R k 0)) 5).re ((fun _ => un (R k 0)) 5).im, .complex .f64 ((fun _ => un (R k 0)) 6).re ((fun _ => un (R k 0)) 6).im, .complex .f64 ((fun _ => un (R k 0)) 7).re ((fun _ => un (R k 0)) 7).im]) | _ => none) 7 8 (fun u => Kept w u ∧ Blk u sb [.bool true, .slice sxx 1 sfc] ∧ Own u eb 65 (eight (fun _ => un (R k 0))) ∧ Ws u w.heap.size u19 (8 + a * 8) f) (fun v u => Kept w u ∧ Blk u sb [.bool true, .slice sxx 1 sfc] ∧ Own u eb 65 (eight (fun _ => un (R k 0))) ∧ Ws u w.heap.size v (8 + a * 8 + 8) f ∧ v.ownBlock ≠ some sb) (done d 5) (vals.set 5 (.int .i64 (L (1 + a)))) u) := hj.plain 5 _ (by omega) (by decide) (by decide) rfl
                  clear hh hd hj hi hKR
                  refine wpOp_step rfl (fun K hK => ?_)
                  go_simp
                  exact hK _ _ ⟨_, by simp [Act.put], HN.out⟩
                | 6, ho, hi, hd =>
                  simp only [List.getElem?_cons_succ, List.getElem?_cons_zero, Option.some.injEq] at ho
                  subst ho
                  have g21 : a1.tmps[21]? = some (.pointer (some ⟨eb, 0, none⟩)) := hh.old 21 (by kernel_rfl) rfl
                  have x0 := hKR.2.2.blk.at 0 rfl
                  have x1 := hKR.2.2.blk.at 1 rfl
                  have x2 := hKR.2.2.blk.at 2 rfl
                  have x3 := hKR.2.2.blk.at 3 rfl
                  have x4 := hKR.2.2.blk.at 4 rfl
                  have x5 := hKR.2.2.blk.at 5 rfl
                  have x6 := hKR.2.2.blk.at 6 rfl
                  have x7 := hKR.2.2.blk.at 7 rfl
                  have HN : Hid (MJ (fun q1 => match q1 with | 0 => some (u19) | 1 => some (.slice (some ⟨xb, xo, none⟩) l c) | 2 => some (.int .i64 a) | 3 => some (.int .i64 (1 + (a : Int))) | 4 => some (.pointer (some ⟨xb, xo + (1 + a), none⟩)) | 5 => some (.int .i64 (L (1 + a))) | 6 => some (.agg #[.complex .f64 ((fun _ => un (R k 0)) 0).re ((fun _ => un (R k 0)) 0).im, .complex .f64 ((fun _ => un (R k 0)) 1).re ((fun _ => un (R k 0)) 1).im, .complex .f64 ((fun _ => un (R k 0)) 2).re ((fun _ => un (R k 0)) 2).im, .complex .f64 ((fun _ => un (R k 0)) 3).re ((fun _ => un (R k 0)) 3).im, .complex .f64 ((fun _ => un (R k 0)) 4).re ((fun _ => un (R k 0)) 4).im, .complex .f64 ((fun _ => un (R k 0)) 5).re ((fun _ => un (R k 0)) 5).im, .complex .f64 ((fun _ => un (R k 0)) 6).re ((fun _ => un (R k 0)) 6).im, .complex .f64 ((fun _ => un (R k 0)) 7).re ((fun _ => un (R k 0)) 7).im]) | _ => none) 7 8 (fun u => Kept w u ∧ Blk u sb [.bool true, .slice sxx 1 sfc] ∧ Own u eb 65 (eight (fun _ => un (R k 0))) ∧ Ws u w.heap.size u19 (8 + a * 8) f) (fun v u => Kept w u ∧ Blk u sb [.bool true, .slice sxx 1 sfc] ∧ Own u eb 65 (eight (fun _ => un (R k 0))) ∧ Ws u w.heap.size v (8 + a * 8 + 8) f ∧ v.ownBlock ≠ some sb) (done d 6) (vals.set 6 (.agg #[.complex .f64 ((fun _ => un (R k 0)) 0).re ((fun _ => un (R k 0)) 0).im, .complex .f64 ((fun _ => un (R k 0)) 1).re ((fun _ => un (R k 0)) 1).im, .complex .f64 ((fun _ => un (R k 0)) 2).re ((fun _ => un (R k 0)) 2).im, .complex .f64 ((fun _ => un (R k 0)) 3).re ((fun _ => un (R k 0)) 3).im, .complex .f64 ((fun _ => un (R k 0)) 4).re ((fun _ => un (R k 0)) 4).im, .complex .f64 ((fun _ => un (R k 0)) 5).re ((fun _ => un (R k 0)) 5).im, .complex .f64 ((fun _ => un (R k 0)) 6).re ((fun _ => un (R k 0)) 6).im, .complex .f64 ((fun _ => un (R k 0)) 7).re ((fun _ => un (R k 0)) 7).im])) u) := hj.plain 6 _ (by omega) (by decide) (by decide) rfl
                  clear hh hd hj hi hKR
                  refine wpOp_step rfl (fun K hK => ?_)
                  go_simp
                  exact hK _ _ ⟨_, by simp [Act.put], HN.out⟩
                | 7, ho, hi, hd =>
                  simp only [List.getElem?_cons_succ, List.getElem?_cons_zero, Option.some.injEq] at ho
                  subst ho
                  have g147 : a1.tmps[147]? = some (u19) := (hh.did 0 _ 147 rfl rfl (hd { on := 0, ground := .data } (by simp) rfl)).trans (congrArg some (hj.kn 0 _ rfl (hd { on := 0, ground := .data } (by simp) rfl)))
                  have g152 : a1.tmps[152]? = some (.int .i64 (L (1 + a))) := (hh.did 5 _ 152 rfl rfl (hd { on := 5, ground := .data } (by simp) rfl)).trans (congrArg some (hj.kn 5 _ rfl (hd { on := 5, ground := .data } (by simp) rfl)))
                  have g153 : a1.tmps[153]? = some (.agg #[.complex .f64 ((fun _ => un (R k 0)) 0).re ((fun _ => un (R k 0)) 0).im, .complex .f64 ((fun _ => un (R k 0)) 1).re ((fun _ => un (R k 0)) 1).im, .complex .f64 ((fun _ => un (R k 0)) 2).re ((fun _ => un (R k 0)) 2).im, .complex .f64 ((fun _ => un (R k 0)) 3).re ((fun _ => un (R k 0)) 3).im, .complex .f64 ((fun _ => un (R k 0)) 4).re ((fun _ => un (R k 0)) 4).im, .complex .f64 ((fun _ => un (R k 0)) 5).re ((fun _ => un (R k 0)) 5).im, .complex .f64 ((fun _ => un (R k 0)) 6).re ((fun _ => un (R k 0)) 6).im, .complex .f64 ((fun _ => un (R k 0)) 7).re ((fun _ => un (R k 0)) 7).im]) := (hh.did 6 _ 153 rfl rfl (hd { on := 6, ground := .data } (by simp) rfl)).trans (congrArg some (hj.kn 6 _ rfl (hd { on := 6, ground := .data } (by simp) rfl)))
                  have ws := (hj.bf hi).2.2.2
                  have CA := rput_any (F := (fun _ => un (R k 0))) (L (1 + a)) u ws hKR.1.size (by omega) (HLL.out (1 + a) (by omega)) (fun j hj8 => by
                    have e0 : 8 + a * 8 + j < l * 8 := by omega
                    have e1 : (8 + a * 8 + j) / 8 = 1 + a := by omega
                    have e2 : (8 + a * 8 + j) % 8 = j := by omega
                    have e3 : ¬ 1 + a = 0 := by omega
                    rw [HFF.out]
                    simp only [arrF, arrW, e1, e2, if_pos e0, if_neg e3]
                    congr 1
                    omega)
                  have HN : Hid (∀ v' u', Ws u' w.heap.size v' (8 + a * 8 + 8) f → Mut u19.ownBlock.toList u u' → Fresh u u19 v' → MJ (fun q1 => match q1 with | 0 => some (u19) | 1 => some (.slice (some ⟨xb, xo, none⟩) l c) | 2 => some (.int .i64 a) | 3 => some (.int .i64 (1 + (a : Int))) | 4 => some (.pointer (some ⟨xb, xo + (1 + a), none⟩)) | 5 => some (.int .i64 (L (1 + a))) | 6 => some (.agg #[.complex .f64 ((fun _ => un (R k 0)) 0).re ((fun _ => un (R k 0)) 0).im, .complex .f64 ((fun _ => un (R k 0)) 1).re ((fun _ => un (R k 0)) 1).im, .complex .f64 ((fun _ => un (R k 0)) 2).re ((fun _ => un (R k 0)) 2).im, .complex .f64 ((fun _ => un (R k 0)) 3).re ((fun _ => un (R k 0)) 3).im, .complex .f64 ((fun _ => un (R k 0)) 4).re ((fun _ => un (R k 0)) 4).im, .complex .f64 ((fun _ => un (R k 0)) 5).re ((fun _ => un (R k 0)) 5).im, .complex .f64 ((fun _ => un (R k 0)) 6).re ((fun _ => un (R k 0)) 6).im, .complex .f64 ((fun _ => un (R k 0)) 7).re ((fun _ => un (R k 0)) 7).im]) | _ => none) 7 8 (fun u => Kept w u ∧ Blk u sb [.bool true, .slice sxx 1 sfc] ∧ Own u eb 65 (eight (fun _ => un (R k 0))) ∧ Ws u w.heap.size u19 (8 + a * 8) f) (fun v u => Kept w u ∧ Blk u sb [.bool true, .slice sxx 1 sfc] ∧ Own u eb 65 (eight (fun _ => un (R k 0))) ∧ Ws u w.heap.size v (8 + a * 8 + 8) f ∧ v.ownBlock ≠ some sb) (done d 7) (vals.set 7 v') u') := fun v' u' q1 q2 q3 => hj.call (by omega) (by decide) hi rfl ⟨hKR.1.muts q2 (fun b hb => (ws.lt b (by simpa using hb)).1), hKR.2.1.muts q2 (by have := HEB.out.2.2.2; simpa using this), hKR.2.2.muts q2 (by have := HEB.out.2.2.1; simpa using this), q1, q3.not hKR.2.1.lt HEB.out.2.2.2⟩
                  clear ws
                  clear hh hd hj hi hKR
                  refine wpOp_step rfl (fun K hK => ?_)
                  go_simp
                  refine CA.mono ?_
                  rintro e u' ⟨v', rfl, q1, q2, q3⟩
                  exact hK _ _ ⟨v', by simp [Act.put], HN.out v' u' q1 q2 q3⟩
                | 8, ho, hi, hd =>
                  simp only [List.getElem?_cons_succ, List.getElem?_cons_zero, Option.some.injEq] at ho
                  subst ho
                  have g154 : a1.tmps[154]? = some (vals.getD 7 undef) := hh.did 7 _ 154 rfl rfl (hd { on := 7, ground := .data } (by simp) rfl)
                  have HN0 := hj.last (by omega) (by decide) (hd { on := 7, ground := .data } (by simp) rfl) (hd { on := 0, ground := .phase } (by simp) rfl) rfl
                  obtain ⟨y, hy⟩ : ∃ y, vals.getD 7 undef = y := ⟨_, rfl⟩
                  rw [hy] at HN0 g154
                  have HN : Hid (MJ (fun q1 => match q1 with | 0 => some (u19) | 1 => some (.slice (some ⟨xb, xo, none⟩) l c) | 2 => some (.int .i64 a) | 3 => some (.int .i64 (1 + (a : Int))) | 4 => some (.pointer (some ⟨xb, xo + (1 + a), none⟩)) | 5 => some (.int .i64 (L (1 + a))) | 6 => some (.agg #[.complex .f64 ((fun _ => un (R k 0)) 0).re ((fun _ => un (R k 0)) 0).im, .complex .f64 ((fun _ => un (R k 0)) 1).re ((fun _ => un (R k 0)) 1).im, .complex .f64 ((fun _ => un (R k 0)) 2).re ((fun _ => un (R k 0)) 2).im, .complex .f64 ((fun _ => un (R k 0)) 3).re ((fun _ => un (R k 0)) 3).im, .complex .f64 ((fun _ => un (R k 0)) 4).re ((fun _ => un (R k 0)) 4).im, .complex .f64 ((fun _ => un (R k 0)) 5).re ((fun _ => un (R k 0)) 5).im, .complex .f64 ((fun _ => un (R k 0)) 6).re ((fun _ => un (R k 0)) 6).im, .complex .f64 ((fun _ => un (R k 0)) 7).re ((fun _ => un (R k 0)) 7).im]) | _ => none) 7 8 (fun u => Kept w u ∧ Blk u sb [.bool true, .slice sxx 1 sfc] ∧ Own u eb 65 (eight (fun _ => un (R k 0))) ∧ Ws u w.heap.size u19 (8 + a * 8) f) (fun v u => Kept w u ∧ Blk u sb [.bool true, .slice sxx 1 sfc] ∧ Own u eb 65 (eight (fun _ => un (R k 0))) ∧ Ws u w.heap.size v (8 + a * 8 + 8) f ∧ v.ownBlock ≠ some sb) (done d 8) (vals.set 8 y) u) := HN0
                  clear hh hd hj hi hKR HN0 hy
                  refine wpOp_step rfl (fun K hK => ?_)
                  go_simp
                  exact hK _ _ ⟨y, by simp [Act.put], HN.out⟩
                | n + 9, ho, _, _ => simp at ho
              · intro u d vals hv hall hj
                have h9 := hj.af (hall 7 (by decide))
                have h10 := (hj.la (hall 8 (by decide))).2.1
                clear hall hj
                match vals, hv, h9, h10 with
                | [y0, y1, y2, y3, y4, y5, y6, y7, y8], _, h9, h10 =>
                  simp only [List.getD_cons_succ, List.getD_cons_zero] at h9 h10
                  subst h10
                  have HE : Hid (Kept w u ∧ Blk u sb [.bool true, .slice sxx 1 sfc] ∧ Ws u w.heap.size y8 (8 + (a + 1) * 8) f ∧ y8.ownBlock ≠ some sb) := ⟨h9.1, h9.2.1, by rw [show 8 + (a + 1) * 8 = 8 + a * 8 + 8 by omega]; exact h9.2.2.2.1, h9.2.2.2.2⟩
                  clear h9 H6
                  refine norm_list' (L' := [_, _, _, _, _, _, _, _, _, _, _, _, _, _, _, _, _, _, _, _, _, _, _, _, _, _, _, _, _, _, _, _, _, _, _, _, _, _, _, _, _, _, _, _, _, _, _, _, _, _, _, _, _, _, _, _, _, _, _, _, _, _, _, _, _, _, _, _, _, _, _, _, _, _, _, _, _, _, _, _, _, _, _, _, _, _, _, _, _, _, _, _, _, _, _, _, _, _, _, _, _, _, _, _, _, _, _, _, _, _, _, _, _, _, _, _, _, _, _, _, _, _, _, _, _, _, _, _, _, _, _, _, _, _, _, _, _, _, _, _, _, _, _, _, _, _, _, _, _, _, _, _, _, _, _, _, _, _, _, _, _, _, _, _, _, _, _, _, _, _, _, _, _, _, _, _, _, _, _, _, _, _, _, _, _, _, _, _, _, _, _]) rfl ?_
                  simp only [List.getD_cons_succ, List.getD_cons_zero]
                  go_wp2
                  go_roundg (l - 1 - (a + 1))
                  all_goals (have := HM3.out; try omega)
                  exact ⟨a + 1, by go_num, by omega, by omega, HE⟩
        · obtain rfl : a = l - 1 := by omega
          have hk3 : ¬ (((l - 1 : Nat) : Int)) < (l : Int) - 1 := by omega
          have b0 : wr.cell? ⟨xb, xo, none⟩ = some (.int .i64 (L 0)) := (H3.out.1.cell HX.out.1).trans (HX.out.2 0 (by omega))
          have pl := HLL.out 0 (by omega)
          have CR0 : Hid (∀ w, Calls Try.prog 50 #[.int .i64 (L 0)] w _) := fun w => rref_in (L 0) w pl.1 pl.2
          have CWd : Hid (∀ w, Calls Try.prog 62 #[.int .i64 ((l : Int) - 1)] w _) := fun w => rwhole_in ((l : Int) - 1) w (by omega) (by omega)
          have h0l : 0 < l := by omega
          have HWs : Hid (Ws wr w.heap.size u19 (l * 8) f) := (by rw [show l * 8 = 8 + (l - 1) * 8 by omega]; exact H3.out.2.2.1 : Ws wr w.heap.size u19 (l * 8) f)
          have HF1 : Hid (f (l * 8) = ⟨at', floatOfInt .f64 (L 0 + 1), 4607182418800017408⟩) := (by rw [HFF.out]; unfold arrF; rw [if_neg (by omega), Nat.sub_self]; simp [spW, cr] : f (l * 8) = ⟨at', floatOfInt .f64 (L 0 + 1), 4607182418800017408⟩)
          have HF2 : Hid (f (l * 8 + 1) = ⟨at' + 1, floatOfInt .f64 ((l : Int) - 1), 0⟩) := (by rw [HFF.out]; unfold arrF; rw [if_neg (by omega), Nat.add_sub_cancel_left]; simp [spW, cw] : f (l * 8 + 1) = ⟨at' + 1, floatOfInt .f64 ((l : Int) - 1), 0⟩)
          have HF3 : Hid (∀ b, b < l - 1 → f (l * 8 + 2 + b) = ⟨at' + 2 + b, floatOfInt .f64 (L (1 + b) + 1), 4607182418800017408⟩) := fun b hb => by
            rw [HFF.out]
            unfold arrF
            rw [if_neg (by omega), show l * 8 + 2 + b - l * 8 = 2 + b by omega]
            have e1 : ¬ 2 + b = 0 := by omega
            have e2 : ¬ 2 + b = 1 := by omega
            simp only [spW, if_neg e1, if_neg e2, cr, show 2 + b - 1 = 1 + b by omega]
            congr 1
            omega
          have HK3 : Hid (Kept w wr ∧ u19.ownBlock ≠ some sb) := ⟨H3.out.1, H3.out.2.2.2⟩
          have z1 : w.heap.size ≤ wr.heap.size := H3.out.1.size
          have z2 : l * 8 ≤ 100000 := by omega
          clear H3 HM3
          go_wp2_with fail
          refine (CR0.out _).mono ?_
          rintro e y4 ⟨rfl, rfl⟩
          go_wp2_with fail
          refine (CWd.out _).mono ?_
          rintro e y5 ⟨rfl, rfl⟩
          go_wp2_with (at_builtin; refine wpList_push2 rfl _ _ rfl rfl HWs.out z1 z2 rfl HF1.out HF2.out ?_)
          intro v6 w6 h6 m6 f6
          have H7 : Hid (Kept w w6 ∧ Ws w6 w.heap.size v6 (l * 8 + 2 + 0) f) := ⟨HK3.out.1.muts m6 (fun b hb => (HWs.out.lt b (by simpa using hb)).1), h6⟩
          clear h6 m6 f6 HWs b0 z1
          go_wp2_with fail
          go_loopg [19, 23] (l - 1) (fun mm v j wr => ∃ b : Nat, j = .int .i64 b ∧ b ≤ l - 1 ∧ mm = l - 1 - b ∧ Hid (Kept w wr ∧ Ws wr w.heap.size v (l * 8 + 2 + b) f))
          case atStart => exact ⟨0, rfl, by omega, by omega, H7⟩
          case round =>
            obtain ⟨b, rfl, hb0, hmm5, H8⟩ := hrel
            have HM5 : Hid _ := hmm5
            clear hmm5 H7
            by_cases hlt5 : b < l - 1
            · have hk5 : (b : Int) < (l : Int) - 1 := by omega
              have b1 : wr.cell? ⟨xb, xo + (1 + b), none⟩ = some (.int .i64 (L (1 + b))) := (H8.out.1.cell HX.out.1).trans (HX.out.2 (1 + b) (by omega))
              have pl2 := HLL.out (1 + b) (by omega)
              have hf5 := HF3.out b hlt5
              have CR1 : Hid (∀ w, Calls Try.prog 50 #[.int .i64 (L (1 + b))] w _) := fun w => rref_in (L (1 + b)) w pl2.1 pl2.2
              have hal : 1 + (b : Int) < (l : Int) := by omega
              have hal2 : 1 + b < l := by omega
              generalize L (1 + b) = q at *
              have HF5 : Hid (f (l * 8 + 2 + b) = ⟨at' + 2 + b, floatOfInt .f64 (q + 1), 4607182418800017408⟩) := hf5
              clear hf5
              go_wp2_with fail
              refine (CR1.out _).mono ?_
              rintro e y6 ⟨rfl, rfl⟩
              have hL8 : Hid (Ws _ _ _ _ _) := H8.out.2
              have z3 : w.heap.size ≤ y6.heap.size := H8.out.1.size
              have z4 : l * 8 + 2 + b ≤ 100000 := by omega
              go_wp2_with (at_builtin; refine wpList_push rfl _ _ rfl rfl hL8.out z3 z4 rfl HF5.out ?_)
              intro v8 w8 h8 m8 f8
              have HN : Hid (Kept w w8 ∧ Ws w8 w.heap.size v8 (l * 8 + 2 + (b + 1)) f) := ⟨H8.out.1.muts m8 (fun c hc => (H8.out.2.lt c (by simpa using hc)).1), h8⟩
              clear h8 m8 f8 hL8 H8 b1
              go_wp2
              go_roundg (l - 1 - (b + 1))
              all_goals (have := HM5.out; try omega)
              exact ⟨b + 1, by go_num, by omega, by omega, HN⟩
            · obtain rfl : b = l - 1 := by omega
              have hk5 : ¬ (((l - 1 : Nat) : Int)) < (l : Int) - 1 := by omega
              go_wp2
              go_ret2
              exact ⟨⟨_, rfl, by rw [← HFF.out, show 8 * l + (l + 1) = l * 8 + 2 + (l - 1) by omega]; exact H8.out.2⟩, H8.out.1⟩
end Go.Proofs.Ytpdclckgnajcdaa
