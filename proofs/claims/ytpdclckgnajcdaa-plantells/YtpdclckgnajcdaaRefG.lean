/-
  The document's Array (package sporef6): a spine that does not fit.
-/
import Derived.Test.YtpdclckgnajcdaaRefF
namespace Go.Proofs.Ytpdclckgnajcdaa
open Go.RowKit
attribute [local go_sem] run_store_complex

set_option maxRecDepth 20000 in
set_option maxHeartbeats 4000000 in
theorem rarray_bad (n0 n1 n2 n3 n4 n5 n6 n7 : Int) (sx : Option Addr) (sl sc : Nat) (S : Nat → Sh) (k : Nat) (n : Int) {x : Option Addr} {l c : Nat} {L : Nat → Int} (at' : Int) (w : World) (hS : Shps w sx sl S)
    (hc : l ≤ c) (hx : Rdf w x l L) (hr : Asks (AG n0 n1 n2 n3 n4 n5 n6 n7 sl S L l) (AK sl S k true) (AI S k n true) (AF S k n true L l) 0) (hm1 : modeA n L l = 1) (hb : ¬ Fit n0 n1 at' (l + 1)) :
    Calls Try.prog 15 #[.agg #[.int .i64 n0, .int .i64 n1, .int .i64 n2, .int .i64 n3, .int .i64 n4, .int .i64 n5, .int .i64 n6, .int .i64 n7, .slice sx sl sc], .int .i64 k, .int .i64 n, .slice x l c, .int .i64 at'] w fun e w' => e = .returned (.tuple #[.slice none 0 0, .int .i64 2]) ∧ Kept w w' := by
  obtain ⟨hg, hk, hi, hf⟩ := hr.zero
  have hk2 := hk.2.2
  rw [Int.toNat_natCast] at hk2
  have hkn : k < sl := by have := hk.2.1; omega
  have hfl : (S k).l = 1 := (may_len (hg.1.2.2.2 _ hkn)).2 hk2
  have hlz : arrSize n = l := hf.1.symm
  have hn5 : 0 ≤ n ∧ n ≤ 512 := by
    have := hi
    unfold AI at this
    simp only [sizeU, arrSize, if_true] at this
    split at this <;> omega
  have hld : (l : Int) = 1 + dat n := by
    rw [← hlz]
    unfold arrSize
    rw [if_neg (by omega)]
  have hdl := dat_lo n
  have hdh := dat_hi n
  have hl1 : 1 ≤ l := by omega
  have hl65 : l ≤ 65 := by omega
  have hk8 : (k : Int) ≤ 8 := by have := hg.1.2.2.1; omega
  have hL : ∀ j, j < l → 0 ≤ L j ∧ L j ≤ 1024 := fun j hj => by have := hg.2 j hj; have := hg.1.1.1.2; omega
  obtain ⟨xb, xo, rfl, hxb, hxc⟩ := hx (by omega)
  have C0 : Hid (∀ w', Kept w w' → Calls Try.prog 44 #[.agg #[.int .i64 n0, .int .i64 n1, .int .i64 n2, .int .i64 n3, .int .i64 n4, .int .i64 n5, .int .i64 n6, .int .i64 n7, .slice sx sl sc]] w' _) := fun w' k => ref_check n0 n1 n2 n3 n4 n5 n6 n7 sx sl sc S 0 w' (hS.kept k) (Checks.of_ok hg.1.1 hg.1.2)
  have C1 : Hid (∀ w', Kept w w' → Calls Try.prog 45 #[.agg #[.int .i64 n0, .int .i64 n1, .int .i64 n2, .int .i64 n3, .int .i64 n4, .int .i64 n5, .int .i64 n6, .int .i64 n7, .slice sx sl sc], .slice (some ⟨xb, xo, none⟩) l c] w' _) := fun w' k => rwrong_any n0 n1 n2 n3 n4 n5 n6 n7 sx sl sc (c := c) false w' (by omega) (hx.kept k) ⟨fun h => (by cases h), fun h => absurd hg.2 h⟩
  have C2 : Hid (∀ w', Kept w w' → Calls Try.prog 48 #[.slice (some ⟨xb, xo, none⟩) l c] w' _) := fun w' k => rtwice_any (c := c) false w' (by omega) hc (hx.kept k) ⟨fun h => (by cases h), fun h => absurd h hf.2⟩
  have CS : Hid (∀ w', Kept w w' → Calls Try.prog 46 #[.agg #[.int .i64 n0, .int .i64 n1, .int .i64 n2, .int .i64 n3, .int .i64 n4, .int .i64 n5, .int .i64 n6, .int .i64 n7, .slice sx sl sc], .int .i64 k] w' _) := fun w' q => ref_shape_in n0 n1 n2 n3 n4 n5 n6 n7 sx sl sc S k w' hkn (hS.kept q)
  have CSd : Hid (∀ w', Kept w w' → Calls Try.prog 20 #[.slice (some ⟨xb, xo, none⟩) l c] w' _) := fun w' q => rside_any (c := c) w' (by omega) (hx.kept q) (small_i64 hL)
  obtain ⟨sxx, hxe⟩ : ∃ sxx, (S k).x = sxx := ⟨_, rfl⟩
  obtain ⟨sfc, hce⟩ : ∃ sfc, (S k).c = sfc := ⟨_, rfl⟩
  have CZ : Hid (∀ w, Calls Try.prog 47 #[.agg #[.bool true, .slice sxx 1 sfc], .int .i64 n] w fun e w' => e = .returned (.int .i64 l) ∧ Kept w w') := fun w => by rw [← hlz]; exact rsize_arr sxx sfc n w
  have CPn : Hid (∀ w, Calls Try.prog 60 #[.agg #[.bool true, .slice sxx 1 sfc], .int .i64 n] w _) := fun w => rspine_arr sxx sfc n w
  have HFE : Hid ((S k).l = 1 ∧ (S k).arr = true ∧ (S k).x = sxx ∧ (S k).c = sfc) := ⟨hfl, hk2, hxe, hce⟩
  have HX : Hid (xb < w.heap.size ∧ ∀ j, j < l → w.cell? ⟨xb, xo + j, none⟩ = some (.int .i64 (L j))) := ⟨hxb, hxc⟩
  have HLL : Hid (∀ j, j < l → 0 ≤ L j ∧ L j ≤ 1024) := hL
  have ez : ((l : Int) != (l : Int)) = false := by simp
  have hlneg : ¬ (l : Int) < 0 := by omega
  have hsd : sideU L l = false ∧ 4 < dat n := by
    unfold modeA at hm1
    split at hm1
    · cases hm1
    · split at hm1
      · cases hm1
      · exact ⟨by simp_all, by omega⟩
  obtain ⟨wn, hwn⟩ : ∃ wn : Nat, l + 1 = wn := ⟨_, rfl⟩
  have hsp : spineOf n = (wn : Int) := by unfold spineOf; rw [if_neg (by omega)]; omega
  rw [hsp] at CPn
  rw [hsd.1] at CSd
  have hwn0 : (wn : Int) > 0 := by omega
  have hwn1 : wn ≤ 66 := by omega
  have CF : Hid (∀ w', Kept w w' → Calls Try.prog 61 #[.agg #[.int .i64 n0, .int .i64 n1, .int .i64 n2, .int .i64 n3, .int .i64 n4, .int .i64 n5, .int .i64 n6, .int .i64 n7, .slice sx sl sc], .int .i64 at', .int .i64 wn] w' _) := fun w' q => rspot_any n0 n1 n2 n3 n4 n5 n6 n7 sx sl sc S at' wn false w' (hS.kept q) hg.1 (by omega) ⟨fun h => (by cases h), fun h => absurd (by rw [← hwn] at h; simpa using h) hb⟩
  clear hS hr hx hxb hxc hxe hce hL hg hk hk2 hf hi hkn hlz hm1 hb hsd hsp hwn hfl hld hdl hdh
  go_enter Try.func15, Try.ntmps15
  go_wp2_with fail
  generalize hW1 : w.alloc _ = W1
  have HW1 : Hid (Kept w W1 ∧ Blk W1 w.heap.size (cl n0 n1 n2 n3 n4 n5 n6 n7 (.slice sx sl sc))) := by rw [← hW1]; exact ⟨(Kept.refl w).alloc _ _, Blk.new w _ _⟩
  clear hW1
  refine (C0.out _ HW1.out.1).mono ?_
  rintro e u1 ⟨rfl, K⟩
  have HW : Hid (Kept w u1 ∧ Blk u1 w.heap.size (cl n0 n1 n2 n3 n4 n5 n6 n7 (.slice sx sl sc))) := ⟨HW1.out.1.trans K, HW1.out.2.kept K⟩
  clear HW1 K
  have c0 := HW.out.2.at 0 rfl
  have c1 := HW.out.2.at 1 rfl
  have c2 := HW.out.2.at 2 rfl
  have c3 := HW.out.2.at 3 rfl
  have c4 := HW.out.2.at 4 rfl
  have c5 := HW.out.2.at 5 rfl
  have c6 := HW.out.2.at 6 rfl
  have c7 := HW.out.2.at 7 rfl
  have c8 := HW.out.2.at 8 rfl
  go_wp2_with fail
  refine (C1.out _ HW.out.1).mono ?_
  rintro e u2 ⟨rfl, K⟩
  have HW2 : Hid (Kept w u2 ∧ Blk u2 w.heap.size (cl n0 n1 n2 n3 n4 n5 n6 n7 (.slice sx sl sc))) := ⟨HW.out.1.trans K, HW.out.2.kept K⟩
  clear HW K c0 c1 c2 c3 c4 c5 c6 c7 c8
  have c0 := HW2.out.2.at 0 rfl
  have c1 := HW2.out.2.at 1 rfl
  have c2 := HW2.out.2.at 2 rfl
  have c3 := HW2.out.2.at 3 rfl
  have c4 := HW2.out.2.at 4 rfl
  have c5 := HW2.out.2.at 5 rfl
  have c6 := HW2.out.2.at 6 rfl
  have c7 := HW2.out.2.at 7 rfl
  have c8 := HW2.out.2.at 8 rfl
  go_wp2_with fail
  refine (CS.out _ HW2.out.1).mono ?_
  rintro e u3 ⟨rfl, K⟩
  have HW3 : Hid (Kept w u3 ∧ Blk u3 w.heap.size (cl n0 n1 n2 n3 n4 n5 n6 n7 (.slice sx sl sc))) := ⟨HW2.out.1.trans K, HW2.out.2.kept K⟩
  clear HW2 K c0 c1 c2 c3 c4 c5 c6 c7 c8 CS
  rw [HFE.out.1, HFE.out.2.1, HFE.out.2.2.1, HFE.out.2.2.2]
  go_wp2_with fail
  generalize hW3 : u3.alloc _ = W3
  obtain ⟨sb, hse⟩ : ∃ sb, u3.heap.size = sb := ⟨_, rfl⟩
  have HB3 : Hid (Kept w W3 ∧ Blk W3 w.heap.size (cl n0 n1 n2 n3 n4 n5 n6 n7 (.slice sx sl sc)) ∧ Blk W3 sb [.bool true, .slice sxx 1 sfc]) := by rw [← hW3, ← hse]; exact ⟨HW3.out.1.alloc _ _, HW3.out.2.kept ((Kept.refl _).alloc _ _), Blk.new u3 [_, _] _⟩
  rw [hse]
  clear hW3 HW3 hse
  refine (CZ.out _).mono ?_
  rintro e u4 ⟨rfl, K⟩
  have HB4 : Hid (Kept w u4 ∧ Blk u4 w.heap.size (cl n0 n1 n2 n3 n4 n5 n6 n7 (.slice sx sl sc)) ∧ Blk u4 sb [.bool true, .slice sxx 1 sfc]) := ⟨HB3.out.1.trans K, HB3.out.2.1.kept K, HB3.out.2.2.kept K⟩
  clear K HB3
  have s0 := HB4.out.2.2.at 0 rfl
  have s1 := HB4.out.2.2.at 1 rfl
  go_wp2_with fail
  refine (CZ.out _).mono ?_
  rintro e u5 ⟨rfl, K⟩
  have HB5 : Hid (Kept w u5 ∧ Blk u5 w.heap.size (cl n0 n1 n2 n3 n4 n5 n6 n7 (.slice sx sl sc)) ∧ Blk u5 sb [.bool true, .slice sxx 1 sfc]) := ⟨HB4.out.1.trans K, HB4.out.2.1.kept K, HB4.out.2.2.kept K⟩
  clear K CZ HB4 s0 s1
  go_wp2_with fail
  refine (C2.out _ HB5.out.1).mono ?_
  rintro e u6 ⟨rfl, K⟩
  have HB6 : Hid (Kept w u6 ∧ Blk u6 w.heap.size (cl n0 n1 n2 n3 n4 n5 n6 n7 (.slice sx sl sc)) ∧ Blk u6 sb [.bool true, .slice sxx 1 sfc]) := ⟨HB5.out.1.trans K, HB5.out.2.1.kept K, HB5.out.2.2.kept K⟩
  clear K C2 HB5
  have s0 := HB6.out.2.2.at 0 rfl
  have s1 := HB6.out.2.2.at 1 rfl
  go_wp2_with fail
  refine (CPn.out _).mono ?_
  rintro e u7 ⟨rfl, K⟩
  have HB7 : Hid (Kept w u7 ∧ Blk u7 w.heap.size (cl n0 n1 n2 n3 n4 n5 n6 n7 (.slice sx sl sc)) ∧ Blk u7 sb [.bool true, .slice sxx 1 sfc]) := ⟨HB6.out.1.trans K, HB6.out.2.1.kept K, HB6.out.2.2.kept K⟩
  clear K CPn HB6 s0 s1
  go_wp2_with fail
  refine (CSd.out _ HB7.out.1).mono ?_
  rintro e u8 ⟨rfl, K⟩
  have HB8 : Hid (Kept w u8 ∧ Blk u8 w.heap.size (cl n0 n1 n2 n3 n4 n5 n6 n7 (.slice sx sl sc)) ∧ Blk u8 sb [.bool true, .slice sxx 1 sfc]) := ⟨HB7.out.1.trans K, HB7.out.2.1.kept K, HB7.out.2.2.kept K⟩
  clear K CSd HB7
  have c0 := HB8.out.2.1.at 0 rfl
  have c1 := HB8.out.2.1.at 1 rfl
  have c2 := HB8.out.2.1.at 2 rfl
  have c3 := HB8.out.2.1.at 3 rfl
  have c4 := HB8.out.2.1.at 4 rfl
  have c5 := HB8.out.2.1.at 5 rfl
  have c6 := HB8.out.2.1.at 6 rfl
  have c7 := HB8.out.2.1.at 7 rfl
  have c8 := HB8.out.2.1.at 8 rfl
  go_wp2_with fail
  refine (CF.out _ HB8.out.1).mono ?_
  rintro e u9 ⟨rfl, K⟩
  have HK : Hid (Kept w u9) := HB8.out.1.trans K
  clear K HB8 c0 c1 c2 c3 c4 c5 c6 c7 c8
  go_wp2
  go_ret2
  exact ⟨rfl, HK.out⟩
end Go.Proofs.Ytpdclckgnajcdaa
