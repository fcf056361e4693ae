/-
  Contracts of package layout.
-/
import Derived.Test.YtpdclckgnajcdaaGreatPlan6
namespace Go.Proofs.YtpdclckgnajcdaaGreat
open Go.RowKit

theorem results_blk_tmp2 {P : Program} {fn : Func} {p u v : Tmp} {ty : TypeId} (h : fn.results = #[.cell p ty, .tmp u, .tmp v]) (tmps : Array Value) (w : World) (g : Nat) (L : List Value) {fs : Array Field}
    (ha : tmps.getD p undef = .pointer (some ⟨g, 0, none⟩)) (hb : Blk w g L) (hu : P.underlying ty = some (.struct fs)) (hi : (P.info? ty).map (·.size) = some L.length) :
    (results fn tmps).run P w = .ok (.tuple #[.agg L.toArray, tmps.getD u undef, tmps.getD v undef]) w := by
  have hp' : tmps[p]?.getD undef = .pointer (some ⟨g, 0, none⟩) := by simpa using ha
  simp [results, h, hp', asAddr, run_loadVar_blk w g ty L hb hu hi]

set_option maxHeartbeats 400000 in
theorem mayhead_any (a : Bool) (x : Option Addr) (l c : Nat) (m : Int) (w : World) (h0 : 0 ≤ m ∧ m ≤ 1) (h1 : a = true → m = 0) :
    Calls Tryz.prog 106 #[.agg #[.bool a, .slice x l c], .int .i64 m] w fun e w' => e = .returned (.bool true) ∧ Kept w w' := by
  rcases (by omega : m = 0 ∨ m = 1) with rfl | rfl
  · clear h0 h1
    go_enter Tryz.func106, Tryz.ntmps106
    go_wp2
    go_ret
    exact ⟨rfl, (Kept.refl _).alloc _ _⟩
  · obtain rfl : a = false := by
      cases a
      · rfl
      · exact absurd (h1 rfl) (by decide)
    clear h0 h1
    go_enter Tryz.func106, Tryz.ntmps106
    go_wp2
    go_ret
    exact ⟨rfl, (Kept.refl _).alloc _ _⟩

set_option maxHeartbeats 400000 in
theorem length_is (n : Int) (w : World) (h : 0 ≤ n ∧ n ≤ 512) :
    Calls Tryz.prog 107 #[.complex .f64 (cw n).re (cw n).im] w fun e w' => e = .returned (.tuple #[.int .i64 n, .bool true]) ∧ w' = w := by
  have C0 : Hid (∀ w, Calls Tryz.prog 100 #[.complex .f64 (floatOfInt .f64 n) 0] w _) := fun w => int_fi n w (by omega)
  unfold cw
  obtain ⟨h0, h1⟩ := h
  have e0 : ¬ n < 0 := by omega
  have e1 : ¬ n > 512 := by omega
  go_enter Tryz.func107, Tryz.ntmps107
  go_wp2_with fail
  refine (C0.out _).mono ?_
  rintro e w' ⟨rfl, rfl⟩
  go_wp2
  go_ret2
  exact ⟨rfl, rfl⟩

set_option maxHeartbeats 400000 in
theorem lmode_is (m ln : Int) (w : World) (hm : 0 ≤ m ∧ m ≤ 2) (h1 : dat ln ≤ 4 ↔ m = 0) :
    Calls Tryz.prog 108 #[.complex .f64 (cw m).re (cw m).im, .int .i64 ln] w fun e w' => e = .returned (.tuple #[.int .i64 m, .bool true]) ∧ w' = w := by
  have C0 : Hid (∀ w, Calls Tryz.prog 100 #[.complex .f64 (floatOfInt .f64 m) 0] w _) := fun w => int_fi m w (by omega)
  have C1 : Hid (∀ w, Calls Tryz.prog 62 #[.int .i64 ln] w _) := fun w => data_any ln w
  unfold cw
  generalize dat ln = t at *
  obtain ⟨h0, h2⟩ := hm
  have e0 : ¬ m < 0 := by omega
  have e1 : ¬ m > 2 := by omega
  have e2 : (decide (t ≤ 4) == (m == 0)) = true := by
    by_cases q : m = 0
    · simp [q, h1.2 q]
    · have : ¬ t ≤ 4 := fun x => q (h1.1 x)
      simp [q, this]
  clear h1
  go_enter Tryz.func108, Tryz.ntmps108
  go_wp2_with fail
  refine (C0.out _).mono ?_
  rintro e w' ⟨rfl, rfl⟩
  go_wp2_with fail
  refine (C1.out _).mono ?_
  rintro e w' ⟨rfl, rfl⟩
  go_wp2
  go_ret2
  exact ⟨rfl, rfl⟩

section
variable (n0 n1 n2 n3 n4 n5 n6 n7 : Int) (x : Option Addr) (l c : Nat) (S : Nat → Sh)

set_option maxHeartbeats 800000 in
theorem lfrag_is (i : Int) (w : World) (hn : n0 ≤ 1024) (h1 : 0 ≤ i ∧ i < n0) :
    Calls Tryz.prog 77 #[.agg #[.int .i64 n0, .int .i64 n1, .int .i64 n2, .int .i64 n3, .int .i64 n4, .int .i64 n5, .int .i64 n6, .int .i64 n7, .slice x l c], .complex .f64 (cr i).re (cr i).im] w fun e w' => e = .returned (.tuple #[.int .i64 i, .bool true]) ∧ Kept w w' := by
  have C0 : Hid (∀ w, Calls Tryz.prog 75 #[.complex .f64 (floatOfInt .f64 (i + 1)) 4607182418800017408] w _) := fun w => index_in (i + 1) 4607182418800017408 w true (by rw [nb_one]; rfl) (by omega) (by omega)
  unfold cr
  have e1 : i + 1 - 1 = i := by omega
  have e2 : i < n0 := h1.2
  have e3 : ¬ i ≥ n0 := by omega
  have HK : Hid (∀ C t, Kept w (w.alloc (.cells C t))) := fun C t => (Kept.refl w).alloc C t
  go_enter Tryz.func77, Tryz.ntmps77
  go_wp2_with fail
  refine (C0.out _).mono ?_
  rintro e w' ⟨rfl, rfl⟩
  simp only [if_true, e1]
  go_wp2
  go_ret2
  exact ⟨rfl, HK.out _ _⟩

set_option maxHeartbeats 800000 in
theorem lspine_is (a : Int) (w : World) (hS : Shps w x l S) (hg : Good n0 n1 n2 n3 n4 n5 n6 n7 l S) (ha : 8 * n0 ≤ a ∧ a < 8 * n0 + 2 * n1) :
    Calls Tryz.prog 109 #[.agg #[.int .i64 n0, .int .i64 n1, .int .i64 n2, .int .i64 n3, .int .i64 n4, .int .i64 n5, .int .i64 n6, .int .i64 n7, .slice x l c], .complex .f64 (cw a).re (cw a).im] w fun e w' => e = .returned (.tuple #[.int .i64 a, .bool true]) ∧ Kept w w' := by
  obtain ⟨r, i, k, hO⟩ := OfIs.some (n0 := n0) (n1 := n1) (n2 := n2) (n3 := n3) (n4 := n4) (n5 := n5) (n6 := n6) (n7 := n7) (l := l) (S := S) a
  have hf := hg.1
  have hr : (r == 0) = false := by
    obtain ⟨f0, f1, f2, _⟩ := hf
    by_cases q : a < 8 * n0 + n1
    · have := (hO.sp0 hg ha.1 q).1; simp [this]
    · have := (hO.sp1 hg (by omega) ha.2).1; simp [this]
  have C0 : Hid (∀ w, Calls Tryz.prog 100 #[.complex .f64 (floatOfInt .f64 a) 0] w _) := fun w => int_fi a w (by obtain ⟨f0, f1, f2, _⟩ := hf; omega)
  have C1 : Hid (∀ w', Kept w w' → Calls Tryz.prog 66 #[.agg #[.int .i64 n0, .int .i64 n1, .int .i64 n2, .int .i64 n3, .int .i64 n4, .int .i64 n5, .int .i64 n6, .int .i64 n7, .slice x l c], .int .i64 a] w' _) := fun w' q => of_any n0 n1 n2 n3 n4 n5 n6 n7 x l c S a r i k w' (hS.kept q) hO
  have hab : 0 ≤ a ∧ a ≤ 100000 := by obtain ⟨f0, f1, f2, _⟩ := hf; omega
  have HK : Hid (∀ C t, Kept w (w.alloc (.cells C t))) := fun C t => (Kept.refl w).alloc C t
  unfold cw
  clear hS hg hO hf ha
  go_enter Tryz.func109, Tryz.ntmps109
  go_wp2_with fail
  refine (C0.out _).mono ?_
  rintro e w' ⟨rfl, rfl⟩
  go_wp2_with fail
  refine (C1.out _ (HK.out _ _)).mono ?_
  rintro e w2 ⟨rfl, K⟩
  have K2 : Hid (Kept w w2) := (HK.out _ _).trans K
  clear C1 C0 K
  go_wp2
  go_ret2
  exact ⟨rfl, K2.out⟩

set_option maxHeartbeats 1000000 in
theorem lhead_is (R : Nat → Bool) (k : Nat) (m : Int) (w : World) (hk : k < l) (hk8 : k ≤ 1000) (hm : 0 ≤ m ∧ m ≤ 1000) (hl : (S k).l ≤ 140737488351232) (hS : Shps w x l S) (hR : Refs w (S k).x (S k).l R) :
    Calls Tryz.prog 105 #[.agg #[.int .i64 n0, .int .i64 n1, .int .i64 n2, .int .i64 n3, .int .i64 n4, .int .i64 n5, .int .i64 n6, .int .i64 n7, .slice x l c], .complex .f64 (ch k m).re (ch k m).im] w fun e w' => ∃ g, e = .returned (.tuple #[.agg #[.bool (S k).arr, .slice (some ⟨g, 0, none⟩) (S k).l (S k).l], .int .i64 m, .bool true]) ∧ Refs w' (some ⟨g, 0, none⟩) (S k).l R ∧ w.heap.size < g ∧ Kept w w' := by
  have C0 : Hid (∀ w, Calls Tryz.prog 112 #[.complex .f64 (ch k m).re (ch k m).im] w _) := fun w => tell_in k m w (by omega) (by omega) (by omega) (by omega)
  have C1 : Hid (∀ w', Kept w w' → Calls Tryz.prog 7 #[.agg #[.int .i64 n0, .int .i64 n1, .int .i64 n2, .int .i64 n3, .int .i64 n4, .int .i64 n5, .int .i64 n6, .int .i64 n7, .slice x l c], .int .i64 k] w' _) := fun w' q => shape_in n0 n1 n2 n3 n4 n5 n6 n7 x l c S R k w' hk hl (hS.kept q) (hR.kept q)
  clear hS hR hl hk8
  go_enter Tryz.func105, Tryz.ntmps105
  go_wp2_with fail
  generalize hW0 : w.alloc _ = W0
  have k0 : Kept w W0 := by rw [← hW0]; exact (Kept.refl w).alloc _ _
  have bc : Blk W0 w.heap.size (cl n0 n1 n2 n3 n4 n5 n6 n7 (.slice x l c)) := by rw [← hW0]; exact Blk.new w _ _
  have z0 : W0.heap.size = w.heap.size + 1 := by rw [← hW0]; simp
  clear hW0
  generalize hW1 : W0.alloc _ = W1
  have k1 : Kept W0 W1 := by rw [← hW1]; exact (Kept.refl W0).alloc _ _
  have b1 : Blk W1 (w.heap.size + 1) [.bool false, .slice none 0 0] := by rw [← hW1, ← z0]; exact Blk.new W0 _ _
  have z1 : W1.heap.size = w.heap.size + 1 + 1 := by rw [← hW1]; simp [z0]
  clear hW1
  have HB : Hid (Kept w W1 ∧ Blk W1 w.heap.size (cl n0 n1 n2 n3 n4 n5 n6 n7 (.slice x l c)) ∧ Blk W1 (w.heap.size + 1) [.bool false, .slice none 0 0] ∧ W1.heap.size = w.heap.size + 1 + 1) := ⟨k0.trans k1, bc.kept k1, b1, z1⟩
  clear k0 k1 bc b1 z0 z1
  refine (C0.out _).mono ?_
  rintro e w1 ⟨rfl, rfl⟩
  have c0 := HB.out.2.1.at 0 rfl
  have c1 := HB.out.2.1.at 1 rfl
  have c2 := HB.out.2.1.at 2 rfl
  have c3 := HB.out.2.1.at 3 rfl
  have c4 := HB.out.2.1.at 4 rfl
  have c5 := HB.out.2.1.at 5 rfl
  have c6 := HB.out.2.1.at 6 rfl
  have c7 := HB.out.2.1.at 7 rfl
  have c8 := HB.out.2.1.at 8 rfl
  go_wp2_with fail
  refine (C1.out _ HB.out.1).mono ?_
  rintro e w2 ⟨g, rfl, hg, hr, K⟩
  have HG : Hid (Kept w w2 ∧ Blk w2 (w.heap.size + 1) [.bool false, .slice none 0 0] ∧ w.heap.size + 1 < g ∧ Refs w2 (some ⟨g, 0, none⟩) (S k).l R ∧ w.heap.size + 1 < w2.heap.size) := ⟨HB.out.1.trans K, HB.out.2.2.1.kept K, by have := HB.out.2.2.2; omega, hr, by have := K.size; have := HB.out.2.2.2; omega⟩
  clear c0 c1 c2 c3 c4 c5 c6 c7 c8 hg hr K C1 C0 HB
  go_upto_region 3 with fail
  generalize hW3 : w2.alloc _ = W3
  have k3 : Kept w2 W3 := by rw [← hW3]; exact (Kept.refl w2).alloc _ _
  have b3 : Blk W3 w2.heap.size [.bool (S k).arr, .slice (some ⟨g, 0, none⟩) (S k).l (S k).l] := by rw [← hW3]; exact Blk.new w2 _ _
  have HG3 : Hid (Kept w W3 ∧ Blk W3 (w.heap.size + 1) [.bool false, .slice none 0 0] ∧ Blk W3 w2.heap.size [.bool (S k).arr, .slice (some ⟨g, 0, none⟩) (S k).l (S k).l] ∧ Refs W3 (some ⟨g, 0, none⟩) (S k).l R) :=
    ⟨HG.out.1.trans k3, HG.out.2.1.kept k3, b3, HG.out.2.2.2.1.kept k3⟩
  clear k3 b3 hW3
  have s0 := HG3.out.2.2.1.at 0 rfl
  have s1 := HG3.out.2.2.1.at 1 rfl
  have a0 := HG3.out.2.1.at 0 rfl
  have a1 := HG3.out.2.1.at 1 rfl
  have fz := HG3.out.2.1.fz
  go_wp2
  (try simp only [Exit.inBlock, Exit.then])
  exact bodyPost_ret_by (results_blk_tmp2 rfl _ _ (w.heap.size + 1) [_, _] rfl ((HG3.out.2.1.set (i := 0) rfl _).set (i := 1) rfl _) Tryz.underlying29 (by kernel_rfl)) rfl
    ⟨g, rfl, (HG3.out.2.2.2.set_other (by have := HG.out.2.2.1; simp; omega) _).set_other (by have := HG.out.2.2.1; simp; omega) _, by have := HG.out.2.2.1; omega, (HG3.out.1.setCell (by simp) _).setCell (by simp) _⟩
end
end Go.Proofs.YtpdclckgnajcdaaGreat
