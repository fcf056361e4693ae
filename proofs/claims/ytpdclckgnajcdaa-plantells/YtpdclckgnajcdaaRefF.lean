/-
  The document's Array (package sporef6): its errors; writes compared.
-/
import Derived.Test.YtpdclckgnajcdaaRefC
namespace Go.Proofs.Ytpdclckgnajcdaa
open Go.RowKit

theorem Own.put {w : World} {b : Nat} {t : TypeId} {F G : Nat → Cx} (h : Own w b t (eight F)) {v : Nat} (hv : v < 8) (z : Cx) (he : ∀ j, j < 8 → (if j = v then z else F j) = G j) : Own (w.setCell ⟨b, v, none⟩ (.complex .f64 z.re z.im)) b t (eight G) := by
  have := h.set v (.complex .f64 z.re z.im)
  rw [eight_set F z hv, eight_congr he] at this
  exact this

set_option maxHeartbeats 2000000 in
theorem rspot_any (n0 n1 n2 n3 n4 n5 n6 n7 : Int) (sx : Option Addr) (sl sc : Nat) (S : Nat → Sh) (at' : Int) (len : Nat) (p : Bool) (w : World) (hS : Shps w sx sl S) (hg : Good n0 n1 n2 n3 n4 n5 n6 n7 sl S) (hlen : len ≤ 1000) (hp : p = true ↔ Fit n0 n1 at' len) :
    Calls Try.prog 61 #[.agg #[.int .i64 n0, .int .i64 n1, .int .i64 n2, .int .i64 n3, .int .i64 n4, .int .i64 n5, .int .i64 n6, .int .i64 n7, .slice sx sl sc], .int .i64 at', .int .i64 len] w fun e w' => e = .returned (.bool p) ∧ Kept w w' := by
  obtain ⟨r, i, k, ho⟩ := OfIs.some (n0 := n0) (n1 := n1) (n2 := n2) (n3 := n3) (n4 := n4) (n5 := n5) (n6 := n6) (n7 := n7) (l := sl) (S := S) at'
  have C0 : Hid (∀ w', Kept w w' → Calls Try.prog 94 #[.agg #[.int .i64 n0, .int .i64 n1, .int .i64 n2, .int .i64 n3, .int .i64 n4, .int .i64 n5, .int .i64 n6, .int .i64 n7, .slice sx sl sc], .int .i64 at'] w' _) := fun w' q => ref_of n0 n1 n2 n3 n4 n5 n6 n7 sx sl sc S at' r i k w' (hS.kept q) ho
  obtain ⟨⟨⟨f0, f1⟩, ⟨f2, f3⟩, ⟨f4, f5⟩, _⟩, _⟩ := id hg
  have HP : Hid (p = true ↔ Fit n0 n1 at' len) := hp
  clear hp hS
  by_cases hA : 8 * n0 ≤ at' ∧ at' < 8 * n0 + n1
  · obtain ⟨rfl, rfl, rfl⟩ := ho.sp0 hg hA.1 hA.2
    by_cases hB : (len : Int) ≤ n1 - (at' - 8 * n0)
    · obtain rfl : p = true := HP.out.2 (.inl ⟨hA.1, hA.2, by omega⟩)
      clear HP ho hg
      go_enter Try.func61, Try.ntmps61
      go_wp2_with fail
      refine (C0.out _ ((Kept.refl w).alloc _ _)).mono ?_
      rintro e w' ⟨rfl, K⟩
      have c1 := K.own 1
      simp only [List.getElem?_toArray, List.getElem?_cons_zero, List.getElem?_cons_succ] at c1
      go_wp2
      go_ret
      exact ⟨rfl, K.ofAlloc⟩
    · obtain rfl : p = false := by
        cases p
        · rfl
        · rcases HP.out.1 rfl with q | q <;> omega
      clear HP ho hg
      go_enter Try.func61, Try.ntmps61
      go_wp2_with fail
      refine (C0.out _ ((Kept.refl w).alloc _ _)).mono ?_
      rintro e w' ⟨rfl, K⟩
      have c1 := K.own 1
      simp only [List.getElem?_toArray, List.getElem?_cons_zero, List.getElem?_cons_succ] at c1
      go_wp2
      go_ret
      exact ⟨by simp; omega, K.ofAlloc⟩
  by_cases hA2 : 8 * n0 + n1 ≤ at' ∧ at' < 8 * n0 + 2 * n1
  · obtain ⟨rfl, rfl, rfl⟩ := ho.sp1 hg hA2.1 hA2.2
    by_cases hB : (len : Int) ≤ n1 - (at' - 8 * n0 - n1)
    · obtain rfl : p = true := HP.out.2 (.inr ⟨hA2.1, hA2.2, by omega⟩)
      clear HP ho hg
      go_enter Try.func61, Try.ntmps61
      go_wp2_with fail
      refine (C0.out _ ((Kept.refl w).alloc _ _)).mono ?_
      rintro e w' ⟨rfl, K⟩
      have c1 := K.own 1
      simp only [List.getElem?_toArray, List.getElem?_cons_zero, List.getElem?_cons_succ] at c1
      go_wp2
      go_ret
      exact ⟨rfl, K.ofAlloc⟩
    · obtain rfl : p = false := by
        cases p
        · rfl
        · rcases HP.out.1 rfl with q | q <;> omega
      clear HP ho hg
      go_enter Try.func61, Try.ntmps61
      go_wp2_with fail
      refine (C0.out _ ((Kept.refl w).alloc _ _)).mono ?_
      rintro e w' ⟨rfl, K⟩
      have c1 := K.own 1
      simp only [List.getElem?_toArray, List.getElem?_cons_zero, List.getElem?_cons_succ] at c1
      go_wp2
      go_ret
      exact ⟨by simp; omega, K.ofAlloc⟩
  obtain rfl : p = false := by
    cases p
    · rfl
    · rcases HP.out.1 rfl with q | q <;> omega
  have hr : r ≠ 2 ∧ r ≠ 3 := by
    by_cases q0 : 0 ≤ at' ∧ at' < 8 * n0
    · have := ho.frag hg q0.1 q0.2; omega
    · by_cases q1 : 8 * n0 + 2 * n1 ≤ at' ∧ at' < 8 * n0 + 2 * n1 + n2
      · have := ho.glob hg q1.1 q1.2; omega
      · have := ho.no (fun q => by omega); omega
  have e2 : (r == 2) = false := by simp; omega
  have e3 : (r == 3) = false := by simp; omega
  clear HP ho hg hr hA hA2
  go_enter Try.func61, Try.ntmps61
  go_wp2_with fail
  refine (C0.out _ ((Kept.refl w).alloc _ _)).mono ?_
  rintro e w' ⟨rfl, K⟩
  go_wp2
  go_ret
  exact ⟨by simp, K.ofAlloc⟩

set_option maxHeartbeats 2000000 in
theorem same_writes {w : World} {b1 b2 : Nat} {v1 v2 : Value} {n : Nat} {f : Nat → Wr} (h1 : Ws w b1 v1 n f) (h2 : Ws w b2 v2 n f) (hn : n ≤ 10000) (hN : ∀ i, i < n → NN (f i).z.re ∧ NN (f i).z.im) :
    Calls Try.prog 16 #[v1, v2] w fun e w' => e = .returned (.bool true) ∧ Kept w w' := by
  rcases Nat.eq_zero_or_pos n with h0 | h0
  · subst h0
    obtain ⟨x1, d1, rfl⟩ := h1.form
    obtain ⟨x2, d2, rfl⟩ := h2.form
    clear h1 h2 hN
    go_enter Try.func16, Try.ntmps16
    go_wp2_with fail
    go_loopg [5] 0 (fun m v wr => v = .int .i64 0 ∧ m = 0 ∧ Hid (wr = w))
    case atStart => exact ⟨rfl, rfl, rfl⟩
    case round =>
      obtain ⟨rfl, hm, hw⟩ := hrel
      obtain rfl := hw.out
      go_wp2
      go_ret
      exact ⟨rfl, Kept.refl _⟩
  obtain ⟨g1, d1, rfl, _, hg1, c1⟩ := h1.here h0
  obtain ⟨g2, d2, rfl, _, hg2, c2⟩ := h2.here h0
  have H1 : Hid ((g1 < w.heap.size ∧ ∀ i, i < n → w.cell? ⟨g1, i * 2, none⟩ = some (.int .i64 (f i).a) ∧ w.cell? ⟨g1, i * 2 + 1, none⟩ = some (.complex .f64 (f i).z.re (f i).z.im)) ∧ (g2 < w.heap.size ∧ ∀ i, i < n → w.cell? ⟨g2, i * 2, none⟩ = some (.int .i64 (f i).a) ∧ w.cell? ⟨g2, i * 2 + 1, none⟩ = some (.complex .f64 (f i).z.re (f i).z.im))) := ⟨⟨hg1, c1⟩, hg2, c2⟩
  have HN : Hid (∀ i, i < n → NN (f i).z.re ∧ NN (f i).z.im) := hN
  have e0 : ((n : Int) != (n : Int)) = false := by simp
  clear h1 h2 hN c1 c2 hg1 hg2
  go_enter Try.func16, Try.ntmps16
  go_wp2_with fail
  go_loopg [5] n (fun m v wr => ∃ k : Nat, v = .int .i64 k ∧ k ≤ n ∧ m = n - k ∧ Hid (Kept w wr))
  case atStart => exact ⟨0, rfl, by omega, by omega, Kept.refl _⟩
  case round =>
    obtain ⟨k, rfl, hk, hm, hw⟩ := hrel
    have HM : Hid _ := hm
    clear hm
    by_cases hlt : k < n
    · have hg1 := Nat.lt_of_lt_of_le H1.out.1.1 hw.out.size
      have hg2 := Nat.lt_of_lt_of_le H1.out.2.1 hw.out.size
      have a1 := (hw.out.cell (a := ⟨g1, k * 2, none⟩) H1.out.1.1).trans (H1.out.1.2 k hlt).1
      have a2 := (hw.out.cell (a := ⟨g1, k * 2 + 1, none⟩) H1.out.1.1).trans (H1.out.1.2 k hlt).2
      have a3 := (hw.out.cell (a := ⟨g2, k * 2, none⟩) H1.out.2.1).trans (H1.out.2.2 k hlt).1
      have a4 := (hw.out.cell (a := ⟨g2, k * 2 + 1, none⟩) H1.out.2.1).trans (H1.out.2.2 k hlt).2
      have nn := HN.out k hlt
      generalize f k = z at *
      have CW : Hid (∀ w, Calls Try.prog 22 #[.complex .f64 z.z.re z.z.im, .complex .f64 z.z.re z.z.im] w _) := fun w => word_is _ _ _ _ true nn.1 nn.2 nn.1 nn.2 (by simp) w
      have en : ((z.a : Int) != z.a) = false := by simp
      have d1 := fun y : KW wr => y.cell hg1 a1
      have d2 := fun y : KW wr => y.cell hg1 a2
      have d3 := fun y : KW wr => y.cell hg2 a3
      have d4 := fun y : KW wr => y.cell hg2 a4
      go_upto_region 6 with fail
      refine wp_region_kept (by kernel_rfl) (by kernel_rfl) fun _ => ?_
      repeat (go_big_quiet_step (first | (go_at_call 22; exact kept_of_same (CW.out _))))
      refine wpQuiet_nil ?_
      rintro _ ⟨y, rfl⟩
      have HK : Hid (Kept w y.it) := hw.out.trans y.ok
      clear d1 d2 d3 d4 a1 a2 a3 a4 CW hw
      go_wp2
      go_roundg (n - (k + 1))
      all_goals (have := HM.out; try omega)
      exact ⟨k + 1, by go_num, by omega, by omega, HK⟩
    · obtain rfl : n = k := by omega
      go_wp2
      go_ret
      exact ⟨rfl, hw.out⟩

set_option maxRecDepth 10000 in
set_option maxHeartbeats 4000000 in
theorem rarray_no (n0 n1 n2 n3 n4 n5 n6 n7 : Int) (sx : Option Addr) (sl sc : Nat) (S : Nat → Sh) (kind n : Int) {x : Option Addr} {l c : Nat} {L : Nat → Int} (at' : Int) (r : Int) (w : World) (hS : Shps w sx sl S)
    (hl : (l : Int) ≤ 1000000) (hc : l ≤ c) (hx : Rdf w x l L) (hr : Asks (AG n0 n1 n2 n3 n4 n5 n6 n7 sl S L l) (AK sl S kind true) (AI S kind n true) (AF S kind n true L l) r) (h0 : r ≠ 0) :
    Calls Try.prog 15 #[.agg #[.int .i64 n0, .int .i64 n1, .int .i64 n2, .int .i64 n3, .int .i64 n4, .int .i64 n5, .int .i64 n6, .int .i64 n7, .slice sx sl sc], .int .i64 kind, .int .i64 n, .slice x l c, .int .i64 at'] w fun e w' => e = .returned (.tuple #[.slice none 0 0, .int .i64 r]) ∧ Kept w w' := by
  obtain ⟨r0, hr0, r0s⟩ := Checks.some n0 n1 n2 n3 n4 n5 n6 n7 sl S
  obtain ⟨q1, h1⟩ := bool_iff (¬ Frs L l n0)
  obtain ⟨q2, h2⟩ := bool_iff (Twice L l)
  have C0 : Hid (∀ w', Kept w w' → Calls Try.prog 44 #[.agg #[.int .i64 n0, .int .i64 n1, .int .i64 n2, .int .i64 n3, .int .i64 n4, .int .i64 n5, .int .i64 n6, .int .i64 n7, .slice sx sl sc]] w' _) := fun w' k => ref_check n0 n1 n2 n3 n4 n5 n6 n7 sx sl sc S r0 w' (hS.kept k) hr0
  have C1 : Hid (∀ w', Kept w w' → Calls Try.prog 45 #[.agg #[.int .i64 n0, .int .i64 n1, .int .i64 n2, .int .i64 n3, .int .i64 n4, .int .i64 n5, .int .i64 n6, .int .i64 n7, .slice sx sl sc], .slice x l c] w' _) := fun w' k => rwrong_any n0 n1 n2 n3 n4 n5 n6 n7 sx sl sc (c := c) q1 w' hl (hx.kept k) h1
  have C2 : Hid (∀ w', Kept w w' → Calls Try.prog 48 #[.slice x l c] w' _) := fun w' k => rtwice_any (c := c) q2 w' hl hc (hx.kept k) h2
  have HH : Hid (Shps w sx sl S ∧ Asks (AG n0 n1 n2 n3 n4 n5 n6 n7 sl S L l) (AK sl S kind true) (AI S kind n true) (AF S kind n true L l) r ∧ r ≠ 0) := ⟨hS, hr, h0⟩
  have H0 : Hid (Checks n0 n1 n2 n3 n4 n5 n6 n7 sl S r0) := hr0
  have H1 : Hid (q1 = true ↔ ¬ Frs L l n0) := h1
  have H2 : Hid (q2 = true ↔ Twice L l) := h2
  clear hr0 h1 h2 hS hr hx hl hc h0
  go_enter Try.func15, Try.ntmps15
  go_wp2_with fail
  generalize hW1 : w.alloc _ = W1
  have HW1 : Hid (Kept w W1 ∧ Blk W1 w.heap.size (cl n0 n1 n2 n3 n4 n5 n6 n7 (.slice sx sl sc))) := by rw [← hW1]; exact ⟨(Kept.refl w).alloc _ _, Blk.new w _ _⟩
  clear hW1
  refine (C0.out _ HW1.out.1).mono ?_
  rintro e u1 ⟨rfl, K⟩
  have HW : Hid (Kept w u1 ∧ Blk u1 w.heap.size (cl n0 n1 n2 n3 n4 n5 n6 n7 (.slice sx sl sc))) := ⟨HW1.out.1.trans K, HW1.out.2.kept K⟩
  clear HW1 K
  by_cases hr0 : r0 = 0
  case neg =>
    have e0 : (r0 != 0) = true := by simpa using hr0
    have er : Hid (r = 1) := HH.out.2.1.range fun g => hr0 (H0.out.ok g.1.1 g.1.2)
    clear hr0
    go_wp2
    go_ret2
    exact ⟨by rw [er.out]; rfl, HW.out.1⟩
  subst hr0
  have HG : Hid (Good n0 n1 n2 n3 n4 n5 n6 n7 sl S) := H0.out.zero
  have c0 := HW.out.2.at 0 rfl
  have c1 := HW.out.2.at 1 rfl
  have c2 := HW.out.2.at 2 rfl
  have c3 := HW.out.2.at 3 rfl
  have c4 := HW.out.2.at 4 rfl
  have c5 := HW.out.2.at 5 rfl
  have c6 := HW.out.2.at 6 rfl
  have c7 := HW.out.2.at 7 rfl
  have c8 := HW.out.2.at 8 rfl
  go_wp2_with fail
  refine (C1.out _ HW.out.1).mono ?_
  rintro e u2 ⟨rfl, K⟩
  have HW2 : Hid (Kept w u2 ∧ Blk u2 w.heap.size (cl n0 n1 n2 n3 n4 n5 n6 n7 (.slice sx sl sc))) := ⟨HW.out.1.trans K, HW.out.2.kept K⟩
  clear HW K c0 c1 c2 c3 c4 c5 c6 c7 c8
  cases q1
  case true =>
    have er : Hid (r = 1) := HH.out.2.1.range fun g => absurd g.2 (H1.out.1 (by trivial))
    go_wp2
    go_ret2
    exact ⟨by rw [er.out]; rfl, HW2.out.1⟩
  have HA : Hid (AG n0 n1 n2 n3 n4 n5 n6 n7 sl S L l) := ⟨HG.out, Classical.byContradiction fun h => by have := H1.out.2 h; simp at this⟩
  clear H1 C1 C0 H0
  have c0 := HW2.out.2.at 0 rfl
  have c1 := HW2.out.2.at 1 rfl
  have c2 := HW2.out.2.at 2 rfl
  have c3 := HW2.out.2.at 3 rfl
  have c4 := HW2.out.2.at 4 rfl
  have c5 := HW2.out.2.at 5 rfl
  have c6 := HW2.out.2.at 6 rfl
  have c7 := HW2.out.2.at 7 rfl
  have c8 := HW2.out.2.at 8 rfl
  by_cases hk : kind < 0 ∨ (sl : Int) ≤ kind
  · have er : Hid (r = 4) := HH.out.2.1.kind HA.out fun q => by have := q.1; have := q.2.1; omega
    have CS : Hid (∀ w, Calls Try.prog 46 #[.agg #[.int .i64 n0, .int .i64 n1, .int .i64 n2, .int .i64 n3, .int .i64 n4, .int .i64 n5, .int .i64 n6, .int .i64 n7, .slice sx sl sc], .int .i64 kind] w _) := fun w => ref_shape_out n0 n1 n2 n3 n4 n5 n6 n7 sx sl sc kind w hk
    clear hk
    go_wp2_with fail
    refine (CS.out _).mono ?_
    rintro e u3 ⟨rfl, K⟩
    have HK : Hid (Kept w u3) := HW2.out.1.trans K
    clear HW2 K c0 c1 c2 c3 c4 c5 c6 c7 c8
    go_wp2
    go_ret2
    exact ⟨by rw [er.out]; rfl, HK.out.alloc _ _⟩
  obtain ⟨k, rfl⟩ : ∃ k : Nat, kind = k := ⟨kind.toNat, by omega⟩
  have hks : k < sl := by omega
  have HM : Hid ((S k).may = true) := HG.out.2.2.2 k hks
  have HKS : Hid (k < sl) := hks
  have CS : Hid (∀ w', Kept w w' → Calls Try.prog 46 #[.agg #[.int .i64 n0, .int .i64 n1, .int .i64 n2, .int .i64 n3, .int .i64 n4, .int .i64 n5, .int .i64 n6, .int .i64 n7, .slice sx sl sc], .int .i64 k] w' _) := fun w' q => ref_shape_in n0 n1 n2 n3 n4 n5 n6 n7 sx sl sc S k w' hks (HH.out.1.kept q)
  clear hk hks
  go_wp2_with fail
  refine (CS.out _ HW2.out.1).mono ?_
  rintro e u3 ⟨rfl, K⟩
  have HK3 : Hid (Kept w u3) := HW2.out.1.trans K
  clear HW2 K c0 c1 c2 c3 c4 c5 c6 c7 c8 CS
  cases hab : (S k).arr
  case false =>
    have er : Hid (r = 4) := HH.out.2.1.kind HA.out fun q => by have := q.2.2; rw [Int.toNat_natCast, hab] at this; cases this
    clear hab
    go_wp2
    go_ret2
    exact ⟨by rw [er.out]; rfl, HK3.out.alloc _ _⟩
  have HK : Hid (AK sl S k true) := ⟨by omega, by have := HKS.out; omega, by rw [Int.toNat_natCast]; exact hab⟩
  have hfl := (may_len HM.out).2 hab
  rw [hfl]
  obtain ⟨z, hz⟩ : ∃ z, arrSize n = z := ⟨_, rfl⟩
  have hI : AI S k n true ↔ 0 ≤ z := by rw [← hz]; exact Iff.rfl
  have HI : Hid (AI S k n true ↔ 0 ≤ z) := hI
  have hF : AF S k n true L l ↔ (l : Int) = z ∧ ¬ Twice L l := by rw [← hz]; exact Iff.rfl
  have HF : Hid (AF S k n true L l ↔ (l : Int) = z ∧ ¬ Twice L l) := hF
  obtain ⟨sxx, hxe⟩ : ∃ sxx, (S k).x = sxx := ⟨_, rfl⟩
  obtain ⟨sfc, hce⟩ : ∃ sfc, (S k).c = sfc := ⟨_, rfl⟩
  rw [hxe, hce]
  have CZ : Hid (∀ w, Calls Try.prog 47 #[.agg #[.bool true, .slice sxx 1 sfc], .int .i64 n] w fun e w' => e = .returned (.int .i64 z) ∧ Kept w w') := fun w => by rw [← hz]; exact rsize_arr sxx sfc n w
  clear hab hfl hz hI hF hxe hce
  go_wp2_with fail
  generalize hW3 : u3.alloc _ = W3
  have HB3 : Hid (Kept w W3 ∧ Blk W3 u3.heap.size [.bool true, .slice sxx 1 sfc]) := by rw [← hW3]; exact ⟨HK3.out.alloc _ _, Blk.new u3 [_, _] _⟩
  clear hW3 HK3
  refine (CZ.out _).mono ?_
  rintro e u4 ⟨rfl, K⟩
  have HB4 : Hid (Kept w u4 ∧ Blk u4 u3.heap.size [.bool true, .slice sxx 1 sfc]) := ⟨HB3.out.1.trans K, HB3.out.2.kept K⟩
  clear K HB3
  by_cases hz0 : z < 0
  · have er : Hid (r = 5) := HH.out.2.1.index HA.out HK.out fun q => by have := HI.out.1 q; omega
    go_wp2
    go_ret2
    exact ⟨by rw [er.out]; rfl, HB4.out.1⟩
  have HI2 : Hid (AI S k n true) := HI.out.2 (by omega)
  have s0 := HB4.out.2.at 0 rfl
  have s1 := HB4.out.2.at 1 rfl
  go_wp2_with fail
  refine (CZ.out _).mono ?_
  rintro e u5 ⟨rfl, K⟩
  have HK5 : Hid (Kept w u5) := HB4.out.1.trans K
  clear K CZ HB4 s0 s1
  by_cases hlz : (l : Int) = z
  case neg =>
    have e1 : ((l : Int) != z) = true := by simpa using hlz
    have er : Hid (r = 2) := HH.out.2.1.form HA.out HK.out HI2.out fun q => hlz (HF.out.1 q).1
    clear hlz
    go_wp2
    go_ret2
    exact ⟨by rw [er.out]; rfl, HK5.out⟩
  have e1 : ((l : Int) != z) = false := by simpa using hlz
  have HL : Hid ((l : Int) = z) := hlz
  clear hlz
  go_wp2_with fail
  refine (C2.out _ HK5.out).mono ?_
  rintro e u6 ⟨rfl, K⟩
  have HK6 : Hid (Kept w u6) := HK5.out.trans K
  cases q2
  · exfalso
    exact HH.out.2.2 (HH.out.2.1.ok HA.out HK.out HI2.out (HF.out.2 ⟨HL.out, fun q => by have := H2.out.2 q; simp at this⟩))
  · have er : Hid (r = 2) := HH.out.2.1.form HA.out HK.out HI2.out fun q => (HF.out.1 q).2 (H2.out.1 (by trivial))
    go_wp2
    go_ret2
    exact ⟨by rw [er.out]; rfl, HK6.out⟩
end Go.Proofs.Ytpdclckgnajcdaa
