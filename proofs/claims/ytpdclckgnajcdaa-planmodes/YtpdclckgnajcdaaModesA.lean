/-
  The walk of PlanModes: the ways that end early.
-/
import Derived.Test.YtpdclckgnajcdaaOnceA
namespace Go.Proofs.Ytpdclckgnajcdaa
open Go.RowKit

theorem sideU_all {L : Nat → Int} : ∀ {l : Nat}, sideU L l = true → ∀ j, j < l → L j = L 0 + j
  | 0, _, j, h => absurd h (Nat.not_lt_zero _)
  | l + 1, h, j, hj => by
    rw [sideU, Bool.and_eq_true] at h
    rcases Nat.lt_succ_iff_lt_or_eq.1 hj with q | rfl
    · exact sideU_all h.1 j q
    · by_cases h0 : j = 0
      · subst h0; simp
      · have h2 : L j = L (j - 1) + 1 := by
          have := h.2
          simpa [h0] using this
        have h3 := sideU_all h.1 (j - 1) (by omega)
        rw [h2, h3]
        omega
theorem sideU_of {L : Nat → Int} {l : Nat} (h : ∀ j, j < l → L j = L 0 + j) : sideU L l = true :=
  sideU_yes fun j hj => by rw [h (j + 1) hj, h j (by omega)]; push_cast; omega

/-- What the end of the law reads. -/
structure Mow (w U : World) (g l xb xo : Nat) (L : Nat → Int) (F : Nat → Cx) : Prop where
  kept : Kept w U
  got : xb < U.heap.size ∧ ∀ j, j < l → U.cell? ⟨xb, xo + j, none⟩ = some (.int .i64 (L j))
  wr : g < U.heap.size ∧ ∀ i, i < 8 → U.cell? ⟨g, i * 2 + 1, none⟩ = some (.complex .f64 (F i).re (F i).im)
theorem Mow.still {w U U' : World} {g l xb xo : Nat} {L : Nat → Int} {F : Nat → Cx} (h : Mow w U g l xb xo L F) (k : Kept U U') : Mow w U' g l xb xo L F :=
  ⟨h.kept.trans k, ⟨Nat.lt_of_lt_of_le h.got.1 k.size, fun j hj => (k.cell h.got.1).trans (h.got.2 j hj)⟩, ⟨Nat.lt_of_lt_of_le h.wr.1 k.size, fun i hi => (k.cell h.wr.1).trans (h.wr.2 i hi)⟩⟩

set_option maxRecDepth 20000 in
set_option maxHeartbeats 4000000 in
theorem modes_out (n0 n1 n2 n3 n4 n5 n6 n7 : Int) (sx : Option Addr) (sl sc : Nat) (S : Nat → Sh) (kind n : Int) (x : Option Addr) (l c : Nat) (at' : Int) (w : World) (hS : Shps w sx sl S) (hk : kind < 0 ∨ (sl : Int) ≤ kind) :
    Calls Try.prog 5 #[.agg #[.int .i64 n0, .int .i64 n1, .int .i64 n2, .int .i64 n3, .int .i64 n4, .int .i64 n5, .int .i64 n6, .int .i64 n7, .slice sx sl sc], .int .i64 kind, .int .i64 n, .slice x l c, .int .i64 at'] w fun e w' => e = .returned (.bool true) ∧ Kept w w' := by
  obtain ⟨p, hp⟩ := bool_iff (Small sl S)
  have CF : Hid (∀ w', Kept w w' → Calls Try.prog 11 #[.agg #[.int .i64 n0, .int .i64 n1, .int .i64 n2, .int .i64 n3, .int .i64 n4, .int .i64 n5, .int .i64 n6, .int .i64 n7, .slice sx sl sc]] w' _) := fun w' k => few_any n0 n1 n2 n3 n4 n5 n6 n7 sx sl sc S p w' (hS.kept k) hp
  have CS : Hid (∀ w', Kept w w' → Calls Try.prog 18 #[.agg #[.int .i64 n0, .int .i64 n1, .int .i64 n2, .int .i64 n3, .int .i64 n4, .int .i64 n5, .int .i64 n6, .int .i64 n7, .slice sx sl sc], .int .i64 kind] w' _) := fun w' _ => shape_out n0 n1 n2 n3 n4 n5 n6 n7 sx sl sc kind w' hk
  clear hS hk hp
  go_enter Try.func5, Try.ntmps5
  go_wp2_with fail
  generalize hW1 : w.alloc _ = W1
  have HW1 : Hid (Kept w W1 ∧ Blk W1 w.heap.size (cl n0 n1 n2 n3 n4 n5 n6 n7 (.slice sx sl sc))) := by rw [← hW1]; exact ⟨(Kept.refl w).alloc _ _, Blk.new w _ _⟩
  clear hW1
  refine (first_any _).mono ?_
  rintro e u1 ⟨rfl, K⟩
  have HW : Hid (Kept w u1 ∧ Blk u1 w.heap.size (cl n0 n1 n2 n3 n4 n5 n6 n7 (.slice sx sl sc))) := ⟨HW1.out.1.trans K, HW1.out.2.kept K⟩
  clear HW1 K
  have c0 := HW.out.2.at 0 rfl
  have c1 := HW.out.2.at 1 rfl
  have c2 := HW.out.2.at 2 rfl
  have c3 := HW.out.2.at 3 rfl
  have c4 := HW.out.2.at 4 rfl
  have c5 := HW.out.2.at 5 rfl
  have c6 := HW.out.2.at 6 rfl
  have c7 := HW.out.2.at 7 rfl
  have c8 := HW.out.2.at 8 rfl
  go_wp2_with fail
  refine (CS.out _ HW.out.1).mono ?_
  rintro e u4 ⟨rfl, K⟩
  have HV : Hid (Kept w u4 ∧ Blk u4 w.heap.size (cl n0 n1 n2 n3 n4 n5 n6 n7 (.slice sx sl sc))) := ⟨HW.out.1.trans K, HW.out.2.kept K⟩
  clear HW K c0 c1 c2 c3 c4 c5 c6 c7 c8 CS
  go_upto_region 4 with fail
  generalize hW3 : u4.alloc _ = W3
  have HW : Hid (Kept w W3 ∧ Blk W3 w.heap.size (cl n0 n1 n2 n3 n4 n5 n6 n7 (.slice sx sl sc))) := by rw [← hW3]; exact ⟨HV.out.1.alloc _ _, HV.out.2.kept ((Kept.refl _).alloc _ _)⟩
  clear HV hW3
  have c0 := HW.out.2.at 0 rfl
  have c1 := HW.out.2.at 1 rfl
  have c2 := HW.out.2.at 2 rfl
  have c3 := HW.out.2.at 3 rfl
  have c4 := HW.out.2.at 4 rfl
  have c5 := HW.out.2.at 5 rfl
  have c6 := HW.out.2.at 6 rfl
  have c7 := HW.out.2.at 7 rfl
  have c8 := HW.out.2.at 8 rfl
  go_wp2_with fail
  refine (CF.out _ HW.out.1).mono ?_
  rintro e u5 ⟨rfl, K⟩
  have HK : Hid (Kept w u5) := HW.out.1.trans K
  clear HW K c0 c1 c2 c3 c4 c5 c6 c7 c8 CF
  cases p
  · go_wp2_with fail
    refine (first_any _).mono ?_
    rintro e u9 ⟨rfl, K9⟩
    have K10 : Hid (Kept w u9) := HK.out.trans K9
    clear K9
    go_wp2
    go_ret
    exact ⟨rfl, K10.out⟩
  · go_wp2_with fail
    refine (first_any _).mono ?_
    rintro e u9 ⟨rfl, K9⟩
    have K10 : Hid (Kept w u9) := HK.out.trans K9
    clear K9
    go_wp2
    go_ret
    exact ⟨rfl, K10.out⟩

set_option maxRecDepth 20000 in
set_option maxHeartbeats 4000000 in
theorem modes_early (n0 n1 n2 n3 n4 n5 n6 n7 : Int) (sx : Option Addr) (sl sc : Nat) (S : Nat → Sh) (R : Nat → Nat → Bool) (k : Nat) ( n : Int) (x : Option Addr) (l c : Nat) (at' : Int) (w : World) (hS : Shps w sx sl S) (hR : ∀ i, i < sl → Refs w (S i).x (S i).l (R i)) (hk : k < sl) (hZ : (S k).l ≤ 140737488351232) (hE : ¬ Small sl S ∨ (S k).arr = false ∨ 200 < l) :
    Calls Try.prog 5 #[.agg #[.int .i64 n0, .int .i64 n1, .int .i64 n2, .int .i64 n3, .int .i64 n4, .int .i64 n5, .int .i64 n6, .int .i64 n7, .slice sx sl sc], .int .i64 k, .int .i64 n, .slice x l c, .int .i64 at'] w fun e w' => e = .returned (.bool true) ∧ Kept w w' := by
  obtain ⟨p, hp⟩ := bool_iff (Small sl S)
  have CF : Hid (∀ w', Kept w w' → Calls Try.prog 11 #[.agg #[.int .i64 n0, .int .i64 n1, .int .i64 n2, .int .i64 n3, .int .i64 n4, .int .i64 n5, .int .i64 n6, .int .i64 n7, .slice sx sl sc]] w' _) := fun w' k => few_any n0 n1 n2 n3 n4 n5 n6 n7 sx sl sc S p w' (hS.kept k) hp
  have CS : Hid (∀ w', Kept w w' → Calls Try.prog 18 #[.agg #[.int .i64 n0, .int .i64 n1, .int .i64 n2, .int .i64 n3, .int .i64 n4, .int .i64 n5, .int .i64 n6, .int .i64 n7, .slice sx sl sc], .int .i64 k] w' _) := fun w' q => shape_in n0 n1 n2 n3 n4 n5 n6 n7 sx sl sc S (R k) k w' hk hZ (hS.kept q) ((hR k hk).kept q)
  obtain ⟨fl, hfe⟩ : ∃ fl, (S k).l = fl := ⟨_, rfl⟩
  obtain ⟨ab, hae⟩ : ∃ ab, (S k).arr = ab := ⟨_, rfl⟩
  have HFL : Hid ((S k).arr = ab ∧ (S k).l = fl) := ⟨hae, hfe⟩
  have HE : Hid (p = true → ab = true → 200 < l) := fun h1 h2 => by
    rcases hE with q | q | q
    · exact absurd (hp.1 h1) q
    · rw [hae, h2] at q; cases q
    · exact q
  clear hS hR hk hp hE hZ hfe hae
  go_enter Try.func5, Try.ntmps5
  go_wp2_with fail
  generalize hW1 : w.alloc _ = W1
  have HW1 : Hid (Kept w W1 ∧ Blk W1 w.heap.size (cl n0 n1 n2 n3 n4 n5 n6 n7 (.slice sx sl sc))) := by rw [← hW1]; exact ⟨(Kept.refl w).alloc _ _, Blk.new w _ _⟩
  clear hW1
  refine (first_any _).mono ?_
  rintro e u1 ⟨rfl, K⟩
  have HW : Hid (Kept w u1 ∧ Blk u1 w.heap.size (cl n0 n1 n2 n3 n4 n5 n6 n7 (.slice sx sl sc))) := ⟨HW1.out.1.trans K, HW1.out.2.kept K⟩
  clear HW1 K
  have c0 := HW.out.2.at 0 rfl
  have c1 := HW.out.2.at 1 rfl
  have c2 := HW.out.2.at 2 rfl
  have c3 := HW.out.2.at 3 rfl
  have c4 := HW.out.2.at 4 rfl
  have c5 := HW.out.2.at 5 rfl
  have c6 := HW.out.2.at 6 rfl
  have c7 := HW.out.2.at 7 rfl
  have c8 := HW.out.2.at 8 rfl
  go_wp2_with fail
  refine (CS.out _ HW.out.1).mono ?_
  rintro e u4 ⟨rg, rfl, _, _, K⟩
  have HV : Hid (Kept w u4 ∧ Blk u4 w.heap.size (cl n0 n1 n2 n3 n4 n5 n6 n7 (.slice sx sl sc))) := ⟨HW.out.1.trans K, HW.out.2.kept K⟩
  clear HW K c0 c1 c2 c3 c4 c5 c6 c7 c8 CS
  rw [HFL.out.1, HFL.out.2]
  go_upto_region 4 with fail
  generalize hW3 : u4.alloc _ = W3
  have HW : Hid (Kept w W3 ∧ Blk W3 w.heap.size (cl n0 n1 n2 n3 n4 n5 n6 n7 (.slice sx sl sc)) ∧ Blk W3 u4.heap.size [.bool ab, .slice (some ⟨rg, 0, none⟩) fl fl]) := by rw [← hW3]; exact ⟨HV.out.1.alloc _ _, HV.out.2.kept ((Kept.refl _).alloc _ _), Blk.new u4 [_, _] _⟩
  clear HV hW3
  have c0 := HW.out.2.1.at 0 rfl
  have c1 := HW.out.2.1.at 1 rfl
  have c2 := HW.out.2.1.at 2 rfl
  have c3 := HW.out.2.1.at 3 rfl
  have c4 := HW.out.2.1.at 4 rfl
  have c5 := HW.out.2.1.at 5 rfl
  have c6 := HW.out.2.1.at 6 rfl
  have c7 := HW.out.2.1.at 7 rfl
  have c8 := HW.out.2.1.at 8 rfl
  go_wp2_with fail
  refine (CF.out _ HW.out.1).mono ?_
  rintro e u5 ⟨rfl, K⟩
  have HK : Hid (Kept w u5) := HW.out.1.trans K
  have s0 := (HW.out.2.2.kept K).at 0 rfl
  clear HW K c0 c1 c2 c3 c4 c5 c6 c7 c8 CF
  cases p
  · go_wp2_with fail
    refine (first_any _).mono ?_
    rintro e u9 ⟨rfl, K9⟩
    have K10 : Hid (Kept w u9) := HK.out.trans K9
    clear K9
    go_wp2
    go_ret
    exact ⟨rfl, K10.out⟩
  cases ab
  · go_wp2_with fail
    refine (first_any _).mono ?_
    rintro e u9 ⟨rfl, K9⟩
    have K10 : Hid (Kept w u9) := HK.out.trans K9
    clear K9
    go_wp2
    go_ret
    exact ⟨rfl, K10.out⟩
  have hl : (l : Int) > 200 := by have := HE.out (by trivial) (by trivial); omega
  go_wp2_with fail
  refine (first_any _).mono ?_
  rintro e u9 ⟨rfl, K9⟩
  have K10 : Hid (Kept w u9) := HK.out.trans K9
  clear K9
  go_wp2
  go_ret
  exact ⟨rfl, K10.out⟩

set_option maxRecDepth 20000 in
set_option maxHeartbeats 4000000 in
theorem modes_no (n0 n1 n2 n3 n4 n5 n6 n7 : Int) (sx : Option Addr) (sl sc : Nat) (S : Nat → Sh) (R : Nat → Nat → Bool) (k : Nat) ( n : Int) (x : Option Addr) (l c : Nat) (L : Nat → Int) (at' : Int) (w : World) (hS : Shps w sx sl S) (hR : ∀ i, i < sl → Refs w (S i).x (S i).l (R i)) (hc : l ≤ c) (hx : Rdf w x l L) (hk : k < sl) (hZ : (S k).l ≤ 140737488351232) (hm : Small sl S) (hab : (S k).arr = true) (hl : l ≤ 200) (r : Int) (hr : Asks (AG n0 n1 n2 n3 n4 n5 n6 n7 sl S L l) (AK sl S k true) (AI S k n true) (AF S k n true L l) r) (hr0 : r ≠ 0) :
    Calls Try.prog 5 #[.agg #[.int .i64 n0, .int .i64 n1, .int .i64 n2, .int .i64 n3, .int .i64 n4, .int .i64 n5, .int .i64 n6, .int .i64 n7, .slice sx sl sc], .int .i64 k, .int .i64 n, .slice x l c, .int .i64 at'] w fun e w' => e = .returned (.bool true) ∧ Kept w w' := by
  have CF : Hid (∀ w', Kept w w' → Calls Try.prog 11 #[.agg #[.int .i64 n0, .int .i64 n1, .int .i64 n2, .int .i64 n3, .int .i64 n4, .int .i64 n5, .int .i64 n6, .int .i64 n7, .slice sx sl sc]] w' _) := fun w' k => few_any n0 n1 n2 n3 n4 n5 n6 n7 sx sl sc S true w' (hS.kept k) ⟨fun _ => hm, fun _ => rfl⟩
  have CS : Hid (∀ w', Kept w w' → Calls Try.prog 18 #[.agg #[.int .i64 n0, .int .i64 n1, .int .i64 n2, .int .i64 n3, .int .i64 n4, .int .i64 n5, .int .i64 n6, .int .i64 n7, .slice sx sl sc], .int .i64 k] w' _) := fun w' q => shape_in n0 n1 n2 n3 n4 n5 n6 n7 sx sl sc S (R k) k w' hk hZ (hS.kept q) ((hR k hk).kept q)
  obtain ⟨fl, hfe⟩ : ∃ fl, (S k).l = fl := ⟨_, rfl⟩
  obtain ⟨ab, hae⟩ : ∃ ab, (S k).arr = ab := ⟨_, rfl⟩
  have HFL : Hid ((S k).arr = ab ∧ (S k).l = fl) := ⟨hae, hfe⟩
  obtain rfl : ab = true := by rw [← hae, hab]
  have CA : Hid (∀ w', Kept w w' → Calls Try.prog 14 #[.agg #[.int .i64 n0, .int .i64 n1, .int .i64 n2, .int .i64 n3, .int .i64 n4, .int .i64 n5, .int .i64 n6, .int .i64 n7, .slice sx sl sc], .int .i64 k, .int .i64 n, .slice x l c, .int .i64 at'] w' _) := fun w' q => array_no n0 n1 n2 n3 n4 n5 n6 n7 sx sl sc S R k n (c := c) at' r w' (hS.kept q) (fun i hi => (hR i hi).kept q) (by omega) hc (hx.kept q) hr hr0
  have er : (r != 0) = true := by simpa using hr0
  clear hS hR hk hm hZ hab hfe hae hr hr0 hx
  go_enter Try.func5, Try.ntmps5
  go_wp2_with fail
  generalize hW1 : w.alloc _ = W1
  have HW1 : Hid (Kept w W1 ∧ Blk W1 w.heap.size (cl n0 n1 n2 n3 n4 n5 n6 n7 (.slice sx sl sc))) := by rw [← hW1]; exact ⟨(Kept.refl w).alloc _ _, Blk.new w _ _⟩
  clear hW1
  refine (first_any _).mono ?_
  rintro e u1 ⟨rfl, K⟩
  have HW : Hid (Kept w u1 ∧ Blk u1 w.heap.size (cl n0 n1 n2 n3 n4 n5 n6 n7 (.slice sx sl sc))) := ⟨HW1.out.1.trans K, HW1.out.2.kept K⟩
  clear HW1 K
  have c0 := HW.out.2.at 0 rfl
  have c1 := HW.out.2.at 1 rfl
  have c2 := HW.out.2.at 2 rfl
  have c3 := HW.out.2.at 3 rfl
  have c4 := HW.out.2.at 4 rfl
  have c5 := HW.out.2.at 5 rfl
  have c6 := HW.out.2.at 6 rfl
  have c7 := HW.out.2.at 7 rfl
  have c8 := HW.out.2.at 8 rfl
  go_wp2_with fail
  refine (CS.out _ HW.out.1).mono ?_
  rintro e u4 ⟨rg, rfl, _, _, K⟩
  have HV : Hid (Kept w u4 ∧ Blk u4 w.heap.size (cl n0 n1 n2 n3 n4 n5 n6 n7 (.slice sx sl sc))) := ⟨HW.out.1.trans K, HW.out.2.kept K⟩
  clear HW K c0 c1 c2 c3 c4 c5 c6 c7 c8 CS
  rw [HFL.out.1, HFL.out.2]
  go_upto_region 4 with fail
  generalize hW3 : u4.alloc _ = W3
  have HW : Hid (Kept w W3 ∧ Blk W3 w.heap.size (cl n0 n1 n2 n3 n4 n5 n6 n7 (.slice sx sl sc)) ∧ Blk W3 u4.heap.size [.bool true, .slice (some ⟨rg, 0, none⟩) fl fl]) := by rw [← hW3]; exact ⟨HV.out.1.alloc _ _, HV.out.2.kept ((Kept.refl _).alloc _ _), Blk.new u4 [_, _] _⟩
  clear HV hW3
  have c0 := HW.out.2.1.at 0 rfl
  have c1 := HW.out.2.1.at 1 rfl
  have c2 := HW.out.2.1.at 2 rfl
  have c3 := HW.out.2.1.at 3 rfl
  have c4 := HW.out.2.1.at 4 rfl
  have c5 := HW.out.2.1.at 5 rfl
  have c6 := HW.out.2.1.at 6 rfl
  have c7 := HW.out.2.1.at 7 rfl
  have c8 := HW.out.2.1.at 8 rfl
  go_wp2_with fail
  refine (CF.out _ HW.out.1).mono ?_
  rintro e u5 ⟨rfl, K⟩
  have HV : Hid (Kept w u5 ∧ Blk u5 w.heap.size (cl n0 n1 n2 n3 n4 n5 n6 n7 (.slice sx sl sc)) ∧ Blk u5 u4.heap.size [.bool true, .slice (some ⟨rg, 0, none⟩) fl fl]) := ⟨HW.out.1.trans K, HW.out.2.1.kept K, HW.out.2.2.kept K⟩
  clear HW K c0 c1 c2 c3 c4 c5 c6 c7 c8 CF
  have s0 := HV.out.2.2.at 0 rfl
  have hl2 : ¬ (l : Int) > 200 := by omega
  have c0 := HV.out.2.1.at 0 rfl
  have c1 := HV.out.2.1.at 1 rfl
  have c2 := HV.out.2.1.at 2 rfl
  have c3 := HV.out.2.1.at 3 rfl
  have c4 := HV.out.2.1.at 4 rfl
  have c5 := HV.out.2.1.at 5 rfl
  have c6 := HV.out.2.1.at 6 rfl
  have c7 := HV.out.2.1.at 7 rfl
  have c8 := HV.out.2.1.at 8 rfl
  go_wp2_with fail
  refine (CA.out _ HV.out.1).mono ?_
  rintro e u6 ⟨rfl, K⟩
  have HK : Hid (Kept w u6) := HV.out.1.trans K
  clear HV K s0 c0 c1 c2 c3 c4 c5 c6 c7 c8 CA
  go_wp2_with fail
  refine (first_any _).mono ?_
  rintro e u9 ⟨rfl, K9⟩
  have K10 : Hid (Kept w u9) := HK.out.trans K9
  clear K9
  go_wp2
  go_ret
  exact ⟨rfl, K10.out⟩

set_option maxRecDepth 20000 in
set_option maxHeartbeats 4000000 in
theorem modes_bad (n0 n1 n2 n3 n4 n5 n6 n7 : Int) (sx : Option Addr) (sl sc : Nat) (S : Nat → Sh) (R : Nat → Nat → Bool) (k : Nat) ( n : Int) (x : Option Addr) (l c : Nat) (L : Nat → Int) (at' : Int) (w : World) (hS : Shps w sx sl S) (hR : ∀ i, i < sl → Refs w (S i).x (S i).l (R i)) (hc : l ≤ c) (hx : Rdf w x l L) (hk : k < sl) (hZ : (S k).l ≤ 140737488351232) (hm : Small sl S) (hab : (S k).arr = true) (hl : l ≤ 200) (hr : Asks (AG n0 n1 n2 n3 n4 n5 n6 n7 sl S L l) (AK sl S k true) (AI S k n true) (AF S k n true L l) 0) (hm1 : modeA n L l = 1) (hb : ¬ Fit n0 n1 at' (l + 1)) :
    Calls Try.prog 5 #[.agg #[.int .i64 n0, .int .i64 n1, .int .i64 n2, .int .i64 n3, .int .i64 n4, .int .i64 n5, .int .i64 n6, .int .i64 n7, .slice sx sl sc], .int .i64 k, .int .i64 n, .slice x l c, .int .i64 at'] w fun e w' => e = .returned (.bool true) ∧ Kept w w' := by
  have CF : Hid (∀ w', Kept w w' → Calls Try.prog 11 #[.agg #[.int .i64 n0, .int .i64 n1, .int .i64 n2, .int .i64 n3, .int .i64 n4, .int .i64 n5, .int .i64 n6, .int .i64 n7, .slice sx sl sc]] w' _) := fun w' k => few_any n0 n1 n2 n3 n4 n5 n6 n7 sx sl sc S true w' (hS.kept k) ⟨fun _ => hm, fun _ => rfl⟩
  have CS : Hid (∀ w', Kept w w' → Calls Try.prog 18 #[.agg #[.int .i64 n0, .int .i64 n1, .int .i64 n2, .int .i64 n3, .int .i64 n4, .int .i64 n5, .int .i64 n6, .int .i64 n7, .slice sx sl sc], .int .i64 k] w' _) := fun w' q => shape_in n0 n1 n2 n3 n4 n5 n6 n7 sx sl sc S (R k) k w' hk hZ (hS.kept q) ((hR k hk).kept q)
  obtain ⟨fl, hfe⟩ : ∃ fl, (S k).l = fl := ⟨_, rfl⟩
  obtain ⟨ab, hae⟩ : ∃ ab, (S k).arr = ab := ⟨_, rfl⟩
  have HFL : Hid ((S k).arr = ab ∧ (S k).l = fl) := ⟨hae, hfe⟩
  obtain rfl : ab = true := by rw [← hae, hab]
  have CA : Hid (∀ w', Kept w w' → Calls Try.prog 14 #[.agg #[.int .i64 n0, .int .i64 n1, .int .i64 n2, .int .i64 n3, .int .i64 n4, .int .i64 n5, .int .i64 n6, .int .i64 n7, .slice sx sl sc], .int .i64 k, .int .i64 n, .slice x l c, .int .i64 at'] w' _) := fun w' q => array_bad n0 n1 n2 n3 n4 n5 n6 n7 sx sl sc S R k n (c := c) at' w' (hS.kept q) (fun i hi => (hR i hi).kept q) (by omega) hc (hx.kept q) hr hm1 hb
  clear hS hR hk hm hZ hab hfe hae hr hm1 hb hx
  go_enter Try.func5, Try.ntmps5
  go_wp2_with fail
  generalize hW1 : w.alloc _ = W1
  have HW1 : Hid (Kept w W1 ∧ Blk W1 w.heap.size (cl n0 n1 n2 n3 n4 n5 n6 n7 (.slice sx sl sc))) := by rw [← hW1]; exact ⟨(Kept.refl w).alloc _ _, Blk.new w _ _⟩
  clear hW1
  refine (first_any _).mono ?_
  rintro e u1 ⟨rfl, K⟩
  have HW : Hid (Kept w u1 ∧ Blk u1 w.heap.size (cl n0 n1 n2 n3 n4 n5 n6 n7 (.slice sx sl sc))) := ⟨HW1.out.1.trans K, HW1.out.2.kept K⟩
  clear HW1 K
  have c0 := HW.out.2.at 0 rfl
  have c1 := HW.out.2.at 1 rfl
  have c2 := HW.out.2.at 2 rfl
  have c3 := HW.out.2.at 3 rfl
  have c4 := HW.out.2.at 4 rfl
  have c5 := HW.out.2.at 5 rfl
  have c6 := HW.out.2.at 6 rfl
  have c7 := HW.out.2.at 7 rfl
  have c8 := HW.out.2.at 8 rfl
  go_wp2_with fail
  refine (CS.out _ HW.out.1).mono ?_
  rintro e u4 ⟨rg, rfl, _, _, K⟩
  have HV : Hid (Kept w u4 ∧ Blk u4 w.heap.size (cl n0 n1 n2 n3 n4 n5 n6 n7 (.slice sx sl sc))) := ⟨HW.out.1.trans K, HW.out.2.kept K⟩
  clear HW K c0 c1 c2 c3 c4 c5 c6 c7 c8 CS
  rw [HFL.out.1, HFL.out.2]
  go_upto_region 4 with fail
  generalize hW3 : u4.alloc _ = W3
  have HW : Hid (Kept w W3 ∧ Blk W3 w.heap.size (cl n0 n1 n2 n3 n4 n5 n6 n7 (.slice sx sl sc)) ∧ Blk W3 u4.heap.size [.bool true, .slice (some ⟨rg, 0, none⟩) fl fl]) := by rw [← hW3]; exact ⟨HV.out.1.alloc _ _, HV.out.2.kept ((Kept.refl _).alloc _ _), Blk.new u4 [_, _] _⟩
  clear HV hW3
  have c0 := HW.out.2.1.at 0 rfl
  have c1 := HW.out.2.1.at 1 rfl
  have c2 := HW.out.2.1.at 2 rfl
  have c3 := HW.out.2.1.at 3 rfl
  have c4 := HW.out.2.1.at 4 rfl
  have c5 := HW.out.2.1.at 5 rfl
  have c6 := HW.out.2.1.at 6 rfl
  have c7 := HW.out.2.1.at 7 rfl
  have c8 := HW.out.2.1.at 8 rfl
  go_wp2_with fail
  refine (CF.out _ HW.out.1).mono ?_
  rintro e u5 ⟨rfl, K⟩
  have HV : Hid (Kept w u5 ∧ Blk u5 w.heap.size (cl n0 n1 n2 n3 n4 n5 n6 n7 (.slice sx sl sc)) ∧ Blk u5 u4.heap.size [.bool true, .slice (some ⟨rg, 0, none⟩) fl fl]) := ⟨HW.out.1.trans K, HW.out.2.1.kept K, HW.out.2.2.kept K⟩
  clear HW K c0 c1 c2 c3 c4 c5 c6 c7 c8 CF
  have s0 := HV.out.2.2.at 0 rfl
  have hl2 : ¬ (l : Int) > 200 := by omega
  have c0 := HV.out.2.1.at 0 rfl
  have c1 := HV.out.2.1.at 1 rfl
  have c2 := HV.out.2.1.at 2 rfl
  have c3 := HV.out.2.1.at 3 rfl
  have c4 := HV.out.2.1.at 4 rfl
  have c5 := HV.out.2.1.at 5 rfl
  have c6 := HV.out.2.1.at 6 rfl
  have c7 := HV.out.2.1.at 7 rfl
  have c8 := HV.out.2.1.at 8 rfl
  go_wp2_with fail
  refine (CA.out _ HV.out.1).mono ?_
  rintro e u6 ⟨rfl, K⟩
  have HK : Hid (Kept w u6) := HV.out.1.trans K
  clear HV K s0 c0 c1 c2 c3 c4 c5 c6 c7 c8 CA
  go_wp2_with fail
  refine (first_any _).mono ?_
  rintro e u9 ⟨rfl, K9⟩
  have K10 : Hid (Kept w u9) := HK.out.trans K9
  clear K9
  go_wp2
  go_ret
  exact ⟨rfl, K10.out⟩
end Go.Proofs.Ytpdclckgnajcdaa
