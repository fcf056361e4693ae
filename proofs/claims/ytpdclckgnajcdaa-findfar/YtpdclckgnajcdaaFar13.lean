/-
  The ways of FindFar.
-/
import Derived.Test.YtpdclckgnajcdaaMj13
namespace Go.Proofs.Ytpdclckgnajcdaa
open Go.RowKit

set_option maxRecDepth 20000 in
set_option maxHeartbeats 4000000 in
theorem far_out (n0 n1 n2 n3 n4 n5 n6 n7 : Int) (sx : Option Addr) (sl sc : Nat) (S : Nat → Sh) (kind : Int) (x : Option Addr) (l c : Nat) (w : World) (hS : Shps w sx sl S) (hk : kind < 0 ∨ (sl : Int) ≤ kind) :
    Calls Try.prog 8 #[.agg #[.int .i64 n0, .int .i64 n1, .int .i64 n2, .int .i64 n3, .int .i64 n4, .int .i64 n5, .int .i64 n6, .int .i64 n7, .slice sx sl sc], .int .i64 kind, .slice x l c] w fun e w' => e = .returned (.bool true) ∧ Kept w w' := by
  obtain ⟨p, hp⟩ := bool_iff (Small sl S)
  have CF : Hid (∀ w', Kept w w' → Calls Try.prog 11 #[.agg #[.int .i64 n0, .int .i64 n1, .int .i64 n2, .int .i64 n3, .int .i64 n4, .int .i64 n5, .int .i64 n6, .int .i64 n7, .slice sx sl sc]] w' _) := fun w' k => few_any n0 n1 n2 n3 n4 n5 n6 n7 sx sl sc S p w' (hS.kept k) hp
  have CS : Hid (∀ w', Kept w w' → Calls Try.prog 18 #[.agg #[.int .i64 n0, .int .i64 n1, .int .i64 n2, .int .i64 n3, .int .i64 n4, .int .i64 n5, .int .i64 n6, .int .i64 n7, .slice sx sl sc], .int .i64 kind] w' _) := fun w' _ => shape_out n0 n1 n2 n3 n4 n5 n6 n7 sx sl sc kind w' hk
  clear hS hk hp
  go_enter Try.func8, Try.ntmps8
  go_wp2_with fail
  generalize hW1 : w.alloc _ = W1
  have HW1 : Hid (Kept w W1 ∧ Blk W1 w.heap.size (cl n0 n1 n2 n3 n4 n5 n6 n7 (.slice sx sl sc))) := by rw [← hW1]; exact ⟨(Kept.refl w).alloc _ _, Blk.new w _ _⟩
  clear hW1
  refine (first_any _).mono ?_
  rintro e u1 ⟨rfl, K⟩
  have HW : Hid (Kept w u1 ∧ Blk u1 w.heap.size (cl n0 n1 n2 n3 n4 n5 n6 n7 (.slice sx sl sc))) := ⟨HW1.out.1.trans K, HW1.out.2.kept K⟩
  clear HW1 K
  have c0 := HW.out.2.at 0 rfl
  have c1 := HW.out.2.at 1 rfl
  have c2 := HW.out.2.at 2 rfl
  have c3 := HW.out.2.at 3 rfl
  have c4 := HW.out.2.at 4 rfl
  have c5 := HW.out.2.at 5 rfl
  have c6 := HW.out.2.at 6 rfl
  have c7 := HW.out.2.at 7 rfl
  have c8 := HW.out.2.at 8 rfl
  go_wp2_with fail
  refine (CS.out _ HW.out.1).mono ?_
  rintro e u4 ⟨rfl, K⟩
  have HV : Hid (Kept w u4 ∧ Blk u4 w.heap.size (cl n0 n1 n2 n3 n4 n5 n6 n7 (.slice sx sl sc))) := ⟨HW.out.1.trans K, HW.out.2.kept K⟩
  clear HW K c0 c1 c2 c3 c4 c5 c6 c7 c8 CS
  go_upto_region 4 with fail
  generalize hW3 : u4.alloc _ = W3
  have HW : Hid (Kept w W3 ∧ Blk W3 w.heap.size (cl n0 n1 n2 n3 n4 n5 n6 n7 (.slice sx sl sc))) := by rw [← hW3]; exact ⟨HV.out.1.alloc _ _, HV.out.2.kept ((Kept.refl _).alloc _ _)⟩
  clear HV hW3
  have c0 := HW.out.2.at 0 rfl
  have c1 := HW.out.2.at 1 rfl
  have c2 := HW.out.2.at 2 rfl
  have c3 := HW.out.2.at 3 rfl
  have c4 := HW.out.2.at 4 rfl
  have c5 := HW.out.2.at 5 rfl
  have c6 := HW.out.2.at 6 rfl
  have c7 := HW.out.2.at 7 rfl
  have c8 := HW.out.2.at 8 rfl
  go_wp2_with fail
  refine (CF.out _ HW.out.1).mono ?_
  rintro e u5 ⟨rfl, K⟩
  have HK : Hid (Kept w u5) := HW.out.1.trans K
  clear HW K c0 c1 c2 c3 c4 c5 c6 c7 c8 CF
  cases p
  · go_wp2_with fail
    refine (first_any _).mono ?_
    rintro e u9 ⟨rfl, K9⟩
    have K10 : Hid (Kept w u9) := HK.out.trans K9
    clear K9
    go_wp2
    go_ret
    exact ⟨rfl, K10.out⟩
  · go_wp2_with fail
    refine (first_any _).mono ?_
    rintro e u9 ⟨rfl, K9⟩
    have K10 : Hid (Kept w u9) := HK.out.trans K9
    clear K9
    go_wp2
    go_ret
    exact ⟨rfl, K10.out⟩

set_option maxRecDepth 20000 in
set_option maxHeartbeats 4000000 in
theorem far_early (n0 n1 n2 n3 n4 n5 n6 n7 : Int) (sx : Option Addr) (sl sc : Nat) (S : Nat → Sh) (R : Nat → Nat → Bool) (k : Nat) (x : Option Addr) (l c : Nat) (w : World) (hS : Shps w sx sl S) (hR : ∀ i, i < sl → Refs w (S i).x (S i).l (R i)) (hk : k < sl) (hZ : (S k).l ≤ 140737488351232) (hE : ¬ Small sl S ∨ (S k).arr = true ∨ 200 < l) :
    Calls Try.prog 8 #[.agg #[.int .i64 n0, .int .i64 n1, .int .i64 n2, .int .i64 n3, .int .i64 n4, .int .i64 n5, .int .i64 n6, .int .i64 n7, .slice sx sl sc], .int .i64 k, .slice x l c] w fun e w' => e = .returned (.bool true) ∧ Kept w w' := by
  obtain ⟨p, hp⟩ := bool_iff (Small sl S)
  have CF : Hid (∀ w', Kept w w' → Calls Try.prog 11 #[.agg #[.int .i64 n0, .int .i64 n1, .int .i64 n2, .int .i64 n3, .int .i64 n4, .int .i64 n5, .int .i64 n6, .int .i64 n7, .slice sx sl sc]] w' _) := fun w' k => few_any n0 n1 n2 n3 n4 n5 n6 n7 sx sl sc S p w' (hS.kept k) hp
  have CS : Hid (∀ w', Kept w w' → Calls Try.prog 18 #[.agg #[.int .i64 n0, .int .i64 n1, .int .i64 n2, .int .i64 n3, .int .i64 n4, .int .i64 n5, .int .i64 n6, .int .i64 n7, .slice sx sl sc], .int .i64 k] w' _) := fun w' q => shape_in n0 n1 n2 n3 n4 n5 n6 n7 sx sl sc S (R k) k w' hk hZ (hS.kept q) ((hR k hk).kept q)
  obtain ⟨fl, hfe⟩ : ∃ fl, (S k).l = fl := ⟨_, rfl⟩
  obtain ⟨ab, hae⟩ : ∃ ab, (S k).arr = ab := ⟨_, rfl⟩
  have HFL : Hid ((S k).arr = ab ∧ (S k).l = fl) := ⟨hae, hfe⟩
  have HE : Hid (p = true → ab = false → 200 < l) := fun h1 h2 => by
    rcases hE with q | q | q
    · exact absurd (hp.1 h1) q
    · rw [hae, h2] at q; cases q
    · exact q
  clear hS hR hk hp hE hZ hfe hae
  go_enter Try.func8, Try.ntmps8
  go_wp2_with fail
  generalize hW1 : w.alloc _ = W1
  have HW1 : Hid (Kept w W1 ∧ Blk W1 w.heap.size (cl n0 n1 n2 n3 n4 n5 n6 n7 (.slice sx sl sc))) := by rw [← hW1]; exact ⟨(Kept.refl w).alloc _ _, Blk.new w _ _⟩
  clear hW1
  refine (first_any _).mono ?_
  rintro e u1 ⟨rfl, K⟩
  have HW : Hid (Kept w u1 ∧ Blk u1 w.heap.size (cl n0 n1 n2 n3 n4 n5 n6 n7 (.slice sx sl sc))) := ⟨HW1.out.1.trans K, HW1.out.2.kept K⟩
  clear HW1 K
  have c0 := HW.out.2.at 0 rfl
  have c1 := HW.out.2.at 1 rfl
  have c2 := HW.out.2.at 2 rfl
  have c3 := HW.out.2.at 3 rfl
  have c4 := HW.out.2.at 4 rfl
  have c5 := HW.out.2.at 5 rfl
  have c6 := HW.out.2.at 6 rfl
  have c7 := HW.out.2.at 7 rfl
  have c8 := HW.out.2.at 8 rfl
  go_wp2_with fail
  refine (CS.out _ HW.out.1).mono ?_
  rintro e u4 ⟨rg, rfl, hrg, hRR, K⟩
  rw [HFL.out.2] at hRR
  have HV : Hid (Kept w u4 ∧ Blk u4 w.heap.size (cl n0 n1 n2 n3 n4 n5 n6 n7 (.slice sx sl sc)) ∧ Refs u4 (some ⟨rg, 0, none⟩) fl (R k)) := ⟨HW.out.1.trans K, HW.out.2.kept K, hRR⟩
  clear HW K c0 c1 c2 c3 c4 c5 c6 c7 c8 CS hrg hRR
  rw [HFL.out.1, HFL.out.2]
  go_upto_region 4 with fail
  generalize hW3 : u4.alloc _ = W3
  have HW : Hid (Kept w W3 ∧ Blk W3 w.heap.size (cl n0 n1 n2 n3 n4 n5 n6 n7 (.slice sx sl sc)) ∧ Blk W3 u4.heap.size [.bool ab, .slice (some ⟨rg, 0, none⟩) fl fl] ∧ Refs W3 (some ⟨rg, 0, none⟩) fl (R k)) := by rw [← hW3]; exact ⟨HV.out.1.alloc _ _, HV.out.2.1.kept ((Kept.refl _).alloc _ _), Blk.new u4 [_, _] _, HV.out.2.2.kept ((Kept.refl _).alloc _ _)⟩
  clear HV hW3
  generalize u4.heap.size = sb at *
  have c0 := HW.out.2.1.at 0 rfl
  have c1 := HW.out.2.1.at 1 rfl
  have c2 := HW.out.2.1.at 2 rfl
  have c3 := HW.out.2.1.at 3 rfl
  have c4 := HW.out.2.1.at 4 rfl
  have c5 := HW.out.2.1.at 5 rfl
  have c6 := HW.out.2.1.at 6 rfl
  have c7 := HW.out.2.1.at 7 rfl
  have c8 := HW.out.2.1.at 8 rfl
  go_wp2_with fail
  refine (CF.out _ HW.out.1).mono ?_
  rintro e u5 ⟨rfl, K⟩
  have HK : Hid (Kept w u5 ∧ Blk u5 w.heap.size (cl n0 n1 n2 n3 n4 n5 n6 n7 (.slice sx sl sc)) ∧ Blk u5 sb [.bool ab, .slice (some ⟨rg, 0, none⟩) fl fl] ∧ Refs u5 (some ⟨rg, 0, none⟩) fl (R k)) := ⟨HW.out.1.trans K, HW.out.2.1.kept K, HW.out.2.2.1.kept K, HW.out.2.2.2.kept K⟩
  clear HW K c0 c1 c2 c3 c4 c5 c6 c7 c8 CF
  have s0 := HK.out.2.2.1.at 0 rfl
  cases p
  · go_wp2_with fail
    refine (first_any _).mono ?_
    rintro e u9 ⟨rfl, K9⟩
    have K10 : Hid (Kept w u9) := HK.out.1.trans K9
    clear K9
    go_wp2
    go_ret
    exact ⟨rfl, K10.out⟩
  cases ab
  case true =>
    go_wp2_with fail
    refine (first_any _).mono ?_
    rintro e u9 ⟨rfl, K9⟩
    have K10 : Hid (Kept w u9) := HK.out.1.trans K9
    clear K9
    go_wp2
    go_ret
    exact ⟨rfl, K10.out⟩
  have hl : (l : Int) > 200 := by have := HE.out (by trivial) (by trivial); omega
  go_wp2_with fail
  refine (first_any _).mono ?_
  rintro e u9 ⟨rfl, K9⟩
  have K10 : Hid (Kept w u9) := HK.out.1.trans K9
  clear K9
  go_wp2
  go_ret
  exact ⟨rfl, K10.out⟩

set_option maxRecDepth 20000 in
set_option maxHeartbeats 4000000 in
theorem far_obj_no (n0 n1 n2 n3 n4 n5 n6 n7 : Int) (sx : Option Addr) (sl sc : Nat) (S : Nat → Sh) (R : Nat → Nat → Bool) (k : Nat) (x : Option Addr) (l c : Nat) (w : World) (hS : Shps w sx sl S) (hR : ∀ i, i < sl → Refs w (S i).x (S i).l (R i)) (hk : k < sl) (hZ : (S k).l ≤ 140737488351232) (hm : Small sl S) (hl : l ≤ 200) (hab : (S k).arr = false) 
    (r : Int) (CO : ∀ w', Kept w w' → Calls Try.prog 12 #[.agg #[.int .i64 n0, .int .i64 n1, .int .i64 n2, .int .i64 n3, .int .i64 n4, .int .i64 n5, .int .i64 n6, .int .i64 n7, .slice sx sl sc], .int .i64 k, .slice x l c] w' fun e w'' => e = .returned (.tuple #[.slice none 0 0, .int .i64 r]) ∧ Kept w' w'') (hr : r ≠ 0) :
    Calls Try.prog 8 #[.agg #[.int .i64 n0, .int .i64 n1, .int .i64 n2, .int .i64 n3, .int .i64 n4, .int .i64 n5, .int .i64 n6, .int .i64 n7, .slice sx sl sc], .int .i64 k, .slice x l c] w fun e w' => e = .returned (.bool true) ∧ Kept w w' := by
  obtain ⟨v, hv⟩ : ∃ v : Nat, Is (Good n0 n1 n2 n3 n4 n5 n6 n7 sl S) (8 * n0 + 2 * n1 + n2) (v : Int) ∧ v ≤ 100000 := by
    obtain ⟨v, hv⟩ := Is.some (Good n0 n1 n2 n3 n4 n5 n6 n7 sl S) (8 * n0 + 2 * n1 + n2)
    by_cases q : Good n0 n1 n2 n3 n4 n5 n6 n7 sl S
    · have h1 := hv.yes q
      have hf := q.1
      unfold Fits at hf
      exact ⟨v.toNat, by rw [show ((v.toNat : Nat) : Int) = v by omega]; exact hv, by omega⟩
    · have h1 := hv.no q
      exact ⟨v.toNat, by rw [show ((v.toNat : Nat) : Int) = v by omega]; exact hv, by omega⟩
  have CF : Hid (∀ w', Kept w w' → Calls Try.prog 11 #[.agg #[.int .i64 n0, .int .i64 n1, .int .i64 n2, .int .i64 n3, .int .i64 n4, .int .i64 n5, .int .i64 n6, .int .i64 n7, .slice sx sl sc]] w' _) := fun w' k => few_any n0 n1 n2 n3 n4 n5 n6 n7 sx sl sc S true w' (hS.kept k) ⟨fun _ => hm, fun _ => rfl⟩
  have CS : Hid (∀ w', Kept w w' → Calls Try.prog 18 #[.agg #[.int .i64 n0, .int .i64 n1, .int .i64 n2, .int .i64 n3, .int .i64 n4, .int .i64 n5, .int .i64 n6, .int .i64 n7, .slice sx sl sc], .int .i64 k] w' _) := fun w' q => shape_in n0 n1 n2 n3 n4 n5 n6 n7 sx sl sc S (R k) k w' hk hZ (hS.kept q) ((hR k hk).kept q)
  obtain ⟨fl, hfe⟩ : ∃ fl, (S k).l = fl := ⟨_, rfl⟩
  obtain ⟨ab, hae⟩ : ∃ ab, (S k).arr = ab := ⟨_, rfl⟩
  have HFL : Hid ((S k).arr = ab ∧ (S k).l = fl) := ⟨hae, hfe⟩
  obtain rfl : ab = false := by rw [← hae, hab]
  have CO : Hid (∀ w', Kept w w' → _) := CO
  have CL : Hid (∀ w', Kept w w' → Calls Try.prog 25 #[.agg #[.int .i64 n0, .int .i64 n1, .int .i64 n2, .int .i64 n3, .int .i64 n4, .int .i64 n5, .int .i64 n6, .int .i64 n7, .slice sx sl sc], .slice none 0 0] w' _) := fun w' q => fill_nil n0 n1 n2 n3 n4 n5 n6 n7 sx sl sc S v w' (hS.kept q) hv.1 hv.2
  have er : (r != 0) = true := by simpa using hr
  have er2 : (r == 0) = false := by simpa using hr
  clear hS hR hk hm hZ hab hfe hae hv hr
  go_enter Try.func8, Try.ntmps8
  go_wp2_with fail
  generalize hW1 : w.alloc _ = W1
  have HW1 : Hid (Kept w W1 ∧ Blk W1 w.heap.size (cl n0 n1 n2 n3 n4 n5 n6 n7 (.slice sx sl sc))) := by rw [← hW1]; exact ⟨(Kept.refl w).alloc _ _, Blk.new w _ _⟩
  clear hW1
  refine (first_any _).mono ?_
  rintro e u1 ⟨rfl, K⟩
  have HW : Hid (Kept w u1 ∧ Blk u1 w.heap.size (cl n0 n1 n2 n3 n4 n5 n6 n7 (.slice sx sl sc))) := ⟨HW1.out.1.trans K, HW1.out.2.kept K⟩
  clear HW1 K
  have c0 := HW.out.2.at 0 rfl
  have c1 := HW.out.2.at 1 rfl
  have c2 := HW.out.2.at 2 rfl
  have c3 := HW.out.2.at 3 rfl
  have c4 := HW.out.2.at 4 rfl
  have c5 := HW.out.2.at 5 rfl
  have c6 := HW.out.2.at 6 rfl
  have c7 := HW.out.2.at 7 rfl
  have c8 := HW.out.2.at 8 rfl
  go_wp2_with fail
  refine (CS.out _ HW.out.1).mono ?_
  rintro e u4 ⟨rg, rfl, hrg, hRR, K⟩
  rw [HFL.out.2] at hRR
  have HV : Hid (Kept w u4 ∧ Blk u4 w.heap.size (cl n0 n1 n2 n3 n4 n5 n6 n7 (.slice sx sl sc)) ∧ Refs u4 (some ⟨rg, 0, none⟩) fl (R k)) := ⟨HW.out.1.trans K, HW.out.2.kept K, hRR⟩
  clear HW K c0 c1 c2 c3 c4 c5 c6 c7 c8 CS hrg hRR
  rw [HFL.out.1, HFL.out.2]
  go_upto_region 4 with fail
  generalize hW3 : u4.alloc _ = W3
  have HW : Hid (Kept w W3 ∧ Blk W3 w.heap.size (cl n0 n1 n2 n3 n4 n5 n6 n7 (.slice sx sl sc)) ∧ Blk W3 u4.heap.size [.bool false, .slice (some ⟨rg, 0, none⟩) fl fl] ∧ Refs W3 (some ⟨rg, 0, none⟩) fl (R k)) := by rw [← hW3]; exact ⟨HV.out.1.alloc _ _, HV.out.2.1.kept ((Kept.refl _).alloc _ _), Blk.new u4 [_, _] _, HV.out.2.2.kept ((Kept.refl _).alloc _ _)⟩
  clear HV hW3
  generalize u4.heap.size = sb at *
  have c0 := HW.out.2.1.at 0 rfl
  have c1 := HW.out.2.1.at 1 rfl
  have c2 := HW.out.2.1.at 2 rfl
  have c3 := HW.out.2.1.at 3 rfl
  have c4 := HW.out.2.1.at 4 rfl
  have c5 := HW.out.2.1.at 5 rfl
  have c6 := HW.out.2.1.at 6 rfl
  have c7 := HW.out.2.1.at 7 rfl
  have c8 := HW.out.2.1.at 8 rfl
  go_wp2_with fail
  refine (CF.out _ HW.out.1).mono ?_
  rintro e u5 ⟨rfl, K⟩
  have HK : Hid (Kept w u5 ∧ Blk u5 w.heap.size (cl n0 n1 n2 n3 n4 n5 n6 n7 (.slice sx sl sc)) ∧ Blk u5 sb [.bool false, .slice (some ⟨rg, 0, none⟩) fl fl] ∧ Refs u5 (some ⟨rg, 0, none⟩) fl (R k)) := ⟨HW.out.1.trans K, HW.out.2.1.kept K, HW.out.2.2.1.kept K, HW.out.2.2.2.kept K⟩
  clear HW K c0 c1 c2 c3 c4 c5 c6 c7 c8 CF
  have s0 := HK.out.2.2.1.at 0 rfl
  have hl2 : ¬ (l : Int) > 200 := by omega
  have hcb := HK.out.2.1
  have c0 := hcb.at 0 rfl
  have c1 := hcb.at 1 rfl
  have c2 := hcb.at 2 rfl
  have c3 := hcb.at 3 rfl
  have c4 := hcb.at 4 rfl
  have c5 := hcb.at 5 rfl
  have c6 := hcb.at 6 rfl
  have c7 := hcb.at 7 rfl
  have c8 := hcb.at 8 rfl
  clear hcb
  go_wp2_with fail
  refine (CO.out _ HK.out.1).mono ?_
  rintro e u7 ⟨rfl, K⟩
  have HK7 : Hid (Kept w u7 ∧ Blk u7 w.heap.size (cl n0 n1 n2 n3 n4 n5 n6 n7 (.slice sx sl sc)) ∧ Blk u7 sb [.bool false, .slice (some ⟨rg, 0, none⟩) fl fl] ∧ Refs u7 (some ⟨rg, 0, none⟩) fl (R k)) := ⟨HK.out.1.trans K, HK.out.2.1.kept K, HK.out.2.2.1.kept K, HK.out.2.2.2.kept K⟩
  clear HK K c0 c1 c2 c3 c4 c5 c6 c7 c8 s0 CO
  have hcb := HK7.out.2.1
  have c0 := hcb.at 0 rfl
  have c1 := hcb.at 1 rfl
  have c2 := hcb.at 2 rfl
  have c3 := hcb.at 3 rfl
  have c4 := hcb.at 4 rfl
  have c5 := hcb.at 5 rfl
  have c6 := hcb.at 6 rfl
  have c7 := hcb.at 7 rfl
  have c8 := hcb.at 8 rfl
  have s0 := HK7.out.2.2.1.at 0 rfl
  have s1 := HK7.out.2.2.1.at 1 rfl
  clear hcb
  go_wp2_with fail
  refine (CL.out _ HK7.out.1).mono ?_
  rintro e u8 ⟨b, M, rfl, _, K8, _, _⟩
  have HK8 : Hid (Kept w u8) := HK7.out.1.trans K8
  clear HK7 K8 c0 c1 c2 c3 c4 c5 c6 c7 c8 s0 s1 CL
  go_wp2_with fail
  refine (first_any _).mono ?_
  rintro e u9 ⟨rfl, K9⟩
  have K10 : Hid (Kept w u9) := HK8.out.trans K9
  clear K9
  go_wp2
  go_ret
  exact ⟨rfl, K10.out⟩

set_option maxRecDepth 20000 in
set_option maxHeartbeats 8000000 in
theorem far_obj_yes (n0 n1 n2 n3 n4 n5 n6 n7 : Int) (sx : Option Addr) (sl sc : Nat) (S : Nat → Sh) (R : Nat → Nat → Bool) (k : Nat) (x : Option Addr) (l c : Nat) (L : Nat → Int) (w : World) (hS : Shps w sx sl S) (hR : ∀ i, i < sl → Refs w (S i).x (S i).l (R i)) (hk : k < sl) (hZ : (S k).l ≤ 140737488351232) (hm : Small sl S) (hl : l ≤ 200) (hab : (S k).arr = false) 
    (N : Nat) (fw : Nat → Wr) (CO : ∀ w', Kept w w' → Calls Try.prog 12 #[.agg #[.int .i64 n0, .int .i64 n1, .int .i64 n2, .int .i64 n3, .int .i64 n4, .int .i64 n5, .int .i64 n6, .int .i64 n7, .slice sx sl sc], .int .i64 k, .slice x l c] w' fun e w'' => ∃ v, e = .returned (.tuple #[v, .int .i64 0]) ∧ Ws w'' w'.heap.size v N fw ∧ Kept w' w'') (hN0 : 0 < N) (hN : N ≤ 2000) (hg : Good n0 n1 n2 n3 n4 n5 n6 n7 sl S) (n' : Nat) (hn' : (n' : Int) = 8 * n0 + 2 * n1 + n2) (hA : ∀ i, i < N → ∃ a : Nat, a < n' ∧ (fw i).a = (a : Int))
    (hx : Rdf w x l L) (hl0 : 0 < l) (hL0 : 0 ≤ L 0 ∧ L 0 < n0) (hgo : ∀ j, j < (S k).l → ∀ p E, Began n0 n1 sl S R E → ∃ T St, Goes p E n' (wrt fw N) T St ∧ St 0 = fd0 (L 0) j false ∧ T = (if sideU L l then 1 else 1 + (j + 1) / 7)) (hB : ∀ j, j < l → IntKind.min .i64 ≤ L j ∧ L j ≤ IntKind.max .i64) :
    Calls Try.prog 8 #[.agg #[.int .i64 n0, .int .i64 n1, .int .i64 n2, .int .i64 n3, .int .i64 n4, .int .i64 n5, .int .i64 n6, .int .i64 n7, .slice sx sl sc], .int .i64 k, .slice x l c] w fun e w' => e = .returned (.bool true) ∧ Kept w w' := by
  have hnb : n' ≤ 100000 := by
    have hf := hg.1
    unfold Fits at hf
    omega
  have CF : Hid (∀ w', Kept w w' → Calls Try.prog 11 #[.agg #[.int .i64 n0, .int .i64 n1, .int .i64 n2, .int .i64 n3, .int .i64 n4, .int .i64 n5, .int .i64 n6, .int .i64 n7, .slice sx sl sc]] w' _) := fun w' k => few_any n0 n1 n2 n3 n4 n5 n6 n7 sx sl sc S true w' (hS.kept k) ⟨fun _ => hm, fun _ => rfl⟩
  have CS : Hid (∀ w', Kept w w' → Calls Try.prog 18 #[.agg #[.int .i64 n0, .int .i64 n1, .int .i64 n2, .int .i64 n3, .int .i64 n4, .int .i64 n5, .int .i64 n6, .int .i64 n7, .slice sx sl sc], .int .i64 k] w' _) := fun w' q => shape_in n0 n1 n2 n3 n4 n5 n6 n7 sx sl sc S (R k) k w' hk hZ (hS.kept q) ((hR k hk).kept q)
  obtain ⟨fl, hfe⟩ : ∃ fl, (S k).l = fl := ⟨_, rfl⟩
  obtain ⟨ab, hae⟩ : ∃ ab, (S k).arr = ab := ⟨_, rfl⟩
  have HFL : Hid ((S k).arr = ab ∧ (S k).l = fl) := ⟨hae, hfe⟩
  obtain rfl : ab = false := by rw [← hae, hab]
  have CO : Hid (∀ w', Kept w w' → _) := CO
  have CL : Hid (∀ w', Kept w w' → Calls Try.prog 25 #[.agg #[.int .i64 n0, .int .i64 n1, .int .i64 n2, .int .i64 n3, .int .i64 n4, .int .i64 n5, .int .i64 n6, .int .i64 n7, .slice sx sl sc], .slice none 0 0] w' _) := fun w' q => fill_nil n0 n1 n2 n3 n4 n5 n6 n7 sx sl sc S n' w' (hS.kept q) (by rw [hn']; exact Is.is _ hg) hnb
  have HSR : Hid (Shps w sx sl S ∧ (∀ i, i < sl → Refs w (S i).x (S i).l (R i)) ∧ Good n0 n1 n2 n3 n4 n5 n6 n7 sl S ∧ 0 ≤ L 0 ∧ L 0 < n0) := ⟨hS, hR, hg, hL0.1, hL0.2⟩
  have HA : Hid (∀ i, i < N → ∃ a : Nat, a < n' ∧ (fw i).a = (a : Int)) := hA
  obtain ⟨xb, xo, rfl, hxb, hxc⟩ := hx hl0
  have HX : Hid (xb < w.heap.size ∧ ∀ j, j < l → w.cell? ⟨xb, xo + j, none⟩ = some (.int .i64 (L j))) := ⟨hxb, hxc⟩
  obtain ⟨cc, rfl⟩ : ∃ cc, cc = c := ⟨_, rfl⟩
  rw [hfe] at hgo
  have HGO0 : Hid (∀ j, j < fl → ∀ p E, Began n0 n1 sl S R E → ∃ T St, Goes p E n' (wrt fw N) T St ∧ St 0 = fd0 (L 0) j false ∧ T = (if sideU L l then 1 else 1 + (j + 1) / 7)) := hgo
  have h40 : fl ≤ 40 := by rw [← hfe]; exact may_few (hg.2.2.2 k hk)
  have CP : Hid (∀ j i7 : Nat, (j + 1) / 7 = i7 → j < fl → ∀ g u, Calls Try.prog 23 #[.agg #[.bool false, .slice (some ⟨g, 0, none⟩) fl fl], .int .i64 (j : Int)] u fun e w' => e = .returned (.tuple #[.int .i64 (i7 : Int), .int .i64 (1 + ((j : Int) + 1) % 7), .bool true]) ∧ Kept u w') := fun j i7 h7 hj g u => place_in (some ⟨g, 0, none⟩) fl fl j _ _ u h40 (by omega) (by omega) (by omega) rfl
  have CSD : Hid (∀ w', Kept w w' → Calls Try.prog 20 #[.slice (some ⟨xb, xo, none⟩) l cc] w' _) := fun w' q => rside_any (c := cc) w' (by omega) (hx.kept q) hB
  clear hgo hB
  clear hS hR hk hm hZ hab hfe hae hg hn' hA hx hxb hxc hL0
  go_enter Try.func8, Try.ntmps8
  go_wp2_with fail
  generalize hW1 : w.alloc _ = W1
  have HW1 : Hid (Kept w W1 ∧ Blk W1 w.heap.size (cl n0 n1 n2 n3 n4 n5 n6 n7 (.slice sx sl sc))) := by rw [← hW1]; exact ⟨(Kept.refl w).alloc _ _, Blk.new w _ _⟩
  clear hW1
  refine (first_any _).mono ?_
  rintro e u1 ⟨rfl, K⟩
  have HW : Hid (Kept w u1 ∧ Blk u1 w.heap.size (cl n0 n1 n2 n3 n4 n5 n6 n7 (.slice sx sl sc))) := ⟨HW1.out.1.trans K, HW1.out.2.kept K⟩
  clear HW1 K
  have c0 := HW.out.2.at 0 rfl
  have c1 := HW.out.2.at 1 rfl
  have c2 := HW.out.2.at 2 rfl
  have c3 := HW.out.2.at 3 rfl
  have c4 := HW.out.2.at 4 rfl
  have c5 := HW.out.2.at 5 rfl
  have c6 := HW.out.2.at 6 rfl
  have c7 := HW.out.2.at 7 rfl
  have c8 := HW.out.2.at 8 rfl
  go_wp2_with fail
  refine (CS.out _ HW.out.1).mono ?_
  rintro e u4 ⟨rg, rfl, hrg, hRR, K⟩
  rw [HFL.out.2] at hRR
  have HV : Hid (Kept w u4 ∧ Blk u4 w.heap.size (cl n0 n1 n2 n3 n4 n5 n6 n7 (.slice sx sl sc)) ∧ Refs u4 (some ⟨rg, 0, none⟩) fl (R k)) := ⟨HW.out.1.trans K, HW.out.2.kept K, hRR⟩
  clear HW K c0 c1 c2 c3 c4 c5 c6 c7 c8 CS hrg hRR
  rw [HFL.out.1, HFL.out.2]
  go_upto_region 4 with fail
  generalize hW3 : u4.alloc _ = W3
  have HW : Hid (Kept w W3 ∧ Blk W3 w.heap.size (cl n0 n1 n2 n3 n4 n5 n6 n7 (.slice sx sl sc)) ∧ Blk W3 u4.heap.size [.bool false, .slice (some ⟨rg, 0, none⟩) fl fl] ∧ Refs W3 (some ⟨rg, 0, none⟩) fl (R k)) := by rw [← hW3]; exact ⟨HV.out.1.alloc _ _, HV.out.2.1.kept ((Kept.refl _).alloc _ _), Blk.new u4 [_, _] _, HV.out.2.2.kept ((Kept.refl _).alloc _ _)⟩
  clear HV hW3
  generalize u4.heap.size = sb at *
  have c0 := HW.out.2.1.at 0 rfl
  have c1 := HW.out.2.1.at 1 rfl
  have c2 := HW.out.2.1.at 2 rfl
  have c3 := HW.out.2.1.at 3 rfl
  have c4 := HW.out.2.1.at 4 rfl
  have c5 := HW.out.2.1.at 5 rfl
  have c6 := HW.out.2.1.at 6 rfl
  have c7 := HW.out.2.1.at 7 rfl
  have c8 := HW.out.2.1.at 8 rfl
  go_wp2_with fail
  refine (CF.out _ HW.out.1).mono ?_
  rintro e u5 ⟨rfl, K⟩
  have HK : Hid (Kept w u5 ∧ Blk u5 w.heap.size (cl n0 n1 n2 n3 n4 n5 n6 n7 (.slice sx sl sc)) ∧ Blk u5 sb [.bool false, .slice (some ⟨rg, 0, none⟩) fl fl] ∧ Refs u5 (some ⟨rg, 0, none⟩) fl (R k)) := ⟨HW.out.1.trans K, HW.out.2.1.kept K, HW.out.2.2.1.kept K, HW.out.2.2.2.kept K⟩
  clear HW K c0 c1 c2 c3 c4 c5 c6 c7 c8 CF
  have s0 := HK.out.2.2.1.at 0 rfl
  have hl2 : ¬ (l : Int) > 200 := by omega
  have hcb := HK.out.2.1
  have c0 := hcb.at 0 rfl
  have c1 := hcb.at 1 rfl
  have c2 := hcb.at 2 rfl
  have c3 := hcb.at 3 rfl
  have c4 := hcb.at 4 rfl
  have c5 := hcb.at 5 rfl
  have c6 := hcb.at 6 rfl
  have c7 := hcb.at 7 rfl
  have c8 := hcb.at 8 rfl
  clear hcb
  go_wp2_with fail
  refine (CO.out _ HK.out.1).mono ?_
  rintro e u7 ⟨v, rfl, hv, K⟩
  have HK7 : Hid (Kept w u7 ∧ Blk u7 w.heap.size (cl n0 n1 n2 n3 n4 n5 n6 n7 (.slice sx sl sc)) ∧ Blk u7 sb [.bool false, .slice (some ⟨rg, 0, none⟩) fl fl] ∧ Refs u7 (some ⟨rg, 0, none⟩) fl (R k)) := ⟨HK.out.1.trans K, HK.out.2.1.kept K, HK.out.2.2.1.kept K, HK.out.2.2.2.kept K⟩
  clear HK K c0 c1 c2 c3 c4 c5 c6 c7 c8 s0 CO
  have hcb := HK7.out.2.1
  have c0 := hcb.at 0 rfl
  have c1 := hcb.at 1 rfl
  have c2 := hcb.at 2 rfl
  have c3 := hcb.at 3 rfl
  have c4 := hcb.at 4 rfl
  have c5 := hcb.at 5 rfl
  have c6 := hcb.at 6 rfl
  have c7 := hcb.at 7 rfl
  have c8 := hcb.at 8 rfl
  have s0 := HK7.out.2.2.1.at 0 rfl
  have s1 := HK7.out.2.2.1.at 1 rfl
  clear hcb
  obtain ⟨g, dd, rfl, hg1, hg2, hgc⟩ := hv.here hN0
  clear hv
  go_wp2_with fail
  refine (CL.out _ HK7.out.1).mono ?_
  rintro e W ⟨b, M, rfl, hM, K8, hb8, hM8⟩
  have HMM : Hid (Mm W b M n' (fun _ => cz) 0) := hM
  have HWS : Hid (g < W.heap.size ∧ g ≠ M ∧ g ≠ b ∧ ∀ i, i < N → W.cell? ⟨g, i * 2, none⟩ = some (.int .i64 (fw i).a) ∧ W.cell? ⟨g, i * 2 + 1, none⟩ = some (.complex .f64 (fw i).z.re (fw i).z.im)) :=
    ⟨by have := K8.size; omega, by omega, by omega, fun i hi => ⟨(K8.cell hg2).trans (hgc i hi).1, (K8.cell hg2).trans (hgc i hi).2⟩⟩
  have HKU : Hid (Kept w u7 ∧ Blk u7 w.heap.size (cl n0 n1 n2 n3 n4 n5 n6 n7 (.slice sx sl sc)) ∧ Blk u7 sb [.bool false, .slice (some ⟨rg, 0, none⟩) fl fl] ∧ Refs u7 (some ⟨rg, 0, none⟩) fl (R k) ∧ Kept u7 W ∧ u7.heap.size ≤ b ∧ u7.heap.size ≤ M) := ⟨HK7.out.1, HK7.out.2.1, HK7.out.2.2.1, HK7.out.2.2.2, K8, hb8, hM8⟩
  have hlz : ((l : Int) == 0) = false := by simp; omega
  clear HK7 hM K8 hb8 hM8 hg1 hg2 hgc CL c0 c1 c2 c3 c4 c5 c6 c7 c8 s0 s1
  go_wp2_with fail
  go_loopg [12] N (fun m i wr => ∃ k : Nat, i = .int .i64 k ∧ k ≤ N ∧ m = N - k ∧ Hid (Mut [M, b] W wr ∧ Mm wr b M n' (wrt fw k) k))
  case atStart => exact ⟨0, rfl, by omega, by omega, Mut.refl _ _, HMM.out⟩
  case round =>
    obtain ⟨k, rfl, hk, hm, hw⟩ := hrel
    have HM : Hid _ := hm
    clear hm
    by_cases hlt : k < N
    · obtain ⟨a, han, hfa⟩ := HA.out k hlt
      go_wp2_with fail
      refine wp_region_phase [(.pointer (some ⟨M, 0, none⟩)), (.slice (some ⟨g, 0, none⟩) N dd), (.int .i64 (k : Int)), (.pointer (some ⟨g, k * 2, none⟩)), (.pointer (some ⟨g, k * 2, none⟩)), (.int .i64 (a : Int)), (.slice (some ⟨g, 0, none⟩) N dd), (.int .i64 (k : Int)), (.pointer (some ⟨g, k * 2, none⟩)), (.pointer (some ⟨g, k * 2 + 1, none⟩)), (.complex .f64 (fw k).z.re (fw k).z.im), (.int .i64 0)] [(77, 0), (78, 1), (79, 2), (80, 3), (81, 4), (82, 5), (83, 6), (84, 7), (85, 8), (86, 9), (87, 10), (88, 11)] [_, _, _, _, _, _, _, _, _, _, _, _, _, _, _, _, _, _, _, _, _, _, _, _, _, _, _, _, _, _, _, _, _, _, _, _, _, _, _, _, _, _, _, _, _, _, _, _, _, _, _, _, _, _, _, _, _, _, _, _, _, _, _, _, _, _, _, _, _, _, _, _, _, _, _, _, _, _, _, _, _, _, _, _, _, _, _, _, _, _, _, _, _, _, _, _, _, _, _, _, _, _, _, _, _, _, _, _, _, _, _, _, _, _, _, _, _, _, _, _, _, _, _, _, _, _, _, _, _, _, _, _, _, _, _, _, _, _] (fun d u => Mm u b M n' (wrt fw (if d 11 then k + 1 else k)) (if d 11 then k + 1 else k) ∧ Mut [M, b] W u) (by kernel_rfl) (by kernel_rfl) (by kernel_rfl) (by kernel_rfl) rfl ?_ ?_ ?_
      · exact ⟨by simpa using hw.out.2.kept (Kept.refl _).drew, hw.out.1.drew⟩
      · intro i1 o ho a1 d u hh hj hi hd
        match i1, ho, hi, hd with
        | 0, ho, hi, hd =>
          simp only [List.getElem?_cons_zero, Option.some.injEq] at ho
          subst ho
          have g11 : a1.tmps[11]? = some (.pointer (some ⟨M, 0, none⟩)) := hh.old 11 (by kernel_rfl) rfl
          clear hh hd
          have HN : Hid (Mm u b M n' (wrt fw (if done d 0 11 then k + 1 else k)) (if done d 0 11 then k + 1 else k) ∧ Mut [M, b] W u) := (by simpa [done] using hj : Mm u b M n' (wrt fw (if done d 0 11 then k + 1 else k)) (if done d 0 11 then k + 1 else k) ∧ Mut [M, b] W u)
          clear hj hi
          refine wpOp_step rfl (fun K hK => ?_)
          go_simp
          exact hK _ _ ⟨by simp [Act.put], HN.out⟩
        | 1, ho, hi, hd =>
          simp only [List.getElem?_cons_succ, List.getElem?_cons_zero, Option.some.injEq] at ho
          subst ho
          have g9 : a1.tmps[9]? = some (.slice (some ⟨g, 0, none⟩) N dd) := hh.old 9 (by kernel_rfl) rfl
          clear hh hd
          have HN : Hid (Mm u b M n' (wrt fw (if done d 1 11 then k + 1 else k)) (if done d 1 11 then k + 1 else k) ∧ Mut [M, b] W u) := (by simpa [done] using hj : Mm u b M n' (wrt fw (if done d 1 11 then k + 1 else k)) (if done d 1 11 then k + 1 else k) ∧ Mut [M, b] W u)
          clear hj hi
          refine wpOp_step rfl (fun K hK => ?_)
          go_simp
          exact hK _ _ ⟨by simp [Act.put], HN.out⟩
        | 2, ho, hi, hd =>
          simp only [List.getElem?_cons_succ, List.getElem?_cons_zero, Option.some.injEq] at ho
          subst ho
          have g12 : a1.tmps[12]? = some (.int .i64 (k : Int)) := hh.old 12 (by kernel_rfl) rfl
          clear hh hd
          have HN : Hid (Mm u b M n' (wrt fw (if done d 2 11 then k + 1 else k)) (if done d 2 11 then k + 1 else k) ∧ Mut [M, b] W u) := (by simpa [done] using hj : Mm u b M n' (wrt fw (if done d 2 11 then k + 1 else k)) (if done d 2 11 then k + 1 else k) ∧ Mut [M, b] W u)
          clear hj hi
          refine wpOp_step rfl (fun K hK => ?_)
          go_simp
          exact hK _ _ ⟨by simp [Act.put], HN.out⟩
        | 3, ho, hi, hd =>
          simp only [List.getElem?_cons_succ, List.getElem?_cons_zero, Option.some.injEq] at ho
          subst ho
          have g78 : a1.tmps[78]? = some (.slice (some ⟨g, 0, none⟩) N dd) := hh.did 1 _ 78 rfl rfl (hd { on := 1, ground := .data } (by simp) rfl)
          have g79 : a1.tmps[79]? = some (.int .i64 (k : Int)) := hh.did 2 _ 79 rfl rfl (hd { on := 2, ground := .data } (by simp) rfl)
          clear hh hd
          have HN : Hid (Mm u b M n' (wrt fw (if done d 3 11 then k + 1 else k)) (if done d 3 11 then k + 1 else k) ∧ Mut [M, b] W u) := (by simpa [done] using hj : Mm u b M n' (wrt fw (if done d 3 11 then k + 1 else k)) (if done d 3 11 then k + 1 else k) ∧ Mut [M, b] W u)
          clear hj hi
          refine wpOp_step rfl (fun K hK => ?_)
          go_simp
          exact hK _ _ ⟨by simp [Act.put], HN.out⟩
        | 4, ho, hi, hd =>
          simp only [List.getElem?_cons_succ, List.getElem?_cons_zero, Option.some.injEq] at ho
          subst ho
          have g80 : a1.tmps[80]? = some (.pointer (some ⟨g, k * 2, none⟩)) := hh.did 3 _ 80 rfl rfl (hd { on := 3, ground := .data } (by simp) rfl)
          clear hh hd
          have HN : Hid (Mm u b M n' (wrt fw (if done d 4 11 then k + 1 else k)) (if done d 4 11 then k + 1 else k) ∧ Mut [M, b] W u) := (by simpa [done] using hj : Mm u b M n' (wrt fw (if done d 4 11 then k + 1 else k)) (if done d 4 11 then k + 1 else k) ∧ Mut [M, b] W u)
          clear hj hi
          refine wpOp_step rfl (fun K hK => ?_)
          go_simp
          exact hK _ _ ⟨by simp [Act.put], HN.out⟩
        | 5, ho, hi, hd =>
          simp only [List.getElem?_cons_succ, List.getElem?_cons_zero, Option.some.injEq] at ho
          subst ho
          have g81 : a1.tmps[81]? = some (.pointer (some ⟨g, k * 2, none⟩)) := hh.did 4 _ 81 rfl rfl (hd { on := 4, ground := .data } (by simp) rfl)
          have ca : u.cell? ⟨g, k * 2, none⟩ = some (.int .i64 (a : Int)) := (hj.2.cell HWS.out.1 (by have := HWS.out.2.1; have := HWS.out.2.2.1; simp; omega)).trans (by rw [← hfa]; exact (HWS.out.2.2.2 k hlt).1)
          clear hh hd
          have HN : Hid (Mm u b M n' (wrt fw (if done d 5 11 then k + 1 else k)) (if done d 5 11 then k + 1 else k) ∧ Mut [M, b] W u) := (by simpa [done] using hj : Mm u b M n' (wrt fw (if done d 5 11 then k + 1 else k)) (if done d 5 11 then k + 1 else k) ∧ Mut [M, b] W u)
          clear hj hi
          refine wpOp_step rfl (fun K hK => ?_)
          go_simp
          exact hK _ _ ⟨by simp [Act.put], HN.out⟩
        | 6, ho, hi, hd =>
          simp only [List.getElem?_cons_succ, List.getElem?_cons_zero, Option.some.injEq] at ho
          subst ho
          have g9 : a1.tmps[9]? = some (.slice (some ⟨g, 0, none⟩) N dd) := hh.old 9 (by kernel_rfl) rfl
          clear hh hd
          have HN : Hid (Mm u b M n' (wrt fw (if done d 6 11 then k + 1 else k)) (if done d 6 11 then k + 1 else k) ∧ Mut [M, b] W u) := (by simpa [done] using hj : Mm u b M n' (wrt fw (if done d 6 11 then k + 1 else k)) (if done d 6 11 then k + 1 else k) ∧ Mut [M, b] W u)
          clear hj hi
          refine wpOp_step rfl (fun K hK => ?_)
          go_simp
          exact hK _ _ ⟨by simp [Act.put], HN.out⟩
        | 7, ho, hi, hd =>
          simp only [List.getElem?_cons_succ, List.getElem?_cons_zero, Option.some.injEq] at ho
          subst ho
          have g12 : a1.tmps[12]? = some (.int .i64 (k : Int)) := hh.old 12 (by kernel_rfl) rfl
          clear hh hd
          have HN : Hid (Mm u b M n' (wrt fw (if done d 7 11 then k + 1 else k)) (if done d 7 11 then k + 1 else k) ∧ Mut [M, b] W u) := (by simpa [done] using hj : Mm u b M n' (wrt fw (if done d 7 11 then k + 1 else k)) (if done d 7 11 then k + 1 else k) ∧ Mut [M, b] W u)
          clear hj hi
          refine wpOp_step rfl (fun K hK => ?_)
          go_simp
          exact hK _ _ ⟨by simp [Act.put], HN.out⟩
        | 8, ho, hi, hd =>
          simp only [List.getElem?_cons_succ, List.getElem?_cons_zero, Option.some.injEq] at ho
          subst ho
          have g83 : a1.tmps[83]? = some (.slice (some ⟨g, 0, none⟩) N dd) := hh.did 6 _ 83 rfl rfl (hd { on := 6, ground := .data } (by simp) rfl)
          have g84 : a1.tmps[84]? = some (.int .i64 (k : Int)) := hh.did 7 _ 84 rfl rfl (hd { on := 7, ground := .data } (by simp) rfl)
          clear hh hd
          have HN : Hid (Mm u b M n' (wrt fw (if done d 8 11 then k + 1 else k)) (if done d 8 11 then k + 1 else k) ∧ Mut [M, b] W u) := (by simpa [done] using hj : Mm u b M n' (wrt fw (if done d 8 11 then k + 1 else k)) (if done d 8 11 then k + 1 else k) ∧ Mut [M, b] W u)
          clear hj hi
          refine wpOp_step rfl (fun K hK => ?_)
          go_simp
          exact hK _ _ ⟨by simp [Act.put], HN.out⟩
        | 9, ho, hi, hd =>
          simp only [List.getElem?_cons_succ, List.getElem?_cons_zero, Option.some.injEq] at ho
          subst ho
          have g85 : a1.tmps[85]? = some (.pointer (some ⟨g, k * 2, none⟩)) := hh.did 8 _ 85 rfl rfl (hd { on := 8, ground := .data } (by simp) rfl)
          clear hh hd
          have HN : Hid (Mm u b M n' (wrt fw (if done d 9 11 then k + 1 else k)) (if done d 9 11 then k + 1 else k) ∧ Mut [M, b] W u) := (by simpa [done] using hj : Mm u b M n' (wrt fw (if done d 9 11 then k + 1 else k)) (if done d 9 11 then k + 1 else k) ∧ Mut [M, b] W u)
          clear hj hi
          refine wpOp_step rfl (fun K hK => ?_)
          go_simp
          exact hK _ _ ⟨by simp [Act.put], HN.out⟩
        | 10, ho, hi, hd =>
          simp only [List.getElem?_cons_succ, List.getElem?_cons_zero, Option.some.injEq] at ho
          subst ho
          have g86 : a1.tmps[86]? = some (.pointer (some ⟨g, k * 2 + 1, none⟩)) := hh.did 9 _ 86 rfl rfl (hd { on := 9, ground := .data } (by simp) rfl)
          have cb : u.cell? ⟨g, k * 2 + 1, none⟩ = some (.complex .f64 (fw k).z.re (fw k).z.im) := (hj.2.cell HWS.out.1 (by have := HWS.out.2.1; have := HWS.out.2.2.1; simp; omega)).trans (HWS.out.2.2.2 k hlt).2
          clear hh hd
          have HN : Hid (Mm u b M n' (wrt fw (if done d 10 11 then k + 1 else k)) (if done d 10 11 then k + 1 else k) ∧ Mut [M, b] W u) := (by simpa [done] using hj : Mm u b M n' (wrt fw (if done d 10 11 then k + 1 else k)) (if done d 10 11 then k + 1 else k) ∧ Mut [M, b] W u)
          clear hj hi
          refine wpOp_step rfl (fun K hK => ?_)
          go_simp
          exact hK _ _ ⟨by simp [Act.put], HN.out⟩
        | 11, ho, hi, hd =>
          simp only [List.getElem?_cons_succ, List.getElem?_cons_zero, Option.some.injEq] at ho
          subst ho
          have g77 : a1.tmps[77]? = some (.pointer (some ⟨M, 0, none⟩)) := hh.did 0 _ 77 rfl rfl (hd { on := 0, ground := .data } (by simp) rfl)
          have g82 : a1.tmps[82]? = some (.int .i64 (a : Int)) := hh.did 5 _ 82 rfl rfl (hd { on := 5, ground := .data } (by simp) rfl)
          have g87 : a1.tmps[87]? = some (.complex .f64 (fw k).z.re (fw k).z.im) := hh.did 10 _ 87 rfl rfl (hd { on := 10, ground := .data } (by simp) rfl)
          have CA := mem_write (G := wrt fw (k + 1)) a (fw k).z u (by have B := hj.1; simp only [hi, Bool.false_eq_true, if_false] at B; exact B) han (by omega) (fun j _ => wrt_step hfa j)
          clear hh hd
          have HN : Hid (∀ u', Mm u' b M n' (wrt fw (k + 1)) (k + 1) → Mut [M, b] u u' → Mm u' b M n' (wrt fw (if done d 11 11 then k + 1 else k)) (if done d 11 11 then k + 1 else k) ∧ Mut [M, b] W u') := fun u' x y => ⟨by simpa [done] using x, hj.2.trans y⟩
          clear hj hi
          refine wpOp_step rfl (fun K hK => ?_)
          go_simp
          refine CA.mono ?_
          rintro e u' ⟨rfl, x, y⟩
          exact hK _ _ ⟨by simp [Act.put], HN.out u' x y⟩
        | n + 12, ho, hi, hd => simp at ho
      · intro u d hall hj
        have HN : Hid (Mut [M, b] W u ∧ Mm u b M n' (wrt fw (k + 1)) (k + 1)) := by
          have B := hj.1
          rw [hall 11 (by decide)] at B
          exact ⟨hj.2, B⟩
        clear hj hall
        go_wp2
        go_roundg (N - (k + 1))
        case measure => have := HM.out; omega
        case rel => exact ⟨k + 1, by go_num, by omega, by omega, HN⟩
    · obtain rfl : N = k := by omega
      have HW2 : Hid (Mut [M, b] W wr ∧ Mm wr b M n' (wrt fw N) N) := hw
      clear hw HM hk hlt HMM HA
      obtain ⟨W2, rfl⟩ : ∃ W2, W2 = wr := ⟨_, rfl⟩
      have HK9 : Hid (Kept u7 W2) := HKU.out.2.2.2.2.1.muts HW2.out.1 (by have := HKU.out.2.2.2.2.2; simp; omega)
      have HKV : Hid (Kept w W2) := HKU.out.1.trans HK9.out
      have HCB : Hid (Blk W2 w.heap.size (cl n0 n1 n2 n3 n4 n5 n6 n7 (.slice sx sl sc))) := HKU.out.2.1.kept HK9.out
      have HSB : Hid (Blk W2 sb [.bool false, .slice (some ⟨rg, 0, none⟩) fl fl] ∧ Refs W2 (some ⟨rg, 0, none⟩) fl (R k)) := ⟨HKU.out.2.2.1.kept HK9.out, HKU.out.2.2.2.1.kept HK9.out⟩
      have HMW : Hid (Mm W2 b M n' (wrt fw N) N ∧ w.heap.size ≤ b ∧ w.heap.size ≤ M) := ⟨HW2.out.2, by have := HKU.out.2.2.2.2.2.1; have := HKU.out.1.size; omega, by have := HKU.out.2.2.2.2.2.2; have := HKU.out.1.size; omega⟩
      have HU7 : Hid (Kept w u7 ∧ Blk u7 w.heap.size (cl n0 n1 n2 n3 n4 n5 n6 n7 (.slice sx sl sc)) ∧ Blk u7 sb [.bool false, .slice (some ⟨rg, 0, none⟩) fl fl] ∧ Refs u7 (some ⟨rg, 0, none⟩) fl (R k) ∧ u7.heap.size ≤ b ∧ u7.heap.size ≤ M ∧ Kept u7 W2) := ⟨HKU.out.1, HKU.out.2.1, HKU.out.2.2.1, HKU.out.2.2.2.1, HKU.out.2.2.2.2.2.1, HKU.out.2.2.2.2.2.2, HK9.out⟩
      clear HKU HW2 HWS HK9
      clear HCB HSB
      have hcs : sideU L l = sideU L l := rfl
      go_wp2_with fail
      refine (CSD.out _ HKV.out).mono ?_
      rintro e W5 ⟨rfl, KS⟩
      obtain ⟨sd, hsd⟩ : ∃ sd, sideU L l = sd := ⟨_, rfl⟩
      rw [hsd]
      have HSD : Hid (sideU L l = sd) := hsd
      have HL5 : Hid (Kept u7 W5 ∧ Mm W5 b M n' (wrt fw N) N) := ⟨HU7.out.2.2.2.2.2.2.trans KS, HMW.out.1.kept KS⟩
      clear hcs hsd KS HKV HMW CSD
      have hsb := HU7.out.2.2.1.kept HL5.out.1
      have s0 := hsb.at 0 rfl
      have s1 := hsb.at 1 rfl
      clear hsb
      go_wp2_with fail
      clear s0 s1
      go_loopg [14] fl (fun m i wr => ∃ (j q : Nat), i = .int .i64 j ∧ j ≤ fl ∧ m = fl - j ∧ q ≤ 2000 + 7 * j ∧ Hid (Kept u7 wr ∧ Mm wr b M n' (wrt fw N) q))
      case atStart => exact ⟨0, N, rfl, by omega, by omega, by omega, HL5⟩
      case round =>
        obtain ⟨j, q, rfl, hj, hm, hq, hw⟩ := hrel
        have HMo : Hid _ := hm
        clear hm
        obtain ⟨wA, rfl⟩ : ∃ wA, wA = wr := ⟨_, rfl⟩
        have hsb := HU7.out.2.2.1.kept hw.out.1
        have s0 := hsb.at 0 rfl
        have s1 := hsb.at 1 rfl
        clear hsb
        by_cases hlt : j < fl
        · obtain ⟨i7, hi7⟩ : ∃ i7, (j + 1) / 7 = i7 := ⟨_, rfl⟩
          have HI7 : Hid ((j + 1) / 7 = i7) := hi7
          have hj7 : i7 ≤ 6 := by omega
          clear hi7
          go_wp2_with fail
          refine (CP.out j i7 HI7.out hlt rg _).mono ?_
          rintro e V ⟨rfl, KV⟩
          have HVM : Hid (Kept u7 V ∧ Mm V b M n' (wrt fw N) q) := ⟨hw.out.1.trans KV, hw.out.2.kept KV⟩
          have HKV : Hid (Kept w V) := HU7.out.1.trans HVM.out.1
          have HCB : Hid (Blk V w.heap.size (cl n0 n1 n2 n3 n4 n5 n6 n7 (.slice sx sl sc))) := HU7.out.2.1.kept HVM.out.1
          clear hw KV s0 s1
          have CField : Hid (∀ u, Kept V u → Calls Try.prog 29 #[.agg #[.int .i64 n0, .int .i64 n1, .int .i64 n2, .int .i64 n3, .int .i64 n4, .int .i64 n5, .int .i64 n6, .int .i64 n7, .slice sx sl sc], .int .i64 (L 0), .int .i64 (j : Int)] u _) := fun u q => field_newf n0 n1 n2 n3 n4 n5 n6 n7 sx sl sc S R (L 0) j V u q (HSR.out.1.kept (HKV.out.trans q)) (fun i hi => (HSR.out.2.1 i hi).kept (HKV.out.trans q)) HSR.out.2.2.1 HSR.out.2.2.2
          go_wp2_with fail
          refine wp_region_mix [undef, undef, undef, undef, undef, undef, undef] [(18, 6), (105, 0), (106, 1), (107, 2), (108, 3), (109, 4), (110, 5)] (fun d vals u => MJ (fun q1 => match q1 with | 0 => some (.agg #[.int .i64 n0, .int .i64 n1, .int .i64 n2, .int .i64 n3, .int .i64 n4, .int .i64 n5, .int .i64 n6, .int .i64 n7, .slice sx sl sc]) | 1 => some (.slice (some ⟨xb, xo, none⟩) l cc) | 2 => some (.pointer (some ⟨xb, xo, none⟩)) | 3 => some (.int .i64 (L 0)) | 4 => some (.int .i64 (j : Int)) | _ => none) 5 6 (fun u => Kept V u) (fun v u => Newf V (fd0 (L 0) j false) n0 n1 sl S R v u) d vals u) (by kernel_rfl) (by kernel_rfl) (by kernel_rfl) (by kernel_rfl) rfl ?_ ?_ ?_
          · exact ⟨fun _ _ _ h => absurd h (by simp), fun _ => (Kept.refl _).drew, fun h => absurd h (by simp), fun h => absurd h (by simp)⟩
          · intro i1 o ho a1 d vals u hv0 hh hj hi hd
            have hv : vals.length = 7 := hv0
            have hKR : Kept V u := by
              cases hq : d 5
              · exact hj.bf hq
              · exact (hj.af hq).1
            match i1, ho, hi, hd with
            | 0, ho, hi, hd =>
              simp only [List.getElem?_cons_zero, Option.some.injEq] at ho
              subst ho
              have g3 : a1.tmps[3]? = some (.pointer (some ⟨w.heap.size, 0, none⟩)) := hh.old 3 (by kernel_rfl) rfl
              have B := HCB.out.kept hKR
              have c0 := B.at 0 rfl
              have c1 := B.at 1 rfl
              have c2 := B.at 2 rfl
              have c3 := B.at 3 rfl
              have c4 := B.at 4 rfl
              have c5 := B.at 5 rfl
              have c6 := B.at 6 rfl
              have c7 := B.at 7 rfl
              have c8 := B.at 8 rfl
              clear B
              have HN : Hid (MJ (fun q1 => match q1 with | 0 => some (.agg #[.int .i64 n0, .int .i64 n1, .int .i64 n2, .int .i64 n3, .int .i64 n4, .int .i64 n5, .int .i64 n6, .int .i64 n7, .slice sx sl sc]) | 1 => some (.slice (some ⟨xb, xo, none⟩) l cc) | 2 => some (.pointer (some ⟨xb, xo, none⟩)) | 3 => some (.int .i64 (L 0)) | 4 => some (.int .i64 (j : Int)) | _ => none) 5 6 (fun u => Kept V u) (fun v u => Newf V (fd0 (L 0) j false) n0 n1 sl S R v u) (done d 0) (vals.set 0 (.agg #[.int .i64 n0, .int .i64 n1, .int .i64 n2, .int .i64 n3, .int .i64 n4, .int .i64 n5, .int .i64 n6, .int .i64 n7, .slice sx sl sc])) u) := hj.plain 0 _ (by omega) (by decide) (by decide) rfl
              clear hh hd hj hi hKR
              refine wpOp_step rfl (fun K hK => ?_)
              go_simp
              exact hK _ _ ⟨_, by simp [Act.put], HN.out⟩
            | 1, ho, hi, hd =>
              simp only [List.getElem?_cons_succ, List.getElem?_cons_zero, Option.some.injEq] at ho
              subst ho
              have g2 : a1.tmps[2]? = some (.slice (some ⟨xb, xo, none⟩) l cc) := hh.old 2 (by kernel_rfl) rfl
              have HN : Hid (MJ (fun q1 => match q1 with | 0 => some (.agg #[.int .i64 n0, .int .i64 n1, .int .i64 n2, .int .i64 n3, .int .i64 n4, .int .i64 n5, .int .i64 n6, .int .i64 n7, .slice sx sl sc]) | 1 => some (.slice (some ⟨xb, xo, none⟩) l cc) | 2 => some (.pointer (some ⟨xb, xo, none⟩)) | 3 => some (.int .i64 (L 0)) | 4 => some (.int .i64 (j : Int)) | _ => none) 5 6 (fun u => Kept V u) (fun v u => Newf V (fd0 (L 0) j false) n0 n1 sl S R v u) (done d 1) (vals.set 1 (.slice (some ⟨xb, xo, none⟩) l cc)) u) := hj.plain 1 _ (by omega) (by decide) (by decide) rfl
              clear hh hd hj hi hKR
              refine wpOp_step rfl (fun K hK => ?_)
              go_simp
              exact hK _ _ ⟨_, by simp [Act.put], HN.out⟩
            | 2, ho, hi, hd =>
              simp only [List.getElem?_cons_succ, List.getElem?_cons_zero, Option.some.injEq] at ho
              subst ho
              have g106 : a1.tmps[106]? = some (.slice (some ⟨xb, xo, none⟩) l cc) := (hh.did 1 _ 106 rfl rfl (hd { on := 1, ground := .data } (by simp) rfl)).trans (congrArg some (hj.kn 1 _ rfl (hd { on := 1, ground := .data } (by simp) rfl)))
              have HN : Hid (MJ (fun q1 => match q1 with | 0 => some (.agg #[.int .i64 n0, .int .i64 n1, .int .i64 n2, .int .i64 n3, .int .i64 n4, .int .i64 n5, .int .i64 n6, .int .i64 n7, .slice sx sl sc]) | 1 => some (.slice (some ⟨xb, xo, none⟩) l cc) | 2 => some (.pointer (some ⟨xb, xo, none⟩)) | 3 => some (.int .i64 (L 0)) | 4 => some (.int .i64 (j : Int)) | _ => none) 5 6 (fun u => Kept V u) (fun v u => Newf V (fd0 (L 0) j false) n0 n1 sl S R v u) (done d 2) (vals.set 2 (.pointer (some ⟨xb, xo, none⟩))) u) := hj.plain 2 _ (by omega) (by decide) (by decide) rfl
              clear hh hd hj hi hKR
              refine wpOp_step rfl (fun K hK => ?_)
              go_simp
              exact hK _ _ ⟨_, by simp [Act.put], HN.out⟩
            | 3, ho, hi, hd =>
              simp only [List.getElem?_cons_succ, List.getElem?_cons_zero, Option.some.injEq] at ho
              subst ho
              have g107 : a1.tmps[107]? = some (.pointer (some ⟨xb, xo, none⟩)) := (hh.did 2 _ 107 rfl rfl (hd { on := 2, ground := .data } (by simp) rfl)).trans (congrArg some (hj.kn 2 _ rfl (hd { on := 2, ground := .data } (by simp) rfl)))
              have cg : u.cell? ⟨xb, xo, none⟩ = some (.int .i64 (L 0)) := ((HKV.out.trans hKR).cell HX.out.1).trans (HX.out.2 0 (by omega))
              have HN : Hid (MJ (fun q1 => match q1 with | 0 => some (.agg #[.int .i64 n0, .int .i64 n1, .int .i64 n2, .int .i64 n3, .int .i64 n4, .int .i64 n5, .int .i64 n6, .int .i64 n7, .slice sx sl sc]) | 1 => some (.slice (some ⟨xb, xo, none⟩) l cc) | 2 => some (.pointer (some ⟨xb, xo, none⟩)) | 3 => some (.int .i64 (L 0)) | 4 => some (.int .i64 (j : Int)) | _ => none) 5 6 (fun u => Kept V u) (fun v u => Newf V (fd0 (L 0) j false) n0 n1 sl S R v u) (done d 3) (vals.set 3 (.int .i64 (L 0))) u) := hj.plain 3 _ (by omega) (by decide) (by decide) rfl
              clear hh hd hj hi hKR
              refine wpOp_step rfl (fun K hK => ?_)
              go_simp
              exact hK _ _ ⟨_, by simp [Act.put], HN.out⟩
            | 4, ho, hi, hd =>
              simp only [List.getElem?_cons_succ, List.getElem?_cons_zero, Option.some.injEq] at ho
              subst ho
              have g14 : a1.tmps[14]? = some (.int .i64 (j : Int)) := hh.old 14 (by kernel_rfl) rfl
              have HN : Hid (MJ (fun q1 => match q1 with | 0 => some (.agg #[.int .i64 n0, .int .i64 n1, .int .i64 n2, .int .i64 n3, .int .i64 n4, .int .i64 n5, .int .i64 n6, .int .i64 n7, .slice sx sl sc]) | 1 => some (.slice (some ⟨xb, xo, none⟩) l cc) | 2 => some (.pointer (some ⟨xb, xo, none⟩)) | 3 => some (.int .i64 (L 0)) | 4 => some (.int .i64 (j : Int)) | _ => none) 5 6 (fun u => Kept V u) (fun v u => Newf V (fd0 (L 0) j false) n0 n1 sl S R v u) (done d 4) (vals.set 4 (.int .i64 (j : Int))) u) := hj.plain 4 _ (by omega) (by decide) (by decide) rfl
              clear hh hd hj hi hKR
              refine wpOp_step rfl (fun K hK => ?_)
              go_simp
              exact hK _ _ ⟨_, by simp [Act.put], HN.out⟩
            | 5, ho, hi, hd =>
              simp only [List.getElem?_cons_succ, List.getElem?_cons_zero, Option.some.injEq] at ho
              subst ho
              have g105 : a1.tmps[105]? = some (.agg #[.int .i64 n0, .int .i64 n1, .int .i64 n2, .int .i64 n3, .int .i64 n4, .int .i64 n5, .int .i64 n6, .int .i64 n7, .slice sx sl sc]) := (hh.did 0 _ 105 rfl rfl (hd { on := 0, ground := .data } (by simp) rfl)).trans (congrArg some (hj.kn 0 _ rfl (hd { on := 0, ground := .data } (by simp) rfl)))
              have g108 : a1.tmps[108]? = some (.int .i64 (L 0)) := (hh.did 3 _ 108 rfl rfl (hd { on := 3, ground := .data } (by simp) rfl)).trans (congrArg some (hj.kn 3 _ rfl (hd { on := 3, ground := .data } (by simp) rfl)))
              have g109 : a1.tmps[109]? = some (.int .i64 (j : Int)) := (hh.did 4 _ 109 rfl rfl (hd { on := 4, ground := .data } (by simp) rfl)).trans (congrArg some (hj.kn 4 _ rfl (hd { on := 4, ground := .data } (by simp) rfl)))
              have CA := CField.out u hKR
              have HN : Hid (∀ v' u', Newf V (fd0 (L 0) j false) n0 n1 sl S R v' u' → MJ (fun q1 => match q1 with | 0 => some (.agg #[.int .i64 n0, .int .i64 n1, .int .i64 n2, .int .i64 n3, .int .i64 n4, .int .i64 n5, .int .i64 n6, .int .i64 n7, .slice sx sl sc]) | 1 => some (.slice (some ⟨xb, xo, none⟩) l cc) | 2 => some (.pointer (some ⟨xb, xo, none⟩)) | 3 => some (.int .i64 (L 0)) | 4 => some (.int .i64 (j : Int)) | _ => none) 5 6 (fun u => Kept V u) (fun v u => Newf V (fd0 (L 0) j false) n0 n1 sl S R v u) (done d 5) (vals.set 5 v') u') := fun v' u' q => hj.call (by omega) (by decide) hi rfl q
              clear hh hd hj hi hKR
              refine wpOp_step rfl (fun K hK => ?_)
              go_simp
              refine CA.mono ?_
              rintro e u' ⟨v', rfl, q1⟩
              exact hK _ _ ⟨v', by simp [Act.put], HN.out v' u' q1⟩
            | 6, ho, hi, hd =>
              simp only [List.getElem?_cons_succ, List.getElem?_cons_zero, Option.some.injEq] at ho
              subst ho
              have g110 : a1.tmps[110]? = some (vals.getD 5 undef) := hh.did 5 _ 110 rfl rfl (hd { on := 5, ground := .data } (by simp) rfl)
              have HN0 := hj.last (by omega) (by decide) (hd { on := 5, ground := .data } (by simp) rfl) (hd { on := 0, ground := .phase } (by simp) rfl) rfl
              obtain ⟨y, hy⟩ : ∃ y, vals.getD 5 undef = y := ⟨_, rfl⟩
              rw [hy] at HN0 g110
              have HN : Hid (MJ (fun q1 => match q1 with | 0 => some (.agg #[.int .i64 n0, .int .i64 n1, .int .i64 n2, .int .i64 n3, .int .i64 n4, .int .i64 n5, .int .i64 n6, .int .i64 n7, .slice sx sl sc]) | 1 => some (.slice (some ⟨xb, xo, none⟩) l cc) | 2 => some (.pointer (some ⟨xb, xo, none⟩)) | 3 => some (.int .i64 (L 0)) | 4 => some (.int .i64 (j : Int)) | _ => none) 5 6 (fun u => Kept V u) (fun v u => Newf V (fd0 (L 0) j false) n0 n1 sl S R v u) (done d 6) (vals.set 6 y) u) := HN0
              clear hh hd hj hi hKR HN0 hy
              refine wpOp_step rfl (fun K hK => ?_)
              go_simp
              exact hK _ _ ⟨y, by simp [Act.put], HN.out⟩
            | n + 7, ho, _, _ => simp at ho
          · intro u d vals hv hall hj
            have h9 := hj.af (hall 5 (by decide))
            have h10 := (hj.la (hall 6 (by decide))).2.1
            clear hall hj
            match vals, hv, h9, h10 with
            | [y0, y1, y2, y3, y4, y5, y6], _, h9, h10 =>
              simp only [List.getD_cons_succ, List.getD_cons_zero] at h9 h10
              subst h10
              obtain ⟨K5, p, E, hy, hF5, hp5, hE5⟩ := h9
              subst hy
              refine norm_list' (L' := [_, _, _, _, _, _, _, _, _, _, _, _, _, _, _, _, _, _, _, _, _, _, _, _, _, _, _, _, _, _, _, _, _, _, _, _, _, _, _, _, _, _, _, _, _, _, _, _, _, _, _, _, _, _, _, _, _, _, _, _, _, _, _, _, _, _, _, _, _, _, _, _, _, _, _, _, _, _, _, _, _, _, _, _, _, _, _, _, _, _, _, _, _, _, _, _, _, _, _, _, _, _, _, _, _, _, _, _, _, _, _, _, _, _, _, _, _, _, _, _, _, _, _, _, _, _, _, _, _, _, _, _, _, _, _, _, _, _]) rfl ?_
              simp only [List.getD_cons_succ, List.getD_cons_zero]
              obtain ⟨T, St, hg1, hg2, hg3⟩ := HGO0.out j hlt p E hE5
              rw [← hg2] at hF5
              obtain ⟨W3, rfl⟩ : ∃ W3, W3 = u := ⟨_, rfl⟩
              have HGO : Hid (Goes p E n' (wrt fw N) T St) := hg1
              have hT7 : T ≤ 7 := hg1.hi
              have HT : Hid (T = if sd then 1 else 1 + i7) := by rw [← HSD.out, ← HI7.out]; exact hg3
              have HS0 : Hid (FS W3 p E (St 0) ∧ Mm W3 b M n' (wrt fw N) q ∧ b < p ∧ M < p) := ⟨hF5, HVM.out.2.kept K5, by have := HVM.out.2.row.lt; omega, by have := HVM.out.2.hd.lt; omega⟩
              have HKW : Hid (Kept u7 W3 ∧ u7.heap.size ≤ p ∧ u7.heap.size ≤ M) := ⟨HVM.out.1.trans K5, by have := HVM.out.1.size; omega, HU7.out.2.2.2.2.2.1⟩
              clear hg1 hg2 hg3 hF5 hp5 hE5 K5 HVM HCB HKV CField
              go_wp2_with fail
              go_loopg [19] T (fun m i wr => ∃ t : Nat, i = .int .i64 t ∧ t ≤ T ∧ m = T - t ∧ Hid (FS wr p E (St t) ∧ Mm wr b M n' (wrt fw N) (q + t) ∧ Mut [p, M] W3 wr))
              case atStart => exact ⟨0, rfl, by omega, by omega, HS0.out.1, HS0.out.2.1, Mut.refl _ _⟩
              case round =>
                obtain ⟨t, rfl, ht, hm, hw⟩ := hrel
                have HM : Hid _ := hm
                clear hm
                by_cases hlt : t < T
                · have h8 : ((St t).st == 8) = false := by rw [HGO.out.st t ht]; simp; omega
                  have h10 : (t : Int) < 20 := by omega
                  have hcc : q + t ≤ 100000 := by omega
                  go_wp2_with fail
                  refine (done_is false _ hw.out.1 h8).mono ?_
                  rintro e w4 ⟨rfl, rfl⟩
                  go_wp2_with fail
                  refine (HGO.out.step t hlt b M (q + t) _ hw.out.1 hw.out.2.1 HS0.out.2.2.1 HS0.out.2.2.2 hcc).mono ?_
                  rintro e w5 ⟨rfl, x1, x2, x3⟩
                  have HN : Hid (FS w5 p E (St (t + 1)) ∧ Mm w5 b M n' (wrt fw N) (q + (t + 1)) ∧ Mut [p, M] W3 w5) := ⟨x1, x2, hw.out.2.2.trans x3⟩
                  clear x1 x2 x3 hw h8
                  go_wp2
                  go_roundg (T - (t + 1))
                  case measure => have := HM.out; omega
                  case rel => exact ⟨t + 1, by go_num, by omega, by omega, HN⟩
                · obtain rfl : T = t := by omega
                  have h8 : ((St T).st == 8) = true := by rw [HGO.out.st T ht]; simp
                  have h10 : (T : Int) < 20 := by omega
                  go_wp2_with fail
                  refine (done_is true _ hw.out.1 h8).mono ?_
                  rintro e w4 ⟨rfl, rfl⟩
                  have HW4 : Hid (FS w4 p E (St T) ∧ Mm w4 b M n' (wrt fw N) (q + T) ∧ Mut [p, M] W3 w4) := hw
                  clear hw HM h8 ht hlt
                  have hsp : (St T).sp = T := HGO.out.sp
                  have HTT := HT.out
                  have HW5 : Hid (Kept u7 w4 ∧ Mm w4 b M n' (wrt fw N) (q + T)) := ⟨HKW.out.1.muts HW4.out.2.2 (by have := HKW.out.2; simp; omega), HW4.out.2.1⟩
                  cases sd
                  · have e1 : (((T : Int)) == 1 + (i7 : Int)) = true := by simp only [Bool.false_eq_true, if_false] at HTT; simp; omega
                    have e2 : (((T : Int)) != 1 + (i7 : Int)) = false := by simp only [Bool.false_eq_true, if_false] at HTT; simp; omega
                    clear HTT
                    go_wp2_with fail
                    refine (steps_is _ HW4.out.1).mono ?_
                    rintro e y5 ⟨rfl, rfl⟩
                    rw [hsp]
                    go_wp2
                    go_roundg (fl - (j + 1))
                    case measure => have := HMo.out; omega
                    case rel => exact ⟨j + 1, q + T, by go_num, by omega, by omega, by omega, HW5⟩
                  · have e1 : (((T : Int)) == 1) = true := by simp only [if_true] at HTT; simp; omega
                    have e2 : (((T : Int)) != 1) = false := by simp only [if_true] at HTT; simp; omega
                    clear HTT
                    go_wp2_with fail
                    refine (steps_is _ HW4.out.1).mono ?_
                    rintro e y5 ⟨rfl, rfl⟩
                    rw [hsp]
                    go_wp2
                    go_roundg (fl - (j + 1))
                    case measure => have := HMo.out; omega
                    case rel => exact ⟨j + 1, q + T, by go_num, by omega, by omega, by omega, HW5⟩
        · obtain rfl : fl = j := by omega
          have HKF : Hid (Kept w wA) := HU7.out.1.trans hw.out.1
          clear hw
          go_wp2_with fail
          refine (first_any _).mono ?_
          rintro e u9 ⟨rfl, K9⟩
          have K10 : Hid (Kept w u9) := HKF.out.trans K9
          clear K9
          go_wp2
          go_ret
          exact ⟨rfl, K10.out⟩
end Go.Proofs.Ytpdclckgnajcdaa
