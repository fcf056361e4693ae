/-
  The ways of FindKinds.
-/
import Derived.Test.YtpdclckgnajcdaaMj13
namespace Go.Proofs.Ytpdclckgnajcdaa
open Go.RowKit

set_option maxRecDepth 20000 in
set_option maxHeartbeats 4000000 in
theorem kinds_out (n0 n1 n2 n3 n4 n5 n6 n7 : Int) (sx : Option Addr) (sl sc : Nat) (S : Nat → Sh) (kind : Int) (n : Int) (x : Option Addr) (l c : Nat) (at' kk : Int) (w : World) (hS : Shps w sx sl S) (hk : kind < 0 ∨ (sl : Int) ≤ kind) :
    Calls Try.prog 9 #[.agg #[.int .i64 n0, .int .i64 n1, .int .i64 n2, .int .i64 n3, .int .i64 n4, .int .i64 n5, .int .i64 n6, .int .i64 n7, .slice sx sl sc], .int .i64 kind, .int .i64 n, .slice x l c, .int .i64 at', .int .i64 kk] w fun e w' => e = .returned (.bool true) ∧ Kept w w' := by
  obtain ⟨p, hp⟩ := bool_iff (Small sl S)
  have CF : Hid (∀ w', Kept w w' → Calls Try.prog 11 #[.agg #[.int .i64 n0, .int .i64 n1, .int .i64 n2, .int .i64 n3, .int .i64 n4, .int .i64 n5, .int .i64 n6, .int .i64 n7, .slice sx sl sc]] w' _) := fun w' k => few_any n0 n1 n2 n3 n4 n5 n6 n7 sx sl sc S p w' (hS.kept k) hp
  have CS : Hid (∀ w', Kept w w' → Calls Try.prog 18 #[.agg #[.int .i64 n0, .int .i64 n1, .int .i64 n2, .int .i64 n3, .int .i64 n4, .int .i64 n5, .int .i64 n6, .int .i64 n7, .slice sx sl sc], .int .i64 kind] w' _) := fun w' _ => shape_out n0 n1 n2 n3 n4 n5 n6 n7 sx sl sc kind w' hk
  clear hS hk hp
  go_enter Try.func9, Try.ntmps9
  go_wp2_with fail
  generalize hW1 : w.alloc _ = W1
  have HW1 : Hid (Kept w W1 ∧ Blk W1 w.heap.size (cl n0 n1 n2 n3 n4 n5 n6 n7 (.slice sx sl sc))) := by rw [← hW1]; exact ⟨(Kept.refl w).alloc _ _, Blk.new w _ _⟩
  clear hW1
  refine (first_any _).mono ?_
  rintro e u1 ⟨rfl, K⟩
  have HW : Hid (Kept w u1 ∧ Blk u1 w.heap.size (cl n0 n1 n2 n3 n4 n5 n6 n7 (.slice sx sl sc))) := ⟨HW1.out.1.trans K, HW1.out.2.kept K⟩
  clear HW1 K
  have c0 := HW.out.2.at 0 rfl
  have c1 := HW.out.2.at 1 rfl
  have c2 := HW.out.2.at 2 rfl
  have c3 := HW.out.2.at 3 rfl
  have c4 := HW.out.2.at 4 rfl
  have c5 := HW.out.2.at 5 rfl
  have c6 := HW.out.2.at 6 rfl
  have c7 := HW.out.2.at 7 rfl
  have c8 := HW.out.2.at 8 rfl
  go_wp2_with fail
  refine (CS.out _ HW.out.1).mono ?_
  rintro e u4 ⟨rfl, K⟩
  have HV : Hid (Kept w u4 ∧ Blk u4 w.heap.size (cl n0 n1 n2 n3 n4 n5 n6 n7 (.slice sx sl sc))) := ⟨HW.out.1.trans K, HW.out.2.kept K⟩
  clear HW K c0 c1 c2 c3 c4 c5 c6 c7 c8 CS
  go_upto_region 4 with fail
  generalize hW3 : u4.alloc _ = W3
  have HW : Hid (Kept w W3 ∧ Blk W3 w.heap.size (cl n0 n1 n2 n3 n4 n5 n6 n7 (.slice sx sl sc))) := by rw [← hW3]; exact ⟨HV.out.1.alloc _ _, HV.out.2.kept ((Kept.refl _).alloc _ _)⟩
  clear HV hW3
  have c0 := HW.out.2.at 0 rfl
  have c1 := HW.out.2.at 1 rfl
  have c2 := HW.out.2.at 2 rfl
  have c3 := HW.out.2.at 3 rfl
  have c4 := HW.out.2.at 4 rfl
  have c5 := HW.out.2.at 5 rfl
  have c6 := HW.out.2.at 6 rfl
  have c7 := HW.out.2.at 7 rfl
  have c8 := HW.out.2.at 8 rfl
  go_wp2_with fail
  refine (CF.out _ HW.out.1).mono ?_
  rintro e u5 ⟨rfl, K⟩
  have HK : Hid (Kept w u5) := HW.out.1.trans K
  clear HW K c0 c1 c2 c3 c4 c5 c6 c7 c8 CF
  cases p
  · go_wp2_with fail
    refine (first_any _).mono ?_
    rintro e u9 ⟨rfl, K9⟩
    have K10 : Hid (Kept w u9) := HK.out.trans K9
    clear K9
    go_wp2
    go_ret
    exact ⟨rfl, K10.out⟩
  · go_wp2_with fail
    refine (first_any _).mono ?_
    rintro e u9 ⟨rfl, K9⟩
    have K10 : Hid (Kept w u9) := HK.out.trans K9
    clear K9
    go_wp2
    go_ret
    exact ⟨rfl, K10.out⟩

set_option maxRecDepth 20000 in
set_option maxHeartbeats 4000000 in
theorem kinds_early (n0 n1 n2 n3 n4 n5 n6 n7 : Int) (sx : Option Addr) (sl sc : Nat) (S : Nat → Sh) (R : Nat → Nat → Bool) (k : Nat) (n : Int) (x : Option Addr) (l c : Nat) (at' kk : Int) (w : World) (hS : Shps w sx sl S) (hR : ∀ i, i < sl → Refs w (S i).x (S i).l (R i)) (hk : k < sl) (hZ : (S k).l ≤ 140737488351232) (hE : ¬ Small sl S ∨ 200 < l) :
    Calls Try.prog 9 #[.agg #[.int .i64 n0, .int .i64 n1, .int .i64 n2, .int .i64 n3, .int .i64 n4, .int .i64 n5, .int .i64 n6, .int .i64 n7, .slice sx sl sc], .int .i64 k, .int .i64 n, .slice x l c, .int .i64 at', .int .i64 kk] w fun e w' => e = .returned (.bool true) ∧ Kept w w' := by
  obtain ⟨p, hp⟩ := bool_iff (Small sl S)
  have CF : Hid (∀ w', Kept w w' → Calls Try.prog 11 #[.agg #[.int .i64 n0, .int .i64 n1, .int .i64 n2, .int .i64 n3, .int .i64 n4, .int .i64 n5, .int .i64 n6, .int .i64 n7, .slice sx sl sc]] w' _) := fun w' k => few_any n0 n1 n2 n3 n4 n5 n6 n7 sx sl sc S p w' (hS.kept k) hp
  have CS : Hid (∀ w', Kept w w' → Calls Try.prog 18 #[.agg #[.int .i64 n0, .int .i64 n1, .int .i64 n2, .int .i64 n3, .int .i64 n4, .int .i64 n5, .int .i64 n6, .int .i64 n7, .slice sx sl sc], .int .i64 k] w' _) := fun w' q => shape_in n0 n1 n2 n3 n4 n5 n6 n7 sx sl sc S (R k) k w' hk hZ (hS.kept q) ((hR k hk).kept q)
  obtain ⟨fl, hfe⟩ : ∃ fl, (S k).l = fl := ⟨_, rfl⟩
  obtain ⟨ab, hae⟩ : ∃ ab, (S k).arr = ab := ⟨_, rfl⟩
  have HFL : Hid ((S k).arr = ab ∧ (S k).l = fl) := ⟨hae, hfe⟩
  have HE : Hid (p = true → 200 < l) := fun h1 => by
    rcases hE with q | q
    · exact absurd (hp.1 h1) q
    · exact q
  clear hS hR hk hp hE hZ hfe hae
  go_enter Try.func9, Try.ntmps9
  go_wp2_with fail
  generalize hW1 : w.alloc _ = W1
  have HW1 : Hid (Kept w W1 ∧ Blk W1 w.heap.size (cl n0 n1 n2 n3 n4 n5 n6 n7 (.slice sx sl sc))) := by rw [← hW1]; exact ⟨(Kept.refl w).alloc _ _, Blk.new w _ _⟩
  clear hW1
  refine (first_any _).mono ?_
  rintro e u1 ⟨rfl, K⟩
  have HW : Hid (Kept w u1 ∧ Blk u1 w.heap.size (cl n0 n1 n2 n3 n4 n5 n6 n7 (.slice sx sl sc))) := ⟨HW1.out.1.trans K, HW1.out.2.kept K⟩
  clear HW1 K
  have c0 := HW.out.2.at 0 rfl
  have c1 := HW.out.2.at 1 rfl
  have c2 := HW.out.2.at 2 rfl
  have c3 := HW.out.2.at 3 rfl
  have c4 := HW.out.2.at 4 rfl
  have c5 := HW.out.2.at 5 rfl
  have c6 := HW.out.2.at 6 rfl
  have c7 := HW.out.2.at 7 rfl
  have c8 := HW.out.2.at 8 rfl
  go_wp2_with fail
  refine (CS.out _ HW.out.1).mono ?_
  rintro e u4 ⟨rg, rfl, hrg, hRR, K⟩
  rw [HFL.out.2] at hRR
  have HV : Hid (Kept w u4 ∧ Blk u4 w.heap.size (cl n0 n1 n2 n3 n4 n5 n6 n7 (.slice sx sl sc)) ∧ Refs u4 (some ⟨rg, 0, none⟩) fl (R k)) := ⟨HW.out.1.trans K, HW.out.2.kept K, hRR⟩
  clear HW K c0 c1 c2 c3 c4 c5 c6 c7 c8 CS hrg hRR
  rw [HFL.out.1, HFL.out.2]
  go_upto_region 4 with fail
  generalize hW3 : u4.alloc _ = W3
  have HW : Hid (Kept w W3 ∧ Blk W3 w.heap.size (cl n0 n1 n2 n3 n4 n5 n6 n7 (.slice sx sl sc)) ∧ Blk W3 u4.heap.size [.bool ab, .slice (some ⟨rg, 0, none⟩) fl fl] ∧ Refs W3 (some ⟨rg, 0, none⟩) fl (R k)) := by rw [← hW3]; exact ⟨HV.out.1.alloc _ _, HV.out.2.1.kept ((Kept.refl _).alloc _ _), Blk.new u4 [_, _] _, HV.out.2.2.kept ((Kept.refl _).alloc _ _)⟩
  clear HV hW3
  generalize u4.heap.size = sb at *
  have c0 := HW.out.2.1.at 0 rfl
  have c1 := HW.out.2.1.at 1 rfl
  have c2 := HW.out.2.1.at 2 rfl
  have c3 := HW.out.2.1.at 3 rfl
  have c4 := HW.out.2.1.at 4 rfl
  have c5 := HW.out.2.1.at 5 rfl
  have c6 := HW.out.2.1.at 6 rfl
  have c7 := HW.out.2.1.at 7 rfl
  have c8 := HW.out.2.1.at 8 rfl
  go_wp2_with fail
  refine (CF.out _ HW.out.1).mono ?_
  rintro e u5 ⟨rfl, K⟩
  have HK : Hid (Kept w u5 ∧ Blk u5 w.heap.size (cl n0 n1 n2 n3 n4 n5 n6 n7 (.slice sx sl sc)) ∧ Blk u5 sb [.bool ab, .slice (some ⟨rg, 0, none⟩) fl fl] ∧ Refs u5 (some ⟨rg, 0, none⟩) fl (R k)) := ⟨HW.out.1.trans K, HW.out.2.1.kept K, HW.out.2.2.1.kept K, HW.out.2.2.2.kept K⟩
  clear HW K c0 c1 c2 c3 c4 c5 c6 c7 c8 CF
  have s0 := HK.out.2.2.1.at 0 rfl
  cases p
  · go_wp2_with fail
    refine (first_any _).mono ?_
    rintro e u9 ⟨rfl, K9⟩
    have K10 : Hid (Kept w u9) := HK.out.1.trans K9
    clear K9
    go_wp2
    go_ret
    exact ⟨rfl, K10.out⟩
  have hl : (l : Int) > 200 := by have := HE.out (by trivial); omega
  go_wp2_with fail
  refine (first_any _).mono ?_
  rintro e u9 ⟨rfl, K9⟩
  have K10 : Hid (Kept w u9) := HK.out.1.trans K9
  clear K9
  go_wp2
  go_ret
  exact ⟨rfl, K10.out⟩

set_option maxRecDepth 20000 in
set_option maxHeartbeats 4000000 in
theorem kinds_obj_no (n0 n1 n2 n3 n4 n5 n6 n7 : Int) (sx : Option Addr) (sl sc : Nat) (S : Nat → Sh) (R : Nat → Nat → Bool) (k : Nat) (n : Int) (x : Option Addr) (l c : Nat) (at' kk : Int) (w : World) (hS : Shps w sx sl S) (hR : ∀ i, i < sl → Refs w (S i).x (S i).l (R i)) (hk : k < sl) (hZ : (S k).l ≤ 140737488351232) (hm : Small sl S) (hl : l ≤ 200) (hab : (S k).arr = false) 
    (r : Int) (CO : ∀ w', Kept w w' → Calls Try.prog 12 #[.agg #[.int .i64 n0, .int .i64 n1, .int .i64 n2, .int .i64 n3, .int .i64 n4, .int .i64 n5, .int .i64 n6, .int .i64 n7, .slice sx sl sc], .int .i64 k, .slice x l c] w' fun e w'' => e = .returned (.tuple #[.slice none 0 0, .int .i64 r]) ∧ Kept w' w'') (hr : r ≠ 0) :
    Calls Try.prog 9 #[.agg #[.int .i64 n0, .int .i64 n1, .int .i64 n2, .int .i64 n3, .int .i64 n4, .int .i64 n5, .int .i64 n6, .int .i64 n7, .slice sx sl sc], .int .i64 k, .int .i64 n, .slice x l c, .int .i64 at', .int .i64 kk] w fun e w' => e = .returned (.bool true) ∧ Kept w w' := by
  obtain ⟨v, hv⟩ : ∃ v : Nat, Is (Good n0 n1 n2 n3 n4 n5 n6 n7 sl S) (8 * n0 + 2 * n1 + n2) (v : Int) ∧ v ≤ 100000 := by
    obtain ⟨v, hv⟩ := Is.some (Good n0 n1 n2 n3 n4 n5 n6 n7 sl S) (8 * n0 + 2 * n1 + n2)
    by_cases q : Good n0 n1 n2 n3 n4 n5 n6 n7 sl S
    · have h1 := hv.yes q
      have hf := q.1
      unfold Fits at hf
      exact ⟨v.toNat, by rw [show ((v.toNat : Nat) : Int) = v by omega]; exact hv, by omega⟩
    · have h1 := hv.no q
      exact ⟨v.toNat, by rw [show ((v.toNat : Nat) : Int) = v by omega]; exact hv, by omega⟩
  have CF : Hid (∀ w', Kept w w' → Calls Try.prog 11 #[.agg #[.int .i64 n0, .int .i64 n1, .int .i64 n2, .int .i64 n3, .int .i64 n4, .int .i64 n5, .int .i64 n6, .int .i64 n7, .slice sx sl sc]] w' _) := fun w' k => few_any n0 n1 n2 n3 n4 n5 n6 n7 sx sl sc S true w' (hS.kept k) ⟨fun _ => hm, fun _ => rfl⟩
  have CS : Hid (∀ w', Kept w w' → Calls Try.prog 18 #[.agg #[.int .i64 n0, .int .i64 n1, .int .i64 n2, .int .i64 n3, .int .i64 n4, .int .i64 n5, .int .i64 n6, .int .i64 n7, .slice sx sl sc], .int .i64 k] w' _) := fun w' q => shape_in n0 n1 n2 n3 n4 n5 n6 n7 sx sl sc S (R k) k w' hk hZ (hS.kept q) ((hR k hk).kept q)
  obtain ⟨fl, hfe⟩ : ∃ fl, (S k).l = fl := ⟨_, rfl⟩
  obtain ⟨ab, hae⟩ : ∃ ab, (S k).arr = ab := ⟨_, rfl⟩
  have HFL : Hid ((S k).arr = ab ∧ (S k).l = fl) := ⟨hae, hfe⟩
  obtain rfl : ab = false := by rw [← hae, hab]
  have CO : Hid (∀ w', Kept w w' → _) := CO
  have CL : Hid (∀ w', Kept w w' → Calls Try.prog 25 #[.agg #[.int .i64 n0, .int .i64 n1, .int .i64 n2, .int .i64 n3, .int .i64 n4, .int .i64 n5, .int .i64 n6, .int .i64 n7, .slice sx sl sc], .slice none 0 0] w' _) := fun w' q => fill_nil n0 n1 n2 n3 n4 n5 n6 n7 sx sl sc S v w' (hS.kept q) hv.1 hv.2
  have er : (r != 0) = true := by simpa using hr
  have er2 : (r == 0) = false := by simpa using hr
  clear hS hR hk hm hZ hab hfe hae hv hr
  go_enter Try.func9, Try.ntmps9
  go_wp2_with fail
  generalize hW1 : w.alloc _ = W1
  have HW1 : Hid (Kept w W1 ∧ Blk W1 w.heap.size (cl n0 n1 n2 n3 n4 n5 n6 n7 (.slice sx sl sc))) := by rw [← hW1]; exact ⟨(Kept.refl w).alloc _ _, Blk.new w _ _⟩
  clear hW1
  refine (first_any _).mono ?_
  rintro e u1 ⟨rfl, K⟩
  have HW : Hid (Kept w u1 ∧ Blk u1 w.heap.size (cl n0 n1 n2 n3 n4 n5 n6 n7 (.slice sx sl sc))) := ⟨HW1.out.1.trans K, HW1.out.2.kept K⟩
  clear HW1 K
  have c0 := HW.out.2.at 0 rfl
  have c1 := HW.out.2.at 1 rfl
  have c2 := HW.out.2.at 2 rfl
  have c3 := HW.out.2.at 3 rfl
  have c4 := HW.out.2.at 4 rfl
  have c5 := HW.out.2.at 5 rfl
  have c6 := HW.out.2.at 6 rfl
  have c7 := HW.out.2.at 7 rfl
  have c8 := HW.out.2.at 8 rfl
  go_wp2_with fail
  refine (CS.out _ HW.out.1).mono ?_
  rintro e u4 ⟨rg, rfl, hrg, hRR, K⟩
  rw [HFL.out.2] at hRR
  have HV : Hid (Kept w u4 ∧ Blk u4 w.heap.size (cl n0 n1 n2 n3 n4 n5 n6 n7 (.slice sx sl sc)) ∧ Refs u4 (some ⟨rg, 0, none⟩) fl (R k)) := ⟨HW.out.1.trans K, HW.out.2.kept K, hRR⟩
  clear HW K c0 c1 c2 c3 c4 c5 c6 c7 c8 CS hrg hRR
  rw [HFL.out.1, HFL.out.2]
  go_upto_region 4 with fail
  generalize hW3 : u4.alloc _ = W3
  have HW : Hid (Kept w W3 ∧ Blk W3 w.heap.size (cl n0 n1 n2 n3 n4 n5 n6 n7 (.slice sx sl sc)) ∧ Blk W3 u4.heap.size [.bool false, .slice (some ⟨rg, 0, none⟩) fl fl] ∧ Refs W3 (some ⟨rg, 0, none⟩) fl (R k)) := by rw [← hW3]; exact ⟨HV.out.1.alloc _ _, HV.out.2.1.kept ((Kept.refl _).alloc _ _), Blk.new u4 [_, _] _, HV.out.2.2.kept ((Kept.refl _).alloc _ _)⟩
  clear HV hW3
  generalize u4.heap.size = sb at *
  have c0 := HW.out.2.1.at 0 rfl
  have c1 := HW.out.2.1.at 1 rfl
  have c2 := HW.out.2.1.at 2 rfl
  have c3 := HW.out.2.1.at 3 rfl
  have c4 := HW.out.2.1.at 4 rfl
  have c5 := HW.out.2.1.at 5 rfl
  have c6 := HW.out.2.1.at 6 rfl
  have c7 := HW.out.2.1.at 7 rfl
  have c8 := HW.out.2.1.at 8 rfl
  go_wp2_with fail
  refine (CF.out _ HW.out.1).mono ?_
  rintro e u5 ⟨rfl, K⟩
  have HK : Hid (Kept w u5 ∧ Blk u5 w.heap.size (cl n0 n1 n2 n3 n4 n5 n6 n7 (.slice sx sl sc)) ∧ Blk u5 sb [.bool false, .slice (some ⟨rg, 0, none⟩) fl fl] ∧ Refs u5 (some ⟨rg, 0, none⟩) fl (R k)) := ⟨HW.out.1.trans K, HW.out.2.1.kept K, HW.out.2.2.1.kept K, HW.out.2.2.2.kept K⟩
  clear HW K c0 c1 c2 c3 c4 c5 c6 c7 c8 CF
  have s0 := HK.out.2.2.1.at 0 rfl
  have hl2 : ¬ (l : Int) > 200 := by omega
  have hcb := HK.out.2.1
  have c0 := hcb.at 0 rfl
  have c1 := hcb.at 1 rfl
  have c2 := hcb.at 2 rfl
  have c3 := hcb.at 3 rfl
  have c4 := hcb.at 4 rfl
  have c5 := hcb.at 5 rfl
  have c6 := hcb.at 6 rfl
  have c7 := hcb.at 7 rfl
  have c8 := hcb.at 8 rfl
  clear hcb
  go_wp2_with fail
  refine (CO.out _ HK.out.1).mono ?_
  rintro e u7 ⟨rfl, K⟩
  have HK7 : Hid (Kept w u7 ∧ Blk u7 w.heap.size (cl n0 n1 n2 n3 n4 n5 n6 n7 (.slice sx sl sc)) ∧ Blk u7 sb [.bool false, .slice (some ⟨rg, 0, none⟩) fl fl] ∧ Refs u7 (some ⟨rg, 0, none⟩) fl (R k)) := ⟨HK.out.1.trans K, HK.out.2.1.kept K, HK.out.2.2.1.kept K, HK.out.2.2.2.kept K⟩
  clear HK K c0 c1 c2 c3 c4 c5 c6 c7 c8 s0 CO
  have hcb := HK7.out.2.1
  have c0 := hcb.at 0 rfl
  have c1 := hcb.at 1 rfl
  have c2 := hcb.at 2 rfl
  have c3 := hcb.at 3 rfl
  have c4 := hcb.at 4 rfl
  have c5 := hcb.at 5 rfl
  have c6 := hcb.at 6 rfl
  have c7 := hcb.at 7 rfl
  have c8 := hcb.at 8 rfl
  have s0 := HK7.out.2.2.1.at 0 rfl
  have s1 := HK7.out.2.2.1.at 1 rfl
  clear hcb
  go_wp2_with fail
  refine (CL.out _ HK7.out.1).mono ?_
  rintro e u8 ⟨b, M, rfl, _, K8, _, _⟩
  have HK8 : Hid (Kept w u8) := HK7.out.1.trans K8
  clear HK7 K8 c0 c1 c2 c3 c4 c5 c6 c7 c8 s0 s1 CL
  go_wp2_with fail
  refine (first_any _).mono ?_
  rintro e u9 ⟨rfl, K9⟩
  have K10 : Hid (Kept w u9) := HK8.out.trans K9
  clear K9
  go_wp2
  go_ret
  exact ⟨rfl, K10.out⟩

set_option maxRecDepth 20000 in
set_option maxHeartbeats 4000000 in
theorem kinds_arr_no (n0 n1 n2 n3 n4 n5 n6 n7 : Int) (sx : Option Addr) (sl sc : Nat) (S : Nat → Sh) (R : Nat → Nat → Bool) (k : Nat) (n : Int) (x : Option Addr) (l c : Nat) (at' kk : Int) (w : World) (hS : Shps w sx sl S) (hR : ∀ i, i < sl → Refs w (S i).x (S i).l (R i)) (hk : k < sl) (hZ : (S k).l ≤ 140737488351232) (hm : Small sl S) (hl : l ≤ 200) (hab : (S k).arr = true) (r0 : Int) (CO : ∀ w', Kept w w' → Calls Try.prog 12 #[.agg #[.int .i64 n0, .int .i64 n1, .int .i64 n2, .int .i64 n3, .int .i64 n4, .int .i64 n5, .int .i64 n6, .int .i64 n7, .slice sx sl sc], .int .i64 k, .slice x l c] w' fun e w'' => e = .returned (.tuple #[.slice none 0 0, .int .i64 r0]) ∧ Kept w' w'')
    (r : Int) (CA : ∀ w', Kept w w' → Calls Try.prog 14 #[.agg #[.int .i64 n0, .int .i64 n1, .int .i64 n2, .int .i64 n3, .int .i64 n4, .int .i64 n5, .int .i64 n6, .int .i64 n7, .slice sx sl sc], .int .i64 k, .int .i64 n, .slice x l c, .int .i64 at'] w' fun e w'' => e = .returned (.tuple #[.slice none 0 0, .int .i64 r]) ∧ Kept w' w'') (hr : r ≠ 0) :
    Calls Try.prog 9 #[.agg #[.int .i64 n0, .int .i64 n1, .int .i64 n2, .int .i64 n3, .int .i64 n4, .int .i64 n5, .int .i64 n6, .int .i64 n7, .slice sx sl sc], .int .i64 k, .int .i64 n, .slice x l c, .int .i64 at', .int .i64 kk] w fun e w' => e = .returned (.bool true) ∧ Kept w w' := by
  obtain ⟨v, hv⟩ : ∃ v : Nat, Is (Good n0 n1 n2 n3 n4 n5 n6 n7 sl S) (8 * n0 + 2 * n1 + n2) (v : Int) ∧ v ≤ 100000 := by
    obtain ⟨v, hv⟩ := Is.some (Good n0 n1 n2 n3 n4 n5 n6 n7 sl S) (8 * n0 + 2 * n1 + n2)
    by_cases q : Good n0 n1 n2 n3 n4 n5 n6 n7 sl S
    · have h1 := hv.yes q
      have hf := q.1
      unfold Fits at hf
      exact ⟨v.toNat, by rw [show ((v.toNat : Nat) : Int) = v by omega]; exact hv, by omega⟩
    · have h1 := hv.no q
      exact ⟨v.toNat, by rw [show ((v.toNat : Nat) : Int) = v by omega]; exact hv, by omega⟩
  have CF : Hid (∀ w', Kept w w' → Calls Try.prog 11 #[.agg #[.int .i64 n0, .int .i64 n1, .int .i64 n2, .int .i64 n3, .int .i64 n4, .int .i64 n5, .int .i64 n6, .int .i64 n7, .slice sx sl sc]] w' _) := fun w' k => few_any n0 n1 n2 n3 n4 n5 n6 n7 sx sl sc S true w' (hS.kept k) ⟨fun _ => hm, fun _ => rfl⟩
  have CS : Hid (∀ w', Kept w w' → Calls Try.prog 18 #[.agg #[.int .i64 n0, .int .i64 n1, .int .i64 n2, .int .i64 n3, .int .i64 n4, .int .i64 n5, .int .i64 n6, .int .i64 n7, .slice sx sl sc], .int .i64 k] w' _) := fun w' q => shape_in n0 n1 n2 n3 n4 n5 n6 n7 sx sl sc S (R k) k w' hk hZ (hS.kept q) ((hR k hk).kept q)
  obtain ⟨fl, hfe⟩ : ∃ fl, (S k).l = fl := ⟨_, rfl⟩
  obtain ⟨ab, hae⟩ : ∃ ab, (S k).arr = ab := ⟨_, rfl⟩
  have HFL : Hid ((S k).arr = ab ∧ (S k).l = fl) := ⟨hae, hfe⟩
  obtain rfl : ab = true := by rw [← hae, hab]
  have CO : Hid (∀ w', Kept w w' → _) := CO
  have CA : Hid (∀ w', Kept w w' → _) := CA
  have CL : Hid (∀ w', Kept w w' → Calls Try.prog 25 #[.agg #[.int .i64 n0, .int .i64 n1, .int .i64 n2, .int .i64 n3, .int .i64 n4, .int .i64 n5, .int .i64 n6, .int .i64 n7, .slice sx sl sc], .slice none 0 0] w' _) := fun w' q => fill_nil n0 n1 n2 n3 n4 n5 n6 n7 sx sl sc S v w' (hS.kept q) hv.1 hv.2
  have er : (r != 0) = true := by simpa using hr
  have er2 : (r == 0) = false := by simpa using hr
  clear hS hR hk hm hZ hab hfe hae hv hr
  go_enter Try.func9, Try.ntmps9
  go_wp2_with fail
  generalize hW1 : w.alloc _ = W1
  have HW1 : Hid (Kept w W1 ∧ Blk W1 w.heap.size (cl n0 n1 n2 n3 n4 n5 n6 n7 (.slice sx sl sc))) := by rw [← hW1]; exact ⟨(Kept.refl w).alloc _ _, Blk.new w _ _⟩
  clear hW1
  refine (first_any _).mono ?_
  rintro e u1 ⟨rfl, K⟩
  have HW : Hid (Kept w u1 ∧ Blk u1 w.heap.size (cl n0 n1 n2 n3 n4 n5 n6 n7 (.slice sx sl sc))) := ⟨HW1.out.1.trans K, HW1.out.2.kept K⟩
  clear HW1 K
  have c0 := HW.out.2.at 0 rfl
  have c1 := HW.out.2.at 1 rfl
  have c2 := HW.out.2.at 2 rfl
  have c3 := HW.out.2.at 3 rfl
  have c4 := HW.out.2.at 4 rfl
  have c5 := HW.out.2.at 5 rfl
  have c6 := HW.out.2.at 6 rfl
  have c7 := HW.out.2.at 7 rfl
  have c8 := HW.out.2.at 8 rfl
  go_wp2_with fail
  refine (CS.out _ HW.out.1).mono ?_
  rintro e u4 ⟨rg, rfl, hrg, hRR, K⟩
  rw [HFL.out.2] at hRR
  have HV : Hid (Kept w u4 ∧ Blk u4 w.heap.size (cl n0 n1 n2 n3 n4 n5 n6 n7 (.slice sx sl sc)) ∧ Refs u4 (some ⟨rg, 0, none⟩) fl (R k)) := ⟨HW.out.1.trans K, HW.out.2.kept K, hRR⟩
  clear HW K c0 c1 c2 c3 c4 c5 c6 c7 c8 CS hrg hRR
  rw [HFL.out.1, HFL.out.2]
  go_upto_region 4 with fail
  generalize hW3 : u4.alloc _ = W3
  have HW : Hid (Kept w W3 ∧ Blk W3 w.heap.size (cl n0 n1 n2 n3 n4 n5 n6 n7 (.slice sx sl sc)) ∧ Blk W3 u4.heap.size [.bool true, .slice (some ⟨rg, 0, none⟩) fl fl] ∧ Refs W3 (some ⟨rg, 0, none⟩) fl (R k)) := by rw [← hW3]; exact ⟨HV.out.1.alloc _ _, HV.out.2.1.kept ((Kept.refl _).alloc _ _), Blk.new u4 [_, _] _, HV.out.2.2.kept ((Kept.refl _).alloc _ _)⟩
  clear HV hW3
  generalize u4.heap.size = sb at *
  have c0 := HW.out.2.1.at 0 rfl
  have c1 := HW.out.2.1.at 1 rfl
  have c2 := HW.out.2.1.at 2 rfl
  have c3 := HW.out.2.1.at 3 rfl
  have c4 := HW.out.2.1.at 4 rfl
  have c5 := HW.out.2.1.at 5 rfl
  have c6 := HW.out.2.1.at 6 rfl
  have c7 := HW.out.2.1.at 7 rfl
  have c8 := HW.out.2.1.at 8 rfl
  go_wp2_with fail
  refine (CF.out _ HW.out.1).mono ?_
  rintro e u5 ⟨rfl, K⟩
  have HK : Hid (Kept w u5 ∧ Blk u5 w.heap.size (cl n0 n1 n2 n3 n4 n5 n6 n7 (.slice sx sl sc)) ∧ Blk u5 sb [.bool true, .slice (some ⟨rg, 0, none⟩) fl fl] ∧ Refs u5 (some ⟨rg, 0, none⟩) fl (R k)) := ⟨HW.out.1.trans K, HW.out.2.1.kept K, HW.out.2.2.1.kept K, HW.out.2.2.2.kept K⟩
  clear HW K c0 c1 c2 c3 c4 c5 c6 c7 c8 CF
  have s0 := HK.out.2.2.1.at 0 rfl
  have hl2 : ¬ (l : Int) > 200 := by omega
  have hcb := HK.out.2.1
  have c0 := hcb.at 0 rfl
  have c1 := hcb.at 1 rfl
  have c2 := hcb.at 2 rfl
  have c3 := hcb.at 3 rfl
  have c4 := hcb.at 4 rfl
  have c5 := hcb.at 5 rfl
  have c6 := hcb.at 6 rfl
  have c7 := hcb.at 7 rfl
  have c8 := hcb.at 8 rfl
  clear hcb
  go_wp2_with fail
  refine (CO.out _ HK.out.1).mono ?_
  rintro e u6 ⟨rfl, K⟩
  have HK6 : Hid (Kept w u6 ∧ Blk u6 w.heap.size (cl n0 n1 n2 n3 n4 n5 n6 n7 (.slice sx sl sc)) ∧ Blk u6 sb [.bool true, .slice (some ⟨rg, 0, none⟩) fl fl] ∧ Refs u6 (some ⟨rg, 0, none⟩) fl (R k)) := ⟨HK.out.1.trans K, HK.out.2.1.kept K, HK.out.2.2.1.kept K, HK.out.2.2.2.kept K⟩
  clear HK K c0 c1 c2 c3 c4 c5 c6 c7 c8 s0 CO
  have hcb := HK6.out.2.1
  have c0 := hcb.at 0 rfl
  have c1 := hcb.at 1 rfl
  have c2 := hcb.at 2 rfl
  have c3 := hcb.at 3 rfl
  have c4 := hcb.at 4 rfl
  have c5 := hcb.at 5 rfl
  have c6 := hcb.at 6 rfl
  have c7 := hcb.at 7 rfl
  have c8 := hcb.at 8 rfl
  have s0 := HK6.out.2.2.1.at 0 rfl
  have s1 := HK6.out.2.2.1.at 1 rfl
  clear hcb
  go_wp2_with fail
  refine (CA.out _ HK6.out.1).mono ?_
  rintro e u7 ⟨rfl, K⟩
  have HK7 : Hid (Kept w u7 ∧ Blk u7 w.heap.size (cl n0 n1 n2 n3 n4 n5 n6 n7 (.slice sx sl sc)) ∧ Blk u7 sb [.bool true, .slice (some ⟨rg, 0, none⟩) fl fl] ∧ Refs u7 (some ⟨rg, 0, none⟩) fl (R k)) := ⟨HK6.out.1.trans K, HK6.out.2.1.kept K, HK6.out.2.2.1.kept K, HK6.out.2.2.2.kept K⟩
  clear HK6 K c0 c1 c2 c3 c4 c5 c6 c7 c8 s0 s1 CA
  have hcb := HK7.out.2.1
  have c0 := hcb.at 0 rfl
  have c1 := hcb.at 1 rfl
  have c2 := hcb.at 2 rfl
  have c3 := hcb.at 3 rfl
  have c4 := hcb.at 4 rfl
  have c5 := hcb.at 5 rfl
  have c6 := hcb.at 6 rfl
  have c7 := hcb.at 7 rfl
  have c8 := hcb.at 8 rfl
  have s0 := HK7.out.2.2.1.at 0 rfl
  have s1 := HK7.out.2.2.1.at 1 rfl
  clear hcb
  go_wp2_with fail
  refine (CL.out _ HK7.out.1).mono ?_
  rintro e u8 ⟨b, M, rfl, _, K8, _, _⟩
  have HK8 : Hid (Kept w u8) := HK7.out.1.trans K8
  clear HK7 K8 c0 c1 c2 c3 c4 c5 c6 c7 c8 s0 s1 CL
  go_wp2_with fail
  refine (first_any _).mono ?_
  rintro e u9 ⟨rfl, K9⟩
  have K10 : Hid (Kept w u9) := HK8.out.trans K9
  clear K9
  go_wp2
  go_ret
  exact ⟨rfl, K10.out⟩

set_option maxRecDepth 20000 in
set_option maxHeartbeats 8000000 in
theorem kinds_obj_yes (n0 n1 n2 n3 n4 n5 n6 n7 : Int) (sx : Option Addr) (sl sc : Nat) (S : Nat → Sh) (R : Nat → Nat → Bool) (k : Nat) (n : Int) (x : Option Addr) (l c : Nat) (L : Nat → Int) (at' kk : Int) (w : World) (hS : Shps w sx sl S) (hR : ∀ i, i < sl → Refs w (S i).x (S i).l (R i)) (hk : k < sl) (hZ : (S k).l ≤ 140737488351232) (hm : Small sl S) (hl : l ≤ 200) (hab : (S k).arr = false) 
    (N : Nat) (fw : Nat → Wr) (CO : ∀ w', Kept w w' → Calls Try.prog 12 #[.agg #[.int .i64 n0, .int .i64 n1, .int .i64 n2, .int .i64 n3, .int .i64 n4, .int .i64 n5, .int .i64 n6, .int .i64 n7, .slice sx sl sc], .int .i64 k, .slice x l c] w' fun e w'' => ∃ v, e = .returned (.tuple #[v, .int .i64 0]) ∧ Ws w'' w'.heap.size v N fw ∧ Kept w' w'') (hN0 : 0 < N) (hN : N ≤ 2000) (hg : Good n0 n1 n2 n3 n4 n5 n6 n7 sl S) (n' : Nat) (hn' : (n' : Int) = 8 * n0 + 2 * n1 + n2) (hA : ∀ i, i < N → ∃ a : Nat, a < n' ∧ (fw i).a = (a : Int))
    (hx : Rdf w x l L) (hl0 : 0 < l) (hL0 : 0 ≤ L 0 ∧ L 0 < n0) (hgo : ∀ p E, Began n0 n1 sl S R E → ∃ St, Goes p E n' (wrt fw N) 1 St ∧ St 0 = fd0 (L 0) kk true ∧ (St 1).at' = -1 ∧ (St 1).er = 4) :
    Calls Try.prog 9 #[.agg #[.int .i64 n0, .int .i64 n1, .int .i64 n2, .int .i64 n3, .int .i64 n4, .int .i64 n5, .int .i64 n6, .int .i64 n7, .slice sx sl sc], .int .i64 k, .int .i64 n, .slice x l c, .int .i64 at', .int .i64 kk] w fun e w' => e = .returned (.bool true) ∧ Kept w w' := by
  have hnb : n' ≤ 100000 := by
    have hf := hg.1
    unfold Fits at hf
    omega
  have CF : Hid (∀ w', Kept w w' → Calls Try.prog 11 #[.agg #[.int .i64 n0, .int .i64 n1, .int .i64 n2, .int .i64 n3, .int .i64 n4, .int .i64 n5, .int .i64 n6, .int .i64 n7, .slice sx sl sc]] w' _) := fun w' k => few_any n0 n1 n2 n3 n4 n5 n6 n7 sx sl sc S true w' (hS.kept k) ⟨fun _ => hm, fun _ => rfl⟩
  have CS : Hid (∀ w', Kept w w' → Calls Try.prog 18 #[.agg #[.int .i64 n0, .int .i64 n1, .int .i64 n2, .int .i64 n3, .int .i64 n4, .int .i64 n5, .int .i64 n6, .int .i64 n7, .slice sx sl sc], .int .i64 k] w' _) := fun w' q => shape_in n0 n1 n2 n3 n4 n5 n6 n7 sx sl sc S (R k) k w' hk hZ (hS.kept q) ((hR k hk).kept q)
  obtain ⟨fl, hfe⟩ : ∃ fl, (S k).l = fl := ⟨_, rfl⟩
  obtain ⟨ab, hae⟩ : ∃ ab, (S k).arr = ab := ⟨_, rfl⟩
  have HFL : Hid ((S k).arr = ab ∧ (S k).l = fl) := ⟨hae, hfe⟩
  obtain rfl : ab = false := by rw [← hae, hab]
  have CO : Hid (∀ w', Kept w w' → _) := CO
  have CL : Hid (∀ w', Kept w w' → Calls Try.prog 25 #[.agg #[.int .i64 n0, .int .i64 n1, .int .i64 n2, .int .i64 n3, .int .i64 n4, .int .i64 n5, .int .i64 n6, .int .i64 n7, .slice sx sl sc], .slice none 0 0] w' _) := fun w' q => fill_nil n0 n1 n2 n3 n4 n5 n6 n7 sx sl sc S n' w' (hS.kept q) (by rw [hn']; exact Is.is _ hg) hnb
  have HSR : Hid (Shps w sx sl S ∧ (∀ i, i < sl → Refs w (S i).x (S i).l (R i)) ∧ Good n0 n1 n2 n3 n4 n5 n6 n7 sl S ∧ 0 ≤ L 0 ∧ L 0 < n0) := ⟨hS, hR, hg, hL0.1, hL0.2⟩
  have HA : Hid (∀ i, i < N → ∃ a : Nat, a < n' ∧ (fw i).a = (a : Int)) := hA
  obtain ⟨xb, xo, rfl, hxb, hxc⟩ := hx hl0
  have HX : Hid (xb < w.heap.size ∧ ∀ j, j < l → w.cell? ⟨xb, xo + j, none⟩ = some (.int .i64 (L j))) := ⟨hxb, hxc⟩
  obtain ⟨cc, rfl⟩ : ∃ cc, cc = c := ⟨_, rfl⟩
  have HGO : Hid (∀ p E, Began n0 n1 sl S R E → _) := hgo
  clear hgo
  clear hS hR hk hm hZ hab hfe hae hg hn' hA hx hxb hxc hL0
  go_enter Try.func9, Try.ntmps9
  go_wp2_with fail
  generalize hW1 : w.alloc _ = W1
  have HW1 : Hid (Kept w W1 ∧ Blk W1 w.heap.size (cl n0 n1 n2 n3 n4 n5 n6 n7 (.slice sx sl sc))) := by rw [← hW1]; exact ⟨(Kept.refl w).alloc _ _, Blk.new w _ _⟩
  clear hW1
  refine (first_any _).mono ?_
  rintro e u1 ⟨rfl, K⟩
  have HW : Hid (Kept w u1 ∧ Blk u1 w.heap.size (cl n0 n1 n2 n3 n4 n5 n6 n7 (.slice sx sl sc))) := ⟨HW1.out.1.trans K, HW1.out.2.kept K⟩
  clear HW1 K
  have c0 := HW.out.2.at 0 rfl
  have c1 := HW.out.2.at 1 rfl
  have c2 := HW.out.2.at 2 rfl
  have c3 := HW.out.2.at 3 rfl
  have c4 := HW.out.2.at 4 rfl
  have c5 := HW.out.2.at 5 rfl
  have c6 := HW.out.2.at 6 rfl
  have c7 := HW.out.2.at 7 rfl
  have c8 := HW.out.2.at 8 rfl
  go_wp2_with fail
  refine (CS.out _ HW.out.1).mono ?_
  rintro e u4 ⟨rg, rfl, hrg, hRR, K⟩
  rw [HFL.out.2] at hRR
  have HV : Hid (Kept w u4 ∧ Blk u4 w.heap.size (cl n0 n1 n2 n3 n4 n5 n6 n7 (.slice sx sl sc)) ∧ Refs u4 (some ⟨rg, 0, none⟩) fl (R k)) := ⟨HW.out.1.trans K, HW.out.2.kept K, hRR⟩
  clear HW K c0 c1 c2 c3 c4 c5 c6 c7 c8 CS hrg hRR
  rw [HFL.out.1, HFL.out.2]
  go_upto_region 4 with fail
  generalize hW3 : u4.alloc _ = W3
  have HW : Hid (Kept w W3 ∧ Blk W3 w.heap.size (cl n0 n1 n2 n3 n4 n5 n6 n7 (.slice sx sl sc)) ∧ Blk W3 u4.heap.size [.bool false, .slice (some ⟨rg, 0, none⟩) fl fl] ∧ Refs W3 (some ⟨rg, 0, none⟩) fl (R k)) := by rw [← hW3]; exact ⟨HV.out.1.alloc _ _, HV.out.2.1.kept ((Kept.refl _).alloc _ _), Blk.new u4 [_, _] _, HV.out.2.2.kept ((Kept.refl _).alloc _ _)⟩
  clear HV hW3
  generalize u4.heap.size = sb at *
  have c0 := HW.out.2.1.at 0 rfl
  have c1 := HW.out.2.1.at 1 rfl
  have c2 := HW.out.2.1.at 2 rfl
  have c3 := HW.out.2.1.at 3 rfl
  have c4 := HW.out.2.1.at 4 rfl
  have c5 := HW.out.2.1.at 5 rfl
  have c6 := HW.out.2.1.at 6 rfl
  have c7 := HW.out.2.1.at 7 rfl
  have c8 := HW.out.2.1.at 8 rfl
  go_wp2_with fail
  refine (CF.out _ HW.out.1).mono ?_
  rintro e u5 ⟨rfl, K⟩
  have HK : Hid (Kept w u5 ∧ Blk u5 w.heap.size (cl n0 n1 n2 n3 n4 n5 n6 n7 (.slice sx sl sc)) ∧ Blk u5 sb [.bool false, .slice (some ⟨rg, 0, none⟩) fl fl] ∧ Refs u5 (some ⟨rg, 0, none⟩) fl (R k)) := ⟨HW.out.1.trans K, HW.out.2.1.kept K, HW.out.2.2.1.kept K, HW.out.2.2.2.kept K⟩
  clear HW K c0 c1 c2 c3 c4 c5 c6 c7 c8 CF
  have s0 := HK.out.2.2.1.at 0 rfl
  have hl2 : ¬ (l : Int) > 200 := by omega
  have hcb := HK.out.2.1
  have c0 := hcb.at 0 rfl
  have c1 := hcb.at 1 rfl
  have c2 := hcb.at 2 rfl
  have c3 := hcb.at 3 rfl
  have c4 := hcb.at 4 rfl
  have c5 := hcb.at 5 rfl
  have c6 := hcb.at 6 rfl
  have c7 := hcb.at 7 rfl
  have c8 := hcb.at 8 rfl
  clear hcb
  go_wp2_with fail
  refine (CO.out _ HK.out.1).mono ?_
  rintro e u7 ⟨v, rfl, hv, K⟩
  have HK7 : Hid (Kept w u7 ∧ Blk u7 w.heap.size (cl n0 n1 n2 n3 n4 n5 n6 n7 (.slice sx sl sc)) ∧ Blk u7 sb [.bool false, .slice (some ⟨rg, 0, none⟩) fl fl] ∧ Refs u7 (some ⟨rg, 0, none⟩) fl (R k)) := ⟨HK.out.1.trans K, HK.out.2.1.kept K, HK.out.2.2.1.kept K, HK.out.2.2.2.kept K⟩
  clear HK K c0 c1 c2 c3 c4 c5 c6 c7 c8 s0 CO
  have hcb := HK7.out.2.1
  have c0 := hcb.at 0 rfl
  have c1 := hcb.at 1 rfl
  have c2 := hcb.at 2 rfl
  have c3 := hcb.at 3 rfl
  have c4 := hcb.at 4 rfl
  have c5 := hcb.at 5 rfl
  have c6 := hcb.at 6 rfl
  have c7 := hcb.at 7 rfl
  have c8 := hcb.at 8 rfl
  have s0 := HK7.out.2.2.1.at 0 rfl
  have s1 := HK7.out.2.2.1.at 1 rfl
  clear hcb
  obtain ⟨g, dd, rfl, hg1, hg2, hgc⟩ := hv.here hN0
  clear hv
  go_wp2_with fail
  refine (CL.out _ HK7.out.1).mono ?_
  rintro e W ⟨b, M, rfl, hM, K8, hb8, hM8⟩
  have HMM : Hid (Mm W b M n' (fun _ => cz) 0) := hM
  have HWS : Hid (g < W.heap.size ∧ g ≠ M ∧ g ≠ b ∧ ∀ i, i < N → W.cell? ⟨g, i * 2, none⟩ = some (.int .i64 (fw i).a) ∧ W.cell? ⟨g, i * 2 + 1, none⟩ = some (.complex .f64 (fw i).z.re (fw i).z.im)) :=
    ⟨by have := K8.size; omega, by omega, by omega, fun i hi => ⟨(K8.cell hg2).trans (hgc i hi).1, (K8.cell hg2).trans (hgc i hi).2⟩⟩
  have HKU : Hid (Kept w u7 ∧ Blk u7 w.heap.size (cl n0 n1 n2 n3 n4 n5 n6 n7 (.slice sx sl sc)) ∧ Blk u7 sb [.bool false, .slice (some ⟨rg, 0, none⟩) fl fl] ∧ Refs u7 (some ⟨rg, 0, none⟩) fl (R k) ∧ Kept u7 W ∧ u7.heap.size ≤ b ∧ u7.heap.size ≤ M) := ⟨HK7.out.1, HK7.out.2.1, HK7.out.2.2.1, HK7.out.2.2.2, K8, hb8, hM8⟩
  have hlz : ((l : Int) == 0) = false := by simp; omega
  clear HK7 hM K8 hb8 hM8 hg1 hg2 hgc CL c0 c1 c2 c3 c4 c5 c6 c7 c8 s0 s1
  go_wp2_with fail
  go_loopg [18] N (fun m i wr => ∃ k : Nat, i = .int .i64 k ∧ k ≤ N ∧ m = N - k ∧ Hid (Mut [M, b] W wr ∧ Mm wr b M n' (wrt fw k) k))
  case atStart => exact ⟨0, rfl, by omega, by omega, Mut.refl _ _, HMM.out⟩
  case round =>
    obtain ⟨k, rfl, hk, hm, hw⟩ := hrel
    have HM : Hid _ := hm
    clear hm
    by_cases hlt : k < N
    · obtain ⟨a, han, hfa⟩ := HA.out k hlt
      go_wp2_with fail
      refine wp_region_phase [(.pointer (some ⟨M, 0, none⟩)), (.slice (some ⟨g, 0, none⟩) N dd), (.int .i64 (k : Int)), (.pointer (some ⟨g, k * 2, none⟩)), (.pointer (some ⟨g, k * 2, none⟩)), (.int .i64 (a : Int)), (.slice (some ⟨g, 0, none⟩) N dd), (.int .i64 (k : Int)), (.pointer (some ⟨g, k * 2, none⟩)), (.pointer (some ⟨g, k * 2 + 1, none⟩)), (.complex .f64 (fw k).z.re (fw k).z.im), (.int .i64 0)] [(84, 0), (85, 1), (86, 2), (87, 3), (88, 4), (89, 5), (90, 6), (91, 7), (92, 8), (93, 9), (94, 10), (95, 11)] [_, _, _, _, _, _, _, _, _, _, _, _, _, _, _, _, _, _, _, _, _, _, _, _, _, _, _, _, _, _, _, _, _, _, _, _, _, _, _, _, _, _, _, _, _, _, _, _, _, _, _, _, _, _, _, _, _, _, _, _, _, _, _, _, _, _, _, _, _, _, _, _, _, _, _, _, _, _, _, _, _, _, _, _, _, _, _, _, _, _, _, _, _, _, _, _, _, _, _, _, _, _, _, _, _, _, _, _, _, _, _, _, _, _, _, _, _, _, _, _, _, _, _, _, _, _, _, _, _, _, _, _, _, _, _, _, _, _, _, _, _, _, _] (fun d u => Mm u b M n' (wrt fw (if d 11 then k + 1 else k)) (if d 11 then k + 1 else k) ∧ Mut [M, b] W u) (by kernel_rfl) (by kernel_rfl) (by kernel_rfl) (by kernel_rfl) rfl ?_ ?_ ?_
      · exact ⟨by simpa using hw.out.2.kept (Kept.refl _).drew, hw.out.1.drew⟩
      · intro i1 o ho a1 d u hh hj hi hd
        match i1, ho, hi, hd with
        | 0, ho, hi, hd =>
          simp only [List.getElem?_cons_zero, Option.some.injEq] at ho
          subst ho
          have g17 : a1.tmps[17]? = some (.pointer (some ⟨M, 0, none⟩)) := hh.old 17 (by kernel_rfl) rfl
          clear hh hd
          have HN : Hid (Mm u b M n' (wrt fw (if done d 0 11 then k + 1 else k)) (if done d 0 11 then k + 1 else k) ∧ Mut [M, b] W u) := (by simpa [done] using hj : Mm u b M n' (wrt fw (if done d 0 11 then k + 1 else k)) (if done d 0 11 then k + 1 else k) ∧ Mut [M, b] W u)
          clear hj hi
          refine wpOp_step rfl (fun K hK => ?_)
          go_simp
          exact hK _ _ ⟨by simp [Act.put], HN.out⟩
        | 1, ho, hi, hd =>
          simp only [List.getElem?_cons_succ, List.getElem?_cons_zero, Option.some.injEq] at ho
          subst ho
          have g15 : a1.tmps[15]? = some (.slice (some ⟨g, 0, none⟩) N dd) := hh.old 15 (by kernel_rfl) rfl
          clear hh hd
          have HN : Hid (Mm u b M n' (wrt fw (if done d 1 11 then k + 1 else k)) (if done d 1 11 then k + 1 else k) ∧ Mut [M, b] W u) := (by simpa [done] using hj : Mm u b M n' (wrt fw (if done d 1 11 then k + 1 else k)) (if done d 1 11 then k + 1 else k) ∧ Mut [M, b] W u)
          clear hj hi
          refine wpOp_step rfl (fun K hK => ?_)
          go_simp
          exact hK _ _ ⟨by simp [Act.put], HN.out⟩
        | 2, ho, hi, hd =>
          simp only [List.getElem?_cons_succ, List.getElem?_cons_zero, Option.some.injEq] at ho
          subst ho
          have g18 : a1.tmps[18]? = some (.int .i64 (k : Int)) := hh.old 18 (by kernel_rfl) rfl
          clear hh hd
          have HN : Hid (Mm u b M n' (wrt fw (if done d 2 11 then k + 1 else k)) (if done d 2 11 then k + 1 else k) ∧ Mut [M, b] W u) := (by simpa [done] using hj : Mm u b M n' (wrt fw (if done d 2 11 then k + 1 else k)) (if done d 2 11 then k + 1 else k) ∧ Mut [M, b] W u)
          clear hj hi
          refine wpOp_step rfl (fun K hK => ?_)
          go_simp
          exact hK _ _ ⟨by simp [Act.put], HN.out⟩
        | 3, ho, hi, hd =>
          simp only [List.getElem?_cons_succ, List.getElem?_cons_zero, Option.some.injEq] at ho
          subst ho
          have g85 : a1.tmps[85]? = some (.slice (some ⟨g, 0, none⟩) N dd) := hh.did 1 _ 85 rfl rfl (hd { on := 1, ground := .data } (by simp) rfl)
          have g86 : a1.tmps[86]? = some (.int .i64 (k : Int)) := hh.did 2 _ 86 rfl rfl (hd { on := 2, ground := .data } (by simp) rfl)
          clear hh hd
          have HN : Hid (Mm u b M n' (wrt fw (if done d 3 11 then k + 1 else k)) (if done d 3 11 then k + 1 else k) ∧ Mut [M, b] W u) := (by simpa [done] using hj : Mm u b M n' (wrt fw (if done d 3 11 then k + 1 else k)) (if done d 3 11 then k + 1 else k) ∧ Mut [M, b] W u)
          clear hj hi
          refine wpOp_step rfl (fun K hK => ?_)
          go_simp
          exact hK _ _ ⟨by simp [Act.put], HN.out⟩
        | 4, ho, hi, hd =>
          simp only [List.getElem?_cons_succ, List.getElem?_cons_zero, Option.some.injEq] at ho
          subst ho
          have g87 : a1.tmps[87]? = some (.pointer (some ⟨g, k * 2, none⟩)) := hh.did 3 _ 87 rfl rfl (hd { on := 3, ground := .data } (by simp) rfl)
          clear hh hd
          have HN : Hid (Mm u b M n' (wrt fw (if done d 4 11 then k + 1 else k)) (if done d 4 11 then k + 1 else k) ∧ Mut [M, b] W u) := (by simpa [done] using hj : Mm u b M n' (wrt fw (if done d 4 11 then k + 1 else k)) (if done d 4 11 then k + 1 else k) ∧ Mut [M, b] W u)
          clear hj hi
          refine wpOp_step rfl (fun K hK => ?_)
          go_simp
          exact hK _ _ ⟨by simp [Act.put], HN.out⟩
        | 5, ho, hi, hd =>
          simp only [List.getElem?_cons_succ, List.getElem?_cons_zero, Option.some.injEq] at ho
          subst ho
          have g88 : a1.tmps[88]? = some (.pointer (some ⟨g, k * 2, none⟩)) := hh.did 4 _ 88 rfl rfl (hd { on := 4, ground := .data } (by simp) rfl)
          have ca : u.cell? ⟨g, k * 2, none⟩ = some (.int .i64 (a : Int)) := (hj.2.cell HWS.out.1 (by have := HWS.out.2.1; have := HWS.out.2.2.1; simp; omega)).trans (by rw [← hfa]; exact (HWS.out.2.2.2 k hlt).1)
          clear hh hd
          have HN : Hid (Mm u b M n' (wrt fw (if done d 5 11 then k + 1 else k)) (if done d 5 11 then k + 1 else k) ∧ Mut [M, b] W u) := (by simpa [done] using hj : Mm u b M n' (wrt fw (if done d 5 11 then k + 1 else k)) (if done d 5 11 then k + 1 else k) ∧ Mut [M, b] W u)
          clear hj hi
          refine wpOp_step rfl (fun K hK => ?_)
          go_simp
          exact hK _ _ ⟨by simp [Act.put], HN.out⟩
        | 6, ho, hi, hd =>
          simp only [List.getElem?_cons_succ, List.getElem?_cons_zero, Option.some.injEq] at ho
          subst ho
          have g15 : a1.tmps[15]? = some (.slice (some ⟨g, 0, none⟩) N dd) := hh.old 15 (by kernel_rfl) rfl
          clear hh hd
          have HN : Hid (Mm u b M n' (wrt fw (if done d 6 11 then k + 1 else k)) (if done d 6 11 then k + 1 else k) ∧ Mut [M, b] W u) := (by simpa [done] using hj : Mm u b M n' (wrt fw (if done d 6 11 then k + 1 else k)) (if done d 6 11 then k + 1 else k) ∧ Mut [M, b] W u)
          clear hj hi
          refine wpOp_step rfl (fun K hK => ?_)
          go_simp
          exact hK _ _ ⟨by simp [Act.put], HN.out⟩
        | 7, ho, hi, hd =>
          simp only [List.getElem?_cons_succ, List.getElem?_cons_zero, Option.some.injEq] at ho
          subst ho
          have g18 : a1.tmps[18]? = some (.int .i64 (k : Int)) := hh.old 18 (by kernel_rfl) rfl
          clear hh hd
          have HN : Hid (Mm u b M n' (wrt fw (if done d 7 11 then k + 1 else k)) (if done d 7 11 then k + 1 else k) ∧ Mut [M, b] W u) := (by simpa [done] using hj : Mm u b M n' (wrt fw (if done d 7 11 then k + 1 else k)) (if done d 7 11 then k + 1 else k) ∧ Mut [M, b] W u)
          clear hj hi
          refine wpOp_step rfl (fun K hK => ?_)
          go_simp
          exact hK _ _ ⟨by simp [Act.put], HN.out⟩
        | 8, ho, hi, hd =>
          simp only [List.getElem?_cons_succ, List.getElem?_cons_zero, Option.some.injEq] at ho
          subst ho
          have g90 : a1.tmps[90]? = some (.slice (some ⟨g, 0, none⟩) N dd) := hh.did 6 _ 90 rfl rfl (hd { on := 6, ground := .data } (by simp) rfl)
          have g91 : a1.tmps[91]? = some (.int .i64 (k : Int)) := hh.did 7 _ 91 rfl rfl (hd { on := 7, ground := .data } (by simp) rfl)
          clear hh hd
          have HN : Hid (Mm u b M n' (wrt fw (if done d 8 11 then k + 1 else k)) (if done d 8 11 then k + 1 else k) ∧ Mut [M, b] W u) := (by simpa [done] using hj : Mm u b M n' (wrt fw (if done d 8 11 then k + 1 else k)) (if done d 8 11 then k + 1 else k) ∧ Mut [M, b] W u)
          clear hj hi
          refine wpOp_step rfl (fun K hK => ?_)
          go_simp
          exact hK _ _ ⟨by simp [Act.put], HN.out⟩
        | 9, ho, hi, hd =>
          simp only [List.getElem?_cons_succ, List.getElem?_cons_zero, Option.some.injEq] at ho
          subst ho
          have g92 : a1.tmps[92]? = some (.pointer (some ⟨g, k * 2, none⟩)) := hh.did 8 _ 92 rfl rfl (hd { on := 8, ground := .data } (by simp) rfl)
          clear hh hd
          have HN : Hid (Mm u b M n' (wrt fw (if done d 9 11 then k + 1 else k)) (if done d 9 11 then k + 1 else k) ∧ Mut [M, b] W u) := (by simpa [done] using hj : Mm u b M n' (wrt fw (if done d 9 11 then k + 1 else k)) (if done d 9 11 then k + 1 else k) ∧ Mut [M, b] W u)
          clear hj hi
          refine wpOp_step rfl (fun K hK => ?_)
          go_simp
          exact hK _ _ ⟨by simp [Act.put], HN.out⟩
        | 10, ho, hi, hd =>
          simp only [List.getElem?_cons_succ, List.getElem?_cons_zero, Option.some.injEq] at ho
          subst ho
          have g93 : a1.tmps[93]? = some (.pointer (some ⟨g, k * 2 + 1, none⟩)) := hh.did 9 _ 93 rfl rfl (hd { on := 9, ground := .data } (by simp) rfl)
          have cb : u.cell? ⟨g, k * 2 + 1, none⟩ = some (.complex .f64 (fw k).z.re (fw k).z.im) := (hj.2.cell HWS.out.1 (by have := HWS.out.2.1; have := HWS.out.2.2.1; simp; omega)).trans (HWS.out.2.2.2 k hlt).2
          clear hh hd
          have HN : Hid (Mm u b M n' (wrt fw (if done d 10 11 then k + 1 else k)) (if done d 10 11 then k + 1 else k) ∧ Mut [M, b] W u) := (by simpa [done] using hj : Mm u b M n' (wrt fw (if done d 10 11 then k + 1 else k)) (if done d 10 11 then k + 1 else k) ∧ Mut [M, b] W u)
          clear hj hi
          refine wpOp_step rfl (fun K hK => ?_)
          go_simp
          exact hK _ _ ⟨by simp [Act.put], HN.out⟩
        | 11, ho, hi, hd =>
          simp only [List.getElem?_cons_succ, List.getElem?_cons_zero, Option.some.injEq] at ho
          subst ho
          have g84 : a1.tmps[84]? = some (.pointer (some ⟨M, 0, none⟩)) := hh.did 0 _ 84 rfl rfl (hd { on := 0, ground := .data } (by simp) rfl)
          have g89 : a1.tmps[89]? = some (.int .i64 (a : Int)) := hh.did 5 _ 89 rfl rfl (hd { on := 5, ground := .data } (by simp) rfl)
          have g94 : a1.tmps[94]? = some (.complex .f64 (fw k).z.re (fw k).z.im) := hh.did 10 _ 94 rfl rfl (hd { on := 10, ground := .data } (by simp) rfl)
          have CA := mem_write (G := wrt fw (k + 1)) a (fw k).z u (by have B := hj.1; simp only [hi, Bool.false_eq_true, if_false] at B; exact B) han (by omega) (fun j _ => wrt_step hfa j)
          clear hh hd
          have HN : Hid (∀ u', Mm u' b M n' (wrt fw (k + 1)) (k + 1) → Mut [M, b] u u' → Mm u' b M n' (wrt fw (if done d 11 11 then k + 1 else k)) (if done d 11 11 then k + 1 else k) ∧ Mut [M, b] W u') := fun u' x y => ⟨by simpa [done] using x, hj.2.trans y⟩
          clear hj hi
          refine wpOp_step rfl (fun K hK => ?_)
          go_simp
          refine CA.mono ?_
          rintro e u' ⟨rfl, x, y⟩
          exact hK _ _ ⟨by simp [Act.put], HN.out u' x y⟩
        | n + 12, ho, hi, hd => simp at ho
      · intro u d hall hj
        have HN : Hid (Mut [M, b] W u ∧ Mm u b M n' (wrt fw (k + 1)) (k + 1)) := by
          have B := hj.1
          rw [hall 11 (by decide)] at B
          exact ⟨hj.2, B⟩
        clear hj hall
        go_wp2
        go_roundg (N - (k + 1))
        case measure => have := HM.out; omega
        case rel => exact ⟨k + 1, by go_num, by omega, by omega, HN⟩
    · obtain rfl : N = k := by omega
      have HW2 : Hid (Mut [M, b] W wr ∧ Mm wr b M n' (wrt fw N) N) := hw
      clear hw HM hk hlt HMM HA
      obtain ⟨W2, rfl⟩ : ∃ W2, W2 = wr := ⟨_, rfl⟩
      have HK9 : Hid (Kept u7 W2) := HKU.out.2.2.2.2.1.muts HW2.out.1 (by have := HKU.out.2.2.2.2.2; simp; omega)
      have HKV : Hid (Kept w W2) := HKU.out.1.trans HK9.out
      have HCB : Hid (Blk W2 w.heap.size (cl n0 n1 n2 n3 n4 n5 n6 n7 (.slice sx sl sc))) := HKU.out.2.1.kept HK9.out
      have HSB : Hid (Blk W2 sb [.bool false, .slice (some ⟨rg, 0, none⟩) fl fl] ∧ Refs W2 (some ⟨rg, 0, none⟩) fl (R k)) := ⟨HKU.out.2.2.1.kept HK9.out, HKU.out.2.2.2.1.kept HK9.out⟩
      have HMW : Hid (Mm W2 b M n' (wrt fw N) N ∧ w.heap.size ≤ b ∧ w.heap.size ≤ M) := ⟨HW2.out.2, by have := HKU.out.2.2.2.2.2.1; have := HKU.out.1.size; omega, by have := HKU.out.2.2.2.2.2.2; have := HKU.out.1.size; omega⟩
      clear HKU HW2 HWS HK9
      have VMM : Hid _ := HMW
      have CField : Hid (∀ u, Kept W2 u → Calls Try.prog 29 #[.agg #[.int .i64 n0, .int .i64 n1, .int .i64 n2, .int .i64 n3, .int .i64 n4, .int .i64 n5, .int .i64 n6, .int .i64 n7, .slice sx sl sc], .int .i64 (L 0), .int .i64 kk] u _) := fun u q => field_newf n0 n1 n2 n3 n4 n5 n6 n7 sx sl sc S R (L 0) kk W2 u q (HSR.out.1.kept (HKV.out.trans q)) (fun i hi => (HSR.out.2.1 i hi).kept (HKV.out.trans q)) HSR.out.2.2.1 HSR.out.2.2.2
      go_wp2_with fail
      refine wp_region_mix [undef, undef, undef, undef, undef, undef, undef] [(19, 6), (96, 0), (97, 1), (98, 2), (99, 3), (100, 4), (101, 5)] (fun d vals u => MJ (fun q1 => match q1 with | 0 => some (.agg #[.int .i64 n0, .int .i64 n1, .int .i64 n2, .int .i64 n3, .int .i64 n4, .int .i64 n5, .int .i64 n6, .int .i64 n7, .slice sx sl sc]) | 1 => some (.slice (some ⟨xb, xo, none⟩) l cc) | 2 => some (.pointer (some ⟨xb, xo, none⟩)) | 3 => some (.int .i64 (L 0)) | 4 => some (.int .i64 kk) | _ => none) 5 6 (fun u => Kept W2 u) (fun v u => Newf W2 (fd0 (L 0) kk false) n0 n1 sl S R v u) d vals u) (by kernel_rfl) (by kernel_rfl) (by kernel_rfl) (by kernel_rfl) rfl ?_ ?_ ?_
      · exact ⟨fun _ _ _ h => absurd h (by simp), fun _ => (Kept.refl _).drew, fun h => absurd h (by simp), fun h => absurd h (by simp)⟩
      · intro i1 o ho a1 d vals u hv0 hh hj hi hd
        have hv : vals.length = 7 := hv0
        have hKR : Kept W2 u := by
          cases hq : d 5
          · exact hj.bf hq
          · exact (hj.af hq).1
        match i1, ho, hi, hd with
        | 0, ho, hi, hd =>
          simp only [List.getElem?_cons_zero, Option.some.injEq] at ho
          subst ho
          have g6 : a1.tmps[6]? = some (.pointer (some ⟨w.heap.size, 0, none⟩)) := hh.old 6 (by kernel_rfl) rfl
          have B := HCB.out.kept hKR
          have c0 := B.at 0 rfl
          have c1 := B.at 1 rfl
          have c2 := B.at 2 rfl
          have c3 := B.at 3 rfl
          have c4 := B.at 4 rfl
          have c5 := B.at 5 rfl
          have c6 := B.at 6 rfl
          have c7 := B.at 7 rfl
          have c8 := B.at 8 rfl
          clear B
          have HN : Hid (MJ (fun q1 => match q1 with | 0 => some (.agg #[.int .i64 n0, .int .i64 n1, .int .i64 n2, .int .i64 n3, .int .i64 n4, .int .i64 n5, .int .i64 n6, .int .i64 n7, .slice sx sl sc]) | 1 => some (.slice (some ⟨xb, xo, none⟩) l cc) | 2 => some (.pointer (some ⟨xb, xo, none⟩)) | 3 => some (.int .i64 (L 0)) | 4 => some (.int .i64 kk) | _ => none) 5 6 (fun u => Kept W2 u) (fun v u => Newf W2 (fd0 (L 0) kk false) n0 n1 sl S R v u) (done d 0) (vals.set 0 (.agg #[.int .i64 n0, .int .i64 n1, .int .i64 n2, .int .i64 n3, .int .i64 n4, .int .i64 n5, .int .i64 n6, .int .i64 n7, .slice sx sl sc])) u) := hj.plain 0 _ (by omega) (by decide) (by decide) rfl
          clear hh hd hj hi hKR
          refine wpOp_step rfl (fun K hK => ?_)
          go_simp
          exact hK _ _ ⟨_, by simp [Act.put], HN.out⟩
        | 1, ho, hi, hd =>
          simp only [List.getElem?_cons_succ, List.getElem?_cons_zero, Option.some.injEq] at ho
          subst ho
          have g3 : a1.tmps[3]? = some (.slice (some ⟨xb, xo, none⟩) l cc) := hh.old 3 (by kernel_rfl) rfl
          have HN : Hid (MJ (fun q1 => match q1 with | 0 => some (.agg #[.int .i64 n0, .int .i64 n1, .int .i64 n2, .int .i64 n3, .int .i64 n4, .int .i64 n5, .int .i64 n6, .int .i64 n7, .slice sx sl sc]) | 1 => some (.slice (some ⟨xb, xo, none⟩) l cc) | 2 => some (.pointer (some ⟨xb, xo, none⟩)) | 3 => some (.int .i64 (L 0)) | 4 => some (.int .i64 kk) | _ => none) 5 6 (fun u => Kept W2 u) (fun v u => Newf W2 (fd0 (L 0) kk false) n0 n1 sl S R v u) (done d 1) (vals.set 1 (.slice (some ⟨xb, xo, none⟩) l cc)) u) := hj.plain 1 _ (by omega) (by decide) (by decide) rfl
          clear hh hd hj hi hKR
          refine wpOp_step rfl (fun K hK => ?_)
          go_simp
          exact hK _ _ ⟨_, by simp [Act.put], HN.out⟩
        | 2, ho, hi, hd =>
          simp only [List.getElem?_cons_succ, List.getElem?_cons_zero, Option.some.injEq] at ho
          subst ho
          have g97 : a1.tmps[97]? = some (.slice (some ⟨xb, xo, none⟩) l cc) := (hh.did 1 _ 97 rfl rfl (hd { on := 1, ground := .data } (by simp) rfl)).trans (congrArg some (hj.kn 1 _ rfl (hd { on := 1, ground := .data } (by simp) rfl)))
          have HN : Hid (MJ (fun q1 => match q1 with | 0 => some (.agg #[.int .i64 n0, .int .i64 n1, .int .i64 n2, .int .i64 n3, .int .i64 n4, .int .i64 n5, .int .i64 n6, .int .i64 n7, .slice sx sl sc]) | 1 => some (.slice (some ⟨xb, xo, none⟩) l cc) | 2 => some (.pointer (some ⟨xb, xo, none⟩)) | 3 => some (.int .i64 (L 0)) | 4 => some (.int .i64 kk) | _ => none) 5 6 (fun u => Kept W2 u) (fun v u => Newf W2 (fd0 (L 0) kk false) n0 n1 sl S R v u) (done d 2) (vals.set 2 (.pointer (some ⟨xb, xo, none⟩))) u) := hj.plain 2 _ (by omega) (by decide) (by decide) rfl
          clear hh hd hj hi hKR
          refine wpOp_step rfl (fun K hK => ?_)
          go_simp
          exact hK _ _ ⟨_, by simp [Act.put], HN.out⟩
        | 3, ho, hi, hd =>
          simp only [List.getElem?_cons_succ, List.getElem?_cons_zero, Option.some.injEq] at ho
          subst ho
          have g98 : a1.tmps[98]? = some (.pointer (some ⟨xb, xo, none⟩)) := (hh.did 2 _ 98 rfl rfl (hd { on := 2, ground := .data } (by simp) rfl)).trans (congrArg some (hj.kn 2 _ rfl (hd { on := 2, ground := .data } (by simp) rfl)))
          have cg : u.cell? ⟨xb, xo, none⟩ = some (.int .i64 (L 0)) := ((HKV.out.trans hKR).cell HX.out.1).trans (HX.out.2 0 (by omega))
          have HN : Hid (MJ (fun q1 => match q1 with | 0 => some (.agg #[.int .i64 n0, .int .i64 n1, .int .i64 n2, .int .i64 n3, .int .i64 n4, .int .i64 n5, .int .i64 n6, .int .i64 n7, .slice sx sl sc]) | 1 => some (.slice (some ⟨xb, xo, none⟩) l cc) | 2 => some (.pointer (some ⟨xb, xo, none⟩)) | 3 => some (.int .i64 (L 0)) | 4 => some (.int .i64 kk) | _ => none) 5 6 (fun u => Kept W2 u) (fun v u => Newf W2 (fd0 (L 0) kk false) n0 n1 sl S R v u) (done d 3) (vals.set 3 (.int .i64 (L 0))) u) := hj.plain 3 _ (by omega) (by decide) (by decide) rfl
          clear hh hd hj hi hKR
          refine wpOp_step rfl (fun K hK => ?_)
          go_simp
          exact hK _ _ ⟨_, by simp [Act.put], HN.out⟩
        | 4, ho, hi, hd =>
          simp only [List.getElem?_cons_succ, List.getElem?_cons_zero, Option.some.injEq] at ho
          subst ho
          have g5 : a1.tmps[5]? = some (.int .i64 kk) := hh.old 5 (by kernel_rfl) rfl
          have HN : Hid (MJ (fun q1 => match q1 with | 0 => some (.agg #[.int .i64 n0, .int .i64 n1, .int .i64 n2, .int .i64 n3, .int .i64 n4, .int .i64 n5, .int .i64 n6, .int .i64 n7, .slice sx sl sc]) | 1 => some (.slice (some ⟨xb, xo, none⟩) l cc) | 2 => some (.pointer (some ⟨xb, xo, none⟩)) | 3 => some (.int .i64 (L 0)) | 4 => some (.int .i64 kk) | _ => none) 5 6 (fun u => Kept W2 u) (fun v u => Newf W2 (fd0 (L 0) kk false) n0 n1 sl S R v u) (done d 4) (vals.set 4 (.int .i64 kk)) u) := hj.plain 4 _ (by omega) (by decide) (by decide) rfl
          clear hh hd hj hi hKR
          refine wpOp_step rfl (fun K hK => ?_)
          go_simp
          exact hK _ _ ⟨_, by simp [Act.put], HN.out⟩
        | 5, ho, hi, hd =>
          simp only [List.getElem?_cons_succ, List.getElem?_cons_zero, Option.some.injEq] at ho
          subst ho
          have g96 : a1.tmps[96]? = some (.agg #[.int .i64 n0, .int .i64 n1, .int .i64 n2, .int .i64 n3, .int .i64 n4, .int .i64 n5, .int .i64 n6, .int .i64 n7, .slice sx sl sc]) := (hh.did 0 _ 96 rfl rfl (hd { on := 0, ground := .data } (by simp) rfl)).trans (congrArg some (hj.kn 0 _ rfl (hd { on := 0, ground := .data } (by simp) rfl)))
          have g99 : a1.tmps[99]? = some (.int .i64 (L 0)) := (hh.did 3 _ 99 rfl rfl (hd { on := 3, ground := .data } (by simp) rfl)).trans (congrArg some (hj.kn 3 _ rfl (hd { on := 3, ground := .data } (by simp) rfl)))
          have g100 : a1.tmps[100]? = some (.int .i64 kk) := (hh.did 4 _ 100 rfl rfl (hd { on := 4, ground := .data } (by simp) rfl)).trans (congrArg some (hj.kn 4 _ rfl (hd { on := 4, ground := .data } (by simp) rfl)))
          have CA := CField.out u hKR
          have HN : Hid (∀ v' u', Newf W2 (fd0 (L 0) kk false) n0 n1 sl S R v' u' → MJ (fun q1 => match q1 with | 0 => some (.agg #[.int .i64 n0, .int .i64 n1, .int .i64 n2, .int .i64 n3, .int .i64 n4, .int .i64 n5, .int .i64 n6, .int .i64 n7, .slice sx sl sc]) | 1 => some (.slice (some ⟨xb, xo, none⟩) l cc) | 2 => some (.pointer (some ⟨xb, xo, none⟩)) | 3 => some (.int .i64 (L 0)) | 4 => some (.int .i64 kk) | _ => none) 5 6 (fun u => Kept W2 u) (fun v u => Newf W2 (fd0 (L 0) kk false) n0 n1 sl S R v u) (done d 5) (vals.set 5 v') u') := fun v' u' q => hj.call (by omega) (by decide) hi rfl q
          clear hh hd hj hi hKR
          refine wpOp_step rfl (fun K hK => ?_)
          go_simp
          refine CA.mono ?_
          rintro e u' ⟨v', rfl, q1⟩
          exact hK _ _ ⟨v', by simp [Act.put], HN.out v' u' q1⟩
        | 6, ho, hi, hd =>
          simp only [List.getElem?_cons_succ, List.getElem?_cons_zero, Option.some.injEq] at ho
          subst ho
          have g101 : a1.tmps[101]? = some (vals.getD 5 undef) := hh.did 5 _ 101 rfl rfl (hd { on := 5, ground := .data } (by simp) rfl)
          have HN0 := hj.last (by omega) (by decide) (hd { on := 5, ground := .data } (by simp) rfl) (hd { on := 0, ground := .phase } (by simp) rfl) rfl
          obtain ⟨y, hy⟩ : ∃ y, vals.getD 5 undef = y := ⟨_, rfl⟩
          rw [hy] at HN0 g101
          have HN : Hid (MJ (fun q1 => match q1 with | 0 => some (.agg #[.int .i64 n0, .int .i64 n1, .int .i64 n2, .int .i64 n3, .int .i64 n4, .int .i64 n5, .int .i64 n6, .int .i64 n7, .slice sx sl sc]) | 1 => some (.slice (some ⟨xb, xo, none⟩) l cc) | 2 => some (.pointer (some ⟨xb, xo, none⟩)) | 3 => some (.int .i64 (L 0)) | 4 => some (.int .i64 kk) | _ => none) 5 6 (fun u => Kept W2 u) (fun v u => Newf W2 (fd0 (L 0) kk false) n0 n1 sl S R v u) (done d 6) (vals.set 6 y) u) := HN0
          clear hh hd hj hi hKR HN0 hy
          refine wpOp_step rfl (fun K hK => ?_)
          go_simp
          exact hK _ _ ⟨y, by simp [Act.put], HN.out⟩
        | n + 7, ho, _, _ => simp at ho
      · intro u d vals hv hall hj
        have h9 := hj.af (hall 5 (by decide))
        have h10 := (hj.la (hall 6 (by decide))).2.1
        clear hall hj
        match vals, hv, h9, h10 with
        | [y0, y1, y2, y3, y4, y5, y6], _, h9, h10 =>
          simp only [List.getD_cons_succ, List.getD_cons_zero] at h9 h10
          subst h10
          obtain ⟨K5, p, E, hy, hF5, hp5, hE5⟩ := h9
          subst hy
          refine norm_list' (L' := [_, _, _, _, _, _, _, _, _, _, _, _, _, _, _, _, _, _, _, _, _, _, _, _, _, _, _, _, _, _, _, _, _, _, _, _, _, _, _, _, _, _, _, _, _, _, _, _, _, _, _, _, _, _, _, _, _, _, _, _, _, _, _, _, _, _, _, _, _, _, _, _, _, _, _, _, _, _, _, _, _, _, _, _, _, _, _, _, _, _, _, _, _, _, _, _, _, _, _, _, _, _, _, _, _, _, _, _, _, _, _, _, _, _, _, _, _, _, _, _, _, _, _, _, _, _, _, _, _, _, _, _, _, _, _, _, _, _, _, _, _, _, _]) rfl ?_
          simp only [List.getD_cons_succ, List.getD_cons_zero]
          have s0 := (HSB.out.1.kept K5).at 0 rfl
          have HKV2 : Hid (Kept w u) := HKV.out.trans K5
          have HCB2 : Hid (Blk u w.heap.size (cl n0 n1 n2 n3 n4 n5 n6 n7 (.slice sx sl sc))) := HCB.out.kept K5
          have VMM2 : Hid (Mm u b M n' (wrt fw N) N ∧ w.heap.size ≤ b ∧ w.heap.size ≤ M) := ⟨HMW.out.1.kept K5, HMW.out.2.1, HMW.out.2.2⟩
          clear HKV HCB VMM HMW K5 hF5 hp5 hE5 CField HSB E
          have HKV := HKV2
          have HCB := HCB2
          have VMM := VMM2
          clear HKV2 HCB2 VMM2
          obtain ⟨V, rfl⟩ : ∃ V, V = u := ⟨_, rfl⟩
          obtain ⟨po, rfl⟩ : ∃ po, po = p := ⟨_, rfl⟩
          have CElem : Hid (∀ u, Kept V u → Calls Try.prog 30 #[.agg #[.int .i64 n0, .int .i64 n1, .int .i64 n2, .int .i64 n3, .int .i64 n4, .int .i64 n5, .int .i64 n6, .int .i64 n7, .slice sx sl sc], .int .i64 (L 0), .int .i64 kk] u _) := fun u q => elem_newf n0 n1 n2 n3 n4 n5 n6 n7 sx sl sc S R (L 0) kk V u q (HSR.out.1.kept (HKV.out.trans q)) (fun i hi => (HSR.out.2.1 i hi).kept (HKV.out.trans q)) HSR.out.2.2.1 HSR.out.2.2.2
          go_wp2_with fail
          refine wp_region_mix [undef, undef, undef, undef, undef, undef, undef] [(19, 6), (105, 0), (106, 1), (107, 2), (108, 3), (109, 4), (110, 5)] (fun d vals u => MJ (fun q1 => match q1 with | 0 => some (.agg #[.int .i64 n0, .int .i64 n1, .int .i64 n2, .int .i64 n3, .int .i64 n4, .int .i64 n5, .int .i64 n6, .int .i64 n7, .slice sx sl sc]) | 1 => some (.slice (some ⟨xb, xo, none⟩) l cc) | 2 => some (.pointer (some ⟨xb, xo, none⟩)) | 3 => some (.int .i64 (L 0)) | 4 => some (.int .i64 kk) | _ => none) 5 6 (fun u => Kept V u) (fun v u => Newf V (fd0 (L 0) kk true) n0 n1 sl S R v u) d vals u) (by kernel_rfl) (by kernel_rfl) (by kernel_rfl) (by kernel_rfl) rfl ?_ ?_ ?_
          · exact ⟨fun _ _ _ h => absurd h (by simp), fun _ => (Kept.refl _).drew, fun h => absurd h (by simp), fun h => absurd h (by simp)⟩
          · intro i1 o ho a1 d vals u hv0 hh hj hi hd
            have hv : vals.length = 7 := hv0
            have hKR : Kept V u := by
              cases hq : d 5
              · exact hj.bf hq
              · exact (hj.af hq).1
            match i1, ho, hi, hd with
            | 0, ho, hi, hd =>
              simp only [List.getElem?_cons_zero, Option.some.injEq] at ho
              subst ho
              have g6 : a1.tmps[6]? = some (.pointer (some ⟨w.heap.size, 0, none⟩)) := hh.old 6 (by kernel_rfl) rfl
              have B := HCB.out.kept hKR
              have c0 := B.at 0 rfl
              have c1 := B.at 1 rfl
              have c2 := B.at 2 rfl
              have c3 := B.at 3 rfl
              have c4 := B.at 4 rfl
              have c5 := B.at 5 rfl
              have c6 := B.at 6 rfl
              have c7 := B.at 7 rfl
              have c8 := B.at 8 rfl
              clear B
              have HN : Hid (MJ (fun q1 => match q1 with | 0 => some (.agg #[.int .i64 n0, .int .i64 n1, .int .i64 n2, .int .i64 n3, .int .i64 n4, .int .i64 n5, .int .i64 n6, .int .i64 n7, .slice sx sl sc]) | 1 => some (.slice (some ⟨xb, xo, none⟩) l cc) | 2 => some (.pointer (some ⟨xb, xo, none⟩)) | 3 => some (.int .i64 (L 0)) | 4 => some (.int .i64 kk) | _ => none) 5 6 (fun u => Kept V u) (fun v u => Newf V (fd0 (L 0) kk true) n0 n1 sl S R v u) (done d 0) (vals.set 0 (.agg #[.int .i64 n0, .int .i64 n1, .int .i64 n2, .int .i64 n3, .int .i64 n4, .int .i64 n5, .int .i64 n6, .int .i64 n7, .slice sx sl sc])) u) := hj.plain 0 _ (by omega) (by decide) (by decide) rfl
              clear hh hd hj hi hKR
              refine wpOp_step rfl (fun K hK => ?_)
              go_simp
              exact hK _ _ ⟨_, by simp [Act.put], HN.out⟩
            | 1, ho, hi, hd =>
              simp only [List.getElem?_cons_succ, List.getElem?_cons_zero, Option.some.injEq] at ho
              subst ho
              have g3 : a1.tmps[3]? = some (.slice (some ⟨xb, xo, none⟩) l cc) := hh.old 3 (by kernel_rfl) rfl
              have HN : Hid (MJ (fun q1 => match q1 with | 0 => some (.agg #[.int .i64 n0, .int .i64 n1, .int .i64 n2, .int .i64 n3, .int .i64 n4, .int .i64 n5, .int .i64 n6, .int .i64 n7, .slice sx sl sc]) | 1 => some (.slice (some ⟨xb, xo, none⟩) l cc) | 2 => some (.pointer (some ⟨xb, xo, none⟩)) | 3 => some (.int .i64 (L 0)) | 4 => some (.int .i64 kk) | _ => none) 5 6 (fun u => Kept V u) (fun v u => Newf V (fd0 (L 0) kk true) n0 n1 sl S R v u) (done d 1) (vals.set 1 (.slice (some ⟨xb, xo, none⟩) l cc)) u) := hj.plain 1 _ (by omega) (by decide) (by decide) rfl
              clear hh hd hj hi hKR
              refine wpOp_step rfl (fun K hK => ?_)
              go_simp
              exact hK _ _ ⟨_, by simp [Act.put], HN.out⟩
            | 2, ho, hi, hd =>
              simp only [List.getElem?_cons_succ, List.getElem?_cons_zero, Option.some.injEq] at ho
              subst ho
              have g106 : a1.tmps[106]? = some (.slice (some ⟨xb, xo, none⟩) l cc) := (hh.did 1 _ 106 rfl rfl (hd { on := 1, ground := .data } (by simp) rfl)).trans (congrArg some (hj.kn 1 _ rfl (hd { on := 1, ground := .data } (by simp) rfl)))
              have HN : Hid (MJ (fun q1 => match q1 with | 0 => some (.agg #[.int .i64 n0, .int .i64 n1, .int .i64 n2, .int .i64 n3, .int .i64 n4, .int .i64 n5, .int .i64 n6, .int .i64 n7, .slice sx sl sc]) | 1 => some (.slice (some ⟨xb, xo, none⟩) l cc) | 2 => some (.pointer (some ⟨xb, xo, none⟩)) | 3 => some (.int .i64 (L 0)) | 4 => some (.int .i64 kk) | _ => none) 5 6 (fun u => Kept V u) (fun v u => Newf V (fd0 (L 0) kk true) n0 n1 sl S R v u) (done d 2) (vals.set 2 (.pointer (some ⟨xb, xo, none⟩))) u) := hj.plain 2 _ (by omega) (by decide) (by decide) rfl
              clear hh hd hj hi hKR
              refine wpOp_step rfl (fun K hK => ?_)
              go_simp
              exact hK _ _ ⟨_, by simp [Act.put], HN.out⟩
            | 3, ho, hi, hd =>
              simp only [List.getElem?_cons_succ, List.getElem?_cons_zero, Option.some.injEq] at ho
              subst ho
              have g107 : a1.tmps[107]? = some (.pointer (some ⟨xb, xo, none⟩)) := (hh.did 2 _ 107 rfl rfl (hd { on := 2, ground := .data } (by simp) rfl)).trans (congrArg some (hj.kn 2 _ rfl (hd { on := 2, ground := .data } (by simp) rfl)))
              have cg : u.cell? ⟨xb, xo, none⟩ = some (.int .i64 (L 0)) := ((HKV.out.trans hKR).cell HX.out.1).trans (HX.out.2 0 (by omega))
              have HN : Hid (MJ (fun q1 => match q1 with | 0 => some (.agg #[.int .i64 n0, .int .i64 n1, .int .i64 n2, .int .i64 n3, .int .i64 n4, .int .i64 n5, .int .i64 n6, .int .i64 n7, .slice sx sl sc]) | 1 => some (.slice (some ⟨xb, xo, none⟩) l cc) | 2 => some (.pointer (some ⟨xb, xo, none⟩)) | 3 => some (.int .i64 (L 0)) | 4 => some (.int .i64 kk) | _ => none) 5 6 (fun u => Kept V u) (fun v u => Newf V (fd0 (L 0) kk true) n0 n1 sl S R v u) (done d 3) (vals.set 3 (.int .i64 (L 0))) u) := hj.plain 3 _ (by omega) (by decide) (by decide) rfl
              clear hh hd hj hi hKR
              refine wpOp_step rfl (fun K hK => ?_)
              go_simp
              exact hK _ _ ⟨_, by simp [Act.put], HN.out⟩
            | 4, ho, hi, hd =>
              simp only [List.getElem?_cons_succ, List.getElem?_cons_zero, Option.some.injEq] at ho
              subst ho
              have g5 : a1.tmps[5]? = some (.int .i64 kk) := hh.old 5 (by kernel_rfl) rfl
              have HN : Hid (MJ (fun q1 => match q1 with | 0 => some (.agg #[.int .i64 n0, .int .i64 n1, .int .i64 n2, .int .i64 n3, .int .i64 n4, .int .i64 n5, .int .i64 n6, .int .i64 n7, .slice sx sl sc]) | 1 => some (.slice (some ⟨xb, xo, none⟩) l cc) | 2 => some (.pointer (some ⟨xb, xo, none⟩)) | 3 => some (.int .i64 (L 0)) | 4 => some (.int .i64 kk) | _ => none) 5 6 (fun u => Kept V u) (fun v u => Newf V (fd0 (L 0) kk true) n0 n1 sl S R v u) (done d 4) (vals.set 4 (.int .i64 kk)) u) := hj.plain 4 _ (by omega) (by decide) (by decide) rfl
              clear hh hd hj hi hKR
              refine wpOp_step rfl (fun K hK => ?_)
              go_simp
              exact hK _ _ ⟨_, by simp [Act.put], HN.out⟩
            | 5, ho, hi, hd =>
              simp only [List.getElem?_cons_succ, List.getElem?_cons_zero, Option.some.injEq] at ho
              subst ho
              have g105 : a1.tmps[105]? = some (.agg #[.int .i64 n0, .int .i64 n1, .int .i64 n2, .int .i64 n3, .int .i64 n4, .int .i64 n5, .int .i64 n6, .int .i64 n7, .slice sx sl sc]) := (hh.did 0 _ 105 rfl rfl (hd { on := 0, ground := .data } (by simp) rfl)).trans (congrArg some (hj.kn 0 _ rfl (hd { on := 0, ground := .data } (by simp) rfl)))
              have g108 : a1.tmps[108]? = some (.int .i64 (L 0)) := (hh.did 3 _ 108 rfl rfl (hd { on := 3, ground := .data } (by simp) rfl)).trans (congrArg some (hj.kn 3 _ rfl (hd { on := 3, ground := .data } (by simp) rfl)))
              have g109 : a1.tmps[109]? = some (.int .i64 kk) := (hh.did 4 _ 109 rfl rfl (hd { on := 4, ground := .data } (by simp) rfl)).trans (congrArg some (hj.kn 4 _ rfl (hd { on := 4, ground := .data } (by simp) rfl)))
              have CA := CElem.out u hKR
              have HN : Hid (∀ v' u', Newf V (fd0 (L 0) kk true) n0 n1 sl S R v' u' → MJ (fun q1 => match q1 with | 0 => some (.agg #[.int .i64 n0, .int .i64 n1, .int .i64 n2, .int .i64 n3, .int .i64 n4, .int .i64 n5, .int .i64 n6, .int .i64 n7, .slice sx sl sc]) | 1 => some (.slice (some ⟨xb, xo, none⟩) l cc) | 2 => some (.pointer (some ⟨xb, xo, none⟩)) | 3 => some (.int .i64 (L 0)) | 4 => some (.int .i64 kk) | _ => none) 5 6 (fun u => Kept V u) (fun v u => Newf V (fd0 (L 0) kk true) n0 n1 sl S R v u) (done d 5) (vals.set 5 v') u') := fun v' u' q => hj.call (by omega) (by decide) hi rfl q
              clear hh hd hj hi hKR
              refine wpOp_step rfl (fun K hK => ?_)
              go_simp
              refine CA.mono ?_
              rintro e u' ⟨v', rfl, q1⟩
              exact hK _ _ ⟨v', by simp [Act.put], HN.out v' u' q1⟩
            | 6, ho, hi, hd =>
              simp only [List.getElem?_cons_succ, List.getElem?_cons_zero, Option.some.injEq] at ho
              subst ho
              have g110 : a1.tmps[110]? = some (vals.getD 5 undef) := hh.did 5 _ 110 rfl rfl (hd { on := 5, ground := .data } (by simp) rfl)
              have HN0 := hj.last (by omega) (by decide) (hd { on := 5, ground := .data } (by simp) rfl) (hd { on := 0, ground := .phase } (by simp) rfl) rfl
              obtain ⟨y, hy⟩ : ∃ y, vals.getD 5 undef = y := ⟨_, rfl⟩
              rw [hy] at HN0 g110
              have HN : Hid (MJ (fun q1 => match q1 with | 0 => some (.agg #[.int .i64 n0, .int .i64 n1, .int .i64 n2, .int .i64 n3, .int .i64 n4, .int .i64 n5, .int .i64 n6, .int .i64 n7, .slice sx sl sc]) | 1 => some (.slice (some ⟨xb, xo, none⟩) l cc) | 2 => some (.pointer (some ⟨xb, xo, none⟩)) | 3 => some (.int .i64 (L 0)) | 4 => some (.int .i64 kk) | _ => none) 5 6 (fun u => Kept V u) (fun v u => Newf V (fd0 (L 0) kk true) n0 n1 sl S R v u) (done d 6) (vals.set 6 y) u) := HN0
              clear hh hd hj hi hKR HN0 hy
              refine wpOp_step rfl (fun K hK => ?_)
              go_simp
              exact hK _ _ ⟨y, by simp [Act.put], HN.out⟩
            | n + 7, ho, _, _ => simp at ho
          · intro u d vals hv hall hj
            have h9 := hj.af (hall 5 (by decide))
            have h10 := (hj.la (hall 6 (by decide))).2.1
            clear hall hj
            match vals, hv, h9, h10 with
            | [y0, y1, y2, y3, y4, y5, y6], _, h9, h10 =>
              simp only [List.getD_cons_succ, List.getD_cons_zero] at h9 h10
              subst h10
              obtain ⟨K5, p, E, hy, hF5, hp5, hE5⟩ := h9
              subst hy
              refine norm_list' (L' := [_, _, _, _, _, _, _, _, _, _, _, _, _, _, _, _, _, _, _, _, _, _, _, _, _, _, _, _, _, _, _, _, _, _, _, _, _, _, _, _, _, _, _, _, _, _, _, _, _, _, _, _, _, _, _, _, _, _, _, _, _, _, _, _, _, _, _, _, _, _, _, _, _, _, _, _, _, _, _, _, _, _, _, _, _, _, _, _, _, _, _, _, _, _, _, _, _, _, _, _, _, _, _, _, _, _, _, _, _, _, _, _, _, _, _, _, _, _, _, _, _, _, _, _, _, _, _, _, _, _, _, _, _, _, _, _, _, _, _, _, _, _, _]) rfl ?_
              simp only [List.getD_cons_succ, List.getD_cons_zero]
              clear HCB HX s0
              obtain ⟨St, hg1, hg2, hg3, hg4⟩ := HGO.out p E hE5
              rw [← hg2] at hF5
              have HGG : Hid (Goes p E n' (wrt fw N) 1 St ∧ (St 1).at' = -1 ∧ (St 1).er = 4) := ⟨hg1, hg3, hg4⟩
              have HF5 : Hid (FS u p E (St 0) ∧ Mm u b M n' (wrt fw N) N ∧ b < p ∧ M < p ∧ Kept w u ∧ w.heap.size ≤ p) := ⟨hF5, VMM.out.1.kept K5, by have := VMM.out.1.row.lt; omega, by have := VMM.out.1.hd.lt; omega, HKV.out.trans K5, by have := HKV.out.size; omega⟩
              have HM5 : Hid (w.heap.size ≤ M) := VMM.out.2.2
              clear hg1 hg2 hg3 hg4 hF5 hp5 hE5 K5 HGO
              go_wp2_with fail
              refine (mem_count _ HF5.out.2.1).mono ?_
              rintro e y1 ⟨rfl, rfl⟩
              go_wp2_with fail
              refine (first_any _).mono ?_
              rintro e y2 ⟨rfl, K6⟩
              have HF6 : Hid (FS y2 p E (St 0) ∧ Mm y2 b M n' (wrt fw N) N ∧ Kept w y2) := ⟨HF5.out.1.kept K6, HF5.out.2.1.kept K6, HF5.out.2.2.2.2.1.trans K6⟩
              clear K6
              go_wp2_with fail
              refine (HGG.out.1.step 0 (by omega) b M N _ HF6.out.1 HF6.out.2.1 HF5.out.2.2.1 HF5.out.2.2.2.1 (by omega)).mono ?_
              rintro e y3 ⟨rfl, x1, x2, x3⟩
              have HF7 : Hid (FS y3 p E (St 1) ∧ Mm y3 b M n' (wrt fw N) (N + 1) ∧ Kept w y3) := ⟨x1, x2, HF6.out.2.2.muts x3 (by have := HF5.out.2.2.2.2.2; have := HM5.out; simp; omega)⟩
              clear x1 x2 x3 HF6
              simp only [Nat.zero_add, decide_true]
              go_wp2_with fail
              refine (errno_is _ HF7.out.1).mono ?_
              rintro e y4 ⟨rfl, rfl⟩
              rw [HGG.out.2.2]
              go_wp2_with fail
              refine (at_is _ HF7.out.1).mono ?_
              rintro e y5 ⟨rfl, rfl⟩
              rw [HGG.out.2.1]
              go_wp2_with fail
              refine (steps_is _ HF7.out.1).mono ?_
              rintro e y6 ⟨rfl, rfl⟩
              rw [HGG.out.1.sp]
              go_wp2_with fail
              refine (mem_count _ HF7.out.2.1).mono ?_
              rintro e y7 ⟨rfl, rfl⟩
              have eN : (((N + 1 : Nat) : Int) == (N : Int) + 1) = true := by simp
              go_wp2
              go_ret
              exact ⟨rfl, HF7.out.2.2⟩

set_option maxRecDepth 20000 in
set_option maxHeartbeats 8000000 in
theorem kinds_arr_yes (n0 n1 n2 n3 n4 n5 n6 n7 : Int) (sx : Option Addr) (sl sc : Nat) (S : Nat → Sh) (R : Nat → Nat → Bool) (k : Nat) (n : Int) (x : Option Addr) (l c : Nat) (L : Nat → Int) (at' kk : Int) (w : World) (hS : Shps w sx sl S) (hR : ∀ i, i < sl → Refs w (S i).x (S i).l (R i)) (hk : k < sl) (hZ : (S k).l ≤ 140737488351232) (hm : Small sl S) (hl : l ≤ 200) (hab : (S k).arr = true) (r0 : Int) (CO : ∀ w', Kept w w' → Calls Try.prog 12 #[.agg #[.int .i64 n0, .int .i64 n1, .int .i64 n2, .int .i64 n3, .int .i64 n4, .int .i64 n5, .int .i64 n6, .int .i64 n7, .slice sx sl sc], .int .i64 k, .slice x l c] w' fun e w'' => e = .returned (.tuple #[.slice none 0 0, .int .i64 r0]) ∧ Kept w' w'')
    (N : Nat) (fw : Nat → Wr) (CA : ∀ w', Kept w w' → Calls Try.prog 14 #[.agg #[.int .i64 n0, .int .i64 n1, .int .i64 n2, .int .i64 n3, .int .i64 n4, .int .i64 n5, .int .i64 n6, .int .i64 n7, .slice sx sl sc], .int .i64 k, .int .i64 n, .slice x l c, .int .i64 at'] w' fun e w'' => ∃ v, e = .returned (.tuple #[v, .int .i64 0]) ∧ Ws w'' w'.heap.size v N fw ∧ Kept w' w'') (hN0 : 0 < N) (hN : N ≤ 2000) (hg : Good n0 n1 n2 n3 n4 n5 n6 n7 sl S) (n' : Nat) (hn' : (n' : Int) = 8 * n0 + 2 * n1 + n2) (hA : ∀ i, i < N → ∃ a : Nat, a < n' ∧ (fw i).a = (a : Int))
    (hx : Rdf w x l L) (hl0 : 0 < l) (hL0 : 0 ≤ L 0 ∧ L 0 < n0) (hgo : ∀ p E, Began n0 n1 sl S R E → ∃ St, Goes p E n' (wrt fw N) 1 St ∧ St 0 = fd0 (L 0) kk false ∧ (St 1).at' = -1 ∧ (St 1).er = 4) :
    Calls Try.prog 9 #[.agg #[.int .i64 n0, .int .i64 n1, .int .i64 n2, .int .i64 n3, .int .i64 n4, .int .i64 n5, .int .i64 n6, .int .i64 n7, .slice sx sl sc], .int .i64 k, .int .i64 n, .slice x l c, .int .i64 at', .int .i64 kk] w fun e w' => e = .returned (.bool true) ∧ Kept w w' := by
  have hnb : n' ≤ 100000 := by
    have hf := hg.1
    unfold Fits at hf
    omega
  have CF : Hid (∀ w', Kept w w' → Calls Try.prog 11 #[.agg #[.int .i64 n0, .int .i64 n1, .int .i64 n2, .int .i64 n3, .int .i64 n4, .int .i64 n5, .int .i64 n6, .int .i64 n7, .slice sx sl sc]] w' _) := fun w' k => few_any n0 n1 n2 n3 n4 n5 n6 n7 sx sl sc S true w' (hS.kept k) ⟨fun _ => hm, fun _ => rfl⟩
  have CS : Hid (∀ w', Kept w w' → Calls Try.prog 18 #[.agg #[.int .i64 n0, .int .i64 n1, .int .i64 n2, .int .i64 n3, .int .i64 n4, .int .i64 n5, .int .i64 n6, .int .i64 n7, .slice sx sl sc], .int .i64 k] w' _) := fun w' q => shape_in n0 n1 n2 n3 n4 n5 n6 n7 sx sl sc S (R k) k w' hk hZ (hS.kept q) ((hR k hk).kept q)
  obtain ⟨fl, hfe⟩ : ∃ fl, (S k).l = fl := ⟨_, rfl⟩
  obtain ⟨ab, hae⟩ : ∃ ab, (S k).arr = ab := ⟨_, rfl⟩
  have HFL : Hid ((S k).arr = ab ∧ (S k).l = fl) := ⟨hae, hfe⟩
  obtain rfl : ab = true := by rw [← hae, hab]
  have CO : Hid (∀ w', Kept w w' → _) := CO
  have CA : Hid (∀ w', Kept w w' → _) := CA
  have CL : Hid (∀ w', Kept w w' → Calls Try.prog 25 #[.agg #[.int .i64 n0, .int .i64 n1, .int .i64 n2, .int .i64 n3, .int .i64 n4, .int .i64 n5, .int .i64 n6, .int .i64 n7, .slice sx sl sc], .slice none 0 0] w' _) := fun w' q => fill_nil n0 n1 n2 n3 n4 n5 n6 n7 sx sl sc S n' w' (hS.kept q) (by rw [hn']; exact Is.is _ hg) hnb
  have HSR : Hid (Shps w sx sl S ∧ (∀ i, i < sl → Refs w (S i).x (S i).l (R i)) ∧ Good n0 n1 n2 n3 n4 n5 n6 n7 sl S ∧ 0 ≤ L 0 ∧ L 0 < n0) := ⟨hS, hR, hg, hL0.1, hL0.2⟩
  have HA : Hid (∀ i, i < N → ∃ a : Nat, a < n' ∧ (fw i).a = (a : Int)) := hA
  obtain ⟨xb, xo, rfl, hxb, hxc⟩ := hx hl0
  have HX : Hid (xb < w.heap.size ∧ ∀ j, j < l → w.cell? ⟨xb, xo + j, none⟩ = some (.int .i64 (L j))) := ⟨hxb, hxc⟩
  obtain ⟨cc, rfl⟩ : ∃ cc, cc = c := ⟨_, rfl⟩
  have HGO : Hid (∀ p E, Began n0 n1 sl S R E → _) := hgo
  clear hgo
  clear hS hR hk hm hZ hab hfe hae hg hn' hA hx hxb hxc hL0
  go_enter Try.func9, Try.ntmps9
  go_wp2_with fail
  generalize hW1 : w.alloc _ = W1
  have HW1 : Hid (Kept w W1 ∧ Blk W1 w.heap.size (cl n0 n1 n2 n3 n4 n5 n6 n7 (.slice sx sl sc))) := by rw [← hW1]; exact ⟨(Kept.refl w).alloc _ _, Blk.new w _ _⟩
  clear hW1
  refine (first_any _).mono ?_
  rintro e u1 ⟨rfl, K⟩
  have HW : Hid (Kept w u1 ∧ Blk u1 w.heap.size (cl n0 n1 n2 n3 n4 n5 n6 n7 (.slice sx sl sc))) := ⟨HW1.out.1.trans K, HW1.out.2.kept K⟩
  clear HW1 K
  have c0 := HW.out.2.at 0 rfl
  have c1 := HW.out.2.at 1 rfl
  have c2 := HW.out.2.at 2 rfl
  have c3 := HW.out.2.at 3 rfl
  have c4 := HW.out.2.at 4 rfl
  have c5 := HW.out.2.at 5 rfl
  have c6 := HW.out.2.at 6 rfl
  have c7 := HW.out.2.at 7 rfl
  have c8 := HW.out.2.at 8 rfl
  go_wp2_with fail
  refine (CS.out _ HW.out.1).mono ?_
  rintro e u4 ⟨rg, rfl, hrg, hRR, K⟩
  rw [HFL.out.2] at hRR
  have HV : Hid (Kept w u4 ∧ Blk u4 w.heap.size (cl n0 n1 n2 n3 n4 n5 n6 n7 (.slice sx sl sc)) ∧ Refs u4 (some ⟨rg, 0, none⟩) fl (R k)) := ⟨HW.out.1.trans K, HW.out.2.kept K, hRR⟩
  clear HW K c0 c1 c2 c3 c4 c5 c6 c7 c8 CS hrg hRR
  rw [HFL.out.1, HFL.out.2]
  go_upto_region 4 with fail
  generalize hW3 : u4.alloc _ = W3
  have HW : Hid (Kept w W3 ∧ Blk W3 w.heap.size (cl n0 n1 n2 n3 n4 n5 n6 n7 (.slice sx sl sc)) ∧ Blk W3 u4.heap.size [.bool true, .slice (some ⟨rg, 0, none⟩) fl fl] ∧ Refs W3 (some ⟨rg, 0, none⟩) fl (R k)) := by rw [← hW3]; exact ⟨HV.out.1.alloc _ _, HV.out.2.1.kept ((Kept.refl _).alloc _ _), Blk.new u4 [_, _] _, HV.out.2.2.kept ((Kept.refl _).alloc _ _)⟩
  clear HV hW3
  generalize u4.heap.size = sb at *
  have c0 := HW.out.2.1.at 0 rfl
  have c1 := HW.out.2.1.at 1 rfl
  have c2 := HW.out.2.1.at 2 rfl
  have c3 := HW.out.2.1.at 3 rfl
  have c4 := HW.out.2.1.at 4 rfl
  have c5 := HW.out.2.1.at 5 rfl
  have c6 := HW.out.2.1.at 6 rfl
  have c7 := HW.out.2.1.at 7 rfl
  have c8 := HW.out.2.1.at 8 rfl
  go_wp2_with fail
  refine (CF.out _ HW.out.1).mono ?_
  rintro e u5 ⟨rfl, K⟩
  have HK : Hid (Kept w u5 ∧ Blk u5 w.heap.size (cl n0 n1 n2 n3 n4 n5 n6 n7 (.slice sx sl sc)) ∧ Blk u5 sb [.bool true, .slice (some ⟨rg, 0, none⟩) fl fl] ∧ Refs u5 (some ⟨rg, 0, none⟩) fl (R k)) := ⟨HW.out.1.trans K, HW.out.2.1.kept K, HW.out.2.2.1.kept K, HW.out.2.2.2.kept K⟩
  clear HW K c0 c1 c2 c3 c4 c5 c6 c7 c8 CF
  have s0 := HK.out.2.2.1.at 0 rfl
  have hl2 : ¬ (l : Int) > 200 := by omega
  have hcb := HK.out.2.1
  have c0 := hcb.at 0 rfl
  have c1 := hcb.at 1 rfl
  have c2 := hcb.at 2 rfl
  have c3 := hcb.at 3 rfl
  have c4 := hcb.at 4 rfl
  have c5 := hcb.at 5 rfl
  have c6 := hcb.at 6 rfl
  have c7 := hcb.at 7 rfl
  have c8 := hcb.at 8 rfl
  clear hcb
  go_wp2_with fail
  refine (CO.out _ HK.out.1).mono ?_
  rintro e u6 ⟨rfl, K⟩
  have HK6 : Hid (Kept w u6 ∧ Blk u6 w.heap.size (cl n0 n1 n2 n3 n4 n5 n6 n7 (.slice sx sl sc)) ∧ Blk u6 sb [.bool true, .slice (some ⟨rg, 0, none⟩) fl fl] ∧ Refs u6 (some ⟨rg, 0, none⟩) fl (R k)) := ⟨HK.out.1.trans K, HK.out.2.1.kept K, HK.out.2.2.1.kept K, HK.out.2.2.2.kept K⟩
  clear HK K c0 c1 c2 c3 c4 c5 c6 c7 c8 s0 CO
  have hcb := HK6.out.2.1
  have c0 := hcb.at 0 rfl
  have c1 := hcb.at 1 rfl
  have c2 := hcb.at 2 rfl
  have c3 := hcb.at 3 rfl
  have c4 := hcb.at 4 rfl
  have c5 := hcb.at 5 rfl
  have c6 := hcb.at 6 rfl
  have c7 := hcb.at 7 rfl
  have c8 := hcb.at 8 rfl
  have s0 := HK6.out.2.2.1.at 0 rfl
  have s1 := HK6.out.2.2.1.at 1 rfl
  clear hcb
  go_wp2_with fail
  refine (CA.out _ HK6.out.1).mono ?_
  rintro e u7 ⟨v, rfl, hv, K⟩
  have HK7 : Hid (Kept w u7 ∧ Blk u7 w.heap.size (cl n0 n1 n2 n3 n4 n5 n6 n7 (.slice sx sl sc)) ∧ Blk u7 sb [.bool true, .slice (some ⟨rg, 0, none⟩) fl fl] ∧ Refs u7 (some ⟨rg, 0, none⟩) fl (R k)) := ⟨HK6.out.1.trans K, HK6.out.2.1.kept K, HK6.out.2.2.1.kept K, HK6.out.2.2.2.kept K⟩
  clear HK6 K c0 c1 c2 c3 c4 c5 c6 c7 c8 s0 s1 CA
  have hcb := HK7.out.2.1
  have c0 := hcb.at 0 rfl
  have c1 := hcb.at 1 rfl
  have c2 := hcb.at 2 rfl
  have c3 := hcb.at 3 rfl
  have c4 := hcb.at 4 rfl
  have c5 := hcb.at 5 rfl
  have c6 := hcb.at 6 rfl
  have c7 := hcb.at 7 rfl
  have c8 := hcb.at 8 rfl
  have s0 := HK7.out.2.2.1.at 0 rfl
  have s1 := HK7.out.2.2.1.at 1 rfl
  clear hcb
  obtain ⟨g, dd, rfl, hg1, hg2, hgc⟩ := hv.here hN0
  clear hv
  go_wp2_with fail
  refine (CL.out _ HK7.out.1).mono ?_
  rintro e W ⟨b, M, rfl, hM, K8, hb8, hM8⟩
  have HMM : Hid (Mm W b M n' (fun _ => cz) 0) := hM
  have HWS : Hid (g < W.heap.size ∧ g ≠ M ∧ g ≠ b ∧ ∀ i, i < N → W.cell? ⟨g, i * 2, none⟩ = some (.int .i64 (fw i).a) ∧ W.cell? ⟨g, i * 2 + 1, none⟩ = some (.complex .f64 (fw i).z.re (fw i).z.im)) :=
    ⟨by have := K8.size; omega, by omega, by omega, fun i hi => ⟨(K8.cell hg2).trans (hgc i hi).1, (K8.cell hg2).trans (hgc i hi).2⟩⟩
  have HKU : Hid (Kept w u7 ∧ Blk u7 w.heap.size (cl n0 n1 n2 n3 n4 n5 n6 n7 (.slice sx sl sc)) ∧ Blk u7 sb [.bool true, .slice (some ⟨rg, 0, none⟩) fl fl] ∧ Refs u7 (some ⟨rg, 0, none⟩) fl (R k) ∧ Kept u7 W ∧ u7.heap.size ≤ b ∧ u7.heap.size ≤ M) := ⟨HK7.out.1, HK7.out.2.1, HK7.out.2.2.1, HK7.out.2.2.2, K8, hb8, hM8⟩
  have hlz : ((l : Int) == 0) = false := by simp; omega
  clear HK7 hM K8 hb8 hM8 hg1 hg2 hgc CL c0 c1 c2 c3 c4 c5 c6 c7 c8 s0 s1
  go_wp2_with fail
  go_loopg [18] N (fun m i wr => ∃ k : Nat, i = .int .i64 k ∧ k ≤ N ∧ m = N - k ∧ Hid (Mut [M, b] W wr ∧ Mm wr b M n' (wrt fw k) k))
  case atStart => exact ⟨0, rfl, by omega, by omega, Mut.refl _ _, HMM.out⟩
  case round =>
    obtain ⟨k, rfl, hk, hm, hw⟩ := hrel
    have HM : Hid _ := hm
    clear hm
    by_cases hlt : k < N
    · obtain ⟨a, han, hfa⟩ := HA.out k hlt
      go_wp2_with fail
      refine wp_region_phase [(.pointer (some ⟨M, 0, none⟩)), (.slice (some ⟨g, 0, none⟩) N dd), (.int .i64 (k : Int)), (.pointer (some ⟨g, k * 2, none⟩)), (.pointer (some ⟨g, k * 2, none⟩)), (.int .i64 (a : Int)), (.slice (some ⟨g, 0, none⟩) N dd), (.int .i64 (k : Int)), (.pointer (some ⟨g, k * 2, none⟩)), (.pointer (some ⟨g, k * 2 + 1, none⟩)), (.complex .f64 (fw k).z.re (fw k).z.im), (.int .i64 0)] [(84, 0), (85, 1), (86, 2), (87, 3), (88, 4), (89, 5), (90, 6), (91, 7), (92, 8), (93, 9), (94, 10), (95, 11)] [_, _, _, _, _, _, _, _, _, _, _, _, _, _, _, _, _, _, _, _, _, _, _, _, _, _, _, _, _, _, _, _, _, _, _, _, _, _, _, _, _, _, _, _, _, _, _, _, _, _, _, _, _, _, _, _, _, _, _, _, _, _, _, _, _, _, _, _, _, _, _, _, _, _, _, _, _, _, _, _, _, _, _, _, _, _, _, _, _, _, _, _, _, _, _, _, _, _, _, _, _, _, _, _, _, _, _, _, _, _, _, _, _, _, _, _, _, _, _, _, _, _, _, _, _, _, _, _, _, _, _, _, _, _, _, _, _, _, _, _, _, _, _] (fun d u => Mm u b M n' (wrt fw (if d 11 then k + 1 else k)) (if d 11 then k + 1 else k) ∧ Mut [M, b] W u) (by kernel_rfl) (by kernel_rfl) (by kernel_rfl) (by kernel_rfl) rfl ?_ ?_ ?_
      · exact ⟨by simpa using hw.out.2.kept (Kept.refl _).drew, hw.out.1.drew⟩
      · intro i1 o ho a1 d u hh hj hi hd
        match i1, ho, hi, hd with
        | 0, ho, hi, hd =>
          simp only [List.getElem?_cons_zero, Option.some.injEq] at ho
          subst ho
          have g17 : a1.tmps[17]? = some (.pointer (some ⟨M, 0, none⟩)) := hh.old 17 (by kernel_rfl) rfl
          clear hh hd
          have HN : Hid (Mm u b M n' (wrt fw (if done d 0 11 then k + 1 else k)) (if done d 0 11 then k + 1 else k) ∧ Mut [M, b] W u) := (by simpa [done] using hj : Mm u b M n' (wrt fw (if done d 0 11 then k + 1 else k)) (if done d 0 11 then k + 1 else k) ∧ Mut [M, b] W u)
          clear hj hi
          refine wpOp_step rfl (fun K hK => ?_)
          go_simp
          exact hK _ _ ⟨by simp [Act.put], HN.out⟩
        | 1, ho, hi, hd =>
          simp only [List.getElem?_cons_succ, List.getElem?_cons_zero, Option.some.injEq] at ho
          subst ho
          have g15 : a1.tmps[15]? = some (.slice (some ⟨g, 0, none⟩) N dd) := hh.old 15 (by kernel_rfl) rfl
          clear hh hd
          have HN : Hid (Mm u b M n' (wrt fw (if done d 1 11 then k + 1 else k)) (if done d 1 11 then k + 1 else k) ∧ Mut [M, b] W u) := (by simpa [done] using hj : Mm u b M n' (wrt fw (if done d 1 11 then k + 1 else k)) (if done d 1 11 then k + 1 else k) ∧ Mut [M, b] W u)
          clear hj hi
          refine wpOp_step rfl (fun K hK => ?_)
          go_simp
          exact hK _ _ ⟨by simp [Act.put], HN.out⟩
        | 2, ho, hi, hd =>
          simp only [List.getElem?_cons_succ, List.getElem?_cons_zero, Option.some.injEq] at ho
          subst ho
          have g18 : a1.tmps[18]? = some (.int .i64 (k : Int)) := hh.old 18 (by kernel_rfl) rfl
          clear hh hd
          have HN : Hid (Mm u b M n' (wrt fw (if done d 2 11 then k + 1 else k)) (if done d 2 11 then k + 1 else k) ∧ Mut [M, b] W u) := (by simpa [done] using hj : Mm u b M n' (wrt fw (if done d 2 11 then k + 1 else k)) (if done d 2 11 then k + 1 else k) ∧ Mut [M, b] W u)
          clear hj hi
          refine wpOp_step rfl (fun K hK => ?_)
          go_simp
          exact hK _ _ ⟨by simp [Act.put], HN.out⟩
        | 3, ho, hi, hd =>
          simp only [List.getElem?_cons_succ, List.getElem?_cons_zero, Option.some.injEq] at ho
          subst ho
          have g85 : a1.tmps[85]? = some (.slice (some ⟨g, 0, none⟩) N dd) := hh.did 1 _ 85 rfl rfl (hd { on := 1, ground := .data } (by simp) rfl)
          have g86 : a1.tmps[86]? = some (.int .i64 (k : Int)) := hh.did 2 _ 86 rfl rfl (hd { on := 2, ground := .data } (by simp) rfl)
          clear hh hd
          have HN : Hid (Mm u b M n' (wrt fw (if done d 3 11 then k + 1 else k)) (if done d 3 11 then k + 1 else k) ∧ Mut [M, b] W u) := (by simpa [done] using hj : Mm u b M n' (wrt fw (if done d 3 11 then k + 1 else k)) (if done d 3 11 then k + 1 else k) ∧ Mut [M, b] W u)
          clear hj hi
          refine wpOp_step rfl (fun K hK => ?_)
          go_simp
          exact hK _ _ ⟨by simp [Act.put], HN.out⟩
        | 4, ho, hi, hd =>
          simp only [List.getElem?_cons_succ, List.getElem?_cons_zero, Option.some.injEq] at ho
          subst ho
          have g87 : a1.tmps[87]? = some (.pointer (some ⟨g, k * 2, none⟩)) := hh.did 3 _ 87 rfl rfl (hd { on := 3, ground := .data } (by simp) rfl)
          clear hh hd
          have HN : Hid (Mm u b M n' (wrt fw (if done d 4 11 then k + 1 else k)) (if done d 4 11 then k + 1 else k) ∧ Mut [M, b] W u) := (by simpa [done] using hj : Mm u b M n' (wrt fw (if done d 4 11 then k + 1 else k)) (if done d 4 11 then k + 1 else k) ∧ Mut [M, b] W u)
          clear hj hi
          refine wpOp_step rfl (fun K hK => ?_)
          go_simp
          exact hK _ _ ⟨by simp [Act.put], HN.out⟩
        | 5, ho, hi, hd =>
          simp only [List.getElem?_cons_succ, List.getElem?_cons_zero, Option.some.injEq] at ho
          subst ho
          have g88 : a1.tmps[88]? = some (.pointer (some ⟨g, k * 2, none⟩)) := hh.did 4 _ 88 rfl rfl (hd { on := 4, ground := .data } (by simp) rfl)
          have ca : u.cell? ⟨g, k * 2, none⟩ = some (.int .i64 (a : Int)) := (hj.2.cell HWS.out.1 (by have := HWS.out.2.1; have := HWS.out.2.2.1; simp; omega)).trans (by rw [← hfa]; exact (HWS.out.2.2.2 k hlt).1)
          clear hh hd
          have HN : Hid (Mm u b M n' (wrt fw (if done d 5 11 then k + 1 else k)) (if done d 5 11 then k + 1 else k) ∧ Mut [M, b] W u) := (by simpa [done] using hj : Mm u b M n' (wrt fw (if done d 5 11 then k + 1 else k)) (if done d 5 11 then k + 1 else k) ∧ Mut [M, b] W u)
          clear hj hi
          refine wpOp_step rfl (fun K hK => ?_)
          go_simp
          exact hK _ _ ⟨by simp [Act.put], HN.out⟩
        | 6, ho, hi, hd =>
          simp only [List.getElem?_cons_succ, List.getElem?_cons_zero, Option.some.injEq] at ho
          subst ho
          have g15 : a1.tmps[15]? = some (.slice (some ⟨g, 0, none⟩) N dd) := hh.old 15 (by kernel_rfl) rfl
          clear hh hd
          have HN : Hid (Mm u b M n' (wrt fw (if done d 6 11 then k + 1 else k)) (if done d 6 11 then k + 1 else k) ∧ Mut [M, b] W u) := (by simpa [done] using hj : Mm u b M n' (wrt fw (if done d 6 11 then k + 1 else k)) (if done d 6 11 then k + 1 else k) ∧ Mut [M, b] W u)
          clear hj hi
          refine wpOp_step rfl (fun K hK => ?_)
          go_simp
          exact hK _ _ ⟨by simp [Act.put], HN.out⟩
        | 7, ho, hi, hd =>
          simp only [List.getElem?_cons_succ, List.getElem?_cons_zero, Option.some.injEq] at ho
          subst ho
          have g18 : a1.tmps[18]? = some (.int .i64 (k : Int)) := hh.old 18 (by kernel_rfl) rfl
          clear hh hd
          have HN : Hid (Mm u b M n' (wrt fw (if done d 7 11 then k + 1 else k)) (if done d 7 11 then k + 1 else k) ∧ Mut [M, b] W u) := (by simpa [done] using hj : Mm u b M n' (wrt fw (if done d 7 11 then k + 1 else k)) (if done d 7 11 then k + 1 else k) ∧ Mut [M, b] W u)
          clear hj hi
          refine wpOp_step rfl (fun K hK => ?_)
          go_simp
          exact hK _ _ ⟨by simp [Act.put], HN.out⟩
        | 8, ho, hi, hd =>
          simp only [List.getElem?_cons_succ, List.getElem?_cons_zero, Option.some.injEq] at ho
          subst ho
          have g90 : a1.tmps[90]? = some (.slice (some ⟨g, 0, none⟩) N dd) := hh.did 6 _ 90 rfl rfl (hd { on := 6, ground := .data } (by simp) rfl)
          have g91 : a1.tmps[91]? = some (.int .i64 (k : Int)) := hh.did 7 _ 91 rfl rfl (hd { on := 7, ground := .data } (by simp) rfl)
          clear hh hd
          have HN : Hid (Mm u b M n' (wrt fw (if done d 8 11 then k + 1 else k)) (if done d 8 11 then k + 1 else k) ∧ Mut [M, b] W u) := (by simpa [done] using hj : Mm u b M n' (wrt fw (if done d 8 11 then k + 1 else k)) (if done d 8 11 then k + 1 else k) ∧ Mut [M, b] W u)
          clear hj hi
          refine wpOp_step rfl (fun K hK => ?_)
          go_simp
          exact hK _ _ ⟨by simp [Act.put], HN.out⟩
        | 9, ho, hi, hd =>
          simp only [List.getElem?_cons_succ, List.getElem?_cons_zero, Option.some.injEq] at ho
          subst ho
          have g92 : a1.tmps[92]? = some (.pointer (some ⟨g, k * 2, none⟩)) := hh.did 8 _ 92 rfl rfl (hd { on := 8, ground := .data } (by simp) rfl)
          clear hh hd
          have HN : Hid (Mm u b M n' (wrt fw (if done d 9 11 then k + 1 else k)) (if done d 9 11 then k + 1 else k) ∧ Mut [M, b] W u) := (by simpa [done] using hj : Mm u b M n' (wrt fw (if done d 9 11 then k + 1 else k)) (if done d 9 11 then k + 1 else k) ∧ Mut [M, b] W u)
          clear hj hi
          refine wpOp_step rfl (fun K hK => ?_)
          go_simp
          exact hK _ _ ⟨by simp [Act.put], HN.out⟩
        | 10, ho, hi, hd =>
          simp only [List.getElem?_cons_succ, List.getElem?_cons_zero, Option.some.injEq] at ho
          subst ho
          have g93 : a1.tmps[93]? = some (.pointer (some ⟨g, k * 2 + 1, none⟩)) := hh.did 9 _ 93 rfl rfl (hd { on := 9, ground := .data } (by simp) rfl)
          have cb : u.cell? ⟨g, k * 2 + 1, none⟩ = some (.complex .f64 (fw k).z.re (fw k).z.im) := (hj.2.cell HWS.out.1 (by have := HWS.out.2.1; have := HWS.out.2.2.1; simp; omega)).trans (HWS.out.2.2.2 k hlt).2
          clear hh hd
          have HN : Hid (Mm u b M n' (wrt fw (if done d 10 11 then k + 1 else k)) (if done d 10 11 then k + 1 else k) ∧ Mut [M, b] W u) := (by simpa [done] using hj : Mm u b M n' (wrt fw (if done d 10 11 then k + 1 else k)) (if done d 10 11 then k + 1 else k) ∧ Mut [M, b] W u)
          clear hj hi
          refine wpOp_step rfl (fun K hK => ?_)
          go_simp
          exact hK _ _ ⟨by simp [Act.put], HN.out⟩
        | 11, ho, hi, hd =>
          simp only [List.getElem?_cons_succ, List.getElem?_cons_zero, Option.some.injEq] at ho
          subst ho
          have g84 : a1.tmps[84]? = some (.pointer (some ⟨M, 0, none⟩)) := hh.did 0 _ 84 rfl rfl (hd { on := 0, ground := .data } (by simp) rfl)
          have g89 : a1.tmps[89]? = some (.int .i64 (a : Int)) := hh.did 5 _ 89 rfl rfl (hd { on := 5, ground := .data } (by simp) rfl)
          have g94 : a1.tmps[94]? = some (.complex .f64 (fw k).z.re (fw k).z.im) := hh.did 10 _ 94 rfl rfl (hd { on := 10, ground := .data } (by simp) rfl)
          have CA := mem_write (G := wrt fw (k + 1)) a (fw k).z u (by have B := hj.1; simp only [hi, Bool.false_eq_true, if_false] at B; exact B) han (by omega) (fun j _ => wrt_step hfa j)
          clear hh hd
          have HN : Hid (∀ u', Mm u' b M n' (wrt fw (k + 1)) (k + 1) → Mut [M, b] u u' → Mm u' b M n' (wrt fw (if done d 11 11 then k + 1 else k)) (if done d 11 11 then k + 1 else k) ∧ Mut [M, b] W u') := fun u' x y => ⟨by simpa [done] using x, hj.2.trans y⟩
          clear hj hi
          refine wpOp_step rfl (fun K hK => ?_)
          go_simp
          refine CA.mono ?_
          rintro e u' ⟨rfl, x, y⟩
          exact hK _ _ ⟨by simp [Act.put], HN.out u' x y⟩
        | n + 12, ho, hi, hd => simp at ho
      · intro u d hall hj
        have HN : Hid (Mut [M, b] W u ∧ Mm u b M n' (wrt fw (k + 1)) (k + 1)) := by
          have B := hj.1
          rw [hall 11 (by decide)] at B
          exact ⟨hj.2, B⟩
        clear hj hall
        go_wp2
        go_roundg (N - (k + 1))
        case measure => have := HM.out; omega
        case rel => exact ⟨k + 1, by go_num, by omega, by omega, HN⟩
    · obtain rfl : N = k := by omega
      have HW2 : Hid (Mut [M, b] W wr ∧ Mm wr b M n' (wrt fw N) N) := hw
      clear hw HM hk hlt HMM HA
      obtain ⟨W2, rfl⟩ : ∃ W2, W2 = wr := ⟨_, rfl⟩
      have HK9 : Hid (Kept u7 W2) := HKU.out.2.2.2.2.1.muts HW2.out.1 (by have := HKU.out.2.2.2.2.2; simp; omega)
      have HKV : Hid (Kept w W2) := HKU.out.1.trans HK9.out
      have HCB : Hid (Blk W2 w.heap.size (cl n0 n1 n2 n3 n4 n5 n6 n7 (.slice sx sl sc))) := HKU.out.2.1.kept HK9.out
      have HSB : Hid (Blk W2 sb [.bool true, .slice (some ⟨rg, 0, none⟩) fl fl] ∧ Refs W2 (some ⟨rg, 0, none⟩) fl (R k)) := ⟨HKU.out.2.2.1.kept HK9.out, HKU.out.2.2.2.1.kept HK9.out⟩
      have HMW : Hid (Mm W2 b M n' (wrt fw N) N ∧ w.heap.size ≤ b ∧ w.heap.size ≤ M) := ⟨HW2.out.2, by have := HKU.out.2.2.2.2.2.1; have := HKU.out.1.size; omega, by have := HKU.out.2.2.2.2.2.2; have := HKU.out.1.size; omega⟩
      clear HKU HW2 HWS HK9
      have VMM : Hid _ := HMW
      have CField : Hid (∀ u, Kept W2 u → Calls Try.prog 29 #[.agg #[.int .i64 n0, .int .i64 n1, .int .i64 n2, .int .i64 n3, .int .i64 n4, .int .i64 n5, .int .i64 n6, .int .i64 n7, .slice sx sl sc], .int .i64 (L 0), .int .i64 kk] u _) := fun u q => field_newf n0 n1 n2 n3 n4 n5 n6 n7 sx sl sc S R (L 0) kk W2 u q (HSR.out.1.kept (HKV.out.trans q)) (fun i hi => (HSR.out.2.1 i hi).kept (HKV.out.trans q)) HSR.out.2.2.1 HSR.out.2.2.2
      go_wp2_with fail
      refine wp_region_mix [undef, undef, undef, undef, undef, undef, undef] [(19, 6), (96, 0), (97, 1), (98, 2), (99, 3), (100, 4), (101, 5)] (fun d vals u => MJ (fun q1 => match q1 with | 0 => some (.agg #[.int .i64 n0, .int .i64 n1, .int .i64 n2, .int .i64 n3, .int .i64 n4, .int .i64 n5, .int .i64 n6, .int .i64 n7, .slice sx sl sc]) | 1 => some (.slice (some ⟨xb, xo, none⟩) l cc) | 2 => some (.pointer (some ⟨xb, xo, none⟩)) | 3 => some (.int .i64 (L 0)) | 4 => some (.int .i64 kk) | _ => none) 5 6 (fun u => Kept W2 u) (fun v u => Newf W2 (fd0 (L 0) kk false) n0 n1 sl S R v u) d vals u) (by kernel_rfl) (by kernel_rfl) (by kernel_rfl) (by kernel_rfl) rfl ?_ ?_ ?_
      · exact ⟨fun _ _ _ h => absurd h (by simp), fun _ => (Kept.refl _).drew, fun h => absurd h (by simp), fun h => absurd h (by simp)⟩
      · intro i1 o ho a1 d vals u hv0 hh hj hi hd
        have hv : vals.length = 7 := hv0
        have hKR : Kept W2 u := by
          cases hq : d 5
          · exact hj.bf hq
          · exact (hj.af hq).1
        match i1, ho, hi, hd with
        | 0, ho, hi, hd =>
          simp only [List.getElem?_cons_zero, Option.some.injEq] at ho
          subst ho
          have g6 : a1.tmps[6]? = some (.pointer (some ⟨w.heap.size, 0, none⟩)) := hh.old 6 (by kernel_rfl) rfl
          have B := HCB.out.kept hKR
          have c0 := B.at 0 rfl
          have c1 := B.at 1 rfl
          have c2 := B.at 2 rfl
          have c3 := B.at 3 rfl
          have c4 := B.at 4 rfl
          have c5 := B.at 5 rfl
          have c6 := B.at 6 rfl
          have c7 := B.at 7 rfl
          have c8 := B.at 8 rfl
          clear B
          have HN : Hid (MJ (fun q1 => match q1 with | 0 => some (.agg #[.int .i64 n0, .int .i64 n1, .int .i64 n2, .int .i64 n3, .int .i64 n4, .int .i64 n5, .int .i64 n6, .int .i64 n7, .slice sx sl sc]) | 1 => some (.slice (some ⟨xb, xo, none⟩) l cc) | 2 => some (.pointer (some ⟨xb, xo, none⟩)) | 3 => some (.int .i64 (L 0)) | 4 => some (.int .i64 kk) | _ => none) 5 6 (fun u => Kept W2 u) (fun v u => Newf W2 (fd0 (L 0) kk false) n0 n1 sl S R v u) (done d 0) (vals.set 0 (.agg #[.int .i64 n0, .int .i64 n1, .int .i64 n2, .int .i64 n3, .int .i64 n4, .int .i64 n5, .int .i64 n6, .int .i64 n7, .slice sx sl sc])) u) := hj.plain 0 _ (by omega) (by decide) (by decide) rfl
          clear hh hd hj hi hKR
          refine wpOp_step rfl (fun K hK => ?_)
          go_simp
          exact hK _ _ ⟨_, by simp [Act.put], HN.out⟩
        | 1, ho, hi, hd =>
          simp only [List.getElem?_cons_succ, List.getElem?_cons_zero, Option.some.injEq] at ho
          subst ho
          have g3 : a1.tmps[3]? = some (.slice (some ⟨xb, xo, none⟩) l cc) := hh.old 3 (by kernel_rfl) rfl
          have HN : Hid (MJ (fun q1 => match q1 with | 0 => some (.agg #[.int .i64 n0, .int .i64 n1, .int .i64 n2, .int .i64 n3, .int .i64 n4, .int .i64 n5, .int .i64 n6, .int .i64 n7, .slice sx sl sc]) | 1 => some (.slice (some ⟨xb, xo, none⟩) l cc) | 2 => some (.pointer (some ⟨xb, xo, none⟩)) | 3 => some (.int .i64 (L 0)) | 4 => some (.int .i64 kk) | _ => none) 5 6 (fun u => Kept W2 u) (fun v u => Newf W2 (fd0 (L 0) kk false) n0 n1 sl S R v u) (done d 1) (vals.set 1 (.slice (some ⟨xb, xo, none⟩) l cc)) u) := hj.plain 1 _ (by omega) (by decide) (by decide) rfl
          clear hh hd hj hi hKR
          refine wpOp_step rfl (fun K hK => ?_)
          go_simp
          exact hK _ _ ⟨_, by simp [Act.put], HN.out⟩
        | 2, ho, hi, hd =>
          simp only [List.getElem?_cons_succ, List.getElem?_cons_zero, Option.some.injEq] at ho
          subst ho
          have g97 : a1.tmps[97]? = some (.slice (some ⟨xb, xo, none⟩) l cc) := (hh.did 1 _ 97 rfl rfl (hd { on := 1, ground := .data } (by simp) rfl)).trans (congrArg some (hj.kn 1 _ rfl (hd { on := 1, ground := .data } (by simp) rfl)))
          have HN : Hid (MJ (fun q1 => match q1 with | 0 => some (.agg #[.int .i64 n0, .int .i64 n1, .int .i64 n2, .int .i64 n3, .int .i64 n4, .int .i64 n5, .int .i64 n6, .int .i64 n7, .slice sx sl sc]) | 1 => some (.slice (some ⟨xb, xo, none⟩) l cc) | 2 => some (.pointer (some ⟨xb, xo, none⟩)) | 3 => some (.int .i64 (L 0)) | 4 => some (.int .i64 kk) | _ => none) 5 6 (fun u => Kept W2 u) (fun v u => Newf W2 (fd0 (L 0) kk false) n0 n1 sl S R v u) (done d 2) (vals.set 2 (.pointer (some ⟨xb, xo, none⟩))) u) := hj.plain 2 _ (by omega) (by decide) (by decide) rfl
          clear hh hd hj hi hKR
          refine wpOp_step rfl (fun K hK => ?_)
          go_simp
          exact hK _ _ ⟨_, by simp [Act.put], HN.out⟩
        | 3, ho, hi, hd =>
          simp only [List.getElem?_cons_succ, List.getElem?_cons_zero, Option.some.injEq] at ho
          subst ho
          have g98 : a1.tmps[98]? = some (.pointer (some ⟨xb, xo, none⟩)) := (hh.did 2 _ 98 rfl rfl (hd { on := 2, ground := .data } (by simp) rfl)).trans (congrArg some (hj.kn 2 _ rfl (hd { on := 2, ground := .data } (by simp) rfl)))
          have cg : u.cell? ⟨xb, xo, none⟩ = some (.int .i64 (L 0)) := ((HKV.out.trans hKR).cell HX.out.1).trans (HX.out.2 0 (by omega))
          have HN : Hid (MJ (fun q1 => match q1 with | 0 => some (.agg #[.int .i64 n0, .int .i64 n1, .int .i64 n2, .int .i64 n3, .int .i64 n4, .int .i64 n5, .int .i64 n6, .int .i64 n7, .slice sx sl sc]) | 1 => some (.slice (some ⟨xb, xo, none⟩) l cc) | 2 => some (.pointer (some ⟨xb, xo, none⟩)) | 3 => some (.int .i64 (L 0)) | 4 => some (.int .i64 kk) | _ => none) 5 6 (fun u => Kept W2 u) (fun v u => Newf W2 (fd0 (L 0) kk false) n0 n1 sl S R v u) (done d 3) (vals.set 3 (.int .i64 (L 0))) u) := hj.plain 3 _ (by omega) (by decide) (by decide) rfl
          clear hh hd hj hi hKR
          refine wpOp_step rfl (fun K hK => ?_)
          go_simp
          exact hK _ _ ⟨_, by simp [Act.put], HN.out⟩
        | 4, ho, hi, hd =>
          simp only [List.getElem?_cons_succ, List.getElem?_cons_zero, Option.some.injEq] at ho
          subst ho
          have g5 : a1.tmps[5]? = some (.int .i64 kk) := hh.old 5 (by kernel_rfl) rfl
          have HN : Hid (MJ (fun q1 => match q1 with | 0 => some (.agg #[.int .i64 n0, .int .i64 n1, .int .i64 n2, .int .i64 n3, .int .i64 n4, .int .i64 n5, .int .i64 n6, .int .i64 n7, .slice sx sl sc]) | 1 => some (.slice (some ⟨xb, xo, none⟩) l cc) | 2 => some (.pointer (some ⟨xb, xo, none⟩)) | 3 => some (.int .i64 (L 0)) | 4 => some (.int .i64 kk) | _ => none) 5 6 (fun u => Kept W2 u) (fun v u => Newf W2 (fd0 (L 0) kk false) n0 n1 sl S R v u) (done d 4) (vals.set 4 (.int .i64 kk)) u) := hj.plain 4 _ (by omega) (by decide) (by decide) rfl
          clear hh hd hj hi hKR
          refine wpOp_step rfl (fun K hK => ?_)
          go_simp
          exact hK _ _ ⟨_, by simp [Act.put], HN.out⟩
        | 5, ho, hi, hd =>
          simp only [List.getElem?_cons_succ, List.getElem?_cons_zero, Option.some.injEq] at ho
          subst ho
          have g96 : a1.tmps[96]? = some (.agg #[.int .i64 n0, .int .i64 n1, .int .i64 n2, .int .i64 n3, .int .i64 n4, .int .i64 n5, .int .i64 n6, .int .i64 n7, .slice sx sl sc]) := (hh.did 0 _ 96 rfl rfl (hd { on := 0, ground := .data } (by simp) rfl)).trans (congrArg some (hj.kn 0 _ rfl (hd { on := 0, ground := .data } (by simp) rfl)))
          have g99 : a1.tmps[99]? = some (.int .i64 (L 0)) := (hh.did 3 _ 99 rfl rfl (hd { on := 3, ground := .data } (by simp) rfl)).trans (congrArg some (hj.kn 3 _ rfl (hd { on := 3, ground := .data } (by simp) rfl)))
          have g100 : a1.tmps[100]? = some (.int .i64 kk) := (hh.did 4 _ 100 rfl rfl (hd { on := 4, ground := .data } (by simp) rfl)).trans (congrArg some (hj.kn 4 _ rfl (hd { on := 4, ground := .data } (by simp) rfl)))
          have CA := CField.out u hKR
          have HN : Hid (∀ v' u', Newf W2 (fd0 (L 0) kk false) n0 n1 sl S R v' u' → MJ (fun q1 => match q1 with | 0 => some (.agg #[.int .i64 n0, .int .i64 n1, .int .i64 n2, .int .i64 n3, .int .i64 n4, .int .i64 n5, .int .i64 n6, .int .i64 n7, .slice sx sl sc]) | 1 => some (.slice (some ⟨xb, xo, none⟩) l cc) | 2 => some (.pointer (some ⟨xb, xo, none⟩)) | 3 => some (.int .i64 (L 0)) | 4 => some (.int .i64 kk) | _ => none) 5 6 (fun u => Kept W2 u) (fun v u => Newf W2 (fd0 (L 0) kk false) n0 n1 sl S R v u) (done d 5) (vals.set 5 v') u') := fun v' u' q => hj.call (by omega) (by decide) hi rfl q
          clear hh hd hj hi hKR
          refine wpOp_step rfl (fun K hK => ?_)
          go_simp
          refine CA.mono ?_
          rintro e u' ⟨v', rfl, q1⟩
          exact hK _ _ ⟨v', by simp [Act.put], HN.out v' u' q1⟩
        | 6, ho, hi, hd =>
          simp only [List.getElem?_cons_succ, List.getElem?_cons_zero, Option.some.injEq] at ho
          subst ho
          have g101 : a1.tmps[101]? = some (vals.getD 5 undef) := hh.did 5 _ 101 rfl rfl (hd { on := 5, ground := .data } (by simp) rfl)
          have HN0 := hj.last (by omega) (by decide) (hd { on := 5, ground := .data } (by simp) rfl) (hd { on := 0, ground := .phase } (by simp) rfl) rfl
          obtain ⟨y, hy⟩ : ∃ y, vals.getD 5 undef = y := ⟨_, rfl⟩
          rw [hy] at HN0 g101
          have HN : Hid (MJ (fun q1 => match q1 with | 0 => some (.agg #[.int .i64 n0, .int .i64 n1, .int .i64 n2, .int .i64 n3, .int .i64 n4, .int .i64 n5, .int .i64 n6, .int .i64 n7, .slice sx sl sc]) | 1 => some (.slice (some ⟨xb, xo, none⟩) l cc) | 2 => some (.pointer (some ⟨xb, xo, none⟩)) | 3 => some (.int .i64 (L 0)) | 4 => some (.int .i64 kk) | _ => none) 5 6 (fun u => Kept W2 u) (fun v u => Newf W2 (fd0 (L 0) kk false) n0 n1 sl S R v u) (done d 6) (vals.set 6 y) u) := HN0
          clear hh hd hj hi hKR HN0 hy
          refine wpOp_step rfl (fun K hK => ?_)
          go_simp
          exact hK _ _ ⟨y, by simp [Act.put], HN.out⟩
        | n + 7, ho, _, _ => simp at ho
      · intro u d vals hv hall hj
        have h9 := hj.af (hall 5 (by decide))
        have h10 := (hj.la (hall 6 (by decide))).2.1
        clear hall hj
        match vals, hv, h9, h10 with
        | [y0, y1, y2, y3, y4, y5, y6], _, h9, h10 =>
          simp only [List.getD_cons_succ, List.getD_cons_zero] at h9 h10
          subst h10
          obtain ⟨K5, p, E, hy, hF5, hp5, hE5⟩ := h9
          subst hy
          refine norm_list' (L' := [_, _, _, _, _, _, _, _, _, _, _, _, _, _, _, _, _, _, _, _, _, _, _, _, _, _, _, _, _, _, _, _, _, _, _, _, _, _, _, _, _, _, _, _, _, _, _, _, _, _, _, _, _, _, _, _, _, _, _, _, _, _, _, _, _, _, _, _, _, _, _, _, _, _, _, _, _, _, _, _, _, _, _, _, _, _, _, _, _, _, _, _, _, _, _, _, _, _, _, _, _, _, _, _, _, _, _, _, _, _, _, _, _, _, _, _, _, _, _, _, _, _, _, _, _, _, _, _, _, _, _, _, _, _, _, _, _, _, _, _, _, _, _]) rfl ?_
          simp only [List.getD_cons_succ, List.getD_cons_zero]
          have s0 := (HSB.out.1.kept K5).at 0 rfl
          clear HCB HSB HX
          obtain ⟨St, hg1, hg2, hg3, hg4⟩ := HGO.out p E hE5
          rw [← hg2] at hF5
          have HGG : Hid (Goes p E n' (wrt fw N) 1 St ∧ (St 1).at' = -1 ∧ (St 1).er = 4) := ⟨hg1, hg3, hg4⟩
          have HF5 : Hid (FS u p E (St 0) ∧ Mm u b M n' (wrt fw N) N ∧ b < p ∧ M < p ∧ Kept w u ∧ w.heap.size ≤ p) := ⟨hF5, VMM.out.1.kept K5, by have := VMM.out.1.row.lt; omega, by have := VMM.out.1.hd.lt; omega, HKV.out.trans K5, by have := HKV.out.size; omega⟩
          have HM5 : Hid (w.heap.size ≤ M) := VMM.out.2.2
          clear hg1 hg2 hg3 hg4 hF5 hp5 hE5 K5 HGO
          go_wp2_with fail
          refine (mem_count _ HF5.out.2.1).mono ?_
          rintro e y1 ⟨rfl, rfl⟩
          go_wp2_with fail
          refine (first_any _).mono ?_
          rintro e y2 ⟨rfl, K6⟩
          have HF6 : Hid (FS y2 p E (St 0) ∧ Mm y2 b M n' (wrt fw N) N ∧ Kept w y2) := ⟨HF5.out.1.kept K6, HF5.out.2.1.kept K6, HF5.out.2.2.2.2.1.trans K6⟩
          clear K6
          go_wp2_with fail
          refine (HGG.out.1.step 0 (by omega) b M N _ HF6.out.1 HF6.out.2.1 HF5.out.2.2.1 HF5.out.2.2.2.1 (by omega)).mono ?_
          rintro e y3 ⟨rfl, x1, x2, x3⟩
          have HF7 : Hid (FS y3 p E (St 1) ∧ Mm y3 b M n' (wrt fw N) (N + 1) ∧ Kept w y3) := ⟨x1, x2, HF6.out.2.2.muts x3 (by have := HF5.out.2.2.2.2.2; have := HM5.out; simp; omega)⟩
          clear x1 x2 x3 HF6
          simp only [Nat.zero_add, decide_true]
          go_wp2_with fail
          refine (errno_is _ HF7.out.1).mono ?_
          rintro e y4 ⟨rfl, rfl⟩
          rw [HGG.out.2.2]
          go_wp2_with fail
          refine (at_is _ HF7.out.1).mono ?_
          rintro e y5 ⟨rfl, rfl⟩
          rw [HGG.out.2.1]
          go_wp2_with fail
          refine (steps_is _ HF7.out.1).mono ?_
          rintro e y6 ⟨rfl, rfl⟩
          rw [HGG.out.1.sp]
          go_wp2_with fail
          refine (mem_count _ HF7.out.2.1).mono ?_
          rintro e y7 ⟨rfl, rfl⟩
          have eN : (((N + 1 : Nat) : Int) == (N : Int) + 1) = true := by simp
          go_wp2
          go_ret
          exact ⟨rfl, HF7.out.2.2⟩
end Go.Proofs.Ytpdclckgnajcdaa
