/-
  The ways of TraceSteps.
-/
import Derived.Test.YtpdclckgnajcdaaGreatFirst16
import Derived.Test.YtpdclckgnajcdaaGreatRefP16
import Derived.Test.YtpdclckgnajcdaaGreatFew12
import Derived.Test.YtpdclckgnajcdaaGreatOvr16
import Derived.Test.YtpdclckgnajcdaaGreatMj16
namespace Go.Proofs.YtpdclckgnajcdaaGreat
open Go.RowKit

set_option maxRecDepth 20000 in
set_option maxHeartbeats 4000000 in
theorem steps_out (n0 n1 n2 n3 n4 n5 n6 n7 : Int) (sx : Option Addr) (sl sc : Nat) (S : Nat → Sh) (kind : Int) (x : Option Addr) (l c : Nat) (y : Option Addr) (yl yc : Nat) (w : World) (hS : Shps w sx sl S) (hk : kind < 0 ∨ (sl : Int) ≤ kind) :
    Calls Tryz.prog 4 #[.agg #[.int .i64 n0, .int .i64 n1, .int .i64 n2, .int .i64 n3, .int .i64 n4, .int .i64 n5, .int .i64 n6, .int .i64 n7, .slice sx sl sc], .int .i64 kind, .slice x l c, .slice y yl yc] w fun e w' => e = .returned (.bool true) ∧ Kept w w' := by
  obtain ⟨p, hp⟩ := bool_iff (Small sl S)
  have CF : Hid (∀ w', Kept w w' → Calls Tryz.prog 9 #[.agg #[.int .i64 n0, .int .i64 n1, .int .i64 n2, .int .i64 n3, .int .i64 n4, .int .i64 n5, .int .i64 n6, .int .i64 n7, .slice sx sl sc]] w' _) := fun w' k => few_any n0 n1 n2 n3 n4 n5 n6 n7 sx sl sc S p w' (hS.kept k) hp
  have CS : Hid (∀ w', Kept w w' → Calls Tryz.prog 7 #[.agg #[.int .i64 n0, .int .i64 n1, .int .i64 n2, .int .i64 n3, .int .i64 n4, .int .i64 n5, .int .i64 n6, .int .i64 n7, .slice sx sl sc], .int .i64 kind] w' _) := fun w' _ => shape_out n0 n1 n2 n3 n4 n5 n6 n7 sx sl sc kind w' hk
  clear hS hk hp
  go_enter Tryz.func4, Tryz.ntmps4
  go_wp2_with fail
  generalize hW1 : w.alloc _ = W1
  have HW1 : Hid (Kept w W1 ∧ Blk W1 w.heap.size (cl n0 n1 n2 n3 n4 n5 n6 n7 (.slice sx sl sc))) := by rw [← hW1]; exact ⟨(Kept.refl w).alloc _ _, Blk.new w _ _⟩
  clear hW1
  refine (first_any _).mono ?_
  rintro e u1 ⟨rfl, K⟩
  have HW : Hid (Kept w u1 ∧ Blk u1 w.heap.size (cl n0 n1 n2 n3 n4 n5 n6 n7 (.slice sx sl sc))) := ⟨HW1.out.1.trans K, HW1.out.2.kept K⟩
  clear HW1 K
  have c0 := HW.out.2.at 0 rfl
  have c1 := HW.out.2.at 1 rfl
  have c2 := HW.out.2.at 2 rfl
  have c3 := HW.out.2.at 3 rfl
  have c4 := HW.out.2.at 4 rfl
  have c5 := HW.out.2.at 5 rfl
  have c6 := HW.out.2.at 6 rfl
  have c7 := HW.out.2.at 7 rfl
  have c8 := HW.out.2.at 8 rfl
  go_wp2_with fail
  refine (CS.out _ HW.out.1).mono ?_
  rintro e u4 ⟨rfl, K⟩
  have HV : Hid (Kept w u4 ∧ Blk u4 w.heap.size (cl n0 n1 n2 n3 n4 n5 n6 n7 (.slice sx sl sc))) := ⟨HW.out.1.trans K, HW.out.2.kept K⟩
  clear HW K c0 c1 c2 c3 c4 c5 c6 c7 c8 CS
  go_upto_region 4 with fail
  generalize hW3 : u4.alloc _ = W3
  have HW : Hid (Kept w W3 ∧ Blk W3 w.heap.size (cl n0 n1 n2 n3 n4 n5 n6 n7 (.slice sx sl sc))) := by rw [← hW3]; exact ⟨HV.out.1.alloc _ _, HV.out.2.kept ((Kept.refl _).alloc _ _)⟩
  clear HV hW3
  have c0 := HW.out.2.at 0 rfl
  have c1 := HW.out.2.at 1 rfl
  have c2 := HW.out.2.at 2 rfl
  have c3 := HW.out.2.at 3 rfl
  have c4 := HW.out.2.at 4 rfl
  have c5 := HW.out.2.at 5 rfl
  have c6 := HW.out.2.at 6 rfl
  have c7 := HW.out.2.at 7 rfl
  have c8 := HW.out.2.at 8 rfl
  go_wp2_with fail
  refine (CF.out _ HW.out.1).mono ?_
  rintro e u5 ⟨rfl, K⟩
  have HK : Hid (Kept w u5) := HW.out.1.trans K
  clear HW K c0 c1 c2 c3 c4 c5 c6 c7 c8 CF
  cases p
  · go_wp2_with fail
    refine (first_any _).mono ?_
    rintro e u9 ⟨rfl, K9⟩
    have K10 : Hid (Kept w u9) := HK.out.trans K9
    clear K9
    go_wp2
    go_ret
    exact ⟨rfl, K10.out⟩
  · go_wp2_with fail
    refine (first_any _).mono ?_
    rintro e u9 ⟨rfl, K9⟩
    have K10 : Hid (Kept w u9) := HK.out.trans K9
    clear K9
    go_wp2
    go_ret
    exact ⟨rfl, K10.out⟩

set_option maxRecDepth 20000 in
set_option maxHeartbeats 4000000 in
theorem steps_early (n0 n1 n2 n3 n4 n5 n6 n7 : Int) (sx : Option Addr) (sl sc : Nat) (S : Nat → Sh) (R : Nat → Nat → Bool) (k : Nat) (x : Option Addr) (l c : Nat) (y : Option Addr) (yl yc : Nat) (w : World) (hS : Shps w sx sl S) (hR : ∀ i, i < sl → Refs w (S i).x (S i).l (R i)) (hk : k < sl) (hZ : (S k).l ≤ 140737488351232) (hE : ¬ Small sl S ∨ (S k).arr = true ∨ 200 < l) :
    Calls Tryz.prog 4 #[.agg #[.int .i64 n0, .int .i64 n1, .int .i64 n2, .int .i64 n3, .int .i64 n4, .int .i64 n5, .int .i64 n6, .int .i64 n7, .slice sx sl sc], .int .i64 k, .slice x l c, .slice y yl yc] w fun e w' => e = .returned (.bool true) ∧ Kept w w' := by
  obtain ⟨p, hp⟩ := bool_iff (Small sl S)
  have CF : Hid (∀ w', Kept w w' → Calls Tryz.prog 9 #[.agg #[.int .i64 n0, .int .i64 n1, .int .i64 n2, .int .i64 n3, .int .i64 n4, .int .i64 n5, .int .i64 n6, .int .i64 n7, .slice sx sl sc]] w' _) := fun w' k => few_any n0 n1 n2 n3 n4 n5 n6 n7 sx sl sc S p w' (hS.kept k) hp
  have CS : Hid (∀ w', Kept w w' → Calls Tryz.prog 7 #[.agg #[.int .i64 n0, .int .i64 n1, .int .i64 n2, .int .i64 n3, .int .i64 n4, .int .i64 n5, .int .i64 n6, .int .i64 n7, .slice sx sl sc], .int .i64 k] w' _) := fun w' q => shape_in n0 n1 n2 n3 n4 n5 n6 n7 sx sl sc S (R k) k w' hk hZ (hS.kept q) ((hR k hk).kept q)
  obtain ⟨fl, hfe⟩ : ∃ fl, (S k).l = fl := ⟨_, rfl⟩
  obtain ⟨ab, hae⟩ : ∃ ab, (S k).arr = ab := ⟨_, rfl⟩
  have HFL : Hid ((S k).arr = ab ∧ (S k).l = fl) := ⟨hae, hfe⟩
  have HE : Hid (p = true → ab = false → 200 < l) := fun h1 h2 => by
    rcases hE with q | q | q
    · exact absurd (hp.1 h1) q
    · rw [hae, h2] at q; cases q
    · exact q
  clear hS hR hk hp hE hZ hfe hae
  go_enter Tryz.func4, Tryz.ntmps4
  go_wp2_with fail
  generalize hW1 : w.alloc _ = W1
  have HW1 : Hid (Kept w W1 ∧ Blk W1 w.heap.size (cl n0 n1 n2 n3 n4 n5 n6 n7 (.slice sx sl sc))) := by rw [← hW1]; exact ⟨(Kept.refl w).alloc _ _, Blk.new w _ _⟩
  clear hW1
  refine (first_any _).mono ?_
  rintro e u1 ⟨rfl, K⟩
  have HW : Hid (Kept w u1 ∧ Blk u1 w.heap.size (cl n0 n1 n2 n3 n4 n5 n6 n7 (.slice sx sl sc))) := ⟨HW1.out.1.trans K, HW1.out.2.kept K⟩
  clear HW1 K
  have c0 := HW.out.2.at 0 rfl
  have c1 := HW.out.2.at 1 rfl
  have c2 := HW.out.2.at 2 rfl
  have c3 := HW.out.2.at 3 rfl
  have c4 := HW.out.2.at 4 rfl
  have c5 := HW.out.2.at 5 rfl
  have c6 := HW.out.2.at 6 rfl
  have c7 := HW.out.2.at 7 rfl
  have c8 := HW.out.2.at 8 rfl
  go_wp2_with fail
  refine (CS.out _ HW.out.1).mono ?_
  rintro e u4 ⟨rg, rfl, hrg, hRR, K⟩
  rw [HFL.out.2] at hRR
  have HV : Hid (Kept w u4 ∧ Blk u4 w.heap.size (cl n0 n1 n2 n3 n4 n5 n6 n7 (.slice sx sl sc)) ∧ Refs u4 (some ⟨rg, 0, none⟩) fl (R k)) := ⟨HW.out.1.trans K, HW.out.2.kept K, hRR⟩
  clear HW K c0 c1 c2 c3 c4 c5 c6 c7 c8 CS hrg hRR
  rw [HFL.out.1, HFL.out.2]
  go_upto_region 4 with fail
  generalize hW3 : u4.alloc _ = W3
  have HW : Hid (Kept w W3 ∧ Blk W3 w.heap.size (cl n0 n1 n2 n3 n4 n5 n6 n7 (.slice sx sl sc)) ∧ Blk W3 u4.heap.size [.bool ab, .slice (some ⟨rg, 0, none⟩) fl fl] ∧ Refs W3 (some ⟨rg, 0, none⟩) fl (R k)) := by rw [← hW3]; exact ⟨HV.out.1.alloc _ _, HV.out.2.1.kept ((Kept.refl _).alloc _ _), Blk.new u4 [_, _] _, HV.out.2.2.kept ((Kept.refl _).alloc _ _)⟩
  clear HV hW3
  generalize u4.heap.size = sb at *
  have c0 := HW.out.2.1.at 0 rfl
  have c1 := HW.out.2.1.at 1 rfl
  have c2 := HW.out.2.1.at 2 rfl
  have c3 := HW.out.2.1.at 3 rfl
  have c4 := HW.out.2.1.at 4 rfl
  have c5 := HW.out.2.1.at 5 rfl
  have c6 := HW.out.2.1.at 6 rfl
  have c7 := HW.out.2.1.at 7 rfl
  have c8 := HW.out.2.1.at 8 rfl
  go_wp2_with fail
  refine (CF.out _ HW.out.1).mono ?_
  rintro e u5 ⟨rfl, K⟩
  have HK : Hid (Kept w u5 ∧ Blk u5 w.heap.size (cl n0 n1 n2 n3 n4 n5 n6 n7 (.slice sx sl sc)) ∧ Blk u5 sb [.bool ab, .slice (some ⟨rg, 0, none⟩) fl fl] ∧ Refs u5 (some ⟨rg, 0, none⟩) fl (R k)) := ⟨HW.out.1.trans K, HW.out.2.1.kept K, HW.out.2.2.1.kept K, HW.out.2.2.2.kept K⟩
  clear HW K c0 c1 c2 c3 c4 c5 c6 c7 c8 CF
  have s0 := HK.out.2.2.1.at 0 rfl
  cases p
  · go_wp2_with fail
    refine (first_any _).mono ?_
    rintro e u9 ⟨rfl, K9⟩
    have K10 : Hid (Kept w u9) := HK.out.1.trans K9
    clear K9
    go_wp2
    go_ret
    exact ⟨rfl, K10.out⟩
  cases ab
  case true =>
    go_wp2_with fail
    refine (first_any _).mono ?_
    rintro e u9 ⟨rfl, K9⟩
    have K10 : Hid (Kept w u9) := HK.out.1.trans K9
    clear K9
    go_wp2
    go_ret
    exact ⟨rfl, K10.out⟩
  have hl : (l : Int) > 200 := by have := HE.out (by trivial) (by trivial); omega
  go_wp2_with fail
  refine (first_any _).mono ?_
  rintro e u9 ⟨rfl, K9⟩
  have K10 : Hid (Kept w u9) := HK.out.1.trans K9
  clear K9
  go_wp2
  go_ret
  exact ⟨rfl, K10.out⟩

set_option maxRecDepth 20000 in
set_option maxHeartbeats 4000000 in
theorem steps_obj_no (n0 n1 n2 n3 n4 n5 n6 n7 : Int) (sx : Option Addr) (sl sc : Nat) (S : Nat → Sh) (R : Nat → Nat → Bool) (k : Nat) (x : Option Addr) (l c : Nat) (y : Option Addr) (yl yc : Nat) (w : World) (hS : Shps w sx sl S) (hR : ∀ i, i < sl → Refs w (S i).x (S i).l (R i)) (hk : k < sl) (hZ : (S k).l ≤ 140737488351232) (hm : Small sl S) (hl : l ≤ 200) (hab : (S k).arr = false) 
    (hN0 : IntKind.min .i64 ≤ n0 ∧ n0 ≤ IntKind.max .i64) (r : Int) (CO : ∀ w', Kept w w' → Calls Tryz.prog 10 #[.agg #[.int .i64 n0, .int .i64 n1, .int .i64 n2, .int .i64 n3, .int .i64 n4, .int .i64 n5, .int .i64 n6, .int .i64 n7, .slice sx sl sc], .int .i64 k, .slice x l c] w' fun e w'' => e = .returned (.tuple #[.slice none 0 0, .int .i64 r]) ∧ Kept w' w'') (hr : r ≠ 0) :
    Calls Tryz.prog 4 #[.agg #[.int .i64 n0, .int .i64 n1, .int .i64 n2, .int .i64 n3, .int .i64 n4, .int .i64 n5, .int .i64 n6, .int .i64 n7, .slice sx sl sc], .int .i64 k, .slice x l c, .slice y yl yc] w fun e w' => e = .returned (.bool true) ∧ Kept w w' := by
  obtain ⟨v, hv⟩ : ∃ v : Nat, Is (Good n0 n1 n2 n3 n4 n5 n6 n7 sl S) (8 * n0 + 2 * n1 + n2) (v : Int) ∧ v ≤ 100000 := by
    obtain ⟨v, hv⟩ := Is.some (Good n0 n1 n2 n3 n4 n5 n6 n7 sl S) (8 * n0 + 2 * n1 + n2)
    by_cases q : Good n0 n1 n2 n3 n4 n5 n6 n7 sl S
    · have h1 := hv.yes q
      have hf := q.1
      unfold Fits at hf
      exact ⟨v.toNat, by rw [show ((v.toNat : Nat) : Int) = v by omega]; exact hv, by omega⟩
    · have h1 := hv.no q
      exact ⟨v.toNat, by rw [show ((v.toNat : Nat) : Int) = v by omega]; exact hv, by omega⟩
  have CF : Hid (∀ w', Kept w w' → Calls Tryz.prog 9 #[.agg #[.int .i64 n0, .int .i64 n1, .int .i64 n2, .int .i64 n3, .int .i64 n4, .int .i64 n5, .int .i64 n6, .int .i64 n7, .slice sx sl sc]] w' _) := fun w' k => few_any n0 n1 n2 n3 n4 n5 n6 n7 sx sl sc S true w' (hS.kept k) ⟨fun _ => hm, fun _ => rfl⟩
  have CS : Hid (∀ w', Kept w w' → Calls Tryz.prog 7 #[.agg #[.int .i64 n0, .int .i64 n1, .int .i64 n2, .int .i64 n3, .int .i64 n4, .int .i64 n5, .int .i64 n6, .int .i64 n7, .slice sx sl sc], .int .i64 k] w' _) := fun w' q => shape_in n0 n1 n2 n3 n4 n5 n6 n7 sx sl sc S (R k) k w' hk hZ (hS.kept q) ((hR k hk).kept q)
  obtain ⟨fl, hfe⟩ : ∃ fl, (S k).l = fl := ⟨_, rfl⟩
  obtain ⟨ab, hae⟩ : ∃ ab, (S k).arr = ab := ⟨_, rfl⟩
  have HFL : Hid ((S k).arr = ab ∧ (S k).l = fl) := ⟨hae, hfe⟩
  obtain rfl : ab = false := by rw [← hae, hab]
  have CO : Hid (∀ w', Kept w w' → _) := CO
  have CL : Hid (∀ w', Kept w w' → Calls Tryz.prog 12 #[.agg #[.int .i64 n0, .int .i64 n1, .int .i64 n2, .int .i64 n3, .int .i64 n4, .int .i64 n5, .int .i64 n6, .int .i64 n7, .slice sx sl sc], .slice none 0 0] w' _) := fun w' q => fill_nil n0 n1 n2 n3 n4 n5 n6 n7 sx sl sc S v w' (hS.kept q) hv.1 hv.2
  have CSH : Hid (∀ u : World, _) := fun u => snew_either n0 n6 u hN0.1 hN0.2
  have er : (r != 0) = true := by simpa using hr
  have er2 : (r == 0) = false := by simpa using hr
  clear hS hR hk hm hZ hab hfe hae hv hr
  go_enter Tryz.func4, Tryz.ntmps4
  go_wp2_with fail
  generalize hW1 : w.alloc _ = W1
  have HW1 : Hid (Kept w W1 ∧ Blk W1 w.heap.size (cl n0 n1 n2 n3 n4 n5 n6 n7 (.slice sx sl sc))) := by rw [← hW1]; exact ⟨(Kept.refl w).alloc _ _, Blk.new w _ _⟩
  clear hW1
  refine (first_any _).mono ?_
  rintro e u1 ⟨rfl, K⟩
  have HW : Hid (Kept w u1 ∧ Blk u1 w.heap.size (cl n0 n1 n2 n3 n4 n5 n6 n7 (.slice sx sl sc))) := ⟨HW1.out.1.trans K, HW1.out.2.kept K⟩
  clear HW1 K
  have c0 := HW.out.2.at 0 rfl
  have c1 := HW.out.2.at 1 rfl
  have c2 := HW.out.2.at 2 rfl
  have c3 := HW.out.2.at 3 rfl
  have c4 := HW.out.2.at 4 rfl
  have c5 := HW.out.2.at 5 rfl
  have c6 := HW.out.2.at 6 rfl
  have c7 := HW.out.2.at 7 rfl
  have c8 := HW.out.2.at 8 rfl
  go_wp2_with fail
  refine (CS.out _ HW.out.1).mono ?_
  rintro e u4 ⟨rg, rfl, hrg, hRR, K⟩
  rw [HFL.out.2] at hRR
  have HV : Hid (Kept w u4 ∧ Blk u4 w.heap.size (cl n0 n1 n2 n3 n4 n5 n6 n7 (.slice sx sl sc)) ∧ Refs u4 (some ⟨rg, 0, none⟩) fl (R k)) := ⟨HW.out.1.trans K, HW.out.2.kept K, hRR⟩
  clear HW K c0 c1 c2 c3 c4 c5 c6 c7 c8 CS hrg hRR
  rw [HFL.out.1, HFL.out.2]
  go_upto_region 4 with fail
  generalize hW3 : u4.alloc _ = W3
  have HW : Hid (Kept w W3 ∧ Blk W3 w.heap.size (cl n0 n1 n2 n3 n4 n5 n6 n7 (.slice sx sl sc)) ∧ Blk W3 u4.heap.size [.bool false, .slice (some ⟨rg, 0, none⟩) fl fl] ∧ Refs W3 (some ⟨rg, 0, none⟩) fl (R k)) := by rw [← hW3]; exact ⟨HV.out.1.alloc _ _, HV.out.2.1.kept ((Kept.refl _).alloc _ _), Blk.new u4 [_, _] _, HV.out.2.2.kept ((Kept.refl _).alloc _ _)⟩
  clear HV hW3
  generalize u4.heap.size = sb at *
  have c0 := HW.out.2.1.at 0 rfl
  have c1 := HW.out.2.1.at 1 rfl
  have c2 := HW.out.2.1.at 2 rfl
  have c3 := HW.out.2.1.at 3 rfl
  have c4 := HW.out.2.1.at 4 rfl
  have c5 := HW.out.2.1.at 5 rfl
  have c6 := HW.out.2.1.at 6 rfl
  have c7 := HW.out.2.1.at 7 rfl
  have c8 := HW.out.2.1.at 8 rfl
  go_wp2_with fail
  refine (CF.out _ HW.out.1).mono ?_
  rintro e u5 ⟨rfl, K⟩
  have HK : Hid (Kept w u5 ∧ Blk u5 w.heap.size (cl n0 n1 n2 n3 n4 n5 n6 n7 (.slice sx sl sc)) ∧ Blk u5 sb [.bool false, .slice (some ⟨rg, 0, none⟩) fl fl] ∧ Refs u5 (some ⟨rg, 0, none⟩) fl (R k)) := ⟨HW.out.1.trans K, HW.out.2.1.kept K, HW.out.2.2.1.kept K, HW.out.2.2.2.kept K⟩
  clear HW K c0 c1 c2 c3 c4 c5 c6 c7 c8 CF
  have s0 := HK.out.2.2.1.at 0 rfl
  have hl2 : ¬ (l : Int) > 200 := by omega
  have hcb := HK.out.2.1
  have c0 := hcb.at 0 rfl
  have c1 := hcb.at 1 rfl
  have c2 := hcb.at 2 rfl
  have c3 := hcb.at 3 rfl
  have c4 := hcb.at 4 rfl
  have c5 := hcb.at 5 rfl
  have c6 := hcb.at 6 rfl
  have c7 := hcb.at 7 rfl
  have c8 := hcb.at 8 rfl
  clear hcb
  go_wp2_with fail
  refine (CO.out _ HK.out.1).mono ?_
  rintro e u7 ⟨rfl, K⟩
  have HK7 : Hid (Kept w u7 ∧ Blk u7 w.heap.size (cl n0 n1 n2 n3 n4 n5 n6 n7 (.slice sx sl sc)) ∧ Blk u7 sb [.bool false, .slice (some ⟨rg, 0, none⟩) fl fl] ∧ Refs u7 (some ⟨rg, 0, none⟩) fl (R k)) := ⟨HK.out.1.trans K, HK.out.2.1.kept K, HK.out.2.2.1.kept K, HK.out.2.2.2.kept K⟩
  clear HK K c0 c1 c2 c3 c4 c5 c6 c7 c8 s0 CO
  have hcb := HK7.out.2.1
  have c0 := hcb.at 0 rfl
  have c1 := hcb.at 1 rfl
  have c2 := hcb.at 2 rfl
  have c3 := hcb.at 3 rfl
  have c4 := hcb.at 4 rfl
  have c5 := hcb.at 5 rfl
  have c6 := hcb.at 6 rfl
  have c7 := hcb.at 7 rfl
  have c8 := hcb.at 8 rfl
  have s0 := HK7.out.2.2.1.at 0 rfl
  have s1 := HK7.out.2.2.1.at 1 rfl
  clear hcb
  go_wp2_with fail
  refine (CL.out _ HK7.out.1).mono ?_
  rintro e u8 ⟨b, M, rfl, _, K8, _, _⟩
  have HK8 : Hid (Kept w u8 ∧ Blk u8 w.heap.size (cl n0 n1 n2 n3 n4 n5 n6 n7 (.slice sx sl sc))) := ⟨HK7.out.1.trans K8, HK7.out.2.1.kept K8⟩
  clear HK7 K8 c0 c1 c2 c3 c4 c5 c6 c7 c8 s0 s1 CL
  have hcb8 := HK8.out.2
  have c0 := hcb8.at 0 rfl
  have c1 := hcb8.at 1 rfl
  have c2 := hcb8.at 2 rfl
  have c3 := hcb8.at 3 rfl
  have c4 := hcb8.at 4 rfl
  have c5 := hcb8.at 5 rfl
  have c6 := hcb8.at 6 rfl
  have c7 := hcb8.at 7 rfl
  have c8 := hcb8.at 8 rfl
  clear hcb8
  go_wp2_with fail
  refine (CSH.out _).mono ?_
  rintro e u9 ⟨⟨v9, r9, rfl⟩, K9⟩
  have HK9 : Hid (Kept w u9) := HK8.out.1.trans K9
  clear HK8 K9 c0 c1 c2 c3 c4 c5 c6 c7 c8 CSH
  go_wp2_with fail
  refine (first_any _).mono ?_
  rintro e u10 ⟨rfl, K9⟩
  have K10 : Hid (Kept w u10) := HK9.out.trans K9
  clear K9
  go_wp2
  go_ret
  exact ⟨rfl, K10.out⟩

set_option maxRecDepth 20000 in
set_option maxHeartbeats 8000000 in
theorem steps_obj_yes (n0 n1 n2 n3 n4 n5 n6 n7 : Int) (sx : Option Addr) (sl sc : Nat) (S : Nat → Sh) (R : Nat → Nat → Bool) (k : Nat) (x : Option Addr) (l c : Nat) (L : Nat → Int) (y : Option Addr) (yl yc : Nat) (RB : Nat → Bool) (w : World) (hS : Shps w sx sl S) (hR : ∀ i, i < sl → Refs w (S i).x (S i).l (R i)) (hk : k < sl) (hZ : (S k).l ≤ 140737488351232) (hm : Small sl S) (hl : l ≤ 200) (hab : (S k).arr = false)
    (N : Nat) (fw : Nat → Wr) (CO : ∀ w', Kept w w' → Calls Tryz.prog 10 #[.agg #[.int .i64 n0, .int .i64 n1, .int .i64 n2, .int .i64 n3, .int .i64 n4, .int .i64 n5, .int .i64 n6, .int .i64 n7, .slice sx sl sc], .int .i64 k, .slice x l c] w' fun e w'' => ∃ v, e = .returned (.tuple #[v, .int .i64 0]) ∧ Ws w'' w'.heap.size v N fw ∧ Kept w' w'') (hN0 : 0 < N) (hN : N ≤ 2000) (hg : Good n0 n1 n2 n3 n4 n5 n6 n7 sl S) (n' : Nat) (hn' : (n' : Int) = 8 * n0 + 2 * n1 + n2) (hA : ∀ i, i < N → ∃ a : Nat, a < n' ∧ (fw i).a = (a : Int))
    (hx : Rdf w x l L) (hl0 : 0 < l) (hL0 : 0 ≤ L 0 ∧ L 0 < n0) (hy : Refs w y yl RB) (th : Th) (ad : Nat → Nat) (hm' : Int) (hq : 1 ≤ n6 ∧ n6 ≤ 256) (hfr : ∀ j, j < l → 0 ≤ L j ∧ L j < n0) (hlen : (l : Int) = 1 + ((S k).l : Int) / 7) (hTR : ∀ s, th.ref s = R k s) (hTN : th.N = (S k).l) (hTL : th.L = L) (hTV : ∀ s, th.V s = if R k s = true ∧ s < yl ∧ RB s = true then some (L 0) else none) (hall : (th.all : Int) = 1 + 2 * ((l : Int) - 1) + th.cnt (S k).l) (hall2 : th.all ≤ 2000) (had : ∀ s, s < (S k).l → L ((s + 1) / 7) * 8 + ((1 + (s + 1) % 7 : Nat) : Int) = ad s ∧ ad s < n') (hEnv : ∀ E, Began n0 n1 sl S R E → Env E n' (ovr (wrt fw N) ad th.V (S k).l) k hm' th) :
    Calls Tryz.prog 4 #[.agg #[.int .i64 n0, .int .i64 n1, .int .i64 n2, .int .i64 n3, .int .i64 n4, .int .i64 n5, .int .i64 n6, .int .i64 n7, .slice sx sl sc], .int .i64 k, .slice x l c, .slice y yl yc] w fun e w' => e = .returned (.bool true) ∧ Kept w w' := by
  have hnb : n' ≤ 100000 := by
    have hf := hg.1
    unfold Fits at hf
    omega
  have CF : Hid (∀ w', Kept w w' → Calls Tryz.prog 9 #[.agg #[.int .i64 n0, .int .i64 n1, .int .i64 n2, .int .i64 n3, .int .i64 n4, .int .i64 n5, .int .i64 n6, .int .i64 n7, .slice sx sl sc]] w' _) := fun w' k => few_any n0 n1 n2 n3 n4 n5 n6 n7 sx sl sc S true w' (hS.kept k) ⟨fun _ => hm, fun _ => rfl⟩
  have CS : Hid (∀ w', Kept w w' → Calls Tryz.prog 7 #[.agg #[.int .i64 n0, .int .i64 n1, .int .i64 n2, .int .i64 n3, .int .i64 n4, .int .i64 n5, .int .i64 n6, .int .i64 n7, .slice sx sl sc], .int .i64 k] w' _) := fun w' q => shape_in n0 n1 n2 n3 n4 n5 n6 n7 sx sl sc S (R k) k w' hk hZ (hS.kept q) ((hR k hk).kept q)
  obtain ⟨fl, hfe⟩ : ∃ fl, (S k).l = fl := ⟨_, rfl⟩
  obtain ⟨ab, hae⟩ : ∃ ab, (S k).arr = ab := ⟨_, rfl⟩
  have HFL : Hid ((S k).arr = ab ∧ (S k).l = fl) := ⟨hae, hfe⟩
  obtain rfl : ab = false := by rw [← hae, hab]
  have CO : Hid (∀ w', Kept w w' → _) := CO
  have CL : Hid (∀ w', Kept w w' → Calls Tryz.prog 12 #[.agg #[.int .i64 n0, .int .i64 n1, .int .i64 n2, .int .i64 n3, .int .i64 n4, .int .i64 n5, .int .i64 n6, .int .i64 n7, .slice sx sl sc], .slice none 0 0] w' _) := fun w' q => fill_nil n0 n1 n2 n3 n4 n5 n6 n7 sx sl sc S n' w' (hS.kept q) (by rw [hn']; exact Is.is _ hg) hnb
  have HSR : Hid (Shps w sx sl S ∧ (∀ i, i < sl → Refs w (S i).x (S i).l (R i)) ∧ Good n0 n1 n2 n3 n4 n5 n6 n7 sl S ∧ 0 ≤ L 0 ∧ L 0 < n0) := ⟨hS, hR, hg, hL0.1, hL0.2⟩
  have HA : Hid (∀ i, i < N → ∃ a : Nat, a < n' ∧ (fw i).a = (a : Int)) := hA
  obtain ⟨xb, xo, rfl, hxb, hxc⟩ := hx hl0
  have HX : Hid (xb < w.heap.size ∧ ∀ j, j < l → w.cell? ⟨xb, xo + j, none⟩ = some (.int .i64 (L j))) := ⟨hxb, hxc⟩
  obtain ⟨cc, rfl⟩ : ∃ cc, cc = c := ⟨_, rfl⟩
  have h40 : (S k).l ≤ 40 := may_few (hg.2.2.2 k hk)
  rw [hfe] at hlen hTN hall had hEnv h40
  have HTH : Hid ((∀ s, th.ref s = R k s) ∧ th.N = fl ∧ th.L = L ∧ (∀ s, th.V s = if R k s = true ∧ s < yl ∧ RB s = true then some (L 0) else none) ∧ (th.all : Int) = 1 + 2 * ((l : Int) - 1) + th.cnt fl ∧ th.all ≤ 2000 ∧ (∀ s, s < fl → L ((s + 1) / 7) * 8 + ((1 + (s + 1) % 7 : Nat) : Int) = ad s ∧ ad s < n')) := ⟨hTR, hTN, hTL, hTV, hall, hall2, had⟩
  have HEV : Hid (∀ E, Began n0 n1 sl S R E → Env E n' (ovr (wrt fw N) ad th.V fl) k hm' th) := hEnv
  have HFR : Hid ((∀ j, j < l → 0 ≤ L j ∧ L j < n0) ∧ (l : Int) = 1 + (fl : Int) / 7) := ⟨hfr, hlen⟩
  have HY : Hid (Refs w y yl RB) := hy
  have hn0 : 4 ≤ n0 ∧ n0 ≤ 1024 := by
    have hf := hg.1
    unfold Fits at hf
    omega
  have hn6 : 1 ≤ n6 ∧ n6 ≤ 256 := hq
  clear hTR hTN hTL hTV hall hall2 had hEnv hfr hlen hy hq
  clear hS hR hk hm hZ hab hfe hae hg hn' hA hx hxb hxc hL0
  go_enter Tryz.func4, Tryz.ntmps4
  go_wp2_with fail
  generalize hW1 : w.alloc _ = W1
  have HW1 : Hid (Kept w W1 ∧ Blk W1 w.heap.size (cl n0 n1 n2 n3 n4 n5 n6 n7 (.slice sx sl sc))) := by rw [← hW1]; exact ⟨(Kept.refl w).alloc _ _, Blk.new w _ _⟩
  clear hW1
  refine (first_any _).mono ?_
  rintro e u1 ⟨rfl, K⟩
  have HW : Hid (Kept w u1 ∧ Blk u1 w.heap.size (cl n0 n1 n2 n3 n4 n5 n6 n7 (.slice sx sl sc))) := ⟨HW1.out.1.trans K, HW1.out.2.kept K⟩
  clear HW1 K
  have c0 := HW.out.2.at 0 rfl
  have c1 := HW.out.2.at 1 rfl
  have c2 := HW.out.2.at 2 rfl
  have c3 := HW.out.2.at 3 rfl
  have c4 := HW.out.2.at 4 rfl
  have c5 := HW.out.2.at 5 rfl
  have c6 := HW.out.2.at 6 rfl
  have c7 := HW.out.2.at 7 rfl
  have c8 := HW.out.2.at 8 rfl
  go_wp2_with fail
  refine (CS.out _ HW.out.1).mono ?_
  rintro e u4 ⟨rg, rfl, hrg, hRR, K⟩
  rw [HFL.out.2] at hRR
  have HV : Hid (Kept w u4 ∧ Blk u4 w.heap.size (cl n0 n1 n2 n3 n4 n5 n6 n7 (.slice sx sl sc)) ∧ Refs u4 (some ⟨rg, 0, none⟩) fl (R k)) := ⟨HW.out.1.trans K, HW.out.2.kept K, hRR⟩
  clear HW K c0 c1 c2 c3 c4 c5 c6 c7 c8 CS hrg hRR
  rw [HFL.out.1, HFL.out.2]
  go_upto_region 4 with fail
  generalize hW3 : u4.alloc _ = W3
  have HW : Hid (Kept w W3 ∧ Blk W3 w.heap.size (cl n0 n1 n2 n3 n4 n5 n6 n7 (.slice sx sl sc)) ∧ Blk W3 u4.heap.size [.bool false, .slice (some ⟨rg, 0, none⟩) fl fl] ∧ Refs W3 (some ⟨rg, 0, none⟩) fl (R k)) := by rw [← hW3]; exact ⟨HV.out.1.alloc _ _, HV.out.2.1.kept ((Kept.refl _).alloc _ _), Blk.new u4 [_, _] _, HV.out.2.2.kept ((Kept.refl _).alloc _ _)⟩
  clear HV hW3
  generalize u4.heap.size = sb at *
  have c0 := HW.out.2.1.at 0 rfl
  have c1 := HW.out.2.1.at 1 rfl
  have c2 := HW.out.2.1.at 2 rfl
  have c3 := HW.out.2.1.at 3 rfl
  have c4 := HW.out.2.1.at 4 rfl
  have c5 := HW.out.2.1.at 5 rfl
  have c6 := HW.out.2.1.at 6 rfl
  have c7 := HW.out.2.1.at 7 rfl
  have c8 := HW.out.2.1.at 8 rfl
  go_wp2_with fail
  refine (CF.out _ HW.out.1).mono ?_
  rintro e u5 ⟨rfl, K⟩
  have HK : Hid (Kept w u5 ∧ Blk u5 w.heap.size (cl n0 n1 n2 n3 n4 n5 n6 n7 (.slice sx sl sc)) ∧ Blk u5 sb [.bool false, .slice (some ⟨rg, 0, none⟩) fl fl] ∧ Refs u5 (some ⟨rg, 0, none⟩) fl (R k)) := ⟨HW.out.1.trans K, HW.out.2.1.kept K, HW.out.2.2.1.kept K, HW.out.2.2.2.kept K⟩
  clear HW K c0 c1 c2 c3 c4 c5 c6 c7 c8 CF
  have s0 := HK.out.2.2.1.at 0 rfl
  have hl2 : ¬ (l : Int) > 200 := by omega
  have hcb := HK.out.2.1
  have c0 := hcb.at 0 rfl
  have c1 := hcb.at 1 rfl
  have c2 := hcb.at 2 rfl
  have c3 := hcb.at 3 rfl
  have c4 := hcb.at 4 rfl
  have c5 := hcb.at 5 rfl
  have c6 := hcb.at 6 rfl
  have c7 := hcb.at 7 rfl
  have c8 := hcb.at 8 rfl
  clear hcb
  go_wp2_with fail
  refine (CO.out _ HK.out.1).mono ?_
  rintro e u7 ⟨v, rfl, hv, K⟩
  have HK7 : Hid (Kept w u7 ∧ Blk u7 w.heap.size (cl n0 n1 n2 n3 n4 n5 n6 n7 (.slice sx sl sc)) ∧ Blk u7 sb [.bool false, .slice (some ⟨rg, 0, none⟩) fl fl] ∧ Refs u7 (some ⟨rg, 0, none⟩) fl (R k)) := ⟨HK.out.1.trans K, HK.out.2.1.kept K, HK.out.2.2.1.kept K, HK.out.2.2.2.kept K⟩
  clear HK K c0 c1 c2 c3 c4 c5 c6 c7 c8 s0 CO
  have hcb := HK7.out.2.1
  have c0 := hcb.at 0 rfl
  have c1 := hcb.at 1 rfl
  have c2 := hcb.at 2 rfl
  have c3 := hcb.at 3 rfl
  have c4 := hcb.at 4 rfl
  have c5 := hcb.at 5 rfl
  have c6 := hcb.at 6 rfl
  have c7 := hcb.at 7 rfl
  have c8 := hcb.at 8 rfl
  have s0 := HK7.out.2.2.1.at 0 rfl
  have s1 := HK7.out.2.2.1.at 1 rfl
  clear hcb
  obtain ⟨g, dd, rfl, hg1, hg2, hgc⟩ := hv.here hN0
  clear hv
  obtain ⟨U, rfl⟩ : ∃ U, U = u7 := ⟨_, rfl⟩
  go_wp2_with fail
  refine (CL.out _ HK7.out.1).mono ?_
  rintro e V ⟨b, M, rfl, hM, K8, hb8, hM8⟩
  have HV : Hid (Kept U V ∧ Mm V b M n' (fun _ => cz) 0 ∧ U.heap.size ≤ M ∧ U.heap.size ≤ b) := ⟨K8, hM, hM8, hb8⟩
  have HU7 : Hid (Kept w U ∧ Blk U w.heap.size (cl n0 n1 n2 n3 n4 n5 n6 n7 (.slice sx sl sc)) ∧ Blk U sb [.bool false, .slice (some ⟨rg, 0, none⟩) fl fl] ∧ Refs U (some ⟨rg, 0, none⟩) fl (R k)) := HK7
  have hlz : ((l : Int) == 0) = false := by simp; omega
  clear hM K8 hb8 hM8 CL c0 c1 c2 c3 c4 c5 c6 c7 c8 s0 s1 HK7
  have hcb := HU7.out.2.1.kept HV.out.1
  have c0 := hcb.at 0 rfl
  have c1 := hcb.at 1 rfl
  have c2 := hcb.at 2 rfl
  have c3 := hcb.at 3 rfl
  have c4 := hcb.at 4 rfl
  have c5 := hcb.at 5 rfl
  have c6 := hcb.at 6 rfl
  have c7 := hcb.at 7 rfl
  have c8 := hcb.at 8 rfl
  clear hcb
  obtain ⟨sn, hsn⟩ : ∃ sn : Nat, n0 = sn := ⟨n0.toNat, by omega⟩
  obtain ⟨sm, hsm⟩ : ∃ sm : Nat, n6 = sm := ⟨n6.toNat, by omega⟩
  have CSN : Hid (Calls Tryz.prog 13 #[.int .i64 n0, .int .i64 n6] V fun e w' => ∃ sb1 tb, e = .returned (.tuple #[.pointer (some ⟨sb1, 0, none⟩), .int .i64 0]) ∧ Mo U w' b M n' sb1 tb (fun _ => cz) 0 (ShS.new n0.toNat n6.toNat)) := by
    have := mo_new sn sm HV.out.1 HV.out.2.1 HV.out.2.2.1 HV.out.2.2.2 (by omega) (by omega) (by omega)
    rw [hsn, hsm]
    exact this
  clear hsn hsm
  go_wp2_with fail
  refine CSN.out.mono ?_
  rintro e W ⟨sb1, tb, rfl, HMo⟩
  have HI0 : Hid (Mo U W b M n' sb1 tb (wrt fw 0) 0 (ShS.new n0.toNat n6.toNat)) := HMo
  have HWS : Hid (g < W.heap.size ∧ g ≠ M ∧ g ≠ b ∧ ∀ i, i < N → W.cell? ⟨g, i * 2, none⟩ = some (.int .i64 (fw i).a) ∧ W.cell? ⟨g, i * 2 + 1, none⟩ = some (.complex .f64 (fw i).z.re (fw i).z.im)) := by
    have h1 := HV.out.2.2
    exact ⟨Nat.lt_of_lt_of_le hg2 HMo.kept.size, by omega, by omega, fun i hi => ⟨(HMo.kept.cell hg2).trans (hgc i hi).1, (HMo.kept.cell hg2).trans (hgc i hi).2⟩⟩
  clear HMo HV hg1 hg2 hgc CSN c0 c1 c2 c3 c4 c5 c6 c7 c8
  go_wp2_with fail
  go_loopg [16] N (fun m i wr => ∃ k : Nat, i = .int .i64 k ∧ k ≤ N ∧ m = N - k ∧ Hid (Mo U wr b M n' sb1 tb (wrt fw k) k (ShS.new n0.toNat n6.toNat) ∧ Mut [M, b] W wr))
  case atStart => exact ⟨0, rfl, by omega, by omega, HI0.out, Mut.refl _ _⟩
  case round =>
    obtain ⟨k, rfl, hk, hm, hw⟩ := hrel
    have HM : Hid _ := hm
    clear hm
    by_cases hlt : k < N
    · obtain ⟨a, han, hfa⟩ := HA.out k hlt
      have ca : wr.cell? ⟨g, k * 2, none⟩ = some (.int .i64 (a : Int)) := (hw.out.2.cell HWS.out.1 (by have := HWS.out.2.1; have := HWS.out.2.2.1; simp; omega)).trans (by rw [← hfa]; exact (HWS.out.2.2.2 k hlt).1)
      have cb : wr.cell? ⟨g, k * 2 + 1, none⟩ = some (.complex .f64 (fw (k)).z.re (fw (k)).z.im) := (hw.out.2.cell HWS.out.1 (by have := HWS.out.2.1; have := HWS.out.2.2.1; simp; omega)).trans (HWS.out.2.2.2 k hlt).2
      have CW : Hid (Calls Tryz.prog 15 #[.pointer (some ⟨M, 0, none⟩), .int .i64 a, .complex .f64 (fw (k)).z.re (fw (k)).z.im] wr.drew _) := mo_write (G := wrt fw (k + 1)) a (fw (k)).z (hw.out.1.still (Kept.refl _).drew) han (by omega) (fun j _ => wrt_step hfa j)
      have HD : Hid (Mut [M, b] W wr.drew) := hw.out.2.drew
      clear hw
      generalize (fw (k)).z = zz at *
      go_wp2_with fail
      go_region_with (go_at_call 15; refine CW.out.mono ?_; rintro e w2 ⟨rfl, t2, m2⟩; have HR : Hid (Mo U w2 b M n' sb1 tb (wrt fw (k + 1)) (k + 1) (ShS.new n0.toNat n6.toNat) ∧ Mut [M, b] W w2) := ⟨t2, HD.out.trans m2⟩; clear t2 m2)
      all_goals go_wp2
      all_goals go_roundg (N - (k + 1))
      all_goals (first | (have := HM.out; omega) | (rename_i HR; exact ⟨k + 1, by go_num, by omega, by omega, HR.out⟩))
    · obtain rfl : N = k := by omega
      have HW2 : Hid (Mo U wr b M n' sb1 tb (wrt fw N) N (ShS.new n0.toNat n6.toNat)) := hw.out.1
      clear hw HM hk hlt HI0 HA HWS
      obtain ⟨W2, rfl⟩ : ∃ W2, W2 = wr := ⟨_, rfl⟩
      have hcl : (l : Int) ≤ 200 := by omega
      go_wp2_with fail
      go_loopg [18, 17] fl (fun m kk ww wr => ∃ (j q : Nat), kk = .int .i64 j ∧ j ≤ fl ∧ m = fl - j ∧ q ≤ 2000 + j ∧ ww = .int .i64 (1 + 2 * ((l : Int) - 1) + th.cnt j) ∧ Hid (Mo U wr b M n' sb1 tb (ovr (wrt fw N) ad th.V j) q (ShS.new n0.toNat n6.toNat)))
      case atStart => exact ⟨0, N, rfl, by omega, by omega, by omega, by simp [Th.cnt], HW2.out⟩
      case round =>
        obtain ⟨j, q, rfl, hj, hm, hq, rfl, hw⟩ := hrel
        have HMj : Hid _ := hm
        clear hm
        obtain ⟨wA, rfl⟩ : ∃ wA, wA = wr := ⟨_, rfl⟩
        have hsb := HU7.out.2.2.1.kept hw.out.kept
        have s0 := hsb.at 0 rfl
        have s1 := hsb.at 1 rfl
        clear hsb
        by_cases hlt : j < fl
        · obtain ⟨rb0, ro0, hre, hrl, hrc⟩ := (HU7.out.2.2.2.kept hw.out.kept) (by omega)
          obtain ⟨rfl, rfl⟩ : rg = rb0 ∧ 0 = ro0 := by simpa using hre
          have cr0 := hrc j hlt
          rw [Nat.zero_add] at cr0
          clear hrc hre hrl
          have hcj := th.cnt_le j
          cases hRj : R k j
          · rw [hRj] at cr0
            have hV : th.V j = none := by rw [HTH.out.2.2.2.1, hRj]; simp
            have hc1 : th.cnt (j + 1) = th.cnt j := by simp [Th.cnt, Th.one, HTH.out.1, hRj]
            have HN : Hid (Mo U wA b M n' sb1 tb (ovr (wrt fw N) ad th.V (j + 1)) q (ShS.new n0.toNat n6.toNat)) := by rw [ovr_none hV]; exact hw.out
            have HC1 : Hid (th.cnt (j + 1) = th.cnt j) := hc1
            clear hw hV hc1
            generalize th.cnt j = cj at *
            go_wp2
            go_roundg (fl - (j + 1))
            case measure => have := HMj.out; omega
            case rel => exact ⟨j + 1, q, by go_num, by omega, by omega, by omega, by rw [HC1.out], HN⟩
          · rw [hRj] at cr0
            have hKw : Kept w wA := HU7.out.1.trans hw.out.kept
            by_cases hB : j < yl ∧ RB j = true
            · obtain ⟨hB1, hB2⟩ := hB
              obtain ⟨yb, yo, rfl, hyb, hyc⟩ := HY.out (by omega)
              have cy := (hKw.cell hyb).trans (hyc j hB1)
              rw [hB2] at cy
              have hV : th.V j = some (L 0) := by rw [HTH.out.2.2.2.1, hRj]; simp [hB1, hB2]
              have hc1 : th.cnt (j + 1) = th.cnt j + 2 := by simp [Th.cnt, Th.one, HTH.out.1, hRj, hV]
              have HC1 : Hid (th.cnt (j + 1) = th.cnt j + 2) := hc1
              obtain ⟨had1, had2⟩ := HTH.out.2.2.2.2.2.2 j hlt
              have hlen := HFR.out.2
              have hi7 : (j + 1) / 7 < l := by omega
              have hL7 := HFR.out.1 _ hi7
              have cg7 : w.cell? ⟨xb, xo + (j + 1) / 7, none⟩ = some (.int .i64 (L ((j + 1) / 7))) := HX.out.2 _ hi7
              have cg0 : w.cell? ⟨xb, xo, none⟩ = some (.int .i64 (L 0)) := HX.out.2 0 (by omega)
              have CP : Hid (∀ u, Calls Tryz.prog 17 #[.agg #[.bool false, .slice (some ⟨rg, 0, none⟩) fl fl], .int .i64 (j : Int)] u _) := fun u => rplace_in (some ⟨rg, 0, none⟩) fl fl j ((j + 1) / 7) (1 + (j + 1) % 7) u h40 hlt rfl rfl
              obtain ⟨zz, hzz⟩ : ∃ zz, zz = cr (L 0) := ⟨_, rfl⟩
              have CR : Hid (∀ u, Calls Tryz.prog 18 #[.int .i64 (L 0)] u fun e w' => e = .returned (.complex .f64 zz.re zz.im) ∧ w' = u) := fun u => by rw [hzz]; exact rref_in (L 0) u HSR.out.2.2.2.1 (by have := HSR.out.2.2.2.2; omega)
              have HWV : Hid (∀ u, Mo U u b M n' sb1 tb (ovr (wrt fw N) ad th.V j) q (ShS.new n0.toNat n6.toNat) → _) := fun u hu => mo_write (G := ovr (wrt fw N) ad th.V (j + 1)) (ad j) zz hu had2 (by omega) (fun i _ => by rw [hzz]; exact ovr_some hV i)
              generalize (ad j) = aj at *
              generalize (j + 1) / 7 = i7 at *
              obtain ⟨v7, hv7⟩ : ∃ v7, 1 + (j + 1) % 7 = v7 := ⟨_, rfl⟩
              rw [hv7] at CP had1
              have hv8 : v7 ≤ 8 := by omega
              have eA : 8 * L i7 + (v7 : Int) = (aj : Int) := by omega
              have hL70 := hL7.1
              have hL71 : L i7 ≤ 1024 := by omega
              clear hv7 had1 hV hc1 hlen hL7 hyc hyb hzz
              generalize L i7 = g7 at *
              generalize th.cnt j = cj at *
              generalize L 0 = gg at *
              have HXC0 : Hid (w.cell? ⟨xb, xo + i7, none⟩ = some (.int .i64 g7) ∧ w.cell? ⟨xb, xo, none⟩ = some (.int .i64 gg)) := ⟨cg7, cg0⟩
              clear cg7 cg0
              go_wp2_with fail
              refine (CP.out _).mono ?_
              rintro e w3 ⟨rfl, K3⟩
              have HMw : Hid (Mo U w3.drew b M n' sb1 tb (ovr (wrt fw N) ad th.V j) q (ShS.new n0.toNat n6.toNat)) := hw.out.still (K3.trans (Kept.refl _).drew)
              have HXC : Hid (w.cell? ⟨xb, xo + i7, none⟩ = some (.int .i64 g7) ∧ w.cell? ⟨xb, xo, none⟩ = some (.int .i64 gg)) := HXC0.out
              clear hw K3 CP s0 s1 cr0 cy HXC0
              go_wp2_with fail
              refine wp_region_phase [(.pointer (some ⟨M, 0, none⟩)), (.slice (some ⟨xb, xo, none⟩) l cc), (.int .i64 (i7 : Int)), (.pointer (some ⟨xb, xo + i7, none⟩)), (.int .i64 g7), (.int .i64 (8 * g7)), (.int .i64 (v7 : Int)), (.int .i64 (aj : Int)), (.slice (some ⟨xb, xo, none⟩) l cc), (.pointer (some ⟨xb, xo, none⟩)), (.int .i64 gg), (.complex .f64 zz.re zz.im), (.int .i64 0)] [(147, 0), (148, 1), (149, 2), (150, 3), (151, 4), (152, 5), (153, 6), (154, 7), (155, 8), (156, 9), (157, 10), (158, 11), (159, 12)] [_, _, _, _, _, _, _, _, _, _, _, _, _, _, _, _, _, _, _, _, _, _, _, _, _, _, _, _, _, _, _, _, _, _, _, _, _, _, _, _, _, _, _, _, _, _, _, _, _, _, _, _, _, _, _, _, _, _, _, _, _, _, _, _, _, _, _, _, _, _, _, _, _, _, _, _, _, _, _, _, _, _, _, _, _, _, _, _, _, _, _, _, _, _, _, _, _, _, _, _, _, _, _, _, _, _, _, _, _, _, _, _, _, _, _, _, _, _, _, _, _, _, _, _, _, _, _, _, _, _, _, _, _, _, _, _, _, _, _, _, _, _, _, _, _, _, _, _, _, _, _, _, _, _, _, _, _, _, _, _, _, _, _, _, _, _, _, _, _, _, _, _, _, _, _, _, _, _, _, _, _, _, _, _, _, _, _, _, _, _, _, _, _, _, _, _, _, _] (fun d u => Mo U u b M n' sb1 tb (ovr (wrt fw N) ad th.V (if d 12 then j + 1 else j)) (if d 12 then q + 1 else q) (ShS.new n0.toNat n6.toNat)) (by kernel_rfl) (by kernel_rfl) (by kernel_rfl) (by kernel_rfl) rfl ?_ ?_ ?_
              · exact (by simpa using HMw.out)
              · intro i1 o ho a1 d u hh hj hi hd
                match i1, ho, hi, hd with
                | 0, ho, hi, hd =>
                  simp only [List.getElem?_cons_zero, Option.some.injEq] at ho
                  subst ho
                  have g13 : a1.tmps[13]? = some (.pointer (some ⟨M, 0, none⟩)) := hh.old 13 (by kernel_rfl) rfl
                  clear hh hd
                  have HN : Hid (Mo U u b M n' sb1 tb (ovr (wrt fw N) ad th.V (if done d 0 12 then j + 1 else j)) (if done d 0 12 then q + 1 else q) (ShS.new n0.toNat n6.toNat)) := (by simpa [done] using hj : Mo U u b M n' sb1 tb (ovr (wrt fw N) ad th.V (if done d 0 12 then j + 1 else j)) (if done d 0 12 then q + 1 else q) (ShS.new n0.toNat n6.toNat))
                  clear hj hi
                  refine wpOp_step rfl (fun K hK => ?_)
                  go_simp
                  exact hK _ _ ⟨by simp [Act.put], HN.out⟩
                | 1, ho, hi, hd =>
                  simp only [List.getElem?_cons_succ, List.getElem?_cons_zero, Option.some.injEq] at ho
                  subst ho
                  have g2 : a1.tmps[2]? = some (.slice (some ⟨xb, xo, none⟩) l cc) := hh.old 2 (by kernel_rfl) rfl
                  clear hh hd
                  have HN : Hid (Mo U u b M n' sb1 tb (ovr (wrt fw N) ad th.V (if done d 1 12 then j + 1 else j)) (if done d 1 12 then q + 1 else q) (ShS.new n0.toNat n6.toNat)) := (by simpa [done] using hj : Mo U u b M n' sb1 tb (ovr (wrt fw N) ad th.V (if done d 1 12 then j + 1 else j)) (if done d 1 12 then q + 1 else q) (ShS.new n0.toNat n6.toNat))
                  clear hj hi
                  refine wpOp_step rfl (fun K hK => ?_)
                  go_simp
                  exact hK _ _ ⟨by simp [Act.put], HN.out⟩
                | 2, ho, hi, hd =>
                  simp only [List.getElem?_cons_succ, List.getElem?_cons_zero, Option.some.injEq] at ho
                  subst ho
                  have g19 : a1.tmps[19]? = some (.int .i64 (i7 : Int)) := hh.old 19 (by kernel_rfl) rfl
                  clear hh hd
                  have HN : Hid (Mo U u b M n' sb1 tb (ovr (wrt fw N) ad th.V (if done d 2 12 then j + 1 else j)) (if done d 2 12 then q + 1 else q) (ShS.new n0.toNat n6.toNat)) := (by simpa [done] using hj : Mo U u b M n' sb1 tb (ovr (wrt fw N) ad th.V (if done d 2 12 then j + 1 else j)) (if done d 2 12 then q + 1 else q) (ShS.new n0.toNat n6.toNat))
                  clear hj hi
                  refine wpOp_step rfl (fun K hK => ?_)
                  go_simp
                  exact hK _ _ ⟨by simp [Act.put], HN.out⟩
                | 3, ho, hi, hd =>
                  simp only [List.getElem?_cons_succ, List.getElem?_cons_zero, Option.some.injEq] at ho
                  subst ho
                  have g148 : a1.tmps[148]? = some (.slice (some ⟨xb, xo, none⟩) l cc) := hh.did 1 _ 148 rfl rfl (hd { on := 1, ground := .data } (by simp) rfl)
                  have g149 : a1.tmps[149]? = some (.int .i64 (i7 : Int)) := hh.did 2 _ 149 rfl rfl (hd { on := 2, ground := .data } (by simp) rfl)
                  clear hh hd
                  have HN : Hid (Mo U u b M n' sb1 tb (ovr (wrt fw N) ad th.V (if done d 3 12 then j + 1 else j)) (if done d 3 12 then q + 1 else q) (ShS.new n0.toNat n6.toNat)) := (by simpa [done] using hj : Mo U u b M n' sb1 tb (ovr (wrt fw N) ad th.V (if done d 3 12 then j + 1 else j)) (if done d 3 12 then q + 1 else q) (ShS.new n0.toNat n6.toNat))
                  clear hj hi
                  refine wpOp_step rfl (fun K hK => ?_)
                  go_simp
                  exact hK _ _ ⟨by simp [Act.put], HN.out⟩
                | 4, ho, hi, hd =>
                  simp only [List.getElem?_cons_succ, List.getElem?_cons_zero, Option.some.injEq] at ho
                  subst ho
                  have g150 : a1.tmps[150]? = some (.pointer (some ⟨xb, xo + i7, none⟩)) := hh.did 3 _ 150 rfl rfl (hd { on := 3, ground := .data } (by simp) rfl)
                  have ca : u.cell? ⟨xb, xo + i7, none⟩ = some (.int .i64 g7) := ((HU7.out.1.trans hj.kept).cell HX.out.1).trans HXC.out.1
                  clear hh hd
                  have HN : Hid (Mo U u b M n' sb1 tb (ovr (wrt fw N) ad th.V (if done d 4 12 then j + 1 else j)) (if done d 4 12 then q + 1 else q) (ShS.new n0.toNat n6.toNat)) := (by simpa [done] using hj : Mo U u b M n' sb1 tb (ovr (wrt fw N) ad th.V (if done d 4 12 then j + 1 else j)) (if done d 4 12 then q + 1 else q) (ShS.new n0.toNat n6.toNat))
                  clear hj hi
                  refine wpOp_step rfl (fun K hK => ?_)
                  go_simp
                  exact hK _ _ ⟨by simp [Act.put], HN.out⟩
                | 5, ho, hi, hd =>
                  simp only [List.getElem?_cons_succ, List.getElem?_cons_zero, Option.some.injEq] at ho
                  subst ho
                  have g151 : a1.tmps[151]? = some (.int .i64 g7) := hh.did 4 _ 151 rfl rfl (hd { on := 4, ground := .data } (by simp) rfl)
                  have e5 : IntKind.i64.wrap (8 * g7) = 8 * g7 := IntWalk.i64_in _ (by omega)
                  clear hh hd
                  have HN : Hid (Mo U u b M n' sb1 tb (ovr (wrt fw N) ad th.V (if done d 5 12 then j + 1 else j)) (if done d 5 12 then q + 1 else q) (ShS.new n0.toNat n6.toNat)) := (by simpa [done] using hj : Mo U u b M n' sb1 tb (ovr (wrt fw N) ad th.V (if done d 5 12 then j + 1 else j)) (if done d 5 12 then q + 1 else q) (ShS.new n0.toNat n6.toNat))
                  clear hj hi
                  refine wpOp_step rfl (fun K hK => ?_)
                  go_simp
                  exact hK _ _ ⟨by simp [Act.put], HN.out⟩
                | 6, ho, hi, hd =>
                  simp only [List.getElem?_cons_succ, List.getElem?_cons_zero, Option.some.injEq] at ho
                  subst ho
                  have g20 : a1.tmps[20]? = some (.int .i64 (v7 : Int)) := hh.old 20 (by kernel_rfl) rfl
                  clear hh hd
                  have HN : Hid (Mo U u b M n' sb1 tb (ovr (wrt fw N) ad th.V (if done d 6 12 then j + 1 else j)) (if done d 6 12 then q + 1 else q) (ShS.new n0.toNat n6.toNat)) := (by simpa [done] using hj : Mo U u b M n' sb1 tb (ovr (wrt fw N) ad th.V (if done d 6 12 then j + 1 else j)) (if done d 6 12 then q + 1 else q) (ShS.new n0.toNat n6.toNat))
                  clear hj hi
                  refine wpOp_step rfl (fun K hK => ?_)
                  go_simp
                  exact hK _ _ ⟨by simp [Act.put], HN.out⟩
                | 7, ho, hi, hd =>
                  simp only [List.getElem?_cons_succ, List.getElem?_cons_zero, Option.some.injEq] at ho
                  subst ho
                  have g152 : a1.tmps[152]? = some (.int .i64 (8 * g7)) := hh.did 5 _ 152 rfl rfl (hd { on := 5, ground := .data } (by simp) rfl)
                  have g153 : a1.tmps[153]? = some (.int .i64 (v7 : Int)) := hh.did 6 _ 153 rfl rfl (hd { on := 6, ground := .data } (by simp) rfl)
                  have e7 : IntKind.i64.wrap (8 * g7 + (v7 : Int)) = (aj : Int) := by rw [eA]; exact IntWalk.i64_in _ (by omega)
                  clear eA
                  clear hh hd
                  have HN : Hid (Mo U u b M n' sb1 tb (ovr (wrt fw N) ad th.V (if done d 7 12 then j + 1 else j)) (if done d 7 12 then q + 1 else q) (ShS.new n0.toNat n6.toNat)) := (by simpa [done] using hj : Mo U u b M n' sb1 tb (ovr (wrt fw N) ad th.V (if done d 7 12 then j + 1 else j)) (if done d 7 12 then q + 1 else q) (ShS.new n0.toNat n6.toNat))
                  clear hj hi
                  refine wpOp_step rfl (fun K hK => ?_)
                  go_simp
                  exact hK _ _ ⟨by simp [Act.put], HN.out⟩
                | 8, ho, hi, hd =>
                  simp only [List.getElem?_cons_succ, List.getElem?_cons_zero, Option.some.injEq] at ho
                  subst ho
                  have g2 : a1.tmps[2]? = some (.slice (some ⟨xb, xo, none⟩) l cc) := hh.old 2 (by kernel_rfl) rfl
                  clear hh hd
                  have HN : Hid (Mo U u b M n' sb1 tb (ovr (wrt fw N) ad th.V (if done d 8 12 then j + 1 else j)) (if done d 8 12 then q + 1 else q) (ShS.new n0.toNat n6.toNat)) := (by simpa [done] using hj : Mo U u b M n' sb1 tb (ovr (wrt fw N) ad th.V (if done d 8 12 then j + 1 else j)) (if done d 8 12 then q + 1 else q) (ShS.new n0.toNat n6.toNat))
                  clear hj hi
                  refine wpOp_step rfl (fun K hK => ?_)
                  go_simp
                  exact hK _ _ ⟨by simp [Act.put], HN.out⟩
                | 9, ho, hi, hd =>
                  simp only [List.getElem?_cons_succ, List.getElem?_cons_zero, Option.some.injEq] at ho
                  subst ho
                  have g155 : a1.tmps[155]? = some (.slice (some ⟨xb, xo, none⟩) l cc) := hh.did 8 _ 155 rfl rfl (hd { on := 8, ground := .data } (by simp) rfl)
                  clear hh hd
                  have HN : Hid (Mo U u b M n' sb1 tb (ovr (wrt fw N) ad th.V (if done d 9 12 then j + 1 else j)) (if done d 9 12 then q + 1 else q) (ShS.new n0.toNat n6.toNat)) := (by simpa [done] using hj : Mo U u b M n' sb1 tb (ovr (wrt fw N) ad th.V (if done d 9 12 then j + 1 else j)) (if done d 9 12 then q + 1 else q) (ShS.new n0.toNat n6.toNat))
                  clear hj hi
                  refine wpOp_step rfl (fun K hK => ?_)
                  go_simp
                  exact hK _ _ ⟨by simp [Act.put], HN.out⟩
                | 10, ho, hi, hd =>
                  simp only [List.getElem?_cons_succ, List.getElem?_cons_zero, Option.some.injEq] at ho
                  subst ho
                  have g156 : a1.tmps[156]? = some (.pointer (some ⟨xb, xo, none⟩)) := hh.did 9 _ 156 rfl rfl (hd { on := 9, ground := .data } (by simp) rfl)
                  have cb : u.cell? ⟨xb, xo, none⟩ = some (.int .i64 gg) := ((HU7.out.1.trans hj.kept).cell HX.out.1).trans HXC.out.2
                  clear hh hd
                  have HN : Hid (Mo U u b M n' sb1 tb (ovr (wrt fw N) ad th.V (if done d 10 12 then j + 1 else j)) (if done d 10 12 then q + 1 else q) (ShS.new n0.toNat n6.toNat)) := (by simpa [done] using hj : Mo U u b M n' sb1 tb (ovr (wrt fw N) ad th.V (if done d 10 12 then j + 1 else j)) (if done d 10 12 then q + 1 else q) (ShS.new n0.toNat n6.toNat))
                  clear hj hi
                  refine wpOp_step rfl (fun K hK => ?_)
                  go_simp
                  exact hK _ _ ⟨by simp [Act.put], HN.out⟩
                | 11, ho, hi, hd =>
                  simp only [List.getElem?_cons_succ, List.getElem?_cons_zero, Option.some.injEq] at ho
                  subst ho
                  have g157 : a1.tmps[157]? = some (.int .i64 gg) := hh.did 10 _ 157 rfl rfl (hd { on := 10, ground := .data } (by simp) rfl)
                  have CA := CR.out u
                  clear hh hd
                  have HN : Hid (Mo U u b M n' sb1 tb (ovr (wrt fw N) ad th.V (if done d 11 12 then j + 1 else j)) (if done d 11 12 then q + 1 else q) (ShS.new n0.toNat n6.toNat)) := (by simpa [done] using hj : Mo U u b M n' sb1 tb (ovr (wrt fw N) ad th.V (if done d 11 12 then j + 1 else j)) (if done d 11 12 then q + 1 else q) (ShS.new n0.toNat n6.toNat))
                  clear hj hi
                  refine wpOp_step rfl (fun K hK => ?_)
                  go_simp
                  refine CA.mono ?_
                  rintro e u' ⟨rfl, rfl⟩
                  exact hK _ _ ⟨by simp [Act.put], HN.out⟩
                | 12, ho, hi, hd =>
                  simp only [List.getElem?_cons_succ, List.getElem?_cons_zero, Option.some.injEq] at ho
                  subst ho
                  have g147 : a1.tmps[147]? = some (.pointer (some ⟨M, 0, none⟩)) := hh.did 0 _ 147 rfl rfl (hd { on := 0, ground := .data } (by simp) rfl)
                  have g154 : a1.tmps[154]? = some (.int .i64 (aj : Int)) := hh.did 7 _ 154 rfl rfl (hd { on := 7, ground := .data } (by simp) rfl)
                  have g158 : a1.tmps[158]? = some (.complex .f64 zz.re zz.im) := hh.did 11 _ 158 rfl rfl (hd { on := 11, ground := .data } (by simp) rfl)
                  have CA := HWV.out u (by have B := hj; simp only [hi, Bool.false_eq_true, if_false] at B; exact B)
                  clear hh hd
                  have HN : Hid (∀ u', Mo U u' b M n' sb1 tb (ovr (wrt fw N) ad th.V (j + 1)) (q + 1) (ShS.new n0.toNat n6.toNat) → Mo U u' b M n' sb1 tb (ovr (wrt fw N) ad th.V (if done d 12 12 then j + 1 else j)) (if done d 12 12 then q + 1 else q) (ShS.new n0.toNat n6.toNat)) := fun u' x => by simpa [done] using x
                  clear hj hi
                  refine wpOp_step rfl (fun K hK => ?_)
                  go_simp
                  refine CA.mono ?_
                  rintro e u' ⟨rfl, x, _⟩
                  exact hK _ _ ⟨by simp [Act.put], HN.out u' x⟩
                | n + 13, ho, hi, hd => simp at ho
              · intro u d hall hj
                have HN : Hid (Mo U u b M n' sb1 tb (ovr (wrt fw N) ad th.V (j + 1)) (q + 1) (ShS.new n0.toNat n6.toNat)) := by
                  have B := hj
                  rw [hall 12 (by decide)] at B
                  exact B
                clear hj hall
                go_wp2
                go_roundg (fl - (j + 1))
                case measure => have := HMj.out; omega
                case rel => exact ⟨j + 1, q + 1, by go_num, by omega, by omega, by omega, by rw [HC1.out]; go_num, HN⟩
            · have hV : th.V j = none := by
                rw [HTH.out.2.2.2.1, if_neg (fun r => hB r.2)]
              have hc1 : th.cnt (j + 1) = th.cnt j + 1 := by simp [Th.cnt, Th.one, HTH.out.1, hRj, hV]
              have HN : Hid (Mo U wA b M n' sb1 tb (ovr (wrt fw N) ad th.V (j + 1)) q (ShS.new n0.toNat n6.toNat)) := by rw [ovr_none hV]; exact hw.out
              have HC1 : Hid (th.cnt (j + 1) = th.cnt j + 1) := hc1
              clear hV hc1
              by_cases hB1 : j < yl
              · obtain ⟨yb, yo, rfl, hyb, hyc⟩ := HY.out (by omega)
                have cy := (hKw.cell hyb).trans (hyc j hB1)
                have hB2 : RB j = false := by
                  cases e : RB j
                  · rfl
                  · exact absurd ⟨hB1, e⟩ hB
                rw [hB2] at cy
                clear hB hB2 hw hKw hyc
                generalize th.cnt j = cj at *
                go_wp2
                go_roundg (fl - (j + 1))
                case measure => have := HMj.out; omega
                case rel => exact ⟨j + 1, q, by go_num, by omega, by omega, by omega, by rw [HC1.out]; go_num, HN⟩
              · clear hB hw hKw
                generalize th.cnt j = cj at *
                go_wp2
                go_roundg (fl - (j + 1))
                case measure => have := HMj.out; omega
                case rel => exact ⟨j + 1, q, by go_num, by omega, by omega, by omega, by rw [HC1.out]; go_num, HN⟩
        · obtain rfl : fl = j := by omega
          clear hlt HMj
          have HKV : Hid (Kept w wA) := HU7.out.1.trans hw.out.kept
          have HCB : Hid (Blk wA w.heap.size (cl n0 n1 n2 n3 n4 n5 n6 n7 (.slice sx sl sc))) := HU7.out.2.1.kept hw.out.kept
          have HMo : Hid (Mo U wA b M n' sb1 tb (ovr (wrt fw N) ad th.V fl) q (ShS.new n0.toNat n6.toNat)) := hw.out
          have CN : Hid (∀ u, Kept wA u → Calls Tryz.prog 20 #[.agg #[.int .i64 n0, .int .i64 n1, .int .i64 n2, .int .i64 n3, .int .i64 n4, .int .i64 n5, .int .i64 n6, .int .i64 n7, .slice sx sl sc], .int .i64 (L 0), .bool true] u _) := fun u z => trace_newf n0 n1 n2 n3 n4 n5 n6 n7 sx sl sc S R (L 0) wA u z (HSR.out.1.kept (HKV.out.trans z)) (fun i hi => (HSR.out.2.1 i hi).kept (HKV.out.trans z)) HSR.out.2.2.1 HSR.out.2.2.2
          clear hw
          have hcb := HCB.out
          have c0 := hcb.at 0 rfl
          have c1 := hcb.at 1 rfl
          have c2 := hcb.at 2 rfl
          have c3 := hcb.at 3 rfl
          have c4 := hcb.at 4 rfl
          have c5 := hcb.at 5 rfl
          have c6 := hcb.at 6 rfl
          have c7 := hcb.at 7 rfl
          have c8 := hcb.at 8 rfl
          obtain ⟨cF, hcF⟩ : ∃ cF : Nat, th.cnt fl = cF := ⟨_, rfl⟩
          have HCF : Hid (th.cnt fl = cF) := hcF
          have hcF2 : cF ≤ 80 := by rw [← hcF]; have := th.cnt_le fl; omega
          rw [hcF]
          clear hcF
          go_wp2_with fail
          clear hcb s0 s1 c0 c1 c2 c3 c4 c5 c6 c7 c8
          refine wp_region_mix [undef, undef, undef, undef, undef, undef] [(22, 5), (160, 0), (161, 1), (162, 2), (163, 3), (164, 4)] (fun d vals u => MJ (fun q1 => match q1 with | 0 => some (.agg #[.int .i64 n0, .int .i64 n1, .int .i64 n2, .int .i64 n3, .int .i64 n4, .int .i64 n5, .int .i64 n6, .int .i64 n7, .slice sx sl sc]) | 1 => some (.slice (some ⟨xb, xo, none⟩) l cc) | 2 => some (.pointer (some ⟨xb, xo, none⟩)) | 3 => some (.int .i64 (L 0)) | _ => none) 4 5 (fun u => Kept wA u) (fun v u => Newf wA (td0 (L 0) true) n0 n1 sl S R v u) d vals u) (by kernel_rfl) (by kernel_rfl) (by kernel_rfl) (by kernel_rfl) rfl ?_ ?_ ?_
          · exact ⟨fun _ _ _ h => absurd h (by simp), fun _ => (Kept.refl _).drew, fun h => absurd h (by simp), fun h => absurd h (by simp)⟩
          · intro i1 o ho a1 d vals u hv0 hh hj hi hd
            have hv : vals.length = 6 := hv0
            have hKR : Kept wA u := by
              cases hq : d 4
              · exact hj.bf hq
              · exact (hj.af hq).1
            match i1, ho, hi, hd with
            | 0, ho, hi, hd =>
              simp only [List.getElem?_cons_zero, Option.some.injEq] at ho
              subst ho
              have g4 : a1.tmps[4]? = some (.pointer (some ⟨w.heap.size, 0, none⟩)) := hh.old 4 (by kernel_rfl) rfl
              have B := HCB.out.kept hKR
              have c0 := B.at 0 rfl
              have c1 := B.at 1 rfl
              have c2 := B.at 2 rfl
              have c3 := B.at 3 rfl
              have c4 := B.at 4 rfl
              have c5 := B.at 5 rfl
              have c6 := B.at 6 rfl
              have c7 := B.at 7 rfl
              have c8 := B.at 8 rfl
              clear B
              have HN : Hid (MJ (fun q1 => match q1 with | 0 => some (.agg #[.int .i64 n0, .int .i64 n1, .int .i64 n2, .int .i64 n3, .int .i64 n4, .int .i64 n5, .int .i64 n6, .int .i64 n7, .slice sx sl sc]) | 1 => some (.slice (some ⟨xb, xo, none⟩) l cc) | 2 => some (.pointer (some ⟨xb, xo, none⟩)) | 3 => some (.int .i64 (L 0)) | _ => none) 4 5 (fun u => Kept wA u) (fun v u => Newf wA (td0 (L 0) true) n0 n1 sl S R v u) (done d 0) (vals.set 0 (.agg #[.int .i64 n0, .int .i64 n1, .int .i64 n2, .int .i64 n3, .int .i64 n4, .int .i64 n5, .int .i64 n6, .int .i64 n7, .slice sx sl sc])) u) := hj.plain 0 _ (by omega) (by decide) (by decide) rfl
              clear hh hd hj hi hKR
              refine wpOp_step rfl (fun K hK => ?_)
              go_simp
              exact hK _ _ ⟨_, by simp [Act.put], HN.out⟩
            | 1, ho, hi, hd =>
              simp only [List.getElem?_cons_succ, List.getElem?_cons_zero, Option.some.injEq] at ho
              subst ho
              have g2 : a1.tmps[2]? = some (.slice (some ⟨xb, xo, none⟩) l cc) := hh.old 2 (by kernel_rfl) rfl
              have HN : Hid (MJ (fun q1 => match q1 with | 0 => some (.agg #[.int .i64 n0, .int .i64 n1, .int .i64 n2, .int .i64 n3, .int .i64 n4, .int .i64 n5, .int .i64 n6, .int .i64 n7, .slice sx sl sc]) | 1 => some (.slice (some ⟨xb, xo, none⟩) l cc) | 2 => some (.pointer (some ⟨xb, xo, none⟩)) | 3 => some (.int .i64 (L 0)) | _ => none) 4 5 (fun u => Kept wA u) (fun v u => Newf wA (td0 (L 0) true) n0 n1 sl S R v u) (done d 1) (vals.set 1 (.slice (some ⟨xb, xo, none⟩) l cc)) u) := hj.plain 1 _ (by omega) (by decide) (by decide) rfl
              clear hh hd hj hi hKR
              refine wpOp_step rfl (fun K hK => ?_)
              go_simp
              exact hK _ _ ⟨_, by simp [Act.put], HN.out⟩
            | 2, ho, hi, hd =>
              simp only [List.getElem?_cons_succ, List.getElem?_cons_zero, Option.some.injEq] at ho
              subst ho
              have g161 : a1.tmps[161]? = some (.slice (some ⟨xb, xo, none⟩) l cc) := (hh.did 1 _ 161 rfl rfl (hd { on := 1, ground := .data } (by simp) rfl)).trans (congrArg some (hj.kn 1 _ rfl (hd { on := 1, ground := .data } (by simp) rfl)))
              have HN : Hid (MJ (fun q1 => match q1 with | 0 => some (.agg #[.int .i64 n0, .int .i64 n1, .int .i64 n2, .int .i64 n3, .int .i64 n4, .int .i64 n5, .int .i64 n6, .int .i64 n7, .slice sx sl sc]) | 1 => some (.slice (some ⟨xb, xo, none⟩) l cc) | 2 => some (.pointer (some ⟨xb, xo, none⟩)) | 3 => some (.int .i64 (L 0)) | _ => none) 4 5 (fun u => Kept wA u) (fun v u => Newf wA (td0 (L 0) true) n0 n1 sl S R v u) (done d 2) (vals.set 2 (.pointer (some ⟨xb, xo, none⟩))) u) := hj.plain 2 _ (by omega) (by decide) (by decide) rfl
              clear hh hd hj hi hKR
              refine wpOp_step rfl (fun K hK => ?_)
              go_simp
              exact hK _ _ ⟨_, by simp [Act.put], HN.out⟩
            | 3, ho, hi, hd =>
              simp only [List.getElem?_cons_succ, List.getElem?_cons_zero, Option.some.injEq] at ho
              subst ho
              have g162 : a1.tmps[162]? = some (.pointer (some ⟨xb, xo, none⟩)) := (hh.did 2 _ 162 rfl rfl (hd { on := 2, ground := .data } (by simp) rfl)).trans (congrArg some (hj.kn 2 _ rfl (hd { on := 2, ground := .data } (by simp) rfl)))
              have cg : u.cell? ⟨xb, xo, none⟩ = some (.int .i64 (L 0)) := ((HKV.out.trans hKR).cell HX.out.1).trans (HX.out.2 0 (by omega))
              have HN : Hid (MJ (fun q1 => match q1 with | 0 => some (.agg #[.int .i64 n0, .int .i64 n1, .int .i64 n2, .int .i64 n3, .int .i64 n4, .int .i64 n5, .int .i64 n6, .int .i64 n7, .slice sx sl sc]) | 1 => some (.slice (some ⟨xb, xo, none⟩) l cc) | 2 => some (.pointer (some ⟨xb, xo, none⟩)) | 3 => some (.int .i64 (L 0)) | _ => none) 4 5 (fun u => Kept wA u) (fun v u => Newf wA (td0 (L 0) true) n0 n1 sl S R v u) (done d 3) (vals.set 3 (.int .i64 (L 0))) u) := hj.plain 3 _ (by omega) (by decide) (by decide) rfl
              clear hh hd hj hi hKR
              refine wpOp_step rfl (fun K hK => ?_)
              go_simp
              exact hK _ _ ⟨_, by simp [Act.put], HN.out⟩
            | 4, ho, hi, hd =>
              simp only [List.getElem?_cons_succ, List.getElem?_cons_zero, Option.some.injEq] at ho
              subst ho
              have g160 : a1.tmps[160]? = some (.agg #[.int .i64 n0, .int .i64 n1, .int .i64 n2, .int .i64 n3, .int .i64 n4, .int .i64 n5, .int .i64 n6, .int .i64 n7, .slice sx sl sc]) := (hh.did 0 _ 160 rfl rfl (hd { on := 0, ground := .data } (by simp) rfl)).trans (congrArg some (hj.kn 0 _ rfl (hd { on := 0, ground := .data } (by simp) rfl)))
              have g163 : a1.tmps[163]? = some (.int .i64 (L 0)) := (hh.did 3 _ 163 rfl rfl (hd { on := 3, ground := .data } (by simp) rfl)).trans (congrArg some (hj.kn 3 _ rfl (hd { on := 3, ground := .data } (by simp) rfl)))
              have CA := CN.out u hKR
              have HN : Hid (∀ v' u', Newf wA (td0 (L 0) true) n0 n1 sl S R v' u' → MJ (fun q1 => match q1 with | 0 => some (.agg #[.int .i64 n0, .int .i64 n1, .int .i64 n2, .int .i64 n3, .int .i64 n4, .int .i64 n5, .int .i64 n6, .int .i64 n7, .slice sx sl sc]) | 1 => some (.slice (some ⟨xb, xo, none⟩) l cc) | 2 => some (.pointer (some ⟨xb, xo, none⟩)) | 3 => some (.int .i64 (L 0)) | _ => none) 4 5 (fun u => Kept wA u) (fun v u => Newf wA (td0 (L 0) true) n0 n1 sl S R v u) (done d 4) (vals.set 4 v') u') := fun v' u' q => hj.call (by omega) (by decide) hi rfl q
              clear hh hd hj hi hKR
              refine wpOp_step rfl (fun K hK => ?_)
              go_simp
              refine CA.mono ?_
              rintro e u' ⟨v', rfl, q1⟩
              exact hK _ _ ⟨v', by simp [Act.put], HN.out v' u' q1⟩
            | 5, ho, hi, hd =>
              simp only [List.getElem?_cons_succ, List.getElem?_cons_zero, Option.some.injEq] at ho
              subst ho
              have g164 : a1.tmps[164]? = some (vals.getD 4 undef) := hh.did 4 _ 164 rfl rfl (hd { on := 4, ground := .data } (by simp) rfl)
              have HN0 := hj.last (by omega) (by decide) (hd { on := 4, ground := .data } (by simp) rfl) (hd { on := 0, ground := .phase } (by simp) rfl) rfl
              obtain ⟨y, hy⟩ : ∃ y, vals.getD 4 undef = y := ⟨_, rfl⟩
              rw [hy] at HN0 g164
              have HN : Hid (MJ (fun q1 => match q1 with | 0 => some (.agg #[.int .i64 n0, .int .i64 n1, .int .i64 n2, .int .i64 n3, .int .i64 n4, .int .i64 n5, .int .i64 n6, .int .i64 n7, .slice sx sl sc]) | 1 => some (.slice (some ⟨xb, xo, none⟩) l cc) | 2 => some (.pointer (some ⟨xb, xo, none⟩)) | 3 => some (.int .i64 (L 0)) | _ => none) 4 5 (fun u => Kept wA u) (fun v u => Newf wA (td0 (L 0) true) n0 n1 sl S R v u) (done d 5) (vals.set 5 y) u) := HN0
              clear hh hd hj hi hKR HN0 hy
              refine wpOp_step rfl (fun K hK => ?_)
              go_simp
              exact hK _ _ ⟨y, by simp [Act.put], HN.out⟩
            | n + 6, ho, _, _ => simp at ho
          · intro u d vals hv hall hj
            have h9 := hj.af (hall 4 (by decide))
            have h10 := (hj.la (hall 5 (by decide))).2.1
            clear hall hj
            match vals, hv, h9, h10 with
            | [y0, y1, y2, y3, y4, y5], _, h9, h10 =>
              simp only [List.getD_cons_succ, List.getD_cons_zero] at h9 h10
              subst h10
              obtain ⟨K5, p, E, hy, hF5, hp5, hE5⟩ := h9
              subst hy
              refine norm_list' (L' := [_, _, _, _, _, _, _, _, _, _, _, _, _, _, _, _, _, _, _, _, _, _, _, _, _, _, _, _, _, _, _, _, _, _, _, _, _, _, _, _, _, _, _, _, _, _, _, _, _, _, _, _, _, _, _, _, _, _, _, _, _, _, _, _, _, _, _, _, _, _, _, _, _, _, _, _, _, _, _, _, _, _, _, _, _, _, _, _, _, _, _, _, _, _, _, _, _, _, _, _, _, _, _, _, _, _, _, _, _, _, _, _, _, _, _, _, _, _, _, _, _, _, _, _, _, _, _, _, _, _, _, _, _, _, _, _, _, _, _, _, _, _, _, _, _, _, _, _, _, _, _, _, _, _, _, _, _, _, _, _, _, _, _, _, _, _, _, _, _, _, _, _, _, _, _, _, _, _, _, _, _, _, _, _, _, _, _, _, _, _, _, _, _, _, _, _, _, _]) rfl ?_
              simp only [List.getD_cons_succ, List.getD_cons_zero]
              have hrun : Run U p b M n' sb1 tb (ovr (wrt fw N) ad th.V fl) E th true (fun _ _ _ => True) q 0 0 u := mo_run HMo.out (by rw [HTH.out.2.2.1]; exact hF5 _) hp5 K5 (Nat.le_refl _) trivial
              have HRN : Hid (Run U p b M n' sb1 tb (ovr (wrt fw N) ad th.V fl) E th true (fun _ _ _ => True) q 0 0 u) := hrun
              have HENV : Hid (Env E n' (ovr (wrt fw N) ad th.V fl) k hm' th) := HEV.out E hE5
              clear hrun hF5 hp5 hE5 K5 HMo CN HCB HKV
              have HJK : Hid (Jok th true (fun _ _ _ => True)) := ⟨fun _ _ _ _ _ _ => trivial, fun _ _ _ _ _ _ _ _ => trivial, fun _ _ _ _ _ _ => trivial⟩
              have HQC : Hid (q ≤ 50000 ∧ 0 ≤ 50000) := ⟨by omega, by decide⟩
              obtain ⟨T, hT⟩ : ∃ T, th.all = T := ⟨_, rfl⟩
              have HT : Hid (th.all = T) := hT
              have hTl : T ≤ 2000 := by rw [← hT]; exact HTH.out.2.2.2.2.2.1
              have HALL : Hid ((T : Int) = 1 + 2 * ((l : Int) - 1) + cF) := by show (T : Int) = _; rw [← hT, HTH.out.2.2.2.2.1, HCF.out]
              clear hT
              go_wp2_with fail
              go_loopg [23] T (fun m i wr => ∃ t : Nat, i = .int .i64 t ∧ t ≤ T ∧ m = T - t ∧ Hid (Run U p b M n' sb1 tb (ovr (wrt fw N) ad th.V fl) E th true (fun _ _ _ => True) q 0 t wr))
              case atStart => exact ⟨0, rfl, by omega, by omega, HRN.out⟩
              case round =>
                obtain ⟨t, rfl, ht, hm, hw⟩ := hrel
                have HM : Hid _ := hm
                clear hm
                by_cases hlt : t < T
                · have h10 : (t : Int) < 2 * (1 + 2 * ((l : Int) - 1) + cF) := by have := HALL.out; omega
                  have e1 : decide (t = th.all) = false := by rw [HT.out]; simp; omega
                  have CG : Hid (Calls Tryz.prog 22 #[.pointer (some ⟨p, 0, none⟩), .pointer (some ⟨M, 0, none⟩), .pointer (some ⟨sb1, 0, none⟩)] wr _) := run_go HENV.out HJK.out wr hw.out (by rw [HT.out]; omega) HQC.out.1 HQC.out.2
                  go_wp2_with fail
                  refine (run_done _ hw.out).mono ?_
                  rintro e w4 ⟨rfl, rfl⟩
                  rw [e1]
                  clear hw e1
                  go_wp2_with fail
                  refine CG.out.mono ?_
                  rintro e w5 ⟨rfl, HR⟩
                  have HN : Hid (Run U p b M n' sb1 tb (ovr (wrt fw N) ad th.V fl) E th true (fun _ _ _ => True) q 0 (t + 1) w5) := HR
                  clear HR CG
                  go_wp2
                  go_roundg (T - (t + 1))
                  case measure => have := HM.out; omega
                  case rel => exact ⟨t + 1, by go_num, by omega, by omega, HN⟩
                · obtain rfl : T = t := by omega
                  have h10 : (T : Int) < 2 * (1 + 2 * ((l : Int) - 1) + cF) := by have := HALL.out; omega
                  have e1 : decide (T = th.all) = true := by rw [HT.out]; simp
                  go_wp2_with fail
                  refine (run_done _ hw.out).mono ?_
                  rintro e w4 ⟨rfl, rfl⟩
                  rw [e1]
                  have HW4 : Hid (Run U p b M n' sb1 tb (ovr (wrt fw N) ad th.V fl) E th true (fun _ _ _ => True) q 0 th.all w4) := by rw [HT.out]; exact hw.out
                  clear hw HM hlt ht e1 HRN
                  go_wp2_with fail
                  refine (first_any _).mono ?_
                  rintro e w6 ⟨rfl, K6⟩
                  obtain ⟨d6, S6, q6, hA6, hsp6, _, _, hs6⟩ := HW4.out
                  have CD : Hid (Calls Tryz.prog 21 #[.pointer (some ⟨p, 0, none⟩)] w6 fun e w' => e = .returned (.bool true) ∧ w' = w6) := tdone_is true w6 (hA6.ts.kept K6) (by rw [hs6.all.1, hsp6]; simp)
                  have CST : Hid (Calls Tryz.prog 25 #[.pointer (some ⟨p, 0, none⟩)] w6 fun e w' => e = .returned (.int .i64 (1 + 2 * ((l : Int) - 1) + cF)) ∧ w' = w6) := by
                    have := tsteps_is w6 (hA6.ts.kept K6)
                    rw [hsp6, HTH.out.2.2.2.2.1, HCF.out] at this
                    exact this
                  have CE : Hid (Calls Tryz.prog 24 #[.pointer (some ⟨p, 0, none⟩)] w6 fun e w' => e = .returned (.int .i64 0) ∧ w' = w6) := by
                    have h1 := hs6.all
                    rw [hsp6, decide_eq_true rfl] at h1
                    have := terrno_is w6 (hA6.ts.kept K6)
                    rw [(h1.2.2 h1.1).1] at this
                    exact this
                  have HK9 : Hid (Kept w w6) := (HU7.out.1.trans hA6.kept).trans K6
                  clear hA6 hsp6 hs6 K6 HW4
                  go_wp2_with fail
                  refine CD.out.mono ?_
                  rintro e w7 ⟨rfl, rfl⟩
                  go_wp2_with fail
                  refine CST.out.mono ?_
                  rintro e w8 ⟨rfl, rfl⟩
                  go_wp2_with fail
                  refine CE.out.mono ?_
                  rintro e w9 ⟨rfl, rfl⟩
                  clear CD CST CE
                  go_wp2
                  go_ret
                  exact ⟨rfl, HK9.out⟩
end Go.Proofs.YtpdclckgnajcdaaGreat
