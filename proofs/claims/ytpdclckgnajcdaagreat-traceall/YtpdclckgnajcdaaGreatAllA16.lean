/-
  The ways of TraceAll that lead to no trace.
-/
import Derived.Test.YtpdclckgnajcdaaGreatFirst16
import Derived.Test.YtpdclckgnajcdaaGreatRefP16
import Derived.Test.YtpdclckgnajcdaaGreatFew12
import Derived.Test.YtpdclckgnajcdaaGreatOvr16
namespace Go.Proofs.YtpdclckgnajcdaaGreat
open Go.RowKit

set_option maxRecDepth 20000 in
set_option maxHeartbeats 4000000 in
theorem all_out (n0 n1 n2 n3 n4 n5 n6 n7 : Int) (sx : Option Addr) (sl sc : Nat) (S : Nat → Sh) (kind : Int) (n : Int) (x : Option Addr) (l c : Nat) (at' : Int) (y : Option Addr) (yl yc : Nat) (w : World) (hS : Shps w sx sl S) (hk : kind < 0 ∨ (sl : Int) ≤ kind) :
    Calls Tryz.prog 3 #[.agg #[.int .i64 n0, .int .i64 n1, .int .i64 n2, .int .i64 n3, .int .i64 n4, .int .i64 n5, .int .i64 n6, .int .i64 n7, .slice sx sl sc], .int .i64 kind, .int .i64 n, .slice x l c, .int .i64 at', .slice y yl yc] w fun e w' => e = .returned (.bool true) ∧ Kept w w' := by
  obtain ⟨p, hp⟩ := bool_iff (Small sl S)
  obtain ⟨r, hr, _⟩ := Checks.some n0 n1 n2 n3 n4 n5 n6 n7 sl S
  have CF : Hid (∀ w', Kept w w' → Calls Tryz.prog 9 #[.agg #[.int .i64 n0, .int .i64 n1, .int .i64 n2, .int .i64 n3, .int .i64 n4, .int .i64 n5, .int .i64 n6, .int .i64 n7, .slice sx sl sc]] w' _) := fun w' k => few_any n0 n1 n2 n3 n4 n5 n6 n7 sx sl sc S p w' (hS.kept k) hp
  have CK : Hid (∀ w', Kept w w' → Calls Tryz.prog 8 #[.agg #[.int .i64 n0, .int .i64 n1, .int .i64 n2, .int .i64 n3, .int .i64 n4, .int .i64 n5, .int .i64 n6, .int .i64 n7, .slice sx sl sc]] w' _) := fun w' q => ref_check n0 n1 n2 n3 n4 n5 n6 n7 sx sl sc S r w' (hS.kept q) hr
  have CS : Hid (∀ w', Kept w w' → Calls Tryz.prog 7 #[.agg #[.int .i64 n0, .int .i64 n1, .int .i64 n2, .int .i64 n3, .int .i64 n4, .int .i64 n5, .int .i64 n6, .int .i64 n7, .slice sx sl sc], .int .i64 kind] w' _) := fun w' _ => shape_out n0 n1 n2 n3 n4 n5 n6 n7 sx sl sc kind w' hk
  clear hS hk hp hr
  go_enter Tryz.func3, Tryz.ntmps3
  go_wp2_with fail
  generalize hW1 : w.alloc _ = W1
  have HW1 : Hid (Kept w W1 ∧ Blk W1 w.heap.size (cl n0 n1 n2 n3 n4 n5 n6 n7 (.slice sx sl sc))) := by rw [← hW1]; exact ⟨(Kept.refl w).alloc _ _, Blk.new w _ _⟩
  clear hW1
  refine (first_any _).mono ?_
  rintro e u1 ⟨rfl, K⟩
  have HW : Hid (Kept w u1 ∧ Blk u1 w.heap.size (cl n0 n1 n2 n3 n4 n5 n6 n7 (.slice sx sl sc))) := ⟨HW1.out.1.trans K, HW1.out.2.kept K⟩
  clear HW1 K
  have c0 := HW.out.2.at 0 rfl
  have c1 := HW.out.2.at 1 rfl
  have c2 := HW.out.2.at 2 rfl
  have c3 := HW.out.2.at 3 rfl
  have c4 := HW.out.2.at 4 rfl
  have c5 := HW.out.2.at 5 rfl
  have c6 := HW.out.2.at 6 rfl
  have c7 := HW.out.2.at 7 rfl
  have c8 := HW.out.2.at 8 rfl
  go_wp2_with fail
  refine (CS.out _ HW.out.1).mono ?_
  rintro e u4 ⟨rfl, K⟩
  have HV : Hid (Kept w u4 ∧ Blk u4 w.heap.size (cl n0 n1 n2 n3 n4 n5 n6 n7 (.slice sx sl sc))) := ⟨HW.out.1.trans K, HW.out.2.kept K⟩
  clear HW K c0 c1 c2 c3 c4 c5 c6 c7 c8 CS
  go_upto_region 4 with fail
  generalize hW3 : u4.alloc _ = W3
  have HW : Hid (Kept w W3 ∧ Blk W3 w.heap.size (cl n0 n1 n2 n3 n4 n5 n6 n7 (.slice sx sl sc))) := by rw [← hW3]; exact ⟨HV.out.1.alloc _ _, HV.out.2.kept ((Kept.refl _).alloc _ _)⟩
  clear HV hW3
  have c0 := HW.out.2.at 0 rfl
  have c1 := HW.out.2.at 1 rfl
  have c2 := HW.out.2.at 2 rfl
  have c3 := HW.out.2.at 3 rfl
  have c4 := HW.out.2.at 4 rfl
  have c5 := HW.out.2.at 5 rfl
  have c6 := HW.out.2.at 6 rfl
  have c7 := HW.out.2.at 7 rfl
  have c8 := HW.out.2.at 8 rfl
  go_wp2_with fail
  refine (CK.out _ HW.out.1).mono ?_
  rintro e uk ⟨rfl, K⟩
  have HWk : Hid (Kept w uk ∧ Blk uk w.heap.size (cl n0 n1 n2 n3 n4 n5 n6 n7 (.slice sx sl sc))) := ⟨HW.out.1.trans K, HW.out.2.kept K⟩
  clear HW K c0 c1 c2 c3 c4 c5 c6 c7 c8 CK
  have HW := HWk
  clear HWk
  by_cases r0 : r = 0
  case neg =>
    have er : (r != 0) = true := by simpa using r0
    clear r0
    go_wp2_with fail
    refine (first_any _).mono ?_
    rintro e u9 ⟨rfl, K9⟩
    have K10 : Hid (Kept w u9) := HW.out.1.trans K9
    clear K9
    go_wp2
    go_ret
    exact ⟨rfl, K10.out⟩
  case pos =>
    subst r0
    have c0 := HW.out.2.at 0 rfl
    have c1 := HW.out.2.at 1 rfl
    have c2 := HW.out.2.at 2 rfl
    have c3 := HW.out.2.at 3 rfl
    have c4 := HW.out.2.at 4 rfl
    have c5 := HW.out.2.at 5 rfl
    have c6 := HW.out.2.at 6 rfl
    have c7 := HW.out.2.at 7 rfl
    have c8 := HW.out.2.at 8 rfl
    go_wp2_with fail
    refine (CF.out _ HW.out.1).mono ?_
    rintro e u5 ⟨rfl, K⟩
    have HK : Hid (Kept w u5) := HW.out.1.trans K
    clear HW K c0 c1 c2 c3 c4 c5 c6 c7 c8 CF
    cases p
    · go_wp2_with fail
      refine (first_any _).mono ?_
      rintro e u9 ⟨rfl, K9⟩
      have K10 : Hid (Kept w u9) := HK.out.trans K9
      clear K9
      go_wp2
      go_ret
      exact ⟨rfl, K10.out⟩
    · go_wp2_with fail
      refine (first_any _).mono ?_
      rintro e u9 ⟨rfl, K9⟩
      have K10 : Hid (Kept w u9) := HK.out.trans K9
      clear K9
      go_wp2
      go_ret
      exact ⟨rfl, K10.out⟩

set_option maxRecDepth 20000 in
set_option maxHeartbeats 4000000 in
theorem all_early (n0 n1 n2 n3 n4 n5 n6 n7 : Int) (sx : Option Addr) (sl sc : Nat) (S : Nat → Sh) (R : Nat → Nat → Bool) (k : Nat) (n : Int) (x : Option Addr) (l c : Nat) (at' : Int) (y : Option Addr) (yl yc : Nat) (r : Int) (w : World) (hS : Shps w sx sl S) (hR : ∀ i, i < sl → Refs w (S i).x (S i).l (R i)) (hk : k < sl) (hZ : (S k).l ≤ 140737488351232) (hr : Checks n0 n1 n2 n3 n4 n5 n6 n7 sl S r) (hE : r ≠ 0 ∨ ¬ Small sl S ∨ 200 < l ∨ 600 < yl) :
    Calls Tryz.prog 3 #[.agg #[.int .i64 n0, .int .i64 n1, .int .i64 n2, .int .i64 n3, .int .i64 n4, .int .i64 n5, .int .i64 n6, .int .i64 n7, .slice sx sl sc], .int .i64 k, .int .i64 n, .slice x l c, .int .i64 at', .slice y yl yc] w fun e w' => e = .returned (.bool true) ∧ Kept w w' := by
  obtain ⟨p, hp⟩ := bool_iff (Small sl S)
  have CF : Hid (∀ w', Kept w w' → Calls Tryz.prog 9 #[.agg #[.int .i64 n0, .int .i64 n1, .int .i64 n2, .int .i64 n3, .int .i64 n4, .int .i64 n5, .int .i64 n6, .int .i64 n7, .slice sx sl sc]] w' _) := fun w' k => few_any n0 n1 n2 n3 n4 n5 n6 n7 sx sl sc S p w' (hS.kept k) hp
  have CK : Hid (∀ w', Kept w w' → Calls Tryz.prog 8 #[.agg #[.int .i64 n0, .int .i64 n1, .int .i64 n2, .int .i64 n3, .int .i64 n4, .int .i64 n5, .int .i64 n6, .int .i64 n7, .slice sx sl sc]] w' _) := fun w' q => ref_check n0 n1 n2 n3 n4 n5 n6 n7 sx sl sc S r w' (hS.kept q) hr
  have CS : Hid (∀ w', Kept w w' → Calls Tryz.prog 7 #[.agg #[.int .i64 n0, .int .i64 n1, .int .i64 n2, .int .i64 n3, .int .i64 n4, .int .i64 n5, .int .i64 n6, .int .i64 n7, .slice sx sl sc], .int .i64 k] w' _) := fun w' q => shape_in n0 n1 n2 n3 n4 n5 n6 n7 sx sl sc S (R k) k w' hk hZ (hS.kept q) ((hR k hk).kept q)
  obtain ⟨fl, hfe⟩ : ∃ fl, (S k).l = fl := ⟨_, rfl⟩
  obtain ⟨ab, hae⟩ : ∃ ab, (S k).arr = ab := ⟨_, rfl⟩
  have HFL : Hid ((S k).arr = ab ∧ (S k).l = fl) := ⟨hae, hfe⟩
  have HE : Hid (r = 0 → p = true → 200 < l ∨ 600 < yl) := fun h0 h1 => by
    rcases hE with q | q | q
    · exact absurd h0 q
    · exact absurd (hp.1 h1) q
    · exact q
  clear hS hR hk hp hE hZ hfe hae hr
  go_enter Tryz.func3, Tryz.ntmps3
  go_wp2_with fail
  generalize hW1 : w.alloc _ = W1
  have HW1 : Hid (Kept w W1 ∧ Blk W1 w.heap.size (cl n0 n1 n2 n3 n4 n5 n6 n7 (.slice sx sl sc))) := by rw [← hW1]; exact ⟨(Kept.refl w).alloc _ _, Blk.new w _ _⟩
  clear hW1
  refine (first_any _).mono ?_
  rintro e u1 ⟨rfl, K⟩
  have HW : Hid (Kept w u1 ∧ Blk u1 w.heap.size (cl n0 n1 n2 n3 n4 n5 n6 n7 (.slice sx sl sc))) := ⟨HW1.out.1.trans K, HW1.out.2.kept K⟩
  clear HW1 K
  have c0 := HW.out.2.at 0 rfl
  have c1 := HW.out.2.at 1 rfl
  have c2 := HW.out.2.at 2 rfl
  have c3 := HW.out.2.at 3 rfl
  have c4 := HW.out.2.at 4 rfl
  have c5 := HW.out.2.at 5 rfl
  have c6 := HW.out.2.at 6 rfl
  have c7 := HW.out.2.at 7 rfl
  have c8 := HW.out.2.at 8 rfl
  go_wp2_with fail
  refine (CS.out _ HW.out.1).mono ?_
  rintro e u4 ⟨rg, rfl, hrg, hRR, K⟩
  rw [HFL.out.2] at hRR
  have HV : Hid (Kept w u4 ∧ Blk u4 w.heap.size (cl n0 n1 n2 n3 n4 n5 n6 n7 (.slice sx sl sc)) ∧ Refs u4 (some ⟨rg, 0, none⟩) fl (R k)) := ⟨HW.out.1.trans K, HW.out.2.kept K, hRR⟩
  clear HW K c0 c1 c2 c3 c4 c5 c6 c7 c8 CS hrg hRR
  rw [HFL.out.1, HFL.out.2]
  go_upto_region 4 with fail
  generalize hW3 : u4.alloc _ = W3
  have HW : Hid (Kept w W3 ∧ Blk W3 w.heap.size (cl n0 n1 n2 n3 n4 n5 n6 n7 (.slice sx sl sc)) ∧ Blk W3 u4.heap.size [.bool ab, .slice (some ⟨rg, 0, none⟩) fl fl] ∧ Refs W3 (some ⟨rg, 0, none⟩) fl (R k)) := by rw [← hW3]; exact ⟨HV.out.1.alloc _ _, HV.out.2.1.kept ((Kept.refl _).alloc _ _), Blk.new u4 [_, _] _, HV.out.2.2.kept ((Kept.refl _).alloc _ _)⟩
  clear HV hW3
  generalize u4.heap.size = sb at *
  have c0 := HW.out.2.1.at 0 rfl
  have c1 := HW.out.2.1.at 1 rfl
  have c2 := HW.out.2.1.at 2 rfl
  have c3 := HW.out.2.1.at 3 rfl
  have c4 := HW.out.2.1.at 4 rfl
  have c5 := HW.out.2.1.at 5 rfl
  have c6 := HW.out.2.1.at 6 rfl
  have c7 := HW.out.2.1.at 7 rfl
  have c8 := HW.out.2.1.at 8 rfl
  go_wp2_with fail
  refine (CK.out _ HW.out.1).mono ?_
  rintro e uk ⟨rfl, K⟩
  have HWk : Hid (Kept w uk ∧ Blk uk w.heap.size (cl n0 n1 n2 n3 n4 n5 n6 n7 (.slice sx sl sc)) ∧ Blk uk sb [.bool ab, .slice (some ⟨rg, 0, none⟩) fl fl] ∧ Refs uk (some ⟨rg, 0, none⟩) fl (R k)) := ⟨HW.out.1.trans K, HW.out.2.1.kept K, HW.out.2.2.1.kept K, HW.out.2.2.2.kept K⟩
  clear HW K c0 c1 c2 c3 c4 c5 c6 c7 c8 CK
  have HW := HWk
  clear HWk
  by_cases r0 : r = 0
  case neg =>
    have er : (r != 0) = true := by simpa using r0
    clear r0
    go_wp2_with fail
    refine (first_any _).mono ?_
    rintro e u9 ⟨rfl, K9⟩
    have K10 : Hid (Kept w u9) := HW.out.1.trans K9
    clear K9
    go_wp2
    go_ret
    exact ⟨rfl, K10.out⟩
  case pos =>
    subst r0
    have c0 := HW.out.2.1.at 0 rfl
    have c1 := HW.out.2.1.at 1 rfl
    have c2 := HW.out.2.1.at 2 rfl
    have c3 := HW.out.2.1.at 3 rfl
    have c4 := HW.out.2.1.at 4 rfl
    have c5 := HW.out.2.1.at 5 rfl
    have c6 := HW.out.2.1.at 6 rfl
    have c7 := HW.out.2.1.at 7 rfl
    have c8 := HW.out.2.1.at 8 rfl
    go_wp2_with fail
    refine (CF.out _ HW.out.1).mono ?_
    rintro e u5 ⟨rfl, K⟩
    have HK : Hid (Kept w u5 ∧ Blk u5 w.heap.size (cl n0 n1 n2 n3 n4 n5 n6 n7 (.slice sx sl sc)) ∧ Blk u5 sb [.bool ab, .slice (some ⟨rg, 0, none⟩) fl fl] ∧ Refs u5 (some ⟨rg, 0, none⟩) fl (R k)) := ⟨HW.out.1.trans K, HW.out.2.1.kept K, HW.out.2.2.1.kept K, HW.out.2.2.2.kept K⟩
    clear HW K c0 c1 c2 c3 c4 c5 c6 c7 c8 CF
    have s0 := HK.out.2.2.1.at 0 rfl
    cases p
    · go_wp2_with fail
      refine (first_any _).mono ?_
      rintro e u9 ⟨rfl, K9⟩
      have K10 : Hid (Kept w u9) := HK.out.1.trans K9
      clear K9
      go_wp2
      go_ret
      exact ⟨rfl, K10.out⟩
    by_cases h2 : (l : Int) > 200
    · go_wp2_with fail
      refine (first_any _).mono ?_
      rintro e u9 ⟨rfl, K9⟩
      have K10 : Hid (Kept w u9) := HK.out.1.trans K9
      clear K9
      go_wp2
      go_ret
      exact ⟨rfl, K10.out⟩
    have h3 : (yl : Int) > 600 := by have := HE.out (by trivial) (by trivial); omega
    go_wp2_with fail
    refine (first_any _).mono ?_
    rintro e u9 ⟨rfl, K9⟩
    have K10 : Hid (Kept w u9) := HK.out.1.trans K9
    clear K9
    go_wp2
    go_ret
    exact ⟨rfl, K10.out⟩

set_option maxRecDepth 20000 in
set_option maxHeartbeats 4000000 in
theorem all_obj_no (n0 n1 n2 n3 n4 n5 n6 n7 : Int) (sx : Option Addr) (sl sc : Nat) (S : Nat → Sh) (R : Nat → Nat → Bool) (k : Nat) (n : Int) (x : Option Addr) (l c : Nat) (at' : Int) (y : Option Addr) (yl yc : Nat) (w : World) (hS : Shps w sx sl S) (hR : ∀ i, i < sl → Refs w (S i).x (S i).l (R i)) (hk : k < sl) (hZ : (S k).l ≤ 140737488351232) (hm : Small sl S) (hl : l ≤ 200) (hyl : yl ≤ 600) (hr0 : Checks n0 n1 n2 n3 n4 n5 n6 n7 sl S 0) (hN0 : IntKind.min .i64 ≤ n0 ∧ n0 ≤ IntKind.max .i64) (hab : (S k).arr = false) 
    (r : Int) (CO : ∀ w', Kept w w' → Calls Tryz.prog 10 #[.agg #[.int .i64 n0, .int .i64 n1, .int .i64 n2, .int .i64 n3, .int .i64 n4, .int .i64 n5, .int .i64 n6, .int .i64 n7, .slice sx sl sc], .int .i64 k, .slice x l c] w' fun e w'' => e = .returned (.tuple #[.slice none 0 0, .int .i64 r]) ∧ Kept w' w'') (hr : r ≠ 0) :
    Calls Tryz.prog 3 #[.agg #[.int .i64 n0, .int .i64 n1, .int .i64 n2, .int .i64 n3, .int .i64 n4, .int .i64 n5, .int .i64 n6, .int .i64 n7, .slice sx sl sc], .int .i64 k, .int .i64 n, .slice x l c, .int .i64 at', .slice y yl yc] w fun e w' => e = .returned (.bool true) ∧ Kept w w' := by
  obtain ⟨v, hv⟩ : ∃ v : Nat, Is (Good n0 n1 n2 n3 n4 n5 n6 n7 sl S) (8 * n0 + 2 * n1 + n2) (v : Int) ∧ v ≤ 100000 := by
    obtain ⟨v, hv⟩ := Is.some (Good n0 n1 n2 n3 n4 n5 n6 n7 sl S) (8 * n0 + 2 * n1 + n2)
    by_cases q : Good n0 n1 n2 n3 n4 n5 n6 n7 sl S
    · have h1 := hv.yes q
      have hf := q.1
      unfold Fits at hf
      exact ⟨v.toNat, by rw [show ((v.toNat : Nat) : Int) = v by omega]; exact hv, by omega⟩
    · have h1 := hv.no q
      exact ⟨v.toNat, by rw [show ((v.toNat : Nat) : Int) = v by omega]; exact hv, by omega⟩
  have CF : Hid (∀ w', Kept w w' → Calls Tryz.prog 9 #[.agg #[.int .i64 n0, .int .i64 n1, .int .i64 n2, .int .i64 n3, .int .i64 n4, .int .i64 n5, .int .i64 n6, .int .i64 n7, .slice sx sl sc]] w' _) := fun w' k => few_any n0 n1 n2 n3 n4 n5 n6 n7 sx sl sc S true w' (hS.kept k) ⟨fun _ => hm, fun _ => rfl⟩
  have hyl2 : ¬ (yl : Int) > 600 := by omega
  have CSH : Hid (∀ u : World, _) := fun u => snew_either n0 n6 u hN0.1 hN0.2
  have CK : Hid (∀ w', Kept w w' → Calls Tryz.prog 8 #[.agg #[.int .i64 n0, .int .i64 n1, .int .i64 n2, .int .i64 n3, .int .i64 n4, .int .i64 n5, .int .i64 n6, .int .i64 n7, .slice sx sl sc]] w' _) := fun w' q => ref_check n0 n1 n2 n3 n4 n5 n6 n7 sx sl sc S 0 w' (hS.kept q) hr0
  have CS : Hid (∀ w', Kept w w' → Calls Tryz.prog 7 #[.agg #[.int .i64 n0, .int .i64 n1, .int .i64 n2, .int .i64 n3, .int .i64 n4, .int .i64 n5, .int .i64 n6, .int .i64 n7, .slice sx sl sc], .int .i64 k] w' _) := fun w' q => shape_in n0 n1 n2 n3 n4 n5 n6 n7 sx sl sc S (R k) k w' hk hZ (hS.kept q) ((hR k hk).kept q)
  obtain ⟨fl, hfe⟩ : ∃ fl, (S k).l = fl := ⟨_, rfl⟩
  obtain ⟨ab, hae⟩ : ∃ ab, (S k).arr = ab := ⟨_, rfl⟩
  have HFL : Hid ((S k).arr = ab ∧ (S k).l = fl) := ⟨hae, hfe⟩
  obtain rfl : ab = false := by rw [← hae, hab]
  have CO : Hid (∀ w', Kept w w' → _) := CO
  have CL : Hid (∀ w', Kept w w' → Calls Tryz.prog 12 #[.agg #[.int .i64 n0, .int .i64 n1, .int .i64 n2, .int .i64 n3, .int .i64 n4, .int .i64 n5, .int .i64 n6, .int .i64 n7, .slice sx sl sc], .slice none 0 0] w' _) := fun w' q => fill_nil n0 n1 n2 n3 n4 n5 n6 n7 sx sl sc S v w' (hS.kept q) hv.1 hv.2
  have er : (r != 0) = true := by simpa using hr
  have er2 : (r == 0) = false := by simpa using hr
  clear hS hR hk hm hZ hab hfe hae hv hr
  go_enter Tryz.func3, Tryz.ntmps3
  go_wp2_with fail
  generalize hW1 : w.alloc _ = W1
  have HW1 : Hid (Kept w W1 ∧ Blk W1 w.heap.size (cl n0 n1 n2 n3 n4 n5 n6 n7 (.slice sx sl sc))) := by rw [← hW1]; exact ⟨(Kept.refl w).alloc _ _, Blk.new w _ _⟩
  clear hW1
  refine (first_any _).mono ?_
  rintro e u1 ⟨rfl, K⟩
  have HW : Hid (Kept w u1 ∧ Blk u1 w.heap.size (cl n0 n1 n2 n3 n4 n5 n6 n7 (.slice sx sl sc))) := ⟨HW1.out.1.trans K, HW1.out.2.kept K⟩
  clear HW1 K
  have c0 := HW.out.2.at 0 rfl
  have c1 := HW.out.2.at 1 rfl
  have c2 := HW.out.2.at 2 rfl
  have c3 := HW.out.2.at 3 rfl
  have c4 := HW.out.2.at 4 rfl
  have c5 := HW.out.2.at 5 rfl
  have c6 := HW.out.2.at 6 rfl
  have c7 := HW.out.2.at 7 rfl
  have c8 := HW.out.2.at 8 rfl
  go_wp2_with fail
  refine (CS.out _ HW.out.1).mono ?_
  rintro e u4 ⟨rg, rfl, hrg, hRR, K⟩
  rw [HFL.out.2] at hRR
  have HV : Hid (Kept w u4 ∧ Blk u4 w.heap.size (cl n0 n1 n2 n3 n4 n5 n6 n7 (.slice sx sl sc)) ∧ Refs u4 (some ⟨rg, 0, none⟩) fl (R k)) := ⟨HW.out.1.trans K, HW.out.2.kept K, hRR⟩
  clear HW K c0 c1 c2 c3 c4 c5 c6 c7 c8 CS hrg hRR
  rw [HFL.out.1, HFL.out.2]
  go_upto_region 4 with fail
  generalize hW3 : u4.alloc _ = W3
  have HW : Hid (Kept w W3 ∧ Blk W3 w.heap.size (cl n0 n1 n2 n3 n4 n5 n6 n7 (.slice sx sl sc)) ∧ Blk W3 u4.heap.size [.bool false, .slice (some ⟨rg, 0, none⟩) fl fl] ∧ Refs W3 (some ⟨rg, 0, none⟩) fl (R k)) := by rw [← hW3]; exact ⟨HV.out.1.alloc _ _, HV.out.2.1.kept ((Kept.refl _).alloc _ _), Blk.new u4 [_, _] _, HV.out.2.2.kept ((Kept.refl _).alloc _ _)⟩
  clear HV hW3
  generalize u4.heap.size = sb at *
  have c0 := HW.out.2.1.at 0 rfl
  have c1 := HW.out.2.1.at 1 rfl
  have c2 := HW.out.2.1.at 2 rfl
  have c3 := HW.out.2.1.at 3 rfl
  have c4 := HW.out.2.1.at 4 rfl
  have c5 := HW.out.2.1.at 5 rfl
  have c6 := HW.out.2.1.at 6 rfl
  have c7 := HW.out.2.1.at 7 rfl
  have c8 := HW.out.2.1.at 8 rfl
  go_wp2_with fail
  refine (CK.out _ HW.out.1).mono ?_
  rintro e uk ⟨rfl, K⟩
  have HWk : Hid (Kept w uk ∧ Blk uk w.heap.size (cl n0 n1 n2 n3 n4 n5 n6 n7 (.slice sx sl sc)) ∧ Blk uk sb [.bool false, .slice (some ⟨rg, 0, none⟩) fl fl] ∧ Refs uk (some ⟨rg, 0, none⟩) fl (R k)) := ⟨HW.out.1.trans K, HW.out.2.1.kept K, HW.out.2.2.1.kept K, HW.out.2.2.2.kept K⟩
  clear HW K c0 c1 c2 c3 c4 c5 c6 c7 c8 CK
  have HW := HWk
  clear HWk
  have c0 := HW.out.2.1.at 0 rfl
  have c1 := HW.out.2.1.at 1 rfl
  have c2 := HW.out.2.1.at 2 rfl
  have c3 := HW.out.2.1.at 3 rfl
  have c4 := HW.out.2.1.at 4 rfl
  have c5 := HW.out.2.1.at 5 rfl
  have c6 := HW.out.2.1.at 6 rfl
  have c7 := HW.out.2.1.at 7 rfl
  have c8 := HW.out.2.1.at 8 rfl
  go_wp2_with fail
  refine (CF.out _ HW.out.1).mono ?_
  rintro e u5 ⟨rfl, K⟩
  have HK : Hid (Kept w u5 ∧ Blk u5 w.heap.size (cl n0 n1 n2 n3 n4 n5 n6 n7 (.slice sx sl sc)) ∧ Blk u5 sb [.bool false, .slice (some ⟨rg, 0, none⟩) fl fl] ∧ Refs u5 (some ⟨rg, 0, none⟩) fl (R k)) := ⟨HW.out.1.trans K, HW.out.2.1.kept K, HW.out.2.2.1.kept K, HW.out.2.2.2.kept K⟩
  clear HW K c0 c1 c2 c3 c4 c5 c6 c7 c8 CF
  have s0 := HK.out.2.2.1.at 0 rfl
  have hl2 : ¬ (l : Int) > 200 := by omega
  have hcb := HK.out.2.1
  have c0 := hcb.at 0 rfl
  have c1 := hcb.at 1 rfl
  have c2 := hcb.at 2 rfl
  have c3 := hcb.at 3 rfl
  have c4 := hcb.at 4 rfl
  have c5 := hcb.at 5 rfl
  have c6 := hcb.at 6 rfl
  have c7 := hcb.at 7 rfl
  have c8 := hcb.at 8 rfl
  clear hcb
  go_wp2_with fail
  refine (CO.out _ HK.out.1).mono ?_
  rintro e u7 ⟨rfl, K⟩
  have HK7 : Hid (Kept w u7 ∧ Blk u7 w.heap.size (cl n0 n1 n2 n3 n4 n5 n6 n7 (.slice sx sl sc)) ∧ Blk u7 sb [.bool false, .slice (some ⟨rg, 0, none⟩) fl fl] ∧ Refs u7 (some ⟨rg, 0, none⟩) fl (R k)) := ⟨HK.out.1.trans K, HK.out.2.1.kept K, HK.out.2.2.1.kept K, HK.out.2.2.2.kept K⟩
  clear HK K c0 c1 c2 c3 c4 c5 c6 c7 c8 s0 CO
  have hcb := HK7.out.2.1
  have c0 := hcb.at 0 rfl
  have c1 := hcb.at 1 rfl
  have c2 := hcb.at 2 rfl
  have c3 := hcb.at 3 rfl
  have c4 := hcb.at 4 rfl
  have c5 := hcb.at 5 rfl
  have c6 := hcb.at 6 rfl
  have c7 := hcb.at 7 rfl
  have c8 := hcb.at 8 rfl
  have s0 := HK7.out.2.2.1.at 0 rfl
  have s1 := HK7.out.2.2.1.at 1 rfl
  clear hcb
  go_wp2_with fail
  refine (CL.out _ HK7.out.1).mono ?_
  rintro e u8 ⟨b, M, rfl, _, K8, _, _⟩
  have HK8 : Hid (Kept w u8 ∧ Blk u8 w.heap.size (cl n0 n1 n2 n3 n4 n5 n6 n7 (.slice sx sl sc))) := ⟨HK7.out.1.trans K8, HK7.out.2.1.kept K8⟩
  clear HK7 K8 c0 c1 c2 c3 c4 c5 c6 c7 c8 s0 s1 CL
  have hcb8 := HK8.out.2
  have c0 := hcb8.at 0 rfl
  have c1 := hcb8.at 1 rfl
  have c2 := hcb8.at 2 rfl
  have c3 := hcb8.at 3 rfl
  have c4 := hcb8.at 4 rfl
  have c5 := hcb8.at 5 rfl
  have c6 := hcb8.at 6 rfl
  have c7 := hcb8.at 7 rfl
  have c8 := hcb8.at 8 rfl
  clear hcb8
  go_wp2_with fail
  refine (CSH.out _).mono ?_
  rintro e u9 ⟨⟨v9, r9, rfl⟩, K9⟩
  have HK9 : Hid (Kept w u9) := HK8.out.1.trans K9
  clear HK8 K9 c0 c1 c2 c3 c4 c5 c6 c7 c8 CSH
  go_wp2_with fail
  refine (first_any _).mono ?_
  rintro e u10 ⟨rfl, K9⟩
  have K10 : Hid (Kept w u10) := HK9.out.trans K9
  clear K9
  go_wp2
  go_ret
  exact ⟨rfl, K10.out⟩

set_option maxRecDepth 20000 in
set_option maxHeartbeats 4000000 in
theorem all_arr_no (n0 n1 n2 n3 n4 n5 n6 n7 : Int) (sx : Option Addr) (sl sc : Nat) (S : Nat → Sh) (R : Nat → Nat → Bool) (k : Nat) (n : Int) (x : Option Addr) (l c : Nat) (at' : Int) (y : Option Addr) (yl yc : Nat) (w : World) (hS : Shps w sx sl S) (hR : ∀ i, i < sl → Refs w (S i).x (S i).l (R i)) (hk : k < sl) (hZ : (S k).l ≤ 140737488351232) (hm : Small sl S) (hl : l ≤ 200) (hyl : yl ≤ 600) (hr0 : Checks n0 n1 n2 n3 n4 n5 n6 n7 sl S 0) (hN0 : IntKind.min .i64 ≤ n0 ∧ n0 ≤ IntKind.max .i64) (hab : (S k).arr = true) (r0 : Int) (CO : ∀ w', Kept w w' → Calls Tryz.prog 10 #[.agg #[.int .i64 n0, .int .i64 n1, .int .i64 n2, .int .i64 n3, .int .i64 n4, .int .i64 n5, .int .i64 n6, .int .i64 n7, .slice sx sl sc], .int .i64 k, .slice x l c] w' fun e w'' => e = .returned (.tuple #[.slice none 0 0, .int .i64 r0]) ∧ Kept w' w'')
    (r : Int) (CA : ∀ w', Kept w w' → Calls Tryz.prog 11 #[.agg #[.int .i64 n0, .int .i64 n1, .int .i64 n2, .int .i64 n3, .int .i64 n4, .int .i64 n5, .int .i64 n6, .int .i64 n7, .slice sx sl sc], .int .i64 k, .int .i64 n, .slice x l c, .int .i64 at'] w' fun e w'' => e = .returned (.tuple #[.slice none 0 0, .int .i64 r]) ∧ Kept w' w'') (hr : r ≠ 0) :
    Calls Tryz.prog 3 #[.agg #[.int .i64 n0, .int .i64 n1, .int .i64 n2, .int .i64 n3, .int .i64 n4, .int .i64 n5, .int .i64 n6, .int .i64 n7, .slice sx sl sc], .int .i64 k, .int .i64 n, .slice x l c, .int .i64 at', .slice y yl yc] w fun e w' => e = .returned (.bool true) ∧ Kept w w' := by
  obtain ⟨v, hv⟩ : ∃ v : Nat, Is (Good n0 n1 n2 n3 n4 n5 n6 n7 sl S) (8 * n0 + 2 * n1 + n2) (v : Int) ∧ v ≤ 100000 := by
    obtain ⟨v, hv⟩ := Is.some (Good n0 n1 n2 n3 n4 n5 n6 n7 sl S) (8 * n0 + 2 * n1 + n2)
    by_cases q : Good n0 n1 n2 n3 n4 n5 n6 n7 sl S
    · have h1 := hv.yes q
      have hf := q.1
      unfold Fits at hf
      exact ⟨v.toNat, by rw [show ((v.toNat : Nat) : Int) = v by omega]; exact hv, by omega⟩
    · have h1 := hv.no q
      exact ⟨v.toNat, by rw [show ((v.toNat : Nat) : Int) = v by omega]; exact hv, by omega⟩
  have CF : Hid (∀ w', Kept w w' → Calls Tryz.prog 9 #[.agg #[.int .i64 n0, .int .i64 n1, .int .i64 n2, .int .i64 n3, .int .i64 n4, .int .i64 n5, .int .i64 n6, .int .i64 n7, .slice sx sl sc]] w' _) := fun w' k => few_any n0 n1 n2 n3 n4 n5 n6 n7 sx sl sc S true w' (hS.kept k) ⟨fun _ => hm, fun _ => rfl⟩
  have hyl2 : ¬ (yl : Int) > 600 := by omega
  have CSH : Hid (∀ u : World, _) := fun u => snew_either n0 n6 u hN0.1 hN0.2
  have CK : Hid (∀ w', Kept w w' → Calls Tryz.prog 8 #[.agg #[.int .i64 n0, .int .i64 n1, .int .i64 n2, .int .i64 n3, .int .i64 n4, .int .i64 n5, .int .i64 n6, .int .i64 n7, .slice sx sl sc]] w' _) := fun w' q => ref_check n0 n1 n2 n3 n4 n5 n6 n7 sx sl sc S 0 w' (hS.kept q) hr0
  have CS : Hid (∀ w', Kept w w' → Calls Tryz.prog 7 #[.agg #[.int .i64 n0, .int .i64 n1, .int .i64 n2, .int .i64 n3, .int .i64 n4, .int .i64 n5, .int .i64 n6, .int .i64 n7, .slice sx sl sc], .int .i64 k] w' _) := fun w' q => shape_in n0 n1 n2 n3 n4 n5 n6 n7 sx sl sc S (R k) k w' hk hZ (hS.kept q) ((hR k hk).kept q)
  obtain ⟨fl, hfe⟩ : ∃ fl, (S k).l = fl := ⟨_, rfl⟩
  obtain ⟨ab, hae⟩ : ∃ ab, (S k).arr = ab := ⟨_, rfl⟩
  have HFL : Hid ((S k).arr = ab ∧ (S k).l = fl) := ⟨hae, hfe⟩
  obtain rfl : ab = true := by rw [← hae, hab]
  have CO : Hid (∀ w', Kept w w' → _) := CO
  have CA : Hid (∀ w', Kept w w' → _) := CA
  have CL : Hid (∀ w', Kept w w' → Calls Tryz.prog 12 #[.agg #[.int .i64 n0, .int .i64 n1, .int .i64 n2, .int .i64 n3, .int .i64 n4, .int .i64 n5, .int .i64 n6, .int .i64 n7, .slice sx sl sc], .slice none 0 0] w' _) := fun w' q => fill_nil n0 n1 n2 n3 n4 n5 n6 n7 sx sl sc S v w' (hS.kept q) hv.1 hv.2
  have er : (r != 0) = true := by simpa using hr
  have er2 : (r == 0) = false := by simpa using hr
  clear hS hR hk hm hZ hab hfe hae hv hr
  go_enter Tryz.func3, Tryz.ntmps3
  go_wp2_with fail
  generalize hW1 : w.alloc _ = W1
  have HW1 : Hid (Kept w W1 ∧ Blk W1 w.heap.size (cl n0 n1 n2 n3 n4 n5 n6 n7 (.slice sx sl sc))) := by rw [← hW1]; exact ⟨(Kept.refl w).alloc _ _, Blk.new w _ _⟩
  clear hW1
  refine (first_any _).mono ?_
  rintro e u1 ⟨rfl, K⟩
  have HW : Hid (Kept w u1 ∧ Blk u1 w.heap.size (cl n0 n1 n2 n3 n4 n5 n6 n7 (.slice sx sl sc))) := ⟨HW1.out.1.trans K, HW1.out.2.kept K⟩
  clear HW1 K
  have c0 := HW.out.2.at 0 rfl
  have c1 := HW.out.2.at 1 rfl
  have c2 := HW.out.2.at 2 rfl
  have c3 := HW.out.2.at 3 rfl
  have c4 := HW.out.2.at 4 rfl
  have c5 := HW.out.2.at 5 rfl
  have c6 := HW.out.2.at 6 rfl
  have c7 := HW.out.2.at 7 rfl
  have c8 := HW.out.2.at 8 rfl
  go_wp2_with fail
  refine (CS.out _ HW.out.1).mono ?_
  rintro e u4 ⟨rg, rfl, hrg, hRR, K⟩
  rw [HFL.out.2] at hRR
  have HV : Hid (Kept w u4 ∧ Blk u4 w.heap.size (cl n0 n1 n2 n3 n4 n5 n6 n7 (.slice sx sl sc)) ∧ Refs u4 (some ⟨rg, 0, none⟩) fl (R k)) := ⟨HW.out.1.trans K, HW.out.2.kept K, hRR⟩
  clear HW K c0 c1 c2 c3 c4 c5 c6 c7 c8 CS hrg hRR
  rw [HFL.out.1, HFL.out.2]
  go_upto_region 4 with fail
  generalize hW3 : u4.alloc _ = W3
  have HW : Hid (Kept w W3 ∧ Blk W3 w.heap.size (cl n0 n1 n2 n3 n4 n5 n6 n7 (.slice sx sl sc)) ∧ Blk W3 u4.heap.size [.bool true, .slice (some ⟨rg, 0, none⟩) fl fl] ∧ Refs W3 (some ⟨rg, 0, none⟩) fl (R k)) := by rw [← hW3]; exact ⟨HV.out.1.alloc _ _, HV.out.2.1.kept ((Kept.refl _).alloc _ _), Blk.new u4 [_, _] _, HV.out.2.2.kept ((Kept.refl _).alloc _ _)⟩
  clear HV hW3
  generalize u4.heap.size = sb at *
  have c0 := HW.out.2.1.at 0 rfl
  have c1 := HW.out.2.1.at 1 rfl
  have c2 := HW.out.2.1.at 2 rfl
  have c3 := HW.out.2.1.at 3 rfl
  have c4 := HW.out.2.1.at 4 rfl
  have c5 := HW.out.2.1.at 5 rfl
  have c6 := HW.out.2.1.at 6 rfl
  have c7 := HW.out.2.1.at 7 rfl
  have c8 := HW.out.2.1.at 8 rfl
  go_wp2_with fail
  refine (CK.out _ HW.out.1).mono ?_
  rintro e uk ⟨rfl, K⟩
  have HWk : Hid (Kept w uk ∧ Blk uk w.heap.size (cl n0 n1 n2 n3 n4 n5 n6 n7 (.slice sx sl sc)) ∧ Blk uk sb [.bool true, .slice (some ⟨rg, 0, none⟩) fl fl] ∧ Refs uk (some ⟨rg, 0, none⟩) fl (R k)) := ⟨HW.out.1.trans K, HW.out.2.1.kept K, HW.out.2.2.1.kept K, HW.out.2.2.2.kept K⟩
  clear HW K c0 c1 c2 c3 c4 c5 c6 c7 c8 CK
  have HW := HWk
  clear HWk
  have c0 := HW.out.2.1.at 0 rfl
  have c1 := HW.out.2.1.at 1 rfl
  have c2 := HW.out.2.1.at 2 rfl
  have c3 := HW.out.2.1.at 3 rfl
  have c4 := HW.out.2.1.at 4 rfl
  have c5 := HW.out.2.1.at 5 rfl
  have c6 := HW.out.2.1.at 6 rfl
  have c7 := HW.out.2.1.at 7 rfl
  have c8 := HW.out.2.1.at 8 rfl
  go_wp2_with fail
  refine (CF.out _ HW.out.1).mono ?_
  rintro e u5 ⟨rfl, K⟩
  have HK : Hid (Kept w u5 ∧ Blk u5 w.heap.size (cl n0 n1 n2 n3 n4 n5 n6 n7 (.slice sx sl sc)) ∧ Blk u5 sb [.bool true, .slice (some ⟨rg, 0, none⟩) fl fl] ∧ Refs u5 (some ⟨rg, 0, none⟩) fl (R k)) := ⟨HW.out.1.trans K, HW.out.2.1.kept K, HW.out.2.2.1.kept K, HW.out.2.2.2.kept K⟩
  clear HW K c0 c1 c2 c3 c4 c5 c6 c7 c8 CF
  have s0 := HK.out.2.2.1.at 0 rfl
  have hl2 : ¬ (l : Int) > 200 := by omega
  have hcb := HK.out.2.1
  have c0 := hcb.at 0 rfl
  have c1 := hcb.at 1 rfl
  have c2 := hcb.at 2 rfl
  have c3 := hcb.at 3 rfl
  have c4 := hcb.at 4 rfl
  have c5 := hcb.at 5 rfl
  have c6 := hcb.at 6 rfl
  have c7 := hcb.at 7 rfl
  have c8 := hcb.at 8 rfl
  clear hcb
  go_wp2_with fail
  refine (CO.out _ HK.out.1).mono ?_
  rintro e u6 ⟨rfl, K⟩
  have HK6 : Hid (Kept w u6 ∧ Blk u6 w.heap.size (cl n0 n1 n2 n3 n4 n5 n6 n7 (.slice sx sl sc)) ∧ Blk u6 sb [.bool true, .slice (some ⟨rg, 0, none⟩) fl fl] ∧ Refs u6 (some ⟨rg, 0, none⟩) fl (R k)) := ⟨HK.out.1.trans K, HK.out.2.1.kept K, HK.out.2.2.1.kept K, HK.out.2.2.2.kept K⟩
  clear HK K c0 c1 c2 c3 c4 c5 c6 c7 c8 s0 CO
  have hcb := HK6.out.2.1
  have c0 := hcb.at 0 rfl
  have c1 := hcb.at 1 rfl
  have c2 := hcb.at 2 rfl
  have c3 := hcb.at 3 rfl
  have c4 := hcb.at 4 rfl
  have c5 := hcb.at 5 rfl
  have c6 := hcb.at 6 rfl
  have c7 := hcb.at 7 rfl
  have c8 := hcb.at 8 rfl
  have s0 := HK6.out.2.2.1.at 0 rfl
  have s1 := HK6.out.2.2.1.at 1 rfl
  clear hcb
  go_wp2_with fail
  refine (CA.out _ HK6.out.1).mono ?_
  rintro e u7 ⟨rfl, K⟩
  have HK7 : Hid (Kept w u7 ∧ Blk u7 w.heap.size (cl n0 n1 n2 n3 n4 n5 n6 n7 (.slice sx sl sc)) ∧ Blk u7 sb [.bool true, .slice (some ⟨rg, 0, none⟩) fl fl] ∧ Refs u7 (some ⟨rg, 0, none⟩) fl (R k)) := ⟨HK6.out.1.trans K, HK6.out.2.1.kept K, HK6.out.2.2.1.kept K, HK6.out.2.2.2.kept K⟩
  clear HK6 K c0 c1 c2 c3 c4 c5 c6 c7 c8 s0 s1 CA
  have hcb := HK7.out.2.1
  have c0 := hcb.at 0 rfl
  have c1 := hcb.at 1 rfl
  have c2 := hcb.at 2 rfl
  have c3 := hcb.at 3 rfl
  have c4 := hcb.at 4 rfl
  have c5 := hcb.at 5 rfl
  have c6 := hcb.at 6 rfl
  have c7 := hcb.at 7 rfl
  have c8 := hcb.at 8 rfl
  have s0 := HK7.out.2.2.1.at 0 rfl
  have s1 := HK7.out.2.2.1.at 1 rfl
  clear hcb
  go_wp2_with fail
  refine (CL.out _ HK7.out.1).mono ?_
  rintro e u8 ⟨b, M, rfl, _, K8, _, _⟩
  have HK8 : Hid (Kept w u8 ∧ Blk u8 w.heap.size (cl n0 n1 n2 n3 n4 n5 n6 n7 (.slice sx sl sc))) := ⟨HK7.out.1.trans K8, HK7.out.2.1.kept K8⟩
  clear HK7 K8 c0 c1 c2 c3 c4 c5 c6 c7 c8 s0 s1 CL
  have hcb8 := HK8.out.2
  have c0 := hcb8.at 0 rfl
  have c1 := hcb8.at 1 rfl
  have c2 := hcb8.at 2 rfl
  have c3 := hcb8.at 3 rfl
  have c4 := hcb8.at 4 rfl
  have c5 := hcb8.at 5 rfl
  have c6 := hcb8.at 6 rfl
  have c7 := hcb8.at 7 rfl
  have c8 := hcb8.at 8 rfl
  clear hcb8
  go_wp2_with fail
  refine (CSH.out _).mono ?_
  rintro e u9 ⟨⟨v9, r9, rfl⟩, K9⟩
  have HK9 : Hid (Kept w u9) := HK8.out.1.trans K9
  clear HK8 K9 c0 c1 c2 c3 c4 c5 c6 c7 c8 CSH
  go_wp2_with fail
  refine (first_any _).mono ?_
  rintro e u10 ⟨rfl, K9⟩
  have K10 : Hid (Kept w u10) := HK9.out.trans K9
  clear K9
  go_wp2
  go_ret
  exact ⟨rfl, K10.out⟩
end Go.Proofs.YtpdclckgnajcdaaGreat
