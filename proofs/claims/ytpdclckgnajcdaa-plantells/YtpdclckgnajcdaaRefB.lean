/-
  The document's Object (package sporef6): contract.
-/
import Derived.Test.YtpdclckgnajcdaaRefA
namespace Go.Proofs.Ytpdclckgnajcdaa
open Go.RowKit
attribute [local go_sem] run_store_complex

set_option maxRecDepth 10000 in
set_option maxHeartbeats 4000000 in
theorem robject_no (n0 n1 n2 n3 n4 n5 n6 n7 : Int) (sx : Option Addr) (sl sc : Nat) (S : Nat → Sh) (kind : Int) {x : Option Addr} {l c : Nat} {L : Nat → Int} (r : Int) (w : World) (hS : Shps w sx sl S)
    (hl : (l : Int) ≤ 1000000) (hc : l ≤ c) (hx : Rdf w x l L) (hr : Asks (AG n0 n1 n2 n3 n4 n5 n6 n7 sl S L l) (AK sl S kind false) (AI S kind 0 false) (AF S kind 0 false L l) r) (h0 : r ≠ 0) :
    Calls Try.prog 13 #[.agg #[.int .i64 n0, .int .i64 n1, .int .i64 n2, .int .i64 n3, .int .i64 n4, .int .i64 n5, .int .i64 n6, .int .i64 n7, .slice sx sl sc], .int .i64 kind, .slice x l c] w fun e w' => e = .returned (.tuple #[.slice none 0 0, .int .i64 r]) ∧ Kept w w' := by
  obtain ⟨r0, hr0, r0s⟩ := Checks.some n0 n1 n2 n3 n4 n5 n6 n7 sl S
  obtain ⟨q1, h1⟩ := bool_iff (¬ Frs L l n0)
  obtain ⟨q2, h2⟩ := bool_iff (Twice L l)
  have C0 : Hid (∀ w', Kept w w' → Calls Try.prog 44 #[.agg #[.int .i64 n0, .int .i64 n1, .int .i64 n2, .int .i64 n3, .int .i64 n4, .int .i64 n5, .int .i64 n6, .int .i64 n7, .slice sx sl sc]] w' _) := fun w' k => ref_check n0 n1 n2 n3 n4 n5 n6 n7 sx sl sc S r0 w' (hS.kept k) hr0
  have C1 : Hid (∀ w', Kept w w' → Calls Try.prog 45 #[.agg #[.int .i64 n0, .int .i64 n1, .int .i64 n2, .int .i64 n3, .int .i64 n4, .int .i64 n5, .int .i64 n6, .int .i64 n7, .slice sx sl sc], .slice x l c] w' _) := fun w' k => rwrong_any n0 n1 n2 n3 n4 n5 n6 n7 sx sl sc (c := c) q1 w' hl (hx.kept k) h1
  have C2 : Hid (∀ w', Kept w w' → Calls Try.prog 48 #[.slice x l c] w' _) := fun w' k => rtwice_any (c := c) q2 w' hl hc (hx.kept k) h2
  have HH : Hid (Shps w sx sl S ∧ Asks (AG n0 n1 n2 n3 n4 n5 n6 n7 sl S L l) (AK sl S kind false) (AI S kind 0 false) (AF S kind 0 false L l) r ∧ r ≠ 0) := ⟨hS, hr, h0⟩
  have H0 : Hid (Checks n0 n1 n2 n3 n4 n5 n6 n7 sl S r0) := hr0
  have H1 : Hid (q1 = true ↔ ¬ Frs L l n0) := h1
  have H2 : Hid (q2 = true ↔ Twice L l) := h2
  clear hr0 h1 h2 hS hr hx hl hc h0
  go_enter Try.func13, Try.ntmps13
  go_wp2_with fail
  generalize hW1 : w.alloc _ = W1
  have HW1 : Hid (Kept w W1 ∧ Blk W1 w.heap.size (cl n0 n1 n2 n3 n4 n5 n6 n7 (.slice sx sl sc))) := by rw [← hW1]; exact ⟨(Kept.refl w).alloc _ _, Blk.new w _ _⟩
  clear hW1
  refine (C0.out _ HW1.out.1).mono ?_
  rintro e u1 ⟨rfl, K⟩
  have HW : Hid (Kept w u1 ∧ Blk u1 w.heap.size (cl n0 n1 n2 n3 n4 n5 n6 n7 (.slice sx sl sc))) := ⟨HW1.out.1.trans K, HW1.out.2.kept K⟩
  clear HW1 K
  by_cases hr0 : r0 = 0
  case neg =>
    have e0 : (r0 != 0) = true := by simpa using hr0
    have er : Hid (r = 1) := HH.out.2.1.range fun g => hr0 (H0.out.ok g.1.1 g.1.2)
    clear hr0
    go_wp2
    go_ret2
    exact ⟨by rw [er.out]; rfl, HW.out.1⟩
  subst hr0
  have HG : Hid (Good n0 n1 n2 n3 n4 n5 n6 n7 sl S) := H0.out.zero
  have c0 := HW.out.2.at 0 rfl
  have c1 := HW.out.2.at 1 rfl
  have c2 := HW.out.2.at 2 rfl
  have c3 := HW.out.2.at 3 rfl
  have c4 := HW.out.2.at 4 rfl
  have c5 := HW.out.2.at 5 rfl
  have c6 := HW.out.2.at 6 rfl
  have c7 := HW.out.2.at 7 rfl
  have c8 := HW.out.2.at 8 rfl
  go_wp2_with fail
  refine (C1.out _ HW.out.1).mono ?_
  rintro e u2 ⟨rfl, K⟩
  have HW2 : Hid (Kept w u2 ∧ Blk u2 w.heap.size (cl n0 n1 n2 n3 n4 n5 n6 n7 (.slice sx sl sc))) := ⟨HW.out.1.trans K, HW.out.2.kept K⟩
  clear HW K c0 c1 c2 c3 c4 c5 c6 c7 c8
  cases q1
  case true =>
    have er : Hid (r = 1) := HH.out.2.1.range fun g => absurd g.2 (H1.out.1 (by trivial))
    go_wp2
    go_ret2
    exact ⟨by rw [er.out]; rfl, HW2.out.1⟩
  have HA : Hid (AG n0 n1 n2 n3 n4 n5 n6 n7 sl S L l) := ⟨HG.out, Classical.byContradiction fun h => by have := H1.out.2 h; simp at this⟩
  clear H1 C1 C0 H0
  have c0 := HW2.out.2.at 0 rfl
  have c1 := HW2.out.2.at 1 rfl
  have c2 := HW2.out.2.at 2 rfl
  have c3 := HW2.out.2.at 3 rfl
  have c4 := HW2.out.2.at 4 rfl
  have c5 := HW2.out.2.at 5 rfl
  have c6 := HW2.out.2.at 6 rfl
  have c7 := HW2.out.2.at 7 rfl
  have c8 := HW2.out.2.at 8 rfl
  by_cases hk : kind < 0 ∨ (sl : Int) ≤ kind
  · have er : Hid (r = 4) := HH.out.2.1.kind HA.out fun q => by have := q.1; have := q.2.1; omega
    have CS : Hid (∀ w, Calls Try.prog 46 #[.agg #[.int .i64 n0, .int .i64 n1, .int .i64 n2, .int .i64 n3, .int .i64 n4, .int .i64 n5, .int .i64 n6, .int .i64 n7, .slice sx sl sc], .int .i64 kind] w _) := fun w => ref_shape_out n0 n1 n2 n3 n4 n5 n6 n7 sx sl sc kind w hk
    clear hk
    go_wp2_with fail
    refine (CS.out _).mono ?_
    rintro e u3 ⟨rfl, K⟩
    have HK : Hid (Kept w u3) := HW2.out.1.trans K
    clear HW2 K c0 c1 c2 c3 c4 c5 c6 c7 c8
    go_wp2
    go_ret2
    exact ⟨by rw [er.out]; rfl, HK.out.alloc _ _⟩
  obtain ⟨k, rfl⟩ : ∃ k : Nat, kind = k := ⟨kind.toNat, by omega⟩
  have hks : k < sl := by omega
  have HM : Hid ((S k).may = true) := HG.out.2.2.2 k hks
  have HKS : Hid (k < sl) := hks
  have CS : Hid (∀ w', Kept w w' → Calls Try.prog 46 #[.agg #[.int .i64 n0, .int .i64 n1, .int .i64 n2, .int .i64 n3, .int .i64 n4, .int .i64 n5, .int .i64 n6, .int .i64 n7, .slice sx sl sc], .int .i64 k] w' _) := fun w' q => ref_shape_in n0 n1 n2 n3 n4 n5 n6 n7 sx sl sc S k w' hks (HH.out.1.kept q)
  clear hk hks
  go_wp2_with fail
  refine (CS.out _ HW2.out.1).mono ?_
  rintro e u3 ⟨rfl, K⟩
  have HK3 : Hid (Kept w u3) := HW2.out.1.trans K
  clear HW2 K c0 c1 c2 c3 c4 c5 c6 c7 c8 CS
  cases hab : (S k).arr
  case true =>
    have er : Hid (r = 4) := HH.out.2.1.kind HA.out fun q => by have := q.2.2; rw [Int.toNat_natCast, hab] at this; cases this
    clear hab
    go_wp2
    go_ret2
    exact ⟨by rw [er.out]; rfl, HK3.out.alloc _ _⟩
  have HK : Hid (AK sl S k false) := ⟨by omega, by have := HKS.out; omega, by rw [Int.toNat_natCast]; exact hab⟩
  have hfl := (may_len HM.out).1 hab
  obtain ⟨fl, hfe⟩ : ∃ fl, (S k).l = fl := ⟨_, rfl⟩
  rw [hfe] at hfl ⊢
  obtain ⟨z, hz⟩ : ∃ z, 1 + (fl : Int) / 7 = z := ⟨_, rfl⟩
  have hI : AI S k 0 false := by unfold AI; rw [Int.toNat_natCast, hfe]; show (0 : Int) ≤ 1 + (fl : Int) / 7; omega
  have HI : Hid (AI S k 0 false) := hI
  have hF : AF S k 0 false L l ↔ (l : Int) = z ∧ ¬ Twice L l := by unfold AF; rw [Int.toNat_natCast, hfe, ← hz]; exact Iff.rfl
  have HF : Hid (AF S k 0 false L l ↔ (l : Int) = z ∧ ¬ Twice L l) := hF
  have CZ : Hid (∀ w, Calls Try.prog 47 #[.agg #[.bool false, .slice (S k).x fl (S k).c], .int .i64 0] w _) := fun w => rsize_obj (S k).x fl (S k).c z w hfl hz
  clear hab hfe hz hI hF
  go_wp2_with fail
  refine (CZ.out _).mono ?_
  rintro e u4 ⟨rfl, K⟩
  have HK4 : Hid (Kept w u4) := (HK3.out.alloc _ _).trans K
  clear K CZ
  by_cases hlz : (l : Int) = z
  case neg =>
    have e1 : ((l : Int) != z) = true := by simpa using hlz
    have er : Hid (r = 2) := HH.out.2.1.form HA.out HK.out HI.out fun q => hlz (HF.out.1 q).1
    clear hlz
    go_wp2
    go_ret2
    exact ⟨by rw [er.out]; rfl, HK4.out⟩
  have e1 : ((l : Int) != z) = false := by simpa using hlz
  have HL : Hid ((l : Int) = z) := hlz
  clear hlz
  go_wp2_with fail
  refine (C2.out _ HK4.out).mono ?_
  rintro e u5 ⟨rfl, K⟩
  have HK5 : Hid (Kept w u5) := HK4.out.trans K
  cases q2
  · exfalso
    exact HH.out.2.2 (HH.out.2.1.ok HA.out HK.out HI.out (HF.out.2 ⟨HL.out, fun q => by have := H2.out.2 q; simp at this⟩))
  · have er : Hid (r = 2) := HH.out.2.1.form HA.out HK.out HI.out fun q => (HF.out.1 q).2 (H2.out.1 (by trivial))
    go_wp2
    go_ret2
    exact ⟨by rw [er.out]; rfl, HK5.out⟩
end Go.Proofs.Ytpdclckgnajcdaa
