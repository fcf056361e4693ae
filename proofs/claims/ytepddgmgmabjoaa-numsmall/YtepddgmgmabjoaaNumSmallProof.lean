/-
  NumSmall: for all whole numbers a, b, c, d the law NumSmall of package spolaw1 returns true (no conditions); its arguments read as before.
-/
import Derived.Test.YtepddgmgmabjoaaNum
import Derived.WalkKit
import Derived.ProofKit
import Derived.OpenShut
namespace Go.Proofs.Ytepddgmgmabjoaa.numSmall
open Go.ChangeShapes Go.WideShapes Go.ChangeAt Go.RowKit
set_option linter.unusedVariables false      -- a walk need not use every 'w<i>' (that an integer argument fits its kind)

theorem own : ownKnob Try.prog.godebug = none := by kernel_rfl

/-! ### STEP 1: THE WALK: the Go text returns true. 'Grown w w'': the world has at most new blocks (Derived/RowKit3.lean). Part the cases AHEAD of 'go_enter' where a test parts the walk; take each callee by a contract of your own. -/
theorem mul_bd (a b : Int) (K : Nat) (ha : a.natAbs ≤ 30000) (hb : b.natAbs ≤ 30000) : (a * b).natAbs ≤ 900000000 := by
  rw [Int.natAbs_mul]
  exact Nat.le_trans (Nat.mul_le_mul ha hb) (by decide)

set_option maxHeartbeats 1000000 in
theorem walk_out (a0 a1 a2 a3 : Int) (w : World) (h : a0 < -30000 ∨ 30000 < a0 ∨ a1 < -30000 ∨ 30000 < a1 ∨ a2 < -30000 ∨ 30000 < a2 ∨ a3 < -30000 ∨ 30000 < a3) :
    Calls Try.prog 3 #[.int .i64 a0, .int .i64 a1, .int .i64 a2, .int .i64 a3] w fun e w' => e = .returned (.bool true) ∧ w' = w := by
  by_cases h0 : a0 < -30000
  · clear h
    go_enter Try.func3, Try.ntmps3
    go_wp2_with (go_at_call 6; refine (first_any _).mono ?_; rintro e w' ⟨rfl, rfl⟩)
    go_ret
    exact ⟨rfl, rfl⟩
  by_cases h1 : 30000 < a0
  · clear h
    go_enter Try.func3, Try.ntmps3
    go_wp2_with (go_at_call 6; refine (first_any _).mono ?_; rintro e w' ⟨rfl, rfl⟩)
    go_ret
    exact ⟨rfl, rfl⟩
  by_cases h2 : a1 < -30000
  · clear h
    go_enter Try.func3, Try.ntmps3
    go_wp2_with (go_at_call 6; refine (first_any _).mono ?_; rintro e w' ⟨rfl, rfl⟩)
    go_ret
    exact ⟨rfl, rfl⟩
  by_cases h3 : 30000 < a1
  · clear h
    go_enter Try.func3, Try.ntmps3
    go_wp2_with (go_at_call 6; refine (first_any _).mono ?_; rintro e w' ⟨rfl, rfl⟩)
    go_ret
    exact ⟨rfl, rfl⟩
  by_cases h4 : a2 < -30000
  · clear h
    go_enter Try.func3, Try.ntmps3
    go_wp2_with (go_at_call 6; refine (first_any _).mono ?_; rintro e w' ⟨rfl, rfl⟩)
    go_ret
    exact ⟨rfl, rfl⟩
  by_cases h5 : 30000 < a2
  · clear h
    go_enter Try.func3, Try.ntmps3
    go_wp2_with (go_at_call 6; refine (first_any _).mono ?_; rintro e w' ⟨rfl, rfl⟩)
    go_ret
    exact ⟨rfl, rfl⟩
  by_cases h6 : a3 < -30000
  · clear h
    go_enter Try.func3, Try.ntmps3
    go_wp2_with (go_at_call 6; refine (first_any _).mono ?_; rintro e w' ⟨rfl, rfl⟩)
    go_ret
    exact ⟨rfl, rfl⟩
  have h7 : 30000 < a3 := by omega
  clear h
  go_enter Try.func3, Try.ntmps3
  go_wp2_with (go_at_call 6; refine (first_any _).mono ?_; rintro e w' ⟨rfl, rfl⟩)
  go_ret
  exact ⟨rfl, rfl⟩

set_option maxHeartbeats 1000000 in
theorem walk_in (a b c d : Int) (w : World) (ha1 : -30000 ≤ a) (ha2 : a ≤ 30000) (hb1 : -30000 ≤ b) (hb2 : b ≤ 30000) (hc1 : -30000 ≤ c) (hc2 : c ≤ 30000) (hd1 : -30000 ≤ d) (hd2 : d ≤ 30000) :
    Calls Try.prog 3 #[.int .i64 a, .int .i64 b, .int .i64 c, .int .i64 d] w fun e w' => e = .returned (.bool true) ∧ w' = w := by
  have fa := Flo.isI_fi a (by omega)
  have fb := Flo.isI_fi b (by omega)
  have fc := Flo.isI_fi c (by omega)
  have fd := Flo.isI_fi d (by omega)
  have bac := mul_bd a c 0 (by omega) (by omega)
  have bbd := mul_bd b d 0 (by omega) (by omega)
  have bad := mul_bd a d 0 (by omega) (by omega)
  have bbc := mul_bd b c 0 (by omega) (by omega)
  obtain ⟨ac, hac, iac⟩ := Flo.isI_mul fa fc (by omega)
  obtain ⟨bd, hbd, ibd⟩ := Flo.isI_mul fb fd (by omega)
  obtain ⟨ad, had, iad⟩ := Flo.isI_mul fa fd (by omega)
  obtain ⟨bc, hbc, ibc⟩ := Flo.isI_mul fb fc (by omega)
  obtain ⟨pr, hpr, ipr⟩ := Flo.isI_sub iac ibd (by omega)
  obtain ⟨pi, hpi, ipi⟩ := Flo.isI_add iad ibc (by omega)
  have sr := Flo.add_fi a c (by omega) (by omega) (by omega)
  have si := Flo.add_fi b d (by omega) (by omega) (by omega)
  have tr := Flo.sub_fi (a + c) c (by omega) (by omega) (by omega)
  have ti := Flo.sub_fi (b + d) d (by omega) (by omega) (by omega)
  rw [show a + c - c = a by omega] at tr
  rw [show b + d - d = b by omega] at ti
  have ur := Flo.add_fi a 0 (by omega) (by decide) (by omega)
  have ui := Flo.add_fi b 0 (by omega) (by decide) (by omega)
  rw [Int.add_zero] at ur ui
  have z : floatOfInt .f64 0 = 0 := by decide +kernel
  rw [z] at ur ui
  have sfa := Flo.isI_self fa
  have sfb := Flo.isI_self fb
  have c1 := fun w => run_convert_float_int (P := Try.prog) w 24 3 .f64 .i64 _ _ (by kernel_rfl) Try.underlying3 (Flo.isI_toInt ipr)
  have c2 := fun w => run_convert_float_int (P := Try.prog) w 24 3 .f64 .i64 _ _ (by kernel_rfl) Try.underlying3 (Flo.isI_toInt ipi)
  have c3 := fun w => run_convert_float_int (P := Try.prog) w 24 3 .f64 .i64 _ _ (by kernel_rfl) Try.underlying3 (Flo.isI_toInt (Flo.isI_fi (a + c) (by omega)))
  have c4 := fun w => run_convert_float_int (P := Try.prog) w 24 3 .f64 .i64 _ _ (by kernel_rfl) Try.underlying3 (Flo.isI_toInt (Flo.isI_fi (b + d) (by omega)))
  have M := fun w => mul_any _ _ _ _ _ _ _ _ _ _ w hac hbd had hbc hpr hpi
  have A := fun w => add_any _ _ _ _ _ _ w sr si
  have S := fun w => sub_any _ _ _ _ _ _ w tr ti
  have U := fun w => add_any _ _ _ _ _ _ w ur ui
  have E := fun w => same_yes _ _ w sfa sfb
  have q1 : -900000000 ≤ a * c ∧ a * c ≤ 900000000 := by omega
  have q2 : -900000000 ≤ b * d ∧ b * d ≤ 900000000 := by omega
  have q3 : -900000000 ≤ a * d ∧ a * d ≤ 900000000 := by omega
  have q4 : -900000000 ≤ b * c ∧ b * c ≤ 900000000 := by omega
  obtain ⟨q11, q12⟩ := q1
  obtain ⟨q21, q22⟩ := q2
  obtain ⟨q31, q32⟩ := q3
  obtain ⟨q41, q42⟩ := q4
  have M : Hid _ := M
  have A : Hid _ := A
  have S : Hid _ := S
  have U : Hid _ := U
  have E : Hid _ := E
  clear fa fb fc fd bac bbd bad bbc iac ibd iad ibc ipr ipi hac hbd had hbc hpr hpi sr si tr ti ur ui sfa sfb z
  go_enter Try.func3, Try.ntmps3
  go_wp2_with fail
  refine (first_any _).mono ?_
  rintro e w' ⟨rfl, rfl⟩
  go_wp2_with fail
  refine (M.out _).mono ?_
  rintro e w' ⟨rfl, rfl⟩
  go_wp2_with fail
  refine (A.out _).mono ?_
  rintro e w' ⟨rfl, rfl⟩
  go_wp2_with fail
  refine (first_any _).mono ?_
  rintro e w' ⟨rfl, rfl⟩
  go_wp2_with fail
  refine (S.out _).mono ?_
  rintro e w' ⟨rfl, rfl⟩
  go_wp2_with fail
  refine (U.out _).mono ?_
  rintro e w' ⟨rfl, rfl⟩
  go_wp2_with fail
  refine (E.out _).mono ?_
  rintro e w' ⟨rfl, rfl⟩
  go_wp2
  go_ret
  exact ⟨rfl, rfl⟩

theorem walk (a0 : Int) (a1 : Int) (a2 : Int) (a3 : Int) (w0 : (Lit.int .i64 a0).wf = true) (w1 : (Lit.int .i64 a1).wf = true) (w2 : (Lit.int .i64 a2).wf = true) (w3 : (Lit.int .i64 a3).wf = true) (w : World) :
    Calls Try.prog 3 #[.int .i64 a0, .int .i64 a1, .int .i64 a2, .int .i64 a3] w fun e w' => e = .returned (.bool true) ∧ Grown w w' := by
  by_cases h : a0 < -30000 ∨ 30000 < a0 ∨ a1 < -30000 ∨ 30000 < a1 ∨ a2 < -30000 ∨ 30000 < a2 ∨ a3 < -30000 ∨ 30000 < a3
  · refine (walk_out a0 a1 a2 a3 w h).mono ?_
    rintro e w' ⟨rfl, rfl⟩
    exact ⟨rfl, Grown.refl _⟩
  · refine (walk_in a0 a1 a2 a3 w (by omega) (by omega) (by omega) (by omega) (by omega) (by omega) (by omega) (by omega)).mono ?_
    rintro e w' ⟨rfl, rfl⟩
    exact ⟨rfl, Grown.refl _⟩

/-! ### THE ROW's STEP: WRITTEN OUT: LEAVE IT -/
set_option maxRecDepth 100000 in
theorem lifted (os : Os) (started : os.Started) (H : Type) (enc : TypeId × Value → H) :
    ReturnsInHanded {} Try.checked os 3 .any (Rows.numSmallSpec.pre6 enc Try.prog Try.f3 Rows.numSmallRow.domain false) (Rows.numSmallSpec.post enc Try.prog Try.f3 false true false false) := by
  refine returnsInHanded_of_change (C := Try.checked) own started (by kernel_rfl) Try.func3
    (ChangeSpec.witness6 (enc := enc) (C := Try.checked) false ⟨#[], #[.int .i64 0, .int .i64 0, .int .i64 0, .int .i64 0], []⟩ 8 (by kernel_rfl) (by kernel_rfl) (by kernel_rfl) (by kernel_rfl)) ?_
  intro W base args ds gs before hval0 hW hcnd _
  have hval : ∀ (j : Nat) t v, Try.f3.params[j]? = some t → args[j]? = some v → Value.okWide Try.prog W .any base t v := hval0
  have hW' := hW
  obtain ⟨p, q, hA0, hV, rfl, hfz, hnd⟩ := hW
  have hA : DataW.TrodAll enc Try.prog W 0 (fun _ => true) true Try.f3.params.toList args.toList ds p := hA0
  rw [Try.params3] at hA hval
  obtain ⟨v0, vs0, d0, ds0, p0, q0, hargs, rfl, rfl, h0, r0⟩ := trodAll_cons hA
  obtain ⟨v1, vs1, d1, ds1, p1, q1, rfl, rfl, rfl, h1, r1⟩ := trodAll_cons r0
  obtain ⟨v2, vs2, d2, ds2, p2, q2, rfl, rfl, rfl, h2, r2⟩ := trodAll_cons r1
  obtain ⟨v3, vs3, d3, ds3, p3, q3, rfl, rfl, rfl, h3, r3⟩ := trodAll_cons r2
  obtain ⟨rfl, rfl, rfl⟩ := trodAll_nil r3
  obtain rfl : args = #[v0, v1, v2, v3] := by cases args; simp_all
  obtain ⟨rfl, rfl⟩ := trodVars_none hV
  obtain ⟨a0, rfl, rfl, rfl, w0⟩ := open_int Try.underlying3 (hval 0 3 v0 rfl rfl) h0
  obtain ⟨a1, rfl, rfl, rfl, w1⟩ := open_int Try.underlying3 (hval 1 3 v1 rfl rfl) h1
  obtain ⟨a2, rfl, rfl, rfl, w2⟩ := open_int Try.underlying3 (hval 2 3 v2 rfl rfl) h2
  obtain ⟨a3, rfl, rfl, rfl, w3⟩ := open_int Try.underlying3 (hval 3 3 v3 rfl rfl) h3
  clear hA0 hval0
  simp only [List.append_nil] at hW'
  refine (walk a0 a1 a2 a3 w0 w1 w2 w3 W).mono fun e W' ⟨he, hg⟩ => ?_
  subst he
  exact ⟨_, rfl, post_of_same (pa := []) (pv := []) hW' (fun _ _ _ => (trodAll_cons_mk (shut_bool Try.underlying4 _) trodAll_mk0)) (fun sp _ => (trodAll_cons_mk (shut_int Try.underlying3 w0) (trodAll_cons_mk (shut_int Try.underlying3 w1) (trodAll_cons_mk (shut_int Try.underlying3 w2) (trodAll_cons_mk (shut_int Try.underlying3 w3) trodAll_mk0))))) (fun _ _ => rfl) rfl
    (hg.frame _) hg.2.1 (ok_one (by kernel_rfl) rfl (okWide_bool_mk Try.underlying4 _))⟩

theorem over : Rows.numSmallRow.holds Try.pinned (OpenSpec.ofChange Rows.numSmallSpec) :=
  OpenClaim.holds_of_wide 3 Try.f3 rfl rfl rfl rfl rfl rfl rfl ⟨rfl, rfl, rfl, rfl, rfl⟩ rfl rfl rfl rfl rfl (by kernel_rfl) Try.func3 (by kernel_rfl)
    (of_decide_eq_true (by kernel_rfl)) (by unfold Func.isWrapper; first | (rw [if_pos (by decide +kernel)]; kernel_rfl) | (rw [if_neg (by decide +kernel)]; exact ⟨rfl, rfl⟩))
    (fun os started H enc _ => lifted os started H enc)

/-- ████ THE STATEMENT ████ -/
theorem proved : Rows.NumSmallSaid :=
  over
#print axioms proved
end Go.Proofs.Ytepddgmgmabjoaa.numSmall
