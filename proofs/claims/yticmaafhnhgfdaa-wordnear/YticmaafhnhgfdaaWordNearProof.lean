/-
  WordNear: for every whole number i and every float x the law WordNear of package spolaw2 returns true (no conditions); its arguments read as before.
-/
import Derived.Test.YticmaafhnhgfdaaWord
import Derived.Test.YticmaafhnhgfdaaFloOne
import Derived.WalkKit
import Derived.ProofKit
import Derived.OpenShut
import Derived.Laws.Cover2
namespace Go.Proofs.Yticmaafhnhgfdaa.wordNear
open Go.ChangeShapes Go.WideShapes Go.ChangeAt Go.RowKit
set_option linter.unusedVariables false      -- a walk need not use every 'w<i>' (that an integer argument fits its kind)

theorem own : ownKnob Try.prog.godebug = none := by kernel_rfl

/-! ### STEP 1: THE WALK: the Go text returns true. 'Grown w w'': the world has at most new blocks (Derived/RowKit3.lean). Part the cases AHEAD of 'go_enter' where a test parts the walk; take each callee by a contract of your own. -/
set_option maxHeartbeats 1000000 in
theorem walk_out (a0 : Int) (x : Nat) (w : World) (h : a0 < 0 ∨ 1099511627776 < a0) :
    Calls Try.prog 4 #[.int .i64 a0, .float .f64 x] w fun e w' => e = .returned (.bool true) ∧ w' = w := by
  have R : Hid (∀ w, Calls Try.prog 10 #[.int .i64 a0] w _) := fun w => ref_out a0 w h
  have W : Hid (∀ w, Calls Try.prog 12 #[.complex .f64 0 4607182418800017408, .complex .f64 0 4607182418800017408] w _) := word_is _ _ _ _ true nn_zero nn_one nn_zero nn_one (by decide +kernel)
  by_cases h0 : a0 < 0
  · clear h
    go_enter Try.func4, Try.ntmps4
    go_wp2_with fail
    refine (first_any _).mono ?_
    rintro e w' ⟨rfl, rfl⟩
    go_wp2_with fail
    refine (first_any _).mono ?_
    rintro e w' ⟨rfl, rfl⟩
    go_wp2_with fail
    refine (R.out _).mono ?_
    rintro e w' ⟨rfl, rfl⟩
    go_wp2_with fail
    refine (none_any _).mono ?_
    rintro e w' ⟨rfl, rfl⟩
    go_wp2_with fail
    refine (W.out _).mono ?_
    rintro e w' ⟨rfl, rfl⟩
    go_wp2
    go_ret
    exact ⟨rfl, rfl⟩
  have h1 : 1099511627776 < a0 := by omega
  clear h
  go_enter Try.func4, Try.ntmps4
  go_wp2_with fail
  refine (first_any _).mono ?_
  rintro e w' ⟨rfl, rfl⟩
  go_wp2_with fail
  refine (first_any _).mono ?_
  rintro e w' ⟨rfl, rfl⟩
  go_wp2_with fail
  refine (R.out _).mono ?_
  rintro e w' ⟨rfl, rfl⟩
  go_wp2_with fail
  refine (none_any _).mono ?_
  rintro e w' ⟨rfl, rfl⟩
  go_wp2_with fail
  refine (W.out _).mono ?_
  rintro e w' ⟨rfl, rfl⟩
  go_wp2
  go_ret
  exact ⟨rfl, rfl⟩

/-- A part has the bits of 1 just where it is 1. -/
theorem one_bits (x : Nat) (hx : x < 2 ^ 64) : decide (4607182418800017408 = nb x) = (FloatKind.f64.format.order x 4607182418800017408 == some .eq) := by
  have e1 : (FloatKind.f64.format.order x 4607182418800017408 == some .eq) = decide (x = 4607182418800017408) := by
    show (Ieee.double.order x 4607182418800017408 == some .eq) = _
    by_cases h : x = 4607182418800017408
    · subst h; decide +kernel
    · rw [show decide (x = 4607182418800017408) = false from decide_eq_false h]
      have : ¬ Ieee.double.order x 4607182418800017408 = some .eq := fun e => h (Flo.eq_one x hx e)
      simpa using this
  rw [e1]
  apply decide_eq_decide.2
  unfold nb
  by_cases h : Ieee.double.order x x = some .eq
  · rw [if_pos h]; exact eq_comm
  · rw [if_neg h]
    constructor
    · intro e; exact absurd e (by decide)
    · intro e; subst e; exact absurd (by decide +kernel) h

theorem neg_fi (n : Int) (h : 0 < n) : Op.negFloat .f64 (floatOfInt .f64 n) = floatOfInt .f64 (-n) := by
  show floatOfInt .f64 n ^^^ 2 ^ 63 = _
  rw [Flo.fi_eq, Flo.neg_F, Flo.fi_eq, Int.natAbs_neg]
  congr 1
  rw [show decide (n < 0) = false from decide_eq_false (by omega), show decide (-n < 0) = true from decide_eq_true (by omega)]
  rfl

set_option maxHeartbeats 1000000 in
theorem walk_in (i : Int) (x : Nat) (w : World) (q : Bool) (ho : (FloatKind.f64.format.order x 4607182418800017408 == some .eq) = q) (hx : x < 2 ^ 64) (h1 : 0 ≤ i) (h2 : i ≤ 1099511627776) :
    Calls Try.prog 4 #[.int .i64 i, .float .f64 x] w fun e w' => e = .returned (.bool true) ∧ w' = w := by
  obtain ⟨c, rfl⟩ : ∃ c : Nat, i = (c : Int) := ⟨i.toNat, by omega⟩
  obtain ⟨z, hz, rz⟩ := Flo.add_half (c + 1) (by omega)
  rw [show ((c + 1 : Nat) : Int) = (c : Int) + 1 by omega] at hz
  have hz' := fun w => run_float_arith (P := Try.prog) w .add 33 .f64 _ _ _ hz
  have hq := one_bits x hx
  rw [ho] at hq
  have ng := neg_fi ((c : Int) + 1) (by omega)
  have hu : ∀ b, Op.unary .neg (.float .f64 b) = pure (.float .f64 (Op.negFloat .f64 b)) := fun _ => rfl
  have R : Hid (∀ w, Calls Try.prog 10 #[.int .i64 c] w _) := fun w => ref_in c w (by omega) (by omega)
  have IH : Hid (∀ w, Calls Try.prog 9 #[.complex .f64 z 4607182418800017408] w _) := fun w => index_not z 4607182418800017408 w (fun w => int_half z (c + 1) w (by omega) rz)
  have IX : Hid (∀ w, Calls Try.prog 9 #[.complex .f64 (floatOfInt .f64 ((c : Int) + 1)) x] w _) := fun w => index_in ((c : Int) + 1) x w q hq (by omega) (by omega)
  have IN : Hid (∀ w, Calls Try.prog 9 #[.complex .f64 (floatOfInt .f64 (-((c : Int) + 1))) 4607182418800017408] w _) := fun w => index_out (-((c : Int) + 1)) 4607182418800017408 w (by omega) (by omega)
  have IS : Hid (∀ w, Calls Try.prog 7 #[.complex .f64 (floatOfInt .f64 ((c : Int) + 1)) 0] w _) := fun w => is_in ((c : Int) + 1) 0 w false (by decide +kernel) (by omega) (by omega)
  clear hq hz rz
  cases q
  all_goals
    go_enter Try.func4, Try.ntmps4
    go_wp2_with fail
    refine (first_any _).mono ?_
    rintro e w' ⟨rfl, rfl⟩
    go_wp2_with fail
    refine (R.out _).mono ?_
    rintro e w' ⟨rfl, rfl⟩
    go_wp2_with fail
    refine (IH.out _).mono ?_
    rintro e w' ⟨rfl, rfl⟩
    go_wp2_with fail
    refine (IX.out _).mono ?_
    rintro e w' ⟨rfl, rfl⟩
    go_wp2_with fail
    refine (IN.out _).mono ?_
    rintro e w' ⟨rfl, rfl⟩
    go_wp2_with fail
    refine (first_any _).mono ?_
    rintro e w' ⟨rfl, rfl⟩
    go_wp2_with fail
    refine (IS.out _).mono ?_
    rintro e w' ⟨rfl, rfl⟩
    go_wp2
    go_ret
    exact ⟨rfl, rfl⟩

theorem walk (a0 : Int) (x : Nat) (w0 : (Lit.int .i64 a0).wf = true) (wx : (Lit.float .f64 x).wf = true) (w : World) :
    Calls Try.prog 4 #[.int .i64 a0, .float .f64 x] w fun e w' => e = .returned (.bool true) ∧ Grown w w' := by
  have hx : x < 2 ^ 64 := by simpa [Lit.wf] using wx
  by_cases h : a0 < 0 ∨ 1099511627776 < a0
  · refine (walk_out a0 x w h).mono ?_
    rintro e w' ⟨rfl, rfl⟩
    exact ⟨rfl, Grown.refl _⟩
  · refine (walk_in a0 x w _ rfl hx (by omega) (by omega)).mono ?_
    rintro e w' ⟨rfl, rfl⟩
    exact ⟨rfl, Grown.refl _⟩

/-! ### THE ROW's STEP: WRITTEN OUT: LEAVE IT -/
set_option maxRecDepth 100000 in
theorem lifted (os : Os) (started : os.Started) (H : Type) (enc : TypeId × Value → H) :
    ReturnsInHanded {} Try.checked os 4 .any (Rows.wordNearSpec.pre6 enc Try.prog Try.f4 Rows.wordNearRow.domain false) (Rows.wordNearSpec.post enc Try.prog Try.f4 false true false false) := by
  refine returnsInHanded_of_change (C := Try.checked) own started (by kernel_rfl) Try.func4
    (ChangeSpec.witness6 (enc := enc) (C := Try.checked) false ⟨#[], #[.int .i64 0, .float .f64 0], []⟩ 8 (by kernel_rfl) (by kernel_rfl) (by kernel_rfl) (by kernel_rfl)) ?_
  intro W base args ds gs before hval0 hW hcnd _
  have hval : ∀ (j : Nat) t v, Try.f4.params[j]? = some t → args[j]? = some v → Value.okWide Try.prog W .any base t v := hval0
  have hW' := hW
  obtain ⟨p, q, hA0, hV, rfl, hfz, hnd⟩ := hW
  have hA : DataW.TrodAll enc Try.prog W 0 (fun _ => true) true Try.f4.params.toList args.toList ds p := hA0
  rw [Try.params4] at hA hval
  obtain ⟨v0, vs0, d0, ds0, p0, q0, hargs, rfl, rfl, h0, r0⟩ := trodAll_cons hA
  obtain ⟨v1, vs1, d1, ds1, p1, q1, rfl, rfl, rfl, h1, r1⟩ := trodAll_cons r0
  obtain ⟨rfl, rfl, rfl⟩ := trodAll_nil r1
  obtain rfl : args = #[v0, v1] := by cases args; simp_all
  obtain ⟨rfl, rfl⟩ := trodVars_none hV
  obtain ⟨a0, rfl, rfl, rfl, w0⟩ := open_int Try.underlying3 (hval 0 3 v0 rfl rfl) h0
  obtain ⟨a1, rfl, rfl, rfl, w1⟩ := open_float Try.underlying33 (hval 1 33 v1 rfl rfl) h1
  clear hA0 hval0
  simp only [List.append_nil] at hW'
  refine (walk a0 a1 w0 w1 W).mono fun e W' ⟨he, hg⟩ => ?_
  subst he
  exact ⟨_, rfl, post_of_same (pa := []) (pv := []) hW' (fun _ _ _ => (trodAll_cons_mk (shut_bool Try.underlying4 _) trodAll_mk0)) (fun sp _ => (trodAll_cons_mk (shut_int Try.underlying3 w0) (trodAll_cons_mk (shut_float Try.underlying33 w1) trodAll_mk0))) (fun _ _ => rfl) rfl
    (hg.frame _) hg.2.1 (ok_one (by kernel_rfl) rfl (okWide_bool_mk Try.underlying4 _))⟩

theorem over : Rows.wordNearRow.holds Try.pinned (OpenSpec.ofChange Rows.wordNearSpec) :=
  OpenClaim.holds_of_wide 4 Try.f4 rfl rfl rfl rfl rfl rfl rfl ⟨rfl, rfl, rfl, rfl, rfl⟩ rfl rfl rfl rfl rfl (by kernel_rfl) Try.func4 (by kernel_rfl)
    (of_decide_eq_true (by kernel_rfl)) (by unfold Func.isWrapper; first | (rw [if_pos (by decide +kernel)]; kernel_rfl) | (rw [if_neg (by decide +kernel)]; exact ⟨rfl, rfl⟩))
    (fun os started H enc _ => lifted os started H enc)

/-- ████ THE STATEMENT ████ -/
theorem proved : Rows.WordNearSaid :=
  over
#print axioms proved
end Go.Proofs.Yticmaafhnhgfdaa.wordNear
