/-
  WordBack: for all whole numbers i, j, mode the law WordBack of package spolaw2 returns true (no conditions); its arguments read as before.
-/
import Derived.Test.YticmaafhnhgfdaaWord
import Derived.WalkKit
import Derived.ProofKit
import Derived.OpenShut
namespace Go.Proofs.Yticmaafhnhgfdaa.wordBack
open Go.ChangeShapes Go.WideShapes Go.ChangeAt Go.RowKit
set_option linter.unusedVariables false      -- a walk need not use every 'w<i>' (that an integer argument fits its kind)

theorem own : ownKnob Try.prog.godebug = none := by kernel_rfl

/-! ### STEP 1: THE WALK: the Go text returns true. 'Grown w w'': the world has at most new blocks (Derived/RowKit3.lean). Part the cases AHEAD of 'go_enter' where a test parts the walk; take each callee by a contract of your own. -/
theorem is_zero (w : World) : Calls Try.prog 7 #[.complex .f64 0 0] w fun e w' => e = .returned (.bool false) ∧ w' = w := by
  have := is_in 0 0 w false (by decide +kernel) (by decide) (by decide)
  rw [fi_zero] at this
  exact this

/-- Is of a Head without a mode. -/
theorem head_zero (a0 : Int) : ∃ x, (∀ w, Calls Try.prog 8 #[.int .i64 a0, .int .i64 0] w fun e w' => e = .returned (.complex .f64 x 0) ∧ w' = w) ∧ (∀ w, Calls Try.prog 7 #[.complex .f64 x 0] w fun e w' => e = .returned (.bool false) ∧ w' = w) := by
  by_cases h : a0 < 0 ∨ 1099511627776 < a0
  · exact ⟨0, fun w => head_out a0 0 w (Or.inl h), is_zero⟩
  · refine ⟨floatOfInt .f64 a0, fun w => ?_, fun w => is_in a0 0 w false (by decide +kernel) (by omega) (by omega)⟩
    have := head_in a0 0 w (by omega) (by omega) (by decide) (by decide)
    rw [fi_zero] at this
    exact this

set_option maxHeartbeats 1000000 in
theorem walk_out (a0 a1 a2 : Int) (w : World) (h : a0 < 0 ∨ 1099511627776 < a0 ∨ a1 < 0 ∨ 1099511627776 < a1 ∨ a2 < 0 ∨ 1099511627776 < a2) :
    Calls Try.prog 3 #[.int .i64 a0, .int .i64 a1, .int .i64 a2] w fun e w' => e = .returned (.bool true) ∧ w' = w := by
  obtain ⟨x, HX, SX⟩ := head_zero a0
  have HX : Hid _ := HX
  have SX : Hid _ := SX
  have S0 : Hid _ := is_zero
  by_cases g0 : a0 < 0
  · clear h
    go_enter Try.func3, Try.ntmps3
    go_wp2_with fail
    refine (first_any _).mono ?_
    rintro e w' ⟨rfl, rfl⟩
    go_wp2_with fail
    refine (first_any _).mono ?_
    rintro e w' ⟨rfl, rfl⟩
    go_wp2_with fail
    refine (HX.out _).mono ?_
    rintro e w' ⟨rfl, rfl⟩
    go_wp2_with fail
    refine (SX.out _).mono ?_
    rintro e w' ⟨rfl, rfl⟩
    go_wp2_with fail
    refine (S0.out _).mono ?_
    rintro e w' ⟨rfl, rfl⟩
    go_wp2
    go_ret
    exact ⟨rfl, rfl⟩
  by_cases g1 : 1099511627776 < a0
  · clear h
    go_enter Try.func3, Try.ntmps3
    go_wp2_with fail
    refine (first_any _).mono ?_
    rintro e w' ⟨rfl, rfl⟩
    go_wp2_with fail
    refine (first_any _).mono ?_
    rintro e w' ⟨rfl, rfl⟩
    go_wp2_with fail
    refine (HX.out _).mono ?_
    rintro e w' ⟨rfl, rfl⟩
    go_wp2_with fail
    refine (SX.out _).mono ?_
    rintro e w' ⟨rfl, rfl⟩
    go_wp2_with fail
    refine (S0.out _).mono ?_
    rintro e w' ⟨rfl, rfl⟩
    go_wp2
    go_ret
    exact ⟨rfl, rfl⟩
  by_cases g2 : a1 < 0
  · clear h
    go_enter Try.func3, Try.ntmps3
    go_wp2_with fail
    refine (first_any _).mono ?_
    rintro e w' ⟨rfl, rfl⟩
    go_wp2_with fail
    refine (first_any _).mono ?_
    rintro e w' ⟨rfl, rfl⟩
    go_wp2_with fail
    refine (HX.out _).mono ?_
    rintro e w' ⟨rfl, rfl⟩
    go_wp2_with fail
    refine (SX.out _).mono ?_
    rintro e w' ⟨rfl, rfl⟩
    go_wp2_with fail
    refine (S0.out _).mono ?_
    rintro e w' ⟨rfl, rfl⟩
    go_wp2
    go_ret
    exact ⟨rfl, rfl⟩
  by_cases g3 : 1099511627776 < a1
  · clear h
    go_enter Try.func3, Try.ntmps3
    go_wp2_with fail
    refine (first_any _).mono ?_
    rintro e w' ⟨rfl, rfl⟩
    go_wp2_with fail
    refine (first_any _).mono ?_
    rintro e w' ⟨rfl, rfl⟩
    go_wp2_with fail
    refine (HX.out _).mono ?_
    rintro e w' ⟨rfl, rfl⟩
    go_wp2_with fail
    refine (SX.out _).mono ?_
    rintro e w' ⟨rfl, rfl⟩
    go_wp2_with fail
    refine (S0.out _).mono ?_
    rintro e w' ⟨rfl, rfl⟩
    go_wp2
    go_ret
    exact ⟨rfl, rfl⟩
  by_cases g4 : a2 < 0
  · clear h
    go_enter Try.func3, Try.ntmps3
    go_wp2_with fail
    refine (first_any _).mono ?_
    rintro e w' ⟨rfl, rfl⟩
    go_wp2_with fail
    refine (first_any _).mono ?_
    rintro e w' ⟨rfl, rfl⟩
    go_wp2_with fail
    refine (HX.out _).mono ?_
    rintro e w' ⟨rfl, rfl⟩
    go_wp2_with fail
    refine (SX.out _).mono ?_
    rintro e w' ⟨rfl, rfl⟩
    go_wp2_with fail
    refine (S0.out _).mono ?_
    rintro e w' ⟨rfl, rfl⟩
    go_wp2
    go_ret
    exact ⟨rfl, rfl⟩
  have g5 : 1099511627776 < a2 := by omega
  clear h
  go_enter Try.func3, Try.ntmps3
  go_wp2_with fail
  refine (first_any _).mono ?_
  rintro e w' ⟨rfl, rfl⟩
  go_wp2_with fail
  refine (first_any _).mono ?_
  rintro e w' ⟨rfl, rfl⟩
  go_wp2_with fail
  refine (HX.out _).mono ?_
  rintro e w' ⟨rfl, rfl⟩
  go_wp2_with fail
  refine (SX.out _).mono ?_
  rintro e w' ⟨rfl, rfl⟩
  go_wp2_with fail
  refine (S0.out _).mono ?_
  rintro e w' ⟨rfl, rfl⟩
  go_wp2
  go_ret
  exact ⟨rfl, rfl⟩

theorem one_iff (m : Int) (h1 : 0 ≤ m) (h2 : m ≤ 1099511627776) : decide (4607182418800017408 = nb (floatOfInt .f64 m)) = decide (m = 1) := by
  rw [nb_fi m (by omega), ← fi_one]
  apply decide_eq_decide.2
  constructor
  · intro e; exact (fi_inj (by decide) (by omega) e).symm
  · intro e; rw [e]

theorem ref_iff (i j : Int) (h1 : 0 ≤ i) (h2 : i ≤ 1099511627776) (h3 : 0 ≤ j) (h4 : j ≤ 1099511627776) :
    decide (floatOfInt .f64 (i + 1) = floatOfInt .f64 (j + 1) ∧ (4607182418800017408 : Nat) = 4607182418800017408) = decide (i = j) := by
  apply decide_eq_decide.2
  constructor
  · intro e
    have := fi_inj (by omega) (by omega) e.1
    omega
  · intro e; rw [e]; exact ⟨rfl, rfl⟩

set_option maxHeartbeats 1000000 in
theorem walk_in (i j m : Int) (w : World) (p q : Bool) (hp : (i == j) = p) (hq : (m == 1) = q) (hi1 : 0 ≤ i) (hi2 : i ≤ 1099511627776) (hj1 : 0 ≤ j) (hj2 : j ≤ 1099511627776) (hm1 : 0 ≤ m) (hm2 : m ≤ 1099511627776) :
    Calls Try.prog 3 #[.int .i64 i, .int .i64 j, .int .i64 m] w fun e w' => e = .returned (.bool true) ∧ w' = w := by
  have R : Hid (∀ w, Calls Try.prog 10 #[.int .i64 i] w _) := fun w => ref_in i w (by omega) (by omega)
  have RJ : Hid (∀ w, Calls Try.prog 10 #[.int .i64 j] w _) := fun w => ref_in j w (by omega) (by omega)
  have I : Hid (∀ w, Calls Try.prog 9 #[.complex .f64 (floatOfInt .f64 (i + 1)) 4607182418800017408] w _) := fun w => index_in (i + 1) 4607182418800017408 w true (by decide +kernel) (by omega) (by omega)
  have IS : Hid (∀ w, Calls Try.prog 7 #[.complex .f64 (floatOfInt .f64 (i + 1)) 4607182418800017408] w _) := fun w => is_in (i + 1) 4607182418800017408 w true (by decide +kernel) (by omega) (by omega)
  have H : Hid (∀ w, Calls Try.prog 8 #[.int .i64 i, .int .i64 m] w _) := fun w => head_in i m w (by omega) (by omega) (by omega) (by omega)
  have T : Hid (∀ w, Calls Try.prog 11 _ w _) := fun w => tell_in i m w (by omega) (by omega) (by omega) (by omega)
  have W : Hid (∀ w, Calls Try.prog 12 _ w _) := word_is _ _ _ _ p (nn_fi (i + 1)) nn_one (nn_fi (j + 1)) nn_one (by rw [ref_iff i j hi1 hi2 hj1 hj2, ← hp]; rfl)
  have IH : Hid (∀ w, Calls Try.prog 7 _ w _) := fun w => is_in i (floatOfInt .f64 m) w q (by rw [one_iff m hm1 hm2, ← hq]; rfl) (by omega) (by omega)
  cases q
  all_goals
    go_enter Try.func3, Try.ntmps3
    go_wp2_with fail
    refine (first_any _).mono ?_
    rintro e w' ⟨rfl, rfl⟩
    go_wp2_with fail
    refine (R.out _).mono ?_
    rintro e w' ⟨rfl, rfl⟩
    go_wp2_with fail
    refine (I.out _).mono ?_
    rintro e w' ⟨rfl, rfl⟩
    go_wp2_with fail
    refine (H.out _).mono ?_
    rintro e w' ⟨rfl, rfl⟩
    go_wp2_with fail
    refine (T.out _).mono ?_
    rintro e w' ⟨rfl, rfl⟩
    go_wp2_with fail
    refine (R.out _).mono ?_
    rintro e w' ⟨rfl, rfl⟩
    go_wp2_with fail
    refine (RJ.out _).mono ?_
    rintro e w' ⟨rfl, rfl⟩
    go_wp2_with fail
    refine (W.out _).mono ?_
    rintro e w' ⟨rfl, rfl⟩
    go_wp2_with fail
    refine (first_any _).mono ?_
    rintro e w' ⟨rfl, rfl⟩
    go_wp2_with fail
    refine (R.out _).mono ?_
    rintro e w' ⟨rfl, rfl⟩
    go_wp2_with fail
    refine (IS.out _).mono ?_
    rintro e w' ⟨rfl, rfl⟩
    go_wp2_with fail
    refine (H.out _).mono ?_
    rintro e w' ⟨rfl, rfl⟩
    go_wp2_with fail
    refine (IH.out _).mono ?_
    rintro e w' ⟨rfl, rfl⟩
    go_wp2
    go_ret
    exact ⟨rfl, rfl⟩

theorem walk (a0 : Int) (a1 : Int) (a2 : Int) (w0 : (Lit.int .i64 a0).wf = true) (w1 : (Lit.int .i64 a1).wf = true) (w2 : (Lit.int .i64 a2).wf = true) (w : World) :
    Calls Try.prog 3 #[.int .i64 a0, .int .i64 a1, .int .i64 a2] w fun e w' => e = .returned (.bool true) ∧ Grown w w' := by
  by_cases h : a0 < 0 ∨ 1099511627776 < a0 ∨ a1 < 0 ∨ 1099511627776 < a1 ∨ a2 < 0 ∨ 1099511627776 < a2
  · refine (walk_out a0 a1 a2 w h).mono ?_
    rintro e w' ⟨rfl, rfl⟩
    exact ⟨rfl, Grown.refl _⟩
  · refine (walk_in a0 a1 a2 w _ _ rfl rfl (by omega) (by omega) (by omega) (by omega) (by omega) (by omega)).mono ?_
    rintro e w' ⟨rfl, rfl⟩
    exact ⟨rfl, Grown.refl _⟩

/-! ### THE ROW's STEP: WRITTEN OUT: LEAVE IT -/
set_option maxRecDepth 100000 in
theorem lifted (os : Os) (started : os.Started) (H : Type) (enc : TypeId × Value → H) :
    ReturnsInHanded {} Try.checked os 3 .any (Rows.wordBackSpec.pre6 enc Try.prog Try.f3 Rows.wordBackRow.domain false) (Rows.wordBackSpec.post enc Try.prog Try.f3 false true false false) := by
  refine returnsInHanded_of_change (C := Try.checked) own started (by kernel_rfl) Try.func3
    (ChangeSpec.witness6 (enc := enc) (C := Try.checked) false ⟨#[], #[.int .i64 0, .int .i64 0, .int .i64 0], []⟩ 8 (by kernel_rfl) (by kernel_rfl) (by kernel_rfl) (by kernel_rfl)) ?_
  intro W base args ds gs before hval0 hW hcnd _
  have hval : ∀ (j : Nat) t v, Try.f3.params[j]? = some t → args[j]? = some v → Value.okWide Try.prog W .any base t v := hval0
  have hW' := hW
  obtain ⟨p, q, hA0, hV, rfl, hfz, hnd⟩ := hW
  have hA : DataW.TrodAll enc Try.prog W 0 (fun _ => true) true Try.f3.params.toList args.toList ds p := hA0
  rw [Try.params3] at hA hval
  obtain ⟨v0, vs0, d0, ds0, p0, q0, hargs, rfl, rfl, h0, r0⟩ := trodAll_cons hA
  obtain ⟨v1, vs1, d1, ds1, p1, q1, rfl, rfl, rfl, h1, r1⟩ := trodAll_cons r0
  obtain ⟨v2, vs2, d2, ds2, p2, q2, rfl, rfl, rfl, h2, r2⟩ := trodAll_cons r1
  obtain ⟨rfl, rfl, rfl⟩ := trodAll_nil r2
  obtain rfl : args = #[v0, v1, v2] := by cases args; simp_all
  obtain ⟨rfl, rfl⟩ := trodVars_none hV
  obtain ⟨a0, rfl, rfl, rfl, w0⟩ := open_int Try.underlying3 (hval 0 3 v0 rfl rfl) h0
  obtain ⟨a1, rfl, rfl, rfl, w1⟩ := open_int Try.underlying3 (hval 1 3 v1 rfl rfl) h1
  obtain ⟨a2, rfl, rfl, rfl, w2⟩ := open_int Try.underlying3 (hval 2 3 v2 rfl rfl) h2
  clear hA0 hval0
  simp only [List.append_nil] at hW'
  refine (walk a0 a1 a2 w0 w1 w2 W).mono fun e W' ⟨he, hg⟩ => ?_
  subst he
  exact ⟨_, rfl, post_of_same (pa := []) (pv := []) hW' (fun _ _ _ => (trodAll_cons_mk (shut_bool Try.underlying4 _) trodAll_mk0)) (fun sp _ => (trodAll_cons_mk (shut_int Try.underlying3 w0) (trodAll_cons_mk (shut_int Try.underlying3 w1) (trodAll_cons_mk (shut_int Try.underlying3 w2) trodAll_mk0)))) (fun _ _ => rfl) rfl
    (hg.frame _) hg.2.1 (ok_one (by kernel_rfl) rfl (okWide_bool_mk Try.underlying4 _))⟩

theorem over : Rows.wordBackRow.holds Try.pinned (OpenSpec.ofChange Rows.wordBackSpec) :=
  OpenClaim.holds_of_wide 3 Try.f3 rfl rfl rfl rfl rfl rfl rfl ⟨rfl, rfl, rfl, rfl, rfl⟩ rfl rfl rfl rfl rfl (by kernel_rfl) Try.func3 (by kernel_rfl)
    (of_decide_eq_true (by kernel_rfl)) (by unfold Func.isWrapper; first | (rw [if_pos (by decide +kernel)]; kernel_rfl) | (rw [if_neg (by decide +kernel)]; exact ⟨rfl, rfl⟩))
    (fun os started H enc _ => lifted os started H enc)

/-- ████ THE STATEMENT ████ -/
theorem proved : Rows.WordBackSaid :=
  over
#print axioms proved
end Go.Proofs.Yticmaafhnhgfdaa.wordBack
