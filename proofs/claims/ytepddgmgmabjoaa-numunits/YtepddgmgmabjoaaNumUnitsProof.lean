/-
  NumUnits: for all whole numbers a, b the law NumUnits of package spolaw1 returns true (no conditions); its arguments read as before.
-/
import Derived.Test.YtepddgmgmabjoaaNum
import Derived.WalkKit
import Derived.ProofKit
import Derived.OpenShut
namespace Go.Proofs.Ytepddgmgmabjoaa.numUnits
open Go.ChangeShapes Go.WideShapes Go.ChangeAt Go.RowKit
set_option linter.unusedVariables false      -- a walk need not use every 'w<i>' (that an integer argument fits its kind)

theorem own : ownKnob Try.prog.godebug = none := by kernel_rfl

/-! ### STEP 1: THE WALK: the Go text returns true. 'Grown w w'': the world has at most new blocks (Derived/RowKit3.lean). Part the cases AHEAD of 'go_enter' where a test parts the walk; take each callee by a contract of your own. -/
theorem zero_is : Flo.IsI 0 0 := ⟨false, 0, rfl, rfl, by decide⟩
theorem one_is : Flo.IsI 4607182418800017408 1 := ⟨false, 1, by decide +kernel, rfl, by decide⟩

/-- Times i: what it gives, as whole numbers. -/
theorem mul_i (x y : Nat) (p q : Int) (w : World) (hx : Flo.IsI x p) (hy : Flo.IsI y q) (hp : p.natAbs ≤ 2 ^ 50) (hq : q.natAbs ≤ 2 ^ 50) :
    ∃ r i, Flo.IsI r (-q) ∧ Flo.IsI i p ∧ Calls Try.prog 7 #[.complex .f64 x y, .complex .f64 0 4607182418800017408] w fun e w' => e = .returned (.complex .f64 r i) ∧ w' = w := by
  obtain ⟨a, ha, ia⟩ := Flo.isI_mul hx zero_is (by omega)
  obtain ⟨b, hb, ib⟩ := Flo.isI_mul hy one_is (by omega)
  obtain ⟨c, hc, ic⟩ := Flo.isI_mul hx one_is (by omega)
  obtain ⟨d, hd, id⟩ := Flo.isI_mul hy zero_is (by omega)
  obtain ⟨r, hr, ir⟩ := Flo.isI_sub ia ib (by omega)
  obtain ⟨i, hi, ii⟩ := Flo.isI_add ic id (by omega)
  refine ⟨r, i, ?_, ?_, mul_any _ _ _ _ _ _ _ _ _ _ w ha hb hc hd hr hi⟩
  · rw [show -q = p * 0 - q * 1 by omega]; exact ir
  · rw [show p = p * 1 + q * 0 by omega]; exact ii

def rot : Nat → Int → Int → Int × Int
  | 0, a, b => (a, b)
  | k + 1, a, b => (-(rot k a b).2, (rot k a b).1)

theorem rot_bd (k : Nat) (a b : Int) (ha : a.natAbs ≤ 2 ^ 50) (hb : b.natAbs ≤ 2 ^ 50) : (rot k a b).1.natAbs ≤ 2 ^ 50 ∧ (rot k a b).2.natAbs ≤ 2 ^ 50 := by
  induction k with
  | zero => exact ⟨ha, hb⟩
  | succ k ih => simp only [rot]; omega

theorem rot_four (a b : Int) : rot 4 a b = (a, b) := by simp [rot]

set_option maxHeartbeats 1000000 in
theorem walk_out (a0 a1 : Int) (w : World) (h : a0 < -1125899906842624 ∨ 1125899906842624 < a0 ∨ a1 < -1125899906842624 ∨ 1125899906842624 < a1) :
    Calls Try.prog 4 #[.int .i64 a0, .int .i64 a1] w fun e w' => e = .returned (.bool true) ∧ w' = w := by
  by_cases h0 : a0 < -1125899906842624
  · clear h
    go_enter Try.func4, Try.ntmps4
    go_wp2_with (go_at_call 6; refine (first_any _).mono ?_; rintro e w' ⟨rfl, rfl⟩)
    go_ret
    exact ⟨rfl, rfl⟩
  by_cases h1 : 1125899906842624 < a0
  · clear h
    go_enter Try.func4, Try.ntmps4
    go_wp2_with (go_at_call 6; refine (first_any _).mono ?_; rintro e w' ⟨rfl, rfl⟩)
    go_ret
    exact ⟨rfl, rfl⟩
  by_cases h2 : a1 < -1125899906842624
  · clear h
    go_enter Try.func4, Try.ntmps4
    go_wp2_with (go_at_call 6; refine (first_any _).mono ?_; rintro e w' ⟨rfl, rfl⟩)
    go_ret
    exact ⟨rfl, rfl⟩
  have h3 : 1125899906842624 < a1 := by omega
  clear h
  go_enter Try.func4, Try.ntmps4
  go_wp2_with (go_at_call 6; refine (first_any _).mono ?_; rintro e w' ⟨rfl, rfl⟩)
  go_ret
  exact ⟨rfl, rfl⟩

set_option maxHeartbeats 1000000 in
theorem walk_in (a b : Int) (w : World) (ha1 : -1125899906842624 ≤ a) (ha2 : a ≤ 1125899906842624) (hb1 : -1125899906842624 ≤ b) (hb2 : b ≤ 1125899906842624) :
    Calls Try.prog 4 #[.int .i64 a, .int .i64 b] w fun e w' => e = .returned (.bool true) ∧ w' = w := by
  have fa := Flo.isI_fi a (by omega)
  have fb := Flo.isI_fi b (by omega)
  have hna : a.natAbs ≤ 2 ^ 50 := by omega
  have hnb : b.natAbs ≤ 2 ^ 50 := by omega
  have hfb : floatOfInt .f64 b < 2 ^ 64 := Flo.F_lt _ _
  obtain ⟨s, m, es, hs, hm⟩ := fa
  obtain ⟨t, n, et, ht, hn⟩ := fb
  obtain ⟨aa, haa, faa⟩ := Flo.mul_fin s s m m hm hm
  obtain ⟨bb, hbb, fbb⟩ := Flo.mul_fin t (!t) n n hn hn
  obtain ⟨ab, hab, fab⟩ := Flo.mul_fin s (!t) m n hm hn
  obtain ⟨ba, hba, fba⟩ := Flo.mul_fin t s n m hn hm
  rw [Bool.xor_self] at faa
  rw [show (t ^^ !t) = true by cases t <;> rfl] at fbb
  obtain ⟨sr, hsr, gsr⟩ := Flo.sub_sgn faa fbb
  obtain ⟨si, hsi⟩ := Flo.add_some fab fba
  have ge := Flo.geq_zero gsr
  rw [← Flo.neg_F t n, ← et] at hbb hab
  rw [← es] at haa hab hba
  rw [← et] at hba
  have C : Hid (∀ w, Calls Try.prog 11 #[.complex .f64 (floatOfInt .f64 a) (floatOfInt .f64 b)] w _) := fun w => conj_any (floatOfInt .f64 a) (floatOfInt .f64 b) w hfb
  have M : Hid (∀ w, Calls Try.prog 7 _ w _) := fun w => mul_any _ _ _ _ _ _ _ _ _ _ w haa hbb hab hba hsr hsi
  have fa := Flo.isI_fi a (by omega)
  have fb := Flo.isI_fi b (by omega)
  obtain ⟨qr, qi, hqr, hqi, Q⟩ := mul_i _ _ _ _ w fa fb hna hnb
  have Q : Hid _ := Q
  have o3 := Flo.isI_order hqr (Flo.isI_neg fb)
  have o4 := Flo.isI_order hqi fa
  clear haa hbb hab hba hsr hsi gsr faa fbb fab fba es et hs ht hm hn
  have FA : Hid _ := fa
  have FB : Hid _ := fb
  clear fa fb hqr hqi hfb
  go_enter Try.func4, Try.ntmps4
  go_wp2_with fail
  refine (first_any _).mono ?_
  rintro e w' ⟨rfl, rfl⟩
  go_wp2_with fail
  go_loop [6, 7] (fun v i => ∃ k : Nat, k ≤ 4 ∧ i = .int .i64 k ∧ ∃ x y, v = .complex .f64 x y ∧ Hid (Flo.IsI x (rot k a b).1) ∧ Hid (Flo.IsI y (rot k a b).2)) (fun _ i => 4 - (intOf i).toNat)
  case atStart => exact ⟨0, by omega, rfl, _, _, rfl, FA, FB⟩
  case round =>
    obtain ⟨k, hk, rfl, x, y, rfl, hx, hy⟩ := hrel
    by_cases hlt : k < 4
    · obtain ⟨hr1, hr2⟩ := rot_bd k a b hna hnb
      obtain ⟨r, i, hr, hi, R⟩ := mul_i _ _ _ _ w' hx.out hy.out hr1 hr2
      have R : Hid _ := R
      have HR : Hid _ := hr
      have HI : Hid _ := hi
      clear hr hi hr1 hr2
      go_wp2_with fail
      refine Calls.mono R.out ?_
      rintro e w' ⟨rfl, rfl⟩
      go_wp2
      go_round
      case rel => exact ⟨k + 1, by omega, by go_num, _, _, rfl, HR, HI⟩
      case measure => simp [intOf]; omega
    · obtain rfl : k = 4 := by omega
      rw [rot_four] at hx hy
      have o1 := Flo.isI_order hx.out FA.out
      have o2 := Flo.isI_order hy.out FB.out
      have ca : (some (compare a a) == some Ordering.eq) = true := by simp [compare, compareOfLessAndEq]
      have cb : (some (compare b b) == some Ordering.eq) = true := by simp [compare, compareOfLessAndEq]
      have cc : (some (compare (-b) (-b)) == some Ordering.eq) = true := by simp [compare, compareOfLessAndEq]
      have e1 : (FloatKind.f64.format.order x (floatOfInt .f64 a) == some Ordering.eq) = true := by rw [← ca, ← o1]; rfl
      have e2 : (FloatKind.f64.format.order y (floatOfInt .f64 b) == some Ordering.eq) = true := by rw [← cb, ← o2]; rfl
      have e3 : (FloatKind.f64.format.order qr (Op.negFloat .f64 (floatOfInt .f64 b)) == some Ordering.eq) = true := by rw [← cc, ← o3]; rfl
      have e4 : (FloatKind.f64.format.order qi (floatOfInt .f64 a) == some Ordering.eq) = true := by rw [← ca, ← o4]; rfl
      have e5 : (FloatKind.f64.format.order sr 0 == some Ordering.gt || FloatKind.f64.format.order sr 0 == some Ordering.eq) = true := ge
      have hu : ∀ b, Op.unary .neg (.float .f64 b) = pure (.float .f64 (Op.negFloat .f64 b)) := fun _ => rfl
      clear o1 o2 o3 o4 ca cb cc ge
      go_wp2_with fail
      refine Calls.mono Q.out ?_
      rintro e w' ⟨rfl, rfl⟩
      go_wp2_with fail
      refine (first_any _).mono ?_
      rintro e w' ⟨rfl, rfl⟩
      go_wp2_with fail
      refine (C.out _).mono ?_
      rintro e w' ⟨rfl, rfl⟩
      go_wp2_with fail
      refine (M.out _).mono ?_
      rintro e w' ⟨rfl, rfl⟩
      go_wp2
      go_ret
      exact ⟨rfl, rfl⟩

theorem walk (a0 : Int) (a1 : Int) (w0 : (Lit.int .i64 a0).wf = true) (w1 : (Lit.int .i64 a1).wf = true) (w : World) :
    Calls Try.prog 4 #[.int .i64 a0, .int .i64 a1] w fun e w' => e = .returned (.bool true) ∧ Grown w w' := by
  by_cases h : a0 < -1125899906842624 ∨ 1125899906842624 < a0 ∨ a1 < -1125899906842624 ∨ 1125899906842624 < a1
  · refine (walk_out a0 a1 w h).mono ?_
    rintro e w' ⟨rfl, rfl⟩
    exact ⟨rfl, Grown.refl _⟩
  · refine (walk_in a0 a1 w (by omega) (by omega) (by omega) (by omega)).mono ?_
    rintro e w' ⟨rfl, rfl⟩
    exact ⟨rfl, Grown.refl _⟩

/-! ### THE ROW's STEP: WRITTEN OUT: LEAVE IT -/
set_option maxRecDepth 100000 in
theorem lifted (os : Os) (started : os.Started) (H : Type) (enc : TypeId × Value → H) :
    ReturnsInHanded {} Try.checked os 4 .any (Rows.numUnitsSpec.pre6 enc Try.prog Try.f4 Rows.numUnitsRow.domain false) (Rows.numUnitsSpec.post enc Try.prog Try.f4 false true false false) := by
  refine returnsInHanded_of_change (C := Try.checked) own started (by kernel_rfl) Try.func4
    (ChangeSpec.witness6 (enc := enc) (C := Try.checked) false ⟨#[], #[.int .i64 0, .int .i64 0], []⟩ 8 (by kernel_rfl) (by kernel_rfl) (by kernel_rfl) (by kernel_rfl)) ?_
  intro W base args ds gs before hval0 hW hcnd _
  have hval : ∀ (j : Nat) t v, Try.f4.params[j]? = some t → args[j]? = some v → Value.okWide Try.prog W .any base t v := hval0
  have hW' := hW
  obtain ⟨p, q, hA0, hV, rfl, hfz, hnd⟩ := hW
  have hA : DataW.TrodAll enc Try.prog W 0 (fun _ => true) true Try.f4.params.toList args.toList ds p := hA0
  rw [Try.params4] at hA hval
  obtain ⟨v0, vs0, d0, ds0, p0, q0, hargs, rfl, rfl, h0, r0⟩ := trodAll_cons hA
  obtain ⟨v1, vs1, d1, ds1, p1, q1, rfl, rfl, rfl, h1, r1⟩ := trodAll_cons r0
  obtain ⟨rfl, rfl, rfl⟩ := trodAll_nil r1
  obtain rfl : args = #[v0, v1] := by cases args; simp_all
  obtain ⟨rfl, rfl⟩ := trodVars_none hV
  obtain ⟨a0, rfl, rfl, rfl, w0⟩ := open_int Try.underlying3 (hval 0 3 v0 rfl rfl) h0
  obtain ⟨a1, rfl, rfl, rfl, w1⟩ := open_int Try.underlying3 (hval 1 3 v1 rfl rfl) h1
  clear hA0 hval0
  simp only [List.append_nil] at hW'
  refine (walk a0 a1 w0 w1 W).mono fun e W' ⟨he, hg⟩ => ?_
  subst he
  exact ⟨_, rfl, post_of_same (pa := []) (pv := []) hW' (fun _ _ _ => (trodAll_cons_mk (shut_bool Try.underlying4 _) trodAll_mk0)) (fun sp _ => (trodAll_cons_mk (shut_int Try.underlying3 w0) (trodAll_cons_mk (shut_int Try.underlying3 w1) trodAll_mk0))) (fun _ _ => rfl) rfl
    (hg.frame _) hg.2.1 (ok_one (by kernel_rfl) rfl (okWide_bool_mk Try.underlying4 _))⟩

theorem over : Rows.numUnitsRow.holds Try.pinned (OpenSpec.ofChange Rows.numUnitsSpec) :=
  OpenClaim.holds_of_wide 4 Try.f4 rfl rfl rfl rfl rfl rfl rfl ⟨rfl, rfl, rfl, rfl, rfl⟩ rfl rfl rfl rfl rfl (by kernel_rfl) Try.func4 (by kernel_rfl)
    (of_decide_eq_true (by kernel_rfl)) (by unfold Func.isWrapper; first | (rw [if_pos (by decide +kernel)]; kernel_rfl) | (rw [if_neg (by decide +kernel)]; exact ⟨rfl, rfl⟩))
    (fun os started H enc _ => lifted os started H enc)

/-- ████ THE STATEMENT ████ -/
theorem proved : Rows.NumUnitsSaid :=
  over
#print axioms proved
end Go.Proofs.Ytepddgmgmabjoaa.numUnits
