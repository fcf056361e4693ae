/-
  ShapeArrays: for every kind of elements and every number n the law ShapeArrays of package spolaw3 returns true (no conditions); its arguments read as before.
-/
import Derived.Test.YtnojiabhfkikgaaFirst
import Derived.WalkKit
import Derived.ProofKit
import Derived.OpenShut
namespace Go.Proofs.Ytnojiabhfkikgaa.shapeArrays
open Go.ChangeShapes Go.WideShapes Go.ChangeAt Go.RowKit
set_option linter.unusedVariables false      -- a walk need not use every 'w<i>' (that an integer argument fits its kind)

theorem own : ownKnob Try.prog.godebug = none := by kernel_rfl

/-! ### STEP 1: THE WALK: the Go text returns true. 'Grown w w'': the world has at most new blocks (Derived/RowKit3.lean). Part the cases AHEAD of 'go_enter' where a test parts the walk; take each callee by a contract of your own. -/
set_option maxHeartbeats 1000000 in
theorem walk_out (a0 : Bool) (a1 : Int) (w : World) (h : a1 < 0 ∨ 512 < a1) :
    Calls Try.prog 4 #[.bool a0, .int .i64 a1] w fun e w' => e = .returned (.bool true) ∧ Kept w w' := by
  have ed : dat a1 = 0 := by unfold dat; rw [if_pos (by omega)]
  have es : arrSize a1 = -1 := by unfold arrSize; rw [if_pos h]
  have ep : spineOf a1 = 0 := by unfold spineOf; rw [ed]; rfl
  have D : Hid (∀ w, Calls Try.prog 12 #[.int .i64 a1] w _) := fun w => data_any a1 w
  have S : Hid (∀ x c w, Calls Try.prog 10 #[.agg #[.bool true, .slice x 1 c], .int .i64 a1] w _) := fun x c w => size_arr x c a1 w
  have P : Hid (∀ x c w, Calls Try.prog 13 #[.agg #[.bool true, .slice x 1 c], .int .i64 a1] w _) := fun x c w => spine_arr x c a1 w
  rw [ed] at D
  rw [es] at S
  rw [ep] at P
  clear ed es ep
  by_cases h0 : a1 < 0
  · clear h
    go_enter Try.func4, Try.ntmps4
    go_wp2_with fail
    refine (first_any _).mono ?_
    rintro e w1 ⟨rfl, k1⟩
    go_wp2_with fail
    generalize hW : (w1.alloc (Obj.cells #[Value.bool a0] 4)).alloc (Obj.cells #[Value.bool true, Value.slice (some ⟨w1.heap.size, 0, none⟩) 1 1] 24) = W
    have s0 : w1.heap.size + 1 < W.heap.size := by rw [← hW]; simp
    have c0 : W.cell? ⟨w1.heap.size + 1, 0, none⟩ = some (.bool true) := by rw [← hW]; simp
    have c1 : W.cell? ⟨w1.heap.size + 1, 1, none⟩ = some (.slice (some ⟨w1.heap.size, 0, none⟩) 1 1) := by rw [← hW]; simp
    have d0 := fun x : KW W => x.cell s0 c0
    have d1 := fun x : KW W => x.cell s0 c1
    have k2 : Kept w W := by rw [← hW]; exact (k1.alloc _ _).alloc _ _
    clear hW k1 c0 c1 s0
    refine wp_region_kept (by kernel_rfl) (by kernel_rfl) fun _ => ?_
    repeat (go_big_quiet_step (first | (go_at_call 12; exact kept_of_same (D.out _)) | (go_at_call 10; exact kept_of (S.out _ _ _)) | (go_at_call 13; exact kept_of (P.out _ _ _))))
    refine wpQuiet_nil ?_
    rintro _ ⟨x, rfl⟩
    have k3 : Kept w x.it := k2.trans x.ok
    clear d0 d1
    go_wp2_with fail
    refine (first_any _).mono ?_
    rintro e w4 ⟨rfl, hk⟩
    have k4 : Kept w w4 := k3.trans hk
    clear hk k3
    go_wp2
    go_ret
    exact ⟨rfl, k4⟩
  · have h1 : a1 > 512 := by omega
    clear h
    go_enter Try.func4, Try.ntmps4
    go_wp2_with fail
    refine (first_any _).mono ?_
    rintro e w1 ⟨rfl, k1⟩
    go_wp2_with fail
    generalize hW : (w1.alloc (Obj.cells #[Value.bool a0] 4)).alloc (Obj.cells #[Value.bool true, Value.slice (some ⟨w1.heap.size, 0, none⟩) 1 1] 24) = W
    have s0 : w1.heap.size + 1 < W.heap.size := by rw [← hW]; simp
    have c0 : W.cell? ⟨w1.heap.size + 1, 0, none⟩ = some (.bool true) := by rw [← hW]; simp
    have c1 : W.cell? ⟨w1.heap.size + 1, 1, none⟩ = some (.slice (some ⟨w1.heap.size, 0, none⟩) 1 1) := by rw [← hW]; simp
    have d0 := fun x : KW W => x.cell s0 c0
    have d1 := fun x : KW W => x.cell s0 c1
    have k2 : Kept w W := by rw [← hW]; exact (k1.alloc _ _).alloc _ _
    clear hW k1 c0 c1 s0
    refine wp_region_kept (by kernel_rfl) (by kernel_rfl) fun _ => ?_
    repeat (go_big_quiet_step (first | (go_at_call 12; exact kept_of_same (D.out _)) | (go_at_call 10; exact kept_of (S.out _ _ _)) | (go_at_call 13; exact kept_of (P.out _ _ _))))
    refine wpQuiet_nil ?_
    rintro _ ⟨x, rfl⟩
    have k3 : Kept w x.it := k2.trans x.ok
    clear d0 d1
    go_wp2_with fail
    refine (first_any _).mono ?_
    rintro e w4 ⟨rfl, hk⟩
    have k4 : Kept w w4 := k3.trans hk
    clear hk k3
    go_wp2
    go_ret
    exact ⟨rfl, k4⟩

set_option maxHeartbeats 1000000 in
theorem walk_in (a0 : Bool) (a1 d s : Int) (w : World) (h0 : 0 ≤ a1) (h1 : a1 ≤ 512) (h2 : ¬ 8 * d < a1) (h3 : 0 < a1 → 8 * (d - 1) < a1) (h4 : a1 = 0 → d = 0) (h5 : 0 ≤ d) (h6 : d ≤ 64) (hs : s = if d ≤ 4 then 0 else d + 2)
    (D : Hid (∀ w, Calls Try.prog 12 #[.int .i64 a1] w fun e w' => e = .returned (.int .i64 d) ∧ w' = w))
    (S : Hid (∀ x c w, Calls Try.prog 10 #[.agg #[.bool true, .slice x 1 c], .int .i64 a1] w fun e w' => e = .returned (.int .i64 (d + 1)) ∧ Kept w w'))
    (P : Hid (∀ x c w, Calls Try.prog 13 #[.agg #[.bool true, .slice x 1 c], .int .i64 a1] w fun e w' => e = .returned (.int .i64 s) ∧ Kept w w')) :
    Calls Try.prog 4 #[.bool a0, .int .i64 a1] w fun e w' => e = .returned (.bool true) ∧ Kept w w' := by
  have t0 : ¬ a1 < 0 := by omega
  have t1 : ¬ a1 > 512 := by omega
  by_cases hz : a1 = 0
  · have hd := h4 hz
    subst hz hd
    obtain rfl : s = 0 := hs
    clear h0 h1 h2 h3 h4 h5 h6 t0 t1
    go_enter Try.func4, Try.ntmps4
    go_wp2_with fail
    refine (first_any _).mono ?_
    rintro e w1 ⟨rfl, k1⟩
    go_wp2_with fail
    generalize hW : (w1.alloc (Obj.cells #[Value.bool a0] 4)).alloc (Obj.cells #[Value.bool true, Value.slice (some ⟨w1.heap.size, 0, none⟩) 1 1] 24) = W
    have s0 : w1.heap.size + 1 < W.heap.size := by rw [← hW]; simp
    have c0 : W.cell? ⟨w1.heap.size + 1, 0, none⟩ = some (.bool true) := by rw [← hW]; simp
    have c1 : W.cell? ⟨w1.heap.size + 1, 1, none⟩ = some (.slice (some ⟨w1.heap.size, 0, none⟩) 1 1) := by rw [← hW]; simp
    have d0 := fun x : KW W => x.cell s0 c0
    have d1 := fun x : KW W => x.cell s0 c1
    have k2 : Kept w W := by rw [← hW]; exact (k1.alloc _ _).alloc _ _
    clear hW k1 c0 c1 s0
    refine wp_region_kept (by kernel_rfl) (by kernel_rfl) fun _ => ?_
    repeat (go_big_quiet_step (first | (go_at_call 12; exact kept_of_same (D.out _)) | (go_at_call 10; exact kept_of (S.out _ _ _)) | (go_at_call 13; exact kept_of (P.out _ _ _))))
    refine wpQuiet_nil ?_
    rintro _ ⟨x, rfl⟩
    have k3 : Kept w x.it := k2.trans x.ok
    clear d0 d1
    go_wp2_with fail
    refine (first_any _).mono ?_
    rintro e w4 ⟨rfl, hk⟩
    have k4 : Kept w w4 := k3.trans hk
    clear hk k3
    go_wp2
    go_ret
    exact ⟨rfl, k4⟩
  · have t3 : 0 < a1 := by omega
    have t4 : ¬ 8 * (d - 1) ≥ a1 := by have := h3 t3; omega
    have t5 : (a1 == 0) = false := by simp [hz]
    clear h3 h4 hz
    by_cases hd : d ≤ 4
    · obtain rfl : s = 0 := by rw [hs, if_pos hd]
      clear hs
      go_enter Try.func4, Try.ntmps4
      go_wp2_with fail
      refine (first_any _).mono ?_
      rintro e w1 ⟨rfl, k1⟩
      go_wp2_with fail
      generalize hW : (w1.alloc (Obj.cells #[Value.bool a0] 4)).alloc (Obj.cells #[Value.bool true, Value.slice (some ⟨w1.heap.size, 0, none⟩) 1 1] 24) = W
      have s0 : w1.heap.size + 1 < W.heap.size := by rw [← hW]; simp
      have c0 : W.cell? ⟨w1.heap.size + 1, 0, none⟩ = some (.bool true) := by rw [← hW]; simp
      have c1 : W.cell? ⟨w1.heap.size + 1, 1, none⟩ = some (.slice (some ⟨w1.heap.size, 0, none⟩) 1 1) := by rw [← hW]; simp
      have d0 := fun x : KW W => x.cell s0 c0
      have d1 := fun x : KW W => x.cell s0 c1
      have k2 : Kept w W := by rw [← hW]; exact (k1.alloc _ _).alloc _ _
      clear hW k1 c0 c1 s0
      refine wp_region_kept (by kernel_rfl) (by kernel_rfl) fun _ => ?_
      repeat (go_big_quiet_step (first | (go_at_call 12; exact kept_of_same (D.out _)) | (go_at_call 10; exact kept_of (S.out _ _ _)) | (go_at_call 13; exact kept_of (P.out _ _ _))))
      refine wpQuiet_nil ?_
      rintro _ ⟨x, rfl⟩
      have k3 : Kept w x.it := k2.trans x.ok
      clear d0 d1
      go_wp2_with fail
      refine (first_any _).mono ?_
      rintro e w4 ⟨rfl, hk⟩
      have k4 : Kept w w4 := k3.trans hk
      clear hk k3
      go_wp2
      go_ret
      exact ⟨rfl, k4⟩
    · obtain rfl : s = d + 2 := by rw [hs, if_neg hd]
      clear hs
      have hd' : d > 4 := by omega
      go_enter Try.func4, Try.ntmps4
      go_wp2_with fail
      refine (first_any _).mono ?_
      rintro e w1 ⟨rfl, k1⟩
      go_wp2_with fail
      generalize hW : (w1.alloc (Obj.cells #[Value.bool a0] 4)).alloc (Obj.cells #[Value.bool true, Value.slice (some ⟨w1.heap.size, 0, none⟩) 1 1] 24) = W
      have s0 : w1.heap.size + 1 < W.heap.size := by rw [← hW]; simp
      have c0 : W.cell? ⟨w1.heap.size + 1, 0, none⟩ = some (.bool true) := by rw [← hW]; simp
      have c1 : W.cell? ⟨w1.heap.size + 1, 1, none⟩ = some (.slice (some ⟨w1.heap.size, 0, none⟩) 1 1) := by rw [← hW]; simp
      have d0 := fun x : KW W => x.cell s0 c0
      have d1 := fun x : KW W => x.cell s0 c1
      have k2 : Kept w W := by rw [← hW]; exact (k1.alloc _ _).alloc _ _
      clear hW k1 c0 c1 s0
      refine wp_region_kept (by kernel_rfl) (by kernel_rfl) fun _ => ?_
      repeat (go_big_quiet_step (first | (go_at_call 12; exact kept_of_same (D.out _)) | (go_at_call 10; exact kept_of (S.out _ _ _)) | (go_at_call 13; exact kept_of (P.out _ _ _))))
      refine wpQuiet_nil ?_
      rintro _ ⟨x, rfl⟩
      have k3 : Kept w x.it := k2.trans x.ok
      clear d0 d1
      go_wp2_with fail
      refine (first_any _).mono ?_
      rintro e w4 ⟨rfl, hk⟩
      have k4 : Kept w w4 := k3.trans hk
      clear hk k3
      go_wp2
      go_ret
      exact ⟨rfl, k4⟩

theorem walk (a0 : Bool) (a1 : Int) (w1 : (Lit.int .i64 a1).wf = true) (w : World) :
    Calls Try.prog 4 #[.bool a0, .int .i64 a1] w fun e w' => e = .returned (.bool true) ∧ Grown w w' := by
  by_cases h : a1 < 0 ∨ 512 < a1
  · exact (walk_out a0 a1 w h).mono fun e w' ⟨he, hk⟩ => ⟨he, hk.grown⟩
  · have ed : dat a1 = (a1 + 7) / 8 := by
      unfold dat
      split <;> omega
    refine (walk_in a0 a1 (dat a1) (spineOf a1) w (by omega) (by omega) (by omega) (by omega) (by omega) (dat_lo _) (dat_hi _) rfl (fun w => data_any a1 w) (fun x c w => ?_) (fun x c w => spine_arr x c a1 w)).mono fun e w' ⟨he, hk⟩ => ⟨he, hk.grown⟩
    have := size_arr x c a1 w
    rwa [show arrSize a1 = dat a1 + 1 by unfold arrSize; rw [if_neg h]; omega] at this

/-! ### THE ROW's STEP: WRITTEN OUT: LEAVE IT -/
set_option maxRecDepth 100000 in
theorem lifted (os : Os) (started : os.Started) (H : Type) (enc : TypeId × Value → H) :
    ReturnsInHanded {} Try.checked os 4 .any (Rows.shapeArraysSpec.pre6 enc Try.prog Try.f4 Rows.shapeArraysRow.domain false) (Rows.shapeArraysSpec.post enc Try.prog Try.f4 false true false false) := by
  refine returnsInHanded_of_change (C := Try.checked) own started (by kernel_rfl) Try.func4
    (ChangeSpec.witness6 (enc := enc) (C := Try.checked) false ⟨#[], #[.bool false, .int .i64 0], []⟩ 8 (by kernel_rfl) (by kernel_rfl) (by kernel_rfl) (by kernel_rfl)) ?_
  intro W base args ds gs before hval0 hW hcnd _
  have hval : ∀ (j : Nat) t v, Try.f4.params[j]? = some t → args[j]? = some v → Value.okWide Try.prog W .any base t v := hval0
  have hW' := hW
  obtain ⟨p, q, hA0, hV, rfl, hfz, hnd⟩ := hW
  have hA : DataW.TrodAll enc Try.prog W 0 (fun _ => true) true Try.f4.params.toList args.toList ds p := hA0
  rw [Try.params4] at hA hval
  obtain ⟨v0, vs0, d0, ds0, p0, q0, hargs, rfl, rfl, h0, r0⟩ := trodAll_cons hA
  obtain ⟨v1, vs1, d1, ds1, p1, q1, rfl, rfl, rfl, h1, r1⟩ := trodAll_cons r0
  obtain ⟨rfl, rfl, rfl⟩ := trodAll_nil r1
  obtain rfl : args = #[v0, v1] := by cases args; simp_all
  obtain ⟨rfl, rfl⟩ := trodVars_none hV
  obtain ⟨a0, rfl, rfl, rfl⟩ := open_bool Try.underlying4 (hval 0 4 v0 rfl rfl) h0
  obtain ⟨a1, rfl, rfl, rfl, w1⟩ := open_int Try.underlying3 (hval 1 3 v1 rfl rfl) h1
  clear hA0 hval0
  simp only [List.append_nil] at hW'
  refine (walk a0 a1 w1 W).mono fun e W' ⟨he, hg⟩ => ?_
  subst he
  exact ⟨_, rfl, post_of_same (pa := []) (pv := []) hW' (fun _ _ _ => (trodAll_cons_mk (shut_bool Try.underlying4 _) trodAll_mk0)) (fun sp _ => (trodAll_cons_mk (shut_bool Try.underlying4 _) (trodAll_cons_mk (shut_int Try.underlying3 w1) trodAll_mk0))) (fun _ _ => rfl) rfl
    (hg.frame _) hg.2.1 (ok_one (by kernel_rfl) rfl (okWide_bool_mk Try.underlying4 _))⟩

theorem over : Rows.shapeArraysRow.holds Try.pinned (OpenSpec.ofChange Rows.shapeArraysSpec) :=
  OpenClaim.holds_of_wide 4 Try.f4 rfl rfl rfl rfl rfl rfl rfl ⟨rfl, rfl, rfl, rfl, rfl⟩ rfl rfl rfl rfl rfl (by kernel_rfl) Try.func4 (by kernel_rfl)
    (of_decide_eq_true (by kernel_rfl)) (by unfold Func.isWrapper; first | (rw [if_pos (by decide +kernel)]; kernel_rfl) | (rw [if_neg (by decide +kernel)]; exact ⟨rfl, rfl⟩))
    (fun os started H enc _ => lifted os started H enc)

/-- ████ THE STATEMENT ████ -/
theorem proved : Rows.ShapeArraysSaid :=
  over
#print axioms proved
end Go.Proofs.Ytnojiabhfkikgaa.shapeArrays
