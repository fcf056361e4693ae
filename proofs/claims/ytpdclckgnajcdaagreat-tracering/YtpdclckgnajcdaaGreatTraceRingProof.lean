/-
  TraceRing: for every input the law TraceRing returns true (no conditions); its arguments read as before.
-/
import Derived.Test.YtpdclckgnajcdaaGreatTraceRingWalk
namespace Go.Proofs.YtpdclckgnajcdaaGreat.traceRing
open Go.ChangeShapes Go.WideShapes Go.ChangeAt Go.RowKit

theorem own : ownKnob Tryz.prog.godebug = none := by kernel_rfl
theorem laid : laidOutB Tryz.prog = true := by kernel_rfl
theorem reads : ∀ t ∈ Tryz.f5.params.toList, Tryz.prog.readableRec t = true ∧ t < Tryz.prog.types.size := by
  rw [Tryz.params5]
  intro t ht
  simp at ht
  subst ht
  exact ⟨by kernel_rfl, of_decide_eq_true (by kernel_rfl)⟩

set_option maxRecDepth 100000 in
theorem lifted (os : Os) (started : os.Started) (H : Type) (enc : TypeId × Value → H) :
    ReturnsInHanded {} Tryz.checked os 5 .any (Rows.traceRingSpec.pre6 enc Tryz.prog Tryz.f5 Rows.traceRingRow.domain false) (Rows.traceRingSpec.post enc Tryz.prog Tryz.f5 false true false false) := by
  refine returnsInHanded_of_change (C := Tryz.checked) own started (by kernel_rfl) Tryz.func5
    (ChangeSpec.witness6 (enc := enc) (C := Tryz.checked) false ⟨#[], #[.bool false, .bool false], []⟩ 8 (by kernel_rfl) (by kernel_rfl) (by kernel_rfl) (by kernel_rfl)) ?_
  intro W base args ds gs before hval0 hW hcnd _
  have hW' := hW
  have hlt := hW.lt
  obtain ⟨p, q, hA0, hV, rfl, hfz, hnd⟩ := hW
  have hA : DataW.TrodAll enc Tryz.prog W 0 (fun _ => true) true Tryz.f5.params.toList args.toList ds p := hA0
  obtain ⟨rfl, rfl⟩ := trodVars_none hV
  simp only [List.append_nil] at hW' hlt
  have hA2 := hA
  rw [Tryz.params5] at hA2
  obtain ⟨v0, vs0, d0, ds0, p0, q0, hargs, rfl, rfl, -, r0⟩ := trodAll_cons hA2
  obtain ⟨v1, vs1, d1, ds1, p1, q1, rfl, rfl, rfl, -, r1⟩ := trodAll_cons r0
  obtain ⟨rfl, rfl, rfl⟩ := trodAll_nil r1
  obtain rfl : args = #[v0, v1] := by cases args; simp_all
  obtain ⟨p0, rfl⟩ := cell_bool Tryz.underlying4 (ok_cell (hval0 0 4 v0 (by rw [Tryz.params5]; rfl) rfl) (by rw [Tryz.underlying4]; simp) (by rw [Tryz.underlying4]; simp))
  obtain ⟨p1, rfl⟩ := cell_bool Tryz.underlying4 (ok_cell (hval0 1 4 v1 (by rw [Tryz.params5]; rfl) rfl) (by rw [Tryz.underlying4]; simp) (by rw [Tryz.underlying4]; simp))
  clear hA0 hval0 hA2
  refine (traceRing_any p0 p1 W ).mono fun e W' ⟨he, hk⟩ => ?_
  subst he
  exact ⟨_, rfl, _, _, _, [], _, [], hW', trodAll_cons_mk (shut_bool Tryz.underlying4 _) trodAll_mk0, trodAll_kept laid hk reads hA hlt (fun x hx => decide_eq_true (hlt x hx)), rfl, hk.below.frame _, fun h => by cases h⟩

theorem over : Rows.traceRingRow.holds Tryz.pinned (OpenSpec.ofChange Rows.traceRingSpec) :=
  OpenClaim.holds_of_wide 5 Tryz.f5 rfl rfl rfl rfl rfl rfl rfl ⟨rfl, rfl, rfl, rfl, rfl⟩ rfl rfl rfl rfl rfl (by kernel_rfl) Tryz.func5 (by kernel_rfl)
    (of_decide_eq_true (by kernel_rfl)) (by unfold Func.isWrapper; first | (rw [if_pos (by decide +kernel)]; kernel_rfl) | (rw [if_neg (by decide +kernel)]; exact ⟨rfl, rfl⟩))
    (fun os started H enc _ => lifted os started H enc)

/-- The statement. -/
theorem proved : Rows.TraceRingSaid :=
  over
#print axioms proved
end Go.Proofs.YtpdclckgnajcdaaGreat.traceRing
