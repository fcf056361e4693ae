/-
  CoreGlobals: for every configuration the law CoreGlobals returns true (no conditions): each global is None at first, all other words are 0, nobody waits, no cycle is wanted; its arguments read as before.
-/
import Derived.Test.YtiigmmmhhpdmdaaCoreGlobalsWalk
namespace Go.Proofs.Ytiigmmmhhpdmdaa.coreGlobals
open Go.ChangeShapes Go.WideShapes Go.ChangeAt Go.RowKit

theorem own : ownKnob Try.prog.godebug = none := by kernel_rfl
theorem laid : laidOutB Try.prog = true := by kernel_rfl
theorem reads : ∀ t ∈ Try.f5.params.toList, Try.prog.readableRec t = true ∧ t < Try.prog.types.size := by
  rw [Try.params5]
  intro t ht
  simp at ht
  subst ht
  exact ⟨by kernel_rfl, of_decide_eq_true (by kernel_rfl)⟩
theorem ctypes24 : Try.prog.cellTypes Try.prog.depth 24 = some [3, 3, 3, 3, 3, 3, 3, 3, 22] := by kernel_rfl
theorem cellsOf24 : Try.prog.cellsOf 24 = 9 := by kernel_rfl

set_option maxRecDepth 100000 in
theorem lifted (os : Os) (started : os.Started) (H : Type) (enc : TypeId × Value → H) :
    ReturnsInHanded {} Try.checked os 5 .any (Rows.coreGlobalsSpec.pre6 enc Try.prog Try.f5 Rows.coreGlobalsRow.domain false) (Rows.coreGlobalsSpec.post enc Try.prog Try.f5 false true false false) := by
  refine returnsInHanded_of_change (C := Try.checked) own started (by kernel_rfl) Try.func5
    (ChangeSpec.witness6 (enc := enc) (C := Try.checked) false ⟨#[], #[.agg #[.int .i64 0, .int .i64 0, .int .i64 0, .int .i64 0, .int .i64 0, .int .i64 0, .int .i64 0, .int .i64 0, .slice none 0 0]], []⟩ 8 (by kernel_rfl) (by kernel_rfl) (by kernel_rfl) (by kernel_rfl)) ?_
  intro W base args ds gs before hval0 hW hcnd _
  have hW' := hW
  have hlt := hW.lt
  obtain ⟨p, q, hA0, hV, rfl, hfz, hnd⟩ := hW
  have hA : DataW.TrodAll enc Try.prog W 0 (fun _ => true) true Try.f5.params.toList args.toList ds p := hA0
  obtain ⟨rfl, rfl⟩ := trodVars_none hV
  simp only [List.append_nil] at hW' hlt
  have hA2 := hA
  rw [Try.params5] at hA2
  obtain ⟨v0, vs0, d0, ds0, p0, q0, hargs, rfl, rfl, t0, r0⟩ := trodAll_cons hA2
  obtain ⟨rfl, rfl, rfl⟩ := trodAll_nil r0
  obtain rfl : args = #[v0] := by cases args; simp_all
  obtain ⟨cs0, rfl, hz0, ok0⟩ := ok_struct Try.underlying24 ctypes24 cellsOf24 (hval0 0 24 v0 (by rw [Try.params5]; rfl) rfl)
  obtain ⟨u0_0, u0_1, u0_2, u0_3, u0_4, u0_5, u0_6, u0_7, u0_8, rfl⟩ : ∃ u0_0 u0_1 u0_2 u0_3 u0_4 u0_5 u0_6 u0_7 u0_8, cs0 = #[u0_0, u0_1, u0_2, u0_3, u0_4, u0_5, u0_6, u0_7, u0_8] := by
    rcases cs0 with ⟨l⟩
    rcases l with _ | ⟨u0_0, _ | ⟨u0_1, _ | ⟨u0_2, _ | ⟨u0_3, _ | ⟨u0_4, _ | ⟨u0_5, _ | ⟨u0_6, _ | ⟨u0_7, _ | ⟨u0_8, _ | ⟨z, l⟩⟩⟩⟩⟩⟩⟩⟩⟩⟩ <;> simp at hz0
    exact ⟨u0_0, u0_1, u0_2, u0_3, u0_4, u0_5, u0_6, u0_7, u0_8, rfl⟩
  obtain ⟨n0, rfl, lo0, hi0⟩ := cell_int Try.underlying3 (ok0 0 u0_0 3 rfl rfl)
  obtain ⟨n1, rfl, lo1, hi1⟩ := cell_int Try.underlying3 (ok0 1 u0_1 3 rfl rfl)
  obtain ⟨n2, rfl, lo2, hi2⟩ := cell_int Try.underlying3 (ok0 2 u0_2 3 rfl rfl)
  obtain ⟨n3, rfl, lo3, hi3⟩ := cell_int Try.underlying3 (ok0 3 u0_3 3 rfl rfl)
  obtain ⟨n4, rfl, lo4, hi4⟩ := cell_int Try.underlying3 (ok0 4 u0_4 3 rfl rfl)
  obtain ⟨n5, rfl, lo5, hi5⟩ := cell_int Try.underlying3 (ok0 5 u0_5 3 rfl rfl)
  obtain ⟨n6, rfl, lo6, hi6⟩ := cell_int Try.underlying3 (ok0 6 u0_6 3 rfl rfl)
  obtain ⟨n7, rfl, lo7, hi7⟩ := cell_int Try.underlying3 (ok0 7 u0_7 3 rfl rfl)
  obtain ⟨x8, l8, c8, rfl, h8c⟩ := cell_slice Try.underlying22 (ok0 8 u0_8 22 rfl rfl)
  obtain ⟨S8, R8, hS8, hR8⟩ := conf_open t0
  clear hA0 hval0 hA2
  refine (coreGlobals_any n0 n1 n2 n3 n4 n5 n6 n7 x8 l8 c8 S8 R8 W lo0 hi0 lo1 hi1 lo2 hi2 lo3 hi3 lo4 hi4 lo5 hi5 lo6 hi6 lo7 hi7 h8c hS8 hR8).mono fun e W' ⟨he, hk⟩ => ?_
  subst he
  exact ⟨_, rfl, _, _, _, [], _, [], hW', trodAll_cons_mk (shut_bool Try.underlying4 _) trodAll_mk0, trodAll_kept laid hk reads hA hlt (fun x hx => decide_eq_true (hlt x hx)), rfl, hk.below.frame _, fun h => by cases h⟩

theorem over : Rows.coreGlobalsRow.holds Try.pinned (OpenSpec.ofChange Rows.coreGlobalsSpec) :=
  OpenClaim.holds_of_wide 5 Try.f5 rfl rfl rfl rfl rfl rfl rfl ⟨rfl, rfl, rfl, rfl, rfl⟩ rfl rfl rfl rfl rfl (by kernel_rfl) Try.func5 (by kernel_rfl)
    (of_decide_eq_true (by kernel_rfl)) (by unfold Func.isWrapper; first | (rw [if_pos (by decide +kernel)]; kernel_rfl) | (rw [if_neg (by decide +kernel)]; exact ⟨rfl, rfl⟩))
    (fun os started H enc _ => lifted os started H enc)

/-- The statement. -/
theorem proved : Rows.CoreGlobalsSaid :=
  over
#print axioms proved
end Go.Proofs.Ytiigmmmhhpdmdaa.coreGlobals
