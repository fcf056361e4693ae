/-
  SpaceLine: 
-/
import Derived.Test.YtahpnnjemjjfhaaSpaceLineWalk
namespace Go.Proofs.Ytahpnnjemjjfhaa.spaceLine
open Go.ChangeShapes Go.WideShapes Go.ChangeAt Go.RowKit

theorem own : ownKnob Try.prog.godebug = none := by kernel_rfl
theorem laid : laidOutB Try.prog = true := by kernel_rfl
theorem reads : ∀ t ∈ Try.f8.params.toList, Try.prog.readableRec t = true ∧ t < Try.prog.types.size := by
  rw [Try.params8]
  intro t ht
  simp at ht
  subst ht
  exact ⟨by kernel_rfl, of_decide_eq_true (by kernel_rfl)⟩

set_option maxRecDepth 100000 in
theorem lifted (os : Os) (started : os.Started) (H : Type) (enc : TypeId × Value → H) :
    ReturnsInHanded {} Try.checked os 8 .any (Rows.spaceLineSpec.pre6 enc Try.prog Try.f8 Rows.spaceLineRow.domain false) (Rows.spaceLineSpec.post enc Try.prog Try.f8 false true false false) := by
  refine returnsInHanded_of_change (C := Try.checked) own started (by kernel_rfl) Try.func8
    (ChangeSpec.witness6 (enc := enc) (C := Try.checked) false ⟨#[], #[.slice none 0 0, .slice none 0 0], []⟩ 8 (by kernel_rfl) (by kernel_rfl) (by kernel_rfl) (by kernel_rfl)) ?_
  intro W base args ds gs before hval0 hW hcnd _
  have hW' := hW
  have hlt := hW.lt
  obtain ⟨p, q, hA0, hV, rfl, hfz, hnd⟩ := hW
  have hA : DataW.TrodAll enc Try.prog W 0 (fun _ => true) true Try.f8.params.toList args.toList ds p := hA0
  obtain ⟨rfl, rfl⟩ := trodVars_none hV
  simp only [List.append_nil] at hW' hlt
  have hA2 := hA
  rw [Try.params8] at hA2
  obtain ⟨v0, vs0, d0, ds0, p0, q0, hargs, rfl, rfl, t0, r0⟩ := trodAll_cons hA2
  obtain ⟨v1, vs1, d1, ds1, p1, q1, rfl, rfl, rfl, t1, r1⟩ := trodAll_cons r0
  obtain ⟨rfl, rfl, rfl⟩ := trodAll_nil r1
  obtain rfl : args = #[v0, v1] := by cases args; simp_all
  obtain ⟨x0, l0, c0, rfl, h0c⟩ := cell_slice Try.underlying38 (ok_cell (hval0 0 38 v0 (by rw [Try.params8]; rfl) rfl) (by rw [Try.underlying38]; simp) (by rw [Try.underlying38]; simp))
  obtain ⟨L0, hL0, hB0⟩ := ints_open t0
  obtain ⟨x1, l1, c1, rfl, h1c⟩ := cell_slice Try.underlying38 (ok_cell (hval0 1 38 v1 (by rw [Try.params8]; rfl) rfl) (by rw [Try.underlying38]; simp) (by rw [Try.underlying38]; simp))
  obtain ⟨L1, hL1, hB1⟩ := ints_open t1
  clear hA0 hval0 hA2
  refine (spaceLine_any x0 l0 c0 L0 x1 l1 c1 L1 W h0c hL0 hB0 h1c hL1 hB1).mono fun e W' ⟨he, hk⟩ => ?_
  subst he
  exact ⟨_, rfl, _, _, _, [], _, [], hW', trodAll_cons_mk (shut_bool Try.underlying4 _) trodAll_mk0, trodAll_kept laid hk reads hA hlt (fun x hx => decide_eq_true (hlt x hx)), rfl, hk.below.frame _, fun h => by cases h⟩

theorem over : Rows.spaceLineRow.holds Try.pinned (OpenSpec.ofChange Rows.spaceLineSpec) :=
  OpenClaim.holds_of_wide 8 Try.f8 rfl rfl rfl rfl rfl rfl rfl ⟨rfl, rfl, rfl, rfl, rfl⟩ rfl rfl rfl rfl rfl (by kernel_rfl) Try.func8 (by kernel_rfl)
    (of_decide_eq_true (by kernel_rfl)) (by unfold Func.isWrapper; first | (rw [if_pos (by decide +kernel)]; kernel_rfl) | (rw [if_neg (by decide +kernel)]; exact ⟨rfl, rfl⟩))
    (fun os started H enc _ => lifted os started H enc)

/-- The statement. -/
theorem proved : Rows.SpaceLineSaid :=
  over
#print axioms proved
end Go.Proofs.Ytahpnnjemjjfhaa.spaceLine
