/-
  SpaceStocks: 
-/
import Derived.Test.YtahpnnjemjjfhaaSpaceStocksWalk
namespace Go.Proofs.Ytahpnnjemjjfhaa.spaceStocks
open Go.ChangeShapes Go.WideShapes Go.ChangeAt Go.RowKit

theorem own : ownKnob Try.prog.godebug = none := by kernel_rfl
theorem laid : laidOutB Try.prog = true := by kernel_rfl
theorem reads : ∀ t ∈ Try.f5.params.toList, Try.prog.readableRec t = true ∧ t < Try.prog.types.size := by
  rw [Try.params5]
  intro t ht
  simp at ht
  subst ht
  exact ⟨by kernel_rfl, of_decide_eq_true (by kernel_rfl)⟩

set_option maxRecDepth 100000 in
theorem lifted (os : Os) (started : os.Started) (H : Type) (enc : TypeId × Value → H) :
    ReturnsInHanded {} Try.checked os 5 .any (Rows.spaceStocksSpec.pre6 enc Try.prog Try.f5 Rows.spaceStocksRow.domain false) (Rows.spaceStocksSpec.post enc Try.prog Try.f5 false true false false) := by
  refine returnsInHanded_of_change (C := Try.checked) own started (by kernel_rfl) Try.func5
    (ChangeSpec.witness6 (enc := enc) (C := Try.checked) false ⟨#[], #[.int .i64 0, .int .i64 0], []⟩ 8 (by kernel_rfl) (by kernel_rfl) (by kernel_rfl) (by kernel_rfl)) ?_
  intro W base args ds gs before hval0 hW hcnd _
  have hW' := hW
  have hlt := hW.lt
  obtain ⟨p, q, hA0, hV, rfl, hfz, hnd⟩ := hW
  have hA : DataW.TrodAll enc Try.prog W 0 (fun _ => true) true Try.f5.params.toList args.toList ds p := hA0
  obtain ⟨rfl, rfl⟩ := trodVars_none hV
  simp only [List.append_nil] at hW' hlt
  have hA2 := hA
  rw [Try.params5] at hA2
  obtain ⟨v0, vs0, d0, ds0, p0, q0, hargs, rfl, rfl, -, r0⟩ := trodAll_cons hA2
  obtain ⟨v1, vs1, d1, ds1, p1, q1, rfl, rfl, rfl, -, r1⟩ := trodAll_cons r0
  obtain ⟨rfl, rfl, rfl⟩ := trodAll_nil r1
  obtain rfl : args = #[v0, v1] := by cases args; simp_all
  obtain ⟨n0, rfl, lo0, hi0⟩ := cell_int Try.underlying3 (ok_cell (hval0 0 3 v0 (by rw [Try.params5]; rfl) rfl) (by rw [Try.underlying3]; simp) (by rw [Try.underlying3]; simp))
  obtain ⟨n1, rfl, lo1, hi1⟩ := cell_int Try.underlying3 (ok_cell (hval0 1 3 v1 (by rw [Try.params5]; rfl) rfl) (by rw [Try.underlying3]; simp) (by rw [Try.underlying3]; simp))
  clear hA0 hval0 hA2
  refine (spaceStocks_any n0 n1 W lo0 hi0 lo1 hi1).mono fun e W' ⟨he, hk⟩ => ?_
  subst he
  exact ⟨_, rfl, _, _, _, [], _, [], hW', trodAll_cons_mk (shut_bool Try.underlying4 _) trodAll_mk0, trodAll_kept laid hk reads hA hlt (fun x hx => decide_eq_true (hlt x hx)), rfl, hk.below.frame _, fun h => by cases h⟩

theorem over : Rows.spaceStocksRow.holds Try.pinned (OpenSpec.ofChange Rows.spaceStocksSpec) :=
  OpenClaim.holds_of_wide 5 Try.f5 rfl rfl rfl rfl rfl rfl rfl ⟨rfl, rfl, rfl, rfl, rfl⟩ rfl rfl rfl rfl rfl (by kernel_rfl) Try.func5 (by kernel_rfl)
    (of_decide_eq_true (by kernel_rfl)) (by unfold Func.isWrapper; first | (rw [if_pos (by decide +kernel)]; kernel_rfl) | (rw [if_neg (by decide +kernel)]; exact ⟨rfl, rfl⟩))
    (fun os started H enc _ => lifted os started H enc)

/-- The statement. -/
theorem proved : Rows.SpaceStocksSaid :=
  over
#print axioms proved
end Go.Proofs.Ytahpnnjemjjfhaa.spaceStocks
