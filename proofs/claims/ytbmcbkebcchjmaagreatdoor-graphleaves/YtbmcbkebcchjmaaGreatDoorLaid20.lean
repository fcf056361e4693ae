/-
  From what the row lists to what layer 20's walks ask of the package-level variable.
-/
import Derived.Test.YtbmcbkebcchjmaaGreatDoorOp20
import Derived.Test.YtbmcbkebcchjmaaGreatDoorRows
import Derived.Shelf.Vars
import Derived.LaidLaws
import Derived.ChangeArms
import Derived.Lib.LaidTab
namespace Go.Proofs.YtbmcbkebcchjmaaGreatDoor
open Go.RowKit Go.ChangeShapes

def wd : Nat → List UInt8
  | 1 => [110, 101, 119] | 2 => [97, 114, 114, 97, 121] | 3 => [108, 111, 97, 100] | 4 => [115, 116, 111, 114, 101] | 5 => [103, 101, 116] | 6 => [112, 117, 116] | 7 => [108, 111, 111, 107] | 8 => [115, 101, 116]
  | 9 => [115, 97, 109, 101] | 10 => [108, 101, 110, 103, 116, 104] | 11 => [107, 105, 110, 100] | 12 => [110, 117, 109, 98, 101, 114] | 13 => [99, 108, 101, 97, 114] | 14 => [99, 111, 112, 121] | 15 => [97, 100, 100] | 16 => [109, 117, 108]
  | 17 => [99, 111, 108, 108, 101, 99, 116] | 18 => [108, 101, 97, 118, 101] | _ => []

theorem gWords : Tryz.prog.globalNamed "spolia/op.wordings" = some 1 := by kernel_rfl
theorem gWordsT : (Tryz.prog.globals[1]?).map (·.type) = some 138 := by kernel_rfl
theorem cTab : Tryz.prog.cellsOf 138 = 38 := by kernel_rfl
theorem cOne : Tryz.prog.cellsOf 137 = 2 := by kernel_rfl
theorem cStr : Tryz.prog.cellsOf 9 = 1 := by kernel_rfl
theorem uTab : Tryz.prog.underlying 138 = some (.array 19 137) := by kernel_rfl
theorem uOne : ∃ f g : Field, Tryz.prog.underlying 137 = some (.struct #[f, g]) ∧ f.type = 9 ∧ f.offset = 0 ∧ g.type = 9 ∧ g.offset = 1 :=
  ⟨_, _, Tryz.underlying137, rfl, rfl, rfl, rfl⟩
theorem uStr : Tryz.prog.underlying 9 = some .string := by kernel_rfl

theorem wordList : (Rows.laid_spolia_op_wordings : DataW Unit) = .agg ((List.range 19).map fun k => .agg [.lit (.string (wd k)), .lit (.string (lts k))]) := by rfl

theorem cells_of_words {H : Type} {enc : TypeId × Value → H} {W : World} {base : Nat} {sp : Nat → Bool} {held : Bool} {fuel : Nat} {cs : List Value} {a b : Nat → List UInt8} {p : List MemPlace}
    (h : DataW.trod enc Tryz.prog W base sp held fuel 138 cs = some (.agg ((List.range 19).map fun k => .agg [.lit (.string (a k)), .lit (.string (b k))]), p)) (k : Nat) (hk : k < 19) :
    cs[k * 2]? = some (.string ⟨(a k).toArray⟩) ∧ cs[k * 2 + 1]? = some (.string ⟨(b k).toArray⟩) := by
  obtain ⟨f, g, hu, ft, fo, gt, go⟩ := uOne
  cases fuel with
  | zero => simp [DataW.trod] at h
  | succ fuel =>
    simp only [DataW.trod, uTab, cOne, cTab] at h
    split at h
    · rename_i hl
      obtain ⟨xs, hm, hx⟩ := Option.map_eq_some_iff.1 h
      have hxs := congrArg Prod.fst hx
      simp only [DataW.agg.injEq] at hxs
      obtain ⟨y, hy, hf⟩ := Lib.mapM_at hm k k (by simp [hk])
      obtain ⟨ys, n, rfl, rfl, -, hn, hat⟩ := DataW.trod_struct hu hf
      have e0 := hat 0 f rfl
      have e1 := hat 1 g rfl
      rw [ft, fo, cStr] at e0
      rw [gt, go, cStr] at e1
      have l2 : ys.length = 2 := hn
      obtain ⟨y0, y1, rfl⟩ : ∃ y0 y1, ys = [y0, y1] := by
        rcases ys with _ | ⟨y0, _ | ⟨y1, _ | ⟨y2, r⟩⟩⟩ <;> simp at l2
        exact ⟨y0, y1, rfl⟩
      obtain ⟨s0, c0, rfl, -⟩ := DataW.trod_string uStr e0
      obtain ⟨s1, c1, rfl, -⟩ := DataW.trod_string uStr e1
      have hz := congrArg (·[k]?) hxs
      simp only [List.getElem?_map, hy, List.getElem?_range hk, Option.map_some, Option.some.injEq, DataW.agg.injEq, List.map_cons, List.map_nil, List.cons.injEq, DataW.lit.injEq, Lit.string.injEq, and_true] at hz
      obtain ⟨z0, z1⟩ := hz
      have g0 := congrArg (·[0]?) c0
      have g1 := congrArg (·[0]?) c1
      simp [List.getElem?_drop] at g0 g1
      exact ⟨by rw [g0, ← z0], by rw [g1, ← z1]⟩
    · cases h

theorem words {W : World} {rest : List (String × DataW Unit)} (h : laidMet Tryz.prog (("spolia/op.wordings", Rows.laid_spolia_op_wordings) :: rest) W) (k : Nat) (hk : k < 19) :
    W.cell? ⟨1, k * 2 + 1, none⟩ = some (.string ⟨(lts k).toArray⟩) := by
  obtain ⟨ps, ⟨g', t', cs, fuel, p, q, hg', ht', hvar, hd, _, _⟩, _⟩ := h
  obtain rfl := Option.some.inj (gWords.symm.trans hg')
  obtain rfl := Option.some.inj (gWordsT.symm.trans ht')
  rw [wordList] at hd
  obtain ⟨_, h2⟩ := cells_of_words hd k hk
  rw [World.var?_cell gWords hvar]
  simpa using h2
/-- WHAT THE WALKS ASK, OUT OF WHAT THE ROW LISTS. -/
theorem vs_of_laid {W : World} (h : laidMet Tryz.prog [("spolia/op.wordings", Rows.laid_spolia_op_wordings)] W) : Vs W := by
  refine ⟨?_, fun k hk => words h k hk⟩
  have c := words h 0 (by decide)
  rcases Nat.lt_or_ge 1 W.heap.size with q | q
  · exact q
  · rw [World.cell?, Array.getElem?_eq_none q] at c
    simp at c
end Go.Proofs.YtbmcbkebcchjmaaGreatDoor
