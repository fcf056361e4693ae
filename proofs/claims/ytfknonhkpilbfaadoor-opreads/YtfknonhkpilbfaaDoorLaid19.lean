/-
  From what the row lists to what layer 19's walks ask of the package-level variables.
-/
import Derived.Test.YtfknonhkpilbfaaDoorVs19
import Derived.Test.YtfknonhkpilbfaaDoorRows
import Derived.Shelf.Vars
import Derived.Stop.LaidErr
import Derived.LaidLaws
import Derived.ChangeArms
import Derived.Lib.LaidTab
namespace Go.Proofs.YtfknonhkpilbfaaDoor
open Go.RowKit Go.ChangeShapes

theorem gWords : Tryd.prog.globalNamed "spolia/op.wordings" = some 0 := by kernel_rfl
theorem gWordsT : (Tryd.prog.globals[0]?).map (·.type) = some 40 := by kernel_rfl
theorem c40 : Tryd.prog.cellsOf 40 = 38 := by kernel_rfl
theorem c39 : Tryd.prog.cellsOf 39 = 2 := by kernel_rfl
theorem c9 : Tryd.prog.cellsOf 9 = 1 := by kernel_rfl
theorem u40 : Tryd.prog.underlying 40 = some (.array 19 39) := by kernel_rfl
theorem u39 : ∃ f g : Field, Tryd.prog.underlying 39 = some (.struct #[f, g]) ∧ f.type = 9 ∧ f.offset = 0 ∧ g.type = 9 ∧ g.offset = 1 :=
  ⟨_, _, Tryd.underlying39, rfl, rfl, rfl, rfl⟩
theorem u9 : Tryd.prog.underlying 9 = some .string := by kernel_rfl

theorem wordList : (Rows.laid_spolia_op_wordings : DataW Unit) = .agg ((List.range 19).map fun k => .agg [.lit (.string (wd k)), .lit (.string (lts k))]) := by rfl

theorem cells_of_words {H : Type} {enc : TypeId × Value → H} {W : World} {base : Nat} {sp : Nat → Bool} {held : Bool} {fuel : Nat} {cs : List Value} {a b : Nat → List UInt8} {p : List MemPlace}
    (h : DataW.trod enc Tryd.prog W base sp held fuel 40 cs = some (.agg ((List.range 19).map fun k => .agg [.lit (.string (a k)), .lit (.string (b k))]), p)) (k : Nat) (hk : k < 19) :
    cs[k * 2]? = some (.string ⟨(a k).toArray⟩) ∧ cs[k * 2 + 1]? = some (.string ⟨(b k).toArray⟩) := by
  obtain ⟨f, g, hu, ft, fo, gt, go⟩ := u39
  cases fuel with
  | zero => simp [DataW.trod] at h
  | succ fuel =>
    simp only [DataW.trod, u40, c39, c40] at h
    split at h
    · rename_i hl
      obtain ⟨xs, hm, hx⟩ := Option.map_eq_some_iff.1 h
      have hxs := congrArg Prod.fst hx
      simp only [DataW.agg.injEq] at hxs
      obtain ⟨y, hy, hf⟩ := Lib.mapM_at hm k k (by simp [hk])
      obtain ⟨ys, n, rfl, rfl, -, hn, hat⟩ := DataW.trod_struct hu hf
      have e0 := hat 0 f rfl
      have e1 := hat 1 g rfl
      rw [ft, fo, c9] at e0
      rw [gt, go, c9] at e1
      have l2 : ys.length = 2 := hn
      obtain ⟨y0, y1, rfl⟩ : ∃ y0 y1, ys = [y0, y1] := by
        rcases ys with _ | ⟨y0, _ | ⟨y1, _ | ⟨y2, r⟩⟩⟩ <;> simp at l2
        exact ⟨y0, y1, rfl⟩
      obtain ⟨s0, c0, rfl, -⟩ := DataW.trod_string u9 e0
      obtain ⟨s1, c1, rfl, -⟩ := DataW.trod_string u9 e1
      have hz := congrArg (·[k]?) hxs
      simp only [List.getElem?_map, hy, List.getElem?_range hk, Option.map_some, Option.some.injEq, DataW.agg.injEq, List.map_cons, List.map_nil, List.cons.injEq, DataW.lit.injEq, Lit.string.injEq, and_true] at hz
      obtain ⟨z0, z1⟩ := hz
      have g0 := congrArg (·[0]?) c0
      have g1 := congrArg (·[0]?) c1
      simp [List.getElem?_drop] at g0 g1
      exact ⟨by rw [g0, ← z0], by rw [g1, ← z1]⟩
    · cases h

theorem words {W : World} {rest : List (String × DataW Unit)} (h : laidMet Tryd.prog (("spolia/op.wordings", Rows.laid_spolia_op_wordings) :: rest) W) (k : Nat) (hk : k < 19) :
    W.cell? ⟨0, k * 2, none⟩ = some (.string ⟨(wd k).toArray⟩) ∧ W.cell? ⟨0, k * 2 + 1, none⟩ = some (.string ⟨(lts k).toArray⟩) := by
  obtain ⟨ps, ⟨g', t', cs, fuel, p, q, hg', ht', hvar, hd, _, _⟩, _⟩ := h
  obtain rfl := Option.some.inj (gWords.symm.trans hg')
  obtain rfl := Option.some.inj (gWordsT.symm.trans ht')
  rw [wordList] at hd
  obtain ⟨h1, h2⟩ := cells_of_words hd k hk
  rw [World.var?_cell gWords hvar, World.var?_cell gWords hvar]
  exact ⟨by simpa using h1, by simpa using h2⟩

theorem gPow : Tryd.prog.globalNamed "internal/strconv.uint64pow10" = some 5 := by kernel_rfl
theorem gPowT : (Tryd.prog.globals[5]?).map (·.type) = some 111 := by kernel_rfl
theorem gTz : Tryd.prog.globalNamed "math/bits.deBruijn64tab" = some 7 := by kernel_rfl
theorem gTzT : (Tryd.prog.globals[7]?).map (·.type) = some 119 := by kernel_rfl
theorem gEr : Tryd.prog.globalNamed "strconv.ErrRange" = some 4 := by kernel_rfl
theorem gErT : (Tryd.prog.globals[4]?).map (·.type) = some 52 := by kernel_rfl
theorem gEs : Tryd.prog.globalNamed "strconv.ErrSyntax" = some 3 := by kernel_rfl
theorem gEsT : (Tryd.prog.globals[3]?).map (·.type) = some 52 := by kernel_rfl
theorem c111 : Tryd.prog.cellsOf 111 = 20 := by kernel_rfl
theorem c119 : Tryd.prog.cellsOf 119 = 64 := by kernel_rfl
theorem c29 : Tryd.prog.cellsOf 29 = 1 := by kernel_rfl
theorem c5 : Tryd.prog.cellsOf 5 = 1 := by kernel_rfl
theorem c109 : Tryd.prog.cellsOf 109 = 1 := by kernel_rfl
theorem starErr : "*" ++ "errors.errorString" = "*errors.errorString" := by decide
theorem ptrErr (u : TypeId) (h : Tryd.prog.typeName? 3 u = some "*errors.errorString") : u = 107 :=
  typeName_ptr_named (nm := "errors.errorString") (by rw [starErr]; kernel_rfl) (by kernel_rfl) (by decide) u (by rw [starErr]; exact h)
abbrev tzTab : List Int := [0, 1, 56, 2, 57, 49, 28, 3, 61, 58, 42, 50, 38, 29, 17, 4, 62, 47, 59, 36, 45, 43, 51, 22, 53, 39, 33, 30, 24, 18, 12, 5, 63, 55, 48, 27, 60, 41, 37, 16, 46, 35, 44, 21, 52, 32, 23, 11, 54, 26, 40, 15, 34, 20, 31, 10, 25, 14, 19, 9, 13, 8, 7, 6]
/-- WHAT THE WALKS ASK, OUT OF WHAT THE ROW LISTS AND THE WORLD's SHAPE. -/
theorem vs_of_laid {W : World} (h : laidMetH Tryd.prog Rows.opReadsRow.laid W) (hs : W.ShapedOpen Tryd.prog) : Vs W := by
  have h0 : laidMet Tryd.prog [("math/bits.deBruijn32tab", Rows.laid_math_bits_deBruijn32tab), ("math/bits.deBruijn64tab", Rows.laid_math_bits_deBruijn64tab), ("internal/strconv.uint64pow10", Rows.laid_internal_strconv_uint64pow10), ("strconv.ErrRange", Rows.laid_strconv_ErrRange), ("strconv.ErrSyntax", Rows.laid_strconv_ErrSyntax), ("spolia/op.wordings", Rows.laid_spolia_op_wordings)] W := h
  have h1 := h0.tail
  have h2 := h1.tail
  have h3 := h2.tail
  have h4 := h3.tail
  have h5 := h4.tail
  have tz : Lib.TabIs Tryd.prog W "math/bits.deBruijn64tab" .u8 tzTab := Lib.tabIs_of_head gTz gTzT Tryd.underlying119 Tryd.underlying5 c5 c119 h1
  have pw : Lib.TabIs Tryd.prog W "internal/strconv.uint64pow10" .u64 Lib.pow10Tab := Lib.tabIs_of_head gPow gPowT Tryd.underlying111 Tryd.underlying29 c29 c111 h2
  obtain ⟨a0, s0, hv0, -, -, -⟩ := laid_sentinel h3 gEr gErT Tryd.underlying52 ptrErr Tryd.underlying107 Tryd.underlying109 rfl rfl Tryd.underlying9 c109 c9
  obtain ⟨a1, s1, hv1, -, -, -⟩ := laid_sentinel h4 gEs gEsT Tryd.underlying52 ptrErr Tryd.underlying107 Tryd.underlying109 rfl rfl Tryd.underlying9 c109 c9
  refine ⟨?_, Go.Proofs.cell_of_shapedOpen_int (P := Tryd.prog) (g := 2) (t := 3) (zero := #[.int .i64 0]) hs (of_decide_eq_true (by kernel_rfl)) (by kernel_rfl) rfl (by kernel_rfl) (by kernel_rfl) Tryd.underlying3, ⟨107, .pointer (some a1), ?_⟩, ⟨107, .pointer (some a0), ?_⟩, pw, ?_, fun k hk => (words h5 k hk).1, fun k hk => (words h5 k hk).2⟩
  · have c : W.cell? ⟨7, 15, none⟩ = some _ := tz.cell gTz 15 (by decide)
    rcases Nat.lt_or_ge 7 W.heap.size with q | q
    · exact q
    · rw [World.cell?, Array.getElem?_eq_none q] at c
      simp at c
  · have := World.var?_cell gEs hv1 0
    simpa using this
  · have := World.var?_cell gEr hv0 0
    simpa using this
  · exact tz.cell gTz 15 (by decide)
end Go.Proofs.YtfknonhkpilbfaaDoor
