/-
  A graph as it lies in memory.
-/
import Derived.Test.YtbmcbkebcchjmaaGreatDoorMade20
import Derived.Test.YtbmcbkebcchjmaaGreatDoorMaps20
import Derived.Test.YtbmcbkebcchjmaaGreatDoorWord12
import Derived.Test.YtbmcbkebcchjmaaGreatDoorRws
namespace Go.Proofs.YtbmcbkebcchjmaaGreatDoor
open Go.RowKit
attribute [local go_sem] run_store_complex

/-! ### Plain values -/
structure V where
  r : Bool
  x : Nat
  y : Nat
def V.cs (v : V) : List Value := [.bool v.r, .complex .f64 v.x v.y]
def V.val (v : V) : Value := .agg #[.bool v.r, .complex .f64 v.x v.y]
def one1 : Nat := 4607182418800017408
def refV (i : Nat) : V := ⟨true, floatOfInt .f64 ((i : Int) + 1), 4607182418800017408⟩
def noneV : V := ⟨true, 0, 4607182418800017408⟩
def numV (n : Int) : V := ⟨false, floatOfInt .f64 n, 0⟩
def zerV : V := ⟨false, 0, 0⟩
theorem V.len (v : V) : v.cs.length = 2 := rfl
theorem V.one (v : V) : ∀ u ∈ v.cs, u.oneCell' = true := by simp [V.cs, Value.oneCell']
/-- What was made. -/
structure Tp where
  kd : Nat
  ln : Int
  st : Option (Int × V)
structure Th where
  p : Tp
  b : Option Nat
def Th.cs (t : Th) : List Value := [.int .i64 (t.p.kd : Int), .int .i64 t.p.ln, .map t.b]
theorem Th.len (t : Th) : t.cs.length = 3 := rfl
theorem Th.one (t : Th) : ∀ u ∈ t.cs, u.oneCell' = true := by simp [Th.cs, Value.oneCell']
/-- What was stored into it lies in a map of its own. -/
def Th.okm (t : Th) (w : World) : Prop := (t.b = none ∧ t.p.st = none) ∨ ∃ b k v, t.b = some b ∧ t.p.st = some (k, v) ∧ Mp w b (some (k, v.val)) ∧ IntKind.min .i64 ≤ k ∧ k ≤ IntKind.max .i64
theorem Th.okm.muts {t : Th} {w w' : World} {D : List Nat} (h : t.okm w) (m : Mut D w w') (hd : ∀ b, t.b = some b → b ∉ D) : t.okm w' := by
  rcases h with h | ⟨b, k, v, h1, h2, h3, h4⟩
  · exact .inl h
  · exact .inr ⟨b, k, v, h1, h2, h3.muts m (hd b h1), h4⟩

/-- A graph, with its addresses. -/
structure Ga where
  sx : Nat
  sh : Nat → Sh
  E : List Th
  tv : Value
  lb : Nat
  lv : Value
  gv : Value
  L : Option (List V)
  G : List V
/-- A graph, without them. -/
structure Pg where
  T : List Tp
  L : Option (List V)
  G : List V
def Ga.pg (A : Ga) : Pg := ⟨A.E.map Th.p, A.L, A.G⟩

def Ga.cs (C : Cf) (A : Ga) : List Value := C.cs (.slice (some ⟨A.sx, 0, none⟩) C.l C.l) ++ [A.tv, .map (some A.lb), A.gv]

/-- A block whose cells are of type t. -/
def Tt (w : World) (t : TypeId) (b : Nat) : Prop := ∃ c f, w.heap[b]? = some (.cells c t f)
theorem Tt.muts {w w' : World} {t : TypeId} {b : Nat} {D : List Nat} (h : Tt w t b) (m : Mut D w w') (hd : b ∉ D) : Tt w' t b := by
  obtain ⟨c, f, e⟩ := h
  exact ⟨c, f, (m.block b (Array.getElem?_eq_some_iff.1 e).1 hd).trans e⟩

structure GrA (C : Cf) (w : World) (base p : Nat) (F : List Nat) (A : Ga) : Prop where
  own : Own w p 62 (A.cs C)
  cm : CM C w (some ⟨A.sx, 0, none⟩) A.sh
  thg : Rw 74 3 Th.cs w base A.tv A.E
  ths : ∀ t ∈ A.E, t.okm w
  loc : Mp w A.lb (A.L.map fun _ => ((0 : Int), A.lv))
  lvs : ∀ vs, A.L = some vs → Rw 34 2 V.cs w base A.lv vs
  glo : Rw 34 2 V.cs w base A.gv A.G
  ct : Tt w 43 A.sx
  cb : ∀ i, i < C.l → ∀ b o, (A.sh i).x = some ⟨b, o, none⟩ → Tt w 4 b
  few : A.E.length ≤ 1000
  kds : ∀ t ∈ A.E, t.p.kd < C.l
  ngl : ∀ k, A.L ≠ none → A.lv.ownBlock = some k → A.gv.ownBlock ≠ some k
  fp : p ∈ F
  fs : A.sx ∈ F
  fr : ∀ i, i < C.l → ∀ b o, (A.sh i).x = some ⟨b, o, none⟩ → b ∈ F
  ft : ∀ k, A.tv.ownBlock = some k → k ∈ F
  fm : ∀ t ∈ A.E, ∀ b, t.b = some b → b ∈ F
  fl : A.lb ∈ F
  fv : ∀ k, A.L ≠ none → A.lv.ownBlock = some k → k ∈ F
  fg : ∀ k, A.gv.ownBlock = some k → k ∈ F
  lt : ∀ k ∈ F, base ≤ k ∧ k < w.heap.size

theorem CM.muts {C : Cf} {w w' : World} {x : Option Addr} {S : Nat → Sh} {D : List Nat} (h : CM C w x S) (m : Mut D w w') (h0 : ∀ b o, x = some ⟨b, o, none⟩ → b ∉ D) (h1 : ∀ i, i < C.l → ∀ b o, (S i).x = some ⟨b, o, none⟩ → b ∉ D) : CM C w' x S := by
  refine ⟨fun hl => ?_, fun i hi hl => ?_, h.arr, h.len⟩
  · obtain ⟨b, o, e, hb, hc⟩ := h.shps hl
    exact ⟨b, o, e, Nat.lt_of_lt_of_le hb m.size, fun i hi => ⟨(m.cell hb (h0 b o e)).trans (hc i hi).1, (m.cell hb (h0 b o e)).trans (hc i hi).2⟩⟩
  · obtain ⟨b, o, e, hb, hc⟩ := h.refs i hi hl
    exact ⟨b, o, e, Nat.lt_of_lt_of_le hb m.size, fun k hk => (m.cell hb (h1 i hi b o e)).trans (hc k hk)⟩

section
variable {C : Cf} {w w' : World} {base p : Nat} {F : List Nat} {A : Ga}
theorem GrA.muts {D : List Nat} (h : GrA C w base p F A) (m : Mut D w w') (hd : ∀ k ∈ F, k ∉ D) : GrA C w' base p F A where
  own := h.own.muts m (hd _ h.fp)
  cm := h.cm.muts m (fun b o e => by simp at e; rw [← e.1]; exact hd _ h.fs) (fun i hi b o e => hd _ (h.fr i hi b o e))
  thg := h.thg.muts m fun k e => hd _ (h.ft k e)
  ths := fun t ht => (h.ths t ht).muts m fun b e => hd _ (h.fm t ht b e)
  loc := h.loc.muts m (hd _ h.fl)
  lvs := fun vs e => (h.lvs vs e).muts m fun k e' => hd _ (h.fv k (by rw [e]; simp) e')
  glo := h.glo.muts m fun k e => hd _ (h.fg k e)
  ct := h.ct.muts m (hd _ h.fs)
  cb := fun i hi b o e => (h.cb i hi b o e).muts m (hd _ (h.fr i hi b o e))
  few := h.few
  kds := h.kds
  ngl := h.ngl
  fp := h.fp
  fs := h.fs
  fr := h.fr
  ft := h.ft
  fm := h.fm
  fl := h.fl
  fv := h.fv
  fg := h.fg
  lt := fun k hk => ⟨(h.lt k hk).1, Nat.lt_of_lt_of_le (h.lt k hk).2 m.size⟩
theorem GrA.kept (h : GrA C w base p F A) (k : Kept w w') : GrA C w' base p F A := h.muts (D := []) k.mut (by simp)
theorem GrA.at (h : GrA C w base p F A) (i : Nat) {v : Value} (e : (A.cs C)[i]? = some v) : w.cell? ⟨p, i, none⟩ = some v := h.own.blk.at i e
theorem GrA.plt (h : GrA C w base p F A) : p < w.heap.size := h.own.lt
/-- Where the things lie. -/
theorem GrA.here (h : GrA C w base p F A) {i : Nat} (hi : i < A.E.length) : ∃ g cap, A.tv = .slice (some ⟨g, 0, none⟩) A.E.length cap ∧ g < w.heap.size ∧ A.E.length ≤ cap := by
  obtain ⟨g, cap, e, _, hg, hc⟩ := h.thg.here (by omega)
  exact ⟨g, cap, e, hg, hc⟩
theorem GrA.thing (h : GrA C w base p F A) {g cap : Nat} (hg : A.tv = .slice (some ⟨g, 0, none⟩) A.E.length cap) {i j : Nat} (hi : i < A.E.length) {u : Value} (hu : (A.E[i].cs)[j]? = some u) : w.cell? ⟨g, i * 3 + j, none⟩ = some u := by
  have := h.thg
  rw [hg] at this
  exact this.cell Th.len hi hu
theorem GrA.thlt (h : GrA C w base p F A) {g cap : Nat} (hg : A.tv = .slice (some ⟨g, 0, none⟩) A.E.length cap) : g < w.heap.size := (h.lt g (h.ft g (by rw [hg]; rfl))).2
/-- The locals. -/
theorem GrA.local (h : GrA C w base p F A) {vs : List V} (hL : A.L = some vs) {g n cap : Nat} (hg : A.lv = .slice (some ⟨g, 0, none⟩) n cap) {a j : Nat} (ha : a < vs.length) {u : Value} (hu : (vs[a].cs)[j]? = some u) : w.cell? ⟨g, a * 2 + j, none⟩ = some u := by
  have := h.lvs vs hL
  rw [hg] at this
  exact this.cell V.len ha hu
theorem GrA.lhere (h : GrA C w base p F A) {vs : List V} (hL : A.L = some vs) (h0 : 0 < vs.length) : ∃ g cap, A.lv = .slice (some ⟨g, 0, none⟩) vs.length cap ∧ g < w.heap.size ∧ vs.length ≤ cap ∧ g ∈ F := by
  obtain ⟨g, cap, e, _, hg, hc⟩ := (h.lvs vs hL).here h0
  exact ⟨g, cap, e, hg, hc, h.fv g (by rw [hL]; simp) (by rw [e]; rfl)⟩
end

end Go.Proofs.YtbmcbkebcchjmaaGreatDoor
