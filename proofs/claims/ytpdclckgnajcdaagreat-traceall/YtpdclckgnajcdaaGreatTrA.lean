/-
  A program of package trace as it lies in memory.
-/
import Derived.Test.YtpdclckgnajcdaaGreatMem13
import Derived.Test.YtpdclckgnajcdaaGreatCopy13
import Derived.Test.YtpdclckgnajcdaaGreatPlan6
namespace Go.Proofs.YtpdclckgnajcdaaGreat
open Go.RowKit

/-- What a program stands on: its own copy of the configuration, whose shapes' row is block g. -/
structure En where
  n0 : Int
  n1 : Int
  n2 : Int
  n3 : Int
  n4 : Int
  n5 : Int
  n6 : Int
  n7 : Int
  sl : Nat
  g : Nat
  S : Nat → Sh
  T : Nat → Sh
  R : Nat → Nat → Bool
def En.good (E : En) : Prop := Good E.n0 E.n1 E.n2 E.n3 E.n4 E.n5 E.n6 E.n7 E.sl E.S
/-- What a program knows. -/
structure Td where
  head : Int
  sen : Bool
  arr : Bool
  rx : Option Addr
  rl : Nat
  ln : Int
  md : Int
  wh : Int
  st : Int
  nx : Int
  nt : Int
  fg : Int
  sl : Int
  rf : Int
  er : Int
  sp : Nat
def tdl (E : En) (d : Td) : List Value := [.int .i64 E.n0, .int .i64 E.n1, .int .i64 E.n2, .int .i64 E.n3, .int .i64 E.n4, .int .i64 E.n5, .int .i64 E.n6, .int .i64 E.n7, .slice (some ⟨E.g, 0, none⟩) E.sl E.sl,
  .int .i64 d.head, .bool d.sen, .bool d.arr, .slice d.rx d.rl d.rl, .int .i64 d.ln, .int .i64 d.md, .int .i64 d.wh, .int .i64 d.st, .int .i64 d.nx, .int .i64 d.nt, .int .i64 d.fg, .int .i64 d.sl, .int .i64 d.rf, .int .i64 d.er, .int .i64 (d.sp : Int)]
/-- The blocks that it reaches. -/
def foot (p : Nat) (E : En) (d : Td) (k : Nat) : Prop := k = p ∨ k = E.g ∨ (∃ i y, i < E.sl ∧ 0 < (E.S i).l ∧ (E.T i).x = some ⟨y, 0, none⟩ ∧ y = k) ∨ (0 < d.rl ∧ ∃ o, d.rx = some ⟨k, o, none⟩)
structure TS (w : World) (p : Nat) (E : En) (R : Nat → Bool) (d : Td) : Prop where
  b : Blk w p (tdl E d)
  row : w.rowIs E.g 29 (E.sl * 2) (cf E.T)
  cop : ∀ i, i < E.sl → Cop w E.g (E.S i) (E.T i) (E.R i)
  pg : p < E.g
  ok : E.good
  rfs : Refs w d.rx d.rl R
  pr : ∀ k o, 0 < d.rl → d.rx = some ⟨k, o, none⟩ → p < k

theorem refs_muts {D : List Nat} {w w' : World} {x : Option Addr} {l : Nat} {R : Nat → Bool} (h : Refs w x l R) (m : Mut D w w') (hd : ∀ k o, 0 < l → x = some ⟨k, o, none⟩ → k ∉ D) : Refs w' x l R := fun h0 => by
  obtain ⟨b, o, e, hb, hc⟩ := h h0
  exact ⟨b, o, e, Nat.lt_of_lt_of_le hb m.size, fun i hi => (m.cell hb (hd b o h0 e)).trans (hc i hi)⟩
theorem cop_muts {D : List Nat} {w w' : World} {g : Nat} {s s' : Sh} {R : Nat → Bool} (h : Cop w g s s' R) (m : Mut D w w') (hd : ∀ y, 0 < s.l → s'.x = some ⟨y, 0, none⟩ → g < y → y ∉ D) : Cop w' g s s' R := by
  obtain ⟨h0, h1, h2, y, h3, h4, h5⟩ := h
  refine ⟨h0, h1, h2, y, h3, h4, refs_muts h5 m fun k o hl e => ?_⟩
  obtain ⟨rfl, rfl⟩ : y = k ∧ 0 = o := by simpa using e
  exact hd _ hl h3 h4

section
variable {w w' : World} {p : Nat} {E : En} {R : Nat → Bool} {d d' : Td}
theorem TS.muts {D : List Nat} (h : TS w p E R d) (m : Mut D w w') (hd : ∀ k, foot p E d k → k ∉ D) : TS w' p E R d :=
  ⟨h.b.muts m (hd _ (.inl rfl)), m.row h.row (hd _ (.inr (.inl rfl))), fun i hi => cop_muts (h.cop i hi) m fun y h0 e _ => hd _ (.inr (.inr (.inl ⟨i, y, hi, h0, e, rfl⟩))), h.pg, h.ok,
    refs_muts h.rfs m fun _ o h0 e => hd _ (.inr (.inr (.inr ⟨h0, o, e⟩))), h.pr⟩
theorem TS.kept (h : TS w p E R d) (q : Kept w w') : TS w' p E R d := h.muts (D := []) q.mut fun _ _ z => nomatch z
theorem TS.lt (h : TS w p E R d) {k : Nat} (hk : foot p E d k) : k < w.heap.size := by
  rcases hk with rfl | rfl | ⟨i, y, hi, h0, e, rfl⟩ | ⟨h0, o, e⟩
  · exact h.b.lt
  · exact h.row.lt
  · obtain ⟨_, _, _, z, h3, _, h5⟩ := h.cop i hi
    obtain ⟨b, o, e2, hb, _⟩ := h5 h0
    obtain ⟨rfl, rfl⟩ : z = b ∧ 0 = o := by simpa using e2
    rw [h3] at e
    obtain rfl : z = y := by simpa using e
    exact hb
  · obtain ⟨b, o', e2, hb, _⟩ := h.rfs h0
    rw [e] at e2
    obtain ⟨rfl, rfl⟩ : k = b ∧ o = o' := by simpa using e2
    exact hb
theorem TS.lo (h : TS w p E R d) {k : Nat} (hk : foot p E d k) : p ≤ k := by
  rcases hk with rfl | rfl | ⟨i, y, hi, h0, e, rfl⟩ | ⟨h0, o, e⟩
  · exact Nat.le_refl _
  · exact Nat.le_of_lt h.pg
  · obtain ⟨_, _, _, z, h3, h4, _⟩ := h.cop i hi
    rw [h3] at e
    obtain rfl : z = y := by simpa using e
    have := h.pg
    omega
  · exact Nat.le_of_lt (h.pr k o h0 e)
/-- A cell of its head, other than its shape's. -/
theorem TS.put (h : TS w p E R d) {i : Nat} {u : Value} (hi : (tdl E d)[i]? = some u) (v : Value) (he : (tdl E d).set i v = tdl E d') (h1 : d'.rx = d.rx) (h2 : d'.rl = d.rl) : TS (w.setCell ⟨p, i, none⟩ v) p E R d' := by
  have m : Mut [p] w (w.setCell ⟨p, i, none⟩ v) := (Mut.refl _ _).setCell (by simp) v
  have hpg := h.pg
  refine ⟨by rw [← he]; exact h.b.set hi v, m.row h.row (by simp; omega), fun j hj => cop_muts (h.cop j hj) m (fun y _ _ hy => by simp; omega), h.pg, h.ok, ?_, ?_⟩
  · rw [h1, h2]
    exact refs_muts h.rfs m fun k o h0 e => by have := h.pr k o h0 e; simp; omega
  · rw [h1, h2]
    exact h.pr
/-- Its shape. -/
theorem TS.shaped {R' : Nat → Bool} (h : TS w p E R d) (a : Bool) (g l : Nat) (hr : Refs w (some ⟨g, 0, none⟩) l R') (hg : p < g) :
    TS ((w.setCell ⟨p, 11, none⟩ (.bool a)).setCell ⟨p, 12, none⟩ (.slice (some ⟨g, 0, none⟩) l l)) p E R' { d with arr := a, rx := some ⟨g, 0, none⟩, rl := l } := by
  have m : Mut [p] w ((w.setCell ⟨p, 11, none⟩ (.bool a)).setCell ⟨p, 12, none⟩ (.slice (some ⟨g, 0, none⟩) l l)) := ((Mut.refl _ _).setCell (by simp) _).setCell (by simp) _
  have hpg := h.pg
  refine ⟨(h.b.set (i := 11) rfl _).set (i := 12) rfl _, m.row h.row (by simp; omega), fun j hj => cop_muts (h.cop j hj) m (fun y _ _ hy => by simp; omega), h.pg, h.ok, ?_, ?_⟩
  · exact refs_muts hr m fun k o h0 e => by
      obtain ⟨rfl, rfl⟩ : g = k ∧ 0 = o := by simpa using e
      simp; omega
  · intro k o h0 e
    obtain ⟨rfl, rfl⟩ : g = k ∧ 0 = o := by simpa using e
    exact hg
theorem TS.shps (h : TS w p E R d) : Shps w (some ⟨E.g, 0, none⟩) E.sl E.T := row_shps h.row
theorem TS.goodT (h : TS w p E R d) : Good E.n0 E.n1 E.n2 E.n3 E.n4 E.n5 E.n6 E.n7 E.sl E.T := by
  obtain ⟨hf, m1, m2, m3⟩ := h.ok
  refine ⟨hf, m1, m2, fun i hi => ?_⟩
  have e := m3 i hi
  obtain ⟨h0, h1, _⟩ := h.cop i hi
  unfold Sh.may at *
  rw [h0, h1]
  exact e
theorem TS.refs (h : TS w p E R d) {i : Nat} (hi : i < E.sl) : Refs w (E.T i).x (E.T i).l (E.R i) := by
  obtain ⟨h0, h1, _, y, h3, _, h5⟩ := h.cop i hi
  rw [h1, h3]
  exact h5
end
end Go.Proofs.YtpdclckgnajcdaaGreat
