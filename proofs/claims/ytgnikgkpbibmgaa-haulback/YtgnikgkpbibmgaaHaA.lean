/-
  A program of package haul as it lies in memory.
-/
import Derived.Test.YtgnikgkpbibmgaaMem13
import Derived.Test.YtgnikgkpbibmgaaLay17
import Derived.Test.YtgnikgkpbibmgaaSpn17
namespace Go.Proofs.Ytgnikgkpbibmgaa
open Go.RowKit

/-- What a program stands on: its own copy of the configuration, whose shapes' row is block g. -/
structure En where
  n0 : Int
  n1 : Int
  n2 : Int
  n3 : Int
  n4 : Int
  n5 : Int
  n6 : Int
  n7 : Int
  sl : Nat
  g : Nat
  S : Nat → Sh
  T : Nat → Sh
  R : Nat → Nat → Bool
def En.good (E : En) : Prop := Good E.n0 E.n1 E.n2 E.n3 E.n4 E.n5 E.n6 E.n7 E.sl E.S
/-- What a program knows: the space, its end, the sense; where the spine is, where its copy; its sentinel, its slots, is it wanted; the slot, what stands there; where it goes on. -/
structure Hd where
  fr : Int
  en : Int
  sen : Bool
  pa : Int
  pt : Int
  hd : Int
  ct : Int
  wa : Bool
  sl : Int
  wo : Cx
  st : Int
  er : Int
  mo : Int
  sp : Nat
def hdl (E : En) (d : Hd) : List Value := [.int .i64 E.n0, .int .i64 E.n1, .int .i64 E.n2, .int .i64 E.n3, .int .i64 E.n4, .int .i64 E.n5, .int .i64 E.n6, .int .i64 E.n7, .slice (some ⟨E.g, 0, none⟩) E.sl E.sl,
  .int .i64 d.fr, .int .i64 d.en, .bool d.sen, .int .i64 d.pa, .int .i64 d.pt, .int .i64 d.hd, .int .i64 d.ct, .bool d.wa, .int .i64 d.sl, .complex .f64 d.wo.re d.wo.im, .int .i64 d.st, .int .i64 d.er, .int .i64 d.mo, .int .i64 (d.sp : Int)]
/-- The blocks that it reaches. -/
def foot (p : Nat) (E : En) (k : Nat) : Prop := k = p ∨ k = E.g ∨ (∃ i y, i < E.sl ∧ 0 < (E.S i).l ∧ (E.T i).x = some ⟨y, 0, none⟩ ∧ y = k)
structure HS (w : World) (p : Nat) (E : En) (d : Hd) : Prop where
  b : Blk w p (hdl E d)
  row : w.rowIs E.g 26 (E.sl * 2) (cf E.T)
  cop : ∀ i, i < E.sl → Cop w E.g (E.S i) (E.T i) (E.R i)
  pg : p < E.g
  ok : E.good

theorem refs_muts {D : List Nat} {w w' : World} {x : Option Addr} {l : Nat} {R : Nat → Bool} (h : Refs w x l R) (m : Mut D w w') (hd : ∀ k o, 0 < l → x = some ⟨k, o, none⟩ → k ∉ D) : Refs w' x l R := fun h0 => by
  obtain ⟨b, o, e, hb, hc⟩ := h h0
  exact ⟨b, o, e, Nat.lt_of_lt_of_le hb m.size, fun i hi => (m.cell hb (hd b o h0 e)).trans (hc i hi)⟩
theorem cop_muts {D : List Nat} {w w' : World} {g : Nat} {s s' : Sh} {R : Nat → Bool} (h : Cop w g s s' R) (m : Mut D w w') (hd : ∀ y, 0 < s.l → s'.x = some ⟨y, 0, none⟩ → g < y → y ∉ D) : Cop w' g s s' R := by
  obtain ⟨h0, h1, h2, y, h3, h4, h5⟩ := h
  refine ⟨h0, h1, h2, y, h3, h4, refs_muts h5 m fun k o hl e => ?_⟩
  obtain ⟨rfl, rfl⟩ : y = k ∧ 0 = o := by simpa using e
  exact hd _ hl h3 h4

section
variable {w w' : World} {p : Nat} {E : En} {d d' : Hd}
theorem HS.muts {D : List Nat} (h : HS w p E d) (m : Mut D w w') (hd : ∀ k, foot p E k → k ∉ D) : HS w' p E d :=
  ⟨h.b.muts m (hd _ (.inl rfl)), m.row h.row (hd _ (.inr (.inl rfl))), fun i hi => cop_muts (h.cop i hi) m fun y h0 e _ => hd _ (.inr (.inr ⟨i, y, hi, h0, e, rfl⟩)), h.pg, h.ok⟩
theorem HS.kept (h : HS w p E d) (q : Kept w w') : HS w' p E d := h.muts (D := []) q.mut fun _ _ z => nomatch z
theorem HS.lt (h : HS w p E d) {k : Nat} (hk : foot p E k) : k < w.heap.size := by
  rcases hk with rfl | rfl | ⟨i, y, hi, h0, e, rfl⟩
  · exact h.b.lt
  · exact h.row.lt
  · obtain ⟨_, _, _, z, h3, _, h5⟩ := h.cop i hi
    obtain ⟨b, o, e2, hb, _⟩ := h5 h0
    obtain ⟨rfl, rfl⟩ : z = b ∧ 0 = o := by simpa using e2
    rw [h3] at e
    obtain rfl : z = y := by simpa using e
    exact hb
theorem HS.lo (h : HS w p E d) {k : Nat} (hk : foot p E k) : p ≤ k := by
  rcases hk with rfl | rfl | ⟨i, y, hi, h0, e, rfl⟩
  · exact Nat.le_refl _
  · exact Nat.le_of_lt h.pg
  · obtain ⟨_, _, _, z, h3, h4, _⟩ := h.cop i hi
    rw [h3] at e
    obtain rfl : z = y := by simpa using e
    have := h.pg
    omega
/-- A cell of its head. -/
theorem HS.put (h : HS w p E d) {i : Nat} {u : Value} (hi : (hdl E d)[i]? = some u) (v : Value) (he : (hdl E d).set i v = hdl E d') : HS (w.setCell ⟨p, i, none⟩ v) p E d' := by
  have m : Mut [p] w (w.setCell ⟨p, i, none⟩ v) := (Mut.refl _ _).setCell (by simp) v
  have hpg := h.pg
  exact ⟨by rw [← he]; exact h.b.set hi v, m.row h.row (by simp; omega), fun j hj => cop_muts (h.cop j hj) m (fun y _ _ hy => by simp; omega), h.pg, h.ok⟩
theorem HS.shps (h : HS w p E d) : Shps w (some ⟨E.g, 0, none⟩) E.sl E.T := row_shps h.row
theorem HS.goodT (h : HS w p E d) : Good E.n0 E.n1 E.n2 E.n3 E.n4 E.n5 E.n6 E.n7 E.sl E.T := by
  obtain ⟨hf, m1, m2, m3⟩ := h.ok
  refine ⟨hf, m1, m2, fun i hi => ?_⟩
  have e := m3 i hi
  obtain ⟨h0, h1, _⟩ := h.cop i hi
  unfold Sh.may at *
  rw [h0, h1]
  exact e
theorem HS.n0 (h : HS w p E d) : 4 ≤ E.n0 ∧ E.n0 ≤ 1024 := h.ok.1.1
theorem HS.n1 (h : HS w p E d) : 0 ≤ E.n1 ∧ E.n1 ≤ 2048 := h.ok.1.2.1
end

/-- Where a space begins. -/
def En.sp (E : En) (s : Int) : Int := 8 * E.n0 + s * E.n1

section
variable {w : World} {p : Nat} {E : En} {d : Hd}
/-- Behind whatever is kept: the configuration's addresses. -/
theorem HS.frag (h : HS w p E d) (i k : Int) (hi : 0 ≤ i ∧ i < E.n0) (hk : 0 ≤ k ∧ k < 8) :
    Calls Try.prog 73 #[.agg #[.int .i64 E.n0, .int .i64 E.n1, .int .i64 E.n2, .int .i64 E.n3, .int .i64 E.n4, .int .i64 E.n5, .int .i64 E.n6, .int .i64 E.n7, .slice (some ⟨E.g, 0, none⟩) E.sl E.sl], .int .i64 i, .int .i64 k] w fun e w' => e = .returned (.tuple #[.int .i64 (i * 8 + k), .int .i64 0]) ∧ Kept w w' :=
  frag_any E.n0 E.n1 E.n2 E.n3 E.n4 E.n5 E.n6 E.n7 _ E.sl E.sl E.T i k _ _ w h.shps (At.is _ ⟨h.goodT, hi, hk⟩)
theorem HS.spine (h : HS w p E d) (s k : Int) (hs : 0 ≤ s ∧ s < 2) (hk : 0 ≤ k ∧ k < E.n1) :
    Calls Try.prog 74 #[.agg #[.int .i64 E.n0, .int .i64 E.n1, .int .i64 E.n2, .int .i64 E.n3, .int .i64 E.n4, .int .i64 E.n5, .int .i64 E.n6, .int .i64 E.n7, .slice (some ⟨E.g, 0, none⟩) E.sl E.sl], .int .i64 s, .int .i64 k] w fun e w' => e = .returned (.tuple #[.int .i64 (E.sp s + k), .int .i64 0]) ∧ Kept w w' :=
  spine_any E.n0 E.n1 E.n2 E.n3 E.n4 E.n5 E.n6 E.n7 _ E.sl E.sl E.T s k _ _ w h.shps (At.is _ ⟨h.goodT, hs, hk⟩)
theorem HS.lfrag (h : HS w p E d) (i : Int) (u : World) (hi : 0 ≤ i ∧ i < E.n0) :
    Calls Try.prog 66 #[.agg #[.int .i64 E.n0, .int .i64 E.n1, .int .i64 E.n2, .int .i64 E.n3, .int .i64 E.n4, .int .i64 E.n5, .int .i64 E.n6, .int .i64 E.n7, .slice (some ⟨E.g, 0, none⟩) E.sl E.sl], .complex .f64 (cr i).re (cr i).im] u fun e w' => e = .returned (.tuple #[.int .i64 i, .bool true]) ∧ Kept u w' :=
  lfrag_is E.n0 E.n1 E.n2 E.n3 E.n4 E.n5 E.n6 E.n7 _ E.sl E.sl i u h.n0.2 hi
theorem sp_lo (h : HS w p E d) {s : Int} (hs : 0 ≤ s ∧ s < 2) : 0 ≤ E.sp s ∧ E.sp s ≤ 20000 := by
  have h0 := h.n0
  have h1 := h.n1
  unfold En.sp
  rcases (by omega : s = 0 ∨ s = 1) with rfl | rfl <;> omega
end
end Go.Proofs.Ytgnikgkpbibmgaa
