/-
  What is told of a graph: New, Join, Reach, Live, Len.
-/
import Derived.Test.YtbmcbkebcchjmaaGreatDoorWide20
import Derived.Test.YtbmcbkebcchjmaaGreatDoorRee20
namespace Go.Proofs.YtbmcbkebcchjmaaGreatDoor
open Go.RowKit

section
variable {C : Cf} {base p : Nat} {F : List Nat} {S : Pg} {w : World}
theorem gs_new {x : Option Addr} {c n : Nat} {T : Nat → Sh} (O : C.Ok) (w : World) (h : CM C w x T) (hv : Vs w) (hn : C.n2 = (n : Int)) (h2 : n = 0 ∨ n = 2) :
    Calls Tryz.prog 7 #[C.val (.slice x C.l c)] w fun e w' => ∃ p F, e = .returned (.tuple #[.pointer (some ⟨p, 0, none⟩), .int .i64 0]) ∧ GS C w.heap.size p F ⟨[], none, List.replicate n noneV⟩ w' ∧ Kept w w' := by
  refine (gnew_any O w h hn h2 w.heap.size (Nat.le_refl _)).mono ?_
  rintro e w' ⟨p, F, A, rfl, ⟨g, h1, h2, h3⟩, k⟩
  refine ⟨p, F, rfl, ⟨⟨A, g, ?_⟩, hv.keep k, hv.lt, k.size⟩, k⟩
  unfold Ga.pg
  rw [h1, h2, h3]
  rfl
theorem gs_join (h : GS C base p F S w) (O : C.Ok) (hL : S.L = none) {n : Nat} (hn : C.n4 = (n : Int)) (h1 : n = 1 ∨ n = 4) :
    Calls Tryz.prog 8 #[.pointer (some ⟨p, 0, none⟩), .int .i64 0] w fun e w' => e = .returned (.bool true) ∧ ∃ F', GS C base p F' ⟨S.T, some (List.replicate n zerV), S.G⟩ w' ∧ Grow F F' w w' := by
  obtain ⟨A, g, rfl⟩ := h.gr
  refine (join_any g O hL hn h1 h.hb).mono ?_
  rintro e w' ⟨rfl, u⟩
  exact ⟨rfl, h.up u⟩
theorem gs_len (h : GS C base p F S w) : Calls Tryz.prog 18 #[.pointer (some ⟨p, 0, none⟩)] w fun e w' => e = .returned (.int .i64 (S.T.length : Int)) ∧ w' = w := by
  obtain ⟨A, g, rfl⟩ := h.gr
  have e : (A.pg).T.length = A.E.length := by simp [Ga.pg]
  rw [e]
  exact len_any g

/-- What these values refer to. -/
def Kds (vs : List V) (ts : List (Option Nat)) : Prop := vs.length = ts.length ∧ ∀ k (h : k < vs.length) (h' : k < ts.length), Kd vs[k] ts[k]
theorem filter_range (ts : List (Option Nat)) : (List.range ts.length).filterMap (fun k => (ts[k]?).join) = ts.filterMap id := by
  have e : ts = (List.range ts.length).map (fun k => (ts[k]?).join) := by
    apply List.ext_getElem
    · simp
    · intro i h1 h2
      simp [h1]
  conv => rhs; rw [e]
  rw [List.filterMap_map]
  rfl
theorem Kds.idl {vs : List V} {ts : List (Option Nat)} (h : Kds vs ts) : idl (fun k => (ts[k]?).join) vs.length = NI (ts.filterMap id) := by
  unfold Go.Proofs.YtbmcbkebcchjmaaGreatDoor.idl NI
  rw [h.1, filter_range]
theorem Kds.kd {vs : List V} {ts : List (Option Nat)} (h : Kds vs ts) (k : Nat) (q : k < vs.length) : Kd vs[k] (ts[k]?).join := by
  have q' : k < ts.length := by rw [← h.1]; exact q
  have := h.2 k q q'
  simpa [q'] using this
theorem Kds.rep (n : Nat) : Kds (List.replicate n noneV) (List.replicate n none) := ⟨by simp, fun k h h' => by simp; exact Kd.none⟩
theorem filter_none (n : Nat) : (List.replicate n (none : Option Nat)).filterMap id = [] := by
  induction n with
  | zero => rfl
  | succ n ih => simp [List.replicate_succ, ih]

/-- Where things lead. -/
def LeadsT (T : List Tp) (sc : Nat → Option Nat) : Prop := ∀ i t, T[i]? = some t → (t.st = none ∧ sc i = none) ∨ ∃ k v, t.st = some (k, v) ∧ Kd v (sc i)
def frT (C : Cf) (T : List Tp) (i : Nat) : Int := match T[i]? with | some t => C.fr t.kd t.ln | none => 0
def spT (C : Cf) (T : List Tp) (i : Nat) : Int := match T[i]? with | some t => C.sp t.kd t.ln | none => 0

theorem gs_roots (h : GS C base p F S w) {vs : List V} (hL : S.L = some vs) {tg tl : List (Option Nat)} (hg : Kds S.G tg) (hv : Kds vs tl) (l1 : tg.length ≤ 1000) (l2 : tl.length ≤ 1000) :
    Calls Tryz.prog 30 #[.pointer (some ⟨p, 0, none⟩)] w fun e w' => ∃ v, e = .returned v ∧ Lst w' w.heap.size v (NI (tg.filterMap id ++ tl.filterMap id)) ∧ Kept w w' := by
  obtain ⟨A, g, rfl⟩ := h.gr
  have hg' : Kds A.G tg := hg
  have r := roots_some g (vs := vs) hL (fun k => (tg[k]?).join) (fun k => (tl[k]?).join) hg'.kd (by rw [hg'.1]; exact l1) hv.kd (by rw [hv.1]; exact l2)
  rw [hg'.idl, hv.idl, ← NI_app] at r
  exact r

theorem gs_reach (h : GS C base p F S w) {vs : List V} (hL : S.L = some vs) {tg tl : List (Option Nat)} (hg : Kds S.G tg) (hv : Kds vs tl) (l1 : tg.length ≤ 1000) (l2 : tl.length ≤ 1000) (sc : Nat → Option Nat) (hs : LeadsT S.T sc)
    (hr : ∀ r ∈ tg.filterMap id ++ tl.filterMap id, r < S.T.length) (hsb : ∀ i j, sc i = some j → j < S.T.length) :
    Calls Tryz.prog 14 #[.pointer (some ⟨p, 0, none⟩)] w fun e w' => ∃ v ids, e = .returned v ∧ Lst w' w.heap.size v (NI ids) ∧ ids.Nodup ∧ (∀ x, x ∈ ids ↔ Rch (tg.filterMap id ++ tl.filterMap id) sc x) ∧ Kept w w' := by
  have hR : ∀ W, Kept w W → _ := fun W k => gs_roots (h.kept k) hL hg hv l1 l2
  obtain ⟨A, g, rfl⟩ := h.gr
  have e : (A.pg).T.length = A.E.length := by simp [Ga.pg]
  rw [e] at hr hsb
  refine reach_any g _ sc hr ?_ (fun i hi => hs i _ (by simp [Ga.pg, hi])) hsb hR
  have a1 := List.length_filterMap_le id tg
  have a2 := List.length_filterMap_le id tl
  simp only [List.length_append]
  omega

theorem gs_live (h : GS C base p F S w) (O : C.Ok) {vs : List V} (hL : S.L = some vs) {tg tl : List (Option Nat)} (hg : Kds S.G tg) (hv : Kds vs tl) (l1 : tg.length ≤ 1000) (l2 : tl.length ≤ 1000) (sc : Nat → Option Nat) (hs : LeadsT S.T sc)
    (hr : ∀ r ∈ tg.filterMap id ++ tl.filterMap id, r < S.T.length) (hsb : ∀ i j, sc i = some j → j < S.T.length) (hW : ∀ (i : Nat) (t : Tp), S.T[i]? = some t → C.A t.kd = false → t.ln = 0) :
    Calls Tryz.prog 10 #[.pointer (some ⟨p, 0, none⟩)] w fun e w' => ∃ ids : List Nat, e = .returned (.tuple #[.int .i64 (sumF (frT C S.T) ids), .int .i64 (sumF (spT C S.T) ids)]) ∧ ids.Nodup ∧ (∀ x, x ∈ ids ↔ Rch (tg.filterMap id ++ tl.filterMap id) sc x) ∧ Kept w w' := by
  have hR : ∀ W, Kept w W → _ := fun W k => gs_reach (h.kept k) hL hg hv l1 l2 sc hs hr hsb
  obtain ⟨A, g, rfl⟩ := h.gr
  have e : (A.pg).T.length = A.E.length := by simp [Ga.pg]
  rw [e] at hr hsb
  have e1 : frT C (A.pg).T = frE C A.E := by
    funext i
    unfold frT frE Ga.pg
    rw [List.getElem?_map]
    cases A.E[i]? <;> rfl
  have e2 : spT C (A.pg).T = spE C A.E := by
    funext i
    unfold spT spE Ga.pg
    rw [List.getElem?_map]
    cases A.E[i]? <;> rfl
  rw [e1, e2]
  exact live_any g O (fun i hi => hW i _ (by simp [Ga.pg, hi])) _ sc (fun x hx => hx.lt hr hsb) hR
end
end Go.Proofs.YtbmcbkebcchjmaaGreatDoor
