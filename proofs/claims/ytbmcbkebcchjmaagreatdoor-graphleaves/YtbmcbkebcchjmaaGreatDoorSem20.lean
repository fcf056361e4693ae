/-
  A graph in memory beside what it is; what one operation does to it.
-/
import Derived.Test.YtbmcbkebcchjmaaGreatDoorJoin20
import Derived.Test.YtbmcbkebcchjmaaGreatDoorGraI20
namespace Go.Proofs.YtbmcbkebcchjmaaGreatDoor
open Go.RowKit

/-- A graph that lies at p, none of it below base; the words lie below base. -/
structure GS (C : Cf) (base p : Nat) (F : List Nat) (S : Pg) (w : World) : Prop where
  gr : ∃ A, GrA C w base p F A ∧ A.pg = S
  vs : Vs w
  gb : 1 < base
  hb : base ≤ w.heap.size

section
variable {C : Cf} {base p : Nat} {F F' : List Nat} {S S' : Pg} {w w' : World}
theorem GS.kept (h : GS C base p F S w) (k : Kept w w') : GS C base p F S w' := by
  obtain ⟨⟨A, g, e⟩, v, b, hb⟩ := h
  exact ⟨⟨A, g.kept k, e⟩, v.keep k, b, Nat.le_trans hb k.size⟩
theorem GS.ge (h : GS C base p F S w) : ∀ k ∈ F, base ≤ k ∧ k < w.heap.size := by
  obtain ⟨A, g, e⟩ := h.gr
  exact g.lt
theorem Vs.grow (h : Vs w) (g : Grow F F' w w') (hF : 1 ∉ F) : Vs w' :=
  ⟨Nat.lt_of_lt_of_le h.lt g.muta.size, fun k hk => (g.muta.cell (p := ⟨1, k * 2 + 1, none⟩) h.lt hF).trans (h.lts k hk)⟩
theorem GS.up (h : GS C base p F S w) (u : Upd C base p F S' w w') : ∃ F', GS C base p F' S' w' ∧ Grow F F' w w' := by
  obtain ⟨F', A', g, e, gr⟩ := u
  refine ⟨F', ⟨⟨A', g, e⟩, h.vs.grow gr fun q => ?_, h.gb, Nat.le_trans h.hb gr.muta.size⟩, gr⟩
  have := (h.ge _ q).1
  have := h.gb
  omega
end

/-- What Do answers and makes of the graph. -/
def Does (C : Cf) (S : Pg) (o : OP) (v : V) (S' : Pg) : Prop := ∀ base p F w, GS C base p F S w →
  Calls Tryz.prog 17 #[.pointer (some ⟨p, 0, none⟩), .int .i64 0, o.val, .bool false] w fun e w' => e = .returned (.tuple #[v.val, .int .i64 0]) ∧ ∃ F', GS C base p F' S' w' ∧ Grow F F' w w'

section
variable {C : Cf} {S : Pg} {o : OP}
theorem does_new (O : C.Ok) {vs : List V} (hL : S.L = some vs) (hk : o.k = 1) (hN : ∀ l ∈ lts 1, Names C o l) {kd : Nat} (hM : Makes C o kd) {j : Nat} (hj : j < vs.length) (ha : o.a = (j : Int)) (hE : S.T.length < 1000) :
    Does C S o (refV S.T.length) ⟨S.T ++ [⟨kd, 0, none⟩], some (vs.set j (refV S.T.length)), S.G⟩ := by
  intro base p F w gs
  obtain ⟨A, h, rfl⟩ := gs.gr
  have el : (A.pg.T).length = A.E.length := by simp [Ga.pg]
  rw [el] at hE ⊢
  refine (do_res h (vs := vs) hL o j hj ha (refV A.E.length) (A.E.map Th.p ++ [⟨kd, 0, none⟩]) (by rw [hk]; rfl) (by rw [hk]; rfl) (by rw [hk]; rfl) (by rw [hk]; rfl) (by rw [hk]; rfl)
    (fun W q => refusal_1 (h.kept q) (gs.vs.keep q) O o hk (by rw [hk]; exact hN) (fun _ => ⟨kd, hM⟩))
    (fun W q => result_1 (h.kept q) o hk kd hM.b hM.lt hE (Nat.le_trans gs.hb q.size))).mono ?_
  rintro e w' ⟨rfl, u⟩
  exact ⟨rfl, gs.up u⟩
theorem does_clear (O : C.Ok) {vs : List V} (hL : S.L = some vs) (hk : o.k = 13) (hN : ∀ l ∈ lts 13, Names C o l) {j : Nat} (hj : j < vs.length) (ha : o.a = (j : Int)) :
    Does C S o noneV ⟨S.T, some (vs.set j noneV), S.G⟩ := by
  intro base p F w gs
  obtain ⟨A, h, rfl⟩ := gs.gr
  refine (do_res h (vs := vs) hL o j hj ha noneV (A.E.map Th.p) (by rw [hk]; rfl) (by rw [hk]; rfl) (by rw [hk]; rfl) (by rw [hk]; rfl) (by rw [hk]; rfl)
    (fun W q => refusal_13 (h.kept q) (gs.vs.keep q) O o hk (by rw [hk]; exact hN) (fun e => by omega))
    (fun W q => result_13 (h.kept q) o hk)).mono ?_
  rintro e w' ⟨rfl, u⟩
  exact ⟨rfl, gs.up u⟩
theorem does_copy (O : C.Ok) {vs : List V} (hL : S.L = some vs) (hk : o.k = 14) (hN : ∀ l ∈ lts 14, Names C o l) {j : Nat} (hj : j < vs.length) (ha : o.a = (j : Int)) {i : Nat} (hi : i < vs.length) (hb : o.b = (i : Int)) {v : V} (hv : vs[i] = v) :
    Does C S o v ⟨S.T, some (vs.set j v), S.G⟩ := by
  intro base p F w gs
  obtain ⟨A, h, rfl⟩ := gs.gr
  refine (do_res h (vs := vs) hL o j hj ha v (A.E.map Th.p) (by rw [hk]; rfl) (by rw [hk]; rfl) (by rw [hk]; rfl) (by rw [hk]; rfl) (by rw [hk]; rfl)
    (fun W q => refusal_14 (h.kept q) (gs.vs.keep q) O o hk (by rw [hk]; exact hN) (fun e => by omega))
    (fun W q => result_14 (h.kept q) o hk hL i hi hb v hv)).mono ?_
  rintro e w' ⟨rfl, u⟩
  exact ⟨rfl, gs.up u⟩
/-- Store into an object nothing was stored into. -/
theorem does_store (O : C.Ok) {vs : List V} (hL : S.L = some vs) (hk : o.k = 4) (hN : ∀ l ∈ lts 4, Names C o l) {i : Nat} {t : Tp} (ht : S.T[i]? = some t) (hst : t.st = none)
    {j : Nat} (hj : j < vs.length) (ha : o.a = (j : Int)) (hvj : vs[j] = refV i) {jb : Nat} (hjb : jb < vs.length) (hb : o.b = (jb : Int)) {v : V} (hv : vs[jb] = v) {jn : Nat} (hn : o.n = (jn : Int)) (hjn : jn ≤ 1000000) (hA : C.A t.kd = false) (hf : jn < C.L t.kd) (hr : v.r = C.isR t.kd jn) :
    Does C S o zerV ⟨S.T.set i ⟨t.kd, t.ln, some ((jn : Int), v)⟩, S.L, S.G⟩ := by
  intro base p F w gs
  obtain ⟨A, h, rfl⟩ := gs.gr
  have hi : i < A.E.length := by
    have := (List.getElem?_eq_some_iff.1 ht).1
    simpa [Ga.pg] using this
  have et : A.E[i].p = t := by
    have := (List.getElem?_eq_some_iff.1 ht).2
    simpa [Ga.pg] using this
  subst et
  refine (do_store h gs.vs O (vs := vs) hL o hk (by rw [hk]; exact hN) hi hst j hj ha hvj jb hjb hb v hv jn hn hjn hA hf hr gs.hb).mono ?_
  rintro e w' ⟨rfl, u⟩
  exact ⟨rfl, gs.up u⟩
end

/-- A chain of operations: where each leads, and what it answers. -/
inductive Runs (C : Cf) : Pg → List OP → V → Pg → Prop
  | last {S : Pg} {o : OP} {v : V} {S' : Pg} (h : Does C S o v S') : Runs C S [o] v S'
  | more {S : Pg} {o : OP} {v : V} {S1 : Pg} {l : List OP} {v' : V} {S' : Pg} (h : Does C S o v S1) (t : Runs C S1 l v' S') : Runs C S (o :: l) v' S'
/-- By their numbers. -/
theorem Runs.at {C : Cf} {S : Pg} {l : List OP} {v : V} {S' : Pg} (h : Runs C S l v S') : ∃ (T : Nat → Pg) (u : Nat → V), T 0 = S ∧ T l.length = S' ∧ (∀ k (hk : k < l.length), Does C (T k) l[k] (u (k + 1)) (T (k + 1))) ∧ u l.length = v ∧ 0 < l.length := by
  induction h with
  | @last S o v S' h => exact ⟨fun k => if k = 0 then S else S', fun _ => v, rfl, rfl, fun k hk => by
      have e : k = 0 := by simpa using hk
      subst e
      exact h, rfl, by simp⟩
  | @more S o v S1 l v' S' h t ih =>
    obtain ⟨T, u, e0, e1, e2, e3, e4⟩ := ih
    refine ⟨fun k => if k = 0 then S else T (k - 1), fun k => if k = 1 then v else u (k - 1), rfl, by simpa using e1, fun k hk => ?_, ?_, by simp⟩
    · cases k with
      | zero => simp only [if_true]; rw [← e0] at h; exact h
      | succ k =>
        have := e2 k (by simpa using hk)
        simpa using this
    · have : l.length ≠ 0 := by omega
      simpa [this] using e3
end Go.Proofs.YtbmcbkebcchjmaaGreatDoor
