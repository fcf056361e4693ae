/-
  What Array, Get, Length and Kind make of a graph.
-/
import Derived.Test.YtbmcbkebcchjmaaGreatDoorRing20
import Derived.Test.YtbmcbkebcchjmaaGreatDoorGraGz20
namespace Go.Proofs.YtbmcbkebcchjmaaGreatDoor
open Go.RowKit

section
variable {C : Cf} {S : Pg} {o : OP}
theorem does_array (O : C.Ok) {vs : List V} (hL : S.L = some vs) (hk : o.k = 2) (hN : ∀ l ∈ lts 2, Names C o l) {kd : Nat} (hM : Makes C o kd) {j : Nat} (hj : j < vs.length) (ha : o.a = (j : Int)) (hE : S.T.length < 1000) :
    Does C S o (refV S.T.length) ⟨S.T ++ [⟨kd, o.n, none⟩], some (vs.set j (refV S.T.length)), S.G⟩ := by
  intro base p F w gs
  obtain ⟨A, h, rfl⟩ := gs.gr
  have el : (A.pg.T).length = A.E.length := by simp [Ga.pg]
  rw [el] at hE ⊢
  refine (do_res h (vs := vs) hL o j hj ha (refV A.E.length) (A.E.map Th.p ++ [⟨kd, o.n, none⟩]) (by rw [hk]; rfl) (by rw [hk]; rfl) (by rw [hk]; rfl) (by rw [hk]; rfl) (by rw [hk]; rfl)
    (fun W q => refusal_2 (h.kept q) (gs.vs.keep q) O o hk (by rw [hk]; exact hN) (fun _ => ⟨kd, hM⟩))
    (fun W q => result_2 (h.kept q) o hk kd hM.b hM.lt hE (Nat.le_trans gs.hb q.size))).mono ?_
  rintro e w' ⟨rfl, u⟩
  exact ⟨rfl, gs.up u⟩
theorem does_get (O : C.Ok) {vs : List V} (hL : S.L = some vs) (hk : o.k = 5) (hN : ∀ l ∈ lts 5, Names C o l) {i : Nat} {t : Tp} (ht : S.T[i]? = some t) (hst : t.st = none)
    {j : Nat} (hj : j < vs.length) (ha : o.a = (j : Int)) {jb : Nat} (hjb : jb < vs.length) (hb : o.b = (jb : Int)) (hvj : vs[jb] = refV i) {jn : Nat} (hn : o.n = (jn : Int)) (hA : C.A t.kd = true) (hf : (jn : Int) < t.ln) {v : V} (hv : v = if C.isR t.kd jn then noneV else zerV) :
    Does C S o v ⟨S.T, some (vs.set j v), S.G⟩ := by
  intro base p F w gs
  obtain ⟨A, h, rfl⟩ := gs.gr
  have hi : i < A.E.length := by
    have := (List.getElem?_eq_some_iff.1 ht).1
    simpa [Ga.pg] using this
  have et : A.E[i].p = t := by
    have := (List.getElem?_eq_some_iff.1 ht).2
    simpa [Ga.pg] using this
  subst et
  refine (do_res h (vs := vs) hL o j hj ha v (A.E.map Th.p) (by rw [hk]; rfl) (by rw [hk]; rfl) (by rw [hk]; rfl) (by rw [hk]; rfl) (by rw [hk]; rfl)
    (fun W q => refusal_5 (h.kept q) (gs.vs.keep q) O o hk (by rw [hk]; exact hN) (fun e => by omega) hL hi jb hjb hb hvj hA (by omega) (by omega))
    (fun W q => result_5 (h.kept q) O o hk hL hi jb hjb hb hvj hst jn hn hA v hv)).mono ?_
  rintro e w' ⟨rfl, u⟩
  exact ⟨rfl, gs.up u⟩
theorem does_len (O : C.Ok) {vs : List V} (hL : S.L = some vs) (hk : o.k = 10) (hN : ∀ l ∈ lts 10, Names C o l) {i : Nat} {t : Tp} (ht : S.T[i]? = some t)
    {j : Nat} (hj : j < vs.length) (ha : o.a = (j : Int)) {jb : Nat} (hjb : jb < vs.length) (hb : o.b = (jb : Int)) (hvj : vs[jb] = refV i) (hA : C.A t.kd = true) (h0 : 0 ≤ t.ln) (h1 : t.ln ≤ 512) :
    Does C S o (numV t.ln) ⟨S.T, some (vs.set j (numV t.ln)), S.G⟩ := by
  intro base p F w gs
  obtain ⟨A, h, rfl⟩ := gs.gr
  have hi : i < A.E.length := by
    have := (List.getElem?_eq_some_iff.1 ht).1
    simpa [Ga.pg] using this
  have et : A.E[i].p = t := by
    have := (List.getElem?_eq_some_iff.1 ht).2
    simpa [Ga.pg] using this
  subst et
  refine (do_res h (vs := vs) hL o j hj ha (numV A.E[i].p.ln) (A.E.map Th.p) (by rw [hk]; rfl) (by rw [hk]; rfl) (by rw [hk]; rfl) (by rw [hk]; rfl) (by rw [hk]; rfl)
    (fun W q => refusal_10 (h.kept q) (gs.vs.keep q) O o hk (by rw [hk]; exact hN) (fun e => by omega) hL hi jb hjb hb hvj hA)
    (fun W q => result_10 (h.kept q) o hk hL hi jb hjb hb hvj _ rfl (by omega) (by omega))).mono ?_
  rintro e w' ⟨rfl, u⟩
  exact ⟨rfl, gs.up u⟩
theorem does_kind (O : C.Ok) {vs : List V} (hL : S.L = some vs) (hk : o.k = 11) (hN : ∀ l ∈ lts 11, Names C o l) {i : Nat} {t : Tp} (ht : S.T[i]? = some t)
    {j : Nat} (hj : j < vs.length) (ha : o.a = (j : Int)) {jb : Nat} (hjb : jb < vs.length) (hb : o.b = (jb : Int)) (hvj : vs[jb] = refV i) (h1 : t.kd ≤ 100) :
    Does C S o (numV (t.kd : Int)) ⟨S.T, some (vs.set j (numV (t.kd : Int))), S.G⟩ := by
  intro base p F w gs
  obtain ⟨A, h, rfl⟩ := gs.gr
  have hi : i < A.E.length := by
    have := (List.getElem?_eq_some_iff.1 ht).1
    simpa [Ga.pg] using this
  have et : A.E[i].p = t := by
    have := (List.getElem?_eq_some_iff.1 ht).2
    simpa [Ga.pg] using this
  subst et
  refine (do_res h (vs := vs) hL o j hj ha (numV (A.E[i].p.kd : Int)) (A.E.map Th.p) (by rw [hk]; rfl) (by rw [hk]; rfl) (by rw [hk]; rfl) (by rw [hk]; rfl) (by rw [hk]; rfl)
    (fun W q => refusal_11 (h.kept q) (gs.vs.keep q) O o hk (by rw [hk]; exact hN) (fun e => by omega) hL hi jb hjb hb hvj)
    (fun W q => result_11 (h.kept q) o hk hL hi jb hjb hb hvj _ rfl (by omega) (by omega))).mono ?_
  rintro e w' ⟨rfl, u⟩
  exact ⟨rfl, gs.up u⟩
end

def CX : Cf := Cw 100 100
theorem CX.ok : CX.Ok := Cw.ok 100 100 (.inr rfl) (.inr rfl)
def oArr (b n : Int) : OP := ⟨2, 0, b, 0, n, 0, 0⟩
def oLen : OP := ⟨10, 1, 0, 0, 0, 0, 0⟩
def oKind : OP := ⟨11, 1, 0, 0, 0, 0, 0⟩
def oGet (n : Int) : OP := ⟨5, 1, 0, 0, n, 0, 0⟩
/-- An array of kd, of n elements; x is what the second local holds. -/
def aS (kd : Nat) (n : Int) (x : V) : Pg := ⟨[⟨kd, n, none⟩], some [refV 0, x, zerV, zerV], gG⟩
theorem makesX {kd : Nat} (hk : kd = 1 ∨ kd = 2) {n : Int} (h0 : 0 ≤ n) (h1 : n ≤ 512) : Makes CX (oArr kd n) kd := by
  have hA : CX.A kd = true := by rcases hk with rfl | rfl <;> rfl
  refine ⟨rfl, by rcases hk with rfl | rfl <;> decide, .inr ⟨rfl, hA⟩, ?_, ?_, ?_⟩
  all_goals
    show _ ≤ _
    simp only [oArr, if_true, Cf.fr, Cf.sp, hA, arrSize, spineOf, dat]
  · split <;> omega
  · show _ ≤ (100 : Int)
    split <;> omega
  · show _ ≤ (100 : Int)
    split <;> omega
theorem runs_arr {kd : Nat} (hk : kd = 1 ∨ kd = 2) {n : Int} (h0 : 0 ≤ n) (h1 : n ≤ 512) : Runs CX ⟨[], some [zerV, zerV, zerV, zerV], gG⟩ [oArr kd n] (refV 0) (aS kd n zerV) :=
  .last (does_array CX.ok (S := ⟨[], some [zerV, zerV, zerV, zerV], gG⟩) (o := oArr kd n) (vs := [zerV, zerV, zerV, zerV]) rfl rfl (names_l ⟨Int.le_refl 0, (by decide : (0 : Int) < 4)⟩ (by rcases hk with rfl | rfl; exact (by decide : (0 : Int) ≤ 1 ∧ (1 : Int) < 4); exact (by decide : (0 : Int) ≤ 2 ∧ (2 : Int) < 4)) (by decide)) (makesX hk h0 h1) (j := 0) (by decide) rfl (by decide))
theorem runs_len {kd : Nat} (hk : kd = 1 ∨ kd = 2) {n : Int} (h0 : 0 ≤ n) (h1 : n ≤ 512) (x : V) : Runs CX (aS kd n x) [oLen] (numV n) (aS kd n (numV n)) :=
  .last (does_len CX.ok (S := aS kd n x) (o := oLen) (vs := [refV 0, x, zerV, zerV]) rfl rfl (names_l (by decide) (by decide) (by decide)) (i := 0) (t := ⟨kd, n, none⟩) rfl (j := 1) (by simp) rfl (jb := 0) (by simp) rfl rfl (by rcases hk with rfl | rfl <;> rfl) h0 h1)
theorem runs_kind {kd : Nat} (hk : kd = 1 ∨ kd = 2) {n : Int} (x : V) : Runs CX (aS kd n x) [oKind] (numV (kd : Int)) (aS kd n (numV (kd : Int))) :=
  .last (does_kind CX.ok (S := aS kd n x) (o := oKind) (vs := [refV 0, x, zerV, zerV]) rfl rfl (names_l (by decide) (by decide) (by decide)) (i := 0) (t := ⟨kd, n, none⟩) rfl (j := 1) (by simp) rfl (jb := 0) (by simp) rfl rfl (by show kd ≤ 100; omega))
theorem runs_get {kd : Nat} (hk : kd = 1 ∨ kd = 2) {n : Int} {k : Nat} (h : (k : Int) < n) (x : V) {v : V} (hv : v = if kd = 1 then noneV else zerV) : Runs CX (aS kd n x) [oGet k] v (aS kd n v) :=
  .last (does_get CX.ok (S := aS kd n x) (o := oGet k) (vs := [refV 0, x, zerV, zerV]) rfl rfl (names_l ⟨(by decide : (0 : Int) ≤ 1), (by decide : (1 : Int) < 4)⟩ ⟨Int.le_refl 0, (by decide : (0 : Int) < 4)⟩ (by decide)) (i := 0) (t := ⟨kd, n, none⟩) rfl rfl (j := 1) (by simp) rfl (jb := 0) (by simp) rfl rfl (jn := k) rfl (by rcases hk with rfl | rfl <;> rfl) h (by rcases hk with rfl | rfl <;> exact hv))

theorem arr_live {base p kd : Nat} {F : List Nat} {w : World} {n z : Int} (h : GS CX base p F (aS kd n (numV z)) w) (hk : kd = 1 ∨ kd = 2) :
    Calls Tryz.prog 10 #[.pointer (some ⟨p, 0, none⟩)] w fun e w' => e = .returned (.tuple #[.int .i64 (CX.fr kd n), .int .i64 (CX.sp kd n)]) ∧ Kept w w' := by
  have hA : CX.A kd = true := by rcases hk with rfl | rfl <;> rfl
  refine (gs_live h CX.ok (vs := [refV 0, numV z, zerV, zerV]) rfl (tg := [none, none]) (tl := [some 0, none, none, none]) (Kds.rep 2) ⟨rfl, fun k q q' => ?_⟩ (by decide) (by decide) (fun _ => none) (fun i t e => .inl ⟨?_, rfl⟩) (fun r hr => by
    have : r = 0 := by simpa using hr
    subst this
    exact Nat.zero_lt_one) (by simp) (fun i t e a => ?_)).mono ?_
  · have q : k < 4 := q
    rcases (by omega : k = 0 ∨ k = 1 ∨ k = 2 ∨ k = 3) with rfl | rfl | rfl | rfl
    · exact Kd.ref 0 (by decide)
    · exact Kd.num _ _
    · exact Kd.num _ _
    · exact Kd.num _ _
  · cases i with
    | zero => simp [aS] at e; rw [← e]
    | succ i => simp [aS] at e
  · cases i with
    | zero => simp [aS] at e; rw [← e] at a; rw [hA] at a; cases a
    | succ i => simp [aS] at e
  · rintro e w' ⟨ids, rfl, hn, hi, k⟩
    have hp := all_perm (n := 1) hn fun x => (hi x).trans rch_one
    rw [sum_of hp (c := CX.fr kd n) (fun i hi => by obtain rfl : i = 0 := by omega
                                                    rfl), sum_of hp (c := CX.sp kd n) (fun i hi => by obtain rfl : i = 0 := by omega
                                                                                                      rfl)]
    refine ⟨?_, k⟩
    simp
/-- 'one', its operations just laid down. -/
theorem one_to {C : Cf} {base p : Nat} {F : List Nat} {S S' : Pg} {a u : World} (h : GS C base p F S u) (k : Kept a u) (hb : a.heap.size ≤ base) {l : List OP} {v : V} (hr : Runs C S l v S') (hl : l.length ≤ 10) (t : TypeId) :
    Calls Tryz.prog 9 #[.pointer (some ⟨p, 0, none⟩), .slice (some ⟨u.heap.size, 0, none⟩) l.length l.length] (u.alloc (.cells (l.flatMap OP.cs).toArray t)) fun e w' => e = .returned (.tuple #[.agg #[.bool v.r, .complex .f64 v.x v.y], .int .i64 0]) ∧ ∃ F', (GS C base p F' S' w' ∧ Kept a w') ∧ Grow F F' u w' := by
  have k1 : Kept u (u.alloc (.cells (l.flatMap OP.cs).toArray t)) := (Kept.refl _).alloc _ _
  refine (one_any (h.kept k1) hr hl (Ol.new u l t hl) (fun q => absurd (h.ge _ q).2 (by omega))).mono ?_
  rintro e w' ⟨rfl, F', g, r⟩
  exact ⟨rfl, F', ⟨g, (h.kept k1).apart r (k.trans k1) hb⟩, (Grow.kept k1).trans r⟩
end Go.Proofs.YtbmcbkebcchjmaaGreatDoor
