/-
  A program of package find in memory, and contracts of its small functions.
-/
import Derived.Test.YtpdclckgnajcdaaMem13
import Derived.Test.YtpdclckgnajcdaaCopy13
import Derived.Test.YtpdclckgnajcdaaPlan6
import Derived.Test.YtpdclckgnajcdaaLay16
import Derived.ScopeJumps
namespace Go.Proofs.Ytpdclckgnajcdaa
open Go.RowKit

/-- What a program stands on: its own copy of the configuration, whose shapes' row is block g. -/
structure En where
  n0 : Int
  n1 : Int
  n2 : Int
  n3 : Int
  n4 : Int
  n5 : Int
  n6 : Int
  n7 : Int
  sl : Nat
  g : Nat
  S : Nat → Sh
  T : Nat → Sh
  R : Nat → Nat → Bool
/-- What a program knows. -/
structure Fd where
  head : Int
  nth : Int
  arr : Bool
  st : Int
  nx : Int
  lk : Int
  pl : Int
  ln : Int
  rf : Bool
  at' : Int
  er : Int
  sp : Nat
def fdl (E : En) (d : Fd) : List Value := [.int .i64 E.n0, .int .i64 E.n1, .int .i64 E.n2, .int .i64 E.n3, .int .i64 E.n4, .int .i64 E.n5, .int .i64 E.n6, .int .i64 E.n7, .slice (some ⟨E.g, 0, none⟩) E.sl E.sl,
  .int .i64 d.head, .int .i64 d.nth, .bool d.arr, .int .i64 d.st, .int .i64 d.nx, .int .i64 d.lk, .int .i64 d.pl, .int .i64 d.ln, .bool d.rf, .int .i64 d.at', .int .i64 d.er, .int .i64 (d.sp : Int)]
def En.good (E : En) : Prop := Good E.n0 E.n1 E.n2 E.n3 E.n4 E.n5 E.n6 E.n7 E.sl E.S
structure FS (w : World) (p : Nat) (E : En) (d : Fd) : Prop where
  b : Blk w p (fdl E d)
  row : w.rowIs E.g 38 (E.sl * 2) (cf E.T)
  cop : ∀ i, i < E.sl → Cop w E.g (E.S i) (E.T i) (E.R i)
  pg : p < E.g
  ok : E.good

section
variable {w w' : World} {p : Nat} {E : En} {d d' : Fd}
theorem Cop.muts {D : List Nat} {g : Nat} {s s' : Sh} {R : Nat → Bool} (h : Cop w g s s' R) (m : Mut D w w') (hd : ∀ k, k ∈ D → k ≤ g) : Cop w' g s s' R := by
  obtain ⟨h0, h1, h2, y, h3, h4, h5⟩ := h
  refine ⟨h0, h1, h2, y, h3, h4, fun h0 => ?_⟩
  obtain ⟨b, o, e, hb, hc⟩ := h5 h0
  obtain ⟨rfl, rfl⟩ : y = b ∧ 0 = o := by simpa using e
  exact ⟨y, 0, rfl, Nat.lt_of_lt_of_le hb m.size, fun i hi => (m.cell hb fun q => by have := hd _ q; simp only at *; omega).trans (hc i hi)⟩
theorem FS.kept (h : FS w p E d) (k : Kept w w') : FS w' p E d := ⟨h.b.kept k, k.row h.row, fun i hi => (h.cop i hi).kept k, h.pg, h.ok⟩
theorem FS.muts {D : List Nat} (h : FS w p E d) (m : Mut D w w') (hd : ∀ k, k ∈ D → k < p) : FS w' p E d :=
  ⟨h.b.muts m (fun q => by have := hd _ q; omega), m.row h.row (fun q => by have := hd _ q; have := h.pg; omega), fun i hi => (h.cop i hi).muts m (fun k q => by have := hd _ q; have := h.pg; omega), h.pg, h.ok⟩
theorem FS.put (h : FS w p E d) {i : Nat} {u : Value} (hi : (fdl E d)[i]? = some u) (v : Value) (he : (fdl E d).set i v = fdl E d') : FS (w.setCell ⟨p, i, none⟩ v) p E d' := by
  refine ⟨by rw [← he]; exact h.b.set hi v, h.row.setOther (by have := h.pg; simp only; omega) v, fun j hj => ?_, h.pg, h.ok⟩
  exact (h.cop j hj).muts (D := [p]) ((Mut.refl _ _).setCell (by simp) v) (fun k hk => by simp at hk; have := h.pg; omega)
theorem FS.shps (h : FS w p E d) : Shps w (some ⟨E.g, 0, none⟩) E.sl E.T := row_shps h.row
theorem FS.goodT (h : FS w p E d) : Good E.n0 E.n1 E.n2 E.n3 E.n4 E.n5 E.n6 E.n7 E.sl E.T := by
  obtain ⟨hf, m1, m2, m3⟩ := h.ok
  refine ⟨hf, m1, m2, fun i hi => ?_⟩
  have e := m3 i hi
  obtain ⟨h0, h1, _⟩ := h.cop i hi
  unfold Sh.may at *
  rw [h0, h1]
  exact e
theorem FS.refs (h : FS w p E d) {i : Nat} (hi : i < E.sl) : Refs w (E.T i).x (E.T i).l (E.R i) := by
  obtain ⟨h0, h1, _, y, h3, _, h5⟩ := h.cop i hi
  rw [h1, h3]
  exact h5
end

/-- A scope in which the run jumps on to one label. -/
theorem wp_scope_hop {P : Program} {a : Act} {w : World} {Q : Exit → Act → World → Prop} {c r : Code} (l : Nat) (hf : findLabel c l = some r)
    (first : ∀ K : Act → World → Prop, Hid (∀ a w, r.wp P (Exit.noGoto Q) a w → K a w) → c.wp P (Exit.jump l K Q) a w) : (Code.scope c).wp P Q a w := by
  refine wp_scope_jumps l (fun a w => r.wp P (Exit.noGoto Q) a w) (fun _ _ => 0) hf (first _ fun _ _ h => h) fun a w h b k cs => ?_
  obtain ⟨e, a', w', hq, r⟩ := h b k cs
  refine ⟨e, a', w', ?_, r⟩
  cases e with
  | goto l' => exact hq.elim
  | _ => exact hq
/-- A scope in which the run jumps on to one label, and from there to another. -/
theorem wp_scope_hop2 {P : Program} {a : Act} {w : World} {Q : Exit → Act → World → Prop} {c r2 r1 : Code} (l2 l1 : Nat) (hf2 : findLabel c l2 = some r2) (hf1 : findLabel c l1 = some r1)
    (first : ∀ K2 K1 : Act → World → Prop, Hid (∀ a w, r2.wp P (Exit.jump l1 K1 Q) a w → K2 a w) → Hid (∀ a w, r1.wp P (Exit.noGoto Q) a w → K1 a w) → c.wp P (Exit.jump l2 K2 Q) a w) : (Code.scope c).wp P Q a w := by
  intro b k cs
  have hg2 : gotoIn l2 (.inScope c :: k) = some (.code r2 :: .inScope c :: k) := by simp [gotoIn, hf2]
  have hg1 : gotoIn l1 (.inScope c :: k) = some (.code r1 :: .inScope c :: k) := by simp [gotoIn, hf1]
  have k1 : ∀ a w, r1.wp P (Exit.noGoto Q) a w → ∃ e a' w', Q e a' w' ∧ Arrives P (lone (b.at a (.code r1 :: .inScope c :: k)) cs w) b k cs e a' w' := by
    intro a w h
    obtain ⟨e, a₁, w₁, hq, harr⟩ := h b (.inScope c :: k) cs
    cases e with
    | normal => exact ⟨.normal, a₁, w₁, hq, Steps.trans harr (.one step_inScope)⟩
    | exit id => exact ⟨.exit id, a₁, w₁, hq, fun k' hk => harr k' (by simp [exitTo, hk])⟩
    | goto l' => exact hq.elim
    | ret => exact ⟨_, a₁, w₁, hq, harr⟩
    | panic ch => exact ⟨_, a₁, w₁, hq, harr⟩
    | outgrown => exact ⟨_, a₁, w₁, hq, harr⟩
  have k2 : ∀ a w, r2.wp P (Exit.jump l1 (fun a w => r1.wp P (Exit.noGoto Q) a w) Q) a w → ∃ e a' w', Q e a' w' ∧ Arrives P (lone (b.at a (.code r2 :: .inScope c :: k)) cs w) b k cs e a' w' := by
    intro a w h
    obtain ⟨e, a₁, w₁, hq, harr⟩ := h b (.inScope c :: k) cs
    cases e with
    | normal => exact ⟨.normal, a₁, w₁, hq, Steps.trans harr (.one step_inScope)⟩
    | exit id => exact ⟨.exit id, a₁, w₁, hq, fun k' hk => harr k' (by simp [exitTo, hk])⟩
    | goto l' =>
      obtain ⟨rfl, hJ⟩ := hq
      obtain ⟨e₂, a₂, w₂, hq₂, harr₂⟩ := k1 a₁ w₁ hJ
      exact ⟨e₂, a₂, w₂, hq₂, .of_steps (harr _ hg1) harr₂⟩
    | ret => exact ⟨_, a₁, w₁, hq, harr⟩
    | panic ch => exact ⟨_, a₁, w₁, hq, harr⟩
    | outgrown => exact ⟨_, a₁, w₁, hq, harr⟩
  obtain ⟨e, a₁, w₁, hq, harr⟩ := first (fun a w => r2.wp P (Exit.jump l1 (fun a w => r1.wp P (Exit.noGoto Q) a w) Q) a w) (fun a w => r1.wp P (Exit.noGoto Q) a w) (fun _ _ h => h) (fun _ _ h => h) b (.inScope c :: k) cs
  cases e with
  | normal => exact ⟨.normal, a₁, w₁, hq, .head step_scope (Steps.trans harr (.one step_inScope))⟩
  | exit id => exact ⟨.exit id, a₁, w₁, hq, fun k' hk => .head step_scope (harr k' (by simp [exitTo, hk]))⟩
  | goto l' =>
    obtain ⟨rfl, hJ⟩ := hq
    obtain ⟨e₂, a₂, w₂, hq₂, harr₂⟩ := k2 a₁ w₁ hJ
    exact ⟨e₂, a₂, w₂, hq₂, .of_steps (.head step_scope (harr _ hg2)) harr₂⟩
  | ret => exact ⟨_, a₁, w₁, hq, .of_steps (.one step_scope) harr⟩
  | panic ch => exact ⟨_, a₁, w₁, hq, .of_steps (.one step_scope) harr⟩
  | outgrown => exact ⟨_, a₁, w₁, hq, .of_steps (.one step_scope) harr⟩

section
variable {p : Nat} {E : En} {d : Fd}

set_option maxHeartbeats 400000 in
theorem done_is (q : Bool) (w : World) (h : FS w p E d) (hq : (d.st == 8) = q) :
    Calls Try.prog 31 #[.pointer (some ⟨p, 0, none⟩)] w fun e w' => e = .returned (.bool q) ∧ w' = w := by
  have c1 : w.cell? ⟨p, 12, none⟩ = some (.int .i64 d.st) := h.b.at 12 rfl
  clear h
  go_enter Try.func31, Try.ntmps31
  go_wp2
  go_ret
  subst hq
  exact ⟨rfl, rfl⟩

set_option maxHeartbeats 400000 in
theorem at_is (w : World) (h : FS w p E d) :
    Calls Try.prog 34 #[.pointer (some ⟨p, 0, none⟩)] w fun e w' => e = .returned (.int .i64 d.at') ∧ w' = w := by
  have c1 : w.cell? ⟨p, 18, none⟩ = some (.int .i64 d.at') := h.b.at 18 rfl
  clear h
  go_enter Try.func34, Try.ntmps34
  go_wp2
  go_ret
  exact ⟨rfl, rfl⟩

set_option maxHeartbeats 400000 in
theorem errno_is (w : World) (h : FS w p E d) :
    Calls Try.prog 33 #[.pointer (some ⟨p, 0, none⟩)] w fun e w' => e = .returned (.int .i64 d.er) ∧ w' = w := by
  have c1 : w.cell? ⟨p, 19, none⟩ = some (.int .i64 d.er) := h.b.at 19 rfl
  clear h
  go_enter Try.func33, Try.ntmps33
  go_wp2
  go_ret
  exact ⟨rfl, rfl⟩

set_option maxHeartbeats 400000 in
theorem steps_is (w : World) (h : FS w p E d) :
    Calls Try.prog 35 #[.pointer (some ⟨p, 0, none⟩)] w fun e w' => e = .returned (.int .i64 d.sp) ∧ w' = w := by
  have c1 : w.cell? ⟨p, 20, none⟩ = some (.int .i64 (d.sp : Int)) := h.b.at 20 rfl
  clear h
  go_enter Try.func35, Try.ntmps35
  go_wp2
  go_ret
  exact ⟨rfl, rfl⟩

set_option maxHeartbeats 400000 in
theorem ref_is (w : World) (h : FS w p E d) (h0 : 0 ≤ d.at') :
    Calls Try.prog 36 #[.pointer (some ⟨p, 0, none⟩)] w fun e w' => e = .returned (.bool d.rf) ∧ w' = w := by
  have c1 : w.cell? ⟨p, 18, none⟩ = some (.int .i64 d.at') := h.b.at 18 rfl
  have c2 : w.cell? ⟨p, 17, none⟩ = some (.bool d.rf) := h.b.at 17 rfl
  clear h
  go_enter Try.func36, Try.ntmps36
  go_wp2
  go_ret
  exact ⟨rfl, rfl⟩

set_option maxHeartbeats 800000 in
theorem read_is {b M n q : Nat} {F : Nat → Cx} (a : Nat) (w : World) (h : FS w p E d) (h0 : (d.st == 0) = false) (hx : d.nx = a) (m : Mm w b M n F q) (ha : a < n) (hq : q ≤ 1000000) :
    Calls Try.prog 73 #[.pointer (some ⟨p, 0, none⟩), .pointer (some ⟨M, 0, none⟩)] w fun e w' => e = .returned (.tuple #[.complex .f64 (F a).re (F a).im, .bool true]) ∧ Mm w' b M n F (q + 1) ∧ Mut [M] w w' := by
  have C0 : Hid (Calls Try.prog 98 #[.pointer (some ⟨M, 0, none⟩), .int .i64 a] w _) := mem_read a w m ha hq
  have c1 : w.cell? ⟨p, 12, none⟩ = some (.int .i64 d.st) := h.b.at 12 rfl
  have c2 : w.cell? ⟨p, 13, none⟩ = some (.int .i64 a) := by rw [← hx]; exact h.b.at 13 rfl
  clear h m hx
  go_enter Try.func73, Try.ntmps73
  go_wp2_with fail
  refine C0.out.mono ?_
  rintro e w' ⟨rfl, HM, HU⟩
  go_wp2
  go_ret2
  exact ⟨rfl, HM, HU⟩

set_option maxHeartbeats 800000 in
theorem fail_is (r : Int) (w : World) (h : FS w p E d) :
    Calls Try.prog 74 #[.pointer (some ⟨p, 0, none⟩), .int .i64 r] w fun e w' => e = .returned (.tuple #[]) ∧ FS w' p E { d with st := 8, er := r } ∧ Mut [p] w w' := by
  have c1 : w.cell? ⟨p, 12, none⟩ = some (.int .i64 d.st) := h.b.at 12 rfl
  have c2 : w.cell? ⟨p, 19, none⟩ = some (.int .i64 d.er) := h.b.at 19 rfl
  have f0 := h.b.fz
  have HN : Hid (FS ((w.setCell ⟨p, 12, none⟩ (.int .i64 8)).setCell ⟨p, 19, none⟩ (.int .i64 r)) p E { d with st := 8, er := r } ∧ Mut [p] w ((w.setCell ⟨p, 12, none⟩ (.int .i64 8)).setCell ⟨p, 19, none⟩ (.int .i64 r))) :=
    ⟨(h.put (i := 12) rfl _ (d' := { d with st := 8 }) rfl).put (i := 19) rfl _ rfl, ((Mut.refl _ _).setCell (by simp) _).setCell (by simp) _⟩
  clear h
  go_enter Try.func74, Try.ntmps74
  go_wp2
  go_end0
  exact ⟨rfl, HN.out.1, HN.out.2⟩

set_option maxHeartbeats 800000 in
theorem stand_is (s fr k : Int) (w : World) (h : FS w p E d) (h1 : 0 ≤ fr ∧ fr < E.n0) (h2 : 0 ≤ k ∧ k < 8) :
    Calls Try.prog 100 #[.pointer (some ⟨p, 0, none⟩), .int .i64 s, .int .i64 fr, .int .i64 k] w fun e w' => e = .returned (.tuple #[]) ∧ FS w' p E { d with st := s, nx := fr * 8 + k } ∧ Mut [p] w w' := by
  have hW : FS (w.setCell ⟨p, 12, none⟩ (.int .i64 s)) p E { d with st := s } := h.put (i := 12) rfl _ rfl
  have C0 : Hid (Calls Try.prog 84 #[.agg #[.int .i64 E.n0, .int .i64 E.n1, .int .i64 E.n2, .int .i64 E.n3, .int .i64 E.n4, .int .i64 E.n5, .int .i64 E.n6, .int .i64 E.n7, .slice (some ⟨E.g, 0, none⟩) E.sl E.sl], .int .i64 fr, .int .i64 k] (w.setCell ⟨p, 12, none⟩ (.int .i64 s)) _) :=
    frag_any E.n0 E.n1 E.n2 E.n3 E.n4 E.n5 E.n6 E.n7 _ E.sl E.sl E.T fr k _ _ _ hW.shps (At.is _ ⟨hW.goodT, h1, h2⟩)
  have c12 : w.cell? ⟨p, 12, none⟩ = some (.int .i64 d.st) := h.b.at 12 rfl
  have c0 : w.cell? ⟨p, 0, none⟩ = some (.int .i64 E.n0) := h.b.at 0 rfl
  have c1 : w.cell? ⟨p, 1, none⟩ = some (.int .i64 E.n1) := h.b.at 1 rfl
  have c2 : w.cell? ⟨p, 2, none⟩ = some (.int .i64 E.n2) := h.b.at 2 rfl
  have c3 : w.cell? ⟨p, 3, none⟩ = some (.int .i64 E.n3) := h.b.at 3 rfl
  have c4 : w.cell? ⟨p, 4, none⟩ = some (.int .i64 E.n4) := h.b.at 4 rfl
  have c5 : w.cell? ⟨p, 5, none⟩ = some (.int .i64 E.n5) := h.b.at 5 rfl
  have c6 : w.cell? ⟨p, 6, none⟩ = some (.int .i64 E.n6) := h.b.at 6 rfl
  have c7 : w.cell? ⟨p, 7, none⟩ = some (.int .i64 E.n7) := h.b.at 7 rfl
  have c8 : w.cell? ⟨p, 8, none⟩ = some (.slice (some ⟨E.g, 0, none⟩) E.sl E.sl) := h.b.at 8 rfl
  have f0 := h.b.fz
  have HN : Hid (FS (w.setCell ⟨p, 12, none⟩ (.int .i64 s)) p E { d with st := s } ∧ Mut [p] w (w.setCell ⟨p, 12, none⟩ (.int .i64 s))) := ⟨hW, (Mut.refl _ _).setCell (by simp) _⟩
  clear h hW h1 h2
  go_enter Try.func100, Try.ntmps100
  go_wp2_with fail
  refine C0.out.mono ?_
  rintro e w' ⟨rfl, K⟩
  have hF := HN.out.1.kept K
  have c13 : w'.cell? ⟨p, 13, none⟩ = some (.int .i64 d.nx) := hF.b.at 13 rfl
  have f1 := hF.b.fz
  have HN2 : Hid (FS w' p E { d with st := s } ∧ Mut [p] w w') := ⟨hF, HN.out.2.trans K.mut⟩
  clear C0 hF K c12 c0 c1 c2 c3 c4 c5 c6 c7 c8 f0
  go_wp2
  go_end0
  exact ⟨rfl, HN2.out.1.put (i := 13) rfl _ rfl, HN2.out.2.setCell (by simp) _⟩

set_option maxHeartbeats 800000 in
theorem found_is (fr k : Int) (w : World) (h : FS w p E d) (h1 : 0 ≤ fr ∧ fr < E.n0) (h2 : 0 ≤ k ∧ k < 8) :
    Calls Try.prog 106 #[.pointer (some ⟨p, 0, none⟩), .int .i64 fr, .int .i64 k] w fun e w' => e = .returned (.tuple #[]) ∧ FS w' p E { d with st := 8, at' := fr * 8 + k } ∧ Mut [p] w w' := by
  have C0 : Hid (Calls Try.prog 84 #[.agg #[.int .i64 E.n0, .int .i64 E.n1, .int .i64 E.n2, .int .i64 E.n3, .int .i64 E.n4, .int .i64 E.n5, .int .i64 E.n6, .int .i64 E.n7, .slice (some ⟨E.g, 0, none⟩) E.sl E.sl], .int .i64 fr, .int .i64 k] w _) :=
    frag_any E.n0 E.n1 E.n2 E.n3 E.n4 E.n5 E.n6 E.n7 _ E.sl E.sl E.T fr k _ _ _ h.shps (At.is _ ⟨h.goodT, h1, h2⟩)
  have c0 : w.cell? ⟨p, 0, none⟩ = some (.int .i64 E.n0) := h.b.at 0 rfl
  have c1 : w.cell? ⟨p, 1, none⟩ = some (.int .i64 E.n1) := h.b.at 1 rfl
  have c2 : w.cell? ⟨p, 2, none⟩ = some (.int .i64 E.n2) := h.b.at 2 rfl
  have c3 : w.cell? ⟨p, 3, none⟩ = some (.int .i64 E.n3) := h.b.at 3 rfl
  have c4 : w.cell? ⟨p, 4, none⟩ = some (.int .i64 E.n4) := h.b.at 4 rfl
  have c5 : w.cell? ⟨p, 5, none⟩ = some (.int .i64 E.n5) := h.b.at 5 rfl
  have c6 : w.cell? ⟨p, 6, none⟩ = some (.int .i64 E.n6) := h.b.at 6 rfl
  have c7 : w.cell? ⟨p, 7, none⟩ = some (.int .i64 E.n7) := h.b.at 7 rfl
  have c8 : w.cell? ⟨p, 8, none⟩ = some (.slice (some ⟨E.g, 0, none⟩) E.sl E.sl) := h.b.at 8 rfl
  have HN : Hid (FS w p E d) := h
  clear h h1 h2
  go_enter Try.func106, Try.ntmps106
  go_wp2_with fail
  refine C0.out.mono ?_
  rintro e w' ⟨rfl, K⟩
  have hF := HN.out.kept K
  have c12 : w'.cell? ⟨p, 12, none⟩ = some (.int .i64 d.st) := hF.b.at 12 rfl
  have c18 : w'.cell? ⟨p, 18, none⟩ = some (.int .i64 d.at') := hF.b.at 18 rfl
  have f1 := hF.b.fz
  have HN2 : Hid (FS w' p E d ∧ Mut [p] w w') := ⟨hF, K.mut⟩
  clear C0 hF K c0 c1 c2 c3 c4 c5 c6 c7 c8 HN
  go_wp2
  go_end0
  exact ⟨rfl, (HN2.out.1.put (i := 12) rfl _ (d' := { d with st := 8 }) rfl).put (i := 18) rfl _ rfl, (HN2.out.2.setCell (by simp) _).setCell (by simp) _⟩

end
end Go.Proofs.Ytpdclckgnajcdaa
