/-
  Both shades, package shade's and the document's, side by side, with all that each reaches.
-/
import Derived.Test.YtfglmnjhnjkiiaaFirst15
import Derived.Test.YtfglmnjhnjkiiaaRShade
import Derived.Test.YtfglmnjhnjkiiaaPhase
namespace Go.Proofs.Ytfglmnjhnjkiiaa
open Go.RowKit

/-- A shade and all that it reaches (F). -/
def Sh (u : World) (base b tb : Nat) (F : List Nat) (S : ShS) : Prop := ∃ g pb v, F = ShF b tb g pb v ∧ ShC u base b tb g pb v S
/-- The document's, likewise. -/
def RSh (u : World) (base b tb : Nat) (F : List Nat) (S : ShS) : Prop := ∃ gs gh gc v, F = RSF b tb gs gh gc v ∧ RSC u base b tb gs gh gc v S
/-- What it reaches now it reached before, or is new. -/
def Grow (u : World) (F F' : List Nat) : Prop := ∀ k, k ∈ F' → k ∈ F ∨ u.heap.size ≤ k
theorem Grow.same (u : World) (F : List Nat) : Grow u F F := fun _ h => .inl h

section
variable {u u' : World} {base b tb ob : Nat} {F : List Nat} {S : ShS} {C : List Value}
theorem Sh.kept (h : Sh u base b tb F S) (k : Kept u u') : Sh u' base b tb F S := by
  obtain ⟨g, pb, v, e, t⟩ := h
  exact ⟨g, pb, v, e, t.kept k⟩
theorem RSh.kept (h : RSh u base b tb F S) (k : Kept u u') : RSh u' base b tb F S := by
  obtain ⟨gs, gh, gc, v, e, t⟩ := h
  exact ⟨gs, gh, gc, v, e, t.kept k⟩
theorem Sh.muts {D : List Nat} (h : Sh u base b tb F S) (m : Mut D u u') (hd : ∀ k, k ∈ F → k ∉ D) : Sh u' base b tb F S := by
  obtain ⟨g, pb, v, rfl, t⟩ := h
  exact ⟨g, pb, v, rfl, t.muts m hd⟩
theorem RSh.muts {D : List Nat} (h : RSh u base b tb F S) (m : Mut D u u') (hd : ∀ k, k ∈ F → k ∉ D) : RSh u' base b tb F S := by
  obtain ⟨gs, gh, gc, v, rfl, t⟩ := h
  exact ⟨gs, gh, gc, v, rfl, t.muts m hd⟩
theorem Sh.own (h : Sh u base b tb F S) : ∀ k, k ∈ F → base ≤ k ∧ k < u.heap.size := by
  obtain ⟨g, pb, v, rfl, t⟩ := h
  exact t.own
theorem RSh.own (h : RSh u base b tb F S) : ∀ k, k ∈ F → base ≤ k ∧ k < u.heap.size := by
  obtain ⟨gs, gh, gc, v, rfl, t⟩ := h
  exact t.own
/-- The law's own operation is none of it. -/
theorem Sh.out (h : Sh u base b tb F S) (o : Own u ob 34 C) : ob ∉ F := by
  obtain ⟨g, pb, v, rfl, t⟩ := h
  simp [ShF]
  exact ⟨o.neq t.head (by decide), o.neq t.tab.head (by decide), o.ne t.tab.row (by decide), o.neq t.pile.head (by decide), o.nelst t.pile.lst (by decide)⟩
theorem RSh.out (h : RSh u base b tb F S) (o : Own u ob 34 C) : ob ∉ F := by
  obtain ⟨gs, gh, gc, v, rfl, t⟩ := h
  simp [RSF]
  exact ⟨o.neq t.pile.head (by decide), o.neq t.tab.head (by decide), o.ne t.tab.rs (by decide), o.ne t.tab.rh (by decide), o.ne t.tab.rc (by decide), o.nelst t.pile.lst (by decide)⟩
theorem RSh.c0 (h : RSh u base b tb F S) : u.cell? ⟨b, 0, none⟩ = some (.pointer (some ⟨tb, 0, none⟩)) := by
  obtain ⟨gs, gh, gc, v, _, t⟩ := h
  exact t.c0
theorem RSh.c4 (h : RSh u base b tb F S) : u.cell? ⟨b, 4, none⟩ = some (.int .i64 (S.c : Int)) := by
  obtain ⟨gs, gh, gc, v, _, t⟩ := h
  exact t.c4
theorem RSh.c2 (h : RSh u base b tb F S) : ∃ y d, u.cell? ⟨b, 2, none⟩ = some (.slice y S.P.length d) := by
  obtain ⟨gs, gh, gc, v, _, t⟩ := h
  obtain ⟨y, d, e⟩ := t.pile.lst.form
  exact ⟨y, d, by rw [← e]; exact t.c2⟩
theorem RSh.ltb (h : RSh u base b tb F S) : b < u.heap.size := by
  obtain ⟨gs, gh, gc, v, _, t⟩ := h
  exact t.pile.ltb
theorem Sh.few (h : Sh u base b tb F S) : S.P.length ≤ 256 := by
  obtain ⟨g, pb, v, _, t⟩ := h
  exact Nat.le_trans t.pile.few t.pile.max
end

section
variable {u : World} {base b tb g pb : Nat} {v v' : Value} {S : ShS}
theorem grow_p (f : Fresh u v v') : Grow u (ShF b tb g pb v) (ShF b tb g pb v') := fun k hk => by
  simp only [ShF, List.mem_cons] at hk ⊢
  rcases hk with h | h | h | h | h
  · simp [h]
  · simp [h]
  · simp [h]
  · simp [h]
  · rcases f k (by simpa using h) with q | q
    · simp [q]
    · exact .inr q
theorem grow_r {gs gh gc : Nat} (f : Fresh u v v') : Grow u (RSF b tb gs gh gc v) (RSF b tb gs gh gc v') := fun k hk => by
  simp only [RSF, List.mem_cons] at hk ⊢
  rcases hk with h | h | h | h | h | h
  · simp [h]
  · simp [h]
  · simp [h]
  · simp [h]
  · simp [h]
  · rcases f k (by simpa using h) with q | q
    · simp [q]
    · exact .inr q
end

section
variable {base b tb : Nat} {F : List Nat} {S : ShS}
theorem sh_set (i st : Int) (p s : Bool) (u : World) (h : Sh u base b tb F S) : Calls Try.prog 11 #[.pointer (some ⟨tb, 0, none⟩), .int .i64 i, .int .i64 st, .bool p, .bool s] u fun e w' => e = .returned (.bool (inn S.n i && isSt st)) ∧ ∃ F', Sh w' base b tb F' (S.set i st p s) ∧ Mut F u w' ∧ Grow u F F' := by
  obtain ⟨g, pb, v, rfl, t⟩ := h
  exact (set_any i st p s u t.tab).mono fun _ _ ⟨he, t2, m⟩ => ⟨he, _, ⟨g, pb, v, rfl, t.tabs t2 m⟩, muf_g m, Grow.same _ _⟩
theorem sh_born (i : Int) (u : World) (h : Sh u base b tb F S) : Calls Try.prog 23 #[.pointer (some ⟨tb, 0, none⟩), .int .i64 i] u fun e w' => e = .returned (.bool (bornB S.n S.T i)) ∧ ∃ F', Sh w' base b tb F' (S.born i) ∧ Mut F u w' ∧ Grow u F F' := by
  obtain ⟨g, pb, v, rfl, t⟩ := h
  exact (born_any i u t.tab).mono fun _ _ ⟨he, t2, m⟩ => ⟨he, _, ⟨g, pb, v, rfl, t.tabs t2 m⟩, muf_g m, Grow.same _ _⟩
theorem sh_grey (i : Int) (s : Bool) (u : World) (h : Sh u base b tb F S) (hc : S.c < lots) : Calls Try.prog 13 #[.pointer (some ⟨b, 0, none⟩), .int .i64 i, .bool s] u fun e w' => e = .returned (.bool (greyB S i s)) ∧ ∃ F', Sh w' base b tb F' (greyS S i s) ∧ Mut F u w' ∧ Grow u F F' := by
  obtain ⟨g, pb, v, rfl, t⟩ := h
  exact (sgrey_any i s u t hc).mono fun _ _ ⟨he, v2, t2, m, f⟩ => ⟨he, _, ⟨g, pb, v2, rfl, t2⟩, m, grow_p f⟩
theorem sh_black (i : Int) (s : Bool) (u : World) (h : Sh u base b tb F S) (hc : S.c < lots) : Calls Try.prog 15 #[.pointer (some ⟨b, 0, none⟩), .int .i64 i, .bool s] u fun e w' => e = .returned (.bool (blackB S i s)) ∧ ∃ F', Sh w' base b tb F' S.tick ∧ Mut F u w' ∧ Grow u F F' := by
  obtain ⟨g, pb, v, rfl, t⟩ := h
  exact (sblack_any i s u t hc).mono fun _ _ ⟨he, t2, m⟩ => ⟨he, _, ⟨g, pb, v, rfl, t2⟩, m, Grow.same _ _⟩
theorem sh_part (i : Int) (s : Bool) (u : World) (h : Sh u base b tb F S) (hc : S.c < lots) : Calls Try.prog 17 #[.pointer (some ⟨b, 0, none⟩), .int .i64 i, .bool s] u fun e w' => e = .returned (.bool (markB S.n S.T i s)) ∧ ∃ F', Sh w' base b tb F' (S.tick.mark i s) ∧ Mut F u w' ∧ Grow u F F' := by
  obtain ⟨g, pb, v, rfl, t⟩ := h
  exact (spart_any i s u t hc).mono fun _ _ ⟨he, t2, m⟩ => ⟨he, _, ⟨g, pb, v, rfl, t2⟩, m, Grow.same _ _⟩
theorem sh_next (u : World) (h : Sh u base b tb F S) (hc : S.c < lots) : Calls Try.prog 19 #[.pointer (some ⟨b, 0, none⟩)] u fun e w' => e = .returned (.tuple #[.int .i64 (topI S.P), .bool (isI S.P)]) ∧ ∃ F', Sh w' base b tb F' S.tick.pop ∧ Mut F u w' ∧ Grow u F F' := by
  obtain ⟨g, pb, v, rfl, t⟩ := h
  exact (snext_any u t hc).mono fun _ _ ⟨he, v2, t2, m, f⟩ => ⟨he, _, ⟨g, pb, v2, rfl, t2⟩, m, grow_p f⟩
theorem sh_lost (u : World) (h : Sh u base b tb F S) (hc : S.c < lots) : Calls Try.prog 21 #[.pointer (some ⟨b, 0, none⟩)] u fun e w' => e = .returned (.bool S.z) ∧ ∃ F', Sh w' base b tb F' S.tick.found ∧ Mut F u w' ∧ Grow u F F' := by
  obtain ⟨g, pb, v, rfl, t⟩ := h
  exact (slost_any u t hc).mono fun _ _ ⟨he, t2, m⟩ => ⟨he, _, ⟨g, pb, v, rfl, t2⟩, m, Grow.same _ _⟩
theorem sh_table (u : World) (h : Sh u base b tb F S) : Calls Try.prog 10 #[.pointer (some ⟨b, 0, none⟩)] u fun e w' => e = .returned (.pointer (some ⟨tb, 0, none⟩)) ∧ w' = u := by
  obtain ⟨g, pb, v, _, t⟩ := h
  exact stable_any u t
theorem sh_count (u : World) (h : Sh u base b tb F S) : Calls Try.prog 26 #[.pointer (some ⟨b, 0, none⟩)] u fun e w' => e = .returned (.int .i64 (S.c : Int)) ∧ w' = u := by
  obtain ⟨g, pb, v, _, t⟩ := h
  exact scount_any u t
theorem sh_len (u : World) (h : Sh u base b tb F S) : Calls Try.prog 25 #[.pointer (some ⟨b, 0, none⟩)] u fun e w' => e = .returned (.int .i64 (S.P.length : Int)) ∧ w' = u := by
  obtain ⟨g, pb, v, _, t⟩ := h
  exact slen_any u t
theorem sh_tblack (i : Int) (s : Bool) (u : World) (h : Sh u base b tb F S) : Calls Try.prog 27 #[.pointer (some ⟨tb, 0, none⟩), .int .i64 i, .bool s] u fun e w' => e = .returned (.bool (blk S.n S.T i s)) ∧ w' = u := by
  obtain ⟨g, pb, v, _, t⟩ := h
  exact black_any i s u t.tab
theorem rsh_set (i st : Int) (p s : Bool) (u : World) (h : RSh u base b tb F S) : Calls Try.prog 12 #[.pointer (some ⟨tb, 0, none⟩), .int .i64 i, .int .i64 st, .bool p, .bool s] u fun e w' => e = .returned (.bool (inn S.n i && isSt st)) ∧ ∃ F', RSh w' base b tb F' (S.set i st p s) ∧ Mut F u w' ∧ Grow u F F' := by
  obtain ⟨gs, gh, gc, v, rfl, t⟩ := h
  exact (rset_any i st p s u t.tab).mono fun _ _ ⟨he, t2, m⟩ => ⟨he, _, ⟨gs, gh, gc, v, rfl, t.tabs t2 m⟩, mur_t m, Grow.same _ _⟩
theorem rsh_born (i : Int) (u : World) (h : RSh u base b tb F S) : Calls Try.prog 24 #[.pointer (some ⟨tb, 0, none⟩), .int .i64 i] u fun e w' => e = .returned (.bool (bornB S.n S.T i)) ∧ ∃ F', RSh w' base b tb F' (S.born i) ∧ Mut F u w' ∧ Grow u F F' := by
  obtain ⟨gs, gh, gc, v, rfl, t⟩ := h
  exact (rborn_any i u t.tab).mono fun _ _ ⟨he, t2, m⟩ => ⟨he, _, ⟨gs, gh, gc, v, rfl, t.tabs t2 m⟩, mur_t m, Grow.same _ _⟩
theorem rsh_grey (i : Int) (s : Bool) (u : World) (h : RSh u base b tb F S) (hc : S.c < lots) : Calls Try.prog 14 #[.pointer (some ⟨b, 0, none⟩), .int .i64 i, .bool s] u fun e w' => e = .returned (.bool (greyB S i s)) ∧ ∃ F', RSh w' base b tb F' (greyS S i s) ∧ Mut F u w' ∧ Grow u F F' := by
  obtain ⟨gs, gh, gc, v, rfl, t⟩ := h
  exact (rsgrey_any i s u t hc).mono fun _ _ ⟨he, v2, t2, m, f⟩ => ⟨he, _, ⟨gs, gh, gc, v2, rfl, t2⟩, m, grow_r f⟩
theorem rsh_black (i : Int) (s : Bool) (u : World) (h : RSh u base b tb F S) (hc : S.c < lots) : Calls Try.prog 16 #[.pointer (some ⟨b, 0, none⟩), .int .i64 i, .bool s] u fun e w' => e = .returned (.bool (blackB S i s)) ∧ ∃ F', RSh w' base b tb F' S.tick ∧ Mut F u w' ∧ Grow u F F' := by
  obtain ⟨gs, gh, gc, v, rfl, t⟩ := h
  exact (rsblack_any i s u t hc).mono fun _ _ ⟨he, t2, m⟩ => ⟨he, _, ⟨gs, gh, gc, v, rfl, t2⟩, m, Grow.same _ _⟩
theorem rsh_part (i : Int) (s : Bool) (u : World) (h : RSh u base b tb F S) (hc : S.c < lots) : Calls Try.prog 18 #[.pointer (some ⟨b, 0, none⟩), .int .i64 i, .bool s] u fun e w' => e = .returned (.bool (markB S.n S.T i s)) ∧ ∃ F', RSh w' base b tb F' (S.tick.mark i s) ∧ Mut F u w' ∧ Grow u F F' := by
  obtain ⟨gs, gh, gc, v, rfl, t⟩ := h
  exact (rspart_any i s u t hc).mono fun _ _ ⟨he, t2, m⟩ => ⟨he, _, ⟨gs, gh, gc, v, rfl, t2⟩, m, Grow.same _ _⟩
theorem rsh_next (u : World) (h : RSh u base b tb F S) (hc : S.c < lots) : Calls Try.prog 20 #[.pointer (some ⟨b, 0, none⟩)] u fun e w' => e = .returned (.tuple #[.int .i64 (topI S.P), .bool (isI S.P)]) ∧ ∃ F', RSh w' base b tb F' S.tick.pop ∧ Mut F u w' ∧ Grow u F F' := by
  obtain ⟨gs, gh, gc, v, rfl, t⟩ := h
  exact (rsnext_any u t hc).mono fun _ _ ⟨he, v2, t2, m, f⟩ => ⟨he, _, ⟨gs, gh, gc, v2, rfl, t2⟩, m, grow_r f⟩
theorem rsh_lost (u : World) (h : RSh u base b tb F S) (hc : S.c < lots) : Calls Try.prog 22 #[.pointer (some ⟨b, 0, none⟩)] u fun e w' => e = .returned (.bool S.z) ∧ ∃ F', RSh w' base b tb F' S.tick.found ∧ Mut F u w' ∧ Grow u F F' := by
  obtain ⟨gs, gh, gc, v, rfl, t⟩ := h
  exact (rslost_any u t hc).mono fun _ _ ⟨he, t2, m⟩ => ⟨he, _, ⟨gs, gh, gc, v, rfl, t2⟩, m, Grow.same _ _⟩
theorem rsh_tblack (i : Int) (s : Bool) (u : World) (h : RSh u base b tb F S) : Calls Try.prog 28 #[.pointer (some ⟨tb, 0, none⟩), .int .i64 i, .bool s] u fun e w' => e = .returned (.bool (blk S.n S.T i s)) ∧ w' = u := by
  obtain ⟨gs, gh, gc, v, _, t⟩ := h
  exact rblack_any i s u t.tab
end

/-- Both, apart from each other. -/
structure Tw (w u : World) (b tb b' tb' : Nat) (F F' : List Nat) (S S' : ShS) : Prop where
  tab : Sh u w.heap.size b tb F S
  ref : RSh u w.heap.size b' tb' F' S'
  sep : ∀ k, k ∈ F → k ∉ F'
  kept : Kept w u
section
variable {w u u' : World} {b tb b' tb' ob : Nat} {F F' F2 : List Nat} {S S' X : ShS} {C : List Value}
theorem Tw.still (h : Tw w u b tb b' tb' F F' S S') (k : Kept u u') : Tw w u' b tb b' tb' F F' S S' := ⟨h.tab.kept k, h.ref.kept k, h.sep, h.kept.trans k⟩
theorem Tw.fst (h : Tw w u b tb b' tb' F F' S S') (t : Sh u' w.heap.size b tb F2 X) (m : Mut F u u') (f : Grow u F F2) : Tw w u' b tb b' tb' F2 F' X S' :=
  ⟨t, h.ref.muts m (fun k hk hd => h.sep k hd hk), fun k hk hd => by
    rcases f k hk with q | q
    · exact h.sep k q hd
    · have := (h.ref.own k hd).2; omega, h.kept.muts m (fun k hk => (h.tab.own k hk).1)⟩
theorem Tw.snd (h : Tw w u b tb b' tb' F F' S S') (t : RSh u' w.heap.size b' tb' F2 X) (m : Mut F' u u') (f : Grow u F' F2) : Tw w u' b tb b' tb' F F2 S X :=
  ⟨h.tab.muts m h.sep, t, fun k hk hd => by
    rcases f k hd with q | q
    · exact h.sep k hk q
    · have := (h.tab.own k hk).2; omega, h.kept.muts m (fun k hk => (h.ref.own k hk).1)⟩
end

/-- What is known in the midst of a comparison of two calls that write, operations i1 and i2. -/
structure CJ (w u : World) (b tb b' tb' : Nat) (S X : ShS) (ob : Nat) (C : List Value) (i1 i2 : Nat) (d : Nat → Bool) : Prop where
  own : Own u ob 34 C
  two : ∃ F F', Tw w u b tb b' tb' F F' (if d i1 then X else S) (if d i2 then X else S)
section
variable {w u u' : World} {b tb b' tb' ob i1 i2 : Nat} {F F' F2 : List Nat} {S X Y : ShS} {C : List Value} {d : Nat → Bool}
theorem CJ.plain (h : CJ w u b tb b' tb' S X ob C i1 i2 d) (i : Nat) (h3 : i ≠ i1) (h7 : i ≠ i2) : CJ w u b tb b' tb' S X ob C i1 i2 (done d i) := by
  have e3 : done d i i1 = d i1 := by simp [done, Ne.symm h3]
  have e7 : done d i i2 = d i2 := by simp [done, Ne.symm h7]
  exact ⟨h.own, by rw [e3, e7]; exact h.two⟩
theorem CJ.call1 (h : CJ w u b tb b' tb' S X ob C i1 i2 d) (hi : i2 ≠ i1) (t : Tw w u b tb b' tb' F F' S (if d i2 then X else S)) (s : Sh u' w.heap.size b tb F2 X) (m : Mut F u u') (f : Grow u F F2) : CJ w u' b tb b' tb' S X ob C i1 i2 (done d i1) := by
  have e3 : done d i1 i1 = true := by simp [done]
  have e7 : done d i1 i2 = d i2 := by simp [done, hi]
  exact ⟨h.own.muts m (t.tab.out h.own), F2, F', by rw [e3, e7]; exact t.fst s m f⟩
theorem CJ.call2 (h : CJ w u b tb b' tb' S X ob C i1 i2 d) (hi : i1 ≠ i2) (t : Tw w u b tb b' tb' F F' (if d i1 then X else S) S) (s : RSh u' w.heap.size b' tb' F2 X) (m : Mut F' u u') (f : Grow u F' F2) : CJ w u' b tb b' tb' S X ob C i1 i2 (done d i2) := by
  have e3 : done d i2 i1 = d i1 := by simp [done, hi]
  have e7 : done d i2 i2 = true := by simp [done]
  exact ⟨h.own.muts m (t.ref.out h.own), F, F2, by rw [e3, e7]; exact t.snd s m f⟩
theorem CJ.c0 (h : CJ w u b tb b' tb' S X ob C i1 i2 d) : u.cell? ⟨b', 0, none⟩ = some (.pointer (some ⟨tb', 0, none⟩)) := by
  obtain ⟨F, F', t⟩ := h.two
  exact t.ref.c0
end
theorem greyS_c (S : ShS) (i : Int) (s : Bool) : (greyS S i s).c = S.c + 1 := by
  unfold greyS layS
  split <;> rfl
end Go.Proofs.Ytfglmnjhnjkiiaa
