/-
  A memory and a shade of the law's own, side by side.
-/
import Derived.Test.YtpdclckgnajcdaaGreatTrJ
import Derived.Test.YtpdclckgnajcdaaGreatFill16
import Derived.Test.YtpdclckgnajcdaaGreatFew12
import Derived.Test.YtpdclckgnajcdaaGreatWrt16
namespace Go.Proofs.YtpdclckgnajcdaaGreat
open Go.RowKit

structure Mo (w u : World) (b M n sb tb : Nat) (F : Nat → Cx) (q : Nat) (S : ShS) : Prop where
  kept : Kept w u
  mm : Mm u b M n F q
  lm : w.heap.size ≤ M
  lb : w.heap.size ≤ b
  sh : ∃ g pb v, ShC u w.heap.size sb tb g pb v S ∧ ∀ k, k ∈ ShF sb tb g pb v → k ≠ b ∧ k ≠ M

section
variable {w u u' : World} {b M n sb tb q q' : Nat} {F G : Nat → Cx} {S S' : ShS}
theorem Mo.still (h : Mo w u b M n sb tb F q S) (k : Kept u u') : Mo w u' b M n sb tb F q S :=
  ⟨h.kept.trans k, h.mm.kept k, h.lm, h.lb, h.sh.elim fun g ⟨pb, v, t, d⟩ => ⟨g, pb, v, t.kept k, d⟩⟩
theorem Mo.wr (h : Mo w u b M n sb tb F q S) (hm : Mm u' b M n G q') (m : Mut [M, b] u u') : Mo w u' b M n sb tb G q' S :=
  ⟨h.kept.muts m (by simp; exact ⟨h.lm, h.lb⟩), hm, h.lm, h.lb, h.sh.elim fun g ⟨pb, v, t, d⟩ => ⟨g, pb, v, t.muts m fun k hk r => by
    have := d k hk
    simp at r
    omega, d⟩⟩
theorem Mo.ms (h : Mo w u b M n sb tb F q S) : Ms w u sb tb S := ⟨h.kept, h.sh.elim fun g ⟨pb, v, t, _⟩ => ⟨g, pb, v, t⟩⟩
theorem mo_new (sn most : Nat) {b M : Nat} (hk : Kept w u) (hm : Mm u b M n F q) (lm : w.heap.size ≤ M) (lb : w.heap.size ≤ b) (hn : sn ≤ 1024) (h1 : 1 ≤ (most : Int)) (h2 : (most : Int) ≤ 256) :
    Calls Tryz.prog 13 #[.int .i64 sn, .int .i64 most] u fun e w' => ∃ sb tb, e = .returned (.tuple #[.pointer (some ⟨sb, 0, none⟩), .int .i64 0]) ∧ Mo w w' b M n sb tb F q (ShS.new sn most) :=
  (snew_any sn most u hn h1 h2 hk.size).mono fun _ _ ⟨sb, tb, g, pb, v, he, t, k2, hl⟩ => ⟨sb, tb, he, hk.trans k2, hm.kept k2, lm, lb, g, pb, v, t, fun k hk => by
    have h1 := hl k hk
    have h2 := hm.row.lt
    have h3 := hm.hd.lt
    omega⟩
theorem mo_table (h : Mo w u b M n sb tb F q S) : Calls Tryz.prog 14 #[.pointer (some ⟨sb, 0, none⟩)] u fun e w' => e = .returned (.pointer (some ⟨tb, 0, none⟩)) ∧ w' = u := ms_table h.ms
theorem mo_set (i st : Int) (p s : Bool) (h : Mo w u b M n sb tb F q S) : Calls Tryz.prog 16 #[.pointer (some ⟨tb, 0, none⟩), .int .i64 i, .int .i64 st, .bool p, .bool s] u fun e w' => e = .returned (.bool (inn S.n i && isSt st)) ∧ Mo w w' b M n sb tb F q (S.set i st p s) := by
  obtain ⟨g, pb, v, t, d⟩ := h.sh
  refine (set_any i st p s u t.tab).mono fun _ w' ⟨he, t2, m⟩ => ⟨he, h.kept.muts m (fun k hk => by simp at hk; subst hk; exact t.log), h.mm.muts m (fun r => ?_) (fun r => ?_), h.lm, h.lb, g, pb, v, t.tabs t2 m, d⟩
  · simp at r
    exact (d g (by simp [ShF])).1 r.symm
  · simp at r
    exact (d g (by simp [ShF])).2 r.symm
theorem mo_head (i : Int) (h : Mo w u b M n sb tb F q S) : Calls Tryz.prog 19 #[.pointer (some ⟨tb, 0, none⟩), .int .i64 i] u fun e w' => e = .returned (.bool (hdd S.n S.T i)) ∧ w' = u := by
  obtain ⟨g, pb, v, t, d⟩ := h.sh
  exact head_any i u t.tab
theorem mo_write (a : Nat) (z : Cx) (h : Mo w u b M n sb tb F q S) (ha : a < n) (hq : q ≤ 1000000) (he : ∀ j, j < n → (if j = a then z else F j) = G j) :
    Calls Tryz.prog 15 #[.pointer (some ⟨M, 0, none⟩), .int .i64 a, .complex .f64 z.re z.im] u fun e w' => e = .returned (.int .i64 0) ∧ Mo w w' b M n sb tb G (q + 1) S ∧ Mut [M, b] u w' :=
  (mem_write a z u h.mm ha hq he).mono fun _ _ ⟨h1, h2, h3⟩ => ⟨h1, h.wr h2 h3, h3⟩
/-- A run begins. -/
theorem mo_run {E : En} {x : Th} {sen : Bool} {J : Nat → Nat → ShS → Prop} {p c0 : Nat} (h : Mo w u b M n sb tb F q S) (ht : TS u' p E x.R (td0 (x.L 0) sen)) (hp : u.heap.size ≤ p) (hK : Kept u u') (hc : S.c ≤ c0) (hJ : J 0 0 S) : Run ⟨w, fun _ => none⟩ p b M n sb tb F E x sen J q c0 0 u' := by
  obtain ⟨g, pb, v, t, d⟩ := h.sh
  exact run_begin (w0 := ⟨w, fun _ => none⟩) h.kept h.mm h.lm t (fun k hk => ⟨(d k hk).1, (d k hk).2, rfl⟩) (fun k o hk => by cases hk) ht hp hK hc hJ
end
end Go.Proofs.YtpdclckgnajcdaaGreat
