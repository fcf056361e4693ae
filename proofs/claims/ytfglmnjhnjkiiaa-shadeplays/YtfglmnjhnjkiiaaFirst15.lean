/-
  A shade of the law's own (Ms); the laws' own 'first' of layer 15.
-/
import Derived.Test.YtfglmnjhnjkiiaaShadeB
namespace Go.Proofs.Ytfglmnjhnjkiiaa
open Go.RowKit

/-- A shade that the law has made since w. -/
structure Ms (w u : World) (b tb : Nat) (S : ShS) : Prop where
  kept : Kept w u
  tab : ∃ g pb v, ShC u w.heap.size b tb g pb v S

section
variable {w u u' : World} {b tb : Nat} {S : ShS}
theorem Ms.still (h : Ms w u b tb S) (k : Kept u u') : Ms w u' b tb S := ⟨h.kept.trans k, h.tab.elim fun g ⟨pb, v, t⟩ => ⟨g, pb, v, t.kept k⟩⟩
theorem ms_new (n most : Nat) (u : World) (k : Kept w u) (hn : n ≤ 1024) (h1 : 1 ≤ (most : Int)) (hm : (most : Int) ≤ 256) :
    Calls Try.prog 8 #[.int .i64 n, .int .i64 most] u fun e w' => ∃ b tb, e = .returned (.tuple #[.pointer (some ⟨b, 0, none⟩), .int .i64 0]) ∧ Ms w w' b tb (ShS.new n most) :=
  (snew_any n most u hn h1 hm k.size).mono fun _ _ ⟨b, tb, g, pb, v, he, t, k2, _⟩ => ⟨b, tb, he, k.trans k2, g, pb, v, t⟩
theorem ms_table (h : Ms w u b tb S) : Calls Try.prog 10 #[.pointer (some ⟨b, 0, none⟩)] u fun e w' => e = .returned (.pointer (some ⟨tb, 0, none⟩)) ∧ w' = u := by
  obtain ⟨g, pb, v, t⟩ := h.tab
  exact stable_any u t
theorem ms_count (h : Ms w u b tb S) : Calls Try.prog 26 #[.pointer (some ⟨b, 0, none⟩)] u fun e w' => e = .returned (.int .i64 (S.c : Int)) ∧ w' = u := by
  obtain ⟨g, pb, v, t⟩ := h.tab
  exact scount_any u t
theorem ms_len (h : Ms w u b tb S) : Calls Try.prog 25 #[.pointer (some ⟨b, 0, none⟩)] u fun e w' => e = .returned (.int .i64 (S.P.length : Int)) ∧ w' = u := by
  obtain ⟨g, pb, v, t⟩ := h.tab
  exact slen_any u t
theorem ms_tblack (i : Int) (s : Bool) (h : Ms w u b tb S) : Calls Try.prog 27 #[.pointer (some ⟨tb, 0, none⟩), .int .i64 i, .bool s] u fun e w' => e = .returned (.bool (blk S.n S.T i s)) ∧ w' = u := by
  obtain ⟨g, pb, v, t⟩ := h.tab
  exact black_any i s u t.tab
theorem ms_set (i st : Int) (p s : Bool) (h : Ms w u b tb S) : Calls Try.prog 11 #[.pointer (some ⟨tb, 0, none⟩), .int .i64 i, .int .i64 st, .bool p, .bool s] u fun e w' => e = .returned (.bool (inn S.n i && isSt st)) ∧ Ms w w' b tb (S.set i st p s) := by
  obtain ⟨g, pb, v, t⟩ := h.tab
  exact (set_any i st p s u t.tab).mono fun _ _ ⟨he, t2, m⟩ => ⟨he, h.kept.muts m (fun k hk => by simp at hk; subst hk; exact t.log), g, pb, v, t.tabs t2 m⟩
theorem ms_grey (i : Int) (s : Bool) (h : Ms w u b tb S) (hc : S.c < lots) : Calls Try.prog 13 #[.pointer (some ⟨b, 0, none⟩), .int .i64 i, .bool s] u fun e w' => e = .returned (.bool (greyB S i s)) ∧ Ms w w' b tb (greyS S i s) := by
  obtain ⟨g, pb, v, t⟩ := h.tab
  exact (sgrey_any i s u t hc).mono fun _ _ ⟨he, v2, t2, m, _⟩ => ⟨he, h.kept.muts m (fun k hk => (t.own k hk).1), g, pb, v2, t2⟩
theorem ms_black (i : Int) (s : Bool) (h : Ms w u b tb S) (hc : S.c < lots) : Calls Try.prog 15 #[.pointer (some ⟨b, 0, none⟩), .int .i64 i, .bool s] u fun e w' => e = .returned (.bool (blackB S i s)) ∧ Ms w w' b tb S.tick := by
  obtain ⟨g, pb, v, t⟩ := h.tab
  exact (sblack_any i s u t hc).mono fun _ _ ⟨he, t2, m⟩ => ⟨he, h.kept.muts m (fun k hk => (t.own k hk).1), g, pb, v, t2⟩
theorem ms_part (i : Int) (s : Bool) (h : Ms w u b tb S) (hc : S.c < lots) : Calls Try.prog 17 #[.pointer (some ⟨b, 0, none⟩), .int .i64 i, .bool s] u fun e w' => e = .returned (.bool (markB S.n S.T i s)) ∧ Ms w w' b tb (S.tick.mark i s) := by
  obtain ⟨g, pb, v, t⟩ := h.tab
  exact (spart_any i s u t hc).mono fun _ _ ⟨he, t2, m⟩ => ⟨he, h.kept.muts m (fun k hk => (t.own k hk).1), g, pb, v, t2⟩
theorem ms_next (h : Ms w u b tb S) (hc : S.c < lots) : Calls Try.prog 19 #[.pointer (some ⟨b, 0, none⟩)] u fun e w' => e = .returned (.tuple #[.int .i64 (topI S.P), .bool (isI S.P)]) ∧ Ms w w' b tb S.tick.pop := by
  obtain ⟨g, pb, v, t⟩ := h.tab
  exact (snext_any u t hc).mono fun _ _ ⟨he, v2, t2, m, _⟩ => ⟨he, h.kept.muts m (fun k hk => (t.own k hk).1), g, pb, v2, t2⟩
theorem ms_lost (h : Ms w u b tb S) (hc : S.c < lots) : Calls Try.prog 21 #[.pointer (some ⟨b, 0, none⟩)] u fun e w' => e = .returned (.bool S.z) ∧ Ms w w' b tb S.tick.found := by
  obtain ⟨g, pb, v, t⟩ := h.tab
  exact (slost_any u t hc).mono fun _ _ ⟨he, t2, m⟩ => ⟨he, h.kept.muts m (fun k hk => (t.own k hk).1), g, pb, v, t2⟩
end

set_option maxHeartbeats 2000000 in
theorem first_any (w : World) : Calls Try.prog 7 #[] w fun e w' => e = .returned (.bool true) ∧ Kept w w' := by
  have HN : Hid (∀ w : World, _) := fun w => ms_new (w := w) 2 1 w (Kept.refl w) (by omega) (by omega) (by omega)
  go_enter Try.func7, Try.ntmps7
  go_wp2_with fail
  refine (HN.out _).mono ?_
  rintro e w1 ⟨b, tb, rfl, t1⟩
  have H1 : Hid (Ms w w1 b tb (ShS.new 2 1)) := t1
  clear t1 HN
  go_wp2_with fail
  refine (ms_table H1.out).mono ?_
  rintro e w2 ⟨rfl, rfl⟩
  go_wp2_with fail
  refine (ms_grey 0 true H1.out (by decide)).mono ?_
  rintro e w3 ⟨rfl, t3⟩
  have q : greyB (ShS.new 2 1) 0 true = false := by decide
  have H3 : Hid (Ms w w3 b tb (greyS (ShS.new 2 1) 0 true)) := t3
  clear t3 H1
  rw [q]
  clear q
  go_wp2_with fail
  refine (ms_table H3.out).mono ?_
  rintro e w4 ⟨rfl, rfl⟩
  go_wp2_with fail
  refine (ms_set 0 2 true false H3.out).mono ?_
  rintro e w5 ⟨rfl, t5⟩
  have H5 : Hid (Ms w w5 b tb ((greyS (ShS.new 2 1) 0 true).set 0 2 true false)) := t5
  clear t5 H3
  go_wp2_with fail
  refine (ms_grey 0 true H5.out (by decide)).mono ?_
  rintro e w6 ⟨rfl, t6⟩
  have q : greyB ((greyS (ShS.new 2 1) 0 true).set 0 2 true false) 0 true = true := by decide
  have H6 : Hid (Ms w w6 b tb (greyS ((greyS (ShS.new 2 1) 0 true).set 0 2 true false) 0 true)) := t6
  clear t6 H5
  rw [q]
  clear q
  go_wp2_with fail
  refine (ms_grey 0 true H6.out (by decide)).mono ?_
  rintro e w7 ⟨rfl, t7⟩
  have q : greyB (greyS ((greyS (ShS.new 2 1) 0 true).set 0 2 true false) 0 true) 0 true = false := by decide
  have H7 : Hid (Ms w w7 b tb (greyS (greyS ((greyS (ShS.new 2 1) 0 true).set 0 2 true false) 0 true) 0 true)) := t7
  clear t7 H6
  rw [q]
  clear q
  go_wp2_with fail
  refine (ms_next H7.out (by decide)).mono ?_
  rintro e w8 ⟨rfl, t8⟩
  have q : topI (greyS (greyS ((greyS (ShS.new 2 1) 0 true).set 0 2 true false) 0 true) 0 true).P = 0 := by decide
  have q2 : isI (greyS (greyS ((greyS (ShS.new 2 1) 0 true).set 0 2 true false) 0 true) 0 true).P = true := by decide
  have H8 : Hid (Ms w w8 b tb (greyS (greyS ((greyS (ShS.new 2 1) 0 true).set 0 2 true false) 0 true) 0 true).tick.pop) := t8
  clear t8 H7
  rw [q, q2]
  clear q q2
  go_wp2_with fail
  refine (ms_count H8.out).mono ?_
  rintro e w9 ⟨rfl, rfl⟩
  have q : (((greyS (greyS ((greyS (ShS.new 2 1) 0 true).set 0 2 true false) 0 true) 0 true).tick.pop.c : Nat) : Int) = 4 := by decide
  rw [q]
  clear q
  go_wp2_with fail
  refine (ms_black 0 true H8.out (by decide)).mono ?_
  rintro e w10 ⟨rfl, t10⟩
  have q : blackB (greyS (greyS ((greyS (ShS.new 2 1) 0 true).set 0 2 true false) 0 true) 0 true).tick.pop 0 true = true := by decide
  have K : Hid (Kept w w10) := t10.kept
  clear t10 H8
  rw [q]
  clear q
  go_wp2
  go_ret
  exact ⟨rfl, K.out⟩
end Go.Proofs.Ytfglmnjhnjkiiaa
