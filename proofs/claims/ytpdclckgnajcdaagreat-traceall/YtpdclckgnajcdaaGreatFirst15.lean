/-
  A shade of the law's own (Ms); the laws' own 'first' of layer 15.
-/
import Derived.Test.YtpdclckgnajcdaaGreatShadeB
namespace Go.Proofs.YtpdclckgnajcdaaGreat
open Go.RowKit

/-- A shade that the law has made since w. -/
structure Ms (w u : World) (b tb : Nat) (S : ShS) : Prop where
  kept : Kept w u
  tab : ∃ g pb v, ShC u w.heap.size b tb g pb v S

section
variable {w u u' : World} {b tb : Nat} {S : ShS}
theorem Ms.still (h : Ms w u b tb S) (k : Kept u u') : Ms w u' b tb S := ⟨h.kept.trans k, h.tab.elim fun g ⟨pb, v, t⟩ => ⟨g, pb, v, t.kept k⟩⟩
theorem ms_new (n most : Nat) (u : World) (k : Kept w u) (hn : n ≤ 1024) (h1 : 1 ≤ (most : Int)) (hm : (most : Int) ≤ 256) :
    Calls Tryz.prog 13 #[.int .i64 n, .int .i64 most] u fun e w' => ∃ b tb, e = .returned (.tuple #[.pointer (some ⟨b, 0, none⟩), .int .i64 0]) ∧ Ms w w' b tb (ShS.new n most) :=
  (snew_any n most u hn h1 hm k.size).mono fun _ _ ⟨b, tb, g, pb, v, he, t, k2, _⟩ => ⟨b, tb, he, k.trans k2, g, pb, v, t⟩
theorem ms_table (h : Ms w u b tb S) : Calls Tryz.prog 14 #[.pointer (some ⟨b, 0, none⟩)] u fun e w' => e = .returned (.pointer (some ⟨tb, 0, none⟩)) ∧ w' = u := by
  obtain ⟨g, pb, v, t⟩ := h.tab
  exact stable_any u t
theorem ms_len (h : Ms w u b tb S) : Calls Tryz.prog 26 #[.pointer (some ⟨b, 0, none⟩)] u fun e w' => e = .returned (.int .i64 (S.P.length : Int)) ∧ w' = u := by
  obtain ⟨g, pb, v, t⟩ := h.tab
  exact slen_any u t
theorem ms_tblack (i : Int) (s : Bool) (h : Ms w u b tb S) : Calls Tryz.prog 23 #[.pointer (some ⟨tb, 0, none⟩), .int .i64 i, .bool s] u fun e w' => e = .returned (.bool (blk S.n S.T i s)) ∧ w' = u := by
  obtain ⟨g, pb, v, t⟩ := h.tab
  exact black_any i s u t.tab
theorem ms_set (i st : Int) (p s : Bool) (h : Ms w u b tb S) : Calls Tryz.prog 16 #[.pointer (some ⟨tb, 0, none⟩), .int .i64 i, .int .i64 st, .bool p, .bool s] u fun e w' => e = .returned (.bool (inn S.n i && isSt st)) ∧ Ms w w' b tb (S.set i st p s) := by
  obtain ⟨g, pb, v, t⟩ := h.tab
  exact (set_any i st p s u t.tab).mono fun _ _ ⟨he, t2, m⟩ => ⟨he, h.kept.muts m (fun k hk => by simp at hk; subst hk; exact t.log), g, pb, v, t.tabs t2 m⟩
theorem ms_grey (i : Int) (s : Bool) (h : Ms w u b tb S) (hc : S.c < lots) : Calls Tryz.prog 90 #[.pointer (some ⟨b, 0, none⟩), .int .i64 i, .bool s] u fun e w' => e = .returned (.bool (greyB S i s)) ∧ Ms w w' b tb (greyS S i s) := by
  obtain ⟨g, pb, v, t⟩ := h.tab
  exact (sgrey_any i s u t hc).mono fun _ _ ⟨he, v2, t2, m, _⟩ => ⟨he, h.kept.muts m (fun k hk => (t.own k hk).1), g, pb, v2, t2⟩
theorem ms_part (i : Int) (s : Bool) (h : Ms w u b tb S) (hc : S.c < lots) : Calls Tryz.prog 91 #[.pointer (some ⟨b, 0, none⟩), .int .i64 i, .bool s] u fun e w' => e = .returned (.bool (markB S.n S.T i s)) ∧ Ms w w' b tb (S.tick.mark i s) := by
  obtain ⟨g, pb, v, t⟩ := h.tab
  exact (spart_any i s u t hc).mono fun _ _ ⟨he, t2, m⟩ => ⟨he, h.kept.muts m (fun k hk => (t.own k hk).1), g, pb, v, t2⟩
end

end Go.Proofs.YtpdclckgnajcdaaGreat
