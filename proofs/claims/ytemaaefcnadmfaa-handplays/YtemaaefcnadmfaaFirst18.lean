/-
  A hand of the law's own (Mh); the laws' own 'first' of layer 18.
-/
import Derived.Test.YtemaaefcnadmfaaHandNew
namespace Go.Proofs.Ytemaaefcnadmfaa
open Go.RowKit

/-- A hand that the law has made since w. -/
structure Mh (w u : World) (b : Nat) (S : Hs) : Prop where
  kept : Kept w u
  tab : ∃ g c, HH u b g c S ∧ w.heap.size ≤ b ∧ w.heap.size ≤ g

section
variable {w u u' : World} {b : Nat} {S S' : Hs}
theorem Mh.still (h : Mh w u b S) (k : Kept u u') : Mh w u' b S := ⟨h.kept.trans k, by obtain ⟨g, c, t, q⟩ := h.tab; exact ⟨g, c, t.kept k, q⟩⟩
theorem Mh.ok (h : Mh w u b S) : S.Ok := by obtain ⟨g, c, t, q⟩ := h.tab; exact t.ok
/-- Stores into one's own blocks that are none of the hand's. -/
theorem Mh.muts {D : List Nat} (h : Mh w u b S) (m : Mut D u u') (hd : ∀ k, k ∈ D → w.heap.size ≤ k) (hb : b ∉ D) (hg : ∀ g c, HH u b g c S → g ∉ D) : Mh w u' b S := by
  obtain ⟨g, c, t, q⟩ := h.tab
  exact ⟨h.kept.muts m hd, g, c, t.muts m hb (hg g c t), q⟩
theorem mh_of {g c : Nat} (k : Kept w u) (t : HH u' b g c S) (m : Mut [b, g] u u') (q : w.heap.size ≤ b ∧ w.heap.size ≤ g) : Mh w u' b S :=
  ⟨k.muts m (fun k hk => by simp at hk; rcases hk with rfl | rfl; exact q.1; exact q.2), g, c, t, q⟩
theorem mh_new (n : Nat) (u : World) (k : Kept w u) (h1 : 1 ≤ (n : Int)) (hn : (n : Int) ≤ 16) :
    Calls Try.prog 8 #[.int .i64 n] u fun e w' => ∃ b, e = .returned (.tuple #[.pointer (some ⟨b, 0, none⟩), .int .i64 0]) ∧ Mh w w' b (Hs.first n) :=
  (hnew_any n u h1 hn).mono fun _ _ ⟨b, g, he, t, q1, q2, k2⟩ => ⟨b, he, k.trans k2, g, n, t, Nat.le_trans k.size q1, Nat.le_trans k.size q2⟩
theorem mh_own (i : Int) (h : Mh w u b S) : Calls Try.prog 22 #[.pointer (some ⟨b, 0, none⟩), .int .i64 i] u fun e w' => e = .returned (.int .i64 (S.own i)) ∧ w' = u := by
  obtain ⟨g, c, t, q⟩ := h.tab
  exact hown_any i u t
theorem mh_count (h : Mh w u b S) : Calls Try.prog 24 #[.pointer (some ⟨b, 0, none⟩)] u fun e w' => e = .returned (.int .i64 S.ct) ∧ w' = u := by
  obtain ⟨g, c, t, q⟩ := h.tab
  exact hcount_any u t
theorem mh_post (s : Int) (f : Bool) (h : Mh w u b S) (hc : S.ct < 1000000000) : Calls Try.prog 10 #[.pointer (some ⟨b, 0, none⟩), .int .i64 s, .bool f] u fun e w' => e = .returned (.bool (kn s)) ∧ Mh w w' b (S.post s f) := by
  obtain ⟨g, c, t, q⟩ := h.tab
  exact (hpost_any s f u t hc).mono fun _ _ ⟨he, t2, m⟩ => ⟨he, mh_of h.kept t2 m q⟩
theorem mh_look (h : Mh w u b S) (hc : S.ct < 1000000000) : Calls Try.prog 12 #[.pointer (some ⟨b, 0, none⟩)] u fun e w' => e = .returned (.tuple #[.int .i64 S.st, .bool S.se]) ∧ Mh w w' b S.tick := by
  obtain ⟨g, c, t, q⟩ := h.tab
  exact (hlook_any u t hc).mono fun _ _ ⟨he, t2, m⟩ => ⟨he, mh_of h.kept t2 m q⟩
theorem mh_ans (i s : Int) (h : Mh w u b S) (hc : S.ct < 1000000000) : Calls Try.prog 14 #[.pointer (some ⟨b, 0, none⟩), .int .i64 i, .int .i64 s] u fun e w' => e = .returned (.bool (S.is i && kn s)) ∧ Mh w w' b (S.ans i s) := by
  obtain ⟨g, c, t, q⟩ := h.tab
  exact (hans_any i s u t hc).mono fun _ _ ⟨he, t2, m⟩ => ⟨he, mh_of h.kept t2 m q⟩
theorem mh_poll (i : Int) (h : Mh w u b S) (hc : S.ct < 1000000000) : Calls Try.prog 16 #[.pointer (some ⟨b, 0, none⟩), .int .i64 i] u fun e w' => e = .returned (.bool (S.poll i)) ∧ Mh w w' b S.tick := by
  obtain ⟨g, c, t, q⟩ := h.tab
  exact (hpoll_any i u t hc).mono fun _ _ ⟨he, t2, m⟩ => ⟨he, mh_of h.kept t2 m q⟩
theorem mh_join (i : Int) (h : Mh w u b S) (hc : S.ct < 1000000000) : Calls Try.prog 18 #[.pointer (some ⟨b, 0, none⟩), .int .i64 i] u fun e w' => e = .returned (.tuple #[.int .i64 (S.jst i), .bool (S.jse i), .bool (S.can i)]) ∧ Mh w w' b (S.join i) := by
  obtain ⟨g, c, t, q⟩ := h.tab
  exact (hjoin_any i u t hc).mono fun _ _ ⟨he, t2, m⟩ => ⟨he, mh_of h.kept t2 m q⟩
theorem mh_leave (i : Int) (h : Mh w u b S) (hc : S.ct < 1000000000) : Calls Try.prog 20 #[.pointer (some ⟨b, 0, none⟩), .int .i64 i] u fun e w' => e = .returned (.bool (S.is i)) ∧ Mh w w' b (S.leave i) := by
  obtain ⟨g, c, t, q⟩ := h.tab
  exact (hleave_any i u t hc).mono fun _ _ ⟨he, t2, m⟩ => ⟨he, mh_of h.kept t2 m q⟩
end

set_option maxHeartbeats 2000000 in
theorem first_any (w : World) : Calls Try.prog 7 #[] w fun e w' => e = .returned (.bool true) ∧ Kept w w' := by
  have HN : Hid (∀ w : World, _) := fun w => mh_new (w := w) 2 w (Kept.refl w) (by omega) (by omega)
  go_enter Try.func7, Try.ntmps7
  go_wp2_with fail
  refine (HN.out _).mono ?_
  rintro e w1 ⟨b, rfl, t1⟩
  have H1 : Hid (Mh w w1 b (Hs.first 2)) := t1
  clear t1 HN
  go_wp2_with fail
  have e1 : (Hs.first 2).poll 0 = true := by decide
  have K := mh_poll 0 H1.out (by decide)
  rw [e1] at K
  refine K.mono ?_
  rintro e w2 ⟨rfl, t2⟩
  have H2 : Hid (Mh w w2 b (Hs.first 2).tick) := t2
  clear t2 H1 K e1
  go_wp2_with fail
  have e1 : (Hs.first 2).tick.ct = 1 := by decide
  have K := mh_count H2.out
  rw [e1] at K
  refine K.mono ?_
  rintro e w3 ⟨rfl, rfl⟩
  clear K e1
  go_wp2_with fail
  have e1 : (Hs.first 2).tick.own 0 = -1 := by decide
  have K := mh_own 0 H2.out
  rw [e1] at K
  refine K.mono ?_
  rintro e w4 ⟨rfl, rfl⟩
  clear K e1
  go_wp2
  go_ret
  exact ⟨rfl, H2.out.kept⟩
end Go.Proofs.Ytemaaefcnadmfaa
