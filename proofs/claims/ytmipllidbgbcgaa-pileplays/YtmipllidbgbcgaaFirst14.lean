/-
  The laws' own 'first' of layer 14; a pile of the law's own (Mine); the first numbers of a row (pre).
-/
import Derived.Test.YtmipllidbgbcgaaPile
import Derived.Test.YtmipllidbgbcgaaElems
namespace Go.Proofs.Ytmipllidbgbcgaa
open Go.RowKit

/-- A pile that the law has made since w: room for n, the numbers T, z: lost. -/
structure Mine (w u : World) (b n : Nat) (T : List Int) (z : Bool) : Prop where
  kept : Kept w u
  tab : ∃ v, PT u w.heap.size b n v T z

section
variable {w u u' : World} {b n : Nat} {T : List Int} {z : Bool}
theorem Mine.still (h : Mine w u b n T z) (k : Kept u u') : Mine w u' b n T z := ⟨h.kept.trans k, h.tab.elim fun v t => ⟨v, t.kept k⟩⟩
theorem Mine.few (h : Mine w u b n T z) : T.length ≤ n := h.tab.elim fun _ t => t.few
theorem mine_new (n : Nat) (u : World) (k : Kept w u) (h1 : 1 ≤ (n : Int)) (hn : (n : Int) ≤ 256) :
    Calls Try.prog 8 #[.int .i64 n] u fun e w' => ∃ b, e = .returned (.tuple #[.pointer (some ⟨b, 0, none⟩), .int .i64 0]) ∧ Mine w w' b n [] false :=
  (new_any n u h1 hn k.size).mono fun _ _ ⟨b, he, t, k2, _⟩ => ⟨b, he, k.trans k2, _, t⟩
theorem mine_len (h : Mine w u b n T z) : Calls Try.prog 18 #[.pointer (some ⟨b, 0, none⟩)] u fun e w' => e = .returned (.int .i64 (T.length : Int)) ∧ w' = u := by
  obtain ⟨v, t⟩ := h.tab
  exact len_any u t
theorem mine_lost (h : Mine w u b n T z) : Calls Try.prog 16 #[.pointer (some ⟨b, 0, none⟩)] u fun e w' => e = .returned (.bool z) ∧ w' = u := by
  obtain ⟨v, t⟩ := h.tab
  exact lost_any u t
theorem mine_found (h : Mine w u b n T z) : Calls Try.prog 14 #[.pointer (some ⟨b, 0, none⟩)] u fun e w' => e = .returned (.tuple #[]) ∧ Mine w w' b n T false := by
  obtain ⟨v, t⟩ := h.tab
  exact (found_any u t).mono fun _ _ ⟨he, t2, m⟩ => ⟨he, h.kept.muts m (fun k hk => by simp at hk; subst hk; exact t.lo), v, t2⟩
theorem mine_push_no (i : Int) (h : Mine w u b n T z) (hf : T.length = n) : Calls Try.prog 10 #[.pointer (some ⟨b, 0, none⟩), .int .i64 i] u fun e w' => e = .returned (.bool false) ∧ Mine w w' b n T true := by
  obtain ⟨v, t⟩ := h.tab
  exact (push_no i u t hf).mono fun _ _ ⟨he, t2, m⟩ => ⟨he, h.kept.muts m (fun k hk => by simp at hk; subst hk; exact t.lo), v, t2⟩
theorem mine_push (i : Int) (h : Mine w u b n T z) (hf : T.length < n) : Calls Try.prog 10 #[.pointer (some ⟨b, 0, none⟩), .int .i64 i] u fun e w' => e = .returned (.bool true) ∧ Mine w w' b n (T ++ [i]) z := by
  obtain ⟨v, t⟩ := h.tab
  exact (push_yes i u t hf).mono fun _ _ ⟨he, v2, t2, m, _⟩ => ⟨he, h.kept.muts m (fun k hk => (t.own k hk).1), v2, t2⟩
theorem mine_pop_no (h : Mine w u b n [] z) : Calls Try.prog 12 #[.pointer (some ⟨b, 0, none⟩)] u fun e w' => e = .returned (.tuple #[.int .i64 0, .bool false]) ∧ w' = u := by
  obtain ⟨v, t⟩ := h.tab
  exact pop_no u t
theorem mine_pop {i : Int} (h : Mine w u b n (T ++ [i]) z) : Calls Try.prog 12 #[.pointer (some ⟨b, 0, none⟩)] u fun e w' => e = .returned (.tuple #[.int .i64 i, .bool true]) ∧ Mine w w' b n T z := by
  obtain ⟨v, t⟩ := h.tab
  exact (pop_yes u t).mono fun _ _ ⟨he, v2, t2, m, _⟩ => ⟨he, h.kept.muts m (fun k hk => (t.own k hk).1), v2, t2⟩
end

/-- The first j of L. -/
def pre (L : Nat → Int) (j : Nat) : List Int := (List.range j).map L
theorem pre_zero (L : Nat → Int) : pre L 0 = [] := rfl
theorem pre_succ (L : Nat → Int) (j : Nat) : pre L (j + 1) = pre L j ++ [L j] := by simp [pre, List.range_succ]
theorem pre_len (L : Nat → Int) (j : Nat) : (pre L j).length = j := by simp [pre]

set_option maxHeartbeats 2000000 in
theorem first_any (w : World) : Calls Try.prog 7 #[] w fun e w' => e = .returned (.bool true) ∧ Kept w w' := by
  have HN : Hid (∀ w : World, _) := fun w => mine_new (w := w) 1 w (Kept.refl w) (by omega) (by omega)
  go_enter Try.func7, Try.ntmps7
  go_wp2_with fail
  refine (HN.out _).mono ?_
  rintro e w1 ⟨b, rfl, t1⟩
  have H1 : Hid (Mine w w1 b 1 [] false) := t1
  clear t1 HN
  go_wp2_with fail
  refine (mine_push 3 H1.out (by simp)).mono ?_
  rintro e w2 ⟨rfl, t2⟩
  have H2 : Hid (Mine w w2 b 1 [3] false) := t2
  clear t2 H1
  go_wp2_with fail
  refine (mine_push_no 4 H2.out rfl).mono ?_
  rintro e w3 ⟨rfl, t3⟩
  have H3 : Hid (Mine w w3 b 1 [3] true) := t3
  clear t3 H2
  go_wp2_with fail
  refine (mine_lost H3.out).mono ?_
  rintro e w4 ⟨rfl, rfl⟩
  go_wp2_with fail
  refine (mine_len H3.out).mono ?_
  rintro e w5 ⟨rfl, rfl⟩
  have e0 : ((([3] : List Int).length : Nat) : Int) = 1 := rfl
  rw [e0]
  go_wp2
  go_ret
  exact ⟨rfl, H3.out.kept⟩
end Go.Proofs.Ytmipllidbgbcgaa
