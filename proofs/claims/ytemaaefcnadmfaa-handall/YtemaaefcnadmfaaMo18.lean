/-
  A hand of the law's own and sixteen truth values beside it (Mo).
-/
import Derived.Test.YtemaaefcnadmfaaFirst18
namespace Go.Proofs.Ytemaaefcnadmfaa
open Go.RowKit

/-- Sixteen truth values as cells. -/
def bs (F : Nat → Bool) : List Value := (List.range 16).map fun j => .bool (F j)
def upd (F : Nat → Bool) (k : Nat) (v : Bool) : Nat → Bool := fun j => if j = k then v else F j
theorem bs_at (F : Nat → Bool) {k : Nat} (h : k < 16) : (bs F)[k]? = some (.bool (F k)) := by simp [bs, h]
theorem bs_set (F : Nat → Bool) (k : Nat) (v : Bool) : (bs F).set k (.bool v) = bs (upd F k v) := by
  apply List.ext_getElem?
  intro j
  by_cases hj : j < 16
  · rw [bs_at _ hj]
    by_cases e : k = j
    · subst e
      rw [List.getElem?_set_self (by simp [bs, hj])]
      simp [upd]
    · rw [List.getElem?_set_ne e, bs_at _ hj]
      simp [upd, Ne.symm e]
  · have h1 : ∀ G, (bs G).length = 16 := fun G => by simp [bs]
    rw [List.getElem?_eq_none (by rw [List.length_set, h1]; omega), List.getElem?_eq_none (by rw [h1]; omega)]

structure Mo (w u : World) (b m : Nat) (F : Nat → Bool) (S : Hs) : Prop where
  kept : Kept w u
  tab : ∃ g c, HH u b g c S ∧ w.heap.size ≤ b ∧ w.heap.size ≤ g
  row : Own u m 47 (bs F)
  lo : w.heap.size ≤ m

section
variable {w u u' : World} {b m : Nat} {F : Nat → Bool} {S S' : Hs}
theorem Mo.mh (h : Mo w u b m F S) : Mh w u b S := ⟨h.kept, h.tab⟩
theorem Mo.ok (h : Mo w u b m F S) : S.Ok := h.mh.ok
theorem Mo.still (h : Mo w u b m F S) (k : Kept u u') : Mo w u' b m F S := ⟨h.kept.trans k, (h.mh.still k).tab, h.row.kept k, h.lo⟩
theorem Mo.at (h : Mo w u b m F S) {k : Nat} (hk : k < 16) : u.cell? ⟨m, k, none⟩ = some (.bool (F k)) := h.row.blk.at k (bs_at F hk)
theorem Mo.fz (h : Mo w u b m F S) (k : Nat) : u.frozen? ⟨m, k, none⟩ = false := h.row.blk.fz k
theorem row_out {g c : Nat} (t : HH u b g c S) (r : Own u m 47 (bs F)) : m ∉ [b, g] := fun q => by
  obtain ⟨f, hr, _⟩ := t.row
  simp only [List.mem_cons, List.not_mem_nil, or_false] at q
  rcases q with rfl | rfl
  · have h := t.head
    unfold Own at h r
    rw [h] at r
    simp at r
  · exact r.ne hr (by decide) rfl
theorem Mo.put (h : Mo w u b m F S) (k : Nat) (x : Bool) : Mo w (u.setCell ⟨m, k, none⟩ (.bool x)) b m (upd F k x) S := by
  obtain ⟨g, c, t, q⟩ := h.tab
  have mu : Mut [m] u (u.setCell ⟨m, k, none⟩ (.bool x)) := (Mut.refl _ _).setCell (by simp) _
  have no := row_out t h.row
  simp only [List.mem_cons, List.not_mem_nil, or_false, not_or] at no
  refine ⟨h.kept.setCell h.lo _, ⟨g, c, t.muts mu (by simpa using fun e => no.1 e.symm) (by simpa using fun e => no.2 e.symm), q⟩, ?_, h.lo⟩
  have := h.row.set k (.bool x)
  rwa [bs_set] at this
theorem Mh.row (h : Mh w u b S) : Mo w (u.alloc (.cells (bs fun _ => false).toArray 47)) b u.heap.size (fun _ => false) S := by
  have k : Kept u (u.alloc (.cells (bs fun _ => false).toArray 47)) := (Kept.refl u).alloc _ _
  exact ⟨h.kept.trans k, (h.still k).tab, Own.new u _ _, h.kept.size⟩
theorem mo_of {g c : Nat} (h : Mo w u b m F S) (t0 : HH u b g c S) (t : HH u' b g c S') (mu : Mut [b, g] u u') (q : w.heap.size ≤ b ∧ w.heap.size ≤ g) : Mo w u' b m F S' :=
  ⟨(mh_of h.kept t mu q).kept, (mh_of h.kept t mu q).tab, h.row.muts mu (row_out t0 h.row), h.lo⟩
theorem mo_post (s : Int) (f : Bool) (h : Mo w u b m F S) (hc : S.ct < 1000000000) : Calls Try.prog 10 #[.pointer (some ⟨b, 0, none⟩), .int .i64 s, .bool f] u fun e w' => e = .returned (.bool (kn s)) ∧ Mo w w' b m F (S.post s f) := by
  obtain ⟨g, c, t, q⟩ := h.tab
  exact (hpost_any s f u t hc).mono fun _ _ ⟨he, t2, mu⟩ => ⟨he, mo_of h t t2 mu q⟩
theorem mo_ans (i s : Int) (h : Mo w u b m F S) (hc : S.ct < 1000000000) : Calls Try.prog 14 #[.pointer (some ⟨b, 0, none⟩), .int .i64 i, .int .i64 s] u fun e w' => e = .returned (.bool (S.is i && kn s)) ∧ Mo w w' b m F (S.ans i s) := by
  obtain ⟨g, c, t, q⟩ := h.tab
  exact (hans_any i s u t hc).mono fun _ _ ⟨he, t2, mu⟩ => ⟨he, mo_of h t t2 mu q⟩
theorem mo_poll (i : Int) (h : Mo w u b m F S) (hc : S.ct < 1000000000) : Calls Try.prog 16 #[.pointer (some ⟨b, 0, none⟩), .int .i64 i] u fun e w' => e = .returned (.bool (S.poll i)) ∧ Mo w w' b m F S.tick := by
  obtain ⟨g, c, t, q⟩ := h.tab
  exact (hpoll_any i u t hc).mono fun _ _ ⟨he, t2, mu⟩ => ⟨he, mo_of h t t2 mu q⟩
theorem mo_join (i : Int) (h : Mo w u b m F S) (hc : S.ct < 1000000000) : Calls Try.prog 18 #[.pointer (some ⟨b, 0, none⟩), .int .i64 i] u fun e w' => e = .returned (.tuple #[.int .i64 (S.jst i), .bool (S.jse i), .bool (S.can i)]) ∧ Mo w w' b m F (S.join i) := by
  obtain ⟨g, c, t, q⟩ := h.tab
  exact (hjoin_any i u t hc).mono fun _ _ ⟨he, t2, mu⟩ => ⟨he, mo_of h t t2 mu q⟩
theorem mo_leave (i : Int) (h : Mo w u b m F S) (hc : S.ct < 1000000000) : Calls Try.prog 20 #[.pointer (some ⟨b, 0, none⟩), .int .i64 i] u fun e w' => e = .returned (.bool (S.is i)) ∧ Mo w w' b m F (S.leave i) := by
  obtain ⟨g, c, t, q⟩ := h.tab
  exact (hleave_any i u t hc).mono fun _ _ ⟨he, t2, mu⟩ => ⟨he, mo_of h t t2 mu q⟩
end
end Go.Proofs.Ytemaaefcnadmfaa
