/-
  Contracts of package pile: a pile as it lies in memory (and the document's shade, which holds one); New, Push, Pop, Found, Lost, Len.
-/
import Derived.Test.YtgnikgkpbibmgaaLst
namespace Go.Proofs.Ytgnikgkpbibmgaa
open Go.RowKit

/-- A pile (of head type t, other cells A ahead and B behind) at block b, with room for most, that holds the numbers T in the slice v; z: something was lost. -/
structure PTab (t : TypeId) (A B : List Value) (w : World) (base b most : Nat) (v : Value) (T : List Int) (z : Bool) : Prop where
  head : Own w b t (A ++ .int .i64 (most : Int) :: v :: .bool z :: B)
  lst : Lst w base v T
  few : T.length ≤ most
  max : most ≤ 256
  lo : base ≤ b
  ty : t ≠ 3

theorem set_mid1 (A B : List Value) (x y z u : Value) : (A ++ x :: y :: z :: B).set (A.length + 1) u = A ++ x :: u :: z :: B := by
  induction A with
  | nil => rfl
  | cons a A ih => simp [ih]
theorem set_mid2 (A B : List Value) (x y z u : Value) : (A ++ x :: y :: z :: B).set (A.length + 2) u = A ++ x :: y :: u :: B := by
  induction A with
  | nil => rfl
  | cons a A ih => simp [ih]

section
variable {t : TypeId} {A B : List Value} {w w' w'' : World} {base b most : Nat} {v v' : Value} {T T' : List Int} {z z' : Bool}
/-- Another block than a list's. -/
theorem Own.nelst {b : Nat} {L : List Value} (h : Own w b t L) (l : Lst w base v T) (ht : t ≠ 3) : v.ownBlock ≠ some b := fun e => by
  rcases l.2 with ⟨rfl, _⟩ | ⟨g, cap, cur, rfl, _, hg, _⟩
  · cases e
  · obtain rfl : g = b := by simpa [Value.ownBlock] using e
    unfold Own at h
    rw [hg] at h
    simp only [Option.some.injEq, Obj.cells.injEq] at h
    exact ht h.2.1.symm
/-- Blocks of two types are two. -/
theorem Own.neq {b' : Nat} {t' : TypeId} {L L' : List Value} (h : Own w b t L) (k : Own w b' t' L') (ht : t ≠ t') : b ≠ b' := by
  rintro rfl
  unfold Own at h k
  rw [h] at k
  simp only [Option.some.injEq, Obj.cells.injEq] at k
  exact ht k.2.1
theorem PTab.ne (h : PTab t A B w base b most v T z) : v.ownBlock ≠ some b := h.head.nelst h.lst h.ty
theorem PTab.fz (h : PTab t A B w base b most v T z) (i : Nat) : w.frozen? ⟨b, i, none⟩ = false := h.head.blk.fz i
theorem PTab.kept (h : PTab t A B w base b most v T z) (k : Kept w w') : PTab t A B w' base b most v T z := ⟨h.head.kept k, h.lst.kept k, h.few, h.max, h.lo, h.ty⟩
theorem PTab.muts {D : List Nat} (h : PTab t A B w base b most v T z) (m : Mut D w w') (hb : b ∉ D) (hd : ∀ k, v.ownBlock = some k → k ∉ D) : PTab t A B w' base b most v T z := ⟨h.head.muts m hb, h.lst.muts m hd, h.few, h.max, h.lo, h.ty⟩
theorem PTab.ltb (h : PTab t A B w base b most v T z) : b < w.heap.size := h.head.lt
theorem PTab.base_le (h : PTab t A B w base b most v T z) : base ≤ w.heap.size := Nat.le_of_lt (Nat.lt_of_le_of_lt h.lo h.ltb)
theorem PTab.own (h : PTab t A B w base b most v T z) : ∀ k, k ∈ b :: v.ownBlock.toList → base ≤ k ∧ k < w.heap.size := fun k hk => by
  simp at hk
  rcases hk with rfl | hk
  · exact ⟨h.lo, h.ltb⟩
  · exact h.lst.lt k hk
/-- Another list behind the head. -/
theorem PTab.turn (h : PTab t A B w base b most v T z) (o : Own w' b t (A ++ .int .i64 (most : Int) :: v :: .bool z :: B)) (l : Lst w' base v' T') (hf : T'.length ≤ most) :
    PTab t A B (w'.setCell ⟨b, A.length + 1, none⟩ v') base b most v' T' z :=
  ⟨by have := o.set (A.length + 1) v'; rwa [set_mid1] at this, l.muts (D := [b]) ((Mut.refl _ _).setCell (by simp) _) (fun k hk hd => by
    simp at hd
    subst hd
    exact o.nelst l h.ty hk), hf, h.max, h.lo, h.ty⟩
theorem PTab.flag (h : PTab t A B w base b most v T z) (z' : Bool) : PTab t A B (w.setCell ⟨b, A.length + 2, none⟩ (.bool z')) base b most v T z' :=
  ⟨by have := h.head.set (A.length + 2) (.bool z'); rwa [set_mid2] at this, h.lst.muts (D := [b]) ((Mut.refl _ _).setCell (by simp) _) (fun k hk hd => by
    simp at hd
    subst hd
    exact h.ne hk), h.few, h.max, h.lo, h.ty⟩

/-- A list without its last one. -/
theorem Lst.init {x : Option Addr} {l c : Nat} {i : Int} (h : Lst w base (.slice x l c) (T ++ [i])) : ∃ g, x = some ⟨g, 0, none⟩ ∧ l = T.length + 1 ∧ l ≤ c ∧ Lst w base (.slice (some ⟨g, 0, none⟩) T.length c) T ∧ w.cell? ⟨g, T.length, none⟩ = some (.int .i64 i) := by
  obtain ⟨x', c', e⟩ := h.form
  obtain ⟨_, e2, _⟩ := Value.slice.inj e
  rw [List.length_append, List.length_singleton] at e2
  subst e2
  rcases h.2 with ⟨e, h0⟩ | ⟨g, cap, cur, e, hb, hg, _⟩
  · simp at h0
  · obtain ⟨e1, _, e3⟩ := Value.slice.inj e
    subst e1 e3
    obtain ⟨h1, h2, h3, f, hr, hf⟩ := h.row
    simp only [List.length_append, List.length_singleton] at h1
    refine ⟨g, rfl, rfl, h1, lst_of_row hr (fun j hj => ?_) (by omega) h2 h3, ?_⟩
    · rw [hf j (by simp; omega), List.getElem_append_left hj]
    · rw [hr.cell (by omega), hf T.length (by simp)]
      simp
end

theorem rdi_lit (w : World) (C : List Int) : Rdi (w.alloc (.cells (C.map (Value.int .i64)).toArray 3)) (some ⟨w.heap.size, 0, none⟩) C := fun _ => ⟨w.heap.size, 0, rfl, by simp, fun j hj => by simp [hj]⟩

/-- A pile of package pile. -/
abbrev PT := PTab 92 [] []

section
variable {w : World} {base b most : Nat} {v : Value} {T : List Int} {z : Bool}
theorem PTab.c0 (h : PT w base b most v T z) : w.cell? ⟨b, 0, none⟩ = some (.int .i64 (most : Int)) := h.head.blk.at 0 rfl
theorem PTab.c1 (h : PT w base b most v T z) : w.cell? ⟨b, 1, none⟩ = some v := h.head.blk.at 1 rfl
theorem PTab.c2 (h : PT w base b most v T z) : w.cell? ⟨b, 2, none⟩ = some (.bool z) := h.head.blk.at 2 rfl
end

set_option maxHeartbeats 800000 in
theorem pnew_bad (n : Int) (w : World) (hn : ¬ (1 ≤ n ∧ n ≤ 256)) :
    Calls Try.prog 35 #[.int .i64 n] w fun e w' => e = .returned (.tuple #[.pointer none, .int .i64 1]) ∧ w' = w := by
  by_cases h0 : n < 1
  · clear hn
    go_enter Try.func35, Try.ntmps35
    go_wp2
    go_ret2
    exact ⟨rfl, rfl⟩
  · have h1 : 256 < n := by omega
    clear hn
    go_enter Try.func35, Try.ntmps35
    go_wp2
    go_ret2
    exact ⟨rfl, rfl⟩

set_option maxHeartbeats 800000 in
theorem pnew_any (n : Nat) (w : World) (h1 : 1 ≤ (n : Int)) (hn : (n : Int) ≤ 256) {base : Nat} (hb : base ≤ w.heap.size) :
    Calls Try.prog 35 #[.int .i64 n] w fun e w' => ∃ b, e = .returned (.tuple #[.pointer (some ⟨b, 0, none⟩), .int .i64 0]) ∧ PT w' base b n (.slice none 0 0) [] false ∧ Kept w w' ∧ w.heap.size ≤ b := by
  have HO : Hid (∀ w' : World, base ≤ w'.heap.size → PT (w'.alloc (.cells #[.int .i64 (n : Int), .slice none 0 0, .bool false] 92)) base w'.heap.size n (.slice none 0 0) [] false) := fun w' hb => ⟨Own.new w' [.int .i64 (n : Int), .slice none 0 0, .bool false] _, Lst.nil _ _, by simp, by omega, hb, by decide⟩
  have HK : Hid (base ≤ w.heap.size) := hb
  clear hb
  go_enter Try.func35, Try.ntmps35
  go_wp2
  go_ret2
  exact ⟨_, rfl, HO.out w HK.out, (Kept.refl _).alloc _ _, by omega⟩

end Go.Proofs.Ytgnikgkpbibmgaa
