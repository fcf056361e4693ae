/-
  Contracts of package stock: a stock as it lies in memory; New, Len, Room, Put, Drain.
-/
import Derived.Test.YtahpnnjemjjfhaaLst
namespace Go.Proofs.Ytahpnnjemjjfhaa
open Go.RowKit

/-- A stock (of head type t) at block b, that keeps the numbers T in the slice v. -/
structure STab (t : TypeId) (w : World) (base b most : Nat) (v : Value) (T : List Int) : Prop where
  head : Own w b t [.int .i64 (most : Int), v]
  lst : Lst w base v T
  few : T.length ≤ most
  max : most ≤ 8
  lo : base ≤ b
  ty : t ≠ 3

section
variable {t : TypeId} {w w' w'' : World} {base b most : Nat} {v v' : Value} {T : List Int}
/-- Another block than a list's. -/
theorem Own.nelst {b : Nat} {L : List Value} (h : Own w b t L) (l : Lst w base v T) (ht : t ≠ 3) : v.ownBlock ≠ some b := fun e => by
  rcases l.2 with ⟨rfl, _⟩ | ⟨g, cap, cur, rfl, _, hg, _⟩
  · cases e
  · obtain rfl : g = b := by simpa [Value.ownBlock] using e
    unfold Own at h
    rw [hg] at h
    simp only [Option.some.injEq, Obj.cells.injEq] at h
    exact ht h.2.1.symm
theorem STab.ne (h : STab t w base b most v T) : v.ownBlock ≠ some b := h.head.nelst h.lst h.ty
theorem STab.c0 (h : STab t w base b most v T) : w.cell? ⟨b, 0, none⟩ = some (.int .i64 (most : Int)) := h.head.blk.at 0 rfl
theorem STab.c1 (h : STab t w base b most v T) : w.cell? ⟨b, 1, none⟩ = some v := h.head.blk.at 1 rfl
theorem STab.fz (h : STab t w base b most v T) (i : Nat) : w.frozen? ⟨b, i, none⟩ = false := h.head.blk.fz i
theorem STab.kept (h : STab t w base b most v T) (k : Kept w w') : STab t w' base b most v T := ⟨h.head.kept k, h.lst.kept k, h.few, h.max, h.lo, h.ty⟩
theorem STab.muts {D : List Nat} (h : STab t w base b most v T) (m : Mut D w w') (hb : b ∉ D) (hd : ∀ k, v.ownBlock = some k → k ∉ D) : STab t w' base b most v T := ⟨h.head.muts m hb, h.lst.muts m hd, h.few, h.max, h.lo, h.ty⟩
theorem STab.ltb (h : STab t w base b most v T) : b < w.heap.size := h.head.lt
theorem STab.own (h : STab t w base b most v T) : ∀ k, k ∈ b :: v.ownBlock.toList → base ≤ k ∧ k < w.heap.size := fun k hk => by
  simp at hk
  rcases hk with rfl | hk
  · exact ⟨h.lo, h.ltb⟩
  · exact h.lst.lt k hk
/-- Another list behind the head. -/
theorem STab.turn {t : TypeId} {w w' : World} {base b most : Nat} {v v' : Value} {T T' : List Int} (h : STab t w base b most v T) (o : Own w' b t [.int .i64 (most : Int), v]) (l : Lst w' base v' T') (hf : T'.length ≤ most) : STab t (w'.setCell ⟨b, 1, none⟩ v') base b most v' T' :=
  ⟨by simpa using o.set 1 v', l.muts (D := [b]) ((Mut.refl _ _).setCell (by simp) _) (fun k hk hd => by
    simp at hd
    subst hd
    exact o.nelst l h.ty hk), hf, h.max, h.lo, h.ty⟩
end

set_option maxHeartbeats 800000 in
theorem snew_bad (n : Int) (w : World) (hn : ¬ (0 ≤ n ∧ n ≤ 8)) :
    Calls Try.prog 67 #[.int .i64 n] w fun e w' => e = .returned (.tuple #[.pointer none, .int .i64 1]) ∧ w' = w := by
  by_cases h0 : n < 0
  · clear hn
    go_enter Try.func67, Try.ntmps67
    go_wp2
    go_ret2
    exact ⟨rfl, rfl⟩
  · have h1 : 8 < n := by omega
    clear hn
    go_enter Try.func67, Try.ntmps67
    go_wp2
    go_ret2
    exact ⟨rfl, rfl⟩

set_option maxHeartbeats 800000 in
theorem snew_any (n : Nat) (w : World) (hn : n ≤ 8) {base : Nat} (hb : base ≤ w.heap.size) :
    Calls Try.prog 67 #[.int .i64 n] w fun e w' => ∃ b, e = .returned (.tuple #[.pointer (some ⟨b, 0, none⟩), .int .i64 0]) ∧ STab 111 w' base b n (.slice none 0 0) [] ∧ Kept w w' ∧ w.heap.size ≤ b := by
  have HO : Hid (∀ w' : World, base ≤ w'.heap.size → STab 111 (w'.alloc (.cells #[.int .i64 (n : Int), .slice none 0 0] 111)) base w'.heap.size n (.slice none 0 0) []) := fun w' hb => ⟨Own.new w' [.int .i64 (n : Int), .slice none 0 0] _, Lst.nil _ _, by simp, hn, hb, by decide⟩
  have HK : Hid (base ≤ w.heap.size) := hb
  clear hb
  go_enter Try.func67, Try.ntmps67
  go_wp2
  go_ret2
  exact ⟨_, rfl, HO.out w HK.out, (Kept.refl _).alloc _ _, by omega⟩

set_option maxHeartbeats 400000 in
theorem sroom_any {base b most : Nat} {v : Value} {T : List Int} (w : World) (h : STab 111 w base b most v T) :
    Calls Try.prog 81 #[.pointer (some ⟨b, 0, none⟩)] w fun e w' => e = .returned (.int .i64 ((most : Int) - (T.length : Int))) ∧ Kept w w' := by
  obtain ⟨x, c, rfl⟩ := h.lst.form
  have c0 := h.c0
  have c1 := h.c1
  have h1 := h.few
  have h2 := h.max
  clear h
  go_enter Try.func81, Try.ntmps81
  go_wp2
  go_region
  all_goals go_wp2
  all_goals go_ret
  all_goals exact ⟨by go_num, (Kept.refl _).drew⟩

set_option maxHeartbeats 400000 in
theorem sdrain_any {base b most : Nat} {v : Value} {T : List Int} (w : World) (h : STab 111 w base b most v T) :
    Calls Try.prog 53 #[.pointer (some ⟨b, 0, none⟩)] w fun e w' => e = .returned v ∧ STab 111 w' base b most (.slice none 0 0) [] ∧ Mut [b] w w' := by
  have HT : Hid (STab 111 w base b most v T) := h
  obtain ⟨x, c, rfl⟩ := h.lst.form
  have c1 := h.c1
  have cf := h.fz
  clear h
  go_enter Try.func53, Try.ntmps53
  go_wp2
  go_ret
  exact ⟨rfl, HT.out.turn HT.out.head (Lst.nil _ _) (by simp), (Mut.refl _ _).setCell (by simp) _⟩

set_option maxHeartbeats 1000000 in
theorem sput_no {base b most : Nat} {v : Value} {T : List Int} {x : Option Addr} {c : Nat} {N : List Int} (w : World) (h : STab 111 w base b most v T) (hf : ¬ T.length + N.length ≤ most) :
    Calls Try.prog 82 #[.pointer (some ⟨b, 0, none⟩), .slice x N.length c] w fun e w' => e = .returned (.bool false) ∧ Kept w w' := by
  have h1 := h.few
  have h2 := h.max
  have h3 : (N.length : Int) > (most : Int) - (T.length : Int) := by omega
  have HT : Hid (STab 111 w base b most v T) := h
  clear h hf
  go_enter Try.func82, Try.ntmps82
  go_wp2_with fail
  refine (sroom_any _ HT.out).mono ?_
  rintro e w1 ⟨rfl, k1⟩
  have K1 : Hid (Kept w w1) := k1
  clear k1
  go_wp2
  go_ret
  exact ⟨rfl, K1.out⟩

set_option maxHeartbeats 1000000 in
theorem sput_yes {base b most : Nat} {v : Value} {T : List Int} {x : Option Addr} {c : Nat} {N : List Int} (w : World) (h : STab 111 w base b most v T) (hx : Rdi w x N) (hf : T.length + N.length ≤ most) :
    Calls Try.prog 82 #[.pointer (some ⟨b, 0, none⟩), .slice x N.length c] w fun e w' => e = .returned (.bool true) ∧ ∃ v', STab 111 w' base b most v' (T ++ N) ∧ Mut (b :: v.ownBlock.toList) w w' ∧ Fresh w v v' := by
  have h1 := h.few
  have h2 := h.max
  have h3 : ¬ (N.length : Int) > (most : Int) - (T.length : Int) := by omega
  have HT : Hid (STab 111 w base b most v T ∧ Rdi w x N) := ⟨h, hx⟩
  have HF : Hid (T.length + N.length ≤ most) := hf
  clear h hx hf
  go_enter Try.func82, Try.ntmps82
  go_wp2_with fail
  refine (sroom_any _ HT.out.1).mono ?_
  rintro e w1 ⟨rfl, k1⟩
  have H1 : Hid (STab 111 w1 base b most v T ∧ Rdi w1 x N ∧ Kept w w1) := ⟨HT.out.1.kept k1, HT.out.2.kept k1, k1⟩
  clear k1
  obtain ⟨y, d, rfl⟩ := H1.out.1.lst.form
  have c1 := H1.out.1.c1
  have z1 : base ≤ w1.heap.size := by have := H1.out.1.lo; have := H1.out.1.ltb; omega
  have z2 : T.length + N.length ≤ 1000000 := by have := HF.out; omega
  go_wp2_with (at_builtin; refine wpList_append_lst (T := T) (N := N) rfl _ _ rfl rfl H1.out.1.lst z1 rfl rfl H1.out.2.1 z2 ?_)
  intro v2 w2 l2 m2 f2
  have H2 : Hid (STab 111 (w2.setCell ⟨b, 1, none⟩ v2) base b most v2 (T ++ N) ∧ Mut (b :: (Value.slice y T.length d).ownBlock.toList) w (w2.setCell ⟨b, 1, none⟩ v2) ∧ Fresh w (Value.slice y T.length d) v2) := by
    have q := H1.out.1.ne
    refine ⟨H1.out.1.turn (H1.out.1.head.muts m2 (by simpa using q)) l2 (by simpa using HF.out), ?_, fun k hk => ?_⟩
    · exact (H1.out.2.2.mut.trans (m2.wide fun k hk => by simp at hk ⊢; exact .inr hk)).setCell (by simp) _
    · rcases f2 k hk with e | e
      · exact .inl e
      · exact .inr (by have := H1.out.2.2.size; omega)
  have cf : ∀ i, w2.frozen? ⟨b, i, none⟩ = false := fun i => (H1.out.1.head.muts m2 (by simpa using H1.out.1.ne)).blk.fz i
  have ck : ∃ u, w2.cell? ⟨b, 1, none⟩ = some u := ⟨_, (H1.out.1.head.muts m2 (by simpa using H1.out.1.ne)).blk.at 1 rfl⟩
  obtain ⟨u, ck⟩ := ck
  obtain ⟨y2, d2, e2⟩ := l2.form
  rw [List.length_append] at e2
  subst e2
  clear l2 m2 f2 c1
  go_wp2
  go_ret
  exact ⟨rfl, _, H2.out⟩
end Go.Proofs.Ytahpnnjemjjfhaa
