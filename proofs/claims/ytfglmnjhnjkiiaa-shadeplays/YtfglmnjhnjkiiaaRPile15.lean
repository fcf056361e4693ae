/-
  The document's pile (package sporef13: a shade, its table by its address): Push, Pop.
-/
import Derived.Test.YtfglmnjhnjkiiaaPile15
namespace Go.Proofs.Ytfglmnjhnjkiiaa
open Go.RowKit

/-- The document's shade: its table's address, then as a pile, then its count. -/
abbrev RT (tp : Addr) (cn : Nat) := PTab 39 [.pointer (some tp)] [.int .i64 (cn : Int)]

section
variable {tp : Addr} {cn : Nat} {w : World} {base b most : Nat} {v : Value} {T : List Int} {z : Bool}
theorem PTab.r1 (h : RT tp cn w base b most v T z) : w.cell? ⟨b, 1, none⟩ = some (.int .i64 (most : Int)) := h.head.blk.at 1 rfl
theorem PTab.r2 (h : RT tp cn w base b most v T z) : w.cell? ⟨b, 2, none⟩ = some v := h.head.blk.at 2 rfl
theorem PTab.r3 (h : RT tp cn w base b most v T z) : w.cell? ⟨b, 3, none⟩ = some (.bool z) := h.head.blk.at 3 rfl
end

set_option maxHeartbeats 1000000 in
theorem rpush_no {tp : Addr} {cn : Nat} {base b most : Nat} {v : Value} {T : List Int} {z : Bool} (i : Int) (w : World) (h : RT tp cn w base b most v T z) (hf : T.length = most) :
    Calls Try.prog 38 #[.pointer (some ⟨b, 0, none⟩), .int .i64 i] w fun e w' => e = .returned (.bool false) ∧ RT tp cn w' base b most v T true ∧ Mut [b] w w' := by
  have HT : Hid (RT tp cn w base b most v T z) := h
  obtain ⟨x, c, rfl⟩ := h.lst.form
  have c0 := h.r1
  have c1 := h.r2
  have c2 := h.r3
  have cf := h.fz
  have h2 := h.max
  clear h
  subst hf
  generalize hT : T.length = m at *
  have HE : Hid (T.length = m) := hT
  clear hT
  go_enter Try.func38, Try.ntmps38
  go_wp2
  go_region
  all_goals go_wp2
  all_goals go_ret
  all_goals exact ⟨rfl, (HT.out.kept (Kept.refl _).drew).flag true, ((Mut.refl _ _).drew).setCell (by simp) _⟩

set_option maxHeartbeats 1000000 in
theorem rpush_yes {tp : Addr} {cn : Nat} {base b most : Nat} {v : Value} {T : List Int} {z : Bool} (i : Int) (w : World) (h : RT tp cn w base b most v T z) (hf : T.length < most) :
    Calls Try.prog 38 #[.pointer (some ⟨b, 0, none⟩), .int .i64 i] w fun e w' => e = .returned (.bool true) ∧ ∃ v', RT tp cn w' base b most v' (T ++ [i]) z ∧ Mut (b :: v.ownBlock.toList) w w' ∧ Fresh w v v' := by
  have HT : Hid (RT tp cn w base b most v T z) := h
  obtain ⟨x, c, rfl⟩ := h.lst.form
  have c0 := h.r1
  have c1 := h.r2
  have h2 := h.max
  have HF : Hid (T.length < most) := hf
  have ne : (T.length : Int) < (most : Int) := by omega
  clear h hf
  go_enter Try.func38, Try.ntmps38
  go_wp2
  go_region
  have H1 : Hid (RT tp cn w.drew base b most (.slice x T.length c) T z ∧ Kept w w.drew) := ⟨HT.out.kept (Kept.refl _).drew, (Kept.refl _).drew⟩
  clear c0 c1
  generalize w.drew = w1 at *
  have HA : Hid (RT tp cn (w1.alloc (.cells #[.int .i64 i] 3)) base b most (.slice x T.length c) T z ∧ Kept w (w1.alloc (.cells #[.int .i64 i] 3))) := ⟨H1.out.1.kept ((Kept.refl _).alloc _ _), H1.out.2.alloc _ _⟩
  have HX : Hid (Rdi (w1.alloc (.cells #[.int .i64 i] 3)) (some ⟨w1.heap.size, 0, none⟩) [i]) := rdi_lit w1 [i]
  have c1 := H1.out.1.r2
  have z1 : base ≤ (w1.alloc (.cells #[.int .i64 i] 3)).heap.size := HA.out.1.base_le
  have z2 : T.length + [i].length ≤ 1000000 := by have := HF.out; simp; omega
  clear H1
  go_wp2_with (at_builtin; refine wpList_append_lst (T := T) (N := [i]) rfl _ _ rfl rfl HA.out.1.lst z1 rfl rfl HX.out z2 ?_)
  intro v2 w2 l2 m2 f2
  have O2 : Hid (Own w2 b 39 [.pointer (some tp), .int .i64 (most : Int), .slice x T.length c, .bool z, .int .i64 (cn : Int)]) := HA.out.1.head.muts m2 (by simpa using HA.out.1.ne)
  have H2 : Hid (RT tp cn (w2.setCell ⟨b, 2, none⟩ v2) base b most v2 (T ++ [i]) z ∧ Mut (b :: (Value.slice x T.length c).ownBlock.toList) w (w2.setCell ⟨b, 2, none⟩ v2) ∧ Fresh w (Value.slice x T.length c) v2) := by
    refine ⟨HA.out.1.turn O2.out l2 (by have := HF.out; simp; omega), ?_, fun k hk => ?_⟩
    · exact (HA.out.2.mut.trans (m2.wide fun k hk => by simp at hk ⊢; exact .inr hk)).setCell (by simp) _
    · rcases f2 k hk with e | e
      · exact .inl e
      · exact .inr (by have := HA.out.2.size; omega)
  have cf := O2.out.blk.fz
  have ck := O2.out.blk.at 2 rfl
  obtain ⟨y2, d2, e2⟩ := l2.form
  rw [List.length_append] at e2
  subst e2
  clear l2 m2 f2 c1
  go_wp2
  go_ret
  exact ⟨rfl, _, H2.out⟩

set_option maxHeartbeats 1000000 in
theorem rpop_no {tp : Addr} {cn : Nat} {base b most : Nat} {v : Value} {z : Bool} (w : World) (h : RT tp cn w base b most v [] z) :
    Calls Try.prog 42 #[.pointer (some ⟨b, 0, none⟩)] w fun e w' => e = .returned (.tuple #[.int .i64 0, .bool false]) ∧ w' = w := by
  obtain ⟨x, c, rfl⟩ := h.lst.form
  have c1 := h.r2
  clear h
  go_enter Try.func42, Try.ntmps42
  go_wp2
  go_ret2
  exact ⟨rfl, rfl⟩

theorem lst_empty (w : World) : Lst (w.alloc (.cells #[] 3)) w.heap.size (.slice (some ⟨w.heap.size, 0, none⟩) 0 0) [] := by
  refine ⟨by simp, .inr ⟨w.heap.size, 0, #[], rfl, Nat.le_refl _, heap_alloc_new w _, by simp, by unfold maxLen; omega, by simp, by simp⟩⟩

set_option maxHeartbeats 1000000 in
theorem copy_any {x : Option Addr} {c : Nat} {N : List Int} (w : World) (hx : Rdi w x N) (hn : N.length ≤ 1000000) :
    Calls Try.prog 49 #[.slice x N.length c] w fun e w' => ∃ v, e = .returned v ∧ Lst w' w.heap.size v N ∧ Kept w w' := by
  have HX : Hid (Rdi (w.alloc (.cells #[] 3)) x N) := hx.kept ((Kept.refl w).alloc _ _)
  have HL : Hid _ := lst_empty w
  have z1 : w.heap.size ≤ (w.alloc (.cells #[] 3)).heap.size := by simp
  have z2 : ([] : List Int).length + N.length ≤ 1000000 := by simpa using hn
  clear hx hn
  go_enter Try.func49, Try.ntmps49
  go_wp2_with (at_builtin; refine wpList_append_lst (T := []) (N := N) rfl _ _ rfl rfl HL.out z1 rfl rfl HX.out z2 ?_)
  intro v2 w2 l2 m2 f2
  have H2 : Hid (Lst w2 w.heap.size v2 N ∧ Kept w w2) := ⟨by simpa using l2, ((Kept.refl w).alloc _ _).muts m2 (by simp [Value.ownBlock])⟩
  clear l2 m2 f2 z1 z2
  obtain ⟨y2, d2, rfl⟩ := H2.out.1.form
  go_wp2
  go_ret
  exact ⟨_, rfl, H2.out⟩
end Go.Proofs.Ytfglmnjhnjkiiaa
