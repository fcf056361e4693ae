/-
  The document's Pop where there is one.
-/
import Derived.Test.YtfglmnjhnjkiiaaRPile15
namespace Go.Proofs.Ytfglmnjhnjkiiaa
open Go.RowKit

set_option maxHeartbeats 4000000 in
theorem rpop_yes {tp : Addr} {cn : Nat} {base b most : Nat} {v : Value} {T : List Int} {i : Int} {z : Bool} (w : World) (h : RT tp cn w base b most v (T ++ [i]) z) :
    Calls Try.prog 42 #[.pointer (some ⟨b, 0, none⟩)] w fun e w' => e = .returned (.tuple #[.int .i64 i, .bool true]) ∧ ∃ v', RT tp cn w' base b most v' T z ∧ Mut (b :: v.ownBlock.toList) w w' ∧ Fresh w v v' := by
  have HT : Hid (RT tp cn w base b most v (T ++ [i]) z) := h
  have h0 := h.few
  simp only [List.length_append, List.length_singleton] at h0
  have h1 : T.length < 256 := by have := h.max; omega
  obtain ⟨x, c, e⟩ := h.lst.form
  subst e
  obtain ⟨g, rfl, hl, hc, HL', c3⟩ := h.lst.init
  have HL : Hid (Lst w base (.slice (some ⟨g, 0, none⟩) T.length c) T) := HL'
  have H0 : Hid (T.length + 1 ≤ most) := h0
  have c1 := h.r2
  have cf := h.fz
  have hbw := h.ltb
  rw [hl] at c1
  rw [hl] at hc
  clear h hl HL' h0
  have FIN : Hid (∀ (w1 w3 : World) (y : Option Addr) (d : Nat), Kept w w1 → Kept w1 w3 → Lst w3 w1.heap.size (.slice y T.length d) T → RT tp cn (w3.setCell ⟨b, 2, none⟩ (.slice y T.length d)) base b most (.slice y T.length d) T z ∧ Mut (b :: (Value.slice (some ⟨g, 0, none⟩) (T ++ [i]).length c).ownBlock.toList) w (w3.setCell ⟨b, 2, none⟩ (.slice y T.length d)) ∧ Fresh w (.slice (some ⟨g, 0, none⟩) (T ++ [i]).length c) (.slice y T.length d)) := by
    intro w1 w3 y d k1 k3 l3
    have t3 := HT.out.kept (k1.trans k3)
    exact ⟨t3.turn t3.head (l3.low (Nat.le_trans HT.out.base_le k1.size)) (by have := H0.out; omega), (k1.trans k3).mut.setCell (by simp) _, fun k hk => .inr (Nat.le_trans k1.size (l3.lt k hk).1)⟩
  have HX : Hid (∀ u : World, Kept w u → Calls Try.prog 49 #[.slice (some ⟨g, 0, none⟩) T.length c] u fun e w' => ∃ v, e = .returned v ∧ Lst w' u.heap.size v T ∧ Kept u w') := fun u k => copy_any u ((HL.out.kept k).rdi) (by omega)
  have e1 : ((T.length + 1 : Nat) : Int) - 1 = (T.length : Int) := by omega
  have hc0 : ¬ c = 0 := by omega
  generalize hn : T.length = n at *
  have HE : Hid (T.length = n) := hn
  clear hn
  go_enter Try.func42, Try.ntmps42
  go_wp2
  go_region
  go_wp2
  have hwr : IntKind.i64.wrap (n : Int) = (n : Int) := by rw [IntKind.wrap_i64]; omega
  have d1 : w.drew.cell? ⟨b, 2, none⟩ = some (.slice (some ⟨g, 0, none⟩) (n + 1) c) := c1
  have d2 : ∀ k, w.drew.frozen? ⟨b, k, none⟩ = false := cf
  have KD : Hid (Kept w w.drew) := (Kept.refl w).drew
  have hb2 : b < w.drew.heap.size := hbw
  clear c1 c3 cf hbw
  generalize w.drew = w1 at *
  go_region_with (go_at_call 49; refine (HX.out _ KD.out.drew).mono ?_; rintro r w2 ⟨v2, rfl, l2, k2⟩; obtain ⟨y2, d9, ev2⟩ := l2.form; rw [HE.out] at ev2; subst ev2; have b2 := (k2.cell (a := ⟨b, 2, none⟩) hb2).trans d1; have f2 := fun q => (k2.frozen (a := ⟨b, q, none⟩) hb2).trans (d2 q); have HH : Hid (Kept w1.drew w2 ∧ Lst w2 w1.drew.heap.size (.slice y2 n d9) T) := ⟨k2, l2⟩; clear l2 k2)
  all_goals go_wp2
  all_goals go_ret2
  all_goals (rename_i HH; exact ⟨rfl, _, FIN.out _ _ _ _ KD.out.drew HH.out.1 HH.out.2⟩)
end Go.Proofs.Ytfglmnjhnjkiiaa
