/-
  The document's line: Grant.
-/
import Derived.Test.YtjobnlfecochfaaRLine
import Derived.Deep.CutBlock
import Derived.Deep.RegionWith
namespace Go.Proofs.Ytjobnlfecochfaa
open Go.RowKit

set_option maxHeartbeats 1000000 in
theorem rgrant_no {base b : Nat} {v nv : Value} {E : List Ent} {M : List Int} {x : Option Addr} {l c : Nat} {p : Int} (w : World) (h : RTab w base b v nv E M) (hi : idx (fun e => e.st == 0) E = -1) :
    Calls Try.prog 13 #[.pointer (some ⟨b, 0, none⟩), .slice x l c, .int .i64 p] w fun r w' => r = .returned (.bool false) ∧ w' = w := by
  have C := rhead_any w h
  rw [hi] at C
  clear hi h
  go_enter Try.func13, Try.ntmps13
  go_wp2_with fail
  refine C.mono ?_
  rintro r w1 ⟨rfl, rfl⟩
  go_wp2
  go_ret
  exact ⟨rfl, rfl⟩

set_option maxHeartbeats 20000000 in
theorem rgrant_yes {base b : Nat} {v nv : Value} {E : List Ent} {M : List Int} {i : Nat} {x : Option Addr} {c : Nat} {N : List Int} {p : Int} (w : World) (h : RTab w base b v nv E M) (hl : i < E.length) (hi : idx (fun e => e.st == 0) E = (i : Int)) (hx : Rdi w x N) (hN : N.length ≤ 100000) :
    Calls Try.prog 13 #[.pointer (some ⟨b, 0, none⟩), .slice x N.length c, .int .i64 p] w fun r w' => r = .returned (.bool true) ∧ ∃ y d, RTab w' base b v nv (E.set i { E[i] with st := 1, pl := p, gx := y, gc := d, G := N }) M ∧ Mut (b :: v.ownBlock.toList) w w' ∧ ∀ k, k ∈ footR b v nv (E.set i { E[i] with st := 1, pl := p, gx := y, gc := d, G := N }) → k ∈ footR b v nv E ∨ w.heap.size ≤ k := by
  have C := rhead_any w h
  rw [hi] at C
  obtain ⟨g, cap, rfl, _, hg, _⟩ := h.ens.row.here (by omega)
  have hf := h.few
  have HT : Hid (RTab w base b (.slice (some ⟨g, 0, none⟩) E.length cap) nv E M) := h
  have b0 := h.c0
  have e0 : ¬ (i : Int) < 0 := by omega
  have e1 : (i : Int) < (E.length : Int) := by omega
  have hbw := h.ltb
  obtain ⟨-, -, -, c3, -, c5, c6⟩ := h.ens.row.seven hl
  have fz := h.ens.row.fz
  have HX : Hid (∀ w', Kept w w' → Calls Try.prog 30 #[.slice x N.length c] w' fun e w2 => ∃ v, e = .returned v ∧ Lst w2 w'.heap.size v N ∧ Kept w' w2) := fun w' k => copy_any w' (hx.kept k) (by omega)
  have HF : Hid (∀ w2 y d, Kept w w2 → Lst w2 w.heap.size (.slice y N.length d) N → RTab (((w2.setCell ⟨g, i * 7 + 3, none⟩ (.int .i64 1)).setCell ⟨g, i * 7 + 6, none⟩ (.slice y N.length d)).setCell ⟨g, i * 7 + 5, none⟩ (.int .i64 p)) base b (.slice (some ⟨g, 0, none⟩) E.length cap) nv (E.set i { E[i] with st := 1, pl := p, gx := y, gc := d, G := N }) M ∧
      Mut (b :: (Value.slice (some ⟨g, 0, none⟩) E.length cap).ownBlock.toList) w (((w2.setCell ⟨g, i * 7 + 3, none⟩ (.int .i64 1)).setCell ⟨g, i * 7 + 6, none⟩ (.slice y N.length d)).setCell ⟨g, i * 7 + 5, none⟩ (.int .i64 p)) ∧
      ∀ k, k ∈ footR b (.slice (some ⟨g, 0, none⟩) E.length cap) nv (E.set i { E[i] with st := 1, pl := p, gx := y, gc := d, G := N }) → k ∈ footR b (.slice (some ⟨g, 0, none⟩) E.length cap) nv E ∨ w.heap.size ≤ k) := fun w2 y d k2 l2 => by
    have T2 := h.kept k2
    have R1 := T2.set (e' := { E[i] with st := 1 }) hl (j := 3) (u := .int .i64 1) (by omega) rfl (.inl ⟨rfl, rfl⟩)
    have hk' : ∀ k, y.map Addr.block = some k → (Value.slice y N.length d).ownBlock = some k := fun k hk => by
      cases y with
      | none => simp at hk
      | some a => simpa [Value.ownBlock] using hk
    have R2 := R1.set (i := i) (e' := { E[i] with st := 1, gx := y, gc := d, G := N }) (by simpa using hl) (j := 6) (u := .slice y N.length d) (by omega) (by simp [Ent.c7]) (.inr ⟨by
        have q : Mut [g] w2 (w2.setCell ⟨g, i * 7 + 3, none⟩ (.int .i64 1)) := (Mut.refl _ _).setCell (by simp) _
        exact l2.rdi.muts q (fun g' o q => by
          have := (l2.lt g' (by rw [q]; rfl)).1
          simp
          omega), hN, fun k hk => by
        have h1 := l2.lt k (hk' k hk)
        have h2 := T2.lo
        exact ⟨by omega, by simpa using h1.2, by omega, by omega⟩⟩)
    have R3 := R2.set (i := i) (e' := { E[i] with st := 1, pl := p, gx := y, gc := d, G := N }) (by simpa using hl) (j := 5) (u := .int .i64 p) (by omega) (by simp [Ent.c7]) (.inl (by simp))
    simp only [List.set_set] at R3
    refine ⟨R3, ((k2.mut.setCell (by simp [Value.ownBlock]) _).setCell (by simp [Value.ownBlock]) _).setCell (by simp [Value.ownBlock]) _, fun k hk => ?_⟩
    rcases gotsR_set hk with q | q
    · exact .inl q
    · have h1 := l2.lt k (hk' k q)
      exact .inr (by omega)
  clear hi h hx hN
  go_enter Try.func13, Try.ntmps13
  go_wp2_with fail
  refine C.mono ?_
  rintro r w1 ⟨rfl, rfl⟩
  clear C
  go_upto_region 4 with fail
  go_region_with (go_at_call 30; refine (HX.out _ (Kept.refl _).drew).mono ?_; rintro r w2 ⟨v2, rfl, l2, k2⟩; obtain ⟨y2, d2, ev2⟩ := l2.form; subst ev2; have b2 := (k2.cell (a := ⟨b, 0, none⟩) hbw).trans b0; have z3 := (k2.cell (a := ⟨g, i * 7 + 3, none⟩) hg).trans c3; have z5 := (k2.cell (a := ⟨g, i * 7 + 5, none⟩) hg).trans c5; have z6 := (k2.cell (a := ⟨g, i * 7 + 6, none⟩) hg).trans c6; have f2 := fun q => (k2.frozen (a := ⟨g, q, none⟩) hg).trans (fz q); have HH : Hid (Kept w1 w2 ∧ Lst w2 w1.heap.size (.slice y2 N.length d2) N) := ⟨(Kept.refl w1).drew.trans k2, l2⟩; clear l2 k2)
  all_goals go_wp2
  all_goals go_ret
  all_goals (rename_i HH; exact ⟨rfl, _, _, HF.out _ _ _ HH.out.1 HH.out.2⟩)
end Go.Proofs.Ytjobnlfecochfaa
