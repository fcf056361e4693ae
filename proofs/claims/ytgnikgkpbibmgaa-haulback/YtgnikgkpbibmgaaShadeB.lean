/-
  Contracts of package shade: Table, Grey, Black, Part, Next, Lost, Len, Count, New.
-/
import Derived.Test.YtgnikgkpbibmgaaShade
import Derived.Deep.CutBlock
namespace Go.Proofs.Ytgnikgkpbibmgaa
open Go.RowKit

/-- So often at most. -/
abbrev lots : Nat := 4611686018427387904

section
variable {base b tb g pb : Nat} {v : Value} {S : ShS}
set_option maxHeartbeats 400000 in
theorem stable_any (w : World) (h : ShC w base b tb g pb v S) :
    Calls Try.prog 10 #[.pointer (some ⟨b, 0, none⟩)] w fun e w' => e = .returned (.pointer (some ⟨tb, 0, none⟩)) ∧ w' = w := by
  have c0 := h.c0
  clear h
  go_enter Try.func10, Try.ntmps10
  go_wp2
  go_ret
  exact ⟨rfl, rfl⟩

set_option maxHeartbeats 400000 in
theorem sblack_any (i : Int) (s : Bool) (w : World) (h : ShC w base b tb g pb v S) (hc : S.c < lots) :
    Calls Try.prog 61 #[.pointer (some ⟨b, 0, none⟩), .int .i64 i, .bool s] w fun e w' => e = .returned (.bool (blackB S i s)) ∧ ShC w' base b tb g pb v S.tick ∧ Mut (ShF b tb g pb v) w w' := by
  have H1 : Hid (ShC (w.setCell ⟨b, 2, none⟩ (.int .i64 ((S.c : Int) + 1))) base b tb g pb v S.tick ∧ Mut (ShF b tb g pb v) w (w.setCell ⟨b, 2, none⟩ (.int .i64 ((S.c : Int) + 1)))) := ⟨h.ticks, (Mut.refl _ _).setCell (by simp [ShF]) _⟩
  have c2 := h.c2
  have cf := h.fz
  have d0 := h.ticks.c0
  clear h
  unfold lots at hc
  generalize S.c = c at *
  cases hh : hdd S.n S.T i
  · have e1 : blackB S i s = false := by simp [blackB, hh]
    rw [e1]
    clear e1
    go_enter Try.func61, Try.ntmps61
    go_upto_region 2 with fail
    generalize w.setCell _ _ = w1 at *
    clear c2 cf
    go_wp2_with fail
    refine (head_any i _ H1.out.1.tab).mono ?_
    rintro e w2 ⟨rfl, rfl⟩
    have e0 : hdd S.tick.n S.tick.T i = false := hh
    rw [e0]
    go_wp2
    go_ret
    exact ⟨rfl, H1.out⟩
  · have e1 : blackB S i s = blk S.tick.n S.tick.T i s := by simp [blackB, hh, ShS.tick]
    rw [e1]
    clear e1
    go_enter Try.func61, Try.ntmps61
    go_upto_region 2 with fail
    generalize w.setCell _ _ = w1 at *
    clear c2 cf
    go_wp2_with fail
    refine (head_any i _ H1.out.1.tab).mono ?_
    rintro e w2 ⟨rfl, rfl⟩
    have e0 : hdd S.tick.n S.tick.T i = true := hh
    rw [e0]
    go_wp2_with fail
    refine (black_any i s _ H1.out.1.tab).mono ?_
    rintro e w3 ⟨rfl, rfl⟩
    go_wp2
    go_ret
    exact ⟨rfl, H1.out⟩

end

set_option maxHeartbeats 400000 in
theorem snew_bad (n most : Int) (w : World) (hn : ¬ (0 ≤ n ∧ n ≤ 1024 ∧ 1 ≤ most ∧ most ≤ 256)) (h0 : IntKind.min .i64 ≤ n) (h1 : n ≤ IntKind.max .i64) :
    Calls Try.prog 8 #[.int .i64 n, .int .i64 most] w fun e w' => e = .returned (.tuple #[.pointer none, .int .i64 1]) ∧ Kept w w' := by
  by_cases ht : 0 ≤ n ∧ n ≤ 1024
  · obtain ⟨m, rfl⟩ : ∃ m : Nat, n = m := ⟨n.toNat, by omega⟩
    have HT : Hid (∀ w, _) := fun w => tnew_any m w (by omega)
    have HP : Hid (∀ w, _) := fun w => pnew_bad most w (by omega)
    clear hn ht h0 h1
    go_enter Try.func8, Try.ntmps8
    go_wp2_with fail
    refine (HT.out _).mono ?_
    rintro e w1 ⟨tb, g, rfl, t1, _, _, k1⟩
    have K1 : Hid (Kept w w1) := k1
    clear t1 k1
    go_wp2_with fail
    refine (HP.out _).mono ?_
    rintro e w2 ⟨rfl, rfl⟩
    go_wp2
    go_ret2
    exact ⟨rfl, K1.out⟩
  · have HT : Hid (∀ w, _) := fun w => tnew_bad n w ht
    clear hn ht h0 h1
    go_enter Try.func8, Try.ntmps8
    go_wp2_with fail
    refine (HT.out _).mono ?_
    rintro e w1 ⟨rfl, rfl⟩
    go_wp2
    go_ret2
    exact ⟨rfl, Kept.refl _⟩

set_option maxHeartbeats 1000000 in
theorem snew_any (n most : Nat) (w : World) (hn : n ≤ 1024) (h1 : 1 ≤ (most : Int)) (hm : (most : Int) ≤ 256) {base : Nat} (hb : base ≤ w.heap.size) :
    Calls Try.prog 8 #[.int .i64 n, .int .i64 most] w fun e w' => ∃ b tb g pb v, e = .returned (.tuple #[.pointer (some ⟨b, 0, none⟩), .int .i64 0]) ∧ ShC w' base b tb g pb v (ShS.new n most) ∧ Kept w w' ∧ ∀ k, k ∈ ShF b tb g pb v → w.heap.size ≤ k := by
  have HB : Hid (base ≤ w.heap.size) := hb
  have HT : Hid (∀ w, _) := fun w => tnew_any n w hn
  have HP : Hid (∀ w : World, base ≤ w.heap.size → _) := fun w hb => pnew_any most w h1 hm (base := base) hb
  clear hn hb h1 hm
  go_enter Try.func8, Try.ntmps8
  go_wp2_with fail
  refine (HT.out _).mono ?_
  rintro e w1 ⟨tb, g, rfl, t1, l1, l2, k1⟩
  have H1 : Hid (Tab w1 tb g n T0 ∧ w.heap.size ≤ tb ∧ w.heap.size ≤ g ∧ Kept w w1) := ⟨t1, l1, l2, k1⟩
  clear t1 l1 l2 k1
  go_wp2_with fail
  refine (HP.out _ (Nat.le_trans HB.out H1.out.2.2.2.size)).mono ?_
  rintro e w2 ⟨pb, rfl, p2, k2, l3⟩
  have H2 : Hid (PT w2 base pb most (.slice none 0 0) [] false ∧ w1.heap.size ≤ pb ∧ Kept w1 w2) := ⟨p2, l3, k2⟩
  clear p2 k2 l3
  have HF : Hid (∀ C, Own (w2.alloc (.cells (C : List Value).toArray 70)) w2.heap.size 70 C) := fun C => Own.new _ _ _
  go_wp2
  go_ret2
  have ka : Kept w2 (w2.alloc (.cells #[.pointer (some ⟨tb, 0, none⟩), .pointer (some ⟨pb, 0, none⟩), .int .i64 0] 70)) := (Kept.refl _).alloc _ _
  have s1 := H1.out.2.2.2.size
  have s2 := H2.out.2.2.size
  have s3 := HB.out
  have s4 := H1.out.2.1
  have s5 := H1.out.2.2.1
  have s6 := H2.out.2.1
  refine ⟨w2.heap.size, tb, g, pb, .slice none 0 0, rfl, ⟨HF.out [_, _, _], H1.out.1.kept (H2.out.2.2.trans ka), H2.out.1.kept ka, by omega, by omega, by omega⟩, H1.out.2.2.2.trans (H2.out.2.2.trans ka), fun k hk => ?_⟩
  simp [ShF, Value.ownBlock] at hk
  omega
end Go.Proofs.Ytgnikgkpbibmgaa
