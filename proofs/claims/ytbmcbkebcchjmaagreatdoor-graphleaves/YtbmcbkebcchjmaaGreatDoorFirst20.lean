/-
  The laws' 'first'.
-/
import Derived.Test.YtbmcbkebcchjmaaGreatDoorSemB20
namespace Go.Proofs.YtbmcbkebcchjmaaGreatDoor
open Go.RowKit
attribute [local go_sem] run_store_complex

theorem sum_of {f : Nat → Int} {c : Int} {n : Nat} {ids : List Nat} (h : ids.Perm (List.range n)) (hf : ∀ i, i < n → f i = c) : sumF f ids = c * (n : Int) := by
  rw [sumF_perm f h]
  have : ∀ m, m ≤ n → sumF f (List.range m) = c * (m : Int) := by
    intro m
    induction m with
    | zero => intro _; simp [sumF]
    | succ m ih =>
      intro hm
      rw [List.range_succ, sumF_app, ih (by omega)]
      simp only [sumF, hf m (by omega)]
      rw [Int.natCast_add, Int.mul_add]
      simp
  exact this n (Nat.le_refl _)
theorem rch_none {sc : Nat → Option Nat} {x : Nat} : ¬ Rch [] sc x := fun h => by
  induction h with
  | root r hr => simp at hr
  | step x y _ _ ih => exact ih
theorem ids_nil {sc : Nat → Option Nat} {ids : List Nat} (h : ∀ x, x ∈ ids ↔ Rch [] sc x) : ids = [] := by
  cases ids with
  | nil => rfl
  | cons a l => exact absurd ((h a).1 (by simp)) rch_none
theorem rch_one {x : Nat} : Rch [0] (fun _ => none) x ↔ x < 1 := by
  constructor
  · intro h
    cases h with
    | root r hr => have : x = 0 := by simpa using hr
                   omega
    | step x y _ e => cases e
  · intro h
    obtain rfl : x = 0 := by omega
    exact .root 0 (by simp)
theorem GS.apart {C : Cf} {base p : Nat} {F : List Nat} {S : Pg} {w w' : World} (h : GS C base p F S w) {F' : List Nat} (g : Grow F F' w w') {a : World} (k : Kept a w) (hb : a.heap.size ≤ base) : Kept a w' :=
  k.muts g.muta fun q hq => Nat.le_trans hb (h.ge q hq).1

def opv (k : Nat) : OP := ⟨k, 0, 0, 0, 0, 0, 0⟩
theorem names_0 {C : Cf} {k : Nat} {o : OP} (ha : 0 ≤ o.a ∧ o.a < C.n4) (hl : ∀ l ∈ lts k, l = 65 ∨ l = 75) : ∀ l ∈ lts k, Names C o l := fun l hm => by
  rcases hl l hm with rfl | rfl
  · exact ⟨fun _ => ha, fun e => absurd e (by decide)⟩
  · exact ⟨fun e => absurd e (by decide), fun e => absurd e (by decide)⟩
theorem does_new1 : Does C1 ⟨[], some [zerV], []⟩ (opv 1) (refV 0) ⟨[⟨0, 0, none⟩], some [refV 0], []⟩ :=
  does_new C1.ok (S := ⟨[], some [zerV], []⟩) (o := opv 1) (vs := [zerV]) rfl rfl (names_0 (by decide) (by decide)) (kd := 0) ⟨rfl, by decide, .inl ⟨rfl, rfl⟩, by decide, by decide, by decide⟩ (j := 0) (by decide) rfl (by decide)
theorem does_clear1 : Does C1 ⟨[⟨0, 0, none⟩], some [refV 0], []⟩ (opv 13) noneV ⟨[⟨0, 0, none⟩], some [noneV], []⟩ :=
  does_clear C1.ok (S := ⟨[⟨0, 0, none⟩], some [refV 0], []⟩) (o := opv 13) (vs := [refV 0]) rfl rfl (names_0 (by decide) (by decide)) (j := 0) (by decide) rfl

set_option maxHeartbeats 4000000 in
set_option maxRecDepth 10000 in
theorem first_any {w : World} (hv : Vs w) : Calls Tryz.prog 5 #[] w fun e w' => e = .returned (.bool true) ∧ Kept w w' := by
  have HV : Hid (Vs w) := hv
  clear hv
  go_enter Tryz.func5, Tryz.ntmps5
  go_wp2_with fail
  generalize hW1 : (w.alloc _).alloc _ = W1
  have K1 : Hid (Kept w W1) := by rw [← hW1]; exact ((Kept.refl w).alloc _ _).alloc _ _
  have B1 : Hid (Blk W1 w.heap.size [.bool false, .slice none 0 0]) := by rw [← hW1]; exact (Blk.new w [.bool false, .slice none 0 0] _).kept ((Kept.refl _).alloc _ _)
  clear hW1
  have HCM : Hid (CM C1 W1 (some ⟨w.heap.size, 0, none⟩) (fun _ => ⟨false, none, 0, 0⟩)) := ⟨fun _ => ⟨_, 0, rfl, B1.out.lt, fun i hi => by
    obtain rfl : i = 0 := by have : i < 1 := hi; omega
    exact ⟨B1.out.at 0 rfl, B1.out.at 1 rfl⟩⟩, fun i hi h0 => absurd h0 (by decide), fun i hi => rfl, fun i hi => rfl⟩
  have HN : Hid (Calls Tryz.prog 7 #[C1.val (.slice (some ⟨w.heap.size, 0, none⟩) 1 1)] W1 fun e w' => ∃ p F, e = .returned (.tuple #[.pointer (some ⟨p, 0, none⟩), .int .i64 0]) ∧ GS C1 W1.heap.size p F ⟨[], none, []⟩ w' ∧ Kept W1 w') := gs_new C1.ok W1 HCM.out (HV.out.keep K1.out) (n := 0) rfl (.inl rfl)
  refine HN.out.mono ?_
  rintro e w2 ⟨p, F, rfl, g2, k2⟩
  have HB : Hid (w.heap.size ≤ W1.heap.size) := K1.out.size
  have G2 : Hid (GS C1 W1.heap.size p F ⟨[], none, []⟩ w2 ∧ Kept w w2) := ⟨g2, K1.out.trans k2⟩
  clear g2 k2 HN HCM B1
  go_wp2_with fail
  have HJ : Hid (Calls Tryz.prog 8 #[.pointer (some ⟨p, 0, none⟩), .int .i64 0] w2 fun e w' => e = .returned (.bool true) ∧ ∃ F', GS C1 W1.heap.size p F' ⟨[], some [zerV], []⟩ w' ∧ Grow F F' w2 w') := gs_join G2.out.1 C1.ok rfl (n := 1) rfl (.inl rfl)
  refine HJ.out.mono ?_
  rintro e w3 ⟨rfl, F3, g3, r3⟩
  have G3 : Hid (GS C1 W1.heap.size p F3 ⟨[], some [zerV], []⟩ w3 ∧ Kept w w3) := ⟨g3, G2.out.1.apart r3 G2.out.2 HB.out⟩
  clear HJ G2 g3 r3
  go_wp2_with fail
  have HD : Hid (Calls Tryz.prog 17 #[.pointer (some ⟨p, 0, none⟩), .int .i64 0, .agg #[.int .i64 1, .int .i64 0, .int .i64 0, .int .i64 0, .int .i64 0, .complex .f64 0 0], .bool false] w3 fun e w' => e = .returned (.tuple #[.agg #[.bool true, .complex .f64 (refV 0).x (refV 0).y], .int .i64 0]) ∧ ∃ F', GS C1 W1.heap.size p F' ⟨[⟨0, 0, none⟩], some [refV 0], []⟩ w' ∧ Grow F3 F' w3 w') := does_new1 _ _ _ _ G3.out.1
  refine HD.out.mono ?_
  rintro e w4 ⟨rfl, F4, g4, r4⟩
  have G4 : Hid (GS C1 W1.heap.size p F4 ⟨[⟨0, 0, none⟩], some [refV 0], []⟩ w4 ∧ Kept w w4) := ⟨g4, G3.out.1.apart r4 G3.out.2 HB.out⟩
  clear HD G3 g4 r4
  generalize (refV 0).x = fx
  generalize (refV 0).y = fy
  go_wp2_with fail
  generalize hW5 : w4.alloc _ = W5
  have BV : Hid (Blk W5 w4.heap.size [.bool true, .complex .f64 fx fy]) := by rw [← hW5]; exact Blk.new w4 _ _
  have K5 : Hid (Kept w4 W5) := by rw [← hW5]; exact (Kept.refl _).alloc _ _
  clear hW5
  have NV : Hid (w4.heap.size ∉ F4) := fun q => absurd (G4.out.1.ge _ q).2 (by omega)
  have G5 : Hid (GS C1 W1.heap.size p F4 ⟨[⟨0, 0, none⟩], some [refV 0], []⟩ W5 ∧ Kept w W5) := ⟨G4.out.1.kept K5.out, G4.out.2.trans K5.out⟩
  have HL : Hid (Calls Tryz.prog 10 #[.pointer (some ⟨p, 0, none⟩)] W5 fun e w' => e = .returned (.tuple #[.int .i64 1, .int .i64 0]) ∧ Kept W5 w') := by
    refine (gs_live G5.out.1 C1.ok (vs := [refV 0]) rfl (tg := []) (tl := [some 0]) ⟨rfl, fun k h => absurd h (by simp)⟩ ⟨rfl, fun k h h' => by
      obtain rfl : k = 0 := by have : k < 1 := h; omega
      exact Kd.ref 0 (by decide)⟩ (by decide) (by decide) (fun _ => none) (fun i t e => .inl ⟨by
        cases i with
        | zero => simp at e; rw [← e]
        | succ i => simp at e, rfl⟩) (by simp) (by simp) (fun i t e _ => by
        cases i with
        | zero => simp at e; rw [← e]
        | succ i => simp at e)).mono ?_
    rintro e w' ⟨ids, rfl, hn, hi, k⟩
    have hp := all_perm (n := 1) hn fun x => (hi x).trans rch_one
    rw [sum_of hp (c := 1) (fun i hi => by obtain rfl : i = 0 := by omega
                                           rfl), sum_of hp (c := 0) (fun i hi => by obtain rfl : i = 0 := by omega
                                                                                    rfl)]
    exact ⟨rfl, k⟩
  refine HL.out.mono ?_
  rintro e w6 ⟨rfl, k6⟩
  have G6 : Hid (GS C1 W1.heap.size p F4 ⟨[⟨0, 0, none⟩], some [refV 0], []⟩ w6 ∧ Kept w w6) := ⟨G5.out.1.kept k6, G5.out.2.trans k6⟩
  have BV6 : Hid (Blk w6 w4.heap.size [.bool true, .complex .f64 fx fy]) := BV.out.kept k6
  clear HL G4 G5 BV K5 k6
  go_wp2_with fail
  have HD : Hid (Calls Tryz.prog 17 #[.pointer (some ⟨p, 0, none⟩), .int .i64 0, .agg #[.int .i64 13, .int .i64 0, .int .i64 0, .int .i64 0, .int .i64 0, .complex .f64 0 0], .bool false] w6 fun e w' => e = .returned (.tuple #[.agg #[.bool true, .complex .f64 noneV.x noneV.y], .int .i64 0]) ∧ ∃ F', GS C1 W1.heap.size p F' ⟨[⟨0, 0, none⟩], some [noneV], []⟩ w' ∧ Grow F4 F' w6 w') := does_clear1 _ _ _ _ G6.out.1
  refine HD.out.mono ?_
  rintro e w7 ⟨rfl, F7, g7, r7⟩
  have G7 : Hid (GS C1 W1.heap.size p F7 ⟨[⟨0, 0, none⟩], some [noneV], []⟩ w7 ∧ Kept w w7) := ⟨g7, G6.out.1.apart r7 G6.out.2 HB.out⟩
  have BV7 : Hid (Blk w7 w4.heap.size [.bool true, .complex .f64 fx fy]) := r7.blk BV6.out NV.out
  clear HD G6 g7 r7 BV6
  go_wp2_with fail
  generalize hW8 : w7.alloc _ = W8
  have K8 : Hid (Kept w7 W8) := by rw [← hW8]; exact (Kept.refl _).alloc _ _
  clear hW8
  have G8 : Hid (GS C1 W1.heap.size p F7 ⟨[⟨0, 0, none⟩], some [noneV], []⟩ W8 ∧ Kept w W8) := ⟨G7.out.1.kept K8.out, G7.out.2.trans K8.out⟩
  have BV8 : Hid (Blk W8 w4.heap.size [.bool true, .complex .f64 fx fy]) := BV7.out.kept K8.out
  have HL : Hid (Calls Tryz.prog 10 #[.pointer (some ⟨p, 0, none⟩)] W8 fun e w' => e = .returned (.tuple #[.int .i64 0, .int .i64 0]) ∧ Kept W8 w') := by
    refine (gs_live G8.out.1 C1.ok (vs := [noneV]) rfl (tg := []) (tl := [none]) ⟨rfl, fun k h => absurd h (by simp)⟩ ⟨rfl, fun k h h' => by
      obtain rfl : k = 0 := by have : k < 1 := h; omega
      exact Kd.none⟩ (by decide) (by decide) (fun _ => none) (fun i t e => .inl ⟨by
        cases i with
        | zero => simp at e; rw [← e]
        | succ i => simp at e, rfl⟩) (by simp) (by simp) (fun i t e _ => by
        cases i with
        | zero => simp at e; rw [← e]
        | succ i => simp at e)).mono ?_
    rintro e w' ⟨ids, rfl, hn, hi, k⟩
    rw [ids_nil hi]
    exact ⟨rfl, k⟩
  refine HL.out.mono ?_
  rintro e w9 ⟨rfl, k9⟩
  have G9 : Hid (GS C1 W1.heap.size p F7 ⟨[⟨0, 0, none⟩], some [noneV], []⟩ w9 ∧ Kept w w9) := ⟨G8.out.1.kept k9, G8.out.2.trans k9⟩
  have BV9 : Hid (Blk w9 w4.heap.size [.bool true, .complex .f64 fx fy]) := BV8.out.kept k9
  clear HL G7 G8 BV7 BV8 K8 k9
  have c0 := BV9.out.at 0 rfl
  go_wp2_with fail
  have HE : Hid (Calls Tryz.prog 18 #[.pointer (some ⟨p, 0, none⟩)] w9 fun e w' => e = .returned (.int .i64 1) ∧ w' = w9) := gs_len G9.out.1
  refine HE.out.mono ?_
  rintro e w10 ⟨rfl, e10⟩
  rw [e10]
  clear e10 HE
  go_wp2_with fail
  go_ret
  exact ⟨rfl, G9.out.2⟩
end Go.Proofs.YtbmcbkebcchjmaaGreatDoor
