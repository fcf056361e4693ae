/-
  Contracts of package find: where a program begins.
-/
import Derived.Test.YtpdclckgnajcdaaFind3
import Derived.Test.YtpdclckgnajcdaaRow
namespace Go.Proofs.Ytpdclckgnajcdaa
open Go.RowKit

def fd0 (head nth : Int) (arr : Bool) : Fd := ⟨head, nth, arr, 1, head * 8 + 1, 0, 0, 0, false, -1, 0, 0⟩
def Began (n0 n1 : Int) (sl : Nat) (S : Nat → Sh) (R : Nat → Nat → Bool) (E : En) : Prop := E.n0 = n0 ∧ E.n1 = n1 ∧ E.sl = sl ∧ E.S = S ∧ E.R = R
def z21 (head nth : Int) (arr : Bool) : List Value := [.int .i64 0, .int .i64 0, .int .i64 0, .int .i64 0, .int .i64 0, .int .i64 0, .int .i64 0, .int .i64 0, .slice none 0 0, .int .i64 head, .int .i64 nth, .bool arr, .int .i64 0, .int .i64 0, .int .i64 0, .int .i64 0, .int .i64 0, .bool false, .int .i64 (-1), .int .i64 0, .int .i64 0]

set_option maxRecDepth 10000 in
set_option maxHeartbeats 4000000 in
theorem begin_find (n0 n1 n2 n3 n4 n5 n6 n7 : Int) (sx : Option Addr) (sl sc : Nat) (S : Nat → Sh) (R : Nat → Nat → Bool) (head nth : Int) (arr : Bool) (w : World) (hS : Shps w sx sl S) (hR : ∀ i, i < sl → Refs w (S i).x (S i).l (R i)) (hg : Good n0 n1 n2 n3 n4 n5 n6 n7 sl S) (hh : 0 ≤ head ∧ head < n0) :
    Calls Try.prog 72 #[.agg #[.int .i64 n0, .int .i64 n1, .int .i64 n2, .int .i64 n3, .int .i64 n4, .int .i64 n5, .int .i64 n6, .int .i64 n7, .slice sx sl sc], .int .i64 head, .int .i64 nth, .bool arr] w fun e w' => ∃ p E, e = .returned (.pointer (some ⟨p, 0, none⟩)) ∧ FS w' p E (fd0 head nth arr) ∧ w.heap.size ≤ p ∧ Kept w w' ∧ Began n0 n1 sl S R E := by
  have C0 : Hid (∀ w', Kept w w' → Calls Try.prog 84 #[.agg #[.int .i64 n0, .int .i64 n1, .int .i64 n2, .int .i64 n3, .int .i64 n4, .int .i64 n5, .int .i64 n6, .int .i64 n7, .slice sx sl sc], .int .i64 head, .int .i64 1] w' _) := fun w' k => frag_any n0 n1 n2 n3 n4 n5 n6 n7 sx sl sc S head 1 _ _ w' (hS.kept k) (At.is _ ⟨hg, hh, by omega, by omega⟩)
  have C1 : Hid (∀ w', Kept w w' → Calls Try.prog 97 #[.agg #[.int .i64 n0, .int .i64 n1, .int .i64 n2, .int .i64 n3, .int .i64 n4, .int .i64 n5, .int .i64 n6, .int .i64 n7, .slice sx sl sc]] w' _) := fun w' k => copy_any n0 n1 n2 n3 n4 n5 n6 n7 sx sl sc S R w' (by have := hg.2.2.1; omega) (fun i hi => by have := may_few (hg.2.2.2 i hi); omega) (hS.kept k) (fun i hi => (hR i hi).kept k)
  have HG : Hid (Good n0 n1 n2 n3 n4 n5 n6 n7 sl S) := hg
  clear hS hR hg hh
  go_enter Try.func72, Try.ntmps72
  go_wp2_with fail
  generalize hW0 : w.alloc (Obj.cells #[Value.int .i64 n0, .int .i64 n1, .int .i64 n2, .int .i64 n3, .int .i64 n4, .int .i64 n5, .int .i64 n6, .int .i64 n7, .slice sx sl sc] _) = W0
  have b0 : Blk W0 w.heap.size (cl n0 n1 n2 n3 n4 n5 n6 n7 (.slice sx sl sc)) := by rw [← hW0]; exact Blk.new w _ _
  have k0 : Kept w W0 := by rw [← hW0]; exact (Kept.refl w).alloc _ _
  have z0 : W0.heap.size = w.heap.size + 1 := by rw [← hW0]; simp
  clear hW0
  generalize hW1 : W0.alloc _ = W1
  have b1 : Blk W1 (w.heap.size + 1) (z21 head nth arr) := by rw [← hW1, ← z0]; exact Blk.new W0 _ _
  have k1 : Kept W0 W1 := by rw [← hW1]; exact (Kept.refl W0).alloc _ _
  have z1 : W1.heap.size = w.heap.size + 1 + 1 := by rw [← hW1]; simp [z0]
  clear hW1
  refine (C0.out _ (k0.trans k1)).mono ?_
  rintro e w2 ⟨rfl, K2⟩
  have HA : Hid (Blk w2 (w.heap.size + 1) (z21 head nth arr) ∧ Kept w w2 ∧ Blk w2 w.heap.size (cl n0 n1 n2 n3 n4 n5 n6 n7 (.slice sx sl sc)) ∧ w.heap.size + 1 < w2.heap.size) := ⟨b1.kept K2, (k0.trans k1).trans K2, (b0.kept k1).kept K2, by have := K2.size; omega⟩
  clear b0 b1 k0 k1 z0 z1 K2 C0
  have a0 := HA.out.2.2.1.at 0 rfl
  have a1 := HA.out.2.2.1.at 1 rfl
  have a2 := HA.out.2.2.1.at 2 rfl
  have a3 := HA.out.2.2.1.at 3 rfl
  have a4 := HA.out.2.2.1.at 4 rfl
  have a5 := HA.out.2.2.1.at 5 rfl
  have a6 := HA.out.2.2.1.at 6 rfl
  have a7 := HA.out.2.2.1.at 7 rfl
  have a8 := HA.out.2.2.1.at 8 rfl
  go_wp2_with fail
  refine (C1.out _ HA.out.2.1).mono ?_
  rintro e w3 ⟨g, T, rfl, hgg, hrow, hcop, K3⟩
  have HB : Hid (Blk w3 (w.heap.size + 1) (z21 head nth arr) ∧ Kept w w3 ∧ w.heap.size + 1 < g ∧ w3.rowIs g 38 (sl * 2) (cf T) ∧ ∀ i, i < sl → Cop w3 g (S i) (T i) (R i)) := ⟨HA.out.1.kept K3, HA.out.2.1.trans K3, by have := HA.out.2.2.2; omega, hrow, hcop⟩
  clear HA a0 a1 a2 a3 a4 a5 a6 a7 a8 hgg hrow hcop K3 C1
  have c0 := HB.out.1.at 0 rfl
  have c1 := HB.out.1.at 1 rfl
  have c2 := HB.out.1.at 2 rfl
  have c3 := HB.out.1.at 3 rfl
  have c4 := HB.out.1.at 4 rfl
  have c5 := HB.out.1.at 5 rfl
  have c6 := HB.out.1.at 6 rfl
  have c7 := HB.out.1.at 7 rfl
  have c8 := HB.out.1.at 8 rfl
  have c12 := HB.out.1.at 12 rfl
  have c13 := HB.out.1.at 13 rfl
  have fz := HB.out.1.fz
  go_wp2_with fail
  generalize hW4 : (((((((((((w3.setCell _ _).setCell _ _).setCell _ _).setCell _ _).setCell _ _).setCell _ _).setCell _ _).setCell _ _).setCell _ _).setCell _ _).setCell _ _) = W4
  have b4 : Blk W4 (w.heap.size + 1) (fdl ⟨n0, n1, n2, n3, n4, n5, n6, n7, sl, g, S, T, R⟩ (fd0 head nth arr)) := by
    rw [← hW4]
    exact (((((((((((HB.out.1.set (i := 0) rfl _).set (i := 1) rfl _).set (i := 2) rfl _).set (i := 3) rfl _).set (i := 4) rfl _).set (i := 5) rfl _).set (i := 6) rfl _).set (i := 7) rfl _).set (i := 8) rfl _).set (i := 13) rfl _).set (i := 12) rfl _)
  have m4 : Mut [w.heap.size + 1] w3 W4 := by
    rw [← hW4]
    exact ((((((((((((Mut.refl _ _).setCell (by simp) _).setCell (by simp) _).setCell (by simp) _).setCell (by simp) _).setCell (by simp) _).setCell (by simp) _).setCell (by simp) _).setCell (by simp) _).setCell (by simp) _).setCell (by simp) _).setCell (by simp) _)
  have HF : Hid (FS W4 (w.heap.size + 1) ⟨n0, n1, n2, n3, n4, n5, n6, n7, sl, g, S, T, R⟩ (fd0 head nth arr) ∧ Kept w W4) :=
    ⟨⟨b4, m4.row HB.out.2.2.2.1 (by have := HB.out.2.2.1; simp; omega), fun i hi => (HB.out.2.2.2.2 i hi).muts m4 (by have := HB.out.2.2.1; simp; omega), HB.out.2.2.1, HG.out⟩, HB.out.2.1.muts m4 (by simp)⟩
  clear hW4 b4 m4 HB c0 c1 c2 c3 c4 c5 c6 c7 c8 c12 c13 fz
  go_wp2
  go_ret
  exact ⟨_, _, rfl, HF.out.1, by omega, HF.out.2, rfl, rfl, rfl, rfl, rfl⟩

set_option maxHeartbeats 1000000 in
theorem field_new (n0 n1 n2 n3 n4 n5 n6 n7 : Int) (sx : Option Addr) (sl sc : Nat) (S : Nat → Sh) (R : Nat → Nat → Bool) (head nth : Int) (w : World) (hS : Shps w sx sl S) (hR : ∀ i, i < sl → Refs w (S i).x (S i).l (R i)) (hg : Good n0 n1 n2 n3 n4 n5 n6 n7 sl S) (hh : 0 ≤ head ∧ head < n0) :
    Calls Try.prog 29 #[.agg #[.int .i64 n0, .int .i64 n1, .int .i64 n2, .int .i64 n3, .int .i64 n4, .int .i64 n5, .int .i64 n6, .int .i64 n7, .slice sx sl sc], .int .i64 head, .int .i64 nth] w fun e w' => ∃ p E, e = .returned (.pointer (some ⟨p, 0, none⟩)) ∧ FS w' p E (fd0 head nth false) ∧ w.heap.size ≤ p ∧ Kept w w' ∧ Began n0 n1 sl S R E := by
  have C0 : Hid (∀ w', Kept w w' → Calls Try.prog 72 #[.agg #[.int .i64 n0, .int .i64 n1, .int .i64 n2, .int .i64 n3, .int .i64 n4, .int .i64 n5, .int .i64 n6, .int .i64 n7, .slice sx sl sc], .int .i64 head, .int .i64 nth, .bool false] w' _) := fun w' k => begin_find n0 n1 n2 n3 n4 n5 n6 n7 sx sl sc S R head nth false w' (hS.kept k) (fun i hi => (hR i hi).kept k) hg hh
  clear hS hR hg hh
  go_enter Try.func29, Try.ntmps29
  go_wp2_with fail
  refine (C0.out _ ((Kept.refl w).alloc _ _)).mono ?_
  rintro e w' ⟨p, E, rfl, hF, hp, K, hE⟩
  go_wp2
  go_ret
  exact ⟨p, E, rfl, hF, by simp at hp; omega, K.ofAlloc, hE⟩

set_option maxHeartbeats 1000000 in
theorem elem_new (n0 n1 n2 n3 n4 n5 n6 n7 : Int) (sx : Option Addr) (sl sc : Nat) (S : Nat → Sh) (R : Nat → Nat → Bool) (head nth : Int) (w : World) (hS : Shps w sx sl S) (hR : ∀ i, i < sl → Refs w (S i).x (S i).l (R i)) (hg : Good n0 n1 n2 n3 n4 n5 n6 n7 sl S) (hh : 0 ≤ head ∧ head < n0) :
    Calls Try.prog 30 #[.agg #[.int .i64 n0, .int .i64 n1, .int .i64 n2, .int .i64 n3, .int .i64 n4, .int .i64 n5, .int .i64 n6, .int .i64 n7, .slice sx sl sc], .int .i64 head, .int .i64 nth] w fun e w' => ∃ p E, e = .returned (.pointer (some ⟨p, 0, none⟩)) ∧ FS w' p E (fd0 head nth true) ∧ w.heap.size ≤ p ∧ Kept w w' ∧ Began n0 n1 sl S R E := by
  have C0 : Hid (∀ w', Kept w w' → Calls Try.prog 72 #[.agg #[.int .i64 n0, .int .i64 n1, .int .i64 n2, .int .i64 n3, .int .i64 n4, .int .i64 n5, .int .i64 n6, .int .i64 n7, .slice sx sl sc], .int .i64 head, .int .i64 nth, .bool true] w' _) := fun w' k => begin_find n0 n1 n2 n3 n4 n5 n6 n7 sx sl sc S R head nth true w' (hS.kept k) (fun i hi => (hR i hi).kept k) hg hh
  clear hS hR hg hh
  go_enter Try.func30, Try.ntmps30
  go_wp2_with fail
  refine (C0.out _ ((Kept.refl w).alloc _ _)).mono ?_
  rintro e w' ⟨p, E, rfl, hF, hp, K, hE⟩
  go_wp2
  go_ret
  exact ⟨p, E, rfl, hF, by simp at hp; omega, K.ofAlloc, hE⟩

set_option maxHeartbeats 2000000 in
theorem field_step {p b M n c a : Nat} {E : En} {q q' : Fd} {F : Nat → Cx} {z : Cx} (r : Bool) (w : World) (h : FS w p E q) (m : Mm w b M n F c) (hb : b < p) (hM : M < p) (h8 : (q.st == 8) = false) (h0 : (q.st == 0) = false) (hx : q.nx = a) (ha : a < n) (hz : F a = z) (hc : c ≤ 100000) (hsp : q.sp ≤ 1000) (harr : q.arr = false)
    (hG : ∀ w', FS w' p E { q with sp := q.sp + 1 } → Calls Try.prog 76 #[.pointer (some ⟨p, 0, none⟩), .complex .f64 z.re z.im] w' fun e w'' => e = .returned (.tuple #[]) ∧ FS w'' p E q' ∧ Mut [p] w' w'') (hr : (q'.st == 8) = r) :
    Calls Try.prog 32 #[.pointer (some ⟨p, 0, none⟩), .pointer (some ⟨M, 0, none⟩)] w fun e w' => e = .returned (.bool r) ∧ FS w' p E q' ∧ Mm w' b M n F (c + 1) ∧ Mut [p, M] w w' := by
  have C0 : Hid (Calls Try.prog 31 #[.pointer (some ⟨p, 0, none⟩)] w _) := done_is false w h h8
  have hF1 : FS (w.setCell ⟨p, 20, none⟩ (.int .i64 ((q.sp : Int) + 1))) p E { q with sp := q.sp + 1 } := h.put (i := 20) rfl _ rfl
  have hM1 : Mm (w.setCell ⟨p, 20, none⟩ (.int .i64 ((q.sp : Int) + 1))) b M n F c := m.muts (D := [p]) ((Mut.refl _ _).setCell (by simp) _) (by simp; omega) (by simp; omega)
  have C1 : Hid (Calls Try.prog 73 #[.pointer (some ⟨p, 0, none⟩), .pointer (some ⟨M, 0, none⟩)] (w.setCell ⟨p, 20, none⟩ (.int .i64 ((q.sp : Int) + 1))) _) := read_is a _ hF1 h0 hx hM1 ha (by omega)
  have CG : Hid (∀ w', FS w' p E { q with sp := q.sp + 1 } → Calls Try.prog 76 #[.pointer (some ⟨p, 0, none⟩), .complex .f64 z.re z.im] w' _) := hG
  have HW : Hid (FS (w.setCell ⟨p, 20, none⟩ (.int .i64 ((q.sp : Int) + 1))) p E { q with sp := q.sp + 1 } ∧ Mut [p, M] w (w.setCell ⟨p, 20, none⟩ (.int .i64 ((q.sp : Int) + 1)))) := ⟨hF1, (Mut.refl _ _).setCell (by simp) _⟩
  have HN : Hid (b < p ∧ M < p ∧ (q'.st == 8) = r ∧ q.arr = false) := ⟨hb, hM, hr, harr⟩
  have c20 : w.cell? ⟨p, 20, none⟩ = some (.int .i64 (q.sp : Int)) := h.b.at 20 rfl
  have fz := h.b.fz
  rw [hz] at C1
  clear h m hF1 hM1 hG hb hM h8 h0 hx ha hz hc hr harr
  go_enter Try.func32, Try.ntmps32
  go_wp2_with fail
  refine C0.out.mono ?_
  rintro e w1 ⟨rfl, rfl⟩
  go_wp2_with fail
  refine C1.out.mono ?_
  rintro e w2 ⟨rfl, HM2, HU2⟩
  have HF2 : Hid (FS w2 p E { q with sp := q.sp + 1 } ∧ Mut [p, M] w1 w2 ∧ Mm w2 b M n F (c + 1)) := ⟨HW.out.1.muts HU2 (by have := HN.out.2.1; simp; omega), HW.out.2.trans (HU2.wide (by simp)), HM2⟩
  clear C0 C1 HW HM2 HU2 c20 fz
  have c11 : w2.cell? ⟨p, 11, none⟩ = some (.bool false) := by rw [← HN.out.2.2.2]; exact HF2.out.1.b.at 11 rfl
  go_wp2_with fail
  refine (CG.out _ HF2.out.1).mono ?_
  rintro e w3 ⟨rfl, HF3, HU3⟩
  have HF4 : Hid (FS w3 p E q' ∧ Mut [p, M] w1 w3 ∧ Mm w3 b M n F (c + 1)) := ⟨HF3, HF2.out.2.1.trans (HU3.wide (by simp)), HF2.out.2.2.muts HU3 (by have := HN.out.1; simp; omega) (by have := HN.out.2.1; simp; omega)⟩
  clear HF3 HU3 HF2 c11 CG
  go_wp2_with fail
  refine (done_is r _ HF4.out.1 HN.out.2.2.1).mono ?_
  rintro e w4 ⟨rfl, rfl⟩
  go_wp2
  go_ret
  exact ⟨rfl, HF4.out.1, HF4.out.2.2, HF4.out.2.1⟩

set_option maxHeartbeats 2000000 in
theorem elem_step {p b M n c a : Nat} {E : En} {q q' : Fd} {F : Nat → Cx} {z : Cx} (r : Bool) (w : World) (h : FS w p E q) (m : Mm w b M n F c) (hb : b < p) (hM : M < p) (h8 : (q.st == 8) = false) (h0 : (q.st == 0) = false) (hx : q.nx = a) (ha : a < n) (hz : F a = z) (hc : c ≤ 100000) (hsp : q.sp ≤ 1000) (harr : q.arr = true)
    (hG : ∀ w', FS w' p E { q with sp := q.sp + 1 } → Calls Try.prog 75 #[.pointer (some ⟨p, 0, none⟩), .complex .f64 z.re z.im] w' fun e w'' => e = .returned (.tuple #[]) ∧ FS w'' p E q' ∧ Mut [p] w' w'') (hr : (q'.st == 8) = r) :
    Calls Try.prog 32 #[.pointer (some ⟨p, 0, none⟩), .pointer (some ⟨M, 0, none⟩)] w fun e w' => e = .returned (.bool r) ∧ FS w' p E q' ∧ Mm w' b M n F (c + 1) ∧ Mut [p, M] w w' := by
  have C0 : Hid (Calls Try.prog 31 #[.pointer (some ⟨p, 0, none⟩)] w _) := done_is false w h h8
  have hF1 : FS (w.setCell ⟨p, 20, none⟩ (.int .i64 ((q.sp : Int) + 1))) p E { q with sp := q.sp + 1 } := h.put (i := 20) rfl _ rfl
  have hM1 : Mm (w.setCell ⟨p, 20, none⟩ (.int .i64 ((q.sp : Int) + 1))) b M n F c := m.muts (D := [p]) ((Mut.refl _ _).setCell (by simp) _) (by simp; omega) (by simp; omega)
  have C1 : Hid (Calls Try.prog 73 #[.pointer (some ⟨p, 0, none⟩), .pointer (some ⟨M, 0, none⟩)] (w.setCell ⟨p, 20, none⟩ (.int .i64 ((q.sp : Int) + 1))) _) := read_is a _ hF1 h0 hx hM1 ha (by omega)
  have CG : Hid (∀ w', FS w' p E { q with sp := q.sp + 1 } → Calls Try.prog 75 #[.pointer (some ⟨p, 0, none⟩), .complex .f64 z.re z.im] w' _) := hG
  have HW : Hid (FS (w.setCell ⟨p, 20, none⟩ (.int .i64 ((q.sp : Int) + 1))) p E { q with sp := q.sp + 1 } ∧ Mut [p, M] w (w.setCell ⟨p, 20, none⟩ (.int .i64 ((q.sp : Int) + 1)))) := ⟨hF1, (Mut.refl _ _).setCell (by simp) _⟩
  have HN : Hid (b < p ∧ M < p ∧ (q'.st == 8) = r ∧ q.arr = true) := ⟨hb, hM, hr, harr⟩
  have c20 : w.cell? ⟨p, 20, none⟩ = some (.int .i64 (q.sp : Int)) := h.b.at 20 rfl
  have fz := h.b.fz
  rw [hz] at C1
  clear h m hF1 hM1 hG hb hM h8 h0 hx ha hz hc hr harr
  go_enter Try.func32, Try.ntmps32
  go_wp2_with fail
  refine C0.out.mono ?_
  rintro e w1 ⟨rfl, rfl⟩
  go_wp2_with fail
  refine C1.out.mono ?_
  rintro e w2 ⟨rfl, HM2, HU2⟩
  have HF2 : Hid (FS w2 p E { q with sp := q.sp + 1 } ∧ Mut [p, M] w1 w2 ∧ Mm w2 b M n F (c + 1)) := ⟨HW.out.1.muts HU2 (by have := HN.out.2.1; simp; omega), HW.out.2.trans (HU2.wide (by simp)), HM2⟩
  clear C0 C1 HW HM2 HU2 c20 fz
  have c11 : w2.cell? ⟨p, 11, none⟩ = some (.bool true) := by rw [← HN.out.2.2.2]; exact HF2.out.1.b.at 11 rfl
  go_wp2_with fail
  refine (CG.out _ HF2.out.1).mono ?_
  rintro e w3 ⟨rfl, HF3, HU3⟩
  have HF4 : Hid (FS w3 p E q' ∧ Mut [p, M] w1 w3 ∧ Mm w3 b M n F (c + 1)) := ⟨HF3, HF2.out.2.1.trans (HU3.wide (by simp)), HF2.out.2.2.muts HU3 (by have := HN.out.1; simp; omega) (by have := HN.out.2.1; simp; omega)⟩
  clear HF3 HU3 HF2 c11 CG
  go_wp2_with fail
  refine (done_is r _ HF4.out.1 HN.out.2.2.1).mono ?_
  rintro e w4 ⟨rfl, rfl⟩
  go_wp2
  go_ret
  exact ⟨rfl, HF4.out.1, HF4.out.2.2, HF4.out.2.1⟩

end Go.Proofs.Ytpdclckgnajcdaa
