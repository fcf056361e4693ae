/-
  Where a program of package haul begins.
-/
import Derived.Test.YtgnikgkpbibmgaaHaI
namespace Go.Proofs.Ytgnikgkpbibmgaa
open Go.RowKit

theorem may_len {s : Sh} (h : s.may = true) : (s.arr = false → s.l ≤ 40) ∧ (s.arr = true → s.l = 1) := by
  obtain ⟨b, x, l, c⟩ := s
  cases b
  · simp [Sh.may] at h; simp; omega
  · simp [Sh.may] at h; simp; omega
theorem may_few {s : Sh} (h : s.may = true) : s.l ≤ 40 := by
  have := may_len h
  cases hb : s.arr
  · exact this.1 hb
  · have := this.2 hb; omega
def Began (n0 n1 : Int) (E : En) : Prop := E.n0 = n0 ∧ E.n1 = n1
def z23 (fr en : Int) (sen : Bool) : List Value := [.int .i64 0, .int .i64 0, .int .i64 0, .int .i64 0, .int .i64 0, .int .i64 0, .int .i64 0, .int .i64 0, .slice none 0 0, .int .i64 fr, .int .i64 en, .bool sen, .int .i64 0, .int .i64 0, .int .i64 0, .int .i64 0, .bool false, .int .i64 0, .complex .f64 0 0, .int .i64 0, .int .i64 0, .int .i64 0, .int .i64 0]

set_option maxRecDepth 10000 in
set_option maxHeartbeats 4000000 in
theorem hnew_some (n0 n1 n2 n3 n4 n5 n6 n7 : Int) (sx : Option Addr) (sl sc : Nat) (S : Nat → Sh) (R : Nat → Nat → Bool) (fr en : Int) (sen : Bool) (w : World) (hS : Shps w sx sl S) (hR : ∀ i, i < sl → Refs w (S i).x (S i).l (R i)) (hg : Good n0 n1 n2 n3 n4 n5 n6 n7 sl S) (hf : fr = 0 ∨ fr = 1) (he : 0 ≤ en ∧ en ≤ n1) (hq : (en == 0) = false) :
    Calls Try.prog 17 #[.agg #[.int .i64 n0, .int .i64 n1, .int .i64 n2, .int .i64 n3, .int .i64 n4, .int .i64 n5, .int .i64 n6, .int .i64 n7, .slice sx sl sc], .int .i64 fr, .int .i64 en, .bool sen] w fun e w' => ∃ p E, e = .returned (.pointer (some ⟨p, 0, none⟩)) ∧ HS w' p E ⟨fr, en, sen, 0, 0, 0, 0, false, 0, cz, 1, 0, 0, 0⟩ ∧ w.heap.size ≤ p ∧ Kept w w' ∧ Began n0 n1 E := by
  have C0 : Hid (∀ w', Kept w w' → Calls Try.prog 43 #[.agg #[.int .i64 n0, .int .i64 n1, .int .i64 n2, .int .i64 n3, .int .i64 n4, .int .i64 n5, .int .i64 n6, .int .i64 n7, .slice sx sl sc]] w' _) := fun w' k => check_any n0 n1 n2 n3 n4 n5 n6 n7 sx sl sc S 0 w' (hS.kept k) (Checks.of_ok hg.1 hg.2)
  have C1 : Hid (∀ w', Kept w w' → Calls Try.prog 44 #[.agg #[.int .i64 n0, .int .i64 n1, .int .i64 n2, .int .i64 n3, .int .i64 n4, .int .i64 n5, .int .i64 n6, .int .i64 n7, .slice sx sl sc]] w' _) := fun w' k => copy_any n0 n1 n2 n3 n4 n5 n6 n7 sx sl sc S R w' (by have := hg.2.2.1; omega) (fun i hi => by have := may_few (hg.2.2.2 i hi); omega) (hS.kept k) (fun i hi => (hR i hi).kept k)
  have HG : Hid (Good n0 n1 n2 n3 n4 n5 n6 n7 sl S) := hg
  have e1 : decide (en < 0) = false := by simpa using he.1
  have e2 : decide (en > n1) = false := by simpa using he.2
  have e3 : decide (n1 < en) = false := by simpa using he.2
  clear hS hR hg he
  rcases hf with rfl | rfl
  · go_enter Try.func17, Try.ntmps17
    go_wp2_with fail
    generalize hW0 : w.alloc (Obj.cells #[Value.int .i64 n0, .int .i64 n1, .int .i64 n2, .int .i64 n3, .int .i64 n4, .int .i64 n5, .int .i64 n6, .int .i64 n7, .slice sx sl sc] _) = W0
    have b0 : Blk W0 w.heap.size (cl n0 n1 n2 n3 n4 n5 n6 n7 (.slice sx sl sc)) := by rw [← hW0]; exact Blk.new w _ _
    have k0 : Kept w W0 := by rw [← hW0]; exact (Kept.refl w).alloc _ _
    have z0 : W0.heap.size = w.heap.size + 1 := by rw [← hW0]; simp
    clear hW0
    generalize hW1 : W0.alloc _ = W1
    have b1 : Blk W1 (w.heap.size + 1) (z23 0 en sen) := by rw [← hW1, ← z0]; exact Blk.new W0 _ _
    have k1 : Kept W0 W1 := by rw [← hW1]; exact (Kept.refl W0).alloc _ _
    have z1 : W1.heap.size = w.heap.size + 1 + 1 := by rw [← hW1]; simp [z0]
    clear hW1
    refine (C0.out _ (k0.trans k1)).mono ?_
    rintro e w2 ⟨rfl, K2⟩
    have HA : Hid (Blk w2 (w.heap.size + 1) (z23 0 en sen) ∧ Kept w w2 ∧ Blk w2 w.heap.size (cl n0 n1 n2 n3 n4 n5 n6 n7 (.slice sx sl sc)) ∧ w.heap.size + 1 < w2.heap.size) := ⟨b1.kept K2, (k0.trans k1).trans K2, (b0.kept k1).kept K2, by have := K2.size; omega⟩
    clear b0 b1 k0 k1 z0 z1 K2 C0
    have a0 := HA.out.2.2.1.at 0 rfl
    have a1 := HA.out.2.2.1.at 1 rfl
    have a2 := HA.out.2.2.1.at 2 rfl
    have a3 := HA.out.2.2.1.at 3 rfl
    have a4 := HA.out.2.2.1.at 4 rfl
    have a5 := HA.out.2.2.1.at 5 rfl
    have a6 := HA.out.2.2.1.at 6 rfl
    have a7 := HA.out.2.2.1.at 7 rfl
    have a8 := HA.out.2.2.1.at 8 rfl
    go_wp2_with fail
    refine (C1.out _ HA.out.2.1).mono ?_
    rintro e w3 ⟨g, T, rfl, hgg, hrow, hcop, K3⟩
    have HB : Hid (Blk w3 (w.heap.size + 1) (z23 0 en sen) ∧ Kept w w3 ∧ w.heap.size + 1 < g ∧ w3.rowIs g 26 (sl * 2) (cf T) ∧ ∀ i, i < sl → Cop w3 g (S i) (T i) (R i)) := ⟨HA.out.1.kept K3, HA.out.2.1.trans K3, by have := HA.out.2.2.2; omega, hrow, hcop⟩
    clear HA a0 a1 a2 a3 a4 a5 a6 a7 a8 hgg hrow hcop K3 C1
    have c0 := HB.out.1.at 0 rfl
    have c1 := HB.out.1.at 1 rfl
    have c2 := HB.out.1.at 2 rfl
    have c3 := HB.out.1.at 3 rfl
    have c4 := HB.out.1.at 4 rfl
    have c5 := HB.out.1.at 5 rfl
    have c6 := HB.out.1.at 6 rfl
    have c7 := HB.out.1.at 7 rfl
    have c8 := HB.out.1.at 8 rfl
    have c19 := HB.out.1.at 19 rfl
    have fz := HB.out.1.fz
    have HF : Hid (∀ W4, Blk W4 (w.heap.size + 1) (hdl ⟨n0, n1, n2, n3, n4, n5, n6, n7, sl, g, S, T, R⟩ ⟨0, en, sen, 0, 0, 0, 0, false, 0, cz, 1, 0, 0, 0⟩) → Mut [w.heap.size + 1] w3 W4 → HS W4 (w.heap.size + 1) ⟨n0, n1, n2, n3, n4, n5, n6, n7, sl, g, S, T, R⟩ ⟨0, en, sen, 0, 0, 0, 0, false, 0, cz, 1, 0, 0, 0⟩ ∧ Kept w W4) := fun W4 b4 m4 =>
      ⟨⟨b4, m4.row HB.out.2.2.2.1 (by have := HB.out.2.2.1; simp; omega), fun i hi => cop_muts (HB.out.2.2.2.2 i hi) m4 (fun y _ _ hy => by have h1 := HB.out.2.2.1; have h2 : g < y := hy; simp; omega), HB.out.2.2.1, HG.out⟩, HB.out.2.1.muts m4 (by simp)⟩
    have HB1 : Hid (∀ v, Blk w3 (w.heap.size + 1) v → v = z23 0 en sen → Blk w3 (w.heap.size + 1) (z23 0 en sen)) := fun v h e => e ▸ h
    have c10 := HB.out.1.at 10 rfl
    go_wp2
    go_ret
    have HZ := HF.out _ (((((((((((HB.out.1.set (i := 0) rfl _).set (i := 1) rfl _).set (i := 2) rfl _).set (i := 3) rfl _).set (i := 4) rfl _).set (i := 5) rfl _).set (i := 6) rfl _).set (i := 7) rfl _).set (i := 8) rfl _).set (i := 19) rfl _)) ((((((((((((Mut.refl _ _).setCell (by simp) _).setCell (by simp) _).setCell (by simp) _).setCell (by simp) _).setCell (by simp) _).setCell (by simp) _).setCell (by simp) _).setCell (by simp) _).setCell (by simp) _).setCell (by simp) _))
    exact ⟨_, _, rfl, HZ.1, by omega, HZ.2, rfl, rfl⟩
  · go_enter Try.func17, Try.ntmps17
    go_wp2_with fail
    generalize hW0 : w.alloc (Obj.cells #[Value.int .i64 n0, .int .i64 n1, .int .i64 n2, .int .i64 n3, .int .i64 n4, .int .i64 n5, .int .i64 n6, .int .i64 n7, .slice sx sl sc] _) = W0
    have b0 : Blk W0 w.heap.size (cl n0 n1 n2 n3 n4 n5 n6 n7 (.slice sx sl sc)) := by rw [← hW0]; exact Blk.new w _ _
    have k0 : Kept w W0 := by rw [← hW0]; exact (Kept.refl w).alloc _ _
    have z0 : W0.heap.size = w.heap.size + 1 := by rw [← hW0]; simp
    clear hW0
    generalize hW1 : W0.alloc _ = W1
    have b1 : Blk W1 (w.heap.size + 1) (z23 1 en sen) := by rw [← hW1, ← z0]; exact Blk.new W0 _ _
    have k1 : Kept W0 W1 := by rw [← hW1]; exact (Kept.refl W0).alloc _ _
    have z1 : W1.heap.size = w.heap.size + 1 + 1 := by rw [← hW1]; simp [z0]
    clear hW1
    refine (C0.out _ (k0.trans k1)).mono ?_
    rintro e w2 ⟨rfl, K2⟩
    have HA : Hid (Blk w2 (w.heap.size + 1) (z23 1 en sen) ∧ Kept w w2 ∧ Blk w2 w.heap.size (cl n0 n1 n2 n3 n4 n5 n6 n7 (.slice sx sl sc)) ∧ w.heap.size + 1 < w2.heap.size) := ⟨b1.kept K2, (k0.trans k1).trans K2, (b0.kept k1).kept K2, by have := K2.size; omega⟩
    clear b0 b1 k0 k1 z0 z1 K2 C0
    have a0 := HA.out.2.2.1.at 0 rfl
    have a1 := HA.out.2.2.1.at 1 rfl
    have a2 := HA.out.2.2.1.at 2 rfl
    have a3 := HA.out.2.2.1.at 3 rfl
    have a4 := HA.out.2.2.1.at 4 rfl
    have a5 := HA.out.2.2.1.at 5 rfl
    have a6 := HA.out.2.2.1.at 6 rfl
    have a7 := HA.out.2.2.1.at 7 rfl
    have a8 := HA.out.2.2.1.at 8 rfl
    go_wp2_with fail
    refine (C1.out _ HA.out.2.1).mono ?_
    rintro e w3 ⟨g, T, rfl, hgg, hrow, hcop, K3⟩
    have HB : Hid (Blk w3 (w.heap.size + 1) (z23 1 en sen) ∧ Kept w w3 ∧ w.heap.size + 1 < g ∧ w3.rowIs g 26 (sl * 2) (cf T) ∧ ∀ i, i < sl → Cop w3 g (S i) (T i) (R i)) := ⟨HA.out.1.kept K3, HA.out.2.1.trans K3, by have := HA.out.2.2.2; omega, hrow, hcop⟩
    clear HA a0 a1 a2 a3 a4 a5 a6 a7 a8 hgg hrow hcop K3 C1
    have c0 := HB.out.1.at 0 rfl
    have c1 := HB.out.1.at 1 rfl
    have c2 := HB.out.1.at 2 rfl
    have c3 := HB.out.1.at 3 rfl
    have c4 := HB.out.1.at 4 rfl
    have c5 := HB.out.1.at 5 rfl
    have c6 := HB.out.1.at 6 rfl
    have c7 := HB.out.1.at 7 rfl
    have c8 := HB.out.1.at 8 rfl
    have c19 := HB.out.1.at 19 rfl
    have fz := HB.out.1.fz
    have HF : Hid (∀ W4, Blk W4 (w.heap.size + 1) (hdl ⟨n0, n1, n2, n3, n4, n5, n6, n7, sl, g, S, T, R⟩ ⟨1, en, sen, 0, 0, 0, 0, false, 0, cz, 1, 0, 0, 0⟩) → Mut [w.heap.size + 1] w3 W4 → HS W4 (w.heap.size + 1) ⟨n0, n1, n2, n3, n4, n5, n6, n7, sl, g, S, T, R⟩ ⟨1, en, sen, 0, 0, 0, 0, false, 0, cz, 1, 0, 0, 0⟩ ∧ Kept w W4) := fun W4 b4 m4 =>
      ⟨⟨b4, m4.row HB.out.2.2.2.1 (by have := HB.out.2.2.1; simp; omega), fun i hi => cop_muts (HB.out.2.2.2.2 i hi) m4 (fun y _ _ hy => by have h1 := HB.out.2.2.1; have h2 : g < y := hy; simp; omega), HB.out.2.2.1, HG.out⟩, HB.out.2.1.muts m4 (by simp)⟩
    have HB1 : Hid (∀ v, Blk w3 (w.heap.size + 1) v → v = z23 1 en sen → Blk w3 (w.heap.size + 1) (z23 1 en sen)) := fun v h e => e ▸ h
    have c10 := HB.out.1.at 10 rfl
    go_wp2
    go_ret
    have HZ := HF.out _ (((((((((((HB.out.1.set (i := 0) rfl _).set (i := 1) rfl _).set (i := 2) rfl _).set (i := 3) rfl _).set (i := 4) rfl _).set (i := 5) rfl _).set (i := 6) rfl _).set (i := 7) rfl _).set (i := 8) rfl _).set (i := 19) rfl _)) ((((((((((((Mut.refl _ _).setCell (by simp) _).setCell (by simp) _).setCell (by simp) _).setCell (by simp) _).setCell (by simp) _).setCell (by simp) _).setCell (by simp) _).setCell (by simp) _).setCell (by simp) _).setCell (by simp) _))
    exact ⟨_, _, rfl, HZ.1, by omega, HZ.2, rfl, rfl⟩

set_option maxRecDepth 10000 in
set_option maxHeartbeats 4000000 in
theorem hnew_none (n0 n1 n2 n3 n4 n5 n6 n7 : Int) (sx : Option Addr) (sl sc : Nat) (S : Nat → Sh) (R : Nat → Nat → Bool) (fr en : Int) (sen : Bool) (w : World) (hS : Shps w sx sl S) (hR : ∀ i, i < sl → Refs w (S i).x (S i).l (R i)) (hg : Good n0 n1 n2 n3 n4 n5 n6 n7 sl S) (hf : fr = 0 ∨ fr = 1) (he : 0 ≤ en ∧ en ≤ n1) (hq : (en == 0) = true) :
    Calls Try.prog 17 #[.agg #[.int .i64 n0, .int .i64 n1, .int .i64 n2, .int .i64 n3, .int .i64 n4, .int .i64 n5, .int .i64 n6, .int .i64 n7, .slice sx sl sc], .int .i64 fr, .int .i64 en, .bool sen] w fun e w' => ∃ p E, e = .returned (.pointer (some ⟨p, 0, none⟩)) ∧ HS w' p E ⟨fr, en, sen, 0, 0, 0, 0, false, 0, cz, 12, 0, 0, 0⟩ ∧ w.heap.size ≤ p ∧ Kept w w' ∧ Began n0 n1 E := by
  have C0 : Hid (∀ w', Kept w w' → Calls Try.prog 43 #[.agg #[.int .i64 n0, .int .i64 n1, .int .i64 n2, .int .i64 n3, .int .i64 n4, .int .i64 n5, .int .i64 n6, .int .i64 n7, .slice sx sl sc]] w' _) := fun w' k => check_any n0 n1 n2 n3 n4 n5 n6 n7 sx sl sc S 0 w' (hS.kept k) (Checks.of_ok hg.1 hg.2)
  have C1 : Hid (∀ w', Kept w w' → Calls Try.prog 44 #[.agg #[.int .i64 n0, .int .i64 n1, .int .i64 n2, .int .i64 n3, .int .i64 n4, .int .i64 n5, .int .i64 n6, .int .i64 n7, .slice sx sl sc]] w' _) := fun w' k => copy_any n0 n1 n2 n3 n4 n5 n6 n7 sx sl sc S R w' (by have := hg.2.2.1; omega) (fun i hi => by have := may_few (hg.2.2.2 i hi); omega) (hS.kept k) (fun i hi => (hR i hi).kept k)
  have HG : Hid (Good n0 n1 n2 n3 n4 n5 n6 n7 sl S) := hg
  have e1 : decide (en < 0) = false := by simpa using he.1
  have e2 : decide (en > n1) = false := by simpa using he.2
  have e3 : decide (n1 < en) = false := by simpa using he.2
  clear hS hR hg he
  rcases hf with rfl | rfl
  · go_enter Try.func17, Try.ntmps17
    go_wp2_with fail
    generalize hW0 : w.alloc (Obj.cells #[Value.int .i64 n0, .int .i64 n1, .int .i64 n2, .int .i64 n3, .int .i64 n4, .int .i64 n5, .int .i64 n6, .int .i64 n7, .slice sx sl sc] _) = W0
    have b0 : Blk W0 w.heap.size (cl n0 n1 n2 n3 n4 n5 n6 n7 (.slice sx sl sc)) := by rw [← hW0]; exact Blk.new w _ _
    have k0 : Kept w W0 := by rw [← hW0]; exact (Kept.refl w).alloc _ _
    have z0 : W0.heap.size = w.heap.size + 1 := by rw [← hW0]; simp
    clear hW0
    generalize hW1 : W0.alloc _ = W1
    have b1 : Blk W1 (w.heap.size + 1) (z23 0 en sen) := by rw [← hW1, ← z0]; exact Blk.new W0 _ _
    have k1 : Kept W0 W1 := by rw [← hW1]; exact (Kept.refl W0).alloc _ _
    have z1 : W1.heap.size = w.heap.size + 1 + 1 := by rw [← hW1]; simp [z0]
    clear hW1
    refine (C0.out _ (k0.trans k1)).mono ?_
    rintro e w2 ⟨rfl, K2⟩
    have HA : Hid (Blk w2 (w.heap.size + 1) (z23 0 en sen) ∧ Kept w w2 ∧ Blk w2 w.heap.size (cl n0 n1 n2 n3 n4 n5 n6 n7 (.slice sx sl sc)) ∧ w.heap.size + 1 < w2.heap.size) := ⟨b1.kept K2, (k0.trans k1).trans K2, (b0.kept k1).kept K2, by have := K2.size; omega⟩
    clear b0 b1 k0 k1 z0 z1 K2 C0
    have a0 := HA.out.2.2.1.at 0 rfl
    have a1 := HA.out.2.2.1.at 1 rfl
    have a2 := HA.out.2.2.1.at 2 rfl
    have a3 := HA.out.2.2.1.at 3 rfl
    have a4 := HA.out.2.2.1.at 4 rfl
    have a5 := HA.out.2.2.1.at 5 rfl
    have a6 := HA.out.2.2.1.at 6 rfl
    have a7 := HA.out.2.2.1.at 7 rfl
    have a8 := HA.out.2.2.1.at 8 rfl
    go_wp2_with fail
    refine (C1.out _ HA.out.2.1).mono ?_
    rintro e w3 ⟨g, T, rfl, hgg, hrow, hcop, K3⟩
    have HB : Hid (Blk w3 (w.heap.size + 1) (z23 0 en sen) ∧ Kept w w3 ∧ w.heap.size + 1 < g ∧ w3.rowIs g 26 (sl * 2) (cf T) ∧ ∀ i, i < sl → Cop w3 g (S i) (T i) (R i)) := ⟨HA.out.1.kept K3, HA.out.2.1.trans K3, by have := HA.out.2.2.2; omega, hrow, hcop⟩
    clear HA a0 a1 a2 a3 a4 a5 a6 a7 a8 hgg hrow hcop K3 C1
    have c0 := HB.out.1.at 0 rfl
    have c1 := HB.out.1.at 1 rfl
    have c2 := HB.out.1.at 2 rfl
    have c3 := HB.out.1.at 3 rfl
    have c4 := HB.out.1.at 4 rfl
    have c5 := HB.out.1.at 5 rfl
    have c6 := HB.out.1.at 6 rfl
    have c7 := HB.out.1.at 7 rfl
    have c8 := HB.out.1.at 8 rfl
    have c19 := HB.out.1.at 19 rfl
    have fz := HB.out.1.fz
    have HF : Hid (∀ W4, Blk W4 (w.heap.size + 1) (hdl ⟨n0, n1, n2, n3, n4, n5, n6, n7, sl, g, S, T, R⟩ ⟨0, en, sen, 0, 0, 0, 0, false, 0, cz, 12, 0, 0, 0⟩) → Mut [w.heap.size + 1] w3 W4 → HS W4 (w.heap.size + 1) ⟨n0, n1, n2, n3, n4, n5, n6, n7, sl, g, S, T, R⟩ ⟨0, en, sen, 0, 0, 0, 0, false, 0, cz, 12, 0, 0, 0⟩ ∧ Kept w W4) := fun W4 b4 m4 =>
      ⟨⟨b4, m4.row HB.out.2.2.2.1 (by have := HB.out.2.2.1; simp; omega), fun i hi => cop_muts (HB.out.2.2.2.2 i hi) m4 (fun y _ _ hy => by have h1 := HB.out.2.2.1; have h2 : g < y := hy; simp; omega), HB.out.2.2.1, HG.out⟩, HB.out.2.1.muts m4 (by simp)⟩
    have HB1 : Hid (∀ v, Blk w3 (w.heap.size + 1) v → v = z23 0 en sen → Blk w3 (w.heap.size + 1) (z23 0 en sen)) := fun v h e => e ▸ h
    have c10 := HB.out.1.at 10 rfl
    go_wp2
    go_ret
    have HZ := HF.out _ ((((((((((((HB.out.1.set (i := 0) rfl _).set (i := 1) rfl _).set (i := 2) rfl _).set (i := 3) rfl _).set (i := 4) rfl _).set (i := 5) rfl _).set (i := 6) rfl _).set (i := 7) rfl _).set (i := 8) rfl _).set (i := 19) rfl (.int .i64 1)).set (i := 19) rfl _)) (((((((((((((Mut.refl _ _).setCell (by simp) _).setCell (by simp) _).setCell (by simp) _).setCell (by simp) _).setCell (by simp) _).setCell (by simp) _).setCell (by simp) _).setCell (by simp) _).setCell (by simp) _).setCell (by simp) (.int .i64 1)).setCell (by simp) _))
    exact ⟨_, _, rfl, HZ.1, by omega, HZ.2, rfl, rfl⟩
  · go_enter Try.func17, Try.ntmps17
    go_wp2_with fail
    generalize hW0 : w.alloc (Obj.cells #[Value.int .i64 n0, .int .i64 n1, .int .i64 n2, .int .i64 n3, .int .i64 n4, .int .i64 n5, .int .i64 n6, .int .i64 n7, .slice sx sl sc] _) = W0
    have b0 : Blk W0 w.heap.size (cl n0 n1 n2 n3 n4 n5 n6 n7 (.slice sx sl sc)) := by rw [← hW0]; exact Blk.new w _ _
    have k0 : Kept w W0 := by rw [← hW0]; exact (Kept.refl w).alloc _ _
    have z0 : W0.heap.size = w.heap.size + 1 := by rw [← hW0]; simp
    clear hW0
    generalize hW1 : W0.alloc _ = W1
    have b1 : Blk W1 (w.heap.size + 1) (z23 1 en sen) := by rw [← hW1, ← z0]; exact Blk.new W0 _ _
    have k1 : Kept W0 W1 := by rw [← hW1]; exact (Kept.refl W0).alloc _ _
    have z1 : W1.heap.size = w.heap.size + 1 + 1 := by rw [← hW1]; simp [z0]
    clear hW1
    refine (C0.out _ (k0.trans k1)).mono ?_
    rintro e w2 ⟨rfl, K2⟩
    have HA : Hid (Blk w2 (w.heap.size + 1) (z23 1 en sen) ∧ Kept w w2 ∧ Blk w2 w.heap.size (cl n0 n1 n2 n3 n4 n5 n6 n7 (.slice sx sl sc)) ∧ w.heap.size + 1 < w2.heap.size) := ⟨b1.kept K2, (k0.trans k1).trans K2, (b0.kept k1).kept K2, by have := K2.size; omega⟩
    clear b0 b1 k0 k1 z0 z1 K2 C0
    have a0 := HA.out.2.2.1.at 0 rfl
    have a1 := HA.out.2.2.1.at 1 rfl
    have a2 := HA.out.2.2.1.at 2 rfl
    have a3 := HA.out.2.2.1.at 3 rfl
    have a4 := HA.out.2.2.1.at 4 rfl
    have a5 := HA.out.2.2.1.at 5 rfl
    have a6 := HA.out.2.2.1.at 6 rfl
    have a7 := HA.out.2.2.1.at 7 rfl
    have a8 := HA.out.2.2.1.at 8 rfl
    go_wp2_with fail
    refine (C1.out _ HA.out.2.1).mono ?_
    rintro e w3 ⟨g, T, rfl, hgg, hrow, hcop, K3⟩
    have HB : Hid (Blk w3 (w.heap.size + 1) (z23 1 en sen) ∧ Kept w w3 ∧ w.heap.size + 1 < g ∧ w3.rowIs g 26 (sl * 2) (cf T) ∧ ∀ i, i < sl → Cop w3 g (S i) (T i) (R i)) := ⟨HA.out.1.kept K3, HA.out.2.1.trans K3, by have := HA.out.2.2.2; omega, hrow, hcop⟩
    clear HA a0 a1 a2 a3 a4 a5 a6 a7 a8 hgg hrow hcop K3 C1
    have c0 := HB.out.1.at 0 rfl
    have c1 := HB.out.1.at 1 rfl
    have c2 := HB.out.1.at 2 rfl
    have c3 := HB.out.1.at 3 rfl
    have c4 := HB.out.1.at 4 rfl
    have c5 := HB.out.1.at 5 rfl
    have c6 := HB.out.1.at 6 rfl
    have c7 := HB.out.1.at 7 rfl
    have c8 := HB.out.1.at 8 rfl
    have c19 := HB.out.1.at 19 rfl
    have fz := HB.out.1.fz
    have HF : Hid (∀ W4, Blk W4 (w.heap.size + 1) (hdl ⟨n0, n1, n2, n3, n4, n5, n6, n7, sl, g, S, T, R⟩ ⟨1, en, sen, 0, 0, 0, 0, false, 0, cz, 12, 0, 0, 0⟩) → Mut [w.heap.size + 1] w3 W4 → HS W4 (w.heap.size + 1) ⟨n0, n1, n2, n3, n4, n5, n6, n7, sl, g, S, T, R⟩ ⟨1, en, sen, 0, 0, 0, 0, false, 0, cz, 12, 0, 0, 0⟩ ∧ Kept w W4) := fun W4 b4 m4 =>
      ⟨⟨b4, m4.row HB.out.2.2.2.1 (by have := HB.out.2.2.1; simp; omega), fun i hi => cop_muts (HB.out.2.2.2.2 i hi) m4 (fun y _ _ hy => by have h1 := HB.out.2.2.1; have h2 : g < y := hy; simp; omega), HB.out.2.2.1, HG.out⟩, HB.out.2.1.muts m4 (by simp)⟩
    have HB1 : Hid (∀ v, Blk w3 (w.heap.size + 1) v → v = z23 1 en sen → Blk w3 (w.heap.size + 1) (z23 1 en sen)) := fun v h e => e ▸ h
    have c10 := HB.out.1.at 10 rfl
    go_wp2
    go_ret
    have HZ := HF.out _ ((((((((((((HB.out.1.set (i := 0) rfl _).set (i := 1) rfl _).set (i := 2) rfl _).set (i := 3) rfl _).set (i := 4) rfl _).set (i := 5) rfl _).set (i := 6) rfl _).set (i := 7) rfl _).set (i := 8) rfl _).set (i := 19) rfl (.int .i64 1)).set (i := 19) rfl _)) (((((((((((((Mut.refl _ _).setCell (by simp) _).setCell (by simp) _).setCell (by simp) _).setCell (by simp) _).setCell (by simp) _).setCell (by simp) _).setCell (by simp) _).setCell (by simp) _).setCell (by simp) _).setCell (by simp) (.int .i64 1)).setCell (by simp) _))
    exact ⟨_, _, rfl, HZ.1, by omega, HZ.2, rfl, rfl⟩

end Go.Proofs.Ytgnikgkpbibmgaa
