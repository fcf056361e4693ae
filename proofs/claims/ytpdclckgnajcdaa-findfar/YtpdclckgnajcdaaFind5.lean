/-
  Contracts of package find: an element's program goes on.
-/
import Derived.Test.YtpdclckgnajcdaaFind3
namespace Go.Proofs.Ytpdclckgnajcdaa
open Go.RowKit

section
variable {p : Nat} {E : En}

set_option maxRecDepth 10000 in
set_option maxHeartbeats 4000000 in
/-- Of the other kind. -/
theorem elem_kind {q : Fd} (k : Nat) (m : Int) (w : World) (h : FS w p E q) (hs : q.st = 1) (hk : k < E.sl) (hm : 0 ≤ m ∧ m ≤ 1000) (ha : (E.S k).arr = !q.arr) :
    Calls Try.prog 75 #[.pointer (some ⟨p, 0, none⟩), .complex .f64 (ch k m).re (ch k m).im] w fun e w' => e = .returned (.tuple #[]) ∧ FS w' p E { q with st := 8, er := 4 } ∧ Mut [p] w w' := by
  have C0 : Hid (∀ w', Kept w w' → Calls Try.prog 99 #[.pointer (some ⟨p, 0, none⟩), .complex .f64 (ch k m).re (ch k m).im] w' _) := fun w' Q => headed_kind k m w' (h.kept Q) hk hm ha
  clear ha hm hk
  generalize (ch k m) = z at *
  have HS : Hid (FS w p E q) := h
  have hst : q.st = 1 := hs
  clear h hs
  go_enter Try.func75, Try.ntmps75
  refine wp_scope_hop 5 rfl fun K HK => ?_
  go_upto_region 4 with fail
  generalize hW0 : w.alloc _ = W0
  have b0 : Blk W0 w.heap.size [.bool false, .slice none 0 0] := by rw [← hW0]; exact Blk.new w _ _
  have k0 : Kept w W0 := by rw [← hW0]; exact (Kept.refl w).alloc _ _
  have z0 : W0.heap.size = w.heap.size + 1 := by rw [← hW0]; simp
  clear hW0
  have c12 : W0.cell? ⟨p, 12, none⟩ = some (.int .i64 1) := by rw [← hst]; exact (HS.out.kept k0).b.at 12 rfl
  have HG : Hid (Kept w W0 ∧ Blk W0 w.heap.size [.bool false, .slice none 0 0] ∧ W0.heap.size = w.heap.size + 1) := ⟨k0, b0, z0⟩
  clear b0 k0 z0
  go_wp2_with fail
  refine (C0.out _ HG.out.1).mono ?_
  rintro e w1 ⟨rfl, K1⟩
  have HG1 : Hid (Kept w w1 ∧ Blk w1 w.heap.size [.bool false, .slice none 0 0]) := ⟨HG.out.1.trans K1, HG.out.2.1.kept K1⟩
  clear HG K1 c12
  have a0 := HG1.out.2.at 0 rfl
  have a1 := HG1.out.2.at 1 rfl
  have fz := HG1.out.2.fz
  go_wp2_with fail
  go_step3
  refine ⟨rfl, HK.out _ _ ?_⟩
  generalize hW2 : (w1.setCell _ _).setCell _ _ = W2
  have hk2 : Kept w W2 := by rw [← hW2]; exact (HG1.out.1.setCell (by simp) _).setCell (by simp) _
  have HF3 : Hid (FS W2 p E q ∧ Mut [p] w W2) := ⟨HS.out.kept hk2, hk2.mut⟩
  clear hW2 hk2 a0 a1 fz
  go_wp2_with fail
  refine (fail_is 4 _ HF3.out.1).mono ?_
  rintro e w9 ⟨rfl, HF9, HU9⟩
  go_wp2
  (try simp only [Exit.inBlock])
  (try simp only [Exit.then])
  (try simp only [Exit.jump])
  (try simp only [Exit.noGoto])
  refine bodyPost_end (results_none rfl _ _ _) rfl ?_
  exact ⟨rfl, HF9, HF3.out.2.trans HU9⟩

set_option maxRecDepth 10000 in
set_option maxHeartbeats 4000000 in
/-- The head. -/
theorem elem_head {q : Fd} (k : Nat) (w : World) (h : FS w p E q) (hs : q.st = 1) (hk : k < E.sl) (ha : (E.S k).arr = true) (hq : q.arr = true) (hh : 0 ≤ q.head ∧ q.head < E.n0) :
    Calls Try.prog 75 #[.pointer (some ⟨p, 0, none⟩), .complex .f64 (ch k 0).re (ch k 0).im] w fun e w' => e = .returned (.tuple #[]) ∧ FS w' p E { q with st := 3, nx := q.head * 8 + 2, rf := E.R k 0 } ∧ Mut [p] w w' := by
  have C0 : Hid (∀ w', Kept w w' → Calls Try.prog 99 #[.pointer (some ⟨p, 0, none⟩), .complex .f64 (ch k 0).re (ch k 0).im] w' _) := fun w' Q => headed_ok k 0 w' (h.kept Q) hk (by omega) (ha.trans hq.symm) (fun _ => rfl)
  have HA : Hid ((E.S k).arr = true ∧ (E.S k).l = 1) := ⟨ha, (may_len (h.ok.2.2.2 k hk)).2 ha⟩
  have HH : Hid (0 ≤ q.head ∧ q.head < E.n0) := hh
  clear ha hk hq hh
  generalize (ch k 0) = z at *
  have HS : Hid (FS w p E q) := h
  have hst : q.st = 1 := hs
  clear h hs
  go_enter Try.func75, Try.ntmps75
  refine wp_scope_straight ?_
  go_upto_region 4 with fail
  generalize hW0 : w.alloc _ = W0
  have b0 : Blk W0 w.heap.size [.bool false, .slice none 0 0] := by rw [← hW0]; exact Blk.new w _ _
  have k0 : Kept w W0 := by rw [← hW0]; exact (Kept.refl w).alloc _ _
  have z0 : W0.heap.size = w.heap.size + 1 := by rw [← hW0]; simp
  clear hW0
  have c12 : W0.cell? ⟨p, 12, none⟩ = some (.int .i64 1) := by rw [← hst]; exact (HS.out.kept k0).b.at 12 rfl
  have HG : Hid (Kept w W0 ∧ Blk W0 w.heap.size [.bool false, .slice none 0 0] ∧ W0.heap.size = w.heap.size + 1) := ⟨k0, b0, z0⟩
  clear b0 k0 z0
  go_wp2_with fail
  refine (C0.out _ HG.out.1).mono ?_
  rintro e w1 ⟨g, rfl, hr, hg, K1⟩
  rw [HA.out.2] at hr
  have hRR : g < w1.heap.size ∧ w1.cell? ⟨g, 0, none⟩ = some (.bool (E.R k 0)) := by
    obtain ⟨g', o', e, hg', cc⟩ := hr (by omega)
    obtain ⟨rfl, rfl⟩ : g = g' ∧ 0 = o' := by simpa using e
    exact ⟨hg', cc 0 (by omega)⟩
  have HRR : Hid (g < w1.heap.size ∧ w1.cell? ⟨g, 0, none⟩ = some (.bool (E.R k 0))) := hRR
  clear hRR
  have HG1 : Hid (Kept w w1 ∧ Blk w1 w.heap.size [.bool false, .slice none 0 0]) := ⟨HG.out.1.trans K1, HG.out.2.1.kept K1⟩
  have hgs : w.heap.size < g := by have := HG.out.2.2; omega
  clear HG K1 c12 hr hg
  have a0 := HG1.out.2.at 0 rfl
  have a1 := HG1.out.2.at 1 rfl
  have fz := HG1.out.2.fz
  rw [HA.out.1, HA.out.2]
  go_upto_region 12 with fail
  generalize hW2 : (w1.setCell _ _).setCell _ _ = W2
  have hk2 : Kept w W2 := by rw [← hW2]; exact (HG1.out.1.setCell (by simp) _).setCell (by simp) _
  have hb2 : Blk W2 w.heap.size [.bool true, .slice (some ⟨g, 0, none⟩) 1 1] := by rw [← hW2]; exact (HG1.out.2.set (i := 0) rfl _).set (i := 1) rfl _
  have hR2 : W2.cell? ⟨g, 0, none⟩ = some (.bool (E.R k 0)) := by
    have m : Mut [w.heap.size] w1 W2 := by rw [← hW2]; exact ((Mut.refl _ _).setCell (by simp) _).setCell (by simp) _
    exact (m.cell HRR.out.1 (by simp; omega)).trans HRR.out.2
  have HF2 : Hid (FS W2 p E q ∧ Kept w W2) := ⟨HS.out.kept hk2, hk2⟩
  have s0 := hb2.at 0 rfl
  have s1 := hb2.at 1 rfl
  clear hW2 hk2 hb2 a0 a1 fz
  have c17 : W2.cell? ⟨p, 17, none⟩ = some (.bool q.rf) := HF2.out.1.b.at 17 rfl
  have c9 : W2.cell? ⟨p, 9, none⟩ = some (.int .i64 q.head) := HF2.out.1.b.at 9 rfl
  have fz := HF2.out.1.b.fz
  have HF3 : Hid (FS (W2.setCell ⟨p, 17, none⟩ (.bool (E.R k 0))) p E { q with rf := E.R k 0 } ∧ Mut [p] w (W2.setCell ⟨p, 17, none⟩ (.bool (E.R k 0)))) := ⟨HF2.out.1.put (i := 17) rfl _ rfl, HF2.out.2.mut.setCell (by simp) _⟩
  go_wp2_with fail
  refine (stand_is 3 q.head 2 _ HF3.out.1 HH.out (by omega)).mono ?_
  rintro e w9 ⟨rfl, HF9, HU9⟩
  go_wp2
  (try simp only [Exit.inBlock])
  (try simp only [Exit.then])
  (try simp only [Exit.jump])
  (try simp only [Exit.noGoto])
  refine bodyPost_ret (results_none rfl _ _ _) rfl ?_
  exact ⟨rfl, HF9, HF3.out.2.trans HU9⟩

set_option maxRecDepth 10000 in
set_option maxHeartbeats 4000000 in
/-- The length. -/
theorem elem_len {q : Fd} (l : Int) (w : World) (h : FS w p E q) (hs : q.st = 3) (h1 : 0 ≤ q.nth ∧ q.nth < l) (h2 : l ≤ 512) (hh : 0 ≤ q.head ∧ q.head < E.n0) :
    Calls Try.prog 75 #[.pointer (some ⟨p, 0, none⟩), .complex .f64 (cw l).re (cw l).im] w fun e w' => e = .returned (.tuple #[]) ∧ FS w' p E { q with st := 4, nx := q.head * 8 + 3, ln := l } ∧ Mut [p] w w' := by
  have C0 : Hid (∀ w', Kept w w' → Calls Try.prog 101 #[.pointer (some ⟨p, 0, none⟩), .complex .f64 (cw l).re (cw l).im] w' _) := fun w' Q => measured_ok l w' (h.kept Q) h1 h2
  have HH : Hid (0 ≤ q.head ∧ q.head < E.n0) := hh
  clear hh h1 h2
  generalize (cw l) = z at *
  have HS : Hid (FS w p E q) := h
  have hst : q.st = 3 := hs
  clear h hs
  go_enter Try.func75, Try.ntmps75
  refine wp_scope_hop 0 rfl fun K HK => ?_
  go_upto_region 4 with fail
  generalize hW0 : w.alloc _ = W0
  have b0 : Blk W0 w.heap.size [.bool false, .slice none 0 0] := by rw [← hW0]; exact Blk.new w _ _
  have k0 : Kept w W0 := by rw [← hW0]; exact (Kept.refl w).alloc _ _
  have z0 : W0.heap.size = w.heap.size + 1 := by rw [← hW0]; simp
  clear hW0
  have c12 : W0.cell? ⟨p, 12, none⟩ = some (.int .i64 3) := by rw [← hst]; exact (HS.out.kept k0).b.at 12 rfl
  have HG : Hid (Kept w W0 ∧ Blk W0 w.heap.size [.bool false, .slice none 0 0] ∧ W0.heap.size = w.heap.size + 1) := ⟨k0, b0, z0⟩
  clear b0 k0 z0
  go_wp2_with fail
  go_step3
  refine ⟨rfl, HK.out _ _ ?_⟩
  go_wp2_with fail
  refine (C0.out _ HG.out.1).mono ?_
  rintro e w1 ⟨rfl, rfl⟩
  have HG1 : Hid (Kept w w1) := HG.out.1
  clear HG c12
  have hF := HS.out.kept HG1.out
  have c16 : w1.cell? ⟨p, 16, none⟩ = some (.int .i64 q.ln) := hF.b.at 16 rfl
  have c9 : w1.cell? ⟨p, 9, none⟩ = some (.int .i64 q.head) := hF.b.at 9 rfl
  have fz := hF.b.fz
  have HF3 : Hid (FS (w1.setCell ⟨p, 16, none⟩ (.int .i64 l)) p E { q with ln := l } ∧ Mut [p] w (w1.setCell ⟨p, 16, none⟩ (.int .i64 l))) := ⟨hF.put (i := 16) rfl _ rfl, HG1.out.mut.setCell (by simp) _⟩
  clear hF
  go_wp2_with fail
  refine (stand_is 4 q.head 3 _ HF3.out.1 HH.out (by omega)).mono ?_
  rintro e w9 ⟨rfl, HF9, HU9⟩
  go_wp2
  (try simp only [Exit.inBlock])
  (try simp only [Exit.then])
  (try simp only [Exit.jump])
  (try simp only [Exit.noGoto])
  refine bodyPost_ret (results_none rfl _ _ _) rfl ?_
  exact ⟨rfl, HF9, HF3.out.2.trans HU9⟩

set_option maxRecDepth 10000 in
set_option maxHeartbeats 4000000 in
/-- There is no such element. -/
theorem elem_out {q : Fd} (l : Int) (w : World) (h : FS w p E q) (hs : q.st = 3) (h1 : q.nth < 0 ∨ l ≤ q.nth) (h2 : 0 ≤ l ∧ l ≤ 512) :
    Calls Try.prog 75 #[.pointer (some ⟨p, 0, none⟩), .complex .f64 (cw l).re (cw l).im] w fun e w' => e = .returned (.tuple #[]) ∧ FS w' p E { q with st := 8, er := 5, ln := 0 } ∧ Mut [p] w w' := by
  have C0 : Hid (∀ w', Kept w w' → Calls Try.prog 101 #[.pointer (some ⟨p, 0, none⟩), .complex .f64 (cw l).re (cw l).im] w' _) := fun w' Q => measured_out l w' (h.kept Q) h1 h2
  clear h1 h2
  generalize (cw l) = z at *
  have HS : Hid (FS w p E q) := h
  have hst : q.st = 3 := hs
  clear h hs
  go_enter Try.func75, Try.ntmps75
  refine wp_scope_hop2 0 5 rfl rfl fun K K2 HK HK2 => ?_
  go_upto_region 4 with fail
  generalize hW0 : w.alloc _ = W0
  have b0 : Blk W0 w.heap.size [.bool false, .slice none 0 0] := by rw [← hW0]; exact Blk.new w _ _
  have k0 : Kept w W0 := by rw [← hW0]; exact (Kept.refl w).alloc _ _
  have z0 : W0.heap.size = w.heap.size + 1 := by rw [← hW0]; simp
  clear hW0
  have c12 : W0.cell? ⟨p, 12, none⟩ = some (.int .i64 3) := by rw [← hst]; exact (HS.out.kept k0).b.at 12 rfl
  have HG : Hid (Kept w W0 ∧ Blk W0 w.heap.size [.bool false, .slice none 0 0] ∧ W0.heap.size = w.heap.size + 1) := ⟨k0, b0, z0⟩
  clear b0 k0 z0
  go_wp2_with fail
  go_step3
  refine ⟨rfl, HK.out _ _ ?_⟩
  go_wp2_with fail
  refine (C0.out _ HG.out.1).mono ?_
  rintro e w1 ⟨rfl, rfl⟩
  have HG1 : Hid (Kept w w1) := HG.out.1
  clear HG c12
  have hF := HS.out.kept HG1.out
  have c16 : w1.cell? ⟨p, 16, none⟩ = some (.int .i64 q.ln) := hF.b.at 16 rfl
  have c9 : w1.cell? ⟨p, 9, none⟩ = some (.int .i64 q.head) := hF.b.at 9 rfl
  have fz := hF.b.fz
  have HF3 : Hid (FS (w1.setCell ⟨p, 16, none⟩ (.int .i64 0)) p E { q with ln := 0 } ∧ Mut [p] w (w1.setCell ⟨p, 16, none⟩ (.int .i64 0))) := ⟨hF.put (i := 16) rfl _ rfl, HG1.out.mut.setCell (by simp) _⟩
  clear hF
  go_wp2_with fail
  go_step3
  refine ⟨rfl, HK2.out _ _ ?_⟩
  go_wp2_with fail
  refine (fail_is 5 _ HF3.out.1).mono ?_
  rintro e w9 ⟨rfl, HF9, HU9⟩
  go_wp2
  (try simp only [Exit.inBlock])
  (try simp only [Exit.then])
  (try simp only [Exit.jump])
  (try simp only [Exit.noGoto])
  refine bodyPost_end (results_none rfl _ _ _) rfl ?_
  exact ⟨rfl, HF9, HF3.out.2.trans HU9⟩

set_option maxRecDepth 10000 in
set_option maxHeartbeats 4000000 in
/-- The mode. -/
theorem elem_mode {q : Fd} (m : Int) (w : World) (h : FS w p E q) (hs : q.st = 4) (hm : 0 ≤ m ∧ m ≤ 2) (h1 : dat q.ln ≤ 4 ↔ m = 0) (hh : 0 ≤ q.head ∧ q.head < E.n0) (h2 : m = 0 → 0 ≤ q.nth ∧ q.nth < 32) :
    Calls Try.prog 75 #[.pointer (some ⟨p, 0, none⟩), .complex .f64 (cw m).re (cw m).im] w fun e w' => e = .returned (.tuple #[]) ∧ FS w' p E (whereS q m) ∧ Mut [p] w w' := by
  have C0 : Hid (∀ w', Kept w w' → Calls Try.prog 102 #[.complex .f64 (cw m).re (cw m).im, .int .i64 q.ln] w' _) := fun w' Q => lmode_is m q.ln w' hm h1
  have CW : Hid (∀ w, FS w p E q → _) := fun w f => where_is m w f hm hh h2
  clear hh h1 h2
  generalize (cw m) = z at *
  have HS : Hid (FS w p E q) := h
  have hst : q.st = 4 := hs
  clear h hs
  go_enter Try.func75, Try.ntmps75
  refine wp_scope_hop 1 rfl fun K HK => ?_
  go_upto_region 4 with fail
  generalize hW0 : w.alloc _ = W0
  have b0 : Blk W0 w.heap.size [.bool false, .slice none 0 0] := by rw [← hW0]; exact Blk.new w _ _
  have k0 : Kept w W0 := by rw [← hW0]; exact (Kept.refl w).alloc _ _
  have z0 : W0.heap.size = w.heap.size + 1 := by rw [← hW0]; simp
  clear hW0
  have c12 : W0.cell? ⟨p, 12, none⟩ = some (.int .i64 4) := by rw [← hst]; exact (HS.out.kept k0).b.at 12 rfl
  have HG : Hid (Kept w W0 ∧ Blk W0 w.heap.size [.bool false, .slice none 0 0] ∧ W0.heap.size = w.heap.size + 1) := ⟨k0, b0, z0⟩
  clear b0 k0 z0
  have d16 : W0.cell? ⟨p, 16, none⟩ = some (.int .i64 q.ln) := (HS.out.kept HG.out.1).b.at 16 rfl
  go_wp2_with fail
  go_step3
  refine ⟨rfl, HK.out _ _ ?_⟩
  go_wp2_with fail
  refine (C0.out _ HG.out.1).mono ?_
  rintro e w1 ⟨rfl, rfl⟩
  have HG1 : Hid (Kept w w1) := HG.out.1
  clear HG c12
  have hF := HS.out.kept HG1.out
  have HF3 : Hid (FS w1 p E q ∧ Mut [p] w w1) := ⟨hF, HG1.out.mut⟩
  clear hF
  go_wp2_with fail
  refine (CW.out _ HF3.out.1).mono ?_
  rintro e w9 ⟨rfl, HF9, HU9⟩
  go_wp2
  (try simp only [Exit.inBlock])
  (try simp only [Exit.then])
  (try simp only [Exit.jump])
  (try simp only [Exit.noGoto])
  refine bodyPost_ret (results_none rfl _ _ _) rfl ?_
  exact ⟨rfl, HF9, HF3.out.2.trans HU9⟩

set_option maxRecDepth 10000 in
set_option maxHeartbeats 4000000 in
/-- The spine. -/
theorem elem_spine {q : Fd} (a : Int) (w : World) (h : FS w p E q) (hs : q.st = 5) (ha : 8 * E.n0 ≤ a ∧ a < 8 * E.n0 + 2 * E.n1) (h1 : 0 ≤ q.nth ∧ q.nth ≤ 512) :
    Calls Try.prog 75 #[.pointer (some ⟨p, 0, none⟩), .complex .f64 (cw a).re (cw a).im] w fun e w' => e = .returned (.tuple #[]) ∧ FS w' p E { q with st := 6, nx := a + 2 + q.nth / 8 } ∧ Mut [p] w w' := by
  have C0 : Hid (∀ w', Kept w w' → Calls Try.prog 104 #[.pointer (some ⟨p, 0, none⟩), .complex .f64 (cw a).re (cw a).im] w' _) := fun w' Q => spine_is a w' (h.kept Q) ha h1
  clear ha h1
  generalize (cw a) = z at *
  have HS : Hid (FS w p E q) := h
  have hst : q.st = 5 := hs
  clear h hs
  go_enter Try.func75, Try.ntmps75
  refine wp_scope_hop 2 rfl fun K HK => ?_
  go_upto_region 4 with fail
  generalize hW0 : w.alloc _ = W0
  have b0 : Blk W0 w.heap.size [.bool false, .slice none 0 0] := by rw [← hW0]; exact Blk.new w _ _
  have k0 : Kept w W0 := by rw [← hW0]; exact (Kept.refl w).alloc _ _
  have z0 : W0.heap.size = w.heap.size + 1 := by rw [← hW0]; simp
  clear hW0
  have c12 : W0.cell? ⟨p, 12, none⟩ = some (.int .i64 5) := by rw [← hst]; exact (HS.out.kept k0).b.at 12 rfl
  have HG : Hid (Kept w W0 ∧ Blk W0 w.heap.size [.bool false, .slice none 0 0] ∧ W0.heap.size = w.heap.size + 1) := ⟨k0, b0, z0⟩
  clear b0 k0 z0
  go_wp2_with fail
  go_step3
  refine ⟨rfl, HK.out _ _ ?_⟩
  go_wp2_with fail
  refine (C0.out _ HG.out.1).mono ?_
  rintro e w1 ⟨rfl, K1⟩
  have HG1 : Hid (Kept w w1) := HG.out.1.trans K1
  clear HG c12
  have hF := HS.out.kept HG1.out
  have c13 : w1.cell? ⟨p, 13, none⟩ = some (.int .i64 q.nx) := hF.b.at 13 rfl
  have c12 : w1.cell? ⟨p, 12, none⟩ = some (.int .i64 q.st) := hF.b.at 12 rfl
  have fz := hF.b.fz
  have HF3 : Hid (FS ((w1.setCell ⟨p, 13, none⟩ (.int .i64 (a + 2 + q.nth / 8))).setCell ⟨p, 12, none⟩ (.int .i64 6)) p E { q with st := 6, nx := a + 2 + q.nth / 8 } ∧ Mut [p] w ((w1.setCell ⟨p, 13, none⟩ (.int .i64 (a + 2 + q.nth / 8))).setCell ⟨p, 12, none⟩ (.int .i64 6))) := ⟨(hF.put (i := 13) rfl _ (d' := { q with nx := a + 2 + q.nth / 8 }) rfl).put (i := 12) rfl _ rfl, (HG1.out.mut.setCell (by simp) _).setCell (by simp) _⟩
  clear hF hst
  go_wp2
  (try simp only [Exit.inBlock])
  (try simp only [Exit.then])
  (try simp only [Exit.jump])
  (try simp only [Exit.noGoto])
  refine bodyPost_ret (results_none rfl _ _ _) rfl ?_
  exact ⟨rfl, HF3.out.1, HF3.out.2⟩

set_option maxRecDepth 10000 in
set_option maxHeartbeats 4000000 in
/-- The data fragment. -/
theorem elem_data {q : Fd} (j : Int) (w : World) (h : FS w p E q) (hs : q.st = 6) (hj : 0 ≤ j ∧ j < E.n0) (h1 : 0 ≤ q.nth ∧ q.nth ≤ 512) :
    Calls Try.prog 75 #[.pointer (some ⟨p, 0, none⟩), .complex .f64 (cr j).re (cr j).im] w fun e w' => e = .returned (.tuple #[]) ∧ FS w' p E { q with st := 8, at' := j * 8 + q.nth % 8 } ∧ Mut [p] w w' := by
  have C0 : Hid (∀ w', Kept w w' → Calls Try.prog 105 #[.agg #[.int .i64 E.n0, .int .i64 E.n1, .int .i64 E.n2, .int .i64 E.n3, .int .i64 E.n4, .int .i64 E.n5, .int .i64 E.n6, .int .i64 E.n7, .slice (some ⟨E.g, 0, none⟩) E.sl E.sl], .complex .f64 (cr j).re (cr j).im] w' _) := fun w' Q => lfrag_is E.n0 E.n1 E.n2 E.n3 E.n4 E.n5 E.n6 E.n7 (some ⟨E.g, 0, none⟩) E.sl E.sl j w' h.ok.1.1.2 hj
  obtain ⟨b1, b2⟩ := h1
  have hrm : Int.tmod q.nth 8 = q.nth % 8 := Int.tmod_eq_emod_of_nonneg b1
  have hdv : Int.tdiv q.nth 8 = q.nth / 8 := Int.tdiv_eq_ediv_of_nonneg b1
  have hn0 : E.n0 ≤ 1024 := h.ok.1.1.2
  have HJ : Hid (0 ≤ j ∧ j < E.n0) := hj
  have hj0 : 0 ≤ j := hj.1
  have hj1 : j ≤ 1024 := by omega
  have e0 : j + 0 = j := by omega
  clear hj
  generalize (cr j) = z at *
  have HS : Hid (FS w p E q) := h
  have hst : q.st = 6 := hs
  clear h hs
  go_enter Try.func75, Try.ntmps75
  refine wp_scope_hop 4 rfl fun K HK => ?_
  go_upto_region 4 with fail
  generalize hW0 : w.alloc _ = W0
  have b0 : Blk W0 w.heap.size [.bool false, .slice none 0 0] := by rw [← hW0]; exact Blk.new w _ _
  have k0 : Kept w W0 := by rw [← hW0]; exact (Kept.refl w).alloc _ _
  have z0 : W0.heap.size = w.heap.size + 1 := by rw [← hW0]; simp
  clear hW0
  have c12 : W0.cell? ⟨p, 12, none⟩ = some (.int .i64 6) := by rw [← hst]; exact (HS.out.kept k0).b.at 12 rfl
  have HG : Hid (Kept w W0 ∧ Blk W0 w.heap.size [.bool false, .slice none 0 0] ∧ W0.heap.size = w.heap.size + 1) := ⟨k0, b0, z0⟩
  clear b0 k0 z0
  have d0 : W0.cell? ⟨p, 0, none⟩ = some (.int .i64 E.n0) := (HS.out.kept HG.out.1).b.at 0 rfl
  have d1 : W0.cell? ⟨p, 1, none⟩ = some (.int .i64 E.n1) := (HS.out.kept HG.out.1).b.at 1 rfl
  have d2 : W0.cell? ⟨p, 2, none⟩ = some (.int .i64 E.n2) := (HS.out.kept HG.out.1).b.at 2 rfl
  have d3 : W0.cell? ⟨p, 3, none⟩ = some (.int .i64 E.n3) := (HS.out.kept HG.out.1).b.at 3 rfl
  have d4 : W0.cell? ⟨p, 4, none⟩ = some (.int .i64 E.n4) := (HS.out.kept HG.out.1).b.at 4 rfl
  have d5 : W0.cell? ⟨p, 5, none⟩ = some (.int .i64 E.n5) := (HS.out.kept HG.out.1).b.at 5 rfl
  have d6 : W0.cell? ⟨p, 6, none⟩ = some (.int .i64 E.n6) := (HS.out.kept HG.out.1).b.at 6 rfl
  have d7 : W0.cell? ⟨p, 7, none⟩ = some (.int .i64 E.n7) := (HS.out.kept HG.out.1).b.at 7 rfl
  have d8 : W0.cell? ⟨p, 8, none⟩ = some (.slice (some ⟨E.g, 0, none⟩) E.sl E.sl) := (HS.out.kept HG.out.1).b.at 8 rfl
  go_wp2_with fail
  go_step3
  refine ⟨rfl, HK.out _ _ ?_⟩
  go_wp2_with fail
  refine (C0.out _ HG.out.1).mono ?_
  rintro e w1 ⟨rfl, K1⟩
  have HG1 : Hid (Kept w w1) := HG.out.1.trans K1
  clear HG c12
  have hF := HS.out.kept HG1.out
  have c10 : w1.cell? ⟨p, 10, none⟩ = some (.int .i64 q.nth) := hF.b.at 10 rfl
  have HF3 : Hid (FS w1 p E q ∧ Mut [p] w w1) := ⟨hF, HG1.out.mut⟩
  clear hF
  go_wp2_with fail
  refine (found_is j (q.nth % 8) _ HF3.out.1 HJ.out (by omega)).mono ?_
  rintro e w9 ⟨rfl, HF9, HU9⟩
  go_wp2
  (try simp only [Exit.inBlock])
  (try simp only [Exit.then])
  (try simp only [Exit.jump])
  (try simp only [Exit.noGoto])
  refine bodyPost_ret (results_none rfl _ _ _) rfl ?_
  exact ⟨rfl, HF9, HF3.out.2.trans HU9⟩

set_option maxRecDepth 10000 in
set_option maxHeartbeats 4000000 in
/-- The first of the data fragments. -/
theorem elem_row {q : Fd} (j : Int) (w : World) (h : FS w p E q) (hs : q.st = 7) (hj : 0 ≤ j) (hj2 : j + q.nth / 8 < E.n0) (h1 : 0 ≤ q.nth ∧ q.nth ≤ 512) :
    Calls Try.prog 75 #[.pointer (some ⟨p, 0, none⟩), .complex .f64 (cr j).re (cr j).im] w fun e w' => e = .returned (.tuple #[]) ∧ FS w' p E { q with st := 8, at' := (j + q.nth / 8) * 8 + q.nth % 8 } ∧ Mut [p] w w' := by
  have C0 : Hid (∀ w', Kept w w' → Calls Try.prog 105 #[.agg #[.int .i64 E.n0, .int .i64 E.n1, .int .i64 E.n2, .int .i64 E.n3, .int .i64 E.n4, .int .i64 E.n5, .int .i64 E.n6, .int .i64 E.n7, .slice (some ⟨E.g, 0, none⟩) E.sl E.sl], .complex .f64 (cr j).re (cr j).im] w' _) := fun w' Q => lfrag_is E.n0 E.n1 E.n2 E.n3 E.n4 E.n5 E.n6 E.n7 (some ⟨E.g, 0, none⟩) E.sl E.sl j w' h.ok.1.1.2 ⟨hj, by omega⟩
  obtain ⟨b1, b2⟩ := h1
  have hrm : Int.tmod q.nth 8 = q.nth % 8 := Int.tmod_eq_emod_of_nonneg b1
  have hdv : Int.tdiv q.nth 8 = q.nth / 8 := Int.tdiv_eq_ediv_of_nonneg b1
  have hn0 : E.n0 ≤ 1024 := h.ok.1.1.2
  have HJ : Hid (0 ≤ j + q.nth / 8 ∧ j + q.nth / 8 < E.n0) := (⟨by omega, hj2⟩ : 0 ≤ j + q.nth / 8 ∧ j + q.nth / 8 < E.n0)
  have hj1 : j ≤ 1024 := by omega
  clear hj2
  generalize (cr j) = z at *
  have HS : Hid (FS w p E q) := h
  have hst : q.st = 7 := hs
  clear h hs
  go_enter Try.func75, Try.ntmps75
  refine wp_scope_hop 3 rfl fun K HK => ?_
  go_upto_region 4 with fail
  generalize hW0 : w.alloc _ = W0
  have b0 : Blk W0 w.heap.size [.bool false, .slice none 0 0] := by rw [← hW0]; exact Blk.new w _ _
  have k0 : Kept w W0 := by rw [← hW0]; exact (Kept.refl w).alloc _ _
  have z0 : W0.heap.size = w.heap.size + 1 := by rw [← hW0]; simp
  clear hW0
  have c12 : W0.cell? ⟨p, 12, none⟩ = some (.int .i64 7) := by rw [← hst]; exact (HS.out.kept k0).b.at 12 rfl
  have HG : Hid (Kept w W0 ∧ Blk W0 w.heap.size [.bool false, .slice none 0 0] ∧ W0.heap.size = w.heap.size + 1) := ⟨k0, b0, z0⟩
  clear b0 k0 z0
  have d0 : W0.cell? ⟨p, 0, none⟩ = some (.int .i64 E.n0) := (HS.out.kept HG.out.1).b.at 0 rfl
  have d1 : W0.cell? ⟨p, 1, none⟩ = some (.int .i64 E.n1) := (HS.out.kept HG.out.1).b.at 1 rfl
  have d2 : W0.cell? ⟨p, 2, none⟩ = some (.int .i64 E.n2) := (HS.out.kept HG.out.1).b.at 2 rfl
  have d3 : W0.cell? ⟨p, 3, none⟩ = some (.int .i64 E.n3) := (HS.out.kept HG.out.1).b.at 3 rfl
  have d4 : W0.cell? ⟨p, 4, none⟩ = some (.int .i64 E.n4) := (HS.out.kept HG.out.1).b.at 4 rfl
  have d5 : W0.cell? ⟨p, 5, none⟩ = some (.int .i64 E.n5) := (HS.out.kept HG.out.1).b.at 5 rfl
  have d6 : W0.cell? ⟨p, 6, none⟩ = some (.int .i64 E.n6) := (HS.out.kept HG.out.1).b.at 6 rfl
  have d7 : W0.cell? ⟨p, 7, none⟩ = some (.int .i64 E.n7) := (HS.out.kept HG.out.1).b.at 7 rfl
  have d8 : W0.cell? ⟨p, 8, none⟩ = some (.slice (some ⟨E.g, 0, none⟩) E.sl E.sl) := (HS.out.kept HG.out.1).b.at 8 rfl
  go_wp2_with fail
  go_step3
  refine ⟨rfl, HK.out _ _ ?_⟩
  have c10 : W0.cell? ⟨p, 10, none⟩ = some (.int .i64 q.nth) := (HS.out.kept HG.out.1).b.at 10 rfl
  go_wp2_with fail
  go_step3
  rename_i aK
  simp only [Exit.then]
  refine aK _ _ ?_
  go_wp2_with fail
  clear c10
  refine (C0.out _ HG.out.1).mono ?_
  rintro e w1 ⟨rfl, K1⟩
  have HG1 : Hid (Kept w w1) := HG.out.1.trans K1
  clear HG c12
  have hF := HS.out.kept HG1.out
  have c10 : w1.cell? ⟨p, 10, none⟩ = some (.int .i64 q.nth) := hF.b.at 10 rfl
  have HF3 : Hid (FS w1 p E q ∧ Mut [p] w w1) := ⟨hF, HG1.out.mut⟩
  clear hF
  go_wp2_with fail
  refine (found_is (j + q.nth / 8) (q.nth % 8) _ HF3.out.1 HJ.out (by omega)).mono ?_
  rintro e w9 ⟨rfl, HF9, HU9⟩
  go_wp2
  (try simp only [Exit.inBlock])
  (try simp only [Exit.then])
  (try simp only [Exit.jump])
  (try simp only [Exit.noGoto])
  refine bodyPost_ret (results_none rfl _ _ _) rfl ?_
  exact ⟨rfl, HF9, HF3.out.2.trans HU9⟩
end
end Go.Proofs.Ytpdclckgnajcdaa
