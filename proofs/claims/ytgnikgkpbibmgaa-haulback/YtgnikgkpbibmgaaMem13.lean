/-
  Contracts of package mem: a memory of n words, and how often it was asked.
-/
import Derived.Test.YtgnikgkpbibmgaaCx17
namespace Go.Proofs.Ytgnikgkpbibmgaa
open Go.RowKit
attribute [local go_sem] run_store_complex

def rv (F : Nat → Cx) (i : Nat) : Value := .complex .f64 (F i).re (F i).im
def cx (z : Cx) : Value := .complex .f64 z.re z.im
/-- A memory: its head block M, its words F in block b, asked q times. -/
structure Mm (w : World) (b M n : Nat) (F : Nat → Cx) (q : Nat) : Prop where
  hd : Blk w M [.slice (some ⟨b, 0, none⟩) n n, .int .i64 (q : Int)]
  row : w.rowIs b 43 n (rv F)
  ne : b ≠ M
section
variable {w w' : World} {b M n q : Nat} {F G : Nat → Cx}
theorem Mm.kept (h : Mm w b M n F q) (k : Kept w w') : Mm w' b M n F q := ⟨h.hd.kept k, k.row h.row, h.ne⟩
theorem Mm.muts {D : List Nat} (h : Mm w b M n F q) (k : Mut D w w') (h1 : b ∉ D) (h2 : M ∉ D) : Mm w' b M n F q := ⟨h.hd.muts k h2, k.row h.row h1, h.ne⟩
theorem Mm.asked (h : Mm w b M n F q) : Mm (w.setCell ⟨M, 1, none⟩ (.int .i64 ((q : Int) + 1))) b M n F (q + 1) :=
  ⟨by have := h.hd.set (i := 1) rfl (.int .i64 ((q : Int) + 1)); exact this, h.row.setOther h.ne _, h.ne⟩
theorem Mm.put (h : Mm w b M n F q) (a : Nat) (z : Cx) (he : ∀ j, j < n → (if j = a then z else F j) = G j) : Mm (w.setCell ⟨b, a, none⟩ (cx z)) b M n G q :=
  ⟨h.hd.set_other h.ne _, (h.row.set a (cx z)).congr (fun j hj => by
    have e := he j hj
    by_cases ea : j = a
    · rw [if_pos ea] at e
      simp only [if_pos ea, rv, cx, ← e]
    · rw [if_neg ea] at e
      simp only [if_neg ea, rv, ← e]), h.ne⟩
theorem Mm.get (h : Mm w b M n F q) {a : Nat} (ha : a < n) : w.cell? ⟨b, a, none⟩ = some (cx (F a)) := h.row.cell ha
end

theorem info_cx : (Try.prog.info? 43).map (fun i => (i.zero, i.size, i.bytes)) = some (some (.complex .f64 0 0), 1, 16) := by kernel_rfl
theorem run_make_cx (n : Nat) (h : n ≤ 1000000) (w : World) :
    (Instr.makeSlice 58 (.int .i64 (n : Int)) (.int .i64 (n : Int))).run Try.prog w = .ok (.slice (some ⟨w.heap.size, 0, none⟩) n n) (w.alloc (.cells (madeCells #[.complex .f64 0 0] n) 43)) := by
  obtain ⟨i, hi, hz, hs, hb⟩ := info_parts info_cx
  have hr := run_make (P := Try.prog) w 58 43 i _ Try.underlying58 hi hz .i64 .i64 n n (by omega) (Int.le_refl _) (by rw [hb]; omega) (by omega)
  simp only [Int.toNat_natCast, hs, Nat.mul_one] at hr
  exact hr
theorem row_made_cx (w : World) (n : Nat) : (w.alloc (.cells (madeCells #[.complex .f64 0 0] n) 43)).rowIs w.heap.size 43 n (rv fun _ => cz) := by
  have h := World.rowIs_alloc w (madeCells #[.complex .f64 0 0] n) 43 (rv fun _ => cz) (fun i hi => by
    rw [size_madeCells] at hi
    have e : i % 1 = 0 := by omega
    simp [madeCells, hi, rv, cz, e])
  rwa [size_madeCells] at h

set_option maxHeartbeats 800000 in
theorem mem_new (n : Nat) (w : World) (hn : n ≤ 1000000) :
    Calls Try.prog 31 #[.int .i64 n] w fun e w' => ∃ b M, e = .returned (.tuple #[.pointer (some ⟨M, 0, none⟩), .int .i64 0]) ∧ Mm w' b M n (fun _ => cz) 0 ∧ Kept w w' ∧ w.heap.size ≤ b ∧ w.heap.size ≤ M := by
  have hmk := run_make_cx n hn
  have HO : Hid (Mm ((w.alloc (.cells (madeCells #[.complex .f64 0 0] n) 43)).alloc (.cells #[.slice (some ⟨w.heap.size, 0, none⟩) n n, .int .i64 0] 81)) w.heap.size (w.heap.size + 1) n (fun _ => cz) 0) :=
    ⟨Blk.new2 w _ _ [.slice (some ⟨w.heap.size, 0, none⟩) n n, .int .i64 0] _, ((Kept.refl _).alloc _ _).row (row_made_cx w n), by omega⟩
  go_enter Try.func31, Try.ntmps31
  go_wp2
  go_ret2
  exact ⟨_, _, rfl, HO.out, ((Kept.refl _).alloc _ _).alloc _ _, by omega, by simp⟩

section
variable {b M n q : Nat} {F : Nat → Cx}

set_option maxHeartbeats 400000 in
theorem mem_has (a : Nat) (w : World) (h : Mm w b M n F q) (ha : a < n) :
    Calls Try.prog 38 #[.pointer (some ⟨M, 0, none⟩), .int .i64 a] w fun e w' => e = .returned (.bool true) ∧ w' = w := by
  have c0 := h.hd.at 0 rfl
  clear h
  go_enter Try.func38, Try.ntmps38
  go_wp2
  go_ret
  exact ⟨rfl, rfl⟩

set_option maxHeartbeats 400000 in
theorem mem_len (w : World) (h : Mm w b M n F q) :
    Calls Try.prog 33 #[.pointer (some ⟨M, 0, none⟩)] w fun e w' => e = .returned (.int .i64 n) ∧ w' = w := by
  have c0 := h.hd.at 0 rfl
  clear h
  go_enter Try.func33, Try.ntmps33
  go_wp2
  go_ret
  exact ⟨rfl, rfl⟩

set_option maxHeartbeats 400000 in
theorem mem_count (w : World) (h : Mm w b M n F q) :
    Calls Try.prog 30 #[.pointer (some ⟨M, 0, none⟩)] w fun e w' => e = .returned (.int .i64 q) ∧ w' = w := by
  have c1 := h.hd.at 1 rfl
  clear h
  go_enter Try.func30, Try.ntmps30
  go_wp2
  go_ret
  exact ⟨rfl, rfl⟩

set_option maxHeartbeats 400000 in
theorem mem_peek (a : Nat) (w : World) (h : Mm w b M n F q) (ha : a < n) :
    Calls Try.prog 22 #[.pointer (some ⟨M, 0, none⟩), .int .i64 a] w fun e w' => e = .returned (.complex .f64 (F a).re (F a).im) ∧ w' = w := by
  have C0 : Hid (Calls Try.prog 38 #[.pointer (some ⟨M, 0, none⟩), .int .i64 a] w _) := mem_has a w h ha
  have c0 := h.hd.at 0 rfl
  have c1 := h.get ha
  unfold cx at c1
  clear h
  go_enter Try.func22, Try.ntmps22
  go_wp2_with fail
  refine C0.out.mono ?_
  rintro e w' ⟨rfl, rfl⟩
  go_wp2
  go_ret
  exact ⟨rfl, rfl⟩

set_option maxHeartbeats 800000 in
theorem mem_read (a : Nat) (w : World) (h : Mm w b M n F q) (ha : a < n) (hq : q ≤ 1000000) :
    Calls Try.prog 65 #[.pointer (some ⟨M, 0, none⟩), .int .i64 a] w fun e w' => e = .returned (.tuple #[.complex .f64 (F a).re (F a).im, .int .i64 0]) ∧ Mm w' b M n F (q + 1) ∧ Mut [M] w w' := by
  have h1 := h.asked
  have C0 : Hid (Calls Try.prog 38 #[.pointer (some ⟨M, 0, none⟩), .int .i64 a] (w.setCell ⟨M, 1, none⟩ (.int .i64 ((q : Int) + 1))) _) := mem_has a _ h1 ha
  have c1 := h.hd.at 1 rfl
  have f1 := h.hd.fz
  have HM : Hid (Mm (w.setCell ⟨M, 1, none⟩ (.int .i64 ((q : Int) + 1))) b M n F (q + 1) ∧ Mut [M] w (w.setCell ⟨M, 1, none⟩ (.int .i64 ((q : Int) + 1)))) := ⟨h1, (Mut.refl _ _).setCell (by simp) _⟩
  clear h1 h
  go_enter Try.func65, Try.ntmps65
  go_wp2_with fail
  refine C0.out.mono ?_
  rintro e w' ⟨rfl, rfl⟩
  generalize w.setCell ⟨M, 1, none⟩ (.int .i64 ((q : Int) + 1)) = W at *
  have c0 := HM.out.1.hd.at 0 rfl
  have c2 := HM.out.1.get ha
  unfold cx at c2
  clear C0
  go_wp2
  go_ret2
  exact ⟨rfl, HM.out.1, HM.out.2⟩

set_option maxHeartbeats 800000 in
theorem mem_write {G : Nat → Cx} (a : Nat) (z : Cx) (w : World) (h : Mm w b M n F q) (ha : a < n) (hq : q ≤ 1000000) (he : ∀ j, j < n → (if j = a then z else F j) = G j) :
    Calls Try.prog 12 #[.pointer (some ⟨M, 0, none⟩), .int .i64 a, .complex .f64 z.re z.im] w fun e w' => e = .returned (.int .i64 0) ∧ Mm w' b M n G (q + 1) ∧ Mut [M, b] w w' := by
  have h1 := h.asked
  have C0 : Hid (Calls Try.prog 38 #[.pointer (some ⟨M, 0, none⟩), .int .i64 a] (w.setCell ⟨M, 1, none⟩ (.int .i64 ((q : Int) + 1))) _) := mem_has a _ h1 ha
  have c1 := h.hd.at 1 rfl
  have f1 := h.hd.fz
  have HM : Hid (Mm (w.setCell ⟨M, 1, none⟩ (.int .i64 ((q : Int) + 1))) b M n F (q + 1) ∧ Mut [M, b] w (w.setCell ⟨M, 1, none⟩ (.int .i64 ((q : Int) + 1)))) := ⟨h1, (Mut.refl _ _).setCell (by simp) _⟩
  have HE : Hid (∀ j, j < n → (if j = a then z else F j) = G j) := he
  clear h1 h he
  go_enter Try.func12, Try.ntmps12
  go_wp2_with fail
  refine C0.out.mono ?_
  rintro e w' ⟨rfl, rfl⟩
  generalize w.setCell ⟨M, 1, none⟩ (.int .i64 ((q : Int) + 1)) = W at *
  have c0 := HM.out.1.hd.at 0 rfl
  have c2 := HM.out.1.get ha
  have f2 := HM.out.1.row.frozen
  unfold cx at c2
  clear C0
  go_wp2
  go_ret
  exact ⟨rfl, HM.out.1.put a z HE.out, HM.out.2.setCell (by simp) _⟩
end
end Go.Proofs.Ytgnikgkpbibmgaa
