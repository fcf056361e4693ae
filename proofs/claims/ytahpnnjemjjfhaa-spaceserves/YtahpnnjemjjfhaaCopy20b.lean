/-
  conf.Copy: a copy, alike in all.
-/
import Derived.Test.YtahpnnjemjjfhaaCopy20
namespace Go.Proofs.Ytahpnnjemjjfhaa
open Go.RowKit

set_option maxHeartbeats 2000000 in
theorem ccopy_any (n0 n1 n2 n3 n4 n5 n6 n7 : Int) (x : Option Addr) (l c : Nat) (S : Nat → Sh) (R : Nat → Nat → Bool) (w : World) (hl : l ≤ 1000000) (hSl : ∀ i, i < l → (S i).l ≤ 1000) (hS : Shps w x l S) (hR : ∀ i, i < l → Refs w (S i).x (S i).l (R i)) :
    Calls Try.prog 69 #[.agg #[.int .i64 n0, .int .i64 n1, .int .i64 n2, .int .i64 n3, .int .i64 n4, .int .i64 n5, .int .i64 n6, .int .i64 n7, .slice x l c]] w fun e w' =>
      ∃ g T, e = .returned (.agg #[.int .i64 n0, .int .i64 n1, .int .i64 n2, .int .i64 n3, .int .i64 n4, .int .i64 n5, .int .i64 n6, .int .i64 n7, .slice (some ⟨g, 0, none⟩) l l]) ∧
        w.heap.size ≤ g ∧ w'.rowIs g 56 (l * 2) (cf T) ∧ (∀ i, i < l → Cop w' g (S i) (T i) (R i)) ∧ Kept w w' := by
  have hmk := run_make_shapes l hl
  have HS : Hid (Shps w x l S) := hS
  have HR : Hid (∀ i, i < l → Refs w (S i).x (S i).l (R i)) := hR
  have HL : Hid (∀ i, i < l → (S i).l ≤ 1000) := hSl
  clear hS hR hSl
  go_enter Try.func69, Try.ntmps69
  go_wp2_with fail
  generalize hW0 : w.alloc (Obj.cells #[Value.int .i64 n0, .int .i64 n1, .int .i64 n2, .int .i64 n3, .int .i64 n4, .int .i64 n5, .int .i64 n6, .int .i64 n7, .slice x l c] _) = W0
  have z0 : W0.heap.size = w.heap.size + 1 := by rw [← hW0]; simp
  have b0 : Blk W0 w.heap.size (cl n0 n1 n2 n3 n4 n5 n6 n7 (.slice x l c)) := by rw [← hW0]; exact Blk.new w _ _
  have k0 : Kept w W0 := by rw [← hW0]; exact (Kept.refl w).alloc _ _
  clear hW0
  generalize hW1 : W0.alloc (Obj.cells #[Value.int .i64 0, .int .i64 0, .int .i64 0, .int .i64 0, .int .i64 0, .int .i64 0, .int .i64 0, .int .i64 0, .slice none 0 0] _) = W1
  have z1 : W1.heap.size = w.heap.size + 1 + 1 := by rw [← hW1]; simp [z0]
  have b1 : Blk W1 (w.heap.size + 1) (cl 0 0 0 0 0 0 0 0 (.slice none 0 0)) := by rw [← hW1, ← z0]; exact Blk.new W0 _ _
  have k1 : Kept W0 W1 := by rw [← hW1]; exact (Kept.refl W0).alloc _ _
  have b01 : Blk W1 w.heap.size (cl n0 n1 n2 n3 n4 n5 n6 n7 (.slice x l c)) := b0.kept k1
  have kw : Kept w W1 := k0.trans k1
  clear hW1 z0 k0 k1 b0
  generalize hW2 : W1.alloc (Obj.cells (madeCells #[Value.bool false, Value.slice none 0 0] (l * 2)) _) = W2
  have r2 : W2.rowIs (w.heap.size + 1 + 1) 56 (l * 2) (cf fun _ => ⟨false, none, 0, 0⟩) := by rw [← hW2, ← z1]; exact crow_made W1 l _
  have k2 : Kept W1 W2 := by rw [← hW2]; exact (Kept.refl W1).alloc _ _
  clear hW2
  have Z1 : Hid (W1.heap.size = w.heap.size + 1 + 1) := z1
  have BB : Hid (Blk W1 (w.heap.size + 1) (cl 0 0 0 0 0 0 0 0 (.slice none 0 0)) ∧ Blk W1 w.heap.size (cl n0 n1 n2 n3 n4 n5 n6 n7 (.slice x l c)) ∧ Kept w W1) := ⟨b1, b01, kw⟩
  have RK : Hid (W2.rowIs (w.heap.size + 1 + 1) 56 (l * 2) (cf fun _ => ⟨false, none, 0, 0⟩) ∧ Kept W1 W2) := ⟨r2, k2⟩
  clear z1 b1 b01 kw r2 k2
  go_loopg [13] l (fun m i wr => ∃ (k : Nat) (T : Nat → Sh), i = .int .i64 k ∧ k ≤ l ∧ m = l - k ∧ Hid (Kept W1 wr ∧ wr.rowIs (w.heap.size + 1 + 1) 56 (l * 2) (cf T) ∧ ∀ i, i < k → Cop wr (w.heap.size + 1 + 1) (S i) (T i) (R i)))
  case atStart => exact ⟨0, _, rfl, by omega, by omega, RK.out.2, RK.out.1, fun _ h => absurd h (Nat.not_lt_zero _)⟩
  case round =>
    obtain ⟨k, T, rfl, hk0, hm, HH⟩ := hrel
    have HM : Hid _ := hm
    clear hm
    by_cases hlt : k < l
    · obtain ⟨b, o, rfl, hb, hc⟩ := HS.out (by omega)
      have kr : Kept w wr := BB.out.2.2.trans HH.out.1
      have a0 : wr.cell? ⟨b, o + k * 2, none⟩ = _ := (kr.cell hb).trans (hc k hlt).1
      have a1 : wr.cell? ⟨b, o + k * 2 + 1, none⟩ = _ := (kr.cell hb).trans (hc k hlt).2
      have C : Hid (∀ w', Kept w w' → _) := fun w' kk => copy_shape (S k) (R k) w' (Nat.le_trans (HL.out k hlt) (by decide)) ((HR.out k hlt).kept kk)
      have e0 := HH.out.2.1.cell (i := k * 2) (by omega)
      have e1 := HH.out.2.1.cell (i := k * 2 + 1) (by omega)
      have KR : Hid (Kept w wr) := kr
      clear hc kr
      go_wp2_with fail
      refine (C.out _ (KR.out.alloc _ _)).mono ?_
      rintro e w2 ⟨g, rfl, hg, hRg, hk2⟩
      have hk3 : Kept wr w2 := hk2.ofAlloc
      have hrow := hk3.row HH.out.2.1
      have e0 := hrow.cell (i := k * 2) (by omega)
      have e1 := hrow.cell (i := k * 2 + 1) (by omega)
      have f0 := hrow.frozen
      have HN : Hid _ := copy_step HH.out.1 (by rw [Z1.out]; exact Nat.le_refl _) HH.out.2.1 HH.out.2.2 hk3 (Nat.le_trans (by simp) hg) hRg
      clear hk2 hk3 hrow hg hRg
      go_wp2
      go_roundg (gk - 1)
      case measure => have := HM.out; omega
      case rel =>
        have := HM.out
        obtain ⟨T', H0, H1, H2⟩ := HN.out
        exact ⟨k + 1, T', by go_num, by omega, by omega, H0, H1, H2⟩
    · obtain rfl : k = l := by omega
      obtain ⟨B1, B0, Kw⟩ := BB.out
      have C0 := B0.kept HH.out.1
      have C1 := B1.kept HH.out.1
      have c0 := C0.at 0 rfl
      have c1 := C0.at 1 rfl
      have c2 := C0.at 2 rfl
      have c3 := C0.at 3 rfl
      have c4 := C0.at 4 rfl
      have c5 := C0.at 5 rfl
      have c6 := C0.at 6 rfl
      have c7 := C0.at 7 rfl
      have c8 := C0.at 8 rfl
      have d0 := C1.at 0 rfl
      have d1 := C1.at 1 rfl
      have d2 := C1.at 2 rfl
      have d3 := C1.at 3 rfl
      have d4 := C1.at 4 rfl
      have d5 := C1.at 5 rfl
      have d6 := C1.at 6 rfl
      have d7 := C1.at 7 rfl
      have d8 := C1.at 8 rfl
      have f0 := C0.fz
      have f1 := C1.fz
      have HC : Hid (_ ∧ _ ∧ _) := ⟨C0, C1, Kw⟩
      clear B1 B0 Kw C0 C1
      go_wp2
      (try simp only [Exit.inBlock, Exit.then])
      obtain ⟨C0, C1, Kw⟩ := HC.out
      have D0 := done_set (a := ⟨w.heap.size, 8, none⟩) ⟨Kw.trans HH.out.1, HH.out.2.1, HH.out.2.2⟩ (by simp) (by simp; omega) (.slice (some ⟨w.heap.size + 1 + 1, 0, none⟩) k k)
      have D1 := (C1.set_other (a := ⟨w.heap.size, 8, none⟩) (by simp) (.slice (some ⟨w.heap.size + 1 + 1, 0, none⟩) k k))
      generalize wr.setCell ⟨w.heap.size, 8, none⟩ (.slice (some ⟨w.heap.size + 1 + 1, 0, none⟩) k k) = W4 at *
      have D0 := done_set (a := ⟨w.heap.size + 1, 0, none⟩) D0 (by simp) (by simp) (.int .i64 n0)
      have D1 := D1.set (i := 0) rfl (.int .i64 n0)
      generalize W4.setCell ⟨w.heap.size + 1, 0, none⟩ (.int .i64 n0) = W4 at *
      have D0 := done_set (a := ⟨w.heap.size + 1, 1, none⟩) D0 (by simp) (by simp) (.int .i64 n1)
      have D1 := D1.set (i := 1) rfl (.int .i64 n1)
      generalize W4.setCell ⟨w.heap.size + 1, 1, none⟩ (.int .i64 n1) = W4 at *
      have D0 := done_set (a := ⟨w.heap.size + 1, 2, none⟩) D0 (by simp) (by simp) (.int .i64 n2)
      have D1 := D1.set (i := 2) rfl (.int .i64 n2)
      generalize W4.setCell ⟨w.heap.size + 1, 2, none⟩ (.int .i64 n2) = W4 at *
      have D0 := done_set (a := ⟨w.heap.size + 1, 3, none⟩) D0 (by simp) (by simp) (.int .i64 n3)
      have D1 := D1.set (i := 3) rfl (.int .i64 n3)
      generalize W4.setCell ⟨w.heap.size + 1, 3, none⟩ (.int .i64 n3) = W4 at *
      have D0 := done_set (a := ⟨w.heap.size + 1, 4, none⟩) D0 (by simp) (by simp) (.int .i64 n4)
      have D1 := D1.set (i := 4) rfl (.int .i64 n4)
      generalize W4.setCell ⟨w.heap.size + 1, 4, none⟩ (.int .i64 n4) = W4 at *
      have D0 := done_set (a := ⟨w.heap.size + 1, 5, none⟩) D0 (by simp) (by simp) (.int .i64 n5)
      have D1 := D1.set (i := 5) rfl (.int .i64 n5)
      generalize W4.setCell ⟨w.heap.size + 1, 5, none⟩ (.int .i64 n5) = W4 at *
      have D0 := done_set (a := ⟨w.heap.size + 1, 6, none⟩) D0 (by simp) (by simp) (.int .i64 n6)
      have D1 := D1.set (i := 6) rfl (.int .i64 n6)
      generalize W4.setCell ⟨w.heap.size + 1, 6, none⟩ (.int .i64 n6) = W4 at *
      have D0 := done_set (a := ⟨w.heap.size + 1, 7, none⟩) D0 (by simp) (by simp) (.int .i64 n7)
      have D1 := D1.set (i := 7) rfl (.int .i64 n7)
      generalize W4.setCell ⟨w.heap.size + 1, 7, none⟩ (.int .i64 n7) = W4 at *
      have D0 := done_set (a := ⟨w.heap.size + 1, 8, none⟩) D0 (by simp) (by simp) (.slice (some ⟨w.heap.size + 1 + 1, 0, none⟩) k k)
      have D1 := D1.set (i := 8) rfl (.slice (some ⟨w.heap.size + 1 + 1, 0, none⟩) k k)
      generalize W4.setCell ⟨w.heap.size + 1, 8, none⟩ (.slice (some ⟨w.heap.size + 1 + 1, 0, none⟩) k k) = W4 at *
      exact bodyPost_ret_by (v := .agg #[.int .i64 n0, .int .i64 n1, .int .i64 n2, .int .i64 n3, .int .i64 n4, .int .i64 n5, .int .i64 n6, .int .i64 n7, .slice (some ⟨w.heap.size + 1 + 1, 0, none⟩) k k])
        (results_blk rfl _ _ (w.heap.size + 1) (cl n0 n1 n2 n3 n4 n5 n6 n7 (.slice (some ⟨w.heap.size + 1 + 1, 0, none⟩) k k)) rfl D1 Try.underlying24 (by kernel_rfl)) rfl
        ⟨w.heap.size + 1 + 1, T, rfl, by omega, D0.2.1, D0.2.2, D0.1⟩

end Go.Proofs.Ytahpnnjemjjfhaa
