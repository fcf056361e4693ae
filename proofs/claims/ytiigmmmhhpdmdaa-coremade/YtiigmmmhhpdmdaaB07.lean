/-
  The modules Copy20b, Few12, Area12, Spn17, SpcA, one behind another.
-/
import Derived.OwnWalk
import Derived.Test.YtiigmmmhhpdmdaaB01
import Derived.Test.YtiigmmmhhpdmdaaB02
import Derived.Test.YtiigmmmhhpdmdaaB03
import Derived.Test.YtiigmmmhhpdmdaaB04
import Derived.Test.YtiigmmmhhpdmdaaB06
/-
  conf.Copy: a copy, alike in all.
-/
namespace Go.Proofs.Ytiigmmmhhpdmdaa
open Go.RowKit

set_option maxHeartbeats 2000000 in
theorem ccopy_any (n0 n1 n2 n3 n4 n5 n6 n7 : Int) (x : Option Addr) (l c : Nat) (S : Nat → Sh) (R : Nat → Nat → Bool) (w : World) (hl : l ≤ 1000000) (hSl : ∀ i, i < l → (S i).l ≤ 1000) (hS : Shps w x l S) (hR : ∀ i, i < l → Refs w (S i).x (S i).l (R i)) :
    Calls Try.prog 33 #[.agg #[.int .i64 n0, .int .i64 n1, .int .i64 n2, .int .i64 n3, .int .i64 n4, .int .i64 n5, .int .i64 n6, .int .i64 n7, .slice x l c]] w fun e w' =>
      ∃ g T, e = .returned (.agg #[.int .i64 n0, .int .i64 n1, .int .i64 n2, .int .i64 n3, .int .i64 n4, .int .i64 n5, .int .i64 n6, .int .i64 n7, .slice (some ⟨g, 0, none⟩) l l]) ∧
        w.heap.size ≤ g ∧ w'.rowIs g 72 (l * 2) (cf T) ∧ (∀ i, i < l → Cop w' g (S i) (T i) (R i)) ∧ Kept w w' := by
  have hmk := run_make_shapes l hl
  have HS : Hid (Shps w x l S) := hS
  have HR : Hid (∀ i, i < l → Refs w (S i).x (S i).l (R i)) := hR
  have HL : Hid (∀ i, i < l → (S i).l ≤ 1000) := hSl
  clear hS hR hSl
  go_enter Try.func33, Try.ntmps33
  go_wp2_with fail
  generalize hW0 : w.alloc (Obj.cells #[Value.int .i64 n0, .int .i64 n1, .int .i64 n2, .int .i64 n3, .int .i64 n4, .int .i64 n5, .int .i64 n6, .int .i64 n7, .slice x l c] _) = W0
  have z0 : W0.heap.size = w.heap.size + 1 := by rw [← hW0]; simp
  have b0 : Blk W0 w.heap.size (cl n0 n1 n2 n3 n4 n5 n6 n7 (.slice x l c)) := by rw [← hW0]; exact Blk.new w _ _
  have k0 : Kept w W0 := by rw [← hW0]; exact (Kept.refl w).alloc _ _
  clear hW0
  generalize hW1 : W0.alloc (Obj.cells #[Value.int .i64 0, .int .i64 0, .int .i64 0, .int .i64 0, .int .i64 0, .int .i64 0, .int .i64 0, .int .i64 0, .slice none 0 0] _) = W1
  have z1 : W1.heap.size = w.heap.size + 1 + 1 := by rw [← hW1]; simp [z0]
  have b1 : Blk W1 (w.heap.size + 1) (cl 0 0 0 0 0 0 0 0 (.slice none 0 0)) := by rw [← hW1, ← z0]; exact Blk.new W0 _ _
  have k1 : Kept W0 W1 := by rw [← hW1]; exact (Kept.refl W0).alloc _ _
  have b01 : Blk W1 w.heap.size (cl n0 n1 n2 n3 n4 n5 n6 n7 (.slice x l c)) := b0.kept k1
  have kw : Kept w W1 := k0.trans k1
  clear hW1 z0 k0 k1 b0
  generalize hW2 : W1.alloc (Obj.cells (madeCells #[Value.bool false, Value.slice none 0 0] (l * 2)) _) = W2
  have r2 : W2.rowIs (w.heap.size + 1 + 1) 72 (l * 2) (cf fun _ => ⟨false, none, 0, 0⟩) := by rw [← hW2, ← z1]; exact crow_made W1 l _
  have k2 : Kept W1 W2 := by rw [← hW2]; exact (Kept.refl W1).alloc _ _
  clear hW2
  have Z1 : Hid (W1.heap.size = w.heap.size + 1 + 1) := z1
  have BB : Hid (Blk W1 (w.heap.size + 1) (cl 0 0 0 0 0 0 0 0 (.slice none 0 0)) ∧ Blk W1 w.heap.size (cl n0 n1 n2 n3 n4 n5 n6 n7 (.slice x l c)) ∧ Kept w W1) := ⟨b1, b01, kw⟩
  have RK : Hid (W2.rowIs (w.heap.size + 1 + 1) 72 (l * 2) (cf fun _ => ⟨false, none, 0, 0⟩) ∧ Kept W1 W2) := ⟨r2, k2⟩
  clear z1 b1 b01 kw r2 k2
  go_loopg [13] l (fun m i wr => ∃ (k : Nat) (T : Nat → Sh), i = .int .i64 k ∧ k ≤ l ∧ m = l - k ∧ Hid (Kept W1 wr ∧ wr.rowIs (w.heap.size + 1 + 1) 72 (l * 2) (cf T) ∧ ∀ i, i < k → Cop wr (w.heap.size + 1 + 1) (S i) (T i) (R i)))
  case atStart => exact ⟨0, _, rfl, by omega, by omega, RK.out.2, RK.out.1, fun _ h => absurd h (Nat.not_lt_zero _)⟩
  case round =>
    obtain ⟨k, T, rfl, hk0, hm, HH⟩ := hrel
    have HM : Hid _ := hm
    clear hm
    by_cases hlt : k < l
    · obtain ⟨b, o, rfl, hb, hc⟩ := HS.out (by omega)
      have kr : Kept w wr := BB.out.2.2.trans HH.out.1
      have a0 : wr.cell? ⟨b, o + k * 2, none⟩ = _ := (kr.cell hb).trans (hc k hlt).1
      have a1 : wr.cell? ⟨b, o + k * 2 + 1, none⟩ = _ := (kr.cell hb).trans (hc k hlt).2
      have C : Hid (∀ w', Kept w w' → _) := fun w' kk => copy_shape (S k) (R k) w' (Nat.le_trans (HL.out k hlt) (by decide)) ((HR.out k hlt).kept kk)
      have e0 := HH.out.2.1.cell (i := k * 2) (by omega)
      have e1 := HH.out.2.1.cell (i := k * 2 + 1) (by omega)
      have KR : Hid (Kept w wr) := kr
      clear hc kr
      go_wp2_with fail
      refine (C.out _ (KR.out.alloc _ _)).mono ?_
      rintro e w2 ⟨g, rfl, hg, hRg, hk2⟩
      have hk3 : Kept wr w2 := hk2.ofAlloc
      have hrow := hk3.row HH.out.2.1
      have e0 := hrow.cell (i := k * 2) (by omega)
      have e1 := hrow.cell (i := k * 2 + 1) (by omega)
      have f0 := hrow.frozen
      have HN : Hid _ := copy_step HH.out.1 (by rw [Z1.out]; exact Nat.le_refl _) HH.out.2.1 HH.out.2.2 hk3 (Nat.le_trans (by simp) hg) hRg
      clear hk2 hk3 hrow hg hRg
      go_wp2
      go_roundg (gk - 1)
      case measure => have := HM.out; omega
      case rel =>
        have := HM.out
        obtain ⟨T', H0, H1, H2⟩ := HN.out
        exact ⟨k + 1, T', by go_num, by omega, by omega, H0, H1, H2⟩
    · obtain rfl : k = l := by omega
      obtain ⟨B1, B0, Kw⟩ := BB.out
      have C0 := B0.kept HH.out.1
      have C1 := B1.kept HH.out.1
      have c0 := C0.at 0 rfl
      have c1 := C0.at 1 rfl
      have c2 := C0.at 2 rfl
      have c3 := C0.at 3 rfl
      have c4 := C0.at 4 rfl
      have c5 := C0.at 5 rfl
      have c6 := C0.at 6 rfl
      have c7 := C0.at 7 rfl
      have c8 := C0.at 8 rfl
      have d0 := C1.at 0 rfl
      have d1 := C1.at 1 rfl
      have d2 := C1.at 2 rfl
      have d3 := C1.at 3 rfl
      have d4 := C1.at 4 rfl
      have d5 := C1.at 5 rfl
      have d6 := C1.at 6 rfl
      have d7 := C1.at 7 rfl
      have d8 := C1.at 8 rfl
      have f0 := C0.fz
      have f1 := C1.fz
      have HC : Hid (_ ∧ _ ∧ _) := ⟨C0, C1, Kw⟩
      clear B1 B0 Kw C0 C1
      go_wp2
      (try simp only [Exit.inBlock, Exit.then])
      obtain ⟨C0, C1, Kw⟩ := HC.out
      have D0 := done_set (a := ⟨w.heap.size, 8, none⟩) ⟨Kw.trans HH.out.1, HH.out.2.1, HH.out.2.2⟩ (by simp) (by simp; omega) (.slice (some ⟨w.heap.size + 1 + 1, 0, none⟩) k k)
      have D1 := (C1.set_other (a := ⟨w.heap.size, 8, none⟩) (by simp) (.slice (some ⟨w.heap.size + 1 + 1, 0, none⟩) k k))
      generalize wr.setCell ⟨w.heap.size, 8, none⟩ (.slice (some ⟨w.heap.size + 1 + 1, 0, none⟩) k k) = W4 at *
      have D0 := done_set (a := ⟨w.heap.size + 1, 0, none⟩) D0 (by simp) (by simp) (.int .i64 n0)
      have D1 := D1.set (i := 0) rfl (.int .i64 n0)
      generalize W4.setCell ⟨w.heap.size + 1, 0, none⟩ (.int .i64 n0) = W4 at *
      have D0 := done_set (a := ⟨w.heap.size + 1, 1, none⟩) D0 (by simp) (by simp) (.int .i64 n1)
      have D1 := D1.set (i := 1) rfl (.int .i64 n1)
      generalize W4.setCell ⟨w.heap.size + 1, 1, none⟩ (.int .i64 n1) = W4 at *
      have D0 := done_set (a := ⟨w.heap.size + 1, 2, none⟩) D0 (by simp) (by simp) (.int .i64 n2)
      have D1 := D1.set (i := 2) rfl (.int .i64 n2)
      generalize W4.setCell ⟨w.heap.size + 1, 2, none⟩ (.int .i64 n2) = W4 at *
      have D0 := done_set (a := ⟨w.heap.size + 1, 3, none⟩) D0 (by simp) (by simp) (.int .i64 n3)
      have D1 := D1.set (i := 3) rfl (.int .i64 n3)
      generalize W4.setCell ⟨w.heap.size + 1, 3, none⟩ (.int .i64 n3) = W4 at *
      have D0 := done_set (a := ⟨w.heap.size + 1, 4, none⟩) D0 (by simp) (by simp) (.int .i64 n4)
      have D1 := D1.set (i := 4) rfl (.int .i64 n4)
      generalize W4.setCell ⟨w.heap.size + 1, 4, none⟩ (.int .i64 n4) = W4 at *
      have D0 := done_set (a := ⟨w.heap.size + 1, 5, none⟩) D0 (by simp) (by simp) (.int .i64 n5)
      have D1 := D1.set (i := 5) rfl (.int .i64 n5)
      generalize W4.setCell ⟨w.heap.size + 1, 5, none⟩ (.int .i64 n5) = W4 at *
      have D0 := done_set (a := ⟨w.heap.size + 1, 6, none⟩) D0 (by simp) (by simp) (.int .i64 n6)
      have D1 := D1.set (i := 6) rfl (.int .i64 n6)
      generalize W4.setCell ⟨w.heap.size + 1, 6, none⟩ (.int .i64 n6) = W4 at *
      have D0 := done_set (a := ⟨w.heap.size + 1, 7, none⟩) D0 (by simp) (by simp) (.int .i64 n7)
      have D1 := D1.set (i := 7) rfl (.int .i64 n7)
      generalize W4.setCell ⟨w.heap.size + 1, 7, none⟩ (.int .i64 n7) = W4 at *
      have D0 := done_set (a := ⟨w.heap.size + 1, 8, none⟩) D0 (by simp) (by simp) (.slice (some ⟨w.heap.size + 1 + 1, 0, none⟩) k k)
      have D1 := D1.set (i := 8) rfl (.slice (some ⟨w.heap.size + 1 + 1, 0, none⟩) k k)
      generalize W4.setCell ⟨w.heap.size + 1, 8, none⟩ (.slice (some ⟨w.heap.size + 1 + 1, 0, none⟩) k k) = W4 at *
      exact bodyPost_ret_by (v := .agg #[.int .i64 n0, .int .i64 n1, .int .i64 n2, .int .i64 n3, .int .i64 n4, .int .i64 n5, .int .i64 n6, .int .i64 n7, .slice (some ⟨w.heap.size + 1 + 1, 0, none⟩) k k])
        (results_blk rfl _ _ (w.heap.size + 1) (cl n0 n1 n2 n3 n4 n5 n6 n7 (.slice (some ⟨w.heap.size + 1 + 1, 0, none⟩) k k)) rfl D1 Try.underlying24 (by kernel_rfl)) rfl
        ⟨w.heap.size + 1 + 1, T, rfl, by omega, D0.2.1, D0.2.2, D0.1⟩

end Go.Proofs.Ytiigmmmhhpdmdaa

/-
  Small configurations, and the contract of the laws' own 'Few' (package spolaw4).
-/
namespace Go.Proofs.Ytiigmmmhhpdmdaa
open Go.RowKit

/-- One shape that lies in a block of its own. -/
theorem shps_one {w : World} {b : Nat} (s : Sh) (hb : b < w.heap.size) (h0 : w.cell? ⟨b, 0, none⟩ = some (.bool s.arr)) (h1 : w.cell? ⟨b, 1, none⟩ = some (.slice s.x s.l s.c)) : Shps w (some ⟨b, 0, none⟩) 1 (fun _ => s) := fun _ =>
  ⟨b, 0, rfl, hb, fun i hi => by
    obtain rfl : i = 0 := by omega
    exact ⟨h0, h1⟩⟩

theorem mays_one (s : Sh) (h : s.may = true) : Mays 1 (fun _ => s) := ⟨by omega, by omega, fun _ _ => h⟩

/-- Small: at most 100 shapes of at most 1000 fields. -/
def Small (l : Nat) (S : Nat → Sh) : Prop := l ≤ 100 ∧ ∀ i, i < l → (S i).l ≤ 1000

set_option maxHeartbeats 1000000 in
theorem few_any (n0 n1 n2 n3 n4 n5 n6 n7 : Int) (x : Option Addr) (l c : Nat) (S : Nat → Sh) (p : Bool) (w : World) (hS : Shps w x l S) (hp : p = true ↔ Small l S) :
    Calls Try.prog 7 #[.agg #[.int .i64 n0, .int .i64 n1, .int .i64 n2, .int .i64 n3, .int .i64 n4, .int .i64 n5, .int .i64 n6, .int .i64 n7, .slice x l c]] w fun e w' => e = .returned (.bool p) ∧ Kept w w' := by
  have HP : Hid _ := hp
  have HS : Hid _ := hS
  clear hp hS
  go_enter Try.func7, Try.ntmps7
  go_wp2_with fail
  generalize hW1 : w.alloc _ = W1
  have B1 : Hid (Blk W1 w.heap.size (cl n0 n1 n2 n3 n4 n5 n6 n7 (.slice x l c))) := by rw [← hW1]; exact Blk.new w _ _
  have K1 : Hid (Kept w W1) := by rw [← hW1]; exact (Kept.refl w).alloc _ _
  clear hW1
  have c8 := B1.out.at 8 rfl
  go_loopg [3] l (fun m i wr => ∃ k : Nat, i = .int .i64 k ∧ k ≤ l ∧ k ≤ 100 ∧ m = l - k ∧ Hid (wr = W1) ∧ Hid (∀ i, i < k → (S i).l ≤ 1000))
  case atStart => exact ⟨0, rfl, by omega, by omega, by omega, rfl, fun _ h => absurd h (Nat.not_lt_zero _)⟩
  case round =>
    obtain ⟨k, rfl, hk0, hk1, hm, hw, hall⟩ := hrel
    obtain rfl := hw.out
    have HM : Hid _ := hm
    clear hm
    by_cases hlt : k < l
    · by_cases hlt2 : k < 100
      · obtain ⟨b, o, rfl, hb, hc⟩ := HS.out (by omega)
        have a1 : wr.cell? ⟨b, o + k * 2 + 1, none⟩ = _ := (K1.out.cell hb).trans (hc k hlt).2
        clear hc
        by_cases hbig : ((S k).l : Int) > 1000
        · obtain rfl : p = false := by
            cases p
            · rfl
            · have m : Small l S := by have := HP.out; simpa using this
              have := m.2 k hlt
              omega
          go_wp2
          go_ret
          exact ⟨rfl, K1.out⟩
        · have hall2 : Hid (∀ i, i < k + 1 → (S i).l ≤ 1000) := fun i hi => by
            rcases Nat.lt_succ_iff_lt_or_eq.1 hi with h | rfl
            · exact hall.out i h
            · omega
          go_wp2
          go_roundg (gk - 1)
          case measure => have := HM.out; omega
          case rel => have := HM.out; exact ⟨k + 1, by go_num, by omega, by omega, by omega, rfl, hall2⟩
      · obtain rfl : p = false := by
          cases p
          · rfl
          · have m : Small l S := by have := HP.out; simpa using this
            have := m.1
            omega
        have hl2 : ¬ (l : Int) ≤ 100 := by omega
        go_wp2
        go_ret
        exact ⟨by simp, K1.out⟩
    · obtain rfl : k = l := by omega
      obtain rfl : p = true := by
        cases p
        · have m := HP.out
          simp at m
          exact absurd ⟨by omega, hall.out⟩ m
        · rfl
      have hl2 : (k : Int) ≤ 100 := by omega
      go_wp2
      go_ret
      exact ⟨by simp, K1.out⟩

end Go.Proofs.Ytiigmmmhhpdmdaa

/-
  Contracts of package area (chapter 5), over conf.Check's.
-/
namespace Go.Proofs.Ytiigmmmhhpdmdaa
open Go.RowKit

/-- A configuration that may be. -/
def Good (n0 n1 n2 n3 n4 n5 n6 n7 : Int) (l : Nat) (S : Nat → Sh) : Prop := Fits n0 n1 n2 n3 n4 n5 n6 n7 ∧ Mays l S

/-- An address and its error: u and 0 where there is one, else 0 and 1. -/
structure At (P : Prop) (u v r : Int) : Prop where
  yes : P → v = u ∧ r = 0
  no : ¬ P → v = 0 ∧ r = 1
theorem At.some (P : Prop) (u : Int) : ∃ v r, At P u v r := by
  by_cases h : P
  · exact ⟨u, 0, fun _ => ⟨rfl, rfl⟩, fun n => absurd h n⟩
  · exact ⟨0, 1, fun y => absurd y h, fun _ => ⟨rfl, rfl⟩⟩
theorem At.is {P : Prop} (u : Int) (h : P) : At P u u 0 := ⟨fun _ => ⟨rfl, rfl⟩, fun n => absurd h n⟩
theorem At.not {P : Prop} (u : Int) (h : ¬ P) : At P u 0 1 := ⟨fun y => absurd y h, fun _ => ⟨rfl, rfl⟩⟩
theorem At.one {P : Prop} {u v r : Int} (h : At P u v r) : r = 0 ∨ r = 1 := by
  by_cases p : P
  · exact .inl (h.yes p).2
  · exact .inr (h.no p).2

/-- A number, 0 where there is none. -/
structure Is (P : Prop) (u v : Int) : Prop where
  yes : P → v = u
  no : ¬ P → v = 0
theorem Is.some (P : Prop) (u : Int) : ∃ v, Is P u v := by
  by_cases h : P
  · exact ⟨u, fun _ => rfl, fun n => absurd h n⟩
  · exact ⟨0, fun y => absurd y h, fun _ => rfl⟩
theorem Is.is {P : Prop} (u : Int) (h : P) : Is P u u := ⟨fun _ => rfl, fun n => absurd h n⟩

/-- What an address is of. -/
structure OfIs (P : Prop) (n0 n1 n2 a r i k : Int) : Prop where
  no : ¬ (P ∧ 0 ≤ a ∧ a < 8 * n0 + 2 * n1 + n2) → r = 0 ∧ i = 0 ∧ k = 0
  frag : P → 0 ≤ a → a < 8 * n0 → r = 1 ∧ i = a / 8 ∧ k = a % 8
  sp0 : P → 8 * n0 ≤ a → a < 8 * n0 + n1 → r = 2 ∧ i = 0 ∧ k = a - 8 * n0
  sp1 : P → 8 * n0 + n1 ≤ a → a < 8 * n0 + 2 * n1 → r = 3 ∧ i = 0 ∧ k = a - 8 * n0 - n1
  glob : P → 8 * n0 + 2 * n1 ≤ a → a < 8 * n0 + 2 * n1 + n2 → r = 4 ∧ i = 0 ∧ k = a - 8 * n0 - 2 * n1
theorem OfIs.some {n0 n1 n2 n3 n4 n5 n6 n7 : Int} {l : Nat} {S : Nat → Sh} (a : Int) : ∃ r i k, OfIs (Good n0 n1 n2 n3 n4 n5 n6 n7 l S) n0 n1 n2 a r i k := by
  by_cases h : Good n0 n1 n2 n3 n4 n5 n6 n7 l S ∧ 0 ≤ a ∧ a < 8 * n0 + 2 * n1 + n2
  · obtain ⟨hg, h0, h1⟩ := h
    obtain ⟨⟨f0, f1, f2, _⟩, _⟩ := id hg
    by_cases g0 : a < 8 * n0
    · exact ⟨1, a / 8, a % 8, fun n => absurd ⟨hg, h0, h1⟩ n, fun _ _ _ => ⟨rfl, rfl, rfl⟩, fun _ _ _ => by omega, fun _ _ _ => by omega, fun _ _ _ => by omega⟩
    · by_cases g1 : a < 8 * n0 + n1
      · exact ⟨2, 0, a - 8 * n0, fun n => absurd ⟨hg, h0, h1⟩ n, fun _ _ _ => by omega, fun _ _ _ => ⟨rfl, rfl, rfl⟩, fun _ _ _ => by omega, fun _ _ _ => by omega⟩
      · by_cases g2 : a < 8 * n0 + 2 * n1
        · exact ⟨3, 0, a - 8 * n0 - n1, fun n => absurd ⟨hg, h0, h1⟩ n, fun _ _ _ => by omega, fun _ _ _ => by omega, fun _ _ _ => ⟨rfl, rfl, rfl⟩, fun _ _ _ => by omega⟩
        · exact ⟨4, 0, a - 8 * n0 - 2 * n1, fun n => absurd ⟨hg, h0, h1⟩ n, fun _ _ _ => by omega, fun _ _ _ => by omega, fun _ _ _ => by omega, fun _ _ _ => ⟨rfl, rfl, rfl⟩⟩
  · refine ⟨0, 0, 0, fun _ => ⟨rfl, rfl, rfl⟩, ?_, ?_, ?_, ?_⟩ <;>
    · intro hg h0 h1
      obtain ⟨⟨f0, f1, f2, _⟩, _⟩ := id hg
      exact absurd ⟨hg, by omega, by omega⟩ h


set_option maxHeartbeats 400000 in
theorem area_may (n0 n1 n2 n3 n4 n5 n6 n7 : Int) (x : Option Addr) (l c : Nat) (S : Nat → Sh) (p : Bool) (w : World) (hS : Shps w x l S) (hp : p = true ↔ Good n0 n1 n2 n3 n4 n5 n6 n7 l S) :
    Calls Try.prog 106 #[.agg #[.int .i64 n0, .int .i64 n1, .int .i64 n2, .int .i64 n3, .int .i64 n4, .int .i64 n5, .int .i64 n6, .int .i64 n7, .slice x l c]] w fun e w' => e = .returned (.bool p) ∧ Kept w w' := by
  obtain ⟨r, hr, _⟩ := Checks.some n0 n1 n2 n3 n4 n5 n6 n7 l S
  have C : Hid (∀ w, Shps w x l S → _) := fun w h => check_any n0 n1 n2 n3 n4 n5 n6 n7 x l c S r w h hr
  have hb : (r == 0) = p := by
    rw [Bool.eq_iff_iff, hp, beq_iff_eq]
    exact ⟨fun e => Checks.zero (e ▸ hr), fun g => hr.ok g.1 g.2⟩
  have HS : Hid (Shps w x l S) := hS
  have HB : Hid ((r == 0) = p) := hb
  clear hS hr hp hb
  go_enter Try.func106, Try.ntmps106
  go_wp2_with fail
  refine (C.out _ (HS.out.kept ((Kept.refl w).alloc _ _))).mono ?_
  rintro e w2 ⟨rfl, K⟩
  have K2 : Hid (Kept w w2) := K.ofAlloc
  clear K C HS
  go_wp2
  go_ret
  exact ⟨by rw [HB.out]; rfl, K2.out⟩

set_option maxHeartbeats 400000 in
theorem among_any (n m : Int) (p : Bool) (w : World) (hp : p = true ↔ 0 ≤ n ∧ n < m) :
    Calls Try.prog 108 #[.int .i64 n, .int .i64 m] w fun e w' => e = .returned (.bool p) ∧ w' = w := by
  by_cases h1 : 0 ≤ n
  · by_cases h2 : n < m
    · obtain rfl : p = true := hp.2 ⟨h1, h2⟩
      clear hp
      go_enter Try.func108, Try.ntmps108
      go_wp2
      go_ret
      exact ⟨rfl, rfl⟩
    · obtain rfl : p = false := by
        cases p
        · rfl
        · have := hp.1 rfl
          omega
      clear hp
      go_enter Try.func108, Try.ntmps108
      go_wp2
      go_ret
      exact ⟨rfl, rfl⟩
  · obtain rfl : p = false := by
      cases p
      · rfl
      · have := hp.1 rfl
        omega
    clear hp
    go_enter Try.func108, Try.ntmps108
    go_wp2
    go_ret
    exact ⟨rfl, rfl⟩

theorem mul_few {s n : Int} (hs : 0 ≤ s ∧ s ≤ 2) (hn : 0 ≤ n ∧ n ≤ 2048) : 0 ≤ s * n ∧ s * n ≤ 4096 :=
  ⟨Int.mul_nonneg hs.1 hn.1, Int.le_trans (Int.mul_le_mul hs.2 hn.2 hn.1 (by omega)) (by omega)⟩

set_option maxHeartbeats 400000 in
theorem spine_from (n0 n1 n2 n3 n4 n5 n6 n7 : Int) (x : Option Addr) (l c : Nat) (s u : Int) (w : World) (f0 : 4 ≤ n0 ∧ n0 ≤ 1024) (f1 : 0 ≤ n1 ∧ n1 ≤ 2048) (hs : 0 ≤ s ∧ s ≤ 2) (hu : n0 * 8 + s * n1 = u) :
    Calls Try.prog 119 #[.agg #[.int .i64 n0, .int .i64 n1, .int .i64 n2, .int .i64 n3, .int .i64 n4, .int .i64 n5, .int .i64 n6, .int .i64 n7, .slice x l c], .int .i64 s] w fun e w' => e = .returned (.int .i64 u) ∧ Kept w w' := by
  subst hu
  obtain ⟨m0, m1⟩ := mul_few hs f1
  obtain ⟨a0, a1⟩ := f0
  obtain ⟨a2, a3⟩ := f1
  obtain ⟨a4, a5⟩ := hs
  go_enter Try.func119, Try.ntmps119
  go_wp2
  go_ret
  exact ⟨rfl, (Kept.refl _).alloc _ _⟩

set_option maxHeartbeats 400000 in
theorem globals_from (n0 n1 n2 n3 n4 n5 n6 n7 : Int) (x : Option Addr) (l c : Nat) (w : World) (f0 : 4 ≤ n0 ∧ n0 ≤ 1024) (f1 : 0 ≤ n1 ∧ n1 ≤ 2048) :
    Calls Try.prog 107 #[.agg #[.int .i64 n0, .int .i64 n1, .int .i64 n2, .int .i64 n3, .int .i64 n4, .int .i64 n5, .int .i64 n6, .int .i64 n7, .slice x l c]] w fun e w' => e = .returned (.int .i64 (8 * n0 + 2 * n1)) ∧ Kept w w' := by
  have C : Hid (∀ w, _) := fun w => spine_from n0 n1 n2 n3 n4 n5 n6 n7 x l c 2 (8 * n0 + 2 * n1) w f0 f1 (by omega) (by omega)
  go_enter Try.func107, Try.ntmps107
  go_wp2_with fail
  refine (C.out _).mono ?_
  rintro e w2 ⟨rfl, K⟩
  have K2 : Hid (Kept w w2) := K.ofAlloc
  clear K C
  go_wp2
  go_ret
  exact ⟨rfl, K2.out⟩


set_option maxHeartbeats 1000000 in
theorem words_any (n0 n1 n2 n3 n4 n5 n6 n7 : Int) (x : Option Addr) (l c : Nat) (S : Nat → Sh) (v : Int) (w : World) (hS : Shps w x l S) (h : Is (Good n0 n1 n2 n3 n4 n5 n6 n7 l S) (8 * n0 + 2 * n1 + n2) v) :
    Calls Try.prog 67 #[.agg #[.int .i64 n0, .int .i64 n1, .int .i64 n2, .int .i64 n3, .int .i64 n4, .int .i64 n5, .int .i64 n6, .int .i64 n7, .slice x l c]] w fun e w' => e = .returned (.int .i64 v) ∧ Kept w w' := by
  obtain ⟨p, hp⟩ := bool_iff (Good n0 n1 n2 n3 n4 n5 n6 n7 l S)
  have C : Hid (∀ w, Shps w x l S → _) := fun w h => area_may n0 n1 n2 n3 n4 n5 n6 n7 x l c S p w h hp
  have HS : Hid (Shps w x l S) := hS
  have HP : Hid (p = true ↔ Good n0 n1 n2 n3 n4 n5 n6 n7 l S) := hp
  have H : Hid (Is (Good n0 n1 n2 n3 n4 n5 n6 n7 l S) (8 * n0 + 2 * n1 + n2) v) := h
  clear hS hp h
  go_enter Try.func67, Try.ntmps67
  go_wp2_with fail
  generalize hW1 : w.alloc _ = W1
  have B1 : Hid (Blk W1 w.heap.size (cl n0 n1 n2 n3 n4 n5 n6 n7 (.slice x l c))) := by rw [← hW1]; exact Blk.new w _ _
  have K1 : Hid (Kept w W1) := by rw [← hW1]; exact (Kept.refl w).alloc _ _
  clear hW1
  refine (C.out _ (HS.out.kept K1.out)).mono ?_
  rintro e w2 ⟨rfl, K⟩
  have B2 : Hid (Blk w2 w.heap.size _) := B1.out.kept K
  have K2 : Hid (Kept w w2) := K1.out.trans K
  clear K B1 K1 C HS
  cases p
  · obtain rfl := H.out.no (fun g => absurd (HP.out.2 g) (by simp))
    go_wp2
    go_ret
    exact ⟨rfl, K2.out⟩
  have g : Good n0 n1 n2 n3 n4 n5 n6 n7 l S := by have := HP.out; simpa using this
  obtain rfl := H.out.yes g
  obtain ⟨⟨⟨a0, a1⟩, ⟨a2, a3⟩, ⟨a4, a5⟩, _⟩, _⟩ := g
  clear H HP
  have G : Hid (∀ w, _) := fun w => globals_from n0 n1 n2 n3 n4 n5 n6 n7 x l c w ⟨a0, a1⟩ ⟨a2, a3⟩
  have c0 := B2.out.at 0 rfl
  have c1 := B2.out.at 1 rfl
  have c2 := B2.out.at 2 rfl
  have c3 := B2.out.at 3 rfl
  have c4 := B2.out.at 4 rfl
  have c5 := B2.out.at 5 rfl
  have c6 := B2.out.at 6 rfl
  have c7 := B2.out.at 7 rfl
  have c8 := B2.out.at 8 rfl
  go_wp2_with fail
  clear c0 c1 c2 c3 c4 c5 c6 c7 c8
  have d0 := fun z : KW w2 => z.cell B2.out.lt (B2.out.at 0 rfl)
  have d1 := fun z : KW w2 => z.cell B2.out.lt (B2.out.at 1 rfl)
  have d2 := fun z : KW w2 => z.cell B2.out.lt (B2.out.at 2 rfl)
  have d3 := fun z : KW w2 => z.cell B2.out.lt (B2.out.at 3 rfl)
  have d4 := fun z : KW w2 => z.cell B2.out.lt (B2.out.at 4 rfl)
  have d5 := fun z : KW w2 => z.cell B2.out.lt (B2.out.at 5 rfl)
  have d6 := fun z : KW w2 => z.cell B2.out.lt (B2.out.at 6 rfl)
  have d7 := fun z : KW w2 => z.cell B2.out.lt (B2.out.at 7 rfl)
  have d8 := fun z : KW w2 => z.cell B2.out.lt (B2.out.at 8 rfl)
  refine wp_region_kept (by kernel_rfl) (by kernel_rfl) fun _ => ?_
  repeat (go_big_quiet_step (first | (go_at_call 107; exact kept_of (G.out _))))
  refine wpQuiet_nil ?_
  rintro _ ⟨z, rfl⟩
  clear d0 d1 d2 d3 d4 d5 d6 d7 d8
  go_wp2
  go_ret
  exact ⟨rfl, K2.out.trans z.ok⟩


end Go.Proofs.Ytiigmmmhhpdmdaa

/-
  area.Spine.
-/
namespace Go.Proofs.Ytiigmmmhhpdmdaa
open Go.RowKit

set_option maxHeartbeats 1000000 in
theorem spine_any (n0 n1 n2 n3 n4 n5 n6 n7 : Int) (x : Option Addr) (l c : Nat) (S : Nat → Sh) (s k v r : Int) (w : World) (hS : Shps w x l S) (h : At (Good n0 n1 n2 n3 n4 n5 n6 n7 l S ∧ (0 ≤ s ∧ s < 2) ∧ (0 ≤ k ∧ k < n1)) (8 * n0 + s * n1 + k) v r) :
    Calls Try.prog 115 #[.agg #[.int .i64 n0, .int .i64 n1, .int .i64 n2, .int .i64 n3, .int .i64 n4, .int .i64 n5, .int .i64 n6, .int .i64 n7, .slice x l c], .int .i64 s, .int .i64 k] w fun e w' => e = .returned (.tuple #[.int .i64 v, .int .i64 r]) ∧ Kept w w' := by
  obtain ⟨p, hp⟩ := bool_iff (Good n0 n1 n2 n3 n4 n5 n6 n7 l S)
  obtain ⟨q0, h0⟩ := bool_iff (0 ≤ s ∧ s < 2)
  obtain ⟨q1, h1⟩ := bool_iff (0 ≤ k ∧ k < n1)
  have C : Hid (∀ w, Shps w x l S → _) := fun w h => area_may n0 n1 n2 n3 n4 n5 n6 n7 x l c S p w h hp
  have C0 : Hid (∀ w, Calls Try.prog 108 #[.int .i64 s, .int .i64 2] w _) := fun w => among_any s 2 q0 w h0
  have C1 : Hid (∀ w, Calls Try.prog 108 #[.int .i64 k, .int .i64 n1] w _) := fun w => among_any k n1 q1 w h1
  have HS : Hid (Shps w x l S) := hS
  have HP : Hid (p = true ↔ Good n0 n1 n2 n3 n4 n5 n6 n7 l S) := hp
  have H : Hid (At (Good n0 n1 n2 n3 n4 n5 n6 n7 l S ∧ (0 ≤ s ∧ s < 2) ∧ (0 ≤ k ∧ k < n1)) (8 * n0 + s * n1 + k) v r) := h
  have H0 : Hid (q0 = true ↔ 0 ≤ s ∧ s < 2) := h0
  have H1 : Hid (q1 = true ↔ 0 ≤ k ∧ k < n1) := h1
  clear hS hp h h0 h1
  go_enter Try.func115, Try.ntmps115
  go_wp2_with fail
  generalize hW1 : w.alloc _ = W1
  have B1 : Hid (Blk W1 w.heap.size (cl n0 n1 n2 n3 n4 n5 n6 n7 (.slice x l c))) := by rw [← hW1]; exact Blk.new w _ _
  have K1 : Hid (Kept w W1) := by rw [← hW1]; exact (Kept.refl w).alloc _ _
  clear hW1
  refine (C.out _ (HS.out.kept K1.out)).mono ?_
  rintro e w2 ⟨rfl, K⟩
  have B2 : Hid (Blk w2 w.heap.size _) := B1.out.kept K
  have K2 : Hid (Kept w w2) := K1.out.trans K
  clear K B1 K1 C HS
  cases p
  · obtain ⟨rfl, rfl⟩ := H.out.no (fun g => absurd (HP.out.2 g.1) (by simp))
    go_wp2
    go_ret2
    exact ⟨rfl, K2.out⟩
  have c0 := B2.out.at 0 rfl
  have c1 := B2.out.at 1 rfl
  have c2 := B2.out.at 2 rfl
  have c3 := B2.out.at 3 rfl
  have c4 := B2.out.at 4 rfl
  have c5 := B2.out.at 5 rfl
  have c6 := B2.out.at 6 rfl
  have c7 := B2.out.at 7 rfl
  have c8 := B2.out.at 8 rfl
  go_wp2_with fail
  refine (C0.out _).mono ?_
  rintro e w' ⟨rfl, rfl⟩
  cases q0
  · obtain ⟨rfl, rfl⟩ := H.out.no (fun g => absurd (H0.out.2 g.2.1) (by simp))
    go_wp2
    go_ret2
    exact ⟨rfl, K2.out⟩
  go_wp2_with fail
  refine (C1.out _).mono ?_
  rintro e w' ⟨rfl, rfl⟩
  cases q1
  · obtain ⟨rfl, rfl⟩ := H.out.no (fun g => absurd (H1.out.2 g.2.2) (by simp))
    go_wp2
    go_ret2
    exact ⟨rfl, K2.out⟩
  have g : Good n0 n1 n2 n3 n4 n5 n6 n7 l S := by have := HP.out; simpa using this
  have g0 : 0 ≤ s ∧ s < 2 := by have := H0.out; simpa using this
  have g1 : 0 ≤ k ∧ k < n1 := by have := H1.out; simpa using this
  obtain ⟨rfl, rfl⟩ := H.out.yes ⟨g, g0, g1⟩
  obtain ⟨⟨⟨a0, a1⟩, ⟨a2, a3⟩, ⟨a4, a5⟩, _⟩, _⟩ := g
  have D : Hid (∀ w, _) := fun w => spine_from n0 n1 n2 n3 n4 n5 n6 n7 x l c s (8 * n0 + s * n1) w ⟨a0, a1⟩ ⟨a2, a3⟩ (by omega) (by omega)
  obtain ⟨m0, m1⟩ := mul_few (s := s) (n := n1) (by omega) (by omega)
  obtain ⟨b0, e0⟩ := g0
  obtain ⟨b1, e1⟩ := g1
  clear H HP H0 C0 H1 C1
  go_wp2_with fail
  refine (D.out _).mono ?_
  rintro e w3 ⟨rfl, K⟩
  have K3 : Hid (Kept w w3) := K2.out.trans K
  clear K K2 B2 c0 c1 c2 c3 c4 c5 c6 c7 c8
  go_wp2
  go_ret2
  exact ⟨by (first | rfl | (congr 4; omega) | (simp; omega)), K3.out⟩

end Go.Proofs.Ytiigmmmhhpdmdaa

/-
  A space as plain values, and as it lies in memory: all its blocks bear a colour; what a call leaves.
-/
namespace Go.Proofs.Ytiigmmmhhpdmdaa
open Go.RowKit

/-- A configuration's numbers, and its shapes as they lie in memory. -/
structure Cv where
  n0 : Int
  n1 : Int
  n2 : Int
  n3 : Int
  n4 : Int
  n5 : Int
  n6 : Int
  n7 : Int
  x : Option Addr
  l : Nat
  c : Nat
  S : Nat → Sh
def Cv.Good (C : Cv) : Prop := Go.Proofs.Ytiigmmmhhpdmdaa.Good C.n0 C.n1 C.n2 C.n3 C.n4 C.n5 C.n6 C.n7 C.l C.S

/-- Where a space lies: itself, the table and its row, the pool and its row, the line, the coil, the row of stocks, each stock; its copy of the configuration. -/
structure Ad where
  b : Nat
  tb : Nat
  tg : Nat
  pb : Nat
  pg : Nat
  lb : Nat
  kb : Nat
  sb : Nat
  q : Nat → Nat
  C : Cv

/-- A request without the place of what it got. -/
def Ent.nrm (e : Ent) : Ent := { e with gx := none, gc := 0 }

/-- A space as plain values: the table, what is free, who waits, the coil, m stocks of room for most; forced; the count. -/
structure Sp where
  n : Nat
  T : Nat → Fr
  F : Nat → Bool
  E : List Ent
  K : CS
  m : Nat
  most : Nat
  Q : Nat → List Int
  fo : Bool
  ct : Int

def Sp.tick (S : Sp) : Sp := { S with ct := S.ct + 1 }

/-- The blocks that bear a colour. -/
def cols (c : Nat → Nat) (w : World) : List Nat := (List.range w.heap.size).filter fun k => c k != 0
theorem mem_cols {c : Nat → Nat} {w : World} {k : Nat} : k ∈ cols c w ↔ k < w.heap.size ∧ c k ≠ 0 := by simp [cols]

/-- New blocks get a colour; who had one keeps it; all but those that bore a colour is as it was. -/
structure Stp (c : Nat → Nat) (w : World) (c' : Nat → Nat) (w' : World) : Prop where
  same : ∀ k, k < w.heap.size → c' k = c k
  mu : Mut (cols c w) w w'

theorem mut_trans {D E : List Nat} {w w' w'' : World} (h : Mut D w w') (k : Mut E w' w'') (hd : ∀ j, j ∈ E → j < w.heap.size → j ∈ D) : Mut D w w'' :=
  ⟨k.os.trans h.os, k.tape.trans h.tape, k.output.trans h.output, Nat.le_trans h.size k.size, fun i hi hn => (k.block i (Nat.lt_of_lt_of_le hi h.size) fun q => hn (hd i q hi)).trans (h.block i hi hn)⟩
theorem Stp.refl (c : Nat → Nat) (w : World) : Stp c w c w := ⟨fun _ _ => rfl, Mut.refl _ _⟩
theorem Stp.trans {c c' c'' : Nat → Nat} {w w' w'' : World} (h : Stp c w c' w') (k : Stp c' w' c'' w'') : Stp c w c'' w'' :=
  ⟨fun i hi => (k.same i (Nat.lt_of_lt_of_le hi h.mu.size)).trans (h.same i hi), mut_trans h.mu k.mu fun j hj hl => by
    have := (mem_cols.1 hj).2
    rw [h.same j hl] at this
    exact mem_cols.2 ⟨hl, this⟩⟩
/-- Blocks of a colour alone were written. -/
theorem Stp.of {c : Nat → Nat} {w w' : World} {D : List Nat} (m : Mut D w w') (h : ∀ k, k ∈ D → k < w.heap.size → c k ≠ 0) : Stp c w c w' :=
  ⟨fun _ _ => rfl, mut_trans (Mut.refl _ _) m fun j hj hl => mem_cols.2 ⟨hl, h j hj hl⟩⟩
theorem Stp.kept {c : Nat → Nat} {w w' : World} (k : Kept w w') : Stp c w c w' := Stp.of (D := []) k.mut (fun _ h => by cases h)
theorem Stp.not {c c' : Nat → Nat} {w w' : World} (h : Stp c w c' w') {k : Nat} (hk : k < w.heap.size) (h0 : c k = 0) : k ∉ cols c w ∧ c' k = 0 :=
  ⟨fun q => (mem_cols.1 q).2 h0, (h.same k hk).trans h0⟩

/-- New blocks among L get the colour z. -/
def grow (c : Nat → Nat) (w : World) (L : List Nat) (z : Nat) (k : Nat) : Nat := if k < w.heap.size then c k else if k ∈ L then z else 0
theorem grow_old {c : Nat → Nat} {w : World} {L : List Nat} {z k : Nat} (h : k < w.heap.size) : grow c w L z k = c k := by simp [grow, h]
theorem grow_new {c : Nat → Nat} {w : World} {L : List Nat} {z k : Nat} (h : w.heap.size ≤ k) (hl : k ∈ L) : grow c w L z k = z := by simp [grow, Nat.not_lt.2 h, hl]
theorem grow_not {c : Nat → Nat} {w : World} {L : List Nat} {z k : Nat} (h : w.heap.size ≤ k) (hl : k ∉ L) : grow c w L z k = 0 := by simp [grow, Nat.not_lt.2 h, hl]
theorem Stp.grow {c : Nat → Nat} {w w' : World} {D : List Nat} (m : Mut D w w') (h : ∀ k, k ∈ D → k < w.heap.size → c k ≠ 0) (L : List Nat) (z : Nat) : Stp c w (grow c w L z) w' :=
  ⟨fun _ hk => grow_old hk, (Stp.of m h).mu⟩

/-- A space's head block. -/
def Ad.cells (A : Ad) (m : Nat) (fo : Bool) (ct : Int) : List Value := [.pointer (some ⟨A.tb, 0, none⟩), .pointer (some ⟨A.pb, 0, none⟩), .pointer (some ⟨A.lb, 0, none⟩), .pointer (some ⟨A.kb, 0, none⟩),
  .int .i64 A.C.n0, .int .i64 A.C.n1, .int .i64 A.C.n2, .int .i64 A.C.n3, .int .i64 A.C.n4, .int .i64 A.C.n5, .int .i64 A.C.n6, .int .i64 A.C.n7, .slice A.C.x A.C.l A.C.c, .slice (some ⟨A.sb, 0, none⟩) m m, .bool fo, .int .i64 ct]

/-- A space at A, its blocks of the colours 1 (table), 2 (pool), 3 (line), 4 (coil), 5 (itself), 6 (row of stocks), 7 (shapes), 10 + i (stock i). -/
structure SH (w : World) (c : Nat → Nat) (A : Ad) (S : Sp) : Prop where
  head : Own w A.b 121 (A.cells S.m S.fo S.ct)
  tab : Tab w A.tb A.tg S.n S.T
  pool : PTab 176 w A.pb A.pg S.n S.F
  line : ∃ v E, LTab w 0 A.lb v E ∧ E.map Ent.nrm = S.E ∧ ∀ k, k ∈ foot A.lb v E → c k = 3
  coil : CTab 197 w A.kb S.K
  row : w.rowIs A.sb 127 S.m (fun i => .pointer (some ⟨A.q i, 0, none⟩))
  stk : ∀ i, i < S.m → ∃ v, STab 180 w 0 (A.q i) S.most v (S.Q i) ∧ c (A.q i) = 10 + i ∧ ∀ k, v.ownBlock = some k → c k = 10 + i
  shp : Shps w A.C.x A.C.l A.C.S
  shc : ∀ g o, A.C.x = some ⟨g, o, none⟩ → c g = 7
  good : A.C.Good
  n0 : A.C.n0 = S.n
  n1 : A.C.n1 = S.K.s
  ctb : c A.tb = 1
  ctg : c A.tg = 1
  cpb : c A.pb = 2
  cpg : c A.pg = 2
  ckb : c A.kb = 4
  cb : c A.b = 5
  csb : c A.sb = 6
  few : S.m ≤ 16
  low : ∀ k, c k ≠ 0 → k < w.heap.size

section
variable {c c' : Nat → Nat} {w w' : World} {A : Ad} {S : Sp}
/-- A stock that lies apart. -/
theorem stk_muts {D : List Nat} {i most z : Nat} {Q : List Int} {v : Value} (h : STab 180 w 0 (A.q i) most v Q) (hq : c (A.q i) = z) (hv : ∀ k, v.ownBlock = some k → c k = z) (m : Mut D w w') (hd : ∀ k, k ∈ D → c k ≠ z) : STab 180 w' 0 (A.q i) most v Q :=
  h.muts m (fun q => hd _ q hq) fun k hk q => hd k q (hv k hk)
theorem shp_muts {D : List Nat} {x : Option Addr} {l : Nat} {T : Nat → Sh} (h : Shps w x l T) (m : Mut D w w') (hd : ∀ g o, x = some ⟨g, o, none⟩ → g ∉ D) : Shps w' x l T := fun h0 => by
  obtain ⟨b, o, e, hb, hc⟩ := h h0
  exact ⟨b, o, e, Nat.lt_of_lt_of_le hb m.size, fun i hi => ⟨(m.cell hb (hd b o e)).trans (hc i hi).1, (m.cell hb (hd b o e)).trans (hc i hi).2⟩⟩

/-- What bears no colour was written. -/
theorem SH.muts {D : List Nat} (h : SH w c A S) (m : Mut D w w') (hd : ∀ k, k ∈ D → c k = 0) : SH w' c A S := by
  have H : ∀ k z, c k = z → z ≠ 0 → k ∉ D := fun k z e hz q => hz (e.symm.trans (hd k q))
  obtain ⟨v, E, l1, l2, l3⟩ := h.line
  exact ⟨h.head.muts m (H _ _ h.cb (by decide)), h.tab.muts m (H _ _ h.ctb (by decide)) (H _ _ h.ctg (by decide)), h.pool.muts m (H _ _ h.cpb (by decide)) (H _ _ h.cpg (by decide)),
    ⟨v, E, l1.muts m fun k hk => H _ _ (l3 k hk) (by decide), l2, l3⟩, h.coil.muts m (H _ _ h.ckb (by decide)), m.row h.row (H _ _ h.csb (by decide)),
    fun i hi => by
      obtain ⟨v, s1, s2, s3⟩ := h.stk i hi
      exact ⟨v, stk_muts s1 s2 s3 m (fun k hk e => by rw [hd k hk] at e; omega), s2, s3⟩,
    shp_muts h.shp m (fun g o e => H _ _ (h.shc g o e) (by decide)), h.shc, h.good, h.n0, h.n1, h.ctb, h.ctg, h.cpb, h.cpg, h.ckb, h.cb, h.csb, h.few, fun k hk => Nat.lt_of_lt_of_le (h.low k hk) m.size⟩
theorem SH.kept (h : SH w c A S) (k : Kept w w') : SH w' c A S := h.muts (D := []) k.mut (fun _ q => by cases q)
theorem SH.new (h : SH w c A S) {k : Nat} (hk : w.heap.size ≤ k) : c k = 0 := by
  by_cases e : c k = 0
  · exact e
  · have := h.low k e; omega
/-- The table alone was written. -/
theorem SH.tabs (h : SH w c A S) {T : Nat → Fr} (t : Tab w' A.tb A.tg S.n T) (m : Mut [A.tg] w w') : SH w' c A { S with T := T } := by
  have H : ∀ k z, c k = z → z ≠ 1 → k ∉ [A.tg] := fun k z e hz q => by
    simp only [List.mem_singleton] at q
    subst q
    exact hz (e.symm.trans h.ctg)
  obtain ⟨v, E, l1, l2, l3⟩ := h.line
  exact ⟨h.head.muts m (H _ _ h.cb (by decide)), t, h.pool.muts m (H _ _ h.cpb (by decide)) (H _ _ h.cpg (by decide)),
    ⟨v, E, l1.muts m fun k hk => H _ _ (l3 k hk) (by decide), l2, l3⟩, h.coil.muts m (H _ _ h.ckb (by decide)), m.row h.row (H _ _ h.csb (by decide)),
    fun i hi => by
      obtain ⟨v, s1, s2, s3⟩ := h.stk i hi
      exact ⟨v, stk_muts s1 s2 s3 m (fun k hk e => H _ _ e (by omega) hk), s2, s3⟩,
    shp_muts h.shp m (fun g o e => H _ _ (h.shc g o e) (by decide)), h.shc, h.good, h.n0, h.n1, h.ctb, h.ctg, h.cpb, h.cpg, h.ckb, h.cb, h.csb, h.few, fun k hk => Nat.lt_of_lt_of_le (h.low k hk) m.size⟩
theorem SH.stpt (h : SH w c A S) (m : Mut [A.tg] w w') : Stp c w c w' := Stp.of m fun k hk _ => by
  simp only [List.mem_singleton] at hk
  rw [hk, h.ctg]; decide
/-- The pool alone was written. -/
theorem SH.pools (h : SH w c A S) {F : Nat → Bool} (t : PTab 176 w' A.pb A.pg S.n F) (m : Mut [A.pg] w w') : SH w' c A { S with F := F } := by
  have H : ∀ k z, c k = z → z ≠ 2 → k ∉ [A.pg] := fun k z e hz q => by
    simp only [List.mem_singleton] at q
    subst q
    exact hz (e.symm.trans h.cpg)
  obtain ⟨v, E, l1, l2, l3⟩ := h.line
  exact ⟨h.head.muts m (H _ _ h.cb (by decide)), h.tab.muts m (H _ _ h.ctb (by decide)) (H _ _ h.ctg (by decide)), t,
    ⟨v, E, l1.muts m fun k hk => H _ _ (l3 k hk) (by decide), l2, l3⟩, h.coil.muts m (H _ _ h.ckb (by decide)), m.row h.row (H _ _ h.csb (by decide)),
    fun i hi => by
      obtain ⟨v, s1, s2, s3⟩ := h.stk i hi
      exact ⟨v, stk_muts s1 s2 s3 m (fun k hk e => H _ _ e (by omega) hk), s2, s3⟩,
    shp_muts h.shp m (fun g o e => H _ _ (h.shc g o e) (by decide)), h.shc, h.good, h.n0, h.n1, h.ctb, h.ctg, h.cpb, h.cpg, h.ckb, h.cb, h.csb, h.few, fun k hk => Nat.lt_of_lt_of_le (h.low k hk) m.size⟩
theorem SH.stpp (h : SH w c A S) (m : Mut [A.pg] w w') : Stp c w c w' := Stp.of m fun k hk _ => by
  simp only [List.mem_singleton] at hk
  rw [hk, h.cpg]; decide
/-- The coil alone was written. -/
theorem SH.coils (h : SH w c A S) {K : CS} (t : CTab 197 w' A.kb K) (e : K.s = S.K.s) (m : Mut [A.kb] w w') : SH w' c A { S with K := K } := by
  have H : ∀ k z, c k = z → z ≠ 4 → k ∉ [A.kb] := fun k z e hz q => by
    simp only [List.mem_singleton] at q
    subst q
    exact hz (e.symm.trans h.ckb)
  obtain ⟨v, E, l1, l2, l3⟩ := h.line
  exact ⟨h.head.muts m (H _ _ h.cb (by decide)), h.tab.muts m (H _ _ h.ctb (by decide)) (H _ _ h.ctg (by decide)), h.pool.muts m (H _ _ h.cpb (by decide)) (H _ _ h.cpg (by decide)),
    ⟨v, E, l1.muts m fun k hk => H _ _ (l3 k hk) (by decide), l2, l3⟩, t, m.row h.row (H _ _ h.csb (by decide)),
    fun i hi => by
      obtain ⟨v, s1, s2, s3⟩ := h.stk i hi
      exact ⟨v, stk_muts s1 s2 s3 m (fun k hk e => H _ _ e (by omega) hk), s2, s3⟩,
    shp_muts h.shp m (fun g o e => H _ _ (h.shc g o e) (by decide)), h.shc, h.good, h.n0, h.n1.trans (by rw [e]), h.ctb, h.ctg, h.cpb, h.cpg, h.ckb, h.cb, h.csb, h.few, fun k hk => Nat.lt_of_lt_of_le (h.low k hk) m.size⟩
theorem SH.stpk (h : SH w c A S) (m : Mut [A.kb] w w') : Stp c w c w' := Stp.of m fun k hk _ => by
  simp only [List.mem_singleton] at hk
  rw [hk, h.ckb]; decide
/-- Its head alone was written. -/
theorem SH.heads (h : SH w c A S) {fo : Bool} {ct : Int} (t : Own w' A.b 121 (A.cells S.m fo ct)) (m : Mut [A.b] w w') : SH w' c A { S with fo := fo, ct := ct } := by
  have H : ∀ k z, c k = z → z ≠ 5 → k ∉ [A.b] := fun k z e hz q => by
    simp only [List.mem_singleton] at q
    subst q
    exact hz (e.symm.trans h.cb)
  obtain ⟨v, E, l1, l2, l3⟩ := h.line
  exact ⟨t, h.tab.muts m (H _ _ h.ctb (by decide)) (H _ _ h.ctg (by decide)), h.pool.muts m (H _ _ h.cpb (by decide)) (H _ _ h.cpg (by decide)),
    ⟨v, E, l1.muts m fun k hk => H _ _ (l3 k hk) (by decide), l2, l3⟩, h.coil.muts m (H _ _ h.ckb (by decide)), m.row h.row (H _ _ h.csb (by decide)),
    fun i hi => by
      obtain ⟨v, s1, s2, s3⟩ := h.stk i hi
      exact ⟨v, stk_muts s1 s2 s3 m (fun k hk e => H _ _ e (by omega) hk), s2, s3⟩,
    shp_muts h.shp m (fun g o e => H _ _ (h.shc g o e) (by decide)), h.shc, h.good, h.n0, h.n1, h.ctb, h.ctg, h.cpb, h.cpg, h.ckb, h.cb, h.csb, h.few, fun k hk => Nat.lt_of_lt_of_le (h.low k hk) m.size⟩
theorem SH.stph (h : SH w c A S) (m : Mut [A.b] w w') : Stp c w c w' := Stp.of m fun k hk _ => by
  simp only [List.mem_singleton] at hk
  rw [hk, h.cb]; decide
/-- The count, one higher. -/
theorem SH.ticks (h : SH w c A S) : SH (w.setCell ⟨A.b, 15, none⟩ (.int .i64 (S.ct + 1))) c A S.tick :=
  h.heads (fo := S.fo) (ct := S.ct + 1) (h.head.set 15 _) ((Mut.refl _ _).setCell (by simp) _)

/-- The line alone was written. -/
theorem SH.lines {v v' : Value} {E E' : List Ent} {D : List Nat} (h : SH w c A S) (hf : ∀ k, k ∈ foot A.lb v E → c k = 3) (t : LTab w' 0 A.lb v' E') (m : Mut D w w') (hD : ∀ k, k ∈ D → k ∈ foot A.lb v E) (hn : ∀ k, k ∈ foot A.lb v' E' → k ∈ foot A.lb v E ∨ w.heap.size ≤ k) :
    SH w' (grow c w (foot A.lb v' E') 3) A { S with E := E'.map Ent.nrm } ∧ Stp c w (grow c w (foot A.lb v' E') 3) w' := by
  have hD3 : ∀ k, k ∈ D → c k = 3 := fun k hk => hf k (hD k hk)
  have H : ∀ k z, c k = z → z ≠ 3 → k ∉ D := fun k z e hz q => hz (e.symm.trans (hD3 k q))
  have G : ∀ k z, c k = z → z ≠ 0 → grow c w (foot A.lb v' E') 3 k = z := fun k z e hz => (grow_old (h.low k (by omega))).trans e
  refine ⟨⟨h.head.muts m (H _ _ h.cb (by decide)), h.tab.muts m (H _ _ h.ctb (by decide)) (H _ _ h.ctg (by decide)), h.pool.muts m (H _ _ h.cpb (by decide)) (H _ _ h.cpg (by decide)),
    ⟨v', E', t, rfl, fun k hk => ?_⟩, h.coil.muts m (H _ _ h.ckb (by decide)), m.row h.row (H _ _ h.csb (by decide)),
    fun i hi => ?_, shp_muts h.shp m (fun g o e => H _ _ (h.shc g o e) (by decide)), fun g o e => G _ _ (h.shc g o e) (by decide), h.good, h.n0, h.n1, G _ _ h.ctb (by decide), G _ _ h.ctg (by decide), G _ _ h.cpb (by decide), G _ _ h.cpg (by decide), G _ _ h.ckb (by decide), G _ _ h.cb (by decide), G _ _ h.csb (by decide), h.few, fun k hk => ?_⟩, Stp.grow m (fun k hk _ => by rw [hD3 k hk]; decide) _ _⟩
  · rcases hn k hk with q | q
    · exact G _ _ (hf k q) (by decide)
    · exact grow_new q hk
  · obtain ⟨v, s1, s2, s3⟩ := h.stk i hi
    exact ⟨v, stk_muts s1 s2 s3 m (fun k hk e => H _ _ e (by omega) hk), G _ _ s2 (by omega), fun k hk => G _ _ (s3 k hk) (by omega)⟩
  · by_cases q : k < w.heap.size
    · exact Nat.lt_of_lt_of_le q m.size
    · by_cases q2 : k ∈ foot A.lb v' E'
      · exact (t.lt k q2).2
      · exact absurd (grow_not (by omega) q2) hk

/-- One stock alone was written. -/
theorem SH.stks {v v' : Value} {L : List Int} {D : List Nat} {i : Nat} (h : SH w c A S) (hi : i < S.m) (hq : c (A.q i) = 10 + i) (hv : ∀ k, v.ownBlock = some k → c k = 10 + i) (t : STab 180 w' 0 (A.q i) S.most v' L) (m : Mut D w w')
    (hD : ∀ k, k ∈ D → k ∈ A.q i :: v.ownBlock.toList) (hn : Fresh w v v') :
    SH w' (grow c w v'.ownBlock.toList (10 + i)) A { S with Q := fun j => if j = i then L else S.Q j } ∧ Stp c w (grow c w v'.ownBlock.toList (10 + i)) w' := by
  have hD3 : ∀ k, k ∈ D → c k = 10 + i := fun k hk => by
    have := hD k hk
    simp only [List.mem_cons, Option.mem_toList] at this
    rcases this with rfl | this
    · exact hq
    · exact hv k this
  have H : ∀ k z, c k = z → z ≠ 10 + i → k ∉ D := fun k z e hz q => hz (e.symm.trans (hD3 k q))
  have G : ∀ k z, c k = z → z ≠ 0 → grow c w v'.ownBlock.toList (10 + i) k = z := fun k z e hz => (grow_old (h.low k (by omega))).trans e
  obtain ⟨lv, E, l1, l2, l3⟩ := h.line
  refine ⟨⟨h.head.muts m (H _ _ h.cb (by omega)), h.tab.muts m (H _ _ h.ctb (by omega)) (H _ _ h.ctg (by omega)), h.pool.muts m (H _ _ h.cpb (by omega)) (H _ _ h.cpg (by omega)),
    ⟨lv, E, l1.muts m fun k hk => H _ _ (l3 k hk) (by omega), l2, fun k hk => G _ _ (l3 k hk) (by decide)⟩, h.coil.muts m (H _ _ h.ckb (by omega)), m.row h.row (H _ _ h.csb (by omega)),
    fun j hj => ?_, shp_muts h.shp m (fun g o e => H _ _ (h.shc g o e) (by omega)), fun g o e => G _ _ (h.shc g o e) (by decide), h.good, h.n0, h.n1, G _ _ h.ctb (by decide), G _ _ h.ctg (by decide), G _ _ h.cpb (by decide), G _ _ h.cpg (by decide), G _ _ h.ckb (by decide), G _ _ h.cb (by decide), G _ _ h.csb (by decide), h.few, fun k hk => ?_⟩, Stp.grow m (fun k hk _ => by rw [hD3 k hk]; omega) _ _⟩
  · by_cases e : j = i
    · subst e
      refine ⟨v', by simpa using t, G _ _ hq (by omega), fun k hk => ?_⟩
      rcases hn k hk with q | q
      · exact G _ _ (hv k q) (by omega)
      · exact grow_new q (by simp [hk])
    · obtain ⟨u, s1, s2, s3⟩ := h.stk j hj
      have e2 : S.Q j = if j = i then L else S.Q j := by simp [e]
      exact ⟨u, by simpa [e] using stk_muts s1 s2 s3 m (fun k hk e => H _ _ e (by omega) hk), G _ _ s2 (by omega), fun k hk => G _ _ (s3 k hk) (by omega)⟩
  · by_cases q : k < w.heap.size
    · exact Nat.lt_of_lt_of_le q m.size
    · by_cases q2 : k ∈ v'.ownBlock.toList
      · exact (t.own k (by simp at q2 ⊢; exact .inr q2)).2
      · exact absurd (grow_not (by omega) q2) hk
end
end Go.Proofs.Ytiigmmmhhpdmdaa

