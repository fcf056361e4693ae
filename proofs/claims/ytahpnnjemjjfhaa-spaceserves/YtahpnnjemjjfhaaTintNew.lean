/-
  Contracts of package tint's New and Counts; the laws' own 'first'.
-/
import Derived.Test.YtahpnnjemjjfhaaTint
namespace Go.Proofs.Ytahpnnjemjjfhaa
open Go.RowKit

theorem info_frag : (Try.prog.info? 88).map (fun i => (i.zero, i.size, i.bytes)) = some (some (.agg #[.int .i64 0, .bool false, .bool false]), 3, 16) := by kernel_rfl

theorem run_make_frags (n : Nat) (h : n ≤ 1024) (w : World) :
    (Instr.makeSlice 89 (.int .i64 (n : Int)) (.int .i64 (n : Int))).run Try.prog w = .ok (.slice (some ⟨w.heap.size, 0, none⟩) n n) (w.alloc (.cells (madeCells #[.int .i64 0, .bool false, .bool false] (n * 3)) 88)) := by
  obtain ⟨i, hi, hz, hs, hb⟩ := info_parts info_frag
  have hr := run_make (P := Try.prog) w 89 88 i _ Try.underlying89 hi hz .i64 .i64 n n (by omega) (Int.le_refl _) (by rw [hb]; omega) (by omega)
  simp only [Int.toNat_natCast, hs] at hr
  exact hr

/-- All Free, none a head. -/
def T0 : Nat → Fr := fun _ => ⟨0, false, false⟩

theorem tfrags_made (w : World) (n : Nat) (t : TypeId) : (w.alloc (.cells (madeCells #[.int .i64 0, .bool false, .bool false] (n * 3)) t)).rowIs w.heap.size t (n * 3) (fc T0) := by
  have h := World.rowIs_alloc w (madeCells #[.int .i64 0, .bool false, .bool false] (n * 3)) t (fc T0) (fun i hi => by
    rw [size_madeCells] at hi
    have h3 : i % 3 = 0 ∨ i % 3 = 1 ∨ i % 3 = 2 := by omega
    rcases h3 with e | e | e
    · simp [madeCells, hi, fc, T0, e]
    · simp [madeCells, hi, fc, T0, e]
    · simp [madeCells, hi, fc, T0, e])
  rwa [size_madeCells] at h

set_option maxHeartbeats 800000 in
theorem tnew_bad (n : Int) (w : World) (hn : ¬ (0 ≤ n ∧ n ≤ 1024)) :
    Calls Try.prog 37 #[.int .i64 n] w fun e w' => e = .returned (.tuple #[.pointer none, .int .i64 1]) ∧ w' = w := by
  by_cases h0 : n < 0
  · clear hn
    go_enter Try.func37, Try.ntmps37
    go_wp2
    go_ret2
    exact ⟨rfl, rfl⟩
  · have h1 : 1024 < n := by omega
    clear hn
    go_enter Try.func37, Try.ntmps37
    go_wp2
    go_ret2
    exact ⟨rfl, rfl⟩

set_option maxHeartbeats 800000 in
theorem tnew_any (n : Nat) (w : World) (hn : n ≤ 1024) :
    Calls Try.prog 37 #[.int .i64 n] w fun e w' => ∃ b g, e = .returned (.tuple #[.pointer (some ⟨b, 0, none⟩), .int .i64 0]) ∧ Tab w' b g n T0 ∧ w.heap.size ≤ b ∧ w.heap.size ≤ g ∧ Kept w w' := by
  have hmk := run_make_frags n hn
  go_enter Try.func37, Try.ntmps37
  go_wp2
  go_ret2
  refine ⟨w.heap.size + 1, w.heap.size, rfl, ⟨?_, ?_, hn⟩, by omega, by omega, ((Kept.refl w).alloc _ _).alloc _ _⟩
  · have h := Own.new (w.alloc (.cells (madeCells #[.int .i64 0, .bool false, .bool false] (n * 3)) 88)) [.slice (some ⟨w.heap.size, 0, none⟩) n n] 91
    simpa using h
  · exact (tfrags_made w n _).alloc _

/-- How many of the first k are in state s. -/
def cnt (T : Nat → Fr) (s : Int) : Nat → Nat
  | 0 => 0
  | k + 1 => cnt T s k + if (T k).s = s then 1 else 0

theorem cnt_le (T : Nat → Fr) (s : Int) : ∀ k, cnt T s k ≤ k
  | 0 => Nat.le_refl _
  | k + 1 => by
    have := cnt_le T s k
    simp only [cnt]
    split <;> omega

set_option maxHeartbeats 1000000 in
theorem tcounts_any {b g n : Nat} {T : Nat → Fr} (w : World) (h : Tab w b g n T) :
    Calls Try.prog 24 #[.pointer (some ⟨b, 0, none⟩)] w fun e w' => e = .returned (.tuple #[.int .i64 (cnt T 0 n), .int .i64 (cnt T 1 n), .int .i64 (cnt T 2 n)]) ∧ Kept w w' := by
  have c0 := h.hd
  have hn := h.few
  have HT : Hid (Tab w b g n T) := h
  clear h
  go_enter Try.func24, Try.ntmps24
  go_wp2
  clear c0
  go_loopg [5, 6, 7, 15] n (fun m x y z i wr => ∃ k : Nat, i = .int .i64 k ∧ k ≤ n ∧ m = n - k ∧ x = .int .i64 (cnt T 0 k) ∧ y = .int .i64 (cnt T 1 k) ∧ z = .int .i64 (cnt T 2 k) ∧ Hid (Kept w wr))
  case atStart => exact ⟨0, rfl, by omega, by omega, rfl, rfl, rfl, Kept.refl _⟩
  case round =>
    obtain ⟨k, rfl, hk, hm, rfl, rfl, rfl, hw⟩ := hrel
    have HM : Hid _ := hm
    clear hm
    have l0 := cnt_le T 0 k
    have l1 := cnt_le T 1 k
    have l2 := cnt_le T 2 k
    by_cases hlt : k < n
    · have ht := HT.out.kept hw.out
      have a0 := ht.at0 hlt
      have a1 := ht.at1 hlt
      have a2 := ht.at2 hlt
      clear ht
      have s0 : cnt T 0 (k + 1) = cnt T 0 k + if (T k).s = 0 then 1 else 0 := rfl
      have s1 : cnt T 1 (k + 1) = cnt T 1 k + if (T k).s = 1 then 1 else 0 := rfl
      have s2 : cnt T 2 (k + 1) = cnt T 2 k + if (T k).s = 2 then 1 else 0 := rfl
      generalize (T k).s = s at *
      rcases (show s = 0 ∨ s = 1 ∨ s = 2 ∨ ((s == 0) = false ∧ (s == 1) = false ∧ (s == 2) = false) by
        by_cases h0 : s = 0
        · exact .inl h0
        · by_cases h1 : s = 1
          · exact .inr (.inl h1)
          · by_cases h2 : s = 2
            · exact .inr (.inr (.inl h2))
            · exact .inr (.inr (.inr ⟨by simpa using h0, by simpa using h1, by simpa using h2⟩))) with rfl | rfl | rfl | ⟨h0, h1, h2⟩
      all_goals simp_all only [if_true, if_false, beq_eq_false_iff_ne, ne_eq, Int.reduceEq, Nat.add_zero]
      all_goals (have S : Hid (_ ∧ _ ∧ _) := ⟨s0, s1, s2⟩; clear s0 s1 s2)
      all_goals go_wp2
      all_goals go_roundg (gk - 1)
      all_goals (have := HM.out; try omega)
      all_goals (obtain ⟨e0, e1, e2⟩ := S.out; exact ⟨k + 1, by go_num, by omega, by omega, by simp [e0], by simp [e1], by simp [e2], hw.out.alloc _ _⟩)
    · obtain rfl : k = n := by omega
      go_wp2
      go_ret3
      exact ⟨rfl, hw.out⟩

end Go.Proofs.Ytahpnnjemjjfhaa
