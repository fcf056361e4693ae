/-
  Contracts of package pool: takeFrom, Low, Take; the laws' own comparison of lists.
-/
import Derived.Test.YtahpnnjemjjfhaaPoolB
namespace Go.Proofs.Ytahpnnjemjjfhaa
open Go.RowKit

theorem run_make_ints (k : Nat) (h : k ≤ 1024) (w : World) :
    (Instr.makeSlice 38 (.int .i64 0) (.int .i64 (k : Int))).run Try.prog w = .ok (.slice (some ⟨w.heap.size, 0, none⟩) 0 k) (w.alloc (.cells (madeCells #[.int .i64 0] k) 3)) := by
  obtain ⟨i, hi, hz, hs, hb⟩ := info_parts info_int8
  have hr := run_make (P := Try.prog) w 38 3 i _ Try.underlying38 hi hz .i64 .i64 0 k (by omega) (by omega) (by rw [hb]; omega) (by omega)
  simp only [Int.toNat_natCast, Int.toNat_zero, hs, Nat.mul_one] at hr
  exact hr

theorem pnew_cell (w : World) (C : Array Value) (t : TypeId) {m : Nat} (hm : m = w.heap.size) (i : Nat) : (w.alloc (.cells C t)).cell? ⟨m, i, none⟩ = C[i]? := by
  subst hm
  simp

theorem pgot_made (w : World) (k : Nat) (h : k ≤ 1024) : Got (w.alloc (.cells (madeCells #[.int .i64 0] k) 3)) w.heap.size (.slice (some ⟨w.heap.size, 0, none⟩) 0 k) [] :=
  World.ownsRow_made w _ k (Nat.le_refl _) (by unfold maxLen; omega) (by rw [size_madeCells]; omega)

set_option maxHeartbeats 2000000 in
theorem ptakeFrom_any {b g n : Nat} {F : Nat → Bool} (a : Nat) (k : Int) (w : World) (h : PTab 104 w b g n F) (ha : a ≤ n) (hk : k ≤ 1024) :
    Calls Try.prog 92 #[.pointer (some ⟨b, 0, none⟩), .int .i64 a, .int .i64 k] w fun e w' => ∃ v, e = .returned v ∧ Got w' w.heap.size v ((freeU F a n).take k.toNat) ∧ PTab 104 w' b g n (dropF F ((freeU F a n).take k.toNat)) ∧ Mut [g] w w' := by
  by_cases h1 : k < 1
  · have e0 : k.toNat = 0 := by omega
    have HT : Hid (PTab 104 w b g n F) := h
    clear h
    go_enter Try.func92, Try.ntmps92
    go_wp2
    go_ret
    simp only [e0, List.take_zero, dropF_nil]
    exact ⟨_, rfl, Got.nil _ _, HT.out, Mut.refl _ _⟩
  · obtain ⟨kn, rfl⟩ : ∃ kn : Nat, k = kn := ⟨k.toNat, by omega⟩
    rw [Int.toNat_natCast]
    have hk' : kn ≤ 1024 := by omega
    have hmk := run_make_ints kn hk'
    have hn := h.few
    have HT : Hid (PTab 104 w b g n F) := h
    have GM : Hid _ := pgot_made w kn hk'
    have MM : Hid (Mut [g] w (w.alloc (.cells (madeCells #[.int .i64 0] kn) 3))) := (Mut.refl _ _).alloc _
    have PM : Hid (PTab 104 (w.alloc (.cells (madeCells #[.int .i64 0] kn) 3)) b g n F) := h.alloc _ _
    have hlb : Hid (b < w.heap.size ∧ g < w.heap.size) := ⟨h.ltb, h.ltg⟩
    clear h
    go_enter Try.func92, Try.ntmps92
    go_wp2
    clear hmk
    go_loopg [7, 8] (n + 1 - a) (fun m v i wr => ∃ j : Nat, i = .int .i64 j ∧ a ≤ j ∧ j ≤ n ∧ m = n + 1 - j ∧ (freeU F a j).length ≤ kn ∧ Hid (PTab 104 wr b g n (dropF F (freeU F a j)) ∧ Got wr w.heap.size v (freeU F a j) ∧ Mut [g] w wr))
    case atStart =>
      refine ⟨a, rfl, by omega, by omega, by omega, ?_, ?_⟩
      · rw [freeU_low F a a (Nat.le_refl _)]; simp
      · rw [freeU_low F a a (Nat.le_refl _), dropF_nil]
        exact ⟨PM.out, GM.out, MM.out⟩
    case round =>
      clear GM MM PM HT
      obtain ⟨j, rfl, haj, hj, hm, hl, hw⟩ := hrel
      have HM : Hid _ := hm
      clear hm
      obtain ⟨x, c, rfl⟩ := hw.out.2.1.form
      have c0 := hw.out.1.hd
      by_cases hend : j = n ∨ (freeU F a j).length = kn
      · have HE : Hid ((freeU F a n).take kn = freeU F a j) := freeU_take hj hl hend
        rcases hend with rfl | e
        · clear hl
          go_wp2
          go_ret
          rw [HE.out]
          exact ⟨_, rfl, hw.out.2.1, hw.out.1, hw.out.2.2⟩
        · by_cases hlt : j < n
          · have e2 : ¬ ((freeU F a j).length : Int) < kn := by omega
            clear e hl
            generalize hL : (freeU F a j).length = L at *
            have HL : Hid _ := hL
            clear hL
            go_wp2
            go_ret
            rw [HE.out]
            exact ⟨_, rfl, hw.out.2.1, hw.out.1, hw.out.2.2⟩
          · clear hl e
            go_wp2
            go_ret
            rw [HE.out]
            exact ⟨_, rfl, hw.out.2.1, hw.out.1, hw.out.2.2⟩
      · have hlt : j < n := by omega
        have hl2 : ((freeU F a j).length : Int) < kn := by omega
        have c1 := hw.out.1.at hlt
        rw [dropF_at] at c1
        cases hf : F j
        · rw [hf] at c1
          have HE : Hid (freeU F a (j + 1) = freeU F a j) := freeU_miss hf
          clear hf hend hl
          go_wp2
          go_roundg (gk - 1)
          all_goals (have := HM.out; try omega)
          refine ⟨j + 1, by go_num, by omega, by omega, by omega, ?_, ?_⟩
          · rw [HE.out]; omega
          · rw [HE.out]; exact hw
        · rw [hf] at c1
          have c2 := hw.out.1.row.frozen
          have HE : Hid (freeU F a (j + 1) = freeU F a j ++ [j] ∧ dropF F (freeU F a (j + 1)) = setB (dropF F (freeU F a j)) j false) := ⟨freeU_hit haj hf, dropF_step_hit haj hf⟩
          have HG : Hid _ := (hw.out.2.1.set (a := ⟨g, j, none⟩) hlb.out.2 (.bool false))
          have hsz := hw.out.2.2.size
          obtain ⟨i0, hi, hz0, hz1, hz2⟩ := info_parts info_int8
          clear hf hend hl
          go_wp2_with (at_builtin; refine wpList_append_own _ rfl _ _ 38 rfl w.heap.size 3 i0 (.int .i64 0) 1 8 Try.underlying38 hi hz0 hz1 hz2 rfl (by decide) _ _ _ rfl (HG.out.alloc _) ⟨wr.heap.size, 0, none⟩ 1 1 [.int .i64 j] rfl rfl ?c1 ?c2 ?c3 ?c4 ?c5 ?_)
          case c1 =>
            intro q u hq
            match q, hq with
            | 0, hq => simp at hq; subst hq; simp [Addr.add]; exact (pnew_cell (wr.setCell ⟨g, j, none⟩ (.bool false)) _ _ (by simp [World.setCell]) 0).trans rfl
          case c2 => intro u hu; simp at hu; subst hu; rfl
          case c3 => unfold maxLen; omega
          case c4 => omega
          case c5 => simp; omega
          intro v' w1 hown' hgrow _
          have HN : Hid (PTab 104 w1 b g n (dropF F (freeU F a (j + 1))) ∧ Got w1 w.heap.size v' (freeU F a (j + 1)) ∧ Mut [g] w w1) := by
            have hr : ∀ k, (Value.slice x (freeU F a j).length c).ownBlock = some k → w.heap.size ≤ k := fun k e => (World.ownsRow.lt hw.out.2.1 k e).1
            refine ⟨?_, ?_, ?_⟩
            · rw [HE.out.2]
              exact ((hw.out.1.set j false).alloc _ _).grown hgrow fun k e => by have := hr k e; have := hlb.out; omega
            · rw [HE.out.1]
              exact Got.push hown'
            · exact ((hw.out.2.2.setCell (p := ⟨g, j, none⟩) (by simp) _).alloc _).grown hgrow hr
          clear hown' hgrow HG hw
          go_wp2
          go_roundg (gk - 1)
          all_goals (have := HM.out; try omega)
          refine ⟨j + 1, by go_num, by omega, by omega, by omega, ?_, HN.out⟩
          rw [HE.out.1]; simp; omega
end Go.Proofs.Ytahpnnjemjjfhaa
