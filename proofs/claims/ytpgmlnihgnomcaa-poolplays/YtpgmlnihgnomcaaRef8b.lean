/-
  The document's pool (package sporef6): Low, Take.
-/
import Derived.Test.YtpgmlnihgnomcaaRef8
namespace Go.Proofs.Ytpgmlnihgnomcaa
open Go.RowKit

set_option maxHeartbeats 2000000 in
theorem rlow_any {b g n : Nat} {F : Nat → Bool} (k : Int) (w : World) (h : PTab 48 w b g n F) :
    Calls Try.prog 14 #[.pointer (some ⟨b, 0, none⟩), .int .i64 k] w fun e w' => ∃ v, e = .returned v ∧ Got w' w.heap.size v (lowL n F k) ∧ PTab 48 w' b g n (dropF F (lowL n F k)) ∧ Mut [g] w w' := by
  have hn := h.few
  have HT : Hid (PTab 48 w b g n F) := h
  have hlb : Hid (b < w.heap.size ∧ g < w.heap.size) := ⟨h.ltb, h.ltg⟩
  clear h
  go_enter Try.func14, Try.ntmps14
  go_wp2
  go_loopg [5, 6] (n + 1) (fun m v i wr => ∃ j : Nat, i = .int .i64 j ∧ j ≤ n ∧ m = n + 1 - j ∧ (freeU F 0 j).length ≤ k.toNat ∧ Hid (PTab 48 wr b g n (dropF F (freeU F 0 j)) ∧ Got wr w.heap.size v (freeU F 0 j) ∧ Mut [g] w wr))
  case atStart => exact ⟨0, rfl, by omega, by omega, by simp [freeU], by rw [freeU, dropF_nil]; exact HT.out, Got.nil _ _, Mut.refl _ _⟩
  case round =>
    clear HT
    obtain ⟨j, rfl, hj, hm, hl, hw⟩ := hrel
    have HM : Hid _ := hm
    clear hm
    obtain ⟨x, c, rfl⟩ := hw.out.2.1.form
    have c0 := hw.out.1.hd
    by_cases hend : j = n ∨ (j < n ∧ ¬ ((freeU F 0 j).length : Int) < k)
    · have HE : Hid (lowL n F k = freeU F 0 j) := freeU_take hj hl (by omega)
      rcases hend with e | ⟨e, e2⟩
      · have e1 : ¬ (j : Int) < (n : Int) := by omega
        clear hl e
        go_wp2
        go_ret
        rw [HE.out]
        exact ⟨_, rfl, hw.out.2.1, hw.out.1, hw.out.2.2⟩
      · clear hl
        go_wp2
        go_ret
        rw [HE.out]
        exact ⟨_, rfl, hw.out.2.1, hw.out.1, hw.out.2.2⟩
    · have hlt : j < n := by omega
      have hl2 : ((freeU F 0 j).length : Int) < k := by omega
      have c1 := hw.out.1.at hlt
      rw [dropF_at] at c1
      cases hf : F j
      · rw [hf] at c1
        have HE : Hid (freeU F 0 (j + 1) = freeU F 0 j) := freeU_miss hf
        clear hf hend hl
        go_wp2
        go_roundg (gk - 1)
        all_goals (have := HM.out; try omega)
        refine ⟨j + 1, by go_num, by omega, by omega, ?_, ?_⟩
        · rw [HE.out]; omega
        · rw [HE.out]; exact hw
      · rw [hf] at c1
        have c2 := hw.out.1.row.frozen
        have HE : Hid (freeU F 0 (j + 1) = freeU F 0 j ++ [j] ∧ dropF F (freeU F 0 (j + 1)) = setB (dropF F (freeU F 0 j)) j false) := ⟨freeU_hit (by omega) hf, dropF_step_hit (by omega) hf⟩
        have HG : Hid _ := (hw.out.2.1.set (a := ⟨g, j, none⟩) hlb.out.2 (.bool false))
        have hsz := hw.out.2.2.size
        have hfl := freeU_len_le F 0 j
        obtain ⟨i0, hi, hz0, hz1, hz2⟩ := info_parts info_int8
        clear hf hend hl
        go_wp2_with (at_builtin; refine wpList_append_own _ rfl _ _ 33 rfl w.heap.size 3 i0 (.int .i64 0) 1 8 Try.underlying33 hi hz0 hz1 hz2 rfl (by decide) _ _ _ rfl (HG.out.alloc _) ⟨wr.heap.size, 0, none⟩ 1 1 [.int .i64 j] rfl rfl ?c1 ?c2 ?c3 ?c4 ?c5 ?_)
        case c1 =>
          intro q u hq
          match q, hq with
          | 0, hq => simp at hq; subst hq; simp [Addr.add]; exact (new_cell (wr.setCell ⟨g, j, none⟩ (.bool false)) _ _ (by simp [World.setCell]) 0).trans rfl
        case c2 => intro u hu; simp at hu; subst hu; rfl
        case c3 => unfold maxLen; omega
        case c4 => omega
        case c5 => simp; omega
        intro v' w1 hown' hgrow _
        have HN : Hid (PTab 48 w1 b g n (dropF F (freeU F 0 (j + 1))) ∧ Got w1 w.heap.size v' (freeU F 0 (j + 1)) ∧ Mut [g] w w1) := by
          have hr : ∀ k, (Value.slice x (freeU F 0 j).length c).ownBlock = some k → w.heap.size ≤ k := fun k e => (World.ownsRow.lt hw.out.2.1 k e).1
          refine ⟨?_, ?_, ?_⟩
          · rw [HE.out.2]
            exact ((hw.out.1.set j false).alloc _ _).grown hgrow fun k e => by have := hr k e; have := hlb.out; omega
          · rw [HE.out.1]
            exact Got.push hown'
          · exact ((hw.out.2.2.setCell (p := ⟨g, j, none⟩) (by simp) _).alloc _).grown hgrow hr
        clear hown' hgrow HG hw
        go_wp2
        go_roundg (gk - 1)
        all_goals (have := HM.out; try omega)
        refine ⟨j + 1, by go_num, by omega, by omega, ?_, HN.out⟩
        rw [HE.out.1]; simp; omega

theorem range_step (a q : Nat) : List.range' a (q + 1) = List.range' a q ++ [a + q] := by
  rw [List.range'_concat]; simp
theorem dropF_push (F : Nat → Bool) (T : List Nat) (t : Nat) : dropF F (T ++ [t]) = setB (dropF F T) t false := by
  funext j
  by_cases e : j = t <;> simp [dropF, setB, e]

set_option maxHeartbeats 2000000 in
theorem rtake_any {b g n : Nat} {F : Nat → Bool} (k : Int) (w : World) (h : PTab 48 w b g n F) :
    Calls Try.prog 11 #[.pointer (some ⟨b, 0, none⟩), .int .i64 k] w fun e w' => ∃ v, e = .returned (.tuple #[v, .bool (takeB n F k)]) ∧ Got w' w.heap.size v (takeL n F k) ∧ PTab 48 w' b g n (dropF F (takeL n F k)) ∧ Mut [g] w w' := by
  have H := rfree_any w h
  have hc := cntB_le F n
  have hn := h.few
  have HT : Hid (PTab 48 w b g n F) := h
  have hlb : Hid (b < w.heap.size ∧ g < w.heap.size) := ⟨h.ltb, h.ltg⟩
  cases ht : takeB n F k
  · have HE : Hid _ := take_no ht
    have h2 : ¬ (1 ≤ k ∧ k ≤ cntB F n) := by simpa [takeB] using ht
    clear ht h
    by_cases hk : k < 1
    · clear h2 hc
      go_enter Try.func11, Try.ntmps11
      go_wp2
      go_ret2
      rw [HE.out, dropF_nil]
      exact ⟨_, rfl, Got.nil _ _, HT.out, Mut.refl _ _⟩
    · have h3 : (cntB F n : Int) < k := by omega
      clear h2 hc
      go_enter Try.func11, Try.ntmps11
      go_wp2_with fail
      refine H.mono ?_
      rintro e w' ⟨rfl, rfl⟩
      go_wp2
      go_ret2
      rw [HE.out, dropF_nil]
      exact ⟨_, rfl, Got.nil _ _, HT.out, Mut.refl _ _⟩
  · have h2 : 1 ≤ k ∧ k ≤ cntB F n := by simpa [takeB] using ht
    obtain ⟨h3, h4⟩ := h2
    have R := rrun_any k w h
    cases hr : runO n F k with
    | none =>
      have HE : Hid _ := take_low ht hr
      rw [hr] at R
      clear ht hr h
      go_enter Try.func11, Try.ntmps11
      go_wp2_with fail
      refine H.mono ?_
      rintro e w' ⟨rfl, rfl⟩
      go_wp2_with fail
      refine R.mono ?_
      rintro e w' ⟨rfl, rfl⟩
      go_wp2_with fail
      refine (rlow_any k _ HT.out).mono ?_
      rintro e w' ⟨v, rfl, hg, hp, hm⟩
      have HN : Hid (Got _ _ _ _ ∧ PTab _ _ _ _ _ _ ∧ Mut _ _ _) := ⟨hg, hp, hm⟩
      clear hg hp hm
      go_wp2
      go_ret2
      rw [← HE.out]
      exact ⟨_, rfl, HN.out⟩
    | some a =>
      have HE : Hid (takeL n F k = List.range' a k.toNat) := (take_run ht hr).2.2
      have haK : a + k.toNat ≤ n := by
        obtain ⟨m, rfl, _, h, _⟩ := runO_inv hr
        simpa using h
      rw [hr] at R
      clear ht hr h
      obtain ⟨K, rfl⟩ : ∃ K : Nat, k = K := ⟨k.toNat, by omega⟩
      rw [Int.toNat_natCast] at HE haK
      have e1 : runV (some a) = (a : Int) := rfl
      rw [e1] at R
      clear e1
      go_enter Try.func11, Try.ntmps11
      go_wp2_with fail
      refine H.mono ?_
      rintro e w' ⟨rfl, rfl⟩
      go_wp2_with fail
      refine R.mono ?_
      rintro e w' ⟨rfl, rfl⟩
      clear H R
      go_wp2
      go_loopg [8, 9] K (fun m v i wr => ∃ q : Nat, i = .int .i64 ((a : Int) + q) ∧ q ≤ K ∧ m = K - q ∧ Hid (PTab 48 wr b g n (dropF F (List.range' a q)) ∧ Got wr w'.heap.size v (List.range' a q) ∧ Mut [g] w' wr))
      case atStart => exact ⟨0, by simp, by omega, by omega, by simpa [dropF_nil] using HT.out, Got.nil _ _, Mut.refl _ _⟩
      case round =>
        clear HT
        obtain ⟨q, rfl, hq, hm, hw⟩ := hrel
        have HM : Hid _ := hm
        clear hm
        obtain ⟨x, c, rfl⟩ := hw.out.2.1.form
        have c0 := hw.out.1.hd
        by_cases hlt : q < K
        · have c1 := hw.out.1.at (k := a + q) (by omega)
          have c2 := hw.out.1.row.frozen
          have HS : Hid (List.range' a (q + 1) = List.range' a q ++ [a + q]) := range_step a q
          have HG : Hid _ := (hw.out.2.1.set (a := ⟨g, a + q, none⟩) hlb.out.2 (.bool false))
          have hsz := hw.out.2.2.size
          have hfl : (List.range' a q).length ≤ 1024 := by simp; omega
          obtain ⟨i0, hi, hz0, hz1, hz2⟩ := info_parts info_int8
          go_wp2_with (at_builtin; refine wpList_append_own _ rfl _ _ 33 rfl w'.heap.size 3 i0 (.int .i64 0) 1 8 Try.underlying33 hi hz0 hz1 hz2 rfl (by decide) _ _ _ rfl (HG.out.alloc _) ⟨wr.heap.size, 0, none⟩ 1 1 [.int .i64 ((a : Int) + (q : Int))] rfl rfl ?c1 ?c2 ?c3 ?c4 ?c5 ?_)
          case c1 =>
            intro z u hz
            match z, hz with
            | 0, hz => simp at hz; subst hz; simp [Addr.add]; exact (new_cell (wr.setCell ⟨g, a + q, none⟩ (.bool false)) _ _ (by simp [World.setCell]) 0).trans rfl
          case c2 => intro u hu; simp at hu; subst hu; rfl
          case c3 => unfold maxLen; omega
          case c4 => omega
          case c5 => simp; omega
          intro v' w1 hown' hgrow _
          have HN : Hid (PTab 48 w1 b g n (dropF F (List.range' a (q + 1))) ∧ Got w1 w'.heap.size v' (List.range' a (q + 1)) ∧ Mut [g] w' w1) := by
            have hr : ∀ k, (Value.slice x q c).ownBlock = some k → w'.heap.size ≤ k := fun k e => (World.ownsRow.lt hw.out.2.1 k (by simpa using e)).1
            refine ⟨?_, ?_, ?_⟩
            · rw [HS.out, dropF_push]
              exact ((hw.out.1.set (a + q) false).alloc _ _).grown hgrow fun k e => by have := hr k e; have := hlb.out; omega
            · rw [HS.out]
              exact Got.push (by simpa using hown')
            · exact ((hw.out.2.2.setCell (p := ⟨g, a + q, none⟩) (by simp) _).alloc _).grown hgrow hr
          clear hown' hgrow HG hw
          go_wp2
          go_roundg (gk - 1)
          all_goals (have := HM.out; try omega)
          exact ⟨q + 1, by go_num, by omega, by omega, HN.out⟩
        · obtain rfl : K = q := by omega
          go_wp2
          go_ret2
          rw [HE.out]
          exact ⟨_, rfl, hw.out.2.1, hw.out.1, hw.out.2.2⟩
end Go.Proofs.Ytpgmlnihgnomcaa
