/-
  The document's NewHand.
-/
import Derived.Test.YtiigmmmhhpdmdaaRHand
namespace Go.Proofs.Ytiigmmmhhpdmdaa
open Go.RowKit

set_option maxHeartbeats 800000 in
theorem hrnew_bad (n : Int) (w : World) (hn : ¬ (1 ≤ n ∧ n ≤ 16)) :
    Calls Try.prog 39 #[.int .i64 n] w fun e w' => e = .returned (.tuple #[.pointer none, .int .i64 1]) ∧ w' = w := by
  by_cases h0 : n < 1
  · clear hn
    go_enter Try.func39, Try.ntmps39
    go_wp2
    go_ret2
    exact ⟨rfl, rfl⟩
  · have h1 : 16 < n := by omega
    clear hn
    go_enter Try.func39, Try.ntmps39
    go_wp2
    go_ret2
    exact ⟨rfl, rfl⟩

/-- Another block than a list's. -/
theorem own_nelst {w : World} {t b base : Nat} {v : Value} {T : List Int} {L : List Value} (h : Own w b t L) (l : Lst w base v T) (ht : t ≠ 3) : v.ownBlock ≠ some b := fun e => by
  rcases l.2 with ⟨rfl, _⟩ | ⟨g, cap, cur, rfl, _, hg, _⟩
  · cases e
  · obtain rfl : g = b := by simpa [Value.ownBlock] using e
    unfold Own at h
    rw [hg] at h
    simp only [Option.some.injEq, Obj.cells.injEq] at h
    exact ht h.2.1.symm
theorem hrdi_one (w : World) (C : List Int) : Rdi (w.alloc (.cells (C.map (Value.int .i64)).toArray 3)) (some ⟨w.heap.size, 0, none⟩) C := fun _ => ⟨w.heap.size, 0, rfl, by simp, fun j hj => by simp [hj]⟩

/-- The document's hand while it is made: j threads so far. -/
structure Mk (w u : World) (b j : Nat) (v : Value) : Prop where
  head : Own u b 173 [.int .i64 0, .bool false, v, .int .i64 0]
  lst : Lst u w.heap.size v (List.replicate j (-1))
  kept : Kept w u
  lo : w.heap.size ≤ b

theorem Mk.done {w u : World} {b n : Nat} {v : Value} (h : Mk w u b n v) (h1 : 1 ≤ n) (hn : n ≤ 16) : ∃ g c, RH u b g c (Hs.first n) ∧ w.heap.size ≤ g := by
  obtain ⟨x, c, e⟩ := h.lst.form
  rw [List.length_replicate] at e
  subst e
  rcases h.lst.2 with ⟨_, h0⟩ | ⟨g, cap, cur, e, _⟩
  · simp at h0; omega
  · obtain ⟨e1, _, e3⟩ := Value.slice.inj e
    subst e1 e3
    obtain ⟨q1, q2, q3, f, hr, hf⟩ := h.lst.row
    refine ⟨g, c, ⟨h.head, ⟨f, hr, fun i hi => ?_⟩, ?_, Hs.first_ok hn, by decide⟩, q3⟩
    · have hi2 : i < n := hi
      rw [hf i (by simpa using hi2)]
      simp [Hs.first]
    · simpa [Hs.first] using q1

set_option maxHeartbeats 2000000 in
theorem hrnew_any (n : Nat) (w : World) (h1 : 1 ≤ (n : Int)) (hn : (n : Int) ≤ 16) :
    Calls Try.prog 39 #[.int .i64 n] w fun e w' => ∃ b g c, e = .returned (.tuple #[.pointer (some ⟨b, 0, none⟩), .int .i64 0]) ∧ RH w' b g c (Hs.first n) ∧ w.heap.size ≤ b ∧ w.heap.size ≤ g ∧ Kept w w' := by
  go_enter Try.func39, Try.ntmps39
  go_upto_block 0 with fail
  have HR : Hid (Mk w (w.alloc (.cells #[.int .i64 0, .bool false, .slice none 0 0, .int .i64 0] 173)) w.heap.size 0 (.slice none 0 0)) := ⟨Own.new w [.int .i64 0, .bool false, .slice none 0 0, .int .i64 0] _, Lst.nil _ _, (Kept.refl w).alloc _ _, Nat.le_refl _⟩
  generalize w.alloc _ = w1 at *
  generalize w.heap.size = b at *
  go_wp2
  go_loopg [5] n (fun m i wr => ∃ (j : Nat) (v : Value), i = .int .i64 j ∧ j ≤ n ∧ m = n - j ∧ Hid (Mk w wr b j v))
  case atStart => exact ⟨0, _, rfl, by omega, by omega, HR.out⟩
  case round =>
    obtain ⟨j, v, rfl, hj, hm, HJ⟩ := hrel
    have HM : Hid _ := hm
    clear hm HR
    by_cases hlt : j < n
    · obtain ⟨x, c, e⟩ := HJ.out.lst.form
      rw [List.length_replicate] at e
      subst e
      have c2 : wr.cell? ⟨b, 2, none⟩ = some (.slice x j c) := HJ.out.head.blk.at 2 rfl
      have HA : Hid (Mk w (wr.alloc (.cells #[.int .i64 (-1)] 3)) b j (.slice x j c)) := ⟨HJ.out.head.alloc _, HJ.out.lst.alloc _ _, HJ.out.kept.alloc _ _, HJ.out.lo⟩
      have HX : Hid (Rdi (wr.alloc (.cells #[.int .i64 (-1)] 3)) (some ⟨wr.heap.size, 0, none⟩) [-1]) := hrdi_one wr [-1]
      have z2 : (List.replicate j (-1 : Int)).length + [(-1 : Int)].length ≤ 1000000 := by simp; omega
      clear HJ
      go_wp2_with (at_builtin; refine wpList_append_lst (T := List.replicate j (-1)) (N := [-1]) rfl _ _ rfl rfl HA.out.lst HA.out.kept.size rfl rfl HX.out z2 ?_)
      intro v2 w2 l2 m2 f2
      have O2 : Hid (Own w2 b 173 [.int .i64 0, .bool false, .slice x j c, .int .i64 0]) := HA.out.head.muts m2 (by simpa using own_nelst HA.out.head HA.out.lst (by decide))
      have H2 : Hid (Mk w (w2.setCell ⟨b, 2, none⟩ v2) b (j + 1) v2) := by
        refine ⟨O2.out.set 2 v2, ?_, (HA.out.kept.muts m2 (fun k hk => (HA.out.lst.lt k (by simpa using hk)).1)).setCell HA.out.lo _, HA.out.lo⟩
        rw [List.replicate_succ']
        exact l2.muts (D := [b]) ((Mut.refl _ _).setCell (by simp) _) (fun k hk hd => by
          simp at hd
          subst hd
          exact own_nelst O2.out l2 (by decide) hk)
      have cf := O2.out.blk.fz
      have ck : w2.cell? ⟨b, 2, none⟩ = some (.slice x j c) := O2.out.blk.at 2 rfl
      obtain ⟨y2, d2, e2⟩ := l2.form
      rw [List.length_append, List.length_replicate] at e2
      subst e2
      clear l2 m2 f2 c2
      go_wp2
      go_roundg (n - (j + 1))
      all_goals (have := HM.out; try omega)
      exact ⟨j + 1, _, by go_num, by omega, by omega, H2.out⟩
    · obtain rfl : j = n := by omega
      have HB : Hid (_ ∧ _ ∧ _) := ⟨HJ.out.done (by omega) (by omega), HJ.out.lo, HJ.out.kept⟩
      clear HJ HM
      go_wp2
      go_ret2
      obtain ⟨⟨g, c, t, hg⟩, hl, hk⟩ := HB.out
      exact ⟨_, g, c, rfl, t, hl, hg, hk⟩
end Go.Proofs.Ytiigmmmhhpdmdaa
