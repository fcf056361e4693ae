/-
  Contracts of package pool: New, Run, Low, Take.
-/
import Derived.Test.YtahpnnjemjjfhaaPool
namespace Go.Proofs.Ytahpnnjemjjfhaa
open Go.RowKit

def F1 : Nat → Bool := fun _ => true

theorem run_make_bools (n : Nat) (h : n ≤ 1024) (w : World) :
    (Instr.makeSlice 34 (.int .i64 (n : Int)) (.int .i64 (n : Int))).run Try.prog w = .ok (.slice (some ⟨w.heap.size, 0, none⟩) n n) (w.alloc (.cells (madeCells #[.bool false] n) 4)) := by
  obtain ⟨i, hi, hz, hs, hb⟩ := info_parts info_bool8
  have hr := run_make (P := Try.prog) w 34 4 i _ Try.underlying34 hi hz .i64 .i64 n n (by omega) (Int.le_refl _) (by rw [hb]; omega) (by omega)
  simp only [Int.toNat_natCast, hs, Nat.mul_one] at hr
  exact hr

theorem ppool_made (t : TypeId) (w : World) (n : Nat) (hn : n ≤ 1024) : PTab t ((w.alloc (.cells (madeCells #[.bool false] n) 4)).alloc (.cells #[.slice (some ⟨w.heap.size, 0, none⟩) n n] t)) (w.heap.size + 1) w.heap.size n (fun _ => false) := by
  refine ⟨?_, (World.rowIs_made w _ n _).alloc _, by omega, hn⟩
  have h := Own.new (w.alloc (.cells (madeCells #[.bool false] n) 4)) [.slice (some ⟨w.heap.size, 0, none⟩) n n] t
  simpa using h

set_option maxHeartbeats 800000 in
theorem pnew_bad (n : Int) (w : World) (hn : ¬ (0 ≤ n ∧ n ≤ 1024)) :
    Calls Try.prog 65 #[.int .i64 n] w fun e w' => e = .returned (.tuple #[.pointer none, .int .i64 1]) ∧ w' = w := by
  by_cases h0 : n < 0
  · clear hn
    go_enter Try.func65, Try.ntmps65
    go_wp2
    go_ret2
    exact ⟨rfl, rfl⟩
  · have h1 : 1024 < n := by omega
    clear hn
    go_enter Try.func65, Try.ntmps65
    go_wp2
    go_ret2
    exact ⟨rfl, rfl⟩

theorem below_step (k : Nat) : setB (fun j => decide (j < k)) k true = fun j => decide (j < k + 1) := by
  funext j
  by_cases e : j = k
  · subst e; simp [setB]
  · simp [setB, e]; omega

set_option maxHeartbeats 800000 in
theorem pnew_any (n : Nat) (w : World) (hn : n ≤ 1024) :
    Calls Try.prog 65 #[.int .i64 n] w fun e w' => ∃ b g, e = .returned (.tuple #[.pointer (some ⟨b, 0, none⟩), .int .i64 0]) ∧ PTab 104 w' b g n F1 ∧ w.heap.size ≤ b ∧ w.heap.size ≤ g ∧ Kept w w' := by
  have hmk := run_make_bools n hn
  have PM : Hid _ := ppool_made 104 w n hn
  have KM : Hid (Kept w ((w.alloc (.cells (madeCells #[.bool false] n) 4)).alloc (.cells #[.slice (some ⟨w.heap.size, 0, none⟩) n n] 104))) := ((Kept.refl w).alloc _ _).alloc _ _
  go_enter Try.func65, Try.ntmps65
  go_wp2
  clear hmk
  go_loopg [21] n (fun m i wr => ∃ k : Nat, i = .int .i64 k ∧ k ≤ n ∧ m = n - k ∧ Hid (PTab 104 wr (w.heap.size + 1) w.heap.size n (fun j => decide (j < k)) ∧ Kept w wr))
  case atStart => exact ⟨0, rfl, by omega, by omega, PM.out.congr (fun j _ => by simp), KM.out⟩
  case round =>
    clear PM KM
    obtain ⟨k, rfl, hk, hm, hw⟩ := hrel
    have HM : Hid _ := hm
    clear hm
    have c0 := hw.out.1.hd
    by_cases hlt : k < n
    · have c1 := hw.out.1.at hlt
      have c2 := hw.out.1.row.frozen
      go_wp2
      go_roundg (gk - 1)
      all_goals (have := HM.out; try omega)
      refine ⟨k + 1, by go_num, by omega, by omega, ?_, ?_⟩
      · have := hw.out.1.set k true
        rwa [below_step] at this
      · exact hw.out.2.setCell (Nat.le_refl _) _
    · obtain rfl : k = n := by omega
      go_wp2
      go_ret2
      exact ⟨_, _, rfl, hw.out.1.congr (fun j hj => by simp [F1, hj]), by omega, by omega, hw.out.2⟩

/-- What Run knows at x: from x on q are free, then one that is not, or the end; no run begins from x on. -/
structure RunInv (n : Nat) (F : Nat → Bool) (k x q : Nat) : Prop where
  low : 1 ≤ k
  qk : q < k
  top : x + q ≤ n
  all : ∀ j, j < q → F (x + j) = true
  stop : x + q = n ∨ F (x + q) = false
  non : ∀ a, x ≤ a → a + k ≤ n → runsB F a k = false

section
variable {n k y q : Nat} {F : Nat → Bool}
theorem RunInv.start (hk : 1 ≤ k) : RunInv n F k n 0 := ⟨hk, by omega, by omega, fun j h => by omega, .inl rfl, fun a h1 h2 => by omega⟩
theorem RunInv.miss (h : RunInv n F k (y + 1) q) (hf : F y = false) : RunInv n F k y 0 :=
  ⟨h.low, h.low, by have := h.top; omega, fun j h => by omega, .inr hf, fun a h1 h2 => by
    by_cases e : a = y
    · subst e; exact prunsB_no 0 h.low hf
    · exact h.non a (by omega) h2⟩
theorem RunInv.hit (h : RunInv n F k (y + 1) q) (hf : F y = true) (hq : q + 1 < k) : RunInv n F k y (q + 1) :=
  ⟨h.low, hq, by have := h.top; omega, fun j hj => by
    by_cases e : j = 0
    · subst e; exact hf
    · have := h.all (j - 1) (by omega)
      rwa [show y + 1 + (j - 1) = y + j by omega] at this, by
    rcases h.stop with e | e
    · exact .inl (by omega)
    · exact .inr (by rwa [show y + (q + 1) = y + 1 + q by omega]), fun a h1 h2 => by
    by_cases e : a = y
    · subst e
      rcases h.stop with e | e
      · omega
      · exact prunsB_no (q + 1) hq (by rwa [show a + (q + 1) = a + 1 + q by omega])
    · exact h.non a (by omega) h2⟩
theorem RunInv.found (h : RunInv n F k (y + 1) q) (hf : F y = true) (hq : q + 1 = k) : runO n F k = some y :=
  runO_some h.low (by have := h.top; omega) (prunsB_iff.2 fun j hj => by
    by_cases e : j = 0
    · subst e; exact hf
    · have := h.all (j - 1) (by omega)
      rwa [show y + 1 + (j - 1) = y + j by omega] at this) fun x h1 h2 => h.non x (by omega) h2
theorem RunInv.over (h : RunInv n F k 0 q) : runO n F k = none := runO_none fun x hx => h.non x (by omega) hx
end

set_option maxHeartbeats 1000000 in
theorem prun_any {b g n : Nat} {F : Nat → Bool} (k : Int) (w : World) (h : PTab 104 w b g n F) :
    Calls Try.prog 75 #[.pointer (some ⟨b, 0, none⟩), .int .i64 k] w fun e w' => e = .returned (.tuple #[.int .i64 (runV (runO n F k)), .bool (runO n F k).isSome]) ∧ w' = w := by
  by_cases hk : k < 1
  · rw [runO_low hk]
    clear h
    go_enter Try.func75, Try.ntmps75
    go_wp2
    go_ret2
    exact ⟨rfl, rfl⟩
  · obtain ⟨kn, rfl⟩ : ∃ kn : Nat, k = kn := ⟨k.toNat, by omega⟩
    have c0 := h.hd
    have hn := h.few
    have HT : Hid (PTab 104 w b g n F) := h
    clear h
    generalize hR : runO n F kn = R
    have HR : Hid (runO n F kn = R) := hR
    clear hR
    go_enter Try.func75, Try.ntmps75
    go_wp2
    go_loopg [6, 7] (n + 1) (fun m s i wr => ∃ x q : Nat, i = .int .i64 ((x : Int) - 1) ∧ s = .int .i64 q ∧ x ≤ n ∧ q ≤ n ∧ m = x + 1 ∧ wr = w ∧ Hid (RunInv n F kn x q))
    case atStart => exact ⟨n, 0, rfl, rfl, by omega, by omega, rfl, rfl, RunInv.start (by omega)⟩
    case round =>
      obtain ⟨x, q, rfl, rfl, hx, hq, hm, rfl, hi⟩ := hrel
      have HM : Hid _ := hm
      clear hm
      cases x with
      | zero =>
        have e : R = none := HR.out.symm.trans hi.out.over
        subst e
        have e0 : ((0 : Nat) : Int) - 1 = -1 := rfl
        rw [e0]
        go_wp2
        go_ret2
        exact ⟨rfl, rfl⟩
      | succ y =>
        have e0 : ((y + 1 : Nat) : Int) - 1 = y := by omega
        rw [e0]
        clear e0
        have c1 := HT.out.at (k := y) (by omega)
        cases hf : F y
        · have HI : Hid (RunInv n F kn y 0) := hi.out.miss hf
          rw [hf] at c1
          clear hi hf
          go_wp2
          go_roundg (gk - 1)
          all_goals (have := HM.out; try omega)
          exact ⟨y, 0, rfl, rfl, by omega, by omega, by omega, rfl, HI⟩
        · rw [hf] at c1
          by_cases hq1 : q + 1 = kn
          · have e : R = some y := HR.out.symm.trans (hi.out.found hf hq1)
            subst e
            have q1 : ((q : Int) + 1 == (kn : Int)) = true := by simp; omega
            clear hi hf hq1
            go_wp2
            go_ret2
            exact ⟨rfl, rfl⟩
          · have qk := hi.out.qk
            have HI : Hid (RunInv n F kn y (q + 1) ∧ y + (q + 1) ≤ n) := ⟨hi.out.hit hf (by omega), by have := hi.out.top; omega⟩
            have q1 : ((q : Int) + 1 == (kn : Int)) = false := by simp; omega
            clear hi hf hq1 qk
            go_wp2
            go_roundg (gk - 1)
            all_goals (have := HM.out; try omega)
            exact ⟨y, q + 1, rfl, by go_num, by omega, by have := HI.out.2; omega, by omega, rfl, HI.out.1⟩
end Go.Proofs.Ytahpnnjemjjfhaa
