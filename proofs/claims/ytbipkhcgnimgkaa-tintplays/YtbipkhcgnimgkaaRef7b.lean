/-
  The document's table (package sporef6): Set, NewTable, Counts.
-/
import Derived.Test.YtbipkhcgnimgkaaRef7
namespace Go.Proofs.Ytbipkhcgnimgkaa
open Go.RowKit

set_option maxHeartbeats 4000000 in
theorem rset_any {b gs gh gc n : Nat} {T : Nat → Fr} (i s : Int) (p c : Bool) (w : World) (h : RTab w b gs gh gc n T) :
    Calls Try.prog 12 #[.pointer (some ⟨b, 0, none⟩), .int .i64 i, .int .i64 s, .bool p, .bool c] w fun e w' => e = .returned (.bool (inn n i && isSt s)) ∧ RTab w' b gs gh gc n (setT n T i s p c) ∧ Mut [gs, gh, gc] w w' := by
  have H := ris_any i w h
  have c0 := h.hd0
  have c1 := h.hd1
  have c2 := h.hd2
  have HT : Hid (RTab w b gs gh gc n T) := h
  cases hi : inn n i
  · simp only [setT, hi, Bool.false_and, Bool.false_eq_true, if_false] at H ⊢
    clear h hi
    go_enter Try.func12, Try.ntmps12
    go_wp2_with fail
    refine H.mono ?_
    rintro e w' ⟨rfl, rfl⟩
    go_wp2
    go_ret
    exact ⟨rfl, HT.out, Mut.refl _ _⟩
  · obtain ⟨k, rfl, hk⟩ := inn_iff hi
    have d0 := h.rs.cell hk
    have d1 := h.rh.cell hk
    have d2 := h.rc.cell hk
    have f0 := h.rs.frozen
    have f1 := h.rh.frozen
    have f2 := h.rc.frozen
    have n1 := h.nbs
    have n2 := h.nbh
    have n3 := h.nbc
    have n4 := h.nsh
    have n5 := h.nsc
    have n6 := h.ne
    by_cases h0 : s < 0
    · have hs : isSt s = false := by simp [isSt]; omega
      simp only [setT, hi, hs, Bool.and_false, Bool.false_eq_true, if_false] at H ⊢
      clear h hi hs d0 d1 d2 f0 f1 f2 n1 n2 n3 n4 n5 n6
      go_enter Try.func12, Try.ntmps12
      go_wp2_with fail
      refine H.mono ?_
      rintro e w' ⟨rfl, rfl⟩
      go_wp2
      go_ret
      exact ⟨rfl, HT.out, Mut.refl _ _⟩
    · by_cases h1 : 2 < s
      · have hs : isSt s = false := by simp [isSt]; omega
        simp only [setT, hi, hs, Bool.and_false, Bool.false_eq_true, if_false] at H ⊢
        clear h hi hs d0 d1 d2 f0 f1 f2 n1 n2 n3 n4 n5 n6
        go_enter Try.func12, Try.ntmps12
        go_wp2_with fail
        refine H.mono ?_
        rintro e w' ⟨rfl, rfl⟩
        go_wp2
        go_ret
        exact ⟨rfl, HT.out, Mut.refl _ _⟩
      · have hs : isSt s = true := by
          rcases (show s = 0 ∨ s = 1 ∨ s = 2 by omega) with rfl | rfl | rfl <;> rfl
        simp only [setT, hi, hs, Bool.and_true, if_true, Int.toNat_natCast] at H ⊢
        clear h hi hs
        have FIN : Hid (∀ q : Bool, (p && (s == 2)) = q → RTab ((((w.setCell ⟨gs, k, none⟩ (.int .i64 s)).setCell ⟨gh, k, none⟩ (.bool q)).setCell ⟨gc, k, none⟩ (.bool c)).drew) b gs gh gc n (fun j => if j = k then ⟨s, p && (s == 2), c⟩ else T j)) := fun q e => by
          subst e
          have h3 := (((HT.out.sets k s).seth k (p && (s == 2))).setc k c).kept ((Kept.refl _).drew)
          have e3 : (fun i => if i = k then ⟨(if i = k then (⟨(if i = k then (⟨s, (T i).h, (T i).c⟩ : Fr) else T i).s, p && (s == 2), (if i = k then (⟨s, (T i).h, (T i).c⟩ : Fr) else T i).c⟩ : Fr) else if i = k then (⟨s, (T i).h, (T i).c⟩ : Fr) else T i).s, (if i = k then (⟨(if i = k then (⟨s, (T i).h, (T i).c⟩ : Fr) else T i).s, p && (s == 2), (if i = k then (⟨s, (T i).h, (T i).c⟩ : Fr) else T i).c⟩ : Fr) else if i = k then (⟨s, (T i).h, (T i).c⟩ : Fr) else T i).h, c⟩ else if i = k then (⟨(if i = k then (⟨s, (T i).h, (T i).c⟩ : Fr) else T i).s, p && (s == 2), (if i = k then (⟨s, (T i).h, (T i).c⟩ : Fr) else T i).c⟩ : Fr) else if i = k then (⟨s, (T i).h, (T i).c⟩ : Fr) else T i : Nat → Fr) = fun j => if j = k then ⟨s, p && (s == 2), c⟩ else T j := by
            funext j
            by_cases e : j = k <;> simp [e]
          rw [e3] at h3
          exact h3
        have M : Hid (∀ q : Bool, Mut [gs, gh, gc] w (((w.setCell ⟨gs, k, none⟩ (.int .i64 s)).setCell ⟨gh, k, none⟩ (.bool q)).setCell ⟨gc, k, none⟩ (.bool c)).drew) := fun q => ((((Mut.refl _ _).setCell (by simp) _).setCell (by simp) _).setCell (by simp) _).drew
        cases p
        · go_enter Try.func12, Try.ntmps12
          go_wp2_with fail
          refine H.mono ?_
          rintro e w' ⟨rfl, rfl⟩
          go_wp2
          go_region
          go_wp2
          go_ret
          exact ⟨rfl, FIN.out _ rfl, M.out _⟩
        · go_enter Try.func12, Try.ntmps12
          go_wp2_with fail
          refine H.mono ?_
          rintro e w' ⟨rfl, rfl⟩
          go_wp2
          go_region
          go_wp2
          go_ret
          exact ⟨rfl, FIN.out _ (by simp), M.out _⟩

theorem info_bool7 : (Try.prog.info? 4).map (fun i => (i.zero, i.size, i.bytes)) = some (some (.bool false), 1, 1) := by kernel_rfl
theorem info_int7 : (Try.prog.info? 3).map (fun i => (i.zero, i.size, i.bytes)) = some (some (.int .i64 0), 1, 8) := by kernel_rfl

set_option maxHeartbeats 800000 in
theorem rnew_bad (n : Int) (w : World) (hn : ¬ (0 ≤ n ∧ n ≤ 1024)) :
    Calls Try.prog 10 #[.int .i64 n] w fun e w' => e = .returned (.tuple #[.pointer none, .int .i64 1]) ∧ w' = w := by
  by_cases h0 : n < 0
  · clear hn
    go_enter Try.func10, Try.ntmps10
    go_wp2
    go_ret2
    exact ⟨rfl, rfl⟩
  · have h1 : 1024 < n := by omega
    clear hn
    go_enter Try.func10, Try.ntmps10
    go_wp2
    go_ret2
    exact ⟨rfl, rfl⟩

section
variable (w : World) (z : Value) (n : Nat) (t : TypeId) (A B : Obj)
theorem made_0 : (((w.alloc (.cells (madeCells #[z] n) t)).alloc A).alloc B).rowIs w.heap.size t n (fun _ => z) := ((World.rowIs_made w z n t).alloc _).alloc _
theorem made_1 : (((w.alloc A).alloc (.cells (madeCells #[z] n) t)).alloc B).rowIs (w.heap.size + 1) t n (fun _ => z) := by
  have h := World.rowIs_made (w.alloc A) z n t
  have e : (w.alloc A).heap.size = w.heap.size + 1 := by simp
  rw [e] at h
  exact h.alloc _
theorem made_2 : (((w.alloc A).alloc B).alloc (.cells (madeCells #[z] n) t)).rowIs (w.heap.size + 1 + 1) t n (fun _ => z) := by
  have h := World.rowIs_made ((w.alloc A).alloc B) z n t
  have e : ((w.alloc A).alloc B).heap.size = w.heap.size + 1 + 1 := by simp
  rw [e] at h
  exact h
end
theorem rtab_new {W : World} {b gs gh gc n : Nat} (hb : W.heap.size = b) (hn : n ≤ 1024) (rs : W.rowIs gs 3 n (fun _ => .int .i64 0)) (rh : W.rowIs gh 4 n (fun _ => .bool false)) (rc : W.rowIs gc 4 n (fun _ => .bool false)) (ne : gh ≠ gc) :
    RTab (W.alloc (.cells #[.slice (some ⟨gs, 0, none⟩) n n, .slice (some ⟨gh, 0, none⟩) n n, .slice (some ⟨gc, 0, none⟩) n n] 50)).drew b gs gh gc n T0 := by
  subst hb
  exact ⟨Own.new W [_, _, _] _, rs.alloc _, rh.alloc _, rc.alloc _, ne, hn⟩

set_option maxHeartbeats 4000000 in
theorem rnew_any (n : Nat) (w : World) (hn : n ≤ 1024) :
    Calls Try.prog 10 #[.int .i64 n] w fun e w' => ∃ b gs gh gc, e = .returned (.tuple #[.pointer (some ⟨b, 0, none⟩), .int .i64 0]) ∧ RTab w' b gs gh gc n T0 ∧ w.heap.size ≤ b ∧ w.heap.size ≤ gs ∧ w.heap.size ≤ gh ∧ w.heap.size ≤ gc ∧ Kept w w' := by
  have hmk := run_make_row' (P := Try.prog) 41 4 (.bool false) 1 Try.underlying41 info_bool7 rfl .i64 .i64 n (by omega) (by omega)
  have hmi := run_make_row' (P := Try.prog) 40 3 (.int .i64 0) 8 Try.underlying40 info_int7 rfl .i64 .i64 n (by omega) (by omega)
  go_enter Try.func10, Try.ntmps10
  go_wp2
  go_region
  all_goals go_wp2
  all_goals go_ret2
  all_goals refine ⟨_, _, _, _, rfl, rtab_new (by simp) hn (by first | exact made_0 _ _ _ _ _ _ | exact made_1 _ _ _ _ _ _ | exact made_2 _ _ _ _ _ _) (by first | exact made_0 _ _ _ _ _ _ | exact made_1 _ _ _ _ _ _ | exact made_2 _ _ _ _ _ _) (by first | exact made_0 _ _ _ _ _ _ | exact made_1 _ _ _ _ _ _ | exact made_2 _ _ _ _ _ _) (by omega), by omega, by omega, by omega, by omega, (((((Kept.refl w).alloc _ _).alloc _ _).alloc _ _).alloc _ _).drew⟩

/-- The three counts, as they are gathered. -/
def cn (T : Nat → Fr) (k : Nat) : List Value := [.int .i64 (cnt T 0 k), .int .i64 (cnt T 1 k), .int .i64 (cnt T 2 k)]

set_option maxHeartbeats 2000000 in
theorem rcounts_any {b gs gh gc n : Nat} {T : Nat → Fr} (w : World) (h : RTab w b gs gh gc n T) (hf : ∀ j, j < n → (T j).s = 0 ∨ (T j).s = 1 ∨ (T j).s = 2) :
    Calls Try.prog 18 #[.pointer (some ⟨b, 0, none⟩)] w fun e w' => e = .returned (.tuple #[.int .i64 (cnt T 0 n), .int .i64 (cnt T 1 n), .int .i64 (cnt T 2 n)]) ∧ Kept w w' := by
  have HT : Hid (RTab w b gs gh gc n T) := h
  have HF : Hid (∀ j, j < n → (T j).s = 0 ∨ (T j).s = 1 ∨ (T j).s = 2) := hf
  have hn := h.few
  clear h hf
  go_enter Try.func18, Try.ntmps18
  go_wp2
  generalize hW : w.alloc _ = W
  have B0 : Hid (Blk W w.heap.size (cn T 0)) := by rw [← hW]; exact Blk.new w _ _
  have K0 : Hid (Kept w W) := by rw [← hW]; exact (Kept.refl w).alloc _ _
  clear hW
  have hge : Hid (w.heap.size ≤ w.heap.size) := Nat.le_refl _
  generalize hob : w.heap.size = ob at B0 ⊢
  have hob2 : Hid (w.heap.size ≤ ob) := by simp [Hid, hob]
  clear hob hge
  go_loopg [6] n (fun m i wr => ∃ k : Nat, i = .int .i64 k ∧ k ≤ n ∧ m = n - k ∧ Hid (Kept w wr) ∧ Hid (Blk wr ob (cn T k)))
  case atStart => exact ⟨0, rfl, by omega, by omega, K0.out, B0.out⟩
  case round =>
    obtain ⟨k, rfl, hk, hm, hw, hbk⟩ := hrel
    have HM : Hid _ := hm
    clear hm
    have l0 := cnt_le T 0 k
    have l1 := cnt_le T 1 k
    have l2 := cnt_le T 2 k
    have c0 := (HT.out.kept hw.out).hd0
    have x0 := hbk.out.at 0 rfl
    have x1 := hbk.out.at 1 rfl
    have x2 := hbk.out.at 2 rfl
    by_cases hlt : k < n
    · have a0 := (HT.out.kept hw.out).rs.cell hlt
      have fz := hbk.out.fz
      have s0 : cnt T 0 (k + 1) = cnt T 0 k + if (T k).s = 0 then 1 else 0 := rfl
      have s1 : cnt T 1 (k + 1) = cnt T 1 k + if (T k).s = 1 then 1 else 0 := rfl
      have s2 : cnt T 2 (k + 1) = cnt T 2 k + if (T k).s = 2 then 1 else 0 := rfl
      rcases HF.out k hlt with e | e | e
      all_goals rw [e] at a0 s0 s1 s2
      all_goals clear e
      all_goals simp only [if_true, if_false, Int.reduceEq, Nat.add_zero] at s0 s1 s2
      · have S0 : Hid (cnt T 0 (k + 1) = cnt T 0 k + 1) := s0
        have HE : Hid (∀ v : Int, v = cnt T 0 (k + 1) → Kept w (wr.setCell ⟨ob, 0, none⟩ (.int .i64 v)) ∧ Blk (wr.setCell ⟨ob, 0, none⟩ (.int .i64 v)) ob (cn T (k + 1))) := fun v hv => by
          subst hv
          refine ⟨hw.out.setCell hob2.out _, ?_⟩
          have h := hbk.out.set (i := 0) rfl (.int .i64 (cnt T 0 (k + 1)))
          simpa [cn, s1, s2] using h
        clear s0 s1 s2
        go_wp2
        go_roundg (gk - 1)
        all_goals (have := HM.out; try omega)
        all_goals exact ⟨k + 1, by go_num, by omega, by omega, (HE.out _ (by have := S0.out; omega)).1, (HE.out _ (by have := S0.out; omega)).2⟩
      · have S0 : Hid (cnt T 1 (k + 1) = cnt T 1 k + 1) := s1
        have HE : Hid (∀ v : Int, v = cnt T 1 (k + 1) → Kept w (wr.setCell ⟨ob, 1, none⟩ (.int .i64 v)) ∧ Blk (wr.setCell ⟨ob, 1, none⟩ (.int .i64 v)) ob (cn T (k + 1))) := fun v hv => by
          subst hv
          refine ⟨hw.out.setCell hob2.out _, ?_⟩
          have h := hbk.out.set (i := 1) rfl (.int .i64 (cnt T 1 (k + 1)))
          simpa [cn, s0, s2] using h
        clear s0 s1 s2
        go_wp2
        go_roundg (gk - 1)
        all_goals (have := HM.out; try omega)
        all_goals exact ⟨k + 1, by go_num, by omega, by omega, (HE.out _ (by have := S0.out; omega)).1, (HE.out _ (by have := S0.out; omega)).2⟩
      · have S0 : Hid (cnt T 2 (k + 1) = cnt T 2 k + 1) := s2
        have HE : Hid (∀ v : Int, v = cnt T 2 (k + 1) → Kept w (wr.setCell ⟨ob, 2, none⟩ (.int .i64 v)) ∧ Blk (wr.setCell ⟨ob, 2, none⟩ (.int .i64 v)) ob (cn T (k + 1))) := fun v hv => by
          subst hv
          refine ⟨hw.out.setCell hob2.out _, ?_⟩
          have h := hbk.out.set (i := 2) rfl (.int .i64 (cnt T 2 (k + 1)))
          simpa [cn, s0, s1] using h
        clear s0 s1 s2
        go_wp2
        go_roundg (gk - 1)
        all_goals (have := HM.out; try omega)
        all_goals exact ⟨k + 1, by go_num, by omega, by omega, (HE.out _ (by have := S0.out; omega)).1, (HE.out _ (by have := S0.out; omega)).2⟩
    · obtain rfl : n = k := by omega
      go_wp2
      go_region
      all_goals go_wp2
      all_goals go_ret3
      all_goals exact ⟨rfl, hw.out.drew⟩

end Go.Proofs.Ytbipkhcgnimgkaa
