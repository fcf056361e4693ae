/-
  The document's table (package sporef6): Set, NewTable, Counts.
-/
import Derived.Test.YtfglmnjhnjkiiaaRef715
namespace Go.Proofs.Ytfglmnjhnjkiiaa
open Go.RowKit

set_option maxHeartbeats 4000000 in
theorem rset_any {b gs gh gc n : Nat} {T : Nat → Fr} (i s : Int) (p c : Bool) (w : World) (h : RTab w b gs gh gc n T) :
    Calls Try.prog 12 #[.pointer (some ⟨b, 0, none⟩), .int .i64 i, .int .i64 s, .bool p, .bool c] w fun e w' => e = .returned (.bool (inn n i && isSt s)) ∧ RTab w' b gs gh gc n (setT n T i s p c) ∧ Mut [gs, gh, gc] w w' := by
  have H := ris_any i w h
  have c0 := h.hd0
  have c1 := h.hd1
  have c2 := h.hd2
  have HT : Hid (RTab w b gs gh gc n T) := h
  cases hi : inn n i
  · simp only [setT, hi, Bool.false_and, Bool.false_eq_true, if_false] at H ⊢
    clear h hi
    go_enter Try.func12, Try.ntmps12
    go_wp2_with fail
    refine H.mono ?_
    rintro e w' ⟨rfl, rfl⟩
    go_wp2
    go_ret
    exact ⟨rfl, HT.out, Mut.refl _ _⟩
  · obtain ⟨k, rfl, hk⟩ := inn_iff hi
    have d0 := h.rs.cell hk
    have d1 := h.rh.cell hk
    have d2 := h.rc.cell hk
    have f0 := h.rs.frozen
    have f1 := h.rh.frozen
    have f2 := h.rc.frozen
    have n1 := h.nbs
    have n2 := h.nbh
    have n3 := h.nbc
    have n4 := h.nsh
    have n5 := h.nsc
    have n6 := h.ne
    by_cases h0 : s < 0
    · have hs : isSt s = false := by simp [isSt]; omega
      simp only [setT, hi, hs, Bool.and_false, Bool.false_eq_true, if_false] at H ⊢
      clear h hi hs d0 d1 d2 f0 f1 f2 n1 n2 n3 n4 n5 n6
      go_enter Try.func12, Try.ntmps12
      go_wp2_with fail
      refine H.mono ?_
      rintro e w' ⟨rfl, rfl⟩
      go_wp2
      go_ret
      exact ⟨rfl, HT.out, Mut.refl _ _⟩
    · by_cases h1 : 2 < s
      · have hs : isSt s = false := by simp [isSt]; omega
        simp only [setT, hi, hs, Bool.and_false, Bool.false_eq_true, if_false] at H ⊢
        clear h hi hs d0 d1 d2 f0 f1 f2 n1 n2 n3 n4 n5 n6
        go_enter Try.func12, Try.ntmps12
        go_wp2_with fail
        refine H.mono ?_
        rintro e w' ⟨rfl, rfl⟩
        go_wp2
        go_ret
        exact ⟨rfl, HT.out, Mut.refl _ _⟩
      · have hs : isSt s = true := by
          rcases (show s = 0 ∨ s = 1 ∨ s = 2 by omega) with rfl | rfl | rfl <;> rfl
        simp only [setT, hi, hs, Bool.and_true, if_true, Int.toNat_natCast] at H ⊢
        clear h hi hs
        have FIN : Hid (∀ q : Bool, (p && (s == 2)) = q → RTab ((((w.setCell ⟨gs, k, none⟩ (.int .i64 s)).setCell ⟨gh, k, none⟩ (.bool q)).setCell ⟨gc, k, none⟩ (.bool c)).drew) b gs gh gc n (fun j => if j = k then ⟨s, p && (s == 2), c⟩ else T j)) := fun q e => by
          subst e
          have h3 := (((HT.out.sets k s).seth k (p && (s == 2))).setc k c).kept ((Kept.refl _).drew)
          have e3 : (fun i => if i = k then ⟨(if i = k then (⟨(if i = k then (⟨s, (T i).h, (T i).c⟩ : Fr) else T i).s, p && (s == 2), (if i = k then (⟨s, (T i).h, (T i).c⟩ : Fr) else T i).c⟩ : Fr) else if i = k then (⟨s, (T i).h, (T i).c⟩ : Fr) else T i).s, (if i = k then (⟨(if i = k then (⟨s, (T i).h, (T i).c⟩ : Fr) else T i).s, p && (s == 2), (if i = k then (⟨s, (T i).h, (T i).c⟩ : Fr) else T i).c⟩ : Fr) else if i = k then (⟨s, (T i).h, (T i).c⟩ : Fr) else T i).h, c⟩ else if i = k then (⟨(if i = k then (⟨s, (T i).h, (T i).c⟩ : Fr) else T i).s, p && (s == 2), (if i = k then (⟨s, (T i).h, (T i).c⟩ : Fr) else T i).c⟩ : Fr) else if i = k then (⟨s, (T i).h, (T i).c⟩ : Fr) else T i : Nat → Fr) = fun j => if j = k then ⟨s, p && (s == 2), c⟩ else T j := by
            funext j
            by_cases e : j = k <;> simp [e]
          rw [e3] at h3
          exact h3
        have M : Hid (∀ q : Bool, Mut [gs, gh, gc] w (((w.setCell ⟨gs, k, none⟩ (.int .i64 s)).setCell ⟨gh, k, none⟩ (.bool q)).setCell ⟨gc, k, none⟩ (.bool c)).drew) := fun q => ((((Mut.refl _ _).setCell (by simp) _).setCell (by simp) _).setCell (by simp) _).drew
        cases p
        · go_enter Try.func12, Try.ntmps12
          go_wp2_with fail
          refine H.mono ?_
          rintro e w' ⟨rfl, rfl⟩
          go_wp2
          go_region
          go_wp2
          go_ret
          exact ⟨rfl, FIN.out _ rfl, M.out _⟩
        · go_enter Try.func12, Try.ntmps12
          go_wp2_with fail
          refine H.mono ?_
          rintro e w' ⟨rfl, rfl⟩
          go_wp2
          go_region
          go_wp2
          go_ret
          exact ⟨rfl, FIN.out _ (by simp), M.out _⟩

theorem info_bool7 : (Try.prog.info? 4).map (fun i => (i.zero, i.size, i.bytes)) = some (some (.bool false), 1, 1) := by kernel_rfl
theorem info_int7 : (Try.prog.info? 3).map (fun i => (i.zero, i.size, i.bytes)) = some (some (.int .i64 0), 1, 8) := by kernel_rfl

set_option maxHeartbeats 800000 in
theorem rtnew_bad (n : Int) (w : World) (hn : ¬ (0 ≤ n ∧ n ≤ 1024)) :
    Calls Try.prog 31 #[.int .i64 n] w fun e w' => e = .returned (.tuple #[.pointer none, .int .i64 1]) ∧ w' = w := by
  by_cases h0 : n < 0
  · clear hn
    go_enter Try.func31, Try.ntmps31
    go_wp2
    go_ret2
    exact ⟨rfl, rfl⟩
  · have h1 : 1024 < n := by omega
    clear hn
    go_enter Try.func31, Try.ntmps31
    go_wp2
    go_ret2
    exact ⟨rfl, rfl⟩

section
variable (w : World) (z : Value) (n : Nat) (t : TypeId) (A B : Obj)
theorem made_0 : (((w.alloc (.cells (madeCells #[z] n) t)).alloc A).alloc B).rowIs w.heap.size t n (fun _ => z) := ((World.rowIs_made w z n t).alloc _).alloc _
theorem made_1 : (((w.alloc A).alloc (.cells (madeCells #[z] n) t)).alloc B).rowIs (w.heap.size + 1) t n (fun _ => z) := by
  have h := World.rowIs_made (w.alloc A) z n t
  have e : (w.alloc A).heap.size = w.heap.size + 1 := by simp
  rw [e] at h
  exact h.alloc _
theorem made_2 : (((w.alloc A).alloc B).alloc (.cells (madeCells #[z] n) t)).rowIs (w.heap.size + 1 + 1) t n (fun _ => z) := by
  have h := World.rowIs_made ((w.alloc A).alloc B) z n t
  have e : ((w.alloc A).alloc B).heap.size = w.heap.size + 1 + 1 := by simp
  rw [e] at h
  exact h
end
theorem rtab_new {W : World} {b gs gh gc n : Nat} (hb : W.heap.size = b) (hn : n ≤ 1024) (rs : W.rowIs gs 3 n (fun _ => .int .i64 0)) (rh : W.rowIs gh 4 n (fun _ => .bool false)) (rc : W.rowIs gc 4 n (fun _ => .bool false)) (ne : gh ≠ gc) :
    RTab (W.alloc (.cells #[.slice (some ⟨gs, 0, none⟩) n n, .slice (some ⟨gh, 0, none⟩) n n, .slice (some ⟨gc, 0, none⟩) n n] 67)).drew b gs gh gc n T0 := by
  subst hb
  exact ⟨Own.new W [_, _, _] _, rs.alloc _, rh.alloc _, rc.alloc _, ne, hn⟩

set_option maxHeartbeats 4000000 in
theorem rtnew_any (n : Nat) (w : World) (hn : n ≤ 1024) :
    Calls Try.prog 31 #[.int .i64 n] w fun e w' => ∃ b gs gh gc, e = .returned (.tuple #[.pointer (some ⟨b, 0, none⟩), .int .i64 0]) ∧ RTab w' b gs gh gc n T0 ∧ w.heap.size ≤ b ∧ w.heap.size ≤ gs ∧ w.heap.size ≤ gh ∧ w.heap.size ≤ gc ∧ Kept w w' := by
  have hmk := run_make_row' (P := Try.prog) 46 4 (.bool false) 1 Try.underlying46 info_bool7 rfl .i64 .i64 n (by omega) (by omega)
  have hmi := run_make_row' (P := Try.prog) 37 3 (.int .i64 0) 8 Try.underlying37 info_int7 rfl .i64 .i64 n (by omega) (by omega)
  go_enter Try.func31, Try.ntmps31
  go_wp2
  go_region
  all_goals go_wp2
  all_goals go_ret2
  all_goals refine ⟨_, _, _, _, rfl, rtab_new (by simp) hn (by first | exact made_0 _ _ _ _ _ _ | exact made_1 _ _ _ _ _ _ | exact made_2 _ _ _ _ _ _) (by first | exact made_0 _ _ _ _ _ _ | exact made_1 _ _ _ _ _ _ | exact made_2 _ _ _ _ _ _) (by first | exact made_0 _ _ _ _ _ _ | exact made_1 _ _ _ _ _ _ | exact made_2 _ _ _ _ _ _) (by omega), by omega, by omega, by omega, by omega, (((((Kept.refl w).alloc _ _).alloc _ _).alloc _ _).alloc _ _).drew⟩

end Go.Proofs.Ytfglmnjhnjkiiaa
