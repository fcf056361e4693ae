/-
  The modules Ref7, Ref7b, Ref8, Ref8b, one behind another.
-/
import Derived.Test.YtahpnnjemjjfhaaGreatM01
import Derived.Test.YtahpnnjemjjfhaaGreatM02
/-
  Contracts of the document's table (package sporef6): the same functions of its contents as package tint's.
-/
namespace Go.Proofs.YtahpnnjemjjfhaaGreat
open Go.RowKit

/-- The document's table at block b; its states, heads and colours at blocks gs, gh, gc. -/
structure RtT (w : World) (b gs gh gc n : Nat) (T : Nat → Fr) : Prop where
  head : Own w b 78 [.slice (some ⟨gs, 0, none⟩) n n, .slice (some ⟨gh, 0, none⟩) n n, .slice (some ⟨gc, 0, none⟩) n n]
  rs : w.rowIs gs 3 n (fun j => .int .i64 (T j).s)
  rh : w.rowIs gh 4 n (fun j => .bool (T j).h)
  rc : w.rowIs gc 4 n (fun j => .bool (T j).c)
  ne : gh ≠ gc
  few : n ≤ 1024

section
variable {w w' : World} {b gs gh gc n : Nat} {T : Nat → Fr}
theorem RtT.kept (h : RtT w b gs gh gc n T) (k : Kept w w') : RtT w' b gs gh gc n T := ⟨h.head.kept k, k.row h.rs, k.row h.rh, k.row h.rc, h.ne, h.few⟩
theorem RtT.muts {D : List Nat} (h : RtT w b gs gh gc n T) (m : Mut D w w') (h0 : b ∉ D) (h1 : gs ∉ D) (h2 : gh ∉ D) (h3 : gc ∉ D) : RtT w' b gs gh gc n T := ⟨h.head.muts m h0, m.row h.rs h1, m.row h.rh h2, m.row h.rc h3, h.ne, h.few⟩
theorem RtT.hd0 (h : RtT w b gs gh gc n T) : w.cell? ⟨b, 0, none⟩ = some (.slice (some ⟨gs, 0, none⟩) n n) := h.head.blk.at 0 rfl
theorem RtT.hd1 (h : RtT w b gs gh gc n T) : w.cell? ⟨b, 1, none⟩ = some (.slice (some ⟨gh, 0, none⟩) n n) := h.head.blk.at 1 rfl
theorem RtT.hd2 (h : RtT w b gs gh gc n T) : w.cell? ⟨b, 2, none⟩ = some (.slice (some ⟨gc, 0, none⟩) n n) := h.head.blk.at 2 rfl
theorem RtT.nsh (h : RtT w b gs gh gc n T) : gs ≠ gh := by
  rintro rfl
  obtain ⟨c1, h1, _⟩ := h.rs
  obtain ⟨c2, h2, _⟩ := h.rh
  rw [h1] at h2
  simp at h2
theorem RtT.nsc (h : RtT w b gs gh gc n T) : gs ≠ gc := by
  rintro rfl
  obtain ⟨c1, h1, _⟩ := h.rs
  obtain ⟨c2, h2, _⟩ := h.rc
  rw [h1] at h2
  simp at h2
theorem RtT.nbs (h : RtT w b gs gh gc n T) : b ≠ gs := h.head.ne h.rs (by decide)
theorem RtT.nbh (h : RtT w b gs gh gc n T) : b ≠ gh := h.head.ne h.rh (by decide)
theorem RtT.nbc (h : RtT w b gs gh gc n T) : b ≠ gc := h.head.ne h.rc (by decide)
end

set_option maxHeartbeats 400000 in
theorem tris_any {b gs gh gc n : Nat} {T : Nat → Fr} (i : Int) (w : World) (h : RtT w b gs gh gc n T) :
    Calls Tryz.prog 72 #[.pointer (some ⟨b, 0, none⟩), .int .i64 i] w fun e w' => e = .returned (.bool (inn n i)) ∧ w' = w := by
  have c0 := h.hd0
  clear h
  cases hi : inn n i
  · have h1 := tinn_not hi
    by_cases h0 : 0 ≤ i
    · have h2 : ¬ i < (n : Int) := fun q => h1 ⟨h0, q⟩
      clear h1 hi
      go_enter Tryz.func72, Tryz.ntmps72
      go_wp2
      go_ret
      exact ⟨rfl, rfl⟩
    · clear h1 hi
      go_enter Tryz.func72, Tryz.ntmps72
      go_wp2
      go_ret
      exact ⟨rfl, rfl⟩
  · obtain ⟨k, rfl, hk⟩ := tinn_iff hi
    clear hi
    go_enter Tryz.func72, Tryz.ntmps72
    go_wp2
    go_ret
    exact ⟨rfl, rfl⟩

set_option maxHeartbeats 400000 in
theorem trstate_any {b gs gh gc n : Nat} {T : Nat → Fr} (i : Int) (w : World) (h : RtT w b gs gh gc n T) :
    Calls Tryz.prog 15 #[.pointer (some ⟨b, 0, none⟩), .int .i64 i] w fun e w' => e = .returned (.int .i64 (stt n T i)) ∧ w' = w := by
  have H := tris_any i w h
  have c0 := h.hd0
  cases hi : inn n i
  · simp only [stt, hi] at H ⊢
    clear h hi
    go_enter Tryz.func15, Tryz.ntmps15
    go_wp2_with fail
    refine H.mono ?_
    rintro e w' ⟨rfl, rfl⟩
    go_wp2
    go_ret
    exact ⟨rfl, rfl⟩
  · obtain ⟨k, rfl, hk⟩ := tinn_iff hi
    have c1 := h.rs.cell hk
    simp only [stt, hi, Int.toNat_natCast, if_true] at H ⊢
    clear h hi
    go_enter Tryz.func15, Tryz.ntmps15
    go_wp2_with fail
    refine H.mono ?_
    rintro e w' ⟨rfl, rfl⟩
    go_wp2
    go_ret
    exact ⟨rfl, rfl⟩

set_option maxHeartbeats 400000 in
theorem trhead_any {b gs gh gc n : Nat} {T : Nat → Fr} (i : Int) (w : World) (h : RtT w b gs gh gc n T) :
    Calls Tryz.prog 17 #[.pointer (some ⟨b, 0, none⟩), .int .i64 i] w fun e w' => e = .returned (.bool (hdd n T i)) ∧ w' = w := by
  have H := tris_any i w h
  have c0 := h.hd1
  cases hi : inn n i
  · simp only [hdd, hi, Bool.false_and] at H ⊢
    clear h hi
    go_enter Tryz.func17, Tryz.ntmps17
    go_wp2_with fail
    refine H.mono ?_
    rintro e w' ⟨rfl, rfl⟩
    go_wp2
    go_ret
    exact ⟨rfl, rfl⟩
  · obtain ⟨k, rfl, hk⟩ := tinn_iff hi
    have c1 := h.rh.cell hk
    simp only [hdd, hi, Bool.true_and, Int.toNat_natCast] at H ⊢
    clear h hi
    go_enter Tryz.func17, Tryz.ntmps17
    go_wp2_with fail
    refine H.mono ?_
    rintro e w' ⟨rfl, rfl⟩
    go_wp2
    go_ret
    exact ⟨rfl, rfl⟩

theorem stt_usd (n : Nat) (T : Nat → Fr) (i : Int) : (stt n T i == 2) = usd n T i := by
  cases e : inn n i <;> simp [stt, usd, e]

set_option maxHeartbeats 400000 in
theorem trblack_any {b gs gh gc n : Nat} {T : Nat → Fr} (i : Int) (c : Bool) (w : World) (h : RtT w b gs gh gc n T) :
    Calls Tryz.prog 19 #[.pointer (some ⟨b, 0, none⟩), .int .i64 i, .bool c] w fun e w' => e = .returned (.bool (blk n T i c)) ∧ w' = w := by
  have H := trstate_any i w h
  have S := stt_usd n T i
  have c0 := h.hd2
  cases hi : usd n T i
  · rw [hi] at S
    simp only [blk, hi, Bool.false_and] at H ⊢
    clear h hi
    generalize stt n T i = s at *
    go_enter Tryz.func19, Tryz.ntmps19
    go_wp2_with fail
    refine H.mono ?_
    rintro e w' ⟨rfl, rfl⟩
    go_wp2
    go_ret
    exact ⟨rfl, rfl⟩
  · rw [hi] at S
    obtain ⟨k, rfl, hk, _⟩ := tusd_iff hi
    have c1 := h.rc.cell hk
    simp only [blk, hi, Bool.true_and, Int.toNat_natCast] at H ⊢
    clear h hi
    generalize stt n T k = s at *
    go_enter Tryz.func19, Tryz.ntmps19
    go_wp2_with fail
    refine H.mono ?_
    rintro e w' ⟨rfl, rfl⟩
    go_wp2
    go_ret
    exact ⟨rfl, rfl⟩

theorem RtT.seth {w : World} {b gs gh gc n : Nat} {T : Nat → Fr} (h : RtT w b gs gh gc n T) (k : Nat) (v : Bool) : RtT (w.setCell ⟨gh, k, none⟩ (.bool v)) b gs gh gc n (fun i => if i = k then ⟨(T i).s, v, (T i).c⟩ else T i) :=
  ⟨h.head.set_other (Ne.symm h.nbh) _, (h.rs.setOther h.nsh _).congr fun j _ => by by_cases e : j = k <;> simp [e], (h.rh.set _ _).congr fun j _ => by by_cases e : j = k <;> simp [e], (h.rc.setOther (Ne.symm h.ne) _).congr fun j _ => by by_cases e : j = k <;> simp [e], h.ne, h.few⟩
theorem RtT.setc {w : World} {b gs gh gc n : Nat} {T : Nat → Fr} (h : RtT w b gs gh gc n T) (k : Nat) (v : Bool) : RtT (w.setCell ⟨gc, k, none⟩ (.bool v)) b gs gh gc n (fun i => if i = k then ⟨(T i).s, (T i).h, v⟩ else T i) :=
  ⟨h.head.set_other (Ne.symm h.nbc) _, (h.rs.setOther h.nsc _).congr fun j _ => by by_cases e : j = k <;> simp [e], (h.rh.setOther h.ne _).congr fun j _ => by by_cases e : j = k <;> simp [e], (h.rc.set _ _).congr fun j _ => by by_cases e : j = k <;> simp [e], h.ne, h.few⟩
theorem RtT.sets {w : World} {b gs gh gc n : Nat} {T : Nat → Fr} (h : RtT w b gs gh gc n T) (k : Nat) (v : Int) : RtT (w.setCell ⟨gs, k, none⟩ (.int .i64 v)) b gs gh gc n (fun i => if i = k then ⟨v, (T i).h, (T i).c⟩ else T i) :=
  ⟨h.head.set_other (Ne.symm h.nbs) _, (h.rs.set _ _).congr fun j _ => by by_cases e : j = k <;> simp [e], (h.rh.setOther (Ne.symm h.nsh) _).congr fun j _ => by by_cases e : j = k <;> simp [e], (h.rc.setOther (Ne.symm h.nsc) _).congr fun j _ => by by_cases e : j = k <;> simp [e], h.ne, h.few⟩

set_option maxHeartbeats 400000 in
theorem trborn_any {b gs gh gc n : Nat} {T : Nat → Fr} (i : Int) (w : World) (h : RtT w b gs gh gc n T) :
    Calls Tryz.prog 105 #[.pointer (some ⟨b, 0, none⟩), .int .i64 i] w fun e w' => e = .returned (.bool (bornB n T i)) ∧ RtT w' b gs gh gc n (bornT n T i) ∧ Mut [gs, gh, gc] w w' := by
  have H := trstate_any i w h
  have S := stt_usd n T i
  have c0 := h.hd1
  have HT : Hid (RtT w b gs gh gc n T) := h
  cases hi : usd n T i
  · rw [hi] at S
    simp only [bornB, bornT, hi, Bool.false_and, Bool.false_eq_true, if_false] at H ⊢
    clear h hi
    generalize stt n T i = s at *
    have S2 : (s != 2) = true := by simpa [bne] using S
    clear S
    go_enter Tryz.func105, Tryz.ntmps105
    go_wp2_with fail
    refine H.mono ?_
    rintro e w' ⟨rfl, rfl⟩
    go_wp2
    go_ret
    exact ⟨rfl, HT.out, Mut.refl _ _⟩
  · rw [hi] at S
    obtain ⟨k, rfl, hk, _⟩ := tusd_iff hi
    have c1 := h.rh.cell hk
    have c2 := h.rh.frozen
    simp only [bornB, bornT, hi, Bool.true_and, Int.toNat_natCast] at H ⊢
    clear h hi
    generalize stt n T k = s at *
    have S2 : (s != 2) = false := by simpa [bne] using S
    clear S
    cases hh : (T k).h
    · rw [hh] at c1
      clear hh
      go_enter Tryz.func105, Tryz.ntmps105
      go_wp2_with fail
      refine H.mono ?_
      rintro e w' ⟨rfl, rfl⟩
      go_wp2
      go_ret
      exact ⟨rfl, HT.out.seth k true, (Mut.refl _ _).setCell (by simp) _⟩
    · rw [hh] at c1
      clear hh
      go_enter Tryz.func105, Tryz.ntmps105
      go_wp2_with fail
      refine H.mono ?_
      rintro e w' ⟨rfl, rfl⟩
      go_wp2
      go_ret
      exact ⟨rfl, HT.out, Mut.refl _ _⟩

end Go.Proofs.YtahpnnjemjjfhaaGreat

/-
  The document's table (package sporef6): Set, NewTable, Counts.
-/
namespace Go.Proofs.YtahpnnjemjjfhaaGreat
open Go.RowKit

set_option maxHeartbeats 4000000 in
theorem trset_any {b gs gh gc n : Nat} {T : Nat → Fr} (i s : Int) (p c : Bool) (w : World) (h : RtT w b gs gh gc n T) :
    Calls Tryz.prog 101 #[.pointer (some ⟨b, 0, none⟩), .int .i64 i, .int .i64 s, .bool p, .bool c] w fun e w' => e = .returned (.bool (inn n i && isSt s)) ∧ RtT w' b gs gh gc n (setT n T i s p c) ∧ Mut [gs, gh, gc] w w' := by
  have H := tris_any i w h
  have c0 := h.hd0
  have c1 := h.hd1
  have c2 := h.hd2
  have HT : Hid (RtT w b gs gh gc n T) := h
  cases hi : inn n i
  · simp only [setT, hi, Bool.false_and, Bool.false_eq_true, if_false] at H ⊢
    clear h hi
    go_enter Tryz.func101, Tryz.ntmps101
    go_wp2_with fail
    refine H.mono ?_
    rintro e w' ⟨rfl, rfl⟩
    go_wp2
    go_ret
    exact ⟨rfl, HT.out, Mut.refl _ _⟩
  · obtain ⟨k, rfl, hk⟩ := tinn_iff hi
    have d0 := h.rs.cell hk
    have d1 := h.rh.cell hk
    have d2 := h.rc.cell hk
    have f0 := h.rs.frozen
    have f1 := h.rh.frozen
    have f2 := h.rc.frozen
    have n1 := h.nbs
    have n2 := h.nbh
    have n3 := h.nbc
    have n4 := h.nsh
    have n5 := h.nsc
    have n6 := h.ne
    by_cases h0 : s < 0
    · have hs : isSt s = false := by simp [isSt]; omega
      simp only [setT, hi, hs, Bool.and_false, Bool.false_eq_true, if_false] at H ⊢
      clear h hi hs d0 d1 d2 f0 f1 f2 n1 n2 n3 n4 n5 n6
      go_enter Tryz.func101, Tryz.ntmps101
      go_wp2_with fail
      refine H.mono ?_
      rintro e w' ⟨rfl, rfl⟩
      go_wp2
      go_ret
      exact ⟨rfl, HT.out, Mut.refl _ _⟩
    · by_cases h1 : 2 < s
      · have hs : isSt s = false := by simp [isSt]; omega
        simp only [setT, hi, hs, Bool.and_false, Bool.false_eq_true, if_false] at H ⊢
        clear h hi hs d0 d1 d2 f0 f1 f2 n1 n2 n3 n4 n5 n6
        go_enter Tryz.func101, Tryz.ntmps101
        go_wp2_with fail
        refine H.mono ?_
        rintro e w' ⟨rfl, rfl⟩
        go_wp2
        go_ret
        exact ⟨rfl, HT.out, Mut.refl _ _⟩
      · have hs : isSt s = true := by
          rcases (show s = 0 ∨ s = 1 ∨ s = 2 by omega) with rfl | rfl | rfl <;> rfl
        simp only [setT, hi, hs, Bool.and_true, if_true, Int.toNat_natCast] at H ⊢
        clear h hi hs
        have FIN : Hid (∀ q : Bool, (p && (s == 2)) = q → RtT ((((w.setCell ⟨gs, k, none⟩ (.int .i64 s)).setCell ⟨gh, k, none⟩ (.bool q)).setCell ⟨gc, k, none⟩ (.bool c)).drew) b gs gh gc n (fun j => if j = k then ⟨s, p && (s == 2), c⟩ else T j)) := fun q e => by
          subst e
          have h3 := (((HT.out.sets k s).seth k (p && (s == 2))).setc k c).kept ((Kept.refl _).drew)
          have e3 : (fun i => if i = k then ⟨(if i = k then (⟨(if i = k then (⟨s, (T i).h, (T i).c⟩ : Fr) else T i).s, p && (s == 2), (if i = k then (⟨s, (T i).h, (T i).c⟩ : Fr) else T i).c⟩ : Fr) else if i = k then (⟨s, (T i).h, (T i).c⟩ : Fr) else T i).s, (if i = k then (⟨(if i = k then (⟨s, (T i).h, (T i).c⟩ : Fr) else T i).s, p && (s == 2), (if i = k then (⟨s, (T i).h, (T i).c⟩ : Fr) else T i).c⟩ : Fr) else if i = k then (⟨s, (T i).h, (T i).c⟩ : Fr) else T i).h, c⟩ else if i = k then (⟨(if i = k then (⟨s, (T i).h, (T i).c⟩ : Fr) else T i).s, p && (s == 2), (if i = k then (⟨s, (T i).h, (T i).c⟩ : Fr) else T i).c⟩ : Fr) else if i = k then (⟨s, (T i).h, (T i).c⟩ : Fr) else T i : Nat → Fr) = fun j => if j = k then ⟨s, p && (s == 2), c⟩ else T j := by
            funext j
            by_cases e : j = k <;> simp [e]
          rw [e3] at h3
          exact h3
        have M : Hid (∀ q : Bool, Mut [gs, gh, gc] w (((w.setCell ⟨gs, k, none⟩ (.int .i64 s)).setCell ⟨gh, k, none⟩ (.bool q)).setCell ⟨gc, k, none⟩ (.bool c)).drew) := fun q => ((((Mut.refl _ _).setCell (by simp) _).setCell (by simp) _).setCell (by simp) _).drew
        cases p
        · go_enter Tryz.func101, Tryz.ntmps101
          go_wp2_with fail
          refine H.mono ?_
          rintro e w' ⟨rfl, rfl⟩
          go_wp2
          go_region
          go_wp2
          go_ret
          exact ⟨rfl, FIN.out _ rfl, M.out _⟩
        · go_enter Tryz.func101, Tryz.ntmps101
          go_wp2_with fail
          refine H.mono ?_
          rintro e w' ⟨rfl, rfl⟩
          go_wp2
          go_region
          go_wp2
          go_ret
          exact ⟨rfl, FIN.out _ (by simp), M.out _⟩

theorem info_bool7 : (Tryz.prog.info? 4).map (fun i => (i.zero, i.size, i.bytes)) = some (some (.bool false), 1, 1) := by kernel_rfl
theorem info_int7 : (Tryz.prog.info? 3).map (fun i => (i.zero, i.size, i.bytes)) = some (some (.int .i64 0), 1, 8) := by kernel_rfl

set_option maxHeartbeats 800000 in
theorem trnew_bad (n : Int) (w : World) (hn : ¬ (0 ≤ n ∧ n ≤ 1024)) :
    Calls Tryz.prog 7 #[.int .i64 n] w fun e w' => e = .returned (.tuple #[.pointer none, .int .i64 1]) ∧ w' = w := by
  by_cases h0 : n < 0
  · clear hn
    go_enter Tryz.func7, Tryz.ntmps7
    go_wp2
    go_ret2
    exact ⟨rfl, rfl⟩
  · have h1 : 1024 < n := by omega
    clear hn
    go_enter Tryz.func7, Tryz.ntmps7
    go_wp2
    go_ret2
    exact ⟨rfl, rfl⟩

section
variable (w : World) (z : Value) (n : Nat) (t : TypeId) (A B : Obj)
theorem made_0 : (((w.alloc (.cells (madeCells #[z] n) t)).alloc A).alloc B).rowIs w.heap.size t n (fun _ => z) := ((World.rowIs_made w z n t).alloc _).alloc _
theorem made_1 : (((w.alloc A).alloc (.cells (madeCells #[z] n) t)).alloc B).rowIs (w.heap.size + 1) t n (fun _ => z) := by
  have h := World.rowIs_made (w.alloc A) z n t
  have e : (w.alloc A).heap.size = w.heap.size + 1 := by simp
  rw [e] at h
  exact h.alloc _
theorem made_2 : (((w.alloc A).alloc B).alloc (.cells (madeCells #[z] n) t)).rowIs (w.heap.size + 1 + 1) t n (fun _ => z) := by
  have h := World.rowIs_made ((w.alloc A).alloc B) z n t
  have e : ((w.alloc A).alloc B).heap.size = w.heap.size + 1 + 1 := by simp
  rw [e] at h
  exact h
end
theorem rtab_new {W : World} {b gs gh gc n : Nat} (hb : W.heap.size = b) (hn : n ≤ 1024) (rs : W.rowIs gs 3 n (fun _ => .int .i64 0)) (rh : W.rowIs gh 4 n (fun _ => .bool false)) (rc : W.rowIs gc 4 n (fun _ => .bool false)) (ne : gh ≠ gc) :
    RtT (W.alloc (.cells #[.slice (some ⟨gs, 0, none⟩) n n, .slice (some ⟨gh, 0, none⟩) n n, .slice (some ⟨gc, 0, none⟩) n n] 78)).drew b gs gh gc n T0 := by
  subst hb
  exact ⟨Own.new W [_, _, _] _, rs.alloc _, rh.alloc _, rc.alloc _, ne, hn⟩

set_option maxHeartbeats 4000000 in
theorem trnew_any (n : Nat) (w : World) (hn : n ≤ 1024) :
    Calls Tryz.prog 7 #[.int .i64 n] w fun e w' => ∃ b gs gh gc, e = .returned (.tuple #[.pointer (some ⟨b, 0, none⟩), .int .i64 0]) ∧ RtT w' b gs gh gc n T0 ∧ w.heap.size ≤ b ∧ w.heap.size ≤ gs ∧ w.heap.size ≤ gh ∧ w.heap.size ≤ gc ∧ Kept w w' := by
  have hmk := run_make_row' (P := Tryz.prog) 65 4 (.bool false) 1 Tryz.underlying65 info_bool7 rfl .i64 .i64 n (by omega) (by omega)
  have hmi := run_make_row' (P := Tryz.prog) 55 3 (.int .i64 0) 8 Tryz.underlying55 info_int7 rfl .i64 .i64 n (by omega) (by omega)
  go_enter Tryz.func7, Tryz.ntmps7
  go_wp2
  go_region
  all_goals go_wp2
  all_goals go_ret2
  all_goals refine ⟨_, _, _, _, rfl, rtab_new (by simp) hn (by first | exact made_0 _ _ _ _ _ _ | exact made_1 _ _ _ _ _ _ | exact made_2 _ _ _ _ _ _) (by first | exact made_0 _ _ _ _ _ _ | exact made_1 _ _ _ _ _ _ | exact made_2 _ _ _ _ _ _) (by first | exact made_0 _ _ _ _ _ _ | exact made_1 _ _ _ _ _ _ | exact made_2 _ _ _ _ _ _) (by omega), by omega, by omega, by omega, by omega, (((((Kept.refl w).alloc _ _).alloc _ _).alloc _ _).alloc _ _).drew⟩

/-- The three counts, as they are gathered. -/
def cn (T : Nat → Fr) (k : Nat) : List Value := [.int .i64 (cnt T 0 k), .int .i64 (cnt T 1 k), .int .i64 (cnt T 2 k)]

set_option maxHeartbeats 2000000 in
theorem trcounts_any {b gs gh gc n : Nat} {T : Nat → Fr} (w : World) (h : RtT w b gs gh gc n T) (hf : ∀ j, j < n → (T j).s = 0 ∨ (T j).s = 1 ∨ (T j).s = 2) :
    Calls Tryz.prog 13 #[.pointer (some ⟨b, 0, none⟩)] w fun e w' => e = .returned (.tuple #[.int .i64 (cnt T 0 n), .int .i64 (cnt T 1 n), .int .i64 (cnt T 2 n)]) ∧ Kept w w' := by
  have HT : Hid (RtT w b gs gh gc n T) := h
  have HF : Hid (∀ j, j < n → (T j).s = 0 ∨ (T j).s = 1 ∨ (T j).s = 2) := hf
  have hn := h.few
  clear h hf
  go_enter Tryz.func13, Tryz.ntmps13
  go_wp2
  generalize hW : w.alloc _ = W
  have B0 : Hid (Blk W w.heap.size (cn T 0)) := by rw [← hW]; exact Blk.new w _ _
  have K0 : Hid (Kept w W) := by rw [← hW]; exact (Kept.refl w).alloc _ _
  clear hW
  have hge : Hid (w.heap.size ≤ w.heap.size) := Nat.le_refl _
  generalize hob : w.heap.size = ob at B0 ⊢
  have hob2 : Hid (w.heap.size ≤ ob) := by simp [Hid, hob]
  clear hob hge
  go_loopg [6] n (fun m i wr => ∃ k : Nat, i = .int .i64 k ∧ k ≤ n ∧ m = n - k ∧ Hid (Kept w wr) ∧ Hid (Blk wr ob (cn T k)))
  case atStart => exact ⟨0, rfl, by omega, by omega, K0.out, B0.out⟩
  case round =>
    obtain ⟨k, rfl, hk, hm, hw, hbk⟩ := hrel
    have HM : Hid _ := hm
    clear hm
    have l0 := cnt_le T 0 k
    have l1 := cnt_le T 1 k
    have l2 := cnt_le T 2 k
    have c0 := (HT.out.kept hw.out).hd0
    have x0 := hbk.out.at 0 rfl
    have x1 := hbk.out.at 1 rfl
    have x2 := hbk.out.at 2 rfl
    by_cases hlt : k < n
    · have a0 := (HT.out.kept hw.out).rs.cell hlt
      have fz := hbk.out.fz
      have s0 : cnt T 0 (k + 1) = cnt T 0 k + if (T k).s = 0 then 1 else 0 := rfl
      have s1 : cnt T 1 (k + 1) = cnt T 1 k + if (T k).s = 1 then 1 else 0 := rfl
      have s2 : cnt T 2 (k + 1) = cnt T 2 k + if (T k).s = 2 then 1 else 0 := rfl
      rcases HF.out k hlt with e | e | e
      all_goals rw [e] at a0 s0 s1 s2
      all_goals clear e
      all_goals simp only [if_true, if_false, Int.reduceEq, Nat.add_zero] at s0 s1 s2
      · have S0 : Hid (cnt T 0 (k + 1) = cnt T 0 k + 1) := s0
        have HE : Hid (∀ v : Int, v = cnt T 0 (k + 1) → Kept w (wr.setCell ⟨ob, 0, none⟩ (.int .i64 v)) ∧ Blk (wr.setCell ⟨ob, 0, none⟩ (.int .i64 v)) ob (cn T (k + 1))) := fun v hv => by
          subst hv
          refine ⟨hw.out.setCell hob2.out _, ?_⟩
          have h := hbk.out.set (i := 0) rfl (.int .i64 (cnt T 0 (k + 1)))
          simpa [cn, s1, s2] using h
        clear s0 s1 s2
        go_wp2
        go_roundg (gk - 1)
        all_goals (have := HM.out; try omega)
        all_goals exact ⟨k + 1, by go_num, by omega, by omega, (HE.out _ (by have := S0.out; omega)).1, (HE.out _ (by have := S0.out; omega)).2⟩
      · have S0 : Hid (cnt T 1 (k + 1) = cnt T 1 k + 1) := s1
        have HE : Hid (∀ v : Int, v = cnt T 1 (k + 1) → Kept w (wr.setCell ⟨ob, 1, none⟩ (.int .i64 v)) ∧ Blk (wr.setCell ⟨ob, 1, none⟩ (.int .i64 v)) ob (cn T (k + 1))) := fun v hv => by
          subst hv
          refine ⟨hw.out.setCell hob2.out _, ?_⟩
          have h := hbk.out.set (i := 1) rfl (.int .i64 (cnt T 1 (k + 1)))
          simpa [cn, s0, s2] using h
        clear s0 s1 s2
        go_wp2
        go_roundg (gk - 1)
        all_goals (have := HM.out; try omega)
        all_goals exact ⟨k + 1, by go_num, by omega, by omega, (HE.out _ (by have := S0.out; omega)).1, (HE.out _ (by have := S0.out; omega)).2⟩
      · have S0 : Hid (cnt T 2 (k + 1) = cnt T 2 k + 1) := s2
        have HE : Hid (∀ v : Int, v = cnt T 2 (k + 1) → Kept w (wr.setCell ⟨ob, 2, none⟩ (.int .i64 v)) ∧ Blk (wr.setCell ⟨ob, 2, none⟩ (.int .i64 v)) ob (cn T (k + 1))) := fun v hv => by
          subst hv
          refine ⟨hw.out.setCell hob2.out _, ?_⟩
          have h := hbk.out.set (i := 2) rfl (.int .i64 (cnt T 2 (k + 1)))
          simpa [cn, s0, s1] using h
        clear s0 s1 s2
        go_wp2
        go_roundg (gk - 1)
        all_goals (have := HM.out; try omega)
        all_goals exact ⟨k + 1, by go_num, by omega, by omega, (HE.out _ (by have := S0.out; omega)).1, (HE.out _ (by have := S0.out; omega)).2⟩
    · obtain rfl : n = k := by omega
      go_wp2
      go_region
      all_goals go_wp2
      all_goals go_ret3
      all_goals exact ⟨rfl, hw.out.drew⟩

end Go.Proofs.YtahpnnjemjjfhaaGreat

/-
  Contracts of the document's pool (package sporef6): the same functions of what is free as package pool's.
-/
namespace Go.Proofs.YtahpnnjemjjfhaaGreat
open Go.RowKit

set_option maxHeartbeats 400000 in
theorem prgive_any {b g n : Nat} {F : Nat → Bool} (i : Int) (w : World) (h : PTab 112 w b g n F) :
    Calls Tryz.prog 113 #[.pointer (some ⟨b, 0, none⟩), .int .i64 i] w fun e w' => e = .returned (.bool (giveB n F i)) ∧ PTab 112 w' b g n (giveF n F i) ∧ Mut [g] w w' := by
  have c0 := h.hd
  have HT : Hid (PTab 112 w b g n F) := h
  cases hi : inn n i
  · have h1 := tinn_not hi
    simp only [giveB, giveF, hi, Bool.false_and, Bool.false_eq_true, if_false]
    by_cases h0 : 0 ≤ i
    · have h2 : ¬ i < (n : Int) := fun q => h1 ⟨h0, q⟩
      clear h1 hi h
      go_enter Tryz.func113, Tryz.ntmps113
      go_wp2
      go_ret
      exact ⟨rfl, HT.out, Mut.refl _ _⟩
    · clear h1 hi h
      go_enter Tryz.func113, Tryz.ntmps113
      go_wp2
      go_ret
      exact ⟨rfl, HT.out, Mut.refl _ _⟩
  · obtain ⟨k, rfl, hk⟩ := tinn_iff hi
    have c1 := h.at hk
    have c2 := h.row.frozen
    simp only [giveB, giveF, hi, Bool.true_and, Int.toNat_natCast]
    clear h hi
    cases hf : F k
    · rw [hf] at c1
      clear hf
      go_enter Tryz.func113, Tryz.ntmps113
      go_wp2
      go_ret
      exact ⟨rfl, HT.out.set k true, (Mut.refl _ _).setCell (by simp) _⟩
    · rw [hf] at c1
      clear hf
      go_enter Tryz.func113, Tryz.ntmps113
      go_wp2
      go_ret
      exact ⟨rfl, HT.out, Mut.refl _ _⟩

set_option maxHeartbeats 1000000 in
theorem prfree_any {b g n : Nat} {F : Nat → Bool} (w : World) (h : PTab 112 w b g n F) :
    Calls Tryz.prog 24 #[.pointer (some ⟨b, 0, none⟩)] w fun e w' => e = .returned (.int .i64 (cntB F n)) ∧ w' = w := by
  have c0 := h.hd
  have hn := h.few
  have HT : Hid (PTab 112 w b g n F) := h
  clear h
  go_enter Tryz.func24, Tryz.ntmps24
  go_wp2
  go_loopg [3, 4] n (fun m x i wr => ∃ k : Nat, i = .int .i64 k ∧ k ≤ n ∧ m = n - k ∧ x = .int .i64 (cntB F k) ∧ wr = w)
  case atStart => exact ⟨0, rfl, by omega, by omega, rfl, rfl⟩
  case round =>
    obtain ⟨k, rfl, hk, hm, rfl, rfl⟩ := hrel
    have HM : Hid _ := hm
    clear hm
    have l0 := cntB_le F k
    by_cases hlt : k < n
    · have a0 := HT.out.at hlt
      have s0 : Hid (cntB F (k + 1) = cntB F k + if F k then 1 else 0) := rfl
      cases hf : F k
      all_goals (rw [hf] at a0 s0; clear hf)
      all_goals go_wp2
      all_goals go_roundg (gk - 1)
      all_goals (have := HM.out; try omega)
      all_goals exact ⟨k + 1, by go_num, by omega, by omega, by simp [s0.out], rfl⟩
    · obtain rfl : k = n := by omega
      go_wp2
      go_ret
      exact ⟨rfl, rfl⟩

set_option maxHeartbeats 800000 in
theorem prnew_bad (n : Int) (w : World) (hn : ¬ (0 ≤ n ∧ n ≤ 1024)) :
    Calls Tryz.prog 41 #[.int .i64 n] w fun e w' => e = .returned (.tuple #[.pointer none, .int .i64 1]) ∧ w' = w := by
  by_cases h0 : n < 0
  · clear hn
    go_enter Tryz.func41, Tryz.ntmps41
    go_wp2
    go_ret2
    exact ⟨rfl, rfl⟩
  · have h1 : 1024 < n := by omega
    clear hn
    go_enter Tryz.func41, Tryz.ntmps41
    go_wp2
    go_ret2
    exact ⟨rfl, rfl⟩

set_option maxHeartbeats 800000 in
theorem prnew_any (n : Nat) (w : World) (hn : n ≤ 1024) :
    Calls Tryz.prog 41 #[.int .i64 n] w fun e w' => ∃ b g, e = .returned (.tuple #[.pointer (some ⟨b, 0, none⟩), .int .i64 0]) ∧ PTab 112 w' b g n F1 ∧ w.heap.size ≤ b ∧ w.heap.size ≤ g ∧ Kept w w' := by
  have hmk := run_make_bools n hn
  have PM : Hid _ := ppool_made 112 w n hn
  have KM : Hid (Kept w ((w.alloc (.cells (madeCells #[.bool false] n) 4)).alloc (.cells #[.slice (some ⟨w.heap.size, 0, none⟩) n n] 112))) := ((Kept.refl w).alloc _ _).alloc _ _
  go_enter Tryz.func41, Tryz.ntmps41
  go_wp2
  clear hmk
  go_loopg [5] n (fun m i wr => ∃ k : Nat, i = .int .i64 k ∧ k ≤ n ∧ m = n - k ∧ Hid (PTab 112 wr (w.heap.size + 1) w.heap.size n (fun j => decide (j < k)) ∧ Kept w wr))
  case atStart => exact ⟨0, rfl, by omega, by omega, PM.out.congr (fun j _ => by simp), KM.out⟩
  case round =>
    clear PM KM
    obtain ⟨k, rfl, hk, hm, hw⟩ := hrel
    have HM : Hid _ := hm
    clear hm
    have c0 := hw.out.1.hd
    by_cases hlt : k < n
    · have c1 := hw.out.1.at hlt
      have c2 := hw.out.1.row.frozen
      go_wp2
      go_roundg (gk - 1)
      all_goals (have := HM.out; try omega)
      refine ⟨k + 1, by go_num, by omega, by omega, ?_, ?_⟩
      · have := hw.out.1.set k true
        rwa [below_step] at this
      · exact hw.out.2.setCell (Nat.le_refl _) _
    · obtain rfl : k = n := by omega
      go_wp2
      go_ret2
      exact ⟨_, _, rfl, hw.out.1.congr (fun j hj => by simp [F1, hj]), by omega, by omega, hw.out.2⟩

set_option maxHeartbeats 2000000 in
theorem prrun_any {b g n : Nat} {F : Nat → Bool} (k : Int) (w : World) (h : PTab 112 w b g n F) :
    Calls Tryz.prog 145 #[.pointer (some ⟨b, 0, none⟩), .int .i64 k] w fun e w' => e = .returned (.tuple #[.int .i64 (runV (runO n F k)), .bool (runO n F k).isSome]) ∧ w' = w := by
  have c0 := h.hd
  have hn := h.few
  by_cases hk : k < 1
  · rw [runO_low hk]
    clear h
    go_enter Tryz.func145, Tryz.ntmps145
    go_wp2
    go_ret2
    exact ⟨rfl, rfl⟩
  · by_cases hk2 : (n : Int) < k
    · rw [runO_high hk2]
      clear h
      go_enter Tryz.func145, Tryz.ntmps145
      go_wp2
      go_ret2
      exact ⟨rfl, rfl⟩
    · obtain ⟨K, rfl⟩ : ∃ K : Nat, k = K := ⟨k.toNat, by omega⟩
      have HT : Hid (PTab 112 w b g n F) := h
      have HR : Hid (topR F K (n + 1 - K) = runO n F K) := by
        rw [runO, if_pos (by omega), Int.toNat_natCast]
        exact rfl
      generalize runO n F K = R at *
      clear h
      go_enter Tryz.func145, Tryz.ntmps145
      go_wp2
      go_loopg [6] (n + 1) (fun t s wr => ∃ m : Nat, s = .int .i64 ((m : Int) - 1) ∧ m + K ≤ n + 1 ∧ t = m + K ∧ w = wr ∧ Hid (topR F K m = R))
      case atStart => exact ⟨n + 1 - K, by congr 1; omega, by omega, by omega, rfl, HR⟩
      case round =>
        obtain ⟨m, rfl, hmK, hm, rfl, hr⟩ := hrel
        have HM : Hid _ := hm
        clear hm HR
        cases m with
        | zero =>
          have e0 : ((0 : Nat) : Int) - 1 = -1 := rfl
          rw [e0]
          have e1 : R = none := hr.out.symm
          subst e1
          go_wp2
          go_ret2
          exact ⟨rfl, rfl⟩
        | succ a =>
          have e0 : ((a + 1 : Nat) : Int) - 1 = a := by omega
          rw [e0]
          clear e0
          go_wp2_with fail
          go_loopg [7] K (fun t s wr => ∃ q : Nat, s = .int .i64 q ∧ q ≤ K ∧ t = K - q ∧ w = wr ∧ Hid (runsB F a q = true))
          case atStart => exact ⟨0, rfl, by omega, rfl, rfl, rfl⟩
          case round =>
            obtain ⟨q, rfl, hq, hm, rfl, hs⟩ := hrel
            have HM2 : Hid _ := hm
            clear hm
            by_cases hqK : q < K
            · have c1 := HT.out.at (k := a + q) (by omega)
              cases hf : F (a + q)
              · rw [hf] at c1
                have HE : Hid (topR F K a = R) := by
                  have := hr.out
                  rw [topR, if_neg (by rw [prunsB_no q hqK hf]; simp)] at this
                  exact this
                have z : ((q : Int) == (K : Int)) = false := by simp; omega
                clear hf
                go_wp2
                go_roundg (a + K)
                all_goals (have := HM.out; try omega)
                exact ⟨a, rfl, by omega, rfl, rfl, HE⟩
              · rw [hf] at c1
                have HE : Hid (runsB F a (q + 1) = true) := by
                  simp [Hid, runsB, hs.out, hf]
                clear hf
                go_wp2
                go_roundg (K - (q + 1))
                all_goals (have := HM2.out; try omega)
                exact ⟨q + 1, by go_num, by omega, rfl, rfl, HE⟩
            · obtain rfl : K = q := by omega
              have e1 : R = some a := by
                have := hr.out
                rw [topR, if_pos hs.out] at this
                exact this.symm
              subst e1
              have z : ((K : Int) == (K : Int)) = true := by simp
              go_wp2
              go_ret2
              exact ⟨rfl, rfl⟩
end Go.Proofs.YtahpnnjemjjfhaaGreat

/-
  The document's pool (package sporef6): Low, Take.
-/
namespace Go.Proofs.YtahpnnjemjjfhaaGreat
open Go.RowKit

set_option maxHeartbeats 2000000 in
theorem prlow_any {b g n : Nat} {F : Nat → Bool} (k : Int) (w : World) (h : PTab 112 w b g n F) :
    Calls Tryz.prog 99 #[.pointer (some ⟨b, 0, none⟩), .int .i64 k] w fun e w' => ∃ v, e = .returned v ∧ Got w' w.heap.size v (lowL n F k) ∧ PTab 112 w' b g n (dropF F (lowL n F k)) ∧ Mut [g] w w' := by
  have hn := h.few
  have HT : Hid (PTab 112 w b g n F) := h
  have hlb : Hid (b < w.heap.size ∧ g < w.heap.size) := ⟨h.ltb, h.ltg⟩
  clear h
  go_enter Tryz.func99, Tryz.ntmps99
  go_wp2
  go_loopg [5, 6] (n + 1) (fun m v i wr => ∃ j : Nat, i = .int .i64 j ∧ j ≤ n ∧ m = n + 1 - j ∧ (freeU F 0 j).length ≤ k.toNat ∧ Hid (PTab 112 wr b g n (dropF F (freeU F 0 j)) ∧ Got wr w.heap.size v (freeU F 0 j) ∧ Mut [g] w wr))
  case atStart => exact ⟨0, rfl, by omega, by omega, by simp [freeU], by rw [freeU, dropF_nil]; exact HT.out, Got.nil _ _, Mut.refl _ _⟩
  case round =>
    clear HT
    obtain ⟨j, rfl, hj, hm, hl, hw⟩ := hrel
    have HM : Hid _ := hm
    clear hm
    obtain ⟨x, c, rfl⟩ := hw.out.2.1.form
    have c0 := hw.out.1.hd
    by_cases hend : j = n ∨ (j < n ∧ ¬ ((freeU F 0 j).length : Int) < k)
    · have HE : Hid (lowL n F k = freeU F 0 j) := freeU_take hj hl (by omega)
      rcases hend with e | ⟨e, e2⟩
      · have e1 : ¬ (j : Int) < (n : Int) := by omega
        clear hl e
        go_wp2
        go_ret
        rw [HE.out]
        exact ⟨_, rfl, hw.out.2.1, hw.out.1, hw.out.2.2⟩
      · clear hl
        go_wp2
        go_ret
        rw [HE.out]
        exact ⟨_, rfl, hw.out.2.1, hw.out.1, hw.out.2.2⟩
    · have hlt : j < n := by omega
      have hl2 : ((freeU F 0 j).length : Int) < k := by omega
      have c1 := hw.out.1.at hlt
      rw [dropF_at] at c1
      cases hf : F j
      · rw [hf] at c1
        have HE : Hid (freeU F 0 (j + 1) = freeU F 0 j) := freeU_miss hf
        clear hf hend hl
        go_wp2
        go_roundg (gk - 1)
        all_goals (have := HM.out; try omega)
        refine ⟨j + 1, by go_num, by omega, by omega, ?_, ?_⟩
        · rw [HE.out]; omega
        · rw [HE.out]; exact hw
      · rw [hf] at c1
        have c2 := hw.out.1.row.frozen
        have HE : Hid (freeU F 0 (j + 1) = freeU F 0 j ++ [j] ∧ dropF F (freeU F 0 (j + 1)) = setB (dropF F (freeU F 0 j)) j false) := ⟨freeU_hit (by omega) hf, dropF_step_hit (by omega) hf⟩
        have HG : Hid _ := (hw.out.2.1.set (a := ⟨g, j, none⟩) hlb.out.2 (.bool false))
        have hsz := hw.out.2.2.size
        have hfl := freeU_len_le F 0 j
        obtain ⟨i0, hi, hz0, hz1, hz2⟩ := info_parts info_int8
        clear hf hend hl
        go_wp2_with (at_builtin; refine wpList_append_own _ rfl _ _ 55 rfl w.heap.size 3 i0 (.int .i64 0) 1 8 Tryz.underlying55 hi hz0 hz1 hz2 rfl (by decide) _ _ _ rfl (HG.out.alloc _) ⟨wr.heap.size, 0, none⟩ 1 1 [.int .i64 j] rfl rfl ?c1 ?c2 ?c3 ?c4 ?c5 ?_)
        case c1 =>
          intro q u hq
          match q, hq with
          | 0, hq => simp at hq; subst hq; simp [Addr.add]; exact (pnew_cell (wr.setCell ⟨g, j, none⟩ (.bool false)) _ _ (by simp [World.setCell]) 0).trans rfl
        case c2 => intro u hu; simp at hu; subst hu; rfl
        case c3 => unfold maxLen; omega
        case c4 => omega
        case c5 => simp; omega
        intro v' w1 hown' hgrow _
        have HN : Hid (PTab 112 w1 b g n (dropF F (freeU F 0 (j + 1))) ∧ Got w1 w.heap.size v' (freeU F 0 (j + 1)) ∧ Mut [g] w w1) := by
          have hr : ∀ k, (Value.slice x (freeU F 0 j).length c).ownBlock = some k → w.heap.size ≤ k := fun k e => (World.ownsRow.lt hw.out.2.1 k e).1
          refine ⟨?_, ?_, ?_⟩
          · rw [HE.out.2]
            exact ((hw.out.1.set j false).alloc _ _).grown hgrow fun k e => by have := hr k e; have := hlb.out; omega
          · rw [HE.out.1]
            exact Got.push hown'
          · exact ((hw.out.2.2.setCell (p := ⟨g, j, none⟩) (by simp) _).alloc _).grown hgrow hr
        clear hown' hgrow HG hw
        go_wp2
        go_roundg (gk - 1)
        all_goals (have := HM.out; try omega)
        refine ⟨j + 1, by go_num, by omega, by omega, ?_, HN.out⟩
        rw [HE.out.1]; simp; omega

theorem range_step (a q : Nat) : List.range' a (q + 1) = List.range' a q ++ [a + q] := by
  rw [List.range'_concat]; simp
theorem dropF_push (F : Nat → Bool) (T : List Nat) (t : Nat) : dropF F (T ++ [t]) = setB (dropF F T) t false := by
  funext j
  by_cases e : j = t <;> simp [dropF, setB, e]

set_option maxHeartbeats 2000000 in
theorem prtake_any {b g n : Nat} {F : Nat → Bool} (k : Int) (w : World) (h : PTab 112 w b g n F) :
    Calls Tryz.prog 146 #[.pointer (some ⟨b, 0, none⟩), .int .i64 k] w fun e w' => ∃ v, e = .returned (.tuple #[v, .bool (takeB n F k)]) ∧ Got w' w.heap.size v (takeL n F k) ∧ PTab 112 w' b g n (dropF F (takeL n F k)) ∧ Mut [g] w w' := by
  have H := prfree_any w h
  have hc := cntB_le F n
  have hn := h.few
  have HT : Hid (PTab 112 w b g n F) := h
  have hlb : Hid (b < w.heap.size ∧ g < w.heap.size) := ⟨h.ltb, h.ltg⟩
  cases ht : takeB n F k
  · have HE : Hid _ := ptake_no ht
    have h2 : ¬ (1 ≤ k ∧ k ≤ cntB F n) := by simpa [takeB] using ht
    clear ht h
    by_cases hk : k < 1
    · clear h2 hc
      go_enter Tryz.func146, Tryz.ntmps146
      go_wp2
      go_ret2
      rw [HE.out, dropF_nil]
      exact ⟨_, rfl, Got.nil _ _, HT.out, Mut.refl _ _⟩
    · have h3 : (cntB F n : Int) < k := by omega
      clear h2 hc
      go_enter Tryz.func146, Tryz.ntmps146
      go_wp2_with fail
      refine H.mono ?_
      rintro e w' ⟨rfl, rfl⟩
      go_wp2
      go_ret2
      rw [HE.out, dropF_nil]
      exact ⟨_, rfl, Got.nil _ _, HT.out, Mut.refl _ _⟩
  · have h2 : 1 ≤ k ∧ k ≤ cntB F n := by simpa [takeB] using ht
    obtain ⟨h3, h4⟩ := h2
    have R := prrun_any k w h
    cases hr : runO n F k with
    | none =>
      have HE : Hid _ := take_low ht hr
      rw [hr] at R
      clear ht hr h
      go_enter Tryz.func146, Tryz.ntmps146
      go_wp2_with fail
      refine H.mono ?_
      rintro e w' ⟨rfl, rfl⟩
      go_wp2_with fail
      refine R.mono ?_
      rintro e w' ⟨rfl, rfl⟩
      go_wp2_with fail
      refine (prlow_any k _ HT.out).mono ?_
      rintro e w' ⟨v, rfl, hg, hp, hm⟩
      have HN : Hid (Got _ _ _ _ ∧ PTab _ _ _ _ _ _ ∧ Mut _ _ _) := ⟨hg, hp, hm⟩
      clear hg hp hm
      go_wp2
      go_ret2
      rw [← HE.out]
      exact ⟨_, rfl, HN.out⟩
    | some a =>
      have HE : Hid (takeL n F k = List.range' a k.toNat) := (take_run ht hr).2.2
      have haK : a + k.toNat ≤ n := by
        obtain ⟨m, rfl, _, h, _⟩ := runO_inv hr
        simpa using h
      rw [hr] at R
      clear ht hr h
      obtain ⟨K, rfl⟩ : ∃ K : Nat, k = K := ⟨k.toNat, by omega⟩
      rw [Int.toNat_natCast] at HE haK
      have e1 : runV (some a) = (a : Int) := rfl
      rw [e1] at R
      clear e1
      go_enter Tryz.func146, Tryz.ntmps146
      go_wp2_with fail
      refine H.mono ?_
      rintro e w' ⟨rfl, rfl⟩
      go_wp2_with fail
      refine R.mono ?_
      rintro e w' ⟨rfl, rfl⟩
      clear H R
      go_wp2
      go_loopg [8, 9] K (fun m v i wr => ∃ q : Nat, i = .int .i64 ((a : Int) + q) ∧ q ≤ K ∧ m = K - q ∧ Hid (PTab 112 wr b g n (dropF F (List.range' a q)) ∧ Got wr w'.heap.size v (List.range' a q) ∧ Mut [g] w' wr))
      case atStart => exact ⟨0, by simp, by omega, by omega, by simpa [dropF_nil] using HT.out, Got.nil _ _, Mut.refl _ _⟩
      case round =>
        clear HT
        obtain ⟨q, rfl, hq, hm, hw⟩ := hrel
        have HM : Hid _ := hm
        clear hm
        obtain ⟨x, c, rfl⟩ := hw.out.2.1.form
        have c0 := hw.out.1.hd
        by_cases hlt : q < K
        · have c1 := hw.out.1.at (k := a + q) (by omega)
          have c2 := hw.out.1.row.frozen
          have HS : Hid (List.range' a (q + 1) = List.range' a q ++ [a + q]) := range_step a q
          have HG : Hid _ := (hw.out.2.1.set (a := ⟨g, a + q, none⟩) hlb.out.2 (.bool false))
          have hsz := hw.out.2.2.size
          have hfl : (List.range' a q).length ≤ 1024 := by simp; omega
          obtain ⟨i0, hi, hz0, hz1, hz2⟩ := info_parts info_int8
          go_wp2_with (at_builtin; refine wpList_append_own _ rfl _ _ 55 rfl w'.heap.size 3 i0 (.int .i64 0) 1 8 Tryz.underlying55 hi hz0 hz1 hz2 rfl (by decide) _ _ _ rfl (HG.out.alloc _) ⟨wr.heap.size, 0, none⟩ 1 1 [.int .i64 ((a : Int) + (q : Int))] rfl rfl ?c1 ?c2 ?c3 ?c4 ?c5 ?_)
          case c1 =>
            intro z u hz
            match z, hz with
            | 0, hz => simp at hz; subst hz; simp [Addr.add]; exact (pnew_cell (wr.setCell ⟨g, a + q, none⟩ (.bool false)) _ _ (by simp [World.setCell]) 0).trans rfl
          case c2 => intro u hu; simp at hu; subst hu; rfl
          case c3 => unfold maxLen; omega
          case c4 => omega
          case c5 => simp; omega
          intro v' w1 hown' hgrow _
          have HN : Hid (PTab 112 w1 b g n (dropF F (List.range' a (q + 1))) ∧ Got w1 w'.heap.size v' (List.range' a (q + 1)) ∧ Mut [g] w' w1) := by
            have hr : ∀ k, (Value.slice x q c).ownBlock = some k → w'.heap.size ≤ k := fun k e => (World.ownsRow.lt hw.out.2.1 k (by simpa using e)).1
            refine ⟨?_, ?_, ?_⟩
            · rw [HS.out, dropF_push]
              exact ((hw.out.1.set (a + q) false).alloc _ _).grown hgrow fun k e => by have := hr k e; have := hlb.out; omega
            · rw [HS.out]
              exact Got.push (by simpa using hown')
            · exact ((hw.out.2.2.setCell (p := ⟨g, a + q, none⟩) (by simp) _).alloc _).grown hgrow hr
          clear hown' hgrow HG hw
          go_wp2
          go_roundg (gk - 1)
          all_goals (have := HM.out; try omega)
          exact ⟨q + 1, by go_num, by omega, by omega, HN.out⟩
        · obtain rfl : K = q := by omega
          go_wp2
          go_ret2
          rw [HE.out]
          exact ⟨_, rfl, hw.out.2.1, hw.out.1, hw.out.2.2⟩
end Go.Proofs.YtahpnnjemjjfhaaGreat

