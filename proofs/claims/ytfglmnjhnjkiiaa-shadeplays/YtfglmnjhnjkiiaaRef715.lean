/-
  Contracts of the document's table (package sporef6): the same functions of its contents as package tint's.
-/
import Derived.Test.YtfglmnjhnjkiiaaTintNew15
namespace Go.Proofs.Ytfglmnjhnjkiiaa
open Go.RowKit

/-- The document's table at block b; its states, heads and colours at blocks gs, gh, gc. -/
structure RTab (w : World) (b gs gh gc n : Nat) (T : Nat → Fr) : Prop where
  head : Own w b 67 [.slice (some ⟨gs, 0, none⟩) n n, .slice (some ⟨gh, 0, none⟩) n n, .slice (some ⟨gc, 0, none⟩) n n]
  rs : w.rowIs gs 3 n (fun j => .int .i64 (T j).s)
  rh : w.rowIs gh 4 n (fun j => .bool (T j).h)
  rc : w.rowIs gc 4 n (fun j => .bool (T j).c)
  ne : gh ≠ gc
  few : n ≤ 1024

section
variable {w w' : World} {b gs gh gc n : Nat} {T : Nat → Fr}
theorem RTab.kept (h : RTab w b gs gh gc n T) (k : Kept w w') : RTab w' b gs gh gc n T := ⟨h.head.kept k, k.row h.rs, k.row h.rh, k.row h.rc, h.ne, h.few⟩
theorem RTab.muts {D : List Nat} (h : RTab w b gs gh gc n T) (m : Mut D w w') (h0 : b ∉ D) (h1 : gs ∉ D) (h2 : gh ∉ D) (h3 : gc ∉ D) : RTab w' b gs gh gc n T := ⟨h.head.muts m h0, m.row h.rs h1, m.row h.rh h2, m.row h.rc h3, h.ne, h.few⟩
theorem RTab.hd0 (h : RTab w b gs gh gc n T) : w.cell? ⟨b, 0, none⟩ = some (.slice (some ⟨gs, 0, none⟩) n n) := h.head.blk.at 0 rfl
theorem RTab.hd1 (h : RTab w b gs gh gc n T) : w.cell? ⟨b, 1, none⟩ = some (.slice (some ⟨gh, 0, none⟩) n n) := h.head.blk.at 1 rfl
theorem RTab.hd2 (h : RTab w b gs gh gc n T) : w.cell? ⟨b, 2, none⟩ = some (.slice (some ⟨gc, 0, none⟩) n n) := h.head.blk.at 2 rfl
theorem RTab.nsh (h : RTab w b gs gh gc n T) : gs ≠ gh := by
  rintro rfl
  obtain ⟨c1, h1, _⟩ := h.rs
  obtain ⟨c2, h2, _⟩ := h.rh
  rw [h1] at h2
  simp at h2
theorem RTab.nsc (h : RTab w b gs gh gc n T) : gs ≠ gc := by
  rintro rfl
  obtain ⟨c1, h1, _⟩ := h.rs
  obtain ⟨c2, h2, _⟩ := h.rc
  rw [h1] at h2
  simp at h2
theorem RTab.nbs (h : RTab w b gs gh gc n T) : b ≠ gs := h.head.ne h.rs (by decide)
theorem RTab.nbh (h : RTab w b gs gh gc n T) : b ≠ gh := h.head.ne h.rh (by decide)
theorem RTab.nbc (h : RTab w b gs gh gc n T) : b ≠ gc := h.head.ne h.rc (by decide)
end

set_option maxHeartbeats 400000 in
theorem ris_any {b gs gh gc n : Nat} {T : Nat → Fr} (i : Int) (w : World) (h : RTab w b gs gh gc n T) :
    Calls Try.prog 34 #[.pointer (some ⟨b, 0, none⟩), .int .i64 i] w fun e w' => e = .returned (.bool (inn n i)) ∧ w' = w := by
  have c0 := h.hd0
  clear h
  cases hi : inn n i
  · have h1 := inn_not hi
    by_cases h0 : 0 ≤ i
    · have h2 : ¬ i < (n : Int) := fun q => h1 ⟨h0, q⟩
      clear h1 hi
      go_enter Try.func34, Try.ntmps34
      go_wp2
      go_ret
      exact ⟨rfl, rfl⟩
    · clear h1 hi
      go_enter Try.func34, Try.ntmps34
      go_wp2
      go_ret
      exact ⟨rfl, rfl⟩
  · obtain ⟨k, rfl, hk⟩ := inn_iff hi
    clear hi
    go_enter Try.func34, Try.ntmps34
    go_wp2
    go_ret
    exact ⟨rfl, rfl⟩

set_option maxHeartbeats 400000 in
theorem rstate_any {b gs gh gc n : Nat} {T : Nat → Fr} (i : Int) (w : World) (h : RTab w b gs gh gc n T) :
    Calls Try.prog 46 #[.pointer (some ⟨b, 0, none⟩), .int .i64 i] w fun e w' => e = .returned (.int .i64 (stt n T i)) ∧ w' = w := by
  have H := ris_any i w h
  have c0 := h.hd0
  cases hi : inn n i
  · simp only [stt, hi] at H ⊢
    clear h hi
    go_enter Try.func46, Try.ntmps46
    go_wp2_with fail
    refine H.mono ?_
    rintro e w' ⟨rfl, rfl⟩
    go_wp2
    go_ret
    exact ⟨rfl, rfl⟩
  · obtain ⟨k, rfl, hk⟩ := inn_iff hi
    have c1 := h.rs.cell hk
    simp only [stt, hi, Int.toNat_natCast, if_true] at H ⊢
    clear h hi
    go_enter Try.func46, Try.ntmps46
    go_wp2_with fail
    refine H.mono ?_
    rintro e w' ⟨rfl, rfl⟩
    go_wp2
    go_ret
    exact ⟨rfl, rfl⟩

set_option maxHeartbeats 400000 in
theorem rhead_any {b gs gh gc n : Nat} {T : Nat → Fr} (i : Int) (w : World) (h : RTab w b gs gh gc n T) :
    Calls Try.prog 36 #[.pointer (some ⟨b, 0, none⟩), .int .i64 i] w fun e w' => e = .returned (.bool (hdd n T i)) ∧ w' = w := by
  have H := ris_any i w h
  have c0 := h.hd1
  cases hi : inn n i
  · simp only [hdd, hi, Bool.false_and] at H ⊢
    clear h hi
    go_enter Try.func36, Try.ntmps36
    go_wp2_with fail
    refine H.mono ?_
    rintro e w' ⟨rfl, rfl⟩
    go_wp2
    go_ret
    exact ⟨rfl, rfl⟩
  · obtain ⟨k, rfl, hk⟩ := inn_iff hi
    have c1 := h.rh.cell hk
    simp only [hdd, hi, Bool.true_and, Int.toNat_natCast] at H ⊢
    clear h hi
    go_enter Try.func36, Try.ntmps36
    go_wp2_with fail
    refine H.mono ?_
    rintro e w' ⟨rfl, rfl⟩
    go_wp2
    go_ret
    exact ⟨rfl, rfl⟩

theorem stt_usd (n : Nat) (T : Nat → Fr) (i : Int) : (stt n T i == 2) = usd n T i := by
  cases e : inn n i <;> simp [stt, usd, e]

set_option maxHeartbeats 400000 in
theorem rblack_any {b gs gh gc n : Nat} {T : Nat → Fr} (i : Int) (c : Bool) (w : World) (h : RTab w b gs gh gc n T) :
    Calls Try.prog 28 #[.pointer (some ⟨b, 0, none⟩), .int .i64 i, .bool c] w fun e w' => e = .returned (.bool (blk n T i c)) ∧ w' = w := by
  have H := rstate_any i w h
  have S := stt_usd n T i
  have c0 := h.hd2
  cases hi : usd n T i
  · rw [hi] at S
    simp only [blk, hi, Bool.false_and] at H ⊢
    clear h hi
    generalize stt n T i = s at *
    go_enter Try.func28, Try.ntmps28
    go_wp2_with fail
    refine H.mono ?_
    rintro e w' ⟨rfl, rfl⟩
    go_wp2
    go_ret
    exact ⟨rfl, rfl⟩
  · rw [hi] at S
    obtain ⟨k, rfl, hk, _⟩ := usd_iff hi
    have c1 := h.rc.cell hk
    simp only [blk, hi, Bool.true_and, Int.toNat_natCast] at H ⊢
    clear h hi
    generalize stt n T k = s at *
    go_enter Try.func28, Try.ntmps28
    go_wp2_with fail
    refine H.mono ?_
    rintro e w' ⟨rfl, rfl⟩
    go_wp2
    go_ret
    exact ⟨rfl, rfl⟩

theorem RTab.seth {w : World} {b gs gh gc n : Nat} {T : Nat → Fr} (h : RTab w b gs gh gc n T) (k : Nat) (v : Bool) : RTab (w.setCell ⟨gh, k, none⟩ (.bool v)) b gs gh gc n (fun i => if i = k then ⟨(T i).s, v, (T i).c⟩ else T i) :=
  ⟨h.head.set_other (Ne.symm h.nbh) _, (h.rs.setOther h.nsh _).congr fun j _ => by by_cases e : j = k <;> simp [e], (h.rh.set _ _).congr fun j _ => by by_cases e : j = k <;> simp [e], (h.rc.setOther (Ne.symm h.ne) _).congr fun j _ => by by_cases e : j = k <;> simp [e], h.ne, h.few⟩
theorem RTab.setc {w : World} {b gs gh gc n : Nat} {T : Nat → Fr} (h : RTab w b gs gh gc n T) (k : Nat) (v : Bool) : RTab (w.setCell ⟨gc, k, none⟩ (.bool v)) b gs gh gc n (fun i => if i = k then ⟨(T i).s, (T i).h, v⟩ else T i) :=
  ⟨h.head.set_other (Ne.symm h.nbc) _, (h.rs.setOther h.nsc _).congr fun j _ => by by_cases e : j = k <;> simp [e], (h.rh.setOther h.ne _).congr fun j _ => by by_cases e : j = k <;> simp [e], (h.rc.set _ _).congr fun j _ => by by_cases e : j = k <;> simp [e], h.ne, h.few⟩
theorem RTab.sets {w : World} {b gs gh gc n : Nat} {T : Nat → Fr} (h : RTab w b gs gh gc n T) (k : Nat) (v : Int) : RTab (w.setCell ⟨gs, k, none⟩ (.int .i64 v)) b gs gh gc n (fun i => if i = k then ⟨v, (T i).h, (T i).c⟩ else T i) :=
  ⟨h.head.set_other (Ne.symm h.nbs) _, (h.rs.set _ _).congr fun j _ => by by_cases e : j = k <;> simp [e], (h.rh.setOther (Ne.symm h.nsh) _).congr fun j _ => by by_cases e : j = k <;> simp [e], (h.rc.setOther (Ne.symm h.nsc) _).congr fun j _ => by by_cases e : j = k <;> simp [e], h.ne, h.few⟩

set_option maxHeartbeats 400000 in
theorem rborn_any {b gs gh gc n : Nat} {T : Nat → Fr} (i : Int) (w : World) (h : RTab w b gs gh gc n T) :
    Calls Try.prog 24 #[.pointer (some ⟨b, 0, none⟩), .int .i64 i] w fun e w' => e = .returned (.bool (bornB n T i)) ∧ RTab w' b gs gh gc n (bornT n T i) ∧ Mut [gs, gh, gc] w w' := by
  have H := rstate_any i w h
  have S := stt_usd n T i
  have c0 := h.hd1
  have HT : Hid (RTab w b gs gh gc n T) := h
  cases hi : usd n T i
  · rw [hi] at S
    simp only [bornB, bornT, hi, Bool.false_and, Bool.false_eq_true, if_false] at H ⊢
    clear h hi
    generalize stt n T i = s at *
    have S2 : (s != 2) = true := by simpa [bne] using S
    clear S
    go_enter Try.func24, Try.ntmps24
    go_wp2_with fail
    refine H.mono ?_
    rintro e w' ⟨rfl, rfl⟩
    go_wp2
    go_ret
    exact ⟨rfl, HT.out, Mut.refl _ _⟩
  · rw [hi] at S
    obtain ⟨k, rfl, hk, _⟩ := usd_iff hi
    have c1 := h.rh.cell hk
    have c2 := h.rh.frozen
    simp only [bornB, bornT, hi, Bool.true_and, Int.toNat_natCast] at H ⊢
    clear h hi
    generalize stt n T k = s at *
    have S2 : (s != 2) = false := by simpa [bne] using S
    clear S
    cases hh : (T k).h
    · rw [hh] at c1
      clear hh
      go_enter Try.func24, Try.ntmps24
      go_wp2_with fail
      refine H.mono ?_
      rintro e w' ⟨rfl, rfl⟩
      go_wp2
      go_ret
      exact ⟨rfl, HT.out.seth k true, (Mut.refl _ _).setCell (by simp) _⟩
    · rw [hh] at c1
      clear hh
      go_enter Try.func24, Try.ntmps24
      go_wp2_with fail
      refine H.mono ?_
      rintro e w' ⟨rfl, rfl⟩
      go_wp2
      go_ret
      exact ⟨rfl, HT.out, Mut.refl _ _⟩

set_option maxHeartbeats 400000 in
theorem rmark_any {b gs gh gc n : Nat} {T : Nat → Fr} (i : Int) (c : Bool) (w : World) (h : RTab w b gs gh gc n T) :
    Calls Try.prog 37 #[.pointer (some ⟨b, 0, none⟩), .int .i64 i, .bool c] w fun e w' => e = .returned (.bool (markB n T i c)) ∧ RTab w' b gs gh gc n (markT n T i c) ∧ Mut [gs, gh, gc] w w' := by
  have H := rstate_any i w h
  have S := stt_usd n T i
  have c0 := h.hd2
  have HT : Hid (RTab w b gs gh gc n T) := h
  cases hi : usd n T i
  · rw [hi] at S
    simp only [markB, markT, hi, Bool.false_and, Bool.false_eq_true, if_false] at H ⊢
    clear h hi
    generalize stt n T i = s at *
    have S2 : (s != 2) = true := by simpa [bne] using S
    clear S
    go_enter Try.func37, Try.ntmps37
    go_wp2_with fail
    refine H.mono ?_
    rintro e w' ⟨rfl, rfl⟩
    go_wp2
    go_ret
    exact ⟨rfl, HT.out, Mut.refl _ _⟩
  · rw [hi] at S
    obtain ⟨k, rfl, hk, _⟩ := usd_iff hi
    have c1 := h.rc.cell hk
    have c2 := h.rc.frozen
    simp only [markB, markT, hi, Bool.true_and, Int.toNat_natCast] at H ⊢
    clear h hi
    generalize stt n T k = s at *
    have S2 : (s != 2) = false := by simpa [bne] using S
    clear S
    cases hh : (T k).c == c
    · go_enter Try.func37, Try.ntmps37
      go_wp2_with fail
      refine H.mono ?_
      rintro e w' ⟨rfl, rfl⟩
      go_wp2
      go_ret
      exact ⟨rfl, HT.out.setc k c, (Mut.refl _ _).setCell (by simp) _⟩
    · go_enter Try.func37, Try.ntmps37
      go_wp2_with fail
      refine H.mono ?_
      rintro e w' ⟨rfl, rfl⟩
      go_wp2
      go_ret
      exact ⟨rfl, HT.out, Mut.refl _ _⟩

end Go.Proofs.Ytfglmnjhnjkiiaa
