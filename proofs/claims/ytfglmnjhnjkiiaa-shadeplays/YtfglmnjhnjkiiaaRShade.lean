/-
  The document's shade (package sporef13): the same functions of what it holds as package shade's.
-/
import Derived.Test.YtfglmnjhnjkiiaaShadeB
import Derived.Test.YtfglmnjhnjkiiaaRef7b15
import Derived.Test.YtfglmnjhnjkiiaaRPileB15
namespace Go.Proofs.Ytfglmnjhnjkiiaa
open Go.RowKit

theorem rpush_any {tp : Addr} {cn : Nat} {base b most : Nat} {v : Value} {T : List Int} {z : Bool} (i : Int) (w : World) (h : RT tp cn w base b most v T z) :
    Calls Try.prog 38 #[.pointer (some ⟨b, 0, none⟩), .int .i64 i] w fun e w' => e = .returned (.bool (decide (T.length < most))) ∧ ∃ v', RT tp cn w' base b most v' (pushT most T i) (pushZ most T z) ∧ Mut (b :: v.ownBlock.toList) w w' ∧ Fresh w v v' := by
  by_cases hf : T.length < most
  · refine (rpush_yes i w h hf).mono fun e w' ⟨he, v', a1, a2, a3⟩ => ⟨by simpa [hf] using he, v', by simpa [pushT, pushZ, hf] using a1, a2, a3⟩
  · refine (rpush_no i w h (by have := h.few; omega)).mono fun e w' ⟨he, a1, a2⟩ => ⟨by simpa [hf] using he, v, by simpa [pushT, pushZ, hf] using a1, a2.wide fun k hk => by simp at hk; simp [hk], Fresh.same _ _⟩
theorem rpop_any {tp : Addr} {cn : Nat} {base b most : Nat} {v : Value} {T : List Int} {z : Bool} (w : World) (h : RT tp cn w base b most v T z) :
    Calls Try.prog 42 #[.pointer (some ⟨b, 0, none⟩)] w fun e w' => e = .returned (.tuple #[.int .i64 (topI T), .bool (isI T)]) ∧ ∃ v', RT tp cn w' base b most v' T.dropLast z ∧ Mut (b :: v.ownBlock.toList) w w' ∧ Fresh w v v' := by
  rcases List.eq_nil_or_concat T with rfl | ⟨T0, i, rfl⟩
  · refine (rpop_no w h).mono fun e w' ⟨he, hw⟩ => ⟨by simpa [topI, isI] using he, v, by subst hw; simpa using h, by subst hw; exact Mut.refl _ _, Fresh.same _ _⟩
  · rw [List.concat_eq_append] at h ⊢
    refine (rpop_yes w h).mono fun e w' ⟨he, v', a1, a2, a3⟩ => ⟨by simpa [topI, isI] using he, v', by simpa using a1, a2, a3⟩

/-- The document's shade at block b: its table at tb (states, heads, colours at gs, gh, gc), its pile in v. -/
structure RSC (w : World) (base b tb gs gh gc : Nat) (v : Value) (S : ShS) : Prop where
  pile : RT ⟨tb, 0, none⟩ S.c w base b S.most v S.P S.z
  tab : RTab w tb gs gh gc S.n S.T
  nsv : v.ownBlock ≠ some gs
  lot : base ≤ tb
  los : base ≤ gs
  loh : base ≤ gh
  loc : base ≤ gc

/-- All that it reaches. -/
def RSF (b tb gs gh gc : Nat) (v : Value) : List Nat := b :: tb :: gs :: gh :: gc :: v.ownBlock.toList

section
variable {w w' : World} {base b tb gs gh gc : Nat} {v v' : Value} {S : ShS}
theorem RSC.kept (h : RSC w base b tb gs gh gc v S) (k : Kept w w') : RSC w' base b tb gs gh gc v S := ⟨h.pile.kept k, h.tab.kept k, h.nsv, h.lot, h.los, h.loh, h.loc⟩
theorem RSC.muts {D : List Nat} (h : RSC w base b tb gs gh gc v S) (m : Mut D w w') (hd : ∀ k, k ∈ RSF b tb gs gh gc v → k ∉ D) : RSC w' base b tb gs gh gc v S :=
  ⟨h.pile.muts m (hd _ (by simp [RSF])) (fun k hk => hd _ (by simp [RSF, hk])), h.tab.muts m (hd _ (by simp [RSF])) (hd _ (by simp [RSF])) (hd _ (by simp [RSF])) (hd _ (by simp [RSF])), h.nsv, h.lot, h.los, h.loh, h.loc⟩
theorem RSC.own (h : RSC w base b tb gs gh gc v S) : ∀ k, k ∈ RSF b tb gs gh gc v → base ≤ k ∧ k < w.heap.size := fun k hk => by
  simp only [RSF, List.mem_cons] at hk
  rcases hk with rfl | rfl | rfl | rfl | rfl | hk
  · exact ⟨h.pile.lo, h.pile.ltb⟩
  · exact ⟨h.lot, h.tab.head.lt⟩
  · exact ⟨h.los, h.tab.rs.lt⟩
  · exact ⟨h.loh, h.tab.rh.lt⟩
  · exact ⟨h.loc, h.tab.rc.lt⟩
  · exact h.pile.own k (by simp; exact .inr (by simpa using hk))
theorem RSC.nbt (h : RSC w base b tb gs gh gc v S) : b ≠ tb := h.pile.head.neq h.tab.head (by decide)
theorem RSC.nbs (h : RSC w base b tb gs gh gc v S) : b ≠ gs := h.pile.head.ne h.tab.rs (by decide)
theorem RSC.nbh (h : RSC w base b tb gs gh gc v S) : b ≠ gh := h.pile.head.ne h.tab.rh (by decide)
theorem RSC.nbc (h : RSC w base b tb gs gh gc v S) : b ≠ gc := h.pile.head.ne h.tab.rc (by decide)
theorem RSC.ntv (h : RSC w base b tb gs gh gc v S) : v.ownBlock ≠ some tb := h.tab.head.nelst h.pile.lst (by decide)
theorem RSC.nhv (h : RSC w base b tb gs gh gc v S) : v.ownBlock ≠ some gh := lst_ne_row h.pile.lst h.tab.rh (by decide)
theorem RSC.ncv (h : RSC w base b tb gs gh gc v S) : v.ownBlock ≠ some gc := lst_ne_row h.pile.lst h.tab.rc (by decide)
theorem RSC.c0 (h : RSC w base b tb gs gh gc v S) : w.cell? ⟨b, 0, none⟩ = some (.pointer (some ⟨tb, 0, none⟩)) := h.pile.head.blk.at 0 rfl
theorem RSC.c2 (h : RSC w base b tb gs gh gc v S) : w.cell? ⟨b, 2, none⟩ = some v := h.pile.r2
theorem RSC.c3 (h : RSC w base b tb gs gh gc v S) : w.cell? ⟨b, 3, none⟩ = some (.bool S.z) := h.pile.r3
theorem RSC.c4 (h : RSC w base b tb gs gh gc v S) : w.cell? ⟨b, 4, none⟩ = some (.int .i64 (S.c : Int)) := h.pile.head.blk.at 4 rfl
theorem RSC.fz (h : RSC w base b tb gs gh gc v S) (i : Nat) : w.frozen? ⟨b, i, none⟩ = false := h.pile.fz i
/-- Counted once more. -/
theorem RSC.ticks (h : RSC w base b tb gs gh gc v S) : RSC (w.setCell ⟨b, 4, none⟩ (.int .i64 ((S.c : Int) + 1))) base b tb gs gh gc v S.tick := by
  have m : Mut [b] w (w.setCell ⟨b, 4, none⟩ (.int .i64 ((S.c : Int) + 1))) := (Mut.refl _ _).setCell (by simp) _
  refine ⟨⟨?_, h.pile.lst.muts m (fun k hk hd => by simp at hd; subst hd; exact h.pile.ne hk), h.pile.few, h.pile.max, h.pile.lo, h.pile.ty⟩, h.tab.muts m (by simpa using h.nbt.symm) (by simpa using h.nbs.symm) (by simpa using h.nbh.symm) (by simpa using h.nbc.symm), h.nsv, h.lot, h.los, h.loh, h.loc⟩
  have := h.pile.head.set 4 (.int .i64 ((S.c : Int) + 1))
  simpa [ShS.tick] using this
/-- Another table. -/
theorem RSC.tabs (h : RSC w base b tb gs gh gc v S) {T : Nat → Fr} (t : RTab w' tb gs gh gc S.n T) (m : Mut [gs, gh, gc] w w') : RSC w' base b tb gs gh gc v ⟨S.n, S.most, T, S.P, S.z, S.c⟩ :=
  ⟨h.pile.muts m (by simp; exact ⟨h.nbs, h.nbh, h.nbc⟩) (fun k hk hd => by
    simp at hd
    rcases hd with rfl | rfl | rfl
    · exact h.nsv hk
    · exact h.nhv hk
    · exact h.ncv hk), t, h.nsv, h.lot, h.los, h.loh, h.loc⟩
/-- Another pile. -/
theorem RSC.piles (h : RSC w base b tb gs gh gc v S) {P : List Int} {z : Bool} (p : RT ⟨tb, 0, none⟩ S.c w' base b S.most v' P z) (m : Mut (b :: v.ownBlock.toList) w w') (f : Fresh w v v') : RSC w' base b tb gs gh gc v' ⟨S.n, S.most, S.T, P, z, S.c⟩ :=
  ⟨p, h.tab.muts m (by simp; exact ⟨h.nbt.symm, h.ntv⟩) (by simp; exact ⟨h.nbs.symm, h.nsv⟩) (by simp; exact ⟨h.nbh.symm, h.nhv⟩) (by simp; exact ⟨h.nbc.symm, h.ncv⟩), f.not h.tab.rs.lt h.nsv, h.lot, h.los, h.loh, h.loc⟩
theorem mur_t {u u' : World} (m : Mut [gs, gh, gc] u u') : Mut (RSF b tb gs gh gc v) u u' := m.wide fun k hk => by
  simp at hk
  simp [RSF]
  rcases hk with h | h | h <;> simp [h]
theorem mur_p {u u' : World} (m : Mut (b :: v.ownBlock.toList) u u') : Mut (RSF b tb gs gh gc v) u u' := m.wide fun k hk => by
  simp at hk
  simp [RSF]
  rcases hk with h | h
  · simp [h]
  · simp [h]
theorem RSC.flag (h : RSC w base b tb gs gh gc v S) : RSC (w.setCell ⟨b, 3, none⟩ (.bool false)) base b tb gs gh gc v S.found := by
  have m : Mut (b :: v.ownBlock.toList) w (w.setCell ⟨b, 3, none⟩ (.bool false)) := (Mut.refl _ _).setCell (by simp) _
  exact h.piles (h.pile.flag false) m (Fresh.same _ _)

set_option maxHeartbeats 1000000 in
theorem rsgrey_any (i : Int) (s : Bool) (w : World) (h : RSC w base b tb gs gh gc v S) (hc : S.c < lots) :
    Calls Try.prog 14 #[.pointer (some ⟨b, 0, none⟩), .int .i64 i, .bool s] w fun e w' => e = .returned (.bool (greyB S i s)) ∧ ∃ v', RSC w' base b tb gs gh gc v' (greyS S i s) ∧ Mut (RSF b tb gs gh gc v) w w' ∧ Fresh w v v' := by
  have H1 : Hid (RSC (w.setCell ⟨b, 4, none⟩ (.int .i64 ((S.c : Int) + 1))) base b tb gs gh gc v S.tick ∧ Mut (RSF b tb gs gh gc v) w (w.setCell ⟨b, 4, none⟩ (.int .i64 ((S.c : Int) + 1)))) := ⟨h.ticks, (Mut.refl _ _).setCell (by simp [RSF]) _⟩
  have c2 := h.c4
  have cf := h.fz
  have d0 := h.ticks.c0
  clear h
  unfold lots at hc
  generalize S.c = c at *
  cases hh : hdd S.n S.T i
  · have e1 : greyB S i s = false := by simp [greyB, hh]
    have e2 : greyS S i s = S.tick := by
      unfold greyS layS
      rw [show greyB S.tick i s = false from e1]
      rfl
    rw [e1, e2]
    clear e1 e2
    go_enter Try.func14, Try.ntmps14
    go_upto_region 2 with fail
    generalize w.setCell _ _ = w1 at *
    clear c2 cf
    go_wp2_with fail
    refine (rhead_any i _ H1.out.1.tab).mono ?_
    rintro e w2 ⟨rfl, rfl⟩
    have e0 : hdd S.tick.n S.tick.T i = false := hh
    rw [e0]
    go_wp2
    go_ret
    exact ⟨rfl, v, H1.out.1, H1.out.2, Fresh.same _ _⟩
  · cases hm : markB S.n S.T i s
    · have e1 : greyB S i s = false := by simp [greyB, hm]
      have e2 : greyS S i s = S.tick := by
        unfold greyS layS
        rw [show greyB S.tick i s = false from e1]
        rfl
      rw [e1, e2]
      clear e1 e2
      have HE : Hid (markT S.tick.n S.tick.T i s = S.tick.T) := by
        unfold markT
        rw [show markB S.tick.n S.tick.T i s = false from hm]
        rfl
      go_enter Try.func14, Try.ntmps14
      go_upto_region 2 with fail
      generalize w.setCell _ _ = w1 at *
      clear c2 cf
      go_wp2_with fail
      refine (rhead_any i _ H1.out.1.tab).mono ?_
      rintro e w2 ⟨rfl, rfl⟩
      have e0 : hdd S.tick.n S.tick.T i = true := hh
      rw [e0]
      go_wp2_with fail
      refine (rmark_any i s _ H1.out.1.tab).mono ?_
      rintro e w3 ⟨rfl, t3, m3⟩
      have e4 : markB S.tick.n S.tick.T i s = false := hm
      rw [e4]
      have H3 : Hid (RSC w3 base b tb gs gh gc v S.tick ∧ Mut (RSF b tb gs gh gc v) w w3) := ⟨by have := H1.out.1.tabs t3 m3; rw [HE.out] at this; exact this, H1.out.2.trans (mur_t m3)⟩
      clear t3 m3 H1 d0
      go_wp2
      go_ret
      exact ⟨rfl, v, H3.out.1, H3.out.2, Fresh.same _ _⟩
    · have e1 : greyB S i s = true := by simp [greyB, hh, hm]
      have HE : Hid (greyS S i s = ⟨S.n, S.most, markT S.n S.T i s, pushT S.most S.P i, pushZ S.most S.P S.z, S.c + 1⟩) := by
        unfold Hid greyS layS
        rw [show greyB S.tick i s = true from e1]
        rfl
      rw [e1]
      clear e1
      go_enter Try.func14, Try.ntmps14
      go_upto_region 2 with fail
      generalize w.setCell _ _ = w1 at *
      clear c2 cf
      go_wp2_with fail
      refine (rhead_any i _ H1.out.1.tab).mono ?_
      rintro e w2 ⟨rfl, rfl⟩
      have e0 : hdd S.tick.n S.tick.T i = true := hh
      rw [e0]
      go_wp2_with fail
      refine (rmark_any i s _ H1.out.1.tab).mono ?_
      rintro e w3 ⟨rfl, t3, m3⟩
      have e4 : markB S.tick.n S.tick.T i s = true := hm
      rw [e4]
      have H3 : Hid (RSC w3 base b tb gs gh gc v ⟨S.n, S.most, markT S.n S.T i s, S.P, S.z, S.c + 1⟩ ∧ Mut (RSF b tb gs gh gc v) w w3) := ⟨H1.out.1.tabs t3 m3, H1.out.2.trans (mur_t m3)⟩
      clear t3 m3 H1 d0
      go_wp2_with fail
      refine (rpush_any i _ H3.out.1.pile).mono ?_
      rintro e w4 ⟨rfl, v4, p4, m4, f4⟩
      have H4 : Hid (RSC w4 base b tb gs gh gc v4 (greyS S i s) ∧ Mut (RSF b tb gs gh gc v) w w4 ∧ Fresh w v v4) := ⟨by rw [HE.out]; exact H3.out.1.piles p4 m4 f4, H3.out.2.trans (mur_p m4), fun k hk => (f4 k hk).imp id fun q => Nat.le_trans H3.out.2.size q⟩
      clear p4 m4 f4 H3
      go_wp2
      go_ret
      exact ⟨rfl, v4, H4.out⟩

set_option maxHeartbeats 400000 in
theorem rsblack_any (i : Int) (s : Bool) (w : World) (h : RSC w base b tb gs gh gc v S) (hc : S.c < lots) :
    Calls Try.prog 16 #[.pointer (some ⟨b, 0, none⟩), .int .i64 i, .bool s] w fun e w' => e = .returned (.bool (blackB S i s)) ∧ RSC w' base b tb gs gh gc v S.tick ∧ Mut (RSF b tb gs gh gc v) w w' := by
  have H1 : Hid (RSC (w.setCell ⟨b, 4, none⟩ (.int .i64 ((S.c : Int) + 1))) base b tb gs gh gc v S.tick ∧ Mut (RSF b tb gs gh gc v) w (w.setCell ⟨b, 4, none⟩ (.int .i64 ((S.c : Int) + 1)))) := ⟨h.ticks, (Mut.refl _ _).setCell (by simp [RSF]) _⟩
  have c2 := h.c4
  have cf := h.fz
  have d0 := h.ticks.c0
  clear h
  unfold lots at hc
  generalize S.c = c at *
  cases hh : hdd S.n S.T i
  · have e1 : blackB S i s = false := by simp [blackB, hh]
    rw [e1]
    clear e1
    go_enter Try.func16, Try.ntmps16
    go_upto_region 2 with fail
    generalize w.setCell _ _ = w1 at *
    clear c2 cf
    go_wp2_with fail
    refine (rhead_any i _ H1.out.1.tab).mono ?_
    rintro e w2 ⟨rfl, rfl⟩
    have e0 : hdd S.tick.n S.tick.T i = false := hh
    rw [e0]
    go_wp2
    go_ret
    exact ⟨rfl, H1.out⟩
  · have e1 : blackB S i s = blk S.tick.n S.tick.T i s := by simp [blackB, hh, ShS.tick]
    rw [e1]
    clear e1
    go_enter Try.func16, Try.ntmps16
    go_upto_region 2 with fail
    generalize w.setCell _ _ = w1 at *
    clear c2 cf
    go_wp2_with fail
    refine (rhead_any i _ H1.out.1.tab).mono ?_
    rintro e w2 ⟨rfl, rfl⟩
    have e0 : hdd S.tick.n S.tick.T i = true := hh
    rw [e0]
    go_wp2_with fail
    refine (rblack_any i s _ H1.out.1.tab).mono ?_
    rintro e w3 ⟨rfl, rfl⟩
    go_wp2
    go_ret
    exact ⟨rfl, H1.out⟩

set_option maxHeartbeats 400000 in
theorem rspart_any (i : Int) (s : Bool) (w : World) (h : RSC w base b tb gs gh gc v S) (hc : S.c < lots) :
    Calls Try.prog 18 #[.pointer (some ⟨b, 0, none⟩), .int .i64 i, .bool s] w fun e w' => e = .returned (.bool (markB S.n S.T i s)) ∧ RSC w' base b tb gs gh gc v (S.tick.mark i s) ∧ Mut (RSF b tb gs gh gc v) w w' := by
  have H1 : Hid (RSC (w.setCell ⟨b, 4, none⟩ (.int .i64 ((S.c : Int) + 1))) base b tb gs gh gc v S.tick ∧ Mut (RSF b tb gs gh gc v) w (w.setCell ⟨b, 4, none⟩ (.int .i64 ((S.c : Int) + 1)))) := ⟨h.ticks, (Mut.refl _ _).setCell (by simp [RSF]) _⟩
  have c2 := h.c4
  have cf := h.fz
  have d0 := h.ticks.c0
  clear h
  unfold lots at hc
  generalize S.c = c at *
  go_enter Try.func18, Try.ntmps18
  go_upto_region 2 with fail
  generalize w.setCell _ _ = w1 at *
  clear c2 cf
  go_wp2_with fail
  refine (rmark_any i s _ H1.out.1.tab).mono ?_
  rintro e w2 ⟨rfl, t2, m2⟩
  have H2 : Hid (RSC w2 base b tb gs gh gc v (S.tick.mark i s) ∧ Mut (RSF b tb gs gh gc v) w w2) := ⟨H1.out.1.tabs t2 m2, H1.out.2.trans (mur_t m2)⟩
  clear t2 m2 H1 d0
  have e0 : markB S.tick.n S.tick.T i s = markB S.n S.T i s := rfl
  rw [e0]
  go_wp2
  go_ret
  exact ⟨rfl, H2.out⟩

set_option maxHeartbeats 400000 in
theorem rsnext_any (w : World) (h : RSC w base b tb gs gh gc v S) (hc : S.c < lots) :
    Calls Try.prog 20 #[.pointer (some ⟨b, 0, none⟩)] w fun e w' => e = .returned (.tuple #[.int .i64 (topI S.P), .bool (isI S.P)]) ∧ ∃ v', RSC w' base b tb gs gh gc v' S.tick.pop ∧ Mut (RSF b tb gs gh gc v) w w' ∧ Fresh w v v' := by
  have H1 : Hid (RSC (w.setCell ⟨b, 4, none⟩ (.int .i64 ((S.c : Int) + 1))) base b tb gs gh gc v S.tick ∧ Mut (RSF b tb gs gh gc v) w (w.setCell ⟨b, 4, none⟩ (.int .i64 ((S.c : Int) + 1)))) := ⟨h.ticks, (Mut.refl _ _).setCell (by simp [RSF]) _⟩
  have c2 := h.c4
  have cf := h.fz
  clear h
  unfold lots at hc
  generalize S.c = c at *
  go_enter Try.func20, Try.ntmps20
  go_upto_region 2 with fail
  generalize w.setCell _ _ = w1 at *
  clear c2 cf
  go_wp2_with fail
  refine (rpop_any _ H1.out.1.pile).mono ?_
  rintro e w2 ⟨rfl, v2, p2, m2, f2⟩
  have H2 : Hid (RSC w2 base b tb gs gh gc v2 S.tick.pop ∧ Mut (RSF b tb gs gh gc v) w w2 ∧ Fresh w v v2) := ⟨H1.out.1.piles p2 m2 f2, H1.out.2.trans (mur_p m2), fun k hk => (f2 k hk).imp id fun q => Nat.le_trans H1.out.2.size q⟩
  clear p2 m2 f2 H1
  have e0 : S.tick.P = S.P := rfl
  rw [e0]
  go_wp2
  go_ret2
  exact ⟨rfl, v2, H2.out⟩

set_option maxHeartbeats 400000 in
theorem rslost_any (w : World) (h : RSC w base b tb gs gh gc v S) (hc : S.c < lots) :
    Calls Try.prog 22 #[.pointer (some ⟨b, 0, none⟩)] w fun e w' => e = .returned (.bool S.z) ∧ RSC w' base b tb gs gh gc v S.tick.found ∧ Mut (RSF b tb gs gh gc v) w w' := by
  have H1 : Hid (RSC (w.setCell ⟨b, 4, none⟩ (.int .i64 ((S.c : Int) + 1))) base b tb gs gh gc v S.tick ∧ Mut (RSF b tb gs gh gc v) w (w.setCell ⟨b, 4, none⟩ (.int .i64 ((S.c : Int) + 1)))) := ⟨h.ticks, (Mut.refl _ _).setCell (by simp [RSF]) _⟩
  have c2 := h.c4
  have cf := h.fz
  have d3 : (w.setCell ⟨b, 4, none⟩ (.int .i64 ((S.c : Int) + 1))).cell? ⟨b, 3, none⟩ = some (.bool S.z) := h.ticks.c3
  have df := h.ticks.fz
  clear h
  unfold lots at hc
  generalize S.c = c at *
  go_enter Try.func22, Try.ntmps22
  go_upto_region 2 with fail
  generalize w.setCell _ _ = w1 at *
  clear c2 cf
  have H3 : Hid (RSC (w1.setCell ⟨b, 3, none⟩ (.bool false)) base b tb gs gh gc v S.tick.found ∧ Mut (RSF b tb gs gh gc v) w (w1.setCell ⟨b, 3, none⟩ (.bool false))) := ⟨H1.out.1.flag, H1.out.2.setCell (by simp [RSF]) _⟩
  clear H1
  go_wp2
  go_ret
  exact ⟨rfl, H3.out⟩
end

set_option maxHeartbeats 400000 in
theorem rsnew_bad (n most : Int) (w : World) (hn : ¬ (0 ≤ n ∧ n ≤ 1024 ∧ 1 ≤ most ∧ most ≤ 256)) (h0 : IntKind.min .i64 ≤ n) (h1 : n ≤ IntKind.max .i64) :
    Calls Try.prog 9 #[.int .i64 n, .int .i64 most] w fun e w' => e = .returned (.tuple #[.pointer none, .int .i64 1]) ∧ Kept w w' := by
  by_cases ht : 0 ≤ n ∧ n ≤ 1024
  · obtain ⟨m, rfl⟩ : ∃ m : Nat, n = m := ⟨n.toNat, by omega⟩
    have HT : Hid (∀ w, _) := fun w => rtnew_any m w (by omega)
    rcases (show most < 1 ∨ (1 ≤ most ∧ 256 < most) by omega) with g1 | ⟨g1, g2⟩
    all_goals clear hn ht h0 h1
    all_goals go_enter Try.func9, Try.ntmps9
    all_goals go_wp2_with fail
    all_goals (refine (HT.out _).mono ?_; rintro e w1 ⟨tb, gs, gh, gc, rfl, t1, _, _, _, _, k1⟩)
    all_goals (have K1 : Hid (Kept w w1) := k1; clear t1 k1)
    all_goals go_wp2
    all_goals go_ret2
    all_goals exact ⟨rfl, K1.out⟩
  · have HT : Hid (∀ w, _) := fun w => rtnew_bad n w ht
    clear hn ht h0 h1
    go_enter Try.func9, Try.ntmps9
    go_wp2_with fail
    refine (HT.out _).mono ?_
    rintro e w1 ⟨rfl, rfl⟩
    go_wp2
    go_ret2
    exact ⟨rfl, Kept.refl _⟩

set_option maxHeartbeats 1000000 in
theorem rsnew_any (n most : Nat) (w : World) (hn : n ≤ 1024) (h1 : 1 ≤ (most : Int)) (hm : (most : Int) ≤ 256) {base : Nat} (hb : base ≤ w.heap.size) :
    Calls Try.prog 9 #[.int .i64 n, .int .i64 most] w fun e w' => ∃ b tb gs gh gc v, e = .returned (.tuple #[.pointer (some ⟨b, 0, none⟩), .int .i64 0]) ∧ RSC w' base b tb gs gh gc v (ShS.new n most) ∧ Kept w w' ∧ ∀ k, k ∈ RSF b tb gs gh gc v → w.heap.size ≤ k := by
  have HB : Hid (base ≤ w.heap.size) := hb
  have HT : Hid (∀ w, _) := fun w => rtnew_any n w hn
  have HH : Hid (most ≤ 256) := by simp only [Hid]; omega
  clear hn hb
  go_enter Try.func9, Try.ntmps9
  go_wp2_with fail
  refine (HT.out _).mono ?_
  rintro e w1 ⟨tb, gs, gh, gc, rfl, t1, l1, l2, l3, l4, k1⟩
  have H1 : Hid (RTab w1 tb gs gh gc n T0 ∧ w.heap.size ≤ tb ∧ w.heap.size ≤ gs ∧ w.heap.size ≤ gh ∧ w.heap.size ≤ gc ∧ Kept w w1) := ⟨t1, l1, l2, l3, l4, k1⟩
  clear t1 l1 l2 l3 l4 k1
  have HF : Hid (∀ C, Own (w1.alloc (.cells (C : List Value).toArray 39)) w1.heap.size 39 C) := fun C => Own.new _ _ _
  go_wp2
  go_ret2
  have ka : Kept w1 (w1.alloc (.cells #[.pointer (some ⟨tb, 0, none⟩), .int .i64 (most : Int), .slice none 0 0, .bool false, .int .i64 0] 39)) := (Kept.refl _).alloc _ _
  obtain ⟨t1, s1, s2, s3, s4, k1⟩ := H1.out
  have s5 := k1.size
  have s6 := HB.out
  refine ⟨w1.heap.size, tb, gs, gh, gc, .slice none 0 0, rfl, ⟨⟨HF.out [_, _, _, _, _], Lst.nil _ _, by simp [ShS.new], HH.out, by omega, by decide⟩, t1.kept ka, by simp [Value.ownBlock], by omega, by omega, by omega, by omega⟩, k1.trans ka, fun k hk => ?_⟩
  simp [RSF, Value.ownBlock] at hk
  omega
end Go.Proofs.Ytfglmnjhnjkiiaa
