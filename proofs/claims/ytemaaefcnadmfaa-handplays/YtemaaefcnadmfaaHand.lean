/-
  A hand as plain values, and as it lies in memory; contracts of package hand.
-/
import Derived.Test.YtemaaefcnadmfaaLst
import Derived.Deep.CutBlock
namespace Go.Proofs.Ytemaaefcnadmfaa
open Go.RowKit

/-- A hand as plain values: n threads, each one's own status, what is posted, the sense, the count. -/
structure Hs where
  n : Nat
  O : Nat → Int
  st : Int
  se : Bool
  ct : Int

structure Hs.Ok (S : Hs) : Prop where
  few : S.n ≤ 16
  own : ∀ j, j < S.n → -1 ≤ S.O j ∧ S.O j ≤ 4
  sts : 0 ≤ S.st ∧ S.st ≤ 4
  cnt : 0 ≤ S.ct

def kn (s : Int) : Bool := decide (0 ≤ s ∧ s ≤ 4)
def Hs.may (S : Hs) (i : Int) : Bool := decide (0 ≤ i ∧ i < S.n)
def Hs.is (S : Hs) (i : Int) : Bool := S.may i && (S.O i.toNat != -1)
def Hs.tick (S : Hs) : Hs := { S with ct := S.ct + 1 }
def Hs.put (S : Hs) (k : Nat) (v : Int) : Hs := { S with O := fun j => if j = k then v else S.O j }
def Hs.post (S : Hs) (s : Int) (f : Bool) : Hs := if kn s then { S.tick with st := s, se := (S.se != f) } else S.tick
def Hs.ans (S : Hs) (i s : Int) : Hs := if S.is i && kn s then S.tick.put i.toNat s else S.tick
def Hs.poll (S : Hs) (i : Int) : Bool := !S.is i || (S.O i.toNat == S.st)
def Hs.can (S : Hs) (i : Int) : Bool := S.may i && !S.is i
def Hs.join (S : Hs) (i : Int) : Hs := if S.can i then S.tick.put i.toNat S.st else S.tick
def Hs.leave (S : Hs) (i : Int) : Hs := if S.is i then S.tick.put i.toNat (-1) else S.tick
def Hs.own (S : Hs) (i : Int) : Int := if S.is i then S.O i.toNat else -1
def Hs.jst (S : Hs) (i : Int) : Int := if S.can i then S.st else 0
def Hs.jse (S : Hs) (i : Int) : Bool := S.can i && S.se
def Hs.head (S : Hs) (g c : Nat) : List Value := [.int .i64 S.st, .bool S.se, .slice (some ⟨g, 0, none⟩) S.n c, .int .i64 S.ct]
/-- As it is made. -/
def Hs.first (n : Nat) : Hs := ⟨n, fun _ => -1, 0, false, 0⟩

theorem kn_yes {s : Int} (h : kn s = true) : 0 ≤ s ∧ s ≤ 4 := of_decide_eq_true h
theorem kn_no {s : Int} (h : kn s = false) : ¬ (0 ≤ s ∧ s ≤ 4) := of_decide_eq_false h

section
variable {S : Hs}
theorem Hs.may_yes {i : Int} (h : S.may i = true) : ∃ k : Nat, i = k ∧ k < S.n := by
  simp [Hs.may] at h
  exact ⟨i.toNat, by omega, by omega⟩
theorem Hs.may_no {i : Int} (h : S.may i = false) : ¬ (0 ≤ i ∧ i < S.n) := of_decide_eq_false h
theorem Hs.may_at {k : Nat} (h : k < S.n) : S.may k = true := by simp [Hs.may, h]
theorem Hs.is_yes {i : Int} (h : S.is i = true) : ∃ k : Nat, i = k ∧ k < S.n ∧ S.O k ≠ -1 := by
  simp only [Hs.is, Bool.and_eq_true, bne_iff_ne] at h
  obtain ⟨k, rfl, hk⟩ := Hs.may_yes h.1
  exact ⟨k, rfl, hk, by simpa using h.2⟩
theorem Hs.is_at {k : Nat} (h : k < S.n) : S.is k = (S.O k != -1) := by simp [Hs.is, Hs.may_at h]
theorem Hs.is_out {i : Int} (h : S.may i = false) : S.is i = false := by simp [Hs.is, h]
theorem Hs.tick_ok (h : S.Ok) : S.tick.Ok := ⟨h.few, h.own, h.sts, by have := h.cnt; simp only [Hs.tick]; omega⟩
theorem Hs.put_ok (h : S.Ok) (k : Nat) {v : Int} (hv : -1 ≤ v ∧ v ≤ 4) : (S.put k v).Ok := ⟨h.few, fun j hj => by
  simp only [Hs.put]
  split
  · exact hv
  · exact h.own j hj, h.sts, h.cnt⟩
theorem Hs.first_ok {n : Nat} (h : n ≤ 16) : (Hs.first n).Ok := ⟨h, fun _ _ => by simp [Hs.first], by simp [Hs.first], by simp [Hs.first]⟩
theorem Hs.post_ok (h : S.Ok) (s : Int) (f : Bool) : (S.post s f).Ok := by
  cases hk : kn s
  · simpa [Hs.post, hk] using Hs.tick_ok h
  · have e := Hs.tick_ok h
    simp only [Hs.post, hk, if_true]
    exact ⟨e.few, e.own, kn_yes hk, e.cnt⟩
theorem Hs.post_ct (s : Int) (f : Bool) : (S.post s f).ct = S.ct + 1 := by cases hk : kn s <;> simp [Hs.post, hk, Hs.tick]
theorem Hs.ans_ct (i s : Int) : (S.ans i s).ct = S.ct + 1 := by simp only [Hs.ans]; split <;> simp [Hs.tick, Hs.put]
theorem Hs.join_ct (i : Int) : (S.join i).ct = S.ct + 1 := by simp only [Hs.join]; split <;> simp [Hs.tick, Hs.put]
theorem Hs.leave_ct (i : Int) : (S.leave i).ct = S.ct + 1 := by simp only [Hs.leave]; split <;> simp [Hs.tick, Hs.put]
theorem Hs.post_n (s : Int) (f : Bool) : (S.post s f).n = S.n := by cases hk : kn s <;> simp [Hs.post, hk, Hs.tick]
theorem Hs.ans_n (i s : Int) : (S.ans i s).n = S.n := by simp only [Hs.ans]; split <;> simp [Hs.tick, Hs.put]
theorem Hs.join_n (i : Int) : (S.join i).n = S.n := by simp only [Hs.join]; split <;> simp [Hs.tick, Hs.put]
theorem Hs.leave_n (i : Int) : (S.leave i).n = S.n := by simp only [Hs.leave]; split <;> simp [Hs.tick, Hs.put]
end

/-- A hand (of head type t) at block b, its threads at block g. -/
structure HTab (t : TypeId) (w : World) (b g c : Nat) (S : Hs) : Prop where
  head : Own w b t (S.head g c)
  row : ∃ f, w.rowIs g 3 c f ∧ ∀ j, j < S.n → f j = .int .i64 (S.O j)
  le : S.n ≤ c
  ok : S.Ok
  ty : t ≠ 3

section
variable {t : TypeId} {w w' : World} {b g c : Nat} {S : Hs}
theorem HTab.c0 (h : HTab t w b g c S) : w.cell? ⟨b, 0, none⟩ = some (.int .i64 S.st) := h.head.blk.at 0 rfl
theorem HTab.c1 (h : HTab t w b g c S) : w.cell? ⟨b, 1, none⟩ = some (.bool S.se) := h.head.blk.at 1 rfl
theorem HTab.c2 (h : HTab t w b g c S) : w.cell? ⟨b, 2, none⟩ = some (.slice (some ⟨g, 0, none⟩) S.n c) := h.head.blk.at 2 rfl
theorem HTab.c3 (h : HTab t w b g c S) : w.cell? ⟨b, 3, none⟩ = some (.int .i64 S.ct) := h.head.blk.at 3 rfl
theorem HTab.fz (h : HTab t w b g c S) (i : Nat) : w.frozen? ⟨b, i, none⟩ = false := h.head.blk.fz i
theorem HTab.at (h : HTab t w b g c S) {k : Nat} (hk : k < S.n) : w.cell? ⟨g, k, none⟩ = some (.int .i64 (S.O k)) := by
  obtain ⟨f, hr, hf⟩ := h.row
  have := h.le
  rw [hr.cell (by omega), hf k hk]
theorem HTab.fg (h : HTab t w b g c S) (i : Nat) : w.frozen? ⟨g, i, none⟩ = false := by
  obtain ⟨f, ⟨C, hc, _⟩, _⟩ := h.row
  simp [World.frozen?, hc]
theorem HTab.ltb (h : HTab t w b g c S) : b < w.heap.size := h.head.lt
theorem HTab.ltg (h : HTab t w b g c S) : g < w.heap.size := h.row.elim fun _ hr => hr.1.lt
theorem HTab.ne (h : HTab t w b g c S) : b ≠ g := h.row.elim fun _ hr => h.head.ne hr.1 h.ty
theorem HTab.kept (h : HTab t w b g c S) (k : Kept w w') : HTab t w' b g c S := ⟨h.head.kept k, h.row.elim fun f hr => ⟨f, k.row hr.1, hr.2⟩, h.le, h.ok, h.ty⟩
theorem HTab.muts {D : List Nat} (h : HTab t w b g c S) (m : Mut D w w') (hb : b ∉ D) (hg : g ∉ D) : HTab t w' b g c S := ⟨h.head.muts m hb, h.row.elim fun f hr => ⟨f, m.row hr.1 hg, hr.2⟩, h.le, h.ok, h.ty⟩
/-- The head turned. -/
theorem HTab.turn {i : Nat} {u : Value} {S' : Hs} (h : HTab t w b g c S) (e : (S.head g c).set i u = S'.head g c) (hn : S'.n = S.n) (hO : S'.O = S.O) (ok : S'.Ok) : HTab t (w.setCell ⟨b, i, none⟩ u) b g c S' :=
  ⟨by have := h.head.set i u; rwa [e] at this, h.row.elim fun f hr => ⟨f, (Mut.setCell (D := [b]) (Mut.refl _ _) (by simp) _).row hr.1 (by have := h.ne; simp; exact this.symm), by rw [hn, hO]; exact hr.2⟩, by rw [hn]; exact h.le, ok, h.ty⟩
theorem HTab.tick (h : HTab t w b g c S) : HTab t (w.setCell ⟨b, 3, none⟩ (.int .i64 (S.ct + 1))) b g c S.tick := h.turn rfl rfl rfl (Hs.tick_ok h.ok)
theorem HTab.put (h : HTab t w b g c S) (k : Nat) {v : Int} (hv : -1 ≤ v ∧ v ≤ 4) : HTab t (w.setCell ⟨g, k, none⟩ (.int .i64 v)) b g c (S.put k v) := by
  obtain ⟨f, hr, hf⟩ := h.row
  have hl := h.le
  refine ⟨h.head.set_other (by have := h.ne; simpa using this.symm) _, ⟨_, hr.set k _, fun j hj => ?_⟩, h.le, Hs.put_ok h.ok k hv, h.ty⟩
  simp only [Hs.put]
  by_cases hj2 : j = k
  · simp [hj2]
  · simp [hj2, hf j hj]
end

section
variable {S : Hs}
theorem Hs.own_at {k : Nat} (h : k < S.n) : S.own k = S.O k := by
  simp only [Hs.own, Hs.is_at h, Int.toNat_natCast]
  split
  · rfl
  · rename_i q
    simp at q
    exact q.symm
theorem Hs.tick_is (i : Int) : S.tick.is i = S.is i := rfl
theorem Hs.tick_own (i : Int) : S.tick.own i = S.own i := rfl
theorem Hs.own_no {i : Int} (h : S.is i = false) : S.own i = -1 := by simp [Hs.own, h]
end

abbrev HH := HTab 53

set_option maxHeartbeats 400000 in
theorem known_any (s : Int) (w : World) : Calls Try.prog 25 #[.int .i64 s] w fun e w' => e = .returned (.bool (kn s)) ∧ w' = w := by
  cases hk : kn s
  · have h1 := kn_no hk
    by_cases h0 : 0 ≤ s
    · have h2 : ¬ s ≤ 4 := fun q => h1 ⟨h0, q⟩
      clear h1 hk
      go_enter Try.func25, Try.ntmps25
      go_wp2
      go_ret
      exact ⟨rfl, rfl⟩
    · clear h1 hk
      go_enter Try.func25, Try.ntmps25
      go_wp2
      go_ret
      exact ⟨rfl, rfl⟩
  · obtain ⟨h0, h1⟩ := kn_yes hk
    clear hk
    go_enter Try.func25, Try.ntmps25
    go_wp2
    go_ret
    exact ⟨rfl, rfl⟩

set_option maxHeartbeats 400000 in
theorem may_any {b g c : Nat} {S : Hs} (i : Int) (w : World) (h : HH w b g c S) :
    Calls Try.prog 28 #[.pointer (some ⟨b, 0, none⟩), .int .i64 i] w fun e w' => e = .returned (.bool (S.may i)) ∧ w' = w := by
  have c2 := h.c2
  have few := h.ok.few
  clear h
  cases hi : S.may i
  · have h1 := Hs.may_no hi
    by_cases h0 : 0 ≤ i
    · have h2 : ¬ i < (S.n : Int) := fun q => h1 ⟨h0, q⟩
      clear h1 hi
      go_enter Try.func28, Try.ntmps28
      go_wp2
      go_ret
      exact ⟨rfl, rfl⟩
    · clear h1 hi
      go_enter Try.func28, Try.ntmps28
      go_wp2
      go_ret
      exact ⟨rfl, rfl⟩
  · obtain ⟨k, rfl, hk⟩ := Hs.may_yes hi
    clear hi
    go_enter Try.func28, Try.ntmps28
    go_wp2
    go_ret
    exact ⟨rfl, rfl⟩

set_option maxHeartbeats 400000 in
theorem there_any {b g c : Nat} {S : Hs} (i : Int) (w : World) (h : HH w b g c S) :
    Calls Try.prog 27 #[.pointer (some ⟨b, 0, none⟩), .int .i64 i] w fun e w' => e = .returned (.bool (S.is i)) ∧ w' = w := by
  have H := may_any i w h
  have c2 := h.c2
  have few := h.ok.few
  cases hi : S.may i
  · rw [Hs.is_out hi]
    rw [hi] at H
    clear h hi
    go_enter Try.func27, Try.ntmps27
    go_wp2_with fail
    refine H.mono ?_
    rintro e w' ⟨rfl, rfl⟩
    go_wp2
    go_ret
    exact ⟨rfl, rfl⟩
  · obtain ⟨k, rfl, hk⟩ := Hs.may_yes hi
    have c4 := h.at hk
    rw [Hs.is_at hk]
    rw [hi] at H
    clear h hi
    go_enter Try.func27, Try.ntmps27
    go_wp2_with fail
    refine H.mono ?_
    rintro e w' ⟨rfl, rfl⟩
    go_wp2
    go_ret
    exact ⟨rfl, rfl⟩

set_option maxHeartbeats 400000 in
theorem hown_any {b g c : Nat} {S : Hs} (i : Int) (w : World) (h : HH w b g c S) :
    Calls Try.prog 22 #[.pointer (some ⟨b, 0, none⟩), .int .i64 i] w fun e w' => e = .returned (.int .i64 (S.own i)) ∧ w' = w := by
  have H := there_any i w h
  have c2 := h.c2
  have few := h.ok.few
  cases hi : S.is i
  · simp only [Hs.own, hi, Bool.false_eq_true, if_false] at H ⊢
    clear h hi
    go_enter Try.func22, Try.ntmps22
    go_wp2_with fail
    refine H.mono ?_
    rintro e w' ⟨rfl, rfl⟩
    go_wp2
    go_ret
    exact ⟨rfl, rfl⟩
  · obtain ⟨k, rfl, hk, _⟩ := Hs.is_yes hi
    have c4 := h.at hk
    simp only [Hs.own, hi, if_true, Int.toNat_natCast] at H ⊢
    clear h hi
    go_enter Try.func22, Try.ntmps22
    go_wp2_with fail
    refine H.mono ?_
    rintro e w' ⟨rfl, rfl⟩
    go_wp2
    go_ret
    exact ⟨rfl, rfl⟩

set_option maxHeartbeats 400000 in
theorem hcount_any {b g c : Nat} {S : Hs} (w : World) (h : HH w b g c S) :
    Calls Try.prog 24 #[.pointer (some ⟨b, 0, none⟩)] w fun e w' => e = .returned (.int .i64 S.ct) ∧ w' = w := by
  have c3 := h.c3
  clear h
  go_enter Try.func24, Try.ntmps24
  go_wp2
  go_ret
  exact ⟨rfl, rfl⟩

set_option maxHeartbeats 800000 in
theorem hpost_any {b g c : Nat} {S : Hs} (s : Int) (f : Bool) (w : World) (h : HH w b g c S) (hc : S.ct < 1000000000) :
    Calls Try.prog 10 #[.pointer (some ⟨b, 0, none⟩), .int .i64 s, .bool f] w fun e w' => e = .returned (.bool (kn s)) ∧ HH w' b g c (S.post s f) ∧ Mut [b, g] w w' := by
  have H1 : Hid (HH (w.setCell ⟨b, 3, none⟩ (.int .i64 (S.ct + 1))) b g c S.tick ∧ Mut [b, g] w (w.setCell ⟨b, 3, none⟩ (.int .i64 (S.ct + 1)))) := ⟨h.tick, (Mut.refl _ _).setCell (by simp) _⟩
  have c3 := h.c3
  have cf := h.fz
  have k0 := h.ok.cnt
  have HO := Hs.post_ok h.ok s f
  clear h
  cases hk : kn s
  · have e : S.post s f = S.tick := by simp [Hs.post, hk]
    rw [e]
    clear e HO
    go_enter Try.func10, Try.ntmps10
    go_wp2_with fail
    clear c3 cf
    generalize w.setCell _ _ = w1 at *
    have K := known_any s w1
    rw [hk] at K
    clear hk
    refine K.mono ?_
    rintro e w2 ⟨rfl, rfl⟩
    go_wp2
    go_ret
    exact ⟨rfl, H1.out⟩
  · have e : S.post s f = { S.tick with st := s, se := (S.se != f) } := by simp [Hs.post, hk]
    rw [e] at HO ⊢
    have HO : Hid _ := HO
    clear e
    go_enter Try.func10, Try.ntmps10
    go_wp2_with fail
    clear c3 cf
    generalize w.setCell _ _ = w1 at *
    have K := known_any s w1
    rw [hk] at K
    clear hk
    refine K.mono ?_
    rintro e w2 ⟨rfl, rfl⟩
    have HA : Hid (HH (w2.setCell ⟨b, 0, none⟩ (.int .i64 s)) b g c { S.tick with st := s }) := H1.out.1.turn rfl rfl rfl ⟨HO.out.few, HO.out.own, HO.out.sts, HO.out.cnt⟩
    have HB : Hid (HH ((w2.setCell ⟨b, 0, none⟩ (.int .i64 s)).setCell ⟨b, 1, none⟩ (.bool (S.se != f))) b g c { S.tick with st := s, se := (S.se != f) }) := HA.out.turn rfl rfl rfl HO.out
    have cf := H1.out.1.fz
    have c0 := H1.out.1.c0
    have cg := HA.out.fz
    have c1 : (w2.setCell ⟨b, 0, none⟩ (.int .i64 s)).cell? ⟨b, 1, none⟩ = some (.bool S.se) := HA.out.c1
    go_wp2
    go_ret
    exact ⟨rfl, HB.out, (H1.out.2.setCell (by simp) _).setCell (by simp) _⟩

set_option maxHeartbeats 800000 in
theorem hlook_any {b g c : Nat} {S : Hs} (w : World) (h : HH w b g c S) (hc : S.ct < 1000000000) :
    Calls Try.prog 12 #[.pointer (some ⟨b, 0, none⟩)] w fun e w' => e = .returned (.tuple #[.int .i64 S.st, .bool S.se]) ∧ HH w' b g c S.tick ∧ Mut [b, g] w w' := by
  have H1 : Hid (HH (w.setCell ⟨b, 3, none⟩ (.int .i64 (S.ct + 1))) b g c S.tick ∧ Mut [b, g] w (w.setCell ⟨b, 3, none⟩ (.int .i64 (S.ct + 1)))) := ⟨h.tick, (Mut.refl _ _).setCell (by simp) _⟩
  have c3 := h.c3
  have cf := h.fz
  have k0 := h.ok.cnt
  clear h
  go_enter Try.func12, Try.ntmps12
  go_upto_region 2 with fail
  clear c3 cf
  generalize w.setCell _ _ = w1 at *
  have c0 : w1.cell? ⟨b, 0, none⟩ = some (.int .i64 S.st) := H1.out.1.c0
  have c1 : w1.cell? ⟨b, 1, none⟩ = some (.bool S.se) := H1.out.1.c1
  go_region
  all_goals go_wp2
  all_goals go_ret2
  all_goals exact ⟨rfl, H1.out.1.kept (Kept.refl _).drew, H1.out.2.drew⟩

set_option maxHeartbeats 800000 in
theorem hleave_any {b g c : Nat} {S : Hs} (i : Int) (w : World) (h : HH w b g c S) (hc : S.ct < 1000000000) :
    Calls Try.prog 20 #[.pointer (some ⟨b, 0, none⟩), .int .i64 i] w fun e w' => e = .returned (.bool (S.is i)) ∧ HH w' b g c (S.leave i) ∧ Mut [b, g] w w' := by
  have H1 : Hid (HH (w.setCell ⟨b, 3, none⟩ (.int .i64 (S.ct + 1))) b g c S.tick ∧ Mut [b, g] w (w.setCell ⟨b, 3, none⟩ (.int .i64 (S.ct + 1)))) := ⟨h.tick, (Mut.refl _ _).setCell (by simp) _⟩
  have c3 := h.c3
  have cf := h.fz
  have k0 := h.ok.cnt
  cases hi : S.is i
  · have e : S.leave i = S.tick := by simp [Hs.leave, hi]
    rw [e]
    clear e h
    go_enter Try.func20, Try.ntmps20
    go_wp2_with fail
    clear c3 cf
    generalize w.setCell _ _ = w1 at *
    have K := there_any i w1 H1.out.1
    rw [Hs.tick_is, hi] at K
    clear hi
    refine K.mono ?_
    rintro e w2 ⟨rfl, rfl⟩
    go_wp2
    go_ret
    exact ⟨rfl, H1.out⟩
  · obtain ⟨k, rfl, hk, ho⟩ := Hs.is_yes hi
    clear ho
    have e : S.leave k = S.tick.put k (-1) := by simp [Hs.leave, hi]
    rw [e]
    clear e h
    go_enter Try.func20, Try.ntmps20
    go_wp2_with fail
    clear c3 cf
    generalize w.setCell _ _ = w1 at *
    have K := there_any k w1 H1.out.1
    rw [Hs.tick_is, hi] at K
    clear hi
    refine K.mono ?_
    rintro e w2 ⟨rfl, rfl⟩
    have HP : Hid (HH (w2.setCell ⟨g, k, none⟩ (.int .i64 (-1))) b g c (S.tick.put k (-1))) := H1.out.1.put k (by omega)
    have c2 := H1.out.1.c2
    have few := H1.out.1.ok.few
    have c4 := H1.out.1.at hk
    have cg := H1.out.1.fg
    have nn : S.tick.n = S.n := rfl
    rw [nn] at c2 few
    clear nn
    go_wp2
    go_ret
    exact ⟨rfl, HP.out, H1.out.2.setCell (by simp) _⟩

set_option maxHeartbeats 800000 in
theorem hans_any {b g c : Nat} {S : Hs} (i s : Int) (w : World) (h : HH w b g c S) (hc : S.ct < 1000000000) :
    Calls Try.prog 14 #[.pointer (some ⟨b, 0, none⟩), .int .i64 i, .int .i64 s] w fun e w' => e = .returned (.bool (S.is i && kn s)) ∧ HH w' b g c (S.ans i s) ∧ Mut [b, g] w w' := by
  have H1 : Hid (HH (w.setCell ⟨b, 3, none⟩ (.int .i64 (S.ct + 1))) b g c S.tick ∧ Mut [b, g] w (w.setCell ⟨b, 3, none⟩ (.int .i64 (S.ct + 1)))) := ⟨h.tick, (Mut.refl _ _).setCell (by simp) _⟩
  have c3 := h.c3
  have cf := h.fz
  have k0 := h.ok.cnt
  cases hi : S.is i
  · have e : S.ans i s = S.tick := by simp [Hs.ans, hi]
    rw [e, Bool.false_and]
    clear e h
    go_enter Try.func14, Try.ntmps14
    go_wp2_with fail
    clear c3 cf
    generalize w.setCell _ _ = w1 at *
    have K := there_any i w1 H1.out.1
    rw [Hs.tick_is, hi] at K
    clear hi
    refine K.mono ?_
    rintro e w2 ⟨rfl, rfl⟩
    go_wp2
    go_ret
    exact ⟨rfl, H1.out⟩
  · obtain ⟨k, rfl, hk, ho⟩ := Hs.is_yes hi
    clear ho
    rw [Bool.true_and]
    cases hs : kn s
    · have e : S.ans k s = S.tick := by simp [Hs.ans, hs]
      rw [e]
      clear e h
      go_enter Try.func14, Try.ntmps14
      go_wp2_with fail
      clear c3 cf
      generalize w.setCell _ _ = w1 at *
      have K := there_any k w1 H1.out.1
      rw [Hs.tick_is, hi] at K
      clear hi
      refine K.mono ?_
      rintro e w2 ⟨rfl, rfl⟩
      go_wp2_with fail
      have K := known_any s w2
      rw [hs] at K
      clear hs
      refine K.mono ?_
      rintro e w3 ⟨rfl, rfl⟩
      go_wp2
      go_ret
      exact ⟨rfl, H1.out⟩
    · have e : S.ans k s = S.tick.put k s := by simp [Hs.ans, hs, hi]
      rw [e]
      clear e h
      have hv := kn_yes hs
      go_enter Try.func14, Try.ntmps14
      go_wp2_with fail
      clear c3 cf
      generalize w.setCell _ _ = w1 at *
      have K := there_any k w1 H1.out.1
      rw [Hs.tick_is, hi] at K
      clear hi
      refine K.mono ?_
      rintro e w2 ⟨rfl, rfl⟩
      go_wp2_with fail
      have K := known_any s w2
      rw [hs] at K
      clear hs
      refine K.mono ?_
      rintro e w3 ⟨rfl, rfl⟩
      have HP : Hid (HH (w3.setCell ⟨g, k, none⟩ (.int .i64 s)) b g c (S.tick.put k s)) := H1.out.1.put k (by omega)
      have c2 := H1.out.1.c2
      have few := H1.out.1.ok.few
      have c4 := H1.out.1.at hk
      have cg := H1.out.1.fg
      have nn : S.tick.n = S.n := rfl
      rw [nn] at c2 few
      clear nn
      go_wp2
      go_ret
      exact ⟨rfl, HP.out, H1.out.2.setCell (by simp) _⟩

set_option maxHeartbeats 800000 in
theorem hpoll_any {b g c : Nat} {S : Hs} (i : Int) (w : World) (h : HH w b g c S) (hc : S.ct < 1000000000) :
    Calls Try.prog 16 #[.pointer (some ⟨b, 0, none⟩), .int .i64 i] w fun e w' => e = .returned (.bool (S.poll i)) ∧ HH w' b g c (S.tick) ∧ Mut [b, g] w w' := by
  have H1 : Hid (HH (w.setCell ⟨b, 3, none⟩ (.int .i64 (S.ct + 1))) b g c S.tick ∧ Mut [b, g] w (w.setCell ⟨b, 3, none⟩ (.int .i64 (S.ct + 1)))) := ⟨h.tick, (Mut.refl _ _).setCell (by simp) _⟩
  have c3 := h.c3
  have cf := h.fz
  have k0 := h.ok.cnt
  cases hi : S.is i
  · have e : S.poll i = true := by simp [Hs.poll, hi]
    rw [e]
    clear e h
    go_enter Try.func16, Try.ntmps16
    go_upto_region 2 with fail
    clear c3 cf
    generalize w.setCell _ _ = w1 at *
    have C1 : Hid (∀ q : KW w1, _) := fun q => there_any i q.it (H1.out.1.kept q.ok)
    simp only [Hs.tick_is, hi] at C1
    clear hi
    refine wp_region_kept (by kernel_rfl) (by kernel_rfl) fun _ => ?_
    repeat (go_big_quiet_step (first | (go_at_call 27; exact kept_of_same (C1.out _))))
    refine wpQuiet_nil ?_
    rintro _ ⟨q, rfl⟩
    go_wp2
    go_ret
    exact ⟨rfl, H1.out.1.kept q.ok, H1.out.2.trans q.ok.mut⟩
  · obtain ⟨k, rfl, hk, ho⟩ := Hs.is_yes hi
    clear ho
    have e : S.poll k = (S.O k == S.st) := by simp [Hs.poll, hi]
    rw [e]
    clear e h
    go_enter Try.func16, Try.ntmps16
    go_upto_region 2 with fail
    clear c3 cf
    generalize w.setCell _ _ = w1 at *
    have C1 : Hid (∀ q : KW w1, _) := fun q => there_any k q.it (H1.out.1.kept q.ok)
    simp only [Hs.tick_is, hi] at C1
    clear hi
    have few := H1.out.1.ok.few
    have nn : S.tick.n = S.n := rfl
    rw [nn] at few
    clear nn
    have d0 : ∀ q : KW w1, q.it.cell? ⟨b, 0, none⟩ = some (.int .i64 S.st) := fun q => (H1.out.1.kept q.ok).c0
    have d2 : ∀ q : KW w1, q.it.cell? ⟨b, 2, none⟩ = some (.slice (some ⟨g, 0, none⟩) S.n c) := fun q => (H1.out.1.kept q.ok).c2
    have d4 : ∀ q : KW w1, q.it.cell? ⟨g, k, none⟩ = some (.int .i64 (S.O k)) := fun q => (H1.out.1.kept q.ok).at hk
    refine wp_region_kept (by kernel_rfl) (by kernel_rfl) fun _ => ?_
    repeat (go_big_quiet_step (first | (go_at_call 27; exact kept_of_same (C1.out _))))
    refine wpQuiet_nil ?_
    rintro _ ⟨q, rfl⟩
    go_wp2
    go_ret
    exact ⟨rfl, H1.out.1.kept q.ok, H1.out.2.trans q.ok.mut⟩

set_option maxHeartbeats 800000 in
theorem hjoin_any {b g c : Nat} {S : Hs} (i : Int) (w : World) (h : HH w b g c S) (hc : S.ct < 1000000000) :
    Calls Try.prog 18 #[.pointer (some ⟨b, 0, none⟩), .int .i64 i] w fun e w' => e = .returned (.tuple #[.int .i64 (S.jst i), .bool (S.jse i), .bool (S.can i)]) ∧ HH w' b g c (S.join i) ∧ Mut [b, g] w w' := by
  have H1 : Hid (HH (w.setCell ⟨b, 3, none⟩ (.int .i64 (S.ct + 1))) b g c S.tick ∧ Mut [b, g] w (w.setCell ⟨b, 3, none⟩ (.int .i64 (S.ct + 1)))) := ⟨h.tick, (Mut.refl _ _).setCell (by simp) _⟩
  have c3 := h.c3
  have cf := h.fz
  have k0 := h.ok.cnt
  have HV : Hid (-1 ≤ S.st ∧ S.st ≤ 4) := ⟨by have := h.ok.sts; omega, h.ok.sts.2⟩
  cases hm : S.may i
  · have hn : S.can i = false := by simp [Hs.can, hm]
    have e : S.join i = S.tick := by simp [Hs.join, hn]
    simp only [e, Hs.jst, Hs.jse, hn, Bool.false_eq_true, if_false, Bool.false_and]
    clear e hn h HV
    go_enter Try.func18, Try.ntmps18
    go_wp2_with fail
    clear c3 cf
    generalize w.setCell _ _ = w1 at *
    have K := may_any i w1 H1.out.1
    have e : S.tick.may i = S.may i := rfl
    rw [e, hm] at K
    clear e hm
    refine K.mono ?_
    rintro e w2 ⟨rfl, rfl⟩
    go_wp2
    go_ret3
    exact ⟨rfl, H1.out⟩
  · obtain ⟨k, rfl, hk⟩ := Hs.may_yes hm
    cases hi : S.is k
    · have hn : S.can k = true := by simp [Hs.can, hm, hi]
      have e : S.join k = S.tick.put k S.st := by simp [Hs.join, hn]
      simp only [e, Hs.jst, Hs.jse, hn, if_true, Bool.true_and]
      clear e hn h
      go_enter Try.func18, Try.ntmps18
      go_wp2_with fail
      clear c3 cf
      generalize w.setCell _ _ = w1 at *
      have K := may_any k w1 H1.out.1
      have e : S.tick.may k = S.may k := rfl
      rw [e, hm] at K
      clear e hm
      refine K.mono ?_
      rintro e w2 ⟨rfl, rfl⟩
      go_wp2_with fail
      have K := there_any k w2 H1.out.1
      rw [Hs.tick_is, hi] at K
      clear hi
      refine K.mono ?_
      rintro e w1 ⟨rfl, rfl⟩
      go_upto_region 4 with fail
      have c2 := H1.out.1.c2
      have c0 : w1.cell? ⟨b, 0, none⟩ = some (.int .i64 S.st) := H1.out.1.c0
      have few := H1.out.1.ok.few
      have c4 := H1.out.1.at hk
      have cg := H1.out.1.fg
      have HP : Hid (HH (w1.setCell ⟨g, k, none⟩ (.int .i64 S.st)) b g c (S.tick.put k S.st) ∧ Mut [b, g] w (w1.setCell ⟨g, k, none⟩ (.int .i64 S.st))) := ⟨H1.out.1.put k HV.out, H1.out.2.setCell (by simp) _⟩
      have nn : S.tick.n = S.n := rfl
      rw [nn] at c2 few
      clear nn
      go_region
      all_goals go_upto_region 5 with fail
      all_goals clear c0 c2 c4 cg
      all_goals generalize w1.setCell _ _ = w5 at *
      all_goals have c0 : w5.cell? ⟨b, 0, none⟩ = some (.int .i64 S.st) := HP.out.1.c0
      all_goals have c1 : w5.cell? ⟨b, 1, none⟩ = some (.bool S.se) := HP.out.1.c1
      all_goals go_region
      all_goals go_wp2
      all_goals go_ret3
      all_goals exact ⟨rfl, HP.out.1.kept (Kept.refl _).drew.drew, HP.out.2.drew.drew⟩
    · have hn : S.can k = false := by simp [Hs.can, hi]
      have e : S.join k = S.tick := by simp [Hs.join, hn]
      simp only [e, Hs.jst, Hs.jse, hn, Bool.false_eq_true, if_false, Bool.false_and]
      clear e hn h HV
      go_enter Try.func18, Try.ntmps18
      go_wp2_with fail
      clear c3 cf
      generalize w.setCell _ _ = w1 at *
      have K := may_any k w1 H1.out.1
      have e : S.tick.may k = S.may k := rfl
      rw [e, hm] at K
      clear e hm
      refine K.mono ?_
      rintro e w2 ⟨rfl, rfl⟩
      go_wp2_with fail
      have K := there_any k w2 H1.out.1
      rw [Hs.tick_is, hi] at K
      clear hi
      refine K.mono ?_
      rintro e w3 ⟨rfl, rfl⟩
      go_wp2
      go_ret3
      exact ⟨rfl, H1.out⟩
end Go.Proofs.Ytemaaefcnadmfaa
