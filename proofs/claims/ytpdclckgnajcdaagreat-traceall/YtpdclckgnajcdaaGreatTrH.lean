/-
  Each step of a program: from where it stands to where it stands next.
-/
import Derived.Test.YtpdclckgnajcdaaGreatTrG
namespace Go.Proofs.YtpdclckgnajcdaaGreat
open Go.RowKit

/-- It reads a word that tells what it looks through. -/
structure SOp (x : Th) (sen : Bool) (J : Nat → Nat → ShS → Prop) (d : Td) (S : ShS) (st k : Int) (a : Bool) (rl : Nat) (ln md : Int) (sp : Nat) : Prop where
  head : d.head = x.L 0
  sen : d.sen = sen
  er : d.er = 0
  wh : d.wh = 0
  nt : d.nt = 0
  fg : d.fg = x.L 0
  sl : d.sl = 0
  st : d.st = st
  nx : d.nx = x.L 0 * 8 + k
  arr : d.arr = a
  rl : d.rl = rl
  ln : d.ln = ln
  md : d.md = md
  sp : d.sp = sp
  J : J 0 0 S
/-- Where it stands. -/
def Sits (x : Th) (sen : Bool) (J : Nat → Nat → ShS → Prop) (d : Td) (S : ShS) : Prop :=
  SOp x sen J d S 1 1 false 0 0 0 0 ∨ (x.arr = true ∧ SOp x sen J d S 2 2 true x.rl 0 0 1) ∨ (x.arr = true ∧ 0 < x.ln ∧ SOp x sen J d S 3 3 true x.rl x.ln 0 2) ∨
    (x.arr = true ∧ 0 < x.ln ∧ x.md ≠ 0 ∧ SOp x sen J d S 4 4 true x.rl x.ln x.md 3) ∨ (∃ j s, SGr x sen J d S j s) ∨ Tl x sen J d S

section
variable {x : Th} {n0 n1 : Int}
theorem Th.cnt_mono (x : Th) {s t : Nat} (h : s ≤ t) : x.cnt s ≤ x.cnt t := by
  induction t with
  | zero => obtain rfl : s = 0 := by omega
            exact Nat.le_refl _
  | succ t ih =>
    by_cases e : s = t + 1
    · rw [e]; exact Nat.le_refl _
    · have := ih (by omega)
      simp only [Th.cnt]
      omega
theorem Th.fr_mono (x : Th) {i j : Nat} (h : i ≤ j) : x.fr i ≤ x.fr j := by
  unfold Th.fr
  split <;> omega
theorem Th.pre_lo (x : Th) : 1 ≤ x.pre ∧ (x.arr = true → 2 ≤ x.pre) ∧ (x.arr = true → 0 < x.ln → 3 ≤ x.pre) ∧ (x.arr = true → 0 < x.ln → x.md ≠ 0 → 4 ≤ x.pre) := by
  unfold Th.pre
  split
  · split
    · exact ⟨by omega, by omega, by omega, by omega⟩
    · split
      · exact ⟨by omega, by omega, by omega, by omega⟩
      · exact ⟨by omega, by omega, by omega, by omega⟩
  · rename_i h
    exact ⟨by omega, fun q => absurd q h, fun q => absurd q h, fun q => absurd q h⟩
theorem Sits.all {sen : Bool} {J : Nat → Nat → ShS → Prop} {d : Td} {S : ShS} (h : Sits x sen J d S) : (d.st == 10) = decide (d.sp = x.all) ∧ d.sp ≤ x.all ∧ (d.st == 10 → d.er = 0 ∧ J (x.l - 1) x.N S) := by
  have hp := x.pre_lo
  have key : ∀ st : Int, d.st = st → (st == 10) = false → d.sp < x.all → (d.st == 10) = decide (d.sp = x.all) ∧ d.sp ≤ x.all ∧ (d.st == 10 → d.er = 0 ∧ J (x.l - 1) x.N S) := fun st h1 h2 h3 => by
    rw [h1, h2]
    exact ⟨by simp; omega, by omega, fun q => by cases q⟩
  rcases h with h | ⟨ha, h⟩ | ⟨ha, hl, h⟩ | ⟨ha, hl, hm, h⟩ | ⟨j, s, h⟩ | ⟨j, s, h⟩ | ⟨j, s, h⟩ | ⟨j, s, h⟩ | h
  · exact key 1 h.st rfl (by rw [h.sp]; unfold Th.all; omega)
  · exact key 2 h.st rfl (by rw [h.sp]; unfold Th.all; have := hp.2.1 ha; omega)
  · exact key 3 h.st rfl (by rw [h.sp]; unfold Th.all; have := hp.2.2.1 ha hl; omega)
  · exact key 4 h.st rfl (by rw [h.sp]; unfold Th.all; have := hp.2.2.2 ha hl hm; omega)
  · have h1 : x.one s = 2 := by simp [Th.one, h.ref, h.V]
    have h2 := x.cnt_mono (s := s + 1) (t := x.N) h.lt
    simp only [Th.cnt] at h2
    have h3 := x.fr_mono (i := j) (j := x.l - 1) (by have := h.pos.lt; omega)
    exact key 7 h.st rfl (by rw [h.sp]; unfold Th.all; omega)
  · have h1 : 1 ≤ x.one s := by unfold Th.one; rw [if_pos h.ref]; split <;> omega
    have h2 := x.cnt_mono (s := s + 1) (t := x.N) h.lt
    simp only [Th.cnt] at h2
    have h3 := x.fr_mono (i := j) (j := x.l - 1) (by have := h.pos.lt; omega)
    exact key 6 h.st rfl (by rw [h.sp]; unfold Th.all; omega)
  · have h2 := x.cnt_mono h.pos.le
    have h3 := x.fr_mono (i := j) (j := x.l - 1) (by have := h.pos.lt; omega)
    have h4 := x.fr_succ (j - 1) h.md
    have h5 := h.one
    rw [show j - 1 + 1 = j by omega] at h4
    exact key 5 h.st rfl (by rw [h.sp]; unfold Th.all; omega)
  · have h2 := x.cnt_mono h.pos.le
    have h3 := x.fr_mono (i := j) (j := x.l - 1) (by have := h.pos.lt; omega)
    have h4 := h.sp
    exact key 8 h.st rfl (by unfold Th.all; omega)
  · rw [h.st, h.sp]
    exact ⟨by simp, Nat.le_refl _, fun _ => ⟨h.er, h.J⟩⟩
end

theorem tails_ex {α : Sort _} {p : Nat} {B : α → World → Prop} {C : World → Prop} (h : ∀ a, Tails p (B a) C) : Tails p (fun u => ∃ a, B a u) C := ⟨fun u ⟨a, hb⟩ => (h a).seek u hb⟩
theorem grey_c (S : ShS) (i : Int) (s : Bool) : (greyS S i s).c = S.c + 1 := by
  unfold greyS layS
  split <;> rfl

section
variable {w0 : Bs} {p b M n sb tb q : Nat} {F : Nat → Cx} {E : En} {x : Th} {sen : Bool} {J : Nat → Nat → ShS → Prop} {d : Td} {S : ShS}

theorem Al.acc {u : World} {R : Nat → Bool} {z : Cx} {a : Nat} {st : Int} (h : Al w0 u p b M n sb tb F E R d S q) (hst : d.st = st) (h0 : (st == 0) = false ∧ (st == 7) = false ∧ (st == 8) = false) (hx : d.nx = a) (ha : a < n) (hz : F a = z) (hq : q ≤ 1000000) :
    Calls Tryz.prog 70 #[.pointer (some ⟨p, 0, none⟩), .pointer (some ⟨M, 0, none⟩), .pointer (some ⟨sb, 0, none⟩)] u fun e w1 => e = .returned (.tuple #[.complex .f64 z.re z.im, .bool true]) ∧ Al w0 w1 p b M n sb tb F E R d S (q + 1) := by
  refine (tread_is a u h.ts (by rw [hst]; exact h0.1) (by rw [hst]; exact h0.2.1) (by rw [hst]; exact h0.2.2) hx h.mm ha hq).mono ?_
  rintro e w1 ⟨rfl, hm, m⟩
  rw [hz]
  exact ⟨rfl, h.read hm m⟩

/-- What is so behind a step. -/
def Nx (w0 : Bs) (p b M n sb tb : Nat) (F : Nat → Cx) (E : En) (x : Th) (sen : Bool) (J : Nat → Nat → ShS → Prop) (t q c : Nat) (u : World) : Prop :=
  ∃ d S q', Al w0 u p b M n sb tb F E x.R d S q' ∧ d.sp = t ∧ q' ≤ q ∧ S.c ≤ c ∧ Sits x sen J d S

theorem Al.bump {u : World} {R : Nat → Bool} (h : Al w0 u p b M n sb tb F E R d S q) : Al w0 (u.setCell ⟨p, 23, none⟩ (.int .i64 ((d.sp : Int) + 1))) p b M n sb tb F E R { d with sp := d.sp + 1 } S q :=
  h.same ((Mut.refl _ _).setCell (by simp) _) (h.ts.put (i := 23) rfl _ rfl rfl rfl) rfl rfl

set_option maxHeartbeats 1000000 in
theorem tstep_is {R : Nat → Bool} {C : World → Prop} {D : Bool → World → Prop} (w : World) (h : Al w0 w p b M n sb tb F E R d S q) (h10 : (d.st == 10) = false) (hsp : d.sp ≤ 100000)
    (hG : ∀ u, Al w0 u p b M n sb tb F E R { d with sp := d.sp + 1 } S q → Calls Tryz.prog 50 #[.pointer (some ⟨p, 0, none⟩), .pointer (some ⟨M, 0, none⟩), .pointer (some ⟨sb, 0, none⟩)] u fun e u' => e = .returned (.tuple #[]) ∧ C u')
    (hC : ∀ u, C u → ∃ r R' d', TS u p E R' d' ∧ (d'.st == 10) = r ∧ D r u) :
    Calls Tryz.prog 22 #[.pointer (some ⟨p, 0, none⟩), .pointer (some ⟨M, 0, none⟩), .pointer (some ⟨sb, 0, none⟩)] w fun e w' => ∃ r, e = .returned (.bool r) ∧ D r w' := by
  have C0 : Hid (Calls Tryz.prog 21 #[.pointer (some ⟨p, 0, none⟩)] w _) := tdone_is false w h.ts h10
  have C1 : Hid (Calls Tryz.prog 50 #[.pointer (some ⟨p, 0, none⟩), .pointer (some ⟨M, 0, none⟩), .pointer (some ⟨sb, 0, none⟩)] (w.setCell ⟨p, 23, none⟩ (.int .i64 ((d.sp : Int) + 1))) _) := hG _ h.bump
  have HC : Hid (∀ u, C u → ∃ r R' d', TS u p E R' d' ∧ (d'.st == 10) = r ∧ D r u) := hC
  have c23 := h.ts.b.at 23 rfl
  have fz := h.ts.b.fz
  clear h hG hC h10
  go_enter Tryz.func22, Tryz.ntmps22
  go_wp2_with fail
  refine C0.out.mono ?_
  rintro e w1 ⟨rfl, rfl⟩
  go_wp2_with fail
  refine C1.out.mono ?_
  rintro e w2 ⟨rfl, HC2⟩
  clear C0 C1 c23 fz
  obtain ⟨r, R', d', ht, hr, hD⟩ := HC.out _ HC2
  have C3 : Hid (Calls Tryz.prog 21 #[.pointer (some ⟨p, 0, none⟩)] w2 _) := tdone_is r w2 ht hr
  have HD : Hid (D r w2) := hD
  clear ht hr hD HC2
  go_wp2_with fail
  refine C3.out.mono ?_
  rintro e w3 ⟨rfl, rfl⟩
  go_wp2
  go_ret
  exact ⟨r, rfl, HD.out⟩
end
end Go.Proofs.YtpdclckgnajcdaaGreat
