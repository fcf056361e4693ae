/-
  Where a program stands, and how it goes on behind a fragment's slots.
-/
import Derived.Test.YtpdclckgnajcdaaGreatTrF
namespace Go.Proofs.YtpdclckgnajcdaaGreat
open Go.RowKit

/-- It knows what it looks through. -/
structure Base (x : Th) (sen : Bool) (d : Td) : Prop where
  head : d.head = x.L 0
  sen : d.sen = sen
  arr : d.arr = x.arr
  rl : d.rl = x.rl
  ln : d.ln = x.ln
  md : d.md = x.md
  wh : d.wh = x.wh
  er : d.er = 0
/-- It stands in fragment j, at slot s. -/
structure Pos (x : Th) (sen : Bool) (d : Td) (j s : Nat) : Prop where
  base : Base x sen d
  nt : d.nt = (j : Int)
  sl : d.sl = (s : Int)
  lt : j < x.l
  le : s ≤ x.N
  on : s < x.N → j ≤ x.A s
/-- What is so of the shade when j fragments are parted and s slots are gone through. -/
structure Jok (x : Th) (sen : Bool) (J : Nat → Nat → ShS → Prop) : Prop where
  part : ∀ j s S, 1 ≤ j → j < x.l → J (j - 1) s S → J j s (S.tick.mark (x.L j) sen)
  grey : ∀ j s S i, s < x.N → x.ref s = true → x.V s = some i → J j s S → J j (s + 1) (greyS S i sen)
  skip : ∀ j s S, s < x.N → (x.ref s = true → x.V s = none) → J j s S → J j (s + 1) S
structure SSl (x : Th) (sen : Bool) (J : Nat → Nat → ShS → Prop) (d : Td) (S : ShS) (j s : Nat) : Prop where
  pos : Pos x sen d j s
  st : d.st = 6
  fg : d.fg = x.L j
  nx : d.nx = x.L j * 8 + (x.B s : Int)
  lt : s < x.N
  isA : x.A s = j
  ref : x.ref s = true
  sp : d.sp = x.pre + x.fr j + x.cnt s
  J : J j s S
structure SGr (x : Th) (sen : Bool) (J : Nat → Nat → ShS → Prop) (d : Td) (S : ShS) (j s : Nat) : Prop where
  pos : Pos x sen d j s
  st : d.st = 7
  fg : d.fg = x.L j
  V : x.V s = some d.rf
  lt : s < x.N
  isA : x.A s = j
  ref : x.ref s = true
  sp : d.sp = x.pre + x.fr j + x.cnt s + 1
  J : J j s S
structure SLk (x : Th) (sen : Bool) (J : Nat → Nat → ShS → Prop) (d : Td) (S : ShS) (j s : Nat) : Prop where
  pos : Pos x sen d j s
  one : 1 ≤ j
  st : d.st = 5
  nx : d.nx = x.lk j
  md : x.md ≠ 2
  sp : d.sp = x.pre + x.fr (j - 1) + x.cnt s
  J : J (j - 1) s S
structure SPt (x : Th) (sen : Bool) (J : Nat → Nat → ShS → Prop) (d : Td) (S : ShS) (j s : Nat) : Prop where
  pos : Pos x sen d j s
  one : 1 ≤ j
  st : d.st = 8
  fg : d.fg = x.L j
  sp : d.sp + 1 = x.pre + x.fr j + x.cnt s
  J : J (j - 1) s S
structure SOv (x : Th) (J : Nat → Nat → ShS → Prop) (d : Td) (S : ShS) : Prop where
  st : d.st = 10
  er : d.er = 0
  sp : d.sp = x.all
  J : J (x.l - 1) x.N S
/-- Where it goes on behind a fragment's slots. -/
def Tl (x : Th) (sen : Bool) (J : Nat → Nat → ShS → Prop) (d : Td) (S : ShS) : Prop :=
  (∃ j s, SSl x sen J d S j s) ∨ (∃ j s, SLk x sen J d S j s) ∨ (∃ j s, SPt x sen J d S j s) ∨ SOv x J d S

section
variable {x : Th} {sen : Bool} {J : Nat → Nat → ShS → Prop} {d : Td} {S : ShS} {n0 n1 : Int}
theorem Base.okd (h : Base x sen d) (hx : ThOk n0 n1 x) : Okd d := by
  refine ⟨fun ha => ?_, fun ha => ?_⟩
  · rw [h.arr] at ha
    have := hx.obj ha
    rw [h.rl, h.ln]
    exact ⟨this.1, this.2.1⟩
  · rw [h.arr] at ha
    have := hx.row ha
    rw [h.rl, h.ln]
    exact ⟨this.1, this.2.1, this.2.2.1⟩
theorem Base.nS (h : Base x sen d) (hx : ThOk n0 n1 x) : nS d = x.N := by
  unfold Go.Proofs.YtpdclckgnajcdaaGreat.nS
  rw [h.arr, h.ln, h.rl]
  cases ha : x.arr
  · simpa using (hx.obj ha).2.2.1.symm
  · simpa using (hx.row ha).2.2.2.1.symm
theorem Base.szD (h : Base x sen d) (hx : ThOk n0 n1 x) : szD d = x.l := by
  unfold Go.Proofs.YtpdclckgnajcdaaGreat.szD
  rw [h.arr, h.ln, h.rl]
  cases ha : x.arr
  · simpa using (hx.obj ha).2.2.2.2.symm
  · simpa using (hx.row ha).2.2.2.2.symm
theorem Jok.skips (h : Jok x sen J) {j s t : Nat} (hst : s ≤ t) (hm : ∀ i, s ≤ i → i < t → i < x.N ∧ x.ref i = false) (hj : J j s S) : J j t S := by
  induction t with
  | zero => obtain rfl : s = 0 := by omega
            exact hj
  | succ t ih =>
    by_cases e : s = t + 1
    · rw [← e]; exact hj
    · have hr := hm t (by omega) (by omega)
      exact h.skip j t S hr.1 (fun q => by rw [hr.2] at q; cases q) (ih (by omega) fun i h1 h2 => hm i h1 (by omega))
theorem Th.fr_succ (x : Th) (j : Nat) (h : x.md ≠ 2) : x.fr (j + 1) = x.fr j + 2 := by
  unfold Th.fr
  rw [if_neg h, if_neg h]
  omega
theorem Th.fr_row (x : Th) (j : Nat) (h : x.md = 2) : x.fr (j + 1) = x.fr j + 1 := by
  unfold Th.fr
  rw [if_pos h, if_pos h]
end

section
variable {w0 : Bs} {p b M n sb tb q : Nat} {F : Nat → Cx} {E : En} {x : Th} {sen : Bool} {J : Nat → Nat → ShS → Prop} {d : Td} {S : ShS}
set_option maxHeartbeats 1000000 in
theorem tails_of {j s : Nat} (hx : ThOk E.n0 E.n1 x) (hn : E.n0 ≤ 1024 ∧ E.n1 ≤ 2048) (hJ : Jok x sen J) (pos : Pos x sen d j s) (hfg : d.fg = x.L j) (hsp : d.sp = x.pre + x.fr j + x.cnt s) (hj : J j s S) :
    Tails p (fun u => Al w0 u p b M n sb tb F E x.R d S q) (fun u => ∃ d', Al w0 u p b M n sb tb F E x.R d' S q ∧ d'.sp = d.sp ∧ Tl x sen J d' S) := by
  have hok := pos.base.okd hx
  have hl := hx.l_le
  have hNle := hx.N_le
  refine ⟨fun u hu => ?_⟩
  refine (tseek_is j s u hu.ts hok pos.nt pos.sl (by have := pos.le; omega)).mono ?_
  rintro e u' ⟨s', f, rfl, hs, ht, hm⟩
  rw [pos.base.arr, pos.base.nS hx] at hs ⊢
  have hA5 := hu.same hm ht rfl rfl
  have hmid : ∀ i, s ≤ i → i < s' → i < x.N ∧ x.ref i = false := fun i h1 h2 => ⟨(hs.mid i h1 h2).1, (hs.mid i h1 h2).2.2⟩
  have hcnt : x.cnt s' = x.cnt s := x.cnt_skip hs.le fun i h1 h2 => (hmid i h1 h2).2
  have hJ' : J j s' S := hJ.skips hs.le hmid hj
  have hb := pos.base
  refine ⟨_, f, rfl, fun hf => ?_, fun hf => ?_⟩
  · subst hf
    obtain ⟨h1, h2, h3⟩ := hs.yes rfl
    rw [plA_is h1] at h2
    refine ⟨x.L j, by rw [← hfg]; exact ht.b.at 19 rfl, ?_⟩
    rw [if_pos rfl, plB_is h1]
    refine (tstand_is 6 (x.L j) (x.B s') u' ht (hx.frs j pos.lt) ⟨by omega, by have := x.B_lt s'; omega⟩).mono ?_
    rintro e u2 ⟨rfl, t2, m2⟩
    exact ⟨rfl, _, hA5.same m2 t2 rfl rfl, rfl, .inl ⟨j, s', ⟨⟨hb.head, hb.sen, hb.arr, hb.rl, hb.ln, hb.md, hb.wh, hb.er⟩, pos.nt, rfl, pos.lt, by omega, fun _ => by omega⟩, rfl, hfg, rfl, h1, h2, h3, by rw [hcnt]; exact hsp, hJ'⟩⟩
  · subst hf
    have hno := hs.no rfl
    have hsN : s' ≤ x.N := by
      by_cases q : s' = s
      · rw [q]; exact pos.le
      · have := (hmid (s' - 1) (by have := hs.le; omega) (by have := hs.le; omega)).1
        omega
    have hon : s' < x.N → j + 1 ≤ x.A s' := fun h => by
      have h1 : ¬ x.A s' = j := fun q => hno ⟨h, by rw [plA_is h]; exact q⟩
      have h2 : j ≤ x.A s' := by
        by_cases q : s' = s
        · subst q; exact pos.on h
        · have h3 := hs.mid (s' - 1) (by have := hs.le; omega) (by have := hs.le; omega)
          have h4 := h3.2.1
          rw [plA_is h3.1] at h4
          have := x.A_mono (s := s' - 1) (t := s') (by omega)
          omega
      omega
    have ht2 : TS (u'.setCell ⟨p, 18, none⟩ (.int .i64 ((j : Int) + 1))) p E x.R { d with sl := (s' : Int), nt := (j : Int) + 1 } := ht.put (i := 18) rfl _ rfl rfl rfl
    have hA6 := hA5.same ((Mut.refl [p] u').setCell (by simp) _) ht2 rfl rfl
    have hb2 : Base x sen { d with sl := (s' : Int), nt := (j : Int) + 1 } := ⟨hb.head, hb.sen, hb.arr, hb.rl, hb.ln, hb.md, hb.wh, hb.er⟩
    have hok2 : Okd { d with sl := (s' : Int), nt := (j : Int) + 1 } := hb2.okd hx
    have hsz := hb2.szD hx
    have hjl := pos.lt
    refine ⟨(j : Int), by rw [← pos.nt]; exact ht.b.at 18 rfl, ht.b.fz, by omega, ?_⟩
    by_cases hlast : j + 1 = x.l
    · refine (tlead_over _ ht2 hok2 (by simp only []; omega) (by rw [hsz]; simp only []; omega)).mono ?_
      rintro e u2 ⟨rfl, t2, m2⟩
      have hs'N : s' = x.N := by
        by_cases q : s' < x.N
        · have := hon q
          have := hx.A_lt q
          omega
        · omega
      have hj1 : x.l - 1 = j := by omega
      refine ⟨rfl, _, hA6.same m2 t2 rfl rfl, rfl, .inr (.inr (.inr ⟨rfl, hb.er, ?_, ?_⟩))⟩
      · unfold Th.all
        rw [hj1, ← hs'N, hcnt]
        exact hsp
      · rw [hj1, ← hs'N]
        exact hJ'
    · have hne : ¬ ({ d with sl := (s' : Int), nt := (j : Int) + 1 } : Td).nt = Go.Proofs.YtpdclckgnajcdaaGreat.szD { d with sl := (s' : Int), nt := (j : Int) + 1 } := by rw [hsz]; simp only []; omega
      have hj1 : j + 1 - 1 = j := by omega
      have hP : ∀ d' : Td, Base x sen d' → d'.nt = (j : Int) + 1 → d'.sl = (s' : Int) → Pos x sen d' (j + 1) s' := fun d' h1 h2 h3 => ⟨h1, by omega, h3, by omega, hsN, hon⟩
      have hfr := hx.frs j pos.lt
      have hfr0 := hx.frs 0 (by omega)
      cases ha : x.arr
      · refine (tlead_obj _ ht2 hok2 (by simp only []; omega) hne (hb.arr.trans ha) (by simp only []; rw [hfg]; exact hfr)).mono ?_
        rintro e u2 ⟨rfl, t2, m2⟩
        have hmd := (hx.obj ha).2.2.2.1
        refine ⟨rfl, _, hA6.same m2 t2 rfl rfl, rfl, .inr (.inl ⟨j + 1, s', hP _ ⟨hb.head, hb.sen, hb.arr, hb.rl, hb.ln, hb.md, hb.wh, hb.er⟩ rfl rfl, by omega, rfl, ?_, by omega, by rw [hj1, hcnt]; exact hsp, by rw [hj1]; exact hJ'⟩)⟩
        simp only [Th.lk, ha, if_true, hj1, hfg]
      · have hrow := hx.row ha
        have hln : 0 < x.ln := by
          by_cases q : 0 < x.ln
          · exact q
          · have : dat x.ln = 0 := by unfold dat; rw [if_pos (by omega)]
            omega
        have hdt : dat x.ln ≤ 64 := dat_hi x.ln
        rcases (by have := hx.md; omega : x.md = 0 ∨ x.md = 1 ∨ x.md = 2) with hmd | hmd | hmd
        · have h4 := (hx.m0 ha hln).2 hmd
          refine (tlead_in _ ht2 hok2 (by simp only []; omega) hne (hb.arr.trans ha) (hb.md.trans hmd) (by simp only []; rw [hb.head]; exact hfr0) (by simp only []; omega)).mono ?_
          rintro e u2 ⟨rfl, t2, m2⟩
          refine ⟨rfl, _, hA6.same m2 t2 rfl rfl, rfl, .inr (.inl ⟨j + 1, s', hP _ ⟨hb.head, hb.sen, hb.arr, hb.rl, hb.ln, hb.md, hb.wh, hb.er⟩ rfl rfl, by omega, rfl, ?_, by omega, by rw [hj1, hcnt]; exact hsp, by rw [hj1]; exact hJ'⟩)⟩
          simp only [Th.lk, ha, hmd, if_true, hb.head, Bool.true_eq_false, if_false]
          omega
        · have hw := hx.sp hmd
          refine (tlead_sp _ ht2 hok2 (by simp only []; omega) hne (hb.arr.trans ha) (hb.md.trans hmd) (by simp only []; rw [hb.wh]; omega)).mono ?_
          rintro e u2 ⟨rfl, t2, m2⟩
          refine ⟨rfl, _, hA6.same m2 t2 rfl rfl, rfl, .inr (.inl ⟨j + 1, s', hP _ ⟨hb.head, hb.sen, hb.arr, hb.rl, hb.ln, hb.md, hb.wh, hb.er⟩ rfl rfl, by omega, rfl, ?_, by omega, by rw [hj1, hcnt]; exact hsp, by rw [hj1]; exact hJ'⟩)⟩
          have : ¬ x.md = 0 := by omega
          simp only [Th.lk, ha, this, hb.wh, Bool.true_eq_false, if_false]
          omega
        · have hw := hx.rw hmd
          have hf1 := hx.frs 1 (by omega)
          refine (tlead_row _ ht2 hok2 (by simp only []; omega) hne (hb.arr.trans ha) (hb.md.trans hmd) (by simp only []; rw [hb.wh, hw.1]; omega)).mono ?_
          rintro e u2 ⟨rfl, t2, m2⟩
          refine ⟨rfl, _, hA6.same m2 t2 rfl rfl, rfl, .inr (.inr (.inl ⟨j + 1, s', hP _ ⟨hb.head, hb.sen, hb.arr, hb.rl, hb.ln, hb.md, hb.wh, hb.er⟩ rfl rfl, by omega, rfl, ?_, ?_, by rw [hj1]; exact hJ'⟩))⟩
          · have := hw.2.2 (j + 1) (by omega) (by omega)
            simp only [hb.wh, hw.1, this]
            omega
          · rw [hcnt, x.fr_row j hmd]
            simp only []
            omega
end
end Go.Proofs.YtpdclckgnajcdaaGreat
