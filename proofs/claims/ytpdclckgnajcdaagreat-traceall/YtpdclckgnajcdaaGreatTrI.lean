/-
  Each step of a program: one theorem for each place where it stands.
-/
import Derived.Test.YtpdclckgnajcdaaGreatTrH
namespace Go.Proofs.YtpdclckgnajcdaaGreat
open Go.RowKit

/-- A thing that lies in memory as the configuration has it. -/
structure Env (E : En) (n : Nat) (F : Nat → Cx) (k : Nat) (hm : Int) (x : Th) : Prop where
  ok : ThOk E.n0 E.n1 x
  inn : ThIn n F k hm x
  lt : k < E.sl
  arr : (E.S k).arr = x.arr
  rl : (E.S k).l = x.rl
  R : E.R k = x.R
  m01 : 0 ≤ hm ∧ hm ≤ 1
  hm0 : x.arr = true → hm = 0
  few : E.n0 ≤ 1024 ∧ E.n1 ≤ 2048

theorem foot_new {p : Nat} {E : En} {d d' : Td} {g : Nat} (h : d'.rx = some ⟨g, 0, none⟩) {i : Nat} (hi : foot p E d' i) : foot p E d i ∨ i = g := by
  rcases hi with r | r | r | ⟨_, o, e⟩
  · exact .inl (.inl r)
  · exact .inl (.inr (.inl r))
  · exact .inl (.inr (.inr (.inl r)))
  · rw [h] at e
    obtain ⟨rfl, rfl⟩ : g = i ∧ 0 = o := by simpa using e
    exact .inr rfl

section
variable {w0 : Bs} {p b M n sb tb q k : Nat} {hm : Int} {F : Nat → Cx} {E : En} {x : Th} {sen : Bool} {J : Nat → Nat → ShS → Prop} {d : Td} {S : ShS}

/-- Behind a fragment's slots. -/
theorem nx_of {u : World} {t : Nat} (h : ∃ d', Al w0 u p b M n sb tb F E x.R d' S q ∧ d'.sp = t ∧ Tl x sen J d' S) {c : Nat} (hc : S.c ≤ c) : Nx w0 p b M n sb tb F E x sen J t q c u := by
  obtain ⟨d', h1, h2, h3⟩ := h
  exact ⟨d', S, q, h1, h2, Nat.le_refl _, hc, .inr (.inr (.inr (.inr (.inr h3))))⟩

set_option maxHeartbeats 1000000 in
theorem go_H_obj (he : Env E n F k hm x) (hJ : Jok x sen J) (hs : SOp x sen J d S 1 1 false 0 0 0 0) (ha : x.arr = false) (u : World) (h : Al w0 u p b M n sb tb F E x.R { d with sp := d.sp + 1 } S q) (hq : q ≤ 100000) :
    Calls Tryz.prog 50 #[.pointer (some ⟨p, 0, none⟩), .pointer (some ⟨M, 0, none⟩), .pointer (some ⟨sb, 0, none⟩)] u fun e u' => e = .returned (.tuple #[]) ∧ Nx w0 p b M n sb tb F E x sen J (d.sp + 1) (q + 1) (S.c + 1) u' := by
  obtain ⟨a, han, hxa, hz⟩ := he.inn.hd
  obtain ⟨o1, o2, o3, o4, o5⟩ := he.ok.obj ha
  refine (tgo_within (A := fun v => Al w0 v p b M n sb tb F E x.R { d with sp := d.sp + 1 } S (q + 1)) (B := fun v => ∃ g, Al w0 v p b M n sb tb F E x.R { d with sp := d.sp + 1, arr := false, rx := some ⟨g, 0, none⟩, rl := x.rl, st := 9 } S (q + 1)) (C := fun v => ∃ d', Al w0 v p b M n sb tb F E x.R d' S (q + 1) ∧ d'.sp = d.sp + 1 ∧ Tl x sen J d' S)
    (ch k hm) 1 u (h.acc hs.st ⟨rfl, rfl, rfl⟩ (hs.nx.trans hxa) han hz (by omega)) (fun v hv => by rw [← hs.st]; exact hv.ts.b.at 16 rfl) ⟨rfl, rfl, rfl, rfl⟩ (fun v hv => ?_) (fun v hv => hv.elim fun g hg => hg.ts.b.at 16 rfl) (tails_ex fun g => ?_)).mono ?_
  · refine (topen_1 v hv.ts hs.st (thead_obj v hv.ts k hm he.lt he.m01 (he.arr.trans ha))).mono ?_
    rintro e v' ⟨rfl, g, hg, ht, hm'⟩
    rw [he.R, he.rl] at ht
    refine ⟨rfl, g, hv.next hm' ht fun i hi => ?_⟩
    rcases foot_new (d := { d with sp := d.sp + 1 }) rfl hi with r | r
    · exact .inl r
    · exact .inr (by omega)
  · exact tails_of he.ok he.few hJ ⟨⟨hs.head, hs.sen, ha.symm, rfl, by simp only []; rw [hs.ln, o2], by simp only []; rw [hs.md, o4], by simp only []; rw [hs.wh, he.ok.i0 o4], hs.er⟩, by simp only []; rw [hs.nt]; rfl, by simp only []; rw [hs.sl]; rfl, by have := he.ok.l_le; omega, Nat.zero_le _, fun _ => Nat.zero_le _⟩ hs.fg (by simp [hs.sp, Th.pre, ha, Th.fr, o4, Th.cnt]) hs.J
  · rintro e u' ⟨rfl, hN⟩
    exact ⟨rfl, nx_of hN (by omega)⟩

set_option maxHeartbeats 1000000 in
theorem go_H_arr (he : Env E n F k hm x) (hs : SOp x sen J d S 1 1 false 0 0 0 0) (ha : x.arr = true) (u : World) (h : Al w0 u p b M n sb tb F E x.R { d with sp := d.sp + 1 } S q) (hq : q ≤ 100000) :
    Calls Tryz.prog 50 #[.pointer (some ⟨p, 0, none⟩), .pointer (some ⟨M, 0, none⟩), .pointer (some ⟨sb, 0, none⟩)] u fun e u' => e = .returned (.tuple #[]) ∧ Nx w0 p b M n sb tb F E x sen J (d.sp + 1) (q + 1) (S.c + 1) u' := by
  obtain ⟨a, han, hxa, hz⟩ := he.inn.hd
  refine (tgo_open (A := fun v => Al w0 v p b M n sb tb F E x.R { d with sp := d.sp + 1 } S (q + 1)) (B := fun v => ∃ g, Al w0 v p b M n sb tb F E x.R { d with sp := d.sp + 1, arr := true, rx := some ⟨g, 0, none⟩, rl := x.rl, st := 2, nx := d.head * 8 + 2 } S (q + 1))
    (ch k hm) 1 u (h.acc hs.st ⟨rfl, rfl, rfl⟩ (hs.nx.trans hxa) han hz (by omega)) (fun v hv => by rw [← hs.st]; exact hv.ts.b.at 16 rfl) ⟨rfl, rfl, rfl, rfl⟩ (fun v hv => ?_) (fun v hv => hv.elim fun g hg => ⟨2, hg.ts.b.at 16 rfl, rfl⟩)).mono ?_
  · refine (topen_1 v hv.ts hs.st (thead_arr v hv.ts k hm he.lt (he.hm0 ha) (he.arr.trans ha) (by simp only []; rw [hs.head]; exact he.ok.frs 0 (by have := he.ok.l_le; omega)))).mono ?_
    rintro e v' ⟨rfl, g, hg, ht, hm'⟩
    rw [he.R, he.rl] at ht
    refine ⟨rfl, g, hv.next hm' ht fun i hi => ?_⟩
    rcases foot_new (d := { d with sp := d.sp + 1 }) rfl hi with r | r
    · exact .inl r
    · exact .inr (by omega)
  · rintro e u' ⟨rfl, g, hA⟩
    exact ⟨rfl, _, S, q + 1, hA, rfl, Nat.le_refl _, by omega, .inr (.inl ⟨ha, hs.head, hs.sen, hs.er, hs.wh, hs.nt, hs.fg, hs.sl, rfl, by simp only []; rw [hs.head], rfl, rfl, hs.ln, hs.md, by simp [hs.sp], hs.J⟩)⟩

set_option maxHeartbeats 1000000 in
theorem go_Ln (he : Env E n F k hm x) (hJ : Jok x sen J) (ha : x.arr = true) (hs : SOp x sen J d S 2 2 true x.rl 0 0 1) (u : World) (h : Al w0 u p b M n sb tb F E x.R { d with sp := d.sp + 1 } S q) (hq : q ≤ 100000) :
    Calls Tryz.prog 50 #[.pointer (some ⟨p, 0, none⟩), .pointer (some ⟨M, 0, none⟩), .pointer (some ⟨sb, 0, none⟩)] u fun e u' => e = .returned (.tuple #[]) ∧ Nx w0 p b M n sb tb F E x sen J (d.sp + 1) (q + 1) (S.c + 1) u' := by
  obtain ⟨a, han, hxa, hz⟩ := he.inn.ln ha
  obtain ⟨o1, o2, o3, o4, o5⟩ := he.ok.row ha
  have hf : 0 ≤ d.head ∧ d.head < E.n0 := by rw [hs.head]; exact he.ok.frs 0 (by have := he.ok.l_le; omega)
  by_cases h0 : x.ln = 0
  · have hmd := he.ok.z0 ha h0
    rw [h0] at hz
    refine (tgo_within (A := fun v => Al w0 v p b M n sb tb F E x.R { d with sp := d.sp + 1 } S (q + 1)) (B := fun v => Al w0 v p b M n sb tb F E x.R { d with sp := d.sp + 1, ln := 0, st := 9 } S (q + 1)) (C := fun v => ∃ d', Al w0 v p b M n sb tb F E x.R d' S (q + 1) ∧ d'.sp = d.sp + 1 ∧ Tl x sen J d' S)
      (cw 0) 2 u (h.acc hs.st ⟨rfl, rfl, rfl⟩ (hs.nx.trans hxa) han hz (by omega)) (fun v hv => by rw [← hs.st]; exact hv.ts.b.at 16 rfl) ⟨rfl, rfl, rfl, rfl⟩ (fun v hv => ?_) (fun v hv => hv.ts.b.at 16 rfl) ?_).mono ?_
    · refine (topen_2 v hv.ts hs.st (tlen_nil v hv.ts)).mono ?_
      rintro e v' ⟨rfl, ht, hm'⟩
      exact ⟨rfl, hv.same hm' ht rfl rfl⟩
    · exact tails_of he.ok he.few hJ ⟨⟨hs.head, hs.sen, hs.arr.trans ha.symm, hs.rl, h0.symm, by simp only []; rw [hs.md, hmd], by simp only []; rw [hs.wh, he.ok.i0 hmd], hs.er⟩, by simp only []; rw [hs.nt]; rfl, by simp only []; rw [hs.sl]; rfl, by have := he.ok.l_le; omega, Nat.zero_le _, fun _ => Nat.zero_le _⟩ hs.fg (by simp [hs.sp, Th.pre, ha, h0, Th.fr, hmd, Th.cnt]) hs.J
    · rintro e u' ⟨rfl, hN⟩
      exact ⟨rfl, nx_of hN (by omega)⟩
  · refine (tgo_open (A := fun v => Al w0 v p b M n sb tb F E x.R { d with sp := d.sp + 1 } S (q + 1)) (B := fun v => Al w0 v p b M n sb tb F E x.R { d with sp := d.sp + 1, ln := x.ln, st := 3, nx := d.head * 8 + 3 } S (q + 1))
      (cw x.ln) 2 u (h.acc hs.st ⟨rfl, rfl, rfl⟩ (hs.nx.trans hxa) han hz (by omega)) (fun v hv => by rw [← hs.st]; exact hv.ts.b.at 16 rfl) ⟨rfl, rfl, rfl, rfl⟩ (fun v hv => ?_) (fun v hv => ⟨3, hv.ts.b.at 16 rfl, rfl⟩)).mono ?_
    · refine (topen_2 v hv.ts hs.st (tlen_pos v hv.ts x.ln ⟨by omega, o3⟩ hf)).mono ?_
      rintro e v' ⟨rfl, ht, hm'⟩
      exact ⟨rfl, hv.same hm' ht rfl rfl⟩
    · rintro e u' ⟨rfl, hA⟩
      exact ⟨rfl, _, S, q + 1, hA, rfl, Nat.le_refl _, by omega, .inr (.inr (.inl ⟨ha, by omega, hs.head, hs.sen, hs.er, hs.wh, hs.nt, hs.fg, hs.sl, rfl, by simp only []; rw [hs.head], hs.arr, hs.rl, rfl, hs.md, by simp [hs.sp], hs.J⟩))⟩

set_option maxHeartbeats 1000000 in
theorem go_Md (he : Env E n F k hm x) (hJ : Jok x sen J) (ha : x.arr = true) (hl : 0 < x.ln) (hs : SOp x sen J d S 3 3 true x.rl x.ln 0 2) (u : World) (h : Al w0 u p b M n sb tb F E x.R { d with sp := d.sp + 1 } S q) (hq : q ≤ 100000) :
    Calls Tryz.prog 50 #[.pointer (some ⟨p, 0, none⟩), .pointer (some ⟨M, 0, none⟩), .pointer (some ⟨sb, 0, none⟩)] u fun e u' => e = .returned (.tuple #[]) ∧ Nx w0 p b M n sb tb F E x sen J (d.sp + 1) (q + 1) (S.c + 1) u' := by
  obtain ⟨a, han, hxa, hz⟩ := he.inn.md ha hl
  obtain ⟨o1, o2, o3, o4, o5⟩ := he.ok.row ha
  have hf : 0 ≤ d.head ∧ d.head < E.n0 := by rw [hs.head]; exact he.ok.frs 0 (by have := he.ok.l_le; omega)
  have hm0 := he.ok.m0 ha hl
  have hmd2 := he.ok.md
  by_cases h0 : x.md = 0
  · rw [h0] at hz
    refine (tgo_within (A := fun v => Al w0 v p b M n sb tb F E x.R { d with sp := d.sp + 1 } S (q + 1)) (B := fun v => Al w0 v p b M n sb tb F E x.R { d with sp := d.sp + 1, md := 0, st := 9 } S (q + 1)) (C := fun v => ∃ d', Al w0 v p b M n sb tb F E x.R d' S (q + 1) ∧ d'.sp = d.sp + 1 ∧ Tl x sen J d' S)
      (cw 0) 3 u (h.acc hs.st ⟨rfl, rfl, rfl⟩ (hs.nx.trans hxa) han hz (by omega)) (fun v hv => by rw [← hs.st]; exact hv.ts.b.at 16 rfl) ⟨rfl, rfl, rfl, rfl⟩ (fun v hv => ?_) (fun v hv => hv.ts.b.at 16 rfl) ?_).mono ?_
    · refine (topen_3 v hv.ts hs.st (tmode_in v hv.ts (by simp only []; rw [hs.ln]; exact hm0.2 h0))).mono ?_
      rintro e v' ⟨rfl, ht, hm'⟩
      exact ⟨rfl, hv.same hm' ht rfl rfl⟩
    · exact tails_of he.ok he.few hJ ⟨⟨hs.head, hs.sen, hs.arr.trans ha.symm, hs.rl, hs.ln, h0.symm, by simp only []; rw [hs.wh, he.ok.i0 h0], hs.er⟩, by simp only []; rw [hs.nt]; rfl, by simp only []; rw [hs.sl]; rfl, by have := he.ok.l_le; omega, Nat.zero_le _, fun _ => Nat.zero_le _⟩ hs.fg (by
        have : ¬ x.ln = 0 := by omega
        simp [hs.sp, Th.pre, ha, h0, this, Th.fr, Th.cnt]) hs.J
    · rintro e u' ⟨rfl, hN⟩
      exact ⟨rfl, nx_of hN (by omega)⟩
  · refine (tgo_open (A := fun v => Al w0 v p b M n sb tb F E x.R { d with sp := d.sp + 1 } S (q + 1)) (B := fun v => Al w0 v p b M n sb tb F E x.R { d with sp := d.sp + 1, md := x.md, st := 4, nx := d.head * 8 + 4 } S (q + 1))
      (cw x.md) 3 u (h.acc hs.st ⟨rfl, rfl, rfl⟩ (hs.nx.trans hxa) han hz (by omega)) (fun v hv => by rw [← hs.st]; exact hv.ts.b.at 16 rfl) ⟨rfl, rfl, rfl, rfl⟩ (fun v hv => ?_) (fun v hv => ⟨4, hv.ts.b.at 16 rfl, rfl⟩)).mono ?_
    · refine (topen_3 v hv.ts hs.st (tmode_far v hv.ts x.md ⟨by omega, by omega⟩ (by simp only []; rw [hs.ln]; exact fun r => h0 (hm0.1 r)) hf)).mono ?_
      rintro e v' ⟨rfl, ht, hm'⟩
      exact ⟨rfl, hv.same hm' ht rfl rfl⟩
    · rintro e u' ⟨rfl, hA⟩
      exact ⟨rfl, _, S, q + 1, hA, rfl, Nat.le_refl _, by omega, .inr (.inr (.inr (.inl ⟨ha, hl, h0, hs.head, hs.sen, hs.er, hs.wh, hs.nt, hs.fg, hs.sl, rfl, by simp only []; rw [hs.head], hs.arr, hs.rl, hs.ln, rfl, by simp [hs.sp], hs.J⟩)))⟩

set_option maxHeartbeats 1000000 in
theorem go_Wh (he : Env E n F k hm x) (hJ : Jok x sen J) (ha : x.arr = true) (hl : 0 < x.ln) (h0 : x.md ≠ 0) (hs : SOp x sen J d S 4 4 true x.rl x.ln x.md 3) (u : World) (h : Al w0 u p b M n sb tb F E x.R { d with sp := d.sp + 1 } S q) (hq : q ≤ 100000) :
    Calls Tryz.prog 50 #[.pointer (some ⟨p, 0, none⟩), .pointer (some ⟨M, 0, none⟩), .pointer (some ⟨sb, 0, none⟩)] u fun e u' => e = .returned (.tuple #[]) ∧ Nx w0 p b M n sb tb F E x sen J (d.sp + 1) (q + 1) (S.c + 1) u' := by
  have hmd2 := he.ok.md
  have hl0 : ¬ x.ln = 0 := by omega
  have hT : Tails p (fun v => Al w0 v p b M n sb tb F E x.R { d with sp := d.sp + 1, wh := x.wh, st := 9 } S (q + 1)) (fun v => ∃ d', Al w0 v p b M n sb tb F E x.R d' S (q + 1) ∧ d'.sp = d.sp + 1 ∧ Tl x sen J d' S) :=
    tails_of he.ok he.few hJ ⟨⟨hs.head, hs.sen, hs.arr.trans ha.symm, hs.rl, hs.ln, hs.md, rfl, hs.er⟩, by simp only []; rw [hs.nt]; rfl, by simp only []; rw [hs.sl]; rfl, by have := he.ok.l_le; omega, Nat.zero_le _, fun _ => Nat.zero_le _⟩ hs.fg (by simp [hs.sp, Th.pre, ha, h0, hl0, Th.fr, Th.cnt]) hs.J
  by_cases h1 : x.md = 1
  · obtain ⟨a, han, hxa, hz⟩ := he.inn.wh1 h1
    refine (tgo_within (A := fun v => Al w0 v p b M n sb tb F E x.R { d with sp := d.sp + 1 } S (q + 1)) (B := fun v => Al w0 v p b M n sb tb F E x.R { d with sp := d.sp + 1, wh := x.wh, st := 9 } S (q + 1))
      (cw x.wh) 4 u (h.acc hs.st ⟨rfl, rfl, rfl⟩ (hs.nx.trans hxa) han hz (by omega)) (fun v hv => by rw [← hs.st]; exact hv.ts.b.at 16 rfl) ⟨rfl, rfl, rfl, rfl⟩ (fun v hv => ?_) (fun v hv => hv.ts.b.at 16 rfl) hT).mono ?_
    · refine (topen_4 v hv.ts hs.st (twhere_sp v hv.ts x.wh (hs.md.trans h1) (he.ok.sp h1))).mono ?_
      rintro e v' ⟨rfl, ht, hm'⟩
      exact ⟨rfl, hv.same hm' ht rfl rfl⟩
    · rintro e u' ⟨rfl, hN⟩
      exact ⟨rfl, nx_of hN (by omega)⟩
  · have h2 : x.md = 2 := by omega
    obtain ⟨a, han, hxa, hz⟩ := he.inn.wh2 h2
    obtain ⟨r1, r2, r3⟩ := he.ok.rw h2
    have hrow := he.ok.row ha
    have hd := dat_lo x.ln
    have hdl : dat x.ln = (x.ln + 7) / 8 := by unfold dat; rw [if_neg (by omega)]
    have hf := he.ok.frs 1 (by omega)
    refine (tgo_within (A := fun v => Al w0 v p b M n sb tb F E x.R { d with sp := d.sp + 1 } S (q + 1)) (B := fun v => Al w0 v p b M n sb tb F E x.R { d with sp := d.sp + 1, wh := x.wh, st := 9 } S (q + 1))
      (cr x.wh) 4 u (h.acc hs.st ⟨rfl, rfl, rfl⟩ (hs.nx.trans hxa) han hz (by omega)) (fun v hv => by rw [← hs.st]; exact hv.ts.b.at 16 rfl) ⟨rfl, rfl, rfl, rfl⟩ (fun v hv => ?_) (fun v hv => hv.ts.b.at 16 rfl) hT).mono ?_
    · refine (topen_4 v hv.ts hs.st (twhere_row v hv.ts x.wh (hs.md.trans h2) (by rw [r1]; exact hf) (by simp only []; rw [hs.ln]; exact r2))).mono ?_
      rintro e v' ⟨rfl, ht, hm'⟩
      exact ⟨rfl, hv.same hm' ht rfl rfl⟩
    · rintro e u' ⟨rfl, hN⟩
      exact ⟨rfl, nx_of hN (by omega)⟩

set_option maxHeartbeats 1000000 in
theorem go_Sl {j s : Nat} (he : Env E n F k hm x) (hJ : Jok x sen J) (hs : SSl x sen J d S j s) (u : World) (h : Al w0 u p b M n sb tb F E x.R { d with sp := d.sp + 1 } S q) (hq : q ≤ 100000) :
    Calls Tryz.prog 50 #[.pointer (some ⟨p, 0, none⟩), .pointer (some ⟨M, 0, none⟩), .pointer (some ⟨sb, 0, none⟩)] u fun e u' => e = .returned (.tuple #[]) ∧ Nx w0 p b M n sb tb F E x sen J (d.sp + 1) (q + 1) (S.c + 1) u' := by
  obtain ⟨a, han, hxa, hz⟩ := he.inn.sl s hs.lt hs.ref
  rw [hs.isA] at hxa
  have hb := hs.pos.base
  have hN := he.ok.N_le
  have hlt := hs.lt
  cases hV : x.V s with
  | none =>
    rw [hV] at hz
    have h1 : x.one s = 1 := by simp [Th.one, hs.ref, hV]
    refine (tgo_none (A := fun v => Al w0 v p b M n sb tb F E x.R { d with sp := d.sp + 1 } S (q + 1)) (B := fun v => Al w0 v p b M n sb tb F E x.R { d with sp := d.sp + 1, rf := 0, sl := (s : Int) + 1 } S (q + 1)) (C := fun v => ∃ d', Al w0 v p b M n sb tb F E x.R d' S (q + 1) ∧ d'.sp = d.sp + 1 ∧ Tl x sen J d' S)
      (rw' none) 6 u rfl (h.acc hs.st ⟨rfl, rfl, rfl⟩ (hs.nx.trans hxa) han hz (by omega)) (fun v hv => by rw [← hs.st]; exact hv.ts.b.at 16 rfl) rfl (fun v hv => ?_) ?_).mono ?_
    · refine ⟨s, d.rf, by rw [← hs.pos.sl]; exact hv.ts.b.at 20 rfl, hv.ts.b.at 21 rfl, by omega, hv.ts.b.fz, ?_⟩
      exact hv.same (((Mut.refl _ _).setCell (by simp) _).setCell (by simp) _) ((hv.ts.put (i := 21) rfl _ (d' := { d with sp := d.sp + 1, rf := 0 }) rfl rfl rfl).put (i := 20) rfl _ rfl rfl rfl) rfl rfl
    · refine tails_of (s := s + 1) he.ok he.few hJ ⟨⟨hb.head, hb.sen, hb.arr, hb.rl, hb.ln, hb.md, hb.wh, hb.er⟩, hs.pos.nt, by simp, hs.pos.lt, hs.lt, fun _ => ?_⟩ hs.fg ?_ (hJ.skip j s S hs.lt (fun _ => hV) hs.J)
      · have := x.A_mono (s := s) (t := s + 1) (by omega)
        have := hs.isA
        omega
      · simp only [Th.cnt, h1, hs.sp]
        omega
    · rintro e u' ⟨rfl, hNx⟩
      exact ⟨rfl, nx_of hNx (by omega)⟩
  | some i =>
    rw [hV] at hz
    have hi : Vok (some i) := fun i' q' => he.ok.vs s i' (hV.trans q')
    refine (tgo_ref (A := fun v => Al w0 v p b M n sb tb F E x.R { d with sp := d.sp + 1 } S (q + 1)) (C := fun v => Al w0 v p b M n sb tb F E x.R { d with sp := d.sp + 1, rf := i, st := 7 } S (q + 1))
      (rw' (some i)) 6 u rfl (h.acc hs.st ⟨rfl, rfl, rfl⟩ (hs.nx.trans hxa) han hz (by omega)) (fun v hv => by rw [← hs.st]; exact hv.ts.b.at 16 rfl) i hi rfl (fun v hv => ?_)).mono ?_
    · refine ⟨d.rf, hv.ts.b.at 21 rfl, hv.ts.b.fz, ?_⟩
      exact hv.same (((Mut.refl _ _).setCell (by simp) _).setCell (by simp) _) ((hv.ts.put (i := 21) rfl _ (d' := { d with sp := d.sp + 1, rf := i }) rfl rfl rfl).put (i := 16) rfl _ rfl rfl rfl) rfl rfl
    · rintro e u' ⟨rfl, hA⟩
      exact ⟨rfl, _, S, q + 1, hA, rfl, Nat.le_refl _, by omega, .inr (.inr (.inr (.inr (.inl ⟨j, s, ⟨⟨hb.head, hb.sen, hb.arr, hb.rl, hb.ln, hb.md, hb.wh, hb.er⟩, hs.pos.nt, hs.pos.sl, hs.pos.lt, hs.pos.le, hs.pos.on⟩, rfl, hs.fg, hV, hs.lt, hs.isA, hs.ref, by simp [hs.sp], hs.J⟩))))⟩

set_option maxHeartbeats 1000000 in
theorem go_Gr {j s : Nat} (he : Env E n F k hm x) (hJ : Jok x sen J) (hs : SGr x sen J d S j s) (u : World) (h : Al w0 u p b M n sb tb F E x.R { d with sp := d.sp + 1 } S q) (hc : S.c < lots) :
    Calls Tryz.prog 50 #[.pointer (some ⟨p, 0, none⟩), .pointer (some ⟨M, 0, none⟩), .pointer (some ⟨sb, 0, none⟩)] u fun e u' => e = .returned (.tuple #[]) ∧ Nx w0 p b M n sb tb F E x sen J (d.sp + 1) (q + 1) (S.c + 1) u' := by
  have hb := hs.pos.base
  have hN := he.ok.N_le
  have hlt := hs.lt
  have h1 : x.one s = 2 := by simp [Th.one, hs.ref, hs.V]
  refine (tgo_grey (A := fun v => Al w0 v p b M n sb tb F E x.R { d with sp := d.sp + 1 } (greyS S d.rf sen) q) (B := fun v => Al w0 v p b M n sb tb F E x.R { d with sp := d.sp + 1, sl := (s : Int) + 1 } (greyS S d.rf sen) q) (C := fun v => ∃ d', Al w0 v p b M n sb tb F E x.R d' (greyS S d.rf sen) q ∧ d'.sp = d.sp + 1 ∧ Tl x sen J d' (greyS S d.rf sen))
    ⟨0, 0⟩ 7 u rfl ?_ (fun v hv => by rw [← hs.st]; exact hv.ts.b.at 16 rfl) (fun v hv => ?_) ?_).mono ?_
  · obtain ⟨g, pb, v, hsh, hd⟩ := h.sh
    refine (tgrey_is u h.ts hs.st hsh hc).mono ?_
    rintro e u' ⟨rfl, v', t', m', f'⟩
    simp only [hb.sen] at t'
    exact ⟨rfl, h.shade hsh hd t' m' f'⟩
  · refine ⟨s, by rw [← hs.pos.sl]; exact hv.ts.b.at 20 rfl, by omega, hv.ts.b.fz, ?_⟩
    exact hv.same ((Mut.refl _ _).setCell (by simp) _) (hv.ts.put (i := 20) rfl _ rfl rfl rfl) rfl rfl
  · refine tails_of (s := s + 1) he.ok he.few hJ ⟨⟨hb.head, hb.sen, hb.arr, hb.rl, hb.ln, hb.md, hb.wh, hb.er⟩, hs.pos.nt, by simp, hs.pos.lt, hs.lt, fun _ => ?_⟩ hs.fg ?_ (hJ.grey j s S d.rf hs.lt hs.ref hs.V hs.J)
    · have := x.A_mono (s := s) (t := s + 1) (by omega)
      have := hs.isA
      omega
    · simp only [Th.cnt, h1, hs.sp]
      omega
  · rintro e u' ⟨rfl, d', hA, hsp, hT⟩
    exact ⟨rfl, d', _, q, hA, hsp, by omega, Nat.le_of_eq (grey_c _ _ _), .inr (.inr (.inr (.inr (.inr hT))))⟩

set_option maxHeartbeats 1000000 in
theorem go_Pt {j s : Nat} (he : Env E n F k hm x) (hJ : Jok x sen J) (hs : SPt x sen J d S j s) (u : World) (h : Al w0 u p b M n sb tb F E x.R { d with sp := d.sp + 1 } S q) (hc : S.c < lots) :
    Calls Tryz.prog 50 #[.pointer (some ⟨p, 0, none⟩), .pointer (some ⟨M, 0, none⟩), .pointer (some ⟨sb, 0, none⟩)] u fun e u' => e = .returned (.tuple #[]) ∧ Nx w0 p b M n sb tb F E x sen J (d.sp + 1) (q + 1) (S.c + 1) u' := by
  have hb := hs.pos.base
  refine (tgo_part (A := fun v => Al w0 v p b M n sb tb F E x.R { d with sp := d.sp + 1 } (S.tick.mark (x.L j) sen) q) (C := fun v => ∃ d', Al w0 v p b M n sb tb F E x.R d' (S.tick.mark (x.L j) sen) q ∧ d'.sp = d.sp + 1 ∧ Tl x sen J d' (S.tick.mark (x.L j) sen))
    ⟨0, 0⟩ 8 u rfl ?_ (fun v hv => by rw [← hs.st]; exact hv.ts.b.at 16 rfl) ?_).mono ?_
  · obtain ⟨g, pb, v, hsh, hd⟩ := h.sh
    refine (tpart_is u h.ts hs.st hsh hc).mono ?_
    rintro e u' ⟨rfl, t', m'⟩
    simp only [hb.sen, hs.fg] at t'
    exact ⟨rfl, h.shade hsh hd t' m' (Fresh.same _ _)⟩
  · exact tails_of he.ok he.few hJ ⟨⟨hb.head, hb.sen, hb.arr, hb.rl, hb.ln, hb.md, hb.wh, hb.er⟩, hs.pos.nt, hs.pos.sl, hs.pos.lt, hs.pos.le, hs.pos.on⟩ hs.fg hs.sp (hJ.part j s S hs.one hs.pos.lt hs.J)
  · rintro e u' ⟨rfl, d', hA, hsp, hT⟩
    exact ⟨rfl, d', _, q, hA, hsp, by omega, Nat.le_refl _, .inr (.inr (.inr (.inr (.inr hT))))⟩

set_option maxHeartbeats 1000000 in
theorem go_Lk {j s : Nat} (he : Env E n F k hm x) (hs : SLk x sen J d S j s) (u : World) (h : Al w0 u p b M n sb tb F E x.R { d with sp := d.sp + 1 } S q) (hq : q ≤ 100000) :
    Calls Tryz.prog 50 #[.pointer (some ⟨p, 0, none⟩), .pointer (some ⟨M, 0, none⟩), .pointer (some ⟨sb, 0, none⟩)] u fun e u' => e = .returned (.tuple #[]) ∧ Nx w0 p b M n sb tb F E x sen J (d.sp + 1) (q + 1) (S.c + 1) u' := by
  obtain ⟨a, han, hxa, hz⟩ := he.inn.lk j hs.one hs.pos.lt hs.md
  have hb := hs.pos.base
  have hf := he.ok.frs j hs.pos.lt
  have h4 := x.fr_succ (j - 1) hs.md
  have h5 := hs.one
  rw [show j - 1 + 1 = j by omega] at h4
  refine (tgo_link (A := fun v => Al w0 v p b M n sb tb F E x.R { d with sp := d.sp + 1 } S (q + 1)) (B := fun v => Al w0 v p b M n sb tb F E x.R { d with sp := d.sp + 1 } S (q + 1)) (C := fun v => Al w0 v p b M n sb tb F E x.R { d with sp := d.sp + 1, fg := x.L j, st := 8 } S (q + 1))
    (cr (x.L j)) 5 u rfl (h.acc hs.st ⟨rfl, rfl, rfl⟩ (hs.nx.trans hxa) han hz (by omega)) (fun v hv => by rw [← hs.st]; exact hv.ts.b.at 16 rfl) (x.L j) (fun v hv => ?_) (fun v hv => ?_)).mono ?_
  · refine ⟨E.n0, E.n1, E.n2, E.n3, E.n4, E.n5, E.n6, E.n7, some ⟨E.g, 0, none⟩, E.sl, E.sl, fun i w' hi => hv.ts.b.cells i w' ?_, ?_⟩
    · have hlt : i < (cl E.n0 E.n1 E.n2 E.n3 E.n4 E.n5 E.n6 E.n7 (.slice (some ⟨E.g, 0, none⟩) E.sl E.sl)).length := by
        rcases Nat.lt_or_ge i (cl E.n0 E.n1 E.n2 E.n3 E.n4 E.n5 E.n6 E.n7 (.slice (some ⟨E.g, 0, none⟩) E.sl E.sl)).length with g | g
        · exact g
        · rw [List.getElem?_eq_none g] at hi; cases hi
      rw [← hi]
      exact List.getElem?_append_left (l₁ := cl E.n0 E.n1 E.n2 E.n3 E.n4 E.n5 E.n6 E.n7 (.slice (some ⟨E.g, 0, none⟩) E.sl E.sl)) hlt
    · refine (lfrag_is E.n0 E.n1 E.n2 E.n3 E.n4 E.n5 E.n6 E.n7 (some ⟨E.g, 0, none⟩) E.sl E.sl (x.L j) v he.few.1 hf).mono ?_
      rintro e v' ⟨rfl, K⟩
      exact ⟨rfl, hv.same K.mut (hv.ts.kept K) rfl rfl⟩
  · refine ⟨d.fg, 5, hv.ts.b.at 19 rfl, by rw [← hs.st]; exact hv.ts.b.at 16 rfl, hv.ts.b.fz, ?_⟩
    exact hv.same (((Mut.refl _ _).setCell (by simp) _).setCell (by simp) _) ((hv.ts.put (i := 19) rfl _ (d' := { d with sp := d.sp + 1, fg := x.L j }) rfl rfl rfl).put (i := 16) rfl _ rfl rfl rfl) rfl rfl
  · rintro e u' ⟨rfl, hA⟩
    exact ⟨rfl, _, S, q + 1, hA, rfl, Nat.le_refl _, by omega, .inr (.inr (.inr (.inr (.inr (.inr (.inr (.inl ⟨j, s, ⟨⟨hb.head, hb.sen, hb.arr, hb.rl, hb.ln, hb.md, hb.wh, hb.er⟩, hs.pos.nt, hs.pos.sl, hs.pos.lt, hs.pos.le, hs.pos.on⟩, hs.one, rfl, rfl, by simp only [hs.sp]; omega, hs.J⟩)))))))⟩

/-- A step. -/
theorem run_step (he : Env E n F k hm x) (hJ : Jok x sen J) (w : World) (h : Al w0 w p b M n sb tb F E x.R d S q) (hs : Sits x sen J d S) (hlt : d.sp < x.all) (hq : q ≤ 100000) (hc : S.c < lots) :
    Calls Tryz.prog 22 #[.pointer (some ⟨p, 0, none⟩), .pointer (some ⟨M, 0, none⟩), .pointer (some ⟨sb, 0, none⟩)] w fun e w' => e = .returned (.bool (decide (d.sp + 1 = x.all))) ∧ Nx w0 p b M n sb tb F E x sen J (d.sp + 1) (q + 1) (S.c + 1) w' := by
  have hall := he.ok.all_le
  have h10 : (d.st == 10) = false := by rw [hs.all.1]; simp; omega
  refine (tstep_is (C := Nx w0 p b M n sb tb F E x sen J (d.sp + 1) (q + 1) (S.c + 1)) (D := fun r v => r = decide (d.sp + 1 = x.all) ∧ Nx w0 p b M n sb tb F E x sen J (d.sp + 1) (q + 1) (S.c + 1) v) w h h10 (by omega) (fun u hu => ?_) (fun u hN => ?_)).mono ?_
  · rcases hs with hs | ⟨ha, hs⟩ | ⟨ha, hl, hs⟩ | ⟨ha, hl, hm', hs⟩ | ⟨j, s, hs⟩ | ⟨j, s, hs⟩ | ⟨j, s, hs⟩ | ⟨j, s, hs⟩ | hs
    · cases ha : x.arr
      · exact go_H_obj he hJ hs ha u hu hq
      · exact go_H_arr he hs ha u hu hq
    · exact go_Ln he hJ ha hs u hu hq
    · exact go_Md he hJ ha hl hs u hu hq
    · exact go_Wh he hJ ha hl hm' hs u hu hq
    · exact go_Gr he hJ hs u hu hc
    · exact go_Sl he hJ hs u hu hq
    · exact go_Lk he hs u hu hq
    · exact go_Pt he hJ hs u hu hc
    · rw [hs.st] at h10
      cases h10
  · obtain ⟨d', S', q', hA, hsp, hq', hc', hs'⟩ := hN
    exact ⟨_, x.R, d', hA.ts, rfl, by rw [hs'.all.1, hsp], d', S', q', hA, hsp, hq', hc', hs'⟩
  · rintro e w' ⟨r, rfl, rfl, hN⟩
    exact ⟨rfl, hN⟩
end
end Go.Proofs.YtpdclckgnajcdaaGreat
