/-
  What package trace looks through, as plain values; a program, the memory that it reads and the shade that it writes, side by side.
-/
import Derived.Test.YtpdclckgnajcdaaGreatTrE
import Derived.Test.YtpdclckgnajcdaaGreatFirst15
namespace Go.Proofs.YtpdclckgnajcdaaGreat
open Go.RowKit

/-- A thing: an array or an object; its fields; how many slots; its fragments; its length, mode and where; what the slots refer to. -/
structure Th where
  arr : Bool
  R : Nat → Bool
  rl : Nat
  N : Nat
  L : Nat → Int
  l : Nat
  ln : Int
  md : Int
  wh : Int
  V : Nat → Option Int
def Th.A (x : Th) (s : Nat) : Nat := if x.arr then 1 + s / 8 else (s + 1) / 7
def Th.B (x : Th) (s : Nat) : Nat := if x.arr then s % 8 else 1 + (s + 1) % 7
def Th.ref (x : Th) (s : Nat) : Bool := isR x.arr x.R s
/-- How many steps: ahead of the first slot; of so many fragments; of a slot; of the first s of them. -/
def Th.pre (x : Th) : Nat := if x.arr then (if x.ln = 0 then 2 else if x.md = 0 then 3 else 4) else 1
def Th.fr (x : Th) (j : Nat) : Nat := if x.md = 2 then j else 2 * j
def Th.one (x : Th) (s : Nat) : Nat := if x.ref s then (if (x.V s).isSome then 2 else 1) else 0
def Th.cnt (x : Th) : Nat → Nat
  | 0 => 0
  | s + 1 => x.cnt s + x.one s
def Th.all (x : Th) : Nat := x.pre + x.fr (x.l - 1) + x.cnt x.N
/-- Where the reference to the fragment j is. -/
def Th.lk (x : Th) (j : Nat) : Int := if x.arr = false then x.L (j - 1) * 8 + 0 else if x.md = 0 then x.L 0 * 8 + (4 + ((j : Int) - 1)) else x.wh + 2 + ((j : Int) - 1)

structure ThOk (n0 n1 : Int) (x : Th) : Prop where
  obj : x.arr = false → x.rl ≤ 40 ∧ x.ln = 0 ∧ x.N = x.rl ∧ x.md = 0 ∧ (x.l : Int) = 1 + (x.rl : Int) / 7
  row : x.arr = true → x.rl = 1 ∧ 0 ≤ x.ln ∧ x.ln ≤ 512 ∧ x.N = x.ln.toNat ∧ (x.l : Int) = 1 + dat x.ln
  frs : ∀ j, j < x.l → 0 ≤ x.L j ∧ x.L j < n0
  md : 0 ≤ x.md ∧ x.md ≤ 2
  m0 : x.arr = true → 0 < x.ln → (dat x.ln ≤ 4 ↔ x.md = 0)
  z0 : x.arr = true → x.ln = 0 → x.md = 0
  i0 : x.md = 0 → x.wh = 0
  sp : x.md = 1 → 8 * n0 ≤ x.wh ∧ x.wh < 8 * n0 + 2 * n1
  rw : x.md = 2 → x.wh = x.L 1 ∧ x.wh + dat x.ln ≤ n0 ∧ ∀ j : Nat, 1 ≤ j → j < x.l → x.L j = x.L 1 + ((j : Int) - 1)
  vs : ∀ s, Vok (x.V s)
/-- How it lies in memory. -/
structure ThIn (n : Nat) (F : Nat → Cx) (k : Nat) (hm : Int) (x : Th) : Prop where
  hd : ∃ a : Nat, a < n ∧ x.L 0 * 8 + 1 = a ∧ F a = ch k hm
  ln : x.arr = true → ∃ a : Nat, a < n ∧ x.L 0 * 8 + 2 = a ∧ F a = cw x.ln
  md : x.arr = true → 0 < x.ln → ∃ a : Nat, a < n ∧ x.L 0 * 8 + 3 = a ∧ F a = cw x.md
  wh1 : x.md = 1 → ∃ a : Nat, a < n ∧ x.L 0 * 8 + 4 = a ∧ F a = cw x.wh
  wh2 : x.md = 2 → ∃ a : Nat, a < n ∧ x.L 0 * 8 + 4 = a ∧ F a = cr x.wh
  lk : ∀ j, 1 ≤ j → j < x.l → x.md ≠ 2 → ∃ a : Nat, a < n ∧ x.lk j = a ∧ F a = cr (x.L j)
  sl : ∀ s, s < x.N → x.ref s = true → ∃ a : Nat, a < n ∧ x.L (x.A s) * 8 + (x.B s : Int) = a ∧ F a = rw' (x.V s)

section
variable {x : Th} {n0 n1 : Int}
theorem plA_is {s : Nat} (h : s < x.N) : plA x.arr x.N s = x.A s := by
  unfold plA Th.A
  cases x.arr
  · simp [h]
  · simp
theorem plB_is {s : Nat} (h : s < x.N) : plB x.arr x.N s = x.B s := by
  unfold plB Th.B
  cases x.arr
  · simp [h]
  · simp
theorem Th.B_lt (s : Nat) : x.B s < 8 := by
  unfold Th.B
  split <;> omega
theorem Th.A_mono {s t : Nat} (h : s ≤ t) : x.A s ≤ x.A t := by
  unfold Th.A
  split <;> omega
theorem ThOk.A_lt (h : ThOk n0 n1 x) {s : Nat} (hs : s < x.N) : x.A s < x.l := by
  unfold Th.A
  cases ha : x.arr
  · obtain ⟨h1, h2, h3, h4, h5⟩ := h.obj ha
    simp
    omega
  · obtain ⟨h1, h2, h3, h4, h5⟩ := h.row ha
    have hd : dat x.ln = (x.ln + 7) / 8 := by unfold dat; rw [if_neg (by omega)]
    simp
    omega
theorem ThOk.N_le (h : ThOk n0 n1 x) : x.N ≤ 512 := by
  cases ha : x.arr
  · obtain ⟨h1, h2, h3, h4, h5⟩ := h.obj ha
    omega
  · obtain ⟨h1, h2, h3, h4, h5⟩ := h.row ha
    omega
theorem ThOk.l_le (h : ThOk n0 n1 x) : 1 ≤ x.l ∧ x.l ≤ 65 := by
  cases ha : x.arr
  · obtain ⟨h1, h2, h3, h4, h5⟩ := h.obj ha
    omega
  · obtain ⟨h1, h2, h3, h4, h5⟩ := h.row ha
    have := dat_lo x.ln
    have := dat_hi x.ln
    omega
theorem Th.cnt_le (x : Th) : ∀ s, x.cnt s ≤ 2 * s
  | 0 => Nat.le_refl _
  | s + 1 => by
    have := x.cnt_le s
    have h : x.one s ≤ 2 := by unfold Th.one; split <;> (try split) <;> omega
    simp only [Th.cnt]
    omega
theorem ThOk.all_le (h : ThOk n0 n1 x) : x.all ≤ 2000 := by
  have h1 := x.cnt_le x.N
  have h2 := h.N_le
  have h3 := h.l_le
  have h4 : x.pre ≤ 4 := by unfold Th.pre; split <;> (try split) <;> (try split) <;> omega
  have h5 : x.fr (x.l - 1) ≤ 2 * (x.l - 1) := by unfold Th.fr; split <;> omega
  unfold Th.all
  omega
/-- Slots that are no references cost nothing. -/
theorem Th.cnt_skip {s t : Nat} (h : s ≤ t) (hm : ∀ j, s ≤ j → j < t → x.ref j = false) : x.cnt t = x.cnt s := by
  induction t with
  | zero => obtain rfl : s = 0 := by omega
            rfl
  | succ t ih =>
    by_cases e : s = t + 1
    · rw [e]
    · have hr := hm t (by omega) (by omega)
      simp only [Th.cnt, Th.one, hr]
      rw [ih (by omega) fun j h1 h2 => hm j h1 (by omega)]
      simp
end

/-- Where a law began, and blocks that stay as they are. -/
structure Bs where
  w : World
  X : Nat → Option Obj

/-- A program, its memory (asked q times) and its shade, all of the law's own since w0. -/
structure Al (w0 : Bs) (u : World) (p b M n sb tb : Nat) (F : Nat → Cx) (E : En) (R : Nat → Bool) (d : Td) (S : ShS) (q : Nat) : Prop where
  ts : TS u p E R d
  mm : Mm u b M n F q
  kept : Kept w0.w u
  lp : w0.w.heap.size ≤ p
  lm : w0.w.heap.size ≤ M
  mp : M < p
  bp : b < p
  sh : ∃ g pb v, ShC u w0.w.heap.size sb tb g pb v S ∧ ∀ k, k ∈ ShF sb tb g pb v → ¬ foot p E d k ∧ k ≠ b ∧ k ≠ M ∧ w0.X k = none
  ex : ∀ k o, w0.X k = some o → u.heap[k]? = some o ∧ k ≠ p ∧ k ≠ M

theorem heap_lt {u : World} {k : Nat} {o : Obj} (h : u.heap[k]? = some o) : k < u.heap.size := by
  rcases Nat.lt_or_ge k u.heap.size with g | g
  · exact g
  · rw [Array.getElem?_eq_none g] at h; cases h
section
variable {w0 : Bs} {u u' : World} {p b M n sb tb q : Nat} {F : Nat → Cx} {E : En} {R R' : Nat → Bool} {d d' : Td} {S S' : ShS}
/-- The program went on. -/
theorem Al.next (h : Al w0 u p b M n sb tb F E R d S q) (m : Mut [p] u u') (t : TS u' p E R' d') (hf : ∀ k, foot p E d' k → foot p E d k ∨ u.heap.size ≤ k) : Al w0 u' p b M n sb tb F E R' d' S q := by
  obtain ⟨g, pb, v, hs, hd⟩ := h.sh
  have h1 := h.mp
  have h2 := h.bp
  refine ⟨t, h.mm.muts m (by simp; omega) (by simp; omega), h.kept.muts m (by simp; exact h.lp), h.lp, h.lm, h.mp, h.bp, ⟨g, pb, v, hs.muts m fun k hk q => ?_, fun k hk => ⟨fun q => ?_, (hd k hk).2⟩⟩, fun k o hX => ⟨(m.block k (heap_lt (h.ex k o hX).1) (by have := (h.ex k o hX).2.1; simpa using this)).trans (h.ex k o hX).1, (h.ex k o hX).2⟩⟩
  · obtain rfl : k = p := by simpa using q
    exact (hd k hk).1 (.inl rfl)
  · rcases hf k q with r | r
    · exact (hd k hk).1 r
    · have := (hs.own k hk).2
      omega
/-- A cell of its own, other than its shape's. -/
theorem Al.same (h : Al w0 u p b M n sb tb F E R d S q) (m : Mut [p] u u') (t : TS u' p E R d') (h1 : d'.rx = d.rx) (h2 : d'.rl = d.rl) : Al w0 u' p b M n sb tb F E R d' S q :=
  h.next m t fun k hk => .inl (by unfold foot at *; rw [h1, h2] at hk; exact hk)
theorem Al.read (h : Al w0 u p b M n sb tb F E R d S q) (hm : Mm u' b M n F (q + 1)) (m : Mut [M] u u') : Al w0 u' p b M n sb tb F E R d S (q + 1) := by
  obtain ⟨g, pb, v, hs, hd⟩ := h.sh
  have h1 := h.mp
  refine ⟨h.ts.muts m fun k hk r => ?_, hm, h.kept.muts m (by simp; exact h.lm), h.lp, h.lm, h.mp, h.bp, ⟨g, pb, v, hs.muts m fun k hk r => ?_, hd⟩, fun k o hX => ⟨(m.block k (heap_lt (h.ex k o hX).1) (by have := (h.ex k o hX).2.2; simpa using this)).trans (h.ex k o hX).1, (h.ex k o hX).2⟩⟩
  · obtain rfl : k = M := by simpa using r
    have := h.ts.lo hk
    omega
  · obtain rfl : k = M := by simpa using r
    exact (hd k hk).2.2.1 rfl
theorem Al.shade {g pb : Nat} {v v' : Value} (h : Al w0 u p b M n sb tb F E R d S q) (hs : ShC u w0.w.heap.size sb tb g pb v S) (hd : ∀ k, k ∈ ShF sb tb g pb v → ¬ foot p E d k ∧ k ≠ b ∧ k ≠ M ∧ w0.X k = none) (hs' : ShC u' w0.w.heap.size sb tb g pb v' S') (m : Mut (ShF sb tb g pb v) u u') (fr : Fresh u v v') : Al w0 u' p b M n sb tb F E R d S' q := by
  refine ⟨h.ts.muts m fun k hk r => (hd k r).1 hk, h.mm.muts m (fun r => (hd _ r).2.1 rfl) (fun r => (hd _ r).2.2.1 rfl), h.kept.muts m fun k hk => (hs.own k hk).1, h.lp, h.lm, h.mp, h.bp, ⟨g, pb, v', hs', fun k hk => ?_⟩, fun k o hX => ⟨(m.block k (heap_lt (h.ex k o hX).1) (fun r => by have := (hd k r).2.2.2; rw [hX] at this; cases this)).trans (h.ex k o hX).1, (h.ex k o hX).2⟩⟩
  by_cases e : k ∈ ShF sb tb g pb v
  · exact hd k e
  · have hv : v'.ownBlock = some k := by
      simp only [ShF, List.mem_cons, not_or] at hk e
      rcases hk with r | r | r | r | r
      · exact absurd r e.1
      · exact absurd r e.2.1
      · exact absurd r e.2.2.1
      · exact absurd r e.2.2.2.1
      · simpa using r
    rcases fr k hv with r | r
    · exact absurd (by simp [ShF, r]) e
    · have h1 := h.mm.row.lt
      have h2 := h.mm.hd.lt
      refine ⟨fun z => by have := h.ts.lt z; omega, by omega, by omega, ?_⟩
      cases hX : w0.X k with
      | none => rfl
      | some o =>
        have := heap_lt (h.ex k o hX).1
        omega
end
end Go.Proofs.YtpdclckgnajcdaaGreat
