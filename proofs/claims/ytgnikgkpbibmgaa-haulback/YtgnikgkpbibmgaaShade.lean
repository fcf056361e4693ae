/-
  Contracts of package shade: a shade as it lies in memory (its head, its table, its pile); each method answers as a plain function of it.
-/
import Derived.Test.YtgnikgkpbibmgaaTintNew15
import Derived.Test.YtgnikgkpbibmgaaPile15
namespace Go.Proofs.Ytgnikgkpbibmgaa
open Go.RowKit

/-- What is there behind Push, and whether something is lost. -/
def pushT (n : Nat) (T : List Int) (i : Int) : List Int := if T.length < n then T ++ [i] else T
def pushZ (n : Nat) (T : List Int) (z : Bool) : Bool := if T.length < n then z else true
def topI (T : List Int) : Int := T.getLastD 0
def isI (T : List Int) : Bool := decide (T ≠ [])

/-- A shade: so many fragments, room for so many; what they are; the pile; lost; counted. -/
structure ShS where
  n : Nat
  most : Nat
  T : Nat → Fr
  P : List Int
  z : Bool
  c : Nat

def ShS.tick (S : ShS) : ShS := ⟨S.n, S.most, S.T, S.P, S.z, S.c + 1⟩
def greyB (S : ShS) (i : Int) (s : Bool) : Bool := hdd S.n S.T i && markB S.n S.T i s
def layS (S : ShS) (i : Int) (s : Bool) : ShS := if greyB S i s then ⟨S.n, S.most, markT S.n S.T i s, pushT S.most S.P i, pushZ S.most S.P S.z, S.c⟩ else S
def greyS (S : ShS) (i : Int) (s : Bool) : ShS := layS S.tick i s
def blackB (S : ShS) (i : Int) (s : Bool) : Bool := hdd S.n S.T i && blk S.n S.T i s
def ShS.mark (S : ShS) (i : Int) (s : Bool) : ShS := ⟨S.n, S.most, markT S.n S.T i s, S.P, S.z, S.c⟩
def ShS.set (S : ShS) (i st : Int) (h s : Bool) : ShS := ⟨S.n, S.most, setT S.n S.T i st h s, S.P, S.z, S.c⟩
def ShS.born (S : ShS) (i : Int) : ShS := ⟨S.n, S.most, bornT S.n S.T i, S.P, S.z, S.c⟩
def ShS.pop (S : ShS) : ShS := ⟨S.n, S.most, S.T, S.P.dropLast, S.z, S.c⟩
def ShS.found (S : ShS) : ShS := ⟨S.n, S.most, S.T, S.P, false, S.c⟩
/-- A new one. -/
def ShS.new (n most : Nat) : ShS := ⟨n, most, T0, [], false, 0⟩

/-- A shade at block b: its table at tb (fragments at g), its pile at pb (numbers in v). -/
structure ShC (w : World) (base b tb g pb : Nat) (v : Value) (S : ShS) : Prop where
  head : Own w b 70 [.pointer (some ⟨tb, 0, none⟩), .pointer (some ⟨pb, 0, none⟩), .int .i64 (S.c : Int)]
  tab : Tab w tb g S.n S.T
  pile : PT w base pb S.most v S.P S.z
  lob : base ≤ b
  lot : base ≤ tb
  log : base ≤ g

/-- All that it reaches. -/
def ShF (b tb g pb : Nat) (v : Value) : List Nat := b :: tb :: g :: pb :: v.ownBlock.toList

theorem lst_ne_row {w : World} {base g n : Nat} {e : TypeId} {f : Nat → Value} {v : Value} {T : List Int} (l : Lst w base v T) (r : w.rowIs g e n f) (he : e ≠ 3) : v.ownBlock ≠ some g := fun q => by
  rcases l.2 with ⟨rfl, _⟩ | ⟨g', cap, cur, rfl, _, hg, _⟩
  · cases q
  · obtain rfl : g' = g := by simpa [Value.ownBlock] using q
    obtain ⟨c, hc, _⟩ := r
    rw [hg] at hc
    simp only [Option.some.injEq, Obj.cells.injEq] at hc
    exact he hc.2.1.symm

section
variable {w w' : World} {base b tb g pb : Nat} {v v' : Value} {S : ShS}
theorem ShC.kept (h : ShC w base b tb g pb v S) (k : Kept w w') : ShC w' base b tb g pb v S := ⟨h.head.kept k, h.tab.kept k, h.pile.kept k, h.lob, h.lot, h.log⟩
theorem ShC.muts {D : List Nat} (h : ShC w base b tb g pb v S) (m : Mut D w w') (hd : ∀ k, k ∈ ShF b tb g pb v → k ∉ D) : ShC w' base b tb g pb v S :=
  ⟨h.head.muts m (hd _ (by simp [ShF])), h.tab.muts m (hd _ (by simp [ShF])) (hd _ (by simp [ShF])), h.pile.muts m (hd _ (by simp [ShF])) (fun k hk => hd _ (by simp [ShF, hk])), h.lob, h.lot, h.log⟩
theorem ShC.own (h : ShC w base b tb g pb v S) : ∀ k, k ∈ ShF b tb g pb v → base ≤ k ∧ k < w.heap.size := fun k hk => by
  simp only [ShF, List.mem_cons] at hk
  rcases hk with rfl | rfl | rfl | hk
  · exact ⟨h.lob, h.head.lt⟩
  · exact ⟨h.lot, h.tab.head.lt⟩
  · exact ⟨h.log, h.tab.row.lt⟩
  · exact h.pile.own k (by simpa using hk)
theorem ShC.nbt (h : ShC w base b tb g pb v S) : b ≠ tb := h.head.neq h.tab.head (by decide)
theorem ShC.nbg (h : ShC w base b tb g pb v S) : b ≠ g := h.head.ne h.tab.row (by decide)
theorem ShC.nbp (h : ShC w base b tb g pb v S) : b ≠ pb := h.head.neq h.pile.head (by decide)
theorem ShC.nbv (h : ShC w base b tb g pb v S) : v.ownBlock ≠ some b := h.head.nelst h.pile.lst (by decide)
theorem ShC.ntp (h : ShC w base b tb g pb v S) : tb ≠ pb := h.tab.head.neq h.pile.head (by decide)
theorem ShC.ntv (h : ShC w base b tb g pb v S) : v.ownBlock ≠ some tb := h.tab.head.nelst h.pile.lst (by decide)
theorem ShC.npg (h : ShC w base b tb g pb v S) : pb ≠ g := h.pile.head.ne h.tab.row (by decide)
theorem ShC.ngv (h : ShC w base b tb g pb v S) : v.ownBlock ≠ some g := lst_ne_row h.pile.lst h.tab.row (by decide)
theorem ShC.c0 (h : ShC w base b tb g pb v S) : w.cell? ⟨b, 0, none⟩ = some (.pointer (some ⟨tb, 0, none⟩)) := h.head.blk.at 0 rfl
theorem ShC.c1 (h : ShC w base b tb g pb v S) : w.cell? ⟨b, 1, none⟩ = some (.pointer (some ⟨pb, 0, none⟩)) := h.head.blk.at 1 rfl
theorem ShC.c2 (h : ShC w base b tb g pb v S) : w.cell? ⟨b, 2, none⟩ = some (.int .i64 (S.c : Int)) := h.head.blk.at 2 rfl
theorem ShC.fz (h : ShC w base b tb g pb v S) (i : Nat) : w.frozen? ⟨b, i, none⟩ = false := h.head.blk.fz i
/-- Counted once more. -/
theorem ShC.ticks (h : ShC w base b tb g pb v S) : ShC (w.setCell ⟨b, 2, none⟩ (.int .i64 ((S.c : Int) + 1))) base b tb g pb v S.tick := by
  have m : Mut [b] w (w.setCell ⟨b, 2, none⟩ (.int .i64 ((S.c : Int) + 1))) := (Mut.refl _ _).setCell (by simp) _
  exact ⟨by simpa [ShS.tick] using h.head.set 2 (.int .i64 ((S.c : Int) + 1)), h.tab.muts m (by simpa using h.nbt.symm) (by simpa using h.nbg.symm), h.pile.muts m (by simpa using h.nbp.symm) (fun k hk hd => by simp at hd; subst hd; exact h.nbv hk), h.lob, h.lot, h.log⟩
/-- Another table. -/
theorem ShC.tabs (h : ShC w base b tb g pb v S) {T : Nat → Fr} (t : Tab w' tb g S.n T) (m : Mut [g] w w') : ShC w' base b tb g pb v ⟨S.n, S.most, T, S.P, S.z, S.c⟩ :=
  ⟨h.head.muts m (by simpa using h.nbg), t, h.pile.muts m (by simpa using h.npg) (fun k hk hd => by simp at hd; subst hd; exact h.ngv hk), h.lob, h.lot, h.log⟩
/-- Another pile. -/
theorem ShC.piles (h : ShC w base b tb g pb v S) {P : List Int} {z : Bool} (p : PT w' base pb S.most v' P z) (m : Mut (pb :: v.ownBlock.toList) w w') : ShC w' base b tb g pb v' ⟨S.n, S.most, S.T, P, z, S.c⟩ :=
  ⟨h.head.muts m (by simp; exact ⟨h.nbp, h.nbv⟩), h.tab.muts m (by simp; exact ⟨h.ntp, h.ntv⟩) (by simp; exact ⟨h.npg.symm, h.ngv⟩), p, h.lob, h.lot, h.log⟩
theorem muf_g {u u' : World} (m : Mut [g] u u') : Mut (ShF b tb g pb v) u u' := m.wide fun k hk => by simp at hk; simp [ShF, hk]
theorem muf_p {u u' : World} (m : Mut (pb :: v.ownBlock.toList) u u') : Mut (ShF b tb g pb v) u u' := m.wide fun k hk => by
  simp at hk
  simp [ShF]
  rcases hk with h | h
  · simp [h]
  · simp [h]
end

end Go.Proofs.Ytgnikgkpbibmgaa
