/-
  A coil as it lies in memory: five whole numbers; what each method answers and leaves, as plain functions of them.
-/
import Derived.Test.YtahpnnjemjjfhaaCells
namespace Go.Proofs.Ytahpnnjemjjfhaa
open Go.RowKit

/-- The words of each space, which one is filled, how many words are kept, how many are used of space 0 and of space 1. -/
structure CS where
  s : Nat
  c : Nat
  k : Nat
  a : Nat
  b : Nat

def CS.cells (S : CS) : List Value := [.int .i64 (S.s : Int), .int .i64 (S.c : Int), .int .i64 (S.k : Int), .int .i64 (S.a : Int), .int .i64 (S.b : Int)]
/-- Used in the space that is filled, and in the other one. -/
def CS.u (S : CS) : Nat := if S.c = 0 then S.a else S.b
def CS.o (S : CS) : Nat := if S.c = 0 then S.b else S.a
structure CS.Ok (S : CS) : Prop where
  max : S.s ≤ 2048
  two : S.c = 0 ∨ S.c = 1
  fit : S.u + S.k ≤ S.s
  oth : S.o ≤ S.s
  ko : S.k ≤ S.o

def roomF (S : CS) : Int := (S.s : Int) - (S.u : Int) - (S.k : Int)
def usedF (S : CS) (i : Int) : Int := if i = 0 then (S.a : Int) else if i = 1 then (S.b : Int) else 0
/-- m words more used where it is filled. -/
def putU (S : CS) (m : Nat) : CS := if S.c = 0 then { S with a := S.a + m } else { S with b := S.b + m }
def takes (S : CS) (n : Int) : Bool := decide (1 ≤ n ∧ n ≤ roomF S)
def takeA (S : CS) (n : Int) : Int := if takes S n then (S.u : Int) else 0
def takeS (S : CS) (n : Int) : CS := if takes S n then putU S n.toNat else S
def skips (S : CS) (n : Int) : Bool := decide (1 ≤ n ∧ n ≤ (S.k : Int))
def skipS (S : CS) (n : Int) : CS := if skips S n then { S with k := S.k - n.toNat } else S
def copyA (S : CS) (n : Int) : Int := if skips S n then (S.u : Int) else 0
def copyS (S : CS) (n : Int) : CS := if skips S n then putU { S with k := S.k - n.toNat } n.toNat else S
def turns (S : CS) : Bool := S.o == 0
def turnS (S : CS) : CS := if turns S then { S with k := S.u, c := 1 - S.c } else S
def dones (S : CS) : Bool := S.k == 0
def doneS (S : CS) : CS := if dones S then (if S.c = 0 then { S with b := 0 } else { S with a := 0 }) else S

section
variable {S : CS}
theorem CS.Ok.take (h : S.Ok) (n : Int) : (takeS S n).Ok := by
  obtain ⟨s, c, k, a, b⟩ := S
  obtain ⟨h1, h2, h3, h4, h5⟩ := h
  unfold takeS
  split
  · rename_i ht
    simp only [takes, roomF, CS.u, CS.o, putU, decide_eq_true_eq] at *
    rcases h2 with rfl | rfl <;> simp at * <;> constructor <;> simp [CS.u, CS.o] <;> omega
  · exact ⟨h1, h2, h3, h4, h5⟩
theorem CS.Ok.skip (h : S.Ok) (n : Int) : (skipS S n).Ok := by
  obtain ⟨s, c, k, a, b⟩ := S
  obtain ⟨h1, h2, h3, h4, h5⟩ := h
  unfold skipS
  split
  · rename_i ht
    simp only [skips, CS.u, CS.o, decide_eq_true_eq] at *
    rcases h2 with rfl | rfl <;> simp at * <;> constructor <;> simp [CS.u, CS.o] <;> omega
  · exact ⟨h1, h2, h3, h4, h5⟩
theorem CS.Ok.copy (h : S.Ok) (n : Int) : (copyS S n).Ok := by
  obtain ⟨s, c, k, a, b⟩ := S
  obtain ⟨h1, h2, h3, h4, h5⟩ := h
  unfold copyS
  split
  · rename_i ht
    simp only [skips, CS.u, CS.o, putU, decide_eq_true_eq] at *
    rcases h2 with rfl | rfl <;> simp at * <;> constructor <;> simp [CS.u, CS.o] <;> omega
  · exact ⟨h1, h2, h3, h4, h5⟩
theorem CS.Ok.turn (h : S.Ok) : (turnS S).Ok := by
  obtain ⟨s, c, k, a, b⟩ := S
  obtain ⟨h1, h2, h3, h4, h5⟩ := h
  unfold turnS
  split
  · rename_i ht
    simp only [turns, CS.u, CS.o, beq_iff_eq] at *
    rcases h2 with rfl | rfl <;> simp at * <;> constructor <;> simp [CS.u, CS.o] <;> omega
  · exact ⟨h1, h2, h3, h4, h5⟩
theorem CS.Ok.done (h : S.Ok) : (doneS S).Ok := by
  obtain ⟨s, c, k, a, b⟩ := S
  obtain ⟨h1, h2, h3, h4, h5⟩ := h
  unfold doneS
  split
  · rename_i ht
    simp only [dones, CS.u, CS.o, beq_iff_eq] at *
    rcases h2 with rfl | rfl <;> simp at * <;> constructor <;> simp [CS.u, CS.o] <;> omega
  · exact ⟨h1, h2, h3, h4, h5⟩
end

/-- A coil (of head type t) at block p. -/
structure CTab (t : TypeId) (w : World) (p : Nat) (S : CS) : Prop where
  own : Own w p t S.cells
  ok : S.Ok

section
variable {t : TypeId} {w w' : World} {p : Nat} {S : CS}
theorem CTab.kept (h : CTab t w p S) (k : Kept w w') : CTab t w' p S := ⟨h.own.kept k, h.ok⟩
theorem CTab.muts {D : List Nat} (h : CTab t w p S) (m : Mut D w w') (hp : p ∉ D) : CTab t w' p S := ⟨h.own.muts m hp, h.ok⟩
theorem CTab.lt (h : CTab t w p S) : p < w.heap.size := h.own.lt
theorem CTab.c0 (h : CTab t w p S) : w.cell? ⟨p, 0, none⟩ = some (.int .i64 (S.s : Int)) := h.own.blk.at 0 rfl
theorem CTab.c1 (h : CTab t w p S) : w.cell? ⟨p, 1, none⟩ = some (.int .i64 (S.c : Int)) := h.own.blk.at 1 rfl
theorem CTab.c2 (h : CTab t w p S) : w.cell? ⟨p, 2, none⟩ = some (.int .i64 (S.k : Int)) := h.own.blk.at 2 rfl
theorem CTab.c3 (h : CTab t w p S) : w.cell? ⟨p, 3, none⟩ = some (.int .i64 (S.a : Int)) := h.own.blk.at 3 rfl
theorem CTab.c4 (h : CTab t w p S) : w.cell? ⟨p, 4, none⟩ = some (.int .i64 (S.b : Int)) := h.own.blk.at 4 rfl
theorem CTab.fz (h : CTab t w p S) (i : Nat) : w.frozen? ⟨p, i, none⟩ = false := h.own.blk.fz i
/-- Both spaces empty. -/
theorem CTab.new (w : World) (t : TypeId) {s : Nat} (hs : s ≤ 2048) : CTab t (w.alloc (.cells #[.int .i64 (s : Int), .int .i64 0, .int .i64 0, .int .i64 0, .int .i64 0] t)) w.heap.size ⟨s, 0, 0, 0, 0⟩ :=
  ⟨Own.new w (CS.cells ⟨s, 0, 0, 0, 0⟩) t, hs, .inl rfl, by simp [CS.u], by simp [CS.o], by simp⟩
end
end Go.Proofs.Ytahpnnjemjjfhaa
