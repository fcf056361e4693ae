/-
  Contracts of the document's table (package sporef6): the same functions of its contents as package tint's.
-/
import Derived.Test.YtiigmmmhhpdmdaaB01
namespace Go.Proofs.Ytiigmmmhhpdmdaa
open Go.RowKit

/-- The document's table at block b; its states, heads and colours at blocks gs, gh, gc. -/
structure RtT (w : World) (b gs gh gc n : Nat) (T : Nat → Fr) : Prop where
  head : Own w b 156 [.slice (some ⟨gs, 0, none⟩) n n, .slice (some ⟨gh, 0, none⟩) n n, .slice (some ⟨gc, 0, none⟩) n n]
  rs : w.rowIs gs 3 n (fun j => .int .i64 (T j).s)
  rh : w.rowIs gh 4 n (fun j => .bool (T j).h)
  rc : w.rowIs gc 4 n (fun j => .bool (T j).c)
  ne : gh ≠ gc
  few : n ≤ 1024

section
variable {w w' : World} {b gs gh gc n : Nat} {T : Nat → Fr}
theorem RtT.kept (h : RtT w b gs gh gc n T) (k : Kept w w') : RtT w' b gs gh gc n T := ⟨h.head.kept k, k.row h.rs, k.row h.rh, k.row h.rc, h.ne, h.few⟩
theorem RtT.muts {D : List Nat} (h : RtT w b gs gh gc n T) (m : Mut D w w') (h0 : b ∉ D) (h1 : gs ∉ D) (h2 : gh ∉ D) (h3 : gc ∉ D) : RtT w' b gs gh gc n T := ⟨h.head.muts m h0, m.row h.rs h1, m.row h.rh h2, m.row h.rc h3, h.ne, h.few⟩
theorem RtT.hd0 (h : RtT w b gs gh gc n T) : w.cell? ⟨b, 0, none⟩ = some (.slice (some ⟨gs, 0, none⟩) n n) := h.head.blk.at 0 rfl
theorem RtT.hd1 (h : RtT w b gs gh gc n T) : w.cell? ⟨b, 1, none⟩ = some (.slice (some ⟨gh, 0, none⟩) n n) := h.head.blk.at 1 rfl
theorem RtT.hd2 (h : RtT w b gs gh gc n T) : w.cell? ⟨b, 2, none⟩ = some (.slice (some ⟨gc, 0, none⟩) n n) := h.head.blk.at 2 rfl
theorem RtT.nsh (h : RtT w b gs gh gc n T) : gs ≠ gh := by
  rintro rfl
  obtain ⟨c1, h1, _⟩ := h.rs
  obtain ⟨c2, h2, _⟩ := h.rh
  rw [h1] at h2
  simp at h2
theorem RtT.nsc (h : RtT w b gs gh gc n T) : gs ≠ gc := by
  rintro rfl
  obtain ⟨c1, h1, _⟩ := h.rs
  obtain ⟨c2, h2, _⟩ := h.rc
  rw [h1] at h2
  simp at h2
theorem RtT.nbs (h : RtT w b gs gh gc n T) : b ≠ gs := h.head.ne h.rs (by decide)
theorem RtT.nbh (h : RtT w b gs gh gc n T) : b ≠ gh := h.head.ne h.rh (by decide)
theorem RtT.nbc (h : RtT w b gs gh gc n T) : b ≠ gc := h.head.ne h.rc (by decide)
end

theorem stt_usd (n : Nat) (T : Nat → Fr) (i : Int) : (stt n T i == 2) = usd n T i := by
  cases e : inn n i <;> simp [stt, usd, e]

theorem RtT.seth {w : World} {b gs gh gc n : Nat} {T : Nat → Fr} (h : RtT w b gs gh gc n T) (k : Nat) (v : Bool) : RtT (w.setCell ⟨gh, k, none⟩ (.bool v)) b gs gh gc n (fun i => if i = k then ⟨(T i).s, v, (T i).c⟩ else T i) :=
  ⟨h.head.set_other (Ne.symm h.nbh) _, (h.rs.setOther h.nsh _).congr fun j _ => by by_cases e : j = k <;> simp [e], (h.rh.set _ _).congr fun j _ => by by_cases e : j = k <;> simp [e], (h.rc.setOther (Ne.symm h.ne) _).congr fun j _ => by by_cases e : j = k <;> simp [e], h.ne, h.few⟩
theorem RtT.setc {w : World} {b gs gh gc n : Nat} {T : Nat → Fr} (h : RtT w b gs gh gc n T) (k : Nat) (v : Bool) : RtT (w.setCell ⟨gc, k, none⟩ (.bool v)) b gs gh gc n (fun i => if i = k then ⟨(T i).s, (T i).h, v⟩ else T i) :=
  ⟨h.head.set_other (Ne.symm h.nbc) _, (h.rs.setOther h.nsc _).congr fun j _ => by by_cases e : j = k <;> simp [e], (h.rh.setOther h.ne _).congr fun j _ => by by_cases e : j = k <;> simp [e], (h.rc.set _ _).congr fun j _ => by by_cases e : j = k <;> simp [e], h.ne, h.few⟩
theorem RtT.sets {w : World} {b gs gh gc n : Nat} {T : Nat → Fr} (h : RtT w b gs gh gc n T) (k : Nat) (v : Int) : RtT (w.setCell ⟨gs, k, none⟩ (.int .i64 v)) b gs gh gc n (fun i => if i = k then ⟨v, (T i).h, (T i).c⟩ else T i) :=
  ⟨h.head.set_other (Ne.symm h.nbs) _, (h.rs.set _ _).congr fun j _ => by by_cases e : j = k <;> simp [e], (h.rh.setOther (Ne.symm h.nsh) _).congr fun j _ => by by_cases e : j = k <;> simp [e], (h.rc.setOther (Ne.symm h.nsc) _).congr fun j _ => by by_cases e : j = k <;> simp [e], h.ne, h.few⟩

end Go.Proofs.Ytiigmmmhhpdmdaa
