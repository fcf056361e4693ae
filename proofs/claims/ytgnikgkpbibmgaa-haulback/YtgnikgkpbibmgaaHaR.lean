/-
  A row of truth values that a law makes; writes beside it.
-/
import Derived.Test.YtgnikgkpbibmgaaHaQ
namespace Go.Proofs.Ytgnikgkpbibmgaa
open Go.RowKit

theorem row_made_bool (w : World) (n : Nat) : (w.alloc (.cells (madeCells #[.bool false] n) 4)).rowIs w.heap.size 4 n (fun _ => .bool false) := by
  have h := World.rowIs_alloc w (madeCells #[.bool false] n) 4 (fun _ => .bool false) (fun i hi => by
    rw [size_madeCells] at hi
    have e : i % 1 = 0 := by omega
    simp [madeCells, hi, e])
  rwa [size_madeCells] at h
theorem Rw17.congr {U u : World} {X : Bl} {ab l : Nat} {V V' : Nat → Bool} (h : Rw17 U u X ab l V) (he : ∀ i, i < l → V i = V' i) : Rw17 U u X ab l V' :=
  ⟨h.row.congr fun i hi => by rw [he i hi], h.lo, h.na⟩
/-- A law's memory, shade and coil, and a row beside them. -/
structure Mr (U u : World) (X : Bl) (n q : Nat) (F : Nat → Cx) (S : ShS) (K : CS) (ab l : Nat) (V : Nat → Bool) : Prop where
  mz : Mz U u X n q F S K
  rw : Rw17 U u X ab l V
section
variable {U u u' : World} {X : Bl} {ab l n q : Nat} {V : Nat → Bool} {F G : Nat → Cx} {S : ShS} {K : CS}
theorem Mr.wr (i : Int) (a : Nat) (z : Cx) (h : Mr U u X n q F S K ab l V) (hi : i = (a : Int)) (ha : a < n) (hq : q ≤ 1000000) (he : ∀ j, (if j = a then z else F j) = G j) :
    Calls Try.prog 12 #[.pointer (some ⟨X.M, 0, none⟩), .int .i64 i, .complex .f64 z.re z.im] u fun e w' => e = .returned (.int .i64 0) ∧ Mr U w' X n (q + 1) G S K ab l V :=
  (Mz.wrm i a z h.mz hi ha hq he).mono fun _ _ ⟨h1, h2, m⟩ => ⟨h1, h2, h.rw.mut m⟩
theorem Mr.set (i : Int) (h : Mr U u X n q F S K ab l V) : Calls Try.prog 11 #[.pointer (some ⟨X.tb, 0, none⟩), .int .i64 i, .int .i64 2, .bool true, .bool true] u fun e w' => e = .returned (.bool (inn S.n i && isSt 2)) ∧ Mr U w' X n q F (S.set i 2 true true) K ab l V :=
  (h.mz.set i 2 true true).mono fun _ _ ⟨h1, h2, m⟩ => ⟨h1, h2, h.rw.mut m⟩
theorem Mr.still (h : Mr U u X n q F S K ab l V) (k : Kept u u') : Mr U u' X n q F S K ab l V := ⟨h.mz.still k, h.rw.kept k⟩
theorem Mr.begin (h : Mz U u X n q F S K) (l : Nat) : Mr U (u.alloc (.cells (madeCells #[.bool false] l) 4)) X n q F S K u.heap.size l (fun _ => false) :=
  ⟨h.still ((Kept.refl u).alloc _ _), row_made_bool u l, h.kept.size, fun z => by have := (h.mx.own z).2; omega⟩
end
/-- A run beside it. -/
theorem rz_step {L : Pl} {U u : World} {X : Bl} {len p q0 c0 t ab l : Nat} {V : Nat → Bool} {E : En} (he : Env L E len) (h : Rz L U X len p E q0 c0 t u) (hr : Rw17 U u X ab l V) (hp : ab ≠ p) (hlt : t < L.tm L.N) (hq0 : q0 ≤ 500000) (hc0 : c0 ≤ 500000) :
    Calls Try.prog 19 #[.pointer (some ⟨p, 0, none⟩), .pointer (some ⟨X.M, 0, none⟩), .pointer (some ⟨X.sb, 0, none⟩), .pointer (some ⟨X.kb, 0, none⟩)] u fun e w' => e = .returned (.bool (decide (t + 1 = L.tm L.N))) ∧ Rz L U X len p E q0 c0 (t + 1) w' ∧ Rw17 U w' X ab l V :=
  (h.step he hlt hq0 hc0).mono fun _ _ ⟨h1, h2, m⟩ => ⟨h1, h2, hr.muts m (by simp only [List.mem_cons, not_or]; exact ⟨hp, hr.na⟩)⟩
end Go.Proofs.Ytgnikgkpbibmgaa
