/-
  Contracts of package trace: where a program begins; a whole run.
-/
import Derived.Test.YtpdclckgnajcdaaGreatTrI
namespace Go.Proofs.YtpdclckgnajcdaaGreat
open Go.RowKit

def td0 (head : Int) (sen : Bool) : Td := ⟨head, sen, false, none, 0, 0, 0, 0, 1, head * 8 + 1, 0, head, 0, 0, 0, 0⟩
def Began (n0 n1 : Int) (sl : Nat) (S : Nat → Sh) (R : Nat → Nat → Bool) (E : En) : Prop := E.n0 = n0 ∧ E.n1 = n1 ∧ E.sl = sl ∧ E.S = S ∧ E.R = R
def z24 (head : Int) (sen : Bool) : List Value := [.int .i64 0, .int .i64 0, .int .i64 0, .int .i64 0, .int .i64 0, .int .i64 0, .int .i64 0, .int .i64 0, .slice none 0 0, .int .i64 head, .bool sen, .bool false, .slice none 0 0, .int .i64 0, .int .i64 0, .int .i64 0, .int .i64 0, .int .i64 0, .int .i64 0, .int .i64 head, .int .i64 0, .int .i64 0, .int .i64 0, .int .i64 0]

set_option maxRecDepth 10000 in
set_option maxHeartbeats 4000000 in
theorem tnew_is (n0 n1 n2 n3 n4 n5 n6 n7 : Int) (sx : Option Addr) (sl sc : Nat) (S : Nat → Sh) (R : Nat → Nat → Bool) (head : Int) (sen : Bool) (RT : Nat → Bool) (w : World) (hS : Shps w sx sl S) (hR : ∀ i, i < sl → Refs w (S i).x (S i).l (R i)) (hg : Good n0 n1 n2 n3 n4 n5 n6 n7 sl S) (hh : 0 ≤ head ∧ head < n0) :
    Calls Tryz.prog 20 #[.agg #[.int .i64 n0, .int .i64 n1, .int .i64 n2, .int .i64 n3, .int .i64 n4, .int .i64 n5, .int .i64 n6, .int .i64 n7, .slice sx sl sc], .int .i64 head, .bool sen] w fun e w' => ∃ p E, e = .returned (.pointer (some ⟨p, 0, none⟩)) ∧ TS w' p E RT (td0 head sen) ∧ w.heap.size ≤ p ∧ Kept w w' ∧ Began n0 n1 sl S R E := by
  have C0 : Hid (∀ w', Kept w w' → Calls Tryz.prog 48 #[.agg #[.int .i64 n0, .int .i64 n1, .int .i64 n2, .int .i64 n3, .int .i64 n4, .int .i64 n5, .int .i64 n6, .int .i64 n7, .slice sx sl sc], .int .i64 head, .int .i64 1] w' _) := fun w' k => frag_any n0 n1 n2 n3 n4 n5 n6 n7 sx sl sc S head 1 _ _ w' (hS.kept k) (At.is _ ⟨hg, hh, by omega, by omega⟩)
  have C1 : Hid (∀ w', Kept w w' → Calls Tryz.prog 49 #[.agg #[.int .i64 n0, .int .i64 n1, .int .i64 n2, .int .i64 n3, .int .i64 n4, .int .i64 n5, .int .i64 n6, .int .i64 n7, .slice sx sl sc]] w' _) := fun w' k => copy_any n0 n1 n2 n3 n4 n5 n6 n7 sx sl sc S R w' (by have := hg.2.2.1; omega) (fun i hi => by have := may_few (hg.2.2.2 i hi); omega) (hS.kept k) (fun i hi => (hR i hi).kept k)
  have HG : Hid (Good n0 n1 n2 n3 n4 n5 n6 n7 sl S) := hg
  clear hS hR hg hh
  go_enter Tryz.func20, Tryz.ntmps20
  go_wp2_with fail
  generalize hW0 : w.alloc (Obj.cells #[Value.int .i64 n0, .int .i64 n1, .int .i64 n2, .int .i64 n3, .int .i64 n4, .int .i64 n5, .int .i64 n6, .int .i64 n7, .slice sx sl sc] _) = W0
  have b0 : Blk W0 w.heap.size (cl n0 n1 n2 n3 n4 n5 n6 n7 (.slice sx sl sc)) := by rw [← hW0]; exact Blk.new w _ _
  have k0 : Kept w W0 := by rw [← hW0]; exact (Kept.refl w).alloc _ _
  have z0 : W0.heap.size = w.heap.size + 1 := by rw [← hW0]; simp
  clear hW0
  generalize hW1 : W0.alloc _ = W1
  have b1 : Blk W1 (w.heap.size + 1) (z24 head sen) := by rw [← hW1, ← z0]; exact Blk.new W0 _ _
  have k1 : Kept W0 W1 := by rw [← hW1]; exact (Kept.refl W0).alloc _ _
  have z1 : W1.heap.size = w.heap.size + 1 + 1 := by rw [← hW1]; simp [z0]
  clear hW1
  refine (C0.out _ (k0.trans k1)).mono ?_
  rintro e w2 ⟨rfl, K2⟩
  have HA : Hid (Blk w2 (w.heap.size + 1) (z24 head sen) ∧ Kept w w2 ∧ Blk w2 w.heap.size (cl n0 n1 n2 n3 n4 n5 n6 n7 (.slice sx sl sc)) ∧ w.heap.size + 1 < w2.heap.size) := ⟨b1.kept K2, (k0.trans k1).trans K2, (b0.kept k1).kept K2, by have := K2.size; omega⟩
  clear b0 b1 k0 k1 z0 z1 K2 C0
  have a0 := HA.out.2.2.1.at 0 rfl
  have a1 := HA.out.2.2.1.at 1 rfl
  have a2 := HA.out.2.2.1.at 2 rfl
  have a3 := HA.out.2.2.1.at 3 rfl
  have a4 := HA.out.2.2.1.at 4 rfl
  have a5 := HA.out.2.2.1.at 5 rfl
  have a6 := HA.out.2.2.1.at 6 rfl
  have a7 := HA.out.2.2.1.at 7 rfl
  have a8 := HA.out.2.2.1.at 8 rfl
  go_wp2_with fail
  refine (C1.out _ HA.out.2.1).mono ?_
  rintro e w3 ⟨g, T, rfl, hgg, hrow, hcop, K3⟩
  have HB : Hid (Blk w3 (w.heap.size + 1) (z24 head sen) ∧ Kept w w3 ∧ w.heap.size + 1 < g ∧ w3.rowIs g 29 (sl * 2) (cf T) ∧ ∀ i, i < sl → Cop w3 g (S i) (T i) (R i)) := ⟨HA.out.1.kept K3, HA.out.2.1.trans K3, by have := HA.out.2.2.2; omega, hrow, hcop⟩
  clear HA a0 a1 a2 a3 a4 a5 a6 a7 a8 hgg hrow hcop K3 C1
  have c0 := HB.out.1.at 0 rfl
  have c1 := HB.out.1.at 1 rfl
  have c2 := HB.out.1.at 2 rfl
  have c3 := HB.out.1.at 3 rfl
  have c4 := HB.out.1.at 4 rfl
  have c5 := HB.out.1.at 5 rfl
  have c6 := HB.out.1.at 6 rfl
  have c7 := HB.out.1.at 7 rfl
  have c8 := HB.out.1.at 8 rfl
  have c16 := HB.out.1.at 16 rfl
  have c17 := HB.out.1.at 17 rfl
  have fz := HB.out.1.fz
  go_wp2_with fail
  generalize hW4 : (((((((((((w3.setCell _ _).setCell _ _).setCell _ _).setCell _ _).setCell _ _).setCell _ _).setCell _ _).setCell _ _).setCell _ _).setCell _ _).setCell _ _) = W4
  have b4 : Blk W4 (w.heap.size + 1) (tdl ⟨n0, n1, n2, n3, n4, n5, n6, n7, sl, g, S, T, R⟩ (td0 head sen)) := by
    rw [← hW4]
    exact (((((((((((HB.out.1.set (i := 0) rfl _).set (i := 1) rfl _).set (i := 2) rfl _).set (i := 3) rfl _).set (i := 4) rfl _).set (i := 5) rfl _).set (i := 6) rfl _).set (i := 7) rfl _).set (i := 8) rfl _).set (i := 17) rfl _).set (i := 16) rfl _)
  have m4 : Mut [w.heap.size + 1] w3 W4 := by
    rw [← hW4]
    exact ((((((((((((Mut.refl _ _).setCell (by simp) _).setCell (by simp) _).setCell (by simp) _).setCell (by simp) _).setCell (by simp) _).setCell (by simp) _).setCell (by simp) _).setCell (by simp) _).setCell (by simp) _).setCell (by simp) _).setCell (by simp) _)
  have HF : Hid (TS W4 (w.heap.size + 1) ⟨n0, n1, n2, n3, n4, n5, n6, n7, sl, g, S, T, R⟩ RT (td0 head sen) ∧ Kept w W4) :=
    ⟨⟨b4, m4.row HB.out.2.2.2.1 (by have := HB.out.2.2.1; simp; omega), fun i hi => cop_muts (HB.out.2.2.2.2 i hi) m4 (fun y _ _ hy => by have h1 := HB.out.2.2.1; have h2 : g < y := hy; simp; omega), HB.out.2.2.1, HG.out, fun h => absurd h (by simp [td0]), fun k o h => absurd h (by simp [td0])⟩, HB.out.2.1.muts m4 (by simp)⟩
  clear hW4 b4 m4 HB c0 c1 c2 c3 c4 c5 c6 c7 c8 c16 c17 fz
  go_wp2
  go_ret
  exact ⟨_, _, rfl, HF.out.1, by omega, HF.out.2, rfl, rfl, rfl, rfl, rfl⟩


section
variable {w0 : Bs} {p b M n sb tb q k t q0 c0 : Nat} {hm : Int} {F : Nat → Cx} {E : En} {x : Th} {sen : Bool} {J : Nat → Nat → ShS → Prop} {d : Td} {S : ShS}

/-- A run, t steps done. -/
abbrev Run (w0 : Bs) (p b M n sb tb : Nat) (F : Nat → Cx) (E : En) (x : Th) (sen : Bool) (J : Nat → Nat → ShS → Prop) (q0 c0 t : Nat) (u : World) : Prop := Nx w0 p b M n sb tb F E x sen J t (q0 + t) (c0 + t) u

theorem run_begin {w w' : World} {g pb : Nat} {v : Value} (hk : Kept w0.w w) (hmm : Mm w b M n F q0) (hlm : w0.w.heap.size ≤ M) (hsh : ShC w w0.w.heap.size sb tb g pb v S) (hbs : ∀ k, k ∈ ShF sb tb g pb v → k ≠ b ∧ k ≠ M ∧ w0.X k = none) (hX : ∀ k o, w0.X k = some o → w.heap[k]? = some o ∧ k ≠ M)
    (ht : TS w' p E x.R (td0 (x.L 0) sen)) (hp : w.heap.size ≤ p) (hK : Kept w w') (hc : S.c ≤ c0) (hJ : J 0 0 S) : Run w0 p b M n sb tb F E x sen J q0 c0 0 w' := by
  refine ⟨td0 (x.L 0) sen, S, q0, ⟨ht, hmm.kept hK, hk.trans hK, Nat.le_trans hk.size hp, hlm, Nat.lt_of_lt_of_le hmm.hd.lt hp, Nat.lt_of_lt_of_le hmm.row.lt hp, ⟨g, pb, v, hsh.kept hK, fun i hi => ⟨fun r => ?_, hbs i hi⟩⟩, fun k o hk' => ⟨(hK.below.block k (heap_lt (hX k o hk').1)).trans (hX k o hk').1, by have := heap_lt (hX k o hk').1; omega, (hX k o hk').2⟩⟩, rfl, Nat.le_refl _, hc, .inl ⟨rfl, rfl, rfl, rfl, rfl, rfl, rfl, rfl, rfl, rfl, rfl, rfl, rfl, rfl, hJ⟩⟩
  have h1 := ht.lo r
  have h2 := (hsh.own i hi).2
  omega
theorem run_go (he : Env E n F k hm x) (hJ : Jok x sen J) (w : World) (h : Run w0 p b M n sb tb F E x sen J q0 c0 t w) (hlt : t < x.all) (hq : q0 ≤ 50000) (hc : c0 ≤ 50000) :
    Calls Tryz.prog 22 #[.pointer (some ⟨p, 0, none⟩), .pointer (some ⟨M, 0, none⟩), .pointer (some ⟨sb, 0, none⟩)] w fun e w' => e = .returned (.bool (decide (t + 1 = x.all))) ∧ Run w0 p b M n sb tb F E x sen J q0 c0 (t + 1) w' := by
  obtain ⟨d, S, q, hA, rfl, hq', hc', hs⟩ := h
  have hall := he.ok.all_le
  refine (run_step he hJ w hA hs hlt (by omega) (by unfold lots; omega)).mono ?_
  rintro e w' ⟨rfl, d', S', q', hA', hsp, hq2, hc2, hs'⟩
  exact ⟨rfl, d', S', q', hA', hsp, by omega, by omega, hs'⟩
theorem run_done (w : World) (h : Run w0 p b M n sb tb F E x sen J q0 c0 t w) :
    Calls Tryz.prog 21 #[.pointer (some ⟨p, 0, none⟩)] w fun e w' => e = .returned (.bool (decide (t = x.all))) ∧ w' = w := by
  obtain ⟨d, S, q, hA, rfl, _, _, hs⟩ := h
  exact tdone_is _ w hA.ts hs.all.1
theorem run_steps (w : World) (h : Run w0 p b M n sb tb F E x sen J q0 c0 t w) :
    Calls Tryz.prog 25 #[.pointer (some ⟨p, 0, none⟩)] w fun e w' => e = .returned (.int .i64 (t : Int)) ∧ w' = w := by
  obtain ⟨d, S, q, hA, rfl, _, _, hs⟩ := h
  exact tsteps_is w hA.ts
theorem run_errno (w : World) (h : Run w0 p b M n sb tb F E x sen J q0 c0 x.all w) :
    Calls Tryz.prog 24 #[.pointer (some ⟨p, 0, none⟩)] w fun e w' => e = .returned (.int .i64 0) ∧ w' = w := by
  obtain ⟨d, S, q, hA, hsp, _, _, hs⟩ := h
  have h1 := hs.all
  rw [hsp, decide_eq_true rfl] at h1
  rw [← (h1.2.2 h1.1).1]
  exact terrno_is w hA.ts
/-- At its end. -/
theorem run_end {w : World} (h : Run w0 p b M n sb tb F E x sen J q0 c0 x.all w) : ∃ S, Ms w0.w w sb tb S ∧ S.c ≤ c0 + x.all ∧ J (x.l - 1) x.N S := by
  obtain ⟨d, S, q, hA, hsp, _, hc, hs⟩ := h
  have h1 := hs.all
  rw [hsp, decide_eq_true rfl] at h1
  obtain ⟨g, pb, v, hsh, _⟩ := hA.sh
  exact ⟨S, ⟨hA.kept, g, pb, v, hsh⟩, hc, (h1.2.2 h1.1).2⟩
theorem run_ex {w : World} (h : Run w0 p b M n sb tb F E x sen J q0 c0 t w) {k : Nat} {o : Obj} (hk : w0.X k = some o) : w.heap[k]? = some o := h.elim fun _ ⟨_, _, hA, _⟩ => (hA.ex k o hk).1
theorem run_kept {w : World} (h : Run w0 p b M n sb tb F E x sen J q0 c0 t w) : Kept w0.w w := h.elim fun _ ⟨_, _, hA, _⟩ => hA.kept
theorem run_all {w : World} (h : Run w0 p b M n sb tb F E x sen J q0 c0 t w) : t ≤ x.all := by
  obtain ⟨d, S, q, hA, rfl, _, _, hs⟩ := h
  exact hs.all.2.1
end
end Go.Proofs.YtpdclckgnajcdaaGreat
