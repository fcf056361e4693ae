/-
  Package graph's small functions that read.
-/
import Derived.Test.YtbmcbkebcchjmaaGreatDoorGra20
namespace Go.Proofs.YtbmcbkebcchjmaaGreatDoor
open Go.RowKit
attribute [local go_sem] run_store_complex

set_option maxHeartbeats 400000 in
theorem gnone_any (w : World) : Calls Tryz.prog 22 #[] w fun e w' => e = .returned noneV.val ∧ Kept w w' := by
  go_enter Tryz.func22, Tryz.ntmps22
  go_wp2_with fail
  refine (none_any _).mono ?_
  rintro e w' ⟨rfl, rfl⟩
  go_wp2
  exact bodyPost_ret_by (results_blk rfl _ _ w.heap.size noneV.cs rfl (Blk.new w noneV.cs 34) Tryz.underlying34 (by kernel_rfl)) rfl ⟨rfl, (Kept.refl w).alloc _ _⟩

set_option maxHeartbeats 400000 in
theorem gnumber_any (x y : Nat) (w : World) : Calls Tryz.prog 62 #[.complex .f64 x y] w fun e w' => e = .returned (.agg #[.bool false, .complex .f64 x y]) ∧ Kept w w' := by
  go_enter Tryz.func62, Tryz.ntmps62
  go_wp2
  exact bodyPost_ret_by (results_blk rfl _ _ w.heap.size (V.cs ⟨false, x, y⟩) rfl (Blk.new w (V.cs ⟨false, x, y⟩) 34) Tryz.underlying34 (by kernel_rfl)) rfl ⟨rfl, (Kept.refl w).alloc _ _⟩

theorem zeroSl (w : World) : (zeroValue 50).run Tryz.prog w = .ok (.slice none 0 0) w := by kernel_rfl
theorem zeroV (w : World) : (zeroValue 34).run Tryz.prog w = .ok (.agg #[.bool false, .complex .f64 0 0]) w := by kernel_rfl
theorem zeroU (w : World) : (zeroValue 70).run Tryz.prog w = .ok (.agg #[]) w := by kernel_rfl
theorem in0 : IntKind.min .i64 ≤ (0 : Int) ∧ (0 : Int) ≤ IntKind.max .i64 := by decide

section
variable {C : Cf} {base p : Nat} {F : List Nat} {A : Ga}

set_option maxHeartbeats 1000000 in
theorem there_yes {w : World} (h : GrA C w base p F A) {vs : List V} (hL : A.L = some vs) : Calls Tryz.prog 23 #[.pointer (some ⟨p, 0, none⟩), .int .i64 0] w fun e w' => e = .returned (.bool true) ∧ Kept w w' := by
  have c10 := h.at 10 (v := .map (some A.lb)) rfl
  have hl := h.loc
  rw [hL] at hl
  have hlk := (Mp.hit hl in0 Tryz.underlying57 (zeroSl w)).1
  clear h hl hL
  go_enter Tryz.func23, Tryz.ntmps23
  go_wp2
  go_ret
  exact ⟨rfl, Kept.refl _⟩
set_option maxHeartbeats 1000000 in
theorem there_no {w : World} (h : GrA C w base p F A) (hL : A.L = none) : Calls Tryz.prog 23 #[.pointer (some ⟨p, 0, none⟩), .int .i64 0] w fun e w' => e = .returned (.bool false) ∧ Kept w w' := by
  have c10 := h.at 10 (v := .map (some A.lb)) rfl
  have hl := h.loc
  rw [hL] at hl
  have hlk := Mp.miss hl in0 Tryz.underlying57 (zeroSl w)
  clear h hl hL
  go_enter Tryz.func23, Tryz.ntmps23
  go_wp2
  go_ret
  exact ⟨rfl, Kept.refl _⟩

theorem index_ref (i : Nat) (hi : i ≤ 1000000) (w : World) : Calls Tryz.prog 58 #[.complex .f64 (floatOfInt .f64 ((i : Int) + 1)) 4607182418800017408] w fun e w' => e = .returned (.tuple #[.int .i64 (i : Int), .bool true]) ∧ w' = w := by
  have := index_in ((i : Int) + 1) 4607182418800017408 w true (by rw [nb_one]; simp) (by omega) (by omega)
  simpa using this
theorem index_none (w : World) : Calls Tryz.prog 58 #[.complex .f64 0 4607182418800017408] w fun e w' => e = .returned (.tuple #[.int .i64 0, .bool false]) ∧ w' = w := by
  have := index_out 0 4607182418800017408 w (by decide) (by omega)
  rwa [fi_zero] at this

set_option maxHeartbeats 1000000 in
theorem thing_any {w : World} (h : GrA C w base p F A) {i : Nat} (hi : i < A.E.length) {g cap : Nat} (hg : A.tv = .slice (some ⟨g, 0, none⟩) A.E.length cap) :
    Calls Tryz.prog 36 #[.pointer (some ⟨p, 0, none⟩), (refV i).val] w fun e w' => e = .returned (.pointer (some ⟨g, i * 3, none⟩)) ∧ Kept w w' := by
  have hf := h.few
  have HI : Hid (∀ W, Calls Tryz.prog 58 #[.complex .f64 (floatOfInt .f64 ((i : Int) + 1)) 4607182418800017408] W fun e w' => e = .returned (.tuple #[.int .i64 (i : Int), .bool true]) ∧ w' = W) := fun W => index_ref i (by omega) W
  have HG : Hid (GrA C w base p F A) := h
  clear h
  unfold refV V.val
  dsimp only
  generalize floatOfInt .f64 ((i : Int) + 1) = fx at HI ⊢
  generalize hn : A.E.length = n at *
  go_enter Tryz.func36, Tryz.ntmps36
  go_wp2_with fail
  generalize hW1 : w.alloc _ = W1
  have K1 : Hid (Kept w W1) := by rw [← hW1]; exact (Kept.refl w).alloc _ _
  clear hW1
  refine (HI.out _).mono ?_
  rintro e w2 ⟨rfl, rfl⟩
  have c9 := (HG.out.kept K1.out).at 9 (v := A.tv) rfl
  rw [hg] at c9
  go_wp2
  go_ret
  exact ⟨rfl, K1.out⟩

/-- Where the shape of a kind lies. -/
theorem GrA.kind {w : World} (h : GrA C w base p F A) {k : Nat} (hk : k < C.l) : A.sx < w.heap.size ∧ w.cell? ⟨A.sx, k * 2, none⟩ = some (.bool (C.A k)) ∧ w.cell? ⟨A.sx, k * 2 + 1, none⟩ = some (.slice (A.sh k).x (C.L k) (A.sh k).c) := by
  obtain ⟨b, o, e, hb, hc⟩ := h.cm.shps (by omega)
  simp only [Option.some.injEq, Addr.mk.injEq, and_true] at e
  obtain ⟨rfl, rfl⟩ := e
  have := hc k hk
  rw [h.cm.arr k hk, h.cm.len k hk] at this
  simp only [Nat.zero_add] at this
  exact ⟨hb, this⟩

set_option maxHeartbeats 1000000 in
theorem gshape_any {w : World} (h : GrA C w base p F A) (O : C.Ok) {i : Nat} (hi : i < A.E.length) {g cap : Nat} (hg : A.tv = .slice (some ⟨g, 0, none⟩) A.E.length cap) :
    Calls Tryz.prog 45 #[.pointer (some ⟨p, 0, none⟩), .pointer (some ⟨g, i * 3, none⟩)] w fun e w' => e = .returned (.agg #[.bool (C.A A.E[i].p.kd), .slice (A.sh A.E[i].p.kd).x (C.L A.E[i].p.kd) (A.sh A.E[i].p.kd).c]) ∧ Kept w w' := by
  have hk := h.kds A.E[i] (List.getElem_mem hi)
  obtain ⟨hb, a0, a1⟩ := h.kind hk
  have t0 := h.thing hg hi (j := 0) (u := .int .i64 (A.E[i].p.kd : Int)) rfl
  have c8 := h.at 8 (v := .slice (some ⟨A.sx, 0, none⟩) C.l C.l) rfl
  have hp := h.plt
  have hgl := h.thlt hg
  have hl8 := O.l8
  simp only [Nat.add_zero] at t0
  generalize A.E[i].p.kd = k at *
  generalize A.sx = sx at *
  generalize (A.sh k).x = x at *
  generalize (A.sh k).c = c at *
  generalize C.A k = ab at *
  generalize C.L k = lk at *
  generalize C.l = cl' at *
  clear h O hi hg
  have q0 := fun (B : Array Value) (t : TypeId) => (((Kept.refl w).alloc B t).cell (a := ⟨sx, k * 2, none⟩) hb).trans a0
  have q1 := fun (B : Array Value) (t : TypeId) => (((Kept.refl w).alloc B t).cell (a := ⟨sx, k * 2 + 1, none⟩) hb).trans a1
  have q2 := fun (B : Array Value) (t : TypeId) => (((Kept.refl w).alloc B t).cell (a := ⟨g, i * 3, none⟩) hgl).trans t0
  have q3 := fun (B : Array Value) (t : TypeId) => (((Kept.refl w).alloc B t).cell (a := ⟨p, 8, none⟩) hp).trans c8
  go_enter Tryz.func45, Tryz.ntmps45
  go_wp2_with fail
  go_region
  go_wp2
  exact bodyPost_ret_by (results_blk rfl _ _ w.heap.size [.bool ab, .slice x lk c] rfl ((Blk.new w [.bool ab, .slice x lk c] 43).kept (Kept.refl _).drew) Tryz.underlying43 (by kernel_rfl)) rfl ⟨rfl, ((Kept.refl w).alloc _ _).drew⟩

/-- Whether the field, or the element, is a reference. -/
def Cf.isR (C : Cf) (k j : Nat) : Bool := if C.A k then C.R k 0 else C.R k j
/-- It has one. -/
def Cf.has (C : Cf) (k j : Nat) (ln : Int) : Prop := if C.A k then (j : Int) < ln else j < C.L k

theorem GrA.ref {w : World} (h : GrA C w base p F A) {k j : Nat} (hk : k < C.l) (hj : j < C.L k) : ∃ b o, (A.sh k).x = some ⟨b, o, none⟩ ∧ b < w.heap.size ∧ w.cell? ⟨b, o + j, none⟩ = some (.bool (C.R k j)) := by
  have hl := h.cm.len k hk
  obtain ⟨b, o, e, hb, hc⟩ := h.cm.refs k hk (by omega)
  exact ⟨b, o, e, hb, hc j (by omega)⟩

set_option maxHeartbeats 1000000 in
theorem isRef_any {w : World} (h : GrA C w base p F A) (O : C.Ok) {i : Nat} (hi : i < A.E.length) {g cap : Nat} (hg : A.tv = .slice (some ⟨g, 0, none⟩) A.E.length cap) {j : Nat} (hj : C.A A.E[i].p.kd = false → j < C.L A.E[i].p.kd) :
    Calls Tryz.prog 57 #[.pointer (some ⟨p, 0, none⟩), .pointer (some ⟨g, i * 3, none⟩), .int .i64 (j : Int)] w fun e w' => e = .returned (.bool (C.isR A.E[i].p.kd j)) ∧ Kept w w' := by
  have hk := h.kds A.E[i] (List.getElem_mem hi)
  have HS : Hid (∀ W, Kept w W → _) := fun W q => gshape_any (h.kept q) O hi hg
  have HG : Hid (GrA C w base p F A) := h
  have hL := O.obj A.E[i].p.kd hk
  have hL1 := O.arr A.E[i].p.kd hk
  unfold Cf.isR
  generalize A.E[i].p.kd = k at *
  cases ha : C.A k
  · have hj2 := hj ha
    obtain ⟨b, o, e, hb, hc⟩ := h.ref hk hj2
    have hl := hL ha
    rw [ha, e] at HS
    generalize C.L k = lk at *
    generalize C.R k j = r at *
    generalize (A.sh k).c = c at *
    have HC : Hid (b < w.heap.size ∧ w.cell? ⟨b, o + j, none⟩ = some (.bool r)) := ⟨hb, hc⟩
    clear h hj hb hc hL hL1 e ha hi hg
    simp only [if_false, Bool.false_eq_true]
    go_enter Tryz.func57, Tryz.ntmps57
    go_wp2_with fail
    refine (HS.out _ (Kept.refl _)).mono ?_
    rintro e w2 ⟨rfl, K⟩
    have K2 : Hid (Kept w w2) := K
    clear K
    have c0 := fun (B : Array Value) (t : TypeId) => ((K2.out.alloc B t).cell (a := ⟨b, o + j, none⟩) HC.out.1).trans HC.out.2
    go_wp2
    go_ret
    exact ⟨rfl, K2.out.alloc _ _⟩
  · obtain ⟨b, o, e, hb, hc⟩ := h.ref hk (j := 0) (by rw [hL1 ha]; omega)
    rw [ha, e, hL1 ha] at HS
    generalize C.R k 0 = r at *
    generalize (A.sh k).c = c at *
    simp only [Nat.add_zero] at hc
    have HC : Hid (b < w.heap.size ∧ w.cell? ⟨b, o, none⟩ = some (.bool r)) := ⟨hb, hc⟩
    clear h hj hb hc hL hL1 e ha hi hg
    simp only [if_true]
    go_enter Tryz.func57, Tryz.ntmps57
    go_wp2_with fail
    refine (HS.out _ (Kept.refl _)).mono ?_
    rintro e w2 ⟨rfl, K⟩
    have K2 : Hid (Kept w w2) := K
    clear K
    have c0 := fun (B : Array Value) (t : TypeId) => ((K2.out.alloc B t).cell (a := ⟨b, o, none⟩) HC.out.1).trans HC.out.2
    go_wp2
    go_ret
    exact ⟨rfl, K2.out.alloc _ _⟩

theorem ref_ne_none (i : Nat) (hi : i ≤ 1000000) : decide ((refV i).r = noneV.r ∧ nb (refV i).x = nb noneV.x ∧ nb (refV i).y = nb noneV.y) = false := by
  simp only [refV, noneV, decide_eq_false_iff_not]
  rintro ⟨_, e, _⟩
  rw [nb_fi _ (by omega), nb_zero, ← fi_zero] at e
  have := fi_inj (by omega) (by decide) e
  omega
end
end Go.Proofs.YtbmcbkebcchjmaaGreatDoor
