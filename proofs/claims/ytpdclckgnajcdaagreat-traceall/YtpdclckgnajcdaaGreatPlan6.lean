/-
  Contracts of package plan: an array's mode, its sentinel, its data, its spine.
-/
import Derived.Test.YtpdclckgnajcdaaGreatPlan5
namespace Go.Proofs.YtpdclckgnajcdaaGreat
open Go.RowKit
attribute [local go_sem] run_store_complex

def modeA (n : Int) (L : Nat → Int) (l : Nat) : Int := if dat n ≤ 4 then 0 else if sideU L l then 2 else 1
/-- len words from at on within one spine space. -/
def Fit (n0 n1 at' len : Int) : Prop := (8 * n0 ≤ at' ∧ at' < 8 * n0 + n1 ∧ at' + len ≤ 8 * n0 + n1) ∨ (8 * n0 + n1 ≤ at' ∧ at' < 8 * n0 + 2 * n1 ∧ at' + len ≤ 8 * n0 + 2 * n1)

theorem small_i64 {l : Nat} {L : Nat → Int} (hL : ∀ j, j < l → 0 ≤ L j ∧ L j ≤ 1024) : ∀ j, j < l → IntKind.min .i64 ≤ L j ∧ L j ≤ IntKind.max .i64 := fun j hj => by
  have := hL j hj
  have e1 : IntKind.min .i64 = -9223372036854775808 := by decide
  have e2 : IntKind.max .i64 = 9223372036854775807 := by decide
  rw [e1, e2]
  omega

set_option maxHeartbeats 1000000 in
theorem arrayMode_any (n : Int) {x : Option Addr} {l c : Nat} {L : Nat → Int} (w : World) (hl : l ≤ 100) (hx : Rdf w x l L) (hL : ∀ j, j < l → 0 ≤ L j ∧ L j ≤ 1024) :
    Calls Tryz.prog 34 #[.int .i64 n, .slice x l c] w fun e w' => e = .returned (.int .i64 (modeA n L l)) ∧ Kept w w' := by
  have C0 : Hid (∀ w, Calls Tryz.prog 62 #[.int .i64 n] w _) := fun w => data_any n w
  have C1 : Hid (Calls Tryz.prog 63 #[.slice x l c] w _) := side_any w (by omega) hx (small_i64 hL)
  unfold modeA
  clear hx hL
  generalize sideU L l = p at *
  generalize dat n = d at *
  go_enter Tryz.func34, Tryz.ntmps34
  go_wp2_with fail
  refine (C0.out _).mono ?_
  rintro e w' ⟨rfl, rfl⟩
  by_cases hd : d ≤ 4
  · go_wp2
    go_ret
    exact ⟨by simp, Kept.refl _⟩
  go_wp2_with fail
  refine C1.out.mono ?_
  rintro e w2 ⟨rfl, K⟩
  cases p
  · go_wp2
    go_ret
    exact ⟨by simp, K⟩
  · go_wp2
    go_ret
    exact ⟨by simp, K⟩

set_option maxHeartbeats 2000000 in
theorem spineFits_any (n0 n1 n2 n3 n4 n5 n6 n7 : Int) (sx : Option Addr) (sl sc : Nat) (S : Nat → Sh) (at' : Int) (len : Nat) (p : Bool) (w : World) (hS : Shps w sx sl S) (hg : Good n0 n1 n2 n3 n4 n5 n6 n7 sl S) (hlen : len ≤ 1000) (hp : p = true ↔ len = 0 ∨ Fit n0 n1 at' len) :
    Calls Tryz.prog 36 #[.agg #[.int .i64 n0, .int .i64 n1, .int .i64 n2, .int .i64 n3, .int .i64 n4, .int .i64 n5, .int .i64 n6, .int .i64 n7, .slice sx sl sc], .int .i64 at', .int .i64 len] w fun e w' => e = .returned (.bool p) ∧ Kept w w' := by
  obtain ⟨r, i, k, ho⟩ := OfIs.some (n0 := n0) (n1 := n1) (n2 := n2) (n3 := n3) (n4 := n4) (n5 := n5) (n6 := n6) (n7 := n7) (l := sl) (S := S) at'
  have C0 : Hid (∀ w', Kept w w' → Calls Tryz.prog 66 #[.agg #[.int .i64 n0, .int .i64 n1, .int .i64 n2, .int .i64 n3, .int .i64 n4, .int .i64 n5, .int .i64 n6, .int .i64 n7, .slice sx sl sc], .int .i64 at'] w' _) := fun w' q => of_any n0 n1 n2 n3 n4 n5 n6 n7 sx sl sc S at' r i k w' (hS.kept q) ho
  obtain ⟨⟨⟨f0, f1⟩, ⟨f2, f3⟩, ⟨f4, f5⟩, _⟩, _⟩ := id hg
  have HF : Hid (p = true ↔ len = 0 ∨ Fit n0 n1 at' len) := hp
  clear hp hS
  by_cases h0 : len = 0
  · obtain rfl : p = true := HF.out.2 (.inl h0)
    have e0 : ((len : Int) == 0) = true := by simp [h0]
    clear h0
    go_enter Tryz.func36, Tryz.ntmps36
    go_wp2
    go_ret
    exact ⟨rfl, (Kept.refl _).alloc _ _⟩
  have e0 : ((len : Int) == 0) = false := by simp; omega
  have HP : Hid (p = true ↔ Fit n0 n1 at' len) := by
    have := HF.out
    constructor
    · intro h
      rcases this.1 h with q | q
      · exact absurd q h0
      · exact q
    · exact fun h => this.2 (.inr h)
  clear HF h0
  by_cases hA : 8 * n0 ≤ at' ∧ at' < 8 * n0 + n1
  · obtain ⟨rfl, rfl, rfl⟩ := ho.sp0 hg hA.1 hA.2
    by_cases hB : at' - 8 * n0 + len ≤ n1
    · obtain rfl : p = true := HP.out.2 (.inl ⟨hA.1, hA.2, by omega⟩)
      clear HP ho hg
      go_enter Tryz.func36, Tryz.ntmps36
      go_wp2_with fail
      refine (C0.out _ ((Kept.refl w).alloc _ _)).mono ?_
      rintro e w' ⟨rfl, K⟩
      have c1 := K.own 1
      simp only [List.getElem?_toArray, List.getElem?_cons_zero, List.getElem?_cons_succ] at c1
      go_wp2
      go_ret
      exact ⟨rfl, K.ofAlloc⟩
    · obtain rfl : p = false := by
        cases p
        · rfl
        · rcases HP.out.1 rfl with q | q <;> omega
      clear HP ho hg
      go_enter Tryz.func36, Tryz.ntmps36
      go_wp2_with fail
      refine (C0.out _ ((Kept.refl w).alloc _ _)).mono ?_
      rintro e w' ⟨rfl, K⟩
      have c1 := K.own 1
      simp only [List.getElem?_toArray, List.getElem?_cons_zero, List.getElem?_cons_succ] at c1
      go_wp2
      go_ret
      exact ⟨by simp; omega, K.ofAlloc⟩
  by_cases hA2 : 8 * n0 + n1 ≤ at' ∧ at' < 8 * n0 + 2 * n1
  · obtain ⟨rfl, rfl, rfl⟩ := ho.sp1 hg hA2.1 hA2.2
    by_cases hB : at' - 8 * n0 - n1 + len ≤ n1
    · obtain rfl : p = true := HP.out.2 (.inr ⟨hA2.1, hA2.2, by omega⟩)
      clear HP ho hg
      go_enter Tryz.func36, Tryz.ntmps36
      go_wp2_with fail
      refine (C0.out _ ((Kept.refl w).alloc _ _)).mono ?_
      rintro e w' ⟨rfl, K⟩
      have c1 := K.own 1
      simp only [List.getElem?_toArray, List.getElem?_cons_zero, List.getElem?_cons_succ] at c1
      go_wp2
      go_ret
      exact ⟨rfl, K.ofAlloc⟩
    · obtain rfl : p = false := by
        cases p
        · rfl
        · rcases HP.out.1 rfl with q | q <;> omega
      clear HP ho hg
      go_enter Tryz.func36, Tryz.ntmps36
      go_wp2_with fail
      refine (C0.out _ ((Kept.refl w).alloc _ _)).mono ?_
      rintro e w' ⟨rfl, K⟩
      have c1 := K.own 1
      simp only [List.getElem?_toArray, List.getElem?_cons_zero, List.getElem?_cons_succ] at c1
      go_wp2
      go_ret
      exact ⟨by simp; omega, K.ofAlloc⟩
  obtain rfl : p = false := by
    cases p
    · rfl
    · rcases HP.out.1 rfl with q | q <;> omega
  have hr : r ≠ 2 ∧ r ≠ 3 := by
    by_cases q0 : 0 ≤ at' ∧ at' < 8 * n0
    · have := ho.frag hg q0.1 q0.2; omega
    · by_cases q1 : 8 * n0 + 2 * n1 ≤ at' ∧ at' < 8 * n0 + 2 * n1 + n2
      · have := ho.glob hg q1.1 q1.2; omega
      · have := ho.no (fun q => by omega); omega
  have e2 : (r == 2) = false := by simp; omega
  have e3 : (r == 3) = false := by simp; omega
  clear HP ho hg hr hA hA2
  go_enter Tryz.func36, Tryz.ntmps36
  go_wp2_with fail
  refine (C0.out _ ((Kept.refl w).alloc _ _)).mono ?_
  rintro e w' ⟨rfl, K⟩
  go_wp2
  go_ret
  exact ⟨by simp, K.ofAlloc⟩

/-- Word j of an array's sentinel. -/
def sentW (kind n mode : Int) (L : Nat → Int) (l : Nat) (at' : Int) (j : Nat) : Cx :=
  if j = 0 then cn else if j = 1 then ch kind 0 else if j = 2 then cw n else if j = 3 then cw mode
  else if mode = 0 then refAt L l (j - 3) else if j = 4 then (if mode = 1 then cw at' else refAt L l 1) else cz

set_option maxHeartbeats 2000000 in
theorem dataWords_any (g : Nat) (R : Nat → Bool) (w : World) (hR : Refs w (some ⟨g, 0, none⟩) 1 R) :
    Calls Tryz.prog 38 #[.agg #[.bool true, .slice (some ⟨g, 0, none⟩) 1 1]] w fun e w' => e = .returned (.agg (eight fun _ => un (R 0)).toArray) ∧ Kept w w' := by
  have HR : Hid (Refs w (some ⟨g, 0, none⟩) 1 R) := hR
  clear hR
  go_enter Tryz.func38, Tryz.ntmps38
  go_wp2_with fail
  generalize hW0 : w.alloc (Obj.cells #[Value.bool true, _] _) = W0
  have z0 : W0.heap.size = w.heap.size + 1 := by rw [← hW0]; simp
  have b0 : Blk W0 w.heap.size [.bool true, .slice (some ⟨g, 0, none⟩) 1 1] := by rw [← hW0]; exact Blk.new w _ _
  have k0 : Kept w W0 := by rw [← hW0]; exact (Kept.refl w).alloc _ _
  clear hW0
  generalize hW1 : W0.alloc _ = W1
  have z1 : W1.heap.size = w.heap.size + 1 + 1 := by rw [← hW1]; simp [z0]
  have b1 : Blk W1 (w.heap.size + 1) (eight fun _ => cz) := by rw [← hW1, ← z0]; exact Blk.new W0 (eight fun _ => cz) _
  have k1 : Kept W0 W1 := by rw [← hW1]; exact (Kept.refl W0).alloc _ _
  clear hW1
  generalize hW2 : W1.alloc _ = W2
  have b2 : Blk W2 (w.heap.size + 1 + 1) (eight fun _ => cz) := by rw [← hW2, ← z1]; exact Blk.new W1 (eight fun _ => cz) _
  have k2 : Kept W1 W2 := by rw [← hW2]; exact (Kept.refl W1).alloc _ _
  have HW7 : Hid (Kept w W2 ∧ Blk W2 w.heap.size [.bool true, .slice (some ⟨g, 0, none⟩) 1 1] ∧ Blk W2 (w.heap.size + 1) (eight fun _ => cz) ∧ Blk W2 (w.heap.size + 1 + 1) (eight fun j => if j < 0 then un (R 0) else cz)) := ⟨(k0.trans k1).trans k2, (b0.kept k1).kept k2, b1.kept k2, b2⟩
  clear hW2 z0 z1 b0 b1 b2 k0 k1 k2
  go_loopg [5] 8 (fun m v wr => ∃ k : Nat, v = .int .i64 k ∧ k ≤ 8 ∧ m = 8 - k ∧ Hid (Kept w wr ∧ Blk wr w.heap.size [.bool true, .slice (some ⟨g, 0, none⟩) 1 1] ∧ Blk wr (w.heap.size + 1) (eight fun _ => cz) ∧ Blk wr (w.heap.size + 1 + 1) (eight fun j => if j < k then un (R 0) else cz)))
  case atStart => exact ⟨0, rfl, by omega, by omega, HW7⟩
  case round =>
    obtain ⟨k, rfl, hk0, hm, hw⟩ := hrel
    have HM : Hid _ := hm
    clear hm HW7
    by_cases hlt : k < 8
    · have s1 := hw.out.2.1.at 1 rfl
      have c1 : wr.cell? ⟨g, 0, none⟩ = some (.bool (R 0)) := by
        obtain ⟨g', o', e, hg, cc⟩ := HR.out.kept hw.out.1 (by omega)
        obtain ⟨rfl, rfl⟩ : g = g' ∧ 0 = o' := by simpa using e
        simpa using cc 0 (by omega)
      go_wp2_with fail
      refine (unset_any (R 0) _).mono ?_
      rintro e w4 ⟨rfl, rfl⟩
      have d1 : w4.cell? ⟨w.heap.size + 1 + 1, k, none⟩ = _ := hw.out.2.2.2.at k (eight_get _ hlt)
      have f1 := hw.out.2.2.2.fz
      have HV2 : Hid (Kept w (w4.setCell ⟨w.heap.size + 1 + 1, k, none⟩ (.complex .f64 (un (R 0)).re (un (R 0)).im)) ∧ Blk (w4.setCell ⟨w.heap.size + 1 + 1, k, none⟩ (.complex .f64 (un (R 0)).re (un (R 0)).im)) w.heap.size [.bool true, .slice (some ⟨g, 0, none⟩) 1 1] ∧ Blk (w4.setCell ⟨w.heap.size + 1 + 1, k, none⟩ (.complex .f64 (un (R 0)).re (un (R 0)).im)) (w.heap.size + 1) (eight fun _ => cz) ∧ Blk (w4.setCell ⟨w.heap.size + 1 + 1, k, none⟩ (.complex .f64 (un (R 0)).re (un (R 0)).im)) (w.heap.size + 1 + 1) (eight fun j => if j < k + 1 then un (R 0) else cz)) := by
        refine ⟨hw.out.1.setCell (by simp; omega) _, hw.out.2.1.set_other (by simp <;> omega) _, hw.out.2.2.1.set_other (by simp <;> omega) _, hw.out.2.2.2.put hlt (un (R 0)) fun j hj => ?_⟩
        by_cases e1 : j = k
        · have e2 : j < k + 1 := by omega
          rw [if_pos e1, if_pos e2]
        · have e2 : (j < k + 1) ↔ (j < k) := by omega
          simp only [if_neg e1, e2]
      clear hw
      go_wp2
      go_roundg (gk - 1)
      all_goals (have := HM.out; try omega)
      exact ⟨k + 1, by go_num, by omega, by omega, HV2⟩
    · obtain rfl : k = 8 := by omega
      obtain ⟨F, hF⟩ : ∃ F : Nat → Cx, F = fun _ => un (R 0) := ⟨_, rfl⟩
      have hw : Hid (Kept w wr ∧ Blk wr (w.heap.size + 1) (eight fun _ => cz) ∧ Blk wr (w.heap.size + 1 + 1) (eight F)) := by
        refine ⟨hw.out.1, hw.out.2.2.1, ?_⟩
        rw [hF]
        exact hw.out.2.2.2
      have HF : Hid (F = fun _ => un (R 0)) := hF
      clear hF
      have b2 := hw.out.2.2
      have b1 := hw.out.2.1
      have d0 := b2.at 0 rfl
      have d1 := b2.at 1 rfl
      have d2 := b2.at 2 rfl
      have d3 := b2.at 3 rfl
      have d4 := b2.at 4 rfl
      have d5 := b2.at 5 rfl
      have d6 := b2.at 6 rfl
      have d7 := b2.at 7 rfl
      have q0 := b1.at 0 rfl
      have q1 := b1.at 1 rfl
      have q2 := b1.at 2 rfl
      have q3 := b1.at 3 rfl
      have q4 := b1.at 4 rfl
      have q5 := b1.at 5 rfl
      have q6 := b1.at 6 rfl
      have q7 := b1.at 7 rfl
      have f1 := b1.fz
      clear b1 b2
      go_wp2
      (try simp only [Exit.inBlock, Exit.then])
      refine bodyPost_ret_by (results_arr rfl _ _ (w.heap.size + 1) [_, _, _, _, _, _, _, _] rfl ((((((((hw.out.2.1.set (i := 0) rfl _).set (i := 1) rfl _).set (i := 2) rfl _).set (i := 3) rfl _).set (i := 4) rfl _).set (i := 5) rfl _).set (i := 6) rfl _).set (i := 7) rfl _) Tryz.underlying69 (by kernel_rfl)) rfl
        ⟨by rw [← HF.out]; rfl, (((((((hw.out.1.setCell ?_ _).setCell ?_ _).setCell ?_ _).setCell ?_ _).setCell ?_ _).setCell ?_ _).setCell ?_ _).setCell ?_ _⟩
      all_goals simp
end Go.Proofs.YtpdclckgnajcdaaGreat
