/-
  Package graph: nothing is refused.
-/
import Derived.Test.YtbmcbkebcchjmaaGreatDoorGraB20
namespace Go.Proofs.YtbmcbkebcchjmaaGreatDoor
open Go.RowKit
attribute [local go_sem] run_store_complex

set_option maxHeartbeats 1000000 in
theorem opsame_refs (x y a b : Nat) (q : Bool) (hq : decide (nb x = nb a ∧ nb y = nb b) = q) (w : World) : Calls Tryz.prog 61 #[.agg #[.bool true, .complex .f64 x y], .agg #[.bool true, .complex .f64 a b]] w fun e w' => e = .returned (.bool q) ∧ Kept w w' := by
  have HS : Hid (∀ W, Calls Tryz.prog 82 #[.complex .f64 x y, .complex .f64 a b] W fun e w' => e = .returned (.bool q) ∧ w' = W) := fun W => same_is x y a b q hq W
  clear hq
  go_enter Tryz.func61, Tryz.ntmps61
  go_wp2_with fail
  refine (HS.out _).mono ?_
  rintro e w' ⟨rfl, rfl⟩
  go_wp2
  go_ret
  exact ⟨rfl, ((Kept.refl w).alloc _ _).alloc _ _⟩

set_option maxHeartbeats 1000000 in
theorem lookedInto_ok (i : Nat) (hi : i ≤ 1000000) (w : World) : Calls Tryz.prog 79 #[(refV i).val] w fun e w' => e = .returned (.int .i64 0) ∧ Kept w w' := by
  have HS : Hid (∀ W, Calls Tryz.prog 61 #[(refV i).val, noneV.val] W fun e w' => e = .returned (.bool false) ∧ Kept W w') := fun W => opsame_refs _ _ _ _ false (by
    have := ref_ne_none i hi
    simp only [refV, noneV, true_and] at this ⊢
    exact this) W
  have HN : Hid (∀ W, Calls Tryz.prog 22 #[] W fun e w' => e = .returned noneV.val ∧ Kept W w') := fun W => gnone_any W
  unfold refV noneV V.val at *
  dsimp only at *
  generalize floatOfInt .f64 ((i : Int) + 1) = fx at *
  go_enter Tryz.func79, Tryz.ntmps79
  go_wp2_with fail
  generalize hW1 : w.alloc _ = W1
  have B1 : Hid (Blk W1 w.heap.size [.bool true, .complex .f64 fx 4607182418800017408]) := by rw [← hW1]; exact Blk.new w _ _
  have K1 : Hid (Kept w W1) := by rw [← hW1]; exact (Kept.refl w).alloc _ _
  clear hW1
  have d0 := fun z : KW W1 => z.cell (a := ⟨w.heap.size, 0, none⟩) B1.out.lt (B1.out.at 0 rfl)
  have d1 := fun z : KW W1 => z.cell (a := ⟨w.heap.size, 1, none⟩) B1.out.lt (B1.out.at 1 rfl)
  refine wp_region_kept (by kernel_rfl) (by kernel_rfl) fun _ => ?_
  repeat (go_big_quiet_step (first | (go_at_call 22; exact kept_of (HN.out _)) | (go_at_call 61; exact kept_of (HS.out _))))
  refine wpQuiet_nil ?_
  rintro _ ⟨z, rfl⟩
  clear d0 d1
  go_wp2
  go_ret
  exact ⟨rfl, K1.out.trans z.ok⟩

section
variable {C : Cf} {base p : Nat} {F : List Nat} {A : Ga}

set_option maxHeartbeats 2000000 in
theorem missing_obj {w : World} (h : GrA C w base p F A) (O : C.Ok) {i : Nat} (hi : i < A.E.length) (o : OP) (hk : o.k = 4) (ha : C.A A.E[i].p.kd = false) (h0 : 0 ≤ o.n) (h1 : o.n < (C.L A.E[i].p.kd : Int)) :
    Calls Tryz.prog 56 #[.pointer (some ⟨p, 0, none⟩), (refV i).val, o.val] w fun e w' => e = .returned (.int .i64 0) ∧ Kept w w' := by
  obtain ⟨g, cap, hg, hgl, _⟩ := h.here hi
  have HT : Hid (∀ W, Kept w W → _) := fun W q => thing_any (h.kept q) hi hg
  have HS : Hid (∀ W, Kept w W → _) := fun W q => gshape_any (h.kept q) O hi hg
  have HL : Hid (g < w.heap.size ∧ w.cell? ⟨g, i * 3 + 1, none⟩ = some (.int .i64 A.E[i].p.ln)) := ⟨hgl, h.thing hg hi (j := 1) rfl⟩
  rw [ha] at HS
  have HK : Hid (C.A A.E[i].p.kd = false → C.L A.E[i].p.kd ≤ 40) := O.obj _ (h.kds A.E[i] (List.getElem_mem hi))
  clear h O hg hgl
  generalize A.E[i].p.ln = ln at *
  generalize A.E[i].p.kd = kd at *
  have l40 := HK.out
  generalize C.L kd = lk at *
  generalize (A.sh kd).x = sx at *
  generalize (A.sh kd).c = sc at *
  obtain ⟨k, a, b, c, n, x, y⟩ := o
  unfold OP.val refV V.val at *
  dsimp only at *
  subst hk
  generalize floatOfInt .f64 ((i : Int) + 1) = fx at *
  have g0 : decide (n < 0) = false := decide_eq_false (by omega)
  have g1 : decide (n ≥ (lk : Int)) = false := decide_eq_false (by omega)
  have g2 : decide ((lk : Int) ≤ n) = false := decide_eq_false (by omega)
  go_enter Tryz.func56, Tryz.ntmps56
  go_wp2_with fail
  generalize hW1 : w.alloc _ = W1
  have K1 : Hid (Kept w W1) := by rw [← hW1]; exact (Kept.refl w).alloc _ _
  have s1 : W1.heap.size = w.heap.size + 1 := by rw [← hW1]; simp
  clear hW1
  generalize hW2 : W1.alloc _ = W2
  have B2 : Hid (Blk W2 (w.heap.size + 1) [.int .i64 ((4 : Nat) : Int), .int .i64 a, .int .i64 b, .int .i64 c, .int .i64 n, .complex .f64 x y]) := by rw [← hW2, ← s1]; exact Blk.new W1 _ _
  have K2 : Hid (Kept w W2) := by rw [← hW2]; exact K1.out.alloc _ _
  clear hW2 K1 s1
  refine (HT.out _ K2.out).mono ?_
  rintro e w3 ⟨rfl, K⟩
  have B3 : Hid (Blk w3 (w.heap.size + 1) [.int .i64 ((4 : Nat) : Int), .int .i64 a, .int .i64 b, .int .i64 c, .int .i64 n, .complex .f64 x y]) := B2.out.kept K
  have K3 : Hid (Kept w w3) := K2.out.trans K
  clear K B2 K2
  go_wp2_with fail
  refine (HS.out _ K3.out).mono ?_
  rintro e w4 ⟨rfl, K⟩
  have B4 : Hid (Blk w4 (w.heap.size + 1) [.int .i64 ((4 : Nat) : Int), .int .i64 a, .int .i64 b, .int .i64 c, .int .i64 n, .complex .f64 x y]) := B3.out.kept K
  have K4 : Hid (Kept w w4) := K3.out.trans K
  clear K B3 K3
  have d0 := fun (B : Array Value) (t : TypeId) => (((Kept.refl w4).alloc B t).cell (a := ⟨w.heap.size + 1, 0, none⟩) B4.out.lt).trans (B4.out.at 0 rfl)
  have d4 := fun (B : Array Value) (t : TypeId) => (((Kept.refl w4).alloc B t).cell (a := ⟨w.heap.size + 1, 4, none⟩) B4.out.lt).trans (B4.out.at 4 rfl)
  have e1 := fun (B : Array Value) (t : TypeId) => ((K4.out.alloc B t).cell (a := ⟨g, i * 3 + 1, none⟩) HL.out.1).trans HL.out.2
  go_wp2
  go_ret
  exact ⟨rfl, K4.out.alloc _ _⟩

set_option maxHeartbeats 2000000 in
theorem missing_arr {w : World} (h : GrA C w base p F A) (O : C.Ok) {i : Nat} (hi : i < A.E.length) (o : OP) (hk : o.k = 5) (ha : C.A A.E[i].p.kd = true) (h0 : 0 ≤ o.n) (h1 : o.n < A.E[i].p.ln) :
    Calls Tryz.prog 56 #[.pointer (some ⟨p, 0, none⟩), (refV i).val, o.val] w fun e w' => e = .returned (.int .i64 0) ∧ Kept w w' := by
  obtain ⟨g, cap, hg, hgl, _⟩ := h.here hi
  have HT : Hid (∀ W, Kept w W → _) := fun W q => thing_any (h.kept q) hi hg
  have HS : Hid (∀ W, Kept w W → _) := fun W q => gshape_any (h.kept q) O hi hg
  have HL : Hid (g < w.heap.size ∧ w.cell? ⟨g, i * 3 + 1, none⟩ = some (.int .i64 A.E[i].p.ln)) := ⟨hgl, h.thing hg hi (j := 1) rfl⟩
  rw [ha] at HS
  have HK : Hid (C.A A.E[i].p.kd = false → C.L A.E[i].p.kd ≤ 40) := O.obj _ (h.kds A.E[i] (List.getElem_mem hi))
  clear h O hg hgl
  generalize A.E[i].p.ln = ln at *
  generalize A.E[i].p.kd = kd at *
  have l40 := HK.out
  generalize C.L kd = lk at *
  generalize (A.sh kd).x = sx at *
  generalize (A.sh kd).c = sc at *
  obtain ⟨k, a, b, c, n, x, y⟩ := o
  unfold OP.val refV V.val at *
  dsimp only at *
  subst hk
  generalize floatOfInt .f64 ((i : Int) + 1) = fx at *
  have g0 : decide (n < 0) = false := decide_eq_false (by omega)
  have g1 : decide (n ≥ ln) = false := decide_eq_false (by omega)
  have g2 : decide (ln ≤ n) = false := decide_eq_false (by omega)
  go_enter Tryz.func56, Tryz.ntmps56
  go_wp2_with fail
  generalize hW1 : w.alloc _ = W1
  have K1 : Hid (Kept w W1) := by rw [← hW1]; exact (Kept.refl w).alloc _ _
  have s1 : W1.heap.size = w.heap.size + 1 := by rw [← hW1]; simp
  clear hW1
  generalize hW2 : W1.alloc _ = W2
  have B2 : Hid (Blk W2 (w.heap.size + 1) [.int .i64 ((5 : Nat) : Int), .int .i64 a, .int .i64 b, .int .i64 c, .int .i64 n, .complex .f64 x y]) := by rw [← hW2, ← s1]; exact Blk.new W1 _ _
  have K2 : Hid (Kept w W2) := by rw [← hW2]; exact K1.out.alloc _ _
  clear hW2 K1 s1
  refine (HT.out _ K2.out).mono ?_
  rintro e w3 ⟨rfl, K⟩
  have B3 : Hid (Blk w3 (w.heap.size + 1) [.int .i64 ((5 : Nat) : Int), .int .i64 a, .int .i64 b, .int .i64 c, .int .i64 n, .complex .f64 x y]) := B2.out.kept K
  have K3 : Hid (Kept w w3) := K2.out.trans K
  clear K B2 K2
  go_wp2_with fail
  refine (HS.out _ K3.out).mono ?_
  rintro e w4 ⟨rfl, K⟩
  have B4 : Hid (Blk w4 (w.heap.size + 1) [.int .i64 ((5 : Nat) : Int), .int .i64 a, .int .i64 b, .int .i64 c, .int .i64 n, .complex .f64 x y]) := B3.out.kept K
  have K4 : Hid (Kept w w4) := K3.out.trans K
  clear K B3 K3
  have d0 := fun (B : Array Value) (t : TypeId) => (((Kept.refl w4).alloc B t).cell (a := ⟨w.heap.size + 1, 0, none⟩) B4.out.lt).trans (B4.out.at 0 rfl)
  have d4 := fun (B : Array Value) (t : TypeId) => (((Kept.refl w4).alloc B t).cell (a := ⟨w.heap.size + 1, 4, none⟩) B4.out.lt).trans (B4.out.at 4 rfl)
  have e1 := fun (B : Array Value) (t : TypeId) => ((K4.out.alloc B t).cell (a := ⟨g, i * 3 + 1, none⟩) HL.out.1).trans HL.out.2
  go_wp2
  go_ret
  exact ⟨rfl, K4.out.alloc _ _⟩
end
end Go.Proofs.YtbmcbkebcchjmaaGreatDoor
