/-
  Package graph: what an operation puts into its A.
-/
import Derived.Test.YtbmcbkebcchjmaaGreatDoorGraF20
namespace Go.Proofs.YtbmcbkebcchjmaaGreatDoor
open Go.RowKit
attribute [local go_sem] run_store_complex
section
variable {C : Cf} {base p : Nat} {F : List Nat} {A : Ga}

set_option maxHeartbeats 4000000 in
theorem result_1 {w : World} (h : GrA C w base p F A) (o : OP) (hk : o.k = 1) (kd : Nat) (hb : o.b = (kd : Int)) (hkd : kd < C.l) (hE : A.E.length < 1000) (hB : base ≤ w.heap.size) :
    Calls Tryz.prog 38 #[.pointer (some ⟨p, 0, none⟩), A.lv, o.val] w fun e w' => e = .returned (refV A.E.length).val ∧ Res C base p F A (A.E.map Th.p ++ [⟨kd, 0, none⟩]) w w' := by
  have HM : Hid (∀ W, Kept w W → Calls Tryz.prog 59 #[.pointer (some ⟨p, 0, none⟩), o.val] W fun e w' => e = .returned (refV A.E.length).val ∧ Res C base p F A (A.E.map Th.p ++ [⟨kd, 0, none⟩]) W w') := fun W q => made_1 (h.kept q) o hk kd hb hkd hE (Nat.le_trans hB q.size)
  have HF : Hid (∀ k ∈ F, k < w.heap.size) := fun k hk => (h.lt k hk).2
  clear h
  obtain ⟨k, a, b, c, n, x, y⟩ := o
  unfold OP.val at *
  dsimp only at *
  subst hk hb
  go_enter Tryz.func38, Tryz.ntmps38
  go_wp2_with fail
  generalize hW1 : w.alloc _ = W1
  have B1 : Hid (Blk W1 w.heap.size [.int .i64 ((1 : Nat) : Int), .int .i64 a, .int .i64 kd, .int .i64 c, .int .i64 n, .complex .f64 x y]) := by rw [← hW1]; exact Blk.new w _ _
  have K1 : Hid (Kept w W1) := by rw [← hW1]; exact (Kept.refl w).alloc _ _
  have s1 : W1.heap.size = w.heap.size + 1 := by rw [← hW1]; simp
  clear hW1
  generalize hW2 : W1.alloc _ = W2
  have HY : Hid (Blk W2 (w.heap.size + 1) [.bool false, .complex .f64 0 0]) := by rw [← hW2, ← s1]; exact Blk.new W1 _ _
  have B2 : Hid (Blk W2 w.heap.size [.int .i64 ((1 : Nat) : Int), .int .i64 a, .int .i64 kd, .int .i64 c, .int .i64 n, .complex .f64 x y]) := by rw [← hW2]; exact B1.out.kept ((Kept.refl W1).alloc _ _)
  have K2 : Hid (Kept w W2) := by rw [← hW2]; exact K1.out.alloc _ _
  have hs2 : W2.heap.size = w.heap.size + 1 + 1 := by rw [← hW2]; simp [s1]
  have HS : Hid (W2.heap.size = w.heap.size + 1 + 1) := hs2
  clear hs2
  clear hW2 B1 K1 s1
  have d0 := B2.out.at 0 rfl
  have d1 := B2.out.at 1 rfl
  have d2 := B2.out.at 2 rfl
  have d3 := B2.out.at 3 rfl
  have d4 := B2.out.at 4 rfl
  have d5 := B2.out.at 5 rfl
  go_wp2_with fail
  refine (HM.out _ K2.out).mono ?_
  rintro e w3 ⟨rfl, hres⟩
  have HRes : Hid (Res C base p F A _ W2 w3) := hres
  have HY3 : Hid (Blk w3 (w.heap.size + 1) [.bool false, .complex .f64 0 0]) := by
    obtain ⟨F', A', _, g, _⟩ := hres
    exact g.blk HY.out (fun q => by have := HF.out _ q; omega)
  clear hres d0 d1 d2 d3 d4 d5
  unfold refV V.val
  dsimp only
  have y0 := HY3.out.at 0 rfl
  have y1 := HY3.out.at 1 rfl
  have yf := HY3.out.fz
  go_wp2
  (try simp only [Exit.inBlock, Exit.then])
  exact bodyPost_ret_by (results_blk rfl _ _ (w.heap.size + 1) (refV A.E.length).cs rfl ((HY3.out.set (i := 0) rfl _).set (i := 1) rfl _) Tryz.underlying34 (by kernel_rfl)) rfl
    ⟨rfl, HRes.out.write K2.out HF.out (b := w.heap.size + 1) (by omega) (by have := HS.out; omega) (((Mut.refl _ _).setCell (by simp) _).setCell (by simp) _)⟩

set_option maxHeartbeats 4000000 in
theorem result_13 {w : World} (h : GrA C w base p F A) (o : OP) (hk : o.k = 13) :
    Calls Tryz.prog 38 #[.pointer (some ⟨p, 0, none⟩), A.lv, o.val] w fun e w' => e = .returned noneV.val ∧ Res C base p F A (A.E.map Th.p) w w' := by
  have HG : Hid (GrA C w base p F A) := h
  have HN : Hid (∀ W, Calls Tryz.prog 22 #[] W fun e w' => e = .returned noneV.val ∧ Kept W w') := fun W => gnone_any W
  clear h
  obtain ⟨k, a, b, c, n, x, y⟩ := o
  unfold OP.val at *
  dsimp only at *
  subst hk
  go_enter Tryz.func38, Tryz.ntmps38
  go_wp2_with fail
  generalize hW1 : w.alloc _ = W1
  have B1 : Hid (Blk W1 w.heap.size [.int .i64 ((13 : Nat) : Int), .int .i64 a, .int .i64 b, .int .i64 c, .int .i64 n, .complex .f64 x y]) := by rw [← hW1]; exact Blk.new w _ _
  have K1 : Hid (Kept w W1) := by rw [← hW1]; exact (Kept.refl w).alloc _ _
  have s1 : W1.heap.size = w.heap.size + 1 := by rw [← hW1]; simp
  clear hW1
  generalize hW2 : W1.alloc _ = W2
  have HY : Hid (Blk W2 (w.heap.size + 1) [.bool false, .complex .f64 0 0]) := by rw [← hW2, ← s1]; exact Blk.new W1 _ _
  have B2 : Hid (Blk W2 w.heap.size [.int .i64 ((13 : Nat) : Int), .int .i64 a, .int .i64 b, .int .i64 c, .int .i64 n, .complex .f64 x y]) := by rw [← hW2]; exact B1.out.kept ((Kept.refl W1).alloc _ _)
  have K2 : Hid (Kept w W2) := by rw [← hW2]; exact K1.out.alloc _ _
  have hs2 : W2.heap.size = w.heap.size + 1 + 1 := by rw [← hW2]; simp [s1]
  have HS : Hid (W2.heap.size = w.heap.size + 1 + 1) := hs2
  clear hs2
  clear hW2 B1 K1 s1
  have d0 := B2.out.at 0 rfl
  have d1 := B2.out.at 1 rfl
  have d2 := B2.out.at 2 rfl
  have d3 := B2.out.at 3 rfl
  have d4 := B2.out.at 4 rfl
  have d5 := B2.out.at 5 rfl
  go_wp2_with fail
  refine (HN.out _).mono ?_
  rintro e w3 ⟨rfl, K⟩
  have HY3 : Hid (Blk w3 (w.heap.size + 1) [.bool false, .complex .f64 0 0]) := HY.out.kept K
  have K3 : Hid (Kept w w3) := K2.out.trans K
  clear K d0 d1 d2 d3 d4 d5
  unfold noneV V.val
  dsimp only
  have y0 := HY3.out.at 0 rfl
  have y1 := HY3.out.at 1 rfl
  have yf := HY3.out.fz
  go_wp2
  (try simp only [Exit.inBlock, Exit.then])
  exact bodyPost_ret_by (results_blk rfl _ _ (w.heap.size + 1) (noneV).cs rfl ((HY3.out.set (i := 0) rfl _).set (i := 1) rfl _) Tryz.underlying34 (by kernel_rfl)) rfl
    ⟨rfl, Res.kept HG.out ((K3.out.setCell (by simp) _).setCell (by simp) _)⟩

set_option maxHeartbeats 4000000 in
theorem result_14 {w : World} (h : GrA C w base p F A) (o : OP) (hk : o.k = 14) {vs : List V} (hL : A.L = some vs) (j : Nat) (hj : j < vs.length) (hb : o.b = (j : Int)) (v : V) (hv : vs[j] = v) :
    Calls Tryz.prog 38 #[.pointer (some ⟨p, 0, none⟩), A.lv, o.val] w fun e w' => e = .returned v.val ∧ Res C base p F A (A.E.map Th.p) w w' := by
  obtain ⟨lg, lc, hlv, hlg, _, _⟩ := h.lhere hL (by omega)
  have HV : Hid (lg < w.heap.size ∧ w.cell? ⟨lg, j * 2, none⟩ = some (.bool v.r) ∧ w.cell? ⟨lg, j * 2 + 1, none⟩ = some (.complex .f64 v.x v.y)) :=
    ⟨hlg, h.local hL hlv (a := j) (j := 0) hj (by rw [hv]; rfl), h.local hL hlv (a := j) (j := 1) hj (by rw [hv]; rfl)⟩
  have HG : Hid (GrA C w base p F A) := h
  rw [hlv]
  clear h hlg hv hlv hL
  generalize vs.length = vl at *
  have v0 := fun (B D : Array Value) (t s : TypeId) => ((((Kept.refl w).alloc B t).alloc D s).cell (a := ⟨lg, j * 2, none⟩) HV.out.1).trans HV.out.2.1
  have v1 := fun (B D : Array Value) (t s : TypeId) => ((((Kept.refl w).alloc B t).alloc D s).cell (a := ⟨lg, j * 2 + 1, none⟩) HV.out.1).trans HV.out.2.2
  obtain ⟨k, a, b, c, n, x, y⟩ := o
  unfold OP.val at *
  dsimp only at *
  subst hk hb
  go_enter Tryz.func38, Tryz.ntmps38
  go_wp2
  (try simp only [Exit.inBlock, Exit.then])
  exact bodyPost_ret_by (results_blk rfl _ _ (w.heap.size + 1) v.cs rfl (Blk.new2 w _ _ v.cs 34) Tryz.underlying34 (by kernel_rfl)) rfl
    ⟨rfl, Res.kept HG.out (((Kept.refl w).alloc _ _).alloc _ _)⟩
end
end Go.Proofs.YtbmcbkebcchjmaaGreatDoor
