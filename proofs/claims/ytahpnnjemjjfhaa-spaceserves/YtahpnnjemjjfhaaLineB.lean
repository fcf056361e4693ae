/-
  Contracts of package line: what is told of a request (tell, Of, First).
-/
import Derived.Test.YtahpnnjemjjfhaaLine
namespace Go.Proofs.Ytahpnnjemjjfhaa
open Go.RowKit

/-- Seven cells of one block, laid anew. -/
def World.seven (w : World) (b : Nat) (v0 v1 v2 v3 v4 v5 v6 : Value) : World :=
  ((((((w.setCell ⟨b, 0, none⟩ v0).setCell ⟨b, 1, none⟩ v1).setCell ⟨b, 2, none⟩ v2).setCell ⟨b, 3, none⟩ v3).setCell ⟨b, 4, none⟩ v4).setCell ⟨b, 5, none⟩ v5).setCell ⟨b, 6, none⟩ v6
theorem Blk.seven {w : World} {b : Nat} {u0 u1 u2 u3 u4 u5 u6 : Value} (h : Blk w b [u0, u1, u2, u3, u4, u5, u6]) (v0 v1 v2 v3 v4 v5 v6 : Value) : Blk (World.seven w b v0 v1 v2 v3 v4 v5 v6) b [v0, v1, v2, v3, v4, v5, v6] :=
  ((((((h.set (i := 0) rfl v0).set (i := 1) rfl v1).set (i := 2) rfl v2).set (i := 3) rfl v3).set (i := 4) rfl v4).set (i := 5) rfl v5).set (i := 6) rfl v6
theorem Kept.seven {w w' : World} (h : Kept w w') {b : Nat} (hb : w.heap.size ≤ b) (v0 v1 v2 v3 v4 v5 v6 : Value) : Kept w (World.seven w' b v0 v1 v2 v3 v4 v5 v6) :=
  ((((((h.setCell (a := ⟨b, 0, none⟩) hb v0).setCell (a := ⟨b, 1, none⟩) hb v1).setCell (a := ⟨b, 2, none⟩) hb v2).setCell (a := ⟨b, 3, none⟩) hb v3).setCell (a := ⟨b, 4, none⟩) hb v4).setCell (a := ⟨b, 5, none⟩) hb v5).setCell (a := ⟨b, 6, none⟩) hb v6
theorem mut_seven {w : World} {b : Nat} (v0 v1 v2 v3 v4 v5 v6 : Value) : Mut [b] w (World.seven w b v0 v1 v2 v3 v4 v5 v6) :=
  (((((((Mut.refl [b] w).setCell (p := ⟨b, 0, none⟩) (by simp) v0).setCell (p := ⟨b, 1, none⟩) (by simp) v1).setCell (p := ⟨b, 2, none⟩) (by simp) v2).setCell (p := ⟨b, 3, none⟩) (by simp) v3).setCell (p := ⟨b, 4, none⟩) (by simp) v4).setCell (p := ⟨b, 5, none⟩) (by simp) v5).setCell (p := ⟨b, 6, none⟩) (by simp) v6

def none7 : Ent := ⟨0, 0, 0, 0, 0, 0, none, 0, [], false⟩
/-- A request as it is handed over, what it got lying at y. -/
def Ent.agg (e : Ent) (y : Option Addr) (d : Nat) : Value := .agg #[.int .i64 e.th, .int .i64 e.fr, .int .i64 e.sp, .int .i64 e.st, .int .i64 e.cy, .int .i64 e.pl, .slice y e.G.length d]
/-- What is told of a request, if there is one. -/
def told (o : Option Ent) : Ent := o.getD none7

set_option maxHeartbeats 1000000 in
theorem ltell_no {b : Nat} (i : Int) (w : World) (hi : i < 0) :
    Calls Try.prog 84 #[.pointer (some ⟨b, 0, none⟩), .int .i64 i] w fun r w' => r = .returned (.tuple #[none7.agg none 0, .bool false]) ∧ Kept w w' := by
  go_enter Try.func84, Try.ntmps84
  go_wp2
  (try simp only [Exit.inBlock, Exit.then])
  exact bodyPost_ret_by (results_blk_tmp rfl _ _ w.heap.size [.int .i64 0, .int .i64 0, .int .i64 0, .int .i64 0, .int .i64 0, .int .i64 0, .slice none 0 0] rfl (Blk.new _ _ _) Try.underlying81 (by kernel_rfl)) rfl ⟨rfl, (Kept.refl w).alloc _ _⟩

set_option maxHeartbeats 2000000 in
theorem ltell_yes {base b : Nat} {v : Value} {E : List Ent} {k : Nat} (w : World) (h : LTab w base b v E) (hk : k < E.length) :
    Calls Try.prog 84 #[.pointer (some ⟨b, 0, none⟩), .int .i64 (k : Int)] w fun r w' => ∃ y d, r = .returned (.tuple #[E[k].agg y d, .bool true]) ∧ Rdi w' y E[k].G ∧ (∀ g o, y = some ⟨g, o, none⟩ → w.heap.size ≤ g) ∧ Kept w w' := by
  obtain ⟨g, cap, rfl, _, hg, _⟩ := h.ens.row.here (by omega)
  have hl := h.few
  have hb := h.ltb
  have b0 := h.c0
  obtain ⟨c0, c1, c2, c3, c4, c5, c6, -⟩ := h.ens.row.eight hk
  have hG := h.ens.got _ (List.getElem_mem hk)
  have hS := h.ens.short _ (List.getElem_mem hk)
  have K0 : ∀ A t, Kept w (w.alloc (.cells A t)) := fun A t => (Kept.refl w).alloc A t
  have p0 := fun A t => ((K0 A t).cell hb).trans b0
  have q0 := fun A t => ((K0 A t).cell hg).trans c0
  have q1 := fun A t => ((K0 A t).cell hg).trans c1
  have q2 := fun A t => ((K0 A t).cell hg).trans c2
  have q3 := fun A t => ((K0 A t).cell hg).trans c3
  have q4 := fun A t => ((K0 A t).cell hg).trans c4
  have q5 := fun A t => ((K0 A t).cell hg).trans c5
  have q6 := fun A t => ((K0 A t).cell hg).trans c6
  clear h K0 b0 c0 c1 c2 c3 c4 c5 c6
  generalize E[k] = e at *
  have HG : Hid (Rdi w e.gx e.G ∧ e.G.length ≤ 1000000) := ⟨hG, by omega⟩
  have e0 : ¬ (k : Int) < 0 := by omega
  have e1 : (k : Int) < (E.length : Int) := by omega
  clear hG hS
  go_enter Try.func84, Try.ntmps84
  go_wp2_with fail
  generalize hW0 : w.alloc (Obj.cells #[Value.int .i64 0, .int .i64 0, .int .i64 0, .int .i64 0, .int .i64 0, .int .i64 0, .slice none 0 0] _) = W0
  have z0 : W0.heap.size = w.heap.size + 1 := by rw [← hW0]; simp
  have k0 : Kept w W0 := by rw [← hW0]; exact (Kept.refl w).alloc _ _
  have b0 : Blk W0 w.heap.size [.int .i64 0, .int .i64 0, .int .i64 0, .int .i64 0, .int .i64 0, .int .i64 0, .slice none 0 0] := by rw [← hW0]; exact Blk.new w _ _
  clear hW0
  generalize hW1 : W0.alloc _ = W1
  have b1 : Blk W1 (w.heap.size + 1) [.int .i64 e.th, .int .i64 e.fr, .int .i64 e.sp, .int .i64 e.st, .int .i64 e.cy, .int .i64 e.pl, .slice e.gx e.G.length e.gc] := by rw [← hW1, ← z0]; exact Blk.new W0 _ _
  have k1 : Kept W0 W1 := by rw [← hW1]; exact (Kept.refl W0).alloc _ _
  clear hW1
  refine (lcopied_any _ (HG.out.1.kept (k0.trans k1)) HG.out.2).mono ?_
  rintro r w2 ⟨y, d, rfl, l2, k2⟩
  have B0 := (b0.kept k1).kept k2
  have B1 := b1.kept k2
  have HY : Hid (Rdi w2 y e.G ∧ (∀ g o, y = some ⟨g, o, none⟩ → w.heap.size + 1 < g) ∧ Kept w w2) := ⟨l2.rdi, fun g o q => by
    have h1 := (l2.lt g (by rw [q]; rfl)).1
    have h2 := b1.lt
    omega, (k0.trans k1).trans k2⟩
  have d0 := B0.at 0 rfl
  have d1 := B0.at 1 rfl
  have d2 := B0.at 2 rfl
  have d3 := B0.at 3 rfl
  have d4 := B0.at 4 rfl
  have d5 := B0.at 5 rfl
  have d6 := B0.at 6 rfl
  have f0 := B0.fz
  have f1 := B1.fz
  have m0 := B1.at 0 rfl
  have m1 := B1.at 1 rfl
  have m2 := B1.at 2 rfl
  have m3 := B1.at 3 rfl
  have m4 := B1.at 4 rfl
  have m5 := B1.at 5 rfl
  have m6 := B1.at 6 rfl
  have HB : Hid (Blk w2 w.heap.size [.int .i64 0, .int .i64 0, .int .i64 0, .int .i64 0, .int .i64 0, .int .i64 0, .slice none 0 0]) := B0
  clear k0 k1 k2 b0 b1 B0 B1 z0 l2 q0 q1 q2 q3 q4 q5 q6 p0
  go_wp2
  (try simp only [Exit.inBlock, Exit.then])
  obtain ⟨r2, f2, k2⟩ := HY.out
  have B := (HB.out.set_other (a := ⟨w.heap.size + 1, 6, none⟩) (by simp) (.slice y e.G.length d)).seven (.int .i64 e.th) (.int .i64 e.fr) (.int .i64 e.sp) (.int .i64 e.st) (.int .i64 e.cy) (.int .i64 e.pl) (.slice y e.G.length d)
  have K := (k2.setCell (a := ⟨w.heap.size + 1, 6, none⟩) (by simp) (.slice y e.G.length d)).seven (b := w.heap.size) (Nat.le_refl _) (.int .i64 e.th) (.int .i64 e.fr) (.int .i64 e.sp) (.int .i64 e.st) (.int .i64 e.cy) (.int .i64 e.pl) (.slice y e.G.length d)
  have M : Mut [w.heap.size + 1, w.heap.size] w2 (World.seven (w2.setCell ⟨w.heap.size + 1, 6, none⟩ (.slice y e.G.length d)) w.heap.size (.int .i64 e.th) (.int .i64 e.fr) (.int .i64 e.sp) (.int .i64 e.st) (.int .i64 e.cy) (.int .i64 e.pl) (.slice y e.G.length d)) :=
    ((Mut.refl _ _).setCell (by simp) _).trans ((mut_seven _ _ _ _ _ _ _).wide (by simp))
  unfold World.seven at B K M
  exact bodyPost_ret_by (results_blk_tmp rfl _ _ w.heap.size _ rfl B Try.underlying81 (by kernel_rfl)) rfl ⟨y, d, rfl, r2.muts M (fun g o q => by have := f2 g o q; simp; omega), fun g o q => by have := f2 g o q; omega, K⟩
end Go.Proofs.Ytahpnnjemjjfhaa
