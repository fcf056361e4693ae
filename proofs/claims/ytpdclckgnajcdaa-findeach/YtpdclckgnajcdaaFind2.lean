/-
  Contracts of package find: what a word tells, and where it begins.
-/
import Derived.Test.YtpdclckgnajcdaaFind1
namespace Go.Proofs.Ytpdclckgnajcdaa
open Go.RowKit

section
variable {p : Nat} {E : En} {d : Fd}

set_option maxHeartbeats 1000000 in
/-- Of the other kind. -/
theorem headed_kind (k : Nat) (m : Int) (w : World) (h : FS w p E d) (hk : k < E.sl) (hm : 0 ≤ m ∧ m ≤ 1000) (ha : (E.S k).arr = !d.arr) :
    Calls Try.prog 99 #[.pointer (some ⟨p, 0, none⟩), .complex .f64 (ch k m).re (ch k m).im] w fun e w' => e = .returned (.tuple #[.agg #[.bool false, .slice none 0 0], .int .i64 0, .int .i64 4]) ∧ Kept w w' := by
  have hk2 : k ≤ 8 := by have := h.ok.2.2.1; omega
  have hl : (E.T k).l ≤ 140737488351232 := by
    have e1 := (h.cop k hk).2.1
    have e2 := may_few (h.ok.2.2.2 k hk)
    omega
  have C1 : Hid (∀ w', Kept w w' → Calls Try.prog 116 #[.agg #[.int .i64 E.n0, .int .i64 E.n1, .int .i64 E.n2, .int .i64 E.n3, .int .i64 E.n4, .int .i64 E.n5, .int .i64 E.n6, .int .i64 E.n7, .slice (some ⟨E.g, 0, none⟩) E.sl E.sl], .complex .f64 (ch k m).re (ch k m).im] w' _) := fun w' q => lhead_is E.n0 E.n1 E.n2 E.n3 E.n4 E.n5 E.n6 E.n7 (some ⟨E.g, 0, none⟩) E.sl E.sl E.T (E.R k) k m w' hk (by omega) (by omega) hl (h.kept q).shps ((h.kept q).refs hk)
  have HH : Hid (FS w p E d) := h
  have HT : Hid ((E.T k).arr = (E.S k).arr ∧ (E.T k).l = (E.S k).l) := ⟨(h.cop k hk).1, (h.cop k hk).2.1⟩
  have HA : Hid ((E.S k).arr = _) := ha
  clear h hl hk2 ha
  go_enter Try.func99, Try.ntmps99
  go_upto_region 1 with fail
  generalize hW0 : w.alloc _ = W0
  have b0 : Blk W0 w.heap.size [.bool false, .slice none 0 0] := by rw [← hW0]; exact Blk.new w _ _
  have k0 : Kept w W0 := by rw [← hW0]; exact (Kept.refl w).alloc _ _
  have z0 : W0.heap.size = w.heap.size + 1 := by rw [← hW0]; simp
  clear hW0
  have h : FS W0 p E d := HH.out.kept k0
  have c0 : W0.cell? ⟨p, 0, none⟩ = some (.int .i64 E.n0) := h.b.at 0 rfl
  have c1 : W0.cell? ⟨p, 1, none⟩ = some (.int .i64 E.n1) := h.b.at 1 rfl
  have c2 : W0.cell? ⟨p, 2, none⟩ = some (.int .i64 E.n2) := h.b.at 2 rfl
  have c3 : W0.cell? ⟨p, 3, none⟩ = some (.int .i64 E.n3) := h.b.at 3 rfl
  have c4 : W0.cell? ⟨p, 4, none⟩ = some (.int .i64 E.n4) := h.b.at 4 rfl
  have c5 : W0.cell? ⟨p, 5, none⟩ = some (.int .i64 E.n5) := h.b.at 5 rfl
  have c6 : W0.cell? ⟨p, 6, none⟩ = some (.int .i64 E.n6) := h.b.at 6 rfl
  have c7 : W0.cell? ⟨p, 7, none⟩ = some (.int .i64 E.n7) := h.b.at 7 rfl
  have c8 : W0.cell? ⟨p, 8, none⟩ = some (.slice (some ⟨E.g, 0, none⟩) E.sl E.sl) := h.b.at 8 rfl
  clear h
  go_wp2_with fail
  refine (C1.out _ k0).mono ?_
  rintro e w2 ⟨g, rfl, hr, hg, K⟩
  rw [HT.out.1, HT.out.2]
  rw [HT.out.2] at hr
  have HG : Hid (Kept w w2 ∧ Blk w2 w.heap.size [.bool false, .slice none 0 0] ∧ w.heap.size < g ∧ Refs w2 (some ⟨g, 0, none⟩) (E.S k).l (E.R k) ∧ FS w2 p E d ∧ w.heap.size < w2.heap.size) := ⟨k0.trans K, b0.kept K, by omega, hr, (HH.out.kept k0).kept K, by have := K.size; omega⟩
  clear c0 c1 c2 c3 c4 c5 c6 c7 c8 b0 k0 z0 hg hr K C1 HH HT
  go_upto_region 2 with fail
  generalize hW3 : w2.alloc _ = W3
  have k3 : Kept w2 W3 := by rw [← hW3]; exact (Kept.refl w2).alloc _ _
  have b3 : Blk W3 w2.heap.size [.bool (E.S k).arr, .slice (some ⟨g, 0, none⟩) (E.S k).l (E.S k).l] := by rw [← hW3]; exact Blk.new w2 _ _
  have HG3 : Hid (Kept w W3 ∧ Blk W3 w.heap.size [.bool false, .slice none 0 0] ∧ Blk W3 w2.heap.size [.bool (E.S k).arr, .slice (some ⟨g, 0, none⟩) (E.S k).l (E.S k).l] ∧ Refs W3 (some ⟨g, 0, none⟩) (E.S k).l (E.R k)) :=
    ⟨HG.out.1.trans k3, HG.out.2.1.kept k3, b3, HG.out.2.2.2.1.kept k3⟩
  have c11 : W3.cell? ⟨p, 11, none⟩ = some (.bool d.arr) := (HG.out.2.2.2.2.1.kept k3).b.at 11 rfl
  clear k3 b3
  clear hW3
  have s0 := HG3.out.2.2.1.at 0 rfl
  have s1 := HG3.out.2.2.1.at 1 rfl
  go_wp2_with fail
  have e1 : ((E.S k).arr == d.arr) = false := by rw [HA.out]; cases d.arr <;> rfl
  go_region
  have a0 := HG3.out.2.1.at 0 rfl
  have a1 := HG3.out.2.1.at 1 rfl
  have fz := HG3.out.2.1.fz
  clear s0 s1 c11
  go_wp2
  (try simp only [Exit.inBlock, Exit.then])
  exact bodyPost_ret_by (results_blk_tmp2 rfl _ _ w.heap.size [_, _] rfl (((HG3.out.2.1.kept (Kept.refl _).drew).set (i := 0) rfl _).set (i := 1) rfl _) Try.underlying38 (by kernel_rfl)) rfl ⟨rfl, (HG3.out.1.drew.setCell (by simp) _).setCell (by simp) _⟩

set_option maxHeartbeats 1000000 in
/-- Of its kind. -/
theorem headed_ok (k : Nat) (m : Int) (w : World) (h : FS w p E d) (hk : k < E.sl) (hm : 0 ≤ m ∧ m ≤ 1) (ha : (E.S k).arr = d.arr) (hb : d.arr = true → m = 0) :
    Calls Try.prog 99 #[.pointer (some ⟨p, 0, none⟩), .complex .f64 (ch k m).re (ch k m).im] w fun e w' => ∃ g, e = .returned (.tuple #[.agg #[.bool (E.S k).arr, .slice (some ⟨g, 0, none⟩) (E.S k).l (E.S k).l], .int .i64 m, .int .i64 0]) ∧ Refs w' (some ⟨g, 0, none⟩) (E.S k).l (E.R k) ∧ w.heap.size < g ∧ Kept w w' := by
  have hk2 : k ≤ 8 := by have := h.ok.2.2.1; omega
  have hl : (E.T k).l ≤ 140737488351232 := by
    have e1 := (h.cop k hk).2.1
    have e2 := may_few (h.ok.2.2.2 k hk)
    omega
  have C1 : Hid (∀ w', Kept w w' → Calls Try.prog 116 #[.agg #[.int .i64 E.n0, .int .i64 E.n1, .int .i64 E.n2, .int .i64 E.n3, .int .i64 E.n4, .int .i64 E.n5, .int .i64 E.n6, .int .i64 E.n7, .slice (some ⟨E.g, 0, none⟩) E.sl E.sl], .complex .f64 (ch k m).re (ch k m).im] w' _) := fun w' q => lhead_is E.n0 E.n1 E.n2 E.n3 E.n4 E.n5 E.n6 E.n7 (some ⟨E.g, 0, none⟩) E.sl E.sl E.T (E.R k) k m w' hk (by omega) (by omega) hl (h.kept q).shps ((h.kept q).refs hk)
  have HH : Hid (FS w p E d) := h
  have HT : Hid ((E.T k).arr = (E.S k).arr ∧ (E.T k).l = (E.S k).l) := ⟨(h.cop k hk).1, (h.cop k hk).2.1⟩
  have HA : Hid ((E.S k).arr = _) := ha
  clear h hl hk2 ha
  go_enter Try.func99, Try.ntmps99
  go_upto_region 1 with fail
  generalize hW0 : w.alloc _ = W0
  have b0 : Blk W0 w.heap.size [.bool false, .slice none 0 0] := by rw [← hW0]; exact Blk.new w _ _
  have k0 : Kept w W0 := by rw [← hW0]; exact (Kept.refl w).alloc _ _
  have z0 : W0.heap.size = w.heap.size + 1 := by rw [← hW0]; simp
  clear hW0
  have h : FS W0 p E d := HH.out.kept k0
  have c0 : W0.cell? ⟨p, 0, none⟩ = some (.int .i64 E.n0) := h.b.at 0 rfl
  have c1 : W0.cell? ⟨p, 1, none⟩ = some (.int .i64 E.n1) := h.b.at 1 rfl
  have c2 : W0.cell? ⟨p, 2, none⟩ = some (.int .i64 E.n2) := h.b.at 2 rfl
  have c3 : W0.cell? ⟨p, 3, none⟩ = some (.int .i64 E.n3) := h.b.at 3 rfl
  have c4 : W0.cell? ⟨p, 4, none⟩ = some (.int .i64 E.n4) := h.b.at 4 rfl
  have c5 : W0.cell? ⟨p, 5, none⟩ = some (.int .i64 E.n5) := h.b.at 5 rfl
  have c6 : W0.cell? ⟨p, 6, none⟩ = some (.int .i64 E.n6) := h.b.at 6 rfl
  have c7 : W0.cell? ⟨p, 7, none⟩ = some (.int .i64 E.n7) := h.b.at 7 rfl
  have c8 : W0.cell? ⟨p, 8, none⟩ = some (.slice (some ⟨E.g, 0, none⟩) E.sl E.sl) := h.b.at 8 rfl
  clear h
  go_wp2_with fail
  refine (C1.out _ k0).mono ?_
  rintro e w2 ⟨g, rfl, hr, hg, K⟩
  rw [HT.out.1, HT.out.2]
  rw [HT.out.2] at hr
  have HG : Hid (Kept w w2 ∧ Blk w2 w.heap.size [.bool false, .slice none 0 0] ∧ w.heap.size < g ∧ Refs w2 (some ⟨g, 0, none⟩) (E.S k).l (E.R k) ∧ FS w2 p E d ∧ w.heap.size < w2.heap.size) := ⟨k0.trans K, b0.kept K, by omega, hr, (HH.out.kept k0).kept K, by have := K.size; omega⟩
  clear c0 c1 c2 c3 c4 c5 c6 c7 c8 b0 k0 z0 hg hr K C1 HH HT
  go_upto_region 2 with fail
  generalize hW3 : w2.alloc _ = W3
  have k3 : Kept w2 W3 := by rw [← hW3]; exact (Kept.refl w2).alloc _ _
  have b3 : Blk W3 w2.heap.size [.bool (E.S k).arr, .slice (some ⟨g, 0, none⟩) (E.S k).l (E.S k).l] := by rw [← hW3]; exact Blk.new w2 _ _
  have HG3 : Hid (Kept w W3 ∧ Blk W3 w.heap.size [.bool false, .slice none 0 0] ∧ Blk W3 w2.heap.size [.bool (E.S k).arr, .slice (some ⟨g, 0, none⟩) (E.S k).l (E.S k).l] ∧ Refs W3 (some ⟨g, 0, none⟩) (E.S k).l (E.R k)) :=
    ⟨HG.out.1.trans k3, HG.out.2.1.kept k3, b3, HG.out.2.2.2.1.kept k3⟩
  have c11 : W3.cell? ⟨p, 11, none⟩ = some (.bool d.arr) := (HG.out.2.2.2.2.1.kept k3).b.at 11 rfl
  clear k3 b3
  clear hW3
  have s0 := HG3.out.2.2.1.at 0 rfl
  have s1 := HG3.out.2.2.1.at 1 rfl
  go_wp2_with fail
  have e1 : ((E.S k).arr == d.arr) = true := by rw [HA.out]; cases d.arr <;> rfl
  have HM : Hid ((E.S k).arr = true → m = 0) := fun q => hb (HA.out.symm.trans q)
  go_region
  have HG4 : Hid (Kept w W3.drew ∧ Blk W3.drew w.heap.size [.bool false, .slice none 0 0] ∧ Blk W3.drew w2.heap.size [.bool (E.S k).arr, .slice (some ⟨g, 0, none⟩) (E.S k).l (E.S k).l] ∧ w.heap.size < g ∧ Refs W3.drew (some ⟨g, 0, none⟩) (E.S k).l (E.R k)) :=
    ⟨HG3.out.1.drew, HG3.out.2.1.kept (Kept.refl _).drew, HG3.out.2.2.1.kept (Kept.refl _).drew, HG.out.2.2.1, HG3.out.2.2.2.kept (Kept.refl _).drew⟩
  clear s0 s1 c11 HG3
  generalize W3.drew = W4 at *
  have s0 := HG4.out.2.2.1.at 0 rfl
  have s1 := HG4.out.2.2.1.at 1 rfl
  go_wp2_with fail
  refine (mayhead_any (E.S k).arr _ _ _ m _ hm HM.out).mono ?_
  rintro e w5 ⟨rfl, K⟩
  have HG5 : Hid (Kept w w5 ∧ Blk w5 w.heap.size [.bool false, .slice none 0 0] ∧ Blk w5 w2.heap.size [.bool (E.S k).arr, .slice (some ⟨g, 0, none⟩) (E.S k).l (E.S k).l] ∧ w.heap.size < g ∧ Refs w5 (some ⟨g, 0, none⟩) (E.S k).l (E.R k)) :=
    ⟨HG4.out.1.trans K, HG4.out.2.1.kept K, HG4.out.2.2.1.kept K, HG4.out.2.2.2.1, HG4.out.2.2.2.2.kept K⟩
  clear HG4 K s0 s1
  have s0 := HG5.out.2.2.1.at 0 rfl
  have s1 := HG5.out.2.2.1.at 1 rfl
  have a0 := HG5.out.2.1.at 0 rfl
  have a1 := HG5.out.2.1.at 1 rfl
  have fz := HG5.out.2.1.fz
  go_wp2
  (try simp only [Exit.inBlock, Exit.then])
  exact bodyPost_ret_by (results_blk_tmp2 rfl _ _ w.heap.size [_, _] rfl ((HG5.out.2.1.set (i := 0) rfl _).set (i := 1) rfl _) Try.underlying38 (by kernel_rfl)) rfl
    ⟨g, rfl, (HG5.out.2.2.2.2.set_other (by have := HG5.out.2.2.2.1; simp; omega) _).set_other (by have := HG5.out.2.2.2.1; simp; omega) _, HG5.out.2.2.2.1, (HG5.out.1.setCell (by simp) _).setCell (by simp) _⟩
end
end Go.Proofs.Ytpdclckgnajcdaa
