/-
  Contracts of package trace: the words that tell what it looks through.
-/
import Derived.Test.YtpdclckgnajcdaaGreatTrC
namespace Go.Proofs.YtpdclckgnajcdaaGreat
open Go.RowKit
section
variable {p : Nat} {E : En} {R : Nat → Bool} {d : Td}

set_option maxHeartbeats 2000000 in
theorem thead_obj (w : World) (h : TS w p E R d) (k : Nat) (m : Int) (hk : k < E.sl) (hm : 0 ≤ m ∧ m ≤ 1) (ha : (E.S k).arr = false) :
    Calls Tryz.prog 93 #[.pointer (some ⟨p, 0, none⟩), .complex .f64 (ch k m).re (ch k m).im] w fun e w' => e = .returned (.bool true) ∧ ∃ g, w.heap.size ≤ g ∧ TS w' p E (E.R k) { d with arr := false, rx := some ⟨g, 0, none⟩, rl := (E.S k).l, st := 9 } ∧ Mut [p] w w' := by
  have hl : (E.T k).l ≤ 140737488351232 := by
    have e1 := (h.cop k hk).2.1
    have e2 := may_few (h.ok.2.2.2 k hk)
    omega
  have hk8 : k ≤ 1000 := by have := h.ok.2.2.1; omega
  have C0 : Hid (Calls Tryz.prog 105 #[.agg #[.int .i64 E.n0, .int .i64 E.n1, .int .i64 E.n2, .int .i64 E.n3, .int .i64 E.n4, .int .i64 E.n5, .int .i64 E.n6, .int .i64 E.n7, .slice (some ⟨E.g, 0, none⟩) E.sl E.sl], .complex .f64 (ch k m).re (ch k m).im] w _) := lhead_is E.n0 E.n1 E.n2 E.n3 E.n4 E.n5 E.n6 E.n7 (some ⟨E.g, 0, none⟩) E.sl E.sl E.T (E.R k) k m w hk hk8 (by omega) hl h.shps (h.refs hk)
  have HT : Hid ((E.T k).arr = false ∧ (E.T k).l = (E.S k).l) := ⟨(h.cop k hk).1.trans ha, (h.cop k hk).2.1⟩
  have HH : Hid (TS w p E R d) := h
  have HM : Hid ((0 ≤ m ∧ m ≤ 1)) := hm
  have c0 : w.cell? ⟨p, 0, none⟩ = some (.int .i64 E.n0) := h.b.at 0 rfl
  have c1 : w.cell? ⟨p, 1, none⟩ = some (.int .i64 E.n1) := h.b.at 1 rfl
  have c2 : w.cell? ⟨p, 2, none⟩ = some (.int .i64 E.n2) := h.b.at 2 rfl
  have c3 : w.cell? ⟨p, 3, none⟩ = some (.int .i64 E.n3) := h.b.at 3 rfl
  have c4 : w.cell? ⟨p, 4, none⟩ = some (.int .i64 E.n4) := h.b.at 4 rfl
  have c5 : w.cell? ⟨p, 5, none⟩ = some (.int .i64 E.n5) := h.b.at 5 rfl
  have c6 : w.cell? ⟨p, 6, none⟩ = some (.int .i64 E.n6) := h.b.at 6 rfl
  have c7 : w.cell? ⟨p, 7, none⟩ = some (.int .i64 E.n7) := h.b.at 7 rfl
  have c8 : w.cell? ⟨p, 8, none⟩ = some (.slice (some ⟨E.g, 0, none⟩) E.sl E.sl) := h.b.at 8 rfl
  clear h hl hk8 hk ha hm
  generalize (ch k m) = z at *
  go_enter Tryz.func93, Tryz.ntmps93
  go_wp2_with fail
  refine C0.out.mono ?_
  rintro e w1 ⟨g, rfl, hr, hg, K1⟩
  rw [HT.out.1, HT.out.2]
  rw [HT.out.2] at hr
  obtain ⟨fl, hfl⟩ : ∃ fl, (E.S k).l = fl := ⟨_, rfl⟩
  rw [hfl] at hr ⊢
  have HFL : Hid ((E.S k).l = fl) := hfl
  clear hfl
  have HG : Hid (TS w1 p E R d ∧ Kept w w1 ∧ w.heap.size < g ∧ Refs w1 (some ⟨g, 0, none⟩) fl (E.R k)) := ⟨HH.out.kept K1, K1, hg, hr⟩
  clear c0 c1 c2 c3 c4 c5 c6 c7 c8 hr hg K1 C0
  go_upto_region 2 with fail
  generalize hW2 : w1.alloc _ = W2
  have k2 : Kept w1 W2 := by rw [← hW2]; exact (Kept.refl w1).alloc _ _
  have b2 : Blk W2 w1.heap.size [.bool false, .slice (some ⟨g, 0, none⟩) fl fl] := by rw [← hW2]; exact Blk.new w1 _ _
  have HB : Hid (Blk W2 w1.heap.size [.bool false, .slice (some ⟨g, 0, none⟩) fl fl] ∧ Kept w1 W2) := ⟨b2, k2⟩
  clear hW2 k2 b2
  have s0 := HB.out.1.at 0 rfl
  have s1 := HB.out.1.at 1 rfl
  go_wp2_with fail
  refine (mayhead_any false _ _ _ m _ HM.out (fun q => by cases q)).mono ?_
  rintro e w3 ⟨rfl, K3⟩
  have HQ : Hid (TS w3 p E R d ∧ Kept w w3 ∧ w.heap.size < g ∧ Refs w3 (some ⟨g, 0, none⟩) fl (E.R k) ∧ Blk w3 w1.heap.size [.bool false, .slice (some ⟨g, 0, none⟩) fl fl] ∧ p < w.heap.size) := ⟨(HG.out.1.kept HB.out.2).kept K3, (HG.out.2.1.trans HB.out.2).trans K3, HG.out.2.2.1, (HG.out.2.2.2.kept HB.out.2).kept K3, HB.out.1.kept K3, HH.out.b.lt⟩
  have hpw : p < w1.heap.size := HG.out.1.b.lt
  clear s0 s1 K3 HG HB HH
  have s0 := HQ.out.2.2.2.2.1.at 0 rfl
  have s1 := HQ.out.2.2.2.2.1.at 1 rfl
  have a0 := HQ.out.1.b.at 11 rfl
  have a1 := HQ.out.1.b.at 12 rfl
  have a2 := HQ.out.1.b.at 16 rfl
  have fz := HQ.out.1.b.fz
  go_wp2
  go_ret
  rw [HFL.out]
  exact ⟨rfl, g, Nat.le_of_lt HQ.out.2.2.1, ((HQ.out.1.shaped false g fl HQ.out.2.2.2.1 (by have := HQ.out; omega)).put (i := 16) rfl _ rfl rfl rfl), ((HQ.out.2.1.mut.setCell (by simp) _).setCell (by simp) _).setCell (by simp) _⟩

set_option maxHeartbeats 2000000 in
theorem thead_arr (w : World) (h : TS w p E R d) (k : Nat) (m : Int) (hk : k < E.sl) (hm : m = 0) (ha : (E.S k).arr = true) (hf : 0 ≤ d.head ∧ d.head < E.n0) :
    Calls Tryz.prog 93 #[.pointer (some ⟨p, 0, none⟩), .complex .f64 (ch k m).re (ch k m).im] w fun e w' => e = .returned (.bool true) ∧ ∃ g, w.heap.size ≤ g ∧ TS w' p E (E.R k) { d with arr := true, rx := some ⟨g, 0, none⟩, rl := (E.S k).l, st := 2, nx := d.head * 8 + 2 } ∧ Mut [p] w w' := by
  have hl : (E.T k).l ≤ 140737488351232 := by
    have e1 := (h.cop k hk).2.1
    have e2 := may_few (h.ok.2.2.2 k hk)
    omega
  have hk8 : k ≤ 1000 := by have := h.ok.2.2.1; omega
  have C0 : Hid (Calls Tryz.prog 105 #[.agg #[.int .i64 E.n0, .int .i64 E.n1, .int .i64 E.n2, .int .i64 E.n3, .int .i64 E.n4, .int .i64 E.n5, .int .i64 E.n6, .int .i64 E.n7, .slice (some ⟨E.g, 0, none⟩) E.sl E.sl], .complex .f64 (ch k m).re (ch k m).im] w _) := lhead_is E.n0 E.n1 E.n2 E.n3 E.n4 E.n5 E.n6 E.n7 (some ⟨E.g, 0, none⟩) E.sl E.sl E.T (E.R k) k m w hk hk8 (by omega) hl h.shps (h.refs hk)
  have HT : Hid ((E.T k).arr = true ∧ (E.T k).l = (E.S k).l) := ⟨(h.cop k hk).1.trans ha, (h.cop k hk).2.1⟩
  have HH : Hid (TS w p E R d) := h
  have HM : Hid ((0 ≤ m ∧ m ≤ 1) ∧ m = 0) := ⟨⟨by omega, by omega⟩, hm⟩
  have HF : Hid (0 ≤ d.head ∧ d.head < E.n0) := hf
  have c0 : w.cell? ⟨p, 0, none⟩ = some (.int .i64 E.n0) := h.b.at 0 rfl
  have c1 : w.cell? ⟨p, 1, none⟩ = some (.int .i64 E.n1) := h.b.at 1 rfl
  have c2 : w.cell? ⟨p, 2, none⟩ = some (.int .i64 E.n2) := h.b.at 2 rfl
  have c3 : w.cell? ⟨p, 3, none⟩ = some (.int .i64 E.n3) := h.b.at 3 rfl
  have c4 : w.cell? ⟨p, 4, none⟩ = some (.int .i64 E.n4) := h.b.at 4 rfl
  have c5 : w.cell? ⟨p, 5, none⟩ = some (.int .i64 E.n5) := h.b.at 5 rfl
  have c6 : w.cell? ⟨p, 6, none⟩ = some (.int .i64 E.n6) := h.b.at 6 rfl
  have c7 : w.cell? ⟨p, 7, none⟩ = some (.int .i64 E.n7) := h.b.at 7 rfl
  have c8 : w.cell? ⟨p, 8, none⟩ = some (.slice (some ⟨E.g, 0, none⟩) E.sl E.sl) := h.b.at 8 rfl
  clear h hl hk8 hk ha hm hf
  generalize (ch k m) = z at *
  go_enter Tryz.func93, Tryz.ntmps93
  go_wp2_with fail
  refine C0.out.mono ?_
  rintro e w1 ⟨g, rfl, hr, hg, K1⟩
  rw [HT.out.1, HT.out.2]
  rw [HT.out.2] at hr
  obtain ⟨fl, hfl⟩ : ∃ fl, (E.S k).l = fl := ⟨_, rfl⟩
  rw [hfl] at hr ⊢
  have HFL : Hid ((E.S k).l = fl) := hfl
  clear hfl
  have HG : Hid (TS w1 p E R d ∧ Kept w w1 ∧ w.heap.size < g ∧ Refs w1 (some ⟨g, 0, none⟩) fl (E.R k)) := ⟨HH.out.kept K1, K1, hg, hr⟩
  clear c0 c1 c2 c3 c4 c5 c6 c7 c8 hr hg K1 C0
  go_upto_region 2 with fail
  generalize hW2 : w1.alloc _ = W2
  have k2 : Kept w1 W2 := by rw [← hW2]; exact (Kept.refl w1).alloc _ _
  have b2 : Blk W2 w1.heap.size [.bool true, .slice (some ⟨g, 0, none⟩) fl fl] := by rw [← hW2]; exact Blk.new w1 _ _
  have HB : Hid (Blk W2 w1.heap.size [.bool true, .slice (some ⟨g, 0, none⟩) fl fl] ∧ Kept w1 W2) := ⟨b2, k2⟩
  clear hW2 k2 b2
  have s0 := HB.out.1.at 0 rfl
  have s1 := HB.out.1.at 1 rfl
  go_wp2_with fail
  refine (mayhead_any true _ _ _ m _ HM.out.1 (fun _ => HM.out.2)).mono ?_
  rintro e w3 ⟨rfl, K3⟩
  have HQ : Hid (TS w3 p E R d ∧ Kept w w3 ∧ w.heap.size < g ∧ Refs w3 (some ⟨g, 0, none⟩) fl (E.R k) ∧ Blk w3 w1.heap.size [.bool true, .slice (some ⟨g, 0, none⟩) fl fl] ∧ p < w.heap.size) := ⟨(HG.out.1.kept HB.out.2).kept K3, (HG.out.2.1.trans HB.out.2).trans K3, HG.out.2.2.1, (HG.out.2.2.2.kept HB.out.2).kept K3, HB.out.1.kept K3, HH.out.b.lt⟩
  have hpw : p < w1.heap.size := HG.out.1.b.lt
  clear s0 s1 K3 HG HB HH
  have s0 := HQ.out.2.2.2.2.1.at 0 rfl
  have s1 := HQ.out.2.2.2.2.1.at 1 rfl
  have a0 := HQ.out.1.b.at 11 rfl
  have a1 := HQ.out.1.b.at 12 rfl
  have a2 := HQ.out.1.b.at 16 rfl
  have fz := HQ.out.1.b.fz
  have HW : Hid (TS (((w3.setCell ⟨p, 11, none⟩ (.bool true)).setCell ⟨p, 12, none⟩ (.slice (some ⟨g, 0, none⟩) fl fl)).setCell ⟨p, 16, none⟩ (.int .i64 9)) p E (E.R k) { d with arr := true, rx := some ⟨g, 0, none⟩, rl := fl, st := 9 } ∧ Mut [p] w (((w3.setCell ⟨p, 11, none⟩ (.bool true)).setCell ⟨p, 12, none⟩ (.slice (some ⟨g, 0, none⟩) fl fl)).setCell ⟨p, 16, none⟩ (.int .i64 9))) := ⟨((HQ.out.1.shaped true g fl HQ.out.2.2.2.1 (by have := HQ.out; omega)).put (i := 16) rfl _ rfl rfl rfl), ((HQ.out.2.1.mut.setCell (by simp) _).setCell (by simp) _).setCell (by simp) _⟩
  have c9 := HQ.out.1.b.at 9 rfl
  go_wp2_with fail
  refine (tstand_is 2 d.head 2 _ HW.out.1 HF.out (by omega)).mono ?_
  rintro e w4 ⟨rfl, HT4, HM4⟩
  clear s0 s1 a0 a1 a2 fz c9
  go_wp2
  go_ret
  rw [HFL.out]
  exact ⟨rfl, g, Nat.le_of_lt HQ.out.2.2.1, HT4, HW.out.2.trans HM4⟩

set_option maxHeartbeats 1000000 in
theorem tlen_nil (w : World) (h : TS w p E R d)  :
    Calls Tryz.prog 94 #[.pointer (some ⟨p, 0, none⟩), .complex .f64 (cw 0).re (cw 0).im] w fun e w' => e = .returned (.bool true) ∧ TS w' p E R { d with ln := 0, st := 9 } ∧ Mut [p] w w' := by
  have C0 : Hid (∀ w, _) := fun w => length_is 0 w (by omega)
  have HZ : Hid (TS w p E R d) := h
  have c13 := h.b.at 13 rfl
  have c16 := h.b.at 16 rfl
  have fz := h.b.fz
  clear h
  generalize (cw 0) = z at *
  go_enter Tryz.func94, Tryz.ntmps94
  go_wp2_with fail
  refine (C0.out _).mono ?_
  rintro e w1 ⟨rfl, rfl⟩
  go_wp2
  go_ret
  exact ⟨rfl, (HZ.out.put (i := 13) rfl _ (d' := { d with ln := 0 }) rfl rfl rfl).put (i := 16) rfl _ rfl rfl rfl, ((Mut.refl _ _).setCell (by simp) _).setCell (by simp) _⟩

set_option maxHeartbeats 1000000 in
theorem tlen_pos (w : World) (h : TS w p E R d) (n : Int) (hn : 0 < n ∧ n ≤ 512) (hf : 0 ≤ d.head ∧ d.head < E.n0) :
    Calls Tryz.prog 94 #[.pointer (some ⟨p, 0, none⟩), .complex .f64 (cw n).re (cw n).im] w fun e w' => e = .returned (.bool true) ∧ TS w' p E R { d with ln := n, st := 3, nx := d.head * 8 + 3 } ∧ Mut [p] w w' := by
  have C0 : Hid (∀ w, _) := fun w => length_is n w (by omega)
  have HZ : Hid (TS w p E R d) := h
  have HF : Hid (0 ≤ d.head ∧ d.head < E.n0) := hf
  have HW : Hid (TS ((w.setCell ⟨p, 13, none⟩ (.int .i64 n)).setCell ⟨p, 16, none⟩ (.int .i64 9)) p E R { d with ln := n, st := 9 } ∧ Mut [p] w ((w.setCell ⟨p, 13, none⟩ (.int .i64 n)).setCell ⟨p, 16, none⟩ (.int .i64 9))) := ⟨(HZ.out.put (i := 13) rfl _ (d' := { d with ln := n }) rfl rfl rfl).put (i := 16) rfl _ rfl rfl rfl, ((Mut.refl _ _).setCell (by simp) _).setCell (by simp) _⟩
  have c9 := h.b.at 9 rfl
  have c13 := h.b.at 13 rfl
  have c16 := h.b.at 16 rfl
  have fz := h.b.fz
  have h0 : n > 0 := hn.1
  clear h hf
  generalize (cw n) = z at *
  go_enter Tryz.func94, Tryz.ntmps94
  go_wp2_with fail
  refine (C0.out _).mono ?_
  rintro e w1 ⟨rfl, rfl⟩
  go_wp2_with fail
  refine (tstand_is 3 d.head 3 _ HW.out.1 HF.out (by omega)).mono ?_
  rintro e w4 ⟨rfl, HT4, HM4⟩
  clear c9 c13 c16 fz
  go_wp2
  go_ret
  exact ⟨rfl, HT4, HW.out.2.trans HM4⟩

set_option maxHeartbeats 1000000 in
theorem tmode_in (w : World) (h : TS w p E R d) (h4 : dat d.ln ≤ 4) :
    Calls Tryz.prog 95 #[.pointer (some ⟨p, 0, none⟩), .complex .f64 (cw 0).re (cw 0).im] w fun e w' => e = .returned (.bool true) ∧ TS w' p E R { d with md := 0, st := 9 } ∧ Mut [p] w w' := by
  have C0 : Hid (∀ w, _) := fun w => lmode_is 0 d.ln w (by omega) (by simp [h4])
  have HZ : Hid (TS w p E R d) := h
  have c13 := h.b.at 13 rfl
  have c14 := h.b.at 14 rfl
  have c16 := h.b.at 16 rfl
  have fz := h.b.fz
  clear h h4
  generalize (cw 0) = z at *
  go_enter Tryz.func95, Tryz.ntmps95
  go_wp2_with fail
  refine (C0.out _).mono ?_
  rintro e w1 ⟨rfl, rfl⟩
  go_wp2
  go_ret
  exact ⟨rfl, (HZ.out.put (i := 14) rfl _ (d' := { d with md := 0 }) rfl rfl rfl).put (i := 16) rfl _ rfl rfl rfl, ((Mut.refl _ _).setCell (by simp) _).setCell (by simp) _⟩

set_option maxHeartbeats 1000000 in
theorem tmode_far (w : World) (h : TS w p E R d) (m : Int) (hm : 1 ≤ m ∧ m ≤ 2) (h4 : ¬ dat d.ln ≤ 4) (hf : 0 ≤ d.head ∧ d.head < E.n0) :
    Calls Tryz.prog 95 #[.pointer (some ⟨p, 0, none⟩), .complex .f64 (cw m).re (cw m).im] w fun e w' => e = .returned (.bool true) ∧ TS w' p E R { d with md := m, st := 4, nx := d.head * 8 + 4 } ∧ Mut [p] w w' := by
  have C0 : Hid (∀ w, _) := fun w => lmode_is m d.ln w (by omega) ⟨fun q => absurd q h4, fun q => by omega⟩
  have HZ : Hid (TS w p E R d) := h
  have HF : Hid (0 ≤ d.head ∧ d.head < E.n0) := hf
  have HW : Hid (TS ((w.setCell ⟨p, 14, none⟩ (.int .i64 m)).setCell ⟨p, 16, none⟩ (.int .i64 9)) p E R { d with md := m, st := 9 } ∧ Mut [p] w ((w.setCell ⟨p, 14, none⟩ (.int .i64 m)).setCell ⟨p, 16, none⟩ (.int .i64 9))) := ⟨(HZ.out.put (i := 14) rfl _ (d' := { d with md := m }) rfl rfl rfl).put (i := 16) rfl _ rfl rfl rfl, ((Mut.refl _ _).setCell (by simp) _).setCell (by simp) _⟩
  have c9 := h.b.at 9 rfl
  have c13 := h.b.at 13 rfl
  have c14 := h.b.at 14 rfl
  have c16 := h.b.at 16 rfl
  have fz := h.b.fz
  have h0 : (m != 0) = true := by simp; omega
  clear h hf h4
  generalize (cw m) = z at *
  go_enter Tryz.func95, Tryz.ntmps95
  go_wp2_with fail
  refine (C0.out _).mono ?_
  rintro e w1 ⟨rfl, rfl⟩
  go_wp2_with fail
  refine (tstand_is 4 d.head 4 _ HW.out.1 HF.out (by omega)).mono ?_
  rintro e w4 ⟨rfl, HT4, HM4⟩
  clear c9 c13 c14 c16 fz
  go_wp2
  go_ret
  exact ⟨rfl, HT4, HW.out.2.trans HM4⟩

set_option maxHeartbeats 1000000 in
theorem twhere_sp (w : World) (h : TS w p E R d) (a : Int) (hm : d.md = 1) (ha : 8 * E.n0 ≤ a ∧ a < 8 * E.n0 + 2 * E.n1) :
    Calls Tryz.prog 96 #[.pointer (some ⟨p, 0, none⟩), .complex .f64 (cw a).re (cw a).im] w fun e w' => e = .returned (.bool true) ∧ TS w' p E R { d with wh := a, st := 9 } ∧ Mut [p] w w' := by
  have h9 : TS (w.setCell ⟨p, 16, none⟩ (.int .i64 9)) p E R { d with st := 9 } := h.put (i := 16) rfl _ rfl rfl rfl
  have H9 : Hid (TS (w.setCell ⟨p, 16, none⟩ (.int .i64 9)) p E R { d with st := 9 }) := h9
  have H9M : Hid (Mut [p] w (w.setCell ⟨p, 16, none⟩ (.int .i64 9))) := (Mut.refl _ _).setCell (by simp) _
  have C0 : Hid (Calls Tryz.prog 109 #[.agg #[.int .i64 E.n0, .int .i64 E.n1, .int .i64 E.n2, .int .i64 E.n3, .int .i64 E.n4, .int .i64 E.n5, .int .i64 E.n6, .int .i64 E.n7, .slice (some ⟨E.g, 0, none⟩) E.sl E.sl], .complex .f64 (cw a).re (cw a).im] (w.setCell ⟨p, 16, none⟩ (.int .i64 9)) _) := lspine_is E.n0 E.n1 E.n2 E.n3 E.n4 E.n5 E.n6 E.n7 (some ⟨E.g, 0, none⟩) E.sl E.sl E.T a _ h9.shps h9.goodT ha
  have c14 : w.cell? ⟨p, 14, none⟩ = some (.int .i64 1) := by rw [← hm]; exact h.b.at 14 rfl
  have c0 : w.cell? ⟨p, 0, none⟩ = some (.int .i64 E.n0) := h.b.at 0 rfl
  have c1 : w.cell? ⟨p, 1, none⟩ = some (.int .i64 E.n1) := h.b.at 1 rfl
  have c2 : w.cell? ⟨p, 2, none⟩ = some (.int .i64 E.n2) := h.b.at 2 rfl
  have c3 : w.cell? ⟨p, 3, none⟩ = some (.int .i64 E.n3) := h.b.at 3 rfl
  have c4 : w.cell? ⟨p, 4, none⟩ = some (.int .i64 E.n4) := h.b.at 4 rfl
  have c5 : w.cell? ⟨p, 5, none⟩ = some (.int .i64 E.n5) := h.b.at 5 rfl
  have c6 : w.cell? ⟨p, 6, none⟩ = some (.int .i64 E.n6) := h.b.at 6 rfl
  have c7 : w.cell? ⟨p, 7, none⟩ = some (.int .i64 E.n7) := h.b.at 7 rfl
  have c8 : w.cell? ⟨p, 8, none⟩ = some (.slice (some ⟨E.g, 0, none⟩) E.sl E.sl) := h.b.at 8 rfl
  have c16 := h.b.at 16 rfl
  have fz := h.b.fz
  clear h h9 hm ha
  generalize (cw a) = z at *
  go_enter Tryz.func96, Tryz.ntmps96
  go_wp2_with fail
  refine C0.out.mono ?_
  rintro e w1 ⟨rfl, K⟩
  have HK : Hid (TS w1 p E R { d with st := 9 } ∧ Mut [p] w w1) := ⟨H9.out.kept K, H9M.out.trans K.mut⟩
  clear K C0 H9 H9M c0 c1 c2 c3 c4 c5 c6 c7 c8 c14 c16 fz
  have c15 := HK.out.1.b.at 15 rfl
  have fz := HK.out.1.b.fz
  go_wp2
  go_ret
  exact ⟨rfl, HK.out.1.put (i := 15) rfl _ rfl rfl rfl, HK.out.2.setCell (by simp) _⟩

set_option maxHeartbeats 2000000 in
theorem twhere_row (w : World) (h : TS w p E R d) (f : Int) (hm : d.md = 2) (hf : 0 ≤ f ∧ f < E.n0) (hd : f + dat d.ln ≤ E.n0) :
    Calls Tryz.prog 96 #[.pointer (some ⟨p, 0, none⟩), .complex .f64 (cr f).re (cr f).im] w fun e w' => e = .returned (.bool true) ∧ TS w' p E R { d with wh := f, st := 9 } ∧ Mut [p] w w' := by
  have h9 : TS (w.setCell ⟨p, 16, none⟩ (.int .i64 9)) p E R { d with st := 9 } := h.put (i := 16) rfl _ rfl rfl rfl
  have H9 : Hid (TS (w.setCell ⟨p, 16, none⟩ (.int .i64 9)) p E R { d with st := 9 }) := h9
  have H9M : Hid (Mut [p] w (w.setCell ⟨p, 16, none⟩ (.int .i64 9))) := (Mut.refl _ _).setCell (by simp) _
  have hn0 : E.n0 ≤ 1024 := h.ok.1.1.2
  have C0 : Hid (Calls Tryz.prog 77 #[.agg #[.int .i64 E.n0, .int .i64 E.n1, .int .i64 E.n2, .int .i64 E.n3, .int .i64 E.n4, .int .i64 E.n5, .int .i64 E.n6, .int .i64 E.n7, .slice (some ⟨E.g, 0, none⟩) E.sl E.sl], .complex .f64 (cr f).re (cr f).im] (w.setCell ⟨p, 16, none⟩ (.int .i64 9)) _) := lfrag_is E.n0 E.n1 E.n2 E.n3 E.n4 E.n5 E.n6 E.n7 (some ⟨E.g, 0, none⟩) E.sl E.sl f _ hn0 hf
  have CD : Hid (∀ w, Calls Tryz.prog 62 #[.int .i64 d.ln] w _) := fun w => data_any d.ln w
  have c14 : w.cell? ⟨p, 14, none⟩ = some (.int .i64 2) := by rw [← hm]; exact h.b.at 14 rfl
  have c0 : w.cell? ⟨p, 0, none⟩ = some (.int .i64 E.n0) := h.b.at 0 rfl
  have c1 : w.cell? ⟨p, 1, none⟩ = some (.int .i64 E.n1) := h.b.at 1 rfl
  have c2 : w.cell? ⟨p, 2, none⟩ = some (.int .i64 E.n2) := h.b.at 2 rfl
  have c3 : w.cell? ⟨p, 3, none⟩ = some (.int .i64 E.n3) := h.b.at 3 rfl
  have c4 : w.cell? ⟨p, 4, none⟩ = some (.int .i64 E.n4) := h.b.at 4 rfl
  have c5 : w.cell? ⟨p, 5, none⟩ = some (.int .i64 E.n5) := h.b.at 5 rfl
  have c6 : w.cell? ⟨p, 6, none⟩ = some (.int .i64 E.n6) := h.b.at 6 rfl
  have c7 : w.cell? ⟨p, 7, none⟩ = some (.int .i64 E.n7) := h.b.at 7 rfl
  have c8 : w.cell? ⟨p, 8, none⟩ = some (.slice (some ⟨E.g, 0, none⟩) E.sl E.sl) := h.b.at 8 rfl
  have c16 := h.b.at 16 rfl
  have fz := h.b.fz
  have ht0 := dat_lo d.ln
  have ht1 := dat_hi d.ln
  clear h h9 hm
  generalize (cr f) = z at *
  go_enter Tryz.func96, Tryz.ntmps96
  go_wp2_with fail
  refine C0.out.mono ?_
  rintro e w1 ⟨rfl, K⟩
  have hk : TS w1 p E R { d with st := 9 } := H9.out.kept K
  have HK : Hid (TS (w1.setCell ⟨p, 15, none⟩ (.int .i64 f)) p E R { d with wh := f, st := 9 } ∧ Mut [p] w (w1.setCell ⟨p, 15, none⟩ (.int .i64 f))) := ⟨hk.put (i := 15) rfl _ rfl rfl rfl, (H9M.out.trans K.mut).setCell (by simp) _⟩
  have c15 := hk.b.at 15 rfl
  have fz := hk.b.fz
  clear K C0 H9 H9M c0 c1 c2 c3 c4 c5 c6 c7 c8 c14 c16 hk
  go_upto_region 7 with fail
  generalize w1.setCell ⟨p, 15, none⟩ (.int .i64 f) = w2 at *
  clear c15 fz
  have q0 := KW.cell (w := w2) (a := ⟨p, 0, none⟩) HK.out.1.b.lt (HK.out.1.b.at 0 rfl)
  have q13 := KW.cell (w := w2) (a := ⟨p, 13, none⟩) HK.out.1.b.lt (HK.out.1.b.at 13 rfl)
  have q15 := KW.cell (w := w2) (a := ⟨p, 15, none⟩) HK.out.1.b.lt (HK.out.1.b.at 15 rfl)
  generalize dat d.ln = t at *
  refine wp_region_kept (by kernel_rfl) (by kernel_rfl) fun _ => ?_
  repeat (go_big_quiet_step ((go_at_call 62; exact kept_of_same (CD.out _))))
  refine wpQuiet_nil ?_
  rintro _ ⟨z2, rfl⟩
  clear q0 q13 q15
  have HR : Hid (TS z2.it p E R { d with wh := f, st := 9 } ∧ Mut [p] w z2.it) := ⟨HK.out.1.kept z2.ok, HK.out.2.trans z2.ok.mut⟩
  go_wp2
  go_ret
  exact ⟨by simp, HR.out.1, HR.out.2⟩

set_option maxHeartbeats 400000 in
theorem topen_1 {z : Cx} {X : World → Prop} (w : World) (h : TS w p E R d) (hs : d.st = 1) (hC : Calls Tryz.prog 93 #[.pointer (some ⟨p, 0, none⟩), .complex .f64 z.re z.im] w fun e w' => e = .returned (.bool true) ∧ X w') :
    Calls Tryz.prog 71 #[.pointer (some ⟨p, 0, none⟩), .complex .f64 z.re z.im] w fun e w' => e = .returned (.bool true) ∧ X w' := by
  have c16 : w.cell? ⟨p, 16, none⟩ = some (.int .i64 1) := by rw [← hs]; exact h.b.at 16 rfl
  have C0 : Hid (Calls Tryz.prog 93 #[.pointer (some ⟨p, 0, none⟩), .complex .f64 z.re z.im] w fun e w' => e = .returned (.bool true) ∧ X w') := hC
  clear h hs hC
  go_enter Tryz.func71, Tryz.ntmps71
  go_wp2_with fail
  refine C0.out.mono ?_
  rintro e w1 ⟨rfl, HX⟩
  go_wp2
  go_ret
  exact ⟨rfl, HX⟩

set_option maxHeartbeats 400000 in
theorem topen_2 {z : Cx} {X : World → Prop} (w : World) (h : TS w p E R d) (hs : d.st = 2) (hC : Calls Tryz.prog 94 #[.pointer (some ⟨p, 0, none⟩), .complex .f64 z.re z.im] w fun e w' => e = .returned (.bool true) ∧ X w') :
    Calls Tryz.prog 71 #[.pointer (some ⟨p, 0, none⟩), .complex .f64 z.re z.im] w fun e w' => e = .returned (.bool true) ∧ X w' := by
  have c16 : w.cell? ⟨p, 16, none⟩ = some (.int .i64 2) := by rw [← hs]; exact h.b.at 16 rfl
  have C0 : Hid (Calls Tryz.prog 94 #[.pointer (some ⟨p, 0, none⟩), .complex .f64 z.re z.im] w fun e w' => e = .returned (.bool true) ∧ X w') := hC
  clear h hs hC
  go_enter Tryz.func71, Tryz.ntmps71
  go_wp2_with fail
  refine C0.out.mono ?_
  rintro e w1 ⟨rfl, HX⟩
  go_wp2
  go_ret
  exact ⟨rfl, HX⟩

set_option maxHeartbeats 400000 in
theorem topen_3 {z : Cx} {X : World → Prop} (w : World) (h : TS w p E R d) (hs : d.st = 3) (hC : Calls Tryz.prog 95 #[.pointer (some ⟨p, 0, none⟩), .complex .f64 z.re z.im] w fun e w' => e = .returned (.bool true) ∧ X w') :
    Calls Tryz.prog 71 #[.pointer (some ⟨p, 0, none⟩), .complex .f64 z.re z.im] w fun e w' => e = .returned (.bool true) ∧ X w' := by
  have c16 : w.cell? ⟨p, 16, none⟩ = some (.int .i64 3) := by rw [← hs]; exact h.b.at 16 rfl
  have C0 : Hid (Calls Tryz.prog 95 #[.pointer (some ⟨p, 0, none⟩), .complex .f64 z.re z.im] w fun e w' => e = .returned (.bool true) ∧ X w') := hC
  clear h hs hC
  go_enter Tryz.func71, Tryz.ntmps71
  go_wp2_with fail
  refine C0.out.mono ?_
  rintro e w1 ⟨rfl, HX⟩
  go_wp2
  go_ret
  exact ⟨rfl, HX⟩

set_option maxHeartbeats 400000 in
theorem topen_4 {z : Cx} {X : World → Prop} (w : World) (h : TS w p E R d) (hs : d.st = 4) (hC : Calls Tryz.prog 96 #[.pointer (some ⟨p, 0, none⟩), .complex .f64 z.re z.im] w fun e w' => e = .returned (.bool true) ∧ X w') :
    Calls Tryz.prog 71 #[.pointer (some ⟨p, 0, none⟩), .complex .f64 z.re z.im] w fun e w' => e = .returned (.bool true) ∧ X w' := by
  have c16 : w.cell? ⟨p, 16, none⟩ = some (.int .i64 4) := by rw [← hs]; exact h.b.at 16 rfl
  have C0 : Hid (Calls Tryz.prog 96 #[.pointer (some ⟨p, 0, none⟩), .complex .f64 z.re z.im] w fun e w' => e = .returned (.bool true) ∧ X w') := hC
  clear h hs hC
  go_enter Tryz.func71, Tryz.ntmps71
  go_wp2_with fail
  refine C0.out.mono ?_
  rintro e w1 ⟨rfl, HX⟩
  go_wp2
  go_ret
  exact ⟨rfl, HX⟩
end
end Go.Proofs.YtpdclckgnajcdaaGreat
