/-
  Contracts of package trace: where it goes on, and the one access of a step.
-/
import Derived.Test.YtpdclckgnajcdaaGreatTrB
import Derived.Test.YtpdclckgnajcdaaGreatShadeB
namespace Go.Proofs.YtpdclckgnajcdaaGreat
open Go.RowKit

/-- So many fragments. -/
def szD (d : Td) : Int := if d.arr then 1 + dat d.ln else 1 + (d.rl : Int) / 7
section
variable {p : Nat} {E : En} {R : Nat → Bool} {d : Td}

theorem tsize_is (ho : Okd d) (w : World) : Calls Tryz.prog 55 #[.agg #[.bool d.arr, .slice d.rx d.rl d.rl], .int .i64 d.ln] w fun e w' => e = .returned (.int .i64 (szD d)) ∧ Kept w w' := by
  unfold szD
  cases ha : d.arr
  · obtain ⟨h1, h2⟩ := ho.obj ha
    rw [h2]
    exact size_obj d.rx d.rl d.rl _ w h1 rfl
  · obtain ⟨h1, h2, h3⟩ := ho.row ha
    have := size_arr d.rx 1 d.ln w
    have e : arrSize d.ln = 1 + dat d.ln := by unfold arrSize; rw [if_neg (by omega)]
    rw [e] at this
    rw [h1]
    exact this
theorem szD_hi (ho : Okd d) : 1 ≤ szD d ∧ szD d ≤ 65 := by
  unfold szD
  cases ha : d.arr
  · have := (ho.obj ha).1
    simp
    omega
  · have := dat_lo d.ln
    have := dat_hi d.ln
    simp
    omega

set_option maxHeartbeats 1000000 in
theorem tlead_over (w : World) (h : TS w p E R d) (ho : Okd d) (h1 : 1 ≤ d.nt ∧ d.nt ≤ 65) (hn : d.nt = szD d) :
    Calls Tryz.prog 76 #[.pointer (some ⟨p, 0, none⟩)] w fun e w' => e = .returned (.tuple #[]) ∧ TS w' p E R { d with st := 10 } ∧ Mut [p] w w' := by
  have e1 : (d.nt == szD d) = true := by simpa using hn
  have CS : Hid (∀ w, Calls Tryz.prog 55 #[.agg #[.bool d.arr, .slice d.rx d.rl d.rl], .int .i64 d.ln] w _) := fun w => tsize_is ho w
  have hsz := szD_hi ho
  have HT : Hid (TS w p E R d) := h
  have c18 : w.cell? ⟨p, 18, none⟩ = some (.int .i64 d.nt) := h.b.at 18 rfl
  have q11 := KW.cell (w := w) (a := ⟨p, 11, none⟩) h.b.lt (h.b.at 11 rfl)
  have q12 := KW.cell (w := w) (a := ⟨p, 12, none⟩) h.b.lt (h.b.at 12 rfl)
  have q13 := KW.cell (w := w) (a := ⟨p, 13, none⟩) h.b.lt (h.b.at 13 rfl)
  have q18 := KW.cell (w := w) (a := ⟨p, 18, none⟩) h.b.lt (h.b.at 18 rfl)
  clear h ho
  go_enter Tryz.func76, Tryz.ntmps76
  go_wp2_with fail
  refine wp_region_kept (by kernel_rfl) (by kernel_rfl) fun _ => ?_
  repeat (go_big_quiet_step ((go_at_call 55; exact kept_of (CS.out _))))
  refine wpQuiet_nil ?_
  rintro _ ⟨z, rfl⟩
  clear c18 q11 q12 q13 q18
  have HZ : Hid (TS z.it p E R d ∧ Kept w z.it) := ⟨HT.out.kept z.ok, z.ok⟩
  generalize z.it = w1 at *
  clear HT CS
  have c16 := HZ.out.1.b.at 16 rfl
  have fz := HZ.out.1.b.fz
  go_wp2
  go_end0
  exact ⟨rfl, HZ.out.1.put (i := 16) rfl _ rfl rfl rfl, HZ.out.2.mut.setCell (by simp) _⟩

set_option maxHeartbeats 1000000 in
theorem tlead_obj (w : World) (h : TS w p E R d) (ho : Okd d) (h1 : 1 ≤ d.nt ∧ d.nt ≤ 65) (hn : d.nt ≠ szD d) (ha : d.arr = false) (hf : 0 ≤ d.fg ∧ d.fg < E.n0) :
    Calls Tryz.prog 76 #[.pointer (some ⟨p, 0, none⟩)] w fun e w' => e = .returned (.tuple #[]) ∧ TS w' p E R { d with st := 5, nx := d.fg * 8 + 0 } ∧ Mut [p] w w' := by
  have e1 : (d.nt == szD d) = false := by simpa using hn
  have HF : Hid ((0 ≤ d.fg ∧ d.fg < E.n0) ∧ True) := ⟨hf, trivial⟩
  have HA : Hid (d.arr = false) := ha
  clear hf hn ha
  have CS : Hid (∀ w, Calls Tryz.prog 55 #[.agg #[.bool d.arr, .slice d.rx d.rl d.rl], .int .i64 d.ln] w _) := fun w => tsize_is ho w
  have hsz := szD_hi ho
  have HT : Hid (TS w p E R d) := h
  have c18 : w.cell? ⟨p, 18, none⟩ = some (.int .i64 d.nt) := h.b.at 18 rfl
  have q11 := KW.cell (w := w) (a := ⟨p, 11, none⟩) h.b.lt (h.b.at 11 rfl)
  have q12 := KW.cell (w := w) (a := ⟨p, 12, none⟩) h.b.lt (h.b.at 12 rfl)
  have q13 := KW.cell (w := w) (a := ⟨p, 13, none⟩) h.b.lt (h.b.at 13 rfl)
  have q18 := KW.cell (w := w) (a := ⟨p, 18, none⟩) h.b.lt (h.b.at 18 rfl)
  clear h ho
  go_enter Tryz.func76, Tryz.ntmps76
  go_wp2_with fail
  refine wp_region_kept (by kernel_rfl) (by kernel_rfl) fun _ => ?_
  repeat (go_big_quiet_step ((go_at_call 55; exact kept_of (CS.out _))))
  refine wpQuiet_nil ?_
  rintro _ ⟨z, rfl⟩
  clear c18 q11 q12 q13 q18
  have HZ : Hid (TS z.it p E R d ∧ Kept w z.it) := ⟨HT.out.kept z.ok, z.ok⟩
  generalize z.it = w1 at *
  clear HT CS
  have c19 := HZ.out.1.b.at 19 rfl
  have c11 : w1.cell? ⟨p, 11, none⟩ = some (.bool false) := by rw [← HA.out]; exact HZ.out.1.b.at 11 rfl
  have CT : Hid (Calls Tryz.prog 73 #[.pointer (some ⟨p, 0, none⟩), .int .i64 5, .int .i64 (d.fg), .int .i64 (0)] w1 _) := tstand_is 5 (d.fg) (0) w1 HZ.out.1 HF.out.1 (by have := HF.out.2; omega)
  go_wp2_with fail
  refine CT.out.mono ?_
  rintro e w2 ⟨rfl, HT2, HM2⟩
  go_wp2
  go_end0
  exact ⟨rfl, HT2, HZ.out.2.mut.trans HM2⟩

set_option maxHeartbeats 1000000 in
theorem tlead_in (w : World) (h : TS w p E R d) (ho : Okd d) (h1 : 1 ≤ d.nt ∧ d.nt ≤ 65) (hn : d.nt ≠ szD d) (ha : d.arr = true) (hm : d.md = 0) (hf : 0 ≤ d.head ∧ d.head < E.n0) (h4 : d.nt ≤ 4) :
    Calls Tryz.prog 76 #[.pointer (some ⟨p, 0, none⟩)] w fun e w' => e = .returned (.tuple #[]) ∧ TS w' p E R { d with st := 5, nx := d.head * 8 + (4 + (d.nt - 1)) } ∧ Mut [p] w w' := by
  have e1 : (d.nt == szD d) = false := by simpa using hn
  have HF : Hid ((0 ≤ d.head ∧ d.head < E.n0) ∧ 1 ≤ d.nt ∧ d.nt ≤ 4) := ⟨hf, h1.1, h4⟩
  have HA : Hid (d.arr = true) := ha
  have HM : Hid (d.md = 0) := hm
  clear hf hn ha hm h4
  have CS : Hid (∀ w, Calls Tryz.prog 55 #[.agg #[.bool d.arr, .slice d.rx d.rl d.rl], .int .i64 d.ln] w _) := fun w => tsize_is ho w
  have hsz := szD_hi ho
  have HT : Hid (TS w p E R d) := h
  have c18 : w.cell? ⟨p, 18, none⟩ = some (.int .i64 d.nt) := h.b.at 18 rfl
  have q11 := KW.cell (w := w) (a := ⟨p, 11, none⟩) h.b.lt (h.b.at 11 rfl)
  have q12 := KW.cell (w := w) (a := ⟨p, 12, none⟩) h.b.lt (h.b.at 12 rfl)
  have q13 := KW.cell (w := w) (a := ⟨p, 13, none⟩) h.b.lt (h.b.at 13 rfl)
  have q18 := KW.cell (w := w) (a := ⟨p, 18, none⟩) h.b.lt (h.b.at 18 rfl)
  clear h ho
  go_enter Tryz.func76, Tryz.ntmps76
  go_wp2_with fail
  refine wp_region_kept (by kernel_rfl) (by kernel_rfl) fun _ => ?_
  repeat (go_big_quiet_step ((go_at_call 55; exact kept_of (CS.out _))))
  refine wpQuiet_nil ?_
  rintro _ ⟨z, rfl⟩
  clear c18 q11 q12 q13 q18
  have HZ : Hid (TS z.it p E R d ∧ Kept w z.it) := ⟨HT.out.kept z.ok, z.ok⟩
  generalize z.it = w1 at *
  clear HT CS
  have c9 := HZ.out.1.b.at 9 rfl
  have c11 : w1.cell? ⟨p, 11, none⟩ = some (.bool true) := by rw [← HA.out]; exact HZ.out.1.b.at 11 rfl
  have c14 : w1.cell? ⟨p, 14, none⟩ = some (.int .i64 0) := by rw [← HM.out]; exact HZ.out.1.b.at 14 rfl
  have CT : Hid (Calls Tryz.prog 73 #[.pointer (some ⟨p, 0, none⟩), .int .i64 5, .int .i64 (d.head), .int .i64 (4 + (d.nt - 1))] w1 _) := tstand_is 5 (d.head) (4 + (d.nt - 1)) w1 HZ.out.1 HF.out.1 (by have := HF.out.2; omega)
  go_wp2_with fail
  refine CT.out.mono ?_
  rintro e w2 ⟨rfl, HT2, HM2⟩
  go_wp2
  go_end0
  exact ⟨rfl, HT2, HZ.out.2.mut.trans HM2⟩

set_option maxHeartbeats 1000000 in
theorem tlead_sp (w : World) (h : TS w p E R d) (ho : Okd d) (h1 : 1 ≤ d.nt ∧ d.nt ≤ 65) (hn : d.nt ≠ szD d) (ha : d.arr = true) (hm : d.md = 1) (hw : 0 ≤ d.wh ∧ d.wh ≤ 100000) :
    Calls Tryz.prog 76 #[.pointer (some ⟨p, 0, none⟩)] w fun e w' => e = .returned (.tuple #[]) ∧ TS w' p E R { d with st := 5, nx := d.wh + 2 + (d.nt - 1) } ∧ Mut [p] w w' := by
  have e1 : (d.nt == szD d) = false := by simpa using hn
  have HA : Hid (d.arr = true) := ha
  have HM : Hid (d.md = 1) := hm
  clear hn ha hm
  have CS : Hid (∀ w, Calls Tryz.prog 55 #[.agg #[.bool d.arr, .slice d.rx d.rl d.rl], .int .i64 d.ln] w _) := fun w => tsize_is ho w
  have hsz := szD_hi ho
  have HT : Hid (TS w p E R d) := h
  have c18 : w.cell? ⟨p, 18, none⟩ = some (.int .i64 d.nt) := h.b.at 18 rfl
  have q11 := KW.cell (w := w) (a := ⟨p, 11, none⟩) h.b.lt (h.b.at 11 rfl)
  have q12 := KW.cell (w := w) (a := ⟨p, 12, none⟩) h.b.lt (h.b.at 12 rfl)
  have q13 := KW.cell (w := w) (a := ⟨p, 13, none⟩) h.b.lt (h.b.at 13 rfl)
  have q18 := KW.cell (w := w) (a := ⟨p, 18, none⟩) h.b.lt (h.b.at 18 rfl)
  clear h ho
  go_enter Tryz.func76, Tryz.ntmps76
  go_wp2_with fail
  refine wp_region_kept (by kernel_rfl) (by kernel_rfl) fun _ => ?_
  repeat (go_big_quiet_step ((go_at_call 55; exact kept_of (CS.out _))))
  refine wpQuiet_nil ?_
  rintro _ ⟨z, rfl⟩
  clear c18 q11 q12 q13 q18
  have HZ : Hid (TS z.it p E R d ∧ Kept w z.it) := ⟨HT.out.kept z.ok, z.ok⟩
  generalize z.it = w1 at *
  clear HT CS
  have c15 := HZ.out.1.b.at 15 rfl
  have c16 := HZ.out.1.b.at 16 rfl
  have c17 := HZ.out.1.b.at 17 rfl
  have c11 : w1.cell? ⟨p, 11, none⟩ = some (.bool true) := by rw [← HA.out]; exact HZ.out.1.b.at 11 rfl
  have c14 : w1.cell? ⟨p, 14, none⟩ = some (.int .i64 1) := by rw [← HM.out]; exact HZ.out.1.b.at 14 rfl
  have fz := HZ.out.1.b.fz
  go_wp2
  go_end0
  exact ⟨rfl, (HZ.out.1.put (i := 16) rfl _ (d' := { d with st := 5 }) rfl rfl rfl).put (i := 17) rfl _ rfl rfl rfl, (HZ.out.2.mut.setCell (by simp) _).setCell (by simp) _⟩

set_option maxHeartbeats 1000000 in
theorem tlead_row (w : World) (h : TS w p E R d) (ho : Okd d) (h1 : 1 ≤ d.nt ∧ d.nt ≤ 65) (hn : d.nt ≠ szD d) (ha : d.arr = true) (hm : d.md = 2) (hw : 0 ≤ d.wh ∧ d.wh ≤ 100000) :
    Calls Tryz.prog 76 #[.pointer (some ⟨p, 0, none⟩)] w fun e w' => e = .returned (.tuple #[]) ∧ TS w' p E R { d with st := 8, fg := d.wh + (d.nt - 1) } ∧ Mut [p] w w' := by
  have e1 : (d.nt == szD d) = false := by simpa using hn
  have HA : Hid (d.arr = true) := ha
  have HM : Hid (d.md = 2) := hm
  clear hn ha hm
  have CS : Hid (∀ w, Calls Tryz.prog 55 #[.agg #[.bool d.arr, .slice d.rx d.rl d.rl], .int .i64 d.ln] w _) := fun w => tsize_is ho w
  have hsz := szD_hi ho
  have HT : Hid (TS w p E R d) := h
  have c18 : w.cell? ⟨p, 18, none⟩ = some (.int .i64 d.nt) := h.b.at 18 rfl
  have q11 := KW.cell (w := w) (a := ⟨p, 11, none⟩) h.b.lt (h.b.at 11 rfl)
  have q12 := KW.cell (w := w) (a := ⟨p, 12, none⟩) h.b.lt (h.b.at 12 rfl)
  have q13 := KW.cell (w := w) (a := ⟨p, 13, none⟩) h.b.lt (h.b.at 13 rfl)
  have q18 := KW.cell (w := w) (a := ⟨p, 18, none⟩) h.b.lt (h.b.at 18 rfl)
  clear h ho
  go_enter Tryz.func76, Tryz.ntmps76
  go_wp2_with fail
  refine wp_region_kept (by kernel_rfl) (by kernel_rfl) fun _ => ?_
  repeat (go_big_quiet_step ((go_at_call 55; exact kept_of (CS.out _))))
  refine wpQuiet_nil ?_
  rintro _ ⟨z, rfl⟩
  clear c18 q11 q12 q13 q18
  have HZ : Hid (TS z.it p E R d ∧ Kept w z.it) := ⟨HT.out.kept z.ok, z.ok⟩
  generalize z.it = w1 at *
  clear HT CS
  have c15 := HZ.out.1.b.at 15 rfl
  have c16 := HZ.out.1.b.at 16 rfl
  have c19 := HZ.out.1.b.at 19 rfl
  have c11 : w1.cell? ⟨p, 11, none⟩ = some (.bool true) := by rw [← HA.out]; exact HZ.out.1.b.at 11 rfl
  have c14 : w1.cell? ⟨p, 14, none⟩ = some (.int .i64 2) := by rw [← HM.out]; exact HZ.out.1.b.at 14 rfl
  have fz := HZ.out.1.b.fz
  go_wp2
  go_end0
  exact ⟨rfl, (HZ.out.1.put (i := 16) rfl _ (d' := { d with st := 8 }) rfl rfl rfl).put (i := 19) rfl _ rfl rfl rfl, (HZ.out.2.mut.setCell (by simp) _).setCell (by simp) _⟩

set_option maxHeartbeats 1000000 in
theorem tread_is {b M n q sb : Nat} {F : Nat → Cx} (a : Nat) (w : World) (h : TS w p E R d) (h0 : (d.st == 0) = false) (h7 : (d.st == 7) = false) (h8 : (d.st == 8) = false) (hx : d.nx = a) (m : Mm w b M n F q) (ha : a < n) (hq : q ≤ 1000000) :
    Calls Tryz.prog 70 #[.pointer (some ⟨p, 0, none⟩), .pointer (some ⟨M, 0, none⟩), .pointer (some ⟨sb, 0, none⟩)] w fun e w' => e = .returned (.tuple #[.complex .f64 (F a).re (F a).im, .bool true]) ∧ Mm w' b M n F (q + 1) ∧ Mut [M] w w' := by
  have C0 : Hid (Calls Tryz.prog 92 #[.pointer (some ⟨M, 0, none⟩), .int .i64 a] w _) := mem_read a w m ha hq
  have c1 : w.cell? ⟨p, 16, none⟩ = some (.int .i64 d.st) := h.b.at 16 rfl
  have c2 : w.cell? ⟨p, 17, none⟩ = some (.int .i64 a) := by rw [← hx]; exact h.b.at 17 rfl
  clear h m hx
  go_enter Tryz.func70, Tryz.ntmps70
  go_wp2_with fail
  refine C0.out.mono ?_
  rintro e w' ⟨rfl, HM, HU⟩
  go_wp2
  go_ret2
  exact ⟨rfl, HM, HU⟩

set_option maxHeartbeats 1000000 in
theorem tgrey_is {base M sb tb g pb : Nat} {v : Value} {S : ShS} (w : World) (h : TS w p E R d) (hs : d.st = 7) (m : ShC w base sb tb g pb v S) (hc : S.c < lots) :
    Calls Tryz.prog 70 #[.pointer (some ⟨p, 0, none⟩), .pointer (some ⟨M, 0, none⟩), .pointer (some ⟨sb, 0, none⟩)] w fun e w' => e = .returned (.tuple #[.complex .f64 0 0, .bool true]) ∧ ∃ v', ShC w' base sb tb g pb v' (greyS S d.rf d.sen) ∧ Mut (ShF sb tb g pb v) w w' ∧ Fresh w v v' := by
  have C0 : Hid (Calls Tryz.prog 90 #[.pointer (some ⟨sb, 0, none⟩), .int .i64 d.rf, .bool d.sen] w.drew _) := sgrey_any d.rf d.sen w.drew (m.kept (Kept.refl _).drew) hc
  have c16 : w.cell? ⟨p, 16, none⟩ = some (.int .i64 7) := by rw [← hs]; exact h.b.at 16 rfl
  have c10 : w.cell? ⟨p, 10, none⟩ = some (.bool d.sen) := h.b.at 10 rfl
  have cx : w.cell? ⟨p, 21, none⟩ = some (.int .i64 d.rf) := h.b.at 21 rfl
  have HD : Hid (∀ D, Mut D w w.drew) := fun D => (Mut.refl D w).drew
  clear h m hs hc
  go_enter Tryz.func70, Tryz.ntmps70
  go_wp2_with fail
  go_region_with (go_at_call 90; refine C0.out.mono ?_; rintro e w2 ⟨rfl, v2, t2, m2, f2⟩; have HR : Hid (∃ v', ShC w2 base sb tb g pb v' (greyS S d.rf d.sen) ∧ Mut (ShF sb tb g pb v) w w2 ∧ Fresh w v v') := ⟨v2, t2, (HD.out _).trans m2, f2⟩; clear t2 m2 f2)
  all_goals go_wp2
  all_goals go_ret2
  all_goals exact ⟨rfl, (by rename_i HR; exact HR.out)⟩

set_option maxHeartbeats 1000000 in
theorem tpart_is {base M sb tb g pb : Nat} {v : Value} {S : ShS} (w : World) (h : TS w p E R d) (hs : d.st = 8) (m : ShC w base sb tb g pb v S) (hc : S.c < lots) :
    Calls Tryz.prog 70 #[.pointer (some ⟨p, 0, none⟩), .pointer (some ⟨M, 0, none⟩), .pointer (some ⟨sb, 0, none⟩)] w fun e w' => e = .returned (.tuple #[.complex .f64 0 0, .bool true]) ∧ ShC w' base sb tb g pb v (S.tick.mark d.fg d.sen) ∧ Mut (ShF sb tb g pb v) w w' := by
  have C0 : Hid (Calls Tryz.prog 91 #[.pointer (some ⟨sb, 0, none⟩), .int .i64 d.fg, .bool d.sen] w.drew _) := spart_any d.fg d.sen w.drew (m.kept (Kept.refl _).drew) hc
  have c16 : w.cell? ⟨p, 16, none⟩ = some (.int .i64 8) := by rw [← hs]; exact h.b.at 16 rfl
  have c10 : w.cell? ⟨p, 10, none⟩ = some (.bool d.sen) := h.b.at 10 rfl
  have cx : w.cell? ⟨p, 19, none⟩ = some (.int .i64 d.fg) := h.b.at 19 rfl
  have HD : Hid (∀ D, Mut D w w.drew) := fun D => (Mut.refl D w).drew
  clear h m hs hc
  go_enter Tryz.func70, Tryz.ntmps70
  go_wp2_with fail
  go_region_with (go_at_call 91; refine C0.out.mono ?_; rintro e w2 ⟨rfl, t2, m2⟩; have HR : Hid (ShC w2 base sb tb g pb v (S.tick.mark d.fg d.sen) ∧ Mut (ShF sb tb g pb v) w w2) := ⟨t2, (HD.out _).trans m2⟩; clear t2 m2)
  all_goals go_wp2
  all_goals go_ret2
  all_goals exact ⟨rfl, (by rename_i HR; exact HR.out)⟩
end
end Go.Proofs.YtpdclckgnajcdaaGreat
