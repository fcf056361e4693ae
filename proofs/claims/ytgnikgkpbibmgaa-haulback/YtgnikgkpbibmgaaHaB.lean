/-
  Contracts of package haul's small functions.
-/
import Derived.Test.YtgnikgkpbibmgaaHaA
namespace Go.Proofs.Ytgnikgkpbibmgaa
open Go.RowKit

section
variable {p : Nat} {E : En} {d : Hd}

set_option maxHeartbeats 400000 in
theorem hdone_is (q : Bool) (w : World) (h : HS w p E d) (hq : (d.st == 13) = q) :
    Calls Try.prog 18 #[.pointer (some ⟨p, 0, none⟩)] w fun e w' => e = .returned (.bool q) ∧ w' = w := by
  have c1 : w.cell? ⟨p, 19, none⟩ = some (.int .i64 d.st) := h.b.at 19 rfl
  clear h
  go_enter Try.func18, Try.ntmps18
  go_wp2
  go_ret
  subst hq
  exact ⟨rfl, rfl⟩

set_option maxHeartbeats 400000 in
theorem herrno_is (w : World) (h : HS w p E d) :
    Calls Try.prog 23 #[.pointer (some ⟨p, 0, none⟩)] w fun e w' => e = .returned (.int .i64 d.er) ∧ w' = w := by
  have c1 : w.cell? ⟨p, 20, none⟩ = some (.int .i64 d.er) := h.b.at 20 rfl
  clear h
  go_enter Try.func23, Try.ntmps23
  go_wp2
  go_ret
  exact ⟨rfl, rfl⟩

set_option maxHeartbeats 400000 in
theorem hmoved_is (w : World) (h : HS w p E d) :
    Calls Try.prog 24 #[.pointer (some ⟨p, 0, none⟩)] w fun e w' => e = .returned (.int .i64 d.mo) ∧ w' = w := by
  have c1 : w.cell? ⟨p, 21, none⟩ = some (.int .i64 d.mo) := h.b.at 21 rfl
  clear h
  go_enter Try.func24, Try.ntmps24
  go_wp2
  go_ret
  exact ⟨rfl, rfl⟩

set_option maxHeartbeats 400000 in
theorem hsteps_is (w : World) (h : HS w p E d) :
    Calls Try.prog 28 #[.pointer (some ⟨p, 0, none⟩)] w fun e w' => e = .returned (.int .i64 d.sp) ∧ w' = w := by
  have c1 : w.cell? ⟨p, 22, none⟩ = some (.int .i64 (d.sp : Int)) := h.b.at 22 rfl
  clear h
  go_enter Try.func28, Try.ntmps28
  go_wp2
  go_ret
  exact ⟨rfl, rfl⟩

set_option maxHeartbeats 400000 in
theorem hother_is (w : World) (h : HS w p E d) (hf : 0 ≤ d.fr ∧ d.fr < 2) :
    Calls Try.prog 76 #[.pointer (some ⟨p, 0, none⟩)] w fun e w' => e = .returned (.int .i64 (1 - d.fr)) ∧ w' = w := by
  have c1 : w.cell? ⟨p, 9, none⟩ = some (.int .i64 d.fr) := h.b.at 9 rfl
  clear h
  obtain ⟨h0, h1⟩ := hf
  go_enter Try.func76, Try.ntmps76
  go_wp2
  go_ret
  exact ⟨rfl, rfl⟩

set_option maxHeartbeats 400000 in
theorem hwords_is (w : World) (h : HS w p E d) (hf : 0 ≤ d.ct ∧ d.ct ≤ 3000) :
    Calls Try.prog 53 #[.pointer (some ⟨p, 0, none⟩)] w fun e w' => e = .returned (.int .i64 (2 + d.ct)) ∧ w' = w := by
  have c1 : w.cell? ⟨p, 15, none⟩ = some (.int .i64 d.ct) := h.b.at 15 rfl
  clear h
  obtain ⟨h0, h1⟩ := hf
  go_enter Try.func53, Try.ntmps53
  go_wp2
  go_ret
  exact ⟨rfl, rfl⟩

/-- Which word of the spine it is. -/
def NthIs (d : Hd) (v : Int) : Prop := (d.st = 1 ∧ v = 0) ∨ (d.st = 6 ∧ v = 0) ∨ (d.st = 2 ∧ v = 1) ∨ (d.st = 7 ∧ v = 1) ∨ (d.st = 8 ∧ v = 2 + d.sl) ∨ (d.st = 9 ∧ v = 2 + d.sl)

set_option maxHeartbeats 400000 in
theorem hnth_is {v : Int} (w : World) (h : HS w p E d) (hv : NthIs d v) (hf : 0 ≤ d.sl ∧ d.sl ≤ 3000) :
    Calls Try.prog 75 #[.pointer (some ⟨p, 0, none⟩)] w fun e w' => e = .returned (.int .i64 v) ∧ w' = w := by
  have c1 : w.cell? ⟨p, 19, none⟩ = some (.int .i64 d.st) := h.b.at 19 rfl
  have c2 : w.cell? ⟨p, 17, none⟩ = some (.int .i64 d.sl) := h.b.at 17 rfl
  clear h
  obtain ⟨h0, h1⟩ := hf
  unfold NthIs at hv
  generalize d.st = st at *
  rcases hv with ⟨rfl, rfl⟩ | ⟨rfl, rfl⟩ | ⟨rfl, rfl⟩ | ⟨rfl, rfl⟩ | ⟨rfl, rfl⟩ | ⟨rfl, rfl⟩
  all_goals go_enter Try.func75, Try.ntmps75
  all_goals go_wp2
  all_goals go_ret
  all_goals exact ⟨rfl, rfl⟩

set_option maxHeartbeats 800000 in
theorem hwhere_is (s k : Int) (w : World) (h : HS w p E d) (hs : 0 ≤ s ∧ s < 2) (hk : 0 ≤ k ∧ k < E.n1) :
    Calls Try.prog 69 #[.pointer (some ⟨p, 0, none⟩), .int .i64 s, .int .i64 k] w fun e w' => e = .returned (.complex .f64 (cw (E.sp s + k)).re (cw (E.sp s + k)).im) ∧ Kept w w' := by
  have C0 : Hid (Calls Try.prog 74 #[.agg #[.int .i64 E.n0, .int .i64 E.n1, .int .i64 E.n2, .int .i64 E.n3, .int .i64 E.n4, .int .i64 E.n5, .int .i64 E.n6, .int .i64 E.n7, .slice (some ⟨E.g, 0, none⟩) E.sl E.sl], .int .i64 s, .int .i64 k] w _) := h.spine s k hs hk
  have hb := sp_lo h hs
  have hn := h.n1
  have c0 : w.cell? ⟨p, 0, none⟩ = some (.int .i64 E.n0) := h.b.at 0 rfl
  have c1 : w.cell? ⟨p, 1, none⟩ = some (.int .i64 E.n1) := h.b.at 1 rfl
  have c2 : w.cell? ⟨p, 2, none⟩ = some (.int .i64 E.n2) := h.b.at 2 rfl
  have c3 : w.cell? ⟨p, 3, none⟩ = some (.int .i64 E.n3) := h.b.at 3 rfl
  have c4 : w.cell? ⟨p, 4, none⟩ = some (.int .i64 E.n4) := h.b.at 4 rfl
  have c5 : w.cell? ⟨p, 5, none⟩ = some (.int .i64 E.n5) := h.b.at 5 rfl
  have c6 : w.cell? ⟨p, 6, none⟩ = some (.int .i64 E.n6) := h.b.at 6 rfl
  have c7 : w.cell? ⟨p, 7, none⟩ = some (.int .i64 E.n7) := h.b.at 7 rfl
  have c8 : w.cell? ⟨p, 8, none⟩ = some (.slice (some ⟨E.g, 0, none⟩) E.sl E.sl) := h.b.at 8 rfl
  generalize E.sp s = b at *
  have C1 : Hid (∀ w, Calls Try.prog 80 #[.int .i64 (b + k)] w _) := fun w => whole_in (b + k) w (by omega) (by omega)
  clear h hb hn hs hk
  go_enter Try.func69, Try.ntmps69
  go_wp2_with fail
  refine C0.out.mono ?_
  rintro e w1 ⟨rfl, K⟩
  clear c0 c1 c2 c3 c4 c5 c6 c7 c8
  go_wp2_with fail
  refine (C1.out _).mono ?_
  rintro e w2 ⟨rfl, rfl⟩
  go_wp2
  go_ret
  exact ⟨rfl, K⟩

set_option maxHeartbeats 800000 in
theorem hwritten_6 (w : World) (h : HS w p E d) (hs : d.st = 6) (hk : 0 ≤ d.hd ∧ d.hd ≤ 1024) :
    Calls Try.prog 70 #[.pointer (some ⟨p, 0, none⟩)] w fun e w' => e = .returned (.complex .f64 (cr d.hd).re (cr d.hd).im) ∧ Kept w w' := by
  have c1 : w.cell? ⟨p, 19, none⟩ = some (.int .i64 6) := by rw [← hs]; exact h.b.at 19 rfl
  have c2 : w.cell? ⟨p, 14, none⟩ = some (.int .i64 d.hd) := h.b.at 14 rfl
  have C0 : Hid (∀ w, Calls Try.prog 81 #[.int .i64 d.hd] w _) := fun w => ref_in d.hd w hk.1 (by omega)
  clear h hs hk
  go_enter Try.func70, Try.ntmps70
  go_wp2_with fail
  refine (C0.out _).mono ?_
  rintro e w1 ⟨rfl, rfl⟩
  go_wp2
  go_ret
  exact ⟨rfl, Kept.refl _⟩

set_option maxHeartbeats 800000 in
theorem hwritten_7 (w : World) (h : HS w p E d) (hs : d.st = 7) (hk : 0 ≤ d.ct ∧ d.ct ≤ 3000) :
    Calls Try.prog 70 #[.pointer (some ⟨p, 0, none⟩)] w fun e w' => e = .returned (.complex .f64 (cw d.ct).re (cw d.ct).im) ∧ Kept w w' := by
  have c1 : w.cell? ⟨p, 19, none⟩ = some (.int .i64 7) := by rw [← hs]; exact h.b.at 19 rfl
  have c2 : w.cell? ⟨p, 15, none⟩ = some (.int .i64 d.ct) := h.b.at 15 rfl
  have C0 : Hid (∀ w, Calls Try.prog 80 #[.int .i64 d.ct] w _) := fun w => whole_in d.ct w (by omega) (by omega)
  clear h hs hk
  go_enter Try.func70, Try.ntmps70
  go_wp2_with fail
  refine (C0.out _).mono ?_
  rintro e w1 ⟨rfl, rfl⟩
  go_wp2
  go_ret
  exact ⟨rfl, Kept.refl _⟩

set_option maxHeartbeats 800000 in
theorem hwritten_9 (w : World) (h : HS w p E d) (hs : d.st = 9) :
    Calls Try.prog 70 #[.pointer (some ⟨p, 0, none⟩)] w fun e w' => e = .returned (.complex .f64 d.wo.re d.wo.im) ∧ Kept w w' := by
  have c1 : w.cell? ⟨p, 19, none⟩ = some (.int .i64 9) := by rw [← hs]; exact h.b.at 19 rfl
  have c2 : w.cell? ⟨p, 18, none⟩ = some (.complex .f64 d.wo.re d.wo.im) := h.b.at 18 rfl
  clear h hs
  go_enter Try.func70, Try.ntmps70
  go_wp2
  go_ret
  exact ⟨rfl, Kept.refl _⟩

set_option maxHeartbeats 800000 in
theorem hwritten_10 (w : World) (h : HS w p E d) (hs : d.st = 10) (hf : 0 ≤ d.fr ∧ d.fr < 2) (hk : 0 ≤ d.pt ∧ d.pt < E.n1) :
    Calls Try.prog 70 #[.pointer (some ⟨p, 0, none⟩)] w fun e w' => e = .returned (.complex .f64 (cw (E.sp (1 - d.fr) + d.pt)).re (cw (E.sp (1 - d.fr) + d.pt)).im) ∧ Kept w w' := by
  have c1 : w.cell? ⟨p, 19, none⟩ = some (.int .i64 10) := by rw [← hs]; exact h.b.at 19 rfl
  have q13 := KW.cell (w := w) (a := ⟨p, 13, none⟩) h.b.lt (h.b.at 13 rfl)
  have CW : Hid (∀ x : KW w, Calls Try.prog 69 #[.pointer (some ⟨p, 0, none⟩), .int .i64 (1 - d.fr), .int .i64 d.pt] x.it _) := fun x => hwhere_is (1 - d.fr) d.pt x.it (h.kept x.ok) (by omega) hk
  have CO : Hid (∀ x : KW w, Calls Try.prog 76 #[.pointer (some ⟨p, 0, none⟩)] x.it _) := fun x => hother_is x.it (h.kept x.ok) hf
  clear h hs
  go_enter Try.func70, Try.ntmps70
  go_wp2_with fail
  refine wp_region_kept (by kernel_rfl) (by kernel_rfl) fun _ => ?_
  repeat (go_big_quiet_step (first | (go_at_call 76; exact kept_of_same (CO.out _)) | (go_at_call 69; exact kept_of (CW.out _))))
  refine wpQuiet_nil ?_
  rintro _ ⟨z, rfl⟩
  clear c1 q13
  have HZ : Hid (Kept w z.it) := z.ok
  generalize z.it = w1 at *
  clear CW CO
  go_wp2
  go_ret
  exact ⟨rfl, HZ.out⟩

set_option maxHeartbeats 800000 in
theorem hfits_is (z : Int) (w : World) (h : HS w p E d) (hz : 0 ≤ z ∧ z ≤ d.en - d.pa - 2) (h0 : 0 ≤ d.pa ∧ d.pa ≤ 3000) (h1 : 0 ≤ d.en ∧ d.en ≤ 3000) :
    Calls Try.prog 67 #[.pointer (some ⟨p, 0, none⟩), .complex .f64 (cw z).re (cw z).im] w fun e w' => e = .returned (.tuple #[.int .i64 z, .bool true]) ∧ Kept w w' := by
  have C0 : Hid (∀ w, Calls Try.prog 78 #[.complex .f64 (floatOfInt .f64 z) 0] w _) := fun w => int_fi z w (by omega)
  have q10 := KW.cell (w := w) (a := ⟨p, 10, none⟩) h.b.lt (h.b.at 10 rfl)
  have q12 := KW.cell (w := w) (a := ⟨p, 12, none⟩) h.b.lt (h.b.at 12 rfl)
  obtain ⟨z0, z1⟩ := hz
  have e1 : decide (z ≥ 0) = true := by simpa using z0
  have e2 : decide (0 ≤ z) = true := by simpa using z0
  have e3 : decide (z ≤ d.en - d.pa - 2) = true := by simpa using z1
  unfold cw
  clear h
  go_enter Try.func67, Try.ntmps67
  go_wp2_with fail
  refine (C0.out _).mono ?_
  rintro e w1 ⟨rfl, rfl⟩
  go_wp2_with fail
  refine wp_region_kept (by kernel_rfl) (by kernel_rfl) fun _ => ?_
  repeat (go_big_quiet_step (fail))
  refine wpQuiet_nil ?_
  rintro _ ⟨z, rfl⟩
  have HZ : Hid (Kept w1 z.it) := z.ok
  generalize z.it = w2 at *
  clear q10 q12
  go_wp2
  go_ret2
  exact ⟨rfl, HZ.out⟩

end
end Go.Proofs.Ytgnikgkpbibmgaa
