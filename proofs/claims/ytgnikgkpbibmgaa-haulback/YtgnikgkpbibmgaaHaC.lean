/-
  Contracts of package haul: where the word is at which it stands; what is read and written there.
-/
import Derived.Test.YtgnikgkpbibmgaaHaB
namespace Go.Proofs.Ytgnikgkpbibmgaa
open Go.RowKit

section
variable {p : Nat} {E : En} {d : Hd}

set_option maxHeartbeats 1000000 in
theorem haddr_w (w : World) (h : HS w p E d) (hs : d.st = 4 ∨ d.st = 10) (hk : 0 ≤ d.hd ∧ d.hd < E.n0) :
    Calls Try.prog 64 #[.pointer (some ⟨p, 0, none⟩)] w fun e w' => e = .returned (.tuple #[.int .i64 (d.hd * 8 + 4), .bool true]) ∧ Kept w w' := by
  have c1 : w.cell? ⟨p, 19, none⟩ = some (.int .i64 d.st) := h.b.at 19 rfl
  have CF : Hid (∀ x : KW w, Calls Try.prog 73 #[.agg #[.int .i64 E.n0, .int .i64 E.n1, .int .i64 E.n2, .int .i64 E.n3, .int .i64 E.n4, .int .i64 E.n5, .int .i64 E.n6, .int .i64 E.n7, .slice (some ⟨E.g, 0, none⟩) E.sl E.sl], .int .i64 d.hd, .int .i64 4] x.it _) := fun x => (h.kept x.ok).frag d.hd 4 hk (by omega)
  have q0 := KW.cell (w := w) (a := ⟨p, 0, none⟩) h.b.lt (h.b.at 0 rfl)
  have q1 := KW.cell (w := w) (a := ⟨p, 1, none⟩) h.b.lt (h.b.at 1 rfl)
  have q2 := KW.cell (w := w) (a := ⟨p, 2, none⟩) h.b.lt (h.b.at 2 rfl)
  have q3 := KW.cell (w := w) (a := ⟨p, 3, none⟩) h.b.lt (h.b.at 3 rfl)
  have q4 := KW.cell (w := w) (a := ⟨p, 4, none⟩) h.b.lt (h.b.at 4 rfl)
  have q5 := KW.cell (w := w) (a := ⟨p, 5, none⟩) h.b.lt (h.b.at 5 rfl)
  have q6 := KW.cell (w := w) (a := ⟨p, 6, none⟩) h.b.lt (h.b.at 6 rfl)
  have q7 := KW.cell (w := w) (a := ⟨p, 7, none⟩) h.b.lt (h.b.at 7 rfl)
  have q8 := KW.cell (w := w) (a := ⟨p, 8, none⟩) h.b.lt (h.b.at 8 rfl)
  have q14 := KW.cell (w := w) (a := ⟨p, 14, none⟩) h.b.lt (h.b.at 14 rfl)
  have hn := h.n0
  clear h
  generalize d.st = st at *
  rcases hs with rfl | rfl
  all_goals go_enter Try.func64, Try.ntmps64
  all_goals go_wp2_with fail
  all_goals refine wp_region_kept (by kernel_rfl) (by kernel_rfl) fun _ => ?_
  all_goals repeat (go_big_quiet_step ((go_at_call 73; exact kept_of (CF.out _))))
  all_goals refine wpQuiet_nil ?_
  all_goals rintro _ ⟨z, rfl⟩
  all_goals have HZ : Hid (Kept w z.it) := z.ok
  all_goals generalize z.it = w2 at *
  all_goals clear q0 q1 q2 q3 q4 q5 q6 q7 q8 q14 c1
  all_goals go_wp2
  all_goals go_ret2
  all_goals exact ⟨rfl, HZ.out⟩

set_option maxHeartbeats 1000000 in
theorem haddr_s {v : Int} (w : World) (h : HS w p E d) (hs : d.st = 1 ∨ d.st = 2 ∨ d.st = 8) (hv : NthIs d v) (hl : 0 ≤ d.sl ∧ d.sl ≤ 3000) (hf : 0 ≤ d.fr ∧ d.fr < 2) (hp : 0 ≤ d.pa ∧ d.pa ≤ 3000) (hk : 0 ≤ v ∧ d.pa + v < E.n1) :
    Calls Try.prog 64 #[.pointer (some ⟨p, 0, none⟩)] w fun e w' => e = .returned (.tuple #[.int .i64 (E.sp d.fr + (d.pa + v)), .bool true]) ∧ Kept w w' := by
  have c1 : w.cell? ⟨p, 19, none⟩ = some (.int .i64 d.st) := h.b.at 19 rfl
  have CF : Hid (∀ x : KW w, Calls Try.prog 74 #[.agg #[.int .i64 E.n0, .int .i64 E.n1, .int .i64 E.n2, .int .i64 E.n3, .int .i64 E.n4, .int .i64 E.n5, .int .i64 E.n6, .int .i64 E.n7, .slice (some ⟨E.g, 0, none⟩) E.sl E.sl], .int .i64 d.fr, .int .i64 (d.pa + v)] x.it _) := fun x => (h.kept x.ok).spine d.fr (d.pa + v) hf (by omega)
  have CN : Hid (∀ x : KW w, Calls Try.prog 75 #[.pointer (some ⟨p, 0, none⟩)] x.it _) := fun x => hnth_is x.it (h.kept x.ok) hv hl
  have q0 := KW.cell (w := w) (a := ⟨p, 0, none⟩) h.b.lt (h.b.at 0 rfl)
  have q1 := KW.cell (w := w) (a := ⟨p, 1, none⟩) h.b.lt (h.b.at 1 rfl)
  have q2 := KW.cell (w := w) (a := ⟨p, 2, none⟩) h.b.lt (h.b.at 2 rfl)
  have q3 := KW.cell (w := w) (a := ⟨p, 3, none⟩) h.b.lt (h.b.at 3 rfl)
  have q4 := KW.cell (w := w) (a := ⟨p, 4, none⟩) h.b.lt (h.b.at 4 rfl)
  have q5 := KW.cell (w := w) (a := ⟨p, 5, none⟩) h.b.lt (h.b.at 5 rfl)
  have q6 := KW.cell (w := w) (a := ⟨p, 6, none⟩) h.b.lt (h.b.at 6 rfl)
  have q7 := KW.cell (w := w) (a := ⟨p, 7, none⟩) h.b.lt (h.b.at 7 rfl)
  have q8 := KW.cell (w := w) (a := ⟨p, 8, none⟩) h.b.lt (h.b.at 8 rfl)
  have q9 := KW.cell (w := w) (a := ⟨p, 9, none⟩) h.b.lt (h.b.at 9 rfl)
  have q12 := KW.cell (w := w) (a := ⟨p, 12, none⟩) h.b.lt (h.b.at 12 rfl)
  have hn := h.n1
  clear h hv
  generalize d.st = st at *
  rcases hs with rfl | rfl | rfl
  all_goals go_enter Try.func64, Try.ntmps64
  all_goals go_wp2_with fail
  all_goals refine wp_region_kept (by kernel_rfl) (by kernel_rfl) fun _ => ?_
  all_goals repeat (go_big_quiet_step (first | (go_at_call 74; exact kept_of (CF.out _)) | (go_at_call 75; exact kept_of_same (CN.out _))))
  all_goals refine wpQuiet_nil ?_
  all_goals rintro _ ⟨z, rfl⟩
  all_goals have HZ : Hid (Kept w z.it) := z.ok
  all_goals generalize z.it = w2 at *
  all_goals clear q0 q1 q2 q3 q4 q5 q6 q7 q8 q9 q12 c1
  all_goals go_wp2
  all_goals go_ret2
  all_goals exact ⟨rfl, HZ.out⟩

set_option maxHeartbeats 1000000 in
theorem haddr_d {v : Int} (w : World) (h : HS w p E d) (hs : d.st = 6 ∨ d.st = 7 ∨ d.st = 9) (hv : NthIs d v) (hl : 0 ≤ d.sl ∧ d.sl ≤ 3000) (hf : 0 ≤ d.fr ∧ d.fr < 2) (hp : 0 ≤ d.pt ∧ d.pt ≤ 3000) (hk : 0 ≤ v ∧ d.pt + v < E.n1) :
    Calls Try.prog 64 #[.pointer (some ⟨p, 0, none⟩)] w fun e w' => e = .returned (.tuple #[.int .i64 (E.sp (1 - d.fr) + (d.pt + v)), .bool true]) ∧ Kept w w' := by
  have c1 : w.cell? ⟨p, 19, none⟩ = some (.int .i64 d.st) := h.b.at 19 rfl
  have CF : Hid (∀ x : KW w, Calls Try.prog 74 #[.agg #[.int .i64 E.n0, .int .i64 E.n1, .int .i64 E.n2, .int .i64 E.n3, .int .i64 E.n4, .int .i64 E.n5, .int .i64 E.n6, .int .i64 E.n7, .slice (some ⟨E.g, 0, none⟩) E.sl E.sl], .int .i64 (1 - d.fr), .int .i64 (d.pt + v)] x.it _) := fun x => (h.kept x.ok).spine (1 - d.fr) (d.pt + v) (by omega) (by omega)
  have CN : Hid (∀ x : KW w, Calls Try.prog 75 #[.pointer (some ⟨p, 0, none⟩)] x.it _) := fun x => hnth_is x.it (h.kept x.ok) hv hl
  have CO : Hid (∀ x : KW w, Calls Try.prog 76 #[.pointer (some ⟨p, 0, none⟩)] x.it _) := fun x => hother_is x.it (h.kept x.ok) hf
  have q0 := KW.cell (w := w) (a := ⟨p, 0, none⟩) h.b.lt (h.b.at 0 rfl)
  have q1 := KW.cell (w := w) (a := ⟨p, 1, none⟩) h.b.lt (h.b.at 1 rfl)
  have q2 := KW.cell (w := w) (a := ⟨p, 2, none⟩) h.b.lt (h.b.at 2 rfl)
  have q3 := KW.cell (w := w) (a := ⟨p, 3, none⟩) h.b.lt (h.b.at 3 rfl)
  have q4 := KW.cell (w := w) (a := ⟨p, 4, none⟩) h.b.lt (h.b.at 4 rfl)
  have q5 := KW.cell (w := w) (a := ⟨p, 5, none⟩) h.b.lt (h.b.at 5 rfl)
  have q6 := KW.cell (w := w) (a := ⟨p, 6, none⟩) h.b.lt (h.b.at 6 rfl)
  have q7 := KW.cell (w := w) (a := ⟨p, 7, none⟩) h.b.lt (h.b.at 7 rfl)
  have q8 := KW.cell (w := w) (a := ⟨p, 8, none⟩) h.b.lt (h.b.at 8 rfl)
  have q13 := KW.cell (w := w) (a := ⟨p, 13, none⟩) h.b.lt (h.b.at 13 rfl)
  have hn := h.n1
  clear h hv
  generalize d.st = st at *
  rcases hs with rfl | rfl | rfl
  all_goals go_enter Try.func64, Try.ntmps64
  all_goals go_wp2_with fail
  all_goals refine wp_region_kept (by kernel_rfl) (by kernel_rfl) fun _ => ?_
  all_goals repeat (go_big_quiet_step (first | (go_at_call 74; exact kept_of (CF.out _)) | (go_at_call 75; exact kept_of_same (CN.out _)) | (go_at_call 76; exact kept_of_same (CO.out _))))
  all_goals refine wpQuiet_nil ?_
  all_goals rintro _ ⟨z, rfl⟩
  all_goals have HZ : Hid (Kept w z.it) := z.ok
  all_goals generalize z.it = w2 at *
  all_goals clear q0 q1 q2 q3 q4 q5 q6 q7 q8 q13 c1
  all_goals go_wp2
  all_goals go_ret2
  all_goals exact ⟨rfl, HZ.out⟩
end
end Go.Proofs.Ytgnikgkpbibmgaa
