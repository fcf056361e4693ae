/-
  Contracts of package haul: how a step goes on behind its access, label by label.
-/
import Derived.Test.YtgnikgkpbibmgaaHaE
import Derived.Test.YtgnikgkpbibmgaaHops
namespace Go.Proofs.Ytgnikgkpbibmgaa
open Go.RowKit

section
variable {p M sb kb : Nat} {E : En} {d : Hd} {C : World → Prop}

abbrev acc4 (p M sb kb : Nat) : Array Value := #[.pointer (some ⟨p, 0, none⟩), .pointer (some ⟨M, 0, none⟩), .pointer (some ⟨sb, 0, none⟩), .pointer (some ⟨kb, 0, none⟩)]

set_option maxRecDepth 10000 in
set_option maxHeartbeats 2000000 in
/-- The next one in line. -/
theorem hgo_next (w : World) (hA : Calls Try.prog 52 #[.pointer (some ⟨p, 0, none⟩), .pointer (some ⟨M, 0, none⟩), .pointer (some ⟨sb, 0, none⟩), .pointer (some ⟨kb, 0, none⟩)] w fun e w1 => e = .returned (.bool true) ∧ HS w1 p E d ∧ C w1) (hs : d.st = 1 ∨ d.st = 2 ∨ d.st = 5 ∨ d.st = 6 ∨ d.st = 8) :
    Calls Try.prog 45 #[.pointer (some ⟨p, 0, none⟩), .pointer (some ⟨M, 0, none⟩), .pointer (some ⟨sb, 0, none⟩), .pointer (some ⟨kb, 0, none⟩)] w fun e w' => e = .returned (.tuple #[]) ∧ ∃ w1, C w1 ∧ HS w' p E { d with st := d.st + 1 } ∧ Mut [p] w1 w' := by
  have HA : Hid (Calls Try.prog 52 #[.pointer (some ⟨p, 0, none⟩), .pointer (some ⟨M, 0, none⟩), .pointer (some ⟨sb, 0, none⟩), .pointer (some ⟨kb, 0, none⟩)] w fun e w1 => e = .returned (.bool true) ∧ HS w1 p E d ∧ C w1) := hA
  have HP : Hid (∀ u, HS u p E d → HS (u.setCell ⟨p, 19, none⟩ (.int .i64 (d.st + 1))) p E { d with st := d.st + 1 }) := fun u h => h.put (i := 19) rfl _ rfl
  have HQ : Hid (∀ u, HS u p E d → u.cell? ⟨p, 19, none⟩ = some (.int .i64 d.st)) := fun u h => h.b.at 19 rfl
  clear hA
  generalize hst : d.st = st at *
  rcases hs with rfl | rfl | rfl | rfl | rfl
  all_goals go_enter Try.func45, Try.ntmps45
  all_goals refine wp_scope_hops fun K HK => ?_
  all_goals go_wp2_with fail
  all_goals refine HA.out.mono ?_
  all_goals rintro e w1 ⟨rfl, H1, HC⟩
  all_goals have c19 := HQ.out _ H1
  all_goals have fz := H1.b.fz
  all_goals have HF : Hid (_ ∧ _) := ⟨HC, HP.out _ H1⟩
  all_goals clear HC H1 HQ hst
  all_goals go_wp2
  all_goals (try simp only [Exit.inBlock])
  all_goals (try simp only [Exit.then])
  all_goals (try simp only [hops_ret])
  all_goals refine bodyPost_ret (results_none rfl _ _ _) rfl ?_
  all_goals exact ⟨rfl, w1, HF.out.1, HF.out.2, (Mut.refl _ _).setCell (by simp) _⟩
set_option maxRecDepth 10000 in
set_option maxHeartbeats 4000000 in
/-- It is wanted: the next one in line. -/
theorem hgo_want (w : World) (hA : Calls Try.prog 52 #[.pointer (some ⟨p, 0, none⟩), .pointer (some ⟨M, 0, none⟩), .pointer (some ⟨sb, 0, none⟩), .pointer (some ⟨kb, 0, none⟩)] w fun e w1 => e = .returned (.bool true) ∧ HS w1 p E d ∧ C w1) (hs : d.st = 3 ∨ d.st = 4) (hw : d.wa = true) :
    Calls Try.prog 45 #[.pointer (some ⟨p, 0, none⟩), .pointer (some ⟨M, 0, none⟩), .pointer (some ⟨sb, 0, none⟩), .pointer (some ⟨kb, 0, none⟩)] w fun e w' => e = .returned (.tuple #[]) ∧ ∃ w1, C w1 ∧ HS w' p E { d with st := d.st + 1 } ∧ Mut [p] w1 w' := by
  have HA : Hid (Calls Try.prog 52 #[.pointer (some ⟨p, 0, none⟩), .pointer (some ⟨M, 0, none⟩), .pointer (some ⟨sb, 0, none⟩), .pointer (some ⟨kb, 0, none⟩)] w fun e w1 => e = .returned (.bool true) ∧ HS w1 p E d ∧ C w1) := hA
  have HP : Hid (∀ u, HS u p E d → HS (u.setCell ⟨p, 19, none⟩ (.int .i64 (d.st + 1))) p E { d with st := d.st + 1 }) := fun u h => h.put (i := 19) rfl _ rfl
  have HQ : Hid (∀ u, HS u p E d → u.cell? ⟨p, 19, none⟩ = some (.int .i64 d.st) ∧ u.cell? ⟨p, 16, none⟩ = some (.bool true)) := fun u h => ⟨h.b.at 19 rfl, by rw [← hw]; exact h.b.at 16 rfl⟩
  clear hA hw
  generalize hst : d.st = st at *
  rcases hs with rfl | rfl
  all_goals go_enter Try.func45, Try.ntmps45
  all_goals refine wp_scope_hops fun K HK => ?_
  all_goals go_wp2_with fail
  all_goals refine HA.out.mono ?_
  all_goals rintro e w1 ⟨rfl, H1, HC⟩
  all_goals obtain ⟨c19, c16⟩ := HQ.out _ H1
  all_goals have fz := H1.b.fz
  all_goals have HF : Hid (_ ∧ _) := ⟨HC, HP.out _ H1⟩
  all_goals clear HC H1 HQ hst
  all_goals go_wp2
  all_goals (try simp only [Exit.inBlock])
  all_goals (try simp only [Exit.then])
  all_goals (try simp only [hops_ret])
  all_goals refine bodyPost_ret (results_none rfl _ _ _) rfl ?_
  all_goals exact ⟨rfl, w1, HF.out.1, HF.out.2, (Mut.refl _ _).setCell (by simp) _⟩

set_option maxRecDepth 10000 in
set_option maxHeartbeats 4000000 in
/-- It is not. -/
theorem hgo_skip (w : World) (hA : Calls Try.prog 52 #[.pointer (some ⟨p, 0, none⟩), .pointer (some ⟨M, 0, none⟩), .pointer (some ⟨sb, 0, none⟩), .pointer (some ⟨kb, 0, none⟩)] w fun e w1 => e = .returned (.bool true) ∧ HS w1 p E d ∧ C w1) (hs : d.st = 3 ∨ d.st = 4) (hw : d.wa = false) :
    Calls Try.prog 45 #[.pointer (some ⟨p, 0, none⟩), .pointer (some ⟨M, 0, none⟩), .pointer (some ⟨sb, 0, none⟩), .pointer (some ⟨kb, 0, none⟩)] w fun e w' => e = .returned (.tuple #[]) ∧ ∃ w1, C w1 ∧ HS w' p E { d with st := 11 } ∧ Mut [p] w1 w' := by
  have HA : Hid (Calls Try.prog 52 #[.pointer (some ⟨p, 0, none⟩), .pointer (some ⟨M, 0, none⟩), .pointer (some ⟨sb, 0, none⟩), .pointer (some ⟨kb, 0, none⟩)] w fun e w1 => e = .returned (.bool true) ∧ HS w1 p E d ∧ C w1) := hA
  have HP : Hid (∀ u, HS u p E d → HS (u.setCell ⟨p, 19, none⟩ (.int .i64 11)) p E { d with st := 11 }) := fun u h => h.put (i := 19) rfl _ rfl
  have HQ : Hid (∀ u, HS u p E d → u.cell? ⟨p, 19, none⟩ = some (.int .i64 d.st) ∧ u.cell? ⟨p, 16, none⟩ = some (.bool false)) := fun u h => ⟨h.b.at 19 rfl, by rw [← hw]; exact h.b.at 16 rfl⟩
  clear hA hw
  generalize hst : d.st = st at *
  rcases hs with rfl | rfl
  all_goals go_enter Try.func45, Try.ntmps45
  all_goals refine wp_scope_hops fun K HK => ?_
  all_goals go_wp2_with fail
  all_goals refine HA.out.mono ?_
  all_goals rintro e w1 ⟨rfl, H1, HC⟩
  all_goals obtain ⟨c19, c16⟩ := HQ.out _ H1
  all_goals have fz := H1.b.fz
  all_goals have HF : Hid (_ ∧ _) := ⟨HC, HP.out _ H1⟩
  all_goals clear HC H1 HQ hst
  all_goals go_wp2
  all_goals go_step3
  all_goals refine HK.out 1 _ rfl _ _ ?_
  all_goals go_wp2
  all_goals (try simp only [Exit.inBlock])
  all_goals (try simp only [Exit.then])
  all_goals (try simp only [hops_ret])
  all_goals refine bodyPost_ret (results_none rfl _ _ _) rfl ?_
  all_goals exact ⟨rfl, w1, HF.out.1, HF.out.2, (Mut.refl _ _).setCell (by simp) _⟩

set_option maxRecDepth 10000 in
set_option maxHeartbeats 4000000 in
/-- Behind the count. -/
theorem hgo_cnt_e (w : World) (hA : Calls Try.prog 52 #[.pointer (some ⟨p, 0, none⟩), .pointer (some ⟨M, 0, none⟩), .pointer (some ⟨sb, 0, none⟩), .pointer (some ⟨kb, 0, none⟩)] w fun e w1 => e = .returned (.bool true) ∧ HS w1 p E d ∧ C w1) (hs : d.st = 7) (hc : d.sl = d.ct) (hl : 0 ≤ d.sl ∧ d.sl ≤ 3000) :
    Calls Try.prog 45 #[.pointer (some ⟨p, 0, none⟩), .pointer (some ⟨M, 0, none⟩), .pointer (some ⟨sb, 0, none⟩), .pointer (some ⟨kb, 0, none⟩)] w fun e w' => e = .returned (.tuple #[]) ∧ ∃ w1, C w1 ∧ HS w' p E { d with st := 10 } ∧ Mut [p] w1 w' := by
  have HA : Hid (Calls Try.prog 52 #[.pointer (some ⟨p, 0, none⟩), .pointer (some ⟨M, 0, none⟩), .pointer (some ⟨sb, 0, none⟩), .pointer (some ⟨kb, 0, none⟩)] w fun e w1 => e = .returned (.bool true) ∧ HS w1 p E d ∧ C w1) := hA
  have HQ : Hid (∀ u, HS u p E d → u.cell? ⟨p, 19, none⟩ = some (.int .i64 7)) := fun u h => by rw [← hs]; exact h.b.at 19 rfl
  have HE : Hid (d.st = 7) := hs
  have hq : (d.sl == d.ct) = true := by simpa using hc
  have hq2 : decide (d.sl = d.ct) = true := by simpa using hc
  clear hA hs hc
  obtain ⟨l0, l1⟩ := hl
  go_enter Try.func45, Try.ntmps45
  refine wp_scope_hops fun K HK => ?_
  go_wp2_with fail
  refine HA.out.mono ?_
  rintro e w1 ⟨rfl, H1, HC⟩
  have c19 := HQ.out _ H1
  have c17 : w1.cell? ⟨p, 17, none⟩ = some (.int .i64 d.sl) := H1.b.at 17 rfl
  have fz := H1.b.fz
  have HF : Hid (C w1 ∧ HS (w1.setCell ⟨p, 19, none⟩ (.int .i64 8)) p E { d with st := 8 } ∧ Mut [p] w1 (w1.setCell ⟨p, 19, none⟩ (.int .i64 8))) := ⟨HC, H1.put (i := 19) rfl (.int .i64 8) rfl, (Mut.refl _ _).setCell (by simp) _⟩
  clear HC H1 HQ
  go_wp2
  go_step3
  refine HK.out 2 _ rfl _ _ ?_
  go_wp2_with fail
  generalize w1.setCell ⟨p, 19, none⟩ (.int .i64 8) = W at *
  clear c19 c17 fz
  have c17 : W.cell? ⟨p, 17, none⟩ = some (.int .i64 (d.sl)) := HF.out.2.1.b.at 17 rfl
  have c15 : W.cell? ⟨p, 15, none⟩ = some (.int .i64 d.ct) := HF.out.2.1.b.at 15 rfl
  have c19 : W.cell? ⟨p, 19, none⟩ = some (.int .i64 8) := HF.out.2.1.b.at 19 rfl
  have fz := HF.out.2.1.b.fz
  go_region
  go_wp2
  (try simp only [Exit.inBlock])
  (try simp only [Exit.then])
  (try simp only [hops_ret])
  refine bodyPost_ret (results_none rfl _ _ _) rfl ?_
  exact ⟨rfl, w1, HF.out.1, (HF.out.2.1.kept (Kept.refl _).drew).put (i := 19) rfl _ rfl, HF.out.2.2.drew.setCell (by simp) _⟩

set_option maxRecDepth 10000 in
set_option maxHeartbeats 4000000 in
/-- Behind the count. -/
theorem hgo_cnt_n (w : World) (hA : Calls Try.prog 52 #[.pointer (some ⟨p, 0, none⟩), .pointer (some ⟨M, 0, none⟩), .pointer (some ⟨sb, 0, none⟩), .pointer (some ⟨kb, 0, none⟩)] w fun e w1 => e = .returned (.bool true) ∧ HS w1 p E d ∧ C w1) (hs : d.st = 7) (hc : d.sl ≠ d.ct) (hl : 0 ≤ d.sl ∧ d.sl ≤ 3000) :
    Calls Try.prog 45 #[.pointer (some ⟨p, 0, none⟩), .pointer (some ⟨M, 0, none⟩), .pointer (some ⟨sb, 0, none⟩), .pointer (some ⟨kb, 0, none⟩)] w fun e w' => e = .returned (.tuple #[]) ∧ ∃ w1, C w1 ∧ HS w' p E { d with st := 8 } ∧ Mut [p] w1 w' := by
  have HA : Hid (Calls Try.prog 52 #[.pointer (some ⟨p, 0, none⟩), .pointer (some ⟨M, 0, none⟩), .pointer (some ⟨sb, 0, none⟩), .pointer (some ⟨kb, 0, none⟩)] w fun e w1 => e = .returned (.bool true) ∧ HS w1 p E d ∧ C w1) := hA
  have HQ : Hid (∀ u, HS u p E d → u.cell? ⟨p, 19, none⟩ = some (.int .i64 7)) := fun u h => by rw [← hs]; exact h.b.at 19 rfl
  have HE : Hid (d.st = 7) := hs
  have hq : (d.sl == d.ct) = false := by simpa using hc
  have hq2 : decide (d.sl = d.ct) = false := by simpa using hc
  clear hA hs hc
  obtain ⟨l0, l1⟩ := hl
  go_enter Try.func45, Try.ntmps45
  refine wp_scope_hops fun K HK => ?_
  go_wp2_with fail
  refine HA.out.mono ?_
  rintro e w1 ⟨rfl, H1, HC⟩
  have c19 := HQ.out _ H1
  have c17 : w1.cell? ⟨p, 17, none⟩ = some (.int .i64 d.sl) := H1.b.at 17 rfl
  have fz := H1.b.fz
  have HF : Hid (C w1 ∧ HS (w1.setCell ⟨p, 19, none⟩ (.int .i64 8)) p E { d with st := 8 } ∧ Mut [p] w1 (w1.setCell ⟨p, 19, none⟩ (.int .i64 8))) := ⟨HC, H1.put (i := 19) rfl (.int .i64 8) rfl, (Mut.refl _ _).setCell (by simp) _⟩
  clear HC H1 HQ
  go_wp2
  go_step3
  refine HK.out 2 _ rfl _ _ ?_
  go_wp2_with fail
  generalize w1.setCell ⟨p, 19, none⟩ (.int .i64 8) = W at *
  clear c19 c17 fz
  have c17 : W.cell? ⟨p, 17, none⟩ = some (.int .i64 (d.sl)) := HF.out.2.1.b.at 17 rfl
  have c15 : W.cell? ⟨p, 15, none⟩ = some (.int .i64 d.ct) := HF.out.2.1.b.at 15 rfl
  have c19 : W.cell? ⟨p, 19, none⟩ = some (.int .i64 8) := HF.out.2.1.b.at 19 rfl
  have fz := HF.out.2.1.b.fz
  go_region
  go_wp2
  (try simp only [Exit.inBlock])
  (try simp only [Exit.then])
  (try simp only [hops_ret])
  refine bodyPost_ret (results_none rfl _ _ _) rfl ?_
  exact ⟨rfl, w1, HF.out.1, HF.out.2.1.kept (Kept.refl _).drew, HF.out.2.2.drew⟩

set_option maxRecDepth 10000 in
set_option maxHeartbeats 4000000 in
/-- Behind a slot. -/
theorem hgo_slot_e (w : World) (hA : Calls Try.prog 52 #[.pointer (some ⟨p, 0, none⟩), .pointer (some ⟨M, 0, none⟩), .pointer (some ⟨sb, 0, none⟩), .pointer (some ⟨kb, 0, none⟩)] w fun e w1 => e = .returned (.bool true) ∧ HS w1 p E d ∧ C w1) (hs : d.st = 9) (hc : d.sl + 1 = d.ct) (hl : 0 ≤ d.sl ∧ d.sl ≤ 3000) :
    Calls Try.prog 45 #[.pointer (some ⟨p, 0, none⟩), .pointer (some ⟨M, 0, none⟩), .pointer (some ⟨sb, 0, none⟩), .pointer (some ⟨kb, 0, none⟩)] w fun e w' => e = .returned (.tuple #[]) ∧ ∃ w1, C w1 ∧ HS w' p E { d with sl := d.sl + 1, st := 10 } ∧ Mut [p] w1 w' := by
  have HA : Hid (Calls Try.prog 52 #[.pointer (some ⟨p, 0, none⟩), .pointer (some ⟨M, 0, none⟩), .pointer (some ⟨sb, 0, none⟩), .pointer (some ⟨kb, 0, none⟩)] w fun e w1 => e = .returned (.bool true) ∧ HS w1 p E d ∧ C w1) := hA
  have HQ : Hid (∀ u, HS u p E d → u.cell? ⟨p, 19, none⟩ = some (.int .i64 9)) := fun u h => by rw [← hs]; exact h.b.at 19 rfl
  have HE : Hid (d.st = 9) := hs
  have hq : (d.sl + 1 == d.ct) = true := by simpa using hc
  have hq2 : decide (d.sl + 1 = d.ct) = true := by simpa using hc
  clear hA hs hc
  obtain ⟨l0, l1⟩ := hl
  go_enter Try.func45, Try.ntmps45
  refine wp_scope_hops fun K HK => ?_
  go_wp2_with fail
  refine HA.out.mono ?_
  rintro e w1 ⟨rfl, H1, HC⟩
  have c19 := HQ.out _ H1
  have c17 : w1.cell? ⟨p, 17, none⟩ = some (.int .i64 d.sl) := H1.b.at 17 rfl
  have fz := H1.b.fz
  have HF : Hid (C w1 ∧ HS ((w1.setCell ⟨p, 17, none⟩ (.int .i64 (d.sl + 1))).setCell ⟨p, 19, none⟩ (.int .i64 8)) p E { d with sl := d.sl + 1, st := 8 } ∧ Mut [p] w1 ((w1.setCell ⟨p, 17, none⟩ (.int .i64 (d.sl + 1))).setCell ⟨p, 19, none⟩ (.int .i64 8))) := ⟨HC, (H1.put (i := 17) rfl (.int .i64 (d.sl + 1)) (d' := { d with sl := d.sl + 1 }) rfl).put (i := 19) rfl (.int .i64 8) rfl, ((Mut.refl _ _).setCell (by simp) _).setCell (by simp) _⟩
  clear HC H1 HQ
  go_wp2
  go_step3
  refine HK.out 3 _ rfl _ _ ?_
  go_wp2_with fail
  go_step3
  rename_i aK
  simp only [Exit.then]
  refine aK _ _ ?_
  go_wp2_with fail
  generalize (w1.setCell ⟨p, 17, none⟩ (.int .i64 (d.sl + 1))).setCell ⟨p, 19, none⟩ (.int .i64 8) = W at *
  clear c19 c17 fz
  have c17 : W.cell? ⟨p, 17, none⟩ = some (.int .i64 (d.sl + 1)) := HF.out.2.1.b.at 17 rfl
  have c15 : W.cell? ⟨p, 15, none⟩ = some (.int .i64 d.ct) := HF.out.2.1.b.at 15 rfl
  have c19 : W.cell? ⟨p, 19, none⟩ = some (.int .i64 8) := HF.out.2.1.b.at 19 rfl
  have fz := HF.out.2.1.b.fz
  go_region
  go_wp2
  (try simp only [Exit.inBlock])
  (try simp only [Exit.then])
  (try simp only [hops_ret])
  refine bodyPost_ret (results_none rfl _ _ _) rfl ?_
  exact ⟨rfl, w1, HF.out.1, (HF.out.2.1.kept (Kept.refl _).drew).put (i := 19) rfl _ rfl, HF.out.2.2.drew.setCell (by simp) _⟩

set_option maxRecDepth 10000 in
set_option maxHeartbeats 4000000 in
/-- Behind a slot. -/
theorem hgo_slot_n (w : World) (hA : Calls Try.prog 52 #[.pointer (some ⟨p, 0, none⟩), .pointer (some ⟨M, 0, none⟩), .pointer (some ⟨sb, 0, none⟩), .pointer (some ⟨kb, 0, none⟩)] w fun e w1 => e = .returned (.bool true) ∧ HS w1 p E d ∧ C w1) (hs : d.st = 9) (hc : d.sl + 1 ≠ d.ct) (hl : 0 ≤ d.sl ∧ d.sl ≤ 3000) :
    Calls Try.prog 45 #[.pointer (some ⟨p, 0, none⟩), .pointer (some ⟨M, 0, none⟩), .pointer (some ⟨sb, 0, none⟩), .pointer (some ⟨kb, 0, none⟩)] w fun e w' => e = .returned (.tuple #[]) ∧ ∃ w1, C w1 ∧ HS w' p E { d with sl := d.sl + 1, st := 8 } ∧ Mut [p] w1 w' := by
  have HA : Hid (Calls Try.prog 52 #[.pointer (some ⟨p, 0, none⟩), .pointer (some ⟨M, 0, none⟩), .pointer (some ⟨sb, 0, none⟩), .pointer (some ⟨kb, 0, none⟩)] w fun e w1 => e = .returned (.bool true) ∧ HS w1 p E d ∧ C w1) := hA
  have HQ : Hid (∀ u, HS u p E d → u.cell? ⟨p, 19, none⟩ = some (.int .i64 9)) := fun u h => by rw [← hs]; exact h.b.at 19 rfl
  have HE : Hid (d.st = 9) := hs
  have hq : (d.sl + 1 == d.ct) = false := by simpa using hc
  have hq2 : decide (d.sl + 1 = d.ct) = false := by simpa using hc
  clear hA hs hc
  obtain ⟨l0, l1⟩ := hl
  go_enter Try.func45, Try.ntmps45
  refine wp_scope_hops fun K HK => ?_
  go_wp2_with fail
  refine HA.out.mono ?_
  rintro e w1 ⟨rfl, H1, HC⟩
  have c19 := HQ.out _ H1
  have c17 : w1.cell? ⟨p, 17, none⟩ = some (.int .i64 d.sl) := H1.b.at 17 rfl
  have fz := H1.b.fz
  have HF : Hid (C w1 ∧ HS ((w1.setCell ⟨p, 17, none⟩ (.int .i64 (d.sl + 1))).setCell ⟨p, 19, none⟩ (.int .i64 8)) p E { d with sl := d.sl + 1, st := 8 } ∧ Mut [p] w1 ((w1.setCell ⟨p, 17, none⟩ (.int .i64 (d.sl + 1))).setCell ⟨p, 19, none⟩ (.int .i64 8))) := ⟨HC, (H1.put (i := 17) rfl (.int .i64 (d.sl + 1)) (d' := { d with sl := d.sl + 1 }) rfl).put (i := 19) rfl (.int .i64 8) rfl, ((Mut.refl _ _).setCell (by simp) _).setCell (by simp) _⟩
  clear HC H1 HQ
  go_wp2
  go_step3
  refine HK.out 3 _ rfl _ _ ?_
  go_wp2_with fail
  go_step3
  rename_i aK
  simp only [Exit.then]
  refine aK _ _ ?_
  go_wp2_with fail
  generalize (w1.setCell ⟨p, 17, none⟩ (.int .i64 (d.sl + 1))).setCell ⟨p, 19, none⟩ (.int .i64 8) = W at *
  clear c19 c17 fz
  have c17 : W.cell? ⟨p, 17, none⟩ = some (.int .i64 (d.sl + 1)) := HF.out.2.1.b.at 17 rfl
  have c15 : W.cell? ⟨p, 15, none⟩ = some (.int .i64 d.ct) := HF.out.2.1.b.at 15 rfl
  have c19 : W.cell? ⟨p, 19, none⟩ = some (.int .i64 8) := HF.out.2.1.b.at 19 rfl
  have fz := HF.out.2.1.b.fz
  go_region
  go_wp2
  (try simp only [Exit.inBlock])
  (try simp only [Exit.then])
  (try simp only [hops_ret])
  refine bodyPost_ret (results_none rfl _ _ _) rfl ?_
  exact ⟨rfl, w1, HF.out.1, HF.out.2.1.kept (Kept.refl _).drew, HF.out.2.2.drew⟩

end
end Go.Proofs.Ytgnikgkpbibmgaa
