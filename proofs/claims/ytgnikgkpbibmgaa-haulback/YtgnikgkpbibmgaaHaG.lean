/-
  Contracts of package haul: how a step goes on behind a spine.
-/
import Derived.Test.YtgnikgkpbibmgaaHaF
namespace Go.Proofs.Ytgnikgkpbibmgaa
open Go.RowKit

section
variable {p M sb kb : Nat} {E : En} {d : Hd} {C : World → Prop}

set_option maxRecDepth 10000 in
set_option maxHeartbeats 4000000 in
/-- There is none. -/
theorem hgo_end (w : World) (hA : Calls Try.prog 52 #[.pointer (some ⟨p, 0, none⟩), .pointer (some ⟨M, 0, none⟩), .pointer (some ⟨sb, 0, none⟩), .pointer (some ⟨kb, 0, none⟩)] w fun e w1 => e = .returned (.bool true) ∧ HS w1 p E d ∧ C w1) (hs : d.st = 12) (hc : d.pa = d.en) :
    Calls Try.prog 45 #[.pointer (some ⟨p, 0, none⟩), .pointer (some ⟨M, 0, none⟩), .pointer (some ⟨sb, 0, none⟩), .pointer (some ⟨kb, 0, none⟩)] w fun e w' => e = .returned (.tuple #[]) ∧ ∃ w1, C w1 ∧ HS w' p E { d with st := 13 } ∧ Mut [p] w1 w' := by
  have HA : Hid (Calls Try.prog 52 #[.pointer (some ⟨p, 0, none⟩), .pointer (some ⟨M, 0, none⟩), .pointer (some ⟨sb, 0, none⟩), .pointer (some ⟨kb, 0, none⟩)] w fun e w1 => e = .returned (.bool true) ∧ HS w1 p E d ∧ C w1) := hA
  have HQ : Hid (∀ u, HS u p E d → u.cell? ⟨p, 19, none⟩ = some (.int .i64 12)) := fun u h => by rw [← hs]; exact h.b.at 19 rfl
  have HE : Hid (d.st = 12) := hs
  have hq : (d.pa == d.en) = true := by simpa using hc
  clear hA hs hc
  go_enter Try.func45, Try.ntmps45
  refine wp_scope_hops fun K HK => ?_
  go_wp2_with fail
  refine HA.out.mono ?_
  rintro e U ⟨rfl, H1, HC⟩
  have c19 := HQ.out _ H1
  have fz := H1.b.fz
  obtain ⟨w1, rfl⟩ : ∃ w1, w1 = U := ⟨_, rfl⟩
  have HF : Hid (C w1 ∧ HS (w1.setCell ⟨p, 19, none⟩ (.int .i64 1)) p E { d with st := 1 } ∧ Mut [p] w1 (w1.setCell ⟨p, 19, none⟩ (.int .i64 1))) := ⟨HC, H1.put (i := 19) rfl _ rfl, (Mut.refl _ _).setCell (by simp) _⟩
  clear HC H1 HQ
  go_wp2
  go_step3
  refine HK.out 6 _ rfl _ _ ?_
  go_wp2_with fail
  generalize w1.setCell ⟨p, 19, none⟩ (.int .i64 1) = W at *
  clear c19 fz
  have c12 : W.cell? ⟨p, 12, none⟩ = some (.int .i64 (d.pa)) := HF.out.2.1.b.at 12 rfl
  have c10 : W.cell? ⟨p, 10, none⟩ = some (.int .i64 d.en) := HF.out.2.1.b.at 10 rfl
  have c19 : W.cell? ⟨p, 19, none⟩ = some (.int .i64 1) := HF.out.2.1.b.at 19 rfl
  have fz := HF.out.2.1.b.fz
  go_region
  go_wp2
  (try simp only [Exit.inBlock])
  (try simp only [Exit.then])
  (try simp only [hops_ret])
  refine bodyPost_ret (results_none rfl _ _ _) rfl ?_
  exact ⟨rfl, w1, HF.out.1, (HF.out.2.1.kept (Kept.refl _).drew).put (i := 19) rfl _ rfl, HF.out.2.2.drew.setCell (by simp) _⟩

set_option maxRecDepth 10000 in
set_option maxHeartbeats 4000000 in
/-- Behind a spine. -/
theorem hgo_back_e (w : World) (hA : Calls Try.prog 52 #[.pointer (some ⟨p, 0, none⟩), .pointer (some ⟨M, 0, none⟩), .pointer (some ⟨sb, 0, none⟩), .pointer (some ⟨kb, 0, none⟩)] w fun e w1 => e = .returned (.bool true) ∧ HS w1 p E d ∧ C w1) (hs : d.st = 11) (hc : d.pa + (2 + d.ct) = d.en) (hp : 0 ≤ d.pa ∧ d.pa ≤ 3000) (ht : 0 ≤ d.ct ∧ d.ct ≤ 3000) :
    Calls Try.prog 45 #[.pointer (some ⟨p, 0, none⟩), .pointer (some ⟨M, 0, none⟩), .pointer (some ⟨sb, 0, none⟩), .pointer (some ⟨kb, 0, none⟩)] w fun e w' => e = .returned (.tuple #[]) ∧ ∃ w1, C w1 ∧ HS w' p E { d with pa := d.pa + (2 + d.ct), sl := 0, st := 13 } ∧ Mut [p] w1 w' := by
  have HA : Hid (Calls Try.prog 52 #[.pointer (some ⟨p, 0, none⟩), .pointer (some ⟨M, 0, none⟩), .pointer (some ⟨sb, 0, none⟩), .pointer (some ⟨kb, 0, none⟩)] w fun e w1 => e = .returned (.bool true) ∧ HS w1 p E d ∧ C w1) := hA
  have HQ : Hid (∀ u, HS u p E d → u.cell? ⟨p, 19, none⟩ = some (.int .i64 11)) := fun u h => by rw [← hs]; exact h.b.at 19 rfl
  have HE : Hid (d.st = 11) := hs
  have hq : (d.pa + (2 + d.ct) == d.en) = true := by simpa using hc
  have CW : Hid (∀ u, HS u p E d → Calls Try.prog 53 #[.pointer (some ⟨p, 0, none⟩)] u fun e w' => e = .returned (.int .i64 (2 + d.ct)) ∧ w' = u) := fun u h => hwords_is (d := d) u h ht
  clear hA hs hc
  obtain ⟨p0, p1⟩ := hp
  obtain ⟨t0, t1⟩ := ht
  go_enter Try.func45, Try.ntmps45
  refine wp_scope_hops fun K HK => ?_
  go_wp2_with fail
  refine HA.out.mono ?_
  rintro e w1 ⟨rfl, H1, HC⟩
  have c19 := HQ.out _ H1
  have fz := H1.b.fz
  obtain ⟨V, hV⟩ : ∃ V, V = w1 := ⟨_, rfl⟩
  have HV : Hid (C w1 ∧ HS V p E d ∧ Mut [p] w1 V) := ⟨HC, hV ▸ H1, hV ▸ Mut.refl _ _⟩
  clear HC H1 HQ
  go_wp2
  go_step3
  refine HK.out 5 _ rfl _ _ ?_
  rw [← hV]
  clear hV
  clear c19 fz
  have c12 : V.cell? ⟨p, 12, none⟩ = some (.int .i64 d.pa) := HV.out.2.1.b.at 12 rfl
  have fz := HV.out.2.1.b.fz
  go_wp2_with fail
  go_region_with (go_at_call 53; refine (CW.out _ (HV.out.2.1.kept (Kept.refl _).drew)).mono ?_; rintro e w2 ⟨rfl, rfl⟩)
  all_goals have c17 : V.cell? ⟨p, 17, none⟩ = some (.int .i64 d.sl) := HV.out.2.1.b.at 17 rfl
  all_goals have c19 : V.cell? ⟨p, 19, none⟩ = some (.int .i64 d.st) := HV.out.2.1.b.at 19 rfl
  all_goals have HF : Hid (C w1 ∧ HS (((V.setCell ⟨p, 12, none⟩ (.int .i64 (d.pa + (2 + d.ct)))).setCell ⟨p, 17, none⟩ (.int .i64 0)).setCell ⟨p, 19, none⟩ (.int .i64 1)).drew p E { d with pa := d.pa + (2 + d.ct), sl := 0, st := 1 } ∧ Mut [p] w1 (((V.setCell ⟨p, 12, none⟩ (.int .i64 (d.pa + (2 + d.ct)))).setCell ⟨p, 17, none⟩ (.int .i64 0)).setCell ⟨p, 19, none⟩ (.int .i64 1)).drew) := ⟨HV.out.1, (((HV.out.2.1.put (i := 12) rfl (.int .i64 (d.pa + (2 + d.ct))) (d' := { d with pa := d.pa + (2 + d.ct) }) rfl).put (i := 17) rfl (.int .i64 0) (d' := { d with pa := d.pa + (2 + d.ct), sl := 0 }) rfl).put (i := 19) rfl (.int .i64 1) rfl).kept (Kept.refl _).drew, (((HV.out.2.2.setCell (by simp) _).setCell (by simp) _).setCell (by simp) _).drew⟩
  all_goals go_wp2_with fail
  all_goals go_step3
  all_goals simp only [Exit.then]
  all_goals rename_i aK
  all_goals refine aK _ _ ?_
  all_goals go_wp2_with fail
  all_goals generalize (((V.setCell ⟨p, 12, none⟩ (.int .i64 (d.pa + (2 + d.ct)))).setCell ⟨p, 17, none⟩ (.int .i64 0)).setCell ⟨p, 19, none⟩ (.int .i64 1)).drew = W at *
  all_goals clear c12 c17 c19 fz
  all_goals have c12 : W.cell? ⟨p, 12, none⟩ = some (.int .i64 (d.pa + (2 + d.ct))) := HF.out.2.1.b.at 12 rfl
  all_goals have c10 : W.cell? ⟨p, 10, none⟩ = some (.int .i64 d.en) := HF.out.2.1.b.at 10 rfl
  all_goals have c19 : W.cell? ⟨p, 19, none⟩ = some (.int .i64 1) := HF.out.2.1.b.at 19 rfl
  all_goals have fz := HF.out.2.1.b.fz
  all_goals go_region
  all_goals go_wp2
  all_goals (try simp only [Exit.inBlock])
  all_goals (try simp only [Exit.then])
  all_goals (try simp only [hops_ret])
  all_goals refine bodyPost_ret (results_none rfl _ _ _) rfl ?_
  all_goals exact ⟨rfl, w1, HF.out.1, (HF.out.2.1.kept (Kept.refl _).drew).put (i := 19) rfl _ rfl, HF.out.2.2.drew.setCell (by simp) _⟩

set_option maxRecDepth 10000 in
set_option maxHeartbeats 4000000 in
/-- Behind a spine. -/
theorem hgo_back_n (w : World) (hA : Calls Try.prog 52 #[.pointer (some ⟨p, 0, none⟩), .pointer (some ⟨M, 0, none⟩), .pointer (some ⟨sb, 0, none⟩), .pointer (some ⟨kb, 0, none⟩)] w fun e w1 => e = .returned (.bool true) ∧ HS w1 p E d ∧ C w1) (hs : d.st = 11) (hc : d.pa + (2 + d.ct) ≠ d.en) (hp : 0 ≤ d.pa ∧ d.pa ≤ 3000) (ht : 0 ≤ d.ct ∧ d.ct ≤ 3000) :
    Calls Try.prog 45 #[.pointer (some ⟨p, 0, none⟩), .pointer (some ⟨M, 0, none⟩), .pointer (some ⟨sb, 0, none⟩), .pointer (some ⟨kb, 0, none⟩)] w fun e w' => e = .returned (.tuple #[]) ∧ ∃ w1, C w1 ∧ HS w' p E { d with pa := d.pa + (2 + d.ct), sl := 0, st := 1 } ∧ Mut [p] w1 w' := by
  have HA : Hid (Calls Try.prog 52 #[.pointer (some ⟨p, 0, none⟩), .pointer (some ⟨M, 0, none⟩), .pointer (some ⟨sb, 0, none⟩), .pointer (some ⟨kb, 0, none⟩)] w fun e w1 => e = .returned (.bool true) ∧ HS w1 p E d ∧ C w1) := hA
  have HQ : Hid (∀ u, HS u p E d → u.cell? ⟨p, 19, none⟩ = some (.int .i64 11)) := fun u h => by rw [← hs]; exact h.b.at 19 rfl
  have HE : Hid (d.st = 11) := hs
  have hq : (d.pa + (2 + d.ct) == d.en) = false := by simpa using hc
  have CW : Hid (∀ u, HS u p E d → Calls Try.prog 53 #[.pointer (some ⟨p, 0, none⟩)] u fun e w' => e = .returned (.int .i64 (2 + d.ct)) ∧ w' = u) := fun u h => hwords_is (d := d) u h ht
  clear hA hs hc
  obtain ⟨p0, p1⟩ := hp
  obtain ⟨t0, t1⟩ := ht
  go_enter Try.func45, Try.ntmps45
  refine wp_scope_hops fun K HK => ?_
  go_wp2_with fail
  refine HA.out.mono ?_
  rintro e w1 ⟨rfl, H1, HC⟩
  have c19 := HQ.out _ H1
  have fz := H1.b.fz
  obtain ⟨V, hV⟩ : ∃ V, V = w1 := ⟨_, rfl⟩
  have HV : Hid (C w1 ∧ HS V p E d ∧ Mut [p] w1 V) := ⟨HC, hV ▸ H1, hV ▸ Mut.refl _ _⟩
  clear HC H1 HQ
  go_wp2
  go_step3
  refine HK.out 5 _ rfl _ _ ?_
  rw [← hV]
  clear hV
  clear c19 fz
  have c12 : V.cell? ⟨p, 12, none⟩ = some (.int .i64 d.pa) := HV.out.2.1.b.at 12 rfl
  have fz := HV.out.2.1.b.fz
  go_wp2_with fail
  go_region_with (go_at_call 53; refine (CW.out _ (HV.out.2.1.kept (Kept.refl _).drew)).mono ?_; rintro e w2 ⟨rfl, rfl⟩)
  all_goals have c17 : V.cell? ⟨p, 17, none⟩ = some (.int .i64 d.sl) := HV.out.2.1.b.at 17 rfl
  all_goals have c19 : V.cell? ⟨p, 19, none⟩ = some (.int .i64 d.st) := HV.out.2.1.b.at 19 rfl
  all_goals have HF : Hid (C w1 ∧ HS (((V.setCell ⟨p, 12, none⟩ (.int .i64 (d.pa + (2 + d.ct)))).setCell ⟨p, 17, none⟩ (.int .i64 0)).setCell ⟨p, 19, none⟩ (.int .i64 1)).drew p E { d with pa := d.pa + (2 + d.ct), sl := 0, st := 1 } ∧ Mut [p] w1 (((V.setCell ⟨p, 12, none⟩ (.int .i64 (d.pa + (2 + d.ct)))).setCell ⟨p, 17, none⟩ (.int .i64 0)).setCell ⟨p, 19, none⟩ (.int .i64 1)).drew) := ⟨HV.out.1, (((HV.out.2.1.put (i := 12) rfl (.int .i64 (d.pa + (2 + d.ct))) (d' := { d with pa := d.pa + (2 + d.ct) }) rfl).put (i := 17) rfl (.int .i64 0) (d' := { d with pa := d.pa + (2 + d.ct), sl := 0 }) rfl).put (i := 19) rfl (.int .i64 1) rfl).kept (Kept.refl _).drew, (((HV.out.2.2.setCell (by simp) _).setCell (by simp) _).setCell (by simp) _).drew⟩
  all_goals go_wp2_with fail
  all_goals go_step3
  all_goals simp only [Exit.then]
  all_goals rename_i aK
  all_goals refine aK _ _ ?_
  all_goals go_wp2_with fail
  all_goals generalize (((V.setCell ⟨p, 12, none⟩ (.int .i64 (d.pa + (2 + d.ct)))).setCell ⟨p, 17, none⟩ (.int .i64 0)).setCell ⟨p, 19, none⟩ (.int .i64 1)).drew = W at *
  all_goals clear c12 c17 c19 fz
  all_goals have c12 : W.cell? ⟨p, 12, none⟩ = some (.int .i64 (d.pa + (2 + d.ct))) := HF.out.2.1.b.at 12 rfl
  all_goals have c10 : W.cell? ⟨p, 10, none⟩ = some (.int .i64 d.en) := HF.out.2.1.b.at 10 rfl
  all_goals have c19 : W.cell? ⟨p, 19, none⟩ = some (.int .i64 1) := HF.out.2.1.b.at 19 rfl
  all_goals have fz := HF.out.2.1.b.fz
  all_goals go_region
  all_goals go_wp2
  all_goals (try simp only [Exit.inBlock])
  all_goals (try simp only [Exit.then])
  all_goals (try simp only [hops_ret])
  all_goals refine bodyPost_ret (results_none rfl _ _ _) rfl ?_
  all_goals exact ⟨rfl, w1, HF.out.1, HF.out.2.1.kept (Kept.refl _).drew, HF.out.2.2.drew⟩

set_option maxRecDepth 10000 in
set_option maxHeartbeats 4000000 in
/-- Behind a spine that was copied. -/
theorem hgo_moved_e (w : World) (hA : Calls Try.prog 52 #[.pointer (some ⟨p, 0, none⟩), .pointer (some ⟨M, 0, none⟩), .pointer (some ⟨sb, 0, none⟩), .pointer (some ⟨kb, 0, none⟩)] w fun e w1 => e = .returned (.bool true) ∧ HS w1 p E d ∧ C w1) (hs : d.st = 10) (hc : d.pa + (2 + d.ct) = d.en) (hp : 0 ≤ d.pa ∧ d.pa ≤ 3000) (ht : 0 ≤ d.ct ∧ d.ct ≤ 3000) (hm : 0 ≤ d.mo ∧ d.mo ≤ 3000) :
    Calls Try.prog 45 #[.pointer (some ⟨p, 0, none⟩), .pointer (some ⟨M, 0, none⟩), .pointer (some ⟨sb, 0, none⟩), .pointer (some ⟨kb, 0, none⟩)] w fun e w' => e = .returned (.tuple #[]) ∧ ∃ w1, C w1 ∧ HS w' p E { d with mo := d.mo + 1, pa := d.pa + (2 + d.ct), sl := 0, st := 13 } ∧ Mut [p] w1 w' := by
  have HA : Hid (Calls Try.prog 52 #[.pointer (some ⟨p, 0, none⟩), .pointer (some ⟨M, 0, none⟩), .pointer (some ⟨sb, 0, none⟩), .pointer (some ⟨kb, 0, none⟩)] w fun e w1 => e = .returned (.bool true) ∧ HS w1 p E d ∧ C w1) := hA
  have HQ : Hid (∀ u, HS u p E d → u.cell? ⟨p, 19, none⟩ = some (.int .i64 10)) := fun u h => by rw [← hs]; exact h.b.at 19 rfl
  have HE : Hid (d.st = 10) := hs
  have hq : (d.pa + (2 + d.ct) == d.en) = true := by simpa using hc
  have CW : Hid (∀ u, HS u p E { d with mo := d.mo + 1 } → Calls Try.prog 53 #[.pointer (some ⟨p, 0, none⟩)] u fun e w' => e = .returned (.int .i64 (2 + d.ct)) ∧ w' = u) := fun u h => hwords_is (d := { d with mo := d.mo + 1 }) u h ht
  clear hA hs hc
  obtain ⟨p0, p1⟩ := hp
  obtain ⟨t0, t1⟩ := ht
  obtain ⟨m0, m1⟩ := hm
  go_enter Try.func45, Try.ntmps45
  refine wp_scope_hops fun K HK => ?_
  go_wp2_with fail
  refine HA.out.mono ?_
  rintro e w1 ⟨rfl, H1, HC⟩
  have c19 := HQ.out _ H1
  have c21 : w1.cell? ⟨p, 21, none⟩ = some (.int .i64 d.mo) := H1.b.at 21 rfl
  have fz := H1.b.fz
  have HV : Hid (C w1 ∧ HS (w1.setCell ⟨p, 21, none⟩ (.int .i64 (d.mo + 1))) p E { d with mo := d.mo + 1 } ∧ Mut [p] w1 (w1.setCell ⟨p, 21, none⟩ (.int .i64 (d.mo + 1)))) := ⟨HC, H1.put (i := 21) rfl _ rfl, (Mut.refl _ _).setCell (by simp) _⟩
  clear HC H1 HQ
  go_wp2
  go_step3
  refine HK.out 4 _ rfl _ _ ?_
  go_wp2_with fail
  go_step3
  rename_i aK
  simp only [Exit.then]
  refine aK _ _ ?_
  go_wp2_with fail
  generalize w1.setCell ⟨p, 21, none⟩ (.int .i64 (d.mo + 1)) = V at *
  clear c19 c21 fz
  have c12 : V.cell? ⟨p, 12, none⟩ = some (.int .i64 d.pa) := HV.out.2.1.b.at 12 rfl
  have fz := HV.out.2.1.b.fz
  go_wp2_with fail
  go_region_with (go_at_call 53; refine (CW.out _ (HV.out.2.1.kept (Kept.refl _).drew)).mono ?_; rintro e w2 ⟨rfl, rfl⟩)
  all_goals have c17 : V.cell? ⟨p, 17, none⟩ = some (.int .i64 d.sl) := HV.out.2.1.b.at 17 rfl
  all_goals have c19 : V.cell? ⟨p, 19, none⟩ = some (.int .i64 d.st) := HV.out.2.1.b.at 19 rfl
  all_goals have HF : Hid (C w1 ∧ HS (((V.setCell ⟨p, 12, none⟩ (.int .i64 (d.pa + (2 + d.ct)))).setCell ⟨p, 17, none⟩ (.int .i64 0)).setCell ⟨p, 19, none⟩ (.int .i64 1)).drew p E { d with mo := d.mo + 1, pa := d.pa + (2 + d.ct), sl := 0, st := 1 } ∧ Mut [p] w1 (((V.setCell ⟨p, 12, none⟩ (.int .i64 (d.pa + (2 + d.ct)))).setCell ⟨p, 17, none⟩ (.int .i64 0)).setCell ⟨p, 19, none⟩ (.int .i64 1)).drew) := ⟨HV.out.1, (((HV.out.2.1.put (i := 12) rfl (.int .i64 (d.pa + (2 + d.ct))) (d' := { d with mo := d.mo + 1, pa := d.pa + (2 + d.ct) }) rfl).put (i := 17) rfl (.int .i64 0) (d' := { d with mo := d.mo + 1, pa := d.pa + (2 + d.ct), sl := 0 }) rfl).put (i := 19) rfl (.int .i64 1) rfl).kept (Kept.refl _).drew, (((HV.out.2.2.setCell (by simp) _).setCell (by simp) _).setCell (by simp) _).drew⟩
  all_goals go_wp2_with fail
  all_goals go_step3
  all_goals simp only [Exit.then]
  all_goals rename_i aK
  all_goals refine aK _ _ ?_
  all_goals go_wp2_with fail
  all_goals generalize (((V.setCell ⟨p, 12, none⟩ (.int .i64 (d.pa + (2 + d.ct)))).setCell ⟨p, 17, none⟩ (.int .i64 0)).setCell ⟨p, 19, none⟩ (.int .i64 1)).drew = W at *
  all_goals clear c12 c17 c19 fz
  all_goals have c12 : W.cell? ⟨p, 12, none⟩ = some (.int .i64 (d.pa + (2 + d.ct))) := HF.out.2.1.b.at 12 rfl
  all_goals have c10 : W.cell? ⟨p, 10, none⟩ = some (.int .i64 d.en) := HF.out.2.1.b.at 10 rfl
  all_goals have c19 : W.cell? ⟨p, 19, none⟩ = some (.int .i64 1) := HF.out.2.1.b.at 19 rfl
  all_goals have fz := HF.out.2.1.b.fz
  all_goals go_region
  all_goals go_wp2
  all_goals (try simp only [Exit.inBlock])
  all_goals (try simp only [Exit.then])
  all_goals (try simp only [hops_ret])
  all_goals refine bodyPost_ret (results_none rfl _ _ _) rfl ?_
  all_goals exact ⟨rfl, w1, HF.out.1, (HF.out.2.1.kept (Kept.refl _).drew).put (i := 19) rfl _ rfl, HF.out.2.2.drew.setCell (by simp) _⟩

set_option maxRecDepth 10000 in
set_option maxHeartbeats 4000000 in
/-- Behind a spine that was copied. -/
theorem hgo_moved_n (w : World) (hA : Calls Try.prog 52 #[.pointer (some ⟨p, 0, none⟩), .pointer (some ⟨M, 0, none⟩), .pointer (some ⟨sb, 0, none⟩), .pointer (some ⟨kb, 0, none⟩)] w fun e w1 => e = .returned (.bool true) ∧ HS w1 p E d ∧ C w1) (hs : d.st = 10) (hc : d.pa + (2 + d.ct) ≠ d.en) (hp : 0 ≤ d.pa ∧ d.pa ≤ 3000) (ht : 0 ≤ d.ct ∧ d.ct ≤ 3000) (hm : 0 ≤ d.mo ∧ d.mo ≤ 3000) :
    Calls Try.prog 45 #[.pointer (some ⟨p, 0, none⟩), .pointer (some ⟨M, 0, none⟩), .pointer (some ⟨sb, 0, none⟩), .pointer (some ⟨kb, 0, none⟩)] w fun e w' => e = .returned (.tuple #[]) ∧ ∃ w1, C w1 ∧ HS w' p E { d with mo := d.mo + 1, pa := d.pa + (2 + d.ct), sl := 0, st := 1 } ∧ Mut [p] w1 w' := by
  have HA : Hid (Calls Try.prog 52 #[.pointer (some ⟨p, 0, none⟩), .pointer (some ⟨M, 0, none⟩), .pointer (some ⟨sb, 0, none⟩), .pointer (some ⟨kb, 0, none⟩)] w fun e w1 => e = .returned (.bool true) ∧ HS w1 p E d ∧ C w1) := hA
  have HQ : Hid (∀ u, HS u p E d → u.cell? ⟨p, 19, none⟩ = some (.int .i64 10)) := fun u h => by rw [← hs]; exact h.b.at 19 rfl
  have HE : Hid (d.st = 10) := hs
  have hq : (d.pa + (2 + d.ct) == d.en) = false := by simpa using hc
  have CW : Hid (∀ u, HS u p E { d with mo := d.mo + 1 } → Calls Try.prog 53 #[.pointer (some ⟨p, 0, none⟩)] u fun e w' => e = .returned (.int .i64 (2 + d.ct)) ∧ w' = u) := fun u h => hwords_is (d := { d with mo := d.mo + 1 }) u h ht
  clear hA hs hc
  obtain ⟨p0, p1⟩ := hp
  obtain ⟨t0, t1⟩ := ht
  obtain ⟨m0, m1⟩ := hm
  go_enter Try.func45, Try.ntmps45
  refine wp_scope_hops fun K HK => ?_
  go_wp2_with fail
  refine HA.out.mono ?_
  rintro e w1 ⟨rfl, H1, HC⟩
  have c19 := HQ.out _ H1
  have c21 : w1.cell? ⟨p, 21, none⟩ = some (.int .i64 d.mo) := H1.b.at 21 rfl
  have fz := H1.b.fz
  have HV : Hid (C w1 ∧ HS (w1.setCell ⟨p, 21, none⟩ (.int .i64 (d.mo + 1))) p E { d with mo := d.mo + 1 } ∧ Mut [p] w1 (w1.setCell ⟨p, 21, none⟩ (.int .i64 (d.mo + 1)))) := ⟨HC, H1.put (i := 21) rfl _ rfl, (Mut.refl _ _).setCell (by simp) _⟩
  clear HC H1 HQ
  go_wp2
  go_step3
  refine HK.out 4 _ rfl _ _ ?_
  go_wp2_with fail
  go_step3
  rename_i aK
  simp only [Exit.then]
  refine aK _ _ ?_
  go_wp2_with fail
  generalize w1.setCell ⟨p, 21, none⟩ (.int .i64 (d.mo + 1)) = V at *
  clear c19 c21 fz
  have c12 : V.cell? ⟨p, 12, none⟩ = some (.int .i64 d.pa) := HV.out.2.1.b.at 12 rfl
  have fz := HV.out.2.1.b.fz
  go_wp2_with fail
  go_region_with (go_at_call 53; refine (CW.out _ (HV.out.2.1.kept (Kept.refl _).drew)).mono ?_; rintro e w2 ⟨rfl, rfl⟩)
  all_goals have c17 : V.cell? ⟨p, 17, none⟩ = some (.int .i64 d.sl) := HV.out.2.1.b.at 17 rfl
  all_goals have c19 : V.cell? ⟨p, 19, none⟩ = some (.int .i64 d.st) := HV.out.2.1.b.at 19 rfl
  all_goals have HF : Hid (C w1 ∧ HS (((V.setCell ⟨p, 12, none⟩ (.int .i64 (d.pa + (2 + d.ct)))).setCell ⟨p, 17, none⟩ (.int .i64 0)).setCell ⟨p, 19, none⟩ (.int .i64 1)).drew p E { d with mo := d.mo + 1, pa := d.pa + (2 + d.ct), sl := 0, st := 1 } ∧ Mut [p] w1 (((V.setCell ⟨p, 12, none⟩ (.int .i64 (d.pa + (2 + d.ct)))).setCell ⟨p, 17, none⟩ (.int .i64 0)).setCell ⟨p, 19, none⟩ (.int .i64 1)).drew) := ⟨HV.out.1, (((HV.out.2.1.put (i := 12) rfl (.int .i64 (d.pa + (2 + d.ct))) (d' := { d with mo := d.mo + 1, pa := d.pa + (2 + d.ct) }) rfl).put (i := 17) rfl (.int .i64 0) (d' := { d with mo := d.mo + 1, pa := d.pa + (2 + d.ct), sl := 0 }) rfl).put (i := 19) rfl (.int .i64 1) rfl).kept (Kept.refl _).drew, (((HV.out.2.2.setCell (by simp) _).setCell (by simp) _).setCell (by simp) _).drew⟩
  all_goals go_wp2_with fail
  all_goals go_step3
  all_goals simp only [Exit.then]
  all_goals rename_i aK
  all_goals refine aK _ _ ?_
  all_goals go_wp2_with fail
  all_goals generalize (((V.setCell ⟨p, 12, none⟩ (.int .i64 (d.pa + (2 + d.ct)))).setCell ⟨p, 17, none⟩ (.int .i64 0)).setCell ⟨p, 19, none⟩ (.int .i64 1)).drew = W at *
  all_goals clear c12 c17 c19 fz
  all_goals have c12 : W.cell? ⟨p, 12, none⟩ = some (.int .i64 (d.pa + (2 + d.ct))) := HF.out.2.1.b.at 12 rfl
  all_goals have c10 : W.cell? ⟨p, 10, none⟩ = some (.int .i64 d.en) := HF.out.2.1.b.at 10 rfl
  all_goals have c19 : W.cell? ⟨p, 19, none⟩ = some (.int .i64 1) := HF.out.2.1.b.at 19 rfl
  all_goals have fz := HF.out.2.1.b.fz
  all_goals go_region
  all_goals go_wp2
  all_goals (try simp only [Exit.inBlock])
  all_goals (try simp only [Exit.then])
  all_goals (try simp only [hops_ret])
  all_goals refine bodyPost_ret (results_none rfl _ _ _) rfl ?_
  all_goals exact ⟨rfl, w1, HF.out.1, HF.out.2.1.kept (Kept.refl _).drew, HF.out.2.2.drew⟩

end
end Go.Proofs.Ytgnikgkpbibmgaa
