/-
  The modules RspD, one behind another.
-/
import Derived.Test.YtahpnnjemjjfhaaGreatM25
/-
  Contracts of the document's space: Born, Turn, Done, Force, Begin, End, Sweep, Waits; package space's Born, Turn, Done, Force.
-/
namespace Go.Proofs.YtahpnnjemjjfhaaGreat
open Go.RowKit

def Sp.born (S : Sp) (i : Int) : Sp := { S.tick with T := bornT S.n S.T i }
def Sp.turn (S : Sp) : Sp := { S.tick with K := turnS S.K }
def Sp.doneC (S : Sp) : Sp := { S.tick with K := doneS S.K }
def Sp.force (S : Sp) : Sp := { S.tick with fo := true }
theorem turnS_s (K : CS) : (turnS K).s = K.s := by unfold turnS; split <;> rfl
theorem doneS_s (K : CS) : (doneS K).s = K.s := by unfold doneS; split <;> (try split) <;> rfl
theorem skipS_s (K : CS) (n : Int) : (skipS K n).s = K.s := by unfold skipS; split <;> rfl
theorem copyS_s (K : CS) (n : Int) : (copyS K n).s = K.s := by unfold copyS putU; split <;> (try split) <;> rfl

theorem nrel_begin {E : List Ent} {N : List Int} (h : Nrel E N) (hf : E.length ≤ 100000) : Nrel (E.map noteE) ((wts E).map Ent.th) := by
  refine ⟨fun e he hs => ?_, fun x hx => ?_, ?_, ?_⟩
  · obtain ⟨e', h1, rfl⟩ := List.mem_map.1 he
    have hs' : e'.st = 0 := hs
    have h2 : (noteE e').nt = true := by simp [noteE, hs']
    refine ⟨fun _ => List.mem_map.2 ⟨e', ?_, rfl⟩, fun _ => h2⟩
    unfold wts
    rw [List.mem_filter]
    exact ⟨h1, by simpa using hs'⟩
  · obtain ⟨e', h1, rfl⟩ := List.mem_map.1 hx
    unfold wts at h1
    rw [List.mem_filter] at h1
    exact ⟨noteE e', List.mem_map_of_mem h1.1, rfl⟩
  · rw [List.map_map]
    exact h.nd
  · rw [List.length_map]
    exact Nat.le_trans (wts_le E) hf
theorem nrel_end {E : List Ent} {N : List Int} (h : Nrel E N) : Nrel (E.map endE) [] := by
  refine ⟨fun e he hs => ?_, fun x hx => (by cases hx), ?_, by simp⟩
  · obtain ⟨e', h1, rfl⟩ := List.mem_map.1 he
    simp [endE]
  · rw [List.map_map]
    exact h.nd
theorem nr_end {E E' : List Ent} {N : List Int} (h : E.map Ent.nr = E'.map Ent.nr) (r : Nrel E' N) : (E.map (endR N)).map Ent.nr = (E'.map endE).map Ent.nr := by
  have F : ∀ E : List Ent, (E.map (endR N)).map Ent.nr = (E.map Ent.nr).map (endR N) := fun E => by
    rw [List.map_map, List.map_map]; rfl
  rw [F, h, ← F, List.map_map, List.map_map]
  refine List.map_congr_left fun e he => ?_
  have h1 := r.nt e he
  show (endR N e).nr = (endE e).nr
  by_cases hs : e.st = 0
  · have h2 := h1 hs
    by_cases hn : e.th ∈ N
    · simp [endR, endE, Ent.nr, hs, hn, h2.2 hn]
    · have h3 : e.nt = false := by
        cases q : e.nt
        · rfl
        · exact absurd (h2.1 q) hn
      simp [endR, endE, Ent.nr, hn, h3]
  · simp [endR, endE, Ent.nr, hs]

section
variable {c : Nat → Nat} {w w' W : World} {A : Ad} {S : Sp}
set_option maxHeartbeats 1000000 in
theorem wborn_any (i : Int) (w : World) (h : SH w c A S) {kb : Nat} (hk : S.Bd kb) (hkb : kb ≤ 50000) :
    Calls Tryz.prog 45 #[.pointer (some ⟨A.b, 0, none⟩), .int .i64 i] w fun e w' => e = .returned (.bool (bornB S.n S.T i)) ∧ SH w' c A (S.born i) ∧ Stp c w c w' := by
  have HS : Hid (SH w c A S) := h
  have hct : 0 ≤ S.ct ∧ S.ct ≤ 50000 := ⟨hk.c0, by have := hk.c1; omega⟩
  have c15 := h.head.blk.at 15 rfl
  have f15 := h.head.blk.fz 15
  have HW : Hid (∀ W, w.setCell ⟨A.b, 15, none⟩ (.int .i64 (S.ct + 1)) = W → SH W c A S.tick ∧ Stp c w c W) := fun W hW => by
    rw [← hW]
    exact ⟨h.ticks, h.stph ((Mut.refl _ _).setCell (by simp) _)⟩
  obtain ⟨h0, h1⟩ := hct
  have cpw := h.head.blk.at 0 rfl
  clear h hk hkb
  go_enter Tryz.func45, Tryz.ntmps45
  go_wp2_with fail
  generalize hW : World.setCell _ _ _ = W
  have HB : Hid (SH W c A S.tick ∧ Stp c w c W) := HW.out W hW
  clear hW HW c15 f15 cpw
  refine (tborn_any i W HB.out.1.tab).mono ?_
  rintro e w2 ⟨rfl, t2, m2⟩
  have H2 : Hid (SH w2 c A (S.born i) ∧ Stp c w c w2) := ⟨HB.out.1.tabs t2 m2, HB.out.2.trans (HB.out.1.stpt m2)⟩
  clear t2 m2
  go_wp2
  go_ret
  exact ⟨rfl, H2.out⟩
set_option maxHeartbeats 1000000 in
theorem wturn_any (w : World) (h : SH w c A S) {kb : Nat} (hk : S.Bd kb) (hkb : kb ≤ 50000) :
    Calls Tryz.prog 57 #[.pointer (some ⟨A.b, 0, none⟩)] w fun e w' => e = .returned (.bool (turns S.K)) ∧ SH w' c A S.turn ∧ Stp c w c w' := by
  have HS : Hid (SH w c A S) := h
  have hct : 0 ≤ S.ct ∧ S.ct ≤ 50000 := ⟨hk.c0, by have := hk.c1; omega⟩
  have c15 := h.head.blk.at 15 rfl
  have f15 := h.head.blk.fz 15
  have HW : Hid (∀ W, w.setCell ⟨A.b, 15, none⟩ (.int .i64 (S.ct + 1)) = W → SH W c A S.tick ∧ Stp c w c W) := fun W hW => by
    rw [← hW]
    exact ⟨h.ticks, h.stph ((Mut.refl _ _).setCell (by simp) _)⟩
  obtain ⟨h0, h1⟩ := hct
  have cpw := h.head.blk.at 3 rfl
  clear h hk hkb
  go_enter Tryz.func57, Tryz.ntmps57
  go_wp2_with fail
  generalize hW : World.setCell _ _ _ = W
  have HB : Hid (SH W c A S.tick ∧ Stp c w c W) := HW.out W hW
  clear hW HW c15 f15 cpw
  refine (kturn_any W HB.out.1.coil).mono ?_
  rintro e w2 ⟨rfl, t2, m2⟩
  have H2 : Hid (SH w2 c A S.turn ∧ Stp c w c w2) := ⟨HB.out.1.coils t2 (turnS_s _) m2, HB.out.2.trans (HB.out.1.stpk m2)⟩
  clear t2 m2
  go_wp2
  go_ret
  exact ⟨rfl, H2.out⟩
set_option maxHeartbeats 1000000 in
theorem wdone_any (w : World) (h : SH w c A S) {kb : Nat} (hk : S.Bd kb) (hkb : kb ≤ 50000) :
    Calls Tryz.prog 59 #[.pointer (some ⟨A.b, 0, none⟩)] w fun e w' => e = .returned (.bool (dones S.K)) ∧ SH w' c A S.doneC ∧ Stp c w c w' := by
  have HS : Hid (SH w c A S) := h
  have hct : 0 ≤ S.ct ∧ S.ct ≤ 50000 := ⟨hk.c0, by have := hk.c1; omega⟩
  have c15 := h.head.blk.at 15 rfl
  have f15 := h.head.blk.fz 15
  have HW : Hid (∀ W, w.setCell ⟨A.b, 15, none⟩ (.int .i64 (S.ct + 1)) = W → SH W c A S.tick ∧ Stp c w c W) := fun W hW => by
    rw [← hW]
    exact ⟨h.ticks, h.stph ((Mut.refl _ _).setCell (by simp) _)⟩
  obtain ⟨h0, h1⟩ := hct
  have cpw := h.head.blk.at 3 rfl
  clear h hk hkb
  go_enter Tryz.func59, Tryz.ntmps59
  go_wp2_with fail
  generalize hW : World.setCell _ _ _ = W
  have HB : Hid (SH W c A S.tick ∧ Stp c w c W) := HW.out W hW
  clear hW HW c15 f15 cpw
  refine (kdone_any W HB.out.1.coil).mono ?_
  rintro e w2 ⟨rfl, t2, m2⟩
  have H2 : Hid (SH w2 c A S.doneC ∧ Stp c w c w2) := ⟨HB.out.1.coils t2 (doneS_s _) m2, HB.out.2.trans (HB.out.1.stpk m2)⟩
  clear t2 m2
  go_wp2
  go_ret
  exact ⟨rfl, H2.out⟩
set_option maxHeartbeats 1000000 in
theorem wforce_any (w : World) (h : SH w c A S) {kb : Nat} (hk : S.Bd kb) (hkb : kb ≤ 50000) :
    Calls Tryz.prog 53 #[.pointer (some ⟨A.b, 0, none⟩)] w fun e w' => e = .returned (.tuple #[]) ∧ SH w' c A S.force ∧ Stp c w c w' := by
  have hct : 0 ≤ S.ct ∧ S.ct ≤ 50000 := ⟨hk.c0, by have := hk.c1; omega⟩
  have c15 := h.head.blk.at 15 rfl
  have c14 := h.head.blk.at 14 rfl
  have f15 := h.head.blk.fz
  have HW : Hid (SH ((w.setCell ⟨A.b, 15, none⟩ (.int .i64 (S.ct + 1))).setCell ⟨A.b, 14, none⟩ (.bool true)) c A S.force ∧ Stp c w c ((w.setCell ⟨A.b, 15, none⟩ (.int .i64 (S.ct + 1))).setCell ⟨A.b, 14, none⟩ (.bool true))) := by
    have o := (h.head.set 15 (.int .i64 (S.ct + 1))).set 14 (.bool true)
    have m : Mut [A.b] w ((w.setCell ⟨A.b, 15, none⟩ (.int .i64 (S.ct + 1))).setCell ⟨A.b, 14, none⟩ (.bool true)) := ((Mut.refl _ _).setCell (by simp) _).setCell (by simp) _
    exact ⟨h.heads o m, h.stph m⟩
  obtain ⟨h0, h1⟩ := hct
  clear h hk hkb
  go_enter Tryz.func53, Tryz.ntmps53
  go_wp2
  go_end0
  exact ⟨rfl, HW.out⟩
end

section
variable {B : Nat} {c c' : Nat → Nat} {w w' W : World} {A : Ar} {S : Sp}
set_option maxHeartbeats 1000000 in
theorem rborn_any (i : Int) (w : World) (h : RSH B w c A S) {kb : Nat} (hk : S.Bd kb) (hkb : kb ≤ 50000) :
    Calls Tryz.prog 46 #[.pointer (some ⟨A.b, 0, none⟩), .int .i64 i] w fun e w' => e = .returned (.bool (bornB S.n S.T i)) ∧ RSH B w' c A (S.born i) ∧ Stp c w c w' := by
  have HS : Hid (RSH B w c A S) := h
  have HK : Hid (S.Bd kb ∧ kb ≤ 50000) := ⟨hk, hkb⟩
  have hct : 0 ≤ S.ct ∧ S.ct ≤ 50000 := ⟨hk.c0, by have := hk.c1; omega⟩
  have c16 := h.cell (i := 16) (u := .int .i64 S.ct) fun _ _ => rfl
  have f16 := h.fz 16
  have HW : Hid (∀ W, w.setCell ⟨A.b, 16, none⟩ (.int .i64 (S.ct + 1)) = W → RSH B W c A S.tick ∧ Stp c w c W) := fun W hW => by
    rw [← hW]
    exact h.ticks
  obtain ⟨h0, h1⟩ := hct
  have c9w := h.cell (i := 9) (u := .pointer (some ⟨A.tb, 0, none⟩)) fun _ _ => rfl
  clear h hk hkb
  go_enter Tryz.func46, Tryz.ntmps46
  go_wp2_with fail
  generalize hW : World.setCell _ _ _ = W
  have HB : Hid (RSH B W c A S.tick ∧ Stp c w c W) := HW.out W hW
  clear hW HW c16 f16 c9w
  obtain ⟨T', t1, t2⟩ := HB.out.1.tab
  have eb : bornB S.tick.n T' i = bornB S.n S.T i := t2.bornB i
  have C := trborn_any i W t1
  rw [eb] at C
  refine C.mono ?_
  rintro e w2 ⟨rfl, t3, m3⟩
  have r := HB.out.1.tabs t3 (t2.born i) m3
  have H2 : Hid (RSH B w2 c A (S.born i) ∧ Stp c w c w2) := ⟨r.1, HB.out.2.trans r.2⟩
  clear t1 t2 t3 m3 r C eb
  go_wp2
  go_ret
  exact ⟨rfl, H2.out⟩
set_option maxHeartbeats 1000000 in
theorem rturn_any (w : World) (h : RSH B w c A S) {kb : Nat} (hk : S.Bd kb) (hkb : kb ≤ 50000) :
    Calls Tryz.prog 58 #[.pointer (some ⟨A.b, 0, none⟩)] w fun e w' => e = .returned (.bool (turns S.K)) ∧ RSH B w' c A S.turn ∧ Stp c w c w' := by
  have HS : Hid (RSH B w c A S) := h
  have HK : Hid (S.Bd kb ∧ kb ≤ 50000) := ⟨hk, hkb⟩
  have hct : 0 ≤ S.ct ∧ S.ct ≤ 50000 := ⟨hk.c0, by have := hk.c1; omega⟩
  have c16 := h.cell (i := 16) (u := .int .i64 S.ct) fun _ _ => rfl
  have f16 := h.fz 16
  have HW : Hid (∀ W, w.setCell ⟨A.b, 16, none⟩ (.int .i64 (S.ct + 1)) = W → RSH B W c A S.tick ∧ Stp c w c W) := fun W hW => by
    rw [← hW]
    exact h.ticks
  obtain ⟨h0, h1⟩ := hct
  have c14w := h.cell (i := 14) (u := .pointer (some ⟨A.kb, 0, none⟩)) fun _ _ => rfl
  clear h hk hkb
  go_enter Tryz.func58, Tryz.ntmps58
  go_wp2_with fail
  generalize hW : World.setCell _ _ _ = W
  have HB : Hid (RSH B W c A S.tick ∧ Stp c w c W) := HW.out W hW
  clear hW HW c16 f16 c14w
  refine (krturn_any W HB.out.1.coil).mono ?_
  rintro e w2 ⟨rfl, t2, m2⟩
  have r := HB.out.1.coils t2 (turnS_s _) m2
  have H2 : Hid (RSH B w2 c A S.turn ∧ Stp c w c w2) := ⟨r.1, HB.out.2.trans r.2⟩
  clear t2 m2 r
  go_wp2
  go_ret
  exact ⟨rfl, H2.out⟩
set_option maxHeartbeats 1000000 in
theorem rdone_any (w : World) (h : RSH B w c A S) {kb : Nat} (hk : S.Bd kb) (hkb : kb ≤ 50000) :
    Calls Tryz.prog 60 #[.pointer (some ⟨A.b, 0, none⟩)] w fun e w' => e = .returned (.bool (dones S.K)) ∧ RSH B w' c A S.doneC ∧ Stp c w c w' := by
  have HS : Hid (RSH B w c A S) := h
  have HK : Hid (S.Bd kb ∧ kb ≤ 50000) := ⟨hk, hkb⟩
  have hct : 0 ≤ S.ct ∧ S.ct ≤ 50000 := ⟨hk.c0, by have := hk.c1; omega⟩
  have c16 := h.cell (i := 16) (u := .int .i64 S.ct) fun _ _ => rfl
  have f16 := h.fz 16
  have HW : Hid (∀ W, w.setCell ⟨A.b, 16, none⟩ (.int .i64 (S.ct + 1)) = W → RSH B W c A S.tick ∧ Stp c w c W) := fun W hW => by
    rw [← hW]
    exact h.ticks
  obtain ⟨h0, h1⟩ := hct
  have c14w := h.cell (i := 14) (u := .pointer (some ⟨A.kb, 0, none⟩)) fun _ _ => rfl
  clear h hk hkb
  go_enter Tryz.func60, Tryz.ntmps60
  go_wp2_with fail
  generalize hW : World.setCell _ _ _ = W
  have HB : Hid (RSH B W c A S.tick ∧ Stp c w c W) := HW.out W hW
  clear hW HW c16 f16 c14w
  refine (krdone_any W HB.out.1.coil).mono ?_
  rintro e w2 ⟨rfl, t2, m2⟩
  have r := HB.out.1.coils t2 (doneS_s _) m2
  have H2 : Hid (RSH B w2 c A S.doneC ∧ Stp c w c w2) := ⟨r.1, HB.out.2.trans r.2⟩
  clear t2 m2 r
  go_wp2
  go_ret
  exact ⟨rfl, H2.out⟩
set_option maxHeartbeats 1000000 in
theorem rforce_any (w : World) (h : RSH B w c A S) {kb : Nat} (hk : S.Bd kb) (hkb : kb ≤ 50000) :
    Calls Tryz.prog 54 #[.pointer (some ⟨A.b, 0, none⟩)] w fun e w' => e = .returned (.tuple #[]) ∧ RSH B w' c A S.force ∧ Stp c w c w' := by
  have hct : 0 ≤ S.ct ∧ S.ct ≤ 50000 := ⟨hk.c0, by have := hk.c1; omega⟩
  have c16 := h.cell (i := 16) (u := .int .i64 S.ct) fun _ _ => rfl
  have c15 := h.cell (i := 15) (u := .bool S.fo) fun _ _ => rfl
  have f16 := h.fz
  have HW : Hid (RSH B ((w.setCell ⟨A.b, 16, none⟩ (.int .i64 (S.ct + 1))).setCell ⟨A.b, 15, none⟩ (.bool true)) c A S.force ∧ Stp c w c ((w.setCell ⟨A.b, 16, none⟩ (.int .i64 (S.ct + 1))).setCell ⟨A.b, 15, none⟩ (.bool true))) := by
    have r := h.ticks
    have r2 := r.1.heads (fo := true) (ct := S.tick.ct) 15 (.bool true) (fun _ _ => rfl)
    exact ⟨r2.1, r.2.trans r2.2⟩
  obtain ⟨h0, h1⟩ := hct
  clear h hk hkb
  go_enter Tryz.func54, Tryz.ntmps54
  go_wp2
  go_end0
  exact ⟨rfl, HW.out⟩

set_option maxHeartbeats 1000000 in
theorem rbegin_any (w : World) (h : RSH B w c A S) {kb : Nat} (hk : S.Bd kb) (hkb : kb ≤ 50000) :
    Calls Tryz.prog 56 #[.pointer (some ⟨A.b, 0, none⟩)] w fun e w' => e = .returned (.tuple #[]) ∧ ∃ c', RSH B w' c' A S.begin ∧ Stp c w c' w' := by
  have hct : 0 ≤ S.ct ∧ S.ct ≤ 50000 := ⟨hk.c0, by have := hk.c1; omega⟩
  have c16 := h.cell (i := 16) (u := .int .i64 S.ct) fun _ _ => rfl
  have c15 := h.cell (i := 15) (u := .bool S.fo) fun _ _ => rfl
  have f16 := h.fz
  have HW : Hid (∀ W, (w.setCell ⟨A.b, 16, none⟩ (.int .i64 (S.ct + 1))).setCell ⟨A.b, 15, none⟩ (.bool false) = W → RSH B W c A { S.tick with fo := false } ∧ Stp c w c W) := fun W hW => by
    rw [← hW]
    have r := h.ticks
    have r2 := r.1.heads (fo := false) (ct := S.tick.ct) 15 (.bool false) (fun _ _ => rfl)
    exact ⟨r2.1, r.2.trans r2.2⟩
  obtain ⟨h0, h1⟩ := hct
  clear h hk hkb
  go_enter Tryz.func56, Tryz.ntmps56
  go_wp2_with fail
  generalize hW : World.setCell _ _ _ = W
  have HB : Hid (RSH B W c A { S.tick with fo := false } ∧ Stp c w c W) := HW.out W hW
  clear hW HW c15 c16 f16
  obtain ⟨v, nv, E, N, l1, l2, l3, l4⟩ := HB.out.1.line
  have l2' : E.map Ent.nr = S.E.map Ent.nr := l2
  refine (lrbegin_any W l1).mono ?_
  rintro e w2 ⟨rfl, nv', t2, m2, f2⟩
  have hf : S.E.length ≤ 100000 := by have := l1.few; have := nr_len l2'; omega
  rw [nr_wth l2'] at t2
  have H2a := RSH.lines (EE := S.E.map noteE) (fo := false) (ct := S.ct + 1) HB.out.1 l4 t2 m2 (fun k hk => memR_own hk) f2 (by rw [l2', List.map_map]; rfl) (nrel_begin l3 hf)
  have H2 : Hid (∃ c', RSH B w2 c' A S.begin ∧ Stp c w c' w2) := ⟨_, H2a.1, HB.out.2.trans H2a.2⟩
  clear H2a t2 m2 f2 l1 l2 l2' l3 l4 hf
  go_wp2
  go_end0
  exact ⟨rfl, H2.out⟩

set_option maxHeartbeats 1000000 in
theorem rend_any (w : World) (h : RSH B w c A S) {kb : Nat} (hk : S.Bd kb) (hkb : kb ≤ 50000) :
    Calls Tryz.prog 64 #[.pointer (some ⟨A.b, 0, none⟩)] w fun e w' => e = .returned (.tuple #[]) ∧ ∃ c', RSH B w' c' A S.end_ ∧ Stp c w c' w' := by
  have HS : Hid (RSH B w c A S) := h
  have HK : Hid (S.Bd kb ∧ kb ≤ 50000) := ⟨hk, hkb⟩
  have hct : 0 ≤ S.ct ∧ S.ct ≤ 50000 := ⟨hk.c0, by have := hk.c1; omega⟩
  have c16 := h.cell (i := 16) (u := .int .i64 S.ct) fun _ _ => rfl
  have f16 := h.fz 16
  have HW : Hid (∀ W, w.setCell ⟨A.b, 16, none⟩ (.int .i64 (S.ct + 1)) = W → RSH B W c A S.tick ∧ Stp c w c W) := fun W hW => by
    rw [← hW]
    exact h.ticks
  obtain ⟨h0, h1⟩ := hct
  clear h hk hkb
  go_enter Tryz.func64, Tryz.ntmps64
  go_wp2_with fail
  generalize hW : World.setCell _ _ _ = W
  have HB : Hid (RSH B W c A S.tick ∧ Stp c w c W) := HW.out W hW
  clear hW HW c16 f16
  obtain ⟨v, nv, E, N, l1, l2, l3, l4⟩ := HB.out.1.line
  have l2' : E.map Ent.nr = S.E.map Ent.nr := l2
  refine (lrend_any W l1 (fun e he => by
    obtain ⟨e', h1, h2⟩ := nr_mem l2' he
    have h3 := HK.out.1.cyc e' h1
    have h4 : e'.nr.cy = e.nr.cy := congrArg Ent.cy h2
    have h5 := HK.out.2
    have h6 : e'.cy = e.cy := h4
    rw [h6] at h3
    omega) (by have := l3.few; omega)).mono ?_
  rintro e w2 ⟨rfl, t2, m2⟩
  have H2a := RSH.lines (EE := S.E.map endE) (fo := S.fo) (ct := S.ct + 1) HB.out.1 l4 t2 m2 (fun k hk => memR_own hk) (fun k hk => .inl (by
    rcases mem_footR.1 hk with q | q
    · cases q
    · exact mem_footR.2 (.inr (foot_note (f := endR N) (fun _ => rfl) q)))) (nr_end l2' l3) (nrel_end l3)
  have H2 : Hid (∃ c', RSH B w2 c' A S.end_ ∧ Stp c w c' w2) := ⟨_, H2a.1, HB.out.2.trans H2a.2⟩
  clear H2a t2 m2 l1 l2 l2' l3 l4
  go_wp2
  go_end0
  exact ⟨rfl, H2.out⟩

set_option maxHeartbeats 1000000 in
theorem rwaits_any (w : World) (h : RSH B w c A S) :
    Calls Tryz.prog 22 #[.pointer (some ⟨A.b, 0, none⟩)] w fun e w' => e = .returned (.int .i64 ((wts S.E).length : Int)) ∧ w' = w := by
  obtain ⟨v, nv, E, N, l1, l2, l3, l4⟩ := h.line
  have C := lrwaits_any w l1
  rw [nr_wts l2] at C
  clear h l1 l2 l3 l4
  go_enter Tryz.func22, Tryz.ntmps22
  go_wp2_with fail
  refine C.mono ?_
  rintro e w2 ⟨rfl, e2⟩
  rw [e2]
  clear e2 C
  go_wp2
  go_ret
  exact ⟨rfl, rfl⟩

set_option maxHeartbeats 2000000 in
theorem rsweep_any (i : Int) (se : Bool) (w : World) (h : RSH B w c A S) {kb : Nat} (hk : S.Bd kb) (hkb : kb ≤ 50000) :
    Calls Tryz.prog 62 #[.pointer (some ⟨A.b, 0, none⟩), .int .i64 i, .bool se] w fun e w' => e = .returned (.bool (S.sweeps i se)) ∧ RSH B w' c A (S.sweep i se) ∧ Stp c w c w' := by
  have HV : Hid (S.sweeps i se = ((stt S.n S.T i == 2) && !blk S.n S.T i se)) := rfl
  have HR : Hid (S.sweep i se = if S.sweeps i se then S.tick.fre i else S.tick) := rfl
  have HS : Hid (RSH B w c A S) := h
  have HK : Hid (S.Bd kb ∧ kb ≤ 50000) := ⟨hk, hkb⟩
  have hct : 0 ≤ S.ct ∧ S.ct ≤ 50000 := ⟨hk.c0, by have := hk.c1; omega⟩
  have c16 := h.cell (i := 16) (u := .int .i64 S.ct) fun _ _ => rfl
  have f16 := h.fz 16
  have HW : Hid (∀ W, w.setCell ⟨A.b, 16, none⟩ (.int .i64 (S.ct + 1)) = W → RSH B W c A S.tick ∧ Stp c w c W) := fun W hW => by
    rw [← hW]
    exact h.ticks
  obtain ⟨h0, h1⟩ := hct
  have c9w := h.cell (i := 9) (u := .pointer (some ⟨A.tb, 0, none⟩)) fun _ _ => rfl
  clear h hk hkb
  go_enter Tryz.func62, Tryz.ntmps62
  go_wp2_with fail
  generalize hW : World.setCell _ _ _ = W
  have HB : Hid (RSH B W c A S.tick ∧ Stp c w c W) := HW.out W hW
  clear hW HW c16 f16 c9w
  have c9 := HB.out.1.cell (i := 9) (u := .pointer (some ⟨A.tb, 0, none⟩)) fun _ _ => rfl
  obtain ⟨T', t1, t2⟩ := HB.out.1.tab
  have t2' : teq S.n S.T T' := t2
  have CS := trstate_any i W t1
  have CB := trblack_any i se W t1
  rw [show stt S.tick.n T' i = stt S.n S.T i from t2.stt i] at CS
  rw [show blk S.tick.n T' i se = blk S.n S.T i se from t2.blk i se] at CB
  have HT : Hid (RtT W A.tb A.gs A.gh A.gc S.n T' ∧ teq S.n S.T T') := ⟨t1, t2⟩
  clear t1 t2 t2'
  refine CS.mono ?_
  rintro e w1 ⟨rfl, e1⟩
  rw [e1]
  clear e1 CS
  by_cases h2 : stt S.n S.T i = 2
  · have q2 : (stt S.n S.T i == 2) = true := by simpa using h2
    rw [q2] at HV
    rw [h2]
    clear h2 q2
    go_wp2_with fail
    refine CB.mono ?_
    rintro e w2 ⟨rfl, e2⟩
    rw [e2]
    clear e2 CB
    cases hb : blk S.n S.T i se
    · have hv : S.sweeps i se = true := by rw [HV.out, hb]; rfl
      have HV2 : Hid (S.sweeps i se = true) := hv
      rw [hv] at HR
      simp only [if_true] at HR
      clear hb hv
      go_wp2_with fail
      refine (trset_any i 0 false se W HT.out.1).mono ?_
      rintro e w3 ⟨rfl, t3, m3⟩
      have r := HB.out.1.tabs (T := setT S.n S.T i 0 false false) t3 (HT.out.2.set i 0 false false se (fun q => by cases q)) m3
      have H3 : Hid (RSH B w3 c A { S.tick with T := setT S.n S.T i 0 false false } ∧ Stp c w c w3) := ⟨r.1, HB.out.2.trans r.2⟩
      clear r t3 m3 c9
      have c10 := H3.out.1.cell (i := 10) (u := .pointer (some ⟨A.pb, 0, none⟩)) fun _ _ => rfl
      go_wp2_with fail
      refine (prgive_any i w3 H3.out.1.pool).mono ?_
      rintro e w4 ⟨rfl, t4, m4⟩
      have r := H3.out.1.pools t4 m4
      have H4 : Hid (RSH B w4 c A (S.tick.fre i) ∧ Stp c w c w4) := ⟨r.1, H3.out.2.trans r.2⟩
      clear r t4 m4 c10
      go_wp2
      go_ret
      exact ⟨by rw [HV2.out] <;> rfl, by rw [HR.out]; exact H4.out⟩
    · have hv : S.sweeps i se = false := by rw [HV.out, hb]; rfl
      have HV2 : Hid (S.sweeps i se = false) := hv
      rw [hv] at HR
      simp only [Bool.false_eq_true, if_false] at HR
      clear hb hv
      go_wp2
      go_ret
      exact ⟨by rw [HV2.out] <;> rfl, by rw [HR.out]; exact HB.out⟩
  · have q2 : (stt S.n S.T i == 2) = false := by simpa using h2
    have hv : S.sweeps i se = false := by rw [HV.out, q2]; rfl
    have HV2 : Hid (S.sweeps i se = false) := hv
    rw [hv] at HR
    simp only [Bool.false_eq_true, if_false] at HR
    clear hv q2 CB
    go_wp2
    go_ret
    exact ⟨by rw [HV2.out] <;> rfl, by rw [HR.out]; exact HB.out⟩
end
end Go.Proofs.YtahpnnjemjjfhaaGreat

