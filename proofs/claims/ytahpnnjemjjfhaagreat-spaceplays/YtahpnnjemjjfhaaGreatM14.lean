/-
  The modules SpcF, one behind another.
-/
import Derived.Test.YtahpnnjemjjfhaaGreatM13
/-
  Contracts of package space: Look, Drain, Sweep, Begin, End, and what only tells.
-/
namespace Go.Proofs.YtahpnnjemjjfhaaGreat
open Go.RowKit

def Sp.dropE (S : Sp) (t : Int) : Sp := { S with E := S.E.eraseIdx (idx (fun e => e.th == t) S.E).toNat }
def Sp.look (S : Sp) (t : Int) : Sp := match S.of t with
  | none => S.tick
  | some e => if e.st == 0 then S.tick else S.tick.dropE t
def Sp.lookG (S : Sp) (t : Int) : Gr := match S.of t with
  | none => ⟨3, [], -1⟩
  | some e => if e.st == 0 then ⟨0, [], -1⟩ else if e.st == 1 then ⟨1, e.G, e.pl⟩ else ⟨e.st, [], -1⟩
/-- One is given back. -/
def Sp.fre (S : Sp) (x : Int) : Sp := { S with T := setT S.n S.T x 0 false false, F := giveF S.n S.F x }
def Sp.fres (S : Sp) (L : List Int) : Sp := L.foldl Sp.fre S
def Sp.drain (S : Sp) (t : Int) : Sp := if S.isT t then ({ S.tick with Q := fun j => if j = t.toNat then [] else S.Q j } : Sp).fres (S.Q t.toNat) else S.tick
def Sp.drainN (S : Sp) (t : Int) : Int := if S.isT t then ((S.Q t.toNat).length : Int) else 0
def Sp.sweeps (S : Sp) (i : Int) (se : Bool) : Bool := (stt S.n S.T i == 2) && !blk S.n S.T i se
def Sp.sweep (S : Sp) (i : Int) (se : Bool) : Sp := if S.sweeps i se then S.tick.fre i else S.tick
def Sp.begin (S : Sp) : Sp := { S.tick with fo := false, E := S.E.map noteE }
def Sp.end_ (S : Sp) : Sp := { S.tick with E := S.E.map endE }

theorem idx_nrm (p : Ent → Bool) (hp : ∀ e, p e.nrm = p e) (E : List Ent) : idx p (E.map Ent.nrm) = idx p E := by
  unfold idx
  rw [List.findIdx?_map]
  rw [show (p ∘ Ent.nrm) = p from funext hp]
theorem fres_take {S : Sp} {L : List Int} {k : Nat} (hk : k < L.length) : (S.fres (L.take k)).fre L[k] = S.fres (L.take (k + 1)) := by
  unfold Sp.fres
  rw [List.take_add_one, List.getElem?_eq_getElem hk, Option.toList_some, List.foldl_append]
  rfl
theorem fres_same (L : List Int) : ∀ (S : Sp), (S.fres L).m = S.m ∧ (S.fres L).Q = S.Q ∧ (S.fres L).E = S.E ∧ (S.fres L).n = S.n ∧ (S.fres L).K = S.K ∧ (S.fres L).ct = S.ct ∧ (S.fres L).fo = S.fo ∧ (S.fres L).most = S.most := by
  induction L with
  | nil => intro S; exact ⟨rfl, rfl, rfl, rfl, rfl, rfl, rfl, rfl⟩
  | cons x L ih => intro S; exact ih (S.fre x)

section
variable {c c' : Nat → Nat} {w w' W : World} {A : Ad} {S : Sp}

set_option maxHeartbeats 400000 in
theorem wcount_any (w : World) (h : SH w c A S) : Calls Tryz.prog 20 #[.pointer (some ⟨A.b, 0, none⟩)] w fun e w' => e = .returned (.int .i64 S.ct) ∧ w' = w := by
  have c15 := h.head.blk.at 15 rfl
  clear h
  go_enter Tryz.func20, Tryz.ntmps20
  go_wp2
  go_ret
  exact ⟨rfl, rfl⟩
set_option maxHeartbeats 400000 in
theorem wcoil_any (w : World) (h : SH w c A S) : Calls Tryz.prog 10 #[.pointer (some ⟨A.b, 0, none⟩)] w fun e w' => e = .returned (.pointer (some ⟨A.kb, 0, none⟩)) ∧ w' = w := by
  have c3 := h.head.blk.at 3 rfl
  clear h
  go_enter Tryz.func10, Tryz.ntmps10
  go_wp2
  go_ret
  exact ⟨rfl, rfl⟩
set_option maxHeartbeats 400000 in
theorem wfrees_any (w : World) (h : SH w c A S) : Calls Tryz.prog 23 #[.pointer (some ⟨A.b, 0, none⟩)] w fun e w' => e = .returned (.int .i64 (cntB S.F S.n : Int)) ∧ w' = w := by
  have c1 := h.head.blk.at 1 rfl
  have C := pfree_any w h.pool
  clear h
  go_enter Tryz.func23, Tryz.ntmps23
  go_wp2_with fail
  refine C.mono ?_
  rintro e w2 ⟨rfl, e2⟩
  rw [e2]
  clear e2 C
  go_wp2
  go_ret
  exact ⟨rfl, rfl⟩
set_option maxHeartbeats 400000 in
theorem wwaits_any (w : World) (h : SH w c A S) : Calls Tryz.prog 21 #[.pointer (some ⟨A.b, 0, none⟩)] w fun e w' => e = .returned (.int .i64 ((wts S.E).length : Int)) ∧ Kept w w' := by
  have c2 := h.head.blk.at 2 rfl
  obtain ⟨v, E, q1, q2, _⟩ := h.line
  have C := lwaits_any w q1
  have hwl : (wts E).length = (wts S.E).length := by
    rw [show S.E = E.map Ent.nrm from q2.symm]
    unfold wts
    rw [List.filter_map, List.length_map]
    rfl
  rw [hwl] at C
  clear h q1 q2 hwl
  go_enter Tryz.func21, Tryz.ntmps21
  go_wp2_with fail
  refine C.mono ?_
  rintro e w2 ⟨rfl, k2⟩
  have K2 : Hid (Kept w w2) := k2
  clear k2 C c2
  go_wp2
  go_ret
  exact ⟨rfl, K2.out⟩

set_option maxHeartbeats 2000000 in
theorem sweep_any (i : Int) (se : Bool) (w : World) (h : SH w c A S) {kb : Nat} (hk : S.Bd kb) (hkb : kb ≤ 50000) :
    Calls Tryz.prog 61 #[.pointer (some ⟨A.b, 0, none⟩), .int .i64 i, .bool se] w fun e w' => e = .returned (.bool (S.sweeps i se)) ∧ SH w' c A (S.sweep i se) ∧ Stp c w c w' := by
  have HS : Hid (SH w c A S) := h
  have HK : Hid (S.Bd kb ∧ kb ≤ 50000) := ⟨hk, hkb⟩
  have hct : 0 ≤ S.ct ∧ S.ct ≤ 50000 := ⟨hk.c0, by have := hk.c1; omega⟩
  have c15 := h.head.blk.at 15 rfl
  have f15 := h.head.blk.fz 15
  have HW : Hid (∀ W, w.setCell ⟨A.b, 15, none⟩ (.int .i64 (S.ct + 1)) = W → SH W c A S.tick ∧ Stp c w c W) := fun W hW => by
    rw [← hW]
    exact ⟨h.ticks, h.stph ((Mut.refl _ _).setCell (by simp) _)⟩
  obtain ⟨h0, h1⟩ := hct
  clear h hk hkb
  have HV : Hid (S.sweeps i se = ((stt S.n S.T i == 2) && !blk S.n S.T i se)) := rfl
  have HR : Hid (S.sweep i se = if S.sweeps i se then S.tick.fre i else S.tick) := rfl
  have c0w := HS.out.head.blk.at 0 rfl
  go_enter Tryz.func61, Tryz.ntmps61
  go_wp2_with fail
  generalize hW : World.setCell _ _ _ = W
  have HB : Hid (SH W c A S.tick ∧ Stp c w c W) := HW.out W hW
  clear hW HW c15 f15 c0w
  have c0 := HB.out.1.head.blk.at 0 rfl
  have CS := tstate_any i W HB.out.1.tab
  have CB := tblack_any i se W HB.out.1.tab
  rw [show stt S.tick.n S.tick.T i = stt S.n S.T i from rfl] at CS
  rw [show blk S.tick.n S.tick.T i se = blk S.n S.T i se from rfl] at CB
  refine CS.mono ?_
  rintro e w1 ⟨rfl, e1⟩
  rw [e1]
  clear e1 CS
  by_cases h2 : stt S.n S.T i = 2
  · have q2 : (stt S.n S.T i == 2) = true := by simpa using h2
    rw [q2] at HV
    rw [h2]
    clear h2 q2
    go_wp2_with fail
    refine CB.mono ?_
    rintro e w2 ⟨rfl, e2⟩
    rw [e2]
    clear e2 CB c0
    cases hb : blk S.n S.T i se
    · have hv : S.sweeps i se = true := by rw [HV.out, hb]; rfl
      have HV2 : Hid (S.sweeps i se = true) := hv
      rw [hv] at HR
      simp only [if_true] at HR
      clear hb hv
      have b0 := HB.out.1.head.blk.at 0 rfl
      have b1 := HB.out.1.head.blk.at 1 rfl
      have b2 := HB.out.1.head.blk.at 2 rfl
      have b3 := HB.out.1.head.blk.at 3 rfl
      have b4 := HB.out.1.head.blk.at 4 rfl
      have b5 := HB.out.1.head.blk.at 5 rfl
      have b6 := HB.out.1.head.blk.at 6 rfl
      have b7 := HB.out.1.head.blk.at 7 rfl
      have b8 := HB.out.1.head.blk.at 8 rfl
      have b9 := HB.out.1.head.blk.at 9 rfl
      have b10 := HB.out.1.head.blk.at 10 rfl
      have b11 := HB.out.1.head.blk.at 11 rfl
      have b12 := HB.out.1.head.blk.at 12 rfl
      have CF := wfree_any i W HB.out.1
      go_wp2_with fail
      refine CF.mono ?_
      rintro e w3 ⟨rfl, s3, p3, _⟩
      have H3 : Hid (SH w3 c A (S.tick.fre i) ∧ Stp c w c w3) := ⟨s3, HB.out.2.trans p3⟩
      clear s3 p3 CF b0 b1 b2 b3 b4 b5 b6 b7 b8 b9 b10 b11 b12
      go_wp2
      go_ret
      exact ⟨by rw [HV2.out] <;> rfl, by rw [HR.out]; exact H3.out⟩
    · have hv : S.sweeps i se = false := by rw [HV.out, hb]; rfl
      have HV2 : Hid (S.sweeps i se = false) := hv
      rw [hv] at HR
      simp only [Bool.false_eq_true, if_false] at HR
      clear hb hv
      go_wp2
      go_ret
      exact ⟨by rw [HV2.out] <;> rfl, by rw [HR.out]; exact HB.out⟩
  · have q2 : (stt S.n S.T i == 2) = false := by simpa using h2
    have hv : S.sweeps i se = false := by rw [HV.out, q2]; rfl
    have HV2 : Hid (S.sweeps i se = false) := hv
    rw [hv] at HR
    simp only [Bool.false_eq_true, if_false] at HR
    clear hv q2 CB
    go_wp2
    go_ret
    exact ⟨by rw [HV2.out] <;> rfl, by rw [HR.out]; exact HB.out⟩

theorem foot_note {b : Nat} {v : Value} {E : List Ent} {f : Ent → Ent} (hf : ∀ e, (f e).gx = e.gx) {k : Nat} (h : k ∈ foot b v (E.map f)) : k ∈ foot b v E := foot_upd hf h

set_option maxHeartbeats 1000000 in
theorem wbegin_any (w : World) (h : SH w c A S) {kb : Nat} (hk : S.Bd kb) (hkb : kb ≤ 50000) :
    Calls Tryz.prog 55 #[.pointer (some ⟨A.b, 0, none⟩)] w fun e w' => e = .returned (.tuple #[]) ∧ ∃ c', SH w' c' A S.begin ∧ Stp c w c' w' := by
  have HS : Hid (SH w c A S) := h
  have hct : 0 ≤ S.ct ∧ S.ct ≤ 50000 := ⟨hk.c0, by have := hk.c1; omega⟩
  have c15 := h.head.blk.at 15 rfl
  have c14 := h.head.blk.at 14 rfl
  have f15 := h.head.blk.fz
  have c2 := h.head.blk.at 2 rfl
  have HW : Hid (∀ W, (w.setCell ⟨A.b, 15, none⟩ (.int .i64 (S.ct + 1))).setCell ⟨A.b, 14, none⟩ (.bool false) = W → SH W c A { S.tick with fo := false } ∧ Stp c w c W) := fun W hW => by
    rw [← hW]
    have o := (h.head.set 15 (.int .i64 (S.ct + 1))).set 14 (.bool false)
    have m : Mut [A.b] w ((w.setCell ⟨A.b, 15, none⟩ (.int .i64 (S.ct + 1))).setCell ⟨A.b, 14, none⟩ (.bool false)) := ((Mut.refl _ _).setCell (by simp) _).setCell (by simp) _
    exact ⟨h.heads o m, h.stph m⟩
  obtain ⟨h0, h1⟩ := hct
  clear h hk hkb
  go_enter Tryz.func55, Tryz.ntmps55
  go_wp2_with fail
  generalize hW : World.setCell _ _ _ = W
  have HB : Hid (SH W c A { S.tick with fo := false } ∧ Stp c w c W) := HW.out W hW
  clear hW HW c15 c14 f15 c2
  obtain ⟨v, E, l1, l2, l3⟩ := HB.out.1.line
  refine (lbegin_any W l1).mono ?_
  rintro e w2 ⟨rfl, t2, m2⟩
  have H2a := SH.lines HB.out.1 l3 t2 m2 (fun k hk => mem_foot.2 (by
    rcases List.mem_cons.1 hk with q | q
    · exact .inl q
    · exact .inr (.inl (by simpa using q)))) (fun k hk => .inl (foot_note (f := noteE) (fun _ => rfl) hk))
  have h2 : ∃ c', SH w2 c' A S.begin ∧ Stp c w c' w2 := by
    refine ⟨_, ?_, HB.out.2.trans H2a.2⟩
    have e : (E.map noteE).map Ent.nrm = S.E.map noteE := by
      rw [show S.E = E.map Ent.nrm from l2.symm, List.map_map, List.map_map]; rfl
    have := H2a.1
    rw [e] at this
    exact this
  have H2 : Hid _ := h2
  clear H2a h2 t2 m2 l1 l2 l3
  go_wp2
  go_end0
  exact ⟨rfl, H2.out⟩

set_option maxHeartbeats 1000000 in
theorem wend_any (w : World) (h : SH w c A S) {kb : Nat} (hk : S.Bd kb) (hkb : kb ≤ 50000) :
    Calls Tryz.prog 63 #[.pointer (some ⟨A.b, 0, none⟩)] w fun e w' => e = .returned (.tuple #[]) ∧ ∃ c', SH w' c' A S.end_ ∧ Stp c w c' w' := by
  have HS : Hid (SH w c A S) := h
  have HK : Hid (S.Bd kb ∧ kb ≤ 50000) := ⟨hk, hkb⟩
  have hct : 0 ≤ S.ct ∧ S.ct ≤ 50000 := ⟨hk.c0, by have := hk.c1; omega⟩
  have c15 := h.head.blk.at 15 rfl
  have f15 := h.head.blk.fz 15
  have HW : Hid (∀ W, w.setCell ⟨A.b, 15, none⟩ (.int .i64 (S.ct + 1)) = W → SH W c A S.tick ∧ Stp c w c W) := fun W hW => by
    rw [← hW]
    exact ⟨h.ticks, h.stph ((Mut.refl _ _).setCell (by simp) _)⟩
  obtain ⟨h0, h1⟩ := hct
  clear h hk hkb
  go_enter Tryz.func63, Tryz.ntmps63
  have c2 := HS.out.head.blk.at 2 rfl
  go_wp2_with fail
  generalize hW : World.setCell _ _ _ = W
  have HB : Hid (SH W c A S.tick ∧ Stp c w c W) := HW.out W hW
  clear hW HW c15 f15
  clear c2
  obtain ⟨v, E, l1, l2, l3⟩ := HB.out.1.line
  refine (lend_any W l1 (fun e he => by
    have := HK.out.1.cyc e.nrm (by rw [show S.E = E.map Ent.nrm from l2.symm]; exact List.mem_map_of_mem he)
    have h1 : e.nrm.cy = e.cy := rfl
    have h2 := HK.out.2
    rw [h1] at this
    omega)).mono ?_
  rintro e w2 ⟨rfl, t2, m2⟩
  have H2a := SH.lines HB.out.1 l3 t2 m2 (fun k hk => mem_foot.2 (by
    rcases List.mem_cons.1 hk with q | q
    · exact .inl q
    · exact .inr (.inl (by simpa using q)))) (fun k hk => .inl (foot_note (f := endE) (fun _ => rfl) hk))
  have h2 : ∃ c', SH w2 c' A S.end_ ∧ Stp c w c' w2 := by
    refine ⟨_, ?_, HB.out.2.trans H2a.2⟩
    have e : (E.map endE).map Ent.nrm = S.E.map endE := by
      rw [show S.E = E.map Ent.nrm from l2.symm, List.map_map, List.map_map]; rfl
    have := H2a.1
    rw [e] at this
    exact this
  have H2 : Hid _ := h2
  clear H2a h2 t2 m2 l1 l2 l3
  go_wp2
  go_end0
  exact ⟨rfl, H2.out⟩
end
end Go.Proofs.YtahpnnjemjjfhaaGreat

