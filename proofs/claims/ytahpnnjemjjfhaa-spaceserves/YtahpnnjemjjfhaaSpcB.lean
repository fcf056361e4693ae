/-
  Contracts of package space's inner functions: without, granted, isThread; the room's use, free, fits, lay, take.
-/
import Derived.Test.YtahpnnjemjjfhaaSpcA
namespace Go.Proofs.Ytahpnnjemjjfhaa
open Go.RowKit

/-- All of L get the state z. -/
def useT (n : Nat) (z : Int) (se : Bool) (T : Nat → Fr) (L : List Int) : Nat → Fr := L.foldl (fun T i => setT n T i z false se) T
theorem useT_take {n : Nat} {z : Int} {se : Bool} {T : Nat → Fr} {L : List Int} {k : Nat} (hk : k < L.length) : setT n (useT n z se T (L.take k)) L[k] z false se = useT n z se T (L.take (k + 1)) := by
  unfold useT
  rw [List.take_add_one, List.getElem?_eq_getElem hk, Option.toList_some, List.foldl_append]
  rfl

def fitsB (S : Sp) (fr sp : Int) : Bool := !decide ((cntB S.F S.n : Int) < fr) && ((sp == 0) || (runO S.n S.F fr).isSome || decide (sp ≤ roomF S.K))
/-- Where the next spine lies. -/
def Sp.at (S : Sp) : Int := 8 * S.n + S.K.c * S.K.s + S.K.u

set_option maxHeartbeats 400000 in
theorem without_any (st : Int) (w : World) : Calls Try.prog 42 #[.int .i64 st] w fun e w' => e = .returned (.agg #[.int .i64 st, .slice none 0 0, .int .i64 (-1)]) ∧ Kept w w' := by
  have B0 : Hid (Blk (w.alloc (.cells #[.int .i64 st, .slice none 0 0, .int .i64 (-1)] 40)) w.heap.size [.int .i64 st, .slice none 0 0, .int .i64 (-1)]) := Blk.new w _ _
  go_enter Try.func42, Try.ntmps42
  go_wp2
  (try simp only [Exit.inBlock, Exit.then])
  exact bodyPost_ret_by (results_blk rfl _ _ w.heap.size [_, _, _] rfl B0.out Try.underlying40 (by kernel_rfl)) rfl ⟨rfl, (Kept.refl w).alloc _ _⟩

set_option maxHeartbeats 400000 in
theorem granted_any {x : Option Addr} {l d : Nat} (at_ : Int) (w : World) : Calls Try.prog 45 #[.slice x l d, .int .i64 at_] w fun e w' => e = .returned (.agg #[.int .i64 1, .slice x l d, .int .i64 at_]) ∧ Kept w w' := by
  have B0 : Hid (Blk (w.alloc (.cells #[.int .i64 1, .slice x l d, .int .i64 at_] 40)) w.heap.size [.int .i64 1, .slice x l d, .int .i64 at_]) := Blk.new w _ _
  go_enter Try.func45, Try.ntmps45
  go_wp2
  (try simp only [Exit.inBlock, Exit.then])
  exact bodyPost_ret_by (results_blk rfl _ _ w.heap.size [_, _, _] rfl B0.out Try.underlying40 (by kernel_rfl)) rfl ⟨rfl, (Kept.refl w).alloc _ _⟩

/-- A room's cells. -/
def Ad.room (A : Ad) : List Value := [.pointer (some ⟨A.tb, 0, none⟩), .pointer (some ⟨A.pb, 0, none⟩), .pointer (some ⟨A.lb, 0, none⟩), .pointer (some ⟨A.kb, 0, none⟩), .int .i64 A.C.n0, .int .i64 A.C.n1, .int .i64 A.C.n2, .int .i64 A.C.n3, .int .i64 A.C.n4, .int .i64 A.C.n5, .int .i64 A.C.n6, .int .i64 A.C.n7, .slice A.C.x A.C.l A.C.c]

set_option maxHeartbeats 1000000 in
theorem use_tab {A : Ad} {n : Nat} {T : Nat → Fr} {x : Option Addr} {d : Nat} {G : List Int} (se : Bool) (w : World) (h : Tab w A.tb A.tg n T) (hx : Rdi w x G) (hg : ∀ g o, x = some ⟨g, o, none⟩ → g ≠ A.tg) (hl : G.length ≤ 1000000) :
    Calls Try.prog 44 #[.agg #[.pointer (some ⟨A.tb, 0, none⟩), .pointer (some ⟨A.pb, 0, none⟩), .pointer (some ⟨A.lb, 0, none⟩), .pointer (some ⟨A.kb, 0, none⟩), .int .i64 A.C.n0, .int .i64 A.C.n1, .int .i64 A.C.n2, .int .i64 A.C.n3, .int .i64 A.C.n4, .int .i64 A.C.n5, .int .i64 A.C.n6, .int .i64 A.C.n7, .slice A.C.x A.C.l A.C.c], .slice x G.length d, .bool se] w fun e w' => e = .returned (.tuple #[]) ∧ Tab w' A.tb A.tg n (useT n 2 se T G) ∧ Mut [A.tg] w w' := by
  have lt : A.tg < w.heap.size := h.row.lt
  have HX : Hid (Rdi w x G ∧ ∀ g o, x = some ⟨g, o, none⟩ → g ≠ A.tg) := ⟨hx, hg⟩
  have HT : Hid (Tab w A.tb A.tg n T ∧ A.tg < w.heap.size) := ⟨h, lt⟩
  clear h hx hg lt
  go_enter Try.func44, Try.ntmps44
  go_wp2_with fail
  generalize hW : w.alloc _ = W
  have HB : Hid (Blk W w.heap.size A.room ∧ Kept w W ∧ W.heap.size = w.heap.size + 1) := by
    rw [← hW]
    exact ⟨Blk.new w _ _, (Kept.refl w).alloc _ _, by simp⟩
  clear hW
  go_loopg [10] G.length (fun m i wr => ∃ k : Nat, i = .int .i64 k ∧ k ≤ G.length ∧ m = G.length - k ∧ Hid (Tab wr A.tb A.tg n (useT n 2 se T (G.take k)) ∧ Mut [A.tg] W wr))
  case atStart => exact ⟨0, rfl, by omega, by omega, by simpa [useT] using HT.out.1.kept HB.out.2.1, Mut.refl _ _⟩
  case round =>
    obtain ⟨k, rfl, hk, hm, hw⟩ := hrel
    have HM : Hid _ := hm
    clear hm
    by_cases hlt : k < G.length
    · obtain ⟨g, o, rfl, hgl, hc⟩ := HX.out.1 (by omega)
      have hgw : g ≠ A.tg := HX.out.2 g o rfl
      have B2 : Blk wr w.heap.size A.room := HB.out.1.muts hw.out.2 (by have := HT.out.2; simp; omega)
      have c0 := B2.at 0 rfl
      have a0 : wr.cell? ⟨g, o + k, none⟩ = _ := (hw.out.2.cell (by have := HB.out.2.2; simp; omega) (by simpa using hgw)).trans ((HB.out.2.1.cell hgl).trans (hc k hlt))
      have hst : Hid (setT n (useT n 2 se T (G.take k)) G[k] 2 false se = useT n 2 se T (G.take (k + 1))) := useT_take hlt
      have C := tset_any G[k] 2 false se wr hw.out.1
      rw [hst.out] at C
      clear B2 hc hgw hst
      generalize G[k] = gk' at *
      go_wp2_with fail
      refine C.mono ?_
      rintro e w2 ⟨rfl, t2, m2⟩
      have H2 : Hid (Tab w2 A.tb A.tg n (useT n 2 se T (G.take (k + 1))) ∧ Mut [A.tg] W w2) := ⟨t2, hw.out.2.trans m2⟩
      clear t2 m2 c0 a0 C hw
      go_wp2
      go_roundg (gk - 1)
      all_goals (have := HM.out; try omega)
      exact ⟨k + 1, by go_num, by omega, by omega, H2⟩
    · obtain rfl : k = G.length := by omega
      go_wp2
      go_end0
      have e1 : G.take G.length = G := List.take_length
      rw [e1] at hw
      exact ⟨rfl, hw.out.1, (HB.out.2.1.mut).trans hw.out.2⟩

section
variable {c : Nat → Nat} {A : Ad} {S : Sp}
theorem use_any {x : Option Addr} {d : Nat} {G : List Int} (se : Bool) (w : World) (h : SH w c A S) (hx : Rdi w x G) (hg : ∀ g o, x = some ⟨g, o, none⟩ → c g ≠ 1) (hl : G.length ≤ 1000000) :
    Calls Try.prog 44 #[.agg #[.pointer (some ⟨A.tb, 0, none⟩), .pointer (some ⟨A.pb, 0, none⟩), .pointer (some ⟨A.lb, 0, none⟩), .pointer (some ⟨A.kb, 0, none⟩), .int .i64 A.C.n0, .int .i64 A.C.n1, .int .i64 A.C.n2, .int .i64 A.C.n3, .int .i64 A.C.n4, .int .i64 A.C.n5, .int .i64 A.C.n6, .int .i64 A.C.n7, .slice A.C.x A.C.l A.C.c], .slice x G.length d, .bool se] w fun e w' => e = .returned (.tuple #[]) ∧ SH w' c A { S with T := useT S.n 2 se S.T G } ∧ Stp c w c w' ∧ Mut [A.tg] w w' := by
  refine (use_tab (d := d) se w h.tab hx (fun g o e q => hg g o e (by rw [q, h.ctg])) hl).mono ?_
  rintro e w' ⟨rfl, t, m⟩
  exact ⟨rfl, h.tabs t m, h.stpt m, m⟩

set_option maxHeartbeats 1000000 in
theorem wfree_any (i : Int) (w : World) (h : SH w c A S) :
    Calls Try.prog 54 #[.agg #[.pointer (some ⟨A.tb, 0, none⟩), .pointer (some ⟨A.pb, 0, none⟩), .pointer (some ⟨A.lb, 0, none⟩), .pointer (some ⟨A.kb, 0, none⟩), .int .i64 A.C.n0, .int .i64 A.C.n1, .int .i64 A.C.n2, .int .i64 A.C.n3, .int .i64 A.C.n4, .int .i64 A.C.n5, .int .i64 A.C.n6, .int .i64 A.C.n7, .slice A.C.x A.C.l A.C.c], .int .i64 i] w fun e w' => e = .returned (.tuple #[]) ∧ SH w' c A { S with T := setT S.n S.T i 0 false false, F := giveF S.n S.F i } ∧ Stp c w c w' ∧ Mut [A.tg, A.pg] w w' := by
  have HS : Hid (SH w c A S) := h
  clear h
  go_enter Try.func54, Try.ntmps54
  go_wp2_with fail
  generalize hW : w.alloc _ = W
  have HB : Hid (Blk W w.heap.size A.room ∧ Kept w W) := by
    rw [← hW]
    exact ⟨Blk.new w _ _, (Kept.refl w).alloc _ _⟩
  clear hW
  have c0 := HB.out.1.at 0 rfl
  have H1 : Hid (SH W c A S) := HS.out.kept HB.out.2
  have z : Hid (w.heap.size ∉ [A.tg] ∧ w.heap.size ∉ [A.pg]) := by
    have h1 := HS.out.new (k := w.heap.size) (Nat.le_refl _)
    have h2 := HS.out.ctg
    have h3 := HS.out.cpg
    refine ⟨fun q => ?_, fun q => ?_⟩
    · simp only [List.mem_singleton] at q
      rw [← q, h1] at h2; cases h2
    · simp only [List.mem_singleton] at q
      rw [← q, h1] at h3; cases h3
  go_wp2_with fail
  refine (tset_any i 0 false false W H1.out.tab).mono ?_
  rintro e w2 ⟨rfl, t2, m2⟩
  have H2 : Hid (SH w2 c A { S with T := setT S.n S.T i 0 false false } ∧ Stp c w c w2 ∧ Mut [A.tg, A.pg] w w2) := ⟨H1.out.tabs t2 m2, (Stp.kept HB.out.2).trans (H1.out.stpt m2), HB.out.2.mut.trans (m2.wide (by simp))⟩
  have B2 : Hid (Blk w2 w.heap.size A.room) := HB.out.1.muts m2 z.out.1
  clear c0 t2 m2 HB H1
  have c1 := B2.out.at 1 rfl
  go_wp2_with fail
  refine (pgive_any i w2 H2.out.1.pool).mono ?_
  rintro e w3 ⟨rfl, t3, m3⟩
  have H3 : Hid (SH w3 c A { S with T := setT S.n S.T i 0 false false, F := giveF S.n S.F i } ∧ Stp c w c w3 ∧ Mut [A.tg, A.pg] w w3) := ⟨H2.out.1.pools t3 m3, H2.out.2.1.trans (H2.out.1.stpp m3), H2.out.2.2.trans (m3.wide (by simp))⟩
  clear c1 t3 m3 H2
  go_wp2
  go_end0
  exact ⟨rfl, H3.out⟩

set_option maxHeartbeats 1000000 in
theorem fits_any (fr sp : Int) (w : World) (h : SH w c A S) :
    Calls Try.prog 46 #[.agg #[.pointer (some ⟨A.tb, 0, none⟩), .pointer (some ⟨A.pb, 0, none⟩), .pointer (some ⟨A.lb, 0, none⟩), .pointer (some ⟨A.kb, 0, none⟩), .int .i64 A.C.n0, .int .i64 A.C.n1, .int .i64 A.C.n2, .int .i64 A.C.n3, .int .i64 A.C.n4, .int .i64 A.C.n5, .int .i64 A.C.n6, .int .i64 A.C.n7, .slice A.C.x A.C.l A.C.c], .int .i64 fr, .int .i64 sp] w fun e w' => e = .returned (.bool (fitsB S fr sp)) ∧ Kept w w' := by
  have HS : Hid (SH w c A S) := h
  clear h
  go_enter Try.func46, Try.ntmps46
  go_wp2_with fail
  generalize hW : w.alloc _ = W
  have HB : Hid (Blk W w.heap.size A.room ∧ Kept w W) := by
    rw [← hW]
    exact ⟨Blk.new w _ _, (Kept.refl w).alloc _ _⟩
  clear hW
  have c1 := HB.out.1.at 1 rfl
  have H1 : Hid (SH W c A S) := HS.out.kept HB.out.2
  go_wp2_with fail
  refine (pfree_any W H1.out.pool).mono ?_
  rintro e w2 ⟨rfl, e2⟩
  rw [e2]
  clear e2
  have HF : Hid (fitsB S fr sp = (!decide ((cntB S.F S.n : Int) < fr) && ((sp == 0) || (runO S.n S.F fr).isSome || decide (sp ≤ roomF S.K)))) := rfl
  by_cases hlt : (cntB S.F S.n : Int) < fr
  · go_wp2
    go_ret
    exact ⟨by simp [HF.out, hlt], HB.out.2⟩
  · go_wp2_with fail
    refine (prun_any fr W H1.out.pool).mono ?_
    rintro e w3 ⟨rfl, e3⟩
    rw [e3]
    clear e3
    have c3 := HB.out.1.at 3 rfl
    have R := kroom_any W H1.out.coil
    generalize (runO S.n S.F fr) = R0 at *
    generalize roomF S.K = r0 at *
    by_cases h0 : sp = 0
    · subst h0
      go_wp2
      go_ret
      exact ⟨by simp [HF.out, hlt], HB.out.2⟩
    · have q0 : (sp == 0) = false := by simpa using h0
      cases hr : R0.isSome
      · rw [hr] at HF
        go_wp2_with fail
        refine R.mono ?_
        rintro e w4 ⟨rfl, k4⟩
        have K4 : Hid (Kept w w4) := HB.out.2.trans k4
        clear k4 R c1 c3
        go_wp2
        go_ret
        exact ⟨by simp [HF.out, hlt, q0], K4.out⟩
      · rw [hr] at HF
        go_wp2
        go_ret
        exact ⟨by simp [HF.out, hlt], HB.out.2⟩

set_option maxHeartbeats 1000000 in
theorem lay_any (sp : Int) (w : World) (h : SH w c A S) (ht : takes S.K sp = true) :
    Calls Try.prog 79 #[.agg #[.pointer (some ⟨A.tb, 0, none⟩), .pointer (some ⟨A.pb, 0, none⟩), .pointer (some ⟨A.lb, 0, none⟩), .pointer (some ⟨A.kb, 0, none⟩), .int .i64 A.C.n0, .int .i64 A.C.n1, .int .i64 A.C.n2, .int .i64 A.C.n3, .int .i64 A.C.n4, .int .i64 A.C.n5, .int .i64 A.C.n6, .int .i64 A.C.n7, .slice A.C.x A.C.l A.C.c], .int .i64 sp] w fun e w' => e = .returned (.int .i64 S.at) ∧ SH w' c A { S with K := takeS S.K sp } ∧ Stp c w c w' ∧ Mut [A.kb] w w' := by
  have HS : Hid (SH w c A S) := h
  have HT : Hid (takes S.K sp = true) := ht
  clear h ht
  go_enter Try.func79, Try.ntmps79
  go_wp2_with fail
  generalize hW : w.alloc _ = W
  have HB : Hid (Blk W w.heap.size A.room ∧ Kept w W) := by
    rw [← hW]
    exact ⟨Blk.new w _ _, (Kept.refl w).alloc _ _⟩
  clear hW
  have c3 := HB.out.1.at 3 rfl
  have H1 : Hid (SH W c A S) := HS.out.kept HB.out.2
  have TA : Hid (takeA S.K sp = (S.K.u : Int) ∧ (takeS S.K sp).s = S.K.s ∧ (takeS S.K sp).c = S.K.c ∧ S.K.u < S.K.s ∧ (S.K.c = 0 ∨ S.K.c = 1)) := by
    obtain ⟨m, rfl, q1, q2, q3⟩ := takes_room HT.out
    refine ⟨by simp [takeA, HT.out], ?_, ?_, by omega, HS.out.coil.ok.two⟩
    · simp only [takeS, HT.out, if_true, putU]; split <;> rfl
    · simp only [takeS, HT.out, if_true, putU]; split <;> rfl
  go_wp2_with fail
  have C := ktake_any sp W H1.out.coil
  rw [TA.out.1] at C
  refine C.mono ?_
  rintro e w2 ⟨rfl, t2, m2⟩
  have H2 : Hid (SH w2 c A { S with K := takeS S.K sp } ∧ Stp c w c w2 ∧ Mut [A.kb] w w2) := ⟨H1.out.coils t2 TA.out.2.1 m2, (Stp.kept HB.out.2).trans (H1.out.stpk m2), HB.out.2.mut.trans m2⟩
  have B2 : Hid (Blk w2 w.heap.size A.room) := HB.out.1.muts m2 (fun q => by
    simp only [List.mem_singleton] at q
    have h1 := HS.out.new (k := w.heap.size) (Nat.le_refl _)
    have h2 := HS.out.ckb
    rw [← q, h1] at h2; cases h2)
  clear c3 C t2 m2 HB H1
  have L2 := B2.out.lt
  have d3 := fun z : KW w2 => z.cell (a := ⟨w.heap.size, 3, none⟩) L2 (B2.out.at 3 rfl)
  have f0 := fun z : KW w2 => z.cell (a := ⟨w.heap.size, 4, none⟩) L2 (B2.out.at 4 rfl)
  have f1 := fun z : KW w2 => z.cell (a := ⟨w.heap.size, 5, none⟩) L2 (B2.out.at 5 rfl)
  have f2 := fun z : KW w2 => z.cell (a := ⟨w.heap.size, 6, none⟩) L2 (B2.out.at 6 rfl)
  have f3 := fun z : KW w2 => z.cell (a := ⟨w.heap.size, 7, none⟩) L2 (B2.out.at 7 rfl)
  have f4 := fun z : KW w2 => z.cell (a := ⟨w.heap.size, 8, none⟩) L2 (B2.out.at 8 rfl)
  have f5 := fun z : KW w2 => z.cell (a := ⟨w.heap.size, 9, none⟩) L2 (B2.out.at 9 rfl)
  have f6 := fun z : KW w2 => z.cell (a := ⟨w.heap.size, 10, none⟩) L2 (B2.out.at 10 rfl)
  have f7 := fun z : KW w2 => z.cell (a := ⟨w.heap.size, 11, none⟩) L2 (B2.out.at 11 rfl)
  have f8 := fun z : KW w2 => z.cell (a := ⟨w.heap.size, 12, none⟩) L2 (B2.out.at 12 rfl)
  have CC : Hid (∀ z : KW w2, Calls Try.prog 95 #[.pointer (some ⟨A.kb, 0, none⟩)] z.it fun e w' => e = .returned (.int .i64 (S.K.c : Int)) ∧ w' = z.it) := fun z => by
    have := kcurrent_any z.it (H2.out.1.kept z.ok).coil
    rwa [show ({ S with K := takeS S.K sp } : Sp).K.c = S.K.c from TA.out.2.2.1] at this
  have AT : At (Good A.C.n0 A.C.n1 A.C.n2 A.C.n3 A.C.n4 A.C.n5 A.C.n6 A.C.n7 A.C.l A.C.S ∧ (0 ≤ (S.K.c : Int) ∧ (S.K.c : Int) < 2) ∧ (0 ≤ (S.K.u : Int) ∧ (S.K.u : Int) < A.C.n1)) (8 * A.C.n0 + S.K.c * A.C.n1 + S.K.u) S.at 0 := by
    have hn0 := HS.out.n0
    have hn1 := HS.out.n1
    have e1 : S.at = 8 * A.C.n0 + S.K.c * A.C.n1 + S.K.u := by rw [hn0, hn1]; rfl
    rw [e1]
    exact At.is _ ⟨HS.out.good, by rcases TA.out.2.2.2.2 with q | q <;> rw [q] <;> decide, by have := TA.out.2.2.2.1; omega⟩
  have CP : Hid (∀ z : KW w2, _) := fun z : KW w2 => spine_any A.C.n0 A.C.n1 A.C.n2 A.C.n3 A.C.n4 A.C.n5 A.C.n6 A.C.n7 A.C.x A.C.l A.C.c A.C.S S.K.c S.K.u S.at 0 z.it (H2.out.1.kept z.ok).shp AT
  clear AT
  generalize hsa : S.at = sa at *
  have HSA : Hid (S.at = sa) := hsa
  clear hsa
  go_wp2_with fail
  refine wp_region_kept (by kernel_rfl) (by kernel_rfl) fun _ => ?_
  repeat (go_big_quiet_step (first | (go_at_call 95; exact kept_of_same (CC.out _)) | (go_at_call 94; exact kept_of (CP.out _))))
  refine wpQuiet_nil ?_
  rintro _ ⟨z, rfl⟩
  have H4 : Hid (SH z.it c A { S with K := takeS S.K sp } ∧ Stp c w c z.it ∧ Mut [A.kb] w z.it) := ⟨H2.out.1.kept z.ok, H2.out.2.1.trans (Stp.kept z.ok), H2.out.2.2.trans z.ok.mut⟩
  clear H2 d3 f0 f1 f2 f3 f4 f5 f6 f7 f8 CC CP
  go_wp2
  go_ret
  exact ⟨by rw [HSA.out]; rfl, H4.out⟩
end
end Go.Proofs.Ytahpnnjemjjfhaa
