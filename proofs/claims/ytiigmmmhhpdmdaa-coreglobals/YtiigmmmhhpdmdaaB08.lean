/-
  The modules SpcB, SpcC, Phase, one behind another.
-/
import Derived.Orders
import Derived.Test.YtiigmmmhhpdmdaaB01
import Derived.Test.YtiigmmmhhpdmdaaB07
/-
  Contracts of package space's inner functions: without, granted, isThread; the room's use, free, fits, lay, take.
-/
namespace Go.Proofs.Ytiigmmmhhpdmdaa
open Go.RowKit

/-- All of L get the state z. -/
def useT (n : Nat) (z : Int) (se : Bool) (T : Nat → Fr) (L : List Int) : Nat → Fr := L.foldl (fun T i => setT n T i z false se) T
theorem useT_take {n : Nat} {z : Int} {se : Bool} {T : Nat → Fr} {L : List Int} {k : Nat} (hk : k < L.length) : setT n (useT n z se T (L.take k)) L[k] z false se = useT n z se T (L.take (k + 1)) := by
  unfold useT
  rw [List.take_add_one, List.getElem?_eq_getElem hk, Option.toList_some, List.foldl_append]
  rfl

def fitsB (S : Sp) (fr sp : Int) : Bool := !decide ((cntB S.F S.n : Int) < fr) && ((sp == 0) || (runO S.n S.F fr).isSome || decide (sp ≤ roomF S.K))
/-- Where the next spine lies. -/
def Sp.at (S : Sp) : Int := 8 * S.n + S.K.c * S.K.s + S.K.u

set_option maxHeartbeats 400000 in
theorem without_any (st : Int) (w : World) : Calls Try.prog 52 #[.int .i64 st] w fun e w' => e = .returned (.agg #[.int .i64 st, .slice none 0 0, .int .i64 (-1)]) ∧ Kept w w' := by
  have B0 : Hid (Blk (w.alloc (.cells #[.int .i64 st, .slice none 0 0, .int .i64 (-1)] 64)) w.heap.size [.int .i64 st, .slice none 0 0, .int .i64 (-1)]) := Blk.new w _ _
  go_enter Try.func52, Try.ntmps52
  go_wp2
  (try simp only [Exit.inBlock, Exit.then])
  exact bodyPost_ret_by (results_blk rfl _ _ w.heap.size [_, _, _] rfl B0.out Try.underlying64 (by kernel_rfl)) rfl ⟨rfl, (Kept.refl w).alloc _ _⟩

set_option maxHeartbeats 400000 in
theorem granted_any {x : Option Addr} {l d : Nat} (at_ : Int) (w : World) : Calls Try.prog 55 #[.slice x l d, .int .i64 at_] w fun e w' => e = .returned (.agg #[.int .i64 1, .slice x l d, .int .i64 at_]) ∧ Kept w w' := by
  have B0 : Hid (Blk (w.alloc (.cells #[.int .i64 1, .slice x l d, .int .i64 at_] 64)) w.heap.size [.int .i64 1, .slice x l d, .int .i64 at_]) := Blk.new w _ _
  go_enter Try.func55, Try.ntmps55
  go_wp2
  (try simp only [Exit.inBlock, Exit.then])
  exact bodyPost_ret_by (results_blk rfl _ _ w.heap.size [_, _, _] rfl B0.out Try.underlying64 (by kernel_rfl)) rfl ⟨rfl, (Kept.refl w).alloc _ _⟩

/-- A room's cells. -/
def Ad.room (A : Ad) : List Value := [.pointer (some ⟨A.tb, 0, none⟩), .pointer (some ⟨A.pb, 0, none⟩), .pointer (some ⟨A.lb, 0, none⟩), .pointer (some ⟨A.kb, 0, none⟩), .int .i64 A.C.n0, .int .i64 A.C.n1, .int .i64 A.C.n2, .int .i64 A.C.n3, .int .i64 A.C.n4, .int .i64 A.C.n5, .int .i64 A.C.n6, .int .i64 A.C.n7, .slice A.C.x A.C.l A.C.c]

set_option maxHeartbeats 1000000 in
theorem use_tab {A : Ad} {n : Nat} {T : Nat → Fr} {x : Option Addr} {d : Nat} {G : List Int} (se : Bool) (w : World) (h : Tab w A.tb A.tg n T) (hx : Rdi w x G) (hg : ∀ g o, x = some ⟨g, o, none⟩ → g ≠ A.tg) (hl : G.length ≤ 1000000) :
    Calls Try.prog 54 #[.agg #[.pointer (some ⟨A.tb, 0, none⟩), .pointer (some ⟨A.pb, 0, none⟩), .pointer (some ⟨A.lb, 0, none⟩), .pointer (some ⟨A.kb, 0, none⟩), .int .i64 A.C.n0, .int .i64 A.C.n1, .int .i64 A.C.n2, .int .i64 A.C.n3, .int .i64 A.C.n4, .int .i64 A.C.n5, .int .i64 A.C.n6, .int .i64 A.C.n7, .slice A.C.x A.C.l A.C.c], .slice x G.length d, .bool se] w fun e w' => e = .returned (.tuple #[]) ∧ Tab w' A.tb A.tg n (useT n 2 se T G) ∧ Mut [A.tg] w w' := by
  have lt : A.tg < w.heap.size := h.row.lt
  have HX : Hid (Rdi w x G ∧ ∀ g o, x = some ⟨g, o, none⟩ → g ≠ A.tg) := ⟨hx, hg⟩
  have HT : Hid (Tab w A.tb A.tg n T ∧ A.tg < w.heap.size) := ⟨h, lt⟩
  clear h hx hg lt
  go_enter Try.func54, Try.ntmps54
  go_wp2_with fail
  generalize hW : w.alloc _ = W
  have HB : Hid (Blk W w.heap.size A.room ∧ Kept w W ∧ W.heap.size = w.heap.size + 1) := by
    rw [← hW]
    exact ⟨Blk.new w _ _, (Kept.refl w).alloc _ _, by simp⟩
  clear hW
  go_loopg [10] G.length (fun m i wr => ∃ k : Nat, i = .int .i64 k ∧ k ≤ G.length ∧ m = G.length - k ∧ Hid (Tab wr A.tb A.tg n (useT n 2 se T (G.take k)) ∧ Mut [A.tg] W wr))
  case atStart => exact ⟨0, rfl, by omega, by omega, by simpa [useT] using HT.out.1.kept HB.out.2.1, Mut.refl _ _⟩
  case round =>
    obtain ⟨k, rfl, hk, hm, hw⟩ := hrel
    have HM : Hid _ := hm
    clear hm
    by_cases hlt : k < G.length
    · obtain ⟨g, o, rfl, hgl, hc⟩ := HX.out.1 (by omega)
      have hgw : g ≠ A.tg := HX.out.2 g o rfl
      have B2 : Blk wr w.heap.size A.room := HB.out.1.muts hw.out.2 (by have := HT.out.2; simp; omega)
      have c0 := B2.at 0 rfl
      have a0 : wr.cell? ⟨g, o + k, none⟩ = _ := (hw.out.2.cell (by have := HB.out.2.2; simp; omega) (by simpa using hgw)).trans ((HB.out.2.1.cell hgl).trans (hc k hlt))
      have hst : Hid (setT n (useT n 2 se T (G.take k)) G[k] 2 false se = useT n 2 se T (G.take (k + 1))) := useT_take hlt
      have C := tset_any G[k] 2 false se wr hw.out.1
      rw [hst.out] at C
      clear B2 hc hgw hst
      generalize G[k] = gk' at *
      go_wp2_with fail
      refine C.mono ?_
      rintro e w2 ⟨rfl, t2, m2⟩
      have H2 : Hid (Tab w2 A.tb A.tg n (useT n 2 se T (G.take (k + 1))) ∧ Mut [A.tg] W w2) := ⟨t2, hw.out.2.trans m2⟩
      clear t2 m2 c0 a0 C hw
      go_wp2
      go_roundg (gk - 1)
      all_goals (have := HM.out; try omega)
      exact ⟨k + 1, by go_num, by omega, by omega, H2⟩
    · obtain rfl : k = G.length := by omega
      go_wp2
      go_end0
      have e1 : G.take G.length = G := List.take_length
      rw [e1] at hw
      exact ⟨rfl, hw.out.1, (HB.out.2.1.mut).trans hw.out.2⟩

section
variable {c : Nat → Nat} {A : Ad} {S : Sp}
theorem use_any {x : Option Addr} {d : Nat} {G : List Int} (se : Bool) (w : World) (h : SH w c A S) (hx : Rdi w x G) (hg : ∀ g o, x = some ⟨g, o, none⟩ → c g ≠ 1) (hl : G.length ≤ 1000000) :
    Calls Try.prog 54 #[.agg #[.pointer (some ⟨A.tb, 0, none⟩), .pointer (some ⟨A.pb, 0, none⟩), .pointer (some ⟨A.lb, 0, none⟩), .pointer (some ⟨A.kb, 0, none⟩), .int .i64 A.C.n0, .int .i64 A.C.n1, .int .i64 A.C.n2, .int .i64 A.C.n3, .int .i64 A.C.n4, .int .i64 A.C.n5, .int .i64 A.C.n6, .int .i64 A.C.n7, .slice A.C.x A.C.l A.C.c], .slice x G.length d, .bool se] w fun e w' => e = .returned (.tuple #[]) ∧ SH w' c A { S with T := useT S.n 2 se S.T G } ∧ Stp c w c w' ∧ Mut [A.tg] w w' := by
  refine (use_tab (d := d) se w h.tab hx (fun g o e q => hg g o e (by rw [q, h.ctg])) hl).mono ?_
  rintro e w' ⟨rfl, t, m⟩
  exact ⟨rfl, h.tabs t m, h.stpt m, m⟩

set_option maxHeartbeats 1000000 in
theorem fits_any (fr sp : Int) (w : World) (h : SH w c A S) :
    Calls Try.prog 57 #[.agg #[.pointer (some ⟨A.tb, 0, none⟩), .pointer (some ⟨A.pb, 0, none⟩), .pointer (some ⟨A.lb, 0, none⟩), .pointer (some ⟨A.kb, 0, none⟩), .int .i64 A.C.n0, .int .i64 A.C.n1, .int .i64 A.C.n2, .int .i64 A.C.n3, .int .i64 A.C.n4, .int .i64 A.C.n5, .int .i64 A.C.n6, .int .i64 A.C.n7, .slice A.C.x A.C.l A.C.c], .int .i64 fr, .int .i64 sp] w fun e w' => e = .returned (.bool (fitsB S fr sp)) ∧ Kept w w' := by
  have HS : Hid (SH w c A S) := h
  clear h
  go_enter Try.func57, Try.ntmps57
  go_wp2_with fail
  generalize hW : w.alloc _ = W
  have HB : Hid (Blk W w.heap.size A.room ∧ Kept w W) := by
    rw [← hW]
    exact ⟨Blk.new w _ _, (Kept.refl w).alloc _ _⟩
  clear hW
  have c1 := HB.out.1.at 1 rfl
  have H1 : Hid (SH W c A S) := HS.out.kept HB.out.2
  go_wp2_with fail
  refine (pfree_any W H1.out.pool).mono ?_
  rintro e w2 ⟨rfl, e2⟩
  rw [e2]
  clear e2
  have HF : Hid (fitsB S fr sp = (!decide ((cntB S.F S.n : Int) < fr) && ((sp == 0) || (runO S.n S.F fr).isSome || decide (sp ≤ roomF S.K)))) := rfl
  by_cases hlt : (cntB S.F S.n : Int) < fr
  · go_wp2
    go_ret
    exact ⟨by simp [HF.out, hlt], HB.out.2⟩
  · go_wp2_with fail
    refine (prun_any fr W H1.out.pool).mono ?_
    rintro e w3 ⟨rfl, e3⟩
    rw [e3]
    clear e3
    have c3 := HB.out.1.at 3 rfl
    have R := kroom_any W H1.out.coil
    generalize (runO S.n S.F fr) = R0 at *
    generalize roomF S.K = r0 at *
    by_cases h0 : sp = 0
    · subst h0
      go_wp2
      go_ret
      exact ⟨by simp [HF.out, hlt], HB.out.2⟩
    · have q0 : (sp == 0) = false := by simpa using h0
      cases hr : R0.isSome
      · rw [hr] at HF
        go_wp2_with fail
        refine R.mono ?_
        rintro e w4 ⟨rfl, k4⟩
        have K4 : Hid (Kept w w4) := HB.out.2.trans k4
        clear k4 R c1 c3
        go_wp2
        go_ret
        exact ⟨by simp [HF.out, hlt, q0], K4.out⟩
      · rw [hr] at HF
        go_wp2
        go_ret
        exact ⟨by simp [HF.out, hlt], HB.out.2⟩

set_option maxHeartbeats 1000000 in
theorem lay_any (sp : Int) (w : World) (h : SH w c A S) (ht : takes S.K sp = true) :
    Calls Try.prog 99 #[.agg #[.pointer (some ⟨A.tb, 0, none⟩), .pointer (some ⟨A.pb, 0, none⟩), .pointer (some ⟨A.lb, 0, none⟩), .pointer (some ⟨A.kb, 0, none⟩), .int .i64 A.C.n0, .int .i64 A.C.n1, .int .i64 A.C.n2, .int .i64 A.C.n3, .int .i64 A.C.n4, .int .i64 A.C.n5, .int .i64 A.C.n6, .int .i64 A.C.n7, .slice A.C.x A.C.l A.C.c], .int .i64 sp] w fun e w' => e = .returned (.int .i64 S.at) ∧ SH w' c A { S with K := takeS S.K sp } ∧ Stp c w c w' ∧ Mut [A.kb] w w' := by
  have HS : Hid (SH w c A S) := h
  have HT : Hid (takes S.K sp = true) := ht
  clear h ht
  go_enter Try.func99, Try.ntmps99
  go_wp2_with fail
  generalize hW : w.alloc _ = W
  have HB : Hid (Blk W w.heap.size A.room ∧ Kept w W) := by
    rw [← hW]
    exact ⟨Blk.new w _ _, (Kept.refl w).alloc _ _⟩
  clear hW
  have c3 := HB.out.1.at 3 rfl
  have H1 : Hid (SH W c A S) := HS.out.kept HB.out.2
  have TA : Hid (takeA S.K sp = (S.K.u : Int) ∧ (takeS S.K sp).s = S.K.s ∧ (takeS S.K sp).c = S.K.c ∧ S.K.u < S.K.s ∧ (S.K.c = 0 ∨ S.K.c = 1)) := by
    obtain ⟨m, rfl, q1, q2, q3⟩ := takes_room HT.out
    refine ⟨by simp [takeA, HT.out], ?_, ?_, by omega, HS.out.coil.ok.two⟩
    · simp only [takeS, HT.out, if_true, putU]; split <;> rfl
    · simp only [takeS, HT.out, if_true, putU]; split <;> rfl
  go_wp2_with fail
  have C := ktake_any sp W H1.out.coil
  rw [TA.out.1] at C
  refine C.mono ?_
  rintro e w2 ⟨rfl, t2, m2⟩
  have H2 : Hid (SH w2 c A { S with K := takeS S.K sp } ∧ Stp c w c w2 ∧ Mut [A.kb] w w2) := ⟨H1.out.coils t2 TA.out.2.1 m2, (Stp.kept HB.out.2).trans (H1.out.stpk m2), HB.out.2.mut.trans m2⟩
  have B2 : Hid (Blk w2 w.heap.size A.room) := HB.out.1.muts m2 (fun q => by
    simp only [List.mem_singleton] at q
    have h1 := HS.out.new (k := w.heap.size) (Nat.le_refl _)
    have h2 := HS.out.ckb
    rw [← q, h1] at h2; cases h2)
  clear c3 C t2 m2 HB H1
  have L2 := B2.out.lt
  have d3 := fun z : KW w2 => z.cell (a := ⟨w.heap.size, 3, none⟩) L2 (B2.out.at 3 rfl)
  have f0 := fun z : KW w2 => z.cell (a := ⟨w.heap.size, 4, none⟩) L2 (B2.out.at 4 rfl)
  have f1 := fun z : KW w2 => z.cell (a := ⟨w.heap.size, 5, none⟩) L2 (B2.out.at 5 rfl)
  have f2 := fun z : KW w2 => z.cell (a := ⟨w.heap.size, 6, none⟩) L2 (B2.out.at 6 rfl)
  have f3 := fun z : KW w2 => z.cell (a := ⟨w.heap.size, 7, none⟩) L2 (B2.out.at 7 rfl)
  have f4 := fun z : KW w2 => z.cell (a := ⟨w.heap.size, 8, none⟩) L2 (B2.out.at 8 rfl)
  have f5 := fun z : KW w2 => z.cell (a := ⟨w.heap.size, 9, none⟩) L2 (B2.out.at 9 rfl)
  have f6 := fun z : KW w2 => z.cell (a := ⟨w.heap.size, 10, none⟩) L2 (B2.out.at 10 rfl)
  have f7 := fun z : KW w2 => z.cell (a := ⟨w.heap.size, 11, none⟩) L2 (B2.out.at 11 rfl)
  have f8 := fun z : KW w2 => z.cell (a := ⟨w.heap.size, 12, none⟩) L2 (B2.out.at 12 rfl)
  have CC : Hid (∀ z : KW w2, Calls Try.prog 116 #[.pointer (some ⟨A.kb, 0, none⟩)] z.it fun e w' => e = .returned (.int .i64 (S.K.c : Int)) ∧ w' = z.it) := fun z => by
    have := kcurrent_any z.it (H2.out.1.kept z.ok).coil
    rwa [show ({ S with K := takeS S.K sp } : Sp).K.c = S.K.c from TA.out.2.2.1] at this
  have AT : At (Good A.C.n0 A.C.n1 A.C.n2 A.C.n3 A.C.n4 A.C.n5 A.C.n6 A.C.n7 A.C.l A.C.S ∧ (0 ≤ (S.K.c : Int) ∧ (S.K.c : Int) < 2) ∧ (0 ≤ (S.K.u : Int) ∧ (S.K.u : Int) < A.C.n1)) (8 * A.C.n0 + S.K.c * A.C.n1 + S.K.u) S.at 0 := by
    have hn0 := HS.out.n0
    have hn1 := HS.out.n1
    have e1 : S.at = 8 * A.C.n0 + S.K.c * A.C.n1 + S.K.u := by rw [hn0, hn1]; rfl
    rw [e1]
    exact At.is _ ⟨HS.out.good, by rcases TA.out.2.2.2.2 with q | q <;> rw [q] <;> decide, by have := TA.out.2.2.2.1; omega⟩
  have CP : Hid (∀ z : KW w2, _) := fun z : KW w2 => spine_any A.C.n0 A.C.n1 A.C.n2 A.C.n3 A.C.n4 A.C.n5 A.C.n6 A.C.n7 A.C.x A.C.l A.C.c A.C.S S.K.c S.K.u S.at 0 z.it (H2.out.1.kept z.ok).shp AT
  clear AT
  generalize hsa : S.at = sa at *
  have HSA : Hid (S.at = sa) := hsa
  clear hsa
  go_wp2_with fail
  refine wp_region_kept (by kernel_rfl) (by kernel_rfl) fun _ => ?_
  repeat (go_big_quiet_step (first | (go_at_call 116; exact kept_of_same (CC.out _)) | (go_at_call 115; exact kept_of (CP.out _))))
  refine wpQuiet_nil ?_
  rintro _ ⟨z, rfl⟩
  have H4 : Hid (SH z.it c A { S with K := takeS S.K sp } ∧ Stp c w c z.it ∧ Mut [A.kb] w z.it) := ⟨H2.out.1.kept z.ok, H2.out.2.1.trans (Stp.kept z.ok), H2.out.2.2.trans z.ok.mut⟩
  clear H2 d3 f0 f1 f2 f3 f4 f5 f6 f7 f8 CC CP
  go_wp2
  go_ret
  exact ⟨by rw [HSA.out]; rfl, H4.out⟩
end
end Go.Proofs.Ytiigmmmhhpdmdaa

/-
  The room's take: what is taken is a run if there is one; the spine is laid where there is none.
-/
namespace Go.Proofs.Ytiigmmmhhpdmdaa
open Go.RowKit

/-- What is taken, as whole numbers. -/
def takeZ (n : Nat) (F : Nat → Bool) (k : Int) : List Int := (takeL n F k).map fun x : Nat => (x : Int)
theorem Got.lst {w : World} {base : Nat} {v : Value} {T : List Nat} (h : Got w base v T) : Lst w base v (T.map fun x : Nat => (x : Int)) := by
  unfold Got at h
  unfold Lst
  simpa [List.map_map, Function.comp_def] using h

theorem sideU_range (a : Nat) : ∀ k, sideU (fun j => ((a + j : Nat) : Int)) k = true
  | 0 => rfl
  | k + 1 => by
    simp only [sideU, sideU_range a k, Bool.true_and, Bool.or_eq_true, beq_iff_eq]
    omega
theorem sideU_congr {L M : Nat → Int} : ∀ {k : Nat}, (∀ j, j < k → L j = M j) → sideU L k = sideU M k
  | 0, _ => rfl
  | k + 1, h => by
    simp only [sideU]
    rw [sideU_congr fun j hj => h j (by omega), h k (by omega), h (k - 1) (by omega)]
theorem sideU_step {L : Nat → Int} : ∀ {k : Nat}, sideU L k = true → ∀ j, j < k → L j = L 0 + j
  | 0, _, j, hj => by omega
  | k + 1, h, j, hj => by
    simp only [sideU, Bool.and_eq_true, Bool.or_eq_true, beq_iff_eq] at h
    have ih := sideU_step h.1
    by_cases e : j = k
    · subst e
      by_cases e0 : j = 0
      · subst e0; simp
      · have h1 := ih (j - 1) (by omega)
        rcases h.2 with q | q
        · omega
        · rw [q, h1]; omega
    · exact ih j (by omega)

/-- The numbers of a list. -/
def nth (L : List Int) (j : Nat) : Int := (L[j]?).getD 0
theorem nth_at {L : List Int} {j : Nat} (h : j < L.length) : nth L j = L[j] := by simp [nth, h]
theorem Rdi.rdf {w : World} {x : Option Addr} {L : List Int} (h : Rdi w x L) : Rdf w x L.length (nth L) := fun h0 => by
  obtain ⟨g, o, e, hl, hc⟩ := h h0
  exact ⟨g, o, e, hl, fun j hj => by rw [nth_at hj]; exact hc j hj⟩

/-- Side by side is what is taken just where a run is free. -/
theorem takeL_side {n : Nat} {F : Nat → Bool} {k : Int} (h : takeB n F k = true) : sideU (nth (takeZ n F k)) (takeZ n F k).length = (runO n F k).isSome := by
  have hl : (takeZ n F k).length = k.toNat := by simp [takeZ, takeL_len h]
  have hk : 1 ≤ k ∧ k ≤ cntB F n := by simpa [takeB] using h
  rw [hl]
  cases hr : runO n F k with
  | some a =>
    have e : takeL n F k = List.range' a k.toNat := by rw [takeL, if_pos h, hr]
    rw [sideU_congr (M := fun j => ((a + j : Nat) : Int)) fun j hj => by simp [nth, takeZ, e, hj], sideU_range]
    rfl
  | none =>
    show _ = false
    cases hs : sideU (nth (takeZ n F k)) k.toNat
    · rfl
    · exfalso
      have e : takeL n F k = lowL n F k := by rw [takeL, if_pos h, hr]
      have hlen : (lowL n F k).length = k.toNat := by rw [lowL_len]; omega
      have hst := sideU_step hs
      have hmem : ∀ j, (hj : j < (lowL n F k).length) → (lowL n F k)[j] < n ∧ F ((lowL n F k)[j]) = true := fun j hj => by
        have : (lowL n F k)[j] ∈ lowL n F k := List.getElem_mem hj
        have := List.mem_of_mem_take this
        have := freeU_mem.1 this
        exact this.2
      have h0 : 0 < (lowL n F k).length := by omega
      have hval : ∀ j, (hj : j < (lowL n F k).length) → (lowL n F k)[j] = (lowL n F k)[0] + j := fun j hj => by
        have q := hst j (by omega)
        have q1 : nth (takeZ n F k) j = ((lowL n F k)[j] : Nat) := by simp [nth, takeZ, e, hj]
        have q2 : nth (takeZ n F k) 0 = ((lowL n F k)[0] : Nat) := by simp [nth, takeZ, e, h0]
        rw [q1, q2] at q
        omega
      have hrun : runsB F ((lowL n F k)[0]) k.toNat = true := prunsB_iff.2 fun j hj => by
        have := (hmem j (by omega)).2
        rwa [hval j (by omega)] at this
      have htop := (hmem (k.toNat - 1) (by omega)).1
      rw [hval (k.toNat - 1) (by omega)] at htop
      have hk1 : 1 ≤ k ∧ k ≤ n := ⟨hk.1, by have := cntB_le F n; omega⟩
      rw [runO, if_pos hk1] at hr
      have := topR_non hr ((lowL n F k)[0]) (by omega)
      rw [hrun] at this
      cases this

/-- What take leaves and answers. -/
def Sp.tk (S : Sp) (fr sp : Int) (se : Bool) : Sp :=
  { S with T := useT S.n 2 se S.T (takeZ S.n S.F fr), F := dropF S.F (takeL S.n S.F fr), K := if sp == 0 || (runO S.n S.F fr).isSome then S.K else takeS S.K sp }
def Sp.tkA (S : Sp) (fr sp : Int) : Int := if sp == 0 || (runO S.n S.F fr).isSome then -1 else S.at

section
variable {c : Nat → Nat} {A : Ad} {S : Sp}
theorem fits_takes {fr sp : Int} (h : fitsB S fr sp = true) (hf : 1 ≤ fr) (hs : 0 ≤ sp) : takeB S.n S.F fr = true ∧ ((sp == 0 || (runO S.n S.F fr).isSome) = false → takes S.K sp = true) := by
  simp only [fitsB, Bool.and_eq_true, Bool.not_eq_true', decide_eq_false_iff_not, Bool.or_eq_true, beq_iff_eq, decide_eq_true_eq] at h
  refine ⟨by simp [takeB]; omega, fun q => ?_⟩
  simp only [Bool.or_eq_false_iff, beq_eq_false_iff_ne, ne_eq] at q
  rcases h.2 with (q1 | q1) | q1
  · exact absurd q1 q.1
  · rw [q.2] at q1; cases q1
  · simp [takes]; omega

set_option maxHeartbeats 2000000 in
theorem wtake_any (fr sp : Int) (se : Bool) (w : World) (h : SH w c A S) (ht : fitsB S fr sp = true) (hf : 1 ≤ fr) (hs : 0 ≤ sp) :
    Calls Try.prog 58 #[.agg #[.pointer (some ⟨A.tb, 0, none⟩), .pointer (some ⟨A.pb, 0, none⟩), .pointer (some ⟨A.lb, 0, none⟩), .pointer (some ⟨A.kb, 0, none⟩), .int .i64 A.C.n0, .int .i64 A.C.n1, .int .i64 A.C.n2, .int .i64 A.C.n3, .int .i64 A.C.n4, .int .i64 A.C.n5, .int .i64 A.C.n6, .int .i64 A.C.n7, .slice A.C.x A.C.l A.C.c], .int .i64 fr, .int .i64 sp, .bool se] w fun e w' => ∃ x d, e = .returned (.tuple #[.slice x (takeZ S.n S.F fr).length d, .int .i64 (S.tkA fr sp)]) ∧
      SH w' c A (S.tk fr sp se) ∧ Stp c w c w' ∧ Rdi w' x (takeZ S.n S.F fr) ∧ ∀ g o, x = some ⟨g, o, none⟩ → w.heap.size ≤ g := by
  have HS : Hid (SH w c A S) := h
  obtain ⟨hT, hP⟩ := fits_takes ht hf hs
  have HP : Hid ((sp == 0 || (runO S.n S.F fr).isSome) = false → takes S.K sp = true) := hP
  have HD : Hid (sideU (nth (takeZ S.n S.F fr)) (takeZ S.n S.F fr).length = (runO S.n S.F fr).isSome) := takeL_side hT
  have HL : Hid ((takeZ S.n S.F fr).length ≤ 1024 ∧ ∀ j, j < (takeZ S.n S.F fr).length → IntKind.min .i64 ≤ nth (takeZ S.n S.F fr) j ∧ nth (takeZ S.n S.F fr) j ≤ IntKind.max .i64) := by
    have hk : 1 ≤ fr ∧ fr ≤ cntB S.F S.n := by simpa [takeB] using hT
    have h1 := cntB_le S.F S.n
    have h2 := h.pool.few
    have hl : (takeZ S.n S.F fr).length = fr.toNat := by simp [takeZ, takeL_len hT]
    refine ⟨by omega, fun j hj => ?_⟩
    have hm : ∀ x ∈ takeL S.n S.F fr, x ≤ 1024 := fun x hx => by
      rw [takeL, if_pos hT] at hx
      cases hr : runO S.n S.F fr with
      | none =>
        rw [hr] at hx
        have := (freeU_mem.1 (List.mem_of_mem_take hx)).2.1
        omega
      | some a =>
        rw [hr] at hx
        obtain ⟨m, e1, _, e3, _⟩ := runO_inv hr
        simp only [List.mem_range'_1] at hx
        omega
    have hj2 : j < (takeL S.n S.F fr).length := by simpa [takeZ] using hj
    have e : nth (takeZ S.n S.F fr) j = ((takeL S.n S.F fr)[j] : Nat) := by simp [nth, takeZ, hj2]
    have := hm _ (List.getElem_mem hj2)
    rw [e]
    have e2 : IntKind.min .i64 = -9223372036854775808 := by decide
    have e3 : IntKind.max .i64 = 9223372036854775807 := by decide
    rw [e2, e3]
    constructor <;> omega
  have HA : Hid (S.tkA fr sp = if sp == 0 || (runO S.n S.F fr).isSome then -1 else S.at) := rfl
  have HK : Hid (S.tk fr sp se = { S with T := useT S.n 2 se S.T (takeZ S.n S.F fr), F := dropF S.F (takeL S.n S.F fr), K := if sp == 0 || (runO S.n S.F fr).isSome then S.K else takeS S.K sp }) := rfl
  have HT : Hid (takeB S.n S.F fr = true) := hT
  clear h ht hP hT hf hs
  go_enter Try.func58, Try.ntmps58
  go_wp2_with fail
  generalize hW : w.alloc _ = W
  have HB : Hid (Blk W w.heap.size A.room ∧ Kept w W ∧ W.heap.size = w.heap.size + 1) := by
    rw [← hW]
    exact ⟨Blk.new w _ _, (Kept.refl w).alloc _ _, by simp⟩
  clear hW
  have c1 := HB.out.1.at 1 rfl
  have H1 : Hid (SH W c A S) := HS.out.kept HB.out.2.1
  have CT := ptake_any fr W H1.out.pool
  rw [HT.out] at CT
  go_wp2_with fail
  refine CT.mono ?_
  rintro e w2 ⟨v, rfl, g2, t2, m2⟩
  have l2 := Got.lst g2
  rw [show ((takeL S.n S.F fr).map fun x : Nat => (x : Int)) = takeZ S.n S.F fr from rfl] at l2
  obtain ⟨x, d, rfl⟩ := l2.form
  have NW : Hid (∀ k, w.heap.size ≤ k → c k = 0) := fun k hk => HS.out.new hk
  have H2 : Hid (SH w2 c A { S with F := dropF S.F (takeL S.n S.F fr) } ∧ Stp c w c w2 ∧ Lst w2 W.heap.size (.slice x (takeZ S.n S.F fr).length d) (takeZ S.n S.F fr) ∧ Blk w2 w.heap.size A.room) :=
    ⟨H1.out.pools t2 m2, (Stp.kept HB.out.2.1).trans (H1.out.stpp m2), l2, HB.out.1.muts m2 (fun q => by
      simp only [List.mem_singleton] at q
      have h1 := HS.out.new (k := w.heap.size) (Nat.le_refl _)
      have h2 := HS.out.cpg
      rw [← q, h1] at h2; cases h2)⟩
  have HX : Hid (∀ g o, x = some ⟨g, o, none⟩ → W.heap.size ≤ g) := fun g o e => by
    subst e
    exact (l2.lt g rfl).1
  clear c1 CT g2 t2 m2 l2
  have b0 := H2.out.2.2.2.at 0 rfl
  have b1 := H2.out.2.2.2.at 1 rfl
  have b2 := H2.out.2.2.2.at 2 rfl
  have b3 := H2.out.2.2.2.at 3 rfl
  have b4 := H2.out.2.2.2.at 4 rfl
  have b5 := H2.out.2.2.2.at 5 rfl
  have b6 := H2.out.2.2.2.at 6 rfl
  have b7 := H2.out.2.2.2.at 7 rfl
  have b8 := H2.out.2.2.2.at 8 rfl
  have b9 := H2.out.2.2.2.at 9 rfl
  have b10 := H2.out.2.2.2.at 10 rfl
  have b11 := H2.out.2.2.2.at 11 rfl
  have b12 := H2.out.2.2.2.at 12 rfl
  have CU := use_any (d := d) se w2 H2.out.1 H2.out.2.2.1.rdi (fun g o e q => by rw [NW.out g (by have := HX.out g o e; have := HB.out.2.2; omega)] at q; cases q) (by have := HL.out.1; omega)
  generalize hG : takeZ S.n S.F fr = G at *
  have HG : Hid (takeZ S.n S.F fr = G) := hG
  clear hG
  go_wp2_with fail
  refine CU.mono ?_
  rintro e w3 ⟨rfl, s3, p3, m3⟩
  have H3 : Hid (SH w3 c A { S with T := useT S.n 2 se S.T G, F := dropF S.F (takeL S.n S.F fr) } ∧ Stp c w c w3 ∧ Lst w3 W.heap.size (.slice x G.length d) G ∧ Blk w3 w.heap.size A.room) := by
    refine ⟨s3, H2.out.2.1.trans p3, H2.out.2.2.1.muts m3 (fun k hk q => ?_), H2.out.2.2.2.muts m3 (fun q => ?_)⟩
    · simp only [List.mem_singleton] at q
      have h1 := NW.out k (by have := (H2.out.2.2.1.lt k hk).1; have := HB.out.2.2; omega)
      have h2 := HS.out.ctg
      rw [← q, h1] at h2; cases h2
    · simp only [List.mem_singleton] at q
      have h1 := NW.out w.heap.size (Nat.le_refl _)
      have h2 := HS.out.ctg
      rw [← q, h1] at h2; cases h2
  clear b0 b1 b2 b3 b4 b5 b6 b7 b8 b9 b10 b11 b12 CU s3 p3 m3
  have FIN : Hid (∀ w' : World, (sp == 0 || (runO S.n S.F fr).isSome) = true → Kept w3 w' → SH w' c A (S.tk fr sp se) ∧ Stp c w c w' ∧ Rdi w' x G ∧ ∀ g o, x = some ⟨g, o, none⟩ → w.heap.size ≤ g) := fun w' hb k => by
    refine ⟨?_, H3.out.2.1.trans (Stp.kept k), H3.out.2.2.1.rdi.kept k, fun g o e => by have := HX.out g o e; have := HB.out.2.2; omega⟩
    rw [HK.out, hb]
    exact H3.out.1.kept k
  have CS := side_any (c := d) w3 (by have := HL.out.1; omega) H3.out.2.2.1.rdi.rdf HL.out.2
  rw [HD.out] at CS
  by_cases h0 : sp = 0
  · subst h0
    have e1 : Hid (S.tkA fr 0 = -1) := by rw [HA.out]; rfl
    clear CS
    go_wp2
    go_ret2
    exact ⟨x, d, by rw [e1.out, HG.out]; rfl, HG.out ▸ FIN.out w3 (by simp) (Kept.refl _)⟩
  · have q0 : (sp == 0) = false := by simpa using h0
    cases hr : (runO S.n S.F fr).isSome
    · have ht : takes S.K sp = true := HP.out (by rw [q0, hr]; rfl)
      have e1 : Hid (S.tkA fr sp = S.at) := by rw [HA.out, q0, hr]; rfl
      rw [hr] at CS
      go_wp2_with fail
      refine CS.mono ?_
      rintro e w4 ⟨rfl, k4⟩
      have H4 : Hid (SH w4 c A { S with T := useT S.n 2 se S.T G, F := dropF S.F (takeL S.n S.F fr) } ∧ Stp c w c w4 ∧ Lst w4 W.heap.size (.slice x G.length d) G ∧ Blk w4 w.heap.size A.room) :=
        ⟨H3.out.1.kept k4, H3.out.2.1.trans (Stp.kept k4), H3.out.2.2.1.kept k4, H3.out.2.2.2.kept k4⟩
      clear k4 CS H3
      have b0 := H4.out.2.2.2.at 0 rfl
      have b1 := H4.out.2.2.2.at 1 rfl
      have b2 := H4.out.2.2.2.at 2 rfl
      have b3 := H4.out.2.2.2.at 3 rfl
      have b4 := H4.out.2.2.2.at 4 rfl
      have b5 := H4.out.2.2.2.at 5 rfl
      have b6 := H4.out.2.2.2.at 6 rfl
      have b7 := H4.out.2.2.2.at 7 rfl
      have b8 := H4.out.2.2.2.at 8 rfl
      have b9 := H4.out.2.2.2.at 9 rfl
      have b10 := H4.out.2.2.2.at 10 rfl
      have b11 := H4.out.2.2.2.at 11 rfl
      have b12 := H4.out.2.2.2.at 12 rfl
      have CL := lay_any sp w4 H4.out.1 ht
      rw [show ({ S with T := useT S.n 2 se S.T G, F := dropF S.F (takeL S.n S.F fr) } : Sp).at = S.at from rfl] at CL
      generalize hsa : S.at = sa at *
      have HSA : Hid (S.at = sa) := hsa
      clear hsa
      go_wp2_with fail
      refine CL.mono ?_
      rintro e w5 ⟨rfl, s5, p5, m5⟩
      have H5 : Hid (SH w5 c A (S.tk fr sp se) ∧ Stp c w c w5 ∧ Rdi w5 x G ∧ ∀ g o, x = some ⟨g, o, none⟩ → w.heap.size ≤ g) := by
        refine ⟨?_, H4.out.2.1.trans p5, (H4.out.2.2.1.muts m5 (fun k hk q => ?_)).rdi, fun g o e => by have := HX.out g o e; have := HB.out.2.2; omega⟩
        · rw [HK.out, q0, hr]
          exact s5
        · simp only [List.mem_singleton] at q
          have h1 := NW.out k (by have := (H4.out.2.2.1.lt k hk).1; have := HB.out.2.2; omega)
          have h2 := HS.out.ckb
          rw [← q, h1] at h2; cases h2
      clear b0 b1 b2 b3 b4 b5 b6 b7 b8 b9 b10 b11 b12 CL s5 p5 m5
      go_wp2
      go_ret2
      exact ⟨x, d, by rw [e1.out, HG.out]; rfl, HG.out ▸ H5.out⟩
    · have e1 : Hid (S.tkA fr sp = -1) := by rw [HA.out, q0, hr]; rfl
      rw [hr] at CS
      have HR0 : (sp == 0 || (runO S.n S.F fr).isSome) = true := by rw [hr]; simp
      have HR : Hid ((sp == 0 || (runO S.n S.F fr).isSome) = true) := HR0
      clear hr HR0
      go_wp2_with fail
      refine CS.mono ?_
      rintro e w4 ⟨rfl, k4⟩
      have H5 : Hid _ := FIN.out w4 HR.out k4
      clear k4 CS H3
      go_wp2
      go_ret2
      exact ⟨x, d, by rw [e1.out, HG.out]; rfl, HG.out ▸ H5.out⟩
end
end Go.Proofs.Ytiigmmmhhpdmdaa

/-
  A region that draws its order, each of whose operations leaves a value that is known, and some of which turn the world (calls that write): walked once for each operation, whatever the order. 'J d' is what is known of the world when the operations of d have been carried out.
-/
namespace Go.Proofs.Ytiigmmmhhpdmdaa
open Go.RowKit

def done (d : Nat → Bool) (k : Nat) : Nat → Bool := fun j => if j = k then true else d j

/-- Each operation waits for earlier ones alone. -/
def backB (ops : Array Oper) : Bool := (List.range ops.size).all fun i => match ops[i]? with
  | some o => o.after.all fun e => decide (e.on < i)
  | none => false

theorem backB_spec {ops : Array Oper} (h : backB ops = true) {i : Nat} {o : Oper} (ho : ops[i]? = some o) {e : Edge} (he : e ∈ o.after) : e.on < i := by
  have hi : i < ops.size := (Array.getElem?_eq_some_iff.1 ho).1
  have h1 := List.all_eq_true.1 h i (List.mem_range.2 hi)
  simp only [ho] at h1
  have h2 := Array.all_eq_true'.1 h1 e he
  simpa using h2

theorem listed_of_ready {ops : Array Oper} (hb : backB ops = true) {listed : Array Bool} (hs : listed.size = ops.size) (hr : Region.ready .any ops listed = []) : ∀ n i, i < n → i < ops.size → listed.getD i false = true := by
  intro n
  induction n with
  | zero => intro i hi; omega
  | succ n ih =>
    intro i hi hio
    by_cases hin : i < n
    · exact ih i hin hio
    · obtain rfl : i = n := by omega
      cases hl : listed.getD i false with
      | true => rfl
      | false =>
        have hu : listed.getD i true = false := by
          have : i < listed.size := by omega
          simp [this] at hl ⊢
          exact hl
        have : i ∈ Region.ready .any ops listed := mem_ready.2 ⟨hu, _, Array.getElem?_eq_getElem hio, fun e he _ => ih e.on (backB_spec hb (Array.getElem?_eq_getElem hio) he) (by have := backB_spec hb (Array.getElem?_eq_getElem hio) he; omega)⟩
        rw [hr] at this
        cases this

/-- No two operations write one slot; each slot is there. -/
def slotsB (n : Nat) (l : List Oper) : Bool := decide (l.filterMap (·.dst)).Nodup && (l.filterMap (·.dst)).all fun s => decide (s < n)

theorem slots_inj : ∀ {l : List Oper}, (l.filterMap (·.dst)).Nodup → ∀ {i j : Nat} {x y : Oper} {s : Nat}, l[i]? = some x → l[j]? = some y → x.dst = some s → y.dst = some s → i = j
  | [], _, i, _, _, _, _, hi, _, _, _ => by simp at hi
  | o :: l, h, i, j, x, y, s, hi, hj, hx, hy => by
    have mem : ∀ {k : Nat} {z : Oper}, l[k]? = some z → z.dst = some s → s ∈ l.filterMap (·.dst) := fun {k z} hk hz => List.mem_filterMap.2 ⟨z, List.mem_of_getElem? hk, hz⟩
    cases i with
    | zero =>
      cases j with
      | zero => rfl
      | succ j =>
        simp at hi hj
        subst hi
        simp only [List.filterMap_cons, hx, List.nodup_cons] at h
        exact absurd (mem hj hy) h.1
    | succ i =>
      cases j with
      | zero =>
        simp at hi hj
        subst hj
        simp only [List.filterMap_cons, hy, List.nodup_cons] at h
        exact absurd (mem hi hx) h.1
      | succ j =>
        simp at hi hj
        have h' : (l.filterMap (·.dst)).Nodup := by
          rw [List.filterMap_cons] at h
          split at h
          · exact h
          · exact (List.nodup_cons.1 h).2
        rw [slots_inj h' hi hj hx hy]

/-- The frame when the operations of d have been carried out. -/
structure Held (a0 a : Act) (l : List Oper) (d : Nat → Bool) (vals : List Value) : Prop where
  defers : a.defers = a0.defers
  size : a.tmps.size = a0.tmps.size
  did : ∀ i o s, l[i]? = some o → o.dst = some s → d i = true → a.tmps[s]? = some (vals.getD i undef)
  rest : ∀ s, (∀ i o, l[i]? = some o → o.dst = some s → d i = false) → a.tmps[s]? = a0.tmps[s]?

def writesB (l : List Oper) (s : Nat) : Bool := l.any fun o => o.dst == some s

theorem Held.old {a0 a : Act} {l : List Oper} {d : Nat → Bool} {vals : List Value} (h : Held a0 a l d vals) (s : Nat) (hs : writesB l s = false) {v : Value} (hv : a0.tmps[s]? = some v) : a.tmps[s]? = some v := by
  rw [h.rest s fun i o ho he => ?_, hv]
  have := List.any_eq_false.1 hs o (List.mem_of_getElem? ho)
  simp [he] at this

theorem Held.put {a0 a : Act} {l : List Oper} {d : Nat → Bool} {vals : List Value} (h : Held a0 a l d vals) (hn : slotsB a0.tmps.size l = true) {i : Nat} {o : Oper} (ho : l[i]? = some o) : Held a0 (a.put o.dst (vals.getD i undef)) l (done d i) vals := by
  unfold slotsB at hn
  rw [Bool.and_eq_true] at hn
  have nd : (l.filterMap (·.dst)).Nodup := of_decide_eq_true hn.1
  cases hd : o.dst with
  | none =>
    refine ⟨h.defers, h.size, fun j x s hj hx hdj => ?_, fun s hs => h.rest s fun j x hj hx => ?_⟩
    · by_cases e : j = i
      · subst e
        rw [ho] at hj
        obtain rfl : o = x := by simpa using hj
        rw [hd] at hx
        cases hx
      · exact h.did j x s hj hx (by simpa [done, e] using hdj)
    · have := hs j x hj hx
      by_cases e : j = i
      · subst e; simp [done] at this
      · simpa [done, e] using this
  | some t =>
    have ht : t < a.tmps.size := by
      have := List.all_eq_true.1 hn.2 t (List.mem_filterMap.2 ⟨o, List.mem_of_getElem? ho, hd⟩)
      rw [h.size]
      simpa using this
    refine ⟨h.defers, by simpa [Act.put] using h.size, fun j x s hj hx hdj => ?_, fun s hs => ?_⟩
    · by_cases e : j = i
      · subst e
        rw [ho] at hj
        obtain rfl : o = x := by simpa using hj
        rw [hd] at hx
        obtain rfl : t = s := by simpa using hx
        simp [Act.put, ht]
      · have hne : t ≠ s := fun q => e (slots_inj nd hj ho hx (q ▸ hd))
        have := h.did j x s hj hx (by simpa [done, e] using hdj)
        simp only [Act.put]
        rw [Array.getElem?_setIfInBounds_ne hne]
        exact this
    · have hne : t ≠ s := fun q => by
        have := hs i o ho (q ▸ hd)
        simp [done] at this
      simp only [Act.put]
      rw [Array.getElem?_setIfInBounds_ne hne]
      refine h.rest s fun j x hj hx => ?_
      have := hs j x hj hx
      by_cases e : j = i
      · subst e; simp [done] at this
      · simpa [done, e] using this

theorem wpAny_phase {P : Program} {l : List Oper} {Q : Exit → Act → World → Prop} {a0 : Act} {vals : List Value} {J : (Nat → Bool) → World → Prop} (hb : backB l.toArray = true) (hn : slotsB a0.tmps.size l = true)
    (step : ∀ i o, l[i]? = some o → ∀ a d u, Held a0 a l d vals → J d u → d i = false → (∀ e ∈ o.after, Region.binds .any e = true → d e.on = true) →
      wpOp P l.toArray Q i (fun a' w' => a' = a.put o.dst (vals.getD i undef) ∧ J (done d i) w') a u)
    (fin : ∀ a u d, (∀ i, i < l.length → d i = true) → Held a0 a l d vals → J d u → Q .normal a u) :
    ∀ (fuel : Nat) (listed : Array Bool) (a : Act) (u : World) (d : Nat → Bool), listed.size = l.length → listed.toList.countP (fun b => !b) ≤ fuel → (∀ i, i < l.length → d i = listed.getD i false) → Held a0 a l d vals → J d u →
      wpAny P .any l.toArray Q fuel listed a u := by
  intro fuel
  induction fuel with
  | zero =>
    intro listed a u d hs hc hd hh hj
    have hall : ∀ i, i < l.length → listed.getD i false = true := fun i hi => by
      have h0 : listed.toList.countP (fun b => !b) = 0 := by omega
      have hi' : i < listed.size := by omega
      have := List.countP_eq_zero.1 h0 listed[i] (by simp)
      simpa [hi'] using this
    refine ⟨?_, fin a u d (fun i hi => (hd i hi).trans (hall i hi)) hh hj⟩
    apply List.eq_nil_iff_forall_not_mem.2
    intro j hj'
    obtain ⟨h1, o, ho, _⟩ := mem_ready.1 hj'
    have hjo : j < l.length := by simpa using (Array.getElem?_eq_some_iff.1 ho).1
    have h2 := hall j hjo
    have hj'' : j < listed.size := by omega
    simp [hj''] at h1 h2
    rw [h1] at h2
    cases h2
  | succ fuel ih =>
    intro listed a u d hs hc hd hh hj
    refine ⟨fun hr => fin a u d (fun i hi => (hd i hi).trans (listed_of_ready hb (by simpa using hs) hr l.length i hi (by simpa using hi))) hh hj, fun i hi => ?_⟩
    obtain ⟨h1, o, ho, hdep⟩ := mem_ready.1 hi
    have ho' : l[i]? = some o := by simpa using ho
    have hio : i < l.length := by simpa using (Array.getElem?_eq_some_iff.1 ho).1
    have hil : i < listed.size := by omega
    have hf : d i = false := by
      rw [hd i hio]
      simpa [hil] using h1
    refine wpOp_mono ?_ (step i o ho' a d u hh hj hf fun e he hbn => ?_)
    · rintro a' w' ⟨rfl, hj'⟩
      refine ih (listed.setIfInBounds i true) _ w' (done d i) (by simpa using hs) ?_ (fun j hjl => ?_) (hh.put hn ho') hj'
      · have hfalse : listed[i] = false := by simpa [hil] using h1
        rw [Array.toList_setIfInBounds, List.countP_set (by simpa using hil)]
        simp only [Array.countP_toList] at hc
        simp [hfalse]
        omega
      · by_cases e : j = i
        · subst e
          simp [done, hil]
        · simp only [done, e, if_false]
          rw [hd j hjl, Array.getD_eq_getD_getElem?, Array.getD_eq_getD_getElem?, Array.getElem?_setIfInBounds_ne (Ne.symm e)]
    · have h2 := hdep e he hbn
      have hlt := backB_spec hb ho he
      rw [hd e.on (by omega)]
      exact h2

/-- The frame behind the region, slot by slot: 'ps' has the slots that were written, in their order, each with its operation's number. -/
def patch (vals : List Value) : List (Nat × Nat) → Nat → List Value → List Value
  | p :: ps, i, x :: xs => bif i == p.1 then vals.getD p.2 undef :: patch vals ps (i + 1) xs else x :: patch vals (p :: ps) (i + 1) xs
  | [], _, xs => xs
  | _ :: _, _, [] => []

def fromB : Nat → List (Nat × Nat) → Bool
  | _, [] => true
  | i, p :: ps => decide (i ≤ p.1) && fromB (p.1 + 1) ps

theorem fromB_mem : ∀ {ps : List (Nat × Nat)} {i : Nat}, fromB i ps = true → ∀ p ∈ ps, i ≤ p.1
  | [], _, _, p, hp => by cases hp
  | q :: ps, i, h, p, hp => by
    simp only [fromB, Bool.and_eq_true, decide_eq_true_eq] at h
    rcases List.mem_cons.1 hp with rfl | hp
    · exact h.1
    · have := fromB_mem h.2 p hp
      omega

theorem patch_get (vals : List Value) : ∀ (xs : List Value) (ps : List (Nat × Nat)) (i : Nat), fromB i ps = true → ∀ k, k < xs.length →
    ((∀ p ∈ ps, p.1 = i + k → (patch vals ps i xs)[k]? = some (vals.getD p.2 undef)) ∧ ((∀ p ∈ ps, p.1 ≠ i + k) → (patch vals ps i xs)[k]? = xs[k]?))
  | [], _, _, _, k, hk => by simp at hk
  | x :: xs, [], i, _, k, _ => ⟨(fun p hp => absurd hp (by simp)), fun _ => by simp [patch]⟩
  | x :: xs, q :: ps, i, hf, k, hk => by
    have hf' := hf
    simp only [fromB, Bool.and_eq_true, decide_eq_true_eq] at hf
    by_cases e : i = q.1
    · have hb : (i == q.1) = true := by simpa using e
      have e2 : patch vals (q :: ps) i (x :: xs) = vals.getD q.2 undef :: patch vals ps (i + 1) xs := by simp [patch, hb]
      rw [e2]
      cases k with
      | zero =>
        refine ⟨fun p hp h0 => ?_, fun h => absurd (by simpa using e.symm) (h q (by simp))⟩
        rcases List.mem_cons.1 hp with rfl | hp
        · simp
        · have := fromB_mem hf.2 p hp
          omega
      | succ k =>
        have ih := patch_get vals xs ps (i + 1) (by rw [e]; exact hf.2) k (by simpa using hk)
        refine ⟨fun p hp h0 => ?_, fun h => ?_⟩
        · rcases List.mem_cons.1 hp with rfl | hp
          · omega
          · simpa using ih.1 p hp (by omega)
        · simpa using ih.2 fun p hp => by have := h p (List.mem_cons_of_mem _ hp); omega
    · have hb : (i == q.1) = false := by simpa using e
      have e2 : patch vals (q :: ps) i (x :: xs) = x :: patch vals (q :: ps) (i + 1) xs := by simp [patch, hb]
      rw [e2]
      cases k with
      | zero =>
        refine ⟨fun p hp h0 => ?_, fun _ => by simp⟩
        rcases List.mem_cons.1 hp with rfl | hp
        · omega
        · have := fromB_mem hf.2 p hp
          omega
      | succ k =>
        have ih := patch_get vals xs (q :: ps) (i + 1) (by simp only [fromB, Bool.and_eq_true, decide_eq_true_eq]; exact ⟨by omega, hf.2⟩) k (by simpa using hk)
        exact ⟨fun p hp h0 => by simpa using ih.1 p hp (by omega), fun h => by simpa using ih.2 fun p hp => by have := h p hp; omega⟩

theorem patch_length (vals : List Value) : ∀ (xs : List Value) (ps : List (Nat × Nat)) (i : Nat), (patch vals ps i xs).length = xs.length
  | [], [], _ => rfl
  | [], _ :: _, _ => rfl
  | _ :: _, [], _ => rfl
  | x :: xs, q :: ps, i => by
    cases hb : i == q.1
    · simp [patch, hb, patch_length vals xs (q :: ps) (i + 1)]
    · simp [patch, hb, patch_length vals xs ps (i + 1)]

/-- 'ps' are the slots of the operations. -/
def pairsB (l : List Oper) (ps : List (Nat × Nat)) : Bool :=
  fromB 0 ps && (ps.all fun p => (l[p.2]?).bind (·.dst) == some p.1) && (List.range l.length).all fun i => match (l[i]?).bind (·.dst) with
    | some s => ps.any fun p => p == (s, i)
    | none => true

theorem Held.patched {a0 a : Act} {l : List Oper} {d : Nat → Bool} {vals : List Value} (h : Held a0 a l d vals) (ps : List (Nat × Nat)) (hp : pairsB l ps = true) (hall : ∀ i, i < l.length → d i = true) : a = ⟨(patch vals ps 0 a0.tmps.toList).toArray, a0.defers⟩ := by
  unfold pairsB at hp
  simp only [Bool.and_eq_true] at hp
  have e : a.tmps = (patch vals ps 0 a0.tmps.toList).toArray := by
    apply Array.ext_getElem?
    intro s
    by_cases hs : s < a0.tmps.size
    · have pg := patch_get vals a0.tmps.toList ps 0 hp.1.1 s (by simpa using hs)
      simp only [Nat.zero_add] at pg
      by_cases q : ∃ p, p ∈ ps ∧ p.1 = s
      · obtain ⟨p, hpm, hps⟩ := q
        have h1 : (l[p.2]?).bind (·.dst) = some p.1 := by simpa using List.all_eq_true.1 hp.1.2 p hpm
        obtain ⟨o, ho, hd⟩ := Option.bind_eq_some_iff.1 h1
        rw [h.did p.2 o s ho (by rw [hd, hps]) (hall _ (List.getElem?_eq_some_iff.1 ho).1)]
        have := pg.1 p hpm hps
        simpa using this.symm
      · rw [h.rest s fun i o hi ho => ?_]
        · have := pg.2 fun p hpm hps => q ⟨p, hpm, hps⟩
          simpa using this.symm
        · have hil := (List.getElem?_eq_some_iff.1 hi).1
          have h2 := List.all_eq_true.1 hp.2 i (List.mem_range.2 hil)
          simp only [hi, Option.bind_some, ho] at h2
          obtain ⟨p, hpm, hpe⟩ := List.any_eq_true.1 h2
          exact absurd ⟨p, hpm, by simp at hpe; simp [hpe]⟩ q
    · rw [Array.getElem?_eq_none (by rw [h.size]; omega), Array.getElem?_eq_none (by simp [patch_length]; omega)]
  cases a
  simp only at e
  rw [e]
  have := h.defers
  simp only at this
  rw [this]

theorem wp_region_phase {P : Program} {id : Nat} {l : List Oper} {Q : Exit → Act → World → Prop} {a0 : Act} {w : World} (vals : List Value) (ps : List (Nat × Nat)) (L : List Value) (J : (Nat → Bool) → World → Prop)
    (hm : P.follows .mixedOrders = true) (hb : backB l.toArray = true) (hn : slotsB a0.tmps.size l = true) (hp : pairsB l ps = true) (hL : patch vals ps 0 a0.tmps.toList = L) (h0 : J (fun _ => false) w.drew)
    (step : ∀ i o, l[i]? = some o → ∀ a d u, Held a0 a l d vals → J d u → d i = false → (∀ e ∈ o.after, Region.binds .any e = true → d e.on = true) →
      wpOp P l.toArray Q i (fun a' w' => a' = a.put o.dst (vals.getD i undef) ∧ J (done d i) w') a u)
    (fin : ∀ u d, (∀ i, i < l.length → d i = true) → J d u → Q .normal ⟨L.toArray, a0.defers⟩ u) :
    (Code.region id l.toArray true).wp P Q a0 w := by
  refine wp_region_any hm (wpAny_phase (J := J) hb hn step (fun a u d hall hh hj => ?_) _ _ a0 _ (fun _ => false) (by simp) ?_ (fun i hi => by simp [hi]) ⟨rfl, rfl, (fun i o s _ _ h => absurd h (by simp)), fun _ _ => rfl⟩ h0)
  · rw [hh.patched ps hp hall, hL]
    exact fin u d hall hj
  · exact Nat.le_trans List.countP_le_length (by simp)

end Go.Proofs.Ytiigmmmhhpdmdaa

