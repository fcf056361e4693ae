/-
  The modules SpcE, SpcF, one behind another.
-/
import Derived.Test.YtiigmmmhhpdmdaaB09
/-
  Contract of package space's Ask.
-/
namespace Go.Proofs.Ytiigmmmhhpdmdaa
open Go.RowKit

/-- What is answered: the state, what was got, where the spine is. -/
structure Gr where
  st : Int
  G : List Int
  at_ : Int

/-- All that a bounded number of calls keeps small. -/
structure Sp.Bd (S : Sp) (k : Nat) : Prop where
  c0 : 0 ≤ S.ct
  c1 : S.ct ≤ k
  len : S.E.length ≤ k
  cyc : ∀ e, e ∈ S.E → 0 ≤ e.cy ∧ e.cy ≤ k
  pos : ∀ e, e ∈ S.E → 1 ≤ e.fr ∧ 0 ≤ e.sp

def Sp.takeS (S : Sp) (t fr : Int) (se : Bool) : Sp := { S with T := useT S.n 2 se S.T ((S.Q t.toNat).take fr.toNat), Q := fun j => if j = t.toNat then (S.Q t.toNat).drop fr.toNat else S.Q j }
def Sp.addE (S : Sp) (t fr sp : Int) : Sp := { S with E := S.E ++ [newEnt t fr sp] }
def Sp.ask (S : Sp) (t fr sp : Int) (se : Bool) : Sp :=
  if S.may t fr sp then
    if sp == 0 && decide (fr ≤ ((S.Q t.toNat).length : Int)) then S.tick.takeS t fr se
    else if decide ((wts S.E).length = 0) && fitsB S fr sp then (S.tick.tk fr sp se).fill t.toNat
    else S.tick.addE t fr sp
  else S.tick
def Sp.askG (S : Sp) (t fr sp : Int) : Gr :=
  if S.may t fr sp then
    if sp == 0 && decide (fr ≤ ((S.Q t.toNat).length : Int)) then ⟨1, (S.Q t.toNat).take fr.toNat, -1⟩
    else if decide ((wts S.E).length = 0) && fitsB S fr sp then ⟨1, takeZ S.n S.F fr, S.tkA fr sp⟩
    else ⟨0, [], -1⟩
  else ⟨3, [], -1⟩

section
variable {c c' : Nat → Nat} {w w' W : World} {A : Ad} {S : Sp}
theorem Stp.blk {b : Nat} {L : List Value} (h : Stp c w c' w') (B : Blk w b L) (h0 : c b = 0) : Blk w' b L := B.muts h.mu (fun q => (mem_cols.1 q).2 h0)
theorem Stp.rdi {x : Option Addr} {L : List Int} (h : Stp c w c' w') (r : Rdi w x L) (h0 : ∀ g o, x = some ⟨g, o, none⟩ → c g = 0) : Rdi w' x L := r.muts h.mu fun g o e q => (mem_cols.1 q).2 (h0 g o e)
/-- A block of one's own was written. -/
theorem Stp.own {b : Nat} (h : Stp c w c' w') (m : Mut [b] w' W) (hb : w.heap.size ≤ b) : Stp c w c' W :=
  ⟨h.same, mut_trans h.mu m fun j hj hl => by simp at hj; omega⟩
theorem SH.own {b : Nat} (h : SH w c A S) (m : Mut [b] w w') (hb : c b = 0) : SH w' c A S := h.muts m fun k hk => by simp at hk; rw [hk, hb]

/-- The answer lies in its block. -/
theorem grant_end {b : Nat} {u0 u1 u2 : Value} {c0 : Nat → Nat} {w0 : World} {x : Option Addr} {G : List Int} (v0 v1 v2 : Value) (B : Blk W b [u0, u1, u2]) (s : SH W c A S) (p : Stp c0 w0 c W) (hb : c b = 0) (hw : w0.heap.size ≤ b) (r : Rdi W x G) (hx : ∀ g o, x = some ⟨g, o, none⟩ → g ≠ b) :
    Blk (((W.setCell ⟨b, 0, none⟩ v0).setCell ⟨b, 1, none⟩ v1).setCell ⟨b, 2, none⟩ v2) b [v0, v1, v2] ∧ SH (((W.setCell ⟨b, 0, none⟩ v0).setCell ⟨b, 1, none⟩ v1).setCell ⟨b, 2, none⟩ v2) c A S ∧ Stp c0 w0 c (((W.setCell ⟨b, 0, none⟩ v0).setCell ⟨b, 1, none⟩ v1).setCell ⟨b, 2, none⟩ v2) ∧ Rdi (((W.setCell ⟨b, 0, none⟩ v0).setCell ⟨b, 1, none⟩ v1).setCell ⟨b, 2, none⟩ v2) x G := by
  have m : Mut [b] W (((W.setCell ⟨b, 0, none⟩ v0).setCell ⟨b, 1, none⟩ v1).setCell ⟨b, 2, none⟩ v2) := (((Mut.refl [b] W).setCell (p := ⟨b, 0, none⟩) (by simp) v0).setCell (p := ⟨b, 1, none⟩) (by simp) v1).setCell (p := ⟨b, 2, none⟩) (by simp) v2
  exact ⟨((B.set (i := 0) rfl v0).set (i := 1) rfl v1).set (i := 2) rfl v2, s.own m hb, p.own m hw, r.muts m fun g o e q => hx g o e (by simpa using q)⟩

set_option maxHeartbeats 8000000 in
theorem ask_any (t fr sp : Int) (se : Bool) (w : World) (h : SH w c A S) {kb : Nat} (hk : S.Bd kb) (hkb : kb ≤ 50000) :
    Calls Try.prog 21 #[.pointer (some ⟨A.b, 0, none⟩), .int .i64 t, .int .i64 fr, .int .i64 sp, .bool se] w fun e w' => ∃ x d, e = .returned (.agg #[.int .i64 (S.askG t fr sp).st, .slice x (S.askG t fr sp).G.length d, .int .i64 (S.askG t fr sp).at_]) ∧
      Rdi w' x (S.askG t fr sp).G ∧ (∀ g o, x = some ⟨g, o, none⟩ → w.heap.size ≤ g) ∧ ∃ c', SH w' c' A (S.ask t fr sp se) ∧ Stp c w c' w' := by
  have HS : Hid (SH w c A S) := h
  have HK : Hid (S.Bd kb ∧ kb ≤ 50000) := ⟨hk, hkb⟩
  have hct : 0 ≤ S.ct ∧ S.ct ≤ 50000 := ⟨hk.c0, by have := hk.c1; omega⟩
  have k0 : Kept w (w.alloc (.cells #[.int .i64 0, .slice none 0 0, .int .i64 0] 64)) := (Kept.refl w).alloc _ _
  have c15 := (h.kept k0).head.blk.at 15 rfl
  have f15 := (h.kept k0).head.blk.fz 15
  have z0 : A.b ≠ w.heap.size := by have := h.low A.b (by rw [h.cb]; decide); omega
  clear k0
  have HA : Hid (S.ask t fr sp se = if S.may t fr sp then
    if sp == 0 && decide (fr ≤ ((S.Q t.toNat).length : Int)) then S.tick.takeS t fr se
    else if decide ((wts S.E).length = 0) && fitsB S fr sp then (S.tick.tk fr sp se).fill t.toNat
    else S.tick.addE t fr sp
  else S.tick) := rfl
  have HG : Hid (S.askG t fr sp = if S.may t fr sp then
    if sp == 0 && decide (fr ≤ ((S.Q t.toNat).length : Int)) then ⟨1, (S.Q t.toNat).take fr.toNat, -1⟩
    else if decide ((wts S.E).length = 0) && fitsB S fr sp then ⟨1, takeZ S.n S.F fr, S.tkA fr sp⟩
    else ⟨0, [], -1⟩
  else ⟨3, [], -1⟩) := rfl
  obtain ⟨h0, h1⟩ := hct
  clear h hk hkb
  go_enter Try.func21, Try.ntmps21
  go_wp2_with fail
  generalize hW : World.setCell _ _ _ = W
  have HB : Hid (Blk W w.heap.size [.int .i64 0, .slice none 0 0, .int .i64 0] ∧ SH W c A S.tick ∧ Stp c w c W ∧ W.heap.size = w.heap.size + 1 ∧ ∀ k, w.heap.size ≤ k → c k = 0) := by
    rw [← hW]
    have k1 : Kept w (w.alloc (.cells #[.int .i64 0, .slice none 0 0, .int .i64 0] 64)) := (Kept.refl w).alloc _ _
    have s1 := HS.out.kept k1
    have m : Mut [A.b] (w.alloc (.cells #[.int .i64 0, .slice none 0 0, .int .i64 0] 64)) ((w.alloc (.cells #[.int .i64 0, .slice none 0 0, .int .i64 0] 64)).setCell ⟨A.b, 15, none⟩ (.int .i64 (S.ct + 1))) := (Mut.refl _ _).setCell (by simp) _
    exact ⟨(Blk.new w _ _).set_other z0 _, s1.ticks, (Stp.kept k1).trans (s1.stph m), by simp [World.setCell], fun k hk => HS.out.new hk⟩
  clear hW c15 f15
  have z1 : Hid (c w.heap.size = 0) := HB.out.2.2.2.2 _ (Nat.le_refl _)
  have CM := wmay_any t fr sp W HB.out.2.1
  rw [show S.tick.may t fr sp = S.may t fr sp from rfl] at CM
  go_wp2_with fail
  refine CM.mono ?_
  rintro e w1 ⟨rfl, k1⟩
  have H1 : Hid (Blk w1 w.heap.size [.int .i64 0, .slice none 0 0, .int .i64 0] ∧ SH w1 c A S.tick ∧ Stp c w c w1) := ⟨HB.out.1.kept k1, HB.out.2.1.kept k1, HB.out.2.2.1.trans (Stp.kept k1)⟩
  have hw1 : Hid (w.heap.size + 1 ≤ w1.heap.size) := by have := k1.size; have := HB.out.2.2.2.1; show _ ≤ _; omega
  clear k1 CM
  cases hm : S.may t fr sp
  · rw [hm] at HA HG
    simp only [Bool.false_eq_true, if_false] at HA HG
    clear hm
    go_wp2_with fail
    refine (without_any 3 w1).mono ?_
    rintro e w2 ⟨rfl, k2⟩
    have H2 : Hid (Blk w2 w.heap.size [.int .i64 0, .slice none 0 0, .int .i64 0] ∧ SH w2 c A S.tick ∧ Stp c w c w2) := ⟨H1.out.1.kept k2, H1.out.2.1.kept k2, H1.out.2.2.trans (Stp.kept k2)⟩
    clear k2
    have b0 := H2.out.1.at 0 rfl
    have b1 := H2.out.1.at 1 rfl
    have b2 := H2.out.1.at 2 rfl
    have bf := H2.out.1.fz
    go_wp2
    (try simp only [Exit.inBlock, Exit.then])
    obtain ⟨g1, g2, g3, _⟩ := grant_end (x := none) (G := []) (.int .i64 3) (.slice none 0 0) (.int .i64 (-1)) H2.out.1 H2.out.2.1 H2.out.2.2 z1.out (Nat.le_refl _) Rdi.nil (fun _ _ e => by cases e)
    exact bodyPost_ret_by (results_blk rfl _ _ w.heap.size [_, _, _] rfl g1 Try.underlying64 (by kernel_rfl)) rfl ⟨none, 0, by rw [HG.out] <;> rfl, by rw [HG.out]; exact Rdi.nil, (fun _ _ e => by cases e), c, by rw [HA.out]; exact g2, g3⟩
  have HMY : Hid (S.isT t = true ∧ 1 ≤ fr ∧ 0 ≤ sp ∧ ∀ e ∈ S.E, e.th ≠ t) := by
    simp only [Sp.may, Bool.and_eq_true, decide_eq_true_eq, Bool.not_eq_true', Option.isSome_eq_false_iff, Option.isNone_iff_eq_none] at hm
    obtain ⟨⟨⟨a1, a2⟩, a3⟩, a4⟩ := hm
    refine ⟨a1, a2, a3, fun e he q => ?_⟩
    have := List.find?_eq_none.1 a4 e he
    simp [q] at this
  obtain ⟨i, rfl, hi⟩ : ∃ i : Nat, t = i ∧ i < S.m := by
    have := HMY.out.1
    simp only [Sp.isT, decide_eq_true_eq] at this
    exact ⟨t.toNat, by omega, by omega⟩
  rw [hm] at HA HG
  simp only [if_true, Int.toNat_natCast] at HA HG
  clear hm
  have hfr : 1 ≤ fr := HMY.out.2.1
  have hsp : 0 ≤ sp := HMY.out.2.2.1
  have hm16 : S.m ≤ 16 := HS.out.few
  have hm16' : (S.m : Int) ≤ 16 := by omega
  have HQ : Hid (∃ v, STab 180 w1 0 (A.q i) S.most v (S.Q i) ∧ c (A.q i) = 10 + i ∧ ∀ k, v.ownBlock = some k → c k = 10 + i) := H1.out.2.1.stk i hi
  by_cases hs0 : sp = 0
  · subst hs0
    have c13 := H1.out.2.1.head.blk.at 13 rfl
    have cq := H1.out.2.1.row.cell hi
    obtain ⟨v, s1, s2, s3⟩ := HQ.out
    by_cases hl : fr ≤ ((S.Q i).length : Int)
    · simp only [hl, decide_true, Bool.and_true, beq_self_eq_true, if_true] at HA HG
      obtain ⟨kf, rfl⟩ : ∃ kf : Nat, fr = kf := ⟨fr.toNat, by omega⟩
      rw [Int.toNat_natCast] at HG
      have CS := stake_yes (k := kf) w1 s1 (by omega) (by omega)
      generalize hZ : (S.Q i).take kf = Z at *
      have HZ : Hid ((S.Q i).take kf = Z) := hZ
      have hZl : Z.length ≤ 8 := by rw [← hZ, List.length_take]; have := s1.few; have := s1.max; omega
      have HZL : Hid (Z.length ≤ 8) := hZl
      clear hZ hZl
      go_wp2_with fail
      refine CS.mono ?_
      rintro e w2 ⟨va, v', rfl, l2, t2, m2, f2, n2⟩
      obtain ⟨x, d, rfl⟩ := l2.form
      have H2a := SH.stks H1.out.2.1 hi s2 s3 t2 m2 (fun k hk => hk) f2
      have H2 : Hid (∃ c2, c2 w.heap.size = 0 ∧ Blk w2 w.heap.size [.int .i64 0, .slice none 0 0, .int .i64 0] ∧ SH w2 c2 A { S.tick with Q := fun j => if j = i then (S.Q i).drop kf else S.Q j } ∧ Stp c w c2 w2 ∧ Rdi w2 x Z ∧ ∀ g o, x = some ⟨g, o, none⟩ → c2 g = 0 ∧ w1.heap.size ≤ g) := by
        refine ⟨_, (H2a.2.same _ (by have := hw1.out; omega)).trans z1.out, H2a.2.blk H1.out.1 z1.out, H2a.1, H1.out.2.2.trans H2a.2, l2.rdi, fun g o e => ?_⟩
        subst e
        have h1 := (l2.lt g rfl).1
        exact ⟨grow_not h1 (fun q => n2 g rfl (by simpa using q)), h1⟩
      clear H2a l2 t2 m2 f2 n2 CS c13 cq
      obtain ⟨c2, H2'⟩ := H2.out
      have H3 : Hid (c2 w.heap.size = 0 ∧ Blk w2 w.heap.size [.int .i64 0, .slice none 0 0, .int .i64 0] ∧ SH w2 c2 A { S.tick with Q := fun j => if j = i then (S.Q i).drop kf else S.Q j } ∧ Stp c w c2 w2 ∧ Rdi w2 x Z ∧ ∀ g o, x = some ⟨g, o, none⟩ → c2 g = 0 ∧ w1.heap.size ≤ g) := H2'
      clear H2 H2'
      have b0 := H3.out.2.2.1.head.blk.at 0 rfl
      have b1 := H3.out.2.2.1.head.blk.at 1 rfl
      have b2 := H3.out.2.2.1.head.blk.at 2 rfl
      have b3 := H3.out.2.2.1.head.blk.at 3 rfl
      have b4 := H3.out.2.2.1.head.blk.at 4 rfl
      have b5 := H3.out.2.2.1.head.blk.at 5 rfl
      have b6 := H3.out.2.2.1.head.blk.at 6 rfl
      have b7 := H3.out.2.2.1.head.blk.at 7 rfl
      have b8 := H3.out.2.2.1.head.blk.at 8 rfl
      have b9 := H3.out.2.2.1.head.blk.at 9 rfl
      have b10 := H3.out.2.2.1.head.blk.at 10 rfl
      have b11 := H3.out.2.2.1.head.blk.at 11 rfl
      have b12 := H3.out.2.2.1.head.blk.at 12 rfl
      have CU := use_any (d := d) se w2 H3.out.2.2.1 H3.out.2.2.2.2.1 (fun g o e q => by rw [(H3.out.2.2.2.2.2 g o e).1] at q; cases q) (by have := HZL.out; omega)
      go_wp2_with fail
      refine CU.mono ?_
      rintro e w3 ⟨rfl, s4, p4, _⟩
      have H4 : Hid (c2 w.heap.size = 0 ∧ Blk w3 w.heap.size [.int .i64 0, .slice none 0 0, .int .i64 0] ∧ SH w3 c2 A (S.tick.takeS i kf se) ∧ Stp c w c2 w3 ∧ Rdi w3 x Z) := by
        refine ⟨H3.out.1, p4.blk H3.out.2.1 H3.out.1, ?_, H3.out.2.2.2.1.trans p4, p4.rdi H3.out.2.2.2.2.1 fun g o e => (H3.out.2.2.2.2.2 g o e).1⟩
        have e1 : S.tick.takeS i kf se = { S.tick with T := useT S.n 2 se S.T Z, Q := fun j => if j = i then (S.Q i).drop kf else S.Q j } := by
          rw [← HZ.out]; rfl
        rw [e1]
        exact s4
      clear b0 b1 b2 b3 b4 b5 b6 b7 b8 b9 b10 b11 b12 CU s4 p4
      go_wp2_with fail
      refine (granted_any (x := x) (l := Z.length) (d := d) (-1) w3).mono ?_
      rintro e w4 ⟨rfl, k4⟩
      have H5 : Hid (Blk w4 w.heap.size [.int .i64 0, .slice none 0 0, .int .i64 0] ∧ SH w4 c2 A (S.tick.takeS i kf se) ∧ Stp c w c2 w4 ∧ Rdi w4 x Z) := ⟨H4.out.2.1.kept k4, H4.out.2.2.1.kept k4, H4.out.2.2.2.1.trans (Stp.kept k4), H4.out.2.2.2.2.kept k4⟩
      clear k4
      have b0 := H5.out.1.at 0 rfl
      have b1 := H5.out.1.at 1 rfl
      have b2 := H5.out.1.at 2 rfl
      have bf := H5.out.1.fz
      go_wp2
      (try simp only [Exit.inBlock, Exit.then])
      obtain ⟨g1, g2, g3, g4⟩ := grant_end (x := x) (G := Z) (.int .i64 1) (.slice x Z.length d) (.int .i64 (-1)) H5.out.1 H5.out.2.1 H5.out.2.2.1 H4.out.1 (Nat.le_refl _) H5.out.2.2.2 (fun g o e => by have := (H3.out.2.2.2.2.2 g o e).2; have := hw1.out; omega)
      exact bodyPost_ret_by (results_blk rfl _ _ w.heap.size [_, _, _] rfl g1 Try.underlying64 (by kernel_rfl)) rfl ⟨x, d, by rw [HG.out] <;> rfl, by rw [HG.out]; exact g4, (fun g o e => by have := (H3.out.2.2.2.2.2 g o e).2; have := hw1.out; omega), c2, by rw [HA.out]; exact g2, g3⟩
    · have e0 : decide (fr ≤ ((S.Q i).length : Int)) = false := by simpa using hl
      rw [e0] at HA HG
      simp only [Bool.and_false, Bool.false_eq_true, if_false] at HA HG
      have CS := stake_no fr w1 s1 (by omega)
      clear e0 hl s1 s2 s3
      go_wp2_with fail
      refine CS.mono ?_
      rintro e w2 ⟨rfl, e2⟩
      rw [e2]
      clear e2 CS c13 cq
      have HW : Hid ((wts S.tick.E).length = (wts S.E).length) := rfl
      obtain ⟨lv0, E0, q1, q2, _⟩ := H1.out.2.1.line
      have CW := lwaits_any w1 q1
      have hwl : (wts E0).length = (wts S.E).length := by
        rw [show S.E = E0.map Ent.nrm from q2.symm]
        unfold wts
        rw [List.filter_map, List.length_map]
        rfl
      rw [hwl] at CW
      have c2 := H1.out.2.1.head.blk.at 2 rfl
      have hwb : (wts S.E).length ≤ 50000 := by
        have := wts_le S.E
        have := HK.out.1.len
        have := HK.out.2
        omega
      clear q1 q2 hwl HW
      go_wp2_with fail
      refine CW.mono ?_
      rintro e w2 ⟨rfl, k2⟩
      have H2 : Hid (Blk w2 w.heap.size [.int .i64 0, .slice none 0 0, .int .i64 0] ∧ SH w2 c A S.tick ∧ Stp c w c w2) := ⟨H1.out.1.kept k2, H1.out.2.1.kept k2, H1.out.2.2.trans (Stp.kept k2)⟩
      have hw2 : Hid (w.heap.size + 1 ≤ w2.heap.size) := Nat.le_trans hw1.out k2.size
      clear k2 CW H1 hw1 c2
      obtain ⟨w1, rfl⟩ : ∃ w1, w1 = w2 := ⟨_, rfl⟩
      have H1 := H2
      have hw1 := hw2
      clear H2 hw2
      by_cases hz : (wts S.E).length = 0
      · rw [hz] at HA HG
        simp only [decide_true, Bool.true_and] at HA HG
        rw [hz]
        clear hz hwb
        have b0 := H1.out.2.1.head.blk.at 0 rfl
        have b1 := H1.out.2.1.head.blk.at 1 rfl
        have b2 := H1.out.2.1.head.blk.at 2 rfl
        have b3 := H1.out.2.1.head.blk.at 3 rfl
        have b4 := H1.out.2.1.head.blk.at 4 rfl
        have b5 := H1.out.2.1.head.blk.at 5 rfl
        have b6 := H1.out.2.1.head.blk.at 6 rfl
        have b7 := H1.out.2.1.head.blk.at 7 rfl
        have b8 := H1.out.2.1.head.blk.at 8 rfl
        have b9 := H1.out.2.1.head.blk.at 9 rfl
        have b10 := H1.out.2.1.head.blk.at 10 rfl
        have b11 := H1.out.2.1.head.blk.at 11 rfl
        have b12 := H1.out.2.1.head.blk.at 12 rfl
        have CF := fits_any fr 0 w1 H1.out.2.1
        rw [show fitsB S.tick fr 0 = fitsB S fr 0 from rfl] at CF
        go_wp2_with fail
        refine CF.mono ?_
        rintro e w2 ⟨rfl, k2⟩
        have H2 : Hid (Blk w2 w.heap.size [.int .i64 0, .slice none 0 0, .int .i64 0] ∧ SH w2 c A S.tick ∧ Stp c w c w2) := ⟨H1.out.1.kept k2, H1.out.2.1.kept k2, H1.out.2.2.trans (Stp.kept k2)⟩
        have hw2 : Hid (w.heap.size + 1 ≤ w2.heap.size) := Nat.le_trans hw1.out k2.size
        clear k2 CF H1 hw1 b0 b1 b2 b3 b4 b5 b6 b7 b8 b9 b10 b11 b12
        obtain ⟨w1, rfl⟩ : ∃ w1, w1 = w2 := ⟨_, rfl⟩
        have H1 := H2
        have hw1 := hw2
        clear H2 hw2
        cases hft : fitsB S fr 0
        · rw [hft] at HA HG
          simp only [Bool.false_eq_true, if_false] at HA HG
          clear hft
          have HE : Hid (∀ e ∈ S.E, e.th ≠ (i : Int)) := HMY.out.2.2.2
          obtain ⟨lv, E, l1, l2, l3⟩ := H1.out.2.1.line
          have c2 := H1.out.2.1.head.blk.at 2 rfl
          have CA := ladd_yes (t := (i : Int)) (f := fr) (s := 0) (s3 := 0) (s4 := 0) (s5 := 0) (x := none) (l := 0) (c := 0) w1 l1 (by
            have e1 : E.length = S.E.length := by rw [show S.E = E.map Ent.nrm from l2.symm]; simp
            have := HK.out.1.len
            have := HK.out.2
            omega) (fun e he => by
            have := HE.out e.nrm (by rw [show S.E = E.map Ent.nrm from l2.symm]; exact List.mem_map_of_mem he)
            exact this)
          go_wp2_with fail
          refine CA.mono ?_
          rintro e w2 ⟨rfl, v', t2, m2, f2⟩
          have H2a := SH.lines H1.out.2.1 l3 t2 m2 (fun k hk => mem_foot.2 (by
            rcases List.mem_cons.1 hk with q | q
            · exact .inl q
            · exact .inr (.inl (by simpa using q)))) f2
          have H2 : Hid (∃ c', c' w.heap.size = 0 ∧ Blk w2 w.heap.size [.int .i64 0, .slice none 0 0, .int .i64 0] ∧ SH w2 c' A (S.tick.addE i fr 0) ∧ Stp c w c' w2) := by
            refine ⟨_, ?_, H2a.2.blk H1.out.1 z1.out, ?_, H1.out.2.2.trans H2a.2⟩
            · exact (H2a.2.same _ (by have := hw1.out; omega)).trans z1.out
            · have e : (E ++ [newEnt i fr 0]).map Ent.nrm = S.E ++ [newEnt i fr 0] := by
                rw [List.map_append, l2]; rfl
              have := H2a.1
              rw [e] at this
              exact this
          clear H2a t2 m2 f2 l1 l2 l3 CA c2
          obtain ⟨c2, H2'⟩ := H2.out
          have H3 : Hid (c2 w.heap.size = 0 ∧ Blk w2 w.heap.size [.int .i64 0, .slice none 0 0, .int .i64 0] ∧ SH w2 c2 A (S.tick.addE i fr 0) ∧ Stp c w c2 w2) := H2'
          clear H2 H2'
          go_wp2_with fail
          refine (without_any 0 w2).mono ?_
          rintro e w3 ⟨rfl, k3⟩
          have H4 : Hid (Blk w3 w.heap.size [.int .i64 0, .slice none 0 0, .int .i64 0] ∧ SH w3 c2 A (S.tick.addE i fr 0) ∧ Stp c w c2 w3) := ⟨H3.out.2.1.kept k3, H3.out.2.2.1.kept k3, H3.out.2.2.2.trans (Stp.kept k3)⟩
          clear k3
          have b0 := H4.out.1.at 0 rfl
          have b1 := H4.out.1.at 1 rfl
          have b2 := H4.out.1.at 2 rfl
          have bf := H4.out.1.fz
          go_wp2
          (try simp only [Exit.inBlock, Exit.then])
          obtain ⟨g1, g2, g3, _⟩ := grant_end (x := none) (G := []) (.int .i64 0) (.slice none 0 0) (.int .i64 (-1)) H4.out.1 H4.out.2.1 H4.out.2.2 H3.out.1 (Nat.le_refl _) Rdi.nil (fun _ _ e => by cases e)
          exact bodyPost_ret_by (results_blk rfl _ _ w.heap.size [_, _, _] rfl g1 Try.underlying64 (by kernel_rfl)) rfl ⟨none, 0, by rw [HG.out] <;> rfl, by rw [HG.out]; exact Rdi.nil, (fun _ _ e => by cases e), c2, by rw [HA.out]; exact g2, g3⟩
        · rw [hft] at HA HG
          simp only [if_true] at HA HG
          have b0 := H1.out.2.1.head.blk.at 0 rfl
          have b1 := H1.out.2.1.head.blk.at 1 rfl
          have b2 := H1.out.2.1.head.blk.at 2 rfl
          have b3 := H1.out.2.1.head.blk.at 3 rfl
          have b4 := H1.out.2.1.head.blk.at 4 rfl
          have b5 := H1.out.2.1.head.blk.at 5 rfl
          have b6 := H1.out.2.1.head.blk.at 6 rfl
          have b7 := H1.out.2.1.head.blk.at 7 rfl
          have b8 := H1.out.2.1.head.blk.at 8 rfl
          have b9 := H1.out.2.1.head.blk.at 9 rfl
          have b10 := H1.out.2.1.head.blk.at 10 rfl
          have b11 := H1.out.2.1.head.blk.at 11 rfl
          have b12 := H1.out.2.1.head.blk.at 12 rfl
          have CT := wtake_any fr 0 se w1 H1.out.2.1 hft hfr hsp
          rw [show takeZ S.tick.n S.tick.F fr = takeZ S.n S.F fr from rfl, show S.tick.tkA fr 0 = S.tkA fr 0 from rfl] at CT
          clear hft
          generalize hZ : takeZ S.n S.F fr = Z at *
          generalize hY : S.tkA fr 0 = ta at *
          have HZ : Hid (takeZ S.n S.F fr = Z ∧ S.tkA fr 0 = ta) := ⟨hZ, hY⟩
          clear hZ hY
          go_wp2_with fail
          refine CT.mono ?_
          rintro e w2 ⟨x, d, rfl, s2, p2, r2, n2⟩
          have H2 : Hid (Blk w2 w.heap.size [.int .i64 0, .slice none 0 0, .int .i64 0] ∧ SH w2 c A (S.tick.tk fr 0 se) ∧ Stp c w c w2 ∧ Rdi w2 x Z ∧ ∀ g o, x = some ⟨g, o, none⟩ → w1.heap.size ≤ g) := ⟨p2.blk H1.out.1 z1.out, s2, H1.out.2.2.trans p2, r2, n2⟩
          have hw2 : Hid (w1.heap.size ≤ w2.heap.size) := p2.mu.size
          clear CT s2 p2 r2 n2 b0 b1 b2 b3 b4 b5 b6 b7 b8 b9 b10 b11 b12
          have CL := fill_any i w2 H2.out.2.1 hi
          go_wp2_with fail
          refine CL.mono ?_
          rintro e w3 ⟨rfl, c3, s3, p3⟩
          have H3 : Hid (c3 w.heap.size = 0 ∧ Blk w3 w.heap.size [.int .i64 0, .slice none 0 0, .int .i64 0] ∧ SH w3 c3 A ((S.tick.tk fr 0 se).fill i) ∧ Stp c w c3 w3 ∧ Rdi w3 x Z) := by
            refine ⟨(p3.same _ (by have := hw1.out; have := hw2.out; omega)).trans z1.out, p3.blk H2.out.1 z1.out, s3, H2.out.2.2.1.trans p3, p3.rdi H2.out.2.2.2.1 fun g o e => ?_⟩
            have := H2.out.2.2.2.2 g o e
            exact HB.out.2.2.2.2 g (by have := hw1.out; omega)
          clear CL s3 p3
          go_wp2_with fail
          refine (granted_any (x := x) (l := Z.length) (d := d) ta w3).mono ?_
          rintro e w4 ⟨rfl, k4⟩
          have H4 : Hid (Blk w4 w.heap.size [.int .i64 0, .slice none 0 0, .int .i64 0] ∧ SH w4 c3 A ((S.tick.tk fr 0 se).fill i) ∧ Stp c w c3 w4 ∧ Rdi w4 x Z) := ⟨H3.out.2.1.kept k4, H3.out.2.2.1.kept k4, H3.out.2.2.2.1.trans (Stp.kept k4), H3.out.2.2.2.2.kept k4⟩
          clear k4
          have b0 := H4.out.1.at 0 rfl
          have b1 := H4.out.1.at 1 rfl
          have b2 := H4.out.1.at 2 rfl
          have bf := H4.out.1.fz
          go_wp2
          (try simp only [Exit.inBlock, Exit.then])
          obtain ⟨g1, g2, g3, g4⟩ := grant_end (x := x) (G := Z) (.int .i64 1) (.slice x Z.length d) (.int .i64 ta) H4.out.1 H4.out.2.1 H4.out.2.2.1 H3.out.1 (Nat.le_refl _) H4.out.2.2.2 (fun g o e => by have := H2.out.2.2.2.2 g o e; have := hw1.out; omega)
          exact bodyPost_ret_by (results_blk rfl _ _ w.heap.size [_, _, _] rfl g1 Try.underlying64 (by kernel_rfl)) rfl ⟨x, d, by rw [HG.out] <;> rfl, by rw [HG.out]; exact g4, (fun g o e => by have := H2.out.2.2.2.2 g o e; have := hw1.out; omega), c3, by rw [HA.out]; exact g2, g3⟩
      · have e0 : decide ((wts S.E).length = 0) = false := by simpa using hz
        rw [e0] at HA HG
        simp only [Bool.false_and, Bool.false_eq_true, if_false] at HA HG
        clear e0
        have HE : Hid (∀ e ∈ S.E, e.th ≠ (i : Int)) := HMY.out.2.2.2
        obtain ⟨lv, E, l1, l2, l3⟩ := H1.out.2.1.line
        have c2 := H1.out.2.1.head.blk.at 2 rfl
        have CA := ladd_yes (t := (i : Int)) (f := fr) (s := 0) (s3 := 0) (s4 := 0) (s5 := 0) (x := none) (l := 0) (c := 0) w1 l1 (by
          have e1 : E.length = S.E.length := by rw [show S.E = E.map Ent.nrm from l2.symm]; simp
          have := HK.out.1.len
          have := HK.out.2
          omega) (fun e he => by
          have := HE.out e.nrm (by rw [show S.E = E.map Ent.nrm from l2.symm]; exact List.mem_map_of_mem he)
          exact this)
        go_wp2_with fail
        refine CA.mono ?_
        rintro e w2 ⟨rfl, v', t2, m2, f2⟩
        have H2a := SH.lines H1.out.2.1 l3 t2 m2 (fun k hk => mem_foot.2 (by
          rcases List.mem_cons.1 hk with q | q
          · exact .inl q
          · exact .inr (.inl (by simpa using q)))) f2
        have H2 : Hid (∃ c', c' w.heap.size = 0 ∧ Blk w2 w.heap.size [.int .i64 0, .slice none 0 0, .int .i64 0] ∧ SH w2 c' A (S.tick.addE i fr 0) ∧ Stp c w c' w2) := by
          refine ⟨_, ?_, H2a.2.blk H1.out.1 z1.out, ?_, H1.out.2.2.trans H2a.2⟩
          · exact (H2a.2.same _ (by have := hw1.out; omega)).trans z1.out
          · have e : (E ++ [newEnt i fr 0]).map Ent.nrm = S.E ++ [newEnt i fr 0] := by
              rw [List.map_append, l2]; rfl
            have := H2a.1
            rw [e] at this
            exact this
        clear H2a t2 m2 f2 l1 l2 l3 CA c2
        obtain ⟨c2, H2'⟩ := H2.out
        have H3 : Hid (c2 w.heap.size = 0 ∧ Blk w2 w.heap.size [.int .i64 0, .slice none 0 0, .int .i64 0] ∧ SH w2 c2 A (S.tick.addE i fr 0) ∧ Stp c w c2 w2) := H2'
        clear H2 H2'
        go_wp2_with fail
        refine (without_any 0 w2).mono ?_
        rintro e w3 ⟨rfl, k3⟩
        have H4 : Hid (Blk w3 w.heap.size [.int .i64 0, .slice none 0 0, .int .i64 0] ∧ SH w3 c2 A (S.tick.addE i fr 0) ∧ Stp c w c2 w3) := ⟨H3.out.2.1.kept k3, H3.out.2.2.1.kept k3, H3.out.2.2.2.trans (Stp.kept k3)⟩
        clear k3
        have b0 := H4.out.1.at 0 rfl
        have b1 := H4.out.1.at 1 rfl
        have b2 := H4.out.1.at 2 rfl
        have bf := H4.out.1.fz
        go_wp2
        (try simp only [Exit.inBlock, Exit.then])
        obtain ⟨g1, g2, g3, _⟩ := grant_end (x := none) (G := []) (.int .i64 0) (.slice none 0 0) (.int .i64 (-1)) H4.out.1 H4.out.2.1 H4.out.2.2 H3.out.1 (Nat.le_refl _) Rdi.nil (fun _ _ e => by cases e)
        exact bodyPost_ret_by (results_blk rfl _ _ w.heap.size [_, _, _] rfl g1 Try.underlying64 (by kernel_rfl)) rfl ⟨none, 0, by rw [HG.out] <;> rfl, by rw [HG.out]; exact Rdi.nil, (fun _ _ e => by cases e), c2, by rw [HA.out]; exact g2, g3⟩
  · have e0 : (sp == 0) = false := by simpa using hs0
    rw [e0] at HA HG
    simp only [Bool.false_and, Bool.false_eq_true, if_false] at HA HG
    clear e0
    have HW : Hid ((wts S.tick.E).length = (wts S.E).length) := rfl
    obtain ⟨lv0, E0, q1, q2, _⟩ := H1.out.2.1.line
    have CW := lwaits_any w1 q1
    have hwl : (wts E0).length = (wts S.E).length := by
      rw [show S.E = E0.map Ent.nrm from q2.symm]
      unfold wts
      rw [List.filter_map, List.length_map]
      rfl
    rw [hwl] at CW
    have c2 := H1.out.2.1.head.blk.at 2 rfl
    have hwb : (wts S.E).length ≤ 50000 := by
      have := wts_le S.E
      have := HK.out.1.len
      have := HK.out.2
      omega
    clear q1 q2 hwl HW
    go_wp2_with fail
    refine CW.mono ?_
    rintro e w2 ⟨rfl, k2⟩
    have H2 : Hid (Blk w2 w.heap.size [.int .i64 0, .slice none 0 0, .int .i64 0] ∧ SH w2 c A S.tick ∧ Stp c w c w2) := ⟨H1.out.1.kept k2, H1.out.2.1.kept k2, H1.out.2.2.trans (Stp.kept k2)⟩
    have hw2 : Hid (w.heap.size + 1 ≤ w2.heap.size) := Nat.le_trans hw1.out k2.size
    clear k2 CW H1 hw1 c2
    obtain ⟨w1, rfl⟩ : ∃ w1, w1 = w2 := ⟨_, rfl⟩
    have H1 := H2
    have hw1 := hw2
    clear H2 hw2
    by_cases hz : (wts S.E).length = 0
    · rw [hz] at HA HG
      simp only [decide_true, Bool.true_and] at HA HG
      rw [hz]
      clear hz hwb
      have b0 := H1.out.2.1.head.blk.at 0 rfl
      have b1 := H1.out.2.1.head.blk.at 1 rfl
      have b2 := H1.out.2.1.head.blk.at 2 rfl
      have b3 := H1.out.2.1.head.blk.at 3 rfl
      have b4 := H1.out.2.1.head.blk.at 4 rfl
      have b5 := H1.out.2.1.head.blk.at 5 rfl
      have b6 := H1.out.2.1.head.blk.at 6 rfl
      have b7 := H1.out.2.1.head.blk.at 7 rfl
      have b8 := H1.out.2.1.head.blk.at 8 rfl
      have b9 := H1.out.2.1.head.blk.at 9 rfl
      have b10 := H1.out.2.1.head.blk.at 10 rfl
      have b11 := H1.out.2.1.head.blk.at 11 rfl
      have b12 := H1.out.2.1.head.blk.at 12 rfl
      have CF := fits_any fr sp w1 H1.out.2.1
      rw [show fitsB S.tick fr sp = fitsB S fr sp from rfl] at CF
      go_wp2_with fail
      refine CF.mono ?_
      rintro e w2 ⟨rfl, k2⟩
      have H2 : Hid (Blk w2 w.heap.size [.int .i64 0, .slice none 0 0, .int .i64 0] ∧ SH w2 c A S.tick ∧ Stp c w c w2) := ⟨H1.out.1.kept k2, H1.out.2.1.kept k2, H1.out.2.2.trans (Stp.kept k2)⟩
      have hw2 : Hid (w.heap.size + 1 ≤ w2.heap.size) := Nat.le_trans hw1.out k2.size
      clear k2 CF H1 hw1 b0 b1 b2 b3 b4 b5 b6 b7 b8 b9 b10 b11 b12
      obtain ⟨w1, rfl⟩ : ∃ w1, w1 = w2 := ⟨_, rfl⟩
      have H1 := H2
      have hw1 := hw2
      clear H2 hw2
      cases hft : fitsB S fr sp
      · rw [hft] at HA HG
        simp only [Bool.false_eq_true, if_false] at HA HG
        clear hft
        have HE : Hid (∀ e ∈ S.E, e.th ≠ (i : Int)) := HMY.out.2.2.2
        obtain ⟨lv, E, l1, l2, l3⟩ := H1.out.2.1.line
        have c2 := H1.out.2.1.head.blk.at 2 rfl
        have CA := ladd_yes (t := (i : Int)) (f := fr) (s := sp) (s3 := 0) (s4 := 0) (s5 := 0) (x := none) (l := 0) (c := 0) w1 l1 (by
          have e1 : E.length = S.E.length := by rw [show S.E = E.map Ent.nrm from l2.symm]; simp
          have := HK.out.1.len
          have := HK.out.2
          omega) (fun e he => by
          have := HE.out e.nrm (by rw [show S.E = E.map Ent.nrm from l2.symm]; exact List.mem_map_of_mem he)
          exact this)
        go_wp2_with fail
        refine CA.mono ?_
        rintro e w2 ⟨rfl, v', t2, m2, f2⟩
        have H2a := SH.lines H1.out.2.1 l3 t2 m2 (fun k hk => mem_foot.2 (by
          rcases List.mem_cons.1 hk with q | q
          · exact .inl q
          · exact .inr (.inl (by simpa using q)))) f2
        have H2 : Hid (∃ c', c' w.heap.size = 0 ∧ Blk w2 w.heap.size [.int .i64 0, .slice none 0 0, .int .i64 0] ∧ SH w2 c' A (S.tick.addE i fr sp) ∧ Stp c w c' w2) := by
          refine ⟨_, ?_, H2a.2.blk H1.out.1 z1.out, ?_, H1.out.2.2.trans H2a.2⟩
          · exact (H2a.2.same _ (by have := hw1.out; omega)).trans z1.out
          · have e : (E ++ [newEnt i fr sp]).map Ent.nrm = S.E ++ [newEnt i fr sp] := by
              rw [List.map_append, l2]; rfl
            have := H2a.1
            rw [e] at this
            exact this
        clear H2a t2 m2 f2 l1 l2 l3 CA c2
        obtain ⟨c2, H2'⟩ := H2.out
        have H3 : Hid (c2 w.heap.size = 0 ∧ Blk w2 w.heap.size [.int .i64 0, .slice none 0 0, .int .i64 0] ∧ SH w2 c2 A (S.tick.addE i fr sp) ∧ Stp c w c2 w2) := H2'
        clear H2 H2'
        go_wp2_with fail
        refine (without_any 0 w2).mono ?_
        rintro e w3 ⟨rfl, k3⟩
        have H4 : Hid (Blk w3 w.heap.size [.int .i64 0, .slice none 0 0, .int .i64 0] ∧ SH w3 c2 A (S.tick.addE i fr sp) ∧ Stp c w c2 w3) := ⟨H3.out.2.1.kept k3, H3.out.2.2.1.kept k3, H3.out.2.2.2.trans (Stp.kept k3)⟩
        clear k3
        have b0 := H4.out.1.at 0 rfl
        have b1 := H4.out.1.at 1 rfl
        have b2 := H4.out.1.at 2 rfl
        have bf := H4.out.1.fz
        go_wp2
        (try simp only [Exit.inBlock, Exit.then])
        obtain ⟨g1, g2, g3, _⟩ := grant_end (x := none) (G := []) (.int .i64 0) (.slice none 0 0) (.int .i64 (-1)) H4.out.1 H4.out.2.1 H4.out.2.2 H3.out.1 (Nat.le_refl _) Rdi.nil (fun _ _ e => by cases e)
        exact bodyPost_ret_by (results_blk rfl _ _ w.heap.size [_, _, _] rfl g1 Try.underlying64 (by kernel_rfl)) rfl ⟨none, 0, by rw [HG.out] <;> rfl, by rw [HG.out]; exact Rdi.nil, (fun _ _ e => by cases e), c2, by rw [HA.out]; exact g2, g3⟩
      · rw [hft] at HA HG
        simp only [if_true] at HA HG
        have b0 := H1.out.2.1.head.blk.at 0 rfl
        have b1 := H1.out.2.1.head.blk.at 1 rfl
        have b2 := H1.out.2.1.head.blk.at 2 rfl
        have b3 := H1.out.2.1.head.blk.at 3 rfl
        have b4 := H1.out.2.1.head.blk.at 4 rfl
        have b5 := H1.out.2.1.head.blk.at 5 rfl
        have b6 := H1.out.2.1.head.blk.at 6 rfl
        have b7 := H1.out.2.1.head.blk.at 7 rfl
        have b8 := H1.out.2.1.head.blk.at 8 rfl
        have b9 := H1.out.2.1.head.blk.at 9 rfl
        have b10 := H1.out.2.1.head.blk.at 10 rfl
        have b11 := H1.out.2.1.head.blk.at 11 rfl
        have b12 := H1.out.2.1.head.blk.at 12 rfl
        have CT := wtake_any fr sp se w1 H1.out.2.1 hft hfr hsp
        rw [show takeZ S.tick.n S.tick.F fr = takeZ S.n S.F fr from rfl, show S.tick.tkA fr sp = S.tkA fr sp from rfl] at CT
        clear hft
        generalize hZ : takeZ S.n S.F fr = Z at *
        generalize hY : S.tkA fr sp = ta at *
        have HZ : Hid (takeZ S.n S.F fr = Z ∧ S.tkA fr sp = ta) := ⟨hZ, hY⟩
        clear hZ hY
        go_wp2_with fail
        refine CT.mono ?_
        rintro e w2 ⟨x, d, rfl, s2, p2, r2, n2⟩
        have H2 : Hid (Blk w2 w.heap.size [.int .i64 0, .slice none 0 0, .int .i64 0] ∧ SH w2 c A (S.tick.tk fr sp se) ∧ Stp c w c w2 ∧ Rdi w2 x Z ∧ ∀ g o, x = some ⟨g, o, none⟩ → w1.heap.size ≤ g) := ⟨p2.blk H1.out.1 z1.out, s2, H1.out.2.2.trans p2, r2, n2⟩
        have hw2 : Hid (w1.heap.size ≤ w2.heap.size) := p2.mu.size
        clear CT s2 p2 r2 n2 b0 b1 b2 b3 b4 b5 b6 b7 b8 b9 b10 b11 b12
        have CL := fill_any i w2 H2.out.2.1 hi
        go_wp2_with fail
        refine CL.mono ?_
        rintro e w3 ⟨rfl, c3, s3, p3⟩
        have H3 : Hid (c3 w.heap.size = 0 ∧ Blk w3 w.heap.size [.int .i64 0, .slice none 0 0, .int .i64 0] ∧ SH w3 c3 A ((S.tick.tk fr sp se).fill i) ∧ Stp c w c3 w3 ∧ Rdi w3 x Z) := by
          refine ⟨(p3.same _ (by have := hw1.out; have := hw2.out; omega)).trans z1.out, p3.blk H2.out.1 z1.out, s3, H2.out.2.2.1.trans p3, p3.rdi H2.out.2.2.2.1 fun g o e => ?_⟩
          have := H2.out.2.2.2.2 g o e
          exact HB.out.2.2.2.2 g (by have := hw1.out; omega)
        clear CL s3 p3
        go_wp2_with fail
        refine (granted_any (x := x) (l := Z.length) (d := d) ta w3).mono ?_
        rintro e w4 ⟨rfl, k4⟩
        have H4 : Hid (Blk w4 w.heap.size [.int .i64 0, .slice none 0 0, .int .i64 0] ∧ SH w4 c3 A ((S.tick.tk fr sp se).fill i) ∧ Stp c w c3 w4 ∧ Rdi w4 x Z) := ⟨H3.out.2.1.kept k4, H3.out.2.2.1.kept k4, H3.out.2.2.2.1.trans (Stp.kept k4), H3.out.2.2.2.2.kept k4⟩
        clear k4
        have b0 := H4.out.1.at 0 rfl
        have b1 := H4.out.1.at 1 rfl
        have b2 := H4.out.1.at 2 rfl
        have bf := H4.out.1.fz
        go_wp2
        (try simp only [Exit.inBlock, Exit.then])
        obtain ⟨g1, g2, g3, g4⟩ := grant_end (x := x) (G := Z) (.int .i64 1) (.slice x Z.length d) (.int .i64 ta) H4.out.1 H4.out.2.1 H4.out.2.2.1 H3.out.1 (Nat.le_refl _) H4.out.2.2.2 (fun g o e => by have := H2.out.2.2.2.2 g o e; have := hw1.out; omega)
        exact bodyPost_ret_by (results_blk rfl _ _ w.heap.size [_, _, _] rfl g1 Try.underlying64 (by kernel_rfl)) rfl ⟨x, d, by rw [HG.out] <;> rfl, by rw [HG.out]; exact g4, (fun g o e => by have := H2.out.2.2.2.2 g o e; have := hw1.out; omega), c3, by rw [HA.out]; exact g2, g3⟩
    · have e0 : decide ((wts S.E).length = 0) = false := by simpa using hz
      rw [e0] at HA HG
      simp only [Bool.false_and, Bool.false_eq_true, if_false] at HA HG
      clear e0
      have HE : Hid (∀ e ∈ S.E, e.th ≠ (i : Int)) := HMY.out.2.2.2
      obtain ⟨lv, E, l1, l2, l3⟩ := H1.out.2.1.line
      have c2 := H1.out.2.1.head.blk.at 2 rfl
      have CA := ladd_yes (t := (i : Int)) (f := fr) (s := sp) (s3 := 0) (s4 := 0) (s5 := 0) (x := none) (l := 0) (c := 0) w1 l1 (by
        have e1 : E.length = S.E.length := by rw [show S.E = E.map Ent.nrm from l2.symm]; simp
        have := HK.out.1.len
        have := HK.out.2
        omega) (fun e he => by
        have := HE.out e.nrm (by rw [show S.E = E.map Ent.nrm from l2.symm]; exact List.mem_map_of_mem he)
        exact this)
      go_wp2_with fail
      refine CA.mono ?_
      rintro e w2 ⟨rfl, v', t2, m2, f2⟩
      have H2a := SH.lines H1.out.2.1 l3 t2 m2 (fun k hk => mem_foot.2 (by
        rcases List.mem_cons.1 hk with q | q
        · exact .inl q
        · exact .inr (.inl (by simpa using q)))) f2
      have H2 : Hid (∃ c', c' w.heap.size = 0 ∧ Blk w2 w.heap.size [.int .i64 0, .slice none 0 0, .int .i64 0] ∧ SH w2 c' A (S.tick.addE i fr sp) ∧ Stp c w c' w2) := by
        refine ⟨_, ?_, H2a.2.blk H1.out.1 z1.out, ?_, H1.out.2.2.trans H2a.2⟩
        · exact (H2a.2.same _ (by have := hw1.out; omega)).trans z1.out
        · have e : (E ++ [newEnt i fr sp]).map Ent.nrm = S.E ++ [newEnt i fr sp] := by
            rw [List.map_append, l2]; rfl
          have := H2a.1
          rw [e] at this
          exact this
      clear H2a t2 m2 f2 l1 l2 l3 CA c2
      obtain ⟨c2, H2'⟩ := H2.out
      have H3 : Hid (c2 w.heap.size = 0 ∧ Blk w2 w.heap.size [.int .i64 0, .slice none 0 0, .int .i64 0] ∧ SH w2 c2 A (S.tick.addE i fr sp) ∧ Stp c w c2 w2) := H2'
      clear H2 H2'
      go_wp2_with fail
      refine (without_any 0 w2).mono ?_
      rintro e w3 ⟨rfl, k3⟩
      have H4 : Hid (Blk w3 w.heap.size [.int .i64 0, .slice none 0 0, .int .i64 0] ∧ SH w3 c2 A (S.tick.addE i fr sp) ∧ Stp c w c2 w3) := ⟨H3.out.2.1.kept k3, H3.out.2.2.1.kept k3, H3.out.2.2.2.trans (Stp.kept k3)⟩
      clear k3
      have b0 := H4.out.1.at 0 rfl
      have b1 := H4.out.1.at 1 rfl
      have b2 := H4.out.1.at 2 rfl
      have bf := H4.out.1.fz
      go_wp2
      (try simp only [Exit.inBlock, Exit.then])
      obtain ⟨g1, g2, g3, _⟩ := grant_end (x := none) (G := []) (.int .i64 0) (.slice none 0 0) (.int .i64 (-1)) H4.out.1 H4.out.2.1 H4.out.2.2 H3.out.1 (Nat.le_refl _) Rdi.nil (fun _ _ e => by cases e)
      exact bodyPost_ret_by (results_blk rfl _ _ w.heap.size [_, _, _] rfl g1 Try.underlying64 (by kernel_rfl)) rfl ⟨none, 0, by rw [HG.out] <;> rfl, by rw [HG.out]; exact Rdi.nil, (fun _ _ e => by cases e), c2, by rw [HA.out]; exact g2, g3⟩
end
end Go.Proofs.Ytiigmmmhhpdmdaa

/-
  Contracts of package space: Look, Drain, Sweep, Begin, End, and what only tells.
-/
namespace Go.Proofs.Ytiigmmmhhpdmdaa
open Go.RowKit

def Sp.dropE (S : Sp) (t : Int) : Sp := { S with E := S.E.eraseIdx (idx (fun e => e.th == t) S.E).toNat }
def Sp.look (S : Sp) (t : Int) : Sp := match S.of t with
  | none => S.tick
  | some e => if e.st == 0 then S.tick else S.tick.dropE t
def Sp.lookG (S : Sp) (t : Int) : Gr := match S.of t with
  | none => ⟨3, [], -1⟩
  | some e => if e.st == 0 then ⟨0, [], -1⟩ else if e.st == 1 then ⟨1, e.G, e.pl⟩ else ⟨e.st, [], -1⟩
/-- One is given back. -/
def Sp.fre (S : Sp) (x : Int) : Sp := { S with T := setT S.n S.T x 0 false false, F := giveF S.n S.F x }
def Sp.fres (S : Sp) (L : List Int) : Sp := L.foldl Sp.fre S
def Sp.drain (S : Sp) (t : Int) : Sp := if S.isT t then ({ S.tick with Q := fun j => if j = t.toNat then [] else S.Q j } : Sp).fres (S.Q t.toNat) else S.tick
def Sp.drainN (S : Sp) (t : Int) : Int := if S.isT t then ((S.Q t.toNat).length : Int) else 0
def Sp.sweeps (S : Sp) (i : Int) (se : Bool) : Bool := (stt S.n S.T i == 2) && !blk S.n S.T i se
def Sp.sweep (S : Sp) (i : Int) (se : Bool) : Sp := if S.sweeps i se then S.tick.fre i else S.tick
def Sp.begin (S : Sp) : Sp := { S.tick with fo := false, E := S.E.map noteE }
def Sp.end_ (S : Sp) : Sp := { S.tick with E := S.E.map endE }

theorem idx_nrm (p : Ent → Bool) (hp : ∀ e, p e.nrm = p e) (E : List Ent) : idx p (E.map Ent.nrm) = idx p E := by
  unfold idx
  rw [List.findIdx?_map]
  rw [show (p ∘ Ent.nrm) = p from funext hp]
theorem fres_take {S : Sp} {L : List Int} {k : Nat} (hk : k < L.length) : (S.fres (L.take k)).fre L[k] = S.fres (L.take (k + 1)) := by
  unfold Sp.fres
  rw [List.take_add_one, List.getElem?_eq_getElem hk, Option.toList_some, List.foldl_append]
  rfl
theorem fres_same (L : List Int) : ∀ (S : Sp), (S.fres L).m = S.m ∧ (S.fres L).Q = S.Q ∧ (S.fres L).E = S.E ∧ (S.fres L).n = S.n ∧ (S.fres L).K = S.K ∧ (S.fres L).ct = S.ct ∧ (S.fres L).fo = S.fo ∧ (S.fres L).most = S.most := by
  induction L with
  | nil => intro S; exact ⟨rfl, rfl, rfl, rfl, rfl, rfl, rfl, rfl⟩
  | cons x L ih => intro S; exact ih (S.fre x)

section
variable {c c' : Nat → Nat} {w w' W : World} {A : Ad} {S : Sp}

set_option maxHeartbeats 400000 in
theorem wcount_any (w : World) (h : SH w c A S) : Calls Try.prog 44 #[.pointer (some ⟨A.b, 0, none⟩)] w fun e w' => e = .returned (.int .i64 S.ct) ∧ w' = w := by
  have c15 := h.head.blk.at 15 rfl
  clear h
  go_enter Try.func44, Try.ntmps44
  go_wp2
  go_ret
  exact ⟨rfl, rfl⟩
set_option maxHeartbeats 400000 in
theorem wfrees_any (w : World) (h : SH w c A S) : Calls Try.prog 17 #[.pointer (some ⟨A.b, 0, none⟩)] w fun e w' => e = .returned (.int .i64 (cntB S.F S.n : Int)) ∧ w' = w := by
  have c1 := h.head.blk.at 1 rfl
  have C := pfree_any w h.pool
  clear h
  go_enter Try.func17, Try.ntmps17
  go_wp2_with fail
  refine C.mono ?_
  rintro e w2 ⟨rfl, e2⟩
  rw [e2]
  clear e2 C
  go_wp2
  go_ret
  exact ⟨rfl, rfl⟩
set_option maxHeartbeats 400000 in
theorem wwaits_any (w : World) (h : SH w c A S) : Calls Try.prog 26 #[.pointer (some ⟨A.b, 0, none⟩)] w fun e w' => e = .returned (.int .i64 ((wts S.E).length : Int)) ∧ Kept w w' := by
  have c2 := h.head.blk.at 2 rfl
  obtain ⟨v, E, q1, q2, _⟩ := h.line
  have C := lwaits_any w q1
  have hwl : (wts E).length = (wts S.E).length := by
    rw [show S.E = E.map Ent.nrm from q2.symm]
    unfold wts
    rw [List.filter_map, List.length_map]
    rfl
  rw [hwl] at C
  clear h q1 q2 hwl
  go_enter Try.func26, Try.ntmps26
  go_wp2_with fail
  refine C.mono ?_
  rintro e w2 ⟨rfl, k2⟩
  have K2 : Hid (Kept w w2) := k2
  clear k2 C c2
  go_wp2
  go_ret
  exact ⟨rfl, K2.out⟩

theorem foot_note {b : Nat} {v : Value} {E : List Ent} {f : Ent → Ent} (hf : ∀ e, (f e).gx = e.gx) {k : Nat} (h : k ∈ foot b v (E.map f)) : k ∈ foot b v E := foot_upd hf h

end
end Go.Proofs.Ytiigmmmhhpdmdaa

