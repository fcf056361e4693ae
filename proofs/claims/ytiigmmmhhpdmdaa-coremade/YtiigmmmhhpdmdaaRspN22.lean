/-
  The document's NewSpace: it answers a space, and all below is as it was.
-/
import Derived.Test.YtiigmmmhhpdmdaaRef8
import Derived.Test.YtiigmmmhhpdmdaaRCoil
import Derived.Test.YtiigmmmhhpdmdaaRef7b
import Derived.Test.YtiigmmmhhpdmdaaB12
import Derived.Test.YtiigmmmhhpdmdaaB07
import Derived.Test.YtiigmmmhhpdmdaaB14
namespace Go.Proofs.Ytiigmmmhhpdmdaa
open Go.RowKit

/-- A pointer, as a row of one cell. -/
def ent (q : Nat) : Ent := ⟨(q : Int), 0, 0, 0, 0, 0, none, 0, [], false⟩
def pc (e : Ent) : List Value := [.pointer (some ⟨e.th.toNat, 0, none⟩)]
def ents (q : Nat → Nat) (k : Nat) : List Ent := (List.range k).map fun i => ent (q i)
theorem pc_len (e : Ent) : (pc e).length = 1 := rfl
theorem pc_one (e : Ent) : ∀ u ∈ pc e, u.oneCell' = true := by simp [pc, Value.oneCell']
theorem ents_len (q : Nat → Nat) (k : Nat) : (ents q k).length = k := by simp [ents]
theorem ents_pc (q : Nat → Nat) (k : Nat) : (ents q k).flatMap pc = (List.range k).map fun i => Value.pointer (some ⟨q i, 0, none⟩) := by
  induction k with
  | zero => rfl
  | succ k ih =>
    have e : ents q (k + 1) = ents q k ++ [ent (q k)] := by simp [ents, List.range_succ]
    rw [e, List.flatMap_append, ih, List.range_succ, List.map_append]
    simp [pc, ent]
theorem ents_succ (q q' : Nat → Nat) (k b : Nat) (h : ∀ i, i < k → q' i = q i) (hb : q' k = b) : ents q' (k + 1) = ents q k ++ [ent b] := by
  have e : ents q' (k + 1) = ents q' k ++ [ent (q' k)] := by simp [ents, List.range_succ]
  rw [e, hb]
  congr 1
  apply List.map_congr_left
  intro i hi
  rw [h i (by simpa using hi)]
theorem info_rptr : (Try.prog.info? 169).map (fun i => (i.zero, i.size, i.bytes)) = some (some (.pointer none), 1, 8) := by kernel_rfl

/-- A row of pointers that is the call's own. -/
theorem ptr_row {t : TypeId} {w : World} {base m : Nat} {v : Value} {q : Nat → Nat} (h : Rw t 1 pc w base v (ents q m)) (hm : 0 < m) :
    ∃ g cap f, v = .slice (some ⟨g, 0, none⟩) m cap ∧ base ≤ g ∧ m ≤ cap ∧ w.rowIs g t cap f ∧ ∀ i, i < m → f i = .pointer (some ⟨q i, 0, none⟩) := by
  unfold Rw at h
  rw [ents_len] at h
  rcases h.2 with ⟨_, e⟩ | ⟨g, cap, cur, hv, hb, hg, hn, _, hs, ht⟩
  · omega
  · refine ⟨g, cap, fun i => cur[i]?.getD (.pointer none), hv, hb, hn, ⟨cur, hg, by simpa using hs, fun i hi => ?_⟩, fun i hi => ?_⟩
    · have : i < cur.size := by omega
      simp [this]
    · have e : (cur.toList.take (m * 1))[i]? = some (.pointer (some ⟨q i, 0, none⟩)) := by
        rw [ht, ents_pc]
        simp [hi]
      rw [List.getElem?_take_of_lt (by omega)] at e
      have e2 : cur[i]? = some (.pointer (some ⟨q i, 0, none⟩)) := by simpa using e
      show cur[i]?.getD _ = _
      rw [e2]
      rfl

/-- While NewSpace lays its stocks: its head at b, with the row of stocks v; k stocks are there. -/
structure RN (W : World) (b : Nat) (L : Value → List Value) (ch : Nat) (q : Nat → Nat) (k : Nat) (v : Value) (u : World) : Prop where
  mu : Mut [b] W u
  head : Own u b 164 (L v)
  row : Rw 169 1 pc u W.heap.size v (ents q k)
  stk : ∀ i, i < k → STab 171 u 0 (q i) ch (.slice none 0 0) [] ∧ W.heap.size ≤ q i ∧ v.ownBlock ≠ some (q i)
  inj : ∀ i j, i < j → j < k → q i < q j

section
variable {W u u2 w' : World} {b ch k s : Nat} {L : Value → List Value} {q : Nat → Nat} {v v' : Value}
theorem RN.step (h : RN W b L ch q k v u) (hb : b < W.heap.size) (kp : Kept u u2) (hs : u.heap.size ≤ s) (hq : ∀ i, i < k → q i < s) (hsu : s < u2.heap.size) (t : STab 171 u2 0 s ch (.slice none 0 0) []) (r : Rw 169 1 pc w' W.heap.size v' (ents q k ++ [ent s]))
    (m : Mut v.ownBlock.toList u2 w') (f : Fresh u2 v v') (hL : ∀ v v', (L v).set 11 v' = L v') :
    RN W b L ch (fun i => if i = k then s else q i) (k + 1) v' (w'.setCell ⟨b, 11, none⟩ v') := by
  have hn : ∀ d, v.ownBlock = some d → W.heap.size ≤ d ∧ d < u.heap.size := h.row.lt
  have hn' : ∀ d, v'.ownBlock = some d → W.heap.size ≤ d ∧ d < w'.heap.size := r.lt
  have hW : W.heap.size ≤ u.heap.size := h.mu.size
  have mb : Mut [b] w' (w'.setCell ⟨b, 11, none⟩ v') := (Mut.refl _ _).setCell (by simp) _
  have nb : b ∉ v.ownBlock.toList := fun hd => by
    have := hn b (by simpa using hd)
    omega
  have S : ∀ i, STab 171 u2 0 i ch (.slice none 0 0) [] → i ≠ b → v.ownBlock ≠ some i → STab 171 (w'.setCell ⟨b, 11, none⟩ v') 0 i ch (.slice none 0 0) [] := fun i hi e1 e2 =>
    (hi.muts m (by simpa using e2) (fun k hk => by simp [Value.ownBlock] at hk)).muts mb (by simpa using e1) (fun k hk => by simp [Value.ownBlock] at hk)
  refine ⟨?_, ?_, ?_, fun i hi => ?_, fun i j hij hj => ?_⟩
  · have m2 : Mut [b] W w' := mut_trans (mut_trans h.mu kp.mut (D := [b]) (E := []) fun _ hj _ => by cases hj) m fun j hj hl => by
      have := hn j (by simpa using hj)
      omega
    exact m2.setCell (by simp) _
  · have := ((h.head.kept kp).muts m nb).set 11 v'
    rwa [hL] at this
  · have e := ents_succ q (fun i => if i = k then s else q i) k s (fun i hi => by simp [Nat.ne_of_lt hi]) (by simp)
    rw [e]
    exact r.muts mb fun d hd hx => by
      simp only [List.mem_singleton] at hx
      have := hn' d hd
      omega
  · by_cases e : i = k
    · subst e
      simp only [if_true]
      refine ⟨S s t (by omega) (fun q => by have := hn s q; omega), by omega, fun hq' => ?_⟩
      rcases f s hq' with g | g
      · have := hn s g
        omega
      · omega
    · simp only [e, if_false]
      obtain ⟨s1, s2, s3⟩ := h.stk i (by omega)
      refine ⟨S _ (s1.kept kp) (by omega) s3, s2, fun hq' => ?_⟩
      have := hq i (by omega)
      rcases f _ hq' with g | g
      · exact s3 g
      · omega
  · have hi : i ≠ k := by omega
    simp only [hi, if_false]
    by_cases e : j = k
    · simp only [e, if_true]
      exact hq i (by omega)
    · simp only [e, if_false]
      exact h.inj i j hij (by omega)
theorem RN.lq (h : RN W b L ch q k v u) : ∀ i, i < k → q i < u.heap.size := fun i hi => (h.stk i hi).1.ltb
end

/-- Its head's cells, with the row of stocks v. -/
def hdG (C : Cv) (tb : Nat) (p v k : Value) : List Value := [.int .i64 C.n0, .int .i64 C.n1, .int .i64 C.n2, .int .i64 C.n3, .int .i64 C.n4, .int .i64 C.n5, .int .i64 C.n6, .int .i64 C.n7, .slice C.x C.l C.c,
  .pointer (some ⟨tb, 0, none⟩), p, v, .slice none 0 0, .slice none 0 0, k, .bool false, .int .i64 0]
def hdR (C : Cv) (tb pb kb : Nat) (v : Value) : List Value := hdG C tb (.pointer (some ⟨pb, 0, none⟩)) v (.pointer (some ⟨kb, 0, none⟩))
theorem hdR_set (C : Cv) (tb pb kb : Nat) (v v' : Value) : (hdR C tb pb kb v).set 11 v' = hdR C tb pb kb v' := rfl

set_option maxHeartbeats 8000000 in
set_option maxRecDepth 20000 in
theorem rspace_new (n s m ch : Nat) (n2 n4 n6 n7 : Int) (x : Option Addr) (l c : Nat) (S : Nat → Sh) (tb gs gh gc : Nat) (w : World) (t : RtT w tb gs gh gc n T0) (hS : Shps w x l S) (hg : Good n s n2 m n4 ch n6 n7 l S) :
    Calls Try.prog 38 #[.agg #[.int .i64 (n : Int), .int .i64 (s : Int), .int .i64 n2, .int .i64 (m : Int), .int .i64 n4, .int .i64 (ch : Int), .int .i64 n6, .int .i64 n7, .slice x l c], .pointer (some ⟨tb, 0, none⟩)] w fun e w' => ∃ b, e = .returned (.tuple #[.pointer (some ⟨b, 0, none⟩), .int .i64 0]) ∧ w.heap.size ≤ b ∧ Kept w w' := by
  have hg' := hg
  obtain ⟨g0, g1, g2, g3⟩ := hg
  have HG : Hid (Good n s n2 m n4 ch n6 n7 l S) := hg'
  have HT : Hid (RtT w tb gs gh gc n T0 ∧ Shps w x l S) := ⟨t, hS⟩
  have BD : Hid (n ≤ 1024 ∧ s ≤ 2048 ∧ 0 < m ∧ m ≤ 16 ∧ ch ≤ 8) := by
    obtain ⟨q0, q1, q2, q6, q7, q3, q4, q5, q8⟩ := g0
    exact ⟨by omega, by omega, by omega, by omega, by omega⟩
  clear t hS hg' g0 g1 g2 g3
  go_enter Try.func38, Try.ntmps38
  go_wp2_with fail
  generalize hW : w.alloc _ = W0
  have H0 : Hid (Blk W0 w.heap.size [.int .i64 (n : Int), .int .i64 (s : Int), .int .i64 n2, .int .i64 (m : Int), .int .i64 n4, .int .i64 (ch : Int), .int .i64 n6, .int .i64 n7, .slice x l c] ∧ Kept w W0 ∧ w.heap.size < W0.heap.size) := by
    rw [← hW]
    exact ⟨Blk.new w _ _, (Kept.refl w).alloc _ _, by simp⟩
  clear hW
  have b0 := H0.out.1.at 0 rfl
  have b1 := H0.out.1.at 1 rfl
  have b2 := H0.out.1.at 2 rfl
  have b3 := H0.out.1.at 3 rfl
  have b4 := H0.out.1.at 4 rfl
  have b5 := H0.out.1.at 5 rfl
  have b6 := H0.out.1.at 6 rfl
  have b7 := H0.out.1.at 7 rfl
  have b8 := H0.out.1.at 8 rfl
  go_wp2_with fail
  refine (ref_check n s n2 m n4 ch n6 n7 x l c S 0 W0 (HT.out.2.kept H0.out.2.1) (Checks.of_ok HG.out.1 HG.out.2)).mono ?_
  rintro e w1 ⟨rfl, k1⟩
  have H1 : Hid (Blk w1 w.heap.size [.int .i64 (n : Int), .int .i64 (s : Int), .int .i64 n2, .int .i64 (m : Int), .int .i64 n4, .int .i64 (ch : Int), .int .i64 n6, .int .i64 n7, .slice x l c] ∧ Kept w w1) := ⟨H0.out.1.kept k1, H0.out.2.1.trans k1⟩
  clear k1 H0 b0 b1 b2 b3 b4 b5 b6 b7 b8
  have L1 := H1.out.1.lt
  have LT := (HT.out.1.kept H1.out.2).head.lt
  have d0 := fun z : KW w1 => z.cell (a := ⟨w.heap.size, 0, none⟩) L1 (H1.out.1.at 0 rfl)
  have dt := fun z : KW w1 => z.cell (a := ⟨tb, 0, none⟩) LT (HT.out.1.kept H1.out.2).hd0
  have hnn : ((n : Int) != (n : Int)) = false := by simp
  go_wp2_with fail
  refine wp_region_kept (by kernel_rfl) (by kernel_rfl) fun _ => ?_
  repeat (go_big_quiet_step (skip))
  refine wpQuiet_nil ?_
  rintro _ ⟨z, rfl⟩
  have H2 : Hid (Blk z.it w.heap.size [.int .i64 (n : Int), .int .i64 (s : Int), .int .i64 n2, .int .i64 (m : Int), .int .i64 n4, .int .i64 (ch : Int), .int .i64 n6, .int .i64 n7, .slice x l c] ∧ Kept w z.it ∧ w.heap.size < z.it.heap.size) := ⟨H1.out.1.kept z.ok, H1.out.2.trans z.ok, (H1.out.1.kept z.ok).lt⟩
  clear d0 dt L1 LT hnn
  generalize z.it = w2 at *
  clear z H1
  have b0 := H2.out.1.at 0 rfl
  have b1 := H2.out.1.at 1 rfl
  have b2 := H2.out.1.at 2 rfl
  have b3 := H2.out.1.at 3 rfl
  have b4 := H2.out.1.at 4 rfl
  have b5 := H2.out.1.at 5 rfl
  have b6 := H2.out.1.at 6 rfl
  have b7 := H2.out.1.at 7 rfl
  have b8 := H2.out.1.at 8 rfl
  go_upto_region 7 with fail
  generalize hW : w2.alloc _ = W3
  obtain ⟨hb, hhb⟩ : ∃ hb, hb = w2.heap.size := ⟨_, rfl⟩
  rw [← hhb]
  have H3 : Hid (Own W3 hb 164 (hdG ⟨n, s, n2, m, n4, ch, n6, n7, x, l, c, S⟩ tb (.pointer none) (.slice none 0 0) (.pointer none)) ∧ Blk W3 w.heap.size [.int .i64 (n : Int), .int .i64 (s : Int), .int .i64 n2, .int .i64 (m : Int), .int .i64 n4, .int .i64 (ch : Int), .int .i64 n6, .int .i64 n7, .slice x l c] ∧ Kept w W3 ∧ w.heap.size < hb ∧ w.heap.size ≤ hb ∧ hb < W3.heap.size) := by
    rw [← hW, hhb]
    have := H2.out.2.2
    exact ⟨Own.new w2 _ _, H2.out.1.kept ((Kept.refl _).alloc _ _), H2.out.2.1.alloc _ _, this, by omega, by simp⟩
  clear hW b0 b1 b2 b3 b4 b5 b6 b7 b8 hhb H2
  have b0 := H3.out.2.1.at 0 rfl
  go_wp2_with fail
  refine (prnew_any n W3 BD.out.1).mono ?_
  rintro e w4 ⟨pb, pg, rfl, pt, p1, p2, k4⟩
  have o4 := (H3.out.1.kept k4)
  have f10 := o4.blk.fz 10
  have c10 : w4.cell? ⟨hb, 10, none⟩ = some (.pointer none) := o4.blk.at 10 rfl
  have H4 : Hid (Own (w4.setCell ⟨hb, 10, none⟩ (.pointer (some ⟨pb, 0, none⟩))) hb 164 (hdG ⟨n, s, n2, m, n4, ch, n6, n7, x, l, c, S⟩ tb (.pointer (some ⟨pb, 0, none⟩)) (.slice none 0 0) (.pointer none)) ∧
      Blk (w4.setCell ⟨hb, 10, none⟩ (.pointer (some ⟨pb, 0, none⟩))) w.heap.size [.int .i64 (n : Int), .int .i64 (s : Int), .int .i64 n2, .int .i64 (m : Int), .int .i64 n4, .int .i64 (ch : Int), .int .i64 n6, .int .i64 n7, .slice x l c] ∧ Kept w (w4.setCell ⟨hb, 10, none⟩ (.pointer (some ⟨pb, 0, none⟩))) ∧
      PTab 199 (w4.setCell ⟨hb, 10, none⟩ (.pointer (some ⟨pb, 0, none⟩))) pb pg n F1 ∧ hb < pb ∧ hb < pg) := by
    have mb : Mut [hb] w4 (w4.setCell ⟨hb, 10, none⟩ (.pointer (some ⟨pb, 0, none⟩))) := (Mut.refl _ _).setCell (by simp) _
    have h1 := H3.out.2.2.2.1
    have h2 := H3.out.2.2.2.2.2
    exact ⟨o4.set 10 _, (H3.out.2.1.kept k4).muts mb (by simp; omega), (H3.out.2.2.1.trans k4).setCell H3.out.2.2.2.2.1 _, pt.muts mb (by simp; omega) (by simp; omega), by omega, by omega⟩
  clear k4 pt p1 p2 b0
  go_upto_region 8 with fail
  generalize w4.setCell _ _ = w5 at *
  clear f10 o4 c10
  have b1 := H4.out.2.1.at 1 rfl
  go_wp2_with fail
  refine (krnew_any s w5 BD.out.2.1).mono ?_
  rintro e w6 ⟨kb, rfl, kt, k6, p6⟩
  have o6 := (H4.out.1.kept k6)
  have f14 := o6.blk.fz 14
  have c14 : w6.cell? ⟨hb, 14, none⟩ = some (.pointer none) := o6.blk.at 14 rfl
  have H6 : Hid (Own (w6.setCell ⟨hb, 14, none⟩ (.pointer (some ⟨kb, 0, none⟩))) hb 164 (hdR ⟨n, s, n2, m, n4, ch, n6, n7, x, l, c, S⟩ tb pb kb (.slice none 0 0)) ∧
      Blk (w6.setCell ⟨hb, 14, none⟩ (.pointer (some ⟨kb, 0, none⟩))) w.heap.size [.int .i64 (n : Int), .int .i64 (s : Int), .int .i64 n2, .int .i64 (m : Int), .int .i64 n4, .int .i64 (ch : Int), .int .i64 n6, .int .i64 n7, .slice x l c] ∧ Kept w (w6.setCell ⟨hb, 14, none⟩ (.pointer (some ⟨kb, 0, none⟩))) ∧
      PTab 199 (w6.setCell ⟨hb, 14, none⟩ (.pointer (some ⟨kb, 0, none⟩))) pb pg n F1 ∧ CTab 201 (w6.setCell ⟨hb, 14, none⟩ (.pointer (some ⟨kb, 0, none⟩))) kb ⟨s, 0, 0, 0, 0⟩ ∧ (hb < pb ∧ hb < pg ∧ pb < kb ∧ pg < kb) ∧ w.heap.size < hb ∧ hb < w6.heap.size) := by
    have mb : Mut [hb] w6 (w6.setCell ⟨hb, 14, none⟩ (.pointer (some ⟨kb, 0, none⟩))) := (Mut.refl _ _).setCell (by simp) _
    have h1 := H3.out.2.2.2.1
    have h3 := H4.out.2.2.2.2.1
    have h4 := H4.out.2.2.2.2.2
    have h5 := H4.out.2.2.2.1.ltb
    have h6 := H4.out.2.2.2.1.ltg
    have h7 := k6.size
    exact ⟨o6.set 14 _, (H4.out.2.1.kept k6).muts mb (by simp; omega), (H4.out.2.2.1.trans k6).setCell H3.out.2.2.2.2.1 _, (H4.out.2.2.2.1.kept k6).muts mb (by simp; omega) (by simp; omega), kt.muts mb (by simp; omega), ⟨h3, h4, by omega, by omega⟩, h1, by omega⟩
  clear k6 kt p6 b1 H4 H3
  go_upto_region 9 with fail
  have lw6 : w6.heap.size = (w6.setCell ⟨hb, 14, none⟩ (.pointer (some ⟨kb, 0, none⟩))).heap.size := by simp
  rw [lw6] at H6
  clear lw6
  generalize w6.setCell _ _ = W at *
  clear f14 o6 c14
  have hm16 := BD.out.2.2.2.1
  go_wp2_with fail
  go_loopg [8] m (fun mm i wr => ∃ (k : Nat) (v : Value) (q : Nat → Nat), i = .int .i64 k ∧ k ≤ m ∧ mm = m - k ∧ Hid (RN W hb (hdR ⟨n, s, n2, m, n4, ch, n6, n7, x, l, c, S⟩ tb pb kb) ch q k v wr))
  case atStart => exact ⟨0, .slice none 0 0, fun _ => 0, rfl, by omega, by omega, Mut.refl _ _, H6.out.1, Rw.nil _ _ _ _ _, fun i hi => by omega, fun i j _ hj => by omega⟩
  case round =>
    obtain ⟨k, v, q, rfl, hk, hm, hw⟩ := hrel
    have HM : Hid _ := hm
    clear hm
    have HC : Hid (Blk wr w.heap.size [.int .i64 (n : Int), .int .i64 (s : Int), .int .i64 n2, .int .i64 (m : Int), .int .i64 n4, .int .i64 (ch : Int), .int .i64 n6, .int .i64 n7, .slice x l c]) := H6.out.2.1.muts hw.out.mu (by have := H6.out.2.2.2.2.2.2.1; simp; omega)
    have b3 := HC.out.at 3 rfl
    by_cases hlt : k < m
    · have b5 := HC.out.at 5 rfl
      have c11 : wr.cell? ⟨hb, 11, none⟩ = some v := hw.out.head.blk.at 11 rfl
      have kk : Kept wr ((wr.alloc (.cells #[.int .i64 (ch : Int), .slice none 0 0] 171)).alloc (.cells #[.pointer (some ⟨wr.heap.size, 0, none⟩)] 169)).drew := (((Kept.refl wr).alloc _ _).alloc _ _).drew
      have ka : ∀ A u, Kept wr (wr.alloc (.cells A u)) := fun A u => (Kept.refl wr).alloc _ _
      have kb2 : ∀ A u A' u', Kept wr ((wr.alloc (.cells A u)).alloc (.cells A' u')) := fun A u A' u' => ((Kept.refl wr).alloc _ _).alloc _ _
      have ts : STab 171 ((wr.alloc (.cells #[.int .i64 (ch : Int), .slice none 0 0] 171)).alloc (.cells #[.pointer (some ⟨wr.heap.size, 0, none⟩)] 169)).drew 0 wr.heap.size ch (.slice none 0 0) [] :=
        STab.kept ⟨Own.new wr _ _, Lst.nil _ _, by simp, BD.out.2.2.2.2, Nat.zero_le _, by decide⟩ ((((Kept.refl _).alloc _ _)).drew)
      have es : (wr.alloc (.cells #[.int .i64 (ch : Int), .slice none 0 0] 171)).heap.size = wr.heap.size + 1 := by simp
      have cb : ((wr.alloc (.cells #[.int .i64 (ch : Int), .slice none 0 0] 171)).alloc (.cells #[.pointer (some ⟨wr.heap.size, 0, none⟩)] 169)).drew.cell? ⟨wr.heap.size + 1, 0, none⟩ = some (.pointer (some ⟨wr.heap.size, 0, none⟩)) := by
        have := ((Blk.new (wr.alloc (.cells #[.int .i64 (ch : Int), .slice none 0 0] 171)) [.pointer (some ⟨wr.heap.size, 0, none⟩)] 169).kept (Kept.refl _).drew).at 0 rfl
        rwa [es] at this
      obtain ⟨v', w', hrun0, r', m', f'⟩ := run_append_rw (P := Try.prog) (t := 169) (ts := 158) (ty := 158) (m := 1) (c := pc) (T := [ent wr.heap.size]) (y := some ⟨wr.heap.size + 1, 0, none⟩) (d := 1) Try.underlying158 info_rptr rfl (by decide) (by decide) pc_len pc_one (hw.out.row.kept kk) (Nat.le_trans hw.out.mu.size kk.size)
        (fun _ => ⟨_, rfl, fun j u hu => by
          have hj : j = 0 := by
            have := (List.getElem?_eq_some_iff.1 hu).1
            simp [pc] at this
            omega
          subst hj
          have hu' : u = .pointer (some ⟨wr.heap.size, 0, none⟩) := by
            simp [pc, ent] at hu
            exact hu.symm
          subst hu'
          exact cb⟩) (by simp [ents_len]; omega)
      have hrun : (Builtin.append_ #[158, 158] 158 #[v, .slice (some ⟨wr.heap.size + 1, 0, none⟩) 1 1]).run Try.prog ((wr.alloc (.cells #[.int .i64 (ch : Int), .slice none 0 0] 171)).alloc (.cells #[.pointer (some ⟨wr.heap.size, 0, none⟩)] 169)).drew = .ok v' w' := hrun0
      clear hrun0
      have hbW := H6.out.2.2.2.2.2.2.2
      have HN : Hid (RN W hb (hdR ⟨n, s, n2, m, n4, ch, n6, n7, x, l, c, S⟩ tb pb kb) ch (fun i => if i = k then wr.heap.size else q i) (k + 1) v' (w'.setCell ⟨hb, 11, none⟩ v')) := hw.out.step hbW kk (Nat.le_refl _) hw.out.lq ts.ltb ts r' m' f' (fun _ _ => rfl)
      have ow : Own w' hb 164 (hdR ⟨n, s, n2, m, n4, ch, n6, n7, x, l, c, S⟩ tb pb kb v) := (hw.out.head.kept kk).muts m' (fun hd => by
        have := hw.out.row.lt hb (by simpa using hd)
        omega)
      have fz : w'.frozen? ⟨hb, 11, none⟩ = false := ow.blk.fz 11
      have cw : w'.cell? ⟨hb, 11, none⟩ = some v := ow.blk.at 11 rfl
      clear ow
      have ca : ∀ A u, (wr.alloc (.cells A u)).cell? ⟨hb, 11, none⟩ = some v := fun A u => ((ka A u).cell hw.out.head.lt).trans c11
      have ca2 : ∀ A u A' u', ((wr.alloc (.cells A u)).alloc (.cells A' u')).cell? ⟨hb, 11, none⟩ = some v := fun A u A' u' => ((kb2 A u A' u').cell hw.out.head.lt).trans c11
      obtain ⟨yv, dv, ev⟩ := hw.out.row.form
      rw [ents_len] at ev
      subst ev
      obtain ⟨yv', dv', ev'⟩ := r'.form
      rw [List.length_append, ents_len, show ([ent wr.heap.size] : List Ent).length = 1 from rfl] at ev'
      subst ev'
      clear ts r' m' f' hbW cb es
      clear kk ka kb2 hw HC
      go_wp2_with fail
      go_region_law (refine step_append_eq rfl (.tmp 58) (.tmp 63) 158 rfl (by first | rfl | (simp [Act.eval]; done) | simp [Act.eval, Act.put]) (by first | rfl | (simp [Act.eval]; done) | simp [Act.eval, Act.put]) hrun ?_)
      all_goals clear hrun
      all_goals go_wp2
      all_goals go_roundg (gk - 1)
      all_goals (have := HM.out; try omega)
      all_goals exact ⟨k + 1, _, _, by go_num, by omega, by omega, HN⟩
    · obtain rfl : k = m := by omega
      go_wp2
      go_ret2
      refine ⟨hb, rfl, Nat.le_of_lt H6.out.2.2.2.2.2.2.1, ?_⟩
      exact H6.out.2.2.1.muts hw.out.mu fun j hj => by
        have h5 := H6.out.2.2.2.2.2.2.1
        rw [List.mem_singleton.1 hj]
        omega
end Go.Proofs.Ytiigmmmhhpdmdaa
