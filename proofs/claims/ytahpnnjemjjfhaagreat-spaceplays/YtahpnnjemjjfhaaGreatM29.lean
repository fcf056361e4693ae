/-
  The modules RspG, one behind another.
-/
import Derived.Test.YtahpnnjemjjfhaaGreatM28
/-
  The document's space: NewSpace.
-/
namespace Go.Proofs.YtahpnnjemjjfhaaGreat
open Go.RowKit

/-- A pointer, as a row of one cell. -/
def ent (q : Nat) : Ent := ⟨(q : Int), 0, 0, 0, 0, 0, none, 0, [], false⟩
def pc (e : Ent) : List Value := [.pointer (some ⟨e.th.toNat, 0, none⟩)]
def ents (q : Nat → Nat) (k : Nat) : List Ent := (List.range k).map fun i => ent (q i)
theorem pc_len (e : Ent) : (pc e).length = 1 := rfl
theorem pc_one (e : Ent) : ∀ u ∈ pc e, u.oneCell' = true := by simp [pc, Value.oneCell']
theorem ents_len (q : Nat → Nat) (k : Nat) : (ents q k).length = k := by simp [ents]
theorem ents_pc (q : Nat → Nat) (k : Nat) : (ents q k).flatMap pc = (List.range k).map fun i => Value.pointer (some ⟨q i, 0, none⟩) := by
  induction k with
  | zero => rfl
  | succ k ih =>
    have e : ents q (k + 1) = ents q k ++ [ent (q k)] := by simp [ents, List.range_succ]
    rw [e, List.flatMap_append, ih, List.range_succ, List.map_append]
    simp [pc, ent]
theorem ents_succ (q q' : Nat → Nat) (k b : Nat) (h : ∀ i, i < k → q' i = q i) (hb : q' k = b) : ents q' (k + 1) = ents q k ++ [ent b] := by
  have e : ents q' (k + 1) = ents q' k ++ [ent (q' k)] := by simp [ents, List.range_succ]
  rw [e, hb]
  congr 1
  apply List.map_congr_left
  intro i hi
  rw [h i (by simpa using hi)]
theorem info_rptr : (Tryz.prog.info? 100).map (fun i => (i.zero, i.size, i.bytes)) = some (some (.pointer none), 1, 8) := by kernel_rfl

/-- A row of pointers that is the call's own. -/
theorem ptr_row {t : TypeId} {w : World} {base m : Nat} {v : Value} {q : Nat → Nat} (h : Rw t 1 pc w base v (ents q m)) (hm : 0 < m) :
    ∃ g cap f, v = .slice (some ⟨g, 0, none⟩) m cap ∧ base ≤ g ∧ m ≤ cap ∧ w.rowIs g t cap f ∧ ∀ i, i < m → f i = .pointer (some ⟨q i, 0, none⟩) := by
  unfold Rw at h
  rw [ents_len] at h
  rcases h.2 with ⟨_, e⟩ | ⟨g, cap, cur, hv, hb, hg, hn, _, hs, ht⟩
  · omega
  · refine ⟨g, cap, fun i => cur[i]?.getD (.pointer none), hv, hb, hn, ⟨cur, hg, by simpa using hs, fun i hi => ?_⟩, fun i hi => ?_⟩
    · have : i < cur.size := by omega
      simp [this]
    · have e : (cur.toList.take (m * 1))[i]? = some (.pointer (some ⟨q i, 0, none⟩)) := by
        rw [ht, ents_pc]
        simp [hi]
      rw [List.getElem?_take_of_lt (by omega)] at e
      have e2 : cur[i]? = some (.pointer (some ⟨q i, 0, none⟩)) := by simpa using e
      show cur[i]?.getD _ = _
      rw [e2]
      rfl

/-- While NewSpace lays its stocks: its head at b, with the row of stocks v; k stocks are there. -/
structure RN (W : World) (b : Nat) (L : Value → List Value) (ch : Nat) (q : Nat → Nat) (k : Nat) (v : Value) (u : World) : Prop where
  mu : Mut [b] W u
  head : Own u b 60 (L v)
  row : Rw 100 1 pc u W.heap.size v (ents q k)
  stk : ∀ i, i < k → STab 102 u 0 (q i) ch (.slice none 0 0) [] ∧ W.heap.size ≤ q i ∧ v.ownBlock ≠ some (q i)
  inj : ∀ i j, i < j → j < k → q i < q j

section
variable {W u u2 w' : World} {b ch k s : Nat} {L : Value → List Value} {q : Nat → Nat} {v v' : Value}
theorem RN.step (h : RN W b L ch q k v u) (hb : b < W.heap.size) (kp : Kept u u2) (hs : u.heap.size ≤ s) (hq : ∀ i, i < k → q i < s) (hsu : s < u2.heap.size) (t : STab 102 u2 0 s ch (.slice none 0 0) []) (r : Rw 100 1 pc w' W.heap.size v' (ents q k ++ [ent s]))
    (m : Mut v.ownBlock.toList u2 w') (f : Fresh u2 v v') (hL : ∀ v v', (L v).set 11 v' = L v') :
    RN W b L ch (fun i => if i = k then s else q i) (k + 1) v' (w'.setCell ⟨b, 11, none⟩ v') := by
  have hn : ∀ d, v.ownBlock = some d → W.heap.size ≤ d ∧ d < u.heap.size := h.row.lt
  have hn' : ∀ d, v'.ownBlock = some d → W.heap.size ≤ d ∧ d < w'.heap.size := r.lt
  have hW : W.heap.size ≤ u.heap.size := h.mu.size
  have mb : Mut [b] w' (w'.setCell ⟨b, 11, none⟩ v') := (Mut.refl _ _).setCell (by simp) _
  have nb : b ∉ v.ownBlock.toList := fun hd => by
    have := hn b (by simpa using hd)
    omega
  have S : ∀ i, STab 102 u2 0 i ch (.slice none 0 0) [] → i ≠ b → v.ownBlock ≠ some i → STab 102 (w'.setCell ⟨b, 11, none⟩ v') 0 i ch (.slice none 0 0) [] := fun i hi e1 e2 =>
    (hi.muts m (by simpa using e2) (fun k hk => by simp [Value.ownBlock] at hk)).muts mb (by simpa using e1) (fun k hk => by simp [Value.ownBlock] at hk)
  refine ⟨?_, ?_, ?_, fun i hi => ?_, fun i j hij hj => ?_⟩
  · have m2 : Mut [b] W w' := mut_trans (mut_trans h.mu kp.mut (D := [b]) (E := []) fun _ hj _ => by cases hj) m fun j hj hl => by
      have := hn j (by simpa using hj)
      omega
    exact m2.setCell (by simp) _
  · have := ((h.head.kept kp).muts m nb).set 11 v'
    rwa [hL] at this
  · have e := ents_succ q (fun i => if i = k then s else q i) k s (fun i hi => by simp [Nat.ne_of_lt hi]) (by simp)
    rw [e]
    exact r.muts mb fun d hd hx => by
      simp only [List.mem_singleton] at hx
      have := hn' d hd
      omega
  · by_cases e : i = k
    · subst e
      simp only [if_true]
      refine ⟨S s t (by omega) (fun q => by have := hn s q; omega), by omega, fun hq' => ?_⟩
      rcases f s hq' with g | g
      · have := hn s g
        omega
      · omega
    · simp only [e, if_false]
      obtain ⟨s1, s2, s3⟩ := h.stk i (by omega)
      refine ⟨S _ (s1.kept kp) (by omega) s3, s2, fun hq' => ?_⟩
      have := hq i (by omega)
      rcases f _ hq' with g | g
      · exact s3 g
      · omega
  · have hi : i ≠ k := by omega
    simp only [hi, if_false]
    by_cases e : j = k
    · simp only [e, if_true]
      exact hq i (by omega)
    · simp only [e, if_false]
      exact h.inj i j hij (by omega)
theorem RN.lq (h : RN W b L ch q k v u) : ∀ i, i < k → q i < u.heap.size := fun i hi => (h.stk i hi).1.ltb
end

/-- The colours of a new space of the document's. -/
def colR (tb gs gh gc pb pg kb b sb m : Nat) (q : Nat → Nat) (k : Nat) : Nat :=
  if k = tb ∨ k = gs ∨ k = gh ∨ k = gc then 1 else if k = pb ∨ k = pg then 2 else if k = kb then 4 else if k = sb then 6 else if k = b then 3 else match (List.range m).find? (fun i => q i == k) with
  | some i => 10 + i
  | none => 0

/-- Its head's cells, with the row of stocks v. -/
def hdG (C : Cv) (tb : Nat) (p v k : Value) : List Value := [.int .i64 C.n0, .int .i64 C.n1, .int .i64 C.n2, .int .i64 C.n3, .int .i64 C.n4, .int .i64 C.n5, .int .i64 C.n6, .int .i64 C.n7, .slice C.x C.l C.c,
  .pointer (some ⟨tb, 0, none⟩), p, v, .slice none 0 0, .slice none 0 0, k, .bool false, .int .i64 0]
def hdR (C : Cv) (tb pb kb : Nat) (v : Value) : List Value := hdG C tb (.pointer (some ⟨pb, 0, none⟩)) v (.pointer (some ⟨kb, 0, none⟩))
theorem hdR_set (C : Cv) (tb pb kb : Nat) (v v' : Value) : (hdR C tb pb kb v).set 11 v' = hdR C tb pb kb v' := rfl

theorem rsh_make {B : Nat} {W u : World} {n s m ch : Nat} {C : Cv} {tb gs gh gc pb pg kb hb : Nat} {q : Nat → Nat} {T : Nat → Fr} {v : Value}
    (t : RtT W tb gs gh gc n T) (hT : T = T0) (p : PTab 112 W pb pg n F1) (kt : CTab 63 W kb ⟨s, 0, 0, 0, 0⟩) (h : RN W hb (hdR C tb pb kb) ch q m v u)
    (hS : Shps W C.x C.l C.S) (hx : ∀ g o, C.x = some ⟨g, o, none⟩ → g < B) (hG : C.Good) (c0 : C.n0 = n) (c1 : C.n1 = s) (hm : 0 < m) (hm' : m ≤ 16)
    (o1 : B ≤ tb ∧ B ≤ gs ∧ B ≤ gh ∧ B ≤ gc) (o2 : tb < hb ∧ gs < hb ∧ gh < hb ∧ gc < hb) (o3 : hb < pb ∧ hb < pg ∧ pb < kb ∧ pg < kb ∧ hb < W.heap.size) :
    ∃ A c', A.b = hb ∧ A.tb = tb ∧ A.C = C ∧ RSH B u c' A (Sp.new n s m ch) ∧ ∀ k, c' k ≠ 0 → k = tb ∨ k = gs ∨ k = gh ∨ k = gc ∨ hb ≤ k := by
  obtain ⟨sb, cap, f, rfl, hsb, hcap, hrow, hf⟩ := ptr_row h.row hm
  have lk : kb < W.heap.size := kt.lt
  have mu := h.mu
  have lu := mu.size
  have hq : ∀ i, i < m → W.heap.size ≤ q i ∧ q i < u.heap.size ∧ q i ≠ sb := fun i hi => by
    obtain ⟨s1, s2, s3⟩ := h.stk i hi
    exact ⟨s2, s1.ltb, fun e => s3 (by simp [Value.ownBlock, e])⟩
  have lsb := hrow.lt
  have N : ∀ k, (∀ i, i < m → q i ≠ k) → (List.range m).find? (fun j => q j == k) = none := fun k h => find_none h
  obtain ⟨a1, a2, a3, a4⟩ := o1
  obtain ⟨b1, b2, b3, b4⟩ := o2
  obtain ⟨d1, d2, d3, d4, d5⟩ := o3
  generalize hcc : colR tb gs gh gc pb pg kb hb sb m q = cc
  have ct1 : ∀ k, k = tb ∨ k = gs ∨ k = gh ∨ k = gc → cc k = 1 := fun k h => by rw [← hcc]; simp [colR, h]
  have ct2 : ∀ k, k = pb ∨ k = pg → cc k = 2 := fun k h => by
    have h0 : ¬ (k = tb ∨ k = gs ∨ k = gh ∨ k = gc) := by omega
    rw [← hcc]; simp only [colR, h0, h, if_true, if_false]
  have ct4 : cc kb = 4 := by
    have h0 : ¬ (kb = tb ∨ kb = gs ∨ kb = gh ∨ kb = gc) := by omega
    have h1 : ¬ (kb = pb ∨ kb = pg) := by omega
    rw [← hcc]; simp only [colR, h0, h1, if_true, if_false]
  have ct6 : cc sb = 6 := by
    have h0 : ¬ (sb = tb ∨ sb = gs ∨ sb = gh ∨ sb = gc) := by omega
    have h1 : ¬ (sb = pb ∨ sb = pg) := by
      have := p.ltb; have := p.ltg; omega
    have h2 : ¬ sb = kb := by omega
    rw [← hcc]; simp only [colR, h0, h1, h2, if_true, if_false]
  have ct3 : cc hb = 3 := by
    have h0 : ¬ (hb = tb ∨ hb = gs ∨ hb = gh ∨ hb = gc) := by omega
    have h1 : ¬ (hb = pb ∨ hb = pg) := by omega
    have h2 : ¬ hb = kb := by omega
    have h3 : ¬ hb = sb := by omega
    rw [← hcc]; simp only [colR, h0, h1, h2, h3, if_true, if_false]
  have lpb := p.ltb
  have lpg := p.ltg
  have ctq : ∀ i, i < m → cc (q i) = 10 + i := fun i hi => by
    have := hq i hi
    have h0 : ¬ (q i = tb ∨ q i = gs ∨ q i = gh ∨ q i = gc) := by omega
    have h1 : ¬ (q i = pb ∨ q i = pg) := by omega
    have h2 : ¬ q i = kb := by omega
    have h3 : ¬ q i = sb := by omega
    have h4 : ¬ q i = hb := by omega
    rw [← hcc]
    unfold colR
    rw [if_neg h0, if_neg h1, if_neg h2, if_neg h3, if_neg h4, find_q h.inj hi]
  have low : ∀ k, cc k ≠ 0 → (k = tb ∨ k = gs ∨ k = gh ∨ k = gc ∨ hb ≤ k) ∧ k < u.heap.size := fun k h => by
    by_cases e1 : k = tb ∨ k = gs ∨ k = gh ∨ k = gc
    · omega
    · by_cases e2 : k = pb ∨ k = pg
      · omega
      · by_cases e3 : k = kb
        · omega
        · by_cases e4 : k = sb
          · omega
          · by_cases e5 : k = hb
            · omega
            · rw [← hcc] at h
              unfold colR at h
              rw [if_neg e1, if_neg e2, if_neg e3, if_neg e4, if_neg e5] at h
              cases hfd : (List.range m).find? (fun j => q j == k) with
              | some i =>
                have := List.find?_some hfd
                have hi : i < m := by simpa using List.mem_of_find?_eq_some hfd
                have hki : q i = k := by simpa using this
                have := hq i hi
                omega
              | none =>
                rw [hfd] at h
                simp at h
  refine ⟨⟨hb, tb, gs, gh, gc, pb, pg, kb, sb, cap, q, C⟩, cc, rfl, rfl, rfl, ?_, fun k hk => (low k hk).1⟩
  refine ⟨⟨T, t.muts mu (by simp; omega) (by simp; omega) (by simp; omega) (by simp; omega), fun j hj => by rw [hT]; exact ⟨rfl, rfl, fun _ => rfl⟩⟩, p.muts mu (by simp; omega) (by simp; omega), ?_, kt.muts mu (by simp; omega), ⟨cap, f, hrow, hcap, hf⟩,
    fun i hi => ⟨_, (h.stk i hi).1, ctq i hi, fun k hk => by simp [Value.ownBlock] at hk⟩, shp_muts hS mu (fun g o e => by have := hx g o e; simp; omega), hx, hG, c0, c1, ct1 _ (by simp), ct1 _ (by simp), ct1 _ (by simp), ct1 _ (by simp), ct2 _ (by simp), ct2 _ (by simp), ct4, ct6, hm', fun k hk => (low k hk).2, fun k hk => ?_⟩
  · refine ⟨.slice none 0 0, .slice none 0 0, [], [], ⟨h.head, ⟨Rw.nil _ _ _ _ _, by simp, by simp, by simp, by simp [Value.ownBlock]⟩, Lst.nil _ _, Nat.zero_le _, by simp, by simp [Value.ownBlock], by simp [Value.ownBlock]⟩, rfl, ⟨fun e he => absurd he (by simp [Sp.new]), by simp, by simp [Sp.new], by simp⟩, fun k hk => ?_⟩
    rcases mem_footR.1 hk with e | e
    · simp [Value.ownBlock] at e
    · rcases mem_foot.1 e with e | e | ⟨_, e, _⟩
      · rw [e]; exact ct3
      · simp [Value.ownBlock] at e
      · simp at e
  · have := low k hk
    omega

set_option maxHeartbeats 2000000 in
theorem rspace_bad (n0 n1 n2 n3 n4 n5 n6 n7 : Int) (x : Option Addr) (l c : Nat) (S : Nat → Sh) (r : Int) (tb : Nat) (w : World) (hS : Shps w x l S) (hr : Checks n0 n1 n2 n3 n4 n5 n6 n7 l S r) (h0 : r ≠ 0) :
    Calls Tryz.prog 9 #[.agg #[.int .i64 n0, .int .i64 n1, .int .i64 n2, .int .i64 n3, .int .i64 n4, .int .i64 n5, .int .i64 n6, .int .i64 n7, .slice x l c], .pointer (some ⟨tb, 0, none⟩)] w fun e w' => e = .returned (.tuple #[.pointer none, .int .i64 r]) ∧ Kept w w' := by
  have HS : Hid (Shps w x l S ∧ Checks n0 n1 n2 n3 n4 n5 n6 n7 l S r) := ⟨hS, hr⟩
  have z0 : (r == 0) = false := by simpa using h0
  have z1 : (r != 0) = true := by simpa using h0
  clear hS hr h0
  go_enter Tryz.func9, Tryz.ntmps9
  go_wp2_with fail
  generalize hW : w.alloc _ = W0
  have H0 : Hid (Blk W0 w.heap.size [.int .i64 n0, .int .i64 n1, .int .i64 n2, .int .i64 n3, .int .i64 n4, .int .i64 n5, .int .i64 n6, .int .i64 n7, .slice x l c] ∧ Kept w W0) := by
    rw [← hW]
    exact ⟨Blk.new w _ _, (Kept.refl w).alloc _ _⟩
  clear hW
  have b0 := H0.out.1.at 0 rfl
  have b1 := H0.out.1.at 1 rfl
  have b2 := H0.out.1.at 2 rfl
  have b3 := H0.out.1.at 3 rfl
  have b4 := H0.out.1.at 4 rfl
  have b5 := H0.out.1.at 5 rfl
  have b6 := H0.out.1.at 6 rfl
  have b7 := H0.out.1.at 7 rfl
  have b8 := H0.out.1.at 8 rfl
  go_wp2_with fail
  refine (ref_check n0 n1 n2 n3 n4 n5 n6 n7 x l c S r W0 (HS.out.1.kept H0.out.2) HS.out.2).mono ?_
  rintro e w1 ⟨rfl, k1⟩
  have K1 : Hid (Kept w w1) := H0.out.2.trans k1
  clear k1 H0 b0 b1 b2 b3 b4 b5 b6 b7 b8
  go_wp2_with fail
  refine wp_region_kept (by kernel_rfl) (by kernel_rfl) fun _ => ?_
  repeat (go_big_quiet_step (skip))
  refine wpQuiet_nil ?_
  rintro _ ⟨z, rfl⟩
  have K2 : Hid (Kept w z.it) := K1.out.trans z.ok
  go_wp2
  go_ret2
  exact ⟨rfl, K2.out⟩

set_option maxHeartbeats 8000000 in
set_option maxRecDepth 20000 in
theorem rspace_new (n s m ch : Nat) (n2 n4 n6 n7 : Int) (x : Option Addr) (l c : Nat) (S : Nat → Sh) {B : Nat} (tb gs gh gc : Nat) (w : World) (t : RtT w tb gs gh gc n T0) (hS : Shps w x l S) (hx : ∀ g o, x = some ⟨g, o, none⟩ → g < B) (hg : Good n s n2 m n4 ch n6 n7 l S)
    (o1 : B ≤ tb ∧ B ≤ gs ∧ B ≤ gh ∧ B ≤ gc) :
    Calls Tryz.prog 9 #[.agg #[.int .i64 (n : Int), .int .i64 (s : Int), .int .i64 n2, .int .i64 (m : Int), .int .i64 n4, .int .i64 (ch : Int), .int .i64 n6, .int .i64 n7, .slice x l c], .pointer (some ⟨tb, 0, none⟩)] w fun e w' => ∃ A c', e = .returned (.tuple #[.pointer (some ⟨A.b, 0, none⟩), .int .i64 0]) ∧ RSH B w' c' A (Sp.new n s m ch) ∧ A.tb = tb ∧ A.C.n7 = n7 ∧
      (∀ k, c' k ≠ 0 → k = tb ∨ k = gs ∨ k = gh ∨ k = gc ∨ w.heap.size ≤ k) ∧ Kept w w' := by
  have hg' := hg
  obtain ⟨g0, g1, g2, g3⟩ := hg
  have HG : Hid (Good n s n2 m n4 ch n6 n7 l S) := hg'
  have HT : Hid (RtT w tb gs gh gc n T0 ∧ Shps w x l S ∧ (∀ g o, x = some ⟨g, o, none⟩ → g < B) ∧ (B ≤ tb ∧ B ≤ gs ∧ B ≤ gh ∧ B ≤ gc)) := ⟨t, hS, hx, o1⟩
  have BD : Hid (n ≤ 1024 ∧ s ≤ 2048 ∧ 0 < m ∧ m ≤ 16 ∧ ch ≤ 8) := by
    obtain ⟨q0, q1, q2, q6, q7, q3, q4, q5, q8⟩ := g0
    exact ⟨by omega, by omega, by omega, by omega, by omega⟩
  clear t hS hx o1 hg' g0 g1 g2 g3
  go_enter Tryz.func9, Tryz.ntmps9
  go_wp2_with fail
  generalize hW : w.alloc _ = W0
  have H0 : Hid (Blk W0 w.heap.size [.int .i64 (n : Int), .int .i64 (s : Int), .int .i64 n2, .int .i64 (m : Int), .int .i64 n4, .int .i64 (ch : Int), .int .i64 n6, .int .i64 n7, .slice x l c] ∧ Kept w W0 ∧ w.heap.size < W0.heap.size) := by
    rw [← hW]
    exact ⟨Blk.new w _ _, (Kept.refl w).alloc _ _, by simp⟩
  clear hW
  have b0 := H0.out.1.at 0 rfl
  have b1 := H0.out.1.at 1 rfl
  have b2 := H0.out.1.at 2 rfl
  have b3 := H0.out.1.at 3 rfl
  have b4 := H0.out.1.at 4 rfl
  have b5 := H0.out.1.at 5 rfl
  have b6 := H0.out.1.at 6 rfl
  have b7 := H0.out.1.at 7 rfl
  have b8 := H0.out.1.at 8 rfl
  go_wp2_with fail
  refine (ref_check n s n2 m n4 ch n6 n7 x l c S 0 W0 (HT.out.2.1.kept H0.out.2.1) (Checks.of_ok HG.out.1 HG.out.2)).mono ?_
  rintro e w1 ⟨rfl, k1⟩
  have H1 : Hid (Blk w1 w.heap.size [.int .i64 (n : Int), .int .i64 (s : Int), .int .i64 n2, .int .i64 (m : Int), .int .i64 n4, .int .i64 (ch : Int), .int .i64 n6, .int .i64 n7, .slice x l c] ∧ Kept w w1) := ⟨H0.out.1.kept k1, H0.out.2.1.trans k1⟩
  clear k1 H0 b0 b1 b2 b3 b4 b5 b6 b7 b8
  have L1 := H1.out.1.lt
  have LT := (HT.out.1.kept H1.out.2).head.lt
  have d0 := fun z : KW w1 => z.cell (a := ⟨w.heap.size, 0, none⟩) L1 (H1.out.1.at 0 rfl)
  have dt := fun z : KW w1 => z.cell (a := ⟨tb, 0, none⟩) LT (HT.out.1.kept H1.out.2).hd0
  have hnn : ((n : Int) != (n : Int)) = false := by simp
  go_wp2_with fail
  refine wp_region_kept (by kernel_rfl) (by kernel_rfl) fun _ => ?_
  repeat (go_big_quiet_step (skip))
  refine wpQuiet_nil ?_
  rintro _ ⟨z, rfl⟩
  have H2 : Hid (Blk z.it w.heap.size [.int .i64 (n : Int), .int .i64 (s : Int), .int .i64 n2, .int .i64 (m : Int), .int .i64 n4, .int .i64 (ch : Int), .int .i64 n6, .int .i64 n7, .slice x l c] ∧ Kept w z.it ∧ w.heap.size < z.it.heap.size) := ⟨H1.out.1.kept z.ok, H1.out.2.trans z.ok, (H1.out.1.kept z.ok).lt⟩
  clear d0 dt L1 LT hnn
  generalize z.it = w2 at *
  clear z H1
  have b0 := H2.out.1.at 0 rfl
  have b1 := H2.out.1.at 1 rfl
  have b2 := H2.out.1.at 2 rfl
  have b3 := H2.out.1.at 3 rfl
  have b4 := H2.out.1.at 4 rfl
  have b5 := H2.out.1.at 5 rfl
  have b6 := H2.out.1.at 6 rfl
  have b7 := H2.out.1.at 7 rfl
  have b8 := H2.out.1.at 8 rfl
  go_upto_region 7 with fail
  generalize hW : w2.alloc _ = W3
  obtain ⟨hb, hhb⟩ : ∃ hb, hb = w2.heap.size := ⟨_, rfl⟩
  rw [← hhb]
  have H3 : Hid (Own W3 hb 60 (hdG ⟨n, s, n2, m, n4, ch, n6, n7, x, l, c, S⟩ tb (.pointer none) (.slice none 0 0) (.pointer none)) ∧ Blk W3 w.heap.size [.int .i64 (n : Int), .int .i64 (s : Int), .int .i64 n2, .int .i64 (m : Int), .int .i64 n4, .int .i64 (ch : Int), .int .i64 n6, .int .i64 n7, .slice x l c] ∧ Kept w W3 ∧ w.heap.size < hb ∧ w.heap.size ≤ hb ∧ hb < W3.heap.size) := by
    rw [← hW, hhb]
    have := H2.out.2.2
    exact ⟨Own.new w2 _ _, H2.out.1.kept ((Kept.refl _).alloc _ _), H2.out.2.1.alloc _ _, this, by omega, by simp⟩
  clear hW b0 b1 b2 b3 b4 b5 b6 b7 b8 hhb H2
  have b0 := H3.out.2.1.at 0 rfl
  go_wp2_with fail
  refine (prnew_any n W3 BD.out.1).mono ?_
  rintro e w4 ⟨pb, pg, rfl, pt, p1, p2, k4⟩
  have o4 := (H3.out.1.kept k4)
  have f10 := o4.blk.fz 10
  have c10 : w4.cell? ⟨hb, 10, none⟩ = some (.pointer none) := o4.blk.at 10 rfl
  have H4 : Hid (Own (w4.setCell ⟨hb, 10, none⟩ (.pointer (some ⟨pb, 0, none⟩))) hb 60 (hdG ⟨n, s, n2, m, n4, ch, n6, n7, x, l, c, S⟩ tb (.pointer (some ⟨pb, 0, none⟩)) (.slice none 0 0) (.pointer none)) ∧
      Blk (w4.setCell ⟨hb, 10, none⟩ (.pointer (some ⟨pb, 0, none⟩))) w.heap.size [.int .i64 (n : Int), .int .i64 (s : Int), .int .i64 n2, .int .i64 (m : Int), .int .i64 n4, .int .i64 (ch : Int), .int .i64 n6, .int .i64 n7, .slice x l c] ∧ Kept w (w4.setCell ⟨hb, 10, none⟩ (.pointer (some ⟨pb, 0, none⟩))) ∧
      PTab 112 (w4.setCell ⟨hb, 10, none⟩ (.pointer (some ⟨pb, 0, none⟩))) pb pg n F1 ∧ hb < pb ∧ hb < pg) := by
    have mb : Mut [hb] w4 (w4.setCell ⟨hb, 10, none⟩ (.pointer (some ⟨pb, 0, none⟩))) := (Mut.refl _ _).setCell (by simp) _
    have h1 := H3.out.2.2.2.1
    have h2 := H3.out.2.2.2.2.2
    exact ⟨o4.set 10 _, (H3.out.2.1.kept k4).muts mb (by simp; omega), (H3.out.2.2.1.trans k4).setCell H3.out.2.2.2.2.1 _, pt.muts mb (by simp; omega) (by simp; omega), by omega, by omega⟩
  clear k4 pt p1 p2 b0
  go_upto_region 8 with fail
  generalize w4.setCell _ _ = w5 at *
  clear f10 o4 c10
  have b1 := H4.out.2.1.at 1 rfl
  go_wp2_with fail
  refine (krnew_any s w5 BD.out.2.1).mono ?_
  rintro e w6 ⟨kb, rfl, kt, k6, p6⟩
  have o6 := (H4.out.1.kept k6)
  have f14 := o6.blk.fz 14
  have c14 : w6.cell? ⟨hb, 14, none⟩ = some (.pointer none) := o6.blk.at 14 rfl
  have H6 : Hid (Own (w6.setCell ⟨hb, 14, none⟩ (.pointer (some ⟨kb, 0, none⟩))) hb 60 (hdR ⟨n, s, n2, m, n4, ch, n6, n7, x, l, c, S⟩ tb pb kb (.slice none 0 0)) ∧
      Blk (w6.setCell ⟨hb, 14, none⟩ (.pointer (some ⟨kb, 0, none⟩))) w.heap.size [.int .i64 (n : Int), .int .i64 (s : Int), .int .i64 n2, .int .i64 (m : Int), .int .i64 n4, .int .i64 (ch : Int), .int .i64 n6, .int .i64 n7, .slice x l c] ∧ Kept w (w6.setCell ⟨hb, 14, none⟩ (.pointer (some ⟨kb, 0, none⟩))) ∧
      PTab 112 (w6.setCell ⟨hb, 14, none⟩ (.pointer (some ⟨kb, 0, none⟩))) pb pg n F1 ∧ CTab 63 (w6.setCell ⟨hb, 14, none⟩ (.pointer (some ⟨kb, 0, none⟩))) kb ⟨s, 0, 0, 0, 0⟩ ∧ (hb < pb ∧ hb < pg ∧ pb < kb ∧ pg < kb) ∧ w.heap.size < hb ∧ hb < w6.heap.size) := by
    have mb : Mut [hb] w6 (w6.setCell ⟨hb, 14, none⟩ (.pointer (some ⟨kb, 0, none⟩))) := (Mut.refl _ _).setCell (by simp) _
    have h1 := H3.out.2.2.2.1
    have h3 := H4.out.2.2.2.2.1
    have h4 := H4.out.2.2.2.2.2
    have h5 := H4.out.2.2.2.1.ltb
    have h6 := H4.out.2.2.2.1.ltg
    have h7 := k6.size
    exact ⟨o6.set 14 _, (H4.out.2.1.kept k6).muts mb (by simp; omega), (H4.out.2.2.1.trans k6).setCell H3.out.2.2.2.2.1 _, (H4.out.2.2.2.1.kept k6).muts mb (by simp; omega) (by simp; omega), kt.muts mb (by simp; omega), ⟨h3, h4, by omega, by omega⟩, h1, by omega⟩
  clear k6 kt p6 b1 H4 H3
  go_upto_region 9 with fail
  have lw6 : w6.heap.size = (w6.setCell ⟨hb, 14, none⟩ (.pointer (some ⟨kb, 0, none⟩))).heap.size := by simp
  rw [lw6] at H6
  clear lw6
  generalize w6.setCell _ _ = W at *
  clear f14 o6 c14
  have hm16 := BD.out.2.2.2.1
  go_wp2_with fail
  go_loopg [8] m (fun mm i wr => ∃ (k : Nat) (v : Value) (q : Nat → Nat), i = .int .i64 k ∧ k ≤ m ∧ mm = m - k ∧ Hid (RN W hb (hdR ⟨n, s, n2, m, n4, ch, n6, n7, x, l, c, S⟩ tb pb kb) ch q k v wr))
  case atStart => exact ⟨0, .slice none 0 0, fun _ => 0, rfl, by omega, by omega, Mut.refl _ _, H6.out.1, Rw.nil _ _ _ _ _, fun i hi => by omega, fun i j _ hj => by omega⟩
  case round =>
    obtain ⟨k, v, q, rfl, hk, hm, hw⟩ := hrel
    have HM : Hid _ := hm
    clear hm
    have HC : Hid (Blk wr w.heap.size [.int .i64 (n : Int), .int .i64 (s : Int), .int .i64 n2, .int .i64 (m : Int), .int .i64 n4, .int .i64 (ch : Int), .int .i64 n6, .int .i64 n7, .slice x l c]) := H6.out.2.1.muts hw.out.mu (by have := H6.out.2.2.2.2.2.2.1; simp; omega)
    have b3 := HC.out.at 3 rfl
    by_cases hlt : k < m
    · have b5 := HC.out.at 5 rfl
      have c11 : wr.cell? ⟨hb, 11, none⟩ = some v := hw.out.head.blk.at 11 rfl
      have kk : Kept wr ((wr.alloc (.cells #[.int .i64 (ch : Int), .slice none 0 0] 102)).alloc (.cells #[.pointer (some ⟨wr.heap.size, 0, none⟩)] 100)).drew := (((Kept.refl wr).alloc _ _).alloc _ _).drew
      have ka : ∀ A u, Kept wr (wr.alloc (.cells A u)) := fun A u => (Kept.refl wr).alloc _ _
      have kb2 : ∀ A u A' u', Kept wr ((wr.alloc (.cells A u)).alloc (.cells A' u')) := fun A u A' u' => ((Kept.refl wr).alloc _ _).alloc _ _
      have ts : STab 102 ((wr.alloc (.cells #[.int .i64 (ch : Int), .slice none 0 0] 102)).alloc (.cells #[.pointer (some ⟨wr.heap.size, 0, none⟩)] 100)).drew 0 wr.heap.size ch (.slice none 0 0) [] :=
        STab.kept ⟨Own.new wr _ _, Lst.nil _ _, by simp, BD.out.2.2.2.2, Nat.zero_le _, by decide⟩ ((((Kept.refl _).alloc _ _)).drew)
      have es : (wr.alloc (.cells #[.int .i64 (ch : Int), .slice none 0 0] 102)).heap.size = wr.heap.size + 1 := by simp
      have cb : ((wr.alloc (.cells #[.int .i64 (ch : Int), .slice none 0 0] 102)).alloc (.cells #[.pointer (some ⟨wr.heap.size, 0, none⟩)] 100)).drew.cell? ⟨wr.heap.size + 1, 0, none⟩ = some (.pointer (some ⟨wr.heap.size, 0, none⟩)) := by
        have := ((Blk.new (wr.alloc (.cells #[.int .i64 (ch : Int), .slice none 0 0] 102)) [.pointer (some ⟨wr.heap.size, 0, none⟩)] 100).kept (Kept.refl _).drew).at 0 rfl
        rwa [es] at this
      obtain ⟨v', w', hrun0, r', m', f'⟩ := run_append_rw (P := Tryz.prog) (t := 100) (ts := 53) (ty := 53) (m := 1) (c := pc) (T := [ent wr.heap.size]) (y := some ⟨wr.heap.size + 1, 0, none⟩) (d := 1) Tryz.underlying53 info_rptr rfl (by decide) (by decide) pc_len pc_one (hw.out.row.kept kk) (Nat.le_trans hw.out.mu.size kk.size)
        (fun _ => ⟨_, rfl, fun j u hu => by
          have hj : j = 0 := by
            have := (List.getElem?_eq_some_iff.1 hu).1
            simp [pc] at this
            omega
          subst hj
          have hu' : u = .pointer (some ⟨wr.heap.size, 0, none⟩) := by
            simp [pc, ent] at hu
            exact hu.symm
          subst hu'
          exact cb⟩) (by simp [ents_len]; omega)
      have hrun : (Builtin.append_ #[53, 53] 53 #[v, .slice (some ⟨wr.heap.size + 1, 0, none⟩) 1 1]).run Tryz.prog ((wr.alloc (.cells #[.int .i64 (ch : Int), .slice none 0 0] 102)).alloc (.cells #[.pointer (some ⟨wr.heap.size, 0, none⟩)] 100)).drew = .ok v' w' := hrun0
      clear hrun0
      have hbW := H6.out.2.2.2.2.2.2.2
      have HN : Hid (RN W hb (hdR ⟨n, s, n2, m, n4, ch, n6, n7, x, l, c, S⟩ tb pb kb) ch (fun i => if i = k then wr.heap.size else q i) (k + 1) v' (w'.setCell ⟨hb, 11, none⟩ v')) := hw.out.step hbW kk (Nat.le_refl _) hw.out.lq ts.ltb ts r' m' f' (fun _ _ => rfl)
      have ow : Own w' hb 60 (hdR ⟨n, s, n2, m, n4, ch, n6, n7, x, l, c, S⟩ tb pb kb v) := (hw.out.head.kept kk).muts m' (fun hd => by
        have := hw.out.row.lt hb (by simpa using hd)
        omega)
      have fz : w'.frozen? ⟨hb, 11, none⟩ = false := ow.blk.fz 11
      have cw : w'.cell? ⟨hb, 11, none⟩ = some v := ow.blk.at 11 rfl
      clear ow
      have ca : ∀ A u, (wr.alloc (.cells A u)).cell? ⟨hb, 11, none⟩ = some v := fun A u => ((ka A u).cell hw.out.head.lt).trans c11
      have ca2 : ∀ A u A' u', ((wr.alloc (.cells A u)).alloc (.cells A' u')).cell? ⟨hb, 11, none⟩ = some v := fun A u A' u' => ((kb2 A u A' u').cell hw.out.head.lt).trans c11
      obtain ⟨yv, dv, ev⟩ := hw.out.row.form
      rw [ents_len] at ev
      subst ev
      obtain ⟨yv', dv', ev'⟩ := r'.form
      rw [List.length_append, ents_len, show ([ent wr.heap.size] : List Ent).length = 1 from rfl] at ev'
      subst ev'
      clear ts r' m' f' hbW cb es
      clear kk ka kb2 hw HC
      go_wp2_with fail
      go_region_law (refine step_append_eq rfl (.tmp 58) (.tmp 63) 53 rfl (by first | rfl | (simp [Act.eval]; done) | simp [Act.eval, Act.put]) (by first | rfl | (simp [Act.eval]; done) | simp [Act.eval, Act.put]) hrun ?_)
      all_goals clear hrun
      all_goals go_wp2
      all_goals go_roundg (gk - 1)
      all_goals (have := HM.out; try omega)
      all_goals exact ⟨k + 1, _, _, by go_num, by omega, by omega, HN⟩
    · obtain rfl : k = m := by omega
      go_wp2
      go_ret2
      obtain ⟨A, c', e1, e2, e3, e4, e5⟩ := rsh_make (B := B) ((HT.out.1).kept H6.out.2.2.1) rfl H6.out.2.2.2.1 H6.out.2.2.2.2.1 hw.out (shp_muts HT.out.2.1 H6.out.2.2.1.mut (D := []) (fun _ _ _ q => by cases q)) HT.out.2.2.1 HG.out rfl rfl BD.out.2.2.1 BD.out.2.2.2.1 HT.out.2.2.2 (by
        have h1 := HT.out.1.head.lt
        have h2 := HT.out.1.rs.lt
        have h3 := HT.out.1.rh.lt
        have h4 := HT.out.1.rc.lt
        have h5 := H6.out.2.2.2.2.2.2.1
        exact ⟨by omega, by omega, by omega, by omega⟩) (by
        obtain ⟨h1, h2, h3, h4⟩ := H6.out.2.2.2.2.2.1
        exact ⟨h1, h2, h3, h4, H6.out.2.2.2.2.2.2.2⟩)
      refine ⟨A, c', by rw [e1]; rfl, e4, e2, by rw [e3], fun j hj => ?_, ?_⟩
      · have := e5 j hj
        have h5 := H6.out.2.2.2.2.2.2.1
        omega
      · exact H6.out.2.2.1.muts hw.out.mu fun j hj => by
          have h5 := H6.out.2.2.2.2.2.2.1
          rw [List.mem_singleton.1 hj]
          omega
end Go.Proofs.YtahpnnjemjjfhaaGreat

