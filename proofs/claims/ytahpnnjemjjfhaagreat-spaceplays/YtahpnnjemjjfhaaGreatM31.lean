/-
  The modules RspH, OneA, one behind another.
-/
import Derived.Test.YtahpnnjemjjfhaaGreatM29
import Derived.Test.YtahpnnjemjjfhaaGreatM30
/-
  New where there is none; SameGrant; both spaces, side by side.
-/
namespace Go.Proofs.YtahpnnjemjjfhaaGreat
open Go.RowKit

set_option maxHeartbeats 2000000 in
theorem wspace_bad (n0 n1 n2 n3 n4 n5 n6 n7 : Int) (x : Option Addr) (l c : Nat) (S : Nat → Sh) (r : Int) (tb : Nat) (w : World) (hS : Shps w x l S) (hr : Checks n0 n1 n2 n3 n4 n5 n6 n7 l S r) (h0 : r ≠ 0) :
    Calls Tryz.prog 8 #[.agg #[.int .i64 n0, .int .i64 n1, .int .i64 n2, .int .i64 n3, .int .i64 n4, .int .i64 n5, .int .i64 n6, .int .i64 n7, .slice x l c], .pointer (some ⟨tb, 0, none⟩)] w fun e w' => e = .returned (.tuple #[.pointer none, .int .i64 r]) ∧ Kept w w' := by
  have HS : Hid (Shps w x l S ∧ Checks n0 n1 n2 n3 n4 n5 n6 n7 l S r) := ⟨hS, hr⟩
  have z1 : (r != 0) = true := by simpa using h0
  clear hS hr h0
  go_enter Tryz.func8, Tryz.ntmps8
  go_wp2_with fail
  generalize hW : w.alloc _ = W0
  have H0 : Hid (Blk W0 w.heap.size [.int .i64 n0, .int .i64 n1, .int .i64 n2, .int .i64 n3, .int .i64 n4, .int .i64 n5, .int .i64 n6, .int .i64 n7, .slice x l c] ∧ Kept w W0) := by
    rw [← hW]
    exact ⟨Blk.new w _ _, (Kept.refl w).alloc _ _⟩
  clear hW
  have b0 := H0.out.1.at 0 rfl
  have b1 := H0.out.1.at 1 rfl
  have b2 := H0.out.1.at 2 rfl
  have b3 := H0.out.1.at 3 rfl
  have b4 := H0.out.1.at 4 rfl
  have b5 := H0.out.1.at 5 rfl
  have b6 := H0.out.1.at 6 rfl
  have b7 := H0.out.1.at 7 rfl
  have b8 := H0.out.1.at 8 rfl
  go_wp2_with fail
  refine (check_any n0 n1 n2 n3 n4 n5 n6 n7 x l c S r W0 (HS.out.1.kept H0.out.2) HS.out.2).mono ?_
  rintro e w1 ⟨rfl, k1⟩
  have K1 : Hid (Kept w w1) := H0.out.2.trans k1
  clear k1 H0 b0 b1 b2 b3 b4 b5 b6 b7 b8
  go_wp2
  go_ret2
  exact ⟨rfl, K1.out⟩

set_option maxHeartbeats 2000000 in
theorem same_grant (st a : Int) (x1 x2 : Option Addr) (d1 d2 : Nat) (G : List Int) (w : World) (hl : G.length ≤ 1000000) (h1 : Rdi w x1 G) (h2 : Rdi w x2 G) :
    Calls Tryz.prog 43 #[.agg #[.int .i64 st, .slice x1 G.length d1, .int .i64 a], .agg #[.int .i64 st, .slice x2 G.length d2, .int .i64 a]] w fun e w' => e = .returned (.bool true) ∧ Kept w w' := by
  have HX : Hid (Rdi w x1 G ∧ Rdi w x2 G ∧ G.length ≤ 1000000) := ⟨h1, h2, hl⟩
  clear h1 h2 hl
  go_enter Tryz.func43, Tryz.ntmps43
  go_upto_region 1 with fail
  generalize hW : World.alloc _ _ = W
  have HB : Hid (Blk W w.heap.size [.int .i64 st, .slice x1 G.length d1, .int .i64 a] ∧ Blk W (w.heap.size + 1) [.int .i64 st, .slice x2 G.length d2, .int .i64 a] ∧ Kept w W) := by
    rw [← hW]
    refine ⟨(Blk.new w _ _).kept ((Kept.refl _).alloc _ _), ?_, ((Kept.refl w).alloc _ _).alloc _ _⟩
    have := Blk.new (w.alloc (.cells #[.int .i64 st, .slice x1 G.length d1, .int .i64 a] 71)) [.int .i64 st, .slice x2 G.length d2, .int .i64 a] 71
    simpa using this
  clear hW
  have b0 := HB.out.1.at 0 rfl
  have b1 := HB.out.1.at 1 rfl
  have b2 := HB.out.1.at 2 rfl
  have a0 := HB.out.2.1.at 0 rfl
  have a1 := HB.out.2.1.at 1 rfl
  have a2 := HB.out.2.1.at 2 rfl
  have z0 : (st == st) = true := by simp
  have z2 : (a == a) = true := by simp
  go_wp2_with fail
  refine (ints_any W HX.out.2.2 (HX.out.1.kept HB.out.2.2) (HX.out.2.1.kept HB.out.2.2)).mono ?_
  rintro e w1 ⟨rfl, k1⟩
  have K1 : Hid (Kept w w1) := HB.out.2.2.trans k1
  clear k1 HB b0 b1 b2 a0 a1 a2
  go_wp2
  go_ret
  exact ⟨rfl, K1.out⟩

section
variable {c : Nat → Nat} {w : World} {A : Ad} {S : Sp}
theorem takeZ_short (n : Nat) (F : Nat → Bool) (k : Int) : (takeZ n F k).length ≤ n := by
  have hc := cntB_le F n
  simp only [takeZ, List.length_map]
  by_cases h : takeB n F k = true
  · rw [(takeL_ok h).2.2]
    simp only [takeB, decide_eq_true_eq] at h
    omega
  · simp [takeL, h]
theorem askG_short (h : SH w c A S) (t fr sp : Int) : (S.askG t fr sp).G.length ≤ 1000000 := by
  unfold Sp.askG
  split
  · rename_i hm
    have hp := may_pos hm
    split
    · obtain ⟨v, s1, _⟩ := h.stk t.toNat (by omega)
      have h1 := s1.few
      have h2 := s1.max
      have h3 : ((S.Q t.toNat).take fr.toNat).length ≤ (S.Q t.toNat).length := List.length_take_le' _ _
      show ((S.Q t.toNat).take fr.toNat).length ≤ 1000000
      omega
    · split
      · have h1 := takeZ_short S.n S.F fr
        have h2 := h.tab.few
        show (takeZ S.n S.F fr).length ≤ 1000000
        omega
      · simp
  · simp
theorem lookG_short (h : SH w c A S) (t : Int) : (S.lookG t).G.length ≤ 1000000 := by
  obtain ⟨v, E, l1, l2, _⟩ := h.line
  unfold Sp.lookG
  split
  · simp
  · rename_i e he
    have hm : e ∈ S.E := List.mem_of_find?_eq_some he
    rw [← l2] at hm
    obtain ⟨e0, h0, rfl⟩ := List.mem_map.1 hm
    have hs := l1.ens.short e0 h0
    split
    · simp
    · split
      · show e0.G.length ≤ 1000000
        omega
      · simp
end

/-- What an operation makes of a space. -/
def Sp.op (S : Sp) (o : Op21) : Sp :=
  if o.k = 0 then S.ask o.t o.f o.s o.b else if o.k = 1 then S.born o.n else if o.k = 2 then S.look o.t else if o.k = 3 then S.drain o.t else if o.k = 4 then S.tick else if o.k = 5 then S.force
  else if o.k = 6 then S.begin else if o.k = 7 then S.turn else if o.k = 8 then S.doneC else if o.k = 9 then S.sweep o.n o.b else if o.k = 10 then S.end_ else if o.k = 11 then S.serve o.b
  else if o.k = 12 then { S with K := skipS S.K o.n } else if o.k = 13 then { S with K := copyS S.K o.n } else S

/-- What holds of a space throughout. -/
structure Inv (S : Sp) (kb : Nat) : Prop where
  bd : S.Bd kb
  snd : Snd S
  st : ∀ e, e ∈ S.E → e.st = 0 ∨ e.st = 1 ∨ e.st = 2

section
variable {S : Sp} {kb : Nat}
theorem Inv.new (n s m ch : Nat) : Inv (Sp.new n s m ch) 0 := ⟨bd_new _ _ _ _ _, Snd.new n s m ch, fun e he => by simp [Sp.new] at he⟩
theorem Snd.born (h : Snd S) (i : Int) : Snd (S.born i) := by
  have e : ∀ j, ((S.born i).T j).s = (S.T j).s := fun j => by
    show (bornT S.n S.T i j).s = _
    unfold bornT
    split
    · dsimp only
      split <;> rfl
    · rfl
  refine ⟨fun j hj => ?_, fun j hj => ?_, fun q hq x hx => ?_, h.nd, h.dj⟩
  · rw [e]; exact h.st j hj
  · rw [e]; exact h.fr j hj
  · obtain ⟨k, e1, e2, e3⟩ := h.sk q hq x hx
    exact ⟨k, e1, e2, by rw [e]; exact e3⟩
theorem Sp.Bd.up1 (h : S.Bd kb) : S.Bd (kb + 1) := ⟨h.c0, by have := h.c1; omega, by have := h.len; omega, fun e he => by have := h.cyc e he; omega, h.pos⟩
theorem serve_st (h : ∀ e, e ∈ S.E → e.st = 0 ∨ e.st = 1 ∨ e.st = 2) (se : Bool) : ∀ e, e ∈ (S.serve se).E → e.st = 0 ∨ e.st = 1 ∨ e.st = 2 := by
  have G : ∀ (i : Nat) (x : Ent), (x.st = 0 ∨ x.st = 1 ∨ x.st = 2) → ∀ e, e ∈ S.E.set i x → e.st = 0 ∨ e.st = 1 ∨ e.st = 2 := fun i x hx e he => by
    rcases List.mem_or_eq_of_mem_set he with he | rfl
    · exact h e he
    · exact hx
  unfold Sp.serve
  split
  · exact h
  · split
    · exact G _ _ (by simp)
    · split
      · exact G _ _ (by simp)
      · exact h
theorem Inv.op (h : Inv S kb) (o : Op21) : Inv (S.op o) (kb + 1) := by
  obtain ⟨hb, hs, ht⟩ := h
  have tb := bd_tick hb
  have L : ∀ S' : Sp, S'.n = S.n → S'.T = S.T → S'.F = S.F → S'.m = S.m → S'.Q = S.Q → Snd S' := fun S' e1 e2 e3 e4 e5 => hs.like e1 e2 e3 e4 e5
  unfold Sp.op
  by_cases q0 : o.k = 0
  · rw [if_pos q0]
    refine ⟨bd_ask hb _ _ _ _, hs.ask _ _ _ _, ?_⟩
    unfold Sp.ask
    split
    · split
      · exact ht
      · split
        · exact ht
        · intro e he
          rcases List.mem_append.1 he with he | he
          · exact ht e he
          · simp only [List.mem_singleton] at he
            subst he
            exact .inl rfl
    · exact ht
  rw [if_neg q0]
  by_cases q1 : o.k = 1
  · rw [if_pos q1]
    exact ⟨tb.like rfl rfl, hs.born _, ht⟩
  rw [if_neg q1]
  by_cases q2 : o.k = 2
  · rw [if_pos q2]
    refine ⟨bd_look hb _, hs.look _, ?_⟩
    unfold Sp.look
    split
    · exact ht
    · split
      · exact ht
      · intro e he
        exact ht e (List.mem_of_mem_eraseIdx he)
  rw [if_neg q2]
  by_cases q3 : o.k = 3
  · rw [if_pos q3]
    refine ⟨bd_drain hb _, hs.drain _, ?_⟩
    unfold Sp.drain
    split
    · rw [(fres_same _ _).2.2.1]
      exact ht
    · exact ht
  rw [if_neg q3]
  by_cases q4 : o.k = 4
  · rw [if_pos q4]
    exact ⟨tb, L _ rfl rfl rfl rfl rfl, ht⟩
  rw [if_neg q4]
  by_cases q5 : o.k = 5
  · rw [if_pos q5]
    exact ⟨tb.like rfl rfl, L _ rfl rfl rfl rfl rfl, ht⟩
  rw [if_neg q5]
  by_cases q6 : o.k = 6
  · rw [if_pos q6]
    refine ⟨bd_begin hb, L _ rfl rfl rfl rfl rfl, fun e he => ?_⟩
    obtain ⟨e0, h0, rfl⟩ := List.mem_map.1 he
    exact ht e0 h0
  rw [if_neg q6]
  by_cases q7 : o.k = 7
  · rw [if_pos q7]
    exact ⟨tb.like rfl rfl, L _ rfl rfl rfl rfl rfl, ht⟩
  rw [if_neg q7]
  by_cases q8 : o.k = 8
  · rw [if_pos q8]
    exact ⟨tb.like rfl rfl, L _ rfl rfl rfl rfl rfl, ht⟩
  rw [if_neg q8]
  by_cases q9 : o.k = 9
  · rw [if_pos q9]
    refine ⟨bd_sweep hb _ _, hs.sweep _ _, ?_⟩
    unfold Sp.sweep
    split <;> exact ht
  rw [if_neg q9]
  by_cases q10 : o.k = 10
  · rw [if_pos q10]
    refine ⟨bd_end hb, L _ rfl rfl rfl rfl rfl, fun e he => ?_⟩
    obtain ⟨e0, h0, rfl⟩ := List.mem_map.1 he
    exact ht e0 h0
  rw [if_neg q10]
  by_cases q11 : o.k = 11
  · rw [if_pos q11]
    exact ⟨bd_serve hb _, hs.serve hb _, serve_st ht _⟩
  rw [if_neg q11]
  by_cases q12 : o.k = 12
  · rw [if_pos q12]
    exact ⟨hb.up1.like rfl rfl, L _ rfl rfl rfl rfl rfl, ht⟩
  rw [if_neg q12]
  by_cases q13 : o.k = 13
  · rw [if_pos q13]
    exact ⟨hb.up1.like rfl rfl, L _ rfl rfl rfl rfl rfl, ht⟩
  · rw [if_neg q13]
    exact ⟨hb.up1, hs, ht⟩
end

/-- Both spaces side by side; the operation's block ob apart; blocks X are none of the document's. -/
structure Tw (w0 : World) (A : Ad) (R : Ar) (ob : Nat) (C : List Value) (X : List Nat) (S S' : Sp) (u : World) : Prop where
  ex : ∃ c c', SH u c A S ∧ RSH w0.heap.size u c' R S' ∧ (∀ k, c k ≠ 0 → c' k = 0) ∧ (∀ k, c k ≠ 0 → w0.heap.size ≤ k) ∧ c ob = 0 ∧ c' ob = 0 ∧ ∀ k, k ∈ X → c' k = 0
  own : Own u ob 45 C
  kept : Kept w0 u
/-- Both spaces side by side. -/
def Two (w0 : World) (A : Ad) (R : Ar) (S : Sp) (u : World) : Prop := (∃ c c', SH u c A S ∧ RSH w0.heap.size u c' R S ∧ (∀ k, c k ≠ 0 → c' k = 0) ∧ ∀ k, c k ≠ 0 → w0.heap.size ≤ k) ∧ Kept w0 u

section
variable {w0 u u' : World} {A : Ad} {R : Ar} {ob : Nat} {C : List Value} {X : List Nat} {S S' S2 : Sp} {F : FuncId} {args : Array Value} {c c' c1 : Nat → Nat}
/-- The package's space was called. -/
theorem pkg_step (h1 : RSH w0.heap.size u c' R S') (h2 : ∀ k, c k ≠ 0 → c' k = 0) (h3 : ∀ k, c k ≠ 0 → w0.heap.size ≤ k) (hk : Kept w0 u) (p : Stp c u c1 u') :
    RSH w0.heap.size u' c' R S' ∧ (∀ k, c1 k ≠ 0 → c' k = 0) ∧ (∀ k, c1 k ≠ 0 → w0.heap.size ≤ k) ∧ Kept w0 u' := by
  refine ⟨h1.muts p.mu fun k hk => ⟨h2 k (mem_cols.1 hk).2, h3 k (mem_cols.1 hk).2⟩, fun k hk => ?_, fun k hk => ?_, hk.muts p.mu fun k hk => h3 k (mem_cols.1 hk).2⟩
  · by_cases q : k < u.heap.size
    · rw [p.same k q] at hk
      exact h2 k hk
    · exact h1.new (by omega)
  · by_cases q : k < u.heap.size
    · rw [p.same k q] at hk
      exact h3 k hk
    · have := h1.base
      omega
/-- The document's space was called. -/
theorem doc_step (h0 : SH u c A S) (h2 : ∀ k, c k ≠ 0 → c' k = 0) (hb : ∀ k, c' k ≠ 0 → w0.heap.size ≤ k) (hk : Kept w0 u) (p : Stp c' u c1 u') :
    SH u' c A S ∧ (∀ k, c k ≠ 0 → c1 k = 0) ∧ Kept w0 u' := by
  have hd : ∀ k, c' k ≠ 0 → c k = 0 := fun k q => by
    by_cases e : c k = 0
    · exact e
    · exact absurd (h2 k e) q
  refine ⟨h0.muts p.mu fun k hk => hd k (mem_cols.1 hk).2, fun k hk => ?_, hk.muts p.mu fun k hk => hb k (mem_cols.1 hk).2⟩
  have q : k < u.heap.size := h0.low k hk
  rw [p.same k q]
  exact h2 k hk
theorem Tw.pkg {Q : Ending → World → Prop} (h : Tw w0 A R ob C [] S S' u) (hc : ∀ c, SH u c A S → Calls Tryz.prog F args u fun e u' => Q e u' ∧ ∃ c1, SH u' c1 A S2 ∧ Stp c u c1 u') :
    Calls Tryz.prog F args u fun e u' => Q e u' ∧ ∀ X, (∀ k, k ∈ X → u.heap.size ≤ k) → Tw w0 A R ob C X S2 S' u' := by
  obtain ⟨c, c', a, r, d, lo, o1, o2, _⟩ := h.ex
  refine (hc c a).mono fun e u' ⟨q, c1, s2, p⟩ => ⟨q, fun X hX => ?_⟩
  obtain ⟨r2, d2, lo2, k2⟩ := pkg_step r d lo h.kept p
  have hl : ob < u.heap.size := h.own.lt
  exact ⟨⟨c1, c', s2, r2, d2, lo2, by rw [p.same ob hl]; exact o1, o2, fun k hk => r.new (hX k hk)⟩, h.own.muts p.mu (fun q => (mem_cols.1 q).2 o1), k2⟩
theorem Tw.doc {Q : Ending → World → Prop} (h : Tw w0 A R ob C X S S' u) (hc : ∀ c, RSH w0.heap.size u c R S' → Calls Tryz.prog F args u fun e u' => Q e u' ∧ ∃ c1, RSH w0.heap.size u' c1 R S2 ∧ Stp c u c1 u') :
    Calls Tryz.prog F args u fun e u' => Q e u' ∧ Tw w0 A R ob C [] S S2 u' ∧ ∀ x G, Rdi u x G → (∀ g o, x = some ⟨g, o, none⟩ → g ∈ X) → Rdi u' x G := by
  obtain ⟨c, c', a, r, d, lo, o1, o2, hx⟩ := h.ex
  refine (hc c' r).mono fun e u' ⟨q, c1, s2, p⟩ => ⟨q, ?_, fun x G hr hx' => hr.muts p.mu fun g o e q => (mem_cols.1 q).2 (hx g (hx' g o e))⟩
  obtain ⟨a2, d2, k2⟩ := doc_step a d r.bas h.kept p
  have hl : ob < u.heap.size := h.own.lt
  exact ⟨⟨c, c1, a2, s2, d2, lo, o1, by rw [p.same ob hl]; exact o2, fun _ q => by cases q⟩, h.own.muts p.mu (fun q => (mem_cols.1 q).2 o2), k2⟩
theorem Tw.still (h : Tw w0 A R ob C X S S' u) (k : Kept u u') : Tw w0 A R ob C X S S' u' := by
  obtain ⟨c, c', a, r, d, lo, o1, o2, hx⟩ := h.ex
  exact ⟨⟨c, c', a.kept k, r.kept k, d, lo, o1, o2, hx⟩, h.own.kept k, h.kept.trans k⟩
theorem Tw.two (h : Tw w0 A R ob C X S S u) : Two w0 A R S u := by
  obtain ⟨c, c', a, r, d, lo, o1, o2, hx⟩ := h.ex
  exact ⟨⟨c, c', a, r, d, lo⟩, h.kept⟩
theorem Two.still (h : Two w0 A R S u) (k : Kept u u') : Two w0 A R S u' := by
  obtain ⟨⟨c, c', a, r, d, lo⟩, hk⟩ := h
  exact ⟨⟨c, c', a.kept k, r.kept k, d, lo⟩, hk.trans k⟩
theorem Two.box (h : Two w0 A R S u) (C : List Value) : Tw w0 A R u.heap.size C [] S S (u.alloc (.cells C.toArray 45)) := by
  obtain ⟨⟨c, c', a, r, d, lo⟩, hk⟩ := h
  have k : Kept u (u.alloc (.cells C.toArray 45)) := (Kept.refl u).alloc _ _
  exact ⟨⟨c, c', a.kept k, r.kept k, d, lo, a.new (Nat.le_refl _), r.new (Nat.le_refl _), fun _ q => by cases q⟩, Own.new u C _, hk.trans k⟩
end
end Go.Proofs.YtahpnnjemjjfhaaGreat

/-
  Each operation, on the package's space and on the document's.
-/
namespace Go.Proofs.YtahpnnjemjjfhaaGreat
open Go.RowKit

section
variable {w0 u : World} {A : Ad} {R : Ar} {ob : Nat} {C : List Value} {X : List Nat} {S S' : Sp} {kb : Nat}
theorem pk_born (i : Int) (h : Tw w0 A R ob C [] S S' u) (hk : S.Bd kb) (hkb : kb ≤ 50000) :
    Calls Tryz.prog 45 #[.pointer (some ⟨A.b, 0, none⟩), .int .i64 i] u fun e u' => e = .returned (.bool (bornB S.n S.T i)) ∧ Tw w0 A R ob C [] (S.born i) S' u' :=
  (h.pkg (S2 := S.born i) fun c a => (wborn_any i u a hk hkb).mono fun _ _ ⟨q, s, p⟩ => ⟨q, c, s, p⟩).mono fun _ _ ⟨q, t⟩ => ⟨q, t [] fun _ q => by cases q⟩
theorem dc_born (i : Int) (h : Tw w0 A R ob C X S' S u) (hk : S.Bd kb) (hkb : kb ≤ 50000) :
    Calls Tryz.prog 46 #[.pointer (some ⟨R.b, 0, none⟩), .int .i64 i] u fun e u' => e = .returned (.bool (bornB S.n S.T i)) ∧ Tw w0 A R ob C [] S' (S.born i) u' :=
  (h.doc (S2 := S.born i) fun c r => (rborn_any i u r hk hkb).mono fun _ _ ⟨q, s, p⟩ => ⟨q, c, s, p⟩).mono fun _ _ ⟨q, t, _⟩ => ⟨q, t⟩
theorem pk_drain (i : Int) (h : Tw w0 A R ob C [] S S' u) (hk : S.Bd kb) (hkb : kb ≤ 50000) :
    Calls Tryz.prog 49 #[.pointer (some ⟨A.b, 0, none⟩), .int .i64 i] u fun e u' => e = .returned (.int .i64 (S.drainN i)) ∧ Tw w0 A R ob C [] (S.drain i) S' u' :=
  (h.pkg (S2 := S.drain i) fun c a => drain_any i u a hk hkb).mono fun _ _ ⟨q, t⟩ => ⟨q, t [] fun _ q => by cases q⟩
theorem dc_drain (i : Int) (h : Tw w0 A R ob C X S' S u) (hk : S.Bd kb) (hkb : kb ≤ 50000) :
    Calls Tryz.prog 50 #[.pointer (some ⟨R.b, 0, none⟩), .int .i64 i] u fun e u' => e = .returned (.int .i64 (S.drainN i)) ∧ Tw w0 A R ob C [] S' (S.drain i) u' :=
  (h.doc (S2 := S.drain i) fun _ r => rdrain_any i u r hk hkb).mono fun _ _ ⟨q, t, _⟩ => ⟨q, t⟩
theorem pk_sweep (i : Int) (b : Bool) (h : Tw w0 A R ob C [] S S' u) (hk : S.Bd kb) (hkb : kb ≤ 50000) :
    Calls Tryz.prog 61 #[.pointer (some ⟨A.b, 0, none⟩), .int .i64 i, .bool b] u fun e u' => e = .returned (.bool (S.sweeps i b)) ∧ Tw w0 A R ob C [] (S.sweep i b) S' u' :=
  (h.pkg (S2 := S.sweep i b) fun c a => (sweep_any i b u a hk hkb).mono fun _ _ ⟨q, s, p⟩ => ⟨q, c, s, p⟩).mono fun _ _ ⟨q, t⟩ => ⟨q, t [] fun _ q => by cases q⟩
theorem dc_sweep (i : Int) (b : Bool) (h : Tw w0 A R ob C X S' S u) (hk : S.Bd kb) (hkb : kb ≤ 50000) :
    Calls Tryz.prog 62 #[.pointer (some ⟨R.b, 0, none⟩), .int .i64 i, .bool b] u fun e u' => e = .returned (.bool (S.sweeps i b)) ∧ Tw w0 A R ob C [] S' (S.sweep i b) u' :=
  (h.doc (S2 := S.sweep i b) fun c r => (rsweep_any i b u r hk hkb).mono fun _ _ ⟨q, s, p⟩ => ⟨q, c, s, p⟩).mono fun _ _ ⟨q, t, _⟩ => ⟨q, t⟩
theorem pk_serve (b : Bool) (h : Tw w0 A R ob C [] S S' u) (hk : S.Bd kb) (hkb : kb ≤ 50000) :
    Calls Tryz.prog 65 #[.pointer (some ⟨A.b, 0, none⟩), .bool b] u fun e u' => e = .returned (.bool S.serves) ∧ Tw w0 A R ob C [] (S.serve b) S' u' :=
  (h.pkg (S2 := S.serve b) fun c a => wserve_any b u a hk hkb).mono fun _ _ ⟨q, t⟩ => ⟨q, t [] fun _ q => by cases q⟩
theorem dc_serve (b : Bool) (h : Tw w0 A R ob C X S' S u) (hk : S.Bd kb) (hkb : kb ≤ 50000) :
    Calls Tryz.prog 66 #[.pointer (some ⟨R.b, 0, none⟩), .bool b] u fun e u' => e = .returned (.bool S.serves) ∧ Tw w0 A R ob C [] S' (S.serve b) u' :=
  (h.doc (S2 := S.serve b) fun _ r => rserve_any b u r hk hkb).mono fun _ _ ⟨q, t, _⟩ => ⟨q, t⟩
theorem pk_wants (h : Tw w0 A R ob C [] S S' u) (hk : S.Bd kb) (hkb : kb ≤ 50000) :
    Calls Tryz.prog 51 #[.pointer (some ⟨A.b, 0, none⟩)] u fun e u' => e = .returned (.bool (A.wants S)) ∧ Tw w0 A R ob C [] S.tick S' u' :=
  (h.pkg (S2 := S.tick) fun c a => (wwants_any u a hk hkb).mono fun _ _ ⟨q, s, p⟩ => ⟨q, c, s, p⟩).mono fun _ _ ⟨q, t⟩ => ⟨q, t [] fun _ q => by cases q⟩
theorem dc_wants (hn : A.C.n7 = R.C.n7) (h : Tw w0 A R ob C X S' S u) (hk : S.Bd kb) (hkb : kb ≤ 50000) :
    Calls Tryz.prog 52 #[.pointer (some ⟨R.b, 0, none⟩)] u fun e u' => e = .returned (.bool (A.wants S)) ∧ Tw w0 A R ob C [] S' S.tick u' :=
  (h.doc (S2 := S.tick) fun c r => (rwants_any u r hk hkb).mono fun _ _ ⟨q, s, p⟩ => ⟨q, c, s, p⟩).mono fun _ _ ⟨q, t, _⟩ => ⟨by rw [q, Ad.wants, Ar.wants, hn], t⟩
theorem pk_force (h : Tw w0 A R ob C [] S S' u) (hk : S.Bd kb) (hkb : kb ≤ 50000) :
    Calls Tryz.prog 53 #[.pointer (some ⟨A.b, 0, none⟩)] u fun e u' => e = .returned (.tuple #[]) ∧ Tw w0 A R ob C [] S.force S' u' :=
  (h.pkg (S2 := S.force) fun c a => (wforce_any u a hk hkb).mono fun _ _ ⟨q, s, p⟩ => ⟨q, c, s, p⟩).mono fun _ _ ⟨q, t⟩ => ⟨q, t [] fun _ q => by cases q⟩
theorem dc_force (h : Tw w0 A R ob C X S' S u) (hk : S.Bd kb) (hkb : kb ≤ 50000) :
    Calls Tryz.prog 54 #[.pointer (some ⟨R.b, 0, none⟩)] u fun e u' => e = .returned (.tuple #[]) ∧ Tw w0 A R ob C [] S' S.force u' :=
  (h.doc (S2 := S.force) fun c r => (rforce_any u r hk hkb).mono fun _ _ ⟨q, s, p⟩ => ⟨q, c, s, p⟩).mono fun _ _ ⟨q, t, _⟩ => ⟨q, t⟩
theorem pk_begin (h : Tw w0 A R ob C [] S S' u) (hk : S.Bd kb) (hkb : kb ≤ 50000) :
    Calls Tryz.prog 55 #[.pointer (some ⟨A.b, 0, none⟩)] u fun e u' => e = .returned (.tuple #[]) ∧ Tw w0 A R ob C [] S.begin S' u' :=
  (h.pkg (S2 := S.begin) fun c a => wbegin_any u a hk hkb).mono fun _ _ ⟨q, t⟩ => ⟨q, t [] fun _ q => by cases q⟩
theorem dc_begin (h : Tw w0 A R ob C X S' S u) (hk : S.Bd kb) (hkb : kb ≤ 50000) :
    Calls Tryz.prog 56 #[.pointer (some ⟨R.b, 0, none⟩)] u fun e u' => e = .returned (.tuple #[]) ∧ Tw w0 A R ob C [] S' S.begin u' :=
  (h.doc (S2 := S.begin) fun _ r => rbegin_any u r hk hkb).mono fun _ _ ⟨q, t, _⟩ => ⟨q, t⟩
theorem pk_end (h : Tw w0 A R ob C [] S S' u) (hk : S.Bd kb) (hkb : kb ≤ 50000) :
    Calls Tryz.prog 63 #[.pointer (some ⟨A.b, 0, none⟩)] u fun e u' => e = .returned (.tuple #[]) ∧ Tw w0 A R ob C [] S.end_ S' u' :=
  (h.pkg (S2 := S.end_) fun c a => wend_any u a hk hkb).mono fun _ _ ⟨q, t⟩ => ⟨q, t [] fun _ q => by cases q⟩
theorem dc_end (h : Tw w0 A R ob C X S' S u) (hk : S.Bd kb) (hkb : kb ≤ 50000) :
    Calls Tryz.prog 64 #[.pointer (some ⟨R.b, 0, none⟩)] u fun e u' => e = .returned (.tuple #[]) ∧ Tw w0 A R ob C [] S' S.end_ u' :=
  (h.doc (S2 := S.end_) fun _ r => rend_any u r hk hkb).mono fun _ _ ⟨q, t, _⟩ => ⟨q, t⟩
theorem pk_turn (h : Tw w0 A R ob C [] S S' u) (hk : S.Bd kb) (hkb : kb ≤ 50000) :
    Calls Tryz.prog 57 #[.pointer (some ⟨A.b, 0, none⟩)] u fun e u' => e = .returned (.bool (turns S.K)) ∧ Tw w0 A R ob C [] S.turn S' u' :=
  (h.pkg (S2 := S.turn) fun c a => (wturn_any u a hk hkb).mono fun _ _ ⟨q, s, p⟩ => ⟨q, c, s, p⟩).mono fun _ _ ⟨q, t⟩ => ⟨q, t [] fun _ q => by cases q⟩
theorem dc_turn (h : Tw w0 A R ob C X S' S u) (hk : S.Bd kb) (hkb : kb ≤ 50000) :
    Calls Tryz.prog 58 #[.pointer (some ⟨R.b, 0, none⟩)] u fun e u' => e = .returned (.bool (turns S.K)) ∧ Tw w0 A R ob C [] S' S.turn u' :=
  (h.doc (S2 := S.turn) fun c r => (rturn_any u r hk hkb).mono fun _ _ ⟨q, s, p⟩ => ⟨q, c, s, p⟩).mono fun _ _ ⟨q, t, _⟩ => ⟨q, t⟩
theorem pk_done (h : Tw w0 A R ob C [] S S' u) (hk : S.Bd kb) (hkb : kb ≤ 50000) :
    Calls Tryz.prog 59 #[.pointer (some ⟨A.b, 0, none⟩)] u fun e u' => e = .returned (.bool (dones S.K)) ∧ Tw w0 A R ob C [] S.doneC S' u' :=
  (h.pkg (S2 := S.doneC) fun c a => (wdone_any u a hk hkb).mono fun _ _ ⟨q, s, p⟩ => ⟨q, c, s, p⟩).mono fun _ _ ⟨q, t⟩ => ⟨q, t [] fun _ q => by cases q⟩
theorem dc_done (h : Tw w0 A R ob C X S' S u) (hk : S.Bd kb) (hkb : kb ≤ 50000) :
    Calls Tryz.prog 60 #[.pointer (some ⟨R.b, 0, none⟩)] u fun e u' => e = .returned (.bool (dones S.K)) ∧ Tw w0 A R ob C [] S' S.doneC u' :=
  (h.doc (S2 := S.doneC) fun c r => (rdone_any u r hk hkb).mono fun _ _ ⟨q, s, p⟩ => ⟨q, c, s, p⟩).mono fun _ _ ⟨q, t, _⟩ => ⟨q, t⟩
theorem tw_coil (h : Tw w0 A R ob C X S S' u) : Calls Tryz.prog 10 #[.pointer (some ⟨A.b, 0, none⟩)] u fun e u' => e = .returned (.pointer (some ⟨A.kb, 0, none⟩)) ∧ u' = u := by
  obtain ⟨c, c', a, r, _⟩ := h.ex
  exact wcoil_any u a
theorem Tw.c14 (h : Tw w0 A R ob C X S S' u) : u.cell? ⟨R.b, 14, none⟩ = some (.pointer (some ⟨R.kb, 0, none⟩)) := by
  obtain ⟨c, c', a, r, _⟩ := h.ex
  exact r.cell (i := 14) (u := .pointer (some ⟨R.kb, 0, none⟩)) fun _ _ => rfl
theorem pk_skip (i : Int) (h : Tw w0 A R ob C [] S S' u) :
    Calls Tryz.prog 67 #[.pointer (some ⟨A.kb, 0, none⟩), .int .i64 i] u fun e u' => e = .returned (.bool (skips S.K i)) ∧ Tw w0 A R ob C [] { S with K := skipS S.K i } S' u' :=
  (h.pkg (S2 := { S with K := skipS S.K i }) fun c a => (kskip_any i u a.coil).mono fun _ _ ⟨q, t, m⟩ => ⟨q, c, a.coils t (skipS_s _ _) m, a.stpk m⟩).mono fun _ _ ⟨q, t⟩ => ⟨q, t [] fun _ q => by cases q⟩
theorem dc_skip (i : Int) (h : Tw w0 A R ob C X S' S u) :
    Calls Tryz.prog 68 #[.pointer (some ⟨R.kb, 0, none⟩), .int .i64 i] u fun e u' => e = .returned (.bool (skips S.K i)) ∧ Tw w0 A R ob C [] S' { S with K := skipS S.K i } u' :=
  (h.doc (S2 := { S with K := skipS S.K i }) fun c r => (krskip_any i u r.coil).mono fun _ _ ⟨q, t, m⟩ => ⟨q, c, (r.coils t (skipS_s _ _) m).1, (r.coils t (skipS_s _ _) m).2⟩).mono fun _ _ ⟨q, t, _⟩ => ⟨q, t⟩
theorem pk_copy (i : Int) (h : Tw w0 A R ob C [] S S' u) :
    Calls Tryz.prog 69 #[.pointer (some ⟨A.kb, 0, none⟩), .int .i64 i] u fun e u' => e = .returned (.tuple #[.int .i64 (copyA S.K i), .bool (skips S.K i)]) ∧ Tw w0 A R ob C [] { S with K := copyS S.K i } S' u' :=
  (h.pkg (S2 := { S with K := copyS S.K i }) fun c a => (kcopy_any i u a.coil).mono fun _ _ ⟨q, t, m⟩ => ⟨q, c, a.coils t (copyS_s _ _) m, a.stpk m⟩).mono fun _ _ ⟨q, t⟩ => ⟨q, t [] fun _ q => by cases q⟩
theorem dc_copy (i : Int) (h : Tw w0 A R ob C X S' S u) :
    Calls Tryz.prog 70 #[.pointer (some ⟨R.kb, 0, none⟩), .int .i64 i] u fun e u' => e = .returned (.tuple #[.int .i64 (copyA S.K i), .bool (skips S.K i)]) ∧ Tw w0 A R ob C [] S' { S with K := copyS S.K i } u' :=
  (h.doc (S2 := { S with K := copyS S.K i }) fun c r => (krcopy_any i u r.coil).mono fun _ _ ⟨q, t, m⟩ => ⟨q, c, (r.coils t (copyS_s _ _) m).1, (r.coils t (copyS_s _ _) m).2⟩).mono fun _ _ ⟨q, t, _⟩ => ⟨q, t⟩

/-- What was answered lies in none of the document's blocks. -/
def Apart (x : Option Addr) (X : List Nat) : Prop := ∀ g o, x = some ⟨g, o, none⟩ → g ∈ X
theorem Tw.gots {Q : Option Addr → Nat → Ending → World → Prop} {G : List Int} {F : FuncId} {args : Array Value} {S2 : Sp} (h : Tw w0 A R ob C [] S S' u)
    (hc : ∀ c, SH u c A S → Calls Tryz.prog F args u fun e u' => ∃ x d, Q x d e u' ∧ Rdi u' x G ∧ (∀ g o, x = some ⟨g, o, none⟩ → u.heap.size ≤ g) ∧ ∃ c1, SH u' c1 A S2 ∧ Stp c u c1 u') :
    Calls Tryz.prog F args u fun e u' => ∃ x d, Q x d e u' ∧ Rdi u' x G ∧ ∃ X, Apart x X ∧ Tw w0 A R ob C X S2 S' u' :=
  (h.pkg (Q := fun e u' => ∃ x d, Q x d e u' ∧ Rdi u' x G ∧ ∀ g o, x = some ⟨g, o, none⟩ → u.heap.size ≤ g) (S2 := S2) fun c a => (hc c a).mono fun e u' ⟨x, d, q, r, n, c1, s, p⟩ => ⟨⟨x, d, q, r, n⟩, c1, s, p⟩).mono fun e u' ⟨⟨x, d, q, r, n⟩, t⟩ => by
    refine ⟨x, d, q, r, ?_⟩
    cases x with
    | none => exact ⟨[], fun g o e => by simp at e, t [] fun _ q => by cases q⟩
    | some a =>
      by_cases ha : u.heap.size ≤ a.block
      · exact ⟨[a.block], fun g o e => by rw [Option.some.inj e]; simp, t [a.block] fun k hk => by rw [List.mem_singleton.1 hk]; exact ha⟩
      · refine ⟨[], fun g o e => ?_, t [] fun _ q => by cases q⟩
        have := n g o e
        rw [Option.some.inj e] at ha
        exact absurd this ha
theorem pk_ask (t fr sp : Int) (se : Bool) (h : Tw w0 A R ob C [] S S' u) (hk : S.Bd kb) (hkb : kb ≤ 50000) :
    Calls Tryz.prog 30 #[.pointer (some ⟨A.b, 0, none⟩), .int .i64 t, .int .i64 fr, .int .i64 sp, .bool se] u fun e u' => ∃ x d, e = .returned (.agg #[.int .i64 (S.askG t fr sp).st, .slice x (S.askG t fr sp).G.length d, .int .i64 (S.askG t fr sp).at_]) ∧
      Rdi u' x (S.askG t fr sp).G ∧ ∃ X, Apart x X ∧ Tw w0 A R ob C X (S.ask t fr sp se) S' u' :=
  h.gots (Q := fun x d e _ => e = .returned (.agg #[.int .i64 (S.askG t fr sp).st, .slice x (S.askG t fr sp).G.length d, .int .i64 (S.askG t fr sp).at_])) fun _ a => ask_any t fr sp se u a hk hkb
theorem pk_look (t : Int) (h : Tw w0 A R ob C [] S S' u) (hk : S.Bd kb) (hkb : kb ≤ 50000) :
    Calls Tryz.prog 47 #[.pointer (some ⟨A.b, 0, none⟩), .int .i64 t] u fun e u' => ∃ x d, e = .returned (.agg #[.int .i64 (S.lookG t).st, .slice x (S.lookG t).G.length d, .int .i64 (S.lookG t).at_]) ∧
      Rdi u' x (S.lookG t).G ∧ ∃ X, Apart x X ∧ Tw w0 A R ob C X (S.look t) S' u' :=
  h.gots (Q := fun x d e _ => e = .returned (.agg #[.int .i64 (S.lookG t).st, .slice x (S.lookG t).G.length d, .int .i64 (S.lookG t).at_])) fun _ a => look_any t u a hk hkb
theorem dc_ask (t fr sp : Int) (se : Bool) {x1 : Option Addr} (h : Tw w0 A R ob C X S' S u) (hx : Apart x1 X) (r1 : Rdi u x1 (S.askG t fr sp).G) (hk : S.Bd kb) (hkb : kb ≤ 50000) :
    Calls Tryz.prog 44 #[.pointer (some ⟨R.b, 0, none⟩), .int .i64 t, .int .i64 fr, .int .i64 sp, .bool se] u fun e u' => ∃ x d, e = .returned (.agg #[.int .i64 (S.askG t fr sp).st, .slice x (S.askG t fr sp).G.length d, .int .i64 (S.askG t fr sp).at_]) ∧
      Rdi u' x1 (S.askG t fr sp).G ∧ Rdi u' x (S.askG t fr sp).G ∧ Tw w0 A R ob C [] S' (S.ask t fr sp se) u' :=
  (h.doc (S2 := S.ask t fr sp se) (Q := fun e u' => ∃ x d, e = .returned (.agg #[.int .i64 (S.askG t fr sp).st, .slice x (S.askG t fr sp).G.length d, .int .i64 (S.askG t fr sp).at_]) ∧ Rdi u' x (S.askG t fr sp).G) fun _ r =>
    (rask_any t fr sp se u r hk hkb).mono fun _ _ ⟨x, d, q, rr, s⟩ => ⟨⟨x, d, q, rr⟩, s⟩).mono fun _ _ ⟨⟨x, d, q, rr⟩, t, f⟩ => ⟨x, d, q, f _ _ r1 hx, rr, t⟩
theorem dc_look (t : Int) {x1 : Option Addr} (h : Tw w0 A R ob C X S' S u) (hx : Apart x1 X) (r1 : Rdi u x1 (S.lookG t).G) (hk : S.Bd kb) (hkb : kb ≤ 50000) (hst : ∀ e ∈ S.E, e.st = 0 ∨ e.st = 1 ∨ e.st = 2) :
    Calls Tryz.prog 48 #[.pointer (some ⟨R.b, 0, none⟩), .int .i64 t] u fun e u' => ∃ x d, e = .returned (.agg #[.int .i64 (S.lookG t).st, .slice x (S.lookG t).G.length d, .int .i64 (S.lookG t).at_]) ∧
      Rdi u' x1 (S.lookG t).G ∧ Rdi u' x (S.lookG t).G ∧ Tw w0 A R ob C [] S' (S.look t) u' :=
  (h.doc (S2 := S.look t) (Q := fun e u' => ∃ x d, e = .returned (.agg #[.int .i64 (S.lookG t).st, .slice x (S.lookG t).G.length d, .int .i64 (S.lookG t).at_]) ∧ Rdi u' x (S.lookG t).G) fun _ r =>
    (rlook_any t u r hk hkb hst).mono fun _ _ ⟨x, d, q, rr, s⟩ => ⟨⟨x, d, q, rr⟩, s⟩).mono fun _ _ ⟨⟨x, d, q, rr⟩, t, f⟩ => ⟨x, d, q, f _ _ r1 hx, rr, t⟩
end

section
variable {c s : Nat} {P0 P1 P2 : World → Prop} {d : Nat → Bool} {u u' : World}
theorem J3.any {Q : World → Prop} (h : J3 c s P0 P1 P2 d u) (a0 : ∀ u, P0 u → Q u) (a1 : ∀ u, P1 u → Q u) (a2 : ∀ u, P2 u → Q u) : Q u := by
  cases hs : d s with
  | true => exact a2 u (h.2.2 hs)
  | false => cases hc : d c with
    | true => exact a1 u (h.2.1 hc hs)
    | false => exact a0 u (h.1 hc)
theorem J3.stay2 (_h : J3 c s P0 P1 P2 d u) (k : Nat) (hk : k ≠ c) (hs : k ≠ s) (dc : d c = true) (ds : d s = true) (h' : P2 u') : J3 c s P0 P1 P2 (done d k) u' := by
  have e : done d k c = d c := by simp [done, Ne.symm hk]
  have e2 : done d k s = d s := by simp [done, Ne.symm hs]
  unfold J3
  rw [e, e2, dc, ds]
  exact ⟨(fun q => by cases q), (fun _ q => by cases q), fun _ => h'⟩
theorem JP.any {Q : World → Prop} {rs : List Nat} (h : JP c rs P0 P1 d u) (a0 : ∀ u, P0 u → Q u) (a1 : ∀ u, P1 u → Q u) : Q u := by
  cases hc : d c with
  | true => exact a1 u (h.now1 hc)
  | false => exact a0 u (h.now hc)
end
end Go.Proofs.YtahpnnjemjjfhaaGreat

