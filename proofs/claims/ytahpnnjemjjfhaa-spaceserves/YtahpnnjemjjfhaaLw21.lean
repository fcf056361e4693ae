/-
  A space of the law's own, its colours out of sight: D are blocks of the law's own; each call bounded.
-/
import Derived.Test.YtahpnnjemjjfhaaPlain21
namespace Go.Proofs.Ytahpnnjemjjfhaa
open Go.RowKit

theorem bd_tick {S : Sp} {k : Nat} (h : S.Bd k) : S.tick.Bd (k + 1) :=
  ⟨by have := h.c0; simp [Sp.tick]; omega, by have := h.c1; simp [Sp.tick]; omega, by have := h.len; show S.E.length ≤ _; omega, fun e he => by have := h.cyc e he; omega, h.pos⟩
theorem Sp.Bd.like {S S' : Sp} {k : Nat} (h : S.Bd k) (e1 : S'.ct = S.ct) (e2 : S'.E = S.E) : S'.Bd k := ⟨e1 ▸ h.c0, e1 ▸ h.c1, e2 ▸ h.len, e2 ▸ h.cyc, e2 ▸ h.pos⟩
theorem may_pos {S : Sp} {t fr sp : Int} (h : S.may t fr sp = true) : 0 ≤ t ∧ t < S.m ∧ 1 ≤ fr ∧ 0 ≤ sp ∧ S.of t = none := by
  simp only [Sp.may, Sp.isT, Bool.and_eq_true, decide_eq_true_eq, Bool.not_eq_true', Option.isSome_eq_false_iff, Option.isNone_iff_eq_none] at h
  exact ⟨h.1.1.1.1, h.1.1.1.2, h.1.1.2, h.1.2, h.2⟩
theorem bd_ask {S : Sp} {k : Nat} (h : S.Bd k) (t fr sp : Int) (se : Bool) : (S.ask t fr sp se).Bd (k + 1) := by
  have ht := bd_tick h
  unfold Sp.ask
  split
  · rename_i hm
    have hp := may_pos hm
    split
    · exact ht.like rfl rfl
    · split
      · exact ht.like rfl rfl
      · refine ⟨ht.c0, ht.c1, ?_, fun e he => ?_, fun e he => ?_⟩
        · have := h.len
          simp [Sp.addE, Sp.tick]; omega
        · rcases List.mem_append.1 he with he | he
          · exact ht.cyc e he
          · simp at he; subst he; simp [newEnt]; omega
        · rcases List.mem_append.1 he with he | he
          · exact ht.pos e he
          · simp at he; subst he; exact ⟨hp.2.2.1, hp.2.2.2.1⟩
  · exact ht
theorem bd_look {S : Sp} {k : Nat} (h : S.Bd k) (t : Int) : (S.look t).Bd (k + 1) := by
  have ht := bd_tick h
  unfold Sp.look
  split
  · exact ht
  · split
    · exact ht
    · refine ⟨ht.c0, ht.c1, ?_, fun e he => ht.cyc e (List.mem_of_mem_eraseIdx he), fun e he => ht.pos e (List.mem_of_mem_eraseIdx he)⟩
      exact Nat.le_trans (List.length_eraseIdx_le _ _) ht.len
theorem bd_drain {S : Sp} {k : Nat} (h : S.Bd k) (t : Int) : (S.drain t).Bd (k + 1) := by
  have ht := bd_tick h
  unfold Sp.drain
  split
  · have := fres_same (S.Q t.toNat) ({ S.tick with Q := fun j => if j = t.toNat then [] else S.Q j } : Sp)
    exact ht.like this.2.2.2.2.2.1 this.2.2.1
  · exact ht
theorem bd_sweep {S : Sp} {k : Nat} (h : S.Bd k) (i : Int) (se : Bool) : (S.sweep i se).Bd (k + 1) := by
  have ht := bd_tick h
  unfold Sp.sweep
  split
  · exact ht.like rfl rfl
  · exact ht
theorem bd_begin {S : Sp} {k : Nat} (h : S.Bd k) : S.begin.Bd (k + 1) := by
  have ht := bd_tick h
  refine ⟨ht.c0, ht.c1, by show (S.E.map noteE).length ≤ _; rw [List.length_map]; exact ht.len, fun e he => ?_, fun e he => ?_⟩
  · obtain ⟨e0, h0, rfl⟩ := List.mem_map.1 he
    exact ht.cyc e0 h0
  · obtain ⟨e0, h0, rfl⟩ := List.mem_map.1 he
    exact ht.pos e0 h0
theorem bd_end {S : Sp} {k : Nat} (h : S.Bd k) : S.end_.Bd (k + 1) := by
  have ht := bd_tick h
  refine ⟨ht.c0, ht.c1, by show (S.E.map endE).length ≤ _; rw [List.length_map]; exact ht.len, fun e he => ?_, fun e he => ?_⟩
  · obtain ⟨e0, h0, rfl⟩ := List.mem_map.1 he
    have := h.cyc e0 h0
    simp only [endE]
    split <;> omega
  · obtain ⟨e0, h0, rfl⟩ := List.mem_map.1 he
    exact ht.pos e0 h0
theorem bd_serve {S : Sp} {k : Nat} (h : S.Bd k) (se : Bool) : (S.serve se).Bd (k + 1) := by
  have ht := bd_tick h
  unfold Sp.serve
  split
  · exact ht
  · rename_i e he
    have hm : e ∈ S.E := List.mem_of_find?_eq_some he
    split
    · refine ⟨ht.c0, ht.c1, by show (List.set S.E _ _).length ≤ _; rw [List.length_set]; exact ht.len, fun x hx => ?_, fun x hx => ?_⟩
      · rcases List.mem_or_eq_of_mem_set hx with hx | rfl
        · exact ht.cyc x hx
        · exact ht.cyc e hm
      · rcases List.mem_or_eq_of_mem_set hx with hx | rfl
        · exact ht.pos x hx
        · exact ht.pos e hm
    · split
      · refine ⟨ht.c0, ht.c1, by show (List.set S.E _ _).length ≤ _; rw [List.length_set]; exact ht.len, fun x hx => ?_, fun x hx => ?_⟩
        · rcases List.mem_or_eq_of_mem_set hx with hx | rfl
          · exact ht.cyc x hx
          · exact ht.cyc e hm
        · rcases List.mem_or_eq_of_mem_set hx with hx | rfl
          · exact ht.pos x hx
          · exact ht.pos e hm
      · exact ht

structure Lw (w0 w : World) (A : Ad) (S : Sp) (kb : Nat) (D : List Nat) : Prop where
  my : ∃ c, Mys w0 w c A S ∧ ∀ k, k ∈ D → c k = 0
  bd : S.Bd kb
  up : kb ≤ 50000
/-- What is left alone. -/
structure Un (w0 w w' : World) (D : List Nat) : Prop where
  mu : ∃ E, Mut E w w' ∧ (∀ k, k ∈ E → w0.heap.size ≤ k) ∧ ∀ k, k ∈ D → k < w.heap.size → k ∉ E
section
variable {w0 w w' w'' : World} {A : Ad} {S S' : Sp} {kb : Nat} {D : List Nat} {c c' : Nat → Nat}
theorem Un.size (h : Un w0 w w' D) : w.heap.size ≤ w'.heap.size := by
  obtain ⟨E, m, _⟩ := h.mu
  exact m.size
theorem Un.blk {b : Nat} {L : List Value} (h : Un w0 w w' D) (B : Blk w b L) (hb : b ∈ D) : Blk w' b L := by
  obtain ⟨E, m, _, e⟩ := h.mu
  exact B.muts m (e b hb B.lt)
theorem Un.refl (w0 w : World) (D : List Nat) : Un w0 w w D := ⟨[], Mut.refl _ _, (fun _ h => by cases h), (fun _ _ _ h => by cases h)⟩
theorem Un.kept (k : Kept w w') : Un w0 w w' D := ⟨[], k.mut, (fun _ h => by cases h), (fun _ _ _ h => by cases h)⟩
theorem Lw.kept (h : Lw w0 w A S kb D) : Kept w0 w := by
  obtain ⟨c, m, _⟩ := h.my
  exact m.kept
theorem Lw.step (h : Mys w0 w c A S) (hd : ∀ k, k ∈ D → c k = 0) (hD : ∀ k, k ∈ D → k < w.heap.size) (s : SH w' c' A S') (p : Stp c w c' w') (b : S'.Bd (kb + 1)) (up : kb + 1 ≤ 50000) : Lw w0 w' A S' (kb + 1) D ∧ Un w0 w w' D :=
  ⟨⟨⟨c', h.step s p, fun k hk => (p.same k (hD k hk)).trans (hd k hk)⟩, b, up⟩, ⟨cols c w, p.mu, fun k hk => h.new k (mem_cols.1 hk).2, fun k hk _ q => (mem_cols.1 q).2 (hd k hk)⟩⟩
theorem Lw.keep (h : Lw w0 w A S kb D) (k : Kept w w') : Lw w0 w' A S kb D := by
  obtain ⟨c, m, d⟩ := h.my
  exact ⟨⟨c, m.keep k, d⟩, h.bd, h.up⟩
/-- A new block of the law's own. -/
theorem Lw.alloc (h : Lw w0 w A S kb D) (C : Array Value) (t : TypeId) : Lw w0 (w.alloc (.cells C t)) A S kb (w.heap.size :: D) := by
  obtain ⟨c, m, d⟩ := h.my
  refine ⟨⟨c, m.keep ((Kept.refl _).alloc _ _), fun k hk => ?_⟩, h.bd, h.up⟩
  rcases List.mem_cons.1 hk with rfl | hk
  · exact m.sh.new (Nat.le_refl _)
  · exact d k hk
theorem Lw.more (h : Lw w0 w A S kb D) {b : Nat} (hb : w.heap.size ≤ b) : Lw w0 w A S kb (b :: D) := by
  obtain ⟨c, m, d⟩ := h.my
  refine ⟨⟨c, m, fun k hk => ?_⟩, h.bd, h.up⟩
  rcases List.mem_cons.1 hk with rfl | hk
  · exact m.sh.new hb
  · exact d k hk
theorem Lw.less (h : Lw w0 w A S kb D) {D' : List Nat} (hd : ∀ k, k ∈ D' → k ∈ D) : Lw w0 w A S kb D' := by
  obtain ⟨c, m, d⟩ := h.my
  exact ⟨⟨c, m, fun k hk => d k (hd k hk)⟩, h.bd, h.up⟩
/-- Blocks of the law's own were written. -/
theorem Lw.wrote {E : List Nat} (h : Lw w0 w A S kb D) (m : Mut E w w') (hE : ∀ k, k ∈ E → k ∈ D ∧ w0.heap.size ≤ k) : Lw w0 w' A S kb D := by
  obtain ⟨c, my, d⟩ := h.my
  exact ⟨⟨c, my.own m fun k hk => ⟨d k (hE k hk).1, (hE k hk).2⟩, d⟩, h.bd, h.up⟩
theorem Lw.like (h : Lw w0 w A S kb D) {T : Nat → Fr} {F : Nat → Bool} (hT : ∀ j, j < S.n → S.T j = T j) (hF : ∀ j, j < S.n → S.F j = F j) : Lw w0 w A { S with T := T, F := F } kb D := by
  obtain ⟨c, m, d⟩ := h.my
  exact ⟨⟨c, ⟨m.sh.like hT hF, m.kept, m.new⟩, d⟩, h.bd.like rfl rfl, h.up⟩
theorem Lw.eqv (h : Lw w0 w A S kb D) (e : Eqv S S') : Lw w0 w A S' kb D := by
  obtain ⟨c, m, d⟩ := h.my
  exact ⟨⟨c, ⟨m.sh.eqv e, m.kept, m.new⟩, d⟩, h.bd.like e.ct.symm e.E.symm, h.up⟩
theorem Lw.tab (h : Lw w0 w A S kb D) : Tab w A.tb A.tg S.n S.T := by
  obtain ⟨c, m, _⟩ := h.my
  exact m.sh.tab

theorem Lw.ask (h : Lw w0 w A S kb D) (hD : ∀ k, k ∈ D → k < w.heap.size) (up : kb + 1 ≤ 50000) (t fr sp : Int) (se : Bool) :
    Calls Try.prog 16 #[.pointer (some ⟨A.b, 0, none⟩), .int .i64 t, .int .i64 fr, .int .i64 sp, .bool se] w fun e w' => ∃ x d, e = .returned (.agg #[.int .i64 (S.askG t fr sp).st, .slice x (S.askG t fr sp).G.length d, .int .i64 (S.askG t fr sp).at_]) ∧
      Rdi w' x (S.askG t fr sp).G ∧ (∀ g o, x = some ⟨g, o, none⟩ → w.heap.size ≤ g) ∧ Lw w0 w' A (S.ask t fr sp se) (kb + 1) D ∧ Un w0 w w' D := by
  obtain ⟨c, m, d⟩ := h.my
  refine (ask_any t fr sp se w m.sh h.bd h.up).mono ?_
  rintro e w' ⟨x, dd, rfl, r, n, c', s, p⟩
  exact ⟨x, dd, rfl, r, n, Lw.step m d hD s p (bd_ask h.bd t fr sp se) up⟩
theorem Lw.look (h : Lw w0 w A S kb D) (hD : ∀ k, k ∈ D → k < w.heap.size) (up : kb + 1 ≤ 50000) (t : Int) :
    Calls Try.prog 17 #[.pointer (some ⟨A.b, 0, none⟩), .int .i64 t] w fun e w' => ∃ x d, e = .returned (.agg #[.int .i64 (S.lookG t).st, .slice x (S.lookG t).G.length d, .int .i64 (S.lookG t).at_]) ∧
      Rdi w' x (S.lookG t).G ∧ (∀ g o, x = some ⟨g, o, none⟩ → w.heap.size ≤ g) ∧ Lw w0 w' A (S.look t) (kb + 1) D ∧ Un w0 w w' D := by
  obtain ⟨c, m, d⟩ := h.my
  refine (look_any t w m.sh h.bd h.up).mono ?_
  rintro e w' ⟨x, dd, rfl, r, n, c', s, p⟩
  exact ⟨x, dd, rfl, r, n, Lw.step m d hD s p (bd_look h.bd t) up⟩
theorem Lw.drain (h : Lw w0 w A S kb D) (hD : ∀ k, k ∈ D → k < w.heap.size) (up : kb + 1 ≤ 50000) (t : Int) :
    Calls Try.prog 18 #[.pointer (some ⟨A.b, 0, none⟩), .int .i64 t] w fun e w' => e = .returned (.int .i64 (S.drainN t)) ∧ Lw w0 w' A (S.drain t) (kb + 1) D ∧ Un w0 w w' D := by
  obtain ⟨c, m, d⟩ := h.my
  refine (drain_any t w m.sh h.bd h.up).mono ?_
  rintro e w' ⟨rfl, c', s, p⟩
  exact ⟨rfl, Lw.step m d hD s p (bd_drain h.bd t) up⟩
theorem Lw.sweep (h : Lw w0 w A S kb D) (hD : ∀ k, k ∈ D → k < w.heap.size) (up : kb + 1 ≤ 50000) (i : Int) (se : Bool) :
    Calls Try.prog 19 #[.pointer (some ⟨A.b, 0, none⟩), .int .i64 i, .bool se] w fun e w' => e = .returned (.bool (S.sweeps i se)) ∧ Lw w0 w' A (S.sweep i se) (kb + 1) D ∧ Un w0 w w' D := by
  obtain ⟨c, m, d⟩ := h.my
  refine (sweep_any i se w m.sh h.bd h.up).mono ?_
  rintro e w' ⟨rfl, s, p⟩
  exact ⟨rfl, Lw.step m d hD s p (bd_sweep h.bd i se) up⟩
theorem Lw.begin (h : Lw w0 w A S kb D) (hD : ∀ k, k ∈ D → k < w.heap.size) (up : kb + 1 ≤ 50000) :
    Calls Try.prog 20 #[.pointer (some ⟨A.b, 0, none⟩)] w fun e w' => e = .returned (.tuple #[]) ∧ Lw w0 w' A S.begin (kb + 1) D ∧ Un w0 w w' D := by
  obtain ⟨c, m, d⟩ := h.my
  refine (wbegin_any w m.sh h.bd h.up).mono ?_
  rintro e w' ⟨rfl, c', s, p⟩
  exact ⟨rfl, Lw.step m d hD s p (bd_begin h.bd) up⟩
theorem Lw.end_ (h : Lw w0 w A S kb D) (hD : ∀ k, k ∈ D → k < w.heap.size) (up : kb + 1 ≤ 50000) :
    Calls Try.prog 21 #[.pointer (some ⟨A.b, 0, none⟩)] w fun e w' => e = .returned (.tuple #[]) ∧ Lw w0 w' A S.end_ (kb + 1) D ∧ Un w0 w w' D := by
  obtain ⟨c, m, d⟩ := h.my
  refine (wend_any w m.sh h.bd h.up).mono ?_
  rintro e w' ⟨rfl, c', s, p⟩
  exact ⟨rfl, Lw.step m d hD s p (bd_end h.bd) up⟩
theorem Lw.serve (h : Lw w0 w A S kb D) (hD : ∀ k, k ∈ D → k < w.heap.size) (up : kb + 1 ≤ 50000) (se : Bool) :
    Calls Try.prog 22 #[.pointer (some ⟨A.b, 0, none⟩), .bool se] w fun e w' => e = .returned (.bool S.serves) ∧ Lw w0 w' A (S.serve se) (kb + 1) D ∧ Un w0 w w' D := by
  obtain ⟨c, m, d⟩ := h.my
  refine (wserve_any se w m.sh h.bd h.up).mono ?_
  rintro e w' ⟨rfl, c', s, p⟩
  exact ⟨rfl, Lw.step m d hD s p (bd_serve h.bd se) up⟩
theorem Lw.wants (h : Lw w0 w A S kb D) (hD : ∀ k, k ∈ D → k < w.heap.size) (up : kb + 1 ≤ 50000) :
    Calls Try.prog 29 #[.pointer (some ⟨A.b, 0, none⟩)] w fun e w' => e = .returned (.bool (A.wants S)) ∧ Lw w0 w' A S.tick (kb + 1) D ∧ Un w0 w w' D := by
  obtain ⟨c, m, d⟩ := h.my
  refine (wwants_any w m.sh h.bd h.up).mono ?_
  rintro e w' ⟨rfl, s, p⟩
  exact ⟨rfl, Lw.step m d hD s p (bd_tick h.bd) up⟩
theorem Lw.free (h : Lw w0 w A S kb D) : Calls Try.prog 14 #[.pointer (some ⟨A.b, 0, none⟩)] w fun e w' => e = .returned (.int .i64 (cntB S.F S.n : Int)) ∧ w' = w := by
  obtain ⟨c, m, d⟩ := h.my
  exact wfrees_any w m.sh
theorem Lw.waits (h : Lw w0 w A S kb D) : Calls Try.prog 15 #[.pointer (some ⟨A.b, 0, none⟩)] w fun e w' => e = .returned (.int .i64 ((wts S.E).length : Int)) ∧ Lw w0 w' A S kb D ∧ Un w0 w w' D := by
  obtain ⟨c, m, d⟩ := h.my
  refine (wwaits_any w m.sh).mono ?_
  rintro e w' ⟨rfl, k⟩
  exact ⟨rfl, h.keep k, Un.kept k⟩
theorem Lw.coil (h : Lw w0 w A S kb D) : Calls Try.prog 26 #[.pointer (some ⟨A.b, 0, none⟩)] w fun e w' => e = .returned (.pointer (some ⟨A.kb, 0, none⟩)) ∧ w' = w := by
  obtain ⟨c, m, d⟩ := h.my
  exact wcoil_any w m.sh
theorem Lw.used (h : Lw w0 w A S kb D) (i : Int) : Calls Try.prog 27 #[.pointer (some ⟨A.kb, 0, none⟩), .int .i64 i] w fun e w' => e = .returned (.int .i64 (usedF S.K i)) ∧ w' = w := by
  obtain ⟨c, m, d⟩ := h.my
  exact kused_any i w m.sh.coil
/-- made(small(n, s, ch)). -/
theorem made_small (n s ch : Nat) (w : World) {b : Nat} (hS : Shps w (some ⟨b, 0, none⟩) 1 S1) (h : 4 ≤ n ∧ n ≤ 1024 ∧ s ≤ 2048 ∧ ch ≤ 8 ∧ 3 * ch ≤ n) :
    Calls Try.prog 13 #[.agg #[.int .i64 (n : Int), .int .i64 (s : Int), .int .i64 0, .int .i64 3, .int .i64 1, .int .i64 (ch : Int), .int .i64 1, .int .i64 0, .slice (some ⟨b, 0, none⟩) 1 1]] w fun e w' =>
      ∃ A, e = .returned (.tuple #[.pointer (some ⟨A.b, 0, none⟩), .pointer (some ⟨A.tb, 0, none⟩)]) ∧ Lw w w' A (Sp.new n s 3 ch) 0 [] ∧ A.C.n7 = 0 := by
  refine (made_any n s 3 ch 0 1 1 0 (some ⟨b, 0, none⟩) 1 1 S1 (fun _ _ => false) w hS (fun i _ => refs1 i) (by
    refine ⟨?_, by decide, by decide, fun i hi => rfl⟩
    unfold Fits
    refine ⟨by omega, by omega, by omega, by omega, by omega, by decide, by decide, by omega, by omega⟩)).mono ?_
  rintro e w' ⟨A, c, rfl, m, e7⟩
  exact ⟨A, rfl, ⟨⟨c, m, (fun _ h => by cases h)⟩, bd_new _ _ _ _ _, by omega⟩, e7⟩
end
end Go.Proofs.Ytahpnnjemjjfhaa
