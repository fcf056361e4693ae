/-
  The modules Lw21, Snd21, Elems, Open21, one behind another.
-/
import Derived.Deep.Slices
import Derived.Test.YtahpnnjemjjfhaaGreatM01
import Derived.Test.YtahpnnjemjjfhaaGreatM18
/-
  A space of the law's own, its colours out of sight: D are blocks of the law's own; each call bounded.
-/
namespace Go.Proofs.YtahpnnjemjjfhaaGreat
open Go.RowKit

theorem bd_tick {S : Sp} {k : Nat} (h : S.Bd k) : S.tick.Bd (k + 1) :=
  ⟨by have := h.c0; simp [Sp.tick]; omega, by have := h.c1; simp [Sp.tick]; omega, by have := h.len; show S.E.length ≤ _; omega, fun e he => by have := h.cyc e he; omega, h.pos⟩
theorem Sp.Bd.like {S S' : Sp} {k : Nat} (h : S.Bd k) (e1 : S'.ct = S.ct) (e2 : S'.E = S.E) : S'.Bd k := ⟨e1 ▸ h.c0, e1 ▸ h.c1, e2 ▸ h.len, e2 ▸ h.cyc, e2 ▸ h.pos⟩
theorem may_pos {S : Sp} {t fr sp : Int} (h : S.may t fr sp = true) : 0 ≤ t ∧ t < S.m ∧ 1 ≤ fr ∧ 0 ≤ sp ∧ S.of t = none := by
  simp only [Sp.may, Sp.isT, Bool.and_eq_true, decide_eq_true_eq, Bool.not_eq_true', Option.isSome_eq_false_iff, Option.isNone_iff_eq_none] at h
  exact ⟨h.1.1.1.1, h.1.1.1.2, h.1.1.2, h.1.2, h.2⟩
theorem bd_ask {S : Sp} {k : Nat} (h : S.Bd k) (t fr sp : Int) (se : Bool) : (S.ask t fr sp se).Bd (k + 1) := by
  have ht := bd_tick h
  unfold Sp.ask
  split
  · rename_i hm
    have hp := may_pos hm
    split
    · exact ht.like rfl rfl
    · split
      · exact ht.like rfl rfl
      · refine ⟨ht.c0, ht.c1, ?_, fun e he => ?_, fun e he => ?_⟩
        · have := h.len
          simp [Sp.addE, Sp.tick]; omega
        · rcases List.mem_append.1 he with he | he
          · exact ht.cyc e he
          · simp at he; subst he; simp [newEnt]; omega
        · rcases List.mem_append.1 he with he | he
          · exact ht.pos e he
          · simp at he; subst he; exact ⟨hp.2.2.1, hp.2.2.2.1⟩
  · exact ht
theorem bd_look {S : Sp} {k : Nat} (h : S.Bd k) (t : Int) : (S.look t).Bd (k + 1) := by
  have ht := bd_tick h
  unfold Sp.look
  split
  · exact ht
  · split
    · exact ht
    · refine ⟨ht.c0, ht.c1, ?_, fun e he => ht.cyc e (List.mem_of_mem_eraseIdx he), fun e he => ht.pos e (List.mem_of_mem_eraseIdx he)⟩
      exact Nat.le_trans (List.length_eraseIdx_le _ _) ht.len
theorem bd_drain {S : Sp} {k : Nat} (h : S.Bd k) (t : Int) : (S.drain t).Bd (k + 1) := by
  have ht := bd_tick h
  unfold Sp.drain
  split
  · have := fres_same (S.Q t.toNat) ({ S.tick with Q := fun j => if j = t.toNat then [] else S.Q j } : Sp)
    exact ht.like this.2.2.2.2.2.1 this.2.2.1
  · exact ht
theorem bd_sweep {S : Sp} {k : Nat} (h : S.Bd k) (i : Int) (se : Bool) : (S.sweep i se).Bd (k + 1) := by
  have ht := bd_tick h
  unfold Sp.sweep
  split
  · exact ht.like rfl rfl
  · exact ht
theorem bd_begin {S : Sp} {k : Nat} (h : S.Bd k) : S.begin.Bd (k + 1) := by
  have ht := bd_tick h
  refine ⟨ht.c0, ht.c1, by show (S.E.map noteE).length ≤ _; rw [List.length_map]; exact ht.len, fun e he => ?_, fun e he => ?_⟩
  · obtain ⟨e0, h0, rfl⟩ := List.mem_map.1 he
    exact ht.cyc e0 h0
  · obtain ⟨e0, h0, rfl⟩ := List.mem_map.1 he
    exact ht.pos e0 h0
theorem bd_end {S : Sp} {k : Nat} (h : S.Bd k) : S.end_.Bd (k + 1) := by
  have ht := bd_tick h
  refine ⟨ht.c0, ht.c1, by show (S.E.map endE).length ≤ _; rw [List.length_map]; exact ht.len, fun e he => ?_, fun e he => ?_⟩
  · obtain ⟨e0, h0, rfl⟩ := List.mem_map.1 he
    have := h.cyc e0 h0
    simp only [endE]
    split <;> omega
  · obtain ⟨e0, h0, rfl⟩ := List.mem_map.1 he
    exact ht.pos e0 h0
theorem bd_serve {S : Sp} {k : Nat} (h : S.Bd k) (se : Bool) : (S.serve se).Bd (k + 1) := by
  have ht := bd_tick h
  unfold Sp.serve
  split
  · exact ht
  · rename_i e he
    have hm : e ∈ S.E := List.mem_of_find?_eq_some he
    split
    · refine ⟨ht.c0, ht.c1, by show (List.set S.E _ _).length ≤ _; rw [List.length_set]; exact ht.len, fun x hx => ?_, fun x hx => ?_⟩
      · rcases List.mem_or_eq_of_mem_set hx with hx | rfl
        · exact ht.cyc x hx
        · exact ht.cyc e hm
      · rcases List.mem_or_eq_of_mem_set hx with hx | rfl
        · exact ht.pos x hx
        · exact ht.pos e hm
    · split
      · refine ⟨ht.c0, ht.c1, by show (List.set S.E _ _).length ≤ _; rw [List.length_set]; exact ht.len, fun x hx => ?_, fun x hx => ?_⟩
        · rcases List.mem_or_eq_of_mem_set hx with hx | rfl
          · exact ht.cyc x hx
          · exact ht.cyc e hm
        · rcases List.mem_or_eq_of_mem_set hx with hx | rfl
          · exact ht.pos x hx
          · exact ht.pos e hm
      · exact ht

structure Lw (w0 w : World) (A : Ad) (S : Sp) (kb : Nat) (D : List Nat) : Prop where
  my : ∃ c, Mys w0 w c A S ∧ ∀ k, k ∈ D → c k = 0
  bd : S.Bd kb
  up : kb ≤ 50000
/-- What is left alone. -/
structure Un (w0 w w' : World) (D : List Nat) : Prop where
  mu : ∃ E, Mut E w w' ∧ (∀ k, k ∈ E → w0.heap.size ≤ k) ∧ ∀ k, k ∈ D → k < w.heap.size → k ∉ E
section
variable {w0 w w' w'' : World} {A : Ad} {S S' : Sp} {kb : Nat} {D : List Nat} {c c' : Nat → Nat}
theorem Un.size (h : Un w0 w w' D) : w.heap.size ≤ w'.heap.size := by
  obtain ⟨E, m, _⟩ := h.mu
  exact m.size
theorem Un.blk {b : Nat} {L : List Value} (h : Un w0 w w' D) (B : Blk w b L) (hb : b ∈ D) : Blk w' b L := by
  obtain ⟨E, m, _, e⟩ := h.mu
  exact B.muts m (e b hb B.lt)
theorem Un.refl (w0 w : World) (D : List Nat) : Un w0 w w D := ⟨[], Mut.refl _ _, (fun _ h => by cases h), (fun _ _ _ h => by cases h)⟩
theorem Un.kept (k : Kept w w') : Un w0 w w' D := ⟨[], k.mut, (fun _ h => by cases h), (fun _ _ _ h => by cases h)⟩
theorem Lw.kept (h : Lw w0 w A S kb D) : Kept w0 w := by
  obtain ⟨c, m, _⟩ := h.my
  exact m.kept
theorem Lw.step (h : Mys w0 w c A S) (hd : ∀ k, k ∈ D → c k = 0) (hD : ∀ k, k ∈ D → k < w.heap.size) (s : SH w' c' A S') (p : Stp c w c' w') (b : S'.Bd (kb + 1)) (up : kb + 1 ≤ 50000) : Lw w0 w' A S' (kb + 1) D ∧ Un w0 w w' D :=
  ⟨⟨⟨c', h.step s p, fun k hk => (p.same k (hD k hk)).trans (hd k hk)⟩, b, up⟩, ⟨cols c w, p.mu, fun k hk => h.new k (mem_cols.1 hk).2, fun k hk _ q => (mem_cols.1 q).2 (hd k hk)⟩⟩
theorem Lw.keep (h : Lw w0 w A S kb D) (k : Kept w w') : Lw w0 w' A S kb D := by
  obtain ⟨c, m, d⟩ := h.my
  exact ⟨⟨c, m.keep k, d⟩, h.bd, h.up⟩
/-- A new block of the law's own. -/
theorem Lw.alloc (h : Lw w0 w A S kb D) (C : Array Value) (t : TypeId) : Lw w0 (w.alloc (.cells C t)) A S kb (w.heap.size :: D) := by
  obtain ⟨c, m, d⟩ := h.my
  refine ⟨⟨c, m.keep ((Kept.refl _).alloc _ _), fun k hk => ?_⟩, h.bd, h.up⟩
  rcases List.mem_cons.1 hk with rfl | hk
  · exact m.sh.new (Nat.le_refl _)
  · exact d k hk
theorem Lw.more (h : Lw w0 w A S kb D) {b : Nat} (hb : w.heap.size ≤ b) : Lw w0 w A S kb (b :: D) := by
  obtain ⟨c, m, d⟩ := h.my
  refine ⟨⟨c, m, fun k hk => ?_⟩, h.bd, h.up⟩
  rcases List.mem_cons.1 hk with rfl | hk
  · exact m.sh.new hb
  · exact d k hk
theorem Lw.less (h : Lw w0 w A S kb D) {D' : List Nat} (hd : ∀ k, k ∈ D' → k ∈ D) : Lw w0 w A S kb D' := by
  obtain ⟨c, m, d⟩ := h.my
  exact ⟨⟨c, m, fun k hk => d k (hd k hk)⟩, h.bd, h.up⟩
/-- Blocks of the law's own were written. -/
theorem Lw.wrote {E : List Nat} (h : Lw w0 w A S kb D) (m : Mut E w w') (hE : ∀ k, k ∈ E → k ∈ D ∧ w0.heap.size ≤ k) : Lw w0 w' A S kb D := by
  obtain ⟨c, my, d⟩ := h.my
  exact ⟨⟨c, my.own m fun k hk => ⟨d k (hE k hk).1, (hE k hk).2⟩, d⟩, h.bd, h.up⟩
theorem Lw.like (h : Lw w0 w A S kb D) {T : Nat → Fr} {F : Nat → Bool} (hT : ∀ j, j < S.n → S.T j = T j) (hF : ∀ j, j < S.n → S.F j = F j) : Lw w0 w A { S with T := T, F := F } kb D := by
  obtain ⟨c, m, d⟩ := h.my
  exact ⟨⟨c, ⟨m.sh.like hT hF, m.kept, m.new⟩, d⟩, h.bd.like rfl rfl, h.up⟩
theorem Lw.eqv (h : Lw w0 w A S kb D) (e : Eqv S S') : Lw w0 w A S' kb D := by
  obtain ⟨c, m, d⟩ := h.my
  exact ⟨⟨c, ⟨m.sh.eqv e, m.kept, m.new⟩, d⟩, h.bd.like e.ct.symm e.E.symm, h.up⟩
theorem Lw.tab (h : Lw w0 w A S kb D) : Tab w A.tb A.tg S.n S.T := by
  obtain ⟨c, m, _⟩ := h.my
  exact m.sh.tab

theorem Lw.ask (h : Lw w0 w A S kb D) (hD : ∀ k, k ∈ D → k < w.heap.size) (up : kb + 1 ≤ 50000) (t fr sp : Int) (se : Bool) :
    Calls Tryz.prog 30 #[.pointer (some ⟨A.b, 0, none⟩), .int .i64 t, .int .i64 fr, .int .i64 sp, .bool se] w fun e w' => ∃ x d, e = .returned (.agg #[.int .i64 (S.askG t fr sp).st, .slice x (S.askG t fr sp).G.length d, .int .i64 (S.askG t fr sp).at_]) ∧
      Rdi w' x (S.askG t fr sp).G ∧ (∀ g o, x = some ⟨g, o, none⟩ → w.heap.size ≤ g) ∧ Lw w0 w' A (S.ask t fr sp se) (kb + 1) D ∧ Un w0 w w' D := by
  obtain ⟨c, m, d⟩ := h.my
  refine (ask_any t fr sp se w m.sh h.bd h.up).mono ?_
  rintro e w' ⟨x, dd, rfl, r, n, c', s, p⟩
  exact ⟨x, dd, rfl, r, n, Lw.step m d hD s p (bd_ask h.bd t fr sp se) up⟩
theorem Lw.look (h : Lw w0 w A S kb D) (hD : ∀ k, k ∈ D → k < w.heap.size) (up : kb + 1 ≤ 50000) (t : Int) :
    Calls Tryz.prog 47 #[.pointer (some ⟨A.b, 0, none⟩), .int .i64 t] w fun e w' => ∃ x d, e = .returned (.agg #[.int .i64 (S.lookG t).st, .slice x (S.lookG t).G.length d, .int .i64 (S.lookG t).at_]) ∧
      Rdi w' x (S.lookG t).G ∧ (∀ g o, x = some ⟨g, o, none⟩ → w.heap.size ≤ g) ∧ Lw w0 w' A (S.look t) (kb + 1) D ∧ Un w0 w w' D := by
  obtain ⟨c, m, d⟩ := h.my
  refine (look_any t w m.sh h.bd h.up).mono ?_
  rintro e w' ⟨x, dd, rfl, r, n, c', s, p⟩
  exact ⟨x, dd, rfl, r, n, Lw.step m d hD s p (bd_look h.bd t) up⟩
theorem Lw.drain (h : Lw w0 w A S kb D) (hD : ∀ k, k ∈ D → k < w.heap.size) (up : kb + 1 ≤ 50000) (t : Int) :
    Calls Tryz.prog 49 #[.pointer (some ⟨A.b, 0, none⟩), .int .i64 t] w fun e w' => e = .returned (.int .i64 (S.drainN t)) ∧ Lw w0 w' A (S.drain t) (kb + 1) D ∧ Un w0 w w' D := by
  obtain ⟨c, m, d⟩ := h.my
  refine (drain_any t w m.sh h.bd h.up).mono ?_
  rintro e w' ⟨rfl, c', s, p⟩
  exact ⟨rfl, Lw.step m d hD s p (bd_drain h.bd t) up⟩
theorem Lw.sweep (h : Lw w0 w A S kb D) (hD : ∀ k, k ∈ D → k < w.heap.size) (up : kb + 1 ≤ 50000) (i : Int) (se : Bool) :
    Calls Tryz.prog 61 #[.pointer (some ⟨A.b, 0, none⟩), .int .i64 i, .bool se] w fun e w' => e = .returned (.bool (S.sweeps i se)) ∧ Lw w0 w' A (S.sweep i se) (kb + 1) D ∧ Un w0 w w' D := by
  obtain ⟨c, m, d⟩ := h.my
  refine (sweep_any i se w m.sh h.bd h.up).mono ?_
  rintro e w' ⟨rfl, s, p⟩
  exact ⟨rfl, Lw.step m d hD s p (bd_sweep h.bd i se) up⟩
theorem Lw.begin (h : Lw w0 w A S kb D) (hD : ∀ k, k ∈ D → k < w.heap.size) (up : kb + 1 ≤ 50000) :
    Calls Tryz.prog 55 #[.pointer (some ⟨A.b, 0, none⟩)] w fun e w' => e = .returned (.tuple #[]) ∧ Lw w0 w' A S.begin (kb + 1) D ∧ Un w0 w w' D := by
  obtain ⟨c, m, d⟩ := h.my
  refine (wbegin_any w m.sh h.bd h.up).mono ?_
  rintro e w' ⟨rfl, c', s, p⟩
  exact ⟨rfl, Lw.step m d hD s p (bd_begin h.bd) up⟩
theorem Lw.end_ (h : Lw w0 w A S kb D) (hD : ∀ k, k ∈ D → k < w.heap.size) (up : kb + 1 ≤ 50000) :
    Calls Tryz.prog 63 #[.pointer (some ⟨A.b, 0, none⟩)] w fun e w' => e = .returned (.tuple #[]) ∧ Lw w0 w' A S.end_ (kb + 1) D ∧ Un w0 w w' D := by
  obtain ⟨c, m, d⟩ := h.my
  refine (wend_any w m.sh h.bd h.up).mono ?_
  rintro e w' ⟨rfl, c', s, p⟩
  exact ⟨rfl, Lw.step m d hD s p (bd_end h.bd) up⟩
theorem Lw.serve (h : Lw w0 w A S kb D) (hD : ∀ k, k ∈ D → k < w.heap.size) (up : kb + 1 ≤ 50000) (se : Bool) :
    Calls Tryz.prog 65 #[.pointer (some ⟨A.b, 0, none⟩), .bool se] w fun e w' => e = .returned (.bool S.serves) ∧ Lw w0 w' A (S.serve se) (kb + 1) D ∧ Un w0 w w' D := by
  obtain ⟨c, m, d⟩ := h.my
  refine (wserve_any se w m.sh h.bd h.up).mono ?_
  rintro e w' ⟨rfl, c', s, p⟩
  exact ⟨rfl, Lw.step m d hD s p (bd_serve h.bd se) up⟩
theorem Lw.wants (h : Lw w0 w A S kb D) (hD : ∀ k, k ∈ D → k < w.heap.size) (up : kb + 1 ≤ 50000) :
    Calls Tryz.prog 51 #[.pointer (some ⟨A.b, 0, none⟩)] w fun e w' => e = .returned (.bool (A.wants S)) ∧ Lw w0 w' A S.tick (kb + 1) D ∧ Un w0 w w' D := by
  obtain ⟨c, m, d⟩ := h.my
  refine (wwants_any w m.sh h.bd h.up).mono ?_
  rintro e w' ⟨rfl, s, p⟩
  exact ⟨rfl, Lw.step m d hD s p (bd_tick h.bd) up⟩
theorem Lw.free (h : Lw w0 w A S kb D) : Calls Tryz.prog 23 #[.pointer (some ⟨A.b, 0, none⟩)] w fun e w' => e = .returned (.int .i64 (cntB S.F S.n : Int)) ∧ w' = w := by
  obtain ⟨c, m, d⟩ := h.my
  exact wfrees_any w m.sh
theorem Lw.waits (h : Lw w0 w A S kb D) : Calls Tryz.prog 21 #[.pointer (some ⟨A.b, 0, none⟩)] w fun e w' => e = .returned (.int .i64 ((wts S.E).length : Int)) ∧ Lw w0 w' A S kb D ∧ Un w0 w w' D := by
  obtain ⟨c, m, d⟩ := h.my
  refine (wwaits_any w m.sh).mono ?_
  rintro e w' ⟨rfl, k⟩
  exact ⟨rfl, h.keep k, Un.kept k⟩
theorem Lw.coil (h : Lw w0 w A S kb D) : Calls Tryz.prog 10 #[.pointer (some ⟨A.b, 0, none⟩)] w fun e w' => e = .returned (.pointer (some ⟨A.kb, 0, none⟩)) ∧ w' = w := by
  obtain ⟨c, m, d⟩ := h.my
  exact wcoil_any w m.sh
/-- made(small(n, s, ch)). -/
theorem made_small (n s ch : Nat) (w : World) {b : Nat} (hS : Shps w (some ⟨b, 0, none⟩) 1 S1) (h : 4 ≤ n ∧ n ≤ 1024 ∧ s ≤ 2048 ∧ ch ≤ 8 ∧ 3 * ch ≤ n) :
    Calls Tryz.prog 29 #[.agg #[.int .i64 (n : Int), .int .i64 (s : Int), .int .i64 0, .int .i64 3, .int .i64 1, .int .i64 (ch : Int), .int .i64 1, .int .i64 0, .slice (some ⟨b, 0, none⟩) 1 1]] w fun e w' =>
      ∃ A, e = .returned (.tuple #[.pointer (some ⟨A.b, 0, none⟩), .pointer (some ⟨A.tb, 0, none⟩)]) ∧ Lw w w' A (Sp.new n s 3 ch) 0 [] ∧ A.C.n7 = 0 := by
  refine (made_any n s 3 ch 0 1 1 0 (some ⟨b, 0, none⟩) 1 1 S1 (fun _ _ => false) w hS (fun i _ => refs1 i) (by
    refine ⟨?_, by decide, by decide, fun i hi => rfl⟩
    unfold Fits
    refine ⟨by omega, by omega, by omega, by omega, by omega, by decide, by decide, by omega, by omega⟩)).mono ?_
  rintro e w' ⟨A, c, rfl, m, e7⟩
  exact ⟨A, rfl, ⟨⟨c, m, (fun _ h => by cases h)⟩, bd_new _ _ _ _ _, by omega⟩, e7⟩
end
end Go.Proofs.YtahpnnjemjjfhaaGreat

/-
  A space that is sound: what is free, kept and used.
-/
namespace Go.Proofs.YtahpnnjemjjfhaaGreat
open Go.RowKit

structure Snd (S : Sp) : Prop where
  st : ∀ j, j < S.n → (S.T j).s = 0 ∨ (S.T j).s = 1 ∨ (S.T j).s = 2
  fr : ∀ j, j < S.n → (S.F j = true ↔ (S.T j).s = 0)
  sk : ∀ i, i < S.m → ∀ x, x ∈ S.Q i → ∃ k : Nat, x = k ∧ k < S.n ∧ (S.T k).s = 1
  nd : ∀ i, i < S.m → (S.Q i).Nodup
  dj : ∀ i j, i < S.m → j < S.m → i ≠ j → ∀ x, x ∈ S.Q i → x ∉ S.Q j

theorem mem_cast {L : List Nat} {j : Nat} : ((j : Int) ∈ L.map fun x : Nat => (x : Int)) ↔ j ∈ L := by
  rw [List.mem_map]
  constructor
  · rintro ⟨x, hx, e⟩
    obtain rfl : x = j := by omega
    exact hx
  · intro h; exact ⟨j, h, rfl⟩
theorem nodup_cast {L : List Nat} (h : L.Nodup) : (L.map fun x : Nat => (x : Int)).Nodup := by
  rw [List.Nodup, List.pairwise_map]
  exact h.imp fun h e => h (by omega)

section
variable {S : Sp}
theorem Snd.like {S' : Sp} (h : Snd S) (e1 : S'.n = S.n) (e2 : S'.T = S.T) (e3 : S'.F = S.F) (e4 : S'.m = S.m) (e5 : S'.Q = S.Q) : Snd S' := by
  obtain ⟨n', T', F', E', K', m', most', Q', fo', ct'⟩ := S'
  simp only at e1 e2 e3 e4 e5
  subst e1 e2 e3 e4 e5
  exact ⟨h.st, h.fr, h.sk, h.nd, h.dj⟩
theorem Snd.new (n s m ch : Nat) : Snd (Sp.new n s m ch) :=
  ⟨fun j _ => .inl rfl, fun j _ => by simp [Sp.new, F1, T0], fun i _ x h => by simp [Sp.new] at h, fun i _ => by simp [Sp.new], fun i j _ _ _ x h => by simp [Sp.new] at h⟩
theorem Snd.tk (h : Snd S) (fr sp : Int) (se : Bool) (ht : takeB S.n S.F fr = true) : Snd (S.tk fr sp se) := by
  obtain ⟨t1, t2, t3⟩ := takeL_ok ht
  have hT : ∀ j, j < S.n → (S.tk fr sp se).T j = if j ∈ takeL S.n S.F fr then ⟨2, false, se⟩ else S.T j := fun j hj => by
    show useT S.n 2 se S.T (takeZ S.n S.F fr) j = _
    rw [useT_at rfl _ _ hj]
    simp only [takeZ, mem_cast]
  have hF : ∀ j, (S.tk fr sp se).F j = (S.F j && !(takeL S.n S.F fr).contains j) := fun _ => rfl
  refine ⟨fun j hj => ?_, fun j hj => ?_, fun i hi x hx => ?_, h.nd, h.dj⟩
  · rw [hT j hj]
    split
    · exact .inr (.inr rfl)
    · exact h.st j hj
  · rw [hT j hj, hF j]
    split
    · rename_i hm
      simp [hm]
    · rename_i hm
      simp [hm]
      exact h.fr j hj
  · obtain ⟨k, e, hk, hs⟩ := h.sk i hi x hx
    refine ⟨k, e, hk, ?_⟩
    rw [hT k hk, if_neg]
    · exact hs
    · intro hm
      have := (h.fr k hk).1 (t2 k hm).2
      omega
theorem Snd.fill (h : Snd S) (i : Nat) (hi : i < S.m) : Snd (S.fill i) := by
  obtain ⟨t1, t2, _⟩ := lowL_ok (n := S.n) (F := S.F) (k := (S.most : Int) - ((S.Q i).length : Int))
  have hT : ∀ j, j < S.n → (S.fill i).T j = if j ∈ S.lw i then ⟨1, false, false⟩ else S.T j := fun j hj => by
    show useT S.n 1 false S.T (S.lwZ i) j = _
    rw [useT_at rfl _ _ hj]
    simp only [Sp.lwZ, mem_cast]
  have hF : ∀ j, (S.fill i).F j = (S.F j && !(S.lw i).contains j) := fun _ => rfl
  have hQ : ∀ j, (S.fill i).Q j = if j = i then S.Q i ++ S.lwZ i else S.Q j := fun _ => rfl
  have t0 : ∀ k, k ∈ S.lw i → k < S.n ∧ (S.T k).s = 0 := fun k hk => ⟨(t2 k hk).1, (h.fr k (t2 k hk).1).1 (t2 k hk).2⟩
  have old : ∀ k, k < S.n → (S.T k).s = 1 → (S.fill i).T k = S.T k := fun k hk hs => by
    rw [hT k hk, if_neg]
    intro hm
    have := (t0 k hm).2
    omega
  refine ⟨fun j hj => ?_, fun j hj => ?_, fun q hq x hx => ?_, fun q hq => ?_, fun q r hq hr hne x hx => ?_⟩
  · rw [hT j hj]
    split
    · exact .inr (.inl rfl)
    · exact h.st j hj
  · rw [hT j hj, hF j]
    split
    · rename_i hm
      simp [hm]
    · rename_i hm
      simp [hm]
      exact h.fr j hj
  · rw [hQ q] at hx
    have go : x ∈ S.Q q → ∃ k : Nat, x = k ∧ k < S.n ∧ ((S.fill i).T k).s = 1 := fun hx => by
      obtain ⟨k, e, hk, hs⟩ := h.sk q hq x hx
      exact ⟨k, e, hk, by rw [old k hk hs]; exact hs⟩
    split at hx
    · rename_i e
      rcases List.mem_append.1 hx with hx | hx
      · exact go (e ▸ hx)
      · simp only [Sp.lwZ, List.mem_map] at hx
        obtain ⟨k, hk, rfl⟩ := hx
        exact ⟨k, rfl, (t2 k hk).1, by rw [hT k (t2 k hk).1, if_pos hk]⟩
    · exact go hx
  · rw [hQ q]
    split
    · rw [List.nodup_append]
      refine ⟨h.nd i hi, nodup_cast t1, fun a ha b hb e => ?_⟩
      subst e
      obtain ⟨k, e, hk, hs⟩ := h.sk i hi a ha
      subst e
      rw [Sp.lwZ, mem_cast] at hb
      have := (t0 k hb).2
      omega
    · exact h.nd q hq
  · rw [hQ q] at hx
    rw [hQ r]
    have nl : ∀ y, ∀ p, p < S.m → y ∈ S.Q p → y ∉ S.lwZ i := fun y p hp hy hb => by
      obtain ⟨k, e, hk, hs⟩ := h.sk p hp y hy
      subst e
      rw [Sp.lwZ, mem_cast] at hb
      have := (t0 k hb).2
      omega
    split at hx
    · rename_i e
      subst e
      rw [if_neg (Ne.symm hne)]
      rcases List.mem_append.1 hx with hx | hx
      · exact h.dj q r hq hr hne x hx
      · exact fun hy => nl x r hr hy hx
    · split
      · rename_i e
        subst e
        intro hy
        rcases List.mem_append.1 hy with hy | hy
        · exact h.dj q r hq hr hne x hx hy
        · exact nl x q hq hx hy
      · exact h.dj q r hq hr hne x hx
theorem Snd.takeS (h : Snd S) (i : Nat) (hi : i < S.m) (k : Int) (se : Bool) : Snd (S.takeS i k se) := by
  have hsub : ∀ x, x ∈ (S.Q i).take k.toNat → x ∈ S.Q i := fun x hx => List.mem_of_mem_take hx
  have hT : ∀ j, j < S.n → (S.takeS i k se).T j = if (j : Int) ∈ (S.Q i).take k.toNat then ⟨2, false, se⟩ else S.T j := fun j hj => by
    show useT S.n 2 se S.T ((S.Q ((i : Int).toNat)).take k.toNat) j = _
    rw [useT_at rfl _ _ hj, Int.toNat_natCast]
  have hQ : ∀ j, (S.takeS i k se).Q j = if j = i then (S.Q i).drop k.toNat else S.Q j := fun j => by
    show (if j = (i : Int).toNat then (S.Q ((i : Int).toNat)).drop k.toNat else S.Q j) = _
    rw [Int.toNat_natCast]
  refine ⟨fun j hj => ?_, fun j hj => ?_, fun q hq x hx => ?_, fun q hq => ?_, fun q r hq hr hne x hx => ?_⟩
  · rw [hT j hj]
    split
    · exact .inr (.inr rfl)
    · exact h.st j hj
  · rw [hT j hj]
    split
    · rename_i hm
      obtain ⟨k', e, hk, hs⟩ := h.sk i hi _ (hsub _ hm)
      obtain rfl : j = k' := by omega
      constructor
      · intro hf
        have := (h.fr j hj).1 hf
        omega
      · intro hf; cases hf
    · exact h.fr j hj
  · rw [hQ q] at hx
    have hx0 : x ∈ S.Q q := by
      split at hx
      · rename_i e; rw [e]; exact List.mem_of_mem_drop hx
      · exact hx
    obtain ⟨k', e, hk, hs⟩ := h.sk q hq x hx0
    refine ⟨k', e, hk, ?_⟩
    rw [hT k' hk, if_neg]
    · exact hs
    · intro hm
      rw [← e] at hm
      split at hx
      · have hn := h.nd i hi
        rw [← List.take_append_drop k.toNat (S.Q i), List.nodup_append] at hn
        exact hn.2.2 x hm x hx rfl
      · rename_i e2
        exact h.dj q i hq hi e2 x hx0 (hsub x hm)
  · rw [hQ q]
    split
    · exact (h.nd i hi).sublist (List.drop_sublist _ _)
    · exact h.nd q hq
  · rw [hQ q] at hx
    rw [hQ r]
    have hx0 : x ∈ S.Q q := by
      split at hx
      · rename_i e; rw [e]; exact List.mem_of_mem_drop hx
      · exact hx
    intro hy
    have hy0 : x ∈ S.Q r := by
      split at hy
      · rename_i e; rw [e]; exact List.mem_of_mem_drop hy
      · exact hy
    exact h.dj q r hq hr hne x hx0 hy0
/-- One that lies in no stock is given back. -/
theorem Snd.fre (h : Snd S) (k : Nat) (hk : k < S.n) (hs : (S.T k).s ≠ 0) (hq : ∀ i, i < S.m → (k : Int) ∉ S.Q i) : Snd (S.fre k) := by
  have hf : S.F k = false := by
    cases e : S.F k
    · rfl
    · exact absurd ((h.fr k hk).1 e) hs
  have hT : ∀ j, (S.fre k).T j = if j = k then ⟨0, false, false⟩ else S.T j := fun j => setT_at rfl hk j
  have hF : ∀ j, (S.fre k).F j = if j = k then true else S.F j := fun j => giveF_at hk hf j
  refine ⟨fun j hj => ?_, fun j hj => ?_, fun i hi x hx => ?_, h.nd, h.dj⟩
  · rw [hT j]
    split
    · exact .inl rfl
    · exact h.st j hj
  · rw [hT j, hF j]
    split
    · simp
    · exact h.fr j hj
  · obtain ⟨k', e, hk', hs'⟩ := h.sk i hi x hx
    refine ⟨k', e, hk', ?_⟩
    rw [hT k', if_neg]
    · exact hs'
    · rintro rfl
      exact hq i hi (e ▸ hx)
theorem Snd.fres : ∀ (L : List Int) {S : Sp}, Snd S → L.Nodup → (∀ x, x ∈ L → ∃ k : Nat, x = k ∧ k < S.n ∧ (S.T k).s ≠ 0) → (∀ x, x ∈ L → ∀ i, i < S.m → x ∉ S.Q i) → Snd (S.fres L)
  | [], _, h, _, _, _ => h
  | x :: L, S, h, hn, hk, hq => by
    obtain ⟨k, rfl, hkn, hs⟩ := hk x (by simp)
    obtain ⟨h1, h2⟩ := List.nodup_cons.1 hn
    refine Snd.fres L (h.fre k hkn hs (hq k (by simp))) h2 (fun y hy => ?_) (fun y hy i hi => hq y (by simp [hy]) i hi)
    obtain ⟨k', e, hk', hs'⟩ := hk y (by simp [hy])
    refine ⟨k', e, hk', ?_⟩
    show (setT S.n S.T k 0 false false k').s ≠ 0
    rw [setT_at rfl hkn, if_neg]
    · exact hs'
    · rintro rfl
      exact h1 (e ▸ hy)
theorem Snd.drain (h : Snd S) (t : Int) : Snd (S.drain t) := by
  unfold Sp.drain
  split
  · rename_i ht
    simp only [Sp.isT, decide_eq_true_eq] at ht
    have hi : t.toNat < S.m := by omega
    refine Snd.fres _ (S := ({ S.tick with Q := fun j => if j = t.toNat then [] else S.Q j } : Sp)) ⟨h.st, h.fr, fun i hi' x hx => ?_, fun i hi' => ?_, fun i j h1 h2 h3 x hx => ?_⟩ (h.nd _ hi) (fun x hx => ?_) (fun x hx i hi' hy => ?_)
    · have hx : x ∈ (if i = t.toNat then [] else S.Q i) := hx
      split at hx
      · simp at hx
      · exact h.sk i hi' x hx
    · show (if i = t.toNat then [] else S.Q i).Nodup
      split
      · exact List.nodup_nil
      · exact h.nd i hi'
    · have hx : x ∈ (if i = t.toNat then [] else S.Q i) := hx
      show x ∉ (if j = t.toNat then [] else S.Q j)
      split at hx
      · simp at hx
      · split
        · simp
        · exact h.dj i j h1 h2 h3 x hx
    · obtain ⟨k, e, hk, hs⟩ := h.sk _ hi x hx
      exact ⟨k, e, hk, by show (S.T k).s ≠ 0; omega⟩
    · have hy : x ∈ (if i = t.toNat then [] else S.Q i) := hy
      split at hy
      · simp at hy
      · rename_i e
        exact h.dj i _ hi' hi e x hy hx
  · exact h.like rfl rfl rfl rfl rfl
theorem Snd.sweep (h : Snd S) (i : Int) (se : Bool) : Snd (S.sweep i se) := by
  unfold Sp.sweep
  split
  · rename_i hs
    simp only [Sp.sweeps, Bool.and_eq_true, beq_iff_eq, stt] at hs
    obtain ⟨hs, _⟩ := hs
    split at hs
    · rename_i hin
      obtain ⟨k, rfl, hk⟩ := tinn_iff hin
      rw [Int.toNat_natCast] at hs
      refine Snd.fre (S := S.tick) (h.like rfl rfl rfl rfl rfl) k hk (by show (S.T k).s ≠ 0; omega) fun q hq hx => ?_
      obtain ⟨k', e, _, hs'⟩ := h.sk q hq _ hx
      obtain rfl : k = k' := by omega
      omega
    · cases hs
  · exact h.like rfl rfl rfl rfl rfl
theorem Snd.ask (h : Snd S) (t fr sp : Int) (se : Bool) : Snd (S.ask t fr sp se) := by
  have ht : Snd S.tick := h.like rfl rfl rfl rfl rfl
  unfold Sp.ask
  split
  · rename_i hm
    have hp := may_pos hm
    obtain ⟨i, rfl⟩ : ∃ i : Nat, t = i := ⟨t.toNat, by omega⟩
    have hi : i < S.m := by omega
    split
    · exact ht.takeS i hi fr se
    · split
      · rename_i hf
        simp only [Bool.and_eq_true] at hf
        exact Snd.fill (S := S.tick.tk fr sp se) (ht.tk fr sp se (fits_takes hf.2 hp.2.2.1 hp.2.2.2.1).1) _ (by rw [Int.toNat_natCast]; exact hi)
      · exact ht.like rfl rfl rfl rfl rfl
  · exact ht
theorem Snd.serve (h : Snd S) {kb : Nat} (hb : S.Bd kb) (se : Bool) : Snd (S.serve se) := by
  have ht : Snd S.tick := h.like rfl rfl rfl rfl rfl
  unfold Sp.serve
  split
  · exact ht
  · rename_i e he
    have hm : e ∈ S.E := List.mem_of_find?_eq_some he
    have hp := hb.pos e hm
    split
    · rename_i hf
      exact (ht.tk e.fr e.sp se (fits_takes hf hp.1 hp.2).1).like rfl rfl rfl rfl rfl
    · split
      · exact ht.like rfl rfl rfl rfl rfl
      · exact ht
theorem Snd.look (h : Snd S) (t : Int) : Snd (S.look t) := by
  unfold Sp.look
  split
  · exact h.like rfl rfl rfl rfl rfl
  · split
    · exact h.like rfl rfl rfl rfl rfl
    · exact h.like rfl rfl rfl rfl rfl
end

/-! Counts. -/
theorem cnt_B (T : Nat → Fr) (s : Int) : ∀ n, cnt T s n = cntB (fun j => (T j).s == s) n
  | 0 => rfl
  | n + 1 => by simp [cnt, cntB, cnt_B T s n]
theorem cntB_add {F : Nat → Bool} {L : List Nat} {n : Nat} (hn : L.Nodup) (hm : ∀ x ∈ L, x < n ∧ F x = false) : cntB (fun j => F j || L.contains j) n = cntB F n + L.length := by
  have h := cntB_drop (F := fun j => F j || L.contains j) (n := n) hn (fun x hx => ⟨(hm x hx).1, by simp [hx]⟩)
  have e : cntB (dropF (fun j => F j || L.contains j) L) n = cntB F n := cntB_congr fun j hj => by
    by_cases q : j ∈ L
    · simp [dropF, q, (hm j q).2]
    · simp [dropF, q]
  omega
/-- Of L, all in the state y, each is set to z. -/
theorem cnt_use {n : Nat} {T : Nat → Fr} {L : List Nat} {y z : Int} {se : Bool} (hz : isSt z = true) (hyz : y ≠ z) (hn : L.Nodup) (hm : ∀ x ∈ L, x < n ∧ (T x).s = y) (s : Int) :
    cnt (useT n z se T (L.map fun x : Nat => (x : Int))) s n + (if s = y then L.length else 0) = cnt T s n + (if s = z then L.length else 0) := by
  rw [cnt_B, cnt_B]
  have hT : ∀ j, j < n → (useT n z se T (L.map fun x : Nat => (x : Int)) j).s = if j ∈ L then z else (T j).s := fun j hj => by
    rw [useT_at hz _ _ hj]
    simp only [mem_cast]
    split <;> rfl
  by_cases h1 : s = y
  · subst h1
    rw [if_pos rfl, if_neg hyz]
    have e : cntB (fun j => (useT n z se T (L.map fun x : Nat => (x : Int)) j).s == s) n = cntB (dropF (fun j => (T j).s == s) L) n := cntB_congr fun j hj => by
      rw [hT j hj]
      by_cases q : j ∈ L
      · simp [dropF, q]; omega
      · simp [dropF, q]
    rw [e, cntB_drop hn (fun x hx => ⟨(hm x hx).1, by simp [(hm x hx).2]⟩)]
    rfl
  · rw [if_neg h1]
    by_cases h2 : s = z
    · subst h2
      rw [if_pos rfl]
      have e : cntB (fun j => (useT n s se T (L.map fun x : Nat => (x : Int)) j).s == s) n = cntB (fun j => (T j).s == s || L.contains j) n := cntB_congr fun j hj => by
        rw [hT j hj]
        by_cases q : j ∈ L
        · simp [q]
        · simp [q]
      rw [e, cntB_add hn (fun x hx => ⟨(hm x hx).1, by simp [(hm x hx).2]; omega⟩)]
      omega
    · rw [if_neg h2]
      have e : cntB (fun j => (useT n z se T (L.map fun x : Nat => (x : Int)) j).s == s) n = cntB (fun j => (T j).s == s) n := cntB_congr fun j hj => by
        rw [hT j hj]
        by_cases q : j ∈ L
        · rw [if_pos q, (hm j q).2, Bool.eq_iff_iff]
          simp; omega
        · rw [if_neg q]
      rw [e]
theorem cnt_all {T : Nat → Fr} : ∀ {n : Nat}, (∀ j, j < n → (T j).s = 0 ∨ (T j).s = 1 ∨ (T j).s = 2) → cnt T 0 n + cnt T 1 n + cnt T 2 n = n
  | 0, _ => rfl
  | n + 1, h => by
    have ih := cnt_all (n := n) fun j hj => h j (by omega)
    rw [cnt_B, cnt_B, cnt_B] at *
    simp only [cntB]
    rcases h n (by omega) with e | e | e <;> simp [e] <;> omega
theorem Snd.free {S : Sp} (h : Snd S) : cntB S.F S.n = cnt S.T 0 S.n := by
  rw [cnt_B]
  exact cntB_congr fun j hj => by
    have := h.fr j hj
    rw [Bool.eq_iff_iff]
    simpa using this
end Go.Proofs.YtahpnnjemjjfhaaGreat

/-
  Slices that came in, of elements without pointers: their cells lie in memory.
-/
namespace Go.Proofs.YtahpnnjemjjfhaaGreat
open Go.RowKit Go.ChangeShapes Go.WideShapes Go.Deep

theorem cell_lt {w : World} {a : Addr} {v : Value} (h : w.cell? a = some v) : a.block < w.heap.size := by
  rcases Nat.lt_or_ge a.block w.heap.size with g | g
  · exact g
  · simp [World.cell?, Array.getElem?_eq_none g] at h

/-- A slice of elements of m cells each that lies in memory. -/
def Elems (w : World) (x : Option Addr) (l m : Nat) (V : Nat → List Value) : Prop :=
  0 < l → ∃ b o, x = some ⟨b, o, none⟩ ∧ b < w.heap.size ∧ ∀ i, i < l → ∀ j v, j < m → (V i)[j]? = some v → w.cell? ⟨b, o + i * m + j, none⟩ = some v

theorem Elems.kept {w w' : World} {x : Option Addr} {l m : Nat} {V : Nat → List Value} (h : Elems w x l m V) (k : Kept w w') : Elems w' x l m V := fun h0 => by
  obtain ⟨b, o, e, hb, hc⟩ := h h0
  exact ⟨b, o, e, Nat.lt_of_lt_of_le hb k.size, fun i hi j v hj hv => (k.cell hb).trans (hc i hi j v hj hv)⟩

section
variable {H : Type} {enc : TypeId × Value → H} {P : Program} {W : World} {sp : Nat → Bool} {held : Bool}

theorem elems_open {t e : TypeId} {x : Option Addr} {l c : Nat} {d : DataW H} {p : List MemPlace} (ht : P.underlying t = some (.slice e)) (hm0 : 0 < P.cellsOf e) (h : DataW.Trod enc P W 0 sp held t (.slice x l c) d p) :
    ∃ V, Elems W x l (P.cellsOf e) V ∧ ∀ i, i < l → ∃ n y, DataW.trod enc P W 0 sp held n e (V i) = some y := by
  obtain ⟨fuel, h⟩ := h
  rcases open_slice ht h with ⟨h0, _⟩ | ⟨a, len, cap, m, n, D, Pl, h0, _, hl, _, hm, _, hx⟩
  · simp [Value.cells] at h0
    exact ⟨fun _ => [], fun h => by omega, fun i hi => by omega⟩
  · simp [Value.cells] at h0
    obtain ⟨rfl, rfl, rfl⟩ := h0
    have hlm : l ≤ m := by rw [hm]; split <;> omega
    obtain ⟨V, hV⟩ := choose_lt (α := List Value) (p := fun i cs' => W.cells? 0 (a.add (i * P.cellsOf e)) (P.cellsOf e) = some cs' ∧ DataW.trod enc P W 0 sp held n e cs' = some (D i, Pl i)) (n := l) (fun i hi => by
      obtain ⟨cs', h1, h2⟩ := hx i (by omega)
      exact ⟨cs', h1, h2⟩)
    refine ⟨V, fun hp => ?_, fun i hi => ⟨n, _, (hV i hi).2⟩⟩
    have cells : ∀ i, i < l → ∀ j, j < P.cellsOf e → W.cell? ((a.add (i * P.cellsOf e)).add j) = (V i)[j]? := fun i hi j hj => (World.cells?_some (hV i hi).1).2.2 j hj
    have len : ∀ i, i < l → (V i).length = P.cellsOf e := fun i hi => (World.cells?_some (hV i hi).1).2.1
    obtain ⟨b, o, s⟩ := a
    have h00 := cells 0 hp 0 hm0
    obtain ⟨v, hv⟩ : ∃ v, (V 0)[0]? = some v := ⟨_, List.getElem?_eq_getElem (by rw [len 0 hp]; exact hm0)⟩
    rw [hv] at h00
    obtain rfl : s = none := by simpa [Addr.add] using World.cell?_spot h00
    refine ⟨b, o, rfl, ?_, fun i hi j v hj hv => ?_⟩
    · simpa [Addr.add] using cell_lt h00
    · have := cells i hi j hj
      rw [add_plain, add_plain, hv] at this
      exact this

theorem elems_typed {α : Type} [Inhabited α] (cells : α → List Value) (ok : α → Prop) {x : Option Addr} {l m : Nat} {V : Nat → List Value} (h : Elems W x l m V) (each : ∀ i, i < l → ∃ q : α, V i = cells q ∧ ok q) :
    ∃ L : Nat → α, Elems W x l m (fun i => cells (L i)) ∧ ∀ i, i < l → ok (L i) := by
  obtain ⟨L, hL⟩ := choose_lt each
  refine ⟨L, fun hp => ?_, fun i hi => (hL i hi).2⟩
  obtain ⟨b, o, e, hb, hc⟩ := h hp
  exact ⟨b, o, e, hb, fun i hi j v hj hv => hc i hi j v hj (by rw [(hL i hi).1]; exact hv)⟩

theorem wf_i64 {n : Int} (h : (Lit.int .i64 n).wf = true) : IntKind.min .i64 ≤ n ∧ n ≤ IntKind.max .i64 := by
  simpa [Lit.wf, IntKind.has] using h
end

/-- A slice of whole numbers. -/
def Ints (w : World) (x : Option Addr) (l : Nat) (L : Nat → Int) : Prop := Elems w x l 1 (fun i => [.int .i64 (L i)])

theorem Ints.at {w : World} {x : Option Addr} {l : Nat} {L : Nat → Int} (h : Ints w x l L) (hp : 0 < l) : ∃ b o, x = some ⟨b, o, none⟩ ∧ b < w.heap.size ∧ ∀ i, i < l → w.cell? ⟨b, o + i, none⟩ = some (.int .i64 (L i)) := by
  obtain ⟨b, o, e, hb, hc⟩ := h hp
  exact ⟨b, o, e, hb, fun i hi => by simpa using hc i hi 0 _ (by omega) rfl⟩
theorem Ints.kept {w w' : World} {x : Option Addr} {l : Nat} {L : Nat → Int} (h : Ints w x l L) (k : Kept w w') : Ints w' x l L := Elems.kept h k

section
variable {H : Type} {enc : TypeId × Value → H} {W : World} {sp : Nat → Bool} {held : Bool}
theorem ints_open {x : Option Addr} {l c : Nat} {d : DataW H} {p : List MemPlace} (h : DataW.Trod enc Tryz.prog W 0 sp held 55 (.slice x l c) d p) :
    ∃ L, Ints W x l L ∧ ∀ i, i < l → IntKind.min .i64 ≤ L i ∧ L i ≤ IntKind.max .i64 := by
  have ce : Tryz.prog.cellsOf 3 = 1 := by kernel_rfl
  obtain ⟨V, hV, hr⟩ := elems_open Tryz.underlying55 (by rw [ce]; omega) h
  rw [ce] at hV
  exact elems_typed (fun n : Int => [Value.int .i64 n]) (fun n => IntKind.min .i64 ≤ n ∧ n ≤ IntKind.max .i64) hV fun i hi => by
    obtain ⟨n, y, hy⟩ := hr i hi
    obtain ⟨z, hz, _, wz⟩ := DataW.trod_int Tryz.underlying3 hy
    exact ⟨z, hz, wf_i64 wz⟩
end
end Go.Proofs.YtahpnnjemjjfhaaGreat

/-
  The operations of package spolaw21 that came in.
-/
namespace Go.Proofs.YtahpnnjemjjfhaaGreat
open Go.RowKit Go.ChangeShapes Go.WideShapes Go.Deep

structure Op21 where
  k : Int
  t : Int
  f : Int
  s : Int
  n : Int
  b : Bool
def Op21.cells (o : Op21) : List Value := [.int .i64 o.k, .int .i64 o.t, .int .i64 o.f, .int .i64 o.s, .int .i64 o.n, .bool o.b]
def Ops (w : World) (x : Option Addr) (l : Nat) (L : Nat → Op21) : Prop := Elems w x l 6 (fun i => (L i).cells)
theorem Ops.kept {w w' : World} {x : Option Addr} {l : Nat} {L : Nat → Op21} (h : Ops w x l L) (k : Kept w w') : Ops w' x l L := Elems.kept h k
theorem Ops.at {w : World} {x : Option Addr} {l : Nat} {L : Nat → Op21} (h : Ops w x l L) (hp : 0 < l) : ∃ b o, x = some ⟨b, o, none⟩ ∧ b < w.heap.size ∧ ∀ i, i < l → ∀ j v, (L i).cells[j]? = some v → w.cell? ⟨b, o + i * 6 + j, none⟩ = some v := by
  obtain ⟨b, o, e, hb, hc⟩ := h hp
  exact ⟨b, o, e, hb, fun i hi j v hv => hc i hi j v (by have := (List.getElem?_eq_some_iff.1 hv).1; simpa [Op21.cells] using this) hv⟩

section
variable {H : Type} {enc : TypeId × Value → H} {W : World} {sp : Nat → Bool} {held : Bool}

set_option maxRecDepth 8000 in
theorem op_open {n : Nat} {cs : List Value} {y : DataW H × List MemPlace} (h : DataW.trod enc Tryz.prog W 0 sp held n 45 cs = some y) : ∃ q : Op21, cs = q.cells := by
  obtain ⟨xs, k, _, _, hlen, hxl, hf⟩ := DataW.trod_struct Tryz.underlying45 h
  have ce : Tryz.prog.cellsOf 45 = 6 := by kernel_rfl
  have ci : Tryz.prog.cellsOf 3 = 1 := by kernel_rfl
  have cb : Tryz.prog.cellsOf 4 = 1 := by kernel_rfl
  rw [ce] at hlen
  match xs, hxl, cs, hlen with
  | [y0, y1, y2, y3, y4, y5], _, [v0, v1, v2, v3, v4, v5], _ =>
    have g0 := hf 0 _ rfl
    have g1 := hf 1 _ rfl
    have g2 := hf 2 _ rfl
    have g3 := hf 3 _ rfl
    have g4 := hf 4 _ rfl
    have g5 := hf 5 _ rfl
    simp [ci, cb] at g0 g1 g2 g3 g4 g5
    obtain ⟨z0, e0, _⟩ := DataW.trod_int Tryz.underlying3 g0
    obtain ⟨z1, e1, _⟩ := DataW.trod_int Tryz.underlying3 g1
    obtain ⟨z2, e2, _⟩ := DataW.trod_int Tryz.underlying3 g2
    obtain ⟨z3, e3, _⟩ := DataW.trod_int Tryz.underlying3 g3
    obtain ⟨z4, e4, _⟩ := DataW.trod_int Tryz.underlying3 g4
    obtain ⟨z5, e5, _⟩ := DataW.trod_bool Tryz.underlying4 g5
    simp at e0 e1 e2 e3 e4 e5
    exact ⟨⟨z0, z1, z2, z3, z4, z5⟩, by simp [Op21.cells, e0, e1, e2, e3, e4, e5]⟩

theorem ops_open {x : Option Addr} {l c : Nat} {d : DataW H} {p : List MemPlace} (h : DataW.Trod enc Tryz.prog W 0 sp held 25 (.slice x l c) d p) : ∃ L, Ops W x l L := by
  have ce : Tryz.prog.cellsOf 45 = 6 := by kernel_rfl
  obtain ⟨V, hV, hr⟩ := elems_open Tryz.underlying25 (by rw [ce]; omega) h
  rw [ce] at hV
  haveI : Inhabited Op21 := ⟨⟨0, 0, 0, 0, 0, false⟩⟩
  obtain ⟨L, hL, _⟩ := elems_typed Op21.cells (fun _ => True) hV fun i hi => by
    obtain ⟨n, y, hy⟩ := hr i hi
    obtain ⟨q, e⟩ := op_open hy
    exact ⟨q, e, trivial⟩
  exact ⟨L, hL⟩
end
end Go.Proofs.YtahpnnjemjjfhaaGreat

