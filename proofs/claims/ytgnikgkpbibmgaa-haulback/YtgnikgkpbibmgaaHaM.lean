/-
  A memory, a shade and a coil of a law's own; a haul that begins.
-/
import Derived.Test.YtgnikgkpbibmgaaHaL
import Derived.Test.YtgnikgkpbibmgaaFill17
namespace Go.Proofs.Ytgnikgkpbibmgaa
open Go.RowKit

/-- A memory and a shade. -/
structure Mh (U u : World) (b M sb tb g pb : Nat) (v : Value) (n q : Nat) (F : Nat → Cx) (S : ShS) : Prop where
  kept : Kept U u
  mm : Mm u b M n F q
  sh : ShC u U.heap.size sb tb g pb v S
  lb : U.heap.size ≤ b
  lM : U.heap.size ≤ M
  sn : ∀ k, k ∈ ShF sb tb g pb v → k ≠ b ∧ k ≠ M
structure Mz (U u : World) (X : Bl) (n q : Nat) (F : Nat → Cx) (S : ShS) (K : CS) : Prop where
  kept : Kept U u
  mx : Mk U.heap.size X u n q F S K

section
variable {U u u' : World} {X : Bl} {n q : Nat} {F G : Nat → Cx} {S : ShS} {K : CS}
theorem Mk.keep {D : List Nat} (h : Mk U.heap.size X u n q F S K) (hk : Kept U u) (m : Mut D u u') (hd : ∀ k, k ∈ D → k ∈ X.all) : Kept U u' := hk.muts m fun k hk => (h.own (hd k hk)).1
theorem Mz.still (h : Mz U u X n q F S K) (k : Kept u u') : Mz U u' X n q F S K := ⟨h.kept.trans k, h.mx.kept k⟩
theorem mh_new (sn : Nat) {b M : Nat} (hk : Kept U u) (hm : Mm u b M n F q) (lM : U.heap.size ≤ M) (lb : U.heap.size ≤ b) (hn : sn ≤ 1024) :
    Calls Try.prog 8 #[.int .i64 sn, .int .i64 1] u fun e w' => ∃ sb tb g pb v, e = .returned (.tuple #[.pointer (some ⟨sb, 0, none⟩), .int .i64 0]) ∧ Mh U w' b M sb tb g pb v n q F (ShS.new sn 1) :=
  (snew_any sn 1 u hn (by decide) (by decide) hk.size).mono fun _ _ ⟨sb, tb, g, pb, v, he, t, k2, hl⟩ => ⟨sb, tb, g, pb, v, he, hk.trans k2, hm.kept k2, t, lb, lM, fun k hk => by
    have h1 := hl k hk
    have h2 := hm.row.lt
    have h3 := hm.hd.lt
    omega⟩
theorem mz_new (s : Nat) {b M sb tb g pb : Nat} {v : Value} (h : Mh U u b M sb tb g pb v n q F S) (hs : s ≤ 2048) :
    Calls Try.prog 9 #[.int .i64 s] u fun e w' => ∃ kb, e = .returned (.tuple #[.pointer (some ⟨kb, 0, none⟩), .int .i64 0]) ∧ Mz U w' ⟨b, M, kb, sb, tb, g, pb, v⟩ n q F S ⟨s, 0, 0, 0, 0⟩ :=
  (knew_any s u hs).mono fun _ _ ⟨kb, he, t, k2, hl⟩ => ⟨kb, he, h.kept.trans k2, h.mm.kept k2, h.sh.kept k2, t, h.lb, h.lM, Nat.le_trans h.kept.size hl, (by have := h.mm.row.lt; show kb ≠ b; omega), (by have := h.mm.hd.lt; show kb ≠ M; omega), fun k hk => by
    have h1 := (h.sh.own k hk).2
    have h2 := h.sn k hk
    exact ⟨h2.1, h2.2, by show k ≠ kb; omega⟩⟩
theorem Mz.table (h : Mz U u X n q F S K) : Calls Try.prog 10 #[.pointer (some ⟨X.sb, 0, none⟩)] u fun e w' => e = .returned (.pointer (some ⟨X.tb, 0, none⟩)) ∧ w' = u := stable_any u h.mx.sh
theorem Mz.set (i st : Int) (p s : Bool) (h : Mz U u X n q F S K) : Calls Try.prog 11 #[.pointer (some ⟨X.tb, 0, none⟩), .int .i64 i, .int .i64 st, .bool p, .bool s] u fun e w' => e = .returned (.bool (inn S.n i && isSt st)) ∧ Mz U w' X n q F (S.set i st p s) K ∧ Mut X.all u w' :=
  (set_any i st p s u h.mx.sh.tab).mono fun _ _ ⟨he, t2, m⟩ => ⟨he, ⟨h.mx.keep h.kept m (fun k hk => by simp at hk; simp [Bl.all, Bl.sh, ShF, hk]), h.mx.shd m (h.mx.sh.tabs t2 m) (fun k hk => .inl (by simp at hk; simp [Bl.sh, ShF, hk]))⟩, m.wide fun k hk => by simp at hk; simp [Bl.all, Bl.sh, ShF, hk]⟩
theorem Mz.write (a : Nat) (z : Cx) (h : Mz U u X n q F S K) (ha : a < n) (hq : q ≤ 1000000) (he : ∀ j, j < n → (if j = a then z else F j) = G j) :
    Calls Try.prog 12 #[.pointer (some ⟨X.M, 0, none⟩), .int .i64 a, .complex .f64 z.re z.im] u fun e w' => e = .returned (.int .i64 0) ∧ Mz U w' X n (q + 1) G S K ∧ Mut X.all u w' :=
  (mem_write a z u h.mx.mm ha hq he).mono fun _ _ ⟨h1, h2, m⟩ => ⟨h1, ⟨h.mx.keep h.kept m (fun k hk => by simp at hk; simp [Bl.all]; omega), h.mx.mem m h2 (fun k hk => by simp at hk; omega)⟩, m.wide fun k hk => by simp at hk; simp [Bl.all]; omega⟩
theorem Mz.peek (a : Nat) (h : Mz U u X n q F S K) (ha : a < n) : Calls Try.prog 22 #[.pointer (some ⟨X.M, 0, none⟩), .int .i64 a] u fun e w' => e = .returned (.complex .f64 (F a).re (F a).im) ∧ w' = u := mem_peek a u h.mx.mm ha
theorem Mz.coil {K' : CS} (h : Mz U u X n q F S K) (t : CTab 73 u' X.kb K') (m : Mut [X.kb] u u') : Mz U u' X n q F S K' ∧ Mut X.all u u' :=
  ⟨⟨h.mx.keep h.kept m (fun k hk => by simp at hk; simp [Bl.all, hk]), h.mx.coil m t (fun k hk => .inl (by simpa using hk))⟩, m.wide fun k hk => by simp at hk; simp [Bl.all, hk]⟩
theorem Mz.take (i : Int) (h : Mz U u X n q F S K) : Calls Try.prog 15 #[.pointer (some ⟨X.kb, 0, none⟩), .int .i64 i] u fun e w' => e = .returned (.tuple #[.int .i64 (takeA K i), .bool (takes K i)]) ∧ Mz U w' X n q F S (takeS K i) ∧ Mut X.all u w' :=
  (ktake_any i u h.mx.ck).mono fun _ _ ⟨he, t, m⟩ => ⟨he, h.coil t m⟩
theorem Mz.turn (h : Mz U u X n q F S K) : Calls Try.prog 16 #[.pointer (some ⟨X.kb, 0, none⟩)] u fun e w' => e = .returned (.bool (turns K)) ∧ Mz U w' X n q F S (turnS K) ∧ Mut X.all u w' :=
  (kturn_any u h.mx.ck).mono fun _ _ ⟨he, t, m⟩ => ⟨he, h.coil t m⟩
theorem Mz.kdone (h : Mz U u X n q F S K) : Calls Try.prog 27 #[.pointer (some ⟨X.kb, 0, none⟩)] u fun e w' => e = .returned (.bool (dones K)) ∧ Mz U w' X n q F S (doneS K) ∧ Mut X.all u w' :=
  (kdone_any u h.mx.ck).mono fun _ _ ⟨he, t, m⟩ => ⟨he, h.coil t m⟩
theorem Mz.used (i : Int) (h : Mz U u X n q F S K) : Calls Try.prog 25 #[.pointer (some ⟨X.kb, 0, none⟩), .int .i64 i] u fun e w' => e = .returned (.int .i64 (usedF K i)) ∧ w' = u := kused_any i u h.mx.ck
theorem Mz.left (h : Mz U u X n q F S K) : Calls Try.prog 26 #[.pointer (some ⟨X.kb, 0, none⟩)] u fun e w' => e = .returned (.int .i64 (K.k : Int)) ∧ w' = u := kleft_any u h.mx.ck
end

/-- A run, beside what was there at U. -/
structure Rz (L : Pl) (U : World) (X : Bl) (len p : Nat) (E : En) (q0 c0 t : Nat) (u : World) : Prop where
  kept : Kept U u
  run : Run L U.heap.size X len p E q0 c0 t u
  lp : U.heap.size ≤ p

section
variable {L : Pl} {U u u' : World} {X : Bl} {len p q0 c0 t q : Nat} {E : En} {F : Nat → Cx} {S : ShS} {K : CS}
theorem Rz.begin (h : Mz U u X len q F S K) (hs : HS u' p E ⟨(L.fr : Int), (L.n : Int), true, 0, 0, 0, 0, false, 0, cz, 1, 0, 0, 0⟩) (hp : u.heap.size ≤ p) (hk : Kept u u') (hF : F = L.mem 0 0) (hK : K = L.Ks 0) (hN : 0 < L.N) (hq : q ≤ q0) (hc : S.c ≤ c0) (hb : ∀ i : Nat, i < L.N → blackB S (i : Int) true = L.bl i) : Rz L U X len p E q0 c0 0 u' :=
  ⟨h.kept.trans hk, ⟨_, S, K, q, F, ⟨h.mx.kept hk, hs, fun _ hk => Nat.lt_of_lt_of_le (h.mx.own hk).2 hp⟩, .inl ⟨0, hN, ⟨rfl, rfl, rfl, rfl, rfl, rfl⟩, rfl, rfl, rfl, hF, hK⟩, rfl, hq, hc, hb⟩, Nat.le_trans h.kept.size hp⟩
theorem Rz.step (he : Env L E len) (h : Rz L U X len p E q0 c0 t u) (hlt : t < L.tm L.N) (hq0 : q0 ≤ 500000) (hc0 : c0 ≤ 500000) :
    Calls Try.prog 19 #[.pointer (some ⟨p, 0, none⟩), .pointer (some ⟨X.M, 0, none⟩), .pointer (some ⟨X.sb, 0, none⟩), .pointer (some ⟨X.kb, 0, none⟩)] u fun e w' => e = .returned (.bool (decide (t + 1 = L.tm L.N))) ∧ Rz L U X len p E q0 c0 (t + 1) w' ∧ Mut (p :: X.all) u w' :=
  (run_step he u h.run hlt hq0 hc0).mono fun _ _ ⟨e1, e2, m⟩ => ⟨e1, ⟨h.kept.muts m (fun k hk => by
    rcases List.mem_cons.1 hk with r | r
    · rw [r]; exact h.lp
    · obtain ⟨_, _, _, _, _, hr⟩ := h.run
      exact (hr.al.mx.own r).1), e2, h.lp⟩, m⟩
/-- Where the program stands. -/
theorem Ph.st {d : Hd} (h : Ph L t d F K) : (d.st == 13) = decide (t = L.tm L.N) ∧ d.er = 0 ∧ t ≤ L.tm L.N := by
  have key : ∀ i, i < L.N → t < L.tm i + L.cost i → d.st ≠ 13 → d.er = 0 → (d.st == 13) = decide (t = L.tm L.N) ∧ d.er = 0 ∧ t ≤ L.tm L.N := fun i hi hlt hs her => by
    have h1 := Pl.tm_lt (L := L) hi
    have h2 : (d.st == 13) = false := by simpa using hs
    rw [h2, decide_eq_false (by omega)]
    exact ⟨rfl, her, by omega⟩
  rcases h with ⟨i, a1, a2, a3, a4, a5, a6, a7⟩ | ⟨i, a1, a2, a3, a4, a5, a6, a7, a8⟩ | ⟨i, a1, a2, a3, a4, a5, a6, a7, a8, a9⟩ | ⟨i, a1, a2, a3, a4, a5, a6, a7, a8, a9, a10⟩ | ⟨i, a1, a2, a3, a4, a5, a6, a7, a8, a9, a10⟩ | ⟨i, a1, a2, a3, a4, a5, a6, a7, a8, a9, a10, a11⟩ | ⟨i, a1, a2, a3, a4, a5, a6, a7, a8, a9, a10, a11⟩ | ⟨i, s, a1, a2, a3, a4, a5, a6, a7, a8, a9, a10, a11, a12⟩ | ⟨i, s, a1, a2, a3, a4, a5, a6, a7, a8, a9, a10, a11, a12, a13⟩ | ⟨i, a1, a2, a4, a5, a6, a7, a8, a9, a10, a11⟩ | ⟨i, a1, a2, a4, a5, a6, a7, a8, a9⟩ | ⟨a1, a2, a3, _⟩
  · exact key i a1 (by have := L.cost_lo i; omega) (by omega) a2.er
  · exact key i a1 (by have := L.cost_lo i; omega) (by omega) a2.er
  · exact key i a1 (by have := L.cost_lo i; omega) (by omega) a2.er
  · exact key i a1 (by
      cases hm : L.mv i
      · rw [Pl.cost_bl a10 hm]; omega
      · rw [Pl.cost_mv hm]; omega) (by omega) a2.er
  · exact key i a1 (by rw [Pl.cost_mv a10]; omega) (by omega) a2.er
  · exact key i a1 (by rw [Pl.cost_mv a10]; omega) (by omega) a2.er
  · exact key i a1 (by rw [Pl.cost_mv a10]; omega) (by omega) a2.er
  · exact key i a1 (by rw [Pl.cost_mv a10]; omega) (by omega) a2.er
  · exact key i a1 (by rw [Pl.cost_mv a10]; omega) (by omega) a2.er
  · exact key i a1 (by rw [Pl.cost_mv a10]; omega) (by omega) a2.er
  · exact key i a1 (by omega) (by omega) a2.er
  · rw [a3, decide_eq_true a2]
    exact ⟨rfl, a1.er, by omega⟩
theorem Rz.done (h : Rz L U X len p E q0 c0 t u) : Calls Try.prog 18 #[.pointer (some ⟨p, 0, none⟩)] u fun e w' => e = .returned (.bool (decide (t = L.tm L.N))) ∧ w' = u := by
  obtain ⟨d, S, K, q, F, hr⟩ := h.run
  exact hdone_is _ u hr.al.hs hr.ph.st.1
theorem Rz.steps (h : Rz L U X len p E q0 c0 t u) : Calls Try.prog 28 #[.pointer (some ⟨p, 0, none⟩)] u fun e w' => e = .returned (.int .i64 (t : Int)) ∧ w' = u := by
  obtain ⟨d, S, K, q, F, hr⟩ := h.run
  rw [← hr.sp]
  exact hsteps_is u hr.al.hs
theorem Rz.errno (h : Rz L U X len p E q0 c0 t u) : Calls Try.prog 23 #[.pointer (some ⟨p, 0, none⟩)] u fun e w' => e = .returned (.int .i64 0) ∧ w' = u := by
  obtain ⟨d, S, K, q, F, hr⟩ := h.run
  rw [← hr.ph.st.2.1]
  exact herrno_is u hr.al.hs
theorem Rz.le (h : Rz L U X len p E q0 c0 t u) : t ≤ L.tm L.N := by
  obtain ⟨d, S, K, q, F, hr⟩ := h.run
  exact hr.ph.st.2.2
/-- At its end. -/
theorem Ph.fin {d : Hd} (h : Ph L (L.tm L.N) d F K) : Cm L d L.N ∧ F = L.mem L.N (L.P L.N) ∧ K = L.Ks L.N := by
  have key : ∀ i, i < L.N → L.tm L.N < L.tm i + L.cost i → Cm L d L.N ∧ F = L.mem L.N (L.P L.N) ∧ K = L.Ks L.N := fun i hi hlt => by
    have h1 := Pl.tm_lt (L := L) hi
    omega
  have hs := h.st.1
  rw [decide_eq_true rfl] at hs
  have h13 : d.st = 13 := by simpa using hs
  rcases h with ⟨i, a1, a2, a3, a4, a5, _⟩ | ⟨i, a1, a2, a3, a4, a5, _⟩ | ⟨i, a1, a2, a3, a4, a5, _⟩ | ⟨i, a1, a2, a3, a4, a5, _⟩ | ⟨i, a1, a2, a3, a4, a5, _⟩ | ⟨i, a1, a2, a3, a4, a5, _⟩ | ⟨i, a1, a2, a3, a4, a5, _⟩ | ⟨i, s, a1, a2, a3, a4, a5, _⟩ | ⟨i, s, a1, a2, a3, a4, a5, _⟩ | ⟨i, a1, a2, a4, a5, _⟩ | ⟨i, a1, a2, a4, a5, _⟩ | ⟨a1, a2, a3, a4, a5⟩
  all_goals (first | (exact ⟨a1, a4, a5⟩) | (exfalso; omega))
theorem Rz.fin (h : Rz L U X len p E q0 c0 (L.tm L.N) u) : ∃ q S, Mz U u X len q (L.mem L.N (L.P L.N)) S (L.Ks L.N) ∧ q ≤ q0 + L.tm L.N ∧ S.c ≤ c0 + L.tm L.N ∧ (∀ i : Nat, i < L.N → blackB S (i : Int) true = L.bl i) := by
  obtain ⟨d, S, K, q, F, hr⟩ := h.run
  obtain ⟨h1, rfl, rfl⟩ := hr.ph.fin
  exact ⟨q, S, ⟨h.kept, hr.al.mx⟩, hr.q, hr.c, hr.bk⟩
theorem Rz.moved (h : Rz L U X len p E q0 c0 (L.tm L.N) u) : Calls Try.prog 24 #[.pointer (some ⟨p, 0, none⟩)] u fun e w' => e = .returned (.int .i64 (L.mc L.N : Int)) ∧ w' = u := by
  obtain ⟨d, S, K, q, F, hr⟩ := h.run
  obtain ⟨h1, rfl, rfl⟩ := hr.ph.fin
  rw [← h1.mo]
  exact hmoved_is u hr.al.hs
end
end Go.Proofs.Ytgnikgkpbibmgaa
