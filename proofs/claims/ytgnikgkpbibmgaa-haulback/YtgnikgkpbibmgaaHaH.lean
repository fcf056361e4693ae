/-
  A program of package haul, the memory, the shade and the coil that it works on, side by side: one step of each kind.
-/
import Derived.Test.YtgnikgkpbibmgaaHaG
namespace Go.Proofs.Ytgnikgkpbibmgaa
open Go.RowKit

section
variable {p M sb kb : Nat} {E : En} {d d' : Hd} {C : World → Prop}

set_option maxHeartbeats 1000000 in
theorem hstep_any (q : Bool) (w : World) (h : HS w p E d) (hs : (d.st == 13) = false) (hp : d.sp ≤ 1000000)
    (hG : ∀ u, HS u p E { d with sp := d.sp + 1 } → Mut [p] w u → Calls Try.prog 45 #[.pointer (some ⟨p, 0, none⟩), .pointer (some ⟨M, 0, none⟩), .pointer (some ⟨sb, 0, none⟩), .pointer (some ⟨kb, 0, none⟩)] u fun e w' => e = .returned (.tuple #[]) ∧ HS w' p E d' ∧ C w') (hq : (d'.st == 13) = q) :
    Calls Try.prog 19 #[.pointer (some ⟨p, 0, none⟩), .pointer (some ⟨M, 0, none⟩), .pointer (some ⟨sb, 0, none⟩), .pointer (some ⟨kb, 0, none⟩)] w fun e w' => e = .returned (.bool q) ∧ HS w' p E d' ∧ C w' := by
  have C0 : Hid (Calls Try.prog 18 #[.pointer (some ⟨p, 0, none⟩)] w _) := hdone_is false w h hs
  have c22 : w.cell? ⟨p, 22, none⟩ = some (.int .i64 (d.sp : Int)) := h.b.at 22 rfl
  have fz := h.b.fz
  have HW : Hid (HS (w.setCell ⟨p, 22, none⟩ (.int .i64 ((d.sp : Int) + 1))) p E { d with sp := d.sp + 1 } ∧ Mut [p] w (w.setCell ⟨p, 22, none⟩ (.int .i64 ((d.sp : Int) + 1)))) := ⟨h.put (i := 22) rfl _ (by simp [hdl]), (Mut.refl _ _).setCell (by simp) _⟩
  have HG : Hid (∀ u, HS u p E { d with sp := d.sp + 1 } → Mut [p] w u → Calls Try.prog 45 #[.pointer (some ⟨p, 0, none⟩), .pointer (some ⟨M, 0, none⟩), .pointer (some ⟨sb, 0, none⟩), .pointer (some ⟨kb, 0, none⟩)] u fun e w' => e = .returned (.tuple #[]) ∧ HS w' p E d' ∧ C w') := hG
  have HQ : Hid ((d'.st == 13) = q) := hq
  clear h hs hG hq
  generalize d.sp = sp at *
  go_enter Try.func19, Try.ntmps19
  go_wp2_with fail
  refine C0.out.mono ?_
  rintro e w1 ⟨rfl, rfl⟩
  go_wp2_with fail
  generalize w1.setCell ⟨p, 22, none⟩ (.int .i64 ((sp : Int) + 1)) = W at *
  refine (HG.out _ HW.out.1 HW.out.2).mono ?_
  rintro e w2 ⟨rfl, H2, HC⟩
  have HZ : Hid (HS w2 p E d' ∧ C w2) := ⟨H2, HC⟩
  have CD : Hid (Calls Try.prog 18 #[.pointer (some ⟨p, 0, none⟩)] w2 _) := hdone_is q w2 H2 HQ.out
  clear H2 HC c22 fz C0 HG HW
  go_wp2_with fail
  refine CD.out.mono ?_
  rintro e w3 ⟨rfl, rfl⟩
  go_wp2
  go_ret
  exact ⟨rfl, HZ.out⟩
theorem hstep_over (w : World) (h : HS w p E d) (hs : (d.st == 13) = true) :
    Calls Try.prog 19 #[.pointer (some ⟨p, 0, none⟩), .pointer (some ⟨M, 0, none⟩), .pointer (some ⟨sb, 0, none⟩), .pointer (some ⟨kb, 0, none⟩)] w fun e w' => e = .returned (.bool true) ∧ w' = w := by
  have C0 : Hid (Calls Try.prog 18 #[.pointer (some ⟨p, 0, none⟩)] w _) := hdone_is true w h hs
  clear h hs
  go_enter Try.func19, Try.ntmps19
  go_wp2_with fail
  refine C0.out.mono ?_
  rintro e w1 ⟨rfl, rfl⟩
  go_wp2
  go_ret
  exact ⟨rfl, rfl⟩
end

/-- Where the memory, the coil and the shade lie. -/
structure Bl where
  b : Nat
  M : Nat
  kb : Nat
  sb : Nat
  tb : Nat
  g : Nat
  pb : Nat
  v : Value
def Bl.sh (X : Bl) : List Nat := ShF X.sb X.tb X.g X.pb X.v
def Bl.all (X : Bl) : List Nat := X.b :: X.M :: X.kb :: X.sh
structure Mk (base : Nat) (X : Bl) (u : World) (n q : Nat) (F : Nat → Cx) (S : ShS) (K : CS) : Prop where
  mm : Mm u X.b X.M n F q
  sh : ShC u base X.sb X.tb X.g X.pb X.v S
  ck : CTab 73 u X.kb K
  lb : base ≤ X.b
  lM : base ≤ X.M
  lk : base ≤ X.kb
  kb : X.kb ≠ X.b
  kM : X.kb ≠ X.M
  sn : ∀ k, k ∈ X.sh → k ≠ X.b ∧ k ≠ X.M ∧ k ≠ X.kb

section
variable {base n q q' : Nat} {X : Bl} {u u' : World} {F G : Nat → Cx} {S S' : ShS} {K K' : CS}
theorem Mk.own (h : Mk base X u n q F S K) {k : Nat} (hk : k ∈ X.all) : base ≤ k ∧ k < u.heap.size := by
  simp only [Bl.all, List.mem_cons] at hk
  rcases hk with rfl | rfl | rfl | hk
  · exact ⟨h.lb, h.mm.row.lt⟩
  · exact ⟨h.lM, h.mm.hd.lt⟩
  · exact ⟨h.lk, h.ck.lt⟩
  · exact h.sh.own k hk
theorem Mk.muts {D : List Nat} (h : Mk base X u n q F S K) (m : Mut D u u') (hd : ∀ k, k ∈ X.all → k ∉ D) : Mk base X u' n q F S K :=
  ⟨h.mm.muts m (hd _ (by simp [Bl.all])) (hd _ (by simp [Bl.all])), h.sh.muts m (fun k hk => hd k (by simp only [Bl.all, List.mem_cons]; exact .inr (.inr (.inr hk)))), h.ck.muts m (hd _ (by simp [Bl.all])), h.lb, h.lM, h.lk, h.kb, h.kM, h.sn⟩
theorem Mk.kept (h : Mk base X u n q F S K) (k : Kept u u') : Mk base X u' n q F S K := h.muts (D := []) k.mut fun _ _ z => nomatch z
theorem Mk.mem {D : List Nat} (h : Mk base X u n q F S K) (m : Mut D u u') (mm : Mm u' X.b X.M n G q') (hd : ∀ k, k ∈ D → k = X.M ∨ k = X.b ∨ k ∉ X.all) : Mk base X u' n q' G S K :=
  ⟨mm, h.sh.muts m (fun k hk hD => by
    have h1 := h.sn k hk
    rcases hd k hD with e | e | e
    · exact h1.2.1 e
    · exact h1.1 e
    · exact e (by simp only [Bl.all, List.mem_cons]; exact .inr (.inr (.inr hk)))), h.ck.muts m (fun hD => by
    rcases hd _ hD with e | e | e
    · exact h.kM e
    · exact h.kb e
    · exact e (by simp [Bl.all])), h.lb, h.lM, h.lk, h.kb, h.kM, h.sn⟩
theorem Mk.coil {D : List Nat} (h : Mk base X u n q F S K) (m : Mut D u u') (ck : CTab 73 u' X.kb K') (hd : ∀ k, k ∈ D → k = X.kb ∨ k ∉ X.all) : Mk base X u' n q F S K' :=
  ⟨h.mm.muts m (fun hD => by
    rcases hd _ hD with e | e
    · exact h.kb e.symm
    · exact e (by simp [Bl.all])) (fun hD => by
    rcases hd _ hD with e | e
    · exact h.kM e.symm
    · exact e (by simp [Bl.all])), h.sh.muts m (fun k hk hD => by
    rcases hd k hD with e | e
    · exact (h.sn k hk).2.2 e
    · exact e (by simp only [Bl.all, List.mem_cons]; exact .inr (.inr (.inr hk)))), ck, h.lb, h.lM, h.lk, h.kb, h.kM, h.sn⟩
theorem Mk.shd {D : List Nat} (h : Mk base X u n q F S K) (m : Mut D u u') (sh : ShC u' base X.sb X.tb X.g X.pb X.v S') (hd : ∀ k, k ∈ D → k ∈ X.sh ∨ k ∉ X.all) : Mk base X u' n q F S' K :=
  ⟨h.mm.muts m (fun hD => by
    rcases hd _ hD with e | e
    · exact (h.sn _ e).1 rfl
    · exact e (by simp [Bl.all])) (fun hD => by
    rcases hd _ hD with e | e
    · exact (h.sn _ e).2.1 rfl
    · exact e (by simp [Bl.all])), sh, h.ck.muts m (fun hD => by
    rcases hd _ hD with e | e
    · exact (h.sn _ e).2.2 rfl
    · exact e (by simp [Bl.all])), h.lb, h.lM, h.lk, h.kb, h.kM, h.sn⟩
end

/-- A program and what it works on. -/
structure Al (base : Nat) (X : Bl) (u : World) (n q : Nat) (F : Nat → Cx) (S : ShS) (K : CS) (p : Nat) (E : En) (d : Hd) : Prop where
  mx : Mk base X u n q F S K
  hs : HS u p E d
  lt : ∀ k, k ∈ X.all → k < p
theorem Al.np {base : Nat} {X : Bl} {u : World} {n q : Nat} {F : Nat → Cx} {S : ShS} {K : CS} {p : Nat} {E : En} {d : Hd} (h : Al base X u n q F S K p E d) : p ∉ X.all := fun z => Nat.lt_irrefl _ (h.lt p z)
def nxt (a b : Int) : Int := if a = b then 10 else 8
def fin13 (a b : Int) : Int := if a = b then 13 else 1

section
variable {base n q p : Nat} {X : Bl} {F G : Nat → Cx} {S : ShS} {K : CS} {E : En} {d d' : Hd}

/-- Behind a step. -/
abbrev Aft (base : Nat) (X : Bl) (n q : Nat) (F : Nat → Cx) (S : ShS) (K : CS) (p : Nat) (E : En) (d : Hd) (u w' : World) : Prop := Al base X w' n q F S K p E d ∧ Mut (p :: X.all) u w'

theorem st_lt {d : Hd} (h1 : d.st ≤ 12) : (d.st == 13) = false := by
  have : d.st ≠ 13 := by omega
  simpa using this

theorem al_1 (u : World) (h : Al base X u n q F S K p E d) (hsp : d.sp ≤ 1000000) (hst : d.st = 1) (a : Nat) (i : Int) (ha : a < n) (hq : q ≤ 1000000) (hl : 0 ≤ d.sl ∧ d.sl ≤ 3000) (hf : 0 ≤ d.fr ∧ d.fr < 2) (hp : 0 ≤ d.pa ∧ d.pa ≤ 3000) (hk : d.pa < E.n1) (hA : E.sp d.fr + (d.pa + 0) = (a : Int)) (hF : F a = cr i) (hi : 0 ≤ i ∧ i < E.n0) :
    Calls Try.prog 19 #[.pointer (some ⟨p, 0, none⟩), .pointer (some ⟨X.M, 0, none⟩), .pointer (some ⟨X.sb, 0, none⟩), .pointer (some ⟨X.kb, 0, none⟩)] u fun e w' => e = .returned (.bool (({ d with sp := d.sp + 1, hd := i, st := d.st + 1 } : Hd).st == 13)) ∧ Aft base X n (q + 1) F S (K) p E { d with sp := d.sp + 1, hd := i, st := d.st + 1 } u w' := by
  refine (hstep_any _ u h.hs (st_lt (by omega)) hsp (d' := { d with sp := d.sp + 1, hd := i, st := d.st + 1 }) (C := fun w' => ∃ w1, Rd1 u w1 p X.b X.M n (q + 1) F E { d with sp := d.sp + 1, hd := i } ∧ Mut [p] w1 w') ?_ rfl).mono ?_
  · intro v hv mv
    have hM := h.lt X.M (by simp [Bl.all])
    have hb := h.lt X.b (by simp [Bl.all])
    have mm : Mm v X.b X.M n F q := h.mx.mm.muts mv (by simp; omega) (by simp; omega)
    refine (hgo_next v (d := { d with sp := d.sp + 1, hd := i }) (C := fun w1 => Rd1 v w1 p X.b X.M n (q + 1) F E { d with sp := d.sp + 1, hd := i }) ((hacc_read v hv (.inl hst) (hread_1 a i v hv mm hM hb ha hq hst hl hf hp hk hA hF hi)).mono fun _ _ ⟨r1, r2⟩ => ⟨r1, r2.hs, r2⟩) (.inl hst)).mono ?_
    rintro e w' ⟨rfl, w1, hr, h2, m2⟩
    exact ⟨rfl, h2, w1, ⟨hr.hs, hr.mm, (mv.wide (by simp)).trans hr.mu⟩, m2⟩
  · rintro e w' ⟨rfl, h2, w1, hr, m2⟩
    have hM := h.lt X.M (by simp [Bl.all])
    have m1 : Mut (p :: X.all) u w1 := hr.mu.wide (by intro k hk; simp [Bl.all] at *; rcases hk with r | r <;> simp [r])
    have a1 : Mk base X w1 n (q + 1) F S K := h.mx.mem hr.mu hr.mm (fun k hk => by
      simp at hk
      rcases hk with r | r
      · exact .inl r
      · exact .inr (.inr (r ▸ h.np)))
    exact ⟨rfl, ⟨a1.muts m2 (fun k hk => by have := h.lt k hk; simp; omega), h2, h.lt⟩, m1.trans (m2.wide (by simp))⟩

theorem al_2 (u : World) (h : Al base X u n q F S K p E d) (hsp : d.sp ≤ 1000000) (hst : d.st = 2) (a : Nat) (z : Int) (ha : a < n) (hq : q ≤ 1000000) (hl : 0 ≤ d.sl ∧ d.sl ≤ 3000) (hf : 0 ≤ d.fr ∧ d.fr < 2) (hp : 0 ≤ d.pa ∧ d.pa ≤ 3000) (hk : d.pa + 1 < E.n1) (hA : E.sp d.fr + (d.pa + 1) = (a : Int)) (hF : F a = cw z) (hz : 0 ≤ z ∧ z ≤ d.en - d.pa - 2) (he : 0 ≤ d.en ∧ d.en ≤ 3000) :
    Calls Try.prog 19 #[.pointer (some ⟨p, 0, none⟩), .pointer (some ⟨X.M, 0, none⟩), .pointer (some ⟨X.sb, 0, none⟩), .pointer (some ⟨X.kb, 0, none⟩)] u fun e w' => e = .returned (.bool (({ d with sp := d.sp + 1, ct := z, st := d.st + 1 } : Hd).st == 13)) ∧ Aft base X n (q + 1) F S (K) p E { d with sp := d.sp + 1, ct := z, st := d.st + 1 } u w' := by
  refine (hstep_any _ u h.hs (st_lt (by omega)) hsp (d' := { d with sp := d.sp + 1, ct := z, st := d.st + 1 }) (C := fun w' => ∃ w1, Rd1 u w1 p X.b X.M n (q + 1) F E { d with sp := d.sp + 1, ct := z } ∧ Mut [p] w1 w') ?_ rfl).mono ?_
  · intro v hv mv
    have hM := h.lt X.M (by simp [Bl.all])
    have hb := h.lt X.b (by simp [Bl.all])
    have mm : Mm v X.b X.M n F q := h.mx.mm.muts mv (by simp; omega) (by simp; omega)
    refine (hgo_next v (d := { d with sp := d.sp + 1, ct := z }) (C := fun w1 => Rd1 v w1 p X.b X.M n (q + 1) F E { d with sp := d.sp + 1, ct := z }) ((hacc_read v hv (.inr (.inl hst)) (hread_2 a z v hv mm hM hb ha hq hst hl hf hp hk hA hF hz he)).mono fun _ _ ⟨r1, r2⟩ => ⟨r1, r2.hs, r2⟩) (.inr (.inl hst))).mono ?_
    rintro e w' ⟨rfl, w1, hr, h2, m2⟩
    exact ⟨rfl, h2, w1, ⟨hr.hs, hr.mm, (mv.wide (by simp)).trans hr.mu⟩, m2⟩
  · rintro e w' ⟨rfl, h2, w1, hr, m2⟩
    have hM := h.lt X.M (by simp [Bl.all])
    have m1 : Mut (p :: X.all) u w1 := hr.mu.wide (by intro k hk; simp [Bl.all] at *; rcases hk with r | r <;> simp [r])
    have a1 : Mk base X w1 n (q + 1) F S K := h.mx.mem hr.mu hr.mm (fun k hk => by
      simp at hk
      rcases hk with r | r
      · exact .inl r
      · exact .inr (.inr (r ▸ h.np)))
    exact ⟨rfl, ⟨a1.muts m2 (fun k hk => by have := h.lt k hk; simp; omega), h2, h.lt⟩, m1.trans (m2.wide (by simp))⟩

theorem al_8 (u : World) (h : Al base X u n q F S K p E d) (hsp : d.sp ≤ 1000000) (hst : d.st = 8) (a : Nat) (ha : a < n) (hq : q ≤ 1000000) (hl : 0 ≤ d.sl ∧ d.sl ≤ 3000) (hf : 0 ≤ d.fr ∧ d.fr < 2) (hp : 0 ≤ d.pa ∧ d.pa ≤ 3000) (hk : d.pa + (2 + d.sl) < E.n1) (hA : E.sp d.fr + (d.pa + (2 + d.sl)) = (a : Int)) :
    Calls Try.prog 19 #[.pointer (some ⟨p, 0, none⟩), .pointer (some ⟨X.M, 0, none⟩), .pointer (some ⟨X.sb, 0, none⟩), .pointer (some ⟨X.kb, 0, none⟩)] u fun e w' => e = .returned (.bool (({ d with sp := d.sp + 1, wo := F a, st := d.st + 1 } : Hd).st == 13)) ∧ Aft base X n (q + 1) F S (K) p E { d with sp := d.sp + 1, wo := F a, st := d.st + 1 } u w' := by
  refine (hstep_any _ u h.hs (st_lt (by omega)) hsp (d' := { d with sp := d.sp + 1, wo := F a, st := d.st + 1 }) (C := fun w' => ∃ w1, Rd1 u w1 p X.b X.M n (q + 1) F E { d with sp := d.sp + 1, wo := F a } ∧ Mut [p] w1 w') ?_ rfl).mono ?_
  · intro v hv mv
    have hM := h.lt X.M (by simp [Bl.all])
    have hb := h.lt X.b (by simp [Bl.all])
    have mm : Mm v X.b X.M n F q := h.mx.mm.muts mv (by simp; omega) (by simp; omega)
    refine (hgo_next v (d := { d with sp := d.sp + 1, wo := F a }) (C := fun w1 => Rd1 v w1 p X.b X.M n (q + 1) F E { d with sp := d.sp + 1, wo := F a }) ((hacc_read v hv (.inr (.inr (.inr hst))) (hread_8 a v hv mm hM hb ha hq hst hl hf hp hk hA)).mono fun _ _ ⟨r1, r2⟩ => ⟨r1, r2.hs, r2⟩) (.inr (.inr (.inr (.inr hst))))).mono ?_
    rintro e w' ⟨rfl, w1, hr, h2, m2⟩
    exact ⟨rfl, h2, w1, ⟨hr.hs, hr.mm, (mv.wide (by simp)).trans hr.mu⟩, m2⟩
  · rintro e w' ⟨rfl, h2, w1, hr, m2⟩
    have hM := h.lt X.M (by simp [Bl.all])
    have m1 : Mut (p :: X.all) u w1 := hr.mu.wide (by intro k hk; simp [Bl.all] at *; rcases hk with r | r <;> simp [r])
    have a1 : Mk base X w1 n (q + 1) F S K := h.mx.mem hr.mu hr.mm (fun k hk => by
      simp at hk
      rcases hk with r | r
      · exact .inl r
      · exact .inr (.inr (r ▸ h.np)))
    exact ⟨rfl, ⟨a1.muts m2 (fun k hk => by have := h.lt k hk; simp; omega), h2, h.lt⟩, m1.trans (m2.wide (by simp))⟩

theorem al_4t (u : World) (h : Al base X u n q F S K p E d) (hsp : d.sp ≤ 1000000) (hst : d.st = 4) (a : Nat) (x : Int) (ha : a < n) (hq : q ≤ 1000000) (hf : 0 ≤ d.fr ∧ d.fr < 2) (hi : 0 ≤ d.hd ∧ d.hd < E.n0) (hp : 0 ≤ d.pa ∧ d.pa < E.n1) (hA : d.hd * 8 + 4 = (a : Int)) (hF : F a = cw x) (hx : x.natAbs < 100000) (hr : decide (x = E.sp d.fr + d.pa) = true) :
    Calls Try.prog 19 #[.pointer (some ⟨p, 0, none⟩), .pointer (some ⟨X.M, 0, none⟩), .pointer (some ⟨X.sb, 0, none⟩), .pointer (some ⟨X.kb, 0, none⟩)] u fun e w' => e = .returned (.bool (({ d with sp := d.sp + 1, wa := true, st := d.st + 1 } : Hd).st == 13)) ∧ Aft base X n (q + 1) F S (K) p E { d with sp := d.sp + 1, wa := true, st := d.st + 1 } u w' := by
  refine (hstep_any _ u h.hs (st_lt (by omega)) hsp (d' := { d with sp := d.sp + 1, wa := true, st := d.st + 1 }) (C := fun w' => ∃ w1, Rd1 u w1 p X.b X.M n (q + 1) F E { d with sp := d.sp + 1, wa := true } ∧ Mut [p] w1 w') ?_ rfl).mono ?_
  · intro v hv mv
    have hM := h.lt X.M (by simp [Bl.all])
    have hb := h.lt X.b (by simp [Bl.all])
    have mm : Mm v X.b X.M n F q := h.mx.mm.muts mv (by simp; omega) (by simp; omega)
    refine (hgo_want v (d := { d with sp := d.sp + 1, wa := true }) (C := fun w1 => Rd1 v w1 p X.b X.M n (q + 1) F E { d with sp := d.sp + 1, wa := true }) ((hacc_read v hv (.inr (.inr (.inl hst))) (hread_4 a x true v hv mm hM hb ha hq hst hf hi hp hA hF hx hr)).mono fun _ _ ⟨r1, r2⟩ => ⟨r1, r2.hs, r2⟩) (.inr hst) rfl).mono ?_
    rintro e w' ⟨rfl, w1, hr, h2, m2⟩
    exact ⟨rfl, h2, w1, ⟨hr.hs, hr.mm, (mv.wide (by simp)).trans hr.mu⟩, m2⟩
  · rintro e w' ⟨rfl, h2, w1, hr, m2⟩
    have hM := h.lt X.M (by simp [Bl.all])
    have m1 : Mut (p :: X.all) u w1 := hr.mu.wide (by intro k hk; simp [Bl.all] at *; rcases hk with r | r <;> simp [r])
    have a1 : Mk base X w1 n (q + 1) F S K := h.mx.mem hr.mu hr.mm (fun k hk => by
      simp at hk
      rcases hk with r | r
      · exact .inl r
      · exact .inr (.inr (r ▸ h.np)))
    exact ⟨rfl, ⟨a1.muts m2 (fun k hk => by have := h.lt k hk; simp; omega), h2, h.lt⟩, m1.trans (m2.wide (by simp))⟩

theorem al_4f (u : World) (h : Al base X u n q F S K p E d) (hsp : d.sp ≤ 1000000) (hst : d.st = 4) (a : Nat) (x : Int) (ha : a < n) (hq : q ≤ 1000000) (hf : 0 ≤ d.fr ∧ d.fr < 2) (hi : 0 ≤ d.hd ∧ d.hd < E.n0) (hp : 0 ≤ d.pa ∧ d.pa < E.n1) (hA : d.hd * 8 + 4 = (a : Int)) (hF : F a = cw x) (hx : x.natAbs < 100000) (hr : decide (x = E.sp d.fr + d.pa) = false) :
    Calls Try.prog 19 #[.pointer (some ⟨p, 0, none⟩), .pointer (some ⟨X.M, 0, none⟩), .pointer (some ⟨X.sb, 0, none⟩), .pointer (some ⟨X.kb, 0, none⟩)] u fun e w' => e = .returned (.bool (({ d with sp := d.sp + 1, wa := false, st := 11 } : Hd).st == 13)) ∧ Aft base X n (q + 1) F S (K) p E { d with sp := d.sp + 1, wa := false, st := 11 } u w' := by
  refine (hstep_any _ u h.hs (st_lt (by omega)) hsp (d' := { d with sp := d.sp + 1, wa := false, st := 11 }) (C := fun w' => ∃ w1, Rd1 u w1 p X.b X.M n (q + 1) F E { d with sp := d.sp + 1, wa := false } ∧ Mut [p] w1 w') ?_ rfl).mono ?_
  · intro v hv mv
    have hM := h.lt X.M (by simp [Bl.all])
    have hb := h.lt X.b (by simp [Bl.all])
    have mm : Mm v X.b X.M n F q := h.mx.mm.muts mv (by simp; omega) (by simp; omega)
    refine (hgo_skip v (d := { d with sp := d.sp + 1, wa := false }) (C := fun w1 => Rd1 v w1 p X.b X.M n (q + 1) F E { d with sp := d.sp + 1, wa := false }) ((hacc_read v hv (.inr (.inr (.inl hst))) (hread_4 a x false v hv mm hM hb ha hq hst hf hi hp hA hF hx hr)).mono fun _ _ ⟨r1, r2⟩ => ⟨r1, r2.hs, r2⟩) (.inr hst) rfl).mono ?_
    rintro e w' ⟨rfl, w1, hr, h2, m2⟩
    exact ⟨rfl, h2, w1, ⟨hr.hs, hr.mm, (mv.wide (by simp)).trans hr.mu⟩, m2⟩
  · rintro e w' ⟨rfl, h2, w1, hr, m2⟩
    have hM := h.lt X.M (by simp [Bl.all])
    have m1 : Mut (p :: X.all) u w1 := hr.mu.wide (by intro k hk; simp [Bl.all] at *; rcases hk with r | r <;> simp [r])
    have a1 : Mk base X w1 n (q + 1) F S K := h.mx.mem hr.mu hr.mm (fun k hk => by
      simp at hk
      rcases hk with r | r
      · exact .inl r
      · exact .inr (.inr (r ▸ h.np)))
    exact ⟨rfl, ⟨a1.muts m2 (fun k hk => by have := h.lt k hk; simp; omega), h2, h.lt⟩, m1.trans (m2.wide (by simp))⟩

theorem al_6 (u : World) (h : Al base X u n q F S K p E d) (hsp : d.sp ≤ 1000000) (hst : d.st = 6) (hf : 0 ≤ d.fr ∧ d.fr < 2) (hl : 0 ≤ d.sl ∧ d.sl ≤ 3000) (hp : 0 ≤ d.pt ∧ d.pt < E.n1) (hi : 0 ≤ d.hd ∧ d.hd ≤ 1024) (a : Nat) (hA : E.sp (1 - d.fr) + (d.pt + 0) = (a : Int)) (ha : a < n) (hq : q ≤ 1000000) (he : ∀ j, j < n → (if j = a then cr d.hd else F j) = G j) :
    Calls Try.prog 19 #[.pointer (some ⟨p, 0, none⟩), .pointer (some ⟨X.M, 0, none⟩), .pointer (some ⟨X.sb, 0, none⟩), .pointer (some ⟨X.kb, 0, none⟩)] u fun e w' => e = .returned (.bool (({ d with sp := d.sp + 1, st := d.st + 1 } : Hd).st == 13)) ∧ Aft base X n (q + 1) G S (K) p E { d with sp := d.sp + 1, st := d.st + 1 } u w' := by
  refine (hstep_any _ u h.hs (st_lt (by omega)) hsp (d' := { d with sp := d.sp + 1, st := d.st + 1 }) (C := fun w' => ∃ w1, (Mm w1 X.b X.M n G (q + 1) ∧ Mut [p, X.M, X.b] u w1) ∧ Mut [p] w1 w') ?_ rfl).mono ?_
  · intro v hv mv
    have hM := h.lt X.M (by simp [Bl.all])
    have hb := h.lt X.b (by simp [Bl.all])
    have mm : Mm v X.b X.M n F q := h.mx.mm.muts mv (by simp; omega) (by simp; omega)
    have CA : Calls Try.prog 64 #[.pointer (some ⟨p, 0, none⟩)] v fun e w' => e = .returned (.tuple #[.int .i64 (a : Int), .bool true]) ∧ Kept v w' := by
      have := haddr_d (v := 0) v hv (.inl hst) (.inr (.inl ⟨hst, rfl⟩)) hl hf ⟨hp.1, by have := hv.n1; have := hp.2; show d.pt ≤ 3000; omega⟩ ⟨by omega, by show d.pt + 0 < E.n1; omega⟩
      rw [hA] at this
      exact this
    refine (hgo_next v (d := { d with sp := d.sp + 1 }) (C := fun w1 => Mm w1 X.b X.M n G (q + 1) ∧ Mut [X.M, X.b] v w1) ((hacc_write v hv (.inl hst) (hwrite_any a (cr d.hd) v hv mm hM hb ha hq he CA (fun w1 k => hwritten_6 (d := { d with sp := d.sp + 1 }) w1 (hv.kept k) hst hi))).mono fun _ _ ⟨r1, r2, r3, r4⟩ => ⟨r1, r2, r3, r4⟩) (.inr (.inr (.inr (.inl hst))))).mono ?_
    rintro e w' ⟨rfl, w1, hr, h2, m2⟩
    exact ⟨rfl, h2, w1, ⟨hr.1, (mv.wide (by simp)).trans (hr.2.wide (by intro k hk; simp at *; omega))⟩, m2⟩
  · rintro e w' ⟨rfl, h2, w1, ⟨hm, hu⟩, m2⟩
    have m1 : Mut (p :: X.all) u w1 := hu.wide (by intro k hk; simp [Bl.all] at *; rcases hk with r | r | r <;> simp [r])
    have a1 : Mk base X w1 n (q + 1) G S K := h.mx.mem hu hm (fun k hk => by
      simp at hk
      rcases hk with r | r | r
      · exact .inr (.inr (r ▸ h.np))
      · exact .inl r
      · exact .inr (.inl r))
    exact ⟨rfl, ⟨a1.muts m2 (fun k hk => by have := h.lt k hk; simp; omega), h2, h.lt⟩, m1.trans (m2.wide (by simp))⟩

theorem al_7e (u : World) (h : Al base X u n q F S K p E d) (hsp : d.sp ≤ 1000000) (hst : d.st = 7) (hc : d.sl = d.ct) (hf : 0 ≤ d.fr ∧ d.fr < 2) (hl : 0 ≤ d.sl ∧ d.sl ≤ 3000) (hp : 0 ≤ d.pt ∧ d.pt + 1 < E.n1) (hi : 0 ≤ d.ct ∧ d.ct ≤ 3000) (a : Nat) (hA : E.sp (1 - d.fr) + (d.pt + 1) = (a : Int)) (ha : a < n) (hq : q ≤ 1000000) (he : ∀ j, j < n → (if j = a then cw d.ct else F j) = G j) :
    Calls Try.prog 19 #[.pointer (some ⟨p, 0, none⟩), .pointer (some ⟨X.M, 0, none⟩), .pointer (some ⟨X.sb, 0, none⟩), .pointer (some ⟨X.kb, 0, none⟩)] u fun e w' => e = .returned (.bool (({ d with sp := d.sp + 1, st := 10 } : Hd).st == 13)) ∧ Aft base X n (q + 1) G S (K) p E { d with sp := d.sp + 1, st := 10 } u w' := by
  refine (hstep_any _ u h.hs (st_lt (by omega)) hsp (d' := { d with sp := d.sp + 1, st := 10 }) (C := fun w' => ∃ w1, (Mm w1 X.b X.M n G (q + 1) ∧ Mut [p, X.M, X.b] u w1) ∧ Mut [p] w1 w') ?_ rfl).mono ?_
  · intro v hv mv
    have hM := h.lt X.M (by simp [Bl.all])
    have hb := h.lt X.b (by simp [Bl.all])
    have mm : Mm v X.b X.M n F q := h.mx.mm.muts mv (by simp; omega) (by simp; omega)
    have CA : Calls Try.prog 64 #[.pointer (some ⟨p, 0, none⟩)] v fun e w' => e = .returned (.tuple #[.int .i64 (a : Int), .bool true]) ∧ Kept v w' := by
      have := haddr_d (v := 1) v hv (.inr (.inl hst)) (.inr (.inr (.inr (.inl ⟨hst, rfl⟩)))) hl hf ⟨hp.1, by have := hv.n1; have := hp.2; show d.pt ≤ 3000; omega⟩ ⟨by omega, by show d.pt + 1 < E.n1; omega⟩
      rw [hA] at this
      exact this
    refine (hgo_cnt_e v (d := { d with sp := d.sp + 1 }) (C := fun w1 => Mm w1 X.b X.M n G (q + 1) ∧ Mut [X.M, X.b] v w1) ((hacc_write v hv (.inr (.inl hst)) (hwrite_any a (cw d.ct) v hv mm hM hb ha hq he CA (fun w1 k => hwritten_7 (d := { d with sp := d.sp + 1 }) w1 (hv.kept k) hst hi))).mono fun _ _ ⟨r1, r2, r3, r4⟩ => ⟨r1, r2, r3, r4⟩) hst hc hl).mono ?_
    rintro e w' ⟨rfl, w1, hr, h2, m2⟩
    exact ⟨rfl, h2, w1, ⟨hr.1, (mv.wide (by simp)).trans (hr.2.wide (by intro k hk; simp at *; omega))⟩, m2⟩
  · rintro e w' ⟨rfl, h2, w1, ⟨hm, hu⟩, m2⟩
    have m1 : Mut (p :: X.all) u w1 := hu.wide (by intro k hk; simp [Bl.all] at *; rcases hk with r | r | r <;> simp [r])
    have a1 : Mk base X w1 n (q + 1) G S K := h.mx.mem hu hm (fun k hk => by
      simp at hk
      rcases hk with r | r | r
      · exact .inr (.inr (r ▸ h.np))
      · exact .inl r
      · exact .inr (.inl r))
    exact ⟨rfl, ⟨a1.muts m2 (fun k hk => by have := h.lt k hk; simp; omega), h2, h.lt⟩, m1.trans (m2.wide (by simp))⟩

theorem al_9e (u : World) (h : Al base X u n q F S K p E d) (hsp : d.sp ≤ 1000000) (hst : d.st = 9) (hc : d.sl + 1 = d.ct) (hf : 0 ≤ d.fr ∧ d.fr < 2) (hl : 0 ≤ d.sl ∧ d.sl ≤ 3000) (hp : 0 ≤ d.pt ∧ d.pt + (2 + d.sl) < E.n1) (a : Nat) (hA : E.sp (1 - d.fr) + (d.pt + (2 + d.sl)) = (a : Int)) (ha : a < n) (hq : q ≤ 1000000) (he : ∀ j, j < n → (if j = a then d.wo else F j) = G j) :
    Calls Try.prog 19 #[.pointer (some ⟨p, 0, none⟩), .pointer (some ⟨X.M, 0, none⟩), .pointer (some ⟨X.sb, 0, none⟩), .pointer (some ⟨X.kb, 0, none⟩)] u fun e w' => e = .returned (.bool (({ d with sp := d.sp + 1, sl := d.sl + 1, st := 10 } : Hd).st == 13)) ∧ Aft base X n (q + 1) G S (K) p E { d with sp := d.sp + 1, sl := d.sl + 1, st := 10 } u w' := by
  refine (hstep_any _ u h.hs (st_lt (by omega)) hsp (d' := { d with sp := d.sp + 1, sl := d.sl + 1, st := 10 }) (C := fun w' => ∃ w1, (Mm w1 X.b X.M n G (q + 1) ∧ Mut [p, X.M, X.b] u w1) ∧ Mut [p] w1 w') ?_ rfl).mono ?_
  · intro v hv mv
    have hM := h.lt X.M (by simp [Bl.all])
    have hb := h.lt X.b (by simp [Bl.all])
    have mm : Mm v X.b X.M n F q := h.mx.mm.muts mv (by simp; omega) (by simp; omega)
    have CA : Calls Try.prog 64 #[.pointer (some ⟨p, 0, none⟩)] v fun e w' => e = .returned (.tuple #[.int .i64 (a : Int), .bool true]) ∧ Kept v w' := by
      have := haddr_d (v := 2 + d.sl) v hv (.inr (.inr hst)) (.inr (.inr (.inr (.inr (.inr ⟨hst, rfl⟩))))) hl hf ⟨hp.1, by have := hv.n1; have := hp.2; show d.pt ≤ 3000; omega⟩ ⟨by omega, by show d.pt + (2 + d.sl) < E.n1; omega⟩
      rw [hA] at this
      exact this
    refine (hgo_slot_e v (d := { d with sp := d.sp + 1 }) (C := fun w1 => Mm w1 X.b X.M n G (q + 1) ∧ Mut [X.M, X.b] v w1) ((hacc_write v hv (.inr (.inr (.inl hst))) (hwrite_any a (d.wo) v hv mm hM hb ha hq he CA (fun w1 k => hwritten_9 (d := { d with sp := d.sp + 1 }) w1 (hv.kept k) hst))).mono fun _ _ ⟨r1, r2, r3, r4⟩ => ⟨r1, r2, r3, r4⟩) hst hc hl).mono ?_
    rintro e w' ⟨rfl, w1, hr, h2, m2⟩
    exact ⟨rfl, h2, w1, ⟨hr.1, (mv.wide (by simp)).trans (hr.2.wide (by intro k hk; simp at *; omega))⟩, m2⟩
  · rintro e w' ⟨rfl, h2, w1, ⟨hm, hu⟩, m2⟩
    have m1 : Mut (p :: X.all) u w1 := hu.wide (by intro k hk; simp [Bl.all] at *; rcases hk with r | r | r <;> simp [r])
    have a1 : Mk base X w1 n (q + 1) G S K := h.mx.mem hu hm (fun k hk => by
      simp at hk
      rcases hk with r | r | r
      · exact .inr (.inr (r ▸ h.np))
      · exact .inl r
      · exact .inr (.inl r))
    exact ⟨rfl, ⟨a1.muts m2 (fun k hk => by have := h.lt k hk; simp; omega), h2, h.lt⟩, m1.trans (m2.wide (by simp))⟩

theorem al_7n (u : World) (h : Al base X u n q F S K p E d) (hsp : d.sp ≤ 1000000) (hst : d.st = 7) (hc : d.sl ≠ d.ct) (hf : 0 ≤ d.fr ∧ d.fr < 2) (hl : 0 ≤ d.sl ∧ d.sl ≤ 3000) (hp : 0 ≤ d.pt ∧ d.pt + 1 < E.n1) (hi : 0 ≤ d.ct ∧ d.ct ≤ 3000) (a : Nat) (hA : E.sp (1 - d.fr) + (d.pt + 1) = (a : Int)) (ha : a < n) (hq : q ≤ 1000000) (he : ∀ j, j < n → (if j = a then cw d.ct else F j) = G j) :
    Calls Try.prog 19 #[.pointer (some ⟨p, 0, none⟩), .pointer (some ⟨X.M, 0, none⟩), .pointer (some ⟨X.sb, 0, none⟩), .pointer (some ⟨X.kb, 0, none⟩)] u fun e w' => e = .returned (.bool (({ d with sp := d.sp + 1, st := 8 } : Hd).st == 13)) ∧ Aft base X n (q + 1) G S (K) p E { d with sp := d.sp + 1, st := 8 } u w' := by
  refine (hstep_any _ u h.hs (st_lt (by omega)) hsp (d' := { d with sp := d.sp + 1, st := 8 }) (C := fun w' => ∃ w1, (Mm w1 X.b X.M n G (q + 1) ∧ Mut [p, X.M, X.b] u w1) ∧ Mut [p] w1 w') ?_ rfl).mono ?_
  · intro v hv mv
    have hM := h.lt X.M (by simp [Bl.all])
    have hb := h.lt X.b (by simp [Bl.all])
    have mm : Mm v X.b X.M n F q := h.mx.mm.muts mv (by simp; omega) (by simp; omega)
    have CA : Calls Try.prog 64 #[.pointer (some ⟨p, 0, none⟩)] v fun e w' => e = .returned (.tuple #[.int .i64 (a : Int), .bool true]) ∧ Kept v w' := by
      have := haddr_d (v := 1) v hv (.inr (.inl hst)) (.inr (.inr (.inr (.inl ⟨hst, rfl⟩)))) hl hf ⟨hp.1, by have := hv.n1; have := hp.2; show d.pt ≤ 3000; omega⟩ ⟨by omega, by show d.pt + 1 < E.n1; omega⟩
      rw [hA] at this
      exact this
    refine (hgo_cnt_n v (d := { d with sp := d.sp + 1 }) (C := fun w1 => Mm w1 X.b X.M n G (q + 1) ∧ Mut [X.M, X.b] v w1) ((hacc_write v hv (.inr (.inl hst)) (hwrite_any a (cw d.ct) v hv mm hM hb ha hq he CA (fun w1 k => hwritten_7 (d := { d with sp := d.sp + 1 }) w1 (hv.kept k) hst hi))).mono fun _ _ ⟨r1, r2, r3, r4⟩ => ⟨r1, r2, r3, r4⟩) hst hc hl).mono ?_
    rintro e w' ⟨rfl, w1, hr, h2, m2⟩
    exact ⟨rfl, h2, w1, ⟨hr.1, (mv.wide (by simp)).trans (hr.2.wide (by intro k hk; simp at *; omega))⟩, m2⟩
  · rintro e w' ⟨rfl, h2, w1, ⟨hm, hu⟩, m2⟩
    have m1 : Mut (p :: X.all) u w1 := hu.wide (by intro k hk; simp [Bl.all] at *; rcases hk with r | r | r <;> simp [r])
    have a1 : Mk base X w1 n (q + 1) G S K := h.mx.mem hu hm (fun k hk => by
      simp at hk
      rcases hk with r | r | r
      · exact .inr (.inr (r ▸ h.np))
      · exact .inl r
      · exact .inr (.inl r))
    exact ⟨rfl, ⟨a1.muts m2 (fun k hk => by have := h.lt k hk; simp; omega), h2, h.lt⟩, m1.trans (m2.wide (by simp))⟩

theorem al_9n (u : World) (h : Al base X u n q F S K p E d) (hsp : d.sp ≤ 1000000) (hst : d.st = 9) (hc : d.sl + 1 ≠ d.ct) (hf : 0 ≤ d.fr ∧ d.fr < 2) (hl : 0 ≤ d.sl ∧ d.sl ≤ 3000) (hp : 0 ≤ d.pt ∧ d.pt + (2 + d.sl) < E.n1) (a : Nat) (hA : E.sp (1 - d.fr) + (d.pt + (2 + d.sl)) = (a : Int)) (ha : a < n) (hq : q ≤ 1000000) (he : ∀ j, j < n → (if j = a then d.wo else F j) = G j) :
    Calls Try.prog 19 #[.pointer (some ⟨p, 0, none⟩), .pointer (some ⟨X.M, 0, none⟩), .pointer (some ⟨X.sb, 0, none⟩), .pointer (some ⟨X.kb, 0, none⟩)] u fun e w' => e = .returned (.bool (({ d with sp := d.sp + 1, sl := d.sl + 1, st := 8 } : Hd).st == 13)) ∧ Aft base X n (q + 1) G S (K) p E { d with sp := d.sp + 1, sl := d.sl + 1, st := 8 } u w' := by
  refine (hstep_any _ u h.hs (st_lt (by omega)) hsp (d' := { d with sp := d.sp + 1, sl := d.sl + 1, st := 8 }) (C := fun w' => ∃ w1, (Mm w1 X.b X.M n G (q + 1) ∧ Mut [p, X.M, X.b] u w1) ∧ Mut [p] w1 w') ?_ rfl).mono ?_
  · intro v hv mv
    have hM := h.lt X.M (by simp [Bl.all])
    have hb := h.lt X.b (by simp [Bl.all])
    have mm : Mm v X.b X.M n F q := h.mx.mm.muts mv (by simp; omega) (by simp; omega)
    have CA : Calls Try.prog 64 #[.pointer (some ⟨p, 0, none⟩)] v fun e w' => e = .returned (.tuple #[.int .i64 (a : Int), .bool true]) ∧ Kept v w' := by
      have := haddr_d (v := 2 + d.sl) v hv (.inr (.inr hst)) (.inr (.inr (.inr (.inr (.inr ⟨hst, rfl⟩))))) hl hf ⟨hp.1, by have := hv.n1; have := hp.2; show d.pt ≤ 3000; omega⟩ ⟨by omega, by show d.pt + (2 + d.sl) < E.n1; omega⟩
      rw [hA] at this
      exact this
    refine (hgo_slot_n v (d := { d with sp := d.sp + 1 }) (C := fun w1 => Mm w1 X.b X.M n G (q + 1) ∧ Mut [X.M, X.b] v w1) ((hacc_write v hv (.inr (.inr (.inl hst))) (hwrite_any a (d.wo) v hv mm hM hb ha hq he CA (fun w1 k => hwritten_9 (d := { d with sp := d.sp + 1 }) w1 (hv.kept k) hst))).mono fun _ _ ⟨r1, r2, r3, r4⟩ => ⟨r1, r2, r3, r4⟩) hst hc hl).mono ?_
    rintro e w' ⟨rfl, w1, hr, h2, m2⟩
    exact ⟨rfl, h2, w1, ⟨hr.1, (mv.wide (by simp)).trans (hr.2.wide (by intro k hk; simp at *; omega))⟩, m2⟩
  · rintro e w' ⟨rfl, h2, w1, ⟨hm, hu⟩, m2⟩
    have m1 : Mut (p :: X.all) u w1 := hu.wide (by intro k hk; simp [Bl.all] at *; rcases hk with r | r | r <;> simp [r])
    have a1 : Mk base X w1 n (q + 1) G S K := h.mx.mem hu hm (fun k hk => by
      simp at hk
      rcases hk with r | r | r
      · exact .inr (.inr (r ▸ h.np))
      · exact .inl r
      · exact .inr (.inl r))
    exact ⟨rfl, ⟨a1.muts m2 (fun k hk => by have := h.lt k hk; simp; omega), h2, h.lt⟩, m1.trans (m2.wide (by simp))⟩

theorem al_10e (u : World) (h : Al base X u n q F S K p E d) (hsp : d.sp ≤ 1000000) (hst : d.st = 10) (hc : d.pa + (2 + d.ct) = d.en) (hf : 0 ≤ d.fr ∧ d.fr < 2) (hk : 0 ≤ d.pa ∧ d.pa ≤ 3000) (hi : 0 ≤ d.ct ∧ d.ct ≤ 3000) (hm : 0 ≤ d.mo ∧ d.mo ≤ 3000) (hh : 0 ≤ d.hd ∧ d.hd < E.n0) (hp : 0 ≤ d.pt ∧ d.pt < E.n1) (a : Nat) (hA : d.hd * 8 + 4 = (a : Int)) (ha : a < n) (hq : q ≤ 1000000) (he : ∀ j, j < n → (if j = a then cw (E.sp (1 - d.fr) + d.pt) else F j) = G j) :
    Calls Try.prog 19 #[.pointer (some ⟨p, 0, none⟩), .pointer (some ⟨X.M, 0, none⟩), .pointer (some ⟨X.sb, 0, none⟩), .pointer (some ⟨X.kb, 0, none⟩)] u fun e w' => e = .returned (.bool (({ d with sp := d.sp + 1, mo := d.mo + 1, pa := d.pa + (2 + d.ct), sl := 0, st := 13 } : Hd).st == 13)) ∧ Aft base X n (q + 1) G S (K) p E { d with sp := d.sp + 1, mo := d.mo + 1, pa := d.pa + (2 + d.ct), sl := 0, st := 13 } u w' := by
  refine (hstep_any _ u h.hs (st_lt (by omega)) hsp (d' := { d with sp := d.sp + 1, mo := d.mo + 1, pa := d.pa + (2 + d.ct), sl := 0, st := 13 }) (C := fun w' => ∃ w1, (Mm w1 X.b X.M n G (q + 1) ∧ Mut [p, X.M, X.b] u w1) ∧ Mut [p] w1 w') ?_ rfl).mono ?_
  · intro v hv mv
    have hM := h.lt X.M (by simp [Bl.all])
    have hb := h.lt X.b (by simp [Bl.all])
    have mm : Mm v X.b X.M n F q := h.mx.mm.muts mv (by simp; omega) (by simp; omega)
    have CA : Calls Try.prog 64 #[.pointer (some ⟨p, 0, none⟩)] v fun e w' => e = .returned (.tuple #[.int .i64 (a : Int), .bool true]) ∧ Kept v w' := by
      have := haddr_w v hv (.inr hst) hh
      rw [hA] at this
      exact this
    refine (hgo_moved_e v (d := { d with sp := d.sp + 1 }) (C := fun w1 => Mm w1 X.b X.M n G (q + 1) ∧ Mut [X.M, X.b] v w1) ((hacc_write v hv (.inr (.inr (.inr hst))) (hwrite_any a (cw (E.sp (1 - d.fr) + d.pt)) v hv mm hM hb ha hq he CA (fun w1 k => hwritten_10 (d := { d with sp := d.sp + 1 }) w1 (hv.kept k) hst hf hp))).mono fun _ _ ⟨r1, r2, r3, r4⟩ => ⟨r1, r2, r3, r4⟩) hst hc hk hi hm).mono ?_
    rintro e w' ⟨rfl, w1, hr, h2, m2⟩
    exact ⟨rfl, h2, w1, ⟨hr.1, (mv.wide (by simp)).trans (hr.2.wide (by intro k hk; simp at *; omega))⟩, m2⟩
  · rintro e w' ⟨rfl, h2, w1, ⟨hm, hu⟩, m2⟩
    have m1 : Mut (p :: X.all) u w1 := hu.wide (by intro k hk; simp [Bl.all] at *; rcases hk with r | r | r <;> simp [r])
    have a1 : Mk base X w1 n (q + 1) G S K := h.mx.mem hu hm (fun k hk => by
      simp at hk
      rcases hk with r | r | r
      · exact .inr (.inr (r ▸ h.np))
      · exact .inl r
      · exact .inr (.inl r))
    exact ⟨rfl, ⟨a1.muts m2 (fun k hk => by have := h.lt k hk; simp; omega), h2, h.lt⟩, m1.trans (m2.wide (by simp))⟩

theorem al_10n (u : World) (h : Al base X u n q F S K p E d) (hsp : d.sp ≤ 1000000) (hst : d.st = 10) (hc : d.pa + (2 + d.ct) ≠ d.en) (hf : 0 ≤ d.fr ∧ d.fr < 2) (hk : 0 ≤ d.pa ∧ d.pa ≤ 3000) (hi : 0 ≤ d.ct ∧ d.ct ≤ 3000) (hm : 0 ≤ d.mo ∧ d.mo ≤ 3000) (hh : 0 ≤ d.hd ∧ d.hd < E.n0) (hp : 0 ≤ d.pt ∧ d.pt < E.n1) (a : Nat) (hA : d.hd * 8 + 4 = (a : Int)) (ha : a < n) (hq : q ≤ 1000000) (he : ∀ j, j < n → (if j = a then cw (E.sp (1 - d.fr) + d.pt) else F j) = G j) :
    Calls Try.prog 19 #[.pointer (some ⟨p, 0, none⟩), .pointer (some ⟨X.M, 0, none⟩), .pointer (some ⟨X.sb, 0, none⟩), .pointer (some ⟨X.kb, 0, none⟩)] u fun e w' => e = .returned (.bool (({ d with sp := d.sp + 1, mo := d.mo + 1, pa := d.pa + (2 + d.ct), sl := 0, st := 1 } : Hd).st == 13)) ∧ Aft base X n (q + 1) G S (K) p E { d with sp := d.sp + 1, mo := d.mo + 1, pa := d.pa + (2 + d.ct), sl := 0, st := 1 } u w' := by
  refine (hstep_any _ u h.hs (st_lt (by omega)) hsp (d' := { d with sp := d.sp + 1, mo := d.mo + 1, pa := d.pa + (2 + d.ct), sl := 0, st := 1 }) (C := fun w' => ∃ w1, (Mm w1 X.b X.M n G (q + 1) ∧ Mut [p, X.M, X.b] u w1) ∧ Mut [p] w1 w') ?_ rfl).mono ?_
  · intro v hv mv
    have hM := h.lt X.M (by simp [Bl.all])
    have hb := h.lt X.b (by simp [Bl.all])
    have mm : Mm v X.b X.M n F q := h.mx.mm.muts mv (by simp; omega) (by simp; omega)
    have CA : Calls Try.prog 64 #[.pointer (some ⟨p, 0, none⟩)] v fun e w' => e = .returned (.tuple #[.int .i64 (a : Int), .bool true]) ∧ Kept v w' := by
      have := haddr_w v hv (.inr hst) hh
      rw [hA] at this
      exact this
    refine (hgo_moved_n v (d := { d with sp := d.sp + 1 }) (C := fun w1 => Mm w1 X.b X.M n G (q + 1) ∧ Mut [X.M, X.b] v w1) ((hacc_write v hv (.inr (.inr (.inr hst))) (hwrite_any a (cw (E.sp (1 - d.fr) + d.pt)) v hv mm hM hb ha hq he CA (fun w1 k => hwritten_10 (d := { d with sp := d.sp + 1 }) w1 (hv.kept k) hst hf hp))).mono fun _ _ ⟨r1, r2, r3, r4⟩ => ⟨r1, r2, r3, r4⟩) hst hc hk hi hm).mono ?_
    rintro e w' ⟨rfl, w1, hr, h2, m2⟩
    exact ⟨rfl, h2, w1, ⟨hr.1, (mv.wide (by simp)).trans (hr.2.wide (by intro k hk; simp at *; omega))⟩, m2⟩
  · rintro e w' ⟨rfl, h2, w1, ⟨hm, hu⟩, m2⟩
    have m1 : Mut (p :: X.all) u w1 := hu.wide (by intro k hk; simp [Bl.all] at *; rcases hk with r | r | r <;> simp [r])
    have a1 : Mk base X w1 n (q + 1) G S K := h.mx.mem hu hm (fun k hk => by
      simp at hk
      rcases hk with r | r | r
      · exact .inr (.inr (r ▸ h.np))
      · exact .inl r
      · exact .inr (.inl r))
    exact ⟨rfl, ⟨a1.muts m2 (fun k hk => by have := h.lt k hk; simp; omega), h2, h.lt⟩, m1.trans (m2.wide (by simp))⟩

end
end Go.Proofs.Ytgnikgkpbibmgaa
