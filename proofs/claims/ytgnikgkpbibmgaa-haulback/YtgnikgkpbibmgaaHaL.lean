/-
  A whole run of package haul: where it stands behind t steps.
-/
import Derived.Test.YtgnikgkpbibmgaaHaK
namespace Go.Proofs.Ytgnikgkpbibmgaa
open Go.RowKit

structure Cm (L : Pl) (d : Hd) (i : Nat) : Prop where
  fr : d.fr = (L.fr : Int)
  en : d.en = (L.n : Int)
  sen : d.sen = true
  pa : d.pa = (L.A i : Int)
  er : d.er = 0
  mo : d.mo = (L.mc i : Int)

def Ph (L : Pl) (t : Nat) (d : Hd) (F : Nat → Cx) (K : CS) : Prop :=
  (∃ i, i < L.N ∧ Cm L d i ∧ d.sl = 0 ∧ t = L.tm i ∧ d.st = 1 ∧ F = L.mem i (L.P i) ∧ K = L.Ks i)
  ∨ (∃ i, i < L.N ∧ Cm L d i ∧ d.sl = 0 ∧ t = L.tm i + 1 ∧ d.st = 2 ∧ F = L.mem i (L.P i) ∧ K = L.Ks i ∧ d.hd = (i : Int))
  ∨ (∃ i, i < L.N ∧ Cm L d i ∧ d.sl = 0 ∧ t = L.tm i + 2 ∧ d.st = 3 ∧ F = L.mem i (L.P i) ∧ K = L.Ks i ∧ d.hd = (i : Int) ∧ d.ct = (L.z i : Int))
  ∨ (∃ i, i < L.N ∧ Cm L d i ∧ d.sl = 0 ∧ t = L.tm i + 3 ∧ d.st = 4 ∧ F = L.mem i (L.P i) ∧ K = L.Ks i ∧ d.hd = (i : Int) ∧ d.ct = (L.z i : Int) ∧ L.bl i = true)
  ∨ (∃ i, i < L.N ∧ Cm L d i ∧ d.sl = 0 ∧ t = L.tm i + 4 ∧ d.st = 5 ∧ F = L.mem i (L.P i) ∧ K = L.Ks i ∧ d.hd = (i : Int) ∧ d.ct = (L.z i : Int) ∧ L.mv i = true)
  ∨ (∃ i, i < L.N ∧ Cm L d i ∧ d.sl = 0 ∧ t = L.tm i + 5 ∧ d.st = 6 ∧ F = L.mem i (L.P i + 0) ∧ K = L.Ks (i + 1) ∧ d.hd = (i : Int) ∧ d.ct = (L.z i : Int) ∧ L.mv i = true ∧ d.pt = (L.P i : Int))
  ∨ (∃ i, i < L.N ∧ Cm L d i ∧ d.sl = 0 ∧ t = L.tm i + 6 ∧ d.st = 7 ∧ F = L.mem i (L.P i + 1) ∧ K = L.Ks (i + 1) ∧ d.hd = (i : Int) ∧ d.ct = (L.z i : Int) ∧ L.mv i = true ∧ d.pt = (L.P i : Int))
  ∨ (∃ i s : Nat, i < L.N ∧ Cm L d i ∧ d.sl = (s : Int) ∧ t = L.tm i + 7 + 2 * s ∧ d.st = 8 ∧ F = L.mem i (L.P i + (2 + s)) ∧ K = L.Ks (i + 1) ∧ d.hd = (i : Int) ∧ d.ct = (L.z i : Int) ∧ L.mv i = true ∧ d.pt = (L.P i : Int) ∧ s < L.z i)
  ∨ (∃ i s : Nat, i < L.N ∧ Cm L d i ∧ d.sl = (s : Int) ∧ t = L.tm i + 8 + 2 * s ∧ d.st = 9 ∧ F = L.mem i (L.P i + (2 + s)) ∧ K = L.Ks (i + 1) ∧ d.hd = (i : Int) ∧ d.ct = (L.z i : Int) ∧ L.mv i = true ∧ d.pt = (L.P i : Int) ∧ s < L.z i ∧ d.wo = L.G (L.A i + (2 + s)))
  ∨ (∃ i, i < L.N ∧ Cm L d i ∧ t = L.tm i + 7 + 2 * L.z i ∧ d.st = 10 ∧ F = L.mem i (L.P i + (L.z i + 2)) ∧ K = L.Ks (i + 1) ∧ d.hd = (i : Int) ∧ d.ct = (L.z i : Int) ∧ L.mv i = true ∧ d.pt = (L.P i : Int))
  ∨ (∃ i, i < L.N ∧ Cm L d i ∧ t + 1 = L.tm i + L.cost i ∧ d.st = 11 ∧ F = L.mem i (L.P i) ∧ K = L.Ks i ∧ d.ct = (L.z i : Int) ∧ L.mv i = false)
  ∨ (Cm L d L.N ∧ t = L.tm L.N ∧ d.st = 13 ∧ F = L.mem L.N (L.P L.N) ∧ K = L.Ks L.N)

structure Env (L : Pl) (E : En) (len : Nat) : Prop where
  ok : L.Ok
  n0 : E.n0 = (L.n0 : Int)
  n1 : E.n1 = (L.n : Int)
  len : 8 * L.n0 + 2 * L.n = len
theorem Env.src {L : Pl} {E : En} {len : Nat} (h : Env L E len) : E.sp (L.fr : Int) = (L.src : Int) ∧ E.sp (1 - (L.fr : Int)) = (L.dst : Int) := by
  have h0 := h.n0
  have h1 := h.n1
  unfold En.sp
  rw [h0, h1]
  rcases h.ok.cases with ⟨a, b, c⟩ | ⟨a, b, c⟩ <;> rw [a, b, c] <;> simp <;> omega

structure Rs (L : Pl) (base : Nat) (X : Bl) (len p : Nat) (E : En) (q0 c0 t : Nat) (u : World) (d : Hd) (S : ShS) (K : CS) (q : Nat) (F : Nat → Cx) : Prop where
  al : Al base X u len q F S K p E d
  ph : Ph L t d F K
  sp : d.sp = t
  q : q ≤ q0 + t
  c : S.c ≤ c0 + t
  bk : ∀ i : Nat, i < L.N → blackB S (i : Int) true = L.bl i
def Run (L : Pl) (base : Nat) (X : Bl) (len p : Nat) (E : En) (q0 c0 t : Nat) (u : World) : Prop := ∃ d S K q F, Rs L base X len p E q0 c0 t u d S K q F

theorem ans_no {x : Int} {a b : Nat} (h : x ≠ 13) (h2 : a ≠ b) : Ending.returned (.bool (x == 13)) = .returned (.bool (decide (a = b))) := by
  have h1 : (x == 13) = false := by simpa using h
  rw [h1, decide_eq_false h2]
theorem ans_yes {a b : Nat} (h2 : a = b) : Ending.returned (.bool ((13 : Int) == 13)) = .returned (.bool (decide (a = b))) := by
  rw [decide_eq_true h2]
  rfl
theorem all_lt {L : Pl} (h : L.Ok) : L.tm L.N ≤ 10000 := by
  have := L.tm_hi L.N
  have h1 := h.all
  have h2 := h.N
  have h3 := h.n0
  have h4 := h.n
  omega

section
variable {L : Pl} {base len p q0 c0 t : Nat} {X : Bl} {E : En} {d : Hd} {S : ShS} {K : CS} {q : Nat} {F : Nat → Cx}

set_option maxHeartbeats 1000000 in
theorem run_1 (he : Env L E len) (w : World) (al : Al base X w len q F S K p E d) (hsp : d.sp = t) (hq : q ≤ q0 + t) (hc : S.c ≤ c0 + t) (bk : ∀ i : Nat, i < L.N → blackB S (i : Int) true = L.bl i) (hq0 : q0 ≤ 500000) (hc0 : c0 ≤ 500000) (hlt : t < L.tm L.N)
    (i : Nat) (hi : i < L.N) (cm : Cm L d i) (hsl : d.sl = 0) (ht : t = L.tm i) (hst : d.st = 1) (hF : F = L.mem i (L.P i)) (hK : K = L.Ks i) :
    Calls Try.prog 19 #[.pointer (some ⟨p, 0, none⟩), .pointer (some ⟨X.M, 0, none⟩), .pointer (some ⟨X.sb, 0, none⟩), .pointer (some ⟨X.kb, 0, none⟩)] w fun e w' => e = .returned (.bool (decide (t + 1 = L.tm L.N))) ∧ Run L base X len p E q0 c0 (t + 1) w' ∧ Mut (p :: X.all) w w' := by
  have ho := he.ok
  have hk := ho.cases
  have hall := all_lt ho
  have hlen := he.len
  have hn0 := he.n0
  have hn1 := he.n1
  have hsr := he.src
  have hNn := ho.N
  have hn0' := ho.n0
  have hn := ho.n
  have hun : q0 ≤ 500000 ∧ c0 ≤ 500000 ∧ t < L.tm L.N := ⟨hq0, hc0, hlt⟩
  have h1 := ho.one hi
  have hP := L.P_le i
  have htl := Pl.tm_lt (L := L) hi
  obtain ⟨cf, ce, cs, cp, cr', cm'⟩ := cm
  rw [← cf] at hsr
  have hco := L.cost_lo i
  refine (al_1 w al (by omega) hst (L.src + L.A i) (i : Int) (by omega) (by omega) (by omega) (by omega) (by omega) (by omega) (by rw [hsr.1]; omega) (by rw [hF, Pl.mem_src ho (x := L.A i) (by omega) rfl]; exact ho.g0 i hi) (by omega)).mono ?_
  rintro e w' ⟨rfl, h2, m2⟩
  exact ⟨ans_no (by show d.st + 1 ≠ 13; omega) (by omega), ⟨_, _, _, _, _, ⟨h2, .inr (.inl ⟨i, hi, ⟨cf, ce, cs, cp, cr', cm'⟩, hsl, by omega, by show d.st + 1 = 2; omega, hF, hK, rfl⟩), by show d.sp + 1 = t + 1; omega, by omega, by have := hc; omega, bk⟩⟩, m2⟩

set_option maxHeartbeats 1000000 in
theorem run_2 (he : Env L E len) (w : World) (al : Al base X w len q F S K p E d) (hsp : d.sp = t) (hq : q ≤ q0 + t) (hc : S.c ≤ c0 + t) (bk : ∀ i : Nat, i < L.N → blackB S (i : Int) true = L.bl i) (hq0 : q0 ≤ 500000) (hc0 : c0 ≤ 500000) (hlt : t < L.tm L.N)
    (i : Nat) (hi : i < L.N) (cm : Cm L d i) (hsl : d.sl = 0) (ht : t = L.tm i + 1) (hst : d.st = 2) (hF : F = L.mem i (L.P i)) (hK : K = L.Ks i) (hh : d.hd = (i : Int)) :
    Calls Try.prog 19 #[.pointer (some ⟨p, 0, none⟩), .pointer (some ⟨X.M, 0, none⟩), .pointer (some ⟨X.sb, 0, none⟩), .pointer (some ⟨X.kb, 0, none⟩)] w fun e w' => e = .returned (.bool (decide (t + 1 = L.tm L.N))) ∧ Run L base X len p E q0 c0 (t + 1) w' ∧ Mut (p :: X.all) w w' := by
  have ho := he.ok
  have hk := ho.cases
  have hall := all_lt ho
  have hlen := he.len
  have hn0 := he.n0
  have hn1 := he.n1
  have hsr := he.src
  have hNn := ho.N
  have hn0' := ho.n0
  have hn := ho.n
  have hun : q0 ≤ 500000 ∧ c0 ≤ 500000 ∧ t < L.tm L.N := ⟨hq0, hc0, hlt⟩
  have h1 := ho.one hi
  have hP := L.P_le i
  have htl := Pl.tm_lt (L := L) hi
  obtain ⟨cf, ce, cs, cp, cr', cm'⟩ := cm
  rw [← cf] at hsr
  have hco := L.cost_lo i
  refine (al_2 w al (by omega) hst (L.src + (L.A i + 1)) (L.z i : Int) (by omega) (by omega) (by omega) (by omega) (by omega) (by omega) (by rw [hsr.1]; omega) (by rw [hF, Pl.mem_src ho (x := L.A i + 1) (by omega) rfl]; exact ho.g1 i hi) (by omega) (by omega)).mono ?_
  rintro e w' ⟨rfl, h2, m2⟩
  exact ⟨ans_no (by show d.st + 1 ≠ 13; omega) (by omega), ⟨_, _, _, _, _, ⟨h2, .inr (.inr (.inl ⟨i, hi, ⟨cf, ce, cs, cp, cr', cm'⟩, hsl, by omega, by show d.st + 1 = 3; omega, hF, hK, hh, rfl⟩)), by show d.sp + 1 = t + 1; omega, by omega, by have := hc; omega, bk⟩⟩, m2⟩

set_option maxHeartbeats 1000000 in
theorem run_3 (he : Env L E len) (w : World) (al : Al base X w len q F S K p E d) (hsp : d.sp = t) (hq : q ≤ q0 + t) (hc : S.c ≤ c0 + t) (bk : ∀ i : Nat, i < L.N → blackB S (i : Int) true = L.bl i) (hq0 : q0 ≤ 500000) (hc0 : c0 ≤ 500000) (hlt : t < L.tm L.N)
    (i : Nat) (hi : i < L.N) (cm : Cm L d i) (hsl : d.sl = 0) (ht : t = L.tm i + 2) (hst : d.st = 3) (hF : F = L.mem i (L.P i)) (hK : K = L.Ks i) (hh : d.hd = (i : Int)) (hct : d.ct = (L.z i : Int)) :
    Calls Try.prog 19 #[.pointer (some ⟨p, 0, none⟩), .pointer (some ⟨X.M, 0, none⟩), .pointer (some ⟨X.sb, 0, none⟩), .pointer (some ⟨X.kb, 0, none⟩)] w fun e w' => e = .returned (.bool (decide (t + 1 = L.tm L.N))) ∧ Run L base X len p E q0 c0 (t + 1) w' ∧ Mut (p :: X.all) w w' := by
  have ho := he.ok
  have hk := ho.cases
  have hall := all_lt ho
  have hlen := he.len
  have hn0 := he.n0
  have hn1 := he.n1
  have hsr := he.src
  have hNn := ho.N
  have hn0' := ho.n0
  have hn := ho.n
  have hun : q0 ≤ 500000 ∧ c0 ≤ 500000 ∧ t < L.tm L.N := ⟨hq0, hc0, hlt⟩
  have h1 := ho.one hi
  have hP := L.P_le i
  have htl := Pl.tm_lt (L := L) hi
  obtain ⟨cf, ce, cs, cp, cr', cm'⟩ := cm
  rw [← cf] at hsr
  have hco := L.cost_lo i
  have hb := bk i hi
  rw [← hh, ← cs] at hb
  have hcl : S.c < lots := by unfold lots; omega
  cases hbl : L.bl i
  · have hcost := Pl.cost_no (L := L) hbl
    refine (al_3f w al (by omega) hst hcl (hb.trans hbl)).mono ?_
    rintro e w' ⟨rfl, h2, m2⟩
    exact ⟨ans_no (by show (11 : Int) ≠ 13; omega) (by omega), ⟨_, _, _, _, _, ⟨h2, .inr (.inr (.inr (.inr (.inr (.inr (.inr (.inr (.inr (.inr (.inl ⟨i, hi, ⟨cf, ce, cs, cp, cr', cm'⟩, by omega, rfl, hF, hK, hct, Pl.mv_no hbl⟩)))))))))), by show d.sp + 1 = t + 1; omega, by omega, (by show S.c + 1 ≤ c0 + (t + 1); omega), bk⟩⟩, m2⟩
  · have hcost : 5 ≤ L.cost i := by
      cases hm : L.mv i
      · rw [Pl.cost_bl hbl hm]; omega
      · rw [Pl.cost_mv hm]; omega
    refine (al_3t w al (by omega) hst hcl (hb.trans hbl)).mono ?_
    rintro e w' ⟨rfl, h2, m2⟩
    exact ⟨ans_no (by show d.st + 1 ≠ 13; omega) (by omega), ⟨_, _, _, _, _, ⟨h2, .inr (.inr (.inr (.inl ⟨i, hi, ⟨cf, ce, cs, cp, cr', cm'⟩, hsl, by omega, by show d.st + 1 = 4; omega, hF, hK, hh, hct, hbl⟩))), by show d.sp + 1 = t + 1; omega, by omega, (by show S.c + 1 ≤ c0 + (t + 1); omega), bk⟩⟩, m2⟩

set_option maxHeartbeats 1000000 in
theorem run_4 (he : Env L E len) (w : World) (al : Al base X w len q F S K p E d) (hsp : d.sp = t) (hq : q ≤ q0 + t) (hc : S.c ≤ c0 + t) (bk : ∀ i : Nat, i < L.N → blackB S (i : Int) true = L.bl i) (hq0 : q0 ≤ 500000) (hc0 : c0 ≤ 500000) (hlt : t < L.tm L.N)
    (i : Nat) (hi : i < L.N) (cm : Cm L d i) (hsl : d.sl = 0) (ht : t = L.tm i + 3) (hst : d.st = 4) (hF : F = L.mem i (L.P i)) (hK : K = L.Ks i) (hh : d.hd = (i : Int)) (hct : d.ct = (L.z i : Int)) (hbl : L.bl i = true) :
    Calls Try.prog 19 #[.pointer (some ⟨p, 0, none⟩), .pointer (some ⟨X.M, 0, none⟩), .pointer (some ⟨X.sb, 0, none⟩), .pointer (some ⟨X.kb, 0, none⟩)] w fun e w' => e = .returned (.bool (decide (t + 1 = L.tm L.N))) ∧ Run L base X len p E q0 c0 (t + 1) w' ∧ Mut (p :: X.all) w w' := by
  have ho := he.ok
  have hk := ho.cases
  have hall := all_lt ho
  have hlen := he.len
  have hn0 := he.n0
  have hn1 := he.n1
  have hsr := he.src
  have hNn := ho.N
  have hn0' := ho.n0
  have hn := ho.n
  have hun : q0 ≤ 500000 ∧ c0 ≤ 500000 ∧ t < L.tm L.N := ⟨hq0, hc0, hlt⟩
  have h1 := ho.one hi
  have hP := L.P_le i
  have htl := Pl.tm_lt (L := L) hi
  obtain ⟨cf, ce, cs, cp, cr', cm'⟩ := cm
  rw [← cf] at hsr
  have hW := ho.W i hi
  have hFx : F (8 * i + 4) = cw (L.W i) := by rw [hF, Pl.mem_sent ho hi rfl, if_neg (by omega)]
  cases hm : L.mv i
  · have hcost := Pl.cost_bl hbl hm
    have hne : decide (L.W i = E.sp d.fr + d.pa) = false := by
      apply decide_eq_false
      intro e
      have : L.mv i = true := by
        unfold Pl.mv
        rw [hbl, Bool.true_and]
        apply decide_eq_true
        rw [e, hsr.1, cp]
        omega
      rw [hm] at this
      cases this
    refine (al_4f w al (by omega) hst (8 * i + 4) (L.W i) (by omega) (by omega) (by omega) (by omega) (by omega) (by omega) hFx hW hne).mono ?_
    rintro e w' ⟨rfl, h2, m2⟩
    exact ⟨ans_no (by show (11 : Int) ≠ 13; omega) (by omega), ⟨_, _, _, _, _, ⟨h2, .inr (.inr (.inr (.inr (.inr (.inr (.inr (.inr (.inr (.inr (.inl ⟨i, hi, ⟨cf, ce, cs, cp, cr', cm'⟩, by omega, rfl, hF, hK, hct, hm⟩)))))))))), by show d.sp + 1 = t + 1; omega, by omega, by have := hc; omega, bk⟩⟩, m2⟩
  · have hcost := Pl.cost_mv hm
    have hne : decide (L.W i = E.sp d.fr + d.pa) = true := by
      apply decide_eq_true
      rw [Pl.mv_W hm, hsr.1, cp]
      omega
    refine (al_4t w al (by omega) hst (8 * i + 4) (L.W i) (by omega) (by omega) (by omega) (by omega) (by omega) (by omega) hFx hW hne).mono ?_
    rintro e w' ⟨rfl, h2, m2⟩
    exact ⟨ans_no (by show d.st + 1 ≠ 13; omega) (by omega), ⟨_, _, _, _, _, ⟨h2, .inr (.inr (.inr (.inr (.inl ⟨i, hi, ⟨cf, ce, cs, cp, cr', cm'⟩, hsl, by omega, by show d.st + 1 = 5; omega, hF, hK, hh, hct, hm⟩)))), by show d.sp + 1 = t + 1; omega, by omega, by have := hc; omega, bk⟩⟩, m2⟩

set_option maxHeartbeats 1000000 in
theorem run_5 (he : Env L E len) (w : World) (al : Al base X w len q F S K p E d) (hsp : d.sp = t) (hq : q ≤ q0 + t) (hc : S.c ≤ c0 + t) (bk : ∀ i : Nat, i < L.N → blackB S (i : Int) true = L.bl i) (hq0 : q0 ≤ 500000) (hc0 : c0 ≤ 500000) (hlt : t < L.tm L.N)
    (i : Nat) (hi : i < L.N) (cm : Cm L d i) (hsl : d.sl = 0) (ht : t = L.tm i + 4) (hst : d.st = 5) (hF : F = L.mem i (L.P i)) (hK : K = L.Ks i) (hh : d.hd = (i : Int)) (hct : d.ct = (L.z i : Int)) (hm : L.mv i = true) :
    Calls Try.prog 19 #[.pointer (some ⟨p, 0, none⟩), .pointer (some ⟨X.M, 0, none⟩), .pointer (some ⟨X.sb, 0, none⟩), .pointer (some ⟨X.kb, 0, none⟩)] w fun e w' => e = .returned (.bool (decide (t + 1 = L.tm L.N))) ∧ Run L base X len p E q0 c0 (t + 1) w' ∧ Mut (p :: X.all) w w' := by
  have ho := he.ok
  have hk := ho.cases
  have hall := all_lt ho
  have hlen := he.len
  have hn0 := he.n0
  have hn1 := he.n1
  have hsr := he.src
  have hNn := ho.N
  have hn0' := ho.n0
  have hn := ho.n
  have hun : q0 ≤ 500000 ∧ c0 ≤ 500000 ∧ t < L.tm L.N := ⟨hq0, hc0, hlt⟩
  have h1 := ho.one hi
  have hP := L.P_le i
  have htl := Pl.tm_lt (L := L) hi
  obtain ⟨cf, ce, cs, cp, cr', cm'⟩ := cm
  rw [← cf] at hsr
  have hcost := Pl.cost_mv hm
  have e1 : skips K (2 + d.ct) = true := by rw [hK, hct]; exact ho.kskips hi
  have e2 : copyA K (2 + d.ct) = (L.P i : Int) := by rw [hK, hct]; exact ho.kcopyA hi
  have e3 : copyS K (2 + d.ct) = L.Ks (i + 1) := by rw [hK, hct]; exact ho.kcopyS hi hm
  refine (al_5 w al (by omega) hst (by omega) e1).mono ?_
  rintro e w' ⟨rfl, h2, m2⟩
  exact ⟨ans_no (by show d.st + 1 ≠ 13; omega) (by omega), ⟨_, _, _, _, _, ⟨h2, .inr (.inr (.inr (.inr (.inr (.inl ⟨i, hi, ⟨cf, ce, cs, cp, cr', cm'⟩, hsl, by omega, by show d.st + 1 = 6; omega, hF, e3, hh, hct, hm, e2⟩))))), by show d.sp + 1 = t + 1; omega, by omega, by have := hc; omega, bk⟩⟩, m2⟩

set_option maxHeartbeats 1000000 in
theorem run_6 (he : Env L E len) (w : World) (al : Al base X w len q F S K p E d) (hsp : d.sp = t) (hq : q ≤ q0 + t) (hc : S.c ≤ c0 + t) (bk : ∀ i : Nat, i < L.N → blackB S (i : Int) true = L.bl i) (hq0 : q0 ≤ 500000) (hc0 : c0 ≤ 500000) (hlt : t < L.tm L.N)
    (i : Nat) (hi : i < L.N) (cm : Cm L d i) (hsl : d.sl = 0) (ht : t = L.tm i + 5) (hst : d.st = 6) (hF : F = L.mem i (L.P i + 0)) (hK : K = L.Ks (i + 1)) (hh : d.hd = (i : Int)) (hct : d.ct = (L.z i : Int)) (hm : L.mv i = true) (hpt : d.pt = (L.P i : Int)) :
    Calls Try.prog 19 #[.pointer (some ⟨p, 0, none⟩), .pointer (some ⟨X.M, 0, none⟩), .pointer (some ⟨X.sb, 0, none⟩), .pointer (some ⟨X.kb, 0, none⟩)] w fun e w' => e = .returned (.bool (decide (t + 1 = L.tm L.N))) ∧ Run L base X len p E q0 c0 (t + 1) w' ∧ Mut (p :: X.all) w w' := by
  have ho := he.ok
  have hk := ho.cases
  have hall := all_lt ho
  have hlen := he.len
  have hn0 := he.n0
  have hn1 := he.n1
  have hsr := he.src
  have hNn := ho.N
  have hn0' := ho.n0
  have hn := ho.n
  have hun : q0 ≤ 500000 ∧ c0 ≤ 500000 ∧ t < L.tm L.N := ⟨hq0, hc0, hlt⟩
  have h1 := ho.one hi
  have hP := L.P_le i
  have htl := Pl.tm_lt (L := L) hi
  obtain ⟨cf, ce, cs, cp, cr', cm'⟩ := cm
  rw [← cf] at hsr
  have hcost := Pl.cost_mv hm
  have hP2 : L.P i + (L.z i + 2) ≤ L.n := by omega
  refine (al_6 w al (by omega) hst (by omega) (by omega) (by omega) (by omega) (L.dst + (L.P i + 0)) (by rw [hsr.2]; omega) (by omega) (by omega) (G := L.mem i (L.P i + (0 + 1))) (fun j _ => by rw [hF, ← Pl.mem_copy ho hi hm (c := 0) (by omega) rfl j, hh, (show L.G (L.A i + 0) = cr i from ho.g0 i hi)])).mono ?_
  rintro e w' ⟨rfl, h2, m2⟩
  exact ⟨ans_no (by show d.st + 1 ≠ 13; omega) (by omega), ⟨_, _, _, _, _, ⟨h2, .inr (.inr (.inr (.inr (.inr (.inr (.inl ⟨i, hi, ⟨cf, ce, cs, cp, cr', cm'⟩, hsl, by omega, by show d.st + 1 = 7; omega, rfl, hK, hh, hct, hm, hpt⟩)))))), by show d.sp + 1 = t + 1; omega, by omega, by have := hc; omega, bk⟩⟩, m2⟩

set_option maxHeartbeats 1000000 in
theorem run_7 (he : Env L E len) (w : World) (al : Al base X w len q F S K p E d) (hsp : d.sp = t) (hq : q ≤ q0 + t) (hc : S.c ≤ c0 + t) (bk : ∀ i : Nat, i < L.N → blackB S (i : Int) true = L.bl i) (hq0 : q0 ≤ 500000) (hc0 : c0 ≤ 500000) (hlt : t < L.tm L.N)
    (i : Nat) (hi : i < L.N) (cm : Cm L d i) (hsl : d.sl = 0) (ht : t = L.tm i + 6) (hst : d.st = 7) (hF : F = L.mem i (L.P i + 1)) (hK : K = L.Ks (i + 1)) (hh : d.hd = (i : Int)) (hct : d.ct = (L.z i : Int)) (hm : L.mv i = true) (hpt : d.pt = (L.P i : Int)) :
    Calls Try.prog 19 #[.pointer (some ⟨p, 0, none⟩), .pointer (some ⟨X.M, 0, none⟩), .pointer (some ⟨X.sb, 0, none⟩), .pointer (some ⟨X.kb, 0, none⟩)] w fun e w' => e = .returned (.bool (decide (t + 1 = L.tm L.N))) ∧ Run L base X len p E q0 c0 (t + 1) w' ∧ Mut (p :: X.all) w w' := by
  have ho := he.ok
  have hk := ho.cases
  have hall := all_lt ho
  have hlen := he.len
  have hn0 := he.n0
  have hn1 := he.n1
  have hsr := he.src
  have hNn := ho.N
  have hn0' := ho.n0
  have hn := ho.n
  have hun : q0 ≤ 500000 ∧ c0 ≤ 500000 ∧ t < L.tm L.N := ⟨hq0, hc0, hlt⟩
  have h1 := ho.one hi
  have hP := L.P_le i
  have htl := Pl.tm_lt (L := L) hi
  obtain ⟨cf, ce, cs, cp, cr', cm'⟩ := cm
  rw [← cf] at hsr
  have hcost := Pl.cost_mv hm
  have hP2 : L.P i + (L.z i + 2) ≤ L.n := by omega
  by_cases hz : L.z i = 0
  · refine (al_7e w al (by omega) hst (by omega) (by omega) (by omega) (by omega) (by omega) (L.dst + (L.P i + 1)) (by rw [hsr.2]; omega) (by omega) (by omega) (G := L.mem i (L.P i + (1 + 1))) (fun j _ => by rw [hF, ← Pl.mem_copy ho hi hm (c := 1) (by omega) rfl j, hct, ho.g1 i hi])).mono ?_
    rintro e w' ⟨rfl, h2, m2⟩
    exact ⟨ans_no (by show (10 : Int) ≠ 13; omega) (by omega), ⟨_, _, _, _, _, ⟨h2, .inr (.inr (.inr (.inr (.inr (.inr (.inr (.inr (.inr (.inl ⟨i, hi, ⟨cf, ce, cs, cp, cr', cm'⟩, by omega, rfl, by rw [hz], hK, hh, hct, hm, hpt⟩))))))))), by show d.sp + 1 = t + 1; omega, by omega, by have := hc; omega, bk⟩⟩, m2⟩
  · refine (al_7n w al (by omega) hst (by omega) (by omega) (by omega) (by omega) (by omega) (L.dst + (L.P i + 1)) (by rw [hsr.2]; omega) (by omega) (by omega) (G := L.mem i (L.P i + (1 + 1))) (fun j _ => by rw [hF, ← Pl.mem_copy ho hi hm (c := 1) (by omega) rfl j, hct, ho.g1 i hi])).mono ?_
    rintro e w' ⟨rfl, h2, m2⟩
    exact ⟨ans_no (by show (8 : Int) ≠ 13; omega) (by omega), ⟨_, _, _, _, _, ⟨h2, .inr (.inr (.inr (.inr (.inr (.inr (.inr (.inl ⟨i, 0, hi, ⟨cf, ce, cs, cp, cr', cm'⟩, hsl, by omega, rfl, rfl, hK, hh, hct, hm, hpt, by omega⟩))))))), by show d.sp + 1 = t + 1; omega, by omega, by have := hc; omega, bk⟩⟩, m2⟩

set_option maxHeartbeats 1000000 in
theorem run_8 (he : Env L E len) (w : World) (al : Al base X w len q F S K p E d) (hsp : d.sp = t) (hq : q ≤ q0 + t) (hc : S.c ≤ c0 + t) (bk : ∀ i : Nat, i < L.N → blackB S (i : Int) true = L.bl i) (hq0 : q0 ≤ 500000) (hc0 : c0 ≤ 500000) (hlt : t < L.tm L.N)
    (i s : Nat) (hi : i < L.N) (cm : Cm L d i) (hsl : d.sl = (s : Int)) (ht : t = L.tm i + 7 + 2 * s) (hst : d.st = 8) (hF : F = L.mem i (L.P i + (2 + s))) (hK : K = L.Ks (i + 1)) (hh : d.hd = (i : Int)) (hct : d.ct = (L.z i : Int)) (hm : L.mv i = true) (hpt : d.pt = (L.P i : Int)) (hs : s < L.z i) :
    Calls Try.prog 19 #[.pointer (some ⟨p, 0, none⟩), .pointer (some ⟨X.M, 0, none⟩), .pointer (some ⟨X.sb, 0, none⟩), .pointer (some ⟨X.kb, 0, none⟩)] w fun e w' => e = .returned (.bool (decide (t + 1 = L.tm L.N))) ∧ Run L base X len p E q0 c0 (t + 1) w' ∧ Mut (p :: X.all) w w' := by
  have ho := he.ok
  have hk := ho.cases
  have hall := all_lt ho
  have hlen := he.len
  have hn0 := he.n0
  have hn1 := he.n1
  have hsr := he.src
  have hNn := ho.N
  have hn0' := ho.n0
  have hn := ho.n
  have hun : q0 ≤ 500000 ∧ c0 ≤ 500000 ∧ t < L.tm L.N := ⟨hq0, hc0, hlt⟩
  have h1 := ho.one hi
  have hP := L.P_le i
  have htl := Pl.tm_lt (L := L) hi
  obtain ⟨cf, ce, cs, cp, cr', cm'⟩ := cm
  rw [← cf] at hsr
  have hcost := Pl.cost_mv hm
  have hP2 : L.P i + (L.z i + 2) ≤ L.n := by omega
  refine (al_8 w al (by omega) hst (L.src + (L.A i + (2 + s))) (by omega) (by omega) (by omega) (by omega) (by omega) (by omega) (by rw [hsr.1]; omega)).mono ?_
  rintro e w' ⟨rfl, h2, m2⟩
  exact ⟨ans_no (by show d.st + 1 ≠ 13; omega) (by omega), ⟨_, _, _, _, _, ⟨h2, .inr (.inr (.inr (.inr (.inr (.inr (.inr (.inr (.inl ⟨i, s, hi, ⟨cf, ce, cs, cp, cr', cm'⟩, hsl, by omega, by show d.st + 1 = 9; omega, hF, hK, hh, hct, hm, hpt, hs, by show F _ = _; rw [hF, Pl.mem_src ho (x := L.A i + (2 + s)) (by omega) rfl]⟩)))))))), by show d.sp + 1 = t + 1; omega, by omega, by have := hc; omega, bk⟩⟩, m2⟩

set_option maxHeartbeats 1000000 in
theorem run_9 (he : Env L E len) (w : World) (al : Al base X w len q F S K p E d) (hsp : d.sp = t) (hq : q ≤ q0 + t) (hc : S.c ≤ c0 + t) (bk : ∀ i : Nat, i < L.N → blackB S (i : Int) true = L.bl i) (hq0 : q0 ≤ 500000) (hc0 : c0 ≤ 500000) (hlt : t < L.tm L.N)
    (i s : Nat) (hi : i < L.N) (cm : Cm L d i) (hsl : d.sl = (s : Int)) (ht : t = L.tm i + 8 + 2 * s) (hst : d.st = 9) (hF : F = L.mem i (L.P i + (2 + s))) (hK : K = L.Ks (i + 1)) (hh : d.hd = (i : Int)) (hct : d.ct = (L.z i : Int)) (hm : L.mv i = true) (hpt : d.pt = (L.P i : Int)) (hs : s < L.z i) (hwo : d.wo = L.G (L.A i + (2 + s))) :
    Calls Try.prog 19 #[.pointer (some ⟨p, 0, none⟩), .pointer (some ⟨X.M, 0, none⟩), .pointer (some ⟨X.sb, 0, none⟩), .pointer (some ⟨X.kb, 0, none⟩)] w fun e w' => e = .returned (.bool (decide (t + 1 = L.tm L.N))) ∧ Run L base X len p E q0 c0 (t + 1) w' ∧ Mut (p :: X.all) w w' := by
  have ho := he.ok
  have hk := ho.cases
  have hall := all_lt ho
  have hlen := he.len
  have hn0 := he.n0
  have hn1 := he.n1
  have hsr := he.src
  have hNn := ho.N
  have hn0' := ho.n0
  have hn := ho.n
  have hun : q0 ≤ 500000 ∧ c0 ≤ 500000 ∧ t < L.tm L.N := ⟨hq0, hc0, hlt⟩
  have h1 := ho.one hi
  have hP := L.P_le i
  have htl := Pl.tm_lt (L := L) hi
  obtain ⟨cf, ce, cs, cp, cr', cm'⟩ := cm
  rw [← cf] at hsr
  have hcost := Pl.cost_mv hm
  have hP2 : L.P i + (L.z i + 2) ≤ L.n := by omega
  by_cases hz : s + 1 = L.z i
  · refine (al_9e w al (by omega) hst (by omega) (by omega) (by omega) (by omega) (L.dst + (L.P i + (2 + s))) (by rw [hsr.2]; omega) (by omega) (by omega) (G := L.mem i (L.P i + (2 + s + 1))) (fun j _ => by rw [hF, ← Pl.mem_copy ho hi hm (c := 2 + s) (by omega) rfl j, hwo])).mono ?_
    rintro e w' ⟨rfl, h2, m2⟩
    exact ⟨ans_no (by show (10 : Int) ≠ 13; omega) (by omega), ⟨_, _, _, _, _, ⟨h2, .inr (.inr (.inr (.inr (.inr (.inr (.inr (.inr (.inr (.inl ⟨i, hi, ⟨cf, ce, cs, cp, cr', cm'⟩, by omega, rfl, by rw [← hz]; congr 2; omega, hK, hh, hct, hm, hpt⟩))))))))), by show d.sp + 1 = t + 1; omega, by omega, by have := hc; omega, bk⟩⟩, m2⟩
  · refine (al_9n w al (by omega) hst (by omega) (by omega) (by omega) (by omega) (L.dst + (L.P i + (2 + s))) (by rw [hsr.2]; omega) (by omega) (by omega) (G := L.mem i (L.P i + (2 + s + 1))) (fun j _ => by rw [hF, ← Pl.mem_copy ho hi hm (c := 2 + s) (by omega) rfl j, hwo])).mono ?_
    rintro e w' ⟨rfl, h2, m2⟩
    exact ⟨ans_no (by show (8 : Int) ≠ 13; omega) (by omega), ⟨_, _, _, _, _, ⟨h2, .inr (.inr (.inr (.inr (.inr (.inr (.inr (.inl ⟨i, s + 1, hi, ⟨cf, ce, cs, cp, cr', cm'⟩, by show d.sl + 1 = _; omega, by omega, rfl, by congr 1, hK, hh, hct, hm, hpt, by omega⟩))))))), by show d.sp + 1 = t + 1; omega, by omega, by have := hc; omega, bk⟩⟩, m2⟩

set_option maxHeartbeats 1000000 in
theorem run_10 (he : Env L E len) (w : World) (al : Al base X w len q F S K p E d) (hsp : d.sp = t) (hq : q ≤ q0 + t) (hc : S.c ≤ c0 + t) (bk : ∀ i : Nat, i < L.N → blackB S (i : Int) true = L.bl i) (hq0 : q0 ≤ 500000) (hc0 : c0 ≤ 500000) (hlt : t < L.tm L.N)
    (i : Nat) (hi : i < L.N) (cm : Cm L d i) (ht : t = L.tm i + 7 + 2 * L.z i) (hst : d.st = 10) (hF : F = L.mem i (L.P i + (L.z i + 2))) (hK : K = L.Ks (i + 1)) (hh : d.hd = (i : Int)) (hct : d.ct = (L.z i : Int)) (hm : L.mv i = true) (hpt : d.pt = (L.P i : Int)) :
    Calls Try.prog 19 #[.pointer (some ⟨p, 0, none⟩), .pointer (some ⟨X.M, 0, none⟩), .pointer (some ⟨X.sb, 0, none⟩), .pointer (some ⟨X.kb, 0, none⟩)] w fun e w' => e = .returned (.bool (decide (t + 1 = L.tm L.N))) ∧ Run L base X len p E q0 c0 (t + 1) w' ∧ Mut (p :: X.all) w w' := by
  have ho := he.ok
  have hk := ho.cases
  have hall := all_lt ho
  have hlen := he.len
  have hn0 := he.n0
  have hn1 := he.n1
  have hsr := he.src
  have hNn := ho.N
  have hn0' := ho.n0
  have hn := ho.n
  have hun : q0 ≤ 500000 ∧ c0 ≤ 500000 ∧ t < L.tm L.N := ⟨hq0, hc0, hlt⟩
  have h1 := ho.one hi
  have hP := L.P_le i
  have htl := Pl.tm_lt (L := L) hi
  obtain ⟨cf, ce, cs, cp, cr', cm'⟩ := cm
  rw [← cf] at hsr
  have hcost := Pl.cost_mv hm
  have hP2 : L.P i + (L.z i + 2) ≤ L.n := by omega
  have hla := ho.last hi
  have htm : L.tm (i + 1) = L.tm i + L.cost i := rfl
  have hmc := L.mc_le i
  by_cases hz : i + 1 = L.N
  · have hz2 := hla.2 hz
    have htN : L.tm (i + 1) = L.tm L.N := by rw [hz]
    refine (al_10e w al (by omega) hst (by omega) (by omega) (by omega) (by omega) (by omega) (by omega) (by omega) (8 * i + 4) (by omega) (by omega) (by omega) (G := L.mem (i + 1) (L.P (i + 1))) (fun j _ => by rw [hF, ← Pl.mem_turn ho hi hm rfl j, hsr.2, hpt, Int.natCast_add])).mono ?_
    rintro e w' ⟨rfl, h2, m2⟩
    exact ⟨ans_yes (by omega), ⟨_, _, _, _, _, ⟨h2, .inr (.inr (.inr (.inr (.inr (.inr (.inr (.inr (.inr (.inr (.inr (⟨(by rw [← hz]; exact ⟨cf, ce, cs, by show d.pa + (2 + d.ct) = _; rw [cp, hct]; simp only [Pl.A]; omega, cr', by show d.mo + 1 = _; rw [cm']; simp only [Pl.mc, hm, if_true]; omega⟩), by omega, rfl, by rw [← hz], by rw [← hz]; exact hK⟩))))))))))), by show d.sp + 1 = t + 1; omega, by omega, by have := hc; omega, bk⟩⟩, m2⟩
  · have hz2 : ¬ (L.A i + (L.z i + 2) = L.n) := fun q => hz (hla.1 q)
    have htN : L.tm (i + 1) + L.cost (i + 1) ≤ L.tm L.N := Pl.tm_lt (L := L) (by omega)
    have hco := L.cost_lo (i + 1)
    refine (al_10n w al (by omega) hst (by omega) (by omega) (by omega) (by omega) (by omega) (by omega) (by omega) (8 * i + 4) (by omega) (by omega) (by omega) (G := L.mem (i + 1) (L.P (i + 1))) (fun j _ => by rw [hF, ← Pl.mem_turn ho hi hm rfl j, hsr.2, hpt, Int.natCast_add])).mono ?_
    rintro e w' ⟨rfl, h2, m2⟩
    exact ⟨ans_no (by show (1 : Int) ≠ 13; omega) (by omega), ⟨_, _, _, _, _, ⟨h2, .inl ⟨i + 1, by omega, ⟨cf, ce, cs, by show d.pa + (2 + d.ct) = _; rw [cp, hct]; simp only [Pl.A]; omega, cr', by show d.mo + 1 = _; rw [cm']; simp only [Pl.mc, hm, if_true]; omega⟩, rfl, by omega, rfl, rfl, hK⟩, by show d.sp + 1 = t + 1; omega, by omega, by have := hc; omega, bk⟩⟩, m2⟩

set_option maxHeartbeats 1000000 in
theorem run_11 (he : Env L E len) (w : World) (al : Al base X w len q F S K p E d) (hsp : d.sp = t) (hq : q ≤ q0 + t) (hc : S.c ≤ c0 + t) (bk : ∀ i : Nat, i < L.N → blackB S (i : Int) true = L.bl i) (hq0 : q0 ≤ 500000) (hc0 : c0 ≤ 500000) (hlt : t < L.tm L.N)
    (i : Nat) (hi : i < L.N) (cm : Cm L d i) (ht : t + 1 = L.tm i + L.cost i) (hst : d.st = 11) (hF : F = L.mem i (L.P i)) (hK : K = L.Ks i) (hct : d.ct = (L.z i : Int)) (hm : L.mv i = false) :
    Calls Try.prog 19 #[.pointer (some ⟨p, 0, none⟩), .pointer (some ⟨X.M, 0, none⟩), .pointer (some ⟨X.sb, 0, none⟩), .pointer (some ⟨X.kb, 0, none⟩)] w fun e w' => e = .returned (.bool (decide (t + 1 = L.tm L.N))) ∧ Run L base X len p E q0 c0 (t + 1) w' ∧ Mut (p :: X.all) w w' := by
  have ho := he.ok
  have hk := ho.cases
  have hall := all_lt ho
  have hlen := he.len
  have hn0 := he.n0
  have hn1 := he.n1
  have hsr := he.src
  have hNn := ho.N
  have hn0' := ho.n0
  have hn := ho.n
  have hun : q0 ≤ 500000 ∧ c0 ≤ 500000 ∧ t < L.tm L.N := ⟨hq0, hc0, hlt⟩
  have h1 := ho.one hi
  have hP := L.P_le i
  have htl := Pl.tm_lt (L := L) hi
  obtain ⟨cf, ce, cs, cp, cr', cm'⟩ := cm
  rw [← cf] at hsr
  have hla := ho.last hi
  have htm : L.tm (i + 1) = L.tm i + L.cost i := rfl
  have hmc := L.mc_le i
  by_cases hz : i + 1 = L.N
  · have hz2 := hla.2 hz
    have htN : L.tm (i + 1) = L.tm L.N := by rw [hz]
    refine (al_11e w al (by omega) hst (by omega) (by omega) (by omega) (by rw [hK, hct]; exact ho.kskips hi)).mono ?_
    rintro e w' ⟨rfl, h2, m2⟩
    exact ⟨ans_yes (by omega), ⟨_, _, _, _, _, ⟨h2, .inr (.inr (.inr (.inr (.inr (.inr (.inr (.inr (.inr (.inr (.inr (⟨(by rw [← hz]; exact ⟨cf, ce, cs, by show d.pa + (2 + d.ct) = _; rw [cp, hct]; simp only [Pl.A]; omega, cr', by show d.mo = _; rw [cm']; simp [Pl.mc, hm]⟩), by omega, rfl, by rw [← hz]; exact hF.trans (Pl.mem_skip hm), by rw [← hz]; exact (by rw [hK, hct]; exact ho.kskipS hi hm)⟩))))))))))), by show d.sp + 1 = t + 1; omega, by omega, by have := hc; omega, bk⟩⟩, m2⟩
  · have hz2 : ¬ (L.A i + (L.z i + 2) = L.n) := fun q => hz (hla.1 q)
    have htN : L.tm (i + 1) + L.cost (i + 1) ≤ L.tm L.N := Pl.tm_lt (L := L) (by omega)
    have hco := L.cost_lo (i + 1)
    refine (al_11n w al (by omega) hst (by omega) (by omega) (by omega) (by rw [hK, hct]; exact ho.kskips hi)).mono ?_
    rintro e w' ⟨rfl, h2, m2⟩
    exact ⟨ans_no (by show (1 : Int) ≠ 13; omega) (by omega), ⟨_, _, _, _, _, ⟨h2, .inl ⟨i + 1, by omega, ⟨cf, ce, cs, by show d.pa + (2 + d.ct) = _; rw [cp, hct]; simp only [Pl.A]; omega, cr', by show d.mo = _; rw [cm']; simp [Pl.mc, hm]⟩, rfl, by omega, rfl, by exact hF.trans (Pl.mem_skip hm), (by rw [hK, hct]; exact ho.kskipS hi hm)⟩, by show d.sp + 1 = t + 1; omega, by omega, by have := hc; omega, bk⟩⟩, m2⟩

/-- One step more. -/
theorem run_step (he : Env L E len) (w : World) (h : Run L base X len p E q0 c0 t w) (hlt : t < L.tm L.N) (hq0 : q0 ≤ 500000) (hc0 : c0 ≤ 500000) :
    Calls Try.prog 19 #[.pointer (some ⟨p, 0, none⟩), .pointer (some ⟨X.M, 0, none⟩), .pointer (some ⟨X.sb, 0, none⟩), .pointer (some ⟨X.kb, 0, none⟩)] w fun e w' => e = .returned (.bool (decide (t + 1 = L.tm L.N))) ∧ Run L base X len p E q0 c0 (t + 1) w' ∧ Mut (p :: X.all) w w' := by
  obtain ⟨d, S, K, q, F, al, hph, hsp, hq, hc, bk⟩ := h
  rcases hph with ⟨i, a1, a2, a3, a4, a5, a6, a7⟩ | ⟨i, a1, a2, a3, a4, a5, a6, a7, a8⟩ | ⟨i, a1, a2, a3, a4, a5, a6, a7, a8, a9⟩ | ⟨i, a1, a2, a3, a4, a5, a6, a7, a8, a9, a10⟩ | ⟨i, a1, a2, a3, a4, a5, a6, a7, a8, a9, a10⟩ | ⟨i, a1, a2, a3, a4, a5, a6, a7, a8, a9, a10, a11⟩ | ⟨i, a1, a2, a3, a4, a5, a6, a7, a8, a9, a10, a11⟩ | ⟨i, s, a1, a2, a3, a4, a5, a6, a7, a8, a9, a10, a11, a12⟩ | ⟨i, s, a1, a2, a3, a4, a5, a6, a7, a8, a9, a10, a11, a12, a13⟩ | ⟨i, a1, a2, a4, a5, a6, a7, a8, a9, a10, a11⟩ | ⟨i, a1, a2, a4, a5, a6, a7, a8, a9⟩ | ⟨a1, a2, _⟩
  · exact run_1 he w al hsp hq hc bk hq0 hc0 hlt i a1 a2 a3 a4 a5 a6 a7
  · exact run_2 he w al hsp hq hc bk hq0 hc0 hlt i a1 a2 a3 a4 a5 a6 a7 a8
  · exact run_3 he w al hsp hq hc bk hq0 hc0 hlt i a1 a2 a3 a4 a5 a6 a7 a8 a9
  · exact run_4 he w al hsp hq hc bk hq0 hc0 hlt i a1 a2 a3 a4 a5 a6 a7 a8 a9 a10
  · exact run_5 he w al hsp hq hc bk hq0 hc0 hlt i a1 a2 a3 a4 a5 a6 a7 a8 a9 a10
  · exact run_6 he w al hsp hq hc bk hq0 hc0 hlt i a1 a2 a3 a4 a5 a6 a7 a8 a9 a10 a11
  · exact run_7 he w al hsp hq hc bk hq0 hc0 hlt i a1 a2 a3 a4 a5 a6 a7 a8 a9 a10 a11
  · exact run_8 he w al hsp hq hc bk hq0 hc0 hlt i s a1 a2 a3 a4 a5 a6 a7 a8 a9 a10 a11 a12
  · exact run_9 he w al hsp hq hc bk hq0 hc0 hlt i s a1 a2 a3 a4 a5 a6 a7 a8 a9 a10 a11 a12 a13
  · exact run_10 he w al hsp hq hc bk hq0 hc0 hlt i a1 a2 a4 a5 a6 a7 a8 a9 a10 a11
  · exact run_11 he w al hsp hq hc bk hq0 hc0 hlt i a1 a2 a4 a5 a6 a7 a8 a9
  · omega
end
end Go.Proofs.Ytgnikgkpbibmgaa
