/-
  A program of package haul: the steps that ask the shade, or the coil.
-/
import Derived.Test.YtgnikgkpbibmgaaHaH
namespace Go.Proofs.Ytgnikgkpbibmgaa
open Go.RowKit

section
variable {base n q p : Nat} {X : Bl} {F G : Nat → Cx} {S : ShS} {K : CS} {E : En} {d d' : Hd}

theorem al_3t (u : World) (h : Al base X u n q F S K p E d) (hsp : d.sp ≤ 1000000) (hst : d.st = 3) (hc : S.c < lots) (hb : blackB S d.hd d.sen = true) :
    Calls Try.prog 19 #[.pointer (some ⟨p, 0, none⟩), .pointer (some ⟨X.M, 0, none⟩), .pointer (some ⟨X.sb, 0, none⟩), .pointer (some ⟨X.kb, 0, none⟩)] u fun e w' => e = .returned (.bool (({ d with sp := d.sp + 1, wa := true, st := d.st + 1 } : Hd).st == 13)) ∧ Aft base X n (q) F S.tick (K) p E { d with sp := d.sp + 1, wa := true, st := d.st + 1 } u w' := by
  refine (hstep_any _ u h.hs (st_lt (by omega)) hsp (d' := { d with sp := d.sp + 1, wa := true, st := d.st + 1 }) (C := fun w' => ∃ w1, (ShC w1 base X.sb X.tb X.g X.pb X.v S.tick ∧ Mut (p :: X.sh) u w1) ∧ Mut [p] w1 w') ?_ rfl).mono ?_
  · intro v hv mv
    have hl : ∀ k, k ∈ X.sh → k < p := fun k hk => h.lt k (by simp only [Bl.all, List.mem_cons]; exact .inr (.inr (.inr hk)))
    have sc : ShC v base X.sb X.tb X.g X.pb X.v S := h.mx.sh.muts mv (fun k hk => by have := hl k hk; simp; omega)
    refine (hgo_want v (d := { d with sp := d.sp + 1, wa := true }) (C := fun w1 => ShC w1 base X.sb X.tb X.g X.pb X.v S.tick ∧ Mut (p :: X.sh) v w1) ((hacc_black v hv hst sc hc hl).mono fun _ _ ⟨r1, r2, r3, r4⟩ => ⟨r1, by simp only [hb] at r2; exact r2, r3, r4⟩) (.inl hst) rfl).mono ?_
    rintro e w' ⟨rfl, w1, hr, h2, m2⟩
    exact ⟨rfl, h2, w1, ⟨hr.1, (mv.wide (by simp)).trans hr.2⟩, m2⟩
  · rintro e w' ⟨rfl, h2, w1, ⟨hm, hu⟩, m2⟩
    have m1 : Mut (p :: X.all) u w1 := hu.wide (by intro k hk; simp only [Bl.all, List.mem_cons] at *; rcases hk with r | r <;> simp [r])
    have a1 : Mk base X w1 n q F S.tick K := h.mx.shd hu hm (fun k hk => by
      rcases List.mem_cons.1 hk with r | r
      · exact .inr (r ▸ h.np)
      · exact .inl r)
    exact ⟨rfl, ⟨a1.muts m2 (fun k hk => by have := h.lt k hk; simp; omega), h2, h.lt⟩, m1.trans (m2.wide (by simp))⟩

theorem al_3f (u : World) (h : Al base X u n q F S K p E d) (hsp : d.sp ≤ 1000000) (hst : d.st = 3) (hc : S.c < lots) (hb : blackB S d.hd d.sen = false) :
    Calls Try.prog 19 #[.pointer (some ⟨p, 0, none⟩), .pointer (some ⟨X.M, 0, none⟩), .pointer (some ⟨X.sb, 0, none⟩), .pointer (some ⟨X.kb, 0, none⟩)] u fun e w' => e = .returned (.bool (({ d with sp := d.sp + 1, wa := false, st := 11 } : Hd).st == 13)) ∧ Aft base X n (q) F S.tick (K) p E { d with sp := d.sp + 1, wa := false, st := 11 } u w' := by
  refine (hstep_any _ u h.hs (st_lt (by omega)) hsp (d' := { d with sp := d.sp + 1, wa := false, st := 11 }) (C := fun w' => ∃ w1, (ShC w1 base X.sb X.tb X.g X.pb X.v S.tick ∧ Mut (p :: X.sh) u w1) ∧ Mut [p] w1 w') ?_ rfl).mono ?_
  · intro v hv mv
    have hl : ∀ k, k ∈ X.sh → k < p := fun k hk => h.lt k (by simp only [Bl.all, List.mem_cons]; exact .inr (.inr (.inr hk)))
    have sc : ShC v base X.sb X.tb X.g X.pb X.v S := h.mx.sh.muts mv (fun k hk => by have := hl k hk; simp; omega)
    refine (hgo_skip v (d := { d with sp := d.sp + 1, wa := false }) (C := fun w1 => ShC w1 base X.sb X.tb X.g X.pb X.v S.tick ∧ Mut (p :: X.sh) v w1) ((hacc_black v hv hst sc hc hl).mono fun _ _ ⟨r1, r2, r3, r4⟩ => ⟨r1, by simp only [hb] at r2; exact r2, r3, r4⟩) (.inl hst) rfl).mono ?_
    rintro e w' ⟨rfl, w1, hr, h2, m2⟩
    exact ⟨rfl, h2, w1, ⟨hr.1, (mv.wide (by simp)).trans hr.2⟩, m2⟩
  · rintro e w' ⟨rfl, h2, w1, ⟨hm, hu⟩, m2⟩
    have m1 : Mut (p :: X.all) u w1 := hu.wide (by intro k hk; simp only [Bl.all, List.mem_cons] at *; rcases hk with r | r <;> simp [r])
    have a1 : Mk base X w1 n q F S.tick K := h.mx.shd hu hm (fun k hk => by
      rcases List.mem_cons.1 hk with r | r
      · exact .inr (r ▸ h.np)
      · exact .inl r)
    exact ⟨rfl, ⟨a1.muts m2 (fun k hk => by have := h.lt k hk; simp; omega), h2, h.lt⟩, m1.trans (m2.wide (by simp))⟩

theorem al_5 (u : World) (h : Al base X u n q F S K p E d) (hsp : d.sp ≤ 1000000) (hst : d.st = 5) (hc : 0 ≤ d.ct ∧ d.ct ≤ 3000) (hy : skips K (2 + d.ct) = true) :
    Calls Try.prog 19 #[.pointer (some ⟨p, 0, none⟩), .pointer (some ⟨X.M, 0, none⟩), .pointer (some ⟨X.sb, 0, none⟩), .pointer (some ⟨X.kb, 0, none⟩)] u fun e w' => e = .returned (.bool (({ d with sp := d.sp + 1, pt := copyA K (2 + d.ct), st := d.st + 1 } : Hd).st == 13)) ∧ Aft base X n (q) F S (copyS K (2 + d.ct)) p E { d with sp := d.sp + 1, pt := copyA K (2 + d.ct), st := d.st + 1 } u w' := by
  refine (hstep_any _ u h.hs (st_lt (by omega)) hsp (d' := { d with sp := d.sp + 1, pt := copyA K (2 + d.ct), st := d.st + 1 }) (C := fun w' => ∃ w1, (CTab 73 w1 X.kb (copyS K (2 + d.ct)) ∧ Mut [p, X.kb] u w1) ∧ Mut [p] w1 w') ?_ rfl).mono ?_
  · intro v hv mv
    have hk := h.lt X.kb (by simp [Bl.all])
    have sc : CTab 73 v X.kb K := h.mx.ck.muts mv (by simp; omega)
    refine (hgo_next v (d := { d with sp := d.sp + 1, pt := copyA K (2 + d.ct) }) (C := fun w1 => CTab 73 w1 X.kb (copyS K (2 + d.ct)) ∧ Mut [p, X.kb] v w1) (hacc_copy v hv hst sc hk hc hy) (.inr (.inr (.inl hst)))).mono ?_
    rintro e w' ⟨rfl, w1, hr, h2, m2⟩
    exact ⟨rfl, h2, w1, ⟨hr.1, (mv.wide (by simp)).trans hr.2⟩, m2⟩
  · rintro e w' ⟨rfl, h2, w1, ⟨hm, hu⟩, m2⟩
    have m1 : Mut (p :: X.all) u w1 := hu.wide (by intro k hk; simp [Bl.all] at *; rcases hk with r | r <;> simp [r])
    have a1 : Mk base X w1 n q F S (copyS K (2 + d.ct)) := h.mx.coil hu hm (fun k hk => by
      simp at hk
      rcases hk with r | r
      · exact .inr (r ▸ h.np)
      · exact .inl r)
    exact ⟨rfl, ⟨a1.muts m2 (fun k hk => by have := h.lt k hk; simp; omega), h2, h.lt⟩, m1.trans (m2.wide (by simp))⟩

theorem al_11e (u : World) (h : Al base X u n q F S K p E d) (hsp : d.sp ≤ 1000000) (hst : d.st = 11) (hc : d.pa + (2 + d.ct) = d.en) (hp : 0 ≤ d.pa ∧ d.pa ≤ 3000) (hi : 0 ≤ d.ct ∧ d.ct ≤ 3000) (hy : skips K (2 + d.ct) = true) :
    Calls Try.prog 19 #[.pointer (some ⟨p, 0, none⟩), .pointer (some ⟨X.M, 0, none⟩), .pointer (some ⟨X.sb, 0, none⟩), .pointer (some ⟨X.kb, 0, none⟩)] u fun e w' => e = .returned (.bool (({ d with sp := d.sp + 1, pa := d.pa + (2 + d.ct), sl := 0, st := 13 } : Hd).st == 13)) ∧ Aft base X n (q) F S (skipS K (2 + d.ct)) p E { d with sp := d.sp + 1, pa := d.pa + (2 + d.ct), sl := 0, st := 13 } u w' := by
  refine (hstep_any _ u h.hs (st_lt (by omega)) hsp (d' := { d with sp := d.sp + 1, pa := d.pa + (2 + d.ct), sl := 0, st := 13 }) (C := fun w' => ∃ w1, (CTab 73 w1 X.kb (skipS K (2 + d.ct)) ∧ Mut [p, X.kb] u w1) ∧ Mut [p] w1 w') ?_ rfl).mono ?_
  · intro v hv mv
    have hk := h.lt X.kb (by simp [Bl.all])
    have sc : CTab 73 v X.kb K := h.mx.ck.muts mv (by simp; omega)
    refine (hgo_back_e v (d := { d with sp := d.sp + 1 }) (C := fun w1 => CTab 73 w1 X.kb (skipS K (2 + d.ct)) ∧ Mut [p, X.kb] v w1) (hacc_skip v hv hst sc hk hi hy) hst hc hp hi).mono ?_
    rintro e w' ⟨rfl, w1, hr, h2, m2⟩
    exact ⟨rfl, h2, w1, ⟨hr.1, (mv.wide (by simp)).trans hr.2⟩, m2⟩
  · rintro e w' ⟨rfl, h2, w1, ⟨hm, hu⟩, m2⟩
    have m1 : Mut (p :: X.all) u w1 := hu.wide (by intro k hk; simp [Bl.all] at *; rcases hk with r | r <;> simp [r])
    have a1 : Mk base X w1 n q F S (skipS K (2 + d.ct)) := h.mx.coil hu hm (fun k hk => by
      simp at hk
      rcases hk with r | r
      · exact .inr (r ▸ h.np)
      · exact .inl r)
    exact ⟨rfl, ⟨a1.muts m2 (fun k hk => by have := h.lt k hk; simp; omega), h2, h.lt⟩, m1.trans (m2.wide (by simp))⟩

theorem al_11n (u : World) (h : Al base X u n q F S K p E d) (hsp : d.sp ≤ 1000000) (hst : d.st = 11) (hc : d.pa + (2 + d.ct) ≠ d.en) (hp : 0 ≤ d.pa ∧ d.pa ≤ 3000) (hi : 0 ≤ d.ct ∧ d.ct ≤ 3000) (hy : skips K (2 + d.ct) = true) :
    Calls Try.prog 19 #[.pointer (some ⟨p, 0, none⟩), .pointer (some ⟨X.M, 0, none⟩), .pointer (some ⟨X.sb, 0, none⟩), .pointer (some ⟨X.kb, 0, none⟩)] u fun e w' => e = .returned (.bool (({ d with sp := d.sp + 1, pa := d.pa + (2 + d.ct), sl := 0, st := 1 } : Hd).st == 13)) ∧ Aft base X n (q) F S (skipS K (2 + d.ct)) p E { d with sp := d.sp + 1, pa := d.pa + (2 + d.ct), sl := 0, st := 1 } u w' := by
  refine (hstep_any _ u h.hs (st_lt (by omega)) hsp (d' := { d with sp := d.sp + 1, pa := d.pa + (2 + d.ct), sl := 0, st := 1 }) (C := fun w' => ∃ w1, (CTab 73 w1 X.kb (skipS K (2 + d.ct)) ∧ Mut [p, X.kb] u w1) ∧ Mut [p] w1 w') ?_ rfl).mono ?_
  · intro v hv mv
    have hk := h.lt X.kb (by simp [Bl.all])
    have sc : CTab 73 v X.kb K := h.mx.ck.muts mv (by simp; omega)
    refine (hgo_back_n v (d := { d with sp := d.sp + 1 }) (C := fun w1 => CTab 73 w1 X.kb (skipS K (2 + d.ct)) ∧ Mut [p, X.kb] v w1) (hacc_skip v hv hst sc hk hi hy) hst hc hp hi).mono ?_
    rintro e w' ⟨rfl, w1, hr, h2, m2⟩
    exact ⟨rfl, h2, w1, ⟨hr.1, (mv.wide (by simp)).trans hr.2⟩, m2⟩
  · rintro e w' ⟨rfl, h2, w1, ⟨hm, hu⟩, m2⟩
    have m1 : Mut (p :: X.all) u w1 := hu.wide (by intro k hk; simp [Bl.all] at *; rcases hk with r | r <;> simp [r])
    have a1 : Mk base X w1 n q F S (skipS K (2 + d.ct)) := h.mx.coil hu hm (fun k hk => by
      simp at hk
      rcases hk with r | r
      · exact .inr (r ▸ h.np)
      · exact .inl r)
    exact ⟨rfl, ⟨a1.muts m2 (fun k hk => by have := h.lt k hk; simp; omega), h2, h.lt⟩, m1.trans (m2.wide (by simp))⟩

theorem al_12 (u : World) (h : Al base X u n q F S K p E d) (hsp : d.sp ≤ 1000000) (hst : d.st = 12) (hc : d.pa = d.en) :
    Calls Try.prog 19 #[.pointer (some ⟨p, 0, none⟩), .pointer (some ⟨X.M, 0, none⟩), .pointer (some ⟨X.sb, 0, none⟩), .pointer (some ⟨X.kb, 0, none⟩)] u fun e w' => e = .returned (.bool (({ d with sp := d.sp + 1, st := 13 } : Hd).st == 13)) ∧ Aft base X n (q) F S (K) p E { d with sp := d.sp + 1, st := 13 } u w' := by
  refine (hstep_any _ u h.hs (st_lt (by omega)) hsp (d' := { d with sp := d.sp + 1, st := 13 }) (C := fun w' => ∃ w1, (Mut [p] u w1) ∧ Mut [p] w1 w') ?_ rfl).mono ?_
  · intro v hv mv
    refine (hgo_end v (d := { d with sp := d.sp + 1 }) (C := fun w1 => w1 = v) ((hacc_end v hv hst).mono fun _ _ ⟨r1, r2⟩ => ⟨r1, r2 ▸ hv, r2⟩) hst hc).mono ?_
    rintro e w' ⟨rfl, w1, rfl, h2, m2⟩
    exact ⟨rfl, h2, w1, mv, m2⟩
  · rintro e w' ⟨rfl, h2, w1, hu, m2⟩
    exact ⟨rfl, ⟨h.mx.muts (hu.trans m2) (fun k hk => by have := h.lt k hk; simp; omega), h2, h.lt⟩, (hu.trans m2).wide (by simp)⟩

end
end Go.Proofs.Ytgnikgkpbibmgaa
