/-
  Contracts of package haul: what is read, and what is made of it.
-/
import Derived.Test.YtgnikgkpbibmgaaHaC
import Derived.Test.YtgnikgkpbibmgaaPhase
namespace Go.Proofs.Ytgnikgkpbibmgaa
open Go.RowKit
attribute [local go_sem] run_store_complex

section
variable {p b M n q : Nat} {F : Nat → Cx} {E : En} {d : Hd}

/-- Behind the reading of a word: the program as it was, the memory asked once more. -/
structure Rd1 (w w' : World) (p b M n q : Nat) (F : Nat → Cx) (E : En) (d : Hd) : Prop where
  hs : HS w' p E d
  mm : Mm w' b M n F q
  mu : Mut [M, p] w w'
theorem Rd1.of {w w1 w2 : World} (h : HS w p E d) (K : Kept w w1) (m : Mm w2 b M n F (q + 1)) (u : Mut [M] w1 w2) (hM : M < p) : Rd1 w w2 p b M n (q + 1) F E d :=
  ⟨(h.kept K).muts u fun k hk hd => by
    have := h.lo hk
    simp at hd
    omega, m, K.mut.trans (u.wide (by simp))⟩
theorem Rd1.kept {w w1 w2 : World} (h : Rd1 w w1 p b M n q F E d) (K : Kept w1 w2) : Rd1 w w2 p b M n q F E d := ⟨h.hs.kept K, h.mm.kept K, h.mu.trans K.mut⟩
theorem Rd1.put {w w1 : World} {d' : Hd} (h : Rd1 w w1 p b M n q F E d) (hM : M < p) (hb : b < p) {i : Nat} {u : Value} (hi : (hdl E d)[i]? = some u) (v : Value) (he : (hdl E d).set i v = hdl E d') : Rd1 w (w1.setCell ⟨p, i, none⟩ v) p b M n q F E d' :=
  ⟨h.hs.put hi v he, h.mm.muts (D := [p]) ((Mut.refl _ _).setCell (by simp) v) (by simp; omega) (by simp; omega), h.mu.setCell (by simp) v⟩

set_option maxHeartbeats 2000000 in
theorem hread_1 (a : Nat) (i : Int) (w : World) (h : HS w p E d) (m : Mm w b M n F q) (hM : M < p) (hb : b < p) (ha : a < n) (hq : q ≤ 1000000) (hs : d.st = 1) (hl : 0 ≤ d.sl ∧ d.sl ≤ 3000) (hf : 0 ≤ d.fr ∧ d.fr < 2) (hp : 0 ≤ d.pa ∧ d.pa ≤ 3000) (hk : d.pa < E.n1) (hA : E.sp d.fr + (d.pa + 0) = (a : Int)) (hF : F a = cr i) (hi : 0 ≤ i ∧ i < E.n0) :
    Calls Try.prog 59 #[.pointer (some ⟨p, 0, none⟩), .pointer (some ⟨M, 0, none⟩)] w fun e w' => e = .returned (.bool true) ∧ Rd1 w w' p b M n (q + 1) F E { d with hd := i } := by
  have CA : Hid (Calls Try.prog 64 #[.pointer (some ⟨p, 0, none⟩)] w fun e w' => e = .returned (.tuple #[.int .i64 (a : Int), .bool true]) ∧ Kept w w') := by have := haddr_s (v := 0) w h (.inl hs) (.inl ⟨hs, rfl⟩) hl hf hp (by omega); rw [hA] at this; exact this
  have CR : Hid (∀ w1, Kept w w1 → Calls Try.prog 65 #[.pointer (some ⟨M, 0, none⟩), .int .i64 a] w1 _) := fun w1 K => mem_read a w1 (m.kept K) ha hq
  have HH : Hid (HS w p E d ∧ M < p ∧ b < p ∧ d.st = 1) := ⟨h, hM, hb, hs⟩
  have HF : Hid (F a = cr i ∧ 0 ≤ i ∧ i < E.n0) := ⟨hF, hi⟩
  clear hF hi hA
  clear h m hs
  go_enter Try.func59, Try.ntmps59
  go_wp2_with fail
  refine CA.out.mono ?_
  rintro e w1 ⟨rfl, K1⟩
  go_wp2_with fail
  refine (CR.out _ K1).mono ?_
  rintro e w2 ⟨rfl, m2, u2⟩
  have H2 : Hid (Rd1 w w2 p b M n (q + 1) F E d) := Rd1.of HH.out.1 K1 m2 u2 HH.out.2.1
  clear CA CR K1 m2 u2
  have cst : w2.cell? ⟨p, 19, none⟩ = some (.int .i64 1) := by rw [← HH.out.2.2.2]; exact H2.out.hs.b.at 19 rfl
  have fz := H2.out.hs.b.fz
  have c0 : w2.cell? ⟨p, 0, none⟩ = some (.int .i64 E.n0) := H2.out.hs.b.at 0 rfl
  have c1 : w2.cell? ⟨p, 1, none⟩ = some (.int .i64 E.n1) := H2.out.hs.b.at 1 rfl
  have c2 : w2.cell? ⟨p, 2, none⟩ = some (.int .i64 E.n2) := H2.out.hs.b.at 2 rfl
  have c3 : w2.cell? ⟨p, 3, none⟩ = some (.int .i64 E.n3) := H2.out.hs.b.at 3 rfl
  have c4 : w2.cell? ⟨p, 4, none⟩ = some (.int .i64 E.n4) := H2.out.hs.b.at 4 rfl
  have c5 : w2.cell? ⟨p, 5, none⟩ = some (.int .i64 E.n5) := H2.out.hs.b.at 5 rfl
  have c6 : w2.cell? ⟨p, 6, none⟩ = some (.int .i64 E.n6) := H2.out.hs.b.at 6 rfl
  have c7 : w2.cell? ⟨p, 7, none⟩ = some (.int .i64 E.n7) := H2.out.hs.b.at 7 rfl
  have c8 : w2.cell? ⟨p, 8, none⟩ = some (.slice (some ⟨E.g, 0, none⟩) E.sl E.sl) := H2.out.hs.b.at 8 rfl
  have c14 : w2.cell? ⟨p, 14, none⟩ = some (.int .i64 d.hd) := H2.out.hs.b.at 14 rfl
  have CL : Hid (∀ u, Calls Try.prog 66 #[.agg #[.int .i64 E.n0, .int .i64 E.n1, .int .i64 E.n2, .int .i64 E.n3, .int .i64 E.n4, .int .i64 E.n5, .int .i64 E.n6, .int .i64 E.n7, .slice (some ⟨E.g, 0, none⟩) E.sl E.sl], .complex .f64 (F a).re (F a).im] u fun e w' => e = .returned (.tuple #[.int .i64 i, .bool true]) ∧ Kept u w') := fun u => by rw [HF.out.1]; exact H2.out.hs.lfrag i u HF.out.2
  generalize (F a).re = zr at *
  generalize (F a).im = zi at *
  go_wp2_with fail
  refine (CL.out _).mono ?_
  rintro e w3 ⟨rfl, K3⟩
  have H3 : Hid (Rd1 w w3 p b M n (q + 1) F E d) := H2.out.kept K3
  have c14 : w3.cell? ⟨p, 14, none⟩ = some (.int .i64 d.hd) := H3.out.hs.b.at 14 rfl
  have fz := H3.out.hs.b.fz
  clear H2 K3 cst CL c0 c1 c2 c3 c4 c5 c6 c7 c8
  go_wp2
  go_ret
  exact ⟨rfl, H3.out.put HH.out.2.1 HH.out.2.2.1 (i := 14) rfl _ rfl⟩

set_option maxHeartbeats 2000000 in
theorem hread_2 (a : Nat) (z : Int) (w : World) (h : HS w p E d) (m : Mm w b M n F q) (hM : M < p) (hb : b < p) (ha : a < n) (hq : q ≤ 1000000) (hs : d.st = 2) (hl : 0 ≤ d.sl ∧ d.sl ≤ 3000) (hf : 0 ≤ d.fr ∧ d.fr < 2) (hp : 0 ≤ d.pa ∧ d.pa ≤ 3000) (hk : d.pa + 1 < E.n1) (hA : E.sp d.fr + (d.pa + 1) = (a : Int)) (hF : F a = cw z) (hz : 0 ≤ z ∧ z ≤ d.en - d.pa - 2) (he : 0 ≤ d.en ∧ d.en ≤ 3000) :
    Calls Try.prog 59 #[.pointer (some ⟨p, 0, none⟩), .pointer (some ⟨M, 0, none⟩)] w fun e w' => e = .returned (.bool true) ∧ Rd1 w w' p b M n (q + 1) F E { d with ct := z } := by
  have CA : Hid (Calls Try.prog 64 #[.pointer (some ⟨p, 0, none⟩)] w fun e w' => e = .returned (.tuple #[.int .i64 (a : Int), .bool true]) ∧ Kept w w') := by have := haddr_s (v := 1) w h (.inr (.inl hs)) (.inr (.inr (.inl ⟨hs, rfl⟩))) hl hf hp (by omega); rw [hA] at this; exact this
  have CR : Hid (∀ w1, Kept w w1 → Calls Try.prog 65 #[.pointer (some ⟨M, 0, none⟩), .int .i64 a] w1 _) := fun w1 K => mem_read a w1 (m.kept K) ha hq
  have HH : Hid (HS w p E d ∧ M < p ∧ b < p ∧ d.st = 2) := ⟨h, hM, hb, hs⟩
  have HF : Hid (F a = cw z ∧ (0 ≤ z ∧ z ≤ d.en - d.pa - 2) ∧ (0 ≤ d.pa ∧ d.pa ≤ 3000) ∧ (0 ≤ d.en ∧ d.en ≤ 3000)) := ⟨hF, hz, hp, he⟩
  clear hF hz hA
  clear h m hs
  go_enter Try.func59, Try.ntmps59
  go_wp2_with fail
  refine CA.out.mono ?_
  rintro e w1 ⟨rfl, K1⟩
  go_wp2_with fail
  refine (CR.out _ K1).mono ?_
  rintro e w2 ⟨rfl, m2, u2⟩
  have H2 : Hid (Rd1 w w2 p b M n (q + 1) F E d) := Rd1.of HH.out.1 K1 m2 u2 HH.out.2.1
  clear CA CR K1 m2 u2
  have cst : w2.cell? ⟨p, 19, none⟩ = some (.int .i64 2) := by rw [← HH.out.2.2.2]; exact H2.out.hs.b.at 19 rfl
  have fz := H2.out.hs.b.fz
  have c15 : w2.cell? ⟨p, 15, none⟩ = some (.int .i64 d.ct) := H2.out.hs.b.at 15 rfl
  have CL : Hid (Calls Try.prog 67 #[.pointer (some ⟨p, 0, none⟩), .complex .f64 (F a).re (F a).im] w2 fun e w' => e = .returned (.tuple #[.int .i64 z, .bool true]) ∧ Kept w2 w') := by rw [HF.out.1]; exact hfits_is z w2 H2.out.hs HF.out.2.1 HF.out.2.2.1 HF.out.2.2.2
  generalize (F a).re = zr at *
  generalize (F a).im = zi at *
  go_wp2_with fail
  refine CL.out.mono ?_
  rintro e w3 ⟨rfl, K3⟩
  have H3 : Hid (Rd1 w w3 p b M n (q + 1) F E d) := H2.out.kept K3
  have c15 : w3.cell? ⟨p, 15, none⟩ = some (.int .i64 d.ct) := H3.out.hs.b.at 15 rfl
  have fz := H3.out.hs.b.fz
  clear H2 K3 cst CL
  go_wp2
  go_ret
  exact ⟨rfl, H3.out.put HH.out.2.1 HH.out.2.2.1 (i := 15) rfl _ rfl⟩

set_option maxHeartbeats 2000000 in
theorem hread_8 (a : Nat) (w : World) (h : HS w p E d) (m : Mm w b M n F q) (hM : M < p) (hb : b < p) (ha : a < n) (hq : q ≤ 1000000) (hs : d.st = 8) (hl : 0 ≤ d.sl ∧ d.sl ≤ 3000) (hf : 0 ≤ d.fr ∧ d.fr < 2) (hp : 0 ≤ d.pa ∧ d.pa ≤ 3000) (hk : d.pa + (2 + d.sl) < E.n1) (hA : E.sp d.fr + (d.pa + (2 + d.sl)) = (a : Int)) :
    Calls Try.prog 59 #[.pointer (some ⟨p, 0, none⟩), .pointer (some ⟨M, 0, none⟩)] w fun e w' => e = .returned (.bool true) ∧ Rd1 w w' p b M n (q + 1) F E { d with wo := F a } := by
  have CA : Hid (Calls Try.prog 64 #[.pointer (some ⟨p, 0, none⟩)] w fun e w' => e = .returned (.tuple #[.int .i64 (a : Int), .bool true]) ∧ Kept w w') := by have := haddr_s (v := 2 + d.sl) w h (.inr (.inr hs)) (.inr (.inr (.inr (.inr (.inl ⟨hs, rfl⟩))))) hl hf hp (by omega); rw [hA] at this; exact this
  have CR : Hid (∀ w1, Kept w w1 → Calls Try.prog 65 #[.pointer (some ⟨M, 0, none⟩), .int .i64 a] w1 _) := fun w1 K => mem_read a w1 (m.kept K) ha hq
  have HH : Hid (HS w p E d ∧ M < p ∧ b < p ∧ d.st = 8) := ⟨h, hM, hb, hs⟩
  clear hA
  clear h m hs
  go_enter Try.func59, Try.ntmps59
  go_wp2_with fail
  refine CA.out.mono ?_
  rintro e w1 ⟨rfl, K1⟩
  go_wp2_with fail
  refine (CR.out _ K1).mono ?_
  rintro e w2 ⟨rfl, m2, u2⟩
  have H2 : Hid (Rd1 w w2 p b M n (q + 1) F E d) := Rd1.of HH.out.1 K1 m2 u2 HH.out.2.1
  clear CA CR K1 m2 u2
  have cst : w2.cell? ⟨p, 19, none⟩ = some (.int .i64 8) := by rw [← HH.out.2.2.2]; exact H2.out.hs.b.at 19 rfl
  have fz := H2.out.hs.b.fz
  have c18 : w2.cell? ⟨p, 18, none⟩ = some (.complex .f64 d.wo.re d.wo.im) := H2.out.hs.b.at 18 rfl
  have HW : Hid (Rd1 w (w2.setCell ⟨p, 18, none⟩ (.complex .f64 (F a).re (F a).im)) p b M n (q + 1) F E { d with wo := F a }) := H2.out.put HH.out.2.1 HH.out.2.2.1 (i := 18) rfl _ rfl
  generalize (F a).re = zr at *
  generalize (F a).im = zi at *
  go_wp2
  go_ret
  exact ⟨rfl, HW.out⟩

set_option maxHeartbeats 2000000 in
theorem hread_4 (a : Nat) (x : Int) (r : Bool) (w : World) (h : HS w p E d) (m : Mm w b M n F q) (hM : M < p) (hb : b < p) (ha : a < n) (hq : q ≤ 1000000) (hs : d.st = 4) (hf : 0 ≤ d.fr ∧ d.fr < 2) (hi : 0 ≤ d.hd ∧ d.hd < E.n0) (hp : 0 ≤ d.pa ∧ d.pa < E.n1) (hA : d.hd * 8 + 4 = (a : Int)) (hF : F a = cw x) (hx : x.natAbs < 100000) (hr : decide (x = E.sp d.fr + d.pa) = r) :
    Calls Try.prog 59 #[.pointer (some ⟨p, 0, none⟩), .pointer (some ⟨M, 0, none⟩)] w fun e w' => e = .returned (.bool true) ∧ Rd1 w w' p b M n (q + 1) F E { d with wa := r } := by
  have CA : Hid (Calls Try.prog 64 #[.pointer (some ⟨p, 0, none⟩)] w fun e w' => e = .returned (.tuple #[.int .i64 (a : Int), .bool true]) ∧ Kept w w') := by have := haddr_w w h (.inl hs) hi; rw [hA] at this; exact this
  have CR : Hid (∀ w1, Kept w w1 → Calls Try.prog 65 #[.pointer (some ⟨M, 0, none⟩), .int .i64 a] w1 _) := fun w1 K => mem_read a w1 (m.kept K) ha hq
  have HH : Hid (HS w p E d ∧ M < p ∧ b < p ∧ d.st = 4) := ⟨h, hM, hb, hs⟩
  have HF : Hid (F a = cw x ∧ (0 ≤ d.fr ∧ d.fr < 2) ∧ (0 ≤ d.pa ∧ d.pa < E.n1)) := ⟨hF, hf, hp⟩
  have hsp := sp_lo h hf
  have hn1 := h.n1
  have CS : Hid (∀ u, Calls Try.prog 68 #[.complex .f64 (F a).re (F a).im, .complex .f64 (cw (E.sp d.fr + d.pa)).re (cw (E.sp d.fr + d.pa)).im] u fun e w' => e = .returned (.bool r) ∧ w' = u) := fun u => by
    rw [hF]
    refine same_is _ _ _ _ r ?_ u
    rw [← hr]
    show decide (nb (floatOfInt .f64 x) = nb (floatOfInt .f64 (E.sp d.fr + d.pa)) ∧ nb 0 = nb 0) = _
    rw [nb_fi _ (by omega), nb_fi _ (by omega)]
    by_cases e : x = E.sp d.fr + d.pa
    · simp [e]
    · have : floatOfInt .f64 x ≠ floatOfInt .f64 (E.sp d.fr + d.pa) := fun z => e (fi_inj (by omega) (by omega) z)
      simp [e, this]
  clear hF hA hr hsp hn1
  clear h m hs
  go_enter Try.func59, Try.ntmps59
  go_wp2_with fail
  refine CA.out.mono ?_
  rintro e w1 ⟨rfl, K1⟩
  go_wp2_with fail
  refine (CR.out _ K1).mono ?_
  rintro e w2 ⟨rfl, m2, u2⟩
  have H2 : Hid (Rd1 w w2 p b M n (q + 1) F E d) := Rd1.of HH.out.1 K1 m2 u2 HH.out.2.1
  clear CA CR K1 m2 u2
  have cst : w2.cell? ⟨p, 19, none⟩ = some (.int .i64 4) := by rw [← HH.out.2.2.2]; exact H2.out.hs.b.at 19 rfl
  have fz := H2.out.hs.b.fz
  have CL : Hid (∀ w3, Kept w2 w3 → Calls Try.prog 69 #[.pointer (some ⟨p, 0, none⟩), .int .i64 d.fr, .int .i64 d.pa] w3 _) := fun w3 K => hwhere_is d.fr d.pa w3 (H2.out.hs.kept K) HF.out.2.1 HF.out.2.2
  have c9 : w2.cell? ⟨p, 9, none⟩ = some (.int .i64 d.fr) := H2.out.hs.b.at 9 rfl
  have c12 : w2.cell? ⟨p, 12, none⟩ = some (.int .i64 d.pa) := H2.out.hs.b.at 12 rfl
  have c16 : w2.cell? ⟨p, 16, none⟩ = some (.bool d.wa) := H2.out.hs.b.at 16 rfl
  generalize (F a).re = zr at *
  generalize (F a).im = zi at *
  generalize (cw (E.sp d.fr + d.pa)).re = yr at *
  generalize (cw (E.sp d.fr + d.pa)).im = yi at *
  go_wp2_with fail
  go_region_with (first | (go_at_call 69; refine (CL.out _ (Kept.refl _).drew).mono ?_; rintro e w3 ⟨rfl, K3⟩; have H3 : Hid (Rd1 w w3 p b M n (q + 1) F E d) := H2.out.kept ((Kept.refl _).drew.trans K3); have c16 : w3.cell? ⟨p, 16, none⟩ = some (.bool d.wa) := H3.out.hs.b.at 16 rfl; have fz := H3.out.hs.b.fz; clear K3) | (go_at_call 68; refine (CS.out _).mono ?_; rintro e w4 ⟨rfl, rfl⟩))
  all_goals go_wp2
  all_goals go_ret
  all_goals exact ⟨rfl, by first | (rename_i H3; exact H3.out.put HH.out.2.1 HH.out.2.2.1 (i := 16) rfl _ rfl) | (rename_i H3 _; exact H3.out.put HH.out.2.1 HH.out.2.2.1 (i := 16) rfl _ rfl)⟩

end
end Go.Proofs.Ytgnikgkpbibmgaa
