/-
  Contracts of package haul: what is written; the one access of a step.
-/
import Derived.Test.YtgnikgkpbibmgaaHaD
import Derived.Test.YtgnikgkpbibmgaaShadeB
import Derived.Test.YtgnikgkpbibmgaaCoilB
namespace Go.Proofs.Ytgnikgkpbibmgaa
open Go.RowKit
attribute [local go_sem] run_store_complex

section
variable {p b M n q : Nat} {F G : Nat → Cx} {E : En} {d : Hd}

set_option maxHeartbeats 1000000 in
theorem hwrite_any (a : Nat) (z : Cx) (w : World) (h : HS w p E d) (m : Mm w b M n F q) (hM : M < p) (hb : b < p) (ha : a < n) (hq : q ≤ 1000000) (he : ∀ j, j < n → (if j = a then z else F j) = G j)
    (CA : Calls Try.prog 64 #[.pointer (some ⟨p, 0, none⟩)] w fun e w' => e = .returned (.tuple #[.int .i64 (a : Int), .bool true]) ∧ Kept w w')
    (CW : ∀ w1, Kept w w1 → Calls Try.prog 70 #[.pointer (some ⟨p, 0, none⟩)] w1 fun e w' => e = .returned (.complex .f64 z.re z.im) ∧ Kept w1 w') :
    Calls Try.prog 60 #[.pointer (some ⟨p, 0, none⟩), .pointer (some ⟨M, 0, none⟩)] w fun e w' => e = .returned (.bool true) ∧ HS w' p E d ∧ Mm w' b M n G (q + 1) ∧ Mut [M, b] w w' := by
  have CR : Hid (∀ w1, Kept w w1 → Calls Try.prog 12 #[.pointer (some ⟨M, 0, none⟩), .int .i64 a, .complex .f64 z.re z.im] w1 _) := fun w1 K => mem_write a z w1 (m.kept K) ha hq he
  have HH : Hid (HS w p E d ∧ M < p ∧ b < p) := ⟨h, hM, hb⟩
  have HA : Hid (Calls Try.prog 64 #[.pointer (some ⟨p, 0, none⟩)] w fun e w' => e = .returned (.tuple #[.int .i64 (a : Int), .bool true]) ∧ Kept w w') := CA
  have HW : Hid (∀ w1, Kept w w1 → Calls Try.prog 70 #[.pointer (some ⟨p, 0, none⟩)] w1 fun e w' => e = .returned (.complex .f64 z.re z.im) ∧ Kept w1 w') := CW
  clear h m CA CW he
  generalize z.re = zr at *
  generalize z.im = zi at *
  go_enter Try.func60, Try.ntmps60
  go_wp2_with fail
  refine HA.out.mono ?_
  rintro e w1 ⟨rfl, K1⟩
  go_wp2_with fail
  refine (HW.out _ K1).mono ?_
  rintro e w2 ⟨rfl, K2⟩
  go_wp2_with fail
  refine (CR.out _ (K1.trans K2)).mono ?_
  rintro e w3 ⟨rfl, m3, u3⟩
  have H3 : Hid (HS w3 p E d ∧ Mm w3 b M n G (q + 1) ∧ Mut [M, b] w w3) := ⟨(HH.out.1.kept (K1.trans K2)).muts u3 (fun k hk hd => by have := HH.out.1.lo hk; have := HH.out.2; simp at hd; omega), m3, (K1.trans K2).mut.trans u3⟩
  clear K1 K2 m3 u3
  go_wp2
  go_ret
  exact ⟨rfl, H3.out⟩
end

section
variable {p M sb kb : Nat} {E : En} {d : Hd} {C : World → Prop}

/-- An access that reads, or writes. -/
theorem hacc_read (w : World) (h : HS w p E d) (hs : d.st = 1 ∨ d.st = 2 ∨ d.st = 4 ∨ d.st = 8) (CR : Calls Try.prog 59 #[.pointer (some ⟨p, 0, none⟩), .pointer (some ⟨M, 0, none⟩)] w fun e w' => e = .returned (.bool true) ∧ C w') :
    Calls Try.prog 52 #[.pointer (some ⟨p, 0, none⟩), .pointer (some ⟨M, 0, none⟩), .pointer (some ⟨sb, 0, none⟩), .pointer (some ⟨kb, 0, none⟩)] w fun e w' => e = .returned (.bool true) ∧ C w' := by
  have c1 : w.cell? ⟨p, 19, none⟩ = some (.int .i64 d.st) := h.b.at 19 rfl
  have HC : Hid (Calls Try.prog 59 #[.pointer (some ⟨p, 0, none⟩), .pointer (some ⟨M, 0, none⟩)] w fun e w' => e = .returned (.bool true) ∧ C w') := CR
  clear h CR
  generalize d.st = st at *
  rcases hs with rfl | rfl | rfl | rfl
  all_goals go_enter Try.func52, Try.ntmps52
  all_goals go_wp2_with fail
  all_goals refine HC.out.mono ?_
  all_goals rintro e w1 ⟨rfl, K1⟩
  all_goals go_wp2
  all_goals go_ret
  all_goals exact ⟨rfl, K1⟩
theorem hacc_write (w : World) (h : HS w p E d) (hs : d.st = 6 ∨ d.st = 7 ∨ d.st = 9 ∨ d.st = 10) (CR : Calls Try.prog 60 #[.pointer (some ⟨p, 0, none⟩), .pointer (some ⟨M, 0, none⟩)] w fun e w' => e = .returned (.bool true) ∧ C w') :
    Calls Try.prog 52 #[.pointer (some ⟨p, 0, none⟩), .pointer (some ⟨M, 0, none⟩), .pointer (some ⟨sb, 0, none⟩), .pointer (some ⟨kb, 0, none⟩)] w fun e w' => e = .returned (.bool true) ∧ C w' := by
  have c1 : w.cell? ⟨p, 19, none⟩ = some (.int .i64 d.st) := h.b.at 19 rfl
  have HC : Hid (Calls Try.prog 60 #[.pointer (some ⟨p, 0, none⟩), .pointer (some ⟨M, 0, none⟩)] w fun e w' => e = .returned (.bool true) ∧ C w') := CR
  clear h CR
  generalize d.st = st at *
  rcases hs with rfl | rfl | rfl | rfl
  all_goals go_enter Try.func52, Try.ntmps52
  all_goals go_wp2_with fail
  all_goals refine HC.out.mono ?_
  all_goals rintro e w1 ⟨rfl, K1⟩
  all_goals go_wp2
  all_goals go_ret
  all_goals exact ⟨rfl, K1⟩
/-- At an end that there was from the start. -/
theorem hacc_end (w : World) (h : HS w p E d) (hs : d.st = 12) :
    Calls Try.prog 52 #[.pointer (some ⟨p, 0, none⟩), .pointer (some ⟨M, 0, none⟩), .pointer (some ⟨sb, 0, none⟩), .pointer (some ⟨kb, 0, none⟩)] w fun e w' => e = .returned (.bool true) ∧ w' = w := by
  have c1 : w.cell? ⟨p, 19, none⟩ = some (.int .i64 12) := by rw [← hs]; exact h.b.at 19 rfl
  clear h hs
  go_enter Try.func52, Try.ntmps52
  go_wp2
  go_ret
  exact ⟨rfl, rfl⟩

set_option maxHeartbeats 1000000 in
/-- Is the sentinel black? -/
theorem hacc_black {base tb g pb : Nat} {v : Value} {S : ShS} (w : World) (h : HS w p E d) (hs : d.st = 3) (m : ShC w base sb tb g pb v S) (hc : S.c < lots) (hlt : ∀ k, k ∈ ShF sb tb g pb v → k < p) :
    Calls Try.prog 52 #[.pointer (some ⟨p, 0, none⟩), .pointer (some ⟨M, 0, none⟩), .pointer (some ⟨sb, 0, none⟩), .pointer (some ⟨kb, 0, none⟩)] w fun e w' => e = .returned (.bool true) ∧ HS w' p E { d with wa := blackB S d.hd d.sen } ∧ ShC w' base sb tb g pb v S.tick ∧ Mut (p :: ShF sb tb g pb v) w w' := by
  have C0 : Hid (Calls Try.prog 61 #[.pointer (some ⟨sb, 0, none⟩), .int .i64 d.hd, .bool d.sen] w.drew _) := sblack_any d.hd d.sen w.drew (m.kept (Kept.refl _).drew) hc
  have c19 : w.cell? ⟨p, 19, none⟩ = some (.int .i64 3) := by rw [← hs]; exact h.b.at 19 rfl
  have c14 : w.cell? ⟨p, 14, none⟩ = some (.int .i64 d.hd) := h.b.at 14 rfl
  have c11 : w.cell? ⟨p, 11, none⟩ = some (.bool d.sen) := h.b.at 11 rfl
  have HH : Hid (HS w p E d ∧ ∀ k, k ∈ ShF sb tb g pb v → k < p) := ⟨h, hlt⟩
  clear h m hs hc hlt
  go_enter Try.func52, Try.ntmps52
  go_wp2_with fail
  go_region_with (go_at_call 61; refine C0.out.mono ?_; rintro e w2 ⟨rfl, t2, m2⟩; have HR : Hid (HS w2 p E d ∧ ShC w2 base sb tb g pb v S.tick ∧ Mut (p :: ShF sb tb g pb v) w w2) := ⟨(HH.out.1.kept (Kept.refl _).drew).muts m2 (fun k hk hd => by have := HH.out.1.lo hk; have := HH.out.2 k hd; omega), t2, ((Mut.refl _ w).drew.trans (m2.wide fun k hk => by simp [hk]))⟩; have c16 : w2.cell? ⟨p, 16, none⟩ = some (.bool d.wa) := HR.out.1.b.at 16 rfl; have fz := HR.out.1.b.fz; clear t2 m2)
  all_goals go_wp2
  all_goals go_ret

  all_goals exact ⟨rfl, HR.out.1.put (i := 16) rfl _ rfl, HR.out.2.1.muts (D := [p]) ((Mut.refl _ _).setCell (by simp) _) (fun k hk hd => by have := HH.out.2 k hk; simp at hd; omega), HR.out.2.2.setCell (by simp) _⟩

set_option maxHeartbeats 1000000 in
/-- Where the copy begins. -/
theorem hacc_copy {K : CS} (w : World) (h : HS w p E d) (hs : d.st = 5) (m : CTab 73 w kb K) (hk : kb < p) (hc : 0 ≤ d.ct ∧ d.ct ≤ 3000) (hy : skips K (2 + d.ct) = true) :
    Calls Try.prog 52 #[.pointer (some ⟨p, 0, none⟩), .pointer (some ⟨M, 0, none⟩), .pointer (some ⟨sb, 0, none⟩), .pointer (some ⟨kb, 0, none⟩)] w fun e w' => e = .returned (.bool true) ∧ HS w' p E { d with pt := copyA K (2 + d.ct) } ∧ CTab 73 w' kb (copyS K (2 + d.ct)) ∧ Mut [p, kb] w w' := by
  have C0 : Hid (Calls Try.prog 53 #[.pointer (some ⟨p, 0, none⟩)] w _) := hwords_is w h hc
  have C1 : Hid (Calls Try.prog 62 #[.pointer (some ⟨kb, 0, none⟩), .int .i64 (2 + d.ct)] w fun e w' => e = .returned (.tuple #[.int .i64 (copyA K (2 + d.ct)), .bool (skips K (2 + d.ct))]) ∧ CTab 73 w' kb (copyS K (2 + d.ct)) ∧ Mut [kb] w w') := kcopy_any (2 + d.ct) w m
  have c19 : w.cell? ⟨p, 19, none⟩ = some (.int .i64 5) := by rw [← hs]; exact h.b.at 19 rfl
  have HH : Hid (HS w p E d ∧ kb < p) := ⟨h, hk⟩
  rw [hy] at C1
  clear h m hs hc hk hy
  go_enter Try.func52, Try.ntmps52
  go_wp2_with fail
  refine C0.out.mono ?_
  rintro e w1 ⟨rfl, rfl⟩
  go_wp2_with fail
  refine C1.out.mono ?_
  rintro e w2 ⟨rfl, t2, m2⟩
  have HR : Hid (HS w2 p E d ∧ CTab 73 w2 kb (copyS K (2 + d.ct)) ∧ Mut [p, kb] w1 w2) := ⟨HH.out.1.muts m2 (fun k hk hd => by have := HH.out.1.lo hk; have := HH.out.2; simp at hd; omega), t2, m2.wide fun k hk => by simp at hk; simp [hk]⟩
  have c13 : w2.cell? ⟨p, 13, none⟩ = some (.int .i64 d.pt) := HR.out.1.b.at 13 rfl
  have fz := HR.out.1.b.fz
  clear t2 m2 C0 C1 c19
  go_wp2
  go_ret
  exact ⟨rfl, HR.out.1.put (i := 13) rfl _ rfl, HR.out.2.1.muts (D := [p]) ((Mut.refl _ _).setCell (by simp) _) (by have := HH.out.2; simp; omega), HR.out.2.2.setCell (by simp) _⟩

set_option maxHeartbeats 1000000 in
/-- What was kept for the copy is given back. -/
theorem hacc_skip {K : CS} (w : World) (h : HS w p E d) (hs : d.st = 11) (m : CTab 73 w kb K) (hk : kb < p) (hc : 0 ≤ d.ct ∧ d.ct ≤ 3000) (hy : skips K (2 + d.ct) = true) :
    Calls Try.prog 52 #[.pointer (some ⟨p, 0, none⟩), .pointer (some ⟨M, 0, none⟩), .pointer (some ⟨sb, 0, none⟩), .pointer (some ⟨kb, 0, none⟩)] w fun e w' => e = .returned (.bool true) ∧ HS w' p E d ∧ CTab 73 w' kb (skipS K (2 + d.ct)) ∧ Mut [p, kb] w w' := by
  have C0 : Hid (Calls Try.prog 53 #[.pointer (some ⟨p, 0, none⟩)] w _) := hwords_is w h hc
  have C1 : Hid (Calls Try.prog 63 #[.pointer (some ⟨kb, 0, none⟩), .int .i64 (2 + d.ct)] w fun e w' => e = .returned (.bool (skips K (2 + d.ct))) ∧ CTab 73 w' kb (skipS K (2 + d.ct)) ∧ Mut [kb] w w') := kskip_any (2 + d.ct) w m
  have c19 : w.cell? ⟨p, 19, none⟩ = some (.int .i64 11) := by rw [← hs]; exact h.b.at 19 rfl
  have HH : Hid (HS w p E d ∧ kb < p) := ⟨h, hk⟩
  rw [hy] at C1
  clear h m hs hc hk hy
  go_enter Try.func52, Try.ntmps52
  go_wp2_with fail
  refine C0.out.mono ?_
  rintro e w1 ⟨rfl, rfl⟩
  go_wp2_with fail
  refine C1.out.mono ?_
  rintro e w2 ⟨rfl, t2, m2⟩
  have HR : Hid (HS w2 p E d ∧ CTab 73 w2 kb (skipS K (2 + d.ct)) ∧ Mut [p, kb] w1 w2) := ⟨HH.out.1.muts m2 (fun k hk hd => by have := HH.out.1.lo hk; have := HH.out.2; simp at hd; omega), t2, m2.wide fun k hk => by simp at hk; simp [hk]⟩
  clear t2 m2 C0 C1 c19
  go_wp2
  go_ret
  exact ⟨rfl, HR.out⟩
end
end Go.Proofs.Ytgnikgkpbibmgaa
