/-
  Contracts of package trace's small functions.
-/
import Derived.Test.YtpdclckgnajcdaaGreatTrA
import Derived.Test.YtpdclckgnajcdaaGreatLay16
import Derived.Test.YtpdclckgnajcdaaGreatPhase
namespace Go.Proofs.YtpdclckgnajcdaaGreat
open Go.RowKit

section
variable {p : Nat} {E : En} {R : Nat → Bool} {d : Td}

set_option maxHeartbeats 400000 in
theorem tdone_is (q : Bool) (w : World) (h : TS w p E R d) (hq : (d.st == 10) = q) :
    Calls Tryz.prog 21 #[.pointer (some ⟨p, 0, none⟩)] w fun e w' => e = .returned (.bool q) ∧ w' = w := by
  have c1 : w.cell? ⟨p, 16, none⟩ = some (.int .i64 d.st) := h.b.at 16 rfl
  clear h
  go_enter Tryz.func21, Tryz.ntmps21
  go_wp2
  go_ret
  subst hq
  exact ⟨rfl, rfl⟩

set_option maxHeartbeats 400000 in
theorem terrno_is (w : World) (h : TS w p E R d) :
    Calls Tryz.prog 24 #[.pointer (some ⟨p, 0, none⟩)] w fun e w' => e = .returned (.int .i64 d.er) ∧ w' = w := by
  have c1 : w.cell? ⟨p, 22, none⟩ = some (.int .i64 d.er) := h.b.at 22 rfl
  clear h
  go_enter Tryz.func24, Tryz.ntmps24
  go_wp2
  go_ret
  exact ⟨rfl, rfl⟩

set_option maxHeartbeats 400000 in
theorem tsteps_is (w : World) (h : TS w p E R d) :
    Calls Tryz.prog 25 #[.pointer (some ⟨p, 0, none⟩)] w fun e w' => e = .returned (.int .i64 d.sp) ∧ w' = w := by
  have c1 : w.cell? ⟨p, 23, none⟩ = some (.int .i64 (d.sp : Int)) := h.b.at 23 rfl
  clear h
  go_enter Tryz.func25, Tryz.ntmps25
  go_wp2
  go_ret
  exact ⟨rfl, rfl⟩

set_option maxHeartbeats 800000 in
theorem tstand_is (s fr k : Int) (w : World) (h : TS w p E R d) (h1 : 0 ≤ fr ∧ fr < E.n0) (h2 : 0 ≤ k ∧ k < 8) :
    Calls Tryz.prog 73 #[.pointer (some ⟨p, 0, none⟩), .int .i64 s, .int .i64 fr, .int .i64 k] w fun e w' => e = .returned (.tuple #[]) ∧ TS w' p E R { d with st := s, nx := fr * 8 + k } ∧ Mut [p] w w' := by
  have hW : TS (w.setCell ⟨p, 16, none⟩ (.int .i64 s)) p E R { d with st := s } := h.put (i := 16) rfl _ rfl rfl rfl
  have C0 : Hid (Calls Tryz.prog 48 #[.agg #[.int .i64 E.n0, .int .i64 E.n1, .int .i64 E.n2, .int .i64 E.n3, .int .i64 E.n4, .int .i64 E.n5, .int .i64 E.n6, .int .i64 E.n7, .slice (some ⟨E.g, 0, none⟩) E.sl E.sl], .int .i64 fr, .int .i64 k] (w.setCell ⟨p, 16, none⟩ (.int .i64 s)) _) :=
    frag_any E.n0 E.n1 E.n2 E.n3 E.n4 E.n5 E.n6 E.n7 _ E.sl E.sl E.T fr k _ _ _ hW.shps (At.is _ ⟨hW.goodT, h1, h2⟩)
  have c12 : w.cell? ⟨p, 16, none⟩ = some (.int .i64 d.st) := h.b.at 16 rfl
  have c0 : w.cell? ⟨p, 0, none⟩ = some (.int .i64 E.n0) := h.b.at 0 rfl
  have c1 : w.cell? ⟨p, 1, none⟩ = some (.int .i64 E.n1) := h.b.at 1 rfl
  have c2 : w.cell? ⟨p, 2, none⟩ = some (.int .i64 E.n2) := h.b.at 2 rfl
  have c3 : w.cell? ⟨p, 3, none⟩ = some (.int .i64 E.n3) := h.b.at 3 rfl
  have c4 : w.cell? ⟨p, 4, none⟩ = some (.int .i64 E.n4) := h.b.at 4 rfl
  have c5 : w.cell? ⟨p, 5, none⟩ = some (.int .i64 E.n5) := h.b.at 5 rfl
  have c6 : w.cell? ⟨p, 6, none⟩ = some (.int .i64 E.n6) := h.b.at 6 rfl
  have c7 : w.cell? ⟨p, 7, none⟩ = some (.int .i64 E.n7) := h.b.at 7 rfl
  have c8 : w.cell? ⟨p, 8, none⟩ = some (.slice (some ⟨E.g, 0, none⟩) E.sl E.sl) := h.b.at 8 rfl
  have f0 := h.b.fz
  have HN : Hid (TS (w.setCell ⟨p, 16, none⟩ (.int .i64 s)) p E R { d with st := s } ∧ Mut [p] w (w.setCell ⟨p, 16, none⟩ (.int .i64 s))) := ⟨hW, (Mut.refl _ _).setCell (by simp) _⟩
  clear h hW h1 h2
  go_enter Tryz.func73, Tryz.ntmps73
  go_wp2_with fail
  refine C0.out.mono ?_
  rintro e w' ⟨rfl, K⟩
  have hF := HN.out.1.kept K
  have c13 : w'.cell? ⟨p, 17, none⟩ = some (.int .i64 d.nx) := hF.b.at 17 rfl
  have f1 := hF.b.fz
  have HN2 : Hid (TS w' p E R { d with st := s } ∧ Mut [p] w w') := ⟨hF, HN.out.2.trans K.mut⟩
  clear C0 hF K c12 c0 c1 c2 c3 c4 c5 c6 c7 c8 f0
  go_wp2
  go_end0
  exact ⟨rfl, HN2.out.1.put (i := 17) rfl _ rfl rfl rfl, HN2.out.2.setCell (by simp) _⟩

/-- How many slots there are; where one stands. -/
def nS (d : Td) : Nat := if d.arr then d.ln.toNat else d.rl
def plA (a : Bool) (N s : Nat) : Nat := if a then 1 + s / 8 else if s < N then (s + 1) / 7 else 0
def plB (a : Bool) (N s : Nat) : Nat := if a then s % 8 else if s < N then 1 + (s + 1) % 7 else 0
def isR (a : Bool) (R : Nat → Bool) (s : Nat) : Bool := if a then R 0 else R s
structure Okd (d : Td) : Prop where
  obj : d.arr = false → d.rl ≤ 40 ∧ d.ln = 0
  row : d.arr = true → d.rl = 1 ∧ 0 ≤ d.ln ∧ d.ln ≤ 512

set_option maxHeartbeats 1000000 in
theorem tplace_is (s : Nat) (w : World) (h : TS w p E R d) (ho : Okd d) (hs : s ≤ 1000) :
    Calls Tryz.prog 97 #[.pointer (some ⟨p, 0, none⟩), .int .i64 (s : Int)] w fun e w' => e = .returned (.tuple #[.int .i64 (plA d.arr (nS d) s : Nat), .int .i64 (plB d.arr (nS d) s : Nat), .bool (decide (s < nS d))]) ∧ Kept w w' := by
  have c11 : w.cell? ⟨p, 11, none⟩ = some (.bool d.arr) := h.b.at 11 rfl
  have c12 : w.cell? ⟨p, 12, none⟩ = some (.slice d.rx d.rl d.rl) := h.b.at 12 rfl
  have c13 : w.cell? ⟨p, 13, none⟩ = some (.int .i64 d.ln) := h.b.at 13 rfl
  cases ha : d.arr
  · obtain ⟨hl, _⟩ := ho.obj ha
    have e1 : nS d = d.rl := by simp [nS, ha]
    rw [e1]
    rw [ha] at c11
    generalize d.rl = l at *
    by_cases hq : s < l
    · have C0 : Hid (∀ w, Calls Tryz.prog 60 #[.agg #[.bool false, .slice d.rx l l], .int .i64 (s : Int)] w _) := fun w => place_in d.rx l l s (((s + 1) / 7 : Nat) : Int) ((1 + (s + 1) % 7 : Nat) : Int) w hl (by omega) (by omega) (by omega) (by omega)
      have e2 : plA false l s = (s + 1) / 7 := by simp [plA, hq]
      have e3 : plB false l s = 1 + (s + 1) % 7 := by simp [plB, hq]
      have e4 : decide (s < l) = true := by simpa using hq
      rw [e2, e3, e4]
      generalize (s + 1) / 7 = A at *
      generalize 1 + (s + 1) % 7 = B at *
      clear h ho c13 hq e4 hl
      go_enter Tryz.func97, Tryz.ntmps97
      go_wp2_with fail
      refine (C0.out _).mono ?_
      rintro e w' ⟨rfl, K⟩
      go_wp2
      go_ret3
      exact ⟨rfl, K⟩
    · have C0 : Hid (∀ w, Calls Tryz.prog 60 #[.agg #[.bool false, .slice d.rx l l], .int .i64 (s : Int)] w _) := fun w => place_out d.rx l l s w hl (by omega)
      have e2 : plA false l s = 0 := by simp [plA, hq]
      have e3 : plB false l s = 0 := by simp [plB, hq]
      have e4 : decide (s < l) = false := by simpa using hq
      rw [e2, e3, e4]
      clear h ho c13 hq e4 hl
      go_enter Tryz.func97, Tryz.ntmps97
      go_wp2_with fail
      refine (C0.out _).mono ?_
      rintro e w' ⟨rfl, K⟩
      go_wp2
      go_ret3
      exact ⟨rfl, K⟩
  · obtain ⟨hl, hn0, hn1⟩ := ho.row ha
    have e1 : nS d = d.ln.toNat := by simp [nS, ha]
    rw [e1]
    rw [ha] at c11
    have e2 : ((plA true d.ln.toNat s : Nat) : Int) = 1 + (s : Int) / 8 := by simp [plA]
    have e3 : ((plB true d.ln.toNat s : Nat) : Int) = (s : Int) % 8 := by simp [plB]
    have e4 : decide (s < d.ln.toNat) = decide ((s : Int) < d.ln) := by
      by_cases q : (s : Int) < d.ln
      · have : s < d.ln.toNat := by omega
        simp [q, this]
      · have : ¬ s < d.ln.toNat := by omega
        simp [q, this]
    rw [e2, e3, e4]
    have HQ : Int.tdiv (s : Int) 8 = (s : Int) / 8 := Int.tdiv_eq_ediv_of_nonneg (by omega)
    have HR : Int.tmod (s : Int) 8 = (s : Int) % 8 := Int.tmod_eq_emod_of_nonneg (by omega)
    generalize d.ln = n at *
    clear h ho c12
    go_enter Tryz.func97, Tryz.ntmps97
    go_wp2_with fail
    go_region
    go_wp2
    go_ret3
    exact ⟨rfl, (Kept.refl _).drew⟩

set_option maxHeartbeats 800000 in
theorem tisref_is (s : Nat) (w : World) (h : TS w p E R d) (ho : Okd d) (hs : s < nS d) :
    Calls Tryz.prog 98 #[.pointer (some ⟨p, 0, none⟩), .int .i64 (s : Int)] w fun e w' => e = .returned (.bool (isR d.arr R s)) ∧ w' = w := by
  have c11 : w.cell? ⟨p, 11, none⟩ = some (.bool d.arr) := h.b.at 11 rfl
  have c12 : w.cell? ⟨p, 12, none⟩ = some (.slice d.rx d.rl d.rl) := h.b.at 12 rfl
  cases ha : d.arr
  · obtain ⟨hl, _⟩ := ho.obj ha
    have e1 : nS d = d.rl := by simp [nS, ha]
    rw [e1] at hs
    obtain ⟨b, o, ex, hb, hc⟩ := h.rfs (by omega)
    have c := hc s hs
    rw [ha] at c11
    rw [ex] at c12
    have e2 : isR false R s = R s := rfl
    rw [e2]
    generalize d.rl = l at *
    generalize R s = r at *
    clear h ho hc e1 ex e2
    go_enter Tryz.func98, Tryz.ntmps98
    go_wp2
    go_ret
    exact ⟨rfl, rfl⟩
  · obtain ⟨hl, hn0, hn1⟩ := ho.row ha
    obtain ⟨b, o, ex, hb, hc⟩ := h.rfs (by omega)
    have c := hc 0 (by omega)
    rw [Nat.add_zero] at c
    rw [ha] at c11
    rw [ex, hl] at c12
    have e2 : isR true R s = R 0 := rfl
    rw [e2]
    generalize R 0 = r at *
    clear h ho hc ex e2 hs
    go_enter Tryz.func98, Tryz.ntmps98
    go_wp2
    go_ret
    exact ⟨rfl, rfl⟩

/-- From slot s on the next one of the fragment nth that is a reference; f: is there one? -/
structure Seeks (a : Bool) (R : Nat → Bool) (N nth s s' : Nat) (f : Bool) : Prop where
  le : s ≤ s'
  mid : ∀ j, s ≤ j → j < s' → j < N ∧ plA a N j = nth ∧ isR a R j = false
  yes : f = true → s' < N ∧ plA a N s' = nth ∧ isR a R s' = true
  no : f = false → ¬ (s' < N ∧ plA a N s' = nth)

set_option maxHeartbeats 2000000 in
theorem tseek_is (nth s : Nat) (w : World) (h : TS w p E R d) (ho : Okd d) (hn : d.nt = nth) (hs : d.sl = s) (hs1 : s ≤ 900) :
    Calls Tryz.prog 72 #[.pointer (some ⟨p, 0, none⟩)] w fun e w' => ∃ s' f, e = .returned (.tuple #[.int .i64 (if f then (plB d.arr (nS d) s' : Nat) else (0 : Nat) : Nat), .bool f]) ∧ Seeks d.arr R (nS d) nth s s' f ∧ TS w' p E R { d with sl := (s' : Int) } ∧ Mut [p] w w' := by
  have hN : nS d ≤ 512 := by
    unfold nS
    cases ha : d.arr
    · have := (ho.obj ha).1; simp; omega
    · have := (ho.row ha).2; simp; omega
  have HO : Hid (∀ q : Int, Okd { d with sl := q }) := fun q => ⟨ho.obj, ho.row⟩
  have HNT : Hid (d.nt = nth) := hn
  have HT : Hid (TS w p E R { d with sl := (s : Int) }) := by rw [← hs]; exact h
  have HL : Hid (nS d ≤ 512 ∧ s ≤ 900) := ⟨hN, hs1⟩
  clear h ho hn hs hN hs1
  go_enter Tryz.func72, Tryz.ntmps72
  go_wp2
  go_loopg [] (nS d - s) (fun m wr => ∃ k : Nat, s ≤ k ∧ m = nS d - k ∧ k ≤ 1000 ∧ Hid ((∀ j, s ≤ j → j < k → j < nS d ∧ plA d.arr (nS d) j = nth ∧ isR d.arr R j = false) ∧ TS wr p E R { d with sl := (k : Int) } ∧ Mut [p] w wr))
  case atStart => exact ⟨s, Nat.le_refl _, rfl, by have := HL.out.2; omega, fun j h1 h2 => by omega, HT.out, Mut.refl _ _⟩
  case round =>
    obtain ⟨k, hk, hm, hk1, HH⟩ := hrel
    have HM : Hid _ := hm
    clear hm
    have c20 : wr.cell? ⟨p, 20, none⟩ = some (.int .i64 (k : Int)) := HH.out.2.1.b.at 20 rfl
    have CP : Hid (Calls Tryz.prog 97 #[.pointer (some ⟨p, 0, none⟩), .int .i64 (k : Int)] wr _) := tplace_is k wr HH.out.2.1 (HO.out _) hk1
    go_wp2_with fail
    refine CP.out.mono ?_
    rintro e w1 ⟨rfl, K1⟩
    have H1 : Hid (TS w1 p E R { d with sl := (k : Int) } ∧ Mut [p] w w1) := ⟨HH.out.2.1.kept K1, HH.out.2.2.trans K1.mut⟩
    have c18 : w1.cell? ⟨p, 18, none⟩ = some (.int .i64 (nth : Int)) := by rw [← HNT.out]; exact H1.out.1.b.at 18 rfl
    clear K1 CP c20
    have eN : nS { d with sl := (k : Int) } = nS d := rfl
    rw [eN]
    clear eN
    simp only []
    by_cases hq : k < nS d ∧ plA d.arr (nS d) k = nth
    · obtain ⟨hq1, hq2⟩ := hq
      have e1 : decide (k < nS d) = true := by simpa using hq1
      rw [e1, hq2]
      have c20 : w1.cell? ⟨p, 20, none⟩ = some (.int .i64 (k : Int)) := H1.out.1.b.at 20 rfl
      have CR : Hid (Calls Tryz.prog 98 #[.pointer (some ⟨p, 0, none⟩), .int .i64 (k : Int)] w1 _) := tisref_is k w1 H1.out.1 (HO.out _) hq1
      go_wp2_with fail
      refine CR.out.mono ?_
      rintro e w2 ⟨rfl, rfl⟩
      simp only []
      cases hr : isR d.arr R k
      · have fz := H1.out.1.b.fz
        clear CR
        go_wp2
        go_roundg (gk - 1)
        case measure => have := HM.out; omega
        case rel =>
          have := HM.out
          refine ⟨k + 1, by omega, by omega, by have := HL.out.1; omega, fun j h1 h2 => ?_, ?_, ?_⟩
          · by_cases e : j = k
            · subst e; exact ⟨hq1, hq2, hr⟩
            · exact HH.out.1 j h1 (by omega)
          · exact H1.out.1.put (i := 20) rfl _ (by simp [tdl]) rfl rfl
          · exact H1.out.2.setCell (by simp) _
      · clear CR
        go_wp2
        go_ret2
        exact ⟨k, true, rfl, ⟨hk, HH.out.1, fun _ => ⟨hq1, hq2, hr⟩, (fun q => by cases q)⟩, H1.out.1, H1.out.2⟩
    · have HQ : Hid (¬ (k < nS d ∧ plA d.arr (nS d) k = nth)) := hq
      by_cases hq1 : k < nS d
      · have e1 : decide (k < nS d) = true := by simpa using hq1
        have e3 : (((plA d.arr (nS d) k : Nat) : Int) == (nth : Int)) = false := by
          have : ¬ plA d.arr (nS d) k = nth := fun x => hq ⟨hq1, x⟩
          simp; omega
        have e4 : (((plA d.arr (nS d) k : Nat) : Int) != (nth : Int)) = true := by simp [bne, e3]
        rw [e1]
        clear hq
        generalize plA d.arr (nS d) k = A at e3 e4 ⊢
        go_wp2
        go_ret2
        exact ⟨k, false, rfl, ⟨hk, HH.out.1, (fun q => by cases q), fun _ => HQ.out⟩, H1.out.1, H1.out.2⟩
      · have e1 : decide (k < nS d) = false := by simpa using hq1
        rw [e1]
        clear hq
        go_wp2
        go_ret2
        exact ⟨k, false, rfl, ⟨hk, HH.out.1, (fun q => by cases q), fun _ => HQ.out⟩, H1.out.1, H1.out.2⟩
end
end Go.Proofs.YtpdclckgnajcdaaGreat
