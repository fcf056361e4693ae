/-
  Contracts of the document's hands (package sporef13).
-/
import Derived.Test.YtemaaefcnadmfaaHand
namespace Go.Proofs.Ytemaaefcnadmfaa
open Go.RowKit

abbrev RH := HTab 44

set_option maxHeartbeats 400000 in
theorem rnone_any (s : Int) (w : World) : Calls Try.prog 26 #[.int .i64 s] w fun e w' => e = .returned (.bool (!kn s)) ∧ w' = w := by
  cases hk : kn s
  · have h1 := kn_no hk
    by_cases h0 : 0 ≤ s
    · have h2 : ¬ s ≤ 4 := fun q => h1 ⟨h0, q⟩
      clear h1 hk
      go_enter Try.func26, Try.ntmps26
      go_wp2
      go_ret
      exact ⟨rfl, rfl⟩
    · clear h1 hk
      go_enter Try.func26, Try.ntmps26
      go_wp2
      go_ret
      exact ⟨rfl, rfl⟩
  · obtain ⟨h0, h1⟩ := kn_yes hk
    have q0 : decide (s < 0) = false := decide_eq_false (by omega)
    have q1 : decide (4 < s) = false := decide_eq_false (by omega)
    clear hk h0 h1
    go_enter Try.func26, Try.ntmps26
    go_wp2
    go_ret
    exact ⟨rfl, rfl⟩

set_option maxHeartbeats 400000 in
theorem rown_any {b g c : Nat} {S : Hs} (i : Int) (w : World) (h : RH w b g c S) :
    Calls Try.prog 23 #[.pointer (some ⟨b, 0, none⟩), .int .i64 i] w fun e w' => e = .returned (.int .i64 (S.own i)) ∧ w' = w := by
  have c2 := h.c2
  have few := h.ok.few
  cases hi : S.may i
  · simp only [Hs.own, Hs.is_out hi, Bool.false_eq_true, if_false]
    have h1 := Hs.may_no hi
    by_cases h0 : 0 ≤ i
    · have h2 : ¬ i < (S.n : Int) := fun q => h1 ⟨h0, q⟩
      clear h h1 hi
      go_enter Try.func23, Try.ntmps23
      go_wp2
      go_ret
      exact ⟨rfl, rfl⟩
    · clear h h1 hi
      go_enter Try.func23, Try.ntmps23
      go_wp2
      go_ret
      exact ⟨rfl, rfl⟩
  · obtain ⟨k, rfl, hk⟩ := Hs.may_yes hi
    have c4 := h.at hk
    have e : S.own k = S.O k := Hs.own_at hk
    rw [e]
    clear h hi e
    go_enter Try.func23, Try.ntmps23
    go_wp2
    go_ret
    exact ⟨rfl, rfl⟩

set_option maxHeartbeats 800000 in
theorem rpost_any {b g c : Nat} {S : Hs} (s : Int) (f : Bool) (w : World) (h : RH w b g c S) (hc : S.ct < 1000000000) :
    Calls Try.prog 11 #[.pointer (some ⟨b, 0, none⟩), .int .i64 s, .bool f] w fun e w' => e = .returned (.bool (kn s)) ∧ RH w' b g c (S.post s f) ∧ Mut [b, g] w w' := by
  have H1 : Hid (RH (w.setCell ⟨b, 3, none⟩ (.int .i64 (S.ct + 1))) b g c S.tick ∧ Mut [b, g] w (w.setCell ⟨b, 3, none⟩ (.int .i64 (S.ct + 1)))) := ⟨h.tick, (Mut.refl _ _).setCell (by simp) _⟩
  have c3 := h.c3
  have cf := h.fz
  have k0 := h.ok.cnt
  have HO := Hs.post_ok h.ok s f
  clear h
  cases hk : kn s
  · have e : S.post s f = S.tick := by simp [Hs.post, hk]
    rw [e]
    clear e HO
    go_enter Try.func11, Try.ntmps11
    go_wp2_with fail
    clear c3 cf
    generalize w.setCell _ _ = w1 at *
    have K := rnone_any s w1
    rw [hk] at K
    clear hk
    refine K.mono ?_
    rintro e w2 ⟨rfl, rfl⟩
    go_wp2
    go_ret
    exact ⟨rfl, H1.out⟩
  · have e : S.post s f = { S.tick with st := s, se := (S.se != f) } := by simp [Hs.post, hk]
    rw [e] at HO ⊢
    have HO : Hid _ := HO
    clear e
    go_enter Try.func11, Try.ntmps11
    go_wp2_with fail
    clear c3 cf
    generalize w.setCell _ _ = w1 at *
    have K := rnone_any s w1
    rw [hk] at K
    clear hk
    refine K.mono ?_
    rintro e w2 ⟨rfl, rfl⟩
    have HA : Hid (RH (w2.setCell ⟨b, 0, none⟩ (.int .i64 s)) b g c { S.tick with st := s }) := H1.out.1.turn rfl rfl rfl ⟨HO.out.few, HO.out.own, HO.out.sts, HO.out.cnt⟩
    have HB : Hid (RH ((w2.setCell ⟨b, 0, none⟩ (.int .i64 s)).setCell ⟨b, 1, none⟩ (.bool (S.se != f))) b g c { S.tick with st := s, se := (S.se != f) }) := HA.out.turn rfl rfl rfl HO.out
    have cf := H1.out.1.fz
    have c0 := H1.out.1.c0
    have cg := HA.out.fz
    have c1 : (w2.setCell ⟨b, 0, none⟩ (.int .i64 s)).cell? ⟨b, 1, none⟩ = some (.bool S.se) := HA.out.c1
    go_wp2
    go_ret
    exact ⟨rfl, HB.out, (H1.out.2.setCell (by simp) _).setCell (by simp) _⟩

set_option maxHeartbeats 800000 in
theorem rlook_any {b g c : Nat} {S : Hs} (w : World) (h : RH w b g c S) (hc : S.ct < 1000000000) :
    Calls Try.prog 13 #[.pointer (some ⟨b, 0, none⟩)] w fun e w' => e = .returned (.tuple #[.int .i64 S.st, .bool S.se]) ∧ RH w' b g c S.tick ∧ Mut [b, g] w w' := by
  have H1 : Hid (RH (w.setCell ⟨b, 3, none⟩ (.int .i64 (S.ct + 1))) b g c S.tick ∧ Mut [b, g] w (w.setCell ⟨b, 3, none⟩ (.int .i64 (S.ct + 1)))) := ⟨h.tick, (Mut.refl _ _).setCell (by simp) _⟩
  have c3 := h.c3
  have cf := h.fz
  have k0 := h.ok.cnt
  clear h
  go_enter Try.func13, Try.ntmps13
  go_upto_region 2 with fail
  clear c3 cf
  generalize w.setCell _ _ = w1 at *
  have c0 : w1.cell? ⟨b, 0, none⟩ = some (.int .i64 S.st) := H1.out.1.c0
  have c1 : w1.cell? ⟨b, 1, none⟩ = some (.bool S.se) := H1.out.1.c1
  go_region
  all_goals go_wp2
  all_goals go_ret2
  all_goals exact ⟨rfl, H1.out.1.kept (Kept.refl _).drew, H1.out.2.drew⟩

set_option maxHeartbeats 800000 in
theorem rleave_any {b g c : Nat} {S : Hs} (i : Int) (w : World) (h : RH w b g c S) (hc : S.ct < 1000000000) :
    Calls Try.prog 21 #[.pointer (some ⟨b, 0, none⟩), .int .i64 i] w fun e w' => e = .returned (.bool (S.is i)) ∧ RH w' b g c (S.leave i) ∧ Mut [b, g] w w' := by
  have H1 : Hid (RH (w.setCell ⟨b, 3, none⟩ (.int .i64 (S.ct + 1))) b g c S.tick ∧ Mut [b, g] w (w.setCell ⟨b, 3, none⟩ (.int .i64 (S.ct + 1)))) := ⟨h.tick, (Mut.refl _ _).setCell (by simp) _⟩
  have c3 := h.c3
  have cf := h.fz
  have k0 := h.ok.cnt
  cases hi : S.is i
  · have e : S.leave i = S.tick := by simp [Hs.leave, hi]
    rw [e]
    clear e h
    go_enter Try.func21, Try.ntmps21
    go_wp2_with fail
    clear c3 cf
    generalize w.setCell _ _ = w1 at *
    have K := rown_any i w1 H1.out.1
    rw [Hs.tick_own, Hs.own_no hi] at K
    clear hi
    refine K.mono ?_
    rintro e w2 ⟨rfl, rfl⟩
    go_wp2
    go_ret
    exact ⟨rfl, H1.out⟩
  · obtain ⟨k, rfl, hk, ho⟩ := Hs.is_yes hi
    have hlo := (h.ok.own k hk).1
    have e : S.leave k = S.tick.put k (-1) := by simp [Hs.leave, hi]
    rw [e]
    clear e h
    go_enter Try.func21, Try.ntmps21
    go_wp2_with fail
    clear c3 cf
    generalize w.setCell _ _ = w1 at *
    have K := rown_any k w1 H1.out.1
    rw [Hs.tick_own, Hs.own_at hk] at K
    clear hi
    refine K.mono ?_
    rintro e w2 ⟨rfl, rfl⟩
    have HP : Hid (RH (w2.setCell ⟨g, k, none⟩ (.int .i64 (-1))) b g c (S.tick.put k (-1))) := H1.out.1.put k (by omega)
    have c2 := H1.out.1.c2
    have few := H1.out.1.ok.few
    have c4 := H1.out.1.at hk
    have cg := H1.out.1.fg
    have nn : S.tick.n = S.n := rfl
    rw [nn] at c2 few
    clear nn
    go_wp2
    go_ret
    exact ⟨rfl, HP.out, H1.out.2.setCell (by simp) _⟩

set_option maxHeartbeats 800000 in
theorem rans_any {b g c : Nat} {S : Hs} (i s : Int) (w : World) (h : RH w b g c S) (hc : S.ct < 1000000000) :
    Calls Try.prog 15 #[.pointer (some ⟨b, 0, none⟩), .int .i64 i, .int .i64 s] w fun e w' => e = .returned (.bool (S.is i && kn s)) ∧ RH w' b g c (S.ans i s) ∧ Mut [b, g] w w' := by
  have H1 : Hid (RH (w.setCell ⟨b, 3, none⟩ (.int .i64 (S.ct + 1))) b g c S.tick ∧ Mut [b, g] w (w.setCell ⟨b, 3, none⟩ (.int .i64 (S.ct + 1)))) := ⟨h.tick, (Mut.refl _ _).setCell (by simp) _⟩
  have c3 := h.c3
  have cf := h.fz
  have k0 := h.ok.cnt
  cases hi : S.is i
  · have e : S.ans i s = S.tick := by simp [Hs.ans, hi]
    rw [e, Bool.false_and]
    clear e h
    go_enter Try.func15, Try.ntmps15
    go_wp2_with fail
    clear c3 cf
    generalize w.setCell _ _ = w1 at *
    have K := rown_any i w1 H1.out.1
    rw [Hs.tick_own, Hs.own_no hi] at K
    clear hi
    refine K.mono ?_
    rintro e w2 ⟨rfl, rfl⟩
    go_wp2
    go_ret
    exact ⟨rfl, H1.out⟩
  · obtain ⟨k, rfl, hk, ho⟩ := Hs.is_yes hi
    have hlo := (h.ok.own k hk).1
    rw [Bool.true_and]
    cases hs : kn s
    · have e : S.ans k s = S.tick := by simp [Hs.ans, hs]
      rw [e]
      clear e h
      go_enter Try.func15, Try.ntmps15
      go_wp2_with fail
      clear c3 cf
      generalize w.setCell _ _ = w1 at *
      have K := rown_any k w1 H1.out.1
      rw [Hs.tick_own, Hs.own_at hk] at K
      clear hi
      refine K.mono ?_
      rintro e w2 ⟨rfl, rfl⟩
      go_wp2_with fail
      have K := rnone_any s w2
      rw [hs] at K
      clear hs
      refine K.mono ?_
      rintro e w3 ⟨rfl, rfl⟩
      go_wp2
      go_ret
      exact ⟨rfl, H1.out⟩
    · have e : S.ans k s = S.tick.put k s := by simp [Hs.ans, hs, hi]
      rw [e]
      clear e h
      have hv := kn_yes hs
      go_enter Try.func15, Try.ntmps15
      go_wp2_with fail
      clear c3 cf
      generalize w.setCell _ _ = w1 at *
      have K := rown_any k w1 H1.out.1
      rw [Hs.tick_own, Hs.own_at hk] at K
      clear hi
      refine K.mono ?_
      rintro e w2 ⟨rfl, rfl⟩
      go_wp2_with fail
      have K := rnone_any s w2
      rw [hs] at K
      clear hs
      refine K.mono ?_
      rintro e w3 ⟨rfl, rfl⟩
      have HP : Hid (RH (w3.setCell ⟨g, k, none⟩ (.int .i64 s)) b g c (S.tick.put k s)) := H1.out.1.put k (by omega)
      have c2 := H1.out.1.c2
      have few := H1.out.1.ok.few
      have c4 := H1.out.1.at hk
      have cg := H1.out.1.fg
      have nn : S.tick.n = S.n := rfl
      rw [nn] at c2 few
      clear nn
      go_wp2
      go_ret
      exact ⟨rfl, HP.out, H1.out.2.setCell (by simp) _⟩

set_option maxHeartbeats 800000 in
theorem rpoll_any {b g c : Nat} {S : Hs} (i : Int) (w : World) (h : RH w b g c S) (hc : S.ct < 1000000000) :
    Calls Try.prog 17 #[.pointer (some ⟨b, 0, none⟩), .int .i64 i] w fun e w' => e = .returned (.bool (S.poll i)) ∧ RH w' b g c (S.tick) ∧ Mut [b, g] w w' := by
  have H1 : Hid (RH (w.setCell ⟨b, 3, none⟩ (.int .i64 (S.ct + 1))) b g c S.tick ∧ Mut [b, g] w (w.setCell ⟨b, 3, none⟩ (.int .i64 (S.ct + 1)))) := ⟨h.tick, (Mut.refl _ _).setCell (by simp) _⟩
  have c3 := h.c3
  have cf := h.fz
  have k0 := h.ok.cnt
  cases hi : S.is i
  · have e : S.poll i = true := by simp [Hs.poll, hi]
    rw [e]
    clear e h
    go_enter Try.func17, Try.ntmps17
    go_upto_region 2 with fail
    clear c3 cf
    generalize w.setCell _ _ = w1 at *
    have C1 : Hid (∀ q : KW w1, _) := fun q => rown_any i q.it (H1.out.1.kept q.ok)
    simp only [Hs.tick_own, Hs.own_no hi] at C1
    clear hi
    refine wp_region_kept (by kernel_rfl) (by kernel_rfl) fun _ => ?_
    repeat (go_big_quiet_step (first | (go_at_call 23; exact kept_of_same (C1.out _))))
    refine wpQuiet_nil ?_
    rintro _ ⟨q, rfl⟩
    go_wp2
    go_ret
    exact ⟨rfl, H1.out.1.kept q.ok, H1.out.2.trans q.ok.mut⟩
  · obtain ⟨k, rfl, hk, ho⟩ := Hs.is_yes hi
    have hlo := (h.ok.own k hk).1
    have e : S.poll k = (S.O k == S.st) := by simp [Hs.poll, hi]
    rw [e]
    clear e h
    go_enter Try.func17, Try.ntmps17
    go_upto_region 2 with fail
    clear c3 cf
    generalize w.setCell _ _ = w1 at *
    have C1 : Hid (∀ q : KW w1, _) := fun q => rown_any k q.it (H1.out.1.kept q.ok)
    simp only [Hs.tick_own, Hs.own_at hk] at C1
    clear hi
    have few := H1.out.1.ok.few
    have nn : S.tick.n = S.n := rfl
    rw [nn] at few
    clear nn
    have hz : decide (S.O k < 0) = false := decide_eq_false (by omega)
    have d0 : ∀ q : KW w1, q.it.cell? ⟨b, 0, none⟩ = some (.int .i64 S.st) := fun q => (H1.out.1.kept q.ok).c0
    have d2 : ∀ q : KW w1, q.it.cell? ⟨b, 2, none⟩ = some (.slice (some ⟨g, 0, none⟩) S.n c) := fun q => (H1.out.1.kept q.ok).c2
    have d4 : ∀ q : KW w1, q.it.cell? ⟨g, k, none⟩ = some (.int .i64 (S.O k)) := fun q => (H1.out.1.kept q.ok).at hk
    refine wp_region_kept (by kernel_rfl) (by kernel_rfl) fun _ => ?_
    repeat (go_big_quiet_step (first | (go_at_call 23; exact kept_of_same (C1.out _))))
    refine wpQuiet_nil ?_
    rintro _ ⟨q, rfl⟩
    go_wp2
    go_ret
    exact ⟨rfl, H1.out.1.kept q.ok, H1.out.2.trans q.ok.mut⟩

set_option maxHeartbeats 800000 in
theorem rjoin_any {b g c : Nat} {S : Hs} (i : Int) (w : World) (h : RH w b g c S) (hc : S.ct < 1000000000) :
    Calls Try.prog 19 #[.pointer (some ⟨b, 0, none⟩), .int .i64 i] w fun e w' => e = .returned (.tuple #[.int .i64 (S.jst i), .bool (S.jse i), .bool (S.can i)]) ∧ RH w' b g c (S.join i) ∧ Mut [b, g] w w' := by
  have H1 : Hid (RH (w.setCell ⟨b, 3, none⟩ (.int .i64 (S.ct + 1))) b g c S.tick ∧ Mut [b, g] w (w.setCell ⟨b, 3, none⟩ (.int .i64 (S.ct + 1)))) := ⟨h.tick, (Mut.refl _ _).setCell (by simp) _⟩
  have c3 := h.c3
  have cf := h.fz
  have k0 := h.ok.cnt
  have HV : Hid (-1 ≤ S.st ∧ S.st ≤ 4) := ⟨by have := h.ok.sts; omega, h.ok.sts.2⟩
  have few0 := h.ok.few
  cases hm : S.may i
  · have hn : S.can i = false := by simp [Hs.can, hm]
    have e : S.join i = S.tick := by simp [Hs.join, hn]
    simp only [e, Hs.jst, Hs.jse, hn, Bool.false_eq_true, if_false, Bool.false_and]
    clear e hn h HV
    have h1 := Hs.may_no hm
    clear hm
    by_cases h0 : 0 ≤ i
    · have h2 : ¬ i < (S.n : Int) := fun q => h1 ⟨h0, q⟩
      clear h1
      go_enter Try.func19, Try.ntmps19
      go_upto_region 2 with fail
      clear c3 cf
      generalize w.setCell _ _ = w1 at *
      have c2 : w1.cell? ⟨b, 2, none⟩ = some (.slice (some ⟨g, 0, none⟩) S.n c) := H1.out.1.c2
      go_wp2
      go_ret3
      exact ⟨rfl, H1.out⟩
    · clear h1
      go_enter Try.func19, Try.ntmps19
      go_upto_region 2 with fail
      clear c3 cf
      generalize w.setCell _ _ = w1 at *
      have c2 : w1.cell? ⟨b, 2, none⟩ = some (.slice (some ⟨g, 0, none⟩) S.n c) := H1.out.1.c2
      go_wp2
      go_ret3
      exact ⟨rfl, H1.out⟩
  · obtain ⟨k, rfl, hk⟩ := Hs.may_yes hm
    cases hi : S.is k
    · have hn : S.can k = true := by simp [Hs.can, hm, hi]
      have e : S.join k = S.tick.put k S.st := by simp [Hs.join, hn]
      simp only [e, Hs.jst, Hs.jse, hn, if_true, Bool.true_and]
      clear e hn h
      rw [Hs.is_at hk] at hi
      have ho : S.O k = -1 := by simpa using hi
      clear hi hm
      go_enter Try.func19, Try.ntmps19
      go_upto_region 2 with fail
      clear c3 cf
      generalize w.setCell _ _ = w1 at *
      have c2 : w1.cell? ⟨b, 2, none⟩ = some (.slice (some ⟨g, 0, none⟩) S.n c) := H1.out.1.c2
      have c4 : w1.cell? ⟨g, k, none⟩ = some (.int .i64 (-1)) := by rw [← ho]; exact H1.out.1.at hk
      clear ho
      go_upto_region 4 with fail
      have c2 := H1.out.1.c2
      have c0 : w1.cell? ⟨b, 0, none⟩ = some (.int .i64 S.st) := H1.out.1.c0
      have few := H1.out.1.ok.few
      have cg := H1.out.1.fg
      have HP : Hid (RH (w1.setCell ⟨g, k, none⟩ (.int .i64 S.st)) b g c (S.tick.put k S.st) ∧ Mut [b, g] w (w1.setCell ⟨g, k, none⟩ (.int .i64 S.st))) := ⟨H1.out.1.put k HV.out, H1.out.2.setCell (by simp) _⟩
      have nn : S.tick.n = S.n := rfl
      rw [nn] at c2 few
      clear nn
      go_region
      all_goals go_upto_region 5 with fail
      all_goals clear c0 c2 c4 cg
      all_goals generalize w1.setCell _ _ = w5 at *
      all_goals have c0 : w5.cell? ⟨b, 0, none⟩ = some (.int .i64 S.st) := HP.out.1.c0
      all_goals have c1 : w5.cell? ⟨b, 1, none⟩ = some (.bool S.se) := HP.out.1.c1
      all_goals go_region
      all_goals go_wp2
      all_goals go_ret3
      all_goals exact ⟨rfl, HP.out.1.kept (Kept.refl _).drew.drew, HP.out.2.drew.drew⟩
    · have hn : S.can k = false := by simp [Hs.can, hi]
      have ho : S.O k ≠ -1 := by rw [Hs.is_at hk] at hi; simpa using hi
      have hlo := (h.ok.own k hk).1
      have e : S.join k = S.tick := by simp [Hs.join, hn]
      simp only [e, Hs.jst, Hs.jse, hn, Bool.false_eq_true, if_false, Bool.false_and]
      clear e hn h HV
      clear hi hm
      go_enter Try.func19, Try.ntmps19
      go_upto_region 2 with fail
      clear c3 cf
      generalize w.setCell _ _ = w1 at *
      have c2 : w1.cell? ⟨b, 2, none⟩ = some (.slice (some ⟨g, 0, none⟩) S.n c) := H1.out.1.c2
      have c4 : w1.cell? ⟨g, k, none⟩ = some (.int .i64 (S.O k)) := H1.out.1.at hk
      go_wp2
      go_ret3
      exact ⟨rfl, H1.out⟩
end Go.Proofs.Ytemaaefcnadmfaa
