/-
  HandRounds: the walk.
-/
import Derived.Test.YtemaaefcnadmfaaMo18
import Derived.Test.YtemaaefcnadmfaaElems
import Derived.Test.YtemaaefcnadmfaaPhase
import Derived.Deep.CutBlock
namespace Go.Proofs.Ytemaaefcnadmfaa
open Go.RowKit

/-- Behind t joins: those ahead are there, still. -/
structure Jn (n t : Nat) (S : Hs) : Prop where
  en : S.n = n
  st : S.st = 0
  own : ∀ j : Nat, j < n → S.O j = if j < t then 0 else -1
  ct : S.ct = 2 * (t : Int)
theorem Jn.can {n t : Nat} {S : Hs} (h : Jn n t S) (ht : t < n) : S.can t = true := by
  have h1 := h.own t ht
  simp at h1
  simp [Hs.can, Hs.may, Hs.is, h.en, ht, h1]
theorem Jn.join {n t : Nat} {S : Hs} (h : Jn n t S) (ht : t < n) : S.join t = S.tick.put t 0 := by
  simp [Hs.join, h.can ht, h.st]
theorem Jn.poll {n t : Nat} {S : Hs} (h : Jn n t S) (ht : t < n) : (S.join t).poll t = true := by
  rw [h.join ht]
  simp [Hs.poll, Hs.put, Hs.tick, h.st]
theorem Jn.next {n t : Nat} {S : Hs} (h : Jn n t S) (ht : t < n) : Jn n (t + 1) (S.join t).tick := by
  rw [h.join ht]
  refine ⟨h.en, h.st, fun j hj => ?_, ?_⟩
  · by_cases e : j = t
    · simp [Hs.tick, Hs.put, e]
    · have := h.own j hj
      simp only [Hs.tick, Hs.put, e, if_false, this]
      have : (j < t + 1) = (j < t) := by simp; omega
      simp only [this]
  · simp only [Hs.tick, Hs.put, h.ct]
    omega
theorem Jn.jct {n t : Nat} {S : Hs} (h : Jn n t S) : (S.join t).ct = 2 * (t : Int) + 1 := by rw [Hs.join_ct, h.ct]

/-- All n are there; s is posted; at most c calls so far. -/
structure Ro (n : Nat) (s c : Int) (S : Hs) : Prop where
  en : S.n = n
  st : S.st = s
  own : ∀ j : Nat, j < n → 0 ≤ S.O j
  ct : S.ct ≤ c
section
variable {n k : Nat} {s s' c c' : Int} {f : Bool} {S : Hs}
theorem Ro.le (h : Ro n s c S) (hc : c ≤ c') : Ro n s c' S := ⟨h.en, h.st, h.own, Int.le_trans h.ct hc⟩
theorem Ro.is (h : Ro n s c S) (hk : k < n) : S.is k = true := by
  have h1 := h.own k hk
  simp [Hs.is, Hs.may, h.en, hk]
  omega
theorem Ro.tick (h : Ro n s c S) : Ro n s (c + 1) S.tick := ⟨h.en, h.st, h.own, by have := h.ct; simp only [Hs.tick]; omega⟩
theorem Ro.post_is (hs : kn s = true) : S.post s f = { S.tick with st := s, se := (S.se != f) } := by simp [Hs.post, hs]
theorem Ro.post (h : Ro n s' c S) (hs : kn s = true) : Ro n s (c + 1) (S.post s f) := by
  rw [Ro.post_is hs]
  exact ⟨h.en, rfl, h.own, h.tick.ct⟩
theorem Ro.ans_is (h : Ro n s c S) (hk : k < n) (hs : kn s' = true) : S.ans k s' = S.tick.put k s' := by simp [Hs.ans, h.is hk, hs]
theorem Ro.ans (h : Ro n s c S) (hk : k < n) (hs : kn s' = true) : Ro n s (c + 1) (S.ans k s') := by
  rw [h.ans_is hk hs]
  refine ⟨h.en, h.st, fun j hj => ?_, h.tick.ct⟩
  simp only [Hs.put]
  split
  · exact (kn_yes hs).1
  · exact h.own j hj
theorem Ro.out (h : Ro n s c S) {i : Int} (hi : ¬ (0 ≤ i ∧ i < (n : Int))) : S.is i = false := by
  have e : S.may i = false := decide_eq_false (by rw [h.en]; exact hi)
  simp [Hs.is, e]
theorem Ro.poll (h : Ro n s c S) (hk : k < n) : S.poll k = (S.O k == s) := by simp [Hs.poll, h.is hk, h.st]
theorem Ro.owns (h : Ro n s c S) (hk : k < n) : S.own k = S.O k := by simp [Hs.own, h.is hk]
end

/-- Who is done has answered what is posted. -/
def Dn (n : Nat) (F : Nat → Bool) (S : Hs) : Prop := ∀ j : Nat, j < n → F j = (S.O j == S.st)
theorem Dn.ans {n k : Nat} {s c : Int} {F : Nat → Bool} {S : Hs} (h : Dn n F S) (r : Ro n s c S) (hk : k < n) (hs : kn s = true) : Dn n (upd F k true) (S.ans k s) := by
  rw [r.ans_is hk hs]
  intro j hj
  simp only [Hs.put, Hs.tick, upd]
  split
  · simp [r.st]
  · exact h j hj

/-- In the midst of 'h.Poll(k) != done[k]': operation 2 is the call. -/
def PollJ (w u : World) (b m : Nat) (F : Nat → Bool) (S : Hs) (d : Nat → Bool) : Prop := Mo w u b m F (if d 2 then S.tick else S)
section
variable {w u u' : World} {b m : Nat} {F : Nat → Bool} {S : Hs} {d : Nat → Bool}
theorem PollJ.plain (h : PollJ w u b m F S d) (i : Nat) (h9 : i ≠ 2) : PollJ w u b m F S (done d i) := by
  have e : done d i 2 = d 2 := by simp [done, Ne.symm h9]
  unfold PollJ
  rw [e]
  exact h
theorem PollJ.call (h : Mo w u' b m F S.tick) : PollJ w u' b m F S (done d 2) := by
  have e : done d 2 2 = true := by simp [done]
  unfold PollJ
  rw [e]
  exact h
theorem PollJ.cell (h : PollJ w u b m F S d) {k : Nat} (hk : k < 16) : u.cell? ⟨m, k, none⟩ = some (.bool (F k)) := by
  unfold PollJ at h
  split at h <;> exact h.at hk
end

set_option maxHeartbeats 2000000 in
set_option maxRecDepth 20000 in
theorem rounds_bad (n r : Int) (x : Option Addr) (l c : Nat) (w : World) (hn : ¬ (1 ≤ n ∧ n ≤ 16)) :
    Calls Try.prog 6 #[.int .i64 n, .int .i64 r, .slice x l c] w fun e w' => e = .returned (.bool true) ∧ Kept w w' := by
  have HN : Hid (∀ w, _) := fun w => hnew_bad n w hn
  clear hn
  go_enter Try.func6, Try.ntmps6
  go_wp2_with fail
  refine (first_any _).mono ?_
  rintro e w1 ⟨rfl, k1⟩
  have K1 : Hid (Kept w w1) := k1
  clear k1
  go_wp2_with fail
  refine (HN.out _).mono ?_
  rintro e w2 ⟨rfl, rfl⟩
  go_wp2_with fail
  refine (first_any _).mono ?_
  rintro e w3 ⟨rfl, k3⟩
  have K3 : Hid (Kept w w3) := K1.out.trans k3
  clear k3
  go_wp2
  go_ret
  exact ⟨rfl, K3.out⟩

set_option maxHeartbeats 2000000 in
set_option maxRecDepth 20000 in
theorem rounds_out (n : Nat) (r : Int) (x : Option Addr) (l c : Nat) (w : World) (h1 : 1 ≤ (n : Int)) (hn : (n : Int) ≤ 16) (ho : r < 0 ∨ (¬ r < 0 ∧ 20 < r) ∨ (¬ r < 0 ∧ ¬ 20 < r ∧ 100 < (l : Int))) :
    Calls Try.prog 6 #[.int .i64 (n : Int), .int .i64 r, .slice x l c] w fun e w' => e = .returned (.bool true) ∧ Kept w w' := by
  have HN : Hid (∀ u : World, Kept w u → _) := fun u q => mh_new (w := w) n u q h1 hn
  rcases ho with ho | ⟨ho, ho2⟩ | ⟨ho, ho2, ho3⟩
  all_goals go_enter Try.func6, Try.ntmps6
  all_goals go_wp2_with fail
  all_goals refine (first_any _).mono ?_
  all_goals rintro e w1 ⟨rfl, k1⟩
  all_goals have K1 : Hid (Kept w w1) := k1
  all_goals clear k1
  all_goals go_wp2_with fail
  all_goals refine (HN.out _ K1.out).mono ?_
  all_goals rintro e w2 ⟨b, rfl, t2⟩
  all_goals have K2 : Hid (Kept w w2) := t2.kept
  all_goals clear t2 K1
  all_goals go_wp2_with fail
  all_goals refine (first_any _).mono ?_
  all_goals rintro e w3 ⟨rfl, k3⟩
  all_goals have K3 : Hid (Kept w w3) := K2.out.trans k3
  all_goals clear k3
  all_goals go_wp2
  all_goals go_ret
  all_goals exact ⟨rfl, K3.out⟩

set_option maxHeartbeats 8000000 in
set_option maxRecDepth 20000 in
theorem rounds_in (n r : Nat) (x : Option Addr) (l c : Nat) (L : Nat → Int) (w : World) (hX : Ints w x l L) (h1 : 1 ≤ (n : Int)) (hn : (n : Int) ≤ 16) (hr : (r : Int) ≤ 20) (hl : (l : Int) ≤ 100) :
    Calls Try.prog 6 #[.int .i64 (n : Int), .int .i64 (r : Int), .slice x l c] w fun e w' => e = .returned (.bool true) ∧ Kept w w' := by
  have HN : Hid (∀ u : World, Kept w u → _) := fun u q => mh_new (w := w) n u q h1 hn
  have HX : Hid (Ints w x l L) := hX
  clear hX
  have d1 : decide ((n : Int) < 1) = false := decide_eq_false (by omega)
  have d2 : decide (16 < (n : Int)) = false := decide_eq_false (by omega)
  have d3 : decide ((r : Int) < 0) = false := decide_eq_false (by omega)
  have d4 : decide (20 < (r : Int)) = false := decide_eq_false (by omega)
  have d5 : decide (100 < (l : Int)) = false := decide_eq_false (by omega)
  go_enter Try.func6, Try.ntmps6
  go_wp2_with fail
  refine (first_any _).mono ?_
  rintro e w1 ⟨rfl, k1⟩
  have K1 : Hid (Kept w w1) := k1
  clear k1
  go_wp2_with fail
  refine (HN.out _ K1.out).mono ?_
  rintro e w2 ⟨b, rfl, t2⟩
  have H2 : Hid (Mh w w2 b (Hs.first n) ∧ Jn n 0 (Hs.first n)) := ⟨t2, rfl, rfl, fun j _ => by simp [Hs.first], by simp [Hs.first]⟩
  clear t2 K1 HN
  go_wp2
  go_loopg [9] n (fun m i wr => ∃ (t : Nat) (S : Hs), i = .int .i64 t ∧ t ≤ n ∧ m = n - t ∧ Hid (Mh w wr b S ∧ Jn n t S))
  case atStart => exact ⟨0, _, rfl, by omega, by omega, H2.out⟩
  case round =>
    obtain ⟨t, S, rfl, ht, hm, HR⟩ := hrel
    have HM : Hid _ := hm
    clear hm H2
    by_cases hlt : t < n
    · go_wp2_with fail
      have K := mh_join t HR.out.1 (by rw [HR.out.2.ct]; omega)
      rw [HR.out.2.can hlt] at K
      refine K.mono ?_
      rintro e w3 ⟨rfl, t3⟩
      have M3 : Hid (Mh w w3 b (S.join t)) := t3
      clear K t3
      generalize S.jst t = ja at *
      generalize S.jse t = jb at *
      go_wp2_with fail
      have K := mh_poll t M3.out (by rw [HR.out.2.jct]; omega)
      rw [HR.out.2.poll hlt] at K
      refine K.mono ?_
      rintro e w4 ⟨rfl, t4⟩
      have M4 : Hid (Mh w w4 b (S.join t).tick ∧ Jn n (t + 1) (S.join t).tick) := ⟨t4, HR.out.2.next hlt⟩
      clear K t4 M3 HR
      go_wp2
      go_roundg (n - (t + 1))
      all_goals (have := HM.out; try omega)
      exact ⟨t + 1, _, by go_num, by omega, by omega, M4.out⟩
    · obtain rfl : n = t := by omega
      have HB : Hid (Mh w wr b S ∧ Ro n 0 32 S ∧ ∀ j : Nat, j < n → S.O j = 0) := ⟨HR.out.1, ⟨HR.out.2.en, HR.out.2.st, fun j hj => by rw [HR.out.2.own j hj]; simp [hj], by rw [HR.out.2.ct]; omega⟩, fun j hj => by rw [HR.out.2.own j hj]; simp [hj]⟩
      clear HR HM
      go_wp2
      go_loopg [13] r (fun m i wr2 => ∃ (q : Nat) (S : Hs), i = .int .i64 ((q : Int) + 1) ∧ q ≤ r ∧ m = r - q ∧ Hid (Mh w wr2 b S ∧ Ro n ((q : Int) % 5) (32 + 2000 * q) S ∧ ∀ j : Nat, j < n → S.O j = (q : Int) % 5))
      case atStart => exact ⟨0, S, rfl, by omega, by omega, HB.out⟩
      case round =>
        obtain ⟨q, S, rfl, hq, hm, HR⟩ := hrel
        have HM : Hid _ := hm
        clear hm HB
        by_cases hlq : q < r
        · go_upto_region 16 with fail
          obtain ⟨s, hs⟩ : ∃ s, ((q : Int) + 1) % 5 = s := ⟨_, rfl⟩
          have HS : Hid (((q : Int) + 1) % 5 = s ∧ kn s = true ∧ (((q : Int) % 5) == s) = false) := ⟨hs, by subst hs; simp [kn]; omega, by subst hs; simp; omega⟩
          rw [hs]
          clear hs
          generalize hf : (s == 1) = fl at *
          clear hf
          go_wp2_with fail
          have K := mh_post s (s == 1) HR.out.1 (by have := HR.out.2.1.ct; omega)
          rw [HS.out.2.1] at K
          refine K.mono ?_
          rintro e w5 ⟨rfl, t5⟩
          have M5 : Hid (Mh w w5 b (S.post s (s == 1)) ∧ Ro n s (33 + 2000 * q) (S.post s (s == 1)) ∧ Dn n (fun _ => false) (S.post s (s == 1))) := ⟨t5, (HR.out.2.1.post HS.out.2.1).le (by omega), fun j hj => by
            rw [Ro.post_is HS.out.2.1]
            show false = (S.O j == s)
            rw [HR.out.2.2 j hj, HS.out.2.2]⟩
          clear K t5 HR
          generalize S.post s (s == 1) = S1 at *
          go_upto_block 4 with fail
          generalize hW : w5.alloc _ = W
          have HW : Hid (Mo w W b w5.heap.size (fun _ => false) S1 ∧ Ro n s (33 + 2000 * q) S1 ∧ Dn n (fun _ => false) S1) := ⟨by rw [← hW]; exact M5.out.1.row, M5.out.2⟩
          clear hW M5
          generalize w5.heap.size = dm at *
          go_wp2
          go_loopg [16] l (fun m i wr3 => ∃ (p : Nat) (F : Nat → Bool) (S : Hs), i = .int .i64 p ∧ p ≤ l ∧ m = l - p ∧ Hid (Mo w wr3 b dm F S ∧ Ro n s (33 + 2000 * q + 17 * p) S ∧ Dn n F S))
          case atStart => exact ⟨0, _, S1, rfl, by omega, by omega, HW.out.1, HW.out.2.1.le (by omega), HW.out.2.2⟩
          case round =>
            obtain ⟨p, F, S, rfl, hp, hm, HR⟩ := hrel
            have HM2 : Hid _ := hm
            clear hm HW
            by_cases hlp : p < l
            · obtain ⟨bx, ox, rfl, hbx, hcx⟩ := HX.out.at (by omega)
              have e0 : wr.cell? ⟨bx, ox + p, none⟩ = _ := (HR.out.1.kept.cell hbx).trans (hcx p hlp)
              clear hcx hbx HX
              generalize L p = i at *
              by_cases hi : 0 ≤ i ∧ i < (n : Int)
              · obtain ⟨t, rfl⟩ : ∃ t : Nat, i = t := ⟨i.toNat, by omega⟩
                have ht : t < n := by omega
                clear hi
                go_wp2_with fail
                have K := mo_ans t s HR.out.1 (by have := HR.out.2.1.ct; omega)
                rw [HR.out.2.1.is ht, HS.out.2.1, Bool.true_and] at K
                refine K.mono ?_
                rintro e w6 ⟨rfl, t6⟩
                have HW : Hid (Mo w (w6.setCell ⟨dm, t, none⟩ (.bool true)) b dm (upd F t true) (S.ans t s) ∧ Ro n s (34 + 2000 * q + 17 * p) (S.ans t s) ∧ Dn n (upd F t true) (S.ans t s)) := ⟨t6.put t true, (HR.out.2.1.ans ht HS.out.2.1).le (by omega), HR.out.2.2.ans HR.out.2.1 ht HS.out.2.1⟩
                have ct : w6.cell? ⟨dm, t, none⟩ = some (.bool (F t)) := t6.at (by omega)
                have cf := t6.fz
                have ht16 : t < 16 := by omega
                clear K t6 HR
                generalize S.ans t s = S1 at *
                go_upto_block 6 with fail
                clear ct cf e0
                generalize w6.setCell _ _ = W at *
                generalize upd F t true = F1 at *
                go_wp2
                go_loopg [18] n (fun m i wr4 => ∃ (k : Nat) (S : Hs), i = .int .i64 k ∧ k ≤ n ∧ m = n - k ∧ Hid (Mo w wr4 b dm F1 S ∧ Ro n s (34 + 2000 * q + 17 * p + k) S ∧ Dn n F1 S))
                case atStart => exact ⟨0, S1, rfl, by omega, by omega, HW.out.1, HW.out.2.1.le (by omega), HW.out.2.2⟩
                case round =>
                  obtain ⟨k, S, rfl, hk, hm, HR⟩ := hrel
                  have HM3 : Hid _ := hm
                  clear hm HW
                  by_cases hlk : k < n
                  · have hk16 : Hid (k < 16) := by show k < 16; omega
                    obtain ⟨pv, hpv⟩ : ∃ v, F1 k = v := ⟨_, rfl⟩
                    have HP : Hid (S.poll k = pv ∧ F1 k = pv) := ⟨by rw [HR.out.2.1.poll hlk, ← hpv, HR.out.2.2 k hlk, HR.out.2.1.st], hpv⟩
                    clear hpv
                    go_upto_region 30 with fail
                    refine wp_region_phase [(.pointer (some ⟨b, 0, none⟩)), (.int .i64 k), (.bool pv), (.int .i64 k), (.pointer (some ⟨dm, k, none⟩)), (.bool pv), (.bool false)] [(124, 0), (125, 1), (126, 2), (127, 3), (128, 4), (129, 5), (130, 6)] [_, _, _, _, _, _, _, _, _, _, _, _, _, _, _, _, _, _, _, _, _, _, _, _, _, _, _, _, _, _, _, _, _, _, _, _, _, _, _, _, _, _, _, _, _, _, _, _, _, _, _, _, _, _, _, _, _, _, _, _, _, _, _, _, _, _, _, _, _, _, _, _, _, _, _, _, _, _, _, _, _, _, _, _, _, _, _, _, _, _, _, _, _, _, _, _, _, _, _, _, _, _, _, _, _, _, _, _, _, _, _, _, _, _, _, _, _, _, _, _, _, _, _, _, _, _, _, _, _, _, _, _, _, _, _, _, _, _, _, _, _, _, _, _, _, _, _, _, _, _, _, _] (fun d u => PollJ w u b dm F1 S d) (by kernel_rfl) (by kernel_rfl) (by kernel_rfl) (by kernel_rfl) rfl ?_ ?_ ?_
                    · unfold PollJ; simpa using HR.out.1.still (Kept.refl _).drew
                    · intro i1 o ho a1 d u hh hj hi hd
                      match i1, ho, hi, hd with
                      | 0, ho, hi, hd =>
                        simp only [List.getElem?_cons_zero, Option.some.injEq] at ho
                        subst ho
                        have g7 : a1.tmps[7]? = some (.pointer (some ⟨b, 0, none⟩)) := hh.old 7 (by kernel_rfl) rfl
                        clear hh hd
                        have HN : Hid (PollJ w u b dm F1 S (done d 0)) := hj.plain 0 (by decide)
                        clear hj hi
                        refine wpOp_step rfl (fun K hK => ?_)
                        go_simp
                        exact hK _ _ ⟨by simp [Act.put], HN.out⟩
                      | 1, ho, hi, hd =>
                        simp only [List.getElem?_cons_succ, List.getElem?_cons_zero, Option.some.injEq] at ho
                        subst ho
                        have g18 : a1.tmps[18]? = some (.int .i64 k) := hh.old 18 (by kernel_rfl) rfl
                        clear hh hd
                        have HN : Hid (PollJ w u b dm F1 S (done d 1)) := hj.plain 1 (by decide)
                        clear hj hi
                        refine wpOp_step rfl (fun K hK => ?_)
                        go_simp
                        exact hK _ _ ⟨by simp [Act.put], HN.out⟩
                      | 2, ho, hi, hd =>
                        simp only [List.getElem?_cons_succ, List.getElem?_cons_zero, Option.some.injEq] at ho
                        subst ho
                        have g124 : a1.tmps[124]? = some (.pointer (some ⟨b, 0, none⟩)) := hh.did 0 _ 124 rfl rfl (hd { on := 0, ground := .data } (by simp) rfl)
                        have g125 : a1.tmps[125]? = some (.int .i64 k) := hh.did 1 _ 125 rfl rfl (hd { on := 1, ground := .data } (by simp) rfl)
                        clear hh hd
                        unfold PollJ at hj
                        simp only [hi, Bool.false_eq_true, if_false] at hj
                        have CA : Hid (Calls _ _ _ _ _) := mo_poll k hj (by have := HR.out.2.1.ct; omega)
                        rw [HP.out.1] at CA
                        clear hj hi
                        refine wpOp_step rfl (fun K hK => ?_)
                        go_simp
                        refine CA.out.mono ?_
                        rintro e u' ⟨rfl, t⟩
                        exact hK _ _ ⟨by simp [Act.put], PollJ.call t⟩
                      | 3, ho, hi, hd =>
                        simp only [List.getElem?_cons_succ, List.getElem?_cons_zero, Option.some.injEq] at ho
                        subst ho
                        have g18 : a1.tmps[18]? = some (.int .i64 k) := hh.old 18 (by kernel_rfl) rfl
                        clear hh hd
                        have HN : Hid (PollJ w u b dm F1 S (done d 3)) := hj.plain 3 (by decide)
                        clear hj hi
                        refine wpOp_step rfl (fun K hK => ?_)
                        go_simp
                        exact hK _ _ ⟨by simp [Act.put], HN.out⟩
                      | 4, ho, hi, hd =>
                        simp only [List.getElem?_cons_succ, List.getElem?_cons_zero, Option.some.injEq] at ho
                        subst ho
                        have g15 : a1.tmps[15]? = some (.pointer (some ⟨dm, 0, none⟩)) := hh.old 15 (by kernel_rfl) rfl
                        have g127 : a1.tmps[127]? = some (.int .i64 k) := hh.did 3 _ 127 rfl rfl (hd { on := 3, ground := .data } (by simp) rfl)
                        have hk16n : (k : Int) < 16 := by have := hk16.out; omega
                        clear hh hd
                        have HN : Hid (PollJ w u b dm F1 S (done d 4)) := hj.plain 4 (by decide)
                        clear hj hi
                        refine wpOp_step rfl (fun K hK => ?_)
                        go_simp
                        exact hK _ _ ⟨by simp [Act.put], HN.out⟩
                      | 5, ho, hi, hd =>
                        simp only [List.getElem?_cons_succ, List.getElem?_cons_zero, Option.some.injEq] at ho
                        subst ho
                        have g128 : a1.tmps[128]? = some (.pointer (some ⟨dm, k, none⟩)) := hh.did 4 _ 128 rfl rfl (hd { on := 4, ground := .data } (by simp) rfl)
                        have cc := hj.cell hk16.out
                        rw [HP.out.2] at cc
                        clear hh hd
                        have HN : Hid (PollJ w u b dm F1 S (done d 5)) := hj.plain 5 (by decide)
                        clear hj hi
                        refine wpOp_step rfl (fun K hK => ?_)
                        go_simp
                        exact hK _ _ ⟨by simp [Act.put], HN.out⟩
                      | 6, ho, hi, hd =>
                        simp only [List.getElem?_cons_succ, List.getElem?_cons_zero, Option.some.injEq] at ho
                        subst ho
                        have g126 : a1.tmps[126]? = some (.bool pv) := hh.did 2 _ 126 rfl rfl (hd { on := 2, ground := .data } (by simp) rfl)
                        have g129 : a1.tmps[129]? = some (.bool pv) := hh.did 5 _ 129 rfl rfl (hd { on := 5, ground := .data } (by simp) rfl)
                        have zz : (pv != pv) = false := by simp
                        clear hh hd
                        have HN : Hid (PollJ w u b dm F1 S (done d 6)) := hj.plain 6 (by decide)
                        clear hj hi
                        refine wpOp_step rfl (fun K hK => ?_)
                        go_simp
                        exact hK _ _ ⟨by simp [Act.put], HN.out⟩
                      | n + 7, ho, hi, hd => simp at ho
                    · intro u d hall hj
                      have h2 := hall 2 (by decide)
                      unfold PollJ at hj
                      rw [h2] at hj
                      simp only [if_true] at hj
                      have HE : Hid (Mo w u b dm F1 S.tick ∧ Ro n s (34 + 2000 * q + 17 * p + (k + 1 : Nat)) S.tick ∧ Dn n F1 S.tick) := ⟨hj, HR.out.2.1.tick.le (by omega), HR.out.2.2⟩
                      clear hall hj h2
                      simp only [List.getD_cons_succ, List.getD_cons_zero]
                      go_wp2
                      go_roundg (n - (k + 1))
                      all_goals (have := HM3.out; try omega)
                      exact ⟨k + 1, S.tick, by go_num, by omega, by omega, HE.out⟩
                  · obtain rfl : n = k := by omega
                    have HB : Hid (Mo w wr b dm F1 S ∧ Ro n s (33 + 2000 * q + 17 * (p + 1 : Nat)) S ∧ Dn n F1 S) := ⟨HR.out.1, HR.out.2.1.le (by omega), HR.out.2.2⟩
                    clear HR HM3
                    go_wp2
                    go_roundg (l - (p + 1))
                    all_goals (have := HM2.out; try omega)
                    exact ⟨p + 1, F1, S, by go_num, by omega, by omega, HB.out⟩
              · have ho : S.is i = false := HR.out.2.1.out hi
                have ho2 : S.ans i s = S.tick := by simp [Hs.ans, ho]
                have HO : Hid (S.ans i s = S.tick) := ho2
                clear ho2
                have hi2 : (0 ≤ i ∧ decide (i < (n : Int)) = false) ∨ decide (0 ≤ i) = false := by
                  by_cases h0 : 0 ≤ i
                  · exact .inl ⟨h0, decide_eq_false fun q => hi ⟨h0, q⟩⟩
                  · exact .inr (decide_eq_false h0)
                clear hi
                rcases hi2 with ⟨hi0, hi1⟩ | hi0
                · go_wp2_with fail
                  have K := mo_ans i s HR.out.1 (by have := HR.out.2.1.ct; omega)
                  rw [ho, Bool.false_and, HO.out] at K
                  refine K.mono ?_
                  rintro e w6 ⟨rfl, t6⟩
                  have HW : Hid (Mo w w6 b dm F S.tick ∧ Ro n s (34 + 2000 * q + 17 * p) S.tick ∧ Dn n F S.tick) := ⟨t6, HR.out.2.1.tick.le (by omega), HR.out.2.2⟩
                  clear K t6 HR
                  generalize S.tick = S1 at *
                  go_upto_block 6 with fail
                  clear e0
                  go_wp2
                  go_loopg [18] n (fun m i wr4 => ∃ (k : Nat) (S : Hs), i = .int .i64 k ∧ k ≤ n ∧ m = n - k ∧ Hid (Mo w wr4 b dm F S ∧ Ro n s (34 + 2000 * q + 17 * p + k) S ∧ Dn n F S))
                  case atStart => exact ⟨0, S1, rfl, by omega, by omega, HW.out.1, HW.out.2.1.le (by omega), HW.out.2.2⟩
                  case round =>
                    obtain ⟨k, S, rfl, hk, hm, HR⟩ := hrel
                    have HM3 : Hid _ := hm
                    clear hm HW
                    by_cases hlk : k < n
                    · have hk16 : Hid (k < 16) := by show k < 16; omega
                      obtain ⟨pv, hpv⟩ : ∃ v, F k = v := ⟨_, rfl⟩
                      have HP : Hid (S.poll k = pv ∧ F k = pv) := ⟨by rw [HR.out.2.1.poll hlk, ← hpv, HR.out.2.2 k hlk, HR.out.2.1.st], hpv⟩
                      clear hpv
                      go_upto_region 30 with fail
                      refine wp_region_phase [(.pointer (some ⟨b, 0, none⟩)), (.int .i64 k), (.bool pv), (.int .i64 k), (.pointer (some ⟨dm, k, none⟩)), (.bool pv), (.bool false)] [(124, 0), (125, 1), (126, 2), (127, 3), (128, 4), (129, 5), (130, 6)] [_, _, _, _, _, _, _, _, _, _, _, _, _, _, _, _, _, _, _, _, _, _, _, _, _, _, _, _, _, _, _, _, _, _, _, _, _, _, _, _, _, _, _, _, _, _, _, _, _, _, _, _, _, _, _, _, _, _, _, _, _, _, _, _, _, _, _, _, _, _, _, _, _, _, _, _, _, _, _, _, _, _, _, _, _, _, _, _, _, _, _, _, _, _, _, _, _, _, _, _, _, _, _, _, _, _, _, _, _, _, _, _, _, _, _, _, _, _, _, _, _, _, _, _, _, _, _, _, _, _, _, _, _, _, _, _, _, _, _, _, _, _, _, _, _, _, _, _, _, _, _, _] (fun d u => PollJ w u b dm F S d) (by kernel_rfl) (by kernel_rfl) (by kernel_rfl) (by kernel_rfl) rfl ?_ ?_ ?_
                      · unfold PollJ; simpa using HR.out.1.still (Kept.refl _).drew
                      · intro i1 o ho a1 d u hh hj hi hd
                        match i1, ho, hi, hd with
                        | 0, ho, hi, hd =>
                          simp only [List.getElem?_cons_zero, Option.some.injEq] at ho
                          subst ho
                          have g7 : a1.tmps[7]? = some (.pointer (some ⟨b, 0, none⟩)) := hh.old 7 (by kernel_rfl) rfl
                          clear hh hd
                          have HN : Hid (PollJ w u b dm F S (done d 0)) := hj.plain 0 (by decide)
                          clear hj hi
                          refine wpOp_step rfl (fun K hK => ?_)
                          go_simp
                          exact hK _ _ ⟨by simp [Act.put], HN.out⟩
                        | 1, ho, hi, hd =>
                          simp only [List.getElem?_cons_succ, List.getElem?_cons_zero, Option.some.injEq] at ho
                          subst ho
                          have g18 : a1.tmps[18]? = some (.int .i64 k) := hh.old 18 (by kernel_rfl) rfl
                          clear hh hd
                          have HN : Hid (PollJ w u b dm F S (done d 1)) := hj.plain 1 (by decide)
                          clear hj hi
                          refine wpOp_step rfl (fun K hK => ?_)
                          go_simp
                          exact hK _ _ ⟨by simp [Act.put], HN.out⟩
                        | 2, ho, hi, hd =>
                          simp only [List.getElem?_cons_succ, List.getElem?_cons_zero, Option.some.injEq] at ho
                          subst ho
                          have g124 : a1.tmps[124]? = some (.pointer (some ⟨b, 0, none⟩)) := hh.did 0 _ 124 rfl rfl (hd { on := 0, ground := .data } (by simp) rfl)
                          have g125 : a1.tmps[125]? = some (.int .i64 k) := hh.did 1 _ 125 rfl rfl (hd { on := 1, ground := .data } (by simp) rfl)
                          clear hh hd
                          unfold PollJ at hj
                          simp only [hi, Bool.false_eq_true, if_false] at hj
                          have CA : Hid (Calls _ _ _ _ _) := mo_poll k hj (by have := HR.out.2.1.ct; omega)
                          rw [HP.out.1] at CA
                          clear hj hi
                          refine wpOp_step rfl (fun K hK => ?_)
                          go_simp
                          refine CA.out.mono ?_
                          rintro e u' ⟨rfl, t⟩
                          exact hK _ _ ⟨by simp [Act.put], PollJ.call t⟩
                        | 3, ho, hi, hd =>
                          simp only [List.getElem?_cons_succ, List.getElem?_cons_zero, Option.some.injEq] at ho
                          subst ho
                          have g18 : a1.tmps[18]? = some (.int .i64 k) := hh.old 18 (by kernel_rfl) rfl
                          clear hh hd
                          have HN : Hid (PollJ w u b dm F S (done d 3)) := hj.plain 3 (by decide)
                          clear hj hi
                          refine wpOp_step rfl (fun K hK => ?_)
                          go_simp
                          exact hK _ _ ⟨by simp [Act.put], HN.out⟩
                        | 4, ho, hi, hd =>
                          simp only [List.getElem?_cons_succ, List.getElem?_cons_zero, Option.some.injEq] at ho
                          subst ho
                          have g15 : a1.tmps[15]? = some (.pointer (some ⟨dm, 0, none⟩)) := hh.old 15 (by kernel_rfl) rfl
                          have g127 : a1.tmps[127]? = some (.int .i64 k) := hh.did 3 _ 127 rfl rfl (hd { on := 3, ground := .data } (by simp) rfl)
                          have hk16n : (k : Int) < 16 := by have := hk16.out; omega
                          clear hh hd
                          have HN : Hid (PollJ w u b dm F S (done d 4)) := hj.plain 4 (by decide)
                          clear hj hi
                          refine wpOp_step rfl (fun K hK => ?_)
                          go_simp
                          exact hK _ _ ⟨by simp [Act.put], HN.out⟩
                        | 5, ho, hi, hd =>
                          simp only [List.getElem?_cons_succ, List.getElem?_cons_zero, Option.some.injEq] at ho
                          subst ho
                          have g128 : a1.tmps[128]? = some (.pointer (some ⟨dm, k, none⟩)) := hh.did 4 _ 128 rfl rfl (hd { on := 4, ground := .data } (by simp) rfl)
                          have cc := hj.cell hk16.out
                          rw [HP.out.2] at cc
                          clear hh hd
                          have HN : Hid (PollJ w u b dm F S (done d 5)) := hj.plain 5 (by decide)
                          clear hj hi
                          refine wpOp_step rfl (fun K hK => ?_)
                          go_simp
                          exact hK _ _ ⟨by simp [Act.put], HN.out⟩
                        | 6, ho, hi, hd =>
                          simp only [List.getElem?_cons_succ, List.getElem?_cons_zero, Option.some.injEq] at ho
                          subst ho
                          have g126 : a1.tmps[126]? = some (.bool pv) := hh.did 2 _ 126 rfl rfl (hd { on := 2, ground := .data } (by simp) rfl)
                          have g129 : a1.tmps[129]? = some (.bool pv) := hh.did 5 _ 129 rfl rfl (hd { on := 5, ground := .data } (by simp) rfl)
                          have zz : (pv != pv) = false := by simp
                          clear hh hd
                          have HN : Hid (PollJ w u b dm F S (done d 6)) := hj.plain 6 (by decide)
                          clear hj hi
                          refine wpOp_step rfl (fun K hK => ?_)
                          go_simp
                          exact hK _ _ ⟨by simp [Act.put], HN.out⟩
                        | n + 7, ho, hi, hd => simp at ho
                      · intro u d hall hj
                        have h2 := hall 2 (by decide)
                        unfold PollJ at hj
                        rw [h2] at hj
                        simp only [if_true] at hj
                        have HE : Hid (Mo w u b dm F S.tick ∧ Ro n s (34 + 2000 * q + 17 * p + (k + 1 : Nat)) S.tick ∧ Dn n F S.tick) := ⟨hj, HR.out.2.1.tick.le (by omega), HR.out.2.2⟩
                        clear hall hj h2
                        simp only [List.getD_cons_succ, List.getD_cons_zero]
                        go_wp2
                        go_roundg (n - (k + 1))
                        all_goals (have := HM3.out; try omega)
                        exact ⟨k + 1, S.tick, by go_num, by omega, by omega, HE.out⟩
                    · obtain rfl : n = k := by omega
                      have HB : Hid (Mo w wr b dm F S ∧ Ro n s (33 + 2000 * q + 17 * (p + 1 : Nat)) S ∧ Dn n F S) := ⟨HR.out.1, HR.out.2.1.le (by omega), HR.out.2.2⟩
                      clear HR HM3
                      go_wp2
                      go_roundg (l - (p + 1))
                      all_goals (have := HM2.out; try omega)
                      exact ⟨p + 1, F, S, by go_num, by omega, by omega, HB.out⟩
                · go_wp2_with fail
                  have K := mo_ans i s HR.out.1 (by have := HR.out.2.1.ct; omega)
                  rw [ho, Bool.false_and, HO.out] at K
                  refine K.mono ?_
                  rintro e w6 ⟨rfl, t6⟩
                  have HW : Hid (Mo w w6 b dm F S.tick ∧ Ro n s (34 + 2000 * q + 17 * p) S.tick ∧ Dn n F S.tick) := ⟨t6, HR.out.2.1.tick.le (by omega), HR.out.2.2⟩
                  clear K t6 HR
                  generalize S.tick = S1 at *
                  go_upto_block 6 with fail
                  clear e0
                  go_wp2
                  go_loopg [18] n (fun m i wr4 => ∃ (k : Nat) (S : Hs), i = .int .i64 k ∧ k ≤ n ∧ m = n - k ∧ Hid (Mo w wr4 b dm F S ∧ Ro n s (34 + 2000 * q + 17 * p + k) S ∧ Dn n F S))
                  case atStart => exact ⟨0, S1, rfl, by omega, by omega, HW.out.1, HW.out.2.1.le (by omega), HW.out.2.2⟩
                  case round =>
                    obtain ⟨k, S, rfl, hk, hm, HR⟩ := hrel
                    have HM3 : Hid _ := hm
                    clear hm HW
                    by_cases hlk : k < n
                    · have hk16 : Hid (k < 16) := by show k < 16; omega
                      obtain ⟨pv, hpv⟩ : ∃ v, F k = v := ⟨_, rfl⟩
                      have HP : Hid (S.poll k = pv ∧ F k = pv) := ⟨by rw [HR.out.2.1.poll hlk, ← hpv, HR.out.2.2 k hlk, HR.out.2.1.st], hpv⟩
                      clear hpv
                      go_upto_region 30 with fail
                      refine wp_region_phase [(.pointer (some ⟨b, 0, none⟩)), (.int .i64 k), (.bool pv), (.int .i64 k), (.pointer (some ⟨dm, k, none⟩)), (.bool pv), (.bool false)] [(124, 0), (125, 1), (126, 2), (127, 3), (128, 4), (129, 5), (130, 6)] [_, _, _, _, _, _, _, _, _, _, _, _, _, _, _, _, _, _, _, _, _, _, _, _, _, _, _, _, _, _, _, _, _, _, _, _, _, _, _, _, _, _, _, _, _, _, _, _, _, _, _, _, _, _, _, _, _, _, _, _, _, _, _, _, _, _, _, _, _, _, _, _, _, _, _, _, _, _, _, _, _, _, _, _, _, _, _, _, _, _, _, _, _, _, _, _, _, _, _, _, _, _, _, _, _, _, _, _, _, _, _, _, _, _, _, _, _, _, _, _, _, _, _, _, _, _, _, _, _, _, _, _, _, _, _, _, _, _, _, _, _, _, _, _, _, _, _, _, _, _, _, _] (fun d u => PollJ w u b dm F S d) (by kernel_rfl) (by kernel_rfl) (by kernel_rfl) (by kernel_rfl) rfl ?_ ?_ ?_
                      · unfold PollJ; simpa using HR.out.1.still (Kept.refl _).drew
                      · intro i1 o ho a1 d u hh hj hi hd
                        match i1, ho, hi, hd with
                        | 0, ho, hi, hd =>
                          simp only [List.getElem?_cons_zero, Option.some.injEq] at ho
                          subst ho
                          have g7 : a1.tmps[7]? = some (.pointer (some ⟨b, 0, none⟩)) := hh.old 7 (by kernel_rfl) rfl
                          clear hh hd
                          have HN : Hid (PollJ w u b dm F S (done d 0)) := hj.plain 0 (by decide)
                          clear hj hi
                          refine wpOp_step rfl (fun K hK => ?_)
                          go_simp
                          exact hK _ _ ⟨by simp [Act.put], HN.out⟩
                        | 1, ho, hi, hd =>
                          simp only [List.getElem?_cons_succ, List.getElem?_cons_zero, Option.some.injEq] at ho
                          subst ho
                          have g18 : a1.tmps[18]? = some (.int .i64 k) := hh.old 18 (by kernel_rfl) rfl
                          clear hh hd
                          have HN : Hid (PollJ w u b dm F S (done d 1)) := hj.plain 1 (by decide)
                          clear hj hi
                          refine wpOp_step rfl (fun K hK => ?_)
                          go_simp
                          exact hK _ _ ⟨by simp [Act.put], HN.out⟩
                        | 2, ho, hi, hd =>
                          simp only [List.getElem?_cons_succ, List.getElem?_cons_zero, Option.some.injEq] at ho
                          subst ho
                          have g124 : a1.tmps[124]? = some (.pointer (some ⟨b, 0, none⟩)) := hh.did 0 _ 124 rfl rfl (hd { on := 0, ground := .data } (by simp) rfl)
                          have g125 : a1.tmps[125]? = some (.int .i64 k) := hh.did 1 _ 125 rfl rfl (hd { on := 1, ground := .data } (by simp) rfl)
                          clear hh hd
                          unfold PollJ at hj
                          simp only [hi, Bool.false_eq_true, if_false] at hj
                          have CA : Hid (Calls _ _ _ _ _) := mo_poll k hj (by have := HR.out.2.1.ct; omega)
                          rw [HP.out.1] at CA
                          clear hj hi
                          refine wpOp_step rfl (fun K hK => ?_)
                          go_simp
                          refine CA.out.mono ?_
                          rintro e u' ⟨rfl, t⟩
                          exact hK _ _ ⟨by simp [Act.put], PollJ.call t⟩
                        | 3, ho, hi, hd =>
                          simp only [List.getElem?_cons_succ, List.getElem?_cons_zero, Option.some.injEq] at ho
                          subst ho
                          have g18 : a1.tmps[18]? = some (.int .i64 k) := hh.old 18 (by kernel_rfl) rfl
                          clear hh hd
                          have HN : Hid (PollJ w u b dm F S (done d 3)) := hj.plain 3 (by decide)
                          clear hj hi
                          refine wpOp_step rfl (fun K hK => ?_)
                          go_simp
                          exact hK _ _ ⟨by simp [Act.put], HN.out⟩
                        | 4, ho, hi, hd =>
                          simp only [List.getElem?_cons_succ, List.getElem?_cons_zero, Option.some.injEq] at ho
                          subst ho
                          have g15 : a1.tmps[15]? = some (.pointer (some ⟨dm, 0, none⟩)) := hh.old 15 (by kernel_rfl) rfl
                          have g127 : a1.tmps[127]? = some (.int .i64 k) := hh.did 3 _ 127 rfl rfl (hd { on := 3, ground := .data } (by simp) rfl)
                          have hk16n : (k : Int) < 16 := by have := hk16.out; omega
                          clear hh hd
                          have HN : Hid (PollJ w u b dm F S (done d 4)) := hj.plain 4 (by decide)
                          clear hj hi
                          refine wpOp_step rfl (fun K hK => ?_)
                          go_simp
                          exact hK _ _ ⟨by simp [Act.put], HN.out⟩
                        | 5, ho, hi, hd =>
                          simp only [List.getElem?_cons_succ, List.getElem?_cons_zero, Option.some.injEq] at ho
                          subst ho
                          have g128 : a1.tmps[128]? = some (.pointer (some ⟨dm, k, none⟩)) := hh.did 4 _ 128 rfl rfl (hd { on := 4, ground := .data } (by simp) rfl)
                          have cc := hj.cell hk16.out
                          rw [HP.out.2] at cc
                          clear hh hd
                          have HN : Hid (PollJ w u b dm F S (done d 5)) := hj.plain 5 (by decide)
                          clear hj hi
                          refine wpOp_step rfl (fun K hK => ?_)
                          go_simp
                          exact hK _ _ ⟨by simp [Act.put], HN.out⟩
                        | 6, ho, hi, hd =>
                          simp only [List.getElem?_cons_succ, List.getElem?_cons_zero, Option.some.injEq] at ho
                          subst ho
                          have g126 : a1.tmps[126]? = some (.bool pv) := hh.did 2 _ 126 rfl rfl (hd { on := 2, ground := .data } (by simp) rfl)
                          have g129 : a1.tmps[129]? = some (.bool pv) := hh.did 5 _ 129 rfl rfl (hd { on := 5, ground := .data } (by simp) rfl)
                          have zz : (pv != pv) = false := by simp
                          clear hh hd
                          have HN : Hid (PollJ w u b dm F S (done d 6)) := hj.plain 6 (by decide)
                          clear hj hi
                          refine wpOp_step rfl (fun K hK => ?_)
                          go_simp
                          exact hK _ _ ⟨by simp [Act.put], HN.out⟩
                        | n + 7, ho, hi, hd => simp at ho
                      · intro u d hall hj
                        have h2 := hall 2 (by decide)
                        unfold PollJ at hj
                        rw [h2] at hj
                        simp only [if_true] at hj
                        have HE : Hid (Mo w u b dm F S.tick ∧ Ro n s (34 + 2000 * q + 17 * p + (k + 1 : Nat)) S.tick ∧ Dn n F S.tick) := ⟨hj, HR.out.2.1.tick.le (by omega), HR.out.2.2⟩
                        clear hall hj h2
                        simp only [List.getD_cons_succ, List.getD_cons_zero]
                        go_wp2
                        go_roundg (n - (k + 1))
                        all_goals (have := HM3.out; try omega)
                        exact ⟨k + 1, S.tick, by go_num, by omega, by omega, HE.out⟩
                    · obtain rfl : n = k := by omega
                      have HB : Hid (Mo w wr b dm F S ∧ Ro n s (33 + 2000 * q + 17 * (p + 1 : Nat)) S ∧ Dn n F S) := ⟨HR.out.1, HR.out.2.1.le (by omega), HR.out.2.2⟩
                      clear HR HM3
                      go_wp2
                      go_roundg (l - (p + 1))
                      all_goals (have := HM2.out; try omega)
                      exact ⟨p + 1, F, S, by go_num, by omega, by omega, HB.out⟩
            · obtain rfl : l = p := by omega
              have HW : Hid (Mo w wr b dm F S ∧ Ro n s (1733 + 2000 * q + 2 * (0 : Nat)) S ∧ ∀ j : Nat, j < 0 → S.O j = s) := ⟨HR.out.1, HR.out.2.1.le (by omega), fun j hj => by omega⟩
              clear HR HM2
              go_wp2
              go_loopg [19] n (fun m i wr3 => ∃ (t : Nat) (S : Hs), i = .int .i64 t ∧ t ≤ n ∧ m = n - t ∧ Hid (Mo w wr3 b dm F S ∧ Ro n s (1733 + 2000 * q + 2 * t) S ∧ ∀ j : Nat, j < t → S.O j = s))
              case atStart => exact ⟨0, S, rfl, by omega, by omega, HW.out⟩
              case round =>
                obtain ⟨t, S, rfl, ht, hm, HR⟩ := hrel
                have HM2 : Hid _ := hm
                clear hm HW
                by_cases hlt : t < n
                · have HA : Hid (S.ans t s = S.tick.put t s) := HR.out.2.1.ans_is hlt HS.out.2.1
                  go_wp2_with fail
                  have K := mo_ans t s HR.out.1 (by have := HR.out.2.1.ct; omega)
                  rw [HR.out.2.1.is hlt, HS.out.2.1, Bool.true_and] at K
                  refine K.mono ?_
                  rintro e w6 ⟨rfl, t6⟩
                  have M6 : Hid (Mo w w6 b dm F (S.ans t s) ∧ Ro n s (1734 + 2000 * q + 2 * t) (S.ans t s) ∧ ∀ j : Nat, j < t + 1 → (S.ans t s).O j = s) := ⟨t6, (HR.out.2.1.ans hlt HS.out.2.1).le (by omega), fun j hj => by
                    rw [HA.out]
                    simp only [Hs.put, Hs.tick]
                    split
                    · rfl
                    · exact HR.out.2.2 j (by omega)⟩
                  clear K t6 HR HA
                  generalize S.ans t s = S1 at *
                  go_wp2_with fail
                  have e1 : S1.poll t = true := by rw [M6.out.2.1.poll hlt, M6.out.2.2 t (by omega)]; simp
                  have K := mo_poll t M6.out.1 (by have := M6.out.2.1.ct; omega)
                  rw [e1] at K
                  refine K.mono ?_
                  rintro e w7 ⟨rfl, t7⟩
                  have M7 : Hid (Mo w w7 b dm F S1.tick ∧ Ro n s (1735 + 2000 * q + 2 * t) S1.tick ∧ ∀ j : Nat, j < t + 1 → S1.tick.O j = s) := ⟨t7, M6.out.2.1.tick.le (by omega), M6.out.2.2⟩
                  clear K t7 M6 e1
                  generalize S1.tick = S2 at *
                  go_wp2_with fail
                  have e1 : S2.own t = s := by rw [M7.out.2.1.owns hlt, M7.out.2.2 t (by omega)]
                  have K := mh_own t M7.out.1.mh
                  rw [e1] at K
                  refine K.mono ?_
                  rintro e w8 ⟨rfl, rfl⟩
                  clear K e1
                  have z : (s != s) = false := by simp
                  go_wp2
                  go_roundg (n - (t + 1))
                  all_goals (have := HM2.out; try omega)
                  exact ⟨t + 1, S2, by go_num, by omega, by omega, M7.out.1, M7.out.2.1.le (by omega), M7.out.2.2⟩
                · obtain rfl : n = t := by omega
                  have eq : (((q + 1 : Nat)) : Int) % 5 = s := by rw [← HS.out.1]; congr 1
                  have HB : Hid (Mh w wr b S ∧ Ro n (((q + 1 : Nat) : Int) % 5) (32 + 2000 * ((q + 1 : Nat) : Int)) S ∧ ∀ j : Nat, j < n → S.O j = ((q + 1 : Nat) : Int) % 5) := by
                    rw [eq]
                    exact ⟨HR.out.1.mh, HR.out.2.1.le (by omega), HR.out.2.2⟩
                  clear HR HM2 eq
                  go_wp2
                  go_roundg (r - (q + 1))
                  all_goals (have := HM.out; try omega)
                  exact ⟨q + 1, S, by go_num, by omega, by omega, HB.out⟩
        · obtain rfl : q = r := by omega
          go_wp2_with fail
          refine (first_any _).mono ?_
          rintro e w5 ⟨rfl, k5⟩
          have H5 : Hid (Kept w w5) := (HR.out.1.still k5).kept
          clear k5 HR
          go_wp2
          go_ret
          exact ⟨rfl, H5.out⟩

theorem handRounds_any (n0 : Int) (n1 : Int) (x2 : Option Addr) (l2 c2 : Nat) (L2 : Nat → Int) (w : World) (_lo0 : IntKind.min .i64 ≤ n0) (_hi0 : n0 ≤ IntKind.max .i64) (_lo1 : IntKind.min .i64 ≤ n1) (_hi1 : n1 ≤ IntKind.max .i64) (_h2c : l2 ≤ c2) (hL2 : Ints w x2 l2 L2) (_hB2 : ∀ i, i < l2 → IntKind.min .i64 ≤ L2 i ∧ L2 i ≤ IntKind.max .i64) :
    Calls Try.prog 6 #[.int .i64 n0, .int .i64 n1, .slice x2 l2 c2] w fun e w' => e = .returned (.bool true) ∧ Kept w w' := by
  by_cases hn : 1 ≤ n0 ∧ n0 ≤ 16
  · obtain ⟨n, rfl⟩ : ∃ n : Nat, n0 = n := ⟨n0.toNat, by omega⟩
    by_cases h1 : n1 < 0
    · exact rounds_out n n1 x2 l2 c2 w hn.1 hn.2 (.inl h1)
    · by_cases h2 : 20 < n1
      · exact rounds_out n n1 x2 l2 c2 w hn.1 hn.2 (.inr (.inl ⟨h1, h2⟩))
      · by_cases h3 : 100 < (l2 : Int)
        · exact rounds_out n n1 x2 l2 c2 w hn.1 hn.2 (.inr (.inr ⟨h1, h2, h3⟩))
        · obtain ⟨r, rfl⟩ : ∃ r : Nat, n1 = r := ⟨n1.toNat, by omega⟩
          exact rounds_in n r x2 l2 c2 L2 w hL2 hn.1 hn.2 (by omega) (by omega)
  · exact rounds_bad n0 n1 x2 l2 c2 w hn
end Go.Proofs.Ytemaaefcnadmfaa
