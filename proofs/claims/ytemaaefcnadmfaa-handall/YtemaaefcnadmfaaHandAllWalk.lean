/-
  HandAll: the walk.
-/
import Derived.Test.YtemaaefcnadmfaaPollJ18
import Derived.Test.YtemaaefcnadmfaaElems
import Derived.Test.YtemaaefcnadmfaaBools16
import Derived.Test.YtemaaefcnadmfaaPhase
import Derived.Deep.CutBlock
namespace Go.Proofs.Ytemaaefcnadmfaa
open Go.RowKit

/-- Behind t threads: those of them that are to be there are, still; and they owe. -/
structure Ja (n t : Nat) (H F : Nat → Bool) (S : Hs) : Prop where
  en : S.n = n
  st : S.st = 0
  se : S.se = false
  own : ∀ j : Nat, j < n → S.O j = if j < t && H j then 0 else -1
  fs : ∀ j : Nat, F j = (decide (j < t) && H j)
  ct : S.ct ≤ (t : Int)
theorem Ja.can {n t : Nat} {H F : Nat → Bool} {S : Hs} (h : Ja n t H F S) (ht : t < n) : S.can t = true := by
  have h1 := h.own t ht
  simp at h1
  simp [Hs.can, Hs.may, Hs.is, h.en, ht, h1]
theorem Ja.yes {n t : Nat} {H F : Nat → Bool} {S : Hs} (h : Ja n t H F S) (ht : t < n) (hy : H t = true) : Ja n (t + 1) H (upd F t true) (S.join t) := by
  have e : S.join t = S.tick.put t 0 := by simp [Hs.join, h.can ht, h.st]
  rw [e]
  refine ⟨h.en, h.st, h.se, fun j hj => ?_, fun j => ?_, ?_⟩
  · by_cases e : j = t
    · subst e
      simp [Hs.put, hy]
    · have := h.own j hj
      simp only [Hs.tick, Hs.put, e, if_false, this]
      have : (decide (j < t + 1)) = (decide (j < t)) := by congr 1; simp; omega
      simp only [this]
  · by_cases e : j = t
    · subst e
      simp [upd, hy]
    · have : (decide (j < t + 1)) = (decide (j < t)) := by congr 1; simp; omega
      simp only [upd, e, if_false, h.fs j, this]
  · have := h.ct
    simp only [Hs.tick, Hs.put]
    omega
theorem Ja.no {n t : Nat} {H F : Nat → Bool} {S : Hs} (h : Ja n t H F S) (hy : H t = false) : Ja n (t + 1) H F S := by
  have e2 : ∀ j : Nat, (decide (j < t + 1) && H j) = (decide (j < t) && H j) := fun j => by
    by_cases e : j = t
    · subst e
      simp [hy]
    · have : (decide (j < t + 1)) = (decide (j < t)) := by congr 1; simp; omega
      rw [this]
  exact ⟨h.en, h.st, h.se, fun j hj => by rw [h.own j hj, e2], fun j => by rw [h.fs j, e2], by have := h.ct; omega⟩

/-- s is posted, the sense is the other one; who is not to be waited for owes nothing. -/
structure Wo (n : Nat) (s c : Int) (F : Nat → Bool) (S : Hs) : Prop where
  en : S.n = n
  st : S.st = s
  se : S.se = true
  owes : ∀ j : Nat, j < n → S.poll j = !F j
  ct : S.ct ≤ c
section
variable {n k : Nat} {s c c' : Int} {F H : Nat → Bool} {S : Hs}
theorem Wo.le (h : Wo n s c F S) (hc : c ≤ c') : Wo n s c' F S := ⟨h.en, h.st, h.se, h.owes, Int.le_trans h.ct hc⟩
theorem Wo.tick (h : Wo n s c F S) : Wo n s (c + 1) F S.tick := ⟨h.en, h.st, h.se, h.owes, by have := h.ct; simp only [Hs.tick]; omega⟩
theorem Wo.put {v : Int} (h : Wo n s c F S) (hk : k < n) (hv : v = s ∨ v = -1) : Wo n s (c + 1) (upd F k false) (S.tick.put k v) := by
  refine ⟨h.en, h.st, h.se, fun j hj => ?_, h.tick.ct⟩
  by_cases e : j = k
  · subst e
    rcases hv with rfl | rfl
    · simp [Hs.poll, Hs.put, Hs.tick, h.st, upd]
    · simp [Hs.poll, Hs.is, Hs.put, upd]
  · have e1 : (S.tick.put k v).poll j = S.poll j := by simp [Hs.poll, Hs.is, Hs.may, Hs.put, Hs.tick, e]
    rw [e1, h.owes j hj]
    simp [upd, e]
theorem Wo.ans (h : Wo n s c F S) (hk : k < n) (hi : S.is k = true) (hs : kn s = true) : Wo n s (c + 1) (upd F k false) (S.ans k s) := by
  have e : S.ans k s = S.tick.put k s := by simp [Hs.ans, hi, hs]
  rw [e]
  exact h.put hk (.inl rfl)
theorem Wo.ans_no (h : Wo n s c F S) (hi : S.is k = false) : Wo n s (c + 1) F (S.ans k s) := by
  have e : S.ans k s = S.tick := by simp [Hs.ans, hi]
  rw [e]
  exact h.tick
theorem Wo.leave (h : Wo n s c F S) (hk : k < n) (hi : S.is k = true) : Wo n s (c + 1) (upd F k false) (S.leave k) := by
  have e : S.leave k = S.tick.put k (-1) := by simp [Hs.leave, hi]
  rw [e]
  exact h.put hk (.inr rfl)
theorem Wo.leave_no (h : Wo n s c F S) (hi : S.is k = false) : Wo n s (c + 1) F (S.leave k) := by
  have e : S.leave k = S.tick := by simp [Hs.leave, hi]
  rw [e]
  exact h.tick
/-- Who joins owed nothing. -/
theorem Wo.can (h : Wo n s c F S) (hk : k < n) (hc : S.can k = true) : F k = false := by
  have h1 : S.is k = false := by simp [Hs.can] at hc; exact hc.2
  have h2 := h.owes k hk
  simp [Hs.poll, h1] at h2
  exact h2
theorem Wo.join (h : Wo n s c F S) (hk : k < n) : Wo n s (c + 1) F (S.join k) := by
  cases hc : S.can k
  · have e : S.join k = S.tick := by simp [Hs.join, hc]
    rw [e]
    exact h.tick
  · have e : S.join k = S.tick.put k s := by simp [Hs.join, hc, h.st]
    rw [e]
    have f : upd F k false = F := by
      funext j
      by_cases e : j = k
      · subst e
        simp [upd, h.can hk hc]
      · simp [upd, e]
    have := h.put hk (.inl rfl) (v := s)
    rwa [f] at this
/-- Behind the post. -/
theorem Ja.post (h : Ja n n H F S) (hs : kn s = true) (h1 : 1 ≤ s) : Wo n s (n + 1) F (S.post s true) := by
  have e : S.post s true = { S.tick with st := s, se := (S.se != true) } := by simp [Hs.post, hs]
  rw [e]
  refine ⟨h.en, rfl, by simp [h.se], fun j hj => ?_, by have := h.ct; simp only [Hs.tick]; omega⟩
  rw [h.fs j]
  have h2 := h.own j hj
  simp only [hj, decide_true, Bool.true_and] at h2 ⊢
  cases hy : H j
  · simp [Hs.poll, Hs.is, Hs.tick, h2, hy]
  · have : ¬ (0 : Int) = s := by omega
    simp [Hs.poll, Hs.is, Hs.may, Hs.tick, h2, hy, h.en, hj, this]
end

set_option maxHeartbeats 2000000 in
set_option maxRecDepth 20000 in
theorem all_bad (n s : Int) (x : Option Addr) (l c : Nat) (y : Option Addr) (k d : Nat) (w : World) (hn : ¬ (1 ≤ n ∧ n ≤ 16)) :
    Calls Try.prog 4 #[.int .i64 n, .slice x l c, .int .i64 s, .slice y k d] w fun e w' => e = .returned (.bool true) ∧ Kept w w' := by
  have HN : Hid (∀ w, _) := fun w => hnew_bad n w hn
  clear hn
  go_enter Try.func4, Try.ntmps4
  go_wp2_with fail
  refine (first_any _).mono ?_
  rintro e w1 ⟨rfl, k1⟩
  have K1 : Hid (Kept w w1) := k1
  clear k1
  go_wp2_with fail
  refine (HN.out _).mono ?_
  rintro e w2 ⟨rfl, rfl⟩
  go_wp2_with fail
  refine (first_any _).mono ?_
  rintro e w3 ⟨rfl, k3⟩
  have K3 : Hid (Kept w w3) := K1.out.trans k3
  clear k3
  go_wp2
  go_ret
  exact ⟨rfl, K3.out⟩

set_option maxHeartbeats 4000000 in
set_option maxRecDepth 20000 in
theorem all_out (n : Nat) (s : Int) (x : Option Addr) (l c : Nat) (y : Option Addr) (k d : Nat) (w : World) (h1 : 1 ≤ (n : Int)) (hn : (n : Int) ≤ 16)
    (ho : (l : Int) < n ∨ (¬ (l : Int) < n ∧ s < 1) ∨ (¬ (l : Int) < n ∧ ¬ s < 1 ∧ 4 < s) ∨ (¬ (l : Int) < n ∧ ¬ s < 1 ∧ ¬ 4 < s ∧ 300 < (k : Int))) :
    Calls Try.prog 4 #[.int .i64 (n : Int), .slice x l c, .int .i64 s, .slice y k d] w fun e w' => e = .returned (.bool true) ∧ Kept w w' := by
  have HN : Hid (∀ u : World, Kept w u → _) := fun u q => mh_new (w := w) n u q h1 hn
  rcases ho with ho | ⟨ho, ho2⟩ | ⟨ho, ho2, ho3⟩ | ⟨ho, ho2, ho3, ho4⟩
  all_goals go_enter Try.func4, Try.ntmps4
  all_goals go_wp2_with fail
  all_goals refine (first_any _).mono ?_
  all_goals rintro e w1 ⟨rfl, k1⟩
  all_goals have K1 : Hid (Kept w w1) := k1
  all_goals clear k1
  all_goals go_wp2_with fail
  all_goals refine (HN.out _ K1.out).mono ?_
  all_goals rintro e w2 ⟨b, rfl, t2⟩
  all_goals have K2 : Hid (Kept w w2) := t2.kept
  all_goals clear t2 K1
  all_goals go_wp2_with fail
  all_goals refine (first_any _).mono ?_
  all_goals rintro e w3 ⟨rfl, k3⟩
  all_goals have K3 : Hid (Kept w w3) := K2.out.trans k3
  all_goals clear k3
  all_goals go_wp2
  all_goals go_ret
  all_goals exact ⟨rfl, K3.out⟩

set_option maxHeartbeats 8000000 in
set_option maxRecDepth 20000 in
theorem all_in (n : Nat) (s : Int) (x : Option Addr) (l c : Nat) (H : Nat → Bool) (y : Option Addr) (k d : Nat) (L : Nat → Int) (w : World) (hX : Bools w x l H) (hY : Ints w y k L) (h1 : 1 ≤ (n : Int)) (hn : (n : Int) ≤ 16) (hl : n ≤ l) (hs1 : 1 ≤ s) (hs4 : s ≤ 4) (hk : (k : Int) ≤ 300) :
    Calls Try.prog 4 #[.int .i64 (n : Int), .slice x l c, .int .i64 s, .slice y k d] w fun e w' => e = .returned (.bool true) ∧ Kept w w' := by
  have HN : Hid (∀ u : World, Kept w u → _) := fun u q => mh_new (w := w) n u q h1 hn
  have HX : Hid (Bools w x l H) := hX
  have HY : Hid (Ints w y k L) := hY
  clear hX hY
  have d1 : decide ((n : Int) < 1) = false := decide_eq_false (by omega)
  have d2 : decide (16 < (n : Int)) = false := decide_eq_false (by omega)
  have d3 : decide (l < n) = false := decide_eq_false (by omega)
  have d4 : decide (s < 1) = false := decide_eq_false (by omega)
  have d5 : decide (4 < s) = false := decide_eq_false (by omega)
  have d6 : decide (300 < (k : Int)) = false := decide_eq_false (by omega)
  have hks : kn s = true := by simp [kn]; omega
  have HS : Hid (kn s = true ∧ 1 ≤ s) := ⟨hks, hs1⟩
  clear hks
  go_enter Try.func4, Try.ntmps4
  go_wp2_with fail
  refine (first_any _).mono ?_
  rintro e w1 ⟨rfl, k1⟩
  have K1 : Hid (Kept w w1) := k1
  clear k1
  go_wp2_with fail
  refine (HN.out _ K1.out).mono ?_
  rintro e w2 ⟨b, rfl, t2⟩
  have M2 : Hid (Mh w w2 b (Hs.first n)) := t2
  clear t2 K1 HN
  go_upto_block 0 with fail
  generalize hW : w2.alloc _ = W
  have HW : Hid (Mo w W b w2.heap.size (fun _ => false) (Hs.first n) ∧ Ja n 0 H (fun _ => false) (Hs.first n)) := ⟨by rw [← hW]; exact M2.out.row, rfl, rfl, rfl, fun j _ => by simp [Hs.first], fun j => by simp, by simp [Hs.first]⟩
  clear hW M2
  generalize w2.heap.size = dm at *
  go_wp2
  go_loopg [12] n (fun m i wr => ∃ (t : Nat) (G : Nat → Bool) (S : Hs), i = .int .i64 t ∧ t ≤ n ∧ m = n - t ∧ Hid (Mo w wr b dm G S ∧ Ja n t H G S))
  case atStart => exact ⟨0, _, _, rfl, by omega, by omega, HW.out⟩
  case round =>
    obtain ⟨t, G, S, rfl, ht, hm, HR⟩ := hrel
    have HM : Hid _ := hm
    clear hm HW
    by_cases hlt : t < n
    · obtain ⟨bx, ox, rfl, hbx, hcx⟩ := HX.out.at (by omega)
      have e0 : wr.cell? ⟨bx, ox + t, none⟩ = _ := (HR.out.1.kept.cell hbx).trans (hcx t (by omega))
      have htl : t < l := by omega
      clear hcx hbx HX
      cases hy : H t
      · rw [hy] at e0
        have HB : Hid (Mo w wr b dm G S ∧ Ja n (t + 1) H G S) := ⟨HR.out.1, HR.out.2.no hy⟩
        clear HR hy
        go_wp2
        go_roundg (n - (t + 1))
        all_goals (have := HM.out; try omega)
        exact ⟨t + 1, G, S, by go_num, by omega, by omega, HB.out⟩
      · rw [hy] at e0
        have HJ : Hid (Ja n (t + 1) H (upd G t true) (S.join t) ∧ S.jst t = 0) := ⟨HR.out.2.yes hlt hy, by simp [Hs.jst, HR.out.2.st]⟩
        clear hy
        go_wp2_with fail
        have K := mo_join t HR.out.1 (by have := HR.out.2.ct; omega)
        rw [HR.out.2.can hlt, HJ.out.2] at K
        refine K.mono ?_
        rintro e w3 ⟨rfl, t3⟩
        have HB : Hid (Mo w (w3.setCell ⟨dm, t, none⟩ (.bool true)) b dm (upd G t true) (S.join t) ∧ Ja n (t + 1) H (upd G t true) (S.join t)) := ⟨t3.put t true, HJ.out.1⟩
        have c4 : w3.cell? ⟨dm, t, none⟩ = some (.bool (G t)) := t3.at (by omega)
        have cf := t3.fz
        have ht16 : t < 16 := by omega
        clear K t3 HR HJ
        go_wp2
        go_roundg (n - (t + 1))
        all_goals (have := HM.out; try omega)
        exact ⟨t + 1, _, _, by go_num, by omega, by omega, HB.out⟩
    · obtain rfl : n = t := by omega
      clear HM HX
      go_wp2_with fail
      have K := mo_post s true HR.out.1 (by have := HR.out.2.ct; omega)
      rw [HS.out.1] at K
      refine K.mono ?_
      rintro e w4 ⟨rfl, t4⟩
      have HW : Hid (Mo w w4 b dm G (S.post s true) ∧ Wo n s (17 + 17 * (0 : Nat)) G (S.post s true)) := ⟨t4, (HR.out.2.post HS.out.1 HS.out.2).le (by omega)⟩
      clear K t4 HR
      generalize S.post s true = S1 at *
      go_wp2
      go_loopg [16] k (fun m i wr2 => ∃ (p : Nat) (G : Nat → Bool) (S : Hs), i = .int .i64 p ∧ p ≤ k ∧ m = k - p ∧ Hid (Mo w wr2 b dm G S ∧ Wo n s (17 + 17 * p) G S))
      case atStart => exact ⟨0, G, S1, rfl, by omega, by omega, HW.out⟩
      case round =>
        obtain ⟨p, G, S, rfl, hp, hm, HR⟩ := hrel
        have HM : Hid _ := hm
        clear hm HW
        by_cases hlp : p < k
        · obtain ⟨bx, ox, rfl, hbx, hcx⟩ := HY.out.at (by omega)
          have e0 : wr.cell? ⟨bx, ox + p, none⟩ = _ := (HR.out.1.kept.cell hbx).trans (hcx p hlp)
          clear hcx hbx HY
          generalize L p = i at *
          by_cases hi : 0 ≤ i / 4 ∧ i / 4 < (n : Int)
          · obtain ⟨g0, g1⟩ := hi
            go_upto_block 4 with fail
            clear e0
            generalize hq : bits .and .i64 i 3 = tg
            clear hq
            generalize i / 4 = q at *
            obtain ⟨t, rfl⟩ : ∃ t : Nat, q = t := ⟨q.toNat, by omega⟩
            have ht : t < n := by omega
            clear g0 g1
            go_cut [19, 20, 21] from 115 to 158 (fun _ _ _ wc => ∃ (G : Nat → Bool) (S : Hs), Hid (Mo w wc b dm G S ∧ Wo n s (18 + 17 * p) G S))
            case first =>
              by_cases t0 : tg = 0
              · have q0 : (tg == 0) = true := by simpa using t0
                clear t0
                cases hi : S.is t
                · have K := mo_ans t s HR.out.1 (by have := HR.out.2.ct; omega)
                  rw [hi, Bool.false_and] at K
                  have HB : Hid (Wo n s (18 + 17 * p) G (S.ans t s)) := (HR.out.2.ans_no hi).le (by omega)
                  clear hi HR
                  have K : Hid (Calls _ _ _ _ _) := K
                  go_wp2_with fail
                  refine K.out.mono ?_
                  rintro e w6 ⟨rfl, t6⟩
                  have M : Hid (Mo w w6 b dm G (S.ans t s) ∧ Wo n s (18 + 17 * p) G (S.ans t s)) := ⟨t6, HB.out⟩
                  clear K t6 HB
                  go_wp2
                  go_meet
                  case rel => exact ⟨_, _, M.out⟩
                · have K := mo_ans t s HR.out.1 (by have := HR.out.2.ct; omega)
                  rw [hi, HS.out.1, Bool.true_and] at K
                  have HB : Hid (Wo n s (18 + 17 * p) (upd G t false) (S.ans t s)) := (HR.out.2.ans ht hi HS.out.1).le (by omega)
                  clear hi HR
                  have K : Hid (Calls _ _ _ _ _) := K
                  go_wp2_with fail
                  refine K.out.mono ?_
                  rintro e w6 ⟨rfl, t6⟩
                  have M : Hid (Mo w (w6.setCell ⟨dm, t, none⟩ (.bool false)) b dm (upd G t false) (S.ans t s) ∧ Wo n s (18 + 17 * p) (upd G t false) (S.ans t s)) := ⟨t6.put t false, HB.out⟩
                  have c4 : w6.cell? ⟨dm, t, none⟩ = some (.bool (G t)) := t6.at (by omega)
                  have cf := t6.fz
                  have ht16 : t < 16 := by omega
                  clear K t6 HB
                  go_wp2
                  go_meet
                  case rel => exact ⟨_, _, M.out⟩
              · have q0 : (tg == 0) = false := by simpa using t0
                clear t0
                by_cases t1 : tg = 1
                · have q1 : (tg == 1) = true := by simpa using t1
                  clear t1
                  cases hi : S.is t
                  · have K := mo_leave t HR.out.1 (by have := HR.out.2.ct; omega)
                    rw [hi] at K
                    have HB : Hid (Wo n s (18 + 17 * p) G (S.leave t)) := (HR.out.2.leave_no hi).le (by omega)
                    clear hi HR
                    have K : Hid (Calls _ _ _ _ _) := K
                    go_wp2_with fail
                    refine K.out.mono ?_
                    rintro e w6 ⟨rfl, t6⟩
                    have M : Hid (Mo w w6 b dm G (S.leave t) ∧ Wo n s (18 + 17 * p) G (S.leave t)) := ⟨t6, HB.out⟩
                    clear K t6 HB
                    go_wp2
                    go_meet
                    case rel => exact ⟨_, _, M.out⟩
                  · have K := mo_leave t HR.out.1 (by have := HR.out.2.ct; omega)
                    rw [hi] at K
                    have HB : Hid (Wo n s (18 + 17 * p) (upd G t false) (S.leave t)) := (HR.out.2.leave ht hi).le (by omega)
                    clear hi HR
                    have K : Hid (Calls _ _ _ _ _) := K
                    go_wp2_with fail
                    refine K.out.mono ?_
                    rintro e w6 ⟨rfl, t6⟩
                    have M : Hid (Mo w (w6.setCell ⟨dm, t, none⟩ (.bool false)) b dm (upd G t false) (S.leave t) ∧ Wo n s (18 + 17 * p) (upd G t false) (S.leave t)) := ⟨t6.put t false, HB.out⟩
                    have c4 : w6.cell? ⟨dm, t, none⟩ = some (.bool (G t)) := t6.at (by omega)
                    have cf := t6.fz
                    have ht16 : t < 16 := by omega
                    clear K t6 HB
                    go_wp2
                    go_meet
                    case rel => exact ⟨_, _, M.out⟩
                · have q1 : (tg == 1) = false := by simpa using t1
                  clear t1
                  by_cases t2 : tg = 2
                  · have q2 : (tg == 2) = true := by simpa using t2
                    clear t2
                    have K := mo_join t HR.out.1 (by have := HR.out.2.ct; omega)
                    have HB : Hid (Wo n s (18 + 17 * p) G (S.join t)) := (HR.out.2.join ht).le (by omega)
                    cases hc : S.can t
                    · have e : S.jse t = false := by simp [Hs.jse, hc]
                      rw [hc, e] at K
                      clear hc e HR
                      generalize S.jst t = ja at *
                      have K : Hid (Calls _ _ _ _ _) := K
                      go_wp2_with fail
                      refine K.out.mono ?_
                      rintro e w6 ⟨rfl, t6⟩
                      have M : Hid (Mo w w6 b dm G (S.join t) ∧ Wo n s (18 + 17 * p) G (S.join t)) := ⟨t6, HB.out⟩
                      clear K t6 HB
                      go_wp2
                      go_meet
                      case rel => exact ⟨_, _, M.out⟩
                    · have e : S.jse t = true := by simp [Hs.jse, hc, HR.out.2.se]
                      have e2 : G t = false := HR.out.2.can ht hc
                      rw [hc, e] at K
                      clear hc e HR
                      generalize S.jst t = ja at *
                      have K : Hid (Calls _ _ _ _ _) := K
                      have E2 : Hid (G t = false) := e2
                      clear e2
                      go_wp2_with fail
                      refine K.out.mono ?_
                      rintro e w6 ⟨rfl, t6⟩
                      have M : Hid (Mo w w6 b dm G (S.join t) ∧ Wo n s (18 + 17 * p) G (S.join t)) := ⟨t6, HB.out⟩
                      have c4 : w6.cell? ⟨dm, t, none⟩ = some (.bool false) := by rw [← E2.out]; exact t6.at (by omega)
                      have ht16 : t < 16 := by omega
                      clear K t6 HB
                      go_wp2
                      go_meet
                      case rel => exact ⟨_, _, M.out⟩
                  · have q2 : (tg == 2) = false := by simpa using t2
                    clear t2
                    have M : Hid (Mo w wr b dm G S ∧ Wo n s (18 + 17 * p) G S) := ⟨HR.out.1, HR.out.2.le (by omega)⟩
                    clear HR
                    go_wp2
                    go_meet
                    case rel => exact ⟨_, _, M.out⟩
            case rest =>
              clear HR
              obtain ⟨G, S, HC⟩ := hcut
              go_wp2
              go_loopg [22] n (fun m i wr3 => ∃ (t : Nat) (S : Hs), i = .int .i64 t ∧ t ≤ n ∧ m = n - t ∧ Hid (Mo w wr3 b dm G S ∧ Wo n s (18 + 17 * p + t) G S))
              case atStart => exact ⟨0, S, rfl, by omega, by omega, HC.out.1, HC.out.2.le (by omega)⟩
              case round =>
                obtain ⟨t, S, rfl, ht, hm, HR⟩ := hrel
                have HM2 : Hid _ := hm
                clear hm HC
                by_cases hlt : t < n
                · have ht16 : Hid (t < 16) := by show t < 16; omega
                  obtain ⟨gv, hgv⟩ : ∃ v, G t = v := ⟨_, rfl⟩
                  obtain ⟨pv, hpv⟩ : ∃ v, (!gv) = v := ⟨_, rfl⟩
                  have HP : Hid (S.poll t = pv ∧ G t = gv ∧ (pv == gv) = false) := ⟨by rw [HR.out.2.owes t hlt, hgv, hpv], hgv, by subst hpv; cases gv <;> rfl⟩
                  clear hgv hpv
                  go_upto_region 37 with fail
                  refine wp_region_phase [(.pointer (some ⟨b, 0, none⟩)), (.int .i64 t), (.bool pv), (.int .i64 t), (.pointer (some ⟨dm, t, none⟩)), (.bool gv), (.bool false)] [(164, 0), (165, 1), (166, 2), (167, 3), (168, 4), (169, 5), (170, 6)] [_, _, _, _, _, _, _, _, _, _, _, _, _, _, _, _, _, _, _, _, _, _, _, _, _, _, _, _, _, _, _, _, _, _, _, _, _, _, _, _, _, _, _, _, _, _, _, _, _, _, _, _, _, _, _, _, _, _, _, _, _, _, _, _, _, _, _, _, _, _, _, _, _, _, _, _, _, _, _, _, _, _, _, _, _, _, _, _, _, _, _, _, _, _, _, _, _, _, _, _, _, _, _, _, _, _, _, _, _, _, _, _, _, _, _, _, _, _, _, _, _, _, _, _, _, _, _, _, _, _, _, _, _, _, _, _, _, _, _, _, _, _, _, _, _, _, _, _, _, _, _, _, _, _, _, _, _, _, _, _, _, _, _, _, _, _, _, _, _, _, _, _] (fun d u => PollJ w u b dm G S d) (by kernel_rfl) (by kernel_rfl) (by kernel_rfl) (by kernel_rfl) rfl ?_ ?_ ?_
                  · unfold PollJ; simpa using HR.out.1.still (Kept.refl _).drew
                  · intro i1 o ho a1 d u hh hj hi hd
                    match i1, ho, hi, hd with
                    | 0, ho, hi, hd =>
                      simp only [List.getElem?_cons_zero, Option.some.injEq] at ho
                      subst ho
                      have g9 : a1.tmps[9]? = some (.pointer (some ⟨b, 0, none⟩)) := hh.old 9 (by kernel_rfl) rfl
                      clear hh hd
                      have HN : Hid (PollJ w u b dm G S (done d 0)) := hj.plain 0 (by decide)
                      clear hj hi
                      refine wpOp_step rfl (fun K hK => ?_)
                      go_simp
                      exact hK _ _ ⟨by simp [Act.put], HN.out⟩
                    | 1, ho, hi, hd =>
                      simp only [List.getElem?_cons_succ, List.getElem?_cons_zero, Option.some.injEq] at ho
                      subst ho
                      have g22 : a1.tmps[22]? = some (.int .i64 t) := hh.old 22 (by kernel_rfl) rfl
                      clear hh hd
                      have HN : Hid (PollJ w u b dm G S (done d 1)) := hj.plain 1 (by decide)
                      clear hj hi
                      refine wpOp_step rfl (fun K hK => ?_)
                      go_simp
                      exact hK _ _ ⟨by simp [Act.put], HN.out⟩
                    | 2, ho, hi, hd =>
                      simp only [List.getElem?_cons_succ, List.getElem?_cons_zero, Option.some.injEq] at ho
                      subst ho
                      have g164 : a1.tmps[164]? = some (.pointer (some ⟨b, 0, none⟩)) := hh.did 0 _ 164 rfl rfl (hd { on := 0, ground := .data } (by simp) rfl)
                      have g165 : a1.tmps[165]? = some (.int .i64 t) := hh.did 1 _ 165 rfl rfl (hd { on := 1, ground := .data } (by simp) rfl)
                      clear hh hd
                      unfold PollJ at hj
                      simp only [hi, Bool.false_eq_true, if_false] at hj
                      have CA : Hid (Calls _ _ _ _ _) := mo_poll t hj (by have := HR.out.2.ct; omega)
                      rw [HP.out.1] at CA
                      clear hj hi
                      refine wpOp_step rfl (fun K hK => ?_)
                      go_simp
                      refine CA.out.mono ?_
                      rintro e u' ⟨rfl, t⟩
                      exact hK _ _ ⟨by simp [Act.put], PollJ.call t⟩
                    | 3, ho, hi, hd =>
                      simp only [List.getElem?_cons_succ, List.getElem?_cons_zero, Option.some.injEq] at ho
                      subst ho
                      have g22 : a1.tmps[22]? = some (.int .i64 t) := hh.old 22 (by kernel_rfl) rfl
                      clear hh hd
                      have HN : Hid (PollJ w u b dm G S (done d 3)) := hj.plain 3 (by decide)
                      clear hj hi
                      refine wpOp_step rfl (fun K hK => ?_)
                      go_simp
                      exact hK _ _ ⟨by simp [Act.put], HN.out⟩
                    | 4, ho, hi, hd =>
                      simp only [List.getElem?_cons_succ, List.getElem?_cons_zero, Option.some.injEq] at ho
                      subst ho
                      have g11 : a1.tmps[11]? = some (.pointer (some ⟨dm, 0, none⟩)) := hh.old 11 (by kernel_rfl) rfl
                      have g167 : a1.tmps[167]? = some (.int .i64 t) := hh.did 3 _ 167 rfl rfl (hd { on := 3, ground := .data } (by simp) rfl)
                      have ht16n : (t : Int) < 16 := by have := ht16.out; omega
                      clear hh hd
                      have HN : Hid (PollJ w u b dm G S (done d 4)) := hj.plain 4 (by decide)
                      clear hj hi
                      refine wpOp_step rfl (fun K hK => ?_)
                      go_simp
                      exact hK _ _ ⟨by simp [Act.put], HN.out⟩
                    | 5, ho, hi, hd =>
                      simp only [List.getElem?_cons_succ, List.getElem?_cons_zero, Option.some.injEq] at ho
                      subst ho
                      have g168 : a1.tmps[168]? = some (.pointer (some ⟨dm, t, none⟩)) := hh.did 4 _ 168 rfl rfl (hd { on := 4, ground := .data } (by simp) rfl)
                      have cc := hj.cell ht16.out
                      rw [HP.out.2.1] at cc
                      clear hh hd
                      have HN : Hid (PollJ w u b dm G S (done d 5)) := hj.plain 5 (by decide)
                      clear hj hi
                      refine wpOp_step rfl (fun K hK => ?_)
                      go_simp
                      exact hK _ _ ⟨by simp [Act.put], HN.out⟩
                    | 6, ho, hi, hd =>
                      simp only [List.getElem?_cons_succ, List.getElem?_cons_zero, Option.some.injEq] at ho
                      subst ho
                      have g166 : a1.tmps[166]? = some (.bool pv) := hh.did 2 _ 166 rfl rfl (hd { on := 2, ground := .data } (by simp) rfl)
                      have g169 : a1.tmps[169]? = some (.bool gv) := hh.did 5 _ 169 rfl rfl (hd { on := 5, ground := .data } (by simp) rfl)
                      have zz : (pv == gv) = false := HP.out.2.2
                      clear hh hd
                      have HN : Hid (PollJ w u b dm G S (done d 6)) := hj.plain 6 (by decide)
                      clear hj hi
                      refine wpOp_step rfl (fun K hK => ?_)
                      go_simp
                      exact hK _ _ ⟨by simp [Act.put], HN.out⟩
                    | n + 7, ho, hi, hd => simp at ho
                  · intro u d hall hj
                    have h2 := hall 2 (by decide)
                    unfold PollJ at hj
                    rw [h2] at hj
                    simp only [if_true] at hj
                    have HE : Hid (Mo w u b dm G S.tick ∧ Wo n s (18 + 17 * p + (t + 1 : Nat)) G S.tick) := ⟨hj, HR.out.2.tick.le (by omega)⟩
                    clear hall hj h2
                    simp only [List.getD_cons_succ, List.getD_cons_zero]
                    go_wp2
                    go_roundg (n - (t + 1))
                    all_goals (have := HM2.out; try omega)
                    exact ⟨t + 1, S.tick, by go_num, by omega, by omega, HE.out⟩
                · obtain rfl : n = t := by omega
                  have HB : Hid (Mo w wr b dm G S ∧ Wo n s (17 + 17 * (p + 1 : Nat)) G S) := ⟨HR.out.1, HR.out.2.le (by omega)⟩
                  clear HR HM2
                  go_wp2
                  go_roundg (k - (p + 1))
                  all_goals (have := HM.out; try omega)
                  exact ⟨p + 1, G, S, by go_num, by omega, by omega, HB.out⟩
          · have hi2 : (0 ≤ i / 4 ∧ decide (i / 4 < (n : Int)) = false) ∨ decide (0 ≤ i / 4) = false := by
              by_cases g0 : 0 ≤ i / 4
              · exact .inl ⟨g0, decide_eq_false fun q => hi ⟨g0, q⟩⟩
              · exact .inr (decide_eq_false g0)
            clear hi
            rcases hi2 with ⟨g0, g1⟩ | g0
            · go_upto_block 4 with fail
              clear e0
              generalize hq : bits .and .i64 i 3 = tg
              clear hq
              generalize i / 4 = q at *
              clear g0 g1
              go_cut [19, 20, 21] from 115 to 158 (fun _ _ _ wc => ∃ (G : Nat → Bool) (S : Hs), Hid (Mo w wc b dm G S ∧ Wo n s (18 + 17 * p) G S))
              case first =>
                have M : Hid (Mo w wr b dm G S ∧ Wo n s (18 + 17 * p) G S) := ⟨HR.out.1, HR.out.2.le (by omega)⟩
                clear HR
                by_cases t0 : tg = 0
                · have q0 : (tg == 0) = true := by simpa using t0
                  clear t0
                  go_wp2
                  go_meet
                  case rel => exact ⟨_, _, M.out⟩
                · have q0 : (tg == 0) = false := by simpa using t0
                  clear t0
                  by_cases t1 : tg = 1
                  · have q1 : (tg == 1) = true := by simpa using t1
                    clear t1
                    go_wp2
                    go_meet
                    case rel => exact ⟨_, _, M.out⟩
                  · have q1 : (tg == 1) = false := by simpa using t1
                    clear t1
                    by_cases t2 : tg = 2
                    · have q2 : (tg == 2) = true := by simpa using t2
                      clear t2
                      go_wp2
                      go_meet
                      case rel => exact ⟨_, _, M.out⟩
                    · have q2 : (tg == 2) = false := by simpa using t2
                      clear t2
                      go_wp2
                      go_meet
                      case rel => exact ⟨_, _, M.out⟩
              case rest =>
                clear HR
                obtain ⟨G, S, HC⟩ := hcut
                go_wp2
                go_loopg [22] n (fun m i wr3 => ∃ (t : Nat) (S : Hs), i = .int .i64 t ∧ t ≤ n ∧ m = n - t ∧ Hid (Mo w wr3 b dm G S ∧ Wo n s (18 + 17 * p + t) G S))
                case atStart => exact ⟨0, S, rfl, by omega, by omega, HC.out.1, HC.out.2.le (by omega)⟩
                case round =>
                  obtain ⟨t, S, rfl, ht, hm, HR⟩ := hrel
                  have HM2 : Hid _ := hm
                  clear hm HC
                  by_cases hlt : t < n
                  · have ht16 : Hid (t < 16) := by show t < 16; omega
                    obtain ⟨gv, hgv⟩ : ∃ v, G t = v := ⟨_, rfl⟩
                    obtain ⟨pv, hpv⟩ : ∃ v, (!gv) = v := ⟨_, rfl⟩
                    have HP : Hid (S.poll t = pv ∧ G t = gv ∧ (pv == gv) = false) := ⟨by rw [HR.out.2.owes t hlt, hgv, hpv], hgv, by subst hpv; cases gv <;> rfl⟩
                    clear hgv hpv
                    go_upto_region 37 with fail
                    refine wp_region_phase [(.pointer (some ⟨b, 0, none⟩)), (.int .i64 t), (.bool pv), (.int .i64 t), (.pointer (some ⟨dm, t, none⟩)), (.bool gv), (.bool false)] [(164, 0), (165, 1), (166, 2), (167, 3), (168, 4), (169, 5), (170, 6)] [_, _, _, _, _, _, _, _, _, _, _, _, _, _, _, _, _, _, _, _, _, _, _, _, _, _, _, _, _, _, _, _, _, _, _, _, _, _, _, _, _, _, _, _, _, _, _, _, _, _, _, _, _, _, _, _, _, _, _, _, _, _, _, _, _, _, _, _, _, _, _, _, _, _, _, _, _, _, _, _, _, _, _, _, _, _, _, _, _, _, _, _, _, _, _, _, _, _, _, _, _, _, _, _, _, _, _, _, _, _, _, _, _, _, _, _, _, _, _, _, _, _, _, _, _, _, _, _, _, _, _, _, _, _, _, _, _, _, _, _, _, _, _, _, _, _, _, _, _, _, _, _, _, _, _, _, _, _, _, _, _, _, _, _, _, _, _, _, _, _, _, _] (fun d u => PollJ w u b dm G S d) (by kernel_rfl) (by kernel_rfl) (by kernel_rfl) (by kernel_rfl) rfl ?_ ?_ ?_
                    · unfold PollJ; simpa using HR.out.1.still (Kept.refl _).drew
                    · intro i1 o ho a1 d u hh hj hi hd
                      match i1, ho, hi, hd with
                      | 0, ho, hi, hd =>
                        simp only [List.getElem?_cons_zero, Option.some.injEq] at ho
                        subst ho
                        have g9 : a1.tmps[9]? = some (.pointer (some ⟨b, 0, none⟩)) := hh.old 9 (by kernel_rfl) rfl
                        clear hh hd
                        have HN : Hid (PollJ w u b dm G S (done d 0)) := hj.plain 0 (by decide)
                        clear hj hi
                        refine wpOp_step rfl (fun K hK => ?_)
                        go_simp
                        exact hK _ _ ⟨by simp [Act.put], HN.out⟩
                      | 1, ho, hi, hd =>
                        simp only [List.getElem?_cons_succ, List.getElem?_cons_zero, Option.some.injEq] at ho
                        subst ho
                        have g22 : a1.tmps[22]? = some (.int .i64 t) := hh.old 22 (by kernel_rfl) rfl
                        clear hh hd
                        have HN : Hid (PollJ w u b dm G S (done d 1)) := hj.plain 1 (by decide)
                        clear hj hi
                        refine wpOp_step rfl (fun K hK => ?_)
                        go_simp
                        exact hK _ _ ⟨by simp [Act.put], HN.out⟩
                      | 2, ho, hi, hd =>
                        simp only [List.getElem?_cons_succ, List.getElem?_cons_zero, Option.some.injEq] at ho
                        subst ho
                        have g164 : a1.tmps[164]? = some (.pointer (some ⟨b, 0, none⟩)) := hh.did 0 _ 164 rfl rfl (hd { on := 0, ground := .data } (by simp) rfl)
                        have g165 : a1.tmps[165]? = some (.int .i64 t) := hh.did 1 _ 165 rfl rfl (hd { on := 1, ground := .data } (by simp) rfl)
                        clear hh hd
                        unfold PollJ at hj
                        simp only [hi, Bool.false_eq_true, if_false] at hj
                        have CA : Hid (Calls _ _ _ _ _) := mo_poll t hj (by have := HR.out.2.ct; omega)
                        rw [HP.out.1] at CA
                        clear hj hi
                        refine wpOp_step rfl (fun K hK => ?_)
                        go_simp
                        refine CA.out.mono ?_
                        rintro e u' ⟨rfl, t⟩
                        exact hK _ _ ⟨by simp [Act.put], PollJ.call t⟩
                      | 3, ho, hi, hd =>
                        simp only [List.getElem?_cons_succ, List.getElem?_cons_zero, Option.some.injEq] at ho
                        subst ho
                        have g22 : a1.tmps[22]? = some (.int .i64 t) := hh.old 22 (by kernel_rfl) rfl
                        clear hh hd
                        have HN : Hid (PollJ w u b dm G S (done d 3)) := hj.plain 3 (by decide)
                        clear hj hi
                        refine wpOp_step rfl (fun K hK => ?_)
                        go_simp
                        exact hK _ _ ⟨by simp [Act.put], HN.out⟩
                      | 4, ho, hi, hd =>
                        simp only [List.getElem?_cons_succ, List.getElem?_cons_zero, Option.some.injEq] at ho
                        subst ho
                        have g11 : a1.tmps[11]? = some (.pointer (some ⟨dm, 0, none⟩)) := hh.old 11 (by kernel_rfl) rfl
                        have g167 : a1.tmps[167]? = some (.int .i64 t) := hh.did 3 _ 167 rfl rfl (hd { on := 3, ground := .data } (by simp) rfl)
                        have ht16n : (t : Int) < 16 := by have := ht16.out; omega
                        clear hh hd
                        have HN : Hid (PollJ w u b dm G S (done d 4)) := hj.plain 4 (by decide)
                        clear hj hi
                        refine wpOp_step rfl (fun K hK => ?_)
                        go_simp
                        exact hK _ _ ⟨by simp [Act.put], HN.out⟩
                      | 5, ho, hi, hd =>
                        simp only [List.getElem?_cons_succ, List.getElem?_cons_zero, Option.some.injEq] at ho
                        subst ho
                        have g168 : a1.tmps[168]? = some (.pointer (some ⟨dm, t, none⟩)) := hh.did 4 _ 168 rfl rfl (hd { on := 4, ground := .data } (by simp) rfl)
                        have cc := hj.cell ht16.out
                        rw [HP.out.2.1] at cc
                        clear hh hd
                        have HN : Hid (PollJ w u b dm G S (done d 5)) := hj.plain 5 (by decide)
                        clear hj hi
                        refine wpOp_step rfl (fun K hK => ?_)
                        go_simp
                        exact hK _ _ ⟨by simp [Act.put], HN.out⟩
                      | 6, ho, hi, hd =>
                        simp only [List.getElem?_cons_succ, List.getElem?_cons_zero, Option.some.injEq] at ho
                        subst ho
                        have g166 : a1.tmps[166]? = some (.bool pv) := hh.did 2 _ 166 rfl rfl (hd { on := 2, ground := .data } (by simp) rfl)
                        have g169 : a1.tmps[169]? = some (.bool gv) := hh.did 5 _ 169 rfl rfl (hd { on := 5, ground := .data } (by simp) rfl)
                        have zz : (pv == gv) = false := HP.out.2.2
                        clear hh hd
                        have HN : Hid (PollJ w u b dm G S (done d 6)) := hj.plain 6 (by decide)
                        clear hj hi
                        refine wpOp_step rfl (fun K hK => ?_)
                        go_simp
                        exact hK _ _ ⟨by simp [Act.put], HN.out⟩
                      | n + 7, ho, hi, hd => simp at ho
                    · intro u d hall hj
                      have h2 := hall 2 (by decide)
                      unfold PollJ at hj
                      rw [h2] at hj
                      simp only [if_true] at hj
                      have HE : Hid (Mo w u b dm G S.tick ∧ Wo n s (18 + 17 * p + (t + 1 : Nat)) G S.tick) := ⟨hj, HR.out.2.tick.le (by omega)⟩
                      clear hall hj h2
                      simp only [List.getD_cons_succ, List.getD_cons_zero]
                      go_wp2
                      go_roundg (n - (t + 1))
                      all_goals (have := HM2.out; try omega)
                      exact ⟨t + 1, S.tick, by go_num, by omega, by omega, HE.out⟩
                  · obtain rfl : n = t := by omega
                    have HB : Hid (Mo w wr b dm G S ∧ Wo n s (17 + 17 * (p + 1 : Nat)) G S) := ⟨HR.out.1, HR.out.2.le (by omega)⟩
                    clear HR HM2
                    go_wp2
                    go_roundg (k - (p + 1))
                    all_goals (have := HM.out; try omega)
                    exact ⟨p + 1, G, S, by go_num, by omega, by omega, HB.out⟩
            · go_upto_block 4 with fail
              clear e0
              generalize hq : bits .and .i64 i 3 = tg
              clear hq
              generalize i / 4 = q at *
              clear g0
              go_cut [19, 20, 21] from 115 to 158 (fun _ _ _ wc => ∃ (G : Nat → Bool) (S : Hs), Hid (Mo w wc b dm G S ∧ Wo n s (18 + 17 * p) G S))
              case first =>
                have M : Hid (Mo w wr b dm G S ∧ Wo n s (18 + 17 * p) G S) := ⟨HR.out.1, HR.out.2.le (by omega)⟩
                clear HR
                by_cases t0 : tg = 0
                · have q0 : (tg == 0) = true := by simpa using t0
                  clear t0
                  go_wp2
                  go_meet
                  case rel => exact ⟨_, _, M.out⟩
                · have q0 : (tg == 0) = false := by simpa using t0
                  clear t0
                  by_cases t1 : tg = 1
                  · have q1 : (tg == 1) = true := by simpa using t1
                    clear t1
                    go_wp2
                    go_meet
                    case rel => exact ⟨_, _, M.out⟩
                  · have q1 : (tg == 1) = false := by simpa using t1
                    clear t1
                    by_cases t2 : tg = 2
                    · have q2 : (tg == 2) = true := by simpa using t2
                      clear t2
                      go_wp2
                      go_meet
                      case rel => exact ⟨_, _, M.out⟩
                    · have q2 : (tg == 2) = false := by simpa using t2
                      clear t2
                      go_wp2
                      go_meet
                      case rel => exact ⟨_, _, M.out⟩
              case rest =>
                clear HR
                obtain ⟨G, S, HC⟩ := hcut
                go_wp2
                go_loopg [22] n (fun m i wr3 => ∃ (t : Nat) (S : Hs), i = .int .i64 t ∧ t ≤ n ∧ m = n - t ∧ Hid (Mo w wr3 b dm G S ∧ Wo n s (18 + 17 * p + t) G S))
                case atStart => exact ⟨0, S, rfl, by omega, by omega, HC.out.1, HC.out.2.le (by omega)⟩
                case round =>
                  obtain ⟨t, S, rfl, ht, hm, HR⟩ := hrel
                  have HM2 : Hid _ := hm
                  clear hm HC
                  by_cases hlt : t < n
                  · have ht16 : Hid (t < 16) := by show t < 16; omega
                    obtain ⟨gv, hgv⟩ : ∃ v, G t = v := ⟨_, rfl⟩
                    obtain ⟨pv, hpv⟩ : ∃ v, (!gv) = v := ⟨_, rfl⟩
                    have HP : Hid (S.poll t = pv ∧ G t = gv ∧ (pv == gv) = false) := ⟨by rw [HR.out.2.owes t hlt, hgv, hpv], hgv, by subst hpv; cases gv <;> rfl⟩
                    clear hgv hpv
                    go_upto_region 37 with fail
                    refine wp_region_phase [(.pointer (some ⟨b, 0, none⟩)), (.int .i64 t), (.bool pv), (.int .i64 t), (.pointer (some ⟨dm, t, none⟩)), (.bool gv), (.bool false)] [(164, 0), (165, 1), (166, 2), (167, 3), (168, 4), (169, 5), (170, 6)] [_, _, _, _, _, _, _, _, _, _, _, _, _, _, _, _, _, _, _, _, _, _, _, _, _, _, _, _, _, _, _, _, _, _, _, _, _, _, _, _, _, _, _, _, _, _, _, _, _, _, _, _, _, _, _, _, _, _, _, _, _, _, _, _, _, _, _, _, _, _, _, _, _, _, _, _, _, _, _, _, _, _, _, _, _, _, _, _, _, _, _, _, _, _, _, _, _, _, _, _, _, _, _, _, _, _, _, _, _, _, _, _, _, _, _, _, _, _, _, _, _, _, _, _, _, _, _, _, _, _, _, _, _, _, _, _, _, _, _, _, _, _, _, _, _, _, _, _, _, _, _, _, _, _, _, _, _, _, _, _, _, _, _, _, _, _, _, _, _, _, _, _] (fun d u => PollJ w u b dm G S d) (by kernel_rfl) (by kernel_rfl) (by kernel_rfl) (by kernel_rfl) rfl ?_ ?_ ?_
                    · unfold PollJ; simpa using HR.out.1.still (Kept.refl _).drew
                    · intro i1 o ho a1 d u hh hj hi hd
                      match i1, ho, hi, hd with
                      | 0, ho, hi, hd =>
                        simp only [List.getElem?_cons_zero, Option.some.injEq] at ho
                        subst ho
                        have g9 : a1.tmps[9]? = some (.pointer (some ⟨b, 0, none⟩)) := hh.old 9 (by kernel_rfl) rfl
                        clear hh hd
                        have HN : Hid (PollJ w u b dm G S (done d 0)) := hj.plain 0 (by decide)
                        clear hj hi
                        refine wpOp_step rfl (fun K hK => ?_)
                        go_simp
                        exact hK _ _ ⟨by simp [Act.put], HN.out⟩
                      | 1, ho, hi, hd =>
                        simp only [List.getElem?_cons_succ, List.getElem?_cons_zero, Option.some.injEq] at ho
                        subst ho
                        have g22 : a1.tmps[22]? = some (.int .i64 t) := hh.old 22 (by kernel_rfl) rfl
                        clear hh hd
                        have HN : Hid (PollJ w u b dm G S (done d 1)) := hj.plain 1 (by decide)
                        clear hj hi
                        refine wpOp_step rfl (fun K hK => ?_)
                        go_simp
                        exact hK _ _ ⟨by simp [Act.put], HN.out⟩
                      | 2, ho, hi, hd =>
                        simp only [List.getElem?_cons_succ, List.getElem?_cons_zero, Option.some.injEq] at ho
                        subst ho
                        have g164 : a1.tmps[164]? = some (.pointer (some ⟨b, 0, none⟩)) := hh.did 0 _ 164 rfl rfl (hd { on := 0, ground := .data } (by simp) rfl)
                        have g165 : a1.tmps[165]? = some (.int .i64 t) := hh.did 1 _ 165 rfl rfl (hd { on := 1, ground := .data } (by simp) rfl)
                        clear hh hd
                        unfold PollJ at hj
                        simp only [hi, Bool.false_eq_true, if_false] at hj
                        have CA : Hid (Calls _ _ _ _ _) := mo_poll t hj (by have := HR.out.2.ct; omega)
                        rw [HP.out.1] at CA
                        clear hj hi
                        refine wpOp_step rfl (fun K hK => ?_)
                        go_simp
                        refine CA.out.mono ?_
                        rintro e u' ⟨rfl, t⟩
                        exact hK _ _ ⟨by simp [Act.put], PollJ.call t⟩
                      | 3, ho, hi, hd =>
                        simp only [List.getElem?_cons_succ, List.getElem?_cons_zero, Option.some.injEq] at ho
                        subst ho
                        have g22 : a1.tmps[22]? = some (.int .i64 t) := hh.old 22 (by kernel_rfl) rfl
                        clear hh hd
                        have HN : Hid (PollJ w u b dm G S (done d 3)) := hj.plain 3 (by decide)
                        clear hj hi
                        refine wpOp_step rfl (fun K hK => ?_)
                        go_simp
                        exact hK _ _ ⟨by simp [Act.put], HN.out⟩
                      | 4, ho, hi, hd =>
                        simp only [List.getElem?_cons_succ, List.getElem?_cons_zero, Option.some.injEq] at ho
                        subst ho
                        have g11 : a1.tmps[11]? = some (.pointer (some ⟨dm, 0, none⟩)) := hh.old 11 (by kernel_rfl) rfl
                        have g167 : a1.tmps[167]? = some (.int .i64 t) := hh.did 3 _ 167 rfl rfl (hd { on := 3, ground := .data } (by simp) rfl)
                        have ht16n : (t : Int) < 16 := by have := ht16.out; omega
                        clear hh hd
                        have HN : Hid (PollJ w u b dm G S (done d 4)) := hj.plain 4 (by decide)
                        clear hj hi
                        refine wpOp_step rfl (fun K hK => ?_)
                        go_simp
                        exact hK _ _ ⟨by simp [Act.put], HN.out⟩
                      | 5, ho, hi, hd =>
                        simp only [List.getElem?_cons_succ, List.getElem?_cons_zero, Option.some.injEq] at ho
                        subst ho
                        have g168 : a1.tmps[168]? = some (.pointer (some ⟨dm, t, none⟩)) := hh.did 4 _ 168 rfl rfl (hd { on := 4, ground := .data } (by simp) rfl)
                        have cc := hj.cell ht16.out
                        rw [HP.out.2.1] at cc
                        clear hh hd
                        have HN : Hid (PollJ w u b dm G S (done d 5)) := hj.plain 5 (by decide)
                        clear hj hi
                        refine wpOp_step rfl (fun K hK => ?_)
                        go_simp
                        exact hK _ _ ⟨by simp [Act.put], HN.out⟩
                      | 6, ho, hi, hd =>
                        simp only [List.getElem?_cons_succ, List.getElem?_cons_zero, Option.some.injEq] at ho
                        subst ho
                        have g166 : a1.tmps[166]? = some (.bool pv) := hh.did 2 _ 166 rfl rfl (hd { on := 2, ground := .data } (by simp) rfl)
                        have g169 : a1.tmps[169]? = some (.bool gv) := hh.did 5 _ 169 rfl rfl (hd { on := 5, ground := .data } (by simp) rfl)
                        have zz : (pv == gv) = false := HP.out.2.2
                        clear hh hd
                        have HN : Hid (PollJ w u b dm G S (done d 6)) := hj.plain 6 (by decide)
                        clear hj hi
                        refine wpOp_step rfl (fun K hK => ?_)
                        go_simp
                        exact hK _ _ ⟨by simp [Act.put], HN.out⟩
                      | n + 7, ho, hi, hd => simp at ho
                    · intro u d hall hj
                      have h2 := hall 2 (by decide)
                      unfold PollJ at hj
                      rw [h2] at hj
                      simp only [if_true] at hj
                      have HE : Hid (Mo w u b dm G S.tick ∧ Wo n s (18 + 17 * p + (t + 1 : Nat)) G S.tick) := ⟨hj, HR.out.2.tick.le (by omega)⟩
                      clear hall hj h2
                      simp only [List.getD_cons_succ, List.getD_cons_zero]
                      go_wp2
                      go_roundg (n - (t + 1))
                      all_goals (have := HM2.out; try omega)
                      exact ⟨t + 1, S.tick, by go_num, by omega, by omega, HE.out⟩
                  · obtain rfl : n = t := by omega
                    have HB : Hid (Mo w wr b dm G S ∧ Wo n s (17 + 17 * (p + 1 : Nat)) G S) := ⟨HR.out.1, HR.out.2.le (by omega)⟩
                    clear HR HM2
                    go_wp2
                    go_roundg (k - (p + 1))
                    all_goals (have := HM.out; try omega)
                    exact ⟨p + 1, G, S, by go_num, by omega, by omega, HB.out⟩
        · obtain rfl : k = p := by omega
          clear HM HY
          go_wp2_with fail
          refine (first_any _).mono ?_
          rintro e w5 ⟨rfl, k5⟩
          have H5 : Hid (Kept w w5) := (HR.out.1.still k5).kept
          clear k5 HR
          go_wp2
          go_ret
          exact ⟨rfl, H5.out⟩

theorem handAll_any (n0 : Int) (x1 : Option Addr) (l1 c1 : Nat) (L1 : Nat → Bool) (n2 : Int) (x3 : Option Addr) (l3 c3 : Nat) (L3 : Nat → Int) (w : World) (_lo0 : IntKind.min .i64 ≤ n0) (_hi0 : n0 ≤ IntKind.max .i64) (_h1c : l1 ≤ c1) (hL1 : Bools w x1 l1 L1) (_lo2 : IntKind.min .i64 ≤ n2) (_hi2 : n2 ≤ IntKind.max .i64) (_h3c : l3 ≤ c3) (hL3 : Ints w x3 l3 L3) (_hB3 : ∀ i, i < l3 → IntKind.min .i64 ≤ L3 i ∧ L3 i ≤ IntKind.max .i64) :
    Calls Try.prog 4 #[.int .i64 n0, .slice x1 l1 c1, .int .i64 n2, .slice x3 l3 c3] w fun e w' => e = .returned (.bool true) ∧ Kept w w' := by
  by_cases hn : 1 ≤ n0 ∧ n0 ≤ 16
  · obtain ⟨n, rfl⟩ : ∃ n : Nat, n0 = n := ⟨n0.toNat, by omega⟩
    by_cases h1 : (l1 : Int) < n
    · exact all_out n n2 x1 l1 c1 x3 l3 c3 w hn.1 hn.2 (.inl h1)
    · by_cases h2 : n2 < 1
      · exact all_out n n2 x1 l1 c1 x3 l3 c3 w hn.1 hn.2 (.inr (.inl ⟨h1, h2⟩))
      · by_cases h3 : 4 < n2
        · exact all_out n n2 x1 l1 c1 x3 l3 c3 w hn.1 hn.2 (.inr (.inr (.inl ⟨h1, h2, h3⟩)))
        · by_cases h4 : 300 < (l3 : Int)
          · exact all_out n n2 x1 l1 c1 x3 l3 c3 w hn.1 hn.2 (.inr (.inr (.inr ⟨h1, h2, h3, h4⟩)))
          · exact all_in n n2 x1 l1 c1 L1 x3 l3 c3 L3 w hL1 hL3 hn.1 hn.2 (by omega) (by omega) (by omega) (by omega)
  · exact all_bad n0 n2 x1 l1 c1 x3 l3 c3 w hn
end Go.Proofs.Ytemaaefcnadmfaa
