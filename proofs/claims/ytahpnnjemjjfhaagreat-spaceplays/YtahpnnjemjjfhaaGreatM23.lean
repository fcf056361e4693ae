/-
  The modules RefCheck12, RspA, one behind another.
-/
import Derived.Test.YtahpnnjemjjfhaaGreatM05
import Derived.Test.YtahpnnjemjjfhaaGreatM17
import Derived.Test.YtahpnnjemjjfhaaGreatM18
import Derived.Test.YtahpnnjemjjfhaaGreatM19
import Derived.Test.YtahpnnjemjjfhaaGreatM20
import Derived.Test.YtahpnnjemjjfhaaGreatM21
import Derived.Test.YtahpnnjemjjfhaaGreatM22
/-
  Contracts of the laws' own package sporef1, as far as Check goes.
-/
namespace Go.Proofs.YtahpnnjemjjfhaaGreat
open Go.RowKit

set_option maxHeartbeats 400000 in
theorem in_any (n lo hi : Int) (p : Bool) (w : World) (hp : p = true ↔ lo ≤ n ∧ n ≤ hi) :
    Calls Tryz.prog 91 #[.int .i64 n, .int .i64 lo, .int .i64 hi] w fun e w' => e = .returned (.bool p) ∧ w' = w := by
  by_cases h1 : n ≥ lo
  · by_cases h2 : n ≤ hi
    · obtain rfl : p = true := hp.2 ⟨h1, h2⟩
      clear hp
      go_enter Tryz.func91, Tryz.ntmps91
      go_wp2
      go_ret
      exact ⟨rfl, rfl⟩
    · obtain rfl : p = false := by
        cases p
        · rfl
        · have := hp.1 rfl
          omega
      clear hp
      go_enter Tryz.func91, Tryz.ntmps91
      go_wp2
      go_ret
      exact ⟨rfl, rfl⟩
  · obtain rfl : p = false := by
      cases p
      · rfl
      · have := hp.1 rfl
        omega
    clear hp
    go_enter Tryz.func91, Tryz.ntmps91
    go_wp2
    go_ret
    exact ⟨rfl, rfl⟩

set_option maxHeartbeats 400000 in
theorem ref_may (s : Sh) (w : World) :
    Calls Tryz.prog 92 #[.agg #[.bool s.arr, .slice s.x s.l s.c]] w fun e w' => e = .returned (.bool s.may) ∧ Kept w w' := by
  obtain ⟨b, x, l, c⟩ := s
  cases b
  · simp only [Sh.may]
    go_enter Tryz.func92, Tryz.ntmps92
    go_wp2
    go_ret
    exact ⟨by simp, (Kept.refl _).alloc _ _⟩
  · by_cases h : (l : Int) = 1
    · have t1 : ((l : Int) == 1) = true := by simp [h]
      simp only [Sh.may]
      clear h
      go_enter Tryz.func92, Tryz.ntmps92
      go_wp2
      go_ret
      exact ⟨by simp, (Kept.refl _).alloc _ _⟩
    · have t1 : ((l : Int) == 1) = false := by simp [h]
      simp only [Sh.may]
      clear h
      go_enter Tryz.func92, Tryz.ntmps92
      go_wp2
      go_ret
      exact ⟨by simp, (Kept.refl _).alloc _ _⟩
set_option maxHeartbeats 2000000 in
theorem ref_check (n0 n1 n2 n3 n4 n5 n6 n7 : Int) (x : Option Addr) (l c : Nat) (S : Nat → Sh) (r : Int) (w : World) (hS : Shps w x l S) (hr : Checks n0 n1 n2 n3 n4 n5 n6 n7 l S r) :
    Calls Tryz.prog 40 #[.agg #[.int .i64 n0, .int .i64 n1, .int .i64 n2, .int .i64 n3, .int .i64 n4, .int .i64 n5, .int .i64 n6, .int .i64 n7, .slice x l c]] w fun e w' => e = .returned (.int .i64 r) ∧ Kept w w' := by
  obtain ⟨q0, h0⟩ := bool_iff (4 ≤ n0 ∧ n0 ≤ 1024)
  obtain ⟨q1, h1⟩ := bool_iff (0 ≤ n1 ∧ n1 ≤ 2048)
  obtain ⟨q2, h2⟩ := bool_iff (0 ≤ n2 ∧ n2 ≤ 8)
  obtain ⟨q3, h3⟩ := bool_iff (1 ≤ n3 ∧ n3 ≤ 16)
  obtain ⟨q4, h4⟩ := bool_iff (1 ≤ n4 ∧ n4 ≤ 8)
  obtain ⟨q5, h5⟩ := bool_iff (0 ≤ n5 ∧ n5 ≤ 8)
  obtain ⟨q6, h6⟩ := bool_iff (1 ≤ n6 ∧ n6 ≤ 256)
  obtain ⟨q7, h7⟩ := bool_iff (0 ≤ n7 ∧ n7 ≤ n0)
  obtain ⟨q8, h8⟩ := bool_iff (n3 * n5 ≤ n0)
  obtain ⟨q9, h9⟩ := bool_iff (1 ≤ (l : Int) ∧ (l : Int) ≤ 8)
  obtain ⟨q10, h10⟩ := bool_iff (∀ i, i < l → (S i).may = true)
  have hr : r = if (q0 && (q1 && (q2 && (q3 && (q4 && (q5 && (q6 && (q7 && q8)))))))) then (if q9 then (if q10 then 0 else 4) else 4) else 1 := by
    by_cases hf : Fits n0 n1 n2 n3 n4 n5 n6 n7
    · obtain ⟨f0, f1, f2, f6, f7, f3, f4, f5, f8⟩ := id hf
      rw [h0.2 f0, h1.2 f1, h2.2 f2, h3.2 f3, h4.2 f4, h5.2 f5, h6.2 f6, h7.2 f7, h8.2 f8]
      by_cases m : Mays l S
      · rw [h9.2 ⟨by have := m.1; omega, by have := m.2.1; omega⟩, h10.2 m.2.2]
        exact hr.ok hf m
      · rw [hr.kind hf m]
        cases q9
        · rfl
        · cases q10
          · rfl
          · exact absurd ⟨by have := h9.1 rfl; omega, by have := h9.1 rfl; omega, h10.1 rfl⟩ m
    · rw [hr.out hf]
      cases hq : (q0 && (q1 && (q2 && (q3 && (q4 && (q5 && (q6 && (q7 && q8))))))))
      · rfl
      · simp only [Bool.and_eq_true] at hq
        obtain ⟨e0, e1, e2, e3, e4, e5, e6, e7, e8⟩ := hq
        exact absurd ⟨h0.1 e0, h1.1 e1, h2.1 e2, h6.1 e6, h7.1 e7, h3.1 e3, h4.1 e4, h5.1 e5, h8.1 e8⟩ hf
  subst hr
  have C0 : Hid (∀ w, Calls Tryz.prog 91 #[.int .i64 n0, .int .i64 4, .int .i64 1024] w _) := fun w => in_any n0 4 1024 q0 w h0
  have C1 : Hid (∀ w, Calls Tryz.prog 91 #[.int .i64 n1, .int .i64 0, .int .i64 2048] w _) := fun w => in_any n1 0 2048 q1 w h1
  have C2 : Hid (∀ w, Calls Tryz.prog 91 #[.int .i64 n2, .int .i64 0, .int .i64 8] w _) := fun w => in_any n2 0 8 q2 w h2
  have C3 : Hid (∀ w, Calls Tryz.prog 91 #[.int .i64 n3, .int .i64 1, .int .i64 16] w _) := fun w => in_any n3 1 16 q3 w h3
  have C4 : Hid (∀ w, Calls Tryz.prog 91 #[.int .i64 n4, .int .i64 1, .int .i64 8] w _) := fun w => in_any n4 1 8 q4 w h4
  have C5 : Hid (∀ w, Calls Tryz.prog 91 #[.int .i64 n5, .int .i64 0, .int .i64 8] w _) := fun w => in_any n5 0 8 q5 w h5
  have C6 : Hid (∀ w, Calls Tryz.prog 91 #[.int .i64 n6, .int .i64 1, .int .i64 256] w _) := fun w => in_any n6 1 256 q6 w h6
  have C7 : Hid (∀ w, Calls Tryz.prog 91 #[.int .i64 n7, .int .i64 0, .int .i64 n0] w _) := fun w => in_any n7 0 n0 q7 w h7
  have C9 : Hid (∀ w, Calls Tryz.prog 91 #[.int .i64 l, .int .i64 1, .int .i64 8] w _) := fun w => in_any l 1 8 q9 w h9
  have H3 : Hid (q3 = true ↔ 1 ≤ n3 ∧ n3 ≤ 16) := h3
  have H5 : Hid (q5 = true ↔ 0 ≤ n5 ∧ n5 ≤ 8) := h5
  have H8 : Hid (q8 = true ↔ n3 * n5 ≤ n0) := h8
  have H9 : Hid (q9 = true ↔ 1 ≤ (l : Int) ∧ (l : Int) ≤ 8) := h9
  have H10 : Hid (q10 = true ↔ ∀ i, i < l → (S i).may = true) := h10
  have HS : Hid (Shps w x l S) := hS
  clear h0 h1 h2 h3 h4 h5 h6 h7 h8 h9 h10 hS
  go_enter Tryz.func40, Tryz.ntmps40
  go_wp2_with fail
  refine (C0.out _).mono ?_
  rintro e w' ⟨rfl, rfl⟩
  cases q0
  · go_wp2
    go_ret
    exact ⟨rfl, (Kept.refl _).alloc _ _⟩
  go_wp2_with fail
  refine (C1.out _).mono ?_
  rintro e w' ⟨rfl, rfl⟩
  cases q1
  · go_wp2
    go_ret
    exact ⟨rfl, (Kept.refl _).alloc _ _⟩
  go_wp2_with fail
  refine (C2.out _).mono ?_
  rintro e w' ⟨rfl, rfl⟩
  cases q2
  · go_wp2
    go_ret
    exact ⟨rfl, (Kept.refl _).alloc _ _⟩
  go_wp2_with fail
  refine (C3.out _).mono ?_
  rintro e w' ⟨rfl, rfl⟩
  cases q3
  · go_wp2
    go_ret
    exact ⟨rfl, (Kept.refl _).alloc _ _⟩
  go_wp2_with fail
  refine (C4.out _).mono ?_
  rintro e w' ⟨rfl, rfl⟩
  cases q4
  · go_wp2
    go_ret
    exact ⟨rfl, (Kept.refl _).alloc _ _⟩
  go_wp2_with fail
  refine (C5.out _).mono ?_
  rintro e w' ⟨rfl, rfl⟩
  cases q5
  · go_wp2
    go_ret
    exact ⟨rfl, (Kept.refl _).alloc _ _⟩
  go_wp2_with fail
  refine (C6.out _).mono ?_
  rintro e w' ⟨rfl, rfl⟩
  cases q6
  · go_wp2
    go_ret
    exact ⟨rfl, (Kept.refl _).alloc _ _⟩
  go_wp2_with fail
  refine (C7.out _).mono ?_
  rintro e w' ⟨rfl, rfl⟩
  cases q7
  · go_wp2
    go_ret
    exact ⟨rfl, (Kept.refl _).alloc _ _⟩
  have b0 : 1 ≤ n3 ∧ n3 ≤ 16 := by have := H3.out; simpa using this
  have b2 : 0 ≤ n5 ∧ n5 ≤ 8 := by have := H5.out; simpa using this
  obtain ⟨m0, m1⟩ := mul_bounds b0 b2
  clear b0 b2
  have h8 := H8.out
  by_cases hm : n3 * n5 > n0
  · obtain rfl : q8 = false := by
      cases q8
      · rfl
      · exact absurd (h8.1 rfl) (by omega)
    clear h8
    go_wp2
    go_ret
    exact ⟨rfl, (Kept.refl _).alloc _ _⟩
  obtain rfl : q8 = true := h8.2 (by omega)
  clear h8
  go_wp2_with fail
  refine (C9.out _).mono ?_
  rintro e w' ⟨rfl, rfl⟩
  cases q9
  · go_wp2
    go_ret
    exact ⟨rfl, (Kept.refl _).alloc _ _⟩
  have hl : 1 ≤ (l : Int) ∧ (l : Int) ≤ 8 := by have := H9.out; simpa using this
  go_wp2_with fail
  generalize hW1 : w.alloc _ = W1
  have B1 : Hid (Blk W1 w.heap.size (cl n0 n1 n2 n3 n4 n5 n6 n7 (.slice x l c))) := by rw [← hW1]; exact Blk.new w _ _
  have K1 : Hid (Kept w W1) := by rw [← hW1]; exact (Kept.refl w).alloc _ _
  clear hW1
  go_loopg [3] l (fun m i wr => ∃ k : Nat, i = .int .i64 k ∧ k ≤ l ∧ m = l - k ∧ Hid (Kept W1 wr) ∧ Hid (∀ i, i < k → (S i).may = true))
  case atStart => exact ⟨0, rfl, by omega, by omega, Kept.refl _, fun _ h => absurd h (Nat.not_lt_zero _)⟩
  case round =>
    obtain ⟨k, rfl, hk0, hm, KK, hall⟩ := hrel
    have HM : Hid _ := hm
    clear hm
    have c8 := (B1.out.kept KK.out).at 8 rfl
    by_cases hlt : k < l
    · obtain ⟨b, o, rfl, hb, hc⟩ := HS.out (by omega)
      have kr : Kept w wr := K1.out.trans KK.out
      have a0 : wr.cell? ⟨b, o + k * 2, none⟩ = _ := (kr.cell hb).trans (hc k hlt).1
      have a1 : wr.cell? ⟨b, o + k * 2 + 1, none⟩ = _ := (kr.cell hb).trans (hc k hlt).2
      have M : Hid (∀ w, _) := fun w => ref_may (S k) w
      clear hc kr
      go_wp2_with fail
      refine (M.out _).mono ?_
      rintro e w2 ⟨rfl, K2⟩
      have K3 : Hid (Kept W1 w2) := KK.out.trans K2
      clear K2 a0 a1 M c8
      cases hmay : (S k).may
      · obtain rfl : q10 = false := by
          cases q10
          · rfl
          · have m := H10.out
            simp only [true_iff] at m
            rw [m k hlt] at hmay
            cases hmay
        clear hmay
        go_wp2
        go_ret
        exact ⟨rfl, K1.out.trans K3.out⟩
      · have hall2 : Hid (∀ i, i < k + 1 → (S i).may = true) := fun i hi => by
          rcases Nat.lt_succ_iff_lt_or_eq.1 hi with h | rfl
          · exact hall.out i h
          · exact hmay
        clear hmay
        go_wp2
        go_roundg (gk - 1)
        case measure => have := HM.out; omega
        case rel => have := HM.out; exact ⟨k + 1, by go_num, by omega, by omega, K3, hall2⟩
    · obtain rfl : k = l := by omega
      obtain rfl : q10 = true := by
        cases q10
        · have m := H10.out
          have := hall.out
          simp at m
          obtain ⟨i, h1, h2⟩ := m
          rw [this i h1] at h2
          cases h2
        · rfl
      go_wp2
      go_ret
      exact ⟨rfl, K1.out.trans KK.out⟩

end Go.Proofs.YtahpnnjemjjfhaaGreat

/-
  The document's space as it lies in memory, over the same plain values as package space's: all its blocks bear a colour; what a call leaves.
-/
namespace Go.Proofs.YtahpnnjemjjfhaaGreat
open Go.RowKit

/-- Where the document's space lies: itself (its line in its midst), the table and its rows, the pool and its row, the coil, the row of stocks and its room, each stock; its configuration. -/
structure Ar where
  b : Nat
  tb : Nat
  gs : Nat
  gh : Nat
  gc : Nat
  pb : Nat
  pg : Nat
  kb : Nat
  sb : Nat
  sc : Nat
  q : Nat → Nat
  C : Cv
def Ar.rq (A : Ar) (m : Nat) (fo : Bool) (ct : Int) : RQ := ⟨.int .i64 A.C.n0, .int .i64 A.C.n1, .int .i64 A.C.n2, .int .i64 A.C.n3, .int .i64 A.C.n4, .int .i64 A.C.n5, .int .i64 A.C.n6, .int .i64 A.C.n7, .slice A.C.x A.C.l A.C.c,
  .pointer (some ⟨A.tb, 0, none⟩), .pointer (some ⟨A.pb, 0, none⟩), .slice (some ⟨A.sb, 0, none⟩) m A.sc, .pointer (some ⟨A.kb, 0, none⟩), .bool fo, .int .i64 ct⟩

/-- A request without the place of what it got, and without what is noted. -/
def Ent.nr (e : Ent) : Ent := { e with gx := none, gc := 0, nt := false }
/-- The same table but for the colours of what isn't used. -/
def teq (n : Nat) (T T' : Nat → Fr) : Prop := ∀ j, j < n → (T' j).s = (T j).s ∧ (T' j).h = (T j).h ∧ ((T j).s = 2 → (T' j).c = (T j).c)
/-- Threads that are noted, and requests that are. -/
structure Nrel (E : List Ent) (N : List Int) : Prop where
  nt : ∀ e, e ∈ E → e.st = 0 → (e.nt = true ↔ e.th ∈ N)
  sub : ∀ x, x ∈ N → ∃ e ∈ E, e.th = x
  nd : (E.map Ent.th).Nodup
  few : N.length ≤ 100000

theorem teq.refl (n : Nat) (T : Nat → Fr) : teq n T T := fun _ _ => ⟨rfl, rfl, fun _ => rfl⟩
section
variable {n : Nat} {T T' : Nat → Fr}
theorem teq.set (h : teq n T T') (i s : Int) (p c c' : Bool) (hc : s = 2 → c' = c) : teq n (setT n T i s p c) (setT n T' i s p c') := by
  intro j hj
  unfold setT
  by_cases q : (inn n i && isSt s) = true
  · rw [if_pos q, if_pos q]
    by_cases e : j = i.toNat
    · simp only [if_pos e]
      exact ⟨trivial, trivial, hc⟩
    · simp only [if_neg e]
      exact h j hj
  · rw [if_neg q, if_neg q]
    exact h j hj
theorem teq.use (h : teq n T T') (z : Int) (se se' : Bool) (hc : z = 2 → se' = se) (L : List Int) : teq n (useT n z se T L) (useT n z se' T' L) := by
  unfold useT
  induction L generalizing T T' with
  | nil => exact h
  | cons x L ih => exact ih (h.set x z false se se' hc)
theorem teq.stt (h : teq n T T') (i : Int) : stt n T' i = stt n T i := by
  unfold Go.Proofs.YtahpnnjemjjfhaaGreat.stt
  by_cases q : inn n i = true
  · obtain ⟨k, rfl, hk⟩ := tinn_iff q
    rw [if_pos q, if_pos q, Int.toNat_natCast, (h k hk).1]
  · rw [if_neg q, if_neg q]
theorem teq.usd (h : teq n T T') (i : Int) : usd n T' i = usd n T i := by
  rw [← stt_usd, ← stt_usd, h.stt]
theorem teq.hdd (h : teq n T T') (i : Int) : hdd n T' i = hdd n T i := by
  unfold Go.Proofs.YtahpnnjemjjfhaaGreat.hdd
  by_cases q : inn n i = true
  · obtain ⟨k, rfl, hk⟩ := tinn_iff q
    rw [Int.toNat_natCast, (h k hk).2.1]
  · have : inn n i = false := by simpa using q
    rw [this]; rfl
theorem teq.blk (h : teq n T T') (i : Int) (c : Bool) : blk n T' i c = blk n T i c := by
  unfold Go.Proofs.YtahpnnjemjjfhaaGreat.blk
  rw [h.usd]
  by_cases q : Go.Proofs.YtahpnnjemjjfhaaGreat.usd n T i = true
  · have q' := q
    unfold Go.Proofs.YtahpnnjemjjfhaaGreat.usd at q
    rw [Bool.and_eq_true] at q
    obtain ⟨k, rfl, hk⟩ := tinn_iff q.1
    rw [Int.toNat_natCast, (h k hk).2.2 (by simpa using q.2)]
  · have : Go.Proofs.YtahpnnjemjjfhaaGreat.usd n T i = false := by simpa using q
    rw [this]; rfl
theorem teq.bornB (h : teq n T T') (i : Int) : bornB n T' i = bornB n T i := by
  unfold Go.Proofs.YtahpnnjemjjfhaaGreat.bornB
  rw [h.usd]
  by_cases q : Go.Proofs.YtahpnnjemjjfhaaGreat.usd n T i = true
  · unfold Go.Proofs.YtahpnnjemjjfhaaGreat.usd at q
    rw [Bool.and_eq_true] at q
    obtain ⟨k, rfl, hk⟩ := tinn_iff q.1
    rw [Int.toNat_natCast, (h k hk).2.1]
  · have : Go.Proofs.YtahpnnjemjjfhaaGreat.usd n T i = false := by simpa using q
    rw [this]; rfl
theorem teq.born (h : teq n T T') (i : Int) : teq n (bornT n T i) (bornT n T' i) := by
  intro j hj
  unfold bornT
  rw [h.bornB]
  by_cases q : Go.Proofs.YtahpnnjemjjfhaaGreat.bornB n T i = true
  · rw [if_pos q, if_pos q]
    by_cases e : j = i.toNat
    · simp only [if_pos e]
      exact ⟨(h j hj).1, trivial, (h j hj).2.2⟩
    · simp only [if_neg e]
      exact h j hj
  · rw [if_neg q, if_neg q]
    exact h j hj
theorem cnt_teq (s : Int) : ∀ {k : Nat}, (∀ j, j < k → (T' j).s = (T j).s) → cnt T' s k = cnt T s k
  | 0, _ => rfl
  | k + 1, h => by
    simp only [cnt]
    rw [cnt_teq s fun j hj => h j (by omega), h k (by omega)]
theorem teq.cnt (h : teq n T T') (s : Int) : cnt T' s n = cnt T s n := cnt_teq s fun j hj => (h j hj).1
end

/-- The document's space at A, over S; its blocks of the colours 1 (table), 2 (pool), 3 (itself, its line), 4 (coil), 6 (row of stocks), 10 + i (stock i), all at B or behind. -/
structure RSH (B : Nat) (w : World) (c : Nat → Nat) (A : Ar) (S : Sp) : Prop where
  tab : ∃ T', RtT w A.tb A.gs A.gh A.gc S.n T' ∧ teq S.n S.T T'
  pool : PTab 112 w A.pb A.pg S.n S.F
  line : ∃ v nv E N, RlT (A.rq S.m S.fo S.ct) w 0 A.b v nv E N ∧ E.map Ent.nr = S.E.map Ent.nr ∧ Nrel S.E N ∧ ∀ k, k ∈ footR A.b v nv E → c k = 3
  coil : CTab 63 w A.kb S.K
  row : ∃ M f, w.rowIs A.sb 100 M f ∧ S.m ≤ M ∧ ∀ i, i < S.m → f i = .pointer (some ⟨A.q i, 0, none⟩)
  stk : ∀ i, i < S.m → ∃ v, STab 102 w 0 (A.q i) S.most v (S.Q i) ∧ c (A.q i) = 10 + i ∧ ∀ k, v.ownBlock = some k → c k = 10 + i
  shp : Shps w A.C.x A.C.l A.C.S
  shb : ∀ g o, A.C.x = some ⟨g, o, none⟩ → g < B
  good : A.C.Good
  n0 : A.C.n0 = S.n
  n1 : A.C.n1 = S.K.s
  ctb : c A.tb = 1
  cgs : c A.gs = 1
  cgh : c A.gh = 1
  cgc : c A.gc = 1
  cpb : c A.pb = 2
  cpg : c A.pg = 2
  ckb : c A.kb = 4
  csb : c A.sb = 6
  few : S.m ≤ 16
  low : ∀ k, c k ≠ 0 → k < w.heap.size
  bas : ∀ k, c k ≠ 0 → B ≤ k

/-- What a write into blocks of colour z alone leaves. -/
structure RFr (w' : World) (c : Nat → Nat) (A : Ar) (S : Sp) (z : Nat) : Prop where
  tab : z ≠ 1 → ∃ T', RtT w' A.tb A.gs A.gh A.gc S.n T' ∧ teq S.n S.T T'
  pool : z ≠ 2 → PTab 112 w' A.pb A.pg S.n S.F
  line : z ≠ 3 → ∃ v nv E N, RlT (A.rq S.m S.fo S.ct) w' 0 A.b v nv E N ∧ E.map Ent.nr = S.E.map Ent.nr ∧ Nrel S.E N ∧ ∀ k, k ∈ footR A.b v nv E → c k = 3
  coil : z ≠ 4 → CTab 63 w' A.kb S.K
  row : z ≠ 6 → ∃ M f, w'.rowIs A.sb 100 M f ∧ S.m ≤ M ∧ ∀ i, i < S.m → f i = .pointer (some ⟨A.q i, 0, none⟩)
  stk : ∀ i, i < S.m → z ≠ 10 + i → ∃ v, STab 102 w' 0 (A.q i) S.most v (S.Q i) ∧ c (A.q i) = 10 + i ∧ ∀ k, v.ownBlock = some k → c k = 10 + i
  shp : Shps w' A.C.x A.C.l A.C.S

section
variable {B : Nat} {c c' : Nat → Nat} {w w' : World} {A : Ar} {S : Sp}
theorem RSH.frame {D : List Nat} {z : Nat} (h : RSH B w c A S) (m : Mut D w w') (hd : ∀ k, k ∈ D → c k = z ∧ B ≤ k) : RFr w' c A S z := by
  have H : ∀ k y, c k = y → z ≠ y → k ∉ D := fun k y e hz q => hz ((hd k q).1.symm.trans e)
  obtain ⟨T', t1, t2⟩ := h.tab
  obtain ⟨v, nv, E, N, l1, l2, l3, l4⟩ := h.line
  obtain ⟨M, f, r1, r2, r3⟩ := h.row
  exact ⟨fun q => ⟨T', t1.muts m (H _ _ h.ctb q) (H _ _ h.cgs q) (H _ _ h.cgh q) (H _ _ h.cgc q), t2⟩, fun q => h.pool.muts m (H _ _ h.cpb q) (H _ _ h.cpg q),
    fun q => ⟨v, nv, E, N, l1.muts m fun k hk => H _ _ (l4 k hk) q, l2, l3, l4⟩, fun q => h.coil.muts m (H _ _ h.ckb q), fun q => ⟨M, f, m.row r1 (H _ _ h.csb q), r2, r3⟩,
    fun i hi q => by
      obtain ⟨v, s1, s2, s3⟩ := h.stk i hi
      exact ⟨v, s1.muts m (H _ _ s2 q) fun k hk => H _ _ (s3 k hk) q, s2, s3⟩,
    shp_muts h.shp m fun g o e q => by
      have h1 := h.shb g o e
      have h2 := (hd g q).2
      omega⟩
theorem RSH.new (h : RSH B w c A S) {k : Nat} (hk : w.heap.size ≤ k) : c k = 0 := by
  by_cases e : c k = 0
  · exact e
  · have := h.low k e; omega
theorem RSH.base (h : RSH B w c A S) : B ≤ w.heap.size := by
  have h1 := h.bas A.tb (by rw [h.ctb]; decide)
  have h2 := h.low A.tb (by rw [h.ctb]; decide)
  omega
/-- What bears no colour was written. -/
theorem RSH.muts {D : List Nat} (h : RSH B w c A S) (m : Mut D w w') (hd : ∀ k, k ∈ D → c k = 0 ∧ B ≤ k) : RSH B w' c A S := by
  have F := h.frame m hd
  exact ⟨F.tab (by decide), F.pool (by decide), F.line (by decide), F.coil (by decide), F.row (by decide), fun i hi => F.stk i hi (by omega), F.shp, h.shb, h.good, h.n0, h.n1, h.ctb, h.cgs, h.cgh, h.cgc, h.cpb, h.cpg, h.ckb, h.csb, h.few, fun k hk => Nat.lt_of_lt_of_le (h.low k hk) m.size, h.bas⟩
theorem RSH.kept (h : RSH B w c A S) (k : Kept w w') : RSH B w' c A S := h.muts (D := []) k.mut (fun _ q => by cases q)
/-- The table alone was written. -/
theorem RSH.tabs (h : RSH B w c A S) {T T' : Nat → Fr} (t : RtT w' A.tb A.gs A.gh A.gc S.n T') (e : teq S.n T T') (m : Mut [A.gs, A.gh, A.gc] w w') : RSH B w' c A { S with T := T } ∧ Stp c w c w' := by
  have hd : ∀ k, k ∈ [A.gs, A.gh, A.gc] → c k = 1 ∧ B ≤ k := fun k hk => by
    simp only [List.mem_cons, List.not_mem_nil, or_false] at hk
    have : c k = 1 := by
      rcases hk with rfl | rfl | rfl
      · exact h.cgs
      · exact h.cgh
      · exact h.cgc
    exact ⟨this, h.bas k (by rw [this]; decide)⟩
  have F := h.frame m hd
  exact ⟨⟨⟨T', t, e⟩, F.pool (by decide), F.line (by decide), F.coil (by decide), F.row (by decide), fun i hi => F.stk i hi (by omega), F.shp, h.shb, h.good, h.n0, h.n1, h.ctb, h.cgs, h.cgh, h.cgc, h.cpb, h.cpg, h.ckb, h.csb, h.few, fun k hk => Nat.lt_of_lt_of_le (h.low k hk) m.size, h.bas⟩,
    Stp.of m fun k hk _ => by rw [(hd k hk).1]; decide⟩
/-- The pool alone was written. -/
theorem RSH.pools (h : RSH B w c A S) {F : Nat → Bool} (t : PTab 112 w' A.pb A.pg S.n F) (m : Mut [A.pg] w w') : RSH B w' c A { S with F := F } ∧ Stp c w c w' := by
  have hd : ∀ k, k ∈ [A.pg] → c k = 2 ∧ B ≤ k := fun k hk => by
    rw [List.mem_singleton.1 hk]
    exact ⟨h.cpg, h.bas _ (by rw [h.cpg]; decide)⟩
  have F := h.frame m hd
  exact ⟨⟨F.tab (by decide), t, F.line (by decide), F.coil (by decide), F.row (by decide), fun i hi => F.stk i hi (by omega), F.shp, h.shb, h.good, h.n0, h.n1, h.ctb, h.cgs, h.cgh, h.cgc, h.cpb, h.cpg, h.ckb, h.csb, h.few, fun k hk => Nat.lt_of_lt_of_le (h.low k hk) m.size, h.bas⟩,
    Stp.of m fun k hk _ => by rw [(hd k hk).1]; decide⟩
/-- The coil alone was written. -/
theorem RSH.coils (h : RSH B w c A S) {K : CS} (t : CTab 63 w' A.kb K) (e : K.s = S.K.s) (m : Mut [A.kb] w w') : RSH B w' c A { S with K := K } ∧ Stp c w c w' := by
  have hd : ∀ k, k ∈ [A.kb] → c k = 4 ∧ B ≤ k := fun k hk => by
    rw [List.mem_singleton.1 hk]
    exact ⟨h.ckb, h.bas _ (by rw [h.ckb]; decide)⟩
  have F := h.frame m hd
  exact ⟨⟨F.tab (by decide), F.pool (by decide), F.line (by decide), t, F.row (by decide), fun i hi => F.stk i hi (by omega), F.shp, h.shb, h.good, h.n0, h.n1.trans (by rw [e]), h.ctb, h.cgs, h.cgh, h.cgc, h.cpb, h.cpg, h.ckb, h.csb, h.few, fun k hk => Nat.lt_of_lt_of_le (h.low k hk) m.size, h.bas⟩,
    Stp.of m fun k hk _ => by rw [(hd k hk).1]; decide⟩
/-- The line, and its cells in the head, alone were written. -/
theorem RSH.lines {v nv v' nv' : Value} {E E' EE : List Ent} {N' : List Int} {D : List Nat} {fo : Bool} {ct : Int} (h : RSH B w c A S) (hf : ∀ k, k ∈ footR A.b v nv E → c k = 3) (t : RlT (A.rq S.m fo ct) w' 0 A.b v' nv' E' N') (m : Mut D w w')
    (hD : ∀ k, k ∈ D → k ∈ footR A.b v nv E) (hn : ∀ k, k ∈ footR A.b v' nv' E' → k ∈ footR A.b v nv E ∨ w.heap.size ≤ k) (hE : E'.map Ent.nr = EE.map Ent.nr) (hr : Nrel EE N') :
    RSH B w' (grow c w (footR A.b v' nv' E') 3) A { S with E := EE, fo := fo, ct := ct } ∧ Stp c w (grow c w (footR A.b v' nv' E') 3) w' := by
  have hd : ∀ k, k ∈ D → c k = 3 ∧ B ≤ k := fun k hk => ⟨hf k (hD k hk), h.bas k (by rw [hf k (hD k hk)]; decide)⟩
  have F := h.frame m hd
  have G : ∀ k z, c k = z → z ≠ 0 → grow c w (footR A.b v' nv' E') 3 k = z := fun k z e hz => (grow_old (h.low k (by omega))).trans e
  refine ⟨⟨F.tab (by decide), F.pool (by decide), ⟨v', nv', E', N', t, hE, hr, fun k hk => ?_⟩, F.coil (by decide), F.row (by decide), fun i hi => ?_, F.shp, h.shb, h.good, h.n0, h.n1, G _ _ h.ctb (by decide), G _ _ h.cgs (by decide), G _ _ h.cgh (by decide), G _ _ h.cgc (by decide), G _ _ h.cpb (by decide), G _ _ h.cpg (by decide), G _ _ h.ckb (by decide), G _ _ h.csb (by decide), h.few, fun k hk => ?_, fun k hk => ?_⟩, Stp.grow m (fun k hk _ => by rw [(hd k hk).1]; decide) _ _⟩
  · rcases hn k hk with q | q
    · exact G _ _ (hf k q) (by decide)
    · exact grow_new q hk
  · obtain ⟨v, s1, s2, s3⟩ := F.stk i hi (by omega)
    exact ⟨v, s1, G _ _ s2 (by omega), fun k hk => G _ _ (s3 k hk) (by omega)⟩
  · by_cases q : k < w.heap.size
    · exact Nat.lt_of_lt_of_le q m.size
    · by_cases q2 : k ∈ footR A.b v' nv' E'
      · exact (t.lt k q2).2
      · exact absurd (grow_not (by omega) q2) hk
  · by_cases q : k < w.heap.size
    · rw [grow_old q] at hk; exact h.bas k hk
    · have := h.base; omega
/-- A cell of the head behind the line. -/
theorem RlT.cellw {rq rq' : RQ} {base b : Nat} {v nv : Value} {E : List Ent} {N : List Int} (h : RlT rq w base b v nv E N) (i : Nat) (u : Value) (e : (rq.cells v nv).set i u = rq'.cells v nv) : RlT rq' (w.setCell ⟨b, i, none⟩ u) base b v nv E N :=
  ⟨e ▸ h.head.set i u, h.ens.atb i u, h.ln.atb h.n1 i u, h.lo, h.few, h.n1, h.n2⟩
theorem RSH.heads (h : RSH B w c A S) {fo : Bool} {ct : Int} (i : Nat) (u : Value) (e : ∀ v nv, ((A.rq S.m S.fo S.ct).cells v nv).set i u = (A.rq S.m fo ct).cells v nv) : RSH B (w.setCell ⟨A.b, i, none⟩ u) c A { S with fo := fo, ct := ct } ∧ Stp c w c (w.setCell ⟨A.b, i, none⟩ u) := by
  obtain ⟨v, nv, E, N, l1, l2, l3, l4⟩ := h.line
  have hb : A.b ∈ footR A.b v nv E := mem_footR.2 (.inr (mem_foot.2 (.inl rfl)))
  have hd : ∀ k, k ∈ [A.b] → c k = 3 ∧ B ≤ k := fun k hk => by
    rw [List.mem_singleton.1 hk]
    exact ⟨l4 _ hb, h.bas _ (by rw [l4 _ hb]; decide)⟩
  have m : Mut [A.b] w (w.setCell ⟨A.b, i, none⟩ u) := (Mut.refl _ _).setCell (by simp) _
  have F := h.frame m hd
  exact ⟨⟨F.tab (by decide), F.pool (by decide), ⟨v, nv, E, N, l1.cellw i u (e v nv), l2, l3, l4⟩, F.coil (by decide), F.row (by decide), fun i hi => F.stk i hi (by omega), F.shp, h.shb, h.good, h.n0, h.n1, h.ctb, h.cgs, h.cgh, h.cgc, h.cpb, h.cpg, h.ckb, h.csb, h.few, fun k hk => Nat.lt_of_lt_of_le (h.low k hk) m.size, h.bas⟩,
    Stp.of m fun k hk _ => by rw [(hd k hk).1]; decide⟩
theorem RSH.ticks (h : RSH B w c A S) : RSH B (w.setCell ⟨A.b, 16, none⟩ (.int .i64 (S.ct + 1))) c A S.tick ∧ Stp c w c (w.setCell ⟨A.b, 16, none⟩ (.int .i64 (S.ct + 1))) :=
  h.heads (fo := S.fo) (ct := S.ct + 1) 16 _ fun _ _ => rfl
/-- The head's cells. -/
theorem RSH.hd (h : RSH B w c A S) : ∃ v nv, Blk w A.b ((A.rq S.m S.fo S.ct).cells v nv) ∧ c A.b = 3 := by
  obtain ⟨v, nv, E, N, l1, l2, l3, l4⟩ := h.line
  exact ⟨v, nv, l1.head.blk, l4 _ (mem_footR.2 (.inr (mem_foot.2 (.inl rfl))))⟩
theorem RSH.cell (h : RSH B w c A S) {i : Nat} {u : Value} (hu : ∀ v nv, ((A.rq S.m S.fo S.ct).cells v nv)[i]? = some u) : w.cell? ⟨A.b, i, none⟩ = some u := by
  obtain ⟨v, nv, h1, _⟩ := h.hd
  exact h1.at i (hu v nv)
theorem RSH.fz (h : RSH B w c A S) (i : Nat) : w.frozen? ⟨A.b, i, none⟩ = false := by
  obtain ⟨v, nv, h1, _⟩ := h.hd
  exact h1.fz i
/-- One stock alone was written. -/
theorem RSH.stks {v v' : Value} {L : List Int} {D : List Nat} {i : Nat} (h : RSH B w c A S) (hi : i < S.m) (hq : c (A.q i) = 10 + i) (hv : ∀ k, v.ownBlock = some k → c k = 10 + i) (t : STab 102 w' 0 (A.q i) S.most v' L) (m : Mut D w w')
    (hD : ∀ k, k ∈ D → k ∈ A.q i :: v.ownBlock.toList) (hn : Fresh w v v') :
    RSH B w' (grow c w v'.ownBlock.toList (10 + i)) A { S with Q := fun j => if j = i then L else S.Q j } ∧ Stp c w (grow c w v'.ownBlock.toList (10 + i)) w' := by
  have hd : ∀ k, k ∈ D → c k = 10 + i ∧ B ≤ k := fun k hk => by
    have := hD k hk
    simp only [List.mem_cons, Option.mem_toList] at this
    have e : c k = 10 + i := by
      rcases this with rfl | this
      · exact hq
      · exact hv k this
    exact ⟨e, h.bas k (by omega)⟩
  have F := h.frame m hd
  have G : ∀ k z, c k = z → z ≠ 0 → grow c w v'.ownBlock.toList (10 + i) k = z := fun k z e hz => (grow_old (h.low k (by omega))).trans e
  obtain ⟨lv, lnv, E, N, l1, l2, l3, l4⟩ := F.line (by omega)
  refine ⟨⟨F.tab (by omega), F.pool (by omega), ⟨lv, lnv, E, N, l1, l2, l3, fun k hk => G _ _ (l4 k hk) (by decide)⟩, F.coil (by omega), F.row (by omega), fun j hj => ?_, F.shp, h.shb, h.good, h.n0, h.n1, G _ _ h.ctb (by decide), G _ _ h.cgs (by decide), G _ _ h.cgh (by decide), G _ _ h.cgc (by decide), G _ _ h.cpb (by decide), G _ _ h.cpg (by decide), G _ _ h.ckb (by decide), G _ _ h.csb (by decide), h.few, fun k hk => ?_, fun k hk => ?_⟩, Stp.grow m (fun k hk _ => by rw [(hd k hk).1]; omega) _ _⟩
  · by_cases e : j = i
    · subst e
      refine ⟨v', by simpa using t, G _ _ hq (by omega), fun k hk => ?_⟩
      rcases hn k hk with q | q
      · exact G _ _ (hv k q) (by omega)
      · exact grow_new q (by simp [hk])
    · obtain ⟨u, s1, s2, s3⟩ := F.stk j hj (by omega)
      exact ⟨u, by simpa [e] using s1, G _ _ s2 (by omega), fun k hk => G _ _ (s3 k hk) (by omega)⟩
  · by_cases q : k < w.heap.size
    · exact Nat.lt_of_lt_of_le q m.size
    · by_cases q2 : k ∈ v'.ownBlock.toList
      · exact (t.own k (by simp at q2 ⊢; exact .inr q2)).2
      · exact absurd (grow_not (by omega) q2) hk
  · by_cases q : k < w.heap.size
    · rw [grow_old q] at hk; exact h.bas k hk
    · have := h.base; omega
end
end Go.Proofs.YtahpnnjemjjfhaaGreat

