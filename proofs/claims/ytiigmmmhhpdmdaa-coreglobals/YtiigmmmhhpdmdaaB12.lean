/-
  The modules SpcI, one behind another.
-/
import Derived.Test.YtiigmmmhhpdmdaaB11
/-
  Contract of package space's New: the room is put together in any order.
-/
namespace Go.Proofs.Ytiigmmmhhpdmdaa
open Go.RowKit

def clrT (T : Nat → Fr) (k : Nat) : Nat → Fr := fun j => if j < k then ⟨0, false, false⟩ else T j
theorem clrT_step {n : Nat} {T : Nat → Fr} {k : Nat} (hk : k < n) : setT n (clrT T k) (k : Int) 0 false false = clrT T (k + 1) := by
  funext j
  have h1 : inn n (k : Int) = true := tinn_of hk
  have h2 : isSt 0 = true := rfl
  simp only [setT, h1, h2, Bool.and_self, if_true, Int.toNat_natCast, clrT]
  by_cases e : j = k
  · subst e; simp
  · by_cases l : j < k
    · simp [e, l]; omega
    · have : ¬ j < k + 1 := by omega
      simp [e, l, this]

set_option maxHeartbeats 1000000 in
theorem clear_tab {A : Ad} {n : Nat} {T : Nat → Fr} (w : World) (h : Tab w A.tb A.tg n T) :
    Calls Try.prog 77 #[.agg #[.pointer (some ⟨A.tb, 0, none⟩), .pointer (some ⟨A.pb, 0, none⟩), .pointer (some ⟨A.lb, 0, none⟩), .pointer (some ⟨A.kb, 0, none⟩), .int .i64 A.C.n0, .int .i64 A.C.n1, .int .i64 A.C.n2, .int .i64 A.C.n3, .int .i64 A.C.n4, .int .i64 A.C.n5, .int .i64 A.C.n6, .int .i64 A.C.n7, .slice A.C.x A.C.l A.C.c]] w fun e w' => e = .returned (.tuple #[]) ∧ Tab w' A.tb A.tg n T0 ∧ Mut [A.tg] w w' := by
  have HT : Hid (Tab w A.tb A.tg n T ∧ n ≤ 1024 ∧ A.tg < w.heap.size) := ⟨h, h.few, h.row.lt⟩
  clear h
  go_enter Try.func77, Try.ntmps77
  go_wp2_with fail
  generalize hW : w.alloc _ = W
  have HB : Hid (Blk W w.heap.size A.room ∧ Kept w W ∧ W.heap.size = w.heap.size + 1) := by
    rw [← hW]
    exact ⟨Blk.new w _ _, (Kept.refl w).alloc _ _, by simp⟩
  clear hW
  have c0 := HB.out.1.at 0 rfl
  have CL := tlen_any W (HT.out.1.kept HB.out.2.1)
  go_wp2_with fail
  refine CL.mono ?_
  rintro e w1 ⟨rfl, e1⟩
  rw [e1]
  clear e1 CL c0
  have hn := HT.out.2.1
  go_wp2
  go_loopg [6] n (fun m i wr => ∃ k : Nat, i = .int .i64 k ∧ k ≤ n ∧ m = n - k ∧ Hid (Tab wr A.tb A.tg n (clrT T k) ∧ Mut [A.tg] W wr))
  case atStart => exact ⟨0, rfl, by omega, by omega, by
    have : clrT T 0 = T := by funext j; simp [clrT]
    rw [this]
    exact ⟨HT.out.1.kept HB.out.2.1, Mut.refl _ _⟩⟩
  case round =>
    obtain ⟨k, rfl, hk, hm, hw⟩ := hrel
    have HM : Hid _ := hm
    clear hm
    by_cases hlt : k < n
    · have B2 : Blk wr w.heap.size A.room := HB.out.1.muts hw.out.2 (by have := HT.out.2.2; simp; omega)
      have c0 := B2.at 0 rfl
      have C := tset_any (k : Int) 0 false false wr hw.out.1
      rw [clrT_step hlt] at C
      clear B2
      go_wp2_with fail
      refine C.mono ?_
      rintro e w2 ⟨rfl, t2, m2⟩
      have H2 : Hid (Tab w2 A.tb A.tg n (clrT T (k + 1)) ∧ Mut [A.tg] W w2) := ⟨t2, hw.out.2.trans m2⟩
      clear t2 m2 c0 C hw
      go_wp2
      go_roundg (gk - 1)
      all_goals (have := HM.out; try omega)
      exact ⟨k + 1, by go_num, by omega, by omega, H2⟩
    · obtain rfl : k = n := by omega
      go_wp2
      go_end0
      exact ⟨rfl, ⟨hw.out.1.head, hw.out.1.row.congr (fun j hj => by
        have e : j / 3 < k := by omega
        simp [fc, clrT, T0, e]), hw.out.1.few⟩, (HB.out.2.1.mut).trans hw.out.2⟩

/-- What is known while the room is put together. -/
structure NJ (W : World) (l : Nat) (S : Nat → Sh) (lb gs : Nat) (T : Nat → Sh) (rr : Nat) (Z M : List Value) (d : Nat → Bool) (u : World) : Prop where
  kept : Kept W u
  d2 : d 2 = true → LTab u 0 lb (.slice none 0 0) [] ∧ W.heap.size ≤ lb
  d5 : d 5 = true → W.heap.size ≤ gs ∧ u.rowIs gs 72 (l * 2) (cf T) ∧ ∀ i, i < l → (T i).arr = (S i).arr ∧ (T i).l = (S i).l
  d7 : d 7 = true → W.heap.size ≤ rr
  own7 : d 7 = true → d 8 = false → d 7 = true ∧ Own u rr 118 Z
  d8 : d 8 = true → Own u rr 118 M
structure NF (W : World) (l : Nat) (S : Nat → Sh) (lb gs : Nat) (T : Nat → Sh) (rr : Nat) (M : List Value) (u : World) : Prop where
  kept : Kept W u
  line : LTab u 0 lb (.slice none 0 0) []
  row : u.rowIs gs 72 (l * 2) (cf T)
  alike : ∀ i, i < l → (T i).arr = (S i).arr ∧ (T i).l = (S i).l
  own : Own u rr 118 M
  lo : W.heap.size ≤ lb ∧ W.heap.size ≤ gs ∧ W.heap.size ≤ rr ∧ lb ≠ gs
theorem own_ne {w : World} {a b : Nat} {t t' : TypeId} {L M : List Value} (h : Own w a t L) (k : Own w b t' M) (e : t ≠ t') : a ≠ b := fun q => by
  subst q
  unfold Own at h k
  rw [h] at k
  simp only [Option.some.injEq, Obj.cells.injEq] at k
  exact e k.2.1
section
variable {W u u' : World} {l : Nat} {S : Nat → Sh} {lb gs : Nat} {T : Nat → Sh} {rr : Nat} {Z M : List Value} {d : Nat → Bool}
theorem NJ.start : NJ W l S lb gs T rr Z M (fun _ => false) W.drew := ⟨(Kept.refl _).drew, fun e => absurd e (by simp), fun e => absurd e (by simp), fun e => absurd e (by simp), fun e => absurd e (by simp), fun e => absurd e (by simp)⟩
theorem done_ne (d : Nat → Bool) {k j : Nat} (h : j ≠ k) : done d k j = d j := by simp [done, h]
theorem NJ.plain (h : NJ W l S lb gs T rr Z M d u) (k : Nat) (k2 : 2 ≠ k) (k5 : 5 ≠ k) (k7 : 7 ≠ k) (k8 : 8 ≠ k) : NJ W l S lb gs T rr Z M (done d k) u := by
  refine ⟨h.kept, ?_, ?_, ?_, ?_, ?_⟩
  · rw [done_ne d k2]; exact h.d2
  · rw [done_ne d k5]; exact h.d5
  · rw [done_ne d k7]; exact h.d7
  · rw [done_ne d k7, done_ne d k8]; exact h.own7
  · rw [done_ne d k8]; exact h.d8
theorem NJ.line (h : NJ W l S lb gs T rr Z M d u) (_ : d 2 = false) (h8 : d 8 = false) {lb' : Nat} (t : LTab u' 0 lb' (.slice none 0 0) []) (k : Kept u u') (hn : u.heap.size ≤ lb') {M' : List Value} : NJ W l S lb' gs T rr Z M' (done d 2) u' := by
  refine ⟨h.kept.trans k, fun _ => ⟨t, Nat.le_trans h.kept.size hn⟩, ?_, ?_, ?_, ?_⟩
  · rw [done_ne d (by decide)]; exact fun q => ⟨(h.d5 q).1, k.row (h.d5 q).2.1, (h.d5 q).2.2⟩
  · rw [done_ne d (by decide)]; exact h.d7
  · rw [done_ne d (by decide), done_ne d (by decide)]; exact fun q1 q2 => ⟨q1, (h.own7 q1 q2).2.kept k⟩
  · rw [done_ne d (by decide), h8]; exact fun q => by cases q
theorem NJ.copy (h : NJ W l S lb gs T rr Z M d u) (_ : d 5 = false) (h8 : d 8 = false) {gs' : Nat} {T' : Nat → Sh} (hn : u.heap.size ≤ gs') (r : u'.rowIs gs' 72 (l * 2) (cf T')) (a : ∀ i, i < l → (T' i).arr = (S i).arr ∧ (T' i).l = (S i).l) (k : Kept u u') {M' : List Value} : NJ W l S lb gs' T' rr Z M' (done d 5) u' := by
  refine ⟨h.kept.trans k, ?_, fun _ => ⟨Nat.le_trans h.kept.size hn, r, a⟩, ?_, ?_, ?_⟩
  · rw [done_ne d (by decide)]; exact fun q => ⟨(h.d2 q).1.kept k, (h.d2 q).2⟩
  · rw [done_ne d (by decide)]; exact h.d7
  · rw [done_ne d (by decide), done_ne d (by decide)]; exact fun q1 q2 => ⟨q1, (h.own7 q1 q2).2.kept k⟩
  · rw [done_ne d (by decide), h8]; exact fun q => by cases q
theorem NJ.room (h : NJ W l S lb gs T rr Z M d u) (_ : d 7 = false) (h8 : d 8 = false) : NJ W l S lb gs T u.heap.size Z M (done d 7) (u.alloc (.cells Z.toArray 118)) := by
  have k : Kept u (u.alloc (.cells Z.toArray 118)) := (Kept.refl u).alloc _ _
  refine ⟨h.kept.trans k, ?_, ?_, fun _ => h.kept.size, fun _ _ => ⟨by simp [done], Own.new u Z _⟩, ?_⟩
  · rw [done_ne d (by decide)]; exact fun q => ⟨(h.d2 q).1.kept k, (h.d2 q).2⟩
  · rw [done_ne d (by decide)]; exact fun q => ⟨(h.d5 q).1, k.row (h.d5 q).2.1, (h.d5 q).2.2⟩
  · rw [done_ne d (by decide), h8]; exact fun q => by cases q
theorem NJ.store (h : NJ W l S lb gs T rr Z M d u) (h2 : d 2 = true) (h5 : d 5 = true) (h7 : d 7 = true) (h8 : d 8 = false) : NJ W l S lb gs T rr Z M (done d 8) (u.setRow rr M.toArray) := by
  have ow := (h.own7 h7 h8).2
  have hr : (u.setRow rr M.toArray).heap[rr]? = some (.cells M.toArray 118 (0, 0)) := setRow_heap u rr _ M.toArray _ _ ow
  have m : Mut [rr] u (u.setRow rr M.toArray) := ⟨rfl, rfl, rfl, by simp, fun k _ hd => setRow_other _ _ _ _ (by simpa using hd)⟩
  have n1 : rr ≠ lb := own_ne ow (h.d2 h2).1.head (by decide)
  have n2 : rr ≠ gs := ow.ne (h.d5 h5).2.1 (by decide)
  refine ⟨h.kept.setRow (h.d7 h7) _, ?_, ?_, ?_, ?_, fun _ => hr⟩
  · rw [done_ne d (by decide)]; exact fun q => ⟨(h.d2 q).1.muts m (fun k hk hd => by
      simp only [List.mem_singleton] at hd
      subst hd
      rcases mem_foot.1 hk with e | e | ⟨_, e, _⟩
      · exact n1 e
      · simp [Value.ownBlock] at e
      · simp at e), (h.d2 q).2⟩
  · rw [done_ne d (by decide)]; exact fun q => ⟨(h.d5 q).1, m.row (h.d5 q).2.1 (by simpa using Ne.symm n2), (h.d5 q).2.2⟩
  · rw [done_ne d (by decide)]; exact h.d7
  · simp [done]
theorem NJ.fin (h : NJ W l S lb gs T rr Z M d u) (h2 : d 2 = true) (h5 : d 5 = true) (h7 : d 7 = true) (h8 : d 8 = true) : NF W l S lb gs T rr M u :=
  ⟨h.kept, (h.d2 h2).1, (h.d5 h5).2.1, (h.d5 h5).2.2, h.d8 h8, (h.d2 h2).2, (h.d5 h5).1, h.d7 h7, (h.d2 h2).1.head.ne (h.d5 h5).2.1 (by decide)⟩
end

def Sp.new (n s m most : Nat) : Sp := ⟨n, T0, F1, [], ⟨s, 0, 0, 0, 0⟩, m, most, fun _ => [], false, 0⟩

/-- The colours of a new space. -/
def col0 (tb tg pb pg lb kb b sb gs m : Nat) (q : Nat → Nat) (k : Nat) : Nat :=
  if k = tb ∨ k = tg then 1 else if k = pb ∨ k = pg then 2 else if k = kb then 4 else if k = sb then 6 else match (List.range m).find? (fun i => q i == k) with
  | some i => 10 + i
  | none => if k = lb then 3 else if k = gs then 7 else if k = b then 5 else 0

/-- What lies there ahead of the room: the pool, the coil, the stocks. -/
structure NS (w W : World) (n s m ch pb pg kb sb : Nat) (q : Nat → Nat) : Prop where
  pool : PTab 176 W pb pg n F1
  coil : CTab 197 W kb ⟨s, 0, 0, 0, 0⟩
  row : W.rowIs sb 127 m (fun i => .pointer (some ⟨q i, 0, none⟩))
  stk : ∀ i, i < m → STab 180 W 0 (q i) ch (.slice none 0 0) [] ∧ sb < q i
  inj : ∀ i j, i < j → j < m → q i < q j
  o1 : w.heap.size ≤ pb ∧ w.heap.size ≤ pg ∧ pb < kb ∧ pg < kb ∧ kb < sb ∧ sb < W.heap.size
  few : m ≤ 16

theorem find_q {m : Nat} {q : Nat → Nat} (inj : ∀ i j, i < j → j < m → q i < q j) {i : Nat} (hi : i < m) : (List.range m).find? (fun j => q j == q i) = some i := by
  rw [List.find?_range_eq_some]
  refine ⟨by simp, by simpa using hi, fun j hj => ?_⟩
  have := inj j i hj hi
  simp; omega
theorem find_none {m : Nat} {q : Nat → Nat} {k : Nat} (h : ∀ i, i < m → q i ≠ k) : (List.range m).find? (fun j => q j == k) = none := by
  rw [List.find?_eq_none]
  intro j hj
  have := h j (by simpa using hj)
  simpa using this

theorem sh_make {w W4 u w5 : World} {n s m ch : Nat} {n2 n4 n6 n7 : Int} {l : Nat} {S : Nat → Sh} {tb tg pb pg kb sb lb gs rr : Nat} {q : Nat → Nat} {T : Nat → Sh} {Tt : Nat → Fr} {M : List Value} {cs : Array Value}
    (hg : Good n s n2 m n4 ch n6 n7 l S) (ht : Tab w tb tg n Tt) (hk : Kept w W4) (hf : NF W4 l S lb gs T rr M u) (t5 : Tab w5 tb tg n T0) (m5 : Mut [tg] u w5) (hs : NS w W4 n s m ch pb pg kb sb q)
    (hcs : cs = (Ad.cells ⟨w5.heap.size, tb, tg, pb, pg, lb, kb, sb, q, ⟨n, s, n2, m, n4, ch, n6, n7, some ⟨gs, 0, none⟩, l, l, T⟩⟩ m false 0).toArray := by rfl) :
    SH (w5.alloc (.cells cs 121)) (col0 tb tg pb pg lb kb w5.heap.size sb gs m q) ⟨w5.heap.size, tb, tg, pb, pg, lb, kb, sb, q, ⟨n, s, n2, m, n4, ch, n6, n7, some ⟨gs, 0, none⟩, l, l, T⟩⟩ (Sp.new n s m ch) ∧
      (∀ k, col0 tb tg pb pg lb kb w5.heap.size sb gs m q k ≠ 0 → k = tb ∨ k = tg ∨ w.heap.size ≤ k) ∧ Mut [tg] w (w5.alloc (.cells cs 121)) := by
  subst hcs
  have b1 : tb < w.heap.size := ht.head.lt
  have b2 : tg < w.heap.size := ht.row.lt
  obtain ⟨o1, o2, o3, o4, o5, o6⟩ := hs.o1
  obtain ⟨p1, p2, p3, p4⟩ := hf.lo
  have z1 := hk.size
  have z2 := hf.kept.size
  have z3 := m5.size
  have hlb := hf.line.ltb
  have hgs := hf.row.lt
  have hq : ∀ i, i < m → sb < q i ∧ q i < W4.heap.size := fun i hi => ⟨(hs.stk i hi).2, (hs.stk i hi).1.ltb⟩
  have N : ∀ k, (∀ i, i < m → q i ≠ k) → (List.range m).find? (fun j => q j == k) = none := fun k h => find_none h
  have k5 : Kept w5 (w5.alloc (.cells (Ad.cells ⟨w5.heap.size, tb, tg, pb, pg, lb, kb, sb, q, ⟨n, s, n2, m, n4, ch, n6, n7, some ⟨gs, 0, none⟩, l, l, T⟩⟩ m false 0).toArray 121)) := (Kept.refl _).alloc _ _
  have ct1 : ∀ k, k = tb ∨ k = tg → col0 tb tg pb pg lb kb w5.heap.size sb gs m q k = 1 := fun k h => by simp [col0, h]
  have ct2 : ∀ k, k = pb ∨ k = pg → col0 tb tg pb pg lb kb w5.heap.size sb gs m q k = 2 := fun k h => by
    have h0 : ¬ (k = tb ∨ k = tg) := by omega
    simp [col0, h, h0]
  have ct4 : col0 tb tg pb pg lb kb w5.heap.size sb gs m q kb = 4 := by
    have h0 : ¬ (kb = tb ∨ kb = tg) := by omega
    have h1 : ¬ (kb = pb ∨ kb = pg) := by omega
    simp [col0, h0, h1]
  have ct6 : col0 tb tg pb pg lb kb w5.heap.size sb gs m q sb = 6 := by
    have h0 : ¬ (sb = tb ∨ sb = tg) := by omega
    have h1 : ¬ (sb = pb ∨ sb = pg) := by omega
    have h2 : ¬ sb = kb := by omega
    simp [col0, h0, h1, h2]
  have ctq : ∀ i, i < m → col0 tb tg pb pg lb kb w5.heap.size sb gs m q (q i) = 10 + i := fun i hi => by
    have := hq i hi
    have h0 : ¬ (q i = tb ∨ q i = tg) := by omega
    have h1 : ¬ (q i = pb ∨ q i = pg) := by omega
    have h2 : ¬ q i = kb := by omega
    have h3 : ¬ q i = sb := by omega
    unfold col0
    rw [if_neg h0, if_neg h1, if_neg h2, if_neg h3, find_q hs.inj hi]
  have ct3 : col0 tb tg pb pg lb kb w5.heap.size sb gs m q lb = 3 := by
    have h0 : ¬ (lb = tb ∨ lb = tg) := by omega
    have h1 : ¬ (lb = pb ∨ lb = pg) := by omega
    have h2 : ¬ lb = kb := by omega
    have h3 : ¬ lb = sb := by omega
    unfold col0
    rw [if_neg h0, if_neg h1, if_neg h2, if_neg h3, N lb (fun i hi => by have := hq i hi; omega)]
    simp
  have ct7 : col0 tb tg pb pg lb kb w5.heap.size sb gs m q gs = 7 := by
    have h0 : ¬ (gs = tb ∨ gs = tg) := by omega
    have h1 : ¬ (gs = pb ∨ gs = pg) := by omega
    have h2 : ¬ gs = kb := by omega
    have h3 : ¬ gs = sb := by omega
    unfold col0
    rw [if_neg h0, if_neg h1, if_neg h2, if_neg h3, N gs (fun i hi => by have := hq i hi; omega)]
    simp [Ne.symm p4]
  have ct5 : col0 tb tg pb pg lb kb w5.heap.size sb gs m q w5.heap.size = 5 := by
    have h0 : ¬ (w5.heap.size = tb ∨ w5.heap.size = tg) := by omega
    have h1 : ¬ (w5.heap.size = pb ∨ w5.heap.size = pg) := by omega
    have h2 : ¬ w5.heap.size = kb := by omega
    have h3 : ¬ w5.heap.size = sb := by omega
    have h4 : ¬ w5.heap.size = lb := by omega
    have h5 : ¬ w5.heap.size = gs := by omega
    unfold col0
    rw [if_neg h0, if_neg h1, if_neg h2, if_neg h3, N _ (fun i hi => by have := hq i hi; omega)]
    simp [h4, h5]
  have low : ∀ k, col0 tb tg pb pg lb kb w5.heap.size sb gs m q k ≠ 0 → (k = tb ∨ k = tg ∨ w.heap.size ≤ k) ∧ k < w5.heap.size + 1 := fun k h => by
    by_cases e1 : k = tb ∨ k = tg
    · omega
    · by_cases e2 : k = pb ∨ k = pg
      · omega
      · by_cases e3 : k = kb
        · omega
        · by_cases e4 : k = sb
          · omega
          · unfold col0 at h
            rw [if_neg e1, if_neg e2, if_neg e3, if_neg e4] at h
            cases hfd : (List.range m).find? (fun j => q j == k) with
            | some i =>
              have := List.find?_some hfd
              have hi : i < m := by simpa using List.mem_of_find?_eq_some hfd
              have hki : q i = k := by simpa using this
              have := hq i hi
              omega
            | none =>
              rw [hfd] at h
              simp only at h
              by_cases e5 : k = lb
              · omega
              · by_cases e6 : k = gs
                · omega
                · by_cases e7 : k = w5.heap.size
                  · omega
                  · simp [e5, e6, e7] at h
  have ml : ∀ k, k = lb → k ∉ [tg] := fun k e => by simp; omega
  refine ⟨⟨Own.new w5 _ _, t5.kept k5, ?_, ⟨.slice none 0 0, [], ?_, rfl, fun k hk => ?_⟩, ?_, ?_, fun i hi => ⟨.slice none 0 0, ?_, ctq i hi, fun k hk => by simp [Value.ownBlock] at hk⟩, ?_, fun g o e => ?_, ?_, rfl, rfl, ct1 _ (.inl rfl), ct1 _ (.inr rfl), ct2 _ (.inl rfl), ct2 _ (.inr rfl), ct4, ct5, ct6, hs.few, fun k hk => by simpa using (low k hk).2⟩, fun k hk => (low k hk).1, ((((hk.mut).trans hf.kept.mut).trans m5)).trans k5.mut⟩
  · exact (((hs.pool.kept hf.kept).muts m5 (by simp; omega) (by simp; omega))).kept k5
  · refine (hf.line.muts m5 fun k hk => ?_).kept k5
    rcases mem_foot.1 hk with e | e | ⟨_, e, _⟩
    · exact ml k e
    · simp [Value.ownBlock] at e
    · simp at e
  · rcases mem_foot.1 hk with e | e | ⟨_, e, _⟩
    · rw [e]; exact ct3
    · simp [Value.ownBlock] at e
    · simp at e
  · exact ((hs.coil.kept hf.kept).muts m5 (by simp; omega)).kept k5
  · exact k5.row (m5.row (hf.kept.row hs.row) (by simp; omega))
  · have := hq i hi
    exact (((hs.stk i hi).1.kept hf.kept).muts m5 (by simp; omega) (fun k hk => by simp [Value.ownBlock] at hk)).kept k5
  · exact row_shps (k5.row (m5.row hf.row (by simp; omega)))
  · obtain rfl : gs = g := by simpa using (Addr.mk.inj (Option.some.inj e)).1
    exact ct7
  · refine ⟨hg.1, hg.2.1, hg.2.2.1, fun i hi => ?_⟩
    have := hg.2.2.2 i hi
    obtain ⟨a1, a2⟩ := hf.alike i hi
    simp only [Sh.may] at this ⊢
    rw [a1, a2]
    exact this

theorem info_ptr : (Try.prog.info? 127).map (fun i => (i.zero, i.size, i.bytes)) = some (some (.pointer none), 1, 8) := by kernel_rfl
theorem run_make_ptrs (k : Nat) (h : k ≤ 1024) (w : World) :
    (Instr.makeSlice 119 (.int .i64 (k : Int)) (.int .i64 (k : Int))).run Try.prog w = .ok (.slice (some ⟨w.heap.size, 0, none⟩) k k) (w.alloc (.cells (madeCells #[.pointer none] k) 127)) := by
  obtain ⟨i, hi, hz, hs, hb⟩ := info_parts info_ptr
  have hr := run_make (P := Try.prog) w 119 127 i _ Try.underlying119 hi hz .i64 .i64 k k (by omega) (Int.le_refl _) (by rw [hb]; omega) (by omega)
  simp only [Int.toNat_natCast, hs, Nat.mul_one] at hr
  exact hr
/-- The first k stocks are there. -/
def ptrs (q : Nat → Nat) (k : Nat) (i : Nat) : Value := if i < k then .pointer (some ⟨q i, 0, none⟩) else .pointer none
structure NL (w3 : World) (m ch sb : Nat) (q : Nat → Nat) (k : Nat) (u : World) : Prop where
  kept : Kept w3 u
  row : u.rowIs sb 127 m (ptrs q k)
  stk : ∀ i, i < k → STab 180 u 0 (q i) ch (.slice none 0 0) [] ∧ sb < q i
  inj : ∀ i j, i < j → j < k → q i < q j
theorem NL.step {w3 u u2 : World} {m ch sb k b : Nat} {q : Nat → Nat} (h : NL w3 m ch sb q k u) (hsb : w3.heap.size ≤ sb) (t : STab 180 u2 0 b ch (.slice none 0 0) []) (kp : Kept u u2) (hb : u.heap.size ≤ b) :
    NL w3 m ch sb (fun i => if i = k then b else q i) (k + 1) (u2.setCell ⟨sb, k, none⟩ (.pointer (some ⟨b, 0, none⟩))) := by
  have hl := h.row.lt
  refine ⟨(h.kept.trans kp).setCell hsb _, ?_, fun i hi => ?_, fun i j hij hj => ?_⟩
  · refine ((kp.row h.row).set _ _).congr fun j hj => ?_
    by_cases e : j = k
    · subst e; simp [ptrs]
    · by_cases e2 : j < k
      · have : j < k + 1 := by omega
        simp [ptrs, e, e2, this]
      · have : ¬ j < k + 1 := by omega
        simp [ptrs, e, e2, this]
  · have M : Mut [sb] u2 (u2.setCell ⟨sb, k, none⟩ (.pointer (some ⟨b, 0, none⟩))) := (Mut.refl _ _).setCell (by simp) _
    by_cases e : i = k
    · subst e
      simp only [if_true]
      exact ⟨t.muts M (by simp; omega) (fun k hk => by simp [Value.ownBlock] at hk), by omega⟩
    · simp only [e, if_false]
      obtain ⟨s1, s2⟩ := h.stk i (by omega)
      exact ⟨(s1.kept kp).muts M (by simp; omega) (fun k hk => by simp [Value.ownBlock] at hk), s2⟩
  · have hi : i ≠ k := by omega
    simp only [hi, if_false]
    by_cases e : j = k
    · simp only [e, if_true]
      have := (h.stk i (by omega)).1.ltb
      omega
    · simp only [e, if_false]
      exact h.inj i j hij (by omega)

set_option maxRecDepth 8000 in
set_option maxHeartbeats 8000000 in
theorem wnew_any (n s m ch : Nat) (n2 n4 n6 n7 : Int) (x : Option Addr) (l c : Nat) (S : Nat → Sh) (R : Nat → Nat → Bool) (tb tg : Nat) (Tt : Nat → Fr) (w : World) (ht : Tab w tb tg n Tt) (hS : Shps w x l S) (hR : ∀ i, i < l → Refs w (S i).x (S i).l (R i))
    (hg : Good n s n2 m n4 ch n6 n7 l S) :
    Calls Try.prog 31 #[.agg #[.int .i64 (n : Int), .int .i64 (s : Int), .int .i64 n2, .int .i64 (m : Int), .int .i64 n4, .int .i64 (ch : Int), .int .i64 n6, .int .i64 n7, .slice x l c], .pointer (some ⟨tb, 0, none⟩)] w fun e w' =>
      ∃ A c', e = .returned (.tuple #[.pointer (some ⟨A.b, 0, none⟩), .int .i64 0]) ∧ SH w' c' A (Sp.new n s m ch) ∧ A.tb = tb ∧ A.tg = tg ∧ A.C.n7 = n7 ∧ (∀ k, c' k ≠ 0 → k = tb ∨ k = tg ∨ w.heap.size ≤ k) ∧ Mut [tg] w w' := by
  obtain ⟨⟨g0, g1, g2, g6, g7, g3, g4, g5, g8⟩, ml, ml8, mi⟩ := id hg
  have HG : Hid (Good n s n2 m n4 ch n6 n7 l S) := hg
  have HT : Hid (Tab w tb tg n Tt) := ht
  have HSR : Hid (Shps w x l S ∧ ∀ i, i < l → Refs w (S i).x (S i).l (R i)) := ⟨hS, hR⟩
  have HSl : Hid (l ≤ 1000000 ∧ ∀ i, i < l → (S i).l ≤ 1000) := ⟨by omega, fun i hi => by
    have := mi i hi
    simp only [Sh.may] at this
    split at this
    · simp at this; omega
    · simp at this; omega⟩
  have BD : Hid (n ≤ 1024 ∧ s ≤ 2048 ∧ m ≤ 16 ∧ ch ≤ 8) := ⟨by omega, by omega, by omega, by omega⟩
  clear ht hS hR hg g0 g1 g2 g6 g7 g3 g4 g5 g8 ml ml8 mi
  have hmk := run_make_ptrs m (by have := BD.out.2.2.1; omega)
  go_enter Try.func31, Try.ntmps31
  go_wp2_with fail
  generalize hW : w.alloc _ = W0
  have H0 : Hid (Blk W0 w.heap.size [.int .i64 (n : Int), .int .i64 (s : Int), .int .i64 n2, .int .i64 (m : Int), .int .i64 n4, .int .i64 (ch : Int), .int .i64 n6, .int .i64 n7, .slice x l c] ∧ Kept w W0 ∧ W0.heap.size = w.heap.size + 1) := by
    rw [← hW]
    exact ⟨Blk.new w _ _, (Kept.refl w).alloc _ _, by simp⟩
  clear hW
  have b0 := H0.out.1.at 0 rfl
  have b1 := H0.out.1.at 1 rfl
  have b2 := H0.out.1.at 2 rfl
  have b3 := H0.out.1.at 3 rfl
  have b4 := H0.out.1.at 4 rfl
  have b5 := H0.out.1.at 5 rfl
  have b6 := H0.out.1.at 6 rfl
  have b7 := H0.out.1.at 7 rfl
  have b8 := H0.out.1.at 8 rfl
  have CC := check_any n s n2 m n4 ch n6 n7 x l c S 0 W0 (HSR.out.1.kept H0.out.2.1) (Checks.of_ok HG.out.1 HG.out.2)
  go_wp2_with fail
  refine CC.mono ?_
  rintro e w1 ⟨rfl, k1⟩
  have H1 : Hid (Blk w1 w.heap.size [.int .i64 (n : Int), .int .i64 (s : Int), .int .i64 n2, .int .i64 (m : Int), .int .i64 n4, .int .i64 (ch : Int), .int .i64 n6, .int .i64 n7, .slice x l c] ∧ Kept w w1) := ⟨H0.out.1.kept k1, H0.out.2.1.trans k1⟩
  clear k1 CC b0 b1 b2 b3 b4 b5 b6 b7 b8 H0
  have CL : Hid (∀ z : KW w1, Calls Try.prog 72 #[.pointer (some ⟨tb, 0, none⟩)] z.it fun e w' => e = .returned (.int .i64 (n : Int)) ∧ w' = z.it) := fun z => tlen_any z.it ((HT.out.kept H1.out.2).kept z.ok)
  have L1 := H1.out.1.lt
  have d0 := fun z : KW w1 => z.cell (a := ⟨w.heap.size, 0, none⟩) L1 (H1.out.1.at 0 rfl)
  go_wp2_with fail
  refine wp_region_kept (by kernel_rfl) (by kernel_rfl) fun _ => ?_
  repeat (go_big_quiet_step (first | (go_at_call 72; exact kept_of_same (CL.out _))))
  refine wpQuiet_nil ?_
  rintro _ ⟨z, rfl⟩
  have H2 : Hid (Blk z.it w.heap.size [.int .i64 (n : Int), .int .i64 (s : Int), .int .i64 n2, .int .i64 (m : Int), .int .i64 n4, .int .i64 (ch : Int), .int .i64 n6, .int .i64 n7, .slice x l c] ∧ Kept w z.it) := ⟨H1.out.1.kept z.ok, H1.out.2.trans z.ok⟩
  clear d0 L1 CL
  generalize z.it = w2 at *
  clear z H1
  have b0 := H2.out.1.at 0 rfl
  have CP := pnew_any n w2 BD.out.1
  have hnn : ((n : Int) != (n : Int)) = false := by simp
  go_wp2_with fail
  refine CP.mono ?_
  rintro e w3 ⟨pb, pg, rfl, pt, p1, p2, k3⟩
  have H3 : Hid (Blk w3 w.heap.size [.int .i64 (n : Int), .int .i64 (s : Int), .int .i64 n2, .int .i64 (m : Int), .int .i64 n4, .int .i64 (ch : Int), .int .i64 n6, .int .i64 n7, .slice x l c] ∧ Kept w w3 ∧ PTab 176 w3 pb pg n F1 ∧ w.heap.size ≤ pb ∧ w.heap.size ≤ pg) := ⟨H2.out.1.kept k3, H2.out.2.trans k3, pt, by have := H2.out.2.size; omega, by have := H2.out.2.size; omega⟩
  clear k3 CP b0 H2 pt p1 p2 hnn
  have b1 := H3.out.1.at 1 rfl
  have CK := knew_any s w3 BD.out.2.1
  go_wp2_with fail
  refine CK.mono ?_
  rintro e w4 ⟨kb, rfl, kt, k4, kn⟩
  have H4 : Hid (Blk w4 w.heap.size [.int .i64 (n : Int), .int .i64 (s : Int), .int .i64 n2, .int .i64 (m : Int), .int .i64 n4, .int .i64 (ch : Int), .int .i64 n6, .int .i64 n7, .slice x l c] ∧ Kept w w4 ∧ PTab 176 w4 pb pg n F1 ∧ w.heap.size ≤ pb ∧ w.heap.size ≤ pg ∧ CTab 197 w4 kb ⟨s, 0, 0, 0, 0⟩ ∧ pb < kb ∧ pg < kb) := by
    have h1 := H3.out.2.2.1.ltb
    have h2 := H3.out.2.2.1.ltg
    exact ⟨H3.out.1.kept k4, H3.out.2.1.trans k4, H3.out.2.2.1.kept k4, H3.out.2.2.2.1, H3.out.2.2.2.2, kt, by omega, by omega⟩
  clear k4 CK b1 H3 kt kn
  have b3 := H4.out.1.at 3 rfl
  have hm16 := BD.out.2.2.1
  go_wp2_with fail
  generalize hW5 : w4.alloc _ = W5
  obtain ⟨sb, hsb⟩ : ∃ sb, sb = w4.heap.size := ⟨_, rfl⟩
  rw [← hsb]
  have H5 : Hid (NL w4 m ch sb (fun _ => 0) 0 W5 ∧ sb = w4.heap.size) := by
    refine ⟨?_, hsb⟩
    rw [← hW5, hsb]
    refine ⟨(Kept.refl w4).alloc _ _, ?_, fun i hi => by omega, fun i j _ hj => by omega⟩
    have r := World.rowIs_alloc w4 (madeCells #[.pointer none] m) 127 (ptrs (fun _ => 0) 0) (fun i hi => by
      rw [size_madeCells] at hi
      simp [madeCells, hi, ptrs, Nat.mod_one])
    rwa [size_madeCells] at r
  clear hW5 hmk b3 hsb
  go_loopg [41] m (fun mm i wr => ∃ (k : Nat) (q : Nat → Nat), i = .int .i64 k ∧ k ≤ m ∧ mm = m - k ∧ Hid (NL w4 m ch sb q k wr))
  case atStart => exact ⟨0, fun _ => 0, rfl, by omega, by omega, H5.out.1⟩
  case round =>
    obtain ⟨k, q, rfl, hk, hm, hw⟩ := hrel
    have HM : Hid _ := hm
    clear hm
    by_cases hlt : k < m
    · have b5 := (H4.out.1.kept hw.out.kept).at 5 rfl
      have CS := snew_any ch wr BD.out.2.2.2 (base := 0) (Nat.zero_le _)
      go_wp2_with fail
      refine CS.mono ?_
      rintro e w6 ⟨b, rfl, t6, k6, n6'⟩
      have H6 : Hid (NL w4 m ch sb (fun i => if i = k then b else q i) (k + 1) (w6.setCell ⟨sb, k, none⟩ (.pointer (some ⟨b, 0, none⟩)))) := hw.out.step (by have := H5.out.2; omega) t6 k6 n6'
      have r6 := k6.row hw.out.row
      have c6 := r6.cell hlt
      have f6 := r6.frozen
      clear t6 k6 n6' CS b5 r6 hw
      go_wp2
      go_roundg (gk - 1)
      all_goals (have := HM.out; try omega)
      exact ⟨k + 1, _, by go_num, by omega, by omega, H6⟩
    · obtain rfl : k = m := by omega
      have HN : Hid (NS w wr n s k ch pb pg kb sb q) := by
        have e := hw.out.kept
        refine ⟨H4.out.2.2.1.kept e, H4.out.2.2.2.2.2.1.kept e, hw.out.row.congr (fun j hj => by simp [ptrs, hj]), hw.out.stk, hw.out.inj, ⟨H4.out.2.2.2.1, H4.out.2.2.2.2.1, H4.out.2.2.2.2.2.2.1, H4.out.2.2.2.2.2.2.2, ?_, hw.out.row.lt⟩, hm16⟩
        have := H4.out.2.2.2.2.2.1.lt
        have := H5.out.2
        omega
      have HK4 : Hid (Kept w wr ∧ Blk wr w.heap.size [.int .i64 (n : Int), .int .i64 (s : Int), .int .i64 n2, .int .i64 (k : Int), .int .i64 n4, .int .i64 (ch : Int), .int .i64 n6, .int .i64 n7, .slice x l c]) := ⟨H4.out.2.1.trans hw.out.kept, H4.out.1.kept hw.out.kept⟩
      have HC : Hid (Blk wr w.heap.size [.int .i64 (n : Int), .int .i64 (s : Int), .int .i64 n2, .int .i64 (k : Int), .int .i64 n4, .int .i64 (ch : Int), .int .i64 n6, .int .i64 n7, .slice x l c] ∧ ∀ u, Kept wr u → Calls Try.prog 33 #[.agg #[.int .i64 (n : Int), .int .i64 (s : Int), .int .i64 n2, .int .i64 (k : Int), .int .i64 n4, .int .i64 (ch : Int), .int .i64 n6, .int .i64 n7, .slice x l c]] u fun e u' => ∃ gs T, e = .returned (.agg #[.int .i64 (n : Int), .int .i64 (s : Int), .int .i64 n2, .int .i64 (k : Int), .int .i64 n4, .int .i64 (ch : Int), .int .i64 n6, .int .i64 n7, .slice (some ⟨gs, 0, none⟩) l l]) ∧ u.heap.size ≤ gs ∧ u'.rowIs gs 72 (l * 2) (cf T) ∧ (∀ i, i < l → (T i).arr = (S i).arr ∧ (T i).l = (S i).l) ∧ Kept u u') := ⟨HK4.out.2, fun u hu => by
        refine (ccopy_any n s n2 k n4 ch n6 n7 x l c S R u HSl.out.1 HSl.out.2 (HSR.out.1.kept (HK4.out.1.trans hu)) (fun i hi => (HSR.out.2 i hi).kept (HK4.out.1.trans hu))).mono ?_
        rintro e u' ⟨gs, T, rfl, c1, c2, c3, c4⟩
        exact ⟨gs, T, rfl, c1, c2, fun i hi => ⟨(c3 i hi).1, (c3 i hi).2.1⟩, c4⟩⟩
      clear hw H4 H5
      obtain ⟨W4, rfl⟩ : ∃ W, W = wr := ⟨_, rfl⟩
      go_wp2_with fail
      refine wp_region_ghost (G := Nat × Nat × (Nat → Sh) × Nat) (fun ⟨lb, gs, T, rr⟩ => [(.pointer (some ⟨tb, 0, none⟩)), (.pointer (some ⟨pb, 0, none⟩)), (.pointer (some ⟨lb, 0, none⟩)), (.pointer (some ⟨kb, 0, none⟩)), (.agg #[.int .i64 (n : Int), .int .i64 (s : Int), .int .i64 n2, .int .i64 (k : Int), .int .i64 n4, .int .i64 (ch : Int), .int .i64 n6, .int .i64 n7, .slice x l c]), (.agg #[.int .i64 (n : Int), .int .i64 (s : Int), .int .i64 n2, .int .i64 (k : Int), .int .i64 n4, .int .i64 (ch : Int), .int .i64 n6, .int .i64 n7, .slice (some ⟨gs, 0, none⟩) l l]), (.agg #[.pointer (some ⟨tb, 0, none⟩), .pointer (some ⟨pb, 0, none⟩), .pointer (some ⟨lb, 0, none⟩), .pointer (some ⟨kb, 0, none⟩), .int .i64 (n : Int), .int .i64 (s : Int), .int .i64 n2, .int .i64 (k : Int), .int .i64 n4, .int .i64 (ch : Int), .int .i64 n6, .int .i64 n7, .slice (some ⟨gs, 0, none⟩) l l]), (.pointer (some ⟨rr, 0, none⟩)), (undef)]) [(13, 7), (54, 0), (55, 1), (56, 2), (57, 3), (58, 4), (59, 5), (60, 6)] (fun ⟨lb, gs, T, rr⟩ d u => NJ W4 l S lb gs T rr [.pointer none, .pointer none, .pointer none, .pointer none, .int .i64 0, .int .i64 0, .int .i64 0, .int .i64 0, .int .i64 0, .int .i64 0, .int .i64 0, .int .i64 0, .slice none 0 0] [.pointer (some ⟨tb, 0, none⟩), .pointer (some ⟨pb, 0, none⟩), .pointer (some ⟨lb, 0, none⟩), .pointer (some ⟨kb, 0, none⟩), .int .i64 (n : Int), .int .i64 (s : Int), .int .i64 n2, .int .i64 (k : Int), .int .i64 n4, .int .i64 (ch : Int), .int .i64 n6, .int .i64 n7, .slice (some ⟨gs, 0, none⟩) l l] d u) (by kernel_rfl) (by kernel_rfl) (by kernel_rfl) (by kernel_rfl) (fun _ => rfl) ?_ ?_ ?_
      · exact ⟨⟨0, 0, fun _ => ⟨false, none, 0, 0⟩, 0⟩, NJ.start⟩
      · intro i1 o1 ho ng a1 d u hh hj0 hi hd hc
        obtain ⟨lb, gs, T, rr⟩ := ng
        have hj : NJ W4 l S lb gs T rr [.pointer none, .pointer none, .pointer none, .pointer none, .int .i64 0, .int .i64 0, .int .i64 0, .int .i64 0, .int .i64 0, .int .i64 0, .int .i64 0, .int .i64 0, .slice none 0 0] [.pointer (some ⟨tb, 0, none⟩), .pointer (some ⟨pb, 0, none⟩), .pointer (some ⟨lb, 0, none⟩), .pointer (some ⟨kb, 0, none⟩), .int .i64 (n : Int), .int .i64 (s : Int), .int .i64 n2, .int .i64 (k : Int), .int .i64 n4, .int .i64 (ch : Int), .int .i64 n6, .int .i64 n7, .slice (some ⟨gs, 0, none⟩) l l] d u := hj0
        clear hj0
        match i1, ho, hi, hd with
        | 0, ho, hi, hd =>
          simp only [List.getElem?_cons_zero, Option.some.injEq] at ho
          subst ho
          have g1 : a1.tmps[1]? = some (.pointer (some ⟨tb, 0, none⟩)) := hh.old 1 (by kernel_rfl) rfl
          have HN : Hid (NJ W4 l S lb gs T rr [.pointer none, .pointer none, .pointer none, .pointer none, .int .i64 0, .int .i64 0, .int .i64 0, .int .i64 0, .int .i64 0, .int .i64 0, .int .i64 0, .int .i64 0, .slice none 0 0] [.pointer (some ⟨tb, 0, none⟩), .pointer (some ⟨pb, 0, none⟩), .pointer (some ⟨lb, 0, none⟩), .pointer (some ⟨kb, 0, none⟩), .int .i64 (n : Int), .int .i64 (s : Int), .int .i64 n2, .int .i64 (k : Int), .int .i64 n4, .int .i64 (ch : Int), .int .i64 n6, .int .i64 n7, .slice (some ⟨gs, 0, none⟩) l l] (done d 0) u) := hj.plain 0 (by decide) (by decide) (by decide) (by decide)
          clear hh hd hc hj hi
          refine wpOp_step rfl (fun K hK => ?_)
          go_simp
          exact hK _ _ ⟨⟨lb, gs, T, rr⟩, fun _ _ => rfl, by simp [Act.put], HN.out⟩
        | 1, ho, hi, hd =>
          simp only [List.getElem?_cons_succ, List.getElem?_cons_zero, Option.some.injEq] at ho
          subst ho
          have g7 : a1.tmps[7]? = some (.pointer (some ⟨pb, 0, none⟩)) := hh.old 7 (by kernel_rfl) rfl
          have HN : Hid (NJ W4 l S lb gs T rr [.pointer none, .pointer none, .pointer none, .pointer none, .int .i64 0, .int .i64 0, .int .i64 0, .int .i64 0, .int .i64 0, .int .i64 0, .int .i64 0, .int .i64 0, .slice none 0 0] [.pointer (some ⟨tb, 0, none⟩), .pointer (some ⟨pb, 0, none⟩), .pointer (some ⟨lb, 0, none⟩), .pointer (some ⟨kb, 0, none⟩), .int .i64 (n : Int), .int .i64 (s : Int), .int .i64 n2, .int .i64 (k : Int), .int .i64 n4, .int .i64 (ch : Int), .int .i64 n6, .int .i64 n7, .slice (some ⟨gs, 0, none⟩) l l] (done d 1) u) := hj.plain 1 (by decide) (by decide) (by decide) (by decide)
          clear hh hd hc hj hi
          refine wpOp_step rfl (fun K hK => ?_)
          go_simp
          exact hK _ _ ⟨⟨lb, gs, T, rr⟩, fun _ _ => rfl, by simp [Act.put], HN.out⟩
        | 2, ho, hi, hd =>
          simp only [List.getElem?_cons_succ, List.getElem?_cons_zero, Option.some.injEq] at ho
          subst ho
          have C := lnew_any u (base := 0) (Nat.zero_le _)
          have HJ : Hid (NJ W4 l S lb gs T rr [.pointer none, .pointer none, .pointer none, .pointer none, .int .i64 0, .int .i64 0, .int .i64 0, .int .i64 0, .int .i64 0, .int .i64 0, .int .i64 0, .int .i64 0, .slice none 0 0] [.pointer (some ⟨tb, 0, none⟩), .pointer (some ⟨pb, 0, none⟩), .pointer (some ⟨lb, 0, none⟩), .pointer (some ⟨kb, 0, none⟩), .int .i64 (n : Int), .int .i64 (s : Int), .int .i64 n2, .int .i64 (k : Int), .int .i64 n4, .int .i64 (ch : Int), .int .i64 n6, .int .i64 n7, .slice (some ⟨gs, 0, none⟩) l l] d u) := hj
          have HI : Hid (d 2 = false ∧ d 6 = false ∧ d 8 = false) := ⟨hi, by
            cases q : d 6 with
            | false => rfl
            | true => exact absurd (hc 6 _ rfl q { on := 2, ground := .data } (by simp) rfl) (by simp [hi]), by
            cases q : d 8 with
            | false => rfl
            | true => exact absurd (hc 6 _ rfl (hc 8 _ rfl q { on := 6, ground := .data } (by simp) rfl) { on := 2, ground := .data } (by simp) rfl) (by simp [hi])⟩
          clear hh hd hc hj hi
          refine wpOp_step rfl (fun K hK => ?_)
          go_simp
          refine C.mono ?_
          rintro e u2 ⟨lb', rfl, t2, k2, n2'⟩
          refine hK _ _ ⟨⟨lb', gs, T, rr⟩, fun j hj => ?_, by simp [Act.put], NJ.line HJ.out HI.out.1 HI.out.2.2 t2 k2 n2'⟩
          have j2 : j ≠ 2 := fun q => by rw [q, HI.out.1] at hj; cases hj
          have j6 : j ≠ 6 := fun q => by rw [q, HI.out.2.1] at hj; cases hj
          match j, j2, j6 with
          | 0, _, _ => rfl
          | 1, _, _ => rfl
          | 3, _, _ => rfl
          | 4, _, _ => rfl
          | 5, _, _ => rfl
          | 7, _, _ => rfl
          | 8, _, _ => rfl
          | j + 9, _, _ => rfl
        | 3, ho, hi, hd =>
          simp only [List.getElem?_cons_succ, List.getElem?_cons_zero, Option.some.injEq] at ho
          subst ho
          have g9 : a1.tmps[9]? = some (.pointer (some ⟨kb, 0, none⟩)) := hh.old 9 (by kernel_rfl) rfl
          have HN : Hid (NJ W4 l S lb gs T rr [.pointer none, .pointer none, .pointer none, .pointer none, .int .i64 0, .int .i64 0, .int .i64 0, .int .i64 0, .int .i64 0, .int .i64 0, .int .i64 0, .int .i64 0, .slice none 0 0] [.pointer (some ⟨tb, 0, none⟩), .pointer (some ⟨pb, 0, none⟩), .pointer (some ⟨lb, 0, none⟩), .pointer (some ⟨kb, 0, none⟩), .int .i64 (n : Int), .int .i64 (s : Int), .int .i64 n2, .int .i64 (k : Int), .int .i64 n4, .int .i64 (ch : Int), .int .i64 n6, .int .i64 n7, .slice (some ⟨gs, 0, none⟩) l l] (done d 3) u) := hj.plain 3 (by decide) (by decide) (by decide) (by decide)
          clear hh hd hc hj hi
          refine wpOp_step rfl (fun K hK => ?_)
          go_simp
          exact hK _ _ ⟨⟨lb, gs, T, rr⟩, fun _ _ => rfl, by simp [Act.put], HN.out⟩
        | 4, ho, hi, hd =>
          simp only [List.getElem?_cons_succ, List.getElem?_cons_zero, Option.some.injEq] at ho
          subst ho
          have g2 : a1.tmps[2]? = some (.pointer (some ⟨w.heap.size, 0, none⟩)) := hh.old 2 (by kernel_rfl) rfl
          have b0 := (HC.out.1.kept hj.kept).at 0 rfl
          have b1 := (HC.out.1.kept hj.kept).at 1 rfl
          have b2 := (HC.out.1.kept hj.kept).at 2 rfl
          have b3 := (HC.out.1.kept hj.kept).at 3 rfl
          have b4 := (HC.out.1.kept hj.kept).at 4 rfl
          have b5 := (HC.out.1.kept hj.kept).at 5 rfl
          have b6 := (HC.out.1.kept hj.kept).at 6 rfl
          have b7 := (HC.out.1.kept hj.kept).at 7 rfl
          have b8 := (HC.out.1.kept hj.kept).at 8 rfl
          have HN : Hid (NJ W4 l S lb gs T rr [.pointer none, .pointer none, .pointer none, .pointer none, .int .i64 0, .int .i64 0, .int .i64 0, .int .i64 0, .int .i64 0, .int .i64 0, .int .i64 0, .int .i64 0, .slice none 0 0] [.pointer (some ⟨tb, 0, none⟩), .pointer (some ⟨pb, 0, none⟩), .pointer (some ⟨lb, 0, none⟩), .pointer (some ⟨kb, 0, none⟩), .int .i64 (n : Int), .int .i64 (s : Int), .int .i64 n2, .int .i64 (k : Int), .int .i64 n4, .int .i64 (ch : Int), .int .i64 n6, .int .i64 n7, .slice (some ⟨gs, 0, none⟩) l l] (done d 4) u) := hj.plain 4 (by decide) (by decide) (by decide) (by decide)
          clear hh hd hc hj hi
          refine wpOp_step rfl (fun K hK => ?_)
          go_simp
          exact hK _ _ ⟨⟨lb, gs, T, rr⟩, fun _ _ => rfl, by simp [Act.put], HN.out⟩
        | 5, ho, hi, hd =>
          simp only [List.getElem?_cons_succ, List.getElem?_cons_zero, Option.some.injEq] at ho
          subst ho
          have g58 : a1.tmps[58]? = some (.agg #[.int .i64 (n : Int), .int .i64 (s : Int), .int .i64 n2, .int .i64 (k : Int), .int .i64 n4, .int .i64 (ch : Int), .int .i64 n6, .int .i64 n7, .slice x l c]) := hh.did 4 _ 58 rfl rfl (hd { on := 4, ground := .data } (by simp) rfl)
          have C := HC.out.2 u hj.kept
          have HJ : Hid (NJ W4 l S lb gs T rr [.pointer none, .pointer none, .pointer none, .pointer none, .int .i64 0, .int .i64 0, .int .i64 0, .int .i64 0, .int .i64 0, .int .i64 0, .int .i64 0, .int .i64 0, .slice none 0 0] [.pointer (some ⟨tb, 0, none⟩), .pointer (some ⟨pb, 0, none⟩), .pointer (some ⟨lb, 0, none⟩), .pointer (some ⟨kb, 0, none⟩), .int .i64 (n : Int), .int .i64 (s : Int), .int .i64 n2, .int .i64 (k : Int), .int .i64 n4, .int .i64 (ch : Int), .int .i64 n6, .int .i64 n7, .slice (some ⟨gs, 0, none⟩) l l] d u) := hj
          have HI : Hid (d 5 = false ∧ d 6 = false ∧ d 8 = false) := ⟨hi, by
            cases q : d 6 with
            | false => rfl
            | true => exact absurd (hc 6 _ rfl q { on := 5, ground := .data } (by simp) rfl) (by simp [hi]), by
            cases q : d 8 with
            | false => rfl
            | true => exact absurd (hc 6 _ rfl (hc 8 _ rfl q { on := 6, ground := .data } (by simp) rfl) { on := 5, ground := .data } (by simp) rfl) (by simp [hi])⟩
          clear hh hd hc hj hi
          refine wpOp_step rfl (fun K hK => ?_)
          go_simp
          refine C.mono ?_
          rintro e u2 ⟨gs', T', rfl, g2, r2, a2, k2⟩
          refine hK _ _ ⟨⟨lb, gs', T', rr⟩, fun j hj => ?_, by simp [Act.put], NJ.copy HJ.out HI.out.1 HI.out.2.2 g2 r2 a2 k2⟩
          have j5 : j ≠ 5 := fun q => by rw [q, HI.out.1] at hj; cases hj
          have j6 : j ≠ 6 := fun q => by rw [q, HI.out.2.1] at hj; cases hj
          match j, j5, j6 with
          | 0, _, _ => rfl
          | 1, _, _ => rfl
          | 2, _, _ => rfl
          | 3, _, _ => rfl
          | 4, _, _ => rfl
          | 7, _, _ => rfl
          | 8, _, _ => rfl
          | j + 9, _, _ => rfl
        | 6, ho, hi, hd =>
          simp only [List.getElem?_cons_succ, List.getElem?_cons_zero, Option.some.injEq] at ho
          subst ho
          have g54 : a1.tmps[54]? = some (.pointer (some ⟨tb, 0, none⟩)) := hh.did 0 _ 54 rfl rfl (hd { on := 0, ground := .data } (by simp) rfl)
          have g55 : a1.tmps[55]? = some (.pointer (some ⟨pb, 0, none⟩)) := hh.did 1 _ 55 rfl rfl (hd { on := 1, ground := .data } (by simp) rfl)
          have g56 : a1.tmps[56]? = some (.pointer (some ⟨lb, 0, none⟩)) := hh.did 2 _ 56 rfl rfl (hd { on := 2, ground := .data } (by simp) rfl)
          have g57 : a1.tmps[57]? = some (.pointer (some ⟨kb, 0, none⟩)) := hh.did 3 _ 57 rfl rfl (hd { on := 3, ground := .data } (by simp) rfl)
          have g59 : a1.tmps[59]? = some (.agg #[.int .i64 (n : Int), .int .i64 (s : Int), .int .i64 n2, .int .i64 (k : Int), .int .i64 n4, .int .i64 (ch : Int), .int .i64 n6, .int .i64 n7, .slice (some ⟨gs, 0, none⟩) l l]) := hh.did 5 _ 59 rfl rfl (hd { on := 5, ground := .data } (by simp) rfl)
          have e54 : a1.eval (.tmp 54) = (.pointer (some ⟨tb, 0, none⟩)) := by simp [Act.eval, g54]
          have e55 : a1.eval (.tmp 55) = (.pointer (some ⟨pb, 0, none⟩)) := by simp [Act.eval, g55]
          have e56 : a1.eval (.tmp 56) = (.pointer (some ⟨lb, 0, none⟩)) := by simp [Act.eval, g56]
          have e57 : a1.eval (.tmp 57) = (.pointer (some ⟨kb, 0, none⟩)) := by simp [Act.eval, g57]
          have e59 : a1.eval (.tmp 59) = (.agg #[.int .i64 (n : Int), .int .i64 (s : Int), .int .i64 n2, .int .i64 (k : Int), .int .i64 n4, .int .i64 (ch : Int), .int .i64 n6, .int .i64 n7, .slice (some ⟨gs, 0, none⟩) l l]) := by simp [Act.eval, g59]
          have HN6 : Hid (NJ W4 l S lb gs T rr [.pointer none, .pointer none, .pointer none, .pointer none, .int .i64 0, .int .i64 0, .int .i64 0, .int .i64 0, .int .i64 0, .int .i64 0, .int .i64 0, .int .i64 0, .slice none 0 0] [.pointer (some ⟨tb, 0, none⟩), .pointer (some ⟨pb, 0, none⟩), .pointer (some ⟨lb, 0, none⟩), .pointer (some ⟨kb, 0, none⟩), .int .i64 (n : Int), .int .i64 (s : Int), .int .i64 n2, .int .i64 (k : Int), .int .i64 n4, .int .i64 (ch : Int), .int .i64 n6, .int .i64 n7, .slice (some ⟨gs, 0, none⟩) l l] (done d 6) u) := hj.plain 6 (by decide) (by decide) (by decide) (by decide)
          clear hh hd hc hj hi
          refine wpOp_step rfl (fun K hK => ?_)
          simp only [Region.wanted]
          refine wp_build_to 118 _ rfl #[.pointer (some ⟨tb, 0, none⟩), .pointer (some ⟨pb, 0, none⟩), .pointer (some ⟨lb, 0, none⟩), .pointer (some ⟨kb, 0, none⟩), .int .i64 (n : Int), .int .i64 (s : Int), .int .i64 n2, .int .i64 (k : Int), .int .i64 n4, .int .i64 (ch : Int), .int .i64 n6, .int .i64 n7, .slice (some ⟨gs, 0, none⟩) l l] ?_ (hK _ _ ⟨⟨lb, gs, T, rr⟩, fun _ _ => rfl, rfl, HN6.out⟩)
          simp only [List.map_toArray, List.map_cons, List.map_nil, e54, e55, e56, e57, e59]
          kernel_rfl
        | 7, ho, hi, hd =>
          simp only [List.getElem?_cons_succ, List.getElem?_cons_zero, Option.some.injEq] at ho
          subst ho
          have HJ : Hid (NJ W4 l S lb gs T rr [.pointer none, .pointer none, .pointer none, .pointer none, .int .i64 0, .int .i64 0, .int .i64 0, .int .i64 0, .int .i64 0, .int .i64 0, .int .i64 0, .int .i64 0, .slice none 0 0] [.pointer (some ⟨tb, 0, none⟩), .pointer (some ⟨pb, 0, none⟩), .pointer (some ⟨lb, 0, none⟩), .pointer (some ⟨kb, 0, none⟩), .int .i64 (n : Int), .int .i64 (s : Int), .int .i64 n2, .int .i64 (k : Int), .int .i64 n4, .int .i64 (ch : Int), .int .i64 n6, .int .i64 n7, .slice (some ⟨gs, 0, none⟩) l l] d u) := hj
          have HI : Hid (d 7 = false ∧ d 8 = false) := ⟨hi, by
            cases q : d 8 with
            | false => rfl
            | true => exact absurd (hc 8 _ rfl q { on := 7, ground := .data } (by simp) rfl) (by simp [hi])⟩
          clear hh hd hc hj hi
          refine wpOp_step rfl (fun K hK => ?_)
          go_simp
          refine hK _ _ ⟨⟨lb, gs, T, u.heap.size⟩, fun j hj => ?_, by simp [Act.put], HJ.out.room HI.out.1 HI.out.2⟩
          have j7 : j ≠ 7 := fun q => by rw [q, HI.out.1] at hj; cases hj
          have j8 : j ≠ 8 := fun q => by rw [q, HI.out.2] at hj; cases hj
          match j, j7, j8 with
          | 0, _, _ => rfl
          | 1, _, _ => rfl
          | 2, _, _ => rfl
          | 3, _, _ => rfl
          | 4, _, _ => rfl
          | 5, _, _ => rfl
          | 6, _, _ => rfl
          | j + 9, _, _ => rfl
        | 8, ho, hi, hd =>
          simp only [List.getElem?_cons_succ, List.getElem?_cons_zero, Option.some.injEq] at ho
          subst ho
          have g13 : a1.tmps[13]? = some (.pointer (some ⟨rr, 0, none⟩)) := hh.did 7 _ 13 rfl rfl (hd { on := 7, ground := .data } (by simp) rfl)
          have g60 : a1.tmps[60]? = some (.agg #[.pointer (some ⟨tb, 0, none⟩), .pointer (some ⟨pb, 0, none⟩), .pointer (some ⟨lb, 0, none⟩), .pointer (some ⟨kb, 0, none⟩), .int .i64 (n : Int), .int .i64 (s : Int), .int .i64 n2, .int .i64 (k : Int), .int .i64 n4, .int .i64 (ch : Int), .int .i64 n6, .int .i64 n7, .slice (some ⟨gs, 0, none⟩) l l]) := hh.did 6 _ 60 rfl rfl (hd { on := 6, ground := .data } (by simp) rfl)
          have y2 : d 2 = true := (hd { on := 2, ground := .phase } (by simp) rfl)
          have y5 : d 5 = true := (hd { on := 5, ground := .chain } (by simp) rfl)
          have y7 : d 7 = true := (hd { on := 7, ground := .data } (by simp) rfl)
          have e13 : a1.eval (.tmp 13) = (.pointer (some ⟨rr, 0, none⟩)) := by simp [Act.eval, g13]
          have e60 : a1.eval (.tmp 60) = (.agg #[.pointer (some ⟨tb, 0, none⟩), .pointer (some ⟨pb, 0, none⟩), .pointer (some ⟨lb, 0, none⟩), .pointer (some ⟨kb, 0, none⟩), .int .i64 (n : Int), .int .i64 (s : Int), .int .i64 n2, .int .i64 (k : Int), .int .i64 n4, .int .i64 (ch : Int), .int .i64 n6, .int .i64 n7, .slice (some ⟨gs, 0, none⟩) l l]) := by simp [Act.eval, g60]
          have HJ : Hid (NJ W4 l S lb gs T rr [.pointer none, .pointer none, .pointer none, .pointer none, .int .i64 0, .int .i64 0, .int .i64 0, .int .i64 0, .int .i64 0, .int .i64 0, .int .i64 0, .int .i64 0, .slice none 0 0] [.pointer (some ⟨tb, 0, none⟩), .pointer (some ⟨pb, 0, none⟩), .pointer (some ⟨lb, 0, none⟩), .pointer (some ⟨kb, 0, none⟩), .int .i64 (n : Int), .int .i64 (s : Int), .int .i64 n2, .int .i64 (k : Int), .int .i64 n4, .int .i64 (ch : Int), .int .i64 n6, .int .i64 n7, .slice (some ⟨gs, 0, none⟩) l l] d u) := hj
          have HY : Hid (d 2 = true ∧ d 5 = true ∧ d 7 = true ∧ d 8 = false) := ⟨y2, y5, y7, hi⟩
          have ow := hj.own7 y7 hi
          clear hh hd hc hj hi y2 y5 y7
          refine wpOp_step rfl (fun K hK => ?_)
          simp only [Region.wanted]
          exact wp_store_row 118 (.tmp 13) (.tmp 60) rfl rr #[.pointer (some ⟨tb, 0, none⟩), .pointer (some ⟨pb, 0, none⟩), .pointer (some ⟨lb, 0, none⟩), .pointer (some ⟨kb, 0, none⟩), .int .i64 (n : Int), .int .i64 (s : Int), .int .i64 n2, .int .i64 (k : Int), .int .i64 n4, .int .i64 (ch : Int), .int .i64 n6, .int .i64 n7, .slice (some ⟨gs, 0, none⟩) l l] e13 e60 118 _ ow.2 (by kernel_rfl) rfl (by kernel_rfl) (hK _ _ ⟨⟨lb, gs, T, rr⟩, fun _ _ => rfl, rfl, HJ.out.store HY.out.1 HY.out.2.1 HY.out.2.2.1 HY.out.2.2.2⟩)
        | n + 9, ho, hi, hd => simp at ho
      · intro ng u d hall hj0
        obtain ⟨lb, gs, T, rr⟩ := ng
        have hj : NJ W4 l S lb gs T rr [.pointer none, .pointer none, .pointer none, .pointer none, .int .i64 0, .int .i64 0, .int .i64 0, .int .i64 0, .int .i64 0, .int .i64 0, .int .i64 0, .int .i64 0, .slice none 0 0] [.pointer (some ⟨tb, 0, none⟩), .pointer (some ⟨pb, 0, none⟩), .pointer (some ⟨lb, 0, none⟩), .pointer (some ⟨kb, 0, none⟩), .int .i64 (n : Int), .int .i64 (s : Int), .int .i64 n2, .int .i64 (k : Int), .int .i64 n4, .int .i64 (ch : Int), .int .i64 n6, .int .i64 n7, .slice (some ⟨gs, 0, none⟩) l l] d u := hj0
        clear hj0
        have HF : Hid (NF W4 l S lb gs T rr [.pointer (some ⟨tb, 0, none⟩), .pointer (some ⟨pb, 0, none⟩), .pointer (some ⟨lb, 0, none⟩), .pointer (some ⟨kb, 0, none⟩), .int .i64 (n : Int), .int .i64 (s : Int), .int .i64 n2, .int .i64 (k : Int), .int .i64 n4, .int .i64 (ch : Int), .int .i64 n6, .int .i64 n7, .slice (some ⟨gs, 0, none⟩) l l] u) := hj.fin (hall 2 (by decide)) (hall 5 (by decide)) (hall 7 (by decide)) (hall 8 (by decide))
        clear hall hj
        refine norm_list' (L' := [_, _, _, _, _, _, _, _, _, _, _, _, _, _, _, _, _, _, _, _, _, _, _, _, _, _, _, _, _, _, _, _, _, _, _, _, _, _, _, _, _, _, _, _, _, _, _, _, _, _, _, _, _, _, _, _, _, _, _, _, _, _, _, _, _, _, _]) rfl ?_
        have R0 := HF.out.own.blk
        have b0 := R0.at 0 rfl
        have b1 := R0.at 1 rfl
        have b2 := R0.at 2 rfl
        have b3 := R0.at 3 rfl
        have b4 := R0.at 4 rfl
        have b5 := R0.at 5 rfl
        have b6 := R0.at 6 rfl
        have b7 := R0.at 7 rfl
        have b8 := R0.at 8 rfl
        have b9 := R0.at 9 rfl
        have b10 := R0.at 10 rfl
        have b11 := R0.at 11 rfl
        have b12 := R0.at 12 rfl
        have CL := clear_tab (A := ⟨0, tb, tg, pb, 0, lb, kb, 0, fun _ => 0, ⟨n, s, n2, k, n4, ch, n6, n7, some ⟨gs, 0, none⟩, l, l, T⟩⟩) u ((HT.out.kept HK4.out.1).kept HF.out.kept)
        go_wp2_with fail
        refine CL.mono ?_
        rintro e w5 ⟨rfl, t5, m5⟩
        have hne : rr ∉ [tg] := by
          have h1 := HF.out.lo.2.2.1
          have h2 := HT.out.row.lt
          have h3 := HK4.out.1.size
          simp; omega
        have R5 : Blk w5 rr [.pointer (some ⟨tb, 0, none⟩), .pointer (some ⟨pb, 0, none⟩), .pointer (some ⟨lb, 0, none⟩), .pointer (some ⟨kb, 0, none⟩), .int .i64 (n : Int), .int .i64 (s : Int), .int .i64 n2, .int .i64 (k : Int), .int .i64 n4, .int .i64 (ch : Int), .int .i64 n6, .int .i64 n7, .slice (some ⟨gs, 0, none⟩) l l] := R0.muts m5 hne
        have H5 : Hid (Tab w5 tb tg n T0 ∧ Mut [tg] u w5) := ⟨t5, m5⟩
        clear b0 b1 b2 b3 b4 b5 b6 b7 b8 b9 b10 b11 b12 R0 CL t5 m5 hne
        have b0 := R5.at 0 rfl
        have b1 := R5.at 1 rfl
        have b2 := R5.at 2 rfl
        have b3 := R5.at 3 rfl
        have b4 := R5.at 4 rfl
        have b5 := R5.at 5 rfl
        have b6 := R5.at 6 rfl
        have b7 := R5.at 7 rfl
        have b8 := R5.at 8 rfl
        have b9 := R5.at 9 rfl
        have b10 := R5.at 10 rfl
        have b11 := R5.at 11 rfl
        have b12 := R5.at 12 rfl
        clear R5
        go_wp2
        go_ret2
        have A6 := sh_make (n2 := n2) (n4 := n4) (n6 := n6) (n7 := n7) HG.out HT.out HK4.out.1 HF.out H5.out.1 H5.out.2 HN.out
        exact ⟨_, _, rfl, A6.1, rfl, rfl, rfl, A6.2⟩

end Go.Proofs.Ytiigmmmhhpdmdaa

