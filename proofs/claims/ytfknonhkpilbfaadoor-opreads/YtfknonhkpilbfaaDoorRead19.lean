/-
  sporef19.read: what stands behind a word.
-/
import Derived.Test.YtfknonhkpilbfaaDoorRPrint19
import Derived.Test.YtfknonhkpilbfaaDoorSplit19
import Derived.Test.YtfknonhkpilbfaaDoorWith19
namespace Go.Proofs.YtfknonhkpilbfaaDoor
open Go.RowKit
attribute [local go_sem] run_store_complex

/-- What one of the document's letters stands for, piece by piece. -/
def OP.rt (o : OP) (l : UInt8) : List (List UInt8) := if l = 122 then [hex16 (nbP o.x), hex16 (nbP o.y)] else [o.rf l]
def OP.rn (o : OP) (l : UInt8) : Int := if l = 65 then o.a else if l = 66 ∨ l = 107 then o.b else if l = 67 then o.c else o.n
def OP.put (p : OP) (l : UInt8) (r : Int) (q q2 : Nat) : OP :=
  if l = 65 then { p with a := r } else if l = 66 ∨ l = 107 then { p with b := r } else if l = 67 then { p with c := r } else if l = 78 then { p with n := r } else { p with x := q, y := q2 }
def OP.rr (o : OP) (ls : List UInt8) : OP := ls.foldl (fun p l => p.put l (o.rn l) (nbP o.x) (nbP o.y)) (zer o.k)
theorem rr_all (o : OP) (h : o.Ok) (e : o.cz = o) : o.rr (rlt o.k) = o := by
  obtain ⟨k, a, b, c, n, x, y⟩ := o
  have h1 := h.k1
  have h2 := h.k2
  dsimp only at h1 h2
  rcases kinds k h1 h2 with rfl | rfl | rfl | rfl | rfl | rfl | rfl | rfl | rfl | rfl | rfl | rfl | rfl | rfl | rfl | rfl | rfl | rfl <;> simp [OP.cz, lts] at e <;> simp [OP.rr, rlt, OP.put, OP.rn, zer] <;> omega
theorem rt_all (o : OP) (h1 : 1 ≤ o.k) (h2 : o.k ≤ 18) : (lts o.k).map o.fld = (rlt o.k).flatMap o.rt := by
  obtain ⟨k, a, b, c, n, x, y⟩ := o
  dsimp only at h1 h2
  rcases kinds k h1 h2 with rfl | rfl | rfl | rfl | rfl | rfl | rfl | rfl | rfl | rfl | rfl | rfl | rfl | rfl | rfl | rfl | rfl | rfl <;> simp [OP.rt, OP.rf, rlt, lts, OP.fld, OP.num]
theorem OP.put_k (o : OP) (l : UInt8) (r : Int) (q q2 : Nat) : (o.put l r q q2).k = o.k := by
  unfold OP.put
  repeat' split
  all_goals rfl
theorem OP.Ok.put {o : OP} (h : o.Ok) (l : UInt8) {r : Int} {q q2 : Nat} (hr : i64 r) (hq : q < 18446744073709551616) (hq2 : q2 < 18446744073709551616) : (o.put l r q q2).Ok := by
  obtain ⟨h1, h2, ha, hb, hc, hn, hx, hy⟩ := h
  unfold OP.put
  repeat' split
  all_goals exact ⟨h1, h2, by assumption, by assumption, by assumption, by assumption, by assumption, by assumption⟩
theorem rn_in {o : OP} (h : o.Ok) (l : UInt8) : i64 (o.rn l) := by
  obtain ⟨h1, h2, ha, hb, hc, hn, hx, hy⟩ := h
  unfold OP.rn
  repeat' split
  all_goals assumption
theorem rf_dec (o : OP) {l : UInt8} (h : l = 65 ∨ l = 66 ∨ l = 107 ∨ l = 67 ∨ l = 78) : o.rf l = Lib.itoa (o.rn l) := by
  rcases h with rfl | rfl | rfl | rfl | rfl <;> rfl

/-- The pieces are those of g. -/
structure Fit (E : List (List UInt8)) (k : Nat) (g : OP) : Prop where
  ok : g.Ok
  cz : g.cz = g
  kk : g.k = k
  all : E = (lts k).map g.fld

/-- How far it is read. -/
structure Rdr2 (E : List (List UInt8)) (k j a : Nat) (p : OP) : Prop where
  ok : p.Ok
  kk : p.k = k
  aj : a ≤ 2 * j
  trk : ∀ g, Fit E k g → p = g.rr ((rlt k).take j) ∧ E.drop a = ((rlt k).drop j).flatMap g.rt ∧ a ≤ E.length
theorem Rdr2.start (E : List (List UInt8)) {k : Nat} (h1 : 1 ≤ k) (h2 : k ≤ 18) : Rdr2 E k 0 0 (zer k) := by
  refine ⟨zer_ok h1 h2, rfl, by omega, fun g hg => ?_⟩
  have e := hg.all
  have hk := hg.kk
  subst hk
  refine ⟨rfl, ?_, Nat.zero_le _⟩
  rw [List.drop_zero, List.drop_zero, e]
  exact rt_all g h1 h2
theorem Rdr2.here {E : List (List UInt8)} {k j a : Nat} {p : OP} (h : Rdr2 E k j a p) (hj : j < (rlt k).length) (g : OP) (hg : Fit E k g) : E.drop a = g.rt (rlt k)[j] ++ ((rlt k).drop (j + 1)).flatMap g.rt := by
  obtain ⟨_, e, _⟩ := h.trk g hg
  rw [e, List.drop_eq_getElem_cons hj, List.flatMap_cons]
theorem rr_step {k j : Nat} (g : OP) (hj : j < (rlt k).length) : g.rr ((rlt k).take (j + 1)) = (g.rr ((rlt k).take j)).put (rlt k)[j] (g.rn (rlt k)[j]) (nbP g.x) (nbP g.y) := by
  unfold OP.rr
  rw [List.take_add_one, List.getElem?_eq_getElem hj, Option.toList_some, List.foldl_append]
  rfl
theorem put_dec (p : OP) {l : UInt8} (h : l = 65 ∨ l = 66 ∨ l = 107 ∨ l = 67 ∨ l = 78) (r : Int) (q q2 q' q2' : Nat) : p.put l r q q2 = p.put l r q' q2' := by
  rcases h with rfl | rfl | rfl | rfl | rfl <;> rfl
theorem put_hex (p : OP) (r r' : Int) (q q2 : Nat) : p.put 122 r q q2 = p.put 122 r' q q2 := rfl
theorem drop_one {E : List (List UInt8)} {a : Nat} {x : List UInt8} {R : List (List UInt8)} (h : E.drop a = x :: R) : ∃ ha : a < E.length, E[a] = x ∧ E.drop (a + 1) = R := by
  have ha : a < E.length := by
    rcases Nat.lt_or_ge a E.length with q | q
    · exact q
    · rw [List.drop_eq_nil_of_le q] at h; cases h
  rw [List.drop_eq_getElem_cons ha] at h
  injection h with h1 h2
  exact ⟨ha, h1, h2⟩
/-- One number more. -/
theorem Rdr2.dec {E : List (List UInt8)} {k j a : Nat} {p : OP} (h : Rdr2 E k j a p) (hj : j < (rlt k).length) (ha : a < E.length) (hl : (rlt k)[j] = 65 ∨ (rlt k)[j] = 66 ∨ (rlt k)[j] = 107 ∨ (rlt k)[j] = 67 ∨ (rlt k)[j] = 78) {r : Int} (hr : i64 r) (h1 : ∀ m, i64 m → E[a] = Lib.itoa m → r = m) :
    Rdr2 E k (j + 1) (a + 1) (p.put (rlt k)[j] r 0 0) := by
  refine ⟨h.ok.put _ hr (by decide) (by decide), (OP.put_k _ _ _ _ _).trans h.kk, by have := h.aj; omega, fun g hg => ?_⟩
  have e := h.here hj g hg
  have hne : (rlt k)[j] ≠ 122 := by rcases hl with q | q | q | q | q <;> rw [q] <;> decide
  rw [OP.rt, if_neg hne, List.singleton_append] at e
  obtain ⟨_, e1, e2⟩ := drop_one e
  obtain ⟨t1, _, _⟩ := h.trk g hg
  rw [rf_dec g hl] at e1
  refine ⟨?_, e2, by omega⟩
  rw [rr_step g hj, ← t1, h1 _ (rn_in hg.ok _) e1]
  exact put_dec _ hl _ _ _ _ _
theorem Rdr2.no_dec {E : List (List UInt8)} {k j a : Nat} {p : OP} (h : Rdr2 E k j a p) (hj : j < (rlt k).length) (ha : a < E.length) (hl : (rlt k)[j] = 65 ∨ (rlt k)[j] = 66 ∨ (rlt k)[j] = 107 ∨ (rlt k)[j] = 67 ∨ (rlt k)[j] = 78) (h1 : ∀ m, i64 m → E[a] ≠ Lib.itoa m) : ∀ g, ¬ Fit E k g := fun g hg => by
  have e := h.here hj g hg
  have hne : (rlt k)[j] ≠ 122 := by rcases hl with q | q | q | q | q <;> rw [q] <;> decide
  rw [OP.rt, if_neg hne, List.singleton_append] at e
  obtain ⟨_, e1, e2⟩ := drop_one e
  rw [rf_dec g hl] at e1
  exact h1 _ (rn_in hg.ok _) e1
theorem Rdr2.short {E : List (List UInt8)} {k j a : Nat} {p : OP} (h : Rdr2 E k j a p) (hj : j < (rlt k).length) (ha : E.length ≤ a ∨ ((rlt k)[j] = 122 ∧ E.length ≤ a + 1)) : ∀ g, ¬ Fit E k g := fun g hg => by
  have e := h.here hj g hg
  by_cases hz : (rlt k)[j] = 122
  · rw [OP.rt, if_pos hz] at e
    obtain ⟨h1, _, e2⟩ := drop_one (R := hex16 (nbP g.y) :: ((rlt k).drop (j + 1)).flatMap g.rt) e
    obtain ⟨h2, _⟩ := drop_one e2
    omega
  · rw [OP.rt, if_neg hz, List.singleton_append] at e
    obtain ⟨h1, _⟩ := drop_one e
    rcases ha with q | q
    · omega
    · exact hz q.1
/-- Two of sixteen digits more. -/
theorem Rdr2.hex {E : List (List UInt8)} {k j a : Nat} {p : OP} (h : Rdr2 E k j a p) (hj : j < (rlt k).length) (ha : a + 1 < E.length) (hl : (rlt k)[j] = 122) {q q2 : Nat} (hq : q < 18446744073709551616) (hq2 : q2 < 18446744073709551616)
    (h1 : ∀ v, v < 18446744073709551616 → E[a] = hex16 v → q = v) (h2 : ∀ v, v < 18446744073709551616 → E[a + 1] = hex16 v → q2 = v) :
    Rdr2 E k (j + 1) (a + 2) (p.put (rlt k)[j] 0 q q2) := by
  refine ⟨h.ok.put _ i64_zero hq hq2, (OP.put_k _ _ _ _ _).trans h.kk, by have := h.aj; omega, fun g hg => ?_⟩
  have e := h.here hj g hg
  rw [OP.rt, if_pos hl] at e
  obtain ⟨_, e1, e2⟩ := drop_one (R := hex16 (nbP g.y) :: ((rlt k).drop (j + 1)).flatMap g.rt) e
  obtain ⟨_, e3, e4⟩ := drop_one e2
  obtain ⟨t1, _, _⟩ := h.trk g hg
  refine ⟨?_, e4, by omega⟩
  rw [rr_step g hj, ← t1, h1 _ (nbP_lt _ hg.ok.x) e1, h2 _ (nbP_lt _ hg.ok.y) e3, hl]
  exact put_hex _ _ _ _ _
theorem Rdr2.no_hex {E : List (List UInt8)} {k j a : Nat} {p : OP} (h : Rdr2 E k j a p) (hj : j < (rlt k).length) (ha : a + 1 < E.length) (hl : (rlt k)[j] = 122)
    (h1 : (∀ v, v < 18446744073709551616 → E[a] ≠ hex16 v) ∨ ∀ v, v < 18446744073709551616 → E[a + 1] ≠ hex16 v) : ∀ g, ¬ Fit E k g := fun g hg => by
  have e := h.here hj g hg
  rw [OP.rt, if_pos hl] at e
  obtain ⟨_, e1, e2⟩ := drop_one (R := hex16 (nbP g.y) :: ((rlt k).drop (j + 1)).flatMap g.rt) e
  obtain ⟨_, e3, e4⟩ := drop_one e2
  rcases h1 with q | q
  · exact q _ (nbP_lt _ hg.ok.x) e1
  · exact q _ (nbP_lt _ hg.ok.y) e3
theorem Rdr2.stop {E : List (List UInt8)} {k j a : Nat} {p : OP} (h : Rdr2 E k j a p) (hj : (rlt k).length ≤ j) (g : OP) (hg : Fit E k g) : p = g ∧ a = E.length := by
  obtain ⟨t1, t2, t3⟩ := h.trk g hg
  rw [List.drop_eq_nil_of_le hj, List.flatMap_nil] at t2
  have := List.drop_eq_nil_iff.1 t2
  refine ⟨?_, by omega⟩
  have hk := hg.kk
  subst hk
  rw [List.take_of_length_le hj] at t1
  rw [t1]
  exact rr_all g hg.ok hg.cz

/-- What read answers. -/
def ReadA (E : List (List UInt8)) (k : Nat) (w : World) (e : Ending) (w' : World) : Prop := ∃ (p : OP) (b : Bool), e = .returned (.tuple #[.agg #[.int .i64 (p.k : Int), .int .i64 p.a, .int .i64 p.b, .int .i64 p.c, .int .i64 p.n, .complex .f64 p.x p.y], .bool b]) ∧ p.Ok ∧ p.k = k ∧ (∀ g, Fit E k g → p = g ∧ b = true) ∧ Kept w w'
theorem ReadA.no {E : List (List UInt8)} {k : Nat} {w w' : World} {p : OP} (h : p.Ok) (hk : p.k = k) (hn : ∀ g, ¬ Fit E k g) (K : Kept w w') : ReadA E k w (.returned (.tuple #[.agg #[.int .i64 (p.k : Int), .int .i64 p.a, .int .i64 p.b, .int .i64 p.c, .int .i64 p.n, .complex .f64 p.x p.y], .bool false])) w' := ⟨p, false, rfl, h, hk, fun g hg => absurd hg (hn g), K⟩
theorem ReadA.yes {E : List (List UInt8)} {k : Nat} {w w' : World} {p : OP} {b : Bool} (h : p.Ok) (hk : p.k = k) (hn : ∀ g, Fit E k g → p = g ∧ b = true) (K : Kept w w') : ReadA E k w (.returned (.tuple #[.agg #[.int .i64 (p.k : Int), .int .i64 p.a, .int .i64 p.b, .int .i64 p.c, .int .i64 p.n, .complex .f64 p.x p.y], .bool b])) w' := ⟨p, b, rfl, h, hk, hn, K⟩

set_option maxHeartbeats 16000000 in
set_option maxRecDepth 20000 in
theorem read_any (E : List (List UInt8)) (k : Nat) (h1 : 1 ≤ k) (h2 : k ≤ 18) (hl : ∀ s ∈ E, s.length ≤ 1000) (x : Option Addr) (c : Nat) (_hc : E.length ≤ c) (hn : E.length ≤ 2000) (w : World) (hx : Rds w x E) :
    Calls Tryd.prog 15 #[.int .i64 (k : Int), .string ⟨(rlt k).toArray⟩, .slice x E.length c] w fun e w' => ReadA E k w e w' := by
  have HE : Hid (Rds w x E ∧ (∀ s ∈ E, s.length ≤ 1000) ∧ E.length ≤ 2000) := ⟨hx, hl, hn⟩
  have HX : Hid (∀ j (hj : j < (rlt k).length) W, (Instr.index 9 (.string ⟨(rlt k).toArray⟩) (.int .i64 (j : Int))).run Tryd.prog W = .ok (.int .u8 (((rlt k)[j]'hj).toNat : Int)) W) := fun j hj W => idx_str 9 Tryd.underlying9 (rlt k) j hj W
  have hsz := size_mk (rlt k)
  obtain ⟨RB, hRB⟩ : ∃ t : ByteArray, t = ⟨(rlt k).toArray⟩ := ⟨_, rfl⟩
  rw [← hRB] at HX hsz ⊢
  clear hRB hx hl hn
  have hf := f64from
  have H0 : Hid (Blk ((w.alloc (.cells #[.int .i64 0, .int .i64 0, .int .i64 0, .int .i64 0, .int .i64 0, .complex .f64 0 0] 25)).alloc (.cells #[.int .i64 (k : Int), .int .i64 0, .int .i64 0, .int .i64 0, .int .i64 0, .complex .f64 0 0] 25)) w.heap.size (zer 0).cs ∧ Blk ((w.alloc (.cells #[.int .i64 0, .int .i64 0, .int .i64 0, .int .i64 0, .int .i64 0, .complex .f64 0 0] 25)).alloc (.cells #[.int .i64 (k : Int), .int .i64 0, .int .i64 0, .int .i64 0, .int .i64 0, .complex .f64 0 0] 25)) (w.heap.size + 1) (zer k).cs ∧ Kept w ((w.alloc (.cells #[.int .i64 0, .int .i64 0, .int .i64 0, .int .i64 0, .int .i64 0, .complex .f64 0 0] 25)).alloc (.cells #[.int .i64 (k : Int), .int .i64 0, .int .i64 0, .int .i64 0, .int .i64 0, .complex .f64 0 0] 25))) := by
    have b0 := Blk.new w [.int .i64 0, .int .i64 0, .int .i64 0, .int .i64 0, .int .i64 0, .complex .f64 0 0] 25
    have k1 := (Kept.refl (w.alloc (.cells #[.int .i64 0, .int .i64 0, .int .i64 0, .int .i64 0, .int .i64 0, .complex .f64 0 0] 25))).alloc #[.int .i64 (k : Int), .int .i64 0, .int .i64 0, .int .i64 0, .int .i64 0, .complex .f64 0 0] 25
    have b1 := Blk.new (w.alloc (.cells #[.int .i64 0, .int .i64 0, .int .i64 0, .int .i64 0, .int .i64 0, .complex .f64 0 0] 25)) [.int .i64 (k : Int), .int .i64 0, .int .i64 0, .int .i64 0, .int .i64 0, .complex .f64 0 0] 25
    rw [show (w.alloc (.cells #[.int .i64 0, .int .i64 0, .int .i64 0, .int .i64 0, .int .i64 0, .complex .f64 0 0] 25)).heap.size = w.heap.size + 1 by simp] at b1
    exact ⟨b0.kept k1, b1, ((Kept.refl w).alloc _ _).trans k1⟩
  go_enter Tryd.func15, Tryd.ntmps15
  go_wp2
  go_loopg [9, 10] (rlt k).length (fun m at_ i wr => ∃ (j a : Nat), at_ = .int .i64 a ∧ i = .int .i64 j ∧ j ≤ (rlt k).length ∧ m = (rlt k).length - j ∧ a ≤ 6 ∧ Hid (∃ p, Rdr2 E k j a p ∧ Blk wr w.heap.size (zer 0).cs ∧ Blk wr (w.heap.size + 1) p.cs ∧ Kept w wr))
  case atStart => exact ⟨0, 0, rfl, rfl, Nat.zero_le _, rfl, by omega, zer k, Rdr2.start E h1 h2, H0.out⟩
  case round =>
    obtain ⟨j, a, rfl, rfl, hj, rfl, ha6, hh⟩ := hrel
    obtain ⟨p, hR, hB0, hB, hK⟩ := hh.out
    clear H0 hh
    have HP : Hid (p.Ok ∧ p.k = k) := ⟨hR.ok, hR.kk⟩
    have h3 := rlt_len k
    have HB : Hid (Blk wr w.heap.size (zer 0).cs ∧ Blk wr (w.heap.size + 1) p.cs ∧ Kept w wr) := ⟨hB0, hB, hK⟩
    have hja := hR.aj
    by_cases h : j < (rlt k).length
    · have hx := HX.out j h
      have hcs := rlt_cases k _ (List.getElem_mem h)
      obtain ⟨l, hll⟩ : ∃ l, l = (rlt k)[j] := ⟨_, rfl⟩
      rw [← hll] at hx hcs
      by_cases hs : E.length ≤ a
      · have HN : Hid (∀ g, ¬ Fit E k g) := hR.short h (.inl hs)
        have hs2 : (a : Int) ≥ (E.length : Int) := by omega
        have B := HB.out.2.1
        have B1 := HB.out.1
        have c0 := B.at 0 rfl
        have c1 := B.at 1 rfl
        have c2 := B.at 2 rfl
        have c3 := B.at 3 rfl
        have c4 := B.at 4 rfl
        have c5 := B.at 5 rfl
        have g0 := B1.fz 0
        have g1 := B1.fz 1
        have g2 := B1.fz 2
        have g3 := B1.fz 3
        have g4 := B1.fz 4
        have g5 := B1.fz 5
        have d0 := B1.at 0 rfl
        have d1 := B1.at 1 rfl
        have d2 := B1.at 2 rfl
        have d3 := B1.at 3 rfl
        have d4 := B1.at 4 rfl
        have d5 := B1.at 5 rfl
        clear B B1
        clear hR hs hcs hll HE hB0 hB hK
        go_wp2
        (try simp only [Exit.inBlock, Exit.then])
        exact bodyPost_ret_by (results_blk_tmp (p := 6) (u := 7) rfl _ _ w.heap.size [.int .i64 (p.k : Int), .int .i64 p.a, .int .i64 p.b, .int .i64 p.c, .int .i64 p.n, .complex .f64 p.x p.y] rfl (HB.out.1.six (.int .i64 (p.k : Int)) (.int .i64 p.a) (.int .i64 p.b) (.int .i64 p.c) (.int .i64 p.n) (.complex .f64 p.x p.y)) Tryd.underlying25 (by kernel_rfl)) rfl (ReadA.no HP.out.1 HP.out.2 HN.out (HB.out.2.2.six (Nat.le_refl _) (.int .i64 (p.k : Int)) (.int .i64 p.a) (.int .i64 p.b) (.int .i64 p.c) (.int .i64 p.n) (.complex .f64 p.x p.y)))
      · have has : a < E.length := by omega
        obtain ⟨gb, go, rfl, hgl, hcell⟩ := HE.out.1 (by omega)
        have hc0 : wr.cell? ⟨gb, go + a, none⟩ = some (.string ⟨(E[a]).toArray⟩) := (hK.cell (a := ⟨gb, go + a, none⟩) hgl).trans (hcell a has)
        have HC : Hid (∀ i, (hi : i < E.length) → w.cell? ⟨gb, go + i, none⟩ = some (.string ⟨(E[i]).toArray⟩)) := hcell
        have HG : Hid (gb < w.heap.size) := hgl
        clear hcell hgl
        have hs2 : (a : Int) < (E.length : Int) := by omega
        by_cases hz : l = 122
        · subst hz
          have hz2 : (rlt k)[j] = 122 := hll.symm
          have hx2 : ∀ W, (Instr.index 9 (.string RB) (.int .i64 (j : Int))).run Tryd.prog W = .ok (.int .u8 122) W := hx
          by_cases hs3 : E.length ≤ a + 1
          · have HN : Hid (∀ g, ¬ Fit E k g) := hR.short h (.inr ⟨hz2, hs3⟩)
            have hs4 : (a : Int) + 1 ≥ (E.length : Int) := by omega
            have B := HB.out.2.1
            have B1 := HB.out.1
            have c0 := B.at 0 rfl
            have c1 := B.at 1 rfl
            have c2 := B.at 2 rfl
            have c3 := B.at 3 rfl
            have c4 := B.at 4 rfl
            have c5 := B.at 5 rfl
            have g0 := B1.fz 0
            have g1 := B1.fz 1
            have g2 := B1.fz 2
            have g3 := B1.fz 3
            have g4 := B1.fz 4
            have g5 := B1.fz 5
            have d0 := B1.at 0 rfl
            have d1 := B1.at 1 rfl
            have d2 := B1.at 2 rfl
            have d3 := B1.at 3 rfl
            have d4 := B1.at 4 rfl
            have d5 := B1.at 5 rfl
            clear B B1
            clear hR hs hcs hll HE hB0 hB hK hs3 has hc0 hx hz2 HC HG
            go_wp2
            (try simp only [Exit.inBlock, Exit.then])
            exact bodyPost_ret_by (results_blk_tmp (p := 6) (u := 7) rfl _ _ w.heap.size [.int .i64 (p.k : Int), .int .i64 p.a, .int .i64 p.b, .int .i64 p.c, .int .i64 p.n, .complex .f64 p.x p.y] rfl (HB.out.1.six (.int .i64 (p.k : Int)) (.int .i64 p.a) (.int .i64 p.b) (.int .i64 p.c) (.int .i64 p.n) (.complex .f64 p.x p.y)) Tryd.underlying25 (by kernel_rfl)) rfl (ReadA.no HP.out.1 HP.out.2 HN.out (HB.out.2.2.six (Nat.le_refl _) (.int .i64 (p.k : Int)) (.int .i64 p.a) (.int .i64 p.b) (.int .i64 p.c) (.int .i64 p.n) (.complex .f64 p.x p.y)))
          · have hs4 : (a : Int) + 1 < (E.length : Int) := by omega
            have ha1 : a + 1 < E.length := by omega
            have hc1 : wr.cell? ⟨gb, go + (a + 1), none⟩ = some (.string ⟨(E[a + 1]).toArray⟩) := (hK.cell (a := ⟨gb, go + (a + 1), none⟩) HG.out).trans (HC.out (a + 1) ha1)
            have hl0 := HE.out.2.1 _ (List.getElem_mem has)
            have hl1 := HE.out.2.1 _ (List.getElem_mem ha1)
            have HS : Hid (∀ q q2, q < 18446744073709551616 → q2 < 18446744073709551616 → (∀ v, v < 18446744073709551616 → E[a] = hex16 v → q = v) → (∀ v, v < 18446744073709551616 → E[a + 1] = hex16 v → q2 = v) → Rdr2 E k (j + 1) (a + 2) (p.put 122 0 q q2)) := fun q q2 e1 e2 e3 e4 => by
              have := hR.hex h ha1 hz2 e1 e2 e3 e4
              rw [hz2] at this
              exact this
            have HN2 : Hid ((∀ v, v < 18446744073709551616 → E[a] ≠ hex16 v) ∨ (∀ v, v < 18446744073709551616 → E[a + 1] ≠ hex16 v) → ∀ g, ¬ Fit E k g) := hR.no_hex h ha1 hz2
            obtain ⟨s0, hs0⟩ : ∃ s0, s0 = E[a] := ⟨_, rfl⟩
            obtain ⟨s1, hs1⟩ : ∃ s1, s1 = E[a + 1] := ⟨_, rfl⟩
            rw [← hs0] at hc0 hl0 HS HN2
            rw [← hs1] at hc1 hl1 HS HN2
            have B := HB.out.2.1
            have c0 := B.at 0 rfl
            have c1 := B.at 1 rfl
            have c2 := B.at 2 rfl
            have c3 := B.at 3 rfl
            have c4 := B.at 4 rfl
            have c5 := B.at 5 rfl
            have f5 := B.fz 5
            clear B
            clear hR hs hcs hll HE hB0 hB hK hs3 has hx hz2 HC hs0 hs1 ha1
            have hH0 := fun W => rhex_any s0 hl0 W
            have hH1 := fun W => rhex_any s1 hl1 W
            go_wp2_with fail
            refine (hH0 _).mono ?_
            rintro e w3 ⟨q, b, rfl, q1, q2, K⟩
            have HQ : Hid (q < 18446744073709551616 ∧ (∀ v, v < 18446744073709551616 → s0 = hex16 v → q = v ∧ b = true)) := ⟨q1, q2⟩
            have HB3 : Hid (Blk w3 w.heap.size (zer 0).cs ∧ Blk w3 (w.heap.size + 1) p.cs ∧ Kept w w3) := ⟨HB.out.1.kept K, HB.out.2.1.kept K, HB.out.2.2.trans K⟩
            have hc1' : w3.cell? ⟨gb, go + (a + 1), none⟩ = some (.string ⟨s1.toArray⟩) := (K.cell (a := ⟨gb, go + (a + 1), none⟩) (Nat.lt_of_lt_of_le HG.out HB.out.2.2.size)).trans hc1
            clear q1 q2 K HB hc0 hc1 hH0 c0 c1 c2 c3 c4 c5 f5
            go_wp2_with fail
            refine (hH1 _).mono ?_
            rintro e w4 ⟨q2, b2, rfl, q3, q4, K⟩
            have HQ2 : Hid (q2 < 18446744073709551616 ∧ (∀ v, v < 18446744073709551616 → s1 = hex16 v → q2 = v ∧ b2 = true)) := ⟨q3, q4⟩
            have HB4 : Hid (Blk w4 w.heap.size (zer 0).cs ∧ Blk w4 (w.heap.size + 1) p.cs ∧ Kept w w4) := ⟨HB3.out.1.kept K, HB3.out.2.1.kept K, HB3.out.2.2.trans K⟩
            clear q3 q4 K HB3 hc1' hH1
            have B := HB4.out.2.1
            have B1 := HB4.out.1
            have c0 := B.at 0 rfl
            have c1 := B.at 1 rfl
            have c2 := B.at 2 rfl
            have c3 := B.at 3 rfl
            have c4 := B.at 4 rfl
            have c5 := B.at 5 rfl
            have f5 := B.fz 5
            have g0 := B1.fz 0
            have g1 := B1.fz 1
            have g2 := B1.fz 2
            have g3 := B1.fz 3
            have g4 := B1.fz 4
            have g5 := B1.fz 5
            have d0 := B1.at 0 rfl
            have d1 := B1.at 1 rfl
            have d2 := B1.at 2 rfl
            have d3 := B1.at 3 rfl
            have d4 := B1.at 4 rfl
            have d5 := B1.at 5 rfl
            clear B B1
            have HBn : Hid (Blk (w4.setCell ⟨w.heap.size + 1, 5, none⟩ (.complex .f64 q q2)) (w.heap.size + 1) (p.put 122 0 q q2).cs ∧ Blk (w4.setCell ⟨w.heap.size + 1, 5, none⟩ (.complex .f64 q q2)) w.heap.size (zer 0).cs ∧ Kept w (w4.setCell ⟨w.heap.size + 1, 5, none⟩ (.complex .f64 q q2)) ∧ (p.put 122 0 q q2).Ok ∧ (p.put 122 0 q q2).k = k) :=
              ⟨HB4.out.2.1.set (i := 5) rfl _, HB4.out.1.set_other (by simp) _, HB4.out.2.2.setCell (by simp) _, HP.out.1.put _ i64_zero HQ.out.1 HQ2.out.1, (OP.put_k _ _ _ _ _).trans HP.out.2⟩
            have hwc : (go + (a + 1)) = go + (a + 1) := rfl
            clear hwc
            cases b with
            | false =>
              have HN : Hid (∀ g, ¬ Fit E k g) := HN2.out (.inl fun v hv e => by have := (HQ.out.2 v hv e).2; cases this)
              clear HN2 HS
              go_wp2
              (try simp only [Exit.inBlock, Exit.then])
              exact bodyPost_ret_by (results_blk_tmp (p := 6) (u := 7) rfl _ _ w.heap.size [.int .i64 (p.k : Int), .int .i64 p.a, .int .i64 p.b, .int .i64 p.c, .int .i64 p.n, .complex .f64 q q2] rfl (HBn.out.2.1.six (.int .i64 (p.k : Int)) (.int .i64 p.a) (.int .i64 p.b) (.int .i64 p.c) (.int .i64 p.n) (.complex .f64 q q2)) Tryd.underlying25 (by kernel_rfl)) rfl (ReadA.no (p := p.put 122 0 q q2) HBn.out.2.2.2.1 HBn.out.2.2.2.2 HN.out (HBn.out.2.2.1.six (Nat.le_refl _) (.int .i64 (p.k : Int)) (.int .i64 p.a) (.int .i64 p.b) (.int .i64 p.c) (.int .i64 p.n) (.complex .f64 q q2)))
            | true =>
              cases b2 with
              | false =>
                have HN : Hid (∀ g, ¬ Fit E k g) := HN2.out (.inr fun v hv e => by have := (HQ2.out.2 v hv e).2; cases this)
                clear HN2 HS
                go_wp2
                (try simp only [Exit.inBlock, Exit.then])
                exact bodyPost_ret_by (results_blk_tmp (p := 6) (u := 7) rfl _ _ w.heap.size [.int .i64 (p.k : Int), .int .i64 p.a, .int .i64 p.b, .int .i64 p.c, .int .i64 p.n, .complex .f64 q q2] rfl (HBn.out.2.1.six (.int .i64 (p.k : Int)) (.int .i64 p.a) (.int .i64 p.b) (.int .i64 p.c) (.int .i64 p.n) (.complex .f64 q q2)) Tryd.underlying25 (by kernel_rfl)) rfl (ReadA.no (p := p.put 122 0 q q2) HBn.out.2.2.2.1 HBn.out.2.2.2.2 HN.out (HBn.out.2.2.1.six (Nat.le_refl _) (.int .i64 (p.k : Int)) (.int .i64 p.a) (.int .i64 p.b) (.int .i64 p.c) (.int .i64 p.n) (.complex .f64 q q2)))
              | true =>
                have HS2 : Hid (Rdr2 E k (j + 1) (a + 2) (p.put 122 0 q q2)) := HS.out q q2 HQ.out.1 HQ2.out.1 (fun v hv e => (HQ.out.2 v hv e).1) (fun v hv e => (HQ2.out.2 v hv e).1)
                clear HN2 HS
                go_wp2
                go_roundg ((rlt k).length - (j + 1))
                · exact ⟨j + 1, a + 2, rfl, rfl, by omega, rfl, by have := HS2.out.aj; omega, _, HS2.out, HBn.out.2.1, HBn.out.1, HBn.out.2.2.1⟩
                · omega
        · have hl5 : l = 65 ∨ l = 66 ∨ l = 107 ∨ l = 67 ∨ l = 78 := by
            rcases hcs with q | q | q | q | q | q
            · exact .inl q
            · exact .inr (.inl q)
            · exact .inr (.inr (.inl q))
            · exact .inr (.inr (.inr (.inl q)))
            · exact .inr (.inr (.inr (.inr q)))
            · exact absurd q hz
          have hl5' : (rlt k)[j] = 65 ∨ (rlt k)[j] = 66 ∨ (rlt k)[j] = 107 ∨ (rlt k)[j] = 67 ∨ (rlt k)[j] = 78 := by rw [← hll]; exact hl5
          have hl0 := HE.out.2.1 _ (List.getElem_mem has)
          have HS : Hid (∀ r, i64 r → (∀ m, i64 m → E[a] = Lib.itoa m → r = m) → Rdr2 E k (j + 1) (a + 1) (p.put l r 0 0)) := fun r e1 e2 => by
            have := hR.dec h has hl5' e1 e2
            rw [← hll] at this
            exact this
          have HN2 : Hid ((∀ m, i64 m → E[a] ≠ Lib.itoa m) → ∀ g, ¬ Fit E k g) := hR.no_dec h has hl5'
          obtain ⟨s0, hs0⟩ : ∃ s0, s0 = E[a] := ⟨_, rfl⟩
          rw [← hs0] at hc0 hl0 HS HN2
          have hD := fun W => number_any s0 hl0 W
          clear hR hs hcs HE hB0 hB hK has HC hs0 hl5' hz
          rcases hl5 with rfl | rfl | rfl | rfl | rfl
          · have hx2 : ∀ W, (Instr.index 9 (.string RB) (.int .i64 (j : Int))).run Tryd.prog W = .ok (.int .u8 65) W := hx
            clear hx hll
            go_wp2_with fail
            refine (hD _).mono ?_
            rintro e w3 ⟨r, b, rfl, q1, q2, K⟩
            have HQ : Hid (i64 r ∧ (∀ m, i64 m → s0 = Lib.itoa m → r = m ∧ b = true)) := ⟨q1, q2⟩
            have HB3 : Hid (Blk w3 w.heap.size (zer 0).cs ∧ Blk w3 (w.heap.size + 1) p.cs ∧ Kept w w3) := ⟨HB.out.1.kept K, HB.out.2.1.kept K, HB.out.2.2.trans K⟩
            clear q1 q2 K HB hc0 hD
            have B := HB3.out.2.1
            have B1 := HB3.out.1
            have c0 := B.at 0 rfl
            have c1 := B.at 1 rfl
            have c2 := B.at 2 rfl
            have c3 := B.at 3 rfl
            have c4 := B.at 4 rfl
            have c5 := B.at 5 rfl
            have f1 := B.fz 1
            have g0 := B1.fz 0
            have g1 := B1.fz 1
            have g2 := B1.fz 2
            have g3 := B1.fz 3
            have g4 := B1.fz 4
            have g5 := B1.fz 5
            have d0 := B1.at 0 rfl
            have d1 := B1.at 1 rfl
            have d2 := B1.at 2 rfl
            have d3 := B1.at 3 rfl
            have d4 := B1.at 4 rfl
            have d5 := B1.at 5 rfl
            clear B B1
            cases b with
            | false =>
              have HN : Hid (∀ g, ¬ Fit E k g) := HN2.out fun m hm e => by have := (HQ.out.2 m hm e).2; cases this
              clear HN2 HS
              go_wp2
              (try simp only [Exit.inBlock, Exit.then])
              exact bodyPost_ret_by (results_blk_tmp (p := 6) (u := 7) rfl _ _ w.heap.size [.int .i64 (p.k : Int), .int .i64 p.a, .int .i64 p.b, .int .i64 p.c, .int .i64 p.n, .complex .f64 p.x p.y] rfl (HB3.out.1.six (.int .i64 (p.k : Int)) (.int .i64 p.a) (.int .i64 p.b) (.int .i64 p.c) (.int .i64 p.n) (.complex .f64 p.x p.y)) Tryd.underlying25 (by kernel_rfl)) rfl (ReadA.no HP.out.1 HP.out.2 HN.out (HB3.out.2.2.six (Nat.le_refl _) (.int .i64 (p.k : Int)) (.int .i64 p.a) (.int .i64 p.b) (.int .i64 p.c) (.int .i64 p.n) (.complex .f64 p.x p.y)))
            | true =>
              have HBn : Hid (Blk (w3.setCell ⟨w.heap.size + 1, 1, none⟩ (.int .i64 r)) (w.heap.size + 1) (p.put 65 r 0 0).cs ∧ Blk (w3.setCell ⟨w.heap.size + 1, 1, none⟩ (.int .i64 r)) w.heap.size (zer 0).cs ∧ Kept w (w3.setCell ⟨w.heap.size + 1, 1, none⟩ (.int .i64 r))) :=
                ⟨HB3.out.2.1.set (i := 1) rfl _, HB3.out.1.set_other (by simp) _, HB3.out.2.2.setCell (by simp) _⟩
              have HS2 : Hid (Rdr2 E k (j + 1) (a + 1) (p.put 65 r 0 0)) := HS.out r HQ.out.1 (fun m hm e => (HQ.out.2 m hm e).1)
              clear HN2 HS
              go_wp2
              go_roundg ((rlt k).length - (j + 1))
              · exact ⟨j + 1, a + 1, rfl, rfl, by omega, rfl, by have := HS2.out.aj; omega, _, HS2.out, HBn.out.2.1, HBn.out.1, HBn.out.2.2⟩
              · omega
          · have hx2 : ∀ W, (Instr.index 9 (.string RB) (.int .i64 (j : Int))).run Tryd.prog W = .ok (.int .u8 66) W := hx
            clear hx hll
            go_wp2_with fail
            refine (hD _).mono ?_
            rintro e w3 ⟨r, b, rfl, q1, q2, K⟩
            have HQ : Hid (i64 r ∧ (∀ m, i64 m → s0 = Lib.itoa m → r = m ∧ b = true)) := ⟨q1, q2⟩
            have HB3 : Hid (Blk w3 w.heap.size (zer 0).cs ∧ Blk w3 (w.heap.size + 1) p.cs ∧ Kept w w3) := ⟨HB.out.1.kept K, HB.out.2.1.kept K, HB.out.2.2.trans K⟩
            clear q1 q2 K HB hc0 hD
            have B := HB3.out.2.1
            have B1 := HB3.out.1
            have c0 := B.at 0 rfl
            have c1 := B.at 1 rfl
            have c2 := B.at 2 rfl
            have c3 := B.at 3 rfl
            have c4 := B.at 4 rfl
            have c5 := B.at 5 rfl
            have f2 := B.fz 2
            have g0 := B1.fz 0
            have g1 := B1.fz 1
            have g2 := B1.fz 2
            have g3 := B1.fz 3
            have g4 := B1.fz 4
            have g5 := B1.fz 5
            have d0 := B1.at 0 rfl
            have d1 := B1.at 1 rfl
            have d2 := B1.at 2 rfl
            have d3 := B1.at 3 rfl
            have d4 := B1.at 4 rfl
            have d5 := B1.at 5 rfl
            clear B B1
            cases b with
            | false =>
              have HN : Hid (∀ g, ¬ Fit E k g) := HN2.out fun m hm e => by have := (HQ.out.2 m hm e).2; cases this
              clear HN2 HS
              go_wp2
              (try simp only [Exit.inBlock, Exit.then])
              exact bodyPost_ret_by (results_blk_tmp (p := 6) (u := 7) rfl _ _ w.heap.size [.int .i64 (p.k : Int), .int .i64 p.a, .int .i64 p.b, .int .i64 p.c, .int .i64 p.n, .complex .f64 p.x p.y] rfl (HB3.out.1.six (.int .i64 (p.k : Int)) (.int .i64 p.a) (.int .i64 p.b) (.int .i64 p.c) (.int .i64 p.n) (.complex .f64 p.x p.y)) Tryd.underlying25 (by kernel_rfl)) rfl (ReadA.no HP.out.1 HP.out.2 HN.out (HB3.out.2.2.six (Nat.le_refl _) (.int .i64 (p.k : Int)) (.int .i64 p.a) (.int .i64 p.b) (.int .i64 p.c) (.int .i64 p.n) (.complex .f64 p.x p.y)))
            | true =>
              have HBn : Hid (Blk (w3.setCell ⟨w.heap.size + 1, 2, none⟩ (.int .i64 r)) (w.heap.size + 1) (p.put 66 r 0 0).cs ∧ Blk (w3.setCell ⟨w.heap.size + 1, 2, none⟩ (.int .i64 r)) w.heap.size (zer 0).cs ∧ Kept w (w3.setCell ⟨w.heap.size + 1, 2, none⟩ (.int .i64 r))) :=
                ⟨HB3.out.2.1.set (i := 2) rfl _, HB3.out.1.set_other (by simp) _, HB3.out.2.2.setCell (by simp) _⟩
              have HS2 : Hid (Rdr2 E k (j + 1) (a + 1) (p.put 66 r 0 0)) := HS.out r HQ.out.1 (fun m hm e => (HQ.out.2 m hm e).1)
              clear HN2 HS
              go_wp2
              go_roundg ((rlt k).length - (j + 1))
              · exact ⟨j + 1, a + 1, rfl, rfl, by omega, rfl, by have := HS2.out.aj; omega, _, HS2.out, HBn.out.2.1, HBn.out.1, HBn.out.2.2⟩
              · omega
          · have hx2 : ∀ W, (Instr.index 9 (.string RB) (.int .i64 (j : Int))).run Tryd.prog W = .ok (.int .u8 107) W := hx
            clear hx hll
            go_wp2_with fail
            refine (hD _).mono ?_
            rintro e w3 ⟨r, b, rfl, q1, q2, K⟩
            have HQ : Hid (i64 r ∧ (∀ m, i64 m → s0 = Lib.itoa m → r = m ∧ b = true)) := ⟨q1, q2⟩
            have HB3 : Hid (Blk w3 w.heap.size (zer 0).cs ∧ Blk w3 (w.heap.size + 1) p.cs ∧ Kept w w3) := ⟨HB.out.1.kept K, HB.out.2.1.kept K, HB.out.2.2.trans K⟩
            clear q1 q2 K HB hc0 hD
            have B := HB3.out.2.1
            have B1 := HB3.out.1
            have c0 := B.at 0 rfl
            have c1 := B.at 1 rfl
            have c2 := B.at 2 rfl
            have c3 := B.at 3 rfl
            have c4 := B.at 4 rfl
            have c5 := B.at 5 rfl
            have f2 := B.fz 2
            have g0 := B1.fz 0
            have g1 := B1.fz 1
            have g2 := B1.fz 2
            have g3 := B1.fz 3
            have g4 := B1.fz 4
            have g5 := B1.fz 5
            have d0 := B1.at 0 rfl
            have d1 := B1.at 1 rfl
            have d2 := B1.at 2 rfl
            have d3 := B1.at 3 rfl
            have d4 := B1.at 4 rfl
            have d5 := B1.at 5 rfl
            clear B B1
            cases b with
            | false =>
              have HN : Hid (∀ g, ¬ Fit E k g) := HN2.out fun m hm e => by have := (HQ.out.2 m hm e).2; cases this
              clear HN2 HS
              go_wp2
              (try simp only [Exit.inBlock, Exit.then])
              exact bodyPost_ret_by (results_blk_tmp (p := 6) (u := 7) rfl _ _ w.heap.size [.int .i64 (p.k : Int), .int .i64 p.a, .int .i64 p.b, .int .i64 p.c, .int .i64 p.n, .complex .f64 p.x p.y] rfl (HB3.out.1.six (.int .i64 (p.k : Int)) (.int .i64 p.a) (.int .i64 p.b) (.int .i64 p.c) (.int .i64 p.n) (.complex .f64 p.x p.y)) Tryd.underlying25 (by kernel_rfl)) rfl (ReadA.no HP.out.1 HP.out.2 HN.out (HB3.out.2.2.six (Nat.le_refl _) (.int .i64 (p.k : Int)) (.int .i64 p.a) (.int .i64 p.b) (.int .i64 p.c) (.int .i64 p.n) (.complex .f64 p.x p.y)))
            | true =>
              have HBn : Hid (Blk (w3.setCell ⟨w.heap.size + 1, 2, none⟩ (.int .i64 r)) (w.heap.size + 1) (p.put 107 r 0 0).cs ∧ Blk (w3.setCell ⟨w.heap.size + 1, 2, none⟩ (.int .i64 r)) w.heap.size (zer 0).cs ∧ Kept w (w3.setCell ⟨w.heap.size + 1, 2, none⟩ (.int .i64 r))) :=
                ⟨HB3.out.2.1.set (i := 2) rfl _, HB3.out.1.set_other (by simp) _, HB3.out.2.2.setCell (by simp) _⟩
              have HS2 : Hid (Rdr2 E k (j + 1) (a + 1) (p.put 107 r 0 0)) := HS.out r HQ.out.1 (fun m hm e => (HQ.out.2 m hm e).1)
              clear HN2 HS
              go_wp2
              go_roundg ((rlt k).length - (j + 1))
              · exact ⟨j + 1, a + 1, rfl, rfl, by omega, rfl, by have := HS2.out.aj; omega, _, HS2.out, HBn.out.2.1, HBn.out.1, HBn.out.2.2⟩
              · omega
          · have hx2 : ∀ W, (Instr.index 9 (.string RB) (.int .i64 (j : Int))).run Tryd.prog W = .ok (.int .u8 67) W := hx
            clear hx hll
            go_wp2_with fail
            refine (hD _).mono ?_
            rintro e w3 ⟨r, b, rfl, q1, q2, K⟩
            have HQ : Hid (i64 r ∧ (∀ m, i64 m → s0 = Lib.itoa m → r = m ∧ b = true)) := ⟨q1, q2⟩
            have HB3 : Hid (Blk w3 w.heap.size (zer 0).cs ∧ Blk w3 (w.heap.size + 1) p.cs ∧ Kept w w3) := ⟨HB.out.1.kept K, HB.out.2.1.kept K, HB.out.2.2.trans K⟩
            clear q1 q2 K HB hc0 hD
            have B := HB3.out.2.1
            have B1 := HB3.out.1
            have c0 := B.at 0 rfl
            have c1 := B.at 1 rfl
            have c2 := B.at 2 rfl
            have c3 := B.at 3 rfl
            have c4 := B.at 4 rfl
            have c5 := B.at 5 rfl
            have f3 := B.fz 3
            have g0 := B1.fz 0
            have g1 := B1.fz 1
            have g2 := B1.fz 2
            have g3 := B1.fz 3
            have g4 := B1.fz 4
            have g5 := B1.fz 5
            have d0 := B1.at 0 rfl
            have d1 := B1.at 1 rfl
            have d2 := B1.at 2 rfl
            have d3 := B1.at 3 rfl
            have d4 := B1.at 4 rfl
            have d5 := B1.at 5 rfl
            clear B B1
            cases b with
            | false =>
              have HN : Hid (∀ g, ¬ Fit E k g) := HN2.out fun m hm e => by have := (HQ.out.2 m hm e).2; cases this
              clear HN2 HS
              go_wp2
              (try simp only [Exit.inBlock, Exit.then])
              exact bodyPost_ret_by (results_blk_tmp (p := 6) (u := 7) rfl _ _ w.heap.size [.int .i64 (p.k : Int), .int .i64 p.a, .int .i64 p.b, .int .i64 p.c, .int .i64 p.n, .complex .f64 p.x p.y] rfl (HB3.out.1.six (.int .i64 (p.k : Int)) (.int .i64 p.a) (.int .i64 p.b) (.int .i64 p.c) (.int .i64 p.n) (.complex .f64 p.x p.y)) Tryd.underlying25 (by kernel_rfl)) rfl (ReadA.no HP.out.1 HP.out.2 HN.out (HB3.out.2.2.six (Nat.le_refl _) (.int .i64 (p.k : Int)) (.int .i64 p.a) (.int .i64 p.b) (.int .i64 p.c) (.int .i64 p.n) (.complex .f64 p.x p.y)))
            | true =>
              have HBn : Hid (Blk (w3.setCell ⟨w.heap.size + 1, 3, none⟩ (.int .i64 r)) (w.heap.size + 1) (p.put 67 r 0 0).cs ∧ Blk (w3.setCell ⟨w.heap.size + 1, 3, none⟩ (.int .i64 r)) w.heap.size (zer 0).cs ∧ Kept w (w3.setCell ⟨w.heap.size + 1, 3, none⟩ (.int .i64 r))) :=
                ⟨HB3.out.2.1.set (i := 3) rfl _, HB3.out.1.set_other (by simp) _, HB3.out.2.2.setCell (by simp) _⟩
              have HS2 : Hid (Rdr2 E k (j + 1) (a + 1) (p.put 67 r 0 0)) := HS.out r HQ.out.1 (fun m hm e => (HQ.out.2 m hm e).1)
              clear HN2 HS
              go_wp2
              go_roundg ((rlt k).length - (j + 1))
              · exact ⟨j + 1, a + 1, rfl, rfl, by omega, rfl, by have := HS2.out.aj; omega, _, HS2.out, HBn.out.2.1, HBn.out.1, HBn.out.2.2⟩
              · omega
          · have hx2 : ∀ W, (Instr.index 9 (.string RB) (.int .i64 (j : Int))).run Tryd.prog W = .ok (.int .u8 78) W := hx
            clear hx hll
            go_wp2_with fail
            refine (hD _).mono ?_
            rintro e w3 ⟨r, b, rfl, q1, q2, K⟩
            have HQ : Hid (i64 r ∧ (∀ m, i64 m → s0 = Lib.itoa m → r = m ∧ b = true)) := ⟨q1, q2⟩
            have HB3 : Hid (Blk w3 w.heap.size (zer 0).cs ∧ Blk w3 (w.heap.size + 1) p.cs ∧ Kept w w3) := ⟨HB.out.1.kept K, HB.out.2.1.kept K, HB.out.2.2.trans K⟩
            clear q1 q2 K HB hc0 hD
            have B := HB3.out.2.1
            have B1 := HB3.out.1
            have c0 := B.at 0 rfl
            have c1 := B.at 1 rfl
            have c2 := B.at 2 rfl
            have c3 := B.at 3 rfl
            have c4 := B.at 4 rfl
            have c5 := B.at 5 rfl
            have f4 := B.fz 4
            have g0 := B1.fz 0
            have g1 := B1.fz 1
            have g2 := B1.fz 2
            have g3 := B1.fz 3
            have g4 := B1.fz 4
            have g5 := B1.fz 5
            have d0 := B1.at 0 rfl
            have d1 := B1.at 1 rfl
            have d2 := B1.at 2 rfl
            have d3 := B1.at 3 rfl
            have d4 := B1.at 4 rfl
            have d5 := B1.at 5 rfl
            clear B B1
            cases b with
            | false =>
              have HN : Hid (∀ g, ¬ Fit E k g) := HN2.out fun m hm e => by have := (HQ.out.2 m hm e).2; cases this
              clear HN2 HS
              go_wp2
              (try simp only [Exit.inBlock, Exit.then])
              exact bodyPost_ret_by (results_blk_tmp (p := 6) (u := 7) rfl _ _ w.heap.size [.int .i64 (p.k : Int), .int .i64 p.a, .int .i64 p.b, .int .i64 p.c, .int .i64 p.n, .complex .f64 p.x p.y] rfl (HB3.out.1.six (.int .i64 (p.k : Int)) (.int .i64 p.a) (.int .i64 p.b) (.int .i64 p.c) (.int .i64 p.n) (.complex .f64 p.x p.y)) Tryd.underlying25 (by kernel_rfl)) rfl (ReadA.no HP.out.1 HP.out.2 HN.out (HB3.out.2.2.six (Nat.le_refl _) (.int .i64 (p.k : Int)) (.int .i64 p.a) (.int .i64 p.b) (.int .i64 p.c) (.int .i64 p.n) (.complex .f64 p.x p.y)))
            | true =>
              have HBn : Hid (Blk (w3.setCell ⟨w.heap.size + 1, 4, none⟩ (.int .i64 r)) (w.heap.size + 1) (p.put 78 r 0 0).cs ∧ Blk (w3.setCell ⟨w.heap.size + 1, 4, none⟩ (.int .i64 r)) w.heap.size (zer 0).cs ∧ Kept w (w3.setCell ⟨w.heap.size + 1, 4, none⟩ (.int .i64 r))) :=
                ⟨HB3.out.2.1.set (i := 4) rfl _, HB3.out.1.set_other (by simp) _, HB3.out.2.2.setCell (by simp) _⟩
              have HS2 : Hid (Rdr2 E k (j + 1) (a + 1) (p.put 78 r 0 0)) := HS.out r HQ.out.1 (fun m hm e => (HQ.out.2 m hm e).1)
              clear HN2 HS
              go_wp2
              go_roundg ((rlt k).length - (j + 1))
              · exact ⟨j + 1, a + 1, rfl, rfl, by omega, rfl, by have := HS2.out.aj; omega, _, HS2.out, HBn.out.2.1, HBn.out.1, HBn.out.2.2⟩
              · omega
    · have HF : Hid (∀ g, Fit E k g → p = g ∧ decide ((a : Int) = (E.length : Int)) = true) := fun g hg => by
        obtain ⟨e1, e2⟩ := hR.stop (by omega) g hg
        exact ⟨e1, by simp [e2]⟩
      have B := HB.out.2.1
      have B1 := HB.out.1
      have c0 := B.at 0 rfl
      have c1 := B.at 1 rfl
      have c2 := B.at 2 rfl
      have c3 := B.at 3 rfl
      have c4 := B.at 4 rfl
      have c5 := B.at 5 rfl
      have g0 := B1.fz 0
      have g1 := B1.fz 1
      have g2 := B1.fz 2
      have g3 := B1.fz 3
      have g4 := B1.fz 4
      have g5 := B1.fz 5
      have d0 := B1.at 0 rfl
      have d1 := B1.at 1 rfl
      have d2 := B1.at 2 rfl
      have d3 := B1.at 3 rfl
      have d4 := B1.at 4 rfl
      have d5 := B1.at 5 rfl
      clear B B1
      clear hR hB0 hB hK
      go_wp2
      (try simp only [Exit.inBlock, Exit.then])
      refine bodyPost_ret_by (results_blk_tmp (p := 6) (u := 7) rfl _ _ w.heap.size [.int .i64 (p.k : Int), .int .i64 p.a, .int .i64 p.b, .int .i64 p.c, .int .i64 p.n, .complex .f64 p.x p.y] rfl (HB.out.1.six (.int .i64 (p.k : Int)) (.int .i64 p.a) (.int .i64 p.b) (.int .i64 p.c) (.int .i64 p.n) (.complex .f64 p.x p.y)) Tryd.underlying25 (by kernel_rfl)) rfl (ReadA.yes HP.out.1 HP.out.2 ?_ (HB.out.2.2.six (Nat.le_refl _) (.int .i64 (p.k : Int)) (.int .i64 p.a) (.int .i64 p.b) (.int .i64 p.c) (.int .i64 p.n) (.complex .f64 p.x p.y)))
      intro g hg
      obtain ⟨e1, e2⟩ := HF.out g hg
      refine ⟨e1, ?_⟩
      simpa using e2
end Go.Proofs.YtfknonhkpilbfaaDoor
