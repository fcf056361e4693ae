/-
  A memory, a shade and a row of truth values of the law's own, side by side.
-/
import Derived.Test.YtpdclckgnajcdaaGreatMo16
import Derived.Test.YtpdclckgnajcdaaGreatOvr16
namespace Go.Proofs.YtpdclckgnajcdaaGreat
open Go.RowKit

def bv (W : Nat → Bool) (i : Nat) : Value := .bool (W i)
theorem row_out {w u : World} {b tb g pb mb m : Nat} {v : Value} {S : ShS} (h : ShC u w.heap.size b tb g pb v S) {f : Nat → Value} (r : u.rowIs mb 4 m f) : mb ∉ ShF b tb g pb v := fun q => by
  simp only [ShF, List.mem_cons] at q
  rcases q with rfl | rfl | rfl | rfl | q
  · exact h.head.ne r (by decide) rfl
  · exact h.tab.head.ne r (by decide) rfl
  · obtain ⟨c1, h1, _⟩ := h.tab.row
    obtain ⟨c2, h2, _⟩ := r
    rw [h1] at h2
    simp at h2
  · exact h.pile.head.ne r (by decide) rfl
  · exact lst_ne_row h.pile.lst r (by decide) (by simpa using q)
theorem row_mem {u : World} {b M n q mb m : Nat} {F : Nat → Cx} (h : Mm u b M n F q) {f : Nat → Value} (r : u.rowIs mb 4 m f) : mb ≠ b := fun e => by
  subst e
  obtain ⟨c1, h1, _⟩ := h.row
  obtain ⟨c2, h2, _⟩ := r
  rw [h1] at h2
  simp at h2
structure Mw (w u : World) (b M n sb tb : Nat) (F : Nat → Cx) (q : Nat) (S : ShS) (wb m : Nat) (W : Nat → Bool) : Prop where
  mo : Mo w u b M n sb tb F q S
  row : u.rowIs wb 4 m (bv W)
  nM : wb ≠ M
  lo : w.heap.size ≤ wb

section
variable {w u u' : World} {b M n sb tb q wb m : Nat} {F G : Nat → Cx} {S : ShS} {W : Nat → Bool}
theorem Mw.still (h : Mw w u b M n sb tb F q S wb m W) (k : Kept u u') : Mw w u' b M n sb tb F q S wb m W := ⟨h.mo.still k, k.row h.row, h.nM, h.lo⟩
theorem Mw.put (h : Mw w u b M n sb tb F q S wb m W) (i : Nat) {W' : Nat → Bool} (he : ∀ j, j < m → (if j = i then true else W j) = W' j) : Mw w (u.setCell ⟨wb, i, none⟩ (.bool true)) b M n sb tb F q S wb m W' := by
  have mu : Mut [wb] u (u.setCell ⟨wb, i, none⟩ (.bool true)) := (Mut.refl _ _).setCell (by simp) _
  have hb := row_mem h.mo.mm h.row
  have hM := h.nM
  obtain ⟨g, pb, v, t, d⟩ := h.mo.sh
  refine ⟨⟨h.mo.kept.muts mu (by simp; exact h.lo), h.mo.mm.muts mu (by simp; exact fun e => hb e.symm) (by simp; exact fun e => hM e.symm), h.mo.lm, h.mo.lb, g, pb, v, t.muts mu (fun k hk r => ?_), d⟩, (h.row.set i _).congr fun j hj => ?_, h.nM, h.lo⟩
  · simp at r
    subst r
    exact row_out t h.row hk
  · have e := he j hj
    by_cases q : j = i
    · rw [if_pos q] at e
      simp only [if_pos q, bv, ← e]
    · rw [if_neg q] at e
      simp only [if_neg q, bv, ← e]
theorem mw_table (h : Mw w u b M n sb tb F q S wb m W) : Calls Tryz.prog 14 #[.pointer (some ⟨sb, 0, none⟩)] u fun e w' => e = .returned (.pointer (some ⟨tb, 0, none⟩)) ∧ w' = u := mo_table h.mo
theorem mw_head (i : Int) (h : Mw w u b M n sb tb F q S wb m W) : Calls Tryz.prog 19 #[.pointer (some ⟨tb, 0, none⟩), .int .i64 i] u fun e w' => e = .returned (.bool (hdd S.n S.T i)) ∧ w' = u := mo_head i h.mo
theorem mw_set (i st : Int) (p s : Bool) (h : Mw w u b M n sb tb F q S wb m W) : Calls Tryz.prog 16 #[.pointer (some ⟨tb, 0, none⟩), .int .i64 i, .int .i64 st, .bool p, .bool s] u fun e w' => e = .returned (.bool (inn S.n i && isSt st)) ∧ Mw w w' b M n sb tb F q (S.set i st p s) wb m W := by
  obtain ⟨g, pb, v, t, d⟩ := h.mo.sh
  refine (set_any i st p s u t.tab).mono fun _ w' ⟨he, t2, mu⟩ => ⟨he, ⟨h.mo.kept.muts mu (fun k hk => by simp at hk; subst hk; exact t.log), h.mo.mm.muts mu (fun r => ?_) (fun r => ?_), h.mo.lm, h.mo.lb, g, pb, v, t.tabs t2 mu, d⟩, mu.row h.row (fun r => ?_), h.nM, h.lo⟩
  · simp at r
    exact (d g (by simp [ShF])).1 r.symm
  · simp at r
    exact (d g (by simp [ShF])).2 r.symm
  · simp at r
    exact row_out t h.row (by simp [ShF, r])
theorem mw_write (a : Nat) (z : Cx) (h : Mw w u b M n sb tb F q S wb m W) (ha : a < n) (hq : q ≤ 1000000) (he : ∀ j, j < n → (if j = a then z else F j) = G j) :
    Calls Tryz.prog 15 #[.pointer (some ⟨M, 0, none⟩), .int .i64 a, .complex .f64 z.re z.im] u fun e w' => e = .returned (.int .i64 0) ∧ Mw w w' b M n sb tb G (q + 1) S wb m W :=
  (mem_write a z u h.mo.mm ha hq he).mono fun _ _ ⟨h1, h2, h3⟩ => ⟨h1, h.mo.wr h2 h3, h3.row h.row (by have := row_mem h.mo.mm h.row; have := h.nM; simp; exact ⟨h.nM, row_mem h.mo.mm h.row⟩), h.nM, h.lo⟩
/-- A run begins; the row stays as it is. -/
theorem mw_run {E : En} {x : Th} {sen : Bool} {J : Nat → Nat → ShS → Prop} {p c0 : Nat} (h : Mw w u b M n sb tb F q S wb m W) (ht : TS u' p E x.R (td0 (x.L 0) sen)) (hp : u.heap.size ≤ p) (hK : Kept u u') (hc : S.c ≤ c0) (hJ : J 0 0 S) : Run ⟨w, fun k => if k = wb then u.heap[wb]? else none⟩ p b M n sb tb F E x sen J q c0 0 u' := by
  obtain ⟨g, pb, v, t, d⟩ := h.mo.sh
  refine run_begin (w0 := ⟨w, fun k => if k = wb then u.heap[wb]? else none⟩) h.mo.kept h.mo.mm h.mo.lm t (fun k hk => ⟨(d k hk).1, (d k hk).2, ?_⟩) (fun k o hk => ?_) ht hp hK hc hJ
  · show (if k = wb then u.heap[wb]? else none) = none
    rw [if_neg]
    rintro rfl
    exact row_out t h.row hk
  · simp only at hk
    split at hk
    · rename_i e
      subst e
      exact ⟨hk, h.nM⟩
    · cases hk
theorem run_row {E : En} {x : Th} {sen : Bool} {J : Nat → Nat → ShS → Prop} {p c0 t : Nat} {v : World} (h : Mw w u b M n sb tb F q S wb m W) (hr : Run ⟨w, fun k => if k = wb then u.heap[wb]? else none⟩ p b M n sb tb F E x sen J q c0 t v) : v.rowIs wb 4 m (bv W) := by
  obtain ⟨c, hc, h2⟩ := h.row
  exact h.row.of_block ((run_ex hr (k := wb) (by show (if wb = wb then u.heap[wb]? else none) = _; rw [if_pos rfl]; exact hc)).trans hc.symm)
end

theorem run_make_bools (n : Nat) (h : n ≤ 1024) (w : World) :
    (Instr.makeSlice 27 (.int .i64 (n : Int)) (.int .i64 (n : Int))).run Tryz.prog w = .ok (.slice (some ⟨w.heap.size, 0, none⟩) n n) (w.alloc (.cells (madeCells #[.bool false] n) 4)) := by
  obtain ⟨i, hi, hz, hs, hb⟩ := info_parts info_bool
  have hr := run_make (P := Tryz.prog) w 27 4 i _ Tryz.underlying27 hi hz .i64 .i64 n n (by omega) (Int.le_refl _) (by rw [hb]; omega) (by omega)
  simp only [Int.toNat_natCast, hs, Nat.mul_one] at hr
  exact hr
theorem row_made_bools (w : World) (n : Nat) : (w.alloc (.cells (madeCells #[.bool false] n) 4)).rowIs w.heap.size 4 n (bv fun _ => false) := by
  have h := World.rowIs_alloc w (madeCells #[.bool false] n) 4 (bv fun _ => false) (fun i hi => by
    rw [size_madeCells] at hi
    have e : i % 1 = 0 := by omega
    simp [madeCells, hi, bv, e])
  rwa [size_madeCells] at h
/-- A row of the law's own, laid beside the others. -/
theorem mw_new {w u : World} {b M n sb tb q : Nat} {F : Nat → Cx} {S : ShS} (h : Mo w u b M n sb tb F q S) (m : Nat) : Mw w (u.alloc (.cells (madeCells #[.bool false] m) 4)) b M n sb tb F q S u.heap.size m (fun _ => false) :=
  ⟨h.still ((Kept.refl u).alloc _ _), row_made_bools u m, by have := h.mm.hd.lt; omega, h.kept.size⟩
theorem setT_at {n : Nat} {T : Nat → Fr} {k : Nat} (hk : k < n) (h c : Bool) (j : Nat) : setT n T (k : Int) 2 h c j = if j = k then ⟨2, h, c⟩ else T j := by
  unfold setT
  rw [inn_of hk, show isSt 2 = true by decide]
  simp
theorem ovr_end {G : Nat → Cx} {ad : Nat → Nat} {V : Nat → Option Int} {t : Nat} : ∀ {K : Nat}, t ≤ K → (∀ s, t ≤ s → s < K → V s = none) → ovr G ad V K = ovr G ad V t
  | 0, h, _ => by
    obtain rfl : t = 0 := by omega
    rfl
  | K + 1, h, hv => by
    by_cases e : t = K + 1
    · rw [e]
    · rw [ovr_none (hv K (by omega) (by omega))]
      exact ovr_end (by omega) fun s h1 h2 => hv s h1 (by omega)
/-! What is so of the fragments. -/
section
variable {n : Nat} {T : Nat → Fr}
theorem markT_at (hT : ∀ i, i < n → (T i).s = 2) {a : Int} (ha : 0 ≤ a ∧ a < n) (i : Nat) (hi : i < n) : (markT n T a true i).s = 2 ∧ (markT n T a true i).h = (T i).h ∧ ((markT n T a true i).c = true ↔ (T i).c = true ∨ (i : Int) = a) := by
  obtain ⟨k, rfl⟩ : ∃ k : Nat, a = k := ⟨a.toNat, by omega⟩
  have hk : k < n := by omega
  unfold markT markB usd
  rw [inn_of hk]
  simp only [Int.toNat_natCast, hT k hk, Bool.true_and]
  cases hc : (T k).c
  · simp only [show ((2 : Int) == 2) = true by decide, Bool.true_and]
    by_cases e : i = k
    · subst e
      simp [hT i hi]
    · simp [e, hT i hi]
      omega
  · simp only [show ((2 : Int) == 2) = true by decide, Bool.true_and]
    by_cases e : i = k
    · subst e
      simp [hT i hi, hc]
    · simp [hT i hi]
      omega
end
/-- The shade of TraceAll. -/
def JA (x : Th) (n0 : Nat) (Tl : Int → Prop) (j s : Nat) (S : ShS) : Prop :=
  S.n = n0 ∧ ∀ i, i < n0 → (S.T i).s = 2 ∧ ((S.T i).h = true ↔ ¬ Tl i) ∧ ((S.T i).c = true ↔ (∃ j', 1 ≤ j' ∧ j' ≤ j ∧ x.L j' = (i : Int)) ∨ (¬ Tl i ∧ ∃ s', s' < s ∧ x.V s' = some (i : Int)))
theorem jokA {x : Th} {n0 : Nat} {Tl : Int → Prop} (hf : ∀ j, j < x.l → 0 ≤ x.L j ∧ x.L j < n0) (hV : ∀ s i, x.V s = some i → x.ref s = true ∧ 0 ≤ i ∧ i < n0) : Jok x true (JA x n0 Tl) := by
  refine ⟨fun j s S h1 h2 ⟨hn, h⟩ => ⟨hn, fun i hi => ?_⟩, fun j s S a hs hr hv ⟨hn, h⟩ => ?_, fun j s S hs hv ⟨hn, h⟩ => ⟨hn, fun i hi => ?_⟩⟩
  · obtain ⟨a1, a2, a3⟩ := h i hi
    have m := markT_at (n := n0) (T := S.T) (fun i hi => (h i hi).1) (hf j h2) i hi
    have e : (S.tick.mark (x.L j) true).T = markT n0 S.T (x.L j) true := by rw [← hn]; rfl
    rw [e]
    refine ⟨m.1, by rw [m.2.1]; exact a2, by
      rw [m.2.2, a3]
      constructor
      · rintro ((⟨j', b1, b2, b3⟩ | q) | q)
        · exact .inl ⟨j', b1, by omega, b3⟩
        · exact .inr q
        · exact .inl ⟨j, h1, Nat.le_refl _, q.symm⟩
      · rintro (⟨j', b1, b2, b3⟩ | q)
        · by_cases e2 : j' = j
          · subst e2; exact .inr b3.symm
          · exact .inl (.inl ⟨j', b1, by omega, b3⟩)
        · exact .inl (.inr q)⟩
  · obtain ⟨_, v1, v2⟩ := hV s a hv
    have hh : hdd S.n S.T a = (S.T a.toNat).h := by
      unfold hdd
      rw [hn]
      have : inn n0 a = true := by simp [inn]; omega
      rw [this, Bool.true_and]
    have htk : ∀ i, i < n0 → (S.tick.T i).s = 2 := fun i hi => (h i hi).1
    by_cases hg : greyB S.tick a true = true
    · have hT : (greyS S a true).T = markT n0 S.T a true := by unfold greyS layS; rw [if_pos hg, ← hn]; rfl
      have hN : (greyS S a true).n = n0 := by unfold greyS layS; rw [if_pos hg, ← hn]; rfl
      refine ⟨hN, fun i hi => ?_⟩
      obtain ⟨a1, a2, a3⟩ := h i hi
      have m := markT_at (n := n0) (T := S.T) (fun i hi => (h i hi).1) ⟨v1, v2⟩ i hi
      rw [hT]
      have hd : (S.T a.toNat).h = true := by
        have := hg
        simp only [greyB, Bool.and_eq_true] at this
        rw [← hh]
        exact this.1
      have hta : ¬ Tl a := by
        have := ((h a.toNat (by omega)).2.1).1 hd
        rwa [show ((a.toNat : Nat) : Int) = a by omega] at this
      refine ⟨m.1, by rw [m.2.1]; exact a2, by
        rw [m.2.2, a3]
        constructor
        · rintro ((q | ⟨q1, s', q2, q3⟩) | q)
          · exact .inl q
          · exact .inr ⟨q1, s', by omega, q3⟩
          · exact .inr ⟨by rw [q]; exact hta, s, by omega, by rw [q]; exact hv⟩
        · rintro (q | ⟨q1, s', q2, q3⟩)
          · exact .inl (.inl q)
          · by_cases e2 : s' = s
            · subst e2
              rw [hv] at q3
              exact .inr (by simpa using q3.symm)
            · exact .inl (.inr ⟨q1, s', by omega, q3⟩)⟩
    · have hT : (greyS S a true).T = S.T := by unfold greyS layS; rw [if_neg hg]; rfl
      have hN : (greyS S a true).n = n0 := by unfold greyS layS; rw [if_neg hg]; exact hn
      refine ⟨hN, fun i hi => ?_⟩
      obtain ⟨a1, a2, a3⟩ := h i hi
      rw [hT]
      refine ⟨a1, a2, by
        rw [a3]
        constructor
        · rintro (q | ⟨q1, s', q2, q3⟩)
          · exact .inl q
          · exact .inr ⟨q1, s', by omega, q3⟩
        · rintro (q | ⟨q1, s', q2, q3⟩)
          · exact .inl q
          · by_cases e2 : s' = s
            · subst e2
              rw [hv] at q3
              have e3 : a = (i : Int) := by simpa using q3
              subst e3
              have hd : (S.T i).h = true := a2.2 q1
              have hc : (S.T i).c = true := by
                cases hc : (S.T i).c
                · refine absurd ?_ hg
                  have e4 : inn n0 (i : Int) = true := inn_of hi
                  simp only [greyB, ShS.tick, hn, hdd, markB, usd, e4, Int.toNat_natCast, hd, hc, a1, Bool.true_and]
                  decide
                · rfl
              exact a3.1 hc
            · exact .inr ⟨q1, s', by omega, q3⟩⟩
  · obtain ⟨a1, a2, a3⟩ := h i hi
    refine ⟨a1, a2, by
      rw [a3]
      constructor
      · rintro (q | ⟨q1, s', q2, q3⟩)
        · exact .inl q
        · exact .inr ⟨q1, s', by omega, q3⟩
      · rintro (q | ⟨q1, s', q2, q3⟩)
        · exact .inl q
        · by_cases e2 : s' = s
          · subst e2
            have := hv (hV s' i q3).1
            rw [this] at q3
            cases q3
          · exact .inr ⟨q1, s', by omega, q3⟩⟩
/-- At the end of TraceAll. -/
theorem fin_eq {x : Th} {n0 K : Nat} {Tl : Int → Prop} {S : ShS} {W : Nat → Bool} (hT : ∀ i : Int, Tl i ↔ ∃ j, 1 ≤ j ∧ j ≤ x.l - 1 ∧ x.L j = i) (hJ : JA x n0 Tl (x.l - 1) K S) (hW : ∀ i, i < n0 → (W i = true ↔ Tl i ∨ ∃ s, s < K ∧ x.V s = some (i : Int))) (i : Nat) (hi : i < n0) : blk S.n S.T (i : Int) true = W i := by
  obtain ⟨hn, h⟩ := hJ
  obtain ⟨a1, a2, a3⟩ := h i hi
  have e : blk S.n S.T (i : Int) true = (S.T i).c := by
    unfold blk usd
    rw [hn, inn_of hi]
    simp only [Int.toNat_natCast, a1]
    cases (S.T i).c <;> rfl
  rw [e]
  have h2 := hW i hi
  by_cases ht : Tl (i : Int)
  · have c1 : (S.T i).c = true := a3.2 (.inl ((hT i).1 ht))
    have c2 : W i = true := h2.2 (.inl ht)
    rw [c1, c2]
  · by_cases hs : ∃ s, s < K ∧ x.V s = some (i : Int)
    · have c1 : (S.T i).c = true := a3.2 (.inr ⟨ht, hs⟩)
      have c2 : W i = true := h2.2 (.inr hs)
      rw [c1, c2]
    · have c1 : (S.T i).c = false := by
        cases hc : (S.T i).c
        · rfl
        · rcases a3.1 hc with q | q
          · exact absurd ((hT i).2 q) ht
          · exact absurd q.2 hs
      have c2 : W i = false := by
        cases hc : W i
        · rfl
        · rcases h2.1 hc with q | q
          · exact absurd q ht
          · exact absurd q hs
      rw [c1, c2]

end Go.Proofs.YtpdclckgnajcdaaGreat
