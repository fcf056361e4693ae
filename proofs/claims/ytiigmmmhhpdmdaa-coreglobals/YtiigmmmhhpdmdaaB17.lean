/-
  The modules Back21, CorB22, CorC22, Elems, one behind another.
-/
import Derived.Deep.Slices
import Derived.Test.YtiigmmmhhpdmdaaB01
import Derived.Test.YtiigmmmhhpdmdaaB09
import Derived.Test.YtiigmmmhhpdmdaaB16
/-
  As Mix and Ghost21, for regions that hold edges which don't bind where the order is drawn.
-/
namespace Go.Proofs.Ytiigmmmhhpdmdaa
open Go.RowKit

/-- Each operation waits for earlier ones alone, as far as edges bind. -/
def backC (ops : Array Oper) : Bool := (List.range ops.size).all fun i => match ops[i]? with
  | some o => o.after.all fun e => !Region.binds .any e || decide (e.on < i)
  | none => false

theorem backC_spec {ops : Array Oper} (h : backC ops = true) {i : Nat} {o : Oper} (ho : ops[i]? = some o) {e : Edge} (he : e ∈ o.after) (hb : Region.binds .any e = true) : e.on < i := by
  have hi : i < ops.size := (Array.getElem?_eq_some_iff.1 ho).1
  have h1 := List.all_eq_true.1 h i (List.mem_range.2 hi)
  simp only [ho] at h1
  have h2 := Array.all_eq_true'.1 h1 e he
  simpa [hb] using h2

theorem listed_of_readyC {ops : Array Oper} (hb : backC ops = true) {listed : Array Bool} (hs : listed.size = ops.size) (hr : Region.ready .any ops listed = []) : ∀ n i, i < n → i < ops.size → listed.getD i false = true := by
  intro n
  induction n with
  | zero => intro i hi; omega
  | succ n ih =>
    intro i hi hio
    by_cases hin : i < n
    · exact ih i hin hio
    · obtain rfl : i = n := by omega
      cases hl : listed.getD i false with
      | true => rfl
      | false =>
        have hu : listed.getD i true = false := by
          have : i < listed.size := by omega
          simp [this] at hl ⊢
          exact hl
        have : i ∈ Region.ready .any ops listed := mem_ready.2 ⟨hu, _, Array.getElem?_eq_getElem hio, fun e he hq => ih e.on (backC_spec hb (Array.getElem?_eq_getElem hio) he hq) (by have := backC_spec hb (Array.getElem?_eq_getElem hio) he hq; omega)⟩
        rw [hr] at this
        cases this

theorem wpAny_mixC {P : Program} {l : List Oper} {Q : Exit → Act → World → Prop} {a0 : Act} {J : (Nat → Bool) → List Value → World → Prop} (hb : backC l.toArray = true) (hn : slotsB a0.tmps.size l = true)
    (step : ∀ i o, l[i]? = some o → ∀ a d vals u, vals.length = l.length → Held a0 a l d vals → J d vals u → d i = false → (∀ e ∈ o.after, Region.binds .any e = true → d e.on = true) →
      wpOp P l.toArray Q i (fun a' w' => ∃ v, a' = a.put o.dst v ∧ J (done d i) (vals.set i v) w') a u)
    (fin : ∀ a u d vals, vals.length = l.length → (∀ i, i < l.length → d i = true) → Held a0 a l d vals → J d vals u → Q .normal a u) :
    ∀ (fuel : Nat) (listed : Array Bool) (a : Act) (u : World) (d : Nat → Bool) (vals : List Value), vals.length = l.length → listed.size = l.length → listed.toList.countP (fun b => !b) ≤ fuel → (∀ i, i < l.length → d i = listed.getD i false) → Held a0 a l d vals → J d vals u →
      wpAny P .any l.toArray Q fuel listed a u := by
  intro fuel
  induction fuel with
  | zero =>
    intro listed a u d vals hv hs hc hd hh hj
    have hall : ∀ i, i < l.length → listed.getD i false = true := fun i hi => by
      have h0 : listed.toList.countP (fun b => !b) = 0 := by omega
      have hi' : i < listed.size := by omega
      have := List.countP_eq_zero.1 h0 listed[i] (by simp)
      simpa [hi'] using this
    refine ⟨?_, fin a u d vals hv (fun i hi => (hd i hi).trans (hall i hi)) hh hj⟩
    apply List.eq_nil_iff_forall_not_mem.2
    intro j hj'
    obtain ⟨h1, o, ho, _⟩ := mem_ready.1 hj'
    have hjo : j < l.length := by simpa using (Array.getElem?_eq_some_iff.1 ho).1
    have h2 := hall j hjo
    have hj'' : j < listed.size := by omega
    simp [hj''] at h1 h2
    rw [h1] at h2
    cases h2
  | succ fuel ih =>
    intro listed a u d vals hv hs hc hd hh hj
    refine ⟨fun hr => fin a u d vals hv (fun i hi => (hd i hi).trans (listed_of_readyC hb (by simpa using hs) hr l.length i hi (by simpa using hi))) hh hj, fun i hi => ?_⟩
    obtain ⟨h1, o, ho, hdep⟩ := mem_ready.1 hi
    have ho' : l[i]? = some o := by simpa using ho
    have hio : i < l.length := by simpa using (Array.getElem?_eq_some_iff.1 ho).1
    have hil : i < listed.size := by omega
    have hf : d i = false := by
      rw [hd i hio]
      simpa [hil] using h1
    refine wpOp_mono ?_ (step i o ho' a d vals u hv hh hj hf fun e he hbn => ?_)
    · rintro a' w' ⟨v, rfl, hj'⟩
      have hh2 : Held a0 a l d (vals.set i v) := hh.congr fun j hdj => by
        have hne : i ≠ j := fun q => by subst q; rw [hf] at hdj; cases hdj
        rw [getD_set_ne hne]
      have hh3 := hh2.put hn ho'
      rw [getD_set_self (by omega)] at hh3
      refine ih (listed.setIfInBounds i true) _ w' (done d i) (vals.set i v) (by simpa using hv) (by simpa using hs) ?_ (fun j hjl => ?_) hh3 hj'
      · have hfalse : listed[i] = false := by simpa [hil] using h1
        rw [Array.toList_setIfInBounds, List.countP_set (by simpa using hil)]
        simp only [Array.countP_toList] at hc
        simp [hfalse]
        omega
      · by_cases e : j = i
        · subst e
          simp [done, hil]
        · simp only [done, e, if_false]
          rw [hd j hjl, Array.getD_eq_getD_getElem?, Array.getD_eq_getD_getElem?, Array.getElem?_setIfInBounds_ne (Ne.symm e)]
    · have h2 := hdep e he hbn
      have hlt := backC_spec hb ho he hbn
      rw [hd e.on (by omega)]
      exact h2

/-- 'vals': what is left, as far as it is known ahead (anything elsewhere). -/
theorem wp_region_mixC {P : Program} {id : Nat} {l : List Oper} {Q : Exit → Act → World → Prop} {a0 : Act} {w : World} (vals : List Value) (ps : List (Nat × Nat)) (J : (Nat → Bool) → List Value → World → Prop)
    (hm : P.follows .mixedOrders = true) (hb : backC l.toArray = true) (hn : slotsB a0.tmps.size l = true) (hp : pairsB l ps = true) (hv : vals.length = l.length) (h0 : J (fun _ => false) vals w.drew)
    (step : ∀ i o, l[i]? = some o → ∀ a d vals u, vals.length = l.length → Held a0 a l d vals → J d vals u → d i = false → (∀ e ∈ o.after, Region.binds .any e = true → d e.on = true) →
      wpOp P l.toArray Q i (fun a' w' => ∃ v, a' = a.put o.dst v ∧ J (done d i) (vals.set i v) w') a u)
    (fin : ∀ u d vals, vals.length = l.length → (∀ i, i < l.length → d i = true) → J d vals u → Q .normal ⟨(patch vals ps 0 a0.tmps.toList).toArray, a0.defers⟩ u) :
    (Code.region id l.toArray true).wp P Q a0 w := by
  refine wp_region_any hm (wpAny_mixC (J := J) hb hn step (fun a u d vals hv hall hh hj => ?_) _ _ a0 _ (fun _ => false) vals hv (by simp) ?_ (fun i hi => by simp [hi]) ⟨rfl, rfl, (fun i o s _ _ h => absurd h (by simp)), fun _ _ => rfl⟩ h0)
  · rw [hh.patched ps hp hall]
    exact fin u d vals hv hall hj
  · exact Nat.le_trans List.countP_le_length (by simp)

theorem wp_region_ghostC {P : Program} {id : Nat} {l : List Oper} {Q : Exit → Act → World → Prop} {a0 : Act} {w : World} {G : Type} (K : G → List Value) (ps : List (Nat × Nat)) (J : G → (Nat → Bool) → World → Prop)
    (hm : P.follows .mixedOrders = true) (hb : backC l.toArray = true) (hn : slotsB a0.tmps.size l = true) (hp : pairsB l ps = true) (hv : ∀ g, (K g).length = l.length) (h0 : ∃ g, J g (fun _ => false) w.drew)
    (step : ∀ i o, l[i]? = some o → ∀ g a d u, Held a0 a l d (K g) → J g d u → d i = false → (∀ e ∈ o.after, Region.binds .any e = true → d e.on = true) → Cl l d →
      wpOp P l.toArray Q i (fun a' w' => ∃ g', (∀ j, d j = true → (K g').getD j undef = (K g).getD j undef) ∧ a' = a.put o.dst ((K g').getD i undef) ∧ J g' (done d i) w') a u)
    (fin : ∀ g u d, (∀ i, i < l.length → d i = true) → J g d u → Q .normal ⟨(patch (K g) ps 0 a0.tmps.toList).toArray, a0.defers⟩ u) :
    (Code.region id l.toArray true).wp P Q a0 w := by
  obtain ⟨g0, h0⟩ := h0
  refine wp_region_mixC (K g0) ps (fun d vals u => Cl l d ∧ ∃ g, (∀ j, d j = true → vals.getD j undef = (K g).getD j undef) ∧ J g d u) hm hb hn hp (hv g0) ⟨fun i o _ h => absurd h (by simp), g0, fun _ _ => rfl, h0⟩ ?_ ?_
  · rintro i o ho a d vals u hvl hh ⟨hc, g, hk, hj⟩ hi hd
    refine wpOp_mono (fun a' w' h => ?_) (step i o ho g a d u (hh.congr hk) hj hi hd hc)
    obtain ⟨g', e1, e2, e3⟩ := h
    have hil : i < vals.length := by rw [hvl]; exact (List.getElem?_eq_some_iff.1 ho).1
    refine ⟨_, e2, hc.step ho hd, g', fun j hj => ?_, e3⟩
    by_cases q : i = j
    · subst q
      rw [getD_set_self hil]
    · rw [getD_set_ne q, e1 j (by simpa [done, Ne.symm q] using hj), hk j (by simpa [done, Ne.symm q] using hj)]
  · rintro u d vals hvl hall ⟨hc, g, hk, hj⟩
    have e : patch vals ps 0 a0.tmps.toList = patch (K g) ps 0 a0.tmps.toList := patch_congr (fun j => by
      by_cases q : j < l.length
      · exact hk j (hall j q)
      · have q1 : vals[j]? = none := List.getElem?_eq_none (by omega)
        have q2 : (K g)[j]? = none := List.getElem?_eq_none (by rw [hv]; omega)
        rw [List.getD_eq_getElem?_getD, List.getD_eq_getElem?_getD, q1, q2]) _ _ _
    rw [e]
    exact fin g u d hall hj
end Go.Proofs.Ytiigmmmhhpdmdaa

/-
  Contract of package core's New.
-/
namespace Go.Proofs.Ytiigmmmhhpdmdaa
open Go.RowKit

/-- What is there behind space's New. -/
def QS (w4 u : World) (tb tg n s th ch : Nat) (n7 : Int) (b : Nat) : Prop := ∃ A c', A.b = b ∧ SH u c' A (Sp.new n s th ch) ∧ A.tb = tb ∧ A.tg = tg ∧ A.C.n7 = n7 ∧ (∀ k, c' k ≠ 0 → k = tb ∨ k = tg ∨ w4.heap.size ≤ k) ∧ Mut [tg] w4 u

/-- The colours of a new core. -/
def dol (kb mw mh sb pb : Nat) (v : Value) (hb hg k : Nat) : Nat := if k = kb then 4 else if k = mw ∨ k = mh then 1 else if k = sb ∨ k = pb ∨ v.ownBlock = some k then 2 else if k = hb ∨ k = hg then 3 else 0

theorem core_made {w w2 w3 w4 u w6 w7 : World} {c5 : Nat → Nat} {mw mh sb pb hb hg cg l : Nat} {v : Value} {A : Ad} {S T : Nat → Sh} {R : Nat → Nat → Bool} (N n s g th ch most : Nat) (n4 n7 : Int)
    (m1 : Mm w3 mw mh N (fwk (8 * n + 2 * s) g) 0) (m2 : Kept w w3) (m3 : w2.heap.size ≤ mw) (m4 : w2.heap.size ≤ mh) (m5 : w.heap.size < w2.heap.size)
    (p2 : ShC w4 0 sb A.tb A.tg pb v (ShS.new n most)) (p3 : Kept w3 w4) (p5 : ∀ k, k ∈ ShF sb A.tb A.tg pb v → w3.heap.size ≤ k)
    (q2 : SH u c5 A (Sp.new n s th ch)) (q6 : ∀ k, c5 k ≠ 0 → k = A.tb ∨ k = A.tg ∨ w4.heap.size ≤ k) (q7 : Mut [A.tg] w4 u)
    (r1 : HH w6 hb hg th (Hs.first th)) (r2 : u.heap.size ≤ hb) (r3 : u.heap.size ≤ hg) (r4 : Kept u w6) (t4 : Kept w6 w7) (q5 : A.C.n7 = n7)
    (t2 : w7.rowIs cg 72 (l * 2) (cf T)) (t3 : ∀ i, i < l → Cop w7 cg (S i) (T i) (R i)) {cs : Array Value}
    (hcs : cs = (Ak.cells ⟨w7.heap.size, ⟨n, s, g, th, n4, ch, most, n7, some ⟨cg, 0, none⟩, l, l, T⟩, mw, mh, sb, pb, v, hb, hg, th, A⟩).toArray := by rfl) :
    ∃ B c' d' cg T, Ending.returned (.tuple #[.pointer (some ⟨w7.heap.size, 0, none⟩), .int .i64 0]) = .returned (.tuple #[.pointer (some ⟨B.kb, 0, none⟩), .int .i64 0]) ∧ KM w (w7.alloc (.cells cs 39)) c' d' B (Kv.new N (8 * n + 2 * s) n s g most th ch) ∧ B.A.C.n7 = n7 ∧
      B.C = ⟨n, s, g, th, n4, ch, most, n7, some ⟨cg, 0, none⟩, l, l, T⟩ ∧ (w7.alloc (.cells cs 39)).rowIs cg 72 (l * 2) (cf T) ∧ (∀ i, i < l → Cop (w7.alloc (.cells cs 39)) cg (S i) (T i) (R i)) := by
  subst hcs
  have z3 := m2.size
  have z4 := p3.size
  have z5 := q7.size
  have z6 := r4.size
  have z7 := t4.size
  have a1 : mw < w3.heap.size := m1.row.lt
  have a2 : mh < w3.heap.size := m1.hd.lt
  have own := p2.own
  have a3 := p5 sb (by simp [ShF])
  have a4 := p5 pb (by simp [ShF])
  have a5 := p5 A.tb (by simp [ShF])
  have a6 := p5 A.tg (by simp [ShF])
  have a7 : ∀ k, v.ownBlock = some k → w3.heap.size ≤ k ∧ k < w4.heap.size := fun k hk => ⟨p5 k (by simp [ShF, hk]), (own k (by simp [ShF, hk])).2⟩
  have e3 := (own sb (by simp [ShF])).2
  have e4 := (own pb (by simp [ShF])).2
  have e5 := (own A.tb (by simp [ShF])).2
  have e6 := (own A.tg (by simp [ShF])).2
  have e7 : hb < w6.heap.size := r1.head.lt
  have e8 : hg < w6.heap.size := r1.row.elim fun f hr => hr.1.lt
  have k8 : Kept w7 (w7.alloc (.cells (Ak.cells ⟨w7.heap.size, ⟨n, s, g, th, n4, ch, most, n7, some ⟨cg, 0, none⟩, l, l, T⟩, mw, mh, sb, pb, v, hb, hg, th, A⟩).toArray 39)) := (Kept.refl _).alloc _ _
  have k58 := (r4.trans t4).trans k8
  have N1 : mw ≠ A.tg := by omega
  have N2 : mh ≠ A.tg := by omega
  have d4 : dol w7.heap.size mw mh sb pb v hb hg w7.heap.size = 4 := by simp [dol]
  have d1 : ∀ k, k = mw ∨ k = mh → dol w7.heap.size mw mh sb pb v hb hg k = 1 := fun k hk => by
    have : ¬ k = w7.heap.size := by omega
    simp only [dol, if_neg this, if_pos hk]
  have d2 : ∀ k, k = sb ∨ k = pb ∨ v.ownBlock = some k → dol w7.heap.size mw mh sb pb v hb hg k = 2 := fun k hk => by
    have hr : w3.heap.size ≤ k ∧ k < w4.heap.size := by
      rcases hk with q | q | q
      · omega
      · omega
      · exact a7 k q
    have h0 : ¬ k = w7.heap.size := by omega
    have h1 : ¬ (k = mw ∨ k = mh) := by omega
    simp only [dol, if_neg h0, if_neg h1, if_pos hk]
  have d3 : ∀ k, k = hb ∨ k = hg → dol w7.heap.size mw mh sb pb v hb hg k = 3 := fun k hk => by
    have h0 : ¬ k = w7.heap.size := by omega
    have h1 : ¬ (k = mw ∨ k = mh) := by omega
    have h2 : ¬ (k = sb ∨ k = pb ∨ v.ownBlock = some k) := fun q => by
      rcases q with q | q | q
      · omega
      · omega
      · have := a7 k q; omega
    simp only [dol, if_neg h0, if_neg h1, if_neg h2, if_pos hk]
  have sh8 := q2.kept k58
  have pl : ShC (w7.alloc (.cells (Ak.cells ⟨w7.heap.size, ⟨n, s, g, th, n4, ch, most, n7, some ⟨cg, 0, none⟩, l, l, T⟩, mw, mh, sb, pb, v, hb, hg, th, A⟩).toArray 39)) 0 sb A.tb A.tg pb v (ShS.new n most) :=
    (shc_muts (S' := ShS.new n most) p2 q2.tab q7 (by simpa using p2.nbg) (by simpa using p2.npg) (fun k hk q => by simp at q; subst q; exact p2.ngv hk) rfl rfl rfl rfl).kept k58
  refine ⟨⟨w7.heap.size, ⟨n, s, g, th, n4, ch, most, n7, some ⟨cg, 0, none⟩, l, l, T⟩, mw, mh, sb, pb, v, hb, hg, th, A⟩, c5, dol w7.heap.size mw mh sb pb v hb hg, cg, T, rfl, ⟨⟨Blk.new w7 _ _, ((m1.kept p3).muts q7 (by simpa using N1) (by simpa using N2)).kept k58, pl, r1.kept (t4.trans k8), sh8, d4, d1 _ (.inl rfl), d1 _ (.inr rfl), d2 _ (.inl rfl), d2 _ (.inr (.inl rfl)), fun k hk => d2 _ (.inr (.inr hk)), d3 _ (.inl rfl), d3 _ (.inr rfl), fun k hk => ?_⟩,
    ((m2.trans p3).muts q7 (fun k hk => by simp at hk; omega)).trans k58, fun k hk => ?_, fun k hk => ?_⟩, q5, rfl, k8.row t2, fun i hi => (t3 i hi).kept k8⟩
  · have hlow : ∀ j, c5 j ≠ 0 → j < u.heap.size := q2.low
    have hz : w7.heap.size < (w7.alloc (.cells (Ak.cells ⟨w7.heap.size, ⟨n, s, g, th, n4, ch, most, n7, some ⟨cg, 0, none⟩, l, l, T⟩, mw, mh, sb, pb, v, hb, hg, th, A⟩).toArray 39)).heap.size := by simp
    refine ⟨?_, ?_⟩
    · by_cases hc : c5 k = 0
      · exact hc
      · exfalso
        have f1 := hlow k hc
        have f2 := q6 k hc
        unfold dol at hk
        split at hk
        · omega
        · split at hk
          · omega
          · split at hk
            · rename_i q
              rcases q with q | q | q
              · have := p2.nbt; have := p2.nbg; omega
              · have := p2.ntp; have := p2.npg; omega
              · have g1 := a7 k q
                rcases f2 with f | f | f
                · exact p2.ntv (f ▸ q)
                · exact p2.ngv (f ▸ q)
                · omega
            · split at hk
              · omega
              · exact hk rfl
    · unfold dol at hk
      split at hk
      · omega
      · split at hk
        · omega
        · split at hk
          · rename_i q
            rcases q with q | q | q
            · omega
            · omega
            · have := a7 k q; omega
          · split at hk
            · omega
            · exact absurd rfl hk
  · have := q6 k hk
    omega
  · unfold dol at hk
    split at hk
    · omega
    · split at hk
      · omega
      · split at hk
        · rename_i q
          rcases q with q | q | q
          · omega
          · omega
          · have := a7 k q; omega
        · split at hk
          · omega
          · exact absurd rfl hk

set_option maxHeartbeats 4000000 in
theorem onew_any (n s g th ch most : Nat) (n4 n7 : Int) (x : Option Addr) (l c : Nat) (S : Nat → Sh) (R : Nat → Nat → Bool) (w : World) (hS : Shps w x l S) (hR : ∀ i, i < l → Refs w (S i).x (S i).l (R i)) (hg : Good n s g th n4 ch most n7 l S) (N : Nat) (hN : N = 8 * n + 2 * s + g) :
    Calls Try.prog 8 #[.agg #[.int .i64 (n : Int), .int .i64 (s : Int), .int .i64 (g : Int), .int .i64 (th : Int), .int .i64 n4, .int .i64 (ch : Int), .int .i64 (most : Int), .int .i64 n7, .slice x l c]] w fun e w' =>
      ∃ B c' d' cg T, e = .returned (.tuple #[.pointer (some ⟨B.kb, 0, none⟩), .int .i64 0]) ∧ KM w w' c' d' B (Kv.new N (8 * n + 2 * s) n s g most th ch) ∧ B.A.C.n7 = n7 ∧
        B.C = ⟨n, s, g, th, n4, ch, most, n7, some ⟨cg, 0, none⟩, l, l, T⟩ ∧ w'.rowIs cg 72 (l * 2) (cf T) ∧ (∀ i, i < l → Cop w' cg (S i) (T i) (R i)) := by
  obtain ⟨⟨g0, g1, g2, g6, g7, g3, g4, g5, g8⟩, ml, ml8, mi⟩ := id hg
  have HG : Hid (Good n s g th n4 ch most n7 l S) := hg
  have HS : Hid (Shps w x l S ∧ ∀ i, i < l → Refs w (S i).x (S i).l (R i)) := ⟨hS, hR⟩
  have HN : Hid (N = 8 * n + 2 * s + g ∧ N ≤ 1000000) := ⟨hN, by omega⟩
  have HB : Hid (n ≤ 1024 ∧ 1 ≤ (most : Int) ∧ (most : Int) ≤ 256 ∧ 1 ≤ (th : Int) ∧ (th : Int) ≤ 16 ∧ l ≤ 1000000 ∧ ∀ i, i < l → (S i).l ≤ 1000) := ⟨by omega, by omega, by omega, by omega, by omega, by omega, fun i hi => by
    have := mi i hi
    simp only [Sh.may] at this
    split at this
    · simp at this; omega
    · simp at this; omega⟩
  have C0 : Hid (∀ w, Shps w x l S → Calls Try.prog 24 #[.agg #[.int .i64 (n : Int), .int .i64 (s : Int), .int .i64 (g : Int), .int .i64 (th : Int), .int .i64 n4, .int .i64 (ch : Int), .int .i64 (most : Int), .int .i64 n7, .slice x l c]] w fun e w' => e = .returned (.int .i64 0) ∧ Kept w w') := fun w h => check_any n s g th n4 ch most n7 x l c S 0 w h (Checks.of_ok hg.1 hg.2)
  clear hS hR hg hN g0 g1 g2 g6 g7 g3 g4 g5 g8 ml ml8 mi
  go_enter Try.func8, Try.ntmps8
  go_wp2_with fail
  generalize hW0 : w.alloc _ = W0
  have B0 : Hid (Blk W0 w.heap.size (cl n s g th n4 ch most n7 (.slice x l c)) ∧ Kept w W0) := by
    rw [← hW0]
    exact ⟨Blk.new w _ _, (Kept.refl w).alloc _ _⟩
  clear hW0
  refine (C0.out _ (HS.out.1.kept B0.out.2)).mono ?_
  rintro e w1 ⟨rfl, k1⟩
  have B1 : Hid (Blk w1 w.heap.size (cl n s g th n4 ch most n7 (.slice x l c)) ∧ Kept w w1) := ⟨B0.out.1.kept k1, B0.out.2.trans k1⟩
  clear k1 B0 C0
  have b0 := (B1.out.1).at 0 rfl
  have b1 := (B1.out.1).at 1 rfl
  have b2 := (B1.out.1).at 2 rfl
  have b3 := (B1.out.1).at 3 rfl
  have b4 := (B1.out.1).at 4 rfl
  have b5 := (B1.out.1).at 5 rfl
  have b6 := (B1.out.1).at 6 rfl
  have b7 := (B1.out.1).at 7 rfl
  have b8 := (B1.out.1).at 8 rfl
  have CF := first_words n s g th n4 ch most n7 x l c S w1 (HS.out.1.kept B1.out.2) HG.out N HN.out.1
  go_wp2_with fail
  refine CF.mono ?_
  rintro e w2 ⟨fb, rfl, r2, o2, k2⟩
  have B2 : Hid (Blk w2 w.heap.size (cl n s g th n4 ch most n7 (.slice x l c)) ∧ Kept w w2 ∧ w.heap.size < w2.heap.size) := ⟨B1.out.1.kept k2, B1.out.2.trans k2, (B1.out.1.kept k2).lt⟩
  clear b0 b1 b2 b3 b4 b5 b6 b7 b8
  clear CF k2 o2 B1
  have CM := mem_from N fb (fwk (8 * n + 2 * s) g) w2 HN.out.2 r2
  go_wp2_with fail
  refine CM.mono ?_
  rintro e w3 ⟨mw, mh, rfl, mm, k3, o3, o3'⟩
  have HM : Hid (Mm w3 mw mh N (fwk (8 * n + 2 * s) g) 0 ∧ Kept w w3 ∧ w2.heap.size ≤ mw ∧ w2.heap.size ≤ mh ∧ w.heap.size < w2.heap.size) := ⟨mm, B2.out.2.1.trans k3, o3, o3', B2.out.2.2⟩
  have B3 : Hid (Blk w3 w.heap.size (cl n s g th n4 ch most n7 (.slice x l c))) := B2.out.1.kept k3
  clear CM mm k3 o3 o3' r2 B2
  have b0 := B3.out.at 0 rfl
  have b6 := B3.out.at 6 rfl
  have CD := dnew_any n most w3 HB.out.1 HB.out.2.1 HB.out.2.2.1 (Nat.zero_le _)
  go_wp2_with fail
  refine CD.mono ?_
  rintro e w4 ⟨sb, tb, tg, pb, v, rfl, s4, k4, o4⟩
  have H4 : Hid (Blk w4 w.heap.size (cl n s g th n4 ch most n7 (.slice x l c)) ∧ ShC w4 0 sb tb tg pb v (ShS.new n most) ∧ Kept w3 w4 ∧ True ∧ ∀ k, k ∈ ShF sb tb tg pb v → w3.heap.size ≤ k) := ⟨B3.out.kept k4, s4, k4, trivial, o4⟩
  clear b0 b6 CD s4 k4 o4 B3
  have CS : Hid (∀ u, Kept w4 u → _) := fun u hu => wnew_any n s th ch g n4 most n7 x l c S R tb tg T0 u (H4.out.2.1.tab.kept hu) (HS.out.1.kept ((HM.out.2.1.trans H4.out.2.2.1).trans hu)) (fun i hi => (HS.out.2 i hi).kept ((HM.out.2.1.trans H4.out.2.2.1).trans hu)) HG.out
  go_wp2
  refine wp_region_ghostC (G := Nat) (fun b => [(.agg #[.int .i64 (n : Int), .int .i64 (s : Int), .int .i64 (g : Int), .int .i64 (th : Int), .int .i64 n4, .int .i64 (ch : Int), .int .i64 (most : Int), .int .i64 n7, .slice x l c]), (.pointer (some ⟨sb, 0, none⟩)), (.pointer (some ⟨tb, 0, none⟩)), (.tuple #[.pointer (some ⟨b, 0, none⟩), .int .i64 0]), (.tuple #[.pointer (some ⟨b, 0, none⟩), .int .i64 0]), (.pointer (some ⟨b, 0, none⟩)), (.int .i64 0), (.pointer (some ⟨b, 0, none⟩)), (.int .i64 0)]) [(9, 7), (10, 8), (32, 4), (33, 0), (34, 1), (35, 2), (36, 3), (37, 5), (38, 6)] (fun b d u => JP 3 [] (fun u => Kept w4 u) (fun u => QS w4 u tb tg n s th ch n7 b) d u) (by kernel_rfl) (by kernel_rfl) (by kernel_rfl) (by kernel_rfl) (fun _ => rfl) ?_ ?_ ?_
  · exact ⟨0, JP.start (Kept.refl _).drew⟩
  · intro i1 o1 ho b a1 d u hh hj0 hi hd hc
    have hj : JP 3 [] (fun u => Kept w4 u) (fun u => QS w4 u tb tg n s th ch n7 b) d u := hj0
    clear hj0
    match i1, ho, hi, hd with
    | 0, ho, hi, hd =>
      simp only [List.getElem?_cons_zero, Option.some.injEq] at ho
      subst ho
      have g1 : a1.tmps[1]? = some (.pointer (some ⟨w.heap.size, 0, none⟩)) := hh.old 1 (by kernel_rfl) rfl
      have n3 : d 3 = false := by
        cases q : d 3 with
        | false => rfl
        | true => exact absurd (hc 3 _ rfl q { on := 0, ground := .data } (by simp) rfl) (by simp [hi])
      have h0 := hj.now n3
      have b0 := (H4.out.1.kept h0).at 0 rfl
      have b1 := (H4.out.1.kept h0).at 1 rfl
      have b2 := (H4.out.1.kept h0).at 2 rfl
      have b3 := (H4.out.1.kept h0).at 3 rfl
      have b4 := (H4.out.1.kept h0).at 4 rfl
      have b5 := (H4.out.1.kept h0).at 5 rfl
      have b6 := (H4.out.1.kept h0).at 6 rfl
      have b7 := (H4.out.1.kept h0).at 7 rfl
      have b8 := (H4.out.1.kept h0).at 8 rfl
      have HN : Hid (JP 3 [] (fun u => Kept w4 u) (fun u => QS w4 u tb tg n s th ch n7 b) (done d 0) u) := hj.plain 0 (by decide)
      clear hh hd hc hj hi
      refine wpOp_step rfl (fun K hK => ?_)
      go_simp
      exact hK _ _ ⟨b, fun _ _ => rfl, by simp [Act.put], HN.out⟩
    | 1, ho, hi, hd =>
      simp only [List.getElem?_cons_succ, List.getElem?_cons_zero, Option.some.injEq] at ho
      subst ho
      have g7 : a1.tmps[7]? = some (.pointer (some ⟨sb, 0, none⟩)) := hh.old 7 (by kernel_rfl) rfl
      have HN : Hid (JP 3 [] (fun u => Kept w4 u) (fun u => QS w4 u tb tg n s th ch n7 b) (done d 1) u) := hj.plain 1 (by decide)
      clear hh hd hc hj hi
      refine wpOp_step rfl (fun K hK => ?_)
      go_simp
      exact hK _ _ ⟨b, fun _ _ => rfl, by simp [Act.put], HN.out⟩
    | 2, ho, hi, hd =>
      simp only [List.getElem?_cons_succ, List.getElem?_cons_zero, Option.some.injEq] at ho
      subst ho
      have g34 : a1.tmps[34]? = some (.pointer (some ⟨sb, 0, none⟩)) := hh.did 1 _ 34 rfl rfl (hd { on := 1, ground := .data } (by simp) rfl)
      have n3 : d 3 = false := by
        cases q : d 3 with
        | false => rfl
        | true => exact absurd (hc 3 _ rfl q { on := 2, ground := .data } (by simp) rfl) (by simp [hi])
      have h0 := hj.now n3
      have C := dtable_any u (H4.out.2.1.kept h0)
      have HN : Hid (JP 3 [] (fun u => Kept w4 u) (fun u => QS w4 u tb tg n s th ch n7 b) (done d 2) u) := hj.plain 2 (by decide)
      clear hh hd hc hj hi h0
      refine wpOp_step rfl (fun K hK => ?_)
      go_simp
      refine C.mono ?_
      rintro e u2 ⟨rfl, e2⟩
      rw [e2]
      exact hK _ _ ⟨b, fun _ _ => rfl, by simp [Act.put], HN.out⟩
    | 3, ho, hi, hd =>
      simp only [List.getElem?_cons_succ, List.getElem?_cons_zero, Option.some.injEq] at ho
      subst ho
      have g33 : a1.tmps[33]? = some (.agg #[.int .i64 (n : Int), .int .i64 (s : Int), .int .i64 (g : Int), .int .i64 (th : Int), .int .i64 n4, .int .i64 (ch : Int), .int .i64 (most : Int), .int .i64 n7, .slice x l c]) := hh.did 0 _ 33 rfl rfl (hd { on := 0, ground := .data } (by simp) rfl)
      have g35 : a1.tmps[35]? = some (.pointer (some ⟨tb, 0, none⟩)) := hh.did 2 _ 35 rfl rfl (hd { on := 2, ground := .data } (by simp) rfl)
      have h0 := hj.now hi
      have C := CS.out u h0
      have HJ : Hid (Kept w4 u) := h0
      have HI : Hid (d 3 = false ∧ d 4 = false ∧ d 5 = false ∧ d 7 = false) := ⟨hi, by
        cases q : d 4 with
        | false => rfl
        | true => exact absurd (hc 4 _ rfl q { on := 3, ground := .data } (by simp) rfl) (by simp [hi]), by
        cases q : d 5 with
        | false => rfl
        | true => exact absurd (hc 4 _ rfl (hc 5 _ rfl q { on := 4, ground := .data } (by simp) rfl) { on := 3, ground := .data } (by simp) rfl) (by simp [hi]), by
        cases q : d 7 with
        | false => rfl
        | true => exact absurd (hc 7 _ rfl q { on := 3, ground := .chain } (by simp) rfl) (by simp [hi])⟩
      clear hh hd hc hj hi h0
      refine wpOp_step rfl (fun K hK => ?_)
      go_simp
      refine C.mono ?_
      rintro e u2 ⟨A, c', rfl, s2, e1, e2, e3, l2, m2⟩
      refine hK _ _ ⟨A.b, fun j hj => ?_, by simp [Act.put], JP.turn (fun r hr => absurd hr (by simp)) ⟨A, c', rfl, s2, e1, e2, e3, fun k hk => by
        rcases l2 k hk with q | q | q
        · exact .inl q
        · exact .inr (.inl q)
        · exact .inr (.inr (Nat.le_trans HJ.out.size q)), HJ.out.mut.trans m2⟩⟩
      have j3 : j ≠ 3 := fun q => by rw [q, HI.out.1] at hj; cases hj
      have j4 : j ≠ 4 := fun q => by rw [q, HI.out.2.1] at hj; cases hj
      have j5 : j ≠ 5 := fun q => by rw [q, HI.out.2.2.1] at hj; cases hj
      have j7 : j ≠ 7 := fun q => by rw [q, HI.out.2.2.2] at hj; cases hj
      match j, j3, j4, j5, j7 with
      | 0, _, _, _, _ => rfl
      | 1, _, _, _, _ => rfl
      | 2, _, _, _, _ => rfl
      | 6, _, _, _, _ => rfl
      | 8, _, _, _, _ => rfl
      | j + 9, _, _, _, _ => rfl
    | 4, ho, hi, hd =>
      simp only [List.getElem?_cons_succ, List.getElem?_cons_zero, Option.some.injEq] at ho
      subst ho
      have g36 : a1.tmps[36]? = some (.tuple #[.pointer (some ⟨b, 0, none⟩), .int .i64 0]) := hh.did 3 _ 36 rfl rfl (hd { on := 3, ground := .data } (by simp) rfl)
      have HN : Hid (JP 3 [] (fun u => Kept w4 u) (fun u => QS w4 u tb tg n s th ch n7 b) (done d 4) u) := hj.plain 4 (by decide)
      clear hh hd hc hj hi
      refine wpOp_step rfl (fun K hK => ?_)
      go_simp
      exact hK _ _ ⟨b, fun _ _ => rfl, by simp [Act.put], HN.out⟩
    | 5, ho, hi, hd =>
      simp only [List.getElem?_cons_succ, List.getElem?_cons_zero, Option.some.injEq] at ho
      subst ho
      have g32 : a1.tmps[32]? = some (.tuple #[.pointer (some ⟨b, 0, none⟩), .int .i64 0]) := hh.did 4 _ 32 rfl rfl (hd { on := 4, ground := .data } (by simp) rfl)
      have HN : Hid (JP 3 [] (fun u => Kept w4 u) (fun u => QS w4 u tb tg n s th ch n7 b) (done d 5) u) := hj.plain 5 (by decide)
      clear hh hd hc hj hi
      refine wpOp_step rfl (fun K hK => ?_)
      go_simp
      exact hK _ _ ⟨b, fun _ _ => rfl, by simp [Act.put], HN.out⟩
    | 6, ho, hi, hd =>
      simp only [List.getElem?_cons_succ, List.getElem?_cons_zero, Option.some.injEq] at ho
      subst ho
      have g32 : a1.tmps[32]? = some (.tuple #[.pointer (some ⟨b, 0, none⟩), .int .i64 0]) := hh.did 4 _ 32 rfl rfl (hd { on := 4, ground := .data } (by simp) rfl)
      have HN : Hid (JP 3 [] (fun u => Kept w4 u) (fun u => QS w4 u tb tg n s th ch n7 b) (done d 6) u) := hj.plain 6 (by decide)
      clear hh hd hc hj hi
      refine wpOp_step rfl (fun K hK => ?_)
      go_simp
      exact hK _ _ ⟨b, fun _ _ => rfl, by simp [Act.put], HN.out⟩
    | 7, ho, hi, hd =>
      simp only [List.getElem?_cons_succ, List.getElem?_cons_zero, Option.some.injEq] at ho
      subst ho
      have g37 : a1.tmps[37]? = some (.pointer (some ⟨b, 0, none⟩)) := hh.did 5 _ 37 rfl rfl (hd { on := 5, ground := .data } (by simp) rfl)
      have HN : Hid (JP 3 [] (fun u => Kept w4 u) (fun u => QS w4 u tb tg n s th ch n7 b) (done d 7) u) := hj.plain 7 (by decide)
      clear hh hd hc hj hi
      refine wpOp_step rfl (fun K hK => ?_)
      go_simp
      exact hK _ _ ⟨b, fun _ _ => rfl, by simp [Act.put], HN.out⟩
    | 8, ho, hi, hd =>
      simp only [List.getElem?_cons_succ, List.getElem?_cons_zero, Option.some.injEq] at ho
      subst ho
      have g38 : a1.tmps[38]? = some (.int .i64 0) := hh.did 6 _ 38 rfl rfl (hd { on := 6, ground := .data } (by simp) rfl)
      have HN : Hid (JP 3 [] (fun u => Kept w4 u) (fun u => QS w4 u tb tg n s th ch n7 b) (done d 8) u) := hj.plain 8 (by decide)
      clear hh hd hc hj hi
      refine wpOp_step rfl (fun K hK => ?_)
      go_simp
      exact hK _ _ ⟨b, fun _ _ => rfl, by simp [Act.put], HN.out⟩
    | n + 9, ho, hi, hd => simp at ho
  · intro b u d hall hj0
    have hj : JP 3 [] (fun u => Kept w4 u) (fun u => QS w4 u tb tg n s th ch n7 b) d u := hj0
    clear hj0
    have h1 : Hid (QS w4 u tb tg n s th ch n7 b) := hj.fin (hall 3 (by decide))
    clear hall hj
    refine norm_list' (L' := [_, _, _, _, _, _, _, _, _, _, _, _, _, _, _, _, _, _, _, _, _, _, _, _, _, _, _, _, _, _, _, _, _, _, _, _, _, _, _, _, _, _, _, _, _, _, _, _, _, _, _, _, _]) rfl ?_
    obtain ⟨A, c5, hA1, s5, hA2, hA3, hA4, low5, m5⟩ := h1.out
    have nb : w.heap.size ∉ [tg] := by
      have := H4.out.2.2.2.2 tg (by simp [ShF])
      have := HM.out.2.2.2.2
      have := HM.out.1.row.lt
      have := HM.out.2.2.1
      simp; omega
    have H5 : Hid (Blk u w.heap.size (cl n s g th n4 ch most n7 (.slice x l c)) ∧ A.b = b ∧ SH u c5 A (Sp.new n s th ch) ∧ A.tb = tb ∧ A.tg = tg ∧ A.C.n7 = n7 ∧ (∀ k, c5 k ≠ 0 → k = tb ∨ k = tg ∨ w4.heap.size ≤ k) ∧ Mut [tg] w4 u) := ⟨H4.out.1.muts m5 nb, hA1, s5, hA2, hA3, hA4, low5, m5⟩
    clear hA1 s5 hA2 hA3 hA4 low5 m5 nb h1
    have b3 := H5.out.1.at 3 rfl
    have CN := hnew_any th u HB.out.2.2.2.1 HB.out.2.2.2.2.1
    go_wp2_with fail
    refine CN.mono ?_
    rintro e w6 ⟨hb, hg, rfl, h6, o1, o2, k6⟩
    have H6 : Hid (Blk w6 w.heap.size (cl n s g th n4 ch most n7 (.slice x l c)) ∧ HH w6 hb hg th (Hs.first th) ∧ u.heap.size ≤ hb ∧ u.heap.size ≤ hg ∧ Kept u w6) := ⟨H5.out.1.kept k6, h6, o1, o2, k6⟩
    clear b3 CN h6 o1 o2 k6
    have K6 : Hid (Kept w w6) := (HM.out.2.1.trans H4.out.2.2.1).muts H5.out.2.2.2.2.2.2.2 (fun k hk => by
      have := H4.out.2.2.2.2 tg (by simp [ShF])
      have := HM.out.2.1.size
      simp at hk; omega) |>.trans H6.out.2.2.2.2
    have b0 := (H6.out.1).at 0 rfl
    have b1 := (H6.out.1).at 1 rfl
    have b2 := (H6.out.1).at 2 rfl
    have b3 := (H6.out.1).at 3 rfl
    have b4 := (H6.out.1).at 4 rfl
    have b5 := (H6.out.1).at 5 rfl
    have b6 := (H6.out.1).at 6 rfl
    have b7 := (H6.out.1).at 7 rfl
    have b8 := (H6.out.1).at 8 rfl
    have CC := ccopy_any n s g th n4 ch most n7 x l c S R w6 HB.out.2.2.2.2.2.1 HB.out.2.2.2.2.2.2 (HS.out.1.kept K6.out) (fun i hi => (HS.out.2 i hi).kept K6.out)
    go_wp2_with fail
    refine CC.mono ?_
    rintro e w7 ⟨cg, T, rfl, o7, r7, a7, k7⟩
    have H7 : Hid (w6.heap.size ≤ cg ∧ w7.rowIs cg 72 (l * 2) (cf T) ∧ (∀ i, i < l → Cop w7 cg (S i) (T i) (R i)) ∧ Kept w6 w7) := ⟨o7, r7, a7, k7⟩
    clear b0 b1 b2 b3 b4 b5 b6 b7 b8
    clear CC o7 r7 a7 k7
    go_wp2
    go_ret2
    obtain ⟨m1, m2, m3, m4, m5⟩ := HM.out
    obtain ⟨_, p2, p3, _, p5⟩ := H4.out
    obtain ⟨_, q1, q2, q3, q4, q5, q6, q7⟩ := H5.out
    obtain ⟨_, r1, r2, r3, r4⟩ := H6.out
    obtain ⟨t1, t2, t3, t4⟩ := H7.out
    subst q1 q3 q4
    exact core_made N n s g th ch most n4 n7 m1 m2 m3 m4 m5 p2 p3 p5 q2 q6 q7 r1 r2 r3 r4 t4 q5 t2 t3
end Go.Proofs.Ytiigmmmhhpdmdaa

/-
  Contracts of package core: New where there is none, Count; the laws' own first.
-/
namespace Go.Proofs.Ytiigmmmhhpdmdaa
open Go.RowKit

set_option maxHeartbeats 1000000 in
theorem onew_bad (n0 n1 n2 n3 n4 n5 n6 n7 r : Int) (x : Option Addr) (l c : Nat) (S : Nat → Sh) (w : World) (hS : Shps w x l S) (hr : Checks n0 n1 n2 n3 n4 n5 n6 n7 l S r) (h0 : r ≠ 0) :
    Calls Try.prog 8 #[.agg #[.int .i64 n0, .int .i64 n1, .int .i64 n2, .int .i64 n3, .int .i64 n4, .int .i64 n5, .int .i64 n6, .int .i64 n7, .slice x l c]] w fun e w' => e = .returned (.tuple #[.pointer none, .int .i64 r]) ∧ Kept w w' := by
  have HS : Hid (Shps w x l S) := hS
  have C0 : Hid (∀ w, Shps w x l S → _) := fun w h => check_any n0 n1 n2 n3 n4 n5 n6 n7 x l c S r w h hr
  have hb : (r != 0) = true := by simpa using h0
  clear hS hr h0
  go_enter Try.func8, Try.ntmps8
  go_wp2_with fail
  generalize hW0 : w.alloc _ = W0
  have K0 : Hid (Kept w W0) := by
    rw [← hW0]
    exact (Kept.refl w).alloc _ _
  clear hW0
  refine (C0.out _ (HS.out.kept K0.out)).mono ?_
  rintro e w1 ⟨rfl, k1⟩
  have K1 : Hid (Kept w w1) := K0.out.trans k1
  clear k1 K0 C0
  go_wp2
  go_ret2
  exact ⟨rfl, K1.out⟩

set_option maxHeartbeats 1000000 in
theorem ocount_any {c d : Nat → Nat} {B : Ak} {K : Kv} (w : World) (h : KH w c d B K) (h1 : K.q ≤ 1000) (h2 : K.sc ≤ 1000) (h3 : 0 ≤ K.S.ct ∧ K.S.ct ≤ 1000) (h4 : 0 ≤ K.H.ct ∧ K.H.ct ≤ 1000) {t : Int} (ht : (K.q : Int) + (K.sc : Int) + K.S.ct + K.H.ct = t) :
    Calls Try.prog 12 #[.pointer (some ⟨B.kb, 0, none⟩)] w fun e w' => e = .returned (.int .i64 t) ∧ Kept w w' := by
  have HK : Hid (KH w c d B K) := h
  have HT : Hid ((K.q : Int) + (K.sc : Int) + K.S.ct + K.H.ct = t) := ht
  have C1 : Hid (∀ z : KW w, _) := fun z => mem_count z.it (HK.out.kept z.ok).mem
  have C2 : Hid (∀ z : KW w, _) := fun z => dcount_any z.it (HK.out.kept z.ok).sh
  rw [show K.sh.c = K.sc from rfl] at C2
  have C3 : Hid (∀ z : KW w, _) := fun z => wcount_any z.it (HK.out.kept z.ok).sp
  have C4 : Hid (∀ z : KW w, _) := fun z => hcount_any z.it (HK.out.kept z.ok).hand
  have LH := h.head.lt
  have b9 := fun z : KW w => z.cell (a := ⟨B.kb, 9, none⟩) LH (h.head.at 9 rfl)
  have b10 := fun z : KW w => z.cell (a := ⟨B.kb, 10, none⟩) LH (h.head.at 10 rfl)
  have b11 := fun z : KW w => z.cell (a := ⟨B.kb, 11, none⟩) LH (h.head.at 11 rfl)
  have b12 := fun z : KW w => z.cell (a := ⟨B.kb, 12, none⟩) LH (h.head.at 12 rfl)
  clear h ht HK
  generalize K.q = q at *
  generalize K.sc = sc at *
  generalize K.S.ct = ct at *
  generalize K.H.ct = hc at *
  generalize B.kb = kb at *
  obtain ⟨h3, h3'⟩ := h3
  obtain ⟨h4, h4'⟩ := h4
  go_enter Try.func12, Try.ntmps12
  go_wp2
  refine wp_region_kept (by kernel_rfl) (by kernel_rfl) fun _ => ?_
  repeat (go_big_quiet_step (first | (go_at_call 42; exact kept_of_same (C1.out _)) | (go_at_call 43; exact kept_of_same (C2.out _)) | (go_at_call 44; exact kept_of_same (C3.out _)) | (go_at_call 45; exact kept_of_same (C4.out _))))
  refine wpQuiet_nil ?_
  rintro _ ⟨z, rfl⟩
  clear b9 b10 b11 b12
  go_wp2
  go_ret
  exact ⟨by rw [HT.out]; rfl, z.ok⟩

/-- One shape without fields. -/
def S1 : Nat → Sh := fun _ => ⟨false, none, 0, 0⟩
theorem shps1 {w : World} {b : Nat} (h : Blk w b [.bool false, .slice none 0 0]) : Shps w (some ⟨b, 0, none⟩) 1 S1 := fun _ => ⟨b, 0, rfl, h.lt, fun i hi => by
  obtain rfl : i = 0 := by omega
  exact ⟨h.at 0 rfl, h.at 1 rfl⟩⟩
theorem refs1 {w : World} (i : Nat) : Refs w (S1 i).x (S1 i).l (fun _ => false) := fun h => by simp [S1] at h
theorem bad0 (S : Nat → Sh) : Checks 0 0 0 0 0 0 0 0 0 S 1 := Checks.of_out fun h => by
  have := h.1.1
  omega

theorem bd_new (n s m ch k : Nat) : (Sp.new n s m ch).Bd k := ⟨by simp [Sp.new], by simp [Sp.new], by simp [Sp.new], fun e he => by simp [Sp.new] at he, fun e he => by simp [Sp.new] at he⟩
theorem cnt_all1 (n s m ch : Nat) : cntB (Sp.new n s m ch).F (Sp.new n s m ch).n = n := cntB_all fun _ _ => rfl

set_option maxHeartbeats 4000000 in
theorem first_any (w : World) : Calls Try.prog 6 #[] w fun e w' => e = .returned (.bool true) ∧ Kept w w' := by
  go_enter Try.func6, Try.ntmps6
  go_wp2_with fail
  generalize hW : World.alloc _ _ = W
  have H0 : Hid (Kept w W ∧ Shps W (some ⟨w.heap.size, 0, none⟩) 1 S1) := by
    rw [← hW]
    exact ⟨(Kept.refl w).alloc _ _, shps1 (Blk.new w [.bool false, .slice none 0 0] _)⟩
  clear hW
  have CM := onew_any 4 0 0 1 0 1 1 0 (some ⟨w.heap.size, 0, none⟩) 1 1 S1 (fun _ _ => false) W H0.out.2 (fun i _ => refs1 i) (by
    refine ⟨?_, ?_⟩
    · unfold Fits; decide
    · refine ⟨by decide, by decide, fun i hi => rfl⟩) 32 rfl
  go_wp2_with fail
  refine CM.mono ?_
  rintro e w1 ⟨B, c, d, cg, T, rfl, m1, _⟩
  have H1 : Hid (KM W w1 c d B (Kv.new 32 32 4 0 0 1 1 0) ∧ Kept w w1) := ⟨m1, H0.out.1.trans m1.kept⟩
  clear m1 CM H0
  have CB := onew_bad 0 0 0 0 0 0 0 0 1 none 0 0 S1 w1 (fun h => absurd h (by decide)) (bad0 S1) (by decide)
  go_wp2_with fail
  refine CB.mono ?_
  rintro e w2 ⟨rfl, k2⟩
  have H2 : Hid (KH w2 c d B (Kv.new 32 32 4 0 0 1 1 0) ∧ Kept w w2) := ⟨H1.out.1.kh.kept k2, H1.out.2.trans k2⟩
  clear k2 CB H1
  have CC := ocount_any w2 H2.out.1 (by decide) (by decide) (by decide) (by decide) (t := 0) (by decide)
  go_wp2_with fail
  refine CC.mono ?_
  rintro e w3 ⟨rfl, k3⟩
  have K3 : Hid (Kept w w3) := H2.out.2.trans k3
  clear CC k3 H2
  go_wp2
  go_ret
  exact ⟨rfl, K3.out⟩
end Go.Proofs.Ytiigmmmhhpdmdaa

/-
  Slices that came in, of elements without pointers: their cells lie in memory.
-/
namespace Go.Proofs.Ytiigmmmhhpdmdaa
open Go.RowKit Go.ChangeShapes Go.WideShapes Go.Deep

theorem cell_lt {w : World} {a : Addr} {v : Value} (h : w.cell? a = some v) : a.block < w.heap.size := by
  rcases Nat.lt_or_ge a.block w.heap.size with g | g
  · exact g
  · simp [World.cell?, Array.getElem?_eq_none g] at h

/-- A slice of elements of m cells each that lies in memory. -/
def Elems (w : World) (x : Option Addr) (l m : Nat) (V : Nat → List Value) : Prop :=
  0 < l → ∃ b o, x = some ⟨b, o, none⟩ ∧ b < w.heap.size ∧ ∀ i, i < l → ∀ j v, j < m → (V i)[j]? = some v → w.cell? ⟨b, o + i * m + j, none⟩ = some v

theorem Elems.kept {w w' : World} {x : Option Addr} {l m : Nat} {V : Nat → List Value} (h : Elems w x l m V) (k : Kept w w') : Elems w' x l m V := fun h0 => by
  obtain ⟨b, o, e, hb, hc⟩ := h h0
  exact ⟨b, o, e, Nat.lt_of_lt_of_le hb k.size, fun i hi j v hj hv => (k.cell hb).trans (hc i hi j v hj hv)⟩

section
variable {H : Type} {enc : TypeId × Value → H} {P : Program} {W : World} {sp : Nat → Bool} {held : Bool}

theorem elems_open {t e : TypeId} {x : Option Addr} {l c : Nat} {d : DataW H} {p : List MemPlace} (ht : P.underlying t = some (.slice e)) (hm0 : 0 < P.cellsOf e) (h : DataW.Trod enc P W 0 sp held t (.slice x l c) d p) :
    ∃ V, Elems W x l (P.cellsOf e) V ∧ ∀ i, i < l → ∃ n y, DataW.trod enc P W 0 sp held n e (V i) = some y := by
  obtain ⟨fuel, h⟩ := h
  rcases open_slice ht h with ⟨h0, _⟩ | ⟨a, len, cap, m, n, D, Pl, h0, _, hl, _, hm, _, hx⟩
  · simp [Value.cells] at h0
    exact ⟨fun _ => [], fun h => by omega, fun i hi => by omega⟩
  · simp [Value.cells] at h0
    obtain ⟨rfl, rfl, rfl⟩ := h0
    have hlm : l ≤ m := by rw [hm]; split <;> omega
    obtain ⟨V, hV⟩ := choose_lt (α := List Value) (p := fun i cs' => W.cells? 0 (a.add (i * P.cellsOf e)) (P.cellsOf e) = some cs' ∧ DataW.trod enc P W 0 sp held n e cs' = some (D i, Pl i)) (n := l) (fun i hi => by
      obtain ⟨cs', h1, h2⟩ := hx i (by omega)
      exact ⟨cs', h1, h2⟩)
    refine ⟨V, fun hp => ?_, fun i hi => ⟨n, _, (hV i hi).2⟩⟩
    have cells : ∀ i, i < l → ∀ j, j < P.cellsOf e → W.cell? ((a.add (i * P.cellsOf e)).add j) = (V i)[j]? := fun i hi j hj => (World.cells?_some (hV i hi).1).2.2 j hj
    have len : ∀ i, i < l → (V i).length = P.cellsOf e := fun i hi => (World.cells?_some (hV i hi).1).2.1
    obtain ⟨b, o, s⟩ := a
    have h00 := cells 0 hp 0 hm0
    obtain ⟨v, hv⟩ : ∃ v, (V 0)[0]? = some v := ⟨_, List.getElem?_eq_getElem (by rw [len 0 hp]; exact hm0)⟩
    rw [hv] at h00
    obtain rfl : s = none := by simpa [Addr.add] using World.cell?_spot h00
    refine ⟨b, o, rfl, ?_, fun i hi j v hj hv => ?_⟩
    · simpa [Addr.add] using cell_lt h00
    · have := cells i hi j hj
      rw [add_plain, add_plain, hv] at this
      exact this

theorem elems_typed {α : Type} [Inhabited α] (cells : α → List Value) (ok : α → Prop) {x : Option Addr} {l m : Nat} {V : Nat → List Value} (h : Elems W x l m V) (each : ∀ i, i < l → ∃ q : α, V i = cells q ∧ ok q) :
    ∃ L : Nat → α, Elems W x l m (fun i => cells (L i)) ∧ ∀ i, i < l → ok (L i) := by
  obtain ⟨L, hL⟩ := choose_lt each
  refine ⟨L, fun hp => ?_, fun i hi => (hL i hi).2⟩
  obtain ⟨b, o, e, hb, hc⟩ := h hp
  exact ⟨b, o, e, hb, fun i hi j v hj hv => hc i hi j v hj (by rw [(hL i hi).1]; exact hv)⟩

theorem wf_i64 {n : Int} (h : (Lit.int .i64 n).wf = true) : IntKind.min .i64 ≤ n ∧ n ≤ IntKind.max .i64 := by
  simpa [Lit.wf, IntKind.has] using h
end

/-- A slice of whole numbers. -/
def Ints (w : World) (x : Option Addr) (l : Nat) (L : Nat → Int) : Prop := Elems w x l 1 (fun i => [.int .i64 (L i)])

theorem Ints.at {w : World} {x : Option Addr} {l : Nat} {L : Nat → Int} (h : Ints w x l L) (hp : 0 < l) : ∃ b o, x = some ⟨b, o, none⟩ ∧ b < w.heap.size ∧ ∀ i, i < l → w.cell? ⟨b, o + i, none⟩ = some (.int .i64 (L i)) := by
  obtain ⟨b, o, e, hb, hc⟩ := h hp
  exact ⟨b, o, e, hb, fun i hi => by simpa using hc i hi 0 _ (by omega) rfl⟩
theorem Ints.kept {w w' : World} {x : Option Addr} {l : Nat} {L : Nat → Int} (h : Ints w x l L) (k : Kept w w') : Ints w' x l L := Elems.kept h k

section
variable {H : Type} {enc : TypeId × Value → H} {W : World} {sp : Nat → Bool} {held : Bool}
theorem ints_open {x : Option Addr} {l c : Nat} {d : DataW H} {p : List MemPlace} (h : DataW.Trod enc Try.prog W 0 sp held 59 (.slice x l c) d p) :
    ∃ L, Ints W x l L ∧ ∀ i, i < l → IntKind.min .i64 ≤ L i ∧ L i ≤ IntKind.max .i64 := by
  have ce : Try.prog.cellsOf 3 = 1 := by kernel_rfl
  obtain ⟨V, hV, hr⟩ := elems_open Try.underlying59 (by rw [ce]; omega) h
  rw [ce] at hV
  exact elems_typed (fun n : Int => [Value.int .i64 n]) (fun n => IntKind.min .i64 ≤ n ∧ n ≤ IntKind.max .i64) hV fun i hi => by
    obtain ⟨n, y, hy⟩ := hr i hi
    obtain ⟨z, hz, _, wz⟩ := DataW.trod_int Try.underlying3 hy
    exact ⟨z, hz, wf_i64 wz⟩
end
end Go.Proofs.Ytiigmmmhhpdmdaa

