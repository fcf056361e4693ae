/-
  The modules Mix, Ghost21, SpcD, one behind another.
-/
import Derived.Test.YtiigmmmhhpdmdaaB08
/-
  A region that draws its order, some of whose operations turn the world (calls that write) and leave what depends on it (a new slice): walked once for each operation, whatever the order. 'J d vals' is what is known of the world and of what the operations have left, when the operations of d have been carried out.
-/
namespace Go.Proofs.Ytiigmmmhhpdmdaa
open Go.RowKit

theorem Held.congr {a0 a : Act} {l : List Oper} {d : Nat → Bool} {vals vals' : List Value} (h : Held a0 a l d vals) (e : ∀ i, d i = true → vals.getD i undef = vals'.getD i undef) : Held a0 a l d vals' :=
  ⟨h.defers, h.size, fun i o s hi ho hd => by rw [← e i hd]; exact h.did i o s hi ho hd, h.rest⟩

theorem getD_set_self {vals : List Value} {i : Nat} (h : i < vals.length) (v : Value) : (vals.set i v).getD i undef = v := by simp [List.getD_eq_getElem?_getD, h]
theorem getD_set_ne {vals : List Value} {i j : Nat} (h : i ≠ j) (v : Value) : (vals.set i v).getD j undef = vals.getD j undef := by simp [List.getD_eq_getElem?_getD, h]

theorem wpAny_mix {P : Program} {l : List Oper} {Q : Exit → Act → World → Prop} {a0 : Act} {J : (Nat → Bool) → List Value → World → Prop} (hb : backB l.toArray = true) (hn : slotsB a0.tmps.size l = true)
    (step : ∀ i o, l[i]? = some o → ∀ a d vals u, vals.length = l.length → Held a0 a l d vals → J d vals u → d i = false → (∀ e ∈ o.after, Region.binds .any e = true → d e.on = true) →
      wpOp P l.toArray Q i (fun a' w' => ∃ v, a' = a.put o.dst v ∧ J (done d i) (vals.set i v) w') a u)
    (fin : ∀ a u d vals, vals.length = l.length → (∀ i, i < l.length → d i = true) → Held a0 a l d vals → J d vals u → Q .normal a u) :
    ∀ (fuel : Nat) (listed : Array Bool) (a : Act) (u : World) (d : Nat → Bool) (vals : List Value), vals.length = l.length → listed.size = l.length → listed.toList.countP (fun b => !b) ≤ fuel → (∀ i, i < l.length → d i = listed.getD i false) → Held a0 a l d vals → J d vals u →
      wpAny P .any l.toArray Q fuel listed a u := by
  intro fuel
  induction fuel with
  | zero =>
    intro listed a u d vals hv hs hc hd hh hj
    have hall : ∀ i, i < l.length → listed.getD i false = true := fun i hi => by
      have h0 : listed.toList.countP (fun b => !b) = 0 := by omega
      have hi' : i < listed.size := by omega
      have := List.countP_eq_zero.1 h0 listed[i] (by simp)
      simpa [hi'] using this
    refine ⟨?_, fin a u d vals hv (fun i hi => (hd i hi).trans (hall i hi)) hh hj⟩
    apply List.eq_nil_iff_forall_not_mem.2
    intro j hj'
    obtain ⟨h1, o, ho, _⟩ := mem_ready.1 hj'
    have hjo : j < l.length := by simpa using (Array.getElem?_eq_some_iff.1 ho).1
    have h2 := hall j hjo
    have hj'' : j < listed.size := by omega
    simp [hj''] at h1 h2
    rw [h1] at h2
    cases h2
  | succ fuel ih =>
    intro listed a u d vals hv hs hc hd hh hj
    refine ⟨fun hr => fin a u d vals hv (fun i hi => (hd i hi).trans (listed_of_ready hb (by simpa using hs) hr l.length i hi (by simpa using hi))) hh hj, fun i hi => ?_⟩
    obtain ⟨h1, o, ho, hdep⟩ := mem_ready.1 hi
    have ho' : l[i]? = some o := by simpa using ho
    have hio : i < l.length := by simpa using (Array.getElem?_eq_some_iff.1 ho).1
    have hil : i < listed.size := by omega
    have hf : d i = false := by
      rw [hd i hio]
      simpa [hil] using h1
    refine wpOp_mono ?_ (step i o ho' a d vals u hv hh hj hf fun e he hbn => ?_)
    · rintro a' w' ⟨v, rfl, hj'⟩
      have hh2 : Held a0 a l d (vals.set i v) := hh.congr fun j hdj => by
        have hne : i ≠ j := fun q => by subst q; rw [hf] at hdj; cases hdj
        rw [getD_set_ne hne]
      have hh3 := hh2.put hn ho'
      rw [getD_set_self (by omega)] at hh3
      refine ih (listed.setIfInBounds i true) _ w' (done d i) (vals.set i v) (by simpa using hv) (by simpa using hs) ?_ (fun j hjl => ?_) hh3 hj'
      · have hfalse : listed[i] = false := by simpa [hil] using h1
        rw [Array.toList_setIfInBounds, List.countP_set (by simpa using hil)]
        simp only [Array.countP_toList] at hc
        simp [hfalse]
        omega
      · by_cases e : j = i
        · subst e
          simp [done, hil]
        · simp only [done, e, if_false]
          rw [hd j hjl, Array.getD_eq_getD_getElem?, Array.getD_eq_getD_getElem?, Array.getElem?_setIfInBounds_ne (Ne.symm e)]
    · have h2 := hdep e he hbn
      have hlt := backB_spec hb ho he
      rw [hd e.on (by omega)]
      exact h2

/-- 'vals': what is left, as far as it is known ahead (anything elsewhere). -/
theorem wp_region_mix {P : Program} {id : Nat} {l : List Oper} {Q : Exit → Act → World → Prop} {a0 : Act} {w : World} (vals : List Value) (ps : List (Nat × Nat)) (J : (Nat → Bool) → List Value → World → Prop)
    (hm : P.follows .mixedOrders = true) (hb : backB l.toArray = true) (hn : slotsB a0.tmps.size l = true) (hp : pairsB l ps = true) (hv : vals.length = l.length) (h0 : J (fun _ => false) vals w.drew)
    (step : ∀ i o, l[i]? = some o → ∀ a d vals u, vals.length = l.length → Held a0 a l d vals → J d vals u → d i = false → (∀ e ∈ o.after, Region.binds .any e = true → d e.on = true) →
      wpOp P l.toArray Q i (fun a' w' => ∃ v, a' = a.put o.dst v ∧ J (done d i) (vals.set i v) w') a u)
    (fin : ∀ u d vals, vals.length = l.length → (∀ i, i < l.length → d i = true) → J d vals u → Q .normal ⟨(patch vals ps 0 a0.tmps.toList).toArray, a0.defers⟩ u) :
    (Code.region id l.toArray true).wp P Q a0 w := by
  refine wp_region_any hm (wpAny_mix (J := J) hb hn step (fun a u d vals hv hall hh hj => ?_) _ _ a0 _ (fun _ => false) vals hv (by simp) ?_ (fun i hi => by simp [hi]) ⟨rfl, rfl, (fun i o s _ _ h => absurd h (by simp)), fun _ _ => rfl⟩ h0)
  · rw [hh.patched ps hp hall]
    exact fin u d vals hv hall hj
  · exact Nat.le_trans List.countP_le_length (by simp)
end Go.Proofs.Ytiigmmmhhpdmdaa

/-
  A region that draws its order, whose values are known but for a ghost (of type G) that a call chooses.
-/
namespace Go.Proofs.Ytiigmmmhhpdmdaa
open Go.RowKit

theorem done_up (d : Nat → Bool) (k : Nat) {r : Nat} (h : d r = true) : done d k r = true := by
  unfold done; split <;> simp [h]
/-- Operation c turns the world; those of rs come ahead of it. -/
def JP (c : Nat) (rs : List Nat) (P0 P1 : World → Prop) (d : Nat → Bool) (u : World) : Prop := (d c = true → ∀ r ∈ rs, d r = true) ∧ (if d c then P1 u else P0 u)
section
variable {c : Nat} {rs : List Nat} {P0 P1 : World → Prop} {d : Nat → Bool} {u : World}
theorem JP.start (h : P0 u) : JP c rs P0 P1 (fun _ => false) u := ⟨fun e => absurd e (by simp), by simpa using h⟩
theorem JP.plain (h : JP c rs P0 P1 d u) (k : Nat) (hk : k ≠ c) : JP c rs P0 P1 (done d k) u := by
  have e : done d k c = d c := by simp [done, Ne.symm hk]
  refine ⟨fun q r hr => done_up d k (h.1 (e ▸ q) r hr), ?_⟩
  rw [e]; exact h.2
theorem JP.now (h : JP c rs P0 P1 d u) (hk : d c = false) : P0 u := by simpa [hk] using h.2
theorem JP.now1 (h : JP c rs P0 P1 d u) (hk : d c = true) : P1 u := by simpa [hk] using h.2
theorem JP.stay (h : JP c rs P0 P1 d u) (nc : d c = false) (k : Nat) (hk : k ≠ c) {u' : World} (h' : P0 u') : JP c rs P0 P1 (done d k) u' := by
  have e : done d k c = d c := by simp [done, Ne.symm hk]
  refine ⟨fun q r hr => done_up d k (h.1 (e ▸ q) r hr), ?_⟩
  rw [e, nc]; exact h'
theorem JP.stay1 (h : JP c rs P0 P1 d u) (nc : d c = true) (k : Nat) (hk : k ≠ c) {u' : World} (h' : P1 u') : JP c rs P0 P1 (done d k) u' := by
  have e : done d k c = d c := by simp [done, Ne.symm hk]
  refine ⟨fun q r hr => done_up d k (h.1 (e ▸ q) r hr), ?_⟩
  rw [e, nc]; exact h'
theorem JP.turn (hr : ∀ r ∈ rs, d r = true) {u' : World} (h : P1 u') : JP c rs P0 P1 (done d c) u' :=
  ⟨fun _ r q => done_up d c (hr r q), by simpa [done] using h⟩
theorem JP.fin (h : JP c rs P0 P1 d u) (hc : d c = true) : P1 u := by simpa [hc] using h.2
end

/-- What is done is closed: what an operation waits for has been done. -/
def Cl (l : List Oper) (d : Nat → Bool) : Prop := ∀ i o, l[i]? = some o → d i = true → ∀ e ∈ o.after, Region.binds .any e = true → d e.on = true
theorem Cl.step {l : List Oper} {d : Nat → Bool} (h : Cl l d) {i : Nat} {o : Oper} (ho : l[i]? = some o) (hd : ∀ e ∈ o.after, Region.binds .any e = true → d e.on = true) : Cl l (done d i) := fun j x hx hj e he hb => by
  by_cases q : j = i
  · subst q
    rw [ho] at hx
    obtain rfl : o = x := Option.some.inj hx
    exact done_up d j (hd e he hb)
  · exact done_up d i (h j x hx (by simpa [done, q] using hj) e he hb)

theorem norm_list' {Q : Exit → Act → World → Prop} {L L' : List Value} {ds : List Deferred} {u : World} (e : L = L') (h : Q .normal ⟨L'.toArray, ds⟩ u) : Q .normal ⟨L.toArray, ds⟩ u := e ▸ h

theorem patch_congr {v1 v2 : List Value} (h : ∀ j, v1.getD j undef = v2.getD j undef) : ∀ (L : List Value) (ps : List (Nat × Nat)) (n : Nat), patch v1 ps n L = patch v2 ps n L
  | [], [], _ => by simp [patch]
  | [], _ :: _, _ => by simp [patch]
  | _ :: _, [], _ => by simp [patch]
  | x :: xs, p :: ps, n => by
    rw [patch, patch, h, patch_congr h xs ps, patch_congr h xs (p :: ps)]

theorem wp_region_ghost {P : Program} {id : Nat} {l : List Oper} {Q : Exit → Act → World → Prop} {a0 : Act} {w : World} {G : Type} (K : G → List Value) (ps : List (Nat × Nat)) (J : G → (Nat → Bool) → World → Prop)
    (hm : P.follows .mixedOrders = true) (hb : backB l.toArray = true) (hn : slotsB a0.tmps.size l = true) (hp : pairsB l ps = true) (hv : ∀ g, (K g).length = l.length) (h0 : ∃ g, J g (fun _ => false) w.drew)
    (step : ∀ i o, l[i]? = some o → ∀ g a d u, Held a0 a l d (K g) → J g d u → d i = false → (∀ e ∈ o.after, Region.binds .any e = true → d e.on = true) → Cl l d →
      wpOp P l.toArray Q i (fun a' w' => ∃ g', (∀ j, d j = true → (K g').getD j undef = (K g).getD j undef) ∧ a' = a.put o.dst ((K g').getD i undef) ∧ J g' (done d i) w') a u)
    (fin : ∀ g u d, (∀ i, i < l.length → d i = true) → J g d u → Q .normal ⟨(patch (K g) ps 0 a0.tmps.toList).toArray, a0.defers⟩ u) :
    (Code.region id l.toArray true).wp P Q a0 w := by
  obtain ⟨g0, h0⟩ := h0
  refine wp_region_mix (K g0) ps (fun d vals u => Cl l d ∧ ∃ g, (∀ j, d j = true → vals.getD j undef = (K g).getD j undef) ∧ J g d u) hm hb hn hp (hv g0) ⟨fun i o _ h => absurd h (by simp), g0, fun _ _ => rfl, h0⟩ ?_ ?_
  · rintro i o ho a d vals u hvl hh ⟨hc, g, hk, hj⟩ hi hd
    refine wpOp_mono (fun a' w' h => ?_) (step i o ho g a d u (hh.congr hk) hj hi hd hc)
    obtain ⟨g', e1, e2, e3⟩ := h
    have hil : i < vals.length := by rw [hvl]; exact (List.getElem?_eq_some_iff.1 ho).1
    refine ⟨_, e2, hc.step ho hd, g', fun j hj => ?_, e3⟩
    by_cases q : i = j
    · subst q
      rw [getD_set_self hil]
    · rw [getD_set_ne q, e1 j (by simpa [done, Ne.symm q] using hj), hk j (by simpa [done, Ne.symm q] using hj)]
  · rintro u d vals hvl hall ⟨hc, g, hk, hj⟩
    have e : patch vals ps 0 a0.tmps.toList = patch (K g) ps 0 a0.tmps.toList := patch_congr (fun j => by
      by_cases q : j < l.length
      · exact hk j (hall j q)
      · have q1 : vals[j]? = none := List.getElem?_eq_none (by omega)
        have q2 : (K g)[j]? = none := List.getElem?_eq_none (by rw [hv]; omega)
        rw [List.getD_eq_getElem?_getD, List.getD_eq_getElem?_getD, q1, q2]) _ _ _
    rw [e]
    exact fin g u d hall hj
end Go.Proofs.Ytiigmmmhhpdmdaa

/-
  Contracts of package space's inner functions: isThread, may, fill.
-/
namespace Go.Proofs.Ytiigmmmhhpdmdaa
open Go.RowKit

def Sp.isT (S : Sp) (t : Int) : Bool := decide (0 ≤ t ∧ t < S.m)
def Sp.of (S : Sp) (t : Int) : Option Ent := S.E.find? fun e => e.th == t
def Sp.may (S : Sp) (t fr sp : Int) : Bool := S.isT t && decide (1 ≤ fr) && decide (0 ≤ sp) && !(S.of t).isSome
/-- What a stock is filled with, and what is left then. -/
def Sp.lw (S : Sp) (i : Nat) : List Nat := lowL S.n S.F ((S.most : Int) - ((S.Q i).length : Int))
def Sp.lwZ (S : Sp) (i : Nat) : List Int := (S.lw i).map fun x : Nat => (x : Int)
def Sp.fill (S : Sp) (i : Nat) : Sp := { S with F := dropF S.F (S.lw i), T := useT S.n 1 false S.T (S.lwZ i), Q := fun j => if j = i then S.Q i ++ S.lwZ i else S.Q j }

theorem find_nrm (p : Ent → Bool) (hp : ∀ e, p e.nrm = p e) (E : List Ent) : (E.map Ent.nrm).find? p = (E.find? p).map Ent.nrm := by
  rw [List.find?_map]
  congr 1
  congr 1
  funext e
  exact hp e

section
variable {c : Nat → Nat} {A : Ad} {S : Sp}
set_option maxHeartbeats 400000 in
theorem isThread_any (t : Int) (w : World) (h : SH w c A S) :
    Calls Try.prog 89 #[.pointer (some ⟨A.b, 0, none⟩), .int .i64 t] w fun e w' => e = .returned (.bool (S.isT t)) ∧ w' = w := by
  have c13 := h.head.blk.at 13 rfl
  have HF : Hid (S.isT t = decide (0 ≤ t ∧ t < S.m)) := rfl
  clear h
  by_cases h0 : 0 ≤ t
  · by_cases h1 : t < (S.m : Int)
    · go_enter Try.func89, Try.ntmps89
      go_wp2
      go_ret
      exact ⟨by simp [HF.out, h0, h1], rfl⟩
    · go_enter Try.func89, Try.ntmps89
      go_wp2
      go_ret
      exact ⟨by simp [HF.out, h1], rfl⟩
  · go_enter Try.func89, Try.ntmps89
    go_wp2
    go_ret
    exact ⟨by simp [HF.out]; omega, rfl⟩

set_option maxHeartbeats 1000000 in
theorem wmay_any (t fr sp : Int) (w : World) (h : SH w c A S) :
    Calls Try.prog 51 #[.pointer (some ⟨A.b, 0, none⟩), .int .i64 t, .int .i64 fr, .int .i64 sp] w fun e w' => e = .returned (.bool (S.may t fr sp)) ∧ Kept w w' := by
  have HS : Hid (SH w c A S) := h
  have HF : Hid (S.may t fr sp = (S.isT t && decide (1 ≤ fr) && decide (0 ≤ sp) && !(S.of t).isSome)) := rfl
  have CI := isThread_any t w h
  have c2 := h.head.blk.at 2 rfl
  obtain ⟨v, E, l1, l2, l3⟩ := h.line
  have CO := lof_any t w l1
  have hE : (E.find? fun e => e.th == t).isSome = (S.of t).isSome := by
    unfold Sp.of
    rw [← l2, find_nrm _ (fun _ => rfl)]
    simp
  rw [hE] at CO
  clear h l1 l2 l3 hE
  simp only [Ent.agg] at CO
  generalize told _ = ee at *
  go_enter Try.func51, Try.ntmps51
  go_wp2_with fail
  refine CI.mono ?_
  rintro e w1 ⟨rfl, e1⟩
  rw [e1]
  clear e1 CI
  cases hi : S.isT t
  · go_wp2
    go_ret
    exact ⟨by simp [HF.out, hi], Kept.refl _⟩
  · by_cases h1 : fr < 1
    · go_wp2
      go_ret
      exact ⟨by simp [HF.out]; omega, Kept.refl _⟩
    · by_cases h2 : sp < 0
      · go_wp2
        go_ret
        exact ⟨by simp [HF.out]; omega, Kept.refl _⟩
      · go_wp2_with fail
        refine CO.mono ?_
        rintro e w2 ⟨y, d, rfl, r2, f2, k2⟩
        have K2 : Hid (Kept w w2) := k2
        have HV : Hid (S.isT t = true ∧ 1 ≤ fr ∧ 0 ≤ sp) := ⟨hi, by omega, by omega⟩
        clear CO r2 f2 k2 c2 hi h1 h2
        generalize (S.of t).isSome = q at *
        go_wp2
        go_ret
        exact ⟨by obtain ⟨z1, z2, z3⟩ := HV.out; rw [HF.out, z1]; simp [z2, z3], K2.out.alloc _ _⟩

set_option maxHeartbeats 4000000 in
theorem fill_any (i : Nat) (w : World) (h : SH w c A S) (hi : i < S.m) :
    Calls Try.prog 59 #[.pointer (some ⟨A.b, 0, none⟩), .int .i64 (i : Int)] w fun e w' => e = .returned (.tuple #[]) ∧ ∃ c', SH w' c' A (S.fill i) ∧ Stp c w c' w' := by
  have HS : Hid (SH w c A S) := h
  have HI0 : Hid (i < S.m) := hi
  have c13 := h.head.blk.at 13 rfl
  have hq := h.row.cell hi
  have hm16 := h.few
  obtain ⟨rm, hrm⟩ : ∃ rm : Int, rm = (S.most : Int) - ((S.Q i).length : Int) := ⟨_, rfl⟩
  obtain ⟨lw, hlw⟩ : ∃ lw, lw = S.lw i := ⟨_, rfl⟩
  obtain ⟨L, hL⟩ : ∃ L, L = S.lwZ i := ⟨_, rfl⟩
  obtain ⟨ln, hln⟩ : ∃ ln, ln = L.length := ⟨_, rfl⟩
  have HLN : Hid (ln = L.length) := hln
  have HR : Hid (∀ u, Kept w u → Calls Try.prog 101 #[.pointer (some ⟨A.q i, 0, none⟩)] u fun e u' => e = .returned (.int .i64 rm) ∧ Kept u u') := fun u k => by
    obtain ⟨v, s1, _⟩ := (h.kept k).stk i hi
    rw [hrm]
    exact sroom_any u s1
  have HL : Hid (∀ u, Kept w u → Calls Try.prog 100 #[.pointer (some ⟨A.pb, 0, none⟩), .int .i64 rm] u fun e u' => ∃ x dd, e = .returned (.slice x ln dd) ∧ SH u' c A { S with F := dropF S.F lw } ∧ Stp c w c u' ∧ Lst u' w.heap.size (.slice x ln dd) L) := fun u k => by
    refine (plow_any rm u (h.kept k).pool).mono ?_
    rintro e u' ⟨v, rfl, g, t, m⟩
    have l := Got.lst g
    rw [hrm, show (lowL S.n S.F ((S.most : Int) - ((S.Q i).length : Int))).map (fun x : Nat => (x : Int)) = L from hL.symm] at l
    obtain ⟨x, dd, rfl⟩ := l.form
    rw [← hln] at l ⊢
    refine ⟨x, dd, rfl, ?_, (Stp.kept k).trans ((h.kept k).stpp m), l.low k.size⟩
    have := (h.kept k).pools t m
    rw [hrm] at this
    rw [hlw]
    exact this
  have HR1 : Hid ((S.Q i).length + L.length ≤ S.most) := by
    obtain ⟨v, s1, _⟩ := h.stk i hi
    have h1 := s1.few
    have h2 : L.length = min ((S.most : Int) - ((S.Q i).length : Int)).toNat (cntB S.F S.n) := by
      rw [hL]
      simp only [Sp.lwZ, Sp.lw, List.length_map, lowL_len]
    show _ ≤ _
    omega
  have HFL : Hid (S.fill i = { S with F := dropF S.F lw, T := useT S.n 1 false S.T L, Q := fun j => if j = i then S.Q i ++ L else S.Q j }) := by
    show _ = _
    rw [hL, hlw]; rfl
  have HM16 : Hid (S.m ≤ 16 ∧ ln ≤ 1000) := ⟨hm16, by
    obtain ⟨v, s1, _⟩ := h.stk i hi
    have h1 := s1.max
    have h2 := HR1.out
    omega⟩
  clear h hrm hlw hL hln
  go_enter Try.func59, Try.ntmps59
  go_wp2_with fail
  have hln0 := HM16.out.2
  refine wp_region_ghost (G := Option Addr × Nat) (fun ⟨x, dd⟩ => [(.pointer (some ⟨A.b, 0, none⟩)), (.pointer (some ⟨A.b, 0, none⟩)), (.pointer (some ⟨A.b, 0, none⟩)), (.pointer (some ⟨A.b, 1, none⟩)), (.pointer (some ⟨A.pb, 0, none⟩)), (.pointer (some ⟨A.q i, 0, none⟩)), (.int .i64 rm), (.slice x ln dd), (.slice x ln dd)]) [(5, 8), (15, 0), (16, 1), (17, 2), (18, 3), (19, 4), (20, 5), (21, 6), (22, 7)] (fun ⟨x, dd⟩ d u => JP 7 [] (fun u => Kept w u) (fun u => SH u c A { S with F := dropF S.F lw } ∧ Stp c w c u ∧ Lst u w.heap.size (.slice x ln dd) L) d u) (by kernel_rfl) (by kernel_rfl) (by kernel_rfl) (by kernel_rfl) (fun _ => rfl) ?_ ?_ ?_
  · exact ⟨⟨none, 0⟩, JP.start (Kept.refl _).drew⟩
  · intro i1 o1 ho ng a1 d u hh hj0 hi hd hc
    obtain ⟨x, dd⟩ := ng
    have hj : JP 7 [] (fun u => Kept w u) (fun u => SH u c A { S with F := dropF S.F lw } ∧ Stp c w c u ∧ Lst u w.heap.size (.slice x ln dd) L) d u := hj0
    clear hj0
    match i1, ho, hi, hd with
    | 0, ho, hi, hd =>
      simp only [List.getElem?_cons_zero, Option.some.injEq] at ho
      subst ho
      have g0 : a1.tmps[0]? = some (.pointer (some ⟨A.b, 0, none⟩)) := hh.old 0 (by kernel_rfl) rfl
      have HN : Hid (JP 7 [] (fun u => Kept w u) (fun u => SH u c A { S with F := dropF S.F lw } ∧ Stp c w c u ∧ Lst u w.heap.size (.slice x ln dd) L) (done d 0) u) := hj.plain 0 (by decide)
      clear hh hd hc hj hi
      refine wpOp_step rfl (fun K hK => ?_)
      go_simp
      exact hK _ _ ⟨⟨x, dd⟩, fun _ _ => rfl, by simp [Act.put], HN.out⟩
    | 1, ho, hi, hd =>
      simp only [List.getElem?_cons_succ, List.getElem?_cons_zero, Option.some.injEq] at ho
      subst ho
      have g15 : a1.tmps[15]? = some (.pointer (some ⟨A.b, 0, none⟩)) := hh.did 0 _ 15 rfl rfl (hd { on := 0, ground := .data } (by simp) rfl)
      have HN : Hid (JP 7 [] (fun u => Kept w u) (fun u => SH u c A { S with F := dropF S.F lw } ∧ Stp c w c u ∧ Lst u w.heap.size (.slice x ln dd) L) (done d 1) u) := hj.plain 1 (by decide)
      clear hh hd hc hj hi
      refine wpOp_step rfl (fun K hK => ?_)
      go_simp
      exact hK _ _ ⟨⟨x, dd⟩, fun _ _ => rfl, by simp [Act.put], HN.out⟩
    | 2, ho, hi, hd =>
      simp only [List.getElem?_cons_succ, List.getElem?_cons_zero, Option.some.injEq] at ho
      subst ho
      have g16 : a1.tmps[16]? = some (.pointer (some ⟨A.b, 0, none⟩)) := hh.did 1 _ 16 rfl rfl (hd { on := 1, ground := .data } (by simp) rfl)
      have HN : Hid (JP 7 [] (fun u => Kept w u) (fun u => SH u c A { S with F := dropF S.F lw } ∧ Stp c w c u ∧ Lst u w.heap.size (.slice x ln dd) L) (done d 2) u) := hj.plain 2 (by decide)
      clear hh hd hc hj hi
      refine wpOp_step rfl (fun K hK => ?_)
      go_simp
      exact hK _ _ ⟨⟨x, dd⟩, fun _ _ => rfl, by simp [Act.put], HN.out⟩
    | 3, ho, hi, hd =>
      simp only [List.getElem?_cons_succ, List.getElem?_cons_zero, Option.some.injEq] at ho
      subst ho
      have g17 : a1.tmps[17]? = some (.pointer (some ⟨A.b, 0, none⟩)) := hh.did 2 _ 17 rfl rfl (hd { on := 2, ground := .data } (by simp) rfl)
      have HN : Hid (JP 7 [] (fun u => Kept w u) (fun u => SH u c A { S with F := dropF S.F lw } ∧ Stp c w c u ∧ Lst u w.heap.size (.slice x ln dd) L) (done d 3) u) := hj.plain 3 (by decide)
      clear hh hd hc hj hi
      refine wpOp_step rfl (fun K hK => ?_)
      go_simp
      exact hK _ _ ⟨⟨x, dd⟩, fun _ _ => rfl, by simp [Act.put], HN.out⟩
    | 4, ho, hi, hd =>
      simp only [List.getElem?_cons_succ, List.getElem?_cons_zero, Option.some.injEq] at ho
      subst ho
      have g18 : a1.tmps[18]? = some (.pointer (some ⟨A.b, 1, none⟩)) := hh.did 3 _ 18 rfl rfl (hd { on := 3, ground := .data } (by simp) rfl)
      have n7 : d 7 = false := by
        cases q : d 7 with
        | false => rfl
        | true => exact absurd (hc 7 _ rfl q { on := 4, ground := .data } (by simp) rfl) (by simp [hi])
      have h0 := hj.now n7
      have c1 := (HS.out.kept h0).head.blk.at 1 rfl
      have HN : Hid (JP 7 [] (fun u => Kept w u) (fun u => SH u c A { S with F := dropF S.F lw } ∧ Stp c w c u ∧ Lst u w.heap.size (.slice x ln dd) L) (done d 4) u) := hj.plain 4 (by decide)
      clear hh hd hc hj hi
      refine wpOp_step rfl (fun K hK => ?_)
      go_simp
      exact hK _ _ ⟨⟨x, dd⟩, fun _ _ => rfl, by simp [Act.put], HN.out⟩
    | 5, ho, hi, hd =>
      simp only [List.getElem?_cons_succ, List.getElem?_cons_zero, Option.some.injEq] at ho
      subst ho
      have g4 : a1.tmps[4]? = some (.pointer (some ⟨A.q i, 0, none⟩)) := hh.old 4 (by kernel_rfl) rfl
      have HN : Hid (JP 7 [] (fun u => Kept w u) (fun u => SH u c A { S with F := dropF S.F lw } ∧ Stp c w c u ∧ Lst u w.heap.size (.slice x ln dd) L) (done d 5) u) := hj.plain 5 (by decide)
      clear hh hd hc hj hi
      refine wpOp_step rfl (fun K hK => ?_)
      go_simp
      exact hK _ _ ⟨⟨x, dd⟩, fun _ _ => rfl, by simp [Act.put], HN.out⟩
    | 6, ho, hi, hd =>
      simp only [List.getElem?_cons_succ, List.getElem?_cons_zero, Option.some.injEq] at ho
      subst ho
      have g20 : a1.tmps[20]? = some (.pointer (some ⟨A.q i, 0, none⟩)) := hh.did 5 _ 20 rfl rfl (hd { on := 5, ground := .data } (by simp) rfl)
      have n7 : d 7 = false := by
        cases q : d 7 with
        | false => rfl
        | true => exact absurd (hc 7 _ rfl q { on := 6, ground := .data } (by simp) rfl) (by simp [hi])
      have h0 : Hid (Kept w u) := hj.now n7
      have HJ : Hid (JP 7 [] (fun u => Kept w u) (fun u => SH u c A { S with F := dropF S.F lw } ∧ Stp c w c u ∧ Lst u w.heap.size (.slice x ln dd) L) d u) := hj
      have HI : Hid (d 7 = false) := n7
      have C := HR.out u h0.out
      clear hh hd hc hj hi n7
      refine wpOp_step rfl (fun K hK => ?_)
      go_simp
      refine C.mono ?_
      rintro e u2 ⟨rfl, k2⟩
      exact hK _ _ ⟨⟨x, dd⟩, fun _ _ => rfl, by simp [Act.put], HJ.out.stay HI.out 6 (by decide) (h0.out.trans k2)⟩
    | 7, ho, hi, hd =>
      simp only [List.getElem?_cons_succ, List.getElem?_cons_zero, Option.some.injEq] at ho
      subst ho
      have g19 : a1.tmps[19]? = some (.pointer (some ⟨A.pb, 0, none⟩)) := hh.did 4 _ 19 rfl rfl (hd { on := 4, ground := .data } (by simp) rfl)
      have g21 : a1.tmps[21]? = some (.int .i64 rm) := hh.did 6 _ 21 rfl rfl (hd { on := 6, ground := .data } (by simp) rfl)
      have h0 : Hid (Kept w u) := hj.now hi
      have HJ : Hid (JP 7 [] (fun u => Kept w u) (fun u => SH u c A { S with F := dropF S.F lw } ∧ Stp c w c u ∧ Lst u w.heap.size (.slice x ln dd) L) d u) := hj
      have HI : Hid (d 7 = false ∧ d 8 = false) := ⟨hi, by
        cases q : d 8 with
        | false => rfl
        | true => exact absurd (hc 8 _ rfl q { on := 7, ground := .data } (by simp) rfl) (by simp [hi])⟩
      have C := HL.out u h0.out
      clear hh hd hc hj hi
      refine wpOp_step rfl (fun K hK => ?_)
      go_simp
      refine C.mono ?_
      rintro e u2 ⟨x', dd', rfl, p1⟩
      refine hK _ _ ⟨⟨x', dd'⟩, fun j hj => ?_, by simp [Act.put], JP.turn (fun r hr => absurd hr (by simp)) p1⟩
      have j7 : j ≠ 7 := fun q => by rw [q, HI.out.1] at hj; cases hj
      have j8 : j ≠ 8 := fun q => by rw [q, HI.out.2] at hj; cases hj
      match j, j7, j8 with
      | 0, _, _ => rfl
      | 1, _, _ => rfl
      | 2, _, _ => rfl
      | 3, _, _ => rfl
      | 4, _, _ => rfl
      | 5, _, _ => rfl
      | 6, _, _ => rfl
      | j + 9, _, _ => rfl
    | 8, ho, hi, hd =>
      simp only [List.getElem?_cons_succ, List.getElem?_cons_zero, Option.some.injEq] at ho
      subst ho
      have g22 : a1.tmps[22]? = some (.slice x ln dd) := hh.did 7 _ 22 rfl rfl (hd { on := 7, ground := .data } (by simp) rfl)
      have HN : Hid (JP 7 [] (fun u => Kept w u) (fun u => SH u c A { S with F := dropF S.F lw } ∧ Stp c w c u ∧ Lst u w.heap.size (.slice x ln dd) L) (done d 8) u) := hj.plain 8 (by decide)
      clear hh hd hc hj hi
      refine wpOp_step rfl (fun K hK => ?_)
      go_simp
      exact hK _ _ ⟨⟨x, dd⟩, fun _ _ => rfl, by simp [Act.put], HN.out⟩
    | n + 9, ho, hi, hd => simp at ho
  · intro ng u d hall hj0
    obtain ⟨x, dd⟩ := ng
    have hj : JP 7 [] (fun u => Kept w u) (fun u => SH u c A { S with F := dropF S.F lw } ∧ Stp c w c u ∧ Lst u w.heap.size (.slice x ln dd) L) d u := hj0
    clear hj0
    have h1 := hj.fin (hall 7 (by decide))
    have H1 : Hid (SH u c A { S with F := dropF S.F lw } ∧ Stp c w c u ∧ Lst u w.heap.size (.slice x ln dd) L) := h1
    clear hall hj h1
    refine norm_list' (L' := [_, _, _, _, _, _, _, _, _, _, _, _, _, _, _, _, _, _, _, _, _, _, _, _, _, _, _, _, _, _, _, _, _, _, _, _, _, _, _, _]) rfl ?_
    go_wp2
    go_loopg [25] ln (fun m q wr => ∃ k : Nat, q = .int .i64 k ∧ k ≤ ln ∧ m = ln - k ∧ Hid (SH wr c A { S with F := dropF S.F lw, T := useT S.n 1 false S.T (L.take k) } ∧ Stp c w c wr ∧ Lst wr w.heap.size (.slice x ln dd) L))
    case atStart => exact ⟨0, rfl, by omega, by omega, H1⟩
    case round =>
      obtain ⟨k, rfl, hk, hm, hw⟩ := hrel
      have HM : Hid _ := hm
      clear hm
      by_cases hlt : k < ln
      · have hlt2 : k < L.length := by have := HLN.out; omega
        obtain ⟨g, o, rfl, hgl, hc⟩ := hw.out.2.2.rdi (by omega)
        have a0 := hc k hlt2
        have c0 := hw.out.1.head.blk.at 0 rfl
        have hst : Hid (setT S.n (useT S.n 1 false S.T (L.take k)) L[k] 1 false false = useT S.n 1 false S.T (L.take (k + 1))) := useT_take hlt2
        have C := tset_any L[k] 1 false false wr hw.out.1.tab
        have NW : Hid (∀ k, w.heap.size ≤ k → c k = 0) := fun k hk => HS.out.new hk
        clear hc
        generalize L[k] = z at *
        go_wp2_with fail
        refine C.mono ?_
        rintro e w2 ⟨rfl, t2, m2⟩
        have H2 : Hid (SH w2 c A { S with F := dropF S.F lw, T := useT S.n 1 false S.T (L.take (k + 1)) } ∧ Stp c w c w2 ∧ Lst w2 w.heap.size (.slice (some ⟨g, o, none⟩) ln dd) L) := by
          rw [← hst.out]
          refine ⟨hw.out.1.tabs t2 m2, hw.out.2.1.trans (hw.out.1.stpt m2), hw.out.2.2.muts m2 fun k hk q => ?_⟩
          simp only [List.mem_singleton] at q
          have h1 := NW.out k (hw.out.2.2.lt k hk).1
          have h2 := HS.out.ctg
          rw [← q, h1] at h2; cases h2
        clear t2 m2 c0 a0 C hw hst
        go_wp2
        go_roundg (gk - 1)
        all_goals (have := HM.out; try omega)
        exact ⟨k + 1, by go_num, by omega, by omega, H2⟩
      · obtain rfl : k = ln := by omega
        have e1 : L.take k = L := by rw [HLN.out, List.take_length]
        rw [e1] at hw
        obtain ⟨v, s1, s2, s3⟩ := hw.out.1.stk i HI0.out
        have CP := sput_yes (c := dd) (x := x) (N := L) wr s1 hw.out.2.2.rdi (by have := HR1.out; have := HLN.out; omega)
        rw [← HLN.out] at CP
        go_wp2_with fail
        refine CP.mono ?_
        rintro e w3 ⟨rfl, v', t3, m3, f3⟩
        have H3 := SH.stks hw.out.1 HI0.out s2 s3 t3 m3 (fun k hk => hk) f3
        have hF : ∃ c', SH w3 c' A (S.fill i) ∧ Stp c w c' w3 := by
          rw [HFL.out]
          exact ⟨_, H3.1, hw.out.2.1.trans H3.2⟩
        have HF : Hid (∃ c', SH w3 c' A (S.fill i) ∧ Stp c w c' w3) := hF
        clear hF
        clear CP s1 s2 s3 t3 m3 f3 H3 hw
        go_wp2
        go_end0
        exact ⟨rfl, HF.out⟩
end
end Go.Proofs.Ytiigmmmhhpdmdaa

