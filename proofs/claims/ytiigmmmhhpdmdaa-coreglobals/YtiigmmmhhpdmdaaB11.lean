/-
  The modules SpcH, Row, one behind another.
-/
import Derived.Laws.Tables
import Derived.Test.YtiigmmmhhpdmdaaB01
import Derived.Test.YtiigmmmhhpdmdaaB08
import Derived.Test.YtiigmmmhhpdmdaaB09
import Derived.Test.YtiigmmmhhpdmdaaB10
/-
  Contracts of package space: Serve, Wants.
-/
namespace Go.Proofs.Ytiigmmmhhpdmdaa
open Go.RowKit

/-- Operation c turns the world, and then operation s does. -/
def J3 (c s : Nat) (P0 P1 P2 : World → Prop) (d : Nat → Bool) (u : World) : Prop := (d c = false → P0 u) ∧ (d c = true → d s = false → P1 u) ∧ (d s = true → P2 u)
section
variable {c s : Nat} {P0 P1 P2 Q1 : World → Prop} {d : Nat → Bool} {u : World}
theorem J3.start (h : P0 u) : J3 c s P0 P1 P2 (fun _ => false) u := ⟨fun _ => h, fun e => absurd e (by simp), fun e => absurd e (by simp)⟩
theorem J3.plain (h : J3 c s P0 P1 P2 d u) (k : Nat) (hk : k ≠ c) (hs : k ≠ s) : J3 c s P0 P1 P2 (done d k) u := by
  have e : done d k c = d c := by simp [done, Ne.symm hk]
  have e2 : done d k s = d s := by simp [done, Ne.symm hs]
  unfold J3
  rw [e, e2]
  exact h
theorem J3.now (h : J3 c s P0 P1 P2 d u) (hk : d c = false) : P0 u := h.1 hk
theorem J3.mid (h : J3 c s P0 P1 P2 d u) (hk : d c = true) (hs : d s = false) : P1 u := h.2.1 hk hs
theorem J3.fin (h : J3 c s P0 P1 P2 d u) (hs : d s = true) : P2 u := h.2.2 hs
theorem J3.turn (_h : J3 c s P0 P1 P2 d u) (hne : c ≠ s) (_ : d c = false) {u' : World} (h' : Q1 u') (hs : d s = false) : J3 c s P0 Q1 P2 (done d c) u' := by
  have e : done d c c = true := by simp [done]
  have e2 : done d c s = d s := by simp [done, Ne.symm hne]
  unfold J3
  rw [e, e2]
  exact ⟨(fun q => by cases q), (fun _ _ => h'), (fun q => by rw [hs] at q; cases q)⟩
theorem J3.turn2 (_h : J3 c s P0 P1 P2 d u) (hc : d c = true) (hne : c ≠ s) {u' : World} (h' : P2 u') : J3 c s P0 P1 P2 (done d s) u' := by
  have e : done d s s = true := by simp [done]
  have e2 : done d s c = d c := by simp [done, hne]
  unfold J3
  rw [e, e2, hc]
  exact ⟨(fun q => by cases q), (fun _ q => by cases q), (fun _ => h')⟩
end

def Sp.hd (S : Sp) : Option Ent := S.E.find? fun e => e.st == 0
/-- The first one that waits, another one in its place. -/
def Sp.setE (S : Sp) (e : Ent) : Sp := { S with E := S.E.set (idx (fun e => e.st == 0) S.E).toNat e }
def Sp.serves (S : Sp) : Bool := match S.hd with
  | none => false
  | some e => fitsB S e.fr e.sp || decide (2 ≤ e.cy)
def Sp.serve (S : Sp) (se : Bool) : Sp := match S.hd with
  | none => S.tick
  | some e => if fitsB S e.fr e.sp then (S.tick.tk e.fr e.sp se).setE { e with st := 1, pl := S.tkA e.fr e.sp, G := takeZ S.n S.F e.fr }
    else if 2 ≤ e.cy then S.tick.setE { e with st := 2 } else S.tick
def Ad.wants (A : Ad) (S : Sp) : Bool := S.fo || decide (0 < (wts S.E).length) || decide ((cntB S.F S.n : Int) < A.C.n7)

theorem wwaits_line {c : Nat → Nat} {A : Ad} {S : Sp} (w : World) (h : SH w c A S) : Calls Try.prog 56 #[.pointer (some ⟨A.lb, 0, none⟩)] w fun e w' => e = .returned (.int .i64 ((wts S.E).length : Int)) ∧ Kept w w' := by
  obtain ⟨v, E, q1, q2, _⟩ := h.line
  have C := lwaits_any w q1
  have hwl : (wts E).length = (wts S.E).length := by
    rw [show S.E = E.map Ent.nrm from q2.symm]
    unfold wts
    rw [List.filter_map, List.length_map]
    rfl
  rwa [hwl] at C
theorem set_nrm (E : List Ent) (i : Nat) (e : Ent) : (E.set i e).map Ent.nrm = (E.map Ent.nrm).set i e.nrm := List.map_set

section
variable {c c' : Nat → Nat} {w w' W : World} {A : Ad} {S : Sp}

set_option maxHeartbeats 4000000 in
theorem wwants_any (w : World) (h : SH w c A S) {kb : Nat} (hk : S.Bd kb) (hkb : kb ≤ 50000) :
    Calls Try.prog 27 #[.pointer (some ⟨A.b, 0, none⟩)] w fun e w' => e = .returned (.bool (A.wants S)) ∧ SH w' c A S.tick ∧ Stp c w c w' := by
  have HS : Hid (SH w c A S) := h
  have hct : 0 ≤ S.ct ∧ S.ct ≤ 50000 := ⟨hk.c0, by have := hk.c1; omega⟩
  have hlen : (wts S.E).length ≤ 50000 := by have := wts_le S.E; have := hk.len; omega
  have c15 := h.head.blk.at 15 rfl
  have f15 := h.head.blk.fz 15
  have HW : Hid (∀ W, w.setCell ⟨A.b, 15, none⟩ (.int .i64 (S.ct + 1)) = W → SH W c A S.tick ∧ Stp c w c W) := fun W hW => by
    rw [← hW]
    exact ⟨h.ticks, h.stph ((Mut.refl _ _).setCell (by simp) _)⟩
  obtain ⟨h0, h1⟩ := hct
  clear h hk hkb
  have HV : Hid (A.wants S = (S.fo || decide (0 < (wts S.E).length) || decide ((cntB S.F S.n : Int) < A.C.n7))) := rfl
  go_enter Try.func27, Try.ntmps27
  go_wp2_with fail
  generalize hW : World.setCell _ _ _ = W
  have HB : Hid (SH W c A S.tick ∧ Stp c w c W) := HW.out W hW
  clear hW HW c15 f15
  have CW : Hid (∀ z : KW W, _) := fun z => wwaits_line z.it (HB.out.1.kept z.ok)
  have CF : Hid (∀ z : KW W, _) := fun z => pfree_any z.it (HB.out.1.kept z.ok).pool
  rw [show S.tick.n = S.n from rfl, show S.tick.F = S.F from rfl] at CF
  rw [show S.tick.E = S.E from rfl] at CW
  have LH := HB.out.1.head.blk.lt
  have b1 := fun z : KW W => z.cell (a := ⟨A.b, 1, none⟩) LH (HB.out.1.head.blk.at 1 rfl)
  have b2 := fun z : KW W => z.cell (a := ⟨A.b, 2, none⟩) LH (HB.out.1.head.blk.at 2 rfl)
  have b11 := fun z : KW W => z.cell (a := ⟨A.b, 11, none⟩) LH (HB.out.1.head.blk.at 11 rfl)
  have b14 := fun z : KW W => z.cell (a := ⟨A.b, 14, none⟩) LH (HB.out.1.head.blk.at 14 rfl)
  rw [show S.tick.fo = S.fo from rfl] at b14
  have E2 : ∀ w', (∃ z : KW W, w' = z.it) → SH w' c A S.tick ∧ Stp c w c w' := fun w' ⟨z, e⟩ => by rw [e]; exact ⟨HB.out.1.kept z.ok, HB.out.2.trans (Stp.kept z.ok)⟩
  have HE2 : Hid (∀ w', (∃ z : KW W, w' = z.it) → SH w' c A S.tick ∧ Stp c w c w') := E2
  clear E2
  generalize (wts S.E).length = wl at *
  generalize (cntB S.F S.n) = cf at *
  generalize A.C.n7 = n7 at *
  generalize S.fo = fo at *
  cases fo
  · by_cases hw : 0 < wl
    · have dw : decide (0 < wl) = true := by simpa using hw
      have hgt : (wl : Int) > 0 := by omega
      rw [dw] at HV
      clear dw
      refine wp_region_kept (by kernel_rfl) (by kernel_rfl) fun _ => ?_
      repeat (go_big_quiet_step (first | (go_at_call 56; exact kept_of (CW.out _)) | (go_at_call 48; exact kept_of_same (CF.out _))))
      refine wpQuiet_nil ?_
      intro w' hz
      have H3 : Hid _ := HE2.out w' hz
      clear hz b1 b2 b11 b14
      go_wp2
      go_ret
      exact ⟨by rw [HV.out] <;> rfl, H3.out⟩
    · have dw : decide (0 < wl) = false := by simpa using hw
      obtain rfl : wl = 0 := by omega
      rw [dw] at HV
      rw [show ((0 : Nat) : Int) = 0 from rfl] at CW
      clear dw hw
      by_cases hn : (cf : Int) < n7
      · have dn : decide ((cf : Int) < n7) = true := by simpa using hn
        rw [dn] at HV
        clear dn
        refine wp_region_kept (by kernel_rfl) (by kernel_rfl) fun _ => ?_
        repeat (go_big_quiet_step (first | (go_at_call 56; exact kept_of (CW.out _)) | (go_at_call 48; exact kept_of_same (CF.out _))))
        refine wpQuiet_nil ?_
        intro w' hz
        have H3 : Hid _ := HE2.out w' hz
        clear hz b1 b2 b11 b14
        go_wp2
        go_ret
        exact ⟨by rw [HV.out] <;> rfl, H3.out⟩
      · have dn : decide ((cf : Int) < n7) = false := by simpa using hn
        rw [dn] at HV
        clear hn
        refine wp_region_kept (by kernel_rfl) (by kernel_rfl) fun _ => ?_
        repeat (go_big_quiet_step (first | (go_at_call 56; exact kept_of (CW.out _)) | (go_at_call 48; exact kept_of_same (CF.out _))))
        refine wpQuiet_nil ?_
        intro w' hz
        have H3 : Hid _ := HE2.out w' hz
        clear hz b1 b2 b11 b14
        go_wp2
        go_ret
        exact ⟨by rw [HV.out] <;> rfl, H3.out⟩
  · rw [Bool.true_or, Bool.true_or] at HV
    refine wp_region_kept (by kernel_rfl) (by kernel_rfl) fun _ => ?_
    repeat (go_big_quiet_step (first | (go_at_call 56; exact kept_of (CW.out _)) | (go_at_call 48; exact kept_of_same (CF.out _))))
    refine wpQuiet_nil ?_
    intro w' hz
    have H3 : Hid _ := HE2.out w' hz
    clear hz b1 b2 b11 b14
    go_wp2
    go_ret
    exact ⟨by rw [HV.out] <;> rfl, H3.out⟩
end
end Go.Proofs.Ytiigmmmhhpdmdaa

/-
  A region in its own order, walked over a frame that is a variable: each operation's value is given, 'J i' is what is known of the world when i operations are done.
-/
namespace Go.Proofs.Ytiigmmmhhpdmdaa
open Go.RowKit

theorem wpOps_row {P : Program} {l : List Oper} {Q : Exit → Act → World → Prop} {a0 : Act} {vals : List Value} {J : Nat → World → Prop} (hn : slotsB a0.tmps.size l = true)
    (step : ∀ i o, l[i]? = some o → ∀ a u, Held a0 a l (fun k => decide (k < i)) vals → J i u → wpOp P l.toArray Q i (fun a' w' => a' = a.put o.dst (vals.getD i undef) ∧ J (i + 1) w') a u)
    (fin : ∀ a u, Held a0 a l (fun k => decide (k < l.length)) vals → J l.length u → Q .normal a u) :
    ∀ (m i : Nat), i + m = l.length → ∀ (a : Act) (u : World), Held a0 a l (fun k => decide (k < i)) vals → J i u → wpOps P l.toArray Q (List.range' i m) a u
  | 0, i, h, a, u, hh, hj => by
    obtain rfl : i = l.length := by omega
    exact fin a u hh hj
  | m + 1, i, h, a, u, hh, hj => by
    rw [List.range'_succ, wpOps_cons]
    have hi : i < l.length := by omega
    have ho : l[i]? = some l[i] := List.getElem?_eq_getElem hi
    refine wpOp_mono ?_ (step i _ ho a u hh hj)
    rintro a' w' ⟨rfl, hj'⟩
    refine wpOps_row hn step fin m (i + 1) (by omega) _ _ ?_ hj'
    have e : done (fun k => decide (k < i)) i = (fun k => decide (k < i + 1)) := by
      funext k
      by_cases hk : k = i
      · subst hk; simp [done]
      · simp [done, hk]; omega
    have := hh.put hn ho
    rwa [e] at this

theorem wp_region_row {P : Program} {id : Nat} {l : List Oper} {Q : Exit → Act → World → Prop} {a0 : Act} {w : World} (vals : List Value) (ps : List (Nat × Nat)) (L : List Value) (J : Nat → World → Prop)
    (hn : slotsB a0.tmps.size l = true) (hp : pairsB l ps = true) (hL : patch vals ps 0 a0.tmps.toList = L) (h0 : J 0 w)
    (step : ∀ i o, l[i]? = some o → ∀ a u, Held a0 a l (fun k => decide (k < i)) vals → J i u → wpOp P l.toArray Q i (fun a' w' => a' = a.put o.dst (vals.getD i undef) ∧ J (i + 1) w') a u)
    (fin : ∀ u, J l.length u → Q .normal ⟨L.toArray, a0.defers⟩ u) :
    (Code.region id l.toArray false).wp P Q a0 w := by
  refine wp_region ?_
  rw [List.range_eq_range']
  refine wpOps_row (J := J) hn step (fun a u hh hj => ?_) _ 0 (by simp) a0 w ⟨rfl, rfl, fun i o s _ _ h => absurd h (by simp), fun _ _ => rfl⟩ h0
  rw [hh.patched ps hp (fun i hi => by simpa using hi), hL]
  exact fin u hj

theorem wp_build_to {P : Program} {o : Oper} {a : Act} {w : World} {K : Act → World → Prop} {Q : Exit → Act → World → Prop} (t : TypeId) (parts : Array (Nat × Operand)) (ho : o.op = .build t parts) (cells : Array Value)
    (hf : P.built t (parts.map fun (i, x) => (i, a.eval x)).toList = some cells) (h : K (a.put o.dst (.agg cells)) w) : o.wp P a w K Q :=
  wp_build t parts ho (by rw [hf]; rfl) (by rw [hf]; exact h)

theorem kept_setRow {w w' : World} {g : Nat} (h : Kept w w') (hg : w.heap.size ≤ g) (cs : Array Value) : Kept w (w'.setRow g cs) :=
  ⟨h.below.trans ⟨rfl, rfl, rfl, by simp, fun k hk => setRow_other _ _ _ _ (by omega)⟩⟩
/-- A struct stored whole into a block that was laid just now. -/
theorem wp_store_new {P : Program} {o : Oper} {a : Act} {w : World} {old : Array Value} {t : TypeId} {K : Act → World → Prop} {Q : Exit → Act → World → Prop} (ty : TypeId) (x y : Operand) (ho : o.op = .store ty x y)
    (cells : List Value) (hx : a.eval x = .pointer (some ⟨w.heap.size, 0, none⟩)) (hy : a.eval y = .agg cells.toArray) (hi : (P.info? ty).map (·.size) = some cells.length)
    (hold : old.size = cells.length) (h1 : cells.toArray.all (·.oneCell') = true)
    (h : ∀ w2, Own w2 w.heap.size t cells → Kept w w2 → K (a.put o.dst undef) w2) : o.wp P a (w.alloc (.cells old t)) K Q :=
  wp_store_row ty x y ho w.heap.size cells.toArray hx hy t old (heap_alloc_new w _) (by simpa using hi) (by simpa using hold) h1 (h _ (setRow_heap _ _ _ _ _ _ (heap_alloc_new w _)) (kept_setRow ((Kept.refl w).alloc _ _) (Nat.le_refl _) _))
end Go.Proofs.Ytiigmmmhhpdmdaa

