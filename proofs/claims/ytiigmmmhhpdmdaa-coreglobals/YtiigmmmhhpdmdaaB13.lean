/-
  The modules Pile15, Shade, ShadeB, Hand, HandNew, one behind another.
-/
import Derived.Deep.CutBlock
import Derived.Test.YtiigmmmhhpdmdaaB01
import Derived.Test.YtiigmmmhhpdmdaaB03
/-
  Contracts of package pile: a pile as it lies in memory (and the document's shade, which holds one); New, Push, Pop, Found, Lost, Len.
-/
namespace Go.Proofs.Ytiigmmmhhpdmdaa
open Go.RowKit

/-- A pile (of head type t, other cells A ahead and B behind) at block b, with room for most, that holds the numbers T in the slice v; z: something was lost. -/
structure QTab (t : TypeId) (A B : List Value) (w : World) (base b most : Nat) (v : Value) (T : List Int) (z : Bool) : Prop where
  head : Own w b t (A ++ .int .i64 (most : Int) :: v :: .bool z :: B)
  lst : Lst w base v T
  few : T.length ≤ most
  max : most ≤ 256
  lo : base ≤ b
  ty : t ≠ 3

theorem set_mid1 (A B : List Value) (x y z u : Value) : (A ++ x :: y :: z :: B).set (A.length + 1) u = A ++ x :: u :: z :: B := by
  induction A with
  | nil => rfl
  | cons a A ih => simp [ih]
theorem set_mid2 (A B : List Value) (x y z u : Value) : (A ++ x :: y :: z :: B).set (A.length + 2) u = A ++ x :: y :: u :: B := by
  induction A with
  | nil => rfl
  | cons a A ih => simp [ih]

section
variable {t : TypeId} {A B : List Value} {w w' w'' : World} {base b most : Nat} {v v' : Value} {T T' : List Int} {z z' : Bool}
/-- Blocks of two types are two. -/
theorem Own.neq {b' : Nat} {t' : TypeId} {L L' : List Value} (h : Own w b t L) (k : Own w b' t' L') (ht : t ≠ t') : b ≠ b' := by
  rintro rfl
  unfold Own at h k
  rw [h] at k
  simp only [Option.some.injEq, Obj.cells.injEq] at k
  exact ht k.2.1
theorem QTab.ne (h : QTab t A B w base b most v T z) : v.ownBlock ≠ some b := h.head.nelst h.lst h.ty
theorem QTab.fz (h : QTab t A B w base b most v T z) (i : Nat) : w.frozen? ⟨b, i, none⟩ = false := h.head.blk.fz i
theorem QTab.kept (h : QTab t A B w base b most v T z) (k : Kept w w') : QTab t A B w' base b most v T z := ⟨h.head.kept k, h.lst.kept k, h.few, h.max, h.lo, h.ty⟩
theorem QTab.muts {D : List Nat} (h : QTab t A B w base b most v T z) (m : Mut D w w') (hb : b ∉ D) (hd : ∀ k, v.ownBlock = some k → k ∉ D) : QTab t A B w' base b most v T z := ⟨h.head.muts m hb, h.lst.muts m hd, h.few, h.max, h.lo, h.ty⟩
theorem QTab.ltb (h : QTab t A B w base b most v T z) : b < w.heap.size := h.head.lt
theorem QTab.base_le (h : QTab t A B w base b most v T z) : base ≤ w.heap.size := Nat.le_of_lt (Nat.lt_of_le_of_lt h.lo h.ltb)
theorem QTab.own (h : QTab t A B w base b most v T z) : ∀ k, k ∈ b :: v.ownBlock.toList → base ≤ k ∧ k < w.heap.size := fun k hk => by
  simp at hk
  rcases hk with rfl | hk
  · exact ⟨h.lo, h.ltb⟩
  · exact h.lst.lt k hk
/-- Another list behind the head. -/
theorem QTab.turn (h : QTab t A B w base b most v T z) (o : Own w' b t (A ++ .int .i64 (most : Int) :: v :: .bool z :: B)) (l : Lst w' base v' T') (hf : T'.length ≤ most) :
    QTab t A B (w'.setCell ⟨b, A.length + 1, none⟩ v') base b most v' T' z :=
  ⟨by have := o.set (A.length + 1) v'; rwa [set_mid1] at this, l.muts (D := [b]) ((Mut.refl _ _).setCell (by simp) _) (fun k hk hd => by
    simp at hd
    subst hd
    exact o.nelst l h.ty hk), hf, h.max, h.lo, h.ty⟩
theorem QTab.flag (h : QTab t A B w base b most v T z) (z' : Bool) : QTab t A B (w.setCell ⟨b, A.length + 2, none⟩ (.bool z')) base b most v T z' :=
  ⟨by have := h.head.set (A.length + 2) (.bool z'); rwa [set_mid2] at this, h.lst.muts (D := [b]) ((Mut.refl _ _).setCell (by simp) _) (fun k hk hd => by
    simp at hd
    subst hd
    exact h.ne hk), h.few, h.max, h.lo, h.ty⟩

/-- A list without its last one. -/
theorem Lst.init {x : Option Addr} {l c : Nat} {i : Int} (h : Lst w base (.slice x l c) (T ++ [i])) : ∃ g, x = some ⟨g, 0, none⟩ ∧ l = T.length + 1 ∧ l ≤ c ∧ Lst w base (.slice (some ⟨g, 0, none⟩) T.length c) T ∧ w.cell? ⟨g, T.length, none⟩ = some (.int .i64 i) := by
  obtain ⟨x', c', e⟩ := h.form
  obtain ⟨_, e2, _⟩ := Value.slice.inj e
  rw [List.length_append, List.length_singleton] at e2
  subst e2
  rcases h.2 with ⟨e, h0⟩ | ⟨g, cap, cur, e, hb, hg, _⟩
  · simp at h0
  · obtain ⟨e1, _, e3⟩ := Value.slice.inj e
    subst e1 e3
    obtain ⟨h1, h2, h3, f, hr, hf⟩ := h.row
    simp only [List.length_append, List.length_singleton] at h1
    refine ⟨g, rfl, rfl, h1, lst_of_row hr (fun j hj => ?_) (by omega) h2 h3, ?_⟩
    · rw [hf j (by simp; omega), List.getElem_append_left hj]
    · rw [hr.cell (by omega), hf T.length (by simp)]
      simp
end

theorem rdi_lit (w : World) (C : List Int) : Rdi (w.alloc (.cells (C.map (Value.int .i64)).toArray 3)) (some ⟨w.heap.size, 0, none⟩) C := fun _ => ⟨w.heap.size, 0, rfl, by simp, fun j hj => by simp [hj]⟩

/-- A pile of package pile. -/
abbrev PT := QTab 194 [] []

section
variable {w : World} {base b most : Nat} {v : Value} {T : List Int} {z : Bool}
theorem QTab.c0 (h : PT w base b most v T z) : w.cell? ⟨b, 0, none⟩ = some (.int .i64 (most : Int)) := h.head.blk.at 0 rfl
theorem QTab.c1 (h : PT w base b most v T z) : w.cell? ⟨b, 1, none⟩ = some v := h.head.blk.at 1 rfl
theorem QTab.c2 (h : PT w base b most v T z) : w.cell? ⟨b, 2, none⟩ = some (.bool z) := h.head.blk.at 2 rfl
end

set_option maxHeartbeats 800000 in
theorem qnew_bad (n : Int) (w : World) (hn : ¬ (1 ≤ n ∧ n ≤ 256)) :
    Calls Try.prog 71 #[.int .i64 n] w fun e w' => e = .returned (.tuple #[.pointer none, .int .i64 1]) ∧ w' = w := by
  by_cases h0 : n < 1
  · clear hn
    go_enter Try.func71, Try.ntmps71
    go_wp2
    go_ret2
    exact ⟨rfl, rfl⟩
  · have h1 : 256 < n := by omega
    clear hn
    go_enter Try.func71, Try.ntmps71
    go_wp2
    go_ret2
    exact ⟨rfl, rfl⟩

set_option maxHeartbeats 800000 in
theorem qnew_any (n : Nat) (w : World) (h1 : 1 ≤ (n : Int)) (hn : (n : Int) ≤ 256) {base : Nat} (hb : base ≤ w.heap.size) :
    Calls Try.prog 71 #[.int .i64 n] w fun e w' => ∃ b, e = .returned (.tuple #[.pointer (some ⟨b, 0, none⟩), .int .i64 0]) ∧ PT w' base b n (.slice none 0 0) [] false ∧ Kept w w' ∧ w.heap.size ≤ b := by
  have HO : Hid (∀ w' : World, base ≤ w'.heap.size → PT (w'.alloc (.cells #[.int .i64 (n : Int), .slice none 0 0, .bool false] 194)) base w'.heap.size n (.slice none 0 0) [] false) := fun w' hb => ⟨Own.new w' [.int .i64 (n : Int), .slice none 0 0, .bool false] _, Lst.nil _ _, by simp, by omega, hb, by decide⟩
  have HK : Hid (base ≤ w.heap.size) := hb
  clear hb
  go_enter Try.func71, Try.ntmps71
  go_wp2
  go_ret2
  exact ⟨_, rfl, HO.out w HK.out, (Kept.refl _).alloc _ _, by omega⟩

set_option maxHeartbeats 400000 in
theorem qlen_any {base b most : Nat} {v : Value} {T : List Int} {z : Bool} (w : World) (h : PT w base b most v T z) :
    Calls Try.prog 65 #[.pointer (some ⟨b, 0, none⟩)] w fun e w' => e = .returned (.int .i64 (T.length : Int)) ∧ w' = w := by
  obtain ⟨x, c, rfl⟩ := h.lst.form
  have c1 := h.c1
  have h1 := h.few
  have h2 := h.max
  clear h
  go_enter Try.func65, Try.ntmps65
  go_wp2
  go_ret
  exact ⟨rfl, rfl⟩

set_option maxHeartbeats 1000000 in
theorem qpush_no {base b most : Nat} {v : Value} {T : List Int} {z : Bool} (i : Int) (w : World) (h : PT w base b most v T z) (hf : T.length = most) :
    Calls Try.prog 88 #[.pointer (some ⟨b, 0, none⟩), .int .i64 i] w fun e w' => e = .returned (.bool false) ∧ PT w' base b most v T true ∧ Mut [b] w w' := by
  have HT : Hid (PT w base b most v T z) := h
  obtain ⟨x, c, rfl⟩ := h.lst.form
  have c0 := h.c0
  have c1 := h.c1
  have c2 := h.c2
  have cf := h.fz
  have h2 := h.max
  clear h
  subst hf
  generalize hT : T.length = m at *
  have HE : Hid (T.length = m) := hT
  clear hT
  go_enter Try.func88, Try.ntmps88
  go_wp2
  go_region
  all_goals go_wp2
  all_goals go_ret
  all_goals exact ⟨rfl, (HT.out.kept (Kept.refl _).drew).flag true, ((Mut.refl _ _).drew).setCell (by simp) _⟩

set_option maxHeartbeats 1000000 in
theorem qpush_yes {base b most : Nat} {v : Value} {T : List Int} {z : Bool} (i : Int) (w : World) (h : PT w base b most v T z) (hf : T.length < most) :
    Calls Try.prog 88 #[.pointer (some ⟨b, 0, none⟩), .int .i64 i] w fun e w' => e = .returned (.bool true) ∧ ∃ v', PT w' base b most v' (T ++ [i]) z ∧ Mut (b :: v.ownBlock.toList) w w' ∧ Fresh w v v' := by
  have HT : Hid (PT w base b most v T z) := h
  obtain ⟨x, c, rfl⟩ := h.lst.form
  have c0 := h.c0
  have c1 := h.c1
  have h2 := h.max
  have HF : Hid (T.length < most) := hf
  have ne : (T.length : Int) ≠ (most : Int) := by omega
  clear h hf
  go_enter Try.func88, Try.ntmps88
  go_wp2
  go_region
  have H1 : Hid (PT w.drew base b most (.slice x T.length c) T z ∧ Kept w w.drew) := ⟨HT.out.kept (Kept.refl _).drew, (Kept.refl _).drew⟩
  clear c0 c1
  generalize w.drew = w1 at *
  have HA : Hid (PT (w1.alloc (.cells #[.int .i64 i] 3)) base b most (.slice x T.length c) T z ∧ Kept w (w1.alloc (.cells #[.int .i64 i] 3))) := ⟨H1.out.1.kept ((Kept.refl _).alloc _ _), H1.out.2.alloc _ _⟩
  have HX : Hid (Rdi (w1.alloc (.cells #[.int .i64 i] 3)) (some ⟨w1.heap.size, 0, none⟩) [i]) := rdi_lit w1 [i]
  have c1 := H1.out.1.c1
  have z1 : base ≤ (w1.alloc (.cells #[.int .i64 i] 3)).heap.size := HA.out.1.base_le
  have z2 : T.length + [i].length ≤ 1000000 := by have := HF.out; simp; omega
  clear H1
  go_wp2_with (at_builtin; refine wpList_append_lst (T := T) (N := [i]) rfl _ _ rfl rfl HA.out.1.lst z1 rfl rfl HX.out z2 ?_)
  intro v2 w2 l2 m2 f2
  have O2 : Hid (Own w2 b 194 [.int .i64 (most : Int), .slice x T.length c, .bool z]) := HA.out.1.head.muts m2 (by simpa using HA.out.1.ne)
  have H2 : Hid (PT (w2.setCell ⟨b, 1, none⟩ v2) base b most v2 (T ++ [i]) z ∧ Mut (b :: (Value.slice x T.length c).ownBlock.toList) w (w2.setCell ⟨b, 1, none⟩ v2) ∧ Fresh w (Value.slice x T.length c) v2) := by
    refine ⟨HA.out.1.turn O2.out l2 (by have := HF.out; simp; omega), ?_, fun k hk => ?_⟩
    · exact (HA.out.2.mut.trans (m2.wide fun k hk => by simp at hk ⊢; exact .inr hk)).setCell (by simp) _
    · rcases f2 k hk with e | e
      · exact .inl e
      · exact .inr (by have := HA.out.2.size; omega)
  have cf := O2.out.blk.fz
  have ck := O2.out.blk.at 1 rfl
  obtain ⟨y2, d2, e2⟩ := l2.form
  rw [List.length_append] at e2
  subst e2
  clear l2 m2 f2 c1
  go_wp2
  go_ret
  exact ⟨rfl, _, H2.out⟩

end Go.Proofs.Ytiigmmmhhpdmdaa

/-
  Contracts of package shade: a shade as it lies in memory (its head, its table, its pile); each method answers as a plain function of it.
-/
namespace Go.Proofs.Ytiigmmmhhpdmdaa
open Go.RowKit

/-- What is there behind Push, and whether something is lost. -/
def pushT (n : Nat) (T : List Int) (i : Int) : List Int := if T.length < n then T ++ [i] else T
def pushZ (n : Nat) (T : List Int) (z : Bool) : Bool := if T.length < n then z else true
def topI (T : List Int) : Int := T.getLastD 0
def isI (T : List Int) : Bool := decide (T ≠ [])

theorem qpush_any {base b most : Nat} {v : Value} {T : List Int} {z : Bool} (i : Int) (w : World) (h : PT w base b most v T z) :
    Calls Try.prog 88 #[.pointer (some ⟨b, 0, none⟩), .int .i64 i] w fun e w' => e = .returned (.bool (decide (T.length < most))) ∧ ∃ v', PT w' base b most v' (pushT most T i) (pushZ most T z) ∧ Mut (b :: v.ownBlock.toList) w w' ∧ Fresh w v v' := by
  by_cases hf : T.length < most
  · refine (qpush_yes i w h hf).mono fun e w' ⟨he, v', a1, a2, a3⟩ => ⟨by simpa [hf] using he, v', by simpa [pushT, pushZ, hf] using a1, a2, a3⟩
  · refine (qpush_no i w h (by have := h.few; omega)).mono fun e w' ⟨he, a1, a2⟩ => ⟨by simpa [hf] using he, v, by simpa [pushT, pushZ, hf] using a1, a2.wide fun k hk => by simp at hk; simp [hk], Fresh.same _ _⟩
/-- A shade: so many fragments, room for so many; what they are; the pile; lost; counted. -/
structure ShS where
  n : Nat
  most : Nat
  T : Nat → Fr
  P : List Int
  z : Bool
  c : Nat

def ShS.tick (S : ShS) : ShS := ⟨S.n, S.most, S.T, S.P, S.z, S.c + 1⟩
def greyB (S : ShS) (i : Int) (s : Bool) : Bool := hdd S.n S.T i && markB S.n S.T i s
def layS (S : ShS) (i : Int) (s : Bool) : ShS := if greyB S i s then ⟨S.n, S.most, markT S.n S.T i s, pushT S.most S.P i, pushZ S.most S.P S.z, S.c⟩ else S
def greyS (S : ShS) (i : Int) (s : Bool) : ShS := layS S.tick i s
def blackB (S : ShS) (i : Int) (s : Bool) : Bool := hdd S.n S.T i && blk S.n S.T i s
def ShS.mark (S : ShS) (i : Int) (s : Bool) : ShS := ⟨S.n, S.most, markT S.n S.T i s, S.P, S.z, S.c⟩
def ShS.set (S : ShS) (i st : Int) (h s : Bool) : ShS := ⟨S.n, S.most, setT S.n S.T i st h s, S.P, S.z, S.c⟩
def ShS.born (S : ShS) (i : Int) : ShS := ⟨S.n, S.most, bornT S.n S.T i, S.P, S.z, S.c⟩
def ShS.pop (S : ShS) : ShS := ⟨S.n, S.most, S.T, S.P.dropLast, S.z, S.c⟩
def ShS.found (S : ShS) : ShS := ⟨S.n, S.most, S.T, S.P, false, S.c⟩
/-- A new one. -/
def ShS.new (n most : Nat) : ShS := ⟨n, most, T0, [], false, 0⟩

/-- A shade at block b: its table at tb (fragments at g), its pile at pb (numbers in v). -/
structure ShC (w : World) (base b tb g pb : Nat) (v : Value) (S : ShS) : Prop where
  head : Own w b 102 [.pointer (some ⟨tb, 0, none⟩), .pointer (some ⟨pb, 0, none⟩), .int .i64 (S.c : Int)]
  tab : Tab w tb g S.n S.T
  pile : PT w base pb S.most v S.P S.z
  lob : base ≤ b
  lot : base ≤ tb
  log : base ≤ g

/-- All that it reaches. -/
def ShF (b tb g pb : Nat) (v : Value) : List Nat := b :: tb :: g :: pb :: v.ownBlock.toList

theorem lst_ne_row {w : World} {base g n : Nat} {e : TypeId} {f : Nat → Value} {v : Value} {T : List Int} (l : Lst w base v T) (r : w.rowIs g e n f) (he : e ≠ 3) : v.ownBlock ≠ some g := fun q => by
  rcases l.2 with ⟨rfl, _⟩ | ⟨g', cap, cur, rfl, _, hg, _⟩
  · cases q
  · obtain rfl : g' = g := by simpa [Value.ownBlock] using q
    obtain ⟨c, hc, _⟩ := r
    rw [hg] at hc
    simp only [Option.some.injEq, Obj.cells.injEq] at hc
    exact he hc.2.1.symm

section
variable {w w' : World} {base b tb g pb : Nat} {v v' : Value} {S : ShS}
theorem ShC.kept (h : ShC w base b tb g pb v S) (k : Kept w w') : ShC w' base b tb g pb v S := ⟨h.head.kept k, h.tab.kept k, h.pile.kept k, h.lob, h.lot, h.log⟩
theorem ShC.muts {D : List Nat} (h : ShC w base b tb g pb v S) (m : Mut D w w') (hd : ∀ k, k ∈ ShF b tb g pb v → k ∉ D) : ShC w' base b tb g pb v S :=
  ⟨h.head.muts m (hd _ (by simp [ShF])), h.tab.muts m (hd _ (by simp [ShF])) (hd _ (by simp [ShF])), h.pile.muts m (hd _ (by simp [ShF])) (fun k hk => hd _ (by simp [ShF, hk])), h.lob, h.lot, h.log⟩
theorem ShC.own (h : ShC w base b tb g pb v S) : ∀ k, k ∈ ShF b tb g pb v → base ≤ k ∧ k < w.heap.size := fun k hk => by
  simp only [ShF, List.mem_cons] at hk
  rcases hk with rfl | rfl | rfl | hk
  · exact ⟨h.lob, h.head.lt⟩
  · exact ⟨h.lot, h.tab.head.lt⟩
  · exact ⟨h.log, h.tab.row.lt⟩
  · exact h.pile.own k (by simpa using hk)
theorem ShC.nbt (h : ShC w base b tb g pb v S) : b ≠ tb := h.head.neq h.tab.head (by decide)
theorem ShC.nbg (h : ShC w base b tb g pb v S) : b ≠ g := h.head.ne h.tab.row (by decide)
theorem ShC.nbp (h : ShC w base b tb g pb v S) : b ≠ pb := h.head.neq h.pile.head (by decide)
theorem ShC.nbv (h : ShC w base b tb g pb v S) : v.ownBlock ≠ some b := h.head.nelst h.pile.lst (by decide)
theorem ShC.ntp (h : ShC w base b tb g pb v S) : tb ≠ pb := h.tab.head.neq h.pile.head (by decide)
theorem ShC.ntv (h : ShC w base b tb g pb v S) : v.ownBlock ≠ some tb := h.tab.head.nelst h.pile.lst (by decide)
theorem ShC.npg (h : ShC w base b tb g pb v S) : pb ≠ g := h.pile.head.ne h.tab.row (by decide)
theorem ShC.ngv (h : ShC w base b tb g pb v S) : v.ownBlock ≠ some g := lst_ne_row h.pile.lst h.tab.row (by decide)
theorem ShC.c0 (h : ShC w base b tb g pb v S) : w.cell? ⟨b, 0, none⟩ = some (.pointer (some ⟨tb, 0, none⟩)) := h.head.blk.at 0 rfl
theorem ShC.c1 (h : ShC w base b tb g pb v S) : w.cell? ⟨b, 1, none⟩ = some (.pointer (some ⟨pb, 0, none⟩)) := h.head.blk.at 1 rfl
theorem ShC.c2 (h : ShC w base b tb g pb v S) : w.cell? ⟨b, 2, none⟩ = some (.int .i64 (S.c : Int)) := h.head.blk.at 2 rfl
theorem ShC.fz (h : ShC w base b tb g pb v S) (i : Nat) : w.frozen? ⟨b, i, none⟩ = false := h.head.blk.fz i
/-- Counted once more. -/
theorem ShC.ticks (h : ShC w base b tb g pb v S) : ShC (w.setCell ⟨b, 2, none⟩ (.int .i64 ((S.c : Int) + 1))) base b tb g pb v S.tick := by
  have m : Mut [b] w (w.setCell ⟨b, 2, none⟩ (.int .i64 ((S.c : Int) + 1))) := (Mut.refl _ _).setCell (by simp) _
  exact ⟨by simpa [ShS.tick] using h.head.set 2 (.int .i64 ((S.c : Int) + 1)), h.tab.muts m (by simpa using h.nbt.symm) (by simpa using h.nbg.symm), h.pile.muts m (by simpa using h.nbp.symm) (fun k hk hd => by simp at hd; subst hd; exact h.nbv hk), h.lob, h.lot, h.log⟩
/-- Another table. -/
theorem ShC.tabs (h : ShC w base b tb g pb v S) {T : Nat → Fr} (t : Tab w' tb g S.n T) (m : Mut [g] w w') : ShC w' base b tb g pb v ⟨S.n, S.most, T, S.P, S.z, S.c⟩ :=
  ⟨h.head.muts m (by simpa using h.nbg), t, h.pile.muts m (by simpa using h.npg) (fun k hk hd => by simp at hd; subst hd; exact h.ngv hk), h.lob, h.lot, h.log⟩
/-- Another pile. -/
theorem ShC.piles (h : ShC w base b tb g pb v S) {P : List Int} {z : Bool} (p : PT w' base pb S.most v' P z) (m : Mut (pb :: v.ownBlock.toList) w w') : ShC w' base b tb g pb v' ⟨S.n, S.most, S.T, P, z, S.c⟩ :=
  ⟨h.head.muts m (by simp; exact ⟨h.nbp, h.nbv⟩), h.tab.muts m (by simp; exact ⟨h.ntp, h.ntv⟩) (by simp; exact ⟨h.npg.symm, h.ngv⟩), p, h.lob, h.lot, h.log⟩
theorem muf_g {u u' : World} (m : Mut [g] u u') : Mut (ShF b tb g pb v) u u' := m.wide fun k hk => by simp at hk; simp [ShF, hk]
theorem muf_p {u u' : World} (m : Mut (pb :: v.ownBlock.toList) u u') : Mut (ShF b tb g pb v) u u' := m.wide fun k hk => by
  simp at hk
  simp [ShF]
  rcases hk with h | h
  · simp [h]
  · simp [h]
end

set_option maxHeartbeats 1000000 in
theorem dlay_any {base b tb g pb : Nat} {v : Value} {S : ShS} (i : Int) (s : Bool) (w : World) (h : ShC w base b tb g pb v S) :
    Calls Try.prog 50 #[.agg #[.pointer (some ⟨tb, 0, none⟩), .pointer (some ⟨pb, 0, none⟩)], .int .i64 i, .bool s] w fun e w' => e = .returned (.bool (greyB S i s)) ∧ ∃ v', ShC w' base b tb g pb v' (layS S i s) ∧ Mut (ShF b tb g pb v) w w' ∧ Fresh w v v' := by
  have HA : Hid (ShC (w.alloc (.cells #[.pointer (some ⟨tb, 0, none⟩), .pointer (some ⟨pb, 0, none⟩)] 100)) base b tb g pb v S ∧ Own (w.alloc (.cells #[.pointer (some ⟨tb, 0, none⟩), .pointer (some ⟨pb, 0, none⟩)] 100)) w.heap.size 100 [.pointer (some ⟨tb, 0, none⟩), .pointer (some ⟨pb, 0, none⟩)]) := ⟨h.kept ((Kept.refl w).alloc _ _), Own.new _ _ _⟩
  have HM : Hid (∀ C t, Kept w (w.alloc (.cells C t))) := fun C t => (Kept.refl w).alloc C t
  clear h
  cases hh : hdd S.n S.T i
  · have e1 : greyB S i s = false := by simp [greyB, hh]
    have e2 : layS S i s = S := by simp [layS, e1]
    rw [e1, e2]
    clear e1 e2
    go_enter Try.func50, Try.ntmps50
    go_wp2_with fail
    refine (thead_any i _ HA.out.1.tab).mono ?_
    rintro e w1 ⟨rfl, rfl⟩
    rw [hh]
    go_wp2
    go_ret
    exact ⟨rfl, v, HA.out.1, (HM.out _ _).mut, Fresh.same _ _⟩
  · cases hm : markB S.n S.T i s
    · have e1 : greyB S i s = false := by simp [greyB, hm]
      have e2 : layS S i s = S := by simp [layS, e1]
      rw [e1, e2]
      clear e1 e2
      have HE : Hid (markT S.n S.T i s = S.T) := by simp [Hid, markT, hm]
      go_enter Try.func50, Try.ntmps50
      go_wp2_with fail
      refine (thead_any i _ HA.out.1.tab).mono ?_
      rintro e w1 ⟨rfl, rfl⟩
      rw [hh]
      go_wp2_with fail
      refine (tmark_any i s _ HA.out.1.tab).mono ?_
      rintro e w2 ⟨rfl, t2, m2⟩
      rw [hm]
      have H2 : Hid (ShC w2 base b tb g pb v S ∧ Mut (ShF b tb g pb v) w w2) := ⟨by have := HA.out.1.tabs t2 m2; rw [HE.out] at this; exact this, (HM.out _ _).mut.trans (muf_g m2)⟩
      clear t2 m2 HA
      go_wp2
      go_ret
      exact ⟨rfl, v, H2.out.1, H2.out.2, Fresh.same _ _⟩
    · have e1 : greyB S i s = true := by simp [greyB, hh, hm]
      have HE : Hid (layS S i s = ⟨S.n, S.most, markT S.n S.T i s, pushT S.most S.P i, pushZ S.most S.P S.z, S.c⟩) := by simp [Hid, layS, e1]
      rw [e1]
      clear e1
      go_enter Try.func50, Try.ntmps50
      go_wp2_with fail
      refine (thead_any i _ HA.out.1.tab).mono ?_
      rintro e w1 ⟨rfl, rfl⟩
      rw [hh]
      go_wp2_with fail
      refine (tmark_any i s _ HA.out.1.tab).mono ?_
      rintro e w2 ⟨rfl, t2, m2⟩
      rw [hm]
      have H2 : Hid (ShC w2 base b tb g pb v ⟨S.n, S.most, markT S.n S.T i s, S.P, S.z, S.c⟩ ∧ Mut (ShF b tb g pb v) w w2) := ⟨HA.out.1.tabs t2 m2, (HM.out _ _).mut.trans (muf_g m2)⟩
      have O2 := (HA.out.2.muts m2 (by simpa using HA.out.2.ne HA.out.1.tab.row (by decide))).blk.at 1 rfl
      clear t2 m2 HA
      go_wp2_with fail
      refine (qpush_any i _ H2.out.1.pile).mono ?_
      rintro e w3 ⟨rfl, v3, p3, m3, f3⟩
      have H3 : Hid (ShC w3 base b tb g pb v3 (layS S i s) ∧ Mut (ShF b tb g pb v) w w3 ∧ Fresh w v v3) := ⟨by rw [HE.out]; exact H2.out.1.piles p3 m3, H2.out.2.trans (muf_p m3), fun k hk => by
        rcases f3 k hk with q | q
        · exact .inl q
        · exact .inr (Nat.le_trans H2.out.2.size q)⟩
      clear p3 m3 f3 H2
      go_wp2
      go_ret
      exact ⟨rfl, v3, H3.out⟩
end Go.Proofs.Ytiigmmmhhpdmdaa

/-
  Contracts of package shade: Table, Grey, Black, Part, Next, Lost, Len, Count, New.
-/
namespace Go.Proofs.Ytiigmmmhhpdmdaa
open Go.RowKit

/-- So often at most. -/
abbrev lots : Nat := 4611686018427387904

section
variable {base b tb g pb : Nat} {v : Value} {S : ShS}
set_option maxHeartbeats 400000 in
theorem dtable_any (w : World) (h : ShC w base b tb g pb v S) :
    Calls Try.prog 10 #[.pointer (some ⟨b, 0, none⟩)] w fun e w' => e = .returned (.pointer (some ⟨tb, 0, none⟩)) ∧ w' = w := by
  have c0 := h.c0
  clear h
  go_enter Try.func10, Try.ntmps10
  go_wp2
  go_ret
  exact ⟨rfl, rfl⟩

set_option maxHeartbeats 400000 in
theorem dcount_any (w : World) (h : ShC w base b tb g pb v S) :
    Calls Try.prog 43 #[.pointer (some ⟨b, 0, none⟩)] w fun e w' => e = .returned (.int .i64 (S.c : Int)) ∧ w' = w := by
  have c2 := h.c2
  clear h
  go_enter Try.func43, Try.ntmps43
  go_wp2
  go_ret
  exact ⟨rfl, rfl⟩

set_option maxHeartbeats 400000 in
theorem dlen_any (w : World) (h : ShC w base b tb g pb v S) :
    Calls Try.prog 25 #[.pointer (some ⟨b, 0, none⟩)] w fun e w' => e = .returned (.int .i64 (S.P.length : Int)) ∧ w' = w := by
  have c1 := h.c1
  have H := qlen_any w h.pile
  clear h
  go_enter Try.func25, Try.ntmps25
  go_wp2_with fail
  refine H.mono ?_
  rintro e w' ⟨rfl, rfl⟩
  go_wp2
  go_ret
  exact ⟨rfl, rfl⟩

set_option maxHeartbeats 400000 in
theorem dgrey_any (i : Int) (s : Bool) (w : World) (h : ShC w base b tb g pb v S) (hc : S.c < lots) :
    Calls Try.prog 20 #[.pointer (some ⟨b, 0, none⟩), .int .i64 i, .bool s] w fun e w' => e = .returned (.bool (greyB S i s)) ∧ ∃ v', ShC w' base b tb g pb v' (greyS S i s) ∧ Mut (ShF b tb g pb v) w w' ∧ Fresh w v v' := by
  have H1 : Hid (ShC (w.setCell ⟨b, 2, none⟩ (.int .i64 ((S.c : Int) + 1))) base b tb g pb v S.tick ∧ Mut (ShF b tb g pb v) w (w.setCell ⟨b, 2, none⟩ (.int .i64 ((S.c : Int) + 1)))) := ⟨h.ticks, (Mut.refl _ _).setCell (by simp [ShF]) _⟩
  have c2 := h.c2
  have cf := h.fz
  have d0 := h.ticks.c0
  have d1 := h.ticks.c1
  clear h
  unfold lots at hc
  generalize S.c = c at *
  go_enter Try.func20, Try.ntmps20
  go_upto_region 2 with fail
  generalize w.setCell _ _ = w1 at *
  clear c2 cf
  go_wp2_with fail
  refine (dlay_any i s _ H1.out.1).mono ?_
  rintro e w2 ⟨rfl, v2, h2, m2, f2⟩
  have H2 : Hid (ShC w2 base b tb g pb v2 (greyS S i s) ∧ Mut (ShF b tb g pb v) w w2 ∧ Fresh w v v2) := ⟨h2, H1.out.2.trans m2, fun k hk => (f2 k hk).imp id fun q => Nat.le_trans H1.out.2.size q⟩
  clear h2 m2 f2 H1 d0 d1
  have e0 : greyB S.tick i s = greyB S i s := rfl
  rw [e0]
  go_wp2
  go_ret
  exact ⟨rfl, v2, H2.out⟩

end

set_option maxHeartbeats 400000 in
theorem dnew_bad (n most : Int) (w : World) (hn : ¬ (0 ≤ n ∧ n ≤ 1024 ∧ 1 ≤ most ∧ most ≤ 256)) (h0 : IntKind.min .i64 ≤ n) (h1 : n ≤ IntKind.max .i64) :
    Calls Try.prog 30 #[.int .i64 n, .int .i64 most] w fun e w' => e = .returned (.tuple #[.pointer none, .int .i64 1]) ∧ Kept w w' := by
  by_cases ht : 0 ≤ n ∧ n ≤ 1024
  · obtain ⟨m, rfl⟩ : ∃ m : Nat, n = m := ⟨n.toNat, by omega⟩
    have HT : Hid (∀ w, _) := fun w => tnew_any m w (by omega)
    have HP : Hid (∀ w, _) := fun w => qnew_bad most w (by omega)
    clear hn ht h0 h1
    go_enter Try.func30, Try.ntmps30
    go_wp2_with fail
    refine (HT.out _).mono ?_
    rintro e w1 ⟨tb, g, rfl, t1, _, _, k1⟩
    have K1 : Hid (Kept w w1) := k1
    clear t1 k1
    go_wp2_with fail
    refine (HP.out _).mono ?_
    rintro e w2 ⟨rfl, rfl⟩
    go_wp2
    go_ret2
    exact ⟨rfl, K1.out⟩
  · have HT : Hid (∀ w, _) := fun w => tnew_bad n w ht
    clear hn ht h0 h1
    go_enter Try.func30, Try.ntmps30
    go_wp2_with fail
    refine (HT.out _).mono ?_
    rintro e w1 ⟨rfl, rfl⟩
    go_wp2
    go_ret2
    exact ⟨rfl, Kept.refl _⟩

set_option maxHeartbeats 1000000 in
theorem dnew_any (n most : Nat) (w : World) (hn : n ≤ 1024) (h1 : 1 ≤ (most : Int)) (hm : (most : Int) ≤ 256) {base : Nat} (hb : base ≤ w.heap.size) :
    Calls Try.prog 30 #[.int .i64 n, .int .i64 most] w fun e w' => ∃ b tb g pb v, e = .returned (.tuple #[.pointer (some ⟨b, 0, none⟩), .int .i64 0]) ∧ ShC w' base b tb g pb v (ShS.new n most) ∧ Kept w w' ∧ ∀ k, k ∈ ShF b tb g pb v → w.heap.size ≤ k := by
  have HB : Hid (base ≤ w.heap.size) := hb
  have HT : Hid (∀ w, _) := fun w => tnew_any n w hn
  have HP : Hid (∀ w : World, base ≤ w.heap.size → _) := fun w hb => qnew_any most w h1 hm (base := base) hb
  clear hn hb h1 hm
  go_enter Try.func30, Try.ntmps30
  go_wp2_with fail
  refine (HT.out _).mono ?_
  rintro e w1 ⟨tb, g, rfl, t1, l1, l2, k1⟩
  have H1 : Hid (Tab w1 tb g n T0 ∧ w.heap.size ≤ tb ∧ w.heap.size ≤ g ∧ Kept w w1) := ⟨t1, l1, l2, k1⟩
  clear t1 l1 l2 k1
  go_wp2_with fail
  refine (HP.out _ (Nat.le_trans HB.out H1.out.2.2.2.size)).mono ?_
  rintro e w2 ⟨pb, rfl, p2, k2, l3⟩
  have H2 : Hid (PT w2 base pb most (.slice none 0 0) [] false ∧ w1.heap.size ≤ pb ∧ Kept w1 w2) := ⟨p2, l3, k2⟩
  clear p2 k2 l3
  have HF : Hid (∀ C, Own (w2.alloc (.cells (C : List Value).toArray 102)) w2.heap.size 102 C) := fun C => Own.new _ _ _
  go_wp2
  go_ret2
  have ka : Kept w2 (w2.alloc (.cells #[.pointer (some ⟨tb, 0, none⟩), .pointer (some ⟨pb, 0, none⟩), .int .i64 0] 102)) := (Kept.refl _).alloc _ _
  have s1 := H1.out.2.2.2.size
  have s2 := H2.out.2.2.size
  have s3 := HB.out
  have s4 := H1.out.2.1
  have s5 := H1.out.2.2.1
  have s6 := H2.out.2.1
  refine ⟨w2.heap.size, tb, g, pb, .slice none 0 0, rfl, ⟨HF.out [_, _, _], H1.out.1.kept (H2.out.2.2.trans ka), H2.out.1.kept ka, by omega, by omega, by omega⟩, H1.out.2.2.2.trans (H2.out.2.2.trans ka), fun k hk => ?_⟩
  simp [ShF, Value.ownBlock] at hk
  omega
end Go.Proofs.Ytiigmmmhhpdmdaa

/-
  A hand as plain values, and as it lies in memory; contracts of package hand.
-/
namespace Go.Proofs.Ytiigmmmhhpdmdaa
open Go.RowKit

/-- A hand as plain values: n threads, each one's own status, what is posted, the sense, the count. -/
structure Hs where
  n : Nat
  O : Nat → Int
  st : Int
  se : Bool
  ct : Int

structure Hs.Ok (S : Hs) : Prop where
  few : S.n ≤ 16
  own : ∀ j, j < S.n → -1 ≤ S.O j ∧ S.O j ≤ 4
  sts : 0 ≤ S.st ∧ S.st ≤ 4
  cnt : 0 ≤ S.ct

def kn (s : Int) : Bool := decide (0 ≤ s ∧ s ≤ 4)
def Hs.may (S : Hs) (i : Int) : Bool := decide (0 ≤ i ∧ i < S.n)
def Hs.is (S : Hs) (i : Int) : Bool := S.may i && (S.O i.toNat != -1)
def Hs.tick (S : Hs) : Hs := { S with ct := S.ct + 1 }
def Hs.put (S : Hs) (k : Nat) (v : Int) : Hs := { S with O := fun j => if j = k then v else S.O j }
def Hs.post (S : Hs) (s : Int) (f : Bool) : Hs := if kn s then { S.tick with st := s, se := (S.se != f) } else S.tick
def Hs.ans (S : Hs) (i s : Int) : Hs := if S.is i && kn s then S.tick.put i.toNat s else S.tick
def Hs.poll (S : Hs) (i : Int) : Bool := !S.is i || (S.O i.toNat == S.st)
def Hs.can (S : Hs) (i : Int) : Bool := S.may i && !S.is i
def Hs.join (S : Hs) (i : Int) : Hs := if S.can i then S.tick.put i.toNat S.st else S.tick
def Hs.leave (S : Hs) (i : Int) : Hs := if S.is i then S.tick.put i.toNat (-1) else S.tick
def Hs.own (S : Hs) (i : Int) : Int := if S.is i then S.O i.toNat else -1
def Hs.jst (S : Hs) (i : Int) : Int := if S.can i then S.st else 0
def Hs.jse (S : Hs) (i : Int) : Bool := S.can i && S.se
def Hs.head (S : Hs) (g c : Nat) : List Value := [.int .i64 S.st, .bool S.se, .slice (some ⟨g, 0, none⟩) S.n c, .int .i64 S.ct]
/-- As it is made. -/
def Hs.first (n : Nat) : Hs := ⟨n, fun _ => -1, 0, false, 0⟩

theorem hkn_yes {s : Int} (h : kn s = true) : 0 ≤ s ∧ s ≤ 4 := of_decide_eq_true h
theorem hkn_no {s : Int} (h : kn s = false) : ¬ (0 ≤ s ∧ s ≤ 4) := of_decide_eq_false h

section
variable {S : Hs}
theorem Hs.may_yes {i : Int} (h : S.may i = true) : ∃ k : Nat, i = k ∧ k < S.n := by
  simp [Hs.may] at h
  exact ⟨i.toNat, by omega, by omega⟩
theorem Hs.may_no {i : Int} (h : S.may i = false) : ¬ (0 ≤ i ∧ i < S.n) := of_decide_eq_false h
theorem Hs.may_at {k : Nat} (h : k < S.n) : S.may k = true := by simp [Hs.may, h]
theorem Hs.is_yes {i : Int} (h : S.is i = true) : ∃ k : Nat, i = k ∧ k < S.n ∧ S.O k ≠ -1 := by
  simp only [Hs.is, Bool.and_eq_true, bne_iff_ne] at h
  obtain ⟨k, rfl, hk⟩ := Hs.may_yes h.1
  exact ⟨k, rfl, hk, by simpa using h.2⟩
theorem Hs.is_at {k : Nat} (h : k < S.n) : S.is k = (S.O k != -1) := by simp [Hs.is, Hs.may_at h]
theorem Hs.is_out {i : Int} (h : S.may i = false) : S.is i = false := by simp [Hs.is, h]
theorem Hs.tick_ok (h : S.Ok) : S.tick.Ok := ⟨h.few, h.own, h.sts, by have := h.cnt; simp only [Hs.tick]; omega⟩
theorem Hs.put_ok (h : S.Ok) (k : Nat) {v : Int} (hv : -1 ≤ v ∧ v ≤ 4) : (S.put k v).Ok := ⟨h.few, fun j hj => by
  simp only [Hs.put]
  split
  · exact hv
  · exact h.own j hj, h.sts, h.cnt⟩
theorem Hs.first_ok {n : Nat} (h : n ≤ 16) : (Hs.first n).Ok := ⟨h, fun _ _ => by simp [Hs.first], by simp [Hs.first], by simp [Hs.first]⟩
theorem Hs.post_ok (h : S.Ok) (s : Int) (f : Bool) : (S.post s f).Ok := by
  cases hk : kn s
  · simpa [Hs.post, hk] using Hs.tick_ok h
  · have e := Hs.tick_ok h
    simp only [Hs.post, hk, if_true]
    exact ⟨e.few, e.own, hkn_yes hk, e.cnt⟩
theorem Hs.post_ct (s : Int) (f : Bool) : (S.post s f).ct = S.ct + 1 := by cases hk : kn s <;> simp [Hs.post, hk, Hs.tick]
theorem Hs.ans_ct (i s : Int) : (S.ans i s).ct = S.ct + 1 := by simp only [Hs.ans]; split <;> simp [Hs.tick, Hs.put]
theorem Hs.join_ct (i : Int) : (S.join i).ct = S.ct + 1 := by simp only [Hs.join]; split <;> simp [Hs.tick, Hs.put]
theorem Hs.leave_ct (i : Int) : (S.leave i).ct = S.ct + 1 := by simp only [Hs.leave]; split <;> simp [Hs.tick, Hs.put]
theorem Hs.post_n (s : Int) (f : Bool) : (S.post s f).n = S.n := by cases hk : kn s <;> simp [Hs.post, hk, Hs.tick]
theorem Hs.ans_n (i s : Int) : (S.ans i s).n = S.n := by simp only [Hs.ans]; split <;> simp [Hs.tick, Hs.put]
theorem Hs.join_n (i : Int) : (S.join i).n = S.n := by simp only [Hs.join]; split <;> simp [Hs.tick, Hs.put]
theorem Hs.leave_n (i : Int) : (S.leave i).n = S.n := by simp only [Hs.leave]; split <;> simp [Hs.tick, Hs.put]
end

/-- A hand (of head type t) at block b, its threads at block g. -/
structure HTab (t : TypeId) (w : World) (b g c : Nat) (S : Hs) : Prop where
  head : Own w b t (S.head g c)
  row : ∃ f, w.rowIs g 3 c f ∧ ∀ j, j < S.n → f j = .int .i64 (S.O j)
  le : S.n ≤ c
  ok : S.Ok
  ty : t ≠ 3

section
variable {t : TypeId} {w w' : World} {b g c : Nat} {S : Hs}
theorem HTab.c0 (h : HTab t w b g c S) : w.cell? ⟨b, 0, none⟩ = some (.int .i64 S.st) := h.head.blk.at 0 rfl
theorem HTab.c1 (h : HTab t w b g c S) : w.cell? ⟨b, 1, none⟩ = some (.bool S.se) := h.head.blk.at 1 rfl
theorem HTab.c2 (h : HTab t w b g c S) : w.cell? ⟨b, 2, none⟩ = some (.slice (some ⟨g, 0, none⟩) S.n c) := h.head.blk.at 2 rfl
theorem HTab.c3 (h : HTab t w b g c S) : w.cell? ⟨b, 3, none⟩ = some (.int .i64 S.ct) := h.head.blk.at 3 rfl
theorem HTab.fz (h : HTab t w b g c S) (i : Nat) : w.frozen? ⟨b, i, none⟩ = false := h.head.blk.fz i
theorem HTab.at (h : HTab t w b g c S) {k : Nat} (hk : k < S.n) : w.cell? ⟨g, k, none⟩ = some (.int .i64 (S.O k)) := by
  obtain ⟨f, hr, hf⟩ := h.row
  have := h.le
  rw [hr.cell (by omega), hf k hk]
theorem HTab.fg (h : HTab t w b g c S) (i : Nat) : w.frozen? ⟨g, i, none⟩ = false := by
  obtain ⟨f, ⟨C, hc, _⟩, _⟩ := h.row
  simp [World.frozen?, hc]
theorem HTab.ltb (h : HTab t w b g c S) : b < w.heap.size := h.head.lt
theorem HTab.ltg (h : HTab t w b g c S) : g < w.heap.size := h.row.elim fun _ hr => hr.1.lt
theorem HTab.ne (h : HTab t w b g c S) : b ≠ g := h.row.elim fun _ hr => h.head.ne hr.1 h.ty
theorem HTab.kept (h : HTab t w b g c S) (k : Kept w w') : HTab t w' b g c S := ⟨h.head.kept k, h.row.elim fun f hr => ⟨f, k.row hr.1, hr.2⟩, h.le, h.ok, h.ty⟩
theorem HTab.muts {D : List Nat} (h : HTab t w b g c S) (m : Mut D w w') (hb : b ∉ D) (hg : g ∉ D) : HTab t w' b g c S := ⟨h.head.muts m hb, h.row.elim fun f hr => ⟨f, m.row hr.1 hg, hr.2⟩, h.le, h.ok, h.ty⟩
/-- The head turned. -/
theorem HTab.turn {i : Nat} {u : Value} {S' : Hs} (h : HTab t w b g c S) (e : (S.head g c).set i u = S'.head g c) (hn : S'.n = S.n) (hO : S'.O = S.O) (ok : S'.Ok) : HTab t (w.setCell ⟨b, i, none⟩ u) b g c S' :=
  ⟨by have := h.head.set i u; rwa [e] at this, h.row.elim fun f hr => ⟨f, (Mut.setCell (D := [b]) (Mut.refl _ _) (by simp) _).row hr.1 (by have := h.ne; simp; exact this.symm), by rw [hn, hO]; exact hr.2⟩, by rw [hn]; exact h.le, ok, h.ty⟩
theorem HTab.tick (h : HTab t w b g c S) : HTab t (w.setCell ⟨b, 3, none⟩ (.int .i64 (S.ct + 1))) b g c S.tick := h.turn rfl rfl rfl (Hs.tick_ok h.ok)
theorem HTab.put (h : HTab t w b g c S) (k : Nat) {v : Int} (hv : -1 ≤ v ∧ v ≤ 4) : HTab t (w.setCell ⟨g, k, none⟩ (.int .i64 v)) b g c (S.put k v) := by
  obtain ⟨f, hr, hf⟩ := h.row
  have hl := h.le
  refine ⟨h.head.set_other (by have := h.ne; simpa using this.symm) _, ⟨_, hr.set k _, fun j hj => ?_⟩, h.le, Hs.put_ok h.ok k hv, h.ty⟩
  simp only [Hs.put]
  by_cases hj2 : j = k
  · simp [hj2]
  · simp [hj2, hf j hj]
end

section
variable {S : Hs}
theorem Hs.own_at {k : Nat} (h : k < S.n) : S.own k = S.O k := by
  simp only [Hs.own, Hs.is_at h, Int.toNat_natCast]
  split
  · rfl
  · rename_i q
    simp at q
    exact q.symm
theorem Hs.tick_is (i : Int) : S.tick.is i = S.is i := rfl
theorem Hs.tick_own (i : Int) : S.tick.own i = S.own i := rfl
theorem Hs.own_no {i : Int} (h : S.is i = false) : S.own i = -1 := by simp [Hs.own, h]
end

abbrev HH := HTab 123

set_option maxHeartbeats 400000 in
theorem hmay_any {b g c : Nat} {S : Hs} (i : Int) (w : World) (h : HH w b g c S) :
    Calls Try.prog 85 #[.pointer (some ⟨b, 0, none⟩), .int .i64 i] w fun e w' => e = .returned (.bool (S.may i)) ∧ w' = w := by
  have c2 := h.c2
  have few := h.ok.few
  clear h
  cases hi : S.may i
  · have h1 := Hs.may_no hi
    by_cases h0 : 0 ≤ i
    · have h2 : ¬ i < (S.n : Int) := fun q => h1 ⟨h0, q⟩
      clear h1 hi
      go_enter Try.func85, Try.ntmps85
      go_wp2
      go_ret
      exact ⟨rfl, rfl⟩
    · clear h1 hi
      go_enter Try.func85, Try.ntmps85
      go_wp2
      go_ret
      exact ⟨rfl, rfl⟩
  · obtain ⟨k, rfl, hk⟩ := Hs.may_yes hi
    clear hi
    go_enter Try.func85, Try.ntmps85
    go_wp2
    go_ret
    exact ⟨rfl, rfl⟩

set_option maxHeartbeats 400000 in
theorem hthere_any {b g c : Nat} {S : Hs} (i : Int) (w : World) (h : HH w b g c S) :
    Calls Try.prog 49 #[.pointer (some ⟨b, 0, none⟩), .int .i64 i] w fun e w' => e = .returned (.bool (S.is i)) ∧ w' = w := by
  have H := hmay_any i w h
  have c2 := h.c2
  have few := h.ok.few
  cases hi : S.may i
  · rw [Hs.is_out hi]
    rw [hi] at H
    clear h hi
    go_enter Try.func49, Try.ntmps49
    go_wp2_with fail
    refine H.mono ?_
    rintro e w' ⟨rfl, rfl⟩
    go_wp2
    go_ret
    exact ⟨rfl, rfl⟩
  · obtain ⟨k, rfl, hk⟩ := Hs.may_yes hi
    have c4 := h.at hk
    rw [Hs.is_at hk]
    rw [hi] at H
    clear h hi
    go_enter Try.func49, Try.ntmps49
    go_wp2_with fail
    refine H.mono ?_
    rintro e w' ⟨rfl, rfl⟩
    go_wp2
    go_ret
    exact ⟨rfl, rfl⟩

set_option maxHeartbeats 400000 in
theorem hown_any {b g c : Nat} {S : Hs} (i : Int) (w : World) (h : HH w b g c S) :
    Calls Try.prog 18 #[.pointer (some ⟨b, 0, none⟩), .int .i64 i] w fun e w' => e = .returned (.int .i64 (S.own i)) ∧ w' = w := by
  have H := hthere_any i w h
  have c2 := h.c2
  have few := h.ok.few
  cases hi : S.is i
  · simp only [Hs.own, hi, Bool.false_eq_true, if_false] at H ⊢
    clear h hi
    go_enter Try.func18, Try.ntmps18
    go_wp2_with fail
    refine H.mono ?_
    rintro e w' ⟨rfl, rfl⟩
    go_wp2
    go_ret
    exact ⟨rfl, rfl⟩
  · obtain ⟨k, rfl, hk, _⟩ := Hs.is_yes hi
    have c4 := h.at hk
    simp only [Hs.own, hi, if_true, Int.toNat_natCast] at H ⊢
    clear h hi
    go_enter Try.func18, Try.ntmps18
    go_wp2_with fail
    refine H.mono ?_
    rintro e w' ⟨rfl, rfl⟩
    go_wp2
    go_ret
    exact ⟨rfl, rfl⟩

set_option maxHeartbeats 400000 in
theorem hcount_any {b g c : Nat} {S : Hs} (w : World) (h : HH w b g c S) :
    Calls Try.prog 45 #[.pointer (some ⟨b, 0, none⟩)] w fun e w' => e = .returned (.int .i64 S.ct) ∧ w' = w := by
  have c3 := h.c3
  clear h
  go_enter Try.func45, Try.ntmps45
  go_wp2
  go_ret
  exact ⟨rfl, rfl⟩

set_option maxHeartbeats 800000 in
theorem hlook_any {b g c : Nat} {S : Hs} (w : World) (h : HH w b g c S) (hc : S.ct < 1000000000) :
    Calls Try.prog 23 #[.pointer (some ⟨b, 0, none⟩)] w fun e w' => e = .returned (.tuple #[.int .i64 S.st, .bool S.se]) ∧ HH w' b g c S.tick ∧ Mut [b, g] w w' := by
  have H1 : Hid (HH (w.setCell ⟨b, 3, none⟩ (.int .i64 (S.ct + 1))) b g c S.tick ∧ Mut [b, g] w (w.setCell ⟨b, 3, none⟩ (.int .i64 (S.ct + 1)))) := ⟨h.tick, (Mut.refl _ _).setCell (by simp) _⟩
  have c3 := h.c3
  have cf := h.fz
  have k0 := h.ok.cnt
  clear h
  go_enter Try.func23, Try.ntmps23
  go_upto_region 2 with fail
  clear c3 cf
  generalize w.setCell _ _ = w1 at *
  have c0 : w1.cell? ⟨b, 0, none⟩ = some (.int .i64 S.st) := H1.out.1.c0
  have c1 : w1.cell? ⟨b, 1, none⟩ = some (.bool S.se) := H1.out.1.c1
  go_region
  all_goals go_wp2
  all_goals go_ret2
  all_goals exact ⟨rfl, H1.out.1.kept (Kept.refl _).drew, H1.out.2.drew⟩

end Go.Proofs.Ytiigmmmhhpdmdaa

/-
  New.
-/
namespace Go.Proofs.Ytiigmmmhhpdmdaa
open Go.RowKit

theorem info_int18 : (Try.prog.info? 3).map (fun i => (i.zero, i.size, i.bytes)) = some (some (.int .i64 0), 1, 8) := by kernel_rfl

set_option maxHeartbeats 800000 in
theorem hnew_bad (n : Int) (w : World) (hn : ¬ (1 ≤ n ∧ n ≤ 16)) :
    Calls Try.prog 32 #[.int .i64 n] w fun e w' => e = .returned (.tuple #[.pointer none, .int .i64 1]) ∧ w' = w := by
  by_cases h0 : n < 1
  · clear hn
    go_enter Try.func32, Try.ntmps32
    go_wp2
    go_ret2
    exact ⟨rfl, rfl⟩
  · have h1 : 16 < n := by omega
    clear hn
    go_enter Try.func32, Try.ntmps32
    go_wp2
    go_ret2
    exact ⟨rfl, rfl⟩

/-- The threads that New lays: the first j are told. -/
def oj (j : Nat) : Nat → Value := fun i => if i < j then .int .i64 (-1) else .int .i64 0

set_option maxHeartbeats 2000000 in
theorem hnew_any (n : Nat) (w : World) (h1 : 1 ≤ (n : Int)) (hn : (n : Int) ≤ 16) :
    Calls Try.prog 32 #[.int .i64 n] w fun e w' => ∃ b g, e = .returned (.tuple #[.pointer (some ⟨b, 0, none⟩), .int .i64 0]) ∧ HH w' b g n (Hs.first n) ∧ w.heap.size ≤ b ∧ w.heap.size ≤ g ∧ Kept w w' := by
  have hmk := run_make_row' (P := Try.prog) 59 3 (.int .i64 0) 8 Try.underlying59 info_int18 rfl .i64 .i64 n (by omega) (by omega)
  go_enter Try.func32, Try.ntmps32
  go_upto_block 0 with fail
  have HR : Hid ((w.alloc (.cells (madeCells #[.int .i64 0] n) 3)).rowIs w.heap.size 3 n (oj 0) ∧ Kept w (w.alloc (.cells (madeCells #[.int .i64 0] n) 3))) := ⟨(World.rowIs_made w (.int .i64 0) n 3).congr (fun i _ => by simp [oj]), (Kept.refl w).alloc _ _⟩
  clear hmk
  generalize w.alloc _ = w1 at *
  go_wp2
  go_loopg [16] n (fun m i wr => ∃ j : Nat, i = .int .i64 j ∧ j ≤ n ∧ m = n - j ∧ Hid (wr.rowIs w.heap.size 3 n (oj j) ∧ Kept w wr))
  case atStart => exact ⟨0, rfl, by omega, by omega, HR.out⟩
  case round =>
    obtain ⟨j, rfl, hj, hm, HJ⟩ := hrel
    have HM : Hid _ := hm
    clear hm HR
    by_cases hlt : j < n
    · have c0 := HJ.out.1.cell hlt
      have cf := HJ.out.1.frozen
      have HN : Hid ((wr.setCell ⟨w.heap.size, j, none⟩ (.int .i64 (-1))).rowIs w.heap.size 3 n (oj (j + 1)) ∧ Kept w (wr.setCell ⟨w.heap.size, j, none⟩ (.int .i64 (-1)))) := ⟨(HJ.out.1.set j _).congr (fun i _ => by
        by_cases e : i = j
        · simp [oj, e]
        · simp only [oj, e, if_false]
          have : (i < j + 1) = (i < j) := by simp; omega
          simp only [this]), HJ.out.2.setCell (by simp) _⟩
      clear HJ
      go_wp2
      go_roundg (n - (j + 1))
      all_goals (have := HM.out; try omega)
      exact ⟨j + 1, by go_num, by omega, by omega, HN.out⟩
    · obtain rfl : j = n := by omega
      have h16 : j ≤ 16 := by omega
      have HB : Hid (Kept w wr ∧ HH (wr.alloc (.cells #[.int .i64 0, .bool false, .slice (some ⟨w.heap.size, 0, none⟩) j j, .int .i64 0] 123)) wr.heap.size w.heap.size j (Hs.first j)) := ⟨HJ.out.2, Own.new wr [.int .i64 0, .bool false, .slice (some ⟨w.heap.size, 0, none⟩) j j, .int .i64 0] _, ⟨_, HJ.out.1.alloc _, fun i hi => by have : i < j := hi; simp [oj, this, Hs.first]⟩, by simp [Hs.first], Hs.first_ok h16, by decide⟩
      clear HJ HM
      go_wp2
      go_ret2
      exact ⟨_, _, rfl, HB.out.2, HB.out.1.size, by omega, HB.out.1.alloc _ _⟩
end Go.Proofs.Ytiigmmmhhpdmdaa

