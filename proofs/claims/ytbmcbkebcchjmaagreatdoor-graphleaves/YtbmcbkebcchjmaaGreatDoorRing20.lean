/-
  Objects that refer to one another in a ring.
-/
import Derived.Test.YtbmcbkebcchjmaaGreatDoorFirst20
namespace Go.Proofs.YtbmcbkebcchjmaaGreatDoor
open Go.RowKit

theorem Ol.new (u : World) (l : List OP) (t : TypeId) (hl : l.length ≤ 10) : Ol (u.alloc (.cells (l.flatMap OP.cs).toArray t)) u.heap.size l := by
  have hn : ∀ l : List OP, (l.flatMap OP.cs).length = l.length * 6 := fun l => by
    induction l with
    | nil => rfl
    | cons o l ih => simp only [List.flatMap_cons, List.length_append, ih, List.length_cons]; show 6 + _ = _; omega
  have r : Rw t 6 OP.cs (u.alloc (.cells (l.flatMap OP.cs).toArray t)) 0 (.slice (some ⟨u.heap.size, 0, none⟩) l.length l.length) l :=
    World.ownsRow_lit u (l.flatMap OP.cs).toArray l.length (Nat.zero_le _) (by unfold maxLen; omega) (by rw [List.size_toArray, hn])
  exact ⟨by simp, fun k hk j v e => r.cell (fun _ => rfl) hk e⟩

/-- 'one', its operations just laid down. -/
theorem one_at {C : Cf} {base p : Nat} {F : List Nat} {S S' : Pg} {a u : World} (h : GS C base p F S u) (k : Kept a u) (hb : a.heap.size ≤ base) {l : List OP} {v : V} (hr : Runs C S l v S') (hl : l.length ≤ 10) (t : TypeId) :
    Calls Tryz.prog 9 #[.pointer (some ⟨p, 0, none⟩), .slice (some ⟨u.heap.size, 0, none⟩) l.length l.length] (u.alloc (.cells (l.flatMap OP.cs).toArray t)) fun e w' => e = .returned (.tuple #[.agg #[.bool v.r, .complex .f64 v.x v.y], .int .i64 0]) ∧ ∃ F', GS C base p F' S' w' ∧ Kept a w' := by
  have k1 : Kept u (u.alloc (.cells (l.flatMap OP.cs).toArray t)) := (Kept.refl _).alloc _ _
  refine (one_any (h.kept k1) hr hl (Ol.new u l t hl) (fun q => absurd (h.ge _ q).2 (by omega))).mono ?_
  rintro e w' ⟨rfl, F', g, r⟩
  exact ⟨rfl, F', g, (h.kept k1).apart r (k.trans k1) hb⟩

theorem names_l {C : Cf} {k : Nat} {o : OP} (ha : 0 ≤ o.a ∧ o.a < C.n4) (hb : 0 ≤ o.b ∧ o.b < C.n4) (hl : ∀ l ∈ lts k, l = 65 ∨ l = 66 ∨ l = 75 ∨ l = 78) : ∀ l ∈ lts k, Names C o l := fun l hm => by
  rcases hl l hm with rfl | rfl | rfl | rfl
  · exact ⟨fun _ => ha, fun e => absurd e (by decide)⟩
  · exact ⟨fun _ => hb, fun e => absurd e (by decide)⟩
  · exact ⟨fun e => absurd e (by decide), fun e => absurd e (by decide)⟩
  · exact ⟨fun e => absurd e (by decide), fun e => absurd e (by decide)⟩

def oNew (a : Int) : OP := ⟨1, a, 0, 0, 0, 0, 0⟩
def oCopy (a b : Int) : OP := ⟨14, a, b, 0, 0, 0, 0⟩
def oStore (a n b : Int) : OP := ⟨4, a, b, 0, n, 0, 0⟩
def oClear (a : Int) : OP := ⟨13, a, 0, 0, 0, 0, 0⟩

def ringO (j : Nat) : List Tp := (List.range j).map fun i => ⟨0, 0, if i = 0 then none else some ((0 : Int), refV (i - 1))⟩
def ringC (n : Nat) : List Tp := (List.range n).map fun i => ⟨0, 0, some ((0 : Int), refV (if i = 0 then n - 1 else i - 1))⟩
theorem ringO_len (j : Nat) : (ringO j).length = j := by simp [ringO]
theorem ringC_len (j : Nat) : (ringC j).length = j := by simp [ringC]
theorem ringO_succ {j : Nat} (h : 1 ≤ j) : (ringO j ++ [(⟨0, 0, none⟩ : Tp)]).set j ⟨0, 0, some ((0 : Int), refV (j - 1))⟩ = ringO (j + 1) := by
  have e : ringO (j + 1) = ringO j ++ [⟨0, 0, some ((0 : Int), refV (j - 1))⟩] := by
    unfold ringO
    rw [List.range_succ, List.map_append]
    simp only [List.map_cons, List.map_nil]
    rw [if_neg (by omega)]
  rw [e, List.set_append_right _ _ (by rw [ringO_len]; exact Nat.le_refl _), ringO_len, Nat.sub_self]
  rfl
theorem ringO_close {n : Nat} : (ringO n).set 0 ⟨0, 0, some ((0 : Int), refV (n - 1))⟩ = ringC n := by
  apply List.ext_getElem
  · simp [ringO, ringC]
  · intro i h1 h2
    rw [List.getElem_set]
    by_cases e : i = 0
    · subst e
      simp [ringC]
    · rw [if_neg (Ne.symm e)]
      simp [ringO, ringC, e]
def gG : List V := [noneV, noneV]
/-- When j were made. -/
def rS (j : Nat) (x : V) : Pg := ⟨ringO j, some [refV 0, refV (j - 1), x, zerV], gG⟩
def CW : Cf := Cw 60 60
theorem CW.ok : CW.Ok := Cw.ok 60 60 (.inl rfl) (.inl rfl)
theorem makesW (a : Int) : Makes CW (oNew a) 0 := ⟨rfl, by decide, .inl ⟨rfl, rfl⟩, (by decide : (0 : Int) ≤ 1 + 3 / 7), (by decide : (1 : Int) + 3 / 7 ≤ 60), (by decide : (0 : Int) ≤ 60)⟩

theorem does_ring0 : Runs CW ⟨[], some [zerV, zerV, zerV, zerV], gG⟩ [oNew 0, oCopy 1 0] (refV 0) (rS 1 zerV) := by
  refine .more (S1 := ⟨[⟨0, 0, none⟩], some [refV 0, zerV, zerV, zerV], gG⟩) (v := refV 0) ?_ (.last ?_)
  · exact does_new CW.ok (S := ⟨[], some [zerV, zerV, zerV, zerV], gG⟩) (o := oNew 0) (vs := [zerV, zerV, zerV, zerV]) rfl rfl (names_l (by decide) (by decide) (by decide)) (kd := 0) (makesW 0) (j := 0) (by decide) rfl (by decide)
  · exact does_copy CW.ok (S := ⟨[⟨0, 0, none⟩], some [refV 0, zerV, zerV, zerV], gG⟩) (o := oCopy 1 0) (vs := [refV 0, zerV, zerV, zerV]) rfl rfl (names_l (by decide) (by decide) (by decide)) (j := 1) (by decide) rfl (i := 0) (by decide) rfl rfl

theorem does_ring {j : Nat} (h1 : 1 ≤ j) (h2 : j ≤ 100) (x : V) : Runs CW (rS j x) [oNew 2, oStore 2 0 1, oCopy 1 2] (refV j) (rS (j + 1) (refV j)) := by
  refine .more (S1 := ⟨ringO j ++ [⟨0, 0, none⟩], some [refV 0, refV (j - 1), refV j, zerV], gG⟩) (v := refV j) ?_ (.more (S1 := ⟨ringO (j + 1), some [refV 0, refV (j - 1), refV j, zerV], gG⟩) (v := zerV) ?_ (.last ?_))
  · have h : Does CW (rS j x) (oNew 2) (refV (ringO j).length) ⟨ringO j ++ [⟨0, 0, none⟩], some [refV 0, refV (j - 1), refV (ringO j).length, zerV], gG⟩ :=
      does_new CW.ok (S := rS j x) (o := oNew 2) (vs := [refV 0, refV (j - 1), x, zerV]) rfl rfl (names_l (by decide) (by decide) (by decide)) (kd := 0) (makesW 2) (j := 2) (by simp) rfl (by show (ringO j).length < 1000; rw [ringO_len]; omega)
    rw [ringO_len] at h
    exact h
  · have h : Does CW ⟨ringO j ++ [⟨0, 0, none⟩], some [refV 0, refV (j - 1), refV j, zerV], gG⟩ (oStore 2 0 1) zerV ⟨(ringO j ++ [(⟨0, 0, none⟩ : Tp)]).set j ⟨0, 0, some ((0 : Int), refV (j - 1))⟩, some [refV 0, refV (j - 1), refV j, zerV], gG⟩ :=
      does_store CW.ok (S := ⟨ringO j ++ [⟨0, 0, none⟩], some [refV 0, refV (j - 1), refV j, zerV], gG⟩) (o := oStore 2 0 1) (vs := [refV 0, refV (j - 1), refV j, zerV]) rfl rfl (names_l (by decide) (by decide) (by decide)) (i := j) (t := ⟨0, 0, none⟩)
        (by show (ringO j ++ [(⟨0, 0, none⟩ : Tp)])[j]? = some (⟨0, 0, none⟩ : Tp); rw [List.getElem?_append_right (by rw [ringO_len]; exact Nat.le_refl _), ringO_len, Nat.sub_self]; rfl) rfl (j := 2) (by simp) rfl rfl (jb := 1) (by simp) rfl rfl (jn := 0) rfl (by omega) rfl (by decide) rfl
    rw [ringO_succ h1] at h
    exact h
  · exact does_copy CW.ok (S := ⟨ringO (j + 1), some [refV 0, refV (j - 1), refV j, zerV], gG⟩) (o := oCopy 1 2) (vs := [refV 0, refV (j - 1), refV j, zerV]) rfl rfl (names_l (by decide) (by decide) (by decide)) (j := 1) (by simp) rfl (i := 2) (by simp) rfl rfl

/-- The ring is closed, and one of it is held. -/
def cS (n : Nat) : Pg := ⟨ringC n, some [noneV, refV (n - 1), noneV, zerV], gG⟩
theorem does_close {n : Nat} (h1 : 1 ≤ n) (x : V) : Runs CW (rS n x) [oStore 0 0 1, oClear 0, oClear 2] noneV (cS n) := by
  refine .more (S1 := ⟨ringC n, some [refV 0, refV (n - 1), x, zerV], gG⟩) (v := zerV) ?_ (.more (S1 := ⟨ringC n, some [noneV, refV (n - 1), x, zerV], gG⟩) (v := noneV) ?_ (.last ?_))
  · have h : Does CW (rS n x) (oStore 0 0 1) zerV ⟨(ringO n).set 0 ⟨0, 0, some ((0 : Int), refV (n - 1))⟩, some [refV 0, refV (n - 1), x, zerV], gG⟩ :=
      does_store CW.ok (S := rS n x) (o := oStore 0 0 1) (vs := [refV 0, refV (n - 1), x, zerV]) rfl rfl (names_l (by decide) (by decide) (by decide)) (i := 0) (t := ⟨0, 0, none⟩)
        (by show (ringO n)[0]? = _; unfold ringO; rw [List.getElem?_map, List.getElem?_range (by omega)]; rfl) rfl (j := 0) (by simp) rfl rfl (jb := 1) (by simp) rfl rfl (jn := 0) rfl (by omega) rfl (by decide) rfl
    rw [ringO_close] at h
    exact h
  · exact does_clear CW.ok (S := ⟨ringC n, some [refV 0, refV (n - 1), x, zerV], gG⟩) (o := oClear 0) (vs := [refV 0, refV (n - 1), x, zerV]) rfl rfl (names_l (by decide) (by decide) (by decide)) (j := 0) (by simp) rfl
  · exact does_clear CW.ok (S := ⟨ringC n, some [noneV, refV (n - 1), x, zerV], gG⟩) (o := oClear 2) (vs := [noneV, refV (n - 1), x, zerV]) rfl rfl (names_l (by decide) (by decide) (by decide)) (j := 2) (by simp) rfl
theorem does_drop (n : Nat) : Runs CW (cS n) [oClear 1] noneV ⟨ringC n, some [noneV, noneV, noneV, zerV], gG⟩ :=
  .last (does_clear CW.ok (S := cS n) (o := oClear 1) (vs := [noneV, refV (n - 1), noneV, zerV]) rfl rfl (names_l (by decide) (by decide) (by decide)) (j := 1) (by simp) rfl)

/-- Where the ring leads. -/
def rsc (n i : Nat) : Option Nat := if i < n then some (if i = 0 then n - 1 else i - 1) else none
theorem ring_get {n i : Nat} {t : Tp} (h : (ringC n)[i]? = some t) : i < n ∧ t = ⟨0, 0, some ((0 : Int), refV (if i = 0 then n - 1 else i - 1))⟩ := by
  have hi : i < n := by
    have := (List.getElem?_eq_some_iff.1 h).1
    rwa [ringC_len] at this
  unfold ringC at h
  rw [List.getElem?_map, List.getElem?_range hi] at h
  exact ⟨hi, by simpa using h.symm⟩
theorem ring_leads {n : Nat} (hn : n ≤ 100) : LeadsT (ringC n) (rsc n) := fun i t h => by
  obtain ⟨hi, rfl⟩ := ring_get h
  refine .inr ⟨0, _, rfl, ?_⟩
  unfold rsc
  rw [if_pos hi]
  exact Kd.ref _ (by split <;> omega)
theorem ring_in {n : Nat} (i j : Nat) (h : rsc n i = some j) : j < n := by
  unfold rsc at h
  split at h
  · have h : (if i = 0 then n - 1 else i - 1) = j := by simpa using h
    rw [← h]
    split <;> omega
  · cases h
theorem ring_all {n : Nat} (h1 : 1 ≤ n) (x : Nat) : Rch [n - 1] (rsc n) x ↔ x < n := by
  constructor
  · intro h
    exact h.lt (fun r hr => by have : r = n - 1 := by simpa using hr
                               omega) ring_in
  · intro h
    have : ∀ d, d < n → Rch [n - 1] (rsc n) (n - 1 - d) := by
      intro d
      induction d with
      | zero => intro _; exact .root _ (by simp)
      | succ d ih =>
        intro hd
        refine .step _ _ (ih (by omega)) ?_
        unfold rsc
        rw [if_pos (by omega), if_neg (by omega)]
        congr 1
    have e : n - 1 - (n - 1 - x) = x := by omega
    have := this (n - 1 - x) (by omega)
    rwa [e] at this
end Go.Proofs.YtbmcbkebcchjmaaGreatDoor
