/-
  Contracts of package tint: a table as it lies in memory; each method answers as a plain function of it.
-/
import Derived.Test.YtahpnnjemjjfhaaCells
namespace Go.Proofs.Ytahpnnjemjjfhaa
open Go.RowKit

/-- A fragment: its state, whether it is a head, its colour. -/
structure Fr where
  s : Int
  h : Bool
  c : Bool

/-- The cells of a row of fragments. -/
def fc (T : Nat → Fr) (j : Nat) : Value := if j % 3 = 0 then .int .i64 (T (j / 3)).s else if j % 3 = 1 then .bool (T (j / 3)).h else .bool (T (j / 3)).c

theorem fc_0 (T : Nat → Fr) (k : Nat) : fc T (k * 3) = .int .i64 (T k).s := by simp [fc]
theorem fc_1 (T : Nat → Fr) (k : Nat) : fc T (k * 3 + 1) = .bool (T k).h := by
  have h1 : (k * 3 + 1) % 3 = 1 := by omega
  have h2 : (k * 3 + 1) / 3 = k := by omega
  simp [fc, h1, h2]
theorem fc_2 (T : Nat → Fr) (k : Nat) : fc T (k * 3 + 2) = .bool (T k).c := by
  have h1 : (k * 3 + 2) % 3 = 2 := by omega
  have h2 : (k * 3 + 2) / 3 = k := by omega
  simp [fc, h1, h2]

/-- A table at block b, its fragments at block g. -/
structure Tab (w : World) (b g n : Nat) (T : Nat → Fr) : Prop where
  head : Own w b 91 [.slice (some ⟨g, 0, none⟩) n n]
  row : w.rowIs g 88 (n * 3) (fc T)
  few : n ≤ 1024

section
variable {w w' : World} {b g n : Nat} {T : Nat → Fr}

theorem Tab.kept (h : Tab w b g n T) (k : Kept w w') : Tab w' b g n T := ⟨h.head.kept k, k.row h.row, h.few⟩
theorem Tab.ne (h : Tab w b g n T) : b ≠ g := h.head.ne h.row (by decide)
theorem Tab.muts {D : List Nat} (h : Tab w b g n T) (m : Mut D w w') (hb : b ∉ D) (hg : g ∉ D) : Tab w' b g n T := ⟨h.head.muts m hb, m.row h.row hg, h.few⟩
theorem Tab.hd (h : Tab w b g n T) : w.cell? ⟨b, 0, none⟩ = some (.slice (some ⟨g, 0, none⟩) n n) := h.head.blk.at 0 rfl
theorem Tab.at0 (h : Tab w b g n T) {k : Nat} (hk : k < n) : w.cell? ⟨g, k * 3, none⟩ = some (.int .i64 (T k).s) := by
  rw [h.row.cell (by omega), fc_0]
theorem Tab.at1 (h : Tab w b g n T) {k : Nat} (hk : k < n) : w.cell? ⟨g, k * 3 + 1, none⟩ = some (.bool (T k).h) := by
  rw [h.row.cell (by omega), fc_1]
theorem Tab.at2 (h : Tab w b g n T) {k : Nat} (hk : k < n) : w.cell? ⟨g, k * 3 + 2, none⟩ = some (.bool (T k).c) := by
  rw [h.row.cell (by omega), fc_2]
end

/-- Is there such a fragment? -/
def inn (n : Nat) (i : Int) : Bool := decide (0 ≤ i ∧ i < n)

theorem tinn_of {n k : Nat} (h : k < n) : inn n k = true := by simp [inn, h]
theorem tinn_iff {n : Nat} {i : Int} (h : inn n i = true) : ∃ k : Nat, i = k ∧ k < n := by
  simp [inn] at h
  exact ⟨i.toNat, by omega, by omega⟩
theorem tinn_not {n : Nat} {i : Int} (h : inn n i = false) : ¬ (0 ≤ i ∧ i < n) := by
  simpa [inn] using h

set_option maxHeartbeats 400000 in
theorem thas_any {b g n : Nat} {T : Nat → Fr} (i : Int) (w : World) (h : Tab w b g n T) :
    Calls Try.prog 61 #[.pointer (some ⟨b, 0, none⟩), .int .i64 i] w fun e w' => e = .returned (.bool (inn n i)) ∧ w' = w := by
  have c0 := h.hd
  clear h
  cases hi : inn n i
  · have h1 := tinn_not hi
    by_cases h0 : 0 ≤ i
    · have h2 : ¬ i < (n : Int) := fun q => h1 ⟨h0, q⟩
      clear h1 hi
      go_enter Try.func61, Try.ntmps61
      go_wp2
      go_ret
      exact ⟨rfl, rfl⟩
    · clear h1 hi
      go_enter Try.func61, Try.ntmps61
      go_wp2
      go_ret
      exact ⟨rfl, rfl⟩
  · obtain ⟨k, rfl, hk⟩ := tinn_iff hi
    clear hi
    go_enter Try.func61, Try.ntmps61
    go_wp2
    go_ret
    exact ⟨rfl, rfl⟩

def usd (n : Nat) (T : Nat → Fr) (i : Int) : Bool := inn n i && ((T i.toNat).s == 2)
def stt (n : Nat) (T : Nat → Fr) (i : Int) : Int := if inn n i then (T i.toNat).s else 0
def hdd (n : Nat) (T : Nat → Fr) (i : Int) : Bool := inn n i && (T i.toNat).h
def blk (n : Nat) (T : Nat → Fr) (i : Int) (c : Bool) : Bool := usd n T i && ((T i.toNat).c == c)
def isSt (s : Int) : Bool := s == 0 || s == 1 || s == 2

set_option maxHeartbeats 400000 in
theorem tisState_any (s : Int) (w : World) : Calls Try.prog 91 #[.int .i64 s] w fun e w' => e = .returned (.bool (isSt s)) ∧ w' = w := by
  by_cases h0 : s = 0
  · subst h0
    go_enter Try.func91, Try.ntmps91
    go_wp2
    go_ret
    exact ⟨rfl, rfl⟩
  · by_cases h1 : s = 1
    · subst h1
      go_enter Try.func91, Try.ntmps91
      go_wp2
      go_ret
      exact ⟨rfl, rfl⟩
    · have q0 : (s == 0) = false := by simpa using h0
      have q1 : (s == 1) = false := by simpa using h1
      have e : isSt s = (s == 2) := by simp [isSt, q0, q1]
      rw [e]
      clear e h0 h1
      go_enter Try.func91, Try.ntmps91
      go_wp2
      go_ret
      exact ⟨rfl, rfl⟩

set_option maxHeartbeats 400000 in
theorem tlen_any {b g n : Nat} {T : Nat → Fr} (w : World) (h : Tab w b g n T) :
    Calls Try.prog 64 #[.pointer (some ⟨b, 0, none⟩)] w fun e w' => e = .returned (.int .i64 n) ∧ w' = w := by
  have c0 := h.hd
  clear h
  go_enter Try.func64, Try.ntmps64
  go_wp2
  go_ret
  exact ⟨rfl, rfl⟩

set_option maxHeartbeats 400000 in
theorem tused_any {b g n : Nat} {T : Nat → Fr} (i : Int) (w : World) (h : Tab w b g n T) :
    Calls Try.prog 87 #[.pointer (some ⟨b, 0, none⟩), .int .i64 i] w fun e w' => e = .returned (.bool (usd n T i)) ∧ w' = w := by
  have H := thas_any i w h
  have c0 := h.hd
  cases hi : inn n i
  · simp only [usd, hi, Bool.false_and] at H ⊢
    clear h hi
    go_enter Try.func87, Try.ntmps87
    go_wp2_with fail
    refine H.mono ?_
    rintro e w' ⟨rfl, rfl⟩
    go_wp2
    go_ret
    exact ⟨rfl, rfl⟩
  · obtain ⟨k, rfl, hk⟩ := tinn_iff hi
    have c1 := h.at0 hk
    simp only [usd, hi, Bool.true_and, Int.toNat_natCast] at H ⊢
    clear h hi
    go_enter Try.func87, Try.ntmps87
    go_wp2_with fail
    refine H.mono ?_
    rintro e w' ⟨rfl, rfl⟩
    go_wp2
    go_ret
    exact ⟨rfl, rfl⟩

set_option maxHeartbeats 400000 in
theorem tstate_any {b g n : Nat} {T : Nat → Fr} (i : Int) (w : World) (h : Tab w b g n T) :
    Calls Try.prog 23 #[.pointer (some ⟨b, 0, none⟩), .int .i64 i] w fun e w' => e = .returned (.int .i64 (stt n T i)) ∧ w' = w := by
  have H := thas_any i w h
  have c0 := h.hd
  cases hi : inn n i
  · simp only [stt, hi] at H ⊢
    clear h hi
    go_enter Try.func23, Try.ntmps23
    go_wp2_with fail
    refine H.mono ?_
    rintro e w' ⟨rfl, rfl⟩
    go_wp2
    go_ret
    exact ⟨rfl, rfl⟩
  · obtain ⟨k, rfl, hk⟩ := tinn_iff hi
    have c1 := h.at0 hk
    simp only [stt, hi, Int.toNat_natCast, if_true] at H ⊢
    clear h hi
    go_enter Try.func23, Try.ntmps23
    go_wp2_with fail
    refine H.mono ?_
    rintro e w' ⟨rfl, rfl⟩
    go_wp2
    go_ret
    exact ⟨rfl, rfl⟩

set_option maxHeartbeats 400000 in
theorem thead_any {b g n : Nat} {T : Nat → Fr} (i : Int) (w : World) (h : Tab w b g n T) :
    Calls Try.prog 31 #[.pointer (some ⟨b, 0, none⟩), .int .i64 i] w fun e w' => e = .returned (.bool (hdd n T i)) ∧ w' = w := by
  have H := thas_any i w h
  have c0 := h.hd
  cases hi : inn n i
  · simp only [hdd, hi, Bool.false_and] at H ⊢
    clear h hi
    go_enter Try.func31, Try.ntmps31
    go_wp2_with fail
    refine H.mono ?_
    rintro e w' ⟨rfl, rfl⟩
    go_wp2
    go_ret
    exact ⟨rfl, rfl⟩
  · obtain ⟨k, rfl, hk⟩ := tinn_iff hi
    have c1 := h.at1 hk
    simp only [hdd, hi, Bool.true_and, Int.toNat_natCast] at H ⊢
    clear h hi
    go_enter Try.func31, Try.ntmps31
    go_wp2_with fail
    refine H.mono ?_
    rintro e w' ⟨rfl, rfl⟩
    go_wp2
    go_ret
    exact ⟨rfl, rfl⟩

theorem tusd_iff {n : Nat} {T : Nat → Fr} {i : Int} (h : usd n T i = true) : ∃ k : Nat, i = k ∧ k < n ∧ (T k).s = 2 := by
  simp only [usd, Bool.and_eq_true, beq_iff_eq] at h
  obtain ⟨k, rfl, hk⟩ := tinn_iff h.1
  exact ⟨k, rfl, hk, by simpa using h.2⟩

set_option maxHeartbeats 400000 in
theorem tblack_any {b g n : Nat} {T : Nat → Fr} (i : Int) (c : Bool) (w : World) (h : Tab w b g n T) :
    Calls Try.prog 55 #[.pointer (some ⟨b, 0, none⟩), .int .i64 i, .bool c] w fun e w' => e = .returned (.bool (blk n T i c)) ∧ w' = w := by
  have H := tused_any i w h
  have c0 := h.hd
  cases hi : usd n T i
  · simp only [blk, hi, Bool.false_and] at H ⊢
    clear h hi
    go_enter Try.func55, Try.ntmps55
    go_wp2_with fail
    refine H.mono ?_
    rintro e w' ⟨rfl, rfl⟩
    go_wp2
    go_ret
    exact ⟨rfl, rfl⟩
  · obtain ⟨k, rfl, hk, _⟩ := tusd_iff hi
    have c1 := h.at2 hk
    simp only [blk, hi, Bool.true_and, Int.toNat_natCast] at H ⊢
    clear h hi
    go_enter Try.func55, Try.ntmps55
    go_wp2_with fail
    refine H.mono ?_
    rintro e w' ⟨rfl, rfl⟩
    go_wp2
    go_ret
    exact ⟨rfl, rfl⟩

/-! What the table is behind a call that writes. -/
def setT (n : Nat) (T : Nat → Fr) (i s : Int) (h c : Bool) : Nat → Fr := if inn n i && isSt s then fun j => if j = i.toNat then ⟨s, h && (s == 2), c⟩ else T j else T
def bornB (n : Nat) (T : Nat → Fr) (i : Int) : Bool := usd n T i && !(T i.toNat).h
def bornT (n : Nat) (T : Nat → Fr) (i : Int) : Nat → Fr := if bornB n T i then fun j => if j = i.toNat then ⟨(T j).s, true, (T j).c⟩ else T j else T
def markB (n : Nat) (T : Nat → Fr) (i : Int) (c : Bool) : Bool := usd n T i && !((T i.toNat).c == c)
def markT (n : Nat) (T : Nat → Fr) (i : Int) (c : Bool) : Nat → Fr := if markB n T i c then fun j => if j = i.toNat then ⟨(T j).s, (T j).h, c⟩ else T j else T

theorem fc_set1 (T : Nat → Fr) (k : Nat) (v : Bool) (j : Nat) : (if j = k * 3 + 1 then .bool v else fc T j) = fc (fun i => if i = k then ⟨(T i).s, v, (T i).c⟩ else T i) j := by
  by_cases e : j / 3 = k
  · by_cases e1 : j % 3 = 1
    · have : j = k * 3 + 1 := by omega
      subst this
      simp [fc_1]
    · have : ¬ j = k * 3 + 1 := by omega
      simp [fc, e, e1, this]
  · have : ¬ j = k * 3 + 1 := by omega
    simp [fc, e, this]
theorem fc_set2 (T : Nat → Fr) (k : Nat) (v : Bool) (j : Nat) : (if j = k * 3 + 2 then .bool v else fc T j) = fc (fun i => if i = k then ⟨(T i).s, (T i).h, v⟩ else T i) j := by
  by_cases e : j / 3 = k
  · by_cases e1 : j % 3 = 2
    · have : j = k * 3 + 2 := by omega
      subst this
      simp [fc_2]
    · have : ¬ j = k * 3 + 2 := by omega
      simp [fc, e, this]
      split
      · rfl
      · split
        · rfl
        · omega
  · have : ¬ j = k * 3 + 2 := by omega
    simp [fc, e, this]
theorem fc_set (T : Nat → Fr) (k : Nat) (f : Fr) (j : Nat) : (if j = k * 3 + 2 then .bool f.c else if j = k * 3 + 1 then .bool f.h else if j = k * 3 then .int .i64 f.s else fc T j) = fc (fun i => if i = k then f else T i) j := by
  by_cases e : j / 3 = k
  · have h3 : j % 3 = 0 ∨ j % 3 = 1 ∨ j % 3 = 2 := by omega
    rcases h3 with h | h | h
    · have : j = k * 3 := by omega
      subst this
      simp [fc_0]
    · have : j = k * 3 + 1 := by omega
      subst this
      simp [fc_1]
    · have : j = k * 3 + 2 := by omega
      subst this
      simp [fc_2]
  · have h0 : ¬ j = k * 3 := by omega
    have h1 : ¬ j = k * 3 + 1 := by omega
    have h2 : ¬ j = k * 3 + 2 := by omega
    simp [fc, e, h0, h1, h2]

section
variable {w : World} {b g n : Nat} {T : Nat → Fr}
theorem Tab.set1 (h : Tab w b g n T) (k : Nat) (v : Bool) : Tab (w.setCell ⟨g, k * 3 + 1, none⟩ (.bool v)) b g n (fun i => if i = k then ⟨(T i).s, v, (T i).c⟩ else T i) :=
  ⟨h.head.set_other (Ne.symm h.ne) _, (h.row.set _ _).congr fun j _ => fc_set1 T k v j, h.few⟩
theorem Tab.set2 (h : Tab w b g n T) (k : Nat) (v : Bool) : Tab (w.setCell ⟨g, k * 3 + 2, none⟩ (.bool v)) b g n (fun i => if i = k then ⟨(T i).s, (T i).h, v⟩ else T i) :=
  ⟨h.head.set_other (Ne.symm h.ne) _, (h.row.set _ _).congr fun j _ => fc_set2 T k v j, h.few⟩
theorem Tab.sets (h : Tab w b g n T) (k : Nat) (f : Fr) : Tab (((w.setCell ⟨g, k * 3, none⟩ (.int .i64 f.s)).setCell ⟨g, k * 3 + 1, none⟩ (.bool f.h)).setCell ⟨g, k * 3 + 2, none⟩ (.bool f.c)) b g n (fun i => if i = k then f else T i) :=
  ⟨((h.head.set_other (Ne.symm h.ne) _).set_other (Ne.symm h.ne) _).set_other (Ne.symm h.ne) _, (((h.row.set _ _).set _ _).set _ _).congr fun j _ => fc_set T k f j, h.few⟩
end

set_option maxHeartbeats 800000 in
theorem tset_any {b g n : Nat} {T : Nat → Fr} (i s : Int) (p c : Bool) (w : World) (h : Tab w b g n T) :
    Calls Try.prog 74 #[.pointer (some ⟨b, 0, none⟩), .int .i64 i, .int .i64 s, .bool p, .bool c] w fun e w' => e = .returned (.bool (inn n i && isSt s)) ∧ Tab w' b g n (setT n T i s p c) ∧ Mut [g] w w' := by
  have H := thas_any i w h
  have L := tisState_any s w
  have c0 := h.hd
  have HT : Hid (Tab w b g n T) := h
  cases hi : inn n i
  · simp only [setT, hi, Bool.false_and, Bool.false_eq_true, if_false] at H ⊢
    clear h hi
    go_enter Try.func74, Try.ntmps74
    go_wp2_with fail
    refine H.mono ?_
    rintro e w' ⟨rfl, rfl⟩
    go_wp2
    go_ret
    exact ⟨rfl, HT.out, Mut.refl _ _⟩
  · obtain ⟨k, rfl, hk⟩ := tinn_iff hi
    have c1 := h.at0 hk
    have c2 := h.at1 hk
    have c3 := h.at2 hk
    have c4 := h.row.frozen
    cases hs : isSt s
    · simp only [setT, hi, hs, Bool.and_false, Bool.false_eq_true, if_false] at H L ⊢
      clear h hi hs
      go_enter Try.func74, Try.ntmps74
      go_wp2_with fail
      refine H.mono ?_
      rintro e w' ⟨rfl, rfl⟩
      go_wp2_with fail
      refine L.mono ?_
      rintro e w' ⟨rfl, rfl⟩
      go_wp2
      go_ret
      exact ⟨rfl, HT.out, Mut.refl _ _⟩
    · simp only [setT, hi, hs, Bool.and_true, if_true, Int.toNat_natCast] at H L ⊢
      clear h hi hs
      have fin : ∀ q : Bool, (p && (s == 2)) = q → Tab (((w.setCell ⟨g, k * 3, none⟩ (.int .i64 s)).setCell ⟨g, k * 3 + 1, none⟩ (.bool q)).setCell ⟨g, k * 3 + 2, none⟩ (.bool c)) b g n (fun j => if j = k then ⟨s, p && (s == 2), c⟩ else T j) := fun q e => by
        subst e
        exact HT.out.sets k ⟨s, _, c⟩
      have FIN : Hid (∀ q : Bool, (p && (s == 2)) = q → Tab (((w.setCell ⟨g, k * 3, none⟩ (.int .i64 s)).setCell ⟨g, k * 3 + 1, none⟩ (.bool q)).setCell ⟨g, k * 3 + 2, none⟩ (.bool c)) b g n (fun j => if j = k then ⟨s, p && (s == 2), c⟩ else T j)) := fin
      clear fin
      have M : Hid (∀ q : Bool, Mut [g] w (((w.setCell ⟨g, k * 3, none⟩ (.int .i64 s)).setCell ⟨g, k * 3 + 1, none⟩ (.bool q)).setCell ⟨g, k * 3 + 2, none⟩ (.bool c))) := fun q => (((Mut.refl _ _).setCell (by simp) _).setCell (by simp) _).setCell (by simp) _
      cases p
      · go_enter Try.func74, Try.ntmps74
        go_wp2_with fail
        refine H.mono ?_
        rintro e w' ⟨rfl, rfl⟩
        go_wp2_with fail
        refine L.mono ?_
        rintro e w' ⟨rfl, rfl⟩
        go_wp2
        go_ret
        exact ⟨rfl, FIN.out _ rfl, M.out _⟩
      · go_enter Try.func74, Try.ntmps74
        go_wp2_with fail
        refine H.mono ?_
        rintro e w' ⟨rfl, rfl⟩
        go_wp2_with fail
        refine L.mono ?_
        rintro e w' ⟨rfl, rfl⟩
        go_wp2
        go_ret
        exact ⟨rfl, FIN.out _ (by simp), M.out _⟩

end Go.Proofs.Ytahpnnjemjjfhaa
