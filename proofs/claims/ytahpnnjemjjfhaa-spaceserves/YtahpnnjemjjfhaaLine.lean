/-
  Contracts of package line: a line as it lies in memory; New; where a request is (place, head); what is told of it (Of, First); Waits.
-/
import Derived.Test.YtahpnnjemjjfhaaEnts
namespace Go.Proofs.Ytahpnnjemjjfhaa
open Go.RowKit

/-- A line at block b. -/
structure LTab (w : World) (base b : Nat) (v : Value) (E : List Ent) : Prop where
  head : Own w b 107 [v]
  ens : Ens 109 8 Ent.c8 w base b v E
  lo : base ≤ b
  few : E.length ≤ 100000

section
variable {w w' : World} {base b : Nat} {v : Value} {E : List Ent}
theorem LTab.ltb (h : LTab w base b v E) : b < w.heap.size := h.head.lt
theorem LTab.lt (h : LTab w base b v E) : ∀ k, k ∈ foot b v E → base ≤ k ∧ k < w.heap.size := h.ens.lt ⟨h.lo, h.ltb⟩
theorem LTab.c0 (h : LTab w base b v E) : w.cell? ⟨b, 0, none⟩ = some v := h.head.blk.at 0 rfl
theorem LTab.fz (h : LTab w base b v E) (i : Nat) : w.frozen? ⟨b, i, none⟩ = false := h.head.blk.fz i
theorem LTab.muts {D : List Nat} (h : LTab w base b v E) (m : Mut D w w') (hd : ∀ k, k ∈ foot b v E → k ∉ D) : LTab w' base b v E :=
  ⟨h.head.muts m (hd b (mem_foot.2 (.inl rfl))), h.ens.muts m hd, h.lo, h.few⟩
theorem LTab.kept (h : LTab w base b v E) (k : Kept w w') : LTab w' base b v E := h.muts (D := []) k.mut (fun _ _ q => by cases q)
/-- Another row behind the head. -/
theorem LTab.turn {v' : Value} {E' : List Ent} (h : LTab w base b v E) (o : Own w' b 107 [v]) (n : Ens 109 8 Ent.c8 w' base b v' E') (hf : E'.length ≤ 100000) : LTab (w'.setCell ⟨b, 0, none⟩ v') base b v' E' := by
  have q : Mut [b] w' (w'.setCell ⟨b, 0, none⟩ v') := (Mut.refl _ _).setCell (by simp) _
  refine ⟨by simpa using o.set 0 v', ⟨n.row.muts q fun k hk hd => ?_, fun e he => (n.got e he).muts' q fun k hk hd => ?_, fun e he k hk => ?_, n.short, n.nb⟩, h.lo, hf⟩
  · simp at hd
    subst hd
    exact n.nb hk
  · simp at hd
    exact (n.gb e he k hk).2.2.1 hd
  · have := n.gb e he k hk
    exact ⟨this.1, by simpa using this.2.1, this.2.2⟩
end

theorem c7len (e : Ent) : e.c7.length = 7 := rfl
theorem c8len (e : Ent) : e.c8.length = 8 := rfl

theorem Rw.eight {t : TypeId} {w : World} {base g n d : Nat} {E : List Ent} (h : Rw t 8 Ent.c8 w base (.slice (some ⟨g, 0, none⟩) n d) E) {k : Nat} (hk : k < E.length) :
    w.cell? ⟨g, k * 8, none⟩ = some (.int .i64 E[k].th) ∧ w.cell? ⟨g, k * 8 + 1, none⟩ = some (.int .i64 E[k].fr) ∧ w.cell? ⟨g, k * 8 + 2, none⟩ = some (.int .i64 E[k].sp) ∧ w.cell? ⟨g, k * 8 + 3, none⟩ = some (.int .i64 E[k].st) ∧
    w.cell? ⟨g, k * 8 + 4, none⟩ = some (.int .i64 E[k].cy) ∧ w.cell? ⟨g, k * 8 + 5, none⟩ = some (.int .i64 E[k].pl) ∧ w.cell? ⟨g, k * 8 + 6, none⟩ = some (.slice E[k].gx E[k].G.length E[k].gc) ∧ w.cell? ⟨g, k * 8 + 7, none⟩ = some (.bool E[k].nt) :=
  ⟨h.cell c8len hk (j := 0) rfl, h.cell c8len hk (j := 1) rfl, h.cell c8len hk (j := 2) rfl, h.cell c8len hk (j := 3) rfl, h.cell c8len hk (j := 4) rfl, h.cell c8len hk (j := 5) rfl, h.cell c8len hk (j := 6) rfl, h.cell c8len hk (j := 7) rfl⟩

set_option maxHeartbeats 400000 in
theorem lnew_any (w : World) {base : Nat} (hb : base ≤ w.heap.size) : Calls Try.prog 68 #[] w fun e w' => ∃ b, e = .returned (.pointer (some ⟨b, 0, none⟩)) ∧ LTab w' base b (.slice none 0 0) [] ∧ Kept w w' ∧ w.heap.size ≤ b := by
  have HO : Hid (∀ w' : World, base ≤ w'.heap.size → LTab (w'.alloc (.cells #[.slice none 0 0] 107)) base w'.heap.size (.slice none 0 0) []) := fun w' hb =>
    ⟨Own.new w' [.slice none 0 0] _, ⟨Rw.nil _ _ _ _ _, fun e he => by simp at he, fun e he => by simp at he, fun e he => by simp at he, by simp [Value.ownBlock]⟩, hb, by simp⟩
  have HK : Hid (base ≤ w.heap.size) := hb
  clear hb
  go_enter Try.func68, Try.ntmps68
  go_wp2
  go_ret
  exact ⟨_, rfl, HO.out w HK.out, (Kept.refl _).alloc _ _, by omega⟩

set_option maxHeartbeats 400000 in
theorem lwaits_one (e : Ent) (w : World) :
    Calls Try.prog 71 #[.agg #[.int .i64 e.th, .int .i64 e.fr, .int .i64 e.sp, .int .i64 e.st, .int .i64 e.cy, .int .i64 e.pl, .slice e.gx e.G.length e.gc, .bool e.nt]] w fun r w' => r = .returned (.bool (e.st == 0)) ∧ Kept w w' := by
  go_enter Try.func71, Try.ntmps71
  go_wp2
  go_ret
  exact ⟨rfl, (Kept.refl _).alloc _ _⟩

set_option maxHeartbeats 400000 in
theorem lsame_one (e : Ent) (t : Int) (B : Nat) (w : World) (hB : B < w.heap.size) (hc : w.cell? ⟨B, 0, none⟩ = some (.int .i64 t)) :
    Calls Try.prog 97 #[.agg #[.int .i64 e.th, .int .i64 e.fr, .int .i64 e.sp, .int .i64 e.st, .int .i64 e.cy, .int .i64 e.pl, .slice e.gx e.G.length e.gc, .bool e.nt], .pointer (some ⟨B, 0, none⟩)] w fun r w' => r = .returned (.bool (e.th == t)) ∧ Kept w w' := by
  have q0 : ∀ A u, (w.alloc (.cells A u)).cell? ⟨B, 0, none⟩ = some (.int .i64 t) := fun A u => ((Kept.refl w).alloc A u).cell hB |>.trans hc
  clear hB hc
  go_enter Try.func97, Try.ntmps97
  go_wp2
  go_ret
  exact ⟨rfl, (Kept.refl _).alloc _ _⟩

/-- The place of the first of which p holds; -1. -/
def idx (p : Ent → Bool) (E : List Ent) : Int := match E.findIdx? p with
  | some i => (i : Int)
  | none => -1
theorem idx_at {p : Ent → Bool} {E : List Ent} {i : Nat} (hi : i < E.length) (h1 : p E[i] = true) (h0 : ∀ e ∈ E.take i, p e = false) : idx p E = (i : Int) := by
  have : E.findIdx? p = some i := List.findIdx?_eq_some_iff_getElem.2 ⟨hi, h1, fun j hj => by
    have := h0 E[j] (List.mem_take_iff_getElem.2 ⟨j, by omega, rfl⟩)
    simp [this]⟩
  simp [idx, this]
theorem take_more {p : Ent → Bool} {E : List Ent} {k : Nat} (hk : k < E.length) (h : ∀ e ∈ E.take k, p e = false) (h1 : p E[k] = false) : ∀ e ∈ E.take (k + 1), p e = false := fun e he => by
  rw [List.take_succ_eq_append_getElem hk] at he
  rcases List.mem_append.1 he with he | he
  · exact h e he
  · simp at he
    rw [he]; exact h1
theorem idx_none {p : Ent → Bool} {E : List Ent} (h : ∀ e ∈ E, p e = false) : idx p E = -1 := by
  have : E.findIdx? p = none := List.findIdx?_eq_none_iff.2 h
  simp [idx, this]
theorem idx_lt {p : Ent → Bool} {E : List Ent} : idx p E = -1 ∨ ∃ i : Nat, idx p E = (i : Int) ∧ ∃ h : i < E.length, p E[i] = true ∧ ∀ j (hj : j < i), p E[j] = false := by
  cases h : E.findIdx? p with
  | none => exact .inl (by simp [idx, h])
  | some i =>
    obtain ⟨hi, h1, h2⟩ := List.findIdx?_eq_some_iff_getElem.1 h
    exact .inr ⟨i, by simp [idx, h], hi, h1, fun j hj => by simpa using h2 j hj⟩

set_option maxHeartbeats 1000000 in
theorem index_head {base : Nat} {v : Value} {E : List Ent} (w : World) (h : Rw 109 8 Ent.c8 w base v E) (hE : E.length ≤ 100000) :
    Calls Try.prog 96 #[v, .func (.func 71) #[] #[]] w fun r w' => r = .returned (.int .i64 (idx (fun e => e.st == 0) E)) ∧ Kept w w' := by
  have HR : Hid (Rw 109 8 Ent.c8 w base v E) := h
  clear h
  obtain ⟨x, d, rfl⟩ := HR.out.form
  go_enter Try.func96, Try.ntmps96
  go_wp2
  go_loopg [8] E.length (fun m i wr => ∃ k : Nat, i = .int .i64 k ∧ k ≤ E.length ∧ m = E.length - k ∧ Hid ((∀ e ∈ E.take k, (e.st == 0) = false) ∧ Kept w wr))
  case atStart => exact ⟨0, rfl, by omega, by omega, fun e he => by simp at he, Kept.refl _⟩
  case round =>
    obtain ⟨k, rfl, hk, hm, hw⟩ := hrel
    have HM : Hid _ := hm
    clear hm
    by_cases hlt : k < E.length
    · obtain ⟨g, cap, ev, _, _, _⟩ := HR.out.here (by omega)
      obtain ⟨rfl, _, rfl⟩ := Value.slice.inj ev
      have HQ := HR.out.kept hw.out.2
      obtain ⟨c0, c1, c2, c3, c4, c5, c6, c7⟩ := HQ.eight hlt
      have HA : Hid (_ → idx (fun e => e.st == 0) E = (k : Int)) := fun q => idx_at (p := fun e => e.st == 0) hlt q hw.out.1
      have HB : Hid (_ → ∀ e ∈ E.take (k + 1), (e.st == 0) = false) := fun q => take_more (p := fun e => e.st == 0) hlt hw.out.1 q
      clear HQ ev
      generalize E[k] = e at *
      have C := lwaits_one e wr
      cases hs : (e.st == 0)
      · rw [hs] at C
        go_wp2_with fail
        refine C.mono ?_
        rintro r w2 ⟨rfl, k2⟩
        have H2 : Hid (Kept w w2) := hw.out.2.trans k2
        clear k2 c0 c1 c2 c3 c4 c5 c6 c7 C
        go_wp2
        go_roundg (gk - 1)
        all_goals (have := HM.out; try omega)
        exact ⟨k + 1, by go_num, by omega, by omega, HB.out hs, H2.out⟩
      · rw [hs] at C
        go_wp2_with fail
        refine C.mono ?_
        rintro r w2 ⟨rfl, k2⟩
        have H2 : Hid (Kept w w2) := hw.out.2.trans k2
        clear k2 c0 c1 c2 c3 c4 c5 c6 c7 C
        go_wp2
        go_ret
        exact ⟨by rw [HA.out hs]; rfl, H2.out⟩
    · obtain rfl : k = E.length := by omega
      have HN : Hid (idx (fun e => e.st == 0) E = -1) := idx_none fun e he => hw.out.1 e (by simpa using he)
      go_wp2
      go_ret
      exact ⟨by rw [HN.out]; rfl, hw.out.2⟩

set_option maxHeartbeats 1000000 in
theorem index_place {base : Nat} {v : Value} {E : List Ent} {t : Int} {B : Nat} (w : World) (h : Rw 109 8 Ent.c8 w base v E) (hE : E.length ≤ 100000) (hB : B < w.heap.size) (hb : w.cell? ⟨B, 0, none⟩ = some (.int .i64 t)) :
    Calls Try.prog 96 #[v, .func (.func 97) #[] #[.pointer (some ⟨B, 0, none⟩)]] w fun r w' => r = .returned (.int .i64 (idx (fun e => e.th == t) E)) ∧ Kept w w' := by
  have HR : Hid (Rw 109 8 Ent.c8 w base v E) := h
  have HB0 : Hid (B < w.heap.size ∧ w.cell? ⟨B, 0, none⟩ = some (.int .i64 t)) := ⟨hB, hb⟩
  clear h hB hb
  obtain ⟨x, d, rfl⟩ := HR.out.form
  go_enter Try.func96, Try.ntmps96
  go_wp2
  go_loopg [8] E.length (fun m i wr => ∃ k : Nat, i = .int .i64 k ∧ k ≤ E.length ∧ m = E.length - k ∧ Hid ((∀ e ∈ E.take k, (e.th == t) = false) ∧ Kept w wr))
  case atStart => exact ⟨0, rfl, by omega, by omega, fun e he => by simp at he, Kept.refl _⟩
  case round =>
    obtain ⟨k, rfl, hk, hm, hw⟩ := hrel
    have HM : Hid _ := hm
    clear hm
    by_cases hlt : k < E.length
    · obtain ⟨g, cap, ev, _, _, _⟩ := HR.out.here (by omega)
      obtain ⟨rfl, _, rfl⟩ := Value.slice.inj ev
      have HQ := HR.out.kept hw.out.2
      obtain ⟨c0, c1, c2, c3, c4, c5, c6, c7⟩ := HQ.eight hlt
      have HA : Hid (_ → idx (fun e => e.th == t) E = (k : Int)) := fun q => idx_at (p := fun e => e.th == t) hlt q hw.out.1
      have HB : Hid (_ → ∀ e ∈ E.take (k + 1), (e.th == t) = false) := fun q => take_more (p := fun e => e.th == t) hlt hw.out.1 q
      clear HQ ev
      generalize E[k] = e at *
      have C := lsame_one e t B wr (Nat.lt_of_lt_of_le HB0.out.1 hw.out.2.size) ((hw.out.2.cell HB0.out.1).trans HB0.out.2)
      cases hs : (e.th == t)
      · rw [hs] at C
        go_wp2_with fail
        refine C.mono ?_
        rintro r w2 ⟨rfl, k2⟩
        have H2 : Hid (Kept w w2) := hw.out.2.trans k2
        clear k2 c0 c1 c2 c3 c4 c5 c6 c7 C
        go_wp2
        go_roundg (gk - 1)
        all_goals (have := HM.out; try omega)
        exact ⟨k + 1, by go_num, by omega, by omega, HB.out hs, H2.out⟩
      · rw [hs] at C
        go_wp2_with fail
        refine C.mono ?_
        rintro r w2 ⟨rfl, k2⟩
        have H2 : Hid (Kept w w2) := hw.out.2.trans k2
        clear k2 c0 c1 c2 c3 c4 c5 c6 c7 C
        go_wp2
        go_ret
        exact ⟨by rw [HA.out hs]; rfl, H2.out⟩
    · obtain rfl : k = E.length := by omega
      have HN : Hid (idx (fun e => e.th == t) E = -1) := idx_none fun e he => hw.out.1 e (by simpa using he)
      go_wp2
      go_ret
      exact ⟨by rw [HN.out]; rfl, hw.out.2⟩

set_option maxHeartbeats 400000 in
theorem lhead_any {base b : Nat} {v : Value} {E : List Ent} (w : World) (h : LTab w base b v E) :
    Calls Try.prog 88 #[.pointer (some ⟨b, 0, none⟩)] w fun r w' => r = .returned (.int .i64 (idx (fun e => e.st == 0) E)) ∧ Kept w w' := by
  obtain ⟨x, d, rfl⟩ := h.ens.row.form
  have c0 := h.c0
  have C := index_head w h.ens.row h.few
  clear h
  go_enter Try.func88, Try.ntmps88
  go_wp2_with fail
  refine C.mono ?_
  rintro r w2 ⟨rfl, k2⟩
  have H2 : Hid (Kept w w2) := k2
  clear k2 c0 C
  go_wp2
  go_ret
  exact ⟨rfl, H2.out⟩

set_option maxHeartbeats 400000 in
theorem lplace_any {base b : Nat} {v : Value} {E : List Ent} (t : Int) (w : World) (h : LTab w base b v E) :
    Calls Try.prog 83 #[.pointer (some ⟨b, 0, none⟩), .int .i64 t] w fun r w' => r = .returned (.int .i64 (idx (fun e => e.th == t) E)) ∧ Kept w w' := by
  have K := (Kept.refl w).alloc #[.int .i64 t] 3
  obtain ⟨x, d, rfl⟩ := h.ens.row.form
  have c0 := (h.kept K).c0
  have C := index_place _ (h.kept K).ens.row h.few (t := t) (B := w.heap.size) (by simp) (by simp)
  clear h
  have HK : Hid (Kept w _) := K
  clear K
  go_enter Try.func83, Try.ntmps83
  go_wp2_with fail
  refine C.mono ?_
  rintro r w2 ⟨rfl, k2⟩
  have H2 : Hid (Kept w w2) := HK.out.trans k2
  clear k2 c0 C
  go_wp2
  go_ret
  exact ⟨rfl, H2.out⟩

set_option maxHeartbeats 1000000 in
theorem lcopied_any {x : Option Addr} {c : Nat} {N : List Int} (w : World) (hx : Rdi w x N) (hn : N.length ≤ 1000000) :
    Calls Try.prog 89 #[.slice x N.length c] w fun e w' => ∃ y d, e = .returned (.slice y N.length d) ∧ Lst w' w.heap.size (.slice y N.length d) N ∧ Kept w w' := by
  have HX : Hid (Rdi w x N) := hx
  have HL : Hid (Lst w w.heap.size (.slice none 0 0) []) := Lst.nil _ _
  have z1 : w.heap.size ≤ w.heap.size := Nat.le_refl _
  have z2 : ([] : List Int).length + N.length ≤ 1000000 := by simpa using hn
  clear hx hn
  go_enter Try.func89, Try.ntmps89
  go_wp2_with (at_builtin; refine wpList_append_lst (T := []) (N := N) rfl _ _ rfl rfl HL.out z1 rfl rfl HX.out z2 ?_)
  intro v2 w2 l2 m2 f2
  have H2 : Hid (Lst w2 w.heap.size v2 N ∧ Kept w w2) := ⟨by simpa using l2, (Kept.refl w).muts m2 (by simp [Value.ownBlock])⟩
  clear l2 m2 f2 z1 z2
  obtain ⟨y2, d2, rfl⟩ := H2.out.1.form
  go_wp2
  go_ret
  exact ⟨_, _, rfl, H2.out⟩

end Go.Proofs.Ytahpnnjemjjfhaa
