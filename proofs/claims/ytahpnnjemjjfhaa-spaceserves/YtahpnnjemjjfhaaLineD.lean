/-
  Contracts of package line: Waits, Grant, Fail, Begin, End.
-/
import Derived.Test.YtahpnnjemjjfhaaLineC
namespace Go.Proofs.Ytahpnnjemjjfhaa
open Go.RowKit

/-- Those that wait. -/
def wts (E : List Ent) : List Ent := E.filter fun e => e.st == 0
theorem wts_more {E : List Ent} {k : Nat} (hk : k < E.length) : (wts (E.take (k + 1))).length = (wts (E.take k)).length + (if E[k].st == 0 then 1 else 0) := by
  rw [List.take_succ_eq_append_getElem hk]
  unfold wts
  rw [List.filter_append, List.length_append]
  by_cases h : (E[k].st == 0) = true
  · simp [h]
  · simp [h]
theorem wts_le (E : List Ent) : (wts E).length ≤ E.length := List.length_filter_le _ _

set_option maxHeartbeats 1000000 in
theorem lwaits_any {base b : Nat} {v : Value} {E : List Ent} (w : World) (h : LTab w base b v E) :
    Calls Try.prog 40 #[.pointer (some ⟨b, 0, none⟩)] w fun r w' => r = .returned (.int .i64 ((wts E).length : Int)) ∧ Kept w w' := by
  have HT : Hid (LTab w base b v E) := h
  obtain ⟨x, d, rfl⟩ := h.ens.row.form
  have b0 := h.c0
  have hl := h.few
  clear h
  go_enter Try.func40, Try.ntmps40
  go_wp2
  clear b0
  go_loopg [3, 11] E.length (fun m n i wr => ∃ k : Nat, i = .int .i64 k ∧ k ≤ E.length ∧ m = E.length - k ∧ ∃ c : Nat, n = .int .i64 c ∧ c ≤ k ∧ Hid (c = (wts (E.take k)).length ∧ Kept w wr))
  case atStart => exact ⟨0, rfl, by omega, by omega, 0, rfl, by omega, by simp [wts], Kept.refl _⟩
  case round =>
    obtain ⟨k, rfl, hk, hm, c, rfl, hc, hw⟩ := hrel
    have HM : Hid _ := hm
    clear hm
    by_cases hlt : k < E.length
    · obtain ⟨g, cap, ev, _, hg, _⟩ := HT.out.ens.row.here (by omega)
      obtain ⟨rfl, _, rfl⟩ := Value.slice.inj ev
      obtain ⟨c0, c1, c2, c3, c4, c5, c6, c7⟩ := (HT.out.ens.row.kept hw.out.2).eight hlt
      have HC : Hid _ := wts_more hlt
      clear ev
      generalize E[k] = e at *
      go_wp2_with fail
      refine (lwaits_one e _).mono ?_
      rintro r w2 ⟨rfl, k2⟩
      have H2 : Hid (Kept w w2) := hw.out.2.trans k2.ofAlloc
      clear k2 c0 c1 c2 c3 c4 c5 c6 c7
      cases hs : (e.st == 0)
      · have HE : Hid (c = (wts (E.take (k + 1))).length) := by
          have h1 := HC.out
          rw [hs] at h1
          simp at h1
          exact hw.out.1.trans h1.symm
        go_wp2
        go_roundg (gk - 1)
        all_goals (have := HM.out; try omega)
        exact ⟨k + 1, by go_num, by omega, by omega, c, rfl, by omega, HE.out, H2.out⟩
      · have HE : Hid (c + 1 = (wts (E.take (k + 1))).length) := by
          have h1 := HC.out
          rw [hs] at h1
          simp at h1
          show c + 1 = _
          rw [h1, hw.out.1]
        go_wp2
        go_roundg (gk - 1)
        all_goals (have := HM.out; try omega)
        exact ⟨k + 1, by go_num, by omega, by omega, c + 1, by go_num, by omega, HE.out, H2.out⟩
    · obtain rfl : k = E.length := by omega
      have HN : Hid (c = (wts E).length) := by have := hw.out.1; rwa [List.take_length] at this
      go_wp2
      go_ret
      exact ⟨by rw [← HN.out]; rfl, hw.out.2⟩

section
variable {w w' : World} {base b g n d : Nat} {E : List Ent}
theorem LTab.ng (h : LTab w base b (.slice (some ⟨g, 0, none⟩) n d) E) : g ≠ b := fun q => h.ens.nb (by simp [Value.ownBlock, q])
/-- One cell of one request is laid anew. -/
theorem LTab.set (h : LTab w base b (.slice (some ⟨g, 0, none⟩) n d) E) {i j : Nat} (hi : i < E.length) (hj : j < 8) {e' : Ent} {u : Value} (hu : e'.c8 = E[i].c8.set j u)
    (hg : (e'.gx = E[i].gx ∧ e'.G = E[i].G) ∨ (Rdi w e'.gx e'.G ∧ e'.G.length ≤ 100000 ∧ ∀ k, e'.blk = some k → base ≤ k ∧ k < w.heap.size ∧ k ≠ b ∧ k ≠ g)) :
    LTab (w.setCell ⟨g, i * 8 + j, none⟩ u) base b (.slice (some ⟨g, 0, none⟩) n d) (E.set i e') :=
  ⟨h.head.set_other h.ng u, h.ens.set c8len hi hj hu hg, h.lo, by simpa using h.few⟩
theorem gots_set {e' : Ent} {i : Nat} {k : Nat} {v : Value} (hk : k ∈ foot b v (E.set i e')) : k ∈ foot b v E ∨ e'.blk = some k := by
  rcases mem_foot.1 hk with h1 | h1 | ⟨e, he, h1⟩
  · exact .inl (mem_foot.2 (.inl h1))
  · exact .inl (mem_foot.2 (.inr (.inl h1)))
  · rcases List.mem_or_eq_of_mem_set he with he | rfl
    · exact .inl (mem_foot.2 (.inr (.inr ⟨e, he, h1⟩)))
    · exact .inr h1
end

set_option maxHeartbeats 1000000 in
theorem lgrant_no {base b : Nat} {v : Value} {E : List Ent} {x : Option Addr} {l c : Nat} {p : Int} (w : World) (h : LTab w base b v E) (hi : idx (fun e => e.st == 0) E = -1) :
    Calls Try.prog 59 #[.pointer (some ⟨b, 0, none⟩), .slice x l c, .int .i64 p] w fun r w' => r = .returned (.bool false) ∧ Kept w w' := by
  have C := lhead_any w h
  rw [hi] at C
  clear hi h
  go_enter Try.func59, Try.ntmps59
  go_wp2_with fail
  refine C.mono ?_
  rintro r w1 ⟨rfl, k1⟩
  have H1 : Hid (Kept w w1) := k1
  clear k1 C
  go_wp2
  go_ret
  exact ⟨rfl, H1.out⟩

set_option maxHeartbeats 1000000 in
theorem lfail_no {base b : Nat} {v : Value} {E : List Ent} (w : World) (h : LTab w base b v E) (hi : idx (fun e => e.st == 0) E = -1) :
    Calls Try.prog 60 #[.pointer (some ⟨b, 0, none⟩)] w fun r w' => r = .returned (.bool false) ∧ Kept w w' := by
  have C := lhead_any w h
  rw [hi] at C
  clear hi h
  go_enter Try.func60, Try.ntmps60
  go_wp2_with fail
  refine C.mono ?_
  rintro r w1 ⟨rfl, k1⟩
  have H1 : Hid (Kept w w1) := k1
  clear k1 C
  go_wp2
  go_ret
  exact ⟨rfl, H1.out⟩

set_option maxHeartbeats 1000000 in
theorem lfail_yes {base b : Nat} {v : Value} {E : List Ent} {i : Nat} (w : World) (h : LTab w base b v E) (hl : i < E.length) (hi : idx (fun e => e.st == 0) E = (i : Int)) :
    Calls Try.prog 60 #[.pointer (some ⟨b, 0, none⟩)] w fun r w' => r = .returned (.bool true) ∧ LTab w' base b v (E.set i { E[i] with st := 2 }) ∧ Mut (b :: v.ownBlock.toList) w w' ∧ ∀ k, k ∈ foot b v (E.set i { E[i] with st := 2 }) → k ∈ foot b v E ∨ w.heap.size ≤ k := by
  have C := lhead_any w h
  rw [hi] at C
  obtain ⟨g, cap, rfl, _, hg, _⟩ := h.ens.row.here (by omega)
  have hf := h.few
  have HT : Hid (LTab w base b (.slice (some ⟨g, 0, none⟩) E.length cap) E) := h
  clear hi h
  go_enter Try.func60, Try.ntmps60
  go_wp2_with fail
  refine C.mono ?_
  rintro r w1 ⟨rfl, k1⟩
  have H1 : Hid (LTab w1 base b (.slice (some ⟨g, 0, none⟩) E.length cap) E ∧ Kept w w1) := ⟨HT.out.kept k1, k1⟩
  have HR : Hid (LTab (w1.setCell ⟨g, i * 8 + 3, none⟩ (.int .i64 2)) base b (.slice (some ⟨g, 0, none⟩) E.length cap) (E.set i { E[i] with st := 2 })) := H1.out.1.set hl (by omega) rfl (.inl ⟨rfl, rfl⟩)
  have HG : Hid (∀ k, k ∈ foot b (.slice (some ⟨g, 0, none⟩) E.length cap) (E.set i { E[i] with st := 2 }) → k ∈ foot b (.slice (some ⟨g, 0, none⟩) E.length cap) E ∨ w.heap.size ≤ k) := fun k hk => by
    rcases gots_set hk with q | q
    · exact .inl q
    · exact .inl (mem_foot.2 (.inr (.inr ⟨E[i], List.getElem_mem hl, q⟩)))
  have b0 := H1.out.1.c0
  have f0 := H1.out.1.ens.row.fz
  obtain ⟨-, -, -, c3, -⟩ := H1.out.1.ens.row.eight hl
  have e0 : ¬ (i : Int) < 0 := by omega
  have e1 : (i : Int) < (E.length : Int) := by omega
  clear k1 C
  go_wp2
  go_ret
  exact ⟨rfl, HR.out, H1.out.2.mut.setCell (by simp [Value.ownBlock]) _, HG.out⟩

set_option maxHeartbeats 2000000 in
theorem lgrant_yes {base b : Nat} {v : Value} {E : List Ent} {i : Nat} {x : Option Addr} {c : Nat} {N : List Int} {p : Int} (w : World) (h : LTab w base b v E) (hl : i < E.length) (hi : idx (fun e => e.st == 0) E = (i : Int)) (hx : Rdi w x N) (hN : N.length ≤ 100000) :
    Calls Try.prog 59 #[.pointer (some ⟨b, 0, none⟩), .slice x N.length c, .int .i64 p] w fun r w' => r = .returned (.bool true) ∧ ∃ y d, LTab w' base b v (E.set i { E[i] with st := 1, pl := p, gx := y, gc := d, G := N }) ∧ Mut (b :: v.ownBlock.toList) w w' ∧ ∀ k, k ∈ foot b v (E.set i { E[i] with st := 1, pl := p, gx := y, gc := d, G := N }) → k ∈ foot b v E ∨ w.heap.size ≤ k := by
  have C := lhead_any w h
  rw [hi] at C
  obtain ⟨g, cap, rfl, _, hg, _⟩ := h.ens.row.here (by omega)
  have hf := h.few
  have HT : Hid (LTab w base b (.slice (some ⟨g, 0, none⟩) E.length cap) E ∧ Rdi w x N ∧ N.length ≤ 100000) := ⟨h, hx, hN⟩
  clear hi h hx hN
  go_enter Try.func59, Try.ntmps59
  go_wp2_with fail
  refine C.mono ?_
  rintro r w1 ⟨rfl, k1⟩
  have H1 : Hid (LTab w1 base b (.slice (some ⟨g, 0, none⟩) E.length cap) E ∧ Kept w w1) := ⟨HT.out.1.kept k1, k1⟩
  have b0 := H1.out.1.c0
  have e0 : ¬ (i : Int) < 0 := by omega
  have e1 : (i : Int) < (E.length : Int) := by omega
  clear k1 C
  go_wp2_with fail
  refine (lcopied_any _ (HT.out.2.1.kept H1.out.2) (by have := HT.out.2.2; omega)).mono ?_
  rintro r w2 ⟨y, d, rfl, l2, k2⟩
  have T2 := H1.out.1.kept k2
  have hw1 : w.heap.size ≤ w1.heap.size := H1.out.2.size
  have hgw : g < w1.heap.size := by omega
  have hbw : b < w1.heap.size := H1.out.1.ltb
  have R1 := T2.set (e' := { E[i] with st := 1 }) hl (j := 3) (u := .int .i64 1) (by omega) rfl (.inl ⟨rfl, rfl⟩)
  have R2 := R1.set (i := i) (e' := { E[i] with st := 1, pl := p }) (by simpa using hl) (j := 5) (u := .int .i64 p) (by omega) (by simp [Ent.c8]) (.inl (by simp))
  have R3 := R2.set (i := i) (e' := { E[i] with st := 1, pl := p, gx := y, gc := d, G := N }) (by simpa using hl) (j := 6) (u := .slice y N.length d) (by omega) (by simp [Ent.c8]) (.inr ⟨by
      have q : Mut [g] w2 ((w2.setCell ⟨g, i * 8 + 3, none⟩ (.int .i64 1)).setCell ⟨g, i * 8 + 5, none⟩ (.int .i64 p)) := ((Mut.refl _ _).setCell (by simp) _).setCell (by simp) _
      exact l2.rdi.muts q (fun g' o q => by
        have := (l2.lt g' (by rw [q]; rfl)).1
        simp
        omega), HT.out.2.2, fun k hk => by
      have hk' : (Value.slice y N.length d).ownBlock = some k := by
        cases y with
        | none => simp [Ent.blk] at hk
        | some a => simpa [Ent.blk, Value.ownBlock] using hk
      have h1 := l2.lt k hk'
      have h2 := T2.lo
      exact ⟨by omega, by simpa using h1.2, by omega, by omega⟩⟩)
  simp only [List.set_set] at R3
  have HR : Hid _ := R3
  have HK : Hid (Kept w w2) := H1.out.2.trans k2
  have HG : Hid (∀ k, k ∈ foot b (.slice (some ⟨g, 0, none⟩) E.length cap) (E.set i { E[i] with st := 1, pl := p, gx := y, gc := d, G := N }) → k ∈ foot b (.slice (some ⟨g, 0, none⟩) E.length cap) E ∨ w.heap.size ≤ k) := fun k hk => by
    rcases gots_set hk with q | q
    · exact .inl q
    · have hk' : (Value.slice y N.length d).ownBlock = some k := by
        cases y with
        | none => simp [Ent.blk] at q
        | some a => simpa [Ent.blk, Value.ownBlock] using q
      have h1 := l2.lt k hk'
      exact .inr (by omega)
  have f0 := T2.ens.row.fz
  obtain ⟨-, -, -, c3, -, c5, c6, -⟩ := T2.ens.row.eight hl
  clear R1 R2 R3 T2 k2 l2 b0
  go_wp2
  go_ret
  exact ⟨rfl, y, d, HR.out, ((HK.out.mut.setCell (by simp [Value.ownBlock]) _).setCell (by simp [Value.ownBlock]) _).setCell (by simp [Value.ownBlock]) _, HG.out⟩

/-- The first k are turned by f. -/
def upd (f : Ent → Ent) (k : Nat) (E : List Ent) : List Ent := (E.take k).map f ++ E.drop k
section
variable {f : Ent → Ent} {k : Nat} {E : List Ent}
theorem upd_zero : upd f 0 E = E := by simp [upd]
theorem upd_all : upd f E.length E = E.map f := by simp [upd]
theorem upd_len : (upd f k E).length = E.length := by simp [upd]; omega
theorem upd_get (hk : k < E.length) : (upd f k E)[k]'(by rw [upd_len]; exact hk) = E[k] := by
  unfold upd
  rw [List.getElem_append_right (by simp; omega)]
  simp [Nat.min_eq_left (Nat.le_of_lt hk)]
theorem upd_set (hk : k < E.length) : (upd f k E).set k (f E[k]) = upd f (k + 1) E := by
  unfold upd
  have e1 : k - ((E.take k).map f).length = 0 := by simp; omega
  rw [List.set_append_right _ _ (by simp; omega), e1, List.drop_eq_getElem_cons hk, List.set_cons_zero, List.take_succ_eq_append_getElem hk, List.map_append]
  simp only [List.map_cons, List.map_nil, List.append_assoc, List.cons_append, List.nil_append]
theorem foot_upd {b : Nat} {v : Value} (hf : ∀ e, (f e).gx = e.gx) {j : Nat} (hj : j ∈ foot b v (E.map f)) : j ∈ foot b v E := by
  rcases mem_foot.1 hj with h | h | ⟨e, he, h⟩
  · exact mem_foot.2 (.inl h)
  · exact mem_foot.2 (.inr (.inl h))
  · obtain ⟨e0, he0, rfl⟩ := List.mem_map.1 he
    exact mem_foot.2 (.inr (.inr ⟨e0, he0, by simpa [Ent.blk, hf] using h⟩))
end

def noteE (e : Ent) : Ent := { e with nt := e.st == 0 }
def endE (e : Ent) : Ent := { e with cy := if e.nt && e.st == 0 then e.cy + 1 else e.cy, nt := false }

set_option maxHeartbeats 2000000 in
theorem lbegin_any {base b : Nat} {v : Value} {E : List Ent} (w : World) (h : LTab w base b v E) :
    Calls Try.prog 56 #[.pointer (some ⟨b, 0, none⟩)] w fun r w' => r = .returned (.tuple #[]) ∧ LTab w' base b v (E.map noteE) ∧ Mut (b :: v.ownBlock.toList) w w' := by
  obtain ⟨x, d, rfl⟩ := h.ens.row.form
  have b0 := h.c0
  have hl := h.few
  have HT : Hid (LTab w base b (.slice x E.length d) E) := h
  clear h
  go_enter Try.func56, Try.ntmps56
  go_wp2
  clear b0
  go_loopg [9] E.length (fun m i wr => ∃ k : Nat, i = .int .i64 k ∧ k ≤ E.length ∧ m = E.length - k ∧ Hid (LTab wr base b (.slice x E.length d) (upd noteE k E) ∧ Mut (b :: (Value.slice x E.length d).ownBlock.toList) w wr))
  case atStart => exact ⟨0, rfl, by omega, by omega, by rw [upd_zero]; exact HT.out, Mut.refl _ _⟩
  case round =>
    obtain ⟨k, rfl, hk, hm, hw⟩ := hrel
    have HM : Hid _ := hm
    clear hm
    by_cases hlt : k < E.length
    · obtain ⟨g, cap, ev, _, hg, _⟩ := HT.out.ens.row.here (by omega)
      obtain ⟨rfl, _, rfl⟩ := Value.slice.inj ev
      have hlt2 : k < (upd noteE k E).length := by rw [upd_len]; exact hlt
      have cc := hw.out.1.ens.row.eight hlt2
      rw [upd_get hlt] at cc
      obtain ⟨c0, c1, c2, c3, c4, c5, c6, c7⟩ := cc
      have b0 := hw.out.1.c0
      have HS : Hid (∀ w2, Kept wr w2 → LTab (w2.setCell ⟨g, k * 8 + 7, none⟩ (.bool (E[k].st == 0))) base b (.slice (some ⟨g, 0, none⟩) E.length d) (upd noteE (k + 1) E)) := fun w2 k2 => by
        have := (hw.out.1.kept k2).set hlt2 (j := 7) (e' := noteE E[k]) (u := .bool (E[k].st == 0)) (by omega) (by rw [upd_get hlt]; rfl) (.inl (by rw [upd_get hlt]; exact ⟨rfl, rfl⟩))
        rwa [upd_set hlt] at this
      have e1 : (k : Int) < (E.length : Int) := by omega
      clear ev
      generalize E[k] = e at *
      go_wp2_with fail
      refine (lwaits_one e _).mono ?_
      rintro r w2 ⟨rfl, k2⟩
      have H2 : Hid (LTab (w2.setCell ⟨g, k * 8 + 7, none⟩ (.bool (e.st == 0))) base b (.slice (some ⟨g, 0, none⟩) E.length d) (upd noteE (k + 1) E) ∧ Mut (b :: (Value.slice (some ⟨g, 0, none⟩) E.length d).ownBlock.toList) w (w2.setCell ⟨g, k * 8 + 7, none⟩ (.bool (e.st == 0)))) := ⟨HS.out w2 k2, (hw.out.2.trans k2.mut).setCell (by simp [Value.ownBlock]) _⟩
      have T2 := hw.out.1.kept k2
      have f0 := T2.ens.row.fz
      have d7 := (k2.cell (a := ⟨g, k * 8 + 7, none⟩) (by have := hw.out.2.size; show g < wr.heap.size; omega)).trans c7
      clear k2 c0 c1 c2 c3 c4 c5 c6 c7 b0 T2
      go_wp2
      go_roundg (gk - 1)
      all_goals (have := HM.out; try omega)
      exact ⟨k + 1, by go_num, by omega, by omega, H2.out⟩
    · obtain rfl : k = E.length := by omega
      have HN : Hid (LTab wr base b (.slice x E.length d) (E.map noteE)) := by have := hw.out.1; rwa [upd_all] at this
      go_wp2
      go_end0
      exact ⟨rfl, HN.out, hw.out.2⟩
set_option maxHeartbeats 4000000 in
theorem lend_any {base b : Nat} {v : Value} {E : List Ent} (w : World) (h : LTab w base b v E) (hcy : ∀ e ∈ E, 0 ≤ e.cy ∧ e.cy ≤ 1000000) :
    Calls Try.prog 57 #[.pointer (some ⟨b, 0, none⟩)] w fun r w' => r = .returned (.tuple #[]) ∧ LTab w' base b v (E.map endE) ∧ Mut (b :: v.ownBlock.toList) w w' := by
  obtain ⟨x, d, rfl⟩ := h.ens.row.form
  have b0 := h.c0
  have hl := h.few
  have HT : Hid (LTab w base b (.slice x E.length d) E) := h
  have HY : Hid _ := hcy
  clear h hcy
  go_enter Try.func57, Try.ntmps57
  go_wp2
  clear b0
  go_loopg [9] E.length (fun m i wr => ∃ k : Nat, i = .int .i64 k ∧ k ≤ E.length ∧ m = E.length - k ∧ Hid (LTab wr base b (.slice x E.length d) (upd endE k E) ∧ Mut (b :: (Value.slice x E.length d).ownBlock.toList) w wr))
  case atStart => exact ⟨0, rfl, by omega, by omega, by rw [upd_zero]; exact HT.out, Mut.refl _ _⟩
  case round =>
    obtain ⟨k, rfl, hk, hm, hw⟩ := hrel
    have HM : Hid _ := hm
    clear hm
    by_cases hlt : k < E.length
    · obtain ⟨g, cap, ev, _, hg, _⟩ := HT.out.ens.row.here (by omega)
      obtain ⟨rfl, _, rfl⟩ := Value.slice.inj ev
      have hlt2 : k < (upd endE k E).length := by rw [upd_len]; exact hlt
      have cc := hw.out.1.ens.row.eight hlt2
      rw [upd_get hlt] at cc
      obtain ⟨c0, c1, c2, c3, c4, c5, c6, c7⟩ := cc
      have b0 := hw.out.1.c0
      have hy := HY.out _ (List.getElem_mem hlt)
      have HA : Hid (∀ w2, Kept wr w2 → (E[k].nt && E[k].st == 0) = false → LTab (w2.setCell ⟨g, k * 8 + 7, none⟩ (.bool false)) base b (.slice (some ⟨g, 0, none⟩) E.length d) (upd endE (k + 1) E)) := fun w2 k2 q => by
        have := (hw.out.1.kept k2).set hlt2 (j := 7) (e' := endE E[k]) (u := .bool false) (by omega) (by rw [upd_get hlt]; simp [endE, q, Ent.c8]) (.inl (by rw [upd_get hlt]; exact ⟨rfl, rfl⟩))
        rwa [upd_set hlt] at this
      have HB : Hid (∀ w2, Kept wr w2 → (E[k].nt && E[k].st == 0) = true → LTab ((w2.setCell ⟨g, k * 8 + 4, none⟩ (.int .i64 (E[k].cy + 1))).setCell ⟨g, k * 8 + 7, none⟩ (.bool false)) base b (.slice (some ⟨g, 0, none⟩) E.length d) (upd endE (k + 1) E)) := fun w2 k2 q => by
        have h1 := (hw.out.1.kept k2).set hlt2 (j := 4) (e' := { E[k] with cy := E[k].cy + 1 }) (u := .int .i64 (E[k].cy + 1)) (by omega) (by rw [upd_get hlt]; rfl) (.inl (by rw [upd_get hlt]; exact ⟨rfl, rfl⟩))
        have h2 := h1.set (i := k) (j := 7) (e' := endE E[k]) (u := .bool false) (by simpa using hlt2) (by omega) (by simp [endE, q, Ent.c8]) (.inl (by simp [endE]))
        rwa [List.set_set, upd_set hlt] at h2
      have e1 : (k : Int) < (E.length : Int) := by omega
      have hgw : g < wr.heap.size := by have := hw.out.2.size; omega
      have HF : Hid (∀ w2, Kept wr w2 → ∀ i, w2.frozen? ⟨g, i, none⟩ = false) := fun w2 k2 => (hw.out.1.kept k2).ens.row.fz
      clear ev
      generalize E[k] = e at *
      obtain ⟨th, fr, sp, st, cy, pl, gx, gc, G, nt⟩ := e
      simp only at c0 c1 c2 c3 c4 c5 c6 c7 hy
      cases nt
      · have H2 : Hid (LTab (wr.setCell ⟨g, k * 8 + 7, none⟩ (.bool false)) base b (.slice (some ⟨g, 0, none⟩) E.length d) (upd endE (k + 1) E) ∧ Mut (b :: (Value.slice (some ⟨g, 0, none⟩) E.length d).ownBlock.toList) w (wr.setCell ⟨g, k * 8 + 7, none⟩ (.bool false))) := ⟨HA.out wr (Kept.refl _) rfl, hw.out.2.setCell (by simp [Value.ownBlock]) _⟩
        have f0 := HF.out wr (Kept.refl _)
        go_wp2
        go_roundg (gk - 1)
        all_goals (have := HM.out; try omega)
        exact ⟨k + 1, by go_num, by omega, by omega, H2.out⟩
      · go_wp2_with fail
        refine (lwaits_one ⟨th, fr, sp, st, cy, pl, gx, gc, G, true⟩ _).mono ?_
        rintro r w2 ⟨rfl, k2⟩
        have f0 := HF.out w2 k2
        have d4 := (k2.cell (a := ⟨g, k * 8 + 4, none⟩) hgw).trans c4
        have d7 := (k2.cell (a := ⟨g, k * 8 + 7, none⟩) hgw).trans c7
        cases hs : (st == 0)
        · have H2 : Hid (LTab (w2.setCell ⟨g, k * 8 + 7, none⟩ (.bool false)) base b (.slice (some ⟨g, 0, none⟩) E.length d) (upd endE (k + 1) E) ∧ Mut (b :: (Value.slice (some ⟨g, 0, none⟩) E.length d).ownBlock.toList) w (w2.setCell ⟨g, k * 8 + 7, none⟩ (.bool false))) := ⟨HA.out w2 k2 (by simp [hs]), (hw.out.2.trans k2.mut).setCell (by simp [Value.ownBlock]) _⟩
          clear k2 c0 c1 c2 c3 c4 c5 c6 c7 b0
          go_wp2
          go_roundg (gk - 1)
          all_goals (have := HM.out; try omega)
          exact ⟨k + 1, by go_num, by omega, by omega, H2.out⟩
        · have H2 : Hid (LTab ((w2.setCell ⟨g, k * 8 + 4, none⟩ (.int .i64 (cy + 1))).setCell ⟨g, k * 8 + 7, none⟩ (.bool false)) base b (.slice (some ⟨g, 0, none⟩) E.length d) (upd endE (k + 1) E) ∧ Mut (b :: (Value.slice (some ⟨g, 0, none⟩) E.length d).ownBlock.toList) w ((w2.setCell ⟨g, k * 8 + 4, none⟩ (.int .i64 (cy + 1))).setCell ⟨g, k * 8 + 7, none⟩ (.bool false))) := ⟨HB.out w2 k2 (by simp [hs]), ((hw.out.2.trans k2.mut).setCell (by simp [Value.ownBlock]) _).setCell (by simp [Value.ownBlock]) _⟩
          clear k2 c0 c1 c2 c3 c4 c5 c6 c7 b0
          go_wp2
          go_roundg (gk - 1)
          all_goals (have := HM.out; try omega)
          exact ⟨k + 1, by go_num, by omega, by omega, H2.out⟩
    · obtain rfl : k = E.length := by omega
      have HN : Hid (LTab wr base b (.slice x E.length d) (E.map endE)) := by have := hw.out.1; rwa [upd_all] at this
      go_wp2
      go_end0
      exact ⟨rfl, HN.out, hw.out.2⟩
end Go.Proofs.Ytahpnnjemjjfhaa
