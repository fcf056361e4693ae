/-
  The document's line as it lies in memory; what only reads (find, first, Of, First, Waits), and Fail.
-/
import Derived.Test.YtjobnlfecochfaaFirst10
namespace Go.Proofs.Ytjobnlfecochfaa
open Go.RowKit

structure RTab (w : World) (base b : Nat) (v nv : Value) (E : List Ent) (N : List Int) : Prop where
  head : Own w b 30 [v, nv]
  ens : Ens 35 7 Ent.c7 w base b v E
  ln : Lst w base nv N
  lo : base ≤ b
  few : E.length ≤ 100000
  n1 : nv.ownBlock ≠ some b
  n2 : ∀ k, v.ownBlock = some k → nv.ownBlock ≠ some k

def footR (b : Nat) (v nv : Value) (E : List Ent) : List Nat := nv.ownBlock.toList ++ foot b v E
theorem mem_footR {b : Nat} {v nv : Value} {E : List Ent} {k : Nat} : k ∈ footR b v nv E ↔ nv.ownBlock = some k ∨ k ∈ foot b v E := by simp [footR]

section
variable {w w' : World} {base b : Nat} {v nv : Value} {E : List Ent} {N : List Int}
theorem RTab.ltb (h : RTab w base b v nv E N) : b < w.heap.size := h.head.lt
theorem RTab.lt (h : RTab w base b v nv E N) : ∀ k, k ∈ footR b v nv E → base ≤ k ∧ k < w.heap.size := fun k hk => by
  rcases mem_footR.1 hk with q | q
  · exact h.ln.lt k q
  · exact h.ens.lt ⟨h.lo, h.ltb⟩ k q
theorem RTab.c0 (h : RTab w base b v nv E N) : w.cell? ⟨b, 0, none⟩ = some v := h.head.blk.at 0 rfl
theorem RTab.c1 (h : RTab w base b v nv E N) : w.cell? ⟨b, 1, none⟩ = some nv := h.head.blk.at 1 rfl
theorem RTab.fz (h : RTab w base b v nv E N) (i : Nat) : w.frozen? ⟨b, i, none⟩ = false := h.head.blk.fz i
theorem RTab.muts {D : List Nat} (h : RTab w base b v nv E N) (m : Mut D w w') (hd : ∀ k, k ∈ footR b v nv E → k ∉ D) : RTab w' base b v nv E N :=
  ⟨h.head.muts m (hd b (mem_footR.2 (.inr (mem_foot.2 (.inl rfl))))), h.ens.muts m (fun k hk => hd k (mem_footR.2 (.inr hk))), h.ln.muts m (fun k hk => hd k (mem_footR.2 (.inl hk))), h.lo, h.few, h.n1, h.n2⟩
theorem RTab.kept (h : RTab w base b v nv E N) (k : Kept w w') : RTab w' base b v nv E N := h.muts (D := []) k.mut (fun _ _ q => by cases q)
theorem memR_own {k : Nat} (hk : k ∈ b :: v.ownBlock.toList) : k ∈ footR b v nv E := mem_footR.2 (.inr (by
  simp at hk
  rcases hk with rfl | hk
  · exact mem_foot.2 (.inl rfl)
  · exact mem_foot.2 (.inr (.inl hk))))
theorem RTab.own (h : RTab w base b v nv E N) : ∀ k, k ∈ b :: v.ownBlock.toList → base ≤ k ∧ k < w.heap.size := fun k hk => h.lt k (memR_own hk)
/-- A cell of the head is laid anew. -/
theorem Ens.atb {t : TypeId} {m : Nat} {c : Ent → List Value} (n : Ens t m c w base b v E) (i : Nat) (u : Value) : Ens t m c (w.setCell ⟨b, i, none⟩ u) base b v E := by
  have q : Mut [b] w (w.setCell ⟨b, i, none⟩ u) := (Mut.refl _ _).setCell (by simp) _
  refine ⟨n.row.muts q fun k hk hd => ?_, fun e he => (n.got e he).muts' q fun k hk hd => ?_, fun e he k hk => ?_, n.short, n.nb⟩
  · simp at hd
    subst hd
    exact n.nb hk
  · simp at hd
    exact (n.gb e he k hk).2.2.1 hd
  · have := n.gb e he k hk
    exact ⟨this.1, by simpa using this.2.1, this.2.2⟩
theorem Lst.atb {nv : Value} {N : List Int} (l : Lst w base nv N) (h1 : nv.ownBlock ≠ some b) (i : Nat) (u : Value) : Lst (w.setCell ⟨b, i, none⟩ u) base nv N :=
  l.muts (D := [b]) ((Mut.refl _ _).setCell (by simp) _) fun k hk hd => by
    simp at hd
    subst hd
    exact h1 hk
/-- Another row behind the head. -/
theorem RTab.turn {v' : Value} {E' : List Ent} (h : RTab w base b v nv E N) (o : Own w' b 30 [v, nv]) (n : Ens 35 7 Ent.c7 w' base b v' E') (l : Lst w' base nv N) (h2 : ∀ k, v'.ownBlock = some k → nv.ownBlock ≠ some k) (hf : E'.length ≤ 100000) : RTab (w'.setCell ⟨b, 0, none⟩ v') base b v' nv E' N :=
  ⟨by simpa using o.set 0 v', n.atb 0 v', l.atb h.n1 0 v', h.lo, hf, h.n1, h2⟩
/-- Others noted. -/
theorem RTab.note {nv' : Value} {N' : List Int} (h : RTab w base b v nv E N) (l : Lst w base nv' N') (h1 : nv'.ownBlock ≠ some b) (h2 : ∀ k, v.ownBlock = some k → nv'.ownBlock ≠ some k) : RTab (w.setCell ⟨b, 1, none⟩ nv') base b v nv' E N' :=
  ⟨by simpa using h.head.set 1 nv', h.ens.atb 1 nv', l.atb h1 1 nv', h.lo, h.few, h1, h2⟩
/-- One cell of one request is laid anew. -/
theorem RTab.set {g n d : Nat} (h : RTab w base b (.slice (some ⟨g, 0, none⟩) n d) nv E N) {i j : Nat} (hi : i < E.length) (hj : j < 7) {e' : Ent} {u : Value} (hu : e'.c7 = E[i].c7.set j u)
    (hg : (e'.gx = E[i].gx ∧ e'.G = E[i].G) ∨ (Rdi w e'.gx e'.G ∧ e'.G.length ≤ 100000 ∧ ∀ k, e'.blk = some k → base ≤ k ∧ k < w.heap.size ∧ k ≠ b ∧ k ≠ g)) :
    RTab (w.setCell ⟨g, i * 7 + j, none⟩ u) base b (.slice (some ⟨g, 0, none⟩) n d) nv (E.set i e') N :=
  have hgb : g ≠ b := fun q => h.ens.nb (by simp [Value.ownBlock, q])
  ⟨h.head.set_other hgb u, h.ens.set c7len hi hj hu hg, h.ln.muts (D := [g]) ((Mut.refl _ _).setCell (by simp) _) (fun k hk hd => by
    simp at hd
    subst hd
    exact h.n2 k rfl hk), h.lo, by simpa using h.few, h.n1, h.n2⟩
end

theorem Rw.seven {t : TypeId} {w : World} {base g n d : Nat} {E : List Ent} (h : Rw t 7 Ent.c7 w base (.slice (some ⟨g, 0, none⟩) n d) E) {k : Nat} (hk : k < E.length) :
    w.cell? ⟨g, k * 7, none⟩ = some (.int .i64 E[k].th) ∧ w.cell? ⟨g, k * 7 + 1, none⟩ = some (.int .i64 E[k].fr) ∧ w.cell? ⟨g, k * 7 + 2, none⟩ = some (.int .i64 E[k].sp) ∧ w.cell? ⟨g, k * 7 + 3, none⟩ = some (.int .i64 E[k].st) ∧
    w.cell? ⟨g, k * 7 + 4, none⟩ = some (.int .i64 E[k].cy) ∧ w.cell? ⟨g, k * 7 + 5, none⟩ = some (.int .i64 E[k].pl) ∧ w.cell? ⟨g, k * 7 + 6, none⟩ = some (.slice E[k].gx E[k].G.length E[k].gc) :=
  ⟨h.cell c7len hk (j := 0) rfl, h.cell c7len hk (j := 1) rfl, h.cell c7len hk (j := 2) rfl, h.cell c7len hk (j := 3) rfl, h.cell c7len hk (j := 4) rfl, h.cell c7len hk (j := 5) rfl, h.cell c7len hk (j := 6) rfl⟩

set_option maxHeartbeats 1000000 in
theorem rplace_any {base b : Nat} {v nv : Value} {E : List Ent} {N : List Int} (t : Int) (w : World) (h : RTab w base b v nv E N) :
    Calls Try.prog 33 #[.pointer (some ⟨b, 0, none⟩), .int .i64 t] w fun r w' => r = .returned (.int .i64 (idx (fun e => e.th == t) E)) ∧ w' = w := by
  have HT : Hid (RTab w base b v nv E N) := h
  have c0 := h.c0
  have hE := h.few
  obtain ⟨x, d, rfl⟩ := h.ens.row.form
  clear h
  go_enter Try.func33, Try.ntmps33
  go_wp2
  go_loopg [5] E.length (fun m i wr => ∃ k : Nat, i = .int .i64 k ∧ k ≤ E.length ∧ m = E.length - k ∧ Hid (∀ e ∈ E.take k, (e.th == t) = false) ∧ w = wr)
  case atStart => exact ⟨0, rfl, by omega, by omega, fun e he => by simp at he, rfl⟩
  case round =>
    obtain ⟨k, rfl, hk, hm, hw, rfl⟩ := hrel
    have HM : Hid _ := hm
    clear hm
    by_cases hlt : k < E.length
    · obtain ⟨g, cap, ev, _, _, _⟩ := HT.out.ens.row.here (by omega)
      obtain ⟨rfl, _, rfl⟩ := Value.slice.inj ev
      obtain ⟨d0, -, -, d3, -⟩ := HT.out.ens.row.seven hlt
      have HA : Hid (_ → idx (fun e => e.th == t) E = (k : Int)) := fun q => idx_at (p := fun e => e.th == t) hlt q hw.out
      have HB : Hid (_ → ∀ e ∈ E.take (k + 1), (e.th == t) = false) := fun q => take_more (p := fun e => e.th == t) hlt hw.out q
      have e1 : (k : Int) < (E.length : Int) := by omega
      clear ev
      generalize E[k] = e at *
      cases hs : (e.th == t)
      · have HE : Hid _ := HB.out hs
        clear HA HB
        go_wp2
        go_roundg (gk - 1)
        all_goals (have := HM.out; try omega)
        exact ⟨k + 1, by go_num, by omega, by omega, HE.out, rfl⟩
      · have HE : Hid _ := HA.out hs
        clear HA HB
        go_wp2
        go_ret
        exact ⟨by rw [HE.out]; rfl, rfl⟩
    · obtain rfl : k = E.length := by omega
      have HN : Hid (idx (fun e => e.th == t) E = -1) := idx_none fun e he => hw.out e (by simpa using he)
      go_wp2
      go_ret
      exact ⟨by rw [HN.out]; rfl, rfl⟩

set_option maxHeartbeats 1000000 in
theorem rhead_any {base b : Nat} {v nv : Value} {E : List Ent} {N : List Int} (w : World) (h : RTab w base b v nv E N) :
    Calls Try.prog 36 #[.pointer (some ⟨b, 0, none⟩)] w fun r w' => r = .returned (.int .i64 (idx (fun e => e.st == 0) E)) ∧ w' = w := by
  have HT : Hid (RTab w base b v nv E N) := h
  have c0 := h.c0
  have hE := h.few
  obtain ⟨x, d, rfl⟩ := h.ens.row.form
  clear h
  go_enter Try.func36, Try.ntmps36
  go_wp2
  go_loopg [3] E.length (fun m i wr => ∃ k : Nat, i = .int .i64 k ∧ k ≤ E.length ∧ m = E.length - k ∧ Hid (∀ e ∈ E.take k, (e.st == 0) = false) ∧ w = wr)
  case atStart => exact ⟨0, rfl, by omega, by omega, fun e he => by simp at he, rfl⟩
  case round =>
    obtain ⟨k, rfl, hk, hm, hw, rfl⟩ := hrel
    have HM : Hid _ := hm
    clear hm
    by_cases hlt : k < E.length
    · obtain ⟨g, cap, ev, _, _, _⟩ := HT.out.ens.row.here (by omega)
      obtain ⟨rfl, _, rfl⟩ := Value.slice.inj ev
      obtain ⟨d0, -, -, d3, -⟩ := HT.out.ens.row.seven hlt
      have HA : Hid (_ → idx (fun e => e.st == 0) E = (k : Int)) := fun q => idx_at (p := fun e => e.st == 0) hlt q hw.out
      have HB : Hid (_ → ∀ e ∈ E.take (k + 1), (e.st == 0) = false) := fun q => take_more (p := fun e => e.st == 0) hlt hw.out q
      have e1 : (k : Int) < (E.length : Int) := by omega
      clear ev
      generalize E[k] = e at *
      cases hs : (e.st == 0)
      · have HE : Hid _ := HB.out hs
        clear HA HB
        go_wp2
        go_roundg (gk - 1)
        all_goals (have := HM.out; try omega)
        exact ⟨k + 1, by go_num, by omega, by omega, HE.out, rfl⟩
      · have HE : Hid _ := HA.out hs
        clear HA HB
        go_wp2
        go_ret
        exact ⟨by rw [HE.out]; rfl, rfl⟩
    · obtain rfl : k = E.length := by omega
      have HN : Hid (idx (fun e => e.st == 0) E = -1) := idx_none fun e he => hw.out e (by simpa using he)
      go_wp2
      go_ret
      exact ⟨by rw [HN.out]; rfl, rfl⟩

set_option maxHeartbeats 2000000 in
theorem rof_any {base b : Nat} {v nv : Value} {E : List Ent} {N : List Int} (t : Int) (w : World) (h : RTab w base b v nv E N) :
    Calls Try.prog 23 #[.pointer (some ⟨b, 0, none⟩), .int .i64 t] w fun r w' => r = .returned (.tuple #[(told (E.find? fun e => e.th == t)).agg (told (E.find? fun e => e.th == t)).gx (told (E.find? fun e => e.th == t)).gc, .bool (E.find? fun e => e.th == t).isSome]) ∧ Kept w w' := by
  rcases idx_cases (fun e => e.th == t) E with ⟨h1, h2, -⟩ | ⟨i, hi, h1, h2, -⟩
  · rw [h2]
    have C := fun w' (k : Kept w w') => rplace_any t w' (h.kept k)
    rw [h1] at C
    have HC : Hid _ := C
    clear h h1 h2 C
    go_enter Try.func23, Try.ntmps23
    go_wp2_with fail
    refine (HC.out _ ((Kept.refl w).alloc _ _)).mono ?_
    rintro r w1 ⟨rfl, rfl⟩
    go_wp2
    (try simp only [Exit.inBlock, Exit.then])
    exact bodyPost_ret_by (results_blk_tmp rfl _ _ w.heap.size [.int .i64 0, .int .i64 0, .int .i64 0, .int .i64 0, .int .i64 0, .int .i64 0, .slice none 0 0] rfl (Blk.new _ _ _) Try.underlying35 (by kernel_rfl)) rfl ⟨rfl, (Kept.refl w).alloc _ _⟩
  · rw [h2]
    have C := fun w' (k : Kept w w') => rplace_any t w' (h.kept k)
    rw [h1] at C
    have HC : Hid _ := C
    obtain ⟨g, cap, rfl, _, hg, _⟩ := h.ens.row.here (by omega)
    have hl := h.few
    have hb := h.ltb
    have b0 := h.c0
    obtain ⟨c0, c1, c2, c3, c4, c5, c6⟩ := h.ens.row.seven hi
    have K0 : ∀ A t, Kept w (w.alloc (.cells A t)) := fun A t => (Kept.refl w).alloc A t
    have p0 := fun A t => ((K0 A t).cell hb).trans b0
    have q0 := fun A t => ((K0 A t).cell hg).trans c0
    have q1 := fun A t => ((K0 A t).cell hg).trans c1
    have q2 := fun A t => ((K0 A t).cell hg).trans c2
    have q3 := fun A t => ((K0 A t).cell hg).trans c3
    have q4 := fun A t => ((K0 A t).cell hg).trans c4
    have q5 := fun A t => ((K0 A t).cell hg).trans c5
    have q6 := fun A t => ((K0 A t).cell hg).trans c6
    clear h K0 b0 c0 c1 c2 c3 c4 c5 c6 h1 h2 C
    generalize E[i] = e at *
    have e0 : ¬ (i : Int) < 0 := by omega
    have e1 : (i : Int) < (E.length : Int) := by omega
    go_enter Try.func23, Try.ntmps23
    go_wp2_with fail
    refine (HC.out _ ((Kept.refl w).alloc _ _)).mono ?_
    rintro r w1 ⟨rfl, rfl⟩
    go_wp2
    (try simp only [Exit.inBlock, Exit.then])
    exact bodyPost_ret_by (results_blk_tmp rfl _ _ w.heap.size [.int .i64 e.th, .int .i64 e.fr, .int .i64 e.sp, .int .i64 e.st, .int .i64 e.cy, .int .i64 e.pl, .slice e.gx e.G.length e.gc] rfl (Blk.new _ _ _) Try.underlying35 (by kernel_rfl)) rfl ⟨rfl, (Kept.refl w).alloc _ _⟩

set_option maxHeartbeats 2000000 in
theorem rfirst_any {base b : Nat} {v nv : Value} {E : List Ent} {N : List Int} (w : World) (h : RTab w base b v nv E N) :
    Calls Try.prog 25 #[.pointer (some ⟨b, 0, none⟩)] w fun r w' => r = .returned (.tuple #[(told (E.find? fun e => e.st == 0)).agg (told (E.find? fun e => e.st == 0)).gx (told (E.find? fun e => e.st == 0)).gc, .bool (E.find? fun e => e.st == 0).isSome]) ∧ Kept w w' := by
  rcases idx_cases (fun e => e.st == 0) E with ⟨h1, h2, -⟩ | ⟨i, hi, h1, h2, -⟩
  · rw [h2]
    have C := fun w' (k : Kept w w') => rhead_any w' (h.kept k)
    rw [h1] at C
    have HC : Hid _ := C
    clear h h1 h2 C
    go_enter Try.func25, Try.ntmps25
    go_wp2_with fail
    refine (HC.out _ ((Kept.refl w).alloc _ _)).mono ?_
    rintro r w1 ⟨rfl, rfl⟩
    go_wp2
    (try simp only [Exit.inBlock, Exit.then])
    exact bodyPost_ret_by (results_blk_tmp rfl _ _ w.heap.size [.int .i64 0, .int .i64 0, .int .i64 0, .int .i64 0, .int .i64 0, .int .i64 0, .slice none 0 0] rfl (Blk.new _ _ _) Try.underlying35 (by kernel_rfl)) rfl ⟨rfl, (Kept.refl w).alloc _ _⟩
  · rw [h2]
    have C := fun w' (k : Kept w w') => rhead_any w' (h.kept k)
    rw [h1] at C
    have HC : Hid _ := C
    obtain ⟨g, cap, rfl, _, hg, _⟩ := h.ens.row.here (by omega)
    have hl := h.few
    have hb := h.ltb
    have b0 := h.c0
    obtain ⟨c0, c1, c2, c3, c4, c5, c6⟩ := h.ens.row.seven hi
    have K0 : ∀ A t, Kept w (w.alloc (.cells A t)) := fun A t => (Kept.refl w).alloc A t
    have p0 := fun A t => ((K0 A t).cell hb).trans b0
    have q0 := fun A t => ((K0 A t).cell hg).trans c0
    have q1 := fun A t => ((K0 A t).cell hg).trans c1
    have q2 := fun A t => ((K0 A t).cell hg).trans c2
    have q3 := fun A t => ((K0 A t).cell hg).trans c3
    have q4 := fun A t => ((K0 A t).cell hg).trans c4
    have q5 := fun A t => ((K0 A t).cell hg).trans c5
    have q6 := fun A t => ((K0 A t).cell hg).trans c6
    clear h K0 b0 c0 c1 c2 c3 c4 c5 c6 h1 h2 C
    generalize E[i] = e at *
    have e0 : ¬ (i : Int) < 0 := by omega
    have e1 : (i : Int) < (E.length : Int) := by omega
    go_enter Try.func25, Try.ntmps25
    go_wp2_with fail
    refine (HC.out _ ((Kept.refl w).alloc _ _)).mono ?_
    rintro r w1 ⟨rfl, rfl⟩
    go_wp2
    (try simp only [Exit.inBlock, Exit.then])
    exact bodyPost_ret_by (results_blk_tmp rfl _ _ w.heap.size [.int .i64 e.th, .int .i64 e.fr, .int .i64 e.sp, .int .i64 e.st, .int .i64 e.cy, .int .i64 e.pl, .slice e.gx e.G.length e.gc] rfl (Blk.new _ _ _) Try.underlying35 (by kernel_rfl)) rfl ⟨rfl, (Kept.refl w).alloc _ _⟩

set_option maxHeartbeats 1000000 in
theorem rwaits_any {base b : Nat} {v nv : Value} {E : List Ent} {N : List Int} (w : World) (h : RTab w base b v nv E N) :
    Calls Try.prog 28 #[.pointer (some ⟨b, 0, none⟩)] w fun r w' => r = .returned (.int .i64 ((wts E).length : Int)) ∧ w' = w := by
  have HT : Hid (RTab w base b v nv E N) := h
  obtain ⟨x, d, rfl⟩ := h.ens.row.form
  have b0 := h.c0
  have hl := h.few
  clear h
  go_enter Try.func28, Try.ntmps28
  go_wp2
  go_loopg [3, 4] E.length (fun m n i wr => ∃ k : Nat, i = .int .i64 k ∧ k ≤ E.length ∧ m = E.length - k ∧ ∃ c : Nat, n = .int .i64 c ∧ c ≤ k ∧ Hid (c = (wts (E.take k)).length) ∧ w = wr)
  case atStart => exact ⟨0, rfl, by omega, by omega, 0, rfl, by omega, by simp [wts, Hid], rfl⟩
  case round =>
    obtain ⟨k, rfl, hk, hm, c, rfl, hc, hw, rfl⟩ := hrel
    have HM : Hid _ := hm
    clear hm
    by_cases hlt : k < E.length
    · obtain ⟨g, cap, ev, _, hg, _⟩ := HT.out.ens.row.here (by omega)
      obtain ⟨rfl, _, rfl⟩ := Value.slice.inj ev
      obtain ⟨-, -, -, c3, -⟩ := HT.out.ens.row.seven hlt
      have HC : Hid _ := wts_more hlt
      have e1 : (k : Int) < (E.length : Int) := by omega
      clear ev
      generalize E[k] = e at *
      cases hs : (e.st == 0)
      · have HE : Hid (c = (wts (E.take (k + 1))).length) := by
          have h1 := HC.out
          rw [hs] at h1
          simp at h1
          exact hw.out.trans h1.symm
        clear HC
        go_wp2
        go_roundg (gk - 1)
        all_goals (have := HM.out; try omega)
        exact ⟨k + 1, by go_num, by omega, by omega, c, rfl, by omega, HE.out, rfl⟩
      · have HE : Hid (c + 1 = (wts (E.take (k + 1))).length) := by
          have h1 := HC.out
          rw [hs] at h1
          simp at h1
          show c + 1 = _
          rw [h1, hw.out]
        clear HC
        go_wp2
        go_roundg (gk - 1)
        all_goals (have := HM.out; try omega)
        exact ⟨k + 1, by go_num, by omega, by omega, c + 1, by go_num, by omega, HE.out, rfl⟩
    · obtain rfl : k = E.length := by omega
      have HN : Hid (c = (wts E).length) := by have := hw.out; rwa [List.take_length] at this
      go_wp2
      go_ret
      exact ⟨by rw [← HN.out]; rfl, rfl⟩

set_option maxHeartbeats 1000000 in
theorem rfail_no {base b : Nat} {v nv : Value} {E : List Ent} {N : List Int} (w : World) (h : RTab w base b v nv E N) (hi : idx (fun e => e.st == 0) E = -1) :
    Calls Try.prog 15 #[.pointer (some ⟨b, 0, none⟩)] w fun r w' => r = .returned (.bool false) ∧ w' = w := by
  have C := rhead_any w h
  rw [hi] at C
  clear hi h
  go_enter Try.func15, Try.ntmps15
  go_wp2_with fail
  refine C.mono ?_
  rintro r w1 ⟨rfl, rfl⟩
  go_wp2
  go_ret
  exact ⟨rfl, rfl⟩

theorem gotsR_set {b : Nat} {v nv : Value} {E : List Ent} {e' : Ent} {i k : Nat} (hk : k ∈ footR b v nv (E.set i e')) : k ∈ footR b v nv E ∨ e'.blk = some k := by
  rcases mem_footR.1 hk with q | q
  · exact .inl (mem_footR.2 (.inl q))
  · rcases gots_set q with q | q
    · exact .inl (mem_footR.2 (.inr q))
    · exact .inr q

set_option maxHeartbeats 1000000 in
theorem rfail_yes {base b : Nat} {v nv : Value} {E : List Ent} {N : List Int} {i : Nat} (w : World) (h : RTab w base b v nv E N) (hl : i < E.length) (hi : idx (fun e => e.st == 0) E = (i : Int)) :
    Calls Try.prog 15 #[.pointer (some ⟨b, 0, none⟩)] w fun r w' => r = .returned (.bool true) ∧ RTab w' base b v nv (E.set i { E[i] with st := 2 }) N ∧ Mut (b :: v.ownBlock.toList) w w' ∧ ∀ k, k ∈ footR b v nv (E.set i { E[i] with st := 2 }) → k ∈ footR b v nv E ∨ w.heap.size ≤ k := by
  have C := rhead_any w h
  rw [hi] at C
  obtain ⟨g, cap, rfl, _, hg, _⟩ := h.ens.row.here (by omega)
  have hf := h.few
  have HR : Hid (RTab (w.setCell ⟨g, i * 7 + 3, none⟩ (.int .i64 2)) base b (.slice (some ⟨g, 0, none⟩) E.length cap) nv (E.set i { E[i] with st := 2 }) N) := h.set hl (by omega) rfl (.inl ⟨rfl, rfl⟩)
  have HG : Hid (∀ k, k ∈ footR b (.slice (some ⟨g, 0, none⟩) E.length cap) nv (E.set i { E[i] with st := 2 }) → k ∈ footR b (.slice (some ⟨g, 0, none⟩) E.length cap) nv E ∨ w.heap.size ≤ k) := fun k hk => by
    rcases gotsR_set hk with q | q
    · exact .inl q
    · exact .inl (mem_footR.2 (.inr (mem_foot.2 (.inr (.inr ⟨E[i], List.getElem_mem hl, q⟩)))))
  have b0 := h.c0
  have f0 := h.ens.row.fz
  obtain ⟨-, -, -, c3, -⟩ := h.ens.row.seven hl
  have e0 : ¬ (i : Int) < 0 := by omega
  have e1 : (i : Int) < (E.length : Int) := by omega
  clear hi h
  go_enter Try.func15, Try.ntmps15
  go_wp2_with fail
  refine C.mono ?_
  rintro r w1 ⟨rfl, rfl⟩
  clear C
  go_wp2
  go_ret
  exact ⟨rfl, HR.out, (Mut.refl _ _).setCell (by simp [Value.ownBlock]) _, HG.out⟩

set_option maxHeartbeats 1000000 in
theorem same_any {e : Ent} {y y' : Option Addr} {d d' : Nat} (w : World) (hl : e.G.length ≤ 1000000) (hx : Rdi w y e.G) (hy : Rdi w y' e.G) :
    Calls Try.prog 26 #[.agg #[.int .i64 e.th, .int .i64 e.fr, .int .i64 e.sp, .int .i64 e.st, .int .i64 e.cy, .int .i64 e.pl, .slice y e.G.length d], .agg #[.int .i64 e.th, .int .i64 e.fr, .int .i64 e.sp, .int .i64 e.st, .int .i64 e.cy, .int .i64 e.pl, .slice y' e.G.length d']] w fun r w' => r = .returned (.bool true) ∧ Kept w w' := by
  have HX : Hid (∀ w', Kept w w' → Calls Try.prog 29 #[.slice y e.G.length d, .slice y' e.G.length d'] w' fun r w2 => r = .returned (.bool true) ∧ Kept w' w2) := fun w' k => ints_any w' hl (hx.kept k) (hy.kept k)
  have q0 : (e.th == e.th) = true := by simp
  have q1 : (e.fr == e.fr) = true := by simp
  have q2 : (e.sp == e.sp) = true := by simp
  have q3 : (e.st == e.st) = true := by simp
  have q4 : (e.cy == e.cy) = true := by simp
  have q5 : (e.pl == e.pl) = true := by simp
  clear hl hx hy
  go_enter Try.func26, Try.ntmps26
  go_wp2_with fail
  refine (HX.out _ (((Kept.refl w).alloc _ _).alloc _ _)).mono ?_
  rintro r w1 ⟨rfl, k1⟩
  have H1 : Hid (Kept w w1) := (k1.ofAlloc).ofAlloc
  clear k1
  go_wp2
  go_ret
  exact ⟨rfl, H1.out⟩
end Go.Proofs.Ytjobnlfecochfaa
