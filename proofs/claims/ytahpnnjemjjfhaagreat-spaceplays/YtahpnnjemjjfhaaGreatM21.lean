/-
  The modules RLine, RBeg, RGra, one behind another.
-/
import Derived.Deep.CutBlock
import Derived.Deep.RegionWith
import Derived.Test.YtahpnnjemjjfhaaGreatM20
/-
  The document's line as it lies in memory; what only reads (find, first, Of, First, Waits), and Fail.
-/
namespace Go.Proofs.YtahpnnjemjjfhaaGreat
open Go.RowKit

/-- The other cells of the document's space, in whose midst its line lies. -/
structure RQ where
  c0 : Value
  c1 : Value
  c2 : Value
  c3 : Value
  c4 : Value
  c5 : Value
  c6 : Value
  c7 : Value
  c8 : Value
  c9 : Value
  c10 : Value
  c11 : Value
  c14 : Value
  c15 : Value
  c16 : Value
def RQ.cells (r : RQ) (v nv : Value) : List Value := [r.c0, r.c1, r.c2, r.c3, r.c4, r.c5, r.c6, r.c7, r.c8, r.c9, r.c10, r.c11, v, nv, r.c14, r.c15, r.c16]

variable {rq : RQ}

structure RlT (rq : RQ) (w : World) (base b : Nat) (v nv : Value) (E : List Ent) (N : List Int) : Prop where
  head : Own w b 60 (rq.cells v nv)
  ens : Ens 126 7 Ent.c7 w base b v E
  ln : Lst w base nv N
  lo : base ≤ b
  few : E.length ≤ 100000
  n1 : nv.ownBlock ≠ some b
  n2 : ∀ k, v.ownBlock = some k → nv.ownBlock ≠ some k

def footR (b : Nat) (v nv : Value) (E : List Ent) : List Nat := nv.ownBlock.toList ++ foot b v E
theorem mem_footR {b : Nat} {v nv : Value} {E : List Ent} {k : Nat} : k ∈ footR b v nv E ↔ nv.ownBlock = some k ∨ k ∈ foot b v E := by simp [footR]

section
variable {w w' : World} {base b : Nat} {v nv : Value} {E : List Ent} {N : List Int}
theorem RlT.ltb (h : RlT rq w base b v nv E N) : b < w.heap.size := h.head.lt
theorem RlT.lt (h : RlT rq w base b v nv E N) : ∀ k, k ∈ footR b v nv E → base ≤ k ∧ k < w.heap.size := fun k hk => by
  rcases mem_footR.1 hk with q | q
  · exact h.ln.lt k q
  · exact h.ens.lt ⟨h.lo, h.ltb⟩ k q
theorem RlT.c0 (h : RlT rq w base b v nv E N) : w.cell? ⟨b, 12, none⟩ = some v := h.head.blk.at 12 rfl
theorem RlT.c1 (h : RlT rq w base b v nv E N) : w.cell? ⟨b, 13, none⟩ = some nv := h.head.blk.at 13 rfl
theorem RlT.fz (h : RlT rq w base b v nv E N) (i : Nat) : w.frozen? ⟨b, i, none⟩ = false := h.head.blk.fz i
theorem RlT.muts {D : List Nat} (h : RlT rq w base b v nv E N) (m : Mut D w w') (hd : ∀ k, k ∈ footR b v nv E → k ∉ D) : RlT rq w' base b v nv E N :=
  ⟨h.head.muts m (hd b (mem_footR.2 (.inr (mem_foot.2 (.inl rfl))))), h.ens.muts m (fun k hk => hd k (mem_footR.2 (.inr hk))), h.ln.muts m (fun k hk => hd k (mem_footR.2 (.inl hk))), h.lo, h.few, h.n1, h.n2⟩
theorem RlT.kept (h : RlT rq w base b v nv E N) (k : Kept w w') : RlT rq w' base b v nv E N := h.muts (D := []) k.mut (fun _ _ q => by cases q)
theorem memR_own {k : Nat} (hk : k ∈ b :: v.ownBlock.toList) : k ∈ footR b v nv E := mem_footR.2 (.inr (by
  simp at hk
  rcases hk with rfl | hk
  · exact mem_foot.2 (.inl rfl)
  · exact mem_foot.2 (.inr (.inl hk))))
theorem RlT.own (h : RlT rq w base b v nv E N) : ∀ k, k ∈ b :: v.ownBlock.toList → base ≤ k ∧ k < w.heap.size := fun k hk => h.lt k (memR_own hk)
/-- A cell of the head is laid anew. -/
theorem Ens.atb {t : TypeId} {m : Nat} {c : Ent → List Value} (n : Ens t m c w base b v E) (i : Nat) (u : Value) : Ens t m c (w.setCell ⟨b, i, none⟩ u) base b v E := by
  have q : Mut [b] w (w.setCell ⟨b, i, none⟩ u) := (Mut.refl _ _).setCell (by simp) _
  refine ⟨n.row.muts q fun k hk hd => ?_, fun e he => (n.got e he).muts' q fun k hk hd => ?_, fun e he k hk => ?_, n.short, n.nb⟩
  · simp at hd
    subst hd
    exact n.nb hk
  · simp at hd
    exact (n.gb e he k hk).2.2.1 hd
  · have := n.gb e he k hk
    exact ⟨this.1, by simpa using this.2.1, this.2.2⟩
theorem Lst.atb {nv : Value} {N : List Int} (l : Lst w base nv N) (h1 : nv.ownBlock ≠ some b) (i : Nat) (u : Value) : Lst (w.setCell ⟨b, i, none⟩ u) base nv N :=
  l.muts (D := [b]) ((Mut.refl _ _).setCell (by simp) _) fun k hk hd => by
    simp at hd
    subst hd
    exact h1 hk
/-- Another row behind the head. -/
theorem RlT.turn {v' : Value} {E' : List Ent} (h : RlT rq w base b v nv E N) (o : Own w' b 60 (rq.cells v nv)) (n : Ens 126 7 Ent.c7 w' base b v' E') (l : Lst w' base nv N) (h2 : ∀ k, v'.ownBlock = some k → nv.ownBlock ≠ some k) (hf : E'.length ≤ 100000) : RlT rq (w'.setCell ⟨b, 12, none⟩ v') base b v' nv E' N :=
  ⟨o.set 12 v', n.atb 12 v', l.atb h.n1 12 v', h.lo, hf, h.n1, h2⟩
/-- Others noted. -/
theorem RlT.note {nv' : Value} {N' : List Int} (h : RlT rq w base b v nv E N) (l : Lst w base nv' N') (h1 : nv'.ownBlock ≠ some b) (h2 : ∀ k, v.ownBlock = some k → nv'.ownBlock ≠ some k) : RlT rq (w.setCell ⟨b, 13, none⟩ nv') base b v nv' E N' :=
  ⟨h.head.set 13 nv', h.ens.atb 13 nv', l.atb h1 13 nv', h.lo, h.few, h1, h2⟩
/-- One cell of one request is laid anew. -/
theorem RlT.set {g n d : Nat} (h : RlT rq w base b (.slice (some ⟨g, 0, none⟩) n d) nv E N) {i j : Nat} (hi : i < E.length) (hj : j < 7) {e' : Ent} {u : Value} (hu : e'.c7 = E[i].c7.set j u)
    (hg : (e'.gx = E[i].gx ∧ e'.G = E[i].G) ∨ (Rdi w e'.gx e'.G ∧ e'.G.length ≤ 100000 ∧ ∀ k, e'.blk = some k → base ≤ k ∧ k < w.heap.size ∧ k ≠ b ∧ k ≠ g)) :
    RlT rq (w.setCell ⟨g, i * 7 + j, none⟩ u) base b (.slice (some ⟨g, 0, none⟩) n d) nv (E.set i e') N :=
  have hgb : g ≠ b := fun q => h.ens.nb (by simp [Value.ownBlock, q])
  ⟨h.head.set_other hgb u, h.ens.set c7len hi hj hu hg, h.ln.muts (D := [g]) ((Mut.refl _ _).setCell (by simp) _) (fun k hk hd => by
    simp at hd
    subst hd
    exact h.n2 k rfl hk), h.lo, by simpa using h.few, h.n1, h.n2⟩
end

theorem Rw.seven {t : TypeId} {w : World} {base g n d : Nat} {E : List Ent} (h : Rw t 7 Ent.c7 w base (.slice (some ⟨g, 0, none⟩) n d) E) {k : Nat} (hk : k < E.length) :
    w.cell? ⟨g, k * 7, none⟩ = some (.int .i64 E[k].th) ∧ w.cell? ⟨g, k * 7 + 1, none⟩ = some (.int .i64 E[k].fr) ∧ w.cell? ⟨g, k * 7 + 2, none⟩ = some (.int .i64 E[k].sp) ∧ w.cell? ⟨g, k * 7 + 3, none⟩ = some (.int .i64 E[k].st) ∧
    w.cell? ⟨g, k * 7 + 4, none⟩ = some (.int .i64 E[k].cy) ∧ w.cell? ⟨g, k * 7 + 5, none⟩ = some (.int .i64 E[k].pl) ∧ w.cell? ⟨g, k * 7 + 6, none⟩ = some (.slice E[k].gx E[k].G.length E[k].gc) :=
  ⟨h.cell c7len hk (j := 0) rfl, h.cell c7len hk (j := 1) rfl, h.cell c7len hk (j := 2) rfl, h.cell c7len hk (j := 3) rfl, h.cell c7len hk (j := 4) rfl, h.cell c7len hk (j := 5) rfl, h.cell c7len hk (j := 6) rfl⟩

set_option maxHeartbeats 1000000 in
theorem lrplace_any {base b : Nat} {v nv : Value} {E : List Ent} {N : List Int} (t : Int) (w : World) (h : RlT rq w base b v nv E N) :
    Calls Tryz.prog 143 #[.pointer (some ⟨b, 12, none⟩), .int .i64 t] w fun r w' => r = .returned (.int .i64 (idx (fun e => e.th == t) E)) ∧ w' = w := by
  have HT : Hid (RlT rq w base b v nv E N) := h
  have c0 := h.c0
  have hE := h.few
  obtain ⟨x, d, rfl⟩ := h.ens.row.form
  clear h
  go_enter Tryz.func143, Tryz.ntmps143
  go_wp2
  go_loopg [5] E.length (fun m i wr => ∃ k : Nat, i = .int .i64 k ∧ k ≤ E.length ∧ m = E.length - k ∧ Hid (∀ e ∈ E.take k, (e.th == t) = false) ∧ w = wr)
  case atStart => exact ⟨0, rfl, by omega, by omega, fun e he => by simp at he, rfl⟩
  case round =>
    obtain ⟨k, rfl, hk, hm, hw, rfl⟩ := hrel
    have HM : Hid _ := hm
    clear hm
    by_cases hlt : k < E.length
    · obtain ⟨g, cap, ev, _, _, _⟩ := HT.out.ens.row.here (by omega)
      obtain ⟨rfl, _, rfl⟩ := Value.slice.inj ev
      obtain ⟨d0, -, -, d3, -⟩ := HT.out.ens.row.seven hlt
      have HA : Hid (_ → idx (fun e => e.th == t) E = (k : Int)) := fun q => idx_at (p := fun e => e.th == t) hlt q hw.out
      have HB : Hid (_ → ∀ e ∈ E.take (k + 1), (e.th == t) = false) := fun q => take_more (p := fun e => e.th == t) hlt hw.out q
      have e1 : (k : Int) < (E.length : Int) := by omega
      clear ev
      generalize E[k] = e at *
      cases hs : (e.th == t)
      · have HE : Hid _ := HB.out hs
        clear HA HB
        go_wp2
        go_roundg (gk - 1)
        all_goals (have := HM.out; try omega)
        exact ⟨k + 1, by go_num, by omega, by omega, HE.out, rfl⟩
      · have HE : Hid _ := HA.out hs
        clear HA HB
        go_wp2
        go_ret
        exact ⟨by rw [HE.out]; rfl, rfl⟩
    · obtain rfl : k = E.length := by omega
      have HN : Hid (idx (fun e => e.th == t) E = -1) := idx_none fun e he => hw.out e (by simpa using he)
      go_wp2
      go_ret
      exact ⟨by rw [HN.out]; rfl, rfl⟩

set_option maxHeartbeats 1000000 in
theorem lrhead_any {base b : Nat} {v nv : Value} {E : List Ent} {N : List Int} (w : World) (h : RlT rq w base b v nv E N) :
    Calls Tryz.prog 156 #[.pointer (some ⟨b, 12, none⟩)] w fun r w' => r = .returned (.int .i64 (idx (fun e => e.st == 0) E)) ∧ w' = w := by
  have HT : Hid (RlT rq w base b v nv E N) := h
  have c0 := h.c0
  have hE := h.few
  obtain ⟨x, d, rfl⟩ := h.ens.row.form
  clear h
  go_enter Tryz.func156, Tryz.ntmps156
  go_wp2
  go_loopg [3] E.length (fun m i wr => ∃ k : Nat, i = .int .i64 k ∧ k ≤ E.length ∧ m = E.length - k ∧ Hid (∀ e ∈ E.take k, (e.st == 0) = false) ∧ w = wr)
  case atStart => exact ⟨0, rfl, by omega, by omega, fun e he => by simp at he, rfl⟩
  case round =>
    obtain ⟨k, rfl, hk, hm, hw, rfl⟩ := hrel
    have HM : Hid _ := hm
    clear hm
    by_cases hlt : k < E.length
    · obtain ⟨g, cap, ev, _, _, _⟩ := HT.out.ens.row.here (by omega)
      obtain ⟨rfl, _, rfl⟩ := Value.slice.inj ev
      obtain ⟨d0, -, -, d3, -⟩ := HT.out.ens.row.seven hlt
      have HA : Hid (_ → idx (fun e => e.st == 0) E = (k : Int)) := fun q => idx_at (p := fun e => e.st == 0) hlt q hw.out
      have HB : Hid (_ → ∀ e ∈ E.take (k + 1), (e.st == 0) = false) := fun q => take_more (p := fun e => e.st == 0) hlt hw.out q
      have e1 : (k : Int) < (E.length : Int) := by omega
      clear ev
      generalize E[k] = e at *
      cases hs : (e.st == 0)
      · have HE : Hid _ := HB.out hs
        clear HA HB
        go_wp2
        go_roundg (gk - 1)
        all_goals (have := HM.out; try omega)
        exact ⟨k + 1, by go_num, by omega, by omega, HE.out, rfl⟩
      · have HE : Hid _ := HA.out hs
        clear HA HB
        go_wp2
        go_ret
        exact ⟨by rw [HE.out]; rfl, rfl⟩
    · obtain rfl : k = E.length := by omega
      have HN : Hid (idx (fun e => e.st == 0) E = -1) := idx_none fun e he => hw.out e (by simpa using he)
      go_wp2
      go_ret
      exact ⟨by rw [HN.out]; rfl, rfl⟩

set_option maxHeartbeats 2000000 in
theorem lrof_any {base b : Nat} {v nv : Value} {E : List Ent} {N : List Int} (t : Int) (w : World) (h : RlT rq w base b v nv E N) :
    Calls Tryz.prog 93 #[.pointer (some ⟨b, 12, none⟩), .int .i64 t] w fun r w' => r = .returned (.tuple #[(told (E.find? fun e => e.th == t)).agg (told (E.find? fun e => e.th == t)).gx (told (E.find? fun e => e.th == t)).gc, .bool (E.find? fun e => e.th == t).isSome]) ∧ Kept w w' := by
  rcases idx_cases (fun e => e.th == t) E with ⟨h1, h2, -⟩ | ⟨i, hi, h1, h2, -⟩
  · rw [h2]
    have C := fun w' (k : Kept w w') => lrplace_any t w' (h.kept k)
    rw [h1] at C
    have HC : Hid _ := C
    clear h h1 h2 C
    go_enter Tryz.func93, Tryz.ntmps93
    go_wp2_with fail
    refine (HC.out _ ((Kept.refl w).alloc _ _)).mono ?_
    rintro r w1 ⟨rfl, rfl⟩
    go_wp2
    (try simp only [Exit.inBlock, Exit.then])
    exact bodyPost_ret_by (results_blk_tmp rfl _ _ w.heap.size [.int .i64 0, .int .i64 0, .int .i64 0, .int .i64 0, .int .i64 0, .int .i64 0, .slice none 0 0] rfl (Blk.new _ _ _) Tryz.underlying126 (by kernel_rfl)) rfl ⟨rfl, (Kept.refl w).alloc _ _⟩
  · rw [h2]
    have C := fun w' (k : Kept w w') => lrplace_any t w' (h.kept k)
    rw [h1] at C
    have HC : Hid _ := C
    obtain ⟨g, cap, rfl, _, hg, _⟩ := h.ens.row.here (by omega)
    have hl := h.few
    have hb := h.ltb
    have b0 := h.c0
    obtain ⟨c0, c1, c2, c3, c4, c5, c6⟩ := h.ens.row.seven hi
    have K0 : ∀ A t, Kept w (w.alloc (.cells A t)) := fun A t => (Kept.refl w).alloc A t
    have p0 := fun A t => ((K0 A t).cell hb).trans b0
    have q0 := fun A t => ((K0 A t).cell hg).trans c0
    have q1 := fun A t => ((K0 A t).cell hg).trans c1
    have q2 := fun A t => ((K0 A t).cell hg).trans c2
    have q3 := fun A t => ((K0 A t).cell hg).trans c3
    have q4 := fun A t => ((K0 A t).cell hg).trans c4
    have q5 := fun A t => ((K0 A t).cell hg).trans c5
    have q6 := fun A t => ((K0 A t).cell hg).trans c6
    clear h K0 b0 c0 c1 c2 c3 c4 c5 c6 h1 h2 C
    generalize E[i] = e at *
    have e0 : ¬ (i : Int) < 0 := by omega
    have e1 : (i : Int) < (E.length : Int) := by omega
    go_enter Tryz.func93, Tryz.ntmps93
    go_wp2_with fail
    refine (HC.out _ ((Kept.refl w).alloc _ _)).mono ?_
    rintro r w1 ⟨rfl, rfl⟩
    go_wp2
    (try simp only [Exit.inBlock, Exit.then])
    exact bodyPost_ret_by (results_blk_tmp rfl _ _ w.heap.size [.int .i64 e.th, .int .i64 e.fr, .int .i64 e.sp, .int .i64 e.st, .int .i64 e.cy, .int .i64 e.pl, .slice e.gx e.G.length e.gc] rfl (Blk.new _ _ _) Tryz.underlying126 (by kernel_rfl)) rfl ⟨rfl, (Kept.refl w).alloc _ _⟩

set_option maxHeartbeats 2000000 in
theorem lrfirst_any {base b : Nat} {v nv : Value} {E : List Ent} {N : List Int} (w : World) (h : RlT rq w base b v nv E N) :
    Calls Tryz.prog 125 #[.pointer (some ⟨b, 12, none⟩)] w fun r w' => r = .returned (.tuple #[(told (E.find? fun e => e.st == 0)).agg (told (E.find? fun e => e.st == 0)).gx (told (E.find? fun e => e.st == 0)).gc, .bool (E.find? fun e => e.st == 0).isSome]) ∧ Kept w w' := by
  rcases idx_cases (fun e => e.st == 0) E with ⟨h1, h2, -⟩ | ⟨i, hi, h1, h2, -⟩
  · rw [h2]
    have C := fun w' (k : Kept w w') => lrhead_any w' (h.kept k)
    rw [h1] at C
    have HC : Hid _ := C
    clear h h1 h2 C
    go_enter Tryz.func125, Tryz.ntmps125
    go_wp2_with fail
    refine (HC.out _ ((Kept.refl w).alloc _ _)).mono ?_
    rintro r w1 ⟨rfl, rfl⟩
    go_wp2
    (try simp only [Exit.inBlock, Exit.then])
    exact bodyPost_ret_by (results_blk_tmp rfl _ _ w.heap.size [.int .i64 0, .int .i64 0, .int .i64 0, .int .i64 0, .int .i64 0, .int .i64 0, .slice none 0 0] rfl (Blk.new _ _ _) Tryz.underlying126 (by kernel_rfl)) rfl ⟨rfl, (Kept.refl w).alloc _ _⟩
  · rw [h2]
    have C := fun w' (k : Kept w w') => lrhead_any w' (h.kept k)
    rw [h1] at C
    have HC : Hid _ := C
    obtain ⟨g, cap, rfl, _, hg, _⟩ := h.ens.row.here (by omega)
    have hl := h.few
    have hb := h.ltb
    have b0 := h.c0
    obtain ⟨c0, c1, c2, c3, c4, c5, c6⟩ := h.ens.row.seven hi
    have K0 : ∀ A t, Kept w (w.alloc (.cells A t)) := fun A t => (Kept.refl w).alloc A t
    have p0 := fun A t => ((K0 A t).cell hb).trans b0
    have q0 := fun A t => ((K0 A t).cell hg).trans c0
    have q1 := fun A t => ((K0 A t).cell hg).trans c1
    have q2 := fun A t => ((K0 A t).cell hg).trans c2
    have q3 := fun A t => ((K0 A t).cell hg).trans c3
    have q4 := fun A t => ((K0 A t).cell hg).trans c4
    have q5 := fun A t => ((K0 A t).cell hg).trans c5
    have q6 := fun A t => ((K0 A t).cell hg).trans c6
    clear h K0 b0 c0 c1 c2 c3 c4 c5 c6 h1 h2 C
    generalize E[i] = e at *
    have e0 : ¬ (i : Int) < 0 := by omega
    have e1 : (i : Int) < (E.length : Int) := by omega
    go_enter Tryz.func125, Tryz.ntmps125
    go_wp2_with fail
    refine (HC.out _ ((Kept.refl w).alloc _ _)).mono ?_
    rintro r w1 ⟨rfl, rfl⟩
    go_wp2
    (try simp only [Exit.inBlock, Exit.then])
    exact bodyPost_ret_by (results_blk_tmp rfl _ _ w.heap.size [.int .i64 e.th, .int .i64 e.fr, .int .i64 e.sp, .int .i64 e.st, .int .i64 e.cy, .int .i64 e.pl, .slice e.gx e.G.length e.gc] rfl (Blk.new _ _ _) Tryz.underlying126 (by kernel_rfl)) rfl ⟨rfl, (Kept.refl w).alloc _ _⟩

set_option maxHeartbeats 1000000 in
theorem lrwaits_any {base b : Nat} {v nv : Value} {E : List Ent} {N : List Int} (w : World) (h : RlT rq w base b v nv E N) :
    Calls Tryz.prog 75 #[.pointer (some ⟨b, 12, none⟩)] w fun r w' => r = .returned (.int .i64 ((wts E).length : Int)) ∧ w' = w := by
  have HT : Hid (RlT rq w base b v nv E N) := h
  obtain ⟨x, d, rfl⟩ := h.ens.row.form
  have b0 := h.c0
  have hl := h.few
  clear h
  go_enter Tryz.func75, Tryz.ntmps75
  go_wp2
  go_loopg [3, 4] E.length (fun m n i wr => ∃ k : Nat, i = .int .i64 k ∧ k ≤ E.length ∧ m = E.length - k ∧ ∃ c : Nat, n = .int .i64 c ∧ c ≤ k ∧ Hid (c = (wts (E.take k)).length) ∧ w = wr)
  case atStart => exact ⟨0, rfl, by omega, by omega, 0, rfl, by omega, by simp [wts, Hid], rfl⟩
  case round =>
    obtain ⟨k, rfl, hk, hm, c, rfl, hc, hw, rfl⟩ := hrel
    have HM : Hid _ := hm
    clear hm
    by_cases hlt : k < E.length
    · obtain ⟨g, cap, ev, _, hg, _⟩ := HT.out.ens.row.here (by omega)
      obtain ⟨rfl, _, rfl⟩ := Value.slice.inj ev
      obtain ⟨-, -, -, c3, -⟩ := HT.out.ens.row.seven hlt
      have HC : Hid _ := wts_more hlt
      have e1 : (k : Int) < (E.length : Int) := by omega
      clear ev
      generalize E[k] = e at *
      cases hs : (e.st == 0)
      · have HE : Hid (c = (wts (E.take (k + 1))).length) := by
          have h1 := HC.out
          rw [hs] at h1
          simp at h1
          exact hw.out.trans h1.symm
        clear HC
        go_wp2
        go_roundg (gk - 1)
        all_goals (have := HM.out; try omega)
        exact ⟨k + 1, by go_num, by omega, by omega, c, rfl, by omega, HE.out, rfl⟩
      · have HE : Hid (c + 1 = (wts (E.take (k + 1))).length) := by
          have h1 := HC.out
          rw [hs] at h1
          simp at h1
          show c + 1 = _
          rw [h1, hw.out]
        clear HC
        go_wp2
        go_roundg (gk - 1)
        all_goals (have := HM.out; try omega)
        exact ⟨k + 1, by go_num, by omega, by omega, c + 1, by go_num, by omega, HE.out, rfl⟩
    · obtain rfl : k = E.length := by omega
      have HN : Hid (c = (wts E).length) := by have := hw.out; rwa [List.take_length] at this
      go_wp2
      go_ret
      exact ⟨by rw [← HN.out]; rfl, rfl⟩

set_option maxHeartbeats 1000000 in
theorem lrfail_no {base b : Nat} {v nv : Value} {E : List Ent} {N : List Int} (w : World) (h : RlT rq w base b v nv E N) (hi : idx (fun e => e.st == 0) E = -1) :
    Calls Tryz.prog 127 #[.pointer (some ⟨b, 12, none⟩)] w fun r w' => r = .returned (.bool false) ∧ w' = w := by
  have C := lrhead_any w h
  rw [hi] at C
  clear hi h
  go_enter Tryz.func127, Tryz.ntmps127
  go_wp2_with fail
  refine C.mono ?_
  rintro r w1 ⟨rfl, rfl⟩
  go_wp2
  go_ret
  exact ⟨rfl, rfl⟩

theorem gotsR_set {b : Nat} {v nv : Value} {E : List Ent} {e' : Ent} {i k : Nat} (hk : k ∈ footR b v nv (E.set i e')) : k ∈ footR b v nv E ∨ e'.blk = some k := by
  rcases mem_footR.1 hk with q | q
  · exact .inl (mem_footR.2 (.inl q))
  · rcases gots_set q with q | q
    · exact .inl (mem_footR.2 (.inr q))
    · exact .inr q

set_option maxHeartbeats 1000000 in
theorem lrfail_yes {base b : Nat} {v nv : Value} {E : List Ent} {N : List Int} {i : Nat} (w : World) (h : RlT rq w base b v nv E N) (hl : i < E.length) (hi : idx (fun e => e.st == 0) E = (i : Int)) :
    Calls Tryz.prog 127 #[.pointer (some ⟨b, 12, none⟩)] w fun r w' => r = .returned (.bool true) ∧ RlT rq w' base b v nv (E.set i { E[i] with st := 2 }) N ∧ Mut (b :: v.ownBlock.toList) w w' ∧ ∀ k, k ∈ footR b v nv (E.set i { E[i] with st := 2 }) → k ∈ footR b v nv E ∨ w.heap.size ≤ k := by
  have C := lrhead_any w h
  rw [hi] at C
  obtain ⟨g, cap, rfl, _, hg, _⟩ := h.ens.row.here (by omega)
  have hf := h.few
  have HR : Hid (RlT rq (w.setCell ⟨g, i * 7 + 3, none⟩ (.int .i64 2)) base b (.slice (some ⟨g, 0, none⟩) E.length cap) nv (E.set i { E[i] with st := 2 }) N) := h.set hl (by omega) rfl (.inl ⟨rfl, rfl⟩)
  have HG : Hid (∀ k, k ∈ footR b (.slice (some ⟨g, 0, none⟩) E.length cap) nv (E.set i { E[i] with st := 2 }) → k ∈ footR b (.slice (some ⟨g, 0, none⟩) E.length cap) nv E ∨ w.heap.size ≤ k) := fun k hk => by
    rcases gotsR_set hk with q | q
    · exact .inl q
    · exact .inl (mem_footR.2 (.inr (mem_foot.2 (.inr (.inr ⟨E[i], List.getElem_mem hl, q⟩)))))
  have b0 := h.c0
  have f0 := h.ens.row.fz
  obtain ⟨-, -, -, c3, -⟩ := h.ens.row.seven hl
  have e0 : ¬ (i : Int) < 0 := by omega
  have e1 : (i : Int) < (E.length : Int) := by omega
  clear hi h
  go_enter Tryz.func127, Tryz.ntmps127
  go_wp2_with fail
  refine C.mono ?_
  rintro r w1 ⟨rfl, rfl⟩
  clear C
  go_wp2
  go_ret
  exact ⟨rfl, HR.out, (Mut.refl _ _).setCell (by simp [Value.ownBlock]) _, HG.out⟩

end Go.Proofs.YtahpnnjemjjfhaaGreat

/-
  The document's line: Begin, End.
-/
namespace Go.Proofs.YtahpnnjemjjfhaaGreat
open Go.RowKit

variable {rq : RQ}

def endR (N : List Int) (e : Ent) : Ent := { e with cy := if e.st == 0 && decide (e.th ∈ N) then e.cy + 1 else e.cy }

theorem wth_more {E : List Ent} {k : Nat} (hk : k < E.length) : (wts (E.take (k + 1))).map Ent.th = (wts (E.take k)).map Ent.th ++ (if E[k].st == 0 then [E[k].th] else []) := by
  rw [List.take_succ_eq_append_getElem hk]
  unfold wts
  rw [List.filter_append, List.map_append]
  by_cases h : (E[k].st == 0) = true
  · simp [h]
  · simp [h]

set_option maxHeartbeats 8000000 in
theorem lrbegin_any {base b : Nat} {v nv : Value} {E : List Ent} {N : List Int} (w : World) (h : RlT rq w base b v nv E N) :
    Calls Tryz.prog 115 #[.pointer (some ⟨b, 12, none⟩)] w fun r w' => r = .returned (.tuple #[]) ∧ ∃ nv', RlT rq w' base b v nv' E ((wts E).map Ent.th) ∧ Mut (b :: v.ownBlock.toList) w w' ∧ ∀ k, k ∈ footR b v nv' E → k ∈ footR b v nv E ∨ w.heap.size ≤ k := by
  obtain ⟨x, d, rfl⟩ := h.ens.row.form
  have c1 := h.c1
  have cf := h.fz
  have hl := h.few
  have H0 : Hid (RlT rq (w.setCell ⟨b, 13, none⟩ (.slice none 0 0)) base b (.slice x E.length d) (.slice none 0 0) E []) := h.note (Lst.nil _ _) (by simp [Value.ownBlock]) (by simp [Value.ownBlock])
  have HB : Hid (∀ k, k ∈ foot b (.slice x E.length d) E → k < w.heap.size) := fun k hk => (h.lt k (mem_footR.2 (.inr hk))).2
  have HLB : Hid (base ≤ w.heap.size) := by have h1 := h.lo; have h2 := h.ltb; show base ≤ _; omega
  clear h
  go_enter Tryz.func115, Tryz.ntmps115
  go_wp2
  clear c1 cf
  go_loopg [2] E.length (fun m i wr => ∃ k : Nat, i = .int .i64 k ∧ k ≤ E.length ∧ m = E.length - k ∧ Hid (∃ nv, RlT rq wr base b (.slice x E.length d) nv E ((wts (E.take k)).map Ent.th) ∧ Mut [b] w wr ∧ ∀ q, nv.ownBlock = some q → w.heap.size ≤ q))
  case atStart => exact ⟨0, rfl, by omega, by omega, _, H0.out, (Mut.refl _ _).setCell (by simp) _, by simp [Value.ownBlock]⟩
  case round =>
    obtain ⟨k, rfl, hk, hm, hw⟩ := hrel
    have HM : Hid _ := hm
    clear hm H0
    obtain ⟨nv, hT, hM, hN⟩ := hw.out
    have H1 : Hid (RlT rq wr base b (.slice x E.length d) nv E ((wts (E.take k)).map Ent.th) ∧ Mut [b] w wr ∧ ∀ q, nv.ownBlock = some q → w.heap.size ≤ q) := ⟨hT, hM, hN⟩
    clear hT hM hN hw
    have b0 := H1.out.1.c0
    by_cases hlt : k < E.length
    · obtain ⟨g, cap, ev, _, _, _⟩ := H1.out.1.ens.row.here (by omega)
      obtain ⟨rfl, _, rfl⟩ := Value.slice.inj ev
      obtain ⟨d0, -, -, d3, -⟩ := H1.out.1.ens.row.seven hlt
      have HC : Hid _ := wth_more hlt
      have e1 : (k : Int) < (E.length : Int) := by omega
      have hle : ((wts (E.take k)).map Ent.th).length ≤ k := by rw [List.length_map]; exact Nat.le_trans (wts_le _) (by simp; omega)
      clear ev
      generalize E[k] = e at *
      by_cases hs : (e.st == 0) = true
      · have HCt : Hid ((wts (E.take (k + 1))).map Ent.th = (wts (E.take k)).map Ent.th ++ [e.th]) := by have := HC.out; rwa [if_pos hs] at this
        obtain ⟨T, hT⟩ : ∃ T, T = (wts (E.take k)).map Ent.th := ⟨_, rfl⟩
        rw [← hT] at H1 HCt hle
        clear hT HC
        have kk := (Kept.refl wr).drew.alloc #[.int .i64 e.th] 3
        obtain ⟨v', w', hrun0, l', m', f'⟩ := run_append_lst 55 (H1.out.1.ln.kept kk) (Nat.le_trans (Nat.le_trans HLB.out H1.out.2.1.size) kk.size) (c := 1) (rdi_lit wr.drew [e.th]) (by simp; omega)
        have hrun : (Builtin.append_ #[55, 55] 55 #[nv, .slice (some ⟨wr.heap.size, 0, none⟩) 1 1]).run Tryz.prog (wr.alloc (.cells #[.int .i64 e.th] 3)).drew = .ok v' w' := hrun0
        clear hrun0
        have hA : ∀ q, q ∈ foot b (.slice (some ⟨g, 0, none⟩) E.length d) E → q ∉ nv.ownBlock.toList := fun q hq hd => by
          have h1 := HB.out q hq
          have h2 := H1.out.2.2 q (by simpa using hd)
          omega
        have T2 := H1.out.1.kept kk
        have hv' : ∀ q, v'.ownBlock = some q → w.heap.size ≤ q := fun q hq => by
          rcases f' q hq with g | g
          · exact H1.out.2.2 q g
          · exact Nat.le_trans (Nat.le_trans H1.out.2.1.size kk.size) g
        have O2 : Own w' b 60 (rq.cells (.slice (some ⟨g, 0, none⟩) E.length d) nv) := T2.head.muts m' (hA b (mem_foot.2 (.inl rfl)))
        have a1 := O2.blk.at 13 rfl
        have a2 := O2.blk.fz
        have bl : b < w.heap.size := HB.out b (mem_foot.2 (.inl rfl))
        have HR : Hid (RlT rq (w'.setCell ⟨b, 13, none⟩ v') base b (.slice (some ⟨g, 0, none⟩) E.length d) v' E ((wts (E.take (k + 1))).map Ent.th) ∧ Mut [b] w (w'.setCell ⟨b, 13, none⟩ v') ∧ ∀ q, v'.ownBlock = some q → w.heap.size ≤ q) := by
          rw [HCt.out]
          refine ⟨⟨O2.set 13 v', (T2.ens.muts m' hA).atb 13 v', l'.atb (fun q => by have := hv' b q; omega) 13 v', T2.lo, T2.few, fun q => by have := hv' b q; omega, fun q hq hd => ?_⟩, ?_, hv'⟩
          · have h1 := HB.out q (mem_foot.2 (.inr (.inl hq)))
            have h2 := hv' q hd
            omega
          · have m2 : Mut [b] w w' := ⟨m'.os.trans (kk.mut (D := [b])).os |>.trans H1.out.2.1.os, m'.tape.trans (kk.mut (D := [b])).tape |>.trans H1.out.2.1.tape, m'.output.trans (kk.mut (D := [b])).output |>.trans H1.out.2.1.output, Nat.le_trans (Nat.le_trans H1.out.2.1.size kk.size) m'.size, fun q hq hd => by
              have h1 : q < wr.heap.size := Nat.lt_of_lt_of_le hq H1.out.2.1.size
              rw [m'.block q (Nat.lt_of_lt_of_le h1 kk.size) (fun hx => by have := H1.out.2.2 q (by simpa using hx); omega), (kk.mut (D := [])).block q h1 (by simp)]
              exact H1.out.2.1.block q hq hd⟩
            exact m2.setCell (by simp) _
        have c1 : wr.cell? ⟨b, 13, none⟩ = some nv := H1.out.1.c1
        have b0' : ∀ A u, (wr.alloc (.cells A u)).cell? ⟨b, 12, none⟩ = some (.slice (some ⟨g, 0, none⟩) E.length d) := fun A u => (H1.out.1.kept ((Kept.refl _).alloc A u)).c0
        have c1' : ∀ A u, (wr.alloc (.cells A u)).cell? ⟨b, 13, none⟩ = some nv := fun A u => (H1.out.1.kept ((Kept.refl _).alloc A u)).c1
        obtain ⟨yn, dn, en⟩ := H1.out.1.ln.form
        subst en
        obtain ⟨yv, dv, evv⟩ := l'.form
        rw [List.length_append, show ([e.th] : List Int).length = 1 from rfl] at evv
        subst evv
        clear T2 O2 l' m' f' hA hv' kk H1 hle
        go_wp2_with fail
        go_region_law (refine step_append_eq rfl (.tmp 28) (.tmp 37) 55 rfl (by first | rfl | (simp [Act.eval]; done) | simp [Act.eval, Act.put]) (by first | rfl | (simp [Act.eval]; done) | simp [Act.eval, Act.put]) hrun ?_)
        all_goals clear hrun
        all_goals go_wp2
        all_goals go_roundg (gk - 1)
        all_goals (have := HM.out; try omega)
        all_goals exact ⟨k + 1, by go_num, by omega, by omega, _, HR.out⟩
      · have hs' : (e.st == 0) = false := by simpa using hs
        have HCt : Hid ((wts (E.take (k + 1))).map Ent.th = (wts (E.take k)).map Ent.th) := by have := HC.out; rwa [if_neg hs, List.append_nil] at this
        clear hs HC hle
        go_wp2
        go_roundg (gk - 1)
        all_goals (have := HM.out; try omega)
        exact ⟨k + 1, by go_num, by omega, by omega, nv, by rw [HCt.out]; exact H1.out.1, H1.out.2⟩
    · obtain rfl : k = E.length := by omega
      rw [List.take_length] at H1
      go_wp2
      go_end0
      exact ⟨rfl, nv, H1.out.1, H1.out.2.1.wide (by simp), fun q hq => by
        rcases mem_footR.1 hq with g | g
        · exact .inr (H1.out.2.2 q g)
        · exact .inl (mem_footR.2 (.inr g))⟩

theorem upd_still {f : Ent → Ent} {k : Nat} {E : List Ent} (hk : k < E.length) (hf : f E[k] = E[k]) : upd f (k + 1) E = upd f k E := by
  rw [← upd_set hk, hf]
  have h2 : k < (upd f k E).length := by rw [upd_len]; exact hk
  have e := upd_get (f := f) hk
  conv => lhs; rw [← e]
  exact List.set_getElem_self h2

set_option maxHeartbeats 8000000 in
theorem lrend_any {base b : Nat} {v nv : Value} {E : List Ent} {N : List Int} (w : World) (h : RlT rq w base b v nv E N) (hcy : ∀ e ∈ E, 0 ≤ e.cy ∧ e.cy ≤ 1000000) (hN : N.length ≤ 1000000) :
    Calls Tryz.prog 121 #[.pointer (some ⟨b, 12, none⟩)] w fun r w' => r = .returned (.tuple #[]) ∧ RlT rq w' base b v (.slice none 0 0) (E.map (endR N)) [] ∧ Mut (b :: v.ownBlock.toList) w w' := by
  obtain ⟨x, d, rfl⟩ := h.ens.row.form
  have hl := h.few
  have HT : Hid (RlT rq w base b (.slice x E.length d) nv E N) := h
  have HY : Hid _ := hcy
  have HNL : Hid _ := hN
  clear h hcy hN
  go_enter Tryz.func121, Tryz.ntmps121
  go_wp2_with fail
  go_loopg [2] E.length (fun m i wr => ∃ k : Nat, i = .int .i64 k ∧ k ≤ E.length ∧ m = E.length - k ∧ Hid (RlT rq wr base b (.slice x E.length d) nv (upd (endR N) k E) N ∧ Mut (b :: (Value.slice x E.length d).ownBlock.toList) w wr))
  case atStart => exact ⟨0, rfl, by omega, by omega, by rw [upd_zero]; exact HT.out, Mut.refl _ _⟩
  case round =>
    obtain ⟨k, rfl, hk, hm, hw⟩ := hrel
    have HM : Hid _ := hm
    clear hm
    have b0 := hw.out.1.c0
    by_cases hlt : k < E.length
    · obtain ⟨g, cap, ev, _, hg, _⟩ := HT.out.ens.row.here (by omega)
      obtain ⟨rfl, _, rfl⟩ := Value.slice.inj ev
      have hlt2 : k < (upd (endR N) k E).length := by rw [upd_len]; exact hlt
      have cc := hw.out.1.ens.row.seven hlt2
      rw [upd_get hlt] at cc
      obtain ⟨c0, -, -, c3, c4, -⟩ := cc
      have hy := HY.out _ (List.getElem_mem hlt)
      have HA : Hid ((E[k].st == 0 && decide (E[k].th ∈ N)) = false → ∀ w2, Kept wr w2 → RlT rq w2 base b (.slice (some ⟨g, 0, none⟩) E.length d) nv (upd (endR N) (k + 1) E) N) := fun q w2 k2 => by
        rw [upd_still hlt (by simp only [endR, q]; rfl)]
        exact hw.out.1.kept k2
      have HB : Hid ((E[k].st == 0 && decide (E[k].th ∈ N)) = true → ∀ w2, Kept wr w2 → RlT rq (w2.setCell ⟨g, k * 7 + 4, none⟩ (.int .i64 (E[k].cy + 1))) base b (.slice (some ⟨g, 0, none⟩) E.length d) nv (upd (endR N) (k + 1) E) N) := fun q w2 k2 => by
        have := (hw.out.1.kept k2).set hlt2 (j := 4) (e' := endR N E[k]) (u := .int .i64 (E[k].cy + 1)) (by omega) (by rw [upd_get hlt]; simp only [endR, q]; rfl) (.inl (by rw [upd_get hlt]; exact ⟨rfl, rfl⟩))
        rwa [upd_set hlt] at this
      have hgw : g < wr.heap.size := by have := hw.out.2.size; omega
      have hbw : b < wr.heap.size := hw.out.1.ltb
      have e1 : (k : Int) < (E.length : Int) := by omega
      obtain ⟨yn, dn, en⟩ := hw.out.1.ln.form
      subst en
      have c1 := hw.out.1.c1
      have G : Hid (∀ z : KW wr, Calls Tryz.prog 153 #[.slice yn N.length dn, .int .i64 E[k].th] z.it fun r w' => r = .returned (.bool (decide (E[k].th ∈ N))) ∧ Kept z.it w') := fun z => lhas_any _ _ HNL.out (hw.out.1.kept z.ok).ln.rdi
      have HK : Hid (∀ w2, Kept wr w2 → Mut (b :: (Value.slice (some ⟨g, 0, none⟩) E.length d).ownBlock.toList) w w2 ∧ (∀ i, w2.frozen? ⟨g, i, none⟩ = false)) := fun w2 k2 => ⟨hw.out.2.trans k2.mut, (hw.out.1.kept k2).ens.row.fz⟩
      clear ev
      generalize decide (E[k].th ∈ N) = ni at *
      generalize E[k] = e at *
      have d0 := fun z : KW wr => z.cell (a := ⟨g, k * 7, none⟩) hgw c0
      have d3 := fun z : KW wr => z.cell (a := ⟨g, k * 7 + 3, none⟩) hgw c3
      have a0 := fun z : KW wr => z.cell (a := ⟨b, 12, none⟩) hbw b0
      have a1 := fun z : KW wr => z.cell (a := ⟨b, 13, none⟩) hbw c1
      clear c0 c3
      cases hs : (e.st == 0)
      · have HZ : Hid _ := HA.out (by simp [hs])
        clear HA HB
        go_upto_region 3 with fail
        refine wp_region_kept (by kernel_rfl) (by kernel_rfl) fun _ => ?_
        repeat (go_big_quiet_step (first | (go_at_call 153; exact kept_of (G.out _))))
        refine wpQuiet_nil ?_
        rintro _ ⟨z, rfl⟩
        have H2 : Hid (RlT rq z.it base b (.slice (some ⟨g, 0, none⟩) E.length d) (.slice yn N.length dn) (upd (endR N) (k + 1) E) N ∧ Mut (b :: (Value.slice (some ⟨g, 0, none⟩) E.length d).ownBlock.toList) w z.it) := ⟨HZ.out z.it z.ok, (HK.out z.it z.ok).1⟩
        clear d0 d3 a0 a1 HZ HK G
        go_wp2
        go_roundg (gk - 1)
        all_goals (have := HM.out; try omega)
        exact ⟨k + 1, by go_num, by omega, by omega, H2.out⟩
      · cases ni
        · have HZ : Hid _ := HA.out (by simp)
          clear HA HB
          go_upto_region 3 with fail
          refine wp_region_kept (by kernel_rfl) (by kernel_rfl) fun _ => ?_
          repeat (go_big_quiet_step (first | (go_at_call 153; exact kept_of (G.out _))))
          refine wpQuiet_nil ?_
          rintro _ ⟨z, rfl⟩
          have H2 : Hid (RlT rq z.it base b (.slice (some ⟨g, 0, none⟩) E.length d) (.slice yn N.length dn) (upd (endR N) (k + 1) E) N ∧ Mut (b :: (Value.slice (some ⟨g, 0, none⟩) E.length d).ownBlock.toList) w z.it) := ⟨HZ.out z.it z.ok, (HK.out z.it z.ok).1⟩
          clear d0 d3 a0 a1 HZ HK G
          go_wp2
          go_roundg (gk - 1)
          all_goals (have := HM.out; try omega)
          exact ⟨k + 1, by go_num, by omega, by omega, H2.out⟩
        · have HZ : Hid _ := HB.out (by simp [hs])
          clear HA HB
          go_upto_region 3 with fail
          refine wp_region_kept (by kernel_rfl) (by kernel_rfl) fun _ => ?_
          repeat (go_big_quiet_step (first | (go_at_call 153; exact kept_of (G.out _))))
          refine wpQuiet_nil ?_
          rintro _ ⟨z, rfl⟩
          have x0 := a0 z
          have x4 := z.cell (a := ⟨g, k * 7 + 4, none⟩) hgw c4
          have xf := (HK.out z.it z.ok).2
          have H2 : Hid (RlT rq (z.it.setCell ⟨g, k * 7 + 4, none⟩ (.int .i64 (e.cy + 1))) base b (.slice (some ⟨g, 0, none⟩) E.length d) (.slice yn N.length dn) (upd (endR N) (k + 1) E) N ∧ Mut (b :: (Value.slice (some ⟨g, 0, none⟩) E.length d).ownBlock.toList) w (z.it.setCell ⟨g, k * 7 + 4, none⟩ (.int .i64 (e.cy + 1)))) := ⟨HZ.out z.it z.ok, (HK.out z.it z.ok).1.setCell (by simp [Value.ownBlock]) _⟩
          clear d0 d3 a0 a1 HZ HK G
          generalize z.it = wz at *
          go_wp2
          go_roundg (gk - 1)
          all_goals (have := HM.out; try omega)
          exact ⟨k + 1, by go_num, by omega, by omega, H2.out⟩
    · obtain rfl : k = E.length := by omega
      have HN : Hid (RlT rq wr base b (.slice x E.length d) nv (E.map (endR N)) N) := by have := hw.out.1; rwa [upd_all] at this
      have c1 := HN.out.c1
      have cf := HN.out.fz
      have HR : Hid (RlT rq (wr.setCell ⟨b, 13, none⟩ (.slice none 0 0)) base b (.slice x E.length d) (.slice none 0 0) (E.map (endR N)) []) := HN.out.note (Lst.nil _ _) (by simp [Value.ownBlock]) (by simp [Value.ownBlock])
      go_wp2
      go_end0
      exact ⟨rfl, HR.out, hw.out.2.setCell (by simp) _⟩
end Go.Proofs.YtahpnnjemjjfhaaGreat

/-
  The document's line: Grant.
-/
namespace Go.Proofs.YtahpnnjemjjfhaaGreat
open Go.RowKit

variable {rq : RQ}

set_option maxHeartbeats 1000000 in
theorem lrgrant_no {base b : Nat} {v nv : Value} {E : List Ent} {M : List Int} {x : Option Addr} {l c : Nat} {p : Int} (w : World) (h : RlT rq w base b v nv E M) (hi : idx (fun e => e.st == 0) E = -1) :
    Calls Tryz.prog 126 #[.pointer (some ⟨b, 12, none⟩), .slice x l c, .int .i64 p] w fun r w' => r = .returned (.bool false) ∧ w' = w := by
  have C := lrhead_any w h
  rw [hi] at C
  clear hi h
  go_enter Tryz.func126, Tryz.ntmps126
  go_wp2_with fail
  refine C.mono ?_
  rintro r w1 ⟨rfl, rfl⟩
  go_wp2
  go_ret
  exact ⟨rfl, rfl⟩

set_option maxHeartbeats 20000000 in
theorem lrgrant_yes {base b : Nat} {v nv : Value} {E : List Ent} {M : List Int} {i : Nat} {x : Option Addr} {c : Nat} {N : List Int} {p : Int} (w : World) (h : RlT rq w base b v nv E M) (hl : i < E.length) (hi : idx (fun e => e.st == 0) E = (i : Int)) (hx : Rdi w x N) (hN : N.length ≤ 100000) :
    Calls Tryz.prog 126 #[.pointer (some ⟨b, 12, none⟩), .slice x N.length c, .int .i64 p] w fun r w' => r = .returned (.bool true) ∧ ∃ y d, RlT rq w' base b v nv (E.set i { E[i] with st := 1, pl := p, gx := y, gc := d, G := N }) M ∧ Mut (b :: v.ownBlock.toList) w w' ∧ ∀ k, k ∈ footR b v nv (E.set i { E[i] with st := 1, pl := p, gx := y, gc := d, G := N }) → k ∈ footR b v nv E ∨ w.heap.size ≤ k := by
  have C := lrhead_any w h
  rw [hi] at C
  obtain ⟨g, cap, rfl, _, hg, _⟩ := h.ens.row.here (by omega)
  have hf := h.few
  have HT : Hid (RlT rq w base b (.slice (some ⟨g, 0, none⟩) E.length cap) nv E M) := h
  have b0 := h.c0
  have e0 : ¬ (i : Int) < 0 := by omega
  have e1 : (i : Int) < (E.length : Int) := by omega
  have hbw := h.ltb
  obtain ⟨-, -, -, c3, -, c5, c6⟩ := h.ens.row.seven hl
  have fz := h.ens.row.fz
  have HX : Hid (∀ w', Kept w w' → Calls Tryz.prog 144 #[.slice x N.length c] w' fun e w2 => ∃ v, e = .returned v ∧ Lst w2 w'.heap.size v N ∧ Kept w' w2) := fun w' k => lcopy_any w' (hx.kept k) (by omega)
  have HF : Hid (∀ w2 y d, Kept w w2 → Lst w2 w.heap.size (.slice y N.length d) N → RlT rq (((w2.setCell ⟨g, i * 7 + 3, none⟩ (.int .i64 1)).setCell ⟨g, i * 7 + 6, none⟩ (.slice y N.length d)).setCell ⟨g, i * 7 + 5, none⟩ (.int .i64 p)) base b (.slice (some ⟨g, 0, none⟩) E.length cap) nv (E.set i { E[i] with st := 1, pl := p, gx := y, gc := d, G := N }) M ∧
      Mut (b :: (Value.slice (some ⟨g, 0, none⟩) E.length cap).ownBlock.toList) w (((w2.setCell ⟨g, i * 7 + 3, none⟩ (.int .i64 1)).setCell ⟨g, i * 7 + 6, none⟩ (.slice y N.length d)).setCell ⟨g, i * 7 + 5, none⟩ (.int .i64 p)) ∧
      ∀ k, k ∈ footR b (.slice (some ⟨g, 0, none⟩) E.length cap) nv (E.set i { E[i] with st := 1, pl := p, gx := y, gc := d, G := N }) → k ∈ footR b (.slice (some ⟨g, 0, none⟩) E.length cap) nv E ∨ w.heap.size ≤ k) := fun w2 y d k2 l2 => by
    have T2 := h.kept k2
    have R1 := T2.set (e' := { E[i] with st := 1 }) hl (j := 3) (u := .int .i64 1) (by omega) rfl (.inl ⟨rfl, rfl⟩)
    have hk' : ∀ k, y.map Addr.block = some k → (Value.slice y N.length d).ownBlock = some k := fun k hk => by
      cases y with
      | none => simp at hk
      | some a => simpa [Value.ownBlock] using hk
    have R2 := R1.set (i := i) (e' := { E[i] with st := 1, gx := y, gc := d, G := N }) (by simpa using hl) (j := 6) (u := .slice y N.length d) (by omega) (by simp [Ent.c7]) (.inr ⟨by
        have q : Mut [g] w2 (w2.setCell ⟨g, i * 7 + 3, none⟩ (.int .i64 1)) := (Mut.refl _ _).setCell (by simp) _
        exact l2.rdi.muts q (fun g' o q => by
          have := (l2.lt g' (by rw [q]; rfl)).1
          simp
          omega), hN, fun k hk => by
        have h1 := l2.lt k (hk' k hk)
        have h2 := T2.lo
        exact ⟨by omega, by simpa using h1.2, by omega, by omega⟩⟩)
    have R3 := R2.set (i := i) (e' := { E[i] with st := 1, pl := p, gx := y, gc := d, G := N }) (by simpa using hl) (j := 5) (u := .int .i64 p) (by omega) (by simp [Ent.c7]) (.inl (by simp))
    simp only [List.set_set] at R3
    refine ⟨R3, ((k2.mut.setCell (by simp [Value.ownBlock]) _).setCell (by simp [Value.ownBlock]) _).setCell (by simp [Value.ownBlock]) _, fun k hk => ?_⟩
    rcases gotsR_set hk with q | q
    · exact .inl q
    · have h1 := l2.lt k (hk' k q)
      exact .inr (by omega)
  clear hi h hx hN
  go_enter Tryz.func126, Tryz.ntmps126
  go_wp2_with fail
  refine C.mono ?_
  rintro r w1 ⟨rfl, rfl⟩
  clear C
  go_upto_region 4 with fail
  go_region_with (go_at_call 144; refine (HX.out _ (Kept.refl _).drew).mono ?_; rintro r w2 ⟨v2, rfl, l2, k2⟩; obtain ⟨y2, d2, ev2⟩ := l2.form; subst ev2; have b2 := (k2.cell (a := ⟨b, 12, none⟩) hbw).trans b0; have z3 := (k2.cell (a := ⟨g, i * 7 + 3, none⟩) hg).trans c3; have z5 := (k2.cell (a := ⟨g, i * 7 + 5, none⟩) hg).trans c5; have z6 := (k2.cell (a := ⟨g, i * 7 + 6, none⟩) hg).trans c6; have f2 := fun q => (k2.frozen (a := ⟨g, q, none⟩) hg).trans (fz q); have HH : Hid (Kept w1 w2 ∧ Lst w2 w1.heap.size (.slice y2 N.length d2) N) := ⟨(Kept.refl w1).drew.trans k2, l2⟩; clear l2 k2)
  all_goals go_wp2
  all_goals go_ret
  all_goals (rename_i HH; exact ⟨rfl, _, _, HF.out _ _ _ HH.out.1 HH.out.2⟩)
end Go.Proofs.YtahpnnjemjjfhaaGreat

