/-
  The modules LineC, LineD, LineE, CoilT, Coil, CoilB, one behind another.
-/
import Derived.Laws.Cover3
import Derived.Test.YtiigmmmhhpdmdaaB01
import Derived.Test.YtiigmmmhhpdmdaaB05
/-
  Contracts of package line: Of, First, Add.
-/
namespace Go.Proofs.Ytiigmmmhhpdmdaa
open Go.RowKit

theorem idx_cases (p : Ent → Bool) (E : List Ent) : (idx p E = -1 ∧ E.find? p = none ∧ ∀ e ∈ E, p e = false) ∨ ∃ i : Nat, ∃ h : i < E.length, idx p E = (i : Int) ∧ E.find? p = some E[i] ∧ p E[i] = true ∧ ∀ e ∈ E.take i, p e = false := by
  cases h : E.findIdx? p with
  | none =>
    have h1 := List.findIdx?_eq_none_iff.1 h
    exact .inl ⟨by simp [idx, h], List.find?_eq_none.2 (fun e he => by simp [h1 e he]), h1⟩
  | some i =>
    obtain ⟨hi, h1, h2⟩ := List.findIdx?_eq_some_iff_getElem.1 h
    refine .inr ⟨i, hi, by simp [idx, h], ?_, h1, fun e he => ?_⟩
    · exact List.find?_eq_some_iff_getElem.2 ⟨h1, i, hi, rfl, fun j hj => by simpa using h2 j hj⟩
    · obtain ⟨j, hj, rfl⟩ := List.mem_take_iff_getElem.1 he
      simpa using h2 j (by omega)

/-- What tell answers at the place of the first of which p holds. -/
theorem ltell_any {base b : Nat} {v : Value} {E : List Ent} (p : Ent → Bool) (w : World) (h : LTab w base b v E) :
    Calls Try.prog 111 #[.pointer (some ⟨b, 0, none⟩), .int .i64 (idx p E)] w fun r w' => ∃ y d, r = .returned (.tuple #[(told (E.find? p)).agg y d, .bool (E.find? p).isSome]) ∧ Rdi w' y (told (E.find? p)).G ∧ (∀ g o, y = some ⟨g, o, none⟩ → w.heap.size ≤ g) ∧ Kept w w' := by
  rcases idx_cases p E with ⟨h1, h2, _⟩ | ⟨i, hi, h1, h2, _⟩
  · rw [h1, h2]
    refine (ltell_no (-1) w (by omega)).mono ?_
    rintro r w' ⟨rfl, k⟩
    exact ⟨none, 0, rfl, Rdi.nil, fun g o q => by simp at q, k⟩
  · rw [h1, h2]
    exact ltell_yes w h hi

set_option maxHeartbeats 1000000 in
theorem lof_aux {b : Nat} (t : Int) (i : Int) (e : Ent) (q : Bool) (w : World) (hp : ∀ w', Kept w w' → Calls Try.prog 103 #[.pointer (some ⟨b, 0, none⟩), .int .i64 t] w' fun r w2 => r = .returned (.int .i64 i) ∧ Kept w' w2)
    (ht : ∀ w', Kept w w' → Calls Try.prog 111 #[.pointer (some ⟨b, 0, none⟩), .int .i64 i] w' fun r w2 => ∃ y d, r = .returned (.tuple #[e.agg y d, .bool q]) ∧ Rdi w2 y e.G ∧ (∀ g o, y = some ⟨g, o, none⟩ → w'.heap.size ≤ g) ∧ Kept w' w2) :
    Calls Try.prog 90 #[.pointer (some ⟨b, 0, none⟩), .int .i64 t] w fun r w' => ∃ y d, r = .returned (.tuple #[e.agg y d, .bool q]) ∧ Rdi w' y e.G ∧ (∀ g o, y = some ⟨g, o, none⟩ → w.heap.size ≤ g) ∧ Kept w w' := by
  have HP : Hid _ := hp
  have HT : Hid _ := ht
  clear hp ht
  go_enter Try.func90, Try.ntmps90
  go_wp2_with fail
  generalize hW0 : w.alloc _ = W0
  have b0 : Blk W0 w.heap.size [.int .i64 0, .int .i64 0, .int .i64 0, .int .i64 0, .int .i64 0, .int .i64 0, .slice none 0 0] := by rw [← hW0]; exact Blk.new w _ _
  have k0 : Kept w W0 := by rw [← hW0]; exact (Kept.refl w).alloc _ _
  clear hW0
  refine (HP.out _ k0).mono ?_
  rintro r w1 ⟨rfl, k1⟩
  have H1 : Hid (Blk w1 w.heap.size [.int .i64 0, .int .i64 0, .int .i64 0, .int .i64 0, .int .i64 0, .int .i64 0, .slice none 0 0] ∧ Kept w w1) := ⟨b0.kept k1, k0.trans k1⟩
  clear k0 k1 b0
  go_wp2_with fail
  refine (HT.out _ H1.out.2).mono ?_
  rintro r w2 ⟨y, d, rfl, r2, f2, k2⟩
  have B0 := H1.out.1.kept k2
  have HY : Hid (Rdi w2 y e.G ∧ (∀ g o, y = some ⟨g, o, none⟩ → w.heap.size < g) ∧ Kept w w2 ∧ Blk w2 w.heap.size [.int .i64 0, .int .i64 0, .int .i64 0, .int .i64 0, .int .i64 0, .int .i64 0, .slice none 0 0]) := ⟨r2, fun g o q => by
    have h1 := f2 g o q
    have h2 := H1.out.1.lt
    omega, H1.out.2.trans k2, B0⟩
  have d0 := B0.at 0 rfl
  have d1 := B0.at 1 rfl
  have d2 := B0.at 2 rfl
  have d3 := B0.at 3 rfl
  have d4 := B0.at 4 rfl
  have d5 := B0.at 5 rfl
  have d6 := B0.at 6 rfl
  have f0 := B0.fz
  clear r2 f2 k2 B0 H1
  simp only [Ent.agg]
  go_wp2
  (try simp only [Exit.inBlock, Exit.then])
  obtain ⟨r2, f2, k2, B0⟩ := HY.out
  have B := B0.seven (.int .i64 e.th) (.int .i64 e.fr) (.int .i64 e.sp) (.int .i64 e.st) (.int .i64 e.cy) (.int .i64 e.pl) (.slice y e.G.length d)
  have K := k2.seven (b := w.heap.size) (Nat.le_refl _) (.int .i64 e.th) (.int .i64 e.fr) (.int .i64 e.sp) (.int .i64 e.st) (.int .i64 e.cy) (.int .i64 e.pl) (.slice y e.G.length d)
  have M := mut_seven (w := w2) (b := w.heap.size) (.int .i64 e.th) (.int .i64 e.fr) (.int .i64 e.sp) (.int .i64 e.st) (.int .i64 e.cy) (.int .i64 e.pl) (.slice y e.G.length d)
  unfold World.seven at B K M
  exact bodyPost_ret_by (results_blk_tmp rfl _ _ w.heap.size _ rfl B Try.underlying137 (by kernel_rfl)) rfl ⟨y, d, rfl, r2.muts M (fun g o q => by have := f2 g o q; simp; omega), fun g o q => by have := f2 g o q; omega, K⟩

theorem lof_any {base b : Nat} {v : Value} {E : List Ent} (t : Int) (w : World) (h : LTab w base b v E) :
    Calls Try.prog 90 #[.pointer (some ⟨b, 0, none⟩), .int .i64 t] w fun r w' => ∃ y d, r = .returned (.tuple #[(told (E.find? fun e => e.th == t)).agg y d, .bool (E.find? fun e => e.th == t).isSome]) ∧ Rdi w' y (told (E.find? fun e => e.th == t)).G ∧ (∀ g o, y = some ⟨g, o, none⟩ → w.heap.size ≤ g) ∧ Kept w w' :=
  lof_aux t _ _ _ w (fun w' k => lplace_any t w' (h.kept k)) (fun w' k => ltell_any _ w' (h.kept k))

theorem info_entry : (Try.prog.info? 188).map (fun i => (i.zero, i.size, i.bytes)) = some (some (.agg #[.int .i64 0, .int .i64 0, .int .i64 0, .int .i64 0, .int .i64 0, .int .i64 0, .slice none 0 0, .bool false]), 8, 80) := by kernel_rfl

theorem step_append_eq {P : Program} {ops : Array Oper} {o : Oper} {a : Act} {w : World} {K : Act → World → Prop} {Q : Exit → Act → World → Prop} {X : Prop}
    (hg : o.guard = none) (s x : Operand) (t : TypeId) (hop : o.op = Op.call { callee := Callee.builtin Builtin.append, args := #[s, x], argTypes := #[t, t] })
    {v u v' : Value} {w' : World} (hs : a.eval s = v) (hx : a.eval x = u) (hr : (Builtin.append_ #[t, t] o.type #[v, u]).run P w = .ok v' w') (hK : K (a.put o.dst v') w') :
    if Region.wanted o (yielded ops a.tmps) = true then Oper.wp P o a w K Q else X := by
  have hw : Region.wanted o (yielded ops a.tmps) = true := by simp [Region.wanted, hg]
  rw [if_pos hw]
  unfold Oper.wp
  simp [execOp, hop, resolve, invoke, builtin, hs, hx, hr, Result.andThen]
  exact hK

def newEnt (t f s : Int) : Ent := ⟨t, f, s, 0, 0, -1, none, 0, [], false⟩

theorem lrdr_one (w : World) (e : Ent) : Rdr Ent.c8 (w.alloc (.cells e.c8.toArray 188)) (some ⟨w.heap.size, 0, none⟩) [e] := fun _ => ⟨_, rfl, fun j u hu => by
  rw [show (⟨w.heap.size, 0, none⟩ : Addr).add j = ⟨w.heap.size, j, none⟩ by unfold Addr.add; split <;> simp_all]
  simpa using hu⟩

set_option maxHeartbeats 1000000 in
theorem ladd_no {base b : Nat} {v : Value} {E : List Ent} {t f s s3 s4 s5 : Int} {x : Option Addr} {l c : Nat} (w : World) (h : LTab w base b v E) (ht : ∃ e ∈ E, e.th = t) :
    Calls Try.prog 60 #[.pointer (some ⟨b, 0, none⟩), .agg #[.int .i64 t, .int .i64 f, .int .i64 s, .int .i64 s3, .int .i64 s4, .int .i64 s5, .slice x l c]] w fun r w' => r = .returned (.bool false) ∧ Kept w w' := by
  have HT : Hid (LTab w base b v E) := h
  have HI : Hid (idx (fun e => e.th == t) E ≥ 0) := by
    rcases idx_cases (fun e => e.th == t) E with ⟨_, _, h3⟩ | ⟨i, hi, h1, _⟩
    · obtain ⟨e, he, q⟩ := ht
      have := h3 e he
      simp [q] at this
    · show idx (fun e => e.th == t) E ≥ 0
      omega
  clear h ht
  go_enter Try.func60, Try.ntmps60
  go_wp2_with fail
  refine (lplace_any t _ (HT.out.kept ((Kept.refl w).alloc _ _))).mono ?_
  rintro r w1 ⟨rfl, k1⟩
  have H1 : Hid (Kept w w1) := k1.ofAlloc
  have hi := HI.out
  generalize idx (fun e => e.th == t) E = i at *
  clear k1
  go_wp2
  go_ret
  exact ⟨rfl, H1.out⟩

set_option maxHeartbeats 4000000 in
theorem ladd_yes {base b : Nat} {v : Value} {E : List Ent} {t f s s3 s4 s5 : Int} {x : Option Addr} {l c : Nat} (w : World) (h : LTab w base b v E) (hf : E.length < 100000) (ht : ∀ e ∈ E, e.th ≠ t) :
    Calls Try.prog 60 #[.pointer (some ⟨b, 0, none⟩), .agg #[.int .i64 t, .int .i64 f, .int .i64 s, .int .i64 s3, .int .i64 s4, .int .i64 s5, .slice x l c]] w fun r w' => r = .returned (.bool true) ∧
      ∃ v', LTab w' base b v' (E ++ [newEnt t f s]) ∧ Mut (b :: v.ownBlock.toList) w w' ∧ ∀ k, k ∈ foot b v' (E ++ [newEnt t f s]) → k ∈ foot b v E ∨ w.heap.size ≤ k := by
  have HT : Hid (LTab w base b v E ∧ E.length < 100000) := ⟨h, hf⟩
  have HI : Hid (idx (fun e => e.th == t) E = -1) := idx_none fun e he => by simpa using ht e he
  clear h ht hf
  go_enter Try.func60, Try.ntmps60
  go_wp2_with fail
  generalize hW0 : w.alloc _ = W0
  have k0 : Kept w W0 := by rw [← hW0]; exact (Kept.refl w).alloc _ _
  have b0 : Blk W0 w.heap.size [.int .i64 t, .int .i64 f, .int .i64 s, .int .i64 s3, .int .i64 s4, .int .i64 s5, .slice x l c] := by rw [← hW0]; exact Blk.new w _ _
  clear hW0
  refine (lplace_any t _ (HT.out.1.kept k0)).mono ?_
  rintro r w1 ⟨rfl, k1⟩
  rw [HI.out]
  have H1 : Hid (LTab w1 base b v E ∧ Kept w w1) := ⟨HT.out.1.kept (k0.trans k1), k0.trans k1⟩
  have B := b0.kept k1
  have d0 := B.at 0 rfl
  have d1 := B.at 1 rfl
  have d2 := B.at 2 rfl
  clear k0 k1 b0 B
  go_wp2_with fail
  generalize hW2 : w1.alloc _ = W2
  have k2 : Kept w1 W2 := by rw [← hW2]; exact (Kept.refl w1).alloc _ _
  have b2 : Blk W2 w1.heap.size [.int .i64 t, .int .i64 f, .int .i64 s, .int .i64 0, .int .i64 0, .int .i64 (-1), .slice none 0 0] := by rw [← hW2]; exact Blk.new w1 _ _
  clear hW2 d0 d1 d2
  have H2 : Hid (LTab W2.drew base b v E ∧ Kept w W2.drew) := ⟨H1.out.1.kept k2.drew, H1.out.2.trans k2.drew⟩
  obtain ⟨x0, e0, rfl⟩ := H2.out.1.ens.row.form
  have c0 : ∀ A u, (W2.alloc (.cells A u)).cell? ⟨b, 0, none⟩ = some (.slice x0 E.length e0) := fun A u => (H2.out.1.kept ((Kept.refl _).alloc A u)).c0
  have c1 : W2.cell? ⟨b, 0, none⟩ = some (.slice x0 E.length e0) := H2.out.1.c0
  obtain ⟨v', w', hrun, hrw, hmt, hfr⟩ := run_append_rw (P := Try.prog) (ts := 184) (ty := 184) (c := Ent.c8) (T := [newEnt t f s]) (d := 1) Try.underlying184 info_entry rfl (by omega) (by omega) c8len lc8_one (H2.out.1.ens.row.kept ((Kept.refl W2.drew).alloc (newEnt t f s).c8.toArray 188)) (by have h1 := H2.out.1.lo; have h2 : b < W2.heap.size := H2.out.1.ltb; simp; omega) (lrdr_one _ _) (by have := HT.out.2; simp; omega)
  have hml : ([newEnt t f s] : List Ent).length = 1 := rfl
  rw [hml] at hrun
  have hrun : (Builtin.append_ #[184, 184] 184 #[.slice x0 E.length e0, .slice (some ⟨W2.heap.size, 0, none⟩) 1 1]).run Try.prog (W2.alloc (.cells #[.int .i64 t, .int .i64 f, .int .i64 s, .int .i64 0, .int .i64 0, .int .i64 (-1), .slice none 0 0, .bool false] 188)).drew = .ok v' w' := hrun
  have O2 : Own w' b 186 [.slice x0 E.length e0] := (H2.out.1.kept ((Kept.refl W2.drew).alloc (newEnt t f s).c8.toArray 188)).head.muts hmt (by simpa using H2.out.1.ens.nb)
  have c2 := O2.blk.at 0 rfl
  have f2 := O2.blk.fz
  have m0 := b2.at 0 rfl
  have m1 := b2.at 1 rfl
  have m2 := b2.at 2 rfl
  have m3 := b2.at 3 rfl
  have m4 := b2.at 4 rfl
  have m5 := b2.at 5 rfl
  have m6 := b2.at 6 rfl
  have HR : Hid (LTab (w'.setCell ⟨b, 0, none⟩ v') base b v' (E ++ [newEnt t f s]) ∧ Mut (b :: (Value.slice x0 E.length e0).ownBlock.toList) w (w'.setCell ⟨b, 0, none⟩ v') ∧ ∀ k, k ∈ foot b v' (E ++ [newEnt t f s]) → k ∈ foot b (.slice x0 E.length e0) E ∨ w.heap.size ≤ k) := by
    have K3 := (Kept.refl W2.drew).alloc (newEnt t f s).c8.toArray 188
    have EN := (H2.out.1.ens.kept K3).turn hrw hmt (fun k hk => .inl (by simpa using hk)) hfr (fun e he => by
      rcases List.mem_append.1 he with he | he
      · exact .inl he
      · simp at he
        subst he
        exact .inr ⟨rfl, rfl⟩) (by have h2 : b < W2.heap.size := H2.out.1.ltb; simp; omega)
    refine ⟨H2.out.1.turn O2 EN (by have := HT.out.2; simp; omega), ?_, fun k hk => ?_⟩
    · exact (((H2.out.2.trans K3).mut).trans (hmt.wide fun k hk => by simp at hk ⊢; exact .inr hk)).setCell (by simp) _
    · rcases mem_foot.1 hk with rfl | hk | ⟨e, he, hk⟩
      · exact .inl (mem_foot.2 (.inl rfl))
      · rcases hfr k hk with q | q
        · exact .inl (mem_foot.2 (.inr (.inl q)))
        · have h1 := (H2.out.2.trans K3).size
          exact .inr (by omega)
      · rcases List.mem_append.1 he with he | he
        · exact .inl (mem_foot.2 (.inr (.inr ⟨e, he, hk⟩)))
        · simp at he
          subst he
          simp [newEnt, Ent.blk] at hk
  obtain ⟨x1, e1, ev⟩ := hrw.form
  rw [List.length_append, hml] at ev
  subst ev
  clear hrw hmt hfr O2 b2 k2
  go_region_law (refine step_append_eq rfl (.tmp 22) (.tmp 25) 184 rfl (by simp [Act.eval]) (by simp [Act.eval]) hrun ?_)
  all_goals go_wp2
  all_goals go_ret
  all_goals exact ⟨rfl, _, HR.out⟩
end Go.Proofs.Ytiigmmmhhpdmdaa

/-
  Contracts of package line: Waits, Grant, Fail, Begin, End.
-/
namespace Go.Proofs.Ytiigmmmhhpdmdaa
open Go.RowKit

/-- Those that wait. -/
def wts (E : List Ent) : List Ent := E.filter fun e => e.st == 0
theorem wts_more {E : List Ent} {k : Nat} (hk : k < E.length) : (wts (E.take (k + 1))).length = (wts (E.take k)).length + (if E[k].st == 0 then 1 else 0) := by
  rw [List.take_succ_eq_append_getElem hk]
  unfold wts
  rw [List.filter_append, List.length_append]
  by_cases h : (E[k].st == 0) = true
  · simp [h]
  · simp [h]
theorem wts_le (E : List Ent) : (wts E).length ≤ E.length := List.length_filter_le _ _

set_option maxHeartbeats 1000000 in
theorem lwaits_any {base b : Nat} {v : Value} {E : List Ent} (w : World) (h : LTab w base b v E) :
    Calls Try.prog 56 #[.pointer (some ⟨b, 0, none⟩)] w fun r w' => r = .returned (.int .i64 ((wts E).length : Int)) ∧ Kept w w' := by
  have HT : Hid (LTab w base b v E) := h
  obtain ⟨x, d, rfl⟩ := h.ens.row.form
  have b0 := h.c0
  have hl := h.few
  clear h
  go_enter Try.func56, Try.ntmps56
  go_wp2
  clear b0
  go_loopg [3, 11] E.length (fun m n i wr => ∃ k : Nat, i = .int .i64 k ∧ k ≤ E.length ∧ m = E.length - k ∧ ∃ c : Nat, n = .int .i64 c ∧ c ≤ k ∧ Hid (c = (wts (E.take k)).length ∧ Kept w wr))
  case atStart => exact ⟨0, rfl, by omega, by omega, 0, rfl, by omega, by simp [wts], Kept.refl _⟩
  case round =>
    obtain ⟨k, rfl, hk, hm, c, rfl, hc, hw⟩ := hrel
    have HM : Hid _ := hm
    clear hm
    by_cases hlt : k < E.length
    · obtain ⟨g, cap, ev, _, hg, _⟩ := HT.out.ens.row.here (by omega)
      obtain ⟨rfl, _, rfl⟩ := Value.slice.inj ev
      obtain ⟨c0, c1, c2, c3, c4, c5, c6, c7⟩ := (HT.out.ens.row.kept hw.out.2).eight hlt
      have HC : Hid _ := wts_more hlt
      clear ev
      generalize E[k] = e at *
      go_wp2_with fail
      refine (lwaits_one e _).mono ?_
      rintro r w2 ⟨rfl, k2⟩
      have H2 : Hid (Kept w w2) := hw.out.2.trans k2.ofAlloc
      clear k2 c0 c1 c2 c3 c4 c5 c6 c7
      cases hs : (e.st == 0)
      · have HE : Hid (c = (wts (E.take (k + 1))).length) := by
          have h1 := HC.out
          rw [hs] at h1
          simp at h1
          exact hw.out.1.trans h1.symm
        go_wp2
        go_roundg (gk - 1)
        all_goals (have := HM.out; try omega)
        exact ⟨k + 1, by go_num, by omega, by omega, c, rfl, by omega, HE.out, H2.out⟩
      · have HE : Hid (c + 1 = (wts (E.take (k + 1))).length) := by
          have h1 := HC.out
          rw [hs] at h1
          simp at h1
          show c + 1 = _
          rw [h1, hw.out.1]
        go_wp2
        go_roundg (gk - 1)
        all_goals (have := HM.out; try omega)
        exact ⟨k + 1, by go_num, by omega, by omega, c + 1, by go_num, by omega, HE.out, H2.out⟩
    · obtain rfl : k = E.length := by omega
      have HN : Hid (c = (wts E).length) := by have := hw.out.1; rwa [List.take_length] at this
      go_wp2
      go_ret
      exact ⟨by rw [← HN.out]; rfl, hw.out.2⟩

section
variable {w w' : World} {base b g n d : Nat} {E : List Ent}
theorem LTab.ng (h : LTab w base b (.slice (some ⟨g, 0, none⟩) n d) E) : g ≠ b := fun q => h.ens.nb (by simp [Value.ownBlock, q])
/-- One cell of one request is laid anew. -/
theorem LTab.set (h : LTab w base b (.slice (some ⟨g, 0, none⟩) n d) E) {i j : Nat} (hi : i < E.length) (hj : j < 8) {e' : Ent} {u : Value} (hu : e'.c8 = E[i].c8.set j u)
    (hg : (e'.gx = E[i].gx ∧ e'.G = E[i].G) ∨ (Rdi w e'.gx e'.G ∧ e'.G.length ≤ 100000 ∧ ∀ k, e'.blk = some k → base ≤ k ∧ k < w.heap.size ∧ k ≠ b ∧ k ≠ g)) :
    LTab (w.setCell ⟨g, i * 8 + j, none⟩ u) base b (.slice (some ⟨g, 0, none⟩) n d) (E.set i e') :=
  ⟨h.head.set_other h.ng u, h.ens.set c8len hi hj hu hg, h.lo, by simpa using h.few⟩
theorem gots_set {e' : Ent} {i : Nat} {k : Nat} {v : Value} (hk : k ∈ foot b v (E.set i e')) : k ∈ foot b v E ∨ e'.blk = some k := by
  rcases mem_foot.1 hk with h1 | h1 | ⟨e, he, h1⟩
  · exact .inl (mem_foot.2 (.inl h1))
  · exact .inl (mem_foot.2 (.inr (.inl h1)))
  · rcases List.mem_or_eq_of_mem_set he with he | rfl
    · exact .inl (mem_foot.2 (.inr (.inr ⟨e, he, h1⟩)))
    · exact .inr h1
end

/-- The first k are turned by f. -/
def upd (f : Ent → Ent) (k : Nat) (E : List Ent) : List Ent := (E.take k).map f ++ E.drop k
section
variable {f : Ent → Ent} {k : Nat} {E : List Ent}
theorem upd_zero : upd f 0 E = E := by simp [upd]
theorem upd_all : upd f E.length E = E.map f := by simp [upd]
theorem upd_len : (upd f k E).length = E.length := by simp [upd]; omega
theorem upd_get (hk : k < E.length) : (upd f k E)[k]'(by rw [upd_len]; exact hk) = E[k] := by
  unfold upd
  rw [List.getElem_append_right (by simp; omega)]
  simp [Nat.min_eq_left (Nat.le_of_lt hk)]
theorem upd_set (hk : k < E.length) : (upd f k E).set k (f E[k]) = upd f (k + 1) E := by
  unfold upd
  have e1 : k - ((E.take k).map f).length = 0 := by simp; omega
  rw [List.set_append_right _ _ (by simp; omega), e1, List.drop_eq_getElem_cons hk, List.set_cons_zero, List.take_succ_eq_append_getElem hk, List.map_append]
  simp only [List.map_cons, List.map_nil, List.append_assoc, List.cons_append, List.nil_append]
theorem foot_upd {b : Nat} {v : Value} (hf : ∀ e, (f e).gx = e.gx) {j : Nat} (hj : j ∈ foot b v (E.map f)) : j ∈ foot b v E := by
  rcases mem_foot.1 hj with h | h | ⟨e, he, h⟩
  · exact mem_foot.2 (.inl h)
  · exact mem_foot.2 (.inr (.inl h))
  · obtain ⟨e0, he0, rfl⟩ := List.mem_map.1 he
    exact mem_foot.2 (.inr (.inr ⟨e0, he0, by simpa [Ent.blk, hf] using h⟩))
end

def noteE (e : Ent) : Ent := { e with nt := e.st == 0 }
def endE (e : Ent) : Ent := { e with cy := if e.nt && e.st == 0 then e.cy + 1 else e.cy, nt := false }

end Go.Proofs.Ytiigmmmhhpdmdaa

/-
  Contracts of package line: Drop, and slices.Delete at its requests.
-/
namespace Go.Proofs.Ytiigmmmhhpdmdaa
open Go.RowKit

theorem lrun_clear_one {P : Program} (w : World) (t e ty : TypeId) (z : Value) (zs : List Value) (ht : P.underlying t = some (.slice e)) (hv : ∀ w, (zeroValue e).run P w = .ok z w) (hz : (Builtin.zeroCells z.cells 1).toList = zs) (h1 : ∀ u ∈ zs, u.oneCell' = true) (b o c : Nat)
    (hc : ∀ j, j < zs.length → (w.cell? ⟨b, o + j, none⟩).isSome = true) (hf : ∀ j, j < zs.length → w.frozen? ⟨b, o + j, none⟩ = false) :
    (Builtin.clear_ #[t] ty #[.slice (some ⟨b, o, none⟩) 1 c]).run P w = .ok (.tuple #[]) (w.setCells b o zs) := by
  have hst := run_storeCells_cells (P := P) b o zs 0 w (by simpa using hc) (by simpa using hf) h1
  simp only [Nat.add_zero] at hst
  simp [Builtin.clear_, run_underlying ht, hv, hz, hst]

section
variable {t : TypeId} {m : Nat} {c : Ent → List Value} {w : World} {base g n cap : Nat} {E : List Ent}
theorem Rw.row (h : Rw t m c w base (.slice (some ⟨g, 0, none⟩) n cap) E) : E.length ≤ cap ∧ cap ≤ maxLen ∧ base ≤ g ∧ ∃ f, w.rowIs g t (cap * m) f ∧ ∀ j, j < E.length * m → (E.flatMap c)[j]? = some (f j) := by
  rcases h.2 with ⟨e, h0⟩ | ⟨g', cap', cur, e, hb, hg, hnc, hcm, hcs, htake⟩
  · cases e
  · obtain ⟨e1, _, e3⟩ := Value.slice.inj e
    obtain rfl : g = g' := by simpa using e1
    subst e3
    have hle : E.length * m ≤ cap * m := Nat.mul_le_mul_right m hnc
    refine ⟨hnc, hcm, hb, fun j => cur[j]?.getD default, ⟨cur, hg, hcs, fun j hj => ?_⟩, fun j hj => ?_⟩
    · have : j < cur.size := by omega
      simp [this]
    · have : j < cur.size := by omega
      rw [← htake, List.getElem?_take, if_pos hj]
      simp [this]
theorem rw_of_row {f : Nat → Value} (h : w.rowIs g t (cap * m) f) (hc : ∀ e, (c e).length = m) (hf : ∀ j, j < E.length * m → (E.flatMap c)[j]? = some (f j)) (hl : E.length ≤ cap) (hm : cap ≤ maxLen) (hb : base ≤ g) : Rw t m c w base (.slice (some ⟨g, 0, none⟩) E.length cap) E := by
  obtain ⟨cur, hg, hs, hcell⟩ := h
  have hle : E.length * m ≤ cap * m := Nat.mul_le_mul_right m hl
  refine ⟨flat_len hc E, .inr ⟨g, cap, cur, rfl, hb, hg, hl, hm, hs, ?_⟩⟩
  apply List.ext_getElem?
  intro j
  rw [List.getElem?_take]
  by_cases hj : j < E.length * m
  · rw [if_pos hj, hf j hj]
    simpa using hcell j (by omega)
  · rw [if_neg hj, List.getElem?_eq_none (by rw [flat_len hc]; omega)]
end

def zero8 : List Value := [.int .i64 0, .int .i64 0, .int .i64 0, .int .i64 0, .int .i64 0, .int .i64 0, .slice none 0 0, .bool false]

theorem zero8_eq : (Builtin.zeroCells (Value.agg #[.int .i64 0, .int .i64 0, .int .i64 0, .int .i64 0, .int .i64 0, .int .i64 0, .slice none 0 0, .bool false]).cells 1).toList = zero8 := by kernel_rfl

/-- The worlds behind Delete's append, and behind its clear. -/
theorem ldelete_worlds {w : World} {base g i q n cap : Nat} {E : List Ent} (h : Rw 188 8 Ent.c8 w base (.slice (some ⟨g, 0, none⟩) n cap) E) (hi : E.length = i + q + 1) (W1 W2 : World)
    (h1 : W1 = w.drew.setCells g (i * 8) ((E.drop (i + 1)).flatMap Ent.c8)) (h2 : W2 = W1.setCells g ((i + q) * 8) zero8) :
    (∀ j, j < 8 → (W1.cell? ⟨g, (i + q) * 8 + j, none⟩).isSome = true) ∧ (∀ j, j < 8 → W1.frozen? ⟨g, (i + q) * 8 + j, none⟩ = false) ∧ Rw 188 8 Ent.c8 W2 base (.slice (some ⟨g, 0, none⟩) (i + q) cap) (E.eraseIdx i) ∧ Mut [g] w W2 := by
  obtain ⟨hl, hm, hb, f, hf, hv⟩ := h.row
  have hf0 : w.drew.rowIs g 188 (cap * 8) f := hf
  have r1 := rowIs_setCells ((E.drop (i + 1)).flatMap Ent.c8) (i * 8) w.drew f hf0
  rw [← h1] at r1
  have r2 := rowIs_setCells zero8 ((i + q) * 8) W1 _ r1
  rw [← h2] at r2
  have hnl : ((E.drop (i + 1)).flatMap Ent.c8).length = q * 8 := by rw [flat_len c8len]; simp; omega
  have hzl : zero8.length = 8 := rfl
  refine ⟨fun j hj => by rw [r1.cell (by omega)]; rfl, fun j _ => r1.frozen _, ?_, ?_⟩
  · have hlen : (E.eraseIdx i).length = i + q := by rw [List.length_eraseIdx_of_lt (by omega)]; omega
    have := rw_of_row (c := Ent.c8) (E := E.eraseIdx i) (base := base) r2 c8len (fun j hj => ?_) (by omega) hm hb
    · rwa [hlen] at this
    · rw [hlen] at hj
      rw [if_neg (by omega), hnl, List.eraseIdx_eq_take_drop_succ, List.flatMap_append, flat_take c8len]
      by_cases hj2 : j < i * 8
      · rw [List.getElem?_append_left (by rw [List.length_take, flat_len c8len]; omega), List.getElem?_take, if_pos hj2, if_neg (by omega)]
        exact hv j (by omega)
      · have e1 : (List.take (i * 8) (E.flatMap Ent.c8)).length = i * 8 := by rw [List.length_take, flat_len c8len]; omega
        rw [List.getElem?_append_right (by omega), if_pos (by omega), e1]
        have : j - i * 8 < ((E.drop (i + 1)).flatMap Ent.c8).length := by omega
        rw [List.getElem?_eq_getElem this]
        rfl
  · rw [h2, h1]
    exact ((Mut.refl [g] w).drew.trans (mut_setCells (by simp) _ _ _)).trans (mut_setCells (by simp) _ _ _)

end Go.Proofs.Ytiigmmmhhpdmdaa

/-
  A coil as it lies in memory: five whole numbers; what each method answers and leaves, as plain functions of them.
-/
namespace Go.Proofs.Ytiigmmmhhpdmdaa
open Go.RowKit

/-- The words of each space, which one is filled, how many words are kept, how many are used of space 0 and of space 1. -/
structure CS where
  s : Nat
  c : Nat
  k : Nat
  a : Nat
  b : Nat

def CS.cells (S : CS) : List Value := [.int .i64 (S.s : Int), .int .i64 (S.c : Int), .int .i64 (S.k : Int), .int .i64 (S.a : Int), .int .i64 (S.b : Int)]
/-- Used in the space that is filled, and in the other one. -/
def CS.u (S : CS) : Nat := if S.c = 0 then S.a else S.b
def CS.o (S : CS) : Nat := if S.c = 0 then S.b else S.a
structure CS.Ok (S : CS) : Prop where
  max : S.s ≤ 2048
  two : S.c = 0 ∨ S.c = 1
  fit : S.u + S.k ≤ S.s
  oth : S.o ≤ S.s
  ko : S.k ≤ S.o

def roomF (S : CS) : Int := (S.s : Int) - (S.u : Int) - (S.k : Int)
def usedF (S : CS) (i : Int) : Int := if i = 0 then (S.a : Int) else if i = 1 then (S.b : Int) else 0
/-- m words more used where it is filled. -/
def putU (S : CS) (m : Nat) : CS := if S.c = 0 then { S with a := S.a + m } else { S with b := S.b + m }
def takes (S : CS) (n : Int) : Bool := decide (1 ≤ n ∧ n ≤ roomF S)
def takeA (S : CS) (n : Int) : Int := if takes S n then (S.u : Int) else 0
def takeS (S : CS) (n : Int) : CS := if takes S n then putU S n.toNat else S
def skips (S : CS) (n : Int) : Bool := decide (1 ≤ n ∧ n ≤ (S.k : Int))
def skipS (S : CS) (n : Int) : CS := if skips S n then { S with k := S.k - n.toNat } else S
def copyA (S : CS) (n : Int) : Int := if skips S n then (S.u : Int) else 0
def copyS (S : CS) (n : Int) : CS := if skips S n then putU { S with k := S.k - n.toNat } n.toNat else S
def turns (S : CS) : Bool := S.o == 0
def turnS (S : CS) : CS := if turns S then { S with k := S.u, c := 1 - S.c } else S
def dones (S : CS) : Bool := S.k == 0
def doneS (S : CS) : CS := if dones S then (if S.c = 0 then { S with b := 0 } else { S with a := 0 }) else S

section
variable {S : CS}
theorem CS.Ok.take (h : S.Ok) (n : Int) : (takeS S n).Ok := by
  obtain ⟨s, c, k, a, b⟩ := S
  obtain ⟨h1, h2, h3, h4, h5⟩ := h
  unfold takeS
  split
  · rename_i ht
    simp only [takes, roomF, CS.u, CS.o, putU, decide_eq_true_eq] at *
    rcases h2 with rfl | rfl <;> simp at * <;> constructor <;> simp [CS.u, CS.o] <;> omega
  · exact ⟨h1, h2, h3, h4, h5⟩
theorem CS.Ok.skip (h : S.Ok) (n : Int) : (skipS S n).Ok := by
  obtain ⟨s, c, k, a, b⟩ := S
  obtain ⟨h1, h2, h3, h4, h5⟩ := h
  unfold skipS
  split
  · rename_i ht
    simp only [skips, CS.u, CS.o, decide_eq_true_eq] at *
    rcases h2 with rfl | rfl <;> simp at * <;> constructor <;> simp [CS.u, CS.o] <;> omega
  · exact ⟨h1, h2, h3, h4, h5⟩
theorem CS.Ok.copy (h : S.Ok) (n : Int) : (copyS S n).Ok := by
  obtain ⟨s, c, k, a, b⟩ := S
  obtain ⟨h1, h2, h3, h4, h5⟩ := h
  unfold copyS
  split
  · rename_i ht
    simp only [skips, CS.u, CS.o, putU, decide_eq_true_eq] at *
    rcases h2 with rfl | rfl <;> simp at * <;> constructor <;> simp [CS.u, CS.o] <;> omega
  · exact ⟨h1, h2, h3, h4, h5⟩
theorem CS.Ok.turn (h : S.Ok) : (turnS S).Ok := by
  obtain ⟨s, c, k, a, b⟩ := S
  obtain ⟨h1, h2, h3, h4, h5⟩ := h
  unfold turnS
  split
  · rename_i ht
    simp only [turns, CS.u, CS.o, beq_iff_eq] at *
    rcases h2 with rfl | rfl <;> simp at * <;> constructor <;> simp [CS.u, CS.o] <;> omega
  · exact ⟨h1, h2, h3, h4, h5⟩
theorem CS.Ok.done (h : S.Ok) : (doneS S).Ok := by
  obtain ⟨s, c, k, a, b⟩ := S
  obtain ⟨h1, h2, h3, h4, h5⟩ := h
  unfold doneS
  split
  · rename_i ht
    simp only [dones, CS.u, CS.o, beq_iff_eq] at *
    rcases h2 with rfl | rfl <;> simp at * <;> constructor <;> simp [CS.u, CS.o] <;> omega
  · exact ⟨h1, h2, h3, h4, h5⟩
end

/-- A coil (of head type t) at block p. -/
structure CTab (t : TypeId) (w : World) (p : Nat) (S : CS) : Prop where
  own : Own w p t S.cells
  ok : S.Ok

section
variable {t : TypeId} {w w' : World} {p : Nat} {S : CS}
theorem CTab.kept (h : CTab t w p S) (k : Kept w w') : CTab t w' p S := ⟨h.own.kept k, h.ok⟩
theorem CTab.muts {D : List Nat} (h : CTab t w p S) (m : Mut D w w') (hp : p ∉ D) : CTab t w' p S := ⟨h.own.muts m hp, h.ok⟩
theorem CTab.lt (h : CTab t w p S) : p < w.heap.size := h.own.lt
theorem CTab.c0 (h : CTab t w p S) : w.cell? ⟨p, 0, none⟩ = some (.int .i64 (S.s : Int)) := h.own.blk.at 0 rfl
theorem CTab.c1 (h : CTab t w p S) : w.cell? ⟨p, 1, none⟩ = some (.int .i64 (S.c : Int)) := h.own.blk.at 1 rfl
theorem CTab.c2 (h : CTab t w p S) : w.cell? ⟨p, 2, none⟩ = some (.int .i64 (S.k : Int)) := h.own.blk.at 2 rfl
theorem CTab.c3 (h : CTab t w p S) : w.cell? ⟨p, 3, none⟩ = some (.int .i64 (S.a : Int)) := h.own.blk.at 3 rfl
theorem CTab.c4 (h : CTab t w p S) : w.cell? ⟨p, 4, none⟩ = some (.int .i64 (S.b : Int)) := h.own.blk.at 4 rfl
theorem CTab.fz (h : CTab t w p S) (i : Nat) : w.frozen? ⟨p, i, none⟩ = false := h.own.blk.fz i
/-- Both spaces empty. -/
theorem CTab.new (w : World) (t : TypeId) {s : Nat} (hs : s ≤ 2048) : CTab t (w.alloc (.cells #[.int .i64 (s : Int), .int .i64 0, .int .i64 0, .int .i64 0, .int .i64 0] t)) w.heap.size ⟨s, 0, 0, 0, 0⟩ :=
  ⟨Own.new w (CS.cells ⟨s, 0, 0, 0, 0⟩) t, hs, .inl rfl, by simp [CS.u], by simp [CS.o], by simp⟩
end
end Go.Proofs.Ytiigmmmhhpdmdaa

/-
  Contracts of package coil: each method answers and leaves what a plain function of the coil's five numbers says.
-/
namespace Go.Proofs.Ytiigmmmhhpdmdaa
open Go.RowKit

set_option maxHeartbeats 800000 in
theorem knew_bad (n : Int) (w : World) (hn : ¬ (0 ≤ n ∧ n ≤ 2048)) :
    Calls Try.prog 74 #[.int .i64 n] w fun e w' => e = .returned (.tuple #[.pointer none, .int .i64 1]) ∧ w' = w := by
  by_cases h0 : n < 0
  · clear hn
    go_enter Try.func74, Try.ntmps74
    go_wp2
    go_ret2
    exact ⟨rfl, rfl⟩
  · have h1 : 2048 < n := by omega
    clear hn
    go_enter Try.func74, Try.ntmps74
    go_wp2
    go_ret2
    exact ⟨rfl, rfl⟩

set_option maxHeartbeats 800000 in
theorem knew_any (s : Nat) (w : World) (hs : s ≤ 2048) :
    Calls Try.prog 74 #[.int .i64 s] w fun e w' => ∃ p, e = .returned (.tuple #[.pointer (some ⟨p, 0, none⟩), .int .i64 0]) ∧ CTab 197 w' p ⟨s, 0, 0, 0, 0⟩ ∧ Kept w w' ∧ w.heap.size ≤ p := by
  have HO : Hid (∀ w' : World, CTab 197 (w'.alloc (.cells #[.int .i64 (s : Int), .int .i64 0, .int .i64 0, .int .i64 0, .int .i64 0] 197)) w'.heap.size ⟨s, 0, 0, 0, 0⟩) := fun w' => CTab.new w' _ hs
  go_enter Try.func74, Try.ntmps74
  go_wp2
  go_ret2
  exact ⟨_, rfl, HO.out w, (Kept.refl _).alloc _ _, by omega⟩

theorem z0 : ((0 : Nat) : Int) = 0 := rfl
theorem z1 : ((1 : Nat) : Int) = 1 := rfl

section
variable {p : Nat} {S : CS}

set_option maxHeartbeats 400000 in
theorem kcurrent_any (w : World) (h : CTab 197 w p S) :
    Calls Try.prog 116 #[.pointer (some ⟨p, 0, none⟩)] w fun e w' => e = .returned (.int .i64 (S.c : Int)) ∧ w' = w := by
  have c1 := h.c1
  clear h
  go_enter Try.func116, Try.ntmps116
  go_wp2
  go_ret
  exact ⟨rfl, rfl⟩

set_option maxHeartbeats 800000 in
theorem kroom_any (w : World) (h : CTab 197 w p S) :
    Calls Try.prog 96 #[.pointer (some ⟨p, 0, none⟩)] w fun e w' => e = .returned (.int .i64 (roomF S)) ∧ Kept w w' := by
  have hp := h.lt
  have c0 := KW.cell (a := ⟨p, 0, none⟩) hp h.c0
  have c1 := KW.cell (a := ⟨p, 1, none⟩) hp h.c1
  have c2 := KW.cell (a := ⟨p, 2, none⟩) hp h.c2
  have c3 := KW.cell (a := ⟨p, 3, none⟩) hp h.c3
  have c4 := KW.cell (a := ⟨p, 4, none⟩) hp h.c4
  have h1 := h.ok.max
  have h2 := h.ok.two
  have h3 := h.ok.fit
  clear h hp
  obtain ⟨s, c, k, a, b⟩ := S
  simp only [roomF, CS.u] at *
  rcases h2 with rfl | rfl
  all_goals simp only [if_true, if_false, Nat.one_ne_zero, z0, z1] at *
  all_goals go_enter Try.func96, Try.ntmps96
  all_goals go_wp2
  all_goals refine wp_region_kept (by kernel_rfl) (by kernel_rfl) fun _ => ?_
  all_goals repeat (go_big_quiet_step (fail))
  all_goals refine wpQuiet_nil ?_
  all_goals rintro _ ⟨z, rfl⟩
  all_goals go_wp2
  all_goals go_ret
  all_goals exact ⟨by go_num, z.ok⟩
end
end Go.Proofs.Ytiigmmmhhpdmdaa

/-
  Contracts of package coil: the methods that write.
-/
namespace Go.Proofs.Ytiigmmmhhpdmdaa
open Go.RowKit

section
variable {p : Nat} {S : CS}

theorem Own.drew {w : World} {b : Nat} {t : TypeId} {L : List Value} (h : Own w b t L) : Own w.drew b t L := h
theorem CTab.drew {w : World} {t : TypeId} (h : CTab t w p S) : CTab t w.drew p S := ⟨h.own.drew, h.ok⟩
/-- One cell written anew. -/
theorem CTab.put {w : World} {t : TypeId} (h : CTab t w p S) (i : Nat) (v : Value) {S' : CS} (e : S.cells.set i v = S'.cells) (ok : S'.Ok) : CTab t (w.setCell ⟨p, i, none⟩ v) p S' :=
  ⟨e ▸ h.own.set i v, ok⟩

set_option maxHeartbeats 1000000 in
theorem kuse_any (m : Nat) (w : World) (h : CTab 197 w p S) (hm : S.u + m + S.k ≤ S.s) :
    Calls Try.prog 121 #[.pointer (some ⟨p, 0, none⟩), .int .i64 (m : Int)] w fun e w' => e = .returned (.int .i64 (S.u : Int)) ∧ CTab 197 w' p (putU S m) ∧ Mut [p] w w' := by
  have HT : Hid (CTab 197 w p S) := h
  have HM : Hid (S.u + m + S.k ≤ S.s) := hm
  have hp := h.lt
  have c1 := KW.cell (a := ⟨p, 1, none⟩) hp h.c1
  have c3 := KW.cell (a := ⟨p, 3, none⟩) hp h.c3
  have c4 := KW.cell (a := ⟨p, 4, none⟩) hp h.c4
  have h1 := h.ok.max
  have h2 := h.ok.two
  clear h hp
  obtain ⟨s, c, k, a, b⟩ := S
  simp only [CS.u] at *
  rcases h2 with rfl | rfl
  all_goals simp only [if_true, if_false, Nat.one_ne_zero, z0, z1] at *
  all_goals go_enter Try.func121, Try.ntmps121
  all_goals go_wp2
  all_goals refine wp_region_kept (by kernel_rfl) (by kernel_rfl) fun _ => ?_
  all_goals repeat (go_big_quiet_step (fail))
  all_goals refine wpQuiet_nil ?_
  all_goals rintro _ ⟨z, rfl⟩
  all_goals clear c1 c3 c4
  all_goals have HZ : Hid (CTab 197 z.it p _ ∧ Kept w z.it) := ⟨HT.out.kept z.ok, z.ok⟩
  all_goals have c1 := HZ.out.1.c1
  all_goals have c3 := HZ.out.1.c3
  all_goals have c4 := HZ.out.1.c4
  all_goals have fz := HZ.out.1.fz
  all_goals simp only [z0, z1] at c1 c3 c4
  all_goals generalize z.it = w1 at *
  all_goals go_wp2
  all_goals go_region
  all_goals go_wp2
  all_goals go_ret
  · refine ⟨rfl, HZ.out.1.drew.put 3 _ ?_ ?_, (HZ.out.2.mut.drew).setCell (by simp) _⟩
    · simp [CS.cells, putU]
    · have := HZ.out.1.ok
      obtain ⟨g1, g2, g3, g4, g5⟩ := this
      simp only [CS.u, CS.o, if_true] at *
      constructor <;> simp [putU, CS.u, CS.o] <;> omega
  · refine ⟨rfl, HZ.out.1.drew.put 4 _ ?_ ?_, (HZ.out.2.mut.drew).setCell (by simp) _⟩
    · simp [CS.cells, putU]
    · have := HZ.out.1.ok
      obtain ⟨g1, g2, g3, g4, g5⟩ := this
      simp only [CS.u, CS.o, if_false, Nat.one_ne_zero] at *
      constructor <;> simp [putU, CS.u, CS.o] <;> omega

theorem takes_room {n : Int} (h : takes S n = true) : ∃ m : Nat, n = m ∧ 1 ≤ m ∧ S.u + m + S.k ≤ S.s ∧ (m : Int) ≤ roomF S := by
  have h : 1 ≤ n ∧ n ≤ roomF S := of_decide_eq_true h
  unfold roomF at *
  exact ⟨n.toNat, by omega, by omega, by omega, by omega⟩

set_option maxHeartbeats 1000000 in
theorem ktake_any (n : Int) (w : World) (h : CTab 197 w p S) :
    Calls Try.prog 114 #[.pointer (some ⟨p, 0, none⟩), .int .i64 n] w fun e w' => e = .returned (.tuple #[.int .i64 (takeA S n), .bool (takes S n)]) ∧ CTab 197 w' p (takeS S n) ∧ Mut [p] w w' := by
  have HT : Hid (CTab 197 w p S) := h
  clear h
  cases ht : takes S n
  · simp only [takeA, takeS, ht, if_false, Bool.false_eq_true]
    by_cases h1 : n < 1
    · clear ht
      go_enter Try.func114, Try.ntmps114
      go_wp2
      go_ret2
      exact ⟨rfl, HT.out, Mut.refl _ _⟩
    · have h2 : roomF S < n := by
        simp only [takes, decide_eq_false_iff_not] at ht
        omega
      clear ht
      generalize hr : roomF S = r at h2
      have HR := kroom_any _ HT.out
      rw [hr] at HR
      clear hr
      go_enter Try.func114, Try.ntmps114
      go_wp2_with fail
      refine HR.mono ?_
      rintro e w1 ⟨rfl, k1⟩
      have H1 : Hid (CTab 197 w1 p S ∧ Kept w w1) := ⟨HT.out.kept k1, k1⟩
      clear k1
      go_wp2
      go_ret2
      exact ⟨rfl, H1.out.1, H1.out.2.mut⟩
  · simp only [takeA, takeS, ht, if_true]
    obtain ⟨m, rfl, hm1, hm2, hm3⟩ := takes_room ht
    clear ht
    have HM : Hid (S.u + m + S.k ≤ S.s) := hm2
    clear hm2
    have HR := kroom_any _ HT.out
    generalize hr : roomF S = r at hm3 HR
    clear hr
    go_enter Try.func114, Try.ntmps114
    go_wp2_with fail
    refine HR.mono ?_
    rintro e w1 ⟨rfl, k1⟩
    have H1 : Hid (CTab 197 w1 p S ∧ Kept w w1) := ⟨HT.out.kept k1, k1⟩
    clear k1
    go_wp2_with fail
    refine (kuse_any m _ H1.out.1 HM.out).mono ?_
    rintro e w2 ⟨rfl, t2, m2⟩
    have H2 : Hid (CTab 197 w2 p (putU S m) ∧ Mut [p] w w2) := ⟨t2, H1.out.2.mut.trans m2⟩
    clear t2 m2
    go_wp2
    go_ret2
    exact ⟨rfl, H2.out.1, H2.out.2⟩

theorem skips_room {n : Int} (h : skips S n = true) : ∃ m : Nat, n = m ∧ 1 ≤ m ∧ m ≤ S.k := by
  simp only [skips, decide_eq_true_eq] at h
  exact ⟨n.toNat, by omega, by omega, by omega⟩

end
end Go.Proofs.Ytiigmmmhhpdmdaa

