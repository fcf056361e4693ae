/-
  Contracts of package line: Of, First, Add.
-/
import Derived.Test.YtahpnnjemjjfhaaLineB
namespace Go.Proofs.Ytahpnnjemjjfhaa
open Go.RowKit

theorem idx_cases (p : Ent → Bool) (E : List Ent) : (idx p E = -1 ∧ E.find? p = none ∧ ∀ e ∈ E, p e = false) ∨ ∃ i : Nat, ∃ h : i < E.length, idx p E = (i : Int) ∧ E.find? p = some E[i] ∧ p E[i] = true ∧ ∀ e ∈ E.take i, p e = false := by
  cases h : E.findIdx? p with
  | none =>
    have h1 := List.findIdx?_eq_none_iff.1 h
    exact .inl ⟨by simp [idx, h], List.find?_eq_none.2 (fun e he => by simp [h1 e he]), h1⟩
  | some i =>
    obtain ⟨hi, h1, h2⟩ := List.findIdx?_eq_some_iff_getElem.1 h
    refine .inr ⟨i, hi, by simp [idx, h], ?_, h1, fun e he => ?_⟩
    · exact List.find?_eq_some_iff_getElem.2 ⟨h1, i, hi, rfl, fun j hj => by simpa using h2 j hj⟩
    · obtain ⟨j, hj, rfl⟩ := List.mem_take_iff_getElem.1 he
      simpa using h2 j (by omega)

/-- What tell answers at the place of the first of which p holds. -/
theorem ltell_any {base b : Nat} {v : Value} {E : List Ent} (p : Ent → Bool) (w : World) (h : LTab w base b v E) :
    Calls Try.prog 84 #[.pointer (some ⟨b, 0, none⟩), .int .i64 (idx p E)] w fun r w' => ∃ y d, r = .returned (.tuple #[(told (E.find? p)).agg y d, .bool (E.find? p).isSome]) ∧ Rdi w' y (told (E.find? p)).G ∧ (∀ g o, y = some ⟨g, o, none⟩ → w.heap.size ≤ g) ∧ Kept w w' := by
  rcases idx_cases p E with ⟨h1, h2, _⟩ | ⟨i, hi, h1, h2, _⟩
  · rw [h1, h2]
    refine (ltell_no (-1) w (by omega)).mono ?_
    rintro r w' ⟨rfl, k⟩
    exact ⟨none, 0, rfl, Rdi.nil, fun g o q => by simp at q, k⟩
  · rw [h1, h2]
    exact ltell_yes w h hi

set_option maxHeartbeats 1000000 in
theorem lof_aux {b : Nat} (t : Int) (i : Int) (e : Ent) (q : Bool) (w : World) (hp : ∀ w', Kept w w' → Calls Try.prog 83 #[.pointer (some ⟨b, 0, none⟩), .int .i64 t] w' fun r w2 => r = .returned (.int .i64 i) ∧ Kept w' w2)
    (ht : ∀ w', Kept w w' → Calls Try.prog 84 #[.pointer (some ⟨b, 0, none⟩), .int .i64 i] w' fun r w2 => ∃ y d, r = .returned (.tuple #[e.agg y d, .bool q]) ∧ Rdi w2 y e.G ∧ (∀ g o, y = some ⟨g, o, none⟩ → w'.heap.size ≤ g) ∧ Kept w' w2) :
    Calls Try.prog 50 #[.pointer (some ⟨b, 0, none⟩), .int .i64 t] w fun r w' => ∃ y d, r = .returned (.tuple #[e.agg y d, .bool q]) ∧ Rdi w' y e.G ∧ (∀ g o, y = some ⟨g, o, none⟩ → w.heap.size ≤ g) ∧ Kept w w' := by
  have HP : Hid _ := hp
  have HT : Hid _ := ht
  clear hp ht
  go_enter Try.func50, Try.ntmps50
  go_wp2_with fail
  generalize hW0 : w.alloc _ = W0
  have b0 : Blk W0 w.heap.size [.int .i64 0, .int .i64 0, .int .i64 0, .int .i64 0, .int .i64 0, .int .i64 0, .slice none 0 0] := by rw [← hW0]; exact Blk.new w _ _
  have k0 : Kept w W0 := by rw [← hW0]; exact (Kept.refl w).alloc _ _
  clear hW0
  refine (HP.out _ k0).mono ?_
  rintro r w1 ⟨rfl, k1⟩
  have H1 : Hid (Blk w1 w.heap.size [.int .i64 0, .int .i64 0, .int .i64 0, .int .i64 0, .int .i64 0, .int .i64 0, .slice none 0 0] ∧ Kept w w1) := ⟨b0.kept k1, k0.trans k1⟩
  clear k0 k1 b0
  go_wp2_with fail
  refine (HT.out _ H1.out.2).mono ?_
  rintro r w2 ⟨y, d, rfl, r2, f2, k2⟩
  have B0 := H1.out.1.kept k2
  have HY : Hid (Rdi w2 y e.G ∧ (∀ g o, y = some ⟨g, o, none⟩ → w.heap.size < g) ∧ Kept w w2 ∧ Blk w2 w.heap.size [.int .i64 0, .int .i64 0, .int .i64 0, .int .i64 0, .int .i64 0, .int .i64 0, .slice none 0 0]) := ⟨r2, fun g o q => by
    have h1 := f2 g o q
    have h2 := H1.out.1.lt
    omega, H1.out.2.trans k2, B0⟩
  have d0 := B0.at 0 rfl
  have d1 := B0.at 1 rfl
  have d2 := B0.at 2 rfl
  have d3 := B0.at 3 rfl
  have d4 := B0.at 4 rfl
  have d5 := B0.at 5 rfl
  have d6 := B0.at 6 rfl
  have f0 := B0.fz
  clear r2 f2 k2 B0 H1
  simp only [Ent.agg]
  go_wp2
  (try simp only [Exit.inBlock, Exit.then])
  obtain ⟨r2, f2, k2, B0⟩ := HY.out
  have B := B0.seven (.int .i64 e.th) (.int .i64 e.fr) (.int .i64 e.sp) (.int .i64 e.st) (.int .i64 e.cy) (.int .i64 e.pl) (.slice y e.G.length d)
  have K := k2.seven (b := w.heap.size) (Nat.le_refl _) (.int .i64 e.th) (.int .i64 e.fr) (.int .i64 e.sp) (.int .i64 e.st) (.int .i64 e.cy) (.int .i64 e.pl) (.slice y e.G.length d)
  have M := mut_seven (w := w2) (b := w.heap.size) (.int .i64 e.th) (.int .i64 e.fr) (.int .i64 e.sp) (.int .i64 e.st) (.int .i64 e.cy) (.int .i64 e.pl) (.slice y e.G.length d)
  unfold World.seven at B K M
  exact bodyPost_ret_by (results_blk_tmp rfl _ _ w.heap.size _ rfl B Try.underlying81 (by kernel_rfl)) rfl ⟨y, d, rfl, r2.muts M (fun g o q => by have := f2 g o q; simp; omega), fun g o q => by have := f2 g o q; omega, K⟩

theorem lof_any {base b : Nat} {v : Value} {E : List Ent} (t : Int) (w : World) (h : LTab w base b v E) :
    Calls Try.prog 50 #[.pointer (some ⟨b, 0, none⟩), .int .i64 t] w fun r w' => ∃ y d, r = .returned (.tuple #[(told (E.find? fun e => e.th == t)).agg y d, .bool (E.find? fun e => e.th == t).isSome]) ∧ Rdi w' y (told (E.find? fun e => e.th == t)).G ∧ (∀ g o, y = some ⟨g, o, none⟩ → w.heap.size ≤ g) ∧ Kept w w' :=
  lof_aux t _ _ _ w (fun w' k => lplace_any t w' (h.kept k)) (fun w' k => ltell_any _ w' (h.kept k))

set_option maxHeartbeats 1000000 in
theorem lfirst_aux {b : Nat} (i : Int) (e : Ent) (q : Bool) (w : World) (hp : ∀ w', Kept w w' → Calls Try.prog 88 #[.pointer (some ⟨b, 0, none⟩)] w' fun r w2 => r = .returned (.int .i64 i) ∧ Kept w' w2)
    (ht : ∀ w', Kept w w' → Calls Try.prog 84 #[.pointer (some ⟨b, 0, none⟩), .int .i64 i] w' fun r w2 => ∃ y d, r = .returned (.tuple #[e.agg y d, .bool q]) ∧ Rdi w2 y e.G ∧ (∀ g o, y = some ⟨g, o, none⟩ → w'.heap.size ≤ g) ∧ Kept w' w2) :
    Calls Try.prog 58 #[.pointer (some ⟨b, 0, none⟩)] w fun r w' => ∃ y d, r = .returned (.tuple #[e.agg y d, .bool q]) ∧ Rdi w' y e.G ∧ (∀ g o, y = some ⟨g, o, none⟩ → w.heap.size ≤ g) ∧ Kept w w' := by
  have HP : Hid _ := hp
  have HT : Hid _ := ht
  clear hp ht
  go_enter Try.func58, Try.ntmps58
  go_wp2_with fail
  generalize hW0 : w.alloc _ = W0
  have b0 : Blk W0 w.heap.size [.int .i64 0, .int .i64 0, .int .i64 0, .int .i64 0, .int .i64 0, .int .i64 0, .slice none 0 0] := by rw [← hW0]; exact Blk.new w _ _
  have k0 : Kept w W0 := by rw [← hW0]; exact (Kept.refl w).alloc _ _
  clear hW0
  refine (HP.out _ k0).mono ?_
  rintro r w1 ⟨rfl, k1⟩
  have H1 : Hid (Blk w1 w.heap.size [.int .i64 0, .int .i64 0, .int .i64 0, .int .i64 0, .int .i64 0, .int .i64 0, .slice none 0 0] ∧ Kept w w1) := ⟨b0.kept k1, k0.trans k1⟩
  clear k0 k1 b0
  go_wp2_with fail
  refine (HT.out _ H1.out.2).mono ?_
  rintro r w2 ⟨y, d, rfl, r2, f2, k2⟩
  have B0 := H1.out.1.kept k2
  have HY : Hid (Rdi w2 y e.G ∧ (∀ g o, y = some ⟨g, o, none⟩ → w.heap.size < g) ∧ Kept w w2 ∧ Blk w2 w.heap.size [.int .i64 0, .int .i64 0, .int .i64 0, .int .i64 0, .int .i64 0, .int .i64 0, .slice none 0 0]) := ⟨r2, fun g o q => by
    have h1 := f2 g o q
    have h2 := H1.out.1.lt
    omega, H1.out.2.trans k2, B0⟩
  have d0 := B0.at 0 rfl
  have d1 := B0.at 1 rfl
  have d2 := B0.at 2 rfl
  have d3 := B0.at 3 rfl
  have d4 := B0.at 4 rfl
  have d5 := B0.at 5 rfl
  have d6 := B0.at 6 rfl
  have f0 := B0.fz
  clear r2 f2 k2 B0 H1
  simp only [Ent.agg]
  go_wp2
  (try simp only [Exit.inBlock, Exit.then])
  obtain ⟨r2, f2, k2, B0⟩ := HY.out
  have B := B0.seven (.int .i64 e.th) (.int .i64 e.fr) (.int .i64 e.sp) (.int .i64 e.st) (.int .i64 e.cy) (.int .i64 e.pl) (.slice y e.G.length d)
  have K := k2.seven (b := w.heap.size) (Nat.le_refl _) (.int .i64 e.th) (.int .i64 e.fr) (.int .i64 e.sp) (.int .i64 e.st) (.int .i64 e.cy) (.int .i64 e.pl) (.slice y e.G.length d)
  have M := mut_seven (w := w2) (b := w.heap.size) (.int .i64 e.th) (.int .i64 e.fr) (.int .i64 e.sp) (.int .i64 e.st) (.int .i64 e.cy) (.int .i64 e.pl) (.slice y e.G.length d)
  unfold World.seven at B K M
  exact bodyPost_ret_by (results_blk_tmp rfl _ _ w.heap.size _ rfl B Try.underlying81 (by kernel_rfl)) rfl ⟨y, d, rfl, r2.muts M (fun g o q => by have := f2 g o q; simp; omega), fun g o q => by have := f2 g o q; omega, K⟩

theorem lfirst_any {base b : Nat} {v : Value} {E : List Ent} (w : World) (h : LTab w base b v E) :
    Calls Try.prog 58 #[.pointer (some ⟨b, 0, none⟩)] w fun r w' => ∃ y d, r = .returned (.tuple #[(told (E.find? fun e => e.st == 0)).agg y d, .bool (E.find? fun e => e.st == 0).isSome]) ∧ Rdi w' y (told (E.find? fun e => e.st == 0)).G ∧ (∀ g o, y = some ⟨g, o, none⟩ → w.heap.size ≤ g) ∧ Kept w w' :=
  lfirst_aux _ _ _ w (fun w' k => lhead_any w' (h.kept k)) (fun w' k => ltell_any _ w' (h.kept k))

theorem info_entry : (Try.prog.info? 109).map (fun i => (i.zero, i.size, i.bytes)) = some (some (.agg #[.int .i64 0, .int .i64 0, .int .i64 0, .int .i64 0, .int .i64 0, .int .i64 0, .slice none 0 0, .bool false]), 8, 80) := by kernel_rfl

theorem step_append_eq {P : Program} {ops : Array Oper} {o : Oper} {a : Act} {w : World} {K : Act → World → Prop} {Q : Exit → Act → World → Prop} {X : Prop}
    (hg : o.guard = none) (s x : Operand) (t : TypeId) (hop : o.op = Op.call { callee := Callee.builtin Builtin.append, args := #[s, x], argTypes := #[t, t] })
    {v u v' : Value} {w' : World} (hs : a.eval s = v) (hx : a.eval x = u) (hr : (Builtin.append_ #[t, t] o.type #[v, u]).run P w = .ok v' w') (hK : K (a.put o.dst v') w') :
    if Region.wanted o (yielded ops a.tmps) = true then Oper.wp P o a w K Q else X := by
  have hw : Region.wanted o (yielded ops a.tmps) = true := by simp [Region.wanted, hg]
  rw [if_pos hw]
  unfold Oper.wp
  simp [execOp, hop, resolve, invoke, builtin, hs, hx, hr, Result.andThen]
  exact hK

def newEnt (t f s : Int) : Ent := ⟨t, f, s, 0, 0, -1, none, 0, [], false⟩

theorem lrdr_one (w : World) (e : Ent) : Rdr Ent.c8 (w.alloc (.cells e.c8.toArray 109)) (some ⟨w.heap.size, 0, none⟩) [e] := fun _ => ⟨_, rfl, fun j u hu => by
  rw [show (⟨w.heap.size, 0, none⟩ : Addr).add j = ⟨w.heap.size, j, none⟩ by unfold Addr.add; split <;> simp_all]
  simpa using hu⟩

set_option maxHeartbeats 1000000 in
theorem ladd_no {base b : Nat} {v : Value} {E : List Ent} {t f s s3 s4 s5 : Int} {x : Option Addr} {l c : Nat} (w : World) (h : LTab w base b v E) (ht : ∃ e ∈ E, e.th = t) :
    Calls Try.prog 49 #[.pointer (some ⟨b, 0, none⟩), .agg #[.int .i64 t, .int .i64 f, .int .i64 s, .int .i64 s3, .int .i64 s4, .int .i64 s5, .slice x l c]] w fun r w' => r = .returned (.bool false) ∧ Kept w w' := by
  have HT : Hid (LTab w base b v E) := h
  have HI : Hid (idx (fun e => e.th == t) E ≥ 0) := by
    rcases idx_cases (fun e => e.th == t) E with ⟨_, _, h3⟩ | ⟨i, hi, h1, _⟩
    · obtain ⟨e, he, q⟩ := ht
      have := h3 e he
      simp [q] at this
    · show idx (fun e => e.th == t) E ≥ 0
      omega
  clear h ht
  go_enter Try.func49, Try.ntmps49
  go_wp2_with fail
  refine (lplace_any t _ (HT.out.kept ((Kept.refl w).alloc _ _))).mono ?_
  rintro r w1 ⟨rfl, k1⟩
  have H1 : Hid (Kept w w1) := k1.ofAlloc
  have hi := HI.out
  generalize idx (fun e => e.th == t) E = i at *
  clear k1
  go_wp2
  go_ret
  exact ⟨rfl, H1.out⟩

set_option maxHeartbeats 4000000 in
theorem ladd_yes {base b : Nat} {v : Value} {E : List Ent} {t f s s3 s4 s5 : Int} {x : Option Addr} {l c : Nat} (w : World) (h : LTab w base b v E) (hf : E.length < 100000) (ht : ∀ e ∈ E, e.th ≠ t) :
    Calls Try.prog 49 #[.pointer (some ⟨b, 0, none⟩), .agg #[.int .i64 t, .int .i64 f, .int .i64 s, .int .i64 s3, .int .i64 s4, .int .i64 s5, .slice x l c]] w fun r w' => r = .returned (.bool true) ∧
      ∃ v', LTab w' base b v' (E ++ [newEnt t f s]) ∧ Mut (b :: v.ownBlock.toList) w w' ∧ ∀ k, k ∈ foot b v' (E ++ [newEnt t f s]) → k ∈ foot b v E ∨ w.heap.size ≤ k := by
  have HT : Hid (LTab w base b v E ∧ E.length < 100000) := ⟨h, hf⟩
  have HI : Hid (idx (fun e => e.th == t) E = -1) := idx_none fun e he => by simpa using ht e he
  clear h ht hf
  go_enter Try.func49, Try.ntmps49
  go_wp2_with fail
  generalize hW0 : w.alloc _ = W0
  have k0 : Kept w W0 := by rw [← hW0]; exact (Kept.refl w).alloc _ _
  have b0 : Blk W0 w.heap.size [.int .i64 t, .int .i64 f, .int .i64 s, .int .i64 s3, .int .i64 s4, .int .i64 s5, .slice x l c] := by rw [← hW0]; exact Blk.new w _ _
  clear hW0
  refine (lplace_any t _ (HT.out.1.kept k0)).mono ?_
  rintro r w1 ⟨rfl, k1⟩
  rw [HI.out]
  have H1 : Hid (LTab w1 base b v E ∧ Kept w w1) := ⟨HT.out.1.kept (k0.trans k1), k0.trans k1⟩
  have B := b0.kept k1
  have d0 := B.at 0 rfl
  have d1 := B.at 1 rfl
  have d2 := B.at 2 rfl
  clear k0 k1 b0 B
  go_wp2_with fail
  generalize hW2 : w1.alloc _ = W2
  have k2 : Kept w1 W2 := by rw [← hW2]; exact (Kept.refl w1).alloc _ _
  have b2 : Blk W2 w1.heap.size [.int .i64 t, .int .i64 f, .int .i64 s, .int .i64 0, .int .i64 0, .int .i64 (-1), .slice none 0 0] := by rw [← hW2]; exact Blk.new w1 _ _
  clear hW2 d0 d1 d2
  have H2 : Hid (LTab W2.drew base b v E ∧ Kept w W2.drew) := ⟨H1.out.1.kept k2.drew, H1.out.2.trans k2.drew⟩
  obtain ⟨x0, e0, rfl⟩ := H2.out.1.ens.row.form
  have c0 : ∀ A u, (W2.alloc (.cells A u)).cell? ⟨b, 0, none⟩ = some (.slice x0 E.length e0) := fun A u => (H2.out.1.kept ((Kept.refl _).alloc A u)).c0
  have c1 : W2.cell? ⟨b, 0, none⟩ = some (.slice x0 E.length e0) := H2.out.1.c0
  obtain ⟨v', w', hrun, hrw, hmt, hfr⟩ := run_append_rw (P := Try.prog) (ts := 105) (ty := 105) (c := Ent.c8) (T := [newEnt t f s]) (d := 1) Try.underlying105 info_entry rfl (by omega) (by omega) c8len lc8_one (H2.out.1.ens.row.kept ((Kept.refl W2.drew).alloc (newEnt t f s).c8.toArray 109)) (by have h1 := H2.out.1.lo; have h2 : b < W2.heap.size := H2.out.1.ltb; simp; omega) (lrdr_one _ _) (by have := HT.out.2; simp; omega)
  have hml : ([newEnt t f s] : List Ent).length = 1 := rfl
  rw [hml] at hrun
  have hrun : (Builtin.append_ #[105, 105] 105 #[.slice x0 E.length e0, .slice (some ⟨W2.heap.size, 0, none⟩) 1 1]).run Try.prog (W2.alloc (.cells #[.int .i64 t, .int .i64 f, .int .i64 s, .int .i64 0, .int .i64 0, .int .i64 (-1), .slice none 0 0, .bool false] 109)).drew = .ok v' w' := hrun
  have O2 : Own w' b 107 [.slice x0 E.length e0] := (H2.out.1.kept ((Kept.refl W2.drew).alloc (newEnt t f s).c8.toArray 109)).head.muts hmt (by simpa using H2.out.1.ens.nb)
  have c2 := O2.blk.at 0 rfl
  have f2 := O2.blk.fz
  have m0 := b2.at 0 rfl
  have m1 := b2.at 1 rfl
  have m2 := b2.at 2 rfl
  have m3 := b2.at 3 rfl
  have m4 := b2.at 4 rfl
  have m5 := b2.at 5 rfl
  have m6 := b2.at 6 rfl
  have HR : Hid (LTab (w'.setCell ⟨b, 0, none⟩ v') base b v' (E ++ [newEnt t f s]) ∧ Mut (b :: (Value.slice x0 E.length e0).ownBlock.toList) w (w'.setCell ⟨b, 0, none⟩ v') ∧ ∀ k, k ∈ foot b v' (E ++ [newEnt t f s]) → k ∈ foot b (.slice x0 E.length e0) E ∨ w.heap.size ≤ k) := by
    have K3 := (Kept.refl W2.drew).alloc (newEnt t f s).c8.toArray 109
    have EN := (H2.out.1.ens.kept K3).turn hrw hmt (fun k hk => .inl (by simpa using hk)) hfr (fun e he => by
      rcases List.mem_append.1 he with he | he
      · exact .inl he
      · simp at he
        subst he
        exact .inr ⟨rfl, rfl⟩) (by have h2 : b < W2.heap.size := H2.out.1.ltb; simp; omega)
    refine ⟨H2.out.1.turn O2 EN (by have := HT.out.2; simp; omega), ?_, fun k hk => ?_⟩
    · exact (((H2.out.2.trans K3).mut).trans (hmt.wide fun k hk => by simp at hk ⊢; exact .inr hk)).setCell (by simp) _
    · rcases mem_foot.1 hk with rfl | hk | ⟨e, he, hk⟩
      · exact .inl (mem_foot.2 (.inl rfl))
      · rcases hfr k hk with q | q
        · exact .inl (mem_foot.2 (.inr (.inl q)))
        · have h1 := (H2.out.2.trans K3).size
          exact .inr (by omega)
      · rcases List.mem_append.1 he with he | he
        · exact .inl (mem_foot.2 (.inr (.inr ⟨e, he, hk⟩)))
        · simp at he
          subst he
          simp [newEnt, Ent.blk] at hk
  obtain ⟨x1, e1, ev⟩ := hrw.form
  rw [List.length_append, hml] at ev
  subst ev
  clear hrw hmt hfr O2 b2 k2
  go_region_law (refine step_append_eq rfl (.tmp 22) (.tmp 25) 105 rfl (by simp [Act.eval]) (by simp [Act.eval]) hrun ?_)
  all_goals go_wp2
  all_goals go_ret
  all_goals exact ⟨rfl, _, HR.out⟩
end Go.Proofs.Ytahpnnjemjjfhaa
