/-
  The modules LineC, LineD, one behind another.
-/
import Derived.Test.YtahpnnjemjjfhaaGreatM06
/-
  Contracts of package line: Of, First, Add.
-/
namespace Go.Proofs.YtahpnnjemjjfhaaGreat
open Go.RowKit

theorem idx_cases (p : Ent → Bool) (E : List Ent) : (idx p E = -1 ∧ E.find? p = none ∧ ∀ e ∈ E, p e = false) ∨ ∃ i : Nat, ∃ h : i < E.length, idx p E = (i : Int) ∧ E.find? p = some E[i] ∧ p E[i] = true ∧ ∀ e ∈ E.take i, p e = false := by
  cases h : E.findIdx? p with
  | none =>
    have h1 := List.findIdx?_eq_none_iff.1 h
    exact .inl ⟨by simp [idx, h], List.find?_eq_none.2 (fun e he => by simp [h1 e he]), h1⟩
  | some i =>
    obtain ⟨hi, h1, h2⟩ := List.findIdx?_eq_some_iff_getElem.1 h
    refine .inr ⟨i, hi, by simp [idx, h], ?_, h1, fun e he => ?_⟩
    · exact List.find?_eq_some_iff_getElem.2 ⟨h1, i, hi, rfl, fun j hj => by simpa using h2 j hj⟩
    · obtain ⟨j, hj, rfl⟩ := List.mem_take_iff_getElem.1 he
      simpa using h2 j (by omega)

/-- What tell answers at the place of the first of which p holds. -/
theorem ltell_any {base b : Nat} {v : Value} {E : List Ent} (p : Ent → Bool) (w : World) (h : LTab w base b v E) :
    Calls Tryz.prog 149 #[.pointer (some ⟨b, 0, none⟩), .int .i64 (idx p E)] w fun r w' => ∃ y d, r = .returned (.tuple #[(told (E.find? p)).agg y d, .bool (E.find? p).isSome]) ∧ Rdi w' y (told (E.find? p)).G ∧ (∀ g o, y = some ⟨g, o, none⟩ → w.heap.size ≤ g) ∧ Kept w w' := by
  rcases idx_cases p E with ⟨h1, h2, _⟩ | ⟨i, hi, h1, h2, _⟩
  · rw [h1, h2]
    refine (ltell_no (-1) w (by omega)).mono ?_
    rintro r w' ⟨rfl, k⟩
    exact ⟨none, 0, rfl, Rdi.nil, fun g o q => by simp at q, k⟩
  · rw [h1, h2]
    exact ltell_yes w h hi

set_option maxHeartbeats 1000000 in
theorem lof_aux {b : Nat} (t : Int) (i : Int) (e : Ent) (q : Bool) (w : World) (hp : ∀ w', Kept w w' → Calls Tryz.prog 139 #[.pointer (some ⟨b, 0, none⟩), .int .i64 t] w' fun r w2 => r = .returned (.int .i64 i) ∧ Kept w' w2)
    (ht : ∀ w', Kept w w' → Calls Tryz.prog 149 #[.pointer (some ⟨b, 0, none⟩), .int .i64 i] w' fun r w2 => ∃ y d, r = .returned (.tuple #[e.agg y d, .bool q]) ∧ Rdi w2 y e.G ∧ (∀ g o, y = some ⟨g, o, none⟩ → w'.heap.size ≤ g) ∧ Kept w' w2) :
    Calls Tryz.prog 106 #[.pointer (some ⟨b, 0, none⟩), .int .i64 t] w fun r w' => ∃ y d, r = .returned (.tuple #[e.agg y d, .bool q]) ∧ Rdi w' y e.G ∧ (∀ g o, y = some ⟨g, o, none⟩ → w.heap.size ≤ g) ∧ Kept w w' := by
  have HP : Hid _ := hp
  have HT : Hid _ := ht
  clear hp ht
  go_enter Tryz.func106, Tryz.ntmps106
  go_wp2_with fail
  generalize hW0 : w.alloc _ = W0
  have b0 : Blk W0 w.heap.size [.int .i64 0, .int .i64 0, .int .i64 0, .int .i64 0, .int .i64 0, .int .i64 0, .slice none 0 0] := by rw [← hW0]; exact Blk.new w _ _
  have k0 : Kept w W0 := by rw [← hW0]; exact (Kept.refl w).alloc _ _
  clear hW0
  refine (HP.out _ k0).mono ?_
  rintro r w1 ⟨rfl, k1⟩
  have H1 : Hid (Blk w1 w.heap.size [.int .i64 0, .int .i64 0, .int .i64 0, .int .i64 0, .int .i64 0, .int .i64 0, .slice none 0 0] ∧ Kept w w1) := ⟨b0.kept k1, k0.trans k1⟩
  clear k0 k1 b0
  go_wp2_with fail
  refine (HT.out _ H1.out.2).mono ?_
  rintro r w2 ⟨y, d, rfl, r2, f2, k2⟩
  have B0 := H1.out.1.kept k2
  have HY : Hid (Rdi w2 y e.G ∧ (∀ g o, y = some ⟨g, o, none⟩ → w.heap.size < g) ∧ Kept w w2 ∧ Blk w2 w.heap.size [.int .i64 0, .int .i64 0, .int .i64 0, .int .i64 0, .int .i64 0, .int .i64 0, .slice none 0 0]) := ⟨r2, fun g o q => by
    have h1 := f2 g o q
    have h2 := H1.out.1.lt
    omega, H1.out.2.trans k2, B0⟩
  have d0 := B0.at 0 rfl
  have d1 := B0.at 1 rfl
  have d2 := B0.at 2 rfl
  have d3 := B0.at 3 rfl
  have d4 := B0.at 4 rfl
  have d5 := B0.at 5 rfl
  have d6 := B0.at 6 rfl
  have f0 := B0.fz
  clear r2 f2 k2 B0 H1
  simp only [Ent.agg]
  go_wp2
  (try simp only [Exit.inBlock, Exit.then])
  obtain ⟨r2, f2, k2, B0⟩ := HY.out
  have B := B0.seven (.int .i64 e.th) (.int .i64 e.fr) (.int .i64 e.sp) (.int .i64 e.st) (.int .i64 e.cy) (.int .i64 e.pl) (.slice y e.G.length d)
  have K := k2.seven (b := w.heap.size) (Nat.le_refl _) (.int .i64 e.th) (.int .i64 e.fr) (.int .i64 e.sp) (.int .i64 e.st) (.int .i64 e.cy) (.int .i64 e.pl) (.slice y e.G.length d)
  have M := mut_seven (w := w2) (b := w.heap.size) (.int .i64 e.th) (.int .i64 e.fr) (.int .i64 e.sp) (.int .i64 e.st) (.int .i64 e.cy) (.int .i64 e.pl) (.slice y e.G.length d)
  unfold World.seven at B K M
  exact bodyPost_ret_by (results_blk_tmp rfl _ _ w.heap.size _ rfl B Tryz.underlying126 (by kernel_rfl)) rfl ⟨y, d, rfl, r2.muts M (fun g o q => by have := f2 g o q; simp; omega), fun g o q => by have := f2 g o q; omega, K⟩

theorem lof_any {base b : Nat} {v : Value} {E : List Ent} (t : Int) (w : World) (h : LTab w base b v E) :
    Calls Tryz.prog 106 #[.pointer (some ⟨b, 0, none⟩), .int .i64 t] w fun r w' => ∃ y d, r = .returned (.tuple #[(told (E.find? fun e => e.th == t)).agg y d, .bool (E.find? fun e => e.th == t).isSome]) ∧ Rdi w' y (told (E.find? fun e => e.th == t)).G ∧ (∀ g o, y = some ⟨g, o, none⟩ → w.heap.size ≤ g) ∧ Kept w w' :=
  lof_aux t _ _ _ w (fun w' k => lplace_any t w' (h.kept k)) (fun w' k => ltell_any _ w' (h.kept k))

set_option maxHeartbeats 1000000 in
theorem lfirst_aux {b : Nat} (i : Int) (e : Ent) (q : Bool) (w : World) (hp : ∀ w', Kept w w' → Calls Tryz.prog 154 #[.pointer (some ⟨b, 0, none⟩)] w' fun r w2 => r = .returned (.int .i64 i) ∧ Kept w' w2)
    (ht : ∀ w', Kept w w' → Calls Tryz.prog 149 #[.pointer (some ⟨b, 0, none⟩), .int .i64 i] w' fun r w2 => ∃ y d, r = .returned (.tuple #[e.agg y d, .bool q]) ∧ Rdi w2 y e.G ∧ (∀ g o, y = some ⟨g, o, none⟩ → w'.heap.size ≤ g) ∧ Kept w' w2) :
    Calls Tryz.prog 122 #[.pointer (some ⟨b, 0, none⟩)] w fun r w' => ∃ y d, r = .returned (.tuple #[e.agg y d, .bool q]) ∧ Rdi w' y e.G ∧ (∀ g o, y = some ⟨g, o, none⟩ → w.heap.size ≤ g) ∧ Kept w w' := by
  have HP : Hid _ := hp
  have HT : Hid _ := ht
  clear hp ht
  go_enter Tryz.func122, Tryz.ntmps122
  go_wp2_with fail
  generalize hW0 : w.alloc _ = W0
  have b0 : Blk W0 w.heap.size [.int .i64 0, .int .i64 0, .int .i64 0, .int .i64 0, .int .i64 0, .int .i64 0, .slice none 0 0] := by rw [← hW0]; exact Blk.new w _ _
  have k0 : Kept w W0 := by rw [← hW0]; exact (Kept.refl w).alloc _ _
  clear hW0
  refine (HP.out _ k0).mono ?_
  rintro r w1 ⟨rfl, k1⟩
  have H1 : Hid (Blk w1 w.heap.size [.int .i64 0, .int .i64 0, .int .i64 0, .int .i64 0, .int .i64 0, .int .i64 0, .slice none 0 0] ∧ Kept w w1) := ⟨b0.kept k1, k0.trans k1⟩
  clear k0 k1 b0
  go_wp2_with fail
  refine (HT.out _ H1.out.2).mono ?_
  rintro r w2 ⟨y, d, rfl, r2, f2, k2⟩
  have B0 := H1.out.1.kept k2
  have HY : Hid (Rdi w2 y e.G ∧ (∀ g o, y = some ⟨g, o, none⟩ → w.heap.size < g) ∧ Kept w w2 ∧ Blk w2 w.heap.size [.int .i64 0, .int .i64 0, .int .i64 0, .int .i64 0, .int .i64 0, .int .i64 0, .slice none 0 0]) := ⟨r2, fun g o q => by
    have h1 := f2 g o q
    have h2 := H1.out.1.lt
    omega, H1.out.2.trans k2, B0⟩
  have d0 := B0.at 0 rfl
  have d1 := B0.at 1 rfl
  have d2 := B0.at 2 rfl
  have d3 := B0.at 3 rfl
  have d4 := B0.at 4 rfl
  have d5 := B0.at 5 rfl
  have d6 := B0.at 6 rfl
  have f0 := B0.fz
  clear r2 f2 k2 B0 H1
  simp only [Ent.agg]
  go_wp2
  (try simp only [Exit.inBlock, Exit.then])
  obtain ⟨r2, f2, k2, B0⟩ := HY.out
  have B := B0.seven (.int .i64 e.th) (.int .i64 e.fr) (.int .i64 e.sp) (.int .i64 e.st) (.int .i64 e.cy) (.int .i64 e.pl) (.slice y e.G.length d)
  have K := k2.seven (b := w.heap.size) (Nat.le_refl _) (.int .i64 e.th) (.int .i64 e.fr) (.int .i64 e.sp) (.int .i64 e.st) (.int .i64 e.cy) (.int .i64 e.pl) (.slice y e.G.length d)
  have M := mut_seven (w := w2) (b := w.heap.size) (.int .i64 e.th) (.int .i64 e.fr) (.int .i64 e.sp) (.int .i64 e.st) (.int .i64 e.cy) (.int .i64 e.pl) (.slice y e.G.length d)
  unfold World.seven at B K M
  exact bodyPost_ret_by (results_blk_tmp rfl _ _ w.heap.size _ rfl B Tryz.underlying126 (by kernel_rfl)) rfl ⟨y, d, rfl, r2.muts M (fun g o q => by have := f2 g o q; simp; omega), fun g o q => by have := f2 g o q; omega, K⟩

theorem lfirst_any {base b : Nat} {v : Value} {E : List Ent} (w : World) (h : LTab w base b v E) :
    Calls Tryz.prog 122 #[.pointer (some ⟨b, 0, none⟩)] w fun r w' => ∃ y d, r = .returned (.tuple #[(told (E.find? fun e => e.st == 0)).agg y d, .bool (E.find? fun e => e.st == 0).isSome]) ∧ Rdi w' y (told (E.find? fun e => e.st == 0)).G ∧ (∀ g o, y = some ⟨g, o, none⟩ → w.heap.size ≤ g) ∧ Kept w w' :=
  lfirst_aux _ _ _ w (fun w' k => lhead_any w' (h.kept k)) (fun w' k => ltell_any _ w' (h.kept k))

theorem info_entry : (Tryz.prog.info? 146).map (fun i => (i.zero, i.size, i.bytes)) = some (some (.agg #[.int .i64 0, .int .i64 0, .int .i64 0, .int .i64 0, .int .i64 0, .int .i64 0, .slice none 0 0, .bool false]), 8, 80) := by kernel_rfl

theorem step_append_eq {P : Program} {ops : Array Oper} {o : Oper} {a : Act} {w : World} {K : Act → World → Prop} {Q : Exit → Act → World → Prop} {X : Prop}
    (hg : o.guard = none) (s x : Operand) (t : TypeId) (hop : o.op = Op.call { callee := Callee.builtin Builtin.append, args := #[s, x], argTypes := #[t, t] })
    {v u v' : Value} {w' : World} (hs : a.eval s = v) (hx : a.eval x = u) (hr : (Builtin.append_ #[t, t] o.type #[v, u]).run P w = .ok v' w') (hK : K (a.put o.dst v') w') :
    if Region.wanted o (yielded ops a.tmps) = true then Oper.wp P o a w K Q else X := by
  have hw : Region.wanted o (yielded ops a.tmps) = true := by simp [Region.wanted, hg]
  rw [if_pos hw]
  unfold Oper.wp
  simp [execOp, hop, resolve, invoke, builtin, hs, hx, hr, Result.andThen]
  exact hK

def newEnt (t f s : Int) : Ent := ⟨t, f, s, 0, 0, -1, none, 0, [], false⟩

theorem lrdr_one (w : World) (e : Ent) : Rdr Ent.c8 (w.alloc (.cells e.c8.toArray 146)) (some ⟨w.heap.size, 0, none⟩) [e] := fun _ => ⟨_, rfl, fun j u hu => by
  rw [show (⟨w.heap.size, 0, none⟩ : Addr).add j = ⟨w.heap.size, j, none⟩ by unfold Addr.add; split <;> simp_all]
  simpa using hu⟩

set_option maxHeartbeats 1000000 in
theorem ladd_no {base b : Nat} {v : Value} {E : List Ent} {t f s s3 s4 s5 : Int} {x : Option Addr} {l c : Nat} (w : World) (h : LTab w base b v E) (ht : ∃ e ∈ E, e.th = t) :
    Calls Tryz.prog 85 #[.pointer (some ⟨b, 0, none⟩), .agg #[.int .i64 t, .int .i64 f, .int .i64 s, .int .i64 s3, .int .i64 s4, .int .i64 s5, .slice x l c]] w fun r w' => r = .returned (.bool false) ∧ Kept w w' := by
  have HT : Hid (LTab w base b v E) := h
  have HI : Hid (idx (fun e => e.th == t) E ≥ 0) := by
    rcases idx_cases (fun e => e.th == t) E with ⟨_, _, h3⟩ | ⟨i, hi, h1, _⟩
    · obtain ⟨e, he, q⟩ := ht
      have := h3 e he
      simp [q] at this
    · show idx (fun e => e.th == t) E ≥ 0
      omega
  clear h ht
  go_enter Tryz.func85, Tryz.ntmps85
  go_wp2_with fail
  refine (lplace_any t _ (HT.out.kept ((Kept.refl w).alloc _ _))).mono ?_
  rintro r w1 ⟨rfl, k1⟩
  have H1 : Hid (Kept w w1) := k1.ofAlloc
  have hi := HI.out
  generalize idx (fun e => e.th == t) E = i at *
  clear k1
  go_wp2
  go_ret
  exact ⟨rfl, H1.out⟩

set_option maxHeartbeats 4000000 in
theorem ladd_yes {base b : Nat} {v : Value} {E : List Ent} {t f s s3 s4 s5 : Int} {x : Option Addr} {l c : Nat} (w : World) (h : LTab w base b v E) (hf : E.length < 100000) (ht : ∀ e ∈ E, e.th ≠ t) :
    Calls Tryz.prog 85 #[.pointer (some ⟨b, 0, none⟩), .agg #[.int .i64 t, .int .i64 f, .int .i64 s, .int .i64 s3, .int .i64 s4, .int .i64 s5, .slice x l c]] w fun r w' => r = .returned (.bool true) ∧
      ∃ v', LTab w' base b v' (E ++ [newEnt t f s]) ∧ Mut (b :: v.ownBlock.toList) w w' ∧ ∀ k, k ∈ foot b v' (E ++ [newEnt t f s]) → k ∈ foot b v E ∨ w.heap.size ≤ k := by
  have HT : Hid (LTab w base b v E ∧ E.length < 100000) := ⟨h, hf⟩
  have HI : Hid (idx (fun e => e.th == t) E = -1) := idx_none fun e he => by simpa using ht e he
  clear h ht hf
  go_enter Tryz.func85, Tryz.ntmps85
  go_wp2_with fail
  generalize hW0 : w.alloc _ = W0
  have k0 : Kept w W0 := by rw [← hW0]; exact (Kept.refl w).alloc _ _
  have b0 : Blk W0 w.heap.size [.int .i64 t, .int .i64 f, .int .i64 s, .int .i64 s3, .int .i64 s4, .int .i64 s5, .slice x l c] := by rw [← hW0]; exact Blk.new w _ _
  clear hW0
  refine (lplace_any t _ (HT.out.1.kept k0)).mono ?_
  rintro r w1 ⟨rfl, k1⟩
  rw [HI.out]
  have H1 : Hid (LTab w1 base b v E ∧ Kept w w1) := ⟨HT.out.1.kept (k0.trans k1), k0.trans k1⟩
  have B := b0.kept k1
  have d0 := B.at 0 rfl
  have d1 := B.at 1 rfl
  have d2 := B.at 2 rfl
  clear k0 k1 b0 B
  go_wp2_with fail
  generalize hW2 : w1.alloc _ = W2
  have k2 : Kept w1 W2 := by rw [← hW2]; exact (Kept.refl w1).alloc _ _
  have b2 : Blk W2 w1.heap.size [.int .i64 t, .int .i64 f, .int .i64 s, .int .i64 0, .int .i64 0, .int .i64 (-1), .slice none 0 0] := by rw [← hW2]; exact Blk.new w1 _ _
  clear hW2 d0 d1 d2
  have H2 : Hid (LTab W2.drew base b v E ∧ Kept w W2.drew) := ⟨H1.out.1.kept k2.drew, H1.out.2.trans k2.drew⟩
  obtain ⟨x0, e0, rfl⟩ := H2.out.1.ens.row.form
  have c0 : ∀ A u, (W2.alloc (.cells A u)).cell? ⟨b, 0, none⟩ = some (.slice x0 E.length e0) := fun A u => (H2.out.1.kept ((Kept.refl _).alloc A u)).c0
  have c1 : W2.cell? ⟨b, 0, none⟩ = some (.slice x0 E.length e0) := H2.out.1.c0
  obtain ⟨v', w', hrun, hrw, hmt, hfr⟩ := run_append_rw (P := Tryz.prog) (ts := 132) (ty := 132) (c := Ent.c8) (T := [newEnt t f s]) (d := 1) Tryz.underlying132 info_entry rfl (by omega) (by omega) c8len lc8_one (H2.out.1.ens.row.kept ((Kept.refl W2.drew).alloc (newEnt t f s).c8.toArray 146)) (by have h1 := H2.out.1.lo; have h2 : b < W2.heap.size := H2.out.1.ltb; simp; omega) (lrdr_one _ _) (by have := HT.out.2; simp; omega)
  have hml : ([newEnt t f s] : List Ent).length = 1 := rfl
  rw [hml] at hrun
  have hrun : (Builtin.append_ #[132, 132] 132 #[.slice x0 E.length e0, .slice (some ⟨W2.heap.size, 0, none⟩) 1 1]).run Tryz.prog (W2.alloc (.cells #[.int .i64 t, .int .i64 f, .int .i64 s, .int .i64 0, .int .i64 0, .int .i64 (-1), .slice none 0 0, .bool false] 146)).drew = .ok v' w' := hrun
  have O2 : Own w' b 134 [.slice x0 E.length e0] := (H2.out.1.kept ((Kept.refl W2.drew).alloc (newEnt t f s).c8.toArray 146)).head.muts hmt (by simpa using H2.out.1.ens.nb)
  have c2 := O2.blk.at 0 rfl
  have f2 := O2.blk.fz
  have m0 := b2.at 0 rfl
  have m1 := b2.at 1 rfl
  have m2 := b2.at 2 rfl
  have m3 := b2.at 3 rfl
  have m4 := b2.at 4 rfl
  have m5 := b2.at 5 rfl
  have m6 := b2.at 6 rfl
  have HR : Hid (LTab (w'.setCell ⟨b, 0, none⟩ v') base b v' (E ++ [newEnt t f s]) ∧ Mut (b :: (Value.slice x0 E.length e0).ownBlock.toList) w (w'.setCell ⟨b, 0, none⟩ v') ∧ ∀ k, k ∈ foot b v' (E ++ [newEnt t f s]) → k ∈ foot b (.slice x0 E.length e0) E ∨ w.heap.size ≤ k) := by
    have K3 := (Kept.refl W2.drew).alloc (newEnt t f s).c8.toArray 146
    have EN := (H2.out.1.ens.kept K3).turn hrw hmt (fun k hk => .inl (by simpa using hk)) hfr (fun e he => by
      rcases List.mem_append.1 he with he | he
      · exact .inl he
      · simp at he
        subst he
        exact .inr ⟨rfl, rfl⟩) (by have h2 : b < W2.heap.size := H2.out.1.ltb; simp; omega)
    refine ⟨H2.out.1.turn O2 EN (by have := HT.out.2; simp; omega), ?_, fun k hk => ?_⟩
    · exact (((H2.out.2.trans K3).mut).trans (hmt.wide fun k hk => by simp at hk ⊢; exact .inr hk)).setCell (by simp) _
    · rcases mem_foot.1 hk with rfl | hk | ⟨e, he, hk⟩
      · exact .inl (mem_foot.2 (.inl rfl))
      · rcases hfr k hk with q | q
        · exact .inl (mem_foot.2 (.inr (.inl q)))
        · have h1 := (H2.out.2.trans K3).size
          exact .inr (by omega)
      · rcases List.mem_append.1 he with he | he
        · exact .inl (mem_foot.2 (.inr (.inr ⟨e, he, hk⟩)))
        · simp at he
          subst he
          simp [newEnt, Ent.blk] at hk
  obtain ⟨x1, e1, ev⟩ := hrw.form
  rw [List.length_append, hml] at ev
  subst ev
  clear hrw hmt hfr O2 b2 k2
  go_region_law (refine step_append_eq rfl (.tmp 22) (.tmp 25) 132 rfl (by simp [Act.eval]) (by simp [Act.eval]) hrun ?_)
  all_goals go_wp2
  all_goals go_ret
  all_goals exact ⟨rfl, _, HR.out⟩
end Go.Proofs.YtahpnnjemjjfhaaGreat

/-
  Contracts of package line: Waits, Grant, Fail, Begin, End.
-/
namespace Go.Proofs.YtahpnnjemjjfhaaGreat
open Go.RowKit

/-- Those that wait. -/
def wts (E : List Ent) : List Ent := E.filter fun e => e.st == 0
theorem wts_more {E : List Ent} {k : Nat} (hk : k < E.length) : (wts (E.take (k + 1))).length = (wts (E.take k)).length + (if E[k].st == 0 then 1 else 0) := by
  rw [List.take_succ_eq_append_getElem hk]
  unfold wts
  rw [List.filter_append, List.length_append]
  by_cases h : (E[k].st == 0) = true
  · simp [h]
  · simp [h]
theorem wts_le (E : List Ent) : (wts E).length ≤ E.length := List.length_filter_le _ _

set_option maxHeartbeats 1000000 in
theorem lwaits_any {base b : Nat} {v : Value} {E : List Ent} (w : World) (h : LTab w base b v E) :
    Calls Tryz.prog 74 #[.pointer (some ⟨b, 0, none⟩)] w fun r w' => r = .returned (.int .i64 ((wts E).length : Int)) ∧ Kept w w' := by
  have HT : Hid (LTab w base b v E) := h
  obtain ⟨x, d, rfl⟩ := h.ens.row.form
  have b0 := h.c0
  have hl := h.few
  clear h
  go_enter Tryz.func74, Tryz.ntmps74
  go_wp2
  clear b0
  go_loopg [3, 11] E.length (fun m n i wr => ∃ k : Nat, i = .int .i64 k ∧ k ≤ E.length ∧ m = E.length - k ∧ ∃ c : Nat, n = .int .i64 c ∧ c ≤ k ∧ Hid (c = (wts (E.take k)).length ∧ Kept w wr))
  case atStart => exact ⟨0, rfl, by omega, by omega, 0, rfl, by omega, by simp [wts], Kept.refl _⟩
  case round =>
    obtain ⟨k, rfl, hk, hm, c, rfl, hc, hw⟩ := hrel
    have HM : Hid _ := hm
    clear hm
    by_cases hlt : k < E.length
    · obtain ⟨g, cap, ev, _, hg, _⟩ := HT.out.ens.row.here (by omega)
      obtain ⟨rfl, _, rfl⟩ := Value.slice.inj ev
      obtain ⟨c0, c1, c2, c3, c4, c5, c6, c7⟩ := (HT.out.ens.row.kept hw.out.2).eight hlt
      have HC : Hid _ := wts_more hlt
      clear ev
      generalize E[k] = e at *
      go_wp2_with fail
      refine (lwaits_one e _).mono ?_
      rintro r w2 ⟨rfl, k2⟩
      have H2 : Hid (Kept w w2) := hw.out.2.trans k2.ofAlloc
      clear k2 c0 c1 c2 c3 c4 c5 c6 c7
      cases hs : (e.st == 0)
      · have HE : Hid (c = (wts (E.take (k + 1))).length) := by
          have h1 := HC.out
          rw [hs] at h1
          simp at h1
          exact hw.out.1.trans h1.symm
        go_wp2
        go_roundg (gk - 1)
        all_goals (have := HM.out; try omega)
        exact ⟨k + 1, by go_num, by omega, by omega, c, rfl, by omega, HE.out, H2.out⟩
      · have HE : Hid (c + 1 = (wts (E.take (k + 1))).length) := by
          have h1 := HC.out
          rw [hs] at h1
          simp at h1
          show c + 1 = _
          rw [h1, hw.out.1]
        go_wp2
        go_roundg (gk - 1)
        all_goals (have := HM.out; try omega)
        exact ⟨k + 1, by go_num, by omega, by omega, c + 1, by go_num, by omega, HE.out, H2.out⟩
    · obtain rfl : k = E.length := by omega
      have HN : Hid (c = (wts E).length) := by have := hw.out.1; rwa [List.take_length] at this
      go_wp2
      go_ret
      exact ⟨by rw [← HN.out]; rfl, hw.out.2⟩

section
variable {w w' : World} {base b g n d : Nat} {E : List Ent}
theorem LTab.ng (h : LTab w base b (.slice (some ⟨g, 0, none⟩) n d) E) : g ≠ b := fun q => h.ens.nb (by simp [Value.ownBlock, q])
/-- One cell of one request is laid anew. -/
theorem LTab.set (h : LTab w base b (.slice (some ⟨g, 0, none⟩) n d) E) {i j : Nat} (hi : i < E.length) (hj : j < 8) {e' : Ent} {u : Value} (hu : e'.c8 = E[i].c8.set j u)
    (hg : (e'.gx = E[i].gx ∧ e'.G = E[i].G) ∨ (Rdi w e'.gx e'.G ∧ e'.G.length ≤ 100000 ∧ ∀ k, e'.blk = some k → base ≤ k ∧ k < w.heap.size ∧ k ≠ b ∧ k ≠ g)) :
    LTab (w.setCell ⟨g, i * 8 + j, none⟩ u) base b (.slice (some ⟨g, 0, none⟩) n d) (E.set i e') :=
  ⟨h.head.set_other h.ng u, h.ens.set c8len hi hj hu hg, h.lo, by simpa using h.few⟩
theorem gots_set {e' : Ent} {i : Nat} {k : Nat} {v : Value} (hk : k ∈ foot b v (E.set i e')) : k ∈ foot b v E ∨ e'.blk = some k := by
  rcases mem_foot.1 hk with h1 | h1 | ⟨e, he, h1⟩
  · exact .inl (mem_foot.2 (.inl h1))
  · exact .inl (mem_foot.2 (.inr (.inl h1)))
  · rcases List.mem_or_eq_of_mem_set he with he | rfl
    · exact .inl (mem_foot.2 (.inr (.inr ⟨e, he, h1⟩)))
    · exact .inr h1
end

set_option maxHeartbeats 1000000 in
theorem lgrant_no {base b : Nat} {v : Value} {E : List Ent} {x : Option Addr} {l c : Nat} {p : Int} (w : World) (h : LTab w base b v E) (hi : idx (fun e => e.st == 0) E = -1) :
    Calls Tryz.prog 123 #[.pointer (some ⟨b, 0, none⟩), .slice x l c, .int .i64 p] w fun r w' => r = .returned (.bool false) ∧ Kept w w' := by
  have C := lhead_any w h
  rw [hi] at C
  clear hi h
  go_enter Tryz.func123, Tryz.ntmps123
  go_wp2_with fail
  refine C.mono ?_
  rintro r w1 ⟨rfl, k1⟩
  have H1 : Hid (Kept w w1) := k1
  clear k1 C
  go_wp2
  go_ret
  exact ⟨rfl, H1.out⟩

set_option maxHeartbeats 1000000 in
theorem lfail_no {base b : Nat} {v : Value} {E : List Ent} (w : World) (h : LTab w base b v E) (hi : idx (fun e => e.st == 0) E = -1) :
    Calls Tryz.prog 124 #[.pointer (some ⟨b, 0, none⟩)] w fun r w' => r = .returned (.bool false) ∧ Kept w w' := by
  have C := lhead_any w h
  rw [hi] at C
  clear hi h
  go_enter Tryz.func124, Tryz.ntmps124
  go_wp2_with fail
  refine C.mono ?_
  rintro r w1 ⟨rfl, k1⟩
  have H1 : Hid (Kept w w1) := k1
  clear k1 C
  go_wp2
  go_ret
  exact ⟨rfl, H1.out⟩

set_option maxHeartbeats 1000000 in
theorem lfail_yes {base b : Nat} {v : Value} {E : List Ent} {i : Nat} (w : World) (h : LTab w base b v E) (hl : i < E.length) (hi : idx (fun e => e.st == 0) E = (i : Int)) :
    Calls Tryz.prog 124 #[.pointer (some ⟨b, 0, none⟩)] w fun r w' => r = .returned (.bool true) ∧ LTab w' base b v (E.set i { E[i] with st := 2 }) ∧ Mut (b :: v.ownBlock.toList) w w' ∧ ∀ k, k ∈ foot b v (E.set i { E[i] with st := 2 }) → k ∈ foot b v E ∨ w.heap.size ≤ k := by
  have C := lhead_any w h
  rw [hi] at C
  obtain ⟨g, cap, rfl, _, hg, _⟩ := h.ens.row.here (by omega)
  have hf := h.few
  have HT : Hid (LTab w base b (.slice (some ⟨g, 0, none⟩) E.length cap) E) := h
  clear hi h
  go_enter Tryz.func124, Tryz.ntmps124
  go_wp2_with fail
  refine C.mono ?_
  rintro r w1 ⟨rfl, k1⟩
  have H1 : Hid (LTab w1 base b (.slice (some ⟨g, 0, none⟩) E.length cap) E ∧ Kept w w1) := ⟨HT.out.kept k1, k1⟩
  have HR : Hid (LTab (w1.setCell ⟨g, i * 8 + 3, none⟩ (.int .i64 2)) base b (.slice (some ⟨g, 0, none⟩) E.length cap) (E.set i { E[i] with st := 2 })) := H1.out.1.set hl (by omega) rfl (.inl ⟨rfl, rfl⟩)
  have HG : Hid (∀ k, k ∈ foot b (.slice (some ⟨g, 0, none⟩) E.length cap) (E.set i { E[i] with st := 2 }) → k ∈ foot b (.slice (some ⟨g, 0, none⟩) E.length cap) E ∨ w.heap.size ≤ k) := fun k hk => by
    rcases gots_set hk with q | q
    · exact .inl q
    · exact .inl (mem_foot.2 (.inr (.inr ⟨E[i], List.getElem_mem hl, q⟩)))
  have b0 := H1.out.1.c0
  have f0 := H1.out.1.ens.row.fz
  obtain ⟨-, -, -, c3, -⟩ := H1.out.1.ens.row.eight hl
  have e0 : ¬ (i : Int) < 0 := by omega
  have e1 : (i : Int) < (E.length : Int) := by omega
  clear k1 C
  go_wp2
  go_ret
  exact ⟨rfl, HR.out, H1.out.2.mut.setCell (by simp [Value.ownBlock]) _, HG.out⟩

set_option maxHeartbeats 2000000 in
theorem lgrant_yes {base b : Nat} {v : Value} {E : List Ent} {i : Nat} {x : Option Addr} {c : Nat} {N : List Int} {p : Int} (w : World) (h : LTab w base b v E) (hl : i < E.length) (hi : idx (fun e => e.st == 0) E = (i : Int)) (hx : Rdi w x N) (hN : N.length ≤ 100000) :
    Calls Tryz.prog 123 #[.pointer (some ⟨b, 0, none⟩), .slice x N.length c, .int .i64 p] w fun r w' => r = .returned (.bool true) ∧ ∃ y d, LTab w' base b v (E.set i { E[i] with st := 1, pl := p, gx := y, gc := d, G := N }) ∧ Mut (b :: v.ownBlock.toList) w w' ∧ ∀ k, k ∈ foot b v (E.set i { E[i] with st := 1, pl := p, gx := y, gc := d, G := N }) → k ∈ foot b v E ∨ w.heap.size ≤ k := by
  have C := lhead_any w h
  rw [hi] at C
  obtain ⟨g, cap, rfl, _, hg, _⟩ := h.ens.row.here (by omega)
  have hf := h.few
  have HT : Hid (LTab w base b (.slice (some ⟨g, 0, none⟩) E.length cap) E ∧ Rdi w x N ∧ N.length ≤ 100000) := ⟨h, hx, hN⟩
  clear hi h hx hN
  go_enter Tryz.func123, Tryz.ntmps123
  go_wp2_with fail
  refine C.mono ?_
  rintro r w1 ⟨rfl, k1⟩
  have H1 : Hid (LTab w1 base b (.slice (some ⟨g, 0, none⟩) E.length cap) E ∧ Kept w w1) := ⟨HT.out.1.kept k1, k1⟩
  have b0 := H1.out.1.c0
  have e0 : ¬ (i : Int) < 0 := by omega
  have e1 : (i : Int) < (E.length : Int) := by omega
  clear k1 C
  go_wp2_with fail
  refine (lcopied_any _ (HT.out.2.1.kept H1.out.2) (by have := HT.out.2.2; omega)).mono ?_
  rintro r w2 ⟨y, d, rfl, l2, k2⟩
  have T2 := H1.out.1.kept k2
  have hw1 : w.heap.size ≤ w1.heap.size := H1.out.2.size
  have hgw : g < w1.heap.size := by omega
  have hbw : b < w1.heap.size := H1.out.1.ltb
  have R1 := T2.set (e' := { E[i] with st := 1 }) hl (j := 3) (u := .int .i64 1) (by omega) rfl (.inl ⟨rfl, rfl⟩)
  have R2 := R1.set (i := i) (e' := { E[i] with st := 1, pl := p }) (by simpa using hl) (j := 5) (u := .int .i64 p) (by omega) (by simp [Ent.c8]) (.inl (by simp))
  have R3 := R2.set (i := i) (e' := { E[i] with st := 1, pl := p, gx := y, gc := d, G := N }) (by simpa using hl) (j := 6) (u := .slice y N.length d) (by omega) (by simp [Ent.c8]) (.inr ⟨by
      have q : Mut [g] w2 ((w2.setCell ⟨g, i * 8 + 3, none⟩ (.int .i64 1)).setCell ⟨g, i * 8 + 5, none⟩ (.int .i64 p)) := ((Mut.refl _ _).setCell (by simp) _).setCell (by simp) _
      exact l2.rdi.muts q (fun g' o q => by
        have := (l2.lt g' (by rw [q]; rfl)).1
        simp
        omega), HT.out.2.2, fun k hk => by
      have hk' : (Value.slice y N.length d).ownBlock = some k := by
        cases y with
        | none => simp [Ent.blk] at hk
        | some a => simpa [Ent.blk, Value.ownBlock] using hk
      have h1 := l2.lt k hk'
      have h2 := T2.lo
      exact ⟨by omega, by simpa using h1.2, by omega, by omega⟩⟩)
  simp only [List.set_set] at R3
  have HR : Hid _ := R3
  have HK : Hid (Kept w w2) := H1.out.2.trans k2
  have HG : Hid (∀ k, k ∈ foot b (.slice (some ⟨g, 0, none⟩) E.length cap) (E.set i { E[i] with st := 1, pl := p, gx := y, gc := d, G := N }) → k ∈ foot b (.slice (some ⟨g, 0, none⟩) E.length cap) E ∨ w.heap.size ≤ k) := fun k hk => by
    rcases gots_set hk with q | q
    · exact .inl q
    · have hk' : (Value.slice y N.length d).ownBlock = some k := by
        cases y with
        | none => simp [Ent.blk] at q
        | some a => simpa [Ent.blk, Value.ownBlock] using q
      have h1 := l2.lt k hk'
      exact .inr (by omega)
  have f0 := T2.ens.row.fz
  obtain ⟨-, -, -, c3, -, c5, c6, -⟩ := T2.ens.row.eight hl
  clear R1 R2 R3 T2 k2 l2 b0
  go_wp2
  go_ret
  exact ⟨rfl, y, d, HR.out, ((HK.out.mut.setCell (by simp [Value.ownBlock]) _).setCell (by simp [Value.ownBlock]) _).setCell (by simp [Value.ownBlock]) _, HG.out⟩

/-- The first k are turned by f. -/
def upd (f : Ent → Ent) (k : Nat) (E : List Ent) : List Ent := (E.take k).map f ++ E.drop k
section
variable {f : Ent → Ent} {k : Nat} {E : List Ent}
theorem upd_zero : upd f 0 E = E := by simp [upd]
theorem upd_all : upd f E.length E = E.map f := by simp [upd]
theorem upd_len : (upd f k E).length = E.length := by simp [upd]; omega
theorem upd_get (hk : k < E.length) : (upd f k E)[k]'(by rw [upd_len]; exact hk) = E[k] := by
  unfold upd
  rw [List.getElem_append_right (by simp; omega)]
  simp [Nat.min_eq_left (Nat.le_of_lt hk)]
theorem upd_set (hk : k < E.length) : (upd f k E).set k (f E[k]) = upd f (k + 1) E := by
  unfold upd
  have e1 : k - ((E.take k).map f).length = 0 := by simp; omega
  rw [List.set_append_right _ _ (by simp; omega), e1, List.drop_eq_getElem_cons hk, List.set_cons_zero, List.take_succ_eq_append_getElem hk, List.map_append]
  simp only [List.map_cons, List.map_nil, List.append_assoc, List.cons_append, List.nil_append]
theorem foot_upd {b : Nat} {v : Value} (hf : ∀ e, (f e).gx = e.gx) {j : Nat} (hj : j ∈ foot b v (E.map f)) : j ∈ foot b v E := by
  rcases mem_foot.1 hj with h | h | ⟨e, he, h⟩
  · exact mem_foot.2 (.inl h)
  · exact mem_foot.2 (.inr (.inl h))
  · obtain ⟨e0, he0, rfl⟩ := List.mem_map.1 he
    exact mem_foot.2 (.inr (.inr ⟨e0, he0, by simpa [Ent.blk, hf] using h⟩))
end

def noteE (e : Ent) : Ent := { e with nt := e.st == 0 }
def endE (e : Ent) : Ent := { e with cy := if e.nt && e.st == 0 then e.cy + 1 else e.cy, nt := false }

set_option maxHeartbeats 2000000 in
theorem lbegin_any {base b : Nat} {v : Value} {E : List Ent} (w : World) (h : LTab w base b v E) :
    Calls Tryz.prog 114 #[.pointer (some ⟨b, 0, none⟩)] w fun r w' => r = .returned (.tuple #[]) ∧ LTab w' base b v (E.map noteE) ∧ Mut (b :: v.ownBlock.toList) w w' := by
  obtain ⟨x, d, rfl⟩ := h.ens.row.form
  have b0 := h.c0
  have hl := h.few
  have HT : Hid (LTab w base b (.slice x E.length d) E) := h
  clear h
  go_enter Tryz.func114, Tryz.ntmps114
  go_wp2
  clear b0
  go_loopg [9] E.length (fun m i wr => ∃ k : Nat, i = .int .i64 k ∧ k ≤ E.length ∧ m = E.length - k ∧ Hid (LTab wr base b (.slice x E.length d) (upd noteE k E) ∧ Mut (b :: (Value.slice x E.length d).ownBlock.toList) w wr))
  case atStart => exact ⟨0, rfl, by omega, by omega, by rw [upd_zero]; exact HT.out, Mut.refl _ _⟩
  case round =>
    obtain ⟨k, rfl, hk, hm, hw⟩ := hrel
    have HM : Hid _ := hm
    clear hm
    by_cases hlt : k < E.length
    · obtain ⟨g, cap, ev, _, hg, _⟩ := HT.out.ens.row.here (by omega)
      obtain ⟨rfl, _, rfl⟩ := Value.slice.inj ev
      have hlt2 : k < (upd noteE k E).length := by rw [upd_len]; exact hlt
      have cc := hw.out.1.ens.row.eight hlt2
      rw [upd_get hlt] at cc
      obtain ⟨c0, c1, c2, c3, c4, c5, c6, c7⟩ := cc
      have b0 := hw.out.1.c0
      have HS : Hid (∀ w2, Kept wr w2 → LTab (w2.setCell ⟨g, k * 8 + 7, none⟩ (.bool (E[k].st == 0))) base b (.slice (some ⟨g, 0, none⟩) E.length d) (upd noteE (k + 1) E)) := fun w2 k2 => by
        have := (hw.out.1.kept k2).set hlt2 (j := 7) (e' := noteE E[k]) (u := .bool (E[k].st == 0)) (by omega) (by rw [upd_get hlt]; rfl) (.inl (by rw [upd_get hlt]; exact ⟨rfl, rfl⟩))
        rwa [upd_set hlt] at this
      have e1 : (k : Int) < (E.length : Int) := by omega
      clear ev
      generalize E[k] = e at *
      go_wp2_with fail
      refine (lwaits_one e _).mono ?_
      rintro r w2 ⟨rfl, k2⟩
      have H2 : Hid (LTab (w2.setCell ⟨g, k * 8 + 7, none⟩ (.bool (e.st == 0))) base b (.slice (some ⟨g, 0, none⟩) E.length d) (upd noteE (k + 1) E) ∧ Mut (b :: (Value.slice (some ⟨g, 0, none⟩) E.length d).ownBlock.toList) w (w2.setCell ⟨g, k * 8 + 7, none⟩ (.bool (e.st == 0)))) := ⟨HS.out w2 k2, (hw.out.2.trans k2.mut).setCell (by simp [Value.ownBlock]) _⟩
      have T2 := hw.out.1.kept k2
      have f0 := T2.ens.row.fz
      have d7 := (k2.cell (a := ⟨g, k * 8 + 7, none⟩) (by have := hw.out.2.size; show g < wr.heap.size; omega)).trans c7
      clear k2 c0 c1 c2 c3 c4 c5 c6 c7 b0 T2
      go_wp2
      go_roundg (gk - 1)
      all_goals (have := HM.out; try omega)
      exact ⟨k + 1, by go_num, by omega, by omega, H2.out⟩
    · obtain rfl : k = E.length := by omega
      have HN : Hid (LTab wr base b (.slice x E.length d) (E.map noteE)) := by have := hw.out.1; rwa [upd_all] at this
      go_wp2
      go_end0
      exact ⟨rfl, HN.out, hw.out.2⟩
set_option maxHeartbeats 4000000 in
theorem lend_any {base b : Nat} {v : Value} {E : List Ent} (w : World) (h : LTab w base b v E) (hcy : ∀ e ∈ E, 0 ≤ e.cy ∧ e.cy ≤ 1000000) :
    Calls Tryz.prog 120 #[.pointer (some ⟨b, 0, none⟩)] w fun r w' => r = .returned (.tuple #[]) ∧ LTab w' base b v (E.map endE) ∧ Mut (b :: v.ownBlock.toList) w w' := by
  obtain ⟨x, d, rfl⟩ := h.ens.row.form
  have b0 := h.c0
  have hl := h.few
  have HT : Hid (LTab w base b (.slice x E.length d) E) := h
  have HY : Hid _ := hcy
  clear h hcy
  go_enter Tryz.func120, Tryz.ntmps120
  go_wp2
  clear b0
  go_loopg [9] E.length (fun m i wr => ∃ k : Nat, i = .int .i64 k ∧ k ≤ E.length ∧ m = E.length - k ∧ Hid (LTab wr base b (.slice x E.length d) (upd endE k E) ∧ Mut (b :: (Value.slice x E.length d).ownBlock.toList) w wr))
  case atStart => exact ⟨0, rfl, by omega, by omega, by rw [upd_zero]; exact HT.out, Mut.refl _ _⟩
  case round =>
    obtain ⟨k, rfl, hk, hm, hw⟩ := hrel
    have HM : Hid _ := hm
    clear hm
    by_cases hlt : k < E.length
    · obtain ⟨g, cap, ev, _, hg, _⟩ := HT.out.ens.row.here (by omega)
      obtain ⟨rfl, _, rfl⟩ := Value.slice.inj ev
      have hlt2 : k < (upd endE k E).length := by rw [upd_len]; exact hlt
      have cc := hw.out.1.ens.row.eight hlt2
      rw [upd_get hlt] at cc
      obtain ⟨c0, c1, c2, c3, c4, c5, c6, c7⟩ := cc
      have b0 := hw.out.1.c0
      have hy := HY.out _ (List.getElem_mem hlt)
      have HA : Hid (∀ w2, Kept wr w2 → (E[k].nt && E[k].st == 0) = false → LTab (w2.setCell ⟨g, k * 8 + 7, none⟩ (.bool false)) base b (.slice (some ⟨g, 0, none⟩) E.length d) (upd endE (k + 1) E)) := fun w2 k2 q => by
        have := (hw.out.1.kept k2).set hlt2 (j := 7) (e' := endE E[k]) (u := .bool false) (by omega) (by rw [upd_get hlt]; simp [endE, q, Ent.c8]) (.inl (by rw [upd_get hlt]; exact ⟨rfl, rfl⟩))
        rwa [upd_set hlt] at this
      have HB : Hid (∀ w2, Kept wr w2 → (E[k].nt && E[k].st == 0) = true → LTab ((w2.setCell ⟨g, k * 8 + 4, none⟩ (.int .i64 (E[k].cy + 1))).setCell ⟨g, k * 8 + 7, none⟩ (.bool false)) base b (.slice (some ⟨g, 0, none⟩) E.length d) (upd endE (k + 1) E)) := fun w2 k2 q => by
        have h1 := (hw.out.1.kept k2).set hlt2 (j := 4) (e' := { E[k] with cy := E[k].cy + 1 }) (u := .int .i64 (E[k].cy + 1)) (by omega) (by rw [upd_get hlt]; rfl) (.inl (by rw [upd_get hlt]; exact ⟨rfl, rfl⟩))
        have h2 := h1.set (i := k) (j := 7) (e' := endE E[k]) (u := .bool false) (by simpa using hlt2) (by omega) (by simp [endE, q, Ent.c8]) (.inl (by simp [endE]))
        rwa [List.set_set, upd_set hlt] at h2
      have e1 : (k : Int) < (E.length : Int) := by omega
      have hgw : g < wr.heap.size := by have := hw.out.2.size; omega
      have HF : Hid (∀ w2, Kept wr w2 → ∀ i, w2.frozen? ⟨g, i, none⟩ = false) := fun w2 k2 => (hw.out.1.kept k2).ens.row.fz
      clear ev
      generalize E[k] = e at *
      obtain ⟨th, fr, sp, st, cy, pl, gx, gc, G, nt⟩ := e
      simp only at c0 c1 c2 c3 c4 c5 c6 c7 hy
      cases nt
      · have H2 : Hid (LTab (wr.setCell ⟨g, k * 8 + 7, none⟩ (.bool false)) base b (.slice (some ⟨g, 0, none⟩) E.length d) (upd endE (k + 1) E) ∧ Mut (b :: (Value.slice (some ⟨g, 0, none⟩) E.length d).ownBlock.toList) w (wr.setCell ⟨g, k * 8 + 7, none⟩ (.bool false))) := ⟨HA.out wr (Kept.refl _) rfl, hw.out.2.setCell (by simp [Value.ownBlock]) _⟩
        have f0 := HF.out wr (Kept.refl _)
        go_wp2
        go_roundg (gk - 1)
        all_goals (have := HM.out; try omega)
        exact ⟨k + 1, by go_num, by omega, by omega, H2.out⟩
      · go_wp2_with fail
        refine (lwaits_one ⟨th, fr, sp, st, cy, pl, gx, gc, G, true⟩ _).mono ?_
        rintro r w2 ⟨rfl, k2⟩
        have f0 := HF.out w2 k2
        have d4 := (k2.cell (a := ⟨g, k * 8 + 4, none⟩) hgw).trans c4
        have d7 := (k2.cell (a := ⟨g, k * 8 + 7, none⟩) hgw).trans c7
        cases hs : (st == 0)
        · have H2 : Hid (LTab (w2.setCell ⟨g, k * 8 + 7, none⟩ (.bool false)) base b (.slice (some ⟨g, 0, none⟩) E.length d) (upd endE (k + 1) E) ∧ Mut (b :: (Value.slice (some ⟨g, 0, none⟩) E.length d).ownBlock.toList) w (w2.setCell ⟨g, k * 8 + 7, none⟩ (.bool false))) := ⟨HA.out w2 k2 (by simp [hs]), (hw.out.2.trans k2.mut).setCell (by simp [Value.ownBlock]) _⟩
          clear k2 c0 c1 c2 c3 c4 c5 c6 c7 b0
          go_wp2
          go_roundg (gk - 1)
          all_goals (have := HM.out; try omega)
          exact ⟨k + 1, by go_num, by omega, by omega, H2.out⟩
        · have H2 : Hid (LTab ((w2.setCell ⟨g, k * 8 + 4, none⟩ (.int .i64 (cy + 1))).setCell ⟨g, k * 8 + 7, none⟩ (.bool false)) base b (.slice (some ⟨g, 0, none⟩) E.length d) (upd endE (k + 1) E) ∧ Mut (b :: (Value.slice (some ⟨g, 0, none⟩) E.length d).ownBlock.toList) w ((w2.setCell ⟨g, k * 8 + 4, none⟩ (.int .i64 (cy + 1))).setCell ⟨g, k * 8 + 7, none⟩ (.bool false))) := ⟨HB.out w2 k2 (by simp [hs]), ((hw.out.2.trans k2.mut).setCell (by simp [Value.ownBlock]) _).setCell (by simp [Value.ownBlock]) _⟩
          clear k2 c0 c1 c2 c3 c4 c5 c6 c7 b0
          go_wp2
          go_roundg (gk - 1)
          all_goals (have := HM.out; try omega)
          exact ⟨k + 1, by go_num, by omega, by omega, H2.out⟩
    · obtain rfl : k = E.length := by omega
      have HN : Hid (LTab wr base b (.slice x E.length d) (E.map endE)) := by have := hw.out.1; rwa [upd_all] at this
      go_wp2
      go_end0
      exact ⟨rfl, HN.out, hw.out.2⟩
end Go.Proofs.YtahpnnjemjjfhaaGreat

