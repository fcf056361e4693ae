/-
  Contracts of package line: Drop, and slices.Delete at its requests.
-/
import Derived.Test.YtahpnnjemjjfhaaLineD
import Derived.Laws.Cover3
namespace Go.Proofs.Ytahpnnjemjjfhaa
open Go.RowKit

theorem lrun_clear_one {P : Program} (w : World) (t e ty : TypeId) (z : Value) (zs : List Value) (ht : P.underlying t = some (.slice e)) (hv : ∀ w, (zeroValue e).run P w = .ok z w) (hz : (Builtin.zeroCells z.cells 1).toList = zs) (h1 : ∀ u ∈ zs, u.oneCell' = true) (b o c : Nat)
    (hc : ∀ j, j < zs.length → (w.cell? ⟨b, o + j, none⟩).isSome = true) (hf : ∀ j, j < zs.length → w.frozen? ⟨b, o + j, none⟩ = false) :
    (Builtin.clear_ #[t] ty #[.slice (some ⟨b, o, none⟩) 1 c]).run P w = .ok (.tuple #[]) (w.setCells b o zs) := by
  have hst := run_storeCells_cells (P := P) b o zs 0 w (by simpa using hc) (by simpa using hf) h1
  simp only [Nat.add_zero] at hst
  simp [Builtin.clear_, run_underlying ht, hv, hz, hst]

section
variable {t : TypeId} {m : Nat} {c : Ent → List Value} {w : World} {base g n cap : Nat} {E : List Ent}
theorem Rw.row (h : Rw t m c w base (.slice (some ⟨g, 0, none⟩) n cap) E) : E.length ≤ cap ∧ cap ≤ maxLen ∧ base ≤ g ∧ ∃ f, w.rowIs g t (cap * m) f ∧ ∀ j, j < E.length * m → (E.flatMap c)[j]? = some (f j) := by
  rcases h.2 with ⟨e, h0⟩ | ⟨g', cap', cur, e, hb, hg, hnc, hcm, hcs, htake⟩
  · cases e
  · obtain ⟨e1, _, e3⟩ := Value.slice.inj e
    obtain rfl : g = g' := by simpa using e1
    subst e3
    have hle : E.length * m ≤ cap * m := Nat.mul_le_mul_right m hnc
    refine ⟨hnc, hcm, hb, fun j => cur[j]?.getD default, ⟨cur, hg, hcs, fun j hj => ?_⟩, fun j hj => ?_⟩
    · have : j < cur.size := by omega
      simp [this]
    · have : j < cur.size := by omega
      rw [← htake, List.getElem?_take, if_pos hj]
      simp [this]
theorem rw_of_row {f : Nat → Value} (h : w.rowIs g t (cap * m) f) (hc : ∀ e, (c e).length = m) (hf : ∀ j, j < E.length * m → (E.flatMap c)[j]? = some (f j)) (hl : E.length ≤ cap) (hm : cap ≤ maxLen) (hb : base ≤ g) : Rw t m c w base (.slice (some ⟨g, 0, none⟩) E.length cap) E := by
  obtain ⟨cur, hg, hs, hcell⟩ := h
  have hle : E.length * m ≤ cap * m := Nat.mul_le_mul_right m hl
  refine ⟨flat_len hc E, .inr ⟨g, cap, cur, rfl, hb, hg, hl, hm, hs, ?_⟩⟩
  apply List.ext_getElem?
  intro j
  rw [List.getElem?_take]
  by_cases hj : j < E.length * m
  · rw [if_pos hj, hf j hj]
    simpa using hcell j (by omega)
  · rw [if_neg hj, List.getElem?_eq_none (by rw [flat_len hc]; omega)]
end

def zero8 : List Value := [.int .i64 0, .int .i64 0, .int .i64 0, .int .i64 0, .int .i64 0, .int .i64 0, .slice none 0 0, .bool false]

theorem zero8_eq : (Builtin.zeroCells (Value.agg #[.int .i64 0, .int .i64 0, .int .i64 0, .int .i64 0, .int .i64 0, .int .i64 0, .slice none 0 0, .bool false]).cells 1).toList = zero8 := by kernel_rfl

/-- The worlds behind Delete's append, and behind its clear. -/
theorem ldelete_worlds {w : World} {base g i q n cap : Nat} {E : List Ent} (h : Rw 109 8 Ent.c8 w base (.slice (some ⟨g, 0, none⟩) n cap) E) (hi : E.length = i + q + 1) (W1 W2 : World)
    (h1 : W1 = w.drew.setCells g (i * 8) ((E.drop (i + 1)).flatMap Ent.c8)) (h2 : W2 = W1.setCells g ((i + q) * 8) zero8) :
    (∀ j, j < 8 → (W1.cell? ⟨g, (i + q) * 8 + j, none⟩).isSome = true) ∧ (∀ j, j < 8 → W1.frozen? ⟨g, (i + q) * 8 + j, none⟩ = false) ∧ Rw 109 8 Ent.c8 W2 base (.slice (some ⟨g, 0, none⟩) (i + q) cap) (E.eraseIdx i) ∧ Mut [g] w W2 := by
  obtain ⟨hl, hm, hb, f, hf, hv⟩ := h.row
  have hf0 : w.drew.rowIs g 109 (cap * 8) f := hf
  have r1 := rowIs_setCells ((E.drop (i + 1)).flatMap Ent.c8) (i * 8) w.drew f hf0
  rw [← h1] at r1
  have r2 := rowIs_setCells zero8 ((i + q) * 8) W1 _ r1
  rw [← h2] at r2
  have hnl : ((E.drop (i + 1)).flatMap Ent.c8).length = q * 8 := by rw [flat_len c8len]; simp; omega
  have hzl : zero8.length = 8 := rfl
  refine ⟨fun j hj => by rw [r1.cell (by omega)]; rfl, fun j _ => r1.frozen _, ?_, ?_⟩
  · have hlen : (E.eraseIdx i).length = i + q := by rw [List.length_eraseIdx_of_lt (by omega)]; omega
    have := rw_of_row (c := Ent.c8) (E := E.eraseIdx i) (base := base) r2 c8len (fun j hj => ?_) (by omega) hm hb
    · rwa [hlen] at this
    · rw [hlen] at hj
      rw [if_neg (by omega), hnl, List.eraseIdx_eq_take_drop_succ, List.flatMap_append, flat_take c8len]
      by_cases hj2 : j < i * 8
      · rw [List.getElem?_append_left (by rw [List.length_take, flat_len c8len]; omega), List.getElem?_take, if_pos hj2, if_neg (by omega)]
        exact hv j (by omega)
      · have e1 : (List.take (i * 8) (E.flatMap Ent.c8)).length = i * 8 := by rw [List.length_take, flat_len c8len]; omega
        rw [List.getElem?_append_right (by omega), if_pos (by omega), e1]
        have : j - i * 8 < ((E.drop (i + 1)).flatMap Ent.c8).length := by omega
        rw [List.getElem?_eq_getElem this]
        rfl
  · rw [h2, h1]
    exact ((Mut.refl [g] w).drew.trans (mut_setCells (by simp) _ _ _)).trans (mut_setCells (by simp) _ _ _)

set_option maxHeartbeats 4000000 in
theorem ldelete_any {base g i q cap : Nat} {E : List Ent} (w : World) (h : Rw 109 8 Ent.c8 w base (.slice (some ⟨g, 0, none⟩) (i + q + 1) cap) E) (hi : E.length = i + q + 1) (hc : E.length ≤ 100000) :
    Calls Try.prog 85 #[.slice (some ⟨g, 0, none⟩) (i + q + 1) cap, .int .i64 (i : Int), .int .i64 ((i : Int) + 1)] w fun e w' => e = .returned (.slice (some ⟨g, 0, none⟩) (i + q) cap) ∧ Rw 109 8 Ent.c8 w' base (.slice (some ⟨g, 0, none⟩) (i + q) cap) (E.eraseIdx i) ∧ Mut [g] w w' := by
  obtain ⟨hl, hm, hb, f, hf, hv⟩ := h.row
  obtain ⟨W1, h1⟩ : ∃ W1, W1 = w.drew.setCells g (i * 8) ((E.drop (i + 1)).flatMap Ent.c8) := ⟨_, rfl⟩
  obtain ⟨W2, h2⟩ : ∃ W2, W2 = W1.setCells g ((i + q) * 8) zero8 := ⟨_, rfl⟩
  obtain ⟨d1, d2, d3⟩ := ldelete_worlds h hi W1 W2 h1 h2
  obtain ⟨i0, hi0, hz0, hz1, hz2⟩ := info_parts info_entry
  have hcl : ∀ ty, (Builtin.clear_ #[105] ty #[.slice (some ⟨g, (i + q) * 8, none⟩) 1 (cap - (i + q))]).run Try.prog W1 = .ok (.tuple #[]) W2 := fun ty => by
    rw [h2]
    exact lrun_clear_one W1 _ _ ty (.agg #[.int .i64 0, .int .i64 0, .int .i64 0, .int .i64 0, .int .i64 0, .int .i64 0, .slice none 0 0, .bool false]) zero8 Try.underlying105 (fun w => by simp [zeroValue, typeInfo, hi0, hz0]) zero8_eq (by simp [zero8, Value.oneCell']) g _ _ d1 d2
  have HD : Hid (Rw 109 8 Ent.c8 W2 base (.slice (some ⟨g, 0, none⟩) (i + q) cap) (E.eraseIdx i) ∧ Mut [g] w W2) := d3
  have hlen : ((E.drop (i + 1)).flatMap Ent.c8).length = q * 8 := by rw [flat_len c8len]; simp; omega
  have hone : ∀ u ∈ (E.drop (i + 1)).flatMap Ent.c8, u.oneCell' = true := fun u hu => by
    obtain ⟨e, _, he⟩ := List.mem_flatMap.1 hu
    exact lc8_one e u he
  have hsp : ∀ j, j < ((E.drop (i + 1)).flatMap Ent.c8).length → (w.drew.cell? ⟨g, 0 + i * 8 + j, none⟩).isSome = true ∧ w.drew.frozen? ⟨g, 0 + i * 8 + j, none⟩ = false := fun j hj => by
    have hj' : j < q * 8 := by rw [hlen] at hj; omega
    have hf0 : w.drew.rowIs g 109 (cap * 8) f := hf
    simp only [Nat.zero_add]
    exact ⟨by rw [hf0.cell (by omega)]; rfl, hf0.frozen _⟩
  have hsrc : ∀ (o : Nat), (o = (i + 1) * 8 ∨ q = 0) → ∀ j u, ((E.drop (i + 1)).flatMap Ent.c8)[j]? = some u → w.drew.cell? ((⟨g, o, none⟩ : Addr).add j) = some u := fun o ho j u hu => by
    have hj : j < q * 8 := by have := (List.getElem?_eq_some_iff.1 hu).1; rw [hlen] at this; omega
    rcases ho with rfl | ho
    · have hf0 : w.drew.rowIs g 109 (cap * 8) f := hf
      rw [Addr.add_lit, hf0.cell (by omega), ← hv _ (by omega), ← hu, flat_drop c8len, List.getElem?_drop]
    · omega
  have SP : Hid _ := hsp
  have SR : Hid _ := hsrc
  have SO : Hid _ := hone
  have SL : Hid _ := hlen
  have HW : Hid (W1 = w.drew.setCells g (i * 8) ((E.drop (i + 1)).flatMap Ent.c8)) := h1
  rw [hi] at hl hc
  generalize (E.drop (i + 1)).flatMap Ent.c8 = news at *
  clear hsp hsrc hone hlen h1 h2 d1 d2 d3 h hf hv f hm hb hi
  have e1 : ((i : Int) == (i : Int) + 1) = false := beq_eq_false_iff_ne.2 (by omega)
  have q1 : (i : Int) ≤ (i : Int) + 1 := by omega
  have q0 : 0 ≤ (i : Int) + 1 := by omega
  by_cases hck : cap = i + 1
  · obtain rfl : q = 0 := by omega
    subst hck
    simp only [Nat.add_zero, Nat.add_sub_cancel_left] at hcl
    go_enter Try.func85, Try.ntmps85
    go_wp2_with fail
    go_region_law (refine step_append_room rfl (.tmp 22) (.tmp 25) 105 rfl 109 i0 8 Try.underlying105 hi0 hz1 g 0 i (i + 1) (by simp [Act.eval, Act.put]) ⟨g, 0, none⟩ 0 0 news (by simp [Act.eval, Act.put]) SL.out (SR.out 0 (by simp)) SO.out (by omega) SP.out ?_)
    all_goals rw [← HW.out]
    all_goals go_wp2
    all_goals go_ret
    all_goals exact ⟨rfl, HD.out⟩
  · have z : q ≤ cap - (i + 1) := by omega
    have q2 : (i : Int) ≤ (cap : Int) := by omega
    have q3 : (i : Int) + 1 ≤ (i : Int) + (q : Int) + 1 := by omega
    have q4 : (i : Int) + 1 ≤ (cap : Int) := by omega
    have q5 : (i : Int) + (q : Int) ≤ (i : Int) + (q : Int) + 1 := by omega
    have q6 : (i : Int) + (q : Int) + 1 ≤ (cap : Int) := by omega
    have q7 : (i : Int) ≤ (i : Int) + (q : Int) + 1 := by omega
    go_enter Try.func85, Try.ntmps85
    go_wp2_with fail
    go_region_law (refine step_append_room rfl (.tmp 22) (.tmp 25) 105 rfl 109 i0 8 Try.underlying105 hi0 hz1 g 0 i cap (by simp [Act.eval, Act.put]) ⟨g, (i + 1) * 8, none⟩ q (cap - (i + 1)) news (by simp [Act.eval, Act.put]) SL.out (SR.out _ (.inl rfl)) SO.out (by omega) SP.out ?_)
    all_goals rw [← HW.out]
    all_goals go_wp2
    all_goals go_ret
    all_goals exact ⟨rfl, HD.out⟩
set_option maxHeartbeats 1000000 in
theorem ldrop_no {base b : Nat} {v : Value} {E : List Ent} {t : Int} (w : World) (h : LTab w base b v E) (hi : idx (fun e => e.th == t) E = -1) :
    Calls Try.prog 51 #[.pointer (some ⟨b, 0, none⟩), .int .i64 t] w fun r w' => r = .returned (.bool false) ∧ Kept w w' := by
  have C := lplace_any t w h
  rw [hi] at C
  clear hi h
  go_enter Try.func51, Try.ntmps51
  go_wp2_with fail
  refine C.mono ?_
  rintro r w1 ⟨rfl, k1⟩
  have H1 : Hid (Kept w w1) := k1
  clear k1 C
  go_wp2
  go_ret
  exact ⟨rfl, H1.out⟩

set_option maxHeartbeats 2000000 in
theorem ldrop_yes {base b : Nat} {v : Value} {E : List Ent} {i : Nat} {t : Int} (w : World) (h : LTab w base b v E) (hl : i < E.length) (hi : idx (fun e => e.th == t) E = (i : Int)) :
    Calls Try.prog 51 #[.pointer (some ⟨b, 0, none⟩), .int .i64 t] w fun r w' => r = .returned (.bool true) ∧ ∃ v', LTab w' base b v' (E.eraseIdx i) ∧ Mut (b :: v.ownBlock.toList) w w' ∧ ∀ k, k ∈ foot b v' (E.eraseIdx i) → k ∈ foot b v E ∨ w.heap.size ≤ k := by
  have C := lplace_any t w h
  rw [hi] at C
  obtain ⟨g, cap, rfl, _, hg, _⟩ := h.ens.row.here (by omega)
  have hf := h.few
  obtain ⟨q, hq⟩ : ∃ q, E.length = i + q + 1 := ⟨E.length - i - 1, by omega⟩
  have HT : Hid (LTab w base b (.slice (some ⟨g, 0, none⟩) (i + q + 1) cap) E ∧ E.length = i + q + 1) := by rw [hq] at h; exact ⟨h, hq⟩
  rw [hq] at hf ⊢
  clear hi h hl hq
  go_enter Try.func51, Try.ntmps51
  go_wp2_with fail
  refine C.mono ?_
  rintro r w1 ⟨rfl, k1⟩
  have H1 : Hid (LTab w1 base b (.slice (some ⟨g, 0, none⟩) (i + q + 1) cap) E ∧ Kept w w1) := ⟨HT.out.1.kept k1, k1⟩
  have b0 := H1.out.1.c0
  have e0 : ¬ (i : Int) < 0 := by omega
  clear k1 C
  go_wp2_with fail
  refine (ldelete_any _ H1.out.1.ens.row HT.out.2 H1.out.1.few).mono ?_
  rintro r w2 ⟨rfl, r2, m2⟩
  have O2 : Own w2 b 107 [.slice (some ⟨g, 0, none⟩) (i + q + 1) cap] := H1.out.1.head.muts m2 (by simpa using Ne.symm H1.out.1.ng)
  have c2 := O2.blk.at 0 rfl
  have f2 := O2.blk.fz
  have HR : Hid (LTab (w2.setCell ⟨b, 0, none⟩ (.slice (some ⟨g, 0, none⟩) (i + q) cap)) base b (.slice (some ⟨g, 0, none⟩) (i + q) cap) (E.eraseIdx i) ∧ Mut (b :: (Value.slice (some ⟨g, 0, none⟩) (i + q + 1) cap).ownBlock.toList) w (w2.setCell ⟨b, 0, none⟩ (.slice (some ⟨g, 0, none⟩) (i + q) cap)) ∧ ∀ k, k ∈ foot b (.slice (some ⟨g, 0, none⟩) (i + q) cap) (E.eraseIdx i) → k ∈ foot b (.slice (some ⟨g, 0, none⟩) (i + q + 1) cap) E ∨ w.heap.size ≤ k) := by
    have EN := H1.out.1.ens.turn r2 m2 (fun k hk => .inl (by simp at hk; simp [Value.ownBlock, hk])) (fun k hk => .inl (by simpa [Value.ownBlock] using hk)) (fun e he => .inl (List.mem_of_mem_eraseIdx he)) H1.out.1.ltb
    refine ⟨H1.out.1.turn O2 EN (by have h1 := HT.out.2; have h2 := H1.out.1.few; rw [List.length_eraseIdx_of_lt (by omega)]; omega), ?_, fun k hk => .inl ?_⟩
    · exact ((H1.out.2.mut).trans (m2.wide fun k hk => by simp at hk; simp [Value.ownBlock, hk])).setCell (by simp) _
    · rcases mem_foot.1 hk with rfl | hk | ⟨e, he, hk⟩
      · exact mem_foot.2 (.inl rfl)
      · exact mem_foot.2 (.inr (.inl (by simpa [Value.ownBlock] using hk)))
      · exact mem_foot.2 (.inr (.inr ⟨e, List.mem_of_mem_eraseIdx he, hk⟩))
  clear O2 r2 m2 b0
  go_wp2
  go_ret
  exact ⟨rfl, _, HR.out⟩
end Go.Proofs.Ytahpnnjemjjfhaa
