/-
  Contracts of package stock: what Take calls; Take; Side; and the document's own.
-/
import Derived.Test.YtahpnnjemjjfhaaStock
import Derived.Laws.Cover3
namespace Go.Proofs.Ytahpnnjemjjfhaa
open Go.RowKit

theorem lst_empty (w : World) : Lst (w.alloc (.cells #[] 3)) w.heap.size (.slice (some ⟨w.heap.size, 0, none⟩) 0 0) [] :=
  World.ownsRow_made w _ 0 (Nat.le_refl _) (by unfold maxLen; omega) (by simp)

theorem sfresh_of {w w' w2 : World} {v : Value} {N : List Int} {D : List Nat} (l : Lst w2 w.heap.size v N) (k : Kept w w') (m : Mut D w' w2) (hd : ∀ k, k ∈ D → w.heap.size ≤ k) : Lst w2 w.heap.size v N ∧ Kept w w2 := ⟨l, k.muts m hd⟩

set_option maxHeartbeats 1000000 in
theorem sclone_any {a : Addr} {c : Nat} {N : List Int} (w : World) (hx : Rdi w (some a) N) (hn : N.length ≤ 1000000) :
    Calls Try.prog 72 #[.slice (some a) N.length c] w fun e w' => ∃ v, e = .returned v ∧ Lst w' w.heap.size v N ∧ Kept w w' := by
  have HX : Hid (Rdi (w.alloc (.cells #[] 3)) (some a) N) := hx.kept ((Kept.refl w).alloc _ _)
  have HL : Hid _ := lst_empty w
  have z1 : w.heap.size ≤ (w.alloc (.cells #[] 3)).heap.size := by simp
  have z2 : ([] : List Int).length + N.length ≤ 1000000 := by simpa using hn
  clear hx hn
  have hnil : ∀ w : World, (binOp .eql 38 (.slice (some a) N.length c) (.slice none 0 0)).run Try.prog w = .ok (.bool false) w := fun w => by
    have := run_equal_slice_nil (P := Try.prog) w 38 3 (some a) N.length c Try.underlying38
    simp [binOp, this]
  go_enter Try.func72, Try.ntmps72
  go_wp2_with (at_builtin; refine wpList_append_lst (T := []) (N := N) rfl _ _ rfl rfl HL.out z1 rfl rfl HX.out z2 ?_)
  intro v2 w2 l2 m2 f2
  have H2 : Hid (Lst w2 w.heap.size v2 N ∧ Kept w w2) := ⟨by simpa using l2, ((Kept.refl w).alloc _ _).muts m2 (by simp [Value.ownBlock])⟩
  clear l2 m2 f2 z1 z2
  obtain ⟨y2, d2, rfl⟩ := H2.out.1.form
  go_wp2
  go_ret
  exact ⟨_, rfl, H2.out⟩

/-- The worlds behind Delete's append, and behind its clear. -/
theorem sdelete_worlds {w : World} {base g k m cap : Nat} {T : List Int} (h : Lst w base (.slice (some ⟨g, 0, none⟩) T.length cap) T) (hk : T.length = k + m) (W1 W2 : World)
    (h1 : W1 = w.drew.setCells g 0 ((T.drop k).map (Value.int .i64))) (h2 : W2 = W1.setCells g m (List.replicate k (Value.int .i64 0))) :
    (∀ j, j < k → (W1.cell? ⟨g, m + j, none⟩).isSome = true) ∧ (∀ j, j < k → W1.frozen? ⟨g, m + j, none⟩ = false) ∧ Lst W2 base (.slice (some ⟨g, 0, none⟩) m cap) (T.drop k) ∧ Mut [g] w W2 := by
  obtain ⟨hl, hm, hb, f, hf, hv⟩ := h.row
  have hf0 : w.drew.rowIs g 3 cap f := hf
  have r1 := rowIs_setCells ((T.drop k).map (Value.int .i64)) 0 w.drew f hf0
  rw [← h1] at r1
  have r2 := rowIs_setCells (List.replicate k (Value.int .i64 0)) m W1 _ r1
  rw [← h2] at r2
  refine ⟨fun j hj => by rw [r1.cell (by omega)]; rfl, fun j _ => r1.frozen _, ?_, ?_⟩
  · have hlen : (T.drop k).length = m := by simp; omega
    have := lst_of_row (T := T.drop k) (base := base) r2 (fun j hj => ?_) (by omega) hm hb
    · rwa [hlen] at this
    · rw [hlen] at hj
      rw [if_neg (by omega), if_pos (by simp; omega)]
      simp [show k + j < T.length by omega]
  · rw [h2, h1]
    exact ((Mut.refl [g] w).drew.trans (mut_setCells (by simp) _ _ _)).trans (mut_setCells (by simp) _ _ _)

set_option maxHeartbeats 4000000 in
theorem sdelete_any {base g k m cap : Nat} {T : List Int} (w : World) (h : Lst w base (.slice (some ⟨g, 0, none⟩) T.length cap) T) (hk : T.length = k + m) (hk0 : 0 < k) (hc : T.length ≤ 1000000) :
    Calls Try.prog 73 #[.slice (some ⟨g, 0, none⟩) T.length cap, .int .i64 0, .int .i64 (k : Int)] w fun e w' => e = .returned (.slice (some ⟨g, 0, none⟩) m cap) ∧ Lst w' base (.slice (some ⟨g, 0, none⟩) m cap) (T.drop k) ∧ Mut [g] w w' := by
  obtain ⟨hl, hm, hb, f, hf, hv⟩ := h.row
  obtain ⟨W1, h1⟩ : ∃ W1, W1 = w.drew.setCells g 0 ((T.drop k).map (Value.int .i64)) := ⟨_, rfl⟩
  obtain ⟨W2, h2⟩ : ∃ W2, W2 = W1.setCells g m (List.replicate k (Value.int .i64 0)) := ⟨_, rfl⟩
  obtain ⟨d1, d2, d3⟩ := sdelete_worlds h hk W1 W2 h1 h2
  obtain ⟨i0, hi0, hz0, hz1, hz2⟩ := info_parts info_int9
  have hcl : ∀ ty, (Builtin.clear_ #[38] ty #[.slice (some ⟨g, m, none⟩) k (cap - m)]).run Try.prog W1 = .ok (.tuple #[]) W2 := fun ty => by
    rw [h2]
    exact Lib.run_clear_slice W1 _ _ ty (.int .i64 0) Try.underlying38 (fun w => by simp [zeroValue, typeInfo, hi0, hz0]) rfl rfl g m k _ hk0 d1 d2
  have HD : Hid (Lst W2 base (.slice (some ⟨g, 0, none⟩) m cap) (T.drop k) ∧ Mut [g] w W2) := d3
  have hlen : ((T.drop k).map (Value.int .i64)).length = m * 1 := by simp; omega
  have hone : ∀ u ∈ (T.drop k).map (Value.int .i64), u.oneCell' = true := ints_oneCell _ _
  have hsp : ∀ j, j < ((T.drop k).map (Value.int .i64)).length → (w.drew.cell? ⟨g, 0 + 0 * 1 + j, none⟩).isSome = true ∧ w.drew.frozen? ⟨g, 0 + 0 * 1 + j, none⟩ = false := fun j hj => by
    have hj' : j < m := by rw [hlen] at hj; omega
    have hf0 : w.drew.rowIs g 3 cap f := hf
    simp only [Nat.zero_mul, Nat.zero_add]
    exact ⟨by rw [hf0.cell (by omega)]; rfl, hf0.frozen _⟩
  have hsrc : ∀ (o : Nat), (o = k ∨ m = 0) → ∀ j u, ((T.drop k).map (Value.int .i64))[j]? = some u → w.drew.cell? ((⟨g, o, none⟩ : Addr).add j) = some u := fun o ho j u hu => by
    have hj : j < m := by have := (List.getElem?_eq_some_iff.1 hu).1; rw [hlen] at this; omega
    rcases ho with rfl | ho
    · have hr := (h.rdi.drop (w := w) o).news j u hu
      simpa using hr
    · omega
  have SP : Hid _ := hsp
  have SR : Hid _ := hsrc
  have SO : Hid _ := hone
  have SL : Hid _ := hlen
  have HW : Hid (W1 = w.drew.setCells g 0 ((T.drop k).map (Value.int .i64))) := h1
  rw [hk] at hl hc ⊢
  generalize (T.drop k).map (Value.int .i64) = news at *
  clear hsp hsrc hone hlen h1 h2 d1 d2 d3 h hf hv f hm hb
  have e1 : ((k : Int) == 0) = false := by simp; omega
  have e2 : ((0 : Int) == (k : Int)) = false := by simp; omega
  by_cases hck : cap = k
  · obtain rfl : m = 0 := by omega
    subst hck
    simp only [Nat.sub_zero] at hcl
    go_enter Try.func73, Try.ntmps73
    go_wp2_with fail
    go_region_law (refine step_append_room rfl (.tmp 22) (.tmp 25) 38 rfl 3 i0 1 Try.underlying38 hi0 hz1 g 0 0 cap (by simp [Act.eval, Act.put]) ⟨g, 0, none⟩ 0 0 news (by simp [Act.eval, Act.put]) SL.out (SR.out 0 (by simp)) SO.out (by omega) SP.out ?_)
    rw [← HW.out]
    go_wp2
    go_ret
    exact ⟨rfl, HD.out⟩
  · have z : m ≤ cap - k := by omega
    have q1 : (k : Int) ≤ (k : Int) + (m : Int) := by omega
    go_enter Try.func73, Try.ntmps73
    go_wp2_with fail
    go_region_law (refine step_append_room rfl (.tmp 22) (.tmp 25) 38 rfl 3 i0 1 Try.underlying38 hi0 hz1 g 0 0 cap (by simp [Act.eval, Act.put]) ⟨g, k, none⟩ m (cap - k) news (by simp [Act.eval, Act.put]) SL.out (SR.out k (.inl rfl)) SO.out (by omega) SP.out ?_)
    rw [← HW.out]
    go_wp2
    go_ret
    exact ⟨rfl, HD.out⟩

set_option maxHeartbeats 1000000 in
theorem stake_yes {base b most k : Nat} {v : Value} {T : List Int} (w : World) (h : STab 111 w base b most v T) (hk0 : 1 ≤ k) (hk : k ≤ T.length) :
    Calls Try.prog 43 #[.pointer (some ⟨b, 0, none⟩), .int .i64 (k : Int)] w fun e w' => ∃ va v', e = .returned (.tuple #[va, .bool true]) ∧ Lst w' w.heap.size va (T.take k) ∧ STab 111 w' base b most v' (T.drop k) ∧ Mut (b :: v.ownBlock.toList) w w' ∧ Fresh w v v' ∧ ∀ q, va.ownBlock = some q → v'.ownBlock ≠ some q := by
  have h1 := h.few
  have h2 := h.max
  obtain ⟨x, c, rfl⟩ := h.lst.form
  obtain ⟨g, o, rfl, hg, _⟩ := h.lst.rdi (by omega)
  obtain rfl : o = 0 := by
    rcases h.lst.2 with ⟨e, _⟩ | ⟨g', cap, cur, e, _⟩
    · cases e
    · have := (Value.slice.inj e).1; simp at this; exact this.2
  obtain ⟨hc, _, _, _⟩ := h.lst.row
  have HT : Hid (STab 111 w base b most (.slice (some ⟨g, 0, none⟩) T.length c) T) := h
  have c1 := h.c1
  have R1 : Hid (Rdi w (some ⟨g, 0, none⟩) (T.take k) ∧ (T.take k).length = k) := ⟨h.lst.rdi.take k, by simp; omega⟩
  clear h
  have HC := sclone_any (c := c) w R1.out.1 (by rw [R1.out.2]; omega)
  rw [R1.out.2] at HC
  go_enter Try.func43, Try.ntmps43
  go_wp2_with fail
  refine HC.mono ?_
  rintro e w2 ⟨va, rfl, l2, k2⟩
  have H2 : Hid (STab 111 w2 base b most (.slice (some ⟨g, 0, none⟩) T.length c) T ∧ Lst w2 w.heap.size va (T.take k) ∧ Kept w w2) := ⟨HT.out.kept k2, l2, k2⟩
  obtain ⟨ya, da, rfl⟩ := l2.form
  rw [R1.out.2] at H2 ⊢
  clear l2 k2 c1 HC
  have c1 := H2.out.1.c1
  go_wp2_with fail
  refine (sdelete_any (k := k) (m := T.length - k) _ H2.out.1.lst (by omega) (by omega) (by omega)).mono ?_
  rintro e w3 ⟨rfl, l3, m3⟩
  have hD : (T.drop k).length = T.length - k := by simp
  have O3 : Own w3 b 111 [.int .i64 (most : Int), .slice (some ⟨g, 0, none⟩) T.length c] := H2.out.1.head.muts m3 (by have := H2.out.1.ne; simp [Value.ownBlock] at this; simp; omega)
  have H3 : Hid (Lst (w3.setCell ⟨b, 1, none⟩ (.slice (some ⟨g, 0, none⟩) (T.length - k) c)) w.heap.size (.slice ya k da) (T.take k) ∧ STab 111 (w3.setCell ⟨b, 1, none⟩ (.slice (some ⟨g, 0, none⟩) (T.length - k) c)) base b most (.slice (some ⟨g, 0, none⟩) (T.length - k) c) (T.drop k) ∧ Mut (b :: (Value.slice (some ⟨g, 0, none⟩) T.length c).ownBlock.toList) w (w3.setCell ⟨b, 1, none⟩ (.slice (some ⟨g, 0, none⟩) (T.length - k) c)) ∧ Fresh w (Value.slice (some ⟨g, 0, none⟩) T.length c) (.slice (some ⟨g, 0, none⟩) (T.length - k) c) ∧ ∀ q, (Value.slice ya k da).ownBlock = some q → (Value.slice (some ⟨g, 0, none⟩) (T.length - k) c).ownBlock ≠ some q) := by
    refine ⟨?_, H2.out.1.turn O3 l3 (by omega), ?_, fun q hq => .inl hq, fun q hq hq2 => ?_⟩
    · have := (H2.out.2.1.muts m3 (fun q hq => by have := (H2.out.2.1.lt q hq).1; simp; omega))
      exact this.muts (D := [b]) ((Mut.refl _ _).setCell (by simp) _) (fun q hq => by have := (H2.out.2.1.lt q hq).1; have := HT.out.ltb; simp; omega)
    · exact (H2.out.2.2.mut.trans (m3.wide (fun q hq => by simp at hq; subst hq; simp [Value.ownBlock]))).setCell (by simp) _
    · have := (H2.out.2.1.lt q hq).1
      simp [Value.ownBlock] at hq2
      omega
  have cf : ∀ i, w3.frozen? ⟨b, i, none⟩ = false := fun i => O3.blk.fz i
  have c3 := O3.blk.at 1 rfl
  clear l3 m3 c1 O3
  go_wp2
  go_ret2
  exact ⟨_, _, rfl, H3.out⟩

set_option maxHeartbeats 1000000 in
theorem stake_no {base b most : Nat} {v : Value} {T : List Int} (k : Int) (w : World) (h : STab 111 w base b most v T) (hk : ¬ (1 ≤ k ∧ k ≤ T.length)) :
    Calls Try.prog 43 #[.pointer (some ⟨b, 0, none⟩), .int .i64 k] w fun e w' => e = .returned (.tuple #[.slice none 0 0, .bool false]) ∧ w' = w := by
  have c1 := h.c1
  obtain ⟨x, c, rfl⟩ := h.lst.form
  clear h
  by_cases h0 : k < 1
  · clear hk
    go_enter Try.func43, Try.ntmps43
    go_wp2
    go_ret2
    exact ⟨rfl, rfl⟩
  · have h2 : (T.length : Int) < k := by omega
    clear hk
    go_enter Try.func43, Try.ntmps43
    go_wp2
    go_ret2
    exact ⟨rfl, rfl⟩
end Go.Proofs.Ytahpnnjemjjfhaa
