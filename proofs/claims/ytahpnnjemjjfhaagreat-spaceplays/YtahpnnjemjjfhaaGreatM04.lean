/-
  The modules StockB, Side, one behind another.
-/
import Derived.Laws.Cover3
import Derived.Deep.CutBlock
import Derived.Test.YtahpnnjemjjfhaaGreatM03
/-
  Contracts of package stock: what Take calls; Take; Side; and the document's own.
-/
namespace Go.Proofs.YtahpnnjemjjfhaaGreat
open Go.RowKit

theorem lst_empty (w : World) : Lst (w.alloc (.cells #[] 3)) w.heap.size (.slice (some ⟨w.heap.size, 0, none⟩) 0 0) [] :=
  World.ownsRow_made w _ 0 (Nat.le_refl _) (by unfold maxLen; omega) (by simp)

theorem sfresh_of {w w' w2 : World} {v : Value} {N : List Int} {D : List Nat} (l : Lst w2 w.heap.size v N) (k : Kept w w') (m : Mut D w' w2) (hd : ∀ k, k ∈ D → w.heap.size ≤ k) : Lst w2 w.heap.size v N ∧ Kept w w2 := ⟨l, k.muts m hd⟩

set_option maxHeartbeats 1000000 in
theorem scopy_any {x : Option Addr} {c : Nat} {N : List Int} (w : World) (hx : Rdi w x N) (hn : N.length ≤ 1000000) :
    Calls Tryz.prog 144 #[.slice x N.length c] w fun e w' => ∃ v, e = .returned v ∧ Lst w' w.heap.size v N ∧ Kept w w' := by
  have HX : Hid (Rdi (w.alloc (.cells #[] 3)) x N) := hx.kept ((Kept.refl w).alloc _ _)
  have HL : Hid _ := lst_empty w
  have z1 : w.heap.size ≤ (w.alloc (.cells #[] 3)).heap.size := by simp
  have z2 : ([] : List Int).length + N.length ≤ 1000000 := by simpa using hn
  clear hx hn
  go_enter Tryz.func144, Tryz.ntmps144
  go_wp2_with (at_builtin; refine wpList_append_lst (T := []) (N := N) rfl _ _ rfl rfl HL.out z1 rfl rfl HX.out z2 ?_)
  intro v2 w2 l2 m2 f2
  have H2 : Hid (Lst w2 w.heap.size v2 N ∧ Kept w w2) := ⟨by simpa using l2, ((Kept.refl w).alloc _ _).muts m2 (by simp [Value.ownBlock])⟩
  clear l2 m2 f2 z1 z2
  obtain ⟨y2, d2, rfl⟩ := H2.out.1.form
  go_wp2
  go_ret
  exact ⟨_, rfl, H2.out⟩

set_option maxHeartbeats 1000000 in
theorem sclone_any {a : Addr} {c : Nat} {N : List Int} (w : World) (hx : Rdi w (some a) N) (hn : N.length ≤ 1000000) :
    Calls Tryz.prog 130 #[.slice (some a) N.length c] w fun e w' => ∃ v, e = .returned v ∧ Lst w' w.heap.size v N ∧ Kept w w' := by
  have HX : Hid (Rdi (w.alloc (.cells #[] 3)) (some a) N) := hx.kept ((Kept.refl w).alloc _ _)
  have HL : Hid _ := lst_empty w
  have z1 : w.heap.size ≤ (w.alloc (.cells #[] 3)).heap.size := by simp
  have z2 : ([] : List Int).length + N.length ≤ 1000000 := by simpa using hn
  clear hx hn
  have hnil : ∀ w : World, (binOp .eql 55 (.slice (some a) N.length c) (.slice none 0 0)).run Tryz.prog w = .ok (.bool false) w := fun w => by
    have := run_equal_slice_nil (P := Tryz.prog) w 55 3 (some a) N.length c Tryz.underlying55
    simp [binOp, this]
  go_enter Tryz.func130, Tryz.ntmps130
  go_wp2_with (at_builtin; refine wpList_append_lst (T := []) (N := N) rfl _ _ rfl rfl HL.out z1 rfl rfl HX.out z2 ?_)
  intro v2 w2 l2 m2 f2
  have H2 : Hid (Lst w2 w.heap.size v2 N ∧ Kept w w2) := ⟨by simpa using l2, ((Kept.refl w).alloc _ _).muts m2 (by simp [Value.ownBlock])⟩
  clear l2 m2 f2 z1 z2
  obtain ⟨y2, d2, rfl⟩ := H2.out.1.form
  go_wp2
  go_ret
  exact ⟨_, rfl, H2.out⟩

/-- The worlds behind Delete's append, and behind its clear. -/
theorem sdelete_worlds {w : World} {base g k m cap : Nat} {T : List Int} (h : Lst w base (.slice (some ⟨g, 0, none⟩) T.length cap) T) (hk : T.length = k + m) (W1 W2 : World)
    (h1 : W1 = w.drew.setCells g 0 ((T.drop k).map (Value.int .i64))) (h2 : W2 = W1.setCells g m (List.replicate k (Value.int .i64 0))) :
    (∀ j, j < k → (W1.cell? ⟨g, m + j, none⟩).isSome = true) ∧ (∀ j, j < k → W1.frozen? ⟨g, m + j, none⟩ = false) ∧ Lst W2 base (.slice (some ⟨g, 0, none⟩) m cap) (T.drop k) ∧ Mut [g] w W2 := by
  obtain ⟨hl, hm, hb, f, hf, hv⟩ := h.row
  have hf0 : w.drew.rowIs g 3 cap f := hf
  have r1 := rowIs_setCells ((T.drop k).map (Value.int .i64)) 0 w.drew f hf0
  rw [← h1] at r1
  have r2 := rowIs_setCells (List.replicate k (Value.int .i64 0)) m W1 _ r1
  rw [← h2] at r2
  refine ⟨fun j hj => by rw [r1.cell (by omega)]; rfl, fun j _ => r1.frozen _, ?_, ?_⟩
  · have hlen : (T.drop k).length = m := by simp; omega
    have := lst_of_row (T := T.drop k) (base := base) r2 (fun j hj => ?_) (by omega) hm hb
    · rwa [hlen] at this
    · rw [hlen] at hj
      rw [if_neg (by omega), if_pos (by simp; omega)]
      simp [show k + j < T.length by omega]
  · rw [h2, h1]
    exact ((Mut.refl [g] w).drew.trans (mut_setCells (by simp) _ _ _)).trans (mut_setCells (by simp) _ _ _)

set_option maxHeartbeats 4000000 in
theorem sdelete_any {base g k m cap : Nat} {T : List Int} (w : World) (h : Lst w base (.slice (some ⟨g, 0, none⟩) T.length cap) T) (hk : T.length = k + m) (hk0 : 0 < k) (hc : T.length ≤ 1000000) :
    Calls Tryz.prog 131 #[.slice (some ⟨g, 0, none⟩) T.length cap, .int .i64 0, .int .i64 (k : Int)] w fun e w' => e = .returned (.slice (some ⟨g, 0, none⟩) m cap) ∧ Lst w' base (.slice (some ⟨g, 0, none⟩) m cap) (T.drop k) ∧ Mut [g] w w' := by
  obtain ⟨hl, hm, hb, f, hf, hv⟩ := h.row
  obtain ⟨W1, h1⟩ : ∃ W1, W1 = w.drew.setCells g 0 ((T.drop k).map (Value.int .i64)) := ⟨_, rfl⟩
  obtain ⟨W2, h2⟩ : ∃ W2, W2 = W1.setCells g m (List.replicate k (Value.int .i64 0)) := ⟨_, rfl⟩
  obtain ⟨d1, d2, d3⟩ := sdelete_worlds h hk W1 W2 h1 h2
  obtain ⟨i0, hi0, hz0, hz1, hz2⟩ := info_parts info_int9
  have hcl : ∀ ty, (Builtin.clear_ #[55] ty #[.slice (some ⟨g, m, none⟩) k (cap - m)]).run Tryz.prog W1 = .ok (.tuple #[]) W2 := fun ty => by
    rw [h2]
    exact Lib.run_clear_slice W1 _ _ ty (.int .i64 0) Tryz.underlying55 (fun w => by simp [zeroValue, typeInfo, hi0, hz0]) rfl rfl g m k _ hk0 d1 d2
  have HD : Hid (Lst W2 base (.slice (some ⟨g, 0, none⟩) m cap) (T.drop k) ∧ Mut [g] w W2) := d3
  have hlen : ((T.drop k).map (Value.int .i64)).length = m * 1 := by simp; omega
  have hone : ∀ u ∈ (T.drop k).map (Value.int .i64), u.oneCell' = true := ints_oneCell _ _
  have hsp : ∀ j, j < ((T.drop k).map (Value.int .i64)).length → (w.drew.cell? ⟨g, 0 + 0 * 1 + j, none⟩).isSome = true ∧ w.drew.frozen? ⟨g, 0 + 0 * 1 + j, none⟩ = false := fun j hj => by
    have hj' : j < m := by rw [hlen] at hj; omega
    have hf0 : w.drew.rowIs g 3 cap f := hf
    simp only [Nat.zero_mul, Nat.zero_add]
    exact ⟨by rw [hf0.cell (by omega)]; rfl, hf0.frozen _⟩
  have hsrc : ∀ (o : Nat), (o = k ∨ m = 0) → ∀ j u, ((T.drop k).map (Value.int .i64))[j]? = some u → w.drew.cell? ((⟨g, o, none⟩ : Addr).add j) = some u := fun o ho j u hu => by
    have hj : j < m := by have := (List.getElem?_eq_some_iff.1 hu).1; rw [hlen] at this; omega
    rcases ho with rfl | ho
    · have hr := (h.rdi.drop (w := w) o).news j u hu
      simpa using hr
    · omega
  have SP : Hid _ := hsp
  have SR : Hid _ := hsrc
  have SO : Hid _ := hone
  have SL : Hid _ := hlen
  have HW : Hid (W1 = w.drew.setCells g 0 ((T.drop k).map (Value.int .i64))) := h1
  rw [hk] at hl hc ⊢
  generalize (T.drop k).map (Value.int .i64) = news at *
  clear hsp hsrc hone hlen h1 h2 d1 d2 d3 h hf hv f hm hb
  have e1 : ((k : Int) == 0) = false := by simp; omega
  have e2 : ((0 : Int) == (k : Int)) = false := by simp; omega
  by_cases hck : cap = k
  · obtain rfl : m = 0 := by omega
    subst hck
    simp only [Nat.sub_zero] at hcl
    go_enter Tryz.func131, Tryz.ntmps131
    go_wp2_with fail
    go_region_law (refine step_append_room rfl (.tmp 22) (.tmp 25) 55 rfl 3 i0 1 Tryz.underlying55 hi0 hz1 g 0 0 cap (by simp [Act.eval, Act.put]) ⟨g, 0, none⟩ 0 0 news (by simp [Act.eval, Act.put]) SL.out (SR.out 0 (by simp)) SO.out (by omega) SP.out ?_)
    rw [← HW.out]
    go_wp2
    go_ret
    exact ⟨rfl, HD.out⟩
  · have z : m ≤ cap - k := by omega
    have q1 : (k : Int) ≤ (k : Int) + (m : Int) := by omega
    go_enter Tryz.func131, Tryz.ntmps131
    go_wp2_with fail
    go_region_law (refine step_append_room rfl (.tmp 22) (.tmp 25) 55 rfl 3 i0 1 Tryz.underlying55 hi0 hz1 g 0 0 cap (by simp [Act.eval, Act.put]) ⟨g, k, none⟩ m (cap - k) news (by simp [Act.eval, Act.put]) SL.out (SR.out k (.inl rfl)) SO.out (by omega) SP.out ?_)
    rw [← HW.out]
    go_wp2
    go_ret
    exact ⟨rfl, HD.out⟩

set_option maxHeartbeats 1000000 in
theorem stake_yes {base b most k : Nat} {v : Value} {T : List Int} (w : World) (h : STab 131 w base b most v T) (hk0 : 1 ≤ k) (hk : k ≤ T.length) :
    Calls Tryz.prog 79 #[.pointer (some ⟨b, 0, none⟩), .int .i64 (k : Int)] w fun e w' => ∃ va v', e = .returned (.tuple #[va, .bool true]) ∧ Lst w' w.heap.size va (T.take k) ∧ STab 131 w' base b most v' (T.drop k) ∧ Mut (b :: v.ownBlock.toList) w w' ∧ Fresh w v v' ∧ ∀ q, va.ownBlock = some q → v'.ownBlock ≠ some q := by
  have h1 := h.few
  have h2 := h.max
  obtain ⟨x, c, rfl⟩ := h.lst.form
  obtain ⟨g, o, rfl, hg, _⟩ := h.lst.rdi (by omega)
  obtain rfl : o = 0 := by
    rcases h.lst.2 with ⟨e, _⟩ | ⟨g', cap, cur, e, _⟩
    · cases e
    · have := (Value.slice.inj e).1; simp at this; exact this.2
  obtain ⟨hc, _, _, _⟩ := h.lst.row
  have HT : Hid (STab 131 w base b most (.slice (some ⟨g, 0, none⟩) T.length c) T) := h
  have c1 := h.c1
  have R1 : Hid (Rdi w (some ⟨g, 0, none⟩) (T.take k) ∧ (T.take k).length = k) := ⟨h.lst.rdi.take k, by simp; omega⟩
  clear h
  have HC := sclone_any (c := c) w R1.out.1 (by rw [R1.out.2]; omega)
  rw [R1.out.2] at HC
  go_enter Tryz.func79, Tryz.ntmps79
  go_wp2_with fail
  refine HC.mono ?_
  rintro e w2 ⟨va, rfl, l2, k2⟩
  have H2 : Hid (STab 131 w2 base b most (.slice (some ⟨g, 0, none⟩) T.length c) T ∧ Lst w2 w.heap.size va (T.take k) ∧ Kept w w2) := ⟨HT.out.kept k2, l2, k2⟩
  obtain ⟨ya, da, rfl⟩ := l2.form
  rw [R1.out.2] at H2 ⊢
  clear l2 k2 c1 HC
  have c1 := H2.out.1.c1
  go_wp2_with fail
  refine (sdelete_any (k := k) (m := T.length - k) _ H2.out.1.lst (by omega) (by omega) (by omega)).mono ?_
  rintro e w3 ⟨rfl, l3, m3⟩
  have hD : (T.drop k).length = T.length - k := by simp
  have O3 : Own w3 b 131 [.int .i64 (most : Int), .slice (some ⟨g, 0, none⟩) T.length c] := H2.out.1.head.muts m3 (by have := H2.out.1.ne; simp [Value.ownBlock] at this; simp; omega)
  have H3 : Hid (Lst (w3.setCell ⟨b, 1, none⟩ (.slice (some ⟨g, 0, none⟩) (T.length - k) c)) w.heap.size (.slice ya k da) (T.take k) ∧ STab 131 (w3.setCell ⟨b, 1, none⟩ (.slice (some ⟨g, 0, none⟩) (T.length - k) c)) base b most (.slice (some ⟨g, 0, none⟩) (T.length - k) c) (T.drop k) ∧ Mut (b :: (Value.slice (some ⟨g, 0, none⟩) T.length c).ownBlock.toList) w (w3.setCell ⟨b, 1, none⟩ (.slice (some ⟨g, 0, none⟩) (T.length - k) c)) ∧ Fresh w (Value.slice (some ⟨g, 0, none⟩) T.length c) (.slice (some ⟨g, 0, none⟩) (T.length - k) c) ∧ ∀ q, (Value.slice ya k da).ownBlock = some q → (Value.slice (some ⟨g, 0, none⟩) (T.length - k) c).ownBlock ≠ some q) := by
    refine ⟨?_, H2.out.1.turn O3 l3 (by omega), ?_, fun q hq => .inl hq, fun q hq hq2 => ?_⟩
    · have := (H2.out.2.1.muts m3 (fun q hq => by have := (H2.out.2.1.lt q hq).1; simp; omega))
      exact this.muts (D := [b]) ((Mut.refl _ _).setCell (by simp) _) (fun q hq => by have := (H2.out.2.1.lt q hq).1; have := HT.out.ltb; simp; omega)
    · exact (H2.out.2.2.mut.trans (m3.wide (fun q hq => by simp at hq; subst hq; simp [Value.ownBlock]))).setCell (by simp) _
    · have := (H2.out.2.1.lt q hq).1
      simp [Value.ownBlock] at hq2
      omega
  have cf : ∀ i, w3.frozen? ⟨b, i, none⟩ = false := fun i => O3.blk.fz i
  have c3 := O3.blk.at 1 rfl
  clear l3 m3 c1 O3
  go_wp2
  go_ret2
  exact ⟨_, _, rfl, H3.out⟩

set_option maxHeartbeats 1000000 in
theorem stake_no {base b most : Nat} {v : Value} {T : List Int} (k : Int) (w : World) (h : STab 131 w base b most v T) (hk : ¬ (1 ≤ k ∧ k ≤ T.length)) :
    Calls Tryz.prog 79 #[.pointer (some ⟨b, 0, none⟩), .int .i64 k] w fun e w' => e = .returned (.tuple #[.slice none 0 0, .bool false]) ∧ w' = w := by
  have c1 := h.c1
  obtain ⟨x, c, rfl⟩ := h.lst.form
  clear h
  by_cases h0 : k < 1
  · clear hk
    go_enter Tryz.func79, Tryz.ntmps79
    go_wp2
    go_ret2
    exact ⟨rfl, rfl⟩
  · have h2 : (T.length : Int) < k := by omega
    clear hk
    go_enter Tryz.func79, Tryz.ntmps79
    go_wp2
    go_ret2
    exact ⟨rfl, rfl⟩
set_option maxHeartbeats 1000000 in
theorem srtake_no {base b most : Nat} {v : Value} {T : List Int} (k : Int) (w : World) (h : STab 102 w base b most v T) (hk : ¬ (1 ≤ k ∧ k ≤ T.length)) :
    Calls Tryz.prog 95 #[.pointer (some ⟨b, 0, none⟩), .int .i64 k] w fun e w' => e = .returned (.tuple #[.slice none 0 0, .bool false]) ∧ w' = w := by
  have c1 := h.c1
  obtain ⟨x, c, rfl⟩ := h.lst.form
  clear h
  by_cases h0 : k < 1
  · clear hk
    go_enter Tryz.func95, Tryz.ntmps95
    go_wp2
    go_ret2
    exact ⟨rfl, rfl⟩
  · have h2 : (T.length : Int) < k := by omega
    clear hk
    go_enter Tryz.func95, Tryz.ntmps95
    go_wp2
    go_ret2
    exact ⟨rfl, rfl⟩

set_option maxHeartbeats 1000000 in
theorem srtake_yes {base b most k : Nat} {v : Value} {T : List Int} (w : World) (h : STab 102 w base b most v T) (hk0 : 1 ≤ k) (hk : k ≤ T.length) :
    Calls Tryz.prog 95 #[.pointer (some ⟨b, 0, none⟩), .int .i64 (k : Int)] w fun e w' => ∃ va v', e = .returned (.tuple #[va, .bool true]) ∧ Lst w' w.heap.size va (T.take k) ∧ STab 102 w' base b most v' (T.drop k) ∧ Mut (b :: v.ownBlock.toList) w w' ∧ Fresh w v v' ∧ ∀ q, va.ownBlock = some q → v'.ownBlock ≠ some q := by
  have h1 := h.few
  have h2 := h.max
  obtain ⟨x, c, rfl⟩ := h.lst.form
  obtain ⟨g, o, rfl, hg, _⟩ := h.lst.rdi (by omega)
  obtain rfl : o = 0 := by
    rcases h.lst.2 with ⟨e, _⟩ | ⟨g', cap, cur, e, _⟩
    · cases e
    · have := (Value.slice.inj e).1; simp at this; exact this.2
  obtain ⟨hc, _, _, _⟩ := h.lst.row
  have HT : Hid (STab 102 w base b most (.slice (some ⟨g, 0, none⟩) T.length c) T) := h
  have c1 := h.c1
  have R1 : Hid (Rdi w (some ⟨g, 0, none⟩) (T.take k) ∧ (T.take k).length = k ∧ (T.drop k).length = T.length - k) := ⟨h.lst.rdi.take k, by simp; omega, by simp⟩
  clear h
  have HC := scopy_any (c := c) w R1.out.1 (by rw [R1.out.2.1]; omega)
  rw [R1.out.2.1] at HC
  go_enter Tryz.func95, Tryz.ntmps95
  go_wp2_with fail
  refine HC.mono ?_
  rintro e w2 ⟨va, rfl, l2, k2⟩
  have H2 : Hid (STab 102 w2 base b most (.slice (some ⟨g, 0, none⟩) T.length c) T ∧ Lst w2 w.heap.size va (T.take k) ∧ Kept w w2) := ⟨HT.out.kept k2, l2, k2⟩
  obtain ⟨ya, da, rfl⟩ := l2.form
  rw [R1.out.2.1] at H2 ⊢
  clear l2 k2 c1 HC
  have c1 := H2.out.1.c1
  have q1 : (k : Int) ≤ (T.length : Int) := by omega
  have key : ∀ (y : Option Addr) (d : Nat), (¬ c = k → y = some ⟨g, k, none⟩) → Calls Tryz.prog 144 #[.slice y (T.length - k) d] w2 fun e w' => ∃ v, e = .returned v ∧ Lst w' w2.heap.size v (T.drop k) ∧ Kept w2 w' := fun y d hy => by
    rw [← R1.out.2.2]
    refine scopy_any w2 ?_ (by rw [R1.out.2.2]; omega)
    by_cases hck : c = k
    · rw [List.drop_eq_nil_of_le (by omega)]; exact Rdi.nil
    · rw [hy hck]
      have := H2.out.1.lst.rdi.drop k
      simpa using this
  have HK : Hid _ := key
  clear key
  have fin : ∀ (w3 : World) (y3 : Option Addr) (d3 : Nat), Lst w3 w2.heap.size (.slice y3 (T.length - k) d3) (T.drop k) → Kept w2 w3 → Lst (w3.setCell ⟨b, 1, none⟩ (.slice y3 (T.length - k) d3)) w.heap.size (.slice ya k da) (T.take k) ∧ STab 102 (w3.setCell ⟨b, 1, none⟩ (.slice y3 (T.length - k) d3)) base b most (.slice y3 (T.length - k) d3) (T.drop k) ∧ Mut (b :: (Value.slice (some ⟨g, 0, none⟩) T.length c).ownBlock.toList) w (w3.setCell ⟨b, 1, none⟩ (.slice y3 (T.length - k) d3)) ∧ Fresh w (Value.slice (some ⟨g, 0, none⟩) T.length c) (.slice y3 (T.length - k) d3) ∧ ∀ q, (Value.slice ya k da).ownBlock = some q → (Value.slice y3 (T.length - k) d3).ownBlock ≠ some q := by
    intro w3 y3 d3 l3 k3
    have s0 := H2.out.2.2.size
    have O3 := H2.out.1.head.kept k3
    refine ⟨?_, H2.out.1.turn O3 (l3.low (by have := H2.out.1.lo; have := H2.out.1.ltb; omega)) (by simp; omega), ?_, fun q hq => .inr (by have := (l3.lt q hq).1; omega), fun q hq hq3 => ?_⟩
    · exact (H2.out.2.1.kept k3).muts (D := [b]) ((Mut.refl _ _).setCell (by simp) _) (fun q hq => by have := (H2.out.2.1.lt q hq).1; have := HT.out.ltb; simp; omega)
    · exact ((H2.out.2.2.trans k3).mut).setCell (by simp) _
    · have := (H2.out.2.1.lt q hq).2
      have := (l3.lt q hq3).1
      omega
  have HFin : Hid _ := fin
  clear fin
  by_cases hck : c = k
  all_goals go_wp2_with fail
  all_goals (refine (HK.out _ _ (by simp [hck])).mono ?_)
  all_goals (rintro e w3 ⟨v3, rfl, l3, k3⟩)
  all_goals obtain ⟨y3, d3, e3⟩ := l3.form
  all_goals (rw [R1.out.2.2] at e3; subst e3)
  all_goals have H3 : Hid (_ ∧ _) := HFin.out w3 y3 d3 l3 k3
  all_goals (have cf : ∀ i, w3.frozen? ⟨b, i, none⟩ = false := fun i => (H2.out.1.head.kept k3).blk.fz i)
  all_goals (have c3 := (H2.out.1.head.kept k3).blk.at 1 rfl)
  all_goals clear l3 k3 c1
  all_goals go_wp2
  all_goals go_ret2
  all_goals exact ⟨_, _, rfl, H3.out⟩
end Go.Proofs.YtahpnnjemjjfhaaGreat

/-
  Side: whether each number is one more than the one ahead; the comparison of two lists.
-/
namespace Go.Proofs.YtahpnnjemjjfhaaGreat
open Go.RowKit

/-- Of the first n numbers, is each one more than the one ahead? -/
def sideU (L : Nat → Int) : Nat → Bool
  | 0 => true
  | n + 1 => sideU L n && (n == 0 || L n == L (n - 1) + 1)

theorem ssideU_no {L : Nat → Int} {k : Nat} : ∀ {l : Nat}, k ≤ l → sideU L k = false → sideU L l = false
  | 0, h, e => by obtain rfl : k = 0 := by omega
                  exact e
  | l + 1, h, e => by
    by_cases hk : k = l + 1
    · subst hk; exact e
    · have := ssideU_no (l := l) (by omega) e
      simp [sideU, this]
theorem ssideU_yes {L : Nat → Int} : ∀ {l : Nat}, (∀ j, j + 1 < l → L (j + 1) = L j + 1) → sideU L l = true
  | 0, _ => rfl
  | l + 1, h => by
    rw [sideU, ssideU_yes (l := l) (fun j hj => h j (by omega))]
    cases l with
    | zero => rfl
    | succ l => simpa using h l (by omega)
theorem sideU_at {L : Nat → Int} {k l : Nat} (hk : k + 1 < l) (h : L (k + 1) ≠ L k + 1) : sideU L l = false :=
  ssideU_no (k := k + 2) (by omega) (by simp [sideU, h])

theorem bnd {p : Int} (h : IntKind.min .i64 ≤ p ∧ p ≤ IntKind.max .i64) : -9223372036854775808 ≤ p ∧ p ≤ 9223372036854775807 := by
  have e1 : IntKind.min .i64 = -9223372036854775808 := by decide
  have e2 : IntKind.max .i64 = 9223372036854775807 := by decide
  rwa [e1, e2] at h

/-- l numbers that are read at x. -/
def Rdf (w : World) (x : Option Addr) (l : Nat) (L : Nat → Int) : Prop := 0 < l → ∃ g o, x = some ⟨g, o, none⟩ ∧ g < w.heap.size ∧ ∀ j, j < l → w.cell? ⟨g, o + j, none⟩ = some (.int .i64 (L j))
theorem Rdf.kept {w w' : World} {x : Option Addr} {l : Nat} {L : Nat → Int} (h : Rdf w x l L) (k : Kept w w') : Rdf w' x l L := fun h0 => by
  obtain ⟨g, o, e, hl, hc⟩ := h h0
  exact ⟨g, o, e, Nat.lt_of_lt_of_le hl k.size, fun j hj => (k.cell hl).trans (hc j hj)⟩

set_option maxHeartbeats 2000000 in
theorem side_any {x : Option Addr} {l c : Nat} {L : Nat → Int} (w : World) (hl : (l : Int) ≤ 1000000) (hx : Rdf w x l L) (hB : ∀ j, j < l → IntKind.min .i64 ≤ L j ∧ L j ≤ IntKind.max .i64) :
    Calls Tryz.prog 134 #[.slice x l c] w fun e w' => e = .returned (.bool (sideU L l)) ∧ Kept w w' := by
  have HX : Hid (Rdf w x l L) := hx
  have HB : Hid _ := hB
  clear hx hB
  go_enter Tryz.func134, Tryz.ntmps134
  go_wp2
  go_loopg [3] l (fun m i wr => ∃ k : Nat, i = .int .i64 k ∧ 1 ≤ k ∧ (k ≤ l ∨ k = 1) ∧ m = l + 1 - k ∧ Hid (sideU L k = true ∧ Kept w wr))
  case atStart => exact ⟨1, rfl, by omega, by omega, by omega, rfl, Kept.refl _⟩
  case round =>
    obtain ⟨k, rfl, h1, hk, hm, hw⟩ := hrel
    have HM : Hid _ := hm
    have HKK : Hid _ := hk
    clear hm hk
    by_cases hlt : k < l
    · obtain ⟨i, rfl⟩ : ∃ i, k = i + 1 := ⟨k - 1, by omega⟩
      obtain ⟨g, o, rfl, hg, cc⟩ := HX.out.kept hw.out.2 (by omega)
      have c1 := cc (i + 1) hlt
      have c2 := cc i (by omega)
      have b1 := bnd (HB.out (i + 1) hlt)
      have b2 := bnd (HB.out i (by omega))
      have d1 := fun z : KW wr => z.cell hg c1
      have d2 := fun z : KW wr => z.cell hg c2
      have HS : Hid (L (i + 1) ≠ L i + 1 → sideU L l = false) := fun h => sideU_at hlt h
      have HY : Hid (L (i + 1) = L i + 1 → sideU L (i + 1 + 1) = true) := fun h => by
        rw [sideU, hw.out.1]
        simp [h]
      clear cc c1 c2
      generalize L (i + 1) = p at *
      generalize L i = q at *
      have g5 : ((i + 1 : Nat) : Int) - 1 = (i : Int) := by omega
      have g5a : (i : Int) + 1 - 1 = (i : Int) := by omega
      by_cases hA : p ≤ q
      · have e1 : decide (p ≤ q) = true := decide_eq_true hA
        have HE : Hid _ := HS.out (by omega)
        go_upto_region 4 with fail
        refine wp_region_kept (by kernel_rfl) (by kernel_rfl) fun _ => ?_
        repeat (go_big_quiet_step (fail))
        refine wpQuiet_nil ?_
        rintro _ ⟨z, rfl⟩
        clear d1 d2
        go_wp2
        go_ret
        exact ⟨by rw [HE.out]; rfl, hw.out.2.trans z.ok⟩
      · have e1 : decide (p ≤ q) = false := decide_eq_false hA
        by_cases hC : p = q + 1
        · subst hC
          have e2 : ((q + 1 - 1 : Int) != q) = false := by simp
          have e3 : ((q : Int) != q) = false := by simp
          go_upto_region 4 with fail
          refine wp_region_kept (by kernel_rfl) (by kernel_rfl) fun _ => ?_
          repeat (go_big_quiet_step (fail))
          refine wpQuiet_nil ?_
          rintro _ ⟨z, rfl⟩
          clear d1 d2
          go_wp2
          go_roundg (gk - 1)
          all_goals (have := HM.out; try omega)
          exact ⟨i + 1 + 1, by go_num, by omega, by omega, by omega, HY.out (by simp), hw.out.2.trans z.ok⟩
        · have e2 : ((p - 1 : Int) != q) = true := by simp; omega
          have HE : Hid _ := HS.out (by omega)
          go_upto_region 4 with fail
          refine wp_region_kept (by kernel_rfl) (by kernel_rfl) fun _ => ?_
          repeat (go_big_quiet_step (fail))
          refine wpQuiet_nil ?_
          rintro _ ⟨z, rfl⟩
          clear d1 d2
          go_wp2
          go_ret
          exact ⟨by rw [HE.out]; rfl, hw.out.2.trans z.ok⟩
    · have HE : Hid (sideU L l = true) := by
        rcases HKK.out with h | h
        · obtain rfl : l = k := by omega
          exact hw.out.1
        · subst h
          rcases (show l = 0 ∨ l = 1 by omega) with rfl | rfl
          · exact rfl
          · exact rfl
      go_wp2
      go_ret
      exact ⟨by rw [HE.out]; rfl, hw.out.2⟩
set_option maxHeartbeats 1000000 in
theorem ints_any {x y : Option Addr} {c d : Nat} {T : List Int} (w : World) (hl : T.length ≤ 1000000) (hx : Rdi w x T) (hy : Rdi w y T) :
    Calls Tryz.prog 31 #[.slice x T.length c, .slice y T.length d] w fun e w' => e = .returned (.bool true) ∧ Kept w w' := by
  have HX : Hid (Rdi w x T ∧ Rdi w y T) := ⟨hx, hy⟩
  clear hx hy
  have h0 : ((T.length : Int) != (T.length : Int)) = false := by simp
  go_enter Tryz.func31, Tryz.ntmps31
  go_wp2
  clear h0
  go_loopg [5] T.length (fun m i wr => ∃ k : Nat, i = .int .i64 k ∧ k ≤ T.length ∧ m = T.length - k ∧ Hid (Kept w wr))
  case atStart => exact ⟨0, rfl, by omega, by omega, Kept.refl _⟩
  case round =>
    obtain ⟨k, rfl, hk, hm, hw⟩ := hrel
    have HM : Hid _ := hm
    clear hm
    by_cases hlt : k < T.length
    · obtain ⟨g, o, rfl, _, c1⟩ := HX.out.1.kept hw.out (by omega)
      obtain ⟨g2, o2, rfl, _, c2⟩ := HX.out.2.kept hw.out (by omega)
      have d1 := c1 k hlt
      have d2 := c2 k hlt
      clear c1 c2
      generalize T[k] = tk at *
      generalize T.length = L at *
      have q0 : (tk != tk) = false := by simp
      go_wp2
      go_region
      all_goals go_wp2
      all_goals go_roundg (gk - 1)
      all_goals (have := HM.out; try omega)
      all_goals exact ⟨k + 1, by go_num, by omega, by omega, hw.out.drew⟩
    · obtain e : k = T.length := by omega
      generalize T.length = L at *
      subst e
      go_wp2
      go_ret
      exact ⟨rfl, hw.out⟩
end Go.Proofs.YtahpnnjemjjfhaaGreat

