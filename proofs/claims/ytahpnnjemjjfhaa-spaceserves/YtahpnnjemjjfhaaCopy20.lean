/-
  Contracts of package conf's Copy and of what it calls: the same, in new blocks; what was there is kept.
-/
import Derived.Test.YtahpnnjemjjfhaaConf12
import Derived.Laws.CopyOwn
import Derived.Deep.OwnRows
import Derived.Laws.Rows
import Derived.Laws.ResultCell
namespace Go.Proofs.Ytahpnnjemjjfhaa
open Go.RowKit Go.ChangeShapes Go.WideShapes

theorem Kept.setRow {w w' : World} (h : Kept w w') {g : Nat} (hg : w.heap.size ≤ g) (cs : Array Value) : Kept w (w'.setRow g cs) := ⟨below_setRow h.below hg cs⟩

theorem run_loadVar_blk {P : Program} (w : World) (g : Nat) (ty : TypeId) (L : List Value) {fs : Array Field} (hb : Blk w g L) (hu : P.underlying ty = some (.struct fs)) (hi : (P.info? ty).map (·.size) = some L.length) :
    (loadVar ty ⟨g, 0, none⟩).run P w = .ok (.agg L.toArray) w := by
  have hl : (loadCells ⟨g, 0, none⟩ L.length).run P w = .ok L.toArray w :=
    run_loadCells_list (P := P) w ⟨g, 0, none⟩ L (fun j v hv => by
      have hadd : (⟨g, 0, none⟩ : Addr).add j = ⟨g, j, none⟩ := by unfold Addr.add; split <;> simp_all
      rw [hadd]
      exact hb.cells j v hv)
  cases hq : P.info? ty with
  | none => simp [hq] at hi
  | some i =>
    have hs : i.size = L.length := by simpa [hq] using hi
    have hagg : (isAgg ty).run P w = .ok true w := by simp [isAgg, run_underlying hu]
    simp [loadVar, hagg, sizeOf, typeInfo, hq, hs, hl]

theorem results_blk {P : Program} {fn : Func} {p : Tmp} {ty : TypeId} (h : fn.results = #[.cell p ty]) (tmps : Array Value) (w : World) (g : Nat) (L : List Value) {fs : Array Field}
    (hp : tmps.getD p undef = .pointer (some ⟨g, 0, none⟩)) (hb : Blk w g L) (hu : P.underlying ty = some (.struct fs)) (hi : (P.info? ty).map (·.size) = some L.length) :
    (results fn tmps).run P w = .ok (.agg L.toArray) w := by
  have hp' : tmps[p]?.getD undef = .pointer (some ⟨g, 0, none⟩) := by simpa using hp
  simp [results, h, hp', asAddr, run_loadVar_blk w g ty L hb hu hi]

theorem results_blk_tmp {P : Program} {fn : Func} {p u : Tmp} {ty : TypeId} (h : fn.results = #[.cell p ty, .tmp u]) (tmps : Array Value) (w : World) (g : Nat) (L : List Value) {fs : Array Field}
    (hp : tmps.getD p undef = .pointer (some ⟨g, 0, none⟩)) (hb : Blk w g L) (hu : P.underlying ty = some (.struct fs)) (hi : (P.info? ty).map (·.size) = some L.length) :
    (results fn tmps).run P w = .ok (.tuple #[.agg L.toArray, tmps.getD u undef]) w := by
  rw [results_cell_tmp h, hp]
  simp [asAddr, run_loadVar_blk w g ty L hb hu hi, Result.andThen]

theorem Blk.new2 (w : World) (A : Array Value) (t : TypeId) (L : List Value) (u : TypeId) : Blk ((w.alloc (.cells A t)).alloc (.cells L.toArray u)) (w.heap.size + 1) L := by
  have h := Blk.new (w.alloc (.cells A t)) L u
  have e : (w.alloc (.cells A t)).heap.size = w.heap.size + 1 := by simp
  rwa [e] at h
theorem Blk.set_other {w : World} {b : Nat} {L : List Value} (h : Blk w b L) {a : Addr} (ha : a.block ≠ b) (v : Value) : Blk (w.setCell a v) b L :=
  ⟨by simpa using h.lt, fun j => (World.frozen?_setCell _ _ _ _).trans (h.fz j), fun j x e => (World.cell?_setCell_other w a ⟨b, j, none⟩ v (fun q => ha (congrArg Addr.block q))).trans (h.cells j x e)⟩
theorem Refs.set_other {w : World} {g o l : Nat} {R : Nat → Bool} (h : Refs w (some ⟨g, o, none⟩) l R) {a : Addr} (ha : a.block ≠ g) (v : Value) : Refs (w.setCell a v) (some ⟨g, o, none⟩) l R := fun h0 => by
  obtain ⟨b, q, e, hb, hc⟩ := h h0
  simp only [Option.some.injEq, Addr.mk.injEq, and_true] at e
  obtain ⟨rfl, rfl⟩ := e
  exact ⟨g, o, rfl, by simpa using hb, fun k hk => (World.cell?_setCell_other w a ⟨g, o + k, none⟩ v (fun q => ha (congrArg Addr.block q))).trans (hc k hk)⟩

/-- A block of truth values. -/
def Bt (w : World) (y : Nat) : Prop := ∃ c f, w.heap[y]? = some (.cells c 4 f)
theorem Bt.lt {w : World} {y : Nat} (h : Bt w y) : y < w.heap.size := by
  obtain ⟨c, f, h⟩ := h
  exact (Array.getElem?_eq_some_iff.1 h).1
theorem Bt.kept {w w' : World} {y : Nat} (h : Bt w y) (k : Kept w w') : Bt w' y := by
  have hl := h.lt
  obtain ⟨c, f, h⟩ := h
  exact ⟨c, f, (k.below.block y hl).trans h⟩
theorem Bt.muts {w w' : World} {y : Nat} {D : List Nat} (h : Bt w y) (m : Mut D w w') (hd : y ∉ D) : Bt w' y := by
  have hl := h.lt
  obtain ⟨c, f, h⟩ := h
  exact ⟨c, f, (m.block y hl hd).trans h⟩
theorem Bt.set_other {w : World} {y : Nat} (h : Bt w y) {a : Addr} (ha : a.block ≠ y) (v : Value) : Bt (w.setCell a v) y := by
  obtain ⟨c, f, h⟩ := h
  exact ⟨c, f, (Below.heap_setCell w a v y (Ne.symm ha)).trans h⟩

theorem info_bool : (Try.prog.info? 4).map (fun i => (i.zero, i.size, i.bytes)) = some (some (.bool false), 1, 1) := by kernel_rfl

set_option maxHeartbeats 1000000 in
theorem copy_shape (s : Sh) (R : Nat → Bool) (w : World) (hl : s.l ≤ 140737488351232) (hR : Refs w s.x s.l R) :
    Calls Try.prog 90 #[.agg #[.bool s.arr, .slice s.x s.l s.c]] w fun e w' => ∃ g, e = .returned (.agg #[.bool s.arr, .slice (some ⟨g, 0, none⟩) s.l s.l]) ∧ w.heap.size ≤ g ∧ (Refs w' (some ⟨g, 0, none⟩) s.l R ∧ Bt w' g) ∧ Kept w w' := by
  obtain ⟨b, x, l, c⟩ := s
  simp only at hl hR ⊢
  have hmk := run_make_row' (P := Try.prog) 34 4 (.bool false) 1 Try.underlying34 info_bool rfl .i64 .i64 l (by omega) (by omega)
  have HR : Hid (Refs w x l R) := hR
  clear hR
  obtain ⟨W3, hcp, K3, B0, B1, R3, T3⟩ : ∃ W3, (Builtin.copy_ #[34, 34] 3 #[.slice (some ⟨w.heap.size + 1 + 1, 0, none⟩) l l, .slice x l c]).run Try.prog (((w.alloc (.cells #[.bool b, .slice x l c] 56)).alloc (.cells #[.bool false, .slice none 0 0] 56)).alloc (.cells (madeCells #[.bool false] l) 4)) = .ok (goInt l) W3 ∧ Kept w W3 ∧
      Blk W3 w.heap.size [.bool b, .slice x l c] ∧ Blk W3 (w.heap.size + 1) [.bool false, .slice none 0 0] ∧ Refs W3 (some ⟨w.heap.size + 1 + 1, 0, none⟩) l R ∧ Bt W3 (w.heap.size + 1 + 1) := by
    generalize hW0 : w.alloc (.cells #[.bool b, .slice x l c] 56) = W0
    have z0 : W0.heap.size = w.heap.size + 1 := by rw [← hW0]; simp
    have b0 : Blk W0 w.heap.size [.bool b, .slice x l c] := by rw [← hW0]; exact Blk.new w _ _
    have k0 : Kept w W0 := by rw [← hW0]; exact (Kept.refl w).alloc _ _
    clear hW0
    generalize hW1 : W0.alloc (.cells #[.bool false, .slice none 0 0] 56) = W1
    have z1 : W1.heap.size = w.heap.size + 1 + 1 := by rw [← hW1]; simp [z0]
    have b1 : Blk W1 (w.heap.size + 1) [.bool false, .slice none 0 0] := by rw [← hW1, ← z0]; exact Blk.new W0 _ _
    have k1 : Kept W0 W1 := by rw [← hW1]; exact (Kept.refl W0).alloc _ _
    clear hW1
    have hrow : (W1.alloc (.cells (madeCells #[.bool false] l) 4)).heap[w.heap.size + 1 + 1]? = some (.cells (madeCells #[.bool false] l) 4 (0, 0)) := by rw [← z1]; exact heap_alloc_new _ _
    have k2 : Kept W1 (W1.alloc (.cells (madeCells #[.bool false] l) 4)) := (Kept.refl W1).alloc _ _
    have kk : Kept w (W1.alloc (.cells (madeCells #[.bool false] l) 4)) := (k0.trans k1).trans k2
    generalize W1.alloc (.cells (madeCells #[.bool false] l) 4) = W2 at *
    by_cases h0 : l = 0
    · subst h0
      exact ⟨W2, run_copy_none W2 _ _ _ 4 _ _ _ _ _ _ Try.underlying34 (by kernel_rfl) rfl, kk, (b0.kept k1).kept k2, b1.kept k2, fun h => by omega, _, _, hrow⟩
    · obtain ⟨a, o, rfl, ha, hc⟩ := HR.out (by omega)
      have hlen : ((List.range l).map fun k => Value.bool (R k)).length = l := by simp
      have hrun := run_copy_row (P := Try.prog) W2 34 34 3 4 (w.heap.size + 1 + 1) 0 l l ⟨a, o, none⟩ l c (madeCells #[.bool false] l) 4 ((List.range l).map fun k => Value.bool (R k)) Try.underlying34 (by kernel_rfl) hrow (by simp)
        (fun j v hj => by
          by_cases hjl : j < l
          · simp [hjl] at hj
            subst hj
            rw [add_plain]
            exact (kk.cell ha).trans (hc j hjl)
          · simp [hjl] at hj) (by simp [size_madeCells]) (by simp [Value.oneCell'])
      have hrw : List.take 0 (madeCells #[.bool false] l).toList ++ (List.range l).map (fun k => Value.bool (R k)) ++ List.drop (0 + l) (madeCells #[.bool false] l).toList = (List.range l).map (fun k => Value.bool (R k)) := by
        have : List.drop (0 + l) (madeCells #[.bool false] l).toList = [] := List.drop_eq_nil_of_le (by simp [size_madeCells])
        rw [this]
        simp
      rw [hlen, hrw] at hrun
      have k3 := k2.setRow (g := w.heap.size + 1 + 1) (by omega) ((List.range l).map fun k => Value.bool (R k)).toArray
      have hrow3 := setRow_heap W2 (w.heap.size + 1 + 1) _ ((List.range l).map fun k => Value.bool (R k)).toArray _ _ hrow
      refine ⟨_, hrun, (k0.trans k1).trans k3, (b0.kept k1).kept k3, b1.kept k3, fun _ => ⟨w.heap.size + 1 + 1, 0, rfl, ?_, fun k hk => ?_⟩, _, _, hrow3⟩
      · exact (Array.getElem?_eq_some_iff.1 hrow3).1
      · simp [World.cell?, hrow3, hk]
  have c0 := B0.at 0 rfl
  have c1 := B0.at 1 rfl
  have d0 := B1.at 0 rfl
  have d1 := B1.at 1 rfl
  have f0 := B0.fz
  have f1 := B1.fz
  have HK : Hid (Kept w W3) := K3
  have HR3 : Hid (Refs _ _ _ _) := R3
  have HT3 : Hid (Bt _ _) := T3
  have HB : Hid (_ ∧ _) := ⟨B0, B1⟩
  clear K3 R3 T3 B0 B1
  go_enter Try.func90, Try.ntmps90
  go_wp2
  (try simp only [Exit.inBlock, Exit.then])
  obtain ⟨B0, B1⟩ := HB.out
  refine bodyPost_ret_by (v := .agg #[.bool b, .slice (some ⟨w.heap.size + 1 + 1, 0, none⟩) l l]) (results_blk rfl _ _ (w.heap.size + 1) [_, _] rfl (((B1.set_other ?_ _).set (i := 0) rfl _).set (i := 1) rfl _) Try.underlying56 (by kernel_rfl)) rfl
    ⟨w.heap.size + 1 + 1, rfl, by omega, ⟨((HR3.out.set_other ?_ _).set_other ?_ _).set_other ?_ _, ((HT3.out.set_other ?_ _).set_other ?_ _).set_other ?_ _⟩, ((HK.out.setCell ?_ _).setCell ?_ _).setCell ?_ _⟩
  all_goals (first | (simp; done) | (simp; omega))

/-- The cells of a row of shapes. -/
def cf (T : Nat → Sh) (j : Nat) : Value := if j % 2 = 0 then .bool (T (j / 2)).arr else .slice (T (j / 2)).x (T (j / 2)).l (T (j / 2)).c

theorem cf_0 (T : Nat → Sh) (k : Nat) : cf T (k * 2) = .bool (T k).arr := by simp [cf]
theorem cf_1 (T : Nat → Sh) (k : Nat) : cf T (k * 2 + 1) = .slice (T k).x (T k).l (T k).c := by
  have h1 : (k * 2 + 1) % 2 = 1 := by omega
  have h2 : (k * 2 + 1) / 2 = k := by omega
  simp [cf, h1, h2]

/-- A row of shapes is a slice of shapes. -/
theorem row_shps {w : World} {g : Nat} {t : TypeId} {l : Nat} {T : Nat → Sh} (h : w.rowIs g t (l * 2) (cf T)) : Shps w (some ⟨g, 0, none⟩) l T := fun _ =>
  ⟨g, 0, rfl, h.lt, fun i hi => by
    have h0 := h.cell (i := i * 2) (by omega)
    have h1 := h.cell (i := i * 2 + 1) (by omega)
    rw [cf_0] at h0
    rw [cf_1] at h1
    simp only [Nat.zero_add]
    exact ⟨h0, h1⟩⟩

/-- One shape of the row is laid anew. -/
theorem row_set {w : World} {g : Nat} {t : TypeId} {l : Nat} {T : Nat → Sh} (h : w.rowIs g t (l * 2) (cf T)) (k : Nat) (s : Sh) :
    ((w.setCell ⟨g, k * 2, none⟩ (.bool s.arr)).setCell ⟨g, k * 2 + 1, none⟩ (.slice s.x s.l s.c)).rowIs g t (l * 2) (cf fun i => if i = k then s else T i) := by
  refine ((h.set (k * 2) (.bool s.arr)).set (k * 2 + 1) (.slice s.x s.l s.c)).congr fun j _ => ?_
  by_cases e1 : j = k * 2 + 1
  · subst e1
    simp [cf_1]
  · by_cases e0 : j = k * 2
    · subst e0
      simp [cf_0]
    · have : j / 2 ≠ k := by omega
      simp [cf, e0, e1, this]

/-- What was copied: alike, its fields in a block of its own, which came behind block g. -/
def Cop (w : World) (g : Nat) (s s' : Sh) (R : Nat → Bool) : Prop := s'.arr = s.arr ∧ s'.l = s.l ∧ s'.c = s.l ∧ ∃ y, s'.x = some ⟨y, 0, none⟩ ∧ g < y ∧ Refs w (some ⟨y, 0, none⟩) s.l R ∧ Bt w y

theorem Cop.kept {w w' : World} {g : Nat} {s s' : Sh} {R : Nat → Bool} (h : Cop w g s s' R) (k : Kept w w') : Cop w' g s s' R := by
  obtain ⟨h0, h1, h2, y, h3, h4, h5⟩ := h
  exact ⟨h0, h1, h2, y, h3, h4, h5.1.kept k, h5.2.kept k⟩
theorem Cop.set {w : World} {g : Nat} {s s' : Sh} {R : Nat → Bool} (h : Cop w g s s' R) (i : Nat) (v : Value) : Cop (w.setCell ⟨g, i, none⟩ v) g s s' R := by
  obtain ⟨h0, h1, h2, y, h3, h4, h5⟩ := h
  exact ⟨h0, h1, h2, y, h3, h4, h5.1.set_other (by simp; omega) v, h5.2.set_other (by simp; omega) v⟩

theorem done_set {w wr : World} {G : Nat} {t : TypeId} {l : Nat} {S T : Nat → Sh} {R : Nat → Nat → Bool} (h : Kept w wr ∧ wr.rowIs G t (l * 2) (cf T) ∧ ∀ i, i < l → Cop wr G (S i) (T i) (R i)) {a : Addr} (h0 : w.heap.size ≤ a.block) (h1 : a.block < G) (v : Value) :
    Kept w (wr.setCell a v) ∧ (wr.setCell a v).rowIs G t (l * 2) (cf T) ∧ ∀ i, i < l → Cop (wr.setCell a v) G (S i) (T i) (R i) :=
  ⟨h.1.setCell h0 v, h.2.1.setOther (by omega) v, fun i hi => by
    obtain ⟨e0, e1, e2, y, e3, e4, e5⟩ := h.2.2 i hi
    exact ⟨e0, e1, e2, y, e3, e4, e5.1.set_other (by omega) v, e5.2.set_other (by omega) v⟩⟩

theorem info_shape : (Try.prog.info? 56).map (fun i => (i.zero, i.size, i.bytes)) = some (some (.agg #[.bool false, .slice none 0 0]), 2, 32) := by kernel_rfl

theorem run_make_shapes (n : Nat) (h : n ≤ 1000000) (w : World) :
    (Instr.makeSlice 22 (.int .i64 (n : Int)) (.int .i64 (n : Int))).run Try.prog w = .ok (.slice (some ⟨w.heap.size, 0, none⟩) n n) (w.alloc (.cells (madeCells #[.bool false, .slice none 0 0] (n * 2)) 56)) := by
  obtain ⟨i, hi, hz, hs, hb⟩ := info_parts info_shape
  have hr := run_make (P := Try.prog) w 22 56 i _ Try.underlying22 hi hz .i64 .i64 n n (by omega) (Int.le_refl _) (by rw [hb]; omega) (by omega)
  simp only [Int.toNat_natCast, hs] at hr
  exact hr

theorem crow_made (w : World) (n : Nat) (t : TypeId) : (w.alloc (.cells (madeCells #[.bool false, .slice none 0 0] (n * 2)) t)).rowIs w.heap.size t (n * 2) (cf fun _ => ⟨false, none, 0, 0⟩) := by
  have h := World.rowIs_alloc w (madeCells #[.bool false, .slice none 0 0] (n * 2)) t (cf fun _ => ⟨false, none, 0, 0⟩) (fun i hi => by
    rw [size_madeCells] at hi
    rcases Nat.mod_two_eq_zero_or_one i with e | e
    · simp [madeCells, hi, cf, e]
    · simp [madeCells, hi, cf, e])
  rwa [size_madeCells] at h

theorem copy_step {W wr w2 : World} {G : Nat} {t : TypeId} {l k g : Nat} {S T : Nat → Sh} {R : Nat → Nat → Bool} (hk : Kept W wr) (hG : W.heap.size ≤ G) (hrow : wr.rowIs G t (l * 2) (cf T)) (hall : ∀ i, i < k → Cop wr G (S i) (T i) (R i))
    (k2 : Kept wr w2) (hg : wr.heap.size ≤ g) (hR : Refs w2 (some ⟨g, 0, none⟩) (S k).l (R k) ∧ Bt w2 g) :
    ∃ T', Kept W ((w2.setCell ⟨G, k * 2, none⟩ (.bool (S k).arr)).setCell ⟨G, k * 2 + 1, none⟩ (.slice (some ⟨g, 0, none⟩) (S k).l (S k).l)) ∧
      ((w2.setCell ⟨G, k * 2, none⟩ (.bool (S k).arr)).setCell ⟨G, k * 2 + 1, none⟩ (.slice (some ⟨g, 0, none⟩) (S k).l (S k).l)).rowIs G t (l * 2) (cf T') ∧
      ∀ i, i < k + 1 → Cop ((w2.setCell ⟨G, k * 2, none⟩ (.bool (S k).arr)).setCell ⟨G, k * 2 + 1, none⟩ (.slice (some ⟨g, 0, none⟩) (S k).l (S k).l)) G (S i) (T' i) (R i) := by
  refine ⟨_, ((hk.trans k2).setCell hG _).setCell hG _, row_set (k2.row hrow) k ⟨(S k).arr, some ⟨g, 0, none⟩, (S k).l, (S k).l⟩, fun i hi => Cop.set (Cop.set ?_ _ _) _ _⟩
  by_cases e : i = k
  · subst e
    have := hrow.lt
    simp only [if_true]
    exact ⟨rfl, rfl, rfl, g, rfl, by omega, hR⟩
  · simp only [e, if_false]
    exact (hall i (by omega)).kept k2

end Go.Proofs.Ytahpnnjemjjfhaa
