/-
  The modules Lst, Stock, StockB, Side, one behind another.
-/
import Derived.OwnWalk
import Derived.Lib.LazyBuf
import Derived.Lib.SliceRun
import Derived.Deep.RegionLaw
import Derived.Laws.Cover3
import Derived.Deep.CutBlock
import Derived.Test.YtiigmmmhhpdmdaaB01
/-
  Lists of whole numbers in memory: slices of the call's own (Lst), slices that are read (Rdi); append.
-/
namespace Go.Proofs.Ytiigmmmhhpdmdaa
open Go.RowKit

/-- A slice of the call's own that holds the numbers T. -/
def Lst (w : World) (base : Nat) (v : Value) (T : List Int) : Prop := w.ownsRow base 3 1 v T.length (T.map (Value.int .i64))
/-- A slice from which the numbers T are read. -/
def Rdi (w : World) (x : Option Addr) (T : List Int) : Prop := 0 < T.length → ∃ g o, x = some ⟨g, o, none⟩ ∧ g < w.heap.size ∧ ∀ j, (hj : j < T.length) → w.cell? ⟨g, o + j, none⟩ = some (.int .i64 T[j])
/-- v' lies where v lay, or is new. -/
def Fresh (w : World) (v v' : Value) : Prop := ∀ k, v'.ownBlock = some k → v.ownBlock = some k ∨ w.heap.size ≤ k

section
variable {w w' w'' : World} {base : Nat} {v v' v'' : Value} {T N : List Int}
theorem Fresh.same (w : World) (v : Value) : Fresh w v v := fun _ h => .inl h
theorem Fresh.trans (h : Fresh w v v') (k : Fresh w' v' v'') (hs : w.heap.size ≤ w'.heap.size) : Fresh w v v'' := fun i hi => by
  rcases k i hi with e | e
  · exact h i e
  · exact .inr (by omega)
theorem Fresh.not {w : World} {v v' : Value} {k : Nat} (h : Fresh w v v') (hk : k < w.heap.size) (hv : v.ownBlock ≠ some k) : v'.ownBlock ≠ some k := fun e => by
  rcases h k e with q | q
  · exact hv q
  · omega

theorem Lst.form (h : Lst w base v T) : ∃ x c, v = .slice x T.length c := by
  rcases h.2 with ⟨rfl, h0⟩ | ⟨g, cap, cur, hv, _⟩
  · rw [h0]; exact ⟨_, _, rfl⟩
  · exact ⟨_, _, hv⟩
theorem Lst.nil (w : World) (base : Nat) : Lst w base (.slice none 0 0) [] := World.ownsRow_nil _ _ _ _
theorem Lst.lt (h : Lst w base v T) : ∀ k, v.ownBlock = some k → base ≤ k ∧ k < w.heap.size := World.ownsRow.lt h
theorem Lst.muts {D : List Nat} (h : Lst w base v T) (m : Mut D w w') (hd : ∀ k, v.ownBlock = some k → k ∉ D) : Lst w' base v T := by
  refine ⟨h.1, ?_⟩
  rcases h.2 with hn | ⟨g, cap, cur, rfl, hb, hgg, rest⟩
  · exact .inl hn
  · refine .inr ⟨g, cap, cur, rfl, hb, ?_, rest⟩
    rw [m.block g (lt_of_block hgg) (hd g rfl)]
    exact hgg
theorem Lst.kept (h : Lst w base v T) (k : Kept w w') : Lst w' base v T := h.muts (D := []) k.mut (fun _ _ q => by cases q)
theorem Lst.alloc (h : Lst w base v T) (c : Array Value) (t : TypeId) : Lst (w.alloc (.cells c t)) base v T := h.kept ((Kept.refl w).alloc c t)
theorem Lst.low (h : Lst w base v T) {b' : Nat} (hb : b' ≤ base) : Lst w b' v T := by
  refine ⟨h.1, ?_⟩
  rcases h.2 with hn | ⟨g, cap, cur, rfl, hb', hgg, rest⟩
  · exact .inl hn
  · exact .inr ⟨g, cap, cur, rfl, Nat.le_trans hb hb', hgg, rest⟩
theorem Lst.rdi {x : Option Addr} {l c : Nat} (h : Lst w base (.slice x l c) T) : Rdi w x T := fun hp => by
  rcases h.2 with ⟨e, h0⟩ | ⟨g, cap, cur, e, hb, hg, _⟩
  · omega
  · have e1 : x = some ⟨g, 0, none⟩ := by simpa using (Value.slice.inj e).1
    refine ⟨g, 0, e1, lt_of_block hg, fun j hj => ?_⟩
    have h1 := World.ownsRow.cells h (g := g) (by rw [e1]; rfl) j (.int .i64 T[j]) (by simp [hj])
    rw [show (⟨g, 0, none⟩ : Addr).add j = ⟨g, j, none⟩ by unfold Addr.add; split <;> simp_all] at h1
    rwa [Nat.zero_add]
theorem Rdi.kept {x : Option Addr} (h : Rdi w x T) (k : Kept w w') : Rdi w' x T := fun h0 => by
  obtain ⟨g, o, e, hl, hc⟩ := h h0
  exact ⟨g, o, e, Nat.lt_of_lt_of_le hl k.size, fun j hj => (k.cell hl).trans (hc j hj)⟩
theorem Rdi.muts {D : List Nat} {x : Option Addr} (h : Rdi w x T) (m : Mut D w w') (hd : ∀ g o, x = some ⟨g, o, none⟩ → g ∉ D) : Rdi w' x T := fun h0 => by
  obtain ⟨g, o, e, hl, hc⟩ := h h0
  exact ⟨g, o, e, Nat.lt_of_lt_of_le hl m.size, fun j hj => (m.cell hl (hd g o e)).trans (hc j hj)⟩
theorem Rdi.nil {x : Option Addr} : Rdi w x [] := fun h => by simp at h
theorem Rdi.take {x : Option Addr} (h : Rdi w x T) (k : Nat) : Rdi w x (T.take k) := fun h0 => by
  simp only [List.length_take] at h0
  obtain ⟨g, o, e, hl, hc⟩ := h (by omega)
  exact ⟨g, o, e, hl, fun j hj => by rw [List.getElem_take]; exact hc j (by simp at hj; omega)⟩
theorem Rdi.drop {g o : Nat} (h : Rdi w (some ⟨g, o, none⟩) T) (k : Nat) : Rdi w (some ⟨g, o + k, none⟩) (T.drop k) := fun h0 => by
  simp only [List.length_drop] at h0
  obtain ⟨g', o', e, hl, hc⟩ := h (by omega)
  obtain ⟨rfl, rfl⟩ : g = g' ∧ o = o' := by simpa using e
  exact ⟨g, o + k, rfl, hl, fun j hj => by
    rw [List.getElem_drop, Nat.add_assoc]
    exact hc (k + j) (by simp at hj; omega)⟩
theorem Rdi.news {a : Addr} (h : Rdi w (some a) T) : ∀ j u, (T.map (Value.int .i64))[j]? = some u → w.cell? (a.add j) = some u := fun j u hu => by
  have hj : j < T.length := by have := (List.getElem?_eq_some_iff.1 hu).1; simpa using this
  obtain ⟨g, o, e, _, hc⟩ := h (by omega)
  obtain rfl : a = ⟨g, o, none⟩ := by simpa using e
  rw [Addr.add_lit, hc j hj]
  simpa [hj] using hu

theorem mut_grown {row : Option Nat} (hg : w.grownBy w' row) : Mut row.toList w w' :=
  ⟨hg.os, hg.tape, hg.output, hg.size, fun k hk hd => hg.block k hk fun e => hd (by simp [← e])⟩

theorem info_int9 : (Try.prog.info? 3).map (fun i => (i.zero, i.size, i.bytes)) = some (some (.int .i64 0), 1, 8) := by kernel_rfl

theorem run_append_zero (ty : TypeId) (h : Lst w base v T) (c : Nat) : (Builtin.append_ #[59, 59] ty #[v, .slice none 0 c]).run Try.prog w = .ok v w := by
  obtain ⟨i, hi, hz, hs, hb⟩ := info_parts info_int9
  rcases h.2 with ⟨rfl, h0⟩ | ⟨g, cap, cur, rfl, _, _, hnc, _⟩
  · simp [Builtin.append_, run_underlying Try.underlying59, sizeOf, typeInfo, hi, Builtin.lenOf, Builtin.firstCells]
  · simp [Builtin.append_, run_underlying Try.underlying59, sizeOf, typeInfo, hi, Builtin.lenOf, Builtin.firstCells, hnc, storeCells]

/-- append, whatever room there is. -/
theorem run_append_lst (ty : TypeId) (h : Lst w base v T) (hb : base ≤ w.heap.size) {y : Option Addr} {c : Nat} (hy : Rdi w y N) (hn : T.length + N.length ≤ 1000000) :
    ∃ v' w', (Builtin.append_ #[59, 59] ty #[v, .slice y N.length c]).run Try.prog w = .ok v' w' ∧ Lst w' base v' (T ++ N) ∧ Mut v.ownBlock.toList w w' ∧ Fresh w v v' := by
  obtain ⟨i, hi, hz, hs, hby⟩ := info_parts info_int9
  cases y with
  | none =>
    obtain rfl : N = [] := by
      cases N with
      | nil => rfl
      | cons a N => obtain ⟨g, o, e, _⟩ := hy (by simp); cases e
    exact ⟨v, w, run_append_zero ty h c, by simpa using h, Mut.refl _ _, Fresh.same _ _⟩
  | some a =>
    have hnews := hy.news
    have hl : (N.map (Value.int .i64)).length = N.length * i.size := by rw [hs]; simp
    have h1c : ∀ u ∈ N.map (Value.int .i64), u.oneCell' = true := ints_oneCell _ _
    have hmap : (T ++ N).map (Value.int .i64) = T.map (Value.int .i64) ++ N.map (Value.int .i64) := by simp
    have hbm : (T.length + N.length) * 8 ≤ 140737488355328 := by omega
    have h63 : T.length + N.length ≤ maxLen := by unfold maxLen; omega
    rcases h.2 with ⟨rfl, h0⟩ | ⟨g, cap, cur, rfl, hbg, hg, hnc, hcm, hcs, htake⟩
    · have hT : T = [] := List.eq_nil_of_length_eq_zero h0
      subst hT
      obtain ⟨v', w', hr, h2, h3, _⟩ := run_append_own (P := Try.prog) w w.heap.size 59 ty 3 i (.int .i64 0) 1 8 Try.underlying59 hi hz hs hby rfl (by decide) (.slice none 0 0) 0 [] (World.ownsRow_nil _ _ _ _) a N.length c (N.map (Value.int .i64)) (by simp) hnews h1c (by simpa using h63) (by simpa using hbm) (Nat.le_refl _)
      have h4 : Lst w' w.heap.size v' N := by unfold Lst; simpa using h2
      refine ⟨v', w', hr, by simpa using h4.low hb, mut_grown h3, fun k hk => .inr (h4.lt k hk).1⟩
    · by_cases hroom : T.length + N.length ≤ cap
      · obtain ⟨w', hr, h2, h3⟩ := run_append_fits (P := Try.prog) w base 59 ty 3 i 1 Try.underlying59 hi hs g T.length cap _ h a N.length c _ (by simp) hnews h1c hroom
        refine ⟨_, w', hr, ?_, mut_grown h3, fun k hk => .inl (by simpa [Value.ownBlock] using hk)⟩
        unfold Lst
        rw [hmap, List.length_append]
        exact h2
      · have holds : ∀ j u, (T.map (Value.int .i64))[j]? = some u → w.cell? ((⟨g, 0, none⟩ : Addr).add j) = some u := World.ownsRow.cells h (g := g) rfl
        have hr := run_append_grow (P := Try.prog) w 59 ty 3 i (.int .i64 0) Try.underlying59 hi hz ⟨g, 0, none⟩ T.length cap _ (by rw [hs]; simp) holds a N.length c _ hl hnews (by omega) (by omega) (growslice_fits (by omega) (by rw [hby]; exact hbm))
        have hge := grownCap_ge w (T.length + N.length) cap 3
        have hgm := grownCap_le_maxLen w (T.length + N.length) cap 3 h63
        refine ⟨_, _, hr, ⟨by simp, .inr ⟨w.heap.size, _, _, by rw [List.length_append], hb, heap_alloc_new w.drew _, by simpa using hge, hgm, ?_, ?_⟩⟩, ⟨rfl, rfl, rfl, by simp, fun k hk _ => Below.heap_alloc w.drew _ k hk⟩, fun k hk => .inr ?_⟩
        · have hz1 : (Value.int IntKind.i64 0).cells.size = 1 := rfl
          simp only [Array.size_append, List.size_toArray, size_zeroCells, hz1, List.length_map]
          omega
        · rw [hmap]
          simp only [Array.toList_append, List.append_assoc]
          rw [← List.append_assoc]
          have : (T ++ N).length * 1 = (T.map (Value.int .i64) ++ N.map (Value.int .i64)).length := by simp
          rw [this]
          exact List.take_left
        · have : w.heap.size = k := by simpa [Value.ownBlock] using hk
          omega

theorem wpList_append_lst {w : World} {ops : Array Oper} {rest : List Oper} {o : Oper} {a : Act} {Q : Exit → Act → World → Prop} (hgd : o.guard = none) (s x : Operand)
    (ho : o.op = .call { callee := .builtin .append, args := #[s, x], argTypes := #[59, 59] }) {base : Nat} {v : Value} {T : List Int} (hs : a.eval s = v) (h : Lst w base v T) (hb : base ≤ w.heap.size)
    {y : Option Addr} {m c : Nat} {N : List Int} (hx : a.eval x = .slice y m c) (hm : N.length = m) (hy : Rdi w y N) (hn : T.length + N.length ≤ 1000000)
    (hK : ∀ v' w', Lst w' base v' (T ++ N) → Mut v.ownBlock.toList w w' → Fresh w v v' → wpList Try.prog ops Q rest (a.put o.dst v') w') : wpList Try.prog ops Q (o :: rest) a w := by
  subst hm
  obtain ⟨v', w', hr, h2, h3, h4⟩ := run_append_lst o.type h hb (c := c) hy hn
  refine wpList_plain hgd fun K hK' => ?_
  unfold Oper.wp execOp
  simp only [ho, resolve, invoke, builtin, Sem.run_bind, Sem.run_pure, Result.andThen_ok, List.map_toArray, List.map_cons, List.map_nil, hs, hx, hr]
  exact hK' _ _ (hK v' w' h2 h3 h4)

theorem mut_setCells {D : List Nat} {b : Nat} (hb : b ∈ D) : ∀ (vs : List Value) (o : Nat) (w : World), Mut D w (w.setCells b o vs)
  | [], _, w => Mut.refl _ w
  | v :: r, o, w => ((Mut.refl D w).setCell (p := ⟨b, o, none⟩) hb v).trans (mut_setCells hb r (o + 1) _)

/-- A list as a row of cells, its capacity told. -/
theorem Lst.row {g l cap : Nat} (h : Lst w base (.slice (some ⟨g, 0, none⟩) l cap) T) : T.length ≤ cap ∧ cap ≤ maxLen ∧ base ≤ g ∧ ∃ f, w.rowIs g 3 cap f ∧ ∀ j, (hj : j < T.length) → f j = .int .i64 T[j] := by
  rcases h.2 with ⟨e, h0⟩ | ⟨g', cap', cur, e, hb, hg, hnc, hcm, hcs, htake⟩
  · cases e
  · obtain ⟨e1, _, e3⟩ := Value.slice.inj e
    obtain rfl : g = g' := by simpa using e1
    subst e3
    refine ⟨hnc, hcm, hb, fun j => cur[j]?.getD default, ⟨cur, hg, by simpa using hcs, fun j hj => ?_⟩, fun j hj => ?_⟩
    · have : j < cur.size := by omega
      simp [this]
    · have h1 : (cur.toList.take (T.length * 1))[j]? = some (.int .i64 T[j]) := by rw [htake]; simp [hj]
      rw [List.getElem?_take, if_pos (by omega)] at h1
      have h2 : cur[j]? = some (.int .i64 T[j]) := by simpa using h1
      show cur[j]?.getD default = _
      rw [h2]
      rfl
theorem lst_of_row {g cap : Nat} {f : Nat → Value} (h : w.rowIs g 3 cap f) (hf : ∀ j, (hj : j < T.length) → f j = .int .i64 T[j]) (hl : T.length ≤ cap) (hm : cap ≤ maxLen) (hb : base ≤ g) : Lst w base (.slice (some ⟨g, 0, none⟩) T.length cap) T := by
  obtain ⟨cur, hg, hc, hcell⟩ := h
  refine ⟨by simp, .inr ⟨g, cap, cur, rfl, hb, hg, hl, hm, by omega, ?_⟩⟩
  apply List.ext_getElem?
  intro j
  rw [List.getElem?_take]
  by_cases hj : j < T.length
  · rw [if_pos (by omega)]
    have := hcell j (by omega)
    rw [hf j hj] at this
    simpa [hj] using this
  · rw [if_neg (by omega), List.getElem?_eq_none (by simp; omega)]
end
end Go.Proofs.Ytiigmmmhhpdmdaa

/-
  Contracts of package stock: a stock as it lies in memory; New, Len, Room, Put, Drain.
-/
namespace Go.Proofs.Ytiigmmmhhpdmdaa
open Go.RowKit

/-- A stock (of head type t) at block b, that keeps the numbers T in the slice v. -/
structure STab (t : TypeId) (w : World) (base b most : Nat) (v : Value) (T : List Int) : Prop where
  head : Own w b t [.int .i64 (most : Int), v]
  lst : Lst w base v T
  few : T.length ≤ most
  max : most ≤ 8
  lo : base ≤ b
  ty : t ≠ 3

section
variable {t : TypeId} {w w' w'' : World} {base b most : Nat} {v v' : Value} {T : List Int}
/-- Another block than a list's. -/
theorem Own.nelst {b : Nat} {L : List Value} (h : Own w b t L) (l : Lst w base v T) (ht : t ≠ 3) : v.ownBlock ≠ some b := fun e => by
  rcases l.2 with ⟨rfl, _⟩ | ⟨g, cap, cur, rfl, _, hg, _⟩
  · cases e
  · obtain rfl : g = b := by simpa [Value.ownBlock] using e
    unfold Own at h
    rw [hg] at h
    simp only [Option.some.injEq, Obj.cells.injEq] at h
    exact ht h.2.1.symm
theorem STab.ne (h : STab t w base b most v T) : v.ownBlock ≠ some b := h.head.nelst h.lst h.ty
theorem STab.c0 (h : STab t w base b most v T) : w.cell? ⟨b, 0, none⟩ = some (.int .i64 (most : Int)) := h.head.blk.at 0 rfl
theorem STab.c1 (h : STab t w base b most v T) : w.cell? ⟨b, 1, none⟩ = some v := h.head.blk.at 1 rfl
theorem STab.fz (h : STab t w base b most v T) (i : Nat) : w.frozen? ⟨b, i, none⟩ = false := h.head.blk.fz i
theorem STab.kept (h : STab t w base b most v T) (k : Kept w w') : STab t w' base b most v T := ⟨h.head.kept k, h.lst.kept k, h.few, h.max, h.lo, h.ty⟩
theorem STab.muts {D : List Nat} (h : STab t w base b most v T) (m : Mut D w w') (hb : b ∉ D) (hd : ∀ k, v.ownBlock = some k → k ∉ D) : STab t w' base b most v T := ⟨h.head.muts m hb, h.lst.muts m hd, h.few, h.max, h.lo, h.ty⟩
theorem STab.ltb (h : STab t w base b most v T) : b < w.heap.size := h.head.lt
theorem STab.own (h : STab t w base b most v T) : ∀ k, k ∈ b :: v.ownBlock.toList → base ≤ k ∧ k < w.heap.size := fun k hk => by
  simp at hk
  rcases hk with rfl | hk
  · exact ⟨h.lo, h.ltb⟩
  · exact h.lst.lt k hk
/-- Another list behind the head. -/
theorem STab.turn {t : TypeId} {w w' : World} {base b most : Nat} {v v' : Value} {T T' : List Int} (h : STab t w base b most v T) (o : Own w' b t [.int .i64 (most : Int), v]) (l : Lst w' base v' T') (hf : T'.length ≤ most) : STab t (w'.setCell ⟨b, 1, none⟩ v') base b most v' T' :=
  ⟨by simpa using o.set 1 v', l.muts (D := [b]) ((Mut.refl _ _).setCell (by simp) _) (fun k hk hd => by
    simp at hd
    subst hd
    exact o.nelst l h.ty hk), hf, h.max, h.lo, h.ty⟩
end

set_option maxHeartbeats 800000 in
theorem snew_bad (n : Int) (w : World) (hn : ¬ (0 ≤ n ∧ n ≤ 8)) :
    Calls Try.prog 75 #[.int .i64 n] w fun e w' => e = .returned (.tuple #[.pointer none, .int .i64 1]) ∧ w' = w := by
  by_cases h0 : n < 0
  · clear hn
    go_enter Try.func75, Try.ntmps75
    go_wp2
    go_ret2
    exact ⟨rfl, rfl⟩
  · have h1 : 8 < n := by omega
    clear hn
    go_enter Try.func75, Try.ntmps75
    go_wp2
    go_ret2
    exact ⟨rfl, rfl⟩

set_option maxHeartbeats 800000 in
theorem snew_any (n : Nat) (w : World) (hn : n ≤ 8) {base : Nat} (hb : base ≤ w.heap.size) :
    Calls Try.prog 75 #[.int .i64 n] w fun e w' => ∃ b, e = .returned (.tuple #[.pointer (some ⟨b, 0, none⟩), .int .i64 0]) ∧ STab 180 w' base b n (.slice none 0 0) [] ∧ Kept w w' ∧ w.heap.size ≤ b := by
  have HO : Hid (∀ w' : World, base ≤ w'.heap.size → STab 180 (w'.alloc (.cells #[.int .i64 (n : Int), .slice none 0 0] 180)) base w'.heap.size n (.slice none 0 0) []) := fun w' hb => ⟨Own.new w' [.int .i64 (n : Int), .slice none 0 0] _, Lst.nil _ _, by simp, hn, hb, by decide⟩
  have HK : Hid (base ≤ w.heap.size) := hb
  clear hb
  go_enter Try.func75, Try.ntmps75
  go_wp2
  go_ret2
  exact ⟨_, rfl, HO.out w HK.out, (Kept.refl _).alloc _ _, by omega⟩

set_option maxHeartbeats 400000 in
theorem sroom_any {base b most : Nat} {v : Value} {T : List Int} (w : World) (h : STab 180 w base b most v T) :
    Calls Try.prog 101 #[.pointer (some ⟨b, 0, none⟩)] w fun e w' => e = .returned (.int .i64 ((most : Int) - (T.length : Int))) ∧ Kept w w' := by
  obtain ⟨x, c, rfl⟩ := h.lst.form
  have c0 := h.c0
  have c1 := h.c1
  have h1 := h.few
  have h2 := h.max
  clear h
  go_enter Try.func101, Try.ntmps101
  go_wp2
  go_region
  all_goals go_wp2
  all_goals go_ret
  all_goals exact ⟨by go_num, (Kept.refl _).drew⟩

set_option maxHeartbeats 1000000 in
theorem sput_no {base b most : Nat} {v : Value} {T : List Int} {x : Option Addr} {c : Nat} {N : List Int} (w : World) (h : STab 180 w base b most v T) (hf : ¬ T.length + N.length ≤ most) :
    Calls Try.prog 102 #[.pointer (some ⟨b, 0, none⟩), .slice x N.length c] w fun e w' => e = .returned (.bool false) ∧ Kept w w' := by
  have h1 := h.few
  have h2 := h.max
  have h3 : (N.length : Int) > (most : Int) - (T.length : Int) := by omega
  have HT : Hid (STab 180 w base b most v T) := h
  clear h hf
  go_enter Try.func102, Try.ntmps102
  go_wp2_with fail
  refine (sroom_any _ HT.out).mono ?_
  rintro e w1 ⟨rfl, k1⟩
  have K1 : Hid (Kept w w1) := k1
  clear k1
  go_wp2
  go_ret
  exact ⟨rfl, K1.out⟩

set_option maxHeartbeats 1000000 in
theorem sput_yes {base b most : Nat} {v : Value} {T : List Int} {x : Option Addr} {c : Nat} {N : List Int} (w : World) (h : STab 180 w base b most v T) (hx : Rdi w x N) (hf : T.length + N.length ≤ most) :
    Calls Try.prog 102 #[.pointer (some ⟨b, 0, none⟩), .slice x N.length c] w fun e w' => e = .returned (.bool true) ∧ ∃ v', STab 180 w' base b most v' (T ++ N) ∧ Mut (b :: v.ownBlock.toList) w w' ∧ Fresh w v v' := by
  have h1 := h.few
  have h2 := h.max
  have h3 : ¬ (N.length : Int) > (most : Int) - (T.length : Int) := by omega
  have HT : Hid (STab 180 w base b most v T ∧ Rdi w x N) := ⟨h, hx⟩
  have HF : Hid (T.length + N.length ≤ most) := hf
  clear h hx hf
  go_enter Try.func102, Try.ntmps102
  go_wp2_with fail
  refine (sroom_any _ HT.out.1).mono ?_
  rintro e w1 ⟨rfl, k1⟩
  have H1 : Hid (STab 180 w1 base b most v T ∧ Rdi w1 x N ∧ Kept w w1) := ⟨HT.out.1.kept k1, HT.out.2.kept k1, k1⟩
  clear k1
  obtain ⟨y, d, rfl⟩ := H1.out.1.lst.form
  have c1 := H1.out.1.c1
  have z1 : base ≤ w1.heap.size := by have := H1.out.1.lo; have := H1.out.1.ltb; omega
  have z2 : T.length + N.length ≤ 1000000 := by have := HF.out; omega
  go_wp2_with (at_builtin; refine wpList_append_lst (T := T) (N := N) rfl _ _ rfl rfl H1.out.1.lst z1 rfl rfl H1.out.2.1 z2 ?_)
  intro v2 w2 l2 m2 f2
  have H2 : Hid (STab 180 (w2.setCell ⟨b, 1, none⟩ v2) base b most v2 (T ++ N) ∧ Mut (b :: (Value.slice y T.length d).ownBlock.toList) w (w2.setCell ⟨b, 1, none⟩ v2) ∧ Fresh w (Value.slice y T.length d) v2) := by
    have q := H1.out.1.ne
    refine ⟨H1.out.1.turn (H1.out.1.head.muts m2 (by simpa using q)) l2 (by simpa using HF.out), ?_, fun k hk => ?_⟩
    · exact (H1.out.2.2.mut.trans (m2.wide fun k hk => by simp at hk ⊢; exact .inr hk)).setCell (by simp) _
    · rcases f2 k hk with e | e
      · exact .inl e
      · exact .inr (by have := H1.out.2.2.size; omega)
  have cf : ∀ i, w2.frozen? ⟨b, i, none⟩ = false := fun i => (H1.out.1.head.muts m2 (by simpa using H1.out.1.ne)).blk.fz i
  have ck : ∃ u, w2.cell? ⟨b, 1, none⟩ = some u := ⟨_, (H1.out.1.head.muts m2 (by simpa using H1.out.1.ne)).blk.at 1 rfl⟩
  obtain ⟨u, ck⟩ := ck
  obtain ⟨y2, d2, e2⟩ := l2.form
  rw [List.length_append] at e2
  subst e2
  clear l2 m2 f2 c1
  go_wp2
  go_ret
  exact ⟨rfl, _, H2.out⟩
end Go.Proofs.Ytiigmmmhhpdmdaa

/-
  Contracts of package stock: what Take calls; Take; Side; and the document's own.
-/
namespace Go.Proofs.Ytiigmmmhhpdmdaa
open Go.RowKit

theorem lst_empty (w : World) : Lst (w.alloc (.cells #[] 3)) w.heap.size (.slice (some ⟨w.heap.size, 0, none⟩) 0 0) [] :=
  World.ownsRow_made w _ 0 (Nat.le_refl _) (by unfold maxLen; omega) (by simp)

theorem sfresh_of {w w' w2 : World} {v : Value} {N : List Int} {D : List Nat} (l : Lst w2 w.heap.size v N) (k : Kept w w') (m : Mut D w' w2) (hd : ∀ k, k ∈ D → w.heap.size ≤ k) : Lst w2 w.heap.size v N ∧ Kept w w2 := ⟨l, k.muts m hd⟩

set_option maxHeartbeats 1000000 in
theorem sclone_any {a : Addr} {c : Nat} {N : List Int} (w : World) (hx : Rdi w (some a) N) (hn : N.length ≤ 1000000) :
    Calls Try.prog 91 #[.slice (some a) N.length c] w fun e w' => ∃ v, e = .returned v ∧ Lst w' w.heap.size v N ∧ Kept w w' := by
  have HX : Hid (Rdi (w.alloc (.cells #[] 3)) (some a) N) := hx.kept ((Kept.refl w).alloc _ _)
  have HL : Hid _ := lst_empty w
  have z1 : w.heap.size ≤ (w.alloc (.cells #[] 3)).heap.size := by simp
  have z2 : ([] : List Int).length + N.length ≤ 1000000 := by simpa using hn
  clear hx hn
  have hnil : ∀ w : World, (binOp .eql 59 (.slice (some a) N.length c) (.slice none 0 0)).run Try.prog w = .ok (.bool false) w := fun w => by
    have := run_equal_slice_nil (P := Try.prog) w 59 3 (some a) N.length c Try.underlying59
    simp [binOp, this]
  go_enter Try.func91, Try.ntmps91
  go_wp2_with (at_builtin; refine wpList_append_lst (T := []) (N := N) rfl _ _ rfl rfl HL.out z1 rfl rfl HX.out z2 ?_)
  intro v2 w2 l2 m2 f2
  have H2 : Hid (Lst w2 w.heap.size v2 N ∧ Kept w w2) := ⟨by simpa using l2, ((Kept.refl w).alloc _ _).muts m2 (by simp [Value.ownBlock])⟩
  clear l2 m2 f2 z1 z2
  obtain ⟨y2, d2, rfl⟩ := H2.out.1.form
  go_wp2
  go_ret
  exact ⟨_, rfl, H2.out⟩

/-- The worlds behind Delete's append, and behind its clear. -/
theorem sdelete_worlds {w : World} {base g k m cap : Nat} {T : List Int} (h : Lst w base (.slice (some ⟨g, 0, none⟩) T.length cap) T) (hk : T.length = k + m) (W1 W2 : World)
    (h1 : W1 = w.drew.setCells g 0 ((T.drop k).map (Value.int .i64))) (h2 : W2 = W1.setCells g m (List.replicate k (Value.int .i64 0))) :
    (∀ j, j < k → (W1.cell? ⟨g, m + j, none⟩).isSome = true) ∧ (∀ j, j < k → W1.frozen? ⟨g, m + j, none⟩ = false) ∧ Lst W2 base (.slice (some ⟨g, 0, none⟩) m cap) (T.drop k) ∧ Mut [g] w W2 := by
  obtain ⟨hl, hm, hb, f, hf, hv⟩ := h.row
  have hf0 : w.drew.rowIs g 3 cap f := hf
  have r1 := rowIs_setCells ((T.drop k).map (Value.int .i64)) 0 w.drew f hf0
  rw [← h1] at r1
  have r2 := rowIs_setCells (List.replicate k (Value.int .i64 0)) m W1 _ r1
  rw [← h2] at r2
  refine ⟨fun j hj => by rw [r1.cell (by omega)]; rfl, fun j _ => r1.frozen _, ?_, ?_⟩
  · have hlen : (T.drop k).length = m := by simp; omega
    have := lst_of_row (T := T.drop k) (base := base) r2 (fun j hj => ?_) (by omega) hm hb
    · rwa [hlen] at this
    · rw [hlen] at hj
      rw [if_neg (by omega), if_pos (by simp; omega)]
      simp [show k + j < T.length by omega]
  · rw [h2, h1]
    exact ((Mut.refl [g] w).drew.trans (mut_setCells (by simp) _ _ _)).trans (mut_setCells (by simp) _ _ _)

set_option maxHeartbeats 4000000 in
theorem sdelete_any {base g k m cap : Nat} {T : List Int} (w : World) (h : Lst w base (.slice (some ⟨g, 0, none⟩) T.length cap) T) (hk : T.length = k + m) (hk0 : 0 < k) (hc : T.length ≤ 1000000) :
    Calls Try.prog 92 #[.slice (some ⟨g, 0, none⟩) T.length cap, .int .i64 0, .int .i64 (k : Int)] w fun e w' => e = .returned (.slice (some ⟨g, 0, none⟩) m cap) ∧ Lst w' base (.slice (some ⟨g, 0, none⟩) m cap) (T.drop k) ∧ Mut [g] w w' := by
  obtain ⟨hl, hm, hb, f, hf, hv⟩ := h.row
  obtain ⟨W1, h1⟩ : ∃ W1, W1 = w.drew.setCells g 0 ((T.drop k).map (Value.int .i64)) := ⟨_, rfl⟩
  obtain ⟨W2, h2⟩ : ∃ W2, W2 = W1.setCells g m (List.replicate k (Value.int .i64 0)) := ⟨_, rfl⟩
  obtain ⟨d1, d2, d3⟩ := sdelete_worlds h hk W1 W2 h1 h2
  obtain ⟨i0, hi0, hz0, hz1, hz2⟩ := info_parts info_int9
  have hcl : ∀ ty, (Builtin.clear_ #[59] ty #[.slice (some ⟨g, m, none⟩) k (cap - m)]).run Try.prog W1 = .ok (.tuple #[]) W2 := fun ty => by
    rw [h2]
    exact Lib.run_clear_slice W1 _ _ ty (.int .i64 0) Try.underlying59 (fun w => by simp [zeroValue, typeInfo, hi0, hz0]) rfl rfl g m k _ hk0 d1 d2
  have HD : Hid (Lst W2 base (.slice (some ⟨g, 0, none⟩) m cap) (T.drop k) ∧ Mut [g] w W2) := d3
  have hlen : ((T.drop k).map (Value.int .i64)).length = m * 1 := by simp; omega
  have hone : ∀ u ∈ (T.drop k).map (Value.int .i64), u.oneCell' = true := ints_oneCell _ _
  have hsp : ∀ j, j < ((T.drop k).map (Value.int .i64)).length → (w.drew.cell? ⟨g, 0 + 0 * 1 + j, none⟩).isSome = true ∧ w.drew.frozen? ⟨g, 0 + 0 * 1 + j, none⟩ = false := fun j hj => by
    have hj' : j < m := by rw [hlen] at hj; omega
    have hf0 : w.drew.rowIs g 3 cap f := hf
    simp only [Nat.zero_mul, Nat.zero_add]
    exact ⟨by rw [hf0.cell (by omega)]; rfl, hf0.frozen _⟩
  have hsrc : ∀ (o : Nat), (o = k ∨ m = 0) → ∀ j u, ((T.drop k).map (Value.int .i64))[j]? = some u → w.drew.cell? ((⟨g, o, none⟩ : Addr).add j) = some u := fun o ho j u hu => by
    have hj : j < m := by have := (List.getElem?_eq_some_iff.1 hu).1; rw [hlen] at this; omega
    rcases ho with rfl | ho
    · have hr := (h.rdi.drop (w := w) o).news j u hu
      simpa using hr
    · omega
  have SP : Hid _ := hsp
  have SR : Hid _ := hsrc
  have SO : Hid _ := hone
  have SL : Hid _ := hlen
  have HW : Hid (W1 = w.drew.setCells g 0 ((T.drop k).map (Value.int .i64))) := h1
  rw [hk] at hl hc ⊢
  generalize (T.drop k).map (Value.int .i64) = news at *
  clear hsp hsrc hone hlen h1 h2 d1 d2 d3 h hf hv f hm hb
  have e1 : ((k : Int) == 0) = false := by simp; omega
  have e2 : ((0 : Int) == (k : Int)) = false := by simp; omega
  by_cases hck : cap = k
  · obtain rfl : m = 0 := by omega
    subst hck
    simp only [Nat.sub_zero] at hcl
    go_enter Try.func92, Try.ntmps92
    go_wp2_with fail
    go_region_law (refine step_append_room rfl (.tmp 22) (.tmp 25) 59 rfl 3 i0 1 Try.underlying59 hi0 hz1 g 0 0 cap (by simp [Act.eval, Act.put]) ⟨g, 0, none⟩ 0 0 news (by simp [Act.eval, Act.put]) SL.out (SR.out 0 (by simp)) SO.out (by omega) SP.out ?_)
    rw [← HW.out]
    go_wp2
    go_ret
    exact ⟨rfl, HD.out⟩
  · have z : m ≤ cap - k := by omega
    have q1 : (k : Int) ≤ (k : Int) + (m : Int) := by omega
    go_enter Try.func92, Try.ntmps92
    go_wp2_with fail
    go_region_law (refine step_append_room rfl (.tmp 22) (.tmp 25) 59 rfl 3 i0 1 Try.underlying59 hi0 hz1 g 0 0 cap (by simp [Act.eval, Act.put]) ⟨g, k, none⟩ m (cap - k) news (by simp [Act.eval, Act.put]) SL.out (SR.out k (.inl rfl)) SO.out (by omega) SP.out ?_)
    rw [← HW.out]
    go_wp2
    go_ret
    exact ⟨rfl, HD.out⟩

set_option maxHeartbeats 1000000 in
theorem stake_yes {base b most k : Nat} {v : Value} {T : List Int} (w : World) (h : STab 180 w base b most v T) (hk0 : 1 ≤ k) (hk : k ≤ T.length) :
    Calls Try.prog 53 #[.pointer (some ⟨b, 0, none⟩), .int .i64 (k : Int)] w fun e w' => ∃ va v', e = .returned (.tuple #[va, .bool true]) ∧ Lst w' w.heap.size va (T.take k) ∧ STab 180 w' base b most v' (T.drop k) ∧ Mut (b :: v.ownBlock.toList) w w' ∧ Fresh w v v' ∧ ∀ q, va.ownBlock = some q → v'.ownBlock ≠ some q := by
  have h1 := h.few
  have h2 := h.max
  obtain ⟨x, c, rfl⟩ := h.lst.form
  obtain ⟨g, o, rfl, hg, _⟩ := h.lst.rdi (by omega)
  obtain rfl : o = 0 := by
    rcases h.lst.2 with ⟨e, _⟩ | ⟨g', cap, cur, e, _⟩
    · cases e
    · have := (Value.slice.inj e).1; simp at this; exact this.2
  obtain ⟨hc, _, _, _⟩ := h.lst.row
  have HT : Hid (STab 180 w base b most (.slice (some ⟨g, 0, none⟩) T.length c) T) := h
  have c1 := h.c1
  have R1 : Hid (Rdi w (some ⟨g, 0, none⟩) (T.take k) ∧ (T.take k).length = k) := ⟨h.lst.rdi.take k, by simp; omega⟩
  clear h
  have HC := sclone_any (c := c) w R1.out.1 (by rw [R1.out.2]; omega)
  rw [R1.out.2] at HC
  go_enter Try.func53, Try.ntmps53
  go_wp2_with fail
  refine HC.mono ?_
  rintro e w2 ⟨va, rfl, l2, k2⟩
  have H2 : Hid (STab 180 w2 base b most (.slice (some ⟨g, 0, none⟩) T.length c) T ∧ Lst w2 w.heap.size va (T.take k) ∧ Kept w w2) := ⟨HT.out.kept k2, l2, k2⟩
  obtain ⟨ya, da, rfl⟩ := l2.form
  rw [R1.out.2] at H2 ⊢
  clear l2 k2 c1 HC
  have c1 := H2.out.1.c1
  go_wp2_with fail
  refine (sdelete_any (k := k) (m := T.length - k) _ H2.out.1.lst (by omega) (by omega) (by omega)).mono ?_
  rintro e w3 ⟨rfl, l3, m3⟩
  have hD : (T.drop k).length = T.length - k := by simp
  have O3 : Own w3 b 180 [.int .i64 (most : Int), .slice (some ⟨g, 0, none⟩) T.length c] := H2.out.1.head.muts m3 (by have := H2.out.1.ne; simp [Value.ownBlock] at this; simp; omega)
  have H3 : Hid (Lst (w3.setCell ⟨b, 1, none⟩ (.slice (some ⟨g, 0, none⟩) (T.length - k) c)) w.heap.size (.slice ya k da) (T.take k) ∧ STab 180 (w3.setCell ⟨b, 1, none⟩ (.slice (some ⟨g, 0, none⟩) (T.length - k) c)) base b most (.slice (some ⟨g, 0, none⟩) (T.length - k) c) (T.drop k) ∧ Mut (b :: (Value.slice (some ⟨g, 0, none⟩) T.length c).ownBlock.toList) w (w3.setCell ⟨b, 1, none⟩ (.slice (some ⟨g, 0, none⟩) (T.length - k) c)) ∧ Fresh w (Value.slice (some ⟨g, 0, none⟩) T.length c) (.slice (some ⟨g, 0, none⟩) (T.length - k) c) ∧ ∀ q, (Value.slice ya k da).ownBlock = some q → (Value.slice (some ⟨g, 0, none⟩) (T.length - k) c).ownBlock ≠ some q) := by
    refine ⟨?_, H2.out.1.turn O3 l3 (by omega), ?_, fun q hq => .inl hq, fun q hq hq2 => ?_⟩
    · have := (H2.out.2.1.muts m3 (fun q hq => by have := (H2.out.2.1.lt q hq).1; simp; omega))
      exact this.muts (D := [b]) ((Mut.refl _ _).setCell (by simp) _) (fun q hq => by have := (H2.out.2.1.lt q hq).1; have := HT.out.ltb; simp; omega)
    · exact (H2.out.2.2.mut.trans (m3.wide (fun q hq => by simp at hq; subst hq; simp [Value.ownBlock]))).setCell (by simp) _
    · have := (H2.out.2.1.lt q hq).1
      simp [Value.ownBlock] at hq2
      omega
  have cf : ∀ i, w3.frozen? ⟨b, i, none⟩ = false := fun i => O3.blk.fz i
  have c3 := O3.blk.at 1 rfl
  clear l3 m3 c1 O3
  go_wp2
  go_ret2
  exact ⟨_, _, rfl, H3.out⟩

set_option maxHeartbeats 1000000 in
theorem stake_no {base b most : Nat} {v : Value} {T : List Int} (k : Int) (w : World) (h : STab 180 w base b most v T) (hk : ¬ (1 ≤ k ∧ k ≤ T.length)) :
    Calls Try.prog 53 #[.pointer (some ⟨b, 0, none⟩), .int .i64 k] w fun e w' => e = .returned (.tuple #[.slice none 0 0, .bool false]) ∧ w' = w := by
  have c1 := h.c1
  obtain ⟨x, c, rfl⟩ := h.lst.form
  clear h
  by_cases h0 : k < 1
  · clear hk
    go_enter Try.func53, Try.ntmps53
    go_wp2
    go_ret2
    exact ⟨rfl, rfl⟩
  · have h2 : (T.length : Int) < k := by omega
    clear hk
    go_enter Try.func53, Try.ntmps53
    go_wp2
    go_ret2
    exact ⟨rfl, rfl⟩
end Go.Proofs.Ytiigmmmhhpdmdaa

/-
  Side: whether each number is one more than the one ahead; the comparison of two lists.
-/
namespace Go.Proofs.Ytiigmmmhhpdmdaa
open Go.RowKit

/-- Of the first n numbers, is each one more than the one ahead? -/
def sideU (L : Nat → Int) : Nat → Bool
  | 0 => true
  | n + 1 => sideU L n && (n == 0 || L n == L (n - 1) + 1)

theorem ssideU_no {L : Nat → Int} {k : Nat} : ∀ {l : Nat}, k ≤ l → sideU L k = false → sideU L l = false
  | 0, h, e => by obtain rfl : k = 0 := by omega
                  exact e
  | l + 1, h, e => by
    by_cases hk : k = l + 1
    · subst hk; exact e
    · have := ssideU_no (l := l) (by omega) e
      simp [sideU, this]
theorem ssideU_yes {L : Nat → Int} : ∀ {l : Nat}, (∀ j, j + 1 < l → L (j + 1) = L j + 1) → sideU L l = true
  | 0, _ => rfl
  | l + 1, h => by
    rw [sideU, ssideU_yes (l := l) (fun j hj => h j (by omega))]
    cases l with
    | zero => rfl
    | succ l => simpa using h l (by omega)
theorem sideU_at {L : Nat → Int} {k l : Nat} (hk : k + 1 < l) (h : L (k + 1) ≠ L k + 1) : sideU L l = false :=
  ssideU_no (k := k + 2) (by omega) (by simp [sideU, h])

theorem bnd {p : Int} (h : IntKind.min .i64 ≤ p ∧ p ≤ IntKind.max .i64) : -9223372036854775808 ≤ p ∧ p ≤ 9223372036854775807 := by
  have e1 : IntKind.min .i64 = -9223372036854775808 := by decide
  have e2 : IntKind.max .i64 = 9223372036854775807 := by decide
  rwa [e1, e2] at h

/-- l numbers that are read at x. -/
def Rdf (w : World) (x : Option Addr) (l : Nat) (L : Nat → Int) : Prop := 0 < l → ∃ g o, x = some ⟨g, o, none⟩ ∧ g < w.heap.size ∧ ∀ j, j < l → w.cell? ⟨g, o + j, none⟩ = some (.int .i64 (L j))
theorem Rdf.kept {w w' : World} {x : Option Addr} {l : Nat} {L : Nat → Int} (h : Rdf w x l L) (k : Kept w w') : Rdf w' x l L := fun h0 => by
  obtain ⟨g, o, e, hl, hc⟩ := h h0
  exact ⟨g, o, e, Nat.lt_of_lt_of_le hl k.size, fun j hj => (k.cell hl).trans (hc j hj)⟩

set_option maxHeartbeats 2000000 in
theorem side_any {x : Option Addr} {l c : Nat} {L : Nat → Int} (w : World) (hl : (l : Int) ≤ 1000000) (hx : Rdf w x l L) (hB : ∀ j, j < l → IntKind.min .i64 ≤ L j ∧ L j ≤ IntKind.max .i64) :
    Calls Try.prog 98 #[.slice x l c] w fun e w' => e = .returned (.bool (sideU L l)) ∧ Kept w w' := by
  have HX : Hid (Rdf w x l L) := hx
  have HB : Hid _ := hB
  clear hx hB
  go_enter Try.func98, Try.ntmps98
  go_wp2
  go_loopg [3] l (fun m i wr => ∃ k : Nat, i = .int .i64 k ∧ 1 ≤ k ∧ (k ≤ l ∨ k = 1) ∧ m = l + 1 - k ∧ Hid (sideU L k = true ∧ Kept w wr))
  case atStart => exact ⟨1, rfl, by omega, by omega, by omega, rfl, Kept.refl _⟩
  case round =>
    obtain ⟨k, rfl, h1, hk, hm, hw⟩ := hrel
    have HM : Hid _ := hm
    have HKK : Hid _ := hk
    clear hm hk
    by_cases hlt : k < l
    · obtain ⟨i, rfl⟩ : ∃ i, k = i + 1 := ⟨k - 1, by omega⟩
      obtain ⟨g, o, rfl, hg, cc⟩ := HX.out.kept hw.out.2 (by omega)
      have c1 := cc (i + 1) hlt
      have c2 := cc i (by omega)
      have b1 := bnd (HB.out (i + 1) hlt)
      have b2 := bnd (HB.out i (by omega))
      have d1 := fun z : KW wr => z.cell hg c1
      have d2 := fun z : KW wr => z.cell hg c2
      have HS : Hid (L (i + 1) ≠ L i + 1 → sideU L l = false) := fun h => sideU_at hlt h
      have HY : Hid (L (i + 1) = L i + 1 → sideU L (i + 1 + 1) = true) := fun h => by
        rw [sideU, hw.out.1]
        simp [h]
      clear cc c1 c2
      generalize L (i + 1) = p at *
      generalize L i = q at *
      have g5 : ((i + 1 : Nat) : Int) - 1 = (i : Int) := by omega
      have g5a : (i : Int) + 1 - 1 = (i : Int) := by omega
      by_cases hA : p ≤ q
      · have e1 : decide (p ≤ q) = true := decide_eq_true hA
        have HE : Hid _ := HS.out (by omega)
        go_upto_region 4 with fail
        refine wp_region_kept (by kernel_rfl) (by kernel_rfl) fun _ => ?_
        repeat (go_big_quiet_step (fail))
        refine wpQuiet_nil ?_
        rintro _ ⟨z, rfl⟩
        clear d1 d2
        go_wp2
        go_ret
        exact ⟨by rw [HE.out]; rfl, hw.out.2.trans z.ok⟩
      · have e1 : decide (p ≤ q) = false := decide_eq_false hA
        by_cases hC : p = q + 1
        · subst hC
          have e2 : ((q + 1 - 1 : Int) != q) = false := by simp
          have e3 : ((q : Int) != q) = false := by simp
          go_upto_region 4 with fail
          refine wp_region_kept (by kernel_rfl) (by kernel_rfl) fun _ => ?_
          repeat (go_big_quiet_step (fail))
          refine wpQuiet_nil ?_
          rintro _ ⟨z, rfl⟩
          clear d1 d2
          go_wp2
          go_roundg (gk - 1)
          all_goals (have := HM.out; try omega)
          exact ⟨i + 1 + 1, by go_num, by omega, by omega, by omega, HY.out (by simp), hw.out.2.trans z.ok⟩
        · have e2 : ((p - 1 : Int) != q) = true := by simp; omega
          have HE : Hid _ := HS.out (by omega)
          go_upto_region 4 with fail
          refine wp_region_kept (by kernel_rfl) (by kernel_rfl) fun _ => ?_
          repeat (go_big_quiet_step (fail))
          refine wpQuiet_nil ?_
          rintro _ ⟨z, rfl⟩
          clear d1 d2
          go_wp2
          go_ret
          exact ⟨by rw [HE.out]; rfl, hw.out.2.trans z.ok⟩
    · have HE : Hid (sideU L l = true) := by
        rcases HKK.out with h | h
        · obtain rfl : l = k := by omega
          exact hw.out.1
        · subst h
          rcases (show l = 0 ∨ l = 1 by omega) with rfl | rfl
          · exact rfl
          · exact rfl
      go_wp2
      go_ret
      exact ⟨by rw [HE.out]; rfl, hw.out.2⟩
end Go.Proofs.Ytiigmmmhhpdmdaa

