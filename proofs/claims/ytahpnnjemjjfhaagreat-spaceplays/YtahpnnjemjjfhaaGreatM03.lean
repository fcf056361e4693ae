/-
  The modules Lst, Stock, one behind another.
-/
import Derived.OwnWalk
import Derived.Lib.LazyBuf
import Derived.Lib.SliceRun
import Derived.Deep.RegionLaw
import Derived.Test.YtahpnnjemjjfhaaGreatM01
/-
  Lists of whole numbers in memory: slices of the call's own (Lst), slices that are read (Rdi); append.
-/
namespace Go.Proofs.YtahpnnjemjjfhaaGreat
open Go.RowKit

/-- A slice of the call's own that holds the numbers T. -/
def Lst (w : World) (base : Nat) (v : Value) (T : List Int) : Prop := w.ownsRow base 3 1 v T.length (T.map (Value.int .i64))
/-- A slice from which the numbers T are read. -/
def Rdi (w : World) (x : Option Addr) (T : List Int) : Prop := 0 < T.length → ∃ g o, x = some ⟨g, o, none⟩ ∧ g < w.heap.size ∧ ∀ j, (hj : j < T.length) → w.cell? ⟨g, o + j, none⟩ = some (.int .i64 T[j])
/-- v' lies where v lay, or is new. -/
def Fresh (w : World) (v v' : Value) : Prop := ∀ k, v'.ownBlock = some k → v.ownBlock = some k ∨ w.heap.size ≤ k

section
variable {w w' w'' : World} {base : Nat} {v v' v'' : Value} {T N : List Int}
theorem Fresh.same (w : World) (v : Value) : Fresh w v v := fun _ h => .inl h
theorem Fresh.trans (h : Fresh w v v') (k : Fresh w' v' v'') (hs : w.heap.size ≤ w'.heap.size) : Fresh w v v'' := fun i hi => by
  rcases k i hi with e | e
  · exact h i e
  · exact .inr (by omega)
theorem Fresh.not {w : World} {v v' : Value} {k : Nat} (h : Fresh w v v') (hk : k < w.heap.size) (hv : v.ownBlock ≠ some k) : v'.ownBlock ≠ some k := fun e => by
  rcases h k e with q | q
  · exact hv q
  · omega

theorem Lst.form (h : Lst w base v T) : ∃ x c, v = .slice x T.length c := by
  rcases h.2 with ⟨rfl, h0⟩ | ⟨g, cap, cur, hv, _⟩
  · rw [h0]; exact ⟨_, _, rfl⟩
  · exact ⟨_, _, hv⟩
theorem Lst.nil (w : World) (base : Nat) : Lst w base (.slice none 0 0) [] := World.ownsRow_nil _ _ _ _
theorem Lst.lt (h : Lst w base v T) : ∀ k, v.ownBlock = some k → base ≤ k ∧ k < w.heap.size := World.ownsRow.lt h
theorem Lst.muts {D : List Nat} (h : Lst w base v T) (m : Mut D w w') (hd : ∀ k, v.ownBlock = some k → k ∉ D) : Lst w' base v T := by
  refine ⟨h.1, ?_⟩
  rcases h.2 with hn | ⟨g, cap, cur, rfl, hb, hgg, rest⟩
  · exact .inl hn
  · refine .inr ⟨g, cap, cur, rfl, hb, ?_, rest⟩
    rw [m.block g (lt_of_block hgg) (hd g rfl)]
    exact hgg
theorem Lst.kept (h : Lst w base v T) (k : Kept w w') : Lst w' base v T := h.muts (D := []) k.mut (fun _ _ q => by cases q)
theorem Lst.alloc (h : Lst w base v T) (c : Array Value) (t : TypeId) : Lst (w.alloc (.cells c t)) base v T := h.kept ((Kept.refl w).alloc c t)
theorem Lst.low (h : Lst w base v T) {b' : Nat} (hb : b' ≤ base) : Lst w b' v T := by
  refine ⟨h.1, ?_⟩
  rcases h.2 with hn | ⟨g, cap, cur, rfl, hb', hgg, rest⟩
  · exact .inl hn
  · exact .inr ⟨g, cap, cur, rfl, Nat.le_trans hb hb', hgg, rest⟩
theorem Lst.rdi {x : Option Addr} {l c : Nat} (h : Lst w base (.slice x l c) T) : Rdi w x T := fun hp => by
  rcases h.2 with ⟨e, h0⟩ | ⟨g, cap, cur, e, hb, hg, _⟩
  · omega
  · have e1 : x = some ⟨g, 0, none⟩ := by simpa using (Value.slice.inj e).1
    refine ⟨g, 0, e1, lt_of_block hg, fun j hj => ?_⟩
    have h1 := World.ownsRow.cells h (g := g) (by rw [e1]; rfl) j (.int .i64 T[j]) (by simp [hj])
    rw [show (⟨g, 0, none⟩ : Addr).add j = ⟨g, j, none⟩ by unfold Addr.add; split <;> simp_all] at h1
    rwa [Nat.zero_add]
theorem Rdi.kept {x : Option Addr} (h : Rdi w x T) (k : Kept w w') : Rdi w' x T := fun h0 => by
  obtain ⟨g, o, e, hl, hc⟩ := h h0
  exact ⟨g, o, e, Nat.lt_of_lt_of_le hl k.size, fun j hj => (k.cell hl).trans (hc j hj)⟩
theorem Rdi.muts {D : List Nat} {x : Option Addr} (h : Rdi w x T) (m : Mut D w w') (hd : ∀ g o, x = some ⟨g, o, none⟩ → g ∉ D) : Rdi w' x T := fun h0 => by
  obtain ⟨g, o, e, hl, hc⟩ := h h0
  exact ⟨g, o, e, Nat.lt_of_lt_of_le hl m.size, fun j hj => (m.cell hl (hd g o e)).trans (hc j hj)⟩
theorem Rdi.nil {x : Option Addr} : Rdi w x [] := fun h => by simp at h
theorem Rdi.take {x : Option Addr} (h : Rdi w x T) (k : Nat) : Rdi w x (T.take k) := fun h0 => by
  simp only [List.length_take] at h0
  obtain ⟨g, o, e, hl, hc⟩ := h (by omega)
  exact ⟨g, o, e, hl, fun j hj => by rw [List.getElem_take]; exact hc j (by simp at hj; omega)⟩
theorem Rdi.drop {g o : Nat} (h : Rdi w (some ⟨g, o, none⟩) T) (k : Nat) : Rdi w (some ⟨g, o + k, none⟩) (T.drop k) := fun h0 => by
  simp only [List.length_drop] at h0
  obtain ⟨g', o', e, hl, hc⟩ := h (by omega)
  obtain ⟨rfl, rfl⟩ : g = g' ∧ o = o' := by simpa using e
  exact ⟨g, o + k, rfl, hl, fun j hj => by
    rw [List.getElem_drop, Nat.add_assoc]
    exact hc (k + j) (by simp at hj; omega)⟩
theorem Rdi.news {a : Addr} (h : Rdi w (some a) T) : ∀ j u, (T.map (Value.int .i64))[j]? = some u → w.cell? (a.add j) = some u := fun j u hu => by
  have hj : j < T.length := by have := (List.getElem?_eq_some_iff.1 hu).1; simpa using this
  obtain ⟨g, o, e, _, hc⟩ := h (by omega)
  obtain rfl : a = ⟨g, o, none⟩ := by simpa using e
  rw [Addr.add_lit, hc j hj]
  simpa [hj] using hu

theorem mut_grown {row : Option Nat} (hg : w.grownBy w' row) : Mut row.toList w w' :=
  ⟨hg.os, hg.tape, hg.output, hg.size, fun k hk hd => hg.block k hk fun e => hd (by simp [← e])⟩

theorem info_int9 : (Tryz.prog.info? 3).map (fun i => (i.zero, i.size, i.bytes)) = some (some (.int .i64 0), 1, 8) := by kernel_rfl

theorem run_append_zero (ty : TypeId) (h : Lst w base v T) (c : Nat) : (Builtin.append_ #[55, 55] ty #[v, .slice none 0 c]).run Tryz.prog w = .ok v w := by
  obtain ⟨i, hi, hz, hs, hb⟩ := info_parts info_int9
  rcases h.2 with ⟨rfl, h0⟩ | ⟨g, cap, cur, rfl, _, _, hnc, _⟩
  · simp [Builtin.append_, run_underlying Tryz.underlying55, sizeOf, typeInfo, hi, Builtin.lenOf, Builtin.firstCells]
  · simp [Builtin.append_, run_underlying Tryz.underlying55, sizeOf, typeInfo, hi, Builtin.lenOf, Builtin.firstCells, hnc, storeCells]

/-- append, whatever room there is. -/
theorem run_append_lst (ty : TypeId) (h : Lst w base v T) (hb : base ≤ w.heap.size) {y : Option Addr} {c : Nat} (hy : Rdi w y N) (hn : T.length + N.length ≤ 1000000) :
    ∃ v' w', (Builtin.append_ #[55, 55] ty #[v, .slice y N.length c]).run Tryz.prog w = .ok v' w' ∧ Lst w' base v' (T ++ N) ∧ Mut v.ownBlock.toList w w' ∧ Fresh w v v' := by
  obtain ⟨i, hi, hz, hs, hby⟩ := info_parts info_int9
  cases y with
  | none =>
    obtain rfl : N = [] := by
      cases N with
      | nil => rfl
      | cons a N => obtain ⟨g, o, e, _⟩ := hy (by simp); cases e
    exact ⟨v, w, run_append_zero ty h c, by simpa using h, Mut.refl _ _, Fresh.same _ _⟩
  | some a =>
    have hnews := hy.news
    have hl : (N.map (Value.int .i64)).length = N.length * i.size := by rw [hs]; simp
    have h1c : ∀ u ∈ N.map (Value.int .i64), u.oneCell' = true := ints_oneCell _ _
    have hmap : (T ++ N).map (Value.int .i64) = T.map (Value.int .i64) ++ N.map (Value.int .i64) := by simp
    have hbm : (T.length + N.length) * 8 ≤ 140737488355328 := by omega
    have h63 : T.length + N.length ≤ maxLen := by unfold maxLen; omega
    rcases h.2 with ⟨rfl, h0⟩ | ⟨g, cap, cur, rfl, hbg, hg, hnc, hcm, hcs, htake⟩
    · have hT : T = [] := List.eq_nil_of_length_eq_zero h0
      subst hT
      obtain ⟨v', w', hr, h2, h3, _⟩ := run_append_own (P := Tryz.prog) w w.heap.size 55 ty 3 i (.int .i64 0) 1 8 Tryz.underlying55 hi hz hs hby rfl (by decide) (.slice none 0 0) 0 [] (World.ownsRow_nil _ _ _ _) a N.length c (N.map (Value.int .i64)) (by simp) hnews h1c (by simpa using h63) (by simpa using hbm) (Nat.le_refl _)
      have h4 : Lst w' w.heap.size v' N := by unfold Lst; simpa using h2
      refine ⟨v', w', hr, by simpa using h4.low hb, mut_grown h3, fun k hk => .inr (h4.lt k hk).1⟩
    · by_cases hroom : T.length + N.length ≤ cap
      · obtain ⟨w', hr, h2, h3⟩ := run_append_fits (P := Tryz.prog) w base 55 ty 3 i 1 Tryz.underlying55 hi hs g T.length cap _ h a N.length c _ (by simp) hnews h1c hroom
        refine ⟨_, w', hr, ?_, mut_grown h3, fun k hk => .inl (by simpa [Value.ownBlock] using hk)⟩
        unfold Lst
        rw [hmap, List.length_append]
        exact h2
      · have holds : ∀ j u, (T.map (Value.int .i64))[j]? = some u → w.cell? ((⟨g, 0, none⟩ : Addr).add j) = some u := World.ownsRow.cells h (g := g) rfl
        have hr := run_append_grow (P := Tryz.prog) w 55 ty 3 i (.int .i64 0) Tryz.underlying55 hi hz ⟨g, 0, none⟩ T.length cap _ (by rw [hs]; simp) holds a N.length c _ hl hnews (by omega) (by omega) (growslice_fits (by omega) (by rw [hby]; exact hbm))
        have hge := grownCap_ge w (T.length + N.length) cap 3
        have hgm := grownCap_le_maxLen w (T.length + N.length) cap 3 h63
        refine ⟨_, _, hr, ⟨by simp, .inr ⟨w.heap.size, _, _, by rw [List.length_append], hb, heap_alloc_new w.drew _, by simpa using hge, hgm, ?_, ?_⟩⟩, ⟨rfl, rfl, rfl, by simp, fun k hk _ => Below.heap_alloc w.drew _ k hk⟩, fun k hk => .inr ?_⟩
        · have hz1 : (Value.int IntKind.i64 0).cells.size = 1 := rfl
          simp only [Array.size_append, List.size_toArray, size_zeroCells, hz1, List.length_map]
          omega
        · rw [hmap]
          simp only [Array.toList_append, List.append_assoc]
          rw [← List.append_assoc]
          have : (T ++ N).length * 1 = (T.map (Value.int .i64) ++ N.map (Value.int .i64)).length := by simp
          rw [this]
          exact List.take_left
        · have : w.heap.size = k := by simpa [Value.ownBlock] using hk
          omega

theorem wpList_append_lst {w : World} {ops : Array Oper} {rest : List Oper} {o : Oper} {a : Act} {Q : Exit → Act → World → Prop} (hgd : o.guard = none) (s x : Operand)
    (ho : o.op = .call { callee := .builtin .append, args := #[s, x], argTypes := #[55, 55] }) {base : Nat} {v : Value} {T : List Int} (hs : a.eval s = v) (h : Lst w base v T) (hb : base ≤ w.heap.size)
    {y : Option Addr} {m c : Nat} {N : List Int} (hx : a.eval x = .slice y m c) (hm : N.length = m) (hy : Rdi w y N) (hn : T.length + N.length ≤ 1000000)
    (hK : ∀ v' w', Lst w' base v' (T ++ N) → Mut v.ownBlock.toList w w' → Fresh w v v' → wpList Tryz.prog ops Q rest (a.put o.dst v') w') : wpList Tryz.prog ops Q (o :: rest) a w := by
  subst hm
  obtain ⟨v', w', hr, h2, h3, h4⟩ := run_append_lst o.type h hb (c := c) hy hn
  refine wpList_plain hgd fun K hK' => ?_
  unfold Oper.wp execOp
  simp only [ho, resolve, invoke, builtin, Sem.run_bind, Sem.run_pure, Result.andThen_ok, List.map_toArray, List.map_cons, List.map_nil, hs, hx, hr]
  exact hK' _ _ (hK v' w' h2 h3 h4)

theorem mut_setCells {D : List Nat} {b : Nat} (hb : b ∈ D) : ∀ (vs : List Value) (o : Nat) (w : World), Mut D w (w.setCells b o vs)
  | [], _, w => Mut.refl _ w
  | v :: r, o, w => ((Mut.refl D w).setCell (p := ⟨b, o, none⟩) hb v).trans (mut_setCells hb r (o + 1) _)

/-- A list as a row of cells, its capacity told. -/
theorem Lst.row {g l cap : Nat} (h : Lst w base (.slice (some ⟨g, 0, none⟩) l cap) T) : T.length ≤ cap ∧ cap ≤ maxLen ∧ base ≤ g ∧ ∃ f, w.rowIs g 3 cap f ∧ ∀ j, (hj : j < T.length) → f j = .int .i64 T[j] := by
  rcases h.2 with ⟨e, h0⟩ | ⟨g', cap', cur, e, hb, hg, hnc, hcm, hcs, htake⟩
  · cases e
  · obtain ⟨e1, _, e3⟩ := Value.slice.inj e
    obtain rfl : g = g' := by simpa using e1
    subst e3
    refine ⟨hnc, hcm, hb, fun j => cur[j]?.getD default, ⟨cur, hg, by simpa using hcs, fun j hj => ?_⟩, fun j hj => ?_⟩
    · have : j < cur.size := by omega
      simp [this]
    · have h1 : (cur.toList.take (T.length * 1))[j]? = some (.int .i64 T[j]) := by rw [htake]; simp [hj]
      rw [List.getElem?_take, if_pos (by omega)] at h1
      have h2 : cur[j]? = some (.int .i64 T[j]) := by simpa using h1
      show cur[j]?.getD default = _
      rw [h2]
      rfl
theorem lst_of_row {g cap : Nat} {f : Nat → Value} (h : w.rowIs g 3 cap f) (hf : ∀ j, (hj : j < T.length) → f j = .int .i64 T[j]) (hl : T.length ≤ cap) (hm : cap ≤ maxLen) (hb : base ≤ g) : Lst w base (.slice (some ⟨g, 0, none⟩) T.length cap) T := by
  obtain ⟨cur, hg, hc, hcell⟩ := h
  refine ⟨by simp, .inr ⟨g, cap, cur, rfl, hb, hg, hl, hm, by omega, ?_⟩⟩
  apply List.ext_getElem?
  intro j
  rw [List.getElem?_take]
  by_cases hj : j < T.length
  · rw [if_pos (by omega)]
    have := hcell j (by omega)
    rw [hf j hj] at this
    simpa [hj] using this
  · rw [if_neg (by omega), List.getElem?_eq_none (by simp; omega)]
end
end Go.Proofs.YtahpnnjemjjfhaaGreat

/-
  Contracts of package stock: a stock as it lies in memory; New, Len, Room, Put, Drain.
-/
namespace Go.Proofs.YtahpnnjemjjfhaaGreat
open Go.RowKit

/-- A stock (of head type t) at block b, that keeps the numbers T in the slice v. -/
structure STab (t : TypeId) (w : World) (base b most : Nat) (v : Value) (T : List Int) : Prop where
  head : Own w b t [.int .i64 (most : Int), v]
  lst : Lst w base v T
  few : T.length ≤ most
  max : most ≤ 8
  lo : base ≤ b
  ty : t ≠ 3

section
variable {t : TypeId} {w w' w'' : World} {base b most : Nat} {v v' : Value} {T : List Int}
/-- Another block than a list's. -/
theorem Own.nelst {b : Nat} {L : List Value} (h : Own w b t L) (l : Lst w base v T) (ht : t ≠ 3) : v.ownBlock ≠ some b := fun e => by
  rcases l.2 with ⟨rfl, _⟩ | ⟨g, cap, cur, rfl, _, hg, _⟩
  · cases e
  · obtain rfl : g = b := by simpa [Value.ownBlock] using e
    unfold Own at h
    rw [hg] at h
    simp only [Option.some.injEq, Obj.cells.injEq] at h
    exact ht h.2.1.symm
theorem STab.ne (h : STab t w base b most v T) : v.ownBlock ≠ some b := h.head.nelst h.lst h.ty
theorem STab.c0 (h : STab t w base b most v T) : w.cell? ⟨b, 0, none⟩ = some (.int .i64 (most : Int)) := h.head.blk.at 0 rfl
theorem STab.c1 (h : STab t w base b most v T) : w.cell? ⟨b, 1, none⟩ = some v := h.head.blk.at 1 rfl
theorem STab.fz (h : STab t w base b most v T) (i : Nat) : w.frozen? ⟨b, i, none⟩ = false := h.head.blk.fz i
theorem STab.kept (h : STab t w base b most v T) (k : Kept w w') : STab t w' base b most v T := ⟨h.head.kept k, h.lst.kept k, h.few, h.max, h.lo, h.ty⟩
theorem STab.muts {D : List Nat} (h : STab t w base b most v T) (m : Mut D w w') (hb : b ∉ D) (hd : ∀ k, v.ownBlock = some k → k ∉ D) : STab t w' base b most v T := ⟨h.head.muts m hb, h.lst.muts m hd, h.few, h.max, h.lo, h.ty⟩
theorem STab.ltb (h : STab t w base b most v T) : b < w.heap.size := h.head.lt
theorem STab.own (h : STab t w base b most v T) : ∀ k, k ∈ b :: v.ownBlock.toList → base ≤ k ∧ k < w.heap.size := fun k hk => by
  simp at hk
  rcases hk with rfl | hk
  · exact ⟨h.lo, h.ltb⟩
  · exact h.lst.lt k hk
/-- Another list behind the head. -/
theorem STab.turn {t : TypeId} {w w' : World} {base b most : Nat} {v v' : Value} {T T' : List Int} (h : STab t w base b most v T) (o : Own w' b t [.int .i64 (most : Int), v]) (l : Lst w' base v' T') (hf : T'.length ≤ most) : STab t (w'.setCell ⟨b, 1, none⟩ v') base b most v' T' :=
  ⟨by simpa using o.set 1 v', l.muts (D := [b]) ((Mut.refl _ _).setCell (by simp) _) (fun k hk hd => by
    simp at hd
    subst hd
    exact o.nelst l h.ty hk), hf, h.max, h.lo, h.ty⟩
end

set_option maxHeartbeats 800000 in
theorem snew_bad (n : Int) (w : World) (hn : ¬ (0 ≤ n ∧ n ≤ 8)) :
    Calls Tryz.prog 36 #[.int .i64 n] w fun e w' => e = .returned (.tuple #[.pointer none, .int .i64 1]) ∧ w' = w := by
  by_cases h0 : n < 0
  · clear hn
    go_enter Tryz.func36, Tryz.ntmps36
    go_wp2
    go_ret2
    exact ⟨rfl, rfl⟩
  · have h1 : 8 < n := by omega
    clear hn
    go_enter Tryz.func36, Tryz.ntmps36
    go_wp2
    go_ret2
    exact ⟨rfl, rfl⟩

set_option maxHeartbeats 800000 in
theorem snew_any (n : Nat) (w : World) (hn : n ≤ 8) {base : Nat} (hb : base ≤ w.heap.size) :
    Calls Tryz.prog 36 #[.int .i64 n] w fun e w' => ∃ b, e = .returned (.tuple #[.pointer (some ⟨b, 0, none⟩), .int .i64 0]) ∧ STab 131 w' base b n (.slice none 0 0) [] ∧ Kept w w' ∧ w.heap.size ≤ b := by
  have HO : Hid (∀ w' : World, base ≤ w'.heap.size → STab 131 (w'.alloc (.cells #[.int .i64 (n : Int), .slice none 0 0] 131)) base w'.heap.size n (.slice none 0 0) []) := fun w' hb => ⟨Own.new w' [.int .i64 (n : Int), .slice none 0 0] _, Lst.nil _ _, by simp, hn, hb, by decide⟩
  have HK : Hid (base ≤ w.heap.size) := hb
  clear hb
  go_enter Tryz.func36, Tryz.ntmps36
  go_wp2
  go_ret2
  exact ⟨_, rfl, HO.out w HK.out, (Kept.refl _).alloc _ _, by omega⟩

set_option maxHeartbeats 400000 in
theorem sroom_any {base b most : Nat} {v : Value} {T : List Int} (w : World) (h : STab 131 w base b most v T) :
    Calls Tryz.prog 137 #[.pointer (some ⟨b, 0, none⟩)] w fun e w' => e = .returned (.int .i64 ((most : Int) - (T.length : Int))) ∧ Kept w w' := by
  obtain ⟨x, c, rfl⟩ := h.lst.form
  have c0 := h.c0
  have c1 := h.c1
  have h1 := h.few
  have h2 := h.max
  clear h
  go_enter Tryz.func137, Tryz.ntmps137
  go_wp2
  go_region
  all_goals go_wp2
  all_goals go_ret
  all_goals exact ⟨by go_num, (Kept.refl _).drew⟩

set_option maxHeartbeats 400000 in
theorem sdrain_any {base b most : Nat} {v : Value} {T : List Int} (w : World) (h : STab 131 w base b most v T) :
    Calls Tryz.prog 110 #[.pointer (some ⟨b, 0, none⟩)] w fun e w' => e = .returned v ∧ STab 131 w' base b most (.slice none 0 0) [] ∧ Mut [b] w w' := by
  have HT : Hid (STab 131 w base b most v T) := h
  obtain ⟨x, c, rfl⟩ := h.lst.form
  have c1 := h.c1
  have cf := h.fz
  clear h
  go_enter Tryz.func110, Tryz.ntmps110
  go_wp2
  go_ret
  exact ⟨rfl, HT.out.turn HT.out.head (Lst.nil _ _) (by simp), (Mut.refl _ _).setCell (by simp) _⟩

set_option maxHeartbeats 1000000 in
theorem sput_no {base b most : Nat} {v : Value} {T : List Int} {x : Option Addr} {c : Nat} {N : List Int} (w : World) (h : STab 131 w base b most v T) (hf : ¬ T.length + N.length ≤ most) :
    Calls Tryz.prog 138 #[.pointer (some ⟨b, 0, none⟩), .slice x N.length c] w fun e w' => e = .returned (.bool false) ∧ Kept w w' := by
  have h1 := h.few
  have h2 := h.max
  have h3 : (N.length : Int) > (most : Int) - (T.length : Int) := by omega
  have HT : Hid (STab 131 w base b most v T) := h
  clear h hf
  go_enter Tryz.func138, Tryz.ntmps138
  go_wp2_with fail
  refine (sroom_any _ HT.out).mono ?_
  rintro e w1 ⟨rfl, k1⟩
  have K1 : Hid (Kept w w1) := k1
  clear k1
  go_wp2
  go_ret
  exact ⟨rfl, K1.out⟩

set_option maxHeartbeats 1000000 in
theorem sput_yes {base b most : Nat} {v : Value} {T : List Int} {x : Option Addr} {c : Nat} {N : List Int} (w : World) (h : STab 131 w base b most v T) (hx : Rdi w x N) (hf : T.length + N.length ≤ most) :
    Calls Tryz.prog 138 #[.pointer (some ⟨b, 0, none⟩), .slice x N.length c] w fun e w' => e = .returned (.bool true) ∧ ∃ v', STab 131 w' base b most v' (T ++ N) ∧ Mut (b :: v.ownBlock.toList) w w' ∧ Fresh w v v' := by
  have h1 := h.few
  have h2 := h.max
  have h3 : ¬ (N.length : Int) > (most : Int) - (T.length : Int) := by omega
  have HT : Hid (STab 131 w base b most v T ∧ Rdi w x N) := ⟨h, hx⟩
  have HF : Hid (T.length + N.length ≤ most) := hf
  clear h hx hf
  go_enter Tryz.func138, Tryz.ntmps138
  go_wp2_with fail
  refine (sroom_any _ HT.out.1).mono ?_
  rintro e w1 ⟨rfl, k1⟩
  have H1 : Hid (STab 131 w1 base b most v T ∧ Rdi w1 x N ∧ Kept w w1) := ⟨HT.out.1.kept k1, HT.out.2.kept k1, k1⟩
  clear k1
  obtain ⟨y, d, rfl⟩ := H1.out.1.lst.form
  have c1 := H1.out.1.c1
  have z1 : base ≤ w1.heap.size := by have := H1.out.1.lo; have := H1.out.1.ltb; omega
  have z2 : T.length + N.length ≤ 1000000 := by have := HF.out; omega
  go_wp2_with (at_builtin; refine wpList_append_lst (T := T) (N := N) rfl _ _ rfl rfl H1.out.1.lst z1 rfl rfl H1.out.2.1 z2 ?_)
  intro v2 w2 l2 m2 f2
  have H2 : Hid (STab 131 (w2.setCell ⟨b, 1, none⟩ v2) base b most v2 (T ++ N) ∧ Mut (b :: (Value.slice y T.length d).ownBlock.toList) w (w2.setCell ⟨b, 1, none⟩ v2) ∧ Fresh w (Value.slice y T.length d) v2) := by
    have q := H1.out.1.ne
    refine ⟨H1.out.1.turn (H1.out.1.head.muts m2 (by simpa using q)) l2 (by simpa using HF.out), ?_, fun k hk => ?_⟩
    · exact (H1.out.2.2.mut.trans (m2.wide fun k hk => by simp at hk ⊢; exact .inr hk)).setCell (by simp) _
    · rcases f2 k hk with e | e
      · exact .inl e
      · exact .inr (by have := H1.out.2.2.size; omega)
  have cf : ∀ i, w2.frozen? ⟨b, i, none⟩ = false := fun i => (H1.out.1.head.muts m2 (by simpa using H1.out.1.ne)).blk.fz i
  have ck : ∃ u, w2.cell? ⟨b, 1, none⟩ = some u := ⟨_, (H1.out.1.head.muts m2 (by simpa using H1.out.1.ne)).blk.at 1 rfl⟩
  obtain ⟨u, ck⟩ := ck
  obtain ⟨y2, d2, e2⟩ := l2.form
  rw [List.length_append] at e2
  subst e2
  clear l2 m2 f2 c1
  go_wp2
  go_ret
  exact ⟨rfl, _, H2.out⟩
set_option maxHeartbeats 400000 in
theorem srroom_any {base b most : Nat} {v : Value} {T : List Int} (w : World) (h : STab 102 w base b most v T) :
    Calls Tryz.prog 100 #[.pointer (some ⟨b, 0, none⟩)] w fun e w' => e = .returned (.int .i64 ((most : Int) - (T.length : Int))) ∧ Kept w w' := by
  obtain ⟨x, c, rfl⟩ := h.lst.form
  have c0 := h.c0
  have c1 := h.c1
  have h1 := h.few
  have h2 := h.max
  clear h
  go_enter Tryz.func100, Tryz.ntmps100
  go_wp2
  go_region
  all_goals go_wp2
  all_goals go_ret
  all_goals exact ⟨by go_num, (Kept.refl _).drew⟩

set_option maxHeartbeats 400000 in
theorem srdrain_any {base b most : Nat} {v : Value} {T : List Int} (w : World) (h : STab 102 w base b most v T) :
    Calls Tryz.prog 112 #[.pointer (some ⟨b, 0, none⟩)] w fun e w' => e = .returned v ∧ STab 102 w' base b most (.slice none 0 0) [] ∧ Mut [b] w w' := by
  have HT : Hid (STab 102 w base b most v T) := h
  obtain ⟨x, c, rfl⟩ := h.lst.form
  have c1 := h.c1
  have cf := h.fz
  clear h
  go_enter Tryz.func112, Tryz.ntmps112
  go_wp2
  go_ret
  exact ⟨rfl, HT.out.turn HT.out.head (Lst.nil _ _) (by simp), (Mut.refl _ _).setCell (by simp) _⟩

set_option maxHeartbeats 1000000 in
theorem srput_no {base b most : Nat} {v : Value} {T : List Int} {x : Option Addr} {c : Nat} {N : List Int} (w : World) (h : STab 102 w base b most v T) (hf : ¬ T.length + N.length ≤ most) :
    Calls Tryz.prog 102 #[.pointer (some ⟨b, 0, none⟩), .slice x N.length c] w fun e w' => e = .returned (.bool false) ∧ Kept w w' := by
  have h1 := h.few
  have h2 := h.max
  have h3 : (N.length : Int) > (most : Int) - (T.length : Int) := by omega
  have HT : Hid (STab 102 w base b most v T) := h
  clear h hf
  go_enter Tryz.func102, Tryz.ntmps102
  go_wp2_with fail
  refine (srroom_any _ HT.out).mono ?_
  rintro e w1 ⟨rfl, k1⟩
  have K1 : Hid (Kept w w1) := k1
  clear k1
  go_wp2
  go_ret
  exact ⟨rfl, K1.out⟩

set_option maxHeartbeats 1000000 in
theorem srput_yes {base b most : Nat} {v : Value} {T : List Int} {x : Option Addr} {c : Nat} {N : List Int} (w : World) (h : STab 102 w base b most v T) (hx : Rdi w x N) (hf : T.length + N.length ≤ most) :
    Calls Tryz.prog 102 #[.pointer (some ⟨b, 0, none⟩), .slice x N.length c] w fun e w' => e = .returned (.bool true) ∧ ∃ v', STab 102 w' base b most v' (T ++ N) ∧ Mut (b :: v.ownBlock.toList) w w' ∧ Fresh w v v' := by
  have h1 := h.few
  have h2 := h.max
  have h3 : ¬ (N.length : Int) > (most : Int) - (T.length : Int) := by omega
  have HT : Hid (STab 102 w base b most v T ∧ Rdi w x N) := ⟨h, hx⟩
  have HF : Hid (T.length + N.length ≤ most) := hf
  clear h hx hf
  go_enter Tryz.func102, Tryz.ntmps102
  go_wp2_with fail
  refine (srroom_any _ HT.out.1).mono ?_
  rintro e w1 ⟨rfl, k1⟩
  have H1 : Hid (STab 102 w1 base b most v T ∧ Rdi w1 x N ∧ Kept w w1) := ⟨HT.out.1.kept k1, HT.out.2.kept k1, k1⟩
  clear k1
  obtain ⟨y, d, rfl⟩ := H1.out.1.lst.form
  have c1 := H1.out.1.c1
  have z1 : base ≤ w1.heap.size := by have := H1.out.1.lo; have := H1.out.1.ltb; omega
  have z2 : T.length + N.length ≤ 1000000 := by have := HF.out; omega
  go_wp2_with (at_builtin; refine wpList_append_lst (T := T) (N := N) rfl _ _ rfl rfl H1.out.1.lst z1 rfl rfl H1.out.2.1 z2 ?_)
  intro v2 w2 l2 m2 f2
  have H2 : Hid (STab 102 (w2.setCell ⟨b, 1, none⟩ v2) base b most v2 (T ++ N) ∧ Mut (b :: (Value.slice y T.length d).ownBlock.toList) w (w2.setCell ⟨b, 1, none⟩ v2) ∧ Fresh w (Value.slice y T.length d) v2) := by
    have q := H1.out.1.ne
    refine ⟨H1.out.1.turn (H1.out.1.head.muts m2 (by simpa using q)) l2 (by simpa using HF.out), ?_, fun k hk => ?_⟩
    · exact (H1.out.2.2.mut.trans (m2.wide fun k hk => by simp at hk ⊢; exact .inr hk)).setCell (by simp) _
    · rcases f2 k hk with e | e
      · exact .inl e
      · exact .inr (by have := H1.out.2.2.size; omega)
  have cf : ∀ i, w2.frozen? ⟨b, i, none⟩ = false := fun i => (H1.out.1.head.muts m2 (by simpa using H1.out.1.ne)).blk.fz i
  have ck : ∃ u, w2.cell? ⟨b, 1, none⟩ = some u := ⟨_, (H1.out.1.head.muts m2 (by simpa using H1.out.1.ne)).blk.at 1 rfl⟩
  obtain ⟨u, ck⟩ := ck
  obtain ⟨y2, d2, e2⟩ := l2.form
  rw [List.length_append] at e2
  subst e2
  clear l2 m2 f2 c1
  go_wp2
  go_ret
  exact ⟨rfl, _, H2.out⟩
end Go.Proofs.YtahpnnjemjjfhaaGreat

