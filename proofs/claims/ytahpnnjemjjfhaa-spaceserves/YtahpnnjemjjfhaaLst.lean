/-
  Lists of whole numbers in memory: slices of the call's own (Lst), slices that are read (Rdi); append.
-/
import Derived.Test.YtahpnnjemjjfhaaCells
import Derived.OwnWalk
import Derived.Lib.LazyBuf
import Derived.Lib.SliceRun
import Derived.Deep.RegionLaw
namespace Go.Proofs.Ytahpnnjemjjfhaa
open Go.RowKit

/-- A slice of the call's own that holds the numbers T. -/
def Lst (w : World) (base : Nat) (v : Value) (T : List Int) : Prop := w.ownsRow base 3 1 v T.length (T.map (Value.int .i64))
/-- A slice from which the numbers T are read. -/
def Rdi (w : World) (x : Option Addr) (T : List Int) : Prop := 0 < T.length → ∃ g o, x = some ⟨g, o, none⟩ ∧ g < w.heap.size ∧ ∀ j, (hj : j < T.length) → w.cell? ⟨g, o + j, none⟩ = some (.int .i64 T[j])
/-- v' lies where v lay, or is new. -/
def Fresh (w : World) (v v' : Value) : Prop := ∀ k, v'.ownBlock = some k → v.ownBlock = some k ∨ w.heap.size ≤ k

section
variable {w w' w'' : World} {base : Nat} {v v' v'' : Value} {T N : List Int}
theorem Fresh.same (w : World) (v : Value) : Fresh w v v := fun _ h => .inl h
theorem Fresh.trans (h : Fresh w v v') (k : Fresh w' v' v'') (hs : w.heap.size ≤ w'.heap.size) : Fresh w v v'' := fun i hi => by
  rcases k i hi with e | e
  · exact h i e
  · exact .inr (by omega)
theorem Fresh.not {w : World} {v v' : Value} {k : Nat} (h : Fresh w v v') (hk : k < w.heap.size) (hv : v.ownBlock ≠ some k) : v'.ownBlock ≠ some k := fun e => by
  rcases h k e with q | q
  · exact hv q
  · omega

theorem Lst.form (h : Lst w base v T) : ∃ x c, v = .slice x T.length c := by
  rcases h.2 with ⟨rfl, h0⟩ | ⟨g, cap, cur, hv, _⟩
  · rw [h0]; exact ⟨_, _, rfl⟩
  · exact ⟨_, _, hv⟩
theorem Lst.nil (w : World) (base : Nat) : Lst w base (.slice none 0 0) [] := World.ownsRow_nil _ _ _ _
theorem Lst.lt (h : Lst w base v T) : ∀ k, v.ownBlock = some k → base ≤ k ∧ k < w.heap.size := World.ownsRow.lt h
theorem Lst.muts {D : List Nat} (h : Lst w base v T) (m : Mut D w w') (hd : ∀ k, v.ownBlock = some k → k ∉ D) : Lst w' base v T := by
  refine ⟨h.1, ?_⟩
  rcases h.2 with hn | ⟨g, cap, cur, rfl, hb, hgg, rest⟩
  · exact .inl hn
  · refine .inr ⟨g, cap, cur, rfl, hb, ?_, rest⟩
    rw [m.block g (lt_of_block hgg) (hd g rfl)]
    exact hgg
theorem Lst.kept (h : Lst w base v T) (k : Kept w w') : Lst w' base v T := h.muts (D := []) k.mut (fun _ _ q => by cases q)
theorem Lst.alloc (h : Lst w base v T) (c : Array Value) (t : TypeId) : Lst (w.alloc (.cells c t)) base v T := h.kept ((Kept.refl w).alloc c t)
theorem Lst.low (h : Lst w base v T) {b' : Nat} (hb : b' ≤ base) : Lst w b' v T := by
  refine ⟨h.1, ?_⟩
  rcases h.2 with hn | ⟨g, cap, cur, rfl, hb', hgg, rest⟩
  · exact .inl hn
  · exact .inr ⟨g, cap, cur, rfl, Nat.le_trans hb hb', hgg, rest⟩
theorem Lst.rdi {x : Option Addr} {l c : Nat} (h : Lst w base (.slice x l c) T) : Rdi w x T := fun hp => by
  rcases h.2 with ⟨e, h0⟩ | ⟨g, cap, cur, e, hb, hg, _⟩
  · omega
  · have e1 : x = some ⟨g, 0, none⟩ := by simpa using (Value.slice.inj e).1
    refine ⟨g, 0, e1, lt_of_block hg, fun j hj => ?_⟩
    have h1 := World.ownsRow.cells h (g := g) (by rw [e1]; rfl) j (.int .i64 T[j]) (by simp [hj])
    rw [show (⟨g, 0, none⟩ : Addr).add j = ⟨g, j, none⟩ by unfold Addr.add; split <;> simp_all] at h1
    rwa [Nat.zero_add]
theorem Rdi.kept {x : Option Addr} (h : Rdi w x T) (k : Kept w w') : Rdi w' x T := fun h0 => by
  obtain ⟨g, o, e, hl, hc⟩ := h h0
  exact ⟨g, o, e, Nat.lt_of_lt_of_le hl k.size, fun j hj => (k.cell hl).trans (hc j hj)⟩
theorem Rdi.muts {D : List Nat} {x : Option Addr} (h : Rdi w x T) (m : Mut D w w') (hd : ∀ g o, x = some ⟨g, o, none⟩ → g ∉ D) : Rdi w' x T := fun h0 => by
  obtain ⟨g, o, e, hl, hc⟩ := h h0
  exact ⟨g, o, e, Nat.lt_of_lt_of_le hl m.size, fun j hj => (m.cell hl (hd g o e)).trans (hc j hj)⟩
theorem Rdi.nil {x : Option Addr} : Rdi w x [] := fun h => by simp at h
theorem Rdi.take {x : Option Addr} (h : Rdi w x T) (k : Nat) : Rdi w x (T.take k) := fun h0 => by
  simp only [List.length_take] at h0
  obtain ⟨g, o, e, hl, hc⟩ := h (by omega)
  exact ⟨g, o, e, hl, fun j hj => by rw [List.getElem_take]; exact hc j (by simp at hj; omega)⟩
theorem Rdi.drop {g o : Nat} (h : Rdi w (some ⟨g, o, none⟩) T) (k : Nat) : Rdi w (some ⟨g, o + k, none⟩) (T.drop k) := fun h0 => by
  simp only [List.length_drop] at h0
  obtain ⟨g', o', e, hl, hc⟩ := h (by omega)
  obtain ⟨rfl, rfl⟩ : g = g' ∧ o = o' := by simpa using e
  exact ⟨g, o + k, rfl, hl, fun j hj => by
    rw [List.getElem_drop, Nat.add_assoc]
    exact hc (k + j) (by simp at hj; omega)⟩
theorem Rdi.news {a : Addr} (h : Rdi w (some a) T) : ∀ j u, (T.map (Value.int .i64))[j]? = some u → w.cell? (a.add j) = some u := fun j u hu => by
  have hj : j < T.length := by have := (List.getElem?_eq_some_iff.1 hu).1; simpa using this
  obtain ⟨g, o, e, _, hc⟩ := h (by omega)
  obtain rfl : a = ⟨g, o, none⟩ := by simpa using e
  rw [Addr.add_lit, hc j hj]
  simpa [hj] using hu

theorem mut_grown {row : Option Nat} (hg : w.grownBy w' row) : Mut row.toList w w' :=
  ⟨hg.os, hg.tape, hg.output, hg.size, fun k hk hd => hg.block k hk fun e => hd (by simp [← e])⟩

theorem info_int9 : (Try.prog.info? 3).map (fun i => (i.zero, i.size, i.bytes)) = some (some (.int .i64 0), 1, 8) := by kernel_rfl

theorem run_append_zero (ty : TypeId) (h : Lst w base v T) (c : Nat) : (Builtin.append_ #[38, 38] ty #[v, .slice none 0 c]).run Try.prog w = .ok v w := by
  obtain ⟨i, hi, hz, hs, hb⟩ := info_parts info_int9
  rcases h.2 with ⟨rfl, h0⟩ | ⟨g, cap, cur, rfl, _, _, hnc, _⟩
  · simp [Builtin.append_, run_underlying Try.underlying38, sizeOf, typeInfo, hi, Builtin.lenOf, Builtin.firstCells]
  · simp [Builtin.append_, run_underlying Try.underlying38, sizeOf, typeInfo, hi, Builtin.lenOf, Builtin.firstCells, hnc, storeCells]

/-- append, whatever room there is. -/
theorem run_append_lst (ty : TypeId) (h : Lst w base v T) (hb : base ≤ w.heap.size) {y : Option Addr} {c : Nat} (hy : Rdi w y N) (hn : T.length + N.length ≤ 1000000) :
    ∃ v' w', (Builtin.append_ #[38, 38] ty #[v, .slice y N.length c]).run Try.prog w = .ok v' w' ∧ Lst w' base v' (T ++ N) ∧ Mut v.ownBlock.toList w w' ∧ Fresh w v v' := by
  obtain ⟨i, hi, hz, hs, hby⟩ := info_parts info_int9
  cases y with
  | none =>
    obtain rfl : N = [] := by
      cases N with
      | nil => rfl
      | cons a N => obtain ⟨g, o, e, _⟩ := hy (by simp); cases e
    exact ⟨v, w, run_append_zero ty h c, by simpa using h, Mut.refl _ _, Fresh.same _ _⟩
  | some a =>
    have hnews := hy.news
    have hl : (N.map (Value.int .i64)).length = N.length * i.size := by rw [hs]; simp
    have h1c : ∀ u ∈ N.map (Value.int .i64), u.oneCell' = true := ints_oneCell _ _
    have hmap : (T ++ N).map (Value.int .i64) = T.map (Value.int .i64) ++ N.map (Value.int .i64) := by simp
    have hbm : (T.length + N.length) * 8 ≤ 140737488355328 := by omega
    have h63 : T.length + N.length ≤ maxLen := by unfold maxLen; omega
    rcases h.2 with ⟨rfl, h0⟩ | ⟨g, cap, cur, rfl, hbg, hg, hnc, hcm, hcs, htake⟩
    · have hT : T = [] := List.eq_nil_of_length_eq_zero h0
      subst hT
      obtain ⟨v', w', hr, h2, h3, _⟩ := run_append_own (P := Try.prog) w w.heap.size 38 ty 3 i (.int .i64 0) 1 8 Try.underlying38 hi hz hs hby rfl (by decide) (.slice none 0 0) 0 [] (World.ownsRow_nil _ _ _ _) a N.length c (N.map (Value.int .i64)) (by simp) hnews h1c (by simpa using h63) (by simpa using hbm) (Nat.le_refl _)
      have h4 : Lst w' w.heap.size v' N := by unfold Lst; simpa using h2
      refine ⟨v', w', hr, by simpa using h4.low hb, mut_grown h3, fun k hk => .inr (h4.lt k hk).1⟩
    · by_cases hroom : T.length + N.length ≤ cap
      · obtain ⟨w', hr, h2, h3⟩ := run_append_fits (P := Try.prog) w base 38 ty 3 i 1 Try.underlying38 hi hs g T.length cap _ h a N.length c _ (by simp) hnews h1c hroom
        refine ⟨_, w', hr, ?_, mut_grown h3, fun k hk => .inl (by simpa [Value.ownBlock] using hk)⟩
        unfold Lst
        rw [hmap, List.length_append]
        exact h2
      · have holds : ∀ j u, (T.map (Value.int .i64))[j]? = some u → w.cell? ((⟨g, 0, none⟩ : Addr).add j) = some u := World.ownsRow.cells h (g := g) rfl
        have hr := run_append_grow (P := Try.prog) w 38 ty 3 i (.int .i64 0) Try.underlying38 hi hz ⟨g, 0, none⟩ T.length cap _ (by rw [hs]; simp) holds a N.length c _ hl hnews (by omega) (by omega) (growslice_fits (by omega) (by rw [hby]; exact hbm))
        have hge := grownCap_ge w (T.length + N.length) cap 3
        have hgm := grownCap_le_maxLen w (T.length + N.length) cap 3 h63
        refine ⟨_, _, hr, ⟨by simp, .inr ⟨w.heap.size, _, _, by rw [List.length_append], hb, heap_alloc_new w.drew _, by simpa using hge, hgm, ?_, ?_⟩⟩, ⟨rfl, rfl, rfl, by simp, fun k hk _ => Below.heap_alloc w.drew _ k hk⟩, fun k hk => .inr ?_⟩
        · have hz1 : (Value.int IntKind.i64 0).cells.size = 1 := rfl
          simp only [Array.size_append, List.size_toArray, size_zeroCells, hz1, List.length_map]
          omega
        · rw [hmap]
          simp only [Array.toList_append, List.append_assoc]
          rw [← List.append_assoc]
          have : (T ++ N).length * 1 = (T.map (Value.int .i64) ++ N.map (Value.int .i64)).length := by simp
          rw [this]
          exact List.take_left
        · have : w.heap.size = k := by simpa [Value.ownBlock] using hk
          omega

theorem wpList_append_lst {w : World} {ops : Array Oper} {rest : List Oper} {o : Oper} {a : Act} {Q : Exit → Act → World → Prop} (hgd : o.guard = none) (s x : Operand)
    (ho : o.op = .call { callee := .builtin .append, args := #[s, x], argTypes := #[38, 38] }) {base : Nat} {v : Value} {T : List Int} (hs : a.eval s = v) (h : Lst w base v T) (hb : base ≤ w.heap.size)
    {y : Option Addr} {m c : Nat} {N : List Int} (hx : a.eval x = .slice y m c) (hm : N.length = m) (hy : Rdi w y N) (hn : T.length + N.length ≤ 1000000)
    (hK : ∀ v' w', Lst w' base v' (T ++ N) → Mut v.ownBlock.toList w w' → Fresh w v v' → wpList Try.prog ops Q rest (a.put o.dst v') w') : wpList Try.prog ops Q (o :: rest) a w := by
  subst hm
  obtain ⟨v', w', hr, h2, h3, h4⟩ := run_append_lst o.type h hb (c := c) hy hn
  refine wpList_plain hgd fun K hK' => ?_
  unfold Oper.wp execOp
  simp only [ho, resolve, invoke, builtin, Sem.run_bind, Sem.run_pure, Result.andThen_ok, List.map_toArray, List.map_cons, List.map_nil, hs, hx, hr]
  exact hK' _ _ (hK v' w' h2 h3 h4)

theorem mut_setCells {D : List Nat} {b : Nat} (hb : b ∈ D) : ∀ (vs : List Value) (o : Nat) (w : World), Mut D w (w.setCells b o vs)
  | [], _, w => Mut.refl _ w
  | v :: r, o, w => ((Mut.refl D w).setCell (p := ⟨b, o, none⟩) hb v).trans (mut_setCells hb r (o + 1) _)

/-- A list as a row of cells, its capacity told. -/
theorem Lst.row {g l cap : Nat} (h : Lst w base (.slice (some ⟨g, 0, none⟩) l cap) T) : T.length ≤ cap ∧ cap ≤ maxLen ∧ base ≤ g ∧ ∃ f, w.rowIs g 3 cap f ∧ ∀ j, (hj : j < T.length) → f j = .int .i64 T[j] := by
  rcases h.2 with ⟨e, h0⟩ | ⟨g', cap', cur, e, hb, hg, hnc, hcm, hcs, htake⟩
  · cases e
  · obtain ⟨e1, _, e3⟩ := Value.slice.inj e
    obtain rfl : g = g' := by simpa using e1
    subst e3
    refine ⟨hnc, hcm, hb, fun j => cur[j]?.getD default, ⟨cur, hg, by simpa using hcs, fun j hj => ?_⟩, fun j hj => ?_⟩
    · have : j < cur.size := by omega
      simp [this]
    · have h1 : (cur.toList.take (T.length * 1))[j]? = some (.int .i64 T[j]) := by rw [htake]; simp [hj]
      rw [List.getElem?_take, if_pos (by omega)] at h1
      have h2 : cur[j]? = some (.int .i64 T[j]) := by simpa using h1
      show cur[j]?.getD default = _
      rw [h2]
      rfl
theorem lst_of_row {g cap : Nat} {f : Nat → Value} (h : w.rowIs g 3 cap f) (hf : ∀ j, (hj : j < T.length) → f j = .int .i64 T[j]) (hl : T.length ≤ cap) (hm : cap ≤ maxLen) (hb : base ≤ g) : Lst w base (.slice (some ⟨g, 0, none⟩) T.length cap) T := by
  obtain ⟨cur, hg, hc, hcell⟩ := h
  refine ⟨by simp, .inr ⟨g, cap, cur, rfl, hb, hg, hl, hm, by omega, ?_⟩⟩
  apply List.ext_getElem?
  intro j
  rw [List.getElem?_take]
  by_cases hj : j < T.length
  · rw [if_pos (by omega)]
    have := hcell j (by omega)
    rw [hf j hj] at this
    simpa [hj] using this
  · rw [if_neg (by omega), List.getElem?_eq_none (by simp; omega)]
end
end Go.Proofs.Ytahpnnjemjjfhaa
