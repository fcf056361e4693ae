/-
  Lists of whole numbers of the call's own that may begin behind their block's first cell (s = s[1:]); append.
-/
import Derived.Test.YtbbbkeomdhimlaaFirst10
import Derived.ArgAppend
namespace Go.Proofs.Ytbbbkeomdhimlaa
open Go.RowKit

def Lof (w : World) (base : Nat) (v : Value) (T : List Int) : Prop :=
  (v = .slice none 0 0 ∧ T = []) ∨ ∃ g o cap N f, v = .slice (some ⟨g, o, none⟩) T.length cap ∧ base ≤ g ∧ w.rowIs g 3 N f ∧ o + cap ≤ N ∧ T.length ≤ cap ∧ cap ≤ maxLen ∧ ∀ j, (hj : j < T.length) → f (o + j) = .int .i64 T[j]

section
variable {w w' : World} {base : Nat} {v : Value} {T N : List Int}
theorem Lst.lof (h : Lst w base v T) : Lof w base v T := by
  rcases h.2 with ⟨rfl, h0⟩ | ⟨g, cap, cur, hv, hb, hg, hnc, hcm, hcs, htake⟩
  · exact .inl ⟨rfl, List.eq_nil_of_length_eq_zero h0⟩
  · subst hv
    obtain ⟨h1, h2, h3, f, h4, h5⟩ := h.row
    exact .inr ⟨g, 0, cap, cap, f, rfl, h3, h4, by omega, h1, h2, fun j hj => by rw [Nat.zero_add]; exact h5 j hj⟩
theorem Lof.nil (w : World) (base : Nat) : Lof w base (.slice none 0 0) [] := .inl ⟨rfl, rfl⟩
theorem Lof.form (h : Lof w base v T) : ∃ x c, v = .slice x T.length c := by
  rcases h with ⟨rfl, rfl⟩ | ⟨g, o, cap, N, f, hv, _⟩
  · exact ⟨_, _, rfl⟩
  · exact ⟨_, _, hv⟩
theorem Lof.lt (h : Lof w base v T) : ∀ k, v.ownBlock = some k → base ≤ k ∧ k < w.heap.size := fun k hk => by
  rcases h with ⟨rfl, rfl⟩ | ⟨g, o, cap, N, f, rfl, hb, hr, _⟩
  · cases hk
  · obtain rfl : g = k := by simpa [Value.ownBlock] using hk
    exact ⟨hb, hr.lt⟩
theorem Lof.muts {D : List Nat} (h : Lof w base v T) (m : Mut D w w') (hd : ∀ k, v.ownBlock = some k → k ∉ D) : Lof w' base v T := by
  rcases h with h | ⟨g, o, cap, N, f, rfl, hb, hr, rest⟩
  · exact .inl h
  · exact .inr ⟨g, o, cap, N, f, rfl, hb, m.row hr (hd g rfl), rest⟩
theorem Lof.kept (h : Lof w base v T) (k : Kept w w') : Lof w' base v T := h.muts (D := []) k.mut (fun _ _ q => by cases q)
theorem Lof.rdi {x : Option Addr} {l c : Nat} (h : Lof w base (.slice x l c) T) : Rdi w x T := fun hp => by
  rcases h with ⟨e, rfl⟩ | ⟨g, o, cap, N, f, e, hb, hr, h1, h2, h3, h4⟩
  · simp at hp
  · have e1 : x = some ⟨g, o, none⟩ := (Value.slice.inj e).1
    exact ⟨g, o, e1, hr.lt, fun j hj => by rw [hr.cell (by omega), h4 j hj]⟩
theorem Lof.low (h : Lof w base v T) {b' : Nat} (hb : b' ≤ base) : Lof w b' v T := by
  rcases h with h | ⟨g, o, cap, N, f, rfl, hb', rest⟩
  · exact .inl h
  · exact .inr ⟨g, o, cap, N, f, rfl, by omega, rest⟩
/-- All but the first. -/
theorem Lof.tail {g o n cap : Nat} {t : Int} (h : Lof w base (.slice (some ⟨g, o, none⟩) n cap) (t :: T)) : 1 ≤ cap ∧ Lof w base (.slice (if cap = 1 then some ⟨g, o, none⟩ else some ⟨g, o + 1, none⟩) T.length (cap - 1)) T := by
  rcases h with ⟨e, _⟩ | ⟨g', o', cap', N, f, e, hb, hr, h1, h2, h3, h4⟩
  · cases e
  · obtain ⟨e1, _, rfl⟩ := Value.slice.inj e
    obtain ⟨rfl, rfl⟩ : g = g' ∧ o = o' := by simpa using e1
    simp only [List.length_cons] at h2
    refine ⟨by omega, ?_⟩
    by_cases hc : cap = 1
    · rw [if_pos hc]
      have h0 : T = [] := List.eq_nil_of_length_eq_zero (by omega)
      subst h0
      exact .inr ⟨g, o, cap - 1, N, f, rfl, hb, hr, by omega, by simp, by omega, fun j hj => by simp at hj⟩
    · rw [if_neg hc]
      exact .inr ⟨g, o + 1, cap - 1, N, f, rfl, hb, hr, by omega, by omega, by omega, fun j hj => by
        have := h4 (j + 1) (by simpa using hj)
        rw [show o + 1 + j = o + (j + 1) by omega, this]
        rfl⟩

/-- append, whatever room there is. -/
theorem run_append_lof (ty : TypeId) (h : Lof w base v T) (hb : base ≤ w.heap.size) {a : Addr} {c : Nat} (hy : Rdi w (some a) N) (hn : T.length + N.length ≤ 1000000) :
    ∃ v' w', (Builtin.append_ #[28, 28] ty #[v, .slice (some a) N.length c]).run Try.prog w = .ok v' w' ∧ Lof w' base v' (T ++ N) ∧ Mut v.ownBlock.toList w w' ∧ Fresh w v v' := by
  obtain ⟨i, hi, hz, hs, hby⟩ := info_parts info_int9
  rcases h with ⟨rfl, rfl⟩ | ⟨g, o, cap, M, f, rfl, hbg, hr, h1, h2, h3, h4⟩
  · obtain ⟨v', w', e, l, m, q⟩ := run_append_lst ty (Lst.nil w base) hb (c := c) hy hn
    exact ⟨v', w', e, l.lof, m, q⟩
  · have hnews := hy.news
    have hl : (N.map (Value.int .i64)).length = N.length * i.size := by rw [hs]; simp
    have h1c : ∀ u ∈ N.map (Value.int .i64), u.oneCell' = true := ints_oneCell _ _
    by_cases hroom : T.length + N.length ≤ cap
    · have hrun := run_append_room_cells (P := Try.prog) w 28 ty 3 i Try.underlying28 hi g o T.length cap a N.length c (N.map (Value.int .i64)) hl hnews h1c hroom (fun j hj => by
        rw [hs, hr.cell (by rw [hl, hs] at hj; omega)]; rfl) (fun j _ => by rw [hs]; exact hr.frozen _)
      rw [hs, Nat.mul_one] at hrun
      refine ⟨_, _, hrun, .inr ⟨g, o, cap, M, _, by rw [List.length_append], hbg, rowIs_setCells _ _ _ _ hr, h1, by simpa using hroom, h3, fun j hj => ?_⟩, mut_setCells (by simp [Value.ownBlock]) _ _ _, fun k hk => .inl (by simpa [Value.ownBlock] using hk)⟩
      simp only [List.length_append] at hj
      by_cases hj2 : j < T.length
      · rw [if_neg (by omega), h4 j hj2, List.getElem_append_left hj2]
      · rw [if_pos (by simp; omega), List.getElem_append_right (by omega), show o + j - (o + T.length) = j - T.length by omega]
        have : j - T.length < N.length := by omega
        simp [this]
    · have holds : ∀ j u, (T.map (Value.int .i64))[j]? = some u → w.cell? ((⟨g, o, none⟩ : Addr).add j) = some u := fun j u hu => by
        have hj : j < T.length := by have := (List.getElem?_eq_some_iff.1 hu).1; simpa using this
        rw [Addr.add_lit, hr.cell (by omega), h4 j hj]
        simpa [hj] using hu
      have hbm : (T.length + N.length) * 8 ≤ 140737488355328 := by omega
      have h63 : T.length + N.length ≤ maxLen := by unfold maxLen; omega
      have hrun := run_append_grow (P := Try.prog) w 28 ty 3 i (.int .i64 0) Try.underlying28 hi hz ⟨g, o, none⟩ T.length cap _ (by rw [hs]; simp) holds a N.length c _ hl hnews (by omega) (by omega) (growslice_fits (by omega) (by rw [hby]; exact hbm))
      have hge := grownCap_ge w (T.length + N.length) cap 3
      have hgm := grownCap_le_maxLen w (T.length + N.length) cap 3 h63
      have hmap : (T ++ N).map (Value.int .i64) = T.map (Value.int .i64) ++ N.map (Value.int .i64) := by simp
      have hlst : Lst (w.drew.alloc (.cells ((T.map (Value.int .i64)).toArray ++ (N.map (Value.int .i64)).toArray ++ Builtin.zeroCells (Value.int .i64 0).cells (grownCap w (T.length + N.length) cap 3 - (T.length + N.length))) 3)) base (.slice (some ⟨w.heap.size, 0, none⟩) (T.length + N.length) (grownCap w (T.length + N.length) cap 3)) (T ++ N) := by
        refine ⟨by simp, .inr ⟨w.heap.size, _, _, by rw [List.length_append], hb, heap_alloc_new w.drew _, by simpa using hge, hgm, ?_, ?_⟩⟩
        · have hz1 : (Value.int IntKind.i64 0).cells.size = 1 := rfl
          simp only [Array.size_append, List.size_toArray, size_zeroCells, hz1, List.length_map]
          omega
        · rw [hmap]
          simp only [Array.toList_append, List.append_assoc]
          rw [← List.append_assoc]
          have : (T ++ N).length * 1 = (T.map (Value.int .i64) ++ N.map (Value.int .i64)).length := by simp
          rw [this]
          exact List.take_left
      refine ⟨_, _, hrun, hlst.lof, ⟨rfl, rfl, rfl, by simp, fun k hk _ => Below.heap_alloc w.drew _ k hk⟩, fun k hk => .inr ?_⟩
      have : w.heap.size = k := by simpa [Value.ownBlock] using hk
      omega

theorem wpList_append_lof {w : World} {ops : Array Oper} {rest : List Oper} {o : Oper} {a : Act} {Q : Exit → Act → World → Prop} (hgd : o.guard = none) (s x : Operand)
    (ho : o.op = .call { callee := .builtin .append, args := #[s, x], argTypes := #[28, 28] }) {base : Nat} {v : Value} {T : List Int} (hs : a.eval s = v) (h : Lof w base v T) (hb : base ≤ w.heap.size)
    {y : Addr} {m c : Nat} {N : List Int} (hx : a.eval x = .slice (some y) m c) (hm : N.length = m) (hy : Rdi w (some y) N) (hn : T.length + N.length ≤ 1000000)
    (hK : ∀ v' w', Lof w' base v' (T ++ N) → Mut v.ownBlock.toList w w' → Fresh w v v' → wpList Try.prog ops Q rest (a.put o.dst v') w') : wpList Try.prog ops Q (o :: rest) a w := by
  subst hm
  obtain ⟨v', w', hr, h2, h3, h4⟩ := run_append_lof o.type h hb (c := c) hy hn
  refine wpList_plain hgd fun K hK' => ?_
  unfold Oper.wp execOp
  simp only [ho, resolve, invoke, builtin, Sem.run_bind, Sem.run_pure, Result.andThen_ok, List.map_toArray, List.map_cons, List.map_nil, hs, hx, hr]
  exact hK' _ _ (hK v' w' h2 h3 h4)
end
end Go.Proofs.Ytbbbkeomdhimlaa
