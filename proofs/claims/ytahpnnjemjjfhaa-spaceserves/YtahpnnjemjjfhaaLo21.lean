/-
  Slices of one-celled values of the call's own, that may begin behind their block's first cell: append of one, a write, the tail.
-/
import Derived.Test.YtahpnnjemjjfhaaLst
import Derived.ArgAppend
namespace Go.Proofs.Ytahpnnjemjjfhaa
open Go.RowKit

def Lo (t : TypeId) (w : World) (base : Nat) (v : Value) (T : List Value) : Prop :=
  (v = .slice none 0 0 ∧ T = []) ∨ ∃ g o cap N f, v = .slice (some ⟨g, o, none⟩) T.length cap ∧ base ≤ g ∧ w.rowIs g t N f ∧ o + cap ≤ N ∧ T.length ≤ cap ∧ cap ≤ maxLen ∧ ∀ j, (hj : j < T.length) → f (o + j) = T[j]

section
variable {w w' : World} {t : TypeId} {base : Nat} {v : Value} {T : List Value}
theorem Lo.nil (t : TypeId) (w : World) (base : Nat) : Lo t w base (.slice none 0 0) [] := .inl ⟨rfl, rfl⟩
theorem Lo.form (h : Lo t w base v T) : ∃ x c, v = .slice x T.length c := by
  rcases h with ⟨rfl, rfl⟩ | ⟨g, o, cap, N, f, hv, _⟩
  · exact ⟨_, _, rfl⟩
  · exact ⟨_, _, hv⟩
theorem Lo.lt (h : Lo t w base v T) : ∀ k, v.ownBlock = some k → base ≤ k ∧ k < w.heap.size := fun k hk => by
  rcases h with ⟨rfl, rfl⟩ | ⟨g, o, cap, N, f, rfl, hb, hr, _⟩
  · cases hk
  · obtain rfl : g = k := by simpa [Value.ownBlock] using hk
    exact ⟨hb, hr.lt⟩
theorem Lo.muts {D : List Nat} (h : Lo t w base v T) (m : Mut D w w') (hd : ∀ k, v.ownBlock = some k → k ∉ D) : Lo t w' base v T := by
  rcases h with h | ⟨g, o, cap, N, f, rfl, hb, hr, rest⟩
  · exact .inl h
  · exact .inr ⟨g, o, cap, N, f, rfl, hb, m.row hr (hd g rfl), rest⟩
theorem Lo.kept (h : Lo t w base v T) (k : Kept w w') : Lo t w' base v T := h.muts (D := []) k.mut (fun _ _ q => by cases q)
theorem Lo.at (h : Lo t w base v T) (hp : 0 < T.length) : ∃ g o c, v = .slice (some ⟨g, o, none⟩) T.length c ∧ (∀ j, (hj : j < T.length) → w.cell? ⟨g, o + j, none⟩ = some T[j]) ∧ ∀ i, w.frozen? ⟨g, i, none⟩ = false := by
  rcases h with ⟨rfl, rfl⟩ | ⟨g, o, cap, N, f, rfl, hb, hr, h1, h2, h3, h4⟩
  · simp at hp
  · exact ⟨g, o, cap, rfl, fun j hj => by rw [hr.cell (by omega), h4 j hj], hr.frozen⟩
/-- A write. -/
theorem Lo.set {g o n c : Nat} (h : Lo t w base (.slice (some ⟨g, o, none⟩) n c) T) {q : Nat} (u : Value) : Lo t (w.setCell ⟨g, o + q, none⟩ u) base (.slice (some ⟨g, o, none⟩) n c) (T.set q u) := by
  rcases h with ⟨e, _⟩ | ⟨g', o', cap, N, f, e, hb, hr, h1, h2, h3, h4⟩
  · cases e
  · obtain ⟨e1, e2, rfl⟩ := Value.slice.inj e
    obtain ⟨rfl, rfl⟩ : g = g' ∧ o = o' := by simpa using e1
    refine .inr ⟨g, o, c, N, _, by rw [List.length_set, e2], hb, hr.set _ u, h1, by simpa using h2, h3, fun j hj => ?_⟩
    have hj' : j < T.length := by simpa using hj
    rw [List.getElem_set]
    by_cases q1 : q = j
    · subst q1; simp
    · rw [if_neg (by omega), if_neg q1, h4 j hj']
/-- All but the first. -/
theorem Lo.tail {g o n cap : Nat} {u : Value} (h : Lo t w base (.slice (some ⟨g, o, none⟩) n cap) (u :: T)) : 1 ≤ cap ∧ Lo t w base (.slice (if cap = 1 then some ⟨g, o, none⟩ else some ⟨g, o + 1, none⟩) T.length (cap - 1)) T := by
  rcases h with ⟨e, _⟩ | ⟨g', o', cap', N, f, e, hb, hr, h1, h2, h3, h4⟩
  · cases e
  · obtain ⟨e1, _, rfl⟩ := Value.slice.inj e
    obtain ⟨rfl, rfl⟩ : g = g' ∧ o = o' := by simpa using e1
    simp only [List.length_cons] at h2
    refine ⟨by omega, ?_⟩
    by_cases hc : cap = 1
    · rw [if_pos hc]
      have h0 : T = [] := List.eq_nil_of_length_eq_zero (by omega)
      subst h0
      exact .inr ⟨g, o, cap - 1, N, f, rfl, hb, hr, by omega, by simp, by omega, fun j hj => by simp at hj⟩
    · rw [if_neg hc]
      exact .inr ⟨g, o + 1, cap - 1, N, f, rfl, hb, hr, by omega, by omega, by omega, fun j hj => by
        have := h4 (j + 1) (by simpa using hj)
        rw [show o + 1 + j = o + (j + 1) by omega, this]
        rfl⟩

theorem Lo.of_own {n : Nat} (h : w.ownsRow base t 1 v n T) : Lo t w base v T := by
  have hl := h.1
  rcases h.2 with ⟨rfl, h0⟩ | ⟨g, cap, cur, rfl, hb, hg, hnc, hcm, hcs, htake⟩
  · exact .inl ⟨rfl, List.eq_nil_of_length_eq_zero (by omega)⟩
  · refine .inr ⟨g, 0, cap, cap, fun j => cur[j]?.getD default, by rw [show n = T.length by omega], hb, ⟨cur, hg, by omega, fun j hj => ?_⟩, by omega, by omega, hcm, fun j hj => ?_⟩
    · have : j < cur.size := by omega
      simp [this]
    · have h1 : (cur.toList.take (n * 1))[j]? = some T[j] := by rw [htake]; simp [hj]
      rw [List.getElem?_take, if_pos (by omega)] at h1
      have h2 : cur[j]? = some T[j] := by simpa using h1
      rw [Nat.zero_add]
      show cur[j]?.getD default = _
      rw [h2]
      rfl

/-- append of one, whatever room there is. -/
theorem run_append_lo {ts : TypeId} {z : Value} (ty : TypeId) (ht : Try.prog.underlying ts = some (.slice t)) (hin : (Try.prog.info? t).map (fun i => (i.zero, i.size, decide (i.bytes ≤ 8))) = some (some z, 1, true)) (hzs : z.cells.size = 1)
    (h : Lo t w base v T) (hb : base ≤ w.heap.size) {a : Addr} {c : Nat} {u : Value} (hu : w.cell? (a.add 0) = some u) (h1 : u.oneCell' = true) (hn : T.length + 1 ≤ 1000000) :
    ∃ v' w', (Builtin.append_ #[ts, ts] ty #[v, .slice (some a) 1 c]).run Try.prog w = .ok v' w' ∧ Lo t w' base v' (T ++ [u]) ∧ Mut v.ownBlock.toList w w' ∧ Fresh w v v' := by
  obtain ⟨i, hi, hz, hs, hby⟩ : ∃ i, Try.prog.info? t = some i ∧ i.zero = some z ∧ i.size = 1 ∧ i.bytes ≤ 8 := by
    cases hi : Try.prog.info? t with
    | none => rw [hi] at hin; cases hin
    | some i =>
      rw [hi] at hin
      simp only [Option.map_some, Option.some.injEq, Prod.mk.injEq, decide_eq_true_eq] at hin
      exact ⟨i, rfl, hin.1, hin.2.1, hin.2.2⟩
  have hnews : ∀ j x, [u][j]? = some x → w.cell? (a.add j) = some x := fun j x hx => by
    match j, hx with
    | 0, hx => rw [← (Option.some.inj hx : u = x)]; exact hu
    | j + 1, hx => simp at hx
  have h1c : ∀ x ∈ [u], x.oneCell' = true := fun x hx => by
    rw [List.mem_singleton.1 hx]; exact h1
  have hbm : (T.length + 1) * i.bytes ≤ 140737488355328 := by
    have : (T.length + 1) * i.bytes ≤ 1000000 * 8 := Nat.mul_le_mul hn hby
    omega
  have h63 : T.length + 1 ≤ maxLen := by unfold maxLen; omega
  rcases h with ⟨rfl, rfl⟩ | ⟨g, o, cap, M, f, rfl, hbg, hr, g1, g2, g3, g4⟩
  · obtain ⟨v', w', hrun, h2, h3, _⟩ := run_append_own (P := Try.prog) w w.heap.size ts ty t i z 1 i.bytes ht hi hz hs rfl hzs (by decide) (.slice none 0 0) 0 [] (World.ownsRow_nil _ _ _ _) a 1 c [u] rfl hnews h1c (by simpa using h63) (by simpa using hbm) (Nat.le_refl _)
    have h4 : Lo t w' w.heap.size v' ([] ++ [u]) := Lo.of_own h2
    refine ⟨v', w', hrun, ?_, mut_grown h3, fun k hk => .inr (h4.lt k hk).1⟩
    rcases h4 with h | ⟨g, o, cap, N, f, rfl, hb', rest⟩
    · exact .inl h
    · exact .inr ⟨g, o, cap, N, f, rfl, by omega, rest⟩
  · by_cases hroom : T.length + 1 ≤ cap
    · have hrun := run_append_room_cells (P := Try.prog) w ts ty t i ht hi g o T.length cap a 1 c [u] (by rw [hs]; rfl) hnews h1c hroom (fun j hj => by
        rw [hs, hr.cell (by rw [List.length_singleton] at hj; omega)]; rfl) (fun j _ => by rw [hs]; exact hr.frozen _)
      rw [hs, Nat.mul_one] at hrun
      refine ⟨_, _, hrun, .inr ⟨g, o, cap, M, _, by rw [List.length_append]; rfl, hbg, rowIs_setCells _ _ _ _ hr, g1, by simpa using hroom, g3, fun j hj => ?_⟩, mut_setCells (by simp [Value.ownBlock]) _ _ _, fun k hk => .inl (by simpa [Value.ownBlock] using hk)⟩
      simp only [List.length_append, List.length_singleton] at hj
      by_cases hj2 : j < T.length
      · rw [if_neg (by omega), g4 j hj2, List.getElem_append_left hj2]
      · obtain rfl : j = T.length := by omega
        rw [if_pos (by simp), show o + T.length - (o + T.length) = 0 by omega]
        simp
    · have holds : ∀ j x, T[j]? = some x → w.cell? ((⟨g, o, none⟩ : Addr).add j) = some x := fun j x hx => by
        have hj : j < T.length := (List.getElem?_eq_some_iff.1 hx).1
        rw [Addr.add_lit, hr.cell (by omega), g4 j hj]
        simpa [hj] using hx
      have hrun := run_append_grow (P := Try.prog) w ts ty t i z ht hi hz ⟨g, o, none⟩ T.length cap T (by rw [hs]; simp) holds a 1 c [u] (by rw [hs]; rfl) hnews (by omega) (by omega) (growslice_fits (by omega) hbm)
      have hge := grownCap_ge w (T.length + 1) cap t
      have hgm := grownCap_le_maxLen w (T.length + 1) cap t h63
      have hown : (w.drew.alloc (.cells (T.toArray ++ [u].toArray ++ Builtin.zeroCells z.cells (grownCap w (T.length + 1) cap t - (T.length + 1))) t)).ownsRow base t 1 (.slice (some ⟨w.heap.size, 0, none⟩) (T.length + 1) (grownCap w (T.length + 1) cap t)) (T.length + 1) (T ++ [u]) := by
        refine ⟨by simp, .inr ⟨w.heap.size, _, _, rfl, hb, heap_alloc_new w.drew _, by simpa using hge, hgm, ?_, ?_⟩⟩
        · simp only [Array.size_append, List.size_toArray, size_zeroCells, hzs, List.length_singleton]
          omega
        · simp only [Array.toList_append, List.append_assoc]
          rw [← List.append_assoc]
          have : (T.length + 1) * 1 = (T ++ [u]).length := by simp
          rw [this]
          exact List.take_left
      refine ⟨_, _, hrun, Lo.of_own hown, ⟨rfl, rfl, rfl, by simp, fun k hk _ => Below.heap_alloc w.drew _ k hk⟩, fun k hk => .inr ?_⟩
      have : w.heap.size = k := by simpa [Value.ownBlock] using hk
      omega

theorem info_lo_int : (Try.prog.info? 3).map (fun i => (i.zero, i.size, decide (i.bytes ≤ 8))) = some (some (.int .i64 0), 1, true) := by kernel_rfl
theorem info_lo_bool : (Try.prog.info? 4).map (fun i => (i.zero, i.size, decide (i.bytes ≤ 8))) = some (some (.bool false), 1, true) := by kernel_rfl

theorem wpList_append_lo {ops : Array Oper} {rest : List Oper} {o : Oper} {a : Act} {Q : Exit → Act → World → Prop} (hgd : o.guard = none) (s x : Operand) (ts : TypeId)
    (ho : o.op = .call { callee := .builtin .append, args := #[s, x], argTypes := #[ts, ts] }) {z : Value} (ht : Try.prog.underlying ts = some (.slice t)) (hin : (Try.prog.info? t).map (fun i => (i.zero, i.size, decide (i.bytes ≤ 8))) = some (some z, 1, true)) (hzs : z.cells.size = 1)
    (hs : a.eval s = v) (h : Lo t w base v T) (hb : base ≤ w.heap.size)
    {g c : Nat} {u : Value} (hx : a.eval x = .slice (some ⟨g, 0, none⟩) 1 c) (hu : w.cell? ⟨g, 0, none⟩ = some u) (h1 : u.oneCell' = true) (hn : T.length + 1 ≤ 1000000)
    (hK : ∀ v' w', Lo t w' base v' (T ++ [u]) → Mut v.ownBlock.toList w w' → Fresh w v v' → wpList Try.prog ops Q rest (a.put o.dst v') w') : wpList Try.prog ops Q (o :: rest) a w := by
  obtain ⟨v', w', hr, h2, h3, h4⟩ := run_append_lo (a := ⟨g, 0, none⟩) (c := c) o.type ht hin hzs h hb (by rw [Addr.add_lit]; exact hu) h1 hn
  refine wpList_plain hgd fun K hK' => ?_
  unfold Oper.wp execOp
  simp only [ho, resolve, invoke, builtin, Sem.run_bind, Sem.run_pure, Result.andThen_ok, List.map_toArray, List.map_cons, List.map_nil, hs, hx, hr]
  exact hK' _ _ (hK v' w' h2 h3 h4)
end
end Go.Proofs.Ytahpnnjemjjfhaa
