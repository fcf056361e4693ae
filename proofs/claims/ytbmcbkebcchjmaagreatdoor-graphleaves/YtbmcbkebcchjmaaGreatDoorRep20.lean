/-
  slices.Repeat of one value: none of it, two of it.
-/
import Derived.Test.YtbmcbkebcchjmaaGreatDoorRee20
import Derived.Test.YtbmcbkebcchjmaaGreatDoorJP20
import Derived.Laws.CopyRow
namespace Go.Proofs.YtbmcbkebcchjmaaGreatDoor
open Go.RowKit
attribute [local go_sem] run_store_complex

theorem run_copy_rows {P : Program} (w : World) (dT sT ty elem : TypeId) (m g o dLen dCap : Nat) (a : Addr) (sLen sCap : Nat) (cur : Array Value) (t : TypeId) (cs : List Value)
    (hu : P.underlying dT = some (.slice elem)) (hs : (P.info? elem).map (·.size) = some m)
    (hg : w.heap[g]? = some (.cells cur t (0, 0))) (hn : cs.length = Nat.min sLen dLen * m)
    (hsrc : ∀ j v, cs[j]? = some v → w.cell? (a.add j) = some v) (hfit : o + cs.length ≤ cur.size) (h1 : ∀ v ∈ cs, v.oneCell' = true) :
    (Builtin.copy_ #[dT, sT] ty #[.slice (some ⟨g, o, none⟩) dLen dCap, .slice (some a) sLen sCap]).run P w =
      .ok (goInt (Nat.min sLen dLen)) (w.setRow g (cur.toList.take o ++ cs ++ cur.toList.drop (o + cs.length)).toArray) := by
  have hl := run_loadCells_list (P := P) w a cs hsrc
  have hst := run_storeCells_at P g o t cs 0 cur w hg (by simpa using hfit) h1
  cases hq : P.info? elem with
  | none => simp [hq] at hs
  | some i =>
    have hi : i.size = m := by simpa [hq] using hs
    simp [Builtin.copy_, run_underlying hu, Builtin.lenOf, Builtin.firstCells, sizeOf, typeInfo, hq, hi, ← hn, hl, hst]

theorem run_make_values (n : Nat) (h : n ≤ 1000) (w : World) :
    (Instr.makeSlice 50 (.int .i64 (n : Int)) (.int .i64 (n : Int))).run Tryz.prog w = .ok (.slice (some ⟨w.heap.size, 0, none⟩) n n) (w.alloc (.cells (madeCells #[.bool false, .complex .f64 0 0] (n * 2)) 34)) := by
  obtain ⟨i, hi, hz, hs, hb⟩ := info_parts info_value
  have hr := run_make (P := Tryz.prog) w 50 34 i _ Tryz.underlying50 hi hz .i64 .i64 n n (by omega) (Int.le_refl _) (by rw [hb]; omega) (by omega)
  simp only [Int.toNat_natCast, hs] at hr
  exact hr

theorem own_setRow {w : World} {g : Nat} {t : TypeId} {L : List Value} (h : Own w g t L) (M : List Value) : Own (w.setRow g M.toArray) g t M := setRow_heap w g _ M.toArray t _ h
theorem kept_setRow2 {w w' : World} {g : Nat} (h : Kept w w') (hg : w.heap.size ≤ g) (cs : Array Value) : Kept w (w'.setRow g cs) := ⟨below_setRow h.below hg cs⟩

theorem made_0 : madeCells #[.bool false, .complex .f64 0 0] (0 * 2) = #[] := by kernel_rfl

theorem copy_none (x : Option Addr) (g : Nat) (W : World) : (Builtin.copy_ #[50, 50] 3 #[.slice (some ⟨g, 0, none⟩) 0 0, .slice x 1 1]).run Tryz.prog W = .ok (goInt 0) W := by
  obtain ⟨i, hi, hz, hs, hb⟩ := info_parts info_value
  have hl : ∀ a : Addr, (loadCells a 0).run Tryz.prog W = .ok #[] W := fun a => run_loadCells_list (P := Tryz.prog) W a [] (by simp)
  cases x <;> simp [Builtin.copy_, run_underlying Tryz.underlying50, Builtin.lenOf, Builtin.firstCells, sizeOf, typeInfo, hi, hl, storeCells]

set_option maxHeartbeats 4000000 in
theorem repeat_0 (x : Option Addr) (w : World) : Calls Tryz.prog 21 #[.slice x 1 1, .int .i64 0] w fun e w' => ∃ g, e = .returned (.slice (some ⟨g, 0, none⟩) 0 0) ∧ w.heap.size ≤ g ∧ Own w' g 34 [] ∧ Kept w w' := by
  have hmk : (Instr.makeSlice 50 (.int .i64 0) (.int .i64 0)).run Tryz.prog w = .ok (.slice (some ⟨w.heap.size, 0, none⟩) 0 0) (w.alloc (.cells #[] 34)) := by
    have h := run_make_values 0 (by decide) w
    rw [made_0] at h
    exact h
  have hm : Calls Tryz.prog 43 #[.int .u64 1, .int .u64 0] w fun e w' => e = .returned (.tuple #[.int .u64 0, .int .u64 0]) ∧ w' = w := Tryz.bits_Mul 1 0 (by decide) (by decide) w
  have hcp := copy_none x w.heap.size
  go_enter Tryz.func21, Tryz.ntmps21
  go_wp2_with fail
  refine hm.mono ?_
  rintro e w1 ⟨rfl, e1⟩
  rw [e1]
  clear e1 w1
  go_wp2_with fail
  refine wp_loop_rounds 1 ?_
  rw [rounds_succ]
  go_wp2_with fail
  go_ret
  exact ⟨w.heap.size, rfl, Nat.le_refl _, Own.new w [] _, (Kept.refl w).alloc _ _⟩

theorem Held.old1 {a0 a : Act} {l : List Oper} {d : Nat → Bool} {vals : List Value} (h : Held a0 a l d vals) (s k : Nat) (hs : ((List.range l.length).all fun i => decide (i = k) || !((l[i]?).any fun o => o.dst == some s)) = true) (hk : d k = false) {v : Value} (hv : a0.tmps[s]? = some v) : a.tmps[s]? = some v := by
  rw [h.rest s fun i o ho he => ?_, hv]
  have hl : i < l.length := (List.getElem?_eq_some_iff.1 ho).1
  have := List.all_eq_true.1 hs i (List.mem_range.2 hl)
  by_cases e : i = k
  · rw [e]; exact hk
  · simp [ho, he, e] at this

theorem step_copy_eq {P : Program} {ops : Array Oper} {o : Oper} {a : Act} {w : World} {K : Act → World → Prop} {Q : Exit → Act → World → Prop} {X : Prop}
    (hg : o.guard = none) (s x : Operand) (t : TypeId) (hop : o.op = Op.call { callee := Callee.builtin Builtin.copy, args := #[s, x], argTypes := #[t, t] })
    {v u v' : Value} {w' : World} (hs : a.eval s = v) (hx : a.eval x = u) (hr : (Builtin.copy_ #[t, t] o.type #[v, u]).run P w = .ok v' w') (hK : K (a.put o.dst v') w') :
    if Region.wanted o (yielded ops a.tmps) = true then Oper.wp P o a w K Q else X := by
  have hw : Region.wanted o (yielded ops a.tmps) = true := by simp [Region.wanted, hg]
  rw [if_pos hw]
  unfold Oper.wp
  simp [execOp, hop, resolve, invoke, builtin, hs, hx, hr, Result.andThen]
  exact hK

theorem wrap_2 : IntKind.i64.wrap 2 = 2 := by decide
theorem made_4 : madeCells #[.bool false, .complex .f64 0 0] (2 * 2) = #[.bool false, .complex .f64 0 0, .bool false, .complex .f64 0 0] := by kernel_rfl

set_option maxHeartbeats 4000000 in
theorem repeat_2 {b : Nat} {v0 v1 : Value} (w : World) (hb : Own w b 34 [v0, v1]) (h0 : v0.oneCell' = true) (h1 : v1.oneCell' = true) : Calls Tryz.prog 21 #[.slice (some ⟨b, 0, none⟩) 1 1, .int .i64 2] w fun e w' => ∃ g, e = .returned (.slice (some ⟨g, 0, none⟩) 2 2) ∧ w.heap.size ≤ g ∧ Own w' g 34 [v0, v1, v0, v1] ∧ Kept w w' := by
  obtain ⟨ti, hi, hz, hsz, hby⟩ := info_parts info_value
  have hmk : (Instr.makeSlice 50 (.int .i64 2) (.int .i64 2)).run Tryz.prog w = .ok (.slice (some ⟨w.heap.size, 0, none⟩) 2 2) (w.alloc (.cells #[.bool false, .complex .f64 0 0, .bool false, .complex .f64 0 0] 34)) := by
    have h := run_make_values 2 (by decide) w
    rw [made_4] at h
    exact h
  have hm : Calls Tryz.prog 43 #[.int .u64 1, .int .u64 2] w fun e w' => e = .returned (.tuple #[.int .u64 0, .int .u64 2]) ∧ w' = w := Tryz.bits_Mul 1 2 (by decide) (by decide) w
  have k1 : Kept w (w.alloc (.cells #[.bool false, .complex .f64 0 0, .bool false, .complex .f64 0 0] 34)) := (Kept.refl w).alloc _ _
  have o1 : Own (w.alloc (.cells #[.bool false, .complex .f64 0 0, .bool false, .complex .f64 0 0] 34)) w.heap.size 34 [.bool false, .complex .f64 0 0, .bool false, .complex .f64 0 0] := Own.new w [_, _, _, _] _
  have b1 := (hb.kept k1).blk
  have at2 : ∀ {W : World} {n : Nat} {L : List Value}, Blk W n (v0 :: v1 :: L) → ∀ j v, [v0, v1][j]? = some v → W.cell? ((⟨n, 0, none⟩ : Addr).add j) = some v := fun {W n L} hB j v h => by
    have : (⟨n, 0, none⟩ : Addr).add j = ⟨n, j, none⟩ := by simp [Addr.add]; exact fun e => e.symm
    rw [this]
    match j, h with
    | 0, h => exact hB.at 0 (by simpa using h)
    | 1, h => exact hB.at 1 (by simpa using h)
    | j + 2, h => simp at h
  have hone : ∀ v ∈ [v0, v1], v.oneCell' = true := fun v h => by
    rcases List.mem_cons.1 h with rfl | h
    · exact h0
    · have e : v = v1 := by simpa using h
      rw [e]; exact h1
  obtain ⟨W2, hW2⟩ : ∃ W2, (w.alloc (.cells #[.bool false, .complex .f64 0 0, .bool false, .complex .f64 0 0] 34)).setRow w.heap.size #[v0, v1, .bool false, .complex .f64 0 0] = W2 := ⟨_, rfl⟩
  have hc1 : (Builtin.copy_ #[50, 50] 3 #[.slice (some ⟨w.heap.size, 0, none⟩) 2 2, .slice (some ⟨b, 0, none⟩) 1 1]).run Tryz.prog (w.alloc (.cells #[.bool false, .complex .f64 0 0, .bool false, .complex .f64 0 0] 34)) = .ok (.int .i64 1) W2 := by
    rw [← hW2]
    exact run_copy_rows _ 50 50 3 34 2 w.heap.size 0 2 2 ⟨b, 0, none⟩ 1 1 _ _ [v0, v1] Tryz.underlying50 (by rw [hi]; simp [hsz]) o1 rfl (at2 b1) (by simp) hone
  have o2 : Own W2.drew w.heap.size 34 [v0, v1, .bool false, .complex .f64 0 0] := by
    rw [← hW2]
    exact (own_setRow o1 [v0, v1, .bool false, .complex .f64 0 0]).kept (Kept.refl _).drew
  obtain ⟨W3, hW3⟩ : ∃ W3, W2.drew.setRow w.heap.size #[v0, v1, v0, v1] = W3 := ⟨_, rfl⟩
  have hc2 : (Builtin.copy_ #[50, 50] 3 #[.slice (some ⟨w.heap.size, 2, none⟩) 1 1, .slice (some ⟨w.heap.size, 0, none⟩) 1 2]).run Tryz.prog W2.drew = .ok (.int .i64 1) W3 := by
    rw [← hW3]
    exact run_copy_rows _ 50 50 3 34 2 w.heap.size 2 1 1 ⟨w.heap.size, 0, none⟩ 1 2 _ _ [v0, v1] Tryz.underlying50 (by rw [hi]; simp [hsz]) o2 rfl (at2 o2.blk) (by simp) hone
  have o3 : Own W3 w.heap.size 34 [v0, v1, v0, v1] := by
    rw [← hW3]
    exact own_setRow o2 [v0, v1, v0, v1]
  have k3 : Kept w W3 := by
    rw [← hW3]
    refine kept_setRow2 ?_ (Nat.le_refl _) _
    rw [← hW2]
    exact (kept_setRow2 k1 (Nat.le_refl _) _).drew
  have HE : Hid (Own W3 w.heap.size 34 [v0, v1, v0, v1] ∧ Kept w W3) := ⟨o3, k3⟩
  have HR : Hid _ := hc2
  have HW : Hid (_ ∧ _) := ⟨hW2, hW3⟩
  clear k3 o3 hc2 o2 hone at2 b1 o1 k1 hsz hby hz hi
  go_enter Tryz.func21, Tryz.ntmps21
  go_wp2_with fail
  refine hm.mono ?_
  rintro e w1 ⟨rfl, e1⟩
  rw [e1]
  clear e1 w1
  go_wp2_with fail
  refine wp_loop_rounds 2 ?_
  rw [rounds_succ]
  go_wp2_with fail
  refine wp_region_phaseC [(.int .i64 1), (.slice (some ⟨w.heap.size, 0, none⟩) 2 2), (.int .i64 1), (.slice (some ⟨w.heap.size, 2, none⟩) 1 1), (.slice (some ⟨w.heap.size, 0, none⟩) 2 2), (.int .i64 1), (.slice (some ⟨w.heap.size, 0, none⟩) 1 2), (.int .i64 1), (.int .i64 2), (.int .i64 2)] [(8, 9), (38, 0), (39, 1), (40, 2), (41, 3), (42, 4), (43, 5), (44, 6), (45, 7), (46, 8)] [_, _, _, _, _, _, _, _, _, _, _, _, _, _, _, _, _, _, _, _, _, _, _, _, _, _, _, _, _, _, _, _, _, _, _, _, _, _, _, _, _, _, _, _, _, _, _, _] (fun d u => True ∧ JP 7 [] (fun u => u = W2.drew) (fun u => u = W3) d u) (by kernel_rfl) (by kernel_rfl) (by kernel_rfl) (by kernel_rfl) rfl ?_ ?_ ?_
  · exact ⟨trivial, JP.start rfl⟩
  · intro i1 o1 ho a1 d u hh hj hi hd hc
    match i1, ho, hi, hd with
    | 0, ho, hi, hd =>
      simp only [List.getElem?_cons_zero, Option.some.injEq] at ho
      subst ho
      have n8 : d 9 = false := by
        cases q : d 9 with
        | false => rfl
        | true => exact absurd (hc 9 _ rfl q { on := 0, ground := .phase } (by simp) rfl) (by simp [hi])
      have g8 : a1.tmps[8]? = some (.int .i64 1) := hh.old1 8 9 (by kernel_rfl) n8 rfl
      have HN : Hid (True ∧ JP 7 [] (fun u => u = W2.drew) (fun u => u = W3) (done d 0) u) := ⟨hj.1, hj.2.plain 0 (by decide)⟩
      clear hh hd hc hj hi
      refine wpOp_step rfl (fun K hK => ?_)
      go_simp
      exact hK _ _ ⟨by simp [Act.put], HN.out⟩
    | 1, ho, hi, hd =>
      simp only [List.getElem?_cons_succ, List.getElem?_cons_zero, Option.some.injEq] at ho
      subst ho
      have g7 : a1.tmps[7]? = some (.slice (some ⟨w.heap.size, 0, none⟩) 2 2) := hh.old 7 (by kernel_rfl) rfl
      have HN : Hid (True ∧ JP 7 [] (fun u => u = W2.drew) (fun u => u = W3) (done d 1) u) := ⟨hj.1, hj.2.plain 1 (by decide)⟩
      clear hh hd hc hj hi
      refine wpOp_step rfl (fun K hK => ?_)
      go_simp
      exact hK _ _ ⟨by simp [Act.put], HN.out⟩
    | 2, ho, hi, hd =>
      simp only [List.getElem?_cons_succ, List.getElem?_cons_zero, Option.some.injEq] at ho
      subst ho
      have n8 : d 9 = false := by
        cases q : d 9 with
        | false => rfl
        | true => exact absurd (hc 9 _ rfl q { on := 2, ground := .phase } (by simp) rfl) (by simp [hi])
      have g8 : a1.tmps[8]? = some (.int .i64 1) := hh.old1 8 9 (by kernel_rfl) n8 rfl
      have HN : Hid (True ∧ JP 7 [] (fun u => u = W2.drew) (fun u => u = W3) (done d 2) u) := ⟨hj.1, hj.2.plain 2 (by decide)⟩
      clear hh hd hc hj hi
      refine wpOp_step rfl (fun K hK => ?_)
      go_simp
      exact hK _ _ ⟨by simp [Act.put], HN.out⟩
    | 3, ho, hi, hd =>
      simp only [List.getElem?_cons_succ, List.getElem?_cons_zero, Option.some.injEq] at ho
      subst ho
      have g39 : a1.tmps[39]? = some (.slice (some ⟨w.heap.size, 0, none⟩) 2 2) := hh.did 1 _ 39 rfl rfl (hd { on := 1, ground := .data } (by simp) rfl)
      have g40 : a1.tmps[40]? = some (.int .i64 1) := hh.did 2 _ 40 rfl rfl (hd { on := 2, ground := .data } (by simp) rfl)
      have HN : Hid (True ∧ JP 7 [] (fun u => u = W2.drew) (fun u => u = W3) (done d 3) u) := ⟨hj.1, hj.2.plain 3 (by decide)⟩
      clear hh hd hc hj hi
      refine wpOp_step rfl (fun K hK => ?_)
      go_simp
      exact hK _ _ ⟨by simp [Act.put], HN.out⟩
    | 4, ho, hi, hd =>
      simp only [List.getElem?_cons_succ, List.getElem?_cons_zero, Option.some.injEq] at ho
      subst ho
      have g7 : a1.tmps[7]? = some (.slice (some ⟨w.heap.size, 0, none⟩) 2 2) := hh.old 7 (by kernel_rfl) rfl
      have HN : Hid (True ∧ JP 7 [] (fun u => u = W2.drew) (fun u => u = W3) (done d 4) u) := ⟨hj.1, hj.2.plain 4 (by decide)⟩
      clear hh hd hc hj hi
      refine wpOp_step rfl (fun K hK => ?_)
      go_simp
      exact hK _ _ ⟨by simp [Act.put], HN.out⟩
    | 5, ho, hi, hd =>
      simp only [List.getElem?_cons_succ, List.getElem?_cons_zero, Option.some.injEq] at ho
      subst ho
      have n8 : d 9 = false := by
        cases q : d 9 with
        | false => rfl
        | true => exact absurd (hc 9 _ rfl q { on := 5, ground := .phase } (by simp) rfl) (by simp [hi])
      have g8 : a1.tmps[8]? = some (.int .i64 1) := hh.old1 8 9 (by kernel_rfl) n8 rfl
      have HN : Hid (True ∧ JP 7 [] (fun u => u = W2.drew) (fun u => u = W3) (done d 5) u) := ⟨hj.1, hj.2.plain 5 (by decide)⟩
      clear hh hd hc hj hi
      refine wpOp_step rfl (fun K hK => ?_)
      go_simp
      exact hK _ _ ⟨by simp [Act.put], HN.out⟩
    | 6, ho, hi, hd =>
      simp only [List.getElem?_cons_succ, List.getElem?_cons_zero, Option.some.injEq] at ho
      subst ho
      have g42 : a1.tmps[42]? = some (.slice (some ⟨w.heap.size, 0, none⟩) 2 2) := hh.did 4 _ 42 rfl rfl (hd { on := 4, ground := .data } (by simp) rfl)
      have g43 : a1.tmps[43]? = some (.int .i64 1) := hh.did 5 _ 43 rfl rfl (hd { on := 5, ground := .data } (by simp) rfl)
      have HN : Hid (True ∧ JP 7 [] (fun u => u = W2.drew) (fun u => u = W3) (done d 6) u) := ⟨hj.1, hj.2.plain 6 (by decide)⟩
      clear hh hd hc hj hi
      refine wpOp_step rfl (fun K hK => ?_)
      go_simp
      exact hK _ _ ⟨by simp [Act.put], HN.out⟩
    | 7, ho, hi, hd =>
      simp only [List.getElem?_cons_succ, List.getElem?_cons_zero, Option.some.injEq] at ho
      subst ho
      have g41 : a1.tmps[41]? = some (.slice (some ⟨w.heap.size, 2, none⟩) 1 1) := hh.did 3 _ 41 rfl rfl (hd { on := 3, ground := .data } (by simp) rfl)
      have g44 : a1.tmps[44]? = some (.slice (some ⟨w.heap.size, 0, none⟩) 1 2) := hh.did 6 _ 44 rfl rfl (hd { on := 6, ground := .data } (by simp) rfl)
      have hA := hj.1
      have h0 := hj.2.now hi
      have HJ : Hid (True ∧ JP 7 [] (fun u => u = W2.drew) (fun u => u = W3) d u) := hj
      have HI : Hid (d 7 = false) := hi
      subst h0
      have hr := HR.out
      have hs : a1.eval (.tmp 41) = .slice (some ⟨w.heap.size, 2, none⟩) 1 1 := by simp [Act.eval, g41]
      have hx : a1.eval (.tmp 44) = .slice (some ⟨w.heap.size, 0, none⟩) 1 2 := by simp [Act.eval, g44]
      clear hh hd hc hj hi
      refine wpOp_step rfl (fun K hK => ?_)
      refine step_copy_eq rfl (.tmp 41) (.tmp 44) 50 rfl hs hx hr ?_
      exact hK _ _ ⟨by simp [Act.put], trivial, JP.turn (by simp) rfl⟩
    | 8, ho, hi, hd =>
      simp only [List.getElem?_cons_succ, List.getElem?_cons_zero, Option.some.injEq] at ho
      subst ho
      have g38 : a1.tmps[38]? = some (.int .i64 1) := hh.did 0 _ 38 rfl rfl (hd { on := 0, ground := .data } (by simp) rfl)
      have g45 : a1.tmps[45]? = some (.int .i64 1) := hh.did 7 _ 45 rfl rfl (hd { on := 7, ground := .data } (by simp) rfl)
      have HN : Hid (True ∧ JP 7 [] (fun u => u = W2.drew) (fun u => u = W3) (done d 8) u) := ⟨hj.1, hj.2.plain 8 (by decide)⟩
      clear hh hd hc hj hi
      refine wpOp_step rfl (fun K hK => ?_)
      go_simp
      exact hK _ _ ⟨by simp [Act.put, wrap_2], HN.out⟩
    | 9, ho, hi, hd =>
      simp only [List.getElem?_cons_succ, List.getElem?_cons_zero, Option.some.injEq] at ho
      subst ho
      have g46 : a1.tmps[46]? = some (.int .i64 2) := hh.did 8 _ 46 rfl rfl (hd { on := 8, ground := .data } (by simp) rfl)
      have HN : Hid (True ∧ JP 7 [] (fun u => u = W2.drew) (fun u => u = W3) (done d 9) u) := ⟨hj.1, hj.2.plain 9 (by decide)⟩
      clear hh hd hc hj hi
      refine wpOp_step rfl (fun K hK => ?_)
      go_simp
      exact hK _ _ ⟨by simp [Act.put], HN.out⟩
    | n + 10, ho, hi, hd => simp at ho
  · intro u d hall hj
    have hA := hj.1
    have h1 := hj.2.fin (hall 7 (by decide))
    clear hall hj
    subst h1
    simp only [List.getD_cons_succ, List.getD_cons_zero]
    clear hA
    show Code.rounds Tryz.prog _ _ 1 _ _
    rw [rounds_succ]
    go_wp2_with fail
    go_ret
    exact ⟨_, rfl, Nat.le_refl _, HE.out⟩
end Go.Proofs.YtbmcbkebcchjmaaGreatDoor
