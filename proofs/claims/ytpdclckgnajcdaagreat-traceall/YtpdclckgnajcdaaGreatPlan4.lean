/-
  Writes one behind the other in memory; contract of package plan's lay.
-/
import Derived.Test.YtpdclckgnajcdaaGreatPlan3
namespace Go.Proofs.YtpdclckgnajcdaaGreat
open Go.RowKit

/-- A write. -/
structure Wr where
  a : Int
  z : Cx
def Wr.c (e : Wr) : List Value := [.int .i64 e.a, .complex .f64 e.z.re e.z.im]
theorem wr_len (e : Wr) : e.c.length = 2 := rfl
theorem wr_one (e : Wr) : ∀ u ∈ e.c, u.oneCell' = true := by simp [Wr.c, Value.oneCell']
theorem info_write : (Tryz.prog.info? 49).map (fun i => (i.zero, i.size, i.bytes)) = some (some (.agg #[.int .i64 0, .complex .f64 0 0]), 2, 24) := by kernel_rfl

/-- A slice of the call's own that holds the first n of the writes f. -/
def Ws (w : World) (base : Nat) (v : Value) (n : Nat) (f : Nat → Wr) : Prop := Rw 49 2 Wr.c w base v ((List.range n).map f)

section
variable {w w' : World} {base n : Nat} {v v' : Value} {f : Nat → Wr}
theorem Ws.nil (w : World) (base : Nat) (f : Nat → Wr) : Ws w base (.slice none 0 0) 0 f := Rw.nil _ _ _ _ _
theorem Ws.form (h : Ws w base v n f) : ∃ x d, v = .slice x n d := by
  have := Rw.form h
  simpa using this
theorem Ws.lt (h : Ws w base v n f) : ∀ k, v.ownBlock = some k → base ≤ k ∧ k < w.heap.size := Rw.lt h
theorem Ws.muts {D : List Nat} (h : Ws w base v n f) (q : Mut D w w') (hd : ∀ k, v.ownBlock = some k → k ∉ D) : Ws w' base v n f := Rw.muts h q hd
theorem Ws.kept (h : Ws w base v n f) (k : Kept w w') : Ws w' base v n f := Rw.kept h k
theorem Ws.low (h : Ws w base v n f) {b' : Nat} (hb : b' ≤ base) : Ws w b' v n f := Rw.low h hb
theorem Ws.congr {f' : Nat → Wr} (h : Ws w base v n f) (e : ∀ i, i < n → f i = f' i) : Ws w base v n f' := by
  have : (List.range n).map f = (List.range n).map f' := List.map_congr_left fun i hi => e i (List.mem_range.1 hi)
  unfold Ws at *
  rwa [this] at h
/-- Where the writes are read. -/
theorem Ws.here (h : Ws w base v n f) (h0 : 0 < n) : ∃ g d, v = .slice (some ⟨g, 0, none⟩) n d ∧ base ≤ g ∧ g < w.heap.size ∧ ∀ i, i < n → w.cell? ⟨g, i * 2, none⟩ = some (.int .i64 (f i).a) ∧ w.cell? ⟨g, i * 2 + 1, none⟩ = some (.complex .f64 (f i).z.re (f i).z.im) := by
  obtain ⟨g, d, e, hb, hg, _⟩ := Rw.here h (by simpa using h0)
  simp only [List.length_map, List.length_range] at e
  subst e
  refine ⟨g, d, rfl, hb, hg, fun i hi => ?_⟩
  have hi' : i < ((List.range n).map f).length := by simpa using hi
  have e1 : ((List.range n).map f)[i] = f i := by simp
  have a0 := Rw.cell h wr_len hi' (j := 0) (u := .int .i64 (f i).a) (by rw [e1]; rfl)
  have a1 := Rw.cell h wr_len hi' (j := 1) (u := .complex .f64 (f i).z.re (f i).z.im) (by rw [e1]; rfl)
  exact ⟨by simpa using a0, a1⟩

theorem range_push (n : Nat) (f : Nat → Wr) : (List.range (n + 1)).map f = (List.range n).map f ++ [f n] := by rw [List.range_succ, List.map_append]; rfl
theorem rdr_one (w : World) (e : Wr) : Rdr Wr.c (w.alloc (.cells e.c.toArray 49)) (some ⟨w.heap.size, 0, none⟩) [e] := fun _ => ⟨_, rfl, fun j u hu => by
  rw [show (⟨w.heap.size, 0, none⟩ : Addr).add j = ⟨w.heap.size, j, none⟩ by unfold Addr.add; split <;> simp_all]
  simpa using hu⟩

/-- One more write behind them. -/
theorem run_push (ty : TypeId) (h : Ws w base v n f) (hb : base ≤ w.heap.size) (hn : n ≤ 100000) (d : Nat) :
    ∃ v' w', (Builtin.append_ #[35, 35] ty #[v, .slice (some ⟨w.heap.size, 0, none⟩) 1 d]).run Tryz.prog (w.alloc (.cells (f n).c.toArray 49)) = .ok v' w' ∧ Ws w' base v' (n + 1) f ∧ Mut v.ownBlock.toList w w' ∧ Fresh w v v' := by
  have k0 : Kept w (w.alloc (.cells (f n).c.toArray 49)) := (Kept.refl w).alloc _ _
  obtain ⟨v', w', hr, h2, h3, h4⟩ := run_append_rw (ty := ty) (T := [f n]) (d := d) Tryz.underlying35 info_write rfl (by decide) (by decide) wr_len wr_one (Rw.kept h k0) (by have := k0.size; omega) (rdr_one w (f n)) (by simp; omega)
  refine ⟨v', w', hr, ?_, k0.mut.trans h3, fun k hk => ?_⟩
  · unfold Ws
    rw [range_push]
    exact h2
  · rcases h4 k hk with e | e
    · exact .inl e
    · have := k0.size; exact .inr (by omega)
/-- One more write, where there is room. -/
theorem run_push_room {g cap : Nat} (ty : TypeId) (h : Ws w base (.slice (some ⟨g, 0, none⟩) n cap) n f) (hn : n + 1 ≤ cap) (d : Nat) :
    ∃ w', (Builtin.append_ #[35, 35] ty #[.slice (some ⟨g, 0, none⟩) n cap, .slice (some ⟨w.heap.size, 0, none⟩) 1 d]).run Tryz.prog (w.alloc (.cells (f n).c.toArray 49)) = .ok (.slice (some ⟨g, 0, none⟩) (n + 1) cap) w' ∧ Ws w' base (.slice (some ⟨g, 0, none⟩) (n + 1) cap) (n + 1) f ∧ Mut [g] w w' := by
  obtain ⟨i, hi, hz, hs, hby⟩ := info_parts info_write
  have k0 : Kept w (w.alloc (.cells (f n).c.toArray 49)) := (Kept.refl w).alloc _ _
  have h1 := Rw.kept h k0
  unfold Rw at h1
  rw [List.length_map, List.length_range] at h1
  obtain ⟨a, ha, hr⟩ := rdr_one w (f n) (by simp)
  obtain rfl : ⟨w.heap.size, 0, none⟩ = a := by simpa using ha
  obtain ⟨w', hrun, h2, h3⟩ := run_append_fits (P := Tryz.prog) _ base 35 ty 49 i 2 Tryz.underlying35 hi hs g n cap _ h1 ⟨w.heap.size, 0, none⟩ 1 d (f n).c (by simp [wr_len]) (fun j u hu => hr j u (by simpa using hu)) (wr_one _) hn
  refine ⟨w', hrun, ?_, k0.mut.trans (mut_grown h3)⟩
  unfold Ws Rw
  rw [range_push, List.length_append, List.flatMap_append]
  simpa using h2
theorem Mut.step {D : List Nat} {w w' w'' : World} {v v' : Value} (m : Mut v.ownBlock.toList w w') (q : Mut v'.ownBlock.toList w' w'') (fr : Fresh w v v') (_ : D = v.ownBlock.toList) : Mut D w w'' := by
  subst D
  refine ⟨q.os.trans m.os, q.tape.trans m.tape, q.output.trans m.output, Nat.le_trans m.size q.size, fun k hk hd => ?_⟩
  refine (q.block k (Nat.lt_of_lt_of_le hk m.size) fun h => ?_).trans (m.block k hk hd)
  have e : v'.ownBlock = some k := by simpa using h
  rcases fr k e with e | e
  · exact hd (by simp [e])
  · omega
end

/-- m words that are read at y. -/
def Rdz (w : World) (y : Option Addr) (m : Nat) (Z : Nat → Cx) : Prop := 0 < m → ∃ g o, y = some ⟨g, o, none⟩ ∧ g < w.heap.size ∧ ∀ j, j < m → w.cell? ⟨g, o + j, none⟩ = some (.complex .f64 (Z j).re (Z j).im)
theorem Rdz.kept {w w' : World} {y : Option Addr} {m : Nat} {Z : Nat → Cx} (h : Rdz w y m Z) (k : Kept w w') : Rdz w' y m Z := fun h0 => by
  obtain ⟨g, o, e, hl, hc⟩ := h h0
  exact ⟨g, o, e, Nat.lt_of_lt_of_le hl k.size, fun j hj => (k.cell hl).trans (hc j hj)⟩
theorem Rdz.muts {D : List Nat} {w w' : World} {y : Option Addr} {m : Nat} {Z : Nat → Cx} (h : Rdz w y m Z) (q : Mut D w w') (hd : ∀ g o, y = some ⟨g, o, none⟩ → g ∉ D) : Rdz w' y m Z := fun h0 => by
  obtain ⟨g, o, e, hl, hc⟩ := h h0
  exact ⟨g, o, e, Nat.lt_of_lt_of_le hl q.size, fun j hj => (q.cell hl (hd g o e)).trans (hc j hj)⟩

theorem wpList_push_room {w : World} {ops : Array Oper} {rest : List Oper} {o : Oper} {a : Act} {Q : Exit → Act → World → Prop} (hgd : o.guard = none) (s x : Operand)
    (ho : o.op = .call { callee := .builtin .append, args := #[s, x], argTypes := #[35, 35] }) {base g n cap d : Nat} {f : Nat → Wr} (hs : a.eval s = .slice (some ⟨g, 0, none⟩) n cap) (h : Ws w base (.slice (some ⟨g, 0, none⟩) n cap) n f)
    (hn : n + 1 ≤ cap) (hx : a.eval x = .slice (some ⟨w.heap.size, 0, none⟩) 1 d) {A : Int} {p q : Nat} (hA : f n = ⟨A, p, q⟩)
    (hK : ∀ w', Ws w' base (.slice (some ⟨g, 0, none⟩) (n + 1) cap) (n + 1) f → Mut [g] w w' → wpList Tryz.prog ops Q rest (a.put o.dst (.slice (some ⟨g, 0, none⟩) (n + 1) cap)) w') :
    wpList Tryz.prog ops Q (o :: rest) a (w.alloc (.cells #[.int .i64 A, .complex .f64 p q] 49)) := by
  obtain ⟨w', hr, h2, h3⟩ := run_push_room o.type h hn d
  rw [hA] at hr
  refine wpList_plain hgd fun K hK' => ?_
  unfold Oper.wp execOp
  simp only [Wr.c] at hr
  simp only [ho, resolve, invoke, builtin, Sem.run_bind, Sem.run_pure, Result.andThen_ok, List.map_toArray, List.map_cons, List.map_nil, hs, hx, hr]
  exact hK' _ _ (hK w' h2 h3)

theorem wpList_push {w : World} {ops : Array Oper} {rest : List Oper} {o : Oper} {a : Act} {Q : Exit → Act → World → Prop} (hgd : o.guard = none) (s x : Operand)
    (ho : o.op = .call { callee := .builtin .append, args := #[s, x], argTypes := #[35, 35] }) {base n d : Nat} {v : Value} {f : Nat → Wr} (hs : a.eval s = v) (h : Ws w base v n f) (hb : base ≤ w.heap.size)
    (hn : n ≤ 100000) (hx : a.eval x = .slice (some ⟨w.heap.size, 0, none⟩) 1 d) {A : Int} {p q : Nat} (hA : f n = ⟨A, p, q⟩)
    (hK : ∀ v' w', Ws w' base v' (n + 1) f → Mut v.ownBlock.toList w w' → Fresh w v v' → wpList Tryz.prog ops Q rest (a.put o.dst v') w') :
    wpList Tryz.prog ops Q (o :: rest) a (w.alloc (.cells #[.int .i64 A, .complex .f64 p q] 49)) := by
  obtain ⟨v', w', hr, h2, h3, h4⟩ := run_push o.type h hb hn d
  rw [hA] at hr
  refine wpList_plain hgd fun K hK' => ?_
  unfold Oper.wp execOp
  simp only [Wr.c] at hr
  simp only [ho, resolve, invoke, builtin, Sem.run_bind, Sem.run_pure, Result.andThen_ok, List.map_toArray, List.map_cons, List.map_nil, hs, hx, hr]
  exact hK' _ _ (hK v' w' h2 h3 h4)

set_option maxHeartbeats 2000000 in
theorem lay_room {y : Option Addr} {base g n cap m d : Nat} {f : Nat → Wr} {Z : Nat → Cx} (A : Int) (w : World) (h : Ws w base (.slice (some ⟨g, 0, none⟩) n cap) n f) (hcap : n + m ≤ cap) (hc : cap ≤ 100000) (hA : 0 < m → 0 ≤ A ∧ A ≤ 1000000)
    (hy : Rdz w y m Z) (hg : ∀ b o, y = some ⟨b, o, none⟩ → b ≠ g) (hf : ∀ j, j < m → f (n + j) = ⟨A + j, Z j⟩) :
    Calls Tryz.prog 32 #[.slice (some ⟨g, 0, none⟩) n cap, .int .i64 A, .slice y m d] w fun e w' => e = .returned (.slice (some ⟨g, 0, none⟩) (n + m) cap) ∧ Ws w' base (.slice (some ⟨g, 0, none⟩) (n + m) cap) (n + m) f ∧ Mut [g] w w' := by
  have HH : Hid (Ws w base (.slice (some ⟨g, 0, none⟩) n cap) n f ∧ Rdz w y m Z ∧ (∀ b o, y = some ⟨b, o, none⟩ → b ≠ g) ∧ ∀ j, j < m → f (n + j) = ⟨A + j, Z j⟩) := ⟨h, hy, hg, hf⟩
  have HA : Hid (0 < m → 0 ≤ A ∧ A ≤ 1000000) := hA
  clear h hy hg hf hA
  go_enter Tryz.func32, Tryz.ntmps32
  go_wp2
  go_loopg [0, 11] m (fun mm v i wr => ∃ k : Nat, i = .int .i64 k ∧ v = .slice (some ⟨g, 0, none⟩) (n + k) cap ∧ k ≤ m ∧ mm = m - k ∧ Hid (Ws wr base (.slice (some ⟨g, 0, none⟩) (n + k) cap) (n + k) f ∧ Mut [g] w wr))
  case atStart => exact ⟨0, rfl, rfl, by omega, by omega, HH.out.1, Mut.refl _ _⟩
  case round =>
    obtain ⟨k, rfl, rfl, hk, hm, hw⟩ := hrel
    have HM : Hid _ := hm
    clear hm
    by_cases hlt : k < m
    · obtain ⟨b, o, rfl, hb, cc⟩ := HH.out.2.1.muts hw.out.2 (fun b o e => by have := HH.out.2.2.1 b o e; simpa using this) (by omega)
      have c1 := cc k hlt
      have hA := HA.out (by omega)
      have hf := HH.out.2.2.2 k hlt
      have hL : Hid _ := hw.out.1
      clear cc
      generalize Z k = z at *
      have HF : Hid (f (n + k) = ⟨A + k, z.re, z.im⟩) := hf
      clear hf
      have z2 : n + k + 1 ≤ cap := by omega
      go_wp2_with (at_builtin; refine wpList_push_room rfl _ _ rfl rfl hL.out z2 rfl HF.out ?_)
      intro w3 h3 m3
      have HN : Hid (Ws w3 base (.slice (some ⟨g, 0, none⟩) (n + (k + 1)) cap) (n + (k + 1)) f ∧ Mut [g] w w3) := ⟨h3, hw.out.2.trans m3⟩
      clear h3 m3 hL hw
      go_wp2
      go_roundg (gk - 1)
      all_goals (have := HM.out; try omega)
      exact ⟨k + 1, by go_num, rfl, by omega, by omega, HN⟩
    · obtain rfl : k = m := by omega
      go_wp2
      go_ret
      exact ⟨rfl, hw.out.1, hw.out.2⟩
end Go.Proofs.YtpdclckgnajcdaaGreat
