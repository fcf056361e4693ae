/-
  Lists of words in memory; contract of package plan's spineWords.
-/
import Derived.Test.YtpdclckgnajcdaaGreatPlan7
namespace Go.Proofs.YtpdclckgnajcdaaGreat
open Go.RowKit
attribute [local go_sem] run_store_complex

def zc (z : Cx) : List Value := [.complex .f64 z.re z.im]
theorem zc_len (z : Cx) : (zc z).length = 1 := rfl
theorem zc_one (z : Cx) : ∀ u ∈ zc z, u.oneCell' = true := by simp [zc, Value.oneCell']
theorem info_cx : (Tryz.prog.info? 47).map (fun i => (i.zero, i.size, i.bytes)) = some (some (.complex .f64 0 0), 1, 16) := by kernel_rfl
/-- A slice of the call's own that holds the first n of the words Z. -/
def Zs (w : World) (base : Nat) (v : Value) (n : Nat) (Z : Nat → Cx) : Prop := Rw 47 1 zc w base v ((List.range n).map Z)

section
variable {w w' : World} {base n : Nat} {v v' : Value} {Z : Nat → Cx}
theorem Zs.form (h : Zs w base v n Z) : ∃ x d, v = .slice x n d := by
  have := Rw.form h
  simpa using this
theorem Zs.kept (h : Zs w base v n Z) (k : Kept w w') : Zs w' base v n Z := Rw.kept h k
theorem Zs.lt (h : Zs w base v n Z) : ∀ k, v.ownBlock = some k → base ≤ k ∧ k < w.heap.size := Rw.lt h
theorem Zs.rd {x : Option Addr} {d : Nat} (h : Zs w base (.slice x n d) n Z) : Rdz w x n Z := fun h0 => by
  obtain ⟨g, d', e, hb, hg, _⟩ := Rw.here h (by simpa using h0)
  obtain ⟨rfl, _, rfl⟩ := Value.slice.inj e
  refine ⟨g, 0, rfl, hg, fun i hi => ?_⟩
  have hi' : i < ((List.range n).map Z).length := by simpa using hi
  have e1 : ((List.range n).map Z)[i] = Z i := by simp
  have a0 := Rw.cell h zc_len hi' (j := 0) (u := .complex .f64 (Z i).re (Z i).im) (by rw [e1]; rfl)
  simpa using a0
theorem range_pushz (n : Nat) (Z : Nat → Cx) : (List.range (n + 1)).map Z = (List.range n).map Z ++ [Z n] := by rw [List.range_succ, List.map_append]; rfl
theorem rdr_onez (w : World) (z : Cx) : Rdr zc (w.alloc (.cells (zc z).toArray 47)) (some ⟨w.heap.size, 0, none⟩) [z] := fun _ => ⟨_, rfl, fun j u hu => by
  rw [show (⟨w.heap.size, 0, none⟩ : Addr).add j = ⟨w.heap.size, j, none⟩ by unfold Addr.add; split <;> simp_all]
  simpa using hu⟩
theorem run_pushz (ty : TypeId) (h : Zs w base v n Z) (hb : base ≤ w.heap.size) (hn : n ≤ 100000) (d : Nat) :
    ∃ v' w', (Builtin.append_ #[75, 75] ty #[v, .slice (some ⟨w.heap.size, 0, none⟩) 1 d]).run Tryz.prog (w.alloc (.cells (zc (Z n)).toArray 47)) = .ok v' w' ∧ Zs w' base v' (n + 1) Z ∧ Mut v.ownBlock.toList w w' ∧ Fresh w v v' := by
  have k0 : Kept w (w.alloc (.cells (zc (Z n)).toArray 47)) := (Kept.refl w).alloc _ _
  obtain ⟨v', w', hr, h2, h3, h4⟩ := run_append_rw (ty := ty) (T := [Z n]) (d := d) Tryz.underlying75 info_cx rfl (by decide) (by decide) zc_len zc_one (Rw.kept h k0) (by have := k0.size; omega) (rdr_onez w (Z n)) (by simp; omega)
  refine ⟨v', w', hr, ?_, k0.mut.trans h3, fun k hk => ?_⟩
  · unfold Zs
    rw [range_pushz]
    exact h2
  · rcases h4 k hk with e | e
    · exact .inl e
    · have := k0.size; exact .inr (by omega)
end
theorem wpList_pushz {w : World} {ops : Array Oper} {rest : List Oper} {o : Oper} {a : Act} {Q : Exit → Act → World → Prop} (hgd : o.guard = none) (s x : Operand)
    (ho : o.op = .call { callee := .builtin .append, args := #[s, x], argTypes := #[75, 75] }) {base n d : Nat} {v : Value} {Z : Nat → Cx} (hs : a.eval s = v) (h : Zs w base v n Z) (hb : base ≤ w.heap.size)
    (hn : n ≤ 100000) (hx : a.eval x = .slice (some ⟨w.heap.size, 0, none⟩) 1 d) {p q : Nat} (hA : Z n = ⟨p, q⟩)
    (hK : ∀ v' w', Zs w' base v' (n + 1) Z → Mut v.ownBlock.toList w w' → Fresh w v v' → wpList Tryz.prog ops Q rest (a.put o.dst v') w') :
    wpList Tryz.prog ops Q (o :: rest) a (w.alloc (.cells #[.complex .f64 p q] 47)) := by
  obtain ⟨v', w', hr, h2, h3, h4⟩ := run_pushz o.type h hb hn d
  rw [hA] at hr
  refine wpList_plain hgd fun K hK' => ?_
  unfold Oper.wp execOp
  simp only [zc] at hr
  simp only [ho, resolve, invoke, builtin, Sem.run_bind, Sem.run_pure, Result.andThen_ok, List.map_toArray, List.map_cons, List.map_nil, hs, hx, hr]
  exact hK' _ _ (hK v' w' h2 h3 h4)

/-- Word j of a spine. -/
def spW (L : Nat → Int) (l j : Nat) : Cx := if j = 0 then cr (L 0) else if j = 1 then cw ((l : Int) - 1) else cr (L (j - 1))

theorem zs_two (w : World) (base : Nat) (Z : Nat → Cx) (hb : base ≤ w.heap.size) : Zs (w.alloc (.cells #[.complex .f64 (Z 0).re (Z 0).im, .complex .f64 (Z 1).re (Z 1).im] 47)) base (.slice (some ⟨w.heap.size, 0, none⟩) 2 2) 2 Z :=
  ⟨by simp [zc, List.range_succ], .inr ⟨w.heap.size, 2, _, by simp, hb, heap_alloc_new w _, by simp, by unfold maxLen; omega, by simp, by simp [zc, List.range_succ]⟩⟩

set_option maxHeartbeats 2000000 in
theorem spineWords_any {xb xo l c : Nat} {L : Nat → Int} (w : World) (hl1 : 2 ≤ l) (hl : l ≤ 100) (hc : l ≤ c) (hx : xb < w.heap.size ∧ ∀ j, j < l → w.cell? ⟨xb, xo + j, none⟩ = some (.int .i64 (L j))) (hL : ∀ j, j < l → 0 ≤ L j ∧ L j ≤ 1024) :
    Calls Tryz.prog 35 #[.slice (some ⟨xb, xo, none⟩) l c] w fun e w' => ∃ v, e = .returned v ∧ Zs w' w.heap.size v (l + 1) (spW L l) ∧ Kept w w' := by
  have c0 : w.cell? ⟨xb, xo, none⟩ = some (.int .i64 (L 0)) := hx.2 0 (by omega)
  have h0 := hL 0 (by omega)
  have hc2 : 2 ≤ c := by omega
  have HX : Hid _ := hx
  have HL : Hid (∀ j, j < l → 0 ≤ L j ∧ L j ≤ 1024) := hL
  have R0 : Hid (∀ w, Calls Tryz.prog 64 #[.int .i64 (L 0)] w _) := fun w => ref_in (L 0) w (by omega) (by omega)
  have W0 : Hid (∀ w, Calls Tryz.prog 65 #[.int .i64 ((l : Int) - 1)] w _) := fun w => whole_in ((l : Int) - 1) w (by omega) (by omega)
  clear hx hL h0
  go_enter Tryz.func35, Tryz.ntmps35
  go_wp2_with fail
  refine (R0.out _).mono ?_
  rintro e w1 ⟨rfl, rfl⟩
  go_wp2_with fail
  refine (W0.out _).mono ?_
  rintro e w2 ⟨rfl, rfl⟩
  go_wp2_with fail
  have H0 : Hid (Zs (w2.alloc (.cells #[.complex .f64 (spW L l 0).re (spW L l 0).im, .complex .f64 (spW L l 1).re (spW L l 1).im] 47)) w2.heap.size (.slice (some ⟨w2.heap.size, 0, none⟩) 2 2) 2 (spW L l)) := zs_two w2 w2.heap.size (spW L l) (Nat.le_refl _)
  go_loopg [3, 18] (l - 1) (fun mm v i wr => ∃ k : Nat, i = .int .i64 k ∧ k ≤ l - 1 ∧ mm = l - 1 - k ∧ Hid (Zs wr w2.heap.size v (2 + k) (spW L l) ∧ Kept w2 wr))
  case atStart => exact ⟨0, rfl, by omega, by omega, H0.out, (Kept.refl _).alloc _ _⟩
  case round =>
    obtain ⟨k, rfl, hk, hm, hw⟩ := hrel
    have HM : Hid _ := hm
    clear hm H0
    by_cases hlt : k < l - 1
    · have c1 : wr.cell? ⟨xb, xo + 1 + k, none⟩ = some (.int .i64 (L (1 + k))) := by
        have := (hw.out.2.cell (a := ⟨xb, xo + (1 + k), none⟩) HX.out.1).trans (HX.out.2 (1 + k) (by omega))
        rw [Nat.add_assoc]
        exact this
      have hq := HL.out (1 + k) (by omega)
      have R1 : Hid (∀ w, Calls Tryz.prog 64 #[.int .i64 (L (1 + k))] w _) := fun w => ref_in (L (1 + k)) w (by omega) (by omega)
      have HF : Hid (spW L l (2 + k) = ⟨floatOfInt .f64 (L (1 + k) + 1), 4607182418800017408⟩) := by
        unfold spW
        rw [if_neg (by omega), if_neg (by omega), show 2 + k - 1 = 1 + k by omega]
        rfl
      generalize L (1 + k) = q at *
      have hlt2 : (k : Int) < (l : Int) - 1 := by omega
      go_wp2_with fail
      refine (R1.out _).mono ?_
      rintro e w4 ⟨rfl, rfl⟩
      have hZ : Hid (Zs _ _ _ _ _) := hw.out.1
      have z1 : w2.heap.size ≤ w4.heap.size := hw.out.2.size
      have z2 : 2 + k ≤ 100000 := by omega
      go_wp2_with (at_builtin; refine wpList_pushz rfl _ _ rfl rfl hZ.out z1 z2 rfl HF.out ?_)
      intro v' w5 h5 m5 _
      have HN : Hid (Zs w5 w2.heap.size v' (2 + (k + 1)) (spW L l) ∧ Kept w2 w5) := ⟨h5, hw.out.2.muts m5 (fun b hb => (hw.out.1.lt b (by simpa using hb)).1)⟩
      clear h5 m5 hZ hw
      go_wp2
      go_roundg (gk - 1)
      all_goals (have := HM.out; try omega)
      exact ⟨k + 1, by go_num, by omega, by omega, HN⟩
    · obtain rfl : k = l - 1 := by omega
      have hlt2 : ¬ (((l - 1 : Nat) : Int)) < (l : Int) - 1 := by omega
      go_wp2
      go_ret
      refine ⟨_, rfl, ?_, hw.out.2⟩
      have e : 2 + (l - 1) = l + 1 := by omega
      have := hw.out.1
      rwa [e] at this
end Go.Proofs.YtpdclckgnajcdaaGreat
