/-
  Package graph: what a thing refers to.
-/
import Derived.Test.YtbmcbkebcchjmaaGreatDoorRea20
import Derived.LoopN
namespace Go.Proofs.YtbmcbkebcchjmaaGreatDoor
open Go.RowKit Go.Maps Go.Sort
attribute [local go_sem] run_store_complex

theorem keysT_none (w : World) : Calls Tryz.prog 50 #[.map none] w fun e w' => e = .returned (.func (.func 70) #[] #[.pointer (some ⟨w.heap.size, 0, none⟩)]) ∧ w' = w.alloc (.cells #[.map none] 72) := keysT_any none w
theorem info_value : (Tryz.prog.info? 34).map (fun i => (i.zero, i.size, i.bytes)) = some (some (.agg #[.bool false, .complex .f64 0 0]), 2, 24) := by kernel_rfl

theorem wpList_append_eq {P : Program} {w : World} {ops : Array Oper} {rest : List Oper} {o : Oper} {a : Act} {Q : Exit → Act → World → Prop} (hgd : o.guard = none) (s x : Operand) (ts : TypeId)
    (ho : o.op = .call { callee := .builtin .append, args := #[s, x], argTypes := #[ts, ts] }) {v u v' : Value} {w' : World} (hs : a.eval s = v) (hx : a.eval x = u) (hr : (Builtin.append_ #[ts, ts] o.type #[v, u]).run P w = .ok v' w')
    (hK : wpList P ops Q rest (a.put o.dst v') w') : wpList P ops Q (o :: rest) a w := by
  refine wpList_plain hgd fun K hK' => ?_
  unfold Oper.wp execOp
  simp only [ho, resolve, invoke, builtin, Sem.run_bind, Sem.run_pure, Result.andThen_ok, List.map_toArray, List.map_cons, List.map_nil, hs, hx, hr]
  exact hK' _ _ hK

section
variable {C : Cf} {base p : Nat} {F : List Nat} {A : Ga}
set_option maxHeartbeats 4000000 in
set_option maxRecDepth 10000 in
theorem refersTo_none {w : World} {g i : Nat} (t2 : w.cell? ⟨g, i * 3 + 2, none⟩ = some (.map none)) :
    Calls Tryz.prog 31 #[.pointer (some ⟨g, i * 3, none⟩)] w fun e w' => ∃ v, e = .returned v ∧ Lst w' w.heap.size v [] ∧ Kept w w' := by
  have HS := sortedT_nil w
  have HI : Hid (∀ W, Calls Tryz.prog 48 #[.slice none 0 0] W fun e w' => ∃ v, e = .returned v ∧ Lst w' W.heap.size v [] ∧ Kept W w') := fun W => by
    have := identities_any (vs := []) (fun _ => none) (fun k h => absurd h (by simp)) (x := none) (cap := 0) (w := W) (fun h => absurd h (by simp)) (by simp)
    exact this
  go_enter Tryz.func31, Tryz.ntmps31
  go_wp2_with fail
  refine (keysT_none _).mono ?_
  rintro e w2 ⟨rfl, rfl⟩
  go_wp2_with fail
  refine HS.mono ?_
  rintro e w3 ⟨v, rfl, hl, hk⟩
  obtain ⟨y, d, rfl⟩ := hl.form
  have K3 : Hid (Kept w w3) := ((Kept.refl w).alloc _ _).trans hk
  clear HS hl hk t2
  go_wp2_with fail
  refine wp_loop_rounds 1 ?_
  rw [rounds_succ]
  go_wp2_with fail
  refine (HI.out _).mono ?_
  rintro e w4 ⟨v, rfl, hl, hk⟩
  obtain ⟨y, d, rfl⟩ := hl.form
  have H4 : Hid (Lst w4 w.heap.size _ [] ∧ Kept w w4) := ⟨hl.low K3.out.size, K3.out.trans hk⟩
  clear hl hk
  go_wp2
  go_ret
  exact ⟨_, rfl, H4.out⟩

set_option maxHeartbeats 4000000 in
set_option maxRecDepth 10000 in
theorem refersTo_some {w : World} {g i b : Nat} (hg : g < w.heap.size) (t2 : w.cell? ⟨g, i * 3 + 2, none⟩ = some (.map (some b))) {k : Int} {v : V} (hm : Mp w b (some (k, v.val))) (hk : IntKind.min .i64 ≤ k ∧ k ≤ IntKind.max .i64) (o : Option Nat) (hkd : Kd v o) :
    Calls Tryz.prog 31 #[.pointer (some ⟨g, i * 3, none⟩)] w fun e w' => ∃ u, e = .returned u ∧ Lst w' w.heap.size u (idl (fun _ => o) 1) ∧ Kept w w' := by
  have HS := sortedT_any b _ _ _ w hm (by rw [size_one]; decide)
  have HT : Hid (g < w.heap.size ∧ w.cell? ⟨g, i * 3 + 2, none⟩ = some (.map (some b))) := ⟨hg, t2⟩
  have HM : Hid (∀ W, Kept w W → (Instr.lookup 72 (.map (some b)) (.int .i64 k) false).run Tryz.prog W = .ok v.val W) := fun W q => (Mp.hit (hm.kept q) hk Tryz.underlying72 (zeroV W)).2
  have HI : Hid (∀ (W : World) (x : Option Addr) (cap : Nat), Rdv W x [v] → Calls Tryz.prog 48 #[.slice x 1 cap] W fun e w' => ∃ u, e = .returned u ∧ Lst w' W.heap.size u (idl (fun _ => o) 1) ∧ Kept W w') := fun W x cap q => by
    have := identities_any (vs := [v]) (fun _ => o) (fun k h => by
      obtain rfl : k = 0 := by simpa using h
      exact hkd) (x := x) (cap := cap) (w := W) q (by simp)
    exact this
  generalize idl (fun _ => o) 1 = R at HI ⊢
  have hk1 := keysT_any (some b) w
  clear hm hkd hg
  go_enter Tryz.func31, Tryz.ntmps31
  go_wp2_with fail
  refine hk1.mono ?_
  rintro e w2 ⟨rfl, rfl⟩
  go_wp2_with fail
  refine HS.mono ?_
  rintro e w3 ⟨u, ss, rfl, hp, hl, hkk⟩
  have K3 : Hid (Kept w w3) := ((Kept.refl w).alloc _ _).trans hkk
  have hss : ss.mergeSort leI = [k] := by
    rw [intKeys_one] at hp
    rw [List.perm_singleton.1 hp]
    exact List.mergeSort_singleton k
  rw [hss] at hl
  obtain ⟨y, d, rfl⟩ := hl.form
  have HL : Hid (Lst w3 (w.heap.size + 1) (.slice y [k].length d) [k]) := hl
  obtain ⟨gk, ok, ey, hgk, hck⟩ := hl.rdi (by simp)
  subst ey
  have ck : w3.cell? ⟨gk, ok, none⟩ = some (.int .i64 k) := hck 0 (by simp)
  clear HS hl hkk hk1 t2 hp hss hck
  have t2 := (K3.out.cell (a := ⟨g, i * 3 + 2, none⟩) HT.out.1).trans HT.out.2
  have hlk := HM.out w3 K3.out
  unfold V.val at hlk HM
  go_wp2_with fail
  refine wp_loop_rounds 2 ?_
  rw [rounds_succ]
  have r0 : Hid (Rw 34 2 V.cs w3 w3.heap.size (.slice none 0 0) []) := Rw.nil _ _ _ _ _
  have k0 : Kept w3 (w3.alloc (.cells #[.bool v.r, .complex .f64 v.x v.y] 34)) := (Kept.refl _).alloc _ _
  have hown := Own.new w3 v.cs 34
  obtain ⟨v', w', hrun, hrw, hmut, hfresh⟩ := run_append_rw (P := Tryz.prog) (t := 34) (ts := 50) (ty := 50) (m := 2) (c := V.cs) (T := [v]) Tryz.underlying50 info_value rfl (by decide) (by decide) V.len V.one (r0.out.kept k0) k0.size (y := some ⟨w3.heap.size, 0, none⟩) (d := 1)
    (fun _ => ⟨_, rfl, fun j u hu => by
      have hadd : (⟨w3.heap.size, 0, none⟩ : Addr).add j = ⟨w3.heap.size, j, none⟩ := by unfold Addr.add; split <;> simp_all
      rw [hadd]
      exact hown.blk.at j (by simpa [V.cs] using hu)⟩) (by simp)
  have hrun : (Builtin.append_ #[50, 50] 50 #[.slice none 0 0, .slice (some ⟨w3.heap.size, 0, none⟩) 1 1]).run Tryz.prog (w3.alloc (.cells #[.bool v.r, .complex .f64 v.x v.y] 34)) = .ok v' w' := hrun
  obtain ⟨y', d', hv'⟩ := hrw.form
  have hv2 : v' = .slice y' 1 d' := hv'
  clear hv'
  subst hv2
  have KW2 : Hid (Kept w w') := (K3.out.alloc _ _).muts hmut (by simp [Value.ownBlock])
  have RV : Hid (Rdv w' y' [v]) := Rdv.of hrw
  clear hrw hmut hfresh hown k0 r0
  go_wp2_with (at_builtin; refine wpList_append_eq rfl _ _ 50 rfl rfl rfl hrun ?_)
  go_wp2_with fail
  rw [rounds_succ]
  go_wp2_with fail
  refine (HI.out _ _ _ RV.out).mono ?_
  rintro e w4 ⟨u4, rfl, hl, hk4⟩
  obtain ⟨y4, d4, rfl⟩ := hl.form
  have H4 : Hid (Lst w4 w.heap.size (.slice y4 R.length d4) R ∧ Kept w w4) := ⟨hl.low KW2.out.size, KW2.out.trans hk4⟩
  clear hl hk4
  go_wp2
  go_ret
  exact ⟨_, rfl, H4.out⟩
end
end Go.Proofs.YtbmcbkebcchjmaaGreatDoor
