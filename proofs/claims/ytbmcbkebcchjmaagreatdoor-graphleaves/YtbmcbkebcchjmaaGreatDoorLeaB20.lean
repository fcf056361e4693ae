/-
  Locals, Globals; who left; 'one' of one who is not there.
-/
import Derived.Test.YtbmcbkebcchjmaaGreatDoorLeaA20
namespace Go.Proofs.YtbmcbkebcchjmaaGreatDoor
open Go.RowKit
attribute [local go_sem] run_store_complex

theorem nil_sl (W : World) : (binOp .eql 50 (.slice none 0 0) (.slice none 0 0)).run Tryz.prog W = .ok (.bool true) W := by kernel_rfl
theorem some_sl (a : Addr) (n c : Nat) (W : World) : (binOp .eql 50 (.slice (some a) n c) (.slice none 0 0)).run Tryz.prog W = .ok (.bool false) W := by kernel_rfl

theorem clone_nil (w : World) : Calls Tryz.prog 34 #[.slice none 0 0] w fun e w' => e = .returned (.slice none 0 0) ∧ w' = w := by
  have h := nil_sl
  go_enter Tryz.func34, Tryz.ntmps34
  go_wp2_with fail
  go_ret
  exact ⟨rfl, rfl⟩

set_option maxHeartbeats 1000000 in
theorem clone_any {w : World} {base : Nat} {vs : List V} {x : Option Addr} {n cap : Nat} (hr : Rw 34 2 V.cs w base (.slice x n cap) vs) (h0 : 0 < vs.length) (hl : vs.length ≤ 1000) :
    Calls Tryz.prog 34 #[.slice x n cap] w fun e w' => ∃ y d, e = .returned (.slice y vs.length d) ∧ Rdv w' y vs ∧ Kept w w' := by
  obtain ⟨g, c2, e, _, hg, _⟩ := hr.here h0
  obtain ⟨e1, e2, e3⟩ := Value.slice.inj e
  subst e1 e2 e3
  have hs := some_sl
  have k0 : Kept w (w.alloc (.cells #[] 34)) := (Kept.refl _).alloc _ _
  have r0 : Rw 34 2 V.cs (w.alloc (.cells #[] 34)) w.heap.size (.slice (some ⟨w.heap.size, 0, none⟩) 0 0) [] :=
    Own.rw (vs := []) (Own.new w [] 34) (Nat.le_refl _) (by simp)
  have hc := World.ownsRow.cells (hr.kept k0) (g := g) rfl
  obtain ⟨v', w', hrun, hrw, hmut, hfresh⟩ := run_append_rw (P := Tryz.prog) (t := 34) (ts := 50) (ty := 50) (m := 2) (c := V.cs) (T := vs) Tryz.underlying50 info_value rfl (by decide) (by decide) V.len V.one r0 k0.size (y := some ⟨g, 0, none⟩) (d := cap)
    (fun _ => ⟨_, rfl, hc⟩) (by simp; omega)
  obtain ⟨y', d', hv'⟩ := hrw.form
  have hv2 : v' = .slice y' vs.length d' := by simpa using hv'
  clear hv'
  subst hv2
  have KW2 : Hid (Kept w w') := k0.muts hmut (by simp [Value.ownBlock])
  have rv : Rdv w' y' vs := by
    have := Rdv.of hrw
    simpa using this
  have RV : Hid (Rdv w' y' vs) := rv
  clear hrw hmut hfresh r0 hc k0 hr rv
  go_enter Tryz.func34, Tryz.ntmps34
  go_wp2_with (at_builtin; refine wpList_append_eq rfl _ _ 50 rfl rfl rfl hrun ?_)
  go_wp2_with fail
  go_ret
  exact ⟨_, _, rfl, RV.out, KW2.out⟩

theorem Mp.miss1 {w : World} {b : Nat} {k : Int} {t e : TypeId} {z : Value} (h : Mp w b none) (hk : IntKind.min .i64 ≤ k ∧ k ≤ IntKind.max .i64) (ht : Tryz.prog.underlying t = some (.map 3 e)) (hz : (zeroValue e).run Tryz.prog w = .ok z w) :
    (Instr.lookup t (.map (some b)) (.int .i64 k) false).run Tryz.prog w = .ok z w := by
  obtain ⟨u, ps, hr, hv⟩ := World.ownsMap.lookup h law3 ht hz (zd := .held z) (zp := []) rfl (key_of hk)
  have hat : (mpD none).atKey (.int .i64 k) (.held z) = .held z := rfl
  rw [hat] at hv
  simp only [heldR, Option.some.injEq, Prod.mk.injEq, DataW.held.injEq] at hv
  rw [hr, hv.1]

section
variable {C : Cf} {base p : Nat} {F : List Nat} {S : Pg} {w : World}
theorem locals_none (h : GS C base p F S w) (hL : S.L = none) : Calls Tryz.prog 15 #[.pointer (some ⟨p, 0, none⟩), .int .i64 0] w fun e w' => e = .returned (.slice none 0 0) ∧ w' = w := by
  obtain ⟨A, g, rfl⟩ := h.gr
  have c10 := g.at 10 (v := .map (some A.lb)) rfl
  have hl : Mp w A.lb none := by have := g.loc; rw [show A.L = none from hL] at this; exact this
  have hlk := hl.miss1 in0 Tryz.underlying57 (zeroSl w)
  clear h g hl hL
  go_enter Tryz.func15, Tryz.ntmps15
  go_wp2_with fail
  refine (clone_nil w).mono ?_
  rintro e w' ⟨rfl, e1⟩
  rw [e1]
  go_wp2_with fail
  go_ret
  exact ⟨rfl, rfl⟩
theorem locals_some (h : GS C base p F S w) {vs : List V} (hL : S.L = some vs) (h0 : 0 < vs.length) (hl : vs.length ≤ 1000) : Calls Tryz.prog 15 #[.pointer (some ⟨p, 0, none⟩), .int .i64 0] w fun e w' => ∃ y d, e = .returned (.slice y vs.length d) ∧ Rdv w' y vs ∧ Kept w w' := by
  obtain ⟨A, g, rfl⟩ := h.gr
  have hL' : A.L = some vs := hL
  have c10 := g.at 10 (v := .map (some A.lb)) rfl
  have hm : Mp w A.lb (some ((0 : Int), A.lv)) := by have := g.loc; rw [hL'] at this; exact this
  have hlk := (Mp.hit hm in0 Tryz.underlying57 (zeroSl w)).2
  have hr := g.lvs vs hL'
  obtain ⟨x, d, hlv⟩ := hr.form
  rw [hlv] at hr hlk
  have HC : Hid _ := clone_any hr h0 hl
  have HCC : Hid (Calls Tryz.prog 34 #[.slice x vs.length d] w fun e w' => ∃ y d, e = .returned (.slice y vs.length d) ∧ Rdv w' y vs ∧ Kept w w') := clone_any hr h0 hl
  clear h g hm hL hL' hr hlv HC
  go_enter Tryz.func15, Tryz.ntmps15
  go_wp2_with fail
  refine HCC.out.mono ?_
  rintro e w' ⟨y, d2, rfl, r, k⟩
  have HR : Hid (Rdv w' y vs ∧ Kept w w') := ⟨r, k⟩
  clear r k
  go_wp2_with fail
  go_ret
  exact ⟨_, _, rfl, HR.out⟩
theorem globals_any (h : GS C base p F S w) (h0 : 0 < S.G.length) (hl : S.G.length ≤ 1000) : Calls Tryz.prog 16 #[.pointer (some ⟨p, 0, none⟩)] w fun e w' => ∃ y d, e = .returned (.slice y S.G.length d) ∧ Kept w w' := by
  obtain ⟨A, g, rfl⟩ := h.gr
  have c11 := g.at 11 (v := A.gv) rfl
  have hr := g.glo
  obtain ⟨x, d, hlv⟩ := hr.form
  rw [hlv] at hr c11
  have HCC : Hid (Calls Tryz.prog 34 #[.slice x A.G.length d] w fun e w' => ∃ y d, e = .returned (.slice y A.G.length d) ∧ Rdv w' y A.G ∧ Kept w w') := clone_any hr h0 hl
  show Calls _ _ _ _ fun e w' => ∃ y d, e = .returned (.slice y A.G.length d) ∧ Kept w w'
  clear h g hr hlv h0 hl
  go_enter Tryz.func16, Tryz.ntmps16
  go_wp2_with fail
  refine HCC.out.mono ?_
  rintro e w' ⟨y, d2, rfl, r, k⟩
  have HR : Hid (Kept w w') := k
  clear r k
  go_wp2_with fail
  go_ret
  exact ⟨_, _, rfl, HR.out⟩
theorem reach_none (h : GS C base p F S w) (hL : S.L = none) {tg : List (Option Nat)} (hg : Kds S.G tg) (l1 : tg.length ≤ 1000) (sc : Nat → Option Nat) (hs : LeadsT S.T sc)
    (hr : ∀ r ∈ tg.filterMap id, r < S.T.length) (hsb : ∀ i j, sc i = some j → j < S.T.length) :
    Calls Tryz.prog 14 #[.pointer (some ⟨p, 0, none⟩)] w fun e w' => ∃ v ids, e = .returned v ∧ Lst w' w.heap.size v (NI ids) ∧ ids.Nodup ∧ (∀ x, x ∈ ids ↔ Rch (tg.filterMap id) sc x) ∧ Kept w w' := by
  obtain ⟨A, g, rfl⟩ := h.gr
  have hg' : Kds A.G tg := hg
  have hR : ∀ W, Kept w W → Calls Tryz.prog 30 #[.pointer (some ⟨p, 0, none⟩)] W fun e w' => ∃ v, e = .returned v ∧ Lst w' W.heap.size v (NI (tg.filterMap id)) ∧ Kept W w' := fun W k => by
    have r := roots_none (g.kept k) hL (fun k => (tg[k]?).join) hg'.kd (by rw [hg'.1]; exact l1)
    rw [hg'.idl] at r
    exact r
  have e : (A.pg).T.length = A.E.length := by simp [Ga.pg]
  rw [e] at hr hsb
  refine reach_any g _ sc hr ?_ (fun i hi => hs i _ (by simp [Ga.pg, hi])) hsb hR
  have a1 := List.length_filterMap_le id tg
  omega
theorem does_leave {o : OP} (O : C.Ok) {vs : List V} (hL : S.L = some vs) (hk : o.k = 18) : Does C S o zerV ⟨S.T, none, S.G⟩ := by
  intro base p F w gs
  obtain ⟨A, h, rfl⟩ := gs.gr
  refine (do_leave h gs.vs O (vs := vs) hL o hk).mono ?_
  rintro e w' ⟨rfl, u⟩
  exact ⟨rfl, gs.up u⟩

set_option maxHeartbeats 4000000 in
set_option maxRecDepth 10000 in
theorem one_gone (h : GS C base p F S w) (hL : S.L = none) (o : OP) {b : Nat} (ho : Ol w b [o]) :
    Calls Tryz.prog 9 #[.pointer (some ⟨p, 0, none⟩), .slice (some ⟨b, 0, none⟩) 1 1] w fun e w' => e = .returned (.tuple #[zerV.val, .int .i64 8]) ∧ Kept w w' := by
  obtain ⟨A, g, rfl⟩ := h.gr
  have HD : Hid (∀ W, Kept w W → Calls Tryz.prog 17 #[.pointer (some ⟨p, 0, none⟩), .int .i64 0, o.val, .bool false] W fun e w' => e = .returned (.tuple #[zerV.val, .int .i64 8]) ∧ Kept W w') := fun W q => do_gone (g.kept q) hL o
  have hcs : ∀ j u, (o.cs)[j]? = some u → w.cell? ⟨b, j, none⟩ = some u := fun j u e => by
    have := ho.2 0 (by simp) j u e
    simpa using this
  have HC : Hid (b < w.heap.size) := ho.1
  clear h g hL ho
  obtain ⟨ok, oa, ob, oc, on, ox, oy⟩ := o
  unfold OP.val V.val zerV at HD
  dsimp only at HD
  have a0 := hcs 0 _ rfl
  have a1 := hcs 1 _ rfl
  have a2 := hcs 2 _ rfl
  have a3 := hcs 3 _ rfl
  have a4 := hcs 4 _ rfl
  have a5 := hcs 5 _ rfl
  clear hcs
  go_enter Tryz.func9, Tryz.ntmps9
  go_wp2_with fail
  generalize hW1 : (w.alloc _).alloc _ = W1
  have k1 : Kept w W1 := by rw [← hW1]; exact ((Kept.refl w).alloc _ _).alloc _ _
  have K1 : Hid (Kept w W1) := k1
  have B0 : Hid (Blk W1 w.heap.size zerV.cs) := by rw [← hW1]; exact (Blk.new w zerV.cs _).kept ((Kept.refl _).alloc _ _)
  have B1 : Hid (Blk W1 (w.heap.size + 1) zerV.cs) := by
    have := Blk.new (w.alloc (.cells zerV.cs.toArray 34)) zerV.cs 34
    have z : (w.alloc (.cells zerV.cs.toArray 34)).heap.size = w.heap.size + 1 := by simp
    rw [z] at this
    rw [← hW1]
    exact this
  clear hW1
  replace a0 := (k1.cell (a := ⟨b, 0, none⟩) HC.out).trans a0
  replace a1 := (k1.cell (a := ⟨b, 1, none⟩) HC.out).trans a1
  replace a2 := (k1.cell (a := ⟨b, 2, none⟩) HC.out).trans a2
  replace a3 := (k1.cell (a := ⟨b, 3, none⟩) HC.out).trans a3
  replace a4 := (k1.cell (a := ⟨b, 4, none⟩) HC.out).trans a4
  replace a5 := (k1.cell (a := ⟨b, 5, none⟩) HC.out).trans a5
  clear k1
  refine wp_loop_rounds 2 ?_
  rw [rounds_succ]
  go_wp2_with fail
  refine (HD.out _ K1.out).mono ?_
  rintro e w2 ⟨rfl, k⟩
  have K2 : Hid (Kept w w2) := K1.out.trans k
  have C0 : Hid (Blk w2 w.heap.size zerV.cs) := B0.out.kept k
  have C1 : Hid (Blk w2 (w.heap.size + 1) zerV.cs) := B1.out.kept k
  clear k a0 a1 a2 a3 a4 a5 B0 B1 K1
  have f1 := C1.out.fz
  have y0 := C1.out.at 0 (v := .bool false) rfl
  have y1 := C1.out.at 1 (v := .complex .f64 0 0) rfl
  go_wp2_with fail
  generalize hW3 : (w2.setCell _ _).setCell _ _ = W3
  have hm : Mut [w.heap.size + 1] w2 W3 := by rw [← hW3]; exact ((Mut.refl _ _).setCell (by simp) _).setCell (by simp) _
  have D1 : Hid (Blk W3 (w.heap.size + 1) zerV.cs) := by rw [← hW3]; exact (C1.out.set (i := 0) rfl (.bool false)).set (i := 1) rfl (.complex .f64 0 0)
  have D0 : Hid (Blk W3 w.heap.size zerV.cs) := C0.out.muts hm (by simp)
  have K3 : Hid (Kept w W3) := K2.out.muts hm (fun k hk => by
    have e : k = w.heap.size + 1 := by simpa using hk
    omega)
  clear hm hW3 C0 C1 K2 f1 y0 y1
  rw [rounds_succ]
  have f0 := D0.out.fz
  have y0 := D0.out.at 0 (v := .bool false) rfl
  have y1 := D0.out.at 1 (v := .complex .f64 0 0) rfl
  have x0 := D1.out.at 0 (v := .bool false) rfl
  have x1 := D1.out.at 1 (v := .complex .f64 0 0) rfl
  go_wp2_with fail
  refine bodyPost_ret_by (results_blk_tmp rfl _ _ w.heap.size zerV.cs rfl ((D0.out.set (i := 0) rfl _).set (i := 1) rfl _) Tryz.underlying34 (by kernel_rfl)) rfl ?_
  exact ⟨rfl, (K3.out.setCell (by simp) _).setCell (by simp) _⟩
end
end Go.Proofs.YtbmcbkebcchjmaaGreatDoor
