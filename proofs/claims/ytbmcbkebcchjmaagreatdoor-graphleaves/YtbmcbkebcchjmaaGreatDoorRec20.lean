/-
  Package graph: what the locals and the globals refer to.
-/
import Derived.Test.YtbmcbkebcchjmaaGreatDoorReb20
namespace Go.Proofs.YtbmcbkebcchjmaaGreatDoor
open Go.RowKit Go.Maps Go.Sort
attribute [local go_sem] run_store_complex

section
variable {C : Cf} {base p : Nat} {F : List Nat} {A : Ga}
set_option maxHeartbeats 4000000 in
set_option maxRecDepth 10000 in
theorem roots_none {w : World} (h : GrA C w base p F A) (hL : A.L = none) (fg : Nat → Option Nat) (hfg : ∀ k (q : k < A.G.length), Kd A.G[k] (fg k)) (hG : A.G.length ≤ 1000) :
    Calls Tryz.prog 30 #[.pointer (some ⟨p, 0, none⟩)] w fun e w' => ∃ v, e = .returned v ∧ Lst w' w.heap.size v (idl fg A.G.length) ∧ Kept w w' := by
  obtain ⟨x, d, hgv⟩ := h.glo.form
  have HG : Hid (GrA C w base p F A) := h
  have c11 := h.at 11 (v := A.gv) rfl
  have HI : Hid (Calls Tryz.prog 48 #[A.gv] w fun e w' => ∃ v, e = .returned v ∧ Lst w' w.heap.size v (idl fg A.G.length) ∧ Kept w w') := by
    rw [hgv]
    exact identities_any fg hfg (Rdv.of (hgv ▸ h.glo)) hG
  have HM : Hid (∀ W, Kept w W → Mp W A.lb none) := fun W q => by
    have := h.loc
    rw [hL] at this
    exact this.kept q
  clear h hgv hfg hG hL
  generalize idl fg A.G.length = R at HI ⊢
  go_enter Tryz.func30, Tryz.ntmps30
  go_wp2_with fail
  refine HI.out.mono ?_
  rintro e w2 ⟨v, rfl, hl, hk⟩
  obtain ⟨y, d, rfl⟩ := hl.form
  have H2 : Hid (Lst w2 w.heap.size (.slice y R.length d) R ∧ Kept w w2) := ⟨hl, hk⟩
  have c10 := (HG.out.kept hk).at 10 (v := .map (some A.lb)) rfl
  have HK := keysL_any (some A.lb) w2
  have HS := sortedL_any A.lb _ _ _ w2 (HM.out w2 hk) (by decide)
  clear hl hk c11
  go_wp2_with fail
  refine HK.mono ?_
  rintro e w3 ⟨rfl, rfl⟩
  go_wp2_with fail
  refine HS.mono ?_
  rintro e w3 ⟨u, ss, rfl, hp, hl, hkk⟩
  have hss : ss.mergeSort leI = [] := by
    have e : ss = [] := List.perm_nil.1 hp
    rw [e]; exact List.mergeSort_nil
  rw [hss] at hl
  obtain ⟨y3, d3, rfl⟩ := hl.form
  have KX : Hid (Kept w2 w3) := ((Kept.refl _).alloc _ _).trans hkk
  have H3 : Hid (Lst w3 w.heap.size (.slice y R.length d) R ∧ Kept w w3) := ⟨H2.out.1.kept KX.out, H2.out.2.trans KX.out⟩
  clear HK HS hl hkk hp hss c10
  go_wp2_with fail
  refine wp_loop_rounds 1 ?_
  rw [rounds_succ]
  go_wp2
  go_ret
  exact ⟨_, rfl, H3.out⟩

set_option maxHeartbeats 4000000 in
set_option maxRecDepth 10000 in
theorem roots_some {w : World} (h : GrA C w base p F A) {vs : List V} (hL : A.L = some vs) (fg fl : Nat → Option Nat) (hfg : ∀ k (q : k < A.G.length), Kd A.G[k] (fg k)) (hG : A.G.length ≤ 1000) (hfl : ∀ k (q : k < vs.length), Kd vs[k] (fl k)) (hV : vs.length ≤ 1000) :
    Calls Tryz.prog 30 #[.pointer (some ⟨p, 0, none⟩)] w fun e w' => ∃ v, e = .returned v ∧ Lst w' w.heap.size v (idl fg A.G.length ++ idl fl vs.length) ∧ Kept w w' := by
  obtain ⟨x, d, hgv⟩ := h.glo.form
  obtain ⟨xl, dl, hlv⟩ := (h.lvs vs hL).form
  have HG : Hid (GrA C w base p F A) := h
  have c11 := h.at 11 (v := A.gv) rfl
  have HI : Hid (Calls Tryz.prog 48 #[A.gv] w fun e w' => ∃ v, e = .returned v ∧ Lst w' w.heap.size v (idl fg A.G.length) ∧ Kept w w') := by
    rw [hgv]
    exact identities_any fg hfg (Rdv.of (hgv ▸ h.glo)) hG
  have HJ : Hid (∀ W, Kept w W → Calls Tryz.prog 48 #[A.lv] W fun e w' => ∃ v, e = .returned v ∧ Lst w' W.heap.size v (idl fl vs.length) ∧ Kept W w') := fun W q => by
    have := (h.lvs vs hL).kept q
    rw [hlv] at this ⊢
    exact identities_any fl hfl (Rdv.of this) hV
  have HM : Hid (∀ W, Kept w W → Mp W A.lb (some (0, A.lv))) := fun W q => by
    have := h.loc
    rw [hL] at this
    exact this.kept q
  have HLn : Hid ((idl fg A.G.length).length ≤ 1000 ∧ (idl fl vs.length).length ≤ 1000) := ⟨Nat.le_trans (idl_len _ _) hG, Nat.le_trans (idl_len _ _) hV⟩
  clear h hgv hfg hG hL hfl hV
  rw [hlv] at HM HJ
  generalize vs.length = vl at *
  generalize idl fg A.G.length = R at HI HLn ⊢
  generalize idl fl vl = R2 at HJ HLn ⊢
  go_enter Tryz.func30, Tryz.ntmps30
  go_wp2_with fail
  refine HI.out.mono ?_
  rintro e w2 ⟨v, rfl, hl, hk⟩
  obtain ⟨y, d, rfl⟩ := hl.form
  have H2 : Hid (Lst w2 w.heap.size (.slice y R.length d) R ∧ Kept w w2) := ⟨hl, hk⟩
  have c10 := (HG.out.kept hk).at 10 (v := .map (some A.lb)) rfl
  have HK := keysL_any (some A.lb) w2
  have HS := sortedL_any A.lb _ _ _ w2 (HM.out w2 hk) (by rw [size_one]; decide)
  clear hl hk c11
  go_wp2_with fail
  refine HK.mono ?_
  rintro e w3 ⟨rfl, rfl⟩
  go_wp2_with fail
  refine HS.mono ?_
  rintro e w3 ⟨u, ss, rfl, hp, hl, hkk⟩
  have hss : ss.mergeSort leI = [0] := by
    rw [intKeys_one] at hp
    rw [List.perm_singleton.1 hp]
    exact List.mergeSort_singleton 0
  rw [hss] at hl
  obtain ⟨y3, d3, rfl⟩ := hl.form
  have KX : Hid (Kept w2 w3) := ((Kept.refl _).alloc _ _).trans hkk
  have H3 : Hid (Lst w3 w.heap.size (.slice y R.length d) R ∧ Kept w w3) := ⟨H2.out.1.kept KX.out, H2.out.2.trans KX.out⟩
  obtain ⟨gk, ok, ey, hgk, hck⟩ := hl.rdi (by simp)
  subst ey
  have ck : w3.cell? ⟨gk, ok, none⟩ = some (.int .i64 0) := hck 0 (by simp)
  clear HK HS hl hkk hp hss c10 hck
  have c10 := (HG.out.kept H3.out.2).at 10 (v := .map (some A.lb)) rfl
  have hlk := (Mp.hit (HM.out w3 H3.out.2) in0 Tryz.underlying57 (zeroSl w3)).2
  have HJ3 := HJ.out w3 H3.out.2
  go_wp2_with fail
  refine wp_loop_rounds 2 ?_
  rw [rounds_succ]
  go_wp2_with fail
  refine HJ3.mono ?_
  rintro e w4 ⟨u4, rfl, hl4, hk4⟩
  obtain ⟨y4, d4, rfl⟩ := hl4.form
  have H4 : Hid (Lst w4 w.heap.size (.slice y R.length d) R ∧ Kept w w4) := ⟨H3.out.1.kept hk4, H3.out.2.trans hk4⟩
  have z1 : w.heap.size ≤ w4.heap.size := H4.out.2.size
  have z2 : R.length + R2.length ≤ 1000000 := by have := HLn.out; omega
  have R4 : Hid (Rdi w4 y4 R2) := hl4.rdi
  clear HJ3 hl4 hk4 c10 hlk ck
  go_wp2_with (at_builtin; refine wpList_append_lst (T := R) (N := R2) rfl _ _ rfl rfl H4.out.1 z1 rfl rfl R4.out z2 ?_)
  intro v5 w5 l5 m5 f5
  have H5 : Hid (Lst w5 w.heap.size v5 (R ++ R2) ∧ Kept w w5) := ⟨l5, H4.out.2.muts m5 (fun q hq => (H4.out.1.lt q (by simpa using hq)).1)⟩
  obtain ⟨y5, d5, rfl⟩ := H5.out.1.form
  clear l5 m5 f5 z1 z2 R4
  go_wp2_with fail
  rw [rounds_succ]
  go_wp2
  go_ret
  exact ⟨_, rfl, H5.out⟩
end
end Go.Proofs.YtbmcbkebcchjmaaGreatDoor
