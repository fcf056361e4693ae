/-
  Contract of package plan's Array: what is written.
-/
import Derived.Test.YtpdclckgnajcdaaGreatPlan9
namespace Go.Proofs.YtpdclckgnajcdaaGreat
open Go.RowKit
attribute [local go_sem] run_store_complex

set_option maxRecDepth 10000 in
set_option maxHeartbeats 4000000 in
theorem array_yes (n0 n1 n2 n3 n4 n5 n6 n7 : Int) (sx : Option Addr) (sl sc : Nat) (S : Nat → Sh) (R : Nat → Nat → Bool) (kind n : Int) {x : Option Addr} {l c : Nat} {L : Nat → Int} (at' : Int)  (w : World) (hS : Shps w sx sl S) (hR : ∀ i, i < sl → Refs w (S i).x (S i).l (R i))
    (hl : (l : Int) ≤ 1000000) (hc : l ≤ c) (hx : Rdf w x l L) (hr : Asks (AG n0 n1 n2 n3 n4 n5 n6 n7 sl S L l) (AK sl S kind true) (AI S kind n true) (AF S kind n true L l) 0) (hF : modeA n L l = 1 → Fit n0 n1 at' (l + 1)) :
    Calls Tryz.prog 11 #[.agg #[.int .i64 n0, .int .i64 n1, .int .i64 n2, .int .i64 n3, .int .i64 n4, .int .i64 n5, .int .i64 n6, .int .i64 n7, .slice sx sl sc], .int .i64 kind, .int .i64 n, .slice x l c, .int .i64 at'] w fun e w' => ∃ v, e = .returned (.tuple #[v, .int .i64 0]) ∧ Ws w' w.heap.size v (8 * l + spN n L l) (arrF kind n (modeA n L l) (R kind.toNat) L l at') ∧ Kept w w' := by
  obtain ⟨hg, hk, hi, hf⟩ := hr.zero
  have hkn : kind.toNat < sl := by have := hk.1; have := hk.2.1; omega
  have hfl : (S kind.toNat).l = 1 := (may_len (hg.1.2.2.2 _ hkn)).2 hk.2.2
  have hsz := sizeU_hi true (S kind.toNat).l n (fun h => by cases h)
  have hl65 : l ≤ 65 := by have := hf.1; omega
  have hn5 : 0 ≤ n ∧ n ≤ 512 := by
    have := hi
    unfold AI at this
    simp only [sizeU, arrSize, if_true] at this
    split at this <;> omega
  have hl1 : (l : Int) = 1 + dat n := by
    have := hf.1
    simp only [sizeU, arrSize, if_true] at this
    rw [if_neg (by omega)] at this
    exact this
  have hdl := dat_lo n
  have hn0 : n0 ≤ 1024 := hg.1.1.1.2
  have hn00 : 4 ≤ n0 := hg.1.1.1.1
  have hn1 : 0 ≤ n1 ∧ n1 ≤ 2048 := hg.1.1.2.1
  have hkd : 0 ≤ kind ∧ kind ≤ 1000 := ⟨hk.1, by have := hk.2.1; have := hg.1.2.2.1; omega⟩
  have hL : ∀ j, j < l → 0 ≤ L j ∧ L j ≤ 1024 := fun j hj => by have := hg.2 j hj; omega
  obtain ⟨xb, xo, rfl, hxb, hxc⟩ := hx (by omega)
  have C0 : Hid (∀ w', Kept w w' → Calls Tryz.prog 30 #[.agg #[.int .i64 n0, .int .i64 n1, .int .i64 n2, .int .i64 n3, .int .i64 n4, .int .i64 n5, .int .i64 n6, .int .i64 n7, .slice sx sl sc], .int .i64 kind, .int .i64 n, .slice (some ⟨xb, xo, none⟩) l c, .bool true] w' _) := fun w' k => asked_any n0 n1 n2 n3 n4 n5 n6 n7 sx sl sc S R kind n (c := c) true 0 w' (hS.kept k) (fun i hi => (hR i hi).kept k) hl hc (hx.kept k) (fun h => by cases h) hr
  rw [hfl] at C0
  have CM : Hid (∀ w', Kept w w' → Calls Tryz.prog 34 #[.int .i64 n, .slice (some ⟨xb, xo, none⟩) l c] w' _) := fun w' k => arrayMode_any n (c := c) w' (by omega) (hx.kept k) hL
  have CS : Hid (∀ w', Kept w w' → 2 ≤ l → Calls Tryz.prog 35 #[.slice (some ⟨xb, xo, none⟩) l c] w' _) := fun w' k h2 => spineWords_any (c := c) w' h2 (by omega) hc ⟨Nat.lt_of_lt_of_le hxb k.size, fun j hj => (k.cell hxb).trans (hxc j hj)⟩ hL
  have CF : Hid (∀ w' (len : Nat) p, Kept w w' → len ≤ 1000 → (p = true ↔ len = 0 ∨ Fit n0 n1 at' len) → Calls Tryz.prog 36 #[.agg #[.int .i64 n0, .int .i64 n1, .int .i64 n2, .int .i64 n3, .int .i64 n4, .int .i64 n5, .int .i64 n6, .int .i64 n7, .slice sx sl sc], .int .i64 at', .int .i64 len] w' _) := fun w' len p k hlen hp => spineFits_any n0 n1 n2 n3 n4 n5 n6 n7 sx sl sc S at' len p w' (hS.kept k) hg.1 hlen hp
  have CB : Hid (∀ w' k, Kept w w' → k < l → Calls Tryz.prog 33 #[.agg #[.int .i64 n0, .int .i64 n1, .int .i64 n2, .int .i64 n3, .int .i64 n4, .int .i64 n5, .int .i64 n6, .int .i64 n7, .slice sx sl sc], .int .i64 (L k)] w' _) := fun w' k q hk => begin_any n0 n1 n2 n3 n4 n5 n6 n7 sx sl sc S (L k) w' (hS.kept q) hg.1 (hg.2 k hk).1 (hg.2 k hk).2
  have CD : Hid (∀ w' rg, Kept w w' → Refs w' (some ⟨rg, 0, none⟩) 1 (R kind.toNat) → Calls Tryz.prog 38 #[.agg #[.bool true, .slice (some ⟨rg, 0, none⟩) 1 1]] w' fun e w'' => e = .returned (.agg #[.complex .f64 ((fun _ => un (R kind.toNat 0)) 0).re ((fun _ => un (R kind.toNat 0)) 0).im, .complex .f64 ((fun _ => un (R kind.toNat 0)) 1).re ((fun _ => un (R kind.toNat 0)) 1).im, .complex .f64 ((fun _ => un (R kind.toNat 0)) 2).re ((fun _ => un (R kind.toNat 0)) 2).im, .complex .f64 ((fun _ => un (R kind.toNat 0)) 3).re ((fun _ => un (R kind.toNat 0)) 3).im, .complex .f64 ((fun _ => un (R kind.toNat 0)) 4).re ((fun _ => un (R kind.toNat 0)) 4).im, .complex .f64 ((fun _ => un (R kind.toNat 0)) 5).re ((fun _ => un (R kind.toNat 0)) 5).im, .complex .f64 ((fun _ => un (R kind.toNat 0)) 6).re ((fun _ => un (R kind.toNat 0)) 6).im, .complex .f64 ((fun _ => un (R kind.toNat 0)) 7).re ((fun _ => un (R kind.toNat 0)) 7).im]) ∧ Kept w' w'') := fun w' rg _ hr => dataWords_any rg (R kind.toNat) w' hr
  have hm3 : modeA n L l = 0 ∨ modeA n L l = 1 ∨ modeA n L l = 2 := by unfold modeA; split <;> (try split) <;> simp
  have hat : modeA n L l = 1 → 0 ≤ at' ∧ at' ≤ 1000000 := fun h => by rcases hF h with q | q <;> omega
  have h2 : modeA n L l = 1 → 2 ≤ l := fun h => by
    unfold modeA at h
    split at h
    · cases h
    · omega
  obtain ⟨mo, hmo⟩ : ∃ mo, modeA n L l = mo := ⟨_, rfl⟩
  obtain ⟨spn, hspn⟩ : ∃ spn, spN n L l = spn := ⟨_, rfl⟩
  have hsp : (mo = 1 → spn = l + 1) ∧ (mo ≠ 1 → spn = 0) := by
    rw [← hspn, ← hmo]
    unfold spN
    constructor
    · intro h; rw [if_pos h]
    · intro h; rw [if_neg h]
  have hspl : spn ≤ l + 1 := by
    by_cases h : mo = 1
    · rw [hsp.1 h]
      exact Nat.le_refl _
    · rw [hsp.2 h]
      omega
  rw [hmo] at CM hF hm3 hat h2
  have CW : Hid (∀ w', Kept w w' → Calls Tryz.prog 37 #[.int .i64 kind, .int .i64 n, .int .i64 mo, .slice (some ⟨xb, xo, none⟩) l c, .int .i64 at'] w' fun e w'' => e = .returned (.agg #[.complex .f64 ((sentW kind n mo L l at') 0).re ((sentW kind n mo L l at') 0).im, .complex .f64 ((sentW kind n mo L l at') 1).re ((sentW kind n mo L l at') 1).im, .complex .f64 ((sentW kind n mo L l at') 2).re ((sentW kind n mo L l at') 2).im, .complex .f64 ((sentW kind n mo L l at') 3).re ((sentW kind n mo L l at') 3).im, .complex .f64 ((sentW kind n mo L l at') 4).re ((sentW kind n mo L l at') 4).im, .complex .f64 ((sentW kind n mo L l at') 5).re ((sentW kind n mo L l at') 5).im, .complex .f64 ((sentW kind n mo L l at') 6).re ((sentW kind n mo L l at') 6).im, .complex .f64 ((sentW kind n mo L l at') 7).re ((sentW kind n mo L l at') 7).im]) ∧ Kept w' w'') := fun w' k => sentinelWords_any kind n mo (c := c) at' w' hkd (by omega) hm3 hat (hx.kept k) hL
  have HX : Hid (xb < w.heap.size ∧ ∀ j, j < l → w.cell? ⟨xb, xo + j, none⟩ = some (.int .i64 (L j))) := ⟨hxb, hxc⟩
  have HLL : Hid (∀ j, j < l → 0 ≤ L j ∧ L j ≤ 1024) := hL
  have HMO : Hid (modeA n L l = mo) := hmo
  have HSP : Hid (spN n L l = spn) := hspn
  have HAT : Hid (0 < spn → 0 ≤ at' ∧ at' ≤ 1000000) := fun h => hat (by
    by_cases q : mo = 1
    · exact q
    · have := hsp.2 q; omega)
  have HSS : Hid ((mo = 1 → spn = l + 1) ∧ (mo ≠ 1 → spn = 0)) := hsp
  have HFF : Hid (mo = 1 → Fit n0 n1 at' (l + 1)) := hF
  have H2 : Hid (mo = 1 → 2 ≤ l) := h2
  have hmk : ∀ (sn : Nat) w, sn ≤ 100 → (Instr.makeSlice 35 (.int .i64 0) (.int .i64 ((l : Int) * 8 + (sn : Int)))).run Tryz.prog w = .ok (.slice (some ⟨w.heap.size, 0, none⟩) 0 (l * 8 + sn)) (w.alloc (.cells (madeCells #[.int .i64 0, .complex .f64 0 0] ((l * 8 + sn) * 2)) 49)) := fun sn w h => by
    have := run_make_writes (l * 8 + sn) (by omega) w
    simpa using this
  have HMK : Hid _ := hmk
  have hl1' : 1 ≤ l := by omega
  clear hS hR hl hr hx hxb hxc hL hg hk hf hi hkd hsz hkn hmo hspn hsp hm3 hat h2 hF hl1 hfl hn1 hdl hmk
  go_enter Tryz.func11, Tryz.ntmps11
  go_wp2_with fail
  refine wp_scope_both 1 (fun a u => ∃ k : Nat, k < l ∧ ∃ (sb g rg sn sd : Nat) (sy : Option Addr), Hid (sn = spn ∧ Ar w u l sb g rg k sn sy (cl n0 n1 n2 n3 n4 n5 n6 n7 (.slice sx sl sc)) (R kind.toNat) (spW L l) (arrF kind n mo (R kind.toNat) L l at') (arrW kind n mo (R kind.toNat) L l at' k)) ∧ ∃ u0 u6 u7 u8 u9 u10 u11 u16 u19 u20 u21 u22 u23 u24 u25 u26 u27 u28 u29 u30 u31 u32 u33 u34 u35 u36 u37 u38 u39 u40 u41 u42 u43 u44 u45 u46 u47 u48 u49 u50 u51 u52 u53 u54 u55 u56 u57 u58 u59 u60 u61 u62 u63 u64 u65 u66 u67 u68 u69 u70 u71 u72 u73 u74 u75 u76 u77 : Value, a = { tmps := #[u0, .int .i64 kind, .int .i64 n, .slice (some ⟨xb, xo, none⟩) l c, .int .i64 at', .pointer (some ⟨w.heap.size, 0, none⟩), u6, u7, u8, u9, u10, u11, .slice (some ⟨g, 0, none⟩) (k * 8) (l * 8 + sn), .slice sy sn sd, .pointer (some ⟨w.heap.size + 1, 0, none⟩), .int .i64 k, u16, .pointer (some ⟨sb, 0, none⟩), .int .i64 0, u19, u20, u21, u22, u23, u24, u25, u26, u27, u28, u29, u30, u31, u32, u33, u34, u35, u36, u37, u38, u39, u40, u41, u42, u43, u44, u45, u46, u47, u48, u49, u50, u51, u52, u53, u54, u55, u56, u57, u58, u59, u60, u61, u62, u63, u64, u65, u66, u67, u68, u69, u70, u71, u72, u73, u74, u75, u76, u77], defers := [] }) (fun a _ => l - (intAt a 15).toNat) rfl ?_ ?_
  · rintro a u ⟨k, hkl, sb, g, rg, sn, sd, sy, HO0, u0, u6, u7, u8, u9, u10, u11, u16, u19, u20, u21, u22, u23, u24, u25, u26, u27, u28, u29, u30, u31, u32, u33, u34, u35, u36, u37, u38, u39, u40, u41, u42, u43, u44, u45, u46, u47, u48, u49, u50, u51, u52, u53, u54, u55, u56, u57, u58, u59, u60, u61, u62, u63, u64, u65, u66, u67, u68, u69, u70, u71, u72, u73, u74, u75, u76, u77, rfl⟩
    have HO : Hid (Ar w u l sb g rg k sn sy (cl n0 n1 n2 n3 n4 n5 n6 n7 (.slice sx sl sc)) (R kind.toNat) (spW L l) (arrF kind n mo (R kind.toNat) L l at') (arrW kind n mo (R kind.toNat) L l at' k)) := HO0.out.2
    have HSN : Hid (sn = spn) := HO0.out.1
    have hsn : sn ≤ 66 := by have := HSN.out; omega
    clear HO0
    have hci : (k : Int) < (l : Int) := by omega
    obtain ⟨W6, hW6⟩ : ∃ W6, W6 = u := ⟨_, rfl⟩
    obtain ⟨G, hG⟩ : ∃ G, G = (arrW kind n mo (R kind.toNat) L l at' k) := ⟨_, rfl⟩
    have HG : Hid (G = (arrW kind n mo (R kind.toNat) L l at' k)) := hG
    have HO6 : Hid (Ar w W6 l sb g rg k sn sy (cl n0 n1 n2 n3 n4 n5 n6 n7 (.slice sx sl sc)) (R kind.toNat) (spW L l) (arrF kind n mo (R kind.toNat) L l at') G) := by rw [hW6, hG]; exact HO.out
    rw [← hW6]
    clear hW6 hG HO
    go_upto_region 14 with fail
    refine wp_region_phase [(.slice (some ⟨g, 0, none⟩) (k * 8) (l * 8 + sn)), (.agg #[.int .i64 n0, .int .i64 n1, .int .i64 n2, .int .i64 n3, .int .i64 n4, .int .i64 n5, .int .i64 n6, .int .i64 n7, .slice sx sl sc]), (.slice (some ⟨xb, xo, none⟩) l c), (.int .i64 k), (.pointer (some ⟨xb, xo + k, none⟩)), (.int .i64 (L k)), (.int .i64 (L k * 8)), (.slice (some ⟨w.heap.size + 1, 0, none⟩) 8 8), (.slice (some ⟨g, 0, none⟩) (k * 8 + 8) (l * 8 + sn)), (.slice (some ⟨g, 0, none⟩) (k * 8 + 8) (l * 8 + sn))] [(12, 9), (55, 0), (56, 1), (57, 2), (58, 3), (59, 4), (60, 5), (61, 6), (62, 7), (63, 8)] [_, _, _, _, _, _, _, _, _, _, _, _, _, _, _, _, _, _, _, _, _, _, _, _, _, _, _, _, _, _, _, _, _, _, _, _, _, _, _, _, _, _, _, _, _, _, _, _, _, _, _, _, _, _, _, _, _, _, _, _, _, _, _, _, _, _, _, _, _, _, _, _, _, _, _, _, _, _] (fun d u => LJ W6 u w.heap.size g (l * 8 + sn) (k * 8) 8 (arrF kind n mo (R kind.toNat) L l at') (d 8) ∧ (d 9 = true → d 0 = true)) (by kernel_rfl) (by kernel_rfl) (by kernel_rfl) (by kernel_rfl) rfl ?_ ?_ ?_
    · exact ⟨⟨(Mut.refl _ _).drew, by simpa using HO6.out.ws.kept (Kept.refl _).drew⟩, by simp⟩
    · intro i o ho a d u hh hj hi hd
      match i, ho, hi, hd with
      | 0, ho, hi, hd =>
        simp only [List.getElem?_cons_zero, Option.some.injEq] at ho
        subst ho
        have g12 : a.tmps[12]? = some (.slice (some ⟨g, 0, none⟩) (k * 8) (l * 8 + sn)) := (hh.rest 12 fun i o hio hdst => by
            have e9 : i = 9 := slots_inj (of_decide_eq_true (by kernel_rfl)) hio (j := 9) rfl hdst rfl
            subst e9
            cases hq : d 9
            · rfl
            · exact absurd (hj.2 hq) (by simp [hi])).trans rfl
        clear hh hd
        have HN : Hid (LJ W6 u w.heap.size g (l * 8 + sn) (k * 8) 8 (arrF kind n mo (R kind.toNat) L l at') (done d 0 8) ∧ (done d 0 9 = true → done d 0 0 = true)) := ⟨hj.1.same (by simp [done]), by simp [done]⟩
        clear hj hi
        refine wpOp_step rfl (fun K hK => ?_)
        go_simp
        exact hK _ _ ⟨by simp [Act.put], HN.out⟩
      | 1, ho, hi, hd =>
        simp only [List.getElem?_cons_succ, List.getElem?_cons_zero, Option.some.injEq] at ho
        subst ho
        have g5 : a.tmps[5]? = some (.pointer (some ⟨w.heap.size, 0, none⟩)) := hh.old 5 (by kernel_rfl) rfl
        have B := HO6.out.cf.muts hj.1.mu (by have := HO6.out.g1; simp; omega)
        have c0 := B.at 0 rfl
        have c1 := B.at 1 rfl
        have c2 := B.at 2 rfl
        have c3 := B.at 3 rfl
        have c4 := B.at 4 rfl
        have c5 := B.at 5 rfl
        have c6 := B.at 6 rfl
        have c7 := B.at 7 rfl
        have c8 := B.at 8 rfl
        clear B
        clear hh hd
        have HN : Hid (LJ W6 u w.heap.size g (l * 8 + sn) (k * 8) 8 (arrF kind n mo (R kind.toNat) L l at') (done d 1 8) ∧ (done d 1 9 = true → done d 1 0 = true)) := ⟨hj.1.same (by simp [done]), by simpa [done] using hj.2⟩
        clear hj hi
        refine wpOp_step rfl (fun K hK => ?_)
        go_simp
        exact hK _ _ ⟨by simp [Act.put], HN.out⟩
      | 2, ho, hi, hd =>
        simp only [List.getElem?_cons_succ, List.getElem?_cons_zero, Option.some.injEq] at ho
        subst ho
        have g3 : a.tmps[3]? = some (.slice (some ⟨xb, xo, none⟩) l c) := hh.old 3 (by kernel_rfl) rfl
        clear hh hd
        have HN : Hid (LJ W6 u w.heap.size g (l * 8 + sn) (k * 8) 8 (arrF kind n mo (R kind.toNat) L l at') (done d 2 8) ∧ (done d 2 9 = true → done d 2 0 = true)) := ⟨hj.1.same (by simp [done]), by simpa [done] using hj.2⟩
        clear hj hi
        refine wpOp_step rfl (fun K hK => ?_)
        go_simp
        exact hK _ _ ⟨by simp [Act.put], HN.out⟩
      | 3, ho, hi, hd =>
        simp only [List.getElem?_cons_succ, List.getElem?_cons_zero, Option.some.injEq] at ho
        subst ho
        have g15 : a.tmps[15]? = some (.int .i64 k) := hh.old 15 (by kernel_rfl) rfl
        clear hh hd
        have HN : Hid (LJ W6 u w.heap.size g (l * 8 + sn) (k * 8) 8 (arrF kind n mo (R kind.toNat) L l at') (done d 3 8) ∧ (done d 3 9 = true → done d 3 0 = true)) := ⟨hj.1.same (by simp [done]), by simpa [done] using hj.2⟩
        clear hj hi
        refine wpOp_step rfl (fun K hK => ?_)
        go_simp
        exact hK _ _ ⟨by simp [Act.put], HN.out⟩
      | 4, ho, hi, hd =>
        simp only [List.getElem?_cons_succ, List.getElem?_cons_zero, Option.some.injEq] at ho
        subst ho
        have g57 : a.tmps[57]? = some (.slice (some ⟨xb, xo, none⟩) l c) := hh.did 2 _ 57 rfl rfl (hd { on := 2, ground := .data } (by simp) rfl)
        have g58 : a.tmps[58]? = some (.int .i64 k) := hh.did 3 _ 58 rfl rfl (hd { on := 3, ground := .data } (by simp) rfl)
        clear hh hd
        have HN : Hid (LJ W6 u w.heap.size g (l * 8 + sn) (k * 8) 8 (arrF kind n mo (R kind.toNat) L l at') (done d 4 8) ∧ (done d 4 9 = true → done d 4 0 = true)) := ⟨hj.1.same (by simp [done]), by simpa [done] using hj.2⟩
        clear hj hi
        refine wpOp_step rfl (fun K hK => ?_)
        go_simp
        exact hK _ _ ⟨by simp [Act.put], HN.out⟩
      | 5, ho, hi, hd =>
        simp only [List.getElem?_cons_succ, List.getElem?_cons_zero, Option.some.injEq] at ho
        subst ho
        have g59 : a.tmps[59]? = some (.pointer (some ⟨xb, xo + k, none⟩)) := hh.did 4 _ 59 rfl rfl (hd { on := 4, ground := .data } (by simp) rfl)
        have cc : u.cell? ⟨xb, xo + k, none⟩ = some (.int .i64 (L k)) := ((hj.1.mu.cell (by have := HX.out.1; have := HO6.out.kept.size; simp; omega) (by have := HX.out.1; have := HO6.out.g1; simp; omega)).trans (HO6.out.kept.cell HX.out.1)).trans (HX.out.2 k hkl)
        clear hh hd
        have HN : Hid (LJ W6 u w.heap.size g (l * 8 + sn) (k * 8) 8 (arrF kind n mo (R kind.toNat) L l at') (done d 5 8) ∧ (done d 5 9 = true → done d 5 0 = true)) := ⟨hj.1.same (by simp [done]), by simpa [done] using hj.2⟩
        clear hj hi
        refine wpOp_step rfl (fun K hK => ?_)
        go_simp
        exact hK _ _ ⟨by simp [Act.put], HN.out⟩
      | 6, ho, hi, hd =>
        simp only [List.getElem?_cons_succ, List.getElem?_cons_zero, Option.some.injEq] at ho
        subst ho
        have g56 : a.tmps[56]? = some (.agg #[.int .i64 n0, .int .i64 n1, .int .i64 n2, .int .i64 n3, .int .i64 n4, .int .i64 n5, .int .i64 n6, .int .i64 n7, .slice sx sl sc]) := hh.did 1 _ 56 rfl rfl (hd { on := 1, ground := .data } (by simp) rfl)
        have g60 : a.tmps[60]? = some (.int .i64 (L k)) := hh.did 5 _ 60 rfl rfl (hd { on := 5, ground := .data } (by simp) rfl)
        have CA := CB.out u k (HO6.out.kept.muts hj.1.mu (by have := HO6.out.g1; simp; omega)) hkl
        clear hh hd
        have HN : Hid (∀ u', Kept u u' → LJ W6 u' w.heap.size g (l * 8 + sn) (k * 8) 8 (arrF kind n mo (R kind.toNat) L l at') (done d 6 8) ∧ (done d 6 9 = true → done d 6 0 = true)) := fun u' q => ⟨hj.1.kept q (by simp [done]), by simpa [done] using hj.2⟩
        clear hj hi
        refine wpOp_step rfl (fun K hK => ?_)
        go_simp
        refine CA.mono ?_
        rintro e u' ⟨rfl, q⟩
        exact hK _ _ ⟨by simp [Act.put], HN.out u' q⟩
      | 7, ho, hi, hd =>
        simp only [List.getElem?_cons_succ, List.getElem?_cons_zero, Option.some.injEq] at ho
        subst ho
        have g14 : a.tmps[14]? = some (.pointer (some ⟨w.heap.size + 1, 0, none⟩)) := hh.old 14 (by kernel_rfl) rfl
        clear hh hd
        have HN : Hid (LJ W6 u w.heap.size g (l * 8 + sn) (k * 8) 8 (arrF kind n mo (R kind.toNat) L l at') (done d 7 8) ∧ (done d 7 9 = true → done d 7 0 = true)) := ⟨hj.1.same (by simp [done]), by simpa [done] using hj.2⟩
        clear hj hi
        refine wpOp_step rfl (fun K hK => ?_)
        go_simp
        exact hK _ _ ⟨by simp [Act.put], HN.out⟩
      | 8, ho, hi, hd =>
        simp only [List.getElem?_cons_succ, List.getElem?_cons_zero, Option.some.injEq] at ho
        subst ho
        have g55 : a.tmps[55]? = some (.slice (some ⟨g, 0, none⟩) (k * 8) (l * 8 + sn)) := hh.did 0 _ 55 rfl rfl (hd { on := 0, ground := .data } (by simp) rfl)
        have g61 : a.tmps[61]? = some (.int .i64 (L k * 8)) := hh.did 6 _ 61 rfl rfl (hd { on := 6, ground := .data } (by simp) rfl)
        have g62 : a.tmps[62]? = some (.slice (some ⟨w.heap.size + 1, 0, none⟩) 8 8) := hh.did 7 _ 62 rfl rfl (hd { on := 7, ground := .data } (by simp) rfl)
        have hws := hj.1.ws
        rw [hi] at hws
        simp only [Bool.false_eq_true, if_false] at hws
        have CA := lay_room (m := 8) (d := 8) (L k * 8) u hws (by omega) (by omega) (fun _ => by have := HLL.out k hkl; omega) (y := some ⟨w.heap.size + 1, 0, none⟩) (Z := G) (fun _ => ⟨w.heap.size + 1, 0, rfl, Nat.lt_of_lt_of_le HO6.out.fill.lt hj.1.mu.size, fun j hj8 => by
          rw [Nat.zero_add]
          exact (HO6.out.fill.muts hj.1.mu (by have := HO6.out.g1; simp; omega)).at j (eight_get _ hj8)⟩) (fun b o e => by have := HO6.out.g1; simp at e; omega) (fun j hj8 => by
          rw [HG.out]
          have e0 : k * 8 + j < l * 8 := by omega
          have e1 : (k * 8 + j) / 8 = k := by omega
          have e2 : (k * 8 + j) % 8 = j := by omega
          simp only [arrF, e1, e2, if_pos e0])
        clear hws
        clear hh hd
        have HN : Hid (∀ u', Ws u' w.heap.size (.slice (some ⟨g, 0, none⟩) (k * 8 + 8) (l * 8 + sn)) (k * 8 + 8) (arrF kind n mo (R kind.toNat) L l at') → Mut [g] u u' → LJ W6 u' w.heap.size g (l * 8 + sn) (k * 8) 8 (arrF kind n mo (R kind.toNat) L l at') (done d 8 8) ∧ (done d 8 9 = true → done d 8 0 = true)) := fun u' a b => ⟨⟨hj.1.mu.trans b, by simpa [done] using a⟩, by simpa [done] using hj.2⟩
        clear hj hi
        refine wpOp_step rfl (fun K hK => ?_)
        go_simp
        refine CA.mono ?_
        rintro e u' ⟨rfl, a, b⟩
        exact hK _ _ ⟨by simp [Act.put], HN.out u' a b⟩
      | 9, ho, hi, hd =>
        simp only [List.getElem?_cons_succ, List.getElem?_cons_zero, Option.some.injEq] at ho
        subst ho
        have g63 : a.tmps[63]? = some (.slice (some ⟨g, 0, none⟩) (k * 8 + 8) (l * 8 + sn)) := hh.did 8 _ 63 rfl rfl (hd { on := 8, ground := .data } (by simp) rfl)
        have d0 : d 0 = true := hd { on := 0, ground := .phase } (by simp) rfl
        clear hh hd
        have HN : Hid (LJ W6 u w.heap.size g (l * 8 + sn) (k * 8) 8 (arrF kind n mo (R kind.toNat) L l at') (done d 9 8) ∧ (done d 9 9 = true → done d 9 0 = true)) := ⟨hj.1.same (by simp [done]), by simp [done, d0]⟩
        clear hj hi d0
        refine wpOp_step rfl (fun K hK => ?_)
        go_simp
        exact hK _ _ ⟨by simp [Act.put], HN.out⟩
      | n + 10, ho, hi, hd => simp at ho
    · intro u d hall hj
      have HO7 : Hid (Ar w u l sb g rg (k + 1) sn sy (cl n0 n1 n2 n3 n4 n5 n6 n7 (.slice sx sl sc)) (R kind.toNat) (spW L l) (arrF kind n mo (R kind.toNat) L l at') G) := by
        refine HO6.out.laid hj.1.mu ?_
        have := hj.1.ws
        rw [hall 8 (by simp)] at this
        simpa using this
      clear hall hj HO6
      simp only [List.getD_cons_succ, List.getD_cons_zero]
      by_cases hk1 : k + 1 < l
      · have hk2 : (k : Int) + 1 < (l : Int) := by omega
        go_upto_region 17 with fail
        refine wp_region_row [(.agg #[.bool true, .slice (some ⟨rg, 0, none⟩) 1 1]), (.agg #[.complex .f64 ((fun _ => un (R kind.toNat 0)) 0).re ((fun _ => un (R kind.toNat 0)) 0).im, .complex .f64 ((fun _ => un (R kind.toNat 0)) 1).re ((fun _ => un (R kind.toNat 0)) 1).im, .complex .f64 ((fun _ => un (R kind.toNat 0)) 2).re ((fun _ => un (R kind.toNat 0)) 2).im, .complex .f64 ((fun _ => un (R kind.toNat 0)) 3).re ((fun _ => un (R kind.toNat 0)) 3).im, .complex .f64 ((fun _ => un (R kind.toNat 0)) 4).re ((fun _ => un (R kind.toNat 0)) 4).im, .complex .f64 ((fun _ => un (R kind.toNat 0)) 5).re ((fun _ => un (R kind.toNat 0)) 5).im, .complex .f64 ((fun _ => un (R kind.toNat 0)) 6).re ((fun _ => un (R kind.toNat 0)) 6).im, .complex .f64 ((fun _ => un (R kind.toNat 0)) 7).re ((fun _ => un (R kind.toNat 0)) 7).im]), (undef)] [(70, 0), (71, 1)] [_, _, _, _, _, _, _, _, _, _, _, _, _, _, _, _, _, _, _, _, _, _, _, _, _, _, _, _, _, _, _, _, _, _, _, _, _, _, _, _, _, _, _, _, _, _, _, _, _, _, _, _, _, _, _, _, _, _, _, _, _, _, _, _, _, _, _, _, _, _, _, _, _, _, _, _, _, _] (fun i u => match i with | 0 => Ar w u l sb g rg (k + 1) sn sy (cl n0 n1 n2 n3 n4 n5 n6 n7 (.slice sx sl sc)) (R kind.toNat) (spW L l) (arrF kind n mo (R kind.toNat) L l at') G | 1 => Ar w u l sb g rg (k + 1) sn sy (cl n0 n1 n2 n3 n4 n5 n6 n7 (.slice sx sl sc)) (R kind.toNat) (spW L l) (arrF kind n mo (R kind.toNat) L l at') G | 2 => Ar w u l sb g rg (k + 1) sn sy (cl n0 n1 n2 n3 n4 n5 n6 n7 (.slice sx sl sc)) (R kind.toNat) (spW L l) (arrF kind n mo (R kind.toNat) L l at') G | _ => Ar w u l sb g rg (k + 1) sn sy (cl n0 n1 n2 n3 n4 n5 n6 n7 (.slice sx sl sc)) (R kind.toNat) (spW L l) (arrF kind n mo (R kind.toNat) L l at') (fun _ => un (R kind.toNat 0))) (by kernel_rfl) (by kernel_rfl) rfl HO7.out ?_ ?_
        · intro i o ho a u hh hj
          match i, ho, hh, hj with
          | 0, ho, hh, hj =>
            simp only [List.getElem?_cons_zero, Option.some.injEq] at ho
            subst ho
            have hj0 : Ar w u l sb g rg (k + 1) sn sy (cl n0 n1 n2 n3 n4 n5 n6 n7 (.slice sx sl sc)) (R kind.toNat) (spW L l) (arrF kind n mo (R kind.toNat) L l at') G := hj
            have g17 : a.tmps[17]? = some (.pointer (some ⟨sb, 0, none⟩)) := hh.old 17 (by kernel_rfl) rfl
            have s0 := hj0.sh.at 0 rfl
            have s1 := hj0.sh.at 1 rfl
            clear hh hj
            have HN : Hid (Ar w u l sb g rg (k + 1) sn sy (cl n0 n1 n2 n3 n4 n5 n6 n7 (.slice sx sl sc)) (R kind.toNat) (spW L l) (arrF kind n mo (R kind.toNat) L l at') G) := hj0
            clear hj0
            refine wpOp_step rfl (fun K hK => ?_)
            go_simp
            exact hK _ _ ⟨by simp [Act.put], HN.out⟩
          | 1, ho, hh, hj =>
            simp only [List.getElem?_cons_succ, List.getElem?_cons_zero, Option.some.injEq] at ho
            subst ho
            have hj0 : Ar w u l sb g rg (k + 1) sn sy (cl n0 n1 n2 n3 n4 n5 n6 n7 (.slice sx sl sc)) (R kind.toNat) (spW L l) (arrF kind n mo (R kind.toNat) L l at') G := hj
            have g70 : a.tmps[70]? = some (.agg #[.bool true, .slice (some ⟨rg, 0, none⟩) 1 1]) := hh.did 0 _ 70 rfl rfl rfl
            have CA := CD.out u rg hj0.kept hj0.refs
            clear hh hj
            have HN : Hid (∀ u', Kept u u' → Ar w u' l sb g rg (k + 1) sn sy (cl n0 n1 n2 n3 n4 n5 n6 n7 (.slice sx sl sc)) (R kind.toNat) (spW L l) (arrF kind n mo (R kind.toNat) L l at') G) := fun u' q => hj0.still q
            clear hj0
            refine wpOp_step rfl (fun K hK => ?_)
            go_simp
            refine CA.mono ?_
            rintro e u' ⟨rfl, q⟩
            exact hK _ _ ⟨by simp [Act.put], HN.out u' q⟩
          | 2, ho, hh, hj =>
            simp only [List.getElem?_cons_succ, List.getElem?_cons_zero, Option.some.injEq] at ho
            subst ho
            have hj0 : Ar w u l sb g rg (k + 1) sn sy (cl n0 n1 n2 n3 n4 n5 n6 n7 (.slice sx sl sc)) (R kind.toNat) (spW L l) (arrF kind n mo (R kind.toNat) L l at') G := hj
            have g14 : a.tmps[14]? = some (.pointer (some ⟨w.heap.size + 1, 0, none⟩)) := hh.old 14 (by kernel_rfl) rfl
            have g71 : a.tmps[71]? = some (.agg #[.complex .f64 ((fun _ => un (R kind.toNat 0)) 0).re ((fun _ => un (R kind.toNat 0)) 0).im, .complex .f64 ((fun _ => un (R kind.toNat 0)) 1).re ((fun _ => un (R kind.toNat 0)) 1).im, .complex .f64 ((fun _ => un (R kind.toNat 0)) 2).re ((fun _ => un (R kind.toNat 0)) 2).im, .complex .f64 ((fun _ => un (R kind.toNat 0)) 3).re ((fun _ => un (R kind.toNat 0)) 3).im, .complex .f64 ((fun _ => un (R kind.toNat 0)) 4).re ((fun _ => un (R kind.toNat 0)) 4).im, .complex .f64 ((fun _ => un (R kind.toNat 0)) 5).re ((fun _ => un (R kind.toNat 0)) 5).im, .complex .f64 ((fun _ => un (R kind.toNat 0)) 6).re ((fun _ => un (R kind.toNat 0)) 6).im, .complex .f64 ((fun _ => un (R kind.toNat 0)) 7).re ((fun _ => un (R kind.toNat 0)) 7).im]) := hh.did 1 _ 71 rfl rfl rfl
            have q0 := hj0.fill.at 0 rfl
            have q1 := hj0.fill.at 1 rfl
            have q2 := hj0.fill.at 2 rfl
            have q3 := hj0.fill.at 3 rfl
            have q4 := hj0.fill.at 4 rfl
            have q5 := hj0.fill.at 5 rfl
            have q6 := hj0.fill.at 6 rfl
            have q7 := hj0.fill.at 7 rfl
            have fz := hj0.fill.fz
            clear hh hj
            have HN : Hid (Ar w u l sb g rg (k + 1) sn sy (cl n0 n1 n2 n3 n4 n5 n6 n7 (.slice sx sl sc)) (R kind.toNat) (spW L l) (arrF kind n mo (R kind.toNat) L l at') G) := hj0
            clear hj0
            refine wpOp_step rfl (fun K hK => ?_)
            go_simp
            exact hK _ _ ⟨by simp [Act.put], HN.out.filled (((((((((Mut.refl _ _).setCell (by simp) _).setCell (by simp) _).setCell (by simp) _).setCell (by simp) _).setCell (by simp) _).setCell (by simp) _).setCell (by simp) _).setCell (by simp) _) (((((((((HN.out.fill.set (i := 0) rfl _).set (i := 1) rfl _).set (i := 2) rfl _).set (i := 3) rfl _).set (i := 4) rfl _).set (i := 5) rfl _).set (i := 6) rfl _).set (i := 7) rfl _))⟩
          | n + 3, ho, _, _ => simp at ho
        · intro u hj
          have hj0 : Ar w u l sb g rg (k + 1) sn sy (cl n0 n1 n2 n3 n4 n5 n6 n7 (.slice sx sl sc)) (R kind.toNat) (spW L l) (arrF kind n mo (R kind.toNat) L l at') (fun _ => un (R kind.toNat 0)) := hj
          have HO9 : Hid (Ar w u l sb g rg (k + 1) sn sy (cl n0 n1 n2 n3 n4 n5 n6 n7 (.slice sx sl sc)) (R kind.toNat) (spW L l) (arrF kind n mo (R kind.toNat) L l at') (fun _ => un (R kind.toNat 0))) := hj0
          clear hj hj0 HO7
          simp only [List.getD_cons_succ, List.getD_cons_zero]
          go_wp2
          go_step3
          rw [show k * 8 + 8 = (k + 1) * 8 by omega]
          refine ⟨rfl, ⟨k + 1, hk1, sb, g, rg, sn, sd, sy, ⟨HSN.out, HO9.out⟩, _, _, _, _, _, _, _, _, _, _, _, _, _, _, _, _, _, _, _, _, _, _, _, _, _, _, _, _, _, _, _, _, _, _, _, _, _, _, _, _, _, _, _, _, _, _, _, _, _, _, _, _, _, _, _, _, _, _, _, _, _, _, _, _, _, _, _, rfl⟩, ?_⟩
          simp [intAt]
          omega
      · have hk2 : ¬ (k : Int) + 1 < (l : Int) := by omega
        have HE : Hid (k + 1 = l) := by exact (by omega : k + 1 = l)
        have e8 : k * 8 + 8 = l * 8 := by omega
        have HW8 : Hid (Ws u w.heap.size (.slice (some ⟨g, 0, none⟩) (l * 8) (l * 8 + sn)) (l * 8) (arrF kind n mo (R kind.toNat) L l at')) := by
          have h7 := HO7.out.ws
          rw [HE.out] at h7
          exact h7
        rw [e8]
        clear e8
        have CA : Hid (Calls Tryz.prog 32 #[.slice (some ⟨g, 0, none⟩) (l * 8) (l * 8 + sn), .int .i64 at', .slice sy sn sd] u _) := lay_room (d := sd) at' u HW8.out (by omega) (by omega) (fun h0 => HAT.out (by have := HSN.out; omega)) HO7.out.sp (fun b o e => (HO7.out.gp b o e).1) (fun j hj => by
          have e0 : ¬ l * 8 + j < l * 8 := by omega
          have e1 : l * 8 + j - l * 8 = j := by omega
          simp only [arrF, if_neg e0, e1])
        go_wp2_with fail
        refine CA.out.mono ?_
        rintro e u3 ⟨rfl, h3, m3⟩
        have HK3 : Hid (Kept w u3 ∧ Ws u3 w.heap.size (.slice (some ⟨g, 0, none⟩) (l * 8 + sn) (l * 8 + sn)) (l * 8 + sn) (arrF kind n mo (R kind.toNat) L l at')) := ⟨HO7.out.kept.muts m3 (by have := HO7.out.g1; simp; omega), h3⟩
        clear h3 m3 CA
        go_wp2
        go_step3
        go_wp2
        simp only [Exit.jump]
        go_ret2
        refine ⟨_, rfl, ?_, HK3.out.1⟩
        have h9 := HK3.out.2
        have e9 : l * 8 + sn = 8 * l + spN n L l := by
          have := HSN.out
          have := HSP.out
          omega
        rw [HMO.out]
        rw [e9] at h9 ⊢
        exact h9
  · intro pass
    go_wp2_with fail
    generalize hW0 : w.alloc _ = W0
    have z0 : W0.heap.size = w.heap.size + 1 := by rw [← hW0]; simp
    have b0 : Blk W0 w.heap.size (cl n0 n1 n2 n3 n4 n5 n6 n7 (.slice sx sl sc)) := by rw [← hW0]; exact Blk.new w _ _
    have k0 : Kept w W0 := by rw [← hW0]; exact (Kept.refl w).alloc _ _
    clear hW0
    generalize hW1 : W0.alloc _ = W1
    have b1 : Blk W1 (w.heap.size + 1) (eight fun _ => cz) := by rw [← hW1, ← z0]; exact Blk.new W0 (eight fun _ => cz) _
    have k1 : Kept W0 W1 := by rw [← hW1]; exact (Kept.refl W0).alloc _ _
    have HW : Hid (Kept w W1 ∧ Blk W1 w.heap.size (cl n0 n1 n2 n3 n4 n5 n6 n7 (.slice sx sl sc)) ∧ Blk W1 (w.heap.size + 1) (eight fun _ => cz)) := ⟨k0.trans k1, b0.kept k1, b1⟩
    clear hW1 z0 b0 b1 k0 k1
    refine (C0.out _ HW.out.1).mono ?_
    rintro e w2 ⟨h | h, K⟩
    · exact absurd rfl h.1
    obtain ⟨_, rg, rfl, hrg, hRf⟩ := h
    have HW2 : Hid (Kept w w2 ∧ Blk w2 w.heap.size (cl n0 n1 n2 n3 n4 n5 n6 n7 (.slice sx sl sc)) ∧ Blk w2 (w.heap.size + 1) (eight fun _ => cz) ∧ w.heap.size + 1 < rg ∧ Refs w2 (some ⟨rg, 0, none⟩) 1 (R kind.toNat)) := by
      refine ⟨HW.out.1.trans K, HW.out.2.1.kept K, HW.out.2.2.kept K, ?_, hRf⟩
      have := HW.out.2.2.lt
      omega
    clear K hrg hRf HW C0
    go_wp2_with fail
    generalize hW3 : w2.alloc _ = W3
    have z3 : W3.heap.size = w2.heap.size + 1 := by rw [← hW3]; simp
    have k3 : Kept w2 W3 := by rw [← hW3]; exact (Kept.refl w2).alloc _ _
    have b3 : Blk W3 w2.heap.size [.bool true, .slice (some ⟨rg, 0, none⟩) 1 1] := by rw [← hW3]; exact Blk.new w2 [_, _] _
    have HW3 : Hid (Kept w W3 ∧ Blk W3 w.heap.size (cl n0 n1 n2 n3 n4 n5 n6 n7 (.slice sx sl sc)) ∧ Blk W3 (w.heap.size + 1) (eight fun _ => cz) ∧ w.heap.size + 1 < rg ∧ Refs W3 (some ⟨rg, 0, none⟩) 1 (R kind.toNat) ∧ Blk W3 w2.heap.size [.bool true, .slice (some ⟨rg, 0, none⟩) 1 1]) :=
      ⟨HW2.out.1.trans k3, HW2.out.2.1.kept k3, HW2.out.2.2.1.kept k3, HW2.out.2.2.2.1, HW2.out.2.2.2.2.kept k3, b3⟩
    have HZ : Hid (w.heap.size + 1 < w2.heap.size) := HW2.out.2.2.1.lt
    clear hW3 z3 k3 b3 HW2
    refine (CM.out _ HW3.out.1).mono ?_
    rintro e w4 ⟨rfl, K⟩
    have HW4 : Hid (Kept w w4 ∧ Blk w4 w.heap.size (cl n0 n1 n2 n3 n4 n5 n6 n7 (.slice sx sl sc)) ∧ Blk w4 (w.heap.size + 1) (eight fun _ => cz) ∧ w.heap.size + 1 < rg ∧ Refs w4 (some ⟨rg, 0, none⟩) 1 (R kind.toNat) ∧ Blk w4 w2.heap.size [.bool true, .slice (some ⟨rg, 0, none⟩) 1 1]) :=
      ⟨HW3.out.1.trans K, HW3.out.2.1.kept K, HW3.out.2.2.1.kept K, HW3.out.2.2.2.1, HW3.out.2.2.2.2.1.kept K, HW3.out.2.2.2.2.2.kept K⟩
    clear K HW3 CM
    by_cases hm1 : mo = 1
    · have HM1 : Hid (mo = 1) := hm1
      have h2 := H2.out hm1
      have HMO1 : Hid (mo = 1) := hm1
      clear hm1
      have em : (mo == 1) = true := by rw [HMO1.out]; rfl
      go_wp2_with fail
      refine (CS.out _ HW4.out.1 h2).mono ?_
      rintro e w5 ⟨v, rfl, hz, K⟩
      obtain ⟨sy, sd, rfl⟩ := hz.form
      have HS4 : Hid (w2.heap.size < w4.heap.size) := HW4.out.2.2.2.2.2.lt
      have HW5 : Hid (Kept w w5 ∧ Blk w5 w.heap.size (cl n0 n1 n2 n3 n4 n5 n6 n7 (.slice sx sl sc)) ∧ Blk w5 (w.heap.size + 1) (eight fun _ => cz) ∧ w.heap.size + 1 < rg ∧ Refs w5 (some ⟨rg, 0, none⟩) 1 (R kind.toNat) ∧ Blk w5 w2.heap.size [.bool true, .slice (some ⟨rg, 0, none⟩) 1 1] ∧ Zs w5 w4.heap.size (.slice sy (l + 1) sd) (l + 1) (spW L l)) := ⟨HW4.out.1.trans K, HW4.out.2.1.kept K, HW4.out.2.2.1.kept K, HW4.out.2.2.2.1, HW4.out.2.2.2.2.1.kept K, HW4.out.2.2.2.2.2.kept K, hz⟩
      clear hz K HW4 CS
      obtain ⟨sn, hsn⟩ : ∃ sn, l + 1 = sn := ⟨_, rfl⟩
      rw [hsn] at HW5 ⊢
      have HSN : Hid (l + 1 = sn) := hsn
      clear hsn
      have c0 := HW5.out.2.1.at 0 rfl
      have c1 := HW5.out.2.1.at 1 rfl
      have c2 := HW5.out.2.1.at 2 rfl
      have c3 := HW5.out.2.1.at 3 rfl
      have c4 := HW5.out.2.1.at 4 rfl
      have c5 := HW5.out.2.1.at 5 rfl
      have c6 := HW5.out.2.1.at 6 rfl
      have c7 := HW5.out.2.1.at 7 rfl
      have c8 := HW5.out.2.1.at 8 rfl
      have CF2 : Hid (∀ w', Kept w w' → Calls Tryz.prog 36 #[.agg #[.int .i64 n0, .int .i64 n1, .int .i64 n2, .int .i64 n3, .int .i64 n4, .int .i64 n5, .int .i64 n6, .int .i64 n7, .slice sx sl sc], .int .i64 at', .int .i64 sn] w' fun e w'' => e = .returned (.bool true) ∧ Kept w' w'') := fun w' k => CF.out w' sn true k (by have := HSN.out; omega) (by
        have h1 := HSN.out
        have h3 := HFF.out HM1.out
        subst h1
        exact ⟨fun _ => .inr (by simpa using h3), fun _ => rfl⟩)
      clear CF
      go_wp2_with fail
      refine (CF2.out _ HW5.out.1).mono ?_
      rintro e w6 ⟨rfl, K⟩
      have HW6 : Hid (Kept w w6 ∧ Blk w6 w.heap.size (cl n0 n1 n2 n3 n4 n5 n6 n7 (.slice sx sl sc)) ∧ Blk w6 (w.heap.size + 1) (eight fun _ => cz) ∧ w.heap.size + 1 < rg ∧ Refs w6 (some ⟨rg, 0, none⟩) 1 (R kind.toNat) ∧ Blk w6 w2.heap.size [.bool true, .slice (some ⟨rg, 0, none⟩) 1 1] ∧ Rdz w6 sy sn (spW L l) ∧ ∀ b o, sy = some ⟨b, o, none⟩ → b ≠ w6.heap.size ∧ b ≠ w.heap.size + 1) := by
        have h := HW5.out
        refine ⟨h.1.trans K, h.2.1.kept K, h.2.2.1.kept K, h.2.2.2.1, h.2.2.2.2.1.kept K, h.2.2.2.2.2.1.kept K, h.2.2.2.2.2.2.rd.kept K, fun b o e => ?_⟩
        have := h.2.2.2.2.2.2.lt b (by rw [e]; rfl)
        have hk := K.size
        have hz := HZ.out
        have h4 := HS4.out
        omega
      have hmk := fun w => HMK.out sn w (by have := HSN.out; omega)
      have hsn66 : sn ≤ 66 := by have := HSN.out; omega
      clear K HW5 c0 c1 c2 c3 c4 c5 c6 c7 c8 CF2
      go_upto_region 13 with fail
      generalize hW7 : w6.alloc _ = W7
      have z7 : w6.heap.size ≤ W7.heap.size := by rw [← hW7]; simp
      have k7 : Kept w6 W7 := by rw [← hW7]; exact (Kept.refl w6).alloc _ _
      have ws7 : Ws W7 w.heap.size (.slice (some ⟨w6.heap.size, 0, none⟩) 0 (l * 8 + sn)) 0 (arrF kind n mo (R kind.toNat) L l at') := by rw [← hW7]; exact ws_made w6 w.heap.size (l * 8 + sn) _ HW6.out.1.size (by omega)
      have HW7 : Hid (Kept w W7 ∧ Blk W7 w.heap.size (cl n0 n1 n2 n3 n4 n5 n6 n7 (.slice sx sl sc)) ∧ Blk W7 (w.heap.size + 1) (eight fun _ => cz) ∧ w.heap.size + 1 < rg ∧ Refs W7 (some ⟨rg, 0, none⟩) 1 (R kind.toNat) ∧ Blk W7 w2.heap.size [.bool true, .slice (some ⟨rg, 0, none⟩) 1 1] ∧ Rdz W7 (sy) sn (spW L l) ∧ (∀ b o, sy = some ⟨b, o, none⟩ → b ≠ w6.heap.size ∧ b ≠ w.heap.size + 1) ∧ Ws W7 w.heap.size (.slice (some ⟨w6.heap.size, 0, none⟩) 0 (l * 8 + sn)) 0 (arrF kind n mo (R kind.toNat) L l at')) := ⟨HW6.out.1.trans k7, HW6.out.2.1.kept k7, HW6.out.2.2.1.kept k7, HW6.out.2.2.2.1, HW6.out.2.2.2.2.1.kept k7, HW6.out.2.2.2.2.2.1.kept k7, HW6.out.2.2.2.2.2.2.1.kept k7, HW6.out.2.2.2.2.2.2.2, ws7⟩
      have HZ7 : Hid (w2.heap.size < w6.heap.size ∧ rg < w6.heap.size) := by
        refine ⟨HW6.out.2.2.2.2.2.1.lt, ?_⟩
        obtain ⟨b, o, e, hb, _⟩ := HW6.out.2.2.2.2.1 (by omega)
        obtain ⟨rfl, _⟩ : rg = b ∧ 0 = o := by simpa using e
        exact hb
      clear hW7 z7 k7 ws7 HW6
      have HO : Hid (Ar w W7 l w2.heap.size w6.heap.size rg 0 sn (sy) (cl n0 n1 n2 n3 n4 n5 n6 n7 (.slice sx sl sc)) (R kind.toNat) (spW L l) (arrF kind n mo (R kind.toNat) L l at') (fun _ => cz)) := by
        have h := HW7.out
        have hz := HZ7.out
        have hz0 := HZ.out
        refine ⟨h.1, h.2.1, h.2.2.1, h.2.2.2.2.2.1, h.2.2.2.2.1, ?_, h.2.2.2.2.2.2.1, hz0, h.2.2.2.1, by omega, by omega, by omega, h.2.2.2.2.2.2.2.1⟩
        have := h.2.2.2.2.2.2.2.2
        simpa using this
      clear HW7
      refine wp_region_row [(.int .i64 kind), (.int .i64 n), (.int .i64 mo), (.slice (some ⟨xb, xo, none⟩) l c), (.int .i64 at'), (.agg #[.complex .f64 ((sentW kind n mo L l at') 0).re ((sentW kind n mo L l at') 0).im, .complex .f64 ((sentW kind n mo L l at') 1).re ((sentW kind n mo L l at') 1).im, .complex .f64 ((sentW kind n mo L l at') 2).re ((sentW kind n mo L l at') 2).im, .complex .f64 ((sentW kind n mo L l at') 3).re ((sentW kind n mo L l at') 3).im, .complex .f64 ((sentW kind n mo L l at') 4).re ((sentW kind n mo L l at') 4).im, .complex .f64 ((sentW kind n mo L l at') 5).re ((sentW kind n mo L l at') 5).im, .complex .f64 ((sentW kind n mo L l at') 6).re ((sentW kind n mo L l at') 6).im, .complex .f64 ((sentW kind n mo L l at') 7).re ((sentW kind n mo L l at') 7).im]), (undef)] [(49, 0), (50, 1), (51, 2), (52, 3), (53, 4), (54, 5)] [_, _, _, _, _, _, _, _, _, _, _, _, _, _, _, _, _, _, _, _, _, _, _, _, _, _, _, _, _, _, _, _, _, _, _, _, _, _, _, _, _, _, _, _, _, _, _, _, _, _, _, _, _, _, _, _, _, _, _, _, _, _, _, _, _, _, _, _, _, _, _, _, _, _, _, _, _, _] (fun i u => match i with | 0 => Ar w u l w2.heap.size w6.heap.size rg 0 sn (sy) (cl n0 n1 n2 n3 n4 n5 n6 n7 (.slice sx sl sc)) (R kind.toNat) (spW L l) (arrF kind n mo (R kind.toNat) L l at') (fun _ => cz) | 1 => Ar w u l w2.heap.size w6.heap.size rg 0 sn (sy) (cl n0 n1 n2 n3 n4 n5 n6 n7 (.slice sx sl sc)) (R kind.toNat) (spW L l) (arrF kind n mo (R kind.toNat) L l at') (fun _ => cz) | 2 => Ar w u l w2.heap.size w6.heap.size rg 0 sn (sy) (cl n0 n1 n2 n3 n4 n5 n6 n7 (.slice sx sl sc)) (R kind.toNat) (spW L l) (arrF kind n mo (R kind.toNat) L l at') (fun _ => cz) | 3 => Ar w u l w2.heap.size w6.heap.size rg 0 sn (sy) (cl n0 n1 n2 n3 n4 n5 n6 n7 (.slice sx sl sc)) (R kind.toNat) (spW L l) (arrF kind n mo (R kind.toNat) L l at') (fun _ => cz) | 4 => Ar w u l w2.heap.size w6.heap.size rg 0 sn (sy) (cl n0 n1 n2 n3 n4 n5 n6 n7 (.slice sx sl sc)) (R kind.toNat) (spW L l) (arrF kind n mo (R kind.toNat) L l at') (fun _ => cz) | 5 => Ar w u l w2.heap.size w6.heap.size rg 0 sn (sy) (cl n0 n1 n2 n3 n4 n5 n6 n7 (.slice sx sl sc)) (R kind.toNat) (spW L l) (arrF kind n mo (R kind.toNat) L l at') (fun _ => cz) | 6 => Ar w u l w2.heap.size w6.heap.size rg 0 sn (sy) (cl n0 n1 n2 n3 n4 n5 n6 n7 (.slice sx sl sc)) (R kind.toNat) (spW L l) (arrF kind n mo (R kind.toNat) L l at') (fun _ => cz) | _ => Ar w u l w2.heap.size w6.heap.size rg 0 sn (sy) (cl n0 n1 n2 n3 n4 n5 n6 n7 (.slice sx sl sc)) (R kind.toNat) (spW L l) (arrF kind n mo (R kind.toNat) L l at') (sentW kind n mo L l at')) (by kernel_rfl) (by kernel_rfl) rfl HO.out ?_ ?_
      · intro i o ho a u hh hj
        match i, ho, hh, hj with
        | 0, ho, hh, hj =>
          simp only [List.getElem?_cons_zero, Option.some.injEq] at ho
          subst ho
          have hj0 : Ar w u l w2.heap.size w6.heap.size rg 0 sn (sy) (cl n0 n1 n2 n3 n4 n5 n6 n7 (.slice sx sl sc)) (R kind.toNat) (spW L l) (arrF kind n mo (R kind.toNat) L l at') (fun _ => cz) := hj
          have g1 : a.tmps[1]? = some (.int .i64 kind) := hh.old 1 (by kernel_rfl) rfl
          clear hh hj
          have HN : Hid (Ar w u l w2.heap.size w6.heap.size rg 0 sn (sy) (cl n0 n1 n2 n3 n4 n5 n6 n7 (.slice sx sl sc)) (R kind.toNat) (spW L l) (arrF kind n mo (R kind.toNat) L l at') (fun _ => cz)) := hj0
          clear hj0
          refine wpOp_step rfl (fun K hK => ?_)
          go_simp
          exact hK _ _ ⟨by simp [Act.put], HN.out⟩
        | 1, ho, hh, hj =>
          simp only [List.getElem?_cons_succ, List.getElem?_cons_zero, Option.some.injEq] at ho
          subst ho
          have hj0 : Ar w u l w2.heap.size w6.heap.size rg 0 sn (sy) (cl n0 n1 n2 n3 n4 n5 n6 n7 (.slice sx sl sc)) (R kind.toNat) (spW L l) (arrF kind n mo (R kind.toNat) L l at') (fun _ => cz) := hj
          have g2 : a.tmps[2]? = some (.int .i64 n) := hh.old 2 (by kernel_rfl) rfl
          clear hh hj
          have HN : Hid (Ar w u l w2.heap.size w6.heap.size rg 0 sn (sy) (cl n0 n1 n2 n3 n4 n5 n6 n7 (.slice sx sl sc)) (R kind.toNat) (spW L l) (arrF kind n mo (R kind.toNat) L l at') (fun _ => cz)) := hj0
          clear hj0
          refine wpOp_step rfl (fun K hK => ?_)
          go_simp
          exact hK _ _ ⟨by simp [Act.put], HN.out⟩
        | 2, ho, hh, hj =>
          simp only [List.getElem?_cons_succ, List.getElem?_cons_zero, Option.some.injEq] at ho
          subst ho
          have hj0 : Ar w u l w2.heap.size w6.heap.size rg 0 sn (sy) (cl n0 n1 n2 n3 n4 n5 n6 n7 (.slice sx sl sc)) (R kind.toNat) (spW L l) (arrF kind n mo (R kind.toNat) L l at') (fun _ => cz) := hj
          have g16 : a.tmps[16]? = some (.int .i64 mo) := hh.old 16 (by kernel_rfl) rfl
          clear hh hj
          have HN : Hid (Ar w u l w2.heap.size w6.heap.size rg 0 sn (sy) (cl n0 n1 n2 n3 n4 n5 n6 n7 (.slice sx sl sc)) (R kind.toNat) (spW L l) (arrF kind n mo (R kind.toNat) L l at') (fun _ => cz)) := hj0
          clear hj0
          refine wpOp_step rfl (fun K hK => ?_)
          go_simp
          exact hK _ _ ⟨by simp [Act.put], HN.out⟩
        | 3, ho, hh, hj =>
          simp only [List.getElem?_cons_succ, List.getElem?_cons_zero, Option.some.injEq] at ho
          subst ho
          have hj0 : Ar w u l w2.heap.size w6.heap.size rg 0 sn (sy) (cl n0 n1 n2 n3 n4 n5 n6 n7 (.slice sx sl sc)) (R kind.toNat) (spW L l) (arrF kind n mo (R kind.toNat) L l at') (fun _ => cz) := hj
          have g3 : a.tmps[3]? = some (.slice (some ⟨xb, xo, none⟩) l c) := hh.old 3 (by kernel_rfl) rfl
          clear hh hj
          have HN : Hid (Ar w u l w2.heap.size w6.heap.size rg 0 sn (sy) (cl n0 n1 n2 n3 n4 n5 n6 n7 (.slice sx sl sc)) (R kind.toNat) (spW L l) (arrF kind n mo (R kind.toNat) L l at') (fun _ => cz)) := hj0
          clear hj0
          refine wpOp_step rfl (fun K hK => ?_)
          go_simp
          exact hK _ _ ⟨by simp [Act.put], HN.out⟩
        | 4, ho, hh, hj =>
          simp only [List.getElem?_cons_succ, List.getElem?_cons_zero, Option.some.injEq] at ho
          subst ho
          have hj0 : Ar w u l w2.heap.size w6.heap.size rg 0 sn (sy) (cl n0 n1 n2 n3 n4 n5 n6 n7 (.slice sx sl sc)) (R kind.toNat) (spW L l) (arrF kind n mo (R kind.toNat) L l at') (fun _ => cz) := hj
          have g4 : a.tmps[4]? = some (.int .i64 at') := hh.old 4 (by kernel_rfl) rfl
          clear hh hj
          have HN : Hid (Ar w u l w2.heap.size w6.heap.size rg 0 sn (sy) (cl n0 n1 n2 n3 n4 n5 n6 n7 (.slice sx sl sc)) (R kind.toNat) (spW L l) (arrF kind n mo (R kind.toNat) L l at') (fun _ => cz)) := hj0
          clear hj0
          refine wpOp_step rfl (fun K hK => ?_)
          go_simp
          exact hK _ _ ⟨by simp [Act.put], HN.out⟩
        | 5, ho, hh, hj =>
          simp only [List.getElem?_cons_succ, List.getElem?_cons_zero, Option.some.injEq] at ho
          subst ho
          have hj0 : Ar w u l w2.heap.size w6.heap.size rg 0 sn (sy) (cl n0 n1 n2 n3 n4 n5 n6 n7 (.slice sx sl sc)) (R kind.toNat) (spW L l) (arrF kind n mo (R kind.toNat) L l at') (fun _ => cz) := hj
          have g49 : a.tmps[49]? = some (.int .i64 kind) := hh.did 0 _ 49 rfl rfl rfl
          have g50 : a.tmps[50]? = some (.int .i64 n) := hh.did 1 _ 50 rfl rfl rfl
          have g51 : a.tmps[51]? = some (.int .i64 mo) := hh.did 2 _ 51 rfl rfl rfl
          have g52 : a.tmps[52]? = some (.slice (some ⟨xb, xo, none⟩) l c) := hh.did 3 _ 52 rfl rfl rfl
          have g53 : a.tmps[53]? = some (.int .i64 at') := hh.did 4 _ 53 rfl rfl rfl
          have CA := CW.out u hj0.kept
          clear hh hj
          have HN : Hid (∀ u', Kept u u' → Ar w u' l w2.heap.size w6.heap.size rg 0 sn (sy) (cl n0 n1 n2 n3 n4 n5 n6 n7 (.slice sx sl sc)) (R kind.toNat) (spW L l) (arrF kind n mo (R kind.toNat) L l at') (fun _ => cz)) := fun u' q => hj0.still q
          clear hj0
          refine wpOp_step rfl (fun K hK => ?_)
          go_simp
          refine CA.mono ?_
          rintro e u' ⟨rfl, q⟩
          exact hK _ _ ⟨by simp [Act.put], HN.out u' q⟩
        | 6, ho, hh, hj =>
          simp only [List.getElem?_cons_succ, List.getElem?_cons_zero, Option.some.injEq] at ho
          subst ho
          have hj0 : Ar w u l w2.heap.size w6.heap.size rg 0 sn (sy) (cl n0 n1 n2 n3 n4 n5 n6 n7 (.slice sx sl sc)) (R kind.toNat) (spW L l) (arrF kind n mo (R kind.toNat) L l at') (fun _ => cz) := hj
          have g14 : a.tmps[14]? = some (.pointer (some ⟨w.heap.size + 1, 0, none⟩)) := hh.old 14 (by kernel_rfl) rfl
          have g54 : a.tmps[54]? = some (.agg #[.complex .f64 ((sentW kind n mo L l at') 0).re ((sentW kind n mo L l at') 0).im, .complex .f64 ((sentW kind n mo L l at') 1).re ((sentW kind n mo L l at') 1).im, .complex .f64 ((sentW kind n mo L l at') 2).re ((sentW kind n mo L l at') 2).im, .complex .f64 ((sentW kind n mo L l at') 3).re ((sentW kind n mo L l at') 3).im, .complex .f64 ((sentW kind n mo L l at') 4).re ((sentW kind n mo L l at') 4).im, .complex .f64 ((sentW kind n mo L l at') 5).re ((sentW kind n mo L l at') 5).im, .complex .f64 ((sentW kind n mo L l at') 6).re ((sentW kind n mo L l at') 6).im, .complex .f64 ((sentW kind n mo L l at') 7).re ((sentW kind n mo L l at') 7).im]) := hh.did 5 _ 54 rfl rfl rfl
          have q0 := hj0.fill.at 0 rfl
          have q1 := hj0.fill.at 1 rfl
          have q2 := hj0.fill.at 2 rfl
          have q3 := hj0.fill.at 3 rfl
          have q4 := hj0.fill.at 4 rfl
          have q5 := hj0.fill.at 5 rfl
          have q6 := hj0.fill.at 6 rfl
          have q7 := hj0.fill.at 7 rfl
          have fz := hj0.fill.fz
          clear hh hj
          have HN : Hid (Ar w u l w2.heap.size w6.heap.size rg 0 sn (sy) (cl n0 n1 n2 n3 n4 n5 n6 n7 (.slice sx sl sc)) (R kind.toNat) (spW L l) (arrF kind n mo (R kind.toNat) L l at') (fun _ => cz)) := hj0
          clear hj0
          refine wpOp_step rfl (fun K hK => ?_)
          go_simp
          exact hK _ _ ⟨by simp [Act.put], HN.out.filled (((((((((Mut.refl _ _).setCell (by simp) _).setCell (by simp) _).setCell (by simp) _).setCell (by simp) _).setCell (by simp) _).setCell (by simp) _).setCell (by simp) _).setCell (by simp) _) (((((((((HN.out.fill.set (i := 0) rfl _).set (i := 1) rfl _).set (i := 2) rfl _).set (i := 3) rfl _).set (i := 4) rfl _).set (i := 5) rfl _).set (i := 6) rfl _).set (i := 7) rfl _))⟩
        | n + 7, ho, _, _ => simp at ho
      · intro u hj
        have hj0 : Ar w u l w2.heap.size w6.heap.size rg 0 sn (sy) (cl n0 n1 n2 n3 n4 n5 n6 n7 (.slice sx sl sc)) (R kind.toNat) (spW L l) (arrF kind n mo (R kind.toNat) L l at') (sentW kind n mo L l at') := hj
        have HO9 : Hid (Ar w u l w2.heap.size w6.heap.size rg 0 sn (sy) (cl n0 n1 n2 n3 n4 n5 n6 n7 (.slice sx sl sc)) (R kind.toNat) (spW L l) (arrF kind n mo (R kind.toNat) L l at') (sentW kind n mo L l at')) := hj0
        clear hj hj0 HO
        simp only [List.getD_cons_succ, List.getD_cons_zero]
        go_wp2_with fail
        go_step3
        rename_i aK
        simp only [Exit.then]
        refine aK _ _ (pass _ _ ?_)
        exact ⟨0, by omega, w2.heap.size, w6.heap.size, rg, sn, sd, sy, ⟨by rw [HSS.out.1 HM1.out]; exact HSN.out.symm, HO9.out⟩, _, _, _, _, _, _, _, _, _, _, _, _, _, _, _, _, _, _, _, _, _, _, _, _, _, _, _, _, _, _, _, _, _, _, _, _, _, _, _, _, _, _, _, _, _, _, _, _, _, _, _, _, _, _, _, _, _, _, _, _, _, _, _, _, _, _, _, rfl⟩
    · have em : (mo == 1) = false := by simpa using hm1
      have HM1 : Hid (mo ≠ 1) := hm1
      have CF2 : Hid (∀ w', Kept w w' → Calls Tryz.prog 36 #[.agg #[.int .i64 n0, .int .i64 n1, .int .i64 n2, .int .i64 n3, .int .i64 n4, .int .i64 n5, .int .i64 n6, .int .i64 n7, .slice sx sl sc], .int .i64 at', .int .i64 0] w' fun e w'' => e = .returned (.bool true) ∧ Kept w' w'') := fun w' k => CF.out w' 0 true k (by omega) ⟨fun _ => .inl rfl, fun _ => rfl⟩
      clear hm1 CF CS
      have c0 := HW4.out.2.1.at 0 rfl
      have c1 := HW4.out.2.1.at 1 rfl
      have c2 := HW4.out.2.1.at 2 rfl
      have c3 := HW4.out.2.1.at 3 rfl
      have c4 := HW4.out.2.1.at 4 rfl
      have c5 := HW4.out.2.1.at 5 rfl
      have c6 := HW4.out.2.1.at 6 rfl
      have c7 := HW4.out.2.1.at 7 rfl
      have c8 := HW4.out.2.1.at 8 rfl
      go_wp2_with fail
      refine (CF2.out _ HW4.out.1).mono ?_
      rintro e w6 ⟨rfl, K⟩
      have HW6 : Hid (Kept w w6 ∧ Blk w6 w.heap.size (cl n0 n1 n2 n3 n4 n5 n6 n7 (.slice sx sl sc)) ∧ Blk w6 (w.heap.size + 1) (eight fun _ => cz) ∧ w.heap.size + 1 < rg ∧ Refs w6 (some ⟨rg, 0, none⟩) 1 (R kind.toNat) ∧ Blk w6 w2.heap.size [.bool true, .slice (some ⟨rg, 0, none⟩) 1 1] ∧ Rdz w6 none 0 (spW L l) ∧ ∀ b o, (none : Option Addr) = some ⟨b, o, none⟩ → b ≠ w6.heap.size ∧ b ≠ w.heap.size + 1) := by
        have h := HW4.out
        exact ⟨h.1.trans K, h.2.1.kept K, h.2.2.1.kept K, h.2.2.2.1, h.2.2.2.2.1.kept K, h.2.2.2.2.2.kept K, fun h => by omega, fun b o e => by cases e⟩
      have hmk := fun w => HMK.out 0 w (by omega)
      simp only [Int.natCast_zero, Int.add_zero] at hmk
      clear K HW4 c0 c1 c2 c3 c4 c5 c6 c7 c8 CF2
      go_upto_region 13 with fail
      generalize hW7 : w6.alloc _ = W7
      have z7 : w6.heap.size ≤ W7.heap.size := by rw [← hW7]; simp
      have k7 : Kept w6 W7 := by rw [← hW7]; exact (Kept.refl w6).alloc _ _
      have ws7 : Ws W7 w.heap.size (.slice (some ⟨w6.heap.size, 0, none⟩) 0 (l * 8 + 0)) 0 (arrF kind n mo (R kind.toNat) L l at') := by rw [← hW7]; exact ws_made w6 w.heap.size (l * 8 + 0) _ HW6.out.1.size (by omega)
      have HW7 : Hid (Kept w W7 ∧ Blk W7 w.heap.size (cl n0 n1 n2 n3 n4 n5 n6 n7 (.slice sx sl sc)) ∧ Blk W7 (w.heap.size + 1) (eight fun _ => cz) ∧ w.heap.size + 1 < rg ∧ Refs W7 (some ⟨rg, 0, none⟩) 1 (R kind.toNat) ∧ Blk W7 w2.heap.size [.bool true, .slice (some ⟨rg, 0, none⟩) 1 1] ∧ Rdz W7 ((none : Option Addr)) 0 (spW L l) ∧ (∀ b o, (none : Option Addr) = some ⟨b, o, none⟩ → b ≠ w6.heap.size ∧ b ≠ w.heap.size + 1) ∧ Ws W7 w.heap.size (.slice (some ⟨w6.heap.size, 0, none⟩) 0 (l * 8 + 0)) 0 (arrF kind n mo (R kind.toNat) L l at')) := ⟨HW6.out.1.trans k7, HW6.out.2.1.kept k7, HW6.out.2.2.1.kept k7, HW6.out.2.2.2.1, HW6.out.2.2.2.2.1.kept k7, HW6.out.2.2.2.2.2.1.kept k7, HW6.out.2.2.2.2.2.2.1.kept k7, HW6.out.2.2.2.2.2.2.2, ws7⟩
      have HZ7 : Hid (w2.heap.size < w6.heap.size ∧ rg < w6.heap.size) := by
        refine ⟨HW6.out.2.2.2.2.2.1.lt, ?_⟩
        obtain ⟨b, o, e, hb, _⟩ := HW6.out.2.2.2.2.1 (by omega)
        obtain ⟨rfl, _⟩ : rg = b ∧ 0 = o := by simpa using e
        exact hb
      clear hW7 z7 k7 ws7 HW6
      have HO : Hid (Ar w W7 l w2.heap.size w6.heap.size rg 0 0 ((none : Option Addr)) (cl n0 n1 n2 n3 n4 n5 n6 n7 (.slice sx sl sc)) (R kind.toNat) (spW L l) (arrF kind n mo (R kind.toNat) L l at') (fun _ => cz)) := by
        have h := HW7.out
        have hz := HZ7.out
        have hz0 := HZ.out
        refine ⟨h.1, h.2.1, h.2.2.1, h.2.2.2.2.2.1, h.2.2.2.2.1, ?_, h.2.2.2.2.2.2.1, hz0, h.2.2.2.1, by omega, by omega, by omega, h.2.2.2.2.2.2.2.1⟩
        have := h.2.2.2.2.2.2.2.2
        simpa using this
      clear HW7
      refine wp_region_row [(.int .i64 kind), (.int .i64 n), (.int .i64 mo), (.slice (some ⟨xb, xo, none⟩) l c), (.int .i64 at'), (.agg #[.complex .f64 ((sentW kind n mo L l at') 0).re ((sentW kind n mo L l at') 0).im, .complex .f64 ((sentW kind n mo L l at') 1).re ((sentW kind n mo L l at') 1).im, .complex .f64 ((sentW kind n mo L l at') 2).re ((sentW kind n mo L l at') 2).im, .complex .f64 ((sentW kind n mo L l at') 3).re ((sentW kind n mo L l at') 3).im, .complex .f64 ((sentW kind n mo L l at') 4).re ((sentW kind n mo L l at') 4).im, .complex .f64 ((sentW kind n mo L l at') 5).re ((sentW kind n mo L l at') 5).im, .complex .f64 ((sentW kind n mo L l at') 6).re ((sentW kind n mo L l at') 6).im, .complex .f64 ((sentW kind n mo L l at') 7).re ((sentW kind n mo L l at') 7).im]), (undef)] [(49, 0), (50, 1), (51, 2), (52, 3), (53, 4), (54, 5)] [_, _, _, _, _, _, _, _, _, _, _, _, _, _, _, _, _, _, _, _, _, _, _, _, _, _, _, _, _, _, _, _, _, _, _, _, _, _, _, _, _, _, _, _, _, _, _, _, _, _, _, _, _, _, _, _, _, _, _, _, _, _, _, _, _, _, _, _, _, _, _, _, _, _, _, _, _, _] (fun i u => match i with | 0 => Ar w u l w2.heap.size w6.heap.size rg 0 0 ((none : Option Addr)) (cl n0 n1 n2 n3 n4 n5 n6 n7 (.slice sx sl sc)) (R kind.toNat) (spW L l) (arrF kind n mo (R kind.toNat) L l at') (fun _ => cz) | 1 => Ar w u l w2.heap.size w6.heap.size rg 0 0 ((none : Option Addr)) (cl n0 n1 n2 n3 n4 n5 n6 n7 (.slice sx sl sc)) (R kind.toNat) (spW L l) (arrF kind n mo (R kind.toNat) L l at') (fun _ => cz) | 2 => Ar w u l w2.heap.size w6.heap.size rg 0 0 ((none : Option Addr)) (cl n0 n1 n2 n3 n4 n5 n6 n7 (.slice sx sl sc)) (R kind.toNat) (spW L l) (arrF kind n mo (R kind.toNat) L l at') (fun _ => cz) | 3 => Ar w u l w2.heap.size w6.heap.size rg 0 0 ((none : Option Addr)) (cl n0 n1 n2 n3 n4 n5 n6 n7 (.slice sx sl sc)) (R kind.toNat) (spW L l) (arrF kind n mo (R kind.toNat) L l at') (fun _ => cz) | 4 => Ar w u l w2.heap.size w6.heap.size rg 0 0 ((none : Option Addr)) (cl n0 n1 n2 n3 n4 n5 n6 n7 (.slice sx sl sc)) (R kind.toNat) (spW L l) (arrF kind n mo (R kind.toNat) L l at') (fun _ => cz) | 5 => Ar w u l w2.heap.size w6.heap.size rg 0 0 ((none : Option Addr)) (cl n0 n1 n2 n3 n4 n5 n6 n7 (.slice sx sl sc)) (R kind.toNat) (spW L l) (arrF kind n mo (R kind.toNat) L l at') (fun _ => cz) | 6 => Ar w u l w2.heap.size w6.heap.size rg 0 0 ((none : Option Addr)) (cl n0 n1 n2 n3 n4 n5 n6 n7 (.slice sx sl sc)) (R kind.toNat) (spW L l) (arrF kind n mo (R kind.toNat) L l at') (fun _ => cz) | _ => Ar w u l w2.heap.size w6.heap.size rg 0 0 ((none : Option Addr)) (cl n0 n1 n2 n3 n4 n5 n6 n7 (.slice sx sl sc)) (R kind.toNat) (spW L l) (arrF kind n mo (R kind.toNat) L l at') (sentW kind n mo L l at')) (by kernel_rfl) (by kernel_rfl) rfl HO.out ?_ ?_
      · intro i o ho a u hh hj
        match i, ho, hh, hj with
        | 0, ho, hh, hj =>
          simp only [List.getElem?_cons_zero, Option.some.injEq] at ho
          subst ho
          have hj0 : Ar w u l w2.heap.size w6.heap.size rg 0 0 ((none : Option Addr)) (cl n0 n1 n2 n3 n4 n5 n6 n7 (.slice sx sl sc)) (R kind.toNat) (spW L l) (arrF kind n mo (R kind.toNat) L l at') (fun _ => cz) := hj
          have g1 : a.tmps[1]? = some (.int .i64 kind) := hh.old 1 (by kernel_rfl) rfl
          clear hh hj
          have HN : Hid (Ar w u l w2.heap.size w6.heap.size rg 0 0 ((none : Option Addr)) (cl n0 n1 n2 n3 n4 n5 n6 n7 (.slice sx sl sc)) (R kind.toNat) (spW L l) (arrF kind n mo (R kind.toNat) L l at') (fun _ => cz)) := hj0
          clear hj0
          refine wpOp_step rfl (fun K hK => ?_)
          go_simp
          exact hK _ _ ⟨by simp [Act.put], HN.out⟩
        | 1, ho, hh, hj =>
          simp only [List.getElem?_cons_succ, List.getElem?_cons_zero, Option.some.injEq] at ho
          subst ho
          have hj0 : Ar w u l w2.heap.size w6.heap.size rg 0 0 ((none : Option Addr)) (cl n0 n1 n2 n3 n4 n5 n6 n7 (.slice sx sl sc)) (R kind.toNat) (spW L l) (arrF kind n mo (R kind.toNat) L l at') (fun _ => cz) := hj
          have g2 : a.tmps[2]? = some (.int .i64 n) := hh.old 2 (by kernel_rfl) rfl
          clear hh hj
          have HN : Hid (Ar w u l w2.heap.size w6.heap.size rg 0 0 ((none : Option Addr)) (cl n0 n1 n2 n3 n4 n5 n6 n7 (.slice sx sl sc)) (R kind.toNat) (spW L l) (arrF kind n mo (R kind.toNat) L l at') (fun _ => cz)) := hj0
          clear hj0
          refine wpOp_step rfl (fun K hK => ?_)
          go_simp
          exact hK _ _ ⟨by simp [Act.put], HN.out⟩
        | 2, ho, hh, hj =>
          simp only [List.getElem?_cons_succ, List.getElem?_cons_zero, Option.some.injEq] at ho
          subst ho
          have hj0 : Ar w u l w2.heap.size w6.heap.size rg 0 0 ((none : Option Addr)) (cl n0 n1 n2 n3 n4 n5 n6 n7 (.slice sx sl sc)) (R kind.toNat) (spW L l) (arrF kind n mo (R kind.toNat) L l at') (fun _ => cz) := hj
          have g16 : a.tmps[16]? = some (.int .i64 mo) := hh.old 16 (by kernel_rfl) rfl
          clear hh hj
          have HN : Hid (Ar w u l w2.heap.size w6.heap.size rg 0 0 ((none : Option Addr)) (cl n0 n1 n2 n3 n4 n5 n6 n7 (.slice sx sl sc)) (R kind.toNat) (spW L l) (arrF kind n mo (R kind.toNat) L l at') (fun _ => cz)) := hj0
          clear hj0
          refine wpOp_step rfl (fun K hK => ?_)
          go_simp
          exact hK _ _ ⟨by simp [Act.put], HN.out⟩
        | 3, ho, hh, hj =>
          simp only [List.getElem?_cons_succ, List.getElem?_cons_zero, Option.some.injEq] at ho
          subst ho
          have hj0 : Ar w u l w2.heap.size w6.heap.size rg 0 0 ((none : Option Addr)) (cl n0 n1 n2 n3 n4 n5 n6 n7 (.slice sx sl sc)) (R kind.toNat) (spW L l) (arrF kind n mo (R kind.toNat) L l at') (fun _ => cz) := hj
          have g3 : a.tmps[3]? = some (.slice (some ⟨xb, xo, none⟩) l c) := hh.old 3 (by kernel_rfl) rfl
          clear hh hj
          have HN : Hid (Ar w u l w2.heap.size w6.heap.size rg 0 0 ((none : Option Addr)) (cl n0 n1 n2 n3 n4 n5 n6 n7 (.slice sx sl sc)) (R kind.toNat) (spW L l) (arrF kind n mo (R kind.toNat) L l at') (fun _ => cz)) := hj0
          clear hj0
          refine wpOp_step rfl (fun K hK => ?_)
          go_simp
          exact hK _ _ ⟨by simp [Act.put], HN.out⟩
        | 4, ho, hh, hj =>
          simp only [List.getElem?_cons_succ, List.getElem?_cons_zero, Option.some.injEq] at ho
          subst ho
          have hj0 : Ar w u l w2.heap.size w6.heap.size rg 0 0 ((none : Option Addr)) (cl n0 n1 n2 n3 n4 n5 n6 n7 (.slice sx sl sc)) (R kind.toNat) (spW L l) (arrF kind n mo (R kind.toNat) L l at') (fun _ => cz) := hj
          have g4 : a.tmps[4]? = some (.int .i64 at') := hh.old 4 (by kernel_rfl) rfl
          clear hh hj
          have HN : Hid (Ar w u l w2.heap.size w6.heap.size rg 0 0 ((none : Option Addr)) (cl n0 n1 n2 n3 n4 n5 n6 n7 (.slice sx sl sc)) (R kind.toNat) (spW L l) (arrF kind n mo (R kind.toNat) L l at') (fun _ => cz)) := hj0
          clear hj0
          refine wpOp_step rfl (fun K hK => ?_)
          go_simp
          exact hK _ _ ⟨by simp [Act.put], HN.out⟩
        | 5, ho, hh, hj =>
          simp only [List.getElem?_cons_succ, List.getElem?_cons_zero, Option.some.injEq] at ho
          subst ho
          have hj0 : Ar w u l w2.heap.size w6.heap.size rg 0 0 ((none : Option Addr)) (cl n0 n1 n2 n3 n4 n5 n6 n7 (.slice sx sl sc)) (R kind.toNat) (spW L l) (arrF kind n mo (R kind.toNat) L l at') (fun _ => cz) := hj
          have g49 : a.tmps[49]? = some (.int .i64 kind) := hh.did 0 _ 49 rfl rfl rfl
          have g50 : a.tmps[50]? = some (.int .i64 n) := hh.did 1 _ 50 rfl rfl rfl
          have g51 : a.tmps[51]? = some (.int .i64 mo) := hh.did 2 _ 51 rfl rfl rfl
          have g52 : a.tmps[52]? = some (.slice (some ⟨xb, xo, none⟩) l c) := hh.did 3 _ 52 rfl rfl rfl
          have g53 : a.tmps[53]? = some (.int .i64 at') := hh.did 4 _ 53 rfl rfl rfl
          have CA := CW.out u hj0.kept
          clear hh hj
          have HN : Hid (∀ u', Kept u u' → Ar w u' l w2.heap.size w6.heap.size rg 0 0 ((none : Option Addr)) (cl n0 n1 n2 n3 n4 n5 n6 n7 (.slice sx sl sc)) (R kind.toNat) (spW L l) (arrF kind n mo (R kind.toNat) L l at') (fun _ => cz)) := fun u' q => hj0.still q
          clear hj0
          refine wpOp_step rfl (fun K hK => ?_)
          go_simp
          refine CA.mono ?_
          rintro e u' ⟨rfl, q⟩
          exact hK _ _ ⟨by simp [Act.put], HN.out u' q⟩
        | 6, ho, hh, hj =>
          simp only [List.getElem?_cons_succ, List.getElem?_cons_zero, Option.some.injEq] at ho
          subst ho
          have hj0 : Ar w u l w2.heap.size w6.heap.size rg 0 0 ((none : Option Addr)) (cl n0 n1 n2 n3 n4 n5 n6 n7 (.slice sx sl sc)) (R kind.toNat) (spW L l) (arrF kind n mo (R kind.toNat) L l at') (fun _ => cz) := hj
          have g14 : a.tmps[14]? = some (.pointer (some ⟨w.heap.size + 1, 0, none⟩)) := hh.old 14 (by kernel_rfl) rfl
          have g54 : a.tmps[54]? = some (.agg #[.complex .f64 ((sentW kind n mo L l at') 0).re ((sentW kind n mo L l at') 0).im, .complex .f64 ((sentW kind n mo L l at') 1).re ((sentW kind n mo L l at') 1).im, .complex .f64 ((sentW kind n mo L l at') 2).re ((sentW kind n mo L l at') 2).im, .complex .f64 ((sentW kind n mo L l at') 3).re ((sentW kind n mo L l at') 3).im, .complex .f64 ((sentW kind n mo L l at') 4).re ((sentW kind n mo L l at') 4).im, .complex .f64 ((sentW kind n mo L l at') 5).re ((sentW kind n mo L l at') 5).im, .complex .f64 ((sentW kind n mo L l at') 6).re ((sentW kind n mo L l at') 6).im, .complex .f64 ((sentW kind n mo L l at') 7).re ((sentW kind n mo L l at') 7).im]) := hh.did 5 _ 54 rfl rfl rfl
          have q0 := hj0.fill.at 0 rfl
          have q1 := hj0.fill.at 1 rfl
          have q2 := hj0.fill.at 2 rfl
          have q3 := hj0.fill.at 3 rfl
          have q4 := hj0.fill.at 4 rfl
          have q5 := hj0.fill.at 5 rfl
          have q6 := hj0.fill.at 6 rfl
          have q7 := hj0.fill.at 7 rfl
          have fz := hj0.fill.fz
          clear hh hj
          have HN : Hid (Ar w u l w2.heap.size w6.heap.size rg 0 0 ((none : Option Addr)) (cl n0 n1 n2 n3 n4 n5 n6 n7 (.slice sx sl sc)) (R kind.toNat) (spW L l) (arrF kind n mo (R kind.toNat) L l at') (fun _ => cz)) := hj0
          clear hj0
          refine wpOp_step rfl (fun K hK => ?_)
          go_simp
          exact hK _ _ ⟨by simp [Act.put], HN.out.filled (((((((((Mut.refl _ _).setCell (by simp) _).setCell (by simp) _).setCell (by simp) _).setCell (by simp) _).setCell (by simp) _).setCell (by simp) _).setCell (by simp) _).setCell (by simp) _) (((((((((HN.out.fill.set (i := 0) rfl _).set (i := 1) rfl _).set (i := 2) rfl _).set (i := 3) rfl _).set (i := 4) rfl _).set (i := 5) rfl _).set (i := 6) rfl _).set (i := 7) rfl _))⟩
        | n + 7, ho, _, _ => simp at ho
      · intro u hj
        have hj0 : Ar w u l w2.heap.size w6.heap.size rg 0 0 ((none : Option Addr)) (cl n0 n1 n2 n3 n4 n5 n6 n7 (.slice sx sl sc)) (R kind.toNat) (spW L l) (arrF kind n mo (R kind.toNat) L l at') (sentW kind n mo L l at') := hj
        have HO9 : Hid (Ar w u l w2.heap.size w6.heap.size rg 0 0 ((none : Option Addr)) (cl n0 n1 n2 n3 n4 n5 n6 n7 (.slice sx sl sc)) (R kind.toNat) (spW L l) (arrF kind n mo (R kind.toNat) L l at') (sentW kind n mo L l at')) := hj0
        clear hj hj0 HO
        simp only [List.getD_cons_succ, List.getD_cons_zero]
        go_wp2_with fail
        go_step3
        rename_i aK
        simp only [Exit.then]
        refine aK _ _ (pass _ _ ?_)
        exact ⟨0, by omega, w2.heap.size, w6.heap.size, rg, 0, 0, (none : Option Addr), ⟨(HSS.out.2 HM1.out).symm, HO9.out⟩, _, _, _, _, _, _, _, _, _, _, _, _, _, _, _, _, _, _, _, _, _, _, _, _, _, _, _, _, _, _, _, _, _, _, _, _, _, _, _, _, _, _, _, _, _, _, _, _, _, _, _, _, _, _, _, _, _, _, _, _, _, _, _, _, _, _, _, rfl⟩
end Go.Proofs.YtpdclckgnajcdaaGreat
