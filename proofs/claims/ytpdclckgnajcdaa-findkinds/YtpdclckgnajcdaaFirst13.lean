/-
  The laws' own 'first' of package spolaw13 returns true; what was there is kept.
-/
import Derived.Test.YtpdclckgnajcdaaFind7
import Derived.Test.YtpdclckgnajcdaaPlan10
import Derived.Test.YtpdclckgnajcdaaFew12
import Derived.Test.YtpdclckgnajcdaaRef512
namespace Go.Proofs.Ytpdclckgnajcdaa
open Go.RowKit

theorem onc_frag_ne {L : Nat → Int} {l : Nat} (ht : ¬ Twice L l) {i k : Nat} (hi : i < 8 * l) (hk : k < i) : L (k / 8) * 8 + ((k % 8 : Nat) : Int) ≠ L (i / 8) * 8 + ((i % 8 : Nat) : Int) := by
  by_cases e : k / 8 = i / 8
  · rw [e]; omega
  · have hne : L (k / 8) ≠ L (i / 8) := fun h => ht ⟨k / 8, i / 8, by omega, by omega, h⟩
    omega

set_option maxHeartbeats 1000000 in
theorem fill_nil (n0 n1 n2 n3 n4 n5 n6 n7 : Int) (sx : Option Addr) (sl sc : Nat) (S : Nat → Sh) (v : Nat) (w : World) (hS : Shps w sx sl S) (hv : Is (Good n0 n1 n2 n3 n4 n5 n6 n7 sl S) (8 * n0 + 2 * n1 + n2) v) (hb : v ≤ 100000) :
    Calls Try.prog 25 #[.agg #[.int .i64 n0, .int .i64 n1, .int .i64 n2, .int .i64 n3, .int .i64 n4, .int .i64 n5, .int .i64 n6, .int .i64 n7, .slice sx sl sc], .slice none 0 0] w fun e w' => ∃ b M, e = .returned (.pointer (some ⟨M, 0, none⟩)) ∧ Mm w' b M v (fun _ => cz) 0 ∧ Kept w w' ∧ w.heap.size ≤ b ∧ w.heap.size ≤ M := by
  have C0 : Hid (∀ w', Kept w w' → Calls Try.prog 28 #[.agg #[.int .i64 n0, .int .i64 n1, .int .i64 n2, .int .i64 n3, .int .i64 n4, .int .i64 n5, .int .i64 n6, .int .i64 n7, .slice sx sl sc]] w' _) := fun w' k => ref_words n0 n1 n2 n3 n4 n5 n6 n7 sx sl sc S v w' (hS.kept k) hv
  clear hS hv
  go_enter Try.func25, Try.ntmps25
  go_wp2_with fail
  refine (C0.out _ ((Kept.refl w).alloc _ _)).mono ?_
  rintro e w1 ⟨rfl, K1⟩
  go_wp2_with fail
  refine (mem_new v _ (by omega)).mono ?_
  rintro e w2 ⟨b, M, rfl, HM, K2, hb1, hM1⟩
  have HH : Hid (Mm w2 b M v (fun _ => cz) 0 ∧ Kept w w2 ∧ w.heap.size ≤ b ∧ w.heap.size ≤ M) := ⟨HM, K1.ofAlloc.trans K2, by have := K1.ofAlloc.size; omega, by have := K1.ofAlloc.size; omega⟩
  clear HM K1 K2 hb1 hM1 C0
  go_wp2
  go_loopg [7] 0 (fun _ i wr => i = .int .i64 0 ∧ Hid (wr = w2))
  case atStart => exact ⟨rfl, rfl⟩
  case round =>
    obtain ⟨rfl, hw⟩ := hrel
    have e := hw.out
    subst e
    clear hw
    go_wp2
    go_ret
    exact ⟨b, M, rfl, HH.out.1, HH.out.2.1, HH.out.2.2.1, HH.out.2.2.2⟩

def L1 : Nat → Int := fun i => if i = 0 then 0 else 3
theorem asks_first (S : Nat → Sh) (hS : (S 0).may = true) (ha : (S 0).arr = true) : Asks (AG 4 0 0 1 1 0 1 0 1 S L1 2) (AK 1 S 0 true) (AI S 0 2 true) (AF S 0 2 true L1 2) 0 := by
  have hm : ∀ i, i < 1 → (S i).may = true := fun i hi => by
    obtain rfl : i = 0 := by omega
    exact hS
  refine ⟨fun h => absurd ?_ h, fun _ h => absurd ?_ h, fun _ _ h => absurd ?_ h, fun _ _ _ h => absurd ?_ h, fun _ _ _ _ => rfl⟩
  · exact ⟨⟨by unfold Fits; decide, by omega, by omega, hm⟩, fun j _ => by unfold L1; split <;> decide⟩
  · exact ⟨by decide, by decide, ha⟩
  · show 0 ≤ arrSize 2
    decide
  · refine ⟨(by decide : ((2 : Nat) : Int) = arrSize 2), fun ⟨i, j, h1, h2, h3⟩ => ?_⟩
    obtain rfl : i = 0 := by omega
    obtain rfl : j = 1 := by omega
    exact absurd h3 (by decide)
theorem mode_first : modeA 2 L1 2 = 0 := by decide

def F1 (s0 : Nat) : Nat → Sh := fun _ => ⟨true, some ⟨s0, 0, none⟩, 1, 1⟩
set_option maxRecDepth 20000 in
set_option maxHeartbeats 8000000 in
theorem first_any (w : World) : Calls Try.prog 24 #[] w fun e w' => e = .returned (.bool true) ∧ Kept w w' := by
  have C0 : Hid (∀ w s0 s1 xb, Shps w (some ⟨s1, 0, none⟩) 1 (F1 s0) → Refs w (some ⟨s0, 0, none⟩) 1 (fun _ => false) → xb < w.heap.size → w.cell? ⟨xb, 0, none⟩ = some (.int .i64 0) → w.cell? ⟨xb, 1, none⟩ = some (.int .i64 3) → Calls Try.prog 14 #[.agg #[.int .i64 4, .int .i64 0, .int .i64 0, .int .i64 1, .int .i64 1, .int .i64 0, .int .i64 1, .int .i64 0, .slice (some ⟨s1, 0, none⟩) 1 1], .int .i64 0, .int .i64 2, .slice (some ⟨xb, 0, none⟩) 2 2, .int .i64 (-1)] w _) := fun w s0 s1 xb hS hR hb hc0 hc1 =>
    array_yes 4 0 0 1 1 0 1 0 _ 1 1 (F1 s0) (fun _ _ => false) 0 2 (L := L1) (l := 2) (c := 2) (-1) w hS (fun i hi => hR) (by decide) (by decide) (fun _ => ⟨xb, 0, rfl, hb, fun j hj => by
      rcases (by omega : j = 0 ∨ j = 1) with rfl | rfl
      · exact hc0
      · exact hc1⟩) (asks_first _ rfl rfl) (fun q => absurd q (by decide))
  go_enter Try.func24, Try.ntmps24
  go_wp2_with fail
  generalize hW0 : w.alloc (Obj.cells #[Value.bool false] _) = Wp
  have r0 : Refs Wp (some ⟨w.heap.size, 0, none⟩) 1 (fun _ => false) := by
    rw [← hW0]
    exact fun _ => ⟨_, 0, rfl, by simp, fun i hi => by
      obtain rfl : i = 0 := by omega
      simp⟩
  have k0 : Kept w Wp := by rw [← hW0]; exact (Kept.refl w).alloc _ _
  have z0 : Wp.heap.size = w.heap.size + 1 := by rw [← hW0]; simp
  clear hW0
  generalize hW1 : Wp.alloc (Obj.cells #[Value.bool true, Value.slice _ 1 1] _) = Wq
  have s1 : Shps Wq (some ⟨w.heap.size + 1, 0, none⟩) 1 (F1 w.heap.size) := by
    rw [← hW1, ← z0]
    exact shps_one ⟨true, some ⟨w.heap.size, 0, none⟩, 1, 1⟩ (by simp) (by simp) (by simp)
  have k1 : Kept Wp Wq := by rw [← hW1]; exact (Kept.refl Wp).alloc _ _
  have z1 : Wq.heap.size = w.heap.size + 1 + 1 := by rw [← hW1]; simp [z0]
  clear hW1
  generalize hW2 : Wq.alloc _ = Wr
  have b2 : Blk Wr (w.heap.size + 1 + 1) (cl 4 0 0 1 1 0 1 0 (.slice (some ⟨w.heap.size + 1, 0, none⟩) 1 1)) := by rw [← hW2, ← z1]; exact Blk.new Wq _ _
  have k2 : Kept Wq Wr := by rw [← hW2]; exact (Kept.refl Wq).alloc _ _
  have z2 : Wr.heap.size = w.heap.size + 1 + 1 + 1 := by rw [← hW2]; simp [z1]
  clear hW2
  generalize hW3 : Wr.alloc _ = Wa
  have c0 : Wa.cell? ⟨w.heap.size + 1 + 1 + 1, 0, none⟩ = some (.int .i64 0) := by rw [← hW3, ← z2]; simp
  have c1 : Wa.cell? ⟨w.heap.size + 1 + 1 + 1, 1, none⟩ = some (.int .i64 3) := by rw [← hW3, ← z2]; simp
  have k3 : Kept Wr Wa := by rw [← hW3]; exact (Kept.refl Wr).alloc _ _
  have z3 : Wa.heap.size = w.heap.size + 1 + 1 + 1 + 1 := by rw [← hW3]; simp [z2]
  clear hW3
  have HB : Hid (Kept w Wa ∧ Shps Wa (some ⟨w.heap.size + 1, 0, none⟩) 1 (F1 w.heap.size) ∧ Refs Wa (some ⟨w.heap.size, 0, none⟩) 1 (fun _ => false) ∧ Blk Wa (w.heap.size + 1 + 1) (cl 4 0 0 1 1 0 1 0 (.slice (some ⟨w.heap.size + 1, 0, none⟩) 1 1))) := ⟨((k0.trans k1).trans k2).trans k3, (s1.kept k2).kept k3, ((r0.kept k1).kept k2).kept k3, b2.kept k3⟩
  refine (C0.out _ _ _ _ HB.out.2.1 HB.out.2.2.1 (by omega) c0 c1).mono ?_
  rintro e w3 ⟨v, rfl, hv, K3⟩
  clear C0 r0 k0 z0 s1 k1 z1 b2 k2 z2 k3 z3 c0 c1
  have hbf := HB.out.2.2.2.kept K3
  have c0 := hbf.at 0 rfl
  have c1 := hbf.at 1 rfl
  have c2 := hbf.at 2 rfl
  have c3 := hbf.at 3 rfl
  have c4 := hbf.at 4 rfl
  have c5 := hbf.at 5 rfl
  have c6 := hbf.at 6 rfl
  have c7 := hbf.at 7 rfl
  have c8 := hbf.at 8 rfl
  clear hbf
  rw [show 8 * 2 + spN 2 L1 2 = 16 by decide] at hv
  obtain ⟨g, dd, rfl, hg1, hg2, hgc⟩ := hv.here (by decide)
  have CF : Hid (Calls Try.prog 25 #[.agg #[.int .i64 4, .int .i64 0, .int .i64 0, .int .i64 1, .int .i64 1, .int .i64 0, .int .i64 1, .int .i64 0, .slice (some ⟨w.heap.size + 1, 0, none⟩) 1 1], .slice none 0 0] w3 _) := fill_nil 4 0 0 1 1 0 1 0 _ 1 1 (F1 w.heap.size) 32 w3 (HB.out.2.1.kept K3) (Is.is _ (asks_first _ rfl rfl).zero.1.1) (by decide)
  have HV : Hid (Kept Wa w3 ∧ g < w3.heap.size ∧ ∀ i, i < 16 → w3.cell? ⟨g, i * 2, none⟩ = some (.int .i64 ((arrF 0 2 (modeA 2 L1 2) (fun _ => false) L1 2 (-1)) i).a) ∧ w3.cell? ⟨g, i * 2 + 1, none⟩ = some (.complex .f64 ((arrF 0 2 (modeA 2 L1 2) (fun _ => false) L1 2 (-1)) i).z.re ((arrF 0 2 (modeA 2 L1 2) (fun _ => false) L1 2 (-1)) i).z.im)) := ⟨K3, hg2, hgc⟩
  clear hv hgc hg1 hg2 K3
  go_wp2_with fail
  refine CF.out.mono ?_
  rintro e W ⟨b, M, rfl, hM, K4, hb, hMb⟩
  obtain ⟨fw, hfw⟩ : ∃ fw, fw = arrF 0 2 (modeA 2 L1 2) (fun _ => false) L1 2 (-1) := ⟨_, rfl⟩
  have HFW : Hid (fw = arrF 0 2 (modeA 2 L1 2) (fun _ => false) L1 2 (-1)) := hfw
  rw [← hfw] at HV
  have HMM : Hid (Mm W b M 32 (fun _ => cz) 0) := hM
  have HWS : Hid (g < W.heap.size ∧ g ≠ M ∧ g ≠ b ∧ ∀ i, i < 16 → W.cell? ⟨g, i * 2, none⟩ = some (.int .i64 (fw i).a) ∧ W.cell? ⟨g, i * 2 + 1, none⟩ = some (.complex .f64 (fw i).z.re (fw i).z.im)) :=
    ⟨by have := K4.size; have := HV.out.2.1; omega, by have := HV.out.2.1; omega, by have := HV.out.2.1; omega, fun i hi => ⟨(K4.cell HV.out.2.1).trans (HV.out.2.2 i hi).1, (K4.cell HV.out.2.1).trans (HV.out.2.2 i hi).2⟩⟩
  have HKW : Hid (Kept Wa W ∧ Wa.heap.size ≤ b ∧ Wa.heap.size ≤ M) := ⟨HV.out.1.trans K4, by have := HV.out.1.size; omega, by have := HV.out.1.size; omega⟩
  have HAD : Hid ((∀ k, k < 16 → ∃ a : Nat, a < 32 ∧ (fw k).a = (a : Int)) ∧ ∀ i, i < 16 → ∀ k, k < i → (fw k).a ≠ (fw i).a) := by
    have he : ∀ i, i < 16 → (fw i).a = L1 (i / 8) * 8 + ((i % 8 : Nat) : Int) := fun i hi => by rw [hfw]; unfold arrF; rw [if_pos (by omega)]
    refine ⟨fun k hk => ?_, fun i hi k hk => ?_⟩
    · rw [he k hk]
      unfold L1
      split
      · exact ⟨k % 8, by omega, by omega⟩
      · exact ⟨24 + k % 8, by omega, by omega⟩
    · rw [he i hi, he k (by omega)]
      exact onc_frag_ne (l := 2) (asks_first (F1 0) rfl rfl).zero.2.2.2.2 (by omega) hk
  have HA : Hid (∀ k, k < 16 → ∃ a : Nat, a < 32 ∧ (fw k).a = (a : Int)) := HAD.out.1
  clear hfw hM K4 hb hMb HV CF c0 c1 c2 c3 c4 c5 c6 c7 c8
  go_wp2_with fail
  go_loopg [5] 16 (fun m i wr => ∃ k : Nat, i = .int .i64 k ∧ k ≤ 16 ∧ m = 16 - k ∧ Hid (Mut [M, b] W wr ∧ Mm wr b M 32 (wrt fw k) k))
  case atStart => exact ⟨0, rfl, by omega, by omega, Mut.refl _ _, HMM.out⟩
  case round =>
    obtain ⟨k, rfl, hk, hm, hw⟩ := hrel
    have HM : Hid _ := hm
    clear hm
    by_cases hlt : k < 16
    · obtain ⟨a, han, hfa⟩ := HA.out k hlt
      go_wp2_with fail
      refine wp_region_phase [(.pointer (some ⟨M, 0, none⟩)), (.slice (some ⟨g, 0, none⟩) 16 dd), (.int .i64 (k : Int)), (.pointer (some ⟨g, k * 2, none⟩)), (.pointer (some ⟨g, k * 2, none⟩)), (.int .i64 (a : Int)), (.slice (some ⟨g, 0, none⟩) 16 dd), (.int .i64 (k : Int)), (.pointer (some ⟨g, k * 2, none⟩)), (.pointer (some ⟨g, k * 2 + 1, none⟩)), (.complex .f64 (fw k).z.re (fw k).z.im), (.int .i64 0)] [(32, 0), (33, 1), (34, 2), (35, 3), (36, 4), (37, 5), (38, 6), (39, 7), (40, 8), (41, 9), (42, 10), (43, 11)] [_, _, _, _, _, _, _, _, _, _, _, _, _, _, _, _, _, _, _, _, _, _, _, _, _, _, _, _, _, _, _, _, _, _, _, _, _, _, _, _, _, _, _, _, _, _, _, _, _, _, _, _, _, _, _, _, _, _, _, _, _, _, _, _, _, _, _, _, _, _, _, _, _, _, _, _, _, _, _, _, _, _] (fun d u => Mm u b M 32 (wrt fw (if d 11 then k + 1 else k)) (if d 11 then k + 1 else k) ∧ Mut [M, b] W u) (by kernel_rfl) (by kernel_rfl) (by kernel_rfl) (by kernel_rfl) rfl ?_ ?_ ?_
      · exact ⟨by simpa using hw.out.2.kept (Kept.refl _).drew, hw.out.1.drew⟩
      · intro i1 o ho a1 d u hh hj hi hd
        match i1, ho, hi, hd with
        | 0, ho, hi, hd =>
          simp only [List.getElem?_cons_zero, Option.some.injEq] at ho
          subst ho
          have g4 : a1.tmps[4]? = some (.pointer (some ⟨M, 0, none⟩)) := hh.old 4 (by kernel_rfl) rfl
          clear hh hd
          have HN : Hid (Mm u b M 32 (wrt fw (if done d 0 11 then k + 1 else k)) (if done d 0 11 then k + 1 else k) ∧ Mut [M, b] W u) := (by simpa [done] using hj : Mm u b M 32 (wrt fw (if done d 0 11 then k + 1 else k)) (if done d 0 11 then k + 1 else k) ∧ Mut [M, b] W u)
          clear hj hi
          refine wpOp_step rfl (fun K hK => ?_)
          go_simp
          exact hK _ _ ⟨by simp [Act.put], HN.out⟩
        | 1, ho, hi, hd =>
          simp only [List.getElem?_cons_succ, List.getElem?_cons_zero, Option.some.injEq] at ho
          subst ho
          have g2 : a1.tmps[2]? = some (.slice (some ⟨g, 0, none⟩) 16 dd) := hh.old 2 (by kernel_rfl) rfl
          clear hh hd
          have HN : Hid (Mm u b M 32 (wrt fw (if done d 1 11 then k + 1 else k)) (if done d 1 11 then k + 1 else k) ∧ Mut [M, b] W u) := (by simpa [done] using hj : Mm u b M 32 (wrt fw (if done d 1 11 then k + 1 else k)) (if done d 1 11 then k + 1 else k) ∧ Mut [M, b] W u)
          clear hj hi
          refine wpOp_step rfl (fun K hK => ?_)
          go_simp
          exact hK _ _ ⟨by simp [Act.put], HN.out⟩
        | 2, ho, hi, hd =>
          simp only [List.getElem?_cons_succ, List.getElem?_cons_zero, Option.some.injEq] at ho
          subst ho
          have g5 : a1.tmps[5]? = some (.int .i64 (k : Int)) := hh.old 5 (by kernel_rfl) rfl
          clear hh hd
          have HN : Hid (Mm u b M 32 (wrt fw (if done d 2 11 then k + 1 else k)) (if done d 2 11 then k + 1 else k) ∧ Mut [M, b] W u) := (by simpa [done] using hj : Mm u b M 32 (wrt fw (if done d 2 11 then k + 1 else k)) (if done d 2 11 then k + 1 else k) ∧ Mut [M, b] W u)
          clear hj hi
          refine wpOp_step rfl (fun K hK => ?_)
          go_simp
          exact hK _ _ ⟨by simp [Act.put], HN.out⟩
        | 3, ho, hi, hd =>
          simp only [List.getElem?_cons_succ, List.getElem?_cons_zero, Option.some.injEq] at ho
          subst ho
          have g33 : a1.tmps[33]? = some (.slice (some ⟨g, 0, none⟩) 16 dd) := hh.did 1 _ 33 rfl rfl (hd { on := 1, ground := .data } (by simp) rfl)
          have g34 : a1.tmps[34]? = some (.int .i64 (k : Int)) := hh.did 2 _ 34 rfl rfl (hd { on := 2, ground := .data } (by simp) rfl)
          clear hh hd
          have HN : Hid (Mm u b M 32 (wrt fw (if done d 3 11 then k + 1 else k)) (if done d 3 11 then k + 1 else k) ∧ Mut [M, b] W u) := (by simpa [done] using hj : Mm u b M 32 (wrt fw (if done d 3 11 then k + 1 else k)) (if done d 3 11 then k + 1 else k) ∧ Mut [M, b] W u)
          clear hj hi
          refine wpOp_step rfl (fun K hK => ?_)
          go_simp
          exact hK _ _ ⟨by simp [Act.put], HN.out⟩
        | 4, ho, hi, hd =>
          simp only [List.getElem?_cons_succ, List.getElem?_cons_zero, Option.some.injEq] at ho
          subst ho
          have g35 : a1.tmps[35]? = some (.pointer (some ⟨g, k * 2, none⟩)) := hh.did 3 _ 35 rfl rfl (hd { on := 3, ground := .data } (by simp) rfl)
          clear hh hd
          have HN : Hid (Mm u b M 32 (wrt fw (if done d 4 11 then k + 1 else k)) (if done d 4 11 then k + 1 else k) ∧ Mut [M, b] W u) := (by simpa [done] using hj : Mm u b M 32 (wrt fw (if done d 4 11 then k + 1 else k)) (if done d 4 11 then k + 1 else k) ∧ Mut [M, b] W u)
          clear hj hi
          refine wpOp_step rfl (fun K hK => ?_)
          go_simp
          exact hK _ _ ⟨by simp [Act.put], HN.out⟩
        | 5, ho, hi, hd =>
          simp only [List.getElem?_cons_succ, List.getElem?_cons_zero, Option.some.injEq] at ho
          subst ho
          have g36 : a1.tmps[36]? = some (.pointer (some ⟨g, k * 2, none⟩)) := hh.did 4 _ 36 rfl rfl (hd { on := 4, ground := .data } (by simp) rfl)
          have ca : u.cell? ⟨g, k * 2, none⟩ = some (.int .i64 (a : Int)) := (hj.2.cell HWS.out.1 (by have := HWS.out.2.1; have := HWS.out.2.2.1; simp; omega)).trans (by rw [← hfa]; exact (HWS.out.2.2.2 k hlt).1)
          clear hh hd
          have HN : Hid (Mm u b M 32 (wrt fw (if done d 5 11 then k + 1 else k)) (if done d 5 11 then k + 1 else k) ∧ Mut [M, b] W u) := (by simpa [done] using hj : Mm u b M 32 (wrt fw (if done d 5 11 then k + 1 else k)) (if done d 5 11 then k + 1 else k) ∧ Mut [M, b] W u)
          clear hj hi
          refine wpOp_step rfl (fun K hK => ?_)
          go_simp
          exact hK _ _ ⟨by simp [Act.put], HN.out⟩
        | 6, ho, hi, hd =>
          simp only [List.getElem?_cons_succ, List.getElem?_cons_zero, Option.some.injEq] at ho
          subst ho
          have g2 : a1.tmps[2]? = some (.slice (some ⟨g, 0, none⟩) 16 dd) := hh.old 2 (by kernel_rfl) rfl
          clear hh hd
          have HN : Hid (Mm u b M 32 (wrt fw (if done d 6 11 then k + 1 else k)) (if done d 6 11 then k + 1 else k) ∧ Mut [M, b] W u) := (by simpa [done] using hj : Mm u b M 32 (wrt fw (if done d 6 11 then k + 1 else k)) (if done d 6 11 then k + 1 else k) ∧ Mut [M, b] W u)
          clear hj hi
          refine wpOp_step rfl (fun K hK => ?_)
          go_simp
          exact hK _ _ ⟨by simp [Act.put], HN.out⟩
        | 7, ho, hi, hd =>
          simp only [List.getElem?_cons_succ, List.getElem?_cons_zero, Option.some.injEq] at ho
          subst ho
          have g5 : a1.tmps[5]? = some (.int .i64 (k : Int)) := hh.old 5 (by kernel_rfl) rfl
          clear hh hd
          have HN : Hid (Mm u b M 32 (wrt fw (if done d 7 11 then k + 1 else k)) (if done d 7 11 then k + 1 else k) ∧ Mut [M, b] W u) := (by simpa [done] using hj : Mm u b M 32 (wrt fw (if done d 7 11 then k + 1 else k)) (if done d 7 11 then k + 1 else k) ∧ Mut [M, b] W u)
          clear hj hi
          refine wpOp_step rfl (fun K hK => ?_)
          go_simp
          exact hK _ _ ⟨by simp [Act.put], HN.out⟩
        | 8, ho, hi, hd =>
          simp only [List.getElem?_cons_succ, List.getElem?_cons_zero, Option.some.injEq] at ho
          subst ho
          have g38 : a1.tmps[38]? = some (.slice (some ⟨g, 0, none⟩) 16 dd) := hh.did 6 _ 38 rfl rfl (hd { on := 6, ground := .data } (by simp) rfl)
          have g39 : a1.tmps[39]? = some (.int .i64 (k : Int)) := hh.did 7 _ 39 rfl rfl (hd { on := 7, ground := .data } (by simp) rfl)
          clear hh hd
          have HN : Hid (Mm u b M 32 (wrt fw (if done d 8 11 then k + 1 else k)) (if done d 8 11 then k + 1 else k) ∧ Mut [M, b] W u) := (by simpa [done] using hj : Mm u b M 32 (wrt fw (if done d 8 11 then k + 1 else k)) (if done d 8 11 then k + 1 else k) ∧ Mut [M, b] W u)
          clear hj hi
          refine wpOp_step rfl (fun K hK => ?_)
          go_simp
          exact hK _ _ ⟨by simp [Act.put], HN.out⟩
        | 9, ho, hi, hd =>
          simp only [List.getElem?_cons_succ, List.getElem?_cons_zero, Option.some.injEq] at ho
          subst ho
          have g40 : a1.tmps[40]? = some (.pointer (some ⟨g, k * 2, none⟩)) := hh.did 8 _ 40 rfl rfl (hd { on := 8, ground := .data } (by simp) rfl)
          clear hh hd
          have HN : Hid (Mm u b M 32 (wrt fw (if done d 9 11 then k + 1 else k)) (if done d 9 11 then k + 1 else k) ∧ Mut [M, b] W u) := (by simpa [done] using hj : Mm u b M 32 (wrt fw (if done d 9 11 then k + 1 else k)) (if done d 9 11 then k + 1 else k) ∧ Mut [M, b] W u)
          clear hj hi
          refine wpOp_step rfl (fun K hK => ?_)
          go_simp
          exact hK _ _ ⟨by simp [Act.put], HN.out⟩
        | 10, ho, hi, hd =>
          simp only [List.getElem?_cons_succ, List.getElem?_cons_zero, Option.some.injEq] at ho
          subst ho
          have g41 : a1.tmps[41]? = some (.pointer (some ⟨g, k * 2 + 1, none⟩)) := hh.did 9 _ 41 rfl rfl (hd { on := 9, ground := .data } (by simp) rfl)
          have cb : u.cell? ⟨g, k * 2 + 1, none⟩ = some (.complex .f64 (fw k).z.re (fw k).z.im) := (hj.2.cell HWS.out.1 (by have := HWS.out.2.1; have := HWS.out.2.2.1; simp; omega)).trans (HWS.out.2.2.2 k hlt).2
          clear hh hd
          have HN : Hid (Mm u b M 32 (wrt fw (if done d 10 11 then k + 1 else k)) (if done d 10 11 then k + 1 else k) ∧ Mut [M, b] W u) := (by simpa [done] using hj : Mm u b M 32 (wrt fw (if done d 10 11 then k + 1 else k)) (if done d 10 11 then k + 1 else k) ∧ Mut [M, b] W u)
          clear hj hi
          refine wpOp_step rfl (fun K hK => ?_)
          go_simp
          exact hK _ _ ⟨by simp [Act.put], HN.out⟩
        | 11, ho, hi, hd =>
          simp only [List.getElem?_cons_succ, List.getElem?_cons_zero, Option.some.injEq] at ho
          subst ho
          have g32 : a1.tmps[32]? = some (.pointer (some ⟨M, 0, none⟩)) := hh.did 0 _ 32 rfl rfl (hd { on := 0, ground := .data } (by simp) rfl)
          have g37 : a1.tmps[37]? = some (.int .i64 (a : Int)) := hh.did 5 _ 37 rfl rfl (hd { on := 5, ground := .data } (by simp) rfl)
          have g42 : a1.tmps[42]? = some (.complex .f64 (fw k).z.re (fw k).z.im) := hh.did 10 _ 42 rfl rfl (hd { on := 10, ground := .data } (by simp) rfl)
          have CA := mem_write (G := wrt fw (k + 1)) a (fw k).z u (by have B := hj.1; simp only [hi, Bool.false_eq_true, if_false] at B; exact B) han (by omega) (fun j _ => wrt_step hfa j)
          clear hh hd
          have HN : Hid (∀ u', Mm u' b M 32 (wrt fw (k + 1)) (k + 1) → Mut [M, b] u u' → Mm u' b M 32 (wrt fw (if done d 11 11 then k + 1 else k)) (if done d 11 11 then k + 1 else k) ∧ Mut [M, b] W u') := fun u' x y => ⟨by simpa [done] using x, hj.2.trans y⟩
          clear hj hi
          refine wpOp_step rfl (fun K hK => ?_)
          go_simp
          refine CA.mono ?_
          rintro e u' ⟨rfl, x, y⟩
          exact hK _ _ ⟨by simp [Act.put], HN.out u' x y⟩
        | n + 12, ho, hi, hd => simp at ho
      · intro u d hall hj
        have HN : Hid (Mut [M, b] W u ∧ Mm u b M 32 (wrt fw (k + 1)) (k + 1)) := by
          have B := hj.1
          rw [hall 11 (by decide)] at B
          exact ⟨hj.2, B⟩
        clear hj hall
        go_wp2
        go_roundg (16 - (k + 1))
        case measure => have := HM.out; omega
        case rel => exact ⟨k + 1, by go_num, by omega, by omega, HN⟩
    · obtain rfl : 16 = k := by omega
      have HW2 : Hid (Mut [M, b] W wr ∧ Mm wr b M 32 (wrt fw 16) 16) := hw
      clear hw HM hk hlt HMM HA
      obtain ⟨W2, rfl⟩ : ∃ W2, W2 = wr := ⟨_, rfl⟩
      have HF : Hid (Has 32 16 (wrt fw 16) fw) := has_wrt (fun i hi => by
          obtain ⟨a, h1, h2⟩ := HAD.out.1 i hi
          omega) HAD.out.2
      have HKA : Hid (Kept Wa W2) := HKW.out.1.muts HW2.out.1 (by have := HKW.out.2; simp; omega)
      have C2 : Hid (Calls Try.prog 30 #[.agg #[.int .i64 4, .int .i64 0, .int .i64 0, .int .i64 1, .int .i64 1, .int .i64 0, .int .i64 1, .int .i64 0, .slice (some ⟨w.heap.size + 1, 0, none⟩) 1 1], .int .i64 0, .int .i64 1] W2 _) := elem_new 4 0 0 1 1 0 1 0 _ 1 1 (F1 w.heap.size) (fun _ _ => false) 0 1 W2 (HB.out.2.1.kept HKA.out) (fun i hi => HB.out.2.2.1.kept HKA.out) (asks_first _ rfl rfl).zero.1.1 (by omega)
      have hcf := HB.out.2.2.2.kept HKA.out
      have c0 := hcf.at 0 rfl
      have c1 := hcf.at 1 rfl
      have c2 := hcf.at 2 rfl
      have c3 := hcf.at 3 rfl
      have c4 := hcf.at 4 rfl
      have c5 := hcf.at 5 rfl
      have c6 := hcf.at 6 rfl
      have c7 := hcf.at 7 rfl
      have c8 := hcf.at 8 rfl
      clear hcf
      go_wp2_with fail
      refine C2.out.mono ?_
      rintro e W3 ⟨p, E, rfl, hF, hp, K3, hE⟩
      obtain ⟨T, St, a, hgo, hst0, hTT, htl, ha⟩ := goes_elem (p := p) hE (k := 0) (by omega) (by rfl) (L := L1) (l := 2) (n' := 2) (at' := -1) (by omega) (by decide) (asks_first (F1 w.heap.size) rfl rfl).zero.1.2 (fun q => absurd q (by decide)) (F := wrt fw 16) (n := 32) (by have e : fw = arrF ((0 : Nat) : Int) 2 (modeA 2 L1 2) (fun _ => false) L1 2 (-1) := HFW.out; rw [← e]; exact HF.out) (m := 1) (by omega)
      have HGO : Hid (Goes p E 32 (wrt fw 16) T St) := hgo
      have HT : Hid (T = 4) := hTT
      have HTL : Hid ((St T).at' = 25 ∧ (St T).er = 0 ∧ (St T).rf = false) := ⟨by rw [htl.at_, ha]; decide, htl.er, htl.rf⟩
      have hT7 : T ≤ 7 := hgo.hi
      have hsz := HW2.out.1.size
      have HS0 : Hid (FS W3 p E (St 0) ∧ Mm W3 b M 32 (wrt fw 16) 16 ∧ b < p ∧ M < p) := ⟨by rw [hst0]; exact hF, HW2.out.2.kept K3, by have := HW2.out.2.row.lt; omega, by have := HW2.out.2.hd.lt; omega⟩
      have HK3 : Hid (Kept w W3 ∧ w.heap.size ≤ p ∧ w.heap.size ≤ M) := ⟨(HB.out.1.trans HKA.out).trans K3, by have := (HB.out.1.trans HKA.out).size; omega, by have := HKW.out.2; have := HB.out.1.size; omega⟩
      obtain ⟨F, hF0⟩ : ∃ F, F = wrt fw 16 := ⟨_, rfl⟩
      rw [← hF0] at HGO HS0
      obtain ⟨n, hn0⟩ : ∃ n, n = 32 := ⟨_, rfl⟩
      rw [← hn0] at HGO HS0
      clear hgo hst0 hTT htl ha hE hF hp K3 hF0 hn0 C2 c0 c1 c2 c3 c4 c5 c6 c7 c8 hsz HF HW2 HAD HWS
      go_wp2_with fail
      go_loopg [7] T (fun m i wr => ∃ t : Nat, i = .int .i64 t ∧ t ≤ T ∧ m = T - t ∧ Hid (FS wr p E (St t) ∧ Mm wr b M n F (16 + t) ∧ Mut [p, M] W3 wr))
      case atStart => exact ⟨0, rfl, by omega, by omega, HS0.out.1, HS0.out.2.1, Mut.refl _ _⟩
      case round =>
        obtain ⟨t, rfl, ht, hm, hw⟩ := hrel
        have HM : Hid _ := hm
        clear hm
        by_cases hlt : t < T
        · have h8 : ((St t).st == 8) = false := by rw [HGO.out.st t ht]; simp; omega
          have h10 : (t : Int) < 10 := by omega
          have hcc : 16 + t ≤ 100000 := by omega
          go_wp2_with fail
          refine (done_is false _ hw.out.1 h8).mono ?_
          rintro e w4 ⟨rfl, rfl⟩
          go_wp2_with fail
          refine (HGO.out.step t hlt b M (16 + t) _ hw.out.1 hw.out.2.1 HS0.out.2.2.1 HS0.out.2.2.2 hcc).mono ?_
          rintro e w5 ⟨rfl, x1, x2, x3⟩
          have HN : Hid (FS w5 p E (St (t + 1)) ∧ Mm w5 b M n F (16 + (t + 1)) ∧ Mut [p, M] W3 w5) := ⟨x1, x2, hw.out.2.2.trans x3⟩
          clear x1 x2 x3 hw h8
          go_wp2
          go_roundg (T - (t + 1))
          case measure => have := HM.out; omega
          case rel => exact ⟨t + 1, by go_num, by omega, by omega, HN⟩
        · obtain rfl : T = t := by omega
          have h8 : ((St T).st == 8) = true := by rw [HGO.out.st T ht]; simp
          have h10 : (T : Int) < 10 := by omega
          go_wp2_with fail
          refine (done_is true _ hw.out.1 h8).mono ?_
          rintro e w4 ⟨rfl, rfl⟩
          have HW4 : Hid (FS w4 p E (St T) ∧ Mm w4 b M n F (16 + T) ∧ Mut [p, M] W3 w4) := hw
          clear hw HM h8 ht hlt
          have hsp : (St T).sp = T := HGO.out.sp
          have hT4 : T = 4 := HT.out
          have e4 : ((T : Int) == 4) = true := by simp [hT4]
          have ha25 : (St T).at' = 25 := HTL.out.1
          have her : (St T).er = 0 := HTL.out.2.1
          have hrf : (St T).rf = false := HTL.out.2.2
          clear hT4
          go_wp2_with fail
          refine (steps_is _ HW4.out.1).mono ?_
          rintro e w5 ⟨rfl, rfl⟩
          rw [hsp]
          go_wp2_with fail
          refine (at_is _ HW4.out.1).mono ?_
          rintro e w6 ⟨rfl, rfl⟩
          rw [ha25]
          go_wp2_with fail
          refine (errno_is _ HW4.out.1).mono ?_
          rintro e w7 ⟨rfl, rfl⟩
          rw [her]
          go_wp2_with fail
          refine (ref_is _ HW4.out.1 (by rw [ha25]; omega)).mono ?_
          rintro e w8 ⟨rfl, rfl⟩
          rw [hrf]
          go_wp2
          go_ret
          exact ⟨rfl, HK3.out.1.muts HW4.out.2.2 (by have := HK3.out.2; simp; omega)⟩
end Go.Proofs.Ytpdclckgnajcdaa
