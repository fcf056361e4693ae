/-
  Contracts of package plan's sentinelWords and spineWords.
-/
import Derived.Test.YtpdclckgnajcdaaGreatPlan6
import Derived.Test.YtpdclckgnajcdaaGreatRow
namespace Go.Proofs.YtpdclckgnajcdaaGreat
open Go.RowKit
attribute [local go_sem] run_store_complex

theorem sent_done {kind n mode : Int} {L : Nat → Int} {l : Nat} {at' : Int} (F : Nat → Cx) (h : ∀ j, j < 8 → F j = sentW kind n mode L l at' j) {w : World} {b : Nat} (hb : Blk w b (eight F)) : Blk w b (eight (sentW kind n mode L l at')) := by
  rw [← eight_congr h]
  exact hb

def sentP (kind n mode : Int) (j : Nat) : Cx := if j = 0 then cn else if j = 1 then ch kind 0 else if j = 2 then cw n else if j = 3 then cw mode else cz

theorem sentP_put {kind n mode : Int} (j : Nat) (hj : j < 8) : (if j = 3 then cw mode else if j = 2 then cw n else if j = 1 then ch kind 0 else if j = 0 then cn else cz) = sentP kind n mode j := by
  unfold sentP
  rcases lt8 hj with rfl | rfl | rfl | rfl | rfl | rfl | rfl | rfl <;> simp
theorem sent_0 {kind n mode : Int} {L : Nat → Int} {l : Nat} {at' : Int} (hm : mode = 0) (j : Nat) (hj : j < 8) : (if 4 ≤ j ∧ j < 4 + 4 then refAt L l (j - 3) else sentP kind n mode j) = sentW kind n mode L l at' j := by
  unfold sentW sentP
  rcases lt8 hj with rfl | rfl | rfl | rfl | rfl | rfl | rfl | rfl <;> simp [hm]
theorem sent_1 {kind n mode : Int} {L : Nat → Int} {l : Nat} {at' : Int} (hm : mode = 1) (j : Nat) (hj : j < 8) : (if j = 4 then cw at' else sentP kind n mode j) = sentW kind n mode L l at' j := by
  unfold sentW sentP
  rcases lt8 hj with rfl | rfl | rfl | rfl | rfl | rfl | rfl | rfl <;> simp [hm]
theorem sent_2 {kind n mode : Int} {L : Nat → Int} {l : Nat} {at' : Int} (hm : mode = 2) (j : Nat) (hj : j < 8) : (if j = 4 then refAt L l 1 else sentP kind n mode j) = sentW kind n mode L l at' j := by
  unfold sentW sentP
  rcases lt8 hj with rfl | rfl | rfl | rfl | rfl | rfl | rfl | rfl <;> simp [hm]

set_option maxHeartbeats 4000000 in
theorem sentinelWords_any (kind n mode : Int) {x : Option Addr} {l c : Nat} {L : Nat → Int} (at' : Int) (w : World) (hk : 0 ≤ kind ∧ kind ≤ 1000) (hn : 0 ≤ n ∧ n ≤ 1000) (hm : mode = 0 ∨ mode = 1 ∨ mode = 2) (ha : mode = 1 → 0 ≤ at' ∧ at' ≤ 1000000)
    (hx : Rdf w x l L) (hL : ∀ j, j < l → 0 ≤ L j ∧ L j ≤ 1024) :
    Calls Tryz.prog 37 #[.int .i64 kind, .int .i64 n, .int .i64 mode, .slice x l c, .int .i64 at'] w fun e w' => e = .returned (.agg (eight (sentW kind n mode L l at')).toArray) ∧ Kept w w' := by
  have C0 : Hid (∀ (i : Nat) w', Kept w w' → Calls Tryz.prog 57 #[.slice x l c, .int .i64 (i : Int)] w' _) := fun i w' k => reference_any (c := c) i w' (hx.kept k) hL
  have C1 : Hid (∀ w, Calls Tryz.prog 58 #[.int .i64 kind, .int .i64 0] w _) := fun w => head_in kind 0 w (by omega) (by omega) (by omega) (by omega)
  have C2 : Hid (∀ w, Calls Tryz.prog 65 #[.int .i64 n] w _) := fun w => whole_in n w (by omega) (by omega)
  have C3 : Hid (∀ w, Calls Tryz.prog 65 #[.int .i64 mode] w _) := fun w => whole_in mode w (by omega) (by omega)
  have HA : Hid (mode = 1 → 0 ≤ at' ∧ at' ≤ 1000000) := ha
  have HM : Hid (mode = 0 ∨ mode = 1 ∨ mode = 2) := hm
  clear hx hL ha hm hk hn
  go_enter Tryz.func37, Tryz.ntmps37
  go_wp2_with fail
  generalize hW1 : w.alloc _ = W1
  have z1 : W1.heap.size = w.heap.size + 1 := by rw [← hW1]; simp
  have b1 : Blk W1 w.heap.size (eight fun _ => cz) := by rw [← hW1]; exact Blk.new w (eight fun _ => cz) _
  have k1 : Kept w W1 := by rw [← hW1]; exact (Kept.refl w).alloc _ _
  clear hW1
  generalize hW2 : W1.alloc _ = W2
  have b2 : Blk W2 (w.heap.size + 1) (eight fun _ => cz) := by rw [← hW2, ← z1]; exact Blk.new W1 (eight fun _ => cz) _
  have k2 : Kept W1 W2 := by rw [← hW2]; exact (Kept.refl W1).alloc _ _
  have H0 : Hid (Kept w W2 ∧ Blk W2 w.heap.size (eight fun _ => cz) ∧ Blk W2 (w.heap.size + 1) (eight fun _ => cz)) := ⟨k1.trans k2, b1.kept k2, b2⟩
  clear hW2 z1 b1 b2 k1 k2
  refine (none_any _).mono ?_
  rintro e u0 ⟨rfl, rfl⟩
  have d0 := H0.out.2.2.at 0 rfl
  have f0 := H0.out.2.2.fz
  go_wp2_with fail
  generalize hW3 : u0.setCell _ _ = W3
  have H1 : Hid (Kept w W3 ∧ Blk W3 w.heap.size (eight fun _ => cz) ∧ Blk W3 (w.heap.size + 1) (eight fun j => if j = 0 then cn else cz)) := by
    rw [← hW3]
    exact ⟨H0.out.1.setCell (by simp) _, H0.out.2.1.set_other (by simp) _, H0.out.2.2.put (by omega) cn fun _ _ => rfl⟩
  clear hW3 H0 d0 f0
  refine (C1.out _).mono ?_
  rintro e u1 ⟨rfl, rfl⟩
  have d0 := H1.out.2.2.at 1 rfl
  have f0 := H1.out.2.2.fz
  go_wp2_with fail
  generalize hW4 : u1.setCell _ _ = W4
  have H2 : Hid (Kept w W4 ∧ Blk W4 w.heap.size (eight fun _ => cz) ∧ Blk W4 (w.heap.size + 1) (eight fun j => if j = 1 then ch kind 0 else if j = 0 then cn else cz)) := by
    rw [← hW4]
    exact ⟨H1.out.1.setCell (by simp) _, H1.out.2.1.set_other (by simp) _, H1.out.2.2.put (by omega) (ch kind 0) fun _ _ => rfl⟩
  clear hW4 H1 d0 f0
  refine (C2.out _).mono ?_
  rintro e u2 ⟨rfl, rfl⟩
  have d0 := H2.out.2.2.at 2 rfl
  have f0 := H2.out.2.2.fz
  go_wp2_with fail
  generalize hW5 : u2.setCell _ _ = W5
  have H3 : Hid (Kept w W5 ∧ Blk W5 w.heap.size (eight fun _ => cz) ∧ Blk W5 (w.heap.size + 1) (eight fun j => if j = 2 then cw n else if j = 1 then ch kind 0 else if j = 0 then cn else cz)) := by
    rw [← hW5]
    exact ⟨H2.out.1.setCell (by simp) _, H2.out.2.1.set_other (by simp) _, H2.out.2.2.put (by omega) (cw n) fun _ _ => rfl⟩
  clear hW5 H2 d0 f0
  refine (C3.out _).mono ?_
  rintro e u3 ⟨rfl, rfl⟩
  have d0 := H3.out.2.2.at 3 rfl
  have f0 := H3.out.2.2.fz
  have H4 : Hid (Kept w (u3.setCell ⟨w.heap.size + 1, 3, none⟩ (.complex .f64 (cw mode).re (cw mode).im)) ∧ Blk (u3.setCell ⟨w.heap.size + 1, 3, none⟩ (.complex .f64 (cw mode).re (cw mode).im)) w.heap.size (eight fun _ => cz) ∧ Blk (u3.setCell ⟨w.heap.size + 1, 3, none⟩ (.complex .f64 (cw mode).re (cw mode).im)) (w.heap.size + 1) (eight (sentP kind n mode))) := by
    refine ⟨H3.out.1.setCell (by simp) _, H3.out.2.1.set_other (by simp) _, H3.out.2.2.put (by omega) (cw mode) fun j hj => ?_⟩
    exact sentP_put j hj
  clear H3
  rcases HM.out with hm | hm | hm
  ·   have e0 : (mode == 0) = true := by simp [hm]
      have HM0 : Hid (mode = 0) := hm
      clear hm
      go_wp2_with fail
      generalize hW6 : u3.setCell _ _ = W6
      have H5 : Hid (Kept w W6 ∧ Blk W6 w.heap.size (eight fun _ => cz) ∧ Blk W6 (w.heap.size + 1) (eight fun j => if 4 ≤ j ∧ j < 4 + 0 then refAt L l (j - 3) else sentP kind n mode j)) := by
        rw [← hW6]
        refine ⟨H4.out.1, H4.out.2.1, ?_⟩
        rw [← eight_congr (F := sentP kind n mode) (fun j hj => by rw [if_neg (by omega)])]
        exact H4.out.2.2
      clear hW6 H4 d0 f0
      go_loopg [31] 4 (fun m v wr => ∃ k : Nat, v = .int .i64 k ∧ k ≤ 4 ∧ m = 4 - k ∧ Hid (Kept w wr ∧ Blk wr w.heap.size (eight fun _ => cz) ∧ Blk wr (w.heap.size + 1) (eight fun j => if 4 ≤ j ∧ j < 4 + k then refAt L l (j - 3) else sentP kind n mode j)))
      case atStart => exact ⟨0, rfl, by omega, by omega, H5⟩
      case round =>
        obtain ⟨k, rfl, hk0, hmm, hw⟩ := hrel
        have HMM : Hid _ := hmm
        clear hmm H5
        by_cases hlt : k < 4
        · have C4 : Hid (Calls Tryz.prog 57 #[.slice x l c, .int .i64 (1 + (k : Int))] wr _) := C0.out (1 + k) wr hw.out.1
          go_wp2_with fail
          refine C4.out.mono ?_
          rintro e w4 ⟨rfl, rfl⟩
          have h8 : 4 + k < 8 := by omega
          have d1 : w4.cell? ⟨w.heap.size + 1, 4 + k, none⟩ = _ := hw.out.2.2.at (4 + k) (eight_get _ h8)
          have f1 := hw.out.2.2.fz
          have HV2 : Hid (Kept w (w4.setCell ⟨w.heap.size + 1, 4 + k, none⟩ (.complex .f64 (refAt L l (1 + k)).re (refAt L l (1 + k)).im)) ∧ Blk (w4.setCell ⟨w.heap.size + 1, 4 + k, none⟩ (.complex .f64 (refAt L l (1 + k)).re (refAt L l (1 + k)).im)) w.heap.size (eight fun _ => cz) ∧ Blk (w4.setCell ⟨w.heap.size + 1, 4 + k, none⟩ (.complex .f64 (refAt L l (1 + k)).re (refAt L l (1 + k)).im)) (w.heap.size + 1) (eight fun j => if 4 ≤ j ∧ j < 4 + (k + 1) then refAt L l (j - 3) else sentP kind n mode j)) := by
            refine ⟨hw.out.1.setCell (by simp) _, hw.out.2.1.set_other (by simp <;> omega) _, hw.out.2.2.put h8 (refAt L l (1 + k)) fun j hj => ?_⟩
            by_cases e1 : j = 4 + k
            · have e2 : 4 ≤ j ∧ j < 4 + (k + 1) := by omega
              have e3 : 1 + k = j - 3 := by omega
              rw [if_pos e1, if_pos e2, e3]
            · have e2 : (4 ≤ j ∧ j < 4 + (k + 1)) ↔ (4 ≤ j ∧ j < 4 + k) := by omega
              simp only [if_neg e1, e2]
          clear hw C4 h8
          go_wp2
          go_roundg (gk - 1)
          all_goals (have := HMM.out; try omega)
          exact ⟨k + 1, by go_num, by omega, by omega, HV2⟩
        · obtain rfl : k = 4 := by omega
          obtain ⟨F, hF⟩ : ∃ F : Nat → Cx, F = sentW kind n mode L l at' := ⟨_, rfl⟩
          have hw : Hid (Kept w wr ∧ Blk wr w.heap.size (eight fun _ => cz) ∧ Blk wr (w.heap.size + 1) (eight F)) := by
            refine ⟨hw.out.1, hw.out.2.1, ?_⟩
            rw [hF]
            refine sent_done _ (fun j hj => ?_) hw.out.2.2
            exact sent_0 HM0.out j hj
          have HF : Hid (F = sentW kind n mode L l at') := hF
          clear hF
          go_upto_region 18 with fail
          have hrb : Hid (w.heap.size < wr.heap.size) := hw.out.2.1.lt
          refine wp_region_row [.agg (eight F).toArray, undef] [(54, 0)] [_, _, _, _, _, _, _, _, _, _, _, _, _, _, _, _, _, _, _, _, _, _, _, _, _, _, _, _, _, _, _, _, _, _, _, _, _, _, _, _, _, _, _, _, _, _, _, _, _, _, _, _, _, _, _] (fun i u => if i < 2 then u = wr else Blk u w.heap.size (eight F) ∧ Kept w u) (by kernel_rfl) (by kernel_rfl) rfl rfl ?_ ?_
          · intro i o ho a u hh hj
            match i, ho with
            | 0, ho =>
              simp only [List.getElem?_cons_zero, Option.some.injEq] at ho
              subst ho
              obtain rfl : u = wr := by simpa using hj
              have g11 : a.tmps[11]? = some (.pointer (some ⟨w.heap.size + 1, 0, none⟩)) := hh.old 11 (by kernel_rfl) rfl
              have b2 := hw.out.2.2
              have d0 := b2.at 0 rfl
              have d1 := b2.at 1 rfl
              have d2 := b2.at 2 rfl
              have d3 := b2.at 3 rfl
              have d4 := b2.at 4 rfl
              have d5 := b2.at 5 rfl
              have d6 := b2.at 6 rfl
              have d7 := b2.at 7 rfl
              clear hh hj b2
              refine wpOp_step rfl (fun K hK => ?_)
              go_simp
              exact hK _ _ ⟨by simp [Act.put, eight], by simp⟩
            | 1, ho =>
              simp only [List.getElem?_cons_succ, List.getElem?_cons_zero, Option.some.injEq] at ho
              subst ho
              obtain rfl : u = wr := by simpa using hj
              have g10 : a.tmps[10]? = some (.pointer (some ⟨w.heap.size, 0, none⟩)) := hh.old 10 (by kernel_rfl) rfl
              have g54 : a.tmps[54]? = some (.agg #[.complex .f64 (F 0).re (F 0).im, .complex .f64 (F 1).re (F 1).im, .complex .f64 (F 2).re (F 2).im, .complex .f64 (F 3).re (F 3).im, .complex .f64 (F 4).re (F 4).im, .complex .f64 (F 5).re (F 5).im, .complex .f64 (F 6).re (F 6).im, .complex .f64 (F 7).re (F 7).im]) := hh.did 0 _ 54 rfl rfl rfl
              have b1 := hw.out.2.1
              have q0 := b1.at 0 rfl
              have q1 := b1.at 1 rfl
              have q2 := b1.at 2 rfl
              have q3 := b1.at 3 rfl
              have q4 := b1.at 4 rfl
              have q5 := b1.at 5 rfl
              have q6 := b1.at 6 rfl
              have q7 := b1.at 7 rfl
              have f1 := b1.fz
              clear hh hj b1
              refine wpOp_step rfl (fun K hK => ?_)
              go_simp
              refine hK _ _ ⟨by simp [Act.put], ?_⟩
              simp only [Nat.reduceAdd, Nat.lt_irrefl, if_false]
              refine ⟨((((((((hw.out.2.1.set (i := 0) rfl _).set (i := 1) rfl _).set (i := 2) rfl _).set (i := 3) rfl _).set (i := 4) rfl _).set (i := 5) rfl _).set (i := 6) rfl _).set (i := 7) rfl _), (((((((hw.out.1.setCell ?_ _).setCell ?_ _).setCell ?_ _).setCell ?_ _).setCell ?_ _).setCell ?_ _).setCell ?_ _).setCell ?_ _⟩
              all_goals simp
            | n + 2, ho => simp at ho
          · intro u hj
            have hj1 : Blk u w.heap.size (eight F) ∧ Kept w u := by simpa using hj
            have hj2 : Hid (Blk u w.heap.size (eight F) ∧ Kept w u) := hj1
            clear hj hj1 hw
            go_wp2
            (try simp only [Exit.inBlock, Exit.then])
            exact bodyPost_ret_by (results_arr rfl _ _ w.heap.size (eight F) rfl hj2.out.1 Tryz.underlying69 (by kernel_rfl)) rfl ⟨by rw [← HF.out], hj2.out.2⟩
  ·   have e0 : (mode == 0) = false := by simp [hm]
      have e1 : (mode == 1) = true := by simp [hm]
      have HM0 : Hid (mode = 1) := hm
      have hA := HA.out hm
      have C4 : Hid (∀ w, Calls Tryz.prog 65 #[.int .i64 at'] w _) := fun w => whole_in at' w (by omega) (by omega)
      clear hm hA
      go_wp2_with fail
      generalize hW6 : u3.setCell _ _ = W6
      have H5 : Hid (Kept w W6 ∧ Blk W6 w.heap.size (eight fun _ => cz) ∧ Blk W6 (w.heap.size + 1) (eight (sentP kind n mode))) := by
        rw [← hW6]
        exact H4.out
      clear hW6 H4 d0 f0
      refine (C4.out _).mono ?_
      rintro e w4 ⟨rfl, rfl⟩
      have d0 := H5.out.2.2.at 4 rfl
      have f0 := H5.out.2.2.fz
      obtain ⟨F, hF⟩ : ∃ F : Nat → Cx, F = sentW kind n mode L l at' := ⟨_, rfl⟩
      have hw4 : Hid (Kept w (w4.setCell ⟨w.heap.size + 1, 4, none⟩ (.complex .f64 (cw at').re (cw at').im)) ∧ Blk (w4.setCell ⟨w.heap.size + 1, 4, none⟩ (.complex .f64 (cw at').re (cw at').im)) w.heap.size (eight fun _ => cz) ∧ Blk (w4.setCell ⟨w.heap.size + 1, 4, none⟩ (.complex .f64 (cw at').re (cw at').im)) (w.heap.size + 1) (eight F)) := by
        refine ⟨H5.out.1.setCell (by simp) _, H5.out.2.1.set_other (by simp <;> omega) _, ?_⟩
        rw [hF]
        refine H5.out.2.2.put (by omega) (cw at') fun j hj => ?_
        exact sent_1 HM0.out j hj
      have HF : Hid (F = sentW kind n mode L l at') := hF
      clear hF H5
      go_upto_region 18 with fail
      generalize hW9 : w4.setCell _ _ = wr
      have hw : Hid (Kept w wr ∧ Blk wr w.heap.size (eight fun _ => cz) ∧ Blk wr (w.heap.size + 1) (eight F)) := by
        rw [← hW9]
        exact hw4.out
      clear hw4 d0 f0 hW9
      have hrb : Hid (w.heap.size < wr.heap.size) := hw.out.2.1.lt
      refine wp_region_row [.agg (eight F).toArray, undef] [(54, 0)] [_, _, _, _, _, _, _, _, _, _, _, _, _, _, _, _, _, _, _, _, _, _, _, _, _, _, _, _, _, _, _, _, _, _, _, _, _, _, _, _, _, _, _, _, _, _, _, _, _, _, _, _, _, _, _] (fun i u => if i < 2 then u = wr else Blk u w.heap.size (eight F) ∧ Kept w u) (by kernel_rfl) (by kernel_rfl) rfl rfl ?_ ?_
      · intro i o ho a u hh hj
        match i, ho with
        | 0, ho =>
          simp only [List.getElem?_cons_zero, Option.some.injEq] at ho
          subst ho
          obtain rfl : u = wr := by simpa using hj
          have g11 : a.tmps[11]? = some (.pointer (some ⟨w.heap.size + 1, 0, none⟩)) := hh.old 11 (by kernel_rfl) rfl
          have b2 := hw.out.2.2
          have d0 := b2.at 0 rfl
          have d1 := b2.at 1 rfl
          have d2 := b2.at 2 rfl
          have d3 := b2.at 3 rfl
          have d4 := b2.at 4 rfl
          have d5 := b2.at 5 rfl
          have d6 := b2.at 6 rfl
          have d7 := b2.at 7 rfl
          clear hh hj b2
          refine wpOp_step rfl (fun K hK => ?_)
          go_simp
          exact hK _ _ ⟨by simp [Act.put, eight], by simp⟩
        | 1, ho =>
          simp only [List.getElem?_cons_succ, List.getElem?_cons_zero, Option.some.injEq] at ho
          subst ho
          obtain rfl : u = wr := by simpa using hj
          have g10 : a.tmps[10]? = some (.pointer (some ⟨w.heap.size, 0, none⟩)) := hh.old 10 (by kernel_rfl) rfl
          have g54 : a.tmps[54]? = some (.agg #[.complex .f64 (F 0).re (F 0).im, .complex .f64 (F 1).re (F 1).im, .complex .f64 (F 2).re (F 2).im, .complex .f64 (F 3).re (F 3).im, .complex .f64 (F 4).re (F 4).im, .complex .f64 (F 5).re (F 5).im, .complex .f64 (F 6).re (F 6).im, .complex .f64 (F 7).re (F 7).im]) := hh.did 0 _ 54 rfl rfl rfl
          have b1 := hw.out.2.1
          have q0 := b1.at 0 rfl
          have q1 := b1.at 1 rfl
          have q2 := b1.at 2 rfl
          have q3 := b1.at 3 rfl
          have q4 := b1.at 4 rfl
          have q5 := b1.at 5 rfl
          have q6 := b1.at 6 rfl
          have q7 := b1.at 7 rfl
          have f1 := b1.fz
          clear hh hj b1
          refine wpOp_step rfl (fun K hK => ?_)
          go_simp
          refine hK _ _ ⟨by simp [Act.put], ?_⟩
          simp only [Nat.reduceAdd, Nat.lt_irrefl, if_false]
          refine ⟨((((((((hw.out.2.1.set (i := 0) rfl _).set (i := 1) rfl _).set (i := 2) rfl _).set (i := 3) rfl _).set (i := 4) rfl _).set (i := 5) rfl _).set (i := 6) rfl _).set (i := 7) rfl _), (((((((hw.out.1.setCell ?_ _).setCell ?_ _).setCell ?_ _).setCell ?_ _).setCell ?_ _).setCell ?_ _).setCell ?_ _).setCell ?_ _⟩
          all_goals simp
        | n + 2, ho => simp at ho
      · intro u hj
        have hj1 : Blk u w.heap.size (eight F) ∧ Kept w u := by simpa using hj
        have hj2 : Hid (Blk u w.heap.size (eight F) ∧ Kept w u) := hj1
        clear hj hj1 hw
        go_wp2
        (try simp only [Exit.inBlock, Exit.then])
        exact bodyPost_ret_by (results_arr rfl _ _ w.heap.size (eight F) rfl hj2.out.1 Tryz.underlying69 (by kernel_rfl)) rfl ⟨by rw [← HF.out], hj2.out.2⟩
  ·   have e0 : (mode == 0) = false := by simp [hm]
      have e1 : (mode == 1) = false := by simp [hm]
      have e2 : (mode == 2) = true := by simp [hm]
      have HM0 : Hid (mode = 2) := hm
      clear hm
      go_wp2_with fail
      generalize hW6 : u3.setCell _ _ = W6
      have H5 : Hid (Kept w W6 ∧ Blk W6 w.heap.size (eight fun _ => cz) ∧ Blk W6 (w.heap.size + 1) (eight (sentP kind n mode))) := by
        rw [← hW6]
        exact H4.out
      clear hW6 H4 d0 f0
      have C4 : Hid (Calls Tryz.prog 57 #[.slice x l c, .int .i64 1] W6 _) := C0.out 1 W6 H5.out.1
      refine C4.out.mono ?_
      rintro e w4 ⟨rfl, rfl⟩
      have d0 := H5.out.2.2.at 4 rfl
      have f0 := H5.out.2.2.fz
      obtain ⟨F, hF⟩ : ∃ F : Nat → Cx, F = sentW kind n mode L l at' := ⟨_, rfl⟩
      have hw4 : Hid (Kept w (w4.setCell ⟨w.heap.size + 1, 4, none⟩ (.complex .f64 (refAt L l 1).re (refAt L l 1).im)) ∧ Blk (w4.setCell ⟨w.heap.size + 1, 4, none⟩ (.complex .f64 (refAt L l 1).re (refAt L l 1).im)) w.heap.size (eight fun _ => cz) ∧ Blk (w4.setCell ⟨w.heap.size + 1, 4, none⟩ (.complex .f64 (refAt L l 1).re (refAt L l 1).im)) (w.heap.size + 1) (eight F)) := by
        refine ⟨H5.out.1.setCell (by simp) _, H5.out.2.1.set_other (by simp <;> omega) _, ?_⟩
        rw [hF]
        refine H5.out.2.2.put (by omega) (refAt L l 1) fun j hj => ?_
        exact sent_2 HM0.out j hj
      have HF : Hid (F = sentW kind n mode L l at') := hF
      clear hF H5 C4
      go_upto_region 18 with fail
      generalize hW9 : w4.setCell _ _ = wr
      have hw : Hid (Kept w wr ∧ Blk wr w.heap.size (eight fun _ => cz) ∧ Blk wr (w.heap.size + 1) (eight F)) := by
        rw [← hW9]
        exact hw4.out
      clear hw4 d0 f0 hW9
      have hrb : Hid (w.heap.size < wr.heap.size) := hw.out.2.1.lt
      refine wp_region_row [.agg (eight F).toArray, undef] [(54, 0)] [_, _, _, _, _, _, _, _, _, _, _, _, _, _, _, _, _, _, _, _, _, _, _, _, _, _, _, _, _, _, _, _, _, _, _, _, _, _, _, _, _, _, _, _, _, _, _, _, _, _, _, _, _, _, _] (fun i u => if i < 2 then u = wr else Blk u w.heap.size (eight F) ∧ Kept w u) (by kernel_rfl) (by kernel_rfl) rfl rfl ?_ ?_
      · intro i o ho a u hh hj
        match i, ho with
        | 0, ho =>
          simp only [List.getElem?_cons_zero, Option.some.injEq] at ho
          subst ho
          obtain rfl : u = wr := by simpa using hj
          have g11 : a.tmps[11]? = some (.pointer (some ⟨w.heap.size + 1, 0, none⟩)) := hh.old 11 (by kernel_rfl) rfl
          have b2 := hw.out.2.2
          have d0 := b2.at 0 rfl
          have d1 := b2.at 1 rfl
          have d2 := b2.at 2 rfl
          have d3 := b2.at 3 rfl
          have d4 := b2.at 4 rfl
          have d5 := b2.at 5 rfl
          have d6 := b2.at 6 rfl
          have d7 := b2.at 7 rfl
          clear hh hj b2
          refine wpOp_step rfl (fun K hK => ?_)
          go_simp
          exact hK _ _ ⟨by simp [Act.put, eight], by simp⟩
        | 1, ho =>
          simp only [List.getElem?_cons_succ, List.getElem?_cons_zero, Option.some.injEq] at ho
          subst ho
          obtain rfl : u = wr := by simpa using hj
          have g10 : a.tmps[10]? = some (.pointer (some ⟨w.heap.size, 0, none⟩)) := hh.old 10 (by kernel_rfl) rfl
          have g54 : a.tmps[54]? = some (.agg #[.complex .f64 (F 0).re (F 0).im, .complex .f64 (F 1).re (F 1).im, .complex .f64 (F 2).re (F 2).im, .complex .f64 (F 3).re (F 3).im, .complex .f64 (F 4).re (F 4).im, .complex .f64 (F 5).re (F 5).im, .complex .f64 (F 6).re (F 6).im, .complex .f64 (F 7).re (F 7).im]) := hh.did 0 _ 54 rfl rfl rfl
          have b1 := hw.out.2.1
          have q0 := b1.at 0 rfl
          have q1 := b1.at 1 rfl
          have q2 := b1.at 2 rfl
          have q3 := b1.at 3 rfl
          have q4 := b1.at 4 rfl
          have q5 := b1.at 5 rfl
          have q6 := b1.at 6 rfl
          have q7 := b1.at 7 rfl
          have f1 := b1.fz
          clear hh hj b1
          refine wpOp_step rfl (fun K hK => ?_)
          go_simp
          refine hK _ _ ⟨by simp [Act.put], ?_⟩
          simp only [Nat.reduceAdd, Nat.lt_irrefl, if_false]
          refine ⟨((((((((hw.out.2.1.set (i := 0) rfl _).set (i := 1) rfl _).set (i := 2) rfl _).set (i := 3) rfl _).set (i := 4) rfl _).set (i := 5) rfl _).set (i := 6) rfl _).set (i := 7) rfl _), (((((((hw.out.1.setCell ?_ _).setCell ?_ _).setCell ?_ _).setCell ?_ _).setCell ?_ _).setCell ?_ _).setCell ?_ _).setCell ?_ _⟩
          all_goals simp
        | n + 2, ho => simp at ho
      · intro u hj
        have hj1 : Blk u w.heap.size (eight F) ∧ Kept w u := by simpa using hj
        have hj2 : Hid (Blk u w.heap.size (eight F) ∧ Kept w u) := hj1
        clear hj hj1 hw
        go_wp2
        (try simp only [Exit.inBlock, Exit.then])
        exact bodyPost_ret_by (results_arr rfl _ _ w.heap.size (eight F) rfl hj2.out.1 Tryz.underlying69 (by kernel_rfl)) rfl ⟨by rw [← HF.out], hj2.out.2⟩
end Go.Proofs.YtpdclckgnajcdaaGreat
