/-
  Contracts of package find: lengths, modes, spines.
-/
import Derived.Test.YtpdclckgnajcdaaFind2
namespace Go.Proofs.Ytpdclckgnajcdaa
open Go.RowKit

section
variable {p : Nat} {E : En} {d : Fd}

set_option maxHeartbeats 800000 in
theorem measured_ok (l : Int) (w : World) (h : FS w p E d) (h1 : 0 ≤ d.nth ∧ d.nth < l) (h2 : l ≤ 512) :
    Calls Try.prog 101 #[.pointer (some ⟨p, 0, none⟩), .complex .f64 (cw l).re (cw l).im] w fun e w' => e = .returned (.tuple #[.int .i64 l, .int .i64 0]) ∧ w' = w := by
  have C0 : Hid (∀ w, Calls Try.prog 118 #[.complex .f64 (cw l).re (cw l).im] w _) := fun w => length_is l w (by omega)
  have c1 : w.cell? ⟨p, 10, none⟩ = some (.int .i64 d.nth) := h.b.at 10 rfl
  clear h
  generalize (cw l) = z at *
  generalize d.nth = i at *
  obtain ⟨h0, h1⟩ := h1
  have e0 : ¬ l < 0 := by omega
  have e1 : ¬ l > 512 := by omega
  have e2 : ¬ i < 0 := by omega
  have e3 : ¬ i ≥ l := by omega
  go_enter Try.func101, Try.ntmps101
  go_wp2_with fail
  refine (C0.out _).mono ?_
  rintro e w' ⟨rfl, rfl⟩
  go_wp2
  go_ret2
  exact ⟨rfl, rfl⟩

set_option maxHeartbeats 800000 in
theorem measured_out (l : Int) (w : World) (h : FS w p E d) (h1 : d.nth < 0 ∨ l ≤ d.nth) (h2 : 0 ≤ l ∧ l ≤ 512) :
    Calls Try.prog 101 #[.pointer (some ⟨p, 0, none⟩), .complex .f64 (cw l).re (cw l).im] w fun e w' => e = .returned (.tuple #[.int .i64 0, .int .i64 5]) ∧ w' = w := by
  have C0 : Hid (∀ w, Calls Try.prog 118 #[.complex .f64 (cw l).re (cw l).im] w _) := fun w => length_is l w (by omega)
  have c1 : w.cell? ⟨p, 10, none⟩ = some (.int .i64 d.nth) := h.b.at 10 rfl
  clear h
  generalize (cw l) = z at *
  generalize d.nth = i at *
  obtain ⟨h0, h2⟩ := h2
  have e0 : ¬ l < 0 := by omega
  have e1 : ¬ l > 512 := by omega
  by_cases e2 : i < 0
  · clear h1
    go_enter Try.func101, Try.ntmps101
    go_wp2_with fail
    refine (C0.out _).mono ?_
    rintro e w' ⟨rfl, rfl⟩
    go_wp2
    go_ret2
    exact ⟨rfl, rfl⟩
  · have e3 : i ≥ l := by omega
    clear h1
    go_enter Try.func101, Try.ntmps101
    go_wp2_with fail
    refine (C0.out _).mono ?_
    rintro e w' ⟨rfl, rfl⟩
    go_wp2
    go_ret2
    exact ⟨rfl, rfl⟩

def whereS (d : Fd) (m : Int) : Fd := if m = 0 then { d with st := 6, nx := d.head * 8 + (4 + d.nth / 8) } else if m = 1 then { d with st := 5, nx := d.head * 8 + 4 } else { d with st := 7, nx := d.head * 8 + 4 }

set_option maxHeartbeats 800000 in
theorem where_is {q : Fd} (m : Int) (w : World) (h : FS w p E q) (hm : 0 ≤ m ∧ m ≤ 2) (hh : 0 ≤ q.head ∧ q.head < E.n0) (h1 : m = 0 → 0 ≤ q.nth ∧ q.nth < 32) :
    Calls Try.prog 103 #[.pointer (some ⟨p, 0, none⟩), .int .i64 m] w fun e w' => e = .returned (.tuple #[]) ∧ FS w' p E (whereS q m) ∧ Mut [p] w w' := by
  have c1 : w.cell? ⟨p, 9, none⟩ = some (.int .i64 q.head) := h.b.at 9 rfl
  have c2 : w.cell? ⟨p, 10, none⟩ = some (.int .i64 q.nth) := h.b.at 10 rfl
  obtain ⟨h0, h2⟩ := hm
  rcases (by omega : m = 0 ∨ m = 1 ∨ m = 2) with rfl | rfl | rfl
  · obtain ⟨b1, b2⟩ := h1 rfl
    have CS : Hid (∀ u, FS u p E q → Calls Try.prog 100 #[.pointer (some ⟨p, 0, none⟩), .int .i64 6, .int .i64 q.head, .int .i64 (4 + q.nth / 8)] u _) := fun u hu => stand_is 6 q.head (4 + q.nth / 8) u hu hh (by omega)
    have HS : Hid (FS w p E q) := h
    have HQ : Hid (Int.tdiv q.nth 8 = q.nth / 8) := Int.tdiv_eq_ediv_of_nonneg b1
    clear h h1 c1 c2 hh
    go_enter Try.func103, Try.ntmps103
    go_wp2_with fail
    refine wp_region_phase [(.pointer (some ⟨p, 0, none⟩)), (.pointer (some ⟨p, 0, none⟩)), (.pointer (some ⟨p, 0, none⟩)), (.pointer (some ⟨p, 9, none⟩)), (.int .i64 q.head), (.pointer (some ⟨p, 0, none⟩)), (.pointer (some ⟨p, 0, none⟩)), (.pointer (some ⟨p, 10, none⟩)), (.int .i64 q.nth), (.int .i64 (q.nth / 8)), (.int .i64 (4 + q.nth / 8)), (.tuple #[])] [(7, 0), (8, 1), (9, 2), (10, 3), (11, 4), (12, 5), (13, 6), (14, 7), (15, 8), (16, 9), (17, 10), (18, 11)] [_, _, _, _, _, _, _, _, _, _, _, _, _, _, _, _, _, _, _, _, _, _, _, _, _, _, _, _, _, _, _, _, _, _, _] (fun d u => FS u p E (if d 11 then whereS q 0 else q) ∧ Mut [p] w u) (by kernel_rfl) (by kernel_rfl) (by kernel_rfl) (by kernel_rfl) rfl ?_ ?_ ?_
    · exact ⟨by simpa using HS.out.kept (Kept.refl _).drew, (Mut.refl _ _).drew⟩
    · intro i1 o ho a1 d u hh hj hi hd
      match i1, ho, hi, hd with
      | 0, ho, hi, hd =>
        simp only [List.getElem?_cons_zero, Option.some.injEq] at ho
        subst ho
        have g0 : a1.tmps[0]? = some (.pointer (some ⟨p, 0, none⟩)) := hh.old 0 (by kernel_rfl) rfl
        clear hh hd
        have HN : Hid (FS u p E (if done d 0 11 then whereS q 0 else q) ∧ Mut [p] w u) := (by simpa [done] using hj : FS u p E (if done d 0 11 then whereS q 0 else q) ∧ Mut [p] w u)
        clear hj hi
        refine wpOp_step rfl (fun K hK => ?_)
        go_simp
        exact hK _ _ ⟨by simp [Act.put], HN.out⟩
      | 1, ho, hi, hd =>
        simp only [List.getElem?_cons_succ, List.getElem?_cons_zero, Option.some.injEq] at ho
        subst ho
        have g0 : a1.tmps[0]? = some (.pointer (some ⟨p, 0, none⟩)) := hh.old 0 (by kernel_rfl) rfl
        clear hh hd
        have HN : Hid (FS u p E (if done d 1 11 then whereS q 0 else q) ∧ Mut [p] w u) := (by simpa [done] using hj : FS u p E (if done d 1 11 then whereS q 0 else q) ∧ Mut [p] w u)
        clear hj hi
        refine wpOp_step rfl (fun K hK => ?_)
        go_simp
        exact hK _ _ ⟨by simp [Act.put], HN.out⟩
      | 2, ho, hi, hd =>
        simp only [List.getElem?_cons_succ, List.getElem?_cons_zero, Option.some.injEq] at ho
        subst ho
        have g8 : a1.tmps[8]? = some (.pointer (some ⟨p, 0, none⟩)) := hh.did 1 _ 8 rfl rfl (hd { on := 1, ground := .data } (by simp) rfl)
        clear hh hd
        have HN : Hid (FS u p E (if done d 2 11 then whereS q 0 else q) ∧ Mut [p] w u) := (by simpa [done] using hj : FS u p E (if done d 2 11 then whereS q 0 else q) ∧ Mut [p] w u)
        clear hj hi
        refine wpOp_step rfl (fun K hK => ?_)
        go_simp
        exact hK _ _ ⟨by simp [Act.put], HN.out⟩
      | 3, ho, hi, hd =>
        simp only [List.getElem?_cons_succ, List.getElem?_cons_zero, Option.some.injEq] at ho
        subst ho
        have g9 : a1.tmps[9]? = some (.pointer (some ⟨p, 0, none⟩)) := hh.did 2 _ 9 rfl rfl (hd { on := 2, ground := .data } (by simp) rfl)
        clear hh hd
        have HN : Hid (FS u p E (if done d 3 11 then whereS q 0 else q) ∧ Mut [p] w u) := (by simpa [done] using hj : FS u p E (if done d 3 11 then whereS q 0 else q) ∧ Mut [p] w u)
        clear hj hi
        refine wpOp_step rfl (fun K hK => ?_)
        go_simp
        exact hK _ _ ⟨by simp [Act.put], HN.out⟩
      | 4, ho, hi, hd =>
        simp only [List.getElem?_cons_succ, List.getElem?_cons_zero, Option.some.injEq] at ho
        subst ho
        have g10 : a1.tmps[10]? = some (.pointer (some ⟨p, 9, none⟩)) := hh.did 3 _ 10 rfl rfl (hd { on := 3, ground := .data } (by simp) rfl)
        have c9 : u.cell? ⟨p, 9, none⟩ = some (.int .i64 q.head) := by
          have B := hj.1
          cases hb : d 11 <;> simp only [hb, if_true, Bool.false_eq_true, if_false] at B <;> exact B.b.at 9 rfl
        clear hh hd
        have HN : Hid (FS u p E (if done d 4 11 then whereS q 0 else q) ∧ Mut [p] w u) := (by simpa [done] using hj : FS u p E (if done d 4 11 then whereS q 0 else q) ∧ Mut [p] w u)
        clear hj hi
        refine wpOp_step rfl (fun K hK => ?_)
        go_simp
        exact hK _ _ ⟨by simp [Act.put], HN.out⟩
      | 5, ho, hi, hd =>
        simp only [List.getElem?_cons_succ, List.getElem?_cons_zero, Option.some.injEq] at ho
        subst ho
        have g0 : a1.tmps[0]? = some (.pointer (some ⟨p, 0, none⟩)) := hh.old 0 (by kernel_rfl) rfl
        clear hh hd
        have HN : Hid (FS u p E (if done d 5 11 then whereS q 0 else q) ∧ Mut [p] w u) := (by simpa [done] using hj : FS u p E (if done d 5 11 then whereS q 0 else q) ∧ Mut [p] w u)
        clear hj hi
        refine wpOp_step rfl (fun K hK => ?_)
        go_simp
        exact hK _ _ ⟨by simp [Act.put], HN.out⟩
      | 6, ho, hi, hd =>
        simp only [List.getElem?_cons_succ, List.getElem?_cons_zero, Option.some.injEq] at ho
        subst ho
        have g12 : a1.tmps[12]? = some (.pointer (some ⟨p, 0, none⟩)) := hh.did 5 _ 12 rfl rfl (hd { on := 5, ground := .data } (by simp) rfl)
        clear hh hd
        have HN : Hid (FS u p E (if done d 6 11 then whereS q 0 else q) ∧ Mut [p] w u) := (by simpa [done] using hj : FS u p E (if done d 6 11 then whereS q 0 else q) ∧ Mut [p] w u)
        clear hj hi
        refine wpOp_step rfl (fun K hK => ?_)
        go_simp
        exact hK _ _ ⟨by simp [Act.put], HN.out⟩
      | 7, ho, hi, hd =>
        simp only [List.getElem?_cons_succ, List.getElem?_cons_zero, Option.some.injEq] at ho
        subst ho
        have g13 : a1.tmps[13]? = some (.pointer (some ⟨p, 0, none⟩)) := hh.did 6 _ 13 rfl rfl (hd { on := 6, ground := .data } (by simp) rfl)
        clear hh hd
        have HN : Hid (FS u p E (if done d 7 11 then whereS q 0 else q) ∧ Mut [p] w u) := (by simpa [done] using hj : FS u p E (if done d 7 11 then whereS q 0 else q) ∧ Mut [p] w u)
        clear hj hi
        refine wpOp_step rfl (fun K hK => ?_)
        go_simp
        exact hK _ _ ⟨by simp [Act.put], HN.out⟩
      | 8, ho, hi, hd =>
        simp only [List.getElem?_cons_succ, List.getElem?_cons_zero, Option.some.injEq] at ho
        subst ho
        have g14 : a1.tmps[14]? = some (.pointer (some ⟨p, 10, none⟩)) := hh.did 7 _ 14 rfl rfl (hd { on := 7, ground := .data } (by simp) rfl)
        have c10 : u.cell? ⟨p, 10, none⟩ = some (.int .i64 q.nth) := by
          have B := hj.1
          cases hb : d 11 <;> simp only [hb, if_true, Bool.false_eq_true, if_false] at B <;> exact B.b.at 10 rfl
        clear hh hd
        have HN : Hid (FS u p E (if done d 8 11 then whereS q 0 else q) ∧ Mut [p] w u) := (by simpa [done] using hj : FS u p E (if done d 8 11 then whereS q 0 else q) ∧ Mut [p] w u)
        clear hj hi
        refine wpOp_step rfl (fun K hK => ?_)
        go_simp
        exact hK _ _ ⟨by simp [Act.put], HN.out⟩
      | 9, ho, hi, hd =>
        simp only [List.getElem?_cons_succ, List.getElem?_cons_zero, Option.some.injEq] at ho
        subst ho
        have g15 : a1.tmps[15]? = some (.int .i64 q.nth) := hh.did 8 _ 15 rfl rfl (hd { on := 8, ground := .data } (by simp) rfl)
        have hq := HQ.out
        have e9 : IntKind.i64.wrap (q.nth / 8) = q.nth / 8 := IntWalk.i64_in _ (by omega)
        clear hh hd
        have HN : Hid (FS u p E (if done d 9 11 then whereS q 0 else q) ∧ Mut [p] w u) := (by simpa [done] using hj : FS u p E (if done d 9 11 then whereS q 0 else q) ∧ Mut [p] w u)
        clear hj hi
        refine wpOp_step rfl (fun K hK => ?_)
        go_simp
        exact hK _ _ ⟨by simp [Act.put], HN.out⟩
      | 10, ho, hi, hd =>
        simp only [List.getElem?_cons_succ, List.getElem?_cons_zero, Option.some.injEq] at ho
        subst ho
        have g16 : a1.tmps[16]? = some (.int .i64 (q.nth / 8)) := hh.did 9 _ 16 rfl rfl (hd { on := 9, ground := .data } (by simp) rfl)
        have e9 : IntKind.i64.wrap (4 + q.nth / 8) = 4 + q.nth / 8 := IntWalk.i64_in _ (by omega)
        clear hh hd
        have HN : Hid (FS u p E (if done d 10 11 then whereS q 0 else q) ∧ Mut [p] w u) := (by simpa [done] using hj : FS u p E (if done d 10 11 then whereS q 0 else q) ∧ Mut [p] w u)
        clear hj hi
        refine wpOp_step rfl (fun K hK => ?_)
        go_simp
        exact hK _ _ ⟨by simp [Act.put], HN.out⟩
      | 11, ho, hi, hd =>
        simp only [List.getElem?_cons_succ, List.getElem?_cons_zero, Option.some.injEq] at ho
        subst ho
        have g7 : a1.tmps[7]? = some (.pointer (some ⟨p, 0, none⟩)) := hh.did 0 _ 7 rfl rfl (hd { on := 0, ground := .data } (by simp) rfl)
        have g11 : a1.tmps[11]? = some (.int .i64 q.head) := hh.did 4 _ 11 rfl rfl (hd { on := 4, ground := .data } (by simp) rfl)
        have g17 : a1.tmps[17]? = some (.int .i64 (4 + q.nth / 8)) := hh.did 10 _ 17 rfl rfl (hd { on := 10, ground := .data } (by simp) rfl)
        have CA := CS.out u (by have B := hj.1; simp only [hi, Bool.false_eq_true, if_false] at B; exact B)
        clear hh hd
        have HN : Hid (∀ u', FS u' p E (whereS q 0) → Mut [p] u u' → FS u' p E (if done d 11 11 then whereS q 0 else q) ∧ Mut [p] w u') := fun u' a b => ⟨by simpa [done] using a, hj.2.trans b⟩
        clear hj hi
        refine wpOp_step rfl (fun K hK => ?_)
        go_simp
        refine CA.mono ?_
        rintro e u' ⟨rfl, a, b⟩
        exact hK _ _ ⟨by simp [Act.put], HN.out u' a b⟩
      | n + 12, ho, hi, hd => simp at ho
    · intro u d hall hj
      have hF : FS u p E (whereS q 0) := by
        have B := hj.1
        rw [hall 11 (by decide)] at B
        exact B
      have hU := hj.2
      clear hj hall
      go_wp2
      go_end0
      exact ⟨rfl, hF, hU⟩
  · have C0 : Hid (Calls Try.prog 100 #[.pointer (some ⟨p, 0, none⟩), .int .i64 5, .int .i64 q.head, .int .i64 4] w _) := stand_is 5 q.head 4 w h hh (by omega)
    clear h h1 hh
    go_enter Try.func103, Try.ntmps103
    go_wp2_with fail
    refine C0.out.mono ?_
    rintro e w' ⟨rfl, HF, HU⟩
    go_wp2
    go_end0
    exact ⟨rfl, HF, HU⟩
  · have C0 : Hid (Calls Try.prog 100 #[.pointer (some ⟨p, 0, none⟩), .int .i64 7, .int .i64 q.head, .int .i64 4] w _) := stand_is 7 q.head 4 w h hh (by omega)
    clear h h1 hh
    go_enter Try.func103, Try.ntmps103
    go_wp2_with fail
    refine C0.out.mono ?_
    rintro e w' ⟨rfl, HF, HU⟩
    go_wp2
    go_end0
    exact ⟨rfl, HF, HU⟩

set_option maxHeartbeats 800000 in
theorem spine_is (a : Int) (w : World) (h : FS w p E d) (ha : 8 * E.n0 ≤ a ∧ a < 8 * E.n0 + 2 * E.n1) (h1 : 0 ≤ d.nth ∧ d.nth ≤ 512) :
    Calls Try.prog 104 #[.pointer (some ⟨p, 0, none⟩), .complex .f64 (cw a).re (cw a).im] w fun e w' => e = .returned (.tuple #[.int .i64 (a + 2 + d.nth / 8), .bool true]) ∧ Kept w w' := by
  have C1 : Hid (Calls Try.prog 120 #[.agg #[.int .i64 E.n0, .int .i64 E.n1, .int .i64 E.n2, .int .i64 E.n3, .int .i64 E.n4, .int .i64 E.n5, .int .i64 E.n6, .int .i64 E.n7, .slice (some ⟨E.g, 0, none⟩) E.sl E.sl], .complex .f64 (cw a).re (cw a).im] w _) := lspine_is E.n0 E.n1 E.n2 E.n3 E.n4 E.n5 E.n6 E.n7 (some ⟨E.g, 0, none⟩) E.sl E.sl E.T a w h.shps h.goodT ha
  have hab : 0 ≤ a ∧ a ≤ 100000 := by obtain ⟨f0, f1, f2, _⟩ := h.ok.1; omega
  have c0 : w.cell? ⟨p, 0, none⟩ = some (.int .i64 E.n0) := h.b.at 0 rfl
  have c1 : w.cell? ⟨p, 1, none⟩ = some (.int .i64 E.n1) := h.b.at 1 rfl
  have c2 : w.cell? ⟨p, 2, none⟩ = some (.int .i64 E.n2) := h.b.at 2 rfl
  have c3 : w.cell? ⟨p, 3, none⟩ = some (.int .i64 E.n3) := h.b.at 3 rfl
  have c4 : w.cell? ⟨p, 4, none⟩ = some (.int .i64 E.n4) := h.b.at 4 rfl
  have c5 : w.cell? ⟨p, 5, none⟩ = some (.int .i64 E.n5) := h.b.at 5 rfl
  have c6 : w.cell? ⟨p, 6, none⟩ = some (.int .i64 E.n6) := h.b.at 6 rfl
  have c7 : w.cell? ⟨p, 7, none⟩ = some (.int .i64 E.n7) := h.b.at 7 rfl
  have c8 : w.cell? ⟨p, 8, none⟩ = some (.slice (some ⟨E.g, 0, none⟩) E.sl E.sl) := h.b.at 8 rfl
  have HS : Hid (FS w p E d) := h
  obtain ⟨b1, b2⟩ := h1
  have hq : Int.tdiv d.nth 8 = d.nth / 8 := Int.tdiv_eq_ediv_of_nonneg b1
  generalize (cw a) = z at *
  clear h ha
  go_enter Try.func104, Try.ntmps104
  go_wp2_with fail
  refine C1.out.mono ?_
  rintro e w2 ⟨rfl, K⟩
  have c10 : w2.cell? ⟨p, 10, none⟩ = some (.int .i64 d.nth) := (HS.out.kept K).b.at 10 rfl
  clear c0 c1 c2 c3 c4 c5 c6 c7 c8 C1
  go_wp2
  go_ret2
  exact ⟨rfl, K⟩
end
end Go.Proofs.Ytpdclckgnajcdaa
