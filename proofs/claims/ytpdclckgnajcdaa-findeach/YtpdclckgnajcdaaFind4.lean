/-
  Contracts of package find: a field's program goes on.
-/
import Derived.Test.YtpdclckgnajcdaaFind3
import Derived.Test.YtpdclckgnajcdaaPhase13
namespace Go.Proofs.Ytpdclckgnajcdaa
open Go.RowKit

def fk (q : Fd) (a b : Int) : Fd := { q with lk := a, pl := b }
def fr (q : Fd) (a b : Int) (r : Bool) : Fd := { q with lk := a, pl := b, rf := r }
section
variable {p : Nat} {E : En}

set_option maxRecDepth 10000 in
set_option maxHeartbeats 4000000 in
/-- Of the other kind. -/
theorem field_kind {q : Fd} (k : Nat) (m : Int) (w : World) (h : FS w p E q) (hs : q.st = 1) (hk : k < E.sl) (hm : 0 ≤ m ∧ m ≤ 1000) (ha : (E.S k).arr = !q.arr) :
    Calls Try.prog 76 #[.pointer (some ⟨p, 0, none⟩), .complex .f64 (ch k m).re (ch k m).im] w fun e w' => e = .returned (.tuple #[]) ∧ FS w' p E { q with st := 8, er := 4 } ∧ Mut [p] w w' := by
  have C0 : Hid (∀ w', Kept w w' → Calls Try.prog 99 #[.pointer (some ⟨p, 0, none⟩), .complex .f64 (ch k m).re (ch k m).im] w' _) := fun w' Q => headed_kind k m w' (h.kept Q) hk hm ha
  have HS : Hid (FS w p E q) := h
  have hst : q.st = 1 := hs
  clear h ha hm hk hs
  generalize (ch k m) = z at *
  go_enter Try.func76, Try.ntmps76
  refine wp_scope_hop 1 rfl fun K HK => ?_
  go_upto_region 4 with fail
  generalize hW0 : w.alloc _ = W0
  have b0 : Blk W0 w.heap.size [.bool false, .slice none 0 0] := by rw [← hW0]; exact Blk.new w _ _
  have k0 : Kept w W0 := by rw [← hW0]; exact (Kept.refl w).alloc _ _
  have z0 : W0.heap.size = w.heap.size + 1 := by rw [← hW0]; simp
  clear hW0
  have c12 : W0.cell? ⟨p, 12, none⟩ = some (.int .i64 1) := by rw [← hst]; exact (HS.out.kept k0).b.at 12 rfl
  have HG : Hid (Kept w W0 ∧ Blk W0 w.heap.size [.bool false, .slice none 0 0] ∧ W0.heap.size = w.heap.size + 1) := ⟨k0, b0, z0⟩
  clear b0 k0 z0
  go_wp2_with fail
  refine (C0.out _ HG.out.1).mono ?_
  rintro e w1 ⟨rfl, K1⟩
  have HG1 : Hid (Kept w w1 ∧ Blk w1 w.heap.size [.bool false, .slice none 0 0]) := ⟨HG.out.1.trans K1, HG.out.2.1.kept K1⟩
  clear HG K1 c12
  have a0 := HG1.out.2.at 0 rfl
  have a1 := HG1.out.2.at 1 rfl
  have fz := HG1.out.2.fz
  go_wp2
  go_step3
  refine ⟨rfl, HK.out _ _ ?_⟩
  generalize hW2 : (w1.setCell _ _).setCell _ _ = W2
  have hk2 : Kept w W2 := by rw [← hW2]; exact (HG1.out.1.setCell (by simp) _).setCell (by simp) _
  have HF3 : Hid (FS W2 p E q ∧ Mut [p] w W2) := ⟨HS.out.kept hk2, hk2.mut⟩
  clear hW2 hk2 a0 a1 fz
  go_wp2_with fail
  refine (fail_is 4 _ HF3.out.1).mono ?_
  rintro e w9 ⟨rfl, HF9, HU9⟩
  go_wp2
  (try simp only [Exit.inBlock])
  (try simp only [Exit.then])
  (try simp only [Exit.jump])
  (try simp only [Exit.noGoto])
  refine bodyPost_end (results_none rfl _ _ _) rfl ?_
  exact ⟨rfl, HF9, HF3.out.2.trans HU9⟩

set_option maxRecDepth 10000 in
set_option maxHeartbeats 4000000 in
/-- There is no such field. -/
theorem field_out {q : Fd} (k : Nat) (m : Int) (w : World) (h : FS w p E q) (hs : q.st = 1) (hk : k < E.sl) (hm : 0 ≤ m ∧ m ≤ 1) (ha : (E.S k).arr = false) (hq : q.arr = false) (h0 : q.nth < 0 ∨ (E.S k).l ≤ q.nth) :
    Calls Try.prog 76 #[.pointer (some ⟨p, 0, none⟩), .complex .f64 (ch k m).re (ch k m).im] w fun e w' => e = .returned (.tuple #[]) ∧ FS w' p E { q with st := 8, er := 5, lk := 0, pl := 0 } ∧ Mut [p] w w' := by
  have C0 : Hid (∀ w', Kept w w' → Calls Try.prog 99 #[.pointer (some ⟨p, 0, none⟩), .complex .f64 (ch k m).re (ch k m).im] w' _) := fun w' Q => headed_ok k m w' (h.kept Q) hk hm (ha.trans hq.symm) (fun x => by rw [hq] at x; cases x)
  have HS : Hid (FS w p E q) := h
  have HA : Hid ((E.S k).arr = false) := ha
  have hst : q.st = 1 := hs
  have h40 : (E.S k).l ≤ 40 := may_few (h.ok.2.2.2 k hk)
  have hn0 : E.n0 ≤ 1024 := h.ok.1.1.2
  have C1 : Hid (∀ g u, Calls Try.prog 23 #[.agg #[.bool false, .slice (some ⟨g, 0, none⟩) (E.S k).l (E.S k).l], .int .i64 q.nth] u _) := fun g u => place_out (some ⟨g, 0, none⟩) (E.S k).l (E.S k).l q.nth u h40 h0
  clear h ha hm hk hs hq h0 h40 hn0
  generalize (ch k m) = z at *
  go_enter Try.func76, Try.ntmps76
  refine wp_scope_hop 1 rfl fun K HK => ?_
  go_upto_region 4 with fail
  generalize hW0 : w.alloc _ = W0
  have b0 : Blk W0 w.heap.size [.bool false, .slice none 0 0] := by rw [← hW0]; exact Blk.new w _ _
  have k0 : Kept w W0 := by rw [← hW0]; exact (Kept.refl w).alloc _ _
  have z0 : W0.heap.size = w.heap.size + 1 := by rw [← hW0]; simp
  clear hW0
  have c12 : W0.cell? ⟨p, 12, none⟩ = some (.int .i64 1) := by rw [← hst]; exact (HS.out.kept k0).b.at 12 rfl
  have HG : Hid (Kept w W0 ∧ Blk W0 w.heap.size [.bool false, .slice none 0 0] ∧ W0.heap.size = w.heap.size + 1) := ⟨k0, b0, z0⟩
  clear b0 k0 z0
  go_wp2_with fail
  refine (C0.out _ HG.out.1).mono ?_
  rintro e w1 ⟨g, rfl, hr, hg, K1⟩
  have HG1 : Hid (Kept w w1 ∧ Blk w1 w.heap.size [.bool false, .slice none 0 0] ∧ w.heap.size < g ∧ Refs w1 (some ⟨g, 0, none⟩) (E.S k).l (E.R k)) := ⟨HG.out.1.trans K1, HG.out.2.1.kept K1, by have := HG.out.2.2; omega, hr⟩
  clear HG K1 c12 hr hg
  have a0 := HG1.out.2.1.at 0 rfl
  have a1 := HG1.out.2.1.at 1 rfl
  have fz := HG1.out.2.1.fz
  rw [HA.out]
  obtain ⟨fl, hfl⟩ : ∃ fl, (E.S k).l = fl := ⟨_, rfl⟩
  rw [hfl] at HG1 ⊢
  have HFL : Hid ((E.S k).l = fl) := hfl
  clear hfl
  go_upto_region 7 with fail
  generalize hW2 : (w1.setCell _ _).setCell _ _ = W2
  have hk2 : Kept w W2 := by rw [← hW2]; exact (HG1.out.1.setCell (by simp) _).setCell (by simp) _
  have hb2 : Blk W2 w.heap.size [.bool false, .slice (some ⟨g, 0, none⟩) fl fl] := by rw [← hW2]; exact (HG1.out.2.1.set (i := 0) rfl _).set (i := 1) rfl _
  have hr2 : Refs W2 (some ⟨g, 0, none⟩) fl (E.R k) := by
    have := HG1.out.2.2.1
    rw [← hW2]
    exact (HG1.out.2.2.2.set_other (by simp; omega) _).set_other (by simp; omega) _
  have HF : Hid (FS W2 p E q) := HS.out.kept hk2
  have HB : Hid (Blk W2 w.heap.size [.bool false, .slice (some ⟨g, 0, none⟩) fl fl] ∧ Refs W2 (some ⟨g, 0, none⟩) fl (E.R k) ∧ p < w.heap.size ∧ w.heap.size < g ∧ Kept w W2) := ⟨hb2, hr2, HS.out.b.lt, HG1.out.2.2.1, hk2⟩
  clear hW2 hk2 hb2 hr2 HG1 a0 a1 fz
  have CP : Hid (∀ u, Calls Try.prog 23 #[.agg #[.bool false, .slice (some ⟨g, 0, none⟩) fl fl], .int .i64 q.nth] u _) := fun u => by
    have := C1.out g u
    rw [HFL.out] at this
    exact this
  clear C0 C1
  obtain ⟨i, hi0⟩ : ∃ i : Int, i = 0 := ⟨0, rfl⟩
  obtain ⟨v, hv0⟩ : ∃ i : Int, i = 0 := ⟨0, rfl⟩
  obtain ⟨ok, hok⟩ : ∃ b : Bool, b = false := ⟨false, rfl⟩
  have HIV : Hid (i = 0 ∧ v = 0 ∧ ok = false) := ⟨hi0, hv0, hok⟩
  have CP : Hid (∀ u, Calls Try.prog 23 #[.agg #[.bool false, .slice (some ⟨g, 0, none⟩) fl fl], .int .i64 q.nth] u fun e w' => e = .returned (.tuple #[.int .i64 i, .int .i64 v, .bool ok]) ∧ Kept u w') := by
    subst hi0 hv0 hok
    exact CP
  clear hi0 hv0 hok
  refine wp_region_phase2 [(.pointer (some ⟨p, 0, none⟩)), (.pointer (some ⟨p, 0, none⟩)), (.agg #[.bool false, .slice (some ⟨g, 0, none⟩) fl fl]), (.pointer (some ⟨p, 0, none⟩)), (.pointer (some ⟨p, 0, none⟩)), (.pointer (some ⟨p, 10, none⟩)), (.int .i64 q.nth), (.tuple #[.int .i64 i, .int .i64 v, .bool ok]), (.tuple #[.int .i64 i, .int .i64 v, .bool ok]), (.int .i64 i), (.int .i64 v), (.bool ok), (.pointer (some ⟨p, 0, none⟩)), (.pointer (some ⟨p, 14, none⟩)), (undef), (.pointer (some ⟨p, 0, none⟩)), (.pointer (some ⟨p, 15, none⟩)), (undef), (.bool ok)] [(7, 18), (23, 8), (24, 0), (25, 1), (26, 2), (27, 3), (28, 4), (29, 5), (30, 6), (31, 7), (32, 9), (33, 10), (34, 11), (35, 12), (36, 13), (37, 15), (38, 16)] [_, _, _, _, _, _, _, _, _, _, _, _, _, _, _, _, _, _, _, _, _, _, _, _, _, _, _, _, _, _, _, _, _, _, _, _, _, _, _, _, _, _, _, _, _, _, _, _, _, _, _, _, _, _, _, _, _, _, _, _, _, _, _, _, _, _, _, _, _, _, _, _, _, _, _, _, _, _, _, _, _, _, _, _, _, _, _, _, _, _, _, _, _, _, _, _, _, _, _, _, _, _, _, _, _, _] (fun d u => FS u p E (fk q (if d 14 then i else q.lk) (if d 17 then v else q.pl)) ∧ Mut [p] W2 u) (by kernel_rfl) (by kernel_rfl) (by kernel_rfl) (by kernel_rfl) rfl ?_ ?_ ?_
  · exact ⟨by simpa [fk] using HF.out.kept (Kept.refl _).drew, (Mut.refl _ _).drew⟩
  · intro i1 o ho a1 d u hh hj hi hd
    match i1, ho, hi, hd with
    | 0, ho, hi, hd =>
      simp only [List.getElem?_cons_zero, Option.some.injEq] at ho
      subst ho
      have g0 : a1.tmps[0]? = some (.pointer (some ⟨p, 0, none⟩)) := hh.old 0 (by kernel_rfl) rfl
      clear hh hd
      have HN : Hid (FS u p E (fk q (if done d 0 14 then i else q.lk) (if done d 0 17 then v else q.pl)) ∧ Mut [p] W2 u) := (by simpa [done] using hj : FS u p E (fk q (if done d 0 14 then i else q.lk) (if done d 0 17 then v else q.pl)) ∧ Mut [p] W2 u)
      clear hj hi
      refine wpOp_step rfl (fun K hK => ?_)
      go_simp
      exact hK _ _ ⟨by simp [Act.put], HN.out⟩
    | 1, ho, hi, hd =>
      simp only [List.getElem?_cons_succ, List.getElem?_cons_zero, Option.some.injEq] at ho
      subst ho
      have g0 : a1.tmps[0]? = some (.pointer (some ⟨p, 0, none⟩)) := hh.old 0 (by kernel_rfl) rfl
      clear hh hd
      have HN : Hid (FS u p E (fk q (if done d 1 14 then i else q.lk) (if done d 1 17 then v else q.pl)) ∧ Mut [p] W2 u) := (by simpa [done] using hj : FS u p E (fk q (if done d 1 14 then i else q.lk) (if done d 1 17 then v else q.pl)) ∧ Mut [p] W2 u)
      clear hj hi
      refine wpOp_step rfl (fun K hK => ?_)
      go_simp
      exact hK _ _ ⟨by simp [Act.put], HN.out⟩
    | 2, ho, hi, hd =>
      simp only [List.getElem?_cons_succ, List.getElem?_cons_zero, Option.some.injEq] at ho
      subst ho
      have g4 : a1.tmps[4]? = some (.pointer (some ⟨w.heap.size, 0, none⟩)) := hh.old 4 (by kernel_rfl) rfl
      have B := HB.out.1.muts hj.2 (by have := HB.out.2.2.1; simp; omega)
      have s0 := B.at 0 rfl
      have s1 := B.at 1 rfl
      clear B
      clear hh hd
      have HN : Hid (FS u p E (fk q (if done d 2 14 then i else q.lk) (if done d 2 17 then v else q.pl)) ∧ Mut [p] W2 u) := (by simpa [done] using hj : FS u p E (fk q (if done d 2 14 then i else q.lk) (if done d 2 17 then v else q.pl)) ∧ Mut [p] W2 u)
      clear hj hi
      refine wpOp_step rfl (fun K hK => ?_)
      go_simp
      exact hK _ _ ⟨by simp [Act.put], HN.out⟩
    | 3, ho, hi, hd =>
      simp only [List.getElem?_cons_succ, List.getElem?_cons_zero, Option.some.injEq] at ho
      subst ho
      have g0 : a1.tmps[0]? = some (.pointer (some ⟨p, 0, none⟩)) := hh.old 0 (by kernel_rfl) rfl
      clear hh hd
      have HN : Hid (FS u p E (fk q (if done d 3 14 then i else q.lk) (if done d 3 17 then v else q.pl)) ∧ Mut [p] W2 u) := (by simpa [done] using hj : FS u p E (fk q (if done d 3 14 then i else q.lk) (if done d 3 17 then v else q.pl)) ∧ Mut [p] W2 u)
      clear hj hi
      refine wpOp_step rfl (fun K hK => ?_)
      go_simp
      exact hK _ _ ⟨by simp [Act.put], HN.out⟩
    | 4, ho, hi, hd =>
      simp only [List.getElem?_cons_succ, List.getElem?_cons_zero, Option.some.injEq] at ho
      subst ho
      have g27 : a1.tmps[27]? = some (.pointer (some ⟨p, 0, none⟩)) := hh.did 3 _ 27 rfl rfl (hd { on := 3, ground := .data } (by simp) rfl)
      clear hh hd
      have HN : Hid (FS u p E (fk q (if done d 4 14 then i else q.lk) (if done d 4 17 then v else q.pl)) ∧ Mut [p] W2 u) := (by simpa [done] using hj : FS u p E (fk q (if done d 4 14 then i else q.lk) (if done d 4 17 then v else q.pl)) ∧ Mut [p] W2 u)
      clear hj hi
      refine wpOp_step rfl (fun K hK => ?_)
      go_simp
      exact hK _ _ ⟨by simp [Act.put], HN.out⟩
    | 5, ho, hi, hd =>
      simp only [List.getElem?_cons_succ, List.getElem?_cons_zero, Option.some.injEq] at ho
      subst ho
      have g28 : a1.tmps[28]? = some (.pointer (some ⟨p, 0, none⟩)) := hh.did 4 _ 28 rfl rfl (hd { on := 4, ground := .data } (by simp) rfl)
      clear hh hd
      have HN : Hid (FS u p E (fk q (if done d 5 14 then i else q.lk) (if done d 5 17 then v else q.pl)) ∧ Mut [p] W2 u) := (by simpa [done] using hj : FS u p E (fk q (if done d 5 14 then i else q.lk) (if done d 5 17 then v else q.pl)) ∧ Mut [p] W2 u)
      clear hj hi
      refine wpOp_step rfl (fun K hK => ?_)
      go_simp
      exact hK _ _ ⟨by simp [Act.put], HN.out⟩
    | 6, ho, hi, hd =>
      simp only [List.getElem?_cons_succ, List.getElem?_cons_zero, Option.some.injEq] at ho
      subst ho
      have g29 : a1.tmps[29]? = some (.pointer (some ⟨p, 10, none⟩)) := hh.did 5 _ 29 rfl rfl (hd { on := 5, ground := .data } (by simp) rfl)
      have c10 : u.cell? ⟨p, 10, none⟩ = some (.int .i64 q.nth) := hj.1.b.at 10 rfl
      clear hh hd
      have HN : Hid (FS u p E (fk q (if done d 6 14 then i else q.lk) (if done d 6 17 then v else q.pl)) ∧ Mut [p] W2 u) := (by simpa [done] using hj : FS u p E (fk q (if done d 6 14 then i else q.lk) (if done d 6 17 then v else q.pl)) ∧ Mut [p] W2 u)
      clear hj hi
      refine wpOp_step rfl (fun K hK => ?_)
      go_simp
      exact hK _ _ ⟨by simp [Act.put], HN.out⟩
    | 7, ho, hi, hd =>
      simp only [List.getElem?_cons_succ, List.getElem?_cons_zero, Option.some.injEq] at ho
      subst ho
      have g26 : a1.tmps[26]? = some (.agg #[.bool false, .slice (some ⟨g, 0, none⟩) fl fl]) := hh.did 2 _ 26 rfl rfl (hd { on := 2, ground := .data } (by simp) rfl)
      have g30 : a1.tmps[30]? = some (.int .i64 q.nth) := hh.did 6 _ 30 rfl rfl (hd { on := 6, ground := .data } (by simp) rfl)
      have CA := CP.out u
      clear hh hd
      have HN : Hid (∀ u', Kept u u' → FS u' p E (fk q (if done d 7 14 then i else q.lk) (if done d 7 17 then v else q.pl)) ∧ Mut [p] W2 u') := fun u' a => ⟨by simpa [done] using hj.1.kept a, hj.2.trans a.mut⟩
      clear hj hi
      refine wpOp_step rfl (fun K hK => ?_)
      go_simp
      refine CA.mono ?_
      rintro e u' ⟨rfl, a⟩
      exact hK _ _ ⟨by simp [Act.put], HN.out u' a⟩
    | 8, ho, hi, hd =>
      simp only [List.getElem?_cons_succ, List.getElem?_cons_zero, Option.some.injEq] at ho
      subst ho
      have g31 : a1.tmps[31]? = some (.tuple #[.int .i64 i, .int .i64 v, .bool ok]) := hh.did 7 _ 31 rfl rfl (hd { on := 7, ground := .data } (by simp) rfl)
      clear hh hd
      have HN : Hid (FS u p E (fk q (if done d 8 14 then i else q.lk) (if done d 8 17 then v else q.pl)) ∧ Mut [p] W2 u) := (by simpa [done] using hj : FS u p E (fk q (if done d 8 14 then i else q.lk) (if done d 8 17 then v else q.pl)) ∧ Mut [p] W2 u)
      clear hj hi
      refine wpOp_step rfl (fun K hK => ?_)
      go_simp
      exact hK _ _ ⟨by simp [Act.put], HN.out⟩
    | 9, ho, hi, hd =>
      simp only [List.getElem?_cons_succ, List.getElem?_cons_zero, Option.some.injEq] at ho
      subst ho
      have g23 : a1.tmps[23]? = some (.tuple #[.int .i64 i, .int .i64 v, .bool ok]) := hh.did 8 _ 23 rfl rfl (hd { on := 8, ground := .data } (by simp) rfl)
      clear hh hd
      have HN : Hid (FS u p E (fk q (if done d 9 14 then i else q.lk) (if done d 9 17 then v else q.pl)) ∧ Mut [p] W2 u) := (by simpa [done] using hj : FS u p E (fk q (if done d 9 14 then i else q.lk) (if done d 9 17 then v else q.pl)) ∧ Mut [p] W2 u)
      clear hj hi
      refine wpOp_step rfl (fun K hK => ?_)
      go_simp
      exact hK _ _ ⟨by simp [Act.put], HN.out⟩
    | 10, ho, hi, hd =>
      simp only [List.getElem?_cons_succ, List.getElem?_cons_zero, Option.some.injEq] at ho
      subst ho
      have g23 : a1.tmps[23]? = some (.tuple #[.int .i64 i, .int .i64 v, .bool ok]) := hh.did 8 _ 23 rfl rfl (hd { on := 8, ground := .data } (by simp) rfl)
      clear hh hd
      have HN : Hid (FS u p E (fk q (if done d 10 14 then i else q.lk) (if done d 10 17 then v else q.pl)) ∧ Mut [p] W2 u) := (by simpa [done] using hj : FS u p E (fk q (if done d 10 14 then i else q.lk) (if done d 10 17 then v else q.pl)) ∧ Mut [p] W2 u)
      clear hj hi
      refine wpOp_step rfl (fun K hK => ?_)
      go_simp
      exact hK _ _ ⟨by simp [Act.put], HN.out⟩
    | 11, ho, hi, hd =>
      simp only [List.getElem?_cons_succ, List.getElem?_cons_zero, Option.some.injEq] at ho
      subst ho
      have g23 : a1.tmps[23]? = some (.tuple #[.int .i64 i, .int .i64 v, .bool ok]) := hh.did 8 _ 23 rfl rfl (hd { on := 8, ground := .data } (by simp) rfl)
      clear hh hd
      have HN : Hid (FS u p E (fk q (if done d 11 14 then i else q.lk) (if done d 11 17 then v else q.pl)) ∧ Mut [p] W2 u) := (by simpa [done] using hj : FS u p E (fk q (if done d 11 14 then i else q.lk) (if done d 11 17 then v else q.pl)) ∧ Mut [p] W2 u)
      clear hj hi
      refine wpOp_step rfl (fun K hK => ?_)
      go_simp
      exact hK _ _ ⟨by simp [Act.put], HN.out⟩
    | 12, ho, hi, hd =>
      simp only [List.getElem?_cons_succ, List.getElem?_cons_zero, Option.some.injEq] at ho
      subst ho
      have g24 : a1.tmps[24]? = some (.pointer (some ⟨p, 0, none⟩)) := hh.did 0 _ 24 rfl rfl (hd { on := 0, ground := .data } (by simp) rfl)
      clear hh hd
      have HN : Hid (FS u p E (fk q (if done d 12 14 then i else q.lk) (if done d 12 17 then v else q.pl)) ∧ Mut [p] W2 u) := (by simpa [done] using hj : FS u p E (fk q (if done d 12 14 then i else q.lk) (if done d 12 17 then v else q.pl)) ∧ Mut [p] W2 u)
      clear hj hi
      refine wpOp_step rfl (fun K hK => ?_)
      go_simp
      exact hK _ _ ⟨by simp [Act.put], HN.out⟩
    | 13, ho, hi, hd =>
      simp only [List.getElem?_cons_succ, List.getElem?_cons_zero, Option.some.injEq] at ho
      subst ho
      have g35 : a1.tmps[35]? = some (.pointer (some ⟨p, 0, none⟩)) := hh.did 12 _ 35 rfl rfl (hd { on := 12, ground := .data } (by simp) rfl)
      clear hh hd
      have HN : Hid (FS u p E (fk q (if done d 13 14 then i else q.lk) (if done d 13 17 then v else q.pl)) ∧ Mut [p] W2 u) := (by simpa [done] using hj : FS u p E (fk q (if done d 13 14 then i else q.lk) (if done d 13 17 then v else q.pl)) ∧ Mut [p] W2 u)
      clear hj hi
      refine wpOp_step rfl (fun K hK => ?_)
      go_simp
      exact hK _ _ ⟨by simp [Act.put], HN.out⟩
    | 14, ho, hi, hd =>
      simp only [List.getElem?_cons_succ, List.getElem?_cons_zero, Option.some.injEq] at ho
      subst ho
      have g32 : a1.tmps[32]? = some (.int .i64 i) := hh.did 9 _ 32 rfl rfl (hd { on := 9, ground := .data } (by simp) rfl)
      have g36 : a1.tmps[36]? = some (.pointer (some ⟨p, 14, none⟩)) := hh.did 13 _ 36 rfl rfl (hd { on := 13, ground := .data } (by simp) rfl)
      have cc := hj.1.b.at 14 rfl
      have fz := hj.1.b.fz
      clear hh hd
      have HN : Hid (FS (u.setCell ⟨p, 14, none⟩ (.int .i64 i)) p E (fk q (if done d 14 14 then i else q.lk) (if done d 14 17 then v else q.pl)) ∧ Mut [p] W2 (u.setCell ⟨p, 14, none⟩ (.int .i64 i))) := ⟨(by simpa [done] using hj.1.put (i := 14) rfl (.int .i64 i) (d' := fk q i (if d 17 then v else q.pl)) rfl), hj.2.setCell (by simp) _⟩
      clear hj hi
      refine wpOp_step rfl (fun K hK => ?_)
      go_simp
      exact hK _ _ ⟨by simp [Act.put], HN.out⟩
    | 15, ho, hi, hd =>
      simp only [List.getElem?_cons_succ, List.getElem?_cons_zero, Option.some.injEq] at ho
      subst ho
      have g25 : a1.tmps[25]? = some (.pointer (some ⟨p, 0, none⟩)) := hh.did 1 _ 25 rfl rfl (hd { on := 1, ground := .data } (by simp) rfl)
      clear hh hd
      have HN : Hid (FS u p E (fk q (if done d 15 14 then i else q.lk) (if done d 15 17 then v else q.pl)) ∧ Mut [p] W2 u) := (by simpa [done] using hj : FS u p E (fk q (if done d 15 14 then i else q.lk) (if done d 15 17 then v else q.pl)) ∧ Mut [p] W2 u)
      clear hj hi
      refine wpOp_step rfl (fun K hK => ?_)
      go_simp
      exact hK _ _ ⟨by simp [Act.put], HN.out⟩
    | 16, ho, hi, hd =>
      simp only [List.getElem?_cons_succ, List.getElem?_cons_zero, Option.some.injEq] at ho
      subst ho
      have g37 : a1.tmps[37]? = some (.pointer (some ⟨p, 0, none⟩)) := hh.did 15 _ 37 rfl rfl (hd { on := 15, ground := .data } (by simp) rfl)
      clear hh hd
      have HN : Hid (FS u p E (fk q (if done d 16 14 then i else q.lk) (if done d 16 17 then v else q.pl)) ∧ Mut [p] W2 u) := (by simpa [done] using hj : FS u p E (fk q (if done d 16 14 then i else q.lk) (if done d 16 17 then v else q.pl)) ∧ Mut [p] W2 u)
      clear hj hi
      refine wpOp_step rfl (fun K hK => ?_)
      go_simp
      exact hK _ _ ⟨by simp [Act.put], HN.out⟩
    | 17, ho, hi, hd =>
      simp only [List.getElem?_cons_succ, List.getElem?_cons_zero, Option.some.injEq] at ho
      subst ho
      have g33 : a1.tmps[33]? = some (.int .i64 v) := hh.did 10 _ 33 rfl rfl (hd { on := 10, ground := .data } (by simp) rfl)
      have g38 : a1.tmps[38]? = some (.pointer (some ⟨p, 15, none⟩)) := hh.did 16 _ 38 rfl rfl (hd { on := 16, ground := .data } (by simp) rfl)
      have cc := hj.1.b.at 15 rfl
      have fz := hj.1.b.fz
      clear hh hd
      have HN : Hid (FS (u.setCell ⟨p, 15, none⟩ (.int .i64 v)) p E (fk q (if done d 17 14 then i else q.lk) (if done d 17 17 then v else q.pl)) ∧ Mut [p] W2 (u.setCell ⟨p, 15, none⟩ (.int .i64 v))) := ⟨(by simpa [done] using hj.1.put (i := 15) rfl (.int .i64 v) (d' := fk q (if d 14 then i else q.lk) v) rfl), hj.2.setCell (by simp) _⟩
      clear hj hi
      refine wpOp_step rfl (fun K hK => ?_)
      go_simp
      exact hK _ _ ⟨by simp [Act.put], HN.out⟩
    | 18, ho, hi, hd =>
      simp only [List.getElem?_cons_succ, List.getElem?_cons_zero, Option.some.injEq] at ho
      subst ho
      have g34 : a1.tmps[34]? = some (.bool ok) := hh.did 11 _ 34 rfl rfl (hd { on := 11, ground := .data } (by simp) rfl)
      clear hh hd
      have HN : Hid (FS u p E (fk q (if done d 18 14 then i else q.lk) (if done d 18 17 then v else q.pl)) ∧ Mut [p] W2 u) := (by simpa [done] using hj : FS u p E (fk q (if done d 18 14 then i else q.lk) (if done d 18 17 then v else q.pl)) ∧ Mut [p] W2 u)
      clear hj hi
      refine wpOp_step rfl (fun K hK => ?_)
      go_simp
      exact hK _ _ ⟨by simp [Act.put], HN.out⟩
    | n + 19, ho, hi, hd => simp at ho
  · intro u d hall hj
    have hF : FS u p E { q with lk := 0, pl := 0 } := by
      have B := hj.1
      rw [hall 14 (by decide), hall 17 (by decide)] at B
      rw [HIV.out.1, HIV.out.2.1] at B
      exact B
    have HF3 : Hid (FS u p E { q with lk := 0, pl := 0 } ∧ Mut [p] w u) := ⟨hF, HB.out.2.2.2.2.mut.trans hj.2⟩
    clear hj hF hall
    have ho := HIV.out.2.2
    subst ho
    go_wp2
    go_step3
    refine ⟨rfl, HK.out _ _ ?_⟩
    go_wp2_with fail
    refine (fail_is 5 _ HF3.out.1).mono ?_
    rintro e w9 ⟨rfl, HF9, HU9⟩
    go_wp2
    (try simp only [Exit.inBlock])
    (try simp only [Exit.then])
    (try simp only [Exit.jump])
    (try simp only [Exit.noGoto])
    refine bodyPost_end (results_none rfl _ _ _) rfl ?_
    exact ⟨rfl, HF9, HF3.out.2.trans HU9⟩

set_option maxRecDepth 10000 in
set_option maxHeartbeats 4000000 in
/-- In another fragment. -/
theorem field_far {q : Fd} (k : Nat) (m : Int) (w : World) (h : FS w p E q) (hs : q.st = 1) (hk : k < E.sl) (hm : 0 ≤ m ∧ m ≤ 1) (ha : (E.S k).arr = false) (hq : q.arr = false) {n : Nat} {i v : Int} (hn : q.nth = n) (hl : n < (E.S k).l) (hi : (q.nth + 1) / 7 = i) (hv : 1 + (q.nth + 1) % 7 = v) (hh : 0 ≤ q.head ∧ q.head < E.n0) (hm0 : m = 0) (hi0 : i ≠ 0) :
    Calls Try.prog 76 #[.pointer (some ⟨p, 0, none⟩), .complex .f64 (ch k m).re (ch k m).im] w fun e w' => e = .returned (.tuple #[]) ∧ FS w' p E { q with st := 2, nx := q.head * 8 + 0, lk := i, pl := v, rf := E.R k n } ∧ Mut [p] w w' := by
  have C0 : Hid (∀ w', Kept w w' → Calls Try.prog 99 #[.pointer (some ⟨p, 0, none⟩), .complex .f64 (ch k m).re (ch k m).im] w' _) := fun w' Q => headed_ok k m w' (h.kept Q) hk hm (ha.trans hq.symm) (fun x => by rw [hq] at x; cases x)
  have HS : Hid (FS w p E q) := h
  have HA : Hid ((E.S k).arr = false) := ha
  have hst : q.st = 1 := hs
  have h40 : (E.S k).l ≤ 40 := may_few (h.ok.2.2.2 k hk)
  have hn0 : E.n0 ≤ 1024 := h.ok.1.1.2
  have C1 : Hid (∀ g u, Calls Try.prog 23 #[.agg #[.bool false, .slice (some ⟨g, 0, none⟩) (E.S k).l (E.S k).l], .int .i64 q.nth] u _) := fun g u => place_in (some ⟨g, 0, none⟩) (E.S k).l (E.S k).l q.nth i v u h40 (by omega) (by omega) hi hv
  have HN : Hid (q.nth = n) := hn
  have hv8 : 0 ≤ v ∧ v < 8 := by omega
  have HL : Hid (n < (E.S k).l) := hl
  have HH : Hid (0 ≤ q.head ∧ q.head < E.n0) := hh
  have hi6 : 0 ≤ i ∧ i ≤ 6 := by omega
  have hhd : 0 ≤ q.head ∧ q.head ≤ 1024 := by omega
  have e1 : (m == 1) = false := by simp [hm0]
  have e2 : (i == 0) = false := by simpa using hi0
  clear hm hm0 hi0
  clear h ha hk hs hq h40 hn0 hi hv hl hn hh
  generalize (ch k m) = z at *
  go_enter Try.func76, Try.ntmps76
  refine wp_scope_hop 2 rfl fun K HK => ?_
  go_upto_region 4 with fail
  generalize hW0 : w.alloc _ = W0
  have b0 : Blk W0 w.heap.size [.bool false, .slice none 0 0] := by rw [← hW0]; exact Blk.new w _ _
  have k0 : Kept w W0 := by rw [← hW0]; exact (Kept.refl w).alloc _ _
  have z0 : W0.heap.size = w.heap.size + 1 := by rw [← hW0]; simp
  clear hW0
  have c12 : W0.cell? ⟨p, 12, none⟩ = some (.int .i64 1) := by rw [← hst]; exact (HS.out.kept k0).b.at 12 rfl
  have HG : Hid (Kept w W0 ∧ Blk W0 w.heap.size [.bool false, .slice none 0 0] ∧ W0.heap.size = w.heap.size + 1) := ⟨k0, b0, z0⟩
  clear b0 k0 z0
  go_wp2_with fail
  refine (C0.out _ HG.out.1).mono ?_
  rintro e w1 ⟨g, rfl, hr, hg, K1⟩
  have HG1 : Hid (Kept w w1 ∧ Blk w1 w.heap.size [.bool false, .slice none 0 0] ∧ w.heap.size < g ∧ Refs w1 (some ⟨g, 0, none⟩) (E.S k).l (E.R k)) := ⟨HG.out.1.trans K1, HG.out.2.1.kept K1, by have := HG.out.2.2; omega, hr⟩
  clear HG K1 c12 hr hg
  have a0 := HG1.out.2.1.at 0 rfl
  have a1 := HG1.out.2.1.at 1 rfl
  have fz := HG1.out.2.1.fz
  rw [HA.out]
  obtain ⟨fl, hfl⟩ : ∃ fl, (E.S k).l = fl := ⟨_, rfl⟩
  rw [hfl] at HG1 ⊢
  have HFL : Hid ((E.S k).l = fl) := hfl
  clear hfl
  go_upto_region 7 with fail
  generalize hW2 : (w1.setCell _ _).setCell _ _ = W2
  have hk2 : Kept w W2 := by rw [← hW2]; exact (HG1.out.1.setCell (by simp) _).setCell (by simp) _
  have hb2 : Blk W2 w.heap.size [.bool false, .slice (some ⟨g, 0, none⟩) fl fl] := by rw [← hW2]; exact (HG1.out.2.1.set (i := 0) rfl _).set (i := 1) rfl _
  have hr2 : Refs W2 (some ⟨g, 0, none⟩) fl (E.R k) := by
    have := HG1.out.2.2.1
    rw [← hW2]
    exact (HG1.out.2.2.2.set_other (by simp; omega) _).set_other (by simp; omega) _
  have HF : Hid (FS W2 p E q) := HS.out.kept hk2
  have HB : Hid (Blk W2 w.heap.size [.bool false, .slice (some ⟨g, 0, none⟩) fl fl] ∧ Refs W2 (some ⟨g, 0, none⟩) fl (E.R k) ∧ p < w.heap.size ∧ w.heap.size < g ∧ Kept w W2) := ⟨hb2, hr2, HS.out.b.lt, HG1.out.2.2.1, hk2⟩
  clear hW2 hk2 hb2 hr2 HG1 a0 a1 fz
  have CP : Hid (∀ u, Calls Try.prog 23 #[.agg #[.bool false, .slice (some ⟨g, 0, none⟩) fl fl], .int .i64 q.nth] u fun e w' => e = .returned (.tuple #[.int .i64 i, .int .i64 v, .bool true]) ∧ Kept u w') := fun u => by
    have := C1.out g u
    rw [HFL.out] at this
    exact this
  clear C0 C1
  refine wp_region_phase2 [(.pointer (some ⟨p, 0, none⟩)), (.pointer (some ⟨p, 0, none⟩)), (.agg #[.bool false, .slice (some ⟨g, 0, none⟩) fl fl]), (.pointer (some ⟨p, 0, none⟩)), (.pointer (some ⟨p, 0, none⟩)), (.pointer (some ⟨p, 10, none⟩)), (.int .i64 q.nth), (.tuple #[.int .i64 i, .int .i64 v, .bool true]), (.tuple #[.int .i64 i, .int .i64 v, .bool true]), (.int .i64 i), (.int .i64 v), (.bool true), (.pointer (some ⟨p, 0, none⟩)), (.pointer (some ⟨p, 14, none⟩)), (undef), (.pointer (some ⟨p, 0, none⟩)), (.pointer (some ⟨p, 15, none⟩)), (undef), (.bool true)] [(7, 18), (23, 8), (24, 0), (25, 1), (26, 2), (27, 3), (28, 4), (29, 5), (30, 6), (31, 7), (32, 9), (33, 10), (34, 11), (35, 12), (36, 13), (37, 15), (38, 16)] [_, _, _, _, _, _, _, _, _, _, _, _, _, _, _, _, _, _, _, _, _, _, _, _, _, _, _, _, _, _, _, _, _, _, _, _, _, _, _, _, _, _, _, _, _, _, _, _, _, _, _, _, _, _, _, _, _, _, _, _, _, _, _, _, _, _, _, _, _, _, _, _, _, _, _, _, _, _, _, _, _, _, _, _, _, _, _, _, _, _, _, _, _, _, _, _, _, _, _, _, _, _, _, _, _, _] (fun d u => FS u p E (fk q (if d 14 then i else q.lk) (if d 17 then v else q.pl)) ∧ Mut [p] W2 u) (by kernel_rfl) (by kernel_rfl) (by kernel_rfl) (by kernel_rfl) rfl ?_ ?_ ?_
  · exact ⟨by simpa [fk] using HF.out.kept (Kept.refl _).drew, (Mut.refl _ _).drew⟩
  · intro i1 o ho a1 d u hh hj hi hd
    match i1, ho, hi, hd with
    | 0, ho, hi, hd =>
      simp only [List.getElem?_cons_zero, Option.some.injEq] at ho
      subst ho
      have g0 : a1.tmps[0]? = some (.pointer (some ⟨p, 0, none⟩)) := hh.old 0 (by kernel_rfl) rfl
      clear hh hd
      have HN : Hid (FS u p E (fk q (if done d 0 14 then i else q.lk) (if done d 0 17 then v else q.pl)) ∧ Mut [p] W2 u) := (by simpa [done] using hj : FS u p E (fk q (if done d 0 14 then i else q.lk) (if done d 0 17 then v else q.pl)) ∧ Mut [p] W2 u)
      clear hj hi
      refine wpOp_step rfl (fun K hK => ?_)
      go_simp
      exact hK _ _ ⟨by simp [Act.put], HN.out⟩
    | 1, ho, hi, hd =>
      simp only [List.getElem?_cons_succ, List.getElem?_cons_zero, Option.some.injEq] at ho
      subst ho
      have g0 : a1.tmps[0]? = some (.pointer (some ⟨p, 0, none⟩)) := hh.old 0 (by kernel_rfl) rfl
      clear hh hd
      have HN : Hid (FS u p E (fk q (if done d 1 14 then i else q.lk) (if done d 1 17 then v else q.pl)) ∧ Mut [p] W2 u) := (by simpa [done] using hj : FS u p E (fk q (if done d 1 14 then i else q.lk) (if done d 1 17 then v else q.pl)) ∧ Mut [p] W2 u)
      clear hj hi
      refine wpOp_step rfl (fun K hK => ?_)
      go_simp
      exact hK _ _ ⟨by simp [Act.put], HN.out⟩
    | 2, ho, hi, hd =>
      simp only [List.getElem?_cons_succ, List.getElem?_cons_zero, Option.some.injEq] at ho
      subst ho
      have g4 : a1.tmps[4]? = some (.pointer (some ⟨w.heap.size, 0, none⟩)) := hh.old 4 (by kernel_rfl) rfl
      have B := HB.out.1.muts hj.2 (by have := HB.out.2.2.1; simp; omega)
      have s0 := B.at 0 rfl
      have s1 := B.at 1 rfl
      clear B
      clear hh hd
      have HN : Hid (FS u p E (fk q (if done d 2 14 then i else q.lk) (if done d 2 17 then v else q.pl)) ∧ Mut [p] W2 u) := (by simpa [done] using hj : FS u p E (fk q (if done d 2 14 then i else q.lk) (if done d 2 17 then v else q.pl)) ∧ Mut [p] W2 u)
      clear hj hi
      refine wpOp_step rfl (fun K hK => ?_)
      go_simp
      exact hK _ _ ⟨by simp [Act.put], HN.out⟩
    | 3, ho, hi, hd =>
      simp only [List.getElem?_cons_succ, List.getElem?_cons_zero, Option.some.injEq] at ho
      subst ho
      have g0 : a1.tmps[0]? = some (.pointer (some ⟨p, 0, none⟩)) := hh.old 0 (by kernel_rfl) rfl
      clear hh hd
      have HN : Hid (FS u p E (fk q (if done d 3 14 then i else q.lk) (if done d 3 17 then v else q.pl)) ∧ Mut [p] W2 u) := (by simpa [done] using hj : FS u p E (fk q (if done d 3 14 then i else q.lk) (if done d 3 17 then v else q.pl)) ∧ Mut [p] W2 u)
      clear hj hi
      refine wpOp_step rfl (fun K hK => ?_)
      go_simp
      exact hK _ _ ⟨by simp [Act.put], HN.out⟩
    | 4, ho, hi, hd =>
      simp only [List.getElem?_cons_succ, List.getElem?_cons_zero, Option.some.injEq] at ho
      subst ho
      have g27 : a1.tmps[27]? = some (.pointer (some ⟨p, 0, none⟩)) := hh.did 3 _ 27 rfl rfl (hd { on := 3, ground := .data } (by simp) rfl)
      clear hh hd
      have HN : Hid (FS u p E (fk q (if done d 4 14 then i else q.lk) (if done d 4 17 then v else q.pl)) ∧ Mut [p] W2 u) := (by simpa [done] using hj : FS u p E (fk q (if done d 4 14 then i else q.lk) (if done d 4 17 then v else q.pl)) ∧ Mut [p] W2 u)
      clear hj hi
      refine wpOp_step rfl (fun K hK => ?_)
      go_simp
      exact hK _ _ ⟨by simp [Act.put], HN.out⟩
    | 5, ho, hi, hd =>
      simp only [List.getElem?_cons_succ, List.getElem?_cons_zero, Option.some.injEq] at ho
      subst ho
      have g28 : a1.tmps[28]? = some (.pointer (some ⟨p, 0, none⟩)) := hh.did 4 _ 28 rfl rfl (hd { on := 4, ground := .data } (by simp) rfl)
      clear hh hd
      have HN : Hid (FS u p E (fk q (if done d 5 14 then i else q.lk) (if done d 5 17 then v else q.pl)) ∧ Mut [p] W2 u) := (by simpa [done] using hj : FS u p E (fk q (if done d 5 14 then i else q.lk) (if done d 5 17 then v else q.pl)) ∧ Mut [p] W2 u)
      clear hj hi
      refine wpOp_step rfl (fun K hK => ?_)
      go_simp
      exact hK _ _ ⟨by simp [Act.put], HN.out⟩
    | 6, ho, hi, hd =>
      simp only [List.getElem?_cons_succ, List.getElem?_cons_zero, Option.some.injEq] at ho
      subst ho
      have g29 : a1.tmps[29]? = some (.pointer (some ⟨p, 10, none⟩)) := hh.did 5 _ 29 rfl rfl (hd { on := 5, ground := .data } (by simp) rfl)
      have c10 : u.cell? ⟨p, 10, none⟩ = some (.int .i64 q.nth) := hj.1.b.at 10 rfl
      clear hh hd
      have HN : Hid (FS u p E (fk q (if done d 6 14 then i else q.lk) (if done d 6 17 then v else q.pl)) ∧ Mut [p] W2 u) := (by simpa [done] using hj : FS u p E (fk q (if done d 6 14 then i else q.lk) (if done d 6 17 then v else q.pl)) ∧ Mut [p] W2 u)
      clear hj hi
      refine wpOp_step rfl (fun K hK => ?_)
      go_simp
      exact hK _ _ ⟨by simp [Act.put], HN.out⟩
    | 7, ho, hi, hd =>
      simp only [List.getElem?_cons_succ, List.getElem?_cons_zero, Option.some.injEq] at ho
      subst ho
      have g26 : a1.tmps[26]? = some (.agg #[.bool false, .slice (some ⟨g, 0, none⟩) fl fl]) := hh.did 2 _ 26 rfl rfl (hd { on := 2, ground := .data } (by simp) rfl)
      have g30 : a1.tmps[30]? = some (.int .i64 q.nth) := hh.did 6 _ 30 rfl rfl (hd { on := 6, ground := .data } (by simp) rfl)
      have CA := CP.out u
      clear hh hd
      have HN : Hid (∀ u', Kept u u' → FS u' p E (fk q (if done d 7 14 then i else q.lk) (if done d 7 17 then v else q.pl)) ∧ Mut [p] W2 u') := fun u' a => ⟨by simpa [done] using hj.1.kept a, hj.2.trans a.mut⟩
      clear hj hi
      refine wpOp_step rfl (fun K hK => ?_)
      go_simp
      refine CA.mono ?_
      rintro e u' ⟨rfl, a⟩
      exact hK _ _ ⟨by simp [Act.put], HN.out u' a⟩
    | 8, ho, hi, hd =>
      simp only [List.getElem?_cons_succ, List.getElem?_cons_zero, Option.some.injEq] at ho
      subst ho
      have g31 : a1.tmps[31]? = some (.tuple #[.int .i64 i, .int .i64 v, .bool true]) := hh.did 7 _ 31 rfl rfl (hd { on := 7, ground := .data } (by simp) rfl)
      clear hh hd
      have HN : Hid (FS u p E (fk q (if done d 8 14 then i else q.lk) (if done d 8 17 then v else q.pl)) ∧ Mut [p] W2 u) := (by simpa [done] using hj : FS u p E (fk q (if done d 8 14 then i else q.lk) (if done d 8 17 then v else q.pl)) ∧ Mut [p] W2 u)
      clear hj hi
      refine wpOp_step rfl (fun K hK => ?_)
      go_simp
      exact hK _ _ ⟨by simp [Act.put], HN.out⟩
    | 9, ho, hi, hd =>
      simp only [List.getElem?_cons_succ, List.getElem?_cons_zero, Option.some.injEq] at ho
      subst ho
      have g23 : a1.tmps[23]? = some (.tuple #[.int .i64 i, .int .i64 v, .bool true]) := hh.did 8 _ 23 rfl rfl (hd { on := 8, ground := .data } (by simp) rfl)
      clear hh hd
      have HN : Hid (FS u p E (fk q (if done d 9 14 then i else q.lk) (if done d 9 17 then v else q.pl)) ∧ Mut [p] W2 u) := (by simpa [done] using hj : FS u p E (fk q (if done d 9 14 then i else q.lk) (if done d 9 17 then v else q.pl)) ∧ Mut [p] W2 u)
      clear hj hi
      refine wpOp_step rfl (fun K hK => ?_)
      go_simp
      exact hK _ _ ⟨by simp [Act.put], HN.out⟩
    | 10, ho, hi, hd =>
      simp only [List.getElem?_cons_succ, List.getElem?_cons_zero, Option.some.injEq] at ho
      subst ho
      have g23 : a1.tmps[23]? = some (.tuple #[.int .i64 i, .int .i64 v, .bool true]) := hh.did 8 _ 23 rfl rfl (hd { on := 8, ground := .data } (by simp) rfl)
      clear hh hd
      have HN : Hid (FS u p E (fk q (if done d 10 14 then i else q.lk) (if done d 10 17 then v else q.pl)) ∧ Mut [p] W2 u) := (by simpa [done] using hj : FS u p E (fk q (if done d 10 14 then i else q.lk) (if done d 10 17 then v else q.pl)) ∧ Mut [p] W2 u)
      clear hj hi
      refine wpOp_step rfl (fun K hK => ?_)
      go_simp
      exact hK _ _ ⟨by simp [Act.put], HN.out⟩
    | 11, ho, hi, hd =>
      simp only [List.getElem?_cons_succ, List.getElem?_cons_zero, Option.some.injEq] at ho
      subst ho
      have g23 : a1.tmps[23]? = some (.tuple #[.int .i64 i, .int .i64 v, .bool true]) := hh.did 8 _ 23 rfl rfl (hd { on := 8, ground := .data } (by simp) rfl)
      clear hh hd
      have HN : Hid (FS u p E (fk q (if done d 11 14 then i else q.lk) (if done d 11 17 then v else q.pl)) ∧ Mut [p] W2 u) := (by simpa [done] using hj : FS u p E (fk q (if done d 11 14 then i else q.lk) (if done d 11 17 then v else q.pl)) ∧ Mut [p] W2 u)
      clear hj hi
      refine wpOp_step rfl (fun K hK => ?_)
      go_simp
      exact hK _ _ ⟨by simp [Act.put], HN.out⟩
    | 12, ho, hi, hd =>
      simp only [List.getElem?_cons_succ, List.getElem?_cons_zero, Option.some.injEq] at ho
      subst ho
      have g24 : a1.tmps[24]? = some (.pointer (some ⟨p, 0, none⟩)) := hh.did 0 _ 24 rfl rfl (hd { on := 0, ground := .data } (by simp) rfl)
      clear hh hd
      have HN : Hid (FS u p E (fk q (if done d 12 14 then i else q.lk) (if done d 12 17 then v else q.pl)) ∧ Mut [p] W2 u) := (by simpa [done] using hj : FS u p E (fk q (if done d 12 14 then i else q.lk) (if done d 12 17 then v else q.pl)) ∧ Mut [p] W2 u)
      clear hj hi
      refine wpOp_step rfl (fun K hK => ?_)
      go_simp
      exact hK _ _ ⟨by simp [Act.put], HN.out⟩
    | 13, ho, hi, hd =>
      simp only [List.getElem?_cons_succ, List.getElem?_cons_zero, Option.some.injEq] at ho
      subst ho
      have g35 : a1.tmps[35]? = some (.pointer (some ⟨p, 0, none⟩)) := hh.did 12 _ 35 rfl rfl (hd { on := 12, ground := .data } (by simp) rfl)
      clear hh hd
      have HN : Hid (FS u p E (fk q (if done d 13 14 then i else q.lk) (if done d 13 17 then v else q.pl)) ∧ Mut [p] W2 u) := (by simpa [done] using hj : FS u p E (fk q (if done d 13 14 then i else q.lk) (if done d 13 17 then v else q.pl)) ∧ Mut [p] W2 u)
      clear hj hi
      refine wpOp_step rfl (fun K hK => ?_)
      go_simp
      exact hK _ _ ⟨by simp [Act.put], HN.out⟩
    | 14, ho, hi, hd =>
      simp only [List.getElem?_cons_succ, List.getElem?_cons_zero, Option.some.injEq] at ho
      subst ho
      have g32 : a1.tmps[32]? = some (.int .i64 i) := hh.did 9 _ 32 rfl rfl (hd { on := 9, ground := .data } (by simp) rfl)
      have g36 : a1.tmps[36]? = some (.pointer (some ⟨p, 14, none⟩)) := hh.did 13 _ 36 rfl rfl (hd { on := 13, ground := .data } (by simp) rfl)
      have cc := hj.1.b.at 14 rfl
      have fz := hj.1.b.fz
      clear hh hd
      have HN : Hid (FS (u.setCell ⟨p, 14, none⟩ (.int .i64 i)) p E (fk q (if done d 14 14 then i else q.lk) (if done d 14 17 then v else q.pl)) ∧ Mut [p] W2 (u.setCell ⟨p, 14, none⟩ (.int .i64 i))) := ⟨(by simpa [done] using hj.1.put (i := 14) rfl (.int .i64 i) (d' := fk q i (if d 17 then v else q.pl)) rfl), hj.2.setCell (by simp) _⟩
      clear hj hi
      refine wpOp_step rfl (fun K hK => ?_)
      go_simp
      exact hK _ _ ⟨by simp [Act.put], HN.out⟩
    | 15, ho, hi, hd =>
      simp only [List.getElem?_cons_succ, List.getElem?_cons_zero, Option.some.injEq] at ho
      subst ho
      have g25 : a1.tmps[25]? = some (.pointer (some ⟨p, 0, none⟩)) := hh.did 1 _ 25 rfl rfl (hd { on := 1, ground := .data } (by simp) rfl)
      clear hh hd
      have HN : Hid (FS u p E (fk q (if done d 15 14 then i else q.lk) (if done d 15 17 then v else q.pl)) ∧ Mut [p] W2 u) := (by simpa [done] using hj : FS u p E (fk q (if done d 15 14 then i else q.lk) (if done d 15 17 then v else q.pl)) ∧ Mut [p] W2 u)
      clear hj hi
      refine wpOp_step rfl (fun K hK => ?_)
      go_simp
      exact hK _ _ ⟨by simp [Act.put], HN.out⟩
    | 16, ho, hi, hd =>
      simp only [List.getElem?_cons_succ, List.getElem?_cons_zero, Option.some.injEq] at ho
      subst ho
      have g37 : a1.tmps[37]? = some (.pointer (some ⟨p, 0, none⟩)) := hh.did 15 _ 37 rfl rfl (hd { on := 15, ground := .data } (by simp) rfl)
      clear hh hd
      have HN : Hid (FS u p E (fk q (if done d 16 14 then i else q.lk) (if done d 16 17 then v else q.pl)) ∧ Mut [p] W2 u) := (by simpa [done] using hj : FS u p E (fk q (if done d 16 14 then i else q.lk) (if done d 16 17 then v else q.pl)) ∧ Mut [p] W2 u)
      clear hj hi
      refine wpOp_step rfl (fun K hK => ?_)
      go_simp
      exact hK _ _ ⟨by simp [Act.put], HN.out⟩
    | 17, ho, hi, hd =>
      simp only [List.getElem?_cons_succ, List.getElem?_cons_zero, Option.some.injEq] at ho
      subst ho
      have g33 : a1.tmps[33]? = some (.int .i64 v) := hh.did 10 _ 33 rfl rfl (hd { on := 10, ground := .data } (by simp) rfl)
      have g38 : a1.tmps[38]? = some (.pointer (some ⟨p, 15, none⟩)) := hh.did 16 _ 38 rfl rfl (hd { on := 16, ground := .data } (by simp) rfl)
      have cc := hj.1.b.at 15 rfl
      have fz := hj.1.b.fz
      clear hh hd
      have HN : Hid (FS (u.setCell ⟨p, 15, none⟩ (.int .i64 v)) p E (fk q (if done d 17 14 then i else q.lk) (if done d 17 17 then v else q.pl)) ∧ Mut [p] W2 (u.setCell ⟨p, 15, none⟩ (.int .i64 v))) := ⟨(by simpa [done] using hj.1.put (i := 15) rfl (.int .i64 v) (d' := fk q (if d 14 then i else q.lk) v) rfl), hj.2.setCell (by simp) _⟩
      clear hj hi
      refine wpOp_step rfl (fun K hK => ?_)
      go_simp
      exact hK _ _ ⟨by simp [Act.put], HN.out⟩
    | 18, ho, hi, hd =>
      simp only [List.getElem?_cons_succ, List.getElem?_cons_zero, Option.some.injEq] at ho
      subst ho
      have g34 : a1.tmps[34]? = some (.bool true) := hh.did 11 _ 34 rfl rfl (hd { on := 11, ground := .data } (by simp) rfl)
      clear hh hd
      have HN : Hid (FS u p E (fk q (if done d 18 14 then i else q.lk) (if done d 18 17 then v else q.pl)) ∧ Mut [p] W2 u) := (by simpa [done] using hj : FS u p E (fk q (if done d 18 14 then i else q.lk) (if done d 18 17 then v else q.pl)) ∧ Mut [p] W2 u)
      clear hj hi
      refine wpOp_step rfl (fun K hK => ?_)
      go_simp
      exact hK _ _ ⟨by simp [Act.put], HN.out⟩
    | n + 19, ho, hi, hd => simp at ho
  · intro u d hall hj
    have hF : FS u p E (fk q i v) := by
      have B := hj.1
      rw [hall 14 (by decide), hall 17 (by decide)] at B
      exact B
    have hfl : n < fl := by have := HL.out; rw [HFL.out] at this; exact this
    have hB := HB.out.1.muts hj.2 (by have := HB.out.2.2.1; simp; omega)
    have hR : u.cell? ⟨g, n, none⟩ = some (.bool (E.R k n)) := by
      obtain ⟨g', o', e, hg', cc⟩ := HB.out.2.1 (by omega)
      obtain ⟨rfl, rfl⟩ : g = g' ∧ 0 = o' := by simpa using e
      have := cc n hfl
      rw [Nat.zero_add] at this
      exact (hj.2.cell hg' (by have := HB.out.2.2.1; have := HB.out.2.2.2.1; simp; omega)).trans this
    have HF3 : Hid (FS u p E (fk q i v) ∧ Mut [p] w u) := ⟨hF, HB.out.2.2.2.2.mut.trans hj.2⟩
    clear hj hF hall
    have s0 := hB.at 0 rfl
    have s1 := hB.at 1 rfl
    have c10 : u.cell? ⟨p, 10, none⟩ = some (.int .i64 n) := by rw [← HN.out]; exact HF3.out.1.b.at 10 rfl
    have c17 : u.cell? ⟨p, 17, none⟩ = some (.bool q.rf) := HF3.out.1.b.at 17 rfl
    have fz := HF3.out.1.b.fz
    clear hB
    go_wp2_with fail
    go_region
    have HF4 : Hid (FS (u.setCell ⟨p, 17, none⟩ (.bool (E.R k n))).drew p E (fr q i v (E.R k n)) ∧ Mut [p] w (u.setCell ⟨p, 17, none⟩ (.bool (E.R k n))).drew) := ⟨(HF3.out.1.put (i := 17) rfl (.bool (E.R k n)) (d' := fr q i v (E.R k n)) rfl).kept (Kept.refl _).drew, (HF3.out.2.setCell (by simp) _).drew⟩
    clear s0 s1 c10 c17 fz hR HF3
    generalize (u.setCell ⟨p, 17, none⟩ (.bool (E.R k n))).drew = W4 at *
    have c9 : W4.cell? ⟨p, 9, none⟩ = some (.int .i64 q.head) := HF4.out.1.b.at 9 rfl
    have c14 : W4.cell? ⟨p, 14, none⟩ = some (.int .i64 i) := HF4.out.1.b.at 14 rfl
    have c15 : W4.cell? ⟨p, 15, none⟩ = some (.int .i64 v) := HF4.out.1.b.at 15 rfl
    have fz := HF4.out.1.b.fz
    go_wp2_with fail
    go_step3
    refine ⟨rfl, HK.out _ _ ?_⟩
    go_wp2_with fail
    refine (stand_is 2 q.head 0 _ HF4.out.1 HH.out (by omega)).mono ?_
    rintro e w9 ⟨rfl, HF9, HU9⟩
    go_wp2
    (try simp only [Exit.inBlock])
    (try simp only [Exit.then])
    (try simp only [Exit.jump])
    (try simp only [Exit.noGoto])
    refine bodyPost_ret (results_none rfl _ _ _) rfl ?_
    exact ⟨rfl, HF9, HF4.out.2.trans HU9⟩

set_option maxRecDepth 10000 in
set_option maxHeartbeats 4000000 in
/-- In the first fragment. -/
theorem field_near {q : Fd} (k : Nat) (m : Int) (w : World) (h : FS w p E q) (hs : q.st = 1) (hk : k < E.sl) (hm : 0 ≤ m ∧ m ≤ 1) (ha : (E.S k).arr = false) (hq : q.arr = false) {n : Nat} {i v : Int} (hn : q.nth = n) (hl : n < (E.S k).l) (hi : (q.nth + 1) / 7 = i) (hv : 1 + (q.nth + 1) % 7 = v) (hh : 0 ≤ q.head ∧ q.head < E.n0) (hm0 : m = 0) (hi0 : i = 0) :
    Calls Try.prog 76 #[.pointer (some ⟨p, 0, none⟩), .complex .f64 (ch k m).re (ch k m).im] w fun e w' => e = .returned (.tuple #[]) ∧ FS w' p E { q with st := 8, at' := q.head * 8 + v, lk := 0, pl := v, rf := E.R k n } ∧ Mut [p] w w' := by
  have C0 : Hid (∀ w', Kept w w' → Calls Try.prog 99 #[.pointer (some ⟨p, 0, none⟩), .complex .f64 (ch k m).re (ch k m).im] w' _) := fun w' Q => headed_ok k m w' (h.kept Q) hk hm (ha.trans hq.symm) (fun x => by rw [hq] at x; cases x)
  have HS : Hid (FS w p E q) := h
  have HA : Hid ((E.S k).arr = false) := ha
  have hst : q.st = 1 := hs
  have h40 : (E.S k).l ≤ 40 := may_few (h.ok.2.2.2 k hk)
  have hn0 : E.n0 ≤ 1024 := h.ok.1.1.2
  have C1 : Hid (∀ g u, Calls Try.prog 23 #[.agg #[.bool false, .slice (some ⟨g, 0, none⟩) (E.S k).l (E.S k).l], .int .i64 q.nth] u _) := fun g u => place_in (some ⟨g, 0, none⟩) (E.S k).l (E.S k).l q.nth i v u h40 (by omega) (by omega) hi hv
  have HN : Hid (q.nth = n) := hn
  have hv8 : 0 ≤ v ∧ v < 8 := by omega
  have HL : Hid (n < (E.S k).l) := hl
  have HH : Hid (0 ≤ q.head ∧ q.head < E.n0) := hh
  have hi6 : 0 ≤ i ∧ i ≤ 6 := by omega
  have hhd : 0 ≤ q.head ∧ q.head ≤ 1024 := by omega
  have e1 : (m == 1) = false := by simp [hm0]
  have e2 : (i == 0) = true := by simpa using hi0
  have HI0 : Hid (i = 0) := hi0
  clear hm hm0 hi0
  clear h ha hk hs hq h40 hn0 hi hv hl hn hh
  generalize (ch k m) = z at *
  go_enter Try.func76, Try.ntmps76
  refine wp_scope_hop 2 rfl fun K HK => ?_
  go_upto_region 4 with fail
  generalize hW0 : w.alloc _ = W0
  have b0 : Blk W0 w.heap.size [.bool false, .slice none 0 0] := by rw [← hW0]; exact Blk.new w _ _
  have k0 : Kept w W0 := by rw [← hW0]; exact (Kept.refl w).alloc _ _
  have z0 : W0.heap.size = w.heap.size + 1 := by rw [← hW0]; simp
  clear hW0
  have c12 : W0.cell? ⟨p, 12, none⟩ = some (.int .i64 1) := by rw [← hst]; exact (HS.out.kept k0).b.at 12 rfl
  have HG : Hid (Kept w W0 ∧ Blk W0 w.heap.size [.bool false, .slice none 0 0] ∧ W0.heap.size = w.heap.size + 1) := ⟨k0, b0, z0⟩
  clear b0 k0 z0
  go_wp2_with fail
  refine (C0.out _ HG.out.1).mono ?_
  rintro e w1 ⟨g, rfl, hr, hg, K1⟩
  have HG1 : Hid (Kept w w1 ∧ Blk w1 w.heap.size [.bool false, .slice none 0 0] ∧ w.heap.size < g ∧ Refs w1 (some ⟨g, 0, none⟩) (E.S k).l (E.R k)) := ⟨HG.out.1.trans K1, HG.out.2.1.kept K1, by have := HG.out.2.2; omega, hr⟩
  clear HG K1 c12 hr hg
  have a0 := HG1.out.2.1.at 0 rfl
  have a1 := HG1.out.2.1.at 1 rfl
  have fz := HG1.out.2.1.fz
  rw [HA.out]
  obtain ⟨fl, hfl⟩ : ∃ fl, (E.S k).l = fl := ⟨_, rfl⟩
  rw [hfl] at HG1 ⊢
  have HFL : Hid ((E.S k).l = fl) := hfl
  clear hfl
  go_upto_region 7 with fail
  generalize hW2 : (w1.setCell _ _).setCell _ _ = W2
  have hk2 : Kept w W2 := by rw [← hW2]; exact (HG1.out.1.setCell (by simp) _).setCell (by simp) _
  have hb2 : Blk W2 w.heap.size [.bool false, .slice (some ⟨g, 0, none⟩) fl fl] := by rw [← hW2]; exact (HG1.out.2.1.set (i := 0) rfl _).set (i := 1) rfl _
  have hr2 : Refs W2 (some ⟨g, 0, none⟩) fl (E.R k) := by
    have := HG1.out.2.2.1
    rw [← hW2]
    exact (HG1.out.2.2.2.set_other (by simp; omega) _).set_other (by simp; omega) _
  have HF : Hid (FS W2 p E q) := HS.out.kept hk2
  have HB : Hid (Blk W2 w.heap.size [.bool false, .slice (some ⟨g, 0, none⟩) fl fl] ∧ Refs W2 (some ⟨g, 0, none⟩) fl (E.R k) ∧ p < w.heap.size ∧ w.heap.size < g ∧ Kept w W2) := ⟨hb2, hr2, HS.out.b.lt, HG1.out.2.2.1, hk2⟩
  clear hW2 hk2 hb2 hr2 HG1 a0 a1 fz
  have CP : Hid (∀ u, Calls Try.prog 23 #[.agg #[.bool false, .slice (some ⟨g, 0, none⟩) fl fl], .int .i64 q.nth] u fun e w' => e = .returned (.tuple #[.int .i64 i, .int .i64 v, .bool true]) ∧ Kept u w') := fun u => by
    have := C1.out g u
    rw [HFL.out] at this
    exact this
  clear C0 C1
  refine wp_region_phase2 [(.pointer (some ⟨p, 0, none⟩)), (.pointer (some ⟨p, 0, none⟩)), (.agg #[.bool false, .slice (some ⟨g, 0, none⟩) fl fl]), (.pointer (some ⟨p, 0, none⟩)), (.pointer (some ⟨p, 0, none⟩)), (.pointer (some ⟨p, 10, none⟩)), (.int .i64 q.nth), (.tuple #[.int .i64 i, .int .i64 v, .bool true]), (.tuple #[.int .i64 i, .int .i64 v, .bool true]), (.int .i64 i), (.int .i64 v), (.bool true), (.pointer (some ⟨p, 0, none⟩)), (.pointer (some ⟨p, 14, none⟩)), (undef), (.pointer (some ⟨p, 0, none⟩)), (.pointer (some ⟨p, 15, none⟩)), (undef), (.bool true)] [(7, 18), (23, 8), (24, 0), (25, 1), (26, 2), (27, 3), (28, 4), (29, 5), (30, 6), (31, 7), (32, 9), (33, 10), (34, 11), (35, 12), (36, 13), (37, 15), (38, 16)] [_, _, _, _, _, _, _, _, _, _, _, _, _, _, _, _, _, _, _, _, _, _, _, _, _, _, _, _, _, _, _, _, _, _, _, _, _, _, _, _, _, _, _, _, _, _, _, _, _, _, _, _, _, _, _, _, _, _, _, _, _, _, _, _, _, _, _, _, _, _, _, _, _, _, _, _, _, _, _, _, _, _, _, _, _, _, _, _, _, _, _, _, _, _, _, _, _, _, _, _, _, _, _, _, _, _] (fun d u => FS u p E (fk q (if d 14 then i else q.lk) (if d 17 then v else q.pl)) ∧ Mut [p] W2 u) (by kernel_rfl) (by kernel_rfl) (by kernel_rfl) (by kernel_rfl) rfl ?_ ?_ ?_
  · exact ⟨by simpa [fk] using HF.out.kept (Kept.refl _).drew, (Mut.refl _ _).drew⟩
  · intro i1 o ho a1 d u hh hj hi hd
    match i1, ho, hi, hd with
    | 0, ho, hi, hd =>
      simp only [List.getElem?_cons_zero, Option.some.injEq] at ho
      subst ho
      have g0 : a1.tmps[0]? = some (.pointer (some ⟨p, 0, none⟩)) := hh.old 0 (by kernel_rfl) rfl
      clear hh hd
      have HN : Hid (FS u p E (fk q (if done d 0 14 then i else q.lk) (if done d 0 17 then v else q.pl)) ∧ Mut [p] W2 u) := (by simpa [done] using hj : FS u p E (fk q (if done d 0 14 then i else q.lk) (if done d 0 17 then v else q.pl)) ∧ Mut [p] W2 u)
      clear hj hi
      refine wpOp_step rfl (fun K hK => ?_)
      go_simp
      exact hK _ _ ⟨by simp [Act.put], HN.out⟩
    | 1, ho, hi, hd =>
      simp only [List.getElem?_cons_succ, List.getElem?_cons_zero, Option.some.injEq] at ho
      subst ho
      have g0 : a1.tmps[0]? = some (.pointer (some ⟨p, 0, none⟩)) := hh.old 0 (by kernel_rfl) rfl
      clear hh hd
      have HN : Hid (FS u p E (fk q (if done d 1 14 then i else q.lk) (if done d 1 17 then v else q.pl)) ∧ Mut [p] W2 u) := (by simpa [done] using hj : FS u p E (fk q (if done d 1 14 then i else q.lk) (if done d 1 17 then v else q.pl)) ∧ Mut [p] W2 u)
      clear hj hi
      refine wpOp_step rfl (fun K hK => ?_)
      go_simp
      exact hK _ _ ⟨by simp [Act.put], HN.out⟩
    | 2, ho, hi, hd =>
      simp only [List.getElem?_cons_succ, List.getElem?_cons_zero, Option.some.injEq] at ho
      subst ho
      have g4 : a1.tmps[4]? = some (.pointer (some ⟨w.heap.size, 0, none⟩)) := hh.old 4 (by kernel_rfl) rfl
      have B := HB.out.1.muts hj.2 (by have := HB.out.2.2.1; simp; omega)
      have s0 := B.at 0 rfl
      have s1 := B.at 1 rfl
      clear B
      clear hh hd
      have HN : Hid (FS u p E (fk q (if done d 2 14 then i else q.lk) (if done d 2 17 then v else q.pl)) ∧ Mut [p] W2 u) := (by simpa [done] using hj : FS u p E (fk q (if done d 2 14 then i else q.lk) (if done d 2 17 then v else q.pl)) ∧ Mut [p] W2 u)
      clear hj hi
      refine wpOp_step rfl (fun K hK => ?_)
      go_simp
      exact hK _ _ ⟨by simp [Act.put], HN.out⟩
    | 3, ho, hi, hd =>
      simp only [List.getElem?_cons_succ, List.getElem?_cons_zero, Option.some.injEq] at ho
      subst ho
      have g0 : a1.tmps[0]? = some (.pointer (some ⟨p, 0, none⟩)) := hh.old 0 (by kernel_rfl) rfl
      clear hh hd
      have HN : Hid (FS u p E (fk q (if done d 3 14 then i else q.lk) (if done d 3 17 then v else q.pl)) ∧ Mut [p] W2 u) := (by simpa [done] using hj : FS u p E (fk q (if done d 3 14 then i else q.lk) (if done d 3 17 then v else q.pl)) ∧ Mut [p] W2 u)
      clear hj hi
      refine wpOp_step rfl (fun K hK => ?_)
      go_simp
      exact hK _ _ ⟨by simp [Act.put], HN.out⟩
    | 4, ho, hi, hd =>
      simp only [List.getElem?_cons_succ, List.getElem?_cons_zero, Option.some.injEq] at ho
      subst ho
      have g27 : a1.tmps[27]? = some (.pointer (some ⟨p, 0, none⟩)) := hh.did 3 _ 27 rfl rfl (hd { on := 3, ground := .data } (by simp) rfl)
      clear hh hd
      have HN : Hid (FS u p E (fk q (if done d 4 14 then i else q.lk) (if done d 4 17 then v else q.pl)) ∧ Mut [p] W2 u) := (by simpa [done] using hj : FS u p E (fk q (if done d 4 14 then i else q.lk) (if done d 4 17 then v else q.pl)) ∧ Mut [p] W2 u)
      clear hj hi
      refine wpOp_step rfl (fun K hK => ?_)
      go_simp
      exact hK _ _ ⟨by simp [Act.put], HN.out⟩
    | 5, ho, hi, hd =>
      simp only [List.getElem?_cons_succ, List.getElem?_cons_zero, Option.some.injEq] at ho
      subst ho
      have g28 : a1.tmps[28]? = some (.pointer (some ⟨p, 0, none⟩)) := hh.did 4 _ 28 rfl rfl (hd { on := 4, ground := .data } (by simp) rfl)
      clear hh hd
      have HN : Hid (FS u p E (fk q (if done d 5 14 then i else q.lk) (if done d 5 17 then v else q.pl)) ∧ Mut [p] W2 u) := (by simpa [done] using hj : FS u p E (fk q (if done d 5 14 then i else q.lk) (if done d 5 17 then v else q.pl)) ∧ Mut [p] W2 u)
      clear hj hi
      refine wpOp_step rfl (fun K hK => ?_)
      go_simp
      exact hK _ _ ⟨by simp [Act.put], HN.out⟩
    | 6, ho, hi, hd =>
      simp only [List.getElem?_cons_succ, List.getElem?_cons_zero, Option.some.injEq] at ho
      subst ho
      have g29 : a1.tmps[29]? = some (.pointer (some ⟨p, 10, none⟩)) := hh.did 5 _ 29 rfl rfl (hd { on := 5, ground := .data } (by simp) rfl)
      have c10 : u.cell? ⟨p, 10, none⟩ = some (.int .i64 q.nth) := hj.1.b.at 10 rfl
      clear hh hd
      have HN : Hid (FS u p E (fk q (if done d 6 14 then i else q.lk) (if done d 6 17 then v else q.pl)) ∧ Mut [p] W2 u) := (by simpa [done] using hj : FS u p E (fk q (if done d 6 14 then i else q.lk) (if done d 6 17 then v else q.pl)) ∧ Mut [p] W2 u)
      clear hj hi
      refine wpOp_step rfl (fun K hK => ?_)
      go_simp
      exact hK _ _ ⟨by simp [Act.put], HN.out⟩
    | 7, ho, hi, hd =>
      simp only [List.getElem?_cons_succ, List.getElem?_cons_zero, Option.some.injEq] at ho
      subst ho
      have g26 : a1.tmps[26]? = some (.agg #[.bool false, .slice (some ⟨g, 0, none⟩) fl fl]) := hh.did 2 _ 26 rfl rfl (hd { on := 2, ground := .data } (by simp) rfl)
      have g30 : a1.tmps[30]? = some (.int .i64 q.nth) := hh.did 6 _ 30 rfl rfl (hd { on := 6, ground := .data } (by simp) rfl)
      have CA := CP.out u
      clear hh hd
      have HN : Hid (∀ u', Kept u u' → FS u' p E (fk q (if done d 7 14 then i else q.lk) (if done d 7 17 then v else q.pl)) ∧ Mut [p] W2 u') := fun u' a => ⟨by simpa [done] using hj.1.kept a, hj.2.trans a.mut⟩
      clear hj hi
      refine wpOp_step rfl (fun K hK => ?_)
      go_simp
      refine CA.mono ?_
      rintro e u' ⟨rfl, a⟩
      exact hK _ _ ⟨by simp [Act.put], HN.out u' a⟩
    | 8, ho, hi, hd =>
      simp only [List.getElem?_cons_succ, List.getElem?_cons_zero, Option.some.injEq] at ho
      subst ho
      have g31 : a1.tmps[31]? = some (.tuple #[.int .i64 i, .int .i64 v, .bool true]) := hh.did 7 _ 31 rfl rfl (hd { on := 7, ground := .data } (by simp) rfl)
      clear hh hd
      have HN : Hid (FS u p E (fk q (if done d 8 14 then i else q.lk) (if done d 8 17 then v else q.pl)) ∧ Mut [p] W2 u) := (by simpa [done] using hj : FS u p E (fk q (if done d 8 14 then i else q.lk) (if done d 8 17 then v else q.pl)) ∧ Mut [p] W2 u)
      clear hj hi
      refine wpOp_step rfl (fun K hK => ?_)
      go_simp
      exact hK _ _ ⟨by simp [Act.put], HN.out⟩
    | 9, ho, hi, hd =>
      simp only [List.getElem?_cons_succ, List.getElem?_cons_zero, Option.some.injEq] at ho
      subst ho
      have g23 : a1.tmps[23]? = some (.tuple #[.int .i64 i, .int .i64 v, .bool true]) := hh.did 8 _ 23 rfl rfl (hd { on := 8, ground := .data } (by simp) rfl)
      clear hh hd
      have HN : Hid (FS u p E (fk q (if done d 9 14 then i else q.lk) (if done d 9 17 then v else q.pl)) ∧ Mut [p] W2 u) := (by simpa [done] using hj : FS u p E (fk q (if done d 9 14 then i else q.lk) (if done d 9 17 then v else q.pl)) ∧ Mut [p] W2 u)
      clear hj hi
      refine wpOp_step rfl (fun K hK => ?_)
      go_simp
      exact hK _ _ ⟨by simp [Act.put], HN.out⟩
    | 10, ho, hi, hd =>
      simp only [List.getElem?_cons_succ, List.getElem?_cons_zero, Option.some.injEq] at ho
      subst ho
      have g23 : a1.tmps[23]? = some (.tuple #[.int .i64 i, .int .i64 v, .bool true]) := hh.did 8 _ 23 rfl rfl (hd { on := 8, ground := .data } (by simp) rfl)
      clear hh hd
      have HN : Hid (FS u p E (fk q (if done d 10 14 then i else q.lk) (if done d 10 17 then v else q.pl)) ∧ Mut [p] W2 u) := (by simpa [done] using hj : FS u p E (fk q (if done d 10 14 then i else q.lk) (if done d 10 17 then v else q.pl)) ∧ Mut [p] W2 u)
      clear hj hi
      refine wpOp_step rfl (fun K hK => ?_)
      go_simp
      exact hK _ _ ⟨by simp [Act.put], HN.out⟩
    | 11, ho, hi, hd =>
      simp only [List.getElem?_cons_succ, List.getElem?_cons_zero, Option.some.injEq] at ho
      subst ho
      have g23 : a1.tmps[23]? = some (.tuple #[.int .i64 i, .int .i64 v, .bool true]) := hh.did 8 _ 23 rfl rfl (hd { on := 8, ground := .data } (by simp) rfl)
      clear hh hd
      have HN : Hid (FS u p E (fk q (if done d 11 14 then i else q.lk) (if done d 11 17 then v else q.pl)) ∧ Mut [p] W2 u) := (by simpa [done] using hj : FS u p E (fk q (if done d 11 14 then i else q.lk) (if done d 11 17 then v else q.pl)) ∧ Mut [p] W2 u)
      clear hj hi
      refine wpOp_step rfl (fun K hK => ?_)
      go_simp
      exact hK _ _ ⟨by simp [Act.put], HN.out⟩
    | 12, ho, hi, hd =>
      simp only [List.getElem?_cons_succ, List.getElem?_cons_zero, Option.some.injEq] at ho
      subst ho
      have g24 : a1.tmps[24]? = some (.pointer (some ⟨p, 0, none⟩)) := hh.did 0 _ 24 rfl rfl (hd { on := 0, ground := .data } (by simp) rfl)
      clear hh hd
      have HN : Hid (FS u p E (fk q (if done d 12 14 then i else q.lk) (if done d 12 17 then v else q.pl)) ∧ Mut [p] W2 u) := (by simpa [done] using hj : FS u p E (fk q (if done d 12 14 then i else q.lk) (if done d 12 17 then v else q.pl)) ∧ Mut [p] W2 u)
      clear hj hi
      refine wpOp_step rfl (fun K hK => ?_)
      go_simp
      exact hK _ _ ⟨by simp [Act.put], HN.out⟩
    | 13, ho, hi, hd =>
      simp only [List.getElem?_cons_succ, List.getElem?_cons_zero, Option.some.injEq] at ho
      subst ho
      have g35 : a1.tmps[35]? = some (.pointer (some ⟨p, 0, none⟩)) := hh.did 12 _ 35 rfl rfl (hd { on := 12, ground := .data } (by simp) rfl)
      clear hh hd
      have HN : Hid (FS u p E (fk q (if done d 13 14 then i else q.lk) (if done d 13 17 then v else q.pl)) ∧ Mut [p] W2 u) := (by simpa [done] using hj : FS u p E (fk q (if done d 13 14 then i else q.lk) (if done d 13 17 then v else q.pl)) ∧ Mut [p] W2 u)
      clear hj hi
      refine wpOp_step rfl (fun K hK => ?_)
      go_simp
      exact hK _ _ ⟨by simp [Act.put], HN.out⟩
    | 14, ho, hi, hd =>
      simp only [List.getElem?_cons_succ, List.getElem?_cons_zero, Option.some.injEq] at ho
      subst ho
      have g32 : a1.tmps[32]? = some (.int .i64 i) := hh.did 9 _ 32 rfl rfl (hd { on := 9, ground := .data } (by simp) rfl)
      have g36 : a1.tmps[36]? = some (.pointer (some ⟨p, 14, none⟩)) := hh.did 13 _ 36 rfl rfl (hd { on := 13, ground := .data } (by simp) rfl)
      have cc := hj.1.b.at 14 rfl
      have fz := hj.1.b.fz
      clear hh hd
      have HN : Hid (FS (u.setCell ⟨p, 14, none⟩ (.int .i64 i)) p E (fk q (if done d 14 14 then i else q.lk) (if done d 14 17 then v else q.pl)) ∧ Mut [p] W2 (u.setCell ⟨p, 14, none⟩ (.int .i64 i))) := ⟨(by simpa [done] using hj.1.put (i := 14) rfl (.int .i64 i) (d' := fk q i (if d 17 then v else q.pl)) rfl), hj.2.setCell (by simp) _⟩
      clear hj hi
      refine wpOp_step rfl (fun K hK => ?_)
      go_simp
      exact hK _ _ ⟨by simp [Act.put], HN.out⟩
    | 15, ho, hi, hd =>
      simp only [List.getElem?_cons_succ, List.getElem?_cons_zero, Option.some.injEq] at ho
      subst ho
      have g25 : a1.tmps[25]? = some (.pointer (some ⟨p, 0, none⟩)) := hh.did 1 _ 25 rfl rfl (hd { on := 1, ground := .data } (by simp) rfl)
      clear hh hd
      have HN : Hid (FS u p E (fk q (if done d 15 14 then i else q.lk) (if done d 15 17 then v else q.pl)) ∧ Mut [p] W2 u) := (by simpa [done] using hj : FS u p E (fk q (if done d 15 14 then i else q.lk) (if done d 15 17 then v else q.pl)) ∧ Mut [p] W2 u)
      clear hj hi
      refine wpOp_step rfl (fun K hK => ?_)
      go_simp
      exact hK _ _ ⟨by simp [Act.put], HN.out⟩
    | 16, ho, hi, hd =>
      simp only [List.getElem?_cons_succ, List.getElem?_cons_zero, Option.some.injEq] at ho
      subst ho
      have g37 : a1.tmps[37]? = some (.pointer (some ⟨p, 0, none⟩)) := hh.did 15 _ 37 rfl rfl (hd { on := 15, ground := .data } (by simp) rfl)
      clear hh hd
      have HN : Hid (FS u p E (fk q (if done d 16 14 then i else q.lk) (if done d 16 17 then v else q.pl)) ∧ Mut [p] W2 u) := (by simpa [done] using hj : FS u p E (fk q (if done d 16 14 then i else q.lk) (if done d 16 17 then v else q.pl)) ∧ Mut [p] W2 u)
      clear hj hi
      refine wpOp_step rfl (fun K hK => ?_)
      go_simp
      exact hK _ _ ⟨by simp [Act.put], HN.out⟩
    | 17, ho, hi, hd =>
      simp only [List.getElem?_cons_succ, List.getElem?_cons_zero, Option.some.injEq] at ho
      subst ho
      have g33 : a1.tmps[33]? = some (.int .i64 v) := hh.did 10 _ 33 rfl rfl (hd { on := 10, ground := .data } (by simp) rfl)
      have g38 : a1.tmps[38]? = some (.pointer (some ⟨p, 15, none⟩)) := hh.did 16 _ 38 rfl rfl (hd { on := 16, ground := .data } (by simp) rfl)
      have cc := hj.1.b.at 15 rfl
      have fz := hj.1.b.fz
      clear hh hd
      have HN : Hid (FS (u.setCell ⟨p, 15, none⟩ (.int .i64 v)) p E (fk q (if done d 17 14 then i else q.lk) (if done d 17 17 then v else q.pl)) ∧ Mut [p] W2 (u.setCell ⟨p, 15, none⟩ (.int .i64 v))) := ⟨(by simpa [done] using hj.1.put (i := 15) rfl (.int .i64 v) (d' := fk q (if d 14 then i else q.lk) v) rfl), hj.2.setCell (by simp) _⟩
      clear hj hi
      refine wpOp_step rfl (fun K hK => ?_)
      go_simp
      exact hK _ _ ⟨by simp [Act.put], HN.out⟩
    | 18, ho, hi, hd =>
      simp only [List.getElem?_cons_succ, List.getElem?_cons_zero, Option.some.injEq] at ho
      subst ho
      have g34 : a1.tmps[34]? = some (.bool true) := hh.did 11 _ 34 rfl rfl (hd { on := 11, ground := .data } (by simp) rfl)
      clear hh hd
      have HN : Hid (FS u p E (fk q (if done d 18 14 then i else q.lk) (if done d 18 17 then v else q.pl)) ∧ Mut [p] W2 u) := (by simpa [done] using hj : FS u p E (fk q (if done d 18 14 then i else q.lk) (if done d 18 17 then v else q.pl)) ∧ Mut [p] W2 u)
      clear hj hi
      refine wpOp_step rfl (fun K hK => ?_)
      go_simp
      exact hK _ _ ⟨by simp [Act.put], HN.out⟩
    | n + 19, ho, hi, hd => simp at ho
  · intro u d hall hj
    have hF : FS u p E (fk q i v) := by
      have B := hj.1
      rw [hall 14 (by decide), hall 17 (by decide)] at B
      exact B
    have hfl : n < fl := by have := HL.out; rw [HFL.out] at this; exact this
    have hB := HB.out.1.muts hj.2 (by have := HB.out.2.2.1; simp; omega)
    have hR : u.cell? ⟨g, n, none⟩ = some (.bool (E.R k n)) := by
      obtain ⟨g', o', e, hg', cc⟩ := HB.out.2.1 (by omega)
      obtain ⟨rfl, rfl⟩ : g = g' ∧ 0 = o' := by simpa using e
      have := cc n hfl
      rw [Nat.zero_add] at this
      exact (hj.2.cell hg' (by have := HB.out.2.2.1; have := HB.out.2.2.2.1; simp; omega)).trans this
    have HF3 : Hid (FS u p E (fk q i v) ∧ Mut [p] w u) := ⟨hF, HB.out.2.2.2.2.mut.trans hj.2⟩
    clear hj hF hall
    have s0 := hB.at 0 rfl
    have s1 := hB.at 1 rfl
    have c10 : u.cell? ⟨p, 10, none⟩ = some (.int .i64 n) := by rw [← HN.out]; exact HF3.out.1.b.at 10 rfl
    have c17 : u.cell? ⟨p, 17, none⟩ = some (.bool q.rf) := HF3.out.1.b.at 17 rfl
    have fz := HF3.out.1.b.fz
    clear hB
    go_wp2_with fail
    go_region
    have HF4 : Hid (FS (u.setCell ⟨p, 17, none⟩ (.bool (E.R k n))).drew p E (fr q i v (E.R k n)) ∧ Mut [p] w (u.setCell ⟨p, 17, none⟩ (.bool (E.R k n))).drew) := ⟨(HF3.out.1.put (i := 17) rfl (.bool (E.R k n)) (d' := fr q i v (E.R k n)) rfl).kept (Kept.refl _).drew, (HF3.out.2.setCell (by simp) _).drew⟩
    clear s0 s1 c10 c17 fz hR HF3
    generalize (u.setCell ⟨p, 17, none⟩ (.bool (E.R k n))).drew = W4 at *
    have c9 : W4.cell? ⟨p, 9, none⟩ = some (.int .i64 q.head) := HF4.out.1.b.at 9 rfl
    have c14 : W4.cell? ⟨p, 14, none⟩ = some (.int .i64 i) := HF4.out.1.b.at 14 rfl
    have c15 : W4.cell? ⟨p, 15, none⟩ = some (.int .i64 v) := HF4.out.1.b.at 15 rfl
    have fz := HF4.out.1.b.fz
    go_wp2_with fail
    go_step3
    refine ⟨rfl, HK.out _ _ ?_⟩
    go_wp2_with fail
    refine (found_is q.head v _ HF4.out.1 HH.out hv8).mono ?_
    rintro e w9 ⟨rfl, HF9, HU9⟩
    go_wp2
    (try simp only [Exit.inBlock])
    (try simp only [Exit.then])
    (try simp only [Exit.jump])
    (try simp only [Exit.noGoto])
    refine bodyPost_ret (results_none rfl _ _ _) rfl ?_
    exact ⟨rfl, by have B := HF9; rw [HI0.out] at B; exact B, HF4.out.2.trans HU9⟩

set_option maxRecDepth 10000 in
set_option maxHeartbeats 4000000 in
/-- Side by side. -/
theorem field_side {q : Fd} (k : Nat) (m : Int) (w : World) (h : FS w p E q) (hs : q.st = 1) (hk : k < E.sl) (hm : 0 ≤ m ∧ m ≤ 1) (ha : (E.S k).arr = false) (hq : q.arr = false) {n : Nat} {i v : Int} (hn : q.nth = n) (hl : n < (E.S k).l) (hi : (q.nth + 1) / 7 = i) (hv : 1 + (q.nth + 1) % 7 = v) (hh : 0 ≤ q.head ∧ q.head < E.n0) (h2 : q.head + i < E.n0) (hm0 : m = 1) :
    Calls Try.prog 76 #[.pointer (some ⟨p, 0, none⟩), .complex .f64 (ch k m).re (ch k m).im] w fun e w' => e = .returned (.tuple #[]) ∧ FS w' p E { q with st := 8, at' := (q.head + i) * 8 + v, lk := 0, pl := v, rf := E.R k n } ∧ Mut [p] w w' := by
  have C0 : Hid (∀ w', Kept w w' → Calls Try.prog 99 #[.pointer (some ⟨p, 0, none⟩), .complex .f64 (ch k m).re (ch k m).im] w' _) := fun w' Q => headed_ok k m w' (h.kept Q) hk hm (ha.trans hq.symm) (fun x => by rw [hq] at x; cases x)
  have HS : Hid (FS w p E q) := h
  have HA : Hid ((E.S k).arr = false) := ha
  have hst : q.st = 1 := hs
  have h40 : (E.S k).l ≤ 40 := may_few (h.ok.2.2.2 k hk)
  have hn0 : E.n0 ≤ 1024 := h.ok.1.1.2
  have C1 : Hid (∀ g u, Calls Try.prog 23 #[.agg #[.bool false, .slice (some ⟨g, 0, none⟩) (E.S k).l (E.S k).l], .int .i64 q.nth] u _) := fun g u => place_in (some ⟨g, 0, none⟩) (E.S k).l (E.S k).l q.nth i v u h40 (by omega) (by omega) hi hv
  have HN : Hid (q.nth = n) := hn
  have hv8 : 0 ≤ v ∧ v < 8 := by omega
  have HL : Hid (n < (E.S k).l) := hl
  have HH : Hid (0 ≤ q.head ∧ q.head < E.n0) := hh
  have hi6 : 0 ≤ i ∧ i ≤ 6 := by omega
  have hhd : 0 ≤ q.head ∧ q.head ≤ 1024 := by omega
  have e1 : (m == 1) = true := by simp [hm0]
  have HH2 : Hid (0 ≤ q.head + i ∧ q.head + i < E.n0) := (⟨by omega, h2⟩ : 0 ≤ q.head + i ∧ q.head + i < E.n0)
  clear hm hm0 h2
  clear h ha hk hs hq h40 hn0 hi hv hl hn hh
  generalize (ch k m) = z at *
  go_enter Try.func76, Try.ntmps76
  refine wp_scope_hop 2 rfl fun K HK => ?_
  go_upto_region 4 with fail
  generalize hW0 : w.alloc _ = W0
  have b0 : Blk W0 w.heap.size [.bool false, .slice none 0 0] := by rw [← hW0]; exact Blk.new w _ _
  have k0 : Kept w W0 := by rw [← hW0]; exact (Kept.refl w).alloc _ _
  have z0 : W0.heap.size = w.heap.size + 1 := by rw [← hW0]; simp
  clear hW0
  have c12 : W0.cell? ⟨p, 12, none⟩ = some (.int .i64 1) := by rw [← hst]; exact (HS.out.kept k0).b.at 12 rfl
  have HG : Hid (Kept w W0 ∧ Blk W0 w.heap.size [.bool false, .slice none 0 0] ∧ W0.heap.size = w.heap.size + 1) := ⟨k0, b0, z0⟩
  clear b0 k0 z0
  go_wp2_with fail
  refine (C0.out _ HG.out.1).mono ?_
  rintro e w1 ⟨g, rfl, hr, hg, K1⟩
  have HG1 : Hid (Kept w w1 ∧ Blk w1 w.heap.size [.bool false, .slice none 0 0] ∧ w.heap.size < g ∧ Refs w1 (some ⟨g, 0, none⟩) (E.S k).l (E.R k)) := ⟨HG.out.1.trans K1, HG.out.2.1.kept K1, by have := HG.out.2.2; omega, hr⟩
  clear HG K1 c12 hr hg
  have a0 := HG1.out.2.1.at 0 rfl
  have a1 := HG1.out.2.1.at 1 rfl
  have fz := HG1.out.2.1.fz
  rw [HA.out]
  obtain ⟨fl, hfl⟩ : ∃ fl, (E.S k).l = fl := ⟨_, rfl⟩
  rw [hfl] at HG1 ⊢
  have HFL : Hid ((E.S k).l = fl) := hfl
  clear hfl
  go_upto_region 7 with fail
  generalize hW2 : (w1.setCell _ _).setCell _ _ = W2
  have hk2 : Kept w W2 := by rw [← hW2]; exact (HG1.out.1.setCell (by simp) _).setCell (by simp) _
  have hb2 : Blk W2 w.heap.size [.bool false, .slice (some ⟨g, 0, none⟩) fl fl] := by rw [← hW2]; exact (HG1.out.2.1.set (i := 0) rfl _).set (i := 1) rfl _
  have hr2 : Refs W2 (some ⟨g, 0, none⟩) fl (E.R k) := by
    have := HG1.out.2.2.1
    rw [← hW2]
    exact (HG1.out.2.2.2.set_other (by simp; omega) _).set_other (by simp; omega) _
  have HF : Hid (FS W2 p E q) := HS.out.kept hk2
  have HB : Hid (Blk W2 w.heap.size [.bool false, .slice (some ⟨g, 0, none⟩) fl fl] ∧ Refs W2 (some ⟨g, 0, none⟩) fl (E.R k) ∧ p < w.heap.size ∧ w.heap.size < g ∧ Kept w W2) := ⟨hb2, hr2, HS.out.b.lt, HG1.out.2.2.1, hk2⟩
  clear hW2 hk2 hb2 hr2 HG1 a0 a1 fz
  have CP : Hid (∀ u, Calls Try.prog 23 #[.agg #[.bool false, .slice (some ⟨g, 0, none⟩) fl fl], .int .i64 q.nth] u fun e w' => e = .returned (.tuple #[.int .i64 i, .int .i64 v, .bool true]) ∧ Kept u w') := fun u => by
    have := C1.out g u
    rw [HFL.out] at this
    exact this
  clear C0 C1
  refine wp_region_phase2 [(.pointer (some ⟨p, 0, none⟩)), (.pointer (some ⟨p, 0, none⟩)), (.agg #[.bool false, .slice (some ⟨g, 0, none⟩) fl fl]), (.pointer (some ⟨p, 0, none⟩)), (.pointer (some ⟨p, 0, none⟩)), (.pointer (some ⟨p, 10, none⟩)), (.int .i64 q.nth), (.tuple #[.int .i64 i, .int .i64 v, .bool true]), (.tuple #[.int .i64 i, .int .i64 v, .bool true]), (.int .i64 i), (.int .i64 v), (.bool true), (.pointer (some ⟨p, 0, none⟩)), (.pointer (some ⟨p, 14, none⟩)), (undef), (.pointer (some ⟨p, 0, none⟩)), (.pointer (some ⟨p, 15, none⟩)), (undef), (.bool true)] [(7, 18), (23, 8), (24, 0), (25, 1), (26, 2), (27, 3), (28, 4), (29, 5), (30, 6), (31, 7), (32, 9), (33, 10), (34, 11), (35, 12), (36, 13), (37, 15), (38, 16)] [_, _, _, _, _, _, _, _, _, _, _, _, _, _, _, _, _, _, _, _, _, _, _, _, _, _, _, _, _, _, _, _, _, _, _, _, _, _, _, _, _, _, _, _, _, _, _, _, _, _, _, _, _, _, _, _, _, _, _, _, _, _, _, _, _, _, _, _, _, _, _, _, _, _, _, _, _, _, _, _, _, _, _, _, _, _, _, _, _, _, _, _, _, _, _, _, _, _, _, _, _, _, _, _, _, _] (fun d u => FS u p E (fk q (if d 14 then i else q.lk) (if d 17 then v else q.pl)) ∧ Mut [p] W2 u) (by kernel_rfl) (by kernel_rfl) (by kernel_rfl) (by kernel_rfl) rfl ?_ ?_ ?_
  · exact ⟨by simpa [fk] using HF.out.kept (Kept.refl _).drew, (Mut.refl _ _).drew⟩
  · intro i1 o ho a1 d u hh hj hi hd
    match i1, ho, hi, hd with
    | 0, ho, hi, hd =>
      simp only [List.getElem?_cons_zero, Option.some.injEq] at ho
      subst ho
      have g0 : a1.tmps[0]? = some (.pointer (some ⟨p, 0, none⟩)) := hh.old 0 (by kernel_rfl) rfl
      clear hh hd
      have HN : Hid (FS u p E (fk q (if done d 0 14 then i else q.lk) (if done d 0 17 then v else q.pl)) ∧ Mut [p] W2 u) := (by simpa [done] using hj : FS u p E (fk q (if done d 0 14 then i else q.lk) (if done d 0 17 then v else q.pl)) ∧ Mut [p] W2 u)
      clear hj hi
      refine wpOp_step rfl (fun K hK => ?_)
      go_simp
      exact hK _ _ ⟨by simp [Act.put], HN.out⟩
    | 1, ho, hi, hd =>
      simp only [List.getElem?_cons_succ, List.getElem?_cons_zero, Option.some.injEq] at ho
      subst ho
      have g0 : a1.tmps[0]? = some (.pointer (some ⟨p, 0, none⟩)) := hh.old 0 (by kernel_rfl) rfl
      clear hh hd
      have HN : Hid (FS u p E (fk q (if done d 1 14 then i else q.lk) (if done d 1 17 then v else q.pl)) ∧ Mut [p] W2 u) := (by simpa [done] using hj : FS u p E (fk q (if done d 1 14 then i else q.lk) (if done d 1 17 then v else q.pl)) ∧ Mut [p] W2 u)
      clear hj hi
      refine wpOp_step rfl (fun K hK => ?_)
      go_simp
      exact hK _ _ ⟨by simp [Act.put], HN.out⟩
    | 2, ho, hi, hd =>
      simp only [List.getElem?_cons_succ, List.getElem?_cons_zero, Option.some.injEq] at ho
      subst ho
      have g4 : a1.tmps[4]? = some (.pointer (some ⟨w.heap.size, 0, none⟩)) := hh.old 4 (by kernel_rfl) rfl
      have B := HB.out.1.muts hj.2 (by have := HB.out.2.2.1; simp; omega)
      have s0 := B.at 0 rfl
      have s1 := B.at 1 rfl
      clear B
      clear hh hd
      have HN : Hid (FS u p E (fk q (if done d 2 14 then i else q.lk) (if done d 2 17 then v else q.pl)) ∧ Mut [p] W2 u) := (by simpa [done] using hj : FS u p E (fk q (if done d 2 14 then i else q.lk) (if done d 2 17 then v else q.pl)) ∧ Mut [p] W2 u)
      clear hj hi
      refine wpOp_step rfl (fun K hK => ?_)
      go_simp
      exact hK _ _ ⟨by simp [Act.put], HN.out⟩
    | 3, ho, hi, hd =>
      simp only [List.getElem?_cons_succ, List.getElem?_cons_zero, Option.some.injEq] at ho
      subst ho
      have g0 : a1.tmps[0]? = some (.pointer (some ⟨p, 0, none⟩)) := hh.old 0 (by kernel_rfl) rfl
      clear hh hd
      have HN : Hid (FS u p E (fk q (if done d 3 14 then i else q.lk) (if done d 3 17 then v else q.pl)) ∧ Mut [p] W2 u) := (by simpa [done] using hj : FS u p E (fk q (if done d 3 14 then i else q.lk) (if done d 3 17 then v else q.pl)) ∧ Mut [p] W2 u)
      clear hj hi
      refine wpOp_step rfl (fun K hK => ?_)
      go_simp
      exact hK _ _ ⟨by simp [Act.put], HN.out⟩
    | 4, ho, hi, hd =>
      simp only [List.getElem?_cons_succ, List.getElem?_cons_zero, Option.some.injEq] at ho
      subst ho
      have g27 : a1.tmps[27]? = some (.pointer (some ⟨p, 0, none⟩)) := hh.did 3 _ 27 rfl rfl (hd { on := 3, ground := .data } (by simp) rfl)
      clear hh hd
      have HN : Hid (FS u p E (fk q (if done d 4 14 then i else q.lk) (if done d 4 17 then v else q.pl)) ∧ Mut [p] W2 u) := (by simpa [done] using hj : FS u p E (fk q (if done d 4 14 then i else q.lk) (if done d 4 17 then v else q.pl)) ∧ Mut [p] W2 u)
      clear hj hi
      refine wpOp_step rfl (fun K hK => ?_)
      go_simp
      exact hK _ _ ⟨by simp [Act.put], HN.out⟩
    | 5, ho, hi, hd =>
      simp only [List.getElem?_cons_succ, List.getElem?_cons_zero, Option.some.injEq] at ho
      subst ho
      have g28 : a1.tmps[28]? = some (.pointer (some ⟨p, 0, none⟩)) := hh.did 4 _ 28 rfl rfl (hd { on := 4, ground := .data } (by simp) rfl)
      clear hh hd
      have HN : Hid (FS u p E (fk q (if done d 5 14 then i else q.lk) (if done d 5 17 then v else q.pl)) ∧ Mut [p] W2 u) := (by simpa [done] using hj : FS u p E (fk q (if done d 5 14 then i else q.lk) (if done d 5 17 then v else q.pl)) ∧ Mut [p] W2 u)
      clear hj hi
      refine wpOp_step rfl (fun K hK => ?_)
      go_simp
      exact hK _ _ ⟨by simp [Act.put], HN.out⟩
    | 6, ho, hi, hd =>
      simp only [List.getElem?_cons_succ, List.getElem?_cons_zero, Option.some.injEq] at ho
      subst ho
      have g29 : a1.tmps[29]? = some (.pointer (some ⟨p, 10, none⟩)) := hh.did 5 _ 29 rfl rfl (hd { on := 5, ground := .data } (by simp) rfl)
      have c10 : u.cell? ⟨p, 10, none⟩ = some (.int .i64 q.nth) := hj.1.b.at 10 rfl
      clear hh hd
      have HN : Hid (FS u p E (fk q (if done d 6 14 then i else q.lk) (if done d 6 17 then v else q.pl)) ∧ Mut [p] W2 u) := (by simpa [done] using hj : FS u p E (fk q (if done d 6 14 then i else q.lk) (if done d 6 17 then v else q.pl)) ∧ Mut [p] W2 u)
      clear hj hi
      refine wpOp_step rfl (fun K hK => ?_)
      go_simp
      exact hK _ _ ⟨by simp [Act.put], HN.out⟩
    | 7, ho, hi, hd =>
      simp only [List.getElem?_cons_succ, List.getElem?_cons_zero, Option.some.injEq] at ho
      subst ho
      have g26 : a1.tmps[26]? = some (.agg #[.bool false, .slice (some ⟨g, 0, none⟩) fl fl]) := hh.did 2 _ 26 rfl rfl (hd { on := 2, ground := .data } (by simp) rfl)
      have g30 : a1.tmps[30]? = some (.int .i64 q.nth) := hh.did 6 _ 30 rfl rfl (hd { on := 6, ground := .data } (by simp) rfl)
      have CA := CP.out u
      clear hh hd
      have HN : Hid (∀ u', Kept u u' → FS u' p E (fk q (if done d 7 14 then i else q.lk) (if done d 7 17 then v else q.pl)) ∧ Mut [p] W2 u') := fun u' a => ⟨by simpa [done] using hj.1.kept a, hj.2.trans a.mut⟩
      clear hj hi
      refine wpOp_step rfl (fun K hK => ?_)
      go_simp
      refine CA.mono ?_
      rintro e u' ⟨rfl, a⟩
      exact hK _ _ ⟨by simp [Act.put], HN.out u' a⟩
    | 8, ho, hi, hd =>
      simp only [List.getElem?_cons_succ, List.getElem?_cons_zero, Option.some.injEq] at ho
      subst ho
      have g31 : a1.tmps[31]? = some (.tuple #[.int .i64 i, .int .i64 v, .bool true]) := hh.did 7 _ 31 rfl rfl (hd { on := 7, ground := .data } (by simp) rfl)
      clear hh hd
      have HN : Hid (FS u p E (fk q (if done d 8 14 then i else q.lk) (if done d 8 17 then v else q.pl)) ∧ Mut [p] W2 u) := (by simpa [done] using hj : FS u p E (fk q (if done d 8 14 then i else q.lk) (if done d 8 17 then v else q.pl)) ∧ Mut [p] W2 u)
      clear hj hi
      refine wpOp_step rfl (fun K hK => ?_)
      go_simp
      exact hK _ _ ⟨by simp [Act.put], HN.out⟩
    | 9, ho, hi, hd =>
      simp only [List.getElem?_cons_succ, List.getElem?_cons_zero, Option.some.injEq] at ho
      subst ho
      have g23 : a1.tmps[23]? = some (.tuple #[.int .i64 i, .int .i64 v, .bool true]) := hh.did 8 _ 23 rfl rfl (hd { on := 8, ground := .data } (by simp) rfl)
      clear hh hd
      have HN : Hid (FS u p E (fk q (if done d 9 14 then i else q.lk) (if done d 9 17 then v else q.pl)) ∧ Mut [p] W2 u) := (by simpa [done] using hj : FS u p E (fk q (if done d 9 14 then i else q.lk) (if done d 9 17 then v else q.pl)) ∧ Mut [p] W2 u)
      clear hj hi
      refine wpOp_step rfl (fun K hK => ?_)
      go_simp
      exact hK _ _ ⟨by simp [Act.put], HN.out⟩
    | 10, ho, hi, hd =>
      simp only [List.getElem?_cons_succ, List.getElem?_cons_zero, Option.some.injEq] at ho
      subst ho
      have g23 : a1.tmps[23]? = some (.tuple #[.int .i64 i, .int .i64 v, .bool true]) := hh.did 8 _ 23 rfl rfl (hd { on := 8, ground := .data } (by simp) rfl)
      clear hh hd
      have HN : Hid (FS u p E (fk q (if done d 10 14 then i else q.lk) (if done d 10 17 then v else q.pl)) ∧ Mut [p] W2 u) := (by simpa [done] using hj : FS u p E (fk q (if done d 10 14 then i else q.lk) (if done d 10 17 then v else q.pl)) ∧ Mut [p] W2 u)
      clear hj hi
      refine wpOp_step rfl (fun K hK => ?_)
      go_simp
      exact hK _ _ ⟨by simp [Act.put], HN.out⟩
    | 11, ho, hi, hd =>
      simp only [List.getElem?_cons_succ, List.getElem?_cons_zero, Option.some.injEq] at ho
      subst ho
      have g23 : a1.tmps[23]? = some (.tuple #[.int .i64 i, .int .i64 v, .bool true]) := hh.did 8 _ 23 rfl rfl (hd { on := 8, ground := .data } (by simp) rfl)
      clear hh hd
      have HN : Hid (FS u p E (fk q (if done d 11 14 then i else q.lk) (if done d 11 17 then v else q.pl)) ∧ Mut [p] W2 u) := (by simpa [done] using hj : FS u p E (fk q (if done d 11 14 then i else q.lk) (if done d 11 17 then v else q.pl)) ∧ Mut [p] W2 u)
      clear hj hi
      refine wpOp_step rfl (fun K hK => ?_)
      go_simp
      exact hK _ _ ⟨by simp [Act.put], HN.out⟩
    | 12, ho, hi, hd =>
      simp only [List.getElem?_cons_succ, List.getElem?_cons_zero, Option.some.injEq] at ho
      subst ho
      have g24 : a1.tmps[24]? = some (.pointer (some ⟨p, 0, none⟩)) := hh.did 0 _ 24 rfl rfl (hd { on := 0, ground := .data } (by simp) rfl)
      clear hh hd
      have HN : Hid (FS u p E (fk q (if done d 12 14 then i else q.lk) (if done d 12 17 then v else q.pl)) ∧ Mut [p] W2 u) := (by simpa [done] using hj : FS u p E (fk q (if done d 12 14 then i else q.lk) (if done d 12 17 then v else q.pl)) ∧ Mut [p] W2 u)
      clear hj hi
      refine wpOp_step rfl (fun K hK => ?_)
      go_simp
      exact hK _ _ ⟨by simp [Act.put], HN.out⟩
    | 13, ho, hi, hd =>
      simp only [List.getElem?_cons_succ, List.getElem?_cons_zero, Option.some.injEq] at ho
      subst ho
      have g35 : a1.tmps[35]? = some (.pointer (some ⟨p, 0, none⟩)) := hh.did 12 _ 35 rfl rfl (hd { on := 12, ground := .data } (by simp) rfl)
      clear hh hd
      have HN : Hid (FS u p E (fk q (if done d 13 14 then i else q.lk) (if done d 13 17 then v else q.pl)) ∧ Mut [p] W2 u) := (by simpa [done] using hj : FS u p E (fk q (if done d 13 14 then i else q.lk) (if done d 13 17 then v else q.pl)) ∧ Mut [p] W2 u)
      clear hj hi
      refine wpOp_step rfl (fun K hK => ?_)
      go_simp
      exact hK _ _ ⟨by simp [Act.put], HN.out⟩
    | 14, ho, hi, hd =>
      simp only [List.getElem?_cons_succ, List.getElem?_cons_zero, Option.some.injEq] at ho
      subst ho
      have g32 : a1.tmps[32]? = some (.int .i64 i) := hh.did 9 _ 32 rfl rfl (hd { on := 9, ground := .data } (by simp) rfl)
      have g36 : a1.tmps[36]? = some (.pointer (some ⟨p, 14, none⟩)) := hh.did 13 _ 36 rfl rfl (hd { on := 13, ground := .data } (by simp) rfl)
      have cc := hj.1.b.at 14 rfl
      have fz := hj.1.b.fz
      clear hh hd
      have HN : Hid (FS (u.setCell ⟨p, 14, none⟩ (.int .i64 i)) p E (fk q (if done d 14 14 then i else q.lk) (if done d 14 17 then v else q.pl)) ∧ Mut [p] W2 (u.setCell ⟨p, 14, none⟩ (.int .i64 i))) := ⟨(by simpa [done] using hj.1.put (i := 14) rfl (.int .i64 i) (d' := fk q i (if d 17 then v else q.pl)) rfl), hj.2.setCell (by simp) _⟩
      clear hj hi
      refine wpOp_step rfl (fun K hK => ?_)
      go_simp
      exact hK _ _ ⟨by simp [Act.put], HN.out⟩
    | 15, ho, hi, hd =>
      simp only [List.getElem?_cons_succ, List.getElem?_cons_zero, Option.some.injEq] at ho
      subst ho
      have g25 : a1.tmps[25]? = some (.pointer (some ⟨p, 0, none⟩)) := hh.did 1 _ 25 rfl rfl (hd { on := 1, ground := .data } (by simp) rfl)
      clear hh hd
      have HN : Hid (FS u p E (fk q (if done d 15 14 then i else q.lk) (if done d 15 17 then v else q.pl)) ∧ Mut [p] W2 u) := (by simpa [done] using hj : FS u p E (fk q (if done d 15 14 then i else q.lk) (if done d 15 17 then v else q.pl)) ∧ Mut [p] W2 u)
      clear hj hi
      refine wpOp_step rfl (fun K hK => ?_)
      go_simp
      exact hK _ _ ⟨by simp [Act.put], HN.out⟩
    | 16, ho, hi, hd =>
      simp only [List.getElem?_cons_succ, List.getElem?_cons_zero, Option.some.injEq] at ho
      subst ho
      have g37 : a1.tmps[37]? = some (.pointer (some ⟨p, 0, none⟩)) := hh.did 15 _ 37 rfl rfl (hd { on := 15, ground := .data } (by simp) rfl)
      clear hh hd
      have HN : Hid (FS u p E (fk q (if done d 16 14 then i else q.lk) (if done d 16 17 then v else q.pl)) ∧ Mut [p] W2 u) := (by simpa [done] using hj : FS u p E (fk q (if done d 16 14 then i else q.lk) (if done d 16 17 then v else q.pl)) ∧ Mut [p] W2 u)
      clear hj hi
      refine wpOp_step rfl (fun K hK => ?_)
      go_simp
      exact hK _ _ ⟨by simp [Act.put], HN.out⟩
    | 17, ho, hi, hd =>
      simp only [List.getElem?_cons_succ, List.getElem?_cons_zero, Option.some.injEq] at ho
      subst ho
      have g33 : a1.tmps[33]? = some (.int .i64 v) := hh.did 10 _ 33 rfl rfl (hd { on := 10, ground := .data } (by simp) rfl)
      have g38 : a1.tmps[38]? = some (.pointer (some ⟨p, 15, none⟩)) := hh.did 16 _ 38 rfl rfl (hd { on := 16, ground := .data } (by simp) rfl)
      have cc := hj.1.b.at 15 rfl
      have fz := hj.1.b.fz
      clear hh hd
      have HN : Hid (FS (u.setCell ⟨p, 15, none⟩ (.int .i64 v)) p E (fk q (if done d 17 14 then i else q.lk) (if done d 17 17 then v else q.pl)) ∧ Mut [p] W2 (u.setCell ⟨p, 15, none⟩ (.int .i64 v))) := ⟨(by simpa [done] using hj.1.put (i := 15) rfl (.int .i64 v) (d' := fk q (if d 14 then i else q.lk) v) rfl), hj.2.setCell (by simp) _⟩
      clear hj hi
      refine wpOp_step rfl (fun K hK => ?_)
      go_simp
      exact hK _ _ ⟨by simp [Act.put], HN.out⟩
    | 18, ho, hi, hd =>
      simp only [List.getElem?_cons_succ, List.getElem?_cons_zero, Option.some.injEq] at ho
      subst ho
      have g34 : a1.tmps[34]? = some (.bool true) := hh.did 11 _ 34 rfl rfl (hd { on := 11, ground := .data } (by simp) rfl)
      clear hh hd
      have HN : Hid (FS u p E (fk q (if done d 18 14 then i else q.lk) (if done d 18 17 then v else q.pl)) ∧ Mut [p] W2 u) := (by simpa [done] using hj : FS u p E (fk q (if done d 18 14 then i else q.lk) (if done d 18 17 then v else q.pl)) ∧ Mut [p] W2 u)
      clear hj hi
      refine wpOp_step rfl (fun K hK => ?_)
      go_simp
      exact hK _ _ ⟨by simp [Act.put], HN.out⟩
    | n + 19, ho, hi, hd => simp at ho
  · intro u d hall hj
    have hF : FS u p E (fk q i v) := by
      have B := hj.1
      rw [hall 14 (by decide), hall 17 (by decide)] at B
      exact B
    have hfl : n < fl := by have := HL.out; rw [HFL.out] at this; exact this
    have hB := HB.out.1.muts hj.2 (by have := HB.out.2.2.1; simp; omega)
    have hR : u.cell? ⟨g, n, none⟩ = some (.bool (E.R k n)) := by
      obtain ⟨g', o', e, hg', cc⟩ := HB.out.2.1 (by omega)
      obtain ⟨rfl, rfl⟩ : g = g' ∧ 0 = o' := by simpa using e
      have := cc n hfl
      rw [Nat.zero_add] at this
      exact (hj.2.cell hg' (by have := HB.out.2.2.1; have := HB.out.2.2.2.1; simp; omega)).trans this
    have HF3 : Hid (FS u p E (fk q i v) ∧ Mut [p] w u) := ⟨hF, HB.out.2.2.2.2.mut.trans hj.2⟩
    clear hj hF hall
    have s0 := hB.at 0 rfl
    have s1 := hB.at 1 rfl
    have c10 : u.cell? ⟨p, 10, none⟩ = some (.int .i64 n) := by rw [← HN.out]; exact HF3.out.1.b.at 10 rfl
    have c17 : u.cell? ⟨p, 17, none⟩ = some (.bool q.rf) := HF3.out.1.b.at 17 rfl
    have fz := HF3.out.1.b.fz
    clear hB
    go_wp2_with fail
    go_region
    have HF4 : Hid (FS (u.setCell ⟨p, 17, none⟩ (.bool (E.R k n))).drew p E (fr q i v (E.R k n)) ∧ Mut [p] w (u.setCell ⟨p, 17, none⟩ (.bool (E.R k n))).drew) := ⟨(HF3.out.1.put (i := 17) rfl (.bool (E.R k n)) (d' := fr q i v (E.R k n)) rfl).kept (Kept.refl _).drew, (HF3.out.2.setCell (by simp) _).drew⟩
    clear s0 s1 c10 c17 fz hR HF3
    generalize (u.setCell ⟨p, 17, none⟩ (.bool (E.R k n))).drew = W4 at *
    have c9 : W4.cell? ⟨p, 9, none⟩ = some (.int .i64 q.head) := HF4.out.1.b.at 9 rfl
    have c14 : W4.cell? ⟨p, 14, none⟩ = some (.int .i64 i) := HF4.out.1.b.at 14 rfl
    have c15 : W4.cell? ⟨p, 15, none⟩ = some (.int .i64 v) := HF4.out.1.b.at 15 rfl
    have fz := HF4.out.1.b.fz
    go_wp2_with fail
    go_region
    have HF5 : Hid (FS (W4.setCell ⟨p, 14, none⟩ (.int .i64 0)).drew p E (fr q 0 v (E.R k n)) ∧ Mut [p] w (W4.setCell ⟨p, 14, none⟩ (.int .i64 0)).drew) := ⟨(HF4.out.1.put (i := 14) rfl (.int .i64 0) (d' := fr q 0 v (E.R k n)) rfl).kept (Kept.refl _).drew, (HF4.out.2.setCell (by simp) _).drew⟩
    clear c9 c14 c15 fz HF4
    generalize (W4.setCell ⟨p, 14, none⟩ (.int .i64 0)).drew = W5 at *
    have c14 : W5.cell? ⟨p, 14, none⟩ = some (.int .i64 0) := HF5.out.1.b.at 14 rfl
    have c15 : W5.cell? ⟨p, 15, none⟩ = some (.int .i64 v) := HF5.out.1.b.at 15 rfl
    go_wp2_with fail
    go_step3
    refine ⟨rfl, HK.out _ _ ?_⟩
    go_wp2_with fail
    refine (found_is (q.head + i) v _ HF5.out.1 HH2.out hv8).mono ?_
    rintro e w9 ⟨rfl, HF9, HU9⟩
    go_wp2
    (try simp only [Exit.inBlock])
    (try simp only [Exit.then])
    (try simp only [Exit.jump])
    (try simp only [Exit.noGoto])
    refine bodyPost_ret (results_none rfl _ _ _) rfl ?_
    exact ⟨rfl, HF9, HF5.out.2.trans HU9⟩

set_option maxRecDepth 10000 in
set_option maxHeartbeats 4000000 in
/-- Not there yet. -/
theorem link_far {q : Fd} (j : Int) (w : World) (h : FS w p E q) (hs : q.st = 2) (hj : 0 ≤ j ∧ j < E.n0) (hl : 2 ≤ q.lk ∧ q.lk ≤ 100) :
    Calls Try.prog 76 #[.pointer (some ⟨p, 0, none⟩), .complex .f64 (cr j).re (cr j).im] w fun e w' => e = .returned (.tuple #[]) ∧ FS w' p E { q with st := 2, nx := j * 8 + 0, lk := q.lk - 1 } ∧ Mut [p] w w' := by
  have C0 : Hid (∀ w', Kept w w' → Calls Try.prog 105 #[.agg #[.int .i64 E.n0, .int .i64 E.n1, .int .i64 E.n2, .int .i64 E.n3, .int .i64 E.n4, .int .i64 E.n5, .int .i64 E.n6, .int .i64 E.n7, .slice (some ⟨E.g, 0, none⟩) E.sl E.sl], .complex .f64 (cr j).re (cr j).im] w' _) := fun w' Q => lfrag_is E.n0 E.n1 E.n2 E.n3 E.n4 E.n5 E.n6 E.n7 (some ⟨E.g, 0, none⟩) E.sl E.sl j w' h.ok.1.1.2 hj
  have HS : Hid (FS w p E q) := h
  have HJ : Hid (0 ≤ j ∧ j < E.n0) := hj
  have hst : q.st = 2 := hs
  have e1 : (q.lk - 1 == 0) = false := by simp; omega
  obtain ⟨h2, h100⟩ := hl
  clear h hj hs
  generalize (cr j) = z at *
  go_enter Try.func76, Try.ntmps76
  refine wp_scope_hop 0 rfl fun K HK => ?_
  go_upto_region 4 with fail
  generalize hW0 : w.alloc _ = W0
  have b0 : Blk W0 w.heap.size [.bool false, .slice none 0 0] := by rw [← hW0]; exact Blk.new w _ _
  have k0 : Kept w W0 := by rw [← hW0]; exact (Kept.refl w).alloc _ _
  have z0 : W0.heap.size = w.heap.size + 1 := by rw [← hW0]; simp
  clear hW0
  have c12 : W0.cell? ⟨p, 12, none⟩ = some (.int .i64 2) := by rw [← hst]; exact (HS.out.kept k0).b.at 12 rfl
  have HG : Hid (Kept w W0 ∧ Blk W0 w.heap.size [.bool false, .slice none 0 0] ∧ W0.heap.size = w.heap.size + 1) := ⟨k0, b0, z0⟩
  clear b0 k0 z0
  have d0 : W0.cell? ⟨p, 0, none⟩ = some (.int .i64 E.n0) := (HS.out.kept HG.out.1).b.at 0 rfl
  have d1 : W0.cell? ⟨p, 1, none⟩ = some (.int .i64 E.n1) := (HS.out.kept HG.out.1).b.at 1 rfl
  have d2 : W0.cell? ⟨p, 2, none⟩ = some (.int .i64 E.n2) := (HS.out.kept HG.out.1).b.at 2 rfl
  have d3 : W0.cell? ⟨p, 3, none⟩ = some (.int .i64 E.n3) := (HS.out.kept HG.out.1).b.at 3 rfl
  have d4 : W0.cell? ⟨p, 4, none⟩ = some (.int .i64 E.n4) := (HS.out.kept HG.out.1).b.at 4 rfl
  have d5 : W0.cell? ⟨p, 5, none⟩ = some (.int .i64 E.n5) := (HS.out.kept HG.out.1).b.at 5 rfl
  have d6 : W0.cell? ⟨p, 6, none⟩ = some (.int .i64 E.n6) := (HS.out.kept HG.out.1).b.at 6 rfl
  have d7 : W0.cell? ⟨p, 7, none⟩ = some (.int .i64 E.n7) := (HS.out.kept HG.out.1).b.at 7 rfl
  have d8 : W0.cell? ⟨p, 8, none⟩ = some (.slice (some ⟨E.g, 0, none⟩) E.sl E.sl) := (HS.out.kept HG.out.1).b.at 8 rfl
  go_wp2_with fail
  go_step3
  refine ⟨rfl, HK.out _ _ ?_⟩
  go_wp2_with fail
  refine (C0.out _ HG.out.1).mono ?_
  rintro e w1 ⟨rfl, K1⟩
  have HG1 : Hid (Kept w w1) := HG.out.1.trans K1
  clear HG K1 c12
  have hF := HS.out.kept HG1.out
  have c14 : w1.cell? ⟨p, 14, none⟩ = some (.int .i64 q.lk) := hF.b.at 14 rfl
  have c15 : w1.cell? ⟨p, 15, none⟩ = some (.int .i64 q.pl) := hF.b.at 15 rfl
  have fz := hF.b.fz
  have HF3 : Hid (FS (w1.setCell ⟨p, 14, none⟩ (.int .i64 (q.lk - 1))) p E { q with lk := q.lk - 1 } ∧ Mut [p] w (w1.setCell ⟨p, 14, none⟩ (.int .i64 (q.lk - 1)))) := ⟨hF.put (i := 14) rfl (.int .i64 (q.lk - 1)) rfl, HG1.out.mut.setCell (by simp) _⟩
  clear hF
  go_wp2_with fail
  go_step3
  rename_i aK
  simp only [Exit.then]
  refine aK _ _ ?_
  go_wp2_with fail
  refine (stand_is 2 j 0 _ HF3.out.1 HJ.out (by omega)).mono ?_
  rintro e w9 ⟨rfl, HF9, HU9⟩
  go_wp2
  (try simp only [Exit.inBlock])
  (try simp only [Exit.then])
  (try simp only [Exit.jump])
  (try simp only [Exit.noGoto])
  refine bodyPost_ret (results_none rfl _ _ _) rfl ?_
  exact ⟨rfl, HF9, HF3.out.2.trans HU9⟩

set_option maxRecDepth 10000 in
set_option maxHeartbeats 4000000 in
/-- The fragment. -/
theorem link_near {q : Fd} (j : Int) (w : World) (h : FS w p E q) (hs : q.st = 2) (hj : 0 ≤ j ∧ j < E.n0) (hl : q.lk = 1) (hv : 0 ≤ q.pl ∧ q.pl < 8) :
    Calls Try.prog 76 #[.pointer (some ⟨p, 0, none⟩), .complex .f64 (cr j).re (cr j).im] w fun e w' => e = .returned (.tuple #[]) ∧ FS w' p E { q with st := 8, at' := j * 8 + q.pl, lk := 0 } ∧ Mut [p] w w' := by
  have C0 : Hid (∀ w', Kept w w' → Calls Try.prog 105 #[.agg #[.int .i64 E.n0, .int .i64 E.n1, .int .i64 E.n2, .int .i64 E.n3, .int .i64 E.n4, .int .i64 E.n5, .int .i64 E.n6, .int .i64 E.n7, .slice (some ⟨E.g, 0, none⟩) E.sl E.sl], .complex .f64 (cr j).re (cr j).im] w' _) := fun w' Q => lfrag_is E.n0 E.n1 E.n2 E.n3 E.n4 E.n5 E.n6 E.n7 (some ⟨E.g, 0, none⟩) E.sl E.sl j w' h.ok.1.1.2 hj
  have HS : Hid (FS w p E q) := h
  have HJ : Hid (0 ≤ j ∧ j < E.n0) := hj
  have hst : q.st = 2 := hs
  have e1 : (q.lk - 1 == 0) = true := by simp [hl]
  have hb1 : 0 ≤ q.lk := by omega
  have hb2 : q.lk ≤ 1 := by omega
  have HL : Hid (q.lk - 1 = 0) := (by omega : q.lk - 1 = 0)
  clear hl
  clear h hj hs
  generalize (cr j) = z at *
  go_enter Try.func76, Try.ntmps76
  refine wp_scope_hop 0 rfl fun K HK => ?_
  go_upto_region 4 with fail
  generalize hW0 : w.alloc _ = W0
  have b0 : Blk W0 w.heap.size [.bool false, .slice none 0 0] := by rw [← hW0]; exact Blk.new w _ _
  have k0 : Kept w W0 := by rw [← hW0]; exact (Kept.refl w).alloc _ _
  have z0 : W0.heap.size = w.heap.size + 1 := by rw [← hW0]; simp
  clear hW0
  have c12 : W0.cell? ⟨p, 12, none⟩ = some (.int .i64 2) := by rw [← hst]; exact (HS.out.kept k0).b.at 12 rfl
  have HG : Hid (Kept w W0 ∧ Blk W0 w.heap.size [.bool false, .slice none 0 0] ∧ W0.heap.size = w.heap.size + 1) := ⟨k0, b0, z0⟩
  clear b0 k0 z0
  have d0 : W0.cell? ⟨p, 0, none⟩ = some (.int .i64 E.n0) := (HS.out.kept HG.out.1).b.at 0 rfl
  have d1 : W0.cell? ⟨p, 1, none⟩ = some (.int .i64 E.n1) := (HS.out.kept HG.out.1).b.at 1 rfl
  have d2 : W0.cell? ⟨p, 2, none⟩ = some (.int .i64 E.n2) := (HS.out.kept HG.out.1).b.at 2 rfl
  have d3 : W0.cell? ⟨p, 3, none⟩ = some (.int .i64 E.n3) := (HS.out.kept HG.out.1).b.at 3 rfl
  have d4 : W0.cell? ⟨p, 4, none⟩ = some (.int .i64 E.n4) := (HS.out.kept HG.out.1).b.at 4 rfl
  have d5 : W0.cell? ⟨p, 5, none⟩ = some (.int .i64 E.n5) := (HS.out.kept HG.out.1).b.at 5 rfl
  have d6 : W0.cell? ⟨p, 6, none⟩ = some (.int .i64 E.n6) := (HS.out.kept HG.out.1).b.at 6 rfl
  have d7 : W0.cell? ⟨p, 7, none⟩ = some (.int .i64 E.n7) := (HS.out.kept HG.out.1).b.at 7 rfl
  have d8 : W0.cell? ⟨p, 8, none⟩ = some (.slice (some ⟨E.g, 0, none⟩) E.sl E.sl) := (HS.out.kept HG.out.1).b.at 8 rfl
  go_wp2_with fail
  go_step3
  refine ⟨rfl, HK.out _ _ ?_⟩
  go_wp2_with fail
  refine (C0.out _ HG.out.1).mono ?_
  rintro e w1 ⟨rfl, K1⟩
  have HG1 : Hid (Kept w w1) := HG.out.1.trans K1
  clear HG K1 c12
  have hF := HS.out.kept HG1.out
  have c14 : w1.cell? ⟨p, 14, none⟩ = some (.int .i64 q.lk) := hF.b.at 14 rfl
  have c15 : w1.cell? ⟨p, 15, none⟩ = some (.int .i64 q.pl) := hF.b.at 15 rfl
  have fz := hF.b.fz
  have HF3 : Hid (FS (w1.setCell ⟨p, 14, none⟩ (.int .i64 (q.lk - 1))) p E { q with lk := q.lk - 1 } ∧ Mut [p] w (w1.setCell ⟨p, 14, none⟩ (.int .i64 (q.lk - 1)))) := ⟨hF.put (i := 14) rfl (.int .i64 (q.lk - 1)) rfl, HG1.out.mut.setCell (by simp) _⟩
  clear hF
  go_wp2_with fail
  go_step3
  rename_i aK
  simp only [Exit.then]
  refine aK _ _ ?_
  go_wp2_with fail
  refine (found_is j q.pl _ HF3.out.1 HJ.out hv).mono ?_
  rintro e w9 ⟨rfl, HF9, HU9⟩
  go_wp2
  (try simp only [Exit.inBlock])
  (try simp only [Exit.then])
  (try simp only [Exit.jump])
  (try simp only [Exit.noGoto])
  refine bodyPost_ret (results_none rfl _ _ _) rfl ?_
  exact ⟨rfl, by have B := HF9; rw [HL.out] at B; exact B, HF3.out.2.trans HU9⟩
end
end Go.Proofs.Ytpdclckgnajcdaa
