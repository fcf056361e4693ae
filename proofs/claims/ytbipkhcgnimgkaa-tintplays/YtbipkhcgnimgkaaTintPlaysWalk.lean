/-
  TintPlays: the walk.
-/
import Derived.Test.YtbipkhcgnimgkaaRef7b
import Derived.Test.YtbipkhcgnimgkaaOpen7
import Derived.Test.YtbipkhcgnimgkaaPhase
import Derived.Deep.CutBlock
namespace Go.Proofs.Ytbipkhcgnimgkaa
open Go.RowKit

/-- States are states; heads are Used. -/
structure Fine (n : Nat) (T : Nat → Fr) : Prop where
  all : ∀ j, j < n → ((T j).s = 0 ∨ (T j).s = 1 ∨ (T j).s = 2) ∧ ((T j).h = true → (T j).s = 2)
theorem Fine.first (n : Nat) : Fine n T0 := ⟨fun j _ => by simp [T0]⟩
theorem isSt_of {s : Int} (h : isSt s = true) : s = 0 ∨ s = 1 ∨ s = 2 := by
  simp [isSt] at h
  omega
theorem Fine.set {n : Nat} {T : Nat → Fr} (h : Fine n T) (i s : Int) (p c : Bool) : Fine n (setT n T i s p c) := by
  refine ⟨fun j hj => ?_⟩
  cases e : inn n i && isSt s
  · simpa [setT, e] using h.all j hj
  · by_cases q : j = i.toNat
    · simp only [Bool.and_eq_true] at e
      simp [setT, e, q]
      exact isSt_of e.2
    · simpa [setT, e, q] using h.all j hj
theorem usd_s {n : Nat} {T : Nat → Fr} {i : Int} (h : usd n T i = true) : (T i.toNat).s = 2 := by
  simp [usd] at h
  exact h.2
theorem Fine.born {n : Nat} {T : Nat → Fr} (h : Fine n T) (i : Int) : Fine n (bornT n T i) := by
  refine ⟨fun j hj => ?_⟩
  cases e : bornB n T i
  · simpa [bornT, e] using h.all j hj
  · by_cases q : j = i.toNat
    · have : (T i.toNat).s = 2 := by
        simp [bornB] at e
        exact usd_s e.1
      simp [bornT, e, q, this]
    · simpa [bornT, e, q] using h.all j hj
theorem Fine.mark {n : Nat} {T : Nat → Fr} (h : Fine n T) (i : Int) (c : Bool) : Fine n (markT n T i c) := by
  refine ⟨fun j hj => ?_⟩
  cases e : markB n T i c
  · simpa [markT, e] using h.all j hj
  · by_cases q : j = i.toNat
    · subst q
      simpa [markT, e] using h.all i.toNat hj
    · simpa [markT, e, q] using h.all j hj

theorem row_ne {w : World} {g g' n n' : Nat} {t t' : TypeId} {f f' : Nat → Value} (h : w.rowIs g t n f) (h' : w.rowIs g' t' n' f') (ht : t ≠ t') : g ≠ g' := by
  rintro rfl
  obtain ⟨c1, h1, _⟩ := h
  obtain ⟨c2, h2, _⟩ := h'
  rw [h1] at h2
  simp only [Option.some.injEq, Obj.cells.injEq] at h2
  exact ht h2.2.1

/-- Both tables, as they lie in memory. -/
structure Two (w u : World) (b g b' gs gh gc n : Nat) (T T' : Nat → Fr) : Prop where
  tab : Tab u b g n T
  ref : RTab u b' gs gh gc n T'
  kept : Kept w u
  l0 : w.heap.size ≤ g
  l1 : w.heap.size ≤ gs
  l2 : w.heap.size ≤ gh
  l3 : w.heap.size ≤ gc
section
variable {w u u' : World} {b g b' gs gh gc n : Nat} {T T' S : Nat → Fr}
theorem Two.still (h : Two w u b g b' gs gh gc n T T') (k : Kept u u') : Two w u' b g b' gs gh gc n T T' := ⟨h.tab.kept k, h.ref.kept k, h.kept.trans k, h.l0, h.l1, h.l2, h.l3⟩
theorem Two.fst (h : Two w u b g b' gs gh gc n T T') (t : Tab u' b g n S) (m : Mut [g] u u') : Two w u' b g b' gs gh gc n S T' :=
  ⟨t, h.ref.muts m (by simpa using h.ref.head.ne h.tab.row (by decide)) (by simpa using row_ne h.ref.rs h.tab.row (by decide)) (by simpa using row_ne h.ref.rh h.tab.row (by decide)) (by simpa using row_ne h.ref.rc h.tab.row (by decide)), h.kept.muts m (by simpa using h.l0), h.l0, h.l1, h.l2, h.l3⟩
theorem Two.snd (h : Two w u b g b' gs gh gc n T T') (t : RTab u' b' gs gh gc n S) (m : Mut [gs, gh, gc] u u') : Two w u' b g b' gs gh gc n T S :=
  ⟨h.tab.muts m (by simpa using ⟨h.tab.head.ne h.ref.rs (by decide), h.tab.head.ne h.ref.rh (by decide), h.tab.head.ne h.ref.rc (by decide)⟩) (by simpa using ⟨row_ne h.tab.row h.ref.rs (by decide), row_ne h.tab.row h.ref.rh (by decide), row_ne h.tab.row h.ref.rc (by decide)⟩), t,
    h.kept.muts m (by simpa using ⟨h.l1, h.l2, h.l3⟩), h.l0, h.l1, h.l2, h.l3⟩
end

set_option maxHeartbeats 8000000 in
set_option maxRecDepth 20000 in
theorem plays_bad (n : Int) (x : Option Addr) (l c : Nat) (w : World) (hn : ¬ (0 ≤ n ∧ n ≤ 1024)) :
    Calls Try.prog 3 #[.int .i64 n, .slice x l c] w fun e w' => e = .returned (.bool true) ∧ Kept w w' := by
  have HN : Hid (∀ w, _) := fun w => new_bad n w hn
  have HR : Hid (∀ w, _) := fun w => rnew_bad n w hn
  clear hn
  by_cases hl : (300 : Int) < l
  · go_enter Try.func3, Try.ntmps3
    go_wp2_with fail
    refine (first_any _).mono ?_
    rintro e w1 ⟨rfl, k1⟩
    have K1 : Hid (Kept w w1) := k1
    clear k1
    go_wp2_with fail
    refine (HN.out _).mono ?_
    rintro e w2 ⟨rfl, rfl⟩
    go_wp2_with fail
    refine (HR.out _).mono ?_
    rintro e w2 ⟨rfl, rfl⟩
    go_wp2_with fail
    refine (first_any _).mono ?_
    rintro e w9 ⟨rfl, k9⟩
    have K9 : Hid (Kept w w9) := K1.out.trans k9
    clear k9
    go_wp2
    go_ret
    exact ⟨rfl, K9.out⟩
  · go_enter Try.func3, Try.ntmps3
    go_wp2_with fail
    refine (first_any _).mono ?_
    rintro e w1 ⟨rfl, k1⟩
    have K1 : Hid (Kept w w1) := k1
    clear k1
    go_wp2_with fail
    refine (HN.out _).mono ?_
    rintro e w2 ⟨rfl, rfl⟩
    go_wp2_with fail
    refine (HR.out _).mono ?_
    rintro e w2 ⟨rfl, rfl⟩
    go_wp2
    refine wp_loop_rounds 1 ?_
    rw [rounds_succ]
    go_wp2_with fail
    refine (first_any _).mono ?_
    rintro e w9 ⟨rfl, k9⟩
    have K9 : Hid (Kept w w9) := K1.out.trans k9
    clear k9
    go_wp2
    go_ret
    exact ⟨rfl, K9.out⟩

set_option maxHeartbeats 8000000 in
set_option maxRecDepth 20000 in
theorem plays_out (n : Nat) (x : Option Addr) (l c : Nat) (w : World) (hn : (n : Int) ≤ 1024) (ho : 300 < (l : Int)) :
    Calls Try.prog 3 #[.int .i64 n, .slice x l c] w fun e w' => e = .returned (.bool true) ∧ Kept w w' := by
  go_enter Try.func3, Try.ntmps3
  go_wp2_with fail
  refine (first_any _).mono ?_
  rintro e w1 ⟨rfl, k1⟩
  have K1 : Hid (Kept w w1) := k1
  clear k1
  go_wp2_with fail
  refine (new_any n w1 (by omega)).mono ?_
  rintro e w2 ⟨b, g, rfl, ht, hb, hg, k2⟩
  have H2 : Hid (Tab w2 b g n T0 ∧ w.heap.size ≤ g ∧ Kept w w2) := ⟨ht, by have := K1.out.size; omega, K1.out.trans k2⟩
  clear ht hb hg k2 K1
  go_wp2_with fail
  refine (rnew_any n w2 (by omega)).mono ?_
  rintro e w3 ⟨b', gs, gh, gc, rfl, ht, hb, h1, h2, h3, k3⟩
  have H3 : Hid (Two w w3 b g b' gs gh gc n T0 T0) := by
    have z := H2.out.2.2.size
    exact ⟨H2.out.1.kept k3, ht, H2.out.2.2.trans k3, H2.out.2.1, by omega, by omega, by omega⟩
  clear ht hb h1 h2 h3 k3 H2
  have K3 : Hid (Kept w w3) := H3.out.kept
  clear H3
  go_wp2_with fail
  refine (first_any _).mono ?_
  rintro e w9 ⟨rfl, k9⟩
  have K9 : Hid (Kept w w9) := K3.out.trans k9
  clear k9
  go_wp2
  go_ret
  exact ⟨rfl, K9.out⟩

set_option maxHeartbeats 8000000 in
set_option maxRecDepth 20000 in
theorem plays_in (n : Nat) (x : Option Addr) (l c : Nat) (L : Nat → Op7) (w : World) (hX : Ops w x l L) (hn : (n : Int) ≤ 1024) (hl : (l : Int) ≤ 300) :
    Calls Try.prog 3 #[.int .i64 n, .slice x l c] w fun e w' => e = .returned (.bool true) ∧ Kept w w' := by
  have HX : Hid (Ops w x l L) := hX
  clear hX
  go_enter Try.func3, Try.ntmps3
  go_wp2_with fail
  refine (first_any _).mono ?_
  rintro e w1 ⟨rfl, k1⟩
  have K1 : Hid (Kept w w1) := k1
  clear k1
  go_wp2_with fail
  refine (new_any n w1 (by omega)).mono ?_
  rintro e w2 ⟨b, g, rfl, ht, hb, hg, k2⟩
  have H2 : Hid (Tab w2 b g n T0 ∧ w.heap.size ≤ g ∧ Kept w w2) := ⟨ht, by have := K1.out.size; omega, K1.out.trans k2⟩
  clear ht hb hg k2 K1
  go_wp2_with fail
  refine (rnew_any n w2 (by omega)).mono ?_
  rintro e w3 ⟨b', gs, gh, gc, rfl, ht, hb, h1, h2, h3, k3⟩
  have H3 : Hid (Two w w3 b g b' gs gh gc n T0 T0) := by
    have z := H2.out.2.2.size
    exact ⟨H2.out.1.kept k3, ht, H2.out.2.2.trans k3, H2.out.2.1, by omega, by omega, by omega⟩
  clear ht hb h1 h2 h3 k3 H2
  go_wp2
  go_loopg [9] l (fun m i wr' => ∃ (j : Nat) (T : Nat → Fr), i = .int .i64 j ∧ j ≤ l ∧ m = l - j ∧ Hid (Two w wr' b g b' gs gh gc n T T) ∧ Hid (Fine n T))
  case atStart => exact ⟨0, _, rfl, by omega, by omega, H3.out, Fine.first n⟩
  case round =>
    obtain ⟨k, T, rfl, hk, hm, HR, HF⟩ := hrel
    have HM : Hid _ := hm
    clear hm H3
    by_cases hlt : k < l
    · obtain ⟨bx, ox, rfl, hbx, hcx⟩ := HX.out (by omega)
      have e0 : wr.cell? ⟨bx, ox + k * 5, none⟩ = _ := (HR.out.kept.cell hbx).trans (hcx k hlt 0 _ (by omega) rfl)
      have e1 : wr.cell? ⟨bx, ox + k * 5 + 1, none⟩ = _ := (HR.out.kept.cell hbx).trans (hcx k hlt 1 _ (by omega) rfl)
      have e2 : wr.cell? ⟨bx, ox + k * 5 + 2, none⟩ = _ := (HR.out.kept.cell hbx).trans (hcx k hlt 2 _ (by omega) rfl)
      have e3 : wr.cell? ⟨bx, ox + k * 5 + 3, none⟩ = _ := (HR.out.kept.cell hbx).trans (hcx k hlt 3 _ (by omega) rfl)
      have e4 : wr.cell? ⟨bx, ox + k * 5 + 4, none⟩ = _ := (HR.out.kept.cell hbx).trans (hcx k hlt 4 _ (by omega) rfl)
      clear hcx hbx HX
      generalize L k = o at *
      obtain ⟨ok, oi, os, oh, oc⟩ := o
      simp only at e0 e1 e2 e3 e4
      go_upto_block 2 with fail
      clear e0 e1 e2 e3 e4
      generalize hW : wr.alloc _ = W
      have BO : Hid (Blk W wr.heap.size [.int .i64 ok, .int .i64 oi, .int .i64 os, .bool oh, .bool oc]) := by rw [← hW]; exact Blk.new wr _ _
      have HW : Hid (Two w W b g b' gs gh gc n T T) := by rw [← hW]; exact HR.out.still ((Kept.refl wr).alloc _ _)
      have NE : Hid (wr.heap.size ≠ g ∧ (wr.heap.size ≠ gs ∧ wr.heap.size ≠ gh ∧ wr.heap.size ≠ gc)) := by
        have h0 := HR.out.tab.row.lt
        have h1 := HR.out.ref.rs.lt
        have h2 := HR.out.ref.rh.lt
        have h3 := HR.out.ref.rc.lt
        exact ⟨by omega, by omega, by omega, by omega⟩
      clear hW HR
      generalize wr.heap.size = ob at *
      go_cut [11] from 58 to 195 (fun q wc => q = .bool true ∧ ∃ T, Hid (Two w wc b g b' gs gh gc n T T ∧ Fine n T) ∧ Hid (Blk wc ob [.int .i64 ok, .int .i64 oi, .int .i64 os, .bool oh, .bool oc]))
      case first =>
        have c0 := BO.out.at 0 rfl
        by_cases h0 : ok = 0
        · have h0' : (ok == 0) = true := by simpa using h0
          clear h0
          have FI : Hid (Fine n (setT n T oi os oh oc)) := HF.out.set _ _ _ _
          go_upto_region 14 with fail
          clear c0
          refine wp_region_phase [(.pointer (some ⟨b, 0, none⟩)), (.pointer (some ⟨ob, 1, none⟩)), (.int .i64 oi), (.pointer (some ⟨ob, 2, none⟩)), (.int .i64 os), (.pointer (some ⟨ob, 3, none⟩)), (.bool oh), (.pointer (some ⟨ob, 4, none⟩)), (.bool oc), (.bool (inn n oi && isSt os)), (.pointer (some ⟨b', 0, none⟩)), (.pointer (some ⟨ob, 1, none⟩)), (.int .i64 oi), (.pointer (some ⟨ob, 2, none⟩)), (.int .i64 os), (.pointer (some ⟨ob, 3, none⟩)), (.bool oh), (.pointer (some ⟨ob, 4, none⟩)), (.bool oc), (.bool (inn n oi && isSt os)), (.bool true), (.bool true)] [(11, 21), (76, 0), (77, 1), (78, 2), (79, 3), (80, 4), (81, 5), (82, 6), (83, 7), (84, 8), (85, 9), (86, 10), (87, 11), (88, 12), (89, 13), (90, 14), (91, 15), (92, 16), (93, 17), (94, 18), (95, 19), (96, 20)] [_, _, _, _, _, _, _, _, _, _, _, _, _, _, _, _, _, _, _, _, _, _, _, _, _, _, _, _, _, _, _, _, _, _, _, _, _, _, _, _, _, _, _, _, _, _, _, _, _, _, _, _, _, _, _, _, _, _, _, _, _, _, _, _, _, _, _, _, _, _, _, _, _, _, _, _, _, _, _, _, _, _, _, _, _, _, _, _, _, _, _, _, _, _, _, _, _, _, _, _, _, _, _, _, _, _, _, _, _, _, _, _, _, _, _, _, _, _, _, _, _, _, _, _, _, _, _, _, _, _, _, _, _, _, _, _, _, _, _, _, _, _, _, _, _, _, _, _, _, _, _, _, _, _, _, _, _, _, _, _, _, _, _, _, _, _, _, _, _, _, _, _, _, _, _, _, _, _, _, _, _, _, _, _, _, _, _, _, _, _, _, _, _, _, _, _, _] (fun d u => Blk u ob [.int .i64 ok, .int .i64 oi, .int .i64 os, .bool oh, .bool oc] ∧ Two w u b g b' gs gh gc n (if d 9 then (setT n T oi os oh oc) else T) (if d 19 then (setT n T oi os oh oc) else T)) (by kernel_rfl) (by kernel_rfl) (by kernel_rfl) (by kernel_rfl) rfl ?_ ?_ ?_
          · exact ⟨BO.out.kept (Kept.refl _).drew, by simpa using HW.out.still (Kept.refl _).drew⟩
          · intro i o ho a d u hh hj hi hd
            match i, ho, hi, hd with
            | 0, ho, hi, hd =>
              simp only [List.getElem?_cons_zero, Option.some.injEq] at ho
              subst ho
              have g5 : a.tmps[5]? = some (.pointer (some ⟨b, 0, none⟩)) := hh.old 5 (by kernel_rfl) rfl
              clear hh hd
              have HN : Hid (Blk u ob [.int .i64 ok, .int .i64 oi, .int .i64 os, .bool oh, .bool oc] ∧ Two w u b g b' gs gh gc n (if done d 0 9 then (setT n T oi os oh oc) else T) (if done d 0 19 then (setT n T oi os oh oc) else T)) := by simpa [Hid, done] using hj
              clear hj hi
              refine wpOp_step rfl (fun K hK => ?_)
              go_simp
              exact hK _ _ ⟨by simp [Act.put], HN.out⟩
            | 1, ho, hi, hd =>
              simp only [List.getElem?_cons_succ, List.getElem?_cons_zero, Option.some.injEq] at ho
              subst ho
              have g10 : a.tmps[10]? = some (.pointer (some ⟨ob, 0, none⟩)) := hh.old 10 (by kernel_rfl) rfl
              clear hh hd
              have HN : Hid (Blk u ob [.int .i64 ok, .int .i64 oi, .int .i64 os, .bool oh, .bool oc] ∧ Two w u b g b' gs gh gc n (if done d 1 9 then (setT n T oi os oh oc) else T) (if done d 1 19 then (setT n T oi os oh oc) else T)) := by simpa [Hid, done] using hj
              clear hj hi
              refine wpOp_step rfl (fun K hK => ?_)
              go_simp
              exact hK _ _ ⟨by simp [Act.put], HN.out⟩
            | 2, ho, hi, hd =>
              simp only [List.getElem?_cons_succ, List.getElem?_cons_zero, Option.some.injEq] at ho
              subst ho
              have g77 : a.tmps[77]? = some (.pointer (some ⟨ob, 1, none⟩)) := hh.did 1 _ 77 rfl rfl (hd { on := 1, ground := .data } (by simp) rfl)
              have cc := hj.1.at 1 rfl
              clear hh hd
              have HN : Hid (Blk u ob [.int .i64 ok, .int .i64 oi, .int .i64 os, .bool oh, .bool oc] ∧ Two w u b g b' gs gh gc n (if done d 2 9 then (setT n T oi os oh oc) else T) (if done d 2 19 then (setT n T oi os oh oc) else T)) := by simpa [Hid, done] using hj
              clear hj hi
              refine wpOp_step rfl (fun K hK => ?_)
              go_simp
              exact hK _ _ ⟨by simp [Act.put], HN.out⟩
            | 3, ho, hi, hd =>
              simp only [List.getElem?_cons_succ, List.getElem?_cons_zero, Option.some.injEq] at ho
              subst ho
              have g10 : a.tmps[10]? = some (.pointer (some ⟨ob, 0, none⟩)) := hh.old 10 (by kernel_rfl) rfl
              clear hh hd
              have HN : Hid (Blk u ob [.int .i64 ok, .int .i64 oi, .int .i64 os, .bool oh, .bool oc] ∧ Two w u b g b' gs gh gc n (if done d 3 9 then (setT n T oi os oh oc) else T) (if done d 3 19 then (setT n T oi os oh oc) else T)) := by simpa [Hid, done] using hj
              clear hj hi
              refine wpOp_step rfl (fun K hK => ?_)
              go_simp
              exact hK _ _ ⟨by simp [Act.put], HN.out⟩
            | 4, ho, hi, hd =>
              simp only [List.getElem?_cons_succ, List.getElem?_cons_zero, Option.some.injEq] at ho
              subst ho
              have g79 : a.tmps[79]? = some (.pointer (some ⟨ob, 2, none⟩)) := hh.did 3 _ 79 rfl rfl (hd { on := 3, ground := .data } (by simp) rfl)
              have cc := hj.1.at 2 rfl
              clear hh hd
              have HN : Hid (Blk u ob [.int .i64 ok, .int .i64 oi, .int .i64 os, .bool oh, .bool oc] ∧ Two w u b g b' gs gh gc n (if done d 4 9 then (setT n T oi os oh oc) else T) (if done d 4 19 then (setT n T oi os oh oc) else T)) := by simpa [Hid, done] using hj
              clear hj hi
              refine wpOp_step rfl (fun K hK => ?_)
              go_simp
              exact hK _ _ ⟨by simp [Act.put], HN.out⟩
            | 5, ho, hi, hd =>
              simp only [List.getElem?_cons_succ, List.getElem?_cons_zero, Option.some.injEq] at ho
              subst ho
              have g10 : a.tmps[10]? = some (.pointer (some ⟨ob, 0, none⟩)) := hh.old 10 (by kernel_rfl) rfl
              clear hh hd
              have HN : Hid (Blk u ob [.int .i64 ok, .int .i64 oi, .int .i64 os, .bool oh, .bool oc] ∧ Two w u b g b' gs gh gc n (if done d 5 9 then (setT n T oi os oh oc) else T) (if done d 5 19 then (setT n T oi os oh oc) else T)) := by simpa [Hid, done] using hj
              clear hj hi
              refine wpOp_step rfl (fun K hK => ?_)
              go_simp
              exact hK _ _ ⟨by simp [Act.put], HN.out⟩
            | 6, ho, hi, hd =>
              simp only [List.getElem?_cons_succ, List.getElem?_cons_zero, Option.some.injEq] at ho
              subst ho
              have g81 : a.tmps[81]? = some (.pointer (some ⟨ob, 3, none⟩)) := hh.did 5 _ 81 rfl rfl (hd { on := 5, ground := .data } (by simp) rfl)
              have cc := hj.1.at 3 rfl
              clear hh hd
              have HN : Hid (Blk u ob [.int .i64 ok, .int .i64 oi, .int .i64 os, .bool oh, .bool oc] ∧ Two w u b g b' gs gh gc n (if done d 6 9 then (setT n T oi os oh oc) else T) (if done d 6 19 then (setT n T oi os oh oc) else T)) := by simpa [Hid, done] using hj
              clear hj hi
              refine wpOp_step rfl (fun K hK => ?_)
              go_simp
              exact hK _ _ ⟨by simp [Act.put], HN.out⟩
            | 7, ho, hi, hd =>
              simp only [List.getElem?_cons_succ, List.getElem?_cons_zero, Option.some.injEq] at ho
              subst ho
              have g10 : a.tmps[10]? = some (.pointer (some ⟨ob, 0, none⟩)) := hh.old 10 (by kernel_rfl) rfl
              clear hh hd
              have HN : Hid (Blk u ob [.int .i64 ok, .int .i64 oi, .int .i64 os, .bool oh, .bool oc] ∧ Two w u b g b' gs gh gc n (if done d 7 9 then (setT n T oi os oh oc) else T) (if done d 7 19 then (setT n T oi os oh oc) else T)) := by simpa [Hid, done] using hj
              clear hj hi
              refine wpOp_step rfl (fun K hK => ?_)
              go_simp
              exact hK _ _ ⟨by simp [Act.put], HN.out⟩
            | 8, ho, hi, hd =>
              simp only [List.getElem?_cons_succ, List.getElem?_cons_zero, Option.some.injEq] at ho
              subst ho
              have g83 : a.tmps[83]? = some (.pointer (some ⟨ob, 4, none⟩)) := hh.did 7 _ 83 rfl rfl (hd { on := 7, ground := .data } (by simp) rfl)
              have cc := hj.1.at 4 rfl
              clear hh hd
              have HN : Hid (Blk u ob [.int .i64 ok, .int .i64 oi, .int .i64 os, .bool oh, .bool oc] ∧ Two w u b g b' gs gh gc n (if done d 8 9 then (setT n T oi os oh oc) else T) (if done d 8 19 then (setT n T oi os oh oc) else T)) := by simpa [Hid, done] using hj
              clear hj hi
              refine wpOp_step rfl (fun K hK => ?_)
              go_simp
              exact hK _ _ ⟨by simp [Act.put], HN.out⟩
            | 9, ho, hi, hd =>
              simp only [List.getElem?_cons_succ, List.getElem?_cons_zero, Option.some.injEq] at ho
              subst ho
              have g76 : a.tmps[76]? = some (.pointer (some ⟨b, 0, none⟩)) := hh.did 0 _ 76 rfl rfl (hd { on := 0, ground := .data } (by simp) rfl)
              have g78 : a.tmps[78]? = some (.int .i64 oi) := hh.did 2 _ 78 rfl rfl (hd { on := 2, ground := .data } (by simp) rfl)
              have g80 : a.tmps[80]? = some (.int .i64 os) := hh.did 4 _ 80 rfl rfl (hd { on := 4, ground := .data } (by simp) rfl)
              have g82 : a.tmps[82]? = some (.bool oh) := hh.did 6 _ 82 rfl rfl (hd { on := 6, ground := .data } (by simp) rfl)
              have g84 : a.tmps[84]? = some (.bool oc) := hh.did 8 _ 84 rfl rfl (hd { on := 8, ground := .data } (by simp) rfl)
              clear hh hd
              have CA : Hid (Calls _ _ _ _ _) := set_any oi os oh oc u (by have := hj.2.tab; simpa [hi] using this)
              have HN : Hid (∀ u', Tab u' b g n (setT n T oi os oh oc) → Mut [g] u u' → Blk u' ob [.int .i64 ok, .int .i64 oi, .int .i64 os, .bool oh, .bool oc] ∧ Two w u' b g b' gs gh gc n (if done d 9 9 then (setT n T oi os oh oc) else T) (if done d 9 19 then (setT n T oi os oh oc) else T)) := fun u' t m => ⟨hj.1.muts m (by simpa using NE.out.1), by have := hj.2.fst t m; simpa [done] using this⟩
              clear hj hi
              refine wpOp_step rfl (fun K hK => ?_)
              go_simp
              refine CA.out.mono ?_
              rintro e u' ⟨rfl, ht, m⟩
              exact hK _ _ ⟨by simp [Act.put], HN.out u' ht m⟩
            | 10, ho, hi, hd =>
              simp only [List.getElem?_cons_succ, List.getElem?_cons_zero, Option.some.injEq] at ho
              subst ho
              have g7 : a.tmps[7]? = some (.pointer (some ⟨b', 0, none⟩)) := hh.old 7 (by kernel_rfl) rfl
              clear hh hd
              have HN : Hid (Blk u ob [.int .i64 ok, .int .i64 oi, .int .i64 os, .bool oh, .bool oc] ∧ Two w u b g b' gs gh gc n (if done d 10 9 then (setT n T oi os oh oc) else T) (if done d 10 19 then (setT n T oi os oh oc) else T)) := by simpa [Hid, done] using hj
              clear hj hi
              refine wpOp_step rfl (fun K hK => ?_)
              go_simp
              exact hK _ _ ⟨by simp [Act.put], HN.out⟩
            | 11, ho, hi, hd =>
              simp only [List.getElem?_cons_succ, List.getElem?_cons_zero, Option.some.injEq] at ho
              subst ho
              have g10 : a.tmps[10]? = some (.pointer (some ⟨ob, 0, none⟩)) := hh.old 10 (by kernel_rfl) rfl
              clear hh hd
              have HN : Hid (Blk u ob [.int .i64 ok, .int .i64 oi, .int .i64 os, .bool oh, .bool oc] ∧ Two w u b g b' gs gh gc n (if done d 11 9 then (setT n T oi os oh oc) else T) (if done d 11 19 then (setT n T oi os oh oc) else T)) := by simpa [Hid, done] using hj
              clear hj hi
              refine wpOp_step rfl (fun K hK => ?_)
              go_simp
              exact hK _ _ ⟨by simp [Act.put], HN.out⟩
            | 12, ho, hi, hd =>
              simp only [List.getElem?_cons_succ, List.getElem?_cons_zero, Option.some.injEq] at ho
              subst ho
              have g87 : a.tmps[87]? = some (.pointer (some ⟨ob, 1, none⟩)) := hh.did 11 _ 87 rfl rfl (hd { on := 11, ground := .data } (by simp) rfl)
              have cc := hj.1.at 1 rfl
              clear hh hd
              have HN : Hid (Blk u ob [.int .i64 ok, .int .i64 oi, .int .i64 os, .bool oh, .bool oc] ∧ Two w u b g b' gs gh gc n (if done d 12 9 then (setT n T oi os oh oc) else T) (if done d 12 19 then (setT n T oi os oh oc) else T)) := by simpa [Hid, done] using hj
              clear hj hi
              refine wpOp_step rfl (fun K hK => ?_)
              go_simp
              exact hK _ _ ⟨by simp [Act.put], HN.out⟩
            | 13, ho, hi, hd =>
              simp only [List.getElem?_cons_succ, List.getElem?_cons_zero, Option.some.injEq] at ho
              subst ho
              have g10 : a.tmps[10]? = some (.pointer (some ⟨ob, 0, none⟩)) := hh.old 10 (by kernel_rfl) rfl
              clear hh hd
              have HN : Hid (Blk u ob [.int .i64 ok, .int .i64 oi, .int .i64 os, .bool oh, .bool oc] ∧ Two w u b g b' gs gh gc n (if done d 13 9 then (setT n T oi os oh oc) else T) (if done d 13 19 then (setT n T oi os oh oc) else T)) := by simpa [Hid, done] using hj
              clear hj hi
              refine wpOp_step rfl (fun K hK => ?_)
              go_simp
              exact hK _ _ ⟨by simp [Act.put], HN.out⟩
            | 14, ho, hi, hd =>
              simp only [List.getElem?_cons_succ, List.getElem?_cons_zero, Option.some.injEq] at ho
              subst ho
              have g89 : a.tmps[89]? = some (.pointer (some ⟨ob, 2, none⟩)) := hh.did 13 _ 89 rfl rfl (hd { on := 13, ground := .data } (by simp) rfl)
              have cc := hj.1.at 2 rfl
              clear hh hd
              have HN : Hid (Blk u ob [.int .i64 ok, .int .i64 oi, .int .i64 os, .bool oh, .bool oc] ∧ Two w u b g b' gs gh gc n (if done d 14 9 then (setT n T oi os oh oc) else T) (if done d 14 19 then (setT n T oi os oh oc) else T)) := by simpa [Hid, done] using hj
              clear hj hi
              refine wpOp_step rfl (fun K hK => ?_)
              go_simp
              exact hK _ _ ⟨by simp [Act.put], HN.out⟩
            | 15, ho, hi, hd =>
              simp only [List.getElem?_cons_succ, List.getElem?_cons_zero, Option.some.injEq] at ho
              subst ho
              have g10 : a.tmps[10]? = some (.pointer (some ⟨ob, 0, none⟩)) := hh.old 10 (by kernel_rfl) rfl
              clear hh hd
              have HN : Hid (Blk u ob [.int .i64 ok, .int .i64 oi, .int .i64 os, .bool oh, .bool oc] ∧ Two w u b g b' gs gh gc n (if done d 15 9 then (setT n T oi os oh oc) else T) (if done d 15 19 then (setT n T oi os oh oc) else T)) := by simpa [Hid, done] using hj
              clear hj hi
              refine wpOp_step rfl (fun K hK => ?_)
              go_simp
              exact hK _ _ ⟨by simp [Act.put], HN.out⟩
            | 16, ho, hi, hd =>
              simp only [List.getElem?_cons_succ, List.getElem?_cons_zero, Option.some.injEq] at ho
              subst ho
              have g91 : a.tmps[91]? = some (.pointer (some ⟨ob, 3, none⟩)) := hh.did 15 _ 91 rfl rfl (hd { on := 15, ground := .data } (by simp) rfl)
              have cc := hj.1.at 3 rfl
              clear hh hd
              have HN : Hid (Blk u ob [.int .i64 ok, .int .i64 oi, .int .i64 os, .bool oh, .bool oc] ∧ Two w u b g b' gs gh gc n (if done d 16 9 then (setT n T oi os oh oc) else T) (if done d 16 19 then (setT n T oi os oh oc) else T)) := by simpa [Hid, done] using hj
              clear hj hi
              refine wpOp_step rfl (fun K hK => ?_)
              go_simp
              exact hK _ _ ⟨by simp [Act.put], HN.out⟩
            | 17, ho, hi, hd =>
              simp only [List.getElem?_cons_succ, List.getElem?_cons_zero, Option.some.injEq] at ho
              subst ho
              have g10 : a.tmps[10]? = some (.pointer (some ⟨ob, 0, none⟩)) := hh.old 10 (by kernel_rfl) rfl
              clear hh hd
              have HN : Hid (Blk u ob [.int .i64 ok, .int .i64 oi, .int .i64 os, .bool oh, .bool oc] ∧ Two w u b g b' gs gh gc n (if done d 17 9 then (setT n T oi os oh oc) else T) (if done d 17 19 then (setT n T oi os oh oc) else T)) := by simpa [Hid, done] using hj
              clear hj hi
              refine wpOp_step rfl (fun K hK => ?_)
              go_simp
              exact hK _ _ ⟨by simp [Act.put], HN.out⟩
            | 18, ho, hi, hd =>
              simp only [List.getElem?_cons_succ, List.getElem?_cons_zero, Option.some.injEq] at ho
              subst ho
              have g93 : a.tmps[93]? = some (.pointer (some ⟨ob, 4, none⟩)) := hh.did 17 _ 93 rfl rfl (hd { on := 17, ground := .data } (by simp) rfl)
              have cc := hj.1.at 4 rfl
              clear hh hd
              have HN : Hid (Blk u ob [.int .i64 ok, .int .i64 oi, .int .i64 os, .bool oh, .bool oc] ∧ Two w u b g b' gs gh gc n (if done d 18 9 then (setT n T oi os oh oc) else T) (if done d 18 19 then (setT n T oi os oh oc) else T)) := by simpa [Hid, done] using hj
              clear hj hi
              refine wpOp_step rfl (fun K hK => ?_)
              go_simp
              exact hK _ _ ⟨by simp [Act.put], HN.out⟩
            | 19, ho, hi, hd =>
              simp only [List.getElem?_cons_succ, List.getElem?_cons_zero, Option.some.injEq] at ho
              subst ho
              have g86 : a.tmps[86]? = some (.pointer (some ⟨b', 0, none⟩)) := hh.did 10 _ 86 rfl rfl (hd { on := 10, ground := .data } (by simp) rfl)
              have g88 : a.tmps[88]? = some (.int .i64 oi) := hh.did 12 _ 88 rfl rfl (hd { on := 12, ground := .data } (by simp) rfl)
              have g90 : a.tmps[90]? = some (.int .i64 os) := hh.did 14 _ 90 rfl rfl (hd { on := 14, ground := .data } (by simp) rfl)
              have g92 : a.tmps[92]? = some (.bool oh) := hh.did 16 _ 92 rfl rfl (hd { on := 16, ground := .data } (by simp) rfl)
              have g94 : a.tmps[94]? = some (.bool oc) := hh.did 18 _ 94 rfl rfl (hd { on := 18, ground := .data } (by simp) rfl)
              clear hh hd
              have CA : Hid (Calls _ _ _ _ _) := rset_any oi os oh oc u (by have := hj.2.ref; simpa [hi] using this)
              have HN : Hid (∀ u', RTab u' b' gs gh gc n (setT n T oi os oh oc) → Mut [gs, gh, gc] u u' → Blk u' ob [.int .i64 ok, .int .i64 oi, .int .i64 os, .bool oh, .bool oc] ∧ Two w u' b g b' gs gh gc n (if done d 19 9 then (setT n T oi os oh oc) else T) (if done d 19 19 then (setT n T oi os oh oc) else T)) := fun u' t m => ⟨hj.1.muts m (by simpa using NE.out.2), by have := hj.2.snd t m; simpa [done] using this⟩
              clear hj hi
              refine wpOp_step rfl (fun K hK => ?_)
              go_simp
              refine CA.out.mono ?_
              rintro e u' ⟨rfl, ht, m⟩
              exact hK _ _ ⟨by simp [Act.put], HN.out u' ht m⟩
            | 20, ho, hi, hd =>
              simp only [List.getElem?_cons_succ, List.getElem?_cons_zero, Option.some.injEq] at ho
              subst ho
              have g85 : a.tmps[85]? = some (.bool (inn n oi && isSt os)) := hh.did 9 _ 85 rfl rfl (hd { on := 9, ground := .data } (by simp) rfl)
              have g95 : a.tmps[95]? = some (.bool (inn n oi && isSt os)) := hh.did 19 _ 95 rfl rfl (hd { on := 19, ground := .data } (by simp) rfl)
              clear hh hd
              have HN : Hid (Blk u ob [.int .i64 ok, .int .i64 oi, .int .i64 os, .bool oh, .bool oc] ∧ Two w u b g b' gs gh gc n (if done d 20 9 then (setT n T oi os oh oc) else T) (if done d 20 19 then (setT n T oi os oh oc) else T)) := by simpa [Hid, done] using hj
              clear hj hi
              refine wpOp_step rfl (fun K hK => ?_)
              go_simp
              exact hK _ _ ⟨by simp [Act.put], HN.out⟩
            | 21, ho, hi, hd =>
              simp only [List.getElem?_cons_succ, List.getElem?_cons_zero, Option.some.injEq] at ho
              subst ho
              have g96 : a.tmps[96]? = some (.bool true) := hh.did 20 _ 96 rfl rfl (hd { on := 20, ground := .data } (by simp) rfl)
              clear hh hd
              have HN : Hid (Blk u ob [.int .i64 ok, .int .i64 oi, .int .i64 os, .bool oh, .bool oc] ∧ Two w u b g b' gs gh gc n (if done d 21 9 then (setT n T oi os oh oc) else T) (if done d 21 19 then (setT n T oi os oh oc) else T)) := by simpa [Hid, done] using hj
              clear hj hi
              refine wpOp_step rfl (fun K hK => ?_)
              go_simp
              exact hK _ _ ⟨by simp [Act.put], HN.out⟩
            | k + 22, ho, _, _ => simp at ho
          · intro u d hall hj
            have HE : Hid (Two w u b g b' gs gh gc n (setT n T oi os oh oc) (setT n T oi os oh oc) ∧ Blk u ob [.int .i64 ok, .int .i64 oi, .int .i64 os, .bool oh, .bool oc]) := by
              have h1 := hall 9 (by decide)
              have h2 := hall 19 (by decide)
              have h3 := hj.2
              rw [h1, h2] at h3
              exact ⟨h3, hj.1⟩
            clear hall hj
            simp only [List.getD_cons_succ, List.getD_cons_zero]
            go_wp2
            go_meet
            case rel => exact ⟨rfl, _, ⟨HE.out.1, FI.out⟩, HE.out.2⟩
        · have h0' : (ok == 0) = false := by simpa using h0
          clear h0
          by_cases h1 : ok = 1
          · have h1' : (ok == 1) = true := by simpa using h1
            clear h1
            have FI : Hid (Fine n (bornT n T oi)) := HF.out.born _
            go_upto_region 16 with fail
            clear c0
            refine wp_region_phase [(.pointer (some ⟨b, 0, none⟩)), (.pointer (some ⟨ob, 1, none⟩)), (.int .i64 oi), (.bool (bornB n T oi)), (.pointer (some ⟨b', 0, none⟩)), (.pointer (some ⟨ob, 1, none⟩)), (.int .i64 oi), (.bool (bornB n T oi)), (.bool true), (.bool true)] [(11, 9), (99, 0), (100, 1), (101, 2), (102, 3), (103, 4), (104, 5), (105, 6), (106, 7), (107, 8)] [_, _, _, _, _, _, _, _, _, _, _, _, _, _, _, _, _, _, _, _, _, _, _, _, _, _, _, _, _, _, _, _, _, _, _, _, _, _, _, _, _, _, _, _, _, _, _, _, _, _, _, _, _, _, _, _, _, _, _, _, _, _, _, _, _, _, _, _, _, _, _, _, _, _, _, _, _, _, _, _, _, _, _, _, _, _, _, _, _, _, _, _, _, _, _, _, _, _, _, _, _, _, _, _, _, _, _, _, _, _, _, _, _, _, _, _, _, _, _, _, _, _, _, _, _, _, _, _, _, _, _, _, _, _, _, _, _, _, _, _, _, _, _, _, _, _, _, _, _, _, _, _, _, _, _, _, _, _, _, _, _, _, _, _, _, _, _, _, _, _, _, _, _, _, _, _, _, _, _, _, _, _, _, _, _, _, _, _, _, _, _, _, _, _, _, _, _] (fun d u => Blk u ob [.int .i64 ok, .int .i64 oi, .int .i64 os, .bool oh, .bool oc] ∧ Two w u b g b' gs gh gc n (if d 3 then (bornT n T oi) else T) (if d 7 then (bornT n T oi) else T)) (by kernel_rfl) (by kernel_rfl) (by kernel_rfl) (by kernel_rfl) rfl ?_ ?_ ?_
            · exact ⟨BO.out.kept (Kept.refl _).drew, by simpa using HW.out.still (Kept.refl _).drew⟩
            · intro i o ho a d u hh hj hi hd
              match i, ho, hi, hd with
              | 0, ho, hi, hd =>
                simp only [List.getElem?_cons_zero, Option.some.injEq] at ho
                subst ho
                have g5 : a.tmps[5]? = some (.pointer (some ⟨b, 0, none⟩)) := hh.old 5 (by kernel_rfl) rfl
                clear hh hd
                have HN : Hid (Blk u ob [.int .i64 ok, .int .i64 oi, .int .i64 os, .bool oh, .bool oc] ∧ Two w u b g b' gs gh gc n (if done d 0 3 then (bornT n T oi) else T) (if done d 0 7 then (bornT n T oi) else T)) := by simpa [Hid, done] using hj
                clear hj hi
                refine wpOp_step rfl (fun K hK => ?_)
                go_simp
                exact hK _ _ ⟨by simp [Act.put], HN.out⟩
              | 1, ho, hi, hd =>
                simp only [List.getElem?_cons_succ, List.getElem?_cons_zero, Option.some.injEq] at ho
                subst ho
                have g10 : a.tmps[10]? = some (.pointer (some ⟨ob, 0, none⟩)) := hh.old 10 (by kernel_rfl) rfl
                clear hh hd
                have HN : Hid (Blk u ob [.int .i64 ok, .int .i64 oi, .int .i64 os, .bool oh, .bool oc] ∧ Two w u b g b' gs gh gc n (if done d 1 3 then (bornT n T oi) else T) (if done d 1 7 then (bornT n T oi) else T)) := by simpa [Hid, done] using hj
                clear hj hi
                refine wpOp_step rfl (fun K hK => ?_)
                go_simp
                exact hK _ _ ⟨by simp [Act.put], HN.out⟩
              | 2, ho, hi, hd =>
                simp only [List.getElem?_cons_succ, List.getElem?_cons_zero, Option.some.injEq] at ho
                subst ho
                have g100 : a.tmps[100]? = some (.pointer (some ⟨ob, 1, none⟩)) := hh.did 1 _ 100 rfl rfl (hd { on := 1, ground := .data } (by simp) rfl)
                have cc := hj.1.at 1 rfl
                clear hh hd
                have HN : Hid (Blk u ob [.int .i64 ok, .int .i64 oi, .int .i64 os, .bool oh, .bool oc] ∧ Two w u b g b' gs gh gc n (if done d 2 3 then (bornT n T oi) else T) (if done d 2 7 then (bornT n T oi) else T)) := by simpa [Hid, done] using hj
                clear hj hi
                refine wpOp_step rfl (fun K hK => ?_)
                go_simp
                exact hK _ _ ⟨by simp [Act.put], HN.out⟩
              | 3, ho, hi, hd =>
                simp only [List.getElem?_cons_succ, List.getElem?_cons_zero, Option.some.injEq] at ho
                subst ho
                have g99 : a.tmps[99]? = some (.pointer (some ⟨b, 0, none⟩)) := hh.did 0 _ 99 rfl rfl (hd { on := 0, ground := .data } (by simp) rfl)
                have g101 : a.tmps[101]? = some (.int .i64 oi) := hh.did 2 _ 101 rfl rfl (hd { on := 2, ground := .data } (by simp) rfl)
                clear hh hd
                have CA : Hid (Calls _ _ _ _ _) := born_any oi u (by have := hj.2.tab; simpa [hi] using this)
                have HN : Hid (∀ u', Tab u' b g n (bornT n T oi) → Mut [g] u u' → Blk u' ob [.int .i64 ok, .int .i64 oi, .int .i64 os, .bool oh, .bool oc] ∧ Two w u' b g b' gs gh gc n (if done d 3 3 then (bornT n T oi) else T) (if done d 3 7 then (bornT n T oi) else T)) := fun u' t m => ⟨hj.1.muts m (by simpa using NE.out.1), by have := hj.2.fst t m; simpa [done] using this⟩
                clear hj hi
                refine wpOp_step rfl (fun K hK => ?_)
                go_simp
                refine CA.out.mono ?_
                rintro e u' ⟨rfl, ht, m⟩
                exact hK _ _ ⟨by simp [Act.put], HN.out u' ht m⟩
              | 4, ho, hi, hd =>
                simp only [List.getElem?_cons_succ, List.getElem?_cons_zero, Option.some.injEq] at ho
                subst ho
                have g7 : a.tmps[7]? = some (.pointer (some ⟨b', 0, none⟩)) := hh.old 7 (by kernel_rfl) rfl
                clear hh hd
                have HN : Hid (Blk u ob [.int .i64 ok, .int .i64 oi, .int .i64 os, .bool oh, .bool oc] ∧ Two w u b g b' gs gh gc n (if done d 4 3 then (bornT n T oi) else T) (if done d 4 7 then (bornT n T oi) else T)) := by simpa [Hid, done] using hj
                clear hj hi
                refine wpOp_step rfl (fun K hK => ?_)
                go_simp
                exact hK _ _ ⟨by simp [Act.put], HN.out⟩
              | 5, ho, hi, hd =>
                simp only [List.getElem?_cons_succ, List.getElem?_cons_zero, Option.some.injEq] at ho
                subst ho
                have g10 : a.tmps[10]? = some (.pointer (some ⟨ob, 0, none⟩)) := hh.old 10 (by kernel_rfl) rfl
                clear hh hd
                have HN : Hid (Blk u ob [.int .i64 ok, .int .i64 oi, .int .i64 os, .bool oh, .bool oc] ∧ Two w u b g b' gs gh gc n (if done d 5 3 then (bornT n T oi) else T) (if done d 5 7 then (bornT n T oi) else T)) := by simpa [Hid, done] using hj
                clear hj hi
                refine wpOp_step rfl (fun K hK => ?_)
                go_simp
                exact hK _ _ ⟨by simp [Act.put], HN.out⟩
              | 6, ho, hi, hd =>
                simp only [List.getElem?_cons_succ, List.getElem?_cons_zero, Option.some.injEq] at ho
                subst ho
                have g104 : a.tmps[104]? = some (.pointer (some ⟨ob, 1, none⟩)) := hh.did 5 _ 104 rfl rfl (hd { on := 5, ground := .data } (by simp) rfl)
                have cc := hj.1.at 1 rfl
                clear hh hd
                have HN : Hid (Blk u ob [.int .i64 ok, .int .i64 oi, .int .i64 os, .bool oh, .bool oc] ∧ Two w u b g b' gs gh gc n (if done d 6 3 then (bornT n T oi) else T) (if done d 6 7 then (bornT n T oi) else T)) := by simpa [Hid, done] using hj
                clear hj hi
                refine wpOp_step rfl (fun K hK => ?_)
                go_simp
                exact hK _ _ ⟨by simp [Act.put], HN.out⟩
              | 7, ho, hi, hd =>
                simp only [List.getElem?_cons_succ, List.getElem?_cons_zero, Option.some.injEq] at ho
                subst ho
                have g103 : a.tmps[103]? = some (.pointer (some ⟨b', 0, none⟩)) := hh.did 4 _ 103 rfl rfl (hd { on := 4, ground := .data } (by simp) rfl)
                have g105 : a.tmps[105]? = some (.int .i64 oi) := hh.did 6 _ 105 rfl rfl (hd { on := 6, ground := .data } (by simp) rfl)
                clear hh hd
                have CA : Hid (Calls _ _ _ _ _) := rborn_any oi u (by have := hj.2.ref; simpa [hi] using this)
                have HN : Hid (∀ u', RTab u' b' gs gh gc n (bornT n T oi) → Mut [gs, gh, gc] u u' → Blk u' ob [.int .i64 ok, .int .i64 oi, .int .i64 os, .bool oh, .bool oc] ∧ Two w u' b g b' gs gh gc n (if done d 7 3 then (bornT n T oi) else T) (if done d 7 7 then (bornT n T oi) else T)) := fun u' t m => ⟨hj.1.muts m (by simpa using NE.out.2), by have := hj.2.snd t m; simpa [done] using this⟩
                clear hj hi
                refine wpOp_step rfl (fun K hK => ?_)
                go_simp
                refine CA.out.mono ?_
                rintro e u' ⟨rfl, ht, m⟩
                exact hK _ _ ⟨by simp [Act.put], HN.out u' ht m⟩
              | 8, ho, hi, hd =>
                simp only [List.getElem?_cons_succ, List.getElem?_cons_zero, Option.some.injEq] at ho
                subst ho
                have g102 : a.tmps[102]? = some (.bool (bornB n T oi)) := hh.did 3 _ 102 rfl rfl (hd { on := 3, ground := .data } (by simp) rfl)
                have g106 : a.tmps[106]? = some (.bool (bornB n T oi)) := hh.did 7 _ 106 rfl rfl (hd { on := 7, ground := .data } (by simp) rfl)
                clear hh hd
                have HN : Hid (Blk u ob [.int .i64 ok, .int .i64 oi, .int .i64 os, .bool oh, .bool oc] ∧ Two w u b g b' gs gh gc n (if done d 8 3 then (bornT n T oi) else T) (if done d 8 7 then (bornT n T oi) else T)) := by simpa [Hid, done] using hj
                clear hj hi
                refine wpOp_step rfl (fun K hK => ?_)
                go_simp
                exact hK _ _ ⟨by simp [Act.put], HN.out⟩
              | 9, ho, hi, hd =>
                simp only [List.getElem?_cons_succ, List.getElem?_cons_zero, Option.some.injEq] at ho
                subst ho
                have g107 : a.tmps[107]? = some (.bool true) := hh.did 8 _ 107 rfl rfl (hd { on := 8, ground := .data } (by simp) rfl)
                clear hh hd
                have HN : Hid (Blk u ob [.int .i64 ok, .int .i64 oi, .int .i64 os, .bool oh, .bool oc] ∧ Two w u b g b' gs gh gc n (if done d 9 3 then (bornT n T oi) else T) (if done d 9 7 then (bornT n T oi) else T)) := by simpa [Hid, done] using hj
                clear hj hi
                refine wpOp_step rfl (fun K hK => ?_)
                go_simp
                exact hK _ _ ⟨by simp [Act.put], HN.out⟩
              | k + 10, ho, _, _ => simp at ho
            · intro u d hall hj
              have HE : Hid (Two w u b g b' gs gh gc n (bornT n T oi) (bornT n T oi) ∧ Blk u ob [.int .i64 ok, .int .i64 oi, .int .i64 os, .bool oh, .bool oc]) := by
                have h1 := hall 3 (by decide)
                have h2 := hall 7 (by decide)
                have h3 := hj.2
                rw [h1, h2] at h3
                exact ⟨h3, hj.1⟩
              clear hall hj
              simp only [List.getD_cons_succ, List.getD_cons_zero]
              go_wp2
              go_meet
              case rel => exact ⟨rfl, _, ⟨HE.out.1, FI.out⟩, HE.out.2⟩
          · have h1' : (ok == 1) = false := by simpa using h1
            clear h1
            by_cases h2 : ok = 2
            · have h2' : (ok == 2) = true := by simpa using h2
              clear h2
              have FI : Hid (Fine n (markT n T oi oc)) := HF.out.mark _ _
              go_upto_region 18 with fail
              clear c0
              refine wp_region_phase [(.pointer (some ⟨b, 0, none⟩)), (.pointer (some ⟨ob, 1, none⟩)), (.int .i64 oi), (.pointer (some ⟨ob, 4, none⟩)), (.bool oc), (.bool (markB n T oi oc)), (.pointer (some ⟨b', 0, none⟩)), (.pointer (some ⟨ob, 1, none⟩)), (.int .i64 oi), (.pointer (some ⟨ob, 4, none⟩)), (.bool oc), (.bool (markB n T oi oc)), (.bool true), (.bool true)] [(11, 13), (110, 0), (111, 1), (112, 2), (113, 3), (114, 4), (115, 5), (116, 6), (117, 7), (118, 8), (119, 9), (120, 10), (121, 11), (122, 12)] [_, _, _, _, _, _, _, _, _, _, _, _, _, _, _, _, _, _, _, _, _, _, _, _, _, _, _, _, _, _, _, _, _, _, _, _, _, _, _, _, _, _, _, _, _, _, _, _, _, _, _, _, _, _, _, _, _, _, _, _, _, _, _, _, _, _, _, _, _, _, _, _, _, _, _, _, _, _, _, _, _, _, _, _, _, _, _, _, _, _, _, _, _, _, _, _, _, _, _, _, _, _, _, _, _, _, _, _, _, _, _, _, _, _, _, _, _, _, _, _, _, _, _, _, _, _, _, _, _, _, _, _, _, _, _, _, _, _, _, _, _, _, _, _, _, _, _, _, _, _, _, _, _, _, _, _, _, _, _, _, _, _, _, _, _, _, _, _, _, _, _, _, _, _, _, _, _, _, _, _, _, _, _, _, _, _, _, _, _, _, _, _, _, _, _, _, _] (fun d u => Blk u ob [.int .i64 ok, .int .i64 oi, .int .i64 os, .bool oh, .bool oc] ∧ Two w u b g b' gs gh gc n (if d 5 then (markT n T oi oc) else T) (if d 11 then (markT n T oi oc) else T)) (by kernel_rfl) (by kernel_rfl) (by kernel_rfl) (by kernel_rfl) rfl ?_ ?_ ?_
              · exact ⟨BO.out.kept (Kept.refl _).drew, by simpa using HW.out.still (Kept.refl _).drew⟩
              · intro i o ho a d u hh hj hi hd
                match i, ho, hi, hd with
                | 0, ho, hi, hd =>
                  simp only [List.getElem?_cons_zero, Option.some.injEq] at ho
                  subst ho
                  have g5 : a.tmps[5]? = some (.pointer (some ⟨b, 0, none⟩)) := hh.old 5 (by kernel_rfl) rfl
                  clear hh hd
                  have HN : Hid (Blk u ob [.int .i64 ok, .int .i64 oi, .int .i64 os, .bool oh, .bool oc] ∧ Two w u b g b' gs gh gc n (if done d 0 5 then (markT n T oi oc) else T) (if done d 0 11 then (markT n T oi oc) else T)) := by simpa [Hid, done] using hj
                  clear hj hi
                  refine wpOp_step rfl (fun K hK => ?_)
                  go_simp
                  exact hK _ _ ⟨by simp [Act.put], HN.out⟩
                | 1, ho, hi, hd =>
                  simp only [List.getElem?_cons_succ, List.getElem?_cons_zero, Option.some.injEq] at ho
                  subst ho
                  have g10 : a.tmps[10]? = some (.pointer (some ⟨ob, 0, none⟩)) := hh.old 10 (by kernel_rfl) rfl
                  clear hh hd
                  have HN : Hid (Blk u ob [.int .i64 ok, .int .i64 oi, .int .i64 os, .bool oh, .bool oc] ∧ Two w u b g b' gs gh gc n (if done d 1 5 then (markT n T oi oc) else T) (if done d 1 11 then (markT n T oi oc) else T)) := by simpa [Hid, done] using hj
                  clear hj hi
                  refine wpOp_step rfl (fun K hK => ?_)
                  go_simp
                  exact hK _ _ ⟨by simp [Act.put], HN.out⟩
                | 2, ho, hi, hd =>
                  simp only [List.getElem?_cons_succ, List.getElem?_cons_zero, Option.some.injEq] at ho
                  subst ho
                  have g111 : a.tmps[111]? = some (.pointer (some ⟨ob, 1, none⟩)) := hh.did 1 _ 111 rfl rfl (hd { on := 1, ground := .data } (by simp) rfl)
                  have cc := hj.1.at 1 rfl
                  clear hh hd
                  have HN : Hid (Blk u ob [.int .i64 ok, .int .i64 oi, .int .i64 os, .bool oh, .bool oc] ∧ Two w u b g b' gs gh gc n (if done d 2 5 then (markT n T oi oc) else T) (if done d 2 11 then (markT n T oi oc) else T)) := by simpa [Hid, done] using hj
                  clear hj hi
                  refine wpOp_step rfl (fun K hK => ?_)
                  go_simp
                  exact hK _ _ ⟨by simp [Act.put], HN.out⟩
                | 3, ho, hi, hd =>
                  simp only [List.getElem?_cons_succ, List.getElem?_cons_zero, Option.some.injEq] at ho
                  subst ho
                  have g10 : a.tmps[10]? = some (.pointer (some ⟨ob, 0, none⟩)) := hh.old 10 (by kernel_rfl) rfl
                  clear hh hd
                  have HN : Hid (Blk u ob [.int .i64 ok, .int .i64 oi, .int .i64 os, .bool oh, .bool oc] ∧ Two w u b g b' gs gh gc n (if done d 3 5 then (markT n T oi oc) else T) (if done d 3 11 then (markT n T oi oc) else T)) := by simpa [Hid, done] using hj
                  clear hj hi
                  refine wpOp_step rfl (fun K hK => ?_)
                  go_simp
                  exact hK _ _ ⟨by simp [Act.put], HN.out⟩
                | 4, ho, hi, hd =>
                  simp only [List.getElem?_cons_succ, List.getElem?_cons_zero, Option.some.injEq] at ho
                  subst ho
                  have g113 : a.tmps[113]? = some (.pointer (some ⟨ob, 4, none⟩)) := hh.did 3 _ 113 rfl rfl (hd { on := 3, ground := .data } (by simp) rfl)
                  have cc := hj.1.at 4 rfl
                  clear hh hd
                  have HN : Hid (Blk u ob [.int .i64 ok, .int .i64 oi, .int .i64 os, .bool oh, .bool oc] ∧ Two w u b g b' gs gh gc n (if done d 4 5 then (markT n T oi oc) else T) (if done d 4 11 then (markT n T oi oc) else T)) := by simpa [Hid, done] using hj
                  clear hj hi
                  refine wpOp_step rfl (fun K hK => ?_)
                  go_simp
                  exact hK _ _ ⟨by simp [Act.put], HN.out⟩
                | 5, ho, hi, hd =>
                  simp only [List.getElem?_cons_succ, List.getElem?_cons_zero, Option.some.injEq] at ho
                  subst ho
                  have g110 : a.tmps[110]? = some (.pointer (some ⟨b, 0, none⟩)) := hh.did 0 _ 110 rfl rfl (hd { on := 0, ground := .data } (by simp) rfl)
                  have g112 : a.tmps[112]? = some (.int .i64 oi) := hh.did 2 _ 112 rfl rfl (hd { on := 2, ground := .data } (by simp) rfl)
                  have g114 : a.tmps[114]? = some (.bool oc) := hh.did 4 _ 114 rfl rfl (hd { on := 4, ground := .data } (by simp) rfl)
                  clear hh hd
                  have CA : Hid (Calls _ _ _ _ _) := mark_any oi oc u (by have := hj.2.tab; simpa [hi] using this)
                  have HN : Hid (∀ u', Tab u' b g n (markT n T oi oc) → Mut [g] u u' → Blk u' ob [.int .i64 ok, .int .i64 oi, .int .i64 os, .bool oh, .bool oc] ∧ Two w u' b g b' gs gh gc n (if done d 5 5 then (markT n T oi oc) else T) (if done d 5 11 then (markT n T oi oc) else T)) := fun u' t m => ⟨hj.1.muts m (by simpa using NE.out.1), by have := hj.2.fst t m; simpa [done] using this⟩
                  clear hj hi
                  refine wpOp_step rfl (fun K hK => ?_)
                  go_simp
                  refine CA.out.mono ?_
                  rintro e u' ⟨rfl, ht, m⟩
                  exact hK _ _ ⟨by simp [Act.put], HN.out u' ht m⟩
                | 6, ho, hi, hd =>
                  simp only [List.getElem?_cons_succ, List.getElem?_cons_zero, Option.some.injEq] at ho
                  subst ho
                  have g7 : a.tmps[7]? = some (.pointer (some ⟨b', 0, none⟩)) := hh.old 7 (by kernel_rfl) rfl
                  clear hh hd
                  have HN : Hid (Blk u ob [.int .i64 ok, .int .i64 oi, .int .i64 os, .bool oh, .bool oc] ∧ Two w u b g b' gs gh gc n (if done d 6 5 then (markT n T oi oc) else T) (if done d 6 11 then (markT n T oi oc) else T)) := by simpa [Hid, done] using hj
                  clear hj hi
                  refine wpOp_step rfl (fun K hK => ?_)
                  go_simp
                  exact hK _ _ ⟨by simp [Act.put], HN.out⟩
                | 7, ho, hi, hd =>
                  simp only [List.getElem?_cons_succ, List.getElem?_cons_zero, Option.some.injEq] at ho
                  subst ho
                  have g10 : a.tmps[10]? = some (.pointer (some ⟨ob, 0, none⟩)) := hh.old 10 (by kernel_rfl) rfl
                  clear hh hd
                  have HN : Hid (Blk u ob [.int .i64 ok, .int .i64 oi, .int .i64 os, .bool oh, .bool oc] ∧ Two w u b g b' gs gh gc n (if done d 7 5 then (markT n T oi oc) else T) (if done d 7 11 then (markT n T oi oc) else T)) := by simpa [Hid, done] using hj
                  clear hj hi
                  refine wpOp_step rfl (fun K hK => ?_)
                  go_simp
                  exact hK _ _ ⟨by simp [Act.put], HN.out⟩
                | 8, ho, hi, hd =>
                  simp only [List.getElem?_cons_succ, List.getElem?_cons_zero, Option.some.injEq] at ho
                  subst ho
                  have g117 : a.tmps[117]? = some (.pointer (some ⟨ob, 1, none⟩)) := hh.did 7 _ 117 rfl rfl (hd { on := 7, ground := .data } (by simp) rfl)
                  have cc := hj.1.at 1 rfl
                  clear hh hd
                  have HN : Hid (Blk u ob [.int .i64 ok, .int .i64 oi, .int .i64 os, .bool oh, .bool oc] ∧ Two w u b g b' gs gh gc n (if done d 8 5 then (markT n T oi oc) else T) (if done d 8 11 then (markT n T oi oc) else T)) := by simpa [Hid, done] using hj
                  clear hj hi
                  refine wpOp_step rfl (fun K hK => ?_)
                  go_simp
                  exact hK _ _ ⟨by simp [Act.put], HN.out⟩
                | 9, ho, hi, hd =>
                  simp only [List.getElem?_cons_succ, List.getElem?_cons_zero, Option.some.injEq] at ho
                  subst ho
                  have g10 : a.tmps[10]? = some (.pointer (some ⟨ob, 0, none⟩)) := hh.old 10 (by kernel_rfl) rfl
                  clear hh hd
                  have HN : Hid (Blk u ob [.int .i64 ok, .int .i64 oi, .int .i64 os, .bool oh, .bool oc] ∧ Two w u b g b' gs gh gc n (if done d 9 5 then (markT n T oi oc) else T) (if done d 9 11 then (markT n T oi oc) else T)) := by simpa [Hid, done] using hj
                  clear hj hi
                  refine wpOp_step rfl (fun K hK => ?_)
                  go_simp
                  exact hK _ _ ⟨by simp [Act.put], HN.out⟩
                | 10, ho, hi, hd =>
                  simp only [List.getElem?_cons_succ, List.getElem?_cons_zero, Option.some.injEq] at ho
                  subst ho
                  have g119 : a.tmps[119]? = some (.pointer (some ⟨ob, 4, none⟩)) := hh.did 9 _ 119 rfl rfl (hd { on := 9, ground := .data } (by simp) rfl)
                  have cc := hj.1.at 4 rfl
                  clear hh hd
                  have HN : Hid (Blk u ob [.int .i64 ok, .int .i64 oi, .int .i64 os, .bool oh, .bool oc] ∧ Two w u b g b' gs gh gc n (if done d 10 5 then (markT n T oi oc) else T) (if done d 10 11 then (markT n T oi oc) else T)) := by simpa [Hid, done] using hj
                  clear hj hi
                  refine wpOp_step rfl (fun K hK => ?_)
                  go_simp
                  exact hK _ _ ⟨by simp [Act.put], HN.out⟩
                | 11, ho, hi, hd =>
                  simp only [List.getElem?_cons_succ, List.getElem?_cons_zero, Option.some.injEq] at ho
                  subst ho
                  have g116 : a.tmps[116]? = some (.pointer (some ⟨b', 0, none⟩)) := hh.did 6 _ 116 rfl rfl (hd { on := 6, ground := .data } (by simp) rfl)
                  have g118 : a.tmps[118]? = some (.int .i64 oi) := hh.did 8 _ 118 rfl rfl (hd { on := 8, ground := .data } (by simp) rfl)
                  have g120 : a.tmps[120]? = some (.bool oc) := hh.did 10 _ 120 rfl rfl (hd { on := 10, ground := .data } (by simp) rfl)
                  clear hh hd
                  have CA : Hid (Calls _ _ _ _ _) := rmark_any oi oc u (by have := hj.2.ref; simpa [hi] using this)
                  have HN : Hid (∀ u', RTab u' b' gs gh gc n (markT n T oi oc) → Mut [gs, gh, gc] u u' → Blk u' ob [.int .i64 ok, .int .i64 oi, .int .i64 os, .bool oh, .bool oc] ∧ Two w u' b g b' gs gh gc n (if done d 11 5 then (markT n T oi oc) else T) (if done d 11 11 then (markT n T oi oc) else T)) := fun u' t m => ⟨hj.1.muts m (by simpa using NE.out.2), by have := hj.2.snd t m; simpa [done] using this⟩
                  clear hj hi
                  refine wpOp_step rfl (fun K hK => ?_)
                  go_simp
                  refine CA.out.mono ?_
                  rintro e u' ⟨rfl, ht, m⟩
                  exact hK _ _ ⟨by simp [Act.put], HN.out u' ht m⟩
                | 12, ho, hi, hd =>
                  simp only [List.getElem?_cons_succ, List.getElem?_cons_zero, Option.some.injEq] at ho
                  subst ho
                  have g115 : a.tmps[115]? = some (.bool (markB n T oi oc)) := hh.did 5 _ 115 rfl rfl (hd { on := 5, ground := .data } (by simp) rfl)
                  have g121 : a.tmps[121]? = some (.bool (markB n T oi oc)) := hh.did 11 _ 121 rfl rfl (hd { on := 11, ground := .data } (by simp) rfl)
                  clear hh hd
                  have HN : Hid (Blk u ob [.int .i64 ok, .int .i64 oi, .int .i64 os, .bool oh, .bool oc] ∧ Two w u b g b' gs gh gc n (if done d 12 5 then (markT n T oi oc) else T) (if done d 12 11 then (markT n T oi oc) else T)) := by simpa [Hid, done] using hj
                  clear hj hi
                  refine wpOp_step rfl (fun K hK => ?_)
                  go_simp
                  exact hK _ _ ⟨by simp [Act.put], HN.out⟩
                | 13, ho, hi, hd =>
                  simp only [List.getElem?_cons_succ, List.getElem?_cons_zero, Option.some.injEq] at ho
                  subst ho
                  have g122 : a.tmps[122]? = some (.bool true) := hh.did 12 _ 122 rfl rfl (hd { on := 12, ground := .data } (by simp) rfl)
                  clear hh hd
                  have HN : Hid (Blk u ob [.int .i64 ok, .int .i64 oi, .int .i64 os, .bool oh, .bool oc] ∧ Two w u b g b' gs gh gc n (if done d 13 5 then (markT n T oi oc) else T) (if done d 13 11 then (markT n T oi oc) else T)) := by simpa [Hid, done] using hj
                  clear hj hi
                  refine wpOp_step rfl (fun K hK => ?_)
                  go_simp
                  exact hK _ _ ⟨by simp [Act.put], HN.out⟩
                | k + 14, ho, _, _ => simp at ho
              · intro u d hall hj
                have HE : Hid (Two w u b g b' gs gh gc n (markT n T oi oc) (markT n T oi oc) ∧ Blk u ob [.int .i64 ok, .int .i64 oi, .int .i64 os, .bool oh, .bool oc]) := by
                  have h1 := hall 5 (by decide)
                  have h2 := hall 11 (by decide)
                  have h3 := hj.2
                  rw [h1, h2] at h3
                  exact ⟨h3, hj.1⟩
                clear hall hj
                simp only [List.getD_cons_succ, List.getD_cons_zero]
                go_wp2
                go_meet
                case rel => exact ⟨rfl, _, ⟨HE.out.1, FI.out⟩, HE.out.2⟩
            · have h2' : (ok == 2) = false := by simpa using h2
              clear h2
              go_wp2
              go_meet
              case rel => exact ⟨rfl, _, ⟨HW.out, HF.out⟩, BO.out⟩
      case rest =>
        obtain ⟨rfl, T, HC, BC⟩ := hcut
        go_wp2_with fail
        refine (counts_any _ HC.out.1.tab).mono ?_
        rintro e w5 ⟨rfl, k5⟩
        have H5 : Hid (Two w w5 b g b' gs gh gc n T T) := HC.out.1.still k5
        have B5 : Hid (Blk w5 ob [.int .i64 ok, .int .i64 oi, .int .i64 os, .bool oh, .bool oc]) := BC.out.kept k5
        have F5 : Hid (Fine n T) := HC.out.2
        clear k5 HC BC
        go_wp2_with fail
        refine (rcounts_any _ H5.out.ref (fun j hj => (F5.out.all j hj).1)).mono ?_
        rintro e w6 ⟨rfl, k6⟩
        have H6 : Hid (Two w w6 b g b' gs gh gc n T T) := H5.out.still k6
        have B6 : Hid (Blk w6 ob [.int .i64 ok, .int .i64 oi, .int .i64 os, .bool oh, .bool oc]) := B5.out.kept k6
        clear k6 H5 B5
        have C1 : Hid (∀ z : KW w6, _) := fun z => state_any oi z.it (H6.out.tab.kept z.ok)
        have C2 : Hid (∀ z : KW w6, _) := fun z => rstate_any oi z.it (H6.out.ref.kept z.ok)
        have C3 : Hid (∀ z : KW w6, _) := fun z => head_any oi z.it (H6.out.tab.kept z.ok)
        have C4 : Hid (∀ z : KW w6, _) := fun z => rhead_any oi z.it (H6.out.ref.kept z.ok)
        have C5 : Hid (∀ z : KW w6, _) := fun z => black_any oi true z.it (H6.out.tab.kept z.ok)
        have C6 : Hid (∀ z : KW w6, _) := fun z => rblack_any oi true z.it (H6.out.ref.kept z.ok)
        have C7 : Hid (∀ z : KW w6, _) := fun z => black_any oi false z.it (H6.out.tab.kept z.ok)
        have C8 : Hid (∀ z : KW w6, _) := fun z => rblack_any oi false z.it (H6.out.ref.kept z.ok)
        have d1 := fun z : KW w6 => z.cell B6.out.lt (B6.out.at 1 rfl)
        go_upto_region 21 with fail
        refine wp_region_kept (by kernel_rfl) (by kernel_rfl) fun _ => ?_
        repeat (go_big_quiet_step (first | (go_at_call 19; exact kept_of_same (C1.out _)) | (go_at_call 20; exact kept_of_same (C2.out _)) | (go_at_call 21; exact kept_of_same (C3.out _)) | (go_at_call 22; exact kept_of_same (C4.out _)) | (go_at_call_of 23 (#[Value.pointer (some ⟨b, 0, none⟩), Value.int .i64 oi, Value.bool true]); exact kept_of_same (C5.out _)) | (go_at_call_of 24 (#[Value.pointer (some ⟨b', 0, none⟩), Value.int .i64 oi, Value.bool true]); exact kept_of_same (C6.out _)) | (go_at_call_of 23 (#[Value.pointer (some ⟨b, 0, none⟩), Value.int .i64 oi, Value.bool false]); exact kept_of_same (C7.out _)) | (go_at_call_of 24 (#[Value.pointer (some ⟨b', 0, none⟩), Value.int .i64 oi, Value.bool false]); exact kept_of_same (C8.out _))))
        refine wpQuiet_nil ?_
        rintro _ ⟨z, rfl⟩
        have HZ : Hid (Two w z.it b g b' gs gh gc n T T) := H6.out.still z.ok
        clear d1 C1 C2 C3 C4 C5 C6 C7 C8 H6 B6
        go_wp2
        go_roundg (l - (k + 1))
        all_goals (have := HM.out; try omega)
        all_goals exact ⟨k + 1, _, by go_num, by omega, rfl, HZ.out, F5.out⟩
    · obtain rfl : l = k := by omega
      have K2 : Hid (Kept w wr) := HR.out.kept
      clear HR HM
      go_wp2_with fail
      refine (first_any _).mono ?_
      rintro e w9 ⟨rfl, k9⟩
      have K9 : Hid (Kept w w9) := K2.out.trans k9
      clear k9
      go_wp2
      go_ret
      exact ⟨rfl, K9.out⟩

theorem tintPlays_any (n0 : Int) (x1 : Option Addr) (l1 c1 : Nat) (L1 : Nat → Op7) (w : World) (_lo0 : IntKind.min .i64 ≤ n0) (_hi0 : n0 ≤ IntKind.max .i64) (_h1c : l1 ≤ c1) (hL1 : Ops w x1 l1 L1) :
    Calls Try.prog 3 #[.int .i64 n0, .slice x1 l1 c1] w fun e w' => e = .returned (.bool true) ∧ Kept w w' := by
  by_cases hn : 0 ≤ n0 ∧ n0 ≤ 1024
  · obtain ⟨n, rfl⟩ : ∃ n : Nat, n0 = n := ⟨n0.toNat, by omega⟩
    by_cases ho : (l1 : Int) ≤ 300
    · exact plays_in n x1 l1 c1 L1 w hL1 hn.2 ho
    · exact plays_out n x1 l1 c1 w hn.2 (by omega)
  · exact plays_bad n0 x1 l1 c1 w hn
end Go.Proofs.Ytbipkhcgnimgkaa
