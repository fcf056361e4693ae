/-
  PilePlays: the walk.
-/
import Derived.Test.YtmipllidbgbcgaaFirst14
import Derived.Test.YtmipllidbgbcgaaRPileB
import Derived.Test.YtmipllidbgbcgaaOpen14
import Derived.Test.YtmipllidbgbcgaaPhase
import Derived.Deep.CutBlock
namespace Go.Proofs.Ytmipllidbgbcgaa
open Go.RowKit

/-- Both piles, as they lie in memory. -/
structure Two (w u : World) (tp : Addr) (b b' n : Nat) (v v' : Value) (T : List Int) (z : Bool) (T' : List Int) (z' : Bool) : Prop where
  tab : PT u w.heap.size b n v T z
  ref : RT tp u w.heap.size b' n v' T' z'
  kept : Kept w u
  sep : ∀ k, v.ownBlock = some k → v'.ownBlock ≠ some k
section
variable {w u u' : World} {tp : Addr} {b b' n : Nat} {v v' v2 : Value} {T T' X : List Int} {z z' y : Bool}
theorem Two.still (h : Two w u tp b b' n v v' T z T' z') (k : Kept u u') : Two w u' tp b b' n v v' T z T' z' := ⟨h.tab.kept k, h.ref.kept k, h.kept.trans k, h.sep⟩
theorem Two.ne (h : Two w u tp b b' n v v' T z T' z') : b ≠ b' := h.tab.head.neq h.ref.head (by decide)
theorem Two.fst (h : Two w u tp b b' n v v' T z T' z') (t : PT u' w.heap.size b n v2 X y) (m : Mut (b :: v.ownBlock.toList) u u') (f : Fresh u v v2) : Two w u' tp b b' n v2 v' X y T' z' :=
  ⟨t, h.ref.muts m (by
      have := h.ref.head.nelst h.tab.lst h.ref.ty
      simp
      exact ⟨fun e => h.ne e.symm, this⟩) (fun k hk hd => by
      simp at hd
      rcases hd with rfl | hd
      · exact h.tab.head.nelst h.ref.lst h.tab.ty hk
      · exact h.sep k hd hk), h.kept.muts m (fun k hk => (h.tab.own k hk).1), fun k hk e => by
      rcases f k hk with q | q
      · exact h.sep k q e
      · have := (h.ref.lst.lt k e).2; omega⟩
theorem Two.snd (h : Two w u tp b b' n v v' T z T' z') (t : RT tp u' w.heap.size b' n v2 X y) (m : Mut (b' :: v'.ownBlock.toList) u u') (f : Fresh u v' v2) : Two w u' tp b b' n v v2 T z X y :=
  ⟨h.tab.muts m (by
      have := h.tab.head.nelst h.ref.lst h.tab.ty
      simp
      exact ⟨h.ne, this⟩) (fun k hk hd => by
      simp at hd
      rcases hd with rfl | hd
      · exact h.ref.head.nelst h.tab.lst h.ref.ty hk
      · exact h.sep k hk hd), t, h.kept.muts m (fun k hk => (h.ref.own k hk).1), fun k hk => f.not (h.tab.lst.lt k hk).2 (h.sep k hk)⟩
/-- The block of another struct is none of a pile's. -/
theorem own_out {t : TypeId} {A B : List Value} {ob s : Nat} {C : List Value} (o : Own u ob s C) (h : PTab t A B u w.heap.size b n v T z) (h1 : s ≠ t) (h2 : s ≠ 3) : ob ∉ b :: v.ownBlock.toList := by
  simp
  exact ⟨o.neq h.head h1, o.nelst h.lst h2⟩
end

/-- What is there behind Push, and whether something is lost. -/
def pushT (n : Nat) (T : List Int) (i : Int) : List Int := if T.length < n then T ++ [i] else T
def pushZ (n : Nat) (T : List Int) (z : Bool) : Bool := if T.length < n then z else true
def topI (T : List Int) : Int := T.getLastD 0
def isI (T : List Int) : Bool := decide (T ≠ [])

theorem push_any {base b most : Nat} {v : Value} {T : List Int} {z : Bool} (i : Int) (w : World) (h : PT w base b most v T z) :
    Calls Try.prog 10 #[.pointer (some ⟨b, 0, none⟩), .int .i64 i] w fun e w' => e = .returned (.bool (decide (T.length < most))) ∧ ∃ v', PT w' base b most v' (pushT most T i) (pushZ most T z) ∧ Mut (b :: v.ownBlock.toList) w w' ∧ Fresh w v v' := by
  by_cases hf : T.length < most
  · refine (push_yes i w h hf).mono fun e w' ⟨he, v', a1, a2, a3⟩ => ⟨by simpa [hf] using he, v', by simpa [pushT, pushZ, hf] using a1, a2, a3⟩
  · refine (push_no i w h (by have := h.few; omega)).mono fun e w' ⟨he, a1, a2⟩ => ⟨by simpa [hf] using he, v, by simpa [pushT, pushZ, hf] using a1, a2.wide fun k hk => by simp at hk; simp [hk], Fresh.same _ _⟩
theorem pop_any {base b most : Nat} {v : Value} {T : List Int} {z : Bool} (w : World) (h : PT w base b most v T z) :
    Calls Try.prog 12 #[.pointer (some ⟨b, 0, none⟩)] w fun e w' => e = .returned (.tuple #[.int .i64 (topI T), .bool (isI T)]) ∧ ∃ v', PT w' base b most v' T.dropLast z ∧ Mut (b :: v.ownBlock.toList) w w' ∧ Fresh w v v' := by
  rcases List.eq_nil_or_concat T with rfl | ⟨T0, i, rfl⟩
  · refine (pop_no w h).mono fun e w' ⟨he, hw⟩ => ⟨by simpa [topI, isI] using he, v, by subst hw; simpa using h, by subst hw; exact Mut.refl _ _, Fresh.same _ _⟩
  · rw [List.concat_eq_append] at h ⊢
    refine (pop_yes w h).mono fun e w' ⟨he, v', a1, a2, a3⟩ => ⟨by simpa [topI, isI] using he, v', by simpa using a1, a2, a3⟩

theorem rpush_any {tp : Addr} {base b most : Nat} {v : Value} {T : List Int} {z : Bool} (i : Int) (w : World) (h : RT tp w base b most v T z) :
    Calls Try.prog 11 #[.pointer (some ⟨b, 0, none⟩), .int .i64 i] w fun e w' => e = .returned (.bool (decide (T.length < most))) ∧ ∃ v', RT tp w' base b most v' (pushT most T i) (pushZ most T z) ∧ Mut (b :: v.ownBlock.toList) w w' ∧ Fresh w v v' := by
  by_cases hf : T.length < most
  · refine (rpush_yes i w h hf).mono fun e w' ⟨he, v', a1, a2, a3⟩ => ⟨by simpa [hf] using he, v', by simpa [pushT, pushZ, hf] using a1, a2, a3⟩
  · refine (rpush_no i w h (by have := h.few; omega)).mono fun e w' ⟨he, a1, a2⟩ => ⟨by simpa [hf] using he, v, by simpa [pushT, pushZ, hf] using a1, a2.wide fun k hk => by simp at hk; simp [hk], Fresh.same _ _⟩
theorem rpop_any {tp : Addr} {base b most : Nat} {v : Value} {T : List Int} {z : Bool} (w : World) (h : RT tp w base b most v T z) :
    Calls Try.prog 13 #[.pointer (some ⟨b, 0, none⟩)] w fun e w' => e = .returned (.tuple #[.int .i64 (topI T), .bool (isI T)]) ∧ ∃ v', RT tp w' base b most v' T.dropLast z ∧ Mut (b :: v.ownBlock.toList) w w' ∧ Fresh w v v' := by
  rcases List.eq_nil_or_concat T with rfl | ⟨T0, i, rfl⟩
  · refine (rpop_no w h).mono fun e w' ⟨he, hw⟩ => ⟨by simpa [topI, isI] using he, v, by subst hw; simpa using h, by subst hw; exact Mut.refl _ _, Fresh.same _ _⟩
  · rw [List.concat_eq_append] at h ⊢
    refine (rpop_yes w h).mono fun e w' ⟨he, v', a1, a2, a3⟩ => ⟨by simpa [topI, isI] using he, v', by simpa using a1, a2, a3⟩

/-- What is known in the midst of 'p.Push(..) == x.Push(..)': operations 3 and 7 are the two calls. -/
structure PushJ (w u : World) (tp : Addr) (b b' n : Nat) (T : List Int) (z : Bool) (X : List Int) (y : Bool) (ob : Nat) (C : List Value) (d : Nat → Bool) : Prop where
  own : Own u ob 32 C
  two : ∃ v v', Two w u tp b b' n v v' (if d 3 then X else T) (if d 3 then y else z) (if d 7 then X else T) (if d 7 then y else z)
section
variable {w u u' : World} {tp : Addr} {b b' n ob : Nat} {T X : List Int} {z y : Bool} {C : List Value} {d : Nat → Bool}
theorem PushJ.plain (h : PushJ w u tp b b' n T z X y ob C d) (i : Nat) (h3 : i ≠ 3) (h7 : i ≠ 7) : PushJ w u tp b b' n T z X y ob C (done d i) := by
  have e3 : done d i 3 = d 3 := by simp [done, Ne.symm h3]
  have e7 : done d i 7 = d 7 := by simp [done, Ne.symm h7]
  exact ⟨h.own, by rw [e3, e7]; exact h.two⟩
theorem PushJ.call1 (h : PushJ w u tp b b' n T z X y ob C d) {v v' v2 : Value} (t : Two w u tp b b' n v v' T z (if d 7 then X else T) (if d 7 then y else z)) (s : PT u' w.heap.size b n v2 X y) (m : Mut (b :: v.ownBlock.toList) u u') (f : Fresh u v v2) : PushJ w u' tp b b' n T z X y ob C (done d 3) := by
  have e3 : done d 3 3 = true := by simp [done]
  have e7 : done d 3 7 = d 7 := by simp [done]
  exact ⟨h.own.muts m (own_out h.own t.tab (by decide) (by decide)), v2, v', by rw [e3, e7]; exact t.fst s m f⟩
theorem PushJ.call2 (h : PushJ w u tp b b' n T z X y ob C d) {v v' v2 : Value} (t : Two w u tp b b' n v v' (if d 3 then X else T) (if d 3 then y else z) T z) (s : RT tp u' w.heap.size b' n v2 X y) (m : Mut (b' :: v'.ownBlock.toList) u u') (f : Fresh u v' v2) : PushJ w u' tp b b' n T z X y ob C (done d 7) := by
  have e3 : done d 7 3 = d 3 := by simp [done]
  have e7 : done d 7 7 = true := by simp [done]
  exact ⟨h.own.muts m (own_out h.own t.ref (by decide) (by decide)), v, v2, by rw [e3, e7]; exact t.snd s m f⟩
end

set_option maxHeartbeats 4000000 in
set_option maxRecDepth 20000 in
theorem plays_bad (n : Int) (x : Option Addr) (l c : Nat) (w : World) (hn : ¬ (1 ≤ n ∧ n ≤ 256)) :
    Calls Try.prog 3 #[.int .i64 n, .slice x l c] w fun e w' => e = .returned (.bool true) ∧ Kept w w' := by
  have HN : Hid (∀ w, _) := fun w => new_bad n w hn
  have HR : Hid (∀ w, _) := fun w => rnew_bad n w hn
  clear hn
  go_enter Try.func3, Try.ntmps3
  go_wp2_with fail
  refine (first_any _).mono ?_
  rintro e w1 ⟨rfl, k1⟩
  have K1 : Hid (Kept w w1) := k1
  clear k1
  go_wp2_with fail
  refine (HN.out _).mono ?_
  rintro e w2 ⟨rfl, rfl⟩
  go_wp2_with fail
  refine (HR.out _).mono ?_
  rintro e w3 ⟨rfl, k3⟩
  have K3 : Hid (Kept w w3) := K1.out.trans k3
  clear k3 K1 HN HR
  by_cases ho : 500 < (l : Int)
  · go_wp2_with fail
    refine (first_any _).mono ?_
    rintro e w4 ⟨rfl, k4⟩
    have K4 : Hid (Kept w w4) := K3.out.trans k4
    clear k4
    go_wp2
    go_ret
    exact ⟨rfl, K4.out⟩
  · go_wp2
    refine wp_loop_rounds 1 ?_
    rw [rounds_succ]
    go_wp2_with fail
    refine (first_any _).mono ?_
    rintro e w4 ⟨rfl, k4⟩
    have K4 : Hid (Kept w w4) := K3.out.trans k4
    clear k4
    go_wp2
    go_ret
    exact ⟨rfl, K4.out⟩

set_option maxHeartbeats 4000000 in
set_option maxRecDepth 20000 in
theorem plays_out (n : Nat) (x : Option Addr) (l c : Nat) (w : World) (h1 : 1 ≤ (n : Int)) (hn : (n : Int) ≤ 256) (ho : 500 < (l : Int)) :
    Calls Try.prog 3 #[.int .i64 n, .slice x l c] w fun e w' => e = .returned (.bool true) ∧ Kept w w' := by
  go_enter Try.func3, Try.ntmps3
  go_wp2_with fail
  refine (first_any _).mono ?_
  rintro e w1 ⟨rfl, k1⟩
  have K1 : Hid (Kept w w1) := k1
  clear k1
  go_wp2_with fail
  refine (new_any n _ h1 hn K1.out.size).mono ?_
  rintro e w2 ⟨b, rfl, _, k2, _⟩
  have K2 : Hid (Kept w w2) := K1.out.trans k2
  clear k2 K1
  go_wp2_with fail
  refine (rnew_any n _ h1 hn K2.out.size).mono ?_
  rintro e w3 ⟨tp, b', rfl, _, k3, _⟩
  have K3 : Hid (Kept w w3) := K2.out.trans k3
  clear k3 K2
  go_wp2_with fail
  refine (first_any _).mono ?_
  rintro e w4 ⟨rfl, k4⟩
  have K4 : Hid (Kept w w4) := K3.out.trans k4
  clear k4
  go_wp2
  go_ret
  exact ⟨rfl, K4.out⟩

set_option maxHeartbeats 8000000 in
set_option maxRecDepth 20000 in
theorem plays_in (n : Nat) (x : Option Addr) (l c : Nat) (L : Nat → Op14) (w : World) (hX : Ops w x l L) (h1 : 1 ≤ (n : Int)) (hn : (n : Int) ≤ 256) (hl : (l : Int) ≤ 500) :
    Calls Try.prog 3 #[.int .i64 n, .slice x l c] w fun e w' => e = .returned (.bool true) ∧ Kept w w' := by
  have HX : Hid (Ops w x l L) := hX
  clear hX
  go_enter Try.func3, Try.ntmps3
  go_wp2_with fail
  refine (first_any _).mono ?_
  rintro e w1 ⟨rfl, k1⟩
  have K1 : Hid (Kept w w1) := k1
  clear k1
  go_wp2_with fail
  refine (new_any n _ h1 hn K1.out.size).mono ?_
  rintro e w2 ⟨b, rfl, t2, k2, _⟩
  have H2 : Hid (PT w2 w.heap.size b n (.slice none 0 0) [] false ∧ Kept w w2) := ⟨t2, K1.out.trans k2⟩
  clear t2 k2 K1
  go_wp2_with fail
  refine (rnew_any n _ h1 hn H2.out.2.size).mono ?_
  rintro e w3 ⟨tp, b', rfl, t3, k3, _⟩
  have H3 : Hid (Two w w3 tp b b' n (.slice none 0 0) (.slice none 0 0) [] false [] false) := ⟨H2.out.1.kept k3, t3, H2.out.2.trans k3, fun k hk => (by cases hk)⟩
  clear t3 k3 H2
  go_wp2
  go_loopg [9] l (fun m i wr' => ∃ (j : Nat) (T : List Int) (z : Bool) (v v' : Value), i = .int .i64 j ∧ j ≤ l ∧ m = l - j ∧ Hid (Two w wr' tp b b' n v v' T z T z))
  case atStart => exact ⟨0, _, _, _, _, rfl, by omega, by omega, H3.out⟩
  case round =>
    obtain ⟨j, T, z, v, v', rfl, hj, hm, HR⟩ := hrel
    have HM : Hid _ := hm
    clear hm H3
    by_cases hlt : j < l
    · obtain ⟨bx, ox, rfl, hbx, hcx⟩ := HX.out (by omega)
      have e0 : wr.cell? ⟨bx, ox + j * 2, none⟩ = _ := (HR.out.kept.cell hbx).trans (hcx j hlt 0 _ (by omega) rfl)
      have e1 : wr.cell? ⟨bx, ox + j * 2 + 1, none⟩ = _ := (HR.out.kept.cell hbx).trans (hcx j hlt 1 _ (by omega) rfl)
      clear hcx hbx HX
      generalize L j = o at *
      obtain ⟨ok, on⟩ := o
      simp only at e0 e1
      go_upto_block 2 with fail
      clear e0 e1
      generalize hW : wr.alloc _ = W
      have BO : Hid (Own W wr.heap.size 32 [.int .i64 ok, .int .i64 on]) := by rw [← hW]; exact Own.new wr _ _
      have HW : Hid (Two w W tp b b' n v v' T z T z) := by rw [← hW]; exact HR.out.still ((Kept.refl wr).alloc _ _)
      clear hW HR
      generalize wr.heap.size = ob at *
      go_cut [11, 12, 13, 14, 15] from 72 to 108 (fun q _ _ _ _ wc => q = .bool true ∧ ∃ (T : List Int) (z : Bool) (v v' : Value), Hid (Two w wc tp b b' n v v' T z T z))
      case first =>
        by_cases h0 : ok = 0
        · have h0' : (ok == 0) = true := by simpa using h0
          clear h0
          obtain ⟨X, hPX⟩ : ∃ X, pushT n T on = X := ⟨_, rfl⟩
          obtain ⟨y, hPY⟩ : ∃ y, pushZ n T z = y := ⟨_, rfl⟩
          obtain ⟨fit, hFit⟩ : ∃ fit, decide (T.length < n) = fit := ⟨_, rfl⟩
          have HPX : Hid (pushT n T on = X) := hPX
          have HPY : Hid (pushZ n T z = y) := hPY
          have HFit : Hid (decide (T.length < n) = fit) := hFit
          clear hPX hPY hFit
          go_upto_region 14 with fail
          refine wp_region_phase [(.pointer (some ⟨b, 0, none⟩)), (.pointer (some ⟨ob, 1, none⟩)), (.int .i64 on), (.bool fit), (.pointer (some ⟨b', 0, none⟩)), (.pointer (some ⟨ob, 1, none⟩)), (.int .i64 on), (.bool fit), (.bool true), (.bool true)] [(11, 9), (74, 0), (75, 1), (76, 2), (77, 3), (78, 4), (79, 5), (80, 6), (81, 7), (82, 8)] [_, _, _, _, _, _, _, _, _, _, _, _, _, _, _, _, _, _, _, _, _, _, _, _, _, _, _, _, _, _, _, _, _, _, _, _, _, _, _, _, _, _, _, _, _, _, _, _, _, _, _, _, _, _, _, _, _, _, _, _, _, _, _, _, _, _, _, _, _, _, _, _, _, _, _, _, _, _, _, _, _, _, _, _, _, _, _, _, _, _, _, _, _, _, _, _, _, _, _, _, _, _, _, _, _, _, _, _, _, _, _, _, _, _, _, _, _, _, _, _, _, _, _, _, _, _, _, _, _] (fun d u => PushJ w u tp b b' n T z X y ob [.int .i64 ok, .int .i64 on] d) (by kernel_rfl) (by kernel_rfl) (by kernel_rfl) (by kernel_rfl) rfl ?_ ?_ ?_
          · exact ⟨BO.out.kept (Kept.refl _).drew, v, v', by simpa using HW.out.still (Kept.refl _).drew⟩
          · intro i1 o ho a1 d u hh hj hi hd
            match i1, ho, hi, hd with
            | 0, ho, hi, hd =>
              simp only [List.getElem?_cons_zero, Option.some.injEq] at ho
              subst ho
              have g5 : a1.tmps[5]? = some (.pointer (some ⟨b, 0, none⟩)) := hh.old 5 (by kernel_rfl) rfl
              clear hh hd
              have HN : Hid (PushJ w u tp b b' n T z X y ob [.int .i64 ok, .int .i64 on] (done d 0)) := hj.plain 0 (by decide) (by decide)
              clear hj hi
              refine wpOp_step rfl (fun K hK => ?_)
              go_simp
              exact hK _ _ ⟨by simp [Act.put], HN.out⟩
            | 1, ho, hi, hd =>
              simp only [List.getElem?_cons_succ, List.getElem?_cons_zero, Option.some.injEq] at ho
              subst ho
              have g10 : a1.tmps[10]? = some (.pointer (some ⟨ob, 0, none⟩)) := hh.old 10 (by kernel_rfl) rfl
              clear hh hd
              have HN : Hid (PushJ w u tp b b' n T z X y ob [.int .i64 ok, .int .i64 on] (done d 1)) := hj.plain 1 (by decide) (by decide)
              clear hj hi
              refine wpOp_step rfl (fun K hK => ?_)
              go_simp
              exact hK _ _ ⟨by simp [Act.put], HN.out⟩
            | 2, ho, hi, hd =>
              simp only [List.getElem?_cons_succ, List.getElem?_cons_zero, Option.some.injEq] at ho
              subst ho
              have g75 : a1.tmps[75]? = some (.pointer (some ⟨ob, 1, none⟩)) := hh.did 1 _ 75 rfl rfl (hd { on := 1, ground := .data } (by simp) rfl)
              have cc := hj.own.blk.at 1 rfl
              clear hh hd
              have HN : Hid (PushJ w u tp b b' n T z X y ob [.int .i64 ok, .int .i64 on] (done d 2)) := hj.plain 2 (by decide) (by decide)
              clear hj hi
              refine wpOp_step rfl (fun K hK => ?_)
              go_simp
              exact hK _ _ ⟨by simp [Act.put], HN.out⟩
            | 3, ho, hi, hd =>
              simp only [List.getElem?_cons_succ, List.getElem?_cons_zero, Option.some.injEq] at ho
              subst ho
              have g74 : a1.tmps[74]? = some (.pointer (some ⟨b, 0, none⟩)) := hh.did 0 _ 74 rfl rfl (hd { on := 0, ground := .data } (by simp) rfl)
              have g76 : a1.tmps[76]? = some (.int .i64 on) := hh.did 2 _ 76 rfl rfl (hd { on := 2, ground := .data } (by simp) rfl)
              clear hh hd
              obtain ⟨v, v', t⟩ := hj.two
              simp only [hi, Bool.false_eq_true, if_false] at t
              have CA : Hid (Calls _ _ _ _ _) := push_any on u t.tab
              have HN : Hid (∀ u' v2, PT u' w.heap.size b n v2 (pushT n T on) (pushZ n T z) → Mut (b :: v.ownBlock.toList) u u' → Fresh u v v2 → PushJ w u' tp b b' n T z X y ob [.int .i64 ok, .int .i64 on] (done d 3)) := fun u' v2 s m f => hj.call1 t (by rw [← HPX.out, ← HPY.out]; exact s) m f
              rw [HFit.out] at CA
              clear hj hi t
              refine wpOp_step rfl (fun K hK => ?_)
              go_simp
              refine CA.out.mono ?_
              rintro e u' ⟨rfl, v2, hs, m, f⟩
              exact hK _ _ ⟨by simp [Act.put], HN.out u' v2 hs m f⟩
            | 4, ho, hi, hd =>
              simp only [List.getElem?_cons_succ, List.getElem?_cons_zero, Option.some.injEq] at ho
              subst ho
              have g7 : a1.tmps[7]? = some (.pointer (some ⟨b', 0, none⟩)) := hh.old 7 (by kernel_rfl) rfl
              clear hh hd
              have HN : Hid (PushJ w u tp b b' n T z X y ob [.int .i64 ok, .int .i64 on] (done d 4)) := hj.plain 4 (by decide) (by decide)
              clear hj hi
              refine wpOp_step rfl (fun K hK => ?_)
              go_simp
              exact hK _ _ ⟨by simp [Act.put], HN.out⟩
            | 5, ho, hi, hd =>
              simp only [List.getElem?_cons_succ, List.getElem?_cons_zero, Option.some.injEq] at ho
              subst ho
              have g10 : a1.tmps[10]? = some (.pointer (some ⟨ob, 0, none⟩)) := hh.old 10 (by kernel_rfl) rfl
              clear hh hd
              have HN : Hid (PushJ w u tp b b' n T z X y ob [.int .i64 ok, .int .i64 on] (done d 5)) := hj.plain 5 (by decide) (by decide)
              clear hj hi
              refine wpOp_step rfl (fun K hK => ?_)
              go_simp
              exact hK _ _ ⟨by simp [Act.put], HN.out⟩
            | 6, ho, hi, hd =>
              simp only [List.getElem?_cons_succ, List.getElem?_cons_zero, Option.some.injEq] at ho
              subst ho
              have g79 : a1.tmps[79]? = some (.pointer (some ⟨ob, 1, none⟩)) := hh.did 5 _ 79 rfl rfl (hd { on := 5, ground := .data } (by simp) rfl)
              have cc := hj.own.blk.at 1 rfl
              clear hh hd
              have HN : Hid (PushJ w u tp b b' n T z X y ob [.int .i64 ok, .int .i64 on] (done d 6)) := hj.plain 6 (by decide) (by decide)
              clear hj hi
              refine wpOp_step rfl (fun K hK => ?_)
              go_simp
              exact hK _ _ ⟨by simp [Act.put], HN.out⟩
            | 7, ho, hi, hd =>
              simp only [List.getElem?_cons_succ, List.getElem?_cons_zero, Option.some.injEq] at ho
              subst ho
              have g78 : a1.tmps[78]? = some (.pointer (some ⟨b', 0, none⟩)) := hh.did 4 _ 78 rfl rfl (hd { on := 4, ground := .data } (by simp) rfl)
              have g80 : a1.tmps[80]? = some (.int .i64 on) := hh.did 6 _ 80 rfl rfl (hd { on := 6, ground := .data } (by simp) rfl)
              clear hh hd
              obtain ⟨v, v', t⟩ := hj.two
              simp only [hi, Bool.false_eq_true, if_false] at t
              have CA : Hid (Calls _ _ _ _ _) := rpush_any on u t.ref
              have HN : Hid (∀ u' v2, RT tp u' w.heap.size b' n v2 (pushT n T on) (pushZ n T z) → Mut (b' :: v'.ownBlock.toList) u u' → Fresh u v' v2 → PushJ w u' tp b b' n T z X y ob [.int .i64 ok, .int .i64 on] (done d 7)) := fun u' v2 s m f => hj.call2 t (by rw [← HPX.out, ← HPY.out]; exact s) m f
              rw [HFit.out] at CA
              clear hj hi t
              refine wpOp_step rfl (fun K hK => ?_)
              go_simp
              refine CA.out.mono ?_
              rintro e u' ⟨rfl, v2, hs, m, f⟩
              exact hK _ _ ⟨by simp [Act.put], HN.out u' v2 hs m f⟩
            | 8, ho, hi, hd =>
              simp only [List.getElem?_cons_succ, List.getElem?_cons_zero, Option.some.injEq] at ho
              subst ho
              have g77 : a1.tmps[77]? = some (.bool fit) := hh.did 3 _ 77 rfl rfl (hd { on := 3, ground := .data } (by simp) rfl)
              have g81 : a1.tmps[81]? = some (.bool fit) := hh.did 7 _ 81 rfl rfl (hd { on := 7, ground := .data } (by simp) rfl)
              have zz : (fit == fit) = true := by simp
              clear hh hd
              have HN : Hid (PushJ w u tp b b' n T z X y ob [.int .i64 ok, .int .i64 on] (done d 8)) := hj.plain 8 (by decide) (by decide)
              clear hj hi
              refine wpOp_step rfl (fun K hK => ?_)
              go_simp
              exact hK _ _ ⟨by simp [Act.put], HN.out⟩
            | 9, ho, hi, hd =>
              simp only [List.getElem?_cons_succ, List.getElem?_cons_zero, Option.some.injEq] at ho
              subst ho
              have g82 : a1.tmps[82]? = some (.bool true) := hh.did 8 _ 82 rfl rfl (hd { on := 8, ground := .data } (by simp) rfl)
              clear hh hd
              have HN : Hid (PushJ w u tp b b' n T z X y ob [.int .i64 ok, .int .i64 on] (done d 9)) := hj.plain 9 (by decide) (by decide)
              clear hj hi
              refine wpOp_step rfl (fun K hK => ?_)
              go_simp
              exact hK _ _ ⟨by simp [Act.put], HN.out⟩
            | n + 10, ho, hi, hd => simp at ho
          · intro u d hall hj
            obtain ⟨v2, v3, t⟩ := hj.two
            have h1 := hall 3 (by decide)
            have h2 := hall 7 (by decide)
            rw [h1, h2] at t
            have HE : Hid (Two w u tp b b' n v2 v3 X y X y) := t
            clear hall hj t h1 h2
            simp only [List.getD_cons_succ, List.getD_cons_zero]
            go_wp2
            go_meet
            case rel => exact ⟨rfl, _, _, _, _, HE.out⟩
        · by_cases h1' : ok = 1
          · have h0' : (ok == 0) = false := by simpa using h0
            have h2' : (ok == 1) = true := by simpa using h1'
            clear h0 h1'
            go_wp2_with fail
            refine (pop_any _ HW.out.tab).mono ?_
            rintro e w4 ⟨rfl, v4, s4, m4, f4⟩
            have H4 : Hid (Two w w4 tp b b' n v4 v' T.dropLast z T z) := HW.out.fst s4 m4 f4
            clear s4 m4 f4 HW BO
            go_wp2_with fail
            refine (rpop_any _ H4.out.ref).mono ?_
            rintro e w5 ⟨rfl, v5, s5, m5, f5⟩
            have H5 : Hid (Two w w5 tp b b' n v4 v5 T.dropLast z T.dropLast z) := H4.out.snd s5 m5 f5
            clear s5 m5 f5 H4
            generalize topI T = ti at *
            generalize isI T = td at *
            have q1 : (ti == ti) = true := by simp
            have q2 : (td == td) = true := by simp
            go_wp2
            go_meet
            case rel => exact ⟨rfl, _, _, _, _, H5.out⟩
          · by_cases h2' : ok = 2
            · have g0 : (ok == 0) = false := by simpa using h0
              have g1 : (ok == 1) = false := by simpa using h1'
              have g2 : (ok == 2) = true := by simpa using h2'
              clear h0 h1' h2'
              go_wp2_with fail
              refine (found_any _ HW.out.tab).mono ?_
              rintro e w4 ⟨rfl, s4, m4⟩
              have H4 : Hid (Two w w4 tp b b' n v v' T false T z) := HW.out.fst s4 (m4.wide fun k hk => by simp at hk; simp [hk]) (Fresh.same _ _)
              clear s4 m4 HW BO
              go_wp2_with fail
              refine (rfound_any _ H4.out.ref).mono ?_
              rintro e w5 ⟨rfl, s5, m5⟩
              have H5 : Hid (Two w w5 tp b b' n v v' T false T false) := H4.out.snd s5 (m5.wide fun k hk => by simp at hk; simp [hk]) (Fresh.same _ _)
              clear s5 m5 H4
              go_wp2
              go_meet
              case rel => exact ⟨rfl, _, _, _, _, H5.out⟩
            · have g0 : (ok == 0) = false := by simpa using h0
              have g1 : (ok == 1) = false := by simpa using h1'
              have g2 : (ok == 2) = false := by simpa using h2'
              clear h0 h1' h2'
              go_wp2
              go_meet
              case rel => exact ⟨rfl, _, _, _, _, HW.out⟩
      case rest =>
        clear HW BO
        obtain ⟨rfl, T, z, v, v', HC⟩ := hcut
        obtain ⟨yv, dv, rfl⟩ := HC.out.tab.lst.form
        obtain ⟨yr, dr, rfl⟩ := HC.out.ref.lst.form
        have hT1 := HC.out.tab.few
        have C1 : Hid (∀ q : KW wc, _) := fun q => len_any q.it (HC.out.tab.kept q.ok)
        have C2 : Hid (∀ q : KW wc, _) := fun q => lost_any q.it (HC.out.tab.kept q.ok)
        have C3 : Hid (∀ q : KW wc, _) := fun q => rlost_any q.it (HC.out.ref.kept q.ok)
        have d1 := fun q : KW wc => q.cell HC.out.ref.ltb HC.out.ref.r2
        have z1 : ((T.length : Int) != (T.length : Int)) = false := by simp
        have z2 : (z != z) = false := by simp
        go_upto_region 22 with fail
        refine wp_region_kept (by kernel_rfl) (by kernel_rfl) fun _ => ?_
        repeat (go_big_quiet_step (first | (go_at_call 18; exact kept_of_same (C1.out _)) | (go_at_call 16; exact kept_of_same (C2.out _)) | (go_at_call 17; exact kept_of_same (C3.out _))))
        refine wpQuiet_nil ?_
        rintro _ ⟨q, rfl⟩
        have HZ : Hid (Two w q.it tp b b' n (.slice yv T.length dv) (.slice yr T.length dr) T z T z) := HC.out.still q.ok
        clear d1 C1 C2 C3 HC
        go_wp2
        go_roundg (l - (j + 1))
        all_goals (have := HM.out; try omega)
        all_goals exact ⟨j + 1, _, _, _, _, by go_num, by omega, rfl, HZ.out⟩
    · obtain rfl : l = j := by omega
      have K2 : Hid (Kept w wr) := HR.out.kept
      clear HR HM
      go_wp2_with fail
      refine (first_any _).mono ?_
      rintro e w9 ⟨rfl, k9⟩
      have K9 : Hid (Kept w w9) := K2.out.trans k9
      clear k9
      go_wp2
      go_ret
      exact ⟨rfl, K9.out⟩

theorem pilePlays_any (n0 : Int) (x1 : Option Addr) (l1 c1 : Nat) (L1 : Nat → Op14) (w : World) (_lo0 : IntKind.min .i64 ≤ n0) (_hi0 : n0 ≤ IntKind.max .i64) (_h1c : l1 ≤ c1) (hL1 : Ops w x1 l1 L1) :
    Calls Try.prog 3 #[.int .i64 n0, .slice x1 l1 c1] w fun e w' => e = .returned (.bool true) ∧ Kept w w' := by
  by_cases hn : 1 ≤ n0 ∧ n0 ≤ 256
  · obtain ⟨n, rfl⟩ : ∃ n : Nat, n0 = n := ⟨n0.toNat, by omega⟩
    by_cases ho : 500 < (l1 : Int)
    · exact plays_out n x1 l1 c1 w hn.1 hn.2 ho
    · exact plays_in n x1 l1 c1 L1 w hL1 hn.1 hn.2 (by omega)
  · exact plays_bad n0 x1 l1 c1 w hn
end Go.Proofs.Ytmipllidbgbcgaa
