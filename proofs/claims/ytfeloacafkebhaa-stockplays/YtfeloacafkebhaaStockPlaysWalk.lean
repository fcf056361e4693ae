/-
  StockPlays: the walk.
-/
import Derived.Test.YtfeloacafkebhaaStockOrderWalk
import Derived.Test.YtfeloacafkebhaaPhase
namespace Go.Proofs.Ytfeloacafkebhaa
open Go.RowKit

/-- Both stocks, as they lie in memory. -/
structure Two (w u : World) (b b' n : Nat) (v v' : Value) (T T' : List Int) : Prop where
  tab : STab 46 u w.heap.size b n v T
  ref : STab 34 u w.heap.size b' n v' T'
  kept : Kept w u
  sep : ∀ k, v.ownBlock = some k → v'.ownBlock ≠ some k
section
variable {w u u' : World} {b b' n : Nat} {v v' v2 : Value} {T T' X : List Int}
theorem Two.still (h : Two w u b b' n v v' T T') (k : Kept u u') : Two w u' b b' n v v' T T' := ⟨h.tab.kept k, h.ref.kept k, h.kept.trans k, h.sep⟩
theorem Two.ne (h : Two w u b b' n v v' T T') : b ≠ b' := h.tab.head.neq h.ref.head (by decide)
theorem Two.fst (h : Two w u b b' n v v' T T') (t : STab 46 u' w.heap.size b n v2 X) (m : Mut (b :: v.ownBlock.toList) u u') (f : Fresh u v v2) : Two w u' b b' n v2 v' X T' :=
  ⟨t, h.ref.muts m (by
      have := h.ne
      have := h.ref.head.nelst h.tab.lst h.ref.ty
      simp
      exact ⟨fun e => h.ne e.symm, this⟩) (fun k hk hd => by
      simp at hd
      rcases hd with rfl | hd
      · exact h.tab.head.nelst h.ref.lst h.tab.ty hk
      · exact h.sep k hd hk), h.kept.muts m (fun k hk => (h.tab.own k hk).1), fun k hk e => by
      rcases f k hk with q | q
      · exact h.sep k q e
      · have := (h.ref.lst.lt k e).2; omega⟩
theorem Two.snd (h : Two w u b b' n v v' T T') (t : STab 34 u' w.heap.size b' n v2 X) (m : Mut (b' :: v'.ownBlock.toList) u u') (f : Fresh u v' v2) : Two w u' b b' n v v2 T X :=
  ⟨h.tab.muts m (by
      have := h.tab.head.nelst h.ref.lst h.tab.ty
      simp
      exact ⟨h.ne, this⟩) (fun k hk hd => by
      simp at hd
      rcases hd with rfl | hd
      · exact h.ref.head.nelst h.tab.lst h.ref.ty hk
      · exact h.sep k hk hd), t, h.kept.muts m (fun k hk => (h.ref.own k hk).1), fun k hk => f.not (h.tab.lst.lt k hk).2 (h.sep k hk)⟩
/-- The block of another struct is none of a stock's. -/
theorem own_out {t : TypeId} {ob s : Nat} {C : List Value} (o : Own u ob s C) (h : STab t u w.heap.size b n v T) (h1 : s ≠ t) (h2 : s ≠ 3) : ob ∉ b :: v.ownBlock.toList := by
  simp
  exact ⟨o.neq h.head h1, o.nelst h.lst h2⟩
end

/-- What is kept behind Put. -/
def putL (n : Nat) (T N : List Int) : List Int := if T.length + N.length ≤ n then T ++ N else T

theorem put_any {base b most : Nat} {v : Value} {T : List Int} {x : Option Addr} {c : Nat} {N : List Int} (w : World) (h : STab 46 w base b most v T) (hx : Rdi w x N) :
    Calls Try.prog 12 #[.pointer (some ⟨b, 0, none⟩), .slice x N.length c] w fun e w' => e = .returned (.bool (decide (T.length + N.length ≤ most))) ∧ ∃ v', STab 46 w' base b most v' (putL most T N) ∧ Mut (b :: v.ownBlock.toList) w w' ∧ Fresh w v v' := by
  by_cases hf : T.length + N.length ≤ most
  · refine (put_yes w h hx hf).mono fun e w' ⟨he, v', a1, a2, a3⟩ => ⟨by simpa [hf] using he, v', by simpa [putL, hf] using a1, a2, a3⟩
  · refine (put_no w h hf).mono fun e w' ⟨he, k⟩ => ⟨by simpa [hf] using he, v, by simpa [putL, hf] using h.kept k, k.mut, Fresh.same _ _⟩
theorem rput_any {base b most : Nat} {v : Value} {T : List Int} {x : Option Addr} {c : Nat} {N : List Int} (w : World) (h : STab 34 w base b most v T) (hx : Rdi w x N) :
    Calls Try.prog 13 #[.pointer (some ⟨b, 0, none⟩), .slice x N.length c] w fun e w' => e = .returned (.bool (decide (T.length + N.length ≤ most))) ∧ ∃ v', STab 34 w' base b most v' (putL most T N) ∧ Mut (b :: v.ownBlock.toList) w w' ∧ Fresh w v v' := by
  by_cases hf : T.length + N.length ≤ most
  · refine (rput_yes w h hx hf).mono fun e w' ⟨he, v', a1, a2, a3⟩ => ⟨by simpa [hf] using he, v', by simpa [putL, hf] using a1, a2, a3⟩
  · refine (rput_no w h hf).mono fun e w' ⟨he, k⟩ => ⟨by simpa [hf] using he, v, by simpa [putL, hf] using h.kept k, k.mut, Fresh.same _ _⟩

/-- What is known in the midst of 's.Put(..) == x.Put(..)': operations 3 and 7 are the two calls. -/
structure PutJ (w u : World) (b b' n : Nat) (T X N : List Int) (ob : Nat) (ol : Option Addr) (C : List Value) (d : Nat → Bool) : Prop where
  own : Own u ob 26 C
  rd : Rdi w ol N
  two : ∃ v v', Two w u b b' n v v' (if d 3 then X else T) (if d 7 then X else T)
section
variable {w u u' : World} {b b' n ob : Nat} {T X N : List Int} {ol : Option Addr} {C : List Value} {d : Nat → Bool}
theorem PutJ.plain (h : PutJ w u b b' n T X N ob ol C d) (i : Nat) (h3 : i ≠ 3) (h7 : i ≠ 7) : PutJ w u b b' n T X N ob ol C (done d i) := by
  have e3 : done d i 3 = d 3 := by simp [done, Ne.symm h3]
  have e7 : done d i 7 = d 7 := by simp [done, Ne.symm h7]
  exact ⟨h.own, h.rd, by rw [e3, e7]; exact h.two⟩
theorem PutJ.call1 (h : PutJ w u b b' n T X N ob ol C d) {v v' v2 : Value} (t : Two w u b b' n v v' T (if d 7 then X else T)) (s : STab 46 u' w.heap.size b n v2 X) (m : Mut (b :: v.ownBlock.toList) u u') (f : Fresh u v v2) : PutJ w u' b b' n T X N ob ol C (done d 3) := by
  have e3 : done d 3 3 = true := by simp [done]
  have e7 : done d 3 7 = d 7 := by simp [done]
  exact ⟨h.own.muts m (own_out h.own t.tab (by decide) (by decide)), h.rd, v2, v', by rw [e3, e7]; exact t.fst s m f⟩
theorem PutJ.call2 (h : PutJ w u b b' n T X N ob ol C d) {v v' v2 : Value} (t : Two w u b b' n v v' (if d 3 then X else T) T) (s : STab 34 u' w.heap.size b' n v2 X) (m : Mut (b' :: v'.ownBlock.toList) u u') (f : Fresh u v' v2) : PutJ w u' b b' n T X N ob ol C (done d 7) := by
  have e3 : done d 7 3 = d 3 := by simp [done]
  have e7 : done d 7 7 = true := by simp [done]
  exact ⟨h.own.muts m (own_out h.own t.ref (by decide) (by decide)), h.rd, v, v2, by rw [e3, e7]; exact t.snd s m f⟩
end

set_option maxHeartbeats 8000000 in
set_option maxRecDepth 20000 in
theorem plays_bad (n : Int) (x : Option Addr) (l c : Nat) (L : Nat → Op9) (sx : Option Addr) (sl sc : Nat) (SL : Nat → Int) (w : World) (hX : Ops w x l L) (hS : Rdf w sx sl SL) (hSB : ∀ i, i < sl → IntKind.min .i64 ≤ SL i ∧ SL i ≤ IntKind.max .i64) (hn : ¬ (0 ≤ n ∧ n ≤ 8)) :
    Calls Try.prog 3 #[.int .i64 n, .slice x l c, .slice sx sl sc] w fun e w' => e = .returned (.bool true) ∧ Kept w w' := by
  have HN : Hid (∀ w, _) := fun w => new_bad n w hn
  have HNn : Hid (n < 0 ∨ (0 ≤ n ∧ 8 < n)) := by
    show n < 0 ∨ (0 ≤ n ∧ 8 < n)
    omega
  clear hn
  have HX : Hid (Ops w x l L) := hX
  have HSx : Hid (Rdf w sx sl SL ∧ ∀ i, i < sl → IntKind.min .i64 ≤ SL i ∧ SL i ≤ IntKind.max .i64) := ⟨hS, hSB⟩
  clear hX hS hSB
  go_enter Try.func3, Try.ntmps3
  go_wp2_with fail
  refine (first_any _).mono ?_
  rintro e w2 ⟨rfl, k1⟩
  have K1 : Hid (Kept w w2) := k1
  clear k1
  go_upto_block 0 with fail
  go_cut [7, 8] from 21 to 39 (fun vn _ wc => (∃ A : Nat, vn = .int .i64 A) ∧ w2 = wc)
  case first =>
    go_wp2_with fail
    go_loopg [7, 8] l (fun m vn i wr => ∃ j A : Nat, i = .int .i64 j ∧ vn = .int .i64 A ∧ j ≤ l ∧ m = l - j ∧ j ≤ 200 ∧ A ≤ 2001 * j ∧ w2 = wr)
    case atStart => exact ⟨0, 0, rfl, rfl, by omega, by omega, by omega, by omega, rfl⟩
    case round =>
      obtain ⟨j, A, rfl, rfl, hj, hm, hj2, hA, rfl⟩ := hrel
      have HM : Hid _ := hm
      clear hm
      by_cases hlt : j < l
      · by_cases h2 : (j : Int) < 200
        · obtain ⟨bx, ox, rfl, hbx, hcx⟩ := HX.out.1 (by omega)
          have e2 : w2.cell? ⟨bx, ox + j * 3 + 2, none⟩ = _ := (K1.out.cell hbx).trans (hcx j hlt 2 _ (by omega) rfl)
          clear hcx hbx HX
          generalize L j = o at *
          obtain ⟨ok, on, ol, oc, oT⟩ := o
          simp only at e2
          obtain ⟨q, hq, hq2⟩ : ∃ q : Nat, (if (2001 : Int) < (oT.length : Int) then 2001 else (oT.length : Int)) = (q : Int) ∧ q ≤ 2001 := ⟨min oT.length 2001, by split <;> omega, by omega⟩
          generalize oT.length = om at *
          go_wp2
          go_roundg (gk - 1)
          all_goals (have := HM.out; try omega)
          exact ⟨j + 1, A + q, by go_num, by go_num, by omega, by omega, by omega, by omega, rfl⟩
        · go_wp2
          go_meet
          case rel => exact ⟨⟨A, rfl⟩, rfl⟩
      · go_wp2
        go_meet
        case rel => exact ⟨⟨A, rfl⟩, rfl⟩
  case rest =>
    obtain ⟨⟨A, rfl⟩, rfl⟩ := hcut
    by_cases ho : (l : Int) > 200 ∨ (¬ (l : Int) > 200 ∧ (A : Int) > 2000) ∨ (¬ (l : Int) > 200 ∧ ¬ (A : Int) > 2000 ∧ (sl : Int) > 2000)
    · rcases ho with h | ⟨h1, h⟩ | ⟨h1, h2, h⟩
      all_goals go_wp2_with fail
      all_goals (refine (first_any _).mono ?_; rintro e w3 ⟨rfl, k3⟩)
      all_goals (have K3 : Hid (Kept w w3) := K1.out.trans k3; clear k3)
      all_goals go_wp2
      all_goals go_ret
      all_goals exact ⟨rfl, K3.out⟩
    · have hl : (l : Int) ≤ 200 := by omega
      have hA : (A : Int) ≤ 2000 := by omega
      have hsl : (sl : Int) ≤ 2000 := by omega
      clear ho
      have HN2 := HN.out w2
      clear HN
      go_wp2_with fail
      refine HN2.mono ?_
      rintro e w3 ⟨rfl, rfl⟩
      clear HN2
      rcases HNn.out with hn | ⟨hn0, hn⟩
      · go_wp2_with fail
        refine (side_any (c := sc) _ (by omega) (HSx.out.1.kept K1.out) HSx.out.2).mono ?_
        rintro e w4 ⟨rfl, k4⟩
        have K4 : Hid (Kept w w4) := K1.out.trans k4
        clear k4 K1
        go_wp2_with fail
        refine (rside_any (c := sc) _ (by omega) (HSx.out.1.kept K4.out) HSx.out.2).mono ?_
        rintro e w5 ⟨rfl, k5⟩
        have K5 : Hid (Kept w w5) := K4.out.trans k5
        clear k5 K4
        generalize sideU SL sl = sd at *
        have zs : (sd != sd) = false := by simp
        go_wp2
        refine wp_loop_rounds 1 ?_
        rw [rounds_succ]
        go_wp2_with fail
        refine (first_any _).mono ?_
        rintro e w9 ⟨rfl, k9⟩
        have K9 : Hid (Kept w w9) := (K5.out.alloc _ _).trans k9
        clear k9
        go_wp2
        go_ret
        exact ⟨rfl, K9.out⟩
      · go_wp2_with fail
        refine (side_any (c := sc) _ (by omega) (HSx.out.1.kept K1.out) HSx.out.2).mono ?_
        rintro e w4 ⟨rfl, k4⟩
        have K4 : Hid (Kept w w4) := K1.out.trans k4
        clear k4 K1
        go_wp2_with fail
        refine (rside_any (c := sc) _ (by omega) (HSx.out.1.kept K4.out) HSx.out.2).mono ?_
        rintro e w5 ⟨rfl, k5⟩
        have K5 : Hid (Kept w w5) := K4.out.trans k5
        clear k5 K4
        generalize sideU SL sl = sd at *
        have zs : (sd != sd) = false := by simp
        go_wp2
        refine wp_loop_rounds 1 ?_
        rw [rounds_succ]
        go_wp2_with fail
        refine (first_any _).mono ?_
        rintro e w9 ⟨rfl, k9⟩
        have K9 : Hid (Kept w w9) := (K5.out.alloc _ _).trans k9
        clear k9
        go_wp2
        go_ret
        exact ⟨rfl, K9.out⟩

set_option maxHeartbeats 8000000 in
set_option maxRecDepth 20000 in
theorem plays_in (n : Nat) (x : Option Addr) (l c : Nat) (L : Nat → Op9) (sx : Option Addr) (sl sc : Nat) (SL : Nat → Int) (w : World) (hX : Ops w x l L) (hS : Rdf w sx sl SL) (hSB : ∀ i, i < sl → IntKind.min .i64 ≤ SL i ∧ SL i ≤ IntKind.max .i64) (hn : (n : Int) ≤ 8) :
    Calls Try.prog 3 #[.int .i64 n, .slice x l c, .slice sx sl sc] w fun e w' => e = .returned (.bool true) ∧ Kept w w' := by
  have HX : Hid (Ops w x l L) := hX
  have HSx : Hid (Rdf w sx sl SL ∧ ∀ i, i < sl → IntKind.min .i64 ≤ SL i ∧ SL i ≤ IntKind.max .i64) := ⟨hS, hSB⟩
  clear hX hS hSB
  go_enter Try.func3, Try.ntmps3
  go_wp2_with fail
  refine (first_any _).mono ?_
  rintro e w2 ⟨rfl, k1⟩
  have K1 : Hid (Kept w w2) := k1
  clear k1
  go_upto_block 0 with fail
  go_cut [7, 8] from 21 to 39 (fun vn _ wc => (∃ A : Nat, vn = .int .i64 A) ∧ w2 = wc)
  case first =>
    go_wp2_with fail
    go_loopg [7, 8] l (fun m vn i wr => ∃ j A : Nat, i = .int .i64 j ∧ vn = .int .i64 A ∧ j ≤ l ∧ m = l - j ∧ j ≤ 200 ∧ A ≤ 2001 * j ∧ w2 = wr)
    case atStart => exact ⟨0, 0, rfl, rfl, by omega, by omega, by omega, by omega, rfl⟩
    case round =>
      obtain ⟨j, A, rfl, rfl, hj, hm, hj2, hA, rfl⟩ := hrel
      have HM : Hid _ := hm
      clear hm
      by_cases hlt : j < l
      · by_cases h2 : (j : Int) < 200
        · obtain ⟨bx, ox, rfl, hbx, hcx⟩ := HX.out.1 (by omega)
          have e2 : w2.cell? ⟨bx, ox + j * 3 + 2, none⟩ = _ := (K1.out.cell hbx).trans (hcx j hlt 2 _ (by omega) rfl)
          clear hcx hbx HX
          generalize L j = o at *
          obtain ⟨ok, on, ol, oc, oT⟩ := o
          simp only at e2
          obtain ⟨q, hq, hq2⟩ : ∃ q : Nat, (if (2001 : Int) < (oT.length : Int) then 2001 else (oT.length : Int)) = (q : Int) ∧ q ≤ 2001 := ⟨min oT.length 2001, by split <;> omega, by omega⟩
          generalize oT.length = om at *
          go_wp2
          go_roundg (gk - 1)
          all_goals (have := HM.out; try omega)
          exact ⟨j + 1, A + q, by go_num, by go_num, by omega, by omega, by omega, by omega, rfl⟩
        · go_wp2
          go_meet
          case rel => exact ⟨⟨A, rfl⟩, rfl⟩
      · go_wp2
        go_meet
        case rel => exact ⟨⟨A, rfl⟩, rfl⟩
  case rest =>
    obtain ⟨⟨A, rfl⟩, rfl⟩ := hcut
    by_cases ho : (l : Int) > 200 ∨ (¬ (l : Int) > 200 ∧ (A : Int) > 2000) ∨ (¬ (l : Int) > 200 ∧ ¬ (A : Int) > 2000 ∧ (sl : Int) > 2000)
    · rcases ho with h | ⟨h1, h⟩ | ⟨h1, h2, h⟩
      all_goals go_wp2_with fail
      all_goals (refine (first_any _).mono ?_; rintro e w3 ⟨rfl, k3⟩)
      all_goals (have K3 : Hid (Kept w w3) := K1.out.trans k3; clear k3)
      all_goals go_wp2
      all_goals go_ret
      all_goals exact ⟨rfl, K3.out⟩
    · have hl : (l : Int) ≤ 200 := by omega
      have hA : (A : Int) ≤ 2000 := by omega
      have hsl : (sl : Int) ≤ 2000 := by omega
      clear ho
      have HB : Hid (w.heap.size ≤ w2.heap.size) := K1.out.size
      go_wp2_with fail
      refine (new_any n _ (by omega) HB.out).mono ?_
      rintro e w3 ⟨b, rfl, ht, k3, _⟩
      have H3 : Hid (STab 46 w3 w.heap.size b n (.slice none 0 0) [] ∧ Kept w w3) := ⟨ht, K1.out.trans k3⟩
      clear ht k3 K1 HB
      go_wp2_with fail
      refine (side_any (c := sc) _ (by omega) (HSx.out.1.kept H3.out.2) HSx.out.2).mono ?_
      rintro e w4 ⟨rfl, k4⟩
      have H4 : Hid (STab 46 w4 w.heap.size b n (.slice none 0 0) [] ∧ Kept w w4) := ⟨H3.out.1.kept k4, H3.out.2.trans k4⟩
      clear k4 H3
      go_wp2_with fail
      refine (rside_any (c := sc) _ (by omega) (HSx.out.1.kept H4.out.2) HSx.out.2).mono ?_
      rintro e w5 ⟨rfl, k5⟩
      have H5 : Hid (STab 46 w5 w.heap.size b n (.slice none 0 0) [] ∧ Kept w w5) := ⟨H4.out.1.kept k5, H4.out.2.trans k5⟩
      clear k5 H4
      generalize sideU SL sl = sd at *
      have zs : (sd != sd) = false := by simp
      have H6 : Hid (Two w (w5.alloc (.cells #[.int .i64 (n : Int), .slice none 0 0] 34)) b w5.heap.size n (.slice none 0 0) (.slice none 0 0) [] []) :=
        ⟨H5.out.1.kept ((Kept.refl _).alloc _ _), ⟨Own.new w5 [.int .i64 (n : Int), .slice none 0 0] _, Lst.nil _ _, by simp, by omega, H5.out.2.size, by decide⟩, H5.out.2.alloc _ _, fun k hk => (by cases hk)⟩
      clear H5
      go_wp2
      clear zs hA hsl HSx
      generalize w5.heap.size = b' at *
      go_loopg [12] l (fun m i wr' => ∃ (j : Nat) (T : List Int) (v v' : Value), i = .int .i64 j ∧ j ≤ l ∧ m = l - j ∧ Hid (Two w wr' b b' n v v' T T))
      case atStart => exact ⟨0, _, _, _, rfl, by omega, by omega, H6.out⟩
      case round =>
        obtain ⟨j, T, v, v', rfl, hj, hm, HR⟩ := hrel
        have HM : Hid _ := hm
        clear hm H6
        by_cases hlt : j < l
        · obtain ⟨bx, ox, rfl, hbx, hcx⟩ := HX.out.1 (by omega)
          have e0 : wr.cell? ⟨bx, ox + j * 3, none⟩ = _ := (HR.out.kept.cell hbx).trans (hcx j hlt 0 _ (by omega) rfl)
          have e1 : wr.cell? ⟨bx, ox + j * 3 + 1, none⟩ = _ := (HR.out.kept.cell hbx).trans (hcx j hlt 1 _ (by omega) rfl)
          have e2 : wr.cell? ⟨bx, ox + j * 3 + 2, none⟩ = _ := (HR.out.kept.cell hbx).trans (hcx j hlt 2 _ (by omega) rfl)
          have RX := HX.out.2 j hlt
          clear hcx hbx HX
          generalize L j = o at *
          obtain ⟨ok, on, ol, oc, N⟩ := o
          simp only at e0 e1 e2 RX
          have HRX : Hid (Rdi w ol N) := RX
          clear RX
          go_upto_block 4 with fail
          clear e0 e1 e2
          generalize hW : wr.alloc _ = W
          have BO : Hid (Own W wr.heap.size 26 [.int .i64 ok, .int .i64 on, .slice ol N.length oc]) := by rw [← hW]; exact Own.new wr _ _
          have HW : Hid (Two w W b b' n v v' T T) := by rw [← hW]; exact HR.out.still ((Kept.refl wr).alloc _ _)
          clear hW HR
          generalize wr.heap.size = ob at *
          go_cut [14, 15, 16, 17, 18] from 100 to 141 (fun q _ _ _ _ wc => q = .bool true ∧ ∃ (T : List Int) (v v' : Value), Hid (Two w wc b b' n v v' T T))
          case first =>
            by_cases h0 : ok = 0
            · have h0' : (ok == 0) = true := by simpa using h0
              clear h0
              obtain ⟨X, hPX⟩ : ∃ X, putL n T N = X := ⟨_, rfl⟩
              obtain ⟨fit, hFit⟩ : ∃ fit, decide (T.length + N.length ≤ n) = fit := ⟨_, rfl⟩
              have HPX : Hid (putL n T N = X) := hPX
              have HFit : Hid (decide (T.length + N.length ≤ n) = fit) := hFit
              clear hPX hFit
              go_upto_region 21 with fail
              refine wp_region_phase [(.pointer (some ⟨b, 0, none⟩)), (.pointer (some ⟨ob, 2, none⟩)), (.slice ol N.length oc), (.bool fit), (.pointer (some ⟨b', 0, none⟩)), (.pointer (some ⟨ob, 2, none⟩)), (.slice ol N.length oc), (.bool fit), (.bool true), (.bool true)] [(14, 9), (102, 0), (103, 1), (104, 2), (105, 3), (106, 4), (107, 5), (108, 6), (109, 7), (110, 8)] [_, _, _, _, _, _, _, _, _, _, _, _, _, _, _, _, _, _, _, _, _, _, _, _, _, _, _, _, _, _, _, _, _, _, _, _, _, _, _, _, _, _, _, _, _, _, _, _, _, _, _, _, _, _, _, _, _, _, _, _, _, _, _, _, _, _, _, _, _, _, _, _, _, _, _, _, _, _, _, _, _, _, _, _, _, _, _, _, _, _, _, _, _, _, _, _, _, _, _, _, _, _, _, _, _, _, _, _, _, _, _, _, _, _, _, _, _, _, _, _, _, _, _, _, _, _, _, _, _, _, _, _, _, _, _, _, _, _, _, _, _, _, _, _, _, _, _, _, _, _, _, _, _, _, _, _, _, _, _, _, _, _] (fun d u => PutJ w u b b' n T X N ob ol [.int .i64 ok, .int .i64 on, .slice ol N.length oc] d) (by kernel_rfl) (by kernel_rfl) (by kernel_rfl) (by kernel_rfl) rfl ?_ ?_ ?_
              · exact ⟨BO.out.kept (Kept.refl _).drew, HRX.out, v, v', by simpa using HW.out.still (Kept.refl _).drew⟩
              · intro i o ho a d u hh hj hi hd
                match i, ho, hi, hd with
                | 0, ho, hi, hd =>
                  simp only [List.getElem?_cons_zero, Option.some.injEq] at ho
                  subst ho
                  have g9 : a.tmps[9]? = some (.pointer (some ⟨b, 0, none⟩)) := hh.old 9 (by kernel_rfl) rfl
                  clear hh hd
                  have HN : Hid (PutJ w u b b' n T X N ob ol [.int .i64 ok, .int .i64 on, .slice ol N.length oc] (done d 0)) := hj.plain 0 (by decide) (by decide)
                  clear hj hi
                  refine wpOp_step rfl (fun K hK => ?_)
                  go_simp
                  exact hK _ _ ⟨by simp [Act.put], HN.out⟩
                | 1, ho, hi, hd =>
                  simp only [List.getElem?_cons_succ, List.getElem?_cons_zero, Option.some.injEq] at ho
                  subst ho
                  have g13 : a.tmps[13]? = some (.pointer (some ⟨ob, 0, none⟩)) := hh.old 13 (by kernel_rfl) rfl
                  clear hh hd
                  have HN : Hid (PutJ w u b b' n T X N ob ol [.int .i64 ok, .int .i64 on, .slice ol N.length oc] (done d 1)) := hj.plain 1 (by decide) (by decide)
                  clear hj hi
                  refine wpOp_step rfl (fun K hK => ?_)
                  go_simp
                  exact hK _ _ ⟨by simp [Act.put], HN.out⟩
                | 2, ho, hi, hd =>
                  simp only [List.getElem?_cons_succ, List.getElem?_cons_zero, Option.some.injEq] at ho
                  subst ho
                  have g103 : a.tmps[103]? = some (.pointer (some ⟨ob, 2, none⟩)) := hh.did 1 _ 103 rfl rfl (hd { on := 1, ground := .data } (by simp) rfl)
                  have cc := hj.own.blk.at 2 rfl
                  clear hh hd
                  have HN : Hid (PutJ w u b b' n T X N ob ol [.int .i64 ok, .int .i64 on, .slice ol N.length oc] (done d 2)) := hj.plain 2 (by decide) (by decide)
                  clear hj hi
                  refine wpOp_step rfl (fun K hK => ?_)
                  go_simp
                  exact hK _ _ ⟨by simp [Act.put], HN.out⟩
                | 3, ho, hi, hd =>
                  simp only [List.getElem?_cons_succ, List.getElem?_cons_zero, Option.some.injEq] at ho
                  subst ho
                  have g102 : a.tmps[102]? = some (.pointer (some ⟨b, 0, none⟩)) := hh.did 0 _ 102 rfl rfl (hd { on := 0, ground := .data } (by simp) rfl)
                  have g104 : a.tmps[104]? = some (.slice ol N.length oc) := hh.did 2 _ 104 rfl rfl (hd { on := 2, ground := .data } (by simp) rfl)
                  clear hh hd
                  obtain ⟨v, v', t⟩ := hj.two
                  simp only [hi, Bool.false_eq_true, if_false] at t
                  have CA : Hid (Calls _ _ _ _ _) := put_any (x := ol) (c := oc) (N := N) u t.tab (hj.rd.kept t.kept)
                  have HN : Hid (∀ u' v2, STab 46 u' w.heap.size b n v2 (putL n T N) → Mut (b :: v.ownBlock.toList) u u' → Fresh u v v2 → PutJ w u' b b' n T X N ob ol [.int .i64 ok, .int .i64 on, .slice ol N.length oc] (done d 3)) := fun u' v2 s m f => hj.call1 t (by rw [← HPX.out]; exact s) m f
                  rw [HFit.out] at CA
                  clear hj hi t
                  refine wpOp_step rfl (fun K hK => ?_)
                  go_simp
                  refine CA.out.mono ?_
                  rintro e u' ⟨rfl, v2, hs, m, f⟩
                  exact hK _ _ ⟨by simp [Act.put], HN.out u' v2 hs m f⟩
                | 4, ho, hi, hd =>
                  simp only [List.getElem?_cons_succ, List.getElem?_cons_zero, Option.some.injEq] at ho
                  subst ho
                  have g11 : a.tmps[11]? = some (.pointer (some ⟨b', 0, none⟩)) := hh.old 11 (by kernel_rfl) rfl
                  clear hh hd
                  have HN : Hid (PutJ w u b b' n T X N ob ol [.int .i64 ok, .int .i64 on, .slice ol N.length oc] (done d 4)) := hj.plain 4 (by decide) (by decide)
                  clear hj hi
                  refine wpOp_step rfl (fun K hK => ?_)
                  go_simp
                  exact hK _ _ ⟨by simp [Act.put], HN.out⟩
                | 5, ho, hi, hd =>
                  simp only [List.getElem?_cons_succ, List.getElem?_cons_zero, Option.some.injEq] at ho
                  subst ho
                  have g13 : a.tmps[13]? = some (.pointer (some ⟨ob, 0, none⟩)) := hh.old 13 (by kernel_rfl) rfl
                  clear hh hd
                  have HN : Hid (PutJ w u b b' n T X N ob ol [.int .i64 ok, .int .i64 on, .slice ol N.length oc] (done d 5)) := hj.plain 5 (by decide) (by decide)
                  clear hj hi
                  refine wpOp_step rfl (fun K hK => ?_)
                  go_simp
                  exact hK _ _ ⟨by simp [Act.put], HN.out⟩
                | 6, ho, hi, hd =>
                  simp only [List.getElem?_cons_succ, List.getElem?_cons_zero, Option.some.injEq] at ho
                  subst ho
                  have g107 : a.tmps[107]? = some (.pointer (some ⟨ob, 2, none⟩)) := hh.did 5 _ 107 rfl rfl (hd { on := 5, ground := .data } (by simp) rfl)
                  have cc := hj.own.blk.at 2 rfl
                  clear hh hd
                  have HN : Hid (PutJ w u b b' n T X N ob ol [.int .i64 ok, .int .i64 on, .slice ol N.length oc] (done d 6)) := hj.plain 6 (by decide) (by decide)
                  clear hj hi
                  refine wpOp_step rfl (fun K hK => ?_)
                  go_simp
                  exact hK _ _ ⟨by simp [Act.put], HN.out⟩
                | 7, ho, hi, hd =>
                  simp only [List.getElem?_cons_succ, List.getElem?_cons_zero, Option.some.injEq] at ho
                  subst ho
                  have g106 : a.tmps[106]? = some (.pointer (some ⟨b', 0, none⟩)) := hh.did 4 _ 106 rfl rfl (hd { on := 4, ground := .data } (by simp) rfl)
                  have g108 : a.tmps[108]? = some (.slice ol N.length oc) := hh.did 6 _ 108 rfl rfl (hd { on := 6, ground := .data } (by simp) rfl)
                  clear hh hd
                  obtain ⟨v, v', t⟩ := hj.two
                  simp only [hi, Bool.false_eq_true, if_false] at t
                  have CA : Hid (Calls _ _ _ _ _) := rput_any (x := ol) (c := oc) (N := N) u t.ref (hj.rd.kept t.kept)
                  have HN : Hid (∀ u' v2, STab 34 u' w.heap.size b' n v2 (putL n T N) → Mut (b' :: v'.ownBlock.toList) u u' → Fresh u v' v2 → PutJ w u' b b' n T X N ob ol [.int .i64 ok, .int .i64 on, .slice ol N.length oc] (done d 7)) := fun u' v2 s m f => hj.call2 t (by rw [← HPX.out]; exact s) m f
                  rw [HFit.out] at CA
                  clear hj hi t
                  refine wpOp_step rfl (fun K hK => ?_)
                  go_simp
                  refine CA.out.mono ?_
                  rintro e u' ⟨rfl, v2, hs, m, f⟩
                  exact hK _ _ ⟨by simp [Act.put], HN.out u' v2 hs m f⟩
                | 8, ho, hi, hd =>
                  simp only [List.getElem?_cons_succ, List.getElem?_cons_zero, Option.some.injEq] at ho
                  subst ho
                  have g105 : a.tmps[105]? = some (.bool fit) := hh.did 3 _ 105 rfl rfl (hd { on := 3, ground := .data } (by simp) rfl)
                  have g109 : a.tmps[109]? = some (.bool fit) := hh.did 7 _ 109 rfl rfl (hd { on := 7, ground := .data } (by simp) rfl)
                  have zz : (fit == fit) = true := by simp
                  clear hh hd
                  have HN : Hid (PutJ w u b b' n T X N ob ol [.int .i64 ok, .int .i64 on, .slice ol N.length oc] (done d 8)) := hj.plain 8 (by decide) (by decide)
                  clear hj hi
                  refine wpOp_step rfl (fun K hK => ?_)
                  go_simp
                  exact hK _ _ ⟨by simp [Act.put], HN.out⟩
                | 9, ho, hi, hd =>
                  simp only [List.getElem?_cons_succ, List.getElem?_cons_zero, Option.some.injEq] at ho
                  subst ho
                  have g110 : a.tmps[110]? = some (.bool true) := hh.did 8 _ 110 rfl rfl (hd { on := 8, ground := .data } (by simp) rfl)
                  clear hh hd
                  have HN : Hid (PutJ w u b b' n T X N ob ol [.int .i64 ok, .int .i64 on, .slice ol N.length oc] (done d 9)) := hj.plain 9 (by decide) (by decide)
                  clear hj hi
                  refine wpOp_step rfl (fun K hK => ?_)
                  go_simp
                  exact hK _ _ ⟨by simp [Act.put], HN.out⟩
                | k + 10, ho, _, _ => simp at ho
              · intro u d hall hj
                obtain ⟨v2, v3, t⟩ := hj.two
                have h1 := hall 3 (by decide)
                have h2 := hall 7 (by decide)
                rw [h1, h2] at t
                have HE : Hid (Two w u b b' n v2 v3 X X) := t
                clear hall hj t h1 h2
                simp only [List.getD_cons_succ, List.getD_cons_zero]
                go_wp2
                go_meet
                case rel => exact ⟨rfl, _, _, _, HE.out⟩
            · have h0' : (ok == 0) = false := by simpa using h0
              clear h0
              by_cases h1 : ok = 1
              · have h1' : (ok == 1) = true := by simpa using h1
                clear h1
                have c1 := BO.out.blk.at 1 rfl
                by_cases hk : 1 ≤ on ∧ on ≤ T.length
                · obtain ⟨q, rfl⟩ : ∃ q : Nat, on = q := ⟨on.toNat, by omega⟩
                  have HEQ : Hid ((T.take q).length = q ∧ (T.take q).length ≤ 1000000 ∧ 1 ≤ q ∧ q ≤ T.length) := ⟨by simp; omega, by have := HW.out.tab.few; have := HW.out.tab.max; simp; omega, by omega, by omega⟩
                  clear hk
                  go_wp2_with fail
                  refine (take_yes (k := q) _ HW.out.tab HEQ.out.2.2.1 HEQ.out.2.2.2).mono ?_
                  rintro e w4 ⟨va, v4, rfl, l4, s4, m4, f4, _⟩
                  obtain ⟨ya, da, rfl⟩ := l4.form
                  have H4 : Hid (Two w w4 b b' n v4 v' (T.drop q) T ∧ Own w4 ob 26 [.int .i64 ok, .int .i64 q, .slice ol N.length oc] ∧ Lst w4 W.heap.size (.slice ya (T.take q).length da) (T.take q)) := ⟨HW.out.fst s4 m4 f4, BO.out.muts m4 (own_out BO.out HW.out.tab (by decide) (by decide)), l4⟩
                  have HLt : Hid (b' < W.heap.size ∧ ∀ k, v'.ownBlock = some k → k < W.heap.size) := ⟨HW.out.ref.ltb, fun k hk => (HW.out.ref.lst.lt k hk).2⟩
                  clear l4 s4 m4 f4 c1 HW BO
                  have c1 := H4.out.2.1.blk.at 1 rfl
                  rw [HEQ.out.1] at H4 ⊢
                  go_wp2_with fail
                  refine (rtake_yes (k := q) _ H4.out.1.ref HEQ.out.2.2.1 HEQ.out.2.2.2).mono ?_
                  rintro e w5 ⟨vb, v5, rfl, l5, s5, m5, f5, _⟩
                  obtain ⟨yb, db, rfl⟩ := l5.form
                  have H5 : Hid (Two w w5 b b' n v4 v5 (T.drop q) (T.drop q) ∧ Rdi w5 ya (T.take q) ∧ Rdi w5 yb (T.take q)) := ⟨H4.out.1.snd s5 m5 f5, (H4.out.2.2.muts m5 (fun k hk hd => by
                    have h0 := (H4.out.2.2.lt k hk).1
                    simp at hd
                    rcases hd with rfl | hd
                    · have := HLt.out.1; omega
                    · have := HLt.out.2 k hd; omega)).rdi, l5.rdi⟩
                  clear l5 s5 m5 f5 c1 H4
                  have IA := ints_any (c := da) (d := db) (T := T.take q) w5 HEQ.out.2.1 H5.out.2.1 H5.out.2.2
                  rw [HEQ.out.1] at IA ⊢
                  go_wp2_with fail
                  refine IA.mono ?_
                  rintro e w6 ⟨rfl, k6⟩
                  have H6 : Hid (Two w w6 b b' n v4 v5 (T.drop q) (T.drop q)) := H5.out.1.still k6
                  clear k6 H5 IA
                  go_wp2
                  go_meet
                  case rel => exact ⟨rfl, _, _, _, H6.out⟩
                · go_wp2_with fail
                  refine (take_no on _ HW.out.tab hk).mono ?_
                  rintro e w4 ⟨rfl, rfl⟩
                  go_wp2_with fail
                  refine (rtake_no on _ HW.out.ref hk).mono ?_
                  rintro e w5 ⟨rfl, rfl⟩
                  go_wp2_with fail
                  refine (ints_any (T := []) _ (by simp) Rdi.nil Rdi.nil).mono ?_
                  rintro e w6 ⟨rfl, k6⟩
                  have H6 : Hid (Two w w6 b b' n v v' T T) := HW.out.still k6
                  clear k6 c1
                  go_wp2
                  go_meet
                  case rel => exact ⟨rfl, _, _, _, H6.out⟩
              · have h1' : (ok == 1) = false := by simpa using h1
                clear h1
                by_cases h2 : ok = 2
                · have h2' : (ok == 2) = true := by simpa using h2
                  clear h2
                  obtain ⟨yv, dv, rfl⟩ := HW.out.tab.lst.form
                  obtain ⟨yr, dr, rfl⟩ := HW.out.ref.lst.form
                  have hlen : T.length ≤ 1000000 := by have := HW.out.tab.few; have := HW.out.tab.max; omega
                  go_wp2_with fail
                  refine (drain_any _ HW.out.tab).mono ?_
                  rintro e w4 ⟨rfl, s4, m4⟩
                  have H4 : Hid (Two w w4 b b' n (.slice none 0 0) (.slice yr T.length dr) [] T ∧ Lst w4 w.heap.size (.slice yv T.length dv) T ∧ (Value.slice yv T.length dv).ownBlock ≠ some b') :=
                    ⟨HW.out.fst s4 (m4.wide fun k hk => by simp at hk; simp [hk]) (fun k hk => by cases hk), HW.out.tab.lst.muts m4 (fun k hk hd => by simp at hd; subst hd; exact HW.out.tab.ne hk), HW.out.ref.head.nelst HW.out.tab.lst HW.out.ref.ty⟩
                  clear s4 m4 HW BO
                  go_wp2_with fail
                  refine (rdrain_any _ H4.out.1.ref).mono ?_
                  rintro e w5 ⟨rfl, s5, m5⟩
                  have H5 : Hid (Two w w5 b b' n (.slice none 0 0) (.slice none 0 0) [] [] ∧ Rdi w5 yv T ∧ Rdi w5 yr T) :=
                    ⟨H4.out.1.snd s5 (m5.wide fun k hk => by simp at hk; simp [hk]) (fun k hk => by cases hk), (H4.out.2.1.muts m5 (fun k hk hd => by simp at hd; subst hd; exact H4.out.2.2 hk)).rdi, (H4.out.1.ref.lst.muts m5 (fun k hk hd => by simp at hd; subst hd; exact H4.out.1.ref.ne hk)).rdi⟩
                  clear s5 m5 H4
                  go_wp2_with fail
                  refine (ints_any (c := dv) (d := dr) (T := T) w5 hlen H5.out.2.1 H5.out.2.2).mono ?_
                  rintro e w6 ⟨rfl, k6⟩
                  have H6 : Hid (Two w w6 b b' n (.slice none 0 0) (.slice none 0 0) [] []) := H5.out.1.still k6
                  clear k6 H5
                  go_wp2
                  go_meet
                  case rel => exact ⟨rfl, _, _, _, H6.out⟩
                · have h2' : (ok == 2) = false := by simpa using h2
                  clear h2
                  go_wp2
                  go_meet
                  case rel => exact ⟨rfl, _, _, _, HW.out⟩
          case rest =>
            clear HW HRX
            obtain ⟨rfl, T, v, v', HC⟩ := hcut
            obtain ⟨yv, dv, rfl⟩ := HC.out.tab.lst.form
            obtain ⟨yr, dr, rfl⟩ := HC.out.ref.lst.form
            have hT1 := HC.out.tab.few
            have C1 : Hid (∀ z : KW wc, _) := fun z => len_any z.it (HC.out.tab.kept z.ok)
            have C2 : Hid (∀ z : KW wc, _) := fun z => room_any z.it (HC.out.tab.kept z.ok)
            have C3 : Hid (∀ z : KW wc, _) := fun z => rroom_any z.it (HC.out.ref.kept z.ok)
            have d1 := fun z : KW wc => z.cell HC.out.ref.ltb HC.out.ref.c1
            have z1 : ((T.length : Int) != (T.length : Int)) = false := by simp
            have z2 : ((n : Int) - (T.length : Int) != (n : Int) - (T.length : Int)) = false := by simp
            go_upto_region 28 with fail
            refine wp_region_kept (by kernel_rfl) (by kernel_rfl) fun _ => ?_
            repeat (go_big_quiet_step (first | (go_at_call 19; exact kept_of_same (C1.out _)) | (go_at_call 20; exact kept_of (C2.out _)) | (go_at_call 21; exact kept_of (C3.out _))))
            refine wpQuiet_nil ?_
            rintro _ ⟨z, rfl⟩
            have HZ : Hid (Two w z.it b b' n (.slice yv T.length dv) (.slice yr T.length dr) T T) := HC.out.still z.ok
            clear d1 C1 C2 C3 HC
            go_wp2
            go_roundg (l - (j + 1))
            all_goals (have := HM.out; try omega)
            all_goals exact ⟨j + 1, _, _, _, by go_num, by omega, rfl, HZ.out⟩
        · obtain rfl : l = j := by omega
          have K2 : Hid (Kept w wr) := HR.out.kept
          clear HR HM
          go_wp2_with fail
          refine (first_any _).mono ?_
          rintro e w9 ⟨rfl, k9⟩
          have K9 : Hid (Kept w w9) := K2.out.trans k9
          clear k9
          go_wp2
          go_ret
          exact ⟨rfl, K9.out⟩

theorem stockPlays_any (n0 : Int) (x1 : Option Addr) (l1 c1 : Nat) (L1 : Nat → Op9) (x2 : Option Addr) (l2 c2 : Nat) (L2 : Nat → Int) (w : World) (_lo0 : IntKind.min .i64 ≤ n0) (_hi0 : n0 ≤ IntKind.max .i64) (_h1c : l1 ≤ c1) (hL1 : Ops w x1 l1 L1) (_h2c : l2 ≤ c2) (hL2 : Ints w x2 l2 L2) (hB2 : ∀ i, i < l2 → IntKind.min .i64 ≤ L2 i ∧ L2 i ≤ IntKind.max .i64) :
    Calls Try.prog 3 #[.int .i64 n0, .slice x1 l1 c1, .slice x2 l2 c2] w fun e w' => e = .returned (.bool true) ∧ Kept w w' := by
  have hR : Rdf w x2 l2 L2 := fun h => hL2.at h
  by_cases hn : 0 ≤ n0 ∧ n0 ≤ 8
  · obtain ⟨n, rfl⟩ : ∃ n : Nat, n0 = n := ⟨n0.toNat, by omega⟩
    exact plays_in n x1 l1 c1 L1 x2 l2 c2 L2 w hL1 hR hB2 hn.2
  · exact plays_bad n0 x1 l1 c1 L1 x2 l2 c2 L2 w hL1 hR hB2 hn
end Go.Proofs.Ytfeloacafkebhaa
