/-
  StockOrder: the walk.
-/
import Derived.Test.YtfeloacafkebhaaOpen9
import Derived.Deep.CutBlock
namespace Go.Proofs.Ytfeloacafkebhaa
open Go.RowKit

theorem Lst.cap {w : World} {base l c : Nat} {x : Option Addr} {T : List Int} (h : Lst w base (.slice x l c) T) : T.length ≤ c := by
  rcases h.2 with ⟨e, h0⟩ | ⟨g, cap, cur, e, _, _, hc, _⟩
  · omega
  · obtain ⟨_, _, rfl⟩ := Value.slice.inj e
    exact hc
theorem Own.neq {w : World} {b b' : Nat} {t t' : TypeId} {L L' : List Value} (h : Own w b t L) (h' : Own w b' t' L') (ht : t ≠ t') : b ≠ b' := by
  rintro rfl
  unfold Own at h h'
  rw [h] at h'
  simp only [Option.some.injEq, Obj.cells.injEq] at h'
  exact ht h'.2.1

/-- The stock and the two lists of StockOrder: what went in, what came out. -/
structure Ord (w u : World) (b n : Nat) (vi vo v : Value) (I D T : List Int) : Prop where
  tab : STab 46 u w.heap.size b n v T
  li : Lst u w.heap.size vi I
  lo : Lst u w.heap.size vo D
  kept : Kept w u
  s1 : ∀ k, vi.ownBlock = some k → vo.ownBlock ≠ some k
  s2 : ∀ k, vi.ownBlock = some k → v.ownBlock ≠ some k
  s3 : ∀ k, vo.ownBlock = some k → v.ownBlock ≠ some k
section
variable {w u u' : World} {b n : Nat} {vi vo v v' : Value} {I D T X : List Int}
theorem Ord.still (h : Ord w u b n vi vo v I D T) (k : Kept u u') : Ord w u' b n vi vo v I D T := ⟨h.tab.kept k, h.li.kept k, h.lo.kept k, h.kept.trans k, h.s1, h.s2, h.s3⟩
theorem Ord.bi (h : Ord w u b n vi vo v I D T) : vi.ownBlock ≠ some b := h.tab.head.nelst h.li h.tab.ty
theorem Ord.bo (h : Ord w u b n vi vo v I D T) : vo.ownBlock ≠ some b := h.tab.head.nelst h.lo h.tab.ty
theorem Ord.tabs (h : Ord w u b n vi vo v I D T) (t : STab 46 u' w.heap.size b n v' X) (m : Mut (b :: v.ownBlock.toList) u u') (f : Fresh u v v') : Ord w u' b n vi vo v' I D X :=
  ⟨t, h.li.muts m (fun k hk hd => by
      simp at hd
      rcases hd with rfl | hd
      · exact h.bi hk
      · exact h.s2 k hk hd), h.lo.muts m (fun k hk hd => by
      simp at hd
      rcases hd with rfl | hd
      · exact h.bo hk
      · exact h.s3 k hk hd), h.kept.muts m (fun k hk => (h.tab.own k hk).1), h.s1,
    fun k hk => f.not (h.li.lt k hk).2 (h.s2 k hk), fun k hk => f.not (h.lo.lt k hk).2 (h.s3 k hk)⟩
theorem Ord.ins (h : Ord w u b n vi vo v I D T) (l : Lst u' w.heap.size v' X) (m : Mut vi.ownBlock.toList u u') (f : Fresh u vi v') : Ord w u' b n v' vo v X D T :=
  ⟨h.tab.muts m (by simpa using h.bi) (fun k hk hd => h.s2 k (by simpa using hd) hk), l, h.lo.muts m (fun k hk hd => h.s1 k (by simpa using hd) hk), h.kept.muts m (fun k hk => (h.li.lt k (by simpa using hk)).1),
    fun k hk e => by
      rcases f k hk with q | q
      · exact h.s1 k q e
      · have := (h.lo.lt k e).2; omega,
    fun k hk e => by
      rcases f k hk with q | q
      · exact h.s2 k q e
      · have := (h.tab.lst.lt k e).2; omega, h.s3⟩
theorem Ord.outs (h : Ord w u b n vi vo v I D T) (l : Lst u' w.heap.size v' X) (m : Mut vo.ownBlock.toList u u') (f : Fresh u vo v') : Ord w u' b n vi v' v I X T :=
  ⟨h.tab.muts m (by simpa using h.bo) (fun k hk hd => h.s3 k (by simpa using hd) hk), h.li.muts m (fun k hk hd => h.s1 k hk (by simpa using hd)), l, h.kept.muts m (fun k hk => (h.lo.lt k (by simpa using hk)).1),
    fun k hk => f.not (h.li.lt k hk).2 (h.s1 k hk), h.s2,
    fun k hk e => by
      rcases f k hk with q | q
      · exact h.s3 k q e
      · have := (h.tab.lst.lt k e).2; omega⟩
end

set_option maxHeartbeats 2000000 in
set_option maxRecDepth 20000 in
theorem order_bad (n : Int) (x : Option Addr) (l c : Nat) (L : Nat → Op9) (w : World) (hX : Ops w x l L) (hn : ¬ (0 ≤ n ∧ n ≤ 8)) :
    Calls Try.prog 4 #[.int .i64 n, .slice x l c] w fun e w' => e = .returned (.bool true) ∧ Kept w w' := by
  have HX : Hid (Ops w x l L) := hX
  have HN : Hid (∀ w, _) := fun w => new_bad n w hn
  clear hX hn
  go_enter Try.func4, Try.ntmps4
  go_wp2_with fail
  refine (first_any _).mono ?_
  rintro e w1 ⟨rfl, k1⟩
  have K1 : Hid (Kept w w1) := k1
  clear k1
  go_wp2_with fail
  refine (HN.out _).mono ?_
  rintro e w2 ⟨rfl, rfl⟩
  clear HN
  go_upto_block 0 with fail
  go_cut [7, 8] from 23 to 41 (fun vn _ wc => (∃ A : Nat, vn = .int .i64 A) ∧ w2 = wc)
  case first =>
    go_wp2_with fail
    go_loopg [7, 8] l (fun m vn i wr => ∃ j A : Nat, i = .int .i64 j ∧ vn = .int .i64 A ∧ j ≤ l ∧ m = l - j ∧ j ≤ 200 ∧ A ≤ 2001 * j ∧ w2 = wr)
    case atStart => exact ⟨0, 0, rfl, rfl, by omega, by omega, by omega, by omega, rfl⟩
    case round =>
      obtain ⟨j, A, rfl, rfl, hj, hm, hj2, hA, rfl⟩ := hrel
      have HM : Hid _ := hm
      clear hm
      by_cases hlt : j < l
      · by_cases h2 : (j : Int) < 200
        · obtain ⟨bx, ox, rfl, hbx, hcx⟩ := HX.out.1 (by omega)
          have e2 : w2.cell? ⟨bx, ox + j * 3 + 2, none⟩ = _ := (K1.out.cell hbx).trans (hcx j hlt 2 _ (by omega) rfl)
          clear hcx hbx HX
          generalize L j = o at *
          obtain ⟨ok, on, ol, oc, oT⟩ := o
          simp only at e2
          obtain ⟨q, hq, hq2⟩ : ∃ q : Nat, (if (2001 : Int) < (oT.length : Int) then 2001 else (oT.length : Int)) = (q : Int) ∧ q ≤ 2001 := ⟨min oT.length 2001, by split <;> omega, by omega⟩
          generalize oT.length = om at *
          go_wp2
          go_roundg (gk - 1)
          all_goals (have := HM.out; try omega)
          exact ⟨j + 1, A + q, by go_num, by go_num, by omega, by omega, by omega, by omega, rfl⟩
        · go_wp2
          go_meet
          case rel => exact ⟨⟨A, rfl⟩, rfl⟩
      · go_wp2
        go_meet
        case rel => exact ⟨⟨A, rfl⟩, rfl⟩
  case rest =>
    obtain ⟨⟨A, rfl⟩, rfl⟩ := hcut
    go_wp2_with fail
    refine (first_any _).mono ?_
    rintro e w3 ⟨rfl, k3⟩
    have K3 : Hid (Kept w w3) := K1.out.trans k3
    clear k3
    go_wp2
    go_ret
    exact ⟨rfl, K3.out⟩

set_option maxHeartbeats 8000000 in
set_option maxRecDepth 20000 in
theorem order_in (n : Nat) (x : Option Addr) (l c : Nat) (L : Nat → Op9) (w : World) (hX : Ops w x l L) (hn : (n : Int) ≤ 8) :
    Calls Try.prog 4 #[.int .i64 n, .slice x l c] w fun e w' => e = .returned (.bool true) ∧ Kept w w' := by
  have HX : Hid (Ops w x l L) := hX
  clear hX
  go_enter Try.func4, Try.ntmps4
  go_wp2_with fail
  refine (first_any _).mono ?_
  rintro e w1 ⟨rfl, k1⟩
  have K1 : Hid (Kept w w1) := k1
  clear k1
  go_wp2_with fail
  refine (new_any n _ (by omega) K1.out.size).mono ?_
  rintro e w2 ⟨b, rfl, ht, k2, _⟩
  have H2 : Hid (Ord w w2 b n (.slice none 0 0) (.slice none 0 0) (.slice none 0 0) [] [] []) := ⟨ht, Lst.nil _ _, Lst.nil _ _, K1.out.trans k2, fun k h => (by cases h), fun k h => (by cases h), fun k h => (by cases h)⟩
  clear k2 K1 ht
  go_upto_block 0 with fail
  go_cut [7, 8] from 23 to 41 (fun vn _ wc => (∃ A : Nat, vn = .int .i64 A) ∧ w2 = wc)
  case first =>
    go_wp2_with fail
    go_loopg [7, 8] l (fun m vn i wr => ∃ j A : Nat, i = .int .i64 j ∧ vn = .int .i64 A ∧ j ≤ l ∧ m = l - j ∧ j ≤ 200 ∧ A ≤ 2001 * j ∧ w2 = wr)
    case atStart => exact ⟨0, 0, rfl, rfl, by omega, by omega, by omega, by omega, rfl⟩
    case round =>
      obtain ⟨j, A, rfl, rfl, hj, hm, hj2, hA, rfl⟩ := hrel
      have HM : Hid _ := hm
      clear hm
      by_cases hlt : j < l
      · by_cases h2 : (j : Int) < 200
        · obtain ⟨bx, ox, rfl, hbx, hcx⟩ := HX.out.1 (by omega)
          have e2 : w2.cell? ⟨bx, ox + j * 3 + 2, none⟩ = _ := (H2.out.kept.cell hbx).trans (hcx j hlt 2 _ (by omega) rfl)
          clear hcx hbx HX
          generalize L j = o at *
          obtain ⟨ok, on, ol, oc, oT⟩ := o
          simp only at e2
          obtain ⟨q, hq, hq2⟩ : ∃ q : Nat, (if (2001 : Int) < (oT.length : Int) then 2001 else (oT.length : Int)) = (q : Int) ∧ q ≤ 2001 := ⟨min oT.length 2001, by split <;> omega, by omega⟩
          generalize oT.length = om at *
          go_wp2
          go_roundg (gk - 1)
          all_goals (have := HM.out; try omega)
          exact ⟨j + 1, A + q, by go_num, by go_num, by omega, by omega, by omega, by omega, rfl⟩
        · go_wp2
          go_meet
          case rel => exact ⟨⟨A, rfl⟩, rfl⟩
      · go_wp2
        go_meet
        case rel => exact ⟨⟨A, rfl⟩, rfl⟩
  case rest =>
    obtain ⟨⟨A, rfl⟩, rfl⟩ := hcut
    by_cases ho : 200 < (l : Int)
    · go_wp2_with fail
      refine (first_any _).mono ?_
      rintro e w3 ⟨rfl, k3⟩
      have K3 : Hid (Kept w w3) := H2.out.kept.trans k3
      clear k3
      go_wp2
      go_ret
      exact ⟨rfl, K3.out⟩
    · by_cases hA : 2000 < (A : Int)
      · go_wp2_with fail
        refine (first_any _).mono ?_
        rintro e w3 ⟨rfl, k3⟩
        have K3 : Hid (Kept w w3) := H2.out.kept.trans k3
        clear k3
        go_wp2
        go_ret
        exact ⟨rfl, K3.out⟩
      · go_wp2
        clear hA
        go_loopg [9, 10, 11] l (fun m vi vo i wr' => ∃ (j : Nat) (I D T : List Int) (v : Value), i = .int .i64 j ∧ j ≤ l ∧ m = l - j ∧ I.length ≤ 8 * j ∧ I.length = D.length + T.length ∧ Hid (I = D ++ T) ∧ Hid (Ord w wr' b n vi vo v I D T))
        case atStart => exact ⟨0, [], [], [], _, rfl, by omega, by omega, by simp, rfl, rfl, H2.out⟩
        case round =>
          obtain ⟨j, I, D, T, v, rfl, hj, hm, hI, hlen, HCat, HR⟩ := hrel
          have HM : Hid _ := hm
          have HLen : Hid (I.length = D.length + T.length) := hlen
          have hD : D.length ≤ I.length := by omega
          clear hm H2 hlen
          obtain ⟨yi, di, rfl⟩ := HR.out.li.form
          obtain ⟨yo, d0, rfl⟩ := HR.out.lo.form
          have hT := HR.out.tab.few
          by_cases hlt : j < l
          · obtain ⟨bx, ox, rfl, hbx, hcx⟩ := HX.out.1 (by omega)
            have e0 : wr.cell? ⟨bx, ox + j * 3, none⟩ = _ := (HR.out.kept.cell hbx).trans (hcx j hlt 0 _ (by omega) rfl)
            have e1 : wr.cell? ⟨bx, ox + j * 3 + 1, none⟩ = _ := (HR.out.kept.cell hbx).trans (hcx j hlt 1 _ (by omega) rfl)
            have e2 : wr.cell? ⟨bx, ox + j * 3 + 2, none⟩ = _ := (HR.out.kept.cell hbx).trans (hcx j hlt 2 _ (by omega) rfl)
            have RX := HX.out.2 j hlt
            clear hcx hbx HX
            generalize L j = o at *
            obtain ⟨ok, on, ol, oc, N⟩ := o
            simp only at e0 e1 e2 RX
            have HRX : Hid (Rdi w ol N) := RX
            clear RX
            go_upto_block 4 with fail
            clear e0 e1 e2
            generalize hW : wr.alloc _ = W
            have BO : Hid (Own W wr.heap.size 26 [.int .i64 ok, .int .i64 on, .slice ol N.length oc]) := by rw [← hW]; exact Own.new wr _ _
            have HW : Hid (Ord w W b n (.slice yi I.length di) (.slice yo D.length d0) v I D T) := by rw [← hW]; exact HR.out.still ((Kept.refl wr).alloc _ _)
            clear hW HR
            generalize wr.heap.size = ob at *
            go_cut [9, 10, 13, 14, 15] from 70 to 131 (fun vi vo _ _ _ wc => ∃ (I D T : List Int) (v : Value) (yi yo : Option Addr) (di d0 : Nat), vi = .slice yi I.length di ∧ vo = .slice yo D.length d0 ∧ I.length ≤ 8 * (j + 1) ∧ I.length = D.length + T.length ∧ Hid (I = D ++ T) ∧ Hid (Ord w wc b n vi vo v I D T))
            case first =>
              have NB : Hid (∀ k, k ∈ b :: v.ownBlock.toList → ob ≠ k) := fun k hk => by
                simp at hk
                rcases hk with rfl | hk
                · exact BO.out.neq HW.out.tab.head (by decide)
                · exact fun e => BO.out.nelst HW.out.tab.lst (by decide) (e ▸ hk)
              by_cases h0 : ok = 0
              · have h0' : (ok == 0) = true := by simpa using h0
                clear h0
                have c2 := BO.out.blk.at 2 rfl
                by_cases hf : T.length + N.length ≤ n
                · have z : decide ((N.length : Int) ≤ (n : Int) - ((I.length : Int) - (D.length : Int))) = true := decide_eq_true (by have := HLen.out; omega)
                  go_wp2_with fail
                  refine (put_yes (N := N) _ HW.out.tab (HRX.out.kept HW.out.kept) hf).mono ?_
                  rintro e w4 ⟨rfl, v4, s4, m4, f4⟩
                  have HE : Hid (Ord w w4 b n (.slice yi I.length di) (.slice yo D.length d0) v4 I D (T ++ N) ∧ Own w4 ob 26 [.int .i64 ok, .int .i64 on, .slice ol N.length oc] ∧ Rdi w4 ol N) := by
                    have := HW.out.tabs s4 m4 f4
                    exact ⟨this, BO.out.muts m4 (fun q => NB.out ob q rfl), HRX.out.kept this.kept⟩
                  clear s4 m4 f4 c2 HW BO
                  have c2 := HE.out.2.1.blk.at 2 rfl
                  have z1 : w.heap.size ≤ w4.heap.size := HE.out.1.kept.size
                  have z2 : I.length + N.length ≤ 1000000 := by omega
                  go_wp2_with (at_builtin; refine wpList_append_lst (T := I) (N := N) rfl _ _ rfl rfl HE.out.1.li z1 rfl rfl HE.out.2.2 z2 ?_)
                  intro v5 w5 l5 m5 f5
                  have HN : Hid (Ord w w5 b n v5 (.slice yo D.length d0) v4 (I ++ N) D (T ++ N)) := HE.out.1.ins l5 m5 f5
                  obtain ⟨y5, d5, e5⟩ := l5.form
                  rw [List.length_append] at e5
                  subst e5
                  clear l5 m5 f5 c2 HE
                  go_wp2
                  go_meet
                  case rel => exact ⟨I ++ N, D, T ++ N, v4, y5, yo, d5, d0, by rw [List.length_append], rfl, by simp; omega, by have := HLen.out; simp; omega, by have := HCat.out; simp [Hid, this], HN.out⟩
                · have z : decide ((N.length : Int) ≤ (n : Int) - ((I.length : Int) - (D.length : Int))) = false := decide_eq_false (by have := HLen.out; omega)
                  have PN := put_no (x := ol) (c := oc) (N := N) _ HW.out.tab hf
                  clear hf
                  go_wp2_with fail
                  refine PN.mono ?_
                  rintro e w4 ⟨rfl, k4⟩
                  have HE : Hid (Ord w w4 b n (.slice yi I.length di) (.slice yo D.length d0) v I D T) := HW.out.still k4
                  clear k4 c2 HW BO PN
                  go_wp2
                  go_meet
                  case rel => exact ⟨I, D, T, v, yi, yo, di, d0, rfl, rfl, by omega, HLen.out, HCat.out, HE.out⟩
              · have h0' : (ok == 0) = false := by simpa using h0
                clear h0
                by_cases h1 : ok = 1
                · have h1' : (ok == 1) = true := by simpa using h1
                  clear h1
                  have c1 := BO.out.blk.at 1 rfl
                  by_cases hk : 1 ≤ on ∧ on ≤ T.length
                  · obtain ⟨q, rfl⟩ : ∃ q : Nat, on = q := ⟨on.toNat, by omega⟩
                    have eq : (T.take q).length = q := by simp; omega
                    have y1 : decide ((q : Int) ≥ 1) = true := decide_eq_true (by omega)
                    have y2 : decide ((q : Int) ≤ (I.length : Int) - (D.length : Int)) = true := decide_eq_true (by have := HLen.out; omega)
                    have TY := take_yes (k := q) _ HW.out.tab (by omega) (by omega)
                    have HEQ : Hid ((T.take q).length = q ∧ q ≤ T.length) := ⟨eq, by omega⟩
                    clear hk eq
                    go_wp2_with fail
                    refine TY.mono ?_
                    rintro e w4 ⟨va, v4, rfl, l4, s4, m4, f4, _⟩
                    obtain ⟨ya, da, e4⟩ := l4.form
                    rw [HEQ.out.1] at e4
                    subst e4
                    have HE : Hid (Ord w w4 b n (.slice yi I.length di) (.slice yo D.length d0) v4 I D (T.drop q) ∧ Own w4 ob 26 [.int .i64 ok, .int .i64 q, .slice ol N.length oc] ∧ Rdi w4 ya (T.take q)) := ⟨HW.out.tabs s4 m4 f4, BO.out.muts m4 (fun q => NB.out ob q rfl), l4.rdi⟩
                    clear l4 s4 m4 f4 c1 HW BO TY
                    have c1 := HE.out.2.1.blk.at 1 rfl
                    have z1 : w.heap.size ≤ w4.heap.size := HE.out.1.kept.size
                    have z2 : D.length + (T.take q).length ≤ 1000000 := by rw [HEQ.out.1]; have := HEQ.out.2; have := HLen.out; omega
                    have HZ : Hid _ := z2
                    clear z2
                    go_wp2_with (at_builtin; refine wpList_append_lst (T := D) (N := T.take q) rfl _ _ rfl rfl HE.out.1.lo z1 rfl HEQ.out.1 HE.out.2.2 HZ.out ?_)
                    intro v5 w5 l5 m5 f5
                    have HN : Hid (Ord w w5 b n (.slice yi I.length di) v5 v4 I (D ++ T.take q) (T.drop q)) := HE.out.1.outs l5 m5 f5
                    obtain ⟨y5, d5, e5⟩ := l5.form
                    rw [List.length_append, HEQ.out.1] at e5
                    subst e5
                    clear l5 m5 f5 c1 HE
                    go_wp2
                    go_meet
                    case rel => exact ⟨I, D ++ T.take q, T.drop q, v4, yi, y5, di, d5, rfl, by rw [List.length_append, HEQ.out.1], by omega, by have := HEQ.out; have := HLen.out; rw [List.length_append, HEQ.out.1, List.length_drop]; omega, by have := HCat.out; simp [Hid, this], HN.out⟩
                  · have TN := take_no on _ HW.out.tab hk
                    have z1 : w.heap.size ≤ W.heap.size := HW.out.kept.size
                    have z2 : D.length + ([] : List Int).length ≤ 1000000 := by have := HLen.out; simp; omega
                    have fin : ∀ v5 w5, Lst w5 w.heap.size v5 D → Mut (Value.slice yo D.length d0).ownBlock.toList W w5 → Fresh W (Value.slice yo D.length d0) v5 → ∃ y5 d5, v5 = .slice y5 D.length d5 ∧ Ord w w5 b n (.slice yi I.length di) v5 v I D T := fun v5 w5 l5 m5 f5 => by
                      obtain ⟨y5, d5, e5⟩ := l5.form
                      exact ⟨y5, d5, e5, HW.out.outs l5 m5 f5⟩
                    have HF : Hid _ := fin
                    clear fin
                    by_cases h3 : on < 1
                    · have y1 : decide (on ≥ 1) = false := decide_eq_false (by omega)
                      clear hk
                      go_wp2_with fail
                      refine TN.mono ?_
                      rintro e w4 ⟨rfl, rfl⟩
                      go_wp2_with (at_builtin; refine wpList_append_lst (T := D) (N := []) rfl _ _ rfl rfl HW.out.lo z1 rfl rfl Rdi.nil z2 ?_)
                      intro v5 w5 l5 m5 f5
                      obtain ⟨y5, d5, rfl, hN⟩ := HF.out v5 w5 l5 m5 f5
                      have HN : Hid (Ord w w5 b n (.slice yi I.length di) (.slice y5 D.length d5) v I D T) := hN
                      clear l5 m5 f5 hN c1 HW HF TN z2
                      go_wp2
                      go_meet
                      case rel => exact ⟨I, D, T, v, yi, y5, di, d5, rfl, rfl, by omega, HLen.out, HCat.out, HN.out⟩
                    · have y1 : decide (on ≥ 1) = true := decide_eq_true (by omega)
                      have y2 : decide (on ≤ (I.length : Int) - (D.length : Int)) = false := decide_eq_false (by have := HLen.out; omega)
                      clear hk
                      go_wp2_with fail
                      refine TN.mono ?_
                      rintro e w4 ⟨rfl, rfl⟩
                      go_wp2_with (at_builtin; refine wpList_append_lst (T := D) (N := []) rfl _ _ rfl rfl HW.out.lo z1 rfl rfl Rdi.nil z2 ?_)
                      intro v5 w5 l5 m5 f5
                      obtain ⟨y5, d5, rfl, hN⟩ := HF.out v5 w5 l5 m5 f5
                      have HN : Hid (Ord w w5 b n (.slice yi I.length di) (.slice y5 D.length d5) v I D T) := hN
                      clear l5 m5 f5 hN c1 HW HF TN z2
                      go_wp2
                      go_meet
                      case rel => exact ⟨I, D, T, v, yi, y5, di, d5, rfl, rfl, by omega, HLen.out, HCat.out, HN.out⟩
                · have h1' : (ok == 1) = false := by simpa using h1
                  clear h1
                  by_cases h2 : ok = 2
                  · have h2' : (ok == 2) = true := by simpa using h2
                    clear h2
                    obtain ⟨yv, dv, rfl⟩ := HW.out.tab.lst.form
                    go_wp2_with fail
                    refine (drain_any _ HW.out.tab).mono ?_
                    rintro e w4 ⟨rfl, s4, m4⟩
                    have HE : Hid (Ord w w4 b n (.slice yi I.length di) (.slice yo D.length d0) (.slice none 0 0) I D [] ∧ Rdi w4 yv T) :=
                      ⟨HW.out.tabs s4 (m4.wide fun k hk => by simp at hk; simp [hk]) (fun k hk => by cases hk), (HW.out.tab.lst.muts m4 (fun k hk hd => by simp at hd; subst hd; exact HW.out.tab.ne hk)).rdi⟩
                    clear s4 m4 HW BO
                    have z1 : w.heap.size ≤ w4.heap.size := HE.out.1.kept.size
                    have z2 : D.length + T.length ≤ 1000000 := by have := HLen.out; omega
                    go_wp2_with (at_builtin; refine wpList_append_lst (T := D) (N := T) rfl _ _ rfl rfl HE.out.1.lo z1 rfl rfl HE.out.2 z2 ?_)
                    intro v5 w5 l5 m5 f5
                    have HN : Hid (Ord w w5 b n (.slice yi I.length di) v5 (.slice none 0 0) I (D ++ T) []) := HE.out.1.outs l5 m5 f5
                    obtain ⟨y5, d5, e5⟩ := l5.form
                    rw [List.length_append, ← HLen.out] at e5
                    subst e5
                    clear l5 m5 f5 HE
                    have y1 : ((I.length : Int) != (I.length : Int)) = false := by simp
                    go_wp2
                    go_meet
                    case rel => exact ⟨I, D ++ T, [], .slice none 0 0, yi, y5, di, d5, rfl, by rw [List.length_append, HLen.out], by omega, by have := HLen.out; simp; omega, by have := HCat.out; simp [Hid, this], HN.out⟩
                  · have h2' : (ok == 2) = false := by simpa using h2
                    clear h2
                    go_wp2
                    go_meet
                    case rel => exact ⟨I, D, T, v, yi, yo, di, d0, rfl, rfl, by omega, HLen.out, HCat.out, HW.out⟩
            case rest =>
              clear HCat HLen hI HW hT HRX hD
              obtain ⟨I, D, T, v, yi, yo, di, d0, rfl, rfl, hI, hlen, HCat, HC⟩ := hcut
              have HLen : Hid (I.length = D.length + T.length) := hlen
              have hD : D.length ≤ I.length := by omega
              have HI := ints_any (x := yo) (y := yi) (c := d0) (d := di) (T := D) _ (by omega) HC.out.lo.rdi (by
                have := HC.out.li.rdi.take D.length
                rwa [HCat.out, List.take_left] at this)
              have z1 : ¬ (D.length : Int) > (I.length : Int) := by omega
              have HE : Hid ((I.length : Int) - (D.length : Int) = (T.length : Int)) := by
                show (I.length : Int) - (D.length : Int) = (T.length : Int)
                omega
              have zc : D.length ≤ di := by have := HC.out.li.cap; omega
              have zd : (D.length : Int) ≤ (di : Int) := by omega
              clear hlen
              go_wp2_with fail
              refine HI.mono ?_
              rintro e w6 ⟨rfl, k6⟩
              have H6 : Hid (Ord w w6 b n (.slice yi I.length di) (.slice yo D.length d0) v I D T) := HC.out.still k6
              clear k6 HC HI
              go_wp2_with fail
              refine (len_any _ H6.out.tab).mono ?_
              rintro e w7 ⟨rfl, rfl⟩
              have y1 : ((T.length : Int) != (I.length : Int) - (D.length : Int)) = false := by have := HE.out; simp; omega
              go_wp2
              go_roundg (l - (j + 1))
              all_goals (have := HM.out; try omega)
              exact ⟨j + 1, I, D, T, v, by go_num, by omega, rfl, by omega, HLen.out, HCat.out, H6.out⟩
          · obtain rfl : l = j := by omega
            have K2 : Hid (Kept w wr) := HR.out.kept
            clear HR HM
            go_wp2_with fail
            refine (first_any _).mono ?_
            rintro e w3 ⟨rfl, k3⟩
            have K3 : Hid (Kept w w3) := K2.out.trans k3
            clear k3
            go_wp2
            go_ret
            exact ⟨rfl, K3.out⟩

theorem stockOrder_any (n0 : Int) (x1 : Option Addr) (l1 c1 : Nat) (L1 : Nat → Op9) (w : World) (_lo0 : IntKind.min .i64 ≤ n0) (_hi0 : n0 ≤ IntKind.max .i64) (_h1c : l1 ≤ c1) (hL1 : Ops w x1 l1 L1) :
    Calls Try.prog 4 #[.int .i64 n0, .slice x1 l1 c1] w fun e w' => e = .returned (.bool true) ∧ Kept w w' := by
  by_cases hn : 0 ≤ n0 ∧ n0 ≤ 8
  · obtain ⟨n, rfl⟩ : ∃ n : Nat, n0 = n := ⟨n0.toNat, by omega⟩
    exact order_in n x1 l1 c1 L1 w hL1 hn.2
  · exact order_bad n0 x1 l1 c1 L1 w hL1 hn
end Go.Proofs.Ytfeloacafkebhaa
