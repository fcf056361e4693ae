/-
  LineDrops: the walk.
-/
import Derived.Test.YtbbbkeomdhimlaaFirst10
import Derived.Test.YtbbbkeomdhimlaaElems
import Derived.Deep.CutBlock
namespace Go.Proofs.Ytbbbkeomdhimlaa
open Go.RowKit

/-- A line and a list of numbers, both the call's own, apart from one another; the list holds the threads in their order; all wait. -/
structure Drp (w u : World) (b : Nat) (v ov : Value) (E : List Ent) (O : List Int) : Prop where
  tab : LTab u w.heap.size b v E
  kept : Kept w u
  lo : Lst u w.heap.size ov O
  ap : ∀ k, k ∈ foot b v E → ov.ownBlock ≠ some k
  eq : O = E.map Ent.th
  nd : O.Nodup
  wt : ∀ e ∈ E, e.st = 0
section
variable {w u u' : World} {b : Nat} {v v' ov ov' : Value} {E E' : List Ent} {O O' : List Int}
theorem Drp.still (h : Drp w u b v ov E O) (k : Kept u u') : Drp w u' b v ov E O := ⟨h.tab.kept k, h.kept.trans k, h.lo.kept k, h.ap, h.eq, h.nd, h.wt⟩
theorem mem_own {k : Nat} (hk : k ∈ b :: v.ownBlock.toList) : k ∈ foot b v E := by
  simp at hk
  rcases hk with rfl | hk
  · exact mem_foot.2 (.inl rfl)
  · exact mem_foot.2 (.inr (.inl hk))
/-- The line turns, then the list. -/
theorem Drp.turn {w u u1 u2 : World} {b : Nat} {v v' ov ov' : Value} {E E' : List Ent} {O O' : List Int} (h : Drp w u b v ov E O) (t : LTab u1 w.heap.size b v' E') (m : Mut (b :: v.ownBlock.toList) u u1) (f : ∀ k, k ∈ foot b v' E' → k ∈ foot b v E ∨ u.heap.size ≤ k)
    (l : Lst u1 w.heap.size ov O → (∀ k, k ∈ foot b v' E' → ov.ownBlock ≠ some k) → Lst u2 w.heap.size ov' O' ∧ Mut ov.ownBlock.toList u1 u2 ∧ Fresh u1 ov ov') (e : O' = E'.map Ent.th) (n : O'.Nodup) (wt : ∀ e ∈ E', e.st = 0) : Drp w u2 b v' ov' E' O' := by
  have l1 : Lst u1 w.heap.size ov O := h.lo.muts m (fun k hk hd => h.ap k (mem_own hd) hk)
  have a1 : ∀ k, k ∈ foot b v' E' → ov.ownBlock ≠ some k := fun k hk q => by
    rcases f k hk with g | g
    · exact h.ap k g q
    · have := (h.lo.lt k q).2; omega
  obtain ⟨l2, m2, f2⟩ := l l1 a1
  have k1 : Kept w u1 := h.kept.muts m (fun k hk => (h.tab.own k hk).1)
  refine ⟨t.muts m2 (fun k hk hd => a1 k hk (by simpa using hd)), k1.muts m2 (fun k hk => (l1.lt k (by simpa using hk)).1), l2, fun k hk q => ?_, e, n, wt⟩
  rcases f2 k q with g | g
  · exact a1 k hk g
  · have := (t.lt k hk).2; omega
/-- What is added: both have it behind all. -/
theorem Drp.len (h : Drp w u b v ov E O) : O.length = E.length := by rw [h.eq]; simp
theorem Drp.at (h : Drp w u b v ov E O) {a : Nat} {d : Int} (ha : O[a]? = some d) : a < E.length ∧ idx (fun e => e.th == d) E = (a : Int) := by
  obtain ⟨ha', hd⟩ := List.getElem?_eq_some_iff.1 ha
  have hl : a < E.length := by rw [← h.len]; exact ha'
  have key : ∀ i (hi : i < E.length), E[i].th = O[i]'(by rw [h.len]; exact hi) := fun i hi => by simp [h.eq]
  refine ⟨hl, idx_at hl (by simp [key a hl, hd]) fun e he => ?_⟩
  obtain ⟨i, hi, rfl⟩ := List.mem_take_iff_getElem.1 he
  have hi1 : i < E.length := by omega
  simp only [beq_eq_false_iff_ne, ne_eq, key i hi1]
  intro q
  have := (List.getElem_inj h.nd).1 (q.trans hd.symm)
  omega
theorem Drp.no (h : Drp w u b v ov E O) {d : Int} (hd : d ∉ O) : ∀ e ∈ E, e.th ≠ d := fun e he q => hd (by rw [h.eq]; exact List.mem_map.2 ⟨e, he, q⟩)
theorem Drp.first (h : Drp w u b v ov E O) : E.find? (fun e => e.st == 0) = E.head? := by
  cases E with
  | nil => rfl
  | cons e E =>
    have := h.wt e List.mem_cons_self
    simp [this]
theorem Drp.waits (h : Drp w u b v ov E O) : (wts E).length = O.length := by
  rw [h.len]
  unfold wts
  rw [List.filter_eq_self.2 (fun e he => by simp [h.wt e he])]
end

theorem not_mem_erase {O : List Int} {a : Nat} {d : Int} (n : O.Nodup) (h : O[a]? = some d) : d ∉ O.eraseIdx a := fun q => by
  obtain ⟨i, hi, hne, e⟩ := List.mem_eraseIdx_iff_getElem.1 q
  obtain ⟨ha, e2⟩ := List.getElem?_eq_some_iff.1 h
  exact hne ((List.getElem_inj n).1 (e.trans e2.symm))
theorem nodup_snoc {O : List Int} {d : Int} (n : O.Nodup) (h : d ∉ O) : (O ++ [d]).Nodup := List.nodup_append.2 ⟨n, by simp, fun a ha b hb q => by simp at hb; subst hb; exact h (q ▸ ha)⟩

/-- Where d is among the first k of O: the last place; -1. -/
def AtL (O : List Int) (d : Int) (k : Nat) (z : Int) : Prop := (z = -1 ∧ d ∉ O.take k) ∨ ∃ a : Nat, z = (a : Int) ∧ a < k ∧ O[a]? = some d
theorem AtL.yes {O : List Int} {d : Int} {k : Nat} (hk : k < O.length) (e : O[k] = d) : AtL O d (k + 1) (k : Int) := .inr ⟨k, rfl, by omega, by rw [List.getElem?_eq_getElem hk, e]⟩
theorem AtL.no {O : List Int} {d : Int} {k : Nat} {z : Int} (h : AtL O d k z) (hk : k < O.length) (e : O[k] ≠ d) : AtL O d (k + 1) z := by
  rcases h with ⟨h1, h2⟩ | ⟨a, h1, h2, h3⟩
  · exact .inl ⟨h1, has_no hk h2 e⟩
  · exact .inr ⟨a, h1, by omega, h3⟩

set_option maxHeartbeats 2000000 in
set_option maxRecDepth 20000 in
theorem drops_bad (n0 : Int) (x : Option Addr) (l c : Nat) (w : World) (h : n0 < 1 ∨ ¬ n0 < 1 ∧ n0 > 50 ∨ ¬ n0 < 1 ∧ ¬ n0 > 50 ∧ (l : Int) > 100) :
    Calls Try.prog 6 #[.int .i64 n0, .slice x l c] w fun e w' => e = .returned (.bool true) ∧ Kept w w' := by
  have HF : Hid (∀ w : World, _) := fun w => lfirst_any w
  have HN : Hid (∀ w : World, _) := fun w => new_any w (base := w.heap.size) (Nat.le_refl _)
  rcases h with h | ⟨h0, h⟩ | ⟨h0, h1, h⟩
  all_goals
    go_enter Try.func6, Try.ntmps6
    go_wp2_with fail
    refine (HF.out _).mono ?_
    rintro e w1 ⟨rfl, k1⟩
    have K1 : Hid (Kept w w1) := k1
    clear k1
    go_wp2_with fail
    refine (HN.out _).mono ?_
    rintro e w2 ⟨b, rfl, -, k2, -⟩
    have K2 : Hid (Kept w w2) := K1.out.trans k2
    clear k2 K1
    go_wp2_with fail
    refine (HF.out _).mono ?_
    rintro e w3 ⟨rfl, k3⟩
    have K3 : Hid (Kept w w3) := K2.out.trans k3
    clear k3 K2
    go_wp2
    go_ret
    exact ⟨rfl, K3.out⟩

theorem agg_in (e : Ent) (y : Option Addr) (d : Nat) : e.agg y d = .agg #[.int .i64 e.th, .int .i64 e.fr, .int .i64 e.sp, .int .i64 e.st, .int .i64 e.cy, .int .i64 e.pl, .slice y e.G.length d] := rfl

theorem append_run {w : World} {base : Nat} {v : Value} {T N : List Int} (h : Lst w base v T) (hb : base ≤ w.heap.size) {y : Option Addr} {c : Nat} (hy : Rdi w y N) (hn : T.length + N.length ≤ 1000000) :
    ∃ v' w', (Builtin.append_ #[28, 28] 28 #[v, .slice y N.length c]).run Try.prog w = .ok v' w' ∧ Lst w' base v' (T ++ N) ∧ Mut v.ownBlock.toList w w' ∧ Fresh w v v' := run_append_lst _ h hb hy hn

set_option maxHeartbeats 20000000 in
set_option maxRecDepth 20000 in
theorem drops_in (n : Nat) (x : Option Addr) (l c : Nat) (L : Nat → Int) (w : World) (hX : Ints w x l L) (hn : 1 ≤ n) (hn2 : n ≤ 50) (hl : l ≤ 100) :
    Calls Try.prog 6 #[.int .i64 n, .slice x l c] w fun e w' => e = .returned (.bool true) ∧ Kept w w' := by
  have HX : Hid (Ints w x l L) := hX
  clear hX
  go_enter Try.func6, Try.ntmps6
  go_wp2_with fail
  refine (lfirst_any _).mono ?_
  rintro e w1 ⟨rfl, k1⟩
  have K1 : Hid (Kept w w1) := k1
  clear k1
  go_wp2_with fail
  refine (new_any _ K1.out.size).mono ?_
  rintro e w2 ⟨b, rfl, t2, k2, -⟩
  have H2 : Hid (Drp w w2 b (.slice none 0 0) (.slice none 0 0) [] []) := ⟨t2, K1.out.trans k2, Lst.nil _ _, fun k _ q => (by cases q), rfl, by simp, by simp⟩
  clear k2 K1 t2
  have e1 : ¬ (n : Int) < 1 := by omega
  have e2 : ¬ (n : Int) > 50 := by omega
  have e3 : ¬ (l : Int) > 100 := by omega
  go_wp2_with fail
  clear e1 e2 e3
  go_loopg [6, 7] n (fun m vo t wr => ∃ k : Nat, t = .int .i64 k ∧ k ≤ n ∧ m = n - k ∧ ∃ (y : Option Addr) (d : Nat), vo = .slice y k d ∧ Hid (∃ v E O, Drp w wr b v (.slice y k d) E O ∧ O.length = k ∧ ∀ o ∈ O, o < (k : Int)))
  case atStart => exact ⟨0, rfl, by omega, by omega, _, _, rfl, _, _, _, H2.out, rfl, by simp⟩
  case round =>
    obtain ⟨k, rfl, hk, hm, yo, co, rfl, hw⟩ := hrel
    have HM : Hid _ := hm
    clear hm H2
    by_cases hlt : k < n
    · obtain ⟨v, E, O, h3, hO1, hO2⟩ := hw.out
      have H3 : Hid (Drp w wr b v (.slice yo k co) E O ∧ O.length = k ∧ ∀ o ∈ O, o < (k : Int)) := ⟨h3, hO1, hO2⟩
      have NO : Hid ((k : Int) ∉ O) := fun q => by have := hO2 _ q; omega
      clear h3 hO1 hO2 hw
      have A := add_yes (t := (k : Int)) (f := 0) (s := 0) (s3 := 0) (s4 := 0) (s5 := 0) (x := none) (l := 0) (c := 0) _ H3.out.1.tab (by rw [← H3.out.1.len, H3.out.2.1]; omega) (H3.out.1.no NO.out)
      go_wp2_with fail
      refine A.mono ?_
      rintro e w4 ⟨rfl, v4, t4, m4, f4⟩
      have H4 : Hid (∀ w5 v5, (Lst w4 w.heap.size (.slice yo k co) O → (∀ j, j ∈ foot b v4 (E ++ [newEnt (k : Int) 0 0]) → (Value.slice yo k co).ownBlock ≠ some j) → Lst w5 w.heap.size v5 (O ++ [(k : Int)]) ∧ Mut (Value.slice yo k co).ownBlock.toList w4 w5 ∧ Fresh w4 (.slice yo k co) v5) → Drp w w5 b v4 v5 (E ++ [newEnt (k : Int) 0 0]) (O ++ [(k : Int)])) := fun w5 v5 l5 =>
        H3.out.1.turn t4 m4 f4 l5 (by rw [H3.out.1.eq]; simp [newEnt]) (nodup_snoc H3.out.1.nd NO.out) (fun e he => by
          rcases List.mem_append.1 he with he | he
          · exact H3.out.1.wt e he
          · simp at he; subst he; rfl)
      have L4 : Hid (Lst w4 w.heap.size (.slice yo k co) O) := H3.out.1.lo.muts m4 (fun j hj hd => H3.out.1.ap j (mem_own hd) hj)
      have z4 : w.heap.size ≤ w4.heap.size := by have := H3.out.1.kept.size; have := m4.size; omega
      clear t4 m4 f4 A
      have z1 : w.heap.size ≤ (w4.alloc (.cells #[.int .i64 (k : Int)] 3)).heap.size := by simp; omega
      have z2 : O.length + ([(k : Int)] : List Int).length ≤ 1000000 := by rw [H3.out.2.1]; simp; omega
      have R4 : Hid _ := rdi_lit w4 [(k : Int)]
      have L5 : Hid _ := L4.out.alloc #[.int .i64 (k : Int)] 3
      go_wp2_with (at_builtin; refine wpList_append_lst (T := O) (N := [(k : Int)]) rfl _ _ rfl rfl L5.out z1 rfl rfl R4.out z2 ?_)
      intro v5 w5 l5 m5 f5
      have H5 : Hid (Drp w w5 b v4 v5 (E ++ [newEnt (k : Int) 0 0]) (O ++ [(k : Int)])) := H4.out w5 v5 (fun _ _ => ⟨l5, ((Mut.refl _ _).alloc _).trans m5, fun j hj => by
        rcases f5 j hj with q | q
        · exact .inl q
        · exact .inr (by simp at q; omega)⟩)
      have HB : Hid ((O ++ [(k : Int)]).length = k + 1 ∧ ∀ o ∈ O ++ [(k : Int)], o < ((k + 1 : Nat) : Int)) := ⟨by rw [List.length_append, H3.out.2.1]; rfl, fun o ho => by
        rcases List.mem_append.1 ho with ho | ho
        · have := H3.out.2.2 o ho; omega
        · simp at ho; omega⟩
      obtain ⟨y5, d5, e5⟩ := l5.form
      rw [HB.out.1] at e5
      subst e5
      clear l5 m5 f5 z1 z2 z4 H3 H4 L4 L5 R4 NO
      go_wp2
      go_roundg (gk - 1)
      all_goals (have := HM.out; try omega)
      exact ⟨k + 1, by go_num, by omega, by omega, _, _, rfl, _, _, _, H5.out, HB.out⟩
    · obtain rfl : k = n := by omega
      obtain ⟨wA, rfl⟩ : ∃ wA, wA = wr := ⟨_, rfl⟩
      clear HM
      go_wp2_with fail
      go_loopg [6, 8] l (fun m vo t wr => ∃ j : Nat, t = .int .i64 j ∧ j ≤ l ∧ m = l - j ∧ ∃ (y : Option Addr) (q d : Nat), vo = .slice y q d ∧ q ≤ 50 ∧ Hid (∃ v E O, Drp w wr b v (.slice y q d) E O ∧ O.length = q))
      case atStart => exact ⟨0, rfl, by omega, by omega, _, _, _, rfl, by omega, by
        obtain ⟨v, E, O, h3, hO1, hO2⟩ := hw.out
        exact ⟨v, E, O, h3, hO1⟩⟩
      case round =>
        clear hw
        obtain ⟨j, rfl, hj, hm, yo, q, co, rfl, hq, hw⟩ := hrel
        have HM : Hid _ := hm
        clear hm
        by_cases hlt : j < l
        · obtain ⟨v, E, O, h3, hO⟩ := hw.out
          have H3 : Hid (Drp w wr b v (.slice yo q co) E O ∧ O.length = q) := ⟨h3, hO⟩
          clear h3 hO hw
          obtain ⟨bx, ox, rfl, hbx, hcx⟩ := HX.out.at (by omega)
          have HD : Hid (∀ w', Kept w w' → w'.cell? ⟨bx, ox + j, none⟩ = some (.int .i64 (L j))) := fun w' k => (k.cell hbx).trans (hcx j hlt)
          clear hcx hbx HX
          generalize L j = dd at *
          obtain ⟨wB, rfl⟩ : ∃ wB, wB = wr := ⟨_, rfl⟩
          go_wp2_with fail
          go_loopg [9, 10] q (fun m va i wr2 => ∃ k2 : Nat, i = .int .i64 k2 ∧ k2 ≤ q ∧ m = q - k2 ∧ ∃ z : Int, va = .int .i64 z ∧ Hid (AtL O dd k2 z ∧ Kept wB wr2))
          case atStart => exact ⟨0, rfl, by omega, by omega, -1, rfl, .inl ⟨rfl, by simp⟩, Kept.refl _⟩
          case round =>
            obtain ⟨k2, rfl, hk2, hm, z, rfl, hz⟩ := hrel
            have HM2 : Hid _ := hm
            clear hm
            by_cases hlt2 : k2 < q
            · have hlO : k2 < O.length := by rw [H3.out.2]; exact hlt2
              obtain ⟨g, o, ey, _, cc⟩ := H3.out.1.lo.rdi (by omega)
              subst ey
              have c1 := (hz.out.2.cell (a := ⟨g, o + k2, none⟩) (by assumption)).trans (cc k2 hlO)
              have c2 := HD.out wr (H3.out.1.kept.trans hz.out.2)
              have HY : Hid (O[k2] = dd → AtL O dd (k2 + 1) (k2 : Int)) := fun e => AtL.yes hlO e
              have HNo : Hid (O[k2] ≠ dd → AtL O dd (k2 + 1) z) := fun e => hz.out.1.no hlO e
              clear cc
              generalize O[k2] = ok at *
              by_cases ht : ok = dd
              · have e1 : (ok == dd) = true := by simpa using ht
                have HE : Hid _ := HY.out ht
                clear ht HY HNo
                go_wp2
                go_region
                all_goals go_wp2
                all_goals go_roundg (q - (k2 + 1))
                all_goals (have := HM2.out; try omega)
                all_goals exact ⟨k2 + 1, by go_num, by omega, by omega, _, rfl, HE.out, hz.out.2.drew⟩
              · have e1 : (ok == dd) = false := by simpa using ht
                have HE : Hid _ := HNo.out ht
                clear ht HY HNo
                go_wp2
                go_region
                all_goals go_wp2
                all_goals go_roundg (q - (k2 + 1))
                all_goals (have := HM2.out; try omega)
                all_goals exact ⟨k2 + 1, by go_num, by omega, by omega, _, rfl, HE.out, hz.out.2.drew⟩
            · obtain rfl : k2 = q := by omega
              have H4 : Hid (Drp w wr b v (.slice yo k2 co) E O ∧ O.length = k2) := ⟨H3.out.1.still hz.out.2, H3.out.2⟩
              have c2 := HD.out wr H4.out.1.kept
              have HZ : Hid ((z = -1 ∧ dd ∉ O) ∨ ∃ a : Nat, z = (a : Int) ∧ a < k2 ∧ O[a]? = some dd) := by
                rcases hz.out.1 with ⟨h1, h2⟩ | h
                · exact .inl ⟨h1, by rwa [List.take_of_length_le (by rw [H3.out.2]; omega)] at h2⟩
                · exact .inr h
              clear hz H3 HM2
              rcases HZ.out with ⟨hz1, hz2⟩ | ⟨a, hz1, ha, haO⟩
              · subst hz1
                have C := drop_no (t := dd) _ H4.out.1.tab (idx_none fun e he => by simpa using H4.out.1.no hz2 e he)
                clear HZ hz2
                go_wp2_with fail
                refine C.mono ?_
                rintro e w5 ⟨rfl, k5⟩
                have H5 : Hid (Drp w w5 b v (.slice yo k2 co) E O ∧ O.length = k2) := ⟨H4.out.1.still k5, H4.out.2⟩
                clear k5 C c2 H4 HD
                obtain ⟨vz, Ez, Oz, hz⟩ : ∃ vz Ez Oz, Drp w w5 b vz (.slice yo k2 co) Ez Oz ∧ Oz.length = k2 := ⟨_, _, _, H5.out⟩
                have HH : Hid _ := hz
                clear hz H5
                have CF := first_any _ HH.out.1.tab
                rw [HH.out.1.first] at CF
                have hqz : k2 ≤ 50 := by first | omega | (have := HT.out; omega)
                cases Ez with
                | nil =>
                  have hq0 : k2 = 0 := by have h1 := HH.out.1.len; rw [HH.out.2] at h1; simpa using h1
                  rw [show ([] : List Ent).head? = none from rfl] at CF
                  have z1 : decide ((k2 : Int) > 0) = false := decide_eq_false (by omega)
                  have z2 : decide (0 < k2) = false := decide_eq_false (by omega)
                  have z3 : ((k2 : Int) != (k2 : Int)) = false := by simp
                  have HQ0 : Hid (k2 = 0) := hq0
                  clear hq0
                  go_wp2_with fail
                  refine CF.mono ?_
                  rintro e wP ⟨yP, dP, rfl, -, -, kP⟩
                  rw [show (told none).agg yP dP = .agg #[.int .i64 0, .int .i64 0, .int .i64 0, .int .i64 0, .int .i64 0, .int .i64 0, .slice yP 0 dP] from rfl, show (none : Option Ent).isSome = false from rfl]
                  have HP : Hid (Drp w wP b vz (.slice yo k2 co) [] Oz ∧ Oz.length = k2) := ⟨HH.out.1.still kP, HH.out.2⟩
                  clear kP CF HH
                  go_upto_region 31 with fail
                  generalize hW : wP.alloc _ = WP
                  have HR : Hid (Drp w WP b vz (.slice yo k2 co) [] Oz ∧ Oz.length = k2) := ⟨by rw [← hW]; exact HP.out.1.still ((Kept.refl _).alloc _ _), HP.out.2⟩
                  clear hW HP
                  have G : Hid (∀ x : KW WP, Calls Try.prog 27 #[.pointer (some ⟨b, 0, none⟩)] x.it fun r w' => r = .returned (.int .i64 (k2 : Int)) ∧ Kept x.it w') := fun x => by
                    have := waits_any _ (HR.out.1.still x.ok).tab
                    rwa [HR.out.1.waits, HR.out.2] at this
                  refine wp_region_kept (by kernel_rfl) (by kernel_rfl) fun _ => ?_
                  repeat (go_big_quiet_step (first | (go_at_call 27; exact kept_of (G.out _))))
                  refine wpQuiet_nil ?_
                  rintro _ ⟨z, rfl⟩
                  have HZ : Hid (∃ v E O, Drp w z.it b v (.slice yo k2 co) E O ∧ O.length = k2) := ⟨_, _, _, HR.out.1.still z.ok, HR.out.2⟩
                  clear G HR
                  go_wp2
                  go_roundg (l - (j + 1))
                  all_goals (have := HM.out; try omega)
                  exact ⟨j + 1, by go_num, by omega, rfl, _, _, _, rfl, by omega, HZ.out⟩
                | cons e0 E2 =>
                  have hq0 : 0 < Oz.length := by rw [HH.out.1.len]; simp
                  have hq1 : 0 < k2 := by rw [← HH.out.2]; exact hq0
                  rw [show (e0 :: E2).head? = some e0 from rfl] at CF
                  have z1 : decide ((k2 : Int) > 0) = true := decide_eq_true (by omega)
                  have z2 : decide (0 < k2) = true := decide_eq_true (by omega)
                  have z3 : ((k2 : Int) != (k2 : Int)) = false := by simp
                  have z4 : (e0.th != e0.th) = false := by simp
                  have z5 : (0 : Int) < (k2 : Int) := by omega
                  obtain ⟨g1, o1, ey, hg1, cc⟩ := HH.out.1.lo.rdi hq0
                  subst ey
                  have c1 := cc 0 hq0
                  rw [show Oz[0] = e0.th by simp [HH.out.1.eq]] at c1
                  rw [Nat.add_zero] at c1
                  clear cc
                  have HQ1 : Hid (0 < k2) := hq1
                  clear hq0 hq1
                  go_wp2_with fail
                  refine CF.mono ?_
                  rintro e wP ⟨yP, dP, rfl, -, -, kP⟩
                  rw [show (told (some e0)) = e0 from rfl, agg_in, show (some e0).isSome = true from rfl]
                  have HP : Hid (Drp w wP b vz (.slice (some ⟨g1, o1, none⟩) k2 co) (e0 :: E2) Oz ∧ Oz.length = k2) := ⟨HH.out.1.still kP, HH.out.2⟩
                  have c2 := (kP.cell (a := ⟨g1, o1, none⟩) hg1).trans c1
                  have hg2 : g1 < wP.heap.size := Nat.lt_of_lt_of_le hg1 kP.size
                  clear kP CF HH c1 hg1
                  go_upto_region 31 with fail
                  generalize hW : wP.alloc _ = WP
                  have HR : Hid (Drp w WP b vz (.slice (some ⟨g1, o1, none⟩) k2 co) (e0 :: E2) Oz ∧ Oz.length = k2) := ⟨by rw [← hW]; exact HP.out.1.still ((Kept.refl _).alloc _ _), HP.out.2⟩
                  have bP : Blk WP wP.heap.size [.int .i64 e0.th, .int .i64 e0.fr, .int .i64 e0.sp, .int .i64 e0.st, .int .i64 e0.cy, .int .i64 e0.pl, .slice yP e0.G.length dP] := by rw [← hW]; exact Blk.new wP _ _
                  have kW : Kept wP WP := by rw [← hW]; exact (Kept.refl _).alloc _ _
                  have d1 := fun z : KW WP => z.cell bP.lt (bP.at 0 rfl)
                  have d2 := fun z : KW WP => z.cell (a := ⟨g1, o1, none⟩) (Nat.lt_of_lt_of_le hg2 kW.size) ((kW.cell hg2).trans c2)
                  clear hW HP bP kW c2 hg2
                  have G : Hid (∀ x : KW WP, Calls Try.prog 27 #[.pointer (some ⟨b, 0, none⟩)] x.it fun r w' => r = .returned (.int .i64 (k2 : Int)) ∧ Kept x.it w') := fun x => by
                    have := waits_any _ (HR.out.1.still x.ok).tab
                    rwa [HR.out.1.waits, HR.out.2] at this
                  refine wp_region_kept (by kernel_rfl) (by kernel_rfl) fun _ => ?_
                  repeat (go_big_quiet_step (first | (go_at_call 27; exact kept_of (G.out _))))
                  refine wpQuiet_nil ?_
                  rintro _ ⟨z, rfl⟩
                  have HZ : Hid (∃ v E O, Drp w z.it b v (.slice (some ⟨g1, o1, none⟩) k2 co) E O ∧ O.length = k2) := ⟨_, _, _, HR.out.1.still z.ok, HR.out.2⟩
                  clear G HR d1 d2
                  go_wp2
                  go_roundg (l - (j + 1))
                  all_goals (have := HM.out; try omega)
                  exact ⟨j + 1, by go_num, by omega, rfl, _, _, _, rfl, by omega, HZ.out⟩
              · subst hz1
                obtain ⟨hlE, hidx⟩ := H4.out.1.at haO
                have C := drop_yes (t := dd) _ H4.out.1.tab hlE hidx
                have NE : Hid (dd ∉ O.eraseIdx a) := not_mem_erase H4.out.1.nd haO
                have HA : Hid (a < O.length) := by rw [H4.out.2]; exact ha
                clear HZ hidx haO
                go_wp2_with fail
                refine C.mono ?_
                rintro e w5 ⟨rfl, v5, t5, m5, f5⟩
                have L5 : Hid (Lst w5 w.heap.size (.slice yo k2 co) O ∧ O.length = k2) := ⟨H4.out.1.lo.muts m5 (fun j hj hd => H4.out.1.ap j (mem_own hd) hj), H4.out.2⟩
                have K5 : Hid (Kept w w5) := H4.out.1.kept.muts m5 (fun j hj => (H4.out.1.tab.own j hj).1)
                have H5 : Hid (∀ w6 v6 O', O' = O.eraseIdx a → (Lst w5 w.heap.size (.slice yo k2 co) O → (∀ j, j ∈ foot b v5 (E.eraseIdx a) → (Value.slice yo k2 co).ownBlock ≠ some j) → Lst w6 w.heap.size v6 O' ∧ Mut (Value.slice yo k2 co).ownBlock.toList w5 w6 ∧ Fresh w5 (.slice yo k2 co) v6) → Drp w w6 b v5 v6 (E.eraseIdx a) O') := fun w6 v6 O' eO l6 =>
                  H4.out.1.turn t5 m5 f5 l6 (by rw [eO, H4.out.1.eq, List.eraseIdx_eq_take_drop_succ, List.eraseIdx_eq_take_drop_succ, List.map_append, List.map_take, List.map_drop]) (by rw [eO]; exact H4.out.1.nd.sublist (List.eraseIdx_sublist _ _)) (fun e he => H4.out.1.wt e (List.mem_of_mem_eraseIdx he))
                have HE0 : Hid (E.length = k2) := by rw [← H4.out.1.len]; exact H4.out.2
                clear t5 m5 f5 C c2 H4
                have hco : k2 ≤ co := by
                  rcases L5.out.1.2 with ⟨e, h0⟩ | ⟨g, cap, cur, e, _, _, hc, _⟩
                  · have := HA.out; omega
                  · obtain ⟨_, _, rfl⟩ := Value.slice.inj e
                    have := L5.out.2; omega
                obtain ⟨g, o, ey, _, _⟩ := L5.out.1.rdi (by have := HA.out; omega)
                subst ey
                have ho : o = 0 := by
                  rcases L5.out.1.2 with ⟨e, _⟩ | ⟨g', cap, cur, e, _⟩
                  · cases e
                  · have := (Value.slice.inj e).1; simp at this; exact this.2
                subst ho
                have RL : Hid (Rdi w5 (some ⟨g, 0, none⟩) (O.take a) ∧ (O.take a).length = a) := ⟨L5.out.1.rdi.take a, by rw [List.length_take]; have := HA.out; omega⟩
                have RR : Hid (Rdi w5 (some ⟨g, 0 + (a + 1), none⟩) (O.drop (a + 1)) ∧ (O.drop (a + 1)).length = k2 - (a + 1)) := ⟨L5.out.1.rdi.drop (a + 1), by rw [List.length_drop, L5.out.2]⟩
                have kk : Kept w5 (w5.alloc (.cells #[] 3)).drew := ((Kept.refl _).alloc _ _).drew
                have lz : w5.heap.size ≤ (w5.alloc (.cells #[] 3)).drew.heap.size := kk.size
                obtain ⟨v6, w6, run6, l6, m6, f6⟩ := append_run (c := co) (Lst.kept (lst_empty w5) (Kept.refl _).drew) lz (RL.out.1.kept kk) (by simp; omega)
                have k6 : Kept w5 w6 := kk.muts m6 (by simp [Value.ownBlock])
                have yr : ∃ y d, (if co = a + 1 then y = some ⟨g, 0, none⟩ else y = some ⟨g, a + 1, none⟩) ∧ d = co - (a + 1) ∧ Rdi w6 y (O.drop (a + 1)) := by
                  by_cases hca : co = a + 1
                  · exact ⟨some ⟨g, 0, none⟩, _, by rw [if_pos hca], rfl, fun h => by have := RR.out.2; omega⟩
                  · exact ⟨some ⟨g, a + 1, none⟩, _, by rw [if_neg hca], rfl, by have := RR.out.1.kept k6; rwa [Nat.zero_add] at this⟩
                obtain ⟨yr, dr, hyr, hdr, rr⟩ := yr
                obtain ⟨v7, w7, run7, l7, m7, f7⟩ := append_run (c := dr) (v := v6) (N := O.drop (a + 1)) (base := w5.heap.size) l6 (k6.size) rr (by have := RR.out.2; have := RL.out.2; simp only [List.length_append, List.length_nil]; omega)
                have k7 : Kept w5 w7 := k6.muts m7 (fun j hj => (l6.lt j (by simpa using hj)).1)
                have H7 : Hid (Drp w w7 b v5 v7 (E.eraseIdx a) (O.eraseIdx a) ∧ (O.eraseIdx a).length = k2 - 1) := by
                  have eO : ([] ++ O.take a) ++ O.drop (a + 1) = O.eraseIdx a := by rw [List.nil_append, List.eraseIdx_eq_take_drop_succ]
                  rw [eO] at l7
                  exact ⟨H5.out w7 v7 _ rfl (fun _ _ => ⟨l7.low K5.out.size, k7.mut, fun j hj => .inr (l7.lt j hj).1⟩), by rw [List.length_eraseIdx_of_lt HA.out, L5.out.2]⟩
                rw [RL.out.2] at run6
                rw [RR.out.2] at run7
                obtain ⟨y6, d6, e6⟩ := l6.form
                have el6 : ([] ++ O.take a : List Int).length = a := by rw [List.nil_append]; exact RL.out.2
                rw [el6] at e6
                subst e6
                obtain ⟨y7, d7, e7⟩ := H7.out.1.lo.form
                rw [H7.out.2] at e7
                subst e7
                have c7 := HD.out w7 H7.out.1.kept
                clear l6 m6 f6 k6 l7 m7 f7 k7 rr kk lz RL RR L5 H5 el6 K5
                have r1 : (a : Int) ≤ (co : Int) := by omega
                have r2 : (a : Int) + 1 ≤ (k2 : Int) := by omega
                have r3 : (a : Int) + 1 ≤ (co : Int) := by omega
                have r4 : 0 ≤ (a : Int) + 1 := by omega
                have HK : Hid (1 ≤ k2) := by show 1 ≤ k2; omega
                obtain ⟨tt, ht⟩ : ∃ t : Nat, k2 - 1 = t := ⟨_, rfl⟩
                have HT : Hid (k2 = tt + 1) := by show k2 = tt + 1; omega
                rw [ht] at H7 run7
                clear ht
                have hwr : IntKind.i64.wrap ((a : Int) + 1) = (a : Int) + 1 := IntWalk.i64_in _ (by omega)
                have z5 : decide ((a : Int) ≥ 0) = true := decide_eq_true (by omega)
                have z6 : (a : Int) ≥ 0 := by omega
                by_cases hca : co = a + 1
                · rw [if_pos hca] at hyr
                  subst hyr
                  subst hca
                  have hd0 : dr = 0 := by omega
                  clear hdr r1 r3
                  subst hd0
                  have r1 : (a : Int) ≤ (a : Int) + 1 := by omega
                  rw [show k2 - (a + 1) = 0 by omega] at run7
                  go_wp2_with fail
                  go_region_law (first | refine step_append_eq rfl (.tmp 83) (.tmp 86) 28 rfl (by first | rfl | (simp [Act.eval]; done) | simp [Act.eval, Act.put]) (by first | rfl | (simp [Act.eval]; done) | simp [Act.eval, Act.put]) run6 ?_ | refine step_append_eq rfl (.tmp 87) (.tmp 91) 28 rfl (by first | rfl | (simp [Act.eval]; done) | simp [Act.eval, Act.put]) (by first | rfl | (simp [Act.eval]; done) | simp [Act.eval, Act.put]) run7 ?_)
                  clear run6 run7
                  go_wp2_with fail
                  · have A := add_yes (t := dd) (f := 0) (s := 0) (s3 := 0) (s4 := 0) (s5 := 0) (x := none) (l := 0) (c := 0) _ H7.out.1.tab (by have := HT.out; rw [← H7.out.1.len, H7.out.2]; omega) (H7.out.1.no NE.out)
                    refine A.mono ?_
                    rintro e w8 ⟨rfl, v8, t8, m8, f8⟩
                    have H8 : Hid (∀ w9 v9, (Lst w8 w.heap.size (.slice y7 tt d7) (O.eraseIdx a) → (∀ j, j ∈ foot b v8 (E.eraseIdx a ++ [newEnt dd 0 0]) → (Value.slice y7 tt d7).ownBlock ≠ some j) → Lst w9 w.heap.size v9 (O.eraseIdx a ++ [dd]) ∧ Mut (Value.slice y7 tt d7).ownBlock.toList w8 w9 ∧ Fresh w8 (.slice y7 tt d7) v9) → Drp w w9 b v8 v9 (E.eraseIdx a ++ [newEnt dd 0 0]) (O.eraseIdx a ++ [dd])) := fun w9 v9 l9 =>
                      H7.out.1.turn t8 m8 f8 l9 (by rw [H7.out.1.eq]; simp [newEnt]) (nodup_snoc H7.out.1.nd NE.out) (fun e he => by
                        rcases List.mem_append.1 he with he | he
                        · exact H7.out.1.wt e he
                        · simp at he; subst he; rfl)
                    have L8 : Hid (Lst w8 w.heap.size (.slice y7 tt d7) (O.eraseIdx a)) := H7.out.1.lo.muts m8 (fun j hj hd => H7.out.1.ap j (mem_own hd) hj)
                    have k8 : Kept w w8 := H7.out.1.kept.muts m8 (fun j hj => (H7.out.1.tab.own j hj).1)
                    have c8 := HD.out w8 k8
                    have z8 := k8.size
                    have z1 : w.heap.size ≤ (w8.alloc (.cells #[.int .i64 dd] 3)).heap.size := by simp; omega
                    have z2 : (O.eraseIdx a).length + ([dd] : List Int).length ≤ 1000000 := by have := HT.out; rw [H7.out.2]; simp; omega
                    have R8 : Hid _ := rdi_lit w8 [dd]
                    have L9 : Hid _ := L8.out.alloc #[.int .i64 dd] 3
                    have HL7 : Hid ((O.eraseIdx a ++ [dd]).length = k2) := by rw [List.length_append, H7.out.2, HT.out]; rfl
                    clear t8 m8 f8 A k8 c7 z8
                    go_wp2_with (at_builtin; refine wpList_append_lst (T := O.eraseIdx a) (N := [dd]) rfl _ _ rfl rfl L9.out z1 rfl rfl R8.out z2 ?_)
                    intro v9 w9 l9 m9 f9
                    have H9 : Hid (Drp w w9 b v8 v9 (E.eraseIdx a ++ [newEnt dd 0 0]) (O.eraseIdx a ++ [dd]) ∧ (O.eraseIdx a ++ [dd]).length = k2) := ⟨H8.out w9 v9 (fun _ _ => ⟨l9, ((Mut.refl _ _).alloc _).trans m9, fun j hj => by
                      rcases f9 j hj with q | q
                      · exact .inl q
                      · exact .inr (by simp at q; omega)⟩), HL7.out⟩
                    obtain ⟨y9, d9, e9⟩ := l9.form
                    rw [HL7.out] at e9
                    subst e9
                    clear l9 m9 f9 z1 z2 H8 L8 L9 R8 NE HL7 H7 c8 HD r1 r2 r4 z5 z6 hwr
                    obtain ⟨vz, Ez, Oz, hz⟩ : ∃ vz Ez Oz, Drp w w9 b vz (.slice y9 k2 d9) Ez Oz ∧ Oz.length = k2 := ⟨_, _, _, H9.out⟩
                    have HH : Hid _ := hz
                    clear hz H9
                    have CF := first_any _ HH.out.1.tab
                    rw [HH.out.1.first] at CF
                    have hqz : k2 ≤ 50 := by first | omega | (have := HT.out; omega)
                    cases Ez with
                    | nil =>
                      have hq0 : k2 = 0 := by have h1 := HH.out.1.len; rw [HH.out.2] at h1; simpa using h1
                      rw [show ([] : List Ent).head? = none from rfl] at CF
                      have z1 : decide ((k2 : Int) > 0) = false := decide_eq_false (by omega)
                      have z2 : decide (0 < k2) = false := decide_eq_false (by omega)
                      have z3 : ((k2 : Int) != (k2 : Int)) = false := by simp
                      have HQ0 : Hid (k2 = 0) := hq0
                      clear hq0
                      go_wp2_with fail
                      refine CF.mono ?_
                      rintro e wP ⟨yP, dP, rfl, -, -, kP⟩
                      rw [show (told none).agg yP dP = .agg #[.int .i64 0, .int .i64 0, .int .i64 0, .int .i64 0, .int .i64 0, .int .i64 0, .slice yP 0 dP] from rfl, show (none : Option Ent).isSome = false from rfl]
                      have HP : Hid (Drp w wP b vz (.slice y9 k2 d9) [] Oz ∧ Oz.length = k2) := ⟨HH.out.1.still kP, HH.out.2⟩
                      clear kP CF HH
                      go_upto_region 31 with fail
                      generalize hW : wP.alloc _ = WP
                      have HR : Hid (Drp w WP b vz (.slice y9 k2 d9) [] Oz ∧ Oz.length = k2) := ⟨by rw [← hW]; exact HP.out.1.still ((Kept.refl _).alloc _ _), HP.out.2⟩
                      clear hW HP
                      have G : Hid (∀ x : KW WP, Calls Try.prog 27 #[.pointer (some ⟨b, 0, none⟩)] x.it fun r w' => r = .returned (.int .i64 (k2 : Int)) ∧ Kept x.it w') := fun x => by
                        have := waits_any _ (HR.out.1.still x.ok).tab
                        rwa [HR.out.1.waits, HR.out.2] at this
                      refine wp_region_kept (by kernel_rfl) (by kernel_rfl) fun _ => ?_
                      repeat (go_big_quiet_step (first | (go_at_call 27; exact kept_of (G.out _))))
                      refine wpQuiet_nil ?_
                      rintro _ ⟨z, rfl⟩
                      have HZ : Hid (∃ v E O, Drp w z.it b v (.slice y9 k2 d9) E O ∧ O.length = k2) := ⟨_, _, _, HR.out.1.still z.ok, HR.out.2⟩
                      clear G HR
                      go_wp2
                      go_roundg (l - (j + 1))
                      all_goals (have := HM.out; try omega)
                      exact ⟨j + 1, by go_num, by omega, rfl, _, _, _, rfl, by omega, HZ.out⟩
                    | cons e0 E2 =>
                      have hq0 : 0 < Oz.length := by rw [HH.out.1.len]; simp
                      have hq1 : 0 < k2 := by rw [← HH.out.2]; exact hq0
                      rw [show (e0 :: E2).head? = some e0 from rfl] at CF
                      have z1 : decide ((k2 : Int) > 0) = true := decide_eq_true (by omega)
                      have z2 : decide (0 < k2) = true := decide_eq_true (by omega)
                      have z3 : ((k2 : Int) != (k2 : Int)) = false := by simp
                      have z4 : (e0.th != e0.th) = false := by simp
                      have z5 : (0 : Int) < (k2 : Int) := by omega
                      obtain ⟨g1, o1, ey, hg1, cc⟩ := HH.out.1.lo.rdi hq0
                      subst ey
                      have c1 := cc 0 hq0
                      rw [show Oz[0] = e0.th by simp [HH.out.1.eq]] at c1
                      rw [Nat.add_zero] at c1
                      clear cc
                      have HQ1 : Hid (0 < k2) := hq1
                      clear hq0 hq1
                      go_wp2_with fail
                      refine CF.mono ?_
                      rintro e wP ⟨yP, dP, rfl, -, -, kP⟩
                      rw [show (told (some e0)) = e0 from rfl, agg_in, show (some e0).isSome = true from rfl]
                      have HP : Hid (Drp w wP b vz (.slice (some ⟨g1, o1, none⟩) k2 d9) (e0 :: E2) Oz ∧ Oz.length = k2) := ⟨HH.out.1.still kP, HH.out.2⟩
                      have c2 := (kP.cell (a := ⟨g1, o1, none⟩) hg1).trans c1
                      have hg2 : g1 < wP.heap.size := Nat.lt_of_lt_of_le hg1 kP.size
                      clear kP CF HH c1 hg1
                      go_upto_region 31 with fail
                      generalize hW : wP.alloc _ = WP
                      have HR : Hid (Drp w WP b vz (.slice (some ⟨g1, o1, none⟩) k2 d9) (e0 :: E2) Oz ∧ Oz.length = k2) := ⟨by rw [← hW]; exact HP.out.1.still ((Kept.refl _).alloc _ _), HP.out.2⟩
                      have bP : Blk WP wP.heap.size [.int .i64 e0.th, .int .i64 e0.fr, .int .i64 e0.sp, .int .i64 e0.st, .int .i64 e0.cy, .int .i64 e0.pl, .slice yP e0.G.length dP] := by rw [← hW]; exact Blk.new wP _ _
                      have kW : Kept wP WP := by rw [← hW]; exact (Kept.refl _).alloc _ _
                      have d1 := fun z : KW WP => z.cell bP.lt (bP.at 0 rfl)
                      have d2 := fun z : KW WP => z.cell (a := ⟨g1, o1, none⟩) (Nat.lt_of_lt_of_le hg2 kW.size) ((kW.cell hg2).trans c2)
                      clear hW HP bP kW c2 hg2
                      have G : Hid (∀ x : KW WP, Calls Try.prog 27 #[.pointer (some ⟨b, 0, none⟩)] x.it fun r w' => r = .returned (.int .i64 (k2 : Int)) ∧ Kept x.it w') := fun x => by
                        have := waits_any _ (HR.out.1.still x.ok).tab
                        rwa [HR.out.1.waits, HR.out.2] at this
                      refine wp_region_kept (by kernel_rfl) (by kernel_rfl) fun _ => ?_
                      repeat (go_big_quiet_step (first | (go_at_call 27; exact kept_of (G.out _))))
                      refine wpQuiet_nil ?_
                      rintro _ ⟨z, rfl⟩
                      have HZ : Hid (∃ v E O, Drp w z.it b v (.slice (some ⟨g1, o1, none⟩) k2 d9) E O ∧ O.length = k2) := ⟨_, _, _, HR.out.1.still z.ok, HR.out.2⟩
                      clear G HR d1 d2
                      go_wp2
                      go_roundg (l - (j + 1))
                      all_goals (have := HM.out; try omega)
                      exact ⟨j + 1, by go_num, by omega, rfl, _, _, _, rfl, by omega, HZ.out⟩
                  · clear c7 HD NE r1 r2 r4 z5 z6 hwr
                    obtain ⟨vz, Ez, Oz, hz⟩ : ∃ vz Ez Oz, Drp w w7 b vz (.slice y7 tt d7) Ez Oz ∧ Oz.length = tt := ⟨_, _, _, H7.out⟩
                    have HH : Hid _ := hz
                    clear hz H7
                    have CF := first_any _ HH.out.1.tab
                    rw [HH.out.1.first] at CF
                    have hqz : tt ≤ 50 := by first | omega | (have := HT.out; omega)
                    cases Ez with
                    | nil =>
                      have hq0 : tt = 0 := by have h1 := HH.out.1.len; rw [HH.out.2] at h1; simpa using h1
                      rw [show ([] : List Ent).head? = none from rfl] at CF
                      have z1 : decide ((tt : Int) > 0) = false := decide_eq_false (by omega)
                      have z2 : decide (0 < tt) = false := decide_eq_false (by omega)
                      have z3 : ((tt : Int) != (tt : Int)) = false := by simp
                      have HQ0 : Hid (tt = 0) := hq0
                      clear hq0
                      go_wp2_with fail
                      refine CF.mono ?_
                      rintro e wP ⟨yP, dP, rfl, -, -, kP⟩
                      rw [show (told none).agg yP dP = .agg #[.int .i64 0, .int .i64 0, .int .i64 0, .int .i64 0, .int .i64 0, .int .i64 0, .slice yP 0 dP] from rfl, show (none : Option Ent).isSome = false from rfl]
                      have HP : Hid (Drp w wP b vz (.slice y7 tt d7) [] Oz ∧ Oz.length = tt) := ⟨HH.out.1.still kP, HH.out.2⟩
                      clear kP CF HH
                      go_upto_region 31 with fail
                      generalize hW : wP.alloc _ = WP
                      have HR : Hid (Drp w WP b vz (.slice y7 tt d7) [] Oz ∧ Oz.length = tt) := ⟨by rw [← hW]; exact HP.out.1.still ((Kept.refl _).alloc _ _), HP.out.2⟩
                      clear hW HP
                      have G : Hid (∀ x : KW WP, Calls Try.prog 27 #[.pointer (some ⟨b, 0, none⟩)] x.it fun r w' => r = .returned (.int .i64 (tt : Int)) ∧ Kept x.it w') := fun x => by
                        have := waits_any _ (HR.out.1.still x.ok).tab
                        rwa [HR.out.1.waits, HR.out.2] at this
                      refine wp_region_kept (by kernel_rfl) (by kernel_rfl) fun _ => ?_
                      repeat (go_big_quiet_step (first | (go_at_call 27; exact kept_of (G.out _))))
                      refine wpQuiet_nil ?_
                      rintro _ ⟨z, rfl⟩
                      have HZ : Hid (∃ v E O, Drp w z.it b v (.slice y7 tt d7) E O ∧ O.length = tt) := ⟨_, _, _, HR.out.1.still z.ok, HR.out.2⟩
                      clear G HR
                      go_wp2
                      go_roundg (l - (j + 1))
                      all_goals (have := HM.out; try omega)
                      exact ⟨j + 1, by go_num, by omega, rfl, _, _, _, rfl, by omega, HZ.out⟩
                    | cons e0 E2 =>
                      have hq0 : 0 < Oz.length := by rw [HH.out.1.len]; simp
                      have hq1 : 0 < tt := by rw [← HH.out.2]; exact hq0
                      rw [show (e0 :: E2).head? = some e0 from rfl] at CF
                      have z1 : decide ((tt : Int) > 0) = true := decide_eq_true (by omega)
                      have z2 : decide (0 < tt) = true := decide_eq_true (by omega)
                      have z3 : ((tt : Int) != (tt : Int)) = false := by simp
                      have z4 : (e0.th != e0.th) = false := by simp
                      have z5 : (0 : Int) < (tt : Int) := by omega
                      obtain ⟨g1, o1, ey, hg1, cc⟩ := HH.out.1.lo.rdi hq0
                      subst ey
                      have c1 := cc 0 hq0
                      rw [show Oz[0] = e0.th by simp [HH.out.1.eq]] at c1
                      rw [Nat.add_zero] at c1
                      clear cc
                      have HQ1 : Hid (0 < tt) := hq1
                      clear hq0 hq1
                      go_wp2_with fail
                      refine CF.mono ?_
                      rintro e wP ⟨yP, dP, rfl, -, -, kP⟩
                      rw [show (told (some e0)) = e0 from rfl, agg_in, show (some e0).isSome = true from rfl]
                      have HP : Hid (Drp w wP b vz (.slice (some ⟨g1, o1, none⟩) tt d7) (e0 :: E2) Oz ∧ Oz.length = tt) := ⟨HH.out.1.still kP, HH.out.2⟩
                      have c2 := (kP.cell (a := ⟨g1, o1, none⟩) hg1).trans c1
                      have hg2 : g1 < wP.heap.size := Nat.lt_of_lt_of_le hg1 kP.size
                      clear kP CF HH c1 hg1
                      go_upto_region 31 with fail
                      generalize hW : wP.alloc _ = WP
                      have HR : Hid (Drp w WP b vz (.slice (some ⟨g1, o1, none⟩) tt d7) (e0 :: E2) Oz ∧ Oz.length = tt) := ⟨by rw [← hW]; exact HP.out.1.still ((Kept.refl _).alloc _ _), HP.out.2⟩
                      have bP : Blk WP wP.heap.size [.int .i64 e0.th, .int .i64 e0.fr, .int .i64 e0.sp, .int .i64 e0.st, .int .i64 e0.cy, .int .i64 e0.pl, .slice yP e0.G.length dP] := by rw [← hW]; exact Blk.new wP _ _
                      have kW : Kept wP WP := by rw [← hW]; exact (Kept.refl _).alloc _ _
                      have d1 := fun z : KW WP => z.cell bP.lt (bP.at 0 rfl)
                      have d2 := fun z : KW WP => z.cell (a := ⟨g1, o1, none⟩) (Nat.lt_of_lt_of_le hg2 kW.size) ((kW.cell hg2).trans c2)
                      clear hW HP bP kW c2 hg2
                      have G : Hid (∀ x : KW WP, Calls Try.prog 27 #[.pointer (some ⟨b, 0, none⟩)] x.it fun r w' => r = .returned (.int .i64 (tt : Int)) ∧ Kept x.it w') := fun x => by
                        have := waits_any _ (HR.out.1.still x.ok).tab
                        rwa [HR.out.1.waits, HR.out.2] at this
                      refine wp_region_kept (by kernel_rfl) (by kernel_rfl) fun _ => ?_
                      repeat (go_big_quiet_step (first | (go_at_call 27; exact kept_of (G.out _))))
                      refine wpQuiet_nil ?_
                      rintro _ ⟨z, rfl⟩
                      have HZ : Hid (∃ v E O, Drp w z.it b v (.slice (some ⟨g1, o1, none⟩) tt d7) E O ∧ O.length = tt) := ⟨_, _, _, HR.out.1.still z.ok, HR.out.2⟩
                      clear G HR d1 d2
                      go_wp2
                      go_roundg (l - (j + 1))
                      all_goals (have := HM.out; try omega)
                      exact ⟨j + 1, by go_num, by omega, rfl, _, _, _, rfl, by omega, HZ.out⟩
                · rw [if_neg hca] at hyr
                  subst hyr
                  subst hdr
                  go_wp2_with fail
                  go_region_law (first | refine step_append_eq rfl (.tmp 83) (.tmp 86) 28 rfl (by first | rfl | (simp [Act.eval]; done) | simp [Act.eval, Act.put]) (by first | rfl | (simp [Act.eval]; done) | simp [Act.eval, Act.put]) run6 ?_ | refine step_append_eq rfl (.tmp 87) (.tmp 91) 28 rfl (by first | rfl | (simp [Act.eval]; done) | simp [Act.eval, Act.put]) (by first | rfl | (simp [Act.eval]; done) | simp [Act.eval, Act.put]) run7 ?_)
                  clear run6 run7
                  go_wp2_with fail
                  · have A := add_yes (t := dd) (f := 0) (s := 0) (s3 := 0) (s4 := 0) (s5 := 0) (x := none) (l := 0) (c := 0) _ H7.out.1.tab (by have := HT.out; rw [← H7.out.1.len, H7.out.2]; omega) (H7.out.1.no NE.out)
                    refine A.mono ?_
                    rintro e w8 ⟨rfl, v8, t8, m8, f8⟩
                    have H8 : Hid (∀ w9 v9, (Lst w8 w.heap.size (.slice y7 tt d7) (O.eraseIdx a) → (∀ j, j ∈ foot b v8 (E.eraseIdx a ++ [newEnt dd 0 0]) → (Value.slice y7 tt d7).ownBlock ≠ some j) → Lst w9 w.heap.size v9 (O.eraseIdx a ++ [dd]) ∧ Mut (Value.slice y7 tt d7).ownBlock.toList w8 w9 ∧ Fresh w8 (.slice y7 tt d7) v9) → Drp w w9 b v8 v9 (E.eraseIdx a ++ [newEnt dd 0 0]) (O.eraseIdx a ++ [dd])) := fun w9 v9 l9 =>
                      H7.out.1.turn t8 m8 f8 l9 (by rw [H7.out.1.eq]; simp [newEnt]) (nodup_snoc H7.out.1.nd NE.out) (fun e he => by
                        rcases List.mem_append.1 he with he | he
                        · exact H7.out.1.wt e he
                        · simp at he; subst he; rfl)
                    have L8 : Hid (Lst w8 w.heap.size (.slice y7 tt d7) (O.eraseIdx a)) := H7.out.1.lo.muts m8 (fun j hj hd => H7.out.1.ap j (mem_own hd) hj)
                    have k8 : Kept w w8 := H7.out.1.kept.muts m8 (fun j hj => (H7.out.1.tab.own j hj).1)
                    have c8 := HD.out w8 k8
                    have z8 := k8.size
                    have z1 : w.heap.size ≤ (w8.alloc (.cells #[.int .i64 dd] 3)).heap.size := by simp; omega
                    have z2 : (O.eraseIdx a).length + ([dd] : List Int).length ≤ 1000000 := by have := HT.out; rw [H7.out.2]; simp; omega
                    have R8 : Hid _ := rdi_lit w8 [dd]
                    have L9 : Hid _ := L8.out.alloc #[.int .i64 dd] 3
                    have HL7 : Hid ((O.eraseIdx a ++ [dd]).length = k2) := by rw [List.length_append, H7.out.2, HT.out]; rfl
                    clear t8 m8 f8 A k8 c7 z8
                    go_wp2_with (at_builtin; refine wpList_append_lst (T := O.eraseIdx a) (N := [dd]) rfl _ _ rfl rfl L9.out z1 rfl rfl R8.out z2 ?_)
                    intro v9 w9 l9 m9 f9
                    have H9 : Hid (Drp w w9 b v8 v9 (E.eraseIdx a ++ [newEnt dd 0 0]) (O.eraseIdx a ++ [dd]) ∧ (O.eraseIdx a ++ [dd]).length = k2) := ⟨H8.out w9 v9 (fun _ _ => ⟨l9, ((Mut.refl _ _).alloc _).trans m9, fun j hj => by
                      rcases f9 j hj with q | q
                      · exact .inl q
                      · exact .inr (by simp at q; omega)⟩), HL7.out⟩
                    obtain ⟨y9, d9, e9⟩ := l9.form
                    rw [HL7.out] at e9
                    subst e9
                    clear l9 m9 f9 z1 z2 H8 L8 L9 R8 NE HL7 H7 c8 HD r1 r2 r4 z5 z6 hwr r3
                    obtain ⟨vz, Ez, Oz, hz⟩ : ∃ vz Ez Oz, Drp w w9 b vz (.slice y9 k2 d9) Ez Oz ∧ Oz.length = k2 := ⟨_, _, _, H9.out⟩
                    have HH : Hid _ := hz
                    clear hz H9
                    have CF := first_any _ HH.out.1.tab
                    rw [HH.out.1.first] at CF
                    have hqz : k2 ≤ 50 := by first | omega | (have := HT.out; omega)
                    cases Ez with
                    | nil =>
                      have hq0 : k2 = 0 := by have h1 := HH.out.1.len; rw [HH.out.2] at h1; simpa using h1
                      rw [show ([] : List Ent).head? = none from rfl] at CF
                      have z1 : decide ((k2 : Int) > 0) = false := decide_eq_false (by omega)
                      have z2 : decide (0 < k2) = false := decide_eq_false (by omega)
                      have z3 : ((k2 : Int) != (k2 : Int)) = false := by simp
                      have HQ0 : Hid (k2 = 0) := hq0
                      clear hq0
                      go_wp2_with fail
                      refine CF.mono ?_
                      rintro e wP ⟨yP, dP, rfl, -, -, kP⟩
                      rw [show (told none).agg yP dP = .agg #[.int .i64 0, .int .i64 0, .int .i64 0, .int .i64 0, .int .i64 0, .int .i64 0, .slice yP 0 dP] from rfl, show (none : Option Ent).isSome = false from rfl]
                      have HP : Hid (Drp w wP b vz (.slice y9 k2 d9) [] Oz ∧ Oz.length = k2) := ⟨HH.out.1.still kP, HH.out.2⟩
                      clear kP CF HH
                      go_upto_region 31 with fail
                      generalize hW : wP.alloc _ = WP
                      have HR : Hid (Drp w WP b vz (.slice y9 k2 d9) [] Oz ∧ Oz.length = k2) := ⟨by rw [← hW]; exact HP.out.1.still ((Kept.refl _).alloc _ _), HP.out.2⟩
                      clear hW HP
                      have G : Hid (∀ x : KW WP, Calls Try.prog 27 #[.pointer (some ⟨b, 0, none⟩)] x.it fun r w' => r = .returned (.int .i64 (k2 : Int)) ∧ Kept x.it w') := fun x => by
                        have := waits_any _ (HR.out.1.still x.ok).tab
                        rwa [HR.out.1.waits, HR.out.2] at this
                      refine wp_region_kept (by kernel_rfl) (by kernel_rfl) fun _ => ?_
                      repeat (go_big_quiet_step (first | (go_at_call 27; exact kept_of (G.out _))))
                      refine wpQuiet_nil ?_
                      rintro _ ⟨z, rfl⟩
                      have HZ : Hid (∃ v E O, Drp w z.it b v (.slice y9 k2 d9) E O ∧ O.length = k2) := ⟨_, _, _, HR.out.1.still z.ok, HR.out.2⟩
                      clear G HR
                      go_wp2
                      go_roundg (l - (j + 1))
                      all_goals (have := HM.out; try omega)
                      exact ⟨j + 1, by go_num, by omega, rfl, _, _, _, rfl, by omega, HZ.out⟩
                    | cons e0 E2 =>
                      have hq0 : 0 < Oz.length := by rw [HH.out.1.len]; simp
                      have hq1 : 0 < k2 := by rw [← HH.out.2]; exact hq0
                      rw [show (e0 :: E2).head? = some e0 from rfl] at CF
                      have z1 : decide ((k2 : Int) > 0) = true := decide_eq_true (by omega)
                      have z2 : decide (0 < k2) = true := decide_eq_true (by omega)
                      have z3 : ((k2 : Int) != (k2 : Int)) = false := by simp
                      have z4 : (e0.th != e0.th) = false := by simp
                      have z5 : (0 : Int) < (k2 : Int) := by omega
                      obtain ⟨g1, o1, ey, hg1, cc⟩ := HH.out.1.lo.rdi hq0
                      subst ey
                      have c1 := cc 0 hq0
                      rw [show Oz[0] = e0.th by simp [HH.out.1.eq]] at c1
                      rw [Nat.add_zero] at c1
                      clear cc
                      have HQ1 : Hid (0 < k2) := hq1
                      clear hq0 hq1
                      go_wp2_with fail
                      refine CF.mono ?_
                      rintro e wP ⟨yP, dP, rfl, -, -, kP⟩
                      rw [show (told (some e0)) = e0 from rfl, agg_in, show (some e0).isSome = true from rfl]
                      have HP : Hid (Drp w wP b vz (.slice (some ⟨g1, o1, none⟩) k2 d9) (e0 :: E2) Oz ∧ Oz.length = k2) := ⟨HH.out.1.still kP, HH.out.2⟩
                      have c2 := (kP.cell (a := ⟨g1, o1, none⟩) hg1).trans c1
                      have hg2 : g1 < wP.heap.size := Nat.lt_of_lt_of_le hg1 kP.size
                      clear kP CF HH c1 hg1
                      go_upto_region 31 with fail
                      generalize hW : wP.alloc _ = WP
                      have HR : Hid (Drp w WP b vz (.slice (some ⟨g1, o1, none⟩) k2 d9) (e0 :: E2) Oz ∧ Oz.length = k2) := ⟨by rw [← hW]; exact HP.out.1.still ((Kept.refl _).alloc _ _), HP.out.2⟩
                      have bP : Blk WP wP.heap.size [.int .i64 e0.th, .int .i64 e0.fr, .int .i64 e0.sp, .int .i64 e0.st, .int .i64 e0.cy, .int .i64 e0.pl, .slice yP e0.G.length dP] := by rw [← hW]; exact Blk.new wP _ _
                      have kW : Kept wP WP := by rw [← hW]; exact (Kept.refl _).alloc _ _
                      have d1 := fun z : KW WP => z.cell bP.lt (bP.at 0 rfl)
                      have d2 := fun z : KW WP => z.cell (a := ⟨g1, o1, none⟩) (Nat.lt_of_lt_of_le hg2 kW.size) ((kW.cell hg2).trans c2)
                      clear hW HP bP kW c2 hg2
                      have G : Hid (∀ x : KW WP, Calls Try.prog 27 #[.pointer (some ⟨b, 0, none⟩)] x.it fun r w' => r = .returned (.int .i64 (k2 : Int)) ∧ Kept x.it w') := fun x => by
                        have := waits_any _ (HR.out.1.still x.ok).tab
                        rwa [HR.out.1.waits, HR.out.2] at this
                      refine wp_region_kept (by kernel_rfl) (by kernel_rfl) fun _ => ?_
                      repeat (go_big_quiet_step (first | (go_at_call 27; exact kept_of (G.out _))))
                      refine wpQuiet_nil ?_
                      rintro _ ⟨z, rfl⟩
                      have HZ : Hid (∃ v E O, Drp w z.it b v (.slice (some ⟨g1, o1, none⟩) k2 d9) E O ∧ O.length = k2) := ⟨_, _, _, HR.out.1.still z.ok, HR.out.2⟩
                      clear G HR d1 d2
                      go_wp2
                      go_roundg (l - (j + 1))
                      all_goals (have := HM.out; try omega)
                      exact ⟨j + 1, by go_num, by omega, rfl, _, _, _, rfl, by omega, HZ.out⟩
                  · clear c7 HD NE r1 r2 r4 z5 z6 hwr r3
                    obtain ⟨vz, Ez, Oz, hz⟩ : ∃ vz Ez Oz, Drp w w7 b vz (.slice y7 tt d7) Ez Oz ∧ Oz.length = tt := ⟨_, _, _, H7.out⟩
                    have HH : Hid _ := hz
                    clear hz H7
                    have CF := first_any _ HH.out.1.tab
                    rw [HH.out.1.first] at CF
                    have hqz : tt ≤ 50 := by first | omega | (have := HT.out; omega)
                    cases Ez with
                    | nil =>
                      have hq0 : tt = 0 := by have h1 := HH.out.1.len; rw [HH.out.2] at h1; simpa using h1
                      rw [show ([] : List Ent).head? = none from rfl] at CF
                      have z1 : decide ((tt : Int) > 0) = false := decide_eq_false (by omega)
                      have z2 : decide (0 < tt) = false := decide_eq_false (by omega)
                      have z3 : ((tt : Int) != (tt : Int)) = false := by simp
                      have HQ0 : Hid (tt = 0) := hq0
                      clear hq0
                      go_wp2_with fail
                      refine CF.mono ?_
                      rintro e wP ⟨yP, dP, rfl, -, -, kP⟩
                      rw [show (told none).agg yP dP = .agg #[.int .i64 0, .int .i64 0, .int .i64 0, .int .i64 0, .int .i64 0, .int .i64 0, .slice yP 0 dP] from rfl, show (none : Option Ent).isSome = false from rfl]
                      have HP : Hid (Drp w wP b vz (.slice y7 tt d7) [] Oz ∧ Oz.length = tt) := ⟨HH.out.1.still kP, HH.out.2⟩
                      clear kP CF HH
                      go_upto_region 31 with fail
                      generalize hW : wP.alloc _ = WP
                      have HR : Hid (Drp w WP b vz (.slice y7 tt d7) [] Oz ∧ Oz.length = tt) := ⟨by rw [← hW]; exact HP.out.1.still ((Kept.refl _).alloc _ _), HP.out.2⟩
                      clear hW HP
                      have G : Hid (∀ x : KW WP, Calls Try.prog 27 #[.pointer (some ⟨b, 0, none⟩)] x.it fun r w' => r = .returned (.int .i64 (tt : Int)) ∧ Kept x.it w') := fun x => by
                        have := waits_any _ (HR.out.1.still x.ok).tab
                        rwa [HR.out.1.waits, HR.out.2] at this
                      refine wp_region_kept (by kernel_rfl) (by kernel_rfl) fun _ => ?_
                      repeat (go_big_quiet_step (first | (go_at_call 27; exact kept_of (G.out _))))
                      refine wpQuiet_nil ?_
                      rintro _ ⟨z, rfl⟩
                      have HZ : Hid (∃ v E O, Drp w z.it b v (.slice y7 tt d7) E O ∧ O.length = tt) := ⟨_, _, _, HR.out.1.still z.ok, HR.out.2⟩
                      clear G HR
                      go_wp2
                      go_roundg (l - (j + 1))
                      all_goals (have := HM.out; try omega)
                      exact ⟨j + 1, by go_num, by omega, rfl, _, _, _, rfl, by omega, HZ.out⟩
                    | cons e0 E2 =>
                      have hq0 : 0 < Oz.length := by rw [HH.out.1.len]; simp
                      have hq1 : 0 < tt := by rw [← HH.out.2]; exact hq0
                      rw [show (e0 :: E2).head? = some e0 from rfl] at CF
                      have z1 : decide ((tt : Int) > 0) = true := decide_eq_true (by omega)
                      have z2 : decide (0 < tt) = true := decide_eq_true (by omega)
                      have z3 : ((tt : Int) != (tt : Int)) = false := by simp
                      have z4 : (e0.th != e0.th) = false := by simp
                      have z5 : (0 : Int) < (tt : Int) := by omega
                      obtain ⟨g1, o1, ey, hg1, cc⟩ := HH.out.1.lo.rdi hq0
                      subst ey
                      have c1 := cc 0 hq0
                      rw [show Oz[0] = e0.th by simp [HH.out.1.eq]] at c1
                      rw [Nat.add_zero] at c1
                      clear cc
                      have HQ1 : Hid (0 < tt) := hq1
                      clear hq0 hq1
                      go_wp2_with fail
                      refine CF.mono ?_
                      rintro e wP ⟨yP, dP, rfl, -, -, kP⟩
                      rw [show (told (some e0)) = e0 from rfl, agg_in, show (some e0).isSome = true from rfl]
                      have HP : Hid (Drp w wP b vz (.slice (some ⟨g1, o1, none⟩) tt d7) (e0 :: E2) Oz ∧ Oz.length = tt) := ⟨HH.out.1.still kP, HH.out.2⟩
                      have c2 := (kP.cell (a := ⟨g1, o1, none⟩) hg1).trans c1
                      have hg2 : g1 < wP.heap.size := Nat.lt_of_lt_of_le hg1 kP.size
                      clear kP CF HH c1 hg1
                      go_upto_region 31 with fail
                      generalize hW : wP.alloc _ = WP
                      have HR : Hid (Drp w WP b vz (.slice (some ⟨g1, o1, none⟩) tt d7) (e0 :: E2) Oz ∧ Oz.length = tt) := ⟨by rw [← hW]; exact HP.out.1.still ((Kept.refl _).alloc _ _), HP.out.2⟩
                      have bP : Blk WP wP.heap.size [.int .i64 e0.th, .int .i64 e0.fr, .int .i64 e0.sp, .int .i64 e0.st, .int .i64 e0.cy, .int .i64 e0.pl, .slice yP e0.G.length dP] := by rw [← hW]; exact Blk.new wP _ _
                      have kW : Kept wP WP := by rw [← hW]; exact (Kept.refl _).alloc _ _
                      have d1 := fun z : KW WP => z.cell bP.lt (bP.at 0 rfl)
                      have d2 := fun z : KW WP => z.cell (a := ⟨g1, o1, none⟩) (Nat.lt_of_lt_of_le hg2 kW.size) ((kW.cell hg2).trans c2)
                      clear hW HP bP kW c2 hg2
                      have G : Hid (∀ x : KW WP, Calls Try.prog 27 #[.pointer (some ⟨b, 0, none⟩)] x.it fun r w' => r = .returned (.int .i64 (tt : Int)) ∧ Kept x.it w') := fun x => by
                        have := waits_any _ (HR.out.1.still x.ok).tab
                        rwa [HR.out.1.waits, HR.out.2] at this
                      refine wp_region_kept (by kernel_rfl) (by kernel_rfl) fun _ => ?_
                      repeat (go_big_quiet_step (first | (go_at_call 27; exact kept_of (G.out _))))
                      refine wpQuiet_nil ?_
                      rintro _ ⟨z, rfl⟩
                      have HZ : Hid (∃ v E O, Drp w z.it b v (.slice (some ⟨g1, o1, none⟩) tt d7) E O ∧ O.length = tt) := ⟨_, _, _, HR.out.1.still z.ok, HR.out.2⟩
                      clear G HR d1 d2
                      go_wp2
                      go_roundg (l - (j + 1))
                      all_goals (have := HM.out; try omega)
                      exact ⟨j + 1, by go_num, by omega, rfl, _, _, _, rfl, by omega, HZ.out⟩
        · obtain rfl : j = l := by omega
          have K4 : Hid (Kept w wr) := by
            obtain ⟨v, E, O, h3, _⟩ := hw.out
            exact h3.kept
          clear hw HM
          go_wp2_with fail
          refine (lfirst_any _).mono ?_
          rintro e w5 ⟨rfl, k5⟩
          have K5 : Hid (Kept w w5) := K4.out.trans k5
          clear k5
          go_wp2
          go_ret
          exact ⟨rfl, K5.out⟩

theorem lineDrops_any (n0 : Int) (x1 : Option Addr) (l1 c1 : Nat) (L1 : Nat → Int) (w : World) (_lo0 : IntKind.min .i64 ≤ n0) (_hi0 : n0 ≤ IntKind.max .i64) (_h1c : l1 ≤ c1) (hL1 : Ints w x1 l1 L1) (_hB1 : ∀ i, i < l1 → IntKind.min .i64 ≤ L1 i ∧ L1 i ≤ IntKind.max .i64) :
    Calls Try.prog 6 #[.int .i64 n0, .slice x1 l1 c1] w fun e w' => e = .returned (.bool true) ∧ Kept w w' := by
  by_cases h : 1 ≤ n0 ∧ n0 ≤ 50 ∧ (l1 : Int) ≤ 100
  · obtain ⟨n, rfl⟩ : ∃ n : Nat, n0 = n := ⟨n0.toNat, by omega⟩
    exact drops_in n x1 l1 c1 L1 w hL1 (by omega) (by omega) (by omega)
  · exact drops_bad n0 x1 l1 c1 w (by omega)
end Go.Proofs.Ytbbbkeomdhimlaa
