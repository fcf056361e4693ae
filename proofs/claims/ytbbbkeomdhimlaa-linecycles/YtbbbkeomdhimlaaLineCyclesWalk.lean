/-
  LineCycles: the walk.
-/
import Derived.Test.YtbbbkeomdhimlaaFirst10
namespace Go.Proofs.Ytbbbkeomdhimlaa
open Go.RowKit

/-- The one of that thread is found, if it is the only one. -/
theorem find_th {E : List Ent} {t : Int} {e : Ent} (he : e ∈ E) (ht : e.th = t) (hu : ∀ e' ∈ E, e'.th = t → e' = e) : E.find? (fun e => e.th == t) = some e := by
  cases h : E.find? (fun e => e.th == t) with
  | none =>
    have := List.find?_eq_none.1 h e he
    simp [ht] at this
  | some e' =>
    have h1 := List.mem_of_find?_eq_some h
    have h2 : e'.th = t := by simpa using List.find?_some h
    rw [hu e' h1 h2]

/-- A line of the call's own. -/
structure St (w u : World) (b : Nat) (v : Value) (E : List Ent) : Prop where
  tab : LTab u w.heap.size b v E
  kept : Kept w u
section
variable {w u u' : World} {b : Nat} {v v' : Value} {E E' : List Ent}
theorem St.still (h : St w u b v E) (k : Kept u u') : St w u' b v E := ⟨h.tab.kept k, h.kept.trans k⟩
theorem St.turn (h : St w u b v E) (t : LTab u' w.heap.size b v' E') (m : Mut (b :: v.ownBlock.toList) u u') : St w u' b v' E' := ⟨t, h.kept.muts m (fun k hk => (h.tab.own k hk).1)⟩
end

def oldE (i : Nat) (t : Nat) : Ent := ⟨(t : Int), (t : Int) + 1, 0, 0, (i : Int), -1, none, 0, [], false⟩
/-- After i cycles: n threads that have waited from the start, and i that came late. -/
def Cyc (n i : Nat) (E : List Ent) : Prop := ∃ B : List Ent, E = (List.range n).map (oldE i) ++ B ∧ B.length = i ∧ ∀ e ∈ B, e.st = 0 ∧ e.nt = false ∧ 1000 ≤ e.th ∧ e.th < 1000 + (i : Int) ∧ 0 ≤ e.cy ∧ e.cy ≤ (i : Int)

theorem endE_still {e : Ent} (h : e.nt = false) : endE e = e := by
  cases e
  simp_all [endE]
theorem end_note {e : Ent} (h : e.st = 0) : endE (noteE e) = { e with cy := e.cy + 1, nt := false } := by
  simp [endE, noteE, h]

section
variable {n i : Nat} {E : List Ent}
theorem Cyc.each (h : Cyc n i E) : ∀ e ∈ E, e.st = 0 ∧ e.nt = false ∧ 0 ≤ e.cy ∧ e.cy ≤ (i : Int) ∧ (e.th < (n : Int) ∨ 1000 ≤ e.th ∧ e.th < 1000 + (i : Int)) := fun e he => by
  obtain ⟨B, rfl, _, hB⟩ := h
  rcases List.mem_append.1 he with he | he
  · obtain ⟨t, ht, rfl⟩ := List.mem_map.1 he
    have : t < n := by simpa using ht
    exact ⟨rfl, rfl, by simp [oldE], by simp [oldE], .inl (by simp [oldE]; omega)⟩
  · obtain ⟨h1, h2, h3, h4, h5, h6⟩ := hB e he
    exact ⟨h1, h2, h5, h6, .inr ⟨h3, h4⟩⟩
theorem Cyc.len (h : Cyc n i E) : E.length = n + i := by
  obtain ⟨B, rfl, hl, _⟩ := h
  simp [hl]
theorem Cyc.ends (h : Cyc n i E) : E.map endE = E := by
  have : ∀ e ∈ E, endE e = e := fun e he => endE_still (h.each e he).2.1
  conv => rhs; rw [← List.map_id E]
  exact List.map_congr_left fun e he => this e he
theorem Cyc.step (h : Cyc n i E) : Cyc n (i + 1) ((E.map noteE ++ [newEnt (1000 + (i : Int)) 0 0]).map endE) := by
  obtain ⟨B, rfl, hl, hB⟩ := h
  refine ⟨(B.map noteE ++ [newEnt (1000 + (i : Int)) 0 0]).map endE, ?_, by simp [hl], fun e he => ?_⟩
  · have : (List.range n).map (oldE (i + 1)) = (((List.range n).map (oldE i)).map noteE).map endE := by
      rw [List.map_map, List.map_map]
      apply List.map_congr_left
      intro t _
      simp [oldE, noteE, endE]
    rw [this]
    simp
  · obtain ⟨e1, he1, rfl⟩ := List.mem_map.1 he
    rcases List.mem_append.1 he1 with he1 | he1
    · obtain ⟨e2, he2, rfl⟩ := List.mem_map.1 he1
      obtain ⟨h1, h2, h3, h4, h5, h6⟩ := hB e2 he2
      rw [end_note h1]
      exact ⟨h1, rfl, h3, by simp; omega, by simp; omega, by simp; omega⟩
    · simp at he1
      subst he1
      exact ⟨rfl, rfl, by simp [endE, newEnt]; omega, by simp [endE, newEnt]; omega, by simp [endE, newEnt], by simp [endE, newEnt]; omega⟩
theorem Cyc.one (h : Cyc n i E) {t : Nat} (ht : t < n) : oldE i t ∈ E ∧ ∀ e ∈ E, e.th = (t : Int) → n ≤ 1000 → e = oldE i t := by
  obtain ⟨B, rfl, hl, hB⟩ := h
  refine ⟨List.mem_append_left _ (List.mem_map.2 ⟨t, by simpa using ht, rfl⟩), fun e he hth hn => ?_⟩
  rcases List.mem_append.1 he with he | he
  · obtain ⟨t', _, rfl⟩ := List.mem_map.1 he
    have : t' = t := by simp [oldE] at hth; omega
    rw [this]
  · have := (hB e he).2.2.1
    omega
theorem cyc_start (k : Nat) : (List.range (k + 1)).map (oldE 0) = (List.range k).map (oldE 0) ++ [newEnt (k : Int) ((k : Int) + 1) 0] := by
  rw [List.range_succ, List.map_append]
  rfl
/-- The first one, and the rest. -/
theorem Cyc.cut (h : Cyc n i E) (hn : 1 ≤ n) : ∃ R, E = oldE i 0 :: R ∧ R.length = n - 1 + i ∧ (∀ e ∈ R, e.st = 0 ∧ e.nt = false ∧ e.th ≠ 0 ∧ 0 ≤ e.cy ∧ e.cy ≤ (i : Int)) ∧ (2 ≤ n → n ≤ 1000 → oldE i (n - 1) ∈ R ∧ ∀ e ∈ R, e.th = (n : Int) - 1 → e = oldE i (n - 1)) := by
  obtain ⟨m, rfl⟩ : ∃ m, n = m + 1 := ⟨n - 1, by omega⟩
  obtain ⟨B, rfl, hl, hB⟩ := h
  refine ⟨((List.range m).map fun t => oldE i (t + 1)) ++ B, ?_, by simp [hl], fun e he => ?_, fun h2 h3 => ⟨?_, fun e he hth => ?_⟩⟩
  · rw [List.range_succ_eq_map]
    simp [Function.comp_def]
  · rcases List.mem_append.1 he with he | he
    · obtain ⟨t, _, rfl⟩ := List.mem_map.1 he
      exact ⟨rfl, rfl, by simp [oldE]; omega, by simp [oldE], by simp [oldE]⟩
    · obtain ⟨h1, h2, h3, h4, h5, h6⟩ := hB e he
      exact ⟨h1, h2, by omega, h5, h6⟩
  · refine List.mem_append_left _ (List.mem_map.2 ⟨m - 1, by simp; omega, ?_⟩)
    rw [show m - 1 + 1 = m + 1 - 1 by omega]
  · rcases List.mem_append.1 he with he | he
    · obtain ⟨t, _, rfl⟩ := List.mem_map.1 he
      have : t + 1 = m + 1 - 1 := by simp [oldE] at hth; omega
      rw [this]
    · have := (hB e he).2.2.1
      omega
end

set_option maxHeartbeats 2000000 in
set_option maxRecDepth 20000 in
theorem cycles_bad (n0 n1 : Int) (w : World) (h : n0 < 1 ∨ ¬ n0 < 1 ∧ n0 > 50 ∨ ¬ n0 < 1 ∧ ¬ n0 > 50 ∧ n1 < 0 ∨ ¬ n0 < 1 ∧ ¬ n0 > 50 ∧ ¬ n1 < 0 ∧ n1 > 20) :
    Calls Try.prog 5 #[.int .i64 n0, .int .i64 n1] w fun e w' => e = .returned (.bool true) ∧ Kept w w' := by
  have HF : Hid (∀ w : World, _) := fun w => lfirst_any w
  have HN : Hid (∀ w : World, _) := fun w => new_any w (base := w.heap.size) (Nat.le_refl _)
  rcases h with h | ⟨h0, h⟩ | ⟨h0, h1, h⟩ | ⟨h0, h1, h2, h⟩
  all_goals
    go_enter Try.func5, Try.ntmps5
    go_wp2_with fail
    refine (HF.out _).mono ?_
    rintro e w1 ⟨rfl, k1⟩
    have K1 : Hid (Kept w w1) := k1
    clear k1
    go_wp2_with fail
    refine (HN.out _).mono ?_
    rintro e w2 ⟨b, rfl, -, k2, -⟩
    have K2 : Hid (Kept w w2) := K1.out.trans k2
    clear k2 K1
    go_wp2_with fail
    refine (HF.out _).mono ?_
    rintro e w3 ⟨rfl, k3⟩
    have K3 : Hid (Kept w w3) := K2.out.trans k3
    clear k3 K2
    go_wp2
    go_ret
    exact ⟨rfl, K3.out⟩

theorem agg_in (e : Ent) (y : Option Addr) (d : Nat) : e.agg y d = .agg #[.int .i64 e.th, .int .i64 e.fr, .int .i64 e.sp, .int .i64 e.st, .int .i64 e.cy, .int .i64 e.pl, .slice y e.G.length d] := rfl

/-- What lies behind the last cycle: the first one granted, all others waiting. -/
def grE (i : Nat) (y : Option Addr) (d : Nat) : Ent := ⟨0, 1, 0, 1, (i : Int), 5, y, d, [1, 2], false⟩
theorem gr_turn (i : Nat) (y : Option Addr) (d : Nat) (R : List Ent) : (((({ oldE i 0 with st := 1, pl := 5, gx := y, gc := d, G := [1, 2] } : Ent) :: R).map noteE).map endE) = grE i y d :: (R.map noteE).map endE := rfl
theorem rest_turn {n i : Nat} {R : List Ent} (h2 : ∀ e ∈ R, e.st = 0 ∧ e.nt = false ∧ e.th ≠ 0 ∧ 0 ≤ e.cy ∧ e.cy ≤ (i : Int)) (h3 : 2 ≤ n → n ≤ 1000 → oldE i (n - 1) ∈ R ∧ ∀ e ∈ R, e.th = (n : Int) - 1 → e = oldE i (n - 1)) :
    (∀ e ∈ (R.map noteE).map endE, e.st = 0 ∧ e.th ≠ 0) ∧ (2 ≤ n → n ≤ 1000 → ∃ q, q ∈ (R.map noteE).map endE ∧ q.th = (n : Int) - 1 ∧ q.cy = (i : Int) + 1 ∧ ∀ e ∈ (R.map noteE).map endE, e.th = (n : Int) - 1 → e = q) := by
  refine ⟨fun e he => ?_, fun hn hm => ⟨endE (noteE (oldE i (n - 1))), ?_, ?_, ?_, fun e he hth => ?_⟩⟩
  · obtain ⟨e1, he1, rfl⟩ := List.mem_map.1 he
    obtain ⟨e2, he2, rfl⟩ := List.mem_map.1 he1
    exact ⟨(h2 e2 he2).1, (h2 e2 he2).2.2.1⟩
  · exact List.mem_map.2 ⟨_, List.mem_map.2 ⟨_, (h3 hn hm).1, rfl⟩, rfl⟩
  · show ((n - 1 : Nat) : Int) = _
    omega
  · simp [oldE, noteE, endE]
  · obtain ⟨e1, he1, rfl⟩ := List.mem_map.1 he
    obtain ⟨e2, he2, rfl⟩ := List.mem_map.1 he1
    rw [(h3 hn hm).2 e2 he2 hth]
theorem find_last {n i : Nat} {y : Option Addr} {d : Nat} {R : List Ent} (hn : 1 ≤ n) (hm : n ≤ 1000) (h2 : 2 ≤ n → n ≤ 1000 → ∃ q, q ∈ R ∧ q.th = (n : Int) - 1 ∧ q.cy = (i : Int) + 1 ∧ ∀ e ∈ R, e.th = (n : Int) - 1 → e = q) :
    ∃ q, (grE i y d :: R).find? (fun e => e.th == (n : Int) - 1) = some q ∧ (n ≠ 1 → q.cy = (i : Int) + 1) := by
  by_cases h : n = 1
  · subst h
    exact ⟨grE i y d, by simp [grE], fun q => absurd rfl q⟩
  · obtain ⟨q, h3, h4, h5, h6⟩ := h2 (by omega) hm
    refine ⟨q, find_th (List.mem_cons_of_mem _ h3) h4 (fun e he hth => ?_), fun _ => h5⟩
    rcases List.mem_cons.1 he with rfl | he
    · have : (0 : Int) = (n : Int) - 1 := hth
      omega
    · exact h6 e he hth
theorem wts_all {R : List Ent} (h : ∀ e ∈ R, e.st = 0) : wts R = R := List.filter_eq_self.2 (fun e he => by simp [h e he])

set_option maxHeartbeats 8000000 in
set_option maxRecDepth 20000 in
theorem cycles_in (n c : Nat) (w : World) (hn : 1 ≤ n) (hn2 : n ≤ 50) (hc : c ≤ 20) :
    Calls Try.prog 5 #[.int .i64 n, .int .i64 c] w fun e w' => e = .returned (.bool true) ∧ Kept w w' := by
  go_enter Try.func5, Try.ntmps5
  go_wp2_with fail
  refine (lfirst_any _).mono ?_
  rintro e w1 ⟨rfl, k1⟩
  have K1 : Hid (Kept w w1) := k1
  clear k1
  go_wp2_with fail
  refine (new_any _ K1.out.size).mono ?_
  rintro e w2 ⟨b, rfl, t2, k2, -⟩
  have H2 : Hid (St w w2 b (.slice none 0 0) []) := ⟨t2, K1.out.trans k2⟩
  clear k2 K1 t2
  have e1 : ¬ (n : Int) < 1 := by omega
  have e2 : ¬ (n : Int) > 50 := by omega
  have e3 : ¬ (c : Int) < 0 := by omega
  have e4 : ¬ (c : Int) > 20 := by omega
  go_wp2_with fail
  clear e1 e2 e3 e4
  go_loopg [6] n (fun m t wr => ∃ k : Nat, t = .int .i64 k ∧ k ≤ n ∧ m = n - k ∧ Hid (∃ v, St w wr b v ((List.range k).map (oldE 0))))
  case atStart => exact ⟨0, rfl, by omega, by omega, _, H2.out⟩
  case round =>
    obtain ⟨k, rfl, hk, hm, hw⟩ := hrel
    have HM : Hid _ := hm
    clear hm H2
    by_cases hlt : k < n
    · obtain ⟨v, H3⟩ := hw.out
      have H3 : Hid (St w wr b v ((List.range k).map (oldE 0))) := H3
      have A := add_yes (t := (k : Int)) (f := (k : Int) + 1) (s := 0) (s3 := 2) (s4 := 7) (s5 := 0) (x := none) (l := 0) (c := 0) _ H3.out.tab (by simp; omega) (fun e he => by
        obtain ⟨t, ht, rfl⟩ := List.mem_map.1 he
        simp at ht
        simp [oldE]
        omega)
      go_wp2_with fail
      refine A.mono ?_
      rintro e w4 ⟨rfl, v4, t4, m4, -⟩
      have H4 : Hid (St w w4 b v4 ((List.range (k + 1)).map (oldE 0))) := by rw [cyc_start]; exact H3.out.turn t4 m4
      clear t4 m4 H3 A hw
      go_wp2
      go_roundg (gk - 1)
      all_goals (have := HM.out; try omega)
      exact ⟨k + 1, by go_num, by omega, by omega, _, H4.out⟩
    · obtain rfl : k = n := by omega
      obtain ⟨wA, rfl⟩ : ∃ wA, wA = wr := ⟨_, rfl⟩
      have HC : Hid (∃ v E, St w wA b v E ∧ Cyc k 0 E) := by
        obtain ⟨v, h⟩ := hw.out
        exact ⟨v, _, h, [], by simp, rfl, by simp⟩
      clear hw HM
      go_wp2_with fail
      go_loopg [7] c (fun m t wr => ∃ i : Nat, t = .int .i64 i ∧ i ≤ c ∧ m = c - i ∧ Hid (∃ v E, St w wr b v E ∧ Cyc k i E))
      case atStart => exact ⟨0, rfl, by omega, by omega, HC.out⟩
      case round =>
        obtain ⟨i, rfl, hi, hm, hw⟩ := hrel
        have HM : Hid _ := hm
        clear hm HC
        by_cases hlt : i < c
        · obtain ⟨v, E, h3, hC⟩ := hw.out
          have H3 : Hid (St w wr b v E ∧ Cyc k i E) := ⟨h3, hC⟩
          clear h3 hC hw
          have C1 := end_any _ H3.out.1.tab (fun e he => by have := H3.out.2.each e he; omega)
          rw [H3.out.2.ends] at C1
          go_wp2_with fail
          refine C1.mono ?_
          rintro e w4 ⟨rfl, t4, m4⟩
          have H4 : Hid (St w w4 b v E) := H3.out.1.turn t4 m4
          clear t4 m4 C1
          go_wp2_with fail
          refine (begin_any _ H4.out.tab).mono ?_
          rintro e w5 ⟨rfl, t5, m5⟩
          have H5 : Hid (St w w5 b v (E.map noteE)) := H4.out.turn t5 m5
          clear t5 m5 H4
          have A := add_yes (t := 1000 + (i : Int)) (f := 0) (s := 0) (s3 := 0) (s4 := 0) (s5 := 0) (x := none) (l := 0) (c := 0) _ H5.out.tab (by rw [List.length_map, H3.out.2.len]; omega) (fun e he => by
            obtain ⟨e1, he1, rfl⟩ := List.mem_map.1 he
            have := (H3.out.2.each e1 he1).2.2.2.2
            show e1.th ≠ _
            omega)
          go_wp2_with fail
          refine A.mono ?_
          rintro e w6 ⟨rfl, v6, t6, m6, -⟩
          have H6 : Hid (St w w6 b v6 (E.map noteE ++ [newEnt (1000 + (i : Int)) 0 0])) := H5.out.turn t6 m6
          clear t6 m6 A H5
          have C2 := end_any _ H6.out.tab (fun e he => by
            rcases List.mem_append.1 he with he | he
            · obtain ⟨e1, he1, rfl⟩ := List.mem_map.1 he
              have := H3.out.2.each e1 he1
              show 0 ≤ e1.cy ∧ e1.cy ≤ 1000000
              omega
            · simp at he
              subst he
              simp [newEnt])
          go_wp2_with fail
          refine C2.mono ?_
          rintro e w7 ⟨rfl, t7, m7⟩
          have H7 : Hid (∃ v E, St w w7 b v E ∧ Cyc k (i + 1) E) := ⟨v6, _, H6.out.turn t7 m7, H3.out.2.step⟩
          clear t7 m7 C2 H6 H3
          go_wp2
          go_roundg (c - (i + 1))
          all_goals (have := HM.out; try omega)
          exact ⟨i + 1, by go_num, by omega, by omega, H7.out⟩
        · obtain rfl : i = c := by omega
          obtain ⟨v, E, h3, hC⟩ := hw.out
          obtain ⟨R, rfl, hR1, hR2, hR3⟩ := hC.cut hn
          have H3 : Hid (St w wr b v (oldE i 0 :: R)) := h3
          have HR : Hid _ := hR1
          have HR2 : Hid _ := hR2
          have HR3 : Hid _ := hR3
          clear h3 hC hw HM hR1 hR2 hR3
          have C3 := of_any 0 _ H3.out.tab
          rw [show (oldE i 0 :: R).find? (fun e => e.th == 0) = some (oldE i 0) from rfl] at C3
          go_wp2_with fail
          refine C3.mono ?_
          rintro e w4 ⟨y4, d4, rfl, -, -, k4⟩
          rw [show (told (some (oldE i 0))).agg y4 d4 = .agg #[.int .i64 0, .int .i64 1, .int .i64 0, .int .i64 0, .int .i64 (i : Int), .int .i64 (-1), .slice y4 0 d4] from rfl, show (some (oldE i 0)).isSome = true from rfl]
          have H4 : Hid (St w w4 b v (oldE i 0 :: R)) := H3.out.still k4
          clear k4 C3 H3
          have q1 : ((i : Int) != (i : Int)) = false := by simp
          go_wp2_with fail
          clear q1
          generalize hW : w4.alloc _ = W
          have kW : Kept w4 W := by rw [← hW]; exact (Kept.refl _).alloc _ _
          have zW : W.heap.size = w4.heap.size + 1 := by rw [← hW]; simp
          clear hW
          have H5 : Hid (St w (W.alloc (.cells #[.int .i64 1, .int .i64 2] 3)) b v (oldE i 0 :: R)) := H4.out.still (kW.alloc _ _)
          clear kW H4
          have I6 : idx (fun e => e.st == 0) (oldE i 0 :: R) = ((0 : Nat) : Int) := idx_at (i := 0) (by simp) rfl (by simp)
          have C6 := grant_yes (i := 0) (x := some ⟨W.heap.size, 0, none⟩) (c := 2) (N := [1, 2]) (p := 5) _ H5.out.tab (by simp) I6 (rdi_lit W [1, 2]) (by simp)
          rw [show ([1, 2] : List Int).length = 2 from rfl, zW] at C6
          refine C6.mono ?_
          rintro e w6 ⟨rfl, y6, d6, t6, m6, -⟩
          have H6 : Hid (St w w6 b v (({ oldE i 0 with st := 1, pl := 5, gx := y6, gc := d6, G := [1, 2] } : Ent) :: R)) := H5.out.turn t6 m6
          clear t6 m6 H5 C6 I6 zW
          go_wp2_with fail
          refine (begin_any _ H6.out.tab).mono ?_
          rintro e w7 ⟨rfl, t7, m7⟩
          have H7 : Hid (St w w7 b v ((({ oldE i 0 with st := 1, pl := 5, gx := y6, gc := d6, G := [1, 2] } : Ent) :: R).map noteE)) := H6.out.turn t7 m7
          clear t7 m7 H6
          have C8 := end_any _ H7.out.tab (fun e he => by
            obtain ⟨e1, he1, rfl⟩ := List.mem_map.1 he
            show 0 ≤ e1.cy ∧ e1.cy ≤ 1000000
            rcases List.mem_cons.1 he1 with rfl | he1
            · simp [oldE]
              omega
            · have := (HR2.out e1 he1).2.2.2
              omega)
          rw [gr_turn] at C8
          go_wp2_with fail
          refine C8.mono ?_
          rintro e w8 ⟨rfl, t8, m8⟩
          obtain ⟨r1, r2⟩ := rest_turn HR2.out HR3.out
          have hlen : ((R.map noteE).map endE).length = k - 1 + i := by simpa using HR.out
          have H8 : Hid (St w w8 b v (grE i y6 d6 :: (R.map noteE).map endE)) := H7.out.turn t8 m8
          clear t8 m8 C8 H7 HR HR2 HR3
          generalize (R.map noteE).map endE = Q at *
          obtain ⟨q, hq1, hq2⟩ := find_last (y := y6) (d := d6) hn (by omega) r2
          have R1 : Hid _ := r1
          have HL : Hid _ := hlen
          clear r1 r2 hlen
          have C9 := of_any 0 _ H8.out.tab
          rw [show (grE i y6 d6 :: Q).find? (fun e => e.th == 0) = some (grE i y6 d6) from rfl] at C9
          go_wp2_with fail
          refine C9.mono ?_
          rintro e w9 ⟨y9, d9, rfl, r9, -, k9⟩
          rw [show (told (some (grE i y6 d6))).agg y9 d9 = .agg #[.int .i64 0, .int .i64 1, .int .i64 0, .int .i64 1, .int .i64 (i : Int), .int .i64 5, .slice y9 2 d9] from rfl, show (some (grE i y6 d6)).isSome = true from rfl]
          have H9 : Hid (St w w9 b v (grE i y6 d6 :: Q) ∧ Rdi w9 y9 [1, 2]) := ⟨H8.out.still k9, r9⟩
          clear k9 C9 H8 r9
          have HQ : Hid _ := hq1
          clear hq1
          go_wp2_with fail
          generalize hW : w9.alloc _ = W9
          have BA : Blk W9 w9.heap.size [.int .i64 0, .int .i64 1, .int .i64 0, .int .i64 1, .int .i64 (i : Int), .int .i64 5, .slice y9 2 d9] := by rw [← hW]; exact Blk.new w9 _ _
          have kW : Kept w9 W9 := by rw [← hW]; exact (Kept.refl _).alloc _ _
          clear hW
          have C10 := of_any ((k : Int) - 1) _ (H9.out.1.still kW).tab
          rw [HQ.out] at C10
          refine C10.mono ?_
          rintro e w10 ⟨y10, d10, rfl, -, -, k10⟩
          rw [show told (some q) = q from rfl, agg_in, show (some q).isSome = true from rfl]
          generalize w9.heap.size = ba at *
          have H10 : Hid (St w w10 b v (grE i y6 d6 :: Q) ∧ Rdi w10 y9 [1, 2] ∧ Blk w10 ba [.int .i64 0, .int .i64 1, .int .i64 0, .int .i64 1, .int .i64 (i : Int), .int .i64 5, .slice y9 2 d9]) := ⟨(H9.out.1.still kW).still k10, (H9.out.2.kept kW).kept k10, BA.kept k10⟩
          clear kW k10 C10 H9 BA
          go_wp2_with fail
          generalize hW : w10.alloc _ = W10
          have BB : Blk W10 w10.heap.size [.int .i64 q.th, .int .i64 q.fr, .int .i64 q.sp, .int .i64 q.st, .int .i64 q.cy, .int .i64 q.pl, .slice y10 q.G.length d10] := by rw [← hW]; exact Blk.new w10 _ _
          have kW : Kept w10 W10 := by rw [← hW]; exact (Kept.refl _).alloc _ _
          clear hW
          generalize w10.heap.size = bb at *
          refine (lfirst_any _).mono ?_
          rintro e w11 ⟨rfl, k11⟩
          have k12 := kW.trans k11
          have B11 := H10.out.2.2.kept k12
          have B12 := BB.kept k11
          have a3 := B11.at 3 rfl
          have a4 := B11.at 4 rfl
          have a5 := B11.at 5 rfl
          have a6 := B11.at 6 rfl
          have H11 : Hid (St w w11 b v (grE i y6 d6 :: Q) ∧ Rdi w11 y9 [1, 2] ∧ Blk w11 bb [.int .i64 q.th, .int .i64 q.fr, .int .i64 q.sp, .int .i64 q.st, .int .i64 q.cy, .int .i64 q.pl, .slice y10 q.G.length d10]) := ⟨H10.out.1.still k12, H10.out.2.1.kept k12, B12⟩
          clear kW k11 k12 B11 B12 H10 BB
          have z1 : ((i : Int) == (i : Int)) = true := by simp
          go_wp2_with fail
          have C12 := ints_any (T := [1, 2]) (x := y9) (y := some ⟨w11.heap.size, 0, none⟩) (c := d9) (d := 2) _ (by simp) (H11.out.2.1.kept ((Kept.refl _).alloc _ _)) (rdi_lit w11 [1, 2])
          rw [show ([1, 2] : List Int).length = 2 from rfl] at C12
          refine C12.mono ?_
          rintro e w12 ⟨rfl, k12⟩
          have H12 : Hid (St w w12 b v (grE i y6 d6 :: Q)) := H11.out.1.still k12.ofAlloc
          have B12 := H11.out.2.2.kept k12.ofAlloc
          have c4 := B12.at 4 rfl
          clear a3 a4 a5 a6 k12 H11 B12 z1 C12
          have I13 : idx (fun e => e.th == 0) (grE i y6 d6 :: Q) = ((0 : Nat) : Int) := idx_at (i := 0) (by simp) rfl (by simp)
          have C13 := drop_yes (t := 0) (i := 0) _ H12.out.tab (by simp) I13
          clear I13
          by_cases h1 : k = 1
          · have z1 : ((k : Int) == 1) = true := by simp [h1]
            have HK : Hid _ := h1
            clear h1
            go_wp2_with fail
            refine C13.mono ?_
            rintro e w13 ⟨rfl, v13, t13, m13, -⟩
            have H13 : Hid (St w w13 b v13 Q) := H12.out.turn t13 m13
            clear t13 m13 H12 C13 c4
            go_wp2_with fail
            refine (drop_no (t := 0) _ H13.out.tab (idx_none fun e he => by simpa using (R1.out e he).2)).mono ?_
            rintro e w14 ⟨rfl, k14⟩
            have H14 : Hid (St w w14 b v13 Q) := H13.out.still k14
            clear k14 H13
            have C15 := waits_any _ H14.out.tab
            rw [wts_all fun e he => (R1.out e he).1] at C15
            go_wp2_with fail
            refine C15.mono ?_
            rintro e w15 ⟨rfl, k15⟩
            have K15 : Hid (Kept w w15) := H14.out.kept.trans k15
            have z2 : ((Q.length : Int) == (k : Int) - 1 + (i : Int)) = true := by have := HL.out; simp; omega
            clear k15 C15 H14
            go_wp2
            go_ret
            exact ⟨rfl, K15.out⟩
          · have z1 : ((k : Int) == 1) = false := by simp; omega
            have z3 : (q.cy == (i : Int) + 1) = true := by simpa using hq2 h1
            have HK : Hid _ := h1
            clear h1
            go_wp2_with fail
            refine C13.mono ?_
            rintro e w13 ⟨rfl, v13, t13, m13, -⟩
            have H13 : Hid (St w w13 b v13 Q) := H12.out.turn t13 m13
            clear t13 m13 H12 C13 c4
            go_wp2_with fail
            refine (drop_no (t := 0) _ H13.out.tab (idx_none fun e he => by simpa using (R1.out e he).2)).mono ?_
            rintro e w14 ⟨rfl, k14⟩
            have H14 : Hid (St w w14 b v13 Q) := H13.out.still k14
            clear k14 H13
            have C15 := waits_any _ H14.out.tab
            rw [wts_all fun e he => (R1.out e he).1] at C15
            go_wp2_with fail
            refine C15.mono ?_
            rintro e w15 ⟨rfl, k15⟩
            have K15 : Hid (Kept w w15) := H14.out.kept.trans k15
            have z2 : ((Q.length : Int) == (k : Int) - 1 + (i : Int)) = true := by have := HL.out; simp; omega
            clear k15 C15 H14
            go_wp2
            go_ret
            exact ⟨rfl, K15.out⟩

theorem lineCycles_any (n0 n1 : Int) (w : World) (_lo0 : IntKind.min .i64 ≤ n0) (_hi0 : n0 ≤ IntKind.max .i64) (_lo1 : IntKind.min .i64 ≤ n1) (_hi1 : n1 ≤ IntKind.max .i64) :
    Calls Try.prog 5 #[.int .i64 n0, .int .i64 n1] w fun e w' => e = .returned (.bool true) ∧ Kept w w' := by
  by_cases h : 1 ≤ n0 ∧ n0 ≤ 50 ∧ 0 ≤ n1 ∧ n1 ≤ 20
  · obtain ⟨n, rfl⟩ : ∃ n : Nat, n0 = n := ⟨n0.toNat, by omega⟩
    obtain ⟨c, rfl⟩ : ∃ c : Nat, n1 = c := ⟨n1.toNat, by omega⟩
    exact cycles_in n c w (by omega) (by omega) (by omega)
  · exact cycles_bad n0 n1 w (by omega)
end Go.Proofs.Ytbbbkeomdhimlaa
