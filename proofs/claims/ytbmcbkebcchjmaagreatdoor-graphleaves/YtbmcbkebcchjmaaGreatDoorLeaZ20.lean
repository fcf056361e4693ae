/-
  GraphLeaves.
-/
import Derived.Test.YtbmcbkebcchjmaaGreatDoorLeaC20
namespace Go.Proofs.YtbmcbkebcchjmaaGreatDoor
open Go.RowKit
attribute [local go_sem] run_store_complex

def oLeave : OP := ⟨18, 0, 0, 0, 0, 0, 0⟩
def oSet (n b : Int) : OP := ⟨8, 0, b, 0, n, 0, 0⟩
def chO (j : Nat) : List Tp := (List.range j).map fun i => ⟨0, 0, if i = 0 then none else some ((1 : Int), refV (i - 1))⟩
theorem chO_len (j : Nat) : (chO j).length = j := by simp [chO]
theorem chO_succ {j : Nat} (h : 1 ≤ j) : (chO j ++ [(⟨0, 0, none⟩ : Tp)]).set j ⟨0, 0, some ((1 : Int), refV (j - 1))⟩ = chO (j + 1) := by
  have e : chO (j + 1) = chO j ++ [⟨0, 0, some ((1 : Int), refV (j - 1))⟩] := by
    unfold chO
    rw [List.range_succ, List.map_append]
    simp only [List.map_cons, List.map_nil]
    rw [if_neg (by omega)]
  rw [e, List.set_append_right _ _ (by rw [chO_len]; exact Nat.le_refl _), chO_len, Nat.sub_self]
  rfl
/-- A chain of j; its last is held by the first local. -/
def lS (j : Nat) (x : V) (G : List V) : Pg := ⟨chO j, some [refV (j - 1), x, zerV, zerV], G⟩
theorem runs_ch0 : Runs CW ⟨[], some [zerV, zerV, zerV, zerV], gG⟩ [oNew 0] (refV 0) (lS 1 zerV gG) :=
  .last (does_new CW.ok (S := ⟨[], some [zerV, zerV, zerV, zerV], gG⟩) (o := oNew 0) (vs := [zerV, zerV, zerV, zerV]) rfl rfl (names_l (by decide) (by decide) (by decide)) (kd := 0) (makesW 0) (j := 0) (by decide) rfl (by decide))
theorem runs_ch {j : Nat} (h1 : 1 ≤ j) (h2 : j ≤ 100) (x : V) : Runs CW (lS j x gG) [oNew 1, oStore 1 1 0, oCopy 0 1] (refV j) (lS (j + 1) (refV j) gG) := by
  refine .more (S1 := ⟨chO j ++ [⟨0, 0, none⟩], some [refV (j - 1), refV j, zerV, zerV], gG⟩) (v := refV j) ?_ (.more (S1 := ⟨chO (j + 1), some [refV (j - 1), refV j, zerV, zerV], gG⟩) (v := zerV) ?_ (.last ?_))
  · have h : Does CW (lS j x gG) (oNew 1) (refV (chO j).length) ⟨chO j ++ [⟨0, 0, none⟩], some [refV (j - 1), refV (chO j).length, zerV, zerV], gG⟩ :=
      does_new CW.ok (S := lS j x gG) (o := oNew 1) (vs := [refV (j - 1), x, zerV, zerV]) rfl rfl (names_l (by decide) (by decide) (by decide)) (kd := 0) (makesW 1) (j := 1) (by simp) rfl (by show (chO j).length < 1000; rw [chO_len]; omega)
    rw [chO_len] at h
    exact h
  · have h : Does CW ⟨chO j ++ [(⟨0, 0, none⟩ : Tp)], some [refV (j - 1), refV j, zerV, zerV], gG⟩ (oStore 1 1 0) zerV ⟨(chO j ++ [(⟨0, 0, none⟩ : Tp)]).set j ⟨0, 0, some ((1 : Int), refV (j - 1))⟩, some [refV (j - 1), refV j, zerV, zerV], gG⟩ :=
      does_store CW.ok (S := ⟨chO j ++ [⟨0, 0, none⟩], some [refV (j - 1), refV j, zerV, zerV], gG⟩) (o := oStore 1 1 0) (vs := [refV (j - 1), refV j, zerV, zerV]) rfl rfl (names_l (by decide) (by decide) (by decide)) (i := j) (t := ⟨0, 0, none⟩)
        (by show (chO j ++ [(⟨0, 0, none⟩ : Tp)])[j]? = some (⟨0, 0, none⟩ : Tp); rw [List.getElem?_append_right (by rw [chO_len]; exact Nat.le_refl _), chO_len, Nat.sub_self]; rfl) rfl (j := 1) (by simp) rfl rfl (jb := 0) (by simp) rfl rfl (jn := 1) rfl (by omega) rfl (by decide) rfl
    rw [chO_succ h1] at h
    exact h
  · exact does_copy CW.ok (S := ⟨chO (j + 1), some [refV (j - 1), refV j, zerV, zerV], gG⟩) (o := oCopy 0 1) (vs := [refV (j - 1), refV j, zerV, zerV]) rfl rfl (names_l (by decide) (by decide) (by decide)) (j := 0) (by simp) rfl (i := 1) (by simp) rfl rfl
theorem names_set : ∀ l ∈ lts 8, Names CW (oSet 1 0) l := fun l hm => by
  have : l = 71 ∨ l = 66 := by simpa [lts] using hm
  rcases this with rfl | rfl
  · exact ⟨fun e => absurd e (by decide), fun _ => (by decide : (0 : Int) ≤ 1 ∧ (1 : Int) < 2)⟩
  · exact ⟨fun _ => (by decide : (0 : Int) ≤ 0 ∧ (0 : Int) < 4), fun e => absurd e (by decide)⟩
theorem runs_keep (n : Nat) (x : V) : Runs CW (lS n x gG) [oSet 1 0] zerV (lS n x [noneV, refV (n - 1)]) :=
  .last (does_set CW.ok (S := lS n x gG) (o := oSet 1 0) (vs := [refV (n - 1), x, zerV, zerV]) rfl rfl names_set (jb := 0) (by simp) rfl rfl rfl (jn := 1) rfl (by show 1 < 2; omega))
theorem runs_leave (n : Nat) (x : V) (G : List V) : Runs CW (lS n x G) [oLeave] zerV ⟨chO n, none, G⟩ :=
  .last (does_leave CW.ok (S := lS n x G) (o := oLeave) (vs := [refV (n - 1), x, zerV, zerV]) rfl rfl)

def csc (n i : Nat) : Option Nat := if i < n ∧ i ≠ 0 then some (i - 1) else none
theorem ch_get {n i : Nat} {t : Tp} (h : (chO n)[i]? = some t) : i < n ∧ t = ⟨0, 0, if i = 0 then none else some ((1 : Int), refV (i - 1))⟩ := by
  have hi : i < n := by
    have := (List.getElem?_eq_some_iff.1 h).1
    rwa [chO_len] at this
  unfold chO at h
  rw [List.getElem?_map, List.getElem?_range hi] at h
  exact ⟨hi, by simpa using h.symm⟩
theorem ch_leads {n : Nat} (hn : n ≤ 100) : LeadsT (chO n) (csc n) := fun i t h => by
  obtain ⟨hi, rfl⟩ := ch_get h
  unfold csc
  by_cases e : i = 0
  · left
    simp [e]
  · right
    refine ⟨1, refV (i - 1), by simp [e], ?_⟩
    rw [if_pos ⟨hi, e⟩]
    exact Kd.ref _ (by omega)
theorem ch_in {n : Nat} (i j : Nat) (h : csc n i = some j) : j < (chO n).length := by
  rw [chO_len]
  unfold csc at h
  split at h
  · rename_i q
    have h : i - 1 = j := by simpa using h
    omega
  · cases h
theorem ch_all {n : Nat} {rs : List Nat} (h1 : 1 ≤ n) (hr : ∀ r ∈ rs, r = n - 1) (hm : n - 1 ∈ rs) (x : Nat) : Rch rs (csc n) x ↔ x < n := by
  constructor
  · intro h
    exact h.lt (fun r hq => by have := hr r hq; omega) (fun i j e => by have := ch_in i j e; rwa [chO_len] at this)
  · intro h
    have : ∀ d, d < n → Rch rs (csc n) (n - 1 - d) := by
      intro d
      induction d with
      | zero => intro _; exact .root _ hm
      | succ d ih =>
        intro hd
        refine .step _ _ (ih (by omega)) ?_
        unfold csc
        rw [if_pos (by omega)]
        congr 1
    have e : n - 1 - (n - 1 - x) = x := by omega
    have := this (n - 1 - x) (by omega)
    rwa [e] at this
/-- The globals: with the last of the chain, or without. -/
def kG (keep : Bool) (n : Nat) : List V := if keep then [noneV, refV (n - 1)] else [noneV, noneV]
def kT (keep : Bool) (n : Nat) : List (Option Nat) := if keep then [none, some (n - 1)] else [none, none]
theorem kG_kds (keep : Bool) {n : Nat} (hn : n ≤ 100) : Kds (kG keep n) (kT keep n) := by
  cases keep
  · exact Kds.rep 2
  · exact ⟨rfl, fun k q q' => by
      have q : k < 2 := q
      rcases (by omega : k = 0 ∨ k = 1) with rfl | rfl
      · exact Kd.none
      · exact Kd.ref _ (by omega)⟩
theorem kT_len (keep : Bool) (n : Nat) : (kT keep n).length ≤ 1000 := by cases keep <;> simp [kT]
theorem lea_reach {base p n : Nat} {F : List Nat} {w : World} {x : V} {tx : Option Nat} (keep : Bool) (h : GS CW base p F (lS n x (kG keep n)) w) (h1 : 1 ≤ n) (h2 : n ≤ 100) (hx : Kd x tx) (ht : tx = none ∨ tx = some (n - 1)) :
    Calls Tryz.prog 14 #[.pointer (some ⟨p, 0, none⟩)] w fun e w' => ∃ y d, e = .returned (.slice y n d) ∧ Kept w w' := by
  have hroot : ∀ r ∈ (kT keep n).filterMap id ++ [some (n - 1), tx, none, none].filterMap id, r = n - 1 := fun r hr => by
    cases keep <;> rcases ht with rfl | rfl <;> simpa [kT] using hr
  have hmem : n - 1 ∈ (kT keep n).filterMap id ++ [some (n - 1), tx, none, none].filterMap id := by
    cases keep <;> rcases ht with rfl | rfl <;> simp [kT]
  refine (gs_reach h (vs := [refV (n - 1), x, zerV, zerV]) rfl (tg := kT keep n) (tl := [some (n - 1), tx, none, none]) (kG_kds keep h2) ⟨rfl, fun k q q' => ?_⟩ (kT_len keep n) (by simp) (csc n) (ch_leads h2) (fun r hr => ?_) ch_in).mono ?_
  · have q : k < 4 := q
    rcases (by omega : k = 0 ∨ k = 1 ∨ k = 2 ∨ k = 3) with rfl | rfl | rfl | rfl
    · exact Kd.ref _ (by omega)
    · exact hx
    · exact Kd.num _ _
    · exact Kd.num _ _
  · have := hroot r hr
    show r < (chO n).length
    rw [chO_len]; omega
  · rintro e w' ⟨v, ids, rfl, hl, hn, hi, k⟩
    have hp := all_perm hn fun y => (hi y).trans (ch_all h1 hroot hmem y)
    have e1 : ids.length = n := by rw [hp.length_eq, List.length_range]
    obtain ⟨y, d, rfl⟩ := hl.form
    rw [NI_len, e1]
    exact ⟨y, d, rfl, k⟩
theorem left_reach {base p n : Nat} {F : List Nat} {w : World} (keep : Bool) (h : GS CW base p F ⟨chO n, none, kG keep n⟩ w) (h1 : 1 ≤ n) (h2 : n ≤ 100) :
    Calls Tryz.prog 14 #[.pointer (some ⟨p, 0, none⟩)] w fun e w' => ∃ y d, e = .returned (.slice y (if keep then n else 0) d) ∧ Kept w w' := by
  refine (reach_none h rfl (tg := kT keep n) (kG_kds keep h2) (kT_len keep n) (csc n) (ch_leads h2) (fun r hr => ?_) ch_in).mono ?_
  · show r < (chO n).length
    rw [chO_len]
    cases keep
    · simp [kT] at hr
    · have : r = n - 1 := by simpa [kT] using hr
      omega
  · rintro e w' ⟨v, ids, rfl, hl, hn, hi, k⟩
    obtain ⟨y, d, rfl⟩ := hl.form
    cases keep
    · rw [ids_nil hi]
      exact ⟨y, d, rfl, k⟩
    · have hp := all_perm hn fun y => (hi y).trans (ch_all (rs := (kT true n).filterMap id) h1 (fun r hr => by simpa [kT] using hr) (by simp [kT]) y)
      have e1 : ids.length = n := by rw [hp.length_eq, List.length_range]
      rw [NI_len, e1]
      exact ⟨y, d, rfl, k⟩
theorem kG_len (keep : Bool) (n : Nat) : (kG keep n).length = 2 := by cases keep <;> rfl

set_option maxHeartbeats 16000000 in
set_option maxRecDepth 10000 in
theorem leaves_any {w : World} (hv : Vs w) (n : Int) (keep : Bool) : Calls Tryz.prog 4 #[.int .i64 n, .bool keep] w fun e w' => e = .returned (.bool true) ∧ Kept w w' := by
  have HV : Hid (Vs w) := hv
  clear hv
  go_enter Tryz.func4, Tryz.ntmps4
  go_wp2_with fail
  refine (first_any HV.out).mono ?_
  rintro e w1 ⟨rfl, k1⟩
  have K1 : Hid (Kept w w1) := k1
  clear k1
  go_wp2_with fail
  refine (wide_any w1).mono ?_
  rintro e W3 ⟨g, S, rfl, hcm, k2⟩
  have K3 : Hid (Kept w W3 ∧ CM CW W3 (some ⟨g, 0, none⟩) S) := ⟨K1.out.trans k2, hcm⟩
  clear hcm k2 K1
  unfold Cf.val Cw
  dsimp only
  go_wp2_with fail
  have HN : Hid (Calls Tryz.prog 7 #[CW.val (.slice (some ⟨g, 0, none⟩) 3 3)] W3 fun e w' => ∃ p F, e = .returned (.tuple #[.pointer (some ⟨p, 0, none⟩), .int .i64 0]) ∧ GS CW W3.heap.size p F ⟨[], none, [noneV, noneV]⟩ w' ∧ Kept W3 w') := gs_new CW.ok W3 K3.out.2 (HV.out.keep K3.out.1) (n := 2) rfl (.inr rfl)
  refine HN.out.mono ?_
  rintro e w4 ⟨p, F4, rfl, g4, k4⟩
  have HB : Hid (w.heap.size ≤ W3.heap.size) := K3.out.1.size
  have G4 : Hid (GS CW W3.heap.size p F4 ⟨[], none, [noneV, noneV]⟩ w4 ∧ Kept w w4) := ⟨g4, K3.out.1.trans k4⟩
  clear g4 k4 HN K3
  go_wp2_with fail
  have HJ : Hid (Calls Tryz.prog 8 #[.pointer (some ⟨p, 0, none⟩), .int .i64 0] w4 fun e w' => e = .returned (.bool true) ∧ ∃ F', GS CW W3.heap.size p F' ⟨[], some [zerV, zerV, zerV, zerV], gG⟩ w' ∧ Grow F4 F' w4 w') := gs_join G4.out.1 CW.ok rfl (n := 4) rfl (.inr rfl)
  refine HJ.out.mono ?_
  rintro e w5 ⟨rfl, F5, g5, r5⟩
  have G5 : Hid (GS CW W3.heap.size p F5 ⟨[], some [zerV, zerV, zerV, zerV], gG⟩ w5 ∧ Kept w w5) := ⟨g5, G4.out.1.apart r5 G4.out.2 HB.out⟩
  clear HJ G4 g5 r5
  by_cases b1 : n < 1
  · have t1 : decide (n < 1) = true := decide_eq_true b1
    go_wp2_with fail
    refine (first_any (HV.out.keep G5.out.2)).mono ?_
    rintro e w6 ⟨rfl, k6⟩
    have K6 : Hid (Kept w w6) := G5.out.2.trans k6
    clear k6 G5
    go_wp2_with fail
    go_ret
    exact ⟨rfl, K6.out⟩
  have t1 : decide (n < 1) = false := decide_eq_false b1
  by_cases b2 : 20 < n
  · have t2 : decide (20 < n) = true := decide_eq_true b2
    go_wp2_with fail
    refine (first_any (HV.out.keep G5.out.2)).mono ?_
    rintro e w6 ⟨rfl, k6⟩
    have K6 : Hid (Kept w w6) := G5.out.2.trans k6
    clear k6 G5
    go_wp2_with fail
    go_ret
    exact ⟨rfl, K6.out⟩
  obtain ⟨N, rfl⟩ : ∃ N : Nat, n = (N : Int) := ⟨n.toNat, by omega⟩
  have hN1 : 1 ≤ N := by omega
  have hN2 : N ≤ 100 := by omega
  have t2 : decide (20 < (N : Int)) = false := decide_eq_false b2
  clear b1 b2
  go_wp2_with fail
  have H6 : Hid (Calls Tryz.prog 9 #[.pointer (some ⟨p, 0, none⟩), .slice (some ⟨w5.heap.size, 0, none⟩) 1 1] (w5.alloc (.cells ([oNew 0].flatMap OP.cs).toArray 38)) fun e w' => e = .returned (.tuple #[.agg #[.bool (refV 0).r, .complex .f64 (refV 0).x (refV 0).y], .int .i64 0]) ∧ ∃ F', GS CW W3.heap.size p F' (lS 1 zerV gG) w' ∧ Kept w w') := one_at G5.out.1 G5.out.2 HB.out runs_ch0 (by simp) _
  refine H6.out.mono ?_
  rintro e w6 ⟨rfl, F6, g6, k6⟩
  have G6 : Hid (GS CW W3.heap.size p F6 (lS 1 zerV gG) w6 ∧ Kept w w6) := ⟨g6, k6⟩
  clear H6 G5 g6 k6
  go_wp2_with fail
  generalize hW7 : w6.alloc _ = W7
  have G7 : Hid (GS CW W3.heap.size p F6 (lS 1 zerV gG) W7 ∧ Kept w W7) := by
    have k : Kept w6 W7 := by rw [← hW7]; exact (Kept.refl _).alloc _ _
    exact ⟨G6.out.1.kept k, G6.out.2.trans k⟩
  clear hW7 G6
  go_loopg [8, 9] (N - 1) (fun m f i wr => ∃ (j : Nat) (F : List Nat) (x : V) (tx : Option Nat), f = .int .i64 0 ∧ i = .int .i64 (j : Int) ∧ 1 ≤ j ∧ j ≤ N ∧ m = N - j ∧ Hid (GS CW W3.heap.size p F (lS j x gG) wr ∧ Kept w wr ∧ Kd x tx ∧ (tx = none ∨ tx = some (j - 1))))
  case atStart => exact ⟨1, F6, zerV, none, rfl, rfl, Nat.le_refl _, hN1, rfl, G7.out.1, G7.out.2, Kd.num _ _, .inl rfl⟩
  case round =>
    obtain ⟨j, F, x, tx, rfl, rfl, hj1, hj2, rfl, hh⟩ := hrel
    by_cases hlt : j < N
    · go_wp2_with fail
      have H8 : Hid (Calls Tryz.prog 9 #[.pointer (some ⟨p, 0, none⟩), .slice (some ⟨wr.heap.size, 0, none⟩) 3 3] (wr.alloc (.cells ([oNew 1, oStore 1 1 0, oCopy 0 1].flatMap OP.cs).toArray 38)) fun e w' => e = .returned (.tuple #[.agg #[.bool (refV j).r, .complex .f64 (refV j).x (refV j).y], .int .i64 0]) ∧ ∃ F', GS CW W3.heap.size p F' (lS (j + 1) (refV j) gG) w' ∧ Kept w w') := one_at hh.out.1 hh.out.2.1 HB.out (runs_ch hj1 (by omega) x) (by simp) _
      refine H8.out.mono ?_
      rintro e w8 ⟨rfl, F8, g8, k8⟩
      have G8 : Hid (GS CW W3.heap.size p F8 (lS (j + 1) (refV j) gG) w8 ∧ Kept w w8) := ⟨g8, k8⟩
      clear H8 g8 k8
      go_wp2_with fail
      go_roundg (N - (j + 1))
      case rel => exact ⟨j + 1, F8, refV j, some j, rfl, rfl, by omega, by omega, rfl, G8.out.1, G8.out.2, Kd.ref j (by omega), .inr rfl⟩
      case measure => omega
    · obtain rfl : j = N := by omega
      clear G7
      cases keep
      · have G9 : Hid (GS CW W3.heap.size p F (lS j x (kG false j)) wr ∧ Kept w wr) := ⟨hh.out.1, hh.out.2.1⟩
        go_wp2_with fail
        refine (lea_reach false G9.out.1 hN1 hN2 hh.out.2.2.1 hh.out.2.2.2).mono ?_
        rintro e wa ⟨y1, d1, rfl, ka⟩
        have Ga : Hid (GS CW W3.heap.size p _ (lS j x (kG false j)) wa ∧ Kept w wa) := ⟨G9.out.1.kept ka, G9.out.2.trans ka⟩
        clear G9 hh ka
        go_wp2_with fail
        have Hb : Hid (Calls Tryz.prog 9 #[.pointer (some ⟨p, 0, none⟩), .slice (some ⟨wa.heap.size, 0, none⟩) 1 1] (wa.alloc (.cells ([oLeave].flatMap OP.cs).toArray 38)) fun e w' => e = .returned (.tuple #[.agg #[.bool zerV.r, .complex .f64 zerV.x zerV.y], .int .i64 0]) ∧ ∃ F', GS CW W3.heap.size p F' ⟨chO j, none, kG false j⟩ w' ∧ Kept w w') := one_at Ga.out.1 Ga.out.2 HB.out (runs_leave j x _) (by simp) _
        refine Hb.out.mono ?_
        rintro e wb ⟨rfl, Fb, gb, kb⟩
        have Gb : Hid (GS CW W3.heap.size p Fb ⟨chO j, none, kG false j⟩ wb ∧ Kept w wb) := ⟨gb, kb⟩
        clear Hb Ga gb kb
        go_wp2_with fail
        generalize hWc : wb.alloc _ = Wc
        have zc : Wc.heap.size = wb.heap.size + 1 := by rw [← hWc]; simp
        have Gc : Hid (GS CW W3.heap.size p Fb ⟨chO j, none, kG false j⟩ Wc ∧ Kept w Wc) := by
          have k : Kept wb Wc := by rw [← hWc]; exact (Kept.refl _).alloc _ _
          exact ⟨Gb.out.1.kept k, Gb.out.2.trans k⟩
        clear hWc Gb
        rw [← zc]
        clear zc
        have Hd : Hid (Calls Tryz.prog 9 #[.pointer (some ⟨p, 0, none⟩), .slice (some ⟨Wc.heap.size, 0, none⟩) 1 1] (Wc.alloc (.cells ([oClear 0].flatMap OP.cs).toArray 38)) fun e w' => e = .returned (.tuple #[.agg #[.bool false, .complex .f64 0 0], .int .i64 8]) ∧ Kept (Wc.alloc (.cells ([oClear 0].flatMap OP.cs).toArray 38)) w') := one_gone (Gc.out.1.kept ((Kept.refl _).alloc _ _)) rfl (oClear 0) (Ol.new Wc [oClear 0] _ (by simp))
        refine Hd.out.mono ?_
        rintro e wd ⟨rfl, kd⟩
        have Gd : Hid (GS CW W3.heap.size p Fb ⟨chO j, none, kG false j⟩ wd ∧ Kept w wd) := ⟨(Gc.out.1.kept ((Kept.refl _).alloc _ _)).kept kd, (Gc.out.2.alloc _ _).trans kd⟩
        clear Hd Gc kd
        go_wp2_with fail
        generalize hWe : wd.alloc _ = We
        have Ge : Hid (GS CW W3.heap.size p Fb ⟨chO j, none, kG false j⟩ We ∧ Kept w We) := by
          have k : Kept wd We := by rw [← hWe]; exact (Kept.refl _).alloc _ _
          exact ⟨Gd.out.1.kept k, Gd.out.2.trans k⟩
        clear hWe Gd
        refine (left_reach false Ge.out.1 hN1 hN2).mono ?_
        rintro e wf ⟨y2, d2, rfl, kf⟩
        have Gf : Hid (GS CW W3.heap.size p Fb ⟨chO j, none, kG false j⟩ wf ∧ Kept w wf) := ⟨Ge.out.1.kept kf, Ge.out.2.trans kf⟩
        clear Ge kf
        go_wp2_with fail
        refine (locals_none Gf.out.1 rfl).mono ?_
        rintro e wg ⟨rfl, eg⟩
        rw [eg]
        clear eg wg
        go_wp2_with fail
        have HJ : Hid (Calls Tryz.prog 8 #[.pointer (some ⟨p, 0, none⟩), .int .i64 0] wf fun e w' => e = .returned (.bool true) ∧ ∃ F', GS CW W3.heap.size p F' ⟨chO j, some (List.replicate 4 zerV), kG false j⟩ w' ∧ Grow Fb F' wf w') := gs_join Gf.out.1 CW.ok rfl (n := 4) rfl (.inr rfl)
        refine HJ.out.mono ?_
        rintro e wg ⟨rfl, Fg, gg, rg⟩
        have Gg : Hid (GS CW W3.heap.size p Fg ⟨chO j, some (List.replicate 4 zerV), kG false j⟩ wg ∧ Kept w wg) := ⟨gg, Gf.out.1.apart rg Gf.out.2 HB.out⟩
        clear HJ Gf gg rg
        go_wp2_with fail
        have HLo : Hid (Calls Tryz.prog 15 #[.pointer (some ⟨p, 0, none⟩), .int .i64 0] wg fun e w' => ∃ y d, e = .returned (.slice y 4 d) ∧ Rdv w' y (List.replicate 4 zerV) ∧ Kept wg w') := locals_some Gg.out.1 (vs := List.replicate 4 zerV) rfl (by decide) (by decide)
        refine HLo.out.mono ?_
        rintro e wh ⟨y3, d3, rfl, rh, kh⟩
        obtain ⟨gl, ey3, hgl, hcl⟩ := rh (by decide)
        subst ey3
        have Gh : Hid (GS CW W3.heap.size p Fg ⟨chO j, some (List.replicate 4 zerV), kG false j⟩ wh ∧ Kept w wh ∧ ∀ k, k < 4 → wh.cell? ⟨gl, k * 2, none⟩ = some (.bool false) ∧ wh.cell? ⟨gl, k * 2 + 1, none⟩ = some (.complex .f64 0 0)) := ⟨Gg.out.1.kept kh, Gg.out.2.trans kh, fun k hk => by
          have := hcl k (by simpa using hk)
          rw [List.getElem_replicate] at this
          exact this⟩
        clear HLo Gg kh rh hgl hcl
        go_wp2_with fail
        go_loopg [16] 4 (fun m i wr => ∃ k : Nat, i = .int .i64 (k : Int) ∧ k ≤ 4 ∧ m = 4 - k ∧ Hid (GS CW W3.heap.size p Fg ⟨chO j, some (List.replicate 4 zerV), kG false j⟩ wr ∧ Kept w wr ∧ ∀ k, k < 4 → wr.cell? ⟨gl, k * 2, none⟩ = some (.bool false) ∧ wr.cell? ⟨gl, k * 2 + 1, none⟩ = some (.complex .f64 0 0)))
        case atStart => exact ⟨0, rfl, Nat.zero_le _, rfl, Gh.out⟩
        case round =>
          obtain ⟨k, rfl, hk2, rfl, hq⟩ := hrel
          by_cases hlt2 : k < 4
          · have c0 := (hq.out.2.2 k hlt2).1
            have c1 := (hq.out.2.2 k hlt2).2
            have HWx : Hid (∀ W, Calls Tryz.prog 13 #[.complex .f64 0 0, .complex .f64 0 0] W fun e w' => e = .returned (.bool true) ∧ w' = W) := fun W => word_is _ _ _ _ true nn_zero nn_zero nn_zero nn_zero (decide_eq_true ⟨rfl, rfl⟩) W
            go_wp2_with fail
            refine (HWx.out _).mono ?_
            rintro e wm ⟨rfl, em⟩
            rw [em]
            clear em wm HWx
            go_wp2_with fail
            go_roundg (4 - (k + 1))
            case rel => exact ⟨k + 1, rfl, by omega, rfl, hq.out⟩
            case measure => omega
          · obtain rfl : k = 4 := by omega
            go_wp2_with fail
            refine (first_any (HV.out.keep hq.out.2.1)).mono ?_
            rintro e wi ⟨rfl, ki⟩
            have Gi : Hid (GS CW W3.heap.size p Fg ⟨chO j, some (List.replicate 4 zerV), kG false j⟩ wi ∧ Kept w wi) := ⟨hq.out.1.kept ki, hq.out.2.1.trans ki⟩
            clear hq ki Gh
            go_wp2_with fail
            have HGl : Hid (Calls Tryz.prog 16 #[.pointer (some ⟨p, 0, none⟩)] wi fun e w' => ∃ y d, e = .returned (.slice y 2 d) ∧ Kept wi w') := by
              have := globals_any Gi.out.1 (by rw [kG_len]; decide) (by rw [kG_len]; decide)
              rw [kG_len] at this
              exact this
            refine HGl.out.mono ?_
            rintro e wj ⟨y4, d4, rfl, kj⟩
            have Kj : Hid (Kept w wj) := Gi.out.2.trans kj
            clear HGl Gi kj
            go_wp2_with fail
            go_ret
            exact ⟨rfl, Kj.out⟩
      · go_wp2_with fail
        have H9 : Hid (Calls Tryz.prog 9 #[.pointer (some ⟨p, 0, none⟩), .slice (some ⟨wr.heap.size, 0, none⟩) 1 1] (wr.alloc (.cells ([oSet 1 0].flatMap OP.cs).toArray 38)) fun e w' => e = .returned (.tuple #[.agg #[.bool zerV.r, .complex .f64 zerV.x zerV.y], .int .i64 0]) ∧ ∃ F', GS CW W3.heap.size p F' (lS j x (kG true j)) w' ∧ Kept w w') := one_at hh.out.1 hh.out.2.1 HB.out (runs_keep j x) (by simp) _
        refine H9.out.mono ?_
        rintro e w9 ⟨rfl, F9, g9, k9⟩
        have G9 : Hid (GS CW W3.heap.size p F9 (lS j x (kG true j)) w9 ∧ Kept w w9) := ⟨g9, k9⟩
        clear H9 g9 k9
        go_wp2_with fail
        refine (lea_reach true G9.out.1 hN1 hN2 hh.out.2.2.1 hh.out.2.2.2).mono ?_
        rintro e wa ⟨y1, d1, rfl, ka⟩
        have Ga : Hid (GS CW W3.heap.size p _ (lS j x (kG true j)) wa ∧ Kept w wa) := ⟨G9.out.1.kept ka, G9.out.2.trans ka⟩
        clear G9 hh ka
        go_wp2_with fail
        have Hb : Hid (Calls Tryz.prog 9 #[.pointer (some ⟨p, 0, none⟩), .slice (some ⟨wa.heap.size, 0, none⟩) 1 1] (wa.alloc (.cells ([oLeave].flatMap OP.cs).toArray 38)) fun e w' => e = .returned (.tuple #[.agg #[.bool zerV.r, .complex .f64 zerV.x zerV.y], .int .i64 0]) ∧ ∃ F', GS CW W3.heap.size p F' ⟨chO j, none, kG true j⟩ w' ∧ Kept w w') := one_at Ga.out.1 Ga.out.2 HB.out (runs_leave j x _) (by simp) _
        refine Hb.out.mono ?_
        rintro e wb ⟨rfl, Fb, gb, kb⟩
        have Gb : Hid (GS CW W3.heap.size p Fb ⟨chO j, none, kG true j⟩ wb ∧ Kept w wb) := ⟨gb, kb⟩
        clear Hb Ga gb kb
        go_wp2_with fail
        generalize hWc : wb.alloc _ = Wc
        have zc : Wc.heap.size = wb.heap.size + 1 := by rw [← hWc]; simp
        have Gc : Hid (GS CW W3.heap.size p Fb ⟨chO j, none, kG true j⟩ Wc ∧ Kept w Wc) := by
          have k : Kept wb Wc := by rw [← hWc]; exact (Kept.refl _).alloc _ _
          exact ⟨Gb.out.1.kept k, Gb.out.2.trans k⟩
        clear hWc Gb
        rw [← zc]
        clear zc
        have Hd : Hid (Calls Tryz.prog 9 #[.pointer (some ⟨p, 0, none⟩), .slice (some ⟨Wc.heap.size, 0, none⟩) 1 1] (Wc.alloc (.cells ([oClear 0].flatMap OP.cs).toArray 38)) fun e w' => e = .returned (.tuple #[.agg #[.bool false, .complex .f64 0 0], .int .i64 8]) ∧ Kept (Wc.alloc (.cells ([oClear 0].flatMap OP.cs).toArray 38)) w') := one_gone (Gc.out.1.kept ((Kept.refl _).alloc _ _)) rfl (oClear 0) (Ol.new Wc [oClear 0] _ (by simp))
        refine Hd.out.mono ?_
        rintro e wd ⟨rfl, kd⟩
        have Gd : Hid (GS CW W3.heap.size p Fb ⟨chO j, none, kG true j⟩ wd ∧ Kept w wd) := ⟨(Gc.out.1.kept ((Kept.refl _).alloc _ _)).kept kd, (Gc.out.2.alloc _ _).trans kd⟩
        clear Hd Gc kd
        go_wp2_with fail
        generalize hWe : wd.alloc _ = We
        have Ge : Hid (GS CW W3.heap.size p Fb ⟨chO j, none, kG true j⟩ We ∧ Kept w We) := by
          have k : Kept wd We := by rw [← hWe]; exact (Kept.refl _).alloc _ _
          exact ⟨Gd.out.1.kept k, Gd.out.2.trans k⟩
        clear hWe Gd
        refine (left_reach true Ge.out.1 hN1 hN2).mono ?_
        rintro e wf ⟨y2, d2, rfl, kf⟩
        have Gf : Hid (GS CW W3.heap.size p Fb ⟨chO j, none, kG true j⟩ wf ∧ Kept w wf) := ⟨Ge.out.1.kept kf, Ge.out.2.trans kf⟩
        clear Ge kf
        go_wp2_with fail
        refine (locals_none Gf.out.1 rfl).mono ?_
        rintro e wg ⟨rfl, eg⟩
        rw [eg]
        clear eg wg
        go_wp2_with fail
        have HJ : Hid (Calls Tryz.prog 8 #[.pointer (some ⟨p, 0, none⟩), .int .i64 0] wf fun e w' => e = .returned (.bool true) ∧ ∃ F', GS CW W3.heap.size p F' ⟨chO j, some (List.replicate 4 zerV), kG true j⟩ w' ∧ Grow Fb F' wf w') := gs_join Gf.out.1 CW.ok rfl (n := 4) rfl (.inr rfl)
        refine HJ.out.mono ?_
        rintro e wg ⟨rfl, Fg, gg, rg⟩
        have Gg : Hid (GS CW W3.heap.size p Fg ⟨chO j, some (List.replicate 4 zerV), kG true j⟩ wg ∧ Kept w wg) := ⟨gg, Gf.out.1.apart rg Gf.out.2 HB.out⟩
        clear HJ Gf gg rg
        go_wp2_with fail
        have HLo : Hid (Calls Tryz.prog 15 #[.pointer (some ⟨p, 0, none⟩), .int .i64 0] wg fun e w' => ∃ y d, e = .returned (.slice y 4 d) ∧ Rdv w' y (List.replicate 4 zerV) ∧ Kept wg w') := locals_some Gg.out.1 (vs := List.replicate 4 zerV) rfl (by decide) (by decide)
        refine HLo.out.mono ?_
        rintro e wh ⟨y3, d3, rfl, rh, kh⟩
        obtain ⟨gl, ey3, hgl, hcl⟩ := rh (by decide)
        subst ey3
        have Gh : Hid (GS CW W3.heap.size p Fg ⟨chO j, some (List.replicate 4 zerV), kG true j⟩ wh ∧ Kept w wh ∧ ∀ k, k < 4 → wh.cell? ⟨gl, k * 2, none⟩ = some (.bool false) ∧ wh.cell? ⟨gl, k * 2 + 1, none⟩ = some (.complex .f64 0 0)) := ⟨Gg.out.1.kept kh, Gg.out.2.trans kh, fun k hk => by
          have := hcl k (by simpa using hk)
          rw [List.getElem_replicate] at this
          exact this⟩
        clear HLo Gg kh rh hgl hcl
        go_wp2_with fail
        go_loopg [16] 4 (fun m i wr => ∃ k : Nat, i = .int .i64 (k : Int) ∧ k ≤ 4 ∧ m = 4 - k ∧ Hid (GS CW W3.heap.size p Fg ⟨chO j, some (List.replicate 4 zerV), kG true j⟩ wr ∧ Kept w wr ∧ ∀ k, k < 4 → wr.cell? ⟨gl, k * 2, none⟩ = some (.bool false) ∧ wr.cell? ⟨gl, k * 2 + 1, none⟩ = some (.complex .f64 0 0)))
        case atStart => exact ⟨0, rfl, Nat.zero_le _, rfl, Gh.out⟩
        case round =>
          obtain ⟨k, rfl, hk2, rfl, hq⟩ := hrel
          by_cases hlt2 : k < 4
          · have c0 := (hq.out.2.2 k hlt2).1
            have c1 := (hq.out.2.2 k hlt2).2
            have HWx : Hid (∀ W, Calls Tryz.prog 13 #[.complex .f64 0 0, .complex .f64 0 0] W fun e w' => e = .returned (.bool true) ∧ w' = W) := fun W => word_is _ _ _ _ true nn_zero nn_zero nn_zero nn_zero (decide_eq_true ⟨rfl, rfl⟩) W
            go_wp2_with fail
            refine (HWx.out _).mono ?_
            rintro e wm ⟨rfl, em⟩
            rw [em]
            clear em wm HWx
            go_wp2_with fail
            go_roundg (4 - (k + 1))
            case rel => exact ⟨k + 1, rfl, by omega, rfl, hq.out⟩
            case measure => omega
          · obtain rfl : k = 4 := by omega
            go_wp2_with fail
            refine (first_any (HV.out.keep hq.out.2.1)).mono ?_
            rintro e wi ⟨rfl, ki⟩
            have Gi : Hid (GS CW W3.heap.size p Fg ⟨chO j, some (List.replicate 4 zerV), kG true j⟩ wi ∧ Kept w wi) := ⟨hq.out.1.kept ki, hq.out.2.1.trans ki⟩
            clear hq ki Gh
            go_wp2_with fail
            have HGl : Hid (Calls Tryz.prog 16 #[.pointer (some ⟨p, 0, none⟩)] wi fun e w' => ∃ y d, e = .returned (.slice y 2 d) ∧ Kept wi w') := by
              have := globals_any Gi.out.1 (by rw [kG_len]; decide) (by rw [kG_len]; decide)
              rw [kG_len] at this
              exact this
            refine HGl.out.mono ?_
            rintro e wj ⟨y4, d4, rfl, kj⟩
            have Kj : Hid (Kept w wj) := Gi.out.2.trans kj
            clear HGl Gi kj
            go_wp2_with fail
            go_ret
            exact ⟨rfl, Kj.out⟩
end Go.Proofs.YtbmcbkebcchjmaaGreatDoor
