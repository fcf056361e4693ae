/-
  Contracts of package plan: the words, what is asked for.
-/
import Derived.Test.YtpdclckgnajcdaaGreatRws
import Derived.Test.YtpdclckgnajcdaaGreatCopy12
import Derived.Test.YtpdclckgnajcdaaGreatArea12
import Derived.Test.YtpdclckgnajcdaaGreatShape12
import Derived.Test.YtpdclckgnajcdaaGreatSide12
import Derived.Test.YtpdclckgnajcdaaGreatWord12
namespace Go.Proofs.YtpdclckgnajcdaaGreat
open Go.RowKit

/-- A word, by the bits of its parts. -/
structure Cx where
  re : Nat
  im : Nat
def cz : Cx := ⟨0, 0⟩
def cn : Cx := ⟨0, 4607182418800017408⟩
def cr (i : Int) : Cx := ⟨floatOfInt .f64 (i + 1), 4607182418800017408⟩
def cw (n : Int) : Cx := ⟨floatOfInt .f64 n, 0⟩
def ch (k m : Int) : Cx := ⟨floatOfInt .f64 k, floatOfInt .f64 m⟩
def un (b : Bool) : Cx := if b then cn else cz
def refAt (L : Nat → Int) (l i : Nat) : Cx := if i < l then cr (L i) else cn
def Twice (L : Nat → Int) (l : Nat) : Prop := ∃ i j, i < j ∧ j < l ∧ L i = L j
def Frs (L : Nat → Int) (l : Nat) (n0 : Int) : Prop := ∀ j, j < l → 0 ≤ L j ∧ L j < n0
def modeO (L : Nat → Int) (l : Nat) : Int := if sideU L l then 1 else 0

set_option maxHeartbeats 400000 in
theorem unset_any (b : Bool) (w : World) : Calls Tryz.prog 61 #[.bool b] w fun e w' => e = .returned (.complex .f64 (un b).re (un b).im) ∧ w' = w := by
  cases b
  · go_enter Tryz.func61, Tryz.ntmps61
    go_wp2
    go_ret
    exact ⟨rfl, rfl⟩
  · go_enter Tryz.func61, Tryz.ntmps61
    go_wp2_with fail
    refine (none_any _).mono ?_
    rintro e w' ⟨rfl, rfl⟩
    go_wp2
    go_ret
    exact ⟨rfl, rfl⟩

set_option maxHeartbeats 400000 in
theorem reference_any {x : Option Addr} {l c : Nat} {L : Nat → Int} (i : Nat) (w : World) (hx : Rdf w x l L) (h : ∀ j, j < l → 0 ≤ L j ∧ L j ≤ 1024) :
    Calls Tryz.prog 57 #[.slice x l c, .int .i64 i] w fun e w' => e = .returned (.complex .f64 (refAt L l i).re (refAt L l i).im) ∧ w' = w := by
  by_cases hi : i < l
  · obtain ⟨g, o, rfl, hg, cc⟩ := hx (by omega)
    have c1 := cc i hi
    have b1 := h i hi
    have hr : Hid (refAt L l i = cr (L i)) := if_pos hi
    clear cc hx h
    generalize L i = q at *
    have C0 : Hid (∀ w, _) := fun w => ref_in q w b1.1 (by omega)
    go_enter Tryz.func57, Tryz.ntmps57
    go_wp2_with fail
    refine (C0.out _).mono ?_
    rintro e w' ⟨rfl, rfl⟩
    go_wp2
    go_ret
    exact ⟨by rw [hr.out]; rfl, rfl⟩
  · have hr : Hid (refAt L l i = cn) := if_neg hi
    go_enter Tryz.func57, Tryz.ntmps57
    go_wp2_with fail
    refine (none_any _).mono ?_
    rintro e w' ⟨rfl, rfl⟩
    go_wp2
    go_ret
    exact ⟨by rw [hr.out]; rfl, rfl⟩

set_option maxHeartbeats 400000 in
theorem objectMode_any {x : Option Addr} {l c : Nat} {L : Nat → Int} (w : World) (hl : (l : Int) ≤ 1000000) (hx : Rdf w x l L) (hB : ∀ j, j < l → IntKind.min .i64 ≤ L j ∧ L j ≤ IntKind.max .i64) :
    Calls Tryz.prog 59 #[.slice x l c] w fun e w' => e = .returned (.int .i64 (modeO L l)) ∧ Kept w w' := by
  have C0 : Hid (Calls Tryz.prog 63 #[.slice x l c] w _) := side_any w hl hx hB
  unfold modeO
  clear hx hB hl
  generalize sideU L l = p at *
  go_enter Tryz.func59, Tryz.ntmps59
  go_wp2_with fail
  refine C0.out.mono ?_
  rintro e w' ⟨rfl, K⟩
  cases p
  · go_wp2
    go_ret
    exact ⟨rfl, K⟩
  · go_wp2
    go_ret
    exact ⟨rfl, K⟩

set_option maxHeartbeats 1000000 in
theorem index_any {x : Option Addr} {l c : Nat} {L : Nat → Int} (q : Int) (w : World) (hl : (l : Int) ≤ 1000000) (hx : Rdf w x l L) :
    Calls Tryz.prog 102 #[.slice x l c, .int .i64 q] w fun e w' => ∃ r, e = .returned (.int .i64 r) ∧ (0 ≤ r ↔ ∃ j, j < l ∧ L j = q) ∧ w' = w := by
  have HX : Hid (Rdf w x l L) := hx
  clear hx
  go_enter Tryz.func102, Tryz.ntmps102
  go_wp2
  go_loopg [8] l (fun m i wr => ∃ k : Nat, i = .int .i64 k ∧ k ≤ l ∧ m = l - k ∧ Hid (wr = w ∧ ∀ j, j < k → L j ≠ q))
  case atStart => exact ⟨0, rfl, by omega, by omega, rfl, fun _ h => absurd h (Nat.not_lt_zero _)⟩
  case round =>
    obtain ⟨k, rfl, hk, hm, hw⟩ := hrel
    obtain rfl := hw.out.1
    have HM : Hid _ := hm
    clear hm
    by_cases hlt : k < l
    · obtain ⟨g, o, rfl, hg, cc⟩ := HX.out (by omega)
      have c1 := cc k hlt
      have HY : Hid (L k = q → ∃ j, j < l ∧ L j = q) := fun e => ⟨k, hlt, e⟩
      have HZ : Hid (L k ≠ q → ∀ j, j < k + 1 → L j ≠ q) := fun e j hj => by
        rcases Nat.lt_succ_iff_lt_or_eq.1 hj with h | rfl
        · exact hw.out.2 j h
        · exact e
      clear cc
      generalize L k = p at *
      by_cases he : q = p
      · have e1 : (q == p) = true := by simpa using he
        have HE : Hid _ := HY.out he.symm
        clear he
        go_wp2
        go_ret
        exact ⟨k, rfl, ⟨fun _ => HE.out, fun _ => by omega⟩, rfl⟩
      · have e1 : (q == p) = false := by simpa using he
        have HE : Hid _ := HZ.out (fun e => he e.symm)
        clear he
        go_wp2
        go_roundg (gk - 1)
        all_goals (have := HM.out; try omega)
        exact ⟨k + 1, by go_num, by omega, by omega, rfl, HE.out⟩
    · obtain rfl : k = l := by omega
      go_wp2
      go_ret
      exact ⟨-1, rfl, ⟨fun h => absurd h (by omega), fun ⟨j, hj, e⟩ => absurd e (hw.out.2 j hj)⟩, rfl⟩

set_option maxHeartbeats 400000 in
theorem contains_any {x : Option Addr} {l c : Nat} {L : Nat → Int} (q : Int) (p : Bool) (w : World) (hl : (l : Int) ≤ 1000000) (hx : Rdf w x l L) (hp : p = true ↔ ∃ j, j < l ∧ L j = q) :
    Calls Tryz.prog 84 #[.slice x l c, .int .i64 q] w fun e w' => e = .returned (.bool p) ∧ w' = w := by
  have C0 : Hid (Calls Tryz.prog 102 #[.slice x l c, .int .i64 q] w _) := index_any q w hl hx
  have HP : Hid _ := hp
  clear hp hx hl
  go_enter Tryz.func84, Tryz.ntmps84
  go_wp2_with fail
  refine C0.out.mono ?_
  rintro e w' ⟨r, rfl, hr, rfl⟩
  have hq : decide (r ≥ 0) = p := by
    rw [Bool.eq_iff_iff, HP.out, ← hr]
    simp
  clear hr
  go_wp2
  go_ret
  exact ⟨by simp [← hq], rfl⟩

set_option maxHeartbeats 1000000 in
theorem twice_any {x : Option Addr} {l c : Nat} {L : Nat → Int} (p : Bool) (w : World) (hl : (l : Int) ≤ 1000000) (hc : l ≤ c) (hx : Rdf w x l L) (hp : p = true ↔ Twice L l) :
    Calls Tryz.prog 56 #[.slice x l c] w fun e w' => e = .returned (.bool p) ∧ w' = w := by
  have HX : Hid (Rdf w x l L) := hx
  have HP : Hid (p = true ↔ Twice L l) := hp
  clear hx hp
  go_enter Tryz.func56, Tryz.ntmps56
  go_wp2
  go_loopg [7] l (fun m i wr => ∃ k : Nat, i = .int .i64 k ∧ k ≤ l ∧ m = l - k ∧ Hid (wr = w ∧ ¬ Twice L k))
  case atStart => exact ⟨0, rfl, by omega, by omega, rfl, fun ⟨i, j, _, h, _⟩ => absurd h (Nat.not_lt_zero _)⟩
  case round =>
    obtain ⟨k, rfl, hk, hm, hw⟩ := hrel
    obtain rfl := hw.out.1
    have HM : Hid _ := hm
    clear hm
    by_cases hlt : k < l
    · obtain ⟨g, o, rfl, hg, cc⟩ := HX.out (by omega)
      have c1 := cc k hlt
      obtain ⟨b, hb⟩ := bool_iff (∃ j, j < k ∧ L j = L k)
      have C0 : Hid (Calls Tryz.prog 84 #[.slice (some ⟨g, o, none⟩) k c, .int .i64 (L k)] wr _) := contains_any (L k) b wr (by omega) (fun _ => ⟨g, o, rfl, hg, fun j hj => cc j (by omega)⟩) hb
      have HY : Hid (b = true → p = true) := fun e => by
        obtain ⟨j, hj, e⟩ := hb.1 e
        exact HP.out.2 ⟨j, k, hj, hlt, e⟩
      have HZ : Hid (b = false → ¬ Twice L (k + 1)) := fun e ⟨i, j, h1, h2, h3⟩ => by
        rcases Nat.lt_succ_iff_lt_or_eq.1 h2 with h | rfl
        · exact hw.out.2 ⟨i, j, h1, h, h3⟩
        · exact absurd (hb.2 ⟨i, h1, h3⟩) (by simp [e])
      clear cc hb
      generalize L k = q at *
      go_wp2_with fail
      refine C0.out.mono ?_
      rintro e w' ⟨rfl, rfl⟩
      cases b
      · have HE : Hid _ := HZ.out rfl
        go_wp2
        go_roundg (gk - 1)
        all_goals (have := HM.out; try omega)
        exact ⟨k + 1, by go_num, by omega, by omega, rfl, HE.out⟩
      · obtain rfl := HY.out rfl
        go_wp2
        go_ret
        exact ⟨rfl, rfl⟩
    · obtain rfl : k = l := by omega
      obtain rfl : p = false := by
        cases p
        · rfl
        · exact absurd (HP.out.1 rfl) hw.out.2
      go_wp2
      go_ret
      exact ⟨rfl, rfl⟩

set_option maxHeartbeats 1000000 in
theorem fragments_any (n0 n1 n2 n3 n4 n5 n6 n7 : Int) (sx : Option Addr) (sl sc : Nat) {x : Option Addr} {l c : Nat} {L : Nat → Int} (p : Bool) (w : World) (hl : (l : Int) ≤ 1000000) (hx : Rdf w x l L) (hp : p = true ↔ Frs L l n0) :
    Calls Tryz.prog 54 #[.agg #[.int .i64 n0, .int .i64 n1, .int .i64 n2, .int .i64 n3, .int .i64 n4, .int .i64 n5, .int .i64 n6, .int .i64 n7, .slice sx sl sc], .slice x l c] w fun e w' => e = .returned (.bool p) ∧ Kept w w' := by
  have HX : Hid (Rdf w x l L) := hx
  have HP : Hid (p = true ↔ Frs L l n0) := hp
  clear hx hp
  go_enter Tryz.func54, Tryz.ntmps54
  go_wp2_with fail
  generalize hW1 : w.alloc _ = W1
  have B1 : Hid (Blk W1 w.heap.size (cl n0 n1 n2 n3 n4 n5 n6 n7 (.slice sx sl sc))) := by rw [← hW1]; exact Blk.new w _ _
  have K1 : Hid (Kept w W1) := by rw [← hW1]; exact (Kept.refl w).alloc _ _
  clear hW1
  have c0 := B1.out.at 0 rfl
  go_loopg [9] l (fun m i wr => ∃ k : Nat, i = .int .i64 k ∧ k ≤ l ∧ m = l - k ∧ Hid (wr = W1 ∧ Frs L k n0))
  case atStart => exact ⟨0, rfl, by omega, by omega, rfl, fun _ h => absurd h (Nat.not_lt_zero _)⟩
  case round =>
    obtain ⟨k, rfl, hk, hm, hw⟩ := hrel
    obtain rfl := hw.out.1
    have HM : Hid _ := hm
    clear hm
    by_cases hlt : k < l
    · obtain ⟨g, o, rfl, hg, cc⟩ := HX.out.kept K1.out (by omega)
      have c1 := cc k hlt
      have HY : Hid (p = true → 0 ≤ L k ∧ L k < n0) := fun e => HP.out.1 e k hlt
      have HZ : Hid (0 ≤ L k ∧ L k < n0 → Frs L (k + 1) n0) := fun e j hj => by
        rcases Nat.lt_succ_iff_lt_or_eq.1 hj with h | rfl
        · exact hw.out.2 j h
        · exact e
      clear cc
      generalize L k = q at *
      by_cases h1 : q < 0
      · obtain rfl : p = false := by
          cases p
          · rfl
          · have := HY.out rfl; omega
        go_wp2
        go_ret
        exact ⟨rfl, K1.out⟩
      · by_cases h2 : q ≥ n0
        · obtain rfl : p = false := by
            cases p
            · rfl
            · have := HY.out rfl; omega
          go_wp2
          go_ret
          exact ⟨rfl, K1.out⟩
        · have HE : Hid _ := HZ.out ⟨by omega, by omega⟩
          go_wp2
          go_roundg (gk - 1)
          all_goals (have := HM.out; try omega)
          exact ⟨k + 1, by go_num, by omega, by omega, rfl, HE.out⟩
    · obtain rfl : k = l := by omega
      obtain rfl : p = true := HP.out.2 hw.out.2
      go_wp2
      go_ret
      exact ⟨rfl, K1.out⟩
end Go.Proofs.YtpdclckgnajcdaaGreat
