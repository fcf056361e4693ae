/-
  Contracts of the laws' own package sporef1: Ref, Place.
-/
import Derived.Test.YtpdclckgnajcdaaGreatRefCheck12
import Derived.Test.YtpdclckgnajcdaaGreatPlan1
namespace Go.Proofs.YtpdclckgnajcdaaGreat
open Go.RowKit

theorem rref_in (i : Int) (w : World) (h1 : 0 ≤ i) (h2 : i ≤ 1024) : Calls Tryz.prog 18 #[.int .i64 i] w fun e w' => e = .returned (.complex .f64 (floatOfInt .f64 (i + 1)) 4607182418800017408) ∧ w' = w := by
  go_enter Tryz.func18, Tryz.ntmps18
  go_wp2
  go_ret
  exact ⟨rfl, rfl⟩
set_option maxHeartbeats 1000000 in
theorem rplace_in (x : Option Addr) (l c : Nat) (k a b : Nat) (w : World) (h : l ≤ 40) (hk : k < l) (ha : (k + 1) / 7 = a) (hb : 1 + (k + 1) % 7 = b) :
    Calls Tryz.prog 17 #[.agg #[.bool false, .slice x l c], .int .i64 k] w fun e w' => e = .returned (.tuple #[.int .i64 a, .int .i64 b, .bool true]) ∧ Kept w w' := by
  have M : Hid (∀ w, Calls Tryz.prog 29 #[.agg #[.bool false, .slice x l c]] w fun e w' => e = .returned (.bool true) ∧ Kept w w') := fun w => by
    have := ref_may ⟨false, x, l, c⟩ w
    have e : (Sh.may ⟨false, x, l, c⟩) = true := by simp [Sh.may]; omega
    rwa [e] at this
  have HA : Hid ((k + 1) / 7 = a ∧ 1 + (k + 1) % 7 = b) := ⟨ha, hb⟩
  clear ha hb
  go_enter Tryz.func17, Tryz.ntmps17
  go_wp2_with fail
  refine (M.out _).mono ?_
  rintro e w1 ⟨rfl, K1⟩
  have c0 := K1.own 0
  have c1 := K1.own 1
  simp only [List.getElem?_toArray, List.getElem?_cons_zero, List.getElem?_cons_succ] at c0 c1
  have KK : Hid (Kept w w1) := K1.ofAlloc
  clear K1
  have hk0 : ¬ (k : Int) < 0 := by omega
  have hk1 : ¬ (k : Int) ≥ (l : Int) := by omega
  by_cases h6 : (k : Int) < 6
  · have e1 : a = 0 := by have := HA.out; omega
    have e2 : (b : Int) = 2 + k := by have := HA.out; omega
    have HE : Hid (a = 0 ∧ (b : Int) = 2 + k) := ⟨e1, e2⟩
    clear e1 e2
    go_wp2
    go_ret3
    exact ⟨by rw [HE.out.1, HE.out.2]; rfl, KK.out⟩
  · have h1 : ((k : Int) - 6).tdiv 7 = (a : Int) - 1 := by rw [Int.tdiv_eq_ediv_of_nonneg (by omega)]; have := HA.out; omega
    have h2 : ((k : Int) - 6).tmod 7 = (b : Int) - 1 := by rw [Int.tmod_eq_emod_of_nonneg (by omega)]; have := HA.out; omega
    have ha1 : a ≤ 10 := by have := HA.out; omega
    have hb1 : b ≤ 10 := by have := HA.out; omega
    have e1 : 1 + ((a : Int) - 1) = a := by omega
    have e2 : 1 + ((b : Int) - 1) = b := by omega
    clear HA
    go_wp2
    go_ret3
    exact ⟨rfl, KK.out⟩
end Go.Proofs.YtpdclckgnajcdaaGreat
