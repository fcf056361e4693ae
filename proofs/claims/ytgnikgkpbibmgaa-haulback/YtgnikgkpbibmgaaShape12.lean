/-
  Contracts of package shape's functions (May, Data, Size, Spine, Place and what they call): each answers as a plain function of the shape's kind, the number of its fields and the number asked for; what was there is kept.
-/
import Derived.Test.YtgnikgkpbibmgaaKept
namespace Go.Proofs.Ytgnikgkpbibmgaa
open Go.RowKit

set_option maxHeartbeats 400000 in
theorem may_obj (x : Option Addr) (l c : Nat) (w : World) :
    Calls Try.prog 58 #[.agg #[.bool false, .slice x l c]] w fun e w' => e = .returned (.bool (decide ((l : Int) ≤ 40))) ∧ Kept w w' := by
  go_enter Try.func58, Try.ntmps58
  go_wp2
  go_ret
  exact ⟨rfl, (Kept.refl _).alloc _ _⟩

set_option maxHeartbeats 400000 in
theorem may_arr (x : Option Addr) (l c : Nat) (w : World) :
    Calls Try.prog 58 #[.agg #[.bool true, .slice x l c]] w fun e w' => e = .returned (.bool ((l : Int) == 1)) ∧ Kept w w' := by
  go_enter Try.func58, Try.ntmps58
  go_wp2
  go_ret
  exact ⟨rfl, (Kept.refl _).alloc _ _⟩

theorem may_some (b : Bool) (x : Option Addr) (l c : Nat) (w : World) :
    ∃ p : Bool, (p = true → b = false → l ≤ 40) ∧ Calls Try.prog 58 #[.agg #[.bool b, .slice x l c]] w fun e w' => e = .returned (.bool p) ∧ Kept w w' := by
  cases b
  · exact ⟨_, fun h _ => by simp at h; omega, may_obj x l c w⟩
  · exact ⟨_, fun _ h => by simp at h, may_arr x l c w⟩

def dat (n : Int) : Int := if n < 1 ∨ 512 < n then 0 else (n + 7) / 8

theorem dat_lo (n : Int) : 0 ≤ dat n := by unfold dat; split <;> omega
theorem dat_hi (n : Int) : dat n ≤ 64 := by unfold dat; split <;> omega

def arrSize (n : Int) : Int := if n < 0 ∨ 512 < n then -1 else 1 + dat n

def spineOf (n : Int) : Int := if dat n ≤ 4 then 0 else dat n + 2

end Go.Proofs.Ytgnikgkpbibmgaa
