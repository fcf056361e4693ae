/-
  What is taken: rising, free before; how the counts go; the marks of what is out.
-/
import Derived.Test.YtpgmlnihgnomcaaFirst8
namespace Go.Proofs.Ytpgmlnihgnomcaa
open Go.RowKit

structure Good (n : Nat) (F : Nat → Bool) (T : List Nat) : Prop where
  rise : T.Pairwise (· < ·)
  all : ∀ t, t ∈ T → t < n ∧ F t = true

theorem freeU_rise (F : Nat → Bool) (a : Nat) : ∀ n, (freeU F a n).Pairwise (· < ·)
  | 0 => List.Pairwise.nil
  | n + 1 => by
    rw [freeU, List.pairwise_append]
    refine ⟨freeU_rise F a n, by split <;> simp, fun x hx y hy => ?_⟩
    have := (freeU_mem.1 hx).2.1
    split at hy <;> simp at hy
    omega
theorem freeU_good (F : Nat → Bool) (a n : Nat) : Good n F (freeU F a n) := ⟨freeU_rise F a n, fun _ h => (freeU_mem.1 h).2⟩
theorem Good.take {n : Nat} {F : Nat → Bool} {T : List Nat} (h : Good n F T) (k : Nat) : Good n F (T.take k) := ⟨h.rise.sublist (List.take_sublist _ _), fun t ht => h.all t (List.mem_of_mem_take ht)⟩
theorem Good.nil (n : Nat) (F : Nat → Bool) : Good n F [] := ⟨List.Pairwise.nil, fun _ h => by cases h⟩
theorem lowL_good (n : Nat) (F : Nat → Bool) (k : Int) : Good n F (lowL n F k) := (freeU_good F 0 n).take _
theorem takeL_good (n : Nat) (F : Nat → Bool) (k : Int) : Good n F (takeL n F k) := by
  cases ht : takeB n F k
  · rw [take_no ht]; exact Good.nil _ _
  · cases hr : runO n F k with
    | none => rw [← take_low ht hr]; exact lowL_good n F k
    | some a => rw [← (take_run ht hr).1]; exact (freeU_good F a n).take _

theorem cntB_set_false {F : Nat → Bool} {i : Nat} (hf : F i = true) {k : Nat} (h : i < k) : cntB (setB F i false) k + 1 = cntB F k := by
  have h1 := cntB_set_true (F := setB F i false) (i := i) (setB_same F i false) h
  rw [← h1]
  exact cntB_congr fun j _ => by
    by_cases e : j = i
    · rw [e, setB_same, hf]
    · rw [setB_other _ _ e, setB_other _ _ e]
theorem dropF_cons (F : Nat → Bool) (t : Nat) (T : List Nat) : dropF F (t :: T) = setB (dropF F T) t false := by
  funext j
  by_cases e : j = t <;> simp [dropF, setB, e]
theorem Good.cnt {n : Nat} {F : Nat → Bool} : ∀ {T : List Nat}, Good n F T → cntB (dropF F T) n + T.length = cntB F n
  | [], _ => by simp [dropF_nil]
  | t :: T, h => by
    have hT : Good n F T := ⟨(List.pairwise_cons.1 h.rise).2, fun x hx => h.all x (by simp [hx])⟩
    have ht := h.all t (by simp)
    have hn : t ∉ T := fun q => by have := (List.pairwise_cons.1 h.rise).1 t q; omega
    have h1 := cntB_set_false (F := dropF F T) (i := t) (by simp [dropF, ht.2, hn]) ht.1
    have := hT.cnt
    rw [dropF_cons]
    simp
    omega

/-- The marks of what is out, but for the numbers T. -/
def outF (F : Nat → Bool) (T : List Nat) (j : Nat) : Bool := !F j && !T.contains j
theorem outF_drop {n : Nat} {F : Nat → Bool} {T : List Nat} (h : Good n F T) : outF (dropF F T) T = outF F [] := by
  funext j
  by_cases e : j ∈ T
  · simp [outF, e, (h.all j e).2]
  · simp [outF, dropF, e]
theorem outF_give {F : Nat → Bool} {i : Nat} : outF (setB F i true) [] = setB (outF F []) i false := by
  funext j
  by_cases e : j = i <;> simp [outF, setB, e]
theorem outF_step {F : Nat → Bool} {T : List Nat} (hr : T.Pairwise (· < ·)) {k : Nat} (hk : k < T.length) (hf : F T[k] = false) : setB (outF F (T.drop k)) T[k] true = outF F (T.drop (k + 1)) := by
  have e := List.drop_eq_getElem_cons hk
  have hp : (T.drop k).Pairwise (· < ·) := hr.sublist (List.drop_sublist _ _)
  rw [e] at hp
  have hn : T[k] ∉ T.drop (k + 1) := fun q => by have := (List.pairwise_cons.1 hp).1 _ q; omega
  funext j
  by_cases h : j = T[k]
  · rw [h, setB_same]
    simp only [outF, hf, Bool.not_false, Bool.true_and]
    simp [hn]
  · have m : j ∈ T.drop k ↔ j ∈ T.drop (k + 1) := by
      rw [e, List.mem_cons]
      exact ⟨fun q => q.resolve_left h, .inr⟩
    rw [setB_other _ _ h]
    simp [outF, m]
theorem outF_at {F : Nat → Bool} {T : List Nat} {k : Nat} (hk : k < T.length) : outF F (T.drop k) T[k] = false := by
  have e := List.drop_eq_getElem_cons hk
  have m : T[k] ∈ T.drop k := by rw [e]; exact List.mem_cons_self
  simp [outF, m]

/-- The pool, and the marks of what is out beside it. -/
structure Once (w wr : World) (b g go n : Nat) (F O : Nat → Bool) : Prop where
  tab : PTab 46 wr b g n F
  out : wr.rowIs go 4 n (fun j => .bool (O j))
  lg : w.heap.size ≤ g
  lo : w.heap.size ≤ go
  ne : g ≠ go
  nb : b ≠ go
  kept : Kept w wr
section
variable {w wr w' : World} {b g go n : Nat} {F F' O : Nat → Bool}
theorem Once.step (h : Once w wr b g go n F O) (t : PTab 46 w' b g n F') (m : Mut [g] wr w') : Once w w' b g go n F' O :=
  ⟨t, m.row h.out (by have := h.ne; simp; omega), h.lg, h.lo, h.ne, h.nb, h.kept.muts m (by simpa using h.lg)⟩
theorem Once.still (h : Once w wr b g go n F O) (k : Kept wr w') : Once w w' b g go n F O := ⟨h.tab.kept k, k.row h.out, h.lg, h.lo, h.ne, h.nb, h.kept.trans k⟩
theorem Once.set (h : Once w wr b g go n F O) (t : Nat) (v : Bool) : Once w (wr.setCell ⟨go, t, none⟩ (.bool v)) b g go n F (setB O t v) :=
  ⟨h.tab.muts (D := [go]) ((Mut.refl _ _).setCell (by simp) _) (by simpa using h.nb) (by simpa using h.ne), (h.out.set _ _).congr fun j _ => by by_cases e : j = t <;> simp [e, setB], h.lg, h.lo, h.ne, h.nb, h.kept.setCell h.lo _⟩
end
end Go.Proofs.Ytpgmlnihgnomcaa
