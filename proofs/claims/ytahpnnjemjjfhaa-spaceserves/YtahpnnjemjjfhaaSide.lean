/-
  Side: whether each number is one more than the one ahead; the comparison of two lists.
-/
import Derived.Test.YtahpnnjemjjfhaaStockB
import Derived.Deep.CutBlock
namespace Go.Proofs.Ytahpnnjemjjfhaa
open Go.RowKit

/-- Of the first n numbers, is each one more than the one ahead? -/
def sideU (L : Nat → Int) : Nat → Bool
  | 0 => true
  | n + 1 => sideU L n && (n == 0 || L n == L (n - 1) + 1)

theorem ssideU_no {L : Nat → Int} {k : Nat} : ∀ {l : Nat}, k ≤ l → sideU L k = false → sideU L l = false
  | 0, h, e => by obtain rfl : k = 0 := by omega
                  exact e
  | l + 1, h, e => by
    by_cases hk : k = l + 1
    · subst hk; exact e
    · have := ssideU_no (l := l) (by omega) e
      simp [sideU, this]
theorem ssideU_yes {L : Nat → Int} : ∀ {l : Nat}, (∀ j, j + 1 < l → L (j + 1) = L j + 1) → sideU L l = true
  | 0, _ => rfl
  | l + 1, h => by
    rw [sideU, ssideU_yes (l := l) (fun j hj => h j (by omega))]
    cases l with
    | zero => rfl
    | succ l => simpa using h l (by omega)
theorem sideU_at {L : Nat → Int} {k l : Nat} (hk : k + 1 < l) (h : L (k + 1) ≠ L k + 1) : sideU L l = false :=
  ssideU_no (k := k + 2) (by omega) (by simp [sideU, h])

theorem bnd {p : Int} (h : IntKind.min .i64 ≤ p ∧ p ≤ IntKind.max .i64) : -9223372036854775808 ≤ p ∧ p ≤ 9223372036854775807 := by
  have e1 : IntKind.min .i64 = -9223372036854775808 := by decide
  have e2 : IntKind.max .i64 = 9223372036854775807 := by decide
  rwa [e1, e2] at h

/-- l numbers that are read at x. -/
def Rdf (w : World) (x : Option Addr) (l : Nat) (L : Nat → Int) : Prop := 0 < l → ∃ g o, x = some ⟨g, o, none⟩ ∧ g < w.heap.size ∧ ∀ j, j < l → w.cell? ⟨g, o + j, none⟩ = some (.int .i64 (L j))
theorem Rdf.kept {w w' : World} {x : Option Addr} {l : Nat} {L : Nat → Int} (h : Rdf w x l L) (k : Kept w w') : Rdf w' x l L := fun h0 => by
  obtain ⟨g, o, e, hl, hc⟩ := h h0
  exact ⟨g, o, e, Nat.lt_of_lt_of_le hl k.size, fun j hj => (k.cell hl).trans (hc j hj)⟩

set_option maxHeartbeats 2000000 in
theorem side_any {x : Option Addr} {l c : Nat} {L : Nat → Int} (w : World) (hl : (l : Int) ≤ 1000000) (hx : Rdf w x l L) (hB : ∀ j, j < l → IntKind.min .i64 ≤ L j ∧ L j ≤ IntKind.max .i64) :
    Calls Try.prog 78 #[.slice x l c] w fun e w' => e = .returned (.bool (sideU L l)) ∧ Kept w w' := by
  have HX : Hid (Rdf w x l L) := hx
  have HB : Hid _ := hB
  clear hx hB
  go_enter Try.func78, Try.ntmps78
  go_wp2
  go_loopg [3] l (fun m i wr => ∃ k : Nat, i = .int .i64 k ∧ 1 ≤ k ∧ (k ≤ l ∨ k = 1) ∧ m = l + 1 - k ∧ Hid (sideU L k = true ∧ Kept w wr))
  case atStart => exact ⟨1, rfl, by omega, by omega, by omega, rfl, Kept.refl _⟩
  case round =>
    obtain ⟨k, rfl, h1, hk, hm, hw⟩ := hrel
    have HM : Hid _ := hm
    have HKK : Hid _ := hk
    clear hm hk
    by_cases hlt : k < l
    · obtain ⟨i, rfl⟩ : ∃ i, k = i + 1 := ⟨k - 1, by omega⟩
      obtain ⟨g, o, rfl, hg, cc⟩ := HX.out.kept hw.out.2 (by omega)
      have c1 := cc (i + 1) hlt
      have c2 := cc i (by omega)
      have b1 := bnd (HB.out (i + 1) hlt)
      have b2 := bnd (HB.out i (by omega))
      have d1 := fun z : KW wr => z.cell hg c1
      have d2 := fun z : KW wr => z.cell hg c2
      have HS : Hid (L (i + 1) ≠ L i + 1 → sideU L l = false) := fun h => sideU_at hlt h
      have HY : Hid (L (i + 1) = L i + 1 → sideU L (i + 1 + 1) = true) := fun h => by
        rw [sideU, hw.out.1]
        simp [h]
      clear cc c1 c2
      generalize L (i + 1) = p at *
      generalize L i = q at *
      have g5 : ((i + 1 : Nat) : Int) - 1 = (i : Int) := by omega
      have g5a : (i : Int) + 1 - 1 = (i : Int) := by omega
      by_cases hA : p ≤ q
      · have e1 : decide (p ≤ q) = true := decide_eq_true hA
        have HE : Hid _ := HS.out (by omega)
        go_upto_region 4 with fail
        refine wp_region_kept (by kernel_rfl) (by kernel_rfl) fun _ => ?_
        repeat (go_big_quiet_step (fail))
        refine wpQuiet_nil ?_
        rintro _ ⟨z, rfl⟩
        clear d1 d2
        go_wp2
        go_ret
        exact ⟨by rw [HE.out]; rfl, hw.out.2.trans z.ok⟩
      · have e1 : decide (p ≤ q) = false := decide_eq_false hA
        by_cases hC : p = q + 1
        · subst hC
          have e2 : ((q + 1 - 1 : Int) != q) = false := by simp
          have e3 : ((q : Int) != q) = false := by simp
          go_upto_region 4 with fail
          refine wp_region_kept (by kernel_rfl) (by kernel_rfl) fun _ => ?_
          repeat (go_big_quiet_step (fail))
          refine wpQuiet_nil ?_
          rintro _ ⟨z, rfl⟩
          clear d1 d2
          go_wp2
          go_roundg (gk - 1)
          all_goals (have := HM.out; try omega)
          exact ⟨i + 1 + 1, by go_num, by omega, by omega, by omega, HY.out (by simp), hw.out.2.trans z.ok⟩
        · have e2 : ((p - 1 : Int) != q) = true := by simp; omega
          have HE : Hid _ := HS.out (by omega)
          go_upto_region 4 with fail
          refine wp_region_kept (by kernel_rfl) (by kernel_rfl) fun _ => ?_
          repeat (go_big_quiet_step (fail))
          refine wpQuiet_nil ?_
          rintro _ ⟨z, rfl⟩
          clear d1 d2
          go_wp2
          go_ret
          exact ⟨by rw [HE.out]; rfl, hw.out.2.trans z.ok⟩
    · have HE : Hid (sideU L l = true) := by
        rcases HKK.out with h | h
        · obtain rfl : l = k := by omega
          exact hw.out.1
        · subst h
          rcases (show l = 0 ∨ l = 1 by omega) with rfl | rfl
          · exact rfl
          · exact rfl
      go_wp2
      go_ret
      exact ⟨by rw [HE.out]; rfl, hw.out.2⟩
set_option maxHeartbeats 1000000 in
theorem ints_any {x y : Option Addr} {c d : Nat} {T : List Int} (w : World) (hl : T.length ≤ 1000000) (hx : Rdi w x T) (hy : Rdi w y T) :
    Calls Try.prog 28 #[.slice x T.length c, .slice y T.length d] w fun e w' => e = .returned (.bool true) ∧ Kept w w' := by
  have HX : Hid (Rdi w x T ∧ Rdi w y T) := ⟨hx, hy⟩
  clear hx hy
  have h0 : ((T.length : Int) != (T.length : Int)) = false := by simp
  go_enter Try.func28, Try.ntmps28
  go_wp2
  clear h0
  go_loopg [5] T.length (fun m i wr => ∃ k : Nat, i = .int .i64 k ∧ k ≤ T.length ∧ m = T.length - k ∧ Hid (Kept w wr))
  case atStart => exact ⟨0, rfl, by omega, by omega, Kept.refl _⟩
  case round =>
    obtain ⟨k, rfl, hk, hm, hw⟩ := hrel
    have HM : Hid _ := hm
    clear hm
    by_cases hlt : k < T.length
    · obtain ⟨g, o, rfl, _, c1⟩ := HX.out.1.kept hw.out (by omega)
      obtain ⟨g2, o2, rfl, _, c2⟩ := HX.out.2.kept hw.out (by omega)
      have d1 := c1 k hlt
      have d2 := c2 k hlt
      clear c1 c2
      generalize T[k] = tk at *
      generalize T.length = L at *
      have q0 : (tk != tk) = false := by simp
      go_wp2
      go_region
      all_goals go_wp2
      all_goals go_roundg (gk - 1)
      all_goals (have := HM.out; try omega)
      all_goals exact ⟨k + 1, by go_num, by omega, by omega, hw.out.drew⟩
    · obtain e : k = T.length := by omega
      generalize T.length = L at *
      subst e
      go_wp2
      go_ret
      exact ⟨rfl, hw.out⟩
end Go.Proofs.Ytahpnnjemjjfhaa
