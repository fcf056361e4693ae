/-
  The walk of TraceSteps: its ways together.
-/
import Derived.Test.YtpdclckgnajcdaaGreatSteps16
import Derived.Test.YtpdclckgnajcdaaGreatLaid16
import Derived.Test.YtpdclckgnajcdaaGreatOpen12
import Derived.Test.YtpdclckgnajcdaaGreatBools16
namespace Go.Proofs.YtpdclckgnajcdaaGreat
open Go.RowKit

theorem obj_laid {n0 n1 n2 : Int} {L : Nat → Int} {l n' : Nat} (kind : Int) (R : Nat → Bool) (fl : Nat) (hf : Frs L l n0) (ht : ¬ Twice L l) (h1 : 0 ≤ n1) (h2 : 0 ≤ n2) (hn : (n' : Int) = 8 * n0 + 2 * n1 + n2) :
    (∀ i, i < 8 * l → ∃ a : Nat, a < n' ∧ (objF kind R L l fl i).a = (a : Int)) ∧ Has n' (8 * l) (wrt (objF kind R L l fl) (8 * l)) (objF kind R L l fl) := by
  have hb : ∀ i, i < 8 * l → 0 ≤ (objF kind R L l fl i).a ∧ (objF kind R L l fl i).a < n' := fun i hi => by
    have := hf (i / 8) (by omega)
    simp only [objF]
    omega
  refine ⟨fun i hi => ⟨(objF kind R L l fl i).a.toNat, by have := hb i hi; omega, by have := hb i hi; omega⟩, has_wrt hb fun i hi k hk => ?_⟩
  simp only [objF]
  exact onc_frag_ne ht hi hk
theorem fits_nn {n0 n1 n2 n3 n4 n5 n6 n7 : Int} (h : Fits n0 n1 n2 n3 n4 n5 n6 n7) : 0 ≤ n0 ∧ 0 ≤ n1 ∧ 0 ≤ n2 ∧ 8 * n0 + 2 * n1 + n2 ≤ 100000 := by
  unfold Fits at h
  omega

theorem traceSteps_any (n0 n1 n2 n3 n4 n5 n6 n7 : Int) (sx : Option Addr) (sl sc : Nat) (S : Nat → Sh) (R : Nat → Nat → Bool) (kind : Int) (x : Option Addr) (l c : Nat) (L : Nat → Int) (y : Option Addr) (yl yc : Nat) (RB : Nat → Bool) (w : World) (hN0 : IntKind.min .i64 ≤ n0 ∧ n0 ≤ IntKind.max .i64) (hS : Shps w sx sl S) (hR : ∀ i, i < sl → Refs w (S i).x (S i).l (R i)) (hZ : ∀ i, i < sl → (S i).l ≤ 140737488351232) (hc : l ≤ c) (hL : Ints w x l L) (hY : Bools w y yl RB) :
    Calls Tryz.prog 4 #[.agg #[.int .i64 n0, .int .i64 n1, .int .i64 n2, .int .i64 n3, .int .i64 n4, .int .i64 n5, .int .i64 n6, .int .i64 n7, .slice sx sl sc], .int .i64 kind, .slice x l c, .slice y yl yc] w fun e w' => e = .returned (.bool true) ∧ Kept w w' := by
  have hx : Rdf w x l L := fun h0 => hL.at h0
  have hy : Refs w y yl RB := fun h0 => hY.at h0
  by_cases hk : kind < 0 ∨ (sl : Int) ≤ kind
  · exact steps_out n0 n1 n2 n3 n4 n5 n6 n7 sx sl sc S kind x l c y yl yc w hS hk
  obtain ⟨k, rfl⟩ : ∃ k : Nat, kind = k := ⟨kind.toNat, by omega⟩
  have hks : k < sl := by omega
  by_cases hm : Small sl S
  case neg => exact steps_early n0 n1 n2 n3 n4 n5 n6 n7 sx sl sc S R k x l c y yl yc w hS hR hks (hZ k hks) (.inl hm)
  cases hab : (S k).arr
  case true => exact steps_early n0 n1 n2 n3 n4 n5 n6 n7 sx sl sc S R k x l c y yl yc w hS hR hks (hZ k hks) (.inr (.inl hab))
  by_cases hl : l ≤ 200
  case neg => exact steps_early n0 n1 n2 n3 n4 n5 n6 n7 sx sl sc S R k x l c y yl yc w hS hR hks (hZ k hks) (.inr (.inr (by omega)))
  obtain ⟨r, hr⟩ := Asks.some (AG n0 n1 n2 n3 n4 n5 n6 n7 sl S L l) (AK sl S k false) (AI S k 0 false) (AF S k 0 false L l)
  by_cases hr0 : r = 0
  case neg =>
    exact steps_obj_no n0 n1 n2 n3 n4 n5 n6 n7 sx sl sc S R k x l c y yl yc w hS hR hks (hZ k hks) hm hl hab hN0 r (fun w' q => object_no n0 n1 n2 n3 n4 n5 n6 n7 sx sl sc S R k (c := c) r w' (hS.kept q) (fun i hi => (hR i hi).kept q) (by omega) hc (hx.kept q) hr hr0) hr0
  subst hr0
  obtain ⟨⟨hg, hfr⟩, _, _, hsz, htw⟩ := hr.zero
  have hsz : (l : Int) = 1 + ((S k).l : Int) / 7 := hsz
  obtain ⟨f0, f1, f2, f3⟩ := fits_nn hg.1
  have hn' : (((8 * n0 + 2 * n1 + n2).toNat : Nat) : Int) = 8 * n0 + 2 * n1 + n2 := Int.toNat_of_nonneg (by omega)
  obtain ⟨hA, hH⟩ := obj_laid (k : Int) (R k) (S k).l hfr htw f1 f2 hn'
  have h40 := may_few (hg.2.2.2 k hks)
  have hff := hg.1
  unfold Fits at hff
  have hL0 := hfr 0 (by omega)
  have hV : ∀ s, Vok ((fun s => if R k s = true ∧ s < yl ∧ RB s = true then some (L 0) else none) s) := fun s i h => by
    simp only at h
    split at h
    · simp only [Option.some.injEq] at h
      omega
    · cases h
  have hall : ((thO (R k) (S k).l L l (fun s => if R k s = true ∧ s < yl ∧ RB s = true then some (L 0) else none)).all : Int) = 1 + 2 * ((l : Int) - 1) + (thO (R k) (S k).l L l (fun s => if R k s = true ∧ s < yl ∧ RB s = true then some (L 0) else none)).cnt (S k).l := by
    rw [thO_all]
    omega
  refine steps_obj_yes n0 n1 n2 n3 n4 n5 n6 n7 sx sl sc S R k x l c L y yl yc RB w hS hR hks (hZ k hks) hm hl hab (8 * l) (objF k (R k) L l (S k).l) (fun w' q => object_yes n0 n1 n2 n3 n4 n5 n6 n7 sx sl sc S R k (c := c) w' (hS.kept q) (fun i hi => (hR i hi).kept q) (by omega) hc (hx.kept q) hr) (by omega) (by omega) hg _ hn' hA hx (by omega) hL0
    hy (thO (R k) (S k).l L l (fun s => if R k s = true ∧ s < yl ∧ RB s = true then some (L 0) else none)) (adO L) (modeO L l) (by omega) hfr hsz (fun s => rfl) rfl rfl (fun s => rfl) hall (thO_ok (n0 := n0) (n1 := n1) h40 hsz hfr hV).all_le (fun s hs => ?_) (fun E hE => ?_)
  · have h7 := hfr ((s + 1) / 7) (by omega)
    unfold adO
    omega
  · obtain ⟨h1, h2, h3, h4, h5⟩ := hE
    have hm01 : 0 ≤ modeO L l ∧ modeO L l ≤ 1 := by unfold modeO; split <;> omega
    exact ⟨by rw [h1, h2]; exact thO_ok h40 hsz hfr hV, obj_in k h40 hsz hfr htw hH, by omega, by rw [h4]; exact hab, by rw [h4]; rfl, by rw [h5]; rfl, hm01, (fun h => by cases h), by omega⟩
end Go.Proofs.YtpdclckgnajcdaaGreat
