/-
  The walk of TraceAll: its ways together.
-/
import Derived.Test.YtpdclckgnajcdaaGreatAllO16
import Derived.Test.YtpdclckgnajcdaaGreatAllR16
import Derived.Test.YtpdclckgnajcdaaGreatOpen12
namespace Go.Proofs.YtpdclckgnajcdaaGreat
open Go.RowKit

theorem obj_laid {n0 n1 n2 : Int} {L : Nat → Int} {l n' : Nat} (kind : Int) (R : Nat → Bool) (fl : Nat) (hf : Frs L l n0) (ht : ¬ Twice L l) (h1 : 0 ≤ n1) (h2 : 0 ≤ n2) (hn : (n' : Int) = 8 * n0 + 2 * n1 + n2) :
    (∀ i, i < 8 * l → ∃ a : Nat, a < n' ∧ (objF kind R L l fl i).a = (a : Int)) ∧ Has n' (8 * l) (wrt (objF kind R L l fl) (8 * l)) (objF kind R L l fl) := by
  have hb : ∀ i, i < 8 * l → 0 ≤ (objF kind R L l fl i).a ∧ (objF kind R L l fl i).a < n' := fun i hi => by
    have := hf (i / 8) (by omega)
    simp only [objF]
    omega
  refine ⟨fun i hi => ⟨(objF kind R L l fl i).a.toNat, by have := hb i hi; omega, by have := hb i hi; omega⟩, has_wrt hb fun i hi k hk => ?_⟩
  simp only [objF]
  exact onc_frag_ne ht hi hk

theorem arr_laid {n0 n1 n2 : Int} {L : Nat → Int} {l n' : Nat} (kind n : Int) (R : Nat → Bool) (at' : Int) (hf : Frs L l n0) (ht : ¬ Twice L l) (h0 : 0 ≤ n0) (h1 : 0 ≤ n1) (h2 : 0 ≤ n2) (hn : (n' : Int) = 8 * n0 + 2 * n1 + n2) (hF : modeA n L l = 1 → Fit n0 n1 at' (l + 1)) :
    (∀ i, i < 8 * l + spN n L l → ∃ a : Nat, a < n' ∧ (arrF kind n (modeA n L l) R L l at' i).a = (a : Int)) ∧ Has n' (8 * l + spN n L l) (wrt (arrF kind n (modeA n L l) R L l at') (8 * l + spN n L l)) (arrF kind n (modeA n L l) R L l at') := by
  have hlo : ∀ i, i < 8 * l → (arrF kind n (modeA n L l) R L l at' i).a = L (i / 8) * 8 + ((i % 8 : Nat) : Int) := fun i hi => by
    unfold arrF
    rw [if_pos (by omega)]
  have hhi : ∀ i, 8 * l ≤ i → (arrF kind n (modeA n L l) R L l at' i).a = at' + ((i - 8 * l : Nat) : Int) := fun i hi => by
    unfold arrF
    rw [if_neg (by omega), show i - l * 8 = i - 8 * l by omega]
  have hsp : ∀ i, 8 * l ≤ i → i < 8 * l + spN n L l → Fit n0 n1 at' (l + 1) ∧ i < 8 * l + (l + 1) := fun i h1 h2 => by
    unfold spN at h2
    split at h2
    · rename_i q; exact ⟨hF q, by omega⟩
    · omega
  have hb : ∀ i, i < 8 * l + spN n L l → 0 ≤ (arrF kind n (modeA n L l) R L l at' i).a ∧ (arrF kind n (modeA n L l) R L l at' i).a < n' := fun i hi => by
    by_cases q : i < 8 * l
    · have := hf (i / 8) (by omega)
      rw [hlo i q]
      omega
    · obtain ⟨hFit, hi2⟩ := hsp i (by omega) hi
      rw [hhi i (by omega)]
      rcases hFit with r | r <;> omega
  refine ⟨fun i hi => ⟨(arrF kind n (modeA n L l) R L l at' i).a.toNat, by have := hb i hi; omega, by have := hb i hi; omega⟩, has_wrt hb fun i hi k hk => ?_⟩
  by_cases q : i < 8 * l
  · rw [hlo i q, hlo k (by omega)]
    exact onc_frag_ne ht q hk
  · obtain ⟨hFit, hi2⟩ := hsp i (by omega) hi
    rw [hhi i (by omega)]
    by_cases q2 : k < 8 * l
    · have := hf (k / 8) (by omega)
      rw [hlo k q2]
      rcases hFit with r | r <;> omega
    · rw [hhi k (by omega)]
      omega
theorem fits_nn {n0 n1 n2 n3 n4 n5 n6 n7 : Int} (h : Fits n0 n1 n2 n3 n4 n5 n6 n7) : 0 ≤ n0 ∧ 0 ≤ n1 ∧ 0 ≤ n2 ∧ 8 * n0 + 2 * n1 + n2 ≤ 100000 := by
  unfold Fits at h
  omega
/-- What is stored at a slot. -/
def VA (n0 : Int) (K yl : Nat) (rf : Nat → Bool) (RV : Nat → Int) (s : Nat) : Option Int := if s < K ∧ s < yl ∧ rf s = true ∧ 0 ≤ RV s ∧ RV s < n0 then some (RV s) else none
theorem VA_ok {n0 : Int} {K yl : Nat} {rf : Nat → Bool} {RV : Nat → Int} (hn : n0 ≤ 1024) : ∀ s, Vok (VA n0 K yl rf RV s) := fun s i h => by
  unfold VA at h
  split at h
  · rename_i hc
    simp only [Option.some.injEq] at h
    omega
  · cases h
theorem traceAll_any (n0 n1 n2 n3 n4 n5 n6 n7 : Int) (sx : Option Addr) (sl sc : Nat) (S : Nat → Sh) (R : Nat → Nat → Bool) (kind n : Int) (x : Option Addr) (l c : Nat) (L : Nat → Int) (at' : Int) (y : Option Addr) (yl yc : Nat) (RV : Nat → Int) (w : World) (hN0 : IntKind.min .i64 ≤ n0 ∧ n0 ≤ IntKind.max .i64) (hS : Shps w sx sl S) (hR : ∀ i, i < sl → Refs w (S i).x (S i).l (R i)) (hZ : ∀ i, i < sl → (S i).l ≤ 140737488351232) (hc : l ≤ c) (hL : Ints w x l L) (hY : Ints w y yl RV) :
    Calls Tryz.prog 3 #[.agg #[.int .i64 n0, .int .i64 n1, .int .i64 n2, .int .i64 n3, .int .i64 n4, .int .i64 n5, .int .i64 n6, .int .i64 n7, .slice sx sl sc], .int .i64 kind, .int .i64 n, .slice x l c, .int .i64 at', .slice y yl yc] w fun e w' => e = .returned (.bool true) ∧ Kept w w' := by
  have hx : Rdf w x l L := fun h0 => hL.at h0
  have hy : Rdf w y yl RV := fun h0 => hY.at h0
  by_cases hk : kind < 0 ∨ (sl : Int) ≤ kind
  · exact all_out n0 n1 n2 n3 n4 n5 n6 n7 sx sl sc S kind n x l c at' y yl yc w hS hk
  obtain ⟨k, rfl⟩ : ∃ k : Nat, kind = k := ⟨kind.toNat, by omega⟩
  have hks : k < sl := by omega
  obtain ⟨rk, hrk, _⟩ := Checks.some n0 n1 n2 n3 n4 n5 n6 n7 sl S
  by_cases hrk0 : rk = 0
  case neg => exact all_early n0 n1 n2 n3 n4 n5 n6 n7 sx sl sc S R k n x l c at' y yl yc rk w hS hR hks (hZ k hks) hrk (.inl hrk0)
  by_cases hm : Small sl S
  case neg => exact all_early n0 n1 n2 n3 n4 n5 n6 n7 sx sl sc S R k n x l c at' y yl yc rk w hS hR hks (hZ k hks) hrk (.inr (.inl hm))
  by_cases hl : l ≤ 200
  case neg => exact all_early n0 n1 n2 n3 n4 n5 n6 n7 sx sl sc S R k n x l c at' y yl yc rk w hS hR hks (hZ k hks) hrk (.inr (.inr (.inl (by omega))))
  by_cases hyl : yl ≤ 600
  case neg => exact all_early n0 n1 n2 n3 n4 n5 n6 n7 sx sl sc S R k n x l c at' y yl yc rk w hS hR hks (hZ k hks) hrk (.inr (.inr (.inr (by omega))))
  subst hrk0
  cases hab : (S k).arr
  · obtain ⟨r, hr⟩ := Asks.some (AG n0 n1 n2 n3 n4 n5 n6 n7 sl S L l) (AK sl S k false) (AI S k 0 false) (AF S k 0 false L l)
    by_cases hr0 : r = 0
    case neg =>
      exact all_obj_no n0 n1 n2 n3 n4 n5 n6 n7 sx sl sc S R k n x l c at' y yl yc w hS hR hks (hZ k hks) hm hl hyl hrk hN0 hab r (fun w' q => object_no n0 n1 n2 n3 n4 n5 n6 n7 sx sl sc S R k (c := c) r w' (hS.kept q) (fun i hi => (hR i hi).kept q) (by omega) hc (hx.kept q) hr hr0) hr0
    subst hr0
    obtain ⟨⟨hg, hfr⟩, _, _, hsz, htw⟩ := hr.zero
    have hsz : (l : Int) = 1 + ((S k).l : Int) / 7 := hsz
    obtain ⟨f0, f1, f2, f3⟩ := fits_nn hg.1
    have hn' : (((8 * n0 + 2 * n1 + n2).toNat : Nat) : Int) = 8 * n0 + 2 * n1 + n2 := Int.toNat_of_nonneg (by omega)
    obtain ⟨hA, hH⟩ := obj_laid (k : Int) (R k) (S k).l hfr htw f1 f2 hn'
    have h40 := may_few (hg.2.2.2 k hks)
    have hff := hg.1
    unfold Fits at hff
    have hV := VA_ok (n0 := n0) (K := (S k).l) (yl := yl) (rf := R k) (RV := RV) (by omega)
    have hok : ThOk n0 n1 (thO (R k) (S k).l L l (VA n0 (S k).l yl (R k) RV)) := thO_ok h40 hsz hfr hV
    have hall : ((thO (R k) (S k).l L l (VA n0 (S k).l yl (R k) RV)).all : Int) = 1 + 2 * (((l - 1 : Nat)) : Int) + (thO (R k) (S k).l L l (VA n0 (S k).l yl (R k) RV)).cnt (S k).l := thO_all
    have hcl := (thO (R k) (S k).l L l (VA n0 (S k).l yl (R k) RV)).cnt_le (S k).l
    exact all_obj_yes n0 n1 n2 n3 n4 n5 n6 n7 sx sl sc S R k n x l c L at' y yl yc w hS hR hks (hZ k hks) hm hl hab (8 * l) (objF k (R k) L l (S k).l) (fun w' q => object_yes n0 n1 n2 n3 n4 n5 n6 n7 sx sl sc S R k (c := c) w' (hS.kept q) (fun i hi => (hR i hi).kept q) (by omega) hc (hx.kept q) hr) (by omega) (by omega) hg _ hn' hA hx (by omega) (by omega)
      hyl hrk RV hy (thO (R k) (S k).l L l (VA n0 (S k).l yl (R k) RV)) (S k).l (adO L) (modeO L l) (by omega) rfl rfl rfl rfl (fun s _ => rfl) (fun s => rfl) (by omega) hok.all_le hfr (fun s hs => by omega) (fun s hs => by
        have h7 := hfr ((s + 1) / 7) (by omega)
        unfold adO
        omega) (fun E hE => by
        obtain ⟨h1, h2, h3, h4, h5⟩ := hE
        have hm01 : 0 ≤ modeO L l ∧ modeO L l ≤ 1 := by unfold modeO; split <;> omega
        exact ⟨by rw [h1, h2]; exact hok, obj_in k h40 hsz hfr htw hH, by omega, by rw [h4]; exact hab, by rw [h4]; rfl, by rw [h5]; rfl, hm01, (fun h => by cases h), by omega⟩)
  · obtain ⟨r0, hr0⟩ := Asks.some (AG n0 n1 n2 n3 n4 n5 n6 n7 sl S L l) (AK sl S k false) (AI S k 0 false) (AF S k 0 false L l)
    have hr00 : r0 ≠ 0 := fun q => by
      subst q
      have := hr0.zero.2.1.2.2
      rw [Int.toNat_natCast, hab] at this
      cases this
    have CO : ∀ w', Kept w w' → Calls Tryz.prog 10 #[.agg #[.int .i64 n0, .int .i64 n1, .int .i64 n2, .int .i64 n3, .int .i64 n4, .int .i64 n5, .int .i64 n6, .int .i64 n7, .slice sx sl sc], .int .i64 k, .slice x l c] w' fun e w'' => e = .returned (.tuple #[.slice none 0 0, .int .i64 r0]) ∧ Kept w' w'' := fun w' q => object_no n0 n1 n2 n3 n4 n5 n6 n7 sx sl sc S R k (c := c) r0 w' (hS.kept q) (fun i hi => (hR i hi).kept q) (by omega) hc (hx.kept q) hr0 hr00
    obtain ⟨r, hr⟩ := Asks.some (AG n0 n1 n2 n3 n4 n5 n6 n7 sl S L l) (AK sl S k true) (AI S k n true) (AF S k n true L l)
    by_cases hrz : r = 0
    case neg =>
      exact all_arr_no n0 n1 n2 n3 n4 n5 n6 n7 sx sl sc S R k n x l c at' y yl yc w hS hR hks (hZ k hks) hm hl hyl hrk hN0 hab r0 CO r (fun w' q => array_no n0 n1 n2 n3 n4 n5 n6 n7 sx sl sc S R k n (c := c) at' r w' (hS.kept q) (fun i hi => (hR i hi).kept q) (by omega) hc (hx.kept q) hr hrz) hrz
    subst hrz
    by_cases hF : modeA n L l = 1 → Fit n0 n1 at' (l + 1)
    case neg =>
      have h1 : modeA n L l = 1 := Classical.byContradiction fun q => hF fun q2 => absurd q2 q
      exact all_arr_no n0 n1 n2 n3 n4 n5 n6 n7 sx sl sc S R k n x l c at' y yl yc w hS hR hks (hZ k hks) hm hl hyl hrk hN0 hab r0 CO 2 (fun w' q => array_bad n0 n1 n2 n3 n4 n5 n6 n7 sx sl sc S R k n (c := c) at' w' (hS.kept q) (fun i hi => (hR i hi).kept q) (by omega) hc (hx.kept q) hr h1 (fun q => hF fun _ => q)) (by decide)
    obtain ⟨⟨hg, hfr⟩, _, hai, hsz, htw⟩ := hr.zero
    have hsz : (l : Int) = arrSize n := hsz
    have hai : 0 ≤ arrSize n := hai
    have hl1 : 1 ≤ l := by
      unfold arrSize at hsz hai
      split at hsz
      · omega
      · have := dat_lo n; omega
    have hsp : spN n L l ≤ l + 1 := by unfold spN; split <;> omega
    obtain ⟨f0, f1, f2, f3⟩ := fits_nn hg.1
    have hn' : (((8 * n0 + 2 * n1 + n2).toNat : Nat) : Int) = 8 * n0 + 2 * n1 + n2 := Int.toNat_of_nonneg (by omega)
    obtain ⟨hA, hH⟩ := arr_laid (k : Int) n (R k) at' hfr htw f0 f1 f2 hn' hF
    have hnr : 0 ≤ n ∧ n ≤ 512 := by
      unfold arrSize at hai
      split at hai
      · omega
      · omega
    obtain ⟨mn, rfl⟩ : ∃ mn : Nat, n = mn := ⟨n.toNat, by omega⟩
    have hdt : (l : Int) = 1 + dat (mn : Int) := by
      unfold arrSize at hsz
      rw [if_neg (by omega)] at hsz
      exact hsz
    have hdd : ∀ j, j < mn → 1 + j / 8 < l := fun j hj => by
      unfold dat at hdt
      rw [if_neg (by omega)] at hdt
      omega
    have hdm : mn ≤ 8 * (l - 1) := by
      unfold dat at hdt
      split at hdt <;> omega
    have hff := hg.1
    unfold Fits at hff
    have hV := VA_ok (n0 := n0) (K := mn) (yl := yl) (rf := fun _ => R k 0) (RV := RV) (by omega)
    have hok : ThOk n0 n1 (thA (R k) L l mn at' (VA n0 mn yl (fun _ => R k 0) RV)) := thA_ok hnr hdt hfr hF f1 hV
    have hcl := (thA (R k) L l mn at' (VA n0 mn yl (fun _ => R k 0) RV)).cnt_le mn
    have hpre : (thA (R k) L l mn at' (VA n0 mn yl (fun _ => R k 0) RV)).pre ≤ 4 := by unfold Th.pre; split <;> (try split) <;> (try split) <;> omega
    have hfrn : (thA (R k) L l mn at' (VA n0 mn yl (fun _ => R k 0) RV)).fr (l - 1) ≤ 2 * (l - 1) := by unfold Th.fr; split <;> omega
    have hN : (thA (R k) L l mn at' (VA n0 mn yl (fun _ => R k 0) RV)).N = mn := by simp [thA]
    have hall : (thA (R k) L l mn at' (VA n0 mn yl (fun _ => R k 0) RV)).all < 18 * l + 3 := by
      unfold Th.all
      rw [hN]
      show _ + (thA (R k) L l mn at' (VA n0 mn yl (fun _ => R k 0) RV)).fr (l - 1) + _ < _
      omega
    exact all_arr_yes n0 n1 n2 n3 n4 n5 n6 n7 sx sl sc S R k mn x l c L at' y yl yc w hS hR hks (hZ k hks) hm hl hab r0 CO (8 * l + spN mn L l) (arrF k mn (modeA mn L l) (R k) L l at') (fun w' q => array_yes n0 n1 n2 n3 n4 n5 n6 n7 sx sl sc S R k mn (c := c) at' w' (hS.kept q) (fun i hi => (hR i hi).kept q) (by omega) hc (hx.kept q) hr hF) (by omega) (by omega) hg _ hn' hA hx (by omega) (by omega)
      hyl hrk RV hy (thA (R k) L l mn at' (VA n0 mn yl (fun _ => R k 0) RV)) mn (adA L) 0 (by omega) rfl rfl rfl hN (fun s _ => rfl) (fun s => rfl) hall hok.all_le hfr (fun s hs => hdd s hs) (fun s hs => by
        have h7 := hfr (1 + s / 8) (hdd s hs)
        unfold adA
        omega) (fun E hE => by
        obtain ⟨h1, h2, h3, h4, h5⟩ := hE
        have hin := arr_in (n' := (8 * n0 + 2 * n1 + n2).toNat) (V := VA n0 mn yl (fun _ => R k 0) RV) (R := R k) (at' := at') k hnr hdt hfr htw hF hH
        rw [Int.toNat_natCast] at hin
        exact ⟨by rw [h1, h2]; exact hok, hin, by omega, by rw [h4]; exact hab, by rw [h4]; exact (may_len (hg.2.2.2 k hks)).2 hab, by rw [h5]; rfl, by omega, fun _ => rfl, by omega⟩)
end Go.Proofs.YtpdclckgnajcdaaGreat
