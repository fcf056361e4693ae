/-
  Objects and arrays as package trace sees them: what was laid, with references stored over it.
-/
import Derived.Test.YtpdclckgnajcdaaGreatOvr16
import Derived.Test.YtpdclckgnajcdaaGreatTrI
import Derived.Test.YtpdclckgnajcdaaGreatFill16
namespace Go.Proofs.YtpdclckgnajcdaaGreat
open Go.RowKit

/-- The slots' addresses. -/
def adO (L : Nat → Int) (s : Nat) : Nat := (L ((s + 1) / 7) * 8 + ((1 + (s + 1) % 7 : Nat) : Int)).toNat
def adA (L : Nat → Int) (s : Nat) : Nat := (L (1 + s / 8) * 8 + ((s % 8 : Nat) : Int)).toNat
def thO (R : Nat → Bool) (fl : Nat) (L : Nat → Int) (l : Nat) (V : Nat → Option Int) : Th := ⟨false, R, fl, fl, L, l, 0, 0, 0, V⟩
def whA (n : Int) (L : Nat → Int) (l : Nat) (at' : Int) : Int := if modeA n L l = 1 then at' else if modeA n L l = 2 then L 1 else 0
def thA (R : Nat → Bool) (L : Nat → Int) (l : Nat) (n at' : Int) (V : Nat → Option Int) : Th := ⟨true, R, 1, n.toNat, L, l, n, modeA n L l, whA n L l at', V⟩

section
variable {n0 n1 : Int} {R : Nat → Bool} {fl l : Nat} {L : Nat → Int} {V : Nat → Option Int} {n at' : Int}
theorem thO_ok (h40 : fl ≤ 40) (hsz : (l : Int) = 1 + (fl : Int) / 7) (hf : Frs L l n0) (hV : ∀ s, Vok (V s)) : ThOk n0 n1 (thO R fl L l V) :=
  ⟨fun _ => ⟨h40, rfl, rfl, rfl, hsz⟩, (fun h => by cases h), hf, ⟨by simp [thO], by simp [thO]⟩, (fun h => by cases h), (fun h => by cases h), fun _ => rfl, (fun h => by simp [thO] at h), (fun h => by simp [thO] at h), hV⟩
theorem thO_all : ((thO R fl L l V).all : Int) = 1 + 2 * (((l - 1 : Nat)) : Int) + (thO R fl L l V).cnt fl := by
  simp [Th.all, Th.pre, Th.fr, thO]
theorem modeA_two (h : modeA n L l = 2) : sideU L l = true ∧ ¬ dat n ≤ 4 := by
  unfold modeA at h
  split at h
  · cases h
  · split at h
    · rename_i a b; exact ⟨b, a⟩
    · cases h
theorem modeA_range : 0 ≤ modeA n L l ∧ modeA n L l ≤ 2 := by unfold modeA; split <;> (try split) <;> omega
theorem modeA_zero : dat n ≤ 4 ↔ modeA n L l = 0 := by
  unfold modeA
  by_cases q : dat n ≤ 4
  · simp [q]
  · by_cases q2 : sideU L l = true <;> simp [q, q2]
theorem sideU_all' {L : Nat → Int} {l : Nat} (h : sideU L l = true) (j : Nat) (hj : j < l) : L j = L 0 + j := sideU_all h j hj
theorem thA_ok (hn : 0 ≤ n ∧ n ≤ 512) (hsz : (l : Int) = 1 + dat n) (hf : Frs L l n0) (hFit : modeA n L l = 1 → Fit n0 n1 at' (l + 1)) (hn1 : 0 ≤ n1) (hV : ∀ s, Vok (V s)) : ThOk n0 n1 (thA R L l n at' V) := by
  refine ⟨(fun h => by cases h), fun _ => ⟨rfl, hn.1, hn.2, rfl, hsz⟩, hf, modeA_range, fun _ _ => modeA_zero, fun _ h0 => ?_, fun h => ?_, fun h => ?_, fun h => ?_, hV⟩
  · simp only [thA] at h0 ⊢
    exact modeA_zero.1 (by subst h0; decide)
  · simp only [thA, whA] at h ⊢
    rw [if_neg (by omega), if_neg (by omega)]
  · simp only [thA, whA] at h ⊢
    rw [if_pos h]
    rcases hFit h with q | q <;> omega
  · simp only [thA, whA] at h ⊢
    obtain ⟨hs, hd⟩ := modeA_two h
    have hd2 : dat n ≤ 64 := dat_hi n
    have h1 := sideU_all' hs 1 (by omega)
    have hl := sideU_all' hs (l - 1) (by omega)
    have hfl := hf (l - 1) (by omega)
    refine ⟨by rw [if_neg (by omega), if_pos h], by rw [if_neg (by omega), if_pos h]; omega, fun j h2 h3 => ?_⟩
    have := sideU_all' hs j h3
    omega

/-- Slots' words, and the others. -/
theorem ovr_keep {N K n' : Nat} {fw : Nat → Wr} {ad : Nat → Nat} {ix : Nat → Nat} (hH : Has n' N (wrt fw N) fw) (hd : ∀ i, i < N → ∀ j, j < N → i ≠ j → (fw i).a ≠ (fw j).a) (hix : ∀ s, s < K → ix s < N) (had : ∀ s, s < K → (fw (ix s)).a = (ad s : Int))
    {i : Nat} (hi : i < N) (hne : ∀ s, s < K → V s ≠ none → ix s ≠ i) : ∃ a : Nat, a < n' ∧ (fw i).a = a ∧ ovr (wrt fw N) ad V K a = (fw i).z := by
  obtain ⟨a, ha, hx, hz⟩ := hH i hi
  refine ⟨a, ha, hx, ?_⟩
  rw [ovr_off fun t ht hv q => ?_]
  · exact hz
  · have h1 := had t ht
    rw [q, ← hx] at h1
    exact hd _ (hix t ht) _ hi (hne t ht hv) h1
theorem ovr_slot {N K n' : Nat} {fw : Nat → Wr} {ad : Nat → Nat} {ix : Nat → Nat} (hH : Has n' N (wrt fw N) fw) (hd : ∀ i, i < N → ∀ j, j < N → i ≠ j → (fw i).a ≠ (fw j).a) (hix : ∀ s, s < K → ix s < N) (had : ∀ s, s < K → (fw (ix s)).a = (ad s : Int)) (hinj : ∀ s, s < K → ∀ t, t < K → ix s = ix t → s = t)
    {s : Nat} (hs : s < K) (hz : (fw (ix s)).z = cn) : ∃ a : Nat, a < n' ∧ (fw (ix s)).a = a ∧ ovr (wrt fw N) ad V K a = rw' (V s) := by
  cases hv : V s with
  | none =>
    obtain ⟨a, h1, h2, h3⟩ := ovr_keep (V := V) hH hd hix had (hix s hs) (fun t ht hvt q => by
      have := hinj t ht s hs q
      subst this
      exact hvt hv)
    exact ⟨a, h1, h2, by rw [h3, hz]; rfl⟩
  | some i =>
    obtain ⟨a, ha, hx, _⟩ := hH (ix s) (hix s hs)
    have e : a = ad s := by have := had s hs; omega
    subst e
    refine ⟨ad s, ha, hx, ?_⟩
    rw [ovr_on hs hv fun t ht hts q => ?_]
    · rfl
    · have h1 := had t ht
      have h2 := had s hs
      rw [q, ← h2] at h1
      exact hd _ (hix t ht) _ (hix s hs) (fun r => hts (hinj t ht s hs r)) h1

theorem obj_ne (k : Int) (ht : ¬ Twice L l) : ∀ i, i < 8 * l → ∀ j, j < 8 * l → i ≠ j → (objF k R L l fl i).a ≠ (objF k R L l fl j).a := fun i hi j hj hij => by
  simp only [objF]
  rcases Nat.lt_or_ge i j with h | h
  · exact onc_frag_ne ht hj h
  · exact Ne.symm (onc_frag_ne ht hi (by omega))
theorem obj_in {n' : Nat} (k : Nat) (h40 : fl ≤ 40) (hsz : (l : Int) = 1 + (fl : Int) / 7) (hf : Frs L l n0) (ht : ¬ Twice L l) (hH : Has n' (8 * l) (wrt (objF k R L l fl) (8 * l)) (objF k R L l fl)) :
    ThIn n' (ovr (wrt (objF k R L l fl) (8 * l)) (adO L) V fl) k (modeO L l) (thO R fl L l V) := by
  have hix : ∀ s, s < fl → 8 * ((s + 1) / 7) + (1 + (s + 1) % 7) < 8 * l := fun s hs => by omega
  have had : ∀ s, s < fl → (objF k R L l fl (8 * ((s + 1) / 7) + (1 + (s + 1) % 7))).a = (adO L s : Int) := fun s hs => by
    rw [(objF_at k R L l fl ((s + 1) / 7) (1 + (s + 1) % 7) (by omega)).1]
    have := (hf ((s + 1) / 7) (by omega)).1
    unfold adO
    omega
  have hd := obj_ne (R := R) (fl := fl) (k : Int) ht
  refine ⟨?_, (fun h => by cases h), (fun h => by cases h), (fun h => by simp [thO] at h), (fun h => by simp [thO] at h), fun j h1 h2 _ => ?_, fun s hs hr => ?_⟩
  · obtain ⟨a, h1, h2, h3⟩ := ovr_keep (V := V) (K := fl) hH hd hix had (i := 8 * 0 + 1) (by omega) (fun s hs _ => by omega)
    rw [(objF_at k R L l fl 0 1 (by omega)).1] at h2
    rw [(objF_at k R L l fl 0 1 (by omega)).2] at h3
    exact ⟨a, h1, h2, h3⟩
  · have h2' : j < l := h2
    obtain ⟨a, h3, h4, h5⟩ := ovr_keep (V := V) (K := fl) hH hd hix had (i := 8 * (j - 1) + 0) (by omega) (fun s hs _ => by omega)
    rw [(objF_at k R L l fl (j - 1) 0 (by omega)).1] at h4
    rw [(objF_at k R L l fl (j - 1) 0 (by omega)).2] at h5
    refine ⟨a, h3, by simpa [Th.lk, thO] using h4, ?_⟩
    rw [h5]
    unfold objW refAt
    rw [if_pos rfl, if_pos (by omega), show j - 1 + 1 = j by omega]
    rfl
  · have hs' : s < fl := hs
    obtain ⟨a, h3, h4, h5⟩ := ovr_slot (V := V) hH hd hix had (fun s1 _ t1 _ q => by omega) hs' (by
      rw [(objF_at k R L l fl ((s + 1) / 7) (1 + (s + 1) % 7) (by omega)).2]
      unfold objW
      have hr' : R s = true := hr
      rw [if_neg (by omega), if_neg (by omega), if_pos (by omega), show 7 * ((s + 1) / 7) + (1 + (s + 1) % 7) - 2 = s by omega, hr']
      rfl)
    rw [(objF_at k R L l fl ((s + 1) / 7) (1 + (s + 1) % 7) (by omega)).1] at h4
    exact ⟨a, h3, h4, h5⟩
theorem arr_ne {at' : Int} (k : Int) (hf : Frs L l n0) (ht : ¬ Twice L l) (hF : modeA n L l = 1 → Fit n0 n1 at' (l + 1)) : ∀ i, i < 8 * l + spN n L l → ∀ j, j < 8 * l + spN n L l → i ≠ j → (arrF k n (modeA n L l) R L l at' i).a ≠ (arrF k n (modeA n L l) R L l at' j).a := by
  have hlo : ∀ i, i < 8 * l → (arrF k n (modeA n L l) R L l at' i).a = L (i / 8) * 8 + ((i % 8 : Nat) : Int) := fun i hi => by
    unfold arrF
    rw [if_pos (by omega)]
  have hhi : ∀ i, 8 * l ≤ i → (arrF k n (modeA n L l) R L l at' i).a = at' + ((i - 8 * l : Nat) : Int) := fun i hi => by
    unfold arrF
    rw [if_neg (by omega), show i - l * 8 = i - 8 * l by omega]
  have hsp : ∀ i, 8 * l ≤ i → i < 8 * l + spN n L l → Fit n0 n1 at' (l + 1) := fun i h1 h2 => by
    unfold spN at h2
    split at h2
    · rename_i q; exact hF q
    · omega
  have hb : ∀ i, i < 8 * l → L (i / 8) * 8 + ((i % 8 : Nat) : Int) < 8 * n0 := fun i hi => by
    have := hf (i / 8) (by omega)
    omega
  intro i hi j hj hij
  by_cases q : i < 8 * l
  · by_cases q2 : j < 8 * l
    · rw [hlo i q, hlo j q2]
      rcases Nat.lt_or_ge i j with h | h
      · exact onc_frag_ne ht q2 h
      · exact Ne.symm (onc_frag_ne ht q (by omega))
    · have h1 := hb i q
      have h2 := hsp j (by omega) hj
      rw [hlo i q, hhi j (by omega)]
      rcases h2 with r | r <;> omega
  · by_cases q2 : j < 8 * l
    · have h1 := hb j q2
      have h2 := hsp i (by omega) hi
      rw [hlo j q2, hhi i (by omega)]
      rcases h2 with r | r <;> omega
    · rw [hhi i (by omega), hhi j (by omega)]
      omega
theorem arr_in {n' : Nat} {at' : Int} (k : Nat) (hn : 0 ≤ n ∧ n ≤ 512) (hsz : (l : Int) = 1 + dat n) (hf : Frs L l n0) (ht : ¬ Twice L l) (hF : modeA n L l = 1 → Fit n0 n1 at' (l + 1)) (hH : Has n' (8 * l + spN n L l) (wrt (arrF k n (modeA n L l) R L l at') (8 * l + spN n L l)) (arrF k n (modeA n L l) R L l at')) :
    ThIn n' (ovr (wrt (arrF k n (modeA n L l) R L l at') (8 * l + spN n L l)) (adA L) V n.toNat) k 0 (thA R L l n at' V) := by
  have hdl : dat n = (n + 7) / 8 ∨ n = 0 := by
    by_cases q : n = 0
    · exact .inr q
    · exact .inl (by unfold dat; rw [if_neg (by omega)])
  have hd0 := dat_lo n
  have hsl : ∀ s, s < n.toNat → 1 + s / 8 < l := fun s hs => by omega
  have hix : ∀ s, s < n.toNat → 8 * (1 + s / 8) + s % 8 < 8 * l + spN n L l := fun s hs => by have := hsl s hs; omega
  have had : ∀ s, s < n.toNat → (arrF k n (modeA n L l) R L l at' (8 * (1 + s / 8) + s % 8)).a = (adA L s : Int) := fun s hs => by
    rw [(arrF_at k n (modeA n L l) R L l at' (1 + s / 8) (s % 8) (hsl s hs) (by omega)).1]
    have := (hf (1 + s / 8) (hsl s hs)).1
    unfold adA
    omega
  have hd := arr_ne (R := R) (k : Int) hf ht hF
  have keep : ∀ i, i < 8 * l + spN n L l → (∀ s, s < n.toNat → 8 * (1 + s / 8) + s % 8 ≠ i) → ∃ a : Nat, a < n' ∧ (arrF k n (modeA n L l) R L l at' i).a = a ∧ ovr (wrt (arrF k n (modeA n L l) R L l at') (8 * l + spN n L l)) (adA L) V n.toNat a = (arrF k n (modeA n L l) R L l at' i).z := fun i hi hne =>
    ovr_keep hH hd hix had hi (fun s hs _ => hne s hs)
  have head : ∀ c : Nat, c < 8 → ∃ a : Nat, a < n' ∧ L 0 * 8 + (c : Int) = a ∧ ovr (wrt (arrF k n (modeA n L l) R L l at') (8 * l + spN n L l)) (adA L) V n.toNat a = sentW k n (modeA n L l) L l at' c := fun c hc => by
    obtain ⟨a, h1, h2, h3⟩ := keep (8 * 0 + c) (by omega) (fun s hs => by omega)
    rw [(arrF_at k n (modeA n L l) R L l at' 0 c (by omega) hc).1] at h2
    rw [(arrF_at k n (modeA n L l) R L l at' 0 c (by omega) hc).2] at h3
    exact ⟨a, h1, h2, h3⟩
  have m01 := modeA_range (n := n) (L := L) (l := l)
  refine ⟨?_, fun _ => ?_, fun _ _ => ?_, fun h => ?_, fun h => ?_, fun j h1 h2 h3 => ?_, fun s hs hr => ?_⟩
  · exact head 1 (by omega)
  · exact head 2 (by omega)
  · exact head 3 (by omega)
  · have h' : modeA n L l = 1 := h
    obtain ⟨a, h1, h2, h3⟩ := head 4 (by omega)
    refine ⟨a, h1, h2, ?_⟩
    rw [h3]
    simp only [thA, whA]
    rw [if_pos h', h']
    rfl
  · have h' : modeA n L l = 2 := h
    obtain ⟨a, h1, h2, h3⟩ := head 4 (by omega)
    refine ⟨a, h1, h2, ?_⟩
    rw [h3]
    simp only [thA, whA]
    rw [if_neg (by omega), if_pos h', h']
    have hd4 := (modeA_two h').2
    unfold sentW refAt
    rw [if_neg (by omega), if_neg (by omega), if_neg (by omega), if_neg (by omega), if_neg (by omega), if_pos rfl, if_neg (by omega), if_pos (by omega)]
  · have h2' : j < l := h2
    have h3' : modeA n L l ≠ 2 := h3
    by_cases h4 : modeA n L l = 0
    · have hd4 := modeA_zero.2 h4
      obtain ⟨a, h5, h6, h7⟩ := head (4 + (j - 1)) (by omega)
      refine ⟨a, h5, ?_, ?_⟩
      · simp only [Th.lk, thA, h4, Bool.true_eq_false, if_false, if_true]
        omega
      · rw [h7, h4]
        unfold sentW refAt
        rw [if_neg (by omega), if_neg (by omega), if_neg (by omega), if_neg (by omega), if_pos rfl, if_pos (by omega), show 4 + (j - 1) - 3 = j by omega]
        rfl
    · have h5 : modeA n L l = 1 := by omega
      have hsn : spN n L l = l + 1 := by unfold spN; rw [if_pos h5]
      obtain ⟨a, h6, h7, h8⟩ := keep (8 * l + (2 + (j - 1))) (by omega) (fun s hs => by have := hsl s hs; omega)
      rw [(arrF_sp k n (modeA n L l) R L l at' (2 + (j - 1))).1] at h7
      rw [(arrF_sp k n (modeA n L l) R L l at' (2 + (j - 1))).2] at h8
      refine ⟨a, h6, ?_, ?_⟩
      · have : ¬ modeA n L l = 0 := h4
        simp only [Th.lk, thA, whA, h5, Bool.true_eq_false, if_false, if_true]
        omega
      · rw [h8]
        unfold spW
        rw [if_neg (by omega), if_neg (by omega), show 2 + (j - 1) - 1 = j by omega]
        rfl
  · have hs' : s < n.toNat := hs
    have hr' : R 0 = true := hr
    obtain ⟨a, h3, h4, h5⟩ := ovr_slot (V := V) hH hd hix had (fun s1 _ t1 _ q => by omega) hs' (by
      rw [(arrF_at k n (modeA n L l) R L l at' (1 + s / 8) (s % 8) (hsl s hs') (by omega)).2]
      unfold arrW
      rw [if_neg (by omega), hr']
      rfl)
    rw [(arrF_at k n (modeA n L l) R L l at' (1 + s / 8) (s % 8) (hsl s hs') (by omega)).1] at h4
    exact ⟨a, h3, h4, h5⟩
end
end Go.Proofs.YtpdclckgnajcdaaGreat
