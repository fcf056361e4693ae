/-
  A space that is sound: what is free, kept and used; what one that is granted is.
-/
import Derived.Test.YtiigmmmhhpdmdaaPlain21
namespace Go.Proofs.Ytiigmmmhhpdmdaa
open Go.RowKit

theorem bd_tick {S : Sp} {k : Nat} (h : S.Bd k) : S.tick.Bd (k + 1) :=
  ⟨by have := h.c0; simp [Sp.tick]; omega, by have := h.c1; simp [Sp.tick]; omega, by have := h.len; show S.E.length ≤ _; omega, fun e he => by have := h.cyc e he; omega, h.pos⟩
theorem Sp.Bd.like {S S' : Sp} {k : Nat} (h : S.Bd k) (e1 : S'.ct = S.ct) (e2 : S'.E = S.E) : S'.Bd k := ⟨e1 ▸ h.c0, e1 ▸ h.c1, e2 ▸ h.len, e2 ▸ h.cyc, e2 ▸ h.pos⟩
theorem may_pos {S : Sp} {t fr sp : Int} (h : S.may t fr sp = true) : 0 ≤ t ∧ t < S.m ∧ 1 ≤ fr ∧ 0 ≤ sp ∧ S.of t = none := by
  simp only [Sp.may, Sp.isT, Bool.and_eq_true, decide_eq_true_eq, Bool.not_eq_true', Option.isSome_eq_false_iff, Option.isNone_iff_eq_none] at h
  exact ⟨h.1.1.1.1, h.1.1.1.2, h.1.1.2, h.1.2, h.2⟩
theorem bd_ask {S : Sp} {k : Nat} (h : S.Bd k) (t fr sp : Int) (se : Bool) : (S.ask t fr sp se).Bd (k + 1) := by
  have ht := bd_tick h
  unfold Sp.ask
  split
  · rename_i hm
    have hp := may_pos hm
    split
    · exact ht.like rfl rfl
    · split
      · exact ht.like rfl rfl
      · refine ⟨ht.c0, ht.c1, ?_, fun e he => ?_, fun e he => ?_⟩
        · have := h.len
          simp [Sp.addE, Sp.tick]; omega
        · rcases List.mem_append.1 he with he | he
          · exact ht.cyc e he
          · simp at he; subst he; simp [newEnt]; omega
        · rcases List.mem_append.1 he with he | he
          · exact ht.pos e he
          · simp at he; subst he; exact ⟨hp.2.2.1, hp.2.2.2.1⟩
  · exact ht
structure Snd (S : Sp) : Prop where
  st : ∀ j, j < S.n → (S.T j).s = 0 ∨ (S.T j).s = 1 ∨ (S.T j).s = 2
  fr : ∀ j, j < S.n → (S.F j = true ↔ (S.T j).s = 0)
  sk : ∀ i, i < S.m → ∀ x, x ∈ S.Q i → ∃ k : Nat, x = k ∧ k < S.n ∧ (S.T k).s = 1
  nd : ∀ i, i < S.m → (S.Q i).Nodup
  dj : ∀ i j, i < S.m → j < S.m → i ≠ j → ∀ x, x ∈ S.Q i → x ∉ S.Q j

theorem mem_cast {L : List Nat} {j : Nat} : ((j : Int) ∈ L.map fun x : Nat => (x : Int)) ↔ j ∈ L := by
  rw [List.mem_map]
  constructor
  · rintro ⟨x, hx, e⟩
    obtain rfl : x = j := by omega
    exact hx
  · intro h; exact ⟨j, h, rfl⟩
theorem nodup_cast {L : List Nat} (h : L.Nodup) : (L.map fun x : Nat => (x : Int)).Nodup := by
  rw [List.Nodup, List.pairwise_map]
  exact h.imp fun h e => h (by omega)

section
variable {S : Sp}
theorem Snd.like {S' : Sp} (h : Snd S) (e1 : S'.n = S.n) (e2 : S'.T = S.T) (e3 : S'.F = S.F) (e4 : S'.m = S.m) (e5 : S'.Q = S.Q) : Snd S' := by
  obtain ⟨n', T', F', E', K', m', most', Q', fo', ct'⟩ := S'
  simp only at e1 e2 e3 e4 e5
  subst e1 e2 e3 e4 e5
  exact ⟨h.st, h.fr, h.sk, h.nd, h.dj⟩
theorem Snd.new (n s m ch : Nat) : Snd (Sp.new n s m ch) :=
  ⟨fun j _ => .inl rfl, fun j _ => by simp [Sp.new, F1, T0], fun i _ x h => by simp [Sp.new] at h, fun i _ => by simp [Sp.new], fun i j _ _ _ x h => by simp [Sp.new] at h⟩
theorem Snd.tk (h : Snd S) (fr sp : Int) (se : Bool) (ht : takeB S.n S.F fr = true) : Snd (S.tk fr sp se) := by
  obtain ⟨t1, t2, t3⟩ := takeL_ok ht
  have hT : ∀ j, j < S.n → (S.tk fr sp se).T j = if j ∈ takeL S.n S.F fr then ⟨2, false, se⟩ else S.T j := fun j hj => by
    show useT S.n 2 se S.T (takeZ S.n S.F fr) j = _
    rw [useT_at rfl _ _ hj]
    simp only [takeZ, mem_cast]
  have hF : ∀ j, (S.tk fr sp se).F j = (S.F j && !(takeL S.n S.F fr).contains j) := fun _ => rfl
  refine ⟨fun j hj => ?_, fun j hj => ?_, fun i hi x hx => ?_, h.nd, h.dj⟩
  · rw [hT j hj]
    split
    · exact .inr (.inr rfl)
    · exact h.st j hj
  · rw [hT j hj, hF j]
    split
    · rename_i hm
      simp [hm]
    · rename_i hm
      simp [hm]
      exact h.fr j hj
  · obtain ⟨k, e, hk, hs⟩ := h.sk i hi x hx
    refine ⟨k, e, hk, ?_⟩
    rw [hT k hk, if_neg]
    · exact hs
    · intro hm
      have := (h.fr k hk).1 (t2 k hm).2
      omega
theorem Snd.fill (h : Snd S) (i : Nat) (hi : i < S.m) : Snd (S.fill i) := by
  obtain ⟨t1, t2, _⟩ := lowL_ok (n := S.n) (F := S.F) (k := (S.most : Int) - ((S.Q i).length : Int))
  have hT : ∀ j, j < S.n → (S.fill i).T j = if j ∈ S.lw i then ⟨1, false, false⟩ else S.T j := fun j hj => by
    show useT S.n 1 false S.T (S.lwZ i) j = _
    rw [useT_at rfl _ _ hj]
    simp only [Sp.lwZ, mem_cast]
  have hF : ∀ j, (S.fill i).F j = (S.F j && !(S.lw i).contains j) := fun _ => rfl
  have hQ : ∀ j, (S.fill i).Q j = if j = i then S.Q i ++ S.lwZ i else S.Q j := fun _ => rfl
  have t0 : ∀ k, k ∈ S.lw i → k < S.n ∧ (S.T k).s = 0 := fun k hk => ⟨(t2 k hk).1, (h.fr k (t2 k hk).1).1 (t2 k hk).2⟩
  have old : ∀ k, k < S.n → (S.T k).s = 1 → (S.fill i).T k = S.T k := fun k hk hs => by
    rw [hT k hk, if_neg]
    intro hm
    have := (t0 k hm).2
    omega
  refine ⟨fun j hj => ?_, fun j hj => ?_, fun q hq x hx => ?_, fun q hq => ?_, fun q r hq hr hne x hx => ?_⟩
  · rw [hT j hj]
    split
    · exact .inr (.inl rfl)
    · exact h.st j hj
  · rw [hT j hj, hF j]
    split
    · rename_i hm
      simp [hm]
    · rename_i hm
      simp [hm]
      exact h.fr j hj
  · rw [hQ q] at hx
    have go : x ∈ S.Q q → ∃ k : Nat, x = k ∧ k < S.n ∧ ((S.fill i).T k).s = 1 := fun hx => by
      obtain ⟨k, e, hk, hs⟩ := h.sk q hq x hx
      exact ⟨k, e, hk, by rw [old k hk hs]; exact hs⟩
    split at hx
    · rename_i e
      rcases List.mem_append.1 hx with hx | hx
      · exact go (e ▸ hx)
      · simp only [Sp.lwZ, List.mem_map] at hx
        obtain ⟨k, hk, rfl⟩ := hx
        exact ⟨k, rfl, (t2 k hk).1, by rw [hT k (t2 k hk).1, if_pos hk]⟩
    · exact go hx
  · rw [hQ q]
    split
    · rw [List.nodup_append]
      refine ⟨h.nd i hi, nodup_cast t1, fun a ha b hb e => ?_⟩
      subst e
      obtain ⟨k, e, hk, hs⟩ := h.sk i hi a ha
      subst e
      rw [Sp.lwZ, mem_cast] at hb
      have := (t0 k hb).2
      omega
    · exact h.nd q hq
  · rw [hQ q] at hx
    rw [hQ r]
    have nl : ∀ y, ∀ p, p < S.m → y ∈ S.Q p → y ∉ S.lwZ i := fun y p hp hy hb => by
      obtain ⟨k, e, hk, hs⟩ := h.sk p hp y hy
      subst e
      rw [Sp.lwZ, mem_cast] at hb
      have := (t0 k hb).2
      omega
    split at hx
    · rename_i e
      subst e
      rw [if_neg (Ne.symm hne)]
      rcases List.mem_append.1 hx with hx | hx
      · exact h.dj q r hq hr hne x hx
      · exact fun hy => nl x r hr hy hx
    · split
      · rename_i e
        subst e
        intro hy
        rcases List.mem_append.1 hy with hy | hy
        · exact h.dj q r hq hr hne x hx hy
        · exact nl x q hq hx hy
      · exact h.dj q r hq hr hne x hx
theorem Snd.takeS (h : Snd S) (i : Nat) (hi : i < S.m) (k : Int) (se : Bool) : Snd (S.takeS i k se) := by
  have hsub : ∀ x, x ∈ (S.Q i).take k.toNat → x ∈ S.Q i := fun x hx => List.mem_of_mem_take hx
  have hT : ∀ j, j < S.n → (S.takeS i k se).T j = if (j : Int) ∈ (S.Q i).take k.toNat then ⟨2, false, se⟩ else S.T j := fun j hj => by
    show useT S.n 2 se S.T ((S.Q ((i : Int).toNat)).take k.toNat) j = _
    rw [useT_at rfl _ _ hj, Int.toNat_natCast]
  have hQ : ∀ j, (S.takeS i k se).Q j = if j = i then (S.Q i).drop k.toNat else S.Q j := fun j => by
    show (if j = (i : Int).toNat then (S.Q ((i : Int).toNat)).drop k.toNat else S.Q j) = _
    rw [Int.toNat_natCast]
  refine ⟨fun j hj => ?_, fun j hj => ?_, fun q hq x hx => ?_, fun q hq => ?_, fun q r hq hr hne x hx => ?_⟩
  · rw [hT j hj]
    split
    · exact .inr (.inr rfl)
    · exact h.st j hj
  · rw [hT j hj]
    split
    · rename_i hm
      obtain ⟨k', e, hk, hs⟩ := h.sk i hi _ (hsub _ hm)
      obtain rfl : j = k' := by omega
      constructor
      · intro hf
        have := (h.fr j hj).1 hf
        omega
      · intro hf; cases hf
    · exact h.fr j hj
  · rw [hQ q] at hx
    have hx0 : x ∈ S.Q q := by
      split at hx
      · rename_i e; rw [e]; exact List.mem_of_mem_drop hx
      · exact hx
    obtain ⟨k', e, hk, hs⟩ := h.sk q hq x hx0
    refine ⟨k', e, hk, ?_⟩
    rw [hT k' hk, if_neg]
    · exact hs
    · intro hm
      rw [← e] at hm
      split at hx
      · have hn := h.nd i hi
        rw [← List.take_append_drop k.toNat (S.Q i), List.nodup_append] at hn
        exact hn.2.2 x hm x hx rfl
      · rename_i e2
        exact h.dj q i hq hi e2 x hx0 (hsub x hm)
  · rw [hQ q]
    split
    · exact (h.nd i hi).sublist (List.drop_sublist _ _)
    · exact h.nd q hq
  · rw [hQ q] at hx
    rw [hQ r]
    have hx0 : x ∈ S.Q q := by
      split at hx
      · rename_i e; rw [e]; exact List.mem_of_mem_drop hx
      · exact hx
    intro hy
    have hy0 : x ∈ S.Q r := by
      split at hy
      · rename_i e; rw [e]; exact List.mem_of_mem_drop hy
      · exact hy
    exact h.dj q r hq hr hne x hx0 hy0
theorem Snd.ask (h : Snd S) (t fr sp : Int) (se : Bool) : Snd (S.ask t fr sp se) := by
  have ht : Snd S.tick := h.like rfl rfl rfl rfl rfl
  unfold Sp.ask
  split
  · rename_i hm
    have hp := may_pos hm
    obtain ⟨i, rfl⟩ : ∃ i : Nat, t = i := ⟨t.toNat, by omega⟩
    have hi : i < S.m := by omega
    split
    · exact ht.takeS i hi fr se
    · split
      · rename_i hf
        simp only [Bool.and_eq_true] at hf
        exact Snd.fill (S := S.tick.tk fr sp se) (ht.tk fr sp se (fits_takes hf.2 hp.2.2.1 hp.2.2.2.1).1) _ (by rw [Int.toNat_natCast]; exact hi)
      · exact ht.like rfl rfl rfl rfl rfl
  · exact ht
/-- Another's colours. -/
theorem mark_s (n : Nat) (T : Nat → Fr) (i : Int) (s : Bool) (j : Nat) : (markT n T i s j).s = (T j).s := by
  unfold markT
  split
  · simp only
    split
    · rfl
    · rfl
  · rfl
theorem Snd.recolour {T : Nat → Fr} (h : Snd S) (e : ∀ j, (T j).s = (S.T j).s) : Snd { S with T := T } :=
  ⟨fun j hj => by rw [show (({ S with T := T } : Sp).T j).s = (S.T j).s from e j]; exact h.st j hj,
   fun j hj => by rw [show (({ S with T := T } : Sp).T j).s = (S.T j).s from e j]; exact h.fr j hj,
   fun i hi x hx => by
    obtain ⟨k, e1, e2, e3⟩ := h.sk i hi x hx
    exact ⟨k, e1, e2, (e k).trans e3⟩, h.nd, h.dj⟩
/-- What is granted for one is one that is used, or nothing. -/
theorem Snd.one (h : Snd S) (hm : 1 ≤ S.m) : ((S.askG 0 1 0).st = 1 ∧ ∃ k : Nat, (S.askG 0 1 0).G = [(k : Int)] ∧ k < S.n ∧ stt S.n (S.ask 0 1 0 true).T k = 2) ∨ S.askG 0 1 0 = ⟨0, [], -1⟩ ∨ S.askG 0 1 0 = ⟨3, [], -1⟩ := by
  have ht : Snd S.tick := h.like rfl rfl rfl rfl rfl
  unfold Sp.askG Sp.ask
  by_cases hy : S.may 0 1 0 = true
  · rw [if_pos hy, if_pos hy]
    by_cases h1 : ((0 : Int) == 0 && decide ((1 : Int) ≤ ((S.Q (0 : Int).toNat).length : Int))) = true
    · rw [if_pos h1, if_pos h1]
      refine .inl ⟨rfl, ?_⟩
      have hl : 1 ≤ (S.Q 0).length := by
        simp at h1
        omega
      obtain ⟨x, L, hL⟩ : ∃ x L, S.Q 0 = x :: L := by
        cases hq : S.Q 0 with
        | nil => rw [hq] at hl; simp at hl
        | cons x L => exact ⟨x, L, rfl⟩
      obtain ⟨k, e1, e2, _⟩ := h.sk 0 (by omega) x (by rw [hL]; simp)
      refine ⟨k, ?_, e2, ?_⟩
      · show (S.Q 0).take 1 = _
        rw [hL, ← e1]
        rfl
      · have hT : (S.tick.takeS 0 1 true).T k = if (k : Int) ∈ (S.Q 0).take 1 then ⟨2, false, true⟩ else S.T k := by
          show useT S.n 2 true S.T ((S.Q 0).take 1) k = _
          rw [useT_at rfl _ _ e2]
        show stt S.n (S.tick.takeS 0 1 true).T k = 2
        unfold stt
        rw [tinn_of e2, if_pos rfl, Int.toNat_natCast, hT, hL, ← e1]
        simp
    · rw [if_neg h1, if_neg h1]
      by_cases h2 : (decide ((wts S.E).length = 0) && fitsB S 1 0) = true
      · rw [if_pos h2, if_pos h2]
        refine .inl ⟨rfl, ?_⟩
        simp only [Bool.and_eq_true] at h2
        have ht2 : takeB S.n S.F 1 = true := (fits_takes h2.2 (by decide) (by decide)).1
        obtain ⟨t1, t2, t3⟩ := takeL_ok ht2
        have hlen : (takeL S.n S.F 1).length = 1 := by omega
        obtain ⟨k, hk⟩ : ∃ k, takeL S.n S.F 1 = [k] := List.length_eq_one_iff.1 hlen
        have hkn := t2 k (by rw [hk]; simp)
        refine ⟨k, ?_, hkn.1, ?_⟩
        · show takeZ S.n S.F 1 = _
          unfold takeZ
          rw [hk]
          rfl
        · have hT : (S.tick.tk 1 0 true).T k = ⟨2, false, true⟩ := by
            show useT S.n 2 true S.T (takeZ S.n S.F 1) k = _
            rw [useT_at rfl _ _ hkn.1, if_pos]
            simp only [takeZ, mem_cast, hk]
            simp
          have hF : (S.tick.tk 1 0 true).F k = false := by
            show (S.F k && !(takeL S.n S.F 1).contains k) = false
            rw [hk]
            simp
          obtain ⟨u1, u2, _⟩ := lowL_ok (n := S.n) (F := (S.tick.tk 1 0 true).F) (k := (S.most : Int) - ((S.Q 0).length : Int))
          have hnl : k ∉ (S.tick.tk 1 0 true).lw 0 := fun hm => by
            have := (u2 k hm).2
            rw [hF] at this
            cases this
          show stt S.n ((S.tick.tk 1 0 true).fill 0).T k = 2
          have hT2 : ((S.tick.tk 1 0 true).fill 0).T k = (S.tick.tk 1 0 true).T k := by
            show useT S.n 1 false (S.tick.tk 1 0 true).T ((S.tick.tk 1 0 true).lwZ 0) k = _
            rw [useT_at rfl _ _ hkn.1, if_neg]
            simp only [Sp.lwZ, mem_cast]
            exact hnl
          unfold stt
          rw [tinn_of hkn.1, if_pos rfl, Int.toNat_natCast, hT2, hT]
      · rw [if_neg h2]
        exact .inr (.inl rfl)
  · rw [if_neg hy]
    exact .inr (.inr rfl)
end
end Go.Proofs.Ytiigmmmhhpdmdaa
