/-
  A space that is sound: what is free, kept and used.
-/
import Derived.Test.YtahpnnjemjjfhaaLw21
namespace Go.Proofs.Ytahpnnjemjjfhaa
open Go.RowKit

structure Snd (S : Sp) : Prop where
  st : ∀ j, j < S.n → (S.T j).s = 0 ∨ (S.T j).s = 1 ∨ (S.T j).s = 2
  fr : ∀ j, j < S.n → (S.F j = true ↔ (S.T j).s = 0)
  sk : ∀ i, i < S.m → ∀ x, x ∈ S.Q i → ∃ k : Nat, x = k ∧ k < S.n ∧ (S.T k).s = 1
  nd : ∀ i, i < S.m → (S.Q i).Nodup
  dj : ∀ i j, i < S.m → j < S.m → i ≠ j → ∀ x, x ∈ S.Q i → x ∉ S.Q j

theorem mem_cast {L : List Nat} {j : Nat} : ((j : Int) ∈ L.map fun x : Nat => (x : Int)) ↔ j ∈ L := by
  rw [List.mem_map]
  constructor
  · rintro ⟨x, hx, e⟩
    obtain rfl : x = j := by omega
    exact hx
  · intro h; exact ⟨j, h, rfl⟩
theorem nodup_cast {L : List Nat} (h : L.Nodup) : (L.map fun x : Nat => (x : Int)).Nodup := by
  rw [List.Nodup, List.pairwise_map]
  exact h.imp fun h e => h (by omega)

section
variable {S : Sp}
theorem Snd.like {S' : Sp} (h : Snd S) (e1 : S'.n = S.n) (e2 : S'.T = S.T) (e3 : S'.F = S.F) (e4 : S'.m = S.m) (e5 : S'.Q = S.Q) : Snd S' := by
  obtain ⟨n', T', F', E', K', m', most', Q', fo', ct'⟩ := S'
  simp only at e1 e2 e3 e4 e5
  subst e1 e2 e3 e4 e5
  exact ⟨h.st, h.fr, h.sk, h.nd, h.dj⟩
theorem Snd.new (n s m ch : Nat) : Snd (Sp.new n s m ch) :=
  ⟨fun j _ => .inl rfl, fun j _ => by simp [Sp.new, F1, T0], fun i _ x h => by simp [Sp.new] at h, fun i _ => by simp [Sp.new], fun i j _ _ _ x h => by simp [Sp.new] at h⟩
theorem Snd.tk (h : Snd S) (fr sp : Int) (se : Bool) (ht : takeB S.n S.F fr = true) : Snd (S.tk fr sp se) := by
  obtain ⟨t1, t2, t3⟩ := takeL_ok ht
  have hT : ∀ j, j < S.n → (S.tk fr sp se).T j = if j ∈ takeL S.n S.F fr then ⟨2, false, se⟩ else S.T j := fun j hj => by
    show useT S.n 2 se S.T (takeZ S.n S.F fr) j = _
    rw [useT_at rfl _ _ hj]
    simp only [takeZ, mem_cast]
  have hF : ∀ j, (S.tk fr sp se).F j = (S.F j && !(takeL S.n S.F fr).contains j) := fun _ => rfl
  refine ⟨fun j hj => ?_, fun j hj => ?_, fun i hi x hx => ?_, h.nd, h.dj⟩
  · rw [hT j hj]
    split
    · exact .inr (.inr rfl)
    · exact h.st j hj
  · rw [hT j hj, hF j]
    split
    · rename_i hm
      simp [hm]
    · rename_i hm
      simp [hm]
      exact h.fr j hj
  · obtain ⟨k, e, hk, hs⟩ := h.sk i hi x hx
    refine ⟨k, e, hk, ?_⟩
    rw [hT k hk, if_neg]
    · exact hs
    · intro hm
      have := (h.fr k hk).1 (t2 k hm).2
      omega
theorem Snd.fill (h : Snd S) (i : Nat) (hi : i < S.m) : Snd (S.fill i) := by
  obtain ⟨t1, t2, _⟩ := lowL_ok (n := S.n) (F := S.F) (k := (S.most : Int) - ((S.Q i).length : Int))
  have hT : ∀ j, j < S.n → (S.fill i).T j = if j ∈ S.lw i then ⟨1, false, false⟩ else S.T j := fun j hj => by
    show useT S.n 1 false S.T (S.lwZ i) j = _
    rw [useT_at rfl _ _ hj]
    simp only [Sp.lwZ, mem_cast]
  have hF : ∀ j, (S.fill i).F j = (S.F j && !(S.lw i).contains j) := fun _ => rfl
  have hQ : ∀ j, (S.fill i).Q j = if j = i then S.Q i ++ S.lwZ i else S.Q j := fun _ => rfl
  have t0 : ∀ k, k ∈ S.lw i → k < S.n ∧ (S.T k).s = 0 := fun k hk => ⟨(t2 k hk).1, (h.fr k (t2 k hk).1).1 (t2 k hk).2⟩
  have old : ∀ k, k < S.n → (S.T k).s = 1 → (S.fill i).T k = S.T k := fun k hk hs => by
    rw [hT k hk, if_neg]
    intro hm
    have := (t0 k hm).2
    omega
  refine ⟨fun j hj => ?_, fun j hj => ?_, fun q hq x hx => ?_, fun q hq => ?_, fun q r hq hr hne x hx => ?_⟩
  · rw [hT j hj]
    split
    · exact .inr (.inl rfl)
    · exact h.st j hj
  · rw [hT j hj, hF j]
    split
    · rename_i hm
      simp [hm]
    · rename_i hm
      simp [hm]
      exact h.fr j hj
  · rw [hQ q] at hx
    have go : x ∈ S.Q q → ∃ k : Nat, x = k ∧ k < S.n ∧ ((S.fill i).T k).s = 1 := fun hx => by
      obtain ⟨k, e, hk, hs⟩ := h.sk q hq x hx
      exact ⟨k, e, hk, by rw [old k hk hs]; exact hs⟩
    split at hx
    · rename_i e
      rcases List.mem_append.1 hx with hx | hx
      · exact go (e ▸ hx)
      · simp only [Sp.lwZ, List.mem_map] at hx
        obtain ⟨k, hk, rfl⟩ := hx
        exact ⟨k, rfl, (t2 k hk).1, by rw [hT k (t2 k hk).1, if_pos hk]⟩
    · exact go hx
  · rw [hQ q]
    split
    · rw [List.nodup_append]
      refine ⟨h.nd i hi, nodup_cast t1, fun a ha b hb e => ?_⟩
      subst e
      obtain ⟨k, e, hk, hs⟩ := h.sk i hi a ha
      subst e
      rw [Sp.lwZ, mem_cast] at hb
      have := (t0 k hb).2
      omega
    · exact h.nd q hq
  · rw [hQ q] at hx
    rw [hQ r]
    have nl : ∀ y, ∀ p, p < S.m → y ∈ S.Q p → y ∉ S.lwZ i := fun y p hp hy hb => by
      obtain ⟨k, e, hk, hs⟩ := h.sk p hp y hy
      subst e
      rw [Sp.lwZ, mem_cast] at hb
      have := (t0 k hb).2
      omega
    split at hx
    · rename_i e
      subst e
      rw [if_neg (Ne.symm hne)]
      rcases List.mem_append.1 hx with hx | hx
      · exact h.dj q r hq hr hne x hx
      · exact fun hy => nl x r hr hy hx
    · split
      · rename_i e
        subst e
        intro hy
        rcases List.mem_append.1 hy with hy | hy
        · exact h.dj q r hq hr hne x hx hy
        · exact nl x q hq hx hy
      · exact h.dj q r hq hr hne x hx
theorem Snd.takeS (h : Snd S) (i : Nat) (hi : i < S.m) (k : Int) (se : Bool) : Snd (S.takeS i k se) := by
  have hsub : ∀ x, x ∈ (S.Q i).take k.toNat → x ∈ S.Q i := fun x hx => List.mem_of_mem_take hx
  have hT : ∀ j, j < S.n → (S.takeS i k se).T j = if (j : Int) ∈ (S.Q i).take k.toNat then ⟨2, false, se⟩ else S.T j := fun j hj => by
    show useT S.n 2 se S.T ((S.Q ((i : Int).toNat)).take k.toNat) j = _
    rw [useT_at rfl _ _ hj, Int.toNat_natCast]
  have hQ : ∀ j, (S.takeS i k se).Q j = if j = i then (S.Q i).drop k.toNat else S.Q j := fun j => by
    show (if j = (i : Int).toNat then (S.Q ((i : Int).toNat)).drop k.toNat else S.Q j) = _
    rw [Int.toNat_natCast]
  refine ⟨fun j hj => ?_, fun j hj => ?_, fun q hq x hx => ?_, fun q hq => ?_, fun q r hq hr hne x hx => ?_⟩
  · rw [hT j hj]
    split
    · exact .inr (.inr rfl)
    · exact h.st j hj
  · rw [hT j hj]
    split
    · rename_i hm
      obtain ⟨k', e, hk, hs⟩ := h.sk i hi _ (hsub _ hm)
      obtain rfl : j = k' := by omega
      constructor
      · intro hf
        have := (h.fr j hj).1 hf
        omega
      · intro hf; cases hf
    · exact h.fr j hj
  · rw [hQ q] at hx
    have hx0 : x ∈ S.Q q := by
      split at hx
      · rename_i e; rw [e]; exact List.mem_of_mem_drop hx
      · exact hx
    obtain ⟨k', e, hk, hs⟩ := h.sk q hq x hx0
    refine ⟨k', e, hk, ?_⟩
    rw [hT k' hk, if_neg]
    · exact hs
    · intro hm
      rw [← e] at hm
      split at hx
      · have hn := h.nd i hi
        rw [← List.take_append_drop k.toNat (S.Q i), List.nodup_append] at hn
        exact hn.2.2 x hm x hx rfl
      · rename_i e2
        exact h.dj q i hq hi e2 x hx0 (hsub x hm)
  · rw [hQ q]
    split
    · exact (h.nd i hi).sublist (List.drop_sublist _ _)
    · exact h.nd q hq
  · rw [hQ q] at hx
    rw [hQ r]
    have hx0 : x ∈ S.Q q := by
      split at hx
      · rename_i e; rw [e]; exact List.mem_of_mem_drop hx
      · exact hx
    intro hy
    have hy0 : x ∈ S.Q r := by
      split at hy
      · rename_i e; rw [e]; exact List.mem_of_mem_drop hy
      · exact hy
    exact h.dj q r hq hr hne x hx0 hy0
/-- One that lies in no stock is given back. -/
theorem Snd.fre (h : Snd S) (k : Nat) (hk : k < S.n) (hs : (S.T k).s ≠ 0) (hq : ∀ i, i < S.m → (k : Int) ∉ S.Q i) : Snd (S.fre k) := by
  have hf : S.F k = false := by
    cases e : S.F k
    · rfl
    · exact absurd ((h.fr k hk).1 e) hs
  have hT : ∀ j, (S.fre k).T j = if j = k then ⟨0, false, false⟩ else S.T j := fun j => setT_at rfl hk j
  have hF : ∀ j, (S.fre k).F j = if j = k then true else S.F j := fun j => giveF_at hk hf j
  refine ⟨fun j hj => ?_, fun j hj => ?_, fun i hi x hx => ?_, h.nd, h.dj⟩
  · rw [hT j]
    split
    · exact .inl rfl
    · exact h.st j hj
  · rw [hT j, hF j]
    split
    · simp
    · exact h.fr j hj
  · obtain ⟨k', e, hk', hs'⟩ := h.sk i hi x hx
    refine ⟨k', e, hk', ?_⟩
    rw [hT k', if_neg]
    · exact hs'
    · rintro rfl
      exact hq i hi (e ▸ hx)
theorem Snd.fres : ∀ (L : List Int) {S : Sp}, Snd S → L.Nodup → (∀ x, x ∈ L → ∃ k : Nat, x = k ∧ k < S.n ∧ (S.T k).s ≠ 0) → (∀ x, x ∈ L → ∀ i, i < S.m → x ∉ S.Q i) → Snd (S.fres L)
  | [], _, h, _, _, _ => h
  | x :: L, S, h, hn, hk, hq => by
    obtain ⟨k, rfl, hkn, hs⟩ := hk x (by simp)
    obtain ⟨h1, h2⟩ := List.nodup_cons.1 hn
    refine Snd.fres L (h.fre k hkn hs (hq k (by simp))) h2 (fun y hy => ?_) (fun y hy i hi => hq y (by simp [hy]) i hi)
    obtain ⟨k', e, hk', hs'⟩ := hk y (by simp [hy])
    refine ⟨k', e, hk', ?_⟩
    show (setT S.n S.T k 0 false false k').s ≠ 0
    rw [setT_at rfl hkn, if_neg]
    · exact hs'
    · rintro rfl
      exact h1 (e ▸ hy)
theorem Snd.drain (h : Snd S) (t : Int) : Snd (S.drain t) := by
  unfold Sp.drain
  split
  · rename_i ht
    simp only [Sp.isT, decide_eq_true_eq] at ht
    have hi : t.toNat < S.m := by omega
    refine Snd.fres _ (S := ({ S.tick with Q := fun j => if j = t.toNat then [] else S.Q j } : Sp)) ⟨h.st, h.fr, fun i hi' x hx => ?_, fun i hi' => ?_, fun i j h1 h2 h3 x hx => ?_⟩ (h.nd _ hi) (fun x hx => ?_) (fun x hx i hi' hy => ?_)
    · have hx : x ∈ (if i = t.toNat then [] else S.Q i) := hx
      split at hx
      · simp at hx
      · exact h.sk i hi' x hx
    · show (if i = t.toNat then [] else S.Q i).Nodup
      split
      · exact List.nodup_nil
      · exact h.nd i hi'
    · have hx : x ∈ (if i = t.toNat then [] else S.Q i) := hx
      show x ∉ (if j = t.toNat then [] else S.Q j)
      split at hx
      · simp at hx
      · split
        · simp
        · exact h.dj i j h1 h2 h3 x hx
    · obtain ⟨k, e, hk, hs⟩ := h.sk _ hi x hx
      exact ⟨k, e, hk, by show (S.T k).s ≠ 0; omega⟩
    · have hy : x ∈ (if i = t.toNat then [] else S.Q i) := hy
      split at hy
      · simp at hy
      · rename_i e
        exact h.dj i _ hi' hi e x hy hx
  · exact h.like rfl rfl rfl rfl rfl
theorem Snd.sweep (h : Snd S) (i : Int) (se : Bool) : Snd (S.sweep i se) := by
  unfold Sp.sweep
  split
  · rename_i hs
    simp only [Sp.sweeps, Bool.and_eq_true, beq_iff_eq, stt] at hs
    obtain ⟨hs, _⟩ := hs
    split at hs
    · rename_i hin
      obtain ⟨k, rfl, hk⟩ := tinn_iff hin
      rw [Int.toNat_natCast] at hs
      refine Snd.fre (S := S.tick) (h.like rfl rfl rfl rfl rfl) k hk (by show (S.T k).s ≠ 0; omega) fun q hq hx => ?_
      obtain ⟨k', e, _, hs'⟩ := h.sk q hq _ hx
      obtain rfl : k = k' := by omega
      omega
    · cases hs
  · exact h.like rfl rfl rfl rfl rfl
theorem Snd.ask (h : Snd S) (t fr sp : Int) (se : Bool) : Snd (S.ask t fr sp se) := by
  have ht : Snd S.tick := h.like rfl rfl rfl rfl rfl
  unfold Sp.ask
  split
  · rename_i hm
    have hp := may_pos hm
    obtain ⟨i, rfl⟩ : ∃ i : Nat, t = i := ⟨t.toNat, by omega⟩
    have hi : i < S.m := by omega
    split
    · exact ht.takeS i hi fr se
    · split
      · rename_i hf
        simp only [Bool.and_eq_true] at hf
        exact Snd.fill (S := S.tick.tk fr sp se) (ht.tk fr sp se (fits_takes hf.2 hp.2.2.1 hp.2.2.2.1).1) _ (by rw [Int.toNat_natCast]; exact hi)
      · exact ht.like rfl rfl rfl rfl rfl
  · exact ht
theorem Snd.serve (h : Snd S) {kb : Nat} (hb : S.Bd kb) (se : Bool) : Snd (S.serve se) := by
  have ht : Snd S.tick := h.like rfl rfl rfl rfl rfl
  unfold Sp.serve
  split
  · exact ht
  · rename_i e he
    have hm : e ∈ S.E := List.mem_of_find?_eq_some he
    have hp := hb.pos e hm
    split
    · rename_i hf
      exact (ht.tk e.fr e.sp se (fits_takes hf hp.1 hp.2).1).like rfl rfl rfl rfl rfl
    · split
      · exact ht.like rfl rfl rfl rfl rfl
      · exact ht
theorem Snd.look (h : Snd S) (t : Int) : Snd (S.look t) := by
  unfold Sp.look
  split
  · exact h.like rfl rfl rfl rfl rfl
  · split
    · exact h.like rfl rfl rfl rfl rfl
    · exact h.like rfl rfl rfl rfl rfl
end

/-! Counts. -/
theorem cnt_B (T : Nat → Fr) (s : Int) : ∀ n, cnt T s n = cntB (fun j => (T j).s == s) n
  | 0 => rfl
  | n + 1 => by simp [cnt, cntB, cnt_B T s n]
theorem cntB_add {F : Nat → Bool} {L : List Nat} {n : Nat} (hn : L.Nodup) (hm : ∀ x ∈ L, x < n ∧ F x = false) : cntB (fun j => F j || L.contains j) n = cntB F n + L.length := by
  have h := cntB_drop (F := fun j => F j || L.contains j) (n := n) hn (fun x hx => ⟨(hm x hx).1, by simp [hx]⟩)
  have e : cntB (dropF (fun j => F j || L.contains j) L) n = cntB F n := cntB_congr fun j hj => by
    by_cases q : j ∈ L
    · simp [dropF, q, (hm j q).2]
    · simp [dropF, q]
  omega
/-- Of L, all in the state y, each is set to z. -/
theorem cnt_use {n : Nat} {T : Nat → Fr} {L : List Nat} {y z : Int} {se : Bool} (hz : isSt z = true) (hyz : y ≠ z) (hn : L.Nodup) (hm : ∀ x ∈ L, x < n ∧ (T x).s = y) (s : Int) :
    cnt (useT n z se T (L.map fun x : Nat => (x : Int))) s n + (if s = y then L.length else 0) = cnt T s n + (if s = z then L.length else 0) := by
  rw [cnt_B, cnt_B]
  have hT : ∀ j, j < n → (useT n z se T (L.map fun x : Nat => (x : Int)) j).s = if j ∈ L then z else (T j).s := fun j hj => by
    rw [useT_at hz _ _ hj]
    simp only [mem_cast]
    split <;> rfl
  by_cases h1 : s = y
  · subst h1
    rw [if_pos rfl, if_neg hyz]
    have e : cntB (fun j => (useT n z se T (L.map fun x : Nat => (x : Int)) j).s == s) n = cntB (dropF (fun j => (T j).s == s) L) n := cntB_congr fun j hj => by
      rw [hT j hj]
      by_cases q : j ∈ L
      · simp [dropF, q]; omega
      · simp [dropF, q]
    rw [e, cntB_drop hn (fun x hx => ⟨(hm x hx).1, by simp [(hm x hx).2]⟩)]
    rfl
  · rw [if_neg h1]
    by_cases h2 : s = z
    · subst h2
      rw [if_pos rfl]
      have e : cntB (fun j => (useT n s se T (L.map fun x : Nat => (x : Int)) j).s == s) n = cntB (fun j => (T j).s == s || L.contains j) n := cntB_congr fun j hj => by
        rw [hT j hj]
        by_cases q : j ∈ L
        · simp [q]
        · simp [q]
      rw [e, cntB_add hn (fun x hx => ⟨(hm x hx).1, by simp [(hm x hx).2]; omega⟩)]
      omega
    · rw [if_neg h2]
      have e : cntB (fun j => (useT n z se T (L.map fun x : Nat => (x : Int)) j).s == s) n = cntB (fun j => (T j).s == s) n := cntB_congr fun j hj => by
        rw [hT j hj]
        by_cases q : j ∈ L
        · rw [if_pos q, (hm j q).2, Bool.eq_iff_iff]
          simp; omega
        · rw [if_neg q]
      rw [e]
theorem cnt_all {T : Nat → Fr} : ∀ {n : Nat}, (∀ j, j < n → (T j).s = 0 ∨ (T j).s = 1 ∨ (T j).s = 2) → cnt T 0 n + cnt T 1 n + cnt T 2 n = n
  | 0, _ => rfl
  | n + 1, h => by
    have ih := cnt_all (n := n) fun j hj => h j (by omega)
    rw [cnt_B, cnt_B, cnt_B] at *
    simp only [cntB]
    rcases h n (by omega) with e | e | e <;> simp [e] <;> omega
theorem Snd.free {S : Sp} (h : Snd S) : cntB S.F S.n = cnt S.T 0 S.n := by
  rw [cnt_B]
  exact cntB_congr fun j hj => by
    have := h.fr j hj
    rw [Bool.eq_iff_iff]
    simpa using this
end Go.Proofs.Ytahpnnjemjjfhaa
