/-
  What the law SpaceWhole asks of a space's calls.
-/
import Derived.Test.YtahpnnjemjjfhaaSnd21
namespace Go.Proofs.Ytahpnnjemjjfhaa
open Go.RowKit

section
variable {S : Sp}
/-- What is used stays used. -/
theorem tk_used (fr sp : Int) (se : Bool) {j : Nat} (hj : j < S.n) (h : (S.T j).s = 2) : ((S.tk fr sp se).T j).s = 2 := by
  show (useT S.n 2 se S.T (takeZ S.n S.F fr) j).s = 2
  rw [useT_at rfl _ _ hj]
  split
  · rfl
  · exact h
theorem fill_used (hs : Snd S) (i : Nat) {j : Nat} (hj : j < S.n) (h : (S.T j).s = 2) : ((S.fill i).T j).s = 2 := by
  show (useT S.n 1 false S.T (S.lwZ i) j).s = 2
  rw [useT_at rfl _ _ hj]
  split
  · rename_i hm
    obtain ⟨_, t2, _⟩ := lowL_ok (n := S.n) (F := S.F) (k := (S.most : Int) - ((S.Q i).length : Int))
    rw [Sp.lwZ, mem_cast] at hm
    have := (hs.fr j hj).1 (t2 j hm).2
    omega
  · exact h
theorem takeS_used (i : Int) (k : Int) (se : Bool) {j : Nat} (hj : j < S.n) (h : (S.T j).s = 2) : ((S.takeS i k se).T j).s = 2 := by
  show (useT S.n 2 se S.T _ j).s = 2
  rw [useT_at rfl _ _ hj]
  split
  · rfl
  · exact h
theorem ask_used (hs : Snd S) (t fr sp : Int) (se : Bool) {j : Nat} (hj : j < S.n) (h : (S.T j).s = 2) : ((S.ask t fr sp se).T j).s = 2 := by
  have ht : Snd S.tick := hs.like rfl rfl rfl rfl rfl
  unfold Sp.ask
  split
  · rename_i hm
    have hp := may_pos hm
    split
    · exact takeS_used (S := S.tick) t fr se hj h
    · split
      · rename_i hf
        simp only [Bool.and_eq_true] at hf
        exact fill_used (S := S.tick.tk fr sp se) (ht.tk fr sp se (fits_takes hf.2 hp.2.2.1 hp.2.2.2.1).1) _ hj (tk_used (S := S.tick) fr sp se hj h)
      · exact h
  · exact h
theorem serve_used (se : Bool) {j : Nat} (hj : j < S.n) (h : (S.T j).s = 2) : ((S.serve se).T j).s = 2 := by
  unfold Sp.serve
  split
  · exact h
  · rename_i e _
    split
    · exact tk_used (S := S.tick) e.fr e.sp se hj h
    · split
      · exact h
      · exact h
theorem drain_used (hs : Snd S) (t : Int) {j : Nat} (hj : j < S.n) (h : (S.T j).s = 2) : ((S.drain t).T j).s = 2 := by
  unfold Sp.drain
  split
  · rename_i ht
    simp only [Sp.isT, decide_eq_true_eq] at ht
    have e : ∀ (L : List Int) (S : Sp), (S.fres L).T = useT S.n 0 false S.T L := by
      intro L
      induction L with
      | nil => intro S; rfl
      | cons x L ih => intro S; exact ih (S.fre x)
    rw [e]
    show (useT S.n 0 false S.T (S.Q t.toNat) j).s = 2
    rw [useT_at rfl _ _ hj]
    split
    · rename_i hm
      obtain ⟨k, e, hk, h1⟩ := hs.sk t.toNat (by omega) _ hm
      obtain rfl : j = k := by omega
      omega
    · exact h
  · exact h
theorem look_T (t : Int) : (S.look t).T = S.T := by
  unfold Sp.look
  split
  · rfl
  · split <;> rfl
theorem look_sub (t : Int) : ∀ e, e ∈ (S.look t).E → e ∈ S.E := by
  unfold Sp.look
  split
  · exact fun e h => h
  · split
    · exact fun e h => h
    · exact fun e h => List.mem_of_mem_eraseIdx h
theorem look_n (t : Int) : (S.look t).n = S.n := by
  unfold Sp.look
  split
  · rfl
  · split <;> rfl
theorem ask_n (t fr sp : Int) (se : Bool) : (S.ask t fr sp se).n = S.n := by
  unfold Sp.ask
  split
  · split
    · rfl
    · split <;> rfl
  · rfl
theorem serve_n (se : Bool) : (S.serve se).n = S.n := by
  unfold Sp.serve
  split
  · rfl
  · split
    · rfl
    · split <;> rfl
theorem drain_n (t : Int) : (S.drain t).n = S.n := by
  unfold Sp.drain
  split
  · exact (fres_same _ _).2.2.2.1
  · rfl
theorem sweep_n (i : Int) (se : Bool) : (S.sweep i se).n = S.n := by
  unfold Sp.sweep
  split <;> rfl
theorem drain_E (t : Int) : (S.drain t).E = S.E := by
  unfold Sp.drain
  split
  · exact (fres_same _ _).2.2.1
  · rfl
theorem sweep_E (i : Int) (se : Bool) : (S.sweep i se).E = S.E := by
  unfold Sp.sweep
  split <;> rfl
theorem sweep_in {i : Int} {se : Bool} (h : S.sweeps i se = true) : ∃ k : Nat, i = k ∧ k < S.n ∧ ∀ j, ((S.sweep i se).T j) = if j = k then ⟨0, false, false⟩ else S.T j := by
  have hw := h
  simp only [Sp.sweeps, Bool.and_eq_true, beq_iff_eq, stt] at hw
  obtain ⟨h2, _⟩ := hw
  split at h2
  · rename_i hin
    obtain ⟨k, rfl, hk⟩ := tinn_iff hin
    refine ⟨k, rfl, hk, fun j => ?_⟩
    unfold Sp.sweep
    rw [if_pos h]
    exact setT_at rfl hk j
  · cases h2
theorem sweep_no {i : Int} {se : Bool} (h : S.sweeps i se = false) : (S.sweep i se).T = S.T := by
  unfold Sp.sweep
  rw [h]; rfl
/-- What the requests got lies in range. -/
def Got_ok (S : Sp) : Prop := ∀ e, e ∈ S.E → ∀ x, x ∈ e.G → ∃ k : Nat, x = k ∧ k < S.n
theorem got_ask (h : Got_ok S) (t fr sp : Int) (se : Bool) : Got_ok (S.ask t fr sp se) := by
  intro e he x hx
  rw [ask_n]
  have : e ∈ S.E ∨ e.G = [] := by
    unfold Sp.ask at he
    split at he
    · split at he
      · exact .inl he
      · split at he
        · exact .inl he
        · rcases List.mem_append.1 he with he | he
          · exact .inl he
          · simp at he; subst he; exact .inr rfl
    · exact .inl he
  rcases this with h1 | h1
  · exact h e h1 x hx
  · rw [h1] at hx; cases hx
theorem got_serve (h : Got_ok S) {kb : Nat} (hb : S.Bd kb) (se : Bool) : Got_ok (S.serve se) := by
  intro e he x hx
  rw [serve_n]
  unfold Sp.serve at he
  split at he
  · exact h e he x hx
  · rename_i e0 h0
    have hm : e0 ∈ S.E := List.mem_of_find?_eq_some h0
    have hp := hb.pos e0 hm
    split at he
    · rename_i hf
      rcases List.mem_or_eq_of_mem_set he with he | rfl
      · exact h e he x hx
      · have hx : x ∈ takeZ S.n S.F e0.fr := hx
        simp only [takeZ, List.mem_map] at hx
        obtain ⟨k, hk, rfl⟩ := hx
        exact ⟨k, rfl, ((takeL_ok (fits_takes hf hp.1 hp.2).1).2.1 k hk).1⟩
    · split at he
      · rcases List.mem_or_eq_of_mem_set he with he | rfl
        · exact h e he x hx
        · exact h e0 hm x hx
      · exact h e he x hx
theorem got_map (h : Got_ok S) {S' : Sp} {f : Ent → Ent} (hf : ∀ e, (f e).G = e.G) (e1 : S'.E = S.E.map f) (e2 : S'.n = S.n) : Got_ok S' := by
  intro e he x hx
  rw [e1] at he
  obtain ⟨e0, h0, rfl⟩ := List.mem_map.1 he
  rw [e2]
  exact h e0 h0 x (by rw [← hf e0]; exact hx)
theorem got_sub (h : Got_ok S) {S' : Sp} (e1 : ∀ e, e ∈ S'.E → e ∈ S.E) (e2 : S'.n = S.n) : Got_ok S' := fun e he x hx => by rw [e2]; exact h e (e1 e he) x hx
theorem look_G (h : Got_ok S) (t : Int) : ∀ x, x ∈ (S.lookG t).G → ∃ k : Nat, x = k ∧ k < S.n := by
  intro x hx
  unfold Sp.lookG at hx
  split at hx
  · simp at hx
  · rename_i e he
    split at hx
    · simp at hx
    · split at hx
      · exact h e (List.mem_of_find?_eq_some he) x hx
      · simp at hx
/-- Who is granted at once gets as many as asked for, each once, none of them used till then. -/
theorem ask_G (hs : Snd S) (t fr sp : Int) (se : Bool) (h1 : (S.askG t fr sp).st = 1) : ((S.askG t fr sp).G.length : Int) = fr ∧ (S.askG t fr sp).G.Nodup ∧ ∀ x, x ∈ (S.askG t fr sp).G → ∃ k : Nat, x = k ∧ k < S.n ∧ (S.T k).s ≠ 2 ∧ ((S.ask t fr sp se).T k).s = 2 := by
  have ht : Snd S.tick := hs.like rfl rfl rfl rfl rfl
  unfold Sp.askG at h1 ⊢
  unfold Sp.ask
  split
  · rename_i hm
    have hp := may_pos hm
    have hi : t.toNat < S.m := by omega
    rw [if_pos hm] at h1
    split
    · rename_i hc
      simp only [Bool.and_eq_true, decide_eq_true_eq] at hc
      refine ⟨by simp only [List.length_take]; omega, (hs.nd _ hi).sublist (List.take_sublist _ _), fun x hx => ?_⟩
      obtain ⟨k, e, hk, hs1⟩ := hs.sk _ hi x (List.mem_of_mem_take hx)
      refine ⟨k, e, hk, by omega, ?_⟩
      show (useT S.n 2 se S.T ((S.Q t.toNat).take fr.toNat) k).s = 2
      rw [useT_at rfl _ _ hk, if_pos (e ▸ hx)]
    · rename_i hc
      rw [if_neg hc] at h1
      split
      · rename_i hf
        simp only [Bool.and_eq_true] at hf
        have hT := (fits_takes hf.2 hp.2.2.1 hp.2.2.2.1).1
        obtain ⟨t1, t2, t3⟩ := takeL_ok hT
        refine ⟨by simp only [takeZ, List.length_map, t3]; omega, nodup_cast t1, fun x hx => ?_⟩
        have hx0 := hx
        simp only [takeZ, List.mem_map] at hx
        obtain ⟨k, hk, rfl⟩ := hx
        have hk2 := t2 k hk
        have h0 := (hs.fr k hk2.1).1 hk2.2
        refine ⟨k, rfl, hk2.1, by omega, ?_⟩
        refine fill_used (S := S.tick.tk fr sp se) (ht.tk fr sp se hT) _ hk2.1 ?_
        show (useT S.n 2 se S.T (takeZ S.n S.F fr) k).s = 2
        rw [useT_at rfl _ _ hk2.1, if_pos hx0]
      · rename_i hf
        rw [if_neg hf] at h1
        cases h1
  · rename_i hm
    rw [if_neg hm] at h1
    cases h1
/-- While one waits, nobody else takes of what is free. -/
theorem ask_waits (t fr sp : Int) (se : Bool) (h : 0 < (wts S.E).length) : cntB (S.ask t fr sp se).F (S.ask t fr sp se).n = cntB S.F S.n := by
  have hd : decide ((wts S.E).length = 0) = false := decide_eq_false (by omega)
  unfold Sp.ask
  split
  · split
    · rfl
    · rw [hd, Bool.false_and, if_neg (by simp)]
      rfl
  · rfl
theorem wts_set {E : List Ent} {i : Nat} {e : Ent} (hi : i < E.length) (h0 : (E[i].st == 0) = true) (he : (e.st == 0) = false) : (wts (E.set i e)).length + 1 = (wts E).length := by
  have c : ∀ (x : Ent) L, wts (x :: L) = if x.st == 0 then x :: wts L else wts L := fun x L => by
    unfold wts
    rw [List.filter_cons]
  induction E generalizing i with
  | nil => simp at hi
  | cons x E ih =>
    cases i with
    | zero =>
      simp only [List.getElem_cons_zero] at h0
      rw [List.set_cons_zero, c, c, h0, he]
      simp
    | succ i =>
      simp only [List.getElem_cons_succ] at h0
      have := ih (by simpa using hi) h0
      rw [List.set_cons_succ, c, c]
      by_cases hx : (x.st == 0) = true
      · rw [if_pos hx, if_pos hx, List.length_cons, List.length_cons]; omega
      · rw [if_neg hx, if_neg hx]; exact this
theorem serve_wts (se : Bool) : (S.serves = true ∧ (wts (S.serve se).E).length + 1 = (wts S.E).length) ∨ (S.serves = false ∧ (wts (S.serve se).E).length = (wts S.E).length) := by
  unfold Sp.serves Sp.serve Sp.hd
  rcases idx_cases (fun e => e.st == 0) S.E with ⟨_, h2, _⟩ | ⟨i, hi, h1, h2, h3, _⟩
  · rw [h2]
    exact .inr ⟨rfl, rfl⟩
  · rw [h2]
    simp only
    cases hf : fitsB S S.E[i].fr S.E[i].sp
    · simp only [Bool.false_or, Bool.false_eq_true, if_false]
      by_cases hc : 2 ≤ S.E[i].cy
      · rw [if_pos hc]
        refine .inl ⟨by simpa using hc, ?_⟩
        show (wts (S.E.set (idx (fun e => e.st == 0) S.E).toNat { S.E[i] with st := 2 })).length + 1 = _
        rw [h1, Int.toNat_natCast]
        exact wts_set hi h3 rfl
      · rw [if_neg hc]
        exact .inr ⟨by simpa using hc, rfl⟩
    · simp only [Bool.true_or, if_true]
      refine .inl ⟨trivial, ?_⟩
      show (wts (S.E.set (idx (fun e => e.st == 0) S.E).toNat { S.E[i] with st := 1, pl := S.tkA S.E[i].fr S.E[i].sp, G := takeZ S.n S.F S.E[i].fr })).length + 1 = _
      rw [h1, Int.toNat_natCast]
      exact wts_set hi h3 rfl
end

/-- The law's own knowledge of who has what: O lies at ob; S is sound. -/
structure Wk (S : Sp) (n : Nat) (O : Nat → Bool) : Prop where
  sz : S.n = n
  snd : Snd S
  got : Got_ok S
  us : ∀ j, j < n → O j = true → (S.T j).s = 2
section
variable {S : Sp} {n : Nat} {O : Nat → Bool}
theorem Wk.ask (h : Wk S n O) (t fr sp : Int) (se : Bool) : Wk (S.ask t fr sp se) n O :=
  ⟨(ask_n t fr sp se).trans h.sz, h.snd.ask t fr sp se, got_ask h.got t fr sp se, fun j hj ho => ask_used h.snd t fr sp se (h.sz ▸ hj) (h.us j hj ho)⟩
theorem Wk.look (h : Wk S n O) (t : Int) : Wk (S.look t) n O :=
  ⟨(look_n t).trans h.sz, h.snd.look t, got_sub h.got (look_sub t) (look_n t), fun j hj ho => by rw [look_T]; exact h.us j hj ho⟩
theorem Wk.drain (h : Wk S n O) (t : Int) : Wk (S.drain t) n O :=
  ⟨(drain_n t).trans h.sz, h.snd.drain t, got_sub h.got (by rw [drain_E]; exact fun _ q => q) (drain_n t), fun j hj ho => drain_used h.snd t (h.sz ▸ hj) (h.us j hj ho)⟩
theorem Wk.serve (h : Wk S n O) {kb : Nat} (hb : S.Bd kb) (se : Bool) : Wk (S.serve se) n O :=
  ⟨(serve_n se).trans h.sz, h.snd.serve hb se, got_serve h.got hb se, fun j hj ho => serve_used se (h.sz ▸ hj) (h.us j hj ho)⟩
theorem Wk.begin (h : Wk S n O) : Wk S.begin n O := ⟨h.sz, h.snd.like rfl rfl rfl rfl rfl, got_map h.got (f := noteE) (fun _ => rfl) rfl rfl, h.us⟩
theorem Wk.end_ (h : Wk S n O) : Wk S.end_ n O := ⟨h.sz, h.snd.like rfl rfl rfl rfl rfl, got_map h.got (f := endE) (fun _ => rfl) rfl rfl, h.us⟩
theorem Wk.sweep_no (h : Wk S n O) {i : Int} {se : Bool} (hs : S.sweeps i se = false) : Wk (S.sweep i se) n O :=
  ⟨(sweep_n i se).trans h.sz, h.snd.sweep i se, got_sub h.got (by rw [sweep_E]; exact fun _ q => q) (sweep_n i se), fun j hj ho => by rw [Go.Proofs.Ytahpnnjemjjfhaa.sweep_no hs]; exact h.us j hj ho⟩
theorem Wk.sweep_yes (h : Wk S n O) {i : Int} {se : Bool} (hs : S.sweeps i se = true) : ∃ k : Nat, i = k ∧ k < n ∧ Wk (S.sweep i se) n (setB O k false) := by
  obtain ⟨k, e, hk, hT⟩ := sweep_in hs
  refine ⟨k, e, h.sz ▸ hk, (sweep_n i se).trans h.sz, h.snd.sweep i se, got_sub h.got (by rw [sweep_E]; exact fun _ q => q) (sweep_n i se), fun j hj ho => ?_⟩
  by_cases q : j = k
  · subst q; rw [setB_same] at ho; cases ho
  · rw [setB_other _ _ q] at ho
    rw [hT j, if_neg q]
    exact h.us j hj ho
theorem Wk.put (h : Wk S n O) {k : Nat} (_ : k < n) : Wk S n (setB O k ((S.T k).s == 2)) :=
  ⟨h.sz, h.snd, h.got, fun j hj ho => by
    by_cases q : j = k
    · subst q; rw [setB_same] at ho; simpa using ho
    · rw [setB_other _ _ q] at ho; exact h.us j hj ho⟩
end
theorem wk_new (n s m ch : Nat) : Wk (Sp.new n s m ch) n (fun _ => false) := ⟨rfl, Snd.new _ _ _ _, fun e he => by simp [Sp.new] at he, fun _ _ h => by cases h⟩
end Go.Proofs.Ytahpnnjemjjfhaa
