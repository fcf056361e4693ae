/-
  The law SpaceServes: its three slices; what Ask, Serve and Look do to the line.
-/
import Derived.Test.YtahpnnjemjjfhaaLo21
import Derived.Test.YtahpnnjemjjfhaaWhole21
namespace Go.Proofs.Ytahpnnjemjjfhaa
open Go.RowKit

def own3 (v7 v8 v9 : Value) : List Nat := v7.ownBlock.toList ++ (v8.ownBlock.toList ++ v9.ownBlock.toList)
theorem mem_own3 {v7 v8 v9 : Value} {k : Nat} : k ∈ own3 v7 v8 v9 ↔ v7.ownBlock = some k ∨ v8.ownBlock = some k ∨ v9.ownBlock = some k := by simp [own3]

structure Sv (t7 t8 t9 : TypeId) (W w : World) (A : Ad) (S : Sp) (kb : Nat) (D : List Nat) (v7 v8 v9 : Value) (T7 T8 T9 : List Value) : Prop where
  lw : Lw W w A S kb (D ++ own3 v7 v8 v9)
  l7 : Lo t7 w W.heap.size v7 T7
  l8 : Lo t8 w W.heap.size v8 T8
  l9 : Lo t9 w W.heap.size v9 T9
  n78 : ∀ k, v7.ownBlock = some k → v8.ownBlock ≠ some k
  n79 : ∀ k, v7.ownBlock = some k → v9.ownBlock ≠ some k
  n89 : ∀ k, v8.ownBlock = some k → v9.ownBlock ≠ some k
section
variable {t7 t8 t9 : TypeId} {W w w' : World} {A : Ad} {S S' : Sp} {kb kb' : Nat} {D D' : List Nat} {v7 v8 v9 v7' : Value} {T7 T8 T9 T7' : List Value}
theorem Sv.rot (h : Sv t7 t8 t9 W w A S kb D v7 v8 v9 T7 T8 T9) : Sv t8 t9 t7 W w A S kb D v8 v9 v7 T8 T9 T7 :=
  ⟨h.lw.less fun k hk => by
    rcases List.mem_append.1 hk with hk | hk
    · exact List.mem_append.2 (.inl hk)
    · refine List.mem_append.2 (.inr (mem_own3.2 ?_))
      rcases mem_own3.1 hk with h | h | h
      · exact .inr (.inl h)
      · exact .inr (.inr h)
      · exact .inl h, h.l8, h.l9, h.l7, h.n89, fun k a b => h.n78 k b a, fun k a b => h.n79 k b a⟩
theorem Sv.lt (h : Sv t7 t8 t9 W w A S kb D v7 v8 v9 T7 T8 T9) : ∀ k, k ∈ own3 v7 v8 v9 → W.heap.size ≤ k ∧ k < w.heap.size := fun k hk => by
  rcases mem_own3.1 hk with q | q | q
  · exact h.l7.lt k q
  · exact h.l8.lt k q
  · exact h.l9.lt k q
theorem Sv.call (h : Sv t7 t8 t9 W w A S kb D v7 v8 v9 T7 T8 T9) (lw : Lw W w' A S' kb' (D ++ own3 v7 v8 v9)) (u : Un W w w' (D ++ own3 v7 v8 v9)) : Sv t7 t8 t9 W w' A S' kb' D v7 v8 v9 T7 T8 T9 := by
  obtain ⟨E, m, _, e⟩ := u.mu
  have hd : ∀ k, k ∈ own3 v7 v8 v9 → k ∉ E := fun k hk => e k (List.mem_append.2 (.inr hk)) (h.lt k hk).2
  exact ⟨lw, h.l7.muts m fun k hk => hd k (mem_own3.2 (.inl hk)), h.l8.muts m fun k hk => hd k (mem_own3.2 (.inr (.inl hk))), h.l9.muts m fun k hk => hd k (mem_own3.2 (.inr (.inr hk))), h.n78, h.n79, h.n89⟩
theorem Sv.keep (h : Sv t7 t8 t9 W w A S kb D v7 v8 v9 T7 T8 T9) (k : Kept w w') : Sv t7 t8 t9 W w' A S kb D v7 v8 v9 T7 T8 T9 :=
  ⟨h.lw.keep k, h.l7.kept k, h.l8.kept k, h.l9.kept k, h.n78, h.n79, h.n89⟩
theorem Sv.alloc (h : Sv t7 t8 t9 W w A S kb D v7 v8 v9 T7 T8 T9) (C : Array Value) (t : TypeId) : Sv t7 t8 t9 W (w.alloc (.cells C t)) A S kb (w.heap.size :: D) v7 v8 v9 T7 T8 T9 :=
  ⟨h.lw.alloc C t, h.l7.kept ((Kept.refl _).alloc _ _), h.l8.kept ((Kept.refl _).alloc _ _), h.l9.kept ((Kept.refl _).alloc _ _), h.n78, h.n79, h.n89⟩
theorem Sv.less (h : Sv t7 t8 t9 W w A S kb D v7 v8 v9 T7 T8 T9) (hd : ∀ k, k ∈ D' → k ∈ D) : Sv t7 t8 t9 W w A S kb D' v7 v8 v9 T7 T8 T9 :=
  ⟨h.lw.less fun k hk => by
    rcases List.mem_append.1 hk with hk | hk
    · exact List.mem_append.2 (.inl (hd k hk))
    · exact List.mem_append.2 (.inr hk), h.l7, h.l8, h.l9, h.n78, h.n79, h.n89⟩
/-- The first one is laid anew. -/
theorem Sv.app7 (h : Sv t7 t8 t9 W w A S kb D v7 v8 v9 T7 T8 T9) (l : Lo t7 w' W.heap.size v7' T7') (m : Mut v7.ownBlock.toList w w') (f : Fresh w v7 v7') : Sv t7 t8 t9 W w' A S kb D v7' v8 v9 T7' T8 T9 := by
  have hn : ∀ k, v7'.ownBlock = some k → v8.ownBlock ≠ some k ∧ v9.ownBlock ≠ some k := fun k hk => by
    rcases f k hk with q | q
    · exact ⟨h.n78 k q, h.n79 k q⟩
    · exact ⟨fun e => by have := (h.l8.lt k e).2; omega, fun e => by have := (h.l9.lt k e).2; omega⟩
  have hw : ∀ k, k ∈ v7.ownBlock.toList → k ∈ D ++ own3 v7 v8 v9 ∧ W.heap.size ≤ k := fun k hk => by
    have hk : v7.ownBlock = some k := by simpa using hk
    exact ⟨List.mem_append.2 (.inr (mem_own3.2 (.inl hk))), (h.l7.lt k hk).1⟩
  refine ⟨?_, l, h.l8.muts m fun k hk q => h.n78 k (by simpa using q) hk, h.l9.muts m fun k hk q => h.n79 k (by simpa using q) hk, fun k hk => (hn k hk).1, fun k hk => (hn k hk).2, h.n89⟩
  cases hv : v7'.ownBlock with
  | none =>
    refine (h.lw.wrote m hw).less fun k hk => ?_
    rcases List.mem_append.1 hk with hk | hk
    · exact List.mem_append.2 (.inl hk)
    · refine List.mem_append.2 (.inr (mem_own3.2 ?_))
      rcases mem_own3.1 hk with q | q | q
      · rw [hv] at q; cases q
      · exact .inr (.inl q)
      · exact .inr (.inr q)
  | some b =>
    rcases f b hv with q0 | q0
    · refine (h.lw.wrote m hw).less fun k hk => ?_
      rcases List.mem_append.1 hk with hk | hk
      · exact List.mem_append.2 (.inl hk)
      · refine List.mem_append.2 (.inr (mem_own3.2 ?_))
        rcases mem_own3.1 hk with q | q | q
        · rw [hv] at q; cases q; exact .inl q0
        · exact .inr (.inl q)
        · exact .inr (.inr q)
    · refine ((h.lw.more q0).wrote m fun k hk => ⟨List.mem_cons_of_mem _ (hw k hk).1, (hw k hk).2⟩).less fun k hk => ?_
      rcases List.mem_append.1 hk with hk | hk
      · exact List.mem_cons_of_mem _ (List.mem_append.2 (.inl hk))
      · rcases mem_own3.1 hk with q | q | q
        · rw [hv] at q; cases q; exact List.mem_cons_self
        · exact List.mem_cons_of_mem _ (List.mem_append.2 (.inr (mem_own3.2 (.inr (.inl q)))))
        · exact List.mem_cons_of_mem _ (List.mem_append.2 (.inr (mem_own3.2 (.inr (.inr q)))))
theorem Sv.set7 {g o n c : Nat} (h : Sv t7 t8 t9 W w A S kb D (.slice (some ⟨g, o, none⟩) n c) v8 v9 T7 T8 T9) (q : Nat) (u : Value) : Sv t7 t8 t9 W (w.setCell ⟨g, o + q, none⟩ u) A S kb D (.slice (some ⟨g, o, none⟩) n c) v8 v9 (T7.set q u) T8 T9 :=
  h.app7 (h.l7.set u) ((Mut.refl _ _).setCell (by simp [Value.ownBlock]) u) (Fresh.same _ _)
theorem Sv.tail7 {g o n c : Nat} {u : Value} (h : Sv t7 t8 t9 W w A S kb D (.slice (some ⟨g, o, none⟩) n c) v8 v9 (u :: T7) T8 T9) : 1 ≤ c ∧ Sv t7 t8 t9 W w A S kb D (.slice (if c = 1 then some ⟨g, o, none⟩ else some ⟨g, o + 1, none⟩) T7.length (c - 1)) v8 v9 T7 T8 T9 := by
  obtain ⟨h1, h2⟩ := h.l7.tail
  refine ⟨h1, h.app7 h2 (Mut.refl _ _) fun k hk => .inl ?_⟩
  by_cases hc : c = 1
  · rw [if_pos hc] at hk; exact hk
  · rw [if_neg hc] at hk; exact hk
end

/-- Of two lists of the same length: the first one's cells up to q, then the second one's. -/
def mixL (A B : List Value) (q : Nat) : List Value := A.take q ++ B.drop q
section
variable {A B : List Value} {q : Nat}
theorem mixL_len (h : A.length = B.length) : (mixL A B q).length = B.length := by simp [mixL]; omega
theorem mixL_zero : mixL A B 0 = B := by simp [mixL]
theorem mixL_all (h : A.length = B.length) (hq : q = A.length) : mixL A B q = A := by
  subst hq
  rw [mixL, List.take_length, List.drop_eq_nil_of_le (by omega), List.append_nil]
theorem mixL_at (h : A.length = B.length) (hq : q < B.length) : (mixL A B q)[q]? = B[q]? := by
  rw [mixL, List.getElem?_append_right (by simp; omega), List.length_take, show q - min q A.length = 0 by omega, List.getElem?_drop, Nat.add_zero]
theorem mixL_set (h : A.length = B.length) (hq : q < A.length) {u : Value} (hu : A[q] = u) : (mixL A B q).set q u = mixL A B (q + 1) := by
  apply List.ext_getElem?
  intro j
  rw [List.getElem?_set]
  unfold mixL
  by_cases h1 : q = j
  · subst h1
    rw [if_pos rfl, if_pos (by simp; omega), List.getElem?_append_left (by simp; omega), List.getElem?_take, if_pos (by omega), ← hu]
    simp [hq]
  · rw [if_neg h1]
    by_cases h2 : j < q
    · rw [List.getElem?_append_left (by simp; omega), List.getElem?_append_left (by simp; omega), List.getElem?_take, List.getElem?_take, if_pos h2, if_pos (by omega)]
    · rw [List.getElem?_append_right (by simp; omega), List.getElem?_append_right (by simp; omega), List.getElem?_drop, List.getElem?_drop, List.length_take, List.length_take]
      congr 1
      omega
theorem mixL_same (h : A.length = B.length) (hq : q < A.length) (e : A[q]? = B[q]?) : mixL A B q = mixL A B (q + 1) := by
  rw [← mixL_set h hq rfl]
  apply List.ext_getElem?
  intro j
  rw [List.getElem?_set]
  by_cases h1 : q = j
  · subst h1
    rw [if_pos rfl, if_pos (by rw [mixL_len h]; omega), mixL_at h (by omega), ← e]
    simp [hq]
  · rw [if_neg h1]
end

def AllW (S : Sp) : Prop := ∀ e, e ∈ S.E → e.st = 0
def c7s (E : List Ent) : List Value := E.map fun e => .int .i64 e.th
def c8s (E : List Ent) : List Value := E.map fun e => .int .i64 e.cy
def c9s (E : List Ent) : List Value := E.map fun e => .bool e.nt
section
variable {S : Sp} {e : Ent} {R : List Ent}
theorem wts_all (h : AllW S) : (wts S.E).length = S.E.length := by
  unfold wts
  rw [List.filter_eq_self.2 fun e he => by simp [h e he]]
theorem ask_wait {t fr sp : Int} (se : Bool) (h : (S.askG t fr sp).st = 0) : (S.ask t fr sp se).E = S.E ++ [newEnt t fr sp] := by
  unfold Sp.askG at h
  unfold Sp.ask
  split
  · rename_i hm
    rw [if_pos hm] at h
    split
    · rename_i hc
      rw [if_pos hc] at h
      cases h
    · rename_i hc
      rw [if_neg hc] at h
      split
      · rename_i hf
        rw [if_pos hf] at h
        cases h
      · rfl
  · rename_i hm
    rw [if_neg hm] at h
    cases h
theorem ask_not {t fr sp : Int} (se : Bool) (h : (S.askG t fr sp).st ≠ 0) : (S.ask t fr sp se).E = S.E := by
  unfold Sp.askG at h
  unfold Sp.ask
  split
  · rename_i hm
    rw [if_pos hm] at h
    split
    · rfl
    · rename_i hc
      rw [if_neg hc] at h
      split
      · rfl
      · rename_i hf
        rw [if_neg hf] at h
        exact absurd rfl h
  · rfl
theorem serve_nil (h : S.E = []) (se : Bool) : S.serves = false ∧ (S.serve se).E = [] := by
  unfold Sp.serves Sp.serve Sp.hd
  rw [h]
  exact ⟨rfl, h⟩
theorem idx_hd {p : Ent → Bool} (h : p e = true) : idx p (e :: R) = 0 := idx_at (i := 0) (by simp) h (fun _ q => by simp at q)
theorem serve_cons (h : S.E = e :: R) (h0 : e.st = 0) (se : Bool) :
    (S.serves = true ∧ ∃ e', (S.serve se).E = e' :: R ∧ e'.th = e.th ∧ (e'.st = 1 ∨ (e'.st = 2 ∧ 2 ≤ e.cy))) ∨ (S.serves = false ∧ (S.serve se).E = S.E) := by
  have hh : S.hd = some e := by
    unfold Sp.hd
    rw [h, List.find?_cons_of_pos (by simp [h0])]
  have hi : (idx (fun e => e.st == 0) S.E).toNat = 0 := by
    rw [h, idx_hd (by simp [h0])]; rfl
  unfold Sp.serves Sp.serve
  rw [hh]
  simp only
  by_cases hf : fitsB S e.fr e.sp = true
  · rw [if_pos hf, hf]
    refine .inl ⟨rfl, { e with st := 1, pl := S.tkA e.fr e.sp, G := takeZ S.n S.F e.fr }, ?_, rfl, .inl rfl⟩
    show S.E.set (idx (fun e => e.st == 0) S.E).toNat _ = _
    rw [hi, h]; rfl
  · rw [if_neg hf]
    have hf' : fitsB S e.fr e.sp = false := by simpa using hf
    rw [hf']
    by_cases hc : 2 ≤ e.cy
    · rw [if_pos hc]
      refine .inl ⟨by simpa using hc, { e with st := 2 }, ?_, rfl, .inr ⟨rfl, hc⟩⟩
      show S.E.set (idx (fun e => e.st == 0) S.E).toNat _ = _
      rw [hi, h]; rfl
    · rw [if_neg hc]
      exact .inr ⟨by simpa using hc, rfl⟩
theorem look_hd (h : S.E = e :: R) (h1 : e.st = 1 ∨ e.st = 2) : (S.lookG e.th).st = e.st ∧ (S.look e.th).E = R := by
  have hh : S.of e.th = some e := by
    unfold Sp.of
    rw [h, List.find?_cons_of_pos (by simp)]
  have hn : (e.st == 0) = false := by rcases h1 with h1 | h1 <;> simp [h1]
  unfold Sp.lookG Sp.look
  rw [hh]
  simp only [hn, Bool.false_eq_true, if_false]
  refine ⟨?_, ?_⟩
  · split
    · rename_i q; simp at q; exact q.symm
    · rfl
  · show S.E.eraseIdx (idx (fun x => x.th == e.th) S.E).toNat = R
    rw [h, idx_hd (by simp)]
    rfl
theorem note_7 (E : List Ent) : c7s (E.map noteE) = c7s E := by simp [c7s, noteE]
theorem note_8 (E : List Ent) : c8s (E.map noteE) = c8s E := by simp [c8s, noteE]
theorem end_7 (E : List Ent) : c7s (E.map endE) = c7s E := by simp [c7s, endE]
end

structure Srv (W w : World) (A : Ad) (S : Sp) (kb : Nat) (D : List Nat) (v7 v8 v9 : Value) : Prop where
  sv : Sv 3 3 4 W w A S kb D v7 v8 v9 (c7s S.E) (c8s S.E) (c9s S.E)
  wt : AllW S
section
variable {W w w' : World} {A : Ad} {S S' : Sp} {kb kb' : Nat} {D D' : List Nat} {v7 v8 v9 : Value}
/-- A call that leaves the line. -/
theorem Srv.same (h : Srv W w A S kb D v7 v8 v9) (lw : Lw W w' A S' kb' (D ++ own3 v7 v8 v9)) (u : Un W w w' (D ++ own3 v7 v8 v9)) (e : S'.E = S.E) : Srv W w' A S' kb' D v7 v8 v9 :=
  ⟨by rw [e]; exact h.sv.call lw u, by unfold AllW; rw [e]; exact h.wt⟩
theorem Srv.less (h : Srv W w A S kb D v7 v8 v9) (hd : ∀ k, k ∈ D' → k ∈ D) : Srv W w A S kb D' v7 v8 v9 := ⟨h.sv.less hd, h.wt⟩
theorem Srv.few (h : Srv W w A S kb D v7 v8 v9) : S.E.length ≤ kb := h.sv.lw.bd.len
theorem srv_new {n s m ch : Nat} (h : Lw W w A (Sp.new n s m ch) 0 []) : Srv W w A (Sp.new n s m ch) 0 [] (.slice none 0 0) (.slice none 0 0) (.slice none 0 0) :=
  ⟨⟨h, Lo.nil _ _ _, Lo.nil _ _ _, Lo.nil _ _ _, (fun _ q => by cases q), (fun _ q => by cases q), (fun _ q => by cases q)⟩, fun e he => by simp [Sp.new] at he⟩
end
end Go.Proofs.Ytahpnnjemjjfhaa
