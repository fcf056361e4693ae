/-
  Who is reached: a search with a stack, as plain lists. No model in this text.
-/
namespace Go.Proofs.YtbmcbkebcchjmaaGreatDoor

/-- Reached from the roots. -/
inductive Rch (rs : List Nat) (sc : Nat → Option Nat) : Nat → Prop
  | root (r : Nat) (h : r ∈ rs) : Rch rs sc r
  | step (x y : Nat) (h : Rch rs sc x) (e : sc x = some y) : Rch rs sc y

theorem nodup_len : ∀ (n : Nat) (K : List Nat), K.Nodup → (∀ k ∈ K, k < n) → K.length ≤ n
  | 0, K, _, h => by
    cases K with
    | nil => simp
    | cons a K => exact absurd (h a (by simp)) (by omega)
  | n + 1, K, hn, h => by
    by_cases hm : n ∈ K
    · have := nodup_len n (K.erase n) (hn.erase n) (fun k hk => by
        have h1 := h k (List.mem_of_mem_erase hk)
        have h2 : k ≠ n := fun e => by
          subst e
          exact (List.Nodup.mem_erase_iff hn).1 hk |>.1 rfl
        omega)
      rw [List.length_erase_of_mem hm] at this
      omega
    · have := nodup_len n K hn (fun k hk => by
        have h1 := h k hk
        have h2 : k ≠ n := fun e => hm (e ▸ hk)
        omega)
      omega

structure Dfs (n : Nat) (rs : List Nat) (sc : Nat → Option Nat) (K N : List Nat) : Prop where
  nd : K.Nodup
  kn : ∀ k ∈ K, k < n
  nn : ∀ x ∈ N, x < n
  rt : ∀ r ∈ rs, r ∈ K ∨ r ∈ N
  cl : ∀ k ∈ K, ∀ j, sc k = some j → j ∈ K ∨ j ∈ N
  so : ∀ x, x ∈ K ∨ x ∈ N → Rch rs sc x

section
variable {n : Nat} {rs : List Nat} {sc : Nat → Option Nat} {K N : List Nat} {x : Nat}
theorem Dfs.start (h : ∀ r ∈ rs, r < n) : Dfs n rs sc [] rs :=
  ⟨List.nodup_nil, by simp, h, fun r hr => .inr hr, by simp, fun x hx => .root x (by simpa using hx)⟩
theorem Dfs.len (h : Dfs n rs sc K N) : K.length ≤ n := nodup_len n K h.nd h.kn
theorem Dfs.old (h : Dfs n rs sc K (N ++ [x])) (hx : x ∈ K) : Dfs n rs sc K N := by
  have hm : ∀ y, y ∈ K ∨ y ∈ N ++ [x] → y ∈ K ∨ y ∈ N := fun y hy => by
    rcases hy with hy | hy
    · exact .inl hy
    · rcases List.mem_append.1 hy with hy | hy
      · exact .inr hy
      · have e : y = x := by simpa using hy
        exact .inl (e ▸ hx)
  exact ⟨h.nd, h.kn, fun y hy => h.nn y (List.mem_append_left _ hy), fun r hr => hm r (h.rt r hr), fun k hk j e => hm j (h.cl k hk j e), fun y hy => h.so y (hy.imp id (List.mem_append_left _))⟩
theorem Dfs.new (h : Dfs n rs sc K (N ++ [x])) (hx : x ∉ K) (hb : ∀ j, sc x = some j → j < n) : Dfs n rs sc (K ++ [x]) (N ++ (sc x).toList) := by
  have hr : Rch rs sc x := h.so x (.inr (by simp))
  have hm : ∀ y, y ∈ K ∨ y ∈ N ++ [x] → y ∈ K ++ [x] ∨ y ∈ N ++ (sc x).toList := fun y hy => by
    rcases hy with hy | hy
    · exact .inl (List.mem_append_left _ hy)
    · rcases List.mem_append.1 hy with hy | hy
      · exact .inr (List.mem_append_left _ hy)
      · exact .inl (List.mem_append_right _ hy)
  refine ⟨?_, ?_, ?_, fun r q => hm r (h.rt r q), ?_, ?_⟩
  · exact List.nodup_append.2 ⟨h.nd, by simp, fun a ha b hb' e => by
      have e2 : b = x := by simpa using hb'
      exact hx (e2 ▸ e ▸ ha)⟩
  · intro k hk
    rcases List.mem_append.1 hk with hk | hk
    · exact h.kn k hk
    · have e : k = x := by simpa using hk
      rw [e]; exact h.nn x (by simp)
  · intro y hy
    rcases List.mem_append.1 hy with hy | hy
    · exact h.nn y (List.mem_append_left _ hy)
    · exact hb y (by simpa using hy)
  · intro k hk j e
    rcases List.mem_append.1 hk with hk | hk
    · exact hm j (h.cl k hk j e)
    · have e2 : k = x := by simpa using hk
      rw [e2] at e
      exact .inr (List.mem_append_right _ (by simp [e]))
  · intro y hy
    rcases hy with hy | hy
    · rcases List.mem_append.1 hy with hy | hy
      · exact h.so y (.inl hy)
      · have e : y = x := by simpa using hy
        rw [e]; exact hr
    · rcases List.mem_append.1 hy with hy | hy
      · exact h.so y (.inr (List.mem_append_left _ hy))
      · exact .step x y hr (by simpa using hy)
theorem Dfs.fin (h : Dfs n rs sc K []) (x : Nat) : x ∈ K ↔ Rch rs sc x := by
  refine ⟨fun hx => h.so x (.inl hx), fun hx => ?_⟩
  induction hx with
  | root r hr => simpa using h.rt r hr
  | step x y _ e ih => simpa using h.cl x ih y e
/-- What is reached lies among the things. -/
theorem Rch.lt (h : ∀ r ∈ rs, r < n) (hs : ∀ i j, sc i = some j → j < n) (hx : Rch rs sc x) : x < n := by
  induction hx with
  | root r hr => exact h r hr
  | step x y _ e _ => exact hs x y e
/-- All of them are reached. -/
theorem all_perm (hn : K.Nodup) (hk : ∀ x, x ∈ K ↔ x < n) : K.Perm (List.range n) := (List.perm_ext_iff_of_nodup hn List.nodup_range).2 fun x => by rw [hk, List.mem_range]
end
end Go.Proofs.YtbmcbkebcchjmaaGreatDoor
