/-
  The laws' own 'first' of layer 10; lists of numbers (copied, compared, asked).
-/
import Derived.Test.YtjobnlfecochfaaLineE
namespace Go.Proofs.Ytjobnlfecochfaa
open Go.RowKit

theorem LTab.own {w : World} {base b : Nat} {v : Value} {E : List Ent} (h : LTab w base b v E) : ∀ k, k ∈ b :: v.ownBlock.toList → base ≤ k ∧ k < w.heap.size := fun k hk => h.lt k (by
  simp at hk
  rcases hk with rfl | hk
  · exact mem_foot.2 (.inl rfl)
  · exact mem_foot.2 (.inr (.inl hk)))

set_option maxHeartbeats 2000000 in
theorem lfirst_any (w : World) : Calls Try.prog 7 #[] w fun e w' => e = .returned (.bool true) ∧ Kept w w' := by
  have HN : Hid (∀ w : World, _) := fun w => new_any w (base := w.heap.size) (Nat.le_refl _)
  go_enter Try.func7, Try.ntmps7
  go_wp2_with fail
  refine (HN.out _).mono ?_
  rintro e w1 ⟨b, rfl, ht, k1, hb⟩
  have H1 : Hid (LTab w1 w.heap.size b (.slice none 0 0) [] ∧ Kept w w1) := ⟨ht, k1⟩
  clear ht hb k1 HN
  go_wp2_with fail
  refine (add_yes _ H1.out.1 (by simp) (by simp)).mono ?_
  rintro e w2 ⟨rfl, v2, t2, m2, -⟩
  have H2 : Hid (LTab w2 w.heap.size b v2 [newEnt 1 0 0] ∧ Kept w w2) := ⟨t2, H1.out.2.muts m2 (fun k hk => (H1.out.1.own k hk).1)⟩
  clear t2 m2 H1
  go_wp2_with fail
  refine (add_no _ H2.out.1 ⟨_, List.mem_cons_self, rfl⟩).mono ?_
  rintro e w3 ⟨rfl, k3⟩
  have H3 : Hid (LTab w3 w.heap.size b v2 [newEnt 1 0 0] ∧ Kept w w3) := ⟨H2.out.1.kept k3, H2.out.2.trans k3⟩
  clear k3 H2
  go_wp2_with fail
  refine (first_any _ H3.out.1).mono ?_
  rintro e w4 ⟨y, d, rfl, -, -, k4⟩
  have e1 : ([newEnt 1 0 0] : List Ent).find? (fun e => e.st == 0) = some (newEnt 1 0 0) := rfl
  rw [e1]
  have H4 : Hid (LTab w4 w.heap.size b v2 [newEnt 1 0 0] ∧ Kept w w4) := ⟨H3.out.1.kept k4, H3.out.2.trans k4⟩
  clear k4 H3 e1
  simp only [told, Option.getD, Option.isSome, Ent.agg, newEnt, List.length_nil]
  go_wp2_with fail
  refine (waits_any _ (H4.out.1.kept ((Kept.refl _).alloc _ _))).mono ?_
  rintro e w5 ⟨rfl, k5⟩
  have e1 : ((wts ([newEnt 1 0 0] : List Ent)).length : Int) = 1 := rfl
  rw [e1]
  have H5 : Hid (Kept w w5) := H4.out.2.trans k5.ofAlloc
  clear k5 H4 e1
  go_wp2
  go_ret
  exact ⟨rfl, H5.out⟩

theorem lst_empty (w : World) : Lst (w.alloc (.cells #[] 3)) w.heap.size (.slice (some ⟨w.heap.size, 0, none⟩) 0 0) [] :=
  World.ownsRow_made w _ 0 (Nat.le_refl _) (by unfold maxLen; omega) (by simp)
theorem rdi_lit (w : World) (C : List Int) : Rdi (w.alloc (.cells (C.map (Value.int .i64)).toArray 3)) (some ⟨w.heap.size, 0, none⟩) C := fun _ => ⟨w.heap.size, 0, rfl, by simp, fun j hj => by simp [hj]⟩

set_option maxHeartbeats 1000000 in
theorem copy_any {x : Option Addr} {c : Nat} {N : List Int} (w : World) (hx : Rdi w x N) (hn : N.length ≤ 1000000) :
    Calls Try.prog 30 #[.slice x N.length c] w fun e w' => ∃ v, e = .returned v ∧ Lst w' w.heap.size v N ∧ Kept w w' := by
  have HX : Hid (Rdi (w.alloc (.cells #[] 3)) x N) := hx.kept ((Kept.refl w).alloc _ _)
  have HL : Hid _ := lst_empty w
  have z1 : w.heap.size ≤ (w.alloc (.cells #[] 3)).heap.size := by simp
  have z2 : ([] : List Int).length + N.length ≤ 1000000 := by simpa using hn
  clear hx hn
  go_enter Try.func30, Try.ntmps30
  go_wp2_with (at_builtin; refine wpList_append_lst (T := []) (N := N) rfl _ _ rfl rfl HL.out z1 rfl rfl HX.out z2 ?_)
  intro v2 w2 l2 m2 f2
  have H2 : Hid (Lst w2 w.heap.size v2 N ∧ Kept w w2) := ⟨by simpa using l2, ((Kept.refl w).alloc _ _).muts m2 (by simp [Value.ownBlock])⟩
  clear l2 m2 f2 z1 z2
  obtain ⟨y2, d2, rfl⟩ := H2.out.1.form
  go_wp2
  go_ret
  exact ⟨_, rfl, H2.out⟩

set_option maxHeartbeats 1000000 in
theorem ints_any {x y : Option Addr} {c d : Nat} {T : List Int} (w : World) (hl : T.length ≤ 1000000) (hx : Rdi w x T) (hy : Rdi w y T) :
    Calls Try.prog 29 #[.slice x T.length c, .slice y T.length d] w fun e w' => e = .returned (.bool true) ∧ Kept w w' := by
  have HX : Hid (Rdi w x T ∧ Rdi w y T) := ⟨hx, hy⟩
  clear hx hy
  have h0 : ((T.length : Int) != (T.length : Int)) = false := by simp
  go_enter Try.func29, Try.ntmps29
  go_wp2
  clear h0
  go_loopg [5] T.length (fun m i wr => ∃ k : Nat, i = .int .i64 k ∧ k ≤ T.length ∧ m = T.length - k ∧ Hid (Kept w wr))
  case atStart => exact ⟨0, rfl, by omega, by omega, Kept.refl _⟩
  case round =>
    obtain ⟨k, rfl, hk, hm, hw⟩ := hrel
    have HM : Hid _ := hm
    clear hm
    by_cases hlt : k < T.length
    · obtain ⟨g, o, rfl, _, c1⟩ := HX.out.1.kept hw.out (by omega)
      obtain ⟨g2, o2, rfl, _, c2⟩ := HX.out.2.kept hw.out (by omega)
      have d1 := c1 k hlt
      have d2 := c2 k hlt
      clear c1 c2
      generalize T[k] = tk at *
      generalize T.length = L at *
      have q0 : (tk != tk) = false := by simp
      go_wp2
      go_region
      all_goals go_wp2
      all_goals go_roundg (gk - 1)
      all_goals (have := HM.out; try omega)
      all_goals exact ⟨k + 1, by go_num, by omega, by omega, hw.out.drew⟩
    · obtain e : k = T.length := by omega
      generalize T.length = L at *
      subst e
      go_wp2
      go_ret
      exact ⟨rfl, hw.out⟩

theorem has_no {t : Int} {T : List Int} {k : Nat} (hk : k < T.length) (h : t ∉ T.take k) (h1 : T[k] ≠ t) : t ∉ T.take (k + 1) := fun he => by
  rw [List.take_succ_eq_append_getElem hk] at he
  rcases List.mem_append.1 he with he | he
  · exact h he
  · simp at he
    exact h1 he.symm

set_option maxHeartbeats 1000000 in
theorem has_any {x : Option Addr} {c : Nat} {T : List Int} (t : Int) (w : World) (hl : T.length ≤ 1000000) (hx : Rdi w x T) :
    Calls Try.prog 31 #[.slice x T.length c, .int .i64 t] w fun e w' => e = .returned (.bool (decide (t ∈ T))) ∧ Kept w w' := by
  have HX : Hid (Rdi w x T) := hx
  clear hx
  go_enter Try.func31, Try.ntmps31
  go_wp2
  go_loopg [5] T.length (fun m i wr => ∃ k : Nat, i = .int .i64 k ∧ k ≤ T.length ∧ m = T.length - k ∧ Hid (t ∉ T.take k ∧ Kept w wr))
  case atStart => exact ⟨0, rfl, by omega, by omega, by simp, Kept.refl _⟩
  case round =>
    obtain ⟨k, rfl, hk, hm, hw⟩ := hrel
    have HM : Hid _ := hm
    clear hm
    by_cases hlt : k < T.length
    · obtain ⟨g, o, rfl, _, c1⟩ := HX.out.kept hw.out.2 (by omega)
      have d1 := c1 k hlt
      have HY : Hid (T[k] = t → decide (t ∈ T) = true) := fun q => by
        rw [← q]; exact decide_eq_true (List.getElem_mem hlt)
      have HZ : Hid (T[k] ≠ t → t ∉ T.take (k + 1)) := fun q => has_no hlt hw.out.1 q
      clear c1
      generalize T[k] = tk at *
      by_cases ht : tk = t
      · have e1 : (tk == t) = true := by simpa using ht
        have HE : Hid _ := HY.out ht
        clear ht
        go_wp2
        go_ret
        exact ⟨by rw [HE.out]; rfl, hw.out.2⟩
      · have e1 : (tk == t) = false := by simpa using ht
        have HE : Hid _ := HZ.out ht
        clear ht
        go_wp2
        go_roundg (gk - 1)
        all_goals (have := HM.out; try omega)
        exact ⟨k + 1, by go_num, by omega, by omega, HE.out, hw.out.2⟩
    · have HE : Hid (decide (t ∈ T) = false) := decide_eq_false (by have := hw.out.1; rwa [List.take_of_length_le (by omega)] at this)
      obtain rfl : k = T.length := by omega
      go_wp2
      go_ret
      exact ⟨by rw [HE.out]; rfl, hw.out.2⟩
end Go.Proofs.Ytjobnlfecochfaa
