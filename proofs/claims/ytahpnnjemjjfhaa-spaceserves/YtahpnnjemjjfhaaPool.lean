/-
  Contracts of package pool: a pool as it lies in memory; each method answers as a plain function of what is free.
-/
import Derived.Test.YtahpnnjemjjfhaaFree
import Derived.OwnWalk
namespace Go.Proofs.Ytahpnnjemjjfhaa
open Go.RowKit

/-- A pool (of head type t) at block b, its marks at block g. -/
structure PTab (t : TypeId) (w : World) (b g n : Nat) (F : Nat → Bool) : Prop where
  head : Own w b t [.slice (some ⟨g, 0, none⟩) n n]
  row : w.rowIs g 4 n (fun j => .bool (F j))
  ne : b ≠ g
  few : n ≤ 1024

section
variable {t : TypeId} {w w' w'' : World} {b g n : Nat} {F : Nat → Bool}
theorem PTab.kept (h : PTab t w b g n F) (k : Kept w w') : PTab t w' b g n F := ⟨h.head.kept k, k.row h.row, h.ne, h.few⟩
theorem PTab.muts {D : List Nat} (h : PTab t w b g n F) (m : Mut D w w') (hb : b ∉ D) (hg : g ∉ D) : PTab t w' b g n F := ⟨h.head.muts m hb, m.row h.row hg, h.ne, h.few⟩
theorem PTab.hd (h : PTab t w b g n F) : w.cell? ⟨b, 0, none⟩ = some (.slice (some ⟨g, 0, none⟩) n n) := h.head.blk.at 0 rfl
theorem PTab.at (h : PTab t w b g n F) {k : Nat} (hk : k < n) : w.cell? ⟨g, k, none⟩ = some (.bool (F k)) := h.row.cell hk
theorem PTab.ltb (h : PTab t w b g n F) : b < w.heap.size := h.head.lt
theorem PTab.ltg (h : PTab t w b g n F) : g < w.heap.size := h.row.lt
theorem PTab.set (h : PTab t w b g n F) (k : Nat) (v : Bool) : PTab t (w.setCell ⟨g, k, none⟩ (.bool v)) b g n (setB F k v) :=
  ⟨h.head.set_other (Ne.symm h.ne) _, (h.row.set _ _).congr fun j _ => by by_cases e : j = k <;> simp [e, setB], h.ne, h.few⟩
theorem PTab.alloc (h : PTab t w b g n F) (c : Array Value) (u : TypeId) : PTab t (w.alloc (.cells c u)) b g n F := h.kept ((Kept.refl w).alloc c u)
theorem PTab.grown {row : Option Nat} (h : PTab t w b g n F) (hg : w.grownBy w' row) (hr : ∀ k, row = some k → k ≠ b ∧ k ≠ g) : PTab t w' b g n F :=
  ⟨(hg.block b h.ltb fun e => (hr b e.symm).1 rfl).trans h.head, h.row.of_block (hg.block g h.ltg fun e => (hr g e.symm).2 rfl), h.ne, h.few⟩
theorem PTab.congr {G : Nat → Bool} (h : PTab t w b g n F) (e : ∀ j, j < n → F j = G j) : PTab t w b g n G := ⟨h.head, h.row.congr fun j hj => by rw [e j hj], h.ne, h.few⟩
theorem Mut.grown {D : List Nat} {row : Option Nat} (h : Mut D w w') (hg : w'.grownBy w'' row) (hr : ∀ k, row = some k → w.heap.size ≤ k) : Mut D w w'' :=
  ⟨hg.os.trans h.os, hg.tape.trans h.tape, hg.output.trans h.output, Nat.le_trans h.size hg.size, fun k hk hd =>
    (hg.block k (Nat.lt_of_lt_of_le hk h.size) fun e => by have := hr k e.symm; omega).trans (h.block k hk hd)⟩
end

/-- A slice of the call's own that holds the numbers T. -/
def Got (w : World) (base : Nat) (v : Value) (T : List Nat) : Prop := w.ownsRow base 3 1 v T.length (T.map fun x : Nat => .int .i64 (x : Int))

section
variable {w w' w'' : World} {base : Nat} {v : Value} {T : List Nat}
theorem Got.form (h : Got w base v T) : ∃ x c, v = .slice x T.length c := by
  rcases h.2 with ⟨rfl, h0⟩ | ⟨g, cap, cur, hv, _⟩
  · rw [h0]; exact ⟨_, _, rfl⟩
  · exact ⟨_, _, hv⟩
theorem Got.nil (w : World) (base : Nat) : Got w base (.slice none 0 0) [] := World.ownsRow_nil _ _ _ _
theorem Got.alloc (h : Got w base v T) (o : Obj) : Got (w.alloc o) base v T := World.ownsRow.alloc h o
theorem Got.set (h : Got w base v T) {a : Addr} (ha : a.block < base) (u : Value) : Got (w.setCell a u) base v T :=
  ownsRow_setCell_other h (fun e => by have := (World.ownsRow.lt h _ e).1; omega) u
theorem Got.muts {D : List Nat} (h : Got w base v T) (m : Mut D w w') (hd : ∀ k, k ∈ D → k < base) : Got w' base v T := by
  refine ⟨h.1, ?_⟩
  rcases h.2 with hn | ⟨g, cap, cur, rfl, hb, hgg, rest⟩
  · exact .inl hn
  · refine .inr ⟨g, cap, cur, rfl, hb, ?_, rest⟩
    rw [m.block g (lt_of_block hgg) fun q => by have := hd g q; omega]
    exact hgg
theorem Got.kept (h : Got w base v T) (k : Kept w w') : Got w' base v T := h.muts (D := []) k.mut (fun _ q => by cases q)
theorem Got.low (h : Got w base v T) {b' : Nat} (hb : b' ≤ base) : Got w b' v T := by
  refine ⟨h.1, ?_⟩
  rcases h.2 with hn | ⟨g, cap, cur, rfl, hb', hgg, rest⟩
  · exact .inl hn
  · exact .inr ⟨g, cap, cur, rfl, Nat.le_trans hb hb', hgg, rest⟩
theorem Got.at {x : Option Addr} {l c : Nat} (h : Got w base (.slice x l c) T) {i : Nat} (hi : i < T.length) : ∃ g, x = some ⟨g, 0, none⟩ ∧ base ≤ g ∧ g < w.heap.size ∧ ∀ j, (hj : j < T.length) → w.cell? ⟨g, j, none⟩ = some (.int .i64 (T[j] : Nat)) := by
  rcases h.2 with ⟨e, h0⟩ | ⟨g, cap, cur, e, hb, hg, _⟩
  · omega
  · have e1 : x = some ⟨g, 0, none⟩ := by simpa using (Value.slice.inj e).1
    refine ⟨g, e1, hb, lt_of_block hg, fun j hj => ?_⟩
    have h1 := World.ownsRow.cells h (g := g) (by rw [e1]; rfl) j (.int .i64 (T[j] : Nat)) (by simp [hj])
    rwa [show (⟨g, 0, none⟩ : Addr).add j = ⟨g, j, none⟩ by unfold Addr.add; split <;> simp_all] at h1
theorem Got.push {v' : Value} {j : Nat} (h : w.ownsRow base 3 1 v' (T.length + 1) ((T.map fun x : Nat => .int .i64 (x : Int)) ++ [.int .i64 (j : Int)])) : Got w base v' (T ++ [j]) := by
  unfold Got
  simpa using h
end

theorem info_int8 : (Try.prog.info? 3).map (fun i => (i.zero, i.size, i.bytes)) = some (some (.int .i64 0), 1, 8) := by kernel_rfl
theorem info_bool8 : (Try.prog.info? 4).map (fun i => (i.zero, i.size, i.bytes)) = some (some (.bool false), 1, 1) := by kernel_rfl

set_option maxHeartbeats 400000 in
theorem pthere_any {b g n : Nat} {F : Nat → Bool} (i : Int) (w : World) (h : PTab 104 w b g n F) :
    Calls Try.prog 98 #[.pointer (some ⟨b, 0, none⟩), .int .i64 i] w fun e w' => e = .returned (.bool (inn n i)) ∧ w' = w := by
  have c0 := h.hd
  clear h
  cases hi : inn n i
  · have h1 := tinn_not hi
    by_cases h0 : 0 ≤ i
    · have h2 : ¬ i < (n : Int) := fun q => h1 ⟨h0, q⟩
      clear h1 hi
      go_enter Try.func98, Try.ntmps98
      go_wp2
      go_ret
      exact ⟨rfl, rfl⟩
    · clear h1 hi
      go_enter Try.func98, Try.ntmps98
      go_wp2
      go_ret
      exact ⟨rfl, rfl⟩
  · obtain ⟨k, rfl, hk⟩ := tinn_iff hi
    clear hi
    go_enter Try.func98, Try.ntmps98
    go_wp2
    go_ret
    exact ⟨rfl, rfl⟩

set_option maxHeartbeats 400000 in
theorem pgive_any {b g n : Nat} {F : Nat → Bool} (i : Int) (w : World) (h : PTab 104 w b g n F) :
    Calls Try.prog 86 #[.pointer (some ⟨b, 0, none⟩), .int .i64 i] w fun e w' => e = .returned (.bool (giveB n F i)) ∧ PTab 104 w' b g n (giveF n F i) ∧ Mut [g] w w' := by
  have H := pthere_any i w h
  have c0 := h.hd
  have HT : Hid (PTab 104 w b g n F) := h
  cases hi : inn n i
  · simp only [giveB, giveF, hi, Bool.false_and, Bool.false_eq_true, if_false] at H ⊢
    clear h hi
    go_enter Try.func86, Try.ntmps86
    go_wp2_with fail
    refine H.mono ?_
    rintro e w' ⟨rfl, rfl⟩
    go_wp2
    go_ret
    exact ⟨rfl, HT.out, Mut.refl _ _⟩
  · obtain ⟨k, rfl, hk⟩ := tinn_iff hi
    have c1 := h.at hk
    have c2 := h.row.frozen
    simp only [giveB, giveF, hi, Bool.true_and, Int.toNat_natCast] at H ⊢
    clear h hi
    cases hf : F k
    · rw [hf] at c1
      clear hf
      go_enter Try.func86, Try.ntmps86
      go_wp2_with fail
      refine H.mono ?_
      rintro e w' ⟨rfl, rfl⟩
      go_wp2
      go_ret
      exact ⟨rfl, HT.out.set k true, (Mut.refl _ _).setCell (by simp) _⟩
    · rw [hf] at c1
      clear hf
      go_enter Try.func86, Try.ntmps86
      go_wp2_with fail
      refine H.mono ?_
      rintro e w' ⟨rfl, rfl⟩
      go_wp2
      go_ret
      exact ⟨rfl, HT.out, Mut.refl _ _⟩

set_option maxHeartbeats 1000000 in
theorem pfree_any {b g n : Nat} {F : Nat → Bool} (w : World) (h : PTab 104 w b g n F) :
    Calls Try.prog 39 #[.pointer (some ⟨b, 0, none⟩)] w fun e w' => e = .returned (.int .i64 (cntB F n)) ∧ w' = w := by
  have c0 := h.hd
  have hn := h.few
  have HT : Hid (PTab 104 w b g n F) := h
  clear h
  go_enter Try.func39, Try.ntmps39
  go_wp2
  clear c0
  go_loopg [3, 11] n (fun m x i wr => ∃ k : Nat, i = .int .i64 k ∧ k ≤ n ∧ m = n - k ∧ x = .int .i64 (cntB F k) ∧ wr = w)
  case atStart => exact ⟨0, rfl, by omega, by omega, rfl, rfl⟩
  case round =>
    obtain ⟨k, rfl, hk, hm, rfl, rfl⟩ := hrel
    have HM : Hid _ := hm
    clear hm
    have l0 := cntB_le F k
    by_cases hlt : k < n
    · have a0 := HT.out.at hlt
      have s0 : Hid (cntB F (k + 1) = cntB F k + if F k then 1 else 0) := rfl
      cases hf : F k
      all_goals (rw [hf] at a0 s0; clear hf)
      all_goals go_wp2
      all_goals go_roundg (gk - 1)
      all_goals (have := HM.out; try omega)
      all_goals exact ⟨k + 1, by go_num, by omega, by omega, by simp [s0.out], rfl⟩
    · obtain rfl : k = n := by omega
      go_wp2
      go_ret
      exact ⟨rfl, rfl⟩
end Go.Proofs.Ytahpnnjemjjfhaa
