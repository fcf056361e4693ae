/-
  Package op's Check, where it answers that all is well; configurations as plain values.
-/
import Derived.Test.YtbmcbkebcchjmaaGreatDoorCopy20b
import Derived.Test.YtbmcbkebcchjmaaGreatDoorFew12
import Derived.Test.YtbmcbkebcchjmaaGreatDoorShape20
import Derived.Laws.RangeString
import Derived.Laws.RangeAny
import Derived.Lib.OthersKept
namespace Go.Proofs.YtbmcbkebcchjmaaGreatDoor
open Go.RowKit

theorem run_store_complex {P : Program} {w : World} {a : Addr} {m : Mode} (k : FloatKind) (x y : Nat) : (store a (.complex k x y) m).run P w = stored P w a (.complex k x y) m := run_store P w a _ m rfl
attribute [local go_sem] run_store_complex

/-- An operation: its kind, its numbers, the bits of its two parts. -/
structure OP where
  k : Nat
  a : Int
  b : Int
  c : Int
  n : Int
  x : Nat
  y : Nat
def lts : Nat → List UInt8
  | 1 => [65, 75] | 2 => [65, 75, 78] | 3 => [65, 66, 78] | 4 => [65, 78, 66] | 5 => [65, 66, 78] | 6 => [65, 78, 66] | 7 => [65, 71] | 8 => [71, 66] | 9 => [65, 66, 67] | 10 => [65, 66] | 11 => [65, 66]
  | 12 => [65, 88, 89] | 13 => [65] | 14 => [65, 66] | 15 => [65, 66, 67] | 16 => [65, 66, 67] | _ => []
theorem kinds (k : Nat) (h1 : 1 ≤ k) (h2 : k ≤ 18) : k = 1 ∨ k = 2 ∨ k = 3 ∨ k = 4 ∨ k = 5 ∨ k = 6 ∨ k = 7 ∨ k = 8 ∨ k = 9 ∨ k = 10 ∨ k = 11 ∨ k = 12 ∨ k = 13 ∨ k = 14 ∨ k = 15 ∨ k = 16 ∨ k = 17 ∨ k = 18 := by omega
def OP.num (o : OP) (l : UInt8) : Int := if l = 65 then o.a else if l = 66 ∨ l = 75 then o.b else if l = 67 then o.c else o.n
/-- An operation as a Go value. -/
def OP.val (o : OP) : Value := .agg #[.int .i64 (o.k : Int), .int .i64 o.a, .int .i64 o.b, .int .i64 o.c, .int .i64 o.n, .complex .f64 o.x o.y]
def OP.cs (o : OP) : List Value := [.int .i64 (o.k : Int), .int .i64 o.a, .int .i64 o.b, .int .i64 o.c, .int .i64 o.n, .complex .f64 o.x o.y]
theorem OP.val_cs (o : OP) : o.val = .agg o.cs.toArray := rfl
theorem lts_ascii (k : Nat) : ∀ l ∈ lts k, l.toNat < 128 := by
  by_cases h : 1 ≤ k ∧ k ≤ 18
  · rcases kinds k h.1 h.2 with rfl | rfl | rfl | rfl | rfl | rfl | rfl | rfl | rfl | rfl | rfl | rfl | rfl | rfl | rfl | rfl | rfl | rfl <;> decide
  · have e : lts k = [] := by unfold lts; split <;> first | omega | rfl
    rw [e]; simp
theorem lts_len (k : Nat) : (lts k).length ≤ 3 := by
  by_cases h : 1 ≤ k ∧ k ≤ 18
  · rcases kinds k h.1 h.2 with rfl | rfl | rfl | rfl | rfl | rfl | rfl | rfl | rfl | rfl | rfl | rfl | rfl | rfl | rfl | rfl | rfl | rfl <;> decide
  · have e : lts k = [] := by unfold lts; split <;> first | omega | rfl
    rw [e]; simp

/-- What the package-level variable holds that op reads. -/
structure Vs (w : World) : Prop where
  lt : 1 < w.heap.size
  lts : ∀ k, k < 19 → w.cell? ⟨1, k * 2 + 1, none⟩ = some (.string ⟨(lts k).toArray⟩)
theorem Vs.keep {w w' : World} (h : Vs w) (q : Kept w w') : Vs w' :=
  ⟨Nat.lt_of_lt_of_le h.lt q.size, fun k hk => (q.cell (a := ⟨1, k * 2 + 1, none⟩) h.lt).trans (h.lts k hk)⟩

/-- An iterator over a text. -/
def It (w : World) (g : Nat) (s : List UInt8) (i : Nat) : Prop := w.heap[g]? = some (.stringIter ⟨s.toArray⟩ i)
theorem It.kept {w w' : World} {g i : Nat} {s : List UInt8} (h : It w g s i) (k : Kept w w') : It w' g s i := by
  have hlt : g < w.heap.size := (Array.getElem?_eq_some_iff.1 h).1
  exact (k.below.block g hlt).trans h
theorem Blk.iterAt {w : World} {b g i : Nat} {L : List Value} {s : ByteArray} (h : Blk w b L) (hg : b ≠ g) : Blk (w.iterAt g s i) b L := by
  have e := Lib.iterAt_other w g b s i hg
  refine ⟨by rw [Lib.iterAt_size]; exact h.lt, fun j => ?_, fun j v hv => ?_⟩
  · exact (World.frozen?_of_block (w := w) (a := ⟨b, j, none⟩) e).trans (h.fz j)
  · exact (World.cell?_of_block (w := w) (a := ⟨b, j, none⟩) e).trans (h.cells j v hv)
theorem Kept.iterAt {w w' : World} (h : Kept w w') {g i : Nat} (hg : w.heap.size ≤ g) (s : ByteArray) : Kept w (w'.iterAt g s i) := ⟨Lib.below_iterAt h.below hg s i⟩
theorem next_l {P : Program} (w : World) (g : Nat) (s : List UInt8) (i : Nat) (h : It w g s i) (hi : i < s.length) (ha : ∀ l ∈ s, l.toNat < 128) (ty : TypeId) :
    (Instr.next (.pointer (some ⟨g, 0, none⟩)) true ty).run P w = .ok (.tuple #[.bool true, .int .i64 i, .int .i32 ((s[i]).toNat : Int)]) (w.iterAt g ⟨s.toArray⟩ (i + 1)) :=
  Lib.run_next_ascii_at w g ⟨s.toArray⟩ i ty h (by simp [ByteArray.size]; omega) (ha _ (List.getElem_mem hi))
theorem next_e {P : Program} (w : World) (g : Nat) (s : List UInt8) (i : Nat) (h : It w g s i) (hi : ¬ i < s.length) (ty : TypeId) :
    (Instr.next (.pointer (some ⟨g, 0, none⟩)) true ty).run P w = .ok (.tuple #[.bool false]) w :=
  Lib.run_next_end_at w g ⟨s.toArray⟩ i ty h (by simp [ByteArray.size]; omega)
theorem It.step {w : World} {g i : Nat} {s : List UInt8} (h : It w g s i) (j : Nat) : It (w.iterAt g ⟨s.toArray⟩ j) g s j := Lib.iterAt_heap w g _ i j h

/-! ### Configurations -/
structure Cf where
  n0 : Int
  n1 : Int
  n2 : Int
  n3 : Int
  n4 : Int
  n5 : Int
  n6 : Int
  n7 : Int
  l : Nat
  A : Nat → Bool
  L : Nat → Nat
  R : Nat → Nat → Bool
structure Cf.Ok (C : Cf) : Prop where
  fits : Fits C.n0 C.n1 C.n2 C.n3 C.n4 C.n5 C.n6 C.n7
  l1 : 1 ≤ C.l
  l8 : C.l ≤ 8
  arr : ∀ i, i < C.l → C.A i = true → C.L i = 1
  obj : ∀ i, i < C.l → C.A i = false → C.L i ≤ 40
/-- As it lies in memory. -/
structure CM (C : Cf) (w : World) (x : Option Addr) (S : Nat → Sh) : Prop where
  shps : Shps w x C.l S
  refs : ∀ i, i < C.l → Refs w (S i).x (S i).l (C.R i)
  arr : ∀ i, i < C.l → (S i).arr = C.A i
  len : ∀ i, i < C.l → (S i).l = C.L i
theorem CM.kept {C : Cf} {w w' : World} {x : Option Addr} {S : Nat → Sh} (h : CM C w x S) (k : Kept w w') : CM C w' x S := ⟨h.shps.kept k, fun i hi => (h.refs i hi).kept k, h.arr, h.len⟩
def Cf.cs (C : Cf) (v : Value) : List Value := cl C.n0 C.n1 C.n2 C.n3 C.n4 C.n5 C.n6 C.n7 v
def Cf.val (C : Cf) (v : Value) : Value := .agg #[.int .i64 C.n0, .int .i64 C.n1, .int .i64 C.n2, .int .i64 C.n3, .int .i64 C.n4, .int .i64 C.n5, .int .i64 C.n6, .int .i64 C.n7, v]
theorem CM.mays {C : Cf} {w : World} {x : Option Addr} {S : Nat → Sh} (h : CM C w x S) (o : C.Ok) : Mays C.l S := ⟨o.l1, o.l8, fun i hi => by
  unfold Sh.may
  rw [h.arr i hi, h.len i hi]
  cases ha : C.A i
  · have := o.obj i hi ha
    simp; omega
  · have := o.arr i hi ha
    simp [this]⟩
theorem check_ok {C : Cf} {x : Option Addr} {c : Nat} {S : Nat → Sh} (o : C.Ok) {w : World} (h : CM C w x S) : Calls Tryz.prog 19 #[C.val (.slice x C.l c)] w fun e w' => e = .returned (.int .i64 0) ∧ Kept w w' :=
  check_any _ _ _ _ _ _ _ _ x C.l c S 0 w h.shps (Checks.of_ok o.fits (h.mays o))
theorem CM.l40 {C : Cf} {w : World} {x : Option Addr} {S : Nat → Sh} (h : CM C w x S) (o : C.Ok) {k : Nat} (hk : k < C.l) : (S k).l ≤ 40 := by
  have := (h.mays o).2.2 k hk
  unfold Sh.may at this
  split at this <;> simp at this <;> omega
theorem kind_ok {C : Cf} {x : Option Addr} {c : Nat} {S : Nat → Sh} (o : C.Ok) {w : World} (h : CM C w x S) {k : Nat} (hk : k < C.l) :
    Calls Tryz.prog 96 #[C.val (.slice x C.l c), .int .i64 (k : Int)] w fun e w' => ∃ g, e = .returned (.tuple #[.agg #[.bool (C.A k), .slice (some ⟨g, 0, none⟩) (C.L k) (C.L k)], .bool true]) ∧ Kept w w' := by
  refine (shape_in _ _ _ _ _ _ _ _ x C.l c S (C.R k) k w hk (by have := h.l40 o hk; omega) h.shps (h.refs k hk)).mono ?_
  rintro e w' ⟨g, rfl, _, _, K⟩
  refine ⟨g, ?_, K⟩
  rw [h.arr k hk, h.len k hk]

/-! ### What is made -/
def Cf.fr (C : Cf) (k : Nat) (n : Int) : Int := if C.A k then arrSize n else 1 + (C.L k : Int) / 7
def Cf.sp (C : Cf) (k : Nat) (n : Int) : Int := if C.A k then spineOf n else 0
theorem size_ok {C : Cf} (o : C.Ok) {k : Nat} (hk : k < C.l) (n : Int) (hn : C.A k = false → n = 0) (x : Option Addr) (c : Nat) (w : World) :
    Calls Tryz.prog 11 #[.agg #[.bool (C.A k), .slice x (C.L k) c], .int .i64 n] w fun e w' => e = .returned (.int .i64 (C.fr k n)) ∧ Kept w w' := by
  unfold Cf.fr
  cases ha : C.A k
  · rw [hn ha]
    exact size_obj x (C.L k) c _ w (o.obj k hk ha) rfl
  · rw [o.arr k hk ha]
    exact size_arr x c n w
theorem spine_ok {C : Cf} (o : C.Ok) {k : Nat} (hk : k < C.l) (n : Int) (x : Option Addr) (c : Nat) (w : World) :
    Calls Tryz.prog 12 #[.agg #[.bool (C.A k), .slice x (C.L k) c], .int .i64 n] w fun e w' => e = .returned (.int .i64 (C.sp k n)) ∧ Kept w w' := by
  unfold Cf.sp
  cases ha : C.A k
  · exact spine_obj x (C.L k) c n w
  · rw [o.arr k hk ha]
    exact spine_arr x c n w

set_option maxHeartbeats 400000 in
theorem known_yes (k : Nat) (h1 : 1 ≤ k) (h2 : k ≤ 18) (w : World) : Calls Tryz.prog 74 #[.int .i64 (k : Int)] w fun e w' => e = .returned (.bool true) ∧ w' = w := by
  go_enter Tryz.func74, Tryz.ntmps74
  go_wp2
  go_ret
  simp
  omega
set_option maxHeartbeats 400000 in
theorem makes_any (k : Nat) (w : World) : Calls Tryz.prog 76 #[.int .i64 (k : Int)] w fun e w' => e = .returned (.bool (decide (k = 1 ∨ k = 2))) ∧ w' = w := by
  by_cases h1 : k = 1
  · subst h1
    go_enter Tryz.func76, Tryz.ntmps76
    go_wp2
    go_ret
    exact ⟨rfl, rfl⟩
  · have e1 : ((k : Int) == 1) = false := by simp; omega
    have e2 : decide (k = 1 ∨ k = 2) = ((k : Int) == 2) := by rw [Bool.eq_iff_iff]; simp; omega
    rw [e2]
    go_enter Tryz.func76, Tryz.ntmps76
    go_wp2
    go_ret
    first | exact ⟨rfl, rfl⟩ | exact ⟨by simp, rfl⟩
set_option maxHeartbeats 400000 in
theorem opwithin_yes (n m : Int) (h0 : 0 ≤ n) (h1 : n < m) (w : World) : Calls Tryz.prog 104 #[.int .i64 n, .int .i64 m] w fun e w' => e = .returned (.bool true) ∧ w' = w := by
  go_enter Tryz.func104, Tryz.ntmps104
  go_wp2
  go_ret
  exact ⟨rfl, rfl⟩

theorem lz (l : UInt8) (z : Int) (hz : z = (l.toNat : Int)) (n : Nat) (hn : n < 256) (h : l ≠ UInt8.ofNat n) : ¬ z = (n : Int) := fun e => h (UInt8.toNat_inj.1 (by
  have : (UInt8.ofNat n).toNat = n := by simp; omega
  omega))
theorem lb (l : UInt8) (z : Int) (hz : z = (l.toNat : Int)) (n : Nat) (hn : n < 256) (h : l ≠ UInt8.ofNat n) : (z == (n : Int)) = false := by
  have := lz l z hz n hn h
  simpa using this
set_option maxHeartbeats 1000000 in
theorem num_any (o : OP) (l : UInt8) (w : World) : Calls Tryz.prog 105 #[o.val, .int .i32 (l.toNat : Int)] w fun e w' => e = .returned (.int .i64 (o.num l)) ∧ Kept w w' := by
  obtain ⟨k, a, b, c, n, x, y⟩ := o
  unfold OP.val OP.num
  dsimp only
  by_cases h65 : l = 65
  · subst h65
    rw [show (if (65 : UInt8) = 65 then a else if (65 : UInt8) = 66 ∨ (65 : UInt8) = 75 then b else if (65 : UInt8) = 67 then c else n) = a from rfl]
    obtain ⟨z, hz⟩ : ∃ z : Int, z = ((65 : UInt8).toNat : Int) := ⟨_, rfl⟩
    rw [← hz]
    have hz2 : z = 65 := hz
    subst hz2
    clear hz
    go_enter Tryz.func105, Tryz.ntmps105
    go_wp2
    go_ret
    exact ⟨rfl, (Kept.refl w).alloc _ _⟩
  by_cases h66 : l = 66
  · subst h66
    rw [show (if (66 : UInt8) = 65 then a else if (66 : UInt8) = 66 ∨ (66 : UInt8) = 75 then b else if (66 : UInt8) = 67 then c else n) = b from rfl]
    obtain ⟨z, hz⟩ : ∃ z : Int, z = ((66 : UInt8).toNat : Int) := ⟨_, rfl⟩
    rw [← hz]
    have hz2 : z = 66 := hz
    subst hz2
    clear hz
    go_enter Tryz.func105, Tryz.ntmps105
    go_wp2
    go_ret
    exact ⟨rfl, (Kept.refl w).alloc _ _⟩
  by_cases h75 : l = 75
  · subst h75
    rw [show (if (75 : UInt8) = 65 then a else if (75 : UInt8) = 66 ∨ (75 : UInt8) = 75 then b else if (75 : UInt8) = 67 then c else n) = b from rfl]
    obtain ⟨z, hz⟩ : ∃ z : Int, z = ((75 : UInt8).toNat : Int) := ⟨_, rfl⟩
    rw [← hz]
    have hz2 : z = 75 := hz
    subst hz2
    clear hz
    go_enter Tryz.func105, Tryz.ntmps105
    go_wp2
    go_ret
    exact ⟨rfl, (Kept.refl w).alloc _ _⟩
  by_cases h67 : l = 67
  · subst h67
    rw [show (if (67 : UInt8) = 65 then a else if (67 : UInt8) = 66 ∨ (67 : UInt8) = 75 then b else if (67 : UInt8) = 67 then c else n) = c from rfl]
    obtain ⟨z, hz⟩ : ∃ z : Int, z = ((67 : UInt8).toNat : Int) := ⟨_, rfl⟩
    rw [← hz]
    have hz2 : z = 67 := hz
    subst hz2
    clear hz
    go_enter Tryz.func105, Tryz.ntmps105
    go_wp2
    go_ret
    exact ⟨rfl, (Kept.refl w).alloc _ _⟩
  rw [if_neg h65, if_neg (fun q => q.elim h66 h75), if_neg h67]
  obtain ⟨z, hz⟩ : ∃ z : Int, z = (l.toNat : Int) := ⟨_, rfl⟩
  rw [← hz]
  have z65 : (z == 65) = false := lb l z hz 65 (by decide) h65
  have z66 : (z == 66) = false := lb l z hz 66 (by decide) h66
  have z75 : (z == 75) = false := lb l z hz 75 (by decide) h75
  have z67 : (z == 67) = false := lb l z hz 67 (by decide) h67
  clear hz h65 h66 h75 h67
  go_enter Tryz.func105, Tryz.ntmps105
  go_wp2
  go_ret
  exact ⟨rfl, (Kept.refl w).alloc _ _⟩

/-- What a letter names is there. -/
def Names (C : Cf) (o : OP) (l : UInt8) : Prop := (l = 65 ∨ l = 66 ∨ l = 67 → 0 ≤ o.num l ∧ o.num l < C.n4) ∧ (l = 71 → 0 ≤ o.num l ∧ o.num l < C.n2)

set_option maxHeartbeats 2000000 in
theorem there_ok (C : Cf) (v : Value) (o : OP) (l : UInt8) (h : Names C o l) (w : World) : Calls Tryz.prog 95 #[C.val v, o.val, .int .i32 (l.toNat : Int)] w fun e w' => e = .returned (.bool true) ∧ Kept w w' := by
  have HN : Hid (∀ W, Calls Tryz.prog 105 #[o.val, .int .i32 (l.toNat : Int)] W fun e w' => e = .returned (.int .i64 (o.num l)) ∧ Kept W w') := fun W => num_any o l W
  have H : Hid (Names C o l) := h
  clear h
  obtain ⟨z, hz⟩ : ∃ z : Int, z = (l.toNat : Int) := ⟨_, rfl⟩
  rw [← hz] at HN ⊢
  by_cases hl : l = 71
  · have HW : Hid (∀ W, Calls Tryz.prog 104 #[.int .i64 (o.num l), .int .i64 C.n2] W fun e w' => e = .returned (.bool true) ∧ w' = W) := fun W => opwithin_yes _ _ (H.out.2 hl).1 (H.out.2 hl).2 W
    generalize o.num l = nm at HN HW
    obtain ⟨n0, n1, n2, n3, n4, n5, n6, n7, l', A, L, R⟩ := C
    obtain ⟨k, a, b, c, n, x, y⟩ := o
    unfold OP.val at HN ⊢
    unfold Cf.val
    dsimp only at HN HW ⊢
    subst hl
    have hz2 : z = 71 := hz
    subst hz2
    clear hz H
    go_enter Tryz.func95, Tryz.ntmps95
    go_wp2_with fail
    generalize hW1 : w.alloc _ = W1
    have B1 : Hid (Blk W1 w.heap.size (cl n0 n1 n2 n3 n4 n5 n6 n7 v)) := by rw [← hW1]; exact Blk.new w _ _
    have K1 : Hid (Kept w W1) := by rw [← hW1]; exact (Kept.refl w).alloc _ _
    have s1 : W1.heap.size = w.heap.size + 1 := by rw [← hW1]; simp
    clear hW1
    generalize hW2 : W1.alloc _ = W2
    have B2 : Hid (Blk W2 (w.heap.size + 1) [.int .i64 (k : Int), .int .i64 a, .int .i64 b, .int .i64 c, .int .i64 n, .complex .f64 x y]) := by rw [← hW2, ← s1]; exact Blk.new W1 _ _
    have B3 : Hid (Blk W2 w.heap.size (cl n0 n1 n2 n3 n4 n5 n6 n7 v)) := by rw [← hW2]; exact B1.out.kept ((Kept.refl W1).alloc _ _)
    have K2 : Hid (Kept w W2) := by rw [← hW2]; exact K1.out.alloc _ _
    clear hW2 B1 K1 s1
    have d0 := fun z : KW W2 => z.cell (a := ⟨w.heap.size + 1, 0, none⟩) B2.out.lt (B2.out.at 0 rfl)
    have d1 := fun z : KW W2 => z.cell (a := ⟨w.heap.size + 1, 1, none⟩) B2.out.lt (B2.out.at 1 rfl)
    have d2 := fun z : KW W2 => z.cell (a := ⟨w.heap.size + 1, 2, none⟩) B2.out.lt (B2.out.at 2 rfl)
    have d3 := fun z : KW W2 => z.cell (a := ⟨w.heap.size + 1, 3, none⟩) B2.out.lt (B2.out.at 3 rfl)
    have d4 := fun z : KW W2 => z.cell (a := ⟨w.heap.size + 1, 4, none⟩) B2.out.lt (B2.out.at 4 rfl)
    have d5 := fun z : KW W2 => z.cell (a := ⟨w.heap.size + 1, 5, none⟩) B2.out.lt (B2.out.at 5 rfl)
    have e2 := fun z : KW W2 => z.cell (a := ⟨w.heap.size, 2, none⟩) B3.out.lt (B3.out.at 2 rfl)
    refine wp_region_kept (by kernel_rfl) (by kernel_rfl) fun _ => ?_
    repeat (go_big_quiet_step (first | (go_at_call 105; exact kept_of (HN.out _)) | (go_at_call 104; exact kept_of_same (HW.out _))))
    refine wpQuiet_nil ?_
    rintro _ ⟨z, rfl⟩
    clear d0 d1 d2 d3 d4 d5 e2
    go_wp2
    go_ret
    exact ⟨rfl, K2.out.trans z.ok⟩
  have h71 : (z == 71) = false := lb l z hz 71 (by decide) hl
  clear hl
  by_cases hl : l = 65
  · have HW : Hid (∀ W, Calls Tryz.prog 104 #[.int .i64 (o.num l), .int .i64 C.n4] W fun e w' => e = .returned (.bool true) ∧ w' = W) := fun W => opwithin_yes _ _ (H.out.1 (.inl hl)).1 (H.out.1 (.inl hl)).2 W
    generalize o.num l = nm at HN HW
    obtain ⟨n0, n1, n2, n3, n4, n5, n6, n7, l', A, L, R⟩ := C
    obtain ⟨k, a, b, c, n, x, y⟩ := o
    unfold OP.val at HN ⊢
    unfold Cf.val
    dsimp only at HN HW ⊢
    subst hl
    have hz2 : z = 65 := hz
    subst hz2
    clear hz H
    go_enter Tryz.func95, Tryz.ntmps95
    go_wp2_with fail
    generalize hW1 : w.alloc _ = W1
    have B1 : Hid (Blk W1 w.heap.size (cl n0 n1 n2 n3 n4 n5 n6 n7 v)) := by rw [← hW1]; exact Blk.new w _ _
    have K1 : Hid (Kept w W1) := by rw [← hW1]; exact (Kept.refl w).alloc _ _
    have s1 : W1.heap.size = w.heap.size + 1 := by rw [← hW1]; simp
    clear hW1
    generalize hW2 : W1.alloc _ = W2
    have B2 : Hid (Blk W2 (w.heap.size + 1) [.int .i64 (k : Int), .int .i64 a, .int .i64 b, .int .i64 c, .int .i64 n, .complex .f64 x y]) := by rw [← hW2, ← s1]; exact Blk.new W1 _ _
    have B3 : Hid (Blk W2 w.heap.size (cl n0 n1 n2 n3 n4 n5 n6 n7 v)) := by rw [← hW2]; exact B1.out.kept ((Kept.refl W1).alloc _ _)
    have K2 : Hid (Kept w W2) := by rw [← hW2]; exact K1.out.alloc _ _
    clear hW2 B1 K1 s1
    have d0 := fun z : KW W2 => z.cell (a := ⟨w.heap.size + 1, 0, none⟩) B2.out.lt (B2.out.at 0 rfl)
    have d1 := fun z : KW W2 => z.cell (a := ⟨w.heap.size + 1, 1, none⟩) B2.out.lt (B2.out.at 1 rfl)
    have d2 := fun z : KW W2 => z.cell (a := ⟨w.heap.size + 1, 2, none⟩) B2.out.lt (B2.out.at 2 rfl)
    have d3 := fun z : KW W2 => z.cell (a := ⟨w.heap.size + 1, 3, none⟩) B2.out.lt (B2.out.at 3 rfl)
    have d4 := fun z : KW W2 => z.cell (a := ⟨w.heap.size + 1, 4, none⟩) B2.out.lt (B2.out.at 4 rfl)
    have d5 := fun z : KW W2 => z.cell (a := ⟨w.heap.size + 1, 5, none⟩) B2.out.lt (B2.out.at 5 rfl)
    have e4 := fun z : KW W2 => z.cell (a := ⟨w.heap.size, 4, none⟩) B3.out.lt (B3.out.at 4 rfl)
    refine wp_region_kept (by kernel_rfl) (by kernel_rfl) fun _ => ?_
    repeat (go_big_quiet_step (first | (go_at_call 105; exact kept_of (HN.out _)) | (go_at_call 104; exact kept_of_same (HW.out _))))
    refine wpQuiet_nil ?_
    rintro _ ⟨z, rfl⟩
    clear d0 d1 d2 d3 d4 d5 e4
    go_wp2
    go_ret
    exact ⟨rfl, K2.out.trans z.ok⟩
  have h65 : (z == 65) = false := lb l z hz 65 (by decide) hl
  clear hl
  by_cases hl : l = 66
  · have HW : Hid (∀ W, Calls Tryz.prog 104 #[.int .i64 (o.num l), .int .i64 C.n4] W fun e w' => e = .returned (.bool true) ∧ w' = W) := fun W => opwithin_yes _ _ (H.out.1 (.inr (.inl hl))).1 (H.out.1 (.inr (.inl hl))).2 W
    generalize o.num l = nm at HN HW
    obtain ⟨n0, n1, n2, n3, n4, n5, n6, n7, l', A, L, R⟩ := C
    obtain ⟨k, a, b, c, n, x, y⟩ := o
    unfold OP.val at HN ⊢
    unfold Cf.val
    dsimp only at HN HW ⊢
    subst hl
    have hz2 : z = 66 := hz
    subst hz2
    clear hz H
    go_enter Tryz.func95, Tryz.ntmps95
    go_wp2_with fail
    generalize hW1 : w.alloc _ = W1
    have B1 : Hid (Blk W1 w.heap.size (cl n0 n1 n2 n3 n4 n5 n6 n7 v)) := by rw [← hW1]; exact Blk.new w _ _
    have K1 : Hid (Kept w W1) := by rw [← hW1]; exact (Kept.refl w).alloc _ _
    have s1 : W1.heap.size = w.heap.size + 1 := by rw [← hW1]; simp
    clear hW1
    generalize hW2 : W1.alloc _ = W2
    have B2 : Hid (Blk W2 (w.heap.size + 1) [.int .i64 (k : Int), .int .i64 a, .int .i64 b, .int .i64 c, .int .i64 n, .complex .f64 x y]) := by rw [← hW2, ← s1]; exact Blk.new W1 _ _
    have B3 : Hid (Blk W2 w.heap.size (cl n0 n1 n2 n3 n4 n5 n6 n7 v)) := by rw [← hW2]; exact B1.out.kept ((Kept.refl W1).alloc _ _)
    have K2 : Hid (Kept w W2) := by rw [← hW2]; exact K1.out.alloc _ _
    clear hW2 B1 K1 s1
    have d0 := fun z : KW W2 => z.cell (a := ⟨w.heap.size + 1, 0, none⟩) B2.out.lt (B2.out.at 0 rfl)
    have d1 := fun z : KW W2 => z.cell (a := ⟨w.heap.size + 1, 1, none⟩) B2.out.lt (B2.out.at 1 rfl)
    have d2 := fun z : KW W2 => z.cell (a := ⟨w.heap.size + 1, 2, none⟩) B2.out.lt (B2.out.at 2 rfl)
    have d3 := fun z : KW W2 => z.cell (a := ⟨w.heap.size + 1, 3, none⟩) B2.out.lt (B2.out.at 3 rfl)
    have d4 := fun z : KW W2 => z.cell (a := ⟨w.heap.size + 1, 4, none⟩) B2.out.lt (B2.out.at 4 rfl)
    have d5 := fun z : KW W2 => z.cell (a := ⟨w.heap.size + 1, 5, none⟩) B2.out.lt (B2.out.at 5 rfl)
    have e4 := fun z : KW W2 => z.cell (a := ⟨w.heap.size, 4, none⟩) B3.out.lt (B3.out.at 4 rfl)
    refine wp_region_kept (by kernel_rfl) (by kernel_rfl) fun _ => ?_
    repeat (go_big_quiet_step (first | (go_at_call 105; exact kept_of (HN.out _)) | (go_at_call 104; exact kept_of_same (HW.out _))))
    refine wpQuiet_nil ?_
    rintro _ ⟨z, rfl⟩
    clear d0 d1 d2 d3 d4 d5 e4
    go_wp2
    go_ret
    exact ⟨rfl, K2.out.trans z.ok⟩
  have h66 : (z == 66) = false := lb l z hz 66 (by decide) hl
  clear hl
  by_cases hl : l = 67
  · have HW : Hid (∀ W, Calls Tryz.prog 104 #[.int .i64 (o.num l), .int .i64 C.n4] W fun e w' => e = .returned (.bool true) ∧ w' = W) := fun W => opwithin_yes _ _ (H.out.1 (.inr (.inr hl))).1 (H.out.1 (.inr (.inr hl))).2 W
    generalize o.num l = nm at HN HW
    obtain ⟨n0, n1, n2, n3, n4, n5, n6, n7, l', A, L, R⟩ := C
    obtain ⟨k, a, b, c, n, x, y⟩ := o
    unfold OP.val at HN ⊢
    unfold Cf.val
    dsimp only at HN HW ⊢
    subst hl
    have hz2 : z = 67 := hz
    subst hz2
    clear hz H
    go_enter Tryz.func95, Tryz.ntmps95
    go_wp2_with fail
    generalize hW1 : w.alloc _ = W1
    have B1 : Hid (Blk W1 w.heap.size (cl n0 n1 n2 n3 n4 n5 n6 n7 v)) := by rw [← hW1]; exact Blk.new w _ _
    have K1 : Hid (Kept w W1) := by rw [← hW1]; exact (Kept.refl w).alloc _ _
    have s1 : W1.heap.size = w.heap.size + 1 := by rw [← hW1]; simp
    clear hW1
    generalize hW2 : W1.alloc _ = W2
    have B2 : Hid (Blk W2 (w.heap.size + 1) [.int .i64 (k : Int), .int .i64 a, .int .i64 b, .int .i64 c, .int .i64 n, .complex .f64 x y]) := by rw [← hW2, ← s1]; exact Blk.new W1 _ _
    have B3 : Hid (Blk W2 w.heap.size (cl n0 n1 n2 n3 n4 n5 n6 n7 v)) := by rw [← hW2]; exact B1.out.kept ((Kept.refl W1).alloc _ _)
    have K2 : Hid (Kept w W2) := by rw [← hW2]; exact K1.out.alloc _ _
    clear hW2 B1 K1 s1
    have d0 := fun z : KW W2 => z.cell (a := ⟨w.heap.size + 1, 0, none⟩) B2.out.lt (B2.out.at 0 rfl)
    have d1 := fun z : KW W2 => z.cell (a := ⟨w.heap.size + 1, 1, none⟩) B2.out.lt (B2.out.at 1 rfl)
    have d2 := fun z : KW W2 => z.cell (a := ⟨w.heap.size + 1, 2, none⟩) B2.out.lt (B2.out.at 2 rfl)
    have d3 := fun z : KW W2 => z.cell (a := ⟨w.heap.size + 1, 3, none⟩) B2.out.lt (B2.out.at 3 rfl)
    have d4 := fun z : KW W2 => z.cell (a := ⟨w.heap.size + 1, 4, none⟩) B2.out.lt (B2.out.at 4 rfl)
    have d5 := fun z : KW W2 => z.cell (a := ⟨w.heap.size + 1, 5, none⟩) B2.out.lt (B2.out.at 5 rfl)
    have e4 := fun z : KW W2 => z.cell (a := ⟨w.heap.size, 4, none⟩) B3.out.lt (B3.out.at 4 rfl)
    refine wp_region_kept (by kernel_rfl) (by kernel_rfl) fun _ => ?_
    repeat (go_big_quiet_step (first | (go_at_call 105; exact kept_of (HN.out _)) | (go_at_call 104; exact kept_of_same (HW.out _))))
    refine wpQuiet_nil ?_
    rintro _ ⟨z, rfl⟩
    clear d0 d1 d2 d3 d4 d5 e4
    go_wp2
    go_ret
    exact ⟨rfl, K2.out.trans z.ok⟩
  have h67 : (z == 67) = false := lb l z hz 67 (by decide) hl
  clear hl
  clear hz H HN
  unfold OP.val Cf.val
  go_enter Tryz.func95, Tryz.ntmps95
  go_wp2
  go_ret
  exact ⟨rfl, ((Kept.refl w).alloc _ _).alloc _ _⟩

set_option maxHeartbeats 4000000 in
theorem named_ok (C : Cf) (v : Value) (o : OP) (hk : o.k < 19) (h : ∀ l ∈ lts o.k, Names C o l) (w : World) (hv : Vs w) : Calls Tryz.prog 75 #[C.val v, o.val] w fun e w' => e = .returned (.bool true) ∧ Kept w w' := by
  have HV : Hid (Vs w) := hv
  have HT : Hid (∀ l ∈ lts o.k, ∀ W, Calls Tryz.prog 95 #[C.val v, o.val, .int .i32 (l.toNat : Int)] W fun e w' => e = .returned (.bool true) ∧ Kept W w') := fun l hl W => there_ok C v o l (h l hl) W
  have HA : Hid (∀ l ∈ lts o.k, l.toNat < 128) := lts_ascii o.k
  have hlen := lts_len o.k
  have hq := fun (A B : Array Value) (t s : TypeId) => ((((Kept.refl w).alloc A t).alloc B s).cell (a := ⟨1, o.k * 2 + 1, none⟩) hv.lt).trans (hv.lts o.k hk)
  clear hv h
  obtain ⟨n0, n1, n2, n3, n4, n5, n6, n7, l', A, L, R⟩ := C
  obtain ⟨k, a, b, c, n, x, y⟩ := o
  unfold OP.val Cf.val at HT ⊢
  dsimp only at HT HA hlen hq hk ⊢
  generalize hG : lts k = G at HT HA hlen hq
  clear hG
  go_enter Tryz.func75, Tryz.ntmps75
  go_wp2_with fail
  have H0 : Hid (∀ W, ((w.alloc (.cells #[.int .i64 n0, .int .i64 n1, .int .i64 n2, .int .i64 n3, .int .i64 n4, .int .i64 n5, .int .i64 n6, .int .i64 n7, v] 25)).alloc (.cells #[.int .i64 (k : Int), .int .i64 a, .int .i64 b, .int .i64 c, .int .i64 n, .complex .f64 x y] 38)).iter ⟨G.toArray⟩ 0 = W →
      It W (w.heap.size + 1 + 1) G 0 ∧ Blk W w.heap.size (cl n0 n1 n2 n3 n4 n5 n6 n7 v) ∧ Blk W (w.heap.size + 1) [.int .i64 (k : Int), .int .i64 a, .int .i64 b, .int .i64 c, .int .i64 n, .complex .f64 x y] ∧ Kept w W) := by
    rintro W rfl
    have b0 := Blk.new w (cl n0 n1 n2 n3 n4 n5 n6 n7 v) 25
    have k1 := (Kept.refl (w.alloc (.cells (cl n0 n1 n2 n3 n4 n5 n6 n7 v).toArray 25))).alloc #[.int .i64 (k : Int), .int .i64 a, .int .i64 b, .int .i64 c, .int .i64 n, .complex .f64 x y] 38
    have b1 := Blk.new2 w (cl n0 n1 n2 n3 n4 n5 n6 n7 v).toArray 25 [.int .i64 (k : Int), .int .i64 a, .int .i64 b, .int .i64 c, .int .i64 n, .complex .f64 x y] 38
    have k2 : Kept w ((w.alloc (.cells (cl n0 n1 n2 n3 n4 n5 n6 n7 v).toArray 25)).alloc (.cells #[.int .i64 (k : Int), .int .i64 a, .int .i64 b, .int .i64 c, .int .i64 n, .complex .f64 x y] 38)) := ((Kept.refl w).alloc _ _).alloc _ _
    have b2 := b0.kept k1
    have hs : ((w.alloc (.cells (cl n0 n1 n2 n3 n4 n5 n6 n7 v).toArray 25)).alloc (.cells #[.int .i64 (k : Int), .int .i64 a, .int .i64 b, .int .i64 c, .int .i64 n, .complex .f64 x y] 38)).heap.size = w.heap.size + 1 + 1 := by simp
    have e : (w.alloc (.cells #[.int .i64 n0, .int .i64 n1, .int .i64 n2, .int .i64 n3, .int .i64 n4, .int .i64 n5, .int .i64 n6, .int .i64 n7, v] 25)) = w.alloc (.cells (cl n0 n1 n2 n3 n4 n5 n6 n7 v).toArray 25) := rfl
    rw [e]
    generalize ((w.alloc (.cells (cl n0 n1 n2 n3 n4 n5 n6 n7 v).toArray 25)).alloc (.cells #[.int .i64 (k : Int), .int .i64 a, .int .i64 b, .int .i64 c, .int .i64 n, .complex .f64 x y] 38)) = W at *
    have k3 : Kept W (W.iter ⟨G.toArray⟩ 0) := ⟨(Below.refl _ _).alloc (Nat.le_refl _) _⟩
    have hi := World.iter_heap W ⟨G.toArray⟩ 0
    rw [hs] at hi
    exact ⟨hi, b2.kept k3, b1.kept k3, k2.trans k3⟩
  generalize hW : World.iter _ _ _ = W
  have HH := H0.out W hW
  have HX : Hid (It W (w.heap.size + 1 + 1) G 0 ∧ Blk W w.heap.size (cl n0 n1 n2 n3 n4 n5 n6 n7 v) ∧ Blk W (w.heap.size + 1) [.int .i64 (k : Int), .int .i64 a, .int .i64 b, .int .i64 c, .int .i64 n, .complex .f64 x y] ∧ Kept w W) := HH
  clear hW HH H0 hq
  go_loopg [] G.length (fun m wr => ∃ j : Nat, j ≤ G.length ∧ m = G.length - j ∧ Hid (It wr (w.heap.size + 1 + 1) G j ∧ Blk wr w.heap.size (cl n0 n1 n2 n3 n4 n5 n6 n7 v) ∧ Blk wr (w.heap.size + 1) [.int .i64 (k : Int), .int .i64 a, .int .i64 b, .int .i64 c, .int .i64 n, .complex .f64 x y] ∧ Kept w wr))
  case atStart => exact ⟨0, Nat.zero_le _, rfl, HX.out⟩
  case round =>
    obtain ⟨j, hj, rfl, hh⟩ := hrel
    by_cases hlt : j < G.length
    · have hnext := next_l (P := Tryz.prog) wr (w.heap.size + 1 + 1) G j hh.out.1 hlt HA.out
      have hT := HT.out G[j] (List.getElem_mem hlt)
      have H2 : Hid (It (wr.iterAt (w.heap.size + 1 + 1) ⟨G.toArray⟩ (j + 1)) (w.heap.size + 1 + 1) G (j + 1) ∧ Blk (wr.iterAt (w.heap.size + 1 + 1) ⟨G.toArray⟩ (j + 1)) w.heap.size (cl n0 n1 n2 n3 n4 n5 n6 n7 v) ∧ Blk (wr.iterAt (w.heap.size + 1 + 1) ⟨G.toArray⟩ (j + 1)) (w.heap.size + 1) [.int .i64 (k : Int), .int .i64 a, .int .i64 b, .int .i64 c, .int .i64 n, .complex .f64 x y] ∧ Kept w (wr.iterAt (w.heap.size + 1 + 1) ⟨G.toArray⟩ (j + 1))) :=
        ⟨hh.out.1.step (j + 1), hh.out.2.1.iterAt (by omega), hh.out.2.2.1.iterAt (by omega), hh.out.2.2.2.iterAt (by omega) _⟩
      clear hh
      generalize wr.iterAt (w.heap.size + 1 + 1) ⟨G.toArray⟩ (j + 1) = W1 at hnext H2
      generalize G[j] = l at hnext hT
      have c0 := H2.out.2.1.at 0 rfl
      have c1 := H2.out.2.1.at 1 rfl
      have c2 := H2.out.2.1.at 2 rfl
      have c3 := H2.out.2.1.at 3 rfl
      have c4 := H2.out.2.1.at 4 rfl
      have c5 := H2.out.2.1.at 5 rfl
      have c6 := H2.out.2.1.at 6 rfl
      have c7 := H2.out.2.1.at 7 rfl
      have c8 := H2.out.2.1.at 8 rfl
      have d0 := H2.out.2.2.1.at 0 rfl
      have d1 := H2.out.2.2.1.at 1 rfl
      have d2 := H2.out.2.2.1.at 2 rfl
      have d3 := H2.out.2.2.1.at 3 rfl
      have d4 := H2.out.2.2.1.at 4 rfl
      have d5 := H2.out.2.2.1.at 5 rfl
      go_wp2_with fail
      refine (hT _).mono ?_
      rintro e w4 ⟨rfl, K⟩
      have H4 : Hid (It w4 (w.heap.size + 1 + 1) G (j + 1) ∧ Blk w4 w.heap.size (cl n0 n1 n2 n3 n4 n5 n6 n7 v) ∧ Blk w4 (w.heap.size + 1) [.int .i64 (k : Int), .int .i64 a, .int .i64 b, .int .i64 c, .int .i64 n, .complex .f64 x y] ∧ Kept w w4) := ⟨H2.out.1.kept K, H2.out.2.1.kept K, H2.out.2.2.1.kept K, H2.out.2.2.2.trans K⟩
      clear K H2 hnext hT
      clear c0 c1 c2 c3 c4 c5 c6 c7 c8 d0 d1 d2 d3 d4 d5
      go_wp2
      go_roundg (G.length - (j + 1))
      · exact ⟨j + 1, by omega, rfl, H4.out⟩
      · omega
    · have hnext := next_e (P := Tryz.prog) wr (w.heap.size + 1 + 1) G j hh.out.1 hlt
      go_wp2
      go_ret
      exact ⟨rfl, hh.out.2.2.2⟩
end Go.Proofs.YtbmcbkebcchjmaaGreatDoor
