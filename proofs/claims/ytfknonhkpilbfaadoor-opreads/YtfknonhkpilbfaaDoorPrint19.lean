/-
  op.Print of an operation of some kind.
-/
import Derived.Test.YtfknonhkpilbfaaDoorWithB19
import Derived.Laws.RangeString
import Derived.Laws.RangeAny
import Derived.Lib.OthersKept
namespace Go.Proofs.YtfknonhkpilbfaaDoor
open Go.RowKit
attribute [local go_sem] run_store_complex

theorem lts_ascii (k : Nat) : ∀ l ∈ lts k, l.toNat < 128 := by
  by_cases h : 1 ≤ k ∧ k ≤ 18
  · rcases kinds k h.1 h.2 with rfl | rfl | rfl | rfl | rfl | rfl | rfl | rfl | rfl | rfl | rfl | rfl | rfl | rfl | rfl | rfl | rfl | rfl <;> decide
  · have e : lts k = [] := by unfold lts; split <;> first | omega | rfl
    rw [e]; simp
theorem lts_len (k : Nat) : (lts k).length ≤ 3 := by
  by_cases h : 1 ≤ k ∧ k ≤ 18
  · rcases kinds k h.1 h.2 with rfl | rfl | rfl | rfl | rfl | rfl | rfl | rfl | rfl | rfl | rfl | rfl | rfl | rfl | rfl | rfl | rfl | rfl <;> decide
  · have e : lts k = [] := by unfold lts; split <;> first | omega | rfl
    rw [e]; simp
theorem wd_len (k : Nat) : (wd k).length ≤ 7 := by
  by_cases h : 1 ≤ k ∧ k ≤ 18
  · rcases kinds k h.1 h.2 with rfl | rfl | rfl | rfl | rfl | rfl | rfl | rfl | rfl | rfl | rfl | rfl | rfl | rfl | rfl | rfl | rfl | rfl <;> decide
  · have e : wd k = [] := by unfold wd; split <;> first | omega | rfl
    rw [e]; simp
theorem fld_len (o : OP) (h : o.Ok) (l : UInt8) : (o.fld l).length ≤ 21 := by
  unfold OP.fld
  split
  · rw [hex16_len]; omega
  · split
    · rw [hex16_len]; omega
    · have q := num_in h l
      exact Lib.itoa_length_le _ q.1 q.2

/-- An iterator over a text. -/
def It (w : World) (g : Nat) (s : List UInt8) (i : Nat) : Prop := w.heap[g]? = some (.stringIter ⟨s.toArray⟩ i)
theorem It.kept {w w' : World} {g i : Nat} {s : List UInt8} (h : It w g s i) (k : Kept w w') : It w' g s i := by
  have hlt : g < w.heap.size := (Array.getElem?_eq_some_iff.1 h).1
  exact (k.below.block g hlt).trans h
theorem Blk.iterAt {w : World} {b g i : Nat} {L : List Value} {s : ByteArray} (h : Blk w b L) (hg : b ≠ g) : Blk (w.iterAt g s i) b L := by
  have e := Lib.iterAt_other w g b s i hg
  refine ⟨by rw [Lib.iterAt_size]; exact h.lt, fun j => ?_, fun j v hv => ?_⟩
  · exact (World.frozen?_of_block (w := w) (a := ⟨b, j, none⟩) e).trans (h.fz j)
  · exact (World.cell?_of_block (w := w) (a := ⟨b, j, none⟩) e).trans (h.cells j v hv)
theorem Own.iterAt {w : World} {b g i : Nat} {t : TypeId} {L : List Value} {s : ByteArray} (h : Own w b t L) (hg : b ≠ g) : Own (w.iterAt g s i) b t L := (Lib.iterAt_other w g b s i hg).trans h
theorem Kept.iterAt {w w' : World} (h : Kept w w') {g i : Nat} (hg : w.heap.size ≤ g) (s : ByteArray) : Kept w (w'.iterAt g s i) := ⟨Lib.below_iterAt h.below hg s i⟩

/-- What is printed when j letters have been printed. -/
def OP.ppr (o : OP) (j : Nat) : List UInt8 := wd o.k ++ ((lts o.k).take j).flatMap fun l => 32 :: o.fld l
theorem ppr_zero (o : OP) : o.ppr 0 = wd o.k := by simp [OP.ppr]
theorem ppr_all (o : OP) (j : Nat) (h : (lts o.k).length ≤ j) : o.ppr j = o.prt := by unfold OP.ppr OP.prt; rw [List.take_of_length_le h]
theorem ppr_succ (o : OP) (j : Nat) (h : j < (lts o.k).length) : o.ppr (j + 1) = o.ppr j ++ (32 :: o.fld (lts o.k)[j]) := by
  unfold OP.ppr
  rw [List.take_add_one, List.getElem?_eq_getElem h, Option.toList_some, List.flatMap_append, List.append_assoc]
  simp
theorem ppr_len (o : OP) (h : o.Ok) (j : Nat) : j ≤ 3 → (o.ppr j).length ≤ 7 + 22 * j := by
  intro hj
  unfold OP.ppr
  have h1 := wd_len o.k
  have : ∀ (L : List UInt8), (L.flatMap fun l => 32 :: o.fld l).length ≤ 22 * L.length := by
    intro L
    induction L with
    | nil => simp
    | cons a L ih =>
      have := fld_len o h a
      simp only [List.flatMap_cons, List.length_append, List.length_cons]
      omega
  have h2 := this ((lts o.k).take j)
  have h3 : ((lts o.k).take j).length ≤ j := by simp; omega
  rw [List.length_append]
  omega
theorem next_l {P : Program} (w : World) (g : Nat) (s : List UInt8) (i : Nat) (h : It w g s i) (hi : i < s.length) (ha : ∀ l ∈ s, l.toNat < 128) (ty : TypeId) :
    (Instr.next (.pointer (some ⟨g, 0, none⟩)) true ty).run P w = .ok (.tuple #[.bool true, .int .i64 i, .int .i32 ((s[i]).toNat : Int)]) (w.iterAt g ⟨s.toArray⟩ (i + 1)) :=
  Lib.run_next_ascii_at w g ⟨s.toArray⟩ i ty h (by simp [ByteArray.size]; omega) (ha _ (List.getElem_mem hi))
theorem next_e {P : Program} (w : World) (g : Nat) (s : List UInt8) (i : Nat) (h : It w g s i) (hi : ¬ i < s.length) (ty : TypeId) :
    (Instr.next (.pointer (some ⟨g, 0, none⟩)) true ty).run P w = .ok (.tuple #[.bool false]) w :=
  Lib.run_next_end_at w g ⟨s.toArray⟩ i ty h (by simp [ByteArray.size]; omega)
theorem It.step {w : World} {g i : Nat} {s : List UInt8} (h : It w g s i) (j : Nat) : It (w.iterAt g ⟨s.toArray⟩ j) g s j := Lib.iterAt_heap w g _ i j h

set_option maxHeartbeats 4000000 in
set_option maxRecDepth 20000 in
theorem print_any (o : OP) (ho : o.Ok) (w : World) (hv : Vs w) : Calls Tryd.prog 8 #[o.val] w fun e w' => e = .returned (.string ⟨o.prt.toArray⟩) ∧ Kept w w' := by
  have HV : Hid (Vs w) := hv
  have HT : Hid (∀ l W, Vs W → Calls Tryd.prog 18 #[o.val, .int .i32 (l.toNat : Int)] W fun e w' => e = .returned (.string ⟨(o.fld l).toArray⟩) ∧ Kept W w') := fun l W q => text_any o ho l W q
  have hk1 := ho.k1
  have hk2 := ho.k2
  have HO : Hid o.Ok := ho
  have hw := hv.wd o.k (by omega)
  have hl := hv.lts o.k (by omega)
  have q1 := fun (A : Array Value) (t : TypeId) => (((Kept.refl w).alloc A t).cell (a := ⟨0, o.k * 2, none⟩) (show 0 < w.heap.size by have := hv.lt; omega)).trans hw
  have q2 := fun (A : Array Value) (t : TypeId) => (((Kept.refl w).alloc A t).cell (a := ⟨0, o.k * 2 + 1, none⟩) (show 0 < w.heap.size by have := hv.lt; omega)).trans hl
  have HKY : Hid (∀ W, Calls Tryd.prog 11 #[.int .i64 (o.k : Int)] W fun e w' => e = .returned (.bool true) ∧ w' = W) := fun W => known_yes o.k hk1 hk2 W
  clear hv ho
  unfold OP.val at HT ⊢
  go_enter Tryd.func8, Tryd.ntmps8
  go_wp2_with fail
  refine (HKY.out _).mono ?_
  rintro e w' ⟨rfl, rfl⟩
  have B0 := Blk.new w [.int .i64 (o.k : Int), .int .i64 o.a, .int .i64 o.b, .int .i64 o.c, .int .i64 o.n, .complex .f64 o.x o.y] 25
  have H0 : Hid (It ((w.alloc (.cells #[.int .i64 (o.k : Int), .int .i64 o.a, .int .i64 o.b, .int .i64 o.c, .int .i64 o.n, .complex .f64 o.x o.y] 25)).iter ⟨(lts o.k).toArray⟩ 0) (w.heap.size + 1) (lts o.k) 0 ∧ Blk ((w.alloc (.cells #[.int .i64 (o.k : Int), .int .i64 o.a, .int .i64 o.b, .int .i64 o.c, .int .i64 o.n, .complex .f64 o.x o.y] 25)).iter ⟨(lts o.k).toArray⟩ 0) w.heap.size o.cs ∧ Kept w ((w.alloc (.cells #[.int .i64 (o.k : Int), .int .i64 o.a, .int .i64 o.b, .int .i64 o.c, .int .i64 o.n, .complex .f64 o.x o.y] 25)).iter ⟨(lts o.k).toArray⟩ 0)) := by
    have k2 : Kept (w.alloc (.cells #[.int .i64 (o.k : Int), .int .i64 o.a, .int .i64 o.b, .int .i64 o.c, .int .i64 o.n, .complex .f64 o.x o.y] 25)) ((w.alloc (.cells #[.int .i64 (o.k : Int), .int .i64 o.a, .int .i64 o.b, .int .i64 o.c, .int .i64 o.n, .complex .f64 o.x o.y] 25)).iter ⟨(lts o.k).toArray⟩ 0) := ⟨(Below.refl _ _).alloc (Nat.le_refl _) _⟩
    refine ⟨?_, B0.kept k2, ((Kept.refl w).alloc _ _).trans k2⟩
    have := World.iter_heap (w.alloc (.cells #[.int .i64 (o.k : Int), .int .i64 o.a, .int .i64 o.b, .int .i64 o.c, .int .i64 o.n, .complex .f64 o.x o.y] 25)) ⟨(lts o.k).toArray⟩ 0
    unfold It
    simpa using this
  clear B0
  go_wp2
  go_loopg [3] (lts o.k).length (fun m v wr => ∃ (j : Nat) (S : ByteArray), v = .string S ∧ j ≤ (lts o.k).length ∧ m = (lts o.k).length - j ∧ S.size ≤ 1000 ∧ Hid (S = ⟨(o.ppr j).toArray⟩ ∧ It wr (w.heap.size + 1) (lts o.k) j ∧ Blk wr w.heap.size o.cs ∧ Kept w wr))
  case atStart =>
    refine ⟨0, ⟨(wd o.k).toArray⟩, rfl, Nat.zero_le _, rfl, ?_, ?_, H0.out⟩
    · have := wd_len o.k; simp [ByteArray.size]; omega
    · rw [ppr_zero]
  case round =>
    obtain ⟨j, S, rfl, hj, rfl, hS, hh⟩ := hrel
    clear H0 q1 q2 hw hl
    have h3 := lts_len o.k
    by_cases h : j < (lts o.k).length
    · have hnext := next_l (P := Tryd.prog) wr (w.heap.size + 1) (lts o.k) j hh.out.2.1 h (lts_ascii o.k)
      have hs := ppr_succ o j h
      have hf := fld_len o HO.out (lts o.k)[j]
      have hF := HT.out (lts o.k)[j]
      have hlen := ppr_len o HO.out (j + 1) (by omega)
      have B1 := hh.out.2.2.1.iterAt (g := w.heap.size + 1) (i := j + 1) (s := ⟨(lts o.k).toArray⟩) (by omega)
      have HH : Hid (It (wr.iterAt (w.heap.size + 1) ⟨(lts o.k).toArray⟩ (j + 1)) (w.heap.size + 1) (lts o.k) (j + 1) ∧ Blk (wr.iterAt (w.heap.size + 1) ⟨(lts o.k).toArray⟩ (j + 1)) w.heap.size o.cs ∧ Kept w (wr.iterAt (w.heap.size + 1) ⟨(lts o.k).toArray⟩ (j + 1))) := ⟨hh.out.2.1.step (j + 1), B1, hh.out.2.2.2.iterAt (by omega) _⟩
      generalize wr.iterAt (w.heap.size + 1) ⟨(lts o.k).toArray⟩ (j + 1) = W1 at hnext HH B1
      generalize (lts o.k)[j] = l at hnext hs hf hF
      obtain ⟨F, hFF⟩ : ∃ F : ByteArray, F = ⟨(o.fld l).toArray⟩ := ⟨_, rfl⟩
      rw [← hFF] at hF
      have hFs : F.size ≤ 21 := by rw [hFF]; simpa [ByteArray.size] using hf
      have HS : Hid (S ++ (⟨#[32]⟩ ++ F) = ⟨(o.ppr (j + 1)).toArray⟩ ∧ (S ++ (⟨#[32]⟩ ++ F)).size ≤ 1000) := by
        have e : S ++ (⟨#[32]⟩ ++ F) = ⟨(o.ppr (j + 1)).toArray⟩ := by
          rw [hh.out.1, hFF, hs]
          apply ByteArray.ext
          simp
        refine ⟨e, ?_⟩
        rw [e]
        simp [ByteArray.size]
        omega
      have c0 := B1.at 0 rfl
      have c1 := B1.at 1 rfl
      have c2 := B1.at 2 rfl
      have c3 := B1.at 3 rfl
      have c4 := B1.at 4 rfl
      have c5 := B1.at 5 rfl
      clear hs hf hFF hh B1 hlen
      go_wp2_with fail
      refine (hF _ (HV.out.keep HH.out.2.2)).mono ?_
      rintro e w2 ⟨rfl, K⟩
      have HH2 : Hid (It w2 (w.heap.size + 1) (lts o.k) (j + 1) ∧ Blk w2 w.heap.size o.cs ∧ Kept w w2) := ⟨HH.out.1.kept K, HH.out.2.1.kept K, HH.out.2.2.trans K⟩
      clear K HH hF c0 c1 c2 c3 c4 c5 hnext
      go_wp2
      go_roundg ((lts o.k).length - (j + 1))
      · exact ⟨j + 1, _, rfl, by omega, rfl, HS.out.2, HS.out.1, HH2.out⟩
      · omega
    · have hnext := next_e (P := Tryd.prog) wr (w.heap.size + 1) (lts o.k) j hh.out.2.1 h
      have HE : Hid (S = ⟨o.prt.toArray⟩ ∧ Kept w wr) := ⟨by rw [hh.out.1, ppr_all o j (by omega)], hh.out.2.2.2⟩
      clear hh
      go_wp2
      go_ret
      refine ⟨?_, HE.out.2⟩
      rw [HE.out.1]
      rfl
end Go.Proofs.YtfknonhkpilbfaaDoor
