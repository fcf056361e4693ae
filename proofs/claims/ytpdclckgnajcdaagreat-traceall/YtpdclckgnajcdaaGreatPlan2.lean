/-
  Contract of package plan's asked: the errors in their order, the shape.
-/
import Derived.Test.YtpdclckgnajcdaaGreatPlan1
namespace Go.Proofs.YtpdclckgnajcdaaGreat
open Go.RowKit

/-- An error by what is asked in order: 1, 4, 5, 2, or none. -/
structure Asks (G K I F : Prop) (r : Int) : Prop where
  range : ¬ G → r = 1
  kind : G → ¬ K → r = 4
  index : G → K → ¬ I → r = 5
  form : G → K → I → ¬ F → r = 2
  ok : G → K → I → F → r = 0
theorem Asks.some (G K I F : Prop) : ∃ r, Asks G K I F r := by
  by_cases g : G
  · by_cases k : K
    · by_cases i : I
      · by_cases f : F
        · exact ⟨0, fun n => absurd g n, fun _ n => absurd k n, fun _ _ n => absurd i n, fun _ _ _ n => absurd f n, fun _ _ _ _ => rfl⟩
        · exact ⟨2, fun n => absurd g n, fun _ n => absurd k n, fun _ _ n => absurd i n, fun _ _ _ _ => rfl, fun _ _ _ n => absurd n f⟩
      · exact ⟨5, fun n => absurd g n, fun _ n => absurd k n, fun _ _ _ => rfl, fun _ _ n => absurd n i, fun _ _ n => absurd n i⟩
    · exact ⟨4, fun n => absurd g n, fun _ _ => rfl, fun _ n => absurd n k, fun _ n => absurd n k, fun _ n => absurd n k⟩
  · exact ⟨1, fun _ => rfl, fun n => absurd n g, fun n => absurd n g, fun n => absurd n g, fun n => absurd n g⟩
theorem Asks.zero {G K I F : Prop} (h : Asks G K I F 0) : G ∧ K ∧ I ∧ F := by
  by_cases g : G
  · by_cases k : K
    · by_cases i : I
      · by_cases f : F
        · exact ⟨g, k, i, f⟩
        · exact absurd (h.form g k i f) (by omega)
      · exact absurd (h.index g k i) (by omega)
    · exact absurd (h.kind g k) (by omega)
  · exact absurd (h.range g) (by omega)

def sizeU (arr : Bool) (l : Nat) (n : Int) : Int := if arr then arrSize n else 1 + (l : Int) / 7
theorem sizeU_hi (arr : Bool) (l : Nat) (n : Int) (h : arr = false → l ≤ 40) : sizeU arr l n ≤ 65 := by
  cases arr
  · have := h rfl
    simp only [sizeU]
    simp
    omega
  · have := dat_hi n
    simp only [sizeU, arrSize]
    simp
    split <;> omega

/-- What is asked of a configuration, a kind, a length, fragments: the four that are told in order. -/
def AG (n0 n1 n2 n3 n4 n5 n6 n7 : Int) (sl : Nat) (S : Nat → Sh) (L : Nat → Int) (l : Nat) : Prop := Good n0 n1 n2 n3 n4 n5 n6 n7 sl S ∧ Frs L l n0
def AK (sl : Nat) (S : Nat → Sh) (kind : Int) (arr : Bool) : Prop := 0 ≤ kind ∧ kind < sl ∧ (S kind.toNat).arr = arr
def AI (S : Nat → Sh) (kind n : Int) (arr : Bool) : Prop := 0 ≤ sizeU arr (S kind.toNat).l n
def AF (S : Nat → Sh) (kind n : Int) (arr : Bool) (L : Nat → Int) (l : Nat) : Prop := (l : Int) = sizeU arr (S kind.toNat).l n ∧ ¬ Twice L l

theorem may_len {s : Sh} (h : s.may = true) : (s.arr = false → s.l ≤ 40) ∧ (s.arr = true → s.l = 1) := by
  obtain ⟨b, x, l, c⟩ := s
  cases b
  · simp [Sh.may] at h; simp; omega
  · simp [Sh.may] at h; simp; omega
theorem may_few {s : Sh} (h : s.may = true) : s.l ≤ 40 := by
  have := may_len h
  cases hb : s.arr
  · exact this.1 hb
  · have := this.2 hb; omega

theorem size_any (s : Sh) (n : Int) (x : Option Addr) (c : Nat) (w : World) (hm : s.may = true) (hn : s.arr = false → n = 0) :
    Calls Tryz.prog 55 #[.agg #[.bool s.arr, .slice x s.l c], .int .i64 n] w fun e w' => e = .returned (.int .i64 (sizeU s.arr s.l n)) ∧ Kept w w' := by
  have hl := may_len hm
  obtain ⟨b, y, l, d⟩ := s
  cases b
  · obtain rfl := hn rfl
    exact size_obj x l c _ w (hl.1 rfl) (by simp [sizeU])
  · obtain rfl : l = 1 := hl.2 rfl
    exact size_arr x c n w

set_option maxHeartbeats 2000000 in
theorem asked_any (n0 n1 n2 n3 n4 n5 n6 n7 : Int) (sx : Option Addr) (sl sc : Nat) (S : Nat → Sh) (R : Nat → Nat → Bool) (kind n : Int) {x : Option Addr} {l c : Nat} {L : Nat → Int} (arr : Bool) (r : Int) (w : World) (hS : Shps w sx sl S) (hR : ∀ i, i < sl → Refs w (S i).x (S i).l (R i))
    (hl : (l : Int) ≤ 1000000) (hc : l ≤ c) (hx : Rdf w x l L) (hn : arr = false → n = 0) (hr : Asks (AG n0 n1 n2 n3 n4 n5 n6 n7 sl S L l) (AK sl S kind arr) (AI S kind n arr) (AF S kind n arr L l) r) :
    Calls Tryz.prog 30 #[.agg #[.int .i64 n0, .int .i64 n1, .int .i64 n2, .int .i64 n3, .int .i64 n4, .int .i64 n5, .int .i64 n6, .int .i64 n7, .slice sx sl sc], .int .i64 kind, .int .i64 n, .slice x l c, .bool arr] w fun e w' =>
      ((r ≠ 0 ∧ e = .returned (.tuple #[.agg #[.bool false, .slice none 0 0], .int .i64 r])) ∨
        (r = 0 ∧ ∃ g, e = .returned (.tuple #[.agg #[.bool arr, .slice (some ⟨g, 0, none⟩) (S kind.toNat).l (S kind.toNat).l], .int .i64 0]) ∧ w.heap.size ≤ g ∧ Refs w' (some ⟨g, 0, none⟩) (S kind.toNat).l (R kind.toNat))) ∧ Kept w w' := by
  obtain ⟨r0, hr0, r0s⟩ := Checks.some n0 n1 n2 n3 n4 n5 n6 n7 sl S
  obtain ⟨q1, h1⟩ := bool_iff (Frs L l n0)
  obtain ⟨q2, h2⟩ := bool_iff (Twice L l)
  have C0 : Hid (∀ w', Kept w w' → _) := fun w' k => check_any n0 n1 n2 n3 n4 n5 n6 n7 sx sl sc S r0 w' (hS.kept k) hr0
  have C1 : Hid (∀ w', Kept w w' → Calls Tryz.prog 54 #[.agg #[.int .i64 n0, .int .i64 n1, .int .i64 n2, .int .i64 n3, .int .i64 n4, .int .i64 n5, .int .i64 n6, .int .i64 n7, .slice sx sl sc], .slice x l c] w' _) := fun w' k => fragments_any n0 n1 n2 n3 n4 n5 n6 n7 sx sl sc (c := c) q1 w' hl (hx.kept k) h1
  have C2 : Hid (∀ w', Kept w w' → Calls Tryz.prog 56 #[.slice x l c] w' _) := fun w' k => twice_any q2 w' hl hc (hx.kept k) h2
  have HH : Hid (Shps w sx sl S ∧ (∀ i, i < sl → Refs w (S i).x (S i).l (R i)) ∧ (arr = false → n = 0) ∧ Asks (AG n0 n1 n2 n3 n4 n5 n6 n7 sl S L l) (AK sl S kind arr) (AI S kind n arr) (AF S kind n arr L l) r) := ⟨hS, hR, hn, hr⟩
  have H0 : Hid (Checks n0 n1 n2 n3 n4 n5 n6 n7 sl S r0) := hr0
  have H1 : Hid (q1 = true ↔ Frs L l n0) := h1
  have H2 : Hid (q2 = true ↔ Twice L l) := h2
  clear hr0 h1 h2 hS hR hn hr hx hl hc
  go_enter Tryz.func30, Tryz.ntmps30
  go_wp2_with fail
  generalize hW0 : w.alloc (Obj.cells #[Value.int .i64 n0, .int .i64 n1, .int .i64 n2, .int .i64 n3, .int .i64 n4, .int .i64 n5, .int .i64 n6, .int .i64 n7, .slice sx sl sc] _) = W0
  have z0 : W0.heap.size = w.heap.size + 1 := by rw [← hW0]; simp
  have b0 : Blk W0 w.heap.size (cl n0 n1 n2 n3 n4 n5 n6 n7 (.slice sx sl sc)) := by rw [← hW0]; exact Blk.new w _ _
  have k0 : Kept w W0 := by rw [← hW0]; exact (Kept.refl w).alloc _ _
  clear hW0
  generalize hW1 : W0.alloc _ = W1
  have b1 : Blk W1 (w.heap.size + 1) [.bool false, .slice none 0 0] := by rw [← hW1, ← z0]; exact Blk.new W0 _ _
  have k1 : Kept W0 W1 := by rw [← hW1]; exact (Kept.refl W0).alloc _ _
  have z1 : W1.heap.size = w.heap.size + 1 + 1 := by rw [← hW1]; simp [z0]
  have HW : Hid (Kept w W1 ∧ Blk W1 w.heap.size (cl n0 n1 n2 n3 n4 n5 n6 n7 (.slice sx sl sc)) ∧ Blk W1 (w.heap.size + 1) [.bool false, .slice none 0 0]) := ⟨k0.trans k1, b0.kept k1, b1⟩
  clear hW1 z0 b0 k0 b1 k1 z1
  refine (C0.out _ HW.out.1).mono ?_
  rintro e w2 ⟨rfl, K⟩
  have HW2 : Hid (Kept w w2 ∧ Blk w2 w.heap.size (cl n0 n1 n2 n3 n4 n5 n6 n7 (.slice sx sl sc)) ∧ Blk w2 (w.heap.size + 1) [.bool false, .slice none 0 0]) := ⟨HW.out.1.trans K, HW.out.2.1.kept K, HW.out.2.2.kept K⟩
  clear HW K
  have d0 := HW2.out.2.2.at 0 rfl
  have d1 := HW2.out.2.2.at 1 rfl
  have f1 := HW2.out.2.2.fz
  by_cases hr0 : r0 = 0
  case neg =>
    have e0 : (r0 != 0) = true := by simpa using hr0
    have er : Hid (r = 1) := HH.out.2.2.2.range fun g => hr0 (H0.out.ok g.1.1 g.1.2)
    clear hr0
    go_wp2
    (try simp only [Exit.inBlock, Exit.then])
    exact bodyPost_ret_by (results_blk_tmp rfl _ _ (w.heap.size + 1) [_, _] rfl ((HW2.out.2.2.set (i := 0) rfl _).set (i := 1) rfl _) Tryz.underlying29 (by kernel_rfl)) rfl
      ⟨.inl ⟨by rw [er.out]; decide, by rw [er.out]; rfl⟩, (HW2.out.1.setCell (by simp) _).setCell (by simp) _⟩
  subst hr0
  have HG : Hid (Good n0 n1 n2 n3 n4 n5 n6 n7 sl S) := H0.out.zero
  have c0 := HW2.out.2.1.at 0 rfl
  have c1 := HW2.out.2.1.at 1 rfl
  have c2 := HW2.out.2.1.at 2 rfl
  have c3 := HW2.out.2.1.at 3 rfl
  have c4 := HW2.out.2.1.at 4 rfl
  have c5 := HW2.out.2.1.at 5 rfl
  have c6 := HW2.out.2.1.at 6 rfl
  have c7 := HW2.out.2.1.at 7 rfl
  have c8 := HW2.out.2.1.at 8 rfl
  clear d0 d1 f1
  go_wp2_with fail
  refine (C1.out _ HW2.out.1).mono ?_
  rintro e w3 ⟨rfl, K⟩
  have HW3 : Hid (Kept w w3 ∧ Blk w3 w.heap.size (cl n0 n1 n2 n3 n4 n5 n6 n7 (.slice sx sl sc)) ∧ Blk w3 (w.heap.size + 1) [.bool false, .slice none 0 0]) := ⟨HW2.out.1.trans K, HW2.out.2.1.kept K, HW2.out.2.2.kept K⟩
  clear HW2 K c0 c1 c2 c3 c4 c5 c6 c7 c8
  have d0 := HW3.out.2.2.at 0 rfl
  have d1 := HW3.out.2.2.at 1 rfl
  have f1 := HW3.out.2.2.fz
  cases q1
  · have er : Hid (r = 1) := HH.out.2.2.2.range fun g => absurd (H1.out.2 g.2) (by simp)
    go_wp2
    (try simp only [Exit.inBlock, Exit.then])
    exact bodyPost_ret_by (results_blk_tmp rfl _ _ (w.heap.size + 1) [_, _] rfl ((HW3.out.2.2.set (i := 0) rfl _).set (i := 1) rfl _) Tryz.underlying29 (by kernel_rfl)) rfl
      ⟨.inl ⟨by rw [er.out]; decide, by rw [er.out]; rfl⟩, (HW3.out.1.setCell (by simp) _).setCell (by simp) _⟩
  have HA : Hid (AG n0 n1 n2 n3 n4 n5 n6 n7 sl S L l) := ⟨HG.out, H1.out.1 rfl⟩
  clear H1 C1 C0 H0
  have c0 := HW3.out.2.1.at 0 rfl
  have c1 := HW3.out.2.1.at 1 rfl
  have c2 := HW3.out.2.1.at 2 rfl
  have c3 := HW3.out.2.1.at 3 rfl
  have c4 := HW3.out.2.1.at 4 rfl
  have c5 := HW3.out.2.1.at 5 rfl
  have c6 := HW3.out.2.1.at 6 rfl
  have c7 := HW3.out.2.1.at 7 rfl
  have c8 := HW3.out.2.1.at 8 rfl
  clear d0 d1 f1
  by_cases hk : kind < 0 ∨ (sl : Int) ≤ kind
  · have er : Hid (r = 4) := HH.out.2.2.2.kind HA.out fun q => by have := q.1; have := q.2.1; omega
    have CS : Hid (∀ w, Calls Tryz.prog 7 #[.agg #[.int .i64 n0, .int .i64 n1, .int .i64 n2, .int .i64 n3, .int .i64 n4, .int .i64 n5, .int .i64 n6, .int .i64 n7, .slice sx sl sc], .int .i64 kind] w _) := fun w => shape_out n0 n1 n2 n3 n4 n5 n6 n7 sx sl sc kind w hk
    clear hk
    go_wp2_with fail
    refine (CS.out _).mono ?_
    rintro e w4 ⟨rfl, K⟩
    have HW4 : Hid (Kept w w4 ∧ Blk w4 (w.heap.size + 1) [.bool false, .slice none 0 0]) := ⟨HW3.out.1.trans K, HW3.out.2.2.kept K⟩
    clear HW3 K c0 c1 c2 c3 c4 c5 c6 c7 c8
    have d0 := HW4.out.2.at 0 rfl
    have d1 := HW4.out.2.at 1 rfl
    have f1 := HW4.out.2.fz
    have hz : w.heap.size + 1 < w4.heap.size := HW4.out.2.lt
    go_wp2
    (try simp only [Exit.inBlock, Exit.then])
    exact bodyPost_ret_by (results_blk_tmp rfl _ _ (w.heap.size + 1) [_, _] rfl (((HW4.out.2.set (i := 0) rfl _).set (i := 1) rfl _).kept ((Kept.refl _).alloc _ _)) Tryz.underlying29 (by kernel_rfl)) rfl
      ⟨.inl ⟨by rw [er.out]; decide, by rw [er.out]; rfl⟩, ((HW4.out.1.setCell (by simp) _).setCell (by simp) _).alloc _ _⟩
  obtain ⟨k, rfl⟩ : ∃ k : Nat, kind = k := ⟨kind.toNat, by omega⟩
  have hks : k < sl := by omega
  have HM : Hid ((S k).may = true) := HG.out.2.2.2 k hks
  have HKS : Hid (k < sl) := hks
  have CS : Hid (∀ w', Kept w w' → Calls Tryz.prog 7 #[.agg #[.int .i64 n0, .int .i64 n1, .int .i64 n2, .int .i64 n3, .int .i64 n4, .int .i64 n5, .int .i64 n6, .int .i64 n7, .slice sx sl sc], .int .i64 k] w' _) := fun w' q => shape_in n0 n1 n2 n3 n4 n5 n6 n7 sx sl sc S (R k) k w' hks (by have := may_few HM.out; omega) (HH.out.1.kept q) ((HH.out.2.1 k hks).kept q)
  clear hk hks
  go_wp2_with fail
  refine (CS.out _ HW3.out.1).mono ?_
  rintro e w4 ⟨g, rfl, hg, hRf, K⟩
  have HW4 : Hid (Kept w w4 ∧ Blk w4 (w.heap.size + 1) [.bool false, .slice none 0 0] ∧ w.heap.size + 1 < g ∧ Refs w4 (some ⟨g, 0, none⟩) (S k).l (R k)) := ⟨HW3.out.1.trans K, HW3.out.2.2.kept K, by have := HW3.out.2.2.lt; omega, hRf⟩
  clear HW3 K c0 c1 c2 c3 c4 c5 c6 c7 c8 hg hRf CS
  have d0 := HW4.out.2.1.at 0 rfl
  have d1 := HW4.out.2.1.at 1 rfl
  have f1 := HW4.out.2.1.fz
  have hz : w.heap.size + 1 < w4.heap.size := HW4.out.2.1.lt
  by_cases hka : (S k).arr = arr
  case neg =>
    have er : Hid (r = 4) := HH.out.2.2.2.kind HA.out fun q => hka (by have := q.2.2; simpa using this)
    generalize (S k).arr = b at *
    have hb : b = !arr := by cases b <;> cases arr <;> simp_all
    clear hka
    subst hb
    cases arr
    · simp only [Bool.not_false]
      go_wp2
      (try simp only [Exit.inBlock, Exit.then])
      exact bodyPost_ret_by (results_blk_tmp rfl _ _ (w.heap.size + 1) [_, _] rfl (((HW4.out.2.1.set (i := 0) rfl _).set (i := 1) rfl _).kept ((Kept.refl _).alloc _ _)) Tryz.underlying29 (by kernel_rfl)) rfl
        ⟨.inl ⟨by rw [er.out]; decide, by rw [er.out]; rfl⟩, ((HW4.out.1.setCell (by simp) _).setCell (by simp) _).alloc _ _⟩
    · simp only [Bool.not_true]
      go_wp2
      (try simp only [Exit.inBlock, Exit.then])
      exact bodyPost_ret_by (results_blk_tmp rfl _ _ (w.heap.size + 1) [_, _] rfl (((HW4.out.2.1.set (i := 0) rfl _).set (i := 1) rfl _).kept ((Kept.refl _).alloc _ _)) Tryz.underlying29 (by kernel_rfl)) rfl
        ⟨.inl ⟨by rw [er.out]; decide, by rw [er.out]; rfl⟩, ((HW4.out.1.setCell (by simp) _).setCell (by simp) _).alloc _ _⟩
  subst hka
  have HK : Hid (AK sl S k (S k).arr) := ⟨by omega, by have := HKS.out; omega, by simp⟩
  have CZ : Hid (∀ w, Calls Tryz.prog 55 #[.agg #[.bool (S k).arr, .slice (some ⟨g, 0, none⟩) (S k).l (S k).l], .int .i64 n] w _) := fun w => size_any (S k) n _ _ w HM.out HH.out.2.2.1
  have HI : Hid (AI S k n (S k).arr ↔ 0 ≤ sizeU (S k).arr (S k).l n) := by unfold AI; rw [Int.toNat_natCast]; exact Iff.rfl
  have HF : Hid (AF S k n (S k).arr L l ↔ (l : Int) = sizeU (S k).arr (S k).l n ∧ ¬ Twice L l) := by unfold AF; rw [Int.toNat_natCast]; exact Iff.rfl
  have HR : Hid (S (k : Int).toNat = S k ∧ R (k : Int).toNat = R k) := by rw [Int.toNat_natCast]; exact ⟨rfl, rfl⟩
  generalize sizeU (S k).arr (S k).l n = z at *
  have e1 : ((S k).arr != (S k).arr) = false := by simp
  go_wp2_with fail
  refine (CZ.out _).mono ?_
  rintro e w5 ⟨rfl, K⟩
  have HS5 : Hid (Blk w5 w4.heap.size [.bool (S k).arr, .slice (some ⟨g, 0, none⟩) (S k).l (S k).l]) := by
    refine Blk.kept ?_ K
    exact Blk.new w4 [_, _] _
  have k5 := ((Kept.refl w4).alloc _ _).trans K
  have HW5 : Hid (Kept w w5 ∧ Blk w5 (w.heap.size + 1) [.bool false, .slice none 0 0] ∧ w.heap.size + 1 < g ∧ Refs w5 (some ⟨g, 0, none⟩) (S k).l (R k)) := ⟨HW4.out.1.trans k5, HW4.out.2.1.kept k5, HW4.out.2.2.1, HW4.out.2.2.2.kept k5⟩
  clear HW4 K k5 d0 d1 f1 CZ e1
  have d0 := HW5.out.2.1.at 0 rfl
  have d1 := HW5.out.2.1.at 1 rfl
  have f1 := HW5.out.2.1.fz
  by_cases hz0 : z < 0
  · have er : Hid (r = 5) := HH.out.2.2.2.index HA.out HK.out fun q => by have := HI.out.1 q; omega
    go_wp2
    (try simp only [Exit.inBlock, Exit.then])
    exact bodyPost_ret_by (results_blk_tmp rfl _ _ (w.heap.size + 1) [_, _] rfl ((HW5.out.2.1.set (i := 0) rfl _).set (i := 1) rfl _) Tryz.underlying29 (by kernel_rfl)) rfl
      ⟨.inl ⟨by rw [er.out]; decide, by rw [er.out]; rfl⟩, (HW5.out.1.setCell (by simp) _).setCell (by simp) _⟩
  have HI2 : Hid (AI S k n (S k).arr) := HI.out.2 (by omega)
  by_cases hlz : (l : Int) = z
  case neg =>
    have e1 : ((l : Int) != z) = true := by simpa using hlz
    have er : Hid (r = 2) := HH.out.2.2.2.form HA.out HK.out HI2.out fun q => hlz (HF.out.1 q).1
    clear hlz
    go_wp2
    (try simp only [Exit.inBlock, Exit.then])
    exact bodyPost_ret_by (results_blk_tmp rfl _ _ (w.heap.size + 1) [_, _] rfl ((HW5.out.2.1.set (i := 0) rfl _).set (i := 1) rfl _) Tryz.underlying29 (by kernel_rfl)) rfl
      ⟨.inl ⟨by rw [er.out]; decide, by rw [er.out]; rfl⟩, (HW5.out.1.setCell (by simp) _).setCell (by simp) _⟩
  have e1 : ((l : Int) != z) = false := by simpa using hlz
  have HL : Hid ((l : Int) = z) := hlz
  clear hlz d0 d1 f1
  go_wp2_with fail
  refine (C2.out _ HW5.out.1).mono ?_
  rintro e w6 ⟨rfl, rfl⟩
  have d0 := HW5.out.2.1.at 0 rfl
  have d1 := HW5.out.2.1.at 1 rfl
  have f1 := HW5.out.2.1.fz
  cases q2
  · have er : Hid (r = 0) := HH.out.2.2.2.ok HA.out HK.out HI2.out (HF.out.2 ⟨HL.out, fun q => absurd (H2.out.2 q) (by simp)⟩)
    have s0 := HS5.out.at 0 rfl
    have s1 := HS5.out.at 1 rfl
    go_wp2
    (try simp only [Exit.inBlock, Exit.then])
    refine bodyPost_ret_by (results_blk_tmp rfl _ _ (w.heap.size + 1) [_, _] rfl ((HW5.out.2.1.set (i := 0) rfl _).set (i := 1) rfl _) Tryz.underlying29 (by kernel_rfl)) rfl
      ⟨.inr ⟨er.out, g, ?_, by have := HW5.out.2.2.1; omega, ?_⟩, (HW5.out.1.setCell (by simp) _).setCell (by simp) _⟩
    · rw [HR.out.1]; rfl
    · rw [HR.out.1, HR.out.2]
      exact (HW5.out.2.2.2.set_other (by have := HW5.out.2.2.1; simp; omega) _).set_other (by have := HW5.out.2.2.1; simp; omega) _
  · have er : Hid (r = 2) := HH.out.2.2.2.form HA.out HK.out HI2.out fun q => (HF.out.1 q).2 (H2.out.1 rfl)
    go_wp2
    (try simp only [Exit.inBlock, Exit.then])
    exact bodyPost_ret_by (results_blk_tmp rfl _ _ (w.heap.size + 1) [_, _] rfl ((HW5.out.2.1.set (i := 0) rfl _).set (i := 1) rfl _) Tryz.underlying29 (by kernel_rfl)) rfl
      ⟨.inl ⟨by rw [er.out]; decide, by rw [er.out]; rfl⟩, (HW5.out.1.setCell (by simp) _).setCell (by simp) _⟩
end Go.Proofs.YtpdclckgnajcdaaGreat
