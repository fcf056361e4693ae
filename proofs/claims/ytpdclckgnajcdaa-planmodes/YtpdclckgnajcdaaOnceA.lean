/-
  The walk of PlanOnce: the ways that end early.
-/
import Derived.Test.YtpdclckgnajcdaaFirst12
import Derived.Test.YtpdclckgnajcdaaPlan10
namespace Go.Proofs.Ytpdclckgnajcdaa
open Go.RowKit

theorem iff_f {P : Prop} (h : ¬ P) : (false = true) ↔ P := ⟨fun q => (by cases q), fun q => absurd q h⟩
theorem iff_t {P : Prop} (h : P) : (true = true) ↔ P := ⟨fun _ => h, fun _ => rfl⟩

/-- What the addresses of the writes keep. -/
structure Onc (A : Nat → Int) (T l : Nat) (L : Nat → Int) (at' : Int) (wn : Nat) : Prop where
  nn : ∀ i, i < T → 0 ≤ A i ∧ A i ≤ 20000
  hit : ∀ i, i < T → (at' ≤ A i ∧ A i < at' + wn) ∨ ∃ k, k < l ∧ A i / 8 = L k
  ne : ∀ i, i < T → ∀ k, k < i → A k ≠ A i
theorem frag_ne {L : Nat → Int} {l : Nat} (ht : ¬ Twice L l) {i k : Nat} (hi : i < 8 * l) (hk : k < i) : L (k / 8) * 8 + ((k % 8 : Nat) : Int) ≠ L (i / 8) * 8 + ((i % 8 : Nat) : Int) := by
  by_cases e : k / 8 = i / 8
  · rw [e]; omega
  · have hne : L (k / 8) ≠ L (i / 8) := fun h => ht ⟨k / 8, i / 8, by omega, by omega, h⟩
    omega
theorem onc_obj {n0 : Int} {L : Nat → Int} {l : Nat} {at' : Int} (hf : Frs L l n0) (h0 : n0 ≤ 1024) (ht : ¬ Twice L l) (f : Nat → Wr) (he : ∀ i, i < 8 * l → (f i).a = L (i / 8) * 8 + ((i % 8 : Nat) : Int)) : Onc (fun i => (f i).a) (8 * l) l L at' 0 := by
  refine ⟨fun i hi => ?_, fun i hi => .inr ⟨i / 8, by omega, ?_⟩, fun i hi k hk => ?_⟩
  · have := hf (i / 8) (by omega)
    simp only [he i hi]
    omega
  · simp only [he i hi]
    omega
  · simp only [he i hi, he k (by omega)]
    exact frag_ne ht hi hk
theorem onc_arr {n0 n1 : Int} {L : Nat → Int} {l : Nat} {at' : Int} (hf : Frs L l n0) (h0 : n0 ≤ 1024) (h1 : n1 ≤ 2048) (ht : ¬ Twice L l) (hF : Fit n0 n1 at' (l + 1)) (h10 : 0 ≤ n1) (h00 : 0 ≤ n0) (f : Nat → Wr) (he : ∀ i, i < 8 * l → (f i).a = L (i / 8) * 8 + ((i % 8 : Nat) : Int))
    (hs : ∀ j, j < l + 1 → (f (8 * l + j)).a = at' + j) : Onc (fun i => (f i).a) (8 * l + (l + 1)) l L at' (l + 1) := by
  have hb : 8 * n0 ≤ at' ∧ at' + (l + 1) ≤ 8 * n0 + 2 * n1 := by rcases hF with q | q <;> omega
  have hs' : ∀ i, 8 * l ≤ i → i < 8 * l + (l + 1) → (f i).a = at' + ((i - 8 * l : Nat) : Int) := fun i h2 h3 => by
    have := hs (i - 8 * l) (by omega)
    rwa [show 8 * l + (i - 8 * l) = i by omega] at this
  have hlo : ∀ i, i < 8 * l → 0 ≤ (f i).a ∧ (f i).a < 8 * n0 := fun i hi => by
    have := hf (i / 8) (by omega)
    rw [he i hi]
    omega
  refine ⟨fun i hi => ?_, fun i hi => ?_, fun i hi k hk => ?_⟩
  · by_cases h : i < 8 * l
    · have := hlo i h; exact ⟨this.1, by have := this.2; show (f i).a ≤ 20000; omega⟩
    · simp only [hs' i (by omega) hi]
      omega
  · by_cases h : i < 8 * l
    · refine .inr ⟨i / 8, by omega, ?_⟩
      simp only [he i h]
      omega
    · refine .inl ?_
      simp only [hs' i (by omega) hi]
      omega
  · by_cases h : i < 8 * l
    · simp only [he i h, he k (by omega)]
      exact frag_ne ht h hk
    · simp only [hs' i (by omega) hi]
      by_cases h2 : k < 8 * l
      · have := hlo k h2
        omega
      · simp only [hs' k (by omega) (by omega)]
        omega

/-- What the loops read. -/
structure Onw (w U : World) (g T l xb xo : Nat) (L : Nat → Int) (A : Nat → Int) : Prop where
  kept : Kept w U
  got : xb < U.heap.size ∧ ∀ j, j < l → U.cell? ⟨xb, xo + j, none⟩ = some (.int .i64 (L j))
  wr : g < U.heap.size ∧ ∀ i, i < T → U.cell? ⟨g, i * 2, none⟩ = some (.int .i64 (A i))
theorem Onw.still {w U U' : World} {g T l xb xo : Nat} {L A : Nat → Int} (h : Onw w U g T l xb xo L A) (k : Kept U U') : Onw w U' g T l xb xo L A :=
  ⟨h.kept.trans k, ⟨Nat.lt_of_lt_of_le h.got.1 k.size, fun j hj => (k.cell h.got.1).trans (h.got.2 j hj)⟩, ⟨Nat.lt_of_lt_of_le h.wr.1 k.size, fun i hi => (k.cell h.wr.1).trans (h.wr.2 i hi)⟩⟩

set_option maxRecDepth 20000 in
set_option maxHeartbeats 4000000 in
theorem once_early (n0 n1 n2 n3 n4 n5 n6 n7 : Int) (sx : Option Addr) (sl sc : Nat) (S : Nat → Sh) (kind n : Int) (x : Option Addr) (l c : Nat) (at' : Int) (w : World) (hS : Shps w sx sl S) (hE : ¬ Small sl S ∨ ¬ Good n0 n1 n2 n3 n4 n5 n6 n7 sl S ∨ 200 < l) :
    Calls Try.prog 4 #[.agg #[.int .i64 n0, .int .i64 n1, .int .i64 n2, .int .i64 n3, .int .i64 n4, .int .i64 n5, .int .i64 n6, .int .i64 n7, .slice sx sl sc], .int .i64 kind, .int .i64 n, .slice x l c, .int .i64 at'] w fun e w' => e = .returned (.bool true) ∧ Kept w w' := by
  obtain ⟨p, hp⟩ := bool_iff (Small sl S)
  obtain ⟨r0, hr0, _⟩ := Checks.some n0 n1 n2 n3 n4 n5 n6 n7 sl S
  have CF : Hid (∀ w', Kept w w' → Calls Try.prog 11 #[.agg #[.int .i64 n0, .int .i64 n1, .int .i64 n2, .int .i64 n3, .int .i64 n4, .int .i64 n5, .int .i64 n6, .int .i64 n7, .slice sx sl sc]] w' _) := fun w' k => few_any n0 n1 n2 n3 n4 n5 n6 n7 sx sl sc S p w' (hS.kept k) hp
  have CK : Hid (∀ w', Kept w w' → Calls Try.prog 17 #[.agg #[.int .i64 n0, .int .i64 n1, .int .i64 n2, .int .i64 n3, .int .i64 n4, .int .i64 n5, .int .i64 n6, .int .i64 n7, .slice sx sl sc]] w' _) := fun w' k => check_any n0 n1 n2 n3 n4 n5 n6 n7 sx sl sc S r0 w' (hS.kept k) hr0
  have HE : Hid (p = true → r0 = 0 → 200 < l) := fun h1 h2 => by
    rcases hE with q | q | q
    · exact absurd (hp.1 h1) q
    · subst h2; exact absurd hr0.zero q
    · exact q
  clear hS hp hr0 hE
  go_enter Try.func4, Try.ntmps4
  go_wp2_with fail
  generalize hW1 : w.alloc _ = W1
  have HW1 : Hid (Kept w W1 ∧ Blk W1 w.heap.size (cl n0 n1 n2 n3 n4 n5 n6 n7 (.slice sx sl sc))) := by rw [← hW1]; exact ⟨(Kept.refl w).alloc _ _, Blk.new w _ _⟩
  clear hW1
  refine (first_any _).mono ?_
  rintro e u1 ⟨rfl, K⟩
  have HW : Hid (Kept w u1 ∧ Blk u1 w.heap.size (cl n0 n1 n2 n3 n4 n5 n6 n7 (.slice sx sl sc))) := ⟨HW1.out.1.trans K, HW1.out.2.kept K⟩
  clear HW1 K
  have c0 := HW.out.2.at 0 rfl
  have c1 := HW.out.2.at 1 rfl
  have c2 := HW.out.2.at 2 rfl
  have c3 := HW.out.2.at 3 rfl
  have c4 := HW.out.2.at 4 rfl
  have c5 := HW.out.2.at 5 rfl
  have c6 := HW.out.2.at 6 rfl
  have c7 := HW.out.2.at 7 rfl
  have c8 := HW.out.2.at 8 rfl
  go_wp2_with fail
  refine (CF.out _ HW.out.1).mono ?_
  rintro e u2 ⟨rfl, K⟩
  have HW2 : Hid (Kept w u2 ∧ Blk u2 w.heap.size (cl n0 n1 n2 n3 n4 n5 n6 n7 (.slice sx sl sc))) := ⟨HW.out.1.trans K, HW.out.2.kept K⟩
  clear HW K c0 c1 c2 c3 c4 c5 c6 c7 c8
  have HK : Hid (Kept w u2) := HW2.out.1
  cases p
  · clear HW2
    go_wp2_with fail
    refine (first_any _).mono ?_
    rintro e u9 ⟨rfl, K9⟩
    have K10 : Hid (Kept w u9) := HK.out.trans K9
    clear K9
    go_wp2
    go_ret
    exact ⟨rfl, K10.out⟩
  clear HK
  have c0 := HW2.out.2.at 0 rfl
  have c1 := HW2.out.2.at 1 rfl
  have c2 := HW2.out.2.at 2 rfl
  have c3 := HW2.out.2.at 3 rfl
  have c4 := HW2.out.2.at 4 rfl
  have c5 := HW2.out.2.at 5 rfl
  have c6 := HW2.out.2.at 6 rfl
  have c7 := HW2.out.2.at 7 rfl
  have c8 := HW2.out.2.at 8 rfl
  go_wp2_with fail
  refine (CK.out _ HW2.out.1).mono ?_
  rintro e u3 ⟨rfl, K⟩
  have HK : Hid (Kept w u3) := HW2.out.1.trans K
  clear HW2 K c0 c1 c2 c3 c4 c5 c6 c7 c8
  by_cases h0 : r0 = 0
  · have hl : (l : Int) > 200 := by have := HE.out (by trivial) h0; omega
    have e0 : (r0 != 0) = false := by simpa using h0
    clear h0
    go_wp2_with fail
    refine (first_any _).mono ?_
    rintro e u9 ⟨rfl, K9⟩
    have K10 : Hid (Kept w u9) := HK.out.trans K9
    clear K9
    go_wp2
    go_ret
    exact ⟨rfl, K10.out⟩
  · have e0 : (r0 != 0) = true := by simpa using h0
    clear h0
    go_wp2_with fail
    refine (first_any _).mono ?_
    rintro e u9 ⟨rfl, K9⟩
    have K10 : Hid (Kept w u9) := HK.out.trans K9
    clear K9
    go_wp2
    go_ret
    exact ⟨rfl, K10.out⟩

set_option maxRecDepth 20000 in
set_option maxHeartbeats 4000000 in
theorem once_out (n0 n1 n2 n3 n4 n5 n6 n7 : Int) (sx : Option Addr) (sl sc : Nat) (S : Nat → Sh) (R : Nat → Nat → Bool) (kind n : Int) (x : Option Addr) (l c : Nat) (L : Nat → Int) (at' : Int) (w : World) (hS : Shps w sx sl S) (hR : ∀ i, i < sl → Refs w (S i).x (S i).l (R i)) (hc : l ≤ c) (hx : Rdf w x l L) (hm : Small sl S) (hg : Good n0 n1 n2 n3 n4 n5 n6 n7 sl S) (hl : l ≤ 200) (hk : kind < 0 ∨ (sl : Int) ≤ kind) :
    Calls Try.prog 4 #[.agg #[.int .i64 n0, .int .i64 n1, .int .i64 n2, .int .i64 n3, .int .i64 n4, .int .i64 n5, .int .i64 n6, .int .i64 n7, .slice sx sl sc], .int .i64 kind, .int .i64 n, .slice x l c, .int .i64 at'] w fun e w' => e = .returned (.bool true) ∧ Kept w w' := by
  have CF : Hid (∀ w', Kept w w' → Calls Try.prog 11 #[.agg #[.int .i64 n0, .int .i64 n1, .int .i64 n2, .int .i64 n3, .int .i64 n4, .int .i64 n5, .int .i64 n6, .int .i64 n7, .slice sx sl sc]] w' _) := fun w' k => few_any n0 n1 n2 n3 n4 n5 n6 n7 sx sl sc S true w' (hS.kept k) ⟨fun _ => hm, fun _ => rfl⟩
  have CK : Hid (∀ w', Kept w w' → Calls Try.prog 17 #[.agg #[.int .i64 n0, .int .i64 n1, .int .i64 n2, .int .i64 n3, .int .i64 n4, .int .i64 n5, .int .i64 n6, .int .i64 n7, .slice sx sl sc]] w' _) := fun w' k => check_any n0 n1 n2 n3 n4 n5 n6 n7 sx sl sc S 0 w' (hS.kept k) (Checks.of_ok hg.1 hg.2)
  have HH : Hid (Shps w sx sl S ∧ (∀ i, i < sl → Refs w (S i).x (S i).l (R i)) ∧ Rdf w x l L) := ⟨hS, hR, hx⟩
  have CS : Hid (∀ w', Kept w w' → Calls Try.prog 18 #[.agg #[.int .i64 n0, .int .i64 n1, .int .i64 n2, .int .i64 n3, .int .i64 n4, .int .i64 n5, .int .i64 n6, .int .i64 n7, .slice sx sl sc], .int .i64 kind] w' _) := fun w' _ => shape_out n0 n1 n2 n3 n4 n5 n6 n7 sx sl sc kind w' hk
  obtain ⟨r, hr⟩ := Asks.some (AG n0 n1 n2 n3 n4 n5 n6 n7 sl S L l) (AK sl S kind false) (AI S kind 0 false) (AF S kind 0 false L l)
  have hr0 : r ≠ 0 := fun h => by
    subst h
    have := hr.zero.2.1
    have := this.1
    have := hr.zero.2.1.2.1
    omega
  have CO : Hid (∀ w', Kept w w' → Calls Try.prog 12 #[.agg #[.int .i64 n0, .int .i64 n1, .int .i64 n2, .int .i64 n3, .int .i64 n4, .int .i64 n5, .int .i64 n6, .int .i64 n7, .slice sx sl sc], .int .i64 kind, .slice x l c] w' _) := fun w' q => object_no n0 n1 n2 n3 n4 n5 n6 n7 sx sl sc S R kind (c := c) r w' (hS.kept q) (fun i hi => (hR i hi).kept q) (by omega) hc (hx.kept q) hr hr0
  have er : (r != 0) = true := by simpa using hr0
  clear hS hR hx hk hr hr0 hm hg HH
  go_enter Try.func4, Try.ntmps4
  go_wp2_with fail
  generalize hW1 : w.alloc _ = W1
  have HW1 : Hid (Kept w W1 ∧ Blk W1 w.heap.size (cl n0 n1 n2 n3 n4 n5 n6 n7 (.slice sx sl sc))) := by rw [← hW1]; exact ⟨(Kept.refl w).alloc _ _, Blk.new w _ _⟩
  clear hW1
  refine (first_any _).mono ?_
  rintro e u1 ⟨rfl, K⟩
  have HW : Hid (Kept w u1 ∧ Blk u1 w.heap.size (cl n0 n1 n2 n3 n4 n5 n6 n7 (.slice sx sl sc))) := ⟨HW1.out.1.trans K, HW1.out.2.kept K⟩
  clear HW1 K
  have c0 := HW.out.2.at 0 rfl
  have c1 := HW.out.2.at 1 rfl
  have c2 := HW.out.2.at 2 rfl
  have c3 := HW.out.2.at 3 rfl
  have c4 := HW.out.2.at 4 rfl
  have c5 := HW.out.2.at 5 rfl
  have c6 := HW.out.2.at 6 rfl
  have c7 := HW.out.2.at 7 rfl
  have c8 := HW.out.2.at 8 rfl
  go_wp2_with fail
  refine (CF.out _ HW.out.1).mono ?_
  rintro e u2 ⟨rfl, K⟩
  have HW2 : Hid (Kept w u2 ∧ Blk u2 w.heap.size (cl n0 n1 n2 n3 n4 n5 n6 n7 (.slice sx sl sc))) := ⟨HW.out.1.trans K, HW.out.2.kept K⟩
  clear HW K c0 c1 c2 c3 c4 c5 c6 c7 c8
  have c0 := HW2.out.2.at 0 rfl
  have c1 := HW2.out.2.at 1 rfl
  have c2 := HW2.out.2.at 2 rfl
  have c3 := HW2.out.2.at 3 rfl
  have c4 := HW2.out.2.at 4 rfl
  have c5 := HW2.out.2.at 5 rfl
  have c6 := HW2.out.2.at 6 rfl
  have c7 := HW2.out.2.at 7 rfl
  have c8 := HW2.out.2.at 8 rfl
  go_wp2_with fail
  refine (CK.out _ HW2.out.1).mono ?_
  rintro e u3 ⟨rfl, K⟩
  have HW : Hid (Kept w u3 ∧ Blk u3 w.heap.size (cl n0 n1 n2 n3 n4 n5 n6 n7 (.slice sx sl sc))) := ⟨HW2.out.1.trans K, HW2.out.2.kept K⟩
  clear HW2 K c0 c1 c2 c3 c4 c5 c6 c7 c8 CF CK
  have hl2 : ¬ (l : Int) > 200 := by omega
  have c0 := HW.out.2.at 0 rfl
  have c1 := HW.out.2.at 1 rfl
  have c2 := HW.out.2.at 2 rfl
  have c3 := HW.out.2.at 3 rfl
  have c4 := HW.out.2.at 4 rfl
  have c5 := HW.out.2.at 5 rfl
  have c6 := HW.out.2.at 6 rfl
  have c7 := HW.out.2.at 7 rfl
  have c8 := HW.out.2.at 8 rfl
  go_wp2_with fail
  refine (CS.out _ HW.out.1).mono ?_
  rintro e u4 ⟨rfl, K⟩
  have HV : Hid (Kept w u4 ∧ Blk u4 w.heap.size (cl n0 n1 n2 n3 n4 n5 n6 n7 (.slice sx sl sc))) := ⟨HW.out.1.trans K, HW.out.2.kept K⟩
  clear HW K c0 c1 c2 c3 c4 c5 c6 c7 c8 CS
  go_upto_region 6 with fail
  generalize hW3 : u4.alloc _ = W3
  have HW : Hid (Kept w W3 ∧ Blk W3 w.heap.size (cl n0 n1 n2 n3 n4 n5 n6 n7 (.slice sx sl sc))) := by rw [← hW3]; exact ⟨HV.out.1.alloc _ _, HV.out.2.kept ((Kept.refl _).alloc _ _)⟩
  clear HV hW3
  have c0 := HW.out.2.at 0 rfl
  have c1 := HW.out.2.at 1 rfl
  have c2 := HW.out.2.at 2 rfl
  have c3 := HW.out.2.at 3 rfl
  have c4 := HW.out.2.at 4 rfl
  have c5 := HW.out.2.at 5 rfl
  have c6 := HW.out.2.at 6 rfl
  have c7 := HW.out.2.at 7 rfl
  have c8 := HW.out.2.at 8 rfl
  go_wp2_with fail
  refine (CO.out _ HW.out.1).mono ?_
  rintro e u5 ⟨rfl, K⟩
  have HK : Hid (Kept w u5) := HW.out.1.trans K
  clear HW K c0 c1 c2 c3 c4 c5 c6 c7 c8 CO
  go_wp2_with fail
  refine (first_any _).mono ?_
  rintro e u9 ⟨rfl, K9⟩
  have K10 : Hid (Kept w u9) := HK.out.trans K9
  clear K9
  go_wp2
  go_ret
  exact ⟨rfl, K10.out⟩

set_option maxRecDepth 20000 in
set_option maxHeartbeats 4000000 in
theorem once_obj_no (n0 n1 n2 n3 n4 n5 n6 n7 : Int) (sx : Option Addr) (sl sc : Nat) (S : Nat → Sh) (R : Nat → Nat → Bool) (k : Nat) ( n : Int) (x : Option Addr) (l c : Nat) (L : Nat → Int) (at' : Int) (w : World) (hS : Shps w sx sl S) (hR : ∀ i, i < sl → Refs w (S i).x (S i).l (R i)) (hc : l ≤ c) (hx : Rdf w x l L) (hm : Small sl S) (hg : Good n0 n1 n2 n3 n4 n5 n6 n7 sl S) (hl : l ≤ 200) (hk : k < sl) (hab : (S k).arr = false) (r : Int) (hr : Asks (AG n0 n1 n2 n3 n4 n5 n6 n7 sl S L l) (AK sl S k false) (AI S k 0 false) (AF S k 0 false L l) r) (hr0 : r ≠ 0) :
    Calls Try.prog 4 #[.agg #[.int .i64 n0, .int .i64 n1, .int .i64 n2, .int .i64 n3, .int .i64 n4, .int .i64 n5, .int .i64 n6, .int .i64 n7, .slice sx sl sc], .int .i64 k, .int .i64 n, .slice x l c, .int .i64 at'] w fun e w' => e = .returned (.bool true) ∧ Kept w w' := by
  have CF : Hid (∀ w', Kept w w' → Calls Try.prog 11 #[.agg #[.int .i64 n0, .int .i64 n1, .int .i64 n2, .int .i64 n3, .int .i64 n4, .int .i64 n5, .int .i64 n6, .int .i64 n7, .slice sx sl sc]] w' _) := fun w' k => few_any n0 n1 n2 n3 n4 n5 n6 n7 sx sl sc S true w' (hS.kept k) ⟨fun _ => hm, fun _ => rfl⟩
  have CK : Hid (∀ w', Kept w w' → Calls Try.prog 17 #[.agg #[.int .i64 n0, .int .i64 n1, .int .i64 n2, .int .i64 n3, .int .i64 n4, .int .i64 n5, .int .i64 n6, .int .i64 n7, .slice sx sl sc]] w' _) := fun w' k => check_any n0 n1 n2 n3 n4 n5 n6 n7 sx sl sc S 0 w' (hS.kept k) (Checks.of_ok hg.1 hg.2)
  have HH : Hid (Shps w sx sl S ∧ (∀ i, i < sl → Refs w (S i).x (S i).l (R i)) ∧ Rdf w x l L) := ⟨hS, hR, hx⟩
  have CS : Hid (∀ w', Kept w w' → Calls Try.prog 18 #[.agg #[.int .i64 n0, .int .i64 n1, .int .i64 n2, .int .i64 n3, .int .i64 n4, .int .i64 n5, .int .i64 n6, .int .i64 n7, .slice sx sl sc], .int .i64 k] w' _) := fun w' q => shape_in n0 n1 n2 n3 n4 n5 n6 n7 sx sl sc S (R k) k w' hk (by have := may_few (hg.2.2.2 k hk); omega) (hS.kept q) ((hR k hk).kept q)
  have hfl := may_len (hg.2.2.2 k hk)
  have hfl40 := may_few (hg.2.2.2 k hk)
  have e0 : (k : Int).toNat = k := Int.toNat_natCast k
  obtain ⟨fl, hfe⟩ : ∃ fl, (S k).l = fl := ⟨_, rfl⟩
  have HFL : Hid ((S k).arr = false ∧ (S k).l = fl) := ⟨hab, hfe⟩
  have CO : Hid (∀ w', Kept w w' → Calls Try.prog 12 #[.agg #[.int .i64 n0, .int .i64 n1, .int .i64 n2, .int .i64 n3, .int .i64 n4, .int .i64 n5, .int .i64 n6, .int .i64 n7, .slice sx sl sc], .int .i64 k, .slice x l c] w' _) := fun w' q => object_no n0 n1 n2 n3 n4 n5 n6 n7 sx sl sc S R k (c := c) r w' (hS.kept q) (fun i hi => (hR i hi).kept q) (by omega) hc (hx.kept q) hr hr0
  have er : (r != 0) = true := by simpa using hr0
  clear hS hR hx hk hr hr0 hm hg HH hfl hab hfe e0
  go_enter Try.func4, Try.ntmps4
  go_wp2_with fail
  generalize hW1 : w.alloc _ = W1
  have HW1 : Hid (Kept w W1 ∧ Blk W1 w.heap.size (cl n0 n1 n2 n3 n4 n5 n6 n7 (.slice sx sl sc))) := by rw [← hW1]; exact ⟨(Kept.refl w).alloc _ _, Blk.new w _ _⟩
  clear hW1
  refine (first_any _).mono ?_
  rintro e u1 ⟨rfl, K⟩
  have HW : Hid (Kept w u1 ∧ Blk u1 w.heap.size (cl n0 n1 n2 n3 n4 n5 n6 n7 (.slice sx sl sc))) := ⟨HW1.out.1.trans K, HW1.out.2.kept K⟩
  clear HW1 K
  have c0 := HW.out.2.at 0 rfl
  have c1 := HW.out.2.at 1 rfl
  have c2 := HW.out.2.at 2 rfl
  have c3 := HW.out.2.at 3 rfl
  have c4 := HW.out.2.at 4 rfl
  have c5 := HW.out.2.at 5 rfl
  have c6 := HW.out.2.at 6 rfl
  have c7 := HW.out.2.at 7 rfl
  have c8 := HW.out.2.at 8 rfl
  go_wp2_with fail
  refine (CF.out _ HW.out.1).mono ?_
  rintro e u2 ⟨rfl, K⟩
  have HW2 : Hid (Kept w u2 ∧ Blk u2 w.heap.size (cl n0 n1 n2 n3 n4 n5 n6 n7 (.slice sx sl sc))) := ⟨HW.out.1.trans K, HW.out.2.kept K⟩
  clear HW K c0 c1 c2 c3 c4 c5 c6 c7 c8
  have c0 := HW2.out.2.at 0 rfl
  have c1 := HW2.out.2.at 1 rfl
  have c2 := HW2.out.2.at 2 rfl
  have c3 := HW2.out.2.at 3 rfl
  have c4 := HW2.out.2.at 4 rfl
  have c5 := HW2.out.2.at 5 rfl
  have c6 := HW2.out.2.at 6 rfl
  have c7 := HW2.out.2.at 7 rfl
  have c8 := HW2.out.2.at 8 rfl
  go_wp2_with fail
  refine (CK.out _ HW2.out.1).mono ?_
  rintro e u3 ⟨rfl, K⟩
  have HW : Hid (Kept w u3 ∧ Blk u3 w.heap.size (cl n0 n1 n2 n3 n4 n5 n6 n7 (.slice sx sl sc))) := ⟨HW2.out.1.trans K, HW2.out.2.kept K⟩
  clear HW2 K c0 c1 c2 c3 c4 c5 c6 c7 c8 CF CK
  have hl2 : ¬ (l : Int) > 200 := by omega
  have c0 := HW.out.2.at 0 rfl
  have c1 := HW.out.2.at 1 rfl
  have c2 := HW.out.2.at 2 rfl
  have c3 := HW.out.2.at 3 rfl
  have c4 := HW.out.2.at 4 rfl
  have c5 := HW.out.2.at 5 rfl
  have c6 := HW.out.2.at 6 rfl
  have c7 := HW.out.2.at 7 rfl
  have c8 := HW.out.2.at 8 rfl
  go_wp2_with fail
  refine (CS.out _ HW.out.1).mono ?_
  rintro e u4 ⟨rg, rfl, _, _, K⟩
  have HV : Hid (Kept w u4 ∧ Blk u4 w.heap.size (cl n0 n1 n2 n3 n4 n5 n6 n7 (.slice sx sl sc))) := ⟨HW.out.1.trans K, HW.out.2.kept K⟩
  clear HW K c0 c1 c2 c3 c4 c5 c6 c7 c8 CS
  rw [HFL.out.1, HFL.out.2]
  go_upto_region 6 with fail
  generalize hW3 : u4.alloc _ = W3
  have HW : Hid (Kept w W3 ∧ Blk W3 w.heap.size (cl n0 n1 n2 n3 n4 n5 n6 n7 (.slice sx sl sc)) ∧ Blk W3 u4.heap.size [.bool false, .slice (some ⟨rg, 0, none⟩) fl fl]) := by rw [← hW3]; exact ⟨HV.out.1.alloc _ _, HV.out.2.kept ((Kept.refl _).alloc _ _), Blk.new u4 [_, _] _⟩
  clear HV hW3
  have c0 := HW.out.2.1.at 0 rfl
  have c1 := HW.out.2.1.at 1 rfl
  have c2 := HW.out.2.1.at 2 rfl
  have c3 := HW.out.2.1.at 3 rfl
  have c4 := HW.out.2.1.at 4 rfl
  have c5 := HW.out.2.1.at 5 rfl
  have c6 := HW.out.2.1.at 6 rfl
  have c7 := HW.out.2.1.at 7 rfl
  have c8 := HW.out.2.1.at 8 rfl
  go_wp2_with fail
  refine (CO.out _ HW.out.1).mono ?_
  rintro e u5 ⟨rfl, K⟩
  have HK : Hid (Kept w u5) := HW.out.1.trans K
  have s0 := (HW.out.2.2.kept K).at 0 rfl
  clear HW K c0 c1 c2 c3 c4 c5 c6 c7 c8 CO
  go_wp2_with fail
  refine (first_any _).mono ?_
  rintro e u9 ⟨rfl, K9⟩
  have K10 : Hid (Kept w u9) := HK.out.trans K9
  clear K9
  go_wp2
  go_ret
  exact ⟨rfl, K10.out⟩

set_option maxRecDepth 20000 in
set_option maxHeartbeats 4000000 in
theorem once_arr_no (n0 n1 n2 n3 n4 n5 n6 n7 : Int) (sx : Option Addr) (sl sc : Nat) (S : Nat → Sh) (R : Nat → Nat → Bool) (k : Nat) ( n : Int) (x : Option Addr) (l c : Nat) (L : Nat → Int) (at' : Int) (w : World) (hS : Shps w sx sl S) (hR : ∀ i, i < sl → Refs w (S i).x (S i).l (R i)) (hc : l ≤ c) (hx : Rdf w x l L) (hm : Small sl S) (hg : Good n0 n1 n2 n3 n4 n5 n6 n7 sl S) (hl : l ≤ 200) (hk : k < sl) (hab : (S k).arr = true) (r : Int) (hr : Asks (AG n0 n1 n2 n3 n4 n5 n6 n7 sl S L l) (AK sl S k true) (AI S k n true) (AF S k n true L l) r) (hr0 : r ≠ 0) :
    Calls Try.prog 4 #[.agg #[.int .i64 n0, .int .i64 n1, .int .i64 n2, .int .i64 n3, .int .i64 n4, .int .i64 n5, .int .i64 n6, .int .i64 n7, .slice sx sl sc], .int .i64 k, .int .i64 n, .slice x l c, .int .i64 at'] w fun e w' => e = .returned (.bool true) ∧ Kept w w' := by
  have CF : Hid (∀ w', Kept w w' → Calls Try.prog 11 #[.agg #[.int .i64 n0, .int .i64 n1, .int .i64 n2, .int .i64 n3, .int .i64 n4, .int .i64 n5, .int .i64 n6, .int .i64 n7, .slice sx sl sc]] w' _) := fun w' k => few_any n0 n1 n2 n3 n4 n5 n6 n7 sx sl sc S true w' (hS.kept k) ⟨fun _ => hm, fun _ => rfl⟩
  have CK : Hid (∀ w', Kept w w' → Calls Try.prog 17 #[.agg #[.int .i64 n0, .int .i64 n1, .int .i64 n2, .int .i64 n3, .int .i64 n4, .int .i64 n5, .int .i64 n6, .int .i64 n7, .slice sx sl sc]] w' _) := fun w' k => check_any n0 n1 n2 n3 n4 n5 n6 n7 sx sl sc S 0 w' (hS.kept k) (Checks.of_ok hg.1 hg.2)
  have HH : Hid (Shps w sx sl S ∧ (∀ i, i < sl → Refs w (S i).x (S i).l (R i)) ∧ Rdf w x l L) := ⟨hS, hR, hx⟩
  have CS : Hid (∀ w', Kept w w' → Calls Try.prog 18 #[.agg #[.int .i64 n0, .int .i64 n1, .int .i64 n2, .int .i64 n3, .int .i64 n4, .int .i64 n5, .int .i64 n6, .int .i64 n7, .slice sx sl sc], .int .i64 k] w' _) := fun w' q => shape_in n0 n1 n2 n3 n4 n5 n6 n7 sx sl sc S (R k) k w' hk (by have := may_few (hg.2.2.2 k hk); omega) (hS.kept q) ((hR k hk).kept q)
  have hfl := may_len (hg.2.2.2 k hk)
  have hfl40 := may_few (hg.2.2.2 k hk)
  have e0 : (k : Int).toNat = k := Int.toNat_natCast k
  obtain ⟨fl, hfe⟩ : ∃ fl, (S k).l = fl := ⟨_, rfl⟩
  have HFL : Hid ((S k).arr = true ∧ (S k).l = fl) := ⟨hab, hfe⟩
  obtain ⟨r1, hr1⟩ := Asks.some (AG n0 n1 n2 n3 n4 n5 n6 n7 sl S L l) (AK sl S k false) (AI S k 0 false) (AF S k 0 false L l)
  have hr10 : r1 ≠ 0 := fun h => by
    subst h
    have := hr1.zero.2.1.2.2
    rw [e0, hab] at this
    cases this
  have CO : Hid (∀ w', Kept w w' → Calls Try.prog 12 #[.agg #[.int .i64 n0, .int .i64 n1, .int .i64 n2, .int .i64 n3, .int .i64 n4, .int .i64 n5, .int .i64 n6, .int .i64 n7, .slice sx sl sc], .int .i64 k, .slice x l c] w' _) := fun w' q => object_no n0 n1 n2 n3 n4 n5 n6 n7 sx sl sc S R k (c := c) r1 w' (hS.kept q) (fun i hi => (hR i hi).kept q) (by omega) hc (hx.kept q) hr1 hr10
  have CA : Hid (∀ w', Kept w w' → Calls Try.prog 14 #[.agg #[.int .i64 n0, .int .i64 n1, .int .i64 n2, .int .i64 n3, .int .i64 n4, .int .i64 n5, .int .i64 n6, .int .i64 n7, .slice sx sl sc], .int .i64 k, .int .i64 n, .slice x l c, .int .i64 at'] w' _) := fun w' q => array_no n0 n1 n2 n3 n4 n5 n6 n7 sx sl sc S R k n (c := c) at' r w' (hS.kept q) (fun i hi => (hR i hi).kept q) (by omega) hc (hx.kept q) hr hr0
  have er : (r != 0) = true := by simpa using hr0
  clear hr0
  clear hS hR hx hk hr hm hg HH hfl hab hfe e0 hr1 hr10
  go_enter Try.func4, Try.ntmps4
  go_wp2_with fail
  generalize hW1 : w.alloc _ = W1
  have HW1 : Hid (Kept w W1 ∧ Blk W1 w.heap.size (cl n0 n1 n2 n3 n4 n5 n6 n7 (.slice sx sl sc))) := by rw [← hW1]; exact ⟨(Kept.refl w).alloc _ _, Blk.new w _ _⟩
  clear hW1
  refine (first_any _).mono ?_
  rintro e u1 ⟨rfl, K⟩
  have HW : Hid (Kept w u1 ∧ Blk u1 w.heap.size (cl n0 n1 n2 n3 n4 n5 n6 n7 (.slice sx sl sc))) := ⟨HW1.out.1.trans K, HW1.out.2.kept K⟩
  clear HW1 K
  have c0 := HW.out.2.at 0 rfl
  have c1 := HW.out.2.at 1 rfl
  have c2 := HW.out.2.at 2 rfl
  have c3 := HW.out.2.at 3 rfl
  have c4 := HW.out.2.at 4 rfl
  have c5 := HW.out.2.at 5 rfl
  have c6 := HW.out.2.at 6 rfl
  have c7 := HW.out.2.at 7 rfl
  have c8 := HW.out.2.at 8 rfl
  go_wp2_with fail
  refine (CF.out _ HW.out.1).mono ?_
  rintro e u2 ⟨rfl, K⟩
  have HW2 : Hid (Kept w u2 ∧ Blk u2 w.heap.size (cl n0 n1 n2 n3 n4 n5 n6 n7 (.slice sx sl sc))) := ⟨HW.out.1.trans K, HW.out.2.kept K⟩
  clear HW K c0 c1 c2 c3 c4 c5 c6 c7 c8
  have c0 := HW2.out.2.at 0 rfl
  have c1 := HW2.out.2.at 1 rfl
  have c2 := HW2.out.2.at 2 rfl
  have c3 := HW2.out.2.at 3 rfl
  have c4 := HW2.out.2.at 4 rfl
  have c5 := HW2.out.2.at 5 rfl
  have c6 := HW2.out.2.at 6 rfl
  have c7 := HW2.out.2.at 7 rfl
  have c8 := HW2.out.2.at 8 rfl
  go_wp2_with fail
  refine (CK.out _ HW2.out.1).mono ?_
  rintro e u3 ⟨rfl, K⟩
  have HW : Hid (Kept w u3 ∧ Blk u3 w.heap.size (cl n0 n1 n2 n3 n4 n5 n6 n7 (.slice sx sl sc))) := ⟨HW2.out.1.trans K, HW2.out.2.kept K⟩
  clear HW2 K c0 c1 c2 c3 c4 c5 c6 c7 c8 CF CK
  have hl2 : ¬ (l : Int) > 200 := by omega
  have c0 := HW.out.2.at 0 rfl
  have c1 := HW.out.2.at 1 rfl
  have c2 := HW.out.2.at 2 rfl
  have c3 := HW.out.2.at 3 rfl
  have c4 := HW.out.2.at 4 rfl
  have c5 := HW.out.2.at 5 rfl
  have c6 := HW.out.2.at 6 rfl
  have c7 := HW.out.2.at 7 rfl
  have c8 := HW.out.2.at 8 rfl
  go_wp2_with fail
  refine (CS.out _ HW.out.1).mono ?_
  rintro e u4 ⟨rg, rfl, _, _, K⟩
  have HV : Hid (Kept w u4 ∧ Blk u4 w.heap.size (cl n0 n1 n2 n3 n4 n5 n6 n7 (.slice sx sl sc))) := ⟨HW.out.1.trans K, HW.out.2.kept K⟩
  clear HW K c0 c1 c2 c3 c4 c5 c6 c7 c8 CS
  rw [HFL.out.1, HFL.out.2]
  go_upto_region 6 with fail
  generalize hW3 : u4.alloc _ = W3
  have HW : Hid (Kept w W3 ∧ Blk W3 w.heap.size (cl n0 n1 n2 n3 n4 n5 n6 n7 (.slice sx sl sc)) ∧ Blk W3 u4.heap.size [.bool true, .slice (some ⟨rg, 0, none⟩) fl fl]) := by rw [← hW3]; exact ⟨HV.out.1.alloc _ _, HV.out.2.kept ((Kept.refl _).alloc _ _), Blk.new u4 [_, _] _⟩
  clear HV hW3
  have c0 := HW.out.2.1.at 0 rfl
  have c1 := HW.out.2.1.at 1 rfl
  have c2 := HW.out.2.1.at 2 rfl
  have c3 := HW.out.2.1.at 3 rfl
  have c4 := HW.out.2.1.at 4 rfl
  have c5 := HW.out.2.1.at 5 rfl
  have c6 := HW.out.2.1.at 6 rfl
  have c7 := HW.out.2.1.at 7 rfl
  have c8 := HW.out.2.1.at 8 rfl
  go_wp2_with fail
  refine (CO.out _ HW.out.1).mono ?_
  rintro e u5 ⟨rfl, K⟩
  have HV : Hid (Kept w u5 ∧ Blk u5 w.heap.size (cl n0 n1 n2 n3 n4 n5 n6 n7 (.slice sx sl sc)) ∧ Blk u5 u4.heap.size [.bool true, .slice (some ⟨rg, 0, none⟩) fl fl]) := ⟨HW.out.1.trans K, HW.out.2.1.kept K, HW.out.2.2.kept K⟩
  clear HW K c0 c1 c2 c3 c4 c5 c6 c7 c8 CO
  have s0 := HV.out.2.2.at 0 rfl
  have c0 := HV.out.2.1.at 0 rfl
  have c1 := HV.out.2.1.at 1 rfl
  have c2 := HV.out.2.1.at 2 rfl
  have c3 := HV.out.2.1.at 3 rfl
  have c4 := HV.out.2.1.at 4 rfl
  have c5 := HV.out.2.1.at 5 rfl
  have c6 := HV.out.2.1.at 6 rfl
  have c7 := HV.out.2.1.at 7 rfl
  have c8 := HV.out.2.1.at 8 rfl
  go_wp2_with fail
  refine (CA.out _ HV.out.1).mono ?_
  rintro e u6 ⟨rfl, K⟩
  have HK : Hid (Kept w u6) := HV.out.1.trans K
  clear HV K s0 c0 c1 c2 c3 c4 c5 c6 c7 c8 CA
  go_wp2_with fail
  refine (first_any _).mono ?_
  rintro e u9 ⟨rfl, K9⟩
  have K10 : Hid (Kept w u9) := HK.out.trans K9
  clear K9
  go_wp2
  go_ret
  exact ⟨rfl, K10.out⟩

set_option maxRecDepth 20000 in
set_option maxHeartbeats 4000000 in
theorem once_arr_bad (n0 n1 n2 n3 n4 n5 n6 n7 : Int) (sx : Option Addr) (sl sc : Nat) (S : Nat → Sh) (R : Nat → Nat → Bool) (k : Nat) ( n : Int) (x : Option Addr) (l c : Nat) (L : Nat → Int) (at' : Int) (w : World) (hS : Shps w sx sl S) (hR : ∀ i, i < sl → Refs w (S i).x (S i).l (R i)) (hc : l ≤ c) (hx : Rdf w x l L) (hm : Small sl S) (hg : Good n0 n1 n2 n3 n4 n5 n6 n7 sl S) (hl : l ≤ 200) (hk : k < sl) (hab : (S k).arr = true) (hr : Asks (AG n0 n1 n2 n3 n4 n5 n6 n7 sl S L l) (AK sl S k true) (AI S k n true) (AF S k n true L l) 0) (hm1 : modeA n L l = 1) (hb : ¬ Fit n0 n1 at' (l + 1)) :
    Calls Try.prog 4 #[.agg #[.int .i64 n0, .int .i64 n1, .int .i64 n2, .int .i64 n3, .int .i64 n4, .int .i64 n5, .int .i64 n6, .int .i64 n7, .slice sx sl sc], .int .i64 k, .int .i64 n, .slice x l c, .int .i64 at'] w fun e w' => e = .returned (.bool true) ∧ Kept w w' := by
  have CF : Hid (∀ w', Kept w w' → Calls Try.prog 11 #[.agg #[.int .i64 n0, .int .i64 n1, .int .i64 n2, .int .i64 n3, .int .i64 n4, .int .i64 n5, .int .i64 n6, .int .i64 n7, .slice sx sl sc]] w' _) := fun w' k => few_any n0 n1 n2 n3 n4 n5 n6 n7 sx sl sc S true w' (hS.kept k) ⟨fun _ => hm, fun _ => rfl⟩
  have CK : Hid (∀ w', Kept w w' → Calls Try.prog 17 #[.agg #[.int .i64 n0, .int .i64 n1, .int .i64 n2, .int .i64 n3, .int .i64 n4, .int .i64 n5, .int .i64 n6, .int .i64 n7, .slice sx sl sc]] w' _) := fun w' k => check_any n0 n1 n2 n3 n4 n5 n6 n7 sx sl sc S 0 w' (hS.kept k) (Checks.of_ok hg.1 hg.2)
  have HH : Hid (Shps w sx sl S ∧ (∀ i, i < sl → Refs w (S i).x (S i).l (R i)) ∧ Rdf w x l L) := ⟨hS, hR, hx⟩
  have CS : Hid (∀ w', Kept w w' → Calls Try.prog 18 #[.agg #[.int .i64 n0, .int .i64 n1, .int .i64 n2, .int .i64 n3, .int .i64 n4, .int .i64 n5, .int .i64 n6, .int .i64 n7, .slice sx sl sc], .int .i64 k] w' _) := fun w' q => shape_in n0 n1 n2 n3 n4 n5 n6 n7 sx sl sc S (R k) k w' hk (by have := may_few (hg.2.2.2 k hk); omega) (hS.kept q) ((hR k hk).kept q)
  have hfl := may_len (hg.2.2.2 k hk)
  have hfl40 := may_few (hg.2.2.2 k hk)
  have e0 : (k : Int).toNat = k := Int.toNat_natCast k
  obtain ⟨fl, hfe⟩ : ∃ fl, (S k).l = fl := ⟨_, rfl⟩
  have HFL : Hid ((S k).arr = true ∧ (S k).l = fl) := ⟨hab, hfe⟩
  obtain ⟨r1, hr1⟩ := Asks.some (AG n0 n1 n2 n3 n4 n5 n6 n7 sl S L l) (AK sl S k false) (AI S k 0 false) (AF S k 0 false L l)
  have hr10 : r1 ≠ 0 := fun h => by
    subst h
    have := hr1.zero.2.1.2.2
    rw [e0, hab] at this
    cases this
  have CO : Hid (∀ w', Kept w w' → Calls Try.prog 12 #[.agg #[.int .i64 n0, .int .i64 n1, .int .i64 n2, .int .i64 n3, .int .i64 n4, .int .i64 n5, .int .i64 n6, .int .i64 n7, .slice sx sl sc], .int .i64 k, .slice x l c] w' _) := fun w' q => object_no n0 n1 n2 n3 n4 n5 n6 n7 sx sl sc S R k (c := c) r1 w' (hS.kept q) (fun i hi => (hR i hi).kept q) (by omega) hc (hx.kept q) hr1 hr10
  have CA : Hid (∀ w', Kept w w' → Calls Try.prog 14 #[.agg #[.int .i64 n0, .int .i64 n1, .int .i64 n2, .int .i64 n3, .int .i64 n4, .int .i64 n5, .int .i64 n6, .int .i64 n7, .slice sx sl sc], .int .i64 k, .int .i64 n, .slice x l c, .int .i64 at'] w' _) := fun w' q => array_bad n0 n1 n2 n3 n4 n5 n6 n7 sx sl sc S R k n (c := c) at' w' (hS.kept q) (fun i hi => (hR i hi).kept q) (by omega) hc (hx.kept q) hr hm1 hb
  clear hm1 hb
  clear hS hR hx hk hr hm hg HH hfl hab hfe e0 hr1 hr10
  go_enter Try.func4, Try.ntmps4
  go_wp2_with fail
  generalize hW1 : w.alloc _ = W1
  have HW1 : Hid (Kept w W1 ∧ Blk W1 w.heap.size (cl n0 n1 n2 n3 n4 n5 n6 n7 (.slice sx sl sc))) := by rw [← hW1]; exact ⟨(Kept.refl w).alloc _ _, Blk.new w _ _⟩
  clear hW1
  refine (first_any _).mono ?_
  rintro e u1 ⟨rfl, K⟩
  have HW : Hid (Kept w u1 ∧ Blk u1 w.heap.size (cl n0 n1 n2 n3 n4 n5 n6 n7 (.slice sx sl sc))) := ⟨HW1.out.1.trans K, HW1.out.2.kept K⟩
  clear HW1 K
  have c0 := HW.out.2.at 0 rfl
  have c1 := HW.out.2.at 1 rfl
  have c2 := HW.out.2.at 2 rfl
  have c3 := HW.out.2.at 3 rfl
  have c4 := HW.out.2.at 4 rfl
  have c5 := HW.out.2.at 5 rfl
  have c6 := HW.out.2.at 6 rfl
  have c7 := HW.out.2.at 7 rfl
  have c8 := HW.out.2.at 8 rfl
  go_wp2_with fail
  refine (CF.out _ HW.out.1).mono ?_
  rintro e u2 ⟨rfl, K⟩
  have HW2 : Hid (Kept w u2 ∧ Blk u2 w.heap.size (cl n0 n1 n2 n3 n4 n5 n6 n7 (.slice sx sl sc))) := ⟨HW.out.1.trans K, HW.out.2.kept K⟩
  clear HW K c0 c1 c2 c3 c4 c5 c6 c7 c8
  have c0 := HW2.out.2.at 0 rfl
  have c1 := HW2.out.2.at 1 rfl
  have c2 := HW2.out.2.at 2 rfl
  have c3 := HW2.out.2.at 3 rfl
  have c4 := HW2.out.2.at 4 rfl
  have c5 := HW2.out.2.at 5 rfl
  have c6 := HW2.out.2.at 6 rfl
  have c7 := HW2.out.2.at 7 rfl
  have c8 := HW2.out.2.at 8 rfl
  go_wp2_with fail
  refine (CK.out _ HW2.out.1).mono ?_
  rintro e u3 ⟨rfl, K⟩
  have HW : Hid (Kept w u3 ∧ Blk u3 w.heap.size (cl n0 n1 n2 n3 n4 n5 n6 n7 (.slice sx sl sc))) := ⟨HW2.out.1.trans K, HW2.out.2.kept K⟩
  clear HW2 K c0 c1 c2 c3 c4 c5 c6 c7 c8 CF CK
  have hl2 : ¬ (l : Int) > 200 := by omega
  have c0 := HW.out.2.at 0 rfl
  have c1 := HW.out.2.at 1 rfl
  have c2 := HW.out.2.at 2 rfl
  have c3 := HW.out.2.at 3 rfl
  have c4 := HW.out.2.at 4 rfl
  have c5 := HW.out.2.at 5 rfl
  have c6 := HW.out.2.at 6 rfl
  have c7 := HW.out.2.at 7 rfl
  have c8 := HW.out.2.at 8 rfl
  go_wp2_with fail
  refine (CS.out _ HW.out.1).mono ?_
  rintro e u4 ⟨rg, rfl, _, _, K⟩
  have HV : Hid (Kept w u4 ∧ Blk u4 w.heap.size (cl n0 n1 n2 n3 n4 n5 n6 n7 (.slice sx sl sc))) := ⟨HW.out.1.trans K, HW.out.2.kept K⟩
  clear HW K c0 c1 c2 c3 c4 c5 c6 c7 c8 CS
  rw [HFL.out.1, HFL.out.2]
  go_upto_region 6 with fail
  generalize hW3 : u4.alloc _ = W3
  have HW : Hid (Kept w W3 ∧ Blk W3 w.heap.size (cl n0 n1 n2 n3 n4 n5 n6 n7 (.slice sx sl sc)) ∧ Blk W3 u4.heap.size [.bool true, .slice (some ⟨rg, 0, none⟩) fl fl]) := by rw [← hW3]; exact ⟨HV.out.1.alloc _ _, HV.out.2.kept ((Kept.refl _).alloc _ _), Blk.new u4 [_, _] _⟩
  clear HV hW3
  have c0 := HW.out.2.1.at 0 rfl
  have c1 := HW.out.2.1.at 1 rfl
  have c2 := HW.out.2.1.at 2 rfl
  have c3 := HW.out.2.1.at 3 rfl
  have c4 := HW.out.2.1.at 4 rfl
  have c5 := HW.out.2.1.at 5 rfl
  have c6 := HW.out.2.1.at 6 rfl
  have c7 := HW.out.2.1.at 7 rfl
  have c8 := HW.out.2.1.at 8 rfl
  go_wp2_with fail
  refine (CO.out _ HW.out.1).mono ?_
  rintro e u5 ⟨rfl, K⟩
  have HV : Hid (Kept w u5 ∧ Blk u5 w.heap.size (cl n0 n1 n2 n3 n4 n5 n6 n7 (.slice sx sl sc)) ∧ Blk u5 u4.heap.size [.bool true, .slice (some ⟨rg, 0, none⟩) fl fl]) := ⟨HW.out.1.trans K, HW.out.2.1.kept K, HW.out.2.2.kept K⟩
  clear HW K c0 c1 c2 c3 c4 c5 c6 c7 c8 CO
  have s0 := HV.out.2.2.at 0 rfl
  have c0 := HV.out.2.1.at 0 rfl
  have c1 := HV.out.2.1.at 1 rfl
  have c2 := HV.out.2.1.at 2 rfl
  have c3 := HV.out.2.1.at 3 rfl
  have c4 := HV.out.2.1.at 4 rfl
  have c5 := HV.out.2.1.at 5 rfl
  have c6 := HV.out.2.1.at 6 rfl
  have c7 := HV.out.2.1.at 7 rfl
  have c8 := HV.out.2.1.at 8 rfl
  go_wp2_with fail
  refine (CA.out _ HV.out.1).mono ?_
  rintro e u6 ⟨rfl, K⟩
  have HK : Hid (Kept w u6) := HV.out.1.trans K
  clear HV K s0 c0 c1 c2 c3 c4 c5 c6 c7 c8 CA
  go_wp2_with fail
  refine (first_any _).mono ?_
  rintro e u9 ⟨rfl, K9⟩
  have K10 : Hid (Kept w u9) := HK.out.trans K9
  clear K9
  go_wp2
  go_ret
  exact ⟨rfl, K10.out⟩
end Go.Proofs.Ytpdclckgnajcdaa
