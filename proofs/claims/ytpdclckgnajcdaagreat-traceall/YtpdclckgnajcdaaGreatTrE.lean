/-
  Contracts of package trace: how a step goes on, label by label.
-/
import Derived.Test.YtpdclckgnajcdaaGreatTrD
import Derived.Test.YtpdclckgnajcdaaGreatHops
namespace Go.Proofs.YtpdclckgnajcdaaGreat
open Go.RowKit

set_option maxHeartbeats 400000 in
/-- Is, where the real part is a whole number within bounds: by the imaginary part's bits. -/
theorem is_in (n : Int) (y : Nat) (w : World) (p : Bool) (hp : decide (4607182418800017408 = nb y) = p) (h1 : 0 ≤ n) (h2 : n ≤ 1099511627777) :
    Calls Tryz.prog 74 #[.complex .f64 (floatOfInt .f64 n) y] w fun e w' => e = .returned (.bool p) ∧ w' = w := by
  by_cases h0 : n = 0
  · subst h0
    have I : Hid (∀ w, Calls Tryz.prog 75 #[.complex .f64 (floatOfInt .f64 0) y] w _) := fun w => index_out 0 y w (by decide) (by omega)
    have hs : decide (nb (floatOfInt .f64 0) = nb 0 ∧ nb y = nb 4607182418800017408) = p := by
      rw [fi_zero, nb_one, ← hp]; simp [eq_comm]
    have HS : Hid (∀ w, Calls Tryz.prog 99 _ w _) := same_is _ _ _ _ p hs
    clear hp hs h1 h2
    go_enter Tryz.func74, Tryz.ntmps74
    go_wp2_with fail
    refine (I.out _).mono ?_
    rintro e w' ⟨rfl, rfl⟩
    go_wp2_with fail
    refine (none_any _).mono ?_
    rintro e w' ⟨rfl, rfl⟩
    go_wp2_with fail
    refine (HS.out _).mono ?_
    rintro e w' ⟨rfl, rfl⟩
    go_wp2
    go_ret
    exact ⟨rfl, rfl⟩
  · have I : Hid (∀ w, Calls Tryz.prog 75 #[.complex .f64 (floatOfInt .f64 n) y] w _) := fun w => index_in n y w p hp (by omega) h2
    have hs : decide (nb (floatOfInt .f64 n) = nb 0 ∧ nb y = nb 4607182418800017408) = false := by
      rw [nb_fi n (by omega), nb_zero]
      have : floatOfInt .f64 n ≠ 0 := by
        intro e
        rw [← fi_zero] at e
        exact h0 (fi_inj (by omega) (by decide) e)
      simp [this]
    have HS : Hid (∀ w, Calls Tryz.prog 99 _ w _) := same_is _ _ _ _ false hs
    clear hp hs h1 h2 h0
    cases p
    · go_enter Tryz.func74, Tryz.ntmps74
      go_wp2_with fail
      refine (I.out _).mono ?_
      rintro e w' ⟨rfl, rfl⟩
      go_wp2_with fail
      refine (none_any _).mono ?_
      rintro e w' ⟨rfl, rfl⟩
      go_wp2_with fail
      refine (HS.out _).mono ?_
      rintro e w' ⟨rfl, rfl⟩
      go_wp2
      go_ret
      exact ⟨rfl, rfl⟩
    · go_enter Tryz.func74, Tryz.ntmps74
      go_wp2_with fail
      refine (I.out _).mono ?_
      rintro e w' ⟨rfl, rfl⟩
      go_wp2
      go_ret
      exact ⟨rfl, rfl⟩


/-- A field's or an element's word: None, or a reference. -/
def rw' (V : Option Int) : Cx := match V with | none => cn | some i => cr i
def Vok (V : Option Int) : Prop := ∀ i, V = some i → 0 ≤ i ∧ i ≤ 1099511627776
theorem is_rw (V : Option Int) (h : Vok V) (w : World) : Calls Tryz.prog 74 #[.complex .f64 (rw' V).re (rw' V).im] w fun e w' => e = .returned (.bool true) ∧ w' = w := by
  cases V with
  | none =>
    have := is_in 0 4607182418800017408 w true (by rw [nb_one]; rfl) (by decide) (by decide)
    rw [fi_zero] at this
    exact this
  | some i =>
    have := h i rfl
    exact is_in (i + 1) 4607182418800017408 w true (by rw [nb_one]; rfl) (by omega) (by omega)
theorem index_rw (V : Option Int) (h : Vok V) (w : World) : Calls Tryz.prog 75 #[.complex .f64 (rw' V).re (rw' V).im] w fun e w' => e = .returned (.tuple #[.int .i64 (V.getD 0), .bool V.isSome]) ∧ w' = w := by
  cases V with
  | none =>
    have := index_out 0 4607182418800017408 w (by decide) (by omega)
    rw [fi_zero] at this
    exact this
  | some i =>
    have := h i rfl
    have c := index_in (i + 1) 4607182418800017408 w true (by rw [nb_one]; rfl) (by omega) (by omega)
    have e : i + 1 - 1 = i := by omega
    simp only [if_true, e] at c
    exact c

/-- What follows where the slots of a fragment are gone through: from B on to C. -/
structure Tails (p : Nat) (B C : World → Prop) : Prop where
  seek : ∀ u, B u → Calls Tryz.prog 72 #[.pointer (some ⟨p, 0, none⟩)] u fun e u' => ∃ (k : Int) (f : Bool), e = .returned (.tuple #[.int .i64 k, .bool f]) ∧
    (f = true → ∃ fg : Int, u'.cell? ⟨p, 19, none⟩ = some (.int .i64 fg) ∧ Calls Tryz.prog 73 #[.pointer (some ⟨p, 0, none⟩), .int .i64 6, .int .i64 fg, .int .i64 k] u' fun e u2 => e = .returned (.tuple #[]) ∧ C u2) ∧
    (f = false → ∃ nt : Int, u'.cell? ⟨p, 18, none⟩ = some (.int .i64 nt) ∧ (∀ i, u'.frozen? ⟨p, i, none⟩ = false) ∧ (0 ≤ nt ∧ nt ≤ 1000) ∧ Calls Tryz.prog 76 #[.pointer (some ⟨p, 0, none⟩)] (u'.setCell ⟨p, 18, none⟩ (.int .i64 (nt + 1))) fun e u2 => e = .returned (.tuple #[]) ∧ C u2)

section
variable {p M sb : Nat} {A B C : World → Prop}

set_option maxRecDepth 10000 in
set_option maxHeartbeats 2000000 in
theorem tgo_part (z : Cx) (st : Int) (w : World) (hst : st = 8) (hA : Calls Tryz.prog 70 #[.pointer (some ⟨p, 0, none⟩), .pointer (some ⟨M, 0, none⟩), .pointer (some ⟨sb, 0, none⟩)] w fun e w1 => e = .returned (.tuple #[.complex .f64 z.re z.im, .bool true]) ∧ A w1) (h1 : ∀ u, A u → u.cell? ⟨p, 16, none⟩ = some (.int .i64 st)) (hT : Tails p A C) :
    Calls Tryz.prog 50 #[.pointer (some ⟨p, 0, none⟩), .pointer (some ⟨M, 0, none⟩), .pointer (some ⟨sb, 0, none⟩)] w fun e w' => e = .returned (.tuple #[]) ∧ C w' := by
  have HA : Hid (Calls Tryz.prog 70 #[.pointer (some ⟨p, 0, none⟩), .pointer (some ⟨M, 0, none⟩), .pointer (some ⟨sb, 0, none⟩)] w fun e w1 => e = .returned (.tuple #[.complex .f64 z.re z.im, .bool true]) ∧ A w1) := hA
  have H1 : Hid (∀ u, A u → u.cell? ⟨p, 16, none⟩ = some (.int .i64 st)) := h1
  have HS : Hid (Tails p A C) := hT
  clear hA h1 hT
  subst hst
  go_enter Tryz.func50, Tryz.ntmps50
  refine wp_scope_hops fun K HK => ?_
  go_wp2_with fail
  refine HA.out.mono ?_
  rintro e w1 ⟨rfl, HA1⟩
  have c16 := H1.out _ HA1
  go_wp2
  go_step3
  refine HK.out 4 _ rfl _ _ ?_
  clear c16
  go_wp2_with fail
  refine (HS.out.seek _ HA1).mono ?_
  rintro e w5 ⟨k, f, rfl, ht, hf⟩
  cases f
  · obtain ⟨nt, c18, f5, hb, CL⟩ := hf rfl
    clear ht hf
    go_wp2
    go_step3
    refine HK.out 5 _ rfl _ _ ?_
    go_wp2_with fail
    refine CL.mono ?_
    rintro e w6 ⟨rfl, HC⟩
    clear CL c18 f5
    go_wp2
    (try simp only [Exit.inBlock])
    (try simp only [Exit.then])
    (try simp only [hops_ret])
    refine bodyPost_ret (results_none rfl _ _ _) rfl ?_
    exact ⟨rfl, HC⟩
  · obtain ⟨fg, c19, CT⟩ := ht rfl
    clear ht hf
    go_wp2_with fail
    refine CT.mono ?_
    rintro e w6 ⟨rfl, HC⟩
    clear CT c19
    go_wp2
    (try simp only [Exit.inBlock])
    (try simp only [Exit.then])
    (try simp only [hops_ret])
    refine bodyPost_ret (results_none rfl _ _ _) rfl ?_
    exact ⟨rfl, HC⟩

set_option maxRecDepth 10000 in
set_option maxHeartbeats 2000000 in
theorem tgo_grey (z : Cx) (st : Int) (w : World) (hst : st = 7) (hA : Calls Tryz.prog 70 #[.pointer (some ⟨p, 0, none⟩), .pointer (some ⟨M, 0, none⟩), .pointer (some ⟨sb, 0, none⟩)] w fun e w1 => e = .returned (.tuple #[.complex .f64 z.re z.im, .bool true]) ∧ A w1) (h1 : ∀ u, A u → u.cell? ⟨p, 16, none⟩ = some (.int .i64 st)) (h2 : ∀ u, A u → ∃ sl : Int, u.cell? ⟨p, 20, none⟩ = some (.int .i64 sl) ∧ (0 ≤ sl ∧ sl ≤ 1000) ∧ (∀ i, u.frozen? ⟨p, i, none⟩ = false) ∧ B (u.setCell ⟨p, 20, none⟩ (.int .i64 (sl + 1)))) (hT : Tails p B C) :
    Calls Tryz.prog 50 #[.pointer (some ⟨p, 0, none⟩), .pointer (some ⟨M, 0, none⟩), .pointer (some ⟨sb, 0, none⟩)] w fun e w' => e = .returned (.tuple #[]) ∧ C w' := by
  have HA : Hid (Calls Tryz.prog 70 #[.pointer (some ⟨p, 0, none⟩), .pointer (some ⟨M, 0, none⟩), .pointer (some ⟨sb, 0, none⟩)] w fun e w1 => e = .returned (.tuple #[.complex .f64 z.re z.im, .bool true]) ∧ A w1) := hA
  have H1 : Hid (∀ u, A u → u.cell? ⟨p, 16, none⟩ = some (.int .i64 st)) := h1
  have HS : Hid (Tails p B C) := hT
  have H2 : Hid (∀ u, A u → _) := h2
  clear hA h1 hT h2
  subst hst
  go_enter Tryz.func50, Tryz.ntmps50
  refine wp_scope_hops fun K HK => ?_
  go_wp2_with fail
  refine HA.out.mono ?_
  rintro e w1 ⟨rfl, HA1⟩
  have c16 := H1.out _ HA1
  obtain ⟨sl, c20, hsl, fz, HB⟩ := H2.out _ HA1
  go_wp2
  go_step3
  refine HK.out 3 _ rfl _ _ ?_
  go_wp2_with fail
  go_step3
  refine HK.out 4 _ rfl _ _ ?_
  clear c16 c20 fz
  go_wp2_with fail
  refine (HS.out.seek _ HB).mono ?_
  rintro e w5 ⟨k, f, rfl, ht, hf⟩
  cases f
  · obtain ⟨nt, c18, f5, hb, CL⟩ := hf rfl
    clear ht hf
    go_wp2
    go_step3
    refine HK.out 5 _ rfl _ _ ?_
    go_wp2_with fail
    refine CL.mono ?_
    rintro e w6 ⟨rfl, HC⟩
    clear CL c18 f5
    go_wp2
    (try simp only [Exit.inBlock])
    (try simp only [Exit.then])
    (try simp only [hops_ret])
    refine bodyPost_ret (results_none rfl _ _ _) rfl ?_
    exact ⟨rfl, HC⟩
  · obtain ⟨fg, c19, CT⟩ := ht rfl
    clear ht hf
    go_wp2_with fail
    refine CT.mono ?_
    rintro e w6 ⟨rfl, HC⟩
    clear CT c19
    go_wp2
    (try simp only [Exit.inBlock])
    (try simp only [Exit.then])
    (try simp only [hops_ret])
    refine bodyPost_ret (results_none rfl _ _ _) rfl ?_
    exact ⟨rfl, HC⟩

set_option maxRecDepth 10000 in
set_option maxHeartbeats 2000000 in
theorem tgo_none (z : Cx) (st : Int) (w : World) (hst : st = 6) (hA : Calls Tryz.prog 70 #[.pointer (some ⟨p, 0, none⟩), .pointer (some ⟨M, 0, none⟩), .pointer (some ⟨sb, 0, none⟩)] w fun e w1 => e = .returned (.tuple #[.complex .f64 z.re z.im, .bool true]) ∧ A w1) (h1 : ∀ u, A u → u.cell? ⟨p, 16, none⟩ = some (.int .i64 st)) (hz : z = rw' none) (h2 : ∀ u, A u → ∃ sl rf : Int, u.cell? ⟨p, 20, none⟩ = some (.int .i64 sl) ∧ u.cell? ⟨p, 21, none⟩ = some (.int .i64 rf) ∧ (0 ≤ sl ∧ sl ≤ 1000) ∧ (∀ i, u.frozen? ⟨p, i, none⟩ = false) ∧ B ((u.setCell ⟨p, 21, none⟩ (.int .i64 0)).setCell ⟨p, 20, none⟩ (.int .i64 (sl + 1)))) (hT : Tails p B C) :
    Calls Tryz.prog 50 #[.pointer (some ⟨p, 0, none⟩), .pointer (some ⟨M, 0, none⟩), .pointer (some ⟨sb, 0, none⟩)] w fun e w' => e = .returned (.tuple #[]) ∧ C w' := by
  have HA : Hid (Calls Tryz.prog 70 #[.pointer (some ⟨p, 0, none⟩), .pointer (some ⟨M, 0, none⟩), .pointer (some ⟨sb, 0, none⟩)] w fun e w1 => e = .returned (.tuple #[.complex .f64 z.re z.im, .bool true]) ∧ A w1) := hA
  have H1 : Hid (∀ u, A u → u.cell? ⟨p, 16, none⟩ = some (.int .i64 st)) := h1
  have HS : Hid (Tails p B C) := hT
  have H2 : Hid (∀ u, A u → _) := h2
  have CI : Hid (∀ w, Calls Tryz.prog 74 #[.complex .f64 z.re z.im] w _) := fun w => by rw [hz]; exact is_rw none (fun i q => by cases q) w
  have CX : Hid (∀ w, Calls Tryz.prog 75 #[.complex .f64 z.re z.im] w fun e w' => e = .returned (.tuple #[.int .i64 0, .bool false]) ∧ w' = w) := fun w => by rw [hz]; exact index_rw none (fun i q => by cases q) w
  clear hA h1 hT h2 hz
  subst hst
  go_enter Tryz.func50, Tryz.ntmps50
  refine wp_scope_hops fun K HK => ?_
  go_wp2_with fail
  refine HA.out.mono ?_
  rintro e w1 ⟨rfl, HA1⟩
  have c16 := H1.out _ HA1
  obtain ⟨sl, rf, c20, c21, hsl, fz, HB⟩ := H2.out _ HA1
  go_wp2
  go_step3
  refine HK.out 2 _ rfl _ _ ?_
  go_wp2_with fail
  refine (CI.out _).mono ?_
  rintro e w2 ⟨rfl, rfl⟩
  go_wp2_with fail
  refine (CX.out _).mono ?_
  rintro e w3 ⟨rfl, rfl⟩
  go_wp2
  go_step3
  rename_i aK
  simp only [Exit.then]
  refine aK _ _ ?_
  go_wp2_with fail
  go_step3
  refine HK.out 4 _ rfl _ _ ?_
  clear c16 c20 c21 fz
  go_wp2_with fail
  refine (HS.out.seek _ HB).mono ?_
  rintro e w5 ⟨k, f, rfl, ht, hf⟩
  cases f
  · obtain ⟨nt, c18, f5, hb, CL⟩ := hf rfl
    clear ht hf
    go_wp2
    go_step3
    refine HK.out 5 _ rfl _ _ ?_
    go_wp2_with fail
    refine CL.mono ?_
    rintro e w6 ⟨rfl, HC⟩
    clear CL c18 f5
    go_wp2
    (try simp only [Exit.inBlock])
    (try simp only [Exit.then])
    (try simp only [hops_ret])
    refine bodyPost_ret (results_none rfl _ _ _) rfl ?_
    exact ⟨rfl, HC⟩
  · obtain ⟨fg, c19, CT⟩ := ht rfl
    clear ht hf
    go_wp2_with fail
    refine CT.mono ?_
    rintro e w6 ⟨rfl, HC⟩
    clear CT c19
    go_wp2
    (try simp only [Exit.inBlock])
    (try simp only [Exit.then])
    (try simp only [hops_ret])
    refine bodyPost_ret (results_none rfl _ _ _) rfl ?_
    exact ⟨rfl, HC⟩

set_option maxRecDepth 10000 in
set_option maxHeartbeats 2000000 in
theorem tgo_ref (z : Cx) (st : Int) (w : World) (hst : st = 6) (hA : Calls Tryz.prog 70 #[.pointer (some ⟨p, 0, none⟩), .pointer (some ⟨M, 0, none⟩), .pointer (some ⟨sb, 0, none⟩)] w fun e w1 => e = .returned (.tuple #[.complex .f64 z.re z.im, .bool true]) ∧ A w1) (h1 : ∀ u, A u → u.cell? ⟨p, 16, none⟩ = some (.int .i64 st)) (i : Int) (hi : Vok (some i)) (hz : z = rw' (some i)) (h2 : ∀ u, A u → ∃ rf : Int, u.cell? ⟨p, 21, none⟩ = some (.int .i64 rf) ∧ (∀ i, u.frozen? ⟨p, i, none⟩ = false) ∧ C ((u.setCell ⟨p, 21, none⟩ (.int .i64 i)).setCell ⟨p, 16, none⟩ (.int .i64 7))) :
    Calls Tryz.prog 50 #[.pointer (some ⟨p, 0, none⟩), .pointer (some ⟨M, 0, none⟩), .pointer (some ⟨sb, 0, none⟩)] w fun e w' => e = .returned (.tuple #[]) ∧ C w' := by
  have HA : Hid (Calls Tryz.prog 70 #[.pointer (some ⟨p, 0, none⟩), .pointer (some ⟨M, 0, none⟩), .pointer (some ⟨sb, 0, none⟩)] w fun e w1 => e = .returned (.tuple #[.complex .f64 z.re z.im, .bool true]) ∧ A w1) := hA
  have H1 : Hid (∀ u, A u → u.cell? ⟨p, 16, none⟩ = some (.int .i64 st)) := h1
  have H2 : Hid (∀ u, A u → _) := h2
  have CI : Hid (∀ w, Calls Tryz.prog 74 #[.complex .f64 z.re z.im] w _) := fun w => by rw [hz]; exact is_rw (some i) hi w
  have CX : Hid (∀ w, Calls Tryz.prog 75 #[.complex .f64 z.re z.im] w fun e w' => e = .returned (.tuple #[.int .i64 i, .bool true]) ∧ w' = w) := fun w => by rw [hz]; exact index_rw (some i) hi w
  clear hA h1 h2 hz hi
  subst hst
  go_enter Tryz.func50, Tryz.ntmps50
  refine wp_scope_hops fun K HK => ?_
  go_wp2_with fail
  refine HA.out.mono ?_
  rintro e w1 ⟨rfl, HA1⟩
  have c16 := H1.out _ HA1
  obtain ⟨rf, c21, fz, HC⟩ := H2.out _ HA1
  go_wp2
  go_step3
  refine HK.out 2 _ rfl _ _ ?_
  go_wp2_with fail
  refine (CI.out _).mono ?_
  rintro e w2 ⟨rfl, rfl⟩
  go_wp2_with fail
  refine (CX.out _).mono ?_
  rintro e w3 ⟨rfl, rfl⟩
  go_wp2
  (try simp only [Exit.inBlock])
  (try simp only [Exit.then])
  (try simp only [hops_ret])
  refine bodyPost_ret (results_none rfl _ _ _) rfl ?_
  exact ⟨rfl, HC⟩

set_option maxRecDepth 10000 in
set_option maxHeartbeats 2000000 in
theorem tgo_link (z : Cx) (st : Int) (w : World) (hst : st = 5) (hA : Calls Tryz.prog 70 #[.pointer (some ⟨p, 0, none⟩), .pointer (some ⟨M, 0, none⟩), .pointer (some ⟨sb, 0, none⟩)] w fun e w1 => e = .returned (.tuple #[.complex .f64 z.re z.im, .bool true]) ∧ A w1) (h1 : ∀ u, A u → u.cell? ⟨p, 16, none⟩ = some (.int .i64 st)) (i : Int) (h2 : ∀ u, A u → ∃ n0 n1 n2 n3 n4 n5 n6 n7 cx l c, (∀ k v, (cl n0 n1 n2 n3 n4 n5 n6 n7 (.slice cx l c))[k]? = some v → u.cell? ⟨p, k, none⟩ = some v) ∧ Calls Tryz.prog 77 #[.agg #[.int .i64 n0, .int .i64 n1, .int .i64 n2, .int .i64 n3, .int .i64 n4, .int .i64 n5, .int .i64 n6, .int .i64 n7, .slice cx l c], .complex .f64 z.re z.im] u fun e u' => e = .returned (.tuple #[.int .i64 i, .bool true]) ∧ B u') (h3 : ∀ u, B u → ∃ fg st' : Int, u.cell? ⟨p, 19, none⟩ = some (.int .i64 fg) ∧ u.cell? ⟨p, 16, none⟩ = some (.int .i64 st') ∧ (∀ i, u.frozen? ⟨p, i, none⟩ = false) ∧ C ((u.setCell ⟨p, 19, none⟩ (.int .i64 i)).setCell ⟨p, 16, none⟩ (.int .i64 8))) :
    Calls Tryz.prog 50 #[.pointer (some ⟨p, 0, none⟩), .pointer (some ⟨M, 0, none⟩), .pointer (some ⟨sb, 0, none⟩)] w fun e w' => e = .returned (.tuple #[]) ∧ C w' := by
  have HA : Hid (Calls Tryz.prog 70 #[.pointer (some ⟨p, 0, none⟩), .pointer (some ⟨M, 0, none⟩), .pointer (some ⟨sb, 0, none⟩)] w fun e w1 => e = .returned (.tuple #[.complex .f64 z.re z.im, .bool true]) ∧ A w1) := hA
  have H1 : Hid (∀ u, A u → u.cell? ⟨p, 16, none⟩ = some (.int .i64 st)) := h1
  have H2 : Hid (∀ u, A u → _) := h2
  have H3 : Hid (∀ u, B u → _) := h3
  clear hA h1 h2 h3
  subst hst
  go_enter Tryz.func50, Tryz.ntmps50
  refine wp_scope_hops fun K HK => ?_
  go_wp2_with fail
  refine HA.out.mono ?_
  rintro e w1 ⟨rfl, HA1⟩
  have c16 := H1.out _ HA1
  obtain ⟨n0, n1, n2, n3, n4, n5, n6, n7, cx, l, c, hc, CF⟩ := H2.out _ HA1
  have d0 := hc 0 _ rfl
  have d1 := hc 1 _ rfl
  have d2 := hc 2 _ rfl
  have d3 := hc 3 _ rfl
  have d4 := hc 4 _ rfl
  have d5 := hc 5 _ rfl
  have d6 := hc 6 _ rfl
  have d7 := hc 7 _ rfl
  have d8 := hc 8 _ rfl
  clear hc
  go_wp2
  go_step3
  refine HK.out 1 _ rfl _ _ ?_
  go_wp2_with fail
  refine CF.mono ?_
  rintro e w2 ⟨rfl, HB2⟩
  clear CF d0 d1 d2 d3 d4 d5 d6 d7 d8 c16
  obtain ⟨fg, st', c19, c16, fz, HC⟩ := H3.out _ HB2
  go_wp2
  (try simp only [Exit.inBlock])
  (try simp only [Exit.then])
  (try simp only [hops_ret])
  refine bodyPost_ret (results_none rfl _ _ _) rfl ?_
  exact ⟨rfl, HC⟩

set_option maxRecDepth 10000 in
set_option maxHeartbeats 2000000 in
theorem tgo_open (z : Cx) (st : Int) (w : World) (hA : Calls Tryz.prog 70 #[.pointer (some ⟨p, 0, none⟩), .pointer (some ⟨M, 0, none⟩), .pointer (some ⟨sb, 0, none⟩)] w fun e w1 => e = .returned (.tuple #[.complex .f64 z.re z.im, .bool true]) ∧ A w1) (h1 : ∀ u, A u → u.cell? ⟨p, 16, none⟩ = some (.int .i64 st)) (h5 : (st == 5) = false ∧ (st == 6) = false ∧ (st == 7) = false ∧ (st == 8) = false) (hO : ∀ u, A u → Calls Tryz.prog 71 #[.pointer (some ⟨p, 0, none⟩), .complex .f64 z.re z.im] u fun e u' => e = .returned (.bool true) ∧ B u') (h2 : ∀ u, B u → ∃ s2 : Int, u.cell? ⟨p, 16, none⟩ = some (.int .i64 s2) ∧ (s2 != 9) = true) :
    Calls Tryz.prog 50 #[.pointer (some ⟨p, 0, none⟩), .pointer (some ⟨M, 0, none⟩), .pointer (some ⟨sb, 0, none⟩)] w fun e w' => e = .returned (.tuple #[]) ∧ B w' := by
  have HA : Hid (Calls Tryz.prog 70 #[.pointer (some ⟨p, 0, none⟩), .pointer (some ⟨M, 0, none⟩), .pointer (some ⟨sb, 0, none⟩)] w fun e w1 => e = .returned (.tuple #[.complex .f64 z.re z.im, .bool true]) ∧ A w1) := hA
  have H1 : Hid (∀ u, A u → u.cell? ⟨p, 16, none⟩ = some (.int .i64 st)) := h1
  have HO : Hid (∀ u, A u → _) := hO
  have H2 : Hid (∀ u, B u → _) := h2
  obtain ⟨e5, e6, e7, e8⟩ := h5
  clear hA h1 hO h2
  go_enter Tryz.func50, Tryz.ntmps50
  refine wp_scope_hops fun K HK => ?_
  go_wp2_with fail
  refine HA.out.mono ?_
  rintro e w1 ⟨rfl, HA1⟩
  have c16 := H1.out _ HA1
  go_wp2_with fail
  refine (HO.out _ HA1).mono ?_
  rintro e w2 ⟨rfl, HB2⟩
  clear c16
  obtain ⟨s2, c16, hs2⟩ := H2.out _ HB2
  go_wp2
  (try simp only [Exit.inBlock])
  (try simp only [Exit.then])
  (try simp only [hops_ret])
  refine bodyPost_ret (results_none rfl _ _ _) rfl ?_
  exact ⟨rfl, HB2⟩

set_option maxRecDepth 10000 in
set_option maxHeartbeats 2000000 in
theorem tgo_within (z : Cx) (st : Int) (w : World) (hA : Calls Tryz.prog 70 #[.pointer (some ⟨p, 0, none⟩), .pointer (some ⟨M, 0, none⟩), .pointer (some ⟨sb, 0, none⟩)] w fun e w1 => e = .returned (.tuple #[.complex .f64 z.re z.im, .bool true]) ∧ A w1) (h1 : ∀ u, A u → u.cell? ⟨p, 16, none⟩ = some (.int .i64 st)) (h5 : (st == 5) = false ∧ (st == 6) = false ∧ (st == 7) = false ∧ (st == 8) = false) (hO : ∀ u, A u → Calls Tryz.prog 71 #[.pointer (some ⟨p, 0, none⟩), .complex .f64 z.re z.im] u fun e u' => e = .returned (.bool true) ∧ B u') (h2 : ∀ u, B u → u.cell? ⟨p, 16, none⟩ = some (.int .i64 9)) (hT : Tails p B C) :
    Calls Tryz.prog 50 #[.pointer (some ⟨p, 0, none⟩), .pointer (some ⟨M, 0, none⟩), .pointer (some ⟨sb, 0, none⟩)] w fun e w' => e = .returned (.tuple #[]) ∧ C w' := by
  have HA : Hid (Calls Tryz.prog 70 #[.pointer (some ⟨p, 0, none⟩), .pointer (some ⟨M, 0, none⟩), .pointer (some ⟨sb, 0, none⟩)] w fun e w1 => e = .returned (.tuple #[.complex .f64 z.re z.im, .bool true]) ∧ A w1) := hA
  have H1 : Hid (∀ u, A u → u.cell? ⟨p, 16, none⟩ = some (.int .i64 st)) := h1
  have HO : Hid (∀ u, A u → _) := hO
  have H2 : Hid (∀ u, B u → _) := h2
  have HS : Hid (Tails p B C) := hT
  obtain ⟨e5, e6, e7, e8⟩ := h5
  clear hA h1 hO h2 hT
  go_enter Tryz.func50, Tryz.ntmps50
  refine wp_scope_hops fun K HK => ?_
  go_wp2_with fail
  refine HA.out.mono ?_
  rintro e w1 ⟨rfl, HA1⟩
  have c16 := H1.out _ HA1
  go_wp2_with fail
  refine (HO.out _ HA1).mono ?_
  rintro e w2 ⟨rfl, HB2⟩
  clear c16
  have c16 := H2.out _ HB2
  go_wp2
  go_step3
  rename_i aK
  simp only [Exit.then]
  refine aK _ _ ?_
  go_wp2_with fail
  refine (HS.out.seek _ HB2).mono ?_
  rintro e w5 ⟨k, f, rfl, ht, hf⟩
  cases f
  · obtain ⟨nt, c18, f5, hb, CL⟩ := hf rfl
    clear ht hf
    go_wp2
    go_step3
    refine HK.out 5 _ rfl _ _ ?_
    go_wp2_with fail
    refine CL.mono ?_
    rintro e w6 ⟨rfl, HC⟩
    clear CL c18 f5
    go_wp2
    (try simp only [Exit.inBlock])
    (try simp only [Exit.then])
    (try simp only [hops_ret])
    refine bodyPost_ret (results_none rfl _ _ _) rfl ?_
    exact ⟨rfl, HC⟩
  · obtain ⟨fg, c19, CT⟩ := ht rfl
    clear ht hf
    go_wp2_with fail
    refine CT.mono ?_
    rintro e w6 ⟨rfl, HC⟩
    clear CT c19
    go_wp2
    (try simp only [Exit.inBlock])
    (try simp only [Exit.then])
    (try simp only [hops_ret])
    refine bodyPost_ret (results_none rfl _ _ _) rfl ?_
    exact ⟨rfl, HC⟩
end
end Go.Proofs.YtpdclckgnajcdaaGreat
