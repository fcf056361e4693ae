/-
  spolaw19.OpReads: walked.
-/
import Derived.Test.YtfknonhkpilbfaaDoorRParse19
import Derived.Laws.StructEq
namespace Go.Proofs.YtfknonhkpilbfaaDoor
open Go.RowKit
attribute [local go_sem] run_store_complex

theorem run_equalIn_complex {P : Program} (w : World) (d : Nat) (t : TypeId) (k k' : FloatKind) (a b a' b' : Nat) (h : P.underlying t = some (.complex k')) :
    (Op.equalIn (d + 1) t (.complex k a b) (.complex k a' b')).run P w = .ok (Op.floatEq k a a' && Op.floatEq k b b') w := by
  simp [Op.equalIn, run_underlying h]
theorem fe0 : Op.floatEq .f64 0 0 = true := by decide +kernel
theorem eqIn_z (W : World) (d : Nat) : (Op.equalIn (d + 1) 23 (.complex .f64 0 0) (.complex .f64 0 0)).run Tryd.prog W = .ok true W := by
  rw [run_equalIn_complex W d 23 .f64 .f64 0 0 0 0 Tryd.underlying23, fe0]
  rfl

set_option maxRecDepth 20000 in
theorem eq_self (a b c d e : Int) (W : World) : (binOp .eql 25 (.agg #[.int .i64 a, .int .i64 b, .int .i64 c, .int .i64 d, .int .i64 e, .complex .f64 0 0]) (.agg #[.int .i64 a, .int .i64 b, .int .i64 c, .int .i64 d, .int .i64 e, .complex .f64 0 0])).run Tryd.prog W = .ok (.bool true) W := by
  have h := eqIn_z W 9998
  go_simp

/-- The example's operation. -/
def ex1 : OP := ⟨1, 1, 0, 0, 0, 0, 0⟩
theorem itoa_d (u : Nat) (h : u < 10) : Lib.itoa (u : Int) = [UInt8.ofNat (48 + u)] := itoa_small u h
theorem ex1_good : Good [110, 101, 119, 32, 49, 32, 48] ex1 := by
  refine ⟨⟨by decide, by decide, show i64 1 by unfold i64; omega, i64_zero, i64_zero, i64_zero, by decide, by decide⟩, rfl, ?_⟩
  have h1 := itoa_d 1 (by decide)
  have h0 := itoa_d 0 (by decide)
  simp only [OP.prt, ex1, wd, lts, OP.fld, OP.num, List.flatMap_cons, List.flatMap_nil]
  simp at h1 h0 ⊢
  rw [h1, h0]
  simp
theorem ex2_bad : ¬ ∃ g, Good [110, 101, 119, 32, 32, 49, 32, 48] g := fun ⟨g, hg⟩ => by
  have e := hg.fit
  have e0 : spl [110, 101, 119, 32, 32, 49, 32, 48] = [wd 1, [], [49], [48]] := by decide
  rw [e0] at e
  injection e with e1 e2
  have hk : 1 = g.k := wd_inj ⟨by omega, by omega⟩ ⟨hg.ok.k1, hg.ok.k2⟩ e1
  rw [← hk] at e2
  have := congrArg List.length e2
  simp [lts] at this

set_option maxHeartbeats 8000000 in
set_option maxRecDepth 20000 in
theorem first_any (w : World) (hv : Vs w) : Calls Tryd.prog 4 #[] w fun e w' => e = .returned (.bool true) ∧ Kept w w' := by
  have HV : Hid (Vs w) := hv
  have P1 : Hid (∀ W, Vs W → Calls Tryd.prog 5 #[.string ⟨#[110, 101, 119, 32, 49, 32, 48]⟩] W fun e w' => e = .returned (.tuple #[.agg #[.int .i64 1, .int .i64 1, .int .i64 0, .int .i64 0, .int .i64 0, .complex .f64 0 0], .int .i64 0]) ∧ Kept W w') := fun W q => (parse_op [110, 101, 119, 32, 49, 32, 48] (by decide) W q).mono fun e w' ⟨o, c, he, hk, h1, _⟩ => by
    obtain ⟨rfl, rfl⟩ := h1 ex1 ex1_good
    exact ⟨he, hk⟩
  have P2 : Hid (∀ W, Vs W → Calls Tryd.prog 5 #[.string ⟨#[110, 101, 119, 32, 32, 49, 32, 48]⟩] W fun e w' => e = .returned (.tuple #[.agg #[.int .i64 0, .int .i64 0, .int .i64 0, .int .i64 0, .int .i64 0, .complex .f64 0 0], .int .i64 2]) ∧ Kept W w') := fun W q => (parse_op [110, 101, 119, 32, 32, 49, 32, 48] (by decide) W q).mono fun e w' ⟨o, c, he, hk, _, h2⟩ => by
    obtain ⟨rfl, rfl⟩ := h2 ex2_bad
    exact ⟨he, hk⟩
  have P3 : Hid (∀ W, Vs W → Calls Tryd.prog 8 #[.agg #[.int .i64 1, .int .i64 1, .int .i64 0, .int .i64 0, .int .i64 0, .complex .f64 0 0]] W fun e w' => e = .returned (.string ⟨#[110, 101, 119, 32, 49, 32, 48]⟩) ∧ Kept W w') := fun W q => (print_any ex1 ex1_good.ok W q).mono fun e w' ⟨he, hk⟩ => by
    rw [ex1_good.prt] at he
    exact ⟨he, hk⟩
  have hq := eq_self 1 1 0 0 0
  clear hv
  go_enter Tryd.func4, Tryd.ntmps4
  go_wp2_with fail
  have H1 : Hid (Blk (w.alloc (.cells #[.int .i64 1, .int .i64 1, .int .i64 0, .int .i64 0, .int .i64 0, .complex .f64 0 0] 25)) w.heap.size [.int .i64 1, .int .i64 1, .int .i64 0, .int .i64 0, .int .i64 0, .complex .f64 0 0] ∧ Kept w (w.alloc (.cells #[.int .i64 1, .int .i64 1, .int .i64 0, .int .i64 0, .int .i64 0, .complex .f64 0 0] 25))) := ⟨Blk.new w _ 25, (Kept.refl w).alloc _ _⟩
  refine (P1.out _ (HV.out.keep H1.out.2)).mono ?_
  rintro e w2 ⟨rfl, K⟩
  have H2 : Hid (Blk (w2.alloc (.cells #[.int .i64 1, .int .i64 1, .int .i64 0, .int .i64 0, .int .i64 0, .complex .f64 0 0] 25)) w.heap.size [.int .i64 1, .int .i64 1, .int .i64 0, .int .i64 0, .int .i64 0, .complex .f64 0 0] ∧ Blk (w2.alloc (.cells #[.int .i64 1, .int .i64 1, .int .i64 0, .int .i64 0, .int .i64 0, .complex .f64 0 0] 25)) w2.heap.size [.int .i64 1, .int .i64 1, .int .i64 0, .int .i64 0, .int .i64 0, .complex .f64 0 0] ∧ Kept w (w2.alloc (.cells #[.int .i64 1, .int .i64 1, .int .i64 0, .int .i64 0, .int .i64 0, .complex .f64 0 0] 25))) := ⟨(H1.out.1.kept K).kept ((Kept.refl w2).alloc _ _), Blk.new w2 _ 25, (H1.out.2.trans K).trans ((Kept.refl w2).alloc _ _)⟩
  clear K H1
  go_wp2_with fail
  refine (P2.out _ (HV.out.keep H2.out.2.2)).mono ?_
  rintro e w3 ⟨rfl, K⟩
  have k4 := (Kept.refl w3).alloc #[.int .i64 0, .int .i64 0, .int .i64 0, .int .i64 0, .int .i64 0, .complex .f64 0 0] 25
  have H4 : Hid (Blk (w3.alloc (.cells #[.int .i64 0, .int .i64 0, .int .i64 0, .int .i64 0, .int .i64 0, .complex .f64 0 0] 25)) w.heap.size [.int .i64 1, .int .i64 1, .int .i64 0, .int .i64 0, .int .i64 0, .complex .f64 0 0] ∧ Blk (w3.alloc (.cells #[.int .i64 0, .int .i64 0, .int .i64 0, .int .i64 0, .int .i64 0, .complex .f64 0 0] 25)) w2.heap.size [.int .i64 1, .int .i64 1, .int .i64 0, .int .i64 0, .int .i64 0, .complex .f64 0 0] ∧ Kept w (w3.alloc (.cells #[.int .i64 0, .int .i64 0, .int .i64 0, .int .i64 0, .int .i64 0, .complex .f64 0 0] 25))) := ⟨(H2.out.1.kept K).kept k4, (H2.out.2.1.kept K).kept k4, (H2.out.2.2.trans K).trans k4⟩
  clear K H2 k4
  have B := H4.out.1
  have c0 := B.at 0 rfl
  have c1 := B.at 1 rfl
  have c2 := B.at 2 rfl
  have c3 := B.at 3 rfl
  have c4 := B.at 4 rfl
  have c5 := B.at 5 rfl
  clear B
  go_wp2_with fail
  refine (P3.out _ (HV.out.keep H4.out.2.2)).mono ?_
  rintro e w5 ⟨rfl, K⟩
  have HK : Hid (Kept w w5) := H4.out.2.2.trans K
  have B := H4.out.1.kept K
  have B2 := H4.out.2.1.kept K
  clear c0 c1 c2 c3 c4 c5 K H4
  have c0 := B.at 0 rfl
  have c1 := B.at 1 rfl
  have c2 := B.at 2 rfl
  have c3 := B.at 3 rfl
  have c4 := B.at 4 rfl
  have c5 := B.at 5 rfl
  have d0 := B2.at 0 rfl
  have d1 := B2.at 1 rfl
  have d2 := B2.at 2 rfl
  have d3 := B2.at 3 rfl
  have d4 := B2.at 4 rfl
  have d5 := B2.at 5 rfl
  clear B B2
  go_wp2
  go_ret
  exact ⟨rfl, HK.out⟩

set_option maxHeartbeats 8000000 in
set_option maxRecDepth 20000 in
theorem opReads_any (t : ByteArray) (hsz : (t.size : Int) ≤ 9223372036854775807) (w : World) (hv : Vs w) : Calls Tryd.prog 3 #[.string t] w fun e w' => e = .returned (.bool true) ∧ Kept w w' := by
  have HV : Hid (Vs w) := hv
  have HF : Hid (∀ W, Vs W → Calls Tryd.prog 4 #[] W fun e w' => e = .returned (.bool true) ∧ Kept W w') := fun W q => first_any W q
  clear hv
  by_cases hl : t.size ≤ 500
  · obtain ⟨s, rfl⟩ : ∃ s : List UInt8, t = ⟨s.toArray⟩ := ⟨t.data.toList, by cases t; simp⟩
    have hs : s.length ≤ 500 := by rw [size_mk] at hl; exact hl
    obtain ⟨o, code, HP⟩ : ∃ (o : OP) (code : Int), Hid ((∀ W, Vs W → Calls Tryd.prog 5 #[.string ⟨s.toArray⟩] W fun e w' => e = .returned (.tuple #[.agg #[.int .i64 (o.k : Int), .int .i64 o.a, .int .i64 o.b, .int .i64 o.c, .int .i64 o.n, .complex .f64 o.x o.y], .int .i64 code]) ∧ Kept W w') ∧ (∀ W, Calls Tryd.prog 6 #[.string ⟨s.toArray⟩] W fun e w' => e = .returned (.tuple #[.agg #[.int .i64 (o.k : Int), .int .i64 o.a, .int .i64 o.b, .int .i64 o.c, .int .i64 o.n, .complex .f64 o.x o.y], .int .i64 code]) ∧ Kept W w')) := by
      by_cases hg : ∃ g, Good s g
      · obtain ⟨g, hg⟩ := hg
        refine ⟨g, 0, fun W q => (parse_op s hs W q).mono fun e w' ⟨o, c, he, hk, h1, _⟩ => ?_, fun W => (parse_ref s hs W).mono fun e w' ⟨o, c, he, hk, h1, _⟩ => ?_⟩
        · obtain ⟨rfl, rfl⟩ := h1 g hg
          exact ⟨he, hk⟩
        · obtain ⟨rfl, rfl⟩ := h1 g hg
          exact ⟨he, hk⟩
      · refine ⟨zer 0, 2, fun W q => (parse_op s hs W q).mono fun e w' ⟨o, c, he, hk, _, h2⟩ => ?_, fun W => (parse_ref s hs W).mono fun e w' ⟨o, c, he, hk, _, h2⟩ => ?_⟩
        · obtain ⟨rfl, rfl⟩ := h2 hg
          exact ⟨he, hk⟩
        · obtain ⟨rfl, rfl⟩ := h2 hg
          exact ⟨he, hk⟩
    obtain ⟨t, ht⟩ : ∃ t : ByteArray, t = ⟨s.toArray⟩ := ⟨_, rfl⟩
    rw [← ht] at HP hl hsz ⊢
    clear ht hs
    have HB : Hid (∀ W, Calls Tryd.prog 7 #[.complex .f64 o.x o.y] W fun e w' => e = .returned (.tuple #[.int .u64 (nbP o.x), .int .u64 (nbP o.y)]) ∧ w' = W) := fun W => rbits_any o.x o.y W
    have hq := eq_self (o.k : Int) o.a o.b o.c o.n
    go_enter Tryd.func3, Tryd.ntmps3
    go_wp2_with fail
    refine (HF.out _ HV.out).mono ?_
    rintro e w1 ⟨rfl, K⟩
    have H1 : Hid (Kept w w1) := K
    clear K
    go_wp2_with fail
    refine (HP.out.1 _ (HV.out.keep H1.out)).mono ?_
    rintro e w2 ⟨rfl, K⟩
    have H2 : Hid (Blk (w2.alloc (.cells #[.int .i64 (o.k : Int), .int .i64 o.a, .int .i64 o.b, .int .i64 o.c, .int .i64 o.n, .complex .f64 o.x o.y] 25)) w2.heap.size [.int .i64 (o.k : Int), .int .i64 o.a, .int .i64 o.b, .int .i64 o.c, .int .i64 o.n, .complex .f64 o.x o.y] ∧ Kept w (w2.alloc (.cells #[.int .i64 (o.k : Int), .int .i64 o.a, .int .i64 o.b, .int .i64 o.c, .int .i64 o.n, .complex .f64 o.x o.y] 25)) ∧ w.heap.size ≤ w2.heap.size) := ⟨Blk.new w2 _ 25, (H1.out.trans K).trans ((Kept.refl w2).alloc _ _), (H1.out.trans K).size⟩
    clear K
    go_wp2_with fail
    refine (HP.out.2 _).mono ?_
    rintro e w3 ⟨rfl, K⟩
    have k4 := (Kept.refl w3).alloc #[.int .i64 (o.k : Int), .int .i64 o.a, .int .i64 o.b, .int .i64 o.c, .int .i64 o.n, .complex .f64 o.x o.y] 25
    have H4 : Hid (Blk (w3.alloc (.cells #[.int .i64 (o.k : Int), .int .i64 o.a, .int .i64 o.b, .int .i64 o.c, .int .i64 o.n, .complex .f64 o.x o.y] 25)) w2.heap.size [.int .i64 (o.k : Int), .int .i64 o.a, .int .i64 o.b, .int .i64 o.c, .int .i64 o.n, .complex .f64 o.x o.y] ∧ Blk (w3.alloc (.cells #[.int .i64 (o.k : Int), .int .i64 o.a, .int .i64 o.b, .int .i64 o.c, .int .i64 o.n, .complex .f64 o.x o.y] 25)) w3.heap.size [.int .i64 (o.k : Int), .int .i64 o.a, .int .i64 o.b, .int .i64 o.c, .int .i64 o.n, .complex .f64 o.x o.y] ∧ Kept w (w3.alloc (.cells #[.int .i64 (o.k : Int), .int .i64 o.a, .int .i64 o.b, .int .i64 o.c, .int .i64 o.n, .complex .f64 o.x o.y] 25)) ∧ w.heap.size ≤ w2.heap.size ∧ w2.heap.size < w3.heap.size) :=
      ⟨(H2.out.1.kept K).kept k4, Blk.new w3 _ 25, (H2.out.2.1.trans K).trans k4, H2.out.2.2, (H2.out.1.kept K).lt⟩
    clear K H2 k4 H1
    have hq5 := H4.out.1.at 5 rfl
    have hr5 := H4.out.2.1.at 5 rfl
    go_wp2_with fail
    refine (HB.out _).mono ?_
    rintro e w' ⟨rfl, rfl⟩
    generalize w3.alloc (.cells #[.int .i64 (o.k : Int), .int .i64 o.a, .int .i64 o.b, .int .i64 o.c, .int .i64 o.n, .complex .f64 o.x o.y] 25) = W at H4 hq5 hr5 ⊢
    generalize w3.heap.size = b3 at H4 hr5 ⊢
    generalize w2.heap.size = b2 at H4 hq5 ⊢
    go_wp2_with fail
    refine (HB.out _).mono ?_
    rintro e w' ⟨rfl, rfl⟩
    have hne : b3 ≠ b2 := by have := H4.out.2.2.2.2; omega
    have hne2 : b2 ≠ b3 := Ne.symm hne
    have f2 := H4.out.1.fz 5
    have f3 := H4.out.2.1.fz 5
    have H5 : Hid (Blk ((w'.setCell ⟨b2, 5, none⟩ (.complex .f64 0 0)).setCell ⟨b3, 5, none⟩ (.complex .f64 0 0)) b2 [.int .i64 (o.k : Int), .int .i64 o.a, .int .i64 o.b, .int .i64 o.c, .int .i64 o.n, .complex .f64 0 0] ∧ Blk ((w'.setCell ⟨b2, 5, none⟩ (.complex .f64 0 0)).setCell ⟨b3, 5, none⟩ (.complex .f64 0 0)) b3 [.int .i64 (o.k : Int), .int .i64 o.a, .int .i64 o.b, .int .i64 o.c, .int .i64 o.n, .complex .f64 0 0] ∧ Kept w ((w'.setCell ⟨b2, 5, none⟩ (.complex .f64 0 0)).setCell ⟨b3, 5, none⟩ (.complex .f64 0 0))) :=
      ⟨(H4.out.1.set (i := 5) rfl _).set_other hne _, (H4.out.2.1.set_other hne2 _).set (i := 5) rfl _, (H4.out.2.2.1.setCell (a := ⟨b2, 5, none⟩) H4.out.2.2.2.1 _).setCell (a := ⟨b3, 5, none⟩) (by have := H4.out.2.2.2; show w.heap.size ≤ b3; omega) _⟩
    go_wp2_with fail
    refine (HF.out _ (HV.out.keep H5.out.2.2)).mono ?_
    rintro e w5 ⟨rfl, K⟩
    have HK : Hid (Kept w w5) := H5.out.2.2.trans K
    have B := H5.out.1.kept K
    have B2 := H5.out.2.1.kept K
    clear K H5 H4 hq5 hr5 f2 f3
    have c0 := B.at 0 rfl
    have c1 := B.at 1 rfl
    have c2 := B.at 2 rfl
    have c3 := B.at 3 rfl
    have c4 := B.at 4 rfl
    have c5 := B.at 5 rfl
    have d0 := B2.at 0 rfl
    have d1 := B2.at 1 rfl
    have d2 := B2.at 2 rfl
    have d3 := B2.at 3 rfl
    have d4 := B2.at 4 rfl
    have d5 := B2.at 5 rfl
    clear B B2
    go_wp2
    go_ret
    exact ⟨rfl, HK.out⟩
  · have hl2 : (t.size : Int) > 500 := by omega
    go_enter Tryd.func3, Tryd.ntmps3
    go_wp2_with fail
    refine (HF.out _ HV.out).mono ?_
    rintro e w1 ⟨rfl, K⟩
    have H1 : Hid (Kept w w1) := K
    clear K
    go_wp2_with fail
    refine (HF.out _ (HV.out.keep H1.out)).mono ?_
    rintro e w2 ⟨rfl, K⟩
    have H2 : Hid (Kept w w2) := H1.out.trans K
    clear K
    go_wp2
    go_ret
    exact ⟨rfl, H2.out⟩
end Go.Proofs.YtfknonhkpilbfaaDoor
