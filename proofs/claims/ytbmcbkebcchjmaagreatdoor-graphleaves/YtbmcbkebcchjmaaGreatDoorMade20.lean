/-
  Package op's made and Check, where all is well.
-/
import Derived.Test.YtbmcbkebcchjmaaGreatDoorOp20
namespace Go.Proofs.YtbmcbkebcchjmaaGreatDoor
open Go.RowKit
attribute [local go_sem] run_store_complex

/-- What it makes is there, and not too large. -/
structure Makes (C : Cf) (o : OP) (kd : Nat) : Prop where
  b : o.b = (kd : Int)
  lt : kd < C.l
  k : o.k = 1 ∧ C.A kd = false ∨ o.k = 2 ∧ C.A kd = true
  f0 : 0 ≤ C.fr kd (if o.k = 2 then o.n else 0)
  f1 : C.fr kd (if o.k = 2 then o.n else 0) ≤ C.n0
  s1 : C.sp kd (if o.k = 2 then o.n else 0) ≤ C.n1

set_option maxHeartbeats 4000000 in
theorem made_ok (C : Cf) (O : C.Ok) (sx : Option Addr) (sc : Nat) (S : Nat → Sh) (o : OP) (kd : Nat) (M : Makes C o kd) (w : World) (h : CM C w sx S) :
    Calls Tryz.prog 77 #[C.val (.slice sx C.l sc), o.val] w fun e w' => e = .returned (.tuple #[.int .i64 (C.fr kd (if o.k = 2 then o.n else 0)), .int .i64 (C.sp kd (if o.k = 2 then o.n else 0)), .int .i64 0]) ∧ Kept w w' := by
  obtain ⟨hb, hlt, hk, f0, f1, s1⟩ := M
  have HK : Hid (∀ W, Kept w W → Calls Tryz.prog 96 #[C.val (.slice sx C.l sc), .int .i64 (kd : Int)] W fun e w' => ∃ g, e = .returned (.tuple #[.agg #[.bool (C.A kd), .slice (some ⟨g, 0, none⟩) (C.L kd) (C.L kd)], .bool true]) ∧ Kept W w') := fun W k => kind_ok O (h.kept k) hlt
  have HZ : Hid (∀ g W, Calls Tryz.prog 11 #[.agg #[.bool (C.A kd), .slice (some ⟨g, 0, none⟩) (C.L kd) (C.L kd)], .int .i64 (if o.k = 2 then o.n else 0)] W fun e w' => e = .returned (.int .i64 (C.fr kd (if o.k = 2 then o.n else 0))) ∧ Kept W w') := fun g W => size_ok O hlt _ (fun ha => by
    rcases hk with ⟨hk, _⟩ | ⟨_, hk⟩
    · rw [hk]; rfl
    · rw [ha] at hk; cases hk) _ _ W
  have HP : Hid (∀ g W, Calls Tryz.prog 12 #[.agg #[.bool (C.A kd), .slice (some ⟨g, 0, none⟩) (C.L kd) (C.L kd)], .int .i64 (if o.k = 2 then o.n else 0)] W fun e w' => e = .returned (.int .i64 (C.sp kd (if o.k = 2 then o.n else 0))) ∧ Kept W w') := fun g W => spine_ok O hlt _ _ _ W
  clear h O
  obtain ⟨k, a, b, c, n, x, y⟩ := o
  dsimp only at *
  subst hb
  have F0 : ¬ C.fr kd (if k = 2 then n else 0) < 0 := by omega
  have F1 : ¬ C.n0 < C.fr kd (if k = 2 then n else 0) := by omega
  have S1 : ¬ C.n1 < C.sp kd (if k = 2 then n else 0) := by omega
  clear f0 f1 s1
  generalize C.fr kd (if k = 2 then n else 0) = fr at *
  generalize C.sp kd (if k = 2 then n else 0) = sp at *
  generalize C.L kd = lk at *
  have G0 : decide (fr < 0) = false := decide_eq_false F0
  have G1 : decide (C.n0 < fr) = false := decide_eq_false F1
  have G2 : decide (C.n1 < sp) = false := decide_eq_false S1
  have G3 : decide (fr > C.n0) = false := G1
  have G4 : decide (sp > C.n1) = false := G2
  clear F0 F1 S1
  unfold OP.val Cf.val at *
  obtain ⟨n0, n1, n2, n3, n4, n5, n6, n7, l', A, L, R⟩ := C
  dsimp only at *
  rcases hk with ⟨rfl, hA⟩ | ⟨rfl, hA⟩
  · rw [hA] at HK HZ HP
    simp only [if_false, Nat.reduceEqDiff] at HZ HP
    clear hA hlt
    go_enter Tryz.func77, Tryz.ntmps77
    go_wp2_with fail
    refine (HK.out _ (((Kept.refl w).alloc _ _).alloc _ _)).mono ?_
    rintro e w2 ⟨g, rfl, K⟩
    have B0 : Hid (Blk w2 w.heap.size (cl n0 n1 n2 n3 n4 n5 n6 n7 (.slice sx l' sc))) := ((Blk.new w (cl n0 n1 n2 n3 n4 n5 n6 n7 (.slice sx l' sc)) 25).kept ((Kept.refl _).alloc _ _)).kept K
    have B1 : Hid (Blk w2 (w.heap.size + 1) _) := (Blk.new2 w (cl n0 n1 n2 n3 n4 n5 n6 n7 (.slice sx l' sc)).toArray 25 [.int .i64 ((1 : Nat) : Int), .int .i64 a, .int .i64 kd, .int .i64 c, .int .i64 n, .complex .f64 x y] 38).kept K
    have K2 : Hid (Kept w w2) := (((Kept.refl w).alloc _ _).alloc _ _).trans K
    clear K
    have c0 := B0.out.at 0 rfl
    have c1 := B0.out.at 1 rfl
    have c2 := B0.out.at 2 rfl
    have c3 := B0.out.at 3 rfl
    have c4 := B0.out.at 4 rfl
    have c5 := B0.out.at 5 rfl
    have c6 := B0.out.at 6 rfl
    have c7 := B0.out.at 7 rfl
    have c8 := B0.out.at 8 rfl
    have d0 := B1.out.at 0 rfl
    have d1 := B1.out.at 1 rfl
    have d2 := B1.out.at 2 rfl
    have d3 := B1.out.at 3 rfl
    have d4 := B1.out.at 4 rfl
    have d5 := B1.out.at 5 rfl
    have e0 := fun (A : Array Value) (t : TypeId) => (((Kept.refl w2).alloc A t).cell (a := ⟨w.heap.size + 1, 0, none⟩) B1.out.lt).trans (B1.out.at 0 rfl)
    have e4 := fun (A : Array Value) (t : TypeId) => (((Kept.refl w2).alloc A t).cell (a := ⟨w.heap.size + 1, 4, none⟩) B1.out.lt).trans (B1.out.at 4 rfl)
    go_wp2_with fail
    generalize hW3 : w2.alloc _ = W3
    have B7 : Hid (Blk W3 w2.heap.size [.bool false, .slice (some ⟨g, 0, none⟩) lk lk]) := by rw [← hW3]; exact Blk.new w2 _ _
    have B8 : Hid (Blk W3 w.heap.size (cl n0 n1 n2 n3 n4 n5 n6 n7 (.slice sx l' sc))) := by rw [← hW3]; exact B0.out.kept ((Kept.refl w2).alloc _ _)
    have K3 : Hid (Kept w W3) := by rw [← hW3]; exact K2.out.alloc _ _
    clear hW3 B0 B1 K2 HK c0 c1 c2 c3 c4 c5 c6 c7 c8 d0 d1 d2 d3 d4 d5 e0 e4
    have f0 := fun z : KW W3 => z.cell (a := ⟨w2.heap.size, 0, none⟩) B7.out.lt (B7.out.at 0 rfl)
    have f1 := fun z : KW W3 => z.cell (a := ⟨w2.heap.size, 1, none⟩) B7.out.lt (B7.out.at 1 rfl)
    refine wp_region_kept (by kernel_rfl) (by kernel_rfl) fun _ => ?_
    repeat (go_big_quiet_step (first | (go_at_call 11; exact kept_of (HZ.out _ _)) | (go_at_call 12; exact kept_of (HP.out _ _))))
    refine wpQuiet_nil ?_
    rintro _ ⟨z, rfl⟩
    have c0 := z.cell (a := ⟨w.heap.size, 0, none⟩) B8.out.lt (B8.out.at 0 rfl)
    have c1 := z.cell (a := ⟨w.heap.size, 1, none⟩) B8.out.lt (B8.out.at 1 rfl)
    clear f0 f1
    go_wp2
    go_ret3
    exact ⟨rfl, K3.out.trans z.ok⟩
  · rw [hA] at HK HZ HP
    simp only [if_true] at HZ HP
    clear hA hlt
    go_enter Tryz.func77, Tryz.ntmps77
    go_wp2_with fail
    refine (HK.out _ (((Kept.refl w).alloc _ _).alloc _ _)).mono ?_
    rintro e w2 ⟨g, rfl, K⟩
    have B0 : Hid (Blk w2 w.heap.size (cl n0 n1 n2 n3 n4 n5 n6 n7 (.slice sx l' sc))) := ((Blk.new w (cl n0 n1 n2 n3 n4 n5 n6 n7 (.slice sx l' sc)) 25).kept ((Kept.refl _).alloc _ _)).kept K
    have B1 : Hid (Blk w2 (w.heap.size + 1) _) := (Blk.new2 w (cl n0 n1 n2 n3 n4 n5 n6 n7 (.slice sx l' sc)).toArray 25 [.int .i64 ((2 : Nat) : Int), .int .i64 a, .int .i64 kd, .int .i64 c, .int .i64 n, .complex .f64 x y] 38).kept K
    have K2 : Hid (Kept w w2) := (((Kept.refl w).alloc _ _).alloc _ _).trans K
    clear K
    have c0 := B0.out.at 0 rfl
    have c1 := B0.out.at 1 rfl
    have c2 := B0.out.at 2 rfl
    have c3 := B0.out.at 3 rfl
    have c4 := B0.out.at 4 rfl
    have c5 := B0.out.at 5 rfl
    have c6 := B0.out.at 6 rfl
    have c7 := B0.out.at 7 rfl
    have c8 := B0.out.at 8 rfl
    have d0 := B1.out.at 0 rfl
    have d1 := B1.out.at 1 rfl
    have d2 := B1.out.at 2 rfl
    have d3 := B1.out.at 3 rfl
    have d4 := B1.out.at 4 rfl
    have d5 := B1.out.at 5 rfl
    have e0 := fun (A : Array Value) (t : TypeId) => (((Kept.refl w2).alloc A t).cell (a := ⟨w.heap.size + 1, 0, none⟩) B1.out.lt).trans (B1.out.at 0 rfl)
    have e4 := fun (A : Array Value) (t : TypeId) => (((Kept.refl w2).alloc A t).cell (a := ⟨w.heap.size + 1, 4, none⟩) B1.out.lt).trans (B1.out.at 4 rfl)
    go_wp2_with fail
    generalize hW3 : w2.alloc _ = W3
    have B7 : Hid (Blk W3 w2.heap.size [.bool true, .slice (some ⟨g, 0, none⟩) lk lk]) := by rw [← hW3]; exact Blk.new w2 _ _
    have B8 : Hid (Blk W3 w.heap.size (cl n0 n1 n2 n3 n4 n5 n6 n7 (.slice sx l' sc))) := by rw [← hW3]; exact B0.out.kept ((Kept.refl w2).alloc _ _)
    have K3 : Hid (Kept w W3) := by rw [← hW3]; exact K2.out.alloc _ _
    clear hW3 B0 B1 K2 HK c0 c1 c2 c3 c4 c5 c6 c7 c8 d0 d1 d2 d3 d4 d5 e0 e4
    have f0 := fun z : KW W3 => z.cell (a := ⟨w2.heap.size, 0, none⟩) B7.out.lt (B7.out.at 0 rfl)
    have f1 := fun z : KW W3 => z.cell (a := ⟨w2.heap.size, 1, none⟩) B7.out.lt (B7.out.at 1 rfl)
    refine wp_region_kept (by kernel_rfl) (by kernel_rfl) fun _ => ?_
    repeat (go_big_quiet_step (first | (go_at_call 11; exact kept_of (HZ.out _ _)) | (go_at_call 12; exact kept_of (HP.out _ _))))
    refine wpQuiet_nil ?_
    rintro _ ⟨z, rfl⟩
    have c0 := z.cell (a := ⟨w.heap.size, 0, none⟩) B8.out.lt (B8.out.at 0 rfl)
    have c1 := z.cell (a := ⟨w.heap.size, 1, none⟩) B8.out.lt (B8.out.at 1 rfl)
    clear f0 f1
    go_wp2
    go_ret3
    exact ⟨rfl, K3.out.trans z.ok⟩

set_option maxHeartbeats 4000000 in
theorem opcheck_ok (C : Cf) (O : C.Ok) (sx : Option Addr) (sc : Nat) (S : Nat → Sh) (o : OP) (h1 : 1 ≤ o.k) (h2 : o.k ≤ 18) (hn : ∀ l ∈ lts o.k, Names C o l) (hM : o.k = 1 ∨ o.k = 2 → ∃ kd, Makes C o kd) (w : World) (hv : Vs w) (h : CM C w sx S) :
    Calls Tryz.prog 54 #[C.val (.slice sx C.l sc), o.val] w fun e w' => e = .returned (.int .i64 0) ∧ Kept w w' := by
  have HC : Hid (∀ W, Kept w W → Calls Tryz.prog 19 #[C.val (.slice sx C.l sc)] W fun e w' => e = .returned (.int .i64 0) ∧ Kept W w') := fun W k => check_ok O (h.kept k)
  have HY : Hid (∀ W, Calls Tryz.prog 74 #[.int .i64 (o.k : Int)] W fun e w' => e = .returned (.bool true) ∧ w' = W) := fun W => known_yes o.k h1 h2 W
  have HD : Hid (∀ W, Kept w W → Calls Tryz.prog 75 #[C.val (.slice sx C.l sc), o.val] W fun e w' => e = .returned (.bool true) ∧ Kept W w') := fun W k => named_ok C _ o (by omega) hn W (hv.keep k)
  have HE : Hid (o.k = 1 ∨ o.k = 2 → ∀ W, Kept w W → Calls Tryz.prog 77 #[C.val (.slice sx C.l sc), o.val] W fun e w' => ∃ r1 r2, e = .returned (.tuple #[.int .i64 r1, .int .i64 r2, .int .i64 0]) ∧ Kept W w') := fun hk W k => by
    obtain ⟨kd, M⟩ := hM hk
    refine (made_ok C O sx sc S o kd M W (h.kept k)).mono ?_
    rintro e w' ⟨rfl, K⟩
    exact ⟨_, _, rfl, K⟩
  clear h hv hn hM O h1 h2
  obtain ⟨k, a, b, c, n, x, y⟩ := o
  unfold OP.val Cf.val at *
  obtain ⟨n0, n1, n2, n3, n4, n5, n6, n7, l', A, L, R⟩ := C
  dsimp only at *
  by_cases hm : k = 1 ∨ k = 2
  · have HM : Hid (∀ W, Calls Tryz.prog 76 #[.int .i64 (k : Int)] W fun e w' => e = .returned (.bool true) ∧ w' = W) := fun W => by
      have := makes_any k W
      rwa [decide_eq_true hm] at this
    go_enter Tryz.func54, Tryz.ntmps54
    go_wp2_with fail
    refine (HC.out _ (((Kept.refl w).alloc _ _).alloc _ _)).mono ?_
    rintro e w2 ⟨rfl, K⟩
    have B0 : Hid (Blk w2 w.heap.size (cl n0 n1 n2 n3 n4 n5 n6 n7 (.slice sx l' sc))) := ((Blk.new w (cl n0 n1 n2 n3 n4 n5 n6 n7 (.slice sx l' sc)) 25).kept ((Kept.refl _).alloc _ _)).kept K
    have B1 : Hid (Blk w2 (w.heap.size + 1) _) := (Blk.new2 w (cl n0 n1 n2 n3 n4 n5 n6 n7 (.slice sx l' sc)).toArray 25 [.int .i64 (k : Int), .int .i64 a, .int .i64 b, .int .i64 c, .int .i64 n, .complex .f64 x y] 38).kept K
    have K2 : Hid (Kept w w2) := (((Kept.refl w).alloc _ _).alloc _ _).trans K
    clear K
    have c0 := B0.out.at 0 rfl
    have c1 := B0.out.at 1 rfl
    have c2 := B0.out.at 2 rfl
    have c3 := B0.out.at 3 rfl
    have c4 := B0.out.at 4 rfl
    have c5 := B0.out.at 5 rfl
    have c6 := B0.out.at 6 rfl
    have c7 := B0.out.at 7 rfl
    have c8 := B0.out.at 8 rfl
    have d0 := B1.out.at 0 rfl
    have d1 := B1.out.at 1 rfl
    have d2 := B1.out.at 2 rfl
    have d3 := B1.out.at 3 rfl
    have d4 := B1.out.at 4 rfl
    have d5 := B1.out.at 5 rfl
    go_wp2_with fail
    refine (HY.out _).mono ?_
    rintro e w3 ⟨rfl, rfl⟩
    go_wp2_with fail
    refine (HD.out _ K2.out).mono ?_
    rintro e w4 ⟨rfl, K⟩
    have C0 : Hid (Blk w4 w.heap.size (cl n0 n1 n2 n3 n4 n5 n6 n7 (.slice sx l' sc))) := B0.out.kept K
    have C1 : Hid (Blk w4 (w.heap.size + 1) [.int .i64 (k : Int), .int .i64 a, .int .i64 b, .int .i64 c, .int .i64 n, .complex .f64 x y]) := B1.out.kept K
    have K4 : Hid (Kept w w4) := K2.out.trans K
    clear K B0 B1 K2 c0 c1 c2 c3 c4 c5 c6 c7 c8 d0 d1 d2 d3 d4 d5
    have c0 := C0.out.at 0 rfl
    have c1 := C0.out.at 1 rfl
    have c2 := C0.out.at 2 rfl
    have c3 := C0.out.at 3 rfl
    have c4 := C0.out.at 4 rfl
    have c5 := C0.out.at 5 rfl
    have c6 := C0.out.at 6 rfl
    have c7 := C0.out.at 7 rfl
    have c8 := C0.out.at 8 rfl
    have d0 := C1.out.at 0 rfl
    have d1 := C1.out.at 1 rfl
    have d2 := C1.out.at 2 rfl
    have d3 := C1.out.at 3 rfl
    have d4 := C1.out.at 4 rfl
    have d5 := C1.out.at 5 rfl
    go_wp2_with fail
    refine (HM.out _).mono ?_
    rintro e w5 ⟨rfl, rfl⟩
    go_wp2_with fail
    refine (HE.out hm _ K4.out).mono ?_
    rintro e w6 ⟨r1, r2, rfl, K⟩
    have K6 : Hid (Kept w w6) := K4.out.trans K
    clear K
    go_wp2
    go_ret
    exact ⟨rfl, K6.out⟩
  · have HM : Hid (∀ W, Calls Tryz.prog 76 #[.int .i64 (k : Int)] W fun e w' => e = .returned (.bool false) ∧ w' = W) := fun W => by
      have := makes_any k W
      rwa [decide_eq_false hm] at this
    go_enter Tryz.func54, Tryz.ntmps54
    go_wp2_with fail
    refine (HC.out _ (((Kept.refl w).alloc _ _).alloc _ _)).mono ?_
    rintro e w2 ⟨rfl, K⟩
    have B0 : Hid (Blk w2 w.heap.size (cl n0 n1 n2 n3 n4 n5 n6 n7 (.slice sx l' sc))) := ((Blk.new w (cl n0 n1 n2 n3 n4 n5 n6 n7 (.slice sx l' sc)) 25).kept ((Kept.refl _).alloc _ _)).kept K
    have B1 : Hid (Blk w2 (w.heap.size + 1) _) := (Blk.new2 w (cl n0 n1 n2 n3 n4 n5 n6 n7 (.slice sx l' sc)).toArray 25 [.int .i64 (k : Int), .int .i64 a, .int .i64 b, .int .i64 c, .int .i64 n, .complex .f64 x y] 38).kept K
    have K2 : Hid (Kept w w2) := (((Kept.refl w).alloc _ _).alloc _ _).trans K
    clear K
    have c0 := B0.out.at 0 rfl
    have c1 := B0.out.at 1 rfl
    have c2 := B0.out.at 2 rfl
    have c3 := B0.out.at 3 rfl
    have c4 := B0.out.at 4 rfl
    have c5 := B0.out.at 5 rfl
    have c6 := B0.out.at 6 rfl
    have c7 := B0.out.at 7 rfl
    have c8 := B0.out.at 8 rfl
    have d0 := B1.out.at 0 rfl
    have d1 := B1.out.at 1 rfl
    have d2 := B1.out.at 2 rfl
    have d3 := B1.out.at 3 rfl
    have d4 := B1.out.at 4 rfl
    have d5 := B1.out.at 5 rfl
    go_wp2_with fail
    refine (HY.out _).mono ?_
    rintro e w3 ⟨rfl, rfl⟩
    go_wp2_with fail
    refine (HD.out _ K2.out).mono ?_
    rintro e w4 ⟨rfl, K⟩
    have C0 : Hid (Blk w4 w.heap.size (cl n0 n1 n2 n3 n4 n5 n6 n7 (.slice sx l' sc))) := B0.out.kept K
    have C1 : Hid (Blk w4 (w.heap.size + 1) [.int .i64 (k : Int), .int .i64 a, .int .i64 b, .int .i64 c, .int .i64 n, .complex .f64 x y]) := B1.out.kept K
    have K4 : Hid (Kept w w4) := K2.out.trans K
    clear K B0 B1 K2 c0 c1 c2 c3 c4 c5 c6 c7 c8 d0 d1 d2 d3 d4 d5
    have c0 := C0.out.at 0 rfl
    have c1 := C0.out.at 1 rfl
    have c2 := C0.out.at 2 rfl
    have c3 := C0.out.at 3 rfl
    have c4 := C0.out.at 4 rfl
    have c5 := C0.out.at 5 rfl
    have c6 := C0.out.at 6 rfl
    have c7 := C0.out.at 7 rfl
    have c8 := C0.out.at 8 rfl
    have d0 := C1.out.at 0 rfl
    have d1 := C1.out.at 1 rfl
    have d2 := C1.out.at 2 rfl
    have d3 := C1.out.at 3 rfl
    have d4 := C1.out.at 4 rfl
    have d5 := C1.out.at 5 rfl
    go_wp2_with fail
    refine (HM.out _).mono ?_
    rintro e w5 ⟨rfl, rfl⟩
    go_wp2
    go_ret
    exact ⟨rfl, K4.out⟩
end Go.Proofs.YtbmcbkebcchjmaaGreatDoor
