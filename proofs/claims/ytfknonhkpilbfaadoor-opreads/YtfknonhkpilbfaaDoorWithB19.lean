/-
  Package op's with: what a letter's text sets.
-/
import Derived.Test.YtfknonhkpilbfaaDoorWith19
namespace Go.Proofs.YtfknonhkpilbfaaDoor
open Go.RowKit
attribute [local go_sem] run_store_complex

set_option maxHeartbeats 4000000 in
set_option maxRecDepth 20000 in
theorem with_88 (o : OP) (s : List UInt8) (hl : s.length ≤ 1000) (w : World) (hv : Vs w) : Calls Tryd.prog 12 #[o.val, .int .i32 88, .string ⟨s.toArray⟩] w fun e w' => WitA o 88 s w e w' := by
  have hI : Hid (∀ W, Vs W → Calls Tryd.prog 20 #[o.val, .int .i32 88, .string ⟨s.toArray⟩] W fun e w' => WitA o 88 s W e w') := fun W hV => withPart_88 o s hl W hV
  have HV : Hid (Vs w) := hv
  have HP : Hid (∀ (r : Int) (q : Nat) (w' : World), i64 r → q < 18446744073709551616 → (∀ v, v < 18446744073709551616 → s = hex16 v → q = v) → Kept w w' → WitA o 88 s w (.returned (o.upd 88 r q).val) w') := fun r q w' h1 h2 h3 K => ⟨r, q, rfl, h1, h2, fun h88 h89 => by first | exact absurd rfl h88 | exact absurd rfl h89, fun _ => h3, K⟩
  clear hv
  unfold OP.val at hI ⊢
  generalize (⟨s.toArray⟩ : ByteArray) = t at hI ⊢
  obtain ⟨k, a, b, c, n, x, y⟩ := o
  dsimp only at hI ⊢
  go_enter Tryd.func12, Tryd.ntmps12
  go_wp2_with fail
  have B0' := Blk.new w [.int .i64 (k : Int), .int .i64 a, .int .i64 b, .int .i64 c, .int .i64 n, .complex .f64 x y] 25
  have k1 := (Kept.refl (w.alloc (.cells [.int .i64 (k : Int), .int .i64 a, .int .i64 b, .int .i64 c, .int .i64 n, .complex .f64 x y].toArray 25))).alloc [.int .i64 0, .int .i64 0, .int .i64 0, .int .i64 0, .int .i64 0, .complex .f64 0 0].toArray 25
  have HB : Hid (Blk _ _ _ ∧ Blk _ _ _ ∧ Kept w _) := ⟨B0'.kept k1, Blk.new (w.alloc (.cells [.int .i64 (k : Int), .int .i64 a, .int .i64 b, .int .i64 c, .int .i64 n, .complex .f64 x y].toArray 25)) [.int .i64 0, .int .i64 0, .int .i64 0, .int .i64 0, .int .i64 0, .complex .f64 0 0] 25, ((Kept.refl w).alloc _ _).trans k1⟩
  clear B0' k1
  refine (hI.out _ (HV.out.keep HB.out.2.2)).mono ?_
  rintro e w1 ⟨r, q, rfl, h1, h2, _, h4, K⟩
  have HQ : Hid (i64 r ∧ q < 18446744073709551616 ∧ ∀ v, v < 18446744073709551616 → s = hex16 v → q = v) := ⟨h1, h2, h4 (by simp)⟩
  have B0 := HB.out.1.kept K
  have B1 := HB.out.2.1.kept K
  have HK : Hid (Kept w w1) := HB.out.2.2.trans K
  rw [show (w.alloc (.cells [.int .i64 (k : Int), .int .i64 a, .int .i64 b, .int .i64 c, .int .i64 n, .complex .f64 x y].toArray 25)).heap.size = w.heap.size + 1 by simp] at B1
  have HS : Hid (w1.heap.size ≥ w.heap.size + 2 ∧ Blk w1 w.heap.size _ ∧ Blk w1 (w.heap.size + 1) _) := ⟨B1.lt, B0, B1⟩
  clear h1 h2 h4 K HB hI
  have g0 := B1.fz 0
  have g1 := B1.fz 1
  have g2 := B1.fz 2
  have g3 := B1.fz 3
  have g4 := B1.fz 4
  have g5 := B1.fz 5
  have d0 := B1.at 0 rfl
  have d1 := B1.at 1 rfl
  have d2 := B1.at 2 rfl
  have d3 := B1.at 3 rfl
  have d4 := B1.at 4 rfl
  have d5 := B1.at 5 rfl
  clear B0 B1
  obtain ⟨u, hu⟩ : ∃ u : OP, u = (⟨k, a, b, c, n, x, y⟩ : OP).upd 88 r q := ⟨_, rfl⟩
  rw [← hu]
  obtain ⟨k', a', b', c', n', x', y'⟩ := u
  have HU : Hid (⟨k', a', b', c', n', x', y'⟩ = (⟨k, a, b, c, n, x, y⟩ : OP).upd 88 r q) := hu
  clear hu
  unfold OP.val
  dsimp only
  go_wp2
  (try simp only [Exit.inBlock, Exit.then])
  refine bodyPost_ret_by (v := (⟨k', a', b', c', n', x', y'⟩ : OP).val) (results_blk rfl _ _ (w.heap.size + 1) (⟨k', a', b', c', n', x', y'⟩ : OP).cs rfl (HS.out.2.2.six _ _ _ _ _ _) Tryd.underlying25 (by kernel_rfl)) rfl ?_
  rw [HU.out]
  exact HP.out r q _ HQ.out.1 HQ.out.2.1 HQ.out.2.2 (HK.out.six (by simp) _ _ _ _ _ _)

set_option maxHeartbeats 4000000 in
set_option maxRecDepth 20000 in
theorem with_89 (o : OP) (s : List UInt8) (hl : s.length ≤ 1000) (w : World) (hv : Vs w) : Calls Tryd.prog 12 #[o.val, .int .i32 89, .string ⟨s.toArray⟩] w fun e w' => WitA o 89 s w e w' := by
  have hI : Hid (∀ W, Vs W → Calls Tryd.prog 20 #[o.val, .int .i32 89, .string ⟨s.toArray⟩] W fun e w' => WitA o 89 s W e w') := fun W hV => withPart_89 o s hl W hV
  have HV : Hid (Vs w) := hv
  have HP : Hid (∀ (r : Int) (q : Nat) (w' : World), i64 r → q < 18446744073709551616 → (∀ v, v < 18446744073709551616 → s = hex16 v → q = v) → Kept w w' → WitA o 89 s w (.returned (o.upd 89 r q).val) w') := fun r q w' h1 h2 h3 K => ⟨r, q, rfl, h1, h2, fun h88 h89 => by first | exact absurd rfl h88 | exact absurd rfl h89, fun _ => h3, K⟩
  clear hv
  unfold OP.val at hI ⊢
  generalize (⟨s.toArray⟩ : ByteArray) = t at hI ⊢
  obtain ⟨k, a, b, c, n, x, y⟩ := o
  dsimp only at hI ⊢
  go_enter Tryd.func12, Tryd.ntmps12
  go_wp2_with fail
  have B0' := Blk.new w [.int .i64 (k : Int), .int .i64 a, .int .i64 b, .int .i64 c, .int .i64 n, .complex .f64 x y] 25
  have k1 := (Kept.refl (w.alloc (.cells [.int .i64 (k : Int), .int .i64 a, .int .i64 b, .int .i64 c, .int .i64 n, .complex .f64 x y].toArray 25))).alloc [.int .i64 0, .int .i64 0, .int .i64 0, .int .i64 0, .int .i64 0, .complex .f64 0 0].toArray 25
  have HB : Hid (Blk _ _ _ ∧ Blk _ _ _ ∧ Kept w _) := ⟨B0'.kept k1, Blk.new (w.alloc (.cells [.int .i64 (k : Int), .int .i64 a, .int .i64 b, .int .i64 c, .int .i64 n, .complex .f64 x y].toArray 25)) [.int .i64 0, .int .i64 0, .int .i64 0, .int .i64 0, .int .i64 0, .complex .f64 0 0] 25, ((Kept.refl w).alloc _ _).trans k1⟩
  clear B0' k1
  refine (hI.out _ (HV.out.keep HB.out.2.2)).mono ?_
  rintro e w1 ⟨r, q, rfl, h1, h2, _, h4, K⟩
  have HQ : Hid (i64 r ∧ q < 18446744073709551616 ∧ ∀ v, v < 18446744073709551616 → s = hex16 v → q = v) := ⟨h1, h2, h4 (by simp)⟩
  have B0 := HB.out.1.kept K
  have B1 := HB.out.2.1.kept K
  have HK : Hid (Kept w w1) := HB.out.2.2.trans K
  rw [show (w.alloc (.cells [.int .i64 (k : Int), .int .i64 a, .int .i64 b, .int .i64 c, .int .i64 n, .complex .f64 x y].toArray 25)).heap.size = w.heap.size + 1 by simp] at B1
  have HS : Hid (w1.heap.size ≥ w.heap.size + 2 ∧ Blk w1 w.heap.size _ ∧ Blk w1 (w.heap.size + 1) _) := ⟨B1.lt, B0, B1⟩
  clear h1 h2 h4 K HB hI
  have g0 := B1.fz 0
  have g1 := B1.fz 1
  have g2 := B1.fz 2
  have g3 := B1.fz 3
  have g4 := B1.fz 4
  have g5 := B1.fz 5
  have d0 := B1.at 0 rfl
  have d1 := B1.at 1 rfl
  have d2 := B1.at 2 rfl
  have d3 := B1.at 3 rfl
  have d4 := B1.at 4 rfl
  have d5 := B1.at 5 rfl
  clear B0 B1
  obtain ⟨u, hu⟩ : ∃ u : OP, u = (⟨k, a, b, c, n, x, y⟩ : OP).upd 89 r q := ⟨_, rfl⟩
  rw [← hu]
  obtain ⟨k', a', b', c', n', x', y'⟩ := u
  have HU : Hid (⟨k', a', b', c', n', x', y'⟩ = (⟨k, a, b, c, n, x, y⟩ : OP).upd 89 r q) := hu
  clear hu
  unfold OP.val
  dsimp only
  go_wp2
  (try simp only [Exit.inBlock, Exit.then])
  refine bodyPost_ret_by (v := (⟨k', a', b', c', n', x', y'⟩ : OP).val) (results_blk rfl _ _ (w.heap.size + 1) (⟨k', a', b', c', n', x', y'⟩ : OP).cs rfl (HS.out.2.2.six _ _ _ _ _ _) Tryd.underlying25 (by kernel_rfl)) rfl ?_
  rw [HU.out]
  exact HP.out r q _ HQ.out.1 HQ.out.2.1 HQ.out.2.2 (HK.out.six (by simp) _ _ _ _ _ _)

set_option maxHeartbeats 4000000 in
set_option maxRecDepth 20000 in
theorem with_65 (o : OP) (s : List UInt8) (hl : s.length ≤ 1000) (w : World) (hv : Vs w) : Calls Tryd.prog 12 #[o.val, .int .i32 (65 : Int), .string ⟨s.toArray⟩] w fun e w' => WitA o 65 s w e w' := by
  have HO : Hid (∀ (w' : World) (r : Int), i64 r → (∀ m, i64 m → s = Lib.itoa m → r = m) → Kept w w' → WitA o 65 s w (.returned (.agg #[.int .i64 (o.k : Int), .int .i64 r, .int .i64 o.b, .int .i64 o.c, .int .i64 o.n, .complex .f64 o.x o.y])) w') := fun w' r h1 h2 K => ⟨r, 0, rfl, h1, by decide, fun _ _ => h2, fun h => by rcases h with h | h <;> exact absurd h (by decide), K⟩
  have hI : Hid (∀ W, Vs W → Calls Tryd.prog 21 #[.string ⟨s.toArray⟩] W fun e w' => ∃ (r : Int) (x : Value), e = .returned (.tuple #[.int .i64 r, x]) ∧ i64 r ∧ (∀ m, i64 m → s = Lib.itoa m → r = m) ∧ Kept W w') := fun W hV => atoi_any s hl W hV
  have HV : Hid (Vs w) := hv
  clear hv
  unfold OP.val
  obtain ⟨k, a, b, c, n, x, y⟩ := o
  dsimp only at HO ⊢
  generalize (⟨s.toArray⟩ : ByteArray) = t at hI ⊢
  go_enter Tryd.func12, Tryd.ntmps12
  go_wp2_with fail
  have B0' := Blk.new w [.int .i64 (k : Int), .int .i64 a, .int .i64 b, .int .i64 c, .int .i64 n, .complex .f64 x y] 25
  have k1 := (Kept.refl (w.alloc (.cells [.int .i64 (k : Int), .int .i64 a, .int .i64 b, .int .i64 c, .int .i64 n, .complex .f64 x y].toArray 25))).alloc [.int .i64 0, .int .i64 0, .int .i64 0, .int .i64 0, .int .i64 0, .complex .f64 0 0].toArray 25
  have HB : Hid (Blk _ _ _ ∧ Blk _ _ _ ∧ Kept w _) := ⟨B0'.kept k1, Blk.new (w.alloc (.cells [.int .i64 (k : Int), .int .i64 a, .int .i64 b, .int .i64 c, .int .i64 n, .complex .f64 x y].toArray 25)) [.int .i64 0, .int .i64 0, .int .i64 0, .int .i64 0, .int .i64 0, .complex .f64 0 0] 25, ((Kept.refl w).alloc _ _).trans k1⟩
  clear B0' k1
  refine (hI.out _ (HV.out.keep HB.out.2.2)).mono ?_
  rintro e w1 ⟨r, xx, rfl, h1, h2, K⟩
  have HQ : Hid (i64 r ∧ ∀ m, i64 m → s = Lib.itoa m → r = m) := ⟨h1, h2⟩
  have B0 := HB.out.1.kept K
  have B1 := HB.out.2.1.kept K
  have HK : Hid (Kept w w1) := HB.out.2.2.trans K
  rw [show (w.alloc (.cells [.int .i64 (k : Int), .int .i64 a, .int .i64 b, .int .i64 c, .int .i64 n, .complex .f64 x y].toArray 25)).heap.size = w.heap.size + 1 by simp] at B1
  have HS : Hid (w1.heap.size ≥ w.heap.size + 2 ∧ Blk w1 w.heap.size _ ∧ Blk w1 (w.heap.size + 1) _) := ⟨B1.lt, B0, B1⟩
  clear h1 h2 K HB hI
  have c0 := B0.at 0 rfl
  have c1 := B0.at 1 rfl
  have c2 := B0.at 2 rfl
  have c3 := B0.at 3 rfl
  have c4 := B0.at 4 rfl
  have c5 := B0.at 5 rfl
  have f1 := B0.fz 1
  have g0 := B1.fz 0
  have g1 := B1.fz 1
  have g2 := B1.fz 2
  have g3 := B1.fz 3
  have g4 := B1.fz 4
  have g5 := B1.fz 5
  have d0 := B1.at 0 rfl
  have d1 := B1.at 1 rfl
  have d2 := B1.at 2 rfl
  have d3 := B1.at 3 rfl
  have d4 := B1.at 4 rfl
  have d5 := B1.at 5 rfl
  clear B0 B1
  go_wp2
  (try simp only [Exit.inBlock, Exit.then])
  refine bodyPost_ret_by (v := .agg #[.int .i64 (k : Int), .int .i64 r, .int .i64 b, .int .i64 c, .int .i64 n, .complex .f64 x y]) (results_blk rfl _ _ (w.heap.size + 1) [.int .i64 (k : Int), .int .i64 r, .int .i64 b, .int .i64 c, .int .i64 n, .complex .f64 x y] rfl ((HS.out.2.2.set_other ?_ _).six _ _ _ _ _ _) Tryd.underlying25 (by kernel_rfl)) rfl (HO.out _ r HQ.out.1 HQ.out.2 ((HK.out.setCell ?_ _).six ?_ _ _ _ _ _ _))
  all_goals (first | (simp; done) | (simp; omega))

set_option maxHeartbeats 4000000 in
set_option maxRecDepth 20000 in
theorem with_66 (o : OP) (s : List UInt8) (hl : s.length ≤ 1000) (w : World) (hv : Vs w) : Calls Tryd.prog 12 #[o.val, .int .i32 (66 : Int), .string ⟨s.toArray⟩] w fun e w' => WitA o 66 s w e w' := by
  have HO : Hid (∀ (w' : World) (r : Int), i64 r → (∀ m, i64 m → s = Lib.itoa m → r = m) → Kept w w' → WitA o 66 s w (.returned (.agg #[.int .i64 (o.k : Int), .int .i64 o.a, .int .i64 r, .int .i64 o.c, .int .i64 o.n, .complex .f64 o.x o.y])) w') := fun w' r h1 h2 K => ⟨r, 0, rfl, h1, by decide, fun _ _ => h2, fun h => by rcases h with h | h <;> exact absurd h (by decide), K⟩
  have hI : Hid (∀ W, Vs W → Calls Tryd.prog 21 #[.string ⟨s.toArray⟩] W fun e w' => ∃ (r : Int) (x : Value), e = .returned (.tuple #[.int .i64 r, x]) ∧ i64 r ∧ (∀ m, i64 m → s = Lib.itoa m → r = m) ∧ Kept W w') := fun W hV => atoi_any s hl W hV
  have HV : Hid (Vs w) := hv
  clear hv
  unfold OP.val
  obtain ⟨k, a, b, c, n, x, y⟩ := o
  dsimp only at HO ⊢
  generalize (⟨s.toArray⟩ : ByteArray) = t at hI ⊢
  go_enter Tryd.func12, Tryd.ntmps12
  go_wp2_with fail
  have B0' := Blk.new w [.int .i64 (k : Int), .int .i64 a, .int .i64 b, .int .i64 c, .int .i64 n, .complex .f64 x y] 25
  have k1 := (Kept.refl (w.alloc (.cells [.int .i64 (k : Int), .int .i64 a, .int .i64 b, .int .i64 c, .int .i64 n, .complex .f64 x y].toArray 25))).alloc [.int .i64 0, .int .i64 0, .int .i64 0, .int .i64 0, .int .i64 0, .complex .f64 0 0].toArray 25
  have HB : Hid (Blk _ _ _ ∧ Blk _ _ _ ∧ Kept w _) := ⟨B0'.kept k1, Blk.new (w.alloc (.cells [.int .i64 (k : Int), .int .i64 a, .int .i64 b, .int .i64 c, .int .i64 n, .complex .f64 x y].toArray 25)) [.int .i64 0, .int .i64 0, .int .i64 0, .int .i64 0, .int .i64 0, .complex .f64 0 0] 25, ((Kept.refl w).alloc _ _).trans k1⟩
  clear B0' k1
  refine (hI.out _ (HV.out.keep HB.out.2.2)).mono ?_
  rintro e w1 ⟨r, xx, rfl, h1, h2, K⟩
  have HQ : Hid (i64 r ∧ ∀ m, i64 m → s = Lib.itoa m → r = m) := ⟨h1, h2⟩
  have B0 := HB.out.1.kept K
  have B1 := HB.out.2.1.kept K
  have HK : Hid (Kept w w1) := HB.out.2.2.trans K
  rw [show (w.alloc (.cells [.int .i64 (k : Int), .int .i64 a, .int .i64 b, .int .i64 c, .int .i64 n, .complex .f64 x y].toArray 25)).heap.size = w.heap.size + 1 by simp] at B1
  have HS : Hid (w1.heap.size ≥ w.heap.size + 2 ∧ Blk w1 w.heap.size _ ∧ Blk w1 (w.heap.size + 1) _) := ⟨B1.lt, B0, B1⟩
  clear h1 h2 K HB hI
  have c0 := B0.at 0 rfl
  have c1 := B0.at 1 rfl
  have c2 := B0.at 2 rfl
  have c3 := B0.at 3 rfl
  have c4 := B0.at 4 rfl
  have c5 := B0.at 5 rfl
  have f2 := B0.fz 2
  have g0 := B1.fz 0
  have g1 := B1.fz 1
  have g2 := B1.fz 2
  have g3 := B1.fz 3
  have g4 := B1.fz 4
  have g5 := B1.fz 5
  have d0 := B1.at 0 rfl
  have d1 := B1.at 1 rfl
  have d2 := B1.at 2 rfl
  have d3 := B1.at 3 rfl
  have d4 := B1.at 4 rfl
  have d5 := B1.at 5 rfl
  clear B0 B1
  go_wp2
  (try simp only [Exit.inBlock, Exit.then])
  refine bodyPost_ret_by (v := .agg #[.int .i64 (k : Int), .int .i64 a, .int .i64 r, .int .i64 c, .int .i64 n, .complex .f64 x y]) (results_blk rfl _ _ (w.heap.size + 1) [.int .i64 (k : Int), .int .i64 a, .int .i64 r, .int .i64 c, .int .i64 n, .complex .f64 x y] rfl ((HS.out.2.2.set_other ?_ _).six _ _ _ _ _ _) Tryd.underlying25 (by kernel_rfl)) rfl (HO.out _ r HQ.out.1 HQ.out.2 ((HK.out.setCell ?_ _).six ?_ _ _ _ _ _ _))
  all_goals (first | (simp; done) | (simp; omega))

set_option maxHeartbeats 4000000 in
set_option maxRecDepth 20000 in
theorem with_75 (o : OP) (s : List UInt8) (hl : s.length ≤ 1000) (w : World) (hv : Vs w) : Calls Tryd.prog 12 #[o.val, .int .i32 (75 : Int), .string ⟨s.toArray⟩] w fun e w' => WitA o 75 s w e w' := by
  have HO : Hid (∀ (w' : World) (r : Int), i64 r → (∀ m, i64 m → s = Lib.itoa m → r = m) → Kept w w' → WitA o 75 s w (.returned (.agg #[.int .i64 (o.k : Int), .int .i64 o.a, .int .i64 r, .int .i64 o.c, .int .i64 o.n, .complex .f64 o.x o.y])) w') := fun w' r h1 h2 K => ⟨r, 0, rfl, h1, by decide, fun _ _ => h2, fun h => by rcases h with h | h <;> exact absurd h (by decide), K⟩
  have hI : Hid (∀ W, Vs W → Calls Tryd.prog 21 #[.string ⟨s.toArray⟩] W fun e w' => ∃ (r : Int) (x : Value), e = .returned (.tuple #[.int .i64 r, x]) ∧ i64 r ∧ (∀ m, i64 m → s = Lib.itoa m → r = m) ∧ Kept W w') := fun W hV => atoi_any s hl W hV
  have HV : Hid (Vs w) := hv
  clear hv
  unfold OP.val
  obtain ⟨k, a, b, c, n, x, y⟩ := o
  dsimp only at HO ⊢
  generalize (⟨s.toArray⟩ : ByteArray) = t at hI ⊢
  go_enter Tryd.func12, Tryd.ntmps12
  go_wp2_with fail
  have B0' := Blk.new w [.int .i64 (k : Int), .int .i64 a, .int .i64 b, .int .i64 c, .int .i64 n, .complex .f64 x y] 25
  have k1 := (Kept.refl (w.alloc (.cells [.int .i64 (k : Int), .int .i64 a, .int .i64 b, .int .i64 c, .int .i64 n, .complex .f64 x y].toArray 25))).alloc [.int .i64 0, .int .i64 0, .int .i64 0, .int .i64 0, .int .i64 0, .complex .f64 0 0].toArray 25
  have HB : Hid (Blk _ _ _ ∧ Blk _ _ _ ∧ Kept w _) := ⟨B0'.kept k1, Blk.new (w.alloc (.cells [.int .i64 (k : Int), .int .i64 a, .int .i64 b, .int .i64 c, .int .i64 n, .complex .f64 x y].toArray 25)) [.int .i64 0, .int .i64 0, .int .i64 0, .int .i64 0, .int .i64 0, .complex .f64 0 0] 25, ((Kept.refl w).alloc _ _).trans k1⟩
  clear B0' k1
  refine (hI.out _ (HV.out.keep HB.out.2.2)).mono ?_
  rintro e w1 ⟨r, xx, rfl, h1, h2, K⟩
  have HQ : Hid (i64 r ∧ ∀ m, i64 m → s = Lib.itoa m → r = m) := ⟨h1, h2⟩
  have B0 := HB.out.1.kept K
  have B1 := HB.out.2.1.kept K
  have HK : Hid (Kept w w1) := HB.out.2.2.trans K
  rw [show (w.alloc (.cells [.int .i64 (k : Int), .int .i64 a, .int .i64 b, .int .i64 c, .int .i64 n, .complex .f64 x y].toArray 25)).heap.size = w.heap.size + 1 by simp] at B1
  have HS : Hid (w1.heap.size ≥ w.heap.size + 2 ∧ Blk w1 w.heap.size _ ∧ Blk w1 (w.heap.size + 1) _) := ⟨B1.lt, B0, B1⟩
  clear h1 h2 K HB hI
  have c0 := B0.at 0 rfl
  have c1 := B0.at 1 rfl
  have c2 := B0.at 2 rfl
  have c3 := B0.at 3 rfl
  have c4 := B0.at 4 rfl
  have c5 := B0.at 5 rfl
  have f2 := B0.fz 2
  have g0 := B1.fz 0
  have g1 := B1.fz 1
  have g2 := B1.fz 2
  have g3 := B1.fz 3
  have g4 := B1.fz 4
  have g5 := B1.fz 5
  have d0 := B1.at 0 rfl
  have d1 := B1.at 1 rfl
  have d2 := B1.at 2 rfl
  have d3 := B1.at 3 rfl
  have d4 := B1.at 4 rfl
  have d5 := B1.at 5 rfl
  clear B0 B1
  go_wp2
  (try simp only [Exit.inBlock, Exit.then])
  refine bodyPost_ret_by (v := .agg #[.int .i64 (k : Int), .int .i64 a, .int .i64 r, .int .i64 c, .int .i64 n, .complex .f64 x y]) (results_blk rfl _ _ (w.heap.size + 1) [.int .i64 (k : Int), .int .i64 a, .int .i64 r, .int .i64 c, .int .i64 n, .complex .f64 x y] rfl ((HS.out.2.2.set_other ?_ _).six _ _ _ _ _ _) Tryd.underlying25 (by kernel_rfl)) rfl (HO.out _ r HQ.out.1 HQ.out.2 ((HK.out.setCell ?_ _).six ?_ _ _ _ _ _ _))
  all_goals (first | (simp; done) | (simp; omega))

set_option maxHeartbeats 4000000 in
set_option maxRecDepth 20000 in
theorem with_67 (o : OP) (s : List UInt8) (hl : s.length ≤ 1000) (w : World) (hv : Vs w) : Calls Tryd.prog 12 #[o.val, .int .i32 (67 : Int), .string ⟨s.toArray⟩] w fun e w' => WitA o 67 s w e w' := by
  have HO : Hid (∀ (w' : World) (r : Int), i64 r → (∀ m, i64 m → s = Lib.itoa m → r = m) → Kept w w' → WitA o 67 s w (.returned (.agg #[.int .i64 (o.k : Int), .int .i64 o.a, .int .i64 o.b, .int .i64 r, .int .i64 o.n, .complex .f64 o.x o.y])) w') := fun w' r h1 h2 K => ⟨r, 0, rfl, h1, by decide, fun _ _ => h2, fun h => by rcases h with h | h <;> exact absurd h (by decide), K⟩
  have hI : Hid (∀ W, Vs W → Calls Tryd.prog 21 #[.string ⟨s.toArray⟩] W fun e w' => ∃ (r : Int) (x : Value), e = .returned (.tuple #[.int .i64 r, x]) ∧ i64 r ∧ (∀ m, i64 m → s = Lib.itoa m → r = m) ∧ Kept W w') := fun W hV => atoi_any s hl W hV
  have HV : Hid (Vs w) := hv
  clear hv
  unfold OP.val
  obtain ⟨k, a, b, c, n, x, y⟩ := o
  dsimp only at HO ⊢
  generalize (⟨s.toArray⟩ : ByteArray) = t at hI ⊢
  go_enter Tryd.func12, Tryd.ntmps12
  go_wp2_with fail
  have B0' := Blk.new w [.int .i64 (k : Int), .int .i64 a, .int .i64 b, .int .i64 c, .int .i64 n, .complex .f64 x y] 25
  have k1 := (Kept.refl (w.alloc (.cells [.int .i64 (k : Int), .int .i64 a, .int .i64 b, .int .i64 c, .int .i64 n, .complex .f64 x y].toArray 25))).alloc [.int .i64 0, .int .i64 0, .int .i64 0, .int .i64 0, .int .i64 0, .complex .f64 0 0].toArray 25
  have HB : Hid (Blk _ _ _ ∧ Blk _ _ _ ∧ Kept w _) := ⟨B0'.kept k1, Blk.new (w.alloc (.cells [.int .i64 (k : Int), .int .i64 a, .int .i64 b, .int .i64 c, .int .i64 n, .complex .f64 x y].toArray 25)) [.int .i64 0, .int .i64 0, .int .i64 0, .int .i64 0, .int .i64 0, .complex .f64 0 0] 25, ((Kept.refl w).alloc _ _).trans k1⟩
  clear B0' k1
  refine (hI.out _ (HV.out.keep HB.out.2.2)).mono ?_
  rintro e w1 ⟨r, xx, rfl, h1, h2, K⟩
  have HQ : Hid (i64 r ∧ ∀ m, i64 m → s = Lib.itoa m → r = m) := ⟨h1, h2⟩
  have B0 := HB.out.1.kept K
  have B1 := HB.out.2.1.kept K
  have HK : Hid (Kept w w1) := HB.out.2.2.trans K
  rw [show (w.alloc (.cells [.int .i64 (k : Int), .int .i64 a, .int .i64 b, .int .i64 c, .int .i64 n, .complex .f64 x y].toArray 25)).heap.size = w.heap.size + 1 by simp] at B1
  have HS : Hid (w1.heap.size ≥ w.heap.size + 2 ∧ Blk w1 w.heap.size _ ∧ Blk w1 (w.heap.size + 1) _) := ⟨B1.lt, B0, B1⟩
  clear h1 h2 K HB hI
  have c0 := B0.at 0 rfl
  have c1 := B0.at 1 rfl
  have c2 := B0.at 2 rfl
  have c3 := B0.at 3 rfl
  have c4 := B0.at 4 rfl
  have c5 := B0.at 5 rfl
  have f3 := B0.fz 3
  have g0 := B1.fz 0
  have g1 := B1.fz 1
  have g2 := B1.fz 2
  have g3 := B1.fz 3
  have g4 := B1.fz 4
  have g5 := B1.fz 5
  have d0 := B1.at 0 rfl
  have d1 := B1.at 1 rfl
  have d2 := B1.at 2 rfl
  have d3 := B1.at 3 rfl
  have d4 := B1.at 4 rfl
  have d5 := B1.at 5 rfl
  clear B0 B1
  go_wp2
  (try simp only [Exit.inBlock, Exit.then])
  refine bodyPost_ret_by (v := .agg #[.int .i64 (k : Int), .int .i64 a, .int .i64 b, .int .i64 r, .int .i64 n, .complex .f64 x y]) (results_blk rfl _ _ (w.heap.size + 1) [.int .i64 (k : Int), .int .i64 a, .int .i64 b, .int .i64 r, .int .i64 n, .complex .f64 x y] rfl ((HS.out.2.2.set_other ?_ _).six _ _ _ _ _ _) Tryd.underlying25 (by kernel_rfl)) rfl (HO.out _ r HQ.out.1 HQ.out.2 ((HK.out.setCell ?_ _).six ?_ _ _ _ _ _ _))
  all_goals (first | (simp; done) | (simp; omega))

set_option maxHeartbeats 4000000 in
set_option maxRecDepth 20000 in
theorem with_n (o : OP) (l : UInt8) (h88 : l ≠ 88) (h89 : l ≠ 89) (h65 : l ≠ 65) (h66 : l ≠ 66) (h75 : l ≠ 75) (h67 : l ≠ 67) (s : List UInt8) (hl : s.length ≤ 1000) (w : World) (hv : Vs w) : Calls Tryd.prog 12 #[o.val, .int .i32 (l.toNat : Int), .string ⟨s.toArray⟩] w fun e w' => WitA o l s w e w' := by
  have HO : Hid (∀ (w' : World) (r : Int), i64 r → (∀ m, i64 m → s = Lib.itoa m → r = m) → Kept w w' → WitA o l s w (.returned (.agg #[.int .i64 (o.k : Int), .int .i64 o.a, .int .i64 o.b, .int .i64 o.c, .int .i64 r, .complex .f64 o.x o.y])) w') := fun w' r h1 h2 K => ⟨r, 0, by unfold OP.upd; rw [if_neg h88, if_neg h89, if_neg h65, if_neg (fun q => q.elim h66 h75), if_neg h67]; rfl, h1, by decide, fun _ _ => h2, fun h => h.elim (fun q => absurd q h88) (fun q => absurd q h89), K⟩
  have hI : Hid (∀ W, Vs W → Calls Tryd.prog 21 #[.string ⟨s.toArray⟩] W fun e w' => ∃ (r : Int) (x : Value), e = .returned (.tuple #[.int .i64 r, x]) ∧ i64 r ∧ (∀ m, i64 m → s = Lib.itoa m → r = m) ∧ Kept W w') := fun W hV => atoi_any s hl W hV
  have HV : Hid (Vs w) := hv
  clear hv
  obtain ⟨z, hz⟩ : ∃ z : Int, z = (l.toNat : Int) := ⟨_, rfl⟩
  rw [← hz]
  have z88 : (z == 88) = false := lb l z hz 88 (by decide) h88
  have z89 : (z == 89) = false := lb l z hz 89 (by decide) h89
  have z65 : (z == 65) = false := lb l z hz 65 (by decide) h65
  have z66 : (z == 66) = false := lb l z hz 66 (by decide) h66
  have z75 : (z == 75) = false := lb l z hz 75 (by decide) h75
  have z67 : (z == 67) = false := lb l z hz 67 (by decide) h67
  clear hz h88 h89 h65 h66 h75 h67
  unfold OP.val
  obtain ⟨k, a, b, c, n, x, y⟩ := o
  dsimp only at HO ⊢
  generalize (⟨s.toArray⟩ : ByteArray) = t at hI ⊢
  go_enter Tryd.func12, Tryd.ntmps12
  go_wp2_with fail
  have B0' := Blk.new w [.int .i64 (k : Int), .int .i64 a, .int .i64 b, .int .i64 c, .int .i64 n, .complex .f64 x y] 25
  have k1 := (Kept.refl (w.alloc (.cells [.int .i64 (k : Int), .int .i64 a, .int .i64 b, .int .i64 c, .int .i64 n, .complex .f64 x y].toArray 25))).alloc [.int .i64 0, .int .i64 0, .int .i64 0, .int .i64 0, .int .i64 0, .complex .f64 0 0].toArray 25
  have HB : Hid (Blk _ _ _ ∧ Blk _ _ _ ∧ Kept w _) := ⟨B0'.kept k1, Blk.new (w.alloc (.cells [.int .i64 (k : Int), .int .i64 a, .int .i64 b, .int .i64 c, .int .i64 n, .complex .f64 x y].toArray 25)) [.int .i64 0, .int .i64 0, .int .i64 0, .int .i64 0, .int .i64 0, .complex .f64 0 0] 25, ((Kept.refl w).alloc _ _).trans k1⟩
  clear B0' k1
  refine (hI.out _ (HV.out.keep HB.out.2.2)).mono ?_
  rintro e w1 ⟨r, xx, rfl, h1, h2, K⟩
  have HQ : Hid (i64 r ∧ ∀ m, i64 m → s = Lib.itoa m → r = m) := ⟨h1, h2⟩
  have B0 := HB.out.1.kept K
  have B1 := HB.out.2.1.kept K
  have HK : Hid (Kept w w1) := HB.out.2.2.trans K
  rw [show (w.alloc (.cells [.int .i64 (k : Int), .int .i64 a, .int .i64 b, .int .i64 c, .int .i64 n, .complex .f64 x y].toArray 25)).heap.size = w.heap.size + 1 by simp] at B1
  have HS : Hid (w1.heap.size ≥ w.heap.size + 2 ∧ Blk w1 w.heap.size _ ∧ Blk w1 (w.heap.size + 1) _) := ⟨B1.lt, B0, B1⟩
  clear h1 h2 K HB hI
  have c0 := B0.at 0 rfl
  have c1 := B0.at 1 rfl
  have c2 := B0.at 2 rfl
  have c3 := B0.at 3 rfl
  have c4 := B0.at 4 rfl
  have c5 := B0.at 5 rfl
  have f4 := B0.fz 4
  have g0 := B1.fz 0
  have g1 := B1.fz 1
  have g2 := B1.fz 2
  have g3 := B1.fz 3
  have g4 := B1.fz 4
  have g5 := B1.fz 5
  have d0 := B1.at 0 rfl
  have d1 := B1.at 1 rfl
  have d2 := B1.at 2 rfl
  have d3 := B1.at 3 rfl
  have d4 := B1.at 4 rfl
  have d5 := B1.at 5 rfl
  clear B0 B1
  go_wp2
  (try simp only [Exit.inBlock, Exit.then])
  refine bodyPost_ret_by (v := .agg #[.int .i64 (k : Int), .int .i64 a, .int .i64 b, .int .i64 c, .int .i64 r, .complex .f64 x y]) (results_blk rfl _ _ (w.heap.size + 1) [.int .i64 (k : Int), .int .i64 a, .int .i64 b, .int .i64 c, .int .i64 r, .complex .f64 x y] rfl ((HS.out.2.2.set_other ?_ _).six _ _ _ _ _ _) Tryd.underlying25 (by kernel_rfl)) rfl (HO.out _ r HQ.out.1 HQ.out.2 ((HK.out.setCell ?_ _).six ?_ _ _ _ _ _ _))
  all_goals (first | (simp; done) | (simp; omega))

theorem with_any (o : OP) (l : UInt8) (s : List UInt8) (hl : s.length ≤ 1000) (w : World) (hv : Vs w) : Calls Tryd.prog 12 #[o.val, .int .i32 (l.toNat : Int), .string ⟨s.toArray⟩] w fun e w' => WitA o l s w e w' := by
  by_cases h88 : l = 88
  · subst h88; exact with_88 o s hl w hv
  by_cases h89 : l = 89
  · subst h89; exact with_89 o s hl w hv
  by_cases h65 : l = 65
  · subst h65; exact with_65 o s hl w hv
  by_cases h66 : l = 66
  · subst h66; exact with_66 o s hl w hv
  by_cases h75 : l = 75
  · subst h75; exact with_75 o s hl w hv
  by_cases h67 : l = 67
  · subst h67; exact with_67 o s hl w hv
  exact with_n o l h88 h89 h65 h66 h75 h67 s hl w hv
end Go.Proofs.YtfknonhkpilbfaaDoor
