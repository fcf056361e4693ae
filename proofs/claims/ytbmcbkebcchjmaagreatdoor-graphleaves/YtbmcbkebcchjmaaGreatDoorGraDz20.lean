/-
  Package graph: nothing is refused, kind by kind.
-/
import Derived.Test.YtbmcbkebcchjmaaGreatDoorGraC20
namespace Go.Proofs.YtbmcbkebcchjmaaGreatDoor
open Go.RowKit
attribute [local go_sem] run_store_complex
theorem field_arr (b : Bool) (x : Option Addr) (l c : Nat) (W : World) : (Instr.field 43 (.agg #[.bool b, .slice x l c]) 0).run Tryz.prog W = .ok (.bool b) W := by kernel_rfl
section
variable {C : Cf} {base p : Nat} {F : List Nat} {A : Ga}

set_option maxHeartbeats 1000000 in
theorem operands_2 (lv : Value) (o : OP) (hk : o.k = 2) (w : World) : Calls Tryz.prog 55 #[lv, o.val] w fun e w' => e = .returned (.int .i64 0) ∧ Kept w w' := by
  obtain ⟨k, a, b, c, n, x, y⟩ := o
  unfold OP.val
  dsimp only at *
  subst hk
  go_enter Tryz.func55, Tryz.ntmps55
  go_wp2
  go_ret
  exact ⟨rfl, (Kept.refl w).alloc _ _⟩

set_option maxHeartbeats 1000000 in
theorem operands_5 (o : OP) (hk : o.k = 5) (j : Nat) (hj : o.b = (j : Int)) {g m cap : Nat} (hm : j < m) (i : Nat) (hi : i ≤ 1000000) (w : World) (hg : g < w.heap.size) (c0 : w.cell? ⟨g, j * 2, none⟩ = some (.bool (refV i).r)) (c1 : w.cell? ⟨g, j * 2 + 1, none⟩ = some (.complex .f64 (refV i).x (refV i).y)) :
    Calls Tryz.prog 55 #[.slice (some ⟨g, 0, none⟩) m cap, o.val] w fun e w' => e = .returned (.int .i64 0) ∧ Kept w w' := by
  have HL : Hid (∀ W, Calls Tryz.prog 79 #[(refV i).val] W fun e w' => e = .returned (.int .i64 0) ∧ Kept W w') := fun W => lookedInto_ok i hi W
  obtain ⟨k, a, b, c, n, x, y⟩ := o
  unfold OP.val
  unfold refV V.val at *
  dsimp only at *
  subst hk hj
  generalize floatOfInt .f64 ((i : Int) + 1) = fx at *
  have q0 := fun (B : Array Value) (t : TypeId) => (((Kept.refl w).alloc B t).cell (a := ⟨g, j * 2, none⟩) hg).trans c0
  have q1 := fun (B : Array Value) (t : TypeId) => (((Kept.refl w).alloc B t).cell (a := ⟨g, j * 2 + 1, none⟩) hg).trans c1
  clear c0 c1
  go_enter Tryz.func55, Tryz.ntmps55
  go_wp2_with fail
  refine (HL.out _).mono ?_
  rintro e w2 ⟨rfl, K⟩
  have K2 : Hid (Kept w w2) := ((Kept.refl w).alloc _ _).trans K
  clear K q0 q1
  go_wp2
  go_ret
  exact ⟨rfl, K2.out⟩

set_option maxHeartbeats 1000000 in
theorem operands_10 (o : OP) (hk : o.k = 10) (j : Nat) (hj : o.b = (j : Int)) {g m cap : Nat} (hm : j < m) (i : Nat) (hi : i ≤ 1000000) (w : World) (hg : g < w.heap.size) (c0 : w.cell? ⟨g, j * 2, none⟩ = some (.bool (refV i).r)) (c1 : w.cell? ⟨g, j * 2 + 1, none⟩ = some (.complex .f64 (refV i).x (refV i).y)) :
    Calls Tryz.prog 55 #[.slice (some ⟨g, 0, none⟩) m cap, o.val] w fun e w' => e = .returned (.int .i64 0) ∧ Kept w w' := by
  have HL : Hid (∀ W, Calls Tryz.prog 79 #[(refV i).val] W fun e w' => e = .returned (.int .i64 0) ∧ Kept W w') := fun W => lookedInto_ok i hi W
  obtain ⟨k, a, b, c, n, x, y⟩ := o
  unfold OP.val
  unfold refV V.val at *
  dsimp only at *
  subst hk hj
  generalize floatOfInt .f64 ((i : Int) + 1) = fx at *
  have q0 := fun (B : Array Value) (t : TypeId) => (((Kept.refl w).alloc B t).cell (a := ⟨g, j * 2, none⟩) hg).trans c0
  have q1 := fun (B : Array Value) (t : TypeId) => (((Kept.refl w).alloc B t).cell (a := ⟨g, j * 2 + 1, none⟩) hg).trans c1
  clear c0 c1
  go_enter Tryz.func55, Tryz.ntmps55
  go_wp2_with fail
  refine (HL.out _).mono ?_
  rintro e w2 ⟨rfl, K⟩
  have K2 : Hid (Kept w w2) := ((Kept.refl w).alloc _ _).trans K
  clear K q0 q1
  go_wp2
  go_ret
  exact ⟨rfl, K2.out⟩

set_option maxHeartbeats 1000000 in
theorem operands_11 (o : OP) (hk : o.k = 11) (j : Nat) (hj : o.b = (j : Int)) {g m cap : Nat} (hm : j < m) (i : Nat) (hi : i ≤ 1000000) (w : World) (hg : g < w.heap.size) (c0 : w.cell? ⟨g, j * 2, none⟩ = some (.bool (refV i).r)) (c1 : w.cell? ⟨g, j * 2 + 1, none⟩ = some (.complex .f64 (refV i).x (refV i).y)) :
    Calls Tryz.prog 55 #[.slice (some ⟨g, 0, none⟩) m cap, o.val] w fun e w' => e = .returned (.int .i64 0) ∧ Kept w w' := by
  have HL : Hid (∀ W, Calls Tryz.prog 79 #[(refV i).val] W fun e w' => e = .returned (.int .i64 0) ∧ Kept W w') := fun W => lookedInto_ok i hi W
  obtain ⟨k, a, b, c, n, x, y⟩ := o
  unfold OP.val
  unfold refV V.val at *
  dsimp only at *
  subst hk hj
  generalize floatOfInt .f64 ((i : Int) + 1) = fx at *
  have q0 := fun (B : Array Value) (t : TypeId) => (((Kept.refl w).alloc B t).cell (a := ⟨g, j * 2, none⟩) hg).trans c0
  have q1 := fun (B : Array Value) (t : TypeId) => (((Kept.refl w).alloc B t).cell (a := ⟨g, j * 2 + 1, none⟩) hg).trans c1
  clear c0 c1
  go_enter Tryz.func55, Tryz.ntmps55
  go_wp2_with fail
  refine (HL.out _).mono ?_
  rintro e w2 ⟨rfl, K⟩
  have K2 : Hid (Kept w w2) := ((Kept.refl w).alloc _ _).trans K
  clear K q0 q1
  go_wp2
  go_ret
  exact ⟨rfl, K2.out⟩

set_option maxHeartbeats 4000000 in
set_option maxRecDepth 10000 in
theorem refusal_2 {w : World} (h : GrA C w base p F A) (hv : Vs w) (O : C.Ok) (o : OP) (hk : o.k = 2) (hN : ∀ l ∈ lts o.k, Names C o l) (hM : o.k = 1 ∨ o.k = 2 → ∃ kd, Makes C o kd) :
    Calls Tryz.prog 35 #[.pointer (some ⟨p, 0, none⟩), A.lv, o.val, .bool false] w fun e w' => e = .returned (.int .i64 0) ∧ Kept w w' := by
  have HC : Hid (∀ W, Kept w W → Calls Tryz.prog 54 #[C.val (.slice (some ⟨A.sx, 0, none⟩) C.l C.l), o.val] W fun e w' => e = .returned (.int .i64 0) ∧ Kept W w') := fun W q => opcheck_ok C O _ _ A.sh o (by omega) (by omega) hN hM W (hv.keep q) (h.cm.kept q)
  have HO : Hid (∀ W, Kept w W → Calls Tryz.prog 55 #[A.lv, o.val] W fun e w' => e = .returned (.int .i64 0) ∧ Kept W w') := fun W _ => operands_2 A.lv o hk W
  have HG : Hid (GrA C w base p F A) := h
  clear h hv O hN hM
  obtain ⟨k, a, b, c, n, x, y⟩ := o
  unfold OP.val Cf.val at *
  dsimp only at *
  subst hk
  go_enter Tryz.func35, Tryz.ntmps35
  go_wp2_with fail
  generalize hW1 : w.alloc _ = W1
  have B1 : Hid (Blk W1 w.heap.size [.int .i64 ((2 : Nat) : Int), .int .i64 a, .int .i64 b, .int .i64 c, .int .i64 n, .complex .f64 x y]) := by rw [← hW1]; exact Blk.new w _ _
  have K1 : Hid (Kept w W1) := by rw [← hW1]; exact (Kept.refl w).alloc _ _
  clear hW1
  have G1 : Hid (GrA C W1 base p F A) := HG.out.kept K1.out
  have d0 := fun z : KW W1 => z.cell (a := ⟨w.heap.size, 0, none⟩) B1.out.lt (B1.out.at 0 rfl)
  have d1 := fun z : KW W1 => z.cell (a := ⟨w.heap.size, 1, none⟩) B1.out.lt (B1.out.at 1 rfl)
  have d2 := fun z : KW W1 => z.cell (a := ⟨w.heap.size, 2, none⟩) B1.out.lt (B1.out.at 2 rfl)
  have d3 := fun z : KW W1 => z.cell (a := ⟨w.heap.size, 3, none⟩) B1.out.lt (B1.out.at 3 rfl)
  have d4 := fun z : KW W1 => z.cell (a := ⟨w.heap.size, 4, none⟩) B1.out.lt (B1.out.at 4 rfl)
  have d5 := fun z : KW W1 => z.cell (a := ⟨w.heap.size, 5, none⟩) B1.out.lt (B1.out.at 5 rfl)
  have c0 := fun z : KW W1 => z.cell (a := ⟨p, 0, none⟩) G1.out.plt (G1.out.at 0 (v := .int .i64 C.n0) rfl)
  have c1 := fun z : KW W1 => z.cell (a := ⟨p, 1, none⟩) G1.out.plt (G1.out.at 1 (v := .int .i64 C.n1) rfl)
  have c2 := fun z : KW W1 => z.cell (a := ⟨p, 2, none⟩) G1.out.plt (G1.out.at 2 (v := .int .i64 C.n2) rfl)
  have c3 := fun z : KW W1 => z.cell (a := ⟨p, 3, none⟩) G1.out.plt (G1.out.at 3 (v := .int .i64 C.n3) rfl)
  have c4 := fun z : KW W1 => z.cell (a := ⟨p, 4, none⟩) G1.out.plt (G1.out.at 4 (v := .int .i64 C.n4) rfl)
  have c5 := fun z : KW W1 => z.cell (a := ⟨p, 5, none⟩) G1.out.plt (G1.out.at 5 (v := .int .i64 C.n5) rfl)
  have c6 := fun z : KW W1 => z.cell (a := ⟨p, 6, none⟩) G1.out.plt (G1.out.at 6 (v := .int .i64 C.n6) rfl)
  have c7 := fun z : KW W1 => z.cell (a := ⟨p, 7, none⟩) G1.out.plt (G1.out.at 7 (v := .int .i64 C.n7) rfl)
  have c8 := fun z : KW W1 => z.cell (a := ⟨p, 8, none⟩) G1.out.plt (G1.out.at 8 (v := .slice (some ⟨A.sx, 0, none⟩) C.l C.l) rfl)
  refine wp_region_kept (by kernel_rfl) (by kernel_rfl) fun _ => ?_
  repeat (go_big_quiet_step (first | (go_at_call 54; exact kept_of (HC.out _ (K1.out.trans (KW.ok _))))))
  refine wpQuiet_nil ?_
  rintro _ ⟨z, rfl⟩
  have K2 : Hid (Kept w z.it) := K1.out.trans z.ok
  have B2 : Hid (Blk z.it w.heap.size [.int .i64 ((2 : Nat) : Int), .int .i64 a, .int .i64 b, .int .i64 c, .int .i64 n, .complex .f64 x y]) := B1.out.kept z.ok
  clear d0 d1 d2 d3 d4 d5 c0 c1 c2 c3 c4 c5 c6 c7 c8 G1 B1 K1
  generalize z.it = w2 at *
  have d0 := B2.out.at 0 rfl
  have d1 := B2.out.at 1 rfl
  have d2 := B2.out.at 2 rfl
  have d3 := B2.out.at 3 rfl
  have d4 := B2.out.at 4 rfl
  have d5 := B2.out.at 5 rfl
  go_wp2_with fail
  refine (HO.out _ K2.out).mono ?_
  rintro e w3 ⟨rfl, K⟩
  have B3 : Hid (Blk w3 w.heap.size [.int .i64 ((2 : Nat) : Int), .int .i64 a, .int .i64 b, .int .i64 c, .int .i64 n, .complex .f64 x y]) := B2.out.kept K
  have K3 : Hid (Kept w w3) := K2.out.trans K
  clear K d0 d1 d2 d3 d4 d5 B2 K2
  have d0 := B3.out.at 0 rfl
  have d1 := B3.out.at 1 rfl
  have d2 := B3.out.at 2 rfl
  have d3 := B3.out.at 3 rfl
  have d4 := B3.out.at 4 rfl
  have d5 := B3.out.at 5 rfl
  go_wp2
  go_ret
  exact ⟨rfl, K3.out⟩

set_option maxHeartbeats 4000000 in
set_option maxRecDepth 10000 in
theorem refusal_5 {w : World} (h : GrA C w base p F A) (hv : Vs w) (O : C.Ok) (o : OP) (hk : o.k = 5) (hN : ∀ l ∈ lts o.k, Names C o l) (hM : o.k = 1 ∨ o.k = 2 → ∃ kd, Makes C o kd) {vs : List V} (hL : A.L = some vs) {i : Nat} (hi : i < A.E.length) (j : Nat) (hj : j < vs.length) (hb : o.b = (j : Int)) (hvj : vs[j] = refV i) (hA : C.A A.E[i].p.kd = true) (h0 : 0 ≤ o.n) (h1 : o.n < A.E[i].p.ln) :
    Calls Tryz.prog 35 #[.pointer (some ⟨p, 0, none⟩), A.lv, o.val, .bool false] w fun e w' => e = .returned (.int .i64 0) ∧ Kept w w' := by
  have HC : Hid (∀ W, Kept w W → Calls Tryz.prog 54 #[C.val (.slice (some ⟨A.sx, 0, none⟩) C.l C.l), o.val] W fun e w' => e = .returned (.int .i64 0) ∧ Kept W w') := fun W q => opcheck_ok C O _ _ A.sh o (by omega) (by omega) hN hM W (hv.keep q) (h.cm.kept q)
  obtain ⟨lg, lc, hlv, hlg, _, _⟩ := h.lhere hL (by omega)
  have HO : Hid (∀ W, Kept w W → Calls Tryz.prog 55 #[A.lv, o.val] W fun e w' => e = .returned (.int .i64 0) ∧ Kept W w') := fun W q => by
    have l0 := (h.kept q).local hL hlv (a := j) (j := 0) hj (u := .bool (refV i).r) (by rw [hvj]; rfl)
    have l1 := (h.kept q).local hL hlv (a := j) (j := 1) hj (u := .complex .f64 (refV i).x (refV i).y) (by rw [hvj]; rfl)
    rw [hlv]
    exact operands_5 o hk j hb hj i (by have := h.few; omega) W (Nat.lt_of_lt_of_le hlg q.size) l0 l1
  obtain ⟨g, cap, hg, hgl, _⟩ := h.here hi
  have HM : Hid (∀ W, Kept w W → Calls Tryz.prog 56 #[.pointer (some ⟨p, 0, none⟩), (refV i).val, o.val] W fun e w' => e = .returned (.int .i64 0) ∧ Kept W w') := fun W q => missing_arr (h.kept q) O hi o hk hA h0 h1
  have HV : Hid (lg < w.heap.size ∧ w.cell? ⟨lg, j * 2, none⟩ = some (.bool (refV i).r) ∧ w.cell? ⟨lg, j * 2 + 1, none⟩ = some (.complex .f64 (refV i).x (refV i).y)) :=
    ⟨hlg, h.local hL hlv (a := j) (j := 0) hj (by rw [hvj]; rfl), h.local hL hlv (a := j) (j := 1) hj (by rw [hvj]; rfl)⟩
  rw [hlv] at HO ⊢
  clear hlg hgl hvj hlv hg hL hA h0 h1
  generalize vs.length = vl at *
  have HG : Hid (GrA C w base p F A) := h
  clear h hv O hN hM
  obtain ⟨k, a, b, c, n, x, y⟩ := o
  unfold OP.val Cf.val at *
  dsimp only at *
  subst hk hb
  unfold refV V.val at *
  dsimp only at *
  generalize floatOfInt .f64 ((i : Int) + 1) = fx at *
  go_enter Tryz.func35, Tryz.ntmps35
  go_wp2_with fail
  generalize hW1 : w.alloc _ = W1
  have B1 : Hid (Blk W1 w.heap.size [.int .i64 ((5 : Nat) : Int), .int .i64 a, .int .i64 j, .int .i64 c, .int .i64 n, .complex .f64 x y]) := by rw [← hW1]; exact Blk.new w _ _
  have K1 : Hid (Kept w W1) := by rw [← hW1]; exact (Kept.refl w).alloc _ _
  clear hW1
  have G1 : Hid (GrA C W1 base p F A) := HG.out.kept K1.out
  have d0 := fun z : KW W1 => z.cell (a := ⟨w.heap.size, 0, none⟩) B1.out.lt (B1.out.at 0 rfl)
  have d1 := fun z : KW W1 => z.cell (a := ⟨w.heap.size, 1, none⟩) B1.out.lt (B1.out.at 1 rfl)
  have d2 := fun z : KW W1 => z.cell (a := ⟨w.heap.size, 2, none⟩) B1.out.lt (B1.out.at 2 rfl)
  have d3 := fun z : KW W1 => z.cell (a := ⟨w.heap.size, 3, none⟩) B1.out.lt (B1.out.at 3 rfl)
  have d4 := fun z : KW W1 => z.cell (a := ⟨w.heap.size, 4, none⟩) B1.out.lt (B1.out.at 4 rfl)
  have d5 := fun z : KW W1 => z.cell (a := ⟨w.heap.size, 5, none⟩) B1.out.lt (B1.out.at 5 rfl)
  have c0 := fun z : KW W1 => z.cell (a := ⟨p, 0, none⟩) G1.out.plt (G1.out.at 0 (v := .int .i64 C.n0) rfl)
  have c1 := fun z : KW W1 => z.cell (a := ⟨p, 1, none⟩) G1.out.plt (G1.out.at 1 (v := .int .i64 C.n1) rfl)
  have c2 := fun z : KW W1 => z.cell (a := ⟨p, 2, none⟩) G1.out.plt (G1.out.at 2 (v := .int .i64 C.n2) rfl)
  have c3 := fun z : KW W1 => z.cell (a := ⟨p, 3, none⟩) G1.out.plt (G1.out.at 3 (v := .int .i64 C.n3) rfl)
  have c4 := fun z : KW W1 => z.cell (a := ⟨p, 4, none⟩) G1.out.plt (G1.out.at 4 (v := .int .i64 C.n4) rfl)
  have c5 := fun z : KW W1 => z.cell (a := ⟨p, 5, none⟩) G1.out.plt (G1.out.at 5 (v := .int .i64 C.n5) rfl)
  have c6 := fun z : KW W1 => z.cell (a := ⟨p, 6, none⟩) G1.out.plt (G1.out.at 6 (v := .int .i64 C.n6) rfl)
  have c7 := fun z : KW W1 => z.cell (a := ⟨p, 7, none⟩) G1.out.plt (G1.out.at 7 (v := .int .i64 C.n7) rfl)
  have c8 := fun z : KW W1 => z.cell (a := ⟨p, 8, none⟩) G1.out.plt (G1.out.at 8 (v := .slice (some ⟨A.sx, 0, none⟩) C.l C.l) rfl)
  refine wp_region_kept (by kernel_rfl) (by kernel_rfl) fun _ => ?_
  repeat (go_big_quiet_step (first | (go_at_call 54; exact kept_of (HC.out _ (K1.out.trans (KW.ok _))))))
  refine wpQuiet_nil ?_
  rintro _ ⟨z, rfl⟩
  have K2 : Hid (Kept w z.it) := K1.out.trans z.ok
  have B2 : Hid (Blk z.it w.heap.size [.int .i64 ((5 : Nat) : Int), .int .i64 a, .int .i64 j, .int .i64 c, .int .i64 n, .complex .f64 x y]) := B1.out.kept z.ok
  clear d0 d1 d2 d3 d4 d5 c0 c1 c2 c3 c4 c5 c6 c7 c8 G1 B1 K1
  generalize z.it = w2 at *
  have d0 := B2.out.at 0 rfl
  have d1 := B2.out.at 1 rfl
  have d2 := B2.out.at 2 rfl
  have d3 := B2.out.at 3 rfl
  have d4 := B2.out.at 4 rfl
  have d5 := B2.out.at 5 rfl
  go_wp2_with fail
  refine (HO.out _ K2.out).mono ?_
  rintro e w3 ⟨rfl, K⟩
  have B3 : Hid (Blk w3 w.heap.size [.int .i64 ((5 : Nat) : Int), .int .i64 a, .int .i64 j, .int .i64 c, .int .i64 n, .complex .f64 x y]) := B2.out.kept K
  have K3 : Hid (Kept w w3) := K2.out.trans K
  clear K d0 d1 d2 d3 d4 d5 B2 K2
  have d0 := B3.out.at 0 rfl
  have d1 := B3.out.at 1 rfl
  have d2 := B3.out.at 2 rfl
  have d3 := B3.out.at 3 rfl
  have d4 := B3.out.at 4 rfl
  have d5 := B3.out.at 5 rfl
  go_wp2_with fail
  clear d0 d1 d2 d3 d4 d5
  have d0 := fun z : KW w3 => z.cell (a := ⟨w.heap.size, 0, none⟩) B3.out.lt (B3.out.at 0 rfl)
  have d1 := fun z : KW w3 => z.cell (a := ⟨w.heap.size, 1, none⟩) B3.out.lt (B3.out.at 1 rfl)
  have d2 := fun z : KW w3 => z.cell (a := ⟨w.heap.size, 2, none⟩) B3.out.lt (B3.out.at 2 rfl)
  have d3 := fun z : KW w3 => z.cell (a := ⟨w.heap.size, 3, none⟩) B3.out.lt (B3.out.at 3 rfl)
  have d4 := fun z : KW w3 => z.cell (a := ⟨w.heap.size, 4, none⟩) B3.out.lt (B3.out.at 4 rfl)
  have d5 := fun z : KW w3 => z.cell (a := ⟨w.heap.size, 5, none⟩) B3.out.lt (B3.out.at 5 rfl)
  have v0 := fun z : KW w3 => z.cell (a := ⟨lg, j * 2, none⟩) (Nat.lt_of_lt_of_le HV.out.1 K3.out.size) ((K3.out.cell HV.out.1).trans HV.out.2.1)
  have v1 := fun z : KW w3 => z.cell (a := ⟨lg, j * 2 + 1, none⟩) (Nat.lt_of_lt_of_le HV.out.1 K3.out.size) ((K3.out.cell HV.out.1).trans HV.out.2.2)
  refine wp_region_kept (by kernel_rfl) (by kernel_rfl) fun _ => ?_
  repeat (go_big_quiet_step (first | (go_at_call 56; exact kept_of (HM.out _ (K3.out.trans (KW.ok _))))))
  refine wpQuiet_nil ?_
  rintro _ ⟨z, rfl⟩
  have K4 : Hid (Kept w z.it) := K3.out.trans z.ok
  clear d0 d1 d2 d3 d4 d5 v0 v1 B3 K3
  go_wp2
  go_ret
  exact ⟨rfl, K4.out⟩

set_option maxHeartbeats 4000000 in
set_option maxRecDepth 10000 in
theorem refusal_10 {w : World} (h : GrA C w base p F A) (hv : Vs w) (O : C.Ok) (o : OP) (hk : o.k = 10) (hN : ∀ l ∈ lts o.k, Names C o l) (hM : o.k = 1 ∨ o.k = 2 → ∃ kd, Makes C o kd) {vs : List V} (hL : A.L = some vs) {i : Nat} (hi : i < A.E.length) (j : Nat) (hj : j < vs.length) (hb : o.b = (j : Int)) (hvj : vs[j] = refV i) (hA : C.A A.E[i].p.kd = true) :
    Calls Tryz.prog 35 #[.pointer (some ⟨p, 0, none⟩), A.lv, o.val, .bool false] w fun e w' => e = .returned (.int .i64 0) ∧ Kept w w' := by
  have HC : Hid (∀ W, Kept w W → Calls Tryz.prog 54 #[C.val (.slice (some ⟨A.sx, 0, none⟩) C.l C.l), o.val] W fun e w' => e = .returned (.int .i64 0) ∧ Kept W w') := fun W q => opcheck_ok C O _ _ A.sh o (by omega) (by omega) hN hM W (hv.keep q) (h.cm.kept q)
  obtain ⟨lg, lc, hlv, hlg, _, _⟩ := h.lhere hL (by omega)
  have HO : Hid (∀ W, Kept w W → Calls Tryz.prog 55 #[A.lv, o.val] W fun e w' => e = .returned (.int .i64 0) ∧ Kept W w') := fun W q => by
    have l0 := (h.kept q).local hL hlv (a := j) (j := 0) hj (u := .bool (refV i).r) (by rw [hvj]; rfl)
    have l1 := (h.kept q).local hL hlv (a := j) (j := 1) hj (u := .complex .f64 (refV i).x (refV i).y) (by rw [hvj]; rfl)
    rw [hlv]
    exact operands_10 o hk j hb hj i (by have := h.few; omega) W (Nat.lt_of_lt_of_le hlg q.size) l0 l1
  obtain ⟨g, cap, hg, hgl, _⟩ := h.here hi
  have HT : Hid (∀ W, Kept w W → Calls Tryz.prog 36 #[.pointer (some ⟨p, 0, none⟩), (refV i).val] W fun e w' => e = .returned (.pointer (some ⟨g, i * 3, none⟩)) ∧ Kept W w') := fun W q => thing_any (h.kept q) hi hg
  have HS : Hid (∀ W, Kept w W → Calls Tryz.prog 45 #[.pointer (some ⟨p, 0, none⟩), .pointer (some ⟨g, i * 3, none⟩)] W fun e w' => e = .returned (.agg #[.bool true, .slice (A.sh A.E[i].p.kd).x (C.L A.E[i].p.kd) (A.sh A.E[i].p.kd).c]) ∧ Kept W w') := fun W q => by
    have := gshape_any (h.kept q) O hi hg
    rw [hA] at this
    exact this
  have HV : Hid (lg < w.heap.size ∧ w.cell? ⟨lg, j * 2, none⟩ = some (.bool (refV i).r) ∧ w.cell? ⟨lg, j * 2 + 1, none⟩ = some (.complex .f64 (refV i).x (refV i).y)) :=
    ⟨hlg, h.local hL hlv (a := j) (j := 0) hj (by rw [hvj]; rfl), h.local hL hlv (a := j) (j := 1) hj (by rw [hvj]; rfl)⟩
  rw [hlv] at HO ⊢
  clear hlg hgl hvj hlv hg hL hA
  generalize vs.length = vl at *
  have HG : Hid (GrA C w base p F A) := h
  clear h hv O hN hM
  obtain ⟨k, a, b, c, n, x, y⟩ := o
  unfold OP.val Cf.val at *
  dsimp only at *
  subst hk hb
  unfold refV V.val at *
  dsimp only at *
  generalize floatOfInt .f64 ((i : Int) + 1) = fx at *
  go_enter Tryz.func35, Tryz.ntmps35
  go_wp2_with fail
  generalize hW1 : w.alloc _ = W1
  have B1 : Hid (Blk W1 w.heap.size [.int .i64 ((10 : Nat) : Int), .int .i64 a, .int .i64 j, .int .i64 c, .int .i64 n, .complex .f64 x y]) := by rw [← hW1]; exact Blk.new w _ _
  have K1 : Hid (Kept w W1) := by rw [← hW1]; exact (Kept.refl w).alloc _ _
  clear hW1
  have G1 : Hid (GrA C W1 base p F A) := HG.out.kept K1.out
  have d0 := fun z : KW W1 => z.cell (a := ⟨w.heap.size, 0, none⟩) B1.out.lt (B1.out.at 0 rfl)
  have d1 := fun z : KW W1 => z.cell (a := ⟨w.heap.size, 1, none⟩) B1.out.lt (B1.out.at 1 rfl)
  have d2 := fun z : KW W1 => z.cell (a := ⟨w.heap.size, 2, none⟩) B1.out.lt (B1.out.at 2 rfl)
  have d3 := fun z : KW W1 => z.cell (a := ⟨w.heap.size, 3, none⟩) B1.out.lt (B1.out.at 3 rfl)
  have d4 := fun z : KW W1 => z.cell (a := ⟨w.heap.size, 4, none⟩) B1.out.lt (B1.out.at 4 rfl)
  have d5 := fun z : KW W1 => z.cell (a := ⟨w.heap.size, 5, none⟩) B1.out.lt (B1.out.at 5 rfl)
  have c0 := fun z : KW W1 => z.cell (a := ⟨p, 0, none⟩) G1.out.plt (G1.out.at 0 (v := .int .i64 C.n0) rfl)
  have c1 := fun z : KW W1 => z.cell (a := ⟨p, 1, none⟩) G1.out.plt (G1.out.at 1 (v := .int .i64 C.n1) rfl)
  have c2 := fun z : KW W1 => z.cell (a := ⟨p, 2, none⟩) G1.out.plt (G1.out.at 2 (v := .int .i64 C.n2) rfl)
  have c3 := fun z : KW W1 => z.cell (a := ⟨p, 3, none⟩) G1.out.plt (G1.out.at 3 (v := .int .i64 C.n3) rfl)
  have c4 := fun z : KW W1 => z.cell (a := ⟨p, 4, none⟩) G1.out.plt (G1.out.at 4 (v := .int .i64 C.n4) rfl)
  have c5 := fun z : KW W1 => z.cell (a := ⟨p, 5, none⟩) G1.out.plt (G1.out.at 5 (v := .int .i64 C.n5) rfl)
  have c6 := fun z : KW W1 => z.cell (a := ⟨p, 6, none⟩) G1.out.plt (G1.out.at 6 (v := .int .i64 C.n6) rfl)
  have c7 := fun z : KW W1 => z.cell (a := ⟨p, 7, none⟩) G1.out.plt (G1.out.at 7 (v := .int .i64 C.n7) rfl)
  have c8 := fun z : KW W1 => z.cell (a := ⟨p, 8, none⟩) G1.out.plt (G1.out.at 8 (v := .slice (some ⟨A.sx, 0, none⟩) C.l C.l) rfl)
  refine wp_region_kept (by kernel_rfl) (by kernel_rfl) fun _ => ?_
  repeat (go_big_quiet_step (first | (go_at_call 54; exact kept_of (HC.out _ (K1.out.trans (KW.ok _))))))
  refine wpQuiet_nil ?_
  rintro _ ⟨z, rfl⟩
  have K2 : Hid (Kept w z.it) := K1.out.trans z.ok
  have B2 : Hid (Blk z.it w.heap.size [.int .i64 ((10 : Nat) : Int), .int .i64 a, .int .i64 j, .int .i64 c, .int .i64 n, .complex .f64 x y]) := B1.out.kept z.ok
  clear d0 d1 d2 d3 d4 d5 c0 c1 c2 c3 c4 c5 c6 c7 c8 G1 B1 K1
  generalize z.it = w2 at *
  have d0 := B2.out.at 0 rfl
  have d1 := B2.out.at 1 rfl
  have d2 := B2.out.at 2 rfl
  have d3 := B2.out.at 3 rfl
  have d4 := B2.out.at 4 rfl
  have d5 := B2.out.at 5 rfl
  go_wp2_with fail
  refine (HO.out _ K2.out).mono ?_
  rintro e w3 ⟨rfl, K⟩
  have B3 : Hid (Blk w3 w.heap.size [.int .i64 ((10 : Nat) : Int), .int .i64 a, .int .i64 j, .int .i64 c, .int .i64 n, .complex .f64 x y]) := B2.out.kept K
  have K3 : Hid (Kept w w3) := K2.out.trans K
  clear K d0 d1 d2 d3 d4 d5 B2 K2
  have d0 := B3.out.at 0 rfl
  have d1 := B3.out.at 1 rfl
  have d2 := B3.out.at 2 rfl
  have d3 := B3.out.at 3 rfl
  have d4 := B3.out.at 4 rfl
  have d5 := B3.out.at 5 rfl
  have v0 := (K3.out.cell (a := ⟨lg, j * 2, none⟩) HV.out.1).trans HV.out.2.1
  have v1 := (K3.out.cell (a := ⟨lg, j * 2 + 1, none⟩) HV.out.1).trans HV.out.2.2
  go_wp2_with fail
  refine (HT.out _ K3.out).mono ?_
  rintro e w4 ⟨rfl, K⟩
  have K4 : Hid (Kept w w4) := K3.out.trans K
  clear d0 d1 d2 d3 d4 d5 v0 v1 B3 K3 K
  go_wp2_with fail
  refine (HS.out _ K4.out).mono ?_
  rintro e w5 ⟨rfl, K⟩
  have K5 : Hid (Kept w w5) := K4.out.trans K
  clear K K4
  have hfl := field_arr
  go_wp2_with fail
  go_ret
  exact ⟨rfl, K5.out⟩

set_option maxHeartbeats 4000000 in
set_option maxRecDepth 10000 in
theorem refusal_11 {w : World} (h : GrA C w base p F A) (hv : Vs w) (O : C.Ok) (o : OP) (hk : o.k = 11) (hN : ∀ l ∈ lts o.k, Names C o l) (hM : o.k = 1 ∨ o.k = 2 → ∃ kd, Makes C o kd) {vs : List V} (hL : A.L = some vs) {i : Nat} (hi : i < A.E.length) (j : Nat) (hj : j < vs.length) (hb : o.b = (j : Int)) (hvj : vs[j] = refV i) :
    Calls Tryz.prog 35 #[.pointer (some ⟨p, 0, none⟩), A.lv, o.val, .bool false] w fun e w' => e = .returned (.int .i64 0) ∧ Kept w w' := by
  have HC : Hid (∀ W, Kept w W → Calls Tryz.prog 54 #[C.val (.slice (some ⟨A.sx, 0, none⟩) C.l C.l), o.val] W fun e w' => e = .returned (.int .i64 0) ∧ Kept W w') := fun W q => opcheck_ok C O _ _ A.sh o (by omega) (by omega) hN hM W (hv.keep q) (h.cm.kept q)
  obtain ⟨lg, lc, hlv, hlg, _, _⟩ := h.lhere hL (by omega)
  have HO : Hid (∀ W, Kept w W → Calls Tryz.prog 55 #[A.lv, o.val] W fun e w' => e = .returned (.int .i64 0) ∧ Kept W w') := fun W q => by
    have l0 := (h.kept q).local hL hlv (a := j) (j := 0) hj (u := .bool (refV i).r) (by rw [hvj]; rfl)
    have l1 := (h.kept q).local hL hlv (a := j) (j := 1) hj (u := .complex .f64 (refV i).x (refV i).y) (by rw [hvj]; rfl)
    rw [hlv]
    exact operands_11 o hk j hb hj i (by have := h.few; omega) W (Nat.lt_of_lt_of_le hlg q.size) l0 l1
  rw [hlv] at HO ⊢
  clear hlg hvj hlv hL
  generalize vs.length = vl at *
  have HG : Hid (GrA C w base p F A) := h
  clear h hv O hN hM
  obtain ⟨k, a, b, c, n, x, y⟩ := o
  unfold OP.val Cf.val at *
  dsimp only at *
  subst hk hb
  go_enter Tryz.func35, Tryz.ntmps35
  go_wp2_with fail
  generalize hW1 : w.alloc _ = W1
  have B1 : Hid (Blk W1 w.heap.size [.int .i64 ((11 : Nat) : Int), .int .i64 a, .int .i64 j, .int .i64 c, .int .i64 n, .complex .f64 x y]) := by rw [← hW1]; exact Blk.new w _ _
  have K1 : Hid (Kept w W1) := by rw [← hW1]; exact (Kept.refl w).alloc _ _
  clear hW1
  have G1 : Hid (GrA C W1 base p F A) := HG.out.kept K1.out
  have d0 := fun z : KW W1 => z.cell (a := ⟨w.heap.size, 0, none⟩) B1.out.lt (B1.out.at 0 rfl)
  have d1 := fun z : KW W1 => z.cell (a := ⟨w.heap.size, 1, none⟩) B1.out.lt (B1.out.at 1 rfl)
  have d2 := fun z : KW W1 => z.cell (a := ⟨w.heap.size, 2, none⟩) B1.out.lt (B1.out.at 2 rfl)
  have d3 := fun z : KW W1 => z.cell (a := ⟨w.heap.size, 3, none⟩) B1.out.lt (B1.out.at 3 rfl)
  have d4 := fun z : KW W1 => z.cell (a := ⟨w.heap.size, 4, none⟩) B1.out.lt (B1.out.at 4 rfl)
  have d5 := fun z : KW W1 => z.cell (a := ⟨w.heap.size, 5, none⟩) B1.out.lt (B1.out.at 5 rfl)
  have c0 := fun z : KW W1 => z.cell (a := ⟨p, 0, none⟩) G1.out.plt (G1.out.at 0 (v := .int .i64 C.n0) rfl)
  have c1 := fun z : KW W1 => z.cell (a := ⟨p, 1, none⟩) G1.out.plt (G1.out.at 1 (v := .int .i64 C.n1) rfl)
  have c2 := fun z : KW W1 => z.cell (a := ⟨p, 2, none⟩) G1.out.plt (G1.out.at 2 (v := .int .i64 C.n2) rfl)
  have c3 := fun z : KW W1 => z.cell (a := ⟨p, 3, none⟩) G1.out.plt (G1.out.at 3 (v := .int .i64 C.n3) rfl)
  have c4 := fun z : KW W1 => z.cell (a := ⟨p, 4, none⟩) G1.out.plt (G1.out.at 4 (v := .int .i64 C.n4) rfl)
  have c5 := fun z : KW W1 => z.cell (a := ⟨p, 5, none⟩) G1.out.plt (G1.out.at 5 (v := .int .i64 C.n5) rfl)
  have c6 := fun z : KW W1 => z.cell (a := ⟨p, 6, none⟩) G1.out.plt (G1.out.at 6 (v := .int .i64 C.n6) rfl)
  have c7 := fun z : KW W1 => z.cell (a := ⟨p, 7, none⟩) G1.out.plt (G1.out.at 7 (v := .int .i64 C.n7) rfl)
  have c8 := fun z : KW W1 => z.cell (a := ⟨p, 8, none⟩) G1.out.plt (G1.out.at 8 (v := .slice (some ⟨A.sx, 0, none⟩) C.l C.l) rfl)
  refine wp_region_kept (by kernel_rfl) (by kernel_rfl) fun _ => ?_
  repeat (go_big_quiet_step (first | (go_at_call 54; exact kept_of (HC.out _ (K1.out.trans (KW.ok _))))))
  refine wpQuiet_nil ?_
  rintro _ ⟨z, rfl⟩
  have K2 : Hid (Kept w z.it) := K1.out.trans z.ok
  have B2 : Hid (Blk z.it w.heap.size [.int .i64 ((11 : Nat) : Int), .int .i64 a, .int .i64 j, .int .i64 c, .int .i64 n, .complex .f64 x y]) := B1.out.kept z.ok
  clear d0 d1 d2 d3 d4 d5 c0 c1 c2 c3 c4 c5 c6 c7 c8 G1 B1 K1
  generalize z.it = w2 at *
  have d0 := B2.out.at 0 rfl
  have d1 := B2.out.at 1 rfl
  have d2 := B2.out.at 2 rfl
  have d3 := B2.out.at 3 rfl
  have d4 := B2.out.at 4 rfl
  have d5 := B2.out.at 5 rfl
  go_wp2_with fail
  refine (HO.out _ K2.out).mono ?_
  rintro e w3 ⟨rfl, K⟩
  have B3 : Hid (Blk w3 w.heap.size [.int .i64 ((11 : Nat) : Int), .int .i64 a, .int .i64 j, .int .i64 c, .int .i64 n, .complex .f64 x y]) := B2.out.kept K
  have K3 : Hid (Kept w w3) := K2.out.trans K
  clear K d0 d1 d2 d3 d4 d5 B2 K2
  have d0 := B3.out.at 0 rfl
  have d1 := B3.out.at 1 rfl
  have d2 := B3.out.at 2 rfl
  have d3 := B3.out.at 3 rfl
  have d4 := B3.out.at 4 rfl
  have d5 := B3.out.at 5 rfl
  go_wp2
  go_ret
  exact ⟨rfl, K3.out⟩
end
end Go.Proofs.YtbmcbkebcchjmaaGreatDoor
