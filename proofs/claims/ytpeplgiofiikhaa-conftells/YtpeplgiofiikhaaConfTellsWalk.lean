/-
  ConfTells's walk.
-/
import Derived.Test.YtpeplgiofiikhaaFirst4
import Derived.Test.YtpeplgiofiikhaaOpen
import Derived.Test.YtpeplgiofiikhaaSame4
import Derived.Test.YtpeplgiofiikhaaSoft
namespace Go.Proofs.Ytpeplgiofiikhaa
open Go.RowKit

set_option maxHeartbeats 2000000 in
theorem tells_many (n0 n1 n2 n3 n4 n5 n6 n7 : Int) (x : Option Addr) (l c : Nat) (S : Nat → Sh) (n9 : Int) (w : World) (hS : Shps w x l S) (hf : ¬ Small l S) :
    Calls Try.prog 3 #[.agg #[.int .i64 n0, .int .i64 n1, .int .i64 n2, .int .i64 n3, .int .i64 n4, .int .i64 n5, .int .i64 n6, .int .i64 n7, .slice x l c], .int .i64 n9] w fun e w' => e = .returned (.bool true) ∧ Kept w w' := by
  have HS : Hid (Shps w x l S) := hS
  have F : Hid (∀ w, Shps w x l S → _) := fun w h => few_any n0 n1 n2 n3 n4 n5 n6 n7 x l c S false w h (by simp [hf])
  clear hS
  go_enter Try.func3, Try.ntmps3
  go_wp2_with fail
  generalize hW1 : w.alloc _ = W1
  have B1 : Hid (Blk W1 w.heap.size (cl n0 n1 n2 n3 n4 n5 n6 n7 (.slice x l c))) := by rw [← hW1]; exact Blk.new w _ _
  have K1 : Hid (Kept w W1) := by rw [← hW1]; exact (Kept.refl w).alloc _ _
  clear hW1
  refine (first_any _).mono ?_
  rintro e w2 ⟨rfl, K⟩
  have B2 : Hid (Blk w2 w.heap.size _) := B1.out.kept K
  have K2 : Hid (Kept w w2) := K1.out.trans K
  clear K K1 B1
  have c0 := B2.out.at 0 rfl
  have c1 := B2.out.at 1 rfl
  have c2 := B2.out.at 2 rfl
  have c3 := B2.out.at 3 rfl
  have c4 := B2.out.at 4 rfl
  have c5 := B2.out.at 5 rfl
  have c6 := B2.out.at 6 rfl
  have c7 := B2.out.at 7 rfl
  have c8 := B2.out.at 8 rfl
  go_wp2_with fail
  refine (F.out _ (HS.out.kept K2.out)).mono ?_
  rintro e w3 ⟨rfl, K⟩
  have B3 : Hid (Blk w3 w.heap.size _) := B2.out.kept K
  have K3 : Hid (Kept w w3) := K2.out.trans K
  clear K K2 B2 c0 c1 c2 c3 c4 c5 c6 c7 c8
  go_wp2_with fail
  refine (first_any _).mono ?_
  rintro e w5 ⟨rfl, K⟩
  have K5 : Hid (Kept w w5) := K3.out.trans K
  clear K
  go_wp2
  go_ret
  exact ⟨rfl, K5.out⟩

set_option maxHeartbeats 8000000 in
theorem tells_good (n0 n1 n2 n3 n4 n5 n6 n7 : Int) (x : Option Addr) (l c : Nat) (S : Nat → Sh) (R : Nat → Nat → Bool) (n9 : Int) (b ok : Bool) (sl : Nat) (w : World) (hS : Shps w x l S) (hR : ∀ i, i < l → Refs w (S i).x (S i).l (R i)) (hf : Small l S)
    (h10 : ∀ w', Kept w w' → Calls Try.prog 10 #[.agg #[.int .i64 n0, .int .i64 n1, .int .i64 n2, .int .i64 n3, .int .i64 n4, .int .i64 n5, .int .i64 n6, .int .i64 n7, .slice x l c], .int .i64 n9] w' fun e w'' => ∃ sx sc, e = .returned (.tuple #[.agg #[.bool b, .slice sx sl sc], .bool ok]) ∧ Kept w' w'')
    (h11 : ∀ w', Kept w w' → Calls Try.prog 11 #[.agg #[.int .i64 n0, .int .i64 n1, .int .i64 n2, .int .i64 n3, .int .i64 n4, .int .i64 n5, .int .i64 n6, .int .i64 n7, .slice x l c], .int .i64 n9] w' fun e w'' => ∃ sx sc, e = .returned (.tuple #[.agg #[.bool b, .slice sx sl sc], .bool ok]) ∧ Kept w' w'') :
    Calls Try.prog 3 #[.agg #[.int .i64 n0, .int .i64 n1, .int .i64 n2, .int .i64 n3, .int .i64 n4, .int .i64 n5, .int .i64 n6, .int .i64 n7, .slice x l c], .int .i64 n9] w fun e w' => e = .returned (.bool true) ∧ Kept w w' := by
  have HS : Hid (Shps w x l S) := hS
  have F : Hid (∀ w, Shps w x l S → _) := fun w h => few_any n0 n1 n2 n3 n4 n5 n6 n7 x l c S true w h (by simp [hf])
  obtain ⟨r, hr, hr3⟩ := Checks.some n0 n1 n2 n3 n4 n5 n6 n7 l S
  have HR : Hid (∀ i, i < l → Refs w (S i).x (S i).l (R i)) := hR
  have HF : Hid (Small l S ∧ Checks n0 n1 n2 n3 n4 n5 n6 n7 l S r) := ⟨hf, hr⟩
  have SO : Hid (∀ w', Kept w w' → Calls Try.prog 10 #[.agg #[.int .i64 n0, .int .i64 n1, .int .i64 n2, .int .i64 n3, .int .i64 n4, .int .i64 n5, .int .i64 n6, .int .i64 n7, .slice x l c], .int .i64 n9] w' fun e w'' => ∃ sx sc, e = .returned (.tuple #[.agg #[.bool b, .slice sx sl sc], .bool ok]) ∧ Kept w' w'') := h10
  have TS : Hid (∀ w', Kept w w' → Calls Try.prog 11 #[.agg #[.int .i64 n0, .int .i64 n1, .int .i64 n2, .int .i64 n3, .int .i64 n4, .int .i64 n5, .int .i64 n6, .int .i64 n7, .slice x l c], .int .i64 n9] w' fun e w'' => ∃ sx sc, e = .returned (.tuple #[.agg #[.bool b, .slice sx sl sc], .bool ok]) ∧ Kept w' w'') := h11
  clear hS hR hf hr hr3 h10 h11
  go_enter Try.func3, Try.ntmps3
  go_wp2_with fail
  generalize hW1 : w.alloc _ = W1
  have B1 : Hid (Blk W1 w.heap.size (cl n0 n1 n2 n3 n4 n5 n6 n7 (.slice x l c))) := by rw [← hW1]; exact Blk.new w _ _
  have K1 : Hid (Kept w W1) := by rw [← hW1]; exact (Kept.refl w).alloc _ _
  clear hW1
  refine (first_any _).mono ?_
  rintro e w2 ⟨rfl, K⟩
  have B2 : Hid (Blk w2 w.heap.size _) := B1.out.kept K
  have K2 : Hid (Kept w w2) := K1.out.trans K
  clear K K1 B1
  have c0 := B2.out.at 0 rfl
  have c1 := B2.out.at 1 rfl
  have c2 := B2.out.at 2 rfl
  have c3 := B2.out.at 3 rfl
  have c4 := B2.out.at 4 rfl
  have c5 := B2.out.at 5 rfl
  have c6 := B2.out.at 6 rfl
  have c7 := B2.out.at 7 rfl
  have c8 := B2.out.at 8 rfl
  go_wp2_with fail
  refine (F.out _ (HS.out.kept K2.out)).mono ?_
  rintro e w3 ⟨rfl, K⟩
  have B3 : Hid (Blk w3 w.heap.size _) := B2.out.kept K
  have K3 : Hid (Kept w w3) := K2.out.trans K
  clear K K2 B2 c0 c1 c2 c3 c4 c5 c6 c7 c8
  have c0 := B3.out.at 0 rfl
  have c1 := B3.out.at 1 rfl
  have c2 := B3.out.at 2 rfl
  have c3 := B3.out.at 3 rfl
  have c4 := B3.out.at 4 rfl
  have c5 := B3.out.at 5 rfl
  have c6 := B3.out.at 6 rfl
  have c7 := B3.out.at 7 rfl
  have c8 := B3.out.at 8 rfl
  go_wp2_with fail
  refine (SO.out _ K3.out).mono ?_
  rintro e w5 ⟨sx, sc, rfl, K⟩
  have B5 : Hid (Blk w5 w.heap.size _) := B3.out.kept K
  have K5 : Hid (Kept w w5) := K3.out.trans K
  clear K K3 B3 c0 c1 c2 c3 c4 c5 c6 c7 c8 SO
  have c0 := B5.out.at 0 rfl
  have c1 := B5.out.at 1 rfl
  have c2 := B5.out.at 2 rfl
  have c3 := B5.out.at 3 rfl
  have c4 := B5.out.at 4 rfl
  have c5 := B5.out.at 5 rfl
  have c6 := B5.out.at 6 rfl
  have c7 := B5.out.at 7 rfl
  have c8 := B5.out.at 8 rfl
  have q0 := fun (A : Array Value) (t : TypeId) => (((Kept.refl w5).alloc A t).cell (a := ⟨w.heap.size, 0, none⟩) B5.out.lt).trans c0
  have q1 := fun (A : Array Value) (t : TypeId) => (((Kept.refl w5).alloc A t).cell (a := ⟨w.heap.size, 1, none⟩) B5.out.lt).trans c1
  have q2 := fun (A : Array Value) (t : TypeId) => (((Kept.refl w5).alloc A t).cell (a := ⟨w.heap.size, 2, none⟩) B5.out.lt).trans c2
  have q3 := fun (A : Array Value) (t : TypeId) => (((Kept.refl w5).alloc A t).cell (a := ⟨w.heap.size, 3, none⟩) B5.out.lt).trans c3
  have q4 := fun (A : Array Value) (t : TypeId) => (((Kept.refl w5).alloc A t).cell (a := ⟨w.heap.size, 4, none⟩) B5.out.lt).trans c4
  have q5 := fun (A : Array Value) (t : TypeId) => (((Kept.refl w5).alloc A t).cell (a := ⟨w.heap.size, 5, none⟩) B5.out.lt).trans c5
  have q6 := fun (A : Array Value) (t : TypeId) => (((Kept.refl w5).alloc A t).cell (a := ⟨w.heap.size, 6, none⟩) B5.out.lt).trans c6
  have q7 := fun (A : Array Value) (t : TypeId) => (((Kept.refl w5).alloc A t).cell (a := ⟨w.heap.size, 7, none⟩) B5.out.lt).trans c7
  have q8 := fun (A : Array Value) (t : TypeId) => (((Kept.refl w5).alloc A t).cell (a := ⟨w.heap.size, 8, none⟩) B5.out.lt).trans c8
  go_wp2_with fail
  generalize hW : w5.alloc _ = W6
  have k6 : Kept w5 W6 := by rw [← hW]; exact (Kept.refl w5).alloc _ _
  have s6 : Blk W6 w5.heap.size [.bool b, .slice sx sl sc] := by rw [← hW]; exact Blk.new w5 _ _
  have e6 := B5.out.kept k6
  have K6 : Hid (Kept w W6) := K5.out.trans k6
  clear hW k6 q0 q1 q2 q3 q4 q5 q6 q7 q8 c0 c1 c2 c3 c4 c5 c6 c7 c8
  refine (TS.out _ K6.out).mono ?_
  rintro e w7 ⟨tx, tc, rfl, K⟩
  have s7 := s6.kept K
  have e7 := e6.kept K
  have K7 : Hid (Kept w w7) := K6.out.trans K
  clear K s6 e6 TS
  go_wp2_with fail
  generalize hW : w7.alloc _ = W8
  have k8 : Kept w7 W8 := by rw [← hW]; exact (Kept.refl w7).alloc _ _
  have t8 : Blk W8 w7.heap.size [.bool b, .slice tx sl tc] := by rw [← hW]; exact Blk.new w7 _ _
  have s8 := s7.kept k8
  have e8 := e7.kept k8
  have K8 : Hid (Kept w W8) := K7.out.trans k8
  clear hW k8 s7 e7
  have d0 := fun z : KW W8 => z.cell e8.lt (e8.at 0 rfl)
  have d1 := fun z : KW W8 => z.cell e8.lt (e8.at 1 rfl)
  have d2 := fun z : KW W8 => z.cell e8.lt (e8.at 2 rfl)
  have d3 := fun z : KW W8 => z.cell e8.lt (e8.at 3 rfl)
  have d4 := fun z : KW W8 => z.cell e8.lt (e8.at 4 rfl)
  have d5 := fun z : KW W8 => z.cell e8.lt (e8.at 5 rfl)
  have d6 := fun z : KW W8 => z.cell e8.lt (e8.at 6 rfl)
  have d7 := fun z : KW W8 => z.cell e8.lt (e8.at 7 rfl)
  have d8 := fun z : KW W8 => z.cell e8.lt (e8.at 8 rfl)
  have s0 := fun z : KW W8 => z.cell s8.lt (s8.at 0 rfl)
  have s1 := fun z : KW W8 => z.cell s8.lt (s8.at 1 rfl)
  have t0 := fun z : KW W8 => z.cell t8.lt (t8.at 0 rfl)
  have t1 := fun z : KW W8 => z.cell t8.lt (t8.at 1 rfl)
  have F8 : Hid (∀ w', Kept W8 w' → Calls Try.prog 8 #[] w' fun e w'' => e = .returned (.bool true) ∧ Kept w' w'') := fun w' _ => first_any w'
  have C12 : Hid (∀ w', Kept W8 w' → Calls Try.prog 12 #[.agg #[.int .i64 n0, .int .i64 n1, .int .i64 n2, .int .i64 n3, .int .i64 n4, .int .i64 n5, .int .i64 n6, .int .i64 n7, .slice x l c]] w' fun e w'' => e = .returned (.int .i64 r) ∧ Kept w' w'') := fun w' k => check_any n0 n1 n2 n3 n4 n5 n6 n7 x l c S r w' (HS.out.kept (K8.out.trans k)) HF.out.2
  have C13 : Hid (∀ w', Kept W8 w' → Calls Try.prog 13 #[.agg #[.int .i64 n0, .int .i64 n1, .int .i64 n2, .int .i64 n3, .int .i64 n4, .int .i64 n5, .int .i64 n6, .int .i64 n7, .slice x l c]] w' fun e w'' => e = .returned (.int .i64 r) ∧ Kept w' w'') := fun w' k => ref_check n0 n1 n2 n3 n4 n5 n6 n7 x l c S r w' (HS.out.kept (K8.out.trans k)) HF.out.2
  have C15 : Hid (∀ w', Kept W8 w' → Calls Try.prog 15 #[.agg #[.int .i64 n0, .int .i64 n1, .int .i64 n2, .int .i64 n3, .int .i64 n4, .int .i64 n5, .int .i64 n6, .int .i64 n7, .slice x l c]] w' fun e w'' => ∃ (g : Nat) (T : Nat → Sh), e = .returned (.agg #[.int .i64 n0, .int .i64 n1, .int .i64 n2, .int .i64 n3, .int .i64 n4, .int .i64 n5, .int .i64 n6, .int .i64 n7, .slice (some ⟨g, 0, none⟩) l l]) ∧ w''.rowIs g 29 (l * 2) (cf T) ∧ (∀ i, i < l → Cop w'' g (S i) (T i) (R i)) ∧ Kept w' w'') := fun w' k => (copy_any n0 n1 n2 n3 n4 n5 n6 n7 x l c S R w' (by have := HF.out.1.1; omega) HF.out.1.2 (HS.out.kept (K8.out.trans k)) (fun i hi => (HR.out i hi).kept (K8.out.trans k))).mono fun e w'' h => by
    obtain ⟨g, T, he, _, hrow, hcop, kk⟩ := h
    exact ⟨g, T, he, hrow, hcop, kk⟩
  have C14 : Hid (∀ (z : KW W8) (g : Nat) (T : Nat → Sh), z.it.rowIs g 29 (l * 2) (cf T) → (∀ i, i < l → Cop z.it g (S i) (T i) (R i)) → Calls Try.prog 14 #[.agg #[.int .i64 n0, .int .i64 n1, .int .i64 n2, .int .i64 n3, .int .i64 n4, .int .i64 n5, .int .i64 n6, .int .i64 n7, .slice (some ⟨g, 0, none⟩) l l], .agg #[.int .i64 n0, .int .i64 n1, .int .i64 n2, .int .i64 n3, .int .i64 n4, .int .i64 n5, .int .i64 n6, .int .i64 n7, .slice x l c]] z.it fun e w'' => e = .returned (.bool true) ∧ Kept z.it w'') := fun z g T hrow hcop =>
    same_conf n0 n1 n2 n3 n4 n5 n6 n7 (some ⟨g, 0, none⟩) x l l c T S R z.it (by have := HF.out.1.1; omega) (row_shps hrow) (HS.out.kept (K8.out.trans z.ok)) (fun i hi => (hcop i hi).1) (fun i hi => (hcop i hi).2.1) HF.out.1.2
      (fun i hi => by obtain ⟨_, _, _, y, e3, _, e5⟩ := hcop i hi; rw [e3]; exact e5) (fun i hi => (HR.out i hi).kept (K8.out.trans z.ok))
  clear e8 s8 t8
  refine wp_region_soft1 (W := W8) (fun u => { tmps := #[.agg #[.int .i64 n0, .int .i64 n1, .int .i64 n2, .int .i64 n3, .int .i64 n4, .int .i64 n5, .int .i64 n6, .int .i64 n7, .slice x l c], .int .i64 n9, .pointer (some ⟨w.heap.size, 0, none⟩), undef, u 35, .pointer (some ⟨w5.heap.size, 0, none⟩), .bool ok, .pointer (some ⟨w7.heap.size, 0, none⟩), .bool ok, .bool true, .bool false, .agg #[.int .i64 n0, .int .i64 n1, .int .i64 n2, .int .i64 n3, .int .i64 n4, .int .i64 n5, .int .i64 n6, .int .i64 n7, .slice x l c], .bool true, .bool false, undef, .tuple #[.agg #[.bool b, .slice sx sl sc], .bool ok], .agg #[.int .i64 n0, .int .i64 n1, .int .i64 n2, .int .i64 n3, .int .i64 n4, .int .i64 n5, .int .i64 n6, .int .i64 n7, .slice x l c], .int .i64 n9, .tuple #[.agg #[.bool b, .slice sx sl sc], .bool ok], .agg #[.bool b, .slice sx sl sc], .bool ok, .tuple #[.agg #[.bool b, .slice tx sl tc], .bool ok], .agg #[.int .i64 n0, .int .i64 n1, .int .i64 n2, .int .i64 n3, .int .i64 n4, .int .i64 n5, .int .i64 n6, .int .i64 n7, .slice x l c], .int .i64 n9, .tuple #[.agg #[.bool b, .slice tx sl tc], .bool ok], .agg #[.bool b, .slice tx sl tc], .bool ok, u 0, u 1, u 2, u 3, u 4, u 5, u 6, u 7, u 8, u 9, u 10, u 11, u 12, u 13, u 14, u 15, u 16, u 17, u 18, u 19, u 20, u 21, u 22, u 23, u 24, u 25, u 26, u 27, u 28, u 29, u 30, u 31, u 32, u 33, u 34], defers := [] }) [.bool true, .bool true, .agg #[.int .i64 n0, .int .i64 n1, .int .i64 n2, .int .i64 n3, .int .i64 n4, .int .i64 n5, .int .i64 n6, .int .i64 n7, .slice x l c], .int .i64 r, .agg #[.int .i64 n0, .int .i64 n1, .int .i64 n2, .int .i64 n3, .int .i64 n4, .int .i64 n5, .int .i64 n6, .int .i64 n7, .slice x l c], .int .i64 r, .bool true, .bool true, .bool true, .bool ok, .bool ok, .bool true, .bool true, .bool true, .pointer (some ⟨w5.heap.size, 0, none⟩), .bool b, .pointer (some ⟨w7.heap.size, 0, none⟩), .bool b, .bool true, .bool true, .bool true, .pointer (some ⟨w5.heap.size, 1, none⟩), .slice sx sl sc, .int .i64 sl, .pointer (some ⟨w7.heap.size, 1, none⟩), .slice tx sl tc, .int .i64 sl, .bool true, .bool true, .bool true, .agg #[.int .i64 n0, .int .i64 n1, .int .i64 n2, .int .i64 n3, .int .i64 n4, .int .i64 n5, .int .i64 n6, .int .i64 n7, .slice x l c], undef, .agg #[.int .i64 n0, .int .i64 n1, .int .i64 n2, .int .i64 n3, .int .i64 n4, .int .i64 n5, .int .i64 n6, .int .i64 n7, .slice x l c], .bool true, .bool true, .bool true] 31
    (fun v w' => ∃ (g : Nat) (T : Nat → Sh), v = .agg #[.int .i64 n0, .int .i64 n1, .int .i64 n2, .int .i64 n3, .int .i64 n4, .int .i64 n5, .int .i64 n6, .int .i64 n7, .slice (some ⟨g, 0, none⟩) l l] ∧ w'.rowIs g 29 (l * 2) (cf T) ∧ ∀ i, i < l → Cop w' g (S i) (T i) (R i)) (fun i => if i = 35 then .bool false else undef) (by kernel_rfl) (by kernel_rfl) ?_ (Kept.refl _) ?_ ?_
  · rintro v w1 w2 k ⟨g, T, rfl, hrow, hcop⟩
    exact ⟨g, T, rfl, k.row hrow, fun i hi => (hcop i hi).kept k⟩
  · intro i o ho u w' hk hd hx
    obtain ⟨z, rfl⟩ : ∃ z : KW W8, w' = z.it := ⟨⟨w', hk⟩, rfl⟩
    clear hk
    match i, ho, hd, hx with
    | 0, ho, hd, hx =>
      simp only [List.getElem?_cons_zero, Option.some.injEq] at ho
      subst ho
      refine wpOp_step rfl (fun K hK => ?_)
      clear hd hx
      go_simp
      refine (F8.out _ z.ok).mono ?_
      rintro e w' ⟨rfl, k2⟩
      refine hK _ _ ⟨.bool true, ?_, k2, fun h => absurd h (by decide), fun _ => rfl⟩
      simp [upd]
    | 1, ho, hd, hx =>
      simp only [List.getElem?_cons_succ, List.getElem?_cons_zero, Option.some.injEq] at ho
      subst ho
      have g0 : u 0 = .bool true := hd { on := 0, ground := .data } (by simp) rfl (by decide)
      refine wpOp_step rfl (fun K hK => ?_)
      clear hd hx
      go_simp
      refine hK _ _ ⟨.bool true, ?_, Kept.refl _, fun h => absurd h (by decide), fun _ => rfl⟩
      simp [upd, g0]
    | 2, ho, hd, hx =>
      simp only [List.getElem?_cons_succ, List.getElem?_cons_zero, Option.some.injEq] at ho
      subst ho
      have g1 : u 1 = .bool true := hd { on := 1, ground := .guard } (by simp) rfl (by decide)
      refine wpOp_step rfl (fun K hK => ?_)
      clear hd hx
      go_simp
      refine hK _ _ ⟨.agg #[.int .i64 n0, .int .i64 n1, .int .i64 n2, .int .i64 n3, .int .i64 n4, .int .i64 n5, .int .i64 n6, .int .i64 n7, .slice x l c], ?_, Kept.refl _, fun h => absurd h (by decide), fun _ => rfl⟩
      simp [upd, g1]
    | 3, ho, hd, hx =>
      simp only [List.getElem?_cons_succ, List.getElem?_cons_zero, Option.some.injEq] at ho
      subst ho
      have g2 : u 2 = .agg #[.int .i64 n0, .int .i64 n1, .int .i64 n2, .int .i64 n3, .int .i64 n4, .int .i64 n5, .int .i64 n6, .int .i64 n7, .slice x l c] := hd { on := 2, ground := .data } (by simp) rfl (by decide)
      have g1 : u 1 = .bool true := hd { on := 1, ground := .guard } (by simp) rfl (by decide)
      refine wpOp_step rfl (fun K hK => ?_)
      clear hd hx
      go_simp
      refine (C12.out _ z.ok).mono ?_
      rintro e w' ⟨rfl, k2⟩
      refine hK _ _ ⟨.int .i64 r, ?_, k2, fun h => absurd h (by decide), fun _ => rfl⟩
      simp [upd, g2, g1]
    | 4, ho, hd, hx =>
      simp only [List.getElem?_cons_succ, List.getElem?_cons_zero, Option.some.injEq] at ho
      subst ho
      have g1 : u 1 = .bool true := hd { on := 1, ground := .guard } (by simp) rfl (by decide)
      refine wpOp_step rfl (fun K hK => ?_)
      clear hd hx
      go_simp
      refine hK _ _ ⟨.agg #[.int .i64 n0, .int .i64 n1, .int .i64 n2, .int .i64 n3, .int .i64 n4, .int .i64 n5, .int .i64 n6, .int .i64 n7, .slice x l c], ?_, Kept.refl _, fun h => absurd h (by decide), fun _ => rfl⟩
      simp [upd, g1]
    | 5, ho, hd, hx =>
      simp only [List.getElem?_cons_succ, List.getElem?_cons_zero, Option.some.injEq] at ho
      subst ho
      have g4 : u 4 = .agg #[.int .i64 n0, .int .i64 n1, .int .i64 n2, .int .i64 n3, .int .i64 n4, .int .i64 n5, .int .i64 n6, .int .i64 n7, .slice x l c] := hd { on := 4, ground := .data } (by simp) rfl (by decide)
      have g1 : u 1 = .bool true := hd { on := 1, ground := .guard } (by simp) rfl (by decide)
      refine wpOp_step rfl (fun K hK => ?_)
      clear hd hx
      go_simp
      refine (C13.out _ z.ok).mono ?_
      rintro e w' ⟨rfl, k2⟩
      refine hK _ _ ⟨.int .i64 r, ?_, k2, fun h => absurd h (by decide), fun _ => rfl⟩
      simp [upd, g4, g1]
    | 6, ho, hd, hx =>
      simp only [List.getElem?_cons_succ, List.getElem?_cons_zero, Option.some.injEq] at ho
      subst ho
      have g3 : u 3 = .int .i64 r := hd { on := 3, ground := .data } (by simp) rfl (by decide)
      have g5 : u 5 = .int .i64 r := hd { on := 5, ground := .data } (by simp) rfl (by decide)
      have g1 : u 1 = .bool true := hd { on := 1, ground := .guard } (by simp) rfl (by decide)
      refine wpOp_step rfl (fun K hK => ?_)
      clear hd hx
      go_simp
      refine hK _ _ ⟨.bool true, ?_, Kept.refl _, fun h => absurd h (by decide), fun _ => rfl⟩
      simp [upd, g3, g5, g1]
    | 7, ho, hd, hx =>
      simp only [List.getElem?_cons_succ, List.getElem?_cons_zero, Option.some.injEq] at ho
      subst ho
      have g1 : u 1 = .bool true := hd { on := 1, ground := .data } (by simp) rfl (by decide)
      have g6 : u 6 = .bool true := hd { on := 6, ground := .data } (by simp) rfl (by decide)
      refine wpOp_step rfl (fun K hK => ?_)
      clear hd hx
      go_simp
      refine hK _ _ ⟨.bool true, ?_, Kept.refl _, fun h => absurd h (by decide), fun _ => rfl⟩
      simp [upd, g1, g6]
    | 8, ho, hd, hx =>
      simp only [List.getElem?_cons_succ, List.getElem?_cons_zero, Option.some.injEq] at ho
      subst ho
      have g7 : u 7 = .bool true := hd { on := 7, ground := .data } (by simp) rfl (by decide)
      refine wpOp_step rfl (fun K hK => ?_)
      clear hd hx
      go_simp
      refine hK _ _ ⟨.bool true, ?_, Kept.refl _, fun h => absurd h (by decide), fun _ => rfl⟩
      simp [upd, g7]
    | 9, ho, hd, hx =>
      simp only [List.getElem?_cons_succ, List.getElem?_cons_zero, Option.some.injEq] at ho
      subst ho
      have g8 : u 8 = .bool true := hd { on := 8, ground := .guard } (by simp) rfl (by decide)
      refine wpOp_step rfl (fun K hK => ?_)
      clear hd hx
      go_simp
      refine hK _ _ ⟨.bool ok, ?_, Kept.refl _, fun h => absurd h (by decide), fun _ => rfl⟩
      simp [upd, g8]
    | 10, ho, hd, hx =>
      simp only [List.getElem?_cons_succ, List.getElem?_cons_zero, Option.some.injEq] at ho
      subst ho
      have g8 : u 8 = .bool true := hd { on := 8, ground := .guard } (by simp) rfl (by decide)
      refine wpOp_step rfl (fun K hK => ?_)
      clear hd hx
      go_simp
      refine hK _ _ ⟨.bool ok, ?_, Kept.refl _, fun h => absurd h (by decide), fun _ => rfl⟩
      simp [upd, g8]
    | 11, ho, hd, hx =>
      simp only [List.getElem?_cons_succ, List.getElem?_cons_zero, Option.some.injEq] at ho
      subst ho
      have g9 : u 9 = .bool ok := hd { on := 9, ground := .data } (by simp) rfl (by decide)
      have g10 : u 10 = .bool ok := hd { on := 10, ground := .data } (by simp) rfl (by decide)
      have g8 : u 8 = .bool true := hd { on := 8, ground := .guard } (by simp) rfl (by decide)
      refine wpOp_step rfl (fun K hK => ?_)
      clear hd hx
      go_simp
      refine hK _ _ ⟨.bool true, ?_, Kept.refl _, fun h => absurd h (by decide), fun _ => rfl⟩
      simp [upd, g9, g10, g8]
    | 12, ho, hd, hx =>
      simp only [List.getElem?_cons_succ, List.getElem?_cons_zero, Option.some.injEq] at ho
      subst ho
      have g8 : u 8 = .bool true := hd { on := 8, ground := .data } (by simp) rfl (by decide)
      have g11 : u 11 = .bool true := hd { on := 11, ground := .data } (by simp) rfl (by decide)
      refine wpOp_step rfl (fun K hK => ?_)
      clear hd hx
      go_simp
      refine hK _ _ ⟨.bool true, ?_, Kept.refl _, fun h => absurd h (by decide), fun _ => rfl⟩
      simp [upd, g8, g11]
    | 13, ho, hd, hx =>
      simp only [List.getElem?_cons_succ, List.getElem?_cons_zero, Option.some.injEq] at ho
      subst ho
      have g12 : u 12 = .bool true := hd { on := 12, ground := .data } (by simp) rfl (by decide)
      refine wpOp_step rfl (fun K hK => ?_)
      clear hd hx
      go_simp
      refine hK _ _ ⟨.bool true, ?_, Kept.refl _, fun h => absurd h (by decide), fun _ => rfl⟩
      simp [upd, g12]
    | 14, ho, hd, hx =>
      simp only [List.getElem?_cons_succ, List.getElem?_cons_zero, Option.some.injEq] at ho
      subst ho
      have g13 : u 13 = .bool true := hd { on := 13, ground := .guard } (by simp) rfl (by decide)
      refine wpOp_step rfl (fun K hK => ?_)
      clear hd hx
      go_simp
      refine hK _ _ ⟨.pointer (some ⟨w5.heap.size, 0, none⟩), ?_, Kept.refl _, fun h => absurd h (by decide), fun _ => rfl⟩
      simp [upd, g13]
    | 15, ho, hd, hx =>
      simp only [List.getElem?_cons_succ, List.getElem?_cons_zero, Option.some.injEq] at ho
      subst ho
      have g14 : u 14 = .pointer (some ⟨w5.heap.size, 0, none⟩) := hd { on := 14, ground := .data } (by simp) rfl (by decide)
      have g13 : u 13 = .bool true := hd { on := 13, ground := .guard } (by simp) rfl (by decide)
      refine wpOp_step rfl (fun K hK => ?_)
      clear hd hx
      go_simp
      refine hK _ _ ⟨.bool b, ?_, Kept.refl _, fun h => absurd h (by decide), fun _ => rfl⟩
      simp [upd, g14, g13]
    | 16, ho, hd, hx =>
      simp only [List.getElem?_cons_succ, List.getElem?_cons_zero, Option.some.injEq] at ho
      subst ho
      have g13 : u 13 = .bool true := hd { on := 13, ground := .guard } (by simp) rfl (by decide)
      refine wpOp_step rfl (fun K hK => ?_)
      clear hd hx
      go_simp
      refine hK _ _ ⟨.pointer (some ⟨w7.heap.size, 0, none⟩), ?_, Kept.refl _, fun h => absurd h (by decide), fun _ => rfl⟩
      simp [upd, g13]
    | 17, ho, hd, hx =>
      simp only [List.getElem?_cons_succ, List.getElem?_cons_zero, Option.some.injEq] at ho
      subst ho
      have g16 : u 16 = .pointer (some ⟨w7.heap.size, 0, none⟩) := hd { on := 16, ground := .data } (by simp) rfl (by decide)
      have g13 : u 13 = .bool true := hd { on := 13, ground := .guard } (by simp) rfl (by decide)
      refine wpOp_step rfl (fun K hK => ?_)
      clear hd hx
      go_simp
      refine hK _ _ ⟨.bool b, ?_, Kept.refl _, fun h => absurd h (by decide), fun _ => rfl⟩
      simp [upd, g16, g13]
    | 18, ho, hd, hx =>
      simp only [List.getElem?_cons_succ, List.getElem?_cons_zero, Option.some.injEq] at ho
      subst ho
      have g15 : u 15 = .bool b := hd { on := 15, ground := .data } (by simp) rfl (by decide)
      have g17 : u 17 = .bool b := hd { on := 17, ground := .data } (by simp) rfl (by decide)
      have g13 : u 13 = .bool true := hd { on := 13, ground := .guard } (by simp) rfl (by decide)
      refine wpOp_step rfl (fun K hK => ?_)
      clear hd hx
      go_simp
      refine hK _ _ ⟨.bool true, ?_, Kept.refl _, fun h => absurd h (by decide), fun _ => rfl⟩
      simp [upd, g15, g17, g13]
    | 19, ho, hd, hx =>
      simp only [List.getElem?_cons_succ, List.getElem?_cons_zero, Option.some.injEq] at ho
      subst ho
      have g13 : u 13 = .bool true := hd { on := 13, ground := .data } (by simp) rfl (by decide)
      have g18 : u 18 = .bool true := hd { on := 18, ground := .data } (by simp) rfl (by decide)
      refine wpOp_step rfl (fun K hK => ?_)
      clear hd hx
      go_simp
      refine hK _ _ ⟨.bool true, ?_, Kept.refl _, fun h => absurd h (by decide), fun _ => rfl⟩
      simp [upd, g13, g18]
    | 20, ho, hd, hx =>
      simp only [List.getElem?_cons_succ, List.getElem?_cons_zero, Option.some.injEq] at ho
      subst ho
      have g19 : u 19 = .bool true := hd { on := 19, ground := .data } (by simp) rfl (by decide)
      refine wpOp_step rfl (fun K hK => ?_)
      clear hd hx
      go_simp
      refine hK _ _ ⟨.bool true, ?_, Kept.refl _, fun h => absurd h (by decide), fun _ => rfl⟩
      simp [upd, g19]
    | 21, ho, hd, hx =>
      simp only [List.getElem?_cons_succ, List.getElem?_cons_zero, Option.some.injEq] at ho
      subst ho
      have g20 : u 20 = .bool true := hd { on := 20, ground := .guard } (by simp) rfl (by decide)
      refine wpOp_step rfl (fun K hK => ?_)
      clear hd hx
      go_simp
      refine hK _ _ ⟨.pointer (some ⟨w5.heap.size, 1, none⟩), ?_, Kept.refl _, fun h => absurd h (by decide), fun _ => rfl⟩
      simp [upd, g20]
    | 22, ho, hd, hx =>
      simp only [List.getElem?_cons_succ, List.getElem?_cons_zero, Option.some.injEq] at ho
      subst ho
      have g21 : u 21 = .pointer (some ⟨w5.heap.size, 1, none⟩) := hd { on := 21, ground := .data } (by simp) rfl (by decide)
      have g20 : u 20 = .bool true := hd { on := 20, ground := .guard } (by simp) rfl (by decide)
      refine wpOp_step rfl (fun K hK => ?_)
      clear hd hx
      go_simp
      refine hK _ _ ⟨.slice sx sl sc, ?_, Kept.refl _, fun h => absurd h (by decide), fun _ => rfl⟩
      simp [upd, g21, g20]
    | 23, ho, hd, hx =>
      simp only [List.getElem?_cons_succ, List.getElem?_cons_zero, Option.some.injEq] at ho
      subst ho
      have g22 : u 22 = .slice sx sl sc := hd { on := 22, ground := .data } (by simp) rfl (by decide)
      have g20 : u 20 = .bool true := hd { on := 20, ground := .guard } (by simp) rfl (by decide)
      refine wpOp_step rfl (fun K hK => ?_)
      clear hd hx
      go_simp
      refine hK _ _ ⟨.int .i64 sl, ?_, Kept.refl _, fun h => absurd h (by decide), fun _ => rfl⟩
      simp [upd, g22, g20]
    | 24, ho, hd, hx =>
      simp only [List.getElem?_cons_succ, List.getElem?_cons_zero, Option.some.injEq] at ho
      subst ho
      have g20 : u 20 = .bool true := hd { on := 20, ground := .guard } (by simp) rfl (by decide)
      refine wpOp_step rfl (fun K hK => ?_)
      clear hd hx
      go_simp
      refine hK _ _ ⟨.pointer (some ⟨w7.heap.size, 1, none⟩), ?_, Kept.refl _, fun h => absurd h (by decide), fun _ => rfl⟩
      simp [upd, g20]
    | 25, ho, hd, hx =>
      simp only [List.getElem?_cons_succ, List.getElem?_cons_zero, Option.some.injEq] at ho
      subst ho
      have g24 : u 24 = .pointer (some ⟨w7.heap.size, 1, none⟩) := hd { on := 24, ground := .data } (by simp) rfl (by decide)
      have g20 : u 20 = .bool true := hd { on := 20, ground := .guard } (by simp) rfl (by decide)
      refine wpOp_step rfl (fun K hK => ?_)
      clear hd hx
      go_simp
      refine hK _ _ ⟨.slice tx sl tc, ?_, Kept.refl _, fun h => absurd h (by decide), fun _ => rfl⟩
      simp [upd, g24, g20]
    | 26, ho, hd, hx =>
      simp only [List.getElem?_cons_succ, List.getElem?_cons_zero, Option.some.injEq] at ho
      subst ho
      have g25 : u 25 = .slice tx sl tc := hd { on := 25, ground := .data } (by simp) rfl (by decide)
      have g20 : u 20 = .bool true := hd { on := 20, ground := .guard } (by simp) rfl (by decide)
      refine wpOp_step rfl (fun K hK => ?_)
      clear hd hx
      go_simp
      refine hK _ _ ⟨.int .i64 sl, ?_, Kept.refl _, fun h => absurd h (by decide), fun _ => rfl⟩
      simp [upd, g25, g20]
    | 27, ho, hd, hx =>
      simp only [List.getElem?_cons_succ, List.getElem?_cons_zero, Option.some.injEq] at ho
      subst ho
      have g23 : u 23 = .int .i64 sl := hd { on := 23, ground := .data } (by simp) rfl (by decide)
      have g26 : u 26 = .int .i64 sl := hd { on := 26, ground := .data } (by simp) rfl (by decide)
      have g20 : u 20 = .bool true := hd { on := 20, ground := .guard } (by simp) rfl (by decide)
      refine wpOp_step rfl (fun K hK => ?_)
      clear hd hx
      go_simp
      refine hK _ _ ⟨.bool true, ?_, Kept.refl _, fun h => absurd h (by decide), fun _ => rfl⟩
      simp [upd, g23, g26, g20]
    | 28, ho, hd, hx =>
      simp only [List.getElem?_cons_succ, List.getElem?_cons_zero, Option.some.injEq] at ho
      subst ho
      have g20 : u 20 = .bool true := hd { on := 20, ground := .data } (by simp) rfl (by decide)
      have g27 : u 27 = .bool true := hd { on := 27, ground := .data } (by simp) rfl (by decide)
      refine wpOp_step rfl (fun K hK => ?_)
      clear hd hx
      go_simp
      refine hK _ _ ⟨.bool true, ?_, Kept.refl _, fun h => absurd h (by decide), fun _ => rfl⟩
      simp [upd, g20, g27]
    | 29, ho, hd, hx =>
      simp only [List.getElem?_cons_succ, List.getElem?_cons_zero, Option.some.injEq] at ho
      subst ho
      have g28 : u 28 = .bool true := hd { on := 28, ground := .data } (by simp) rfl (by decide)
      refine wpOp_step rfl (fun K hK => ?_)
      clear hd hx
      go_simp
      refine hK _ _ ⟨.bool true, ?_, Kept.refl _, fun h => absurd h (by decide), fun _ => rfl⟩
      simp [upd, g28]
    | 30, ho, hd, hx =>
      simp only [List.getElem?_cons_succ, List.getElem?_cons_zero, Option.some.injEq] at ho
      subst ho
      have g29 : u 29 = .bool true := hd { on := 29, ground := .guard } (by simp) rfl (by decide)
      refine wpOp_step rfl (fun K hK => ?_)
      clear hd hx
      go_simp
      refine hK _ _ ⟨.agg #[.int .i64 n0, .int .i64 n1, .int .i64 n2, .int .i64 n3, .int .i64 n4, .int .i64 n5, .int .i64 n6, .int .i64 n7, .slice x l c], ?_, Kept.refl _, fun h => absurd h (by decide), fun _ => rfl⟩
      simp [upd, g29]
    | 31, ho, hd, hx =>
      simp only [List.getElem?_cons_succ, List.getElem?_cons_zero, Option.some.injEq] at ho
      subst ho
      have g30 : u 30 = .agg #[.int .i64 n0, .int .i64 n1, .int .i64 n2, .int .i64 n3, .int .i64 n4, .int .i64 n5, .int .i64 n6, .int .i64 n7, .slice x l c] := hd { on := 30, ground := .data } (by simp) rfl (by decide)
      have g29 : u 29 = .bool true := hd { on := 29, ground := .guard } (by simp) rfl (by decide)
      refine wpOp_step rfl (fun K hK => ?_)
      clear hd hx
      go_simp
      refine (C15.out _ z.ok).mono ?_
      rintro e w' ⟨g, T, rfl, hrow, hcop, k2⟩
      refine hK _ _ ⟨.agg #[.int .i64 n0, .int .i64 n1, .int .i64 n2, .int .i64 n3, .int .i64 n4, .int .i64 n5, .int .i64 n6, .int .i64 n7, .slice (some ⟨g, 0, none⟩) l l], ?_, k2, fun _ => ⟨g, T, rfl, hrow, hcop⟩, fun h => absurd rfl h⟩
      simp [upd, g30, g29]
    | 32, ho, hd, hx =>
      simp only [List.getElem?_cons_succ, List.getElem?_cons_zero, Option.some.injEq] at ho
      subst ho
      have g29 : u 29 = .bool true := hd { on := 29, ground := .guard } (by simp) rfl (by decide)
      refine wpOp_step rfl (fun K hK => ?_)
      clear hd hx
      go_simp
      refine hK _ _ ⟨.agg #[.int .i64 n0, .int .i64 n1, .int .i64 n2, .int .i64 n3, .int .i64 n4, .int .i64 n5, .int .i64 n6, .int .i64 n7, .slice x l c], ?_, Kept.refl _, fun h => absurd h (by decide), fun _ => rfl⟩
      simp [upd, g29]
    | 33, ho, hd, hx =>
      simp only [List.getElem?_cons_succ, List.getElem?_cons_zero, Option.some.injEq] at ho
      subst ho
      have g32 : u 32 = .agg #[.int .i64 n0, .int .i64 n1, .int .i64 n2, .int .i64 n3, .int .i64 n4, .int .i64 n5, .int .i64 n6, .int .i64 n7, .slice x l c] := hd { on := 32, ground := .data } (by simp) rfl (by decide)
      have g29 : u 29 = .bool true := hd { on := 29, ground := .guard } (by simp) rfl (by decide)
      obtain ⟨g, T, g31, hrow, hcop⟩ := hx ⟨{ on := 31, ground := .data }, by simp, rfl, rfl⟩
      have SM : Hid (Calls _ _ _ _ _) := C14.out z g T hrow hcop
      clear hrow hcop
      refine wpOp_step rfl (fun K hK => ?_)
      clear hd hx
      go_simp
      refine SM.out.mono ?_
      rintro e w' ⟨rfl, k2⟩
      refine hK _ _ ⟨.bool true, ?_, k2, fun h => absurd h (by decide), fun _ => rfl⟩
      simp [upd, g32, g29, g31]
    | 34, ho, hd, hx =>
      simp only [List.getElem?_cons_succ, List.getElem?_cons_zero, Option.some.injEq] at ho
      subst ho
      have g29 : u 29 = .bool true := hd { on := 29, ground := .data } (by simp) rfl (by decide)
      have g33 : u 33 = .bool true := hd { on := 33, ground := .data } (by simp) rfl (by decide)
      refine wpOp_step rfl (fun K hK => ?_)
      clear hd hx
      go_simp
      refine hK _ _ ⟨.bool true, ?_, Kept.refl _, fun h => absurd h (by decide), fun _ => rfl⟩
      simp [upd, g29, g33]
    | 35, ho, hd, hx =>
      simp only [List.getElem?_cons_succ, List.getElem?_cons_zero, Option.some.injEq] at ho
      subst ho
      have g34 : u 34 = .bool true := hd { on := 34, ground := .data } (by simp) rfl (by decide)
      refine wpOp_step rfl (fun K hK => ?_)
      clear hd hx
      go_simp
      refine hK _ _ ⟨.bool true, ?_, Kept.refl _, fun h => absurd h (by decide), fun _ => rfl⟩
      simp [upd, g34]
    | (n + 36), ho, hd, hx => simp at ho
  · intro u w' hk hu
    have r35 : u 35 = .bool true := hu 35 (by decide) (by decide)
    clear hu
    have KF : Hid (Kept w w') := K8.out.trans hk
    clear hk
    go_wp2
    go_ret
    exact ⟨by simp [r35], KF.out⟩

theorem confTells_any (n0 n1 n2 n3 n4 n5 n6 n7 : Int) (x8 : Option Addr) (l8 c8 : Nat) (S8 : Nat → Sh) (R8 : Nat → Nat → Bool) (n9 : Int) (w : World) (_lo0 : IntKind.min .i64 ≤ n0) (_hi0 : n0 ≤ IntKind.max .i64) (_lo1 : IntKind.min .i64 ≤ n1) (_hi1 : n1 ≤ IntKind.max .i64) (_lo2 : IntKind.min .i64 ≤ n2) (_hi2 : n2 ≤ IntKind.max .i64) (_lo3 : IntKind.min .i64 ≤ n3) (_hi3 : n3 ≤ IntKind.max .i64) (_lo4 : IntKind.min .i64 ≤ n4) (_hi4 : n4 ≤ IntKind.max .i64) (_lo5 : IntKind.min .i64 ≤ n5) (_hi5 : n5 ≤ IntKind.max .i64) (_lo6 : IntKind.min .i64 ≤ n6) (_hi6 : n6 ≤ IntKind.max .i64) (_lo7 : IntKind.min .i64 ≤ n7) (_hi7 : n7 ≤ IntKind.max .i64) (_h8c : l8 ≤ c8) (hS8 : Shps w x8 l8 S8) (hR8 : ∀ i, i < l8 → Refs w (S8 i).x (S8 i).l (R8 i)) (_lo9 : IntKind.min .i64 ≤ n9) (_hi9 : n9 ≤ IntKind.max .i64) :
    Calls Try.prog 3 #[.agg #[.int .i64 n0, .int .i64 n1, .int .i64 n2, .int .i64 n3, .int .i64 n4, .int .i64 n5, .int .i64 n6, .int .i64 n7, .slice x8 l8 c8], .int .i64 n9] w fun e w' => e = .returned (.bool true) ∧ Kept w w' := by
  by_cases hf : Small l8 S8
  · by_cases hk : n9 < 0 ∨ (l8 : Int) ≤ n9
    · refine tells_good n0 n1 n2 n3 n4 n5 n6 n7 x8 l8 c8 S8 R8 n9 false false 0 w hS8 hR8 hf (fun w' _ => (shape_out n0 n1 n2 n3 n4 n5 n6 n7 x8 l8 c8 n9 w' hk).mono fun e w'' h => ⟨none, 0, h.1, h.2⟩) (fun w' _ => (ref_shape_out n0 n1 n2 n3 n4 n5 n6 n7 x8 l8 c8 n9 w' hk).mono fun e w'' h => ⟨none, 0, h.1, h.2⟩)
    · obtain ⟨j, rfl⟩ : ∃ j : Nat, n9 = j := ⟨n9.toNat, by omega⟩
      have hj : j < l8 := by omega
      refine tells_good n0 n1 n2 n3 n4 n5 n6 n7 x8 l8 c8 S8 R8 j (S8 j).arr true (S8 j).l w hS8 hR8 hf (fun w' k => (shape_in n0 n1 n2 n3 n4 n5 n6 n7 x8 l8 c8 S8 (R8 j) j w' hj (hf.2 j hj) (hS8.kept k) ((hR8 j hj).kept k)).mono fun e w'' h => ?_) (fun w' k => (ref_shape_in n0 n1 n2 n3 n4 n5 n6 n7 x8 l8 c8 S8 j w' hj (hS8.kept k)).mono fun e w'' h => ⟨_, _, h.1, h.2⟩)
      obtain ⟨g, he, hk⟩ := h
      exact ⟨_, _, he, hk⟩
  · exact tells_many n0 n1 n2 n3 n4 n5 n6 n7 x8 l8 c8 S8 n9 w hS8 hf
end Go.Proofs.Ytpeplgiofiikhaa
