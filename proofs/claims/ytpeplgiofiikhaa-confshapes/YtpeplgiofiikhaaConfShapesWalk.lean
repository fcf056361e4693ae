/-
  ConfShapes's walk.
-/
import Derived.Test.YtpeplgiofiikhaaFirst4
import Derived.Test.YtpeplgiofiikhaaOpen
import Derived.Test.YtpeplgiofiikhaaOwn
namespace Go.Proofs.Ytpeplgiofiikhaa
open Go.RowKit

set_option maxHeartbeats 2000000 in
theorem shapes_many (n0 n1 n2 n3 n4 n5 n6 n7 : Int) (x : Option Addr) (l c : Nat) (S : Nat → Sh) (w : World) (hS : Shps w x l S) (hf : ¬ Small l S) :
    Calls Try.prog 5 #[.agg #[.int .i64 n0, .int .i64 n1, .int .i64 n2, .int .i64 n3, .int .i64 n4, .int .i64 n5, .int .i64 n6, .int .i64 n7, .slice x l c]] w fun e w' => e = .returned (.bool true) ∧ Kept w w' := by
  have HS : Hid (Shps w x l S) := hS
  have F : Hid (∀ w, Shps w x l S → _) := fun w h => few_any n0 n1 n2 n3 n4 n5 n6 n7 x l c S false w h (by simp [hf])
  clear hS
  go_enter Try.func5, Try.ntmps5
  go_wp2_with fail
  generalize hW1 : w.alloc _ = W1
  have B1 : Hid (Blk W1 w.heap.size (cl n0 n1 n2 n3 n4 n5 n6 n7 (.slice x l c))) := by rw [← hW1]; exact Blk.new w _ _
  have K1 : Hid (Kept w W1) := by rw [← hW1]; exact (Kept.refl w).alloc _ _
  clear hW1
  refine (first_any _).mono ?_
  rintro e w2 ⟨rfl, K⟩
  have B2 : Hid (Blk w2 w.heap.size _) := B1.out.kept K
  have K2 : Hid (Kept w w2) := K1.out.trans K
  clear K K1 B1
  have c0 := B2.out.at 0 rfl
  have c1 := B2.out.at 1 rfl
  have c2 := B2.out.at 2 rfl
  have c3 := B2.out.at 3 rfl
  have c4 := B2.out.at 4 rfl
  have c5 := B2.out.at 5 rfl
  have c6 := B2.out.at 6 rfl
  have c7 := B2.out.at 7 rfl
  have c8 := B2.out.at 8 rfl
  go_wp2_with fail
  refine (F.out _ (HS.out.kept K2.out)).mono ?_
  rintro e w3 ⟨rfl, K⟩
  have B3 : Hid (Blk w3 w.heap.size _) := B2.out.kept K
  have K3 : Hid (Kept w w3) := K2.out.trans K
  clear K K2 B2 c0 c1 c2 c3 c4 c5 c6 c7 c8
  go_wp2_with fail
  refine (first_any _).mono ?_
  rintro e w5 ⟨rfl, K⟩
  have K5 : Hid (Kept w w5) := K3.out.trans K
  clear K
  go_wp2
  go_ret
  exact ⟨rfl, K5.out⟩

set_option maxHeartbeats 2000000 in
theorem shapes_bad (n0 n1 n2 n3 n4 n5 n6 n7 : Int) (x : Option Addr) (l c : Nat) (S : Nat → Sh) (w : World) (hS : Shps w x l S) (hf : Small l S) (hb : ¬ (Fits n0 n1 n2 n3 n4 n5 n6 n7 ∧ Mays l S)) :
    Calls Try.prog 5 #[.agg #[.int .i64 n0, .int .i64 n1, .int .i64 n2, .int .i64 n3, .int .i64 n4, .int .i64 n5, .int .i64 n6, .int .i64 n7, .slice x l c]] w fun e w' => e = .returned (.bool true) ∧ Kept w w' := by
  have HS : Hid (Shps w x l S) := hS
  have F : Hid (∀ w, Shps w x l S → _) := fun w h => few_any n0 n1 n2 n3 n4 n5 n6 n7 x l c S true w h (by simp [hf])
  obtain ⟨r, hr, hr3⟩ := Checks.some n0 n1 n2 n3 n4 n5 n6 n7 l S
  have C : Hid (∀ w, Shps w x l S → _) := fun w h => check_any n0 n1 n2 n3 n4 n5 n6 n7 x l c S r w h hr
  have h1 : (r != 0) = true := by
    simp only [bne_iff_ne, ne_eq]
    intro e
    subst e
    exact hb hr.zero
  clear hS hr hb hr3
  go_enter Try.func5, Try.ntmps5
  go_wp2_with fail
  generalize hW1 : w.alloc _ = W1
  have B1 : Hid (Blk W1 w.heap.size (cl n0 n1 n2 n3 n4 n5 n6 n7 (.slice x l c))) := by rw [← hW1]; exact Blk.new w _ _
  have K1 : Hid (Kept w W1) := by rw [← hW1]; exact (Kept.refl w).alloc _ _
  clear hW1
  refine (first_any _).mono ?_
  rintro e w2 ⟨rfl, K⟩
  have B2 : Hid (Blk w2 w.heap.size _) := B1.out.kept K
  have K2 : Hid (Kept w w2) := K1.out.trans K
  clear K K1 B1
  have c0 := B2.out.at 0 rfl
  have c1 := B2.out.at 1 rfl
  have c2 := B2.out.at 2 rfl
  have c3 := B2.out.at 3 rfl
  have c4 := B2.out.at 4 rfl
  have c5 := B2.out.at 5 rfl
  have c6 := B2.out.at 6 rfl
  have c7 := B2.out.at 7 rfl
  have c8 := B2.out.at 8 rfl
  go_wp2_with fail
  refine (F.out _ (HS.out.kept K2.out)).mono ?_
  rintro e w3 ⟨rfl, K⟩
  have B3 : Hid (Blk w3 w.heap.size _) := B2.out.kept K
  have K3 : Hid (Kept w w3) := K2.out.trans K
  clear K K2 B2 c0 c1 c2 c3 c4 c5 c6 c7 c8
  have c0 := B3.out.at 0 rfl
  have c1 := B3.out.at 1 rfl
  have c2 := B3.out.at 2 rfl
  have c3 := B3.out.at 3 rfl
  have c4 := B3.out.at 4 rfl
  have c5 := B3.out.at 5 rfl
  have c6 := B3.out.at 6 rfl
  have c7 := B3.out.at 7 rfl
  have c8 := B3.out.at 8 rfl
  go_wp2_with fail
  refine (C.out _ (HS.out.kept K3.out)).mono ?_
  rintro e w4 ⟨rfl, K⟩
  have B4 : Hid (Blk w4 w.heap.size _) := B3.out.kept K
  have K4 : Hid (Kept w w4) := K3.out.trans K
  clear K K3 B3 c0 c1 c2 c3 c4 c5 c6 c7 c8
  go_wp2_with fail
  refine (first_any _).mono ?_
  rintro e w5 ⟨rfl, K⟩
  have K5 : Hid (Kept w w5) := K4.out.trans K
  clear K
  go_wp2
  go_ret
  exact ⟨rfl, K5.out⟩

set_option maxHeartbeats 2000000 in
theorem shapes_good (n0 n1 n2 n3 n4 n5 n6 n7 : Int) (x : Option Addr) (l c : Nat) (S : Nat → Sh) (R : Nat → Nat → Bool) (w : World) (hS : Shps w x l S) (hR : ∀ i, i < l → Refs w (S i).x (S i).l (R i)) (hf : Small l S) (fit : Fits n0 n1 n2 n3 n4 n5 n6 n7) (may : Mays l S) :
    Calls Try.prog 5 #[.agg #[.int .i64 n0, .int .i64 n1, .int .i64 n2, .int .i64 n3, .int .i64 n4, .int .i64 n5, .int .i64 n6, .int .i64 n7, .slice x l c]] w fun e w' => e = .returned (.bool true) ∧ Kept w w' := by
  have HS : Hid (Shps w x l S) := hS
  have F : Hid (∀ w, Shps w x l S → _) := fun w h => few_any n0 n1 n2 n3 n4 n5 n6 n7 x l c S true w h (by simp [hf])
  have C : Hid (∀ w, Shps w x l S → _) := fun w h => check_any n0 n1 n2 n3 n4 n5 n6 n7 x l c S 0 w h (Checks.of_ok fit may)
  have HR : Hid (∀ i, i < l → Refs w (S i).x (S i).l (R i)) := hR
  have HF : Hid (Small l S ∧ Fits n0 n1 n2 n3 n4 n5 n6 n7) := ⟨hf, fit⟩
  have l8 : l ≤ 8 := may.2.1
  have l1 : 1 ≤ l := may.1
  clear hS hR hf fit may
  go_enter Try.func5, Try.ntmps5
  go_wp2_with fail
  generalize hW1 : w.alloc _ = W1
  have B1 : Hid (Blk W1 w.heap.size (cl n0 n1 n2 n3 n4 n5 n6 n7 (.slice x l c))) := by rw [← hW1]; exact Blk.new w _ _
  have K1 : Hid (Kept w W1) := by rw [← hW1]; exact (Kept.refl w).alloc _ _
  clear hW1
  refine (first_any _).mono ?_
  rintro e w2 ⟨rfl, K⟩
  have B2 : Hid (Blk w2 w.heap.size _) := B1.out.kept K
  have K2 : Hid (Kept w w2) := K1.out.trans K
  clear K K1 B1
  have c0 := B2.out.at 0 rfl
  have c1 := B2.out.at 1 rfl
  have c2 := B2.out.at 2 rfl
  have c3 := B2.out.at 3 rfl
  have c4 := B2.out.at 4 rfl
  have c5 := B2.out.at 5 rfl
  have c6 := B2.out.at 6 rfl
  have c7 := B2.out.at 7 rfl
  have c8 := B2.out.at 8 rfl
  go_wp2_with fail
  refine (F.out _ (HS.out.kept K2.out)).mono ?_
  rintro e w3 ⟨rfl, K⟩
  have B3 : Hid (Blk w3 w.heap.size _) := B2.out.kept K
  have K3 : Hid (Kept w w3) := K2.out.trans K
  clear K K2 B2 c0 c1 c2 c3 c4 c5 c6 c7 c8
  have c0 := B3.out.at 0 rfl
  have c1 := B3.out.at 1 rfl
  have c2 := B3.out.at 2 rfl
  have c3 := B3.out.at 3 rfl
  have c4 := B3.out.at 4 rfl
  have c5 := B3.out.at 5 rfl
  have c6 := B3.out.at 6 rfl
  have c7 := B3.out.at 7 rfl
  have c8 := B3.out.at 8 rfl
  go_wp2_with fail
  refine (C.out _ (HS.out.kept K3.out)).mono ?_
  rintro e w4 ⟨rfl, K⟩
  have B4 : Hid (Blk w4 w.heap.size _) := B3.out.kept K
  have K4 : Hid (Kept w w4) := K3.out.trans K
  clear K K3 B3 c0 c1 c2 c3 c4 c5 c6 c7 c8
  go_wp2_with fail
  go_loopg [3] (l + 2) (fun m i wr => ∃ k : Int, i = .int .i64 k ∧ -1 ≤ k ∧ k ≤ l + 1 ∧ (m : Int) = l + 1 - k ∧ Hid (Kept w4 wr))
  case atStart => exact ⟨-1, rfl, by omega, by omega, by omega, Kept.refl _⟩
  case round =>
    obtain ⟨k, rfl, hk0, hk1, hm, KK⟩ := hrel
    have HM : Hid _ := hm
    clear hm
    have BK : Hid (Blk wr w.heap.size _) := B4.out.kept KK.out
    have KW4 : Hid (Kept w wr) := K4.out.trans KK.out
    have c0 := BK.out.at 0 rfl
    have c1 := BK.out.at 1 rfl
    have c2 := BK.out.at 2 rfl
    have c3 := BK.out.at 3 rfl
    have c4 := BK.out.at 4 rfl
    have c5 := BK.out.at 5 rfl
    have c6 := BK.out.at 6 rfl
    have c7 := BK.out.at 7 rfl
    have c8 := BK.out.at 8 rfl
    by_cases hlt : k ≤ (l : Int)
    · by_cases g0 : 0 ≤ k
      · by_cases g1 : k < (l : Int)
        · obtain ⟨j, rfl⟩ : ∃ j : Nat, k = j := ⟨k.toNat, by omega⟩
          have hj : j < l := by omega
          have SH : Hid (_ → _ → _) := shape_in n0 n1 n2 n3 n4 n5 n6 n7 x l c S (R j) j wr hj (HF.out.1.2 j hj)
          go_wp2_with fail
          refine (SH.out (HS.out.kept KW4.out) ((HR.out j hj).kept KW4.out)).mono ?_
          rintro e w5 ⟨g, rfl, K⟩
          obtain ⟨b, o, rfl, hb, hc⟩ := HS.out (by omega)
          clear c0 c1 c2 c3 c4 c5 c6 c7 c8 SH
          go_wp2_with fail
          generalize hW : w5.alloc _ = W6
          have k6 : Kept wr W6 := by rw [← hW]; exact K.alloc _ _
          have s6 : Blk W6 w5.heap.size [.bool (S j).arr, .slice (some ⟨g, 0, none⟩) (S j).l (S j).l] := by rw [← hW]; exact Blk.new w5 _ _
          have e6 := BK.out.kept k6
          have K6 : Hid (Kept w4 W6) := KK.out.trans k6
          have d0 := fun z : KW W6 => z.cell s6.lt (s6.at 0 rfl)
          have d1 := fun z : KW W6 => z.cell s6.lt (s6.at 1 rfl)
          have d8 := fun z : KW W6 => z.cell e6.lt (e6.at 8 rfl)
          have kb : Kept w W6 := KW4.out.trans k6
          have a0 := fun z : KW W6 => z.cell (a := ⟨b, o + j * 2, none⟩) (Nat.lt_of_lt_of_le hb kb.size) ((kb.cell hb).trans (hc j hj).1)
          have a1 := fun z : KW W6 => z.cell (a := ⟨b, o + j * 2 + 1, none⟩) (Nat.lt_of_lt_of_le hb kb.size) ((kb.cell hb).trans (hc j hj).2)
          clear hW k6 s6 e6 kb hc K
          refine wp_region_kept (by kernel_rfl) (by kernel_rfl) fun _ => ?_
          repeat (go_big_quiet_step (fail))
          refine wpQuiet_nil ?_
          rintro _ ⟨z, rfl⟩
          clear d0 d1 d8 a0 a1
          go_wp2
          go_roundg (gk - 1)
          case measure => have := HM.out; omega
          case rel => have := HM.out; exact ⟨j + 1, by go_num, by omega, by omega, by omega, K6.out.trans z.ok⟩
        · have SO : Hid (Calls _ _ _ _ _) := shape_out n0 n1 n2 n3 n4 n5 n6 n7 x l c k wr (by omega)
          have t1 : decide (k < (l : Int)) = false := decide_eq_false g1
          clear g1
          go_wp2_with fail
          refine SO.out.mono ?_
          rintro e w5 ⟨rfl, K⟩
          clear c0 c1 c2 c3 c4 c5 c6 c7 c8 SO
          go_wp2_with fail
          generalize hW : w5.alloc _ = W6
          have k6 : Kept wr W6 := by rw [← hW]; exact K.alloc _ _
          have s6 : Blk W6 w5.heap.size [.bool false, .slice none 0 0] := by rw [← hW]; exact Blk.new w5 _ _
          have e6 := BK.out.kept k6
          have K6 : Hid (Kept w4 W6) := KK.out.trans k6
          have d0 := fun z : KW W6 => z.cell s6.lt (s6.at 0 rfl)
          have d1 := fun z : KW W6 => z.cell s6.lt (s6.at 1 rfl)
          have d8 := fun z : KW W6 => z.cell e6.lt (e6.at 8 rfl)
          clear hW k6 s6 e6 K
          refine wp_region_kept (by kernel_rfl) (by kernel_rfl) fun _ => ?_
          repeat (go_big_quiet_step (fail))
          refine wpQuiet_nil ?_
          rintro _ ⟨z, rfl⟩
          clear d0 d1 d8
          go_wp2
          go_roundg (gk - 1)
          case measure => have := HM.out; omega
          case rel => have := HM.out; exact ⟨k + 1, by go_num, by omega, by omega, by omega, K6.out.trans z.ok⟩
      · have SO : Hid (Calls _ _ _ _ _) := shape_out n0 n1 n2 n3 n4 n5 n6 n7 x l c k wr (by omega)
        have t1 : decide (0 ≤ k) = false := decide_eq_false g0
        clear g0
        go_wp2_with fail
        refine SO.out.mono ?_
        rintro e w5 ⟨rfl, K⟩
        clear c0 c1 c2 c3 c4 c5 c6 c7 c8 SO
        go_wp2_with fail
        generalize hW : w5.alloc _ = W6
        have k6 : Kept wr W6 := by rw [← hW]; exact K.alloc _ _
        have s6 : Blk W6 w5.heap.size [.bool false, .slice none 0 0] := by rw [← hW]; exact Blk.new w5 _ _
        have e6 := BK.out.kept k6
        have K6 : Hid (Kept w4 W6) := KK.out.trans k6
        have d0 := fun z : KW W6 => z.cell s6.lt (s6.at 0 rfl)
        have d1 := fun z : KW W6 => z.cell s6.lt (s6.at 1 rfl)
        have d8 := fun z : KW W6 => z.cell e6.lt (e6.at 8 rfl)
        clear hW k6 s6 e6 K
        refine wp_region_kept (by kernel_rfl) (by kernel_rfl) fun _ => ?_
        repeat (go_big_quiet_step (fail))
        refine wpQuiet_nil ?_
        rintro _ ⟨z, rfl⟩
        clear d0 d1 d8
        go_wp2
        go_roundg (gk - 1)
        case measure => have := HM.out; omega
        case rel => have := HM.out; exact ⟨k + 1, by go_num, by omega, by omega, by omega, K6.out.trans z.ok⟩
    · have CP : Hid (∀ w', Kept w w' → _) := fun w' kk => copy_any n0 n1 n2 n3 n4 n5 n6 n7 x l c S R w' (by omega) HF.out.1.2 (HS.out.kept kk) (fun i hi => (HR.out i hi).kept kk)
      go_wp2_with fail
      refine (CP.out _ KW4.out).mono ?_
      rintro e w5 ⟨g1, T1, rfl, _, _, _, K⟩
      have BC : Hid (Blk w5 w.heap.size _) := BK.out.kept K
      have K5 : Hid (Kept w w5) := KW4.out.trans K
      clear K c0 c1 c2 c3 c4 c5 c6 c7 c8
      have c0 := BC.out.at 0 rfl
      have c1 := BC.out.at 1 rfl
      have c2 := BC.out.at 2 rfl
      have c3 := BC.out.at 3 rfl
      have c4 := BC.out.at 4 rfl
      have c5 := BC.out.at 5 rfl
      have c6 := BC.out.at 6 rfl
      have c7 := BC.out.at 7 rfl
      have c8 := BC.out.at 8 rfl
      have q0 := fun (A : Array Value) (t : TypeId) => (((Kept.refl w5).alloc A t).cell (a := ⟨w.heap.size, 0, none⟩) BC.out.lt).trans c0
      have q1 := fun (A : Array Value) (t : TypeId) => (((Kept.refl w5).alloc A t).cell (a := ⟨w.heap.size, 1, none⟩) BC.out.lt).trans c1
      have q2 := fun (A : Array Value) (t : TypeId) => (((Kept.refl w5).alloc A t).cell (a := ⟨w.heap.size, 2, none⟩) BC.out.lt).trans c2
      have q3 := fun (A : Array Value) (t : TypeId) => (((Kept.refl w5).alloc A t).cell (a := ⟨w.heap.size, 3, none⟩) BC.out.lt).trans c3
      have q4 := fun (A : Array Value) (t : TypeId) => (((Kept.refl w5).alloc A t).cell (a := ⟨w.heap.size, 4, none⟩) BC.out.lt).trans c4
      have q5 := fun (A : Array Value) (t : TypeId) => (((Kept.refl w5).alloc A t).cell (a := ⟨w.heap.size, 5, none⟩) BC.out.lt).trans c5
      have q6 := fun (A : Array Value) (t : TypeId) => (((Kept.refl w5).alloc A t).cell (a := ⟨w.heap.size, 6, none⟩) BC.out.lt).trans c6
      have q7 := fun (A : Array Value) (t : TypeId) => (((Kept.refl w5).alloc A t).cell (a := ⟨w.heap.size, 7, none⟩) BC.out.lt).trans c7
      have q8 := fun (A : Array Value) (t : TypeId) => (((Kept.refl w5).alloc A t).cell (a := ⟨w.heap.size, 8, none⟩) BC.out.lt).trans c8
      go_wp2_with fail
      generalize hW : w5.alloc _ = W6
      have D6 : Hid (Own W6 w5.heap.size 24 (cl n0 n1 n2 n3 n4 n5 n6 n7 (.slice none 0 0))) := by rw [← hW]; exact Own.new w5 _ _
      have k6 : Kept w5 W6 := by rw [← hW]; exact (Kept.refl w5).alloc _ _
      have K6 : Hid (Kept w W6) := K5.out.trans k6
      have C6 : Hid (Blk W6 w.heap.size _) := BC.out.kept k6
      clear hW k6 c0 c1 c2 c3 c4 c5 c6 c7 c8 q0 q1 q2 q3 q4 q5 q6 q7 q8
      refine (CP.out _ K6.out).mono ?_
      rintro e w7 ⟨g2, T2, rfl, hg2, hrow, _, K⟩
      have K7 : Hid (Kept W6 w7 ∧ W6.heap.size ≤ g2 ∧ w7.rowIs g2 29 (l * 2) (cf T2)) := ⟨K, hg2, hrow⟩
      clear K hg2 hrow
      go_wp2_with fail
      generalize hW : w7.alloc _ = W8
      have E8 : Hid (Own W8 w7.heap.size 24 (cl n0 n1 n2 n3 n4 n5 n6 n7 (.slice (some ⟨g2, 0, none⟩) l l))) := by rw [← hW]; exact Own.new w7 _ _
      have k8 : Kept w7 W8 := by rw [← hW]; exact (Kept.refl w7).alloc _ _
      have K8 : Hid (Kept W6 W8 ∧ W8.ownsRow W6.heap.size 29 2 (.slice (some ⟨g2, 0, none⟩) l l) l ((List.range (l * 2)).map (cf T2))) := ⟨K7.out.1.trans k8, row_owns (k8.row K7.out.2.2) K7.out.2.1 (by omega)⟩
      have H7 : Hid (W6.heap.size ≤ w7.heap.size) := K7.out.1.size
      clear hW k8
      obtain ⟨i0, hi, hz0, hz1, hz2⟩ := info_parts info_shape
      go_loopg [] (9 - l) (fun m wr => ∃ (n g cap : Nat) (xs : List Value), m = 9 - n ∧ 1 ≤ n ∧ n ≤ 9 ∧ Hid (Own wr w7.heap.size 24 (cl n0 n1 n2 n3 n4 n5 n6 n7 (.slice (some ⟨g, 0, none⟩) n cap)) ∧ Kept W6 wr ∧ wr.ownsRow W6.heap.size 29 2 (.slice (some ⟨g, 0, none⟩) n cap) n xs ∧ W6.heap.size ≤ g))
      case atStart => exact ⟨l, g2, l, _, rfl, l1, by omega, E8.out, K8.out.1, K8.out.2, K7.out.2.1⟩
      case round =>
        obtain ⟨n, g, cap, xs, hm, hn1, hn9, HH⟩ := hrel
        have HM : Hid _ := hm
        clear hm
        by_cases h8 : (n : Int) ≤ 8
        · have E := HH.out.1.blk
          have e8 := E.at 8 rfl
          clear E
          go_wp2_with (at_builtin; refine wpList_append_own _ rfl _ _ 22 rfl W6.heap.size 29 i0 (.agg #[.bool false, .slice none 0 0]) 2 32 Try.underlying22 hi hz0 hz1 hz2 rfl (by decide) _ _ _ rfl (HH.out.2.2.1.alloc _) ⟨wr.heap.size, 0, none⟩ 1 1 [.bool false, .slice none 0 0] rfl rfl ?c1 ?c2 ?c3 ?c4 ?c5 ?_)
          case c1 =>
            intro j u hj
            match j, hj with
            | 0, hj => simp at hj; subst hj; simp [Addr.add]
            | 1, hj => simp at hj; subst hj; simp [Addr.add]
          case c2 => intro u hu; simp at hu; rcases hu with rfl | rfl <;> rfl
          case c3 => unfold maxLen; omega
          case c4 => omega
          case c5 => have := HH.out.2.1.size; simp; omega
          · intro v' w1 hown' hgrow _
            obtain ⟨g', cap', rfl, hg'⟩ := owns_some hown' (by omega)
            have E1 : Own w1 w7.heap.size 24 _ := (HH.out.1.alloc _).grown hgrow (HH.out.1.ne HH.out.2.2.1 (by decide))
            have K1 : Kept W6 w1 := (HH.out.2.1.alloc _ _).grownBy hgrow (fun k hk => by
              simp only [Value.ownBlock, Option.some.injEq] at hk
              subst hk
              exact HH.out.2.2.2)
            have HN : Hid (_ ∧ _ ∧ _ ∧ _) := ⟨E1.set 8 (.slice (some ⟨g', 0, none⟩) (n + 1) cap'), K1.setCell (a := ⟨w7.heap.size, 8, none⟩) H7.out (.slice (some ⟨g', 0, none⟩) (n + 1) cap'), ownsRow_setCell_other hown' (a := ⟨w7.heap.size, 8, none⟩) (E1.ne hown' (by decide)) (.slice (some ⟨g', 0, none⟩) (n + 1) cap'), hg'⟩
            have e8 := E1.blk.at 8 rfl
            have f8 := E1.blk.fz
            clear hown' hgrow E1 K1 hg'
            go_wp2
            go_roundg (gk - 1)
            case measure => have := HM.out; omega
            case rel => have := HM.out; exact ⟨n + 1, g', cap', _, by omega, by omega, by omega, HN⟩
        · have e8 := HH.out.1.blk.at 8 rfl
          go_wp2_with fail
          refine (first_any _).mono ?_
          rintro e w9 ⟨rfl, K⟩
          have D9 : Hid (Blk w9 w5.heap.size _) := (D6.out.kept (HH.out.2.1.trans K)).blk
          have E9 : Hid (Blk w9 w7.heap.size _) := (HH.out.1.kept K).blk
          have K9 : Hid (Kept w w9) := K6.out.trans (HH.out.2.1.trans K)
          clear K e8
          have c0 := D9.out.at 0 rfl
          have c1 := D9.out.at 1 rfl
          have c2 := D9.out.at 2 rfl
          have c3 := D9.out.at 3 rfl
          have c4 := D9.out.at 4 rfl
          have c5 := D9.out.at 5 rfl
          have c6 := D9.out.at 6 rfl
          have c7 := D9.out.at 7 rfl
          have c8 := D9.out.at 8 rfl
          go_wp2_with fail
          refine (check_any n0 n1 n2 n3 n4 n5 n6 n7 none 0 0 S 4 _ (fun h => absurd h (by omega)) (Checks.of_kind HF.out.2 fun m => by have := m.1; omega)).mono ?_
          rintro e w10 ⟨rfl, K⟩
          have E10 : Hid (Blk w10 w7.heap.size _) := E9.out.kept K
          have K10 : Hid (Kept w w10) := K9.out.trans K
          clear K c0 c1 c2 c3 c4 c5 c6 c7 c8
          have c0 := E10.out.at 0 rfl
          have c1 := E10.out.at 1 rfl
          have c2 := E10.out.at 2 rfl
          have c3 := E10.out.at 3 rfl
          have c4 := E10.out.at 4 rfl
          have c5 := E10.out.at 5 rfl
          have c6 := E10.out.at 6 rfl
          have c7 := E10.out.at 7 rfl
          have c8 := E10.out.at 8 rfl
          go_wp2_with fail
          refine (check_many n0 n1 n2 n3 n4 n5 n6 n7 (some ⟨g, 0, none⟩) n cap _ HF.out.2 (by omega)).mono ?_
          rintro e w11 ⟨rfl, K⟩
          have K11 : Hid (Kept w w11) := K10.out.trans K
          clear K c0 c1 c2 c3 c4 c5 c6 c7 c8
          go_wp2
          go_ret
          exact ⟨rfl, K11.out⟩

theorem confShapes_any (n0 n1 n2 n3 n4 n5 n6 n7 : Int) (x8 : Option Addr) (l8 c8 : Nat) (S8 : Nat → Sh) (R8 : Nat → Nat → Bool) (w : World) (_lo0 : IntKind.min .i64 ≤ n0) (_hi0 : n0 ≤ IntKind.max .i64) (_lo1 : IntKind.min .i64 ≤ n1) (_hi1 : n1 ≤ IntKind.max .i64) (_lo2 : IntKind.min .i64 ≤ n2) (_hi2 : n2 ≤ IntKind.max .i64) (_lo3 : IntKind.min .i64 ≤ n3) (_hi3 : n3 ≤ IntKind.max .i64) (_lo4 : IntKind.min .i64 ≤ n4) (_hi4 : n4 ≤ IntKind.max .i64) (_lo5 : IntKind.min .i64 ≤ n5) (_hi5 : n5 ≤ IntKind.max .i64) (_lo6 : IntKind.min .i64 ≤ n6) (_hi6 : n6 ≤ IntKind.max .i64) (_lo7 : IntKind.min .i64 ≤ n7) (_hi7 : n7 ≤ IntKind.max .i64) (_h8c : l8 ≤ c8) (hS8 : Shps w x8 l8 S8) (hR8 : ∀ i, i < l8 → Refs w (S8 i).x (S8 i).l (R8 i)) :
    Calls Try.prog 5 #[.agg #[.int .i64 n0, .int .i64 n1, .int .i64 n2, .int .i64 n3, .int .i64 n4, .int .i64 n5, .int .i64 n6, .int .i64 n7, .slice x8 l8 c8]] w fun e w' => e = .returned (.bool true) ∧ Kept w w' := by
  by_cases hf : Small l8 S8
  · by_cases hb : Fits n0 n1 n2 n3 n4 n5 n6 n7 ∧ Mays l8 S8
    · exact shapes_good n0 n1 n2 n3 n4 n5 n6 n7 x8 l8 c8 S8 R8 w hS8 hR8 hf hb.1 hb.2
    · exact shapes_bad n0 n1 n2 n3 n4 n5 n6 n7 x8 l8 c8 S8 w hS8 hf hb
  · exact shapes_many n0 n1 n2 n3 n4 n5 n6 n7 x8 l8 c8 S8 w hS8 hf
end Go.Proofs.Ytpeplgiofiikhaa
