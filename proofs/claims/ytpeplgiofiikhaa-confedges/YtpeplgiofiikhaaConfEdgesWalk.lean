/-
  ConfEdges's walk.
-/
import Derived.Test.YtpeplgiofiikhaaFirst4
import Derived.Test.YtpeplgiofiikhaaOpen
import Derived.Test.YtpeplgiofiikhaaOwn
namespace Go.Proofs.Ytpeplgiofiikhaa
open Go.RowKit

set_option maxHeartbeats 2000000 in
theorem edges_many (n0 n1 n2 n3 n4 n5 n6 n7 : Int) (x : Option Addr) (l c : Nat) (S : Nat → Sh) (n9 : Int) (w : World) (hS : Shps w x l S) (hf : ¬ Small l S) :
    Calls Try.prog 4 #[.agg #[.int .i64 n0, .int .i64 n1, .int .i64 n2, .int .i64 n3, .int .i64 n4, .int .i64 n5, .int .i64 n6, .int .i64 n7, .slice x l c], .int .i64 n9] w fun e w' => e = .returned (.bool true) ∧ Kept w w' := by
  have HS : Hid (Shps w x l S) := hS
  have F : Hid (∀ w, Shps w x l S → _) := fun w h => few_any n0 n1 n2 n3 n4 n5 n6 n7 x l c S false w h (by simp [hf])
  clear hS
  go_enter Try.func4, Try.ntmps4
  go_wp2_with fail
  generalize hW1 : w.alloc _ = W1
  have B1 : Hid (Blk W1 w.heap.size (cl n0 n1 n2 n3 n4 n5 n6 n7 (.slice x l c))) := by rw [← hW1]; exact Blk.new w _ _
  have K1 : Hid (Kept w W1) := by rw [← hW1]; exact (Kept.refl w).alloc _ _
  clear hW1
  refine (first_any _).mono ?_
  rintro e w2 ⟨rfl, K⟩
  have B2 : Hid (Blk w2 w.heap.size _) := B1.out.kept K
  have K2 : Hid (Kept w w2) := K1.out.trans K
  clear K K1 B1
  have c0 := B2.out.at 0 rfl
  have c1 := B2.out.at 1 rfl
  have c2 := B2.out.at 2 rfl
  have c3 := B2.out.at 3 rfl
  have c4 := B2.out.at 4 rfl
  have c5 := B2.out.at 5 rfl
  have c6 := B2.out.at 6 rfl
  have c7 := B2.out.at 7 rfl
  have c8 := B2.out.at 8 rfl
  go_wp2_with fail
  refine (F.out _ (HS.out.kept K2.out)).mono ?_
  rintro e w3 ⟨rfl, K⟩
  have B3 : Hid (Blk w3 w.heap.size _) := B2.out.kept K
  have K3 : Hid (Kept w w3) := K2.out.trans K
  clear K K2 B2 c0 c1 c2 c3 c4 c5 c6 c7 c8
  go_wp2_with fail
  refine (first_any _).mono ?_
  rintro e w5 ⟨rfl, K⟩
  have K5 : Hid (Kept w w5) := K3.out.trans K
  clear K
  go_wp2
  go_ret
  exact ⟨rfl, K5.out⟩

set_option maxHeartbeats 2000000 in
theorem edges_bad (n0 n1 n2 n3 n4 n5 n6 n7 : Int) (x : Option Addr) (l c : Nat) (S : Nat → Sh) (n9 : Int) (w : World) (hS : Shps w x l S) (hf : Small l S) (hb : ¬ (Fits n0 n1 n2 n3 n4 n5 n6 n7 ∧ Mays l S)) :
    Calls Try.prog 4 #[.agg #[.int .i64 n0, .int .i64 n1, .int .i64 n2, .int .i64 n3, .int .i64 n4, .int .i64 n5, .int .i64 n6, .int .i64 n7, .slice x l c], .int .i64 n9] w fun e w' => e = .returned (.bool true) ∧ Kept w w' := by
  have HS : Hid (Shps w x l S) := hS
  have F : Hid (∀ w, Shps w x l S → _) := fun w h => few_any n0 n1 n2 n3 n4 n5 n6 n7 x l c S true w h (by simp [hf])
  obtain ⟨r, hr, hr3⟩ := Checks.some n0 n1 n2 n3 n4 n5 n6 n7 l S
  have C : Hid (∀ w, Shps w x l S → _) := fun w h => check_any n0 n1 n2 n3 n4 n5 n6 n7 x l c S r w h hr
  have h1 : (r != 0) = true := by
    simp only [bne_iff_ne, ne_eq]
    intro e
    subst e
    exact hb hr.zero
  clear hS hr hb hr3
  go_enter Try.func4, Try.ntmps4
  go_wp2_with fail
  generalize hW1 : w.alloc _ = W1
  have B1 : Hid (Blk W1 w.heap.size (cl n0 n1 n2 n3 n4 n5 n6 n7 (.slice x l c))) := by rw [← hW1]; exact Blk.new w _ _
  have K1 : Hid (Kept w W1) := by rw [← hW1]; exact (Kept.refl w).alloc _ _
  clear hW1
  refine (first_any _).mono ?_
  rintro e w2 ⟨rfl, K⟩
  have B2 : Hid (Blk w2 w.heap.size _) := B1.out.kept K
  have K2 : Hid (Kept w w2) := K1.out.trans K
  clear K K1 B1
  have c0 := B2.out.at 0 rfl
  have c1 := B2.out.at 1 rfl
  have c2 := B2.out.at 2 rfl
  have c3 := B2.out.at 3 rfl
  have c4 := B2.out.at 4 rfl
  have c5 := B2.out.at 5 rfl
  have c6 := B2.out.at 6 rfl
  have c7 := B2.out.at 7 rfl
  have c8 := B2.out.at 8 rfl
  go_wp2_with fail
  refine (F.out _ (HS.out.kept K2.out)).mono ?_
  rintro e w3 ⟨rfl, K⟩
  have B3 : Hid (Blk w3 w.heap.size _) := B2.out.kept K
  have K3 : Hid (Kept w w3) := K2.out.trans K
  clear K K2 B2 c0 c1 c2 c3 c4 c5 c6 c7 c8
  have c0 := B3.out.at 0 rfl
  have c1 := B3.out.at 1 rfl
  have c2 := B3.out.at 2 rfl
  have c3 := B3.out.at 3 rfl
  have c4 := B3.out.at 4 rfl
  have c5 := B3.out.at 5 rfl
  have c6 := B3.out.at 6 rfl
  have c7 := B3.out.at 7 rfl
  have c8 := B3.out.at 8 rfl
  go_wp2_with fail
  refine (C.out _ (HS.out.kept K3.out)).mono ?_
  rintro e w4 ⟨rfl, K⟩
  have B4 : Hid (Blk w4 w.heap.size _) := B3.out.kept K
  have K4 : Hid (Kept w w4) := K3.out.trans K
  clear K K3 B3 c0 c1 c2 c3 c4 c5 c6 c7 c8
  go_wp2_with fail
  refine (first_any _).mono ?_
  rintro e w5 ⟨rfl, K⟩
  have K5 : Hid (Kept w w5) := K4.out.trans K
  clear K
  go_wp2
  go_ret
  exact ⟨rfl, K5.out⟩

set_option maxHeartbeats 8000000 in
theorem edges_good (n0 n1 n2 n3 n4 n5 n6 n7 : Int) (x : Option Addr) (l c : Nat) (S : Nat → Sh) (R : Nat → Nat → Bool) (n9 : Int) (w : World) (hS : Shps w x l S) (hR : ∀ i, i < l → Refs w (S i).x (S i).l (R i)) (hf : Small l S) (fit : Fits n0 n1 n2 n3 n4 n5 n6 n7) (may : Mays l S) :
    Calls Try.prog 4 #[.agg #[.int .i64 n0, .int .i64 n1, .int .i64 n2, .int .i64 n3, .int .i64 n4, .int .i64 n5, .int .i64 n6, .int .i64 n7, .slice x l c], .int .i64 n9] w fun e w' => e = .returned (.bool true) ∧ Kept w w' := by
  have HS : Hid (Shps w x l S) := hS
  have F : Hid (∀ w, Shps w x l S → _) := fun w h => few_any n0 n1 n2 n3 n4 n5 n6 n7 x l c S true w h (by simp [hf])
  have C : Hid (∀ w, Shps w x l S → _) := fun w h => check_any n0 n1 n2 n3 n4 n5 n6 n7 x l c S 0 w h (Checks.of_ok fit may)
  have HR : Hid (∀ i, i < l → Refs w (S i).x (S i).l (R i)) := hR
  have HF : Hid (Small l S ∧ Fits n0 n1 n2 n3 n4 n5 n6 n7 ∧ Mays l S) := ⟨hf, fit, may⟩
  have l8 : l ≤ 8 := may.2.1
  have l1 : 1 ≤ l := may.1
  have b0 : 4 ≤ n0 := fit.1.1
  have b1 : n0 ≤ 1024 := fit.1.2
  have t0 : ((l : Int) == 0) = false := by simp; omega
  have CP : Hid (∀ w', Kept w w' → _) := fun w' kk => copy_any n0 n1 n2 n3 n4 n5 n6 n7 x l c S R w' (by omega) hf.2 (hS.kept kk) (fun i hi => (hR i hi).kept kk)
  clear hS hR hf fit may
  go_enter Try.func4, Try.ntmps4
  go_wp2_with fail
  generalize hW1 : w.alloc _ = W1
  have B1 : Hid (Blk W1 w.heap.size (cl n0 n1 n2 n3 n4 n5 n6 n7 (.slice x l c))) := by rw [← hW1]; exact Blk.new w _ _
  have K1 : Hid (Kept w W1) := by rw [← hW1]; exact (Kept.refl w).alloc _ _
  clear hW1
  refine (first_any _).mono ?_
  rintro e w2 ⟨rfl, K⟩
  have B2 : Hid (Blk w2 w.heap.size _) := B1.out.kept K
  have K2 : Hid (Kept w w2) := K1.out.trans K
  clear K K1 B1
  have c0 := B2.out.at 0 rfl
  have c1 := B2.out.at 1 rfl
  have c2 := B2.out.at 2 rfl
  have c3 := B2.out.at 3 rfl
  have c4 := B2.out.at 4 rfl
  have c5 := B2.out.at 5 rfl
  have c6 := B2.out.at 6 rfl
  have c7 := B2.out.at 7 rfl
  have c8 := B2.out.at 8 rfl
  go_wp2_with fail
  refine (F.out _ (HS.out.kept K2.out)).mono ?_
  rintro e w3 ⟨rfl, K⟩
  have B3 : Hid (Blk w3 w.heap.size _) := B2.out.kept K
  have K3 : Hid (Kept w w3) := K2.out.trans K
  clear K K2 B2 c0 c1 c2 c3 c4 c5 c6 c7 c8
  have c0 := B3.out.at 0 rfl
  have c1 := B3.out.at 1 rfl
  have c2 := B3.out.at 2 rfl
  have c3 := B3.out.at 3 rfl
  have c4 := B3.out.at 4 rfl
  have c5 := B3.out.at 5 rfl
  have c6 := B3.out.at 6 rfl
  have c7 := B3.out.at 7 rfl
  have c8 := B3.out.at 8 rfl
  go_wp2_with fail
  refine (C.out _ (HS.out.kept K3.out)).mono ?_
  rintro e w4 ⟨rfl, K⟩
  have B4 : Hid (Blk w4 w.heap.size _) := B3.out.kept K
  have K4 : Hid (Kept w w4) := K3.out.trans K
  clear K K3 B3 c0 c1 c2 c3 c4 c5 c6 c7 c8
  have c0 := B4.out.at 0 rfl
  have c1 := B4.out.at 1 rfl
  have c2 := B4.out.at 2 rfl
  have c3 := B4.out.at 3 rfl
  have c4 := B4.out.at 4 rfl
  have c5 := B4.out.at 5 rfl
  have c6 := B4.out.at 6 rfl
  have c7 := B4.out.at 7 rfl
  have c8 := B4.out.at 8 rfl
  go_wp2_with fail
  refine (CP.out _ K4.out).mono ?_
  rintro e w5 ⟨g1, T1, rfl, hg1, hrow1, hcop1, K⟩
  have BC : Hid (Blk w5 w.heap.size _) := B4.out.kept K
  have K5 : Hid (Kept w w5) := K4.out.trans K
  have R1 : Hid (Shps w5 (some ⟨g1, 0, none⟩) l T1) := row_shps hrow1
  have M1 : Hid (Mays l T1) := cop_mays hcop1 HF.out.2.2
  clear K hg1 hrow1 hcop1 c0 c1 c2 c3 c4 c5 c6 c7 c8 K4 B4
  go_wp2_with fail
  generalize hW : w5.alloc _ = W6
  have D6 : Hid (Blk W6 w5.heap.size (cl n0 n1 n2 n3 n4 n5 n6 n7 (.slice (some ⟨g1, 0, none⟩) l l))) := by rw [← hW]; exact Blk.new w5 _ _
  have k6 : Kept w5 W6 := by rw [← hW]; exact (Kept.refl w5).alloc _ _
  clear hW
  refine (check_any n0 n1 n2 n3 n4 n5 n6 n7 (some ⟨g1, 0, none⟩) l l T1 0 _ (R1.out.kept k6) (Checks.of_ok HF.out.2.1 M1.out)).mono ?_
  rintro e w7 ⟨rfl, K⟩
  have D7 : Hid (Blk w7 w5.heap.size _) := D6.out.kept K
  have K7 : Hid (Kept w5 w7) := k6.trans K
  clear K k6 D6
  have c0 := D7.out.at 0 rfl
  have c1 := D7.out.at 1 rfl
  have c2 := D7.out.at 2 rfl
  have c3 := D7.out.at 3 rfl
  have c4 := D7.out.at 4 rfl
  have c5 := D7.out.at 5 rfl
  have c6 := D7.out.at 6 rfl
  have c7 := D7.out.at 7 rfl
  have c8 := D7.out.at 8 rfl
  have f0 := D7.out.fz
  go_wp2_with fail
  rotate_right
  · exact (and7_none (n := n9) (by assumption) (by assumption) (by assumption) (by assumption) (by assumption) (by assumption) (by assumption) (by assumption)).elim
  · generalize hW : w7.setCell _ _ = W8
    have K8 : Kept w5 W8 := by rw [← hW]; exact K7.out.setCell (by simp) _
    clear hW c0 c1 c2 c3 c4 c5 c6 c7 c8 f0
    refine (check_any _ _ _ _ _ _ _ _ (some ⟨g1, 0, none⟩) l l T1 1 _ (R1.out.kept K8) (Checks.of_out (by unfold Fits; omega))).mono ?_
    rintro e w9 ⟨rfl, K⟩
    have B9 : Hid (Blk w9 w.heap.size _) := BC.out.kept (K8.trans K)
    have K9 : Hid (Kept w w9) := K5.out.trans (K8.trans K)
    clear K K8 K7 D7
    have c0 := B9.out.at 0 rfl
    have c1 := B9.out.at 1 rfl
    have c2 := B9.out.at 2 rfl
    have c3 := B9.out.at 3 rfl
    have c4 := B9.out.at 4 rfl
    have c5 := B9.out.at 5 rfl
    have c6 := B9.out.at 6 rfl
    have c7 := B9.out.at 7 rfl
    have c8 := B9.out.at 8 rfl
    go_wp2_with fail
    refine (CP.out _ K9.out).mono ?_
    rintro e w10 ⟨g2, T2, rfl, hg2, hrow2, hcop2, K⟩
    have RW : Hid (Kept w9 w10 ∧ w9.heap.size ≤ g2 ∧ w10.rowIs g2 29 (l * 2) (cf T2)) := ⟨K, hg2, hrow2⟩
    clear K hg2 hrow2 hcop2 c0 c1 c2 c3 c4 c5 c6 c7 c8
    have r0 := RW.out.2.2.cell (i := 0) (by omega)
    have r1 := RW.out.2.2.cell (i := 1) (by omega)
    have f0 := RW.out.2.2.frozen
    have lt2 : g2 < w10.heap.size := RW.out.2.2.lt
    have i1 : (0 : Int) < (l : Int) := by omega
    go_wp2_with fail
    generalize hV : w10.setCell ⟨g2, 0, none⟩ (.bool true) = V
    have rV : V.rowIs g2 29 (l * 2) (fun j => if j = 0 then .bool true else cf T2 j) := by rw [← hV]; exact RW.out.2.2.set 0 (.bool true)
    have kV : Kept w9 V := by rw [← hV]; exact RW.out.1.setCell RW.out.2.1 _
    have sV : w10.heap.size = V.heap.size := by rw [← hV]; simp
    rw [sV]
    clear hV r0 r1 f0 lt2 sV
    generalize hW : V.alloc _ = W11
    have E11 : Hid (Own W11 V.heap.size 24 (cl n0 n1 n2 n3 n4 n5 n6 n7 (.slice (some ⟨g2, 0, none⟩) l l))) := by rw [← hW]; exact Own.new V _ _
    have k11 : Kept V W11 := by rw [← hW]; exact (Kept.refl V).alloc _ _
    have r11 : W11.rowIs g2 29 (l * 2) (fun j => if j = 0 then .bool true else cf T2 j) := k11.row rV
    have Q11 : Hid (Kept w9 W11 ∧ w9.heap.size ≤ g2 ∧ g2 < V.heap.size ∧ W11.rowIs g2 29 (l * 2) (fun j => if j = 0 then .bool true else cf T2 j)) := ⟨kV.trans k11, RW.out.2.1, rV.lt, r11⟩
    have e8 := E11.out.blk.at 8 rfl
    have r1 := r11.cell (i := 1) (by omega)
    have f0 := r11.frozen
    have hmk : ∀ w, (Instr.makeSlice 27 (.int .i64 2) (.int .i64 2)).run Try.prog w = .ok (.slice (some ⟨w.heap.size, 0, none⟩) 2 2) (w.alloc (.cells #[.bool false, .bool false] 4)) := fun _ => by kernel_rfl
    have e8a := fun (A : Array Value) (t : TypeId) => (((Kept.refl W11).alloc A t).cell (a := ⟨V.heap.size, 8, none⟩) E11.out.lt).trans e8
    have r1a := fun (A : Array Value) (t : TypeId) => (((Kept.refl W11).alloc A t).cell (a := ⟨g2, 1, none⟩) r11.lt).trans r1
    have f0a := fun (A : Array Value) (t : TypeId) (i : Nat) => (((Kept.refl W11).alloc A t).frozen (a := ⟨g2, i, none⟩) r11.lt).trans (f0 i)
    have i2 : 0 < l := by omega
    clear hW k11 r11 rV kV RW
    go_region
    generalize hW : ((W11.alloc (Obj.cells #[Value.bool false, Value.bool false] 4)).setCell ⟨g2, 1, none⟩ (.slice (some ⟨W11.heap.size, 0, none⟩) 2 2)).drew = W12
    have R12 : W12.rowIs g2 29 (l * 2) (cf fun i => if i = 0 then ⟨true, some ⟨W11.heap.size, 0, none⟩, 2, 2⟩ else T2 i) := by rw [← hW]; exact row_first ⟨true, some ⟨W11.heap.size, 0, none⟩, 2, 2⟩ (Q11.out.2.2.2.alloc _)
    have E12 : Own W12 V.heap.size 24 (cl n0 n1 n2 n3 n4 n5 n6 n7 (.slice (some ⟨g2, 0, none⟩) l l)) := by rw [← hW]; exact (E11.out.alloc _).set_other (by have := Q11.out.2.2.1; simp; omega) _
    have K12 : Kept w9 W12 := by rw [← hW]; exact ((Q11.out.1.alloc _ _).setCell Q11.out.2.1 _).drew
    have O12 := row_owns R12 Q11.out.2.1 (by omega)
    have V9 : w9.heap.size ≤ V.heap.size := Nat.le_trans Q11.out.2.1 (Nat.le_of_lt Q11.out.2.2.1)
    have HH : Hid (_ ∧ _ ∧ _ ∧ w9.heap.size ≤ g2 ∧ _) := ⟨E12, K12, O12, Q11.out.2.1, V9⟩
    have e8 := E12.blk.at 8 rfl
    clear hW R12 E12 K12 O12 V9 Q11 E11 e8a r1a f0a r1 f0 hmk
    obtain ⟨i0, hi, hz0, hz1, hz2⟩ := info_parts info_shape
    go_wp2_with (at_builtin; refine wpList_append_own _ rfl _ _ 22 rfl w9.heap.size 29 i0 (.agg #[.bool false, .slice none 0 0]) 2 32 Try.underlying22 hi hz0 hz1 hz2 rfl (by decide) _ _ _ rfl (HH.out.2.2.1.alloc _) ⟨W12.heap.size, 0, none⟩ 1 1 [.bool false, .slice none 0 0] rfl rfl ?c1_0 ?c2_0 ?c3_0 ?c4_0 ?c5_0 ?_)
    case c1_0 =>
      intro j u hj
      match j, hj with
      | 0, hj => simp at hj; subst hj; simp [Addr.add]
      | 1, hj => simp at hj; subst hj; simp [Addr.add]
    case c2_0 => intro u hu; simp at hu; rcases hu with rfl | rfl <;> rfl
    case c3_0 => unfold maxLen; omega
    case c4_0 => omega
    case c5_0 => have := HH.out.2.1.size; simp; omega
    intro v' w13 hown' hgrow _
    obtain ⟨g3, cap3, rfl, hg3⟩ := owns_some hown' (by omega)
    have E13 : Own w13 V.heap.size 24 _ := (HH.out.1.alloc _).grown hgrow (HH.out.1.ne HH.out.2.2.1 (by decide))
    have K13 : Kept w9 w13 := (HH.out.2.1.alloc _ _).grownBy hgrow (fun k hk => by
      simp only [Value.ownBlock, Option.some.injEq] at hk
      subst hk
      exact HH.out.2.2.2.1)
    have HN : Hid (Blk _ _ _ ∧ Kept _ _ ∧ Shps _ _ _ _) := ⟨(E13.set 8 (.slice (some ⟨g3, 0, none⟩) (l + 1) cap3)).blk, K13.setCell (a := ⟨V.heap.size, 8, none⟩) HH.out.2.2.2.2 (.slice (some ⟨g3, 0, none⟩) (l + 1) cap3), owns_shps (ownsRow_setCell_other hown' (a := ⟨V.heap.size, 8, none⟩) (E13.ne hown' (by decide)) (.slice (some ⟨g3, 0, none⟩) (l + 1) cap3))⟩
    have e8 := E13.blk.at 8 rfl
    have f8 := E13.blk.fz
    clear hown' hgrow E13 K13 hg3 HH
    go_wp2_with fail
    refine (first_any _).mono ?_
    rintro e w15 ⟨rfl, K⟩
    have E15 : Hid (Blk w15 V.heap.size _) := HN.out.1.kept K
    have K15 : Hid (Kept w9 w15) := HN.out.2.1.trans K
    have S15 : Hid (Shps w15 _ _ _) := HN.out.2.2.kept K
    clear K HN e8 f8
    have c0 := E15.out.at 0 rfl
    have c1 := E15.out.at 1 rfl
    have c2 := E15.out.at 2 rfl
    have c3 := E15.out.at 3 rfl
    have c4 := E15.out.at 4 rfl
    have c5 := E15.out.at 5 rfl
    have c6 := E15.out.at 6 rfl
    have c7 := E15.out.at 7 rfl
    have c8 := E15.out.at 8 rfl
    go_wp2_with fail
    refine (check_any n0 n1 n2 n3 n4 n5 n6 n7 (some ⟨g3, 0, none⟩) (l + 1) cap3 _ 4 _ S15.out (Checks.of_kind HF.out.2.1 fun m => by
      have h := m.2.2 0 (by omega)
      have h0 : ¬ (0 : Nat) = l := by omega
      simp [h0, Sh.may] at h)).mono ?_
    rintro e w16 ⟨rfl, K⟩
    have B16 : Hid (Blk w16 w.heap.size _) := B9.out.kept (K15.out.trans K)
    have K16 : Hid (Kept w w16) := K9.out.trans (K15.out.trans K)
    clear K c0 c1 c2 c3 c4 c5 c6 c7 c8
    have c0 := B16.out.at 0 rfl
    have c1 := B16.out.at 1 rfl
    have c2 := B16.out.at 2 rfl
    have c3 := B16.out.at 3 rfl
    have c4 := B16.out.at 4 rfl
    have c5 := B16.out.at 5 rfl
    have c6 := B16.out.at 6 rfl
    have c7 := B16.out.at 7 rfl
    have c8 := B16.out.at 8 rfl
    go_wp2_with fail
    refine (C.out _ (HS.out.kept K16.out)).mono ?_
    rintro e w17 ⟨rfl, K⟩
    have K17 : Hid (Kept w w17) := K16.out.trans K
    clear K c0 c1 c2 c3 c4 c5 c6 c7 c8
    go_wp2
    go_ret
    exact ⟨rfl, K17.out⟩
  · generalize hW : w7.setCell _ _ = W8
    have K8 : Kept w5 W8 := by rw [← hW]; exact K7.out.setCell (by simp) _
    clear hW c0 c1 c2 c3 c4 c5 c6 c7 c8 f0
    refine (check_any _ _ _ _ _ _ _ _ (some ⟨g1, 0, none⟩) l l T1 1 _ (R1.out.kept K8) (Checks.of_out (by unfold Fits; omega))).mono ?_
    rintro e w9 ⟨rfl, K⟩
    have B9 : Hid (Blk w9 w.heap.size _) := BC.out.kept (K8.trans K)
    have K9 : Hid (Kept w w9) := K5.out.trans (K8.trans K)
    clear K K8 K7 D7
    have c0 := B9.out.at 0 rfl
    have c1 := B9.out.at 1 rfl
    have c2 := B9.out.at 2 rfl
    have c3 := B9.out.at 3 rfl
    have c4 := B9.out.at 4 rfl
    have c5 := B9.out.at 5 rfl
    have c6 := B9.out.at 6 rfl
    have c7 := B9.out.at 7 rfl
    have c8 := B9.out.at 8 rfl
    go_wp2_with fail
    refine (CP.out _ K9.out).mono ?_
    rintro e w10 ⟨g2, T2, rfl, hg2, hrow2, hcop2, K⟩
    have RW : Hid (Kept w9 w10 ∧ w9.heap.size ≤ g2 ∧ w10.rowIs g2 29 (l * 2) (cf T2)) := ⟨K, hg2, hrow2⟩
    clear K hg2 hrow2 hcop2 c0 c1 c2 c3 c4 c5 c6 c7 c8
    have r0 := RW.out.2.2.cell (i := 0) (by omega)
    have r1 := RW.out.2.2.cell (i := 1) (by omega)
    have f0 := RW.out.2.2.frozen
    have lt2 : g2 < w10.heap.size := RW.out.2.2.lt
    have i1 : (0 : Int) < (l : Int) := by omega
    go_wp2_with fail
    generalize hV : w10.setCell ⟨g2, 0, none⟩ (.bool true) = V
    have rV : V.rowIs g2 29 (l * 2) (fun j => if j = 0 then .bool true else cf T2 j) := by rw [← hV]; exact RW.out.2.2.set 0 (.bool true)
    have kV : Kept w9 V := by rw [← hV]; exact RW.out.1.setCell RW.out.2.1 _
    have sV : w10.heap.size = V.heap.size := by rw [← hV]; simp
    rw [sV]
    clear hV r0 r1 f0 lt2 sV
    generalize hW : V.alloc _ = W11
    have E11 : Hid (Own W11 V.heap.size 24 (cl n0 n1 n2 n3 n4 n5 n6 n7 (.slice (some ⟨g2, 0, none⟩) l l))) := by rw [← hW]; exact Own.new V _ _
    have k11 : Kept V W11 := by rw [← hW]; exact (Kept.refl V).alloc _ _
    have r11 : W11.rowIs g2 29 (l * 2) (fun j => if j = 0 then .bool true else cf T2 j) := k11.row rV
    have Q11 : Hid (Kept w9 W11 ∧ w9.heap.size ≤ g2 ∧ g2 < V.heap.size ∧ W11.rowIs g2 29 (l * 2) (fun j => if j = 0 then .bool true else cf T2 j)) := ⟨kV.trans k11, RW.out.2.1, rV.lt, r11⟩
    have e8 := E11.out.blk.at 8 rfl
    have r1 := r11.cell (i := 1) (by omega)
    have f0 := r11.frozen
    have hmk : ∀ w, (Instr.makeSlice 27 (.int .i64 2) (.int .i64 2)).run Try.prog w = .ok (.slice (some ⟨w.heap.size, 0, none⟩) 2 2) (w.alloc (.cells #[.bool false, .bool false] 4)) := fun _ => by kernel_rfl
    have e8a := fun (A : Array Value) (t : TypeId) => (((Kept.refl W11).alloc A t).cell (a := ⟨V.heap.size, 8, none⟩) E11.out.lt).trans e8
    have r1a := fun (A : Array Value) (t : TypeId) => (((Kept.refl W11).alloc A t).cell (a := ⟨g2, 1, none⟩) r11.lt).trans r1
    have f0a := fun (A : Array Value) (t : TypeId) (i : Nat) => (((Kept.refl W11).alloc A t).frozen (a := ⟨g2, i, none⟩) r11.lt).trans (f0 i)
    have i2 : 0 < l := by omega
    clear hW k11 r11 rV kV RW
    go_region
    generalize hW : ((W11.alloc (Obj.cells #[Value.bool false, Value.bool false] 4)).setCell ⟨g2, 1, none⟩ (.slice (some ⟨W11.heap.size, 0, none⟩) 2 2)).drew = W12
    have R12 : W12.rowIs g2 29 (l * 2) (cf fun i => if i = 0 then ⟨true, some ⟨W11.heap.size, 0, none⟩, 2, 2⟩ else T2 i) := by rw [← hW]; exact row_first ⟨true, some ⟨W11.heap.size, 0, none⟩, 2, 2⟩ (Q11.out.2.2.2.alloc _)
    have E12 : Own W12 V.heap.size 24 (cl n0 n1 n2 n3 n4 n5 n6 n7 (.slice (some ⟨g2, 0, none⟩) l l)) := by rw [← hW]; exact (E11.out.alloc _).set_other (by have := Q11.out.2.2.1; simp; omega) _
    have K12 : Kept w9 W12 := by rw [← hW]; exact ((Q11.out.1.alloc _ _).setCell Q11.out.2.1 _).drew
    have O12 := row_owns R12 Q11.out.2.1 (by omega)
    have V9 : w9.heap.size ≤ V.heap.size := Nat.le_trans Q11.out.2.1 (Nat.le_of_lt Q11.out.2.2.1)
    have HH : Hid (_ ∧ _ ∧ _ ∧ w9.heap.size ≤ g2 ∧ _) := ⟨E12, K12, O12, Q11.out.2.1, V9⟩
    have e8 := E12.blk.at 8 rfl
    clear hW R12 E12 K12 O12 V9 Q11 E11 e8a r1a f0a r1 f0 hmk
    obtain ⟨i0, hi, hz0, hz1, hz2⟩ := info_parts info_shape
    go_wp2_with (at_builtin; refine wpList_append_own _ rfl _ _ 22 rfl w9.heap.size 29 i0 (.agg #[.bool false, .slice none 0 0]) 2 32 Try.underlying22 hi hz0 hz1 hz2 rfl (by decide) _ _ _ rfl (HH.out.2.2.1.alloc _) ⟨W12.heap.size, 0, none⟩ 1 1 [.bool false, .slice none 0 0] rfl rfl ?c1_1 ?c2_1 ?c3_1 ?c4_1 ?c5_1 ?_)
    case c1_1 =>
      intro j u hj
      match j, hj with
      | 0, hj => simp at hj; subst hj; simp [Addr.add]
      | 1, hj => simp at hj; subst hj; simp [Addr.add]
    case c2_1 => intro u hu; simp at hu; rcases hu with rfl | rfl <;> rfl
    case c3_1 => unfold maxLen; omega
    case c4_1 => omega
    case c5_1 => have := HH.out.2.1.size; simp; omega
    intro v' w13 hown' hgrow _
    obtain ⟨g3, cap3, rfl, hg3⟩ := owns_some hown' (by omega)
    have E13 : Own w13 V.heap.size 24 _ := (HH.out.1.alloc _).grown hgrow (HH.out.1.ne HH.out.2.2.1 (by decide))
    have K13 : Kept w9 w13 := (HH.out.2.1.alloc _ _).grownBy hgrow (fun k hk => by
      simp only [Value.ownBlock, Option.some.injEq] at hk
      subst hk
      exact HH.out.2.2.2.1)
    have HN : Hid (Blk _ _ _ ∧ Kept _ _ ∧ Shps _ _ _ _) := ⟨(E13.set 8 (.slice (some ⟨g3, 0, none⟩) (l + 1) cap3)).blk, K13.setCell (a := ⟨V.heap.size, 8, none⟩) HH.out.2.2.2.2 (.slice (some ⟨g3, 0, none⟩) (l + 1) cap3), owns_shps (ownsRow_setCell_other hown' (a := ⟨V.heap.size, 8, none⟩) (E13.ne hown' (by decide)) (.slice (some ⟨g3, 0, none⟩) (l + 1) cap3))⟩
    have e8 := E13.blk.at 8 rfl
    have f8 := E13.blk.fz
    clear hown' hgrow E13 K13 hg3 HH
    go_wp2_with fail
    refine (first_any _).mono ?_
    rintro e w15 ⟨rfl, K⟩
    have E15 : Hid (Blk w15 V.heap.size _) := HN.out.1.kept K
    have K15 : Hid (Kept w9 w15) := HN.out.2.1.trans K
    have S15 : Hid (Shps w15 _ _ _) := HN.out.2.2.kept K
    clear K HN e8 f8
    have c0 := E15.out.at 0 rfl
    have c1 := E15.out.at 1 rfl
    have c2 := E15.out.at 2 rfl
    have c3 := E15.out.at 3 rfl
    have c4 := E15.out.at 4 rfl
    have c5 := E15.out.at 5 rfl
    have c6 := E15.out.at 6 rfl
    have c7 := E15.out.at 7 rfl
    have c8 := E15.out.at 8 rfl
    go_wp2_with fail
    refine (check_any n0 n1 n2 n3 n4 n5 n6 n7 (some ⟨g3, 0, none⟩) (l + 1) cap3 _ 4 _ S15.out (Checks.of_kind HF.out.2.1 fun m => by
      have h := m.2.2 0 (by omega)
      have h0 : ¬ (0 : Nat) = l := by omega
      simp [h0, Sh.may] at h)).mono ?_
    rintro e w16 ⟨rfl, K⟩
    have B16 : Hid (Blk w16 w.heap.size _) := B9.out.kept (K15.out.trans K)
    have K16 : Hid (Kept w w16) := K9.out.trans (K15.out.trans K)
    clear K c0 c1 c2 c3 c4 c5 c6 c7 c8
    have c0 := B16.out.at 0 rfl
    have c1 := B16.out.at 1 rfl
    have c2 := B16.out.at 2 rfl
    have c3 := B16.out.at 3 rfl
    have c4 := B16.out.at 4 rfl
    have c5 := B16.out.at 5 rfl
    have c6 := B16.out.at 6 rfl
    have c7 := B16.out.at 7 rfl
    have c8 := B16.out.at 8 rfl
    go_wp2_with fail
    refine (C.out _ (HS.out.kept K16.out)).mono ?_
    rintro e w17 ⟨rfl, K⟩
    have K17 : Hid (Kept w w17) := K16.out.trans K
    clear K c0 c1 c2 c3 c4 c5 c6 c7 c8
    go_wp2
    go_ret
    exact ⟨rfl, K17.out⟩
  · generalize hW : w7.setCell _ _ = W8
    have K8 : Kept w5 W8 := by rw [← hW]; exact K7.out.setCell (by simp) _
    clear hW c0 c1 c2 c3 c4 c5 c6 c7 c8 f0
    refine (check_any _ _ _ _ _ _ _ _ (some ⟨g1, 0, none⟩) l l T1 1 _ (R1.out.kept K8) (Checks.of_out (by unfold Fits; omega))).mono ?_
    rintro e w9 ⟨rfl, K⟩
    have B9 : Hid (Blk w9 w.heap.size _) := BC.out.kept (K8.trans K)
    have K9 : Hid (Kept w w9) := K5.out.trans (K8.trans K)
    clear K K8 K7 D7
    have c0 := B9.out.at 0 rfl
    have c1 := B9.out.at 1 rfl
    have c2 := B9.out.at 2 rfl
    have c3 := B9.out.at 3 rfl
    have c4 := B9.out.at 4 rfl
    have c5 := B9.out.at 5 rfl
    have c6 := B9.out.at 6 rfl
    have c7 := B9.out.at 7 rfl
    have c8 := B9.out.at 8 rfl
    go_wp2_with fail
    refine (CP.out _ K9.out).mono ?_
    rintro e w10 ⟨g2, T2, rfl, hg2, hrow2, hcop2, K⟩
    have RW : Hid (Kept w9 w10 ∧ w9.heap.size ≤ g2 ∧ w10.rowIs g2 29 (l * 2) (cf T2)) := ⟨K, hg2, hrow2⟩
    clear K hg2 hrow2 hcop2 c0 c1 c2 c3 c4 c5 c6 c7 c8
    have r0 := RW.out.2.2.cell (i := 0) (by omega)
    have r1 := RW.out.2.2.cell (i := 1) (by omega)
    have f0 := RW.out.2.2.frozen
    have lt2 : g2 < w10.heap.size := RW.out.2.2.lt
    have i1 : (0 : Int) < (l : Int) := by omega
    go_wp2_with fail
    generalize hV : w10.setCell ⟨g2, 0, none⟩ (.bool true) = V
    have rV : V.rowIs g2 29 (l * 2) (fun j => if j = 0 then .bool true else cf T2 j) := by rw [← hV]; exact RW.out.2.2.set 0 (.bool true)
    have kV : Kept w9 V := by rw [← hV]; exact RW.out.1.setCell RW.out.2.1 _
    have sV : w10.heap.size = V.heap.size := by rw [← hV]; simp
    rw [sV]
    clear hV r0 r1 f0 lt2 sV
    generalize hW : V.alloc _ = W11
    have E11 : Hid (Own W11 V.heap.size 24 (cl n0 n1 n2 n3 n4 n5 n6 n7 (.slice (some ⟨g2, 0, none⟩) l l))) := by rw [← hW]; exact Own.new V _ _
    have k11 : Kept V W11 := by rw [← hW]; exact (Kept.refl V).alloc _ _
    have r11 : W11.rowIs g2 29 (l * 2) (fun j => if j = 0 then .bool true else cf T2 j) := k11.row rV
    have Q11 : Hid (Kept w9 W11 ∧ w9.heap.size ≤ g2 ∧ g2 < V.heap.size ∧ W11.rowIs g2 29 (l * 2) (fun j => if j = 0 then .bool true else cf T2 j)) := ⟨kV.trans k11, RW.out.2.1, rV.lt, r11⟩
    have e8 := E11.out.blk.at 8 rfl
    have r1 := r11.cell (i := 1) (by omega)
    have f0 := r11.frozen
    have hmk : ∀ w, (Instr.makeSlice 27 (.int .i64 2) (.int .i64 2)).run Try.prog w = .ok (.slice (some ⟨w.heap.size, 0, none⟩) 2 2) (w.alloc (.cells #[.bool false, .bool false] 4)) := fun _ => by kernel_rfl
    have e8a := fun (A : Array Value) (t : TypeId) => (((Kept.refl W11).alloc A t).cell (a := ⟨V.heap.size, 8, none⟩) E11.out.lt).trans e8
    have r1a := fun (A : Array Value) (t : TypeId) => (((Kept.refl W11).alloc A t).cell (a := ⟨g2, 1, none⟩) r11.lt).trans r1
    have f0a := fun (A : Array Value) (t : TypeId) (i : Nat) => (((Kept.refl W11).alloc A t).frozen (a := ⟨g2, i, none⟩) r11.lt).trans (f0 i)
    have i2 : 0 < l := by omega
    clear hW k11 r11 rV kV RW
    go_region
    generalize hW : ((W11.alloc (Obj.cells #[Value.bool false, Value.bool false] 4)).setCell ⟨g2, 1, none⟩ (.slice (some ⟨W11.heap.size, 0, none⟩) 2 2)).drew = W12
    have R12 : W12.rowIs g2 29 (l * 2) (cf fun i => if i = 0 then ⟨true, some ⟨W11.heap.size, 0, none⟩, 2, 2⟩ else T2 i) := by rw [← hW]; exact row_first ⟨true, some ⟨W11.heap.size, 0, none⟩, 2, 2⟩ (Q11.out.2.2.2.alloc _)
    have E12 : Own W12 V.heap.size 24 (cl n0 n1 n2 n3 n4 n5 n6 n7 (.slice (some ⟨g2, 0, none⟩) l l)) := by rw [← hW]; exact (E11.out.alloc _).set_other (by have := Q11.out.2.2.1; simp; omega) _
    have K12 : Kept w9 W12 := by rw [← hW]; exact ((Q11.out.1.alloc _ _).setCell Q11.out.2.1 _).drew
    have O12 := row_owns R12 Q11.out.2.1 (by omega)
    have V9 : w9.heap.size ≤ V.heap.size := Nat.le_trans Q11.out.2.1 (Nat.le_of_lt Q11.out.2.2.1)
    have HH : Hid (_ ∧ _ ∧ _ ∧ w9.heap.size ≤ g2 ∧ _) := ⟨E12, K12, O12, Q11.out.2.1, V9⟩
    have e8 := E12.blk.at 8 rfl
    clear hW R12 E12 K12 O12 V9 Q11 E11 e8a r1a f0a r1 f0 hmk
    obtain ⟨i0, hi, hz0, hz1, hz2⟩ := info_parts info_shape
    go_wp2_with (at_builtin; refine wpList_append_own _ rfl _ _ 22 rfl w9.heap.size 29 i0 (.agg #[.bool false, .slice none 0 0]) 2 32 Try.underlying22 hi hz0 hz1 hz2 rfl (by decide) _ _ _ rfl (HH.out.2.2.1.alloc _) ⟨W12.heap.size, 0, none⟩ 1 1 [.bool false, .slice none 0 0] rfl rfl ?c1_2 ?c2_2 ?c3_2 ?c4_2 ?c5_2 ?_)
    case c1_2 =>
      intro j u hj
      match j, hj with
      | 0, hj => simp at hj; subst hj; simp [Addr.add]
      | 1, hj => simp at hj; subst hj; simp [Addr.add]
    case c2_2 => intro u hu; simp at hu; rcases hu with rfl | rfl <;> rfl
    case c3_2 => unfold maxLen; omega
    case c4_2 => omega
    case c5_2 => have := HH.out.2.1.size; simp; omega
    intro v' w13 hown' hgrow _
    obtain ⟨g3, cap3, rfl, hg3⟩ := owns_some hown' (by omega)
    have E13 : Own w13 V.heap.size 24 _ := (HH.out.1.alloc _).grown hgrow (HH.out.1.ne HH.out.2.2.1 (by decide))
    have K13 : Kept w9 w13 := (HH.out.2.1.alloc _ _).grownBy hgrow (fun k hk => by
      simp only [Value.ownBlock, Option.some.injEq] at hk
      subst hk
      exact HH.out.2.2.2.1)
    have HN : Hid (Blk _ _ _ ∧ Kept _ _ ∧ Shps _ _ _ _) := ⟨(E13.set 8 (.slice (some ⟨g3, 0, none⟩) (l + 1) cap3)).blk, K13.setCell (a := ⟨V.heap.size, 8, none⟩) HH.out.2.2.2.2 (.slice (some ⟨g3, 0, none⟩) (l + 1) cap3), owns_shps (ownsRow_setCell_other hown' (a := ⟨V.heap.size, 8, none⟩) (E13.ne hown' (by decide)) (.slice (some ⟨g3, 0, none⟩) (l + 1) cap3))⟩
    have e8 := E13.blk.at 8 rfl
    have f8 := E13.blk.fz
    clear hown' hgrow E13 K13 hg3 HH
    go_wp2_with fail
    refine (first_any _).mono ?_
    rintro e w15 ⟨rfl, K⟩
    have E15 : Hid (Blk w15 V.heap.size _) := HN.out.1.kept K
    have K15 : Hid (Kept w9 w15) := HN.out.2.1.trans K
    have S15 : Hid (Shps w15 _ _ _) := HN.out.2.2.kept K
    clear K HN e8 f8
    have c0 := E15.out.at 0 rfl
    have c1 := E15.out.at 1 rfl
    have c2 := E15.out.at 2 rfl
    have c3 := E15.out.at 3 rfl
    have c4 := E15.out.at 4 rfl
    have c5 := E15.out.at 5 rfl
    have c6 := E15.out.at 6 rfl
    have c7 := E15.out.at 7 rfl
    have c8 := E15.out.at 8 rfl
    go_wp2_with fail
    refine (check_any n0 n1 n2 n3 n4 n5 n6 n7 (some ⟨g3, 0, none⟩) (l + 1) cap3 _ 4 _ S15.out (Checks.of_kind HF.out.2.1 fun m => by
      have h := m.2.2 0 (by omega)
      have h0 : ¬ (0 : Nat) = l := by omega
      simp [h0, Sh.may] at h)).mono ?_
    rintro e w16 ⟨rfl, K⟩
    have B16 : Hid (Blk w16 w.heap.size _) := B9.out.kept (K15.out.trans K)
    have K16 : Hid (Kept w w16) := K9.out.trans (K15.out.trans K)
    clear K c0 c1 c2 c3 c4 c5 c6 c7 c8
    have c0 := B16.out.at 0 rfl
    have c1 := B16.out.at 1 rfl
    have c2 := B16.out.at 2 rfl
    have c3 := B16.out.at 3 rfl
    have c4 := B16.out.at 4 rfl
    have c5 := B16.out.at 5 rfl
    have c6 := B16.out.at 6 rfl
    have c7 := B16.out.at 7 rfl
    have c8 := B16.out.at 8 rfl
    go_wp2_with fail
    refine (C.out _ (HS.out.kept K16.out)).mono ?_
    rintro e w17 ⟨rfl, K⟩
    have K17 : Hid (Kept w w17) := K16.out.trans K
    clear K c0 c1 c2 c3 c4 c5 c6 c7 c8
    go_wp2
    go_ret
    exact ⟨rfl, K17.out⟩
  · generalize hW : w7.setCell _ _ = W8
    have K8 : Kept w5 W8 := by rw [← hW]; exact K7.out.setCell (by simp) _
    clear hW c0 c1 c2 c3 c4 c5 c6 c7 c8 f0
    refine (check_any _ _ _ _ _ _ _ _ (some ⟨g1, 0, none⟩) l l T1 1 _ (R1.out.kept K8) (Checks.of_out (by unfold Fits; omega))).mono ?_
    rintro e w9 ⟨rfl, K⟩
    have B9 : Hid (Blk w9 w.heap.size _) := BC.out.kept (K8.trans K)
    have K9 : Hid (Kept w w9) := K5.out.trans (K8.trans K)
    clear K K8 K7 D7
    have c0 := B9.out.at 0 rfl
    have c1 := B9.out.at 1 rfl
    have c2 := B9.out.at 2 rfl
    have c3 := B9.out.at 3 rfl
    have c4 := B9.out.at 4 rfl
    have c5 := B9.out.at 5 rfl
    have c6 := B9.out.at 6 rfl
    have c7 := B9.out.at 7 rfl
    have c8 := B9.out.at 8 rfl
    go_wp2_with fail
    refine (CP.out _ K9.out).mono ?_
    rintro e w10 ⟨g2, T2, rfl, hg2, hrow2, hcop2, K⟩
    have RW : Hid (Kept w9 w10 ∧ w9.heap.size ≤ g2 ∧ w10.rowIs g2 29 (l * 2) (cf T2)) := ⟨K, hg2, hrow2⟩
    clear K hg2 hrow2 hcop2 c0 c1 c2 c3 c4 c5 c6 c7 c8
    have r0 := RW.out.2.2.cell (i := 0) (by omega)
    have r1 := RW.out.2.2.cell (i := 1) (by omega)
    have f0 := RW.out.2.2.frozen
    have lt2 : g2 < w10.heap.size := RW.out.2.2.lt
    have i1 : (0 : Int) < (l : Int) := by omega
    go_wp2_with fail
    generalize hV : w10.setCell ⟨g2, 0, none⟩ (.bool true) = V
    have rV : V.rowIs g2 29 (l * 2) (fun j => if j = 0 then .bool true else cf T2 j) := by rw [← hV]; exact RW.out.2.2.set 0 (.bool true)
    have kV : Kept w9 V := by rw [← hV]; exact RW.out.1.setCell RW.out.2.1 _
    have sV : w10.heap.size = V.heap.size := by rw [← hV]; simp
    rw [sV]
    clear hV r0 r1 f0 lt2 sV
    generalize hW : V.alloc _ = W11
    have E11 : Hid (Own W11 V.heap.size 24 (cl n0 n1 n2 n3 n4 n5 n6 n7 (.slice (some ⟨g2, 0, none⟩) l l))) := by rw [← hW]; exact Own.new V _ _
    have k11 : Kept V W11 := by rw [← hW]; exact (Kept.refl V).alloc _ _
    have r11 : W11.rowIs g2 29 (l * 2) (fun j => if j = 0 then .bool true else cf T2 j) := k11.row rV
    have Q11 : Hid (Kept w9 W11 ∧ w9.heap.size ≤ g2 ∧ g2 < V.heap.size ∧ W11.rowIs g2 29 (l * 2) (fun j => if j = 0 then .bool true else cf T2 j)) := ⟨kV.trans k11, RW.out.2.1, rV.lt, r11⟩
    have e8 := E11.out.blk.at 8 rfl
    have r1 := r11.cell (i := 1) (by omega)
    have f0 := r11.frozen
    have hmk : ∀ w, (Instr.makeSlice 27 (.int .i64 2) (.int .i64 2)).run Try.prog w = .ok (.slice (some ⟨w.heap.size, 0, none⟩) 2 2) (w.alloc (.cells #[.bool false, .bool false] 4)) := fun _ => by kernel_rfl
    have e8a := fun (A : Array Value) (t : TypeId) => (((Kept.refl W11).alloc A t).cell (a := ⟨V.heap.size, 8, none⟩) E11.out.lt).trans e8
    have r1a := fun (A : Array Value) (t : TypeId) => (((Kept.refl W11).alloc A t).cell (a := ⟨g2, 1, none⟩) r11.lt).trans r1
    have f0a := fun (A : Array Value) (t : TypeId) (i : Nat) => (((Kept.refl W11).alloc A t).frozen (a := ⟨g2, i, none⟩) r11.lt).trans (f0 i)
    have i2 : 0 < l := by omega
    clear hW k11 r11 rV kV RW
    go_region
    generalize hW : ((W11.alloc (Obj.cells #[Value.bool false, Value.bool false] 4)).setCell ⟨g2, 1, none⟩ (.slice (some ⟨W11.heap.size, 0, none⟩) 2 2)).drew = W12
    have R12 : W12.rowIs g2 29 (l * 2) (cf fun i => if i = 0 then ⟨true, some ⟨W11.heap.size, 0, none⟩, 2, 2⟩ else T2 i) := by rw [← hW]; exact row_first ⟨true, some ⟨W11.heap.size, 0, none⟩, 2, 2⟩ (Q11.out.2.2.2.alloc _)
    have E12 : Own W12 V.heap.size 24 (cl n0 n1 n2 n3 n4 n5 n6 n7 (.slice (some ⟨g2, 0, none⟩) l l)) := by rw [← hW]; exact (E11.out.alloc _).set_other (by have := Q11.out.2.2.1; simp; omega) _
    have K12 : Kept w9 W12 := by rw [← hW]; exact ((Q11.out.1.alloc _ _).setCell Q11.out.2.1 _).drew
    have O12 := row_owns R12 Q11.out.2.1 (by omega)
    have V9 : w9.heap.size ≤ V.heap.size := Nat.le_trans Q11.out.2.1 (Nat.le_of_lt Q11.out.2.2.1)
    have HH : Hid (_ ∧ _ ∧ _ ∧ w9.heap.size ≤ g2 ∧ _) := ⟨E12, K12, O12, Q11.out.2.1, V9⟩
    have e8 := E12.blk.at 8 rfl
    clear hW R12 E12 K12 O12 V9 Q11 E11 e8a r1a f0a r1 f0 hmk
    obtain ⟨i0, hi, hz0, hz1, hz2⟩ := info_parts info_shape
    go_wp2_with (at_builtin; refine wpList_append_own _ rfl _ _ 22 rfl w9.heap.size 29 i0 (.agg #[.bool false, .slice none 0 0]) 2 32 Try.underlying22 hi hz0 hz1 hz2 rfl (by decide) _ _ _ rfl (HH.out.2.2.1.alloc _) ⟨W12.heap.size, 0, none⟩ 1 1 [.bool false, .slice none 0 0] rfl rfl ?c1_3 ?c2_3 ?c3_3 ?c4_3 ?c5_3 ?_)
    case c1_3 =>
      intro j u hj
      match j, hj with
      | 0, hj => simp at hj; subst hj; simp [Addr.add]
      | 1, hj => simp at hj; subst hj; simp [Addr.add]
    case c2_3 => intro u hu; simp at hu; rcases hu with rfl | rfl <;> rfl
    case c3_3 => unfold maxLen; omega
    case c4_3 => omega
    case c5_3 => have := HH.out.2.1.size; simp; omega
    intro v' w13 hown' hgrow _
    obtain ⟨g3, cap3, rfl, hg3⟩ := owns_some hown' (by omega)
    have E13 : Own w13 V.heap.size 24 _ := (HH.out.1.alloc _).grown hgrow (HH.out.1.ne HH.out.2.2.1 (by decide))
    have K13 : Kept w9 w13 := (HH.out.2.1.alloc _ _).grownBy hgrow (fun k hk => by
      simp only [Value.ownBlock, Option.some.injEq] at hk
      subst hk
      exact HH.out.2.2.2.1)
    have HN : Hid (Blk _ _ _ ∧ Kept _ _ ∧ Shps _ _ _ _) := ⟨(E13.set 8 (.slice (some ⟨g3, 0, none⟩) (l + 1) cap3)).blk, K13.setCell (a := ⟨V.heap.size, 8, none⟩) HH.out.2.2.2.2 (.slice (some ⟨g3, 0, none⟩) (l + 1) cap3), owns_shps (ownsRow_setCell_other hown' (a := ⟨V.heap.size, 8, none⟩) (E13.ne hown' (by decide)) (.slice (some ⟨g3, 0, none⟩) (l + 1) cap3))⟩
    have e8 := E13.blk.at 8 rfl
    have f8 := E13.blk.fz
    clear hown' hgrow E13 K13 hg3 HH
    go_wp2_with fail
    refine (first_any _).mono ?_
    rintro e w15 ⟨rfl, K⟩
    have E15 : Hid (Blk w15 V.heap.size _) := HN.out.1.kept K
    have K15 : Hid (Kept w9 w15) := HN.out.2.1.trans K
    have S15 : Hid (Shps w15 _ _ _) := HN.out.2.2.kept K
    clear K HN e8 f8
    have c0 := E15.out.at 0 rfl
    have c1 := E15.out.at 1 rfl
    have c2 := E15.out.at 2 rfl
    have c3 := E15.out.at 3 rfl
    have c4 := E15.out.at 4 rfl
    have c5 := E15.out.at 5 rfl
    have c6 := E15.out.at 6 rfl
    have c7 := E15.out.at 7 rfl
    have c8 := E15.out.at 8 rfl
    go_wp2_with fail
    refine (check_any n0 n1 n2 n3 n4 n5 n6 n7 (some ⟨g3, 0, none⟩) (l + 1) cap3 _ 4 _ S15.out (Checks.of_kind HF.out.2.1 fun m => by
      have h := m.2.2 0 (by omega)
      have h0 : ¬ (0 : Nat) = l := by omega
      simp [h0, Sh.may] at h)).mono ?_
    rintro e w16 ⟨rfl, K⟩
    have B16 : Hid (Blk w16 w.heap.size _) := B9.out.kept (K15.out.trans K)
    have K16 : Hid (Kept w w16) := K9.out.trans (K15.out.trans K)
    clear K c0 c1 c2 c3 c4 c5 c6 c7 c8
    have c0 := B16.out.at 0 rfl
    have c1 := B16.out.at 1 rfl
    have c2 := B16.out.at 2 rfl
    have c3 := B16.out.at 3 rfl
    have c4 := B16.out.at 4 rfl
    have c5 := B16.out.at 5 rfl
    have c6 := B16.out.at 6 rfl
    have c7 := B16.out.at 7 rfl
    have c8 := B16.out.at 8 rfl
    go_wp2_with fail
    refine (C.out _ (HS.out.kept K16.out)).mono ?_
    rintro e w17 ⟨rfl, K⟩
    have K17 : Hid (Kept w w17) := K16.out.trans K
    clear K c0 c1 c2 c3 c4 c5 c6 c7 c8
    go_wp2
    go_ret
    exact ⟨rfl, K17.out⟩
  · generalize hW : w7.setCell _ _ = W8
    have K8 : Kept w5 W8 := by rw [← hW]; exact K7.out.setCell (by simp) _
    clear hW c0 c1 c2 c3 c4 c5 c6 c7 c8 f0
    refine (check_any _ _ _ _ _ _ _ _ (some ⟨g1, 0, none⟩) l l T1 1 _ (R1.out.kept K8) (Checks.of_out (by unfold Fits; omega))).mono ?_
    rintro e w9 ⟨rfl, K⟩
    have B9 : Hid (Blk w9 w.heap.size _) := BC.out.kept (K8.trans K)
    have K9 : Hid (Kept w w9) := K5.out.trans (K8.trans K)
    clear K K8 K7 D7
    have c0 := B9.out.at 0 rfl
    have c1 := B9.out.at 1 rfl
    have c2 := B9.out.at 2 rfl
    have c3 := B9.out.at 3 rfl
    have c4 := B9.out.at 4 rfl
    have c5 := B9.out.at 5 rfl
    have c6 := B9.out.at 6 rfl
    have c7 := B9.out.at 7 rfl
    have c8 := B9.out.at 8 rfl
    go_wp2_with fail
    refine (CP.out _ K9.out).mono ?_
    rintro e w10 ⟨g2, T2, rfl, hg2, hrow2, hcop2, K⟩
    have RW : Hid (Kept w9 w10 ∧ w9.heap.size ≤ g2 ∧ w10.rowIs g2 29 (l * 2) (cf T2)) := ⟨K, hg2, hrow2⟩
    clear K hg2 hrow2 hcop2 c0 c1 c2 c3 c4 c5 c6 c7 c8
    have r0 := RW.out.2.2.cell (i := 0) (by omega)
    have r1 := RW.out.2.2.cell (i := 1) (by omega)
    have f0 := RW.out.2.2.frozen
    have lt2 : g2 < w10.heap.size := RW.out.2.2.lt
    have i1 : (0 : Int) < (l : Int) := by omega
    go_wp2_with fail
    generalize hV : w10.setCell ⟨g2, 0, none⟩ (.bool true) = V
    have rV : V.rowIs g2 29 (l * 2) (fun j => if j = 0 then .bool true else cf T2 j) := by rw [← hV]; exact RW.out.2.2.set 0 (.bool true)
    have kV : Kept w9 V := by rw [← hV]; exact RW.out.1.setCell RW.out.2.1 _
    have sV : w10.heap.size = V.heap.size := by rw [← hV]; simp
    rw [sV]
    clear hV r0 r1 f0 lt2 sV
    generalize hW : V.alloc _ = W11
    have E11 : Hid (Own W11 V.heap.size 24 (cl n0 n1 n2 n3 n4 n5 n6 n7 (.slice (some ⟨g2, 0, none⟩) l l))) := by rw [← hW]; exact Own.new V _ _
    have k11 : Kept V W11 := by rw [← hW]; exact (Kept.refl V).alloc _ _
    have r11 : W11.rowIs g2 29 (l * 2) (fun j => if j = 0 then .bool true else cf T2 j) := k11.row rV
    have Q11 : Hid (Kept w9 W11 ∧ w9.heap.size ≤ g2 ∧ g2 < V.heap.size ∧ W11.rowIs g2 29 (l * 2) (fun j => if j = 0 then .bool true else cf T2 j)) := ⟨kV.trans k11, RW.out.2.1, rV.lt, r11⟩
    have e8 := E11.out.blk.at 8 rfl
    have r1 := r11.cell (i := 1) (by omega)
    have f0 := r11.frozen
    have hmk : ∀ w, (Instr.makeSlice 27 (.int .i64 2) (.int .i64 2)).run Try.prog w = .ok (.slice (some ⟨w.heap.size, 0, none⟩) 2 2) (w.alloc (.cells #[.bool false, .bool false] 4)) := fun _ => by kernel_rfl
    have e8a := fun (A : Array Value) (t : TypeId) => (((Kept.refl W11).alloc A t).cell (a := ⟨V.heap.size, 8, none⟩) E11.out.lt).trans e8
    have r1a := fun (A : Array Value) (t : TypeId) => (((Kept.refl W11).alloc A t).cell (a := ⟨g2, 1, none⟩) r11.lt).trans r1
    have f0a := fun (A : Array Value) (t : TypeId) (i : Nat) => (((Kept.refl W11).alloc A t).frozen (a := ⟨g2, i, none⟩) r11.lt).trans (f0 i)
    have i2 : 0 < l := by omega
    clear hW k11 r11 rV kV RW
    go_region
    generalize hW : ((W11.alloc (Obj.cells #[Value.bool false, Value.bool false] 4)).setCell ⟨g2, 1, none⟩ (.slice (some ⟨W11.heap.size, 0, none⟩) 2 2)).drew = W12
    have R12 : W12.rowIs g2 29 (l * 2) (cf fun i => if i = 0 then ⟨true, some ⟨W11.heap.size, 0, none⟩, 2, 2⟩ else T2 i) := by rw [← hW]; exact row_first ⟨true, some ⟨W11.heap.size, 0, none⟩, 2, 2⟩ (Q11.out.2.2.2.alloc _)
    have E12 : Own W12 V.heap.size 24 (cl n0 n1 n2 n3 n4 n5 n6 n7 (.slice (some ⟨g2, 0, none⟩) l l)) := by rw [← hW]; exact (E11.out.alloc _).set_other (by have := Q11.out.2.2.1; simp; omega) _
    have K12 : Kept w9 W12 := by rw [← hW]; exact ((Q11.out.1.alloc _ _).setCell Q11.out.2.1 _).drew
    have O12 := row_owns R12 Q11.out.2.1 (by omega)
    have V9 : w9.heap.size ≤ V.heap.size := Nat.le_trans Q11.out.2.1 (Nat.le_of_lt Q11.out.2.2.1)
    have HH : Hid (_ ∧ _ ∧ _ ∧ w9.heap.size ≤ g2 ∧ _) := ⟨E12, K12, O12, Q11.out.2.1, V9⟩
    have e8 := E12.blk.at 8 rfl
    clear hW R12 E12 K12 O12 V9 Q11 E11 e8a r1a f0a r1 f0 hmk
    obtain ⟨i0, hi, hz0, hz1, hz2⟩ := info_parts info_shape
    go_wp2_with (at_builtin; refine wpList_append_own _ rfl _ _ 22 rfl w9.heap.size 29 i0 (.agg #[.bool false, .slice none 0 0]) 2 32 Try.underlying22 hi hz0 hz1 hz2 rfl (by decide) _ _ _ rfl (HH.out.2.2.1.alloc _) ⟨W12.heap.size, 0, none⟩ 1 1 [.bool false, .slice none 0 0] rfl rfl ?c1_4 ?c2_4 ?c3_4 ?c4_4 ?c5_4 ?_)
    case c1_4 =>
      intro j u hj
      match j, hj with
      | 0, hj => simp at hj; subst hj; simp [Addr.add]
      | 1, hj => simp at hj; subst hj; simp [Addr.add]
    case c2_4 => intro u hu; simp at hu; rcases hu with rfl | rfl <;> rfl
    case c3_4 => unfold maxLen; omega
    case c4_4 => omega
    case c5_4 => have := HH.out.2.1.size; simp; omega
    intro v' w13 hown' hgrow _
    obtain ⟨g3, cap3, rfl, hg3⟩ := owns_some hown' (by omega)
    have E13 : Own w13 V.heap.size 24 _ := (HH.out.1.alloc _).grown hgrow (HH.out.1.ne HH.out.2.2.1 (by decide))
    have K13 : Kept w9 w13 := (HH.out.2.1.alloc _ _).grownBy hgrow (fun k hk => by
      simp only [Value.ownBlock, Option.some.injEq] at hk
      subst hk
      exact HH.out.2.2.2.1)
    have HN : Hid (Blk _ _ _ ∧ Kept _ _ ∧ Shps _ _ _ _) := ⟨(E13.set 8 (.slice (some ⟨g3, 0, none⟩) (l + 1) cap3)).blk, K13.setCell (a := ⟨V.heap.size, 8, none⟩) HH.out.2.2.2.2 (.slice (some ⟨g3, 0, none⟩) (l + 1) cap3), owns_shps (ownsRow_setCell_other hown' (a := ⟨V.heap.size, 8, none⟩) (E13.ne hown' (by decide)) (.slice (some ⟨g3, 0, none⟩) (l + 1) cap3))⟩
    have e8 := E13.blk.at 8 rfl
    have f8 := E13.blk.fz
    clear hown' hgrow E13 K13 hg3 HH
    go_wp2_with fail
    refine (first_any _).mono ?_
    rintro e w15 ⟨rfl, K⟩
    have E15 : Hid (Blk w15 V.heap.size _) := HN.out.1.kept K
    have K15 : Hid (Kept w9 w15) := HN.out.2.1.trans K
    have S15 : Hid (Shps w15 _ _ _) := HN.out.2.2.kept K
    clear K HN e8 f8
    have c0 := E15.out.at 0 rfl
    have c1 := E15.out.at 1 rfl
    have c2 := E15.out.at 2 rfl
    have c3 := E15.out.at 3 rfl
    have c4 := E15.out.at 4 rfl
    have c5 := E15.out.at 5 rfl
    have c6 := E15.out.at 6 rfl
    have c7 := E15.out.at 7 rfl
    have c8 := E15.out.at 8 rfl
    go_wp2_with fail
    refine (check_any n0 n1 n2 n3 n4 n5 n6 n7 (some ⟨g3, 0, none⟩) (l + 1) cap3 _ 4 _ S15.out (Checks.of_kind HF.out.2.1 fun m => by
      have h := m.2.2 0 (by omega)
      have h0 : ¬ (0 : Nat) = l := by omega
      simp [h0, Sh.may] at h)).mono ?_
    rintro e w16 ⟨rfl, K⟩
    have B16 : Hid (Blk w16 w.heap.size _) := B9.out.kept (K15.out.trans K)
    have K16 : Hid (Kept w w16) := K9.out.trans (K15.out.trans K)
    clear K c0 c1 c2 c3 c4 c5 c6 c7 c8
    have c0 := B16.out.at 0 rfl
    have c1 := B16.out.at 1 rfl
    have c2 := B16.out.at 2 rfl
    have c3 := B16.out.at 3 rfl
    have c4 := B16.out.at 4 rfl
    have c5 := B16.out.at 5 rfl
    have c6 := B16.out.at 6 rfl
    have c7 := B16.out.at 7 rfl
    have c8 := B16.out.at 8 rfl
    go_wp2_with fail
    refine (C.out _ (HS.out.kept K16.out)).mono ?_
    rintro e w17 ⟨rfl, K⟩
    have K17 : Hid (Kept w w17) := K16.out.trans K
    clear K c0 c1 c2 c3 c4 c5 c6 c7 c8
    go_wp2
    go_ret
    exact ⟨rfl, K17.out⟩
  · generalize hW : w7.setCell _ _ = W8
    have K8 : Kept w5 W8 := by rw [← hW]; exact K7.out.setCell (by simp) _
    clear hW c0 c1 c2 c3 c4 c5 c6 c7 c8 f0
    refine (check_any _ _ _ _ _ _ _ _ (some ⟨g1, 0, none⟩) l l T1 1 _ (R1.out.kept K8) (Checks.of_out (by unfold Fits; omega))).mono ?_
    rintro e w9 ⟨rfl, K⟩
    have B9 : Hid (Blk w9 w.heap.size _) := BC.out.kept (K8.trans K)
    have K9 : Hid (Kept w w9) := K5.out.trans (K8.trans K)
    clear K K8 K7 D7
    have c0 := B9.out.at 0 rfl
    have c1 := B9.out.at 1 rfl
    have c2 := B9.out.at 2 rfl
    have c3 := B9.out.at 3 rfl
    have c4 := B9.out.at 4 rfl
    have c5 := B9.out.at 5 rfl
    have c6 := B9.out.at 6 rfl
    have c7 := B9.out.at 7 rfl
    have c8 := B9.out.at 8 rfl
    go_wp2_with fail
    refine (CP.out _ K9.out).mono ?_
    rintro e w10 ⟨g2, T2, rfl, hg2, hrow2, hcop2, K⟩
    have RW : Hid (Kept w9 w10 ∧ w9.heap.size ≤ g2 ∧ w10.rowIs g2 29 (l * 2) (cf T2)) := ⟨K, hg2, hrow2⟩
    clear K hg2 hrow2 hcop2 c0 c1 c2 c3 c4 c5 c6 c7 c8
    have r0 := RW.out.2.2.cell (i := 0) (by omega)
    have r1 := RW.out.2.2.cell (i := 1) (by omega)
    have f0 := RW.out.2.2.frozen
    have lt2 : g2 < w10.heap.size := RW.out.2.2.lt
    have i1 : (0 : Int) < (l : Int) := by omega
    go_wp2_with fail
    generalize hV : w10.setCell ⟨g2, 0, none⟩ (.bool true) = V
    have rV : V.rowIs g2 29 (l * 2) (fun j => if j = 0 then .bool true else cf T2 j) := by rw [← hV]; exact RW.out.2.2.set 0 (.bool true)
    have kV : Kept w9 V := by rw [← hV]; exact RW.out.1.setCell RW.out.2.1 _
    have sV : w10.heap.size = V.heap.size := by rw [← hV]; simp
    rw [sV]
    clear hV r0 r1 f0 lt2 sV
    generalize hW : V.alloc _ = W11
    have E11 : Hid (Own W11 V.heap.size 24 (cl n0 n1 n2 n3 n4 n5 n6 n7 (.slice (some ⟨g2, 0, none⟩) l l))) := by rw [← hW]; exact Own.new V _ _
    have k11 : Kept V W11 := by rw [← hW]; exact (Kept.refl V).alloc _ _
    have r11 : W11.rowIs g2 29 (l * 2) (fun j => if j = 0 then .bool true else cf T2 j) := k11.row rV
    have Q11 : Hid (Kept w9 W11 ∧ w9.heap.size ≤ g2 ∧ g2 < V.heap.size ∧ W11.rowIs g2 29 (l * 2) (fun j => if j = 0 then .bool true else cf T2 j)) := ⟨kV.trans k11, RW.out.2.1, rV.lt, r11⟩
    have e8 := E11.out.blk.at 8 rfl
    have r1 := r11.cell (i := 1) (by omega)
    have f0 := r11.frozen
    have hmk : ∀ w, (Instr.makeSlice 27 (.int .i64 2) (.int .i64 2)).run Try.prog w = .ok (.slice (some ⟨w.heap.size, 0, none⟩) 2 2) (w.alloc (.cells #[.bool false, .bool false] 4)) := fun _ => by kernel_rfl
    have e8a := fun (A : Array Value) (t : TypeId) => (((Kept.refl W11).alloc A t).cell (a := ⟨V.heap.size, 8, none⟩) E11.out.lt).trans e8
    have r1a := fun (A : Array Value) (t : TypeId) => (((Kept.refl W11).alloc A t).cell (a := ⟨g2, 1, none⟩) r11.lt).trans r1
    have f0a := fun (A : Array Value) (t : TypeId) (i : Nat) => (((Kept.refl W11).alloc A t).frozen (a := ⟨g2, i, none⟩) r11.lt).trans (f0 i)
    have i2 : 0 < l := by omega
    clear hW k11 r11 rV kV RW
    go_region
    generalize hW : ((W11.alloc (Obj.cells #[Value.bool false, Value.bool false] 4)).setCell ⟨g2, 1, none⟩ (.slice (some ⟨W11.heap.size, 0, none⟩) 2 2)).drew = W12
    have R12 : W12.rowIs g2 29 (l * 2) (cf fun i => if i = 0 then ⟨true, some ⟨W11.heap.size, 0, none⟩, 2, 2⟩ else T2 i) := by rw [← hW]; exact row_first ⟨true, some ⟨W11.heap.size, 0, none⟩, 2, 2⟩ (Q11.out.2.2.2.alloc _)
    have E12 : Own W12 V.heap.size 24 (cl n0 n1 n2 n3 n4 n5 n6 n7 (.slice (some ⟨g2, 0, none⟩) l l)) := by rw [← hW]; exact (E11.out.alloc _).set_other (by have := Q11.out.2.2.1; simp; omega) _
    have K12 : Kept w9 W12 := by rw [← hW]; exact ((Q11.out.1.alloc _ _).setCell Q11.out.2.1 _).drew
    have O12 := row_owns R12 Q11.out.2.1 (by omega)
    have V9 : w9.heap.size ≤ V.heap.size := Nat.le_trans Q11.out.2.1 (Nat.le_of_lt Q11.out.2.2.1)
    have HH : Hid (_ ∧ _ ∧ _ ∧ w9.heap.size ≤ g2 ∧ _) := ⟨E12, K12, O12, Q11.out.2.1, V9⟩
    have e8 := E12.blk.at 8 rfl
    clear hW R12 E12 K12 O12 V9 Q11 E11 e8a r1a f0a r1 f0 hmk
    obtain ⟨i0, hi, hz0, hz1, hz2⟩ := info_parts info_shape
    go_wp2_with (at_builtin; refine wpList_append_own _ rfl _ _ 22 rfl w9.heap.size 29 i0 (.agg #[.bool false, .slice none 0 0]) 2 32 Try.underlying22 hi hz0 hz1 hz2 rfl (by decide) _ _ _ rfl (HH.out.2.2.1.alloc _) ⟨W12.heap.size, 0, none⟩ 1 1 [.bool false, .slice none 0 0] rfl rfl ?c1_5 ?c2_5 ?c3_5 ?c4_5 ?c5_5 ?_)
    case c1_5 =>
      intro j u hj
      match j, hj with
      | 0, hj => simp at hj; subst hj; simp [Addr.add]
      | 1, hj => simp at hj; subst hj; simp [Addr.add]
    case c2_5 => intro u hu; simp at hu; rcases hu with rfl | rfl <;> rfl
    case c3_5 => unfold maxLen; omega
    case c4_5 => omega
    case c5_5 => have := HH.out.2.1.size; simp; omega
    intro v' w13 hown' hgrow _
    obtain ⟨g3, cap3, rfl, hg3⟩ := owns_some hown' (by omega)
    have E13 : Own w13 V.heap.size 24 _ := (HH.out.1.alloc _).grown hgrow (HH.out.1.ne HH.out.2.2.1 (by decide))
    have K13 : Kept w9 w13 := (HH.out.2.1.alloc _ _).grownBy hgrow (fun k hk => by
      simp only [Value.ownBlock, Option.some.injEq] at hk
      subst hk
      exact HH.out.2.2.2.1)
    have HN : Hid (Blk _ _ _ ∧ Kept _ _ ∧ Shps _ _ _ _) := ⟨(E13.set 8 (.slice (some ⟨g3, 0, none⟩) (l + 1) cap3)).blk, K13.setCell (a := ⟨V.heap.size, 8, none⟩) HH.out.2.2.2.2 (.slice (some ⟨g3, 0, none⟩) (l + 1) cap3), owns_shps (ownsRow_setCell_other hown' (a := ⟨V.heap.size, 8, none⟩) (E13.ne hown' (by decide)) (.slice (some ⟨g3, 0, none⟩) (l + 1) cap3))⟩
    have e8 := E13.blk.at 8 rfl
    have f8 := E13.blk.fz
    clear hown' hgrow E13 K13 hg3 HH
    go_wp2_with fail
    refine (first_any _).mono ?_
    rintro e w15 ⟨rfl, K⟩
    have E15 : Hid (Blk w15 V.heap.size _) := HN.out.1.kept K
    have K15 : Hid (Kept w9 w15) := HN.out.2.1.trans K
    have S15 : Hid (Shps w15 _ _ _) := HN.out.2.2.kept K
    clear K HN e8 f8
    have c0 := E15.out.at 0 rfl
    have c1 := E15.out.at 1 rfl
    have c2 := E15.out.at 2 rfl
    have c3 := E15.out.at 3 rfl
    have c4 := E15.out.at 4 rfl
    have c5 := E15.out.at 5 rfl
    have c6 := E15.out.at 6 rfl
    have c7 := E15.out.at 7 rfl
    have c8 := E15.out.at 8 rfl
    go_wp2_with fail
    refine (check_any n0 n1 n2 n3 n4 n5 n6 n7 (some ⟨g3, 0, none⟩) (l + 1) cap3 _ 4 _ S15.out (Checks.of_kind HF.out.2.1 fun m => by
      have h := m.2.2 0 (by omega)
      have h0 : ¬ (0 : Nat) = l := by omega
      simp [h0, Sh.may] at h)).mono ?_
    rintro e w16 ⟨rfl, K⟩
    have B16 : Hid (Blk w16 w.heap.size _) := B9.out.kept (K15.out.trans K)
    have K16 : Hid (Kept w w16) := K9.out.trans (K15.out.trans K)
    clear K c0 c1 c2 c3 c4 c5 c6 c7 c8
    have c0 := B16.out.at 0 rfl
    have c1 := B16.out.at 1 rfl
    have c2 := B16.out.at 2 rfl
    have c3 := B16.out.at 3 rfl
    have c4 := B16.out.at 4 rfl
    have c5 := B16.out.at 5 rfl
    have c6 := B16.out.at 6 rfl
    have c7 := B16.out.at 7 rfl
    have c8 := B16.out.at 8 rfl
    go_wp2_with fail
    refine (C.out _ (HS.out.kept K16.out)).mono ?_
    rintro e w17 ⟨rfl, K⟩
    have K17 : Hid (Kept w w17) := K16.out.trans K
    clear K c0 c1 c2 c3 c4 c5 c6 c7 c8
    go_wp2
    go_ret
    exact ⟨rfl, K17.out⟩
  · generalize hW : w7.setCell _ _ = W8
    have K8 : Kept w5 W8 := by rw [← hW]; exact K7.out.setCell (by simp) _
    clear hW c0 c1 c2 c3 c4 c5 c6 c7 c8 f0
    refine (check_any _ _ _ _ _ _ _ _ (some ⟨g1, 0, none⟩) l l T1 1 _ (R1.out.kept K8) (Checks.of_out (by unfold Fits; omega))).mono ?_
    rintro e w9 ⟨rfl, K⟩
    have B9 : Hid (Blk w9 w.heap.size _) := BC.out.kept (K8.trans K)
    have K9 : Hid (Kept w w9) := K5.out.trans (K8.trans K)
    clear K K8 K7 D7
    have c0 := B9.out.at 0 rfl
    have c1 := B9.out.at 1 rfl
    have c2 := B9.out.at 2 rfl
    have c3 := B9.out.at 3 rfl
    have c4 := B9.out.at 4 rfl
    have c5 := B9.out.at 5 rfl
    have c6 := B9.out.at 6 rfl
    have c7 := B9.out.at 7 rfl
    have c8 := B9.out.at 8 rfl
    go_wp2_with fail
    refine (CP.out _ K9.out).mono ?_
    rintro e w10 ⟨g2, T2, rfl, hg2, hrow2, hcop2, K⟩
    have RW : Hid (Kept w9 w10 ∧ w9.heap.size ≤ g2 ∧ w10.rowIs g2 29 (l * 2) (cf T2)) := ⟨K, hg2, hrow2⟩
    clear K hg2 hrow2 hcop2 c0 c1 c2 c3 c4 c5 c6 c7 c8
    have r0 := RW.out.2.2.cell (i := 0) (by omega)
    have r1 := RW.out.2.2.cell (i := 1) (by omega)
    have f0 := RW.out.2.2.frozen
    have lt2 : g2 < w10.heap.size := RW.out.2.2.lt
    have i1 : (0 : Int) < (l : Int) := by omega
    go_wp2_with fail
    generalize hV : w10.setCell ⟨g2, 0, none⟩ (.bool true) = V
    have rV : V.rowIs g2 29 (l * 2) (fun j => if j = 0 then .bool true else cf T2 j) := by rw [← hV]; exact RW.out.2.2.set 0 (.bool true)
    have kV : Kept w9 V := by rw [← hV]; exact RW.out.1.setCell RW.out.2.1 _
    have sV : w10.heap.size = V.heap.size := by rw [← hV]; simp
    rw [sV]
    clear hV r0 r1 f0 lt2 sV
    generalize hW : V.alloc _ = W11
    have E11 : Hid (Own W11 V.heap.size 24 (cl n0 n1 n2 n3 n4 n5 n6 n7 (.slice (some ⟨g2, 0, none⟩) l l))) := by rw [← hW]; exact Own.new V _ _
    have k11 : Kept V W11 := by rw [← hW]; exact (Kept.refl V).alloc _ _
    have r11 : W11.rowIs g2 29 (l * 2) (fun j => if j = 0 then .bool true else cf T2 j) := k11.row rV
    have Q11 : Hid (Kept w9 W11 ∧ w9.heap.size ≤ g2 ∧ g2 < V.heap.size ∧ W11.rowIs g2 29 (l * 2) (fun j => if j = 0 then .bool true else cf T2 j)) := ⟨kV.trans k11, RW.out.2.1, rV.lt, r11⟩
    have e8 := E11.out.blk.at 8 rfl
    have r1 := r11.cell (i := 1) (by omega)
    have f0 := r11.frozen
    have hmk : ∀ w, (Instr.makeSlice 27 (.int .i64 2) (.int .i64 2)).run Try.prog w = .ok (.slice (some ⟨w.heap.size, 0, none⟩) 2 2) (w.alloc (.cells #[.bool false, .bool false] 4)) := fun _ => by kernel_rfl
    have e8a := fun (A : Array Value) (t : TypeId) => (((Kept.refl W11).alloc A t).cell (a := ⟨V.heap.size, 8, none⟩) E11.out.lt).trans e8
    have r1a := fun (A : Array Value) (t : TypeId) => (((Kept.refl W11).alloc A t).cell (a := ⟨g2, 1, none⟩) r11.lt).trans r1
    have f0a := fun (A : Array Value) (t : TypeId) (i : Nat) => (((Kept.refl W11).alloc A t).frozen (a := ⟨g2, i, none⟩) r11.lt).trans (f0 i)
    have i2 : 0 < l := by omega
    clear hW k11 r11 rV kV RW
    go_region
    generalize hW : ((W11.alloc (Obj.cells #[Value.bool false, Value.bool false] 4)).setCell ⟨g2, 1, none⟩ (.slice (some ⟨W11.heap.size, 0, none⟩) 2 2)).drew = W12
    have R12 : W12.rowIs g2 29 (l * 2) (cf fun i => if i = 0 then ⟨true, some ⟨W11.heap.size, 0, none⟩, 2, 2⟩ else T2 i) := by rw [← hW]; exact row_first ⟨true, some ⟨W11.heap.size, 0, none⟩, 2, 2⟩ (Q11.out.2.2.2.alloc _)
    have E12 : Own W12 V.heap.size 24 (cl n0 n1 n2 n3 n4 n5 n6 n7 (.slice (some ⟨g2, 0, none⟩) l l)) := by rw [← hW]; exact (E11.out.alloc _).set_other (by have := Q11.out.2.2.1; simp; omega) _
    have K12 : Kept w9 W12 := by rw [← hW]; exact ((Q11.out.1.alloc _ _).setCell Q11.out.2.1 _).drew
    have O12 := row_owns R12 Q11.out.2.1 (by omega)
    have V9 : w9.heap.size ≤ V.heap.size := Nat.le_trans Q11.out.2.1 (Nat.le_of_lt Q11.out.2.2.1)
    have HH : Hid (_ ∧ _ ∧ _ ∧ w9.heap.size ≤ g2 ∧ _) := ⟨E12, K12, O12, Q11.out.2.1, V9⟩
    have e8 := E12.blk.at 8 rfl
    clear hW R12 E12 K12 O12 V9 Q11 E11 e8a r1a f0a r1 f0 hmk
    obtain ⟨i0, hi, hz0, hz1, hz2⟩ := info_parts info_shape
    go_wp2_with (at_builtin; refine wpList_append_own _ rfl _ _ 22 rfl w9.heap.size 29 i0 (.agg #[.bool false, .slice none 0 0]) 2 32 Try.underlying22 hi hz0 hz1 hz2 rfl (by decide) _ _ _ rfl (HH.out.2.2.1.alloc _) ⟨W12.heap.size, 0, none⟩ 1 1 [.bool false, .slice none 0 0] rfl rfl ?c1_6 ?c2_6 ?c3_6 ?c4_6 ?c5_6 ?_)
    case c1_6 =>
      intro j u hj
      match j, hj with
      | 0, hj => simp at hj; subst hj; simp [Addr.add]
      | 1, hj => simp at hj; subst hj; simp [Addr.add]
    case c2_6 => intro u hu; simp at hu; rcases hu with rfl | rfl <;> rfl
    case c3_6 => unfold maxLen; omega
    case c4_6 => omega
    case c5_6 => have := HH.out.2.1.size; simp; omega
    intro v' w13 hown' hgrow _
    obtain ⟨g3, cap3, rfl, hg3⟩ := owns_some hown' (by omega)
    have E13 : Own w13 V.heap.size 24 _ := (HH.out.1.alloc _).grown hgrow (HH.out.1.ne HH.out.2.2.1 (by decide))
    have K13 : Kept w9 w13 := (HH.out.2.1.alloc _ _).grownBy hgrow (fun k hk => by
      simp only [Value.ownBlock, Option.some.injEq] at hk
      subst hk
      exact HH.out.2.2.2.1)
    have HN : Hid (Blk _ _ _ ∧ Kept _ _ ∧ Shps _ _ _ _) := ⟨(E13.set 8 (.slice (some ⟨g3, 0, none⟩) (l + 1) cap3)).blk, K13.setCell (a := ⟨V.heap.size, 8, none⟩) HH.out.2.2.2.2 (.slice (some ⟨g3, 0, none⟩) (l + 1) cap3), owns_shps (ownsRow_setCell_other hown' (a := ⟨V.heap.size, 8, none⟩) (E13.ne hown' (by decide)) (.slice (some ⟨g3, 0, none⟩) (l + 1) cap3))⟩
    have e8 := E13.blk.at 8 rfl
    have f8 := E13.blk.fz
    clear hown' hgrow E13 K13 hg3 HH
    go_wp2_with fail
    refine (first_any _).mono ?_
    rintro e w15 ⟨rfl, K⟩
    have E15 : Hid (Blk w15 V.heap.size _) := HN.out.1.kept K
    have K15 : Hid (Kept w9 w15) := HN.out.2.1.trans K
    have S15 : Hid (Shps w15 _ _ _) := HN.out.2.2.kept K
    clear K HN e8 f8
    have c0 := E15.out.at 0 rfl
    have c1 := E15.out.at 1 rfl
    have c2 := E15.out.at 2 rfl
    have c3 := E15.out.at 3 rfl
    have c4 := E15.out.at 4 rfl
    have c5 := E15.out.at 5 rfl
    have c6 := E15.out.at 6 rfl
    have c7 := E15.out.at 7 rfl
    have c8 := E15.out.at 8 rfl
    go_wp2_with fail
    refine (check_any n0 n1 n2 n3 n4 n5 n6 n7 (some ⟨g3, 0, none⟩) (l + 1) cap3 _ 4 _ S15.out (Checks.of_kind HF.out.2.1 fun m => by
      have h := m.2.2 0 (by omega)
      have h0 : ¬ (0 : Nat) = l := by omega
      simp [h0, Sh.may] at h)).mono ?_
    rintro e w16 ⟨rfl, K⟩
    have B16 : Hid (Blk w16 w.heap.size _) := B9.out.kept (K15.out.trans K)
    have K16 : Hid (Kept w w16) := K9.out.trans (K15.out.trans K)
    clear K c0 c1 c2 c3 c4 c5 c6 c7 c8
    have c0 := B16.out.at 0 rfl
    have c1 := B16.out.at 1 rfl
    have c2 := B16.out.at 2 rfl
    have c3 := B16.out.at 3 rfl
    have c4 := B16.out.at 4 rfl
    have c5 := B16.out.at 5 rfl
    have c6 := B16.out.at 6 rfl
    have c7 := B16.out.at 7 rfl
    have c8 := B16.out.at 8 rfl
    go_wp2_with fail
    refine (C.out _ (HS.out.kept K16.out)).mono ?_
    rintro e w17 ⟨rfl, K⟩
    have K17 : Hid (Kept w w17) := K16.out.trans K
    clear K c0 c1 c2 c3 c4 c5 c6 c7 c8
    go_wp2
    go_ret
    exact ⟨rfl, K17.out⟩
  · generalize hW : w7.setCell _ _ = W8
    have K8 : Kept w5 W8 := by rw [← hW]; exact K7.out.setCell (by simp) _
    clear hW c0 c1 c2 c3 c4 c5 c6 c7 c8 f0
    refine (check_any _ _ _ _ _ _ _ _ (some ⟨g1, 0, none⟩) l l T1 1 _ (R1.out.kept K8) (Checks.of_out (by unfold Fits; omega))).mono ?_
    rintro e w9 ⟨rfl, K⟩
    have B9 : Hid (Blk w9 w.heap.size _) := BC.out.kept (K8.trans K)
    have K9 : Hid (Kept w w9) := K5.out.trans (K8.trans K)
    clear K K8 K7 D7
    have c0 := B9.out.at 0 rfl
    have c1 := B9.out.at 1 rfl
    have c2 := B9.out.at 2 rfl
    have c3 := B9.out.at 3 rfl
    have c4 := B9.out.at 4 rfl
    have c5 := B9.out.at 5 rfl
    have c6 := B9.out.at 6 rfl
    have c7 := B9.out.at 7 rfl
    have c8 := B9.out.at 8 rfl
    go_wp2_with fail
    refine (CP.out _ K9.out).mono ?_
    rintro e w10 ⟨g2, T2, rfl, hg2, hrow2, hcop2, K⟩
    have RW : Hid (Kept w9 w10 ∧ w9.heap.size ≤ g2 ∧ w10.rowIs g2 29 (l * 2) (cf T2)) := ⟨K, hg2, hrow2⟩
    clear K hg2 hrow2 hcop2 c0 c1 c2 c3 c4 c5 c6 c7 c8
    have r0 := RW.out.2.2.cell (i := 0) (by omega)
    have r1 := RW.out.2.2.cell (i := 1) (by omega)
    have f0 := RW.out.2.2.frozen
    have lt2 : g2 < w10.heap.size := RW.out.2.2.lt
    have i1 : (0 : Int) < (l : Int) := by omega
    go_wp2_with fail
    generalize hV : w10.setCell ⟨g2, 0, none⟩ (.bool true) = V
    have rV : V.rowIs g2 29 (l * 2) (fun j => if j = 0 then .bool true else cf T2 j) := by rw [← hV]; exact RW.out.2.2.set 0 (.bool true)
    have kV : Kept w9 V := by rw [← hV]; exact RW.out.1.setCell RW.out.2.1 _
    have sV : w10.heap.size = V.heap.size := by rw [← hV]; simp
    rw [sV]
    clear hV r0 r1 f0 lt2 sV
    generalize hW : V.alloc _ = W11
    have E11 : Hid (Own W11 V.heap.size 24 (cl n0 n1 n2 n3 n4 n5 n6 n7 (.slice (some ⟨g2, 0, none⟩) l l))) := by rw [← hW]; exact Own.new V _ _
    have k11 : Kept V W11 := by rw [← hW]; exact (Kept.refl V).alloc _ _
    have r11 : W11.rowIs g2 29 (l * 2) (fun j => if j = 0 then .bool true else cf T2 j) := k11.row rV
    have Q11 : Hid (Kept w9 W11 ∧ w9.heap.size ≤ g2 ∧ g2 < V.heap.size ∧ W11.rowIs g2 29 (l * 2) (fun j => if j = 0 then .bool true else cf T2 j)) := ⟨kV.trans k11, RW.out.2.1, rV.lt, r11⟩
    have e8 := E11.out.blk.at 8 rfl
    have r1 := r11.cell (i := 1) (by omega)
    have f0 := r11.frozen
    have hmk : ∀ w, (Instr.makeSlice 27 (.int .i64 2) (.int .i64 2)).run Try.prog w = .ok (.slice (some ⟨w.heap.size, 0, none⟩) 2 2) (w.alloc (.cells #[.bool false, .bool false] 4)) := fun _ => by kernel_rfl
    have e8a := fun (A : Array Value) (t : TypeId) => (((Kept.refl W11).alloc A t).cell (a := ⟨V.heap.size, 8, none⟩) E11.out.lt).trans e8
    have r1a := fun (A : Array Value) (t : TypeId) => (((Kept.refl W11).alloc A t).cell (a := ⟨g2, 1, none⟩) r11.lt).trans r1
    have f0a := fun (A : Array Value) (t : TypeId) (i : Nat) => (((Kept.refl W11).alloc A t).frozen (a := ⟨g2, i, none⟩) r11.lt).trans (f0 i)
    have i2 : 0 < l := by omega
    clear hW k11 r11 rV kV RW
    go_region
    generalize hW : ((W11.alloc (Obj.cells #[Value.bool false, Value.bool false] 4)).setCell ⟨g2, 1, none⟩ (.slice (some ⟨W11.heap.size, 0, none⟩) 2 2)).drew = W12
    have R12 : W12.rowIs g2 29 (l * 2) (cf fun i => if i = 0 then ⟨true, some ⟨W11.heap.size, 0, none⟩, 2, 2⟩ else T2 i) := by rw [← hW]; exact row_first ⟨true, some ⟨W11.heap.size, 0, none⟩, 2, 2⟩ (Q11.out.2.2.2.alloc _)
    have E12 : Own W12 V.heap.size 24 (cl n0 n1 n2 n3 n4 n5 n6 n7 (.slice (some ⟨g2, 0, none⟩) l l)) := by rw [← hW]; exact (E11.out.alloc _).set_other (by have := Q11.out.2.2.1; simp; omega) _
    have K12 : Kept w9 W12 := by rw [← hW]; exact ((Q11.out.1.alloc _ _).setCell Q11.out.2.1 _).drew
    have O12 := row_owns R12 Q11.out.2.1 (by omega)
    have V9 : w9.heap.size ≤ V.heap.size := Nat.le_trans Q11.out.2.1 (Nat.le_of_lt Q11.out.2.2.1)
    have HH : Hid (_ ∧ _ ∧ _ ∧ w9.heap.size ≤ g2 ∧ _) := ⟨E12, K12, O12, Q11.out.2.1, V9⟩
    have e8 := E12.blk.at 8 rfl
    clear hW R12 E12 K12 O12 V9 Q11 E11 e8a r1a f0a r1 f0 hmk
    obtain ⟨i0, hi, hz0, hz1, hz2⟩ := info_parts info_shape
    go_wp2_with (at_builtin; refine wpList_append_own _ rfl _ _ 22 rfl w9.heap.size 29 i0 (.agg #[.bool false, .slice none 0 0]) 2 32 Try.underlying22 hi hz0 hz1 hz2 rfl (by decide) _ _ _ rfl (HH.out.2.2.1.alloc _) ⟨W12.heap.size, 0, none⟩ 1 1 [.bool false, .slice none 0 0] rfl rfl ?c1_7 ?c2_7 ?c3_7 ?c4_7 ?c5_7 ?_)
    case c1_7 =>
      intro j u hj
      match j, hj with
      | 0, hj => simp at hj; subst hj; simp [Addr.add]
      | 1, hj => simp at hj; subst hj; simp [Addr.add]
    case c2_7 => intro u hu; simp at hu; rcases hu with rfl | rfl <;> rfl
    case c3_7 => unfold maxLen; omega
    case c4_7 => omega
    case c5_7 => have := HH.out.2.1.size; simp; omega
    intro v' w13 hown' hgrow _
    obtain ⟨g3, cap3, rfl, hg3⟩ := owns_some hown' (by omega)
    have E13 : Own w13 V.heap.size 24 _ := (HH.out.1.alloc _).grown hgrow (HH.out.1.ne HH.out.2.2.1 (by decide))
    have K13 : Kept w9 w13 := (HH.out.2.1.alloc _ _).grownBy hgrow (fun k hk => by
      simp only [Value.ownBlock, Option.some.injEq] at hk
      subst hk
      exact HH.out.2.2.2.1)
    have HN : Hid (Blk _ _ _ ∧ Kept _ _ ∧ Shps _ _ _ _) := ⟨(E13.set 8 (.slice (some ⟨g3, 0, none⟩) (l + 1) cap3)).blk, K13.setCell (a := ⟨V.heap.size, 8, none⟩) HH.out.2.2.2.2 (.slice (some ⟨g3, 0, none⟩) (l + 1) cap3), owns_shps (ownsRow_setCell_other hown' (a := ⟨V.heap.size, 8, none⟩) (E13.ne hown' (by decide)) (.slice (some ⟨g3, 0, none⟩) (l + 1) cap3))⟩
    have e8 := E13.blk.at 8 rfl
    have f8 := E13.blk.fz
    clear hown' hgrow E13 K13 hg3 HH
    go_wp2_with fail
    refine (first_any _).mono ?_
    rintro e w15 ⟨rfl, K⟩
    have E15 : Hid (Blk w15 V.heap.size _) := HN.out.1.kept K
    have K15 : Hid (Kept w9 w15) := HN.out.2.1.trans K
    have S15 : Hid (Shps w15 _ _ _) := HN.out.2.2.kept K
    clear K HN e8 f8
    have c0 := E15.out.at 0 rfl
    have c1 := E15.out.at 1 rfl
    have c2 := E15.out.at 2 rfl
    have c3 := E15.out.at 3 rfl
    have c4 := E15.out.at 4 rfl
    have c5 := E15.out.at 5 rfl
    have c6 := E15.out.at 6 rfl
    have c7 := E15.out.at 7 rfl
    have c8 := E15.out.at 8 rfl
    go_wp2_with fail
    refine (check_any n0 n1 n2 n3 n4 n5 n6 n7 (some ⟨g3, 0, none⟩) (l + 1) cap3 _ 4 _ S15.out (Checks.of_kind HF.out.2.1 fun m => by
      have h := m.2.2 0 (by omega)
      have h0 : ¬ (0 : Nat) = l := by omega
      simp [h0, Sh.may] at h)).mono ?_
    rintro e w16 ⟨rfl, K⟩
    have B16 : Hid (Blk w16 w.heap.size _) := B9.out.kept (K15.out.trans K)
    have K16 : Hid (Kept w w16) := K9.out.trans (K15.out.trans K)
    clear K c0 c1 c2 c3 c4 c5 c6 c7 c8
    have c0 := B16.out.at 0 rfl
    have c1 := B16.out.at 1 rfl
    have c2 := B16.out.at 2 rfl
    have c3 := B16.out.at 3 rfl
    have c4 := B16.out.at 4 rfl
    have c5 := B16.out.at 5 rfl
    have c6 := B16.out.at 6 rfl
    have c7 := B16.out.at 7 rfl
    have c8 := B16.out.at 8 rfl
    go_wp2_with fail
    refine (C.out _ (HS.out.kept K16.out)).mono ?_
    rintro e w17 ⟨rfl, K⟩
    have K17 : Hid (Kept w w17) := K16.out.trans K
    clear K c0 c1 c2 c3 c4 c5 c6 c7 c8
    go_wp2
    go_ret
    exact ⟨rfl, K17.out⟩

theorem confEdges_any (n0 n1 n2 n3 n4 n5 n6 n7 : Int) (x8 : Option Addr) (l8 c8 : Nat) (S8 : Nat → Sh) (R8 : Nat → Nat → Bool) (n9 : Int) (w : World) (_lo0 : IntKind.min .i64 ≤ n0) (_hi0 : n0 ≤ IntKind.max .i64) (_lo1 : IntKind.min .i64 ≤ n1) (_hi1 : n1 ≤ IntKind.max .i64) (_lo2 : IntKind.min .i64 ≤ n2) (_hi2 : n2 ≤ IntKind.max .i64) (_lo3 : IntKind.min .i64 ≤ n3) (_hi3 : n3 ≤ IntKind.max .i64) (_lo4 : IntKind.min .i64 ≤ n4) (_hi4 : n4 ≤ IntKind.max .i64) (_lo5 : IntKind.min .i64 ≤ n5) (_hi5 : n5 ≤ IntKind.max .i64) (_lo6 : IntKind.min .i64 ≤ n6) (_hi6 : n6 ≤ IntKind.max .i64) (_lo7 : IntKind.min .i64 ≤ n7) (_hi7 : n7 ≤ IntKind.max .i64) (_h8c : l8 ≤ c8) (hS8 : Shps w x8 l8 S8) (hR8 : ∀ i, i < l8 → Refs w (S8 i).x (S8 i).l (R8 i)) (_lo9 : IntKind.min .i64 ≤ n9) (_hi9 : n9 ≤ IntKind.max .i64) :
    Calls Try.prog 4 #[.agg #[.int .i64 n0, .int .i64 n1, .int .i64 n2, .int .i64 n3, .int .i64 n4, .int .i64 n5, .int .i64 n6, .int .i64 n7, .slice x8 l8 c8], .int .i64 n9] w fun e w' => e = .returned (.bool true) ∧ Kept w w' := by
  by_cases hf : Small l8 S8
  · by_cases hb : Fits n0 n1 n2 n3 n4 n5 n6 n7 ∧ Mays l8 S8
    · exact edges_good n0 n1 n2 n3 n4 n5 n6 n7 x8 l8 c8 S8 R8 n9 w hS8 hR8 hf hb.1 hb.2
    · exact edges_bad n0 n1 n2 n3 n4 n5 n6 n7 x8 l8 c8 S8 n9 w hS8 hf hb
  · exact edges_many n0 n1 n2 n3 n4 n5 n6 n7 x8 l8 c8 S8 n9 w hS8 hf
end Go.Proofs.Ytpeplgiofiikhaa
