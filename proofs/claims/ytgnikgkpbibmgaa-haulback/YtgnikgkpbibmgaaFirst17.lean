/-
  The laws' own 'first' of package spolaw17 returns true; what was there is kept.
-/
import Derived.Test.YtgnikgkpbibmgaaHaN
namespace Go.Proofs.Ytgnikgkpbibmgaa
open Go.RowKit

def F0 : Nat → Sh := fun _ => ⟨false, none, 0, 0⟩
theorem may0 : Mays 1 F0 := mays_one ⟨false, none, 0, 0⟩ rfl
theorem good17 (n0 n : Nat) (h0 : 4 ≤ n0 ∧ n0 ≤ 1024) (hn : n ≤ 2000) : Good (n0 : Int) (n : Int) 0 1 1 0 1 0 1 F0 := by
  refine ⟨?_, may0⟩
  unfold Fits
  simp
  omega

set_option maxRecDepth 20000 in
set_option maxHeartbeats 8000000 in
theorem first_any (w : World) : Calls Try.prog 6 #[] w fun e w' => e = .returned (.bool true) ∧ Kept w w' := by
  go_enter Try.func6, Try.ntmps6
  go_wp2_with fail
  generalize hW0 : w.alloc (Obj.cells #[Value.bool false, Value.slice none 0 0] _) = W0
  have S0 : Shps W0 (some ⟨w.heap.size, 0, none⟩) 1 F0 := by
    rw [← hW0]
    exact shps_one ⟨false, none, 0, 0⟩ (by simp) (by simp) (by simp)
  have k0 : Kept w W0 := by rw [← hW0]; exact (Kept.refl w).alloc _ _
  have z0 : W0.heap.size = w.heap.size + 1 := by rw [← hW0]; simp
  clear hW0
  generalize hW1 : W0.alloc _ = W1
  have k1 : Kept W0 W1 := by rw [← hW1]; exact (Kept.refl W0).alloc _ _
  have b1 : Blk W1 (w.heap.size + 1) (cl 4 0 0 1 1 0 1 0 (.slice (some ⟨w.heap.size, 0, none⟩) 1 1)) := by rw [← hW1, ← z0]; exact Blk.new W0 _ _
  clear hW1
  have HU : Hid (Kept w W1 ∧ Blk W1 (w.heap.size + 1) (cl 4 0 0 1 1 0 1 0 (.slice (some ⟨w.heap.size, 0, none⟩) 1 1)) ∧ Shps W1 (some ⟨w.heap.size, 0, none⟩) 1 F0) := ⟨k0.trans k1, b1, S0.kept k1⟩
  clear S0 k0 z0 k1 b1
  have HG : Hid (Good (4 : Int) 0 0 1 1 0 1 0 1 F0) := good17 4 0 (by omega) (by omega)
  have CF : Hid (Calls Try.prog 7 #[.agg #[.int .i64 4, .int .i64 0, .int .i64 0, .int .i64 1, .int .i64 1, .int .i64 0, .int .i64 1, .int .i64 0, .slice (some ⟨w.heap.size, 0, none⟩) 1 1], .slice none 0 0] W1 _) := fill_nil 4 0 0 1 1 0 1 0 _ 1 1 F0 32 W1 HU.out.2.2 (Is.is _ HG.out) (by decide)
  refine CF.out.mono ?_
  rintro e V ⟨b, M, rfl, hM, K4, hb, hMb⟩
  have HV : Hid (Kept W1 V ∧ Mm V b M 32 (fun _ => cz) 0 ∧ W1.heap.size ≤ M ∧ W1.heap.size ≤ b) := ⟨K4, hM, hMb, hb⟩
  clear K4 hM hb hMb CF
  go_wp2_with fail
  refine (mh_new 4 HV.out.1 HV.out.2.1 HV.out.2.2.1 HV.out.2.2.2 (by decide)).mono ?_
  rintro e W ⟨sb, tb, g, pb, v, rfl, HMh⟩
  have H2 : Hid (Mh W1 W b M sb tb g pb v 32 0 (fun _ => cz) (ShS.new 4 1)) := HMh
  clear HMh HV
  have C2 : Hid (Calls Try.prog 9 #[.int .i64 0] W fun e w' => ∃ kb, e = .returned (.tuple #[.pointer (some ⟨kb, 0, none⟩), .int .i64 0]) ∧ Mz W1 w' ⟨b, M, kb, sb, tb, g, pb, v⟩ 32 0 (fun _ => cz) (ShS.new 4 1) ⟨0, 0, 0, 0, 0⟩) := mz_new 0 H2.out (by decide)
  go_wp2_with fail
  refine C2.out.mono ?_
  rintro e W2 ⟨kb, rfl, HZ⟩
  have H3 : Hid (Mz W1 W2 ⟨b, M, kb, sb, tb, g, pb, v⟩ 32 0 (fun _ => cz) (ShS.new 4 1) ⟨0, 0, 0, 0, 0⟩) := HZ
  clear HZ C2 H2
  have hcb := HU.out.2.1.kept H3.out.kept
  have c0 := hcb.at 0 rfl
  have c1 := hcb.at 1 rfl
  have c2 := hcb.at 2 rfl
  have c3 := hcb.at 3 rfl
  have c4 := hcb.at 4 rfl
  have c5 := hcb.at 5 rfl
  have c6 := hcb.at 6 rfl
  have c7 := hcb.at 7 rfl
  have c8 := hcb.at 8 rfl
  clear hcb
  have CN : Hid (Calls Try.prog 17 #[.agg #[.int .i64 4, .int .i64 0, .int .i64 0, .int .i64 1, .int .i64 1, .int .i64 0, .int .i64 1, .int .i64 0, .slice (some ⟨w.heap.size, 0, none⟩) 1 1], .int .i64 0, .int .i64 0, .bool true] W2 _) := hnew_none 4 0 0 1 1 0 1 0 _ 1 1 F0 (fun _ _ => false) 0 0 true W2 (HU.out.2.2.kept H3.out.kept) (fun i hi h => absurd h (by simp [F0])) HG.out (.inl rfl) (by decide) rfl
  go_wp2_with fail
  refine CN.out.mono ?_
  rintro e W3 ⟨p, E, rfl, hs, hp, hk, _⟩
  have HA : Hid (Al W1.heap.size ⟨b, M, kb, sb, tb, g, pb, v⟩ W3 32 0 (fun _ => cz) (ShS.new 4 1) ⟨0, 0, 0, 0, 0⟩ p E ⟨0, 0, true, 0, 0, 0, 0, false, 0, cz, 12, 0, 0, 0⟩ ∧ Kept W1 W3 ∧ W1.heap.size ≤ p) := ⟨⟨H3.out.mx.kept hk, hs, fun k hk2 => Nat.lt_of_lt_of_le (H3.out.mx.own hk2).2 hp⟩, H3.out.kept.trans hk, Nat.le_trans H3.out.kept.size hp⟩
  clear hs hp hk CN H3 c0 c1 c2 c3 c4 c5 c6 c7 c8
  have CS : Hid (Calls Try.prog 19 #[.pointer (some ⟨p, 0, none⟩), .pointer (some ⟨M, 0, none⟩), .pointer (some ⟨sb, 0, none⟩), .pointer (some ⟨kb, 0, none⟩)] W3 fun e w' => e = .returned (.bool true) ∧ Aft W1.heap.size ⟨b, M, kb, sb, tb, g, pb, v⟩ 32 0 (fun _ => cz) (ShS.new 4 1) ⟨0, 0, 0, 0, 0⟩ p E ⟨0, 0, true, 0, 0, 0, 0, false, 0, cz, 13, 0, 0, 1⟩ W3 w') := al_12 W3 HA.out.1 (by decide) rfl rfl
  go_wp2_with fail
  refine CS.out.mono ?_
  rintro e W4 ⟨rfl, hal, hm⟩
  have HB : Hid (Al W1.heap.size ⟨b, M, kb, sb, tb, g, pb, v⟩ W4 32 0 (fun _ => cz) (ShS.new 4 1) ⟨0, 0, 0, 0, 0⟩ p E ⟨0, 0, true, 0, 0, 0, 0, false, 0, cz, 13, 0, 0, 1⟩ ∧ Kept w W4) := ⟨hal, HU.out.1.trans (HA.out.2.1.muts hm (fun k hk => by
    rcases List.mem_cons.1 hk with r | r
    · rw [r]; exact HA.out.2.2
    · exact (HA.out.1.mx.own r).1))⟩
  clear hal hm CS HA
  have CD : Hid (Calls Try.prog 18 #[.pointer (some ⟨p, 0, none⟩)] W4 _) := hdone_is true W4 HB.out.1.hs rfl
  have CE : Hid (Calls Try.prog 23 #[.pointer (some ⟨p, 0, none⟩)] W4 fun e w' => e = .returned (.int .i64 0) ∧ w' = W4) := herrno_is W4 HB.out.1.hs
  have CP : Hid (Calls Try.prog 28 #[.pointer (some ⟨p, 0, none⟩)] W4 fun e w' => e = .returned (.int .i64 1) ∧ w' = W4) := hsteps_is W4 HB.out.1.hs
  have CM : Hid (Calls Try.prog 30 #[.pointer (some ⟨M, 0, none⟩)] W4 fun e w' => e = .returned (.int .i64 0) ∧ w' = W4) := mem_count W4 HB.out.1.mx.mm
  go_wp2_with fail
  refine CD.out.mono ?_
  rintro e w5 ⟨rfl, rfl⟩
  go_wp2_with fail
  refine CE.out.mono ?_
  rintro e w6 ⟨rfl, rfl⟩
  go_wp2_with fail
  refine CP.out.mono ?_
  rintro e w7 ⟨rfl, rfl⟩
  go_wp2_with fail
  refine CM.out.mono ?_
  rintro e w8 ⟨rfl, rfl⟩
  go_wp2
  go_ret
  exact ⟨rfl, HB.out.2⟩
end Go.Proofs.Ytgnikgkpbibmgaa
