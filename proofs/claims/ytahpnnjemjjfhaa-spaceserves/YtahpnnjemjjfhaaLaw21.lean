/-
  A space of the law's own; the laws' own made, first.
-/
import Derived.Test.YtahpnnjemjjfhaaSpcG
import Derived.Test.YtahpnnjemjjfhaaSpcI
namespace Go.Proofs.Ytahpnnjemjjfhaa
open Go.RowKit

/-- A space that came behind world w0. -/
structure Mys (w0 w : World) (c : Nat → Nat) (A : Ad) (S : Sp) : Prop where
  sh : SH w c A S
  kept : Kept w0 w
  new : ∀ k, c k ≠ 0 → w0.heap.size ≤ k
section
variable {w0 w w' : World} {c c' : Nat → Nat} {A : Ad} {S S' : Sp}
theorem Mys.step (h : Mys w0 w c A S) (s : SH w' c' A S') (p : Stp c w c' w') : Mys w0 w' c' A S' :=
  ⟨s, h.kept.muts p.mu fun k hk => h.new k (mem_cols.1 hk).2, fun k hk => by
    by_cases e : k < w.heap.size
    · rw [p.same k e] at hk; exact h.new k hk
    · have := h.kept.size; omega⟩
theorem Mys.keep (h : Mys w0 w c A S) (k : Kept w w') : Mys w0 w' c A S := ⟨h.sh.kept k, h.kept.trans k, h.new⟩
/-- What bears no colour and came behind was written. -/
theorem Mys.own {D : List Nat} (h : Mys w0 w c A S) (m : Mut D w w') (hd : ∀ k, k ∈ D → c k = 0 ∧ w0.heap.size ≤ k) : Mys w0 w' c A S :=
  ⟨h.sh.muts m fun k hk => (hd k hk).1, h.kept.muts m fun k hk => (hd k hk).2, h.new⟩
end

set_option maxHeartbeats 2000000 in
theorem made_any (n s m ch : Nat) (n2 n4 n6 n7 : Int) (x : Option Addr) (l c : Nat) (S : Nat → Sh) (R : Nat → Nat → Bool) (w : World) (hS : Shps w x l S) (hR : ∀ i, i < l → Refs w (S i).x (S i).l (R i)) (hg : Good n s n2 m n4 ch n6 n7 l S) :
    Calls Try.prog 13 #[.agg #[.int .i64 (n : Int), .int .i64 (s : Int), .int .i64 n2, .int .i64 (m : Int), .int .i64 n4, .int .i64 (ch : Int), .int .i64 n6, .int .i64 n7, .slice x l c]] w fun e w' =>
      ∃ A c', e = .returned (.tuple #[.pointer (some ⟨A.b, 0, none⟩), .pointer (some ⟨A.tb, 0, none⟩)]) ∧ Mys w w' c' A (Sp.new n s m ch) ∧ A.C.n7 = n7 := by
  have HSR : Hid (Shps w x l S ∧ ∀ i, i < l → Refs w (S i).x (S i).l (R i)) := ⟨hS, hR⟩
  have HG : Hid (Good n s n2 m n4 ch n6 n7 l S) := hg
  have hn : n ≤ 1024 := by have := hg.1.1; omega
  clear hS hR hg
  go_enter Try.func13, Try.ntmps13
  go_wp2_with fail
  generalize hW : w.alloc _ = W0
  have H0 : Hid (Blk W0 w.heap.size [.int .i64 (n : Int), .int .i64 (s : Int), .int .i64 n2, .int .i64 (m : Int), .int .i64 n4, .int .i64 (ch : Int), .int .i64 n6, .int .i64 n7, .slice x l c] ∧ Kept w W0) := by
    rw [← hW]
    exact ⟨Blk.new w _ _, (Kept.refl w).alloc _ _⟩
  clear hW
  have b0 := H0.out.1.at 0 rfl
  have CT := tnew_any n W0 hn
  go_wp2_with fail
  refine CT.mono ?_
  rintro e w1 ⟨tb, tg, rfl, t1, n1, n2', k1⟩
  have H1 : Hid (Blk w1 w.heap.size [.int .i64 (n : Int), .int .i64 (s : Int), .int .i64 n2, .int .i64 (m : Int), .int .i64 n4, .int .i64 (ch : Int), .int .i64 n6, .int .i64 n7, .slice x l c] ∧ Kept w w1 ∧ Tab w1 tb tg n T0 ∧ w.heap.size ≤ tb ∧ w.heap.size ≤ tg) :=
    ⟨H0.out.1.kept k1, H0.out.2.trans k1, t1, by have := H0.out.2.size; omega, by have := H0.out.2.size; omega⟩
  clear b0 CT t1 n1 n2' k1 H0
  have b0 := H1.out.1.at 0 rfl
  have b1 := H1.out.1.at 1 rfl
  have b2 := H1.out.1.at 2 rfl
  have b3 := H1.out.1.at 3 rfl
  have b4 := H1.out.1.at 4 rfl
  have b5 := H1.out.1.at 5 rfl
  have b6 := H1.out.1.at 6 rfl
  have b7 := H1.out.1.at 7 rfl
  have b8 := H1.out.1.at 8 rfl
  have CN := wnew_any n s m ch n2 n4 n6 n7 x l c S R tb tg T0 w1 H1.out.2.2.1 (HSR.out.1.kept H1.out.2.1) (fun i hi => (HSR.out.2 i hi).kept H1.out.2.1) HG.out
  go_wp2_with fail
  refine CN.mono ?_
  rintro e w2 ⟨A, c2, rfl, s2, rfl, rfl, e7, low2, m2⟩
  have H2 : Hid (Mys w w2 c2 A (Sp.new n s m ch) ∧ A.C.n7 = n7) := by
    have z := H1.out.2.1.size
    refine ⟨⟨s2, H1.out.2.1.muts m2 fun k hk => ?_, fun k hk => ?_⟩, e7⟩
    · simp at hk; rw [hk]; exact H1.out.2.2.2.2
    · rcases low2 k hk with e | e | e
      · rw [e]; exact H1.out.2.2.2.1
      · rw [e]; exact H1.out.2.2.2.2
      · omega
  clear b0 b1 b2 b3 b4 b5 b6 b7 b8 CN s2 e7 low2 m2 H1
  go_wp2_with fail
  refine (wcoil_any w2 H2.out.1.sh).mono ?_
  rintro e w3 ⟨rfl, e3⟩
  rw [e3]
  clear e3
  go_wp2
  go_ret2
  exact ⟨A, c2, rfl, H2.out⟩

theorem field_gr (a b c : Value) (W : World) : (Instr.field 40 (.agg #[a, b, c]) 0).run Try.prog W = .ok a W := by kernel_rfl
/-- One shape without fields. -/
def S1 : Nat → Sh := fun _ => ⟨false, none, 0, 0⟩
theorem shps1 {w : World} {b : Nat} (h : Blk w b [.bool false, .slice none 0 0]) : Shps w (some ⟨b, 0, none⟩) 1 S1 := fun _ => ⟨b, 0, rfl, h.lt, fun i hi => by
  obtain rfl : i = 0 := by omega
  exact ⟨h.at 0 rfl, h.at 1 rfl⟩⟩
theorem refs1 {w : World} (i : Nat) : Refs w (S1 i).x (S1 i).l (fun _ => false) := fun h => by simp [S1] at h

theorem bd_new (n s m ch k : Nat) : (Sp.new n s m ch).Bd k := ⟨by simp [Sp.new], by simp [Sp.new], by simp [Sp.new], fun e he => by simp [Sp.new] at he, fun e he => by simp [Sp.new] at he⟩

theorem rdi_alloc (w : World) (L : List Int) : Rdi (w.alloc (.cells (L.map (Value.int .i64)).toArray 3)) (some ⟨w.heap.size, 0, none⟩) L := fun _ =>
  ⟨w.heap.size, 0, rfl, by simp, fun j hj => by simp [hj]⟩

set_option maxHeartbeats 4000000 in
theorem first_any (w : World) : Calls Try.prog 9 #[] w fun e w' => e = .returned (.bool true) ∧ Kept w w' := by
  go_enter Try.func9, Try.ntmps9
  go_wp2_with fail
  generalize hW : World.alloc _ _ = W
  have H0 : Hid (Kept w W ∧ Shps W (some ⟨w.heap.size, 0, none⟩) 1 S1) := by
    rw [← hW]
    have k1 : Kept w (w.alloc (.cells #[.bool false, .slice none 0 0] 56)) := (Kept.refl w).alloc _ _
    refine ⟨k1.alloc _ _, (shps1 ?_).kept ((Kept.refl _).alloc _ _)⟩
    exact Blk.new w _ _
  clear hW
  have CM := made_any 4 0 1 0 0 1 1 0 (some ⟨w.heap.size, 0, none⟩) 1 1 S1 (fun _ _ => false) W H0.out.2 (fun i _ => refs1 i) (by
    refine ⟨?_, ?_⟩
    · unfold Fits; decide
    · refine ⟨by decide, by decide, fun i hi => rfl⟩)
  go_wp2_with fail
  refine CM.mono ?_
  rintro e w1 ⟨A, c, rfl, m1, _⟩
  have H1 : Hid (Mys W w1 c A (Sp.new 4 0 1 0)) := m1
  have K0 : Hid (Kept w W) := H0.out.1
  clear m1 CM H0
  have CA := ask_any 0 1 0 true w1 H1.out.sh (bd_new 4 0 1 0 0) (by omega)
  have hG : (Sp.new 4 0 1 0).askG 0 1 0 = ⟨1, [3], -1⟩ := by kernel_rfl
  rw [hG] at CA
  obtain ⟨S2, hS2⟩ : ∃ S2, S2 = (Sp.new 4 0 1 0).ask 0 1 0 true := ⟨_, rfl⟩
  have HC : Hid (S2.ct = 1 ∧ stt S2.n S2.T 3 = 2 ∧ hdd S2.n S2.T 3 = false) := by
    rw [hS2]
    exact ⟨by kernel_rfl, by kernel_rfl, by kernel_rfl⟩
  rw [← hS2] at CA
  clear hS2 hG
  go_wp2_with fail
  refine CA.mono ?_
  rintro e w2 ⟨x, d, rfl, r2, n2, c2, s2, p2⟩
  have H2 : Hid (Mys W w2 c2 A S2 ∧ Rdi w2 x [3]) := ⟨H1.out.step s2 p2, r2⟩
  clear CA H1 r2 n2 s2 p2
  go_wp2_with fail
  generalize hW3 : World.alloc _ _ = W3
  have H3 : Hid (Mys W W3 c2 A S2 ∧ Blk W3 w2.heap.size [.int .i64 1, .slice x [3].length d, .int .i64 (-1)] ∧ Rdi W3 x [3] ∧ Rdi W3 (some ⟨w2.heap.size + 1, 0, none⟩) [3]) := by
    rw [← hW3]
    have k1 : Kept w2 (w2.alloc (.cells #[.int .i64 1, .slice x [3].length d, .int .i64 (-1)] 40)) := (Kept.refl w2).alloc _ _
    refine ⟨(H2.out.1.keep k1).keep ((Kept.refl _).alloc _ _), ((Blk.new w2 [.int .i64 1, .slice x [3].length d, .int .i64 (-1)] _)).kept ((Kept.refl _).alloc _ _), (H2.out.2.kept k1).kept ((Kept.refl _).alloc _ _), ?_⟩
    have := rdi_alloc (w2.alloc (.cells #[.int .i64 1, .slice x [3].length d, .int .i64 (-1)] 40)) [3]
    simpa using this
  clear hW3 H2
  refine (ints_any (x := x) (y := some ⟨w2.heap.size + 1, 0, none⟩) (c := d) (d := 1) (T := [3]) W3 (by decide) H3.out.2.2.1 H3.out.2.2.2).mono ?_
  rintro e w4 ⟨rfl, k4⟩
  have H4 : Hid (Mys W w4 c2 A S2 ∧ Blk w4 w2.heap.size [.int .i64 1, .slice x [3].length d, .int .i64 (-1)]) := ⟨H3.out.1.keep k4, H3.out.2.1.kept k4⟩
  clear k4 H3
  have b2 := H4.out.2.at 2 rfl
  have CC := wcount_any w4 H4.out.1.sh
  rw [HC.out.1] at CC
  go_wp2_with fail
  refine CC.mono ?_
  rintro e w5 ⟨rfl, e5⟩
  rw [e5]
  clear e5 CC b2
  have CS := tstate_any 3 w4 H4.out.1.sh.tab
  rw [HC.out.2.1] at CS
  go_wp2_with fail
  refine CS.mono ?_
  rintro e w5 ⟨rfl, e5⟩
  rw [e5]
  clear e5 CS
  have CH := thead_any 3 w4 H4.out.1.sh.tab
  rw [HC.out.2.2] at CH
  go_wp2_with fail
  refine CH.mono ?_
  rintro e w5 ⟨rfl, e5⟩
  rw [e5]
  clear e5 CH
  go_wp2
  go_ret
  exact ⟨rfl, K0.out.trans H4.out.1.kept⟩

set_option maxHeartbeats 1000000 in
theorem small_any (n s ch : Int) (w : World) : Calls Try.prog 25 #[.int .i64 n, .int .i64 s, .int .i64 ch] w fun e w' =>
    ∃ b, e = .returned (.agg #[.int .i64 n, .int .i64 s, .int .i64 0, .int .i64 3, .int .i64 1, .int .i64 ch, .int .i64 1, .int .i64 0, .slice (some ⟨b, 0, none⟩) 1 1]) ∧ Shps w' (some ⟨b, 0, none⟩) 1 S1 ∧ Kept w w' := by
  go_enter Try.func25, Try.ntmps25
  go_wp2
  (try simp only [Exit.inBlock, Exit.then])
  have k1 : Kept w (w.alloc (.cells #[.int .i64 n, .int .i64 s, .int .i64 0, .int .i64 3, .int .i64 1, .int .i64 ch, .int .i64 1, .int .i64 0, .slice (some ⟨w.heap.size + 1, 0, none⟩) 1 1] 24)) := (Kept.refl w).alloc _ _
  have k2 := (Kept.refl (w.alloc (.cells #[.int .i64 n, .int .i64 s, .int .i64 0, .int .i64 3, .int .i64 1, .int .i64 ch, .int .i64 1, .int .i64 0, .slice (some ⟨w.heap.size + 1, 0, none⟩) 1 1] 24))).alloc #[.bool false, .slice none 0 0] 56
  have B := (Blk.new w [.int .i64 n, .int .i64 s, .int .i64 0, .int .i64 3, .int .i64 1, .int .i64 ch, .int .i64 1, .int .i64 0, .slice (some ⟨w.heap.size + 1, 0, none⟩) 1 1] 24).kept k2
  exact bodyPost_ret_by (results_blk rfl _ _ w.heap.size (cl n s 0 3 1 ch 1 0 (.slice (some ⟨w.heap.size + 1, 0, none⟩) 1 1)) rfl B Try.underlying24 (by kernel_rfl)) rfl ⟨w.heap.size + 1, rfl, shps1 (Blk.new2 w _ _ [.bool false, .slice none 0 0] _), k1.trans k2⟩
end Go.Proofs.Ytahpnnjemjjfhaa
