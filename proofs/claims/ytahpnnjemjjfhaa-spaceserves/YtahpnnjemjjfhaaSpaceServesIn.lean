/-
  The law SpaceServes: those who wait are served in the order in which they came.
-/
import Derived.Test.YtahpnnjemjjfhaaSrv21
import Derived.Test.YtahpnnjemjjfhaaOpen21
import Derived.Test.YtahpnnjemjjfhaaRefCheck12
namespace Go.Proofs.Ytahpnnjemjjfhaa
open Go.RowKit

set_option maxRecDepth 16000 in
set_option maxHeartbeats 32000000 in
theorem serves_in (n s m ch : Nat) (n2 n4 n6 n7 : Int) (sx : Option Addr) (sl sc : Nat) (S0 : Nat → Sh) (R0 : Nat → Nat → Bool) (x1 : Option Addr) (l1 c1 : Nat) (L1 : Nat → Op21) (w : World) (hS : Shps w sx sl S0) (hR : ∀ i, i < sl → Refs w (S0 i).x (S0 i).l (R0 i)) (hL1 : Ops w x1 l1 L1) (hl1 : l1 ≤ 300)
    (hg : Good n s n2 m n4 ch n6 n7 sl S0) :
    Calls Try.prog 4 #[.agg #[.int .i64 (n : Int), .int .i64 (s : Int), .int .i64 n2, .int .i64 (m : Int), .int .i64 n4, .int .i64 (ch : Int), .int .i64 n6, .int .i64 n7, .slice sx sl sc], .slice x1 l1 c1] w fun e w' => e = .returned (.bool true) ∧ Kept w w' := by
  have HSR : Hid (Shps w sx sl S0 ∧ (∀ i, i < sl → Refs w (S0 i).x (S0 i).l (R0 i)) ∧ Ops w x1 l1 L1) := ⟨hS, hR, hL1⟩
  have HG : Hid (Good n s n2 m n4 ch n6 n7 sl S0) := hg
  clear hS hR hL1 hg
  go_enter Try.func4, Try.ntmps4
  go_wp2_with fail
  generalize hW : w.alloc _ = W0
  have H0 : Hid (Blk W0 w.heap.size [.int .i64 (n : Int), .int .i64 (s : Int), .int .i64 n2, .int .i64 (m : Int), .int .i64 n4, .int .i64 (ch : Int), .int .i64 n6, .int .i64 n7, .slice sx sl sc] ∧ Kept w W0) := by
    rw [← hW]
    exact ⟨Blk.new w _ _, (Kept.refl w).alloc _ _⟩
  clear hW
  refine (first_any W0).mono ?_
  rintro e w1 ⟨rfl, k1⟩
  have H1 : Hid (Blk w1 w.heap.size [.int .i64 (n : Int), .int .i64 (s : Int), .int .i64 n2, .int .i64 (m : Int), .int .i64 n4, .int .i64 (ch : Int), .int .i64 n6, .int .i64 n7, .slice sx sl sc] ∧ Kept w w1) := ⟨H0.out.1.kept k1, H0.out.2.trans k1⟩
  clear k1 H0
  have c0 := H1.out.1.at 0 rfl
  have c1 := H1.out.1.at 1 rfl
  have c2 := H1.out.1.at 2 rfl
  have c3 := H1.out.1.at 3 rfl
  have c4 := H1.out.1.at 4 rfl
  have c5 := H1.out.1.at 5 rfl
  have c6 := H1.out.1.at 6 rfl
  have c7 := H1.out.1.at 7 rfl
  have c8 := H1.out.1.at 8 rfl
  have C := few_any n s n2 m n4 ch n6 n7 sx sl sc S0 true w1 (HSR.out.1.kept H1.out.2) (by
    obtain ⟨_, _, m8, mi⟩ := id HG.out
    refine ⟨fun _ => ⟨by omega, fun i hi => ?_⟩, fun _ => rfl⟩
    have := mi i hi
    simp only [Sh.may] at this
    split at this
    · simp at this; omega
    · simp at this; omega)
  go_wp2_with fail
  refine C.mono ?_
  rintro e w2 ⟨rfl, k2⟩
  have H2 : Hid (Blk w2 w.heap.size [.int .i64 (n : Int), .int .i64 (s : Int), .int .i64 n2, .int .i64 (m : Int), .int .i64 n4, .int .i64 (ch : Int), .int .i64 n6, .int .i64 n7, .slice sx sl sc] ∧ Kept w w2) := ⟨H1.out.1.kept k2, H1.out.2.trans k2⟩
  clear k2 C H1 c0 c1 c2 c3 c4 c5 c6 c7 c8
  have c0 := H2.out.1.at 0 rfl
  have c1 := H2.out.1.at 1 rfl
  have c2 := H2.out.1.at 2 rfl
  have c3 := H2.out.1.at 3 rfl
  have c4 := H2.out.1.at 4 rfl
  have c5 := H2.out.1.at 5 rfl
  have c6 := H2.out.1.at 6 rfl
  have c7 := H2.out.1.at 7 rfl
  have c8 := H2.out.1.at 8 rfl
  have hli : ¬ (l1 : Int) > 300 := by omega
  have C := check_any n s n2 m n4 ch n6 n7 sx sl sc S0 0 w2 (HSR.out.1.kept H2.out.2) (Checks.of_ok HG.out.1 HG.out.2)
  go_wp2_with fail
  refine C.mono ?_
  rintro e w3 ⟨rfl, k3⟩
  have H3 : Hid (Blk w3 w.heap.size [.int .i64 (n : Int), .int .i64 (s : Int), .int .i64 n2, .int .i64 (m : Int), .int .i64 n4, .int .i64 (ch : Int), .int .i64 n6, .int .i64 n7, .slice sx sl sc] ∧ Kept w w3) := ⟨H2.out.1.kept k3, H2.out.2.trans k3⟩
  clear k3 C H2 c0 c1 c2 c3 c4 c5 c6 c7 c8
  have c0 := H3.out.1.at 0 rfl
  have c1 := H3.out.1.at 1 rfl
  have c2 := H3.out.1.at 2 rfl
  have c3 := H3.out.1.at 3 rfl
  have c4 := H3.out.1.at 4 rfl
  have c5 := H3.out.1.at 5 rfl
  have c6 := H3.out.1.at 6 rfl
  have c7 := H3.out.1.at 7 rfl
  have c8 := H3.out.1.at 8 rfl
  have C := made_any n s m ch n2 n4 n6 n7 sx sl sc S0 R0 w3 (HSR.out.1.kept H3.out.2) (fun i hi => (HSR.out.2.1 i hi).kept H3.out.2) HG.out
  go_wp2_with fail
  refine C.mono ?_
  rintro e w4 ⟨A, cl4, rfl, m4, _⟩
  obtain ⟨W, rfl⟩ : ∃ W, W = w3 := ⟨_, rfl⟩
  have KB : Hid (Kept w W) := H3.out.2
  have H4 : Hid (Srv W w4 A (Sp.new n s m ch) 0 [] (.slice none 0 0) (.slice none 0 0) (.slice none 0 0)) := srv_new ⟨⟨cl4, m4, (fun _ h => by cases h)⟩, bd_new _ _ _ _ _, by omega⟩
  clear m4 C H3 c0 c1 c2 c3 c4 c5 c6 c7 c8
  go_wp2
  go_loopg [7, 8, 9, 10] l1 (fun mm a7 a8 a9 i wr => ∃ (k kb nn : Nat) (S : Sp) (x7 : Option Addr) (d7 : Nat) (x8 : Option Addr) (d8 : Nat) (x9 : Option Addr) (d9 : Nat), a7 = .slice x7 nn d7 ∧ a8 = .slice x8 nn d8 ∧ a9 = .slice x9 nn d9 ∧ i = .int .i64 k ∧ k ≤ l1 ∧ mm = l1 - k ∧ Hid (Srv W wr A S kb [] (.slice x7 nn d7) (.slice x8 nn d8) (.slice x9 nn d9) ∧ kb ≤ 2 * k ∧ S.E.length = nn))
  case atStart => exact ⟨0, 0, 0, _, none, 0, none, 0, none, 0, rfl, rfl, rfl, rfl, by omega, by omega, H4.out, by omega, rfl⟩
  case round =>
    obtain ⟨k, kb, nn, S, x7, d7, x8, d8, x9, d9, rfl, rfl, rfl, rfl, hk, hm, hw⟩ := hrel
    have HM : Hid _ := hm
    clear hm
    by_cases hlt : k < l1
    · have hki : (k : Int) < (l1 : Int) := by omega
      have hkb : kb ≤ 2 * k := hw.out.2.1
      have hnn : nn ≤ 600 := by have := hw.out.1.few; have := hw.out.2.2; omega
      obtain ⟨ox, oo, rfl, hol, hoc⟩ := HSR.out.2.2.at (by omega)
      have KR : Hid (Kept w wr) := KB.out.trans hw.out.1.sv.lw.kept
      obtain ⟨⟨ok, ot, of, os, on, ob⟩, hop⟩ : ∃ q, q = L1 k := ⟨_, rfl⟩
      have hoc2 : ∀ j v, (Op21.cells ⟨ok, ot, of, os, on, ob⟩)[j]? = some v → wr.cell? ⟨ox, oo + k * 6 + j, none⟩ = some v := fun j v hv => (KR.out.cell hol).trans (hoc k hlt j v (by rw [← hop]; exact hv))
      have e0 := hoc2 0 _ rfl
      have e1 := hoc2 1 _ rfl
      have e2 := hoc2 2 _ rfl
      have e3 := hoc2 3 _ rfl
      have e4 := hoc2 4 _ rfl
      have e5 := hoc2 5 _ rfl
      simp only [Nat.add_zero] at e0
      clear hoc hoc2 hop KR
      go_upto_region 14 with fail
      generalize hW : wr.alloc _ = w1
      obtain ⟨cb, hcb⟩ : ∃ cb, cb = wr.heap.size := ⟨_, rfl⟩
      rw [← hcb]
      have H3 : Hid (Srv W w1 A S kb [cb] (.slice x7 nn d7) (.slice x8 nn d8) (.slice x9 nn d9) ∧ Blk w1 cb [.int .i64 ok, .int .i64 ot, .int .i64 of, .int .i64 os, .int .i64 on, .bool ob] ∧ S.E.length = nn) := by
        rw [← hW, hcb]
        exact ⟨⟨hw.out.1.sv.alloc _ _, hw.out.1.wt⟩, Blk.new wr _ _, hw.out.2.2⟩
      clear hW hcb hw e0 e1 e2 e3 e4 e5
      have o0 := H3.out.2.1.at 0 rfl
      go_upto_block 2 with fail
      have o1 := H3.out.2.1.at 1 rfl
      have o2 := H3.out.2.1.at 2 rfl
      have o3 := H3.out.2.1.at 3 rfl
      have o4 := H3.out.2.1.at 4 rfl
      have o5 := H3.out.2.1.at 5 rfl
      go_cut [7, 8, 9, 12, 13, 14, 15, 16] from 56 to 183 (fun a7 a8 a9 _ _ _ _ _ wc => ∃ (S2 : Sp) (kb2 m2 : Nat) (x7 : Option Addr) (d7 : Nat) (x8 : Option Addr) (d8 : Nat) (x9 : Option Addr) (d9 : Nat), a7 = .slice x7 m2 d7 ∧ a8 = .slice x8 m2 d8 ∧ a9 = .slice x9 m2 d9 ∧ Hid (Srv W wc A S2 kb2 [] (.slice x7 m2 d7) (.slice x8 m2 d8) (.slice x9 m2 d9) ∧ kb2 ≤ 2 * (k + 1) ∧ S2.E.length = m2))
      case first =>
        by_cases h0 : ok = 0
        · have h0' : (ok == 0) = true := by simpa using h0
          clear h0
          as_aux_lemma =>
            have C := H3.out.1.sv.lw.ask (fun k h => by
              rcases List.mem_append.1 h with h | h
              · simp at h; subst h; exact H3.out.2.1.lt
              · exact (H3.out.1.sv.lt k h).2) (by omega) ot of os ob
            obtain ⟨st, G, at_, hgr⟩ : ∃ (st : Int) (G : List Int) (at_ : Int), S.askG ot of os = (⟨st, G, at_⟩ : Gr) := ⟨_, _, _, rfl⟩
            rw [hgr] at C
            go_wp2_with fail
            refine C.mono ?_
            rintro e w4 ⟨x, d, rfl, r4, n4', lw4, un4⟩
            have B4 : Hid (Blk w4 cb [.int .i64 ok, .int .i64 ot, .int .i64 of, .int .i64 os, .int .i64 on, .bool ob]) := un4.blk H3.out.2.1 (by simp)
            clear r4 n4' C o0 o1 o2 o3 o4 o5
            have fg := field_gr (.int .i64 st) (.slice x G.length d) (.int .i64 at_)
            by_cases hs : st = 0
            · have HE : Hid ((S.ask ot of os ob).E = S.E ++ [newEnt ot of os]) := ask_wait ob (by rw [hgr]; exact hs)
              have H4 : Hid (Sv 3 3 4 W w4 A (S.ask ot of os ob) (kb + 1) [] (.slice x7 nn d7) (.slice x8 nn d8) (.slice x9 nn d9) (c7s S.E) (c8s S.E) (c9s S.E)) := (H3.out.1.sv.call lw4 un4).less (by simp)
              have HW : Hid (AllW (S.ask ot of os ob) ∧ S.E.length = nn) := ⟨fun e he => by
                rw [HE.out] at he
                rcases List.mem_append.1 he with he | he
                · exact H3.out.1.wt e he
                · simp at he; subst he; rfl, H3.out.2.2⟩
              clear lw4 un4 hgr H3
              subst hs
              have o1 := B4.out.at 1 rfl
              obtain ⟨S2, hS2⟩ : ∃ S2, S2 = S.ask ot of os ob := ⟨_, rfl⟩
              rw [← hS2] at H4 HE HW
              clear hS2
              have N5 : Hid (Sv 3 3 4 W (w4.alloc (.cells #[.int .i64 ot] 3)) A S2 (kb + 1) [] (.slice x7 nn d7) (.slice x8 nn d8) (.slice x9 nn d9) (c7s S.E) (c8s S.E) (c9s S.E)) := (H4.out.alloc _ _).less (by simp)
              have z1 : Hid (W.heap.size ≤ (w4.alloc (.cells #[.int .i64 ot] 3)).heap.size) := N5.out.lw.kept.size
              have z2 : Hid ((c7s S.E).length + 1 ≤ 1000000) := by have := HW.out.2; show (c7s S.E).length + 1 ≤ 1000000; simp only [c7s, List.length_map]; omega
              have z3 : Hid ((w4.alloc (.cells #[.int .i64 ot] 3)).cell? ⟨w4.heap.size, 0, none⟩ = some (.int .i64 ot)) := (Blk.new w4 [.int .i64 ot] _).at 0 rfl
              go_wp2_with (at_builtin; refine wpList_append_lo (T := c7s S.E) rfl _ _ 38 rfl Try.underlying38 info_lo_int rfl rfl N5.out.l7 z1.out rfl z3.out rfl z2.out ?_)
              intro v7 w5 l5 m5 f5
              have H5 : Hid (Sv 3 3 4 W w5 A S2 (kb + 1) [] v7 (.slice x8 nn d8) (.slice x9 nn d9) (c7s S2.E) (c8s S.E) (c9s S.E)) := by
                have := N5.out.app7 l5 m5 f5
                rw [show c7s S2.E = c7s S.E ++ [.int .i64 ot] by rw [HE.out, c7s, List.map_append]; rfl]
                exact this
              clear l5 m5 f5 N5 H4 z1 z2 z3 o1
              have N5 : Hid (Sv 3 4 3 W (w5.alloc (.cells #[.int .i64 0] 3)) A S2 (kb + 1) [] (.slice x8 nn d8) (.slice x9 nn d9) v7 (c8s S.E) (c9s S.E) (c7s S2.E)) := ((H5.out.alloc _ _).less (by simp)).rot
              have z1 : Hid (W.heap.size ≤ (w5.alloc (.cells #[.int .i64 0] 3)).heap.size) := N5.out.lw.kept.size
              have z2 : Hid ((c8s S.E).length + 1 ≤ 1000000) := by have := HW.out.2; show (c8s S.E).length + 1 ≤ 1000000; simp only [c8s, List.length_map]; omega
              have z3 : Hid ((w5.alloc (.cells #[.int .i64 0] 3)).cell? ⟨w5.heap.size, 0, none⟩ = some (.int .i64 0)) := (Blk.new w5 [.int .i64 0] _).at 0 rfl
              go_wp2_with (at_builtin; refine wpList_append_lo (T := c8s S.E) rfl _ _ 38 rfl Try.underlying38 info_lo_int rfl rfl N5.out.l7 z1.out rfl z3.out rfl z2.out ?_)
              intro v8 w6 l6 m6 f6
              have H6 : Hid (Sv 3 4 3 W w6 A S2 (kb + 1) [] v8 (.slice x9 nn d9) v7 (c8s S2.E) (c9s S.E) (c7s S2.E)) := by
                have := N5.out.app7 l6 m6 f6
                rw [show c8s S2.E = c8s S.E ++ [.int .i64 0] by rw [HE.out, c8s, List.map_append]; rfl]
                exact this
              clear l6 m6 f6 N5 H5 z1 z2 z3
              have N5 : Hid (Sv 4 3 3 W (w6.alloc (.cells #[.bool false] 4)) A S2 (kb + 1) [] (.slice x9 nn d9) v7 v8 (c9s S.E) (c7s S2.E) (c8s S2.E)) := ((H6.out.alloc _ _).less (by simp)).rot
              have z1 : Hid (W.heap.size ≤ (w6.alloc (.cells #[.bool false] 4)).heap.size) := N5.out.lw.kept.size
              have z2 : Hid ((c9s S.E).length + 1 ≤ 1000000) := by have := HW.out.2; show (c9s S.E).length + 1 ≤ 1000000; simp only [c9s, List.length_map]; omega
              have z3 : Hid ((w6.alloc (.cells #[.bool false] 4)).cell? ⟨w6.heap.size, 0, none⟩ = some (.bool false)) := (Blk.new w6 [.bool false] _).at 0 rfl
              go_wp2_with (at_builtin; refine wpList_append_lo (T := c9s S.E) rfl _ _ 34 rfl Try.underlying34 info_lo_bool rfl rfl N5.out.l7 z1.out rfl z3.out rfl z2.out ?_)
              intro v9 w7 l7 m7 f7
              have H7 : Hid (Srv W w7 A S2 (kb + 1) [] v7 v8 v9 ∧ S2.E.length = nn + 1) := by
                have := N5.out.app7 l7 m7 f7
                rw [show c9s S.E ++ [.bool false] = c9s S2.E by rw [HE.out, c9s, c9s, List.map_append]; rfl] at this
                exact ⟨⟨this.rot, HW.out.1⟩, by rw [HE.out, List.length_append, HW.out.2]; rfl⟩
              clear l7 m7 f7 N5 H6 z1 z2 z3
              obtain ⟨y7, g7, rfl⟩ := H7.out.1.sv.l7.form
              obtain ⟨y8, g8, rfl⟩ := H7.out.1.sv.l8.form
              obtain ⟨y9, g9, rfl⟩ := H7.out.1.sv.l9.form
              have q7 : (c7s S2.E).length = nn + 1 := by rw [c7s, List.length_map]; exact H7.out.2
              have q8 : (c8s S2.E).length = nn + 1 := by rw [c8s, List.length_map]; exact H7.out.2
              have q9 : (c9s S2.E).length = nn + 1 := by rw [c9s, List.length_map]; exact H7.out.2
              have H8 : Hid (Srv W w7 A S2 (kb + 1) [] (.slice y7 (nn + 1) g7) (.slice y8 (nn + 1) g8) (.slice y9 (nn + 1) g9) ∧ S2.E.length = nn + 1) := by
                have h := H7.out
                rw [q7, q8, q9] at h
                exact h
              rw [q7, q8, q9]
              clear q7 q8 q9 H7
              go_wp2
              go_meet
              case rel => exact ⟨S2, kb + 1, nn + 1, _, _, _, _, _, _, rfl, rfl, rfl, H8.out.1, by omega, H8.out.2⟩
            · have HE : (S.ask ot of os ob).E = S.E := ask_not ob (by rw [hgr]; exact hs)
              have H4 : Hid (Srv W w4 A (S.ask ot of os ob) (kb + 1) [] (.slice x7 nn d7) (.slice x8 nn d8) (.slice x9 nn d9) ∧ (S.ask ot of os ob).E.length = nn) := ⟨(H3.out.1.same lw4 un4 HE).less (by simp), by rw [HE]; exact H3.out.2.2⟩
              have hs' : (st == 0) = false := by simpa using hs
              clear lw4 un4 hgr H3 HE hs
              go_wp2
              go_meet
              case rel => exact ⟨_, kb + 1, nn, _, _, _, _, _, _, rfl, rfl, rfl, H4.out.1, by omega, H4.out.2⟩
        · have h0' : (ok == 0) = false := by simpa using h0
          clear h0
          by_cases h6 : ok = 6
          · have h6' : (ok == 6) = true := by simpa using h6
            clear h6
            as_aux_lemma =>
              have C := H3.out.1.sv.lw.begin (fun k h => by
                rcases List.mem_append.1 h with h | h
                · simp at h; subst h; exact H3.out.2.1.lt
                · exact (H3.out.1.sv.lt k h).2) (by omega)
              go_wp2_with fail
              refine C.mono ?_
              rintro e w4 ⟨rfl, lw4, un4⟩
              have HL : Hid (S.E.length = nn ∧ AllW S) := ⟨H3.out.2.2, H3.out.1.wt⟩
              obtain ⟨A9, hA9⟩ : ∃ A9, A9 = c9s (S.E.map noteE) := ⟨_, rfl⟩
              have HA9 : Hid (A9 = c9s (S.E.map noteE) ∧ A9.length = (c9s S.E).length ∧ A9.length = nn) := ⟨hA9, by rw [hA9]; simp [c9s], by rw [hA9]; simp only [c9s, List.length_map]; exact HL.out.1⟩
              have H4 : Hid (Sv 3 3 4 W w4 A S.begin (kb + 1) [] (.slice x7 nn d7) (.slice x8 nn d8) (.slice x9 nn d9) (c7s S.E) (c8s S.E) (mixL A9 (c9s S.E) 0)) := by
                rw [mixL_zero]
                exact (H3.out.1.sv.call lw4 un4).less (by simp)
              clear lw4 un4 C H3 o0 o1 o2 o3 o4 o5 hA9
              go_wp2
              go_loopg [12] nn (fun mm i wr => ∃ q : Nat, i = .int .i64 q ∧ q ≤ nn ∧ mm = nn - q ∧ Hid (Sv 3 3 4 W wr A S.begin (kb + 1) [] (.slice x7 nn d7) (.slice x8 nn d8) (.slice x9 nn d9) (c7s S.E) (c8s S.E) (mixL A9 (c9s S.E) q)))
              case atStart => exact ⟨0, rfl, by omega, by omega, H4.out⟩
              case round =>
                obtain ⟨q, rfl, hq, hm2, hw2⟩ := hrel
                have HM2 : Hid _ := hm2
                clear hm2
                by_cases hlt2 : q < nn
                · have hqi : (q : Int) < (nn : Int) := by omega
                  obtain ⟨g, o, c, he, hr, hf⟩ := hw2.out.l9.at (by rw [mixL_len HA9.out.2.1]; have h1 := HA9.out.2.1; have h2 := HA9.out.2.2; omega)
                  obtain ⟨rfl, -, rfl⟩ := Value.slice.inj he
                  have h9 := hr q (by rw [mixL_len HA9.out.2.1]; have h1 := HA9.out.2.1; have h2 := HA9.out.2.2; omega)
                  have H5 : Hid (Sv 3 3 4 W (wr.setCell ⟨g, o + q, none⟩ (.bool true)) A S.begin (kb + 1) [] (.slice x7 nn d7) (.slice x8 nn d8) (.slice (some ⟨g, o, none⟩) nn d9) (c7s S.E) (c8s S.E) (mixL A9 (c9s S.E) (q + 1))) := by
                    have := (hw2.out.rot.rot.set7 q (.bool true)).rot
                    rwa [mixL_set HA9.out.2.1 (by have := HA9.out.2.2; omega)] at this
                    have hq2 : q < S.E.length := by have := HL.out.1; omega
                    have : A9[q]? = some (.bool true) := by
                      rw [HA9.out.1]
                      simp only [c9s, List.getElem?_map, List.getElem?_eq_getElem hq2, Option.map_some, noteE, HL.out.2 _ (List.getElem_mem hq2)]
                      rfl
                    exact (List.getElem?_eq_some_iff.1 this).2
                  clear he hr
                  go_wp2
                  go_roundg (nn - (q + 1))
                  all_goals (have := HM2.out; try omega)
                  exact ⟨q + 1, by go_num, by omega, by omega, H5.out⟩
                · obtain rfl : q = nn := by omega
                  have hqi : ¬ (q : Int) < (q : Int) := by omega
                  have H5 : Hid (Srv W wr A S.begin (kb + 1) [] (.slice x7 q d7) (.slice x8 q d8) (.slice x9 q d9) ∧ S.begin.E.length = q) := by
                    have h := hw2.out
                    rw [mixL_all HA9.out.2.1 HA9.out.2.2.symm, HA9.out.1] at h
                    refine ⟨⟨?_, fun e he => ?_⟩, ?_⟩
                    · show Sv _ _ _ _ _ _ _ _ _ _ _ _ (c7s (S.E.map noteE)) (c8s (S.E.map noteE)) (c9s (S.E.map noteE))
                      rw [note_7, note_8]
                      exact h
                    · obtain ⟨e0, h0, rfl⟩ := List.mem_map.1 he
                      exact HL.out.2 e0 h0
                    · show (S.E.map noteE).length = q
                      rw [List.length_map]; exact HL.out.1
                  clear hw2 H4
                  go_wp2
                  go_meet
                  case rel => exact ⟨_, kb + 1, q, _, _, _, _, _, _, rfl, rfl, rfl, H5.out.1, by omega, H5.out.2⟩
          · have h6' : (ok == 6) = false := by simpa using h6
            clear h6
            by_cases h10 : ok = 10
            · have h10' : (ok == 10) = true := by simpa using h10
              clear h10
              as_aux_lemma =>
                have C := H3.out.1.sv.lw.end_ (fun k h => by
                  rcases List.mem_append.1 h with h | h
                  · simp at h; subst h; exact H3.out.2.1.lt
                  · exact (H3.out.1.sv.lt k h).2) (by omega)
                go_wp2_with fail
                refine C.mono ?_
                rintro e w4 ⟨rfl, lw4, un4⟩
                have HL : Hid (S.E.length = nn ∧ AllW S ∧ ∀ e, e ∈ S.E → 0 ≤ e.cy ∧ e.cy ≤ kb) := ⟨H3.out.2.2, H3.out.1.wt, H3.out.1.sv.lw.bd.cyc⟩
                obtain ⟨A9, hA9⟩ : ∃ A9, A9 = c9s (S.E.map endE) := ⟨_, rfl⟩
                obtain ⟨A8, hA8⟩ : ∃ A8, A8 = c8s (S.E.map endE) := ⟨_, rfl⟩
                have HA9 : Hid (A9 = c9s (S.E.map endE) ∧ A9.length = (c9s S.E).length ∧ A9.length = nn) := ⟨hA9, by rw [hA9]; simp [c9s], by rw [hA9]; simp only [c9s, List.length_map]; exact HL.out.1⟩
                have HA8 : Hid (A8 = c8s (S.E.map endE) ∧ A8.length = (c8s S.E).length ∧ A8.length = nn) := ⟨hA8, by rw [hA8]; simp [c8s], by rw [hA8]; simp only [c8s, List.length_map]; exact HL.out.1⟩
                have H4 : Hid (Sv 3 3 4 W w4 A S.end_ (kb + 1) [] (.slice x7 nn d7) (.slice x8 nn d8) (.slice x9 nn d9) (c7s S.E) (mixL A8 (c8s S.E) 0) (mixL A9 (c9s S.E) 0)) := by
                  rw [mixL_zero, mixL_zero]
                  exact (H3.out.1.sv.call lw4 un4).less (by simp)
                clear lw4 un4 C H3 o0 o1 o2 o3 o4 o5 hA9 hA8
                go_wp2
                go_loopg [13] nn (fun mm i wr => ∃ q : Nat, i = .int .i64 q ∧ q ≤ nn ∧ mm = nn - q ∧ Hid (Sv 3 3 4 W wr A S.end_ (kb + 1) [] (.slice x7 nn d7) (.slice x8 nn d8) (.slice x9 nn d9) (c7s S.E) (mixL A8 (c8s S.E) q) (mixL A9 (c9s S.E) q)))
                case atStart => exact ⟨0, rfl, by omega, by omega, H4.out⟩
                case round =>
                  obtain ⟨q, rfl, hq, hm2, hw2⟩ := hrel
                  have HM2 : Hid _ := hm2
                  clear hm2
                  by_cases hlt2 : q < nn
                  · have hqi : (q : Int) < (nn : Int) := by omega
                    have hq2 : q < S.E.length := by have := HL.out.1; omega
                    obtain ⟨g, o, c, he, hr, hf⟩ := hw2.out.l9.at (by rw [mixL_len HA9.out.2.1]; have h1 := HA9.out.2.1; have h2 := HA9.out.2.2; omega)
                    obtain ⟨rfl, -, rfl⟩ := Value.slice.inj he
                    obtain ⟨g8, o8, c8, he8, hr8, hf8⟩ := hw2.out.l8.at (by rw [mixL_len HA8.out.2.1]; have h1 := HA8.out.2.1; have h2 := HA8.out.2.2; omega)
                    obtain ⟨rfl, -, rfl⟩ := Value.slice.inj he8
                    obtain ⟨e, hee⟩ : ∃ e, e = S.E[q] := ⟨_, rfl⟩
                    have hst : e.st = 0 := by rw [hee]; exact HL.out.2.1 _ (List.getElem_mem hq2)
                    have hcy : 0 ≤ e.cy ∧ e.cy ≤ kb := by rw [hee]; exact HL.out.2.2 _ (List.getElem_mem hq2)
                    have h9 : wr.cell? ⟨g, o + q, none⟩ = some (.bool e.nt) := by
                      have hl : q < (mixL A9 (c9s S.E) q).length := by rw [mixL_len HA9.out.2.1]; have h1 := HA9.out.2.1; have h2 := HA9.out.2.2; omega
                      rw [hr q hl]
                      have := mixL_at (A := A9) (B := c9s S.E) (q := q) HA9.out.2.1 (by simp only [c9s, List.length_map]; exact hq2)
                      rw [List.getElem?_eq_getElem hl] at this
                      rw [this]
                      simp only [c9s, List.getElem?_map, List.getElem?_eq_getElem hq2, Option.map_some, hee]
                    have h8 : wr.cell? ⟨g8, o8 + q, none⟩ = some (.int .i64 e.cy) := by
                      have hl : q < (mixL A8 (c8s S.E) q).length := by rw [mixL_len HA8.out.2.1]; have h1 := HA8.out.2.1; have h2 := HA8.out.2.2; omega
                      rw [hr8 q hl]
                      have := mixL_at (A := A8) (B := c8s S.E) (q := q) HA8.out.2.1 (by simp only [c8s, List.length_map]; exact hq2)
                      rw [List.getElem?_eq_getElem hl] at this
                      rw [this]
                      simp only [c8s, List.getElem?_map, List.getElem?_eq_getElem hq2, Option.map_some, hee]
                    have q9 : A9[q]? = some (.bool false) := by
                      rw [HA9.out.1]
                      simp only [c9s, List.getElem?_map, List.getElem?_eq_getElem hq2, Option.map_some, endE]
                    have q8 : A8[q]? = some (.int .i64 (if e.nt then e.cy + 1 else e.cy)) := by
                      rw [HA8.out.1]
                      simp only [c8s, List.getElem?_map, List.getElem?_eq_getElem hq2, Option.map_some, endE, ← hee, hst]
                      simp
                    have b8 : (c8s S.E)[q]? = some (.int .i64 e.cy) := by simp only [c8s, List.getElem?_map, List.getElem?_eq_getElem hq2, Option.map_some, hee]
                    have l9 : q < A9.length := by have := HA9.out.2.2; omega
                    have l8 : q < A8.length := by have := HA8.out.2.2; omega
                    have hne : g8 ≠ g := fun e => hw2.out.n89 g8 (by simp [Value.ownBlock]) (by simp [Value.ownBlock, e])
                    obtain ⟨nt, hnt⟩ : ∃ nt, nt = e.nt := ⟨_, rfl⟩
                    obtain ⟨cy, hcyy⟩ : ∃ cy, cy = e.cy := ⟨_, rfl⟩
                    rw [← hnt] at h9 q8
                    rw [← hcyy] at h8 q8 b8 hcy
                    have HHE : Hid (e = S.E[q]) := hee
                    clear he hr he8 hr8 hee hst hnt hcyy
                    cases nt with
                    | true =>
                      have H5 : Hid (Sv 3 3 4 W ((wr.setCell ⟨g8, o8 + q, none⟩ (.int .i64 (cy + 1))).setCell ⟨g, o + q, none⟩ (.bool false)) A S.end_ (kb + 1) [] (.slice x7 nn d7) (.slice (some ⟨g8, o8, none⟩) nn d8) (.slice (some ⟨g, o, none⟩) nn d9) (c7s S.E) (mixL A8 (c8s S.E) (q + 1)) (mixL A9 (c9s S.E) (q + 1))) := by
                        have h1 := ((hw2.out.rot.set7 q (.int .i64 (cy + 1))).rot.set7 q (.bool false)).rot
                        rw [mixL_set HA8.out.2.1 l8 (by rw [if_pos rfl] at q8; exact (List.getElem?_eq_some_iff.1 q8).2), mixL_set HA9.out.2.1 l9 (List.getElem?_eq_some_iff.1 q9).2] at h1
                        exact h1
                      clear q8 q9 b8 l8 l9 hw2
                      go_wp2
                      go_roundg (nn - (q + 1))
                      all_goals (have := HM2.out; try omega)
                      refine ⟨q + 1, by go_num, by omega, by omega, ?_⟩
                      first | exact H5.out | (have h := H5.out; simpa [wrap64_id] using h)
                    | false =>
                      have H5 : Hid (Sv 3 3 4 W (wr.setCell ⟨g, o + q, none⟩ (.bool false)) A S.end_ (kb + 1) [] (.slice x7 nn d7) (.slice (some ⟨g8, o8, none⟩) nn d8) (.slice (some ⟨g, o, none⟩) nn d9) (c7s S.E) (mixL A8 (c8s S.E) (q + 1)) (mixL A9 (c9s S.E) (q + 1))) := by
                        have h1 := (hw2.out.rot.rot.set7 q (.bool false)).rot
                        rw [mixL_set HA9.out.2.1 l9 (List.getElem?_eq_some_iff.1 q9).2, mixL_same HA8.out.2.1 l8 (by rw [q8, b8]; rfl)] at h1
                        exact h1
                      clear q8 q9 b8 l8 l9 hw2
                      go_wp2
                      go_roundg (nn - (q + 1))
                      all_goals (have := HM2.out; try omega)
                      exact ⟨q + 1, by go_num, by omega, by omega, H5.out⟩
                  · obtain rfl : q = nn := by omega
                    have hqi : ¬ (q : Int) < (q : Int) := by omega
                    have H5 : Hid (Srv W wr A S.end_ (kb + 1) [] (.slice x7 q d7) (.slice x8 q d8) (.slice x9 q d9) ∧ S.end_.E.length = q) := by
                      have h := hw2.out
                      rw [mixL_all HA9.out.2.1 HA9.out.2.2.symm, HA9.out.1, mixL_all HA8.out.2.1 HA8.out.2.2.symm, HA8.out.1] at h
                      refine ⟨⟨?_, fun e he => ?_⟩, ?_⟩
                      · show Sv _ _ _ _ _ _ _ _ _ _ _ _ (c7s (S.E.map endE)) (c8s (S.E.map endE)) (c9s (S.E.map endE))
                        rw [end_7]
                        exact h
                      · obtain ⟨e0, h0, rfl⟩ := List.mem_map.1 he
                        exact HL.out.2.1 e0 h0
                      · show (S.E.map endE).length = q
                        rw [List.length_map]; exact HL.out.1
                    clear hw2 H4
                    go_wp2
                    go_meet
                    case rel => exact ⟨_, kb + 1, q, _, _, _, _, _, _, rfl, rfl, rfl, H5.out.1, by omega, H5.out.2⟩
            · have h10' : (ok == 10) = false := by simpa using h10
              clear h10
              by_cases h9 : ok = 9
              · have h9' : (ok == 9) = true := by simpa using h9
                clear h9
                as_aux_lemma =>
                  have C := H3.out.1.sv.lw.sweep (fun k h => by
                    rcases List.mem_append.1 h with h | h
                    · simp at h; subst h; exact H3.out.2.1.lt
                    · exact (H3.out.1.sv.lt k h).2) (by omega) on ob
                  go_wp2_with fail
                  refine C.mono ?_
                  rintro e w4 ⟨rfl, lw4, un4⟩
                  have H4 : Hid (Srv W w4 A (S.sweep on ob) (kb + 1) [] (.slice x7 nn d7) (.slice x8 nn d8) (.slice x9 nn d9) ∧ (S.sweep on ob).E.length = nn) := ⟨(H3.out.1.same lw4 un4 (sweep_E on ob)).less (by simp), by rw [sweep_E]; exact H3.out.2.2⟩
                  clear lw4 un4 C H3 o0 o1 o2 o3 o4 o5
                  go_wp2
                  go_meet
                  case rel => exact ⟨_, kb + 1, nn, _, _, _, _, _, _, rfl, rfl, rfl, H4.out.1, by omega, H4.out.2⟩
              · have h9' : (ok == 9) = false := by simpa using h9
                clear h9
                by_cases h11 : ok = 11
                · have h11' : (ok == 11) = true := by simpa using h11
                  clear h11
                  as_aux_lemma =>
                    have HL : Hid (S.E.length = nn ∧ (wts S.E).length = nn) := ⟨H3.out.2.2, by rw [wts_all H3.out.1.wt]; exact H3.out.2.2⟩
                    have C := H3.out.1.sv.lw.waits
                    rw [HL.out.2] at C
                    go_wp2_with fail
                    refine C.mono ?_
                    rintro e w4 ⟨rfl, lw4, un4⟩
                    have H4 : Hid (Srv W w4 A S kb [cb] (.slice x7 nn d7) (.slice x8 nn d8) (.slice x9 nn d9) ∧ Blk w4 cb [.int .i64 ok, .int .i64 ot, .int .i64 of, .int .i64 os, .int .i64 on, .bool ob]) := ⟨H3.out.1.same lw4 un4 rfl, un4.blk H3.out.2.1 (by simp)⟩
                    clear lw4 un4 C H3 o0 o1 o2 o3 o4 o5
                    have o5 := H4.out.2.at 5 rfl
                    have C := H4.out.1.sv.lw.serve (fun k h => by
                      rcases List.mem_append.1 h with h | h
                      · simp at h; subst h; exact H4.out.2.lt
                      · exact (H4.out.1.sv.lt k h).2) (by omega) ob
                    cases hE : S.E with
                    | nil =>
                      obtain ⟨s1, s2⟩ := serve_nil hE ob
                      have s2 := s2.trans hE.symm
                      rw [s1] at C
                      go_wp2_with fail
                      refine C.mono ?_
                      rintro e2 w5 ⟨rfl, lw5, un5⟩
                      have H5 : Hid (Srv W w5 A (S.serve ob) (kb + 1) [] (.slice x7 nn d7) (.slice x8 nn d8) (.slice x9 nn d9) ∧ (S.serve ob).E.length = nn) := ⟨(H4.out.1.same lw5 un5 s2).less (by simp), by rw [s2]; exact HL.out.1⟩
                      clear lw5 un5 C H4 o5 s1 s2
                      have hwt : (wts (S.serve ob).E).length = nn := by rw [wts_all H5.out.1.wt]; exact H5.out.2
                      obtain ⟨S2, hS2⟩ : ∃ S2, S2 = S.serve ob := ⟨_, rfl⟩
                      rw [← hS2] at H5 hwt
                      clear hS2
                      have C := H5.out.1.sv.lw.waits
                      rw [hwt] at C
                      clear hwt
                      have hq1 : (((nn : Nat) : Int) == ((nn : Nat) : Int) - 1) = false := by simp; try omega
                      go_wp2_with fail
                      refine C.mono ?_
                      rintro e3 w6 ⟨rfl, lw6, un6⟩
                      have H6 : Hid (Srv W w6 A S2 (kb + 1) [] (.slice x7 nn d7) (.slice x8 nn d8) (.slice x9 nn d9) ∧ S2.E.length = nn) := ⟨H5.out.1.same lw6 un6 rfl, H5.out.2⟩
                      clear lw6 un6 C
                      have C := H6.out.1.sv.lw.waits
                      rw [show (wts S2.E).length = nn by rw [wts_all H6.out.1.wt]; exact H6.out.2] at C
                      clear H5
                      go_wp2_with fail
                      refine C.mono ?_
                      rintro e4 w7 ⟨rfl, lw7, un7⟩
                      have H7 : Hid (Srv W w7 A S2 (kb + 1) [] (.slice x7 nn d7) (.slice x8 nn d8) (.slice x9 nn d9) ∧ S2.E.length = nn) := ⟨H6.out.1.same lw7 un7 rfl, H6.out.2⟩
                      clear lw7 un7 C H6
                      go_wp2
                      go_meet
                      case rel => exact ⟨S2, kb + 1, nn, _, _, _, _, _, _, rfl, rfl, rfl, H7.out.1, by omega, H7.out.2⟩
                    | cons e R =>
                      rcases serve_cons hE (H4.out.1.wt e (by rw [hE]; exact List.mem_cons_self)) ob with ⟨s1, e', s2, s3, s4⟩ | ⟨s1, s2⟩
                      · rw [s1] at C
                        obtain ⟨r, hr⟩ : ∃ r, r = R.length := ⟨_, rfl⟩
                        have HN : Hid (nn = r + 1 ∧ r = R.length) := ⟨by rw [hr, ← HL.out.1, hE]; rfl, hr⟩
                        have hn1 : 1 ≤ nn := by rw [← HL.out.1, hE]; simp
                        clear hr
                        have HS3 : Hid (e'.th = e.th ∧ AllW S) := ⟨s3, H4.out.1.wt⟩
                        have HR : Hid (∀ x, x ∈ R → x.st = 0) := fun x hx => H4.out.1.wt x (by rw [hE]; exact List.mem_cons_of_mem _ hx)
                        go_wp2_with fail
                        refine C.mono ?_
                        rintro e2 w5 ⟨rfl, lw5, un5⟩
                        have H5 : Hid (Sv 3 3 4 W w5 A (S.serve ob) (kb + 1) [] (.slice x7 nn d7) (.slice x8 nn d8) (.slice x9 nn d9) (.int .i64 e.th :: c7s R) (.int .i64 e.cy :: c8s R) (.bool e.nt :: c9s R)) := by
                          have h := (H4.out.1.sv.call lw5 un5).less (D' := []) (by simp)
                          rw [hE] at h
                          exact h
                        have hn0 : (e'.st == 0) = false := by rcases s4 with s4 | ⟨s4, _⟩ <;> simp [s4]
                        have HF : Hid ((wts (S.serve ob).E).length = r) := by
                          have hr : wts R = R := by unfold wts; rw [List.filter_eq_self.2 fun x hx => by simp [HR.out x hx]]
                          show (wts (S.serve ob).E).length = r
                          rw [HN.out.2]
                          rw [s2]
                          unfold wts at hr ⊢
                          rw [List.filter_cons, hn0, if_neg (by simp), hr]
                        obtain ⟨S2, hS2⟩ : ∃ S2, S2 = S.serve ob := ⟨_, rfl⟩
                        rw [← hS2] at H5 s2 HF
                        clear lw5 un5 C H4 o5 s1 hS2 hn0
                        have C := H5.out.lw.waits
                        rw [HF.out] at C
                        have hq1 : ((r : Int) == (nn : Int) - 1) = true := by
                          rw [show (r : Int) = (nn : Int) - 1 by have := HN.out.1; omega]
                          exact beq_self_eq_true _
                        have hq2 : ((nn : Int) == 0) = false := by simp; omega
                        go_wp2_with fail
                        refine C.mono ?_
                        rintro e3 w6 ⟨rfl, lw6, un6⟩
                        have H6 : Hid (Sv 3 3 4 W w6 A S2 (kb + 1) [] (.slice x7 nn d7) (.slice x8 nn d8) (.slice x9 nn d9) (.int .i64 e.th :: c7s R) (.int .i64 e.cy :: c8s R) (.bool e.nt :: c9s R)) := H5.out.call lw6 un6
                        clear lw6 un6 C H5
                        obtain ⟨g7, o7, c7, he7, hr7, -⟩ := H6.out.l7.at (by simp)
                        obtain ⟨rfl, -, rfl⟩ := Value.slice.inj he7
                        obtain ⟨g8, o8, c8, he8, hr8, -⟩ := H6.out.l8.at (by simp)
                        obtain ⟨rfl, -, rfl⟩ := Value.slice.inj he8
                        obtain ⟨g9, o9, c9, he9, -, -⟩ := H6.out.l9.at (by simp)
                        obtain ⟨rfl, -, rfl⟩ := Value.slice.inj he9
                        have a7 := hr7 0 (by simp)
                        rw [List.getElem_cons_zero, Nat.add_zero] at a7
                        have a8 := hr8 0 (by simp)
                        rw [List.getElem_cons_zero, Nat.add_zero] at a8
                        clear he7 he8 he9 hr7 hr8
                        obtain ⟨k1, k2⟩ := look_hd s2 (s4.imp id fun h => h.1)
                        rw [HS3.out.1] at k1 k2
                        obtain ⟨t0, ht0⟩ : ∃ t0, t0 = e.th := ⟨_, rfl⟩
                        obtain ⟨y0, hy0⟩ : ∃ y0, y0 = e.cy := ⟨_, rfl⟩
                        rw [← ht0] at a7 k1 k2 H6
                        rw [← hy0] at a8 s4 H6
                        have HI8 : Hid (w6.cell? ⟨g8, o8, none⟩ = some (.int .i64 y0)) := a8
                        obtain ⟨st, G, at_, hgr⟩ : ∃ (st : Int) (G : List Int) (at_ : Int), S2.lookG t0 = (⟨st, G, at_⟩ : Gr) := ⟨_, _, _, rfl⟩
                        have hst : st = 1 ∨ st = 2 ∧ 2 ≤ y0 := by
                          rw [hgr] at k1
                          have k1 : st = e'.st := k1
                          rw [k1]; exact s4
                        have C := H6.out.lw.look (fun k h => (H6.out.lt k (by simpa using h)).2) (by omega) t0
                        rw [hgr] at C
                        have HK : Hid ((S2.look t0).E = R) := k2
                        obtain ⟨S3, hS3⟩ : ∃ S3, S3 = S2.look t0 := ⟨_, rfl⟩
                        rw [← hS3] at C HK
                        clear k1 k2 s2 s3 s4 hgr ht0 hy0 hE HL HF hS3 a8
                        go_wp2_with fail
                        refine C.mono ?_
                        rintro e4 w7 ⟨x, d, rfl, _, _, lw7, un7⟩
                        have H7 : Hid (Sv 3 3 4 W w7 A S3 (kb + 1 + 1) [] (.slice (some ⟨g7, o7, none⟩) nn d7) (.slice (some ⟨g8, o8, none⟩) nn d8) (.slice (some ⟨g9, o9, none⟩) nn d9) (.int .i64 t0 :: c7s R) (.int .i64 y0 :: c8s R) (.bool e.nt :: c9s R)) := H6.out.call lw7 un7
                        clear lw7 un7 C a7 HI8 H6
                        go_upto_region 41 with fail
                        generalize hW : w7.alloc _ = w8
                        obtain ⟨gb, hgb⟩ : ∃ gb, gb = w7.heap.size := ⟨_, rfl⟩
                        rw [← hgb]
                        have H8 : Hid (Sv 3 3 4 W w8 A S3 (kb + 1 + 1) [] (.slice (some ⟨g7, o7, none⟩) nn d7) (.slice (some ⟨g8, o8, none⟩) nn d8) (.slice (some ⟨g9, o9, none⟩) nn d9) (.int .i64 t0 :: c7s R) (.int .i64 y0 :: c8s R) (.bool e.nt :: c9s R) ∧ Blk w8 gb [.int .i64 st, .slice x G.length d, .int .i64 at_]) := by
                          rw [← hW, hgb]
                          exact ⟨H7.out.keep ((Kept.refl _).alloc _ _), Blk.new w7 _ _⟩
                        clear hW hgb H7
                        obtain ⟨p7, j7⟩ := H8.out.1.tail7
                        obtain ⟨p8, j8⟩ := j7.rot.tail7
                        obtain ⟨p9, j9⟩ := j8.rot.tail7
                        have H9 : Hid (Srv W w8 A S3 (kb + 1 + 1) [] (.slice (if d7 = 1 then some ⟨g7, o7, none⟩ else some ⟨g7, o7 + 1, none⟩) (nn - 1) (d7 - 1)) (.slice (if d8 = 1 then some ⟨g8, o8, none⟩ else some ⟨g8, o8 + 1, none⟩) (nn - 1) (d8 - 1)) (.slice (if d9 = 1 then some ⟨g9, o9, none⟩ else some ⟨g9, o9 + 1, none⟩) (nn - 1) (d9 - 1)) ∧ S3.E.length = nn - 1) := by
                          have j := j9.rot
                          have hl : R.length = nn - 1 := by have h1 := HN.out.1; have h2 := HN.out.2; omega
                          rw [show (c7s R).length = nn - 1 by simp [c7s, hl], show (c8s R).length = nn - 1 by simp [c8s, hl], show (c9s R).length = nn - 1 by simp [c9s, hl]] at j
                          refine ⟨⟨?_, fun x hx => ?_⟩, by rw [HK.out]; exact hl⟩
                          · rw [HK.out]; exact j
                          · rw [HK.out] at hx; exact HR.out x hx
                        clear j7 j8 j9
                        have b0 := H8.out.2.at 0 rfl
                        have a8 : w8.cell? ⟨g8, o8, none⟩ = some (.int .i64 y0) := by
                          obtain ⟨p, p1, p2, hp, hr8, -⟩ := H8.out.1.l8.at (by simp)
                          obtain ⟨hp1, -, -⟩ := Value.slice.inj hp
                          cases hp1
                          exact hr8 0 (by simp)
                        have hr1 : (1 : Int) ≤ (nn : Int) := by omega
                        have HP : Hid (1 ≤ d7 ∧ 1 ≤ d8 ∧ 1 ≤ d9) := ⟨p7, p8, p9⟩
                        rcases hst with rfl | ⟨rfl, hy2⟩
                        · as_aux_lemma =>
                            go_upto_region 43 with fail
                            have HH : Hid (kb ≤ 2 * k) := hkb
                            clear b0 a8 H8
                            by_cases u7 : d7 = 1
                            · have u7' : (1 : Nat) = d7 := u7.symm
                              subst u7'
                              by_cases u8 : d8 = 1
                              · have u8' : (1 : Nat) = d8 := u8.symm
                                subst u8'
                                by_cases u9 : d9 = 1
                                · have u9' : (1 : Nat) = d9 := u9.symm
                                  subst u9'
                                  have H10 := H9.out
                                  rw [if_pos (rfl : (1 : Nat) = 1), if_pos (rfl : (1 : Nat) = 1), if_pos (rfl : (1 : Nat) = 1)] at H10
                                  have H11 : Hid _ := H10
                                  clear H10 H9
                                  refine wp_region_kept (by kernel_rfl) (by kernel_rfl) fun _ => ?_
                                  repeat (go_big_quiet_step (skip))
                                  refine wpQuiet_nil ?_
                                  rintro _ ⟨zz, rfl⟩
                                  have H12 : Hid (Srv W zz.it A S3 (kb + 1 + 1) [] _ _ _ ∧ S3.E.length = nn - 1) := ⟨⟨H11.out.1.sv.keep zz.ok, H11.out.1.wt⟩, H11.out.2⟩
                                  clear H11
                                  go_wp2
                                  go_meet
                                  case rel => exact ⟨S3, kb + 1 + 1, nn - 1, _, _, _, _, _, _, rfl, rfl, rfl, H12.out.1, by omega, H12.out.2⟩
                                · have H10 := H9.out
                                  rw [if_pos (rfl : (1 : Nat) = 1), if_pos (rfl : (1 : Nat) = 1), if_neg u9] at H10
                                  have H11 : Hid _ := H10
                                  clear H10 H9
                                  refine wp_region_kept (by kernel_rfl) (by kernel_rfl) fun _ => ?_
                                  repeat (go_big_quiet_step (skip))
                                  refine wpQuiet_nil ?_
                                  rintro _ ⟨zz, rfl⟩
                                  have H12 : Hid (Srv W zz.it A S3 (kb + 1 + 1) [] _ _ _ ∧ S3.E.length = nn - 1) := ⟨⟨H11.out.1.sv.keep zz.ok, H11.out.1.wt⟩, H11.out.2⟩
                                  clear H11
                                  go_wp2
                                  go_meet
                                  case rel => exact ⟨S3, kb + 1 + 1, nn - 1, _, _, _, _, _, _, rfl, rfl, rfl, H12.out.1, by omega, H12.out.2⟩
                              · by_cases u9 : d9 = 1
                                · have u9' : (1 : Nat) = d9 := u9.symm
                                  subst u9'
                                  have H10 := H9.out
                                  rw [if_pos (rfl : (1 : Nat) = 1), if_neg u8, if_pos (rfl : (1 : Nat) = 1)] at H10
                                  have H11 : Hid _ := H10
                                  clear H10 H9
                                  refine wp_region_kept (by kernel_rfl) (by kernel_rfl) fun _ => ?_
                                  repeat (go_big_quiet_step (skip))
                                  refine wpQuiet_nil ?_
                                  rintro _ ⟨zz, rfl⟩
                                  have H12 : Hid (Srv W zz.it A S3 (kb + 1 + 1) [] _ _ _ ∧ S3.E.length = nn - 1) := ⟨⟨H11.out.1.sv.keep zz.ok, H11.out.1.wt⟩, H11.out.2⟩
                                  clear H11
                                  go_wp2
                                  go_meet
                                  case rel => exact ⟨S3, kb + 1 + 1, nn - 1, _, _, _, _, _, _, rfl, rfl, rfl, H12.out.1, by omega, H12.out.2⟩
                                · have H10 := H9.out
                                  rw [if_pos (rfl : (1 : Nat) = 1), if_neg u8, if_neg u9] at H10
                                  have H11 : Hid _ := H10
                                  clear H10 H9
                                  refine wp_region_kept (by kernel_rfl) (by kernel_rfl) fun _ => ?_
                                  repeat (go_big_quiet_step (skip))
                                  refine wpQuiet_nil ?_
                                  rintro _ ⟨zz, rfl⟩
                                  have H12 : Hid (Srv W zz.it A S3 (kb + 1 + 1) [] _ _ _ ∧ S3.E.length = nn - 1) := ⟨⟨H11.out.1.sv.keep zz.ok, H11.out.1.wt⟩, H11.out.2⟩
                                  clear H11
                                  go_wp2
                                  go_meet
                                  case rel => exact ⟨S3, kb + 1 + 1, nn - 1, _, _, _, _, _, _, rfl, rfl, rfl, H12.out.1, by omega, H12.out.2⟩
                            · by_cases u8 : d8 = 1
                              · have u8' : (1 : Nat) = d8 := u8.symm
                                subst u8'
                                by_cases u9 : d9 = 1
                                · have u9' : (1 : Nat) = d9 := u9.symm
                                  subst u9'
                                  have H10 := H9.out
                                  rw [if_neg u7, if_pos (rfl : (1 : Nat) = 1), if_pos (rfl : (1 : Nat) = 1)] at H10
                                  have H11 : Hid _ := H10
                                  clear H10 H9
                                  refine wp_region_kept (by kernel_rfl) (by kernel_rfl) fun _ => ?_
                                  repeat (go_big_quiet_step (skip))
                                  refine wpQuiet_nil ?_
                                  rintro _ ⟨zz, rfl⟩
                                  have H12 : Hid (Srv W zz.it A S3 (kb + 1 + 1) [] _ _ _ ∧ S3.E.length = nn - 1) := ⟨⟨H11.out.1.sv.keep zz.ok, H11.out.1.wt⟩, H11.out.2⟩
                                  clear H11
                                  go_wp2
                                  go_meet
                                  case rel => exact ⟨S3, kb + 1 + 1, nn - 1, _, _, _, _, _, _, rfl, rfl, rfl, H12.out.1, by omega, H12.out.2⟩
                                · have H10 := H9.out
                                  rw [if_neg u7, if_pos (rfl : (1 : Nat) = 1), if_neg u9] at H10
                                  have H11 : Hid _ := H10
                                  clear H10 H9
                                  refine wp_region_kept (by kernel_rfl) (by kernel_rfl) fun _ => ?_
                                  repeat (go_big_quiet_step (skip))
                                  refine wpQuiet_nil ?_
                                  rintro _ ⟨zz, rfl⟩
                                  have H12 : Hid (Srv W zz.it A S3 (kb + 1 + 1) [] _ _ _ ∧ S3.E.length = nn - 1) := ⟨⟨H11.out.1.sv.keep zz.ok, H11.out.1.wt⟩, H11.out.2⟩
                                  clear H11
                                  go_wp2
                                  go_meet
                                  case rel => exact ⟨S3, kb + 1 + 1, nn - 1, _, _, _, _, _, _, rfl, rfl, rfl, H12.out.1, by omega, H12.out.2⟩
                              · by_cases u9 : d9 = 1
                                · have u9' : (1 : Nat) = d9 := u9.symm
                                  subst u9'
                                  have H10 := H9.out
                                  rw [if_neg u7, if_neg u8, if_pos (rfl : (1 : Nat) = 1)] at H10
                                  have H11 : Hid _ := H10
                                  clear H10 H9
                                  refine wp_region_kept (by kernel_rfl) (by kernel_rfl) fun _ => ?_
                                  repeat (go_big_quiet_step (skip))
                                  refine wpQuiet_nil ?_
                                  rintro _ ⟨zz, rfl⟩
                                  have H12 : Hid (Srv W zz.it A S3 (kb + 1 + 1) [] _ _ _ ∧ S3.E.length = nn - 1) := ⟨⟨H11.out.1.sv.keep zz.ok, H11.out.1.wt⟩, H11.out.2⟩
                                  clear H11
                                  go_wp2
                                  go_meet
                                  case rel => exact ⟨S3, kb + 1 + 1, nn - 1, _, _, _, _, _, _, rfl, rfl, rfl, H12.out.1, by omega, H12.out.2⟩
                                · have H10 := H9.out
                                  rw [if_neg u7, if_neg u8, if_neg u9] at H10
                                  have H11 : Hid _ := H10
                                  clear H10 H9
                                  refine wp_region_kept (by kernel_rfl) (by kernel_rfl) fun _ => ?_
                                  repeat (go_big_quiet_step (skip))
                                  refine wpQuiet_nil ?_
                                  rintro _ ⟨zz, rfl⟩
                                  have H12 : Hid (Srv W zz.it A S3 (kb + 1 + 1) [] _ _ _ ∧ S3.E.length = nn - 1) := ⟨⟨H11.out.1.sv.keep zz.ok, H11.out.1.wt⟩, H11.out.2⟩
                                  clear H11
                                  go_wp2
                                  go_meet
                                  case rel => exact ⟨S3, kb + 1 + 1, nn - 1, _, _, _, _, _, _, rfl, rfl, rfl, H12.out.1, by omega, H12.out.2⟩
                        · have hy3 : ¬ y0 < 2 := by omega
                          as_aux_lemma =>
                            go_upto_region 43 with fail
                            have HH : Hid (kb ≤ 2 * k) := hkb
                            clear b0 a8 H8
                            by_cases u7 : d7 = 1
                            · have u7' : (1 : Nat) = d7 := u7.symm
                              subst u7'
                              by_cases u8 : d8 = 1
                              · have u8' : (1 : Nat) = d8 := u8.symm
                                subst u8'
                                by_cases u9 : d9 = 1
                                · have u9' : (1 : Nat) = d9 := u9.symm
                                  subst u9'
                                  have H10 := H9.out
                                  rw [if_pos (rfl : (1 : Nat) = 1), if_pos (rfl : (1 : Nat) = 1), if_pos (rfl : (1 : Nat) = 1)] at H10
                                  have H11 : Hid _ := H10
                                  clear H10 H9
                                  refine wp_region_kept (by kernel_rfl) (by kernel_rfl) fun _ => ?_
                                  repeat (go_big_quiet_step (skip))
                                  refine wpQuiet_nil ?_
                                  rintro _ ⟨zz, rfl⟩
                                  have H12 : Hid (Srv W zz.it A S3 (kb + 1 + 1) [] _ _ _ ∧ S3.E.length = nn - 1) := ⟨⟨H11.out.1.sv.keep zz.ok, H11.out.1.wt⟩, H11.out.2⟩
                                  clear H11
                                  go_wp2
                                  go_meet
                                  case rel => exact ⟨S3, kb + 1 + 1, nn - 1, _, _, _, _, _, _, rfl, rfl, rfl, H12.out.1, by omega, H12.out.2⟩
                                · have H10 := H9.out
                                  rw [if_pos (rfl : (1 : Nat) = 1), if_pos (rfl : (1 : Nat) = 1), if_neg u9] at H10
                                  have H11 : Hid _ := H10
                                  clear H10 H9
                                  refine wp_region_kept (by kernel_rfl) (by kernel_rfl) fun _ => ?_
                                  repeat (go_big_quiet_step (skip))
                                  refine wpQuiet_nil ?_
                                  rintro _ ⟨zz, rfl⟩
                                  have H12 : Hid (Srv W zz.it A S3 (kb + 1 + 1) [] _ _ _ ∧ S3.E.length = nn - 1) := ⟨⟨H11.out.1.sv.keep zz.ok, H11.out.1.wt⟩, H11.out.2⟩
                                  clear H11
                                  go_wp2
                                  go_meet
                                  case rel => exact ⟨S3, kb + 1 + 1, nn - 1, _, _, _, _, _, _, rfl, rfl, rfl, H12.out.1, by omega, H12.out.2⟩
                              · by_cases u9 : d9 = 1
                                · have u9' : (1 : Nat) = d9 := u9.symm
                                  subst u9'
                                  have H10 := H9.out
                                  rw [if_pos (rfl : (1 : Nat) = 1), if_neg u8, if_pos (rfl : (1 : Nat) = 1)] at H10
                                  have H11 : Hid _ := H10
                                  clear H10 H9
                                  refine wp_region_kept (by kernel_rfl) (by kernel_rfl) fun _ => ?_
                                  repeat (go_big_quiet_step (skip))
                                  refine wpQuiet_nil ?_
                                  rintro _ ⟨zz, rfl⟩
                                  have H12 : Hid (Srv W zz.it A S3 (kb + 1 + 1) [] _ _ _ ∧ S3.E.length = nn - 1) := ⟨⟨H11.out.1.sv.keep zz.ok, H11.out.1.wt⟩, H11.out.2⟩
                                  clear H11
                                  go_wp2
                                  go_meet
                                  case rel => exact ⟨S3, kb + 1 + 1, nn - 1, _, _, _, _, _, _, rfl, rfl, rfl, H12.out.1, by omega, H12.out.2⟩
                                · have H10 := H9.out
                                  rw [if_pos (rfl : (1 : Nat) = 1), if_neg u8, if_neg u9] at H10
                                  have H11 : Hid _ := H10
                                  clear H10 H9
                                  refine wp_region_kept (by kernel_rfl) (by kernel_rfl) fun _ => ?_
                                  repeat (go_big_quiet_step (skip))
                                  refine wpQuiet_nil ?_
                                  rintro _ ⟨zz, rfl⟩
                                  have H12 : Hid (Srv W zz.it A S3 (kb + 1 + 1) [] _ _ _ ∧ S3.E.length = nn - 1) := ⟨⟨H11.out.1.sv.keep zz.ok, H11.out.1.wt⟩, H11.out.2⟩
                                  clear H11
                                  go_wp2
                                  go_meet
                                  case rel => exact ⟨S3, kb + 1 + 1, nn - 1, _, _, _, _, _, _, rfl, rfl, rfl, H12.out.1, by omega, H12.out.2⟩
                            · by_cases u8 : d8 = 1
                              · have u8' : (1 : Nat) = d8 := u8.symm
                                subst u8'
                                by_cases u9 : d9 = 1
                                · have u9' : (1 : Nat) = d9 := u9.symm
                                  subst u9'
                                  have H10 := H9.out
                                  rw [if_neg u7, if_pos (rfl : (1 : Nat) = 1), if_pos (rfl : (1 : Nat) = 1)] at H10
                                  have H11 : Hid _ := H10
                                  clear H10 H9
                                  refine wp_region_kept (by kernel_rfl) (by kernel_rfl) fun _ => ?_
                                  repeat (go_big_quiet_step (skip))
                                  refine wpQuiet_nil ?_
                                  rintro _ ⟨zz, rfl⟩
                                  have H12 : Hid (Srv W zz.it A S3 (kb + 1 + 1) [] _ _ _ ∧ S3.E.length = nn - 1) := ⟨⟨H11.out.1.sv.keep zz.ok, H11.out.1.wt⟩, H11.out.2⟩
                                  clear H11
                                  go_wp2
                                  go_meet
                                  case rel => exact ⟨S3, kb + 1 + 1, nn - 1, _, _, _, _, _, _, rfl, rfl, rfl, H12.out.1, by omega, H12.out.2⟩
                                · have H10 := H9.out
                                  rw [if_neg u7, if_pos (rfl : (1 : Nat) = 1), if_neg u9] at H10
                                  have H11 : Hid _ := H10
                                  clear H10 H9
                                  refine wp_region_kept (by kernel_rfl) (by kernel_rfl) fun _ => ?_
                                  repeat (go_big_quiet_step (skip))
                                  refine wpQuiet_nil ?_
                                  rintro _ ⟨zz, rfl⟩
                                  have H12 : Hid (Srv W zz.it A S3 (kb + 1 + 1) [] _ _ _ ∧ S3.E.length = nn - 1) := ⟨⟨H11.out.1.sv.keep zz.ok, H11.out.1.wt⟩, H11.out.2⟩
                                  clear H11
                                  go_wp2
                                  go_meet
                                  case rel => exact ⟨S3, kb + 1 + 1, nn - 1, _, _, _, _, _, _, rfl, rfl, rfl, H12.out.1, by omega, H12.out.2⟩
                              · by_cases u9 : d9 = 1
                                · have u9' : (1 : Nat) = d9 := u9.symm
                                  subst u9'
                                  have H10 := H9.out
                                  rw [if_neg u7, if_neg u8, if_pos (rfl : (1 : Nat) = 1)] at H10
                                  have H11 : Hid _ := H10
                                  clear H10 H9
                                  refine wp_region_kept (by kernel_rfl) (by kernel_rfl) fun _ => ?_
                                  repeat (go_big_quiet_step (skip))
                                  refine wpQuiet_nil ?_
                                  rintro _ ⟨zz, rfl⟩
                                  have H12 : Hid (Srv W zz.it A S3 (kb + 1 + 1) [] _ _ _ ∧ S3.E.length = nn - 1) := ⟨⟨H11.out.1.sv.keep zz.ok, H11.out.1.wt⟩, H11.out.2⟩
                                  clear H11
                                  go_wp2
                                  go_meet
                                  case rel => exact ⟨S3, kb + 1 + 1, nn - 1, _, _, _, _, _, _, rfl, rfl, rfl, H12.out.1, by omega, H12.out.2⟩
                                · have H10 := H9.out
                                  rw [if_neg u7, if_neg u8, if_neg u9] at H10
                                  have H11 : Hid _ := H10
                                  clear H10 H9
                                  refine wp_region_kept (by kernel_rfl) (by kernel_rfl) fun _ => ?_
                                  repeat (go_big_quiet_step (skip))
                                  refine wpQuiet_nil ?_
                                  rintro _ ⟨zz, rfl⟩
                                  have H12 : Hid (Srv W zz.it A S3 (kb + 1 + 1) [] _ _ _ ∧ S3.E.length = nn - 1) := ⟨⟨H11.out.1.sv.keep zz.ok, H11.out.1.wt⟩, H11.out.2⟩
                                  clear H11
                                  go_wp2
                                  go_meet
                                  case rel => exact ⟨S3, kb + 1 + 1, nn - 1, _, _, _, _, _, _, rfl, rfl, rfl, H12.out.1, by omega, H12.out.2⟩
                      · rw [s1] at C
                        go_wp2_with fail
                        refine C.mono ?_
                        rintro e2 w5 ⟨rfl, lw5, un5⟩
                        have H5 : Hid (Srv W w5 A (S.serve ob) (kb + 1) [] (.slice x7 nn d7) (.slice x8 nn d8) (.slice x9 nn d9) ∧ (S.serve ob).E.length = nn) := ⟨(H4.out.1.same lw5 un5 s2).less (by simp), by rw [s2]; exact HL.out.1⟩
                        clear lw5 un5 C H4 o5 s1 s2
                        have hwt : (wts (S.serve ob).E).length = nn := by rw [wts_all H5.out.1.wt]; exact H5.out.2
                        obtain ⟨S2, hS2⟩ : ∃ S2, S2 = S.serve ob := ⟨_, rfl⟩
                        rw [← hS2] at H5 hwt
                        clear hS2
                        have C := H5.out.1.sv.lw.waits
                        rw [hwt] at C
                        clear hwt
                        have hq1 : (((nn : Nat) : Int) == ((nn : Nat) : Int) - 1) = false := by simp; try omega
                        go_wp2_with fail
                        refine C.mono ?_
                        rintro e3 w6 ⟨rfl, lw6, un6⟩
                        have H6 : Hid (Srv W w6 A S2 (kb + 1) [] (.slice x7 nn d7) (.slice x8 nn d8) (.slice x9 nn d9) ∧ S2.E.length = nn) := ⟨H5.out.1.same lw6 un6 rfl, H5.out.2⟩
                        clear lw6 un6 C
                        have C := H6.out.1.sv.lw.waits
                        rw [show (wts S2.E).length = nn by rw [wts_all H6.out.1.wt]; exact H6.out.2] at C
                        clear H5
                        go_wp2_with fail
                        refine C.mono ?_
                        rintro e4 w7 ⟨rfl, lw7, un7⟩
                        have H7 : Hid (Srv W w7 A S2 (kb + 1) [] (.slice x7 nn d7) (.slice x8 nn d8) (.slice x9 nn d9) ∧ S2.E.length = nn) := ⟨H6.out.1.same lw7 un7 rfl, H6.out.2⟩
                        clear lw7 un7 C H6
                        go_wp2
                        go_meet
                        case rel => exact ⟨S2, kb + 1, nn, _, _, _, _, _, _, rfl, rfl, rfl, H7.out.1, by omega, H7.out.2⟩
                · have h11' : (ok == 11) = false := by simpa using h11
                  clear h11
                  have HF : Hid (Srv W w1 A S kb [] (.slice x7 nn d7) (.slice x8 nn d8) (.slice x9 nn d9)) := H3.out.1.less (by simp)
                  go_wp2
                  go_meet
                  case rel => exact ⟨S, kb, nn, _, _, _, _, _, _, rfl, rfl, rfl, HF.out, by omega, H3.out.2.2⟩
      case rest =>
        obtain ⟨S2, kb2, m2, y7, f7, y8, f8, y9, f9, rfl, rfl, rfl, hc⟩ := hcut
        have hkb2 : kb2 ≤ 2 * (k + 1) := hc.out.2.1
        clear H3 o0 o1 o2 o3 o4 o5
        have C := hc.out.1.sv.lw.waits
        rw [show (wts S2.E).length = m2 by rw [wts_all hc.out.1.wt]; exact hc.out.2.2] at C
        have hmm : ((m2 : Int) != (m2 : Int)) = false := by simp
        go_wp2_with fail
        refine C.mono ?_
        rintro e w9 ⟨rfl, lw9, un9⟩
        have H9 : Hid (Srv W w9 A S2 kb2 [] (.slice y7 m2 f7) (.slice y8 m2 f8) (.slice y9 m2 f9) ∧ S2.E.length = m2) := ⟨hc.out.1.same lw9 un9 rfl, hc.out.2.2⟩
        clear C lw9 un9 hc
        go_wp2
        go_roundg (l1 - (k + 1))
        all_goals (have := HM.out; try omega)
        exact ⟨k + 1, kb2, m2, S2, _, _, _, _, _, _, rfl, rfl, rfl, by go_num, by omega, by omega, H9.out.1, by omega, H9.out.2⟩
    · obtain rfl : k = l1 := by omega
      have hki : ¬ (k : Int) < (k : Int) := by omega
      go_wp2_with fail
      refine (first_any wr).mono ?_
      rintro e w12 ⟨rfl, k12⟩
      have K12 : Hid (Kept w w12) := (KB.out.trans hw.out.1.sv.lw.kept).trans k12
      clear k12 hw
      go_wp2
      go_ret
      exact ⟨rfl, K12.out⟩
end Go.Proofs.Ytahpnnjemjjfhaa
