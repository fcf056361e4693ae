/-
  The walk of HaulSame.
-/
import Derived.Test.YtgnikgkpbibmgaaHaP
import Derived.Test.YtgnikgkpbibmgaaBools16
namespace Go.Proofs.Ytgnikgkpbibmgaa
open Go.RowKit

set_option maxRecDepth 20000 in
set_option maxHeartbeats 16000000 in
theorem haulSame_any (x0 : Option Addr) (l0 c0 : Nat) (L0 : Nat → Int) (x1 : Option Addr) (l1 c1 : Nat) (L1 : Nat → Bool) (x2 : Option Addr) (l2 c2 : Nat) (L2 : Nat → Bool) (w : World) (_h0c : l0 ≤ c0) (hL0 : Ints w x0 l0 L0) (_hB0 : ∀ i, i < l0 → IntKind.min .i64 ≤ L0 i ∧ L0 i ≤ IntKind.max .i64) (_h1c : l1 ≤ c1) (hL1 : Bools w x1 l1 L1) (_h2c : l2 ≤ c2) (hL2 : Bools w x2 l2 L2) :
    Calls Try.prog 3 #[.slice x0 l0 c0, .slice x1 l1 c1, .slice x2 l2 c2] w fun e w' => e = .returned (.bool true) ∧ Kept w w' := by
  have HS0 : Hid (Rdv w x0 l0 (fun i => .int .i64 (L0 i))) := fun h => hL0.at h
  have HB1 : Hid (Rdv w x1 l1 (fun i => .bool (L1 i))) := fun h => hL1.at h
  have HB2 : Hid (Rdv w x2 l2 (fun i => .bool (L2 i))) := fun h => hL2.at h
  clear hL1 hL2
  clear hL0
  obtain ⟨zz, hzz⟩ : ∃ zz : Nat → Nat, zz = fun i => (L0 i).toNat := ⟨_, rfl⟩
  have HZZ : Hid (zz = fun i => (L0 i).toNat) := hzz
  clear hzz
  go_enter Try.func3, Try.ntmps3
  go_wp2_with fail
  refine (first_any _).mono ?_
  rintro e w1 ⟨rfl, K1⟩
  have HK1 : Hid (Kept w w1) := K1
  clear K1
  go_wp2
  go_loopg [9, 7] l0 (fun m i nn wr => ∃ k : Nat, i = .int .i64 k ∧ nn = .int .i64 (Aof zz k : Int) ∧ k ≤ l0 ∧ k ≤ 60 ∧ m = l0 - k ∧ Hid (Kept w wr ∧ ∀ j, j < k → L0 j = (zz j : Int) ∧ zz j ≤ 64))
  case atStart => exact ⟨0, rfl, rfl, by omega, by omega, by omega, HK1.out, fun j hj => absurd hj (Nat.not_lt_zero _)⟩
  case round =>
    obtain ⟨k, rfl, rfl, hk, hk60, hm, HK⟩ := hrel
    have HE : Hid _ := hm
    have HAk : Hid (Aof zz k ≤ 66 * k) := by
      have key : ∀ i, i ≤ k → Aof zz i ≤ 66 * i := by
        intro i
        induction i with
        | zero => intro _; exact Nat.le_refl _
        | succ i ih =>
          intro hi
          have h1 := ih (by omega)
          have h2 := (HK.out.2 i (by omega)).2
          simp only [Aof]
          omega
      exact key k (Nat.le_refl _)
    clear hm
    by_cases hlt : k < l0
    · by_cases h60 : k < 60
      · obtain ⟨sb, sx, hx, hsb, hsc⟩ := HS0.out (by omega)
        have cs := (HK.out.1.cell hsb).trans (hsc k hlt)
        simp only [] at cs
        have HX : Hid (x0 = some ⟨sb, sx, none⟩) := hx
        subst hx
        clear hsb hsc
        have ha := HAk.out
        obtain ⟨ak, hak⟩ : ∃ ak, ak = Aof zz k := ⟨_, rfl⟩
        rw [← hak] at ha ⊢
        have HAK : Hid (ak = Aof zz k) := hak
        clear hak
        obtain ⟨s, hs⟩ : ∃ s, s = L0 k := ⟨_, rfl⟩
        rw [← hs] at cs
        have HSK : Hid (s = L0 k) := hs
        clear hs
        by_cases hneg : s < 0
        · go_wp2_with fail
          refine (first_any _).mono ?_
          rintro e wf ⟨rfl, Kf⟩
          have HKF : Hid (Kept w wf) := HK.out.1.trans Kf
          clear Kf
          go_wp2
          go_ret
          exact ⟨rfl, HKF.out⟩
        · by_cases hbig : 64 < s
          · go_wp2_with fail
            refine (first_any _).mono ?_
            rintro e wf ⟨rfl, Kf⟩
            have HKF : Hid (Kept w wf) := HK.out.1.trans Kf
            clear Kf
            go_wp2
            go_ret
            exact ⟨rfl, HKF.out⟩
          · have h0 : 0 ≤ s := by omega
            have h1 : s ≤ 64 := by omega
            clear hneg hbig
            go_wp2
            go_roundg (l0 - (k + 1))
            case measure => have := HE.out; omega
            case rel =>
              have hz : zz k = s.toNat := by rw [HZZ.out, HSK.out]
              refine ⟨k + 1, by go_num, ?_, by omega, by omega, by omega, HK.out.1, fun j hj => ?_⟩
              · have e : ((Aof zz (k + 1) : Nat) : Int) = (ak : Int) + 2 + s := by
                  simp only [Aof]
                  rw [← HAK.out, hz]
                  omega
                rw [e]
              · by_cases q : j = k
                · subst q
                  rw [hz, ← HSK.out]
                  omega
                · exact HK.out.2 j (by omega)
      · obtain rfl : k = 60 := by omega
        have ha := HAk.out
        generalize Aof zz 60 = ak at *
        go_wp2_with fail
        refine (first_any _).mono ?_
        rintro e wf ⟨rfl, Kf⟩
        have HKF : Hid (Kept w wf) := HK.out.1.trans Kf
        clear Kf
        go_wp2
        go_ret
        exact ⟨rfl, HKF.out⟩
    · obtain rfl : l0 = k := by omega
      have ha := HAk.out
      have HZ : Hid (∀ j, j < l0 → L0 j = (zz j : Int) ∧ zz j ≤ 64) := HK.out.2
      have HKA : Hid (Kept w wr) := HK.out.1
      clear HE HK HAk hlt hk
      obtain ⟨nn, hnn⟩ : ∃ nn, nn = Aof zz l0 := ⟨_, rfl⟩
      rw [← hnn] at ha ⊢
      have HNN : Hid (nn = Aof zz l0) := hnn
      clear hnn
      obtain ⟨W0, rfl⟩ : ∃ W0, W0 = wr := ⟨_, rfl⟩
      by_cases hn : 2000 < nn
      · go_wp2_with fail
        refine (first_any _).mono ?_
        rintro e wf ⟨rfl, Kf⟩
        have HKF : Hid (Kept w wf) := HKA.out.trans Kf
        clear Kf
        go_wp2
        go_ret
        exact ⟨rfl, HKF.out⟩
      · by_cases h1l : l1 < l0
        · go_wp2_with fail
          refine (first_any _).mono ?_
          rintro e wf ⟨rfl, Kf⟩
          have HKF : Hid (Kept w wf) := HKA.out.trans Kf
          clear Kf
          go_wp2
          go_ret
          exact ⟨rfl, HKF.out⟩
        · by_cases h2l : l2 < l0
          · go_wp2_with fail
            refine (first_any _).mono ?_
            rintro e wf ⟨rfl, Kf⟩
            have HKF : Hid (Kept w wf) := HKA.out.trans Kf
            clear Kf
            go_wp2
            go_ret
            exact ⟨rfl, HKF.out⟩
          · by_cases hn0 : nn = 0
            · have HLE0 : Hid (l0 ≤ 0 ∧ nn ≤ 0) := by
                have h := HNN.out
                have h2 := Aof_two zz l0
                exact ⟨by omega, by omega⟩
              clear hn0
              obtain ⟨n0, hx1, hx2, h4, hln, hn60⟩ : ∃ n0 : Nat, (if (4 : Int) > (l0 : Int) then (4 : Int) else (l0 : Int)) = (n0 : Int) ∧ (if (l0 : Int) < 4 then (4 : Int) else (l0 : Int)) = (n0 : Int) ∧ 4 ≤ n0 ∧ l0 ≤ n0 ∧ n0 ≤ 60 := by
                by_cases h : l0 < 4
                · exact ⟨4, by rw [if_pos (by omega)]; rfl, by rw [if_pos (by omega)]; rfl, by omega, by omega, by omega⟩
                · exact ⟨l0, by rw [if_neg (by omega)], by rw [if_neg (by omega)], by omega, by omega, by omega⟩
              have HG : Hid (Good (n0 : Int) (nn : Int) 0 1 1 0 1 0 1 F0) := good17 n0 nn (by omega) (by omega)
              have HBN : Hid (4 ≤ n0 ∧ l0 ≤ n0 ∧ n0 ≤ 60 ∧ nn ≤ 2000) := ⟨h4, hln, hn60, by omega⟩
              go_wp2_with fail
              clear hx1 hx2
              generalize hW1 : W0.alloc (Obj.cells #[Value.bool false, Value.slice none 0 0] _) = W1
              have S1 : Shps W1 (some ⟨W0.heap.size, 0, none⟩) 1 F0 := by
                rw [← hW1]
                exact shps_one ⟨false, none, 0, 0⟩ (by simp) (by simp) (by simp)
              have k1 : Kept W0 W1 := by rw [← hW1]; exact (Kept.refl W0).alloc _ _
              have z1 : W1.heap.size = W0.heap.size + 1 := by rw [← hW1]; simp
              clear hW1
              generalize hW2 : W1.alloc _ = U
              have k2 : Kept W1 U := by rw [← hW2]; exact (Kept.refl W1).alloc _ _
              have b2 : Blk U (W0.heap.size + 1) (cl n0 nn 0 1 1 0 1 0 (.slice (some ⟨W0.heap.size, 0, none⟩) 1 1)) := by rw [← hW2, ← z1]; exact Blk.new W1 _ _
              clear hW2
              have HU : Hid (Kept w U ∧ Blk U (W0.heap.size + 1) (cl n0 nn 0 1 1 0 1 0 (.slice (some ⟨W0.heap.size, 0, none⟩) 1 1)) ∧ Shps U (some ⟨W0.heap.size, 0, none⟩) 1 F0) := ⟨(HKA.out.trans k1).trans k2, b2, S1.kept k2⟩
              clear S1 k1 z1 k2 b2
              obtain ⟨len, hlen⟩ : ∃ len : Nat, 8 * n0 + 2 * nn = len := ⟨_, rfl⟩
              have CF : Hid (Calls Try.prog 7 #[.agg #[.int .i64 n0, .int .i64 nn, .int .i64 0, .int .i64 1, .int .i64 1, .int .i64 0, .int .i64 1, .int .i64 0, .slice (some ⟨W0.heap.size, 0, none⟩) 1 1], .slice none 0 0] U _) := fill_nil n0 nn 0 1 1 0 1 0 _ 1 1 F0 len U HU.out.2.2 (by
                have e : 8 * (n0 : Int) + 2 * (nn : Int) + 0 = (len : Int) := by omega
                rw [e]
                exact Is.is _ HG.out) (by omega)
              refine CF.out.mono ?_
              rintro e V ⟨b, M, rfl, hM, K4, hb, hMb⟩
              have HV : Hid (Kept U V ∧ Mm V b M len (fun _ => cz) 0 ∧ U.heap.size ≤ M ∧ U.heap.size ≤ b) := ⟨K4, hM, hMb, hb⟩
              clear K4 hM hb hMb CF
              have c0 : V.cell? ⟨W0.heap.size + 1, 0, none⟩ = some (.int .i64 (n0 : Int)) := (HU.out.2.1.kept HV.out.1).at 0 rfl
              have C1 : Hid (Calls Try.prog 8 #[.int .i64 n0, .int .i64 1] V _) := mh_new n0 HV.out.1 HV.out.2.1 HV.out.2.2.1 HV.out.2.2.2 (by omega)
              go_wp2_with fail
              refine C1.out.mono ?_
              rintro e W ⟨sb, tb, g, pb, v, rfl, HMh⟩
              have H2 : Hid (Mh U W b M sb tb g pb v len 0 (fun _ => cz) (ShS.new n0 1)) := HMh
              clear HMh HV C1 c0
              have C2 : Hid (Calls Try.prog 9 #[.int .i64 nn] W fun e w' => ∃ kb, e = .returned (.tuple #[.pointer (some ⟨kb, 0, none⟩), .int .i64 0]) ∧ Mz U w' ⟨b, M, kb, sb, tb, g, pb, v⟩ len 0 (fun _ => cz) (ShS.new n0 1) ⟨nn, 0, 0, 0, 0⟩) := mz_new nn H2.out (by omega)
              go_wp2_with fail
              refine C2.out.mono ?_
              rintro e W3 ⟨kb, rfl, HZ3⟩
              obtain ⟨X, hXM, hXk, hXs, hXt, hX3⟩ : ∃ X : Bl, X.M = M ∧ X.kb = kb ∧ X.sb = sb ∧ X.tb = tb ∧ Mz U W3 X len 0 (fun _ => cz) (ShS.new n0 1) ⟨nn, 0, 0, 0, 0⟩ := ⟨_, rfl, rfl, rfl, rfl, HZ3⟩
              clear HZ3 C2 H2
              subst hXM hXk hXs hXt
              have H3 : Hid (Mz U W3 X len 0 (fun _ => cz) (ShS.new n0 1) ⟨nn, 0, 0, 0, 0⟩) := hX3
              clear hX3
              have CT : Hid (∀ u q F S K, Mz U u X len q F S K → Calls Try.prog 10 #[.pointer (some ⟨X.sb, 0, none⟩)] u fun e w' => e = .returned (.pointer (some ⟨X.tb, 0, none⟩)) ∧ w' = u) := fun u q F S K h => h.table
              go_wp2_with fail
              refine (CT.out _ _ _ _ _ H3.out).mono ?_
              rintro e W4 ⟨rfl, rfl⟩
              have c0 : W4.cell? ⟨W0.heap.size + 1, 0, none⟩ = some (.int .i64 (n0 : Int)) := (HU.out.2.1.kept H3.out.kept).at 0 rfl
              have HLE : Hid (l0 ≤ l1 ∧ l0 ≤ l2 ∧ l0 ≤ 0 ∧ nn ≤ 0) := ⟨by omega, by omega, HLE0.out.1, HLE0.out.2⟩
              have hg1 : decide ((nn : Int) > 0) = false := by have := HLE.out; simp; omega
              have hg2 : decide ((0 : Int) < (l0 : Int)) = false := by have := HLE.out; simp; omega
              have hg3 : decide (0 < l0) = false := by have := HLE.out; simp; omega
              have hg4 : decide (0 < nn) = false := by have := HLE.out; simp; omega
              go_wp2
              clear c0
              go_loopg [16, 18] 0 (fun _ at' i wr => at' = .int .i64 0 ∧ i = .int .i64 0 ∧ Hid (Mz U wr X len 0 (fun _ => cz) (ShS.new n0 1) ⟨nn, 0, 0, 0, 0⟩))
              case atStart => exact ⟨rfl, rfl, H3.out⟩
              case round =>
                obtain ⟨rfl, rfl, HM⟩ := hrel
                have CTn : Hid (Calls Try.prog 16 #[.pointer (some ⟨X.kb, 0, none⟩)] wr fun e w' => e = .returned (.bool true) ∧ Mz U w' X len 0 (fun _ => cz) (ShS.new n0 1) ⟨nn, 1, 0, 0, 0⟩) := HM.out.turn.mono fun _ _ ⟨h1, h2, _⟩ => ⟨h1, h2⟩
                clear HM
                go_wp2_with fail
                refine CTn.out.mono ?_
                rintro e u2 ⟨rfl, h2⟩
                have H2 : Hid (Mz U u2 X len 0 (fun _ => cz) (ShS.new n0 1) ⟨nn, 1, 0, 0, 0⟩) := h2
                clear h2 CTn
                have hcb := HU.out.2.1.kept H2.out.kept
                have c0 := hcb.at 0 rfl
                have c1 := hcb.at 1 rfl
                have c2 := hcb.at 2 rfl
                have c3 := hcb.at 3 rfl
                have c4 := hcb.at 4 rfl
                have c5 := hcb.at 5 rfl
                have c6 := hcb.at 6 rfl
                have c7 := hcb.at 7 rfl
                have c8 := hcb.at 8 rfl
                clear hcb
                have CN : Hid (Calls Try.prog 17 #[.agg #[.int .i64 n0, .int .i64 nn, .int .i64 0, .int .i64 1, .int .i64 1, .int .i64 0, .int .i64 1, .int .i64 0, .slice (some ⟨W0.heap.size, 0, none⟩) 1 1], .int .i64 0, .int .i64 nn, .bool true] u2 _) := hnew_none n0 nn 0 1 1 0 1 0 _ 1 1 F0 (fun _ _ => false) 0 nn true u2 (HU.out.2.2.kept H2.out.kept) (fun i hi h => absurd h (by simp [F0])) HG.out (.inl rfl) (by omega) (nil_eq HLE.out.2.2.2)
                go_wp2_with fail
                refine CN.out.mono ?_
                rintro e u3 ⟨p, E, rfl, hs, hp, hk, _⟩
                have HR0 : Hid (Kept U u3 ∧ U.heap.size ≤ p ∧ Al U.heap.size X u3 len 0 (fun _ => cz) (ShS.new n0 1) ⟨nn, 1, 0, 0, 0⟩ p E ⟨0, nn, true, 0, 0, 0, 0, false, 0, cz, 12, 0, 0, 0⟩) := ⟨H2.out.kept.trans hk, Nat.le_trans H2.out.kept.size hp, H2.out.mx.kept hk, hs, fun k hk2 => Nat.lt_of_lt_of_le (H2.out.mx.own hk2).2 hp⟩
                clear hs hp hk CN c0 c1 c2 c3 c4 c5 c6 c7 c8 H2
                go_wp2
                go_loopg [21] 1 (fun m t wr => ∃ tt : Nat, t = .int .i64 tt ∧ tt ≤ 1 ∧ m = 1 - tt ∧ Hid (Kept U wr ∧ Al U.heap.size X wr len 0 (fun _ => cz) (ShS.new n0 1) ⟨nn, 1, 0, 0, 0⟩ p E ⟨0, nn, true, 0, 0, 0, 0, false, 0, cz, if tt = 0 then 12 else 13, 0, 0, tt⟩))
                case atStart => exact ⟨0, rfl, by omega, by omega, HR0.out.1, HR0.out.2.2⟩
                case round =>
                  obtain ⟨tt, rfl, htt, hm, HR⟩ := hrel
                  have HE : Hid _ := hm
                  clear hm
                  by_cases hlt : tt < 1
                  · have HA : Hid (Al U.heap.size X wr len 0 (fun _ => cz) (ShS.new n0 1) ⟨nn, 1, 0, 0, 0⟩ p E ⟨0, nn, true, 0, 0, 0, 0, false, 0, cz, 12, 0, 0, tt⟩) := by
                      have h := HR.out.2
                      rwa [if_pos (by omega)] at h
                    have CD : Hid (Calls Try.prog 18 #[.pointer (some ⟨p, 0, none⟩)] wr fun e w' => e = .returned (.bool false) ∧ w' = wr) := hdone_is false wr HA.out.hs rfl
                    have CS : Hid (Calls Try.prog 19 #[.pointer (some ⟨p, 0, none⟩), .pointer (some ⟨X.M, 0, none⟩), .pointer (some ⟨X.sb, 0, none⟩), .pointer (some ⟨X.kb, 0, none⟩)] wr fun e w' => e = .returned (.bool true) ∧ Kept U w' ∧ Al U.heap.size X w' len 0 (fun _ => cz) (ShS.new n0 1) ⟨nn, 1, 0, 0, 0⟩ p E ⟨0, nn, true, 0, 0, 0, 0, false, 0, cz, 13, 0, 0, tt + 1⟩) := by
                      refine (al_12 wr HA.out (by show tt ≤ 1000000; omega) rfl (by have h := HLE.out; show (0 : Int) = nn; omega)).mono fun _ _ ⟨h1, h2, m⟩ => ⟨h1, HR.out.1.muts m (fun k hk => ?_), h2⟩
                      rcases List.mem_cons.1 hk with r | r
                      · rw [r]; exact HR0.out.2.1
                      · exact (HA.out.mx.own r).1
                    go_wp2_with fail
                    refine CD.out.mono ?_
                    rintro e u4 ⟨rfl, rfl⟩
                    go_wp2_with fail
                    refine CS.out.mono ?_
                    rintro e u5 ⟨rfl, hK5, hA5⟩
                    have HR5 : Hid (Kept U u5 ∧ Al U.heap.size X u5 len 0 (fun _ => cz) (ShS.new n0 1) ⟨nn, 1, 0, 0, 0⟩ p E ⟨0, nn, true, 0, 0, 0, 0, false, 0, cz, 13, 0, 0, tt + 1⟩) := ⟨hK5, hA5⟩
                    clear hK5 hA5 CS CD HR HA
                    have CRd : Hid (Calls Try.prog 20 #[.pointer (some ⟨X.M, 0, none⟩), .slice x0 l0 c0, .slice x1 l1 c1, .slice x2 l2 c2, .int .i64 (8 * (n0 : Int))] u5 fun e w' => e = .returned (.bool true) ∧ Kept u5 w') := by
                      have := reads_is (base := 8 * n0) (z := zz) (tl := L2) (x0 := x0) (c0 := c0) (x1 := x1) (c1 := c1) (c2 := c2) u5 HR5.out.2.mx.mm (fun h0 => absurd h0 (by have := HLE.out; omega)) (fun h0 => (HB2.out.kept (HU.out.1.trans HR5.out.1)) h0) HLE.out.1 HLE.out.2.1 (fun i hi => absurd hi (by have := HLE.out; omega)) (by have := HBN.out; omega) (by have := HBN.out; omega) (by have := HBN.out; omega) (fun i hi => absurd hi (by have := HLE.out; omega))
                      rwa [show ((8 * n0 : Nat) : Int) = 8 * (n0 : Int) by omega] at this
                    go_wp2_with fail
                    refine CRd.out.mono ?_
                    rintro e u6 ⟨rfl, K6⟩
                    have HR6 : Hid (Kept U u6 ∧ Al U.heap.size X u6 len 0 (fun _ => cz) (ShS.new n0 1) ⟨nn, 1, 0, 0, 0⟩ p E ⟨0, nn, true, 0, 0, 0, 0, false, 0, cz, 13, 0, 0, tt + 1⟩) := ⟨HR5.out.1.trans K6, HR5.out.2.mx.kept K6, HR5.out.2.hs.kept K6, HR5.out.2.lt⟩
                    clear K6 CRd HR5
                    go_wp2
                    go_roundg (1 - (tt + 1))
                    case measure => have := HE.out; omega
                    case rel => exact ⟨tt + 1, by go_num, by omega, by omega, HR6.out.1, by rw [if_neg (by omega)]; exact HR6.out.2⟩
                  · have HA : Hid (Al U.heap.size X wr len 0 (fun _ => cz) (ShS.new n0 1) ⟨nn, 1, 0, 0, 0⟩ p E ⟨0, nn, true, 0, 0, 0, 0, false, 0, cz, 13, 0, 0, tt⟩ ∧ Kept U wr) := by
                      have h := HR.out.2
                      rw [if_neg (by omega)] at h
                      exact ⟨h, HR.out.1⟩
                    have CD0 : Hid (Calls Try.prog 18 #[.pointer (some ⟨p, 0, none⟩)] wr fun e w' => e = .returned (.bool true) ∧ w' = wr) := hdone_is true wr HA.out.1.hs rfl
                    have HAw : Hid (∀ u, Kept wr u → Al U.heap.size X u len 0 (fun _ => cz) (ShS.new n0 1) ⟨nn, 1, 0, 0, 0⟩ p E ⟨0, nn, true, 0, 0, 0, 0, false, 0, cz, 13, 0, 0, tt⟩ ∧ Kept U u) := fun u k => ⟨⟨HA.out.1.mx.kept k, HA.out.1.hs.kept k, HA.out.1.lt⟩, HA.out.2.trans k⟩
                    have CD : Hid (∀ u, Kept wr u → Calls Try.prog 18 #[.pointer (some ⟨p, 0, none⟩)] u fun e w' => e = .returned (.bool true) ∧ w' = u) := fun u k => hdone_is true u (HAw.out u k).1.hs rfl
                    have CE : Hid (∀ u, Kept wr u → Calls Try.prog 23 #[.pointer (some ⟨p, 0, none⟩)] u fun e w' => e = .returned (.int .i64 0) ∧ w' = u) := fun u k => herrno_is u (HAw.out u k).1.hs
                    have CM : Hid (∀ u, Kept wr u → Calls Try.prog 24 #[.pointer (some ⟨p, 0, none⟩)] u fun e w' => e = .returned (.int .i64 0) ∧ w' = u) := fun u k => hmoved_is u (HAw.out u k).1.hs
                    have CU : Hid (∀ u, Kept wr u → Calls Try.prog 25 #[.pointer (some ⟨X.kb, 0, none⟩), .int .i64 1] u fun e w' => e = .returned (.int .i64 0) ∧ w' = u) := fun u k => kused_any 1 u (HAw.out u k).1.mx.ck
                    have CL : Hid (∀ u, Kept wr u → Calls Try.prog 26 #[.pointer (some ⟨X.kb, 0, none⟩)] u fun e w' => e = .returned (.int .i64 0) ∧ w' = u) := fun u k => kleft_any u (HAw.out u k).1.mx.ck
                    have CKD : Hid (∀ u, Kept wr u → Calls Try.prog 27 #[.pointer (some ⟨X.kb, 0, none⟩)] u fun e w' => e = .returned (.bool true) ∧ Kept w w') := fun u k => ((⟨(HAw.out u k).2, (HAw.out u k).1.mx⟩ : Mz U u X len 0 (fun _ => cz) (ShS.new n0 1) ⟨nn, 1, 0, 0, 0⟩).kdone).mono fun _ _ ⟨h1, h2, _⟩ => ⟨h1, HU.out.1.trans h2.kept⟩
                    clear HA HAw HR HE hlt
                    obtain ⟨wT, hwT⟩ : ∃ wT, wT = wr := ⟨_, rfl⟩
                    rw [← hwT] at CD CE CM CU CL CKD
                    go_wp2_with fail
                    refine CD0.out.mono ?_
                    rintro e u4 ⟨rfl, rfl⟩
                    clear CD0
                    go_wp2
                    have HWT : Hid (wT = u4) := hwT
                    clear hwT
                    go_loopg [22, 23, 24] 0 (fun _ mo wo i wr => mo = .int .i64 0 ∧ wo = .int .i64 0 ∧ i = .int .i64 0 ∧ Hid (Kept wT wr))
                    case atStart => exact ⟨rfl, rfl, rfl, by rw [HWT.out]; exact Kept.refl _⟩
                    case round =>
                      obtain ⟨rfl, rfl, rfl, HK⟩ := hrel
                      go_wp2_with fail
                      refine (first_any _).mono ?_
                      rintro e u5 ⟨rfl, K5⟩
                      have HK5 : Hid (Kept wT u5) := HK.out.trans K5
                      clear K5
                      go_wp2_with fail
                      refine (CD.out _ HK5.out).mono ?_
                      rintro e u6 ⟨rfl, rfl⟩
                      go_wp2_with fail
                      refine (CE.out _ HK5.out).mono ?_
                      rintro e u6 ⟨rfl, rfl⟩
                      go_wp2_with fail
                      refine (CM.out _ HK5.out).mono ?_
                      rintro e u6 ⟨rfl, rfl⟩
                      go_wp2_with fail
                      refine (CU.out _ HK5.out).mono ?_
                      rintro e u6 ⟨rfl, rfl⟩
                      go_wp2_with fail
                      refine (CL.out _ HK5.out).mono ?_
                      rintro e u6 ⟨rfl, rfl⟩
                      go_wp2_with fail
                      refine (CKD.out _ HK5.out).mono ?_
                      rintro e u6 ⟨rfl, K6⟩
                      have HK6 : Hid (Kept w u6) := K6
                      clear K6
                      go_wp2
                      go_ret
                      exact ⟨rfl, HK6.out⟩
            · have hnq : ((nn : Int) == 0) = false := by simpa using hn0
              have hnq2 : (nn == 0) = false := by simpa using hn0
              have hnp : 0 < nn := by omega
              obtain ⟨n0, hx1, hx2, h4, hln, hn60⟩ : ∃ n0 : Nat, (if (4 : Int) > (l0 : Int) then (4 : Int) else (l0 : Int)) = (n0 : Int) ∧ (if (l0 : Int) < 4 then (4 : Int) else (l0 : Int)) = (n0 : Int) ∧ 4 ≤ n0 ∧ l0 ≤ n0 ∧ n0 ≤ 60 := by
                by_cases h : l0 < 4
                · exact ⟨4, by rw [if_pos (by omega)]; rfl, by rw [if_pos (by omega)]; rfl, by omega, by omega, by omega⟩
                · exact ⟨l0, by rw [if_neg (by omega)], by rw [if_neg (by omega)], by omega, by omega, by omega⟩
              have HG : Hid (Good (n0 : Int) (nn : Int) 0 1 1 0 1 0 1 F0) := good17 n0 nn (by omega) (by omega)
              have HBN : Hid (4 ≤ n0 ∧ l0 ≤ n0 ∧ n0 ≤ 60 ∧ nn ≤ 2000) := ⟨h4, hln, hn60, by omega⟩
              go_wp2_with fail
              clear hx1 hx2
              generalize hW1 : W0.alloc (Obj.cells #[Value.bool false, Value.slice none 0 0] _) = W1
              have S1 : Shps W1 (some ⟨W0.heap.size, 0, none⟩) 1 F0 := by
                rw [← hW1]
                exact shps_one ⟨false, none, 0, 0⟩ (by simp) (by simp) (by simp)
              have k1 : Kept W0 W1 := by rw [← hW1]; exact (Kept.refl W0).alloc _ _
              have z1 : W1.heap.size = W0.heap.size + 1 := by rw [← hW1]; simp
              clear hW1
              generalize hW2 : W1.alloc _ = U
              have k2 : Kept W1 U := by rw [← hW2]; exact (Kept.refl W1).alloc _ _
              have b2 : Blk U (W0.heap.size + 1) (cl n0 nn 0 1 1 0 1 0 (.slice (some ⟨W0.heap.size, 0, none⟩) 1 1)) := by rw [← hW2, ← z1]; exact Blk.new W1 _ _
              clear hW2
              have HU : Hid (Kept w U ∧ Blk U (W0.heap.size + 1) (cl n0 nn 0 1 1 0 1 0 (.slice (some ⟨W0.heap.size, 0, none⟩) 1 1)) ∧ Shps U (some ⟨W0.heap.size, 0, none⟩) 1 F0) := ⟨(HKA.out.trans k1).trans k2, b2, S1.kept k2⟩
              clear S1 k1 z1 k2 b2
              obtain ⟨len, hlen⟩ : ∃ len : Nat, 8 * n0 + 2 * nn = len := ⟨_, rfl⟩
              have CF : Hid (Calls Try.prog 7 #[.agg #[.int .i64 n0, .int .i64 nn, .int .i64 0, .int .i64 1, .int .i64 1, .int .i64 0, .int .i64 1, .int .i64 0, .slice (some ⟨W0.heap.size, 0, none⟩) 1 1], .slice none 0 0] U _) := fill_nil n0 nn 0 1 1 0 1 0 _ 1 1 F0 len U HU.out.2.2 (by
                have e : 8 * (n0 : Int) + 2 * (nn : Int) + 0 = (len : Int) := by omega
                rw [e]
                exact Is.is _ HG.out) (by omega)
              refine CF.out.mono ?_
              rintro e V ⟨b, M, rfl, hM, K4, hb, hMb⟩
              have HV : Hid (Kept U V ∧ Mm V b M len (fun _ => cz) 0 ∧ U.heap.size ≤ M ∧ U.heap.size ≤ b) := ⟨K4, hM, hMb, hb⟩
              clear K4 hM hb hMb CF
              have c0 : V.cell? ⟨W0.heap.size + 1, 0, none⟩ = some (.int .i64 (n0 : Int)) := (HU.out.2.1.kept HV.out.1).at 0 rfl
              have C1 : Hid (Calls Try.prog 8 #[.int .i64 n0, .int .i64 1] V _) := mh_new n0 HV.out.1 HV.out.2.1 HV.out.2.2.1 HV.out.2.2.2 (by omega)
              go_wp2_with fail
              refine C1.out.mono ?_
              rintro e W ⟨sb, tb, g, pb, v, rfl, HMh⟩
              have H2 : Hid (Mh U W b M sb tb g pb v len 0 (fun _ => cz) (ShS.new n0 1)) := HMh
              clear HMh HV C1 c0
              have C2 : Hid (Calls Try.prog 9 #[.int .i64 nn] W fun e w' => ∃ kb, e = .returned (.tuple #[.pointer (some ⟨kb, 0, none⟩), .int .i64 0]) ∧ Mz U w' ⟨b, M, kb, sb, tb, g, pb, v⟩ len 0 (fun _ => cz) (ShS.new n0 1) ⟨nn, 0, 0, 0, 0⟩) := mz_new nn H2.out (by omega)
              go_wp2_with fail
              refine C2.out.mono ?_
              rintro e W3 ⟨kb, rfl, HZ3⟩
              obtain ⟨X, hXM, hXk, hXs, hXt, hX3⟩ : ∃ X : Bl, X.M = M ∧ X.kb = kb ∧ X.sb = sb ∧ X.tb = tb ∧ Mz U W3 X len 0 (fun _ => cz) (ShS.new n0 1) ⟨nn, 0, 0, 0, 0⟩ := ⟨_, rfl, rfl, rfl, rfl, HZ3⟩
              clear HZ3 C2 H2
              subst hXM hXk hXs hXt
              have H3 : Hid (Mz U W3 X len 0 (fun _ => cz) (ShS.new n0 1) ⟨nn, 0, 0, 0, 0⟩) := hX3
              clear hX3
              have CT : Hid (∀ u q F S K, Mz U u X len q F S K → Calls Try.prog 10 #[.pointer (some ⟨X.sb, 0, none⟩)] u fun e w' => e = .returned (.pointer (some ⟨X.tb, 0, none⟩)) ∧ w' = u) := fun u q F S K h => h.table
              go_wp2_with fail
              refine (CT.out _ _ _ _ _ H3.out).mono ?_
              rintro e W4 ⟨rfl, rfl⟩
              have c0 : W4.cell? ⟨W0.heap.size + 1, 0, none⟩ = some (.int .i64 (n0 : Int)) := (HU.out.2.1.kept H3.out.kept).at 0 rfl
              go_wp2
              clear c0
              obtain ⟨L, hL⟩ : ∃ L : Pl, L = (Lp l0 zz L1 (Wt zz L2 (-1) n0) slR n0) := ⟨_, rfl⟩
              have HL : Hid (L = (Lp l0 zz L1 (Wt zz L2 (-1) n0) slR n0)) := hL
              have HWI : Hid (∀ i, L.W i = if L2 i = true then ((8 * n0 + Aof zz i : Nat) : Int) else -1) := fun i => by rw [hL]; rfl
              have HGI : Hid (∀ i c, i < l0 → c < zz i + 2 → L.G (Aof zz i + c) = wordAt zz slR i c) := fun i c hi hc => by rw [hL]; exact Lp_G hi hc
              have HLN : Hid (L.n0 = n0) := by rw [hL]; rfl
              clear hL
              have HA : Hid (∀ i, i < l0 → Aof zz i + (zz i + 2) ≤ nn) := fun i hi => by rw [HNN.out]; exact Aof_step zz hi
              have CW : Hid (∀ (u : World) (q : Nat) (F G : Nat → Cx) (S : ShS) (i : Int) (a : Nat) (z : Cx), Mz U u X len q F S ⟨nn, 0, 0, 0, 0⟩ → i = (a : Int) → a < len → q ≤ 1000000 → (∀ j, (if j = a then z else F j) = G j) → Calls Try.prog 12 #[.pointer (some ⟨X.M, 0, none⟩), .int .i64 i, .complex .f64 z.re z.im] u fun e w' => e = .returned (.int .i64 0) ∧ Mz U w' X len (q + 1) G S ⟨nn, 0, 0, 0, 0⟩) := fun u q F G S i a z h h1 h2 h3 h4 => Mz.wr i a z h h1 h2 h3 h4
              have HKW : Hid (∀ u q F S, Mz U u X len q F S ⟨nn, 0, 0, 0, 0⟩ → Kept w u) := fun u q F S h => HU.out.1.trans h.kept
              obtain ⟨zm, hzm⟩ : ∃ z, z = cw (-1) := ⟨_, rfl⟩
              have CWm : Hid (∀ u, Calls Try.prog 14 #[.int .i64 (-1)] u fun e w' => e = .returned (.complex .f64 zm.re zm.im) ∧ w' = u) := fun u => by rw [hzm]; exact rwhole_in (-1) u (by omega) (by omega)
              have HZM : Hid (zm = cw (-1)) := hzm
              clear hzm
              go_loopg [16, 18] l0 (fun m at' i wr => ∃ k : Nat, at' = .int .i64 (Aof zz k : Int) ∧ i = .int .i64 k ∧ k ≤ l0 ∧ m = l0 - k ∧ Hid (∃ q S, Mz U wr X len q (su L k (Aof zz k)) S ⟨nn, 0, 0, 0, 0⟩ ∧ q ≤ 70 * k ∧ Bk S n0 k L1))
              case atStart => exact ⟨0, rfl, rfl, by omega, by omega, 0, _, by rw [show su L 0 (Aof zz 0) = fun _ => cz from su_zero.symm]; exact H3.out, by omega, Bk.new n0 L1⟩
              case round =>
                obtain ⟨k, rfl, rfl, hk, hm, HH⟩ := hrel
                have HE : Hid _ := hm
                clear hm
                by_cases hlt : k < l0
                · obtain ⟨q, S, hMz, hq, hBk⟩ := HH.out
                  clear HH
                  have HBK : Hid (Bk S n0 k L1) := hBk
                  have hak := HA.out k hlt
                  have hz0 := HZ.out k hlt
                  obtain ⟨sb1, sx1, hx1, hsb1, hsc1⟩ := HS0.out (by omega)
                  have HC0 : Hid (∀ u, Kept w u → u.cell? ⟨sb1, sx1 + k, none⟩ = some (.int .i64 (zz k : Int))) := fun u h => by rw [← hz0.1]; exact (h.cell hsb1).trans (hsc1 k hlt)
                  obtain ⟨sb2, sx2, hx2, hsb2, hsc2⟩ := HB1.out (by omega)
                  have HC1 : Hid (∀ u, Kept w u → u.cell? ⟨sb2, sx2 + k, none⟩ = some (.bool (L1 k))) := fun u h => (h.cell hsb2).trans (hsc2 k (by omega))
                  obtain ⟨sb3, sx3, hx3, hsb3, hsc3⟩ := HB2.out (by omega)
                  have HC2 : Hid (∀ u, Kept w u → u.cell? ⟨sb3, sx3 + k, none⟩ = some (.bool (L2 k))) := fun u h => (h.cell hsb3).trans (hsc3 k (by omega))
                  subst hx1 hx2 hx3
                  clear hsb1 hsc1 hsb2 hsc2 hsb3 hsc3 hBk
                  have hzk := hz0.2
                  clear hz0
                  obtain ⟨bk, hbk⟩ : ∃ bk, bk = L1 k := ⟨_, rfl⟩
                  rw [← hbk] at HC1
                  have HB : Hid (Bk (S.set (k : Int) 2 true bk) n0 (k + 1) L1) := by
                    have h := HBK.out.set (by have := HBN.out; omega)
                    rw [← hbk] at h
                    exact h
                  clear hbk
                  obtain ⟨ak, hake⟩ : ∃ ak, ak = Aof zz k := ⟨_, rfl⟩
                  obtain ⟨zk, hzke⟩ : ∃ zk, zk = zz k := ⟨_, rfl⟩
                  have HGk : Hid (∀ c, c < zk + 2 → L.G (ak + c) = wordAt zz slR k c) := fun c hc => by rw [hake]; exact HGI.out k c hlt (by rw [← hzke]; exact hc)
                  have E1 : Hid (((Aof zz (k + 1) : Nat) : Int) = (ak : Int) + (2 + (zk : Int))) := by
                    show _ = (_ : Int)
                    simp only [Aof]
                    rw [← hake, ← hzke]
                    omega
                  have HBL : Hid (Aof zz (k + 1) = ak + 1 + 1 + zk) := by have := E1.out; exact (by omega : Aof zz (k + 1) = ak + 1 + 1 + zk)
                  rw [← hake] at hMz hak
                  rw [← hzke] at hzk hak HC0
                  rw [← hake]
                  have HAK : Hid (ak = Aof zz k) := hake
                  have HZK : Hid (zk = zz k) := hzke
                  have HQK : Hid (q ≤ 70 * k ∧ zk ≤ 64) := ⟨hq, hzk⟩
                  have HM : Hid (Mz U wr X len q (su L k ak) S ⟨nn, 0, 0, 0, 0⟩) := hMz
                  clear hake hzke hMz hq
                  obtain ⟨zr, hzr⟩ : ∃ z, z = cr (k : Int) := ⟨_, rfl⟩
                  obtain ⟨zw, hzw⟩ : ∃ z, z = cw (zk : Int) := ⟨_, rfl⟩
                  obtain ⟨zt, hzt⟩ : ∃ z, z = cw (8 * (n0 : Int) + (ak : Int)) := ⟨_, rfl⟩
                  have CRf : Hid (∀ u, Calls Try.prog 13 #[.int .i64 k] u fun e w' => e = .returned (.complex .f64 zr.re zr.im) ∧ w' = u) := fun u => by rw [hzr]; exact rref_in k u (by omega) (by omega)
                  have CWh : Hid (∀ u, Calls Try.prog 14 #[.int .i64 zk] u fun e w' => e = .returned (.complex .f64 zw.re zw.im) ∧ w' = u) := fun u => by rw [hzw]; exact rwhole_in zk u (by omega) (by omega)
                  have CWt : Hid (∀ u, Calls Try.prog 14 #[.int .i64 (8 * (n0 : Int) + (ak : Int))] u fun e w' => e = .returned (.complex .f64 zt.re zt.im) ∧ w' = u) := fun u => by rw [hzt]; exact rwhole_in (8 * (n0 : Int) + (ak : Int)) u (by omega) (by omega)
                  have HG0 : Hid (L.G ak = zr) := by rw [hzr]; exact (HGk.out 0 (by omega)).trans rfl
                  have HG1 : Hid (L.G (ak + 1) = zw) := by
                    rw [hzw]
                    refine (HGk.out 1 (by omega)).trans ?_
                    unfold wordAt
                    rw [if_neg (by omega), if_pos rfl, HZK.out]
                  have HZT : Hid (zt = cw ((8 * n0 + Aof zz k : Nat) : Int)) := by rw [hzt, ← HAK.out, Int.natCast_add, Int.natCast_mul]; rfl
                  clear hzr hzw hzt
                  have hk1 : k < l1 := by omega
                  have hk2 : k < l2 := by omega
                  obtain ⟨rb, hrb⟩ : ∃ rb, rb = (inn S.n (k : Int) && isSt 2) := ⟨_, rfl⟩
                  have HSet : Hid (∀ u, Mz U u X len q (su L k ak) S ⟨nn, 0, 0, 0, 0⟩ → Calls Try.prog 11 #[.pointer (some ⟨X.tb, 0, none⟩), .int .i64 k, .int .i64 2, .bool true, .bool bk] u fun e w' => e = .returned (.bool rb) ∧ Mz U w' X len q (su L k ak) (S.set (k : Int) 2 true bk) ⟨nn, 0, 0, 0, 0⟩) := fun u h => (Mz.set (k : Int) 2 true bk h).mono fun _ _ ⟨h1, h2, _⟩ => ⟨by rw [h1, hrb], h2⟩
                  clear hrb
                  go_wp2_with fail
                  refine wp_region_phase [(.pointer (some ⟨X.sb, 0, none⟩)), (.pointer (some ⟨X.tb, 0, none⟩)), (.int .i64 (k : Int)), (.slice (some ⟨sb2, sx2, none⟩) l1 c1), (.int .i64 (k : Int)), (.pointer (some ⟨sb2, sx2 + k, none⟩)), (.bool bk), (.bool rb)] [(131, 0), (132, 1), (133, 2), (134, 3), (135, 4), (136, 5), (137, 6), (138, 7)] [_, _, _, _, _, _, _, _, _, _, _, _, _, _, _, _, _, _, _, _, _, _, _, _, _, _, _, _, _, _, _, _, _, _, _, _, _, _, _, _, _, _, _, _, _, _, _, _, _, _, _, _, _, _, _, _, _, _, _, _, _, _, _, _, _, _, _, _, _, _, _, _, _, _, _, _, _, _, _, _, _, _, _, _, _, _, _, _, _, _, _, _, _, _, _, _, _, _, _, _, _, _, _, _, _, _, _, _, _, _, _, _, _, _, _, _, _, _, _, _, _, _, _, _, _, _, _, _, _, _, _, _, _, _, _, _, _, _, _, _, _, _, _, _, _, _, _, _, _, _, _, _, _, _, _, _, _, _, _, _, _, _, _, _, _, _, _, _, _, _, _, _, _, _, _, _, _, _, _, _, _, _, _, _, _, _, _, _, _, _, _, _, _, _, _, _, _, _, _, _, _, _, _, _, _, _, _, _, _, _, _, _, _, _, _, _, _, _, _, _, _, _, _, _, _, _, _, _, _, _, _, _, _, _, _, _, _, _, _, _, _, _, _, _, _, _, _, _, _, _, _, _, _, _, _, _, _, _, _, _, _, _, _, _, _, _, _, _, _, _, _, _, _, _, _, _, _, _, _, _, _, _, _, _, _, _, _, _, _, _, _, _, _, _, _, _, _, _, _, _, _, _, _, _, _, _, _, _, _, _, _, _, _, _, _, _, _, _, _, _, _, _, _, _] (fun d u => Mz U u X len q (su L k ak) (if d 7 then S.set (k : Int) 2 true bk else S) ⟨nn, 0, 0, 0, 0⟩) (by kernel_rfl) (by kernel_rfl) (by kernel_rfl) (by kernel_rfl) rfl ?_ ?_ ?_
                  · exact (by simpa using HM.out.still (Kept.refl _).drew)
                  · intro i1 o ho a1 d u hh hj hi hd
                    match i1, ho, hi, hd with
                    | 0, ho, hi, hd =>
                      simp only [List.getElem?_cons_zero, Option.some.injEq] at ho
                      subst ho
                      have g12 : a1.tmps[12]? = some (.pointer (some ⟨X.sb, 0, none⟩)) := hh.old 12 (by kernel_rfl) rfl
                      clear hh hd
                      have HN : Hid (Mz U u X len q (su L k ak) (if done d 0 7 then S.set (k : Int) 2 true bk else S) ⟨nn, 0, 0, 0, 0⟩) := (by simpa [done] using hj : Mz U u X len q (su L k ak) (if done d 0 7 then S.set (k : Int) 2 true bk else S) ⟨nn, 0, 0, 0, 0⟩)
                      clear hj hi
                      refine wpOp_step rfl (fun K hK => ?_)
                      go_simp
                      exact hK _ _ ⟨by simp [Act.put], HN.out⟩
                    | 1, ho, hi, hd =>
                      simp only [List.getElem?_cons_succ, List.getElem?_cons_zero, Option.some.injEq] at ho
                      subst ho
                      have g131 : a1.tmps[131]? = some (.pointer (some ⟨X.sb, 0, none⟩)) := hh.did 0 _ 131 rfl rfl (hd { on := 0, ground := .data } (by simp) rfl)
                      have CA := CT.out u _ _ _ _ hj
                      clear hh hd
                      have HN : Hid (Mz U u X len q (su L k ak) (if done d 1 7 then S.set (k : Int) 2 true bk else S) ⟨nn, 0, 0, 0, 0⟩) := (by simpa [done] using hj : Mz U u X len q (su L k ak) (if done d 1 7 then S.set (k : Int) 2 true bk else S) ⟨nn, 0, 0, 0, 0⟩)
                      clear hj hi
                      refine wpOp_step rfl (fun K hK => ?_)
                      go_simp
                      refine CA.mono ?_
                      rintro e u' ⟨rfl, rfl⟩
                      exact hK _ _ ⟨by simp [Act.put], HN.out⟩
                    | 2, ho, hi, hd =>
                      simp only [List.getElem?_cons_succ, List.getElem?_cons_zero, Option.some.injEq] at ho
                      subst ho
                      have g18 : a1.tmps[18]? = some (.int .i64 (k : Int)) := hh.old 18 (by kernel_rfl) rfl
                      clear hh hd
                      have HN : Hid (Mz U u X len q (su L k ak) (if done d 2 7 then S.set (k : Int) 2 true bk else S) ⟨nn, 0, 0, 0, 0⟩) := (by simpa [done] using hj : Mz U u X len q (su L k ak) (if done d 2 7 then S.set (k : Int) 2 true bk else S) ⟨nn, 0, 0, 0, 0⟩)
                      clear hj hi
                      refine wpOp_step rfl (fun K hK => ?_)
                      go_simp
                      exact hK _ _ ⟨by simp [Act.put], HN.out⟩
                    | 3, ho, hi, hd =>
                      simp only [List.getElem?_cons_succ, List.getElem?_cons_zero, Option.some.injEq] at ho
                      subst ho
                      have g1 : a1.tmps[1]? = some (.slice (some ⟨sb2, sx2, none⟩) l1 c1) := hh.old 1 (by kernel_rfl) rfl
                      clear hh hd
                      have HN : Hid (Mz U u X len q (su L k ak) (if done d 3 7 then S.set (k : Int) 2 true bk else S) ⟨nn, 0, 0, 0, 0⟩) := (by simpa [done] using hj : Mz U u X len q (su L k ak) (if done d 3 7 then S.set (k : Int) 2 true bk else S) ⟨nn, 0, 0, 0, 0⟩)
                      clear hj hi
                      refine wpOp_step rfl (fun K hK => ?_)
                      go_simp
                      exact hK _ _ ⟨by simp [Act.put], HN.out⟩
                    | 4, ho, hi, hd =>
                      simp only [List.getElem?_cons_succ, List.getElem?_cons_zero, Option.some.injEq] at ho
                      subst ho
                      have g18 : a1.tmps[18]? = some (.int .i64 (k : Int)) := hh.old 18 (by kernel_rfl) rfl
                      clear hh hd
                      have HN : Hid (Mz U u X len q (su L k ak) (if done d 4 7 then S.set (k : Int) 2 true bk else S) ⟨nn, 0, 0, 0, 0⟩) := (by simpa [done] using hj : Mz U u X len q (su L k ak) (if done d 4 7 then S.set (k : Int) 2 true bk else S) ⟨nn, 0, 0, 0, 0⟩)
                      clear hj hi
                      refine wpOp_step rfl (fun K hK => ?_)
                      go_simp
                      exact hK _ _ ⟨by simp [Act.put], HN.out⟩
                    | 5, ho, hi, hd =>
                      simp only [List.getElem?_cons_succ, List.getElem?_cons_zero, Option.some.injEq] at ho
                      subst ho
                      have g134 : a1.tmps[134]? = some (.slice (some ⟨sb2, sx2, none⟩) l1 c1) := hh.did 3 _ 134 rfl rfl (hd { on := 3, ground := .data } (by simp) rfl)
                      have g135 : a1.tmps[135]? = some (.int .i64 (k : Int)) := hh.did 4 _ 135 rfl rfl (hd { on := 4, ground := .data } (by simp) rfl)
                      clear hh hd
                      have HN : Hid (Mz U u X len q (su L k ak) (if done d 5 7 then S.set (k : Int) 2 true bk else S) ⟨nn, 0, 0, 0, 0⟩) := (by simpa [done] using hj : Mz U u X len q (su L k ak) (if done d 5 7 then S.set (k : Int) 2 true bk else S) ⟨nn, 0, 0, 0, 0⟩)
                      clear hj hi
                      refine wpOp_step rfl (fun K hK => ?_)
                      go_simp
                      exact hK _ _ ⟨by simp [Act.put], HN.out⟩
                    | 6, ho, hi, hd =>
                      simp only [List.getElem?_cons_succ, List.getElem?_cons_zero, Option.some.injEq] at ho
                      subst ho
                      have g136 : a1.tmps[136]? = some (.pointer (some ⟨sb2, sx2 + k, none⟩)) := hh.did 5 _ 136 rfl rfl (hd { on := 5, ground := .data } (by simp) rfl)
                      have cb := HC1.out u (HKW.out _ _ _ _ hj)
                      clear hh hd
                      have HN : Hid (Mz U u X len q (su L k ak) (if done d 6 7 then S.set (k : Int) 2 true bk else S) ⟨nn, 0, 0, 0, 0⟩) := (by simpa [done] using hj : Mz U u X len q (su L k ak) (if done d 6 7 then S.set (k : Int) 2 true bk else S) ⟨nn, 0, 0, 0, 0⟩)
                      clear hj hi
                      refine wpOp_step rfl (fun K hK => ?_)
                      go_simp
                      exact hK _ _ ⟨by simp [Act.put], HN.out⟩
                    | 7, ho, hi, hd =>
                      simp only [List.getElem?_cons_succ, List.getElem?_cons_zero, Option.some.injEq] at ho
                      subst ho
                      have g132 : a1.tmps[132]? = some (.pointer (some ⟨X.tb, 0, none⟩)) := hh.did 1 _ 132 rfl rfl (hd { on := 1, ground := .data } (by simp) rfl)
                      have g133 : a1.tmps[133]? = some (.int .i64 (k : Int)) := hh.did 2 _ 133 rfl rfl (hd { on := 2, ground := .data } (by simp) rfl)
                      have g137 : a1.tmps[137]? = some (.bool bk) := hh.did 6 _ 137 rfl rfl (hd { on := 6, ground := .data } (by simp) rfl)
                      have CA := HSet.out u (by have B := hj; simp only [hi, Bool.false_eq_true, if_false] at B; exact B)
                      clear hh hd
                      have HN : Hid (∀ u', Mz U u' X len q (su L k ak) (S.set (k : Int) 2 true bk) ⟨nn, 0, 0, 0, 0⟩ → Mz U u' X len q (su L k ak) (if done d 7 7 then S.set (k : Int) 2 true bk else S) ⟨nn, 0, 0, 0, 0⟩) := fun u' x => by simpa [done] using x
                      clear hj hi
                      refine wpOp_step rfl (fun K hK => ?_)
                      go_simp
                      refine CA.mono ?_
                      rintro e u' ⟨rfl, x⟩
                      exact hK _ _ ⟨by simp [Act.put], HN.out u' x⟩
                    | n + 8, ho, hi, hd => simp at ho
                  · intro u d hall hj
                    have HN2 : Hid (Mz U u X len q (su L k ak) (S.set (k : Int) 2 true bk) ⟨nn, 0, 0, 0, 0⟩) := by
                      have B := hj
                      rw [hall 7 (by decide)] at B
                      exact B
                    clear hj hall HM HSet
                    go_wp2_with fail
                    refine (CRf.out _).mono ?_
                    rintro e u ⟨rfl, rfl⟩
                    go_wp2_with fail
                    refine (CW.out _ _ _ (su L k (ak + 1)) _ _ (8 * n0 + ak) zr HN2.out (by omega) (by have := HBN.out; omega) (by have := HQK.out; omega) (fun j => by rw [← HG0.out]; exact su_word k ak (by rw [HLN.out]) j)).mono ?_
                    rintro e u ⟨rfl, hnew⟩
                    have HN3 : Hid (Mz U u X len _ (su L k (ak + 1)) _ ⟨nn, 0, 0, 0, 0⟩) := hnew
                    clear hnew HN2
                    have cs := HC0.out _ (HKW.out _ _ _ _ HN3.out)
                    go_wp2_with fail
                    refine (CWh.out _).mono ?_
                    rintro e u ⟨rfl, rfl⟩
                    clear cs
                    go_wp2_with fail
                    refine (CW.out _ _ _ (su L k (ak + 1 + 1)) _ _ (8 * n0 + ak + 1) zw HN3.out (by omega) (by have := HBN.out; omega) (by have := HQK.out; omega) (fun j => by rw [← HG1.out]; exact su_word k (ak + 1) (by rw [HLN.out]; omega) j)).mono ?_
                    rintro e u ⟨rfl, hnew⟩
                    have HN4 : Hid (Mz U u X len _ (su L k (ak + 1 + 1)) _ ⟨nn, 0, 0, 0, 0⟩) := hnew
                    clear hnew HN3
                    go_wp2
                    go_loopg [19] zk (fun m i wj => ∃ j : Nat, i = .int .i64 j ∧ j ≤ zk ∧ m = zk - j ∧ Hid (∃ q2, q2 ≤ q + 2 + j ∧ Mz U wj X len q2 (su L k (ak + 1 + 1 + j)) (S.set (k : Int) 2 true bk) ⟨nn, 0, 0, 0, 0⟩))
                    case atStart => exact ⟨0, rfl, by omega, by omega, _, by omega, HN4.out⟩
                    case round =>
                      obtain ⟨j, rfl, hj, hm, HJ2⟩ := hrel
                      have HEj : Hid _ := hm
                      clear hm
                      obtain ⟨q2, hq2, hJ⟩ := HJ2.out
                      clear HJ2
                      have HJ : Hid (Mz U wr X len q2 (su L k (ak + 1 + 1 + j)) (S.set (k : Int) 2 true bk) ⟨nn, 0, 0, 0, 0⟩) := hJ
                      have HQ2 : Hid (q2 ≤ q + 2 + j) := hq2
                      clear hJ hq2
                      have cs := HC0.out _ (HKW.out _ _ _ _ HJ.out)
                      by_cases hjl : j < zk
                      · obtain ⟨zj, hzj⟩ : ∃ z, z = cr (100 * (k : Int) + (j : Int)) := ⟨_, rfl⟩
                        have CRj : Hid (∀ u, Calls Try.prog 13 #[.int .i64 (100 * (k : Int) + (j : Int))] u fun e w' => e = .returned (.complex .f64 zj.re zj.im) ∧ w' = u) := fun u => by rw [hzj]; exact rref_in (100 * (k : Int) + (j : Int)) u (by omega) (by omega)
                        have HGj : Hid (L.G (ak + 1 + 1 + j) = zj) := by
                          show _ = _
                          have h := HGk.out (2 + j) (by omega)
                          rw [show ak + (2 + j) = ak + 1 + 1 + j by omega] at h
                          rw [h, hzj]
                          unfold wordAt slR
                          rw [if_neg (by omega), if_neg (by omega), show 2 + j - 2 = j by omega]
                        clear hzj
                        go_wp2_with fail
                        refine (CRj.out _).mono ?_
                        rintro e u ⟨rfl, rfl⟩
                        clear cs
                        go_wp2_with fail
                        refine (CW.out _ _ _ (su L k (ak + 1 + 1 + j + 1)) _ _ (8 * n0 + ak + 2 + j) zj HJ.out (by omega) (by have := HBN.out; omega) (by have := HQK.out; have := HQ2.out; omega) (fun i => by rw [← HGj.out]; exact su_word k (ak + 1 + 1 + j) (by rw [HLN.out]; omega) i)).mono ?_
                        rintro e u ⟨rfl, hnew⟩
                        have HJn : Hid (Mz U u X len (q2 + 1) (su L k (ak + 1 + 1 + j + 1)) (S.set (k : Int) 2 true bk) ⟨nn, 0, 0, 0, 0⟩) := hnew
                        clear hnew HJ HGj CRj
                        go_wp2
                        go_roundg (zk - (j + 1))
                        case measure => have := HEj.out; omega
                        case rel => exact ⟨j + 1, by go_num, by omega, by omega, q2 + 1, by have := HQ2.out; omega, HJn.out⟩
                      · obtain rfl : zk = j := by omega
                        clear HN4 cs
                        cases ht : L2 k
                        · rw [ht] at HC2
                          have HWK : Hid (cw (L.W k) = zm) := by
                            have := HWI.out k
                            rw [ht] at this
                            rw [this]
                            exact HZM.out.symm
                          clear ht
                          have cs := HC0.out _ (HKW.out _ _ _ _ HJ.out)
                          go_wp2_with fail
                          refine (CWm.out _).mono ?_
                          rintro e u ⟨rfl, rfl⟩
                          clear cs
                          go_wp2_with fail
                          refine (CW.out _ _ _ (su L (k + 1) (ak + 1 + 1 + zk)) _ _ (8 * k + 4) zm HJ.out (by omega) (by have := HBN.out; omega) (by have := HQK.out; have := HQ2.out; omega) (fun j => by rw [← HWK.out]; exact su_sent k _ (by rw [HLN.out]; have := HBN.out; omega) rfl j)).mono ?_
                          rintro e u ⟨rfl, hnew⟩
                          have HN5 : Hid (Mz U u X len _ (su L (k + 1) (ak + 1 + 1 + zk)) _ ⟨nn, 0, 0, 0, 0⟩) := hnew
                          clear hnew HJ
                          have cs := HC0.out _ (HKW.out _ _ _ _ HN5.out)
                          have ct := HC2.out _ (HKW.out _ _ _ _ HN5.out)
                          go_wp2
                          go_roundg (l0 - (k + 1))
                          all_goals (first | (have := HE.out; omega) | exact ⟨k + 1, by rw [E1.out], by go_num, by omega, by omega, q2 + 1, _, by rw [HBL.out]; exact HN5.out, by (have := HQK.out; have := HQ2.out; omega), HB.out⟩)
                        · rw [ht] at HC2
                          have HWK : Hid (cw (L.W k) = zt) := by
                            have := HWI.out k
                            rw [ht] at this
                            rw [this]
                            exact HZT.out.symm
                          clear ht
                          have cs := HC0.out _ (HKW.out _ _ _ _ HJ.out)
                          go_wp2_with fail
                          refine (CWm.out _).mono ?_
                          rintro e u ⟨rfl, rfl⟩
                          clear cs
                          go_wp2_with fail
                          refine (CW.out _ _ _ (fun j => if j = 8 * k + 4 then zm else su L k (ak + 1 + 1 + zk) j) _ _ (8 * k + 4) zm HJ.out (by omega) (by have := HBN.out; omega) (by have := HQK.out; have := HQ2.out; omega) (fun _ => rfl)).mono ?_
                          rintro e u ⟨rfl, hnew⟩
                          have HN5 : Hid (Mz U u X len _ (fun j => if j = 8 * k + 4 then zm else su L k (ak + 1 + 1 + zk) j) _ ⟨nn, 0, 0, 0, 0⟩) := hnew
                          clear hnew HJ
                          have ct := HC2.out _ (HKW.out _ _ _ _ HN5.out)
                          go_wp2_with fail
                          refine (CWt.out _).mono ?_
                          rintro e u ⟨rfl, rfl⟩
                          clear ct
                          go_wp2_with fail
                          refine (CW.out _ _ _ (su L (k + 1) (ak + 1 + 1 + zk)) _ _ (8 * k + 4) zt HN5.out (by omega) (by have := HBN.out; omega) (by have := HQK.out; have := HQ2.out; omega) (fun j => by rw [← HWK.out]; exact su_twice k _ zm (by rw [HLN.out]; have := HBN.out; omega) rfl j)).mono ?_
                          rintro e u ⟨rfl, hnew⟩
                          have HN6 : Hid (Mz U u X len _ (su L (k + 1) (ak + 1 + 1 + zk)) _ ⟨nn, 0, 0, 0, 0⟩) := hnew
                          clear hnew HN5
                          have cs := HC0.out _ (HKW.out _ _ _ _ HN6.out)
                          go_wp2
                          go_roundg (l0 - (k + 1))
                          all_goals (first | (have := HE.out; omega) | exact ⟨k + 1, by rw [E1.out], by go_num, by omega, by omega, q2 + 1 + 1, _, by rw [HBL.out]; exact HN6.out, by (have := HQK.out; have := HQ2.out; omega), HB.out⟩)
                · obtain rfl : l0 = k := by omega
                  obtain ⟨q, S, hMz, hq, hBk⟩ := HH.out
                  clear HH HE hk hlt
                  have hlpos : 0 < l0 := by
                    have h := HNN.out
                    rcases Nat.eq_zero_or_pos l0 with e | e
                    · rw [e] at h
                      exact absurd h hn0
                    · exact e
                  have hN0 : L.N = l0 := by rw [HL.out]; rfl
                  have hT4 : 4 ≤ L.tm l0 := by
                    have h := tm_pos (L := L) (by rw [hN0]; exact hlpos)
                    rwa [hN0] at h
                  have hTh : L.tm l0 ≤ 4 * l0 + 2 * nn := by
                    have h := L.tm_hi l0
                    rw [A_of L l0, show L.z = zz by rw [HL.out]; rfl, ← HNN.out] at h
                    exact h
                  obtain ⟨T, hT⟩ : ∃ T, T = L.tm l0 := ⟨_, rfl⟩
                  rw [← hT] at hT4 hTh
                  have HTT : Hid (T = L.tm L.N) := by rw [hN0]; exact hT
                  have HMz : Hid (Mz U wr X len q (L.mem 0 0) S ⟨nn, 0, 0, 0, 0⟩) := by
                    have e : su L l0 (Aof zz l0) = L.mem 0 0 := by
                      rw [HL.out]
                      exact su_end rfl fun _ => rfl
                    rw [← e]
                    exact hMz
                  have HBk : Hid (Bk S n0 l0 L1 ∧ q ≤ 70 * l0) := ⟨hBk, hq⟩
                  have HSz : Hid (Rdv w x0 l0 (fun i => .int .i64 (zz i : Int))) := fun h0 => by
                    obtain ⟨b, o, e, hb, hc⟩ := HS0.out h0
                    exact ⟨b, o, e, hb, fun i hi => by show _ = some (Value.int .i64 (zz i : Int)); rw [← (HZ.out i hi).1]; exact hc i hi⟩
                  have HLE : Hid (l0 ≤ l1 ∧ l0 ≤ l2) := ⟨by omega, by omega⟩
                  have HN0 : Hid (L.N = l0) := hN0
                  clear hT hMz hBk hq hN0
                  obtain ⟨tA, htA⟩ : ∃ tA, tA = takeA ⟨nn, 0, 0, 0, 0⟩ (nn : Int) := ⟨_, rfl⟩
                  have hks := ks_turn nn (by omega)
                  have CTk : Hid (Calls Try.prog 15 #[.pointer (some ⟨X.kb, 0, none⟩), .int .i64 nn] wr fun e w' => e = .returned (.tuple #[.int .i64 tA, .bool true]) ∧ Mz U w' X len q (L.mem 0 0) S (takeS ⟨nn, 0, 0, 0, 0⟩ (nn : Int))) := by
                    refine (HMz.out.take (nn : Int)).mono fun _ _ ⟨h1, h2, _⟩ => ⟨?_, h2⟩
                    rw [h1, hks.1, htA]
                  clear htA
                  go_wp2_with fail
                  refine CTk.out.mono ?_
                  rintro e u1 ⟨rfl, h1⟩
                  have H1 : Hid (Mz U u1 X len q (L.mem 0 0) S (takeS ⟨nn, 0, 0, 0, 0⟩ (nn : Int))) := h1
                  clear h1 CTk HMz
                  have CTn : Hid (Calls Try.prog 16 #[.pointer (some ⟨X.kb, 0, none⟩)] u1 fun e w' => e = .returned (.bool true) ∧ Mz U w' X len q (L.mem 0 0) S ⟨nn, 1, nn, nn, 0⟩) := by
                    refine H1.out.turn.mono fun _ _ ⟨h1, h2, _⟩ => ⟨?_, ?_⟩
                    · rw [h1, hks.2.1]
                    · rw [hks.2.2] at h2
                      exact h2
                  clear hks
                  go_wp2_with fail
                  refine CTn.out.mono ?_
                  rintro e u2 ⟨rfl, h2⟩
                  have H2 : Hid (Mz U u2 X len q (L.mem 0 0) S ⟨nn, 1, nn, nn, 0⟩) := h2
                  clear h2 CTn H1
                  have hcb := HU.out.2.1.kept H2.out.kept
                  have c0 := hcb.at 0 rfl
                  have c1 := hcb.at 1 rfl
                  have c2 := hcb.at 2 rfl
                  have c3 := hcb.at 3 rfl
                  have c4 := hcb.at 4 rfl
                  have c5 := hcb.at 5 rfl
                  have c6 := hcb.at 6 rfl
                  have c7 := hcb.at 7 rfl
                  have c8 := hcb.at 8 rfl
                  clear hcb
                  have CN : Hid (Calls Try.prog 17 #[.agg #[.int .i64 n0, .int .i64 nn, .int .i64 0, .int .i64 1, .int .i64 1, .int .i64 0, .int .i64 1, .int .i64 0, .slice (some ⟨W0.heap.size, 0, none⟩) 1 1], .int .i64 0, .int .i64 nn, .bool true] u2 _) := hnew_some n0 nn 0 1 1 0 1 0 _ 1 1 F0 (fun _ _ => false) 0 nn true u2 (HU.out.2.2.kept H2.out.kept) (fun i hi h => absurd h (by simp [F0])) HG.out (.inl rfl) (by omega) hnq
                  go_wp2_with fail
                  refine CN.out.mono ?_
                  rintro e u3 ⟨p, E, rfl, hs, hp, hk, hE⟩
                  have HR0 : Hid (Rz L U X len p E q 0 0 u3 ∧ Env L E len) := by
                    have e1 : L.n = nn := by rw [HL.out, HNN.out]; rfl
                    have e2 : L.fr = 0 := by rw [HL.out]; rfl
                    refine ⟨Rz.begin H2.out (by rw [e1, e2]; exact hs) hp hk rfl ?_ ?_ (Nat.le_refl _) (by rw [HBk.out.1.c]; exact Nat.le_refl _) ?_, ?_⟩
                    · rw [HL.out, Lp_k0, ← HNN.out]
                    · rw [HL.out]
                      exact hlpos
                    · intro i hi
                      have hi2 : i < l0 := by rw [HL.out] at hi; exact hi
                      rw [HBk.out.1.bk i hi2, HL.out]
                      rfl
                    · rw [HL.out]
                      exact Lt_env (.inr rfl) (by have := HBN.out; omega) (by have := HBN.out; omega) (by rw [← HNN.out]; have := HBN.out; omega) (by rw [← HNN.out]; exact hE) (by rw [← HNN.out]; exact hlen)
                  have HRD : Hid (∀ i Y, i ≤ L.N → L.P i ≤ Y → Reads (L.mem i Y) len (8 * n0) l0 zz L2) := fun i Y hi hY => by
                    rw [HL.out] at hi hY ⊢
                    exact Ls_reads (by have := HBN.out; omega) (by have := HBN.out; omega) (by rw [← HNN.out]; have := HBN.out; omega) hi hY (by rw [← HNN.out]; exact hlen)
                  clear hs hp hk hE CN c0 c1 c2 c3 c4 c5 c6 c7 c8 H2
                  go_wp2
                  go_loopg [21] T (fun m t wr => ∃ tt : Nat, t = .int .i64 tt ∧ tt ≤ T ∧ m = T - tt ∧ Hid (Rz L U X len p E q 0 tt wr))
                  case atStart => exact ⟨0, rfl, by omega, by omega, HR0.out.1⟩
                  case round =>
                    obtain ⟨tt, rfl, htt, hm, HR⟩ := hrel
                    have HE : Hid _ := hm
                    clear hm
                    by_cases hlt : tt < T
                    · have CD : Hid (Calls Try.prog 18 #[.pointer (some ⟨p, 0, none⟩)] wr fun e w' => e = .returned (.bool false) ∧ w' = wr) := by
                        have := HR.out.done
                        rwa [← HTT.out, decide_eq_false (by omega)] at this
                      obtain ⟨an, han⟩ : ∃ an, an = decide (tt + 1 = T) := ⟨_, rfl⟩
                      have CS : Hid (Calls Try.prog 19 #[.pointer (some ⟨p, 0, none⟩), .pointer (some ⟨X.M, 0, none⟩), .pointer (some ⟨X.sb, 0, none⟩), .pointer (some ⟨X.kb, 0, none⟩)] wr fun e w' => e = .returned (.bool an) ∧ Rz L U X len p E q 0 (tt + 1) w') := by
                        refine (HR.out.step HR0.out.2 (by rw [← HTT.out]; exact hlt) (by have := HBk.out.2; omega) (by omega)).mono fun _ _ ⟨h1, h2, _⟩ => ⟨?_, h2⟩
                        rw [h1, ← HTT.out, han]
                      clear han
                      go_wp2_with fail
                      refine CD.out.mono ?_
                      rintro e u4 ⟨rfl, rfl⟩
                      go_wp2_with fail
                      refine CS.out.mono ?_
                      rintro e u5 ⟨rfl, hR5⟩
                      have HR5 : Hid (Rz L U X len p E q 0 (tt + 1) u5) := hR5
                      clear hR5 CS CD HR
                      have CRd : Hid (Calls Try.prog 20 #[.pointer (some ⟨X.M, 0, none⟩), .slice x0 l0 c0, .slice x1 l1 c1, .slice x2 l2 c2, .int .i64 (8 * (n0 : Int))] u5 fun e w' => e = .returned (.bool true) ∧ Kept u5 w') := by
                        obtain ⟨qm, Fm, hm, hR⟩ := HR5.out.reads HRD.out
                        have hk : Kept w u5 := HU.out.1.trans HR5.out.kept
                        have := reads_is (c0 := c0) (x1 := x1) (c1 := c1) (c2 := c2) u5 hm (HSz.out.kept hk) (HB2.out.kept hk) HLE.out.1 HLE.out.2 (fun i hi => (HZ.out i hi).2) (by have := HBN.out; omega) (by have := HBN.out; omega) (by have := HBN.out; omega) hR
                        rwa [show ((8 * n0 : Nat) : Int) = 8 * (n0 : Int) by omega] at this
                      go_wp2_with fail
                      refine CRd.out.mono ?_
                      rintro e u6 ⟨rfl, K6⟩
                      have HR6 : Hid (Rz L U X len p E q 0 (tt + 1) u6) := HR5.out.still K6
                      clear K6 CRd HR5
                      go_wp2
                      go_roundg (T - (tt + 1))
                      case measure => have := HE.out; omega
                      case rel => exact ⟨tt + 1, by go_num, by omega, by omega, HR6.out⟩
                    · obtain rfl : T = tt := by omega
                      have HRf : Hid (Rz L U X len p E q 0 (L.tm L.N) wr) := by rw [← HTT.out]; exact HR.out
                      obtain ⟨qf, Sf, hMf, _, _, _⟩ := HRf.out.fin
                      have HMf : Hid (Mz U wr X len qf (L.mem L.N (L.P L.N)) Sf (L.Ks L.N)) := hMf
                      have CD0 : Hid (Calls Try.prog 18 #[.pointer (some ⟨p, 0, none⟩)] wr fun e w' => e = .returned (.bool true) ∧ w' = wr) := by
                        have := HR.out.done
                        rwa [decide_eq_true HTT.out] at this
                      clear hMf HE hlt
                      obtain ⟨wT, hwT⟩ : ∃ wT, wT = wr := ⟨_, rfl⟩
                      go_wp2_with fail
                      refine CD0.out.mono ?_
                      rintro e u4 ⟨rfl, rfl⟩
                      clear CD0
                      go_wp2
                      rw [← hwT] at HRf HMf HR
                      have HWT : Hid (wT = u4) := hwT
                      clear hwT
                      have HWI2 : Hid (∀ i, L.W i = if L2 i = true then ((8 * n0 + Aof zz i : Nat) : Int) else -1) := HWI.out
                      go_loopg [22, 23, 24] l0 (fun m mo wo i wr => ∃ k : Nat, mo = .int .i64 (L.mc k : Int) ∧ wo = .int .i64 (L.P k : Int) ∧ i = .int .i64 k ∧ k ≤ l0 ∧ m = l0 - k ∧ Hid (Kept wT wr))
                      case atStart => exact ⟨0, rfl, rfl, rfl, by omega, by omega, by rw [HWT.out]; exact Kept.refl _⟩
                      case round =>
                        obtain ⟨k, rfl, rfl, rfl, hk, hm, HK⟩ := hrel
                        have HE : Hid _ := hm
                        clear hm
                        by_cases hlt : k < l0
                        · have HPm : Hid (L.P k ≤ Aof zz k ∧ L.mc k ≤ k) := ⟨by have h := L.P_le k; rw [A_of L k, show L.z = zz by rw [HL.out]; rfl] at h; exact h, L.mc_le k⟩
                          have hA := HA.out k hlt
                          have hpm := HPm.out
                          have hzk := (HZ.out k hlt).2
                          have E3 : Hid (L.mc (k + 1) = L.mc k + (if (L1 k && L2 k) = true then 1 else 0)) := by rw [HL.out]; exact Ls_mc (-1) (by omega) (by have := HBN.out; omega) slR k
                          have E4 : Hid (L.P (k + 1) = L.P k + (if (L1 k && L2 k) = true then zz k + 2 else 0)) := by rw [HL.out]; exact Ls_P (-1) (by omega) (by have := HBN.out; omega) slR k
                          have HOK : Hid L.Ok := by rw [HL.out]; exact Lt_ok (.inr rfl) (by have := HBN.out; omega) (by have := HBN.out; omega) (by rw [← HNN.out]; have := HBN.out; omega)
                          have HMV : Hid (L.mv k = (L1 k && L2 k)) := by rw [HL.out]; exact Lt_mv (by omega) (by have := HBN.out; omega) k
                          have HDS : Hid (L.dst = 8 * n0 + nn) := by rw [HL.out, HNN.out]; rfl
                          obtain ⟨xa, hxa⟩ : ∃ xa : Int, xa = if (L1 k && L2 k) = true then ((8 * n0 + nn + L.P k : Nat) : Int) else L.W k := ⟨_, rfl⟩
                          have hxb : xa.natAbs ≤ 100000 := by
                            have h := HWI.out k
                            have := HBN.out
                            rw [hxa]
                            split
                            · omega
                            · rw [h]; split <;> omega
                          have CP : Hid (Calls Try.prog 22 #[.pointer (some ⟨X.M, 0, none⟩), .int .i64 (8 * (k : Int) + 4)] wr fun e w' => e = .returned (.complex .f64 (cw xa).re (cw xa).im) ∧ w' = wr) := by
                            have h := (HMf.out.still HK.out).peek (8 * k + 4) (by have := HBN.out; omega)
                            rw [Pl.mem_sent HOK.out (by rw [HN0.out]; exact hlt) rfl, show ((8 * k + 4 : Nat) : Int) = 8 * (k : Int) + 4 by omega] at h
                            have e : (if k < L.N ∧ L.mv k = true then cw ((L.dst + L.P k : Nat) : Int) else cw (L.W k)) = cw xa := by
                              rw [hxa, HMV.out, HDS.out]
                              by_cases q : (L1 k && L2 k) = true
                              · rw [if_pos ⟨by rw [HN0.out]; exact hlt, q⟩, if_pos q]
                              · rw [if_neg (fun z => q z.2), if_neg q]
                            rw [e] at h
                            exact h
                          have CI : Hid (∀ u, Calls Try.prog 21 #[.complex .f64 (cw xa).re (cw xa).im] u _) := fun u => rint_in xa u (by omega) (by omega)
                          have HXA : Hid (xa = if (L1 k && L2 k) = true then ((8 * n0 + nn + L.P k : Nat) : Int) else L.W k) := hxa
                          have HKu : Hid (Kept w wr) := (HU.out.1.trans HRf.out.kept).trans HK.out
                          obtain ⟨sb1, sx1, hx1, hsb1, hsc1⟩ := HSz.out (by omega)
                          obtain ⟨sb2, sx2, hx2, hsb2, hsc2⟩ := HB1.out (by omega)
                          obtain ⟨sb3, sx3, hx3, hsb3, hsc3⟩ := HB2.out (by omega)
                          have cs := (HKu.out.cell hsb1).trans (hsc1 k hlt)
                          have cb := (HKu.out.cell hsb2).trans (hsc2 k (by omega))
                          have ct := (HKu.out.cell hsb3).trans (hsc3 k (by omega))
                          simp only [] at cs cb ct
                          have hk1 : k < l1 := by omega
                          have hk2 : k < l2 := by omega
                          clear hsb1 hsc1 hsb2 hsc2 hsb3 hsc3 hxa
                          subst hx1 hx2 hx3
                          obtain ⟨zr, hzr⟩ : ∃ z, z = cw xa := ⟨_, rfl⟩
                          rw [← hzr] at CP CI
                          clear hzr
                          obtain ⟨mk, hmk⟩ : ∃ mk, mk = L.mc k := ⟨_, rfl⟩
                          obtain ⟨pk, hpk⟩ : ∃ pk, pk = L.P k := ⟨_, rfl⟩
                          obtain ⟨zk, hzke⟩ : ∃ zk, zk = zz k := ⟨_, rfl⟩
                          obtain ⟨ak, hake⟩ : ∃ ak, ak = Aof zz k := ⟨_, rfl⟩
                          rw [← hmk] at E3 hpm ⊢
                          rw [← hpk] at E4 hpm HXA ⊢
                          rw [← hzke] at hzk hA cs E4
                          rw [← hake] at hA hpm
                          clear hmk hpk hzke hake HPm
                          have HAK : Hid (ak + (zk + 2) ≤ nn ∧ pk ≤ ak ∧ mk ≤ k) := ⟨hA, hpm⟩
                          cases hb : L1 k
                          · have e3 : Hid (((L.mc (k + 1) : Nat) : Int) = (mk : Int)) := by have h := E3.out; rw [hb] at h; simp at h; show _ = _; rw [h]
                            have e4 : Hid (((L.P (k + 1) : Nat) : Int) = (pk : Int)) := by have h := E4.out; rw [hb] at h; simp at h; show _ = _; rw [h]
                            rw [hb] at cb
                            clear hb E3 E4 HXA
                            go_wp2_with fail
                            refine CP.out.mono ?_
                            rintro e u7 ⟨rfl, rfl⟩
                            go_wp2_with fail
                            refine (CI.out _).mono ?_
                            rintro e u8 ⟨rfl, rfl⟩
                            go_wp2
                            go_roundg (l0 - (k + 1))
                            case measure => have := HE.out; omega
                            case rel => exact ⟨k + 1, by rw [e3.out], by rw [e4.out], by go_num, by omega, by omega, HK.out⟩
                          · cases ht : L2 k
                            · have e3 : Hid (((L.mc (k + 1) : Nat) : Int) = (mk : Int)) := by have h := E3.out; rw [hb, ht] at h; simp at h; show _ = _; rw [h]
                              have e4 : Hid (((L.P (k + 1) : Nat) : Int) = (pk : Int)) := by have h := E4.out; rw [hb, ht] at h; simp at h; show _ = _; rw [h]
                              rw [hb] at cb
                              rw [ht] at ct
                              clear hb ht E3 E4 HXA
                              go_wp2_with fail
                              refine CP.out.mono ?_
                              rintro e u7 ⟨rfl, rfl⟩
                              go_wp2_with fail
                              refine (CI.out _).mono ?_
                              rintro e u8 ⟨rfl, rfl⟩
                              go_wp2
                              go_roundg (l0 - (k + 1))
                              case measure => have := HE.out; omega
                              case rel => exact ⟨k + 1, by rw [e3.out], by rw [e4.out], by go_num, by omega, by omega, HK.out⟩
                            · have e3 : Hid (((L.mc (k + 1) : Nat) : Int) = (mk : Int) + 1) := by have h := E3.out; rw [hb, ht] at h; simp at h; show _ = _; rw [h]; omega
                              have e4 : Hid (((L.P (k + 1) : Nat) : Int) = (pk : Int) + (2 + (zk : Int))) := by have h := E4.out; rw [hb, ht] at h; simp at h; show _ = _; rw [h]; omega
                              have hx := HXA.out
                              rw [hb, ht] at hx
                              simp only [Bool.and_self, if_true] at hx
                              have hx1 : 8 * (n0 : Int) + (nn : Int) ≤ xa := by omega
                              have hx2 : xa < 8 * (n0 : Int) + 2 * (nn : Int) := by omega
                              rw [hb] at cb
                              rw [ht] at ct
                              clear hb ht E3 E4 HXA hx
                              go_wp2_with fail
                              refine CP.out.mono ?_
                              rintro e u7 ⟨rfl, rfl⟩
                              go_wp2_with fail
                              refine (CI.out _).mono ?_
                              rintro e u8 ⟨rfl, rfl⟩
                              go_wp2
                              go_roundg (l0 - (k + 1))
                              case measure => have := HE.out; omega
                              case rel => exact ⟨k + 1, by rw [e3.out], by rw [e4.out], by go_num, by omega, by omega, HK.out⟩
                        · obtain rfl : l0 = k := by omega
                          clear HE hlt hk
                          have HMw : Hid (∀ u, Kept wr u → Mz U u X len qf (L.mem L.N (L.P L.N)) Sf (L.Ks L.N)) := fun u k => (HMf.out.still HK.out).still k
                          have HRw : Hid (∀ u, Kept wr u → Rz L U X len p E q 0 (L.tm L.N) u) := fun u k => (HRf.out.still HK.out).still k
                          obtain ⟨ml, hml⟩ : ∃ ml, ml = L.mc l0 := ⟨_, rfl⟩
                          obtain ⟨pl, hpl⟩ : ∃ pl, pl = L.P l0 := ⟨_, rfl⟩
                          rw [← hml, ← hpl]
                          have CD : Hid (∀ u, Kept wr u → Calls Try.prog 18 #[.pointer (some ⟨p, 0, none⟩)] u fun e w' => e = .returned (.bool true) ∧ w' = u) := fun u k => by
                            have := (HRw.out u k).done
                            rwa [decide_eq_true rfl] at this
                          have CE : Hid (∀ u, Kept wr u → Calls Try.prog 23 #[.pointer (some ⟨p, 0, none⟩)] u fun e w' => e = .returned (.int .i64 0) ∧ w' = u) := fun u k => (HRw.out u k).errno
                          have CM : Hid (∀ u, Kept wr u → Calls Try.prog 24 #[.pointer (some ⟨p, 0, none⟩)] u fun e w' => e = .returned (.int .i64 (ml : Int)) ∧ w' = u) := fun u k => by
                            have := (HRw.out u k).moved
                            rwa [HN0.out, ← hml] at this
                          have hKs : L.Ks L.N = ⟨nn, 1, 0, nn, pl⟩ := by
                            have e : L.fr = 0 := by rw [HL.out]; rfl
                            have e2 : L.n = nn := by rw [HL.out, HNN.out]; rfl
                            have e3 : L.A l0 = nn := by rw [A_of, show L.z = zz by rw [HL.out]; rfl, HNN.out]
                            rw [HN0.out, hpl]
                            unfold Pl.Ks
                            rw [if_pos e, e2, e3, Nat.sub_self]
                          have CU : Hid (∀ u, Kept wr u → Calls Try.prog 25 #[.pointer (some ⟨X.kb, 0, none⟩), .int .i64 1] u fun e w' => e = .returned (.int .i64 (pl : Int)) ∧ w' = u) := fun u k => by
                            have h := (HMw.out u k).used 1
                            rw [hKs] at h
                            exact h
                          have CL : Hid (∀ u, Kept wr u → Calls Try.prog 26 #[.pointer (some ⟨X.kb, 0, none⟩)] u fun e w' => e = .returned (.int .i64 0) ∧ w' = u) := fun u k => by
                            have h := (HMw.out u k).left
                            rw [hKs] at h
                            exact h
                          have CKD : Hid (∀ u, Kept wr u → Calls Try.prog 27 #[.pointer (some ⟨X.kb, 0, none⟩)] u fun e w' => e = .returned (.bool true) ∧ Kept w w') := fun u k => by
                            refine (HMw.out u k).kdone.mono fun _ _ ⟨h1, h2, _⟩ => ⟨?_, HU.out.1.trans h2.kept⟩
                            rw [h1, hKs]
                            rfl
                          clear hml hpl hKs
                          go_wp2_with fail
                          refine (first_any _).mono ?_
                          rintro e u5 ⟨rfl, K5⟩
                          have HK5 : Hid (Kept wr u5) := K5
                          clear K5
                          go_wp2_with fail
                          refine (CD.out _ HK5.out).mono ?_
                          rintro e u6 ⟨rfl, rfl⟩
                          go_wp2_with fail
                          refine (CE.out _ HK5.out).mono ?_
                          rintro e u6 ⟨rfl, rfl⟩
                          go_wp2_with fail
                          refine (CM.out _ HK5.out).mono ?_
                          rintro e u6 ⟨rfl, rfl⟩
                          go_wp2_with fail
                          refine (CU.out _ HK5.out).mono ?_
                          rintro e u6 ⟨rfl, rfl⟩
                          go_wp2_with fail
                          refine (CL.out _ HK5.out).mono ?_
                          rintro e u6 ⟨rfl, rfl⟩
                          go_wp2_with fail
                          refine (CKD.out _ HK5.out).mono ?_
                          rintro e u6 ⟨rfl, K6⟩
                          have HK6 : Hid (Kept w u6) := K6
                          clear K6
                          go_wp2
                          go_ret
                          exact ⟨rfl, HK6.out⟩
end Go.Proofs.Ytgnikgkpbibmgaa
