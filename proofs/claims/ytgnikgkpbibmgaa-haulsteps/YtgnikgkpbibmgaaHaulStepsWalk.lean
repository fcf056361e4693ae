/-
  The walk of HaulSteps.
-/
import Derived.Test.YtgnikgkpbibmgaaHaO
import Derived.Test.YtgnikgkpbibmgaaBools16
namespace Go.Proofs.Ytgnikgkpbibmgaa
open Go.RowKit

set_option maxRecDepth 20000 in
set_option maxHeartbeats 16000000 in
theorem haulSteps_any (x0 : Option Addr) (l0 c0 : Nat) (L0 : Nat → Int) (x1 : Option Addr) (l1 c1 : Nat) (L1 : Nat → Bool) (x2 : Option Addr) (l2 c2 : Nat) (L2 : Nat → Bool) (w : World) (_h0c : l0 ≤ c0) (hL0 : Ints w x0 l0 L0) (_hB0 : ∀ i, i < l0 → IntKind.min .i64 ≤ L0 i ∧ L0 i ≤ IntKind.max .i64) (_h1c : l1 ≤ c1) (hL1 : Bools w x1 l1 L1) (_h2c : l2 ≤ c2) (hL2 : Bools w x2 l2 L2) :
    Calls Try.prog 4 #[.slice x0 l0 c0, .slice x1 l1 c1, .slice x2 l2 c2] w fun e w' => e = .returned (.bool true) ∧ Kept w w' := by
  have HS0 : Hid (Rdv w x0 l0 (fun i => .int .i64 (L0 i))) := fun h => hL0.at h
  have HB1 : Hid (Rdv w x1 l1 (fun i => .bool (L1 i))) := fun h => hL1.at h
  have HB2 : Hid (Rdv w x2 l2 (fun i => .bool (L2 i))) := fun h => hL2.at h
  clear hL1 hL2
  clear hL0
  obtain ⟨zz, hzz⟩ : ∃ zz : Nat → Nat, zz = fun i => (L0 i).toNat := ⟨_, rfl⟩
  have HZZ : Hid (zz = fun i => (L0 i).toNat) := hzz
  clear hzz
  go_enter Try.func4, Try.ntmps4
  go_wp2_with fail
  refine (first_any _).mono ?_
  rintro e w1 ⟨rfl, K1⟩
  have HK1 : Hid (Kept w w1) := K1
  clear K1
  go_wp2
  go_loopg [9, 7] l0 (fun m i nn wr => ∃ k : Nat, i = .int .i64 k ∧ nn = .int .i64 (Aof zz k : Int) ∧ k ≤ l0 ∧ k ≤ 60 ∧ m = l0 - k ∧ Hid (Kept w wr ∧ ∀ j, j < k → L0 j = (zz j : Int) ∧ zz j ≤ 64))
  case atStart => exact ⟨0, rfl, rfl, by omega, by omega, by omega, HK1.out, fun j hj => absurd hj (Nat.not_lt_zero _)⟩
  case round =>
    obtain ⟨k, rfl, rfl, hk, hk60, hm, HK⟩ := hrel
    have HE : Hid _ := hm
    have HAk : Hid (Aof zz k ≤ 66 * k) := by
      have key : ∀ i, i ≤ k → Aof zz i ≤ 66 * i := by
        intro i
        induction i with
        | zero => intro _; exact Nat.le_refl _
        | succ i ih =>
          intro hi
          have h1 := ih (by omega)
          have h2 := (HK.out.2 i (by omega)).2
          simp only [Aof]
          omega
      exact key k (Nat.le_refl _)
    clear hm
    by_cases hlt : k < l0
    · by_cases h60 : k < 60
      · obtain ⟨sb, sx, hx, hsb, hsc⟩ := HS0.out (by omega)
        have cs := (HK.out.1.cell hsb).trans (hsc k hlt)
        simp only [] at cs
        have HX : Hid (x0 = some ⟨sb, sx, none⟩) := hx
        subst hx
        clear hsb hsc
        have ha := HAk.out
        obtain ⟨ak, hak⟩ : ∃ ak, ak = Aof zz k := ⟨_, rfl⟩
        rw [← hak] at ha ⊢
        have HAK : Hid (ak = Aof zz k) := hak
        clear hak
        obtain ⟨s, hs⟩ : ∃ s, s = L0 k := ⟨_, rfl⟩
        rw [← hs] at cs
        have HSK : Hid (s = L0 k) := hs
        clear hs
        by_cases hneg : s < 0
        · go_wp2_with fail
          refine (first_any _).mono ?_
          rintro e wf ⟨rfl, Kf⟩
          have HKF : Hid (Kept w wf) := HK.out.1.trans Kf
          clear Kf
          go_wp2
          go_ret
          exact ⟨rfl, HKF.out⟩
        · by_cases hbig : 64 < s
          · go_wp2_with fail
            refine (first_any _).mono ?_
            rintro e wf ⟨rfl, Kf⟩
            have HKF : Hid (Kept w wf) := HK.out.1.trans Kf
            clear Kf
            go_wp2
            go_ret
            exact ⟨rfl, HKF.out⟩
          · have h0 : 0 ≤ s := by omega
            have h1 : s ≤ 64 := by omega
            clear hneg hbig
            go_wp2
            go_roundg (l0 - (k + 1))
            case measure => have := HE.out; omega
            case rel =>
              have hz : zz k = s.toNat := by rw [HZZ.out, HSK.out]
              refine ⟨k + 1, by go_num, ?_, by omega, by omega, by omega, HK.out.1, fun j hj => ?_⟩
              · have e : ((Aof zz (k + 1) : Nat) : Int) = (ak : Int) + 2 + s := by
                  simp only [Aof]
                  rw [← HAK.out, hz]
                  omega
                rw [e]
              · by_cases q : j = k
                · subst q
                  rw [hz, ← HSK.out]
                  omega
                · exact HK.out.2 j (by omega)
      · obtain rfl : k = 60 := by omega
        have ha := HAk.out
        generalize Aof zz 60 = ak at *
        go_wp2_with fail
        refine (first_any _).mono ?_
        rintro e wf ⟨rfl, Kf⟩
        have HKF : Hid (Kept w wf) := HK.out.1.trans Kf
        clear Kf
        go_wp2
        go_ret
        exact ⟨rfl, HKF.out⟩
    · obtain rfl : l0 = k := by omega
      have ha := HAk.out
      have HZ : Hid (∀ j, j < l0 → L0 j = (zz j : Int) ∧ zz j ≤ 64) := HK.out.2
      have HKA : Hid (Kept w wr) := HK.out.1
      clear HE HK HAk hlt hk
      obtain ⟨nn, hnn⟩ : ∃ nn, nn = Aof zz l0 := ⟨_, rfl⟩
      rw [← hnn] at ha ⊢
      have HNN : Hid (nn = Aof zz l0) := hnn
      clear hnn
      obtain ⟨W0, rfl⟩ : ∃ W0, W0 = wr := ⟨_, rfl⟩
      by_cases hn : 2000 < nn
      · go_wp2_with fail
        refine (first_any _).mono ?_
        rintro e wf ⟨rfl, Kf⟩
        have HKF : Hid (Kept w wf) := HKA.out.trans Kf
        clear Kf
        go_wp2
        go_ret
        exact ⟨rfl, HKF.out⟩
      · by_cases hn0 : nn = 0
        · subst hn0
          go_wp2_with fail
          refine (first_any _).mono ?_
          rintro e wf ⟨rfl, Kf⟩
          have HKF : Hid (Kept w wf) := HKA.out.trans Kf
          clear Kf
          go_wp2
          go_ret
          exact ⟨rfl, HKF.out⟩
        · have hnq : ((nn : Int) == 0) = false := by simpa using hn0
          have hnq2 : (nn == 0) = false := by simpa using hn0
          by_cases h1l : l1 < l0
          · go_wp2_with fail
            refine (first_any _).mono ?_
            rintro e wf ⟨rfl, Kf⟩
            have HKF : Hid (Kept w wf) := HKA.out.trans Kf
            clear Kf
            go_wp2
            go_ret
            exact ⟨rfl, HKF.out⟩
          · by_cases h2l : l2 < l0
            · go_wp2_with fail
              refine (first_any _).mono ?_
              rintro e wf ⟨rfl, Kf⟩
              have HKF : Hid (Kept w wf) := HKA.out.trans Kf
              clear Kf
              go_wp2
              go_ret
              exact ⟨rfl, HKF.out⟩
            · obtain ⟨n0, hx1, hx2, h4, hln, hn60⟩ : ∃ n0 : Nat, (if (4 : Int) > (l0 : Int) then (4 : Int) else (l0 : Int)) = (n0 : Int) ∧ (if (l0 : Int) < 4 then (4 : Int) else (l0 : Int)) = (n0 : Int) ∧ 4 ≤ n0 ∧ l0 ≤ n0 ∧ n0 ≤ 60 := by
                by_cases h : l0 < 4
                · exact ⟨4, by rw [if_pos (by omega)]; rfl, by rw [if_pos (by omega)]; rfl, by omega, by omega, by omega⟩
                · exact ⟨l0, by rw [if_neg (by omega)], by rw [if_neg (by omega)], by omega, by omega, by omega⟩
              have HG : Hid (Good (n0 : Int) (nn : Int) 0 1 1 0 1 0 1 F0) := good17 n0 nn (by omega) (by omega)
              have HBN : Hid (4 ≤ n0 ∧ l0 ≤ n0 ∧ n0 ≤ 60 ∧ nn ≤ 2000) := ⟨h4, hln, hn60, by omega⟩
              go_wp2_with fail
              clear hx1 hx2
              generalize hW1 : W0.alloc (Obj.cells #[Value.bool false, Value.slice none 0 0] _) = W1
              have S1 : Shps W1 (some ⟨W0.heap.size, 0, none⟩) 1 F0 := by
                rw [← hW1]
                exact shps_one ⟨false, none, 0, 0⟩ (by simp) (by simp) (by simp)
              have k1 : Kept W0 W1 := by rw [← hW1]; exact (Kept.refl W0).alloc _ _
              have z1 : W1.heap.size = W0.heap.size + 1 := by rw [← hW1]; simp
              clear hW1
              generalize hW2 : W1.alloc _ = U
              have k2 : Kept W1 U := by rw [← hW2]; exact (Kept.refl W1).alloc _ _
              have b2 : Blk U (W0.heap.size + 1) (cl n0 nn 0 1 1 0 1 0 (.slice (some ⟨W0.heap.size, 0, none⟩) 1 1)) := by rw [← hW2, ← z1]; exact Blk.new W1 _ _
              clear hW2
              have HU : Hid (Kept w U ∧ Blk U (W0.heap.size + 1) (cl n0 nn 0 1 1 0 1 0 (.slice (some ⟨W0.heap.size, 0, none⟩) 1 1)) ∧ Shps U (some ⟨W0.heap.size, 0, none⟩) 1 F0) := ⟨(HKA.out.trans k1).trans k2, b2, S1.kept k2⟩
              clear S1 k1 z1 k2 b2
              obtain ⟨len, hlen⟩ : ∃ len : Nat, 8 * n0 + 2 * nn = len := ⟨_, rfl⟩
              have CF : Hid (Calls Try.prog 7 #[.agg #[.int .i64 n0, .int .i64 nn, .int .i64 0, .int .i64 1, .int .i64 1, .int .i64 0, .int .i64 1, .int .i64 0, .slice (some ⟨W0.heap.size, 0, none⟩) 1 1], .slice none 0 0] U _) := fill_nil n0 nn 0 1 1 0 1 0 _ 1 1 F0 len U HU.out.2.2 (by
                have e : 8 * (n0 : Int) + 2 * (nn : Int) + 0 = (len : Int) := by omega
                rw [e]
                exact Is.is _ HG.out) (by omega)
              refine CF.out.mono ?_
              rintro e V ⟨b, M, rfl, hM, K4, hb, hMb⟩
              have HV : Hid (Kept U V ∧ Mm V b M len (fun _ => cz) 0 ∧ U.heap.size ≤ M ∧ U.heap.size ≤ b) := ⟨K4, hM, hMb, hb⟩
              clear K4 hM hb hMb CF
              have c0 : V.cell? ⟨W0.heap.size + 1, 0, none⟩ = some (.int .i64 (n0 : Int)) := (HU.out.2.1.kept HV.out.1).at 0 rfl
              have C1 : Hid (Calls Try.prog 8 #[.int .i64 n0, .int .i64 1] V _) := mh_new n0 HV.out.1 HV.out.2.1 HV.out.2.2.1 HV.out.2.2.2 (by omega)
              go_wp2_with fail
              refine C1.out.mono ?_
              rintro e W ⟨sb, tb, g, pb, v, rfl, HMh⟩
              have H2 : Hid (Mh U W b M sb tb g pb v len 0 (fun _ => cz) (ShS.new n0 1)) := HMh
              clear HMh HV C1 c0
              have C2 : Hid (Calls Try.prog 9 #[.int .i64 nn] W fun e w' => ∃ kb, e = .returned (.tuple #[.pointer (some ⟨kb, 0, none⟩), .int .i64 0]) ∧ Mz U w' ⟨b, M, kb, sb, tb, g, pb, v⟩ len 0 (fun _ => cz) (ShS.new n0 1) ⟨nn, 0, 0, 0, 0⟩) := mz_new nn H2.out (by omega)
              go_wp2_with fail
              refine C2.out.mono ?_
              rintro e W3 ⟨kb, rfl, HZ3⟩
              obtain ⟨X, hXM, hXk, hXs, hXt, hX3⟩ : ∃ X : Bl, X.M = M ∧ X.kb = kb ∧ X.sb = sb ∧ X.tb = tb ∧ Mz U W3 X len 0 (fun _ => cz) (ShS.new n0 1) ⟨nn, 0, 0, 0, 0⟩ := ⟨_, rfl, rfl, rfl, rfl, HZ3⟩
              clear HZ3 C2 H2
              subst hXM hXk hXs hXt
              have H3 : Hid (Mz U W3 X len 0 (fun _ => cz) (ShS.new n0 1) ⟨nn, 0, 0, 0, 0⟩) := hX3
              clear hX3
              have CT : Hid (∀ u q F S K, Mz U u X len q F S K → Calls Try.prog 10 #[.pointer (some ⟨X.sb, 0, none⟩)] u fun e w' => e = .returned (.pointer (some ⟨X.tb, 0, none⟩)) ∧ w' = u) := fun u q F S K h => h.table
              go_wp2_with fail
              refine (CT.out _ _ _ _ _ H3.out).mono ?_
              rintro e W4 ⟨rfl, rfl⟩
              have c0 : W4.cell? ⟨W0.heap.size + 1, 0, none⟩ = some (.int .i64 (n0 : Int)) := (HU.out.2.1.kept H3.out.kept).at 0 rfl
              go_wp2_with fail
              go_region
              clear c0
              go_wp2
              obtain ⟨L, hL⟩ : ∃ L : Pl, L = (Lp l0 zz L1 (Wt zz L2 0 n0) (fun _ _ => cz) n0) := ⟨_, rfl⟩
              have HL : Hid (L = (Lp l0 zz L1 (Wt zz L2 0 n0) (fun _ _ => cz) n0)) := hL
              have HTM : Hid (∀ i, L.tm (i + 1) = L.tm i + (if L1 i = false then 4 else if L2 i = false then 5 else 8 + 2 * zz i)) := fun i => by rw [hL]; exact Lt_tm (by omega) h4 i
              have HWI : Hid (∀ i, L.W i = if L2 i = true then ((8 * n0 + Aof zz i : Nat) : Int) else 0) := fun i => by rw [hL]; rfl
              have HGI : Hid (∀ i c, i < l0 → c < zz i + 2 → L.G (Aof zz i + c) = wordAt zz (fun _ _ => cz) i c) := fun i c hi hc => by rw [hL]; exact Lp_G hi hc
              have HLN : Hid (L.n0 = n0) := by rw [hL]; rfl
              clear hL
              have HA : Hid (∀ i, i < l0 → Aof zz i + (zz i + 2) ≤ nn) := fun i hi => by rw [HNN.out]; exact Aof_step zz hi
              have CW : Hid (∀ (u : World) (q : Nat) (F G : Nat → Cx) (S : ShS) (i : Int) (a : Nat) (z : Cx), Mz U u X len q F S ⟨nn, 0, 0, 0, 0⟩ → i = (a : Int) → a < len → q ≤ 1000000 → (∀ j, (if j = a then z else F j) = G j) → Calls Try.prog 12 #[.pointer (some ⟨X.M, 0, none⟩), .int .i64 i, .complex .f64 z.re z.im] u fun e w' => e = .returned (.int .i64 0) ∧ Mz U w' X len (q + 1) G S ⟨nn, 0, 0, 0, 0⟩) := fun u q F G S i a z h h1 h2 h3 h4 => Mz.wr i a z h h1 h2 h3 h4
              have HKW : Hid (∀ u q F S, Mz U u X len q F S ⟨nn, 0, 0, 0, 0⟩ → Kept w u) := fun u q F S h => HU.out.1.trans h.kept
              go_loopg [16, 17, 19] l0 (fun m at' wa i wr => ∃ k : Nat, at' = .int .i64 (Aof zz k : Int) ∧ wa = .int .i64 (L.tm k : Int) ∧ i = .int .i64 k ∧ k ≤ l0 ∧ m = l0 - k ∧ Hid (L.tm k ≤ 200 * k ∧ ∃ q S, Mz U wr X len q (su L k (Aof zz k)) S ⟨nn, 0, 0, 0, 0⟩ ∧ q ≤ 3 * k ∧ Bk S n0 k L1))
              case atStart => exact ⟨0, rfl, rfl, rfl, by omega, by omega, by exact Nat.zero_le _, 0, _, by rw [show su L 0 (Aof zz 0) = fun _ => cz from su_zero.symm]; exact H3.out.still (Kept.refl _).drew, by omega, Bk.new n0 L1⟩
              case round =>
                obtain ⟨k, rfl, rfl, rfl, hk, hm, HH⟩ := hrel
                have HE : Hid _ := hm
                clear hm
                by_cases hlt : k < l0
                · obtain ⟨htk, q, S, hMz, hq, hBk⟩ := HH.out
                  clear HH
                  have HBK : Hid (Bk S n0 k L1) := hBk
                  have hak := HA.out k hlt
                  have hz0 := HZ.out k hlt
                  obtain ⟨sb1, sx1, hx1, hsb1, hsc1⟩ := HS0.out (by omega)
                  have HC0 : Hid (∀ u, Kept w u → u.cell? ⟨sb1, sx1 + k, none⟩ = some (.int .i64 (zz k : Int))) := fun u h => by rw [← hz0.1]; exact (h.cell hsb1).trans (hsc1 k hlt)
                  obtain ⟨sb2, sx2, hx2, hsb2, hsc2⟩ := HB1.out (by omega)
                  have HC1 : Hid (∀ u, Kept w u → u.cell? ⟨sb2, sx2 + k, none⟩ = some (.bool (L1 k))) := fun u h => (h.cell hsb2).trans (hsc2 k (by omega))
                  obtain ⟨sb3, sx3, hx3, hsb3, hsc3⟩ := HB2.out (by omega)
                  have HC2 : Hid (∀ u, Kept w u → u.cell? ⟨sb3, sx3 + k, none⟩ = some (.bool (L2 k))) := fun u h => (h.cell hsb3).trans (hsc3 k (by omega))
                  subst hx1 hx2 hx3
                  clear hsb1 hsc1 hsb2 hsc2 hsb3 hsc3 hBk
                  have hzk := hz0.2
                  clear hz0
                  obtain ⟨ak, hake⟩ : ∃ ak, ak = Aof zz k := ⟨_, rfl⟩
                  obtain ⟨zk, hzke⟩ : ∃ zk, zk = zz k := ⟨_, rfl⟩
                  obtain ⟨tk, htke⟩ : ∃ tk, tk = L.tm k := ⟨_, rfl⟩
                  have HGk : Hid (∀ c, c < zk + 2 → L.G (ak + c) = wordAt zz (fun _ _ => cz) k c) := fun c hc => by rw [hake]; exact HGI.out k c hlt (by rw [← hzke]; exact hc)
                  have E1 : Hid (((Aof zz (k + 1) : Nat) : Int) = (ak : Int) + (2 + (zk : Int))) := by
                    show _ = (_ : Int)
                    simp only [Aof]
                    rw [← hake, ← hzke]
                    omega
                  have HBL : Hid (su L (k + 1) (Aof zz (k + 1)) = su L (k + 1) (ak + 1 + 1)) := by
                    rw [show Aof zz (k + 1) = ak + 1 + 1 + zk by have := E1.out; omega]
                    exact (su_blank (k + 1) (ak + 1 + 1) zk fun c hc => (HGk.out (c + 2) (by omega) ▸ (by congr 1; omega : L.G (ak + 1 + 1 + c) = L.G (ak + (c + 2)))).trans (by unfold wordAt; rw [if_neg (by omega), if_neg (by omega)])).symm
                  rw [← hake] at hMz hak
                  rw [← hzke] at hzk hak HC0
                  rw [← htke] at htk
                  rw [← hake, ← htke]
                  have HAK : Hid (ak = Aof zz k) := hake
                  have HZK : Hid (zk = zz k) := hzke
                  have HTKE : Hid (tk = L.tm k) := htke
                  have HQK : Hid (tk ≤ 200 * k ∧ q ≤ 3 * k) := ⟨htk, hq⟩
                  have HM : Hid (Mz U wr X len q (su L k ak) S ⟨nn, 0, 0, 0, 0⟩) := hMz
                  clear hake hzke htke hMz hq
                  obtain ⟨zr, hzr⟩ : ∃ z, z = cr (k : Int) := ⟨_, rfl⟩
                  obtain ⟨zw, hzw⟩ : ∃ z, z = cw (zk : Int) := ⟨_, rfl⟩
                  obtain ⟨zt, hzt⟩ : ∃ z, z = cw (8 * (n0 : Int) + (ak : Int)) := ⟨_, rfl⟩
                  have CRf : Hid (∀ u, Calls Try.prog 13 #[.int .i64 k] u fun e w' => e = .returned (.complex .f64 zr.re zr.im) ∧ w' = u) := fun u => by rw [hzr]; exact rref_in k u (by omega) (by omega)
                  have CWh : Hid (∀ u, Calls Try.prog 14 #[.int .i64 zk] u fun e w' => e = .returned (.complex .f64 zw.re zw.im) ∧ w' = u) := fun u => by rw [hzw]; exact rwhole_in zk u (by omega) (by omega)
                  have CWt : Hid (∀ u, Calls Try.prog 14 #[.int .i64 (8 * (n0 : Int) + (ak : Int))] u fun e w' => e = .returned (.complex .f64 zt.re zt.im) ∧ w' = u) := fun u => by rw [hzt]; exact rwhole_in (8 * (n0 : Int) + (ak : Int)) u (by omega) (by omega)
                  have HG0 : Hid (L.G ak = zr) := by rw [hzr]; exact (HGk.out 0 (by omega)).trans rfl
                  have HG1 : Hid (L.G (ak + 1) = zw) := by
                    rw [hzw]
                    refine (HGk.out 1 (by omega)).trans ?_
                    unfold wordAt
                    rw [if_neg (by omega), if_pos rfl, HZK.out]
                  have HZT : Hid (zt = cw ((8 * n0 + Aof zz k : Nat) : Int)) := by rw [hzt, ← HAK.out, Int.natCast_add, Int.natCast_mul]; rfl
                  clear hzr hzw hzt
                  have hk1 : k < l1 := by omega
                  have hk2 : k < l2 := by omega
                  cases hb : L1 k
                  · cases ht : L2 k
                    · have E2 : Hid (((L.tm (k + 1) : Nat) : Int) = (tk : Int) + (4)) := by
                        show _ = (_ : Int)
                        have := HTM.out k
                        rw [hb, ht] at this
                        have e : L.tm (k + 1) = L.tm k + (4) := by simpa using this
                        rw [e, ← HTKE.out]
                        (try rw [← HZK.out])
                        omega
                      have HB : Hid (Bk (S.set (k : Int) 2 true false) n0 (k + 1) L1) := by
                        have h := HBK.out.set (by have := HBN.out; omega)
                        rw [hb] at h
                        exact h
                      have HWK : Hid (cw (L.W k) = cz) := by
                        have := HWI.out k
                        rw [ht] at this
                        rw [this]
                        exact cw_zero
                      rw [hb] at HC1
                      rw [ht] at HC2
                      obtain ⟨rb, hrb⟩ : ∃ rb, rb = (inn S.n (k : Int) && isSt 2) := ⟨_, rfl⟩
                      have HSet : Hid (∀ u, Mz U u X len q (su L k ak) S ⟨nn, 0, 0, 0, 0⟩ → Calls Try.prog 11 #[.pointer (some ⟨X.tb, 0, none⟩), .int .i64 k, .int .i64 2, .bool true, .bool false] u fun e w' => e = .returned (.bool rb) ∧ Mz U w' X len q (su L k ak) (S.set (k : Int) 2 true false) ⟨nn, 0, 0, 0, 0⟩) := fun u h => (Mz.set (k : Int) 2 true false h).mono fun _ _ ⟨h1, h2, _⟩ => ⟨by rw [h1, hrb], h2⟩
                      clear hb ht hrb
                      go_wp2_with fail
                      refine wp_region_phase [(.pointer (some ⟨X.sb, 0, none⟩)), (.pointer (some ⟨X.tb, 0, none⟩)), (.int .i64 (k : Int)), (.slice (some ⟨sb2, sx2, none⟩) l1 c1), (.int .i64 (k : Int)), (.pointer (some ⟨sb2, sx2 + k, none⟩)), (.bool false), (.bool rb)] [(130, 0), (131, 1), (132, 2), (133, 3), (134, 4), (135, 5), (136, 6), (137, 7)] [_, _, _, _, _, _, _, _, _, _, _, _, _, _, _, _, _, _, _, _, _, _, _, _, _, _, _, _, _, _, _, _, _, _, _, _, _, _, _, _, _, _, _, _, _, _, _, _, _, _, _, _, _, _, _, _, _, _, _, _, _, _, _, _, _, _, _, _, _, _, _, _, _, _, _, _, _, _, _, _, _, _, _, _, _, _, _, _, _, _, _, _, _, _, _, _, _, _, _, _, _, _, _, _, _, _, _, _, _, _, _, _, _, _, _, _, _, _, _, _, _, _, _, _, _, _, _, _, _, _, _, _, _, _, _, _, _, _, _, _, _, _, _, _, _, _, _, _, _, _, _, _, _, _, _, _, _, _, _, _, _, _, _, _, _, _, _, _, _, _, _, _, _, _, _, _, _, _, _, _, _, _, _, _, _, _, _, _, _, _, _, _, _, _, _, _, _, _, _, _, _, _, _, _, _, _, _, _, _, _, _, _, _, _, _, _, _, _, _, _, _, _, _, _, _, _, _, _, _, _, _, _, _, _, _, _, _, _, _, _, _, _] (fun d u => Mz U u X len q (su L k ak) (if d 7 then S.set (k : Int) 2 true false else S) ⟨nn, 0, 0, 0, 0⟩) (by kernel_rfl) (by kernel_rfl) (by kernel_rfl) (by kernel_rfl) rfl ?_ ?_ ?_
                      · exact (by simpa using HM.out.still (Kept.refl _).drew)
                      · intro i1 o ho a1 d u hh hj hi hd
                        match i1, ho, hi, hd with
                        | 0, ho, hi, hd =>
                          simp only [List.getElem?_cons_zero, Option.some.injEq] at ho
                          subst ho
                          have g12 : a1.tmps[12]? = some (.pointer (some ⟨X.sb, 0, none⟩)) := hh.old 12 (by kernel_rfl) rfl
                          clear hh hd
                          have HN : Hid (Mz U u X len q (su L k ak) (if done d 0 7 then S.set (k : Int) 2 true false else S) ⟨nn, 0, 0, 0, 0⟩) := (by simpa [done] using hj : Mz U u X len q (su L k ak) (if done d 0 7 then S.set (k : Int) 2 true false else S) ⟨nn, 0, 0, 0, 0⟩)
                          clear hj hi
                          refine wpOp_step rfl (fun K hK => ?_)
                          go_simp
                          exact hK _ _ ⟨by simp [Act.put], HN.out⟩
                        | 1, ho, hi, hd =>
                          simp only [List.getElem?_cons_succ, List.getElem?_cons_zero, Option.some.injEq] at ho
                          subst ho
                          have g130 : a1.tmps[130]? = some (.pointer (some ⟨X.sb, 0, none⟩)) := hh.did 0 _ 130 rfl rfl (hd { on := 0, ground := .data } (by simp) rfl)
                          have CA := CT.out u _ _ _ _ hj
                          clear hh hd
                          have HN : Hid (Mz U u X len q (su L k ak) (if done d 1 7 then S.set (k : Int) 2 true false else S) ⟨nn, 0, 0, 0, 0⟩) := (by simpa [done] using hj : Mz U u X len q (su L k ak) (if done d 1 7 then S.set (k : Int) 2 true false else S) ⟨nn, 0, 0, 0, 0⟩)
                          clear hj hi
                          refine wpOp_step rfl (fun K hK => ?_)
                          go_simp
                          refine CA.mono ?_
                          rintro e u' ⟨rfl, rfl⟩
                          exact hK _ _ ⟨by simp [Act.put], HN.out⟩
                        | 2, ho, hi, hd =>
                          simp only [List.getElem?_cons_succ, List.getElem?_cons_zero, Option.some.injEq] at ho
                          subst ho
                          have g19 : a1.tmps[19]? = some (.int .i64 (k : Int)) := hh.old 19 (by kernel_rfl) rfl
                          clear hh hd
                          have HN : Hid (Mz U u X len q (su L k ak) (if done d 2 7 then S.set (k : Int) 2 true false else S) ⟨nn, 0, 0, 0, 0⟩) := (by simpa [done] using hj : Mz U u X len q (su L k ak) (if done d 2 7 then S.set (k : Int) 2 true false else S) ⟨nn, 0, 0, 0, 0⟩)
                          clear hj hi
                          refine wpOp_step rfl (fun K hK => ?_)
                          go_simp
                          exact hK _ _ ⟨by simp [Act.put], HN.out⟩
                        | 3, ho, hi, hd =>
                          simp only [List.getElem?_cons_succ, List.getElem?_cons_zero, Option.some.injEq] at ho
                          subst ho
                          have g1 : a1.tmps[1]? = some (.slice (some ⟨sb2, sx2, none⟩) l1 c1) := hh.old 1 (by kernel_rfl) rfl
                          clear hh hd
                          have HN : Hid (Mz U u X len q (su L k ak) (if done d 3 7 then S.set (k : Int) 2 true false else S) ⟨nn, 0, 0, 0, 0⟩) := (by simpa [done] using hj : Mz U u X len q (su L k ak) (if done d 3 7 then S.set (k : Int) 2 true false else S) ⟨nn, 0, 0, 0, 0⟩)
                          clear hj hi
                          refine wpOp_step rfl (fun K hK => ?_)
                          go_simp
                          exact hK _ _ ⟨by simp [Act.put], HN.out⟩
                        | 4, ho, hi, hd =>
                          simp only [List.getElem?_cons_succ, List.getElem?_cons_zero, Option.some.injEq] at ho
                          subst ho
                          have g19 : a1.tmps[19]? = some (.int .i64 (k : Int)) := hh.old 19 (by kernel_rfl) rfl
                          clear hh hd
                          have HN : Hid (Mz U u X len q (su L k ak) (if done d 4 7 then S.set (k : Int) 2 true false else S) ⟨nn, 0, 0, 0, 0⟩) := (by simpa [done] using hj : Mz U u X len q (su L k ak) (if done d 4 7 then S.set (k : Int) 2 true false else S) ⟨nn, 0, 0, 0, 0⟩)
                          clear hj hi
                          refine wpOp_step rfl (fun K hK => ?_)
                          go_simp
                          exact hK _ _ ⟨by simp [Act.put], HN.out⟩
                        | 5, ho, hi, hd =>
                          simp only [List.getElem?_cons_succ, List.getElem?_cons_zero, Option.some.injEq] at ho
                          subst ho
                          have g133 : a1.tmps[133]? = some (.slice (some ⟨sb2, sx2, none⟩) l1 c1) := hh.did 3 _ 133 rfl rfl (hd { on := 3, ground := .data } (by simp) rfl)
                          have g134 : a1.tmps[134]? = some (.int .i64 (k : Int)) := hh.did 4 _ 134 rfl rfl (hd { on := 4, ground := .data } (by simp) rfl)
                          clear hh hd
                          have HN : Hid (Mz U u X len q (su L k ak) (if done d 5 7 then S.set (k : Int) 2 true false else S) ⟨nn, 0, 0, 0, 0⟩) := (by simpa [done] using hj : Mz U u X len q (su L k ak) (if done d 5 7 then S.set (k : Int) 2 true false else S) ⟨nn, 0, 0, 0, 0⟩)
                          clear hj hi
                          refine wpOp_step rfl (fun K hK => ?_)
                          go_simp
                          exact hK _ _ ⟨by simp [Act.put], HN.out⟩
                        | 6, ho, hi, hd =>
                          simp only [List.getElem?_cons_succ, List.getElem?_cons_zero, Option.some.injEq] at ho
                          subst ho
                          have g135 : a1.tmps[135]? = some (.pointer (some ⟨sb2, sx2 + k, none⟩)) := hh.did 5 _ 135 rfl rfl (hd { on := 5, ground := .data } (by simp) rfl)
                          have cb := HC1.out u (HKW.out _ _ _ _ hj)
                          clear hh hd
                          have HN : Hid (Mz U u X len q (su L k ak) (if done d 6 7 then S.set (k : Int) 2 true false else S) ⟨nn, 0, 0, 0, 0⟩) := (by simpa [done] using hj : Mz U u X len q (su L k ak) (if done d 6 7 then S.set (k : Int) 2 true false else S) ⟨nn, 0, 0, 0, 0⟩)
                          clear hj hi
                          refine wpOp_step rfl (fun K hK => ?_)
                          go_simp
                          exact hK _ _ ⟨by simp [Act.put], HN.out⟩
                        | 7, ho, hi, hd =>
                          simp only [List.getElem?_cons_succ, List.getElem?_cons_zero, Option.some.injEq] at ho
                          subst ho
                          have g131 : a1.tmps[131]? = some (.pointer (some ⟨X.tb, 0, none⟩)) := hh.did 1 _ 131 rfl rfl (hd { on := 1, ground := .data } (by simp) rfl)
                          have g132 : a1.tmps[132]? = some (.int .i64 (k : Int)) := hh.did 2 _ 132 rfl rfl (hd { on := 2, ground := .data } (by simp) rfl)
                          have g136 : a1.tmps[136]? = some (.bool false) := hh.did 6 _ 136 rfl rfl (hd { on := 6, ground := .data } (by simp) rfl)
                          have CA := HSet.out u (by have B := hj; simp only [hi, Bool.false_eq_true, if_false] at B; exact B)
                          clear hh hd
                          have HN : Hid (∀ u', Mz U u' X len q (su L k ak) (S.set (k : Int) 2 true false) ⟨nn, 0, 0, 0, 0⟩ → Mz U u' X len q (su L k ak) (if done d 7 7 then S.set (k : Int) 2 true false else S) ⟨nn, 0, 0, 0, 0⟩) := fun u' x => by simpa [done] using x
                          clear hj hi
                          refine wpOp_step rfl (fun K hK => ?_)
                          go_simp
                          refine CA.mono ?_
                          rintro e u' ⟨rfl, x⟩
                          exact hK _ _ ⟨by simp [Act.put], HN.out u' x⟩
                        | n + 8, ho, hi, hd => simp at ho
                      · intro u d hall hj
                        have HN2 : Hid (Mz U u X len q (su L k ak) (S.set (k : Int) 2 true false) ⟨nn, 0, 0, 0, 0⟩) := by
                          have B := hj
                          rw [hall 7 (by decide)] at B
                          exact B
                        clear hj hall
                        go_wp2_with fail
                        refine (CRf.out _).mono ?_
                        rintro e u ⟨rfl, rfl⟩
                        go_wp2_with fail
                        refine (CW.out _ _ _ (su L k (ak + 1)) _ _ (8 * n0 + ak) zr HN2.out (by omega) (by have := HBN.out; omega) (by have := HQK.out; omega) (fun j => by rw [← HG0.out]; exact su_word k ak (by rw [HLN.out]) j)).mono ?_
                        rintro e u ⟨rfl, hnew⟩
                        have HN3 : Hid (Mz U u X len _ (su L k (ak + 1)) _ ⟨nn, 0, 0, 0, 0⟩) := hnew
                        clear hnew HN2
                        have cs := HC0.out _ (HKW.out _ _ _ _ HN3.out)
                        go_wp2_with fail
                        refine (CWh.out _).mono ?_
                        rintro e u ⟨rfl, rfl⟩
                        clear cs
                        go_wp2_with fail
                        refine (CW.out _ _ _ (su L k (ak + 1 + 1)) _ _ (8 * n0 + ak + 1) zw HN3.out (by omega) (by have := HBN.out; omega) (by have := HQK.out; omega) (fun j => by rw [← HG1.out]; exact su_word k (ak + 1) (by rw [HLN.out]; omega) j)).mono ?_
                        rintro e u ⟨rfl, hnew⟩
                        have HN4 : Hid (Mz U u X len _ (su L k (ak + 1 + 1)) _ ⟨nn, 0, 0, 0, 0⟩) := hnew
                        clear hnew HN3
                        have ct := HC2.out _ (HKW.out _ _ _ _ HN4.out)
                        clear ct
                        have cs := HC0.out _ (HKW.out _ _ _ _ HN4.out)
                        have cb := HC1.out _ (HKW.out _ _ _ _ HN4.out)
                        have ct := HC2.out _ (HKW.out _ _ _ _ HN4.out)
                        go_wp2
                        go_roundg (l0 - (k + 1))
                        all_goals (first | (have := HE.out; omega) | exact ⟨k + 1, by rw [E1.out], by rw [E2.out], by go_num, by omega, by omega, by (have := E2.out; have := HQK.out; omega), q + 1 + 1, _, (by rw [HBL.out, ← su_none k _ HWK.out]; exact HN4.out), by (have := HQK.out; omega), HB.out⟩)
                    · have E2 : Hid (((L.tm (k + 1) : Nat) : Int) = (tk : Int) + (4)) := by
                        show _ = (_ : Int)
                        have := HTM.out k
                        rw [hb, ht] at this
                        have e : L.tm (k + 1) = L.tm k + (4) := by simpa using this
                        rw [e, ← HTKE.out]
                        (try rw [← HZK.out])
                        omega
                      have HB : Hid (Bk (S.set (k : Int) 2 true false) n0 (k + 1) L1) := by
                        have h := HBK.out.set (by have := HBN.out; omega)
                        rw [hb] at h
                        exact h
                      have HWK : Hid (cw (L.W k) = zt) := by
                        have := HWI.out k
                        rw [ht] at this
                        rw [this]
                        exact HZT.out.symm
                      rw [hb] at HC1
                      rw [ht] at HC2
                      obtain ⟨rb, hrb⟩ : ∃ rb, rb = (inn S.n (k : Int) && isSt 2) := ⟨_, rfl⟩
                      have HSet : Hid (∀ u, Mz U u X len q (su L k ak) S ⟨nn, 0, 0, 0, 0⟩ → Calls Try.prog 11 #[.pointer (some ⟨X.tb, 0, none⟩), .int .i64 k, .int .i64 2, .bool true, .bool false] u fun e w' => e = .returned (.bool rb) ∧ Mz U w' X len q (su L k ak) (S.set (k : Int) 2 true false) ⟨nn, 0, 0, 0, 0⟩) := fun u h => (Mz.set (k : Int) 2 true false h).mono fun _ _ ⟨h1, h2, _⟩ => ⟨by rw [h1, hrb], h2⟩
                      clear hb ht hrb
                      go_wp2_with fail
                      refine wp_region_phase [(.pointer (some ⟨X.sb, 0, none⟩)), (.pointer (some ⟨X.tb, 0, none⟩)), (.int .i64 (k : Int)), (.slice (some ⟨sb2, sx2, none⟩) l1 c1), (.int .i64 (k : Int)), (.pointer (some ⟨sb2, sx2 + k, none⟩)), (.bool false), (.bool rb)] [(130, 0), (131, 1), (132, 2), (133, 3), (134, 4), (135, 5), (136, 6), (137, 7)] [_, _, _, _, _, _, _, _, _, _, _, _, _, _, _, _, _, _, _, _, _, _, _, _, _, _, _, _, _, _, _, _, _, _, _, _, _, _, _, _, _, _, _, _, _, _, _, _, _, _, _, _, _, _, _, _, _, _, _, _, _, _, _, _, _, _, _, _, _, _, _, _, _, _, _, _, _, _, _, _, _, _, _, _, _, _, _, _, _, _, _, _, _, _, _, _, _, _, _, _, _, _, _, _, _, _, _, _, _, _, _, _, _, _, _, _, _, _, _, _, _, _, _, _, _, _, _, _, _, _, _, _, _, _, _, _, _, _, _, _, _, _, _, _, _, _, _, _, _, _, _, _, _, _, _, _, _, _, _, _, _, _, _, _, _, _, _, _, _, _, _, _, _, _, _, _, _, _, _, _, _, _, _, _, _, _, _, _, _, _, _, _, _, _, _, _, _, _, _, _, _, _, _, _, _, _, _, _, _, _, _, _, _, _, _, _, _, _, _, _, _, _, _, _, _, _, _, _, _, _, _, _, _, _, _, _, _, _, _, _, _, _] (fun d u => Mz U u X len q (su L k ak) (if d 7 then S.set (k : Int) 2 true false else S) ⟨nn, 0, 0, 0, 0⟩) (by kernel_rfl) (by kernel_rfl) (by kernel_rfl) (by kernel_rfl) rfl ?_ ?_ ?_
                      · exact (by simpa using HM.out.still (Kept.refl _).drew)
                      · intro i1 o ho a1 d u hh hj hi hd
                        match i1, ho, hi, hd with
                        | 0, ho, hi, hd =>
                          simp only [List.getElem?_cons_zero, Option.some.injEq] at ho
                          subst ho
                          have g12 : a1.tmps[12]? = some (.pointer (some ⟨X.sb, 0, none⟩)) := hh.old 12 (by kernel_rfl) rfl
                          clear hh hd
                          have HN : Hid (Mz U u X len q (su L k ak) (if done d 0 7 then S.set (k : Int) 2 true false else S) ⟨nn, 0, 0, 0, 0⟩) := (by simpa [done] using hj : Mz U u X len q (su L k ak) (if done d 0 7 then S.set (k : Int) 2 true false else S) ⟨nn, 0, 0, 0, 0⟩)
                          clear hj hi
                          refine wpOp_step rfl (fun K hK => ?_)
                          go_simp
                          exact hK _ _ ⟨by simp [Act.put], HN.out⟩
                        | 1, ho, hi, hd =>
                          simp only [List.getElem?_cons_succ, List.getElem?_cons_zero, Option.some.injEq] at ho
                          subst ho
                          have g130 : a1.tmps[130]? = some (.pointer (some ⟨X.sb, 0, none⟩)) := hh.did 0 _ 130 rfl rfl (hd { on := 0, ground := .data } (by simp) rfl)
                          have CA := CT.out u _ _ _ _ hj
                          clear hh hd
                          have HN : Hid (Mz U u X len q (su L k ak) (if done d 1 7 then S.set (k : Int) 2 true false else S) ⟨nn, 0, 0, 0, 0⟩) := (by simpa [done] using hj : Mz U u X len q (su L k ak) (if done d 1 7 then S.set (k : Int) 2 true false else S) ⟨nn, 0, 0, 0, 0⟩)
                          clear hj hi
                          refine wpOp_step rfl (fun K hK => ?_)
                          go_simp
                          refine CA.mono ?_
                          rintro e u' ⟨rfl, rfl⟩
                          exact hK _ _ ⟨by simp [Act.put], HN.out⟩
                        | 2, ho, hi, hd =>
                          simp only [List.getElem?_cons_succ, List.getElem?_cons_zero, Option.some.injEq] at ho
                          subst ho
                          have g19 : a1.tmps[19]? = some (.int .i64 (k : Int)) := hh.old 19 (by kernel_rfl) rfl
                          clear hh hd
                          have HN : Hid (Mz U u X len q (su L k ak) (if done d 2 7 then S.set (k : Int) 2 true false else S) ⟨nn, 0, 0, 0, 0⟩) := (by simpa [done] using hj : Mz U u X len q (su L k ak) (if done d 2 7 then S.set (k : Int) 2 true false else S) ⟨nn, 0, 0, 0, 0⟩)
                          clear hj hi
                          refine wpOp_step rfl (fun K hK => ?_)
                          go_simp
                          exact hK _ _ ⟨by simp [Act.put], HN.out⟩
                        | 3, ho, hi, hd =>
                          simp only [List.getElem?_cons_succ, List.getElem?_cons_zero, Option.some.injEq] at ho
                          subst ho
                          have g1 : a1.tmps[1]? = some (.slice (some ⟨sb2, sx2, none⟩) l1 c1) := hh.old 1 (by kernel_rfl) rfl
                          clear hh hd
                          have HN : Hid (Mz U u X len q (su L k ak) (if done d 3 7 then S.set (k : Int) 2 true false else S) ⟨nn, 0, 0, 0, 0⟩) := (by simpa [done] using hj : Mz U u X len q (su L k ak) (if done d 3 7 then S.set (k : Int) 2 true false else S) ⟨nn, 0, 0, 0, 0⟩)
                          clear hj hi
                          refine wpOp_step rfl (fun K hK => ?_)
                          go_simp
                          exact hK _ _ ⟨by simp [Act.put], HN.out⟩
                        | 4, ho, hi, hd =>
                          simp only [List.getElem?_cons_succ, List.getElem?_cons_zero, Option.some.injEq] at ho
                          subst ho
                          have g19 : a1.tmps[19]? = some (.int .i64 (k : Int)) := hh.old 19 (by kernel_rfl) rfl
                          clear hh hd
                          have HN : Hid (Mz U u X len q (su L k ak) (if done d 4 7 then S.set (k : Int) 2 true false else S) ⟨nn, 0, 0, 0, 0⟩) := (by simpa [done] using hj : Mz U u X len q (su L k ak) (if done d 4 7 then S.set (k : Int) 2 true false else S) ⟨nn, 0, 0, 0, 0⟩)
                          clear hj hi
                          refine wpOp_step rfl (fun K hK => ?_)
                          go_simp
                          exact hK _ _ ⟨by simp [Act.put], HN.out⟩
                        | 5, ho, hi, hd =>
                          simp only [List.getElem?_cons_succ, List.getElem?_cons_zero, Option.some.injEq] at ho
                          subst ho
                          have g133 : a1.tmps[133]? = some (.slice (some ⟨sb2, sx2, none⟩) l1 c1) := hh.did 3 _ 133 rfl rfl (hd { on := 3, ground := .data } (by simp) rfl)
                          have g134 : a1.tmps[134]? = some (.int .i64 (k : Int)) := hh.did 4 _ 134 rfl rfl (hd { on := 4, ground := .data } (by simp) rfl)
                          clear hh hd
                          have HN : Hid (Mz U u X len q (su L k ak) (if done d 5 7 then S.set (k : Int) 2 true false else S) ⟨nn, 0, 0, 0, 0⟩) := (by simpa [done] using hj : Mz U u X len q (su L k ak) (if done d 5 7 then S.set (k : Int) 2 true false else S) ⟨nn, 0, 0, 0, 0⟩)
                          clear hj hi
                          refine wpOp_step rfl (fun K hK => ?_)
                          go_simp
                          exact hK _ _ ⟨by simp [Act.put], HN.out⟩
                        | 6, ho, hi, hd =>
                          simp only [List.getElem?_cons_succ, List.getElem?_cons_zero, Option.some.injEq] at ho
                          subst ho
                          have g135 : a1.tmps[135]? = some (.pointer (some ⟨sb2, sx2 + k, none⟩)) := hh.did 5 _ 135 rfl rfl (hd { on := 5, ground := .data } (by simp) rfl)
                          have cb := HC1.out u (HKW.out _ _ _ _ hj)
                          clear hh hd
                          have HN : Hid (Mz U u X len q (su L k ak) (if done d 6 7 then S.set (k : Int) 2 true false else S) ⟨nn, 0, 0, 0, 0⟩) := (by simpa [done] using hj : Mz U u X len q (su L k ak) (if done d 6 7 then S.set (k : Int) 2 true false else S) ⟨nn, 0, 0, 0, 0⟩)
                          clear hj hi
                          refine wpOp_step rfl (fun K hK => ?_)
                          go_simp
                          exact hK _ _ ⟨by simp [Act.put], HN.out⟩
                        | 7, ho, hi, hd =>
                          simp only [List.getElem?_cons_succ, List.getElem?_cons_zero, Option.some.injEq] at ho
                          subst ho
                          have g131 : a1.tmps[131]? = some (.pointer (some ⟨X.tb, 0, none⟩)) := hh.did 1 _ 131 rfl rfl (hd { on := 1, ground := .data } (by simp) rfl)
                          have g132 : a1.tmps[132]? = some (.int .i64 (k : Int)) := hh.did 2 _ 132 rfl rfl (hd { on := 2, ground := .data } (by simp) rfl)
                          have g136 : a1.tmps[136]? = some (.bool false) := hh.did 6 _ 136 rfl rfl (hd { on := 6, ground := .data } (by simp) rfl)
                          have CA := HSet.out u (by have B := hj; simp only [hi, Bool.false_eq_true, if_false] at B; exact B)
                          clear hh hd
                          have HN : Hid (∀ u', Mz U u' X len q (su L k ak) (S.set (k : Int) 2 true false) ⟨nn, 0, 0, 0, 0⟩ → Mz U u' X len q (su L k ak) (if done d 7 7 then S.set (k : Int) 2 true false else S) ⟨nn, 0, 0, 0, 0⟩) := fun u' x => by simpa [done] using x
                          clear hj hi
                          refine wpOp_step rfl (fun K hK => ?_)
                          go_simp
                          refine CA.mono ?_
                          rintro e u' ⟨rfl, x⟩
                          exact hK _ _ ⟨by simp [Act.put], HN.out u' x⟩
                        | n + 8, ho, hi, hd => simp at ho
                      · intro u d hall hj
                        have HN2 : Hid (Mz U u X len q (su L k ak) (S.set (k : Int) 2 true false) ⟨nn, 0, 0, 0, 0⟩) := by
                          have B := hj
                          rw [hall 7 (by decide)] at B
                          exact B
                        clear hj hall
                        go_wp2_with fail
                        refine (CRf.out _).mono ?_
                        rintro e u ⟨rfl, rfl⟩
                        go_wp2_with fail
                        refine (CW.out _ _ _ (su L k (ak + 1)) _ _ (8 * n0 + ak) zr HN2.out (by omega) (by have := HBN.out; omega) (by have := HQK.out; omega) (fun j => by rw [← HG0.out]; exact su_word k ak (by rw [HLN.out]) j)).mono ?_
                        rintro e u ⟨rfl, hnew⟩
                        have HN3 : Hid (Mz U u X len _ (su L k (ak + 1)) _ ⟨nn, 0, 0, 0, 0⟩) := hnew
                        clear hnew HN2
                        have cs := HC0.out _ (HKW.out _ _ _ _ HN3.out)
                        go_wp2_with fail
                        refine (CWh.out _).mono ?_
                        rintro e u ⟨rfl, rfl⟩
                        clear cs
                        go_wp2_with fail
                        refine (CW.out _ _ _ (su L k (ak + 1 + 1)) _ _ (8 * n0 + ak + 1) zw HN3.out (by omega) (by have := HBN.out; omega) (by have := HQK.out; omega) (fun j => by rw [← HG1.out]; exact su_word k (ak + 1) (by rw [HLN.out]; omega) j)).mono ?_
                        rintro e u ⟨rfl, hnew⟩
                        have HN4 : Hid (Mz U u X len _ (su L k (ak + 1 + 1)) _ ⟨nn, 0, 0, 0, 0⟩) := hnew
                        clear hnew HN3
                        have ct := HC2.out _ (HKW.out _ _ _ _ HN4.out)
                        go_wp2_with fail
                        refine (CWt.out _).mono ?_
                        rintro e u ⟨rfl, rfl⟩
                        clear ct
                        go_wp2_with fail
                        refine (CW.out _ _ _ (su L (k + 1) (ak + 1 + 1)) _ _ (8 * k + 4) zt HN4.out (by omega) (by have := HBN.out; omega) (by have := HQK.out; omega) (fun j => by rw [← HWK.out]; exact su_sent k _ (by rw [HLN.out]; have := HBN.out; omega) rfl j)).mono ?_
                        rintro e u ⟨rfl, hnew⟩
                        have HN5 : Hid (Mz U u X len _ (su L (k + 1) (ak + 1 + 1)) _ ⟨nn, 0, 0, 0, 0⟩) := hnew
                        clear hnew HN4
                        have cs := HC0.out _ (HKW.out _ _ _ _ HN5.out)
                        have cb := HC1.out _ (HKW.out _ _ _ _ HN5.out)
                        have ct := HC2.out _ (HKW.out _ _ _ _ HN5.out)
                        go_wp2
                        go_roundg (l0 - (k + 1))
                        all_goals (first | (have := HE.out; omega) | exact ⟨k + 1, by rw [E1.out], by rw [E2.out], by go_num, by omega, by omega, by (have := E2.out; have := HQK.out; omega), q + 1 + 1 + 1, _, (by rw [HBL.out]; exact HN5.out), by (have := HQK.out; omega), HB.out⟩)
                  · cases ht : L2 k
                    · have E2 : Hid (((L.tm (k + 1) : Nat) : Int) = (tk : Int) + (5)) := by
                        show _ = (_ : Int)
                        have := HTM.out k
                        rw [hb, ht] at this
                        have e : L.tm (k + 1) = L.tm k + (5) := by simpa using this
                        rw [e, ← HTKE.out]
                        (try rw [← HZK.out])
                        omega
                      have HB : Hid (Bk (S.set (k : Int) 2 true true) n0 (k + 1) L1) := by
                        have h := HBK.out.set (by have := HBN.out; omega)
                        rw [hb] at h
                        exact h
                      have HWK : Hid (cw (L.W k) = cz) := by
                        have := HWI.out k
                        rw [ht] at this
                        rw [this]
                        exact cw_zero
                      rw [hb] at HC1
                      rw [ht] at HC2
                      obtain ⟨rb, hrb⟩ : ∃ rb, rb = (inn S.n (k : Int) && isSt 2) := ⟨_, rfl⟩
                      have HSet : Hid (∀ u, Mz U u X len q (su L k ak) S ⟨nn, 0, 0, 0, 0⟩ → Calls Try.prog 11 #[.pointer (some ⟨X.tb, 0, none⟩), .int .i64 k, .int .i64 2, .bool true, .bool true] u fun e w' => e = .returned (.bool rb) ∧ Mz U w' X len q (su L k ak) (S.set (k : Int) 2 true true) ⟨nn, 0, 0, 0, 0⟩) := fun u h => (Mz.set (k : Int) 2 true true h).mono fun _ _ ⟨h1, h2, _⟩ => ⟨by rw [h1, hrb], h2⟩
                      clear hb ht hrb
                      go_wp2_with fail
                      refine wp_region_phase [(.pointer (some ⟨X.sb, 0, none⟩)), (.pointer (some ⟨X.tb, 0, none⟩)), (.int .i64 (k : Int)), (.slice (some ⟨sb2, sx2, none⟩) l1 c1), (.int .i64 (k : Int)), (.pointer (some ⟨sb2, sx2 + k, none⟩)), (.bool true), (.bool rb)] [(130, 0), (131, 1), (132, 2), (133, 3), (134, 4), (135, 5), (136, 6), (137, 7)] [_, _, _, _, _, _, _, _, _, _, _, _, _, _, _, _, _, _, _, _, _, _, _, _, _, _, _, _, _, _, _, _, _, _, _, _, _, _, _, _, _, _, _, _, _, _, _, _, _, _, _, _, _, _, _, _, _, _, _, _, _, _, _, _, _, _, _, _, _, _, _, _, _, _, _, _, _, _, _, _, _, _, _, _, _, _, _, _, _, _, _, _, _, _, _, _, _, _, _, _, _, _, _, _, _, _, _, _, _, _, _, _, _, _, _, _, _, _, _, _, _, _, _, _, _, _, _, _, _, _, _, _, _, _, _, _, _, _, _, _, _, _, _, _, _, _, _, _, _, _, _, _, _, _, _, _, _, _, _, _, _, _, _, _, _, _, _, _, _, _, _, _, _, _, _, _, _, _, _, _, _, _, _, _, _, _, _, _, _, _, _, _, _, _, _, _, _, _, _, _, _, _, _, _, _, _, _, _, _, _, _, _, _, _, _, _, _, _, _, _, _, _, _, _, _, _, _, _, _, _, _, _, _, _, _, _, _, _, _, _, _, _] (fun d u => Mz U u X len q (su L k ak) (if d 7 then S.set (k : Int) 2 true true else S) ⟨nn, 0, 0, 0, 0⟩) (by kernel_rfl) (by kernel_rfl) (by kernel_rfl) (by kernel_rfl) rfl ?_ ?_ ?_
                      · exact (by simpa using HM.out.still (Kept.refl _).drew)
                      · intro i1 o ho a1 d u hh hj hi hd
                        match i1, ho, hi, hd with
                        | 0, ho, hi, hd =>
                          simp only [List.getElem?_cons_zero, Option.some.injEq] at ho
                          subst ho
                          have g12 : a1.tmps[12]? = some (.pointer (some ⟨X.sb, 0, none⟩)) := hh.old 12 (by kernel_rfl) rfl
                          clear hh hd
                          have HN : Hid (Mz U u X len q (su L k ak) (if done d 0 7 then S.set (k : Int) 2 true true else S) ⟨nn, 0, 0, 0, 0⟩) := (by simpa [done] using hj : Mz U u X len q (su L k ak) (if done d 0 7 then S.set (k : Int) 2 true true else S) ⟨nn, 0, 0, 0, 0⟩)
                          clear hj hi
                          refine wpOp_step rfl (fun K hK => ?_)
                          go_simp
                          exact hK _ _ ⟨by simp [Act.put], HN.out⟩
                        | 1, ho, hi, hd =>
                          simp only [List.getElem?_cons_succ, List.getElem?_cons_zero, Option.some.injEq] at ho
                          subst ho
                          have g130 : a1.tmps[130]? = some (.pointer (some ⟨X.sb, 0, none⟩)) := hh.did 0 _ 130 rfl rfl (hd { on := 0, ground := .data } (by simp) rfl)
                          have CA := CT.out u _ _ _ _ hj
                          clear hh hd
                          have HN : Hid (Mz U u X len q (su L k ak) (if done d 1 7 then S.set (k : Int) 2 true true else S) ⟨nn, 0, 0, 0, 0⟩) := (by simpa [done] using hj : Mz U u X len q (su L k ak) (if done d 1 7 then S.set (k : Int) 2 true true else S) ⟨nn, 0, 0, 0, 0⟩)
                          clear hj hi
                          refine wpOp_step rfl (fun K hK => ?_)
                          go_simp
                          refine CA.mono ?_
                          rintro e u' ⟨rfl, rfl⟩
                          exact hK _ _ ⟨by simp [Act.put], HN.out⟩
                        | 2, ho, hi, hd =>
                          simp only [List.getElem?_cons_succ, List.getElem?_cons_zero, Option.some.injEq] at ho
                          subst ho
                          have g19 : a1.tmps[19]? = some (.int .i64 (k : Int)) := hh.old 19 (by kernel_rfl) rfl
                          clear hh hd
                          have HN : Hid (Mz U u X len q (su L k ak) (if done d 2 7 then S.set (k : Int) 2 true true else S) ⟨nn, 0, 0, 0, 0⟩) := (by simpa [done] using hj : Mz U u X len q (su L k ak) (if done d 2 7 then S.set (k : Int) 2 true true else S) ⟨nn, 0, 0, 0, 0⟩)
                          clear hj hi
                          refine wpOp_step rfl (fun K hK => ?_)
                          go_simp
                          exact hK _ _ ⟨by simp [Act.put], HN.out⟩
                        | 3, ho, hi, hd =>
                          simp only [List.getElem?_cons_succ, List.getElem?_cons_zero, Option.some.injEq] at ho
                          subst ho
                          have g1 : a1.tmps[1]? = some (.slice (some ⟨sb2, sx2, none⟩) l1 c1) := hh.old 1 (by kernel_rfl) rfl
                          clear hh hd
                          have HN : Hid (Mz U u X len q (su L k ak) (if done d 3 7 then S.set (k : Int) 2 true true else S) ⟨nn, 0, 0, 0, 0⟩) := (by simpa [done] using hj : Mz U u X len q (su L k ak) (if done d 3 7 then S.set (k : Int) 2 true true else S) ⟨nn, 0, 0, 0, 0⟩)
                          clear hj hi
                          refine wpOp_step rfl (fun K hK => ?_)
                          go_simp
                          exact hK _ _ ⟨by simp [Act.put], HN.out⟩
                        | 4, ho, hi, hd =>
                          simp only [List.getElem?_cons_succ, List.getElem?_cons_zero, Option.some.injEq] at ho
                          subst ho
                          have g19 : a1.tmps[19]? = some (.int .i64 (k : Int)) := hh.old 19 (by kernel_rfl) rfl
                          clear hh hd
                          have HN : Hid (Mz U u X len q (su L k ak) (if done d 4 7 then S.set (k : Int) 2 true true else S) ⟨nn, 0, 0, 0, 0⟩) := (by simpa [done] using hj : Mz U u X len q (su L k ak) (if done d 4 7 then S.set (k : Int) 2 true true else S) ⟨nn, 0, 0, 0, 0⟩)
                          clear hj hi
                          refine wpOp_step rfl (fun K hK => ?_)
                          go_simp
                          exact hK _ _ ⟨by simp [Act.put], HN.out⟩
                        | 5, ho, hi, hd =>
                          simp only [List.getElem?_cons_succ, List.getElem?_cons_zero, Option.some.injEq] at ho
                          subst ho
                          have g133 : a1.tmps[133]? = some (.slice (some ⟨sb2, sx2, none⟩) l1 c1) := hh.did 3 _ 133 rfl rfl (hd { on := 3, ground := .data } (by simp) rfl)
                          have g134 : a1.tmps[134]? = some (.int .i64 (k : Int)) := hh.did 4 _ 134 rfl rfl (hd { on := 4, ground := .data } (by simp) rfl)
                          clear hh hd
                          have HN : Hid (Mz U u X len q (su L k ak) (if done d 5 7 then S.set (k : Int) 2 true true else S) ⟨nn, 0, 0, 0, 0⟩) := (by simpa [done] using hj : Mz U u X len q (su L k ak) (if done d 5 7 then S.set (k : Int) 2 true true else S) ⟨nn, 0, 0, 0, 0⟩)
                          clear hj hi
                          refine wpOp_step rfl (fun K hK => ?_)
                          go_simp
                          exact hK _ _ ⟨by simp [Act.put], HN.out⟩
                        | 6, ho, hi, hd =>
                          simp only [List.getElem?_cons_succ, List.getElem?_cons_zero, Option.some.injEq] at ho
                          subst ho
                          have g135 : a1.tmps[135]? = some (.pointer (some ⟨sb2, sx2 + k, none⟩)) := hh.did 5 _ 135 rfl rfl (hd { on := 5, ground := .data } (by simp) rfl)
                          have cb := HC1.out u (HKW.out _ _ _ _ hj)
                          clear hh hd
                          have HN : Hid (Mz U u X len q (su L k ak) (if done d 6 7 then S.set (k : Int) 2 true true else S) ⟨nn, 0, 0, 0, 0⟩) := (by simpa [done] using hj : Mz U u X len q (su L k ak) (if done d 6 7 then S.set (k : Int) 2 true true else S) ⟨nn, 0, 0, 0, 0⟩)
                          clear hj hi
                          refine wpOp_step rfl (fun K hK => ?_)
                          go_simp
                          exact hK _ _ ⟨by simp [Act.put], HN.out⟩
                        | 7, ho, hi, hd =>
                          simp only [List.getElem?_cons_succ, List.getElem?_cons_zero, Option.some.injEq] at ho
                          subst ho
                          have g131 : a1.tmps[131]? = some (.pointer (some ⟨X.tb, 0, none⟩)) := hh.did 1 _ 131 rfl rfl (hd { on := 1, ground := .data } (by simp) rfl)
                          have g132 : a1.tmps[132]? = some (.int .i64 (k : Int)) := hh.did 2 _ 132 rfl rfl (hd { on := 2, ground := .data } (by simp) rfl)
                          have g136 : a1.tmps[136]? = some (.bool true) := hh.did 6 _ 136 rfl rfl (hd { on := 6, ground := .data } (by simp) rfl)
                          have CA := HSet.out u (by have B := hj; simp only [hi, Bool.false_eq_true, if_false] at B; exact B)
                          clear hh hd
                          have HN : Hid (∀ u', Mz U u' X len q (su L k ak) (S.set (k : Int) 2 true true) ⟨nn, 0, 0, 0, 0⟩ → Mz U u' X len q (su L k ak) (if done d 7 7 then S.set (k : Int) 2 true true else S) ⟨nn, 0, 0, 0, 0⟩) := fun u' x => by simpa [done] using x
                          clear hj hi
                          refine wpOp_step rfl (fun K hK => ?_)
                          go_simp
                          refine CA.mono ?_
                          rintro e u' ⟨rfl, x⟩
                          exact hK _ _ ⟨by simp [Act.put], HN.out u' x⟩
                        | n + 8, ho, hi, hd => simp at ho
                      · intro u d hall hj
                        have HN2 : Hid (Mz U u X len q (su L k ak) (S.set (k : Int) 2 true true) ⟨nn, 0, 0, 0, 0⟩) := by
                          have B := hj
                          rw [hall 7 (by decide)] at B
                          exact B
                        clear hj hall
                        go_wp2_with fail
                        refine (CRf.out _).mono ?_
                        rintro e u ⟨rfl, rfl⟩
                        go_wp2_with fail
                        refine (CW.out _ _ _ (su L k (ak + 1)) _ _ (8 * n0 + ak) zr HN2.out (by omega) (by have := HBN.out; omega) (by have := HQK.out; omega) (fun j => by rw [← HG0.out]; exact su_word k ak (by rw [HLN.out]) j)).mono ?_
                        rintro e u ⟨rfl, hnew⟩
                        have HN3 : Hid (Mz U u X len _ (su L k (ak + 1)) _ ⟨nn, 0, 0, 0, 0⟩) := hnew
                        clear hnew HN2
                        have cs := HC0.out _ (HKW.out _ _ _ _ HN3.out)
                        go_wp2_with fail
                        refine (CWh.out _).mono ?_
                        rintro e u ⟨rfl, rfl⟩
                        clear cs
                        go_wp2_with fail
                        refine (CW.out _ _ _ (su L k (ak + 1 + 1)) _ _ (8 * n0 + ak + 1) zw HN3.out (by omega) (by have := HBN.out; omega) (by have := HQK.out; omega) (fun j => by rw [← HG1.out]; exact su_word k (ak + 1) (by rw [HLN.out]; omega) j)).mono ?_
                        rintro e u ⟨rfl, hnew⟩
                        have HN4 : Hid (Mz U u X len _ (su L k (ak + 1 + 1)) _ ⟨nn, 0, 0, 0, 0⟩) := hnew
                        clear hnew HN3
                        have ct := HC2.out _ (HKW.out _ _ _ _ HN4.out)
                        clear ct
                        have cs := HC0.out _ (HKW.out _ _ _ _ HN4.out)
                        have cb := HC1.out _ (HKW.out _ _ _ _ HN4.out)
                        have ct := HC2.out _ (HKW.out _ _ _ _ HN4.out)
                        go_wp2
                        go_roundg (l0 - (k + 1))
                        all_goals (first | (have := HE.out; omega) | exact ⟨k + 1, by rw [E1.out], by rw [E2.out], by go_num, by omega, by omega, by (have := E2.out; have := HQK.out; omega), q + 1 + 1, _, (by rw [HBL.out, ← su_none k _ HWK.out]; exact HN4.out), by (have := HQK.out; omega), HB.out⟩)
                    · have E2 : Hid (((L.tm (k + 1) : Nat) : Int) = (tk : Int) + (8 + 2 * (zk : Int))) := by
                        show _ = (_ : Int)
                        have := HTM.out k
                        rw [hb, ht] at this
                        have e : L.tm (k + 1) = L.tm k + (8 + 2 * zz k) := by simpa using this
                        rw [e, ← HTKE.out]
                        (try rw [← HZK.out])
                        omega
                      have HB : Hid (Bk (S.set (k : Int) 2 true true) n0 (k + 1) L1) := by
                        have h := HBK.out.set (by have := HBN.out; omega)
                        rw [hb] at h
                        exact h
                      have HWK : Hid (cw (L.W k) = zt) := by
                        have := HWI.out k
                        rw [ht] at this
                        rw [this]
                        exact HZT.out.symm
                      rw [hb] at HC1
                      rw [ht] at HC2
                      obtain ⟨rb, hrb⟩ : ∃ rb, rb = (inn S.n (k : Int) && isSt 2) := ⟨_, rfl⟩
                      have HSet : Hid (∀ u, Mz U u X len q (su L k ak) S ⟨nn, 0, 0, 0, 0⟩ → Calls Try.prog 11 #[.pointer (some ⟨X.tb, 0, none⟩), .int .i64 k, .int .i64 2, .bool true, .bool true] u fun e w' => e = .returned (.bool rb) ∧ Mz U w' X len q (su L k ak) (S.set (k : Int) 2 true true) ⟨nn, 0, 0, 0, 0⟩) := fun u h => (Mz.set (k : Int) 2 true true h).mono fun _ _ ⟨h1, h2, _⟩ => ⟨by rw [h1, hrb], h2⟩
                      clear hb ht hrb
                      go_wp2_with fail
                      refine wp_region_phase [(.pointer (some ⟨X.sb, 0, none⟩)), (.pointer (some ⟨X.tb, 0, none⟩)), (.int .i64 (k : Int)), (.slice (some ⟨sb2, sx2, none⟩) l1 c1), (.int .i64 (k : Int)), (.pointer (some ⟨sb2, sx2 + k, none⟩)), (.bool true), (.bool rb)] [(130, 0), (131, 1), (132, 2), (133, 3), (134, 4), (135, 5), (136, 6), (137, 7)] [_, _, _, _, _, _, _, _, _, _, _, _, _, _, _, _, _, _, _, _, _, _, _, _, _, _, _, _, _, _, _, _, _, _, _, _, _, _, _, _, _, _, _, _, _, _, _, _, _, _, _, _, _, _, _, _, _, _, _, _, _, _, _, _, _, _, _, _, _, _, _, _, _, _, _, _, _, _, _, _, _, _, _, _, _, _, _, _, _, _, _, _, _, _, _, _, _, _, _, _, _, _, _, _, _, _, _, _, _, _, _, _, _, _, _, _, _, _, _, _, _, _, _, _, _, _, _, _, _, _, _, _, _, _, _, _, _, _, _, _, _, _, _, _, _, _, _, _, _, _, _, _, _, _, _, _, _, _, _, _, _, _, _, _, _, _, _, _, _, _, _, _, _, _, _, _, _, _, _, _, _, _, _, _, _, _, _, _, _, _, _, _, _, _, _, _, _, _, _, _, _, _, _, _, _, _, _, _, _, _, _, _, _, _, _, _, _, _, _, _, _, _, _, _, _, _, _, _, _, _, _, _, _, _, _, _, _, _, _, _, _, _] (fun d u => Mz U u X len q (su L k ak) (if d 7 then S.set (k : Int) 2 true true else S) ⟨nn, 0, 0, 0, 0⟩) (by kernel_rfl) (by kernel_rfl) (by kernel_rfl) (by kernel_rfl) rfl ?_ ?_ ?_
                      · exact (by simpa using HM.out.still (Kept.refl _).drew)
                      · intro i1 o ho a1 d u hh hj hi hd
                        match i1, ho, hi, hd with
                        | 0, ho, hi, hd =>
                          simp only [List.getElem?_cons_zero, Option.some.injEq] at ho
                          subst ho
                          have g12 : a1.tmps[12]? = some (.pointer (some ⟨X.sb, 0, none⟩)) := hh.old 12 (by kernel_rfl) rfl
                          clear hh hd
                          have HN : Hid (Mz U u X len q (su L k ak) (if done d 0 7 then S.set (k : Int) 2 true true else S) ⟨nn, 0, 0, 0, 0⟩) := (by simpa [done] using hj : Mz U u X len q (su L k ak) (if done d 0 7 then S.set (k : Int) 2 true true else S) ⟨nn, 0, 0, 0, 0⟩)
                          clear hj hi
                          refine wpOp_step rfl (fun K hK => ?_)
                          go_simp
                          exact hK _ _ ⟨by simp [Act.put], HN.out⟩
                        | 1, ho, hi, hd =>
                          simp only [List.getElem?_cons_succ, List.getElem?_cons_zero, Option.some.injEq] at ho
                          subst ho
                          have g130 : a1.tmps[130]? = some (.pointer (some ⟨X.sb, 0, none⟩)) := hh.did 0 _ 130 rfl rfl (hd { on := 0, ground := .data } (by simp) rfl)
                          have CA := CT.out u _ _ _ _ hj
                          clear hh hd
                          have HN : Hid (Mz U u X len q (su L k ak) (if done d 1 7 then S.set (k : Int) 2 true true else S) ⟨nn, 0, 0, 0, 0⟩) := (by simpa [done] using hj : Mz U u X len q (su L k ak) (if done d 1 7 then S.set (k : Int) 2 true true else S) ⟨nn, 0, 0, 0, 0⟩)
                          clear hj hi
                          refine wpOp_step rfl (fun K hK => ?_)
                          go_simp
                          refine CA.mono ?_
                          rintro e u' ⟨rfl, rfl⟩
                          exact hK _ _ ⟨by simp [Act.put], HN.out⟩
                        | 2, ho, hi, hd =>
                          simp only [List.getElem?_cons_succ, List.getElem?_cons_zero, Option.some.injEq] at ho
                          subst ho
                          have g19 : a1.tmps[19]? = some (.int .i64 (k : Int)) := hh.old 19 (by kernel_rfl) rfl
                          clear hh hd
                          have HN : Hid (Mz U u X len q (su L k ak) (if done d 2 7 then S.set (k : Int) 2 true true else S) ⟨nn, 0, 0, 0, 0⟩) := (by simpa [done] using hj : Mz U u X len q (su L k ak) (if done d 2 7 then S.set (k : Int) 2 true true else S) ⟨nn, 0, 0, 0, 0⟩)
                          clear hj hi
                          refine wpOp_step rfl (fun K hK => ?_)
                          go_simp
                          exact hK _ _ ⟨by simp [Act.put], HN.out⟩
                        | 3, ho, hi, hd =>
                          simp only [List.getElem?_cons_succ, List.getElem?_cons_zero, Option.some.injEq] at ho
                          subst ho
                          have g1 : a1.tmps[1]? = some (.slice (some ⟨sb2, sx2, none⟩) l1 c1) := hh.old 1 (by kernel_rfl) rfl
                          clear hh hd
                          have HN : Hid (Mz U u X len q (su L k ak) (if done d 3 7 then S.set (k : Int) 2 true true else S) ⟨nn, 0, 0, 0, 0⟩) := (by simpa [done] using hj : Mz U u X len q (su L k ak) (if done d 3 7 then S.set (k : Int) 2 true true else S) ⟨nn, 0, 0, 0, 0⟩)
                          clear hj hi
                          refine wpOp_step rfl (fun K hK => ?_)
                          go_simp
                          exact hK _ _ ⟨by simp [Act.put], HN.out⟩
                        | 4, ho, hi, hd =>
                          simp only [List.getElem?_cons_succ, List.getElem?_cons_zero, Option.some.injEq] at ho
                          subst ho
                          have g19 : a1.tmps[19]? = some (.int .i64 (k : Int)) := hh.old 19 (by kernel_rfl) rfl
                          clear hh hd
                          have HN : Hid (Mz U u X len q (su L k ak) (if done d 4 7 then S.set (k : Int) 2 true true else S) ⟨nn, 0, 0, 0, 0⟩) := (by simpa [done] using hj : Mz U u X len q (su L k ak) (if done d 4 7 then S.set (k : Int) 2 true true else S) ⟨nn, 0, 0, 0, 0⟩)
                          clear hj hi
                          refine wpOp_step rfl (fun K hK => ?_)
                          go_simp
                          exact hK _ _ ⟨by simp [Act.put], HN.out⟩
                        | 5, ho, hi, hd =>
                          simp only [List.getElem?_cons_succ, List.getElem?_cons_zero, Option.some.injEq] at ho
                          subst ho
                          have g133 : a1.tmps[133]? = some (.slice (some ⟨sb2, sx2, none⟩) l1 c1) := hh.did 3 _ 133 rfl rfl (hd { on := 3, ground := .data } (by simp) rfl)
                          have g134 : a1.tmps[134]? = some (.int .i64 (k : Int)) := hh.did 4 _ 134 rfl rfl (hd { on := 4, ground := .data } (by simp) rfl)
                          clear hh hd
                          have HN : Hid (Mz U u X len q (su L k ak) (if done d 5 7 then S.set (k : Int) 2 true true else S) ⟨nn, 0, 0, 0, 0⟩) := (by simpa [done] using hj : Mz U u X len q (su L k ak) (if done d 5 7 then S.set (k : Int) 2 true true else S) ⟨nn, 0, 0, 0, 0⟩)
                          clear hj hi
                          refine wpOp_step rfl (fun K hK => ?_)
                          go_simp
                          exact hK _ _ ⟨by simp [Act.put], HN.out⟩
                        | 6, ho, hi, hd =>
                          simp only [List.getElem?_cons_succ, List.getElem?_cons_zero, Option.some.injEq] at ho
                          subst ho
                          have g135 : a1.tmps[135]? = some (.pointer (some ⟨sb2, sx2 + k, none⟩)) := hh.did 5 _ 135 rfl rfl (hd { on := 5, ground := .data } (by simp) rfl)
                          have cb := HC1.out u (HKW.out _ _ _ _ hj)
                          clear hh hd
                          have HN : Hid (Mz U u X len q (su L k ak) (if done d 6 7 then S.set (k : Int) 2 true true else S) ⟨nn, 0, 0, 0, 0⟩) := (by simpa [done] using hj : Mz U u X len q (su L k ak) (if done d 6 7 then S.set (k : Int) 2 true true else S) ⟨nn, 0, 0, 0, 0⟩)
                          clear hj hi
                          refine wpOp_step rfl (fun K hK => ?_)
                          go_simp
                          exact hK _ _ ⟨by simp [Act.put], HN.out⟩
                        | 7, ho, hi, hd =>
                          simp only [List.getElem?_cons_succ, List.getElem?_cons_zero, Option.some.injEq] at ho
                          subst ho
                          have g131 : a1.tmps[131]? = some (.pointer (some ⟨X.tb, 0, none⟩)) := hh.did 1 _ 131 rfl rfl (hd { on := 1, ground := .data } (by simp) rfl)
                          have g132 : a1.tmps[132]? = some (.int .i64 (k : Int)) := hh.did 2 _ 132 rfl rfl (hd { on := 2, ground := .data } (by simp) rfl)
                          have g136 : a1.tmps[136]? = some (.bool true) := hh.did 6 _ 136 rfl rfl (hd { on := 6, ground := .data } (by simp) rfl)
                          have CA := HSet.out u (by have B := hj; simp only [hi, Bool.false_eq_true, if_false] at B; exact B)
                          clear hh hd
                          have HN : Hid (∀ u', Mz U u' X len q (su L k ak) (S.set (k : Int) 2 true true) ⟨nn, 0, 0, 0, 0⟩ → Mz U u' X len q (su L k ak) (if done d 7 7 then S.set (k : Int) 2 true true else S) ⟨nn, 0, 0, 0, 0⟩) := fun u' x => by simpa [done] using x
                          clear hj hi
                          refine wpOp_step rfl (fun K hK => ?_)
                          go_simp
                          refine CA.mono ?_
                          rintro e u' ⟨rfl, x⟩
                          exact hK _ _ ⟨by simp [Act.put], HN.out u' x⟩
                        | n + 8, ho, hi, hd => simp at ho
                      · intro u d hall hj
                        have HN2 : Hid (Mz U u X len q (su L k ak) (S.set (k : Int) 2 true true) ⟨nn, 0, 0, 0, 0⟩) := by
                          have B := hj
                          rw [hall 7 (by decide)] at B
                          exact B
                        clear hj hall
                        go_wp2_with fail
                        refine (CRf.out _).mono ?_
                        rintro e u ⟨rfl, rfl⟩
                        go_wp2_with fail
                        refine (CW.out _ _ _ (su L k (ak + 1)) _ _ (8 * n0 + ak) zr HN2.out (by omega) (by have := HBN.out; omega) (by have := HQK.out; omega) (fun j => by rw [← HG0.out]; exact su_word k ak (by rw [HLN.out]) j)).mono ?_
                        rintro e u ⟨rfl, hnew⟩
                        have HN3 : Hid (Mz U u X len _ (su L k (ak + 1)) _ ⟨nn, 0, 0, 0, 0⟩) := hnew
                        clear hnew HN2
                        have cs := HC0.out _ (HKW.out _ _ _ _ HN3.out)
                        go_wp2_with fail
                        refine (CWh.out _).mono ?_
                        rintro e u ⟨rfl, rfl⟩
                        clear cs
                        go_wp2_with fail
                        refine (CW.out _ _ _ (su L k (ak + 1 + 1)) _ _ (8 * n0 + ak + 1) zw HN3.out (by omega) (by have := HBN.out; omega) (by have := HQK.out; omega) (fun j => by rw [← HG1.out]; exact su_word k (ak + 1) (by rw [HLN.out]; omega) j)).mono ?_
                        rintro e u ⟨rfl, hnew⟩
                        have HN4 : Hid (Mz U u X len _ (su L k (ak + 1 + 1)) _ ⟨nn, 0, 0, 0, 0⟩) := hnew
                        clear hnew HN3
                        have ct := HC2.out _ (HKW.out _ _ _ _ HN4.out)
                        go_wp2_with fail
                        refine (CWt.out _).mono ?_
                        rintro e u ⟨rfl, rfl⟩
                        clear ct
                        go_wp2_with fail
                        refine (CW.out _ _ _ (su L (k + 1) (ak + 1 + 1)) _ _ (8 * k + 4) zt HN4.out (by omega) (by have := HBN.out; omega) (by have := HQK.out; omega) (fun j => by rw [← HWK.out]; exact su_sent k _ (by rw [HLN.out]; have := HBN.out; omega) rfl j)).mono ?_
                        rintro e u ⟨rfl, hnew⟩
                        have HN5 : Hid (Mz U u X len _ (su L (k + 1) (ak + 1 + 1)) _ ⟨nn, 0, 0, 0, 0⟩) := hnew
                        clear hnew HN4
                        have cs := HC0.out _ (HKW.out _ _ _ _ HN5.out)
                        have cb := HC1.out _ (HKW.out _ _ _ _ HN5.out)
                        have ct := HC2.out _ (HKW.out _ _ _ _ HN5.out)
                        go_wp2
                        go_roundg (l0 - (k + 1))
                        all_goals (first | (have := HE.out; omega) | exact ⟨k + 1, by rw [E1.out], by rw [E2.out], by go_num, by omega, by omega, by (have := E2.out; have := HQK.out; omega), q + 1 + 1 + 1, _, (by rw [HBL.out]; exact HN5.out), by (have := HQK.out; omega), HB.out⟩)
                · obtain rfl : l0 = k := by omega
                  obtain ⟨htk, q, S, hMz, hq, hBk⟩ := HH.out
                  clear HH HE hk hlt
                  have hlpos : 0 < l0 := by
                    have h := HNN.out
                    rcases Nat.eq_zero_or_pos l0 with e | e
                    · rw [e] at h
                      exact absurd h hn0
                    · exact e
                  have hT4 : 4 ≤ L.tm l0 := by
                    have hN : L.N = l0 := by rw [HL.out]; rfl
                    have h := tm_pos (L := L) (by rw [hN]; exact hlpos)
                    rwa [hN] at h
                  obtain ⟨T, hT⟩ : ∃ T, T = L.tm l0 := ⟨_, rfl⟩
                  rw [← hT] at hT4 htk ⊢
                  have HTT : Hid (T = L.tm L.N) := by rw [HL.out] at hT ⊢; exact hT
                  have HMz : Hid (Mz U wr X len q (L.mem 0 0) S ⟨nn, 0, 0, 0, 0⟩) := by
                    have e : su L l0 (Aof zz l0) = L.mem 0 0 := by
                      rw [HL.out]
                      exact su_end rfl fun _ => rfl
                    rw [← e]
                    exact hMz
                  have HBk : Hid (Bk S n0 l0 L1 ∧ q ≤ 3 * l0) := ⟨hBk, hq⟩
                  clear hT hMz hBk hq
                  obtain ⟨tA, htA⟩ : ∃ tA, tA = takeA ⟨nn, 0, 0, 0, 0⟩ (nn : Int) := ⟨_, rfl⟩
                  have hks := ks_turn nn (by omega)
                  have CTk : Hid (Calls Try.prog 15 #[.pointer (some ⟨X.kb, 0, none⟩), .int .i64 nn] wr fun e w' => e = .returned (.tuple #[.int .i64 tA, .bool true]) ∧ Mz U w' X len q (L.mem 0 0) S (takeS ⟨nn, 0, 0, 0, 0⟩ (nn : Int))) := by
                    refine (HMz.out.take (nn : Int)).mono fun _ _ ⟨h1, h2, _⟩ => ⟨?_, h2⟩
                    rw [h1, hks.1, htA]
                  clear htA
                  go_wp2_with fail
                  refine CTk.out.mono ?_
                  rintro e u1 ⟨rfl, h1⟩
                  have H1 : Hid (Mz U u1 X len q (L.mem 0 0) S (takeS ⟨nn, 0, 0, 0, 0⟩ (nn : Int))) := h1
                  clear h1 CTk HMz
                  have CTn : Hid (Calls Try.prog 16 #[.pointer (some ⟨X.kb, 0, none⟩)] u1 fun e w' => e = .returned (.bool true) ∧ Mz U w' X len q (L.mem 0 0) S ⟨nn, 1, nn, nn, 0⟩) := by
                    refine H1.out.turn.mono fun _ _ ⟨h1, h2, _⟩ => ⟨?_, ?_⟩
                    · rw [h1, hks.2.1]
                    · rw [hks.2.2] at h2
                      exact h2
                  clear hks
                  go_wp2_with fail
                  refine CTn.out.mono ?_
                  rintro e u2 ⟨rfl, h2⟩
                  have H2 : Hid (Mz U u2 X len q (L.mem 0 0) S ⟨nn, 1, nn, nn, 0⟩) := h2
                  clear h2 CTn H1
                  have hcb := HU.out.2.1.kept H2.out.kept
                  have c0 := hcb.at 0 rfl
                  have c1 := hcb.at 1 rfl
                  have c2 := hcb.at 2 rfl
                  have c3 := hcb.at 3 rfl
                  have c4 := hcb.at 4 rfl
                  have c5 := hcb.at 5 rfl
                  have c6 := hcb.at 6 rfl
                  have c7 := hcb.at 7 rfl
                  have c8 := hcb.at 8 rfl
                  clear hcb
                  have CN : Hid (Calls Try.prog 17 #[.agg #[.int .i64 n0, .int .i64 nn, .int .i64 0, .int .i64 1, .int .i64 1, .int .i64 0, .int .i64 1, .int .i64 0, .slice (some ⟨W0.heap.size, 0, none⟩) 1 1], .int .i64 0, .int .i64 nn, .bool true] u2 _) := hnew_some n0 nn 0 1 1 0 1 0 _ 1 1 F0 (fun _ _ => false) 0 nn true u2 (HU.out.2.2.kept H2.out.kept) (fun i hi h => absurd h (by simp [F0])) HG.out (.inl rfl) (by omega) hnq
                  go_wp2_with fail
                  refine CN.out.mono ?_
                  rintro e u3 ⟨p, E, rfl, hs, hp, hk, hE⟩
                  have HR0 : Hid (Rz L U X len p E q 0 0 u3 ∧ Env L E len) := by
                    have e1 : L.n = nn := by rw [HL.out, HNN.out]; rfl
                    have e2 : L.fr = 0 := by rw [HL.out]; rfl
                    refine ⟨Rz.begin H2.out (by rw [e1, e2]; exact hs) hp hk rfl ?_ ?_ (Nat.le_refl _) (by rw [HBk.out.1.c]; exact Nat.le_refl _) ?_, ?_⟩
                    · rw [HL.out, Lp_k0, ← HNN.out]
                    · rw [HL.out]
                      exact hlpos
                    · intro i hi
                      have hi2 : i < l0 := by rw [HL.out] at hi; exact hi
                      rw [HBk.out.1.bk i hi2, HL.out]
                      rfl
                    · rw [HL.out]
                      exact Lt_env (.inl rfl) (by have := HBN.out; omega) (by have := HBN.out; omega) (by rw [← HNN.out]; have := HBN.out; omega) (by rw [← HNN.out]; exact hE) (by rw [← HNN.out]; exact hlen)
                  clear hs hp hk hE CN c0 c1 c2 c3 c4 c5 c6 c7 c8 H2
                  go_wp2
                  go_loopg [21] T (fun m t wr => ∃ tt : Nat, t = .int .i64 tt ∧ tt ≤ T ∧ m = T - tt ∧ Hid (Rz L U X len p E q 0 tt wr))
                  case atStart => exact ⟨0, rfl, by omega, by omega, HR0.out.1⟩
                  case round =>
                    obtain ⟨tt, rfl, htt, hm, HR⟩ := hrel
                    have HE : Hid _ := hm
                    clear hm
                    by_cases hlt : tt < T
                    · have CD : Hid (Calls Try.prog 18 #[.pointer (some ⟨p, 0, none⟩)] wr fun e w' => e = .returned (.bool false) ∧ w' = wr) := by
                        have := HR.out.done
                        rwa [← HTT.out, decide_eq_false (by omega)] at this
                      obtain ⟨an, han⟩ : ∃ an, an = decide (tt + 1 = T) := ⟨_, rfl⟩
                      have CS : Hid (Calls Try.prog 19 #[.pointer (some ⟨p, 0, none⟩), .pointer (some ⟨X.M, 0, none⟩), .pointer (some ⟨X.sb, 0, none⟩), .pointer (some ⟨X.kb, 0, none⟩)] wr fun e w' => e = .returned (.bool an) ∧ Rz L U X len p E q 0 (tt + 1) w') := by
                        refine (HR.out.step HR0.out.2 (by rw [← HTT.out]; exact hlt) (by have := HBk.out.2; omega) (by omega)).mono fun _ _ ⟨h1, h2, _⟩ => ⟨?_, h2⟩
                        rw [h1, ← HTT.out, han]
                      clear han
                      go_wp2_with fail
                      refine CD.out.mono ?_
                      rintro e u4 ⟨rfl, rfl⟩
                      go_wp2_with fail
                      refine CS.out.mono ?_
                      rintro e u5 ⟨rfl, hR5⟩
                      have HR5 : Hid (Rz L U X len p E q 0 (tt + 1) u5) := hR5
                      clear hR5 CS CD HR
                      go_wp2
                      go_roundg (T - (tt + 1))
                      case measure => have := HE.out; omega
                      case rel => exact ⟨tt + 1, by go_num, by omega, by omega, HR5.out⟩
                    · obtain rfl : tt = T := by omega
                      have CD : Hid (∀ u, Kept wr u → Calls Try.prog 18 #[.pointer (some ⟨p, 0, none⟩)] u fun e w' => e = .returned (.bool true) ∧ w' = u) := fun u k => by
                        have := (HR.out.still k).done
                        rwa [decide_eq_true HTT.out] at this
                      have CP : Hid (∀ u, Kept wr u → Calls Try.prog 28 #[.pointer (some ⟨p, 0, none⟩)] u fun e w' => e = .returned (.int .i64 (tt : Int)) ∧ w' = u) := fun u k => (HR.out.still k).steps
                      have CE : Hid (∀ u, Kept wr u → Calls Try.prog 23 #[.pointer (some ⟨p, 0, none⟩)] u fun e w' => e = .returned (.int .i64 0) ∧ w' = u) := fun u k => (HR.out.still k).errno
                      have HKU : Hid (∀ u, Kept wr u → Kept w u) := fun u k => (HU.out.1.trans HR.out.kept).trans k
                      have CD0 : Hid (Calls Try.prog 18 #[.pointer (some ⟨p, 0, none⟩)] wr _) := CD.out wr (Kept.refl _)
                      go_wp2_with fail
                      refine CD0.out.mono ?_
                      rintro e u4 ⟨rfl, rfl⟩
                      clear CD0
                      go_wp2_with fail
                      refine (first_any _).mono ?_
                      rintro e u5 ⟨rfl, K5⟩
                      have HK5 : Hid (Kept u4 u5) := K5
                      clear K5
                      go_wp2_with fail
                      refine (CD.out _ HK5.out).mono ?_
                      rintro e u6 ⟨rfl, rfl⟩
                      go_wp2_with fail
                      refine (CP.out _ HK5.out).mono ?_
                      rintro e u7 ⟨rfl, rfl⟩
                      go_wp2_with fail
                      refine (CE.out _ HK5.out).mono ?_
                      rintro e u8 ⟨rfl, rfl⟩
                      go_wp2
                      go_ret
                      exact ⟨rfl, HKU.out _ HK5.out⟩
end Go.Proofs.Ytgnikgkpbibmgaa
