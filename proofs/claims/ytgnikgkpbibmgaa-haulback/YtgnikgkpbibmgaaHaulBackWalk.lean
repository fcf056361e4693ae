/-
  The walk of HaulBack.
-/
import Derived.Test.YtgnikgkpbibmgaaHaR
import Derived.Test.YtgnikgkpbibmgaaBools16
namespace Go.Proofs.Ytgnikgkpbibmgaa
open Go.RowKit

set_option maxRecDepth 20000 in
set_option maxHeartbeats 16000000 in
theorem haulBack_any (x0 : Option Addr) (l0 c0 : Nat) (L0 : Nat → Int) (w : World) (_h0c : l0 ≤ c0) (hL0 : Ints w x0 l0 L0) (_hB0 : ∀ i, i < l0 → IntKind.min .i64 ≤ L0 i ∧ L0 i ≤ IntKind.max .i64) :
    Calls Try.prog 5 #[.slice x0 l0 c0] w fun e w' => e = .returned (.bool true) ∧ Kept w w' := by
  have HS0 : Hid (Rdv w x0 l0 (fun i => .int .i64 (L0 i))) := fun h => hL0.at h
  clear hL0
  obtain ⟨zz, hzz⟩ : ∃ zz : Nat → Nat, zz = fun i => (L0 i).toNat := ⟨_, rfl⟩
  have HZZ : Hid (zz = fun i => (L0 i).toNat) := hzz
  clear hzz
  go_enter Try.func5, Try.ntmps5
  go_wp2_with fail
  refine (first_any _).mono ?_
  rintro e w1 ⟨rfl, K1⟩
  have HK1 : Hid (Kept w w1) := K1
  clear K1
  go_wp2
  go_loopg [5, 3] l0 (fun m i nn wr => ∃ k : Nat, i = .int .i64 k ∧ nn = .int .i64 (Aof zz k : Int) ∧ k ≤ l0 ∧ k ≤ 60 ∧ m = l0 - k ∧ Hid (Kept w wr ∧ ∀ j, j < k → L0 j = (zz j : Int) ∧ zz j ≤ 64))
  case atStart => exact ⟨0, rfl, rfl, by omega, by omega, by omega, HK1.out, fun j hj => absurd hj (Nat.not_lt_zero _)⟩
  case round =>
    obtain ⟨k, rfl, rfl, hk, hk60, hm, HK⟩ := hrel
    have HE : Hid _ := hm
    have HAk : Hid (Aof zz k ≤ 66 * k) := by
      have key : ∀ i, i ≤ k → Aof zz i ≤ 66 * i := by
        intro i
        induction i with
        | zero => intro _; exact Nat.le_refl _
        | succ i ih =>
          intro hi
          have h1 := ih (by omega)
          have h2 := (HK.out.2 i (by omega)).2
          simp only [Aof]
          omega
      exact key k (Nat.le_refl _)
    clear hm
    by_cases hlt : k < l0
    · by_cases h60 : k < 60
      · obtain ⟨sb, sx, hx, hsb, hsc⟩ := HS0.out (by omega)
        have cs := (HK.out.1.cell hsb).trans (hsc k hlt)
        simp only [] at cs
        have HX : Hid (x0 = some ⟨sb, sx, none⟩) := hx
        subst hx
        clear hsb hsc
        have ha := HAk.out
        obtain ⟨ak, hak⟩ : ∃ ak, ak = Aof zz k := ⟨_, rfl⟩
        rw [← hak] at ha ⊢
        have HAK : Hid (ak = Aof zz k) := hak
        clear hak
        obtain ⟨s, hs⟩ : ∃ s, s = L0 k := ⟨_, rfl⟩
        rw [← hs] at cs
        have HSK : Hid (s = L0 k) := hs
        clear hs
        by_cases hneg : s < 0
        · go_wp2_with fail
          refine (first_any _).mono ?_
          rintro e wf ⟨rfl, Kf⟩
          have HKF : Hid (Kept w wf) := HK.out.1.trans Kf
          clear Kf
          go_wp2
          go_ret
          exact ⟨rfl, HKF.out⟩
        · by_cases hbig : 64 < s
          · go_wp2_with fail
            refine (first_any _).mono ?_
            rintro e wf ⟨rfl, Kf⟩
            have HKF : Hid (Kept w wf) := HK.out.1.trans Kf
            clear Kf
            go_wp2
            go_ret
            exact ⟨rfl, HKF.out⟩
          · have h0 : 0 ≤ s := by omega
            have h1 : s ≤ 64 := by omega
            clear hneg hbig
            go_wp2
            go_roundg (l0 - (k + 1))
            case measure => have := HE.out; omega
            case rel =>
              have hz : zz k = s.toNat := by rw [HZZ.out, HSK.out]
              refine ⟨k + 1, by go_num, ?_, by omega, by omega, by omega, HK.out.1, fun j hj => ?_⟩
              · have e : ((Aof zz (k + 1) : Nat) : Int) = (ak : Int) + 2 + s := by
                  simp only [Aof]
                  rw [← HAK.out, hz]
                  omega
                rw [e]
              · by_cases q : j = k
                · subst q
                  rw [hz, ← HSK.out]
                  omega
                · exact HK.out.2 j (by omega)
      · obtain rfl : k = 60 := by omega
        have ha := HAk.out
        generalize Aof zz 60 = ak at *
        go_wp2_with fail
        refine (first_any _).mono ?_
        rintro e wf ⟨rfl, Kf⟩
        have HKF : Hid (Kept w wf) := HK.out.1.trans Kf
        clear Kf
        go_wp2
        go_ret
        exact ⟨rfl, HKF.out⟩
    · obtain rfl : l0 = k := by omega
      have ha := HAk.out
      have HZ : Hid (∀ j, j < l0 → L0 j = (zz j : Int) ∧ zz j ≤ 64) := HK.out.2
      have HKA : Hid (Kept w wr) := HK.out.1
      clear HE HK HAk hlt hk
      obtain ⟨nn, hnn⟩ : ∃ nn, nn = Aof zz l0 := ⟨_, rfl⟩
      rw [← hnn] at ha ⊢
      have HNN : Hid (nn = Aof zz l0) := hnn
      clear hnn
      obtain ⟨W0, rfl⟩ : ∃ W0, W0 = wr := ⟨_, rfl⟩
      by_cases hn : 2000 < nn
      · go_wp2_with fail
        refine (first_any _).mono ?_
        rintro e wf ⟨rfl, Kf⟩
        have HKF : Hid (Kept w wf) := HKA.out.trans Kf
        clear Kf
        go_wp2
        go_ret
        exact ⟨rfl, HKF.out⟩
      · by_cases hn0 : nn = 0
        · subst hn0
          go_wp2_with fail
          refine (first_any _).mono ?_
          rintro e wf ⟨rfl, Kf⟩
          have HKF : Hid (Kept w wf) := HKA.out.trans Kf
          clear Kf
          go_wp2
          go_ret
          exact ⟨rfl, HKF.out⟩
        · have hnq : ((nn : Int) == 0) = false := by simpa using hn0
          have hnq2 : (nn == 0) = false := by simpa using hn0
          have hnp : 0 < nn := by omega
          have hmk := run_make_row' (P := Try.prog) 23 4 (.bool false) 1 Try.underlying23 info_bool rfl .i64 .i64 l0 (by omega) (by omega)
          obtain ⟨n0, hx1, hx2, h4, hln, hn60⟩ : ∃ n0 : Nat, (if (4 : Int) > (l0 : Int) then (4 : Int) else (l0 : Int)) = (n0 : Int) ∧ (if (l0 : Int) < 4 then (4 : Int) else (l0 : Int)) = (n0 : Int) ∧ 4 ≤ n0 ∧ l0 ≤ n0 ∧ n0 ≤ 60 := by
            by_cases h : l0 < 4
            · exact ⟨4, by rw [if_pos (by omega)]; rfl, by rw [if_pos (by omega)]; rfl, by omega, by omega, by omega⟩
            · exact ⟨l0, by rw [if_neg (by omega)], by rw [if_neg (by omega)], by omega, by omega, by omega⟩
          have HG : Hid (Good (n0 : Int) (nn : Int) 0 1 1 0 1 0 1 F0) := good17 n0 nn (by omega) (by omega)
          have HBN : Hid (4 ≤ n0 ∧ l0 ≤ n0 ∧ n0 ≤ 60 ∧ nn ≤ 2000) := ⟨h4, hln, hn60, by omega⟩
          go_wp2_with fail
          clear hx1 hx2
          generalize hW1 : W0.alloc (Obj.cells #[Value.bool false, Value.slice none 0 0] _) = W1
          have S1 : Shps W1 (some ⟨W0.heap.size, 0, none⟩) 1 F0 := by
            rw [← hW1]
            exact shps_one ⟨false, none, 0, 0⟩ (by simp) (by simp) (by simp)
          have k1 : Kept W0 W1 := by rw [← hW1]; exact (Kept.refl W0).alloc _ _
          have z1 : W1.heap.size = W0.heap.size + 1 := by rw [← hW1]; simp
          clear hW1
          generalize hW2 : W1.alloc _ = U
          have k2 : Kept W1 U := by rw [← hW2]; exact (Kept.refl W1).alloc _ _
          have b2 : Blk U (W0.heap.size + 1) (cl n0 nn 0 1 1 0 1 0 (.slice (some ⟨W0.heap.size, 0, none⟩) 1 1)) := by rw [← hW2, ← z1]; exact Blk.new W1 _ _
          clear hW2
          have HU : Hid (Kept w U ∧ Blk U (W0.heap.size + 1) (cl n0 nn 0 1 1 0 1 0 (.slice (some ⟨W0.heap.size, 0, none⟩) 1 1)) ∧ Shps U (some ⟨W0.heap.size, 0, none⟩) 1 F0) := ⟨(HKA.out.trans k1).trans k2, b2, S1.kept k2⟩
          clear S1 k1 z1 k2 b2
          obtain ⟨len, hlen⟩ : ∃ len : Nat, 8 * n0 + 2 * nn = len := ⟨_, rfl⟩
          have CF : Hid (Calls Try.prog 7 #[.agg #[.int .i64 n0, .int .i64 nn, .int .i64 0, .int .i64 1, .int .i64 1, .int .i64 0, .int .i64 1, .int .i64 0, .slice (some ⟨W0.heap.size, 0, none⟩) 1 1], .slice none 0 0] U _) := fill_nil n0 nn 0 1 1 0 1 0 _ 1 1 F0 len U HU.out.2.2 (by
            have e : 8 * (n0 : Int) + 2 * (nn : Int) + 0 = (len : Int) := by omega
            rw [e]
            exact Is.is _ HG.out) (by omega)
          refine CF.out.mono ?_
          rintro e V ⟨b, M, rfl, hM, K4, hb, hMb⟩
          have HV : Hid (Kept U V ∧ Mm V b M len (fun _ => cz) 0 ∧ U.heap.size ≤ M ∧ U.heap.size ≤ b) := ⟨K4, hM, hMb, hb⟩
          clear K4 hM hb hMb CF
          have c0 : V.cell? ⟨W0.heap.size + 1, 0, none⟩ = some (.int .i64 (n0 : Int)) := (HU.out.2.1.kept HV.out.1).at 0 rfl
          have C1 : Hid (Calls Try.prog 8 #[.int .i64 n0, .int .i64 1] V _) := mh_new n0 HV.out.1 HV.out.2.1 HV.out.2.2.1 HV.out.2.2.2 (by omega)
          go_wp2_with fail
          refine C1.out.mono ?_
          rintro e W ⟨sb, tb, g, pb, v, rfl, HMh⟩
          have H2 : Hid (Mh U W b M sb tb g pb v len 0 (fun _ => cz) (ShS.new n0 1)) := HMh
          clear HMh HV C1 c0
          have C2 : Hid (Calls Try.prog 9 #[.int .i64 nn] W fun e w' => ∃ kb, e = .returned (.tuple #[.pointer (some ⟨kb, 0, none⟩), .int .i64 0]) ∧ Mz U w' ⟨b, M, kb, sb, tb, g, pb, v⟩ len 0 (fun _ => cz) (ShS.new n0 1) ⟨nn, 0, 0, 0, 0⟩) := mz_new nn H2.out (by omega)
          go_wp2_with fail
          refine C2.out.mono ?_
          rintro e W3 ⟨kb, rfl, HZ3⟩
          obtain ⟨X, hXM, hXk, hXs, hXt, hX3⟩ : ∃ X : Bl, X.M = M ∧ X.kb = kb ∧ X.sb = sb ∧ X.tb = tb ∧ Mz U W3 X len 0 (fun _ => cz) (ShS.new n0 1) ⟨nn, 0, 0, 0, 0⟩ := ⟨_, rfl, rfl, rfl, rfl, HZ3⟩
          clear HZ3 C2 H2
          subst hXM hXk hXs hXt
          have H3 : Hid (Mz U W3 X len 0 (fun _ => cz) (ShS.new n0 1) ⟨nn, 0, 0, 0, 0⟩) := hX3
          clear hX3
          have CT : Hid (∀ u q F S K, Mz U u X len q F S K → Calls Try.prog 10 #[.pointer (some ⟨X.sb, 0, none⟩)] u fun e w' => e = .returned (.pointer (some ⟨X.tb, 0, none⟩)) ∧ w' = u) := fun u q F S K h => h.table
          go_wp2_with fail
          refine (CT.out _ _ _ _ _ H3.out).mono ?_
          rintro e W4 ⟨rfl, rfl⟩
          have c0 : W4.cell? ⟨W0.heap.size + 1, 0, none⟩ = some (.int .i64 (n0 : Int)) := (HU.out.2.1.kept H3.out.kept).at 0 rfl
          go_wp2_with fail
          go_region
          clear c0
          go_wp2
          clear hmk
          obtain ⟨L, hL⟩ : ∃ L : Pl, L = (Lp l0 zz (fun _ => true) (Wt zz (fun _ => true) 0 n0) slR n0) := ⟨_, rfl⟩
          have HL : Hid (L = (Lp l0 zz (fun _ => true) (Wt zz (fun _ => true) 0 n0) slR n0)) := hL
          have HWI : Hid (∀ i, L.W i = ((8 * n0 + Aof zz i : Nat) : Int)) := fun i => by rw [hL]; rfl
          have HGI : Hid (∀ i c, i < l0 → c < zz i + 2 → L.G (Aof zz i + c) = wordAt zz slR i c) := fun i c hi hc => by rw [hL]; exact Lp_G hi hc
          have HLN : Hid (L.n0 = n0) := by rw [hL]; rfl
          clear hL
          have HA : Hid (∀ i, i < l0 → Aof zz i + (zz i + 2) ≤ nn) := fun i hi => by rw [HNN.out]; exact Aof_step zz hi
          obtain ⟨ab, hab⟩ : ∃ ab, ab = W4.heap.size := ⟨_, rfl⟩
          rw [← hab]
          have HM0 : Hid (Mr U (W4.alloc (.cells (madeCells #[.bool false] l0) 4)) X len 0 (fun _ => cz) (ShS.new n0 1) ⟨nn, 0, 0, 0, 0⟩ ab l0 (fun _ => false)) := by rw [hab]; exact Mr.begin H3.out l0
          clear hab
          go_loopg [12, 15] l0 (fun m at' i wr => ∃ k : Nat, at' = .int .i64 (Aof zz k : Int) ∧ i = .int .i64 k ∧ k ≤ l0 ∧ m = l0 - k ∧ Hid (∃ q S, Mr U wr X len q (su L k (Aof zz k)) S ⟨nn, 0, 0, 0, 0⟩ ab l0 (fun i => decide (i < k)) ∧ q ≤ 70 * k ∧ Bk S n0 k (fun _ => true)))
          case atStart => exact ⟨0, rfl, rfl, by omega, by omega, 0, ShS.new n0 1, by rw [show su L 0 (Aof zz 0) = fun _ => cz from su_zero.symm]; exact (HM0.out.still (Kept.refl _).drew), by omega, Bk.new n0 _⟩
          case round =>
            obtain ⟨k, rfl, rfl, hk, hm, HH⟩ := hrel
            have HE : Hid _ := hm
            clear hm
            by_cases hlt : k < l0
            · obtain ⟨q, S, hMr, hq, hBk⟩ := HH.out
              clear HH
              have HB : Hid (Bk (S.set (k : Int) 2 true true) n0 (k + 1) (fun _ => true)) := hBk.set (by have := HBN.out; omega)
              have hak := HA.out k hlt
              have hz0 := HZ.out k hlt
              obtain ⟨sb1, sx1, hx1, hsb1, hsc1⟩ := HS0.out (by omega)
              have HC0 : Hid (∀ u, Kept w u → u.cell? ⟨sb1, sx1 + k, none⟩ = some (.int .i64 (zz k : Int))) := fun u h => by rw [← hz0.1]; exact (h.cell hsb1).trans (hsc1 k hlt)
              subst hx1
              clear hsb1 hsc1 hBk
              have hzk := hz0.2
              clear hz0
              obtain ⟨ak, hake⟩ : ∃ ak, ak = Aof zz k := ⟨_, rfl⟩
              obtain ⟨zk, hzke⟩ : ∃ zk, zk = zz k := ⟨_, rfl⟩
              have HGk : Hid (∀ c, c < zk + 2 → L.G (ak + c) = wordAt zz slR k c) := fun c hc => by rw [hake]; exact HGI.out k c hlt (by rw [← hzke]; exact hc)
              have E1 : Hid (((Aof zz (k + 1) : Nat) : Int) = (ak : Int) + (2 + (zk : Int))) := by
                show _ = (_ : Int)
                simp only [Aof]
                rw [← hake, ← hzke]
                omega
              have HBL : Hid (Aof zz (k + 1) = ak + 1 + 1 + zk) := by have := E1.out; exact (by omega : Aof zz (k + 1) = ak + 1 + 1 + zk)
              rw [← hake] at hMr hak
              rw [← hzke] at hzk hak HC0
              rw [← hake]
              have HAK : Hid (ak = Aof zz k) := hake
              have HZK : Hid (zk = zz k) := hzke
              have HQK : Hid (q ≤ 70 * k ∧ zk ≤ 64) := ⟨hq, hzk⟩
              obtain ⟨Vk, hVk⟩ : ∃ Vk : Nat → Bool, Vk = fun i => if i = k then true else decide (i < k) := ⟨_, rfl⟩
              have HVK : Hid (Vk = fun i => if i = k then true else decide (i < k)) := hVk
              have HV : Hid (Mr U (wr.setCell ⟨ab, k, none⟩ (.bool true)) X len q (su L k ak) S ⟨nn, 0, 0, 0, 0⟩ ab l0 Vk) := by
                have h := hMr.rw.set hMr.mz k
                rw [hVk]
                exact ⟨h.2, h.1⟩
              have ca : wr.cell? ⟨ab, k, none⟩ = some (.bool (decide (k < k))) := hMr.rw.row.cell hlt
              have fa := hMr.rw.row.frozen
              have CW : Hid (∀ (u : World) (q : Nat) (F G : Nat → Cx) (S : ShS) (i : Int) (a : Nat) (z : Cx), Mr U u X len q F S ⟨nn, 0, 0, 0, 0⟩ ab l0 Vk → i = (a : Int) → a < len → q ≤ 1000000 → (∀ j, (if j = a then z else F j) = G j) → Calls Try.prog 12 #[.pointer (some ⟨X.M, 0, none⟩), .int .i64 i, .complex .f64 z.re z.im] u fun e w' => e = .returned (.int .i64 0) ∧ Mr U w' X len (q + 1) G S ⟨nn, 0, 0, 0, 0⟩ ab l0 Vk) := fun u q F G S i a z h h1 h2 h3 h4 => Mr.wr i a z h h1 h2 h3 h4
              have HKW : Hid (∀ u q F S, Mr U u X len q F S ⟨nn, 0, 0, 0, 0⟩ ab l0 Vk → Kept w u) := fun u q F S h => HU.out.1.trans h.mz.kept
              clear hake hzke hMr hq hVk
              obtain ⟨zr, hzr⟩ : ∃ z, z = cr (k : Int) := ⟨_, rfl⟩
              obtain ⟨zw, hzw⟩ : ∃ z, z = cw (zk : Int) := ⟨_, rfl⟩
              obtain ⟨zt, hzt⟩ : ∃ z, z = cw (8 * (n0 : Int) + (ak : Int)) := ⟨_, rfl⟩
              have CRf : Hid (∀ u, Calls Try.prog 13 #[.int .i64 k] u fun e w' => e = .returned (.complex .f64 zr.re zr.im) ∧ w' = u) := fun u => by rw [hzr]; exact rref_in k u (by omega) (by omega)
              have CWh : Hid (∀ u, Calls Try.prog 14 #[.int .i64 zk] u fun e w' => e = .returned (.complex .f64 zw.re zw.im) ∧ w' = u) := fun u => by rw [hzw]; exact rwhole_in zk u (by omega) (by omega)
              have CWt : Hid (∀ u, Calls Try.prog 14 #[.int .i64 (8 * (n0 : Int) + (ak : Int))] u fun e w' => e = .returned (.complex .f64 zt.re zt.im) ∧ w' = u) := fun u => by rw [hzt]; exact rwhole_in (8 * (n0 : Int) + (ak : Int)) u (by omega) (by omega)
              have HG0 : Hid (L.G ak = zr) := by rw [hzr]; exact (HGk.out 0 (by omega)).trans rfl
              have HG1 : Hid (L.G (ak + 1) = zw) := by
                rw [hzw]
                refine (HGk.out 1 (by omega)).trans ?_
                unfold wordAt
                rw [if_neg (by omega), if_pos rfl, HZK.out]
              have HWK : Hid (cw (L.W k) = zt) := by rw [hzt, HWI.out k, ← HAK.out, Int.natCast_add, Int.natCast_mul]; rfl
              clear hzr hzw hzt
              obtain ⟨rb, hrb⟩ : ∃ rb, rb = (inn S.n (k : Int) && isSt 2) := ⟨_, rfl⟩
              have HSet : Hid (∀ u, Mr U u X len q (su L k ak) S ⟨nn, 0, 0, 0, 0⟩ ab l0 Vk → Calls Try.prog 11 #[.pointer (some ⟨X.tb, 0, none⟩), .int .i64 k, .int .i64 2, .bool true, .bool true] u fun e w' => e = .returned (.bool rb) ∧ Mr U w' X len q (su L k ak) (S.set (k : Int) 2 true true) ⟨nn, 0, 0, 0, 0⟩ ab l0 Vk) := fun u h => (Mr.set (k : Int) h).mono fun _ _ ⟨h1, h2⟩ => ⟨by rw [h1, hrb], h2⟩
              clear hrb
              generalize decide (k < k) = vb at ca
              go_wp2_with fail
              generalize wr.setCell ⟨ab, k, none⟩ (.bool true) = V1 at *
              clear ca fa
              refine (CT.out _ _ _ _ _ HV.out.mz).mono ?_
              rintro e u ⟨rfl, rfl⟩
              go_wp2_with fail
              refine (HSet.out _ HV.out).mono ?_
              rintro e u ⟨rfl, hnew⟩
              have HN2 : Hid (Mr U u X len q (su L k ak) (S.set (k : Int) 2 true true) ⟨nn, 0, 0, 0, 0⟩ ab l0 Vk) := hnew
              clear hnew HSet
              go_wp2_with fail
              refine (CRf.out _).mono ?_
              rintro e u ⟨rfl, rfl⟩
              go_wp2_with fail
              refine (CW.out _ _ _ (su L k (ak + 1)) _ _ (8 * n0 + ak) zr HN2.out (by omega) (by have := HBN.out; omega) (by have := HQK.out; omega) (fun j => by rw [← HG0.out]; exact su_word k ak (by rw [HLN.out]) j)).mono ?_
              rintro e u ⟨rfl, hnew⟩
              have HN3 : Hid (Mr U u X len _ (su L k (ak + 1)) _ ⟨nn, 0, 0, 0, 0⟩ ab l0 Vk) := hnew
              clear hnew HN2
              have cs := HC0.out _ (HKW.out _ _ _ _ HN3.out)
              go_wp2_with fail
              refine (CWh.out _).mono ?_
              rintro e u ⟨rfl, rfl⟩
              clear cs
              go_wp2_with fail
              refine (CW.out _ _ _ (su L k (ak + 1 + 1)) _ _ (8 * n0 + ak + 1) zw HN3.out (by omega) (by have := HBN.out; omega) (by have := HQK.out; omega) (fun j => by rw [← HG1.out]; exact su_word k (ak + 1) (by rw [HLN.out]; omega) j)).mono ?_
              rintro e u ⟨rfl, hnew⟩
              have HN4 : Hid (Mr U u X len _ (su L k (ak + 1 + 1)) _ ⟨nn, 0, 0, 0, 0⟩ ab l0 Vk) := hnew
              clear hnew HN3
              clear HV
              go_wp2
              go_loopg [16] zk (fun m i wj => ∃ j : Nat, i = .int .i64 j ∧ j ≤ zk ∧ m = zk - j ∧ Hid (∃ q2, q2 ≤ q + 2 + j ∧ Mr U wj X len q2 (su L k (ak + 1 + 1 + j)) (S.set (k : Int) 2 true true) ⟨nn, 0, 0, 0, 0⟩ ab l0 Vk))
              case atStart => exact ⟨0, rfl, by omega, by omega, _, by omega, HN4.out⟩
              case round =>
                obtain ⟨j, rfl, hj, hm, HJ2⟩ := hrel
                have HEj : Hid _ := hm
                clear hm
                obtain ⟨q2, hq2, hJ⟩ := HJ2.out
                clear HJ2
                have HJ : Hid (Mr U wr X len q2 (su L k (ak + 1 + 1 + j)) (S.set (k : Int) 2 true true) ⟨nn, 0, 0, 0, 0⟩ ab l0 Vk) := hJ
                have HQ2 : Hid (q2 ≤ q + 2 + j) := hq2
                clear hJ hq2
                have cs := HC0.out _ (HKW.out _ _ _ _ HJ.out)
                by_cases hjl : j < zk
                · obtain ⟨zj, hzj⟩ : ∃ z, z = cr (100 * (k : Int) + (j : Int)) := ⟨_, rfl⟩
                  have CRj : Hid (∀ u, Calls Try.prog 13 #[.int .i64 (100 * (k : Int) + (j : Int))] u fun e w' => e = .returned (.complex .f64 zj.re zj.im) ∧ w' = u) := fun u => by rw [hzj]; exact rref_in (100 * (k : Int) + (j : Int)) u (by omega) (by omega)
                  have HGj : Hid (L.G (ak + 1 + 1 + j) = zj) := by
                    show _ = _
                    have h := HGk.out (2 + j) (by omega)
                    rw [show ak + (2 + j) = ak + 1 + 1 + j by omega] at h
                    rw [h, hzj]
                    unfold wordAt slR
                    rw [if_neg (by omega), if_neg (by omega), show 2 + j - 2 = j by omega]
                  clear hzj
                  go_wp2_with fail
                  refine (CRj.out _).mono ?_
                  rintro e u ⟨rfl, rfl⟩
                  clear cs
                  go_wp2_with fail
                  refine (CW.out _ _ _ (su L k (ak + 1 + 1 + j + 1)) _ _ (8 * n0 + ak + 2 + j) zj HJ.out (by omega) (by have := HBN.out; omega) (by have := HQK.out; have := HQ2.out; omega) (fun i => by rw [← HGj.out]; exact su_word k (ak + 1 + 1 + j) (by rw [HLN.out]; omega) i)).mono ?_
                  rintro e u ⟨rfl, hnew⟩
                  have HJn : Hid (Mr U u X len (q2 + 1) (su L k (ak + 1 + 1 + j + 1)) (S.set (k : Int) 2 true true) ⟨nn, 0, 0, 0, 0⟩ ab l0 Vk) := hnew
                  clear hnew HJ HGj CRj
                  go_wp2
                  go_roundg (zk - (j + 1))
                  case measure => have := HEj.out; omega
                  case rel => exact ⟨j + 1, by go_num, by omega, by omega, q2 + 1, by have := HQ2.out; omega, HJn.out⟩
                · obtain rfl : zk = j := by omega
                  clear HN4 cs
                  have cs := HC0.out _ (HKW.out _ _ _ _ HJ.out)
                  go_wp2_with fail
                  refine (CWt.out _).mono ?_
                  rintro e u ⟨rfl, rfl⟩
                  clear cs
                  go_wp2_with fail
                  refine (CW.out _ _ _ (su L (k + 1) (ak + 1 + 1 + zk)) _ _ (8 * k + 4) zt HJ.out (by omega) (by have := HBN.out; omega) (by have := HQK.out; have := HQ2.out; omega) (fun j => by rw [← HWK.out]; exact su_sent k _ (by rw [HLN.out]; have := HBN.out; omega) rfl j)).mono ?_
                  rintro e u ⟨rfl, hnew⟩
                  have HN6 : Hid (Mr U u X len _ (su L (k + 1) (ak + 1 + 1 + zk)) _ ⟨nn, 0, 0, 0, 0⟩ ab l0 Vk) := hnew
                  clear hnew HJ
                  have cs := HC0.out _ (HKW.out _ _ _ _ HN6.out)
                  go_wp2
                  go_roundg (l0 - (k + 1))
                  case measure => have := HE.out; omega
                  case rel => exact ⟨k + 1, by rw [E1.out], by go_num, by omega, by omega, q2 + 1, _, by rw [HBL.out]; exact ⟨HN6.out.mz, HN6.out.rw.congr fun i _ => by rw [HVK.out]; by_cases e : i = k <;> simp [e] <;> omega⟩, by (have := HQK.out; have := HQ2.out; omega), HB.out⟩
            · obtain rfl : l0 = k := by omega
              obtain ⟨q, S, hMr, hq, hBk⟩ := HH.out
              clear HH HE hk hlt
              have hlpos : 0 < l0 := by
                have h := HNN.out
                rcases Nat.eq_zero_or_pos l0 with e | e
                · rw [e] at h
                  exact absurd h hn0
                · exact e
              have HMr : Hid (Mr U wr X len q (L.mem 0 0) S ⟨nn, 0, 0, 0, 0⟩ ab l0 (fun _ => true)) := by
                have e : su L l0 (Aof zz l0) = L.mem 0 0 := by
                  rw [HL.out]
                  exact su_end rfl fun _ => rfl
                rw [← e]
                exact ⟨hMr.mz, hMr.rw.congr fun i hi => decide_eq_true hi⟩
              have HBk : Hid (Bk S n0 l0 (fun _ => true) ∧ q ≤ 70 * l0) := ⟨hBk, hq⟩
              have HSz : Hid (Rdv w x0 l0 (fun i => .int .i64 (zz i : Int))) := fun h0 => by
                obtain ⟨b, o, e, hb, hc⟩ := HS0.out h0
                exact ⟨b, o, e, hb, fun i hi => by show _ = some (Value.int .i64 (zz i : Int)); rw [← (HZ.out i hi).1]; exact hc i hi⟩
              have HBP : Hid (Bp n0 nn l0 zz 0 L (L.mem 0 0) (takeS ⟨nn, 0, 0, 0, 0⟩ (nn : Int))) := by
                rw [HL.out]
                exact Bp.begin (by have := HBN.out; omega) (by have := HBN.out; omega) HNN.out.symm (by have := HBN.out; omega) hnp
              clear hMr hBk hq
              obtain ⟨tA, htA⟩ : ∃ tA, tA = takeA ⟨nn, 0, 0, 0, 0⟩ (nn : Int) := ⟨_, rfl⟩
              have hks := ks_turn nn (by omega)
              have CTk : Hid (Calls Try.prog 15 #[.pointer (some ⟨X.kb, 0, none⟩), .int .i64 nn] wr fun e w' => e = .returned (.tuple #[.int .i64 tA, .bool true]) ∧ Mr U w' X len q (L.mem 0 0) S (takeS ⟨nn, 0, 0, 0, 0⟩ (nn : Int)) ab l0 (fun _ => true)) := by
                refine (HMr.out.mz.take (nn : Int)).mono fun _ _ ⟨h1, h2, m⟩ => ⟨?_, h2, HMr.out.rw.mut m⟩
                rw [h1, hks.1, htA]
              clear htA hks
              go_wp2_with fail
              refine CTk.out.mono ?_
              rintro e u1 ⟨rfl, h1⟩
              have H1 : Hid (Mr U u1 X len q (L.mem 0 0) S (takeS ⟨nn, 0, 0, 0, 0⟩ (nn : Int)) ab l0 (fun _ => true)) := h1
              clear h1 CTk HMr
              go_wp2
              go_loopg [17] 2 (fun m tu wr => ∃ t : Nat, tu = .int .i64 t ∧ t ≤ 2 ∧ m = 2 - t ∧ Hid ((t < 2 → ∃ LL F K q S, Bp n0 nn l0 zz t LL F K ∧ Mz U wr X len q F S K ∧ q ≤ 5000 * (t + 1) ∧ S.c ≤ 5000 * t ∧ ∀ i : Nat, i < l0 → blackB S (i : Int) true = true) ∧ (t = 2 → ∃ q F S K, Mz U wr X len q F S K ∧ ∀ k, k < l0 → F (8 * k + 4) = cw ((8 * n0 + Aof zz k : Nat) : Int)) ∧ Rw17 U wr X ab l0 (fun _ => true)))
              case atStart => exact ⟨0, rfl, by omega, by omega, fun _ => ⟨L, _, _, q, S, HBP.out, H1.out.mz, by have := HBk.out.2; have := HBN.out; omega, by rw [HBk.out.1.c]; exact Nat.zero_le _, fun i hi => HBk.out.1.bk i hi⟩, (fun h => by cases h), H1.out.rw⟩
              case round =>
                obtain ⟨t, rfl, ht2, hm, HT⟩ := hrel
                have HET : Hid _ := hm
                clear hm
                by_cases htl : t < 2
                · obtain ⟨LL, F, K, q, S, hBp, hMz, hq, hc, hbb⟩ := HT.out.1 htl
                  have HR : Hid (Rw17 U wr X ab l0 (fun _ => true)) := HT.out.2.2
                  have HP : Hid (Bp n0 nn l0 zz t LL F K) := hBp
                  have HM : Hid (Mz U wr X len q F S K) := hMz
                  have HQ : Hid (q ≤ 5000 * (t + 1) ∧ S.c ≤ 5000 * t ∧ ∀ i : Nat, i < l0 → blackB S (i : Int) true = true) := ⟨hq, hc, hbb⟩
                  clear HT hBp hMz hq hc hbb
                  have CTn : Hid (Calls Try.prog 16 #[.pointer (some ⟨X.kb, 0, none⟩)] wr fun e w' => e = .returned (.bool true) ∧ Mz U w' X len q F S (LL.Ks 0) ∧ Rw17 U w' X ab l0 (fun _ => true)) := by
                    refine HM.out.turn.mono fun _ _ ⟨h1, h2, m⟩ => ⟨?_, ?_, HR.out.mut m⟩
                    · rw [h1, HP.out.tu]
                    · rw [HP.out.ts] at h2
                      exact h2
                  go_wp2_with fail
                  refine CTn.out.mono ?_
                  rintro e u2 ⟨rfl, h2, h3⟩
                  have H2 : Hid (Mz U u2 X len q F S (LL.Ks 0)) := h2
                  have HR2 : Hid (Rw17 U u2 X ab l0 (fun _ => true)) := h3
                  clear h2 h3 CTn HM HR
                  have hcb := HU.out.2.1.kept H2.out.kept
                  have c0 := hcb.at 0 rfl
                  have c1 := hcb.at 1 rfl
                  have c2 := hcb.at 2 rfl
                  have c3 := hcb.at 3 rfl
                  have c4 := hcb.at 4 rfl
                  have c5 := hcb.at 5 rfl
                  have c6 := hcb.at 6 rfl
                  have c7 := hcb.at 7 rfl
                  have c8 := hcb.at 8 rfl
                  clear hcb
                  have CN : Hid (Calls Try.prog 17 #[.agg #[.int .i64 n0, .int .i64 nn, .int .i64 0, .int .i64 1, .int .i64 1, .int .i64 0, .int .i64 1, .int .i64 0, .slice (some ⟨W0.heap.size, 0, none⟩) 1 1], .int .i64 t, .int .i64 nn, .bool true] u2 _) := hnew_some n0 nn 0 1 1 0 1 0 _ 1 1 F0 (fun _ _ => false) t nn true u2 (HU.out.2.2.kept H2.out.kept) (fun i hi h => absurd h (by simp [F0])) HG.out (by omega) (by omega) hnq
                  go_wp2_with fail
                  refine CN.out.mono ?_
                  rintro e u3 ⟨p, E, rfl, hs, hp, hk, hE⟩
                  have HR0 : Hid (Rz LL U X len p E q S.c 0 u3 ∧ Env LL E len ∧ Rw17 U u3 X ab l0 (fun _ => true) ∧ ab ≠ p) := by
                    have hBp := HP.out
                    refine ⟨Rz.begin H2.out (by rw [hBp.n, hBp.fr]; exact hs) hp hk hBp.F rfl (by rw [hBp.N]; exact hlpos) (Nat.le_refl _) (Nat.le_refl _) ?_, ⟨hBp.ok, by rw [hE.1, hBp.n0], by rw [hE.2, hBp.n], by rw [hBp.n0, hBp.n]; exact hlen⟩, HR2.out.kept hk, ?_⟩
                    · intro i hi
                      have hi2 : i < l0 := by rw [← hBp.N]; exact hi
                      rw [HQ.out.2.2 i hi2, hBp.bl i hi2]
                    · have := HR2.out.row.lt
                      omega
                  clear hs hp hk hE CN c0 c1 c2 c3 c4 c5 c6 c7 c8 H2 HR2
                  have hTh := HP.out.tm
                  have hT4 : 4 ≤ LL.tm LL.N := tm_pos (by rw [HP.out.N]; exact hlpos)
                  obtain ⟨T, hT⟩ : ∃ T, T = LL.tm LL.N := ⟨_, rfl⟩
                  rw [← hT] at hT4 hTh
                  have HTT : Hid (T = LL.tm LL.N) := hT
                  clear hT
                  go_wp2
                  go_loopg [19] T (fun m tv wr => ∃ tt : Nat, tv = .int .i64 tt ∧ tt ≤ T ∧ m = T - tt ∧ Hid (Rz LL U X len p E q S.c tt wr ∧ Rw17 U wr X ab l0 (fun _ => true)))
                  case atStart => exact ⟨0, rfl, by omega, by omega, HR0.out.1, HR0.out.2.2.1⟩
                  case round =>
                    obtain ⟨tt, rfl, htt, hm, HRR⟩ := hrel
                    have HE : Hid _ := hm
                    clear hm
                    by_cases hlt : tt < T
                    · have CD : Hid (Calls Try.prog 18 #[.pointer (some ⟨p, 0, none⟩)] wr fun e w' => e = .returned (.bool false) ∧ w' = wr) := by
                        have := HRR.out.1.done
                        rwa [← HTT.out, decide_eq_false (by omega)] at this
                      obtain ⟨an, han⟩ : ∃ an, an = decide (tt + 1 = T) := ⟨_, rfl⟩
                      have CS : Hid (Calls Try.prog 19 #[.pointer (some ⟨p, 0, none⟩), .pointer (some ⟨X.M, 0, none⟩), .pointer (some ⟨X.sb, 0, none⟩), .pointer (some ⟨X.kb, 0, none⟩)] wr fun e w' => e = .returned (.bool an) ∧ Rz LL U X len p E q S.c (tt + 1) w' ∧ Rw17 U w' X ab l0 (fun _ => true)) := by
                        refine (rz_step HR0.out.2.1 HRR.out.1 HRR.out.2 HR0.out.2.2.2 (by rw [← HTT.out]; exact hlt) (by have := HQ.out.1; omega) (by have := HQ.out.2.1; omega)).mono fun _ _ ⟨h1, h2, h3⟩ => ⟨?_, h2, h3⟩
                        rw [h1, ← HTT.out, han]
                      clear han
                      go_wp2_with fail
                      refine CD.out.mono ?_
                      rintro e u4 ⟨rfl, rfl⟩
                      go_wp2_with fail
                      refine CS.out.mono ?_
                      rintro e u5 ⟨rfl, hR5, hR6⟩
                      have HR5 : Hid (Rz LL U X len p E q S.c (tt + 1) u5 ∧ Rw17 U u5 X ab l0 (fun _ => true)) := ⟨hR5, hR6⟩
                      clear hR5 hR6 CS CD HRR
                      go_wp2
                      go_roundg (T - (tt + 1))
                      case measure => have := HE.out; omega
                      case rel => exact ⟨tt + 1, by go_num, by omega, by omega, HR5.out⟩
                    · obtain rfl : T = tt := by omega
                      have HRf : Hid (Rz LL U X len p E q S.c (LL.tm LL.N) wr) := by rw [← HTT.out]; exact HRR.out.1
                      obtain ⟨qf, Sf, hMf, hqf, hcf, hbf⟩ := HRf.out.fin
                      have hBp := HP.out
                      rw [hBp.N] at hMf hbf
                      have HMf : Hid (Mz U wr X len qf (LL.mem l0 (LL.P l0)) Sf (LL.Ks l0)) := hMf
                      have HQf : Hid (qf ≤ 5000 * (t + 2) ∧ Sf.c ≤ 5000 * (t + 1) ∧ ∀ i : Nat, i < l0 → blackB Sf (i : Int) true = true) := ⟨by have h := HQ.out; have h2 := HTT.out; have h3 := HBN.out; omega, by have h := HQ.out; have h2 := HTT.out; have h3 := HBN.out; omega, fun i hi => (hbf i hi).trans (hBp.bl i hi)⟩
                      have CD : Hid (Calls Try.prog 18 #[.pointer (some ⟨p, 0, none⟩)] wr fun e w' => e = .returned (.bool true) ∧ w' = wr) := by
                        have := HRf.out.done
                        rwa [decide_eq_true rfl] at this
                      have CM : Hid (Calls Try.prog 24 #[.pointer (some ⟨p, 0, none⟩)] wr fun e w' => e = .returned (.int .i64 (l0 : Int)) ∧ w' = wr) := by
                        have h := HRf.out.moved
                        rwa [hBp.N, (all_P hBp.mv l0 (Nat.le_refl _)).2] at h
                      have CK : Hid (Calls Try.prog 27 #[.pointer (some ⟨X.kb, 0, none⟩)] wr fun e w' => e = .returned (.bool true) ∧ Mz U w' X len qf (LL.mem l0 (LL.P l0)) Sf (doneS (LL.Ks l0)) ∧ Rw17 U w' X ab l0 (fun _ => true)) := by
                        refine HMf.out.kdone.mono fun _ _ ⟨h1, h2, m⟩ => ⟨?_, h2, HRR.out.2.mut m⟩
                        rw [h1, hBp.dones]
                      clear hMf hqf hcf hbf hBp HE hlt
                      go_wp2_with fail
                      refine CD.out.mono ?_
                      rintro e u4 ⟨rfl, rfl⟩
                      go_wp2_with fail
                      refine CD.out.mono ?_
                      rintro e u5 ⟨rfl, rfl⟩
                      go_wp2_with fail
                      refine CM.out.mono ?_
                      rintro e u6 ⟨rfl, rfl⟩
                      go_wp2_with fail
                      refine CK.out.mono ?_
                      rintro e u7 ⟨rfl, h7, r7⟩
                      have H7 : Hid (Mz U u7 X len qf (LL.mem l0 (LL.P l0)) Sf (doneS (LL.Ks l0)) ∧ Rw17 U u7 X ab l0 (fun _ => true)) := ⟨h7, r7⟩
                      clear h7 r7 CD CM CK HMf HRR HRf HR0
                      have CRd : Hid (Calls Try.prog 20 #[.pointer (some ⟨X.M, 0, none⟩), .slice x0 l0 c0, .slice (some ⟨ab, 0, none⟩) l0 l0, .slice (some ⟨ab, 0, none⟩) l0 l0, .int .i64 (8 * (n0 : Int))] u7 fun e w' => e = .returned (.bool true) ∧ Kept u7 w') := by
                        have hk : Kept w u7 := HU.out.1.trans H7.out.1.kept
                        have := reads_is (c0 := c0) (x1 := some ⟨ab, 0, none⟩) (c1 := l0) (c2 := l0) u7 H7.out.1.mx.mm (HSz.out.kept hk) H7.out.2.rdv (Nat.le_refl _) (Nat.le_refl _) (fun i hi => (HZ.out i hi).2) (by have := HBN.out; omega) (by have := HBN.out; omega) (by have := HBN.out; omega) (HP.out.reads (Nat.le_refl _) (Nat.le_refl _) hlen)
                        rwa [show ((8 * n0 : Nat) : Int) = 8 * (n0 : Int) by omega] at this
                      go_wp2_with fail
                      refine CRd.out.mono ?_
                      rintro e u8 ⟨rfl, K8⟩
                      have H8 : Hid (Mz U u8 X len qf (LL.mem l0 (LL.P l0)) Sf (doneS (LL.Ks l0)) ∧ Rw17 U u8 X ab l0 (fun _ => true)) := ⟨H7.out.1.still K8, H7.out.2.kept K8⟩
                      clear K8 H7 CRd
                      go_wp2
                      go_roundg (2 - (t + 1))
                      case measure => have := HET.out; omega
                      case rel =>
                        refine ⟨t + 1, by go_num, by omega, by omega, fun h => ?_, fun h => ?_, H8.out.2⟩
                        · have h0 : t = 0 := by omega
                          have hb := HP.out
                          rw [h0] at hb ⊢
                          have hq := HQf.out
                          rw [h0] at hq
                          exact ⟨back LL, _, _, qf, Sf, hb.next, H8.out.1, hq.1, hq.2.1, hq.2.2⟩
                        · have h0 : t = 1 := by omega
                          have hb := HP.out
                          rw [h0] at hb
                          exact ⟨qf, _, Sf, _, H8.out.1, fun k hk => hb.last hk⟩
                · obtain rfl : t = 2 := by omega
                  obtain ⟨q, F, S, K, hMz, hF⟩ := HT.out.2.1 rfl
                  obtain ⟨wT, hwT⟩ : ∃ wT, wT = wr := ⟨_, rfl⟩
                  have HM : Hid (Mz U wT X len q F S K) := by rw [hwT]; exact hMz
                  have HF : Hid (∀ k, k < l0 → F (8 * k + 4) = cw ((8 * n0 + Aof zz k : Nat) : Int)) := hF
                  clear HT hMz hF HET htl
                  go_wp2
                  have HWT : Hid (wT = wr) := hwT
                  clear hwT
                  go_loopg [12, 20] l0 (fun m at' i wr => ∃ k : Nat, at' = .int .i64 (Aof zz k : Int) ∧ i = .int .i64 k ∧ k ≤ l0 ∧ m = l0 - k ∧ Hid (Kept wT wr))
                  case atStart => exact ⟨0, rfl, rfl, by omega, by omega, by rw [HWT.out]; exact Kept.refl _⟩
                  case round =>
                    obtain ⟨k, rfl, rfl, hk, hm, HK⟩ := hrel
                    have HE : Hid _ := hm
                    clear hm
                    by_cases hlt : k < l0
                    · have hA := HA.out k hlt
                      have hzk := (HZ.out k hlt).2
                      obtain ⟨sb1, sx1, hx1, hsb1, hsc1⟩ := HSz.out (by omega)
                      have HKu : Hid (Kept w wr) := (HU.out.1.trans HM.out.kept).trans HK.out
                      have cs := (HKu.out.cell hsb1).trans (hsc1 k hlt)
                      simp only [] at cs
                      clear hsb1 hsc1
                      subst hx1
                      obtain ⟨ak, hake⟩ : ∃ ak, ak = Aof zz k := ⟨_, rfl⟩
                      obtain ⟨zk, hzke⟩ : ∃ zk, zk = zz k := ⟨_, rfl⟩
                      have E1 : Hid (((Aof zz (k + 1) : Nat) : Int) = (ak : Int) + (2 + (zk : Int))) := by
                        show _ = (_ : Int)
                        simp only [Aof]
                        rw [← hake, ← hzke]
                        omega
                      obtain ⟨zr, hzr⟩ : ∃ z, z = cw (8 * (n0 : Int) + (ak : Int)) := ⟨_, rfl⟩
                      have CP : Hid (Calls Try.prog 22 #[.pointer (some ⟨X.M, 0, none⟩), .int .i64 (8 * (k : Int) + 4)] wr fun e w' => e = .returned (.complex .f64 zr.re zr.im) ∧ w' = wr) := by
                        have h := (HM.out.still HK.out).peek (8 * k + 4) (by have := HBN.out; omega)
                        rw [HF.out k hlt, show ((8 * k + 4 : Nat) : Int) = 8 * (k : Int) + 4 by omega, ← hake, show ((8 * n0 + ak : Nat) : Int) = 8 * (n0 : Int) + (ak : Int) by omega, ← hzr] at h
                        exact h
                      rw [← hake] at hA ⊢
                      rw [← hzke] at hzk hA cs
                      clear hake hzke
                      have CWt : Hid (∀ u, Calls Try.prog 14 #[.int .i64 (8 * (n0 : Int) + (ak : Int))] u fun e w' => e = .returned (.complex .f64 zr.re zr.im) ∧ w' = u) := fun u => by rw [hzr]; exact rwhole_in (8 * (n0 : Int) + (ak : Int)) u (by omega) (by omega)
                      have CWo : Hid (∀ u, Calls Try.prog 29 #[.complex .f64 zr.re zr.im, .complex .f64 zr.re zr.im] u fun e w' => e = .returned (.bool true) ∧ w' = u) := fun u => by rw [hzr]; exact rword_cw _ u
                      clear hzr
                      go_wp2_with fail
                      refine CP.out.mono ?_
                      rintro e u6 ⟨rfl, rfl⟩
                      go_wp2_with fail
                      refine (CWt.out _).mono ?_
                      rintro e u7 ⟨rfl, rfl⟩
                      go_wp2_with fail
                      refine (CWo.out _).mono ?_
                      rintro e u8 ⟨rfl, rfl⟩
                      go_wp2
                      go_roundg (l0 - (k + 1))
                      case measure => have := HE.out; omega
                      case rel => exact ⟨k + 1, by rw [E1.out], by go_num, by omega, by omega, HK.out⟩
                    · obtain rfl : l0 = k := by omega
                      have HKW2 : Hid (Kept w wr) := (HU.out.1.trans HM.out.kept).trans HK.out
                      go_wp2_with fail
                      refine (first_any _).mono ?_
                      rintro e wf ⟨rfl, Kf⟩
                      have HKF : Hid (Kept w wf) := HKW2.out.trans Kf
                      clear Kf
                      go_wp2
                      go_ret
                      exact ⟨rfl, HKF.out⟩
end Go.Proofs.Ytgnikgkpbibmgaa
