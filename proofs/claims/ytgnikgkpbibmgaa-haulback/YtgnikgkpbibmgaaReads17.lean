/-
  The laws' own 'reads': true, where each sentinel that was told reads its slots.
-/
import Derived.Test.YtgnikgkpbibmgaaFirst17
namespace Go.Proofs.Ytgnikgkpbibmgaa
open Go.RowKit

/-- A slice's cells. -/
def Rdv (w : World) (x : Option Addr) (l : Nat) (V : Nat → Value) : Prop := 0 < l → ∃ b o, x = some ⟨b, o, none⟩ ∧ b < w.heap.size ∧ ∀ i, i < l → w.cell? ⟨b, o + i, none⟩ = some (V i)
theorem Rdv.kept {w w' : World} {x : Option Addr} {l : Nat} {V : Nat → Value} (h : Rdv w x l V) (k : Kept w w') : Rdv w' x l V := fun h0 => by
  obtain ⟨b, o, e, hb, hc⟩ := h h0
  exact ⟨b, o, e, Nat.lt_of_lt_of_le hb k.size, fun i hi => (k.cell hb).trans (hc i hi)⟩
theorem Rdv.less {w : World} {x : Option Addr} {l m : Nat} {V : Nat → Value} (h : Rdv w x l V) (hm : m ≤ l) : Rdv w x m V := fun h0 => by
  obtain ⟨b, o, e, hb, hc⟩ := h (by omega)
  exact ⟨b, o, e, hb, fun i hi => hc i (by omega)⟩
/-- Each of the first N that was told reads its slots; of the others the word is -1. -/
def Reads (F : Nat → Cx) (n base N : Nat) (z : Nat → Nat) (tl : Nat → Bool) : Prop := ∀ i, i < N → 8 * i + 4 < n ∧ (tl i = false → F (8 * i + 4) = cw (-1)) ∧ (tl i = true → ∃ a : Nat, F (8 * i + 4) = cw (a : Int) ∧ base ≤ a ∧ a + 2 + z i ≤ n ∧ ∀ j, j < z i → F (a + 2 + j) = cr (100 * (i : Int) + (j : Int)))

set_option maxRecDepth 20000 in
set_option maxHeartbeats 8000000 in
theorem reads_is {b M n q base : Nat} {F : Nat → Cx} {x0 x1 x2 : Option Addr} {l0 c0 l1 c1 l2 c2 : Nat} {z : Nat → Nat} {tl : Nat → Bool} (w : World) (hm : Mm w b M n F q) (h0 : Rdv w x0 l0 (fun i => .int .i64 (z i : Int))) (h2 : Rdv w x2 l2 (fun i => .bool (tl i)))
    (hl1 : l0 ≤ l1) (hl2 : l0 ≤ l2) (hz : ∀ i, i < l0 → z i ≤ 64) (hN : l0 ≤ 60) (hn : n ≤ 100000) (hb : base ≤ 100000) (hF : Reads F n base l0 z tl) :
    Calls Try.prog 20 #[.pointer (some ⟨M, 0, none⟩), .slice x0 l0 c0, .slice x1 l1 c1, .slice x2 l2 c2, .int .i64 base] w fun e w' => e = .returned (.bool true) ∧ Kept w w' := by
  have HM : Hid (Mm w b M n F q) := hm
  have H0 : Hid (Rdv w x0 l0 (fun i => .int .i64 (z i : Int))) := h0
  have H2 : Hid (Rdv w x2 l2 (fun i => .bool (tl i))) := h2
  have HF : Hid (Reads F n base l0 z tl) := hF
  have HZ : Hid (∀ i, i < l0 → z i ≤ 64) := hz
  have HB : Hid (n ≤ 100000 ∧ base ≤ 100000 ∧ l0 ≤ 60 ∧ l0 ≤ l1 ∧ l0 ≤ l2) := ⟨hn, hb, hN, hl1, hl2⟩
  have e1 : decide ((l1 : Int) ≥ (l0 : Int)) = true := by simp; omega
  have e2 : decide (l0 ≤ l1) = true := by simp; omega
  clear hm h0 h2 hF hz
  go_enter Try.func20, Try.ntmps20
  go_wp2
  go_loopg [11] l0 (fun m i wr => ∃ k : Nat, i = .int .i64 k ∧ k ≤ l0 ∧ m = l0 - k ∧ Hid (Kept w wr))
  case atStart => exact ⟨0, rfl, by omega, by omega, Kept.refl _⟩
  case round =>
    obtain ⟨k, rfl, hk, hm, HK⟩ := hrel
    have HE : Hid _ := hm
    clear hm
    by_cases hlt : k < l0
    · obtain ⟨hsa, hno, hyes⟩ := HF.out k hlt
      have hnb := HB.out
      have CP : Hid (Calls Try.prog 22 #[.pointer (some ⟨M, 0, none⟩), .int .i64 (8 * (k : Int) + 4)] wr fun e w' => e = .returned (.complex .f64 (F (8 * k + 4)).re (F (8 * k + 4)).im) ∧ w' = wr) := by
        have := mem_peek (8 * k + 4) wr (HM.out.kept HK.out) hsa
        rwa [show ((8 * k + 4 : Nat) : Int) = 8 * (k : Int) + 4 by omega] at this
      obtain ⟨tb, tx, rfl, htb, htc⟩ := H2.out (by omega)
      have ct : wr.cell? ⟨tb, tx + k, none⟩ = some (.bool (tl k)) := (HK.out.cell htb).trans (htc k (by omega))
      have HT : Hid (tb < w.heap.size) := htb
      clear htb htc
      cases hto : tl k
      · have hF1 := hno hto
        rw [hto] at ct
        rw [hF1] at CP
        have CI : Hid (∀ u, Calls Try.prog 21 #[.complex .f64 (cw (-1)).re (cw (-1)).im] u _) := fun u => rint_in (-1) u (by omega) (by omega)
        clear hyes hno hF1 hnb
        generalize (cw (-1)).re = zr at *
        generalize (cw (-1)).im = zi at *
        go_wp2_with fail
        refine CP.out.mono ?_
        rintro e w1 ⟨rfl, rfl⟩
        go_wp2_with fail
        refine (CI.out _).mono ?_
        rintro e w2 ⟨rfl, rfl⟩
        clear CP CI
        go_wp2
        go_roundg (gk - 1)
        case measure => have := HE.out; omega
        case rel => exact ⟨k + 1, by go_num, by omega, by have := HE.out; omega, HK.out⟩
      · obtain ⟨a, hFa, ha0, ha1, haj⟩ := hyes hto
        rw [hto] at ct
        rw [hFa] at CP
        have CI : Hid (∀ u, Calls Try.prog 21 #[.complex .f64 (cw (a : Int)).re (cw (a : Int)).im] u _) := fun u => rint_in (a : Int) u (by omega) (by omega)
        have HJ : Hid (∀ j, j < z k → F (a + 2 + j) = cr (100 * (k : Int) + (j : Int))) := haj
        have hzk := HZ.out k hlt
        obtain ⟨sb, sx, rfl, hsb, hsc⟩ := H0.out (by omega)
        have cs := (HK.out.cell hsb).trans (hsc k hlt)
        simp only [] at cs
        have HS : Hid (sb < w.heap.size ∧ ∀ i, i < l0 → w.cell? ⟨sb, sx + i, none⟩ = some (.int .i64 (z i : Int))) := ⟨hsb, hsc⟩
        have HLT : Hid (k < l0) := hlt
        clear hyes hno hFa haj hsb hsc
        obtain ⟨zk, hzz⟩ : ∃ zk, zk = z k := ⟨_, rfl⟩
        rw [← hzz] at cs hzk ha1
        have HZK : Hid (zk = z k) := hzz
        clear hzz
        generalize hzr : (cw (a : Int)).re = zr at *
        generalize hzi : (cw (a : Int)).im = zi at *
        clear hzr hzi
        go_wp2_with fail
        refine CP.out.mono ?_
        rintro e w1 ⟨rfl, rfl⟩
        go_wp2_with fail
        refine (CI.out _).mono ?_
        rintro e w2 ⟨rfl, rfl⟩
        clear CP CI
        have q0 := KW.cell (w := w2) (a := ⟨sb, sx + k, none⟩) (Nat.lt_of_lt_of_le HS.out.1 HK.out.size) cs
        have CL : Hid (∀ x : KW w2, Calls Try.prog 33 #[.pointer (some ⟨M, 0, none⟩)] x.it fun e w' => e = .returned (.int .i64 n) ∧ w' = x.it) := fun x => mem_len x.it (HM.out.kept (HK.out.trans x.ok))
        have f1 : decide ((a : Int) < (base : Int)) = false := by simp; omega
        have f2 : decide (a < base) = false := by simp; omega
        have f3 : decide ((a : Int) + 2 + (zk : Int) > (n : Int)) = false := by simp; omega
        have f4 : decide ((n : Int) < (a : Int) + 2 + (zk : Int)) = false := by simp; omega
        go_wp2_with fail
        refine wp_region_kept (by kernel_rfl) (by kernel_rfl) fun _ => ?_
        repeat (go_big_quiet_step ((go_at_call 33; exact kept_of_same (CL.out _))))
        refine wpQuiet_nil ?_
        rintro _ ⟨y, rfl⟩
        have HK2 : Hid (Kept w y.it) := HK.out.trans y.ok
        generalize y.it = w3 at *
        clear q0 CL f1 f2 cs ct
        go_wp2
        go_loopg [14] zk (fun m i wr => ∃ j : Nat, i = .int .i64 j ∧ j ≤ zk ∧ m = zk - j ∧ Hid (Kept w wr))
        case atStart => exact ⟨0, rfl, by omega, by omega, HK2.out⟩
        case round =>
          obtain ⟨j, rfl, hj, hm, HK3⟩ := hrel
          have HE3 : Hid _ := hm
          clear hm
          have cs : wr.cell? ⟨sb, sx + k, none⟩ = some (.int .i64 (zk : Int)) := by rw [HZK.out]; exact (HK3.out.cell HS.out.1).trans (HS.out.2 k HLT.out)
          by_cases hjl : j < zk
          · have CP2 : Hid (Calls Try.prog 22 #[.pointer (some ⟨M, 0, none⟩), .int .i64 ((a : Int) + 2 + (j : Int))] wr fun e w' => e = .returned (.complex .f64 (cr (100 * (k : Int) + (j : Int))).re (cr (100 * (k : Int) + (j : Int))).im) ∧ w' = wr) := by
              have := mem_peek (a + 2 + j) wr (HM.out.kept HK3.out) (by omega)
              rw [HJ.out j (by rw [← HZK.out]; exact hjl), show ((a + 2 + j : Nat) : Int) = (a : Int) + 2 + (j : Int) by omega] at this
              exact this
            have CR : Hid (∀ u, Calls Try.prog 13 #[.int .i64 (100 * (k : Int) + (j : Int))] u _) := fun u => rref_in (100 * (k : Int) + (j : Int)) u (by omega) (by omega)
            have CW : Hid (∀ u, Calls Try.prog 29 #[.complex .f64 (cr (100 * (k : Int) + (j : Int))).re (cr (100 * (k : Int) + (j : Int))).im, .complex .f64 (cr (100 * (k : Int) + (j : Int))).re (cr (100 * (k : Int) + (j : Int))).im] u _) := fun u => rword_cr _ u
            generalize (cr (100 * (k : Int) + (j : Int))).re = yr at *
            generalize (cr (100 * (k : Int) + (j : Int))).im = yi at *
            go_wp2_with fail
            refine CP2.out.mono ?_
            rintro e w4 ⟨rfl, rfl⟩
            go_wp2_with fail
            refine (CR.out _).mono ?_
            rintro e w5 ⟨rfl, rfl⟩
            go_wp2_with fail
            refine (CW.out _).mono ?_
            rintro e w6 ⟨rfl, rfl⟩
            clear CP2 CR CW
            go_wp2
            go_roundg (zk - (j + 1))
            case measure => have := HE3.out; omega
            case rel => exact ⟨j + 1, by go_num, by omega, by have := HE3.out; omega, HK3.out⟩
          · obtain rfl : j = zk := by omega
            go_wp2
            go_roundg (l0 - (k + 1))
            case measure => have := HE.out; have := HLT.out; omega
            case rel => exact ⟨k + 1, by go_num, by have := HLT.out; omega, by omega, HK3.out⟩
    · obtain rfl : k = l0 := by omega
      go_wp2
      go_ret
      exact ⟨rfl, HK.out⟩
end Go.Proofs.Ytgnikgkpbibmgaa
