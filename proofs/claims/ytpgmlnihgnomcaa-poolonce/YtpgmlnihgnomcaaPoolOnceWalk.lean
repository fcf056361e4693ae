/-
  PoolOnce: the walk.
-/
import Derived.Test.YtpgmlnihgnomcaaTaken
import Derived.Test.YtpgmlnihgnomcaaOpen8
import Derived.Deep.CutBlock
namespace Go.Proofs.Ytpgmlnihgnomcaa
open Go.RowKit

theorem give_no {n : Nat} {F : Nat → Bool} {i : Int} (h : giveB n F i = false) : giveF n F i = F := by simp [giveF, h]
theorem give_yes {n : Nat} {F : Nat → Bool} {i : Int} (h : giveB n F i = true) : giveF n F i = setB F i.toNat true := by simp [giveF, h]

/-- How it stands behind the switch: the numbers T are taken, and not yet marked. -/
structure Mid (w wc : World) (b g go n : Nat) (F : Nat → Bool) (T : List Nat) (k base : Nat) (y : Option Addr) (d : Nat) : Prop where
  once : Once w wc b g go n F (outF F (T.drop k))
  got : Got wc base (.slice y T.length d) T
  lob : go < base
  rise : T.Pairwise (· < ·)
  all : ∀ t, t ∈ T → t < n ∧ F t = false

set_option maxHeartbeats 2000000 in
set_option maxRecDepth 20000 in
theorem once_bad (n : Int) (x : Option Addr) (l c : Nat) (w : World) (hn : ¬ (0 ≤ n ∧ n ≤ 1024)) :
    Calls Try.prog 4 #[.int .i64 n, .slice x l c] w fun e w' => e = .returned (.bool true) ∧ Kept w w' := by
  have HN : Hid (∀ w, _) := fun w => new_bad n w hn
  clear hn
  go_enter Try.func4, Try.ntmps4
  go_wp2_with fail
  refine (first_any _).mono ?_
  rintro e w1 ⟨rfl, k1⟩
  have K1 : Hid (Kept w w1) := k1
  clear k1
  go_wp2_with fail
  refine (HN.out _).mono ?_
  rintro e w2 ⟨rfl, rfl⟩
  go_wp2_with fail
  refine (first_any _).mono ?_
  rintro e w3 ⟨rfl, k3⟩
  have K3 : Hid (Kept w w3) := K1.out.trans k3
  clear k3
  go_wp2
  go_ret
  exact ⟨rfl, K3.out⟩

set_option maxHeartbeats 2000000 in
set_option maxRecDepth 20000 in
theorem once_out (n : Nat) (x : Option Addr) (l c : Nat) (w : World) (hn : n ≤ 1024) (ho : 300 < (l : Int)) :
    Calls Try.prog 4 #[.int .i64 n, .slice x l c] w fun e w' => e = .returned (.bool true) ∧ Kept w w' := by
  go_enter Try.func4, Try.ntmps4
  go_wp2_with fail
  refine (first_any _).mono ?_
  rintro e w1 ⟨rfl, k1⟩
  have K1 : Hid (Kept w w1) := k1
  clear k1
  go_wp2_with fail
  refine (new_any n _ hn).mono ?_
  rintro e w2 ⟨b, g, rfl, _, _, _, k2⟩
  have K2 : Hid (Kept w w2) := K1.out.trans k2
  clear k2 K1
  go_wp2_with fail
  refine (first_any _).mono ?_
  rintro e w3 ⟨rfl, k3⟩
  have K3 : Hid (Kept w w3) := K2.out.trans k3
  clear k3
  go_wp2
  go_ret
  exact ⟨rfl, K3.out⟩

set_option maxHeartbeats 8000000 in
set_option maxRecDepth 20000 in
theorem once_in (n : Nat) (x : Option Addr) (l c : Nat) (L : Nat → Op8) (w : World) (hX : Ops w x l L) (hn : (n : Int) ≤ 1024) (hl : (l : Int) ≤ 300) :
    Calls Try.prog 4 #[.int .i64 n, .slice x l c] w fun e w' => e = .returned (.bool true) ∧ Kept w w' := by
  have HX : Hid (Ops w x l L) := hX
  clear hX
  have hmk := run_make_bools n (by omega)
  go_enter Try.func4, Try.ntmps4
  go_wp2_with fail
  refine (first_any _).mono ?_
  rintro e w1 ⟨rfl, k1⟩
  have K1 : Hid (Kept w w1) := k1
  clear k1
  go_wp2_with fail
  refine (new_any n _ (by omega)).mono ?_
  rintro e w2 ⟨b, g, rfl, ht, hb, hg, k2⟩
  have H2 : Hid (PTab 46 w2 b g n F1 ∧ w.heap.size ≤ g ∧ Kept w w2) := ⟨ht, by have := K1.out.size; omega, K1.out.trans k2⟩
  clear ht hb hg k2 K1
  have H3 : Hid (Once w (w2.alloc (.cells (madeCells #[.bool false] n) 4)) b g w2.heap.size n F1 (outF F1 [])) :=
    ⟨H2.out.1.alloc _ _, (World.rowIs_made w2 (.bool false) n 4).congr fun j _ => by simp [outF, F1], H2.out.2.1, H2.out.2.2.size, by have := H2.out.1.ltg; omega, by have := H2.out.1.ltb; omega, H2.out.2.2.alloc _ _⟩
  clear H2
  go_wp2
  clear hmk
  have E0 : Hid (cntB F1 n = n) := cntB_all fun _ _ => rfl
  generalize w2.heap.size = go at *
  go_loopg [8, 9] l (fun m aw i wr' => ∃ (j A : Nat) (F : Nat → Bool), i = .int .i64 j ∧ aw = .int .i64 A ∧ j ≤ l ∧ m = l - j ∧ A + cntB F n = n ∧ Hid (Once w wr' b g go n F (outF F [])))
  case atStart => exact ⟨0, 0, F1, rfl, rfl, by omega, by omega, by have := E0.out; omega, H3.out⟩
  case round =>
    obtain ⟨k, A, F, rfl, rfl, hk, hm, hA, HR⟩ := hrel
    have HM : Hid _ := hm
    clear hm H3 E0
    by_cases hlt : k < l
    · obtain ⟨bx, ox, rfl, hbx, hcx⟩ := HX.out (by omega)
      have e0 : wr.cell? ⟨bx, ox + k * 2, none⟩ = _ := (HR.out.kept.cell hbx).trans (hcx k hlt 0 _ (by omega) rfl)
      have e1 : wr.cell? ⟨bx, ox + k * 2 + 1, none⟩ = _ := (HR.out.kept.cell hbx).trans (hcx k hlt 1 _ (by omega) rfl)
      clear hcx hbx HX
      generalize L k = o at *
      obtain ⟨ok, oi⟩ := o
      simp only at e0 e1
      go_upto_block 2 with fail
      clear e0 e1
      generalize hW : wr.alloc _ = W
      have BO : Hid (Blk W wr.heap.size [.int .i64 ok, .int .i64 oi]) := by rw [← hW]; exact Blk.new wr _ _
      have HW : Hid (Once w W b g go n F (outF F [])) := by rw [← hW]; exact HR.out.still ((Kept.refl wr).alloc _ _)
      have NE : Hid (wr.heap.size ≠ g ∧ wr.heap.size ≠ go) := by have := HR.out.tab.row.lt; have := HR.out.out.lt; simp [Hid]; omega
      clear hW HR
      generalize wr.heap.size = ob at *
      go_cut [8, 11, 12, 13] from 44 to 201 (fun aw v s12 s13 wc => ∃ (A : Nat) (F : Nat → Bool) (T : List Nat) (base : Nat) (y : Option Addr) (d : Nat), aw = .int .i64 A ∧ v = .slice y T.length d ∧ A + cntB F n + T.length = n ∧ Hid (Mid w wc b g go n F T 0 base y d))
      case first =>
        have c0 := BO.out.at 0 rfl
        have c1 := BO.out.at 1 rfl
        by_cases h0 : ok = 0
        · have h0' : (ok == 0) = true := by simpa using h0
          clear h0
          cases ht : takeB n F oi
          · have h2 : ¬ (1 ≤ oi ∧ oi ≤ cntB F n) := by simpa [takeB] using ht
            have E : Hid (takeL n F oi = []) := take_no ht
            have h3 : oi < 1 ∨ (1 ≤ oi ∧ (cntB F n : Int) < oi) := by omega
            clear h2
            rcases h3 with h3 | ⟨h3, h4⟩
            all_goals go_wp2_with fail
            all_goals (refine (take_any oi _ HW.out.tab).mono ?_; rintro e w4 ⟨v, rfl, hg, hp, hm⟩)
            all_goals rw [ht]
            all_goals (rw [E.out] at hg hp; rw [dropF_nil] at hp)
            all_goals (obtain ⟨y, d, rfl⟩ := hg.form; simp only [List.length_nil])
            all_goals (have HE : Hid (Mid w w4 b g go n F [] 0 W.heap.size y d ∧ Blk w4 ob [.int .i64 ok, .int .i64 oi]) := ⟨⟨HW.out.step hp hm, hg, HW.out.out.lt, List.Pairwise.nil, fun _ h => by cases h⟩, BO.out.muts hm (by have := NE.out.1; simpa using this)⟩)
            all_goals clear hg hp hm c0 c1 ht
            all_goals have c1 := HE.out.2.at 1 rfl
            · go_wp2
              go_meet
              case rel => exact ⟨A, F, [], _, y, d, rfl, rfl, by simpa using hA, HE.out.1⟩
            · have z : decide (oi ≤ (n : Int) - (A : Int)) = false := decide_eq_false (by omega)
              go_wp2
              go_meet
              case rel => exact ⟨A, F, [], _, y, d, rfl, rfl, by simpa using hA, HE.out.1⟩
          · have h2 : 1 ≤ oi ∧ oi ≤ cntB F n := by simpa [takeB] using ht
            obtain ⟨h2, h3⟩ := h2
            have HT : Hid (Good n F (takeL n F oi) ∧ (takeL n F oi).length = oi.toNat) := ⟨takeL_good n F oi, takeL_len ht⟩
            go_wp2_with fail
            refine (take_any oi _ HW.out.tab).mono ?_
            rintro e w4 ⟨v, rfl, hg, hp, hm⟩
            rw [ht]
            generalize takeL n F oi = T at *
            obtain ⟨y, d, rfl⟩ := hg.form
            have HE : Hid (Mid w w4 b g go n (dropF F T) T 0 W.heap.size y d ∧ Blk w4 ob [.int .i64 ok, .int .i64 oi]) := ⟨⟨by
              have := HW.out.step hp hm
              rw [← outF_drop HT.out.1] at this
              exact this, hg, HW.out.out.lt, HT.out.1.rise, fun t h => ⟨(HT.out.1.all t h).1, by simp [dropF, h]⟩⟩, BO.out.muts hm (by have := NE.out.1; simpa using this)⟩
            clear hg hp hm c0 c1 ht
            have c1 := HE.out.2.at 1 rfl
            have z : decide (oi ≤ (n : Int) - (A : Int)) = true := decide_eq_true (by omega)
            have z2 : ((T.length : Int) != oi) = false := by
              have := HT.out.2
              simp
              omega
            go_wp2
            go_meet
            case rel => exact ⟨A, dropF F T, T, _, y, d, rfl, rfl, by have := HT.out.1.cnt; omega, HE.out.1⟩
        · have h0' : (ok == 0) = false := by simpa using h0
          clear h0
          by_cases h1 : ok = 1
          · have h1' : (ok == 1) = true := by simpa using h1
            clear h1
            have HT : Hid (Good n F (lowL n F oi) ∧ (lowL n F oi).length = min oi.toNat (cntB F n)) := ⟨lowL_good n F oi, lowL_len n F oi⟩
            go_wp2_with fail
            refine (low_any oi _ HW.out.tab).mono ?_
            rintro e w4 ⟨v, rfl, hg, hp, hm⟩
            generalize lowL n F oi = T at *
            obtain ⟨y, d, rfl⟩ := hg.form
            have HE : Hid (Mid w w4 b g go n (dropF F T) T 0 W.heap.size y d ∧ Blk w4 ob [.int .i64 ok, .int .i64 oi]) := ⟨⟨by
              have := HW.out.step hp hm
              rw [← outF_drop HT.out.1] at this
              exact this, hg, HW.out.out.lt, HT.out.1.rise, fun t h => ⟨(HT.out.1.all t h).1, by simp [dropF, h]⟩⟩, BO.out.muts hm (by have := NE.out.1; simpa using this)⟩
            clear hg hp hm c0 c1
            have c1 := HE.out.2.at 1 rfl
            obtain ⟨q, hq⟩ : ∃ q, (if (n : Int) - (A : Int) < oi then (n : Int) - (A : Int) else oi) = q := ⟨_, rfl⟩
            have hq2 : (if q > 0 then q else 0) = (T.length : Int) := by
              have := HT.out.2
              rw [← hq]
              split <;> split at * <;> omega
            have z2 : ((T.length : Int) != (T.length : Int)) = false := by simp
            go_wp2
            go_meet
            case rel => exact ⟨A, dropF F T, T, _, y, d, rfl, rfl, by have := HT.out.1.cnt; omega, HE.out.1⟩
          · have h1' : (ok == 1) = false := by simpa using h1
            clear h1
            by_cases h2 : ok = 2
            · have h2' : (ok == 2) = true := by simpa using h2
              clear h2
              rcases (show oi < 0 ∨ (0 ≤ oi ∧ (n : Int) ≤ oi) ∨ (0 ≤ oi ∧ oi < n) by omega) with h3 | ⟨h3, h4⟩ | ⟨h3, h4⟩
              · have hg0 : giveB n F oi = false := by simp [giveB, inn]; omega
                have G0 : Hid (giveB n F oi = false ∧ giveF n F oi = F) := ⟨hg0, give_no hg0⟩
                clear hg0
                go_wp2_with fail
                refine (give_any oi _ HW.out.tab).mono ?_
                rintro e w4 ⟨rfl, ht, hm⟩
                rw [G0.out.2] at ht
                rw [G0.out.1]
                have HE : Hid (Mid w w4 b g go n F [] 0 (go + 1) none 0) := ⟨HW.out.step ht hm, Got.nil _ _, by omega, List.Pairwise.nil, fun _ h => by cases h⟩
                clear ht hm c0 c1
                go_wp2
                go_meet
                case rel => exact ⟨A, F, [], _, none, 0, rfl, rfl, by simpa using hA, HE.out⟩
              · have hg0 : giveB n F oi = false := by simp [giveB, inn]; omega
                have G0 : Hid (giveB n F oi = false ∧ giveF n F oi = F) := ⟨hg0, give_no hg0⟩
                clear hg0
                go_wp2_with fail
                refine (give_any oi _ HW.out.tab).mono ?_
                rintro e w4 ⟨rfl, ht, hm⟩
                rw [G0.out.2] at ht
                rw [G0.out.1]
                have HE : Hid (Mid w w4 b g go n F [] 0 (go + 1) none 0) := ⟨HW.out.step ht hm, Got.nil _ _, by omega, List.Pairwise.nil, fun _ h => by cases h⟩
                clear ht hm c0 c1
                go_wp2
                go_meet
                case rel => exact ⟨A, F, [], _, none, 0, rfl, rfl, by simpa using hA, HE.out⟩
              · obtain ⟨u, rfl⟩ : ∃ u : Nat, oi = u := ⟨oi.toNat, by omega⟩
                have hu : inn n u = true := inn_of (by omega)
                have cO := HW.out.out.cell (i := u) (by omega)
                cases hf : F u
                · have e1 : outF F [] u = true := by simp [outF, hf]
                  rw [e1] at cO
                  have G0 : Hid (giveB n F u = true ∧ giveF n F u = setB F u true ∧ cntB (setB F u true) n = cntB F n + 1) := ⟨by simp [giveB, hf, hu], by rw [give_yes (by simp [giveB, hf, hu])]; simp, cntB_set_true hf (by omega)⟩
                  have hA1 : 1 ≤ A := by
                    have := cntB_le (setB F u true) n
                    have := G0.out.2.2
                    omega
                  clear hu hf e1
                  go_wp2_with fail
                  refine (give_any u _ HW.out.tab).mono ?_
                  rintro e w4 ⟨rfl, ht, hm⟩
                  rw [G0.out.2.1] at ht
                  rw [G0.out.1]
                  have HE : Hid (Once w w4 b g go n (setB F u true) (outF F []) ∧ Blk w4 ob [.int .i64 ok, .int .i64 u]) := ⟨HW.out.step ht hm, BO.out.muts hm (by have := NE.out.1; simpa using this)⟩
                  clear ht hm c0 c1 cO
                  have c1 := HE.out.2.at 1 rfl
                  have cO := HE.out.1.out.cell (i := u) (by omega)
                  have cf := HE.out.1.out.frozen
                  go_wp2
                  go_meet
                  case rel => exact ⟨A - 1, setB F u true, [], go + 1, none, 0, by go_num, rfl, by have := G0.out.2.2; simp; omega, by have := HE.out.1.set u false; rwa [← outF_give] at this, Got.nil _ _, by omega, List.Pairwise.nil, fun _ h => by cases h⟩
                · have e1 : outF F [] u = false := by simp [outF, hf]
                  rw [e1] at cO
                  have hg0 : giveB n F u = false := by simp [giveB, hf]
                  have G0 : Hid (giveB n F u = false ∧ giveF n F u = F) := ⟨hg0, give_no hg0⟩
                  clear hu hf e1 hg0
                  go_wp2_with fail
                  refine (give_any u _ HW.out.tab).mono ?_
                  rintro e w4 ⟨rfl, ht, hm⟩
                  rw [G0.out.2] at ht
                  rw [G0.out.1]
                  have HE : Hid (Mid w w4 b g go n F [] 0 (go + 1) none 0) := ⟨HW.out.step ht hm, Got.nil _ _, by omega, List.Pairwise.nil, fun _ h => by cases h⟩
                  clear ht hm c0 c1 cO
                  go_wp2
                  go_meet
                  case rel => exact ⟨A, F, [], _, none, 0, rfl, rfl, by simpa using hA, HE.out⟩
            · have h2' : (ok == 2) = false := by simpa using h2
              clear h2
              go_wp2
              go_meet
              case rel => exact ⟨A, F, [], go + 1, none, 0, rfl, rfl, by simpa using hA, HW.out, Got.nil _ _, by omega, List.Pairwise.nil, fun _ h => by cases h⟩
      case rest =>
        clear hA
        obtain ⟨A, F, T, base, y, d, rfl, rfl, hA, HC⟩ := hcut
        go_wp2
        have hTn : T.length ≤ n := by omega
        go_loopg [8, 14] T.length (fun m aw i wr2 => ∃ (j A : Nat), i = .int .i64 j ∧ aw = .int .i64 A ∧ j ≤ T.length ∧ m = T.length - j ∧ A + cntB F n + (T.length - j) = n ∧ Hid (Mid w wr2 b g go n F T j base y d))
        case atStart => exact ⟨0, A, rfl, rfl, by omega, by omega, by omega, HC.out⟩
        case round =>
          clear hA
          have hc := cntB_le F n
          obtain ⟨j, A, rfl, rfl, hj, hm, hA, HC⟩ := hrel
          have HM2 : Hid _ := hm
          clear hm
          by_cases hjl : j < T.length
          · obtain ⟨gl, rfl, hgl, hgs, cl⟩ := HC.out.got.at hjl
            have c1 := cl j hjl
            have ht := HC.out.all T[j] (by simp)
            have cO := HC.out.once.out.cell ht.1
            rw [outF_at hjl] at cO
            have lo := HC.out.once.out.lt
            have d1 := fun z : KW wr => z.cell hgs c1
            have d2 := fun z : KW wr => z.cell lo cO
            have HS : Hid (setB (outF F (T.drop j)) T[j] true = outF F (T.drop (j + 1))) := outF_step HC.out.rise hjl ht.2
            have h0 : 0 < j → T[j - 1] < T[j] := fun h => (List.pairwise_iff_getElem.1 HC.out.rise) (j - 1) j (by omega) hjl (by omega)
            have h1 := ht.1
            have e0 : 0 < j → wr.cell? ⟨gl, j - 1, none⟩ = some (.int .i64 (T[j - 1] : Nat)) := fun h => cl (j - 1) (by omega)
            clear ht cl
            generalize T[j] = t at *
            have g1 : decide ((t : Int) < 0) = false := decide_eq_false (by omega)
            have g2 : decide ((n : Int) ≤ (t : Int)) = false := decide_eq_false (by omega)
            have g2a : decide ((t : Int) ≥ (n : Int)) = false := decide_eq_false (by omega)
            have g2b : decide (n ≤ t) = false := decide_eq_false (by omega)
            by_cases hj0 : j = 0
            · have g3 : decide (0 < (j : Int)) = false := decide_eq_false (by omega)
              have g3a : decide ((j : Int) > 0) = false := decide_eq_false (by omega)
              have g3b : decide (0 < j) = false := decide_eq_false (by omega)
              clear h0 e0 hj0 c1 cO
              go_upto_region 33 with fail
              refine wp_region_kept (by kernel_rfl) (by kernel_rfl) fun _ => ?_
              repeat (go_big_quiet_step (fail))
              refine wpQuiet_nil ?_
              rintro _ ⟨z, rfl⟩
              have HZ : Hid (Mid w z.it b g go n F T j base (some ⟨gl, 0, none⟩) d) := ⟨HC.out.once.still z.ok, HC.out.got.kept z.ok, HC.out.lob, HC.out.rise, HC.out.all⟩
              have c1 := d1 z
              have cO := d2 z
              have cf := HZ.out.once.out.frozen
              clear d1 d2 HC
              go_wp2
              go_roundg (gk - 1)
              all_goals (have := HM2.out; try omega)
              exact ⟨j + 1, A + 1, by go_num, by go_num, by omega, by omega, by omega, by have := HZ.out.once.set t true; rwa [HS.out] at this, HZ.out.got.set (a := ⟨go, t, none⟩) HZ.out.lob _, HZ.out.lob, HZ.out.rise, HZ.out.all⟩
            · obtain ⟨i, rfl⟩ : ∃ i, j = i + 1 := ⟨j - 1, by omega⟩
              have h2 := h0 (by omega)
              have e1 := e0 (by omega)
              have d3 := fun z : KW wr => z.cell hgs e1
              simp only [Nat.add_sub_cancel] at h2 d3
              clear h0 e0 hj0 c1 cO e1
              generalize T[i] = t2 at *
              have g3 : decide (0 < ((i + 1 : Nat) : Int)) = true := decide_eq_true (by omega)
              have g4 : decide ((t : Int) ≤ (t2 : Int)) = false := decide_eq_false (by omega)
              have g4b : decide (t ≤ t2) = false := decide_eq_false (by omega)
              have g5 : ((i + 1 : Nat) : Int) - 1 = (i : Int) := by omega
              have g5a : (i : Int) + 1 - 1 = (i : Int) := by omega
              go_upto_region 33 with fail
              refine wp_region_kept (by kernel_rfl) (by kernel_rfl) fun _ => ?_
              repeat (go_big_quiet_step (fail))
              refine wpQuiet_nil ?_
              rintro _ ⟨z, rfl⟩
              have HZ : Hid (Mid w z.it b g go n F T (i + 1) base (some ⟨gl, 0, none⟩) d) := ⟨HC.out.once.still z.ok, HC.out.got.kept z.ok, HC.out.lob, HC.out.rise, HC.out.all⟩
              have c1 := d1 z
              have cO := d2 z
              have cf := HZ.out.once.out.frozen
              clear d3
              clear d1 d2 HC
              go_wp2
              go_roundg (gk - 1)
              all_goals (have := HM2.out; try omega)
              exact ⟨(i + 1) + 1, A + 1, by go_num, by go_num, by omega, by omega, by omega, by have := HZ.out.once.set t true; rwa [HS.out] at this, HZ.out.got.set (a := ⟨go, t, none⟩) HZ.out.lob _, HZ.out.lob, HZ.out.rise, HZ.out.all⟩
          · obtain e : T.length - j = 0 := by omega
            have hA2 : (cntB F n : Int) = (n : Int) - (A : Int) := by omega
            have HE : Hid (outF F (T.drop j) = outF F []) := by rw [List.drop_eq_nil_of_le (by omega)]; exact rfl
            obtain rfl : j = T.length := by omega
            go_wp2_with fail
            refine (free_any _ HC.out.once.tab).mono ?_
            rintro e w5 ⟨rfl, rfl⟩
            have z2 : ((cntB F n : Int) != (n : Int) - (A : Int)) = false := by simp; omega
            clear hA2
            go_wp2
            go_roundg (l - (k + 1))
            all_goals (have := HM.out; try omega)
            exact ⟨k + 1, A, F, by go_num, rfl, by omega, rfl, by omega, by have := HC.out.once; rwa [HE.out] at this⟩
    · obtain rfl : l = k := by omega
      have K2 : Hid (Kept w wr) := HR.out.kept
      clear HR HM
      go_wp2_with fail
      refine (first_any _).mono ?_
      rintro e w3 ⟨rfl, k3⟩
      have K3 : Hid (Kept w w3) := K2.out.trans k3
      clear k3
      go_wp2
      go_ret
      exact ⟨rfl, K3.out⟩
end Go.Proofs.Ytpgmlnihgnomcaa
