/-
  TintSums: the walk.
-/
import Derived.Test.YtbipkhcgnimgkaaTintNew
import Derived.Test.YtbipkhcgnimgkaaOpen7
import Derived.Deep.CutBlock
namespace Go.Proofs.Ytbipkhcgnimgkaa
open Go.RowKit

/-- States are states; heads are Used. -/
structure Fine (n : Nat) (T : Nat → Fr) : Prop where
  all : ∀ j, j < n → ((T j).s = 0 ∨ (T j).s = 1 ∨ (T j).s = 2) ∧ ((T j).h = true → (T j).s = 2)
theorem Fine.first (n : Nat) : Fine n T0 := ⟨fun j _ => by simp [T0]⟩
theorem isSt_of {s : Int} (h : isSt s = true) : s = 0 ∨ s = 1 ∨ s = 2 := by
  simp [isSt] at h
  omega
theorem Fine.set {n : Nat} {T : Nat → Fr} (h : Fine n T) (i s : Int) (p c : Bool) : Fine n (setT n T i s p c) := by
  refine ⟨fun j hj => ?_⟩
  cases e : inn n i && isSt s
  · simpa [setT, e] using h.all j hj
  · by_cases q : j = i.toNat
    · simp only [Bool.and_eq_true] at e
      simp [setT, e, q]
      exact isSt_of e.2
    · simpa [setT, e, q] using h.all j hj
theorem usd_s {n : Nat} {T : Nat → Fr} {i : Int} (h : usd n T i = true) : (T i.toNat).s = 2 := by
  simp [usd] at h
  exact h.2
theorem Fine.born {n : Nat} {T : Nat → Fr} (h : Fine n T) (i : Int) : Fine n (bornT n T i) := by
  refine ⟨fun j hj => ?_⟩
  cases e : bornB n T i
  · simpa [bornT, e] using h.all j hj
  · by_cases q : j = i.toNat
    · have : (T i.toNat).s = 2 := by
        simp [bornB] at e
        exact usd_s e.1
      simp [bornT, e, q, this]
    · simpa [bornT, e, q] using h.all j hj
theorem Fine.mark {n : Nat} {T : Nat → Fr} (h : Fine n T) (i : Int) (c : Bool) : Fine n (markT n T i c) := by
  refine ⟨fun j hj => ?_⟩
  cases e : markB n T i c
  · simpa [markT, e] using h.all j hj
  · by_cases q : j = i.toNat
    · subst q
      simpa [markT, e] using h.all i.toNat hj
    · simpa [markT, e, q] using h.all j hj
theorem Fine.sum {n : Nat} {T : Nat → Fr} (h : Fine n T) : ∀ k, k ≤ n → cnt T 0 k + cnt T 1 k + cnt T 2 k = k
  | 0, _ => rfl
  | k + 1, hk => by
    have ih := h.sum k (by omega)
    simp only [cnt]
    rcases (h.all k (by omega)).1 with e | e | e <;> simp [e] <;> omega
theorem Fine.hd {n : Nat} {T : Nat → Fr} {i : Int} (h : Fine n T) (u : usd n T i = false) : hdd n T i = false := by
  cases e : inn n i
  · simp [hdd, e]
  · obtain ⟨j, rfl, hj⟩ := inn_iff e
    have := h.all j hj
    simp [usd, e] at u
    cases q : (T j).h
    · simp [hdd, q]
    · exact absurd (this.2 q) u
theorem stt_usd (n : Nat) (T : Nat → Fr) (i : Int) : (stt n T i == 2) = usd n T i := by
  cases e : inn n i <;> simp [stt, usd, e]
theorem mark_B (n : Nat) (T : Nat → Fr) (i : Int) (c : Bool) : markB n T i c = (usd n T i && !blk n T i c) := by
  cases h : usd n T i <;> simp [markB, blk, h]
theorem mark_2 (n : Nat) (T : Nat → Fr) (i : Int) (c : Bool) : usd n (markT n T i c) i = usd n T i ∧ markB n (markT n T i c) i c = false ∧ markT n (markT n T i c) i c = markT n T i c ∧ blk n (markT n T i c) i c = usd n T i := by
  cases e : markB n T i c
  · have hT : markT n T i c = T := by simp [markT, e]
    rw [hT]
    refine ⟨rfl, e, hT, ?_⟩
    rw [mark_B] at e
    cases h : usd n T i
    · simp [blk, h]
    · simpa [h] using e
  · have hT : markT n T i c = fun j => if j = i.toNat then ⟨(T j).s, (T j).h, c⟩ else T j := by simp [markT, e]
    have hu : usd n T i = true := by
      rw [mark_B] at e
      simp at e
      exact e.1
    have hu2 : usd n (markT n T i c) i = true := by
      rw [hT]
      simpa [usd] using hu
    have hc : ((markT n T i c) i.toNat).c = c := by rw [hT]; simp
    have hm : markB n (markT n T i c) i c = false := by simp [markB, hc]
    exact ⟨hu2.trans hu.symm, hm, by rw [markT, hm]; simp, by simp [blk, hu2, hu, hc]⟩

/-- How it stands between two operations. -/
structure Run (w wr : World) (b g n : Nat) (T : Nat → Fr) : Prop where
  tab : Tab wr b g n T
  fine : Fine n T
  lg : w.heap.size ≤ g
  kept : Kept w wr
theorem Run.step {w wr w' : World} {b g n : Nat} {T T' : Nat → Fr} (h : Run w wr b g n T) (t : Tab w' b g n T') (f : Fine n T') (m : Mut [g] wr w') : Run w w' b g n T' := ⟨t, f, h.lg, h.kept.muts m (by simpa using h.lg)⟩
theorem Run.still {w wr w' : World} {b g n : Nat} {T : Nat → Fr} (h : Run w wr b g n T) (k : Kept wr w') : Run w w' b g n T := ⟨h.tab.kept k, h.fine, h.lg, h.kept.trans k⟩

set_option maxHeartbeats 8000000 in
set_option maxRecDepth 20000 in
theorem sums_bad (n : Int) (x : Option Addr) (l c : Nat) (w : World) (hn : ¬ (0 ≤ n ∧ n ≤ 1024)) :
    Calls Try.prog 4 #[.int .i64 n, .slice x l c] w fun e w' => e = .returned (.bool true) ∧ Kept w w' := by
  have HN : Hid (∀ w, _) := fun w => new_bad n w hn
  rcases (show n < 0 ∨ (0 ≤ n ∧ 1024 < n) by omega) with h | ⟨h, h1⟩
  · clear hn
    go_enter Try.func4, Try.ntmps4
    go_wp2_with fail
    refine (first_any _).mono ?_
    rintro e w1 ⟨rfl, k1⟩
    have K1 : Hid (Kept w w1) := k1
    clear k1
    go_wp2_with fail
    refine (HN.out _).mono ?_
    rintro e w2 ⟨rfl, rfl⟩
    go_wp2_with fail
    refine (first_any _).mono ?_
    rintro e w9 ⟨rfl, k9⟩
    have K9 : Hid (Kept w w9) := K1.out.trans k9
    clear k9
    go_wp2
    go_ret
    refine ⟨?_, K9.out⟩
    first | rfl | (simp; omega)
  · clear hn
    go_enter Try.func4, Try.ntmps4
    go_wp2_with fail
    refine (first_any _).mono ?_
    rintro e w1 ⟨rfl, k1⟩
    have K1 : Hid (Kept w w1) := k1
    clear k1
    go_wp2_with fail
    refine (HN.out _).mono ?_
    rintro e w2 ⟨rfl, rfl⟩
    go_wp2_with fail
    refine (first_any _).mono ?_
    rintro e w9 ⟨rfl, k9⟩
    have K9 : Hid (Kept w w9) := K1.out.trans k9
    clear k9
    go_wp2
    go_ret
    refine ⟨?_, K9.out⟩
    first | rfl | (simp; omega)

set_option maxHeartbeats 8000000 in
set_option maxRecDepth 20000 in
theorem sums_out (n : Nat) (x : Option Addr) (l c : Nat) (w : World) (hn : (n : Int) ≤ 1024) (ho : 300 < (l : Int)) :
    Calls Try.prog 4 #[.int .i64 n, .slice x l c] w fun e w' => e = .returned (.bool true) ∧ Kept w w' := by
  go_enter Try.func4, Try.ntmps4
  go_wp2_with fail
  refine (first_any _).mono ?_
  rintro e w1 ⟨rfl, k1⟩
  have K1 : Hid (Kept w w1) := k1
  clear k1
  go_wp2_with fail
  refine (new_any n w1 (by omega)).mono ?_
  rintro e w2 ⟨b, g, rfl, ht, hb, hg, k2⟩
  have H2 : Hid (Tab w2 b g n T0 ∧ w.heap.size ≤ g ∧ Kept w w2) := ⟨ht, by have := K1.out.size; omega, K1.out.trans k2⟩
  clear ht hb hg k2 K1
  have K2 : Hid (Kept w w2) := H2.out.2.2
  clear H2
  go_wp2_with fail
  refine (first_any _).mono ?_
  rintro e w9 ⟨rfl, k9⟩
  have K9 : Hid (Kept w w9) := K2.out.trans k9
  clear k9
  go_wp2
  go_ret
  refine ⟨?_, K9.out⟩
  first | rfl | (simp; omega)

set_option maxHeartbeats 8000000 in
set_option maxRecDepth 20000 in
theorem sums_in (n : Nat) (x : Option Addr) (l c : Nat) (L : Nat → Op7) (w : World) (hX : Ops w x l L) (hn : (n : Int) ≤ 1024) (hl : (l : Int) ≤ 300) :
    Calls Try.prog 4 #[.int .i64 n, .slice x l c] w fun e w' => e = .returned (.bool true) ∧ Kept w w' := by
  have HX : Hid (Ops w x l L) := hX
  clear hX
  go_enter Try.func4, Try.ntmps4
  go_wp2_with fail
  refine (first_any _).mono ?_
  rintro e w1 ⟨rfl, k1⟩
  have K1 : Hid (Kept w w1) := k1
  clear k1
  go_wp2_with fail
  refine (new_any n w1 (by omega)).mono ?_
  rintro e w2 ⟨b, g, rfl, ht, hb, hg, k2⟩
  have H2 : Hid (Tab w2 b g n T0 ∧ w.heap.size ≤ g ∧ Kept w w2) := ⟨ht, by have := K1.out.size; omega, K1.out.trans k2⟩
  clear ht hb hg k2 K1
  have H3 : Hid (Run w w2 b g n T0) := ⟨H2.out.1, Fine.first n, H2.out.2.1, H2.out.2.2⟩
  clear H2
  go_wp2
  go_loopg [7] l (fun m i wr' => ∃ (j : Nat) (T : Nat → Fr), i = .int .i64 j ∧ j ≤ l ∧ m = l - j ∧ Hid (Run w wr' b g n T))
  case atStart => exact ⟨0, _, rfl, by omega, by omega, H3.out⟩
  case round =>
    obtain ⟨k, T, rfl, hk, hm, HR⟩ := hrel
    have HM : Hid _ := hm
    clear hm H3
    by_cases hlt : k < l
    · obtain ⟨bx, ox, rfl, hbx, hcx⟩ := HX.out (by omega)
      have e0 : wr.cell? ⟨bx, ox + k * 5, none⟩ = _ := (HR.out.kept.cell hbx).trans (hcx k hlt 0 _ (by omega) rfl)
      have e1 : wr.cell? ⟨bx, ox + k * 5 + 1, none⟩ = _ := (HR.out.kept.cell hbx).trans (hcx k hlt 1 _ (by omega) rfl)
      have e2 : wr.cell? ⟨bx, ox + k * 5 + 2, none⟩ = _ := (HR.out.kept.cell hbx).trans (hcx k hlt 2 _ (by omega) rfl)
      have e3 : wr.cell? ⟨bx, ox + k * 5 + 3, none⟩ = _ := (HR.out.kept.cell hbx).trans (hcx k hlt 3 _ (by omega) rfl)
      have e4 : wr.cell? ⟨bx, ox + k * 5 + 4, none⟩ = _ := (HR.out.kept.cell hbx).trans (hcx k hlt 4 _ (by omega) rfl)
      clear hcx hbx HX
      generalize L k = o at *
      obtain ⟨ok, oi, os, oh, oc⟩ := o
      simp only at e0 e1 e2 e3 e4
      go_upto_block 2 with fail
      clear e0 e1 e2 e3 e4
      generalize hW : wr.alloc _ = W
      have BO : Hid (Blk W wr.heap.size [.int .i64 ok, .int .i64 oi, .int .i64 os, .bool oh, .bool oc]) := by rw [← hW]; exact Blk.new wr _ _
      have HW : Hid (Run w W b g n T) := by rw [← hW]; exact HR.out.still ((Kept.refl wr).alloc _ _)
      have NE : Hid (wr.heap.size ≠ g) := by have := HR.out.tab.row.lt; simp [Hid]; omega
      clear hW HR
      generalize wr.heap.size = ob at *
      go_cut [] from 41 to 155 (fun wc => ∃ T, Hid (Run w wc b g n T ∧ Blk wc ob [.int .i64 ok, .int .i64 oi, .int .i64 os, .bool oh, .bool oc]))
      case first =>
        have c0 := BO.out.at 0 rfl
        have c1 := BO.out.at 1 rfl
        have c2 := BO.out.at 2 rfl
        have c3 := BO.out.at 3 rfl
        have c4 := BO.out.at 4 rfl
        by_cases h0 : ok = 0
        · have h0' : (ok == 0) = true := by simpa using h0
          clear h0
          go_wp2_with fail
          refine (set_any oi os oh oc _ HW.out.tab).mono ?_
          rintro e w4 ⟨rfl, ht, m4⟩
          have HE : Hid (Run w w4 b g n (setT n T oi os oh oc) ∧ Blk w4 ob [.int .i64 ok, .int .i64 oi, .int .i64 os, .bool oh, .bool oc]) := ⟨HW.out.step ht (HW.out.fine.set _ _ _ _) m4, BO.out.muts m4 (by have := NE.out; simpa using this)⟩
          clear ht m4 c0 c1 c2 c3 c4
          go_wp2
          go_meet
          case rel => exact ⟨_, HE.out⟩
        · have h0' : (ok == 0) = false := by simpa using h0
          clear h0
          by_cases h1 : ok = 1
          · have h1' : (ok == 1) = true := by simpa using h1
            clear h1
            go_wp2_with fail
            refine (born_any oi _ HW.out.tab).mono ?_
            rintro e w4 ⟨rfl, ht, m4⟩
            have HE : Hid (Run w w4 b g n (bornT n T oi) ∧ Blk w4 ob [.int .i64 ok, .int .i64 oi, .int .i64 os, .bool oh, .bool oc]) := ⟨HW.out.step ht (HW.out.fine.born _) m4, BO.out.muts m4 (by have := NE.out; simpa using this)⟩
            clear ht m4 c0 c1 c2 c3 c4
            go_wp2
            go_meet
            case rel => exact ⟨_, HE.out⟩
          · have h1' : (ok == 1) = false := by simpa using h1
            clear h1
            by_cases h2 : ok = 2
            · have h2' : (ok == 2) = true := by simpa using h2
              clear h2
              have M2 : Hid (_ ∧ _ ∧ _ ∧ _) := mark_2 n T oi oc
              have MB : Hid (_ = _) := mark_B n T oi oc
              have SU := stt_usd n T oi
              have UB : usd n T oi = false → blk n T oi oc = false := fun h => by simp [blk, h]
              have C1 : Hid (Calls _ _ _ _ _) := black_any oi oc W HW.out.tab
              have C2 : Hid (Calls _ _ _ _ _) := state_any oi W HW.out.tab
              have C3 : Hid (Calls _ _ _ _ _) := mark_any oi oc W HW.out.tab
              rw [MB.out] at C3
              clear MB
              generalize stt n T oi = st at *
              generalize usd n T oi = u at *
              generalize blk n T oi oc = q at *
              have huq : (u = true ∧ q = true) ∨ (u = true ∧ q = false) ∨ (u = false ∧ q = false) := by
                cases u
                · exact .inr (.inr ⟨rfl, UB rfl⟩)
                · cases q <;> simp
              clear UB
              rcases huq with ⟨rfl, rfl⟩ | ⟨rfl, rfl⟩ | ⟨rfl, rfl⟩
              all_goals go_wp2_with fail
              all_goals (refine C1.out.mono ?_; rintro e w4 ⟨rfl, rfl⟩)
              all_goals go_wp2_with fail
              all_goals (refine C2.out.mono ?_; rintro e w4 ⟨rfl, rfl⟩)
              all_goals go_wp2_with fail
              all_goals (refine C3.out.mono ?_; rintro e w5 ⟨rfl, ht, m5⟩)
              all_goals (have HE : Hid (Run w w5 b g n (markT n T oi oc) ∧ Blk w5 ob [.int .i64 ok, .int .i64 oi, .int .i64 os, .bool oh, .bool oc]) := ⟨HW.out.step ht (HW.out.fine.mark _ _) m5, BO.out.muts m5 (by have := NE.out; simpa using this)⟩)
              all_goals clear ht m5 c0 c1 c2 c3 c4 C1 C2 C3
              all_goals (have c0 := HE.out.2.at 0 rfl; have c1 := HE.out.2.at 1 rfl; have c2 := HE.out.2.at 2 rfl; have c3 := HE.out.2.at 3 rfl; have c4 := HE.out.2.at 4 rfl)
              all_goals go_wp2_with fail
              all_goals (refine (mark_any oi oc _ HE.out.1.tab).mono ?_; rintro e w6 ⟨rfl, ht, m6⟩)
              all_goals rw [M2.out.2.1]
              all_goals (have HE6 : Hid (Run w w6 b g n (markT n T oi oc) ∧ Blk w6 ob [.int .i64 ok, .int .i64 oi, .int .i64 os, .bool oh, .bool oc]) := ⟨HE.out.1.step (M2.out.2.2.1 ▸ ht) (HW.out.fine.mark _ _) m6, HE.out.2.muts m6 (by have := NE.out; simpa using this)⟩)
              all_goals clear ht m6 c0 c1 c2 c3 c4
              all_goals (have c0 := HE6.out.2.at 0 rfl; have c1 := HE6.out.2.at 1 rfl; have c2 := HE6.out.2.at 2 rfl; have c3 := HE6.out.2.at 3 rfl; have c4 := HE6.out.2.at 4 rfl)
              all_goals go_wp2_with fail
              all_goals (refine (black_any oi oc _ HE6.out.1.tab).mono ?_; rintro e w7 ⟨rfl, rfl⟩)
              all_goals rw [M2.out.2.2.2]
              all_goals go_wp2
              all_goals go_meet
              all_goals exact ⟨_, HE6.out⟩
            · have h2' : (ok == 2) = false := by simpa using h2
              clear h2
              have HE : Hid (Run w W b g n T ∧ Blk W ob [.int .i64 ok, .int .i64 oi, .int .i64 os, .bool oh, .bool oc]) := ⟨HW.out, BO.out⟩
              clear c1 c2 c3 c4
              go_wp2
              go_meet
              case rel => exact ⟨_, HE.out⟩
      case rest =>
        obtain ⟨T, HC⟩ := hcut
        have SU := stt_usd n T oi
        have SM : Hid (_ = _) := HC.out.1.fine.sum n (Nat.le_refl _)
        have HD : Hid (usd n T oi = false → hdd n T oi = false) := HC.out.1.fine.hd
        go_wp2_with fail
        refine (counts_any _ HC.out.1.tab).mono ?_
        rintro e w5 ⟨rfl, k5⟩
        have HE : Hid (Run w w5 b g n T ∧ Blk w5 ob [.int .i64 ok, .int .i64 oi, .int .i64 os, .bool oh, .bool oc]) := ⟨HC.out.1.still k5, HC.out.2.kept k5⟩
        clear k5 HC
        have c1 := HE.out.2.at 1 rfl
        go_wp2_with fail
        have C0 : Hid (Calls _ _ _ _ _) := state_any oi w5 HE.out.1.tab
        have C1 : Hid (∀ z : KW w5, _) := fun z => black_any oi true z.it (HE.out.1.tab.kept z.ok)
        have C2 : Hid (∀ z : KW w5, _) := fun z => black_any oi false z.it (HE.out.1.tab.kept z.ok)
        have C3 : Hid (∀ z : KW w5, _) := fun z => head_any oi z.it (HE.out.1.tab.kept z.ok)
        have d1 := fun z : KW w5 => z.cell HE.out.2.lt c1
        have BT : Hid (∀ p, blk n T oi p = (usd n T oi && ((T oi.toNat).c == p))) := fun p => rfl
        rw [BT.out] at C1 C2
        clear BT c1
        generalize stt n T oi = st at *
        generalize usd n T oi = u at *
        generalize hdd n T oi = h at *
        generalize (T oi.toNat).c = cc at *
        have hsm : ((cnt T 0 n + cnt T 1 n + cnt T 2 n : Nat) : Int) = n := by rw [SM.out]
        have b0 := cnt_le T 0 n
        have b1 := cnt_le T 1 n
        have b2 := cnt_le T 2 n
        clear SM
        generalize cnt T 0 n = x0 at *
        generalize cnt T 1 n = x1 at *
        generalize cnt T 2 n = x2 at *
        have hq : (((x0 : Int) + (x1 : Int) + (x2 : Int)) != (n : Int)) = false := by simp; omega
        clear hsm
        have hd : (u = true ∧ cc = true ∧ h = true) ∨ (u = true ∧ cc = true ∧ h = false) ∨ (u = true ∧ cc = false ∧ h = true) ∨ (u = true ∧ cc = false ∧ h = false) ∨ (u = false ∧ h = false) := by
          cases u
          · simp [HD.out rfl]
          · cases cc <;> cases h <;> simp
        clear HD
        rcases hd with ⟨rfl, rfl, rfl⟩ | ⟨rfl, rfl, rfl⟩ | ⟨rfl, rfl, rfl⟩ | ⟨rfl, rfl, rfl⟩ | ⟨rfl, rfl⟩
        all_goals (refine C0.out.mono ?_; rintro e w6 ⟨rfl, rfl⟩)
        all_goals go_upto_region 22 with fail
        all_goals refine wp_region_kept (by kernel_rfl) (by kernel_rfl) fun _ => ?_
        all_goals repeat (go_big_quiet_step (first | (go_at_call_of 23 (#[Value.pointer (some ⟨b, 0, none⟩), Value.int .i64 oi, Value.bool true]); exact kept_of_same (C1.out _)) | (go_at_call_of 23 (#[Value.pointer (some ⟨b, 0, none⟩), Value.int .i64 oi, Value.bool false]); exact kept_of_same (C2.out _)) | (go_at_call 21; exact kept_of_same (C3.out _))))
        all_goals refine wpQuiet_nil ?_
        all_goals rintro _ ⟨z, rfl⟩
        all_goals (have HZ : Hid (Run w z.it b g n T) := HE.out.1.still z.ok)
        all_goals clear d1 C0 C1 C2 C3 HE
        all_goals go_wp2
        all_goals go_roundg (l - (k + 1))
        all_goals (have := HM.out; try omega)
        all_goals exact ⟨k + 1, _, by go_num, by omega, rfl, HZ.out⟩
    · obtain rfl : l = k := by omega
      have K2 : Hid (Kept w wr) := HR.out.kept
      clear HR HM
      go_wp2_with fail
      refine (first_any _).mono ?_
      rintro e w9 ⟨rfl, k9⟩
      have K9 : Hid (Kept w w9) := K2.out.trans k9
      clear k9
      go_wp2
      go_ret
      refine ⟨?_, K9.out⟩
      first | rfl | (simp; omega)

theorem tintSums_any (n0 : Int) (x1 : Option Addr) (l1 c1 : Nat) (L1 : Nat → Op7) (w : World) (_lo0 : IntKind.min .i64 ≤ n0) (_hi0 : n0 ≤ IntKind.max .i64) (_h1c : l1 ≤ c1) (hL1 : Ops w x1 l1 L1) :
    Calls Try.prog 4 #[.int .i64 n0, .slice x1 l1 c1] w fun e w' => e = .returned (.bool true) ∧ Kept w w' := by
  by_cases hn : 0 ≤ n0 ∧ n0 ≤ 1024
  · obtain ⟨n, rfl⟩ : ∃ n : Nat, n0 = n := ⟨n0.toNat, by omega⟩
    by_cases ho : (l1 : Int) ≤ 300
    · exact sums_in n x1 l1 c1 L1 w hL1 hn.2 ho
    · exact sums_out n x1 l1 c1 w hn.2 (by omega)
  · exact sums_bad n0 x1 l1 c1 w hn
end Go.Proofs.Ytbipkhcgnimgkaa
