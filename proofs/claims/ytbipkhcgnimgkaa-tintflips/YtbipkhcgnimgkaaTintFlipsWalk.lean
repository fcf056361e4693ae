/-
  TintFlips: the walk.
-/
import Derived.Test.YtbipkhcgnimgkaaTintNew
import Derived.Test.YtbipkhcgnimgkaaElems
namespace Go.Proofs.Ytbipkhcgnimgkaa
open Go.RowKit

/-- Even? -/
def ev (k : Nat) : Bool := bits .and .i64 (k : Int) 1 == 0
/-- The first k are Used and black of true. -/
def F (k : Nat) : Nat → Fr := fun j => if j < k then ⟨2, ev j, true⟩ else T0 j
theorem F_0 : F 0 = T0 := by funext j; simp [F]
theorem F_step {n k : Nat} (h : k < n) : setT n (F k) k 2 (ev k) true = F (k + 1) := by
  have hS : isSt 2 = true := rfl
  funext j
  by_cases e : j = k
  · subst e
    simp [setT, inn_of h, hS, F]
  · by_cases e2 : j < k
    · have : j < k + 1 := by omega
      simp [setT, inn_of h, hS, F, e, e2, this]
    · have : ¬ j < k + 1 := by omega
      simp [setT, inn_of h, hS, F, e, e2, this]
theorem F_black {n k : Nat} (h : k < n) (c : Bool) : blk n (F n) k c = c := by
  cases c <;> simp [blk, usd, inn_of h, F, h]
theorem F_head {n k : Nat} (h : k < n) : hdd n (F n) k = ev k := by simp [hdd, inn_of h, F, h]

/-- All Used; those that were met are white. -/
structure Met (n : Nat) (T : Nat → Fr) (M : Nat → Bool) : Prop where
  all : ∀ j, j < n → (T j).s = 2 ∧ (T j).c = !M j
theorem Met.first (n : Nat) : Met n (F n) (fun _ => false) := ⟨fun j h => by simp [F, h]⟩
theorem Met.black {n k : Nat} {T : Nat → Fr} {M : Nat → Bool} (h : Met n T M) (hk : k < n) (c : Bool) : blk n T k c = (M k != c) := by
  obtain ⟨h1, h2⟩ := h.all k hk
  cases hm : M k <;> cases c <;> simp [blk, usd, inn_of hk, h1, h2, hm]
theorem Met.mark {n k : Nat} {T : Nat → Fr} {M : Nat → Bool} (h : Met n T M) (hk : k < n) : markB n T k false = !M k ∧ Met n (markT n T k false) (fun j => if j = k then true else M j) := by
  obtain ⟨h1, h2⟩ := h.all k hk
  have e : markB n T k false = !M k := by simp [markB, usd, inn_of hk, h1, h2]
  refine ⟨e, ⟨fun j hj => ?_⟩⟩
  cases hm : M k
  · have e' : markB n T k false = true := by rw [e, hm]; rfl
    by_cases q : j = k
    · subst q
      simp [markT, e', h1]
    · simpa [markT, e', q] using h.all j hj
  · have e' : markB n T k false = false := by rw [e, hm]; rfl
    by_cases q : j = k
    · subst q
      simpa [markT, e', hm] using h.all j hj
    · simpa [markT, e', q] using h.all j hj
theorem mark_out {n : Nat} {T : Nat → Fr} {i : Int} {c : Bool} (h : inn n i = false) : markB n T i c = false ∧ markT n T i c = T := by
  have : markB n T i c = false := by simp [markB, usd, h]
  exact ⟨this, by simp [markT, this]⟩

/-- What lies in memory while the marks are gone through. -/
structure Lies (w wr : World) (b g gm n : Nat) (T : Nat → Fr) (M : Nat → Bool) : Prop where
  tab : Tab wr b g n T
  row : wr.rowIs gm 4 n (fun j => .bool (M j))
  met : Met n T M
  kept : Kept w wr
  lg : w.heap.size ≤ g
  lm : w.heap.size ≤ gm
theorem Lies.ne {w wr : World} {b g gm n : Nat} {T : Nat → Fr} {M : Nat → Bool} (h : Lies w wr b g gm n T M) : gm ≠ g := by
  rintro rfl
  obtain ⟨c1, h1, _⟩ := h.row
  obtain ⟨c2, h2, _⟩ := h.tab.row
  rw [h1] at h2
  simp at h2
theorem Lies.ne2 {w wr : World} {b g gm n : Nat} {T : Nat → Fr} {M : Nat → Bool} (h : Lies w wr b g gm n T M) : b ≠ gm := h.tab.head.ne h.row (by decide)
theorem Lies.marked {w wr w' : World} {b g gm n k : Nat} {T : Nat → Fr} {M : Nat → Bool} (h : Lies w wr b g gm n T M) (hk : k < n) (ht : Tab w' b g n (markT n T k false)) (m : Mut [g] wr w') :
    Lies w (w'.setCell ⟨gm, k, none⟩ (.bool true)) b g gm n (markT n T k false) (fun j => if j = k then true else M j) := by
  refine ⟨ht.muts ((Mut.refl [gm] _).setCell (by simp) _) ?_ ?_, ?_, (h.met.mark hk).2, (h.kept.muts m ?_).setCell h.lm _, h.lg, h.lm⟩
  · simpa using h.ne2
  · simpa using Ne.symm h.ne
  · refine ((m.row h.row (by simpa using h.ne)).set k (.bool true)).congr fun j _ => ?_
    by_cases e : j = k <;> simp [e]
  · simpa using h.lg
theorem Lies.out {w wr w' : World} {b g gm n : Nat} {i : Int} {T : Nat → Fr} {M : Nat → Bool} (h : Lies w wr b g gm n T M) (hi : inn n i = false) (ht : Tab w' b g n (markT n T i false)) (m : Mut [g] wr w') : Lies w w' b g gm n T M := by
  rw [(mark_out hi).2] at ht
  exact ⟨ht, m.row h.row (by simpa using h.ne), h.met, h.kept.muts m (by simpa using h.lg), h.lg, h.lm⟩

theorem info_bool : (Try.prog.info? 4).map (fun i => (i.zero, i.size, i.bytes)) = some (some (.bool false), 1, 1) := by kernel_rfl

set_option maxHeartbeats 4000000 in
set_option maxRecDepth 20000 in
theorem flips_bad (n : Int) (x : Option Addr) (l c : Nat) (w : World) (hn : ¬ (0 ≤ n ∧ n ≤ 1024)) :
    Calls Try.prog 5 #[.int .i64 n, .slice x l c] w fun e w' => e = .returned (.bool true) ∧ Kept w w' := by
  have HN : Hid (∀ w, _) := fun w => new_bad n w hn
  clear hn
  go_enter Try.func5, Try.ntmps5
  go_wp2_with fail
  refine (first_any _).mono ?_
  rintro e w1 ⟨rfl, k1⟩
  have K1 : Hid (Kept w w1) := k1
  clear k1
  go_wp2_with fail
  refine (HN.out _).mono ?_
  rintro e w2 ⟨rfl, rfl⟩
  go_wp2_with fail
  refine (first_any _).mono ?_
  rintro e w9 ⟨rfl, k9⟩
  have K9 : Hid (Kept w w9) := K1.out.trans k9
  clear k9
  go_wp2
  go_ret
  exact ⟨rfl, K9.out⟩

set_option maxHeartbeats 4000000 in
set_option maxRecDepth 20000 in
theorem flips_out (n : Nat) (x : Option Addr) (l c : Nat) (w : World) (hn : n ≤ 1024) (ho : ¬ ((n : Int) ≤ 100 ∧ (l : Int) ≤ 200)) :
    Calls Try.prog 5 #[.int .i64 n, .slice x l c] w fun e w' => e = .returned (.bool true) ∧ Kept w w' := by
  go_enter Try.func5, Try.ntmps5
  go_wp2_with fail
  refine (first_any _).mono ?_
  rintro e w1 ⟨rfl, k1⟩
  have K1 : Hid (Kept w w1) := k1
  clear k1
  go_wp2_with fail
  refine (new_any n w1 (by omega)).mono ?_
  rintro e w2 ⟨b, g, rfl, ht, hb, hg, k2⟩
  have H2 : Hid (Tab w2 b g n T0 ∧ w.heap.size ≤ g ∧ Kept w w2) := ⟨ht, by have := K1.out.size; omega, K1.out.trans k2⟩
  clear ht hb hg k2 K1
  have K2 : Hid (Kept w w2) := H2.out.2.2
  clear H2
  rcases (show (100 < (n : Int)) ∨ ((n : Int) ≤ 100 ∧ 200 < (l : Int)) by omega) with h | ⟨h, h1⟩
  · go_wp2_with fail
    refine (first_any _).mono ?_
    rintro e w9 ⟨rfl, k9⟩
    have K9 : Hid (Kept w w9) := K2.out.trans k9
    clear k9
    go_wp2
    go_ret
    exact ⟨rfl, K9.out⟩
  · go_wp2_with fail
    refine (first_any _).mono ?_
    rintro e w9 ⟨rfl, k9⟩
    have K9 : Hid (Kept w w9) := K2.out.trans k9
    clear k9
    go_wp2
    go_ret
    exact ⟨rfl, K9.out⟩

set_option maxHeartbeats 4000000 in
set_option maxRecDepth 20000 in
theorem flips_in (n : Nat) (x : Option Addr) (l c : Nat) (L : Nat → Int) (w : World) (hX : Ints w x l L) (hn : (n : Int) ≤ 100) (hl : (l : Int) ≤ 200) :
    Calls Try.prog 5 #[.int .i64 n, .slice x l c] w fun e w' => e = .returned (.bool true) ∧ Kept w w' := by
  have HX : Hid (Ints w x l L) := hX
  clear hX
  go_enter Try.func5, Try.ntmps5
  go_wp2_with fail
  refine (first_any _).mono ?_
  rintro e w1 ⟨rfl, k1⟩
  have K1 : Hid (Kept w w1) := k1
  clear k1
  go_wp2_with fail
  refine (new_any n w1 (by omega)).mono ?_
  rintro e w2 ⟨b, g, rfl, ht, hb, hg, k2⟩
  have H2 : Hid (Tab w2 b g n T0 ∧ w.heap.size ≤ g ∧ Kept w w2) := ⟨ht, by have := K1.out.size; omega, K1.out.trans k2⟩
  clear ht hb hg k2 K1
  go_wp2
  go_loopg [7] n (fun m i wr' => ∃ j : Nat, i = .int .i64 j ∧ j ≤ n ∧ m = n - j ∧ Hid (Tab wr' b g n (F j) ∧ w.heap.size ≤ g ∧ Kept w wr'))
  case atStart => exact ⟨0, rfl, by omega, by omega, F_0 ▸ H2.out⟩
  case round =>
    obtain ⟨k, rfl, hk, hm, HR⟩ := hrel
    have HM : Hid _ := hm
    clear hm H2
    by_cases hlt : k < n
    · have CS : Hid (∀ p : Bool, _) := fun p => set_any k 2 p true wr HR.out.1
      have ST : Hid (_ = _) := F_step hlt
      go_wp2_with fail
      refine (CS.out _).mono ?_
      rintro e w4 ⟨rfl, ht, m4⟩
      have HE : Hid (Tab w4 b g n (F (k + 1)) ∧ w.heap.size ≤ g ∧ Kept w w4) := ⟨ST.out ▸ ht, HR.out.2.1, HR.out.2.2.muts m4 (by simpa using HR.out.2.1)⟩
      clear ht m4 CS ST
      go_wp2
      go_roundg (n - (k + 1))
      all_goals (have := HM.out; try omega)
      all_goals exact ⟨k + 1, by go_num, by omega, rfl, HE.out⟩
    · obtain rfl : n = k := by omega
      go_wp2
      have H2 := HR
      clear HM HR
      go_loopg [8] n (fun m i wr' => ∃ j : Nat, i = .int .i64 j ∧ j ≤ n ∧ m = n - j ∧ Hid (Tab wr' b g n (F n) ∧ w.heap.size ≤ g ∧ Kept w wr'))
      case atStart => exact ⟨0, rfl, by omega, by omega, H2.out⟩
      case round =>
        obtain ⟨k, rfl, hk, hm, H3⟩ := hrel
        have HM : Hid _ := hm
        clear hm H2
        by_cases hlt : k < n
        · have d1 : Hid (_ = _) := F_black hlt true
          have d2 : Hid (_ = _) := F_black hlt false
          have d3 : Hid (_ = _) := F_head hlt
          go_wp2_with fail
          refine (black_any k true _ H3.out.1).mono ?_
          rintro e w8 ⟨rfl, rfl⟩
          rw [d1.out]
          go_wp2_with fail
          refine (black_any k false _ H3.out.1).mono ?_
          rintro e w8 ⟨rfl, rfl⟩
          rw [d2.out]
          go_wp2_with fail
          refine (head_any k _ H3.out.1).mono ?_
          rintro e w8 ⟨rfl, rfl⟩
          rw [d3.out]
          simp only [ev]
          go_wp2
          go_roundg (n - (k + 1))
          all_goals (have := HM.out; try omega)
          all_goals exact ⟨k + 1, by go_num, by omega, rfl, H3.out⟩
        · obtain rfl : n = k := by omega
          clear HM
          have hmk := run_make_row' (P := Try.prog) 41 4 (.bool false) 1 Try.underlying41 info_bool rfl .i64 .i64 n (by omega) (by omega)
          go_wp2
          clear hmk
          generalize hW : wr.alloc _ = W4
          obtain ⟨gm, hgm⟩ : ∃ gm, gm = wr.heap.size := ⟨_, rfl⟩
          rw [← hgm]
          have HL : Hid (Lies w W4 b g gm n (F n) (fun _ => false)) := by
            rw [← hW, hgm]
            have kk : Kept wr (wr.alloc (.cells (madeCells #[.bool false] n) 4)) := (Kept.refl wr).alloc _ _
            exact ⟨H3.out.1.kept kk, World.rowIs_made _ _ _ _, Met.first n, H3.out.2.2.trans kk, H3.out.2.1, H3.out.2.2.size⟩
          clear hW hgm H3
          go_loopg [10] l (fun m i wr' => ∃ (j : Nat) (T : Nat → Fr) (M : Nat → Bool), i = .int .i64 j ∧ j ≤ l ∧ m = l - j ∧ Hid (Lies w wr' b g gm n T M))
          case atStart => exact ⟨0, _, _, rfl, by omega, by omega, HL.out⟩
          case round =>
            obtain ⟨k, T, M, rfl, hk, hm, HR⟩ := hrel
            have HM : Hid _ := hm
            clear hm HL
            by_cases hlt : k < l
            · obtain ⟨bx, ox, rfl, hbx, hcx⟩ := HX.out.at (by omega)
              have a0 : wr.cell? ⟨bx, ox + k, none⟩ = _ := (HR.out.kept.cell hbx).trans (hcx k hlt)
              have a1 : ∀ w', Mut [g] wr w' → w'.cell? ⟨bx, ox + k, none⟩ = some (.int .i64 (L k)) := fun w' m => (m.cell (Nat.lt_of_lt_of_le hbx HR.out.kept.size) (by have := HR.out.lg; simp; omega)).trans a0
              have A1 : Hid (∀ w', Mut [g] wr w' → w'.cell? ⟨bx, ox + k, none⟩ = some (.int .i64 (L k))) := a1
              have CM : Hid (∀ i : Int, _) := fun i => mark_any i false wr HR.out.tab
              clear hcx a1 hbx
              generalize L k = v at *
              by_cases h0 : 0 ≤ v
              · by_cases h1 : v < (n : Int)
                · obtain ⟨j, rfl⟩ : ∃ j : Nat, v = j := ⟨v.toNat, by omega⟩
                  have hj : j < n := by omega
                  have MB : Hid (markB n T j false = !M j) := (HR.out.met.mark hj).1
                  go_wp2_with fail
                  refine (CM.out _).mono ?_
                  rintro e w4 ⟨rfl, ht, m4⟩
                  rw [MB.out]
                  have a2 := A1.out w4 m4
                  have a3 := (m4.row HR.out.row (by simpa using HR.out.ne)).cell hj
                  have a4 := (m4.row HR.out.row (by simpa using HR.out.ne)).frozen j
                  have HE : Hid (Lies w (w4.setCell ⟨gm, j, none⟩ (.bool true)) b g gm n (markT n T j false) (fun i => if i = j then true else M i)) := HR.out.marked hj ht m4
                  clear ht m4 A1 a0 MB CM
                  cases hmj : M j
                  all_goals rw [hmj] at a3
                  all_goals clear hmj
                  all_goals go_wp2
                  all_goals go_roundg (l - (k + 1))
                  all_goals (have := HM.out; try omega)
                  all_goals exact ⟨k + 1, _, _, by go_num, by omega, rfl, HE.out⟩
                · have hout : Hid (inn n v = false) := by simp [Hid, inn]; omega
                  go_wp2_with fail
                  refine (CM.out _).mono ?_
                  rintro e w4 ⟨rfl, ht, m4⟩
                  rw [(mark_out hout.out).1]
                  have HE : Hid (Lies w w4 b g gm n T M) := HR.out.out hout.out ht m4
                  clear ht m4 A1 a0 CM
                  go_wp2
                  go_roundg (l - (k + 1))
                  all_goals (have := HM.out; try omega)
                  all_goals exact ⟨k + 1, _, _, by go_num, by omega, rfl, HE.out⟩
              · have hout : Hid (inn n v = false) := by simp [Hid, inn]; omega
                go_wp2_with fail
                refine (CM.out _).mono ?_
                rintro e w4 ⟨rfl, ht, m4⟩
                rw [(mark_out hout.out).1]
                have HE : Hid (Lies w w4 b g gm n T M) := HR.out.out hout.out ht m4
                clear ht m4 A1 a0 CM
                go_wp2
                go_roundg (l - (k + 1))
                all_goals (have := HM.out; try omega)
                all_goals exact ⟨k + 1, _, _, by go_num, by omega, rfl, HE.out⟩
            · obtain rfl : l = k := by omega
              go_wp2
              have HL := HR
              clear HM HR
              go_loopg [12] n (fun m i wr' => ∃ j : Nat, i = .int .i64 j ∧ j ≤ n ∧ m = n - j ∧ Hid (Lies w wr' b g gm n T M))
              case atStart => exact ⟨0, rfl, by omega, by omega, HL.out⟩
              case round =>
                obtain ⟨k, rfl, hk, hm, HR⟩ := hrel
                have HM : Hid _ := hm
                clear hm HL
                by_cases hlt : k < n
                · have C1 : Hid (∀ z : KW wr, Calls Try.prog 23 #[.pointer (some ⟨b, 0, none⟩), .int .i64 (k : Int), .bool false] z.it fun e w' => e = .returned (.bool (M k)) ∧ w' = z.it) := fun z => by
                    have h := black_any k false z.it (HR.out.tab.kept z.ok)
                    rw [HR.out.met.black hlt false, Bool.bne_false] at h
                    exact h
                  have C2 : Hid (∀ z : KW wr, Calls Try.prog 23 #[.pointer (some ⟨b, 0, none⟩), .int .i64 (k : Int), .bool true] z.it fun e w' => e = .returned (.bool (!M k)) ∧ w' = z.it) := fun z => by
                    have h := black_any k true z.it (HR.out.tab.kept z.ok)
                    rw [HR.out.met.black hlt true, Bool.bne_true] at h
                    exact h
                  have d0 := fun z : KW wr => z.cell HR.out.row.lt (HR.out.row.cell hlt)
                  have hend : ∀ z : KW wr, Hid (Lies w z.it b g gm n T M) := fun z => ⟨HR.out.tab.kept z.ok, z.ok.row HR.out.row, HR.out.met, HR.out.kept.trans z.ok, HR.out.lg, HR.out.lm⟩
                  have HE : Hid (∀ z : KW wr, Hid (Lies w z.it b g gm n T M)) := hend
                  clear hend
                  cases hmk : M k
                  all_goals (rw [hmk] at C1 C2 d0; clear hmk)
                  all_goals go_wp2_with fail
                  all_goals refine wp_region_kept (by kernel_rfl) (by kernel_rfl) fun _ => ?_
                  all_goals repeat (go_big_quiet_step (first | (go_at_call_of 23 (#[Value.pointer (some ⟨b, 0, none⟩), Value.int .i64 (k : Int), Value.bool false]); exact kept_of_same (C1.out _)) | (go_at_call_of 23 (#[Value.pointer (some ⟨b, 0, none⟩), Value.int .i64 (k : Int), Value.bool true]); exact kept_of_same (C2.out _))))
                  all_goals refine wpQuiet_nil ?_
                  all_goals rintro _ ⟨z, rfl⟩
                  all_goals go_wp2
                  all_goals go_roundg (n - (k + 1))
                  all_goals (have := HM.out; try omega)
                  all_goals exact ⟨k + 1, by go_num, by omega, rfl, HE.out z⟩
                · obtain rfl : k = n := by omega
                  go_wp2_with fail
                  refine (first_any _).mono ?_
                  rintro e w9 ⟨rfl, k9⟩
                  have K9 : Hid (Kept w w9) := HR.out.kept.trans k9
                  clear k9
                  go_wp2
                  go_ret
                  exact ⟨rfl, K9.out⟩

theorem tintFlips_any (n0 : Int) (x1 : Option Addr) (l1 c1 : Nat) (L1 : Nat → Int) (w : World) (_lo0 : IntKind.min .i64 ≤ n0) (_hi0 : n0 ≤ IntKind.max .i64) (_h1c : l1 ≤ c1) (hL1 : Ints w x1 l1 L1) (_hB1 : ∀ i, i < l1 → IntKind.min .i64 ≤ L1 i ∧ L1 i ≤ IntKind.max .i64) :
    Calls Try.prog 5 #[.int .i64 n0, .slice x1 l1 c1] w fun e w' => e = .returned (.bool true) ∧ Kept w w' := by
  by_cases hn : 0 ≤ n0 ∧ n0 ≤ 1024
  · obtain ⟨n, rfl⟩ : ∃ n : Nat, n0 = n := ⟨n0.toNat, by omega⟩
    by_cases ho : (n : Int) ≤ 100 ∧ (l1 : Int) ≤ 200
    · exact flips_in n x1 l1 c1 L1 w hL1 ho.1 ho.2
    · exact flips_out n x1 l1 c1 w (by omega) ho
  · exact flips_bad n0 x1 l1 c1 w hn
end Go.Proofs.Ytbipkhcgnimgkaa
