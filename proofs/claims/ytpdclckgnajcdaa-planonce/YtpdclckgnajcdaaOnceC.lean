/-
  The walk of PlanOnce: an array without a spine.
-/
import Derived.Test.YtpdclckgnajcdaaOnceA
namespace Go.Proofs.Ytpdclckgnajcdaa
open Go.RowKit

set_option maxRecDepth 20000 in
set_option maxHeartbeats 4000000 in
theorem once_arr_0 (n0 n1 n2 n3 n4 n5 n6 n7 : Int) (sx : Option Addr) (sl sc : Nat) (S : Nat → Sh) (R : Nat → Nat → Bool) (k : Nat) ( n : Int) (x : Option Addr) (l c : Nat) (L : Nat → Int) (at' : Int) (w : World) (hS : Shps w sx sl S) (hR : ∀ i, i < sl → Refs w (S i).x (S i).l (R i)) (hc : l ≤ c) (hx : Rdf w x l L) (hm : Small sl S) (hg : Good n0 n1 n2 n3 n4 n5 n6 n7 sl S) (hl : l ≤ 200) (hk : k < sl) (hab : (S k).arr = true) (hr : Asks (AG n0 n1 n2 n3 n4 n5 n6 n7 sl S L l) (AK sl S k true) (AI S k n true) (AF S k n true L l) 0) (hm1 : modeA n L l ≠ 1) (hat : -9223372036854775808 ≤ at' ∧ at' ≤ 9223372036854775807) :
    Calls Try.prog 4 #[.agg #[.int .i64 n0, .int .i64 n1, .int .i64 n2, .int .i64 n3, .int .i64 n4, .int .i64 n5, .int .i64 n6, .int .i64 n7, .slice sx sl sc], .int .i64 k, .int .i64 n, .slice x l c, .int .i64 at'] w fun e w' => e = .returned (.bool true) ∧ Kept w w' := by
  have CF : Hid (∀ w', Kept w w' → Calls Try.prog 11 #[.agg #[.int .i64 n0, .int .i64 n1, .int .i64 n2, .int .i64 n3, .int .i64 n4, .int .i64 n5, .int .i64 n6, .int .i64 n7, .slice sx sl sc]] w' _) := fun w' k => few_any n0 n1 n2 n3 n4 n5 n6 n7 sx sl sc S true w' (hS.kept k) ⟨fun _ => hm, fun _ => rfl⟩
  have CK : Hid (∀ w', Kept w w' → Calls Try.prog 17 #[.agg #[.int .i64 n0, .int .i64 n1, .int .i64 n2, .int .i64 n3, .int .i64 n4, .int .i64 n5, .int .i64 n6, .int .i64 n7, .slice sx sl sc]] w' _) := fun w' k => check_any n0 n1 n2 n3 n4 n5 n6 n7 sx sl sc S 0 w' (hS.kept k) (Checks.of_ok hg.1 hg.2)
  have HH : Hid (Shps w sx sl S ∧ (∀ i, i < sl → Refs w (S i).x (S i).l (R i)) ∧ Rdf w x l L) := ⟨hS, hR, hx⟩
  have CS : Hid (∀ w', Kept w w' → Calls Try.prog 18 #[.agg #[.int .i64 n0, .int .i64 n1, .int .i64 n2, .int .i64 n3, .int .i64 n4, .int .i64 n5, .int .i64 n6, .int .i64 n7, .slice sx sl sc], .int .i64 k] w' _) := fun w' q => shape_in n0 n1 n2 n3 n4 n5 n6 n7 sx sl sc S (R k) k w' hk (by have := may_few (hg.2.2.2 k hk); omega) (hS.kept q) ((hR k hk).kept q)
  have hfl := may_len (hg.2.2.2 k hk)
  have hfl40 := may_few (hg.2.2.2 k hk)
  have e0 : (k : Int).toNat = k := Int.toNat_natCast k
  have hfl1 : (S k).l = 1 := hfl.2 hab
  have HFL : Hid ((S k).arr = true ∧ (S k).l = 1) := ⟨hab, hfl1⟩
  obtain ⟨r1, hr1⟩ := Asks.some (AG n0 n1 n2 n3 n4 n5 n6 n7 sl S L l) (AK sl S k false) (AI S k 0 false) (AF S k 0 false L l)
  have hr10 : r1 ≠ 0 := fun h => by
    subst h
    have := hr1.zero.2.1.2.2
    rw [e0, hab] at this
    cases this
  have CO : Hid (∀ w', Kept w w' → Calls Try.prog 12 #[.agg #[.int .i64 n0, .int .i64 n1, .int .i64 n2, .int .i64 n3, .int .i64 n4, .int .i64 n5, .int .i64 n6, .int .i64 n7, .slice sx sl sc], .int .i64 k, .slice x l c] w' _) := fun w' q => object_no n0 n1 n2 n3 n4 n5 n6 n7 sx sl sc S R k (c := c) r1 w' (hS.kept q) (fun i hi => (hR i hi).kept q) (by omega) hc (hx.kept q) hr1 hr10
  have CA : Hid (∀ w', Kept w w' → Calls Try.prog 14 #[.agg #[.int .i64 n0, .int .i64 n1, .int .i64 n2, .int .i64 n3, .int .i64 n4, .int .i64 n5, .int .i64 n6, .int .i64 n7, .slice sx sl sc], .int .i64 k, .int .i64 n, .slice x l c, .int .i64 at'] w' _) := fun w' q => array_yes n0 n1 n2 n3 n4 n5 n6 n7 sx sl sc S R k n (c := c) at' w' (hS.kept q) (fun i hi => (hR i hi).kept q) (by omega) hc (hx.kept q) hr (fun h => absurd h hm1)
  obtain ⟨f, hf⟩ : ∃ f, arrF k n (modeA n L l) (R (k : Int).toNat) L l at' = f := ⟨_, rfl⟩
  rw [hf] at CA
  have hz := hr.zero
  have hn5 : 0 ≤ n ∧ n ≤ 512 := by
    have := hz.2.2.1
    unfold AI at this
    simp only [sizeU, arrSize, if_true] at this
    split at this <;> omega
  have hld : (l : Int) = 1 + dat n := by
    have := hz.2.2.2.1
    simp only [sizeU, arrSize, if_true] at this
    rw [if_neg (by omega)] at this
    exact this
  have hdl := dat_lo n
  have hdh := dat_hi n
  obtain ⟨A, hA⟩ : ∃ A : Nat → Int, A = fun i => (f i).a := ⟨_, rfl⟩
  have hfa : ∀ i, i < 8 * l → (f i).a = L (i / 8) * 8 + ((i % 8 : Nat) : Int) := fun i hi => by
    rw [← hf]
    unfold arrF
    rw [if_pos (by omega)]
  have CP : Hid (∀ (rg : Nat) w', Calls Try.prog 19 #[.agg #[.bool true, .slice (some ⟨rg, 0, none⟩) 1 1], .int .i64 n] w' _) := fun rg w' => spine_arr (some ⟨rg, 0, none⟩) 1 n w'
  have CSd : Hid (∀ w', Kept w w' → Calls Try.prog 20 #[.slice x l c] w' _) := fun w' q => rside_any (c := c) w' (by omega) (hx.kept q) (small_i64 (fun j hj => by have := hz.1.2 j hj; have := hg.1.1.2; omega))
  have hsd : spineOf n = 0 ∨ (0 < spineOf n ∧ sideU L l = true) := by
    unfold modeA at hm1
    unfold spineOf
    by_cases h4 : dat n ≤ 4
    · exact .inl (by rw [if_pos h4])
    · rw [if_neg h4] at hm1 ⊢
      refine .inr ⟨by omega, ?_⟩
      cases hs : sideU L l
      · rw [hs] at hm1; simp at hm1
      · rfl
  have hT : 8 * l + spN n L l = 8 * l := by unfold spN; rw [if_neg hm1]; rfl
  rw [hT] at CA
  have HON0 : Onc A (8 * l) l L at' 0 := by rw [hA]; exact onc_obj hz.1.2 hg.1.1.2 hz.2.2.2.2 f hfa
  obtain ⟨T, hT2⟩ : ∃ T, 8 * l = T := ⟨_, rfl⟩
  rw [hT2] at CA HON0
  have HON : Hid (Onc A T l L at' 0) := HON0
  have HT : Hid (8 * l = T) := hT2
  have e8 : ((T : Int) != 8 * (l : Int)) = false := by simp; omega
  obtain ⟨spv, hspv⟩ : ∃ spv, spineOf n = spv := ⟨_, rfl⟩
  obtain ⟨sdv, hsdv⟩ : ∃ sdv, sideU L l = sdv := ⟨_, rfl⟩
  rw [hspv] at CP hsd
  rw [hsdv] at CSd hsd
  have HSD : Hid (spv = 0 ∨ (0 < spv ∧ sdv = true)) := hsd
  clear hspv hsdv
  have hT3 : T ≤ 2000 := by omega
  have hl1 : 1 ≤ l := by omega
  have HA : Hid (A = fun i => (f i).a) := hA
  clear hS hR hk hr hm hg hfl hab e0 hz hf hA HON0 hT hfl1 hr1 hr10 hfa hld hdl hdh hsd hm1 hn5 hT2
  go_enter Try.func4, Try.ntmps4
  go_wp2_with fail
  generalize hW1 : w.alloc _ = W1
  have HW1 : Hid (Kept w W1 ∧ Blk W1 w.heap.size (cl n0 n1 n2 n3 n4 n5 n6 n7 (.slice sx sl sc))) := by rw [← hW1]; exact ⟨(Kept.refl w).alloc _ _, Blk.new w _ _⟩
  clear hW1
  refine (first_any _).mono ?_
  rintro e u1 ⟨rfl, K⟩
  have HW : Hid (Kept w u1 ∧ Blk u1 w.heap.size (cl n0 n1 n2 n3 n4 n5 n6 n7 (.slice sx sl sc))) := ⟨HW1.out.1.trans K, HW1.out.2.kept K⟩
  clear HW1 K
  have c0 := HW.out.2.at 0 rfl
  have c1 := HW.out.2.at 1 rfl
  have c2 := HW.out.2.at 2 rfl
  have c3 := HW.out.2.at 3 rfl
  have c4 := HW.out.2.at 4 rfl
  have c5 := HW.out.2.at 5 rfl
  have c6 := HW.out.2.at 6 rfl
  have c7 := HW.out.2.at 7 rfl
  have c8 := HW.out.2.at 8 rfl
  go_wp2_with fail
  refine (CF.out _ HW.out.1).mono ?_
  rintro e u2 ⟨rfl, K⟩
  have HW2 : Hid (Kept w u2 ∧ Blk u2 w.heap.size (cl n0 n1 n2 n3 n4 n5 n6 n7 (.slice sx sl sc))) := ⟨HW.out.1.trans K, HW.out.2.kept K⟩
  clear HW K c0 c1 c2 c3 c4 c5 c6 c7 c8
  have c0 := HW2.out.2.at 0 rfl
  have c1 := HW2.out.2.at 1 rfl
  have c2 := HW2.out.2.at 2 rfl
  have c3 := HW2.out.2.at 3 rfl
  have c4 := HW2.out.2.at 4 rfl
  have c5 := HW2.out.2.at 5 rfl
  have c6 := HW2.out.2.at 6 rfl
  have c7 := HW2.out.2.at 7 rfl
  have c8 := HW2.out.2.at 8 rfl
  go_wp2_with fail
  refine (CK.out _ HW2.out.1).mono ?_
  rintro e u3 ⟨rfl, K⟩
  have HW : Hid (Kept w u3 ∧ Blk u3 w.heap.size (cl n0 n1 n2 n3 n4 n5 n6 n7 (.slice sx sl sc))) := ⟨HW2.out.1.trans K, HW2.out.2.kept K⟩
  clear HW2 K c0 c1 c2 c3 c4 c5 c6 c7 c8 CF CK
  have hl2 : ¬ (l : Int) > 200 := by omega
  have c0 := HW.out.2.at 0 rfl
  have c1 := HW.out.2.at 1 rfl
  have c2 := HW.out.2.at 2 rfl
  have c3 := HW.out.2.at 3 rfl
  have c4 := HW.out.2.at 4 rfl
  have c5 := HW.out.2.at 5 rfl
  have c6 := HW.out.2.at 6 rfl
  have c7 := HW.out.2.at 7 rfl
  have c8 := HW.out.2.at 8 rfl
  go_wp2_with fail
  refine (CS.out _ HW.out.1).mono ?_
  rintro e u4 ⟨rg, rfl, _, _, K⟩
  have HV : Hid (Kept w u4 ∧ Blk u4 w.heap.size (cl n0 n1 n2 n3 n4 n5 n6 n7 (.slice sx sl sc))) := ⟨HW.out.1.trans K, HW.out.2.kept K⟩
  clear HW K c0 c1 c2 c3 c4 c5 c6 c7 c8 CS
  rw [HFL.out.1, HFL.out.2]
  go_upto_region 6 with fail
  generalize hW3 : u4.alloc _ = W3
  have HW : Hid (Kept w W3 ∧ Blk W3 w.heap.size (cl n0 n1 n2 n3 n4 n5 n6 n7 (.slice sx sl sc)) ∧ Blk W3 u4.heap.size [.bool true, .slice (some ⟨rg, 0, none⟩) 1 1]) := by rw [← hW3]; exact ⟨HV.out.1.alloc _ _, HV.out.2.kept ((Kept.refl _).alloc _ _), Blk.new u4 [_, _] _⟩
  clear HV hW3
  have c0 := HW.out.2.1.at 0 rfl
  have c1 := HW.out.2.1.at 1 rfl
  have c2 := HW.out.2.1.at 2 rfl
  have c3 := HW.out.2.1.at 3 rfl
  have c4 := HW.out.2.1.at 4 rfl
  have c5 := HW.out.2.1.at 5 rfl
  have c6 := HW.out.2.1.at 6 rfl
  have c7 := HW.out.2.1.at 7 rfl
  have c8 := HW.out.2.1.at 8 rfl
  go_wp2_with fail
  refine (CO.out _ HW.out.1).mono ?_
  rintro e u5 ⟨rfl, K⟩
  have HV : Hid (Kept w u5 ∧ Blk u5 w.heap.size (cl n0 n1 n2 n3 n4 n5 n6 n7 (.slice sx sl sc)) ∧ Blk u5 u4.heap.size [.bool true, .slice (some ⟨rg, 0, none⟩) 1 1]) := ⟨HW.out.1.trans K, HW.out.2.1.kept K, HW.out.2.2.kept K⟩
  clear HW K c0 c1 c2 c3 c4 c5 c6 c7 c8 CO
  have s0 := HV.out.2.2.at 0 rfl
  have c0 := HV.out.2.1.at 0 rfl
  have c1 := HV.out.2.1.at 1 rfl
  have c2 := HV.out.2.1.at 2 rfl
  have c3 := HV.out.2.1.at 3 rfl
  have c4 := HV.out.2.1.at 4 rfl
  have c5 := HV.out.2.1.at 5 rfl
  have c6 := HV.out.2.1.at 6 rfl
  have c7 := HV.out.2.1.at 7 rfl
  have c8 := HV.out.2.1.at 8 rfl
  go_wp2_with fail
  refine (CA.out _ HV.out.1).mono ?_
  rintro e u6 ⟨v, rfl, hv, K⟩
  obtain ⟨g, d, rfl, _, hgl, hcells⟩ := hv.here (by have := HT.out; omega)
  obtain ⟨xb, xo, rfl, hxb, hxc⟩ := HH.out.2.2 (by omega)
  have KK := HV.out.1.trans K
  have HO6 : Hid (Onw w u6 g T l xb xo L A) := ⟨KK, ⟨Nat.lt_of_lt_of_le hxb KK.size, fun j hj => (KK.cell hxb).trans (hxc j hj)⟩, ⟨hgl, fun i hi => by rw [HA.out]; exact (hcells i hi).1⟩⟩
  have HS6 : Hid (Blk u6 u4.heap.size [.bool true, .slice (some ⟨rg, 0, none⟩) 1 1]) := HV.out.2.2.kept K
  clear HV K s0 c0 c1 c2 c3 c4 c5 c6 c7 c8 CA HH HA hv hgl hcells hxb hxc KK hx
  have s0 := HS6.out.at 0 rfl
  have s1 := HS6.out.at 1 rfl
  go_wp2_with fail
  refine (CP.out rg _).mono ?_
  rintro e u7 ⟨rfl, K7⟩
  have HO7 : Hid (Onw w u7 g T l xb xo L A) := HO6.out.still K7
  have HS7 : Hid (Blk u7 u4.heap.size [.bool true, .slice (some ⟨rg, 0, none⟩) 1 1]) := HS6.out.kept K7
  clear K7 HO6 HS6 s0 s1
  rcases HSD.out with h | ⟨h, h2⟩
  · have hs0 : ¬ spv > 0 := by omega
    have HO : Hid (Onw w u7 g T l xb xo L A) := HO7
    clear h HO7
    go_wp2_with fail
    go_loopg [16] T (fun m v wr => ∃ i : Nat, v = .int .i64 i ∧ i ≤ T ∧ m = T - i ∧ Hid (Onw w wr g T l xb xo L A))
    case atStart => exact ⟨0, rfl, by omega, by omega, HO⟩
    case round =>
      obtain ⟨i, rfl, hi0, hm, hw⟩ := hrel
      have HM : Hid _ := hm
      clear hm HO
      obtain ⟨wA, rfl⟩ : ∃ wA, wA = wr := ⟨_, rfl⟩
      by_cases hlt : i < T
      · have a1 := hw.out.wr.2 i hlt
        have nn := HON.out.nn i hlt
        have HHIT : Hid ((at' ≤ A i ∧ A i < at' + (((0 : Nat) : Int) : Int)) ∨ ∃ k, k < l ∧ A i / 8 = L k) := HON.out.hit i hlt
        have HNE : Hid (∀ k, k < i → A k ≠ A i) := HON.out.ne i hlt
        obtain ⟨Ai, hAi⟩ : ∃ Ai, A i = Ai := ⟨_, rfl⟩
        rw [hAi] at a1 nn HHIT HNE
        have HAI : Hid (A i = Ai) := hAi
        clear hAi
        go_upto_region 19 with fail
        go_cut [17] from 101 to 118 (fun v wc => (∃ q : Bool, v = .bool q ∧ Hid (q = true ↔ at' ≤ Ai ∧ Ai < at' + ((0 : Nat) : Int))) ∧ wA = wc)
        case first =>
          by_cases h1 : Ai ≥ at'
          · have h2 : ¬ Ai < at' := by omega
            go_wp2
            go_meet
            case rel => exact ⟨⟨false, rfl, iff_f (by omega)⟩, rfl⟩
          · go_wp2
            go_meet
            case rel => exact ⟨⟨false, rfl, iff_f (by omega)⟩, rfl⟩
        case rest =>
          obtain ⟨⟨q0, rfl, HQ0⟩, rfl⟩ := hcut
          clear a1
          go_wp2_with fail
          go_loopg [17, 18] l (fun m v j wr => ∃ (k : Nat) (q : Bool), j = .int .i64 k ∧ v = .bool q ∧ k ≤ l ∧ m = l - k ∧ Hid (q = false → ¬ (at' ≤ Ai ∧ Ai < at' + ((0 : Nat) : Int)) ∧ ∀ k', k' < k → Ai / 8 ≠ L k') ∧ Hid (Onw w wr g T l xb xo L A))
          case atStart => exact ⟨0, q0, rfl, rfl, by omega, by omega, fun h => ⟨fun h2 => absurd (HQ0.out.2 h2) (by rw [h]; simp), fun _ h2 => absurd h2 (Nat.not_lt_zero _)⟩, hw⟩
          case round =>
            obtain ⟨k, q, rfl, rfl, hk0, hm1, HQ, hw1⟩ := hrel
            have HM1 : Hid _ := hm1
            clear hm1 hw HQ0
            by_cases hkl : k < l
            · have hx := hw1.out.got.1
              have b1 := hw1.out.got.2 k hkl
              have hgl := hw1.out.wr.1
              have a1 := hw1.out.wr.2 i hlt
              rw [HAI.out] at a1
              obtain ⟨wB, rfl⟩ : ∃ wB, wB = wr := ⟨_, rfl⟩
              have d0 := fun z : KW wB => z.cell hgl a1
              have d1 := fun z : KW wB => z.cell hx b1
              cases q
              · by_cases hE : Ai / 8 = L k
                · have e1 : ((Ai / 8 : Int) == L k) = true := by simpa using hE
                  clear hE
                  go_upto_region 23 with fail
                  refine wp_region_kept (by kernel_rfl) (by kernel_rfl) fun _ => ?_
                  repeat (go_big_quiet_step (fail))
                  refine wpQuiet_nil ?_
                  rintro _ ⟨z, rfl⟩
                  have HN : Hid (Onw w z.it g T l xb xo L A) := hw1.out.still z.ok
                  clear d0 d1 a1 b1 hw1
                  go_wp2
                  go_roundg (l - (k + 1))
                  all_goals (have := HM1.out; try omega)
                  exact ⟨k + 1, true, by go_num, rfl, by omega, by omega, fun h => by (cases h), HN⟩
                · have e1 : ((Ai / 8 : Int) == L k) = false := by simpa using hE
                  have HE : Hid (Ai / 8 ≠ L k) := hE
                  clear hE
                  go_upto_region 23 with fail
                  refine wp_region_kept (by kernel_rfl) (by kernel_rfl) fun _ => ?_
                  repeat (go_big_quiet_step (fail))
                  refine wpQuiet_nil ?_
                  rintro _ ⟨z, rfl⟩
                  have HN : Hid (Onw w z.it g T l xb xo L A) := hw1.out.still z.ok
                  clear d0 d1 a1 b1 hw1
                  go_wp2
                  go_roundg (l - (k + 1))
                  all_goals (have := HM1.out; try omega)
                  exact ⟨k + 1, false, by go_num, rfl, by omega, by omega, fun _ => ⟨(HQ.out (by trivial)).1, fun k' hk' => by
                    rcases Nat.lt_succ_iff_lt_or_eq.1 hk' with h2 | rfl
                    · exact (HQ.out (by trivial)).2 k' h2
                    · exact HE.out⟩, HN⟩
              · have hB : (true = true) := rfl
                go_upto_region 23 with fail
                refine wp_region_kept (by kernel_rfl) (by kernel_rfl) fun _ => ?_
                repeat (go_big_quiet_step (fail))
                refine wpQuiet_nil ?_
                rintro _ ⟨z, rfl⟩
                have HN : Hid (Onw w z.it g T l xb xo L A) := hw1.out.still z.ok
                clear d0 d1 a1 b1 hw1
                go_wp2
                go_roundg (l - (k + 1))
                all_goals (have := HM1.out; try omega)
                exact ⟨k + 1, true, by go_num, rfl, by omega, by omega, fun h => by (cases h), HN⟩
            · obtain rfl : l = k := by omega
              obtain rfl : q = true := by
                cases q
                · exfalso
                  have h1 := HQ.out (by trivial)
                  rcases HHIT.out with h | ⟨k', h2, h3⟩
                  · exact h1.1 h
                  · exact h1.2 k' h2 h3
                · rfl
              have a1 := hw1.out.wr.2 i hlt
              rw [HAI.out] at a1
              have hneg : ¬ Ai < 0 := by omega
              clear HQ HM1 HHIT
              obtain ⟨wB, rfl⟩ : ∃ wB, wB = wr := ⟨_, rfl⟩
              go_wp2_with fail
              go_loopg [19] i (fun m v wr => ∃ k1 : Nat, v = .int .i64 k1 ∧ k1 ≤ i ∧ m = i - k1 ∧ Hid (Onw w wr g T l xb xo L A))
              case atStart => exact ⟨0, rfl, by omega, by omega, hw1⟩
              case round =>
                obtain ⟨k1, rfl, hk1, hm2, hw2⟩ := hrel
                have HM2 : Hid _ := hm2
                clear hm2 hw1 a1
                by_cases hki : k1 < i
                · have hgl := hw2.out.wr.1
                  have a1 := hw2.out.wr.2 i hlt
                  have a2 := hw2.out.wr.2 k1 (by omega)
                  have ne := HNE.out k1 hki
                  rw [HAI.out] at a1
                  generalize A k1 = Ak at a2 ne
                  have e1 : (Ak == Ai) = false := by simpa using ne
                  have d0 := fun z : KW wr => z.cell hgl a1
                  have d1 := fun z : KW wr => z.cell hgl a2
                  clear ne
                  go_upto_region 29 with fail
                  refine wp_region_kept (by kernel_rfl) (by kernel_rfl) fun _ => ?_
                  repeat (go_big_quiet_step (fail))
                  refine wpQuiet_nil ?_
                  rintro _ ⟨z, rfl⟩
                  have HN : Hid (Onw w z.it g T l xb xo L A) := hw2.out.still z.ok
                  clear d0 d1 a1 a2 hw2
                  go_wp2
                  go_roundg (i - (k1 + 1))
                  all_goals (have := HM2.out; try omega)
                  exact ⟨k1 + 1, by go_num, by omega, by omega, HN⟩
                · obtain rfl : k1 = i := by omega
                  go_wp2
                  go_roundg (T - (k1 + 1))
                  all_goals (have := HM.out; try omega)
                  exact ⟨k1 + 1, by go_num, by omega, by omega, hw2⟩
      · have HK : Hid (Kept w wA) := hw.out.kept
        clear hw
        go_wp2_with fail
        refine (first_any _).mono ?_
        rintro e u9 ⟨rfl, K9⟩
        have K10 : Hid (Kept w u9) := HK.out.trans K9
        clear K9
        go_wp2
        go_ret
        exact ⟨rfl, K10.out⟩
  · have hs0 : spv > 0 := h
    subst h2
    clear h
    go_wp2_with fail
    refine (CSd.out _ HO7.out.kept).mono ?_
    rintro e u8 ⟨rfl, K8⟩
    have HO : Hid (Onw w u8 g T l xb xo L A) := HO7.out.still K8
    clear K8 HO7
    go_wp2_with fail
    go_loopg [16] T (fun m v wr => ∃ i : Nat, v = .int .i64 i ∧ i ≤ T ∧ m = T - i ∧ Hid (Onw w wr g T l xb xo L A))
    case atStart => exact ⟨0, rfl, by omega, by omega, HO⟩
    case round =>
      obtain ⟨i, rfl, hi0, hm, hw⟩ := hrel
      have HM : Hid _ := hm
      clear hm HO
      obtain ⟨wA, rfl⟩ : ∃ wA, wA = wr := ⟨_, rfl⟩
      by_cases hlt : i < T
      · have a1 := hw.out.wr.2 i hlt
        have nn := HON.out.nn i hlt
        have HHIT : Hid ((at' ≤ A i ∧ A i < at' + (((0 : Nat) : Int) : Int)) ∨ ∃ k, k < l ∧ A i / 8 = L k) := HON.out.hit i hlt
        have HNE : Hid (∀ k, k < i → A k ≠ A i) := HON.out.ne i hlt
        obtain ⟨Ai, hAi⟩ : ∃ Ai, A i = Ai := ⟨_, rfl⟩
        rw [hAi] at a1 nn HHIT HNE
        have HAI : Hid (A i = Ai) := hAi
        clear hAi
        go_upto_region 19 with fail
        go_cut [17] from 101 to 118 (fun v wc => (∃ q : Bool, v = .bool q ∧ Hid (q = true ↔ at' ≤ Ai ∧ Ai < at' + ((0 : Nat) : Int))) ∧ wA = wc)
        case first =>
          by_cases h1 : Ai ≥ at'
          · have h2 : ¬ Ai < at' := by omega
            go_wp2
            go_meet
            case rel => exact ⟨⟨false, rfl, iff_f (by omega)⟩, rfl⟩
          · go_wp2
            go_meet
            case rel => exact ⟨⟨false, rfl, iff_f (by omega)⟩, rfl⟩
        case rest =>
          obtain ⟨⟨q0, rfl, HQ0⟩, rfl⟩ := hcut
          clear a1
          go_wp2_with fail
          go_loopg [17, 18] l (fun m v j wr => ∃ (k : Nat) (q : Bool), j = .int .i64 k ∧ v = .bool q ∧ k ≤ l ∧ m = l - k ∧ Hid (q = false → ¬ (at' ≤ Ai ∧ Ai < at' + ((0 : Nat) : Int)) ∧ ∀ k', k' < k → Ai / 8 ≠ L k') ∧ Hid (Onw w wr g T l xb xo L A))
          case atStart => exact ⟨0, q0, rfl, rfl, by omega, by omega, fun h => ⟨fun h2 => absurd (HQ0.out.2 h2) (by rw [h]; simp), fun _ h2 => absurd h2 (Nat.not_lt_zero _)⟩, hw⟩
          case round =>
            obtain ⟨k, q, rfl, rfl, hk0, hm1, HQ, hw1⟩ := hrel
            have HM1 : Hid _ := hm1
            clear hm1 hw HQ0
            by_cases hkl : k < l
            · have hx := hw1.out.got.1
              have b1 := hw1.out.got.2 k hkl
              have hgl := hw1.out.wr.1
              have a1 := hw1.out.wr.2 i hlt
              rw [HAI.out] at a1
              obtain ⟨wB, rfl⟩ : ∃ wB, wB = wr := ⟨_, rfl⟩
              have d0 := fun z : KW wB => z.cell hgl a1
              have d1 := fun z : KW wB => z.cell hx b1
              cases q
              · by_cases hE : Ai / 8 = L k
                · have e1 : ((Ai / 8 : Int) == L k) = true := by simpa using hE
                  clear hE
                  go_upto_region 23 with fail
                  refine wp_region_kept (by kernel_rfl) (by kernel_rfl) fun _ => ?_
                  repeat (go_big_quiet_step (fail))
                  refine wpQuiet_nil ?_
                  rintro _ ⟨z, rfl⟩
                  have HN : Hid (Onw w z.it g T l xb xo L A) := hw1.out.still z.ok
                  clear d0 d1 a1 b1 hw1
                  go_wp2
                  go_roundg (l - (k + 1))
                  all_goals (have := HM1.out; try omega)
                  exact ⟨k + 1, true, by go_num, rfl, by omega, by omega, fun h => by (cases h), HN⟩
                · have e1 : ((Ai / 8 : Int) == L k) = false := by simpa using hE
                  have HE : Hid (Ai / 8 ≠ L k) := hE
                  clear hE
                  go_upto_region 23 with fail
                  refine wp_region_kept (by kernel_rfl) (by kernel_rfl) fun _ => ?_
                  repeat (go_big_quiet_step (fail))
                  refine wpQuiet_nil ?_
                  rintro _ ⟨z, rfl⟩
                  have HN : Hid (Onw w z.it g T l xb xo L A) := hw1.out.still z.ok
                  clear d0 d1 a1 b1 hw1
                  go_wp2
                  go_roundg (l - (k + 1))
                  all_goals (have := HM1.out; try omega)
                  exact ⟨k + 1, false, by go_num, rfl, by omega, by omega, fun _ => ⟨(HQ.out (by trivial)).1, fun k' hk' => by
                    rcases Nat.lt_succ_iff_lt_or_eq.1 hk' with h2 | rfl
                    · exact (HQ.out (by trivial)).2 k' h2
                    · exact HE.out⟩, HN⟩
              · have hB : (true = true) := rfl
                go_upto_region 23 with fail
                refine wp_region_kept (by kernel_rfl) (by kernel_rfl) fun _ => ?_
                repeat (go_big_quiet_step (fail))
                refine wpQuiet_nil ?_
                rintro _ ⟨z, rfl⟩
                have HN : Hid (Onw w z.it g T l xb xo L A) := hw1.out.still z.ok
                clear d0 d1 a1 b1 hw1
                go_wp2
                go_roundg (l - (k + 1))
                all_goals (have := HM1.out; try omega)
                exact ⟨k + 1, true, by go_num, rfl, by omega, by omega, fun h => by (cases h), HN⟩
            · obtain rfl : l = k := by omega
              obtain rfl : q = true := by
                cases q
                · exfalso
                  have h1 := HQ.out (by trivial)
                  rcases HHIT.out with h | ⟨k', h2, h3⟩
                  · exact h1.1 h
                  · exact h1.2 k' h2 h3
                · rfl
              have a1 := hw1.out.wr.2 i hlt
              rw [HAI.out] at a1
              have hneg : ¬ Ai < 0 := by omega
              clear HQ HM1 HHIT
              obtain ⟨wB, rfl⟩ : ∃ wB, wB = wr := ⟨_, rfl⟩
              go_wp2_with fail
              go_loopg [19] i (fun m v wr => ∃ k1 : Nat, v = .int .i64 k1 ∧ k1 ≤ i ∧ m = i - k1 ∧ Hid (Onw w wr g T l xb xo L A))
              case atStart => exact ⟨0, rfl, by omega, by omega, hw1⟩
              case round =>
                obtain ⟨k1, rfl, hk1, hm2, hw2⟩ := hrel
                have HM2 : Hid _ := hm2
                clear hm2 hw1 a1
                by_cases hki : k1 < i
                · have hgl := hw2.out.wr.1
                  have a1 := hw2.out.wr.2 i hlt
                  have a2 := hw2.out.wr.2 k1 (by omega)
                  have ne := HNE.out k1 hki
                  rw [HAI.out] at a1
                  generalize A k1 = Ak at a2 ne
                  have e1 : (Ak == Ai) = false := by simpa using ne
                  have d0 := fun z : KW wr => z.cell hgl a1
                  have d1 := fun z : KW wr => z.cell hgl a2
                  clear ne
                  go_upto_region 29 with fail
                  refine wp_region_kept (by kernel_rfl) (by kernel_rfl) fun _ => ?_
                  repeat (go_big_quiet_step (fail))
                  refine wpQuiet_nil ?_
                  rintro _ ⟨z, rfl⟩
                  have HN : Hid (Onw w z.it g T l xb xo L A) := hw2.out.still z.ok
                  clear d0 d1 a1 a2 hw2
                  go_wp2
                  go_roundg (i - (k1 + 1))
                  all_goals (have := HM2.out; try omega)
                  exact ⟨k1 + 1, by go_num, by omega, by omega, HN⟩
                · obtain rfl : k1 = i := by omega
                  go_wp2
                  go_roundg (T - (k1 + 1))
                  all_goals (have := HM.out; try omega)
                  exact ⟨k1 + 1, by go_num, by omega, by omega, hw2⟩
      · have HK : Hid (Kept w wA) := hw.out.kept
        clear hw
        go_wp2_with fail
        refine (first_any _).mono ?_
        rintro e u9 ⟨rfl, K9⟩
        have K10 : Hid (Kept w u9) := HK.out.trans K9
        clear K9
        go_wp2
        go_ret
        exact ⟨rfl, K10.out⟩
end Go.Proofs.Ytpdclckgnajcdaa
