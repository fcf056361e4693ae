/-
  The room's take: what is taken is a run if there is one; the spine is laid where there is none.
-/
import Derived.Test.YtahpnnjemjjfhaaSpcB
namespace Go.Proofs.Ytahpnnjemjjfhaa
open Go.RowKit

/-- What is taken, as whole numbers. -/
def takeZ (n : Nat) (F : Nat → Bool) (k : Int) : List Int := (takeL n F k).map fun x : Nat => (x : Int)
theorem Got.lst {w : World} {base : Nat} {v : Value} {T : List Nat} (h : Got w base v T) : Lst w base v (T.map fun x : Nat => (x : Int)) := by
  unfold Got at h
  unfold Lst
  simpa [List.map_map, Function.comp_def] using h

theorem sideU_range (a : Nat) : ∀ k, sideU (fun j => ((a + j : Nat) : Int)) k = true
  | 0 => rfl
  | k + 1 => by
    simp only [sideU, sideU_range a k, Bool.true_and, Bool.or_eq_true, beq_iff_eq]
    omega
theorem sideU_congr {L M : Nat → Int} : ∀ {k : Nat}, (∀ j, j < k → L j = M j) → sideU L k = sideU M k
  | 0, _ => rfl
  | k + 1, h => by
    simp only [sideU]
    rw [sideU_congr fun j hj => h j (by omega), h k (by omega), h (k - 1) (by omega)]
theorem sideU_step {L : Nat → Int} : ∀ {k : Nat}, sideU L k = true → ∀ j, j < k → L j = L 0 + j
  | 0, _, j, hj => by omega
  | k + 1, h, j, hj => by
    simp only [sideU, Bool.and_eq_true, Bool.or_eq_true, beq_iff_eq] at h
    have ih := sideU_step h.1
    by_cases e : j = k
    · subst e
      by_cases e0 : j = 0
      · subst e0; simp
      · have h1 := ih (j - 1) (by omega)
        rcases h.2 with q | q
        · omega
        · rw [q, h1]; omega
    · exact ih j (by omega)

/-- The numbers of a list. -/
def nth (L : List Int) (j : Nat) : Int := (L[j]?).getD 0
theorem nth_at {L : List Int} {j : Nat} (h : j < L.length) : nth L j = L[j] := by simp [nth, h]
theorem Rdi.rdf {w : World} {x : Option Addr} {L : List Int} (h : Rdi w x L) : Rdf w x L.length (nth L) := fun h0 => by
  obtain ⟨g, o, e, hl, hc⟩ := h h0
  exact ⟨g, o, e, hl, fun j hj => by rw [nth_at hj]; exact hc j hj⟩

/-- Side by side is what is taken just where a run is free. -/
theorem takeL_side {n : Nat} {F : Nat → Bool} {k : Int} (h : takeB n F k = true) : sideU (nth (takeZ n F k)) (takeZ n F k).length = (runO n F k).isSome := by
  have hl : (takeZ n F k).length = k.toNat := by simp [takeZ, takeL_len h]
  have hk : 1 ≤ k ∧ k ≤ cntB F n := by simpa [takeB] using h
  rw [hl]
  cases hr : runO n F k with
  | some a =>
    have e : takeL n F k = List.range' a k.toNat := by rw [takeL, if_pos h, hr]
    rw [sideU_congr (M := fun j => ((a + j : Nat) : Int)) fun j hj => by simp [nth, takeZ, e, hj], sideU_range]
    rfl
  | none =>
    show _ = false
    cases hs : sideU (nth (takeZ n F k)) k.toNat
    · rfl
    · exfalso
      have e : takeL n F k = lowL n F k := by rw [takeL, if_pos h, hr]
      have hlen : (lowL n F k).length = k.toNat := by rw [lowL_len]; omega
      have hst := sideU_step hs
      have hmem : ∀ j, (hj : j < (lowL n F k).length) → (lowL n F k)[j] < n ∧ F ((lowL n F k)[j]) = true := fun j hj => by
        have : (lowL n F k)[j] ∈ lowL n F k := List.getElem_mem hj
        have := List.mem_of_mem_take this
        have := freeU_mem.1 this
        exact this.2
      have h0 : 0 < (lowL n F k).length := by omega
      have hval : ∀ j, (hj : j < (lowL n F k).length) → (lowL n F k)[j] = (lowL n F k)[0] + j := fun j hj => by
        have q := hst j (by omega)
        have q1 : nth (takeZ n F k) j = ((lowL n F k)[j] : Nat) := by simp [nth, takeZ, e, hj]
        have q2 : nth (takeZ n F k) 0 = ((lowL n F k)[0] : Nat) := by simp [nth, takeZ, e, h0]
        rw [q1, q2] at q
        omega
      have hrun : runsB F ((lowL n F k)[0]) k.toNat = true := prunsB_iff.2 fun j hj => by
        have := (hmem j (by omega)).2
        rwa [hval j (by omega)] at this
      have htop := (hmem (k.toNat - 1) (by omega)).1
      rw [hval (k.toNat - 1) (by omega)] at htop
      have hk1 : 1 ≤ k ∧ k ≤ n := ⟨hk.1, by have := cntB_le F n; omega⟩
      rw [runO, if_pos hk1] at hr
      have := topR_non hr ((lowL n F k)[0]) (by omega)
      rw [hrun] at this
      cases this

/-- What take leaves and answers. -/
def Sp.tk (S : Sp) (fr sp : Int) (se : Bool) : Sp :=
  { S with T := useT S.n 2 se S.T (takeZ S.n S.F fr), F := dropF S.F (takeL S.n S.F fr), K := if sp == 0 || (runO S.n S.F fr).isSome then S.K else takeS S.K sp }
def Sp.tkA (S : Sp) (fr sp : Int) : Int := if sp == 0 || (runO S.n S.F fr).isSome then -1 else S.at

section
variable {c : Nat → Nat} {A : Ad} {S : Sp}
theorem fits_takes {fr sp : Int} (h : fitsB S fr sp = true) (hf : 1 ≤ fr) (hs : 0 ≤ sp) : takeB S.n S.F fr = true ∧ ((sp == 0 || (runO S.n S.F fr).isSome) = false → takes S.K sp = true) := by
  simp only [fitsB, Bool.and_eq_true, Bool.not_eq_true', decide_eq_false_iff_not, Bool.or_eq_true, beq_iff_eq, decide_eq_true_eq] at h
  refine ⟨by simp [takeB]; omega, fun q => ?_⟩
  simp only [Bool.or_eq_false_iff, beq_eq_false_iff_ne, ne_eq] at q
  rcases h.2 with (q1 | q1) | q1
  · exact absurd q1 q.1
  · rw [q.2] at q1; cases q1
  · simp [takes]; omega

set_option maxHeartbeats 2000000 in
theorem wtake_any (fr sp : Int) (se : Bool) (w : World) (h : SH w c A S) (ht : fitsB S fr sp = true) (hf : 1 ≤ fr) (hs : 0 ≤ sp) :
    Calls Try.prog 47 #[.agg #[.pointer (some ⟨A.tb, 0, none⟩), .pointer (some ⟨A.pb, 0, none⟩), .pointer (some ⟨A.lb, 0, none⟩), .pointer (some ⟨A.kb, 0, none⟩), .int .i64 A.C.n0, .int .i64 A.C.n1, .int .i64 A.C.n2, .int .i64 A.C.n3, .int .i64 A.C.n4, .int .i64 A.C.n5, .int .i64 A.C.n6, .int .i64 A.C.n7, .slice A.C.x A.C.l A.C.c], .int .i64 fr, .int .i64 sp, .bool se] w fun e w' => ∃ x d, e = .returned (.tuple #[.slice x (takeZ S.n S.F fr).length d, .int .i64 (S.tkA fr sp)]) ∧
      SH w' c A (S.tk fr sp se) ∧ Stp c w c w' ∧ Rdi w' x (takeZ S.n S.F fr) ∧ ∀ g o, x = some ⟨g, o, none⟩ → w.heap.size ≤ g := by
  have HS : Hid (SH w c A S) := h
  obtain ⟨hT, hP⟩ := fits_takes ht hf hs
  have HP : Hid ((sp == 0 || (runO S.n S.F fr).isSome) = false → takes S.K sp = true) := hP
  have HD : Hid (sideU (nth (takeZ S.n S.F fr)) (takeZ S.n S.F fr).length = (runO S.n S.F fr).isSome) := takeL_side hT
  have HL : Hid ((takeZ S.n S.F fr).length ≤ 1024 ∧ ∀ j, j < (takeZ S.n S.F fr).length → IntKind.min .i64 ≤ nth (takeZ S.n S.F fr) j ∧ nth (takeZ S.n S.F fr) j ≤ IntKind.max .i64) := by
    have hk : 1 ≤ fr ∧ fr ≤ cntB S.F S.n := by simpa [takeB] using hT
    have h1 := cntB_le S.F S.n
    have h2 := h.pool.few
    have hl : (takeZ S.n S.F fr).length = fr.toNat := by simp [takeZ, takeL_len hT]
    refine ⟨by omega, fun j hj => ?_⟩
    have hm : ∀ x ∈ takeL S.n S.F fr, x ≤ 1024 := fun x hx => by
      rw [takeL, if_pos hT] at hx
      cases hr : runO S.n S.F fr with
      | none =>
        rw [hr] at hx
        have := (freeU_mem.1 (List.mem_of_mem_take hx)).2.1
        omega
      | some a =>
        rw [hr] at hx
        obtain ⟨m, e1, _, e3, _⟩ := runO_inv hr
        simp only [List.mem_range'_1] at hx
        omega
    have hj2 : j < (takeL S.n S.F fr).length := by simpa [takeZ] using hj
    have e : nth (takeZ S.n S.F fr) j = ((takeL S.n S.F fr)[j] : Nat) := by simp [nth, takeZ, hj2]
    have := hm _ (List.getElem_mem hj2)
    rw [e]
    have e2 : IntKind.min .i64 = -9223372036854775808 := by decide
    have e3 : IntKind.max .i64 = 9223372036854775807 := by decide
    rw [e2, e3]
    constructor <;> omega
  have HA : Hid (S.tkA fr sp = if sp == 0 || (runO S.n S.F fr).isSome then -1 else S.at) := rfl
  have HK : Hid (S.tk fr sp se = { S with T := useT S.n 2 se S.T (takeZ S.n S.F fr), F := dropF S.F (takeL S.n S.F fr), K := if sp == 0 || (runO S.n S.F fr).isSome then S.K else takeS S.K sp }) := rfl
  have HT : Hid (takeB S.n S.F fr = true) := hT
  clear h ht hP hT hf hs
  go_enter Try.func47, Try.ntmps47
  go_wp2_with fail
  generalize hW : w.alloc _ = W
  have HB : Hid (Blk W w.heap.size A.room ∧ Kept w W ∧ W.heap.size = w.heap.size + 1) := by
    rw [← hW]
    exact ⟨Blk.new w _ _, (Kept.refl w).alloc _ _, by simp⟩
  clear hW
  have c1 := HB.out.1.at 1 rfl
  have H1 : Hid (SH W c A S) := HS.out.kept HB.out.2.1
  have CT := ptake_any fr W H1.out.pool
  rw [HT.out] at CT
  go_wp2_with fail
  refine CT.mono ?_
  rintro e w2 ⟨v, rfl, g2, t2, m2⟩
  have l2 := Got.lst g2
  rw [show ((takeL S.n S.F fr).map fun x : Nat => (x : Int)) = takeZ S.n S.F fr from rfl] at l2
  obtain ⟨x, d, rfl⟩ := l2.form
  have NW : Hid (∀ k, w.heap.size ≤ k → c k = 0) := fun k hk => HS.out.new hk
  have H2 : Hid (SH w2 c A { S with F := dropF S.F (takeL S.n S.F fr) } ∧ Stp c w c w2 ∧ Lst w2 W.heap.size (.slice x (takeZ S.n S.F fr).length d) (takeZ S.n S.F fr) ∧ Blk w2 w.heap.size A.room) :=
    ⟨H1.out.pools t2 m2, (Stp.kept HB.out.2.1).trans (H1.out.stpp m2), l2, HB.out.1.muts m2 (fun q => by
      simp only [List.mem_singleton] at q
      have h1 := HS.out.new (k := w.heap.size) (Nat.le_refl _)
      have h2 := HS.out.cpg
      rw [← q, h1] at h2; cases h2)⟩
  have HX : Hid (∀ g o, x = some ⟨g, o, none⟩ → W.heap.size ≤ g) := fun g o e => by
    subst e
    exact (l2.lt g rfl).1
  clear c1 CT g2 t2 m2 l2
  have b0 := H2.out.2.2.2.at 0 rfl
  have b1 := H2.out.2.2.2.at 1 rfl
  have b2 := H2.out.2.2.2.at 2 rfl
  have b3 := H2.out.2.2.2.at 3 rfl
  have b4 := H2.out.2.2.2.at 4 rfl
  have b5 := H2.out.2.2.2.at 5 rfl
  have b6 := H2.out.2.2.2.at 6 rfl
  have b7 := H2.out.2.2.2.at 7 rfl
  have b8 := H2.out.2.2.2.at 8 rfl
  have b9 := H2.out.2.2.2.at 9 rfl
  have b10 := H2.out.2.2.2.at 10 rfl
  have b11 := H2.out.2.2.2.at 11 rfl
  have b12 := H2.out.2.2.2.at 12 rfl
  have CU := use_any (d := d) se w2 H2.out.1 H2.out.2.2.1.rdi (fun g o e q => by rw [NW.out g (by have := HX.out g o e; have := HB.out.2.2; omega)] at q; cases q) (by have := HL.out.1; omega)
  generalize hG : takeZ S.n S.F fr = G at *
  have HG : Hid (takeZ S.n S.F fr = G) := hG
  clear hG
  go_wp2_with fail
  refine CU.mono ?_
  rintro e w3 ⟨rfl, s3, p3, m3⟩
  have H3 : Hid (SH w3 c A { S with T := useT S.n 2 se S.T G, F := dropF S.F (takeL S.n S.F fr) } ∧ Stp c w c w3 ∧ Lst w3 W.heap.size (.slice x G.length d) G ∧ Blk w3 w.heap.size A.room) := by
    refine ⟨s3, H2.out.2.1.trans p3, H2.out.2.2.1.muts m3 (fun k hk q => ?_), H2.out.2.2.2.muts m3 (fun q => ?_)⟩
    · simp only [List.mem_singleton] at q
      have h1 := NW.out k (by have := (H2.out.2.2.1.lt k hk).1; have := HB.out.2.2; omega)
      have h2 := HS.out.ctg
      rw [← q, h1] at h2; cases h2
    · simp only [List.mem_singleton] at q
      have h1 := NW.out w.heap.size (Nat.le_refl _)
      have h2 := HS.out.ctg
      rw [← q, h1] at h2; cases h2
  clear b0 b1 b2 b3 b4 b5 b6 b7 b8 b9 b10 b11 b12 CU s3 p3 m3
  have FIN : Hid (∀ w' : World, (sp == 0 || (runO S.n S.F fr).isSome) = true → Kept w3 w' → SH w' c A (S.tk fr sp se) ∧ Stp c w c w' ∧ Rdi w' x G ∧ ∀ g o, x = some ⟨g, o, none⟩ → w.heap.size ≤ g) := fun w' hb k => by
    refine ⟨?_, H3.out.2.1.trans (Stp.kept k), H3.out.2.2.1.rdi.kept k, fun g o e => by have := HX.out g o e; have := HB.out.2.2; omega⟩
    rw [HK.out, hb]
    exact H3.out.1.kept k
  have CS := side_any (c := d) w3 (by have := HL.out.1; omega) H3.out.2.2.1.rdi.rdf HL.out.2
  rw [HD.out] at CS
  by_cases h0 : sp = 0
  · subst h0
    have e1 : Hid (S.tkA fr 0 = -1) := by rw [HA.out]; rfl
    clear CS
    go_wp2
    go_ret2
    exact ⟨x, d, by rw [e1.out, HG.out]; rfl, HG.out ▸ FIN.out w3 (by simp) (Kept.refl _)⟩
  · have q0 : (sp == 0) = false := by simpa using h0
    cases hr : (runO S.n S.F fr).isSome
    · have ht : takes S.K sp = true := HP.out (by rw [q0, hr]; rfl)
      have e1 : Hid (S.tkA fr sp = S.at) := by rw [HA.out, q0, hr]; rfl
      rw [hr] at CS
      go_wp2_with fail
      refine CS.mono ?_
      rintro e w4 ⟨rfl, k4⟩
      have H4 : Hid (SH w4 c A { S with T := useT S.n 2 se S.T G, F := dropF S.F (takeL S.n S.F fr) } ∧ Stp c w c w4 ∧ Lst w4 W.heap.size (.slice x G.length d) G ∧ Blk w4 w.heap.size A.room) :=
        ⟨H3.out.1.kept k4, H3.out.2.1.trans (Stp.kept k4), H3.out.2.2.1.kept k4, H3.out.2.2.2.kept k4⟩
      clear k4 CS H3
      have b0 := H4.out.2.2.2.at 0 rfl
      have b1 := H4.out.2.2.2.at 1 rfl
      have b2 := H4.out.2.2.2.at 2 rfl
      have b3 := H4.out.2.2.2.at 3 rfl
      have b4 := H4.out.2.2.2.at 4 rfl
      have b5 := H4.out.2.2.2.at 5 rfl
      have b6 := H4.out.2.2.2.at 6 rfl
      have b7 := H4.out.2.2.2.at 7 rfl
      have b8 := H4.out.2.2.2.at 8 rfl
      have b9 := H4.out.2.2.2.at 9 rfl
      have b10 := H4.out.2.2.2.at 10 rfl
      have b11 := H4.out.2.2.2.at 11 rfl
      have b12 := H4.out.2.2.2.at 12 rfl
      have CL := lay_any sp w4 H4.out.1 ht
      rw [show ({ S with T := useT S.n 2 se S.T G, F := dropF S.F (takeL S.n S.F fr) } : Sp).at = S.at from rfl] at CL
      generalize hsa : S.at = sa at *
      have HSA : Hid (S.at = sa) := hsa
      clear hsa
      go_wp2_with fail
      refine CL.mono ?_
      rintro e w5 ⟨rfl, s5, p5, m5⟩
      have H5 : Hid (SH w5 c A (S.tk fr sp se) ∧ Stp c w c w5 ∧ Rdi w5 x G ∧ ∀ g o, x = some ⟨g, o, none⟩ → w.heap.size ≤ g) := by
        refine ⟨?_, H4.out.2.1.trans p5, (H4.out.2.2.1.muts m5 (fun k hk q => ?_)).rdi, fun g o e => by have := HX.out g o e; have := HB.out.2.2; omega⟩
        · rw [HK.out, q0, hr]
          exact s5
        · simp only [List.mem_singleton] at q
          have h1 := NW.out k (by have := (H4.out.2.2.1.lt k hk).1; have := HB.out.2.2; omega)
          have h2 := HS.out.ckb
          rw [← q, h1] at h2; cases h2
      clear b0 b1 b2 b3 b4 b5 b6 b7 b8 b9 b10 b11 b12 CL s5 p5 m5
      go_wp2
      go_ret2
      exact ⟨x, d, by rw [e1.out, HG.out]; rfl, HG.out ▸ H5.out⟩
    · have e1 : Hid (S.tkA fr sp = -1) := by rw [HA.out, q0, hr]; rfl
      rw [hr] at CS
      have HR0 : (sp == 0 || (runO S.n S.F fr).isSome) = true := by rw [hr]; simp
      have HR : Hid ((sp == 0 || (runO S.n S.F fr).isSome) = true) := HR0
      clear hr HR0
      go_wp2_with fail
      refine CS.mono ?_
      rintro e w4 ⟨rfl, k4⟩
      have H5 : Hid _ := FIN.out w4 HR.out k4
      clear k4 CS H3
      go_wp2
      go_ret2
      exact ⟨x, d, by rw [e1.out, HG.out]; rfl, HG.out ▸ H5.out⟩
end
end Go.Proofs.Ytahpnnjemjjfhaa
