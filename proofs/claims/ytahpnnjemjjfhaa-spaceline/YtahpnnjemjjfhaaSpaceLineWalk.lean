/-
  The law SpaceLine: three that wait.
-/
import Derived.Test.YtahpnnjemjjfhaaSnd21
import Derived.Test.YtahpnnjemjjfhaaElems
namespace Go.Proofs.Ytahpnnjemjjfhaa
open Go.RowKit

def qF (i : Nat) : Nat → Bool := fun j => decide (j + i < 20)
def qT (i : Nat) : Nat → Fr := fun j => if j + i < 20 then ⟨0, false, false⟩ else ⟨2, false, true⟩
/-- i single ones were asked for; then those of E wait. -/
def qR (i : Nat) (E : List Ent) (ct : Int) : Sp := ⟨20, qT i, qF i, E, ⟨0, 0, 0, 0, 0⟩, 3, 0, fun _ => [], false, ct⟩
theorem q_new : Eqv (Sp.new 20 0 3 0) (qR 0 [] 0) := ⟨rfl, fun j hj => by
    have hj : j < 20 := hj
    show T0 j = qT 0 j
    unfold qT
    rw [if_pos (by omega)]; rfl, fun j hj => by
    have hj : j < 20 := hj
    show F1 j = qF 0 j
    simp [F1, qF, hj], rfl, rfl, rfl, rfl, fun _ _ => rfl, rfl, rfl⟩
theorem q_T : ∀ i, i < 20 → takeZ 20 (qF i) 1 = [19 - (i : Int)] ∧ takeL 20 (qF i) 1 = [19 - i] ∧ cntB (qF i) 20 = 20 - i := by decide +kernel
theorem q_ask (i : Nat) (ct : Int) (hi : i < 20) : (qR i [] ct).askG 0 1 0 = ⟨1, [19 - (i : Int)], -1⟩ ∧ Eqv ((qR i [] ct).ask 0 1 0 true) (qR (i + 1) [] (ct + 1)) := by
  obtain ⟨h1, h2, h3⟩ := q_T i hi
  have hm : (qR i [] ct).may 0 1 0 = true := by
    simp only [Sp.may, Sp.isT, Sp.of, qR]
    simp
  obtain ⟨a1, a2⟩ := ask_now (S := qR i [] ct) (t := 0) (fr := 1) true hm (by simp [qR]) rfl (by show (1 : Int) ≤ (cntB (qF i) 20 : Nat); omega)
  rw [a1, a2]
  refine ⟨by rw [show takeZ (qR i [] ct).n (qR i [] ct).F 1 = takeZ 20 (qF i) 1 from rfl, h1], (fill_none (by simp [Sp.tk, Sp.tick, qR])).trans ⟨rfl, fun j hj => ?_, fun j hj => ?_, rfl, rfl, rfl, rfl, fun _ _ => rfl, rfl, rfl⟩⟩
  · have hj : j < 20 := hj
    show useT 20 2 true (qT i) (takeZ 20 (qF i) 1) j = qT (i + 1) j
    rw [useT_at rfl _ _ hj, h1]
    unfold qT
    by_cases q : j + i = 19
    · rw [if_pos (by simp; omega), if_neg (by omega)]
    · rw [if_neg (by simp; omega)]
      by_cases q2 : j + i < 20
      · rw [if_pos q2, if_pos (by omega)]
      · rw [if_neg q2, if_neg (by omega)]
  · have hj : j < 20 := hj
    show dropF (qF i) (takeL 20 (qF i) 1) j = qF (i + 1) j
    rw [h2]
    rw [Bool.eq_iff_iff]
    simp [dropF, qF]
    omega

/-- Those that wait, from nx on. -/
def eL (sz : Nat → Int) (nx : Nat) : List Ent := (List.range' nx (3 - nx)).map fun i : Nat => newEnt (i : Int) (sz i) 0
def eA (sz : Nat → Int) (q : Nat) : List Ent := (List.range q).map fun i : Nat => newEnt (i : Int) (sz i) 0
theorem eL_cons (sz : Nat → Int) {nx : Nat} (h : nx < 3) : eL sz nx = newEnt (nx : Int) (sz nx) 0 :: eL sz (nx + 1) := by
  unfold eL
  rw [show 3 - nx = (3 - (nx + 1)) + 1 by omega, List.range'_succ]
  rfl
theorem eL_end (sz : Nat → Int) : eL sz 3 = [] := rfl
theorem q_cnt : cntB (qF 20) 20 = 0 := by kernel_rfl
theorem q_wait (sz : Nat → Int) (q : Nat) (ct : Int) (hq : q < 3) (hs : 1 ≤ sz q) : (qR 20 (eA sz q) ct).askG q (sz q) 0 = ⟨0, [], -1⟩ ∧ (qR 20 (eA sz q) ct).ask q (sz q) 0 true = qR 20 (eA sz (q + 1)) (ct + 1) := by
  have ho : (qR 20 (eA sz q) ct).of q = none := by
    unfold Sp.of
    rw [List.find?_eq_none]
    intro e he
    have he : e ∈ eA sz q := he
    simp only [eA, List.mem_map, List.mem_range] at he
    obtain ⟨i, hi, rfl⟩ := he
    simp [newEnt]; omega
  have hm : (qR 20 (eA sz q) ct).may q (sz q) 0 = true := by
    simp only [Sp.may, ho, Sp.isT, Option.isSome_none, Bool.not_false, Bool.and_true, Bool.and_eq_true, decide_eq_true_eq]
    exact ⟨⟨⟨by omega, by show (q : Int) < ((3 : Nat) : Int); omega⟩, hs⟩, by omega⟩
  have h1 : decide (sz q ≤ (((qR 20 (eA sz q) ct).Q (q : Int).toNat).length : Int)) = false := by
    have e : (((qR 20 (eA sz q) ct).Q (q : Int).toNat).length : Int) = 0 := rfl
    rw [e]
    simp; omega
  have hf : fitsB (qR 20 (eA sz q) ct) (sz q) 0 = false := by
    simp only [fitsB, qR, q_cnt]
    simp; omega
  constructor
  · unfold Sp.askG
    rw [if_pos hm, h1, hf]
    simp
  · unfold Sp.ask
    rw [if_pos hm, h1, hf]
    simp only [Bool.and_false, Bool.false_eq_true, if_false]
    have e : eA sz (q + 1) = eA sz q ++ [newEnt (q : Int) (sz q) 0] := by
      unfold eA
      rw [List.range_succ, List.map_append]
      rfl
    rw [e]
    rfl

theorem cntB_20 (F : Nat → Bool) : cntB F 20 ≤ 20 := cntB_le F 20
structure Ln (S : Sp) (f nx : Nat) (sz : Nat → Int) : Prop where
  n : S.n = 20
  m : S.m = 3
  E : S.E = eL sz nx
  snd : Snd S
  cn : cntB S.F 20 = f
theorem ln_start (sz : Nat → Int) (ct : Int) : Ln (qR 20 (eA sz 3) ct) 0 0 sz := by
  refine ⟨rfl, rfl, rfl, ⟨fun j hj => .inr (.inr ?_), fun j hj => ?_, fun i _ x h => by simp [qR] at h, fun i _ => List.nodup_nil, fun i j _ _ _ x h => by simp [qR] at h⟩, q_cnt⟩
  · show (qT 20 j).s = 2
    unfold qT
    rw [if_neg (by omega)]
  · show qF 20 j = true ↔ (qT 20 j).s = 0
    unfold qT qF
    rw [if_neg (by omega)]
    simp
section
variable {S : Sp} {f nx : Nat} {sz : Nat → Int}
theorem ln_waits (h : Ln S f nx sz) : (wts S.E).length = 3 - nx := by
  rw [h.E]
  have : wts (eL sz nx) = eL sz nx := by
    unfold wts
    rw [List.filter_eq_self]
    intro e he
    simp only [eL, List.mem_map] at he
    obtain ⟨i, _, rfl⟩ := he
    rfl
  rw [this]
  simp [eL]
theorem ln_tick (h : Ln S f nx sz) : Ln S.tick f nx sz := ⟨h.n, h.m, h.E, h.snd.like rfl rfl rfl rfl rfl, h.cn⟩
theorem ln_sweep (h : Ln S f nx sz) (i : Int) : Ln (S.sweep i false) (if S.sweeps i false then f + 1 else f) nx sz := by
  have hn20 := h.n
  have hs := h.snd.sweep i false
  cases hw : S.sweeps i false
  · have e : S.sweep i false = S.tick := by unfold Sp.sweep; rw [hw]; rfl
    rw [e]
    exact ln_tick h
  · have e : S.sweep i false = S.tick.fre i := by unfold Sp.sweep; rw [hw]; rfl
    rw [e] at hs ⊢
    have hw2 := hw
    simp only [Sp.sweeps, Bool.and_eq_true, beq_iff_eq, stt] at hw2
    obtain ⟨h2, _⟩ := hw2
    split at h2
    · rename_i hin
      obtain ⟨k, rfl, hk⟩ := tinn_iff hin
      rw [Int.toNat_natCast] at h2
      have hf : S.F k = false := by
        cases q : S.F k
        · rfl
        · have := (h.snd.fr k hk).1 q; omega
      refine ⟨h.n, h.m, h.E, hs, ?_⟩
      show cntB (giveF S.n S.F k) 20 = f + 1
      rw [← h.cn, ← cntB_set_true hf (by omega : k < 20)]
      refine cntB_congr fun j hj => ?_
      rw [giveF_at hk hf]
      simp [setB]
    · cases h2
theorem ln_end (h : Ln S f 3 sz) : S.serves = false ∧ Ln (S.serve true) f 3 sz := by
  have hh : S.hd = none := by unfold Sp.hd; rw [h.E, eL_end]; rfl
  refine ⟨by unfold Sp.serves; rw [hh], ?_⟩
  unfold Sp.serve
  rw [hh]
  exact ln_tick h
theorem ln_hd (h : Ln S f nx sz) (hx : nx < 3) : S.hd = some (newEnt (nx : Int) (sz nx) 0) := by
  unfold Sp.hd
  rw [h.E, eL_cons sz hx]
  rfl
theorem ln_no (h : Ln S f nx sz) (hx : nx < 3) (hf : (f : Int) < sz nx) : S.serves = false ∧ Ln (S.serve true) f nx sz := by
  have hft : fitsB S (sz nx) 0 = false := by
    have := h.cn
    simp only [fitsB, h.n]
    simp; omega
  have hh := ln_hd h hx
  constructor
  · unfold Sp.serves
    rw [hh]
    show (fitsB S (sz nx) 0 || decide ((2 : Int) ≤ 0)) = false
    rw [hft]; rfl
  · unfold Sp.serve
    rw [hh]
    show Ln (if fitsB S (sz nx) 0 = true then _ else if (2 : Int) ≤ 0 then _ else S.tick) f nx sz
    rw [hft, if_neg (by simp), if_neg (by omega)]
    exact ln_tick h
theorem ln_yes (h : Ln S f nx sz) (hx : nx < 3) (h1 : 1 ≤ sz nx) (hf : sz nx ≤ (f : Int)) {kb : Nat} (hb : S.Bd kb) :
    S.serves = true ∧ ∃ Z : List Int, (Z.length : Int) = sz nx ∧ (S.serve true).lookG nx = ⟨1, Z, -1⟩ ∧ Ln ((S.serve true).look nx) (f - (sz nx).toNat) (nx + 1) sz := by
  have hn20 := h.n
  have hft : fitsB S (sz nx) 0 = true := by
    have := h.cn
    simp only [fitsB, h.n]
    simp; omega
  have hh := ln_hd h hx
  have hsv : S.serve true = (S.tick.tk (sz nx) 0 true).setE { newEnt (nx : Int) (sz nx) 0 with st := 1, pl := S.tkA (sz nx) 0, G := takeZ S.n S.F (sz nx) } := by
    unfold Sp.serve
    rw [hh]
    show (if fitsB S (sz nx) 0 = true then _ else _) = _
    rw [if_pos hft]
    rfl
  have hE : (S.serve true).E = { newEnt (nx : Int) (sz nx) 0 with st := 1, pl := S.tkA (sz nx) 0, G := takeZ S.n S.F (sz nx) } :: eL sz (nx + 1) := by
    rw [hsv]
    show S.E.set (idx (fun e => e.st == 0) S.E).toNat _ = _
    rw [h.E, eL_cons sz hx]
    have : idx (fun e => e.st == 0) (newEnt (nx : Int) (sz nx) 0 :: eL sz (nx + 1)) = 0 := by
      simp [idx, List.findIdx?_cons, newEnt]
    rw [this]
    rfl
  have hof : (S.serve true).of nx = some { newEnt (nx : Int) (sz nx) 0 with st := 1, pl := S.tkA (sz nx) 0, G := takeZ S.n S.F (sz nx) } := by
    unfold Sp.of
    rw [hE]
    simp [newEnt]
  have hta : S.tkA (sz nx) 0 = -1 := by simp [Sp.tkA]
  have ht0 : takeB S.n S.F (sz nx) = true := (fits_takes hft h1 (by omega)).1
  obtain ⟨t1, t2, t3⟩ := takeL_ok ht0
  refine ⟨?_, takeZ S.n S.F (sz nx), ?_, ?_, ?_⟩
  · unfold Sp.serves
    rw [hh]
    show (fitsB S (sz nx) 0 || _) = true
    rw [hft]; rfl
  · simp only [takeZ, List.length_map, t3]
    omega
  · unfold Sp.lookG
    rw [hof]
    show (if ((1 : Int) == 0) = true then _ else if ((1 : Int) == 1) = true then (⟨1, takeZ S.n S.F (sz nx), S.tkA (sz nx) 0⟩ : Gr) else _) = _
    rw [hta]
    rfl
  · have hl : (S.serve true).look nx = (S.serve true).tick.dropE nx := by
      unfold Sp.look
      rw [hof]
      rfl
    have hs : Snd ((S.serve true).look nx) := (h.snd.serve hb true).look nx
    rw [hl] at hs ⊢
    have en : (S.serve true).n = S.n := by rw [hsv]; rfl
    have em : (S.serve true).m = S.m := by rw [hsv]; rfl
    refine ⟨en.trans h.n, em.trans h.m, ?_, hs, ?_⟩
    · show ((S.serve true).E.eraseIdx (idx (fun e => e.th == (nx : Int)) (S.serve true).E).toNat) = _
      rw [hE]
      have : idx (fun e => e.th == (nx : Int)) ({ newEnt (nx : Int) (sz nx) 0 with st := 1, pl := S.tkA (sz nx) 0, G := takeZ S.n S.F (sz nx) } :: eL sz (nx + 1)) = 0 := by
        simp [idx, List.findIdx?_cons, newEnt]
      rw [this]
      rfl
    · have eF : (S.serve true).F = dropF S.F (takeL S.n S.F (sz nx)) := by rw [hsv]; rfl
      show cntB (S.serve true).F 20 = _
      rw [eF]
      have := cntB_drop t1 t2
      rw [hn20] at this t3 ⊢
      rw [h.cn] at this
      omega
end

set_option maxRecDepth 8000 in
set_option maxHeartbeats 16000000 in
theorem line_in (x0 : Option Addr) (c0 : Nat) (L0 : Nat → Int) (x1 : Option Addr) (l1 c1 : Nat) (L1 : Nat → Int) (w : World) (_h3c : 3 ≤ c0) (hL0 : Ints w x0 3 L0) (_h1c : l1 ≤ c1) (hL1 : Ints w x1 l1 L1) (hl1 : l1 ≤ 200) (hs : ∀ i, i < 3 → 1 ≤ L0 i ∧ L0 i ≤ 6) :
    Calls Try.prog 8 #[.slice x0 3 c0, .slice x1 l1 c1] w fun e w' => e = .returned (.bool true) ∧ Kept w w' := by
  obtain ⟨gb, go, rfl, hg, hc⟩ := hL0.at (by omega)
  have HI : Hid ((∀ i, i < 3 → 1 ≤ L0 i ∧ L0 i ≤ 6) ∧ gb < w.heap.size ∧ ∀ i, i < 3 → w.cell? ⟨gb, go + i, none⟩ = some (.int .i64 (L0 i))) := ⟨hs, hg, hc⟩
  have HX : Hid (Ints w x1 l1 L1) := hL1
  have bl : ∀ i, i < 3 → -10 ≤ L0 i ∧ L0 i ≤ 6 := fun i hi => by have := hs i hi; omega
  have i0 : w.cell? ⟨gb, go, none⟩ = some (.int .i64 (L0 0)) := hc 0 (by omega)
  clear hL0 hL1 hc hs
  have SZ : Hid (∀ W wr A S kb D, Kept w W → Lw W wr A S kb D → ∀ i, i < 3 → wr.cell? ⟨gb, go + i, none⟩ = some (.int .i64 (L0 i))) := fun W wr A S kb D k l i hi =>
    ((k.trans l.kept).cell HI.out.2.1).trans (HI.out.2.2 i hi)
  go_enter Try.func8, Try.ntmps8
  go_wp2_with fail
  refine (first_any w).mono ?_
  rintro e wa ⟨rfl, ka⟩
  have KA : Hid (Kept w wa) := ka
  clear ka i0
  go_wp2
  go_loopg [5] 3 (fun m i wr => ∃ k : Nat, i = .int .i64 k ∧ k ≤ 3 ∧ m = 3 - k ∧ Hid (wr = wa))
  case atStart => exact ⟨0, rfl, by omega, by omega, rfl⟩
  case round =>
    obtain ⟨k, rfl, hk, hm, hw⟩ := hrel
    have HM : Hid _ := hm
    clear hm
    by_cases hlt : k < 3
    · have hki : (k : Int) < 3 := by omega
      have a0 : wr.cell? ⟨gb, go + k, none⟩ = some (.int .i64 (L0 k)) := by rw [hw.out]; exact (KA.out.cell HI.out.2.1).trans (HI.out.2.2 k hlt)
      have q1 : ¬ L0 k < 1 := by have := HI.out.1 k hlt; omega
      have q2 : ¬ L0 k > 6 := by have := HI.out.1 k hlt; omega
      generalize L0 k = z at *
      go_wp2
      go_roundg (gk - 1)
      all_goals (have := HM.out; try omega)
      exact ⟨k + 1, by go_num, by omega, by omega, hw⟩
    · obtain rfl : k = 3 := by omega
      have hwe : wr = wa := hw.out
      rw [hwe]
      clear hw hwe
      go_wp2_with fail
      refine (small_any 20 0 0 wa).mono ?_
      rintro e W ⟨b, rfl, sb, kb⟩
      have KB : Hid (Kept w W ∧ Shps W (some ⟨b, 0, none⟩) 1 S1) := ⟨KA.out.trans kb, sb⟩
      clear sb kb KA
      have CM := made_small 20 0 0 W KB.out.2 (by decide)
      go_wp2_with fail
      refine CM.mono ?_
      rintro e w1 ⟨A, rfl, l1', _⟩
      have H1 : Hid (Lw W w1 A (qR 0 [] 0) 0 []) := l1'.eqv q_new
      clear l1' CM
      go_wp2
      go_loopg [8] 20 (fun m i wr => ∃ k : Nat, i = .int .i64 k ∧ k ≤ 20 ∧ m = 20 - k ∧ Hid (Lw W wr A (qR k [] k) k []))
      case atStart => exact ⟨0, rfl, by omega, by omega, H1⟩
      case round =>
        obtain ⟨k, rfl, hk, hm, hw⟩ := hrel
        have HM2 : Hid _ := hm
        clear hm
        by_cases hlt : k < 20
        · have hki : (k : Int) < 20 := by omega
          have C := hw.out.ask (fun _ h => by cases h) (by omega) 0 1 0 true
          rw [(q_ask k k hlt).1] at C
          go_wp2_with fail
          refine C.mono ?_
          rintro e w2 ⟨x2, d2, rfl, _, _, lw2, _⟩
          have h2 : Lw W w2 A (qR (k + 1) [] (k + 1 : Nat)) (k + 1) [] := lw2.eqv (q_ask k k hlt).2
          have H2 : Hid _ := h2
          have hf := field_gr (.int .i64 1) (.slice x2 1 d2) (.int .i64 (-1)) w2
          clear C lw2 h2 hw
          go_wp2
          go_roundg (gk - 1)
          all_goals (have := HM2.out; try omega)
          exact ⟨k + 1, by go_num, by omega, by omega, H2⟩
        · obtain rfl : k = 20 := by omega
          have H3 : Hid (Lw W wr A (qR 20 (eA L0 0) 20) 20 []) := hw.out
          clear hw H1
          obtain ⟨w3, rfl⟩ : ∃ w3, w3 = wr := ⟨_, rfl⟩
          go_wp2
          go_loopg [9] 3 (fun m i wr => ∃ q : Nat, i = .int .i64 q ∧ q ≤ 3 ∧ m = 3 - q ∧ Hid (Lw W wr A (qR 20 (eA L0 q) (20 + q)) (20 + q) []))
          case atStart => exact ⟨0, rfl, by omega, by omega, H3⟩
          case round =>
            obtain ⟨q, rfl, hq, hm, hw⟩ := hrel
            have HM3 : Hid _ := hm
            clear hm
            by_cases hlt : q < 3
            · have hki : (q : Int) < 3 := by omega
              have a0 := SZ.out W wr A _ _ _ KB.out.1 hw.out q hlt
              have C := hw.out.ask (fun _ h => by cases h) (by omega) q (L0 q) 0 true
              obtain ⟨u1, u2⟩ := q_wait L0 q (20 + q) hlt (HI.out.1 q hlt).1
              rw [u1, u2] at C
              have bz := bl q hlt
              generalize L0 q = z at *
              go_wp2_with fail
              refine C.mono ?_
              rintro e w4 ⟨x4, d4, rfl, _, _, lw4, _⟩
              have h4 : Lw W w4 A (qR 20 (eA L0 (q + 1)) (20 + (q + 1 : Nat))) (20 + (q + 1)) [] := by
                rw [show (20 : Int) + (q + 1 : Nat) = 20 + q + 1 by omega]
                exact lw4
              have H4 : Hid _ := h4
              have hf := field_gr (.int .i64 0) (.slice x4 0 d4) (.int .i64 (-1)) w4
              clear C lw4 h4 hw u1 u2
              go_wp2
              go_roundg (gk - 1)
              all_goals (have := HM3.out; try omega)
              exact ⟨q + 1, by go_num, by omega, by omega, H4⟩
            · obtain rfl : q = 3 := by omega
              have H5 : Hid (Lw W wr A (qR 20 (eA L0 3) 23) 23 [] ∧ Ln (qR 20 (eA L0 3) 23) 0 0 L0) := ⟨hw.out, ln_start L0 23⟩
              clear hw H3
              obtain ⟨w5, rfl⟩ : ∃ w5, w5 = wr := ⟨_, rfl⟩
              go_wp2
              go_loopg [10, 11, 12] l1 (fun m vf vn i wr => ∃ (k f nx kb : Nat) (S : Sp), i = .int .i64 k ∧ vf = .int .i64 f ∧ vn = .int .i64 nx ∧ k ≤ l1 ∧ m = l1 - k ∧ (f ≤ 20 ∧ nx ≤ 3 ∧ kb ≤ 23 + 20 * k) ∧ Hid (Lw W wr A S kb [] ∧ Ln S f nx L0))
              case atStart => exact ⟨0, 0, 0, 23, _, rfl, rfl, rfl, by omega, by omega, by omega, H5.out⟩
              case round =>
                obtain ⟨k, f, nx, kb, S, rfl, rfl, rfl, hk, hm, hb, hw⟩ := hrel
                have HM4 : Hid _ := hm
                obtain ⟨hb1, hb2, hb3⟩ := hb
                clear hm
                by_cases hlt : k < l1
                · have hki : (k : Int) < (l1 : Int) := by omega
                  by_cases hn3 : nx < 3
                  · have hni : (nx : Int) < 3 := by omega
                    obtain ⟨yb, yo, rfl, hyl, hyc⟩ := HX.out.at (by omega)
                    have a1 : wr.cell? ⟨yb, yo + k, none⟩ = some (.int .i64 (L1 k)) := ((KB.out.1.trans hw.out.1.kept).cell hyl).trans (hyc k hlt)
                    have C := hw.out.1.sweep (fun _ h => by cases h) (by omega) (L1 k) false
                    have HS := ln_sweep hw.out.2 (L1 k)
                    clear hyc
                    generalize L1 k = z at *
                    obtain ⟨S2, hS2⟩ : ∃ S2, S2 = S.sweep z false := ⟨_, rfl⟩
                    rw [← hS2] at C HS
                    clear hS2
                    go_wp2_with fail
                    refine C.mono ?_
                    rintro e w6 ⟨rfl, lw6, _⟩
                    cases hsw : S.sweeps z false
                    · rw [hsw] at HS
                      simp only [Bool.false_eq_true, if_false] at HS
                      have H6 : Hid (Lw W w6 A S2 (kb + 1) [] ∧ Ln S2 f nx L0) := ⟨lw6, HS⟩
                      clear C lw6 hw a1 HS hsw
                      go_wp2
                      go_loopg [10, 11] (3 - nx) (fun m vf vn wr2 => ∃ (f2 nx2 kb2 : Nat) (S3 : Sp), vf = .int .i64 f2 ∧ vn = .int .i64 nx2 ∧ nx2 ≤ 3 ∧ m = 3 - nx2 ∧ (kb2 + 2 * (3 - nx2) ≤ 30 + 20 * k ∧ f2 ≤ 20) ∧ Hid (Lw W wr2 A S3 kb2 [] ∧ Ln S3 f2 nx2 L0))
                      case atStart => exact ⟨f, nx, kb + 1, S2, by first | rfl | (congr 1), rfl, by omega, by omega, by have := H6.out.2.cn; have := cntB_20 S2.F; omega, H6.out⟩
                      case round =>
                        obtain ⟨f2, nx2, kb2, S3, rfl, rfl, hn2, hm, hb2, hw2⟩ := hrel
                        have HM5 : Hid _ := hm
                        obtain ⟨hb4, hb5⟩ := hb2
                        clear hm H6
                        by_cases hx : nx2 < 3
                        · have hxi : (nx2 : Int) < 3 := by omega
                          have a0 := SZ.out W wr A _ _ _ KB.out.1 hw2.out.1 nx2 hx
                          by_cases hfit : L0 nx2 ≤ (f2 : Int)
                          · obtain ⟨v1, Z, vz, v2, v3⟩ := ln_yes hw2.out.2 hx (HI.out.1 nx2 hx).1 hfit hw2.out.1.bd
                            have C := hw2.out.1.serve (fun _ h => by cases h) (by omega) true
                            rw [v1] at C
                            have hz6 := (HI.out.1 nx2 hx).2
                            have HZ : Hid (Ln ((S3.serve true).look nx2) (f2 - (L0 nx2).toNat) (nx2 + 1) L0) := v3
                            generalize hzz : L0 nx2 = z at *
                            subst vz
                            clear v3 v1
                            go_wp2_with fail
                            refine C.mono ?_
                            rintro e w8 ⟨rfl, lw8, _⟩
                            have H8 : Hid (Lw W w8 A (S3.serve true) (kb2 + 1) []) := lw8
                            clear C lw8 hw2 a0
                            have a0 : w8.cell? ⟨gb, go + nx2, none⟩ = some (.int .i64 (Z.length : Int)) := by rw [← hzz]; exact SZ.out W w8 A _ _ _ KB.out.1 H8.out nx2 hx
                            have HZZ : Hid (L0 nx2 = (Z.length : Int)) := hzz
                            clear hzz
                            have hq1 : ¬ (f2 : Int) < (Z.length : Int) := by omega
                            have C := H8.out.look (fun _ h => by cases h) (by omega) nx2
                            rw [v2] at C
                            obtain ⟨S4, hS4⟩ : ∃ S4, S4 = (S3.serve true).look nx2 := ⟨_, rfl⟩
                            rw [← hS4] at C HZ
                            clear v2 hS4
                            go_wp2_with fail
                            refine C.mono ?_
                            rintro e w9 ⟨x9, d9, rfl, _, _, lw9, _⟩
                            have H9 : Hid (Lw W w9 A S4 (kb2 + 2) []) := lw9
                            clear C lw9 H8 a0
                            go_wp2_with fail
                            generalize hW : World.alloc _ _ = w10
                            have H10 : Hid (Lw W w10 A S4 (kb2 + 2) [] ∧ Blk w10 w9.heap.size [.int .i64 1, .slice x9 Z.length d9, .int .i64 (-1)]) := by
                              rw [← hW]
                              exact ⟨H9.out.keep ((Kept.refl _).alloc _ _), Blk.new w9 _ _⟩
                            obtain ⟨bg, hbg⟩ : ∃ bg, bg = w9.heap.size := ⟨_, rfl⟩
                            rw [← hbg] at H10 ⊢
                            clear hW H9 hbg
                            have LB := H10.out.2.lt
                            have LG : gb < w10.heap.size := Nat.lt_of_lt_of_le HI.out.2.1 (KB.out.1.trans H10.out.1.kept).size
                            have d0 := fun zz : KW w10 => zz.cell (a := ⟨bg, 0, none⟩) LB (H10.out.2.at 0 rfl)
                            have d1 := fun zz : KW w10 => zz.cell (a := ⟨bg, 1, none⟩) LB (H10.out.2.at 1 rfl)
                            have a3 : w10.cell? ⟨gb, go + nx2, none⟩ = some (.int .i64 (Z.length : Int)) := by rw [← HZZ.out]; exact SZ.out W w10 A _ _ _ KB.out.1 H10.out.1 nx2 hx
                            have d2 := fun zz : KW w10 => zz.cell (a := ⟨gb, go + nx2, none⟩) LG a3
                            clear a3
                            refine wp_region_kept (by kernel_rfl) (by kernel_rfl) fun _ => ?_
                            repeat (go_big_quiet_step (skip))
                            refine wpQuiet_nil ?_
                            rintro _ ⟨zz, rfl⟩
                            have H11 : Hid (Lw W zz.it A S4 (kb2 + 2) [] ∧ Ln S4 (f2 - Z.length) (nx2 + 1) L0) := ⟨H10.out.1.keep zz.ok, HZ.out⟩
                            clear d0 d1 d2 LB LG H10
                            go_wp2
                            go_roundg (gk - 1)
                            all_goals (have := HM5.out; try omega)
                            exact ⟨f2 - Z.length, nx2 + 1, kb2 + 2, S4, by first | go_num | (congr 1; omega), by go_num, by omega, by omega, by omega, H11⟩
                          · obtain ⟨v1, v2⟩ := ln_no hw2.out.2 hx (by omega)
                            have C := hw2.out.1.serve (fun _ h => by cases h) (by omega) true
                            rw [v1] at C
                            obtain ⟨S5, hS5⟩ : ∃ S5, S5 = S3.serve true := ⟨_, rfl⟩
                            rw [← hS5] at C v2
                            clear v1 hS5 a0
                            go_wp2_with fail
                            refine C.mono ?_
                            rintro e w9 ⟨rfl, lw9, _⟩
                            have H9 : Hid (Lw W w9 A S5 (kb2 + 1) [] ∧ Ln S5 f2 nx2 L0) := ⟨lw9, v2⟩
                            have a0 := SZ.out W w9 A _ _ _ KB.out.1 lw9 nx2 hx
                            have hq1 : ¬ (f2 : Int) ≥ L0 nx2 := by omega
                            have hz6 := HI.out.1 nx2 hx
                            clear C lw9 hw2 v2
                            obtain ⟨S3, rfl⟩ : ∃ S3, S3 = S5 := ⟨_, rfl⟩
                            generalize L0 nx2 = z at *
                            have C := H9.out.1.free
                            rw [show ((cntB S3.F S3.n : Nat) : Int) = (f2 : Int) by rw [H9.out.2.n, H9.out.2.cn]] at C
                            go_wp2_with fail
                            refine C.mono ?_
                            rintro e w10 ⟨rfl, e10⟩
                            rw [e10]
                            clear C e10
                            have C := H9.out.1.waits
                            rw [show (((wts S3.E).length : Nat) : Int) = 3 - (nx2 : Int) by rw [ln_waits H9.out.2]; omega] at C
                            go_wp2_with fail
                            refine C.mono ?_
                            rintro e w11 ⟨rfl, lw11, _⟩
                            have H11 : Hid (Lw W w11 A S3 (kb2 + 1) [] ∧ Ln S3 f2 nx2 L0) := ⟨lw11, H9.out.2⟩
                            have f20 : f2 ≤ 20 := by have := cntB_20 S3.F; have := H9.out.2.cn; omega
                            clear C lw11 H9
                            go_wp2
                            go_roundg (l1 - (k + 1))
                            all_goals (have := HM4.out; try omega)
                            exact ⟨k + 1, f2, nx2, kb2 + 1, S3, by go_num, rfl, rfl, by omega, by omega, by omega, H11⟩
                        · obtain rfl : nx2 = 3 := by omega
                          obtain ⟨v1, v2⟩ := ln_end hw2.out.2
                          have C := hw2.out.1.serve (fun _ h => by cases h) (by omega) true
                          rw [v1] at C
                          obtain ⟨S5, hS5⟩ : ∃ S5, S5 = S3.serve true := ⟨_, rfl⟩
                          rw [← hS5] at C v2
                          clear v1 hS5
                          go_wp2_with fail
                          refine C.mono ?_
                          rintro e w9 ⟨rfl, lw9, _⟩
                          have H9 : Hid (Lw W w9 A S5 (kb2 + 1) [] ∧ Ln S5 f2 3 L0) := ⟨lw9, v2⟩
                          clear C lw9 hw2 v2
                          obtain ⟨S3, rfl⟩ : ∃ S3, S3 = S5 := ⟨_, rfl⟩
                          have C := H9.out.1.free
                          rw [show ((cntB S3.F S3.n : Nat) : Int) = (f2 : Int) by rw [H9.out.2.n, H9.out.2.cn]] at C
                          go_wp2_with fail
                          refine C.mono ?_
                          rintro e w10 ⟨rfl, e10⟩
                          rw [e10]
                          clear C e10
                          have C := H9.out.1.waits
                          rw [show (((wts S3.E).length : Nat) : Int) = 3 - 3 by rw [ln_waits H9.out.2]; omega] at C
                          go_wp2_with fail
                          refine C.mono ?_
                          rintro e w11 ⟨rfl, lw11, _⟩
                          have H11 : Hid (Lw W w11 A S3 (kb2 + 1) [] ∧ Ln S3 f2 3 L0) := ⟨lw11, H9.out.2⟩
                          have f20 : f2 ≤ 20 := by have := cntB_20 S3.F; have := H9.out.2.cn; omega
                          clear C lw11 H9
                          go_wp2
                          go_roundg (l1 - (k + 1))
                          all_goals (have := HM4.out; try omega)
                          exact ⟨k + 1, f2, 3, kb2 + 1, S3, by go_num, rfl, rfl, by omega, by omega, by omega, H11⟩
                    · rw [hsw] at HS
                      simp only [if_true] at HS
                      have H6 : Hid (Lw W w6 A S2 (kb + 1) [] ∧ Ln S2 (f + 1) nx L0) := ⟨lw6, HS⟩
                      clear C lw6 hw a1 HS hsw
                      go_wp2
                      go_loopg [10, 11] (3 - nx) (fun m vf vn wr2 => ∃ (f2 nx2 kb2 : Nat) (S3 : Sp), vf = .int .i64 f2 ∧ vn = .int .i64 nx2 ∧ nx2 ≤ 3 ∧ m = 3 - nx2 ∧ (kb2 + 2 * (3 - nx2) ≤ 30 + 20 * k ∧ f2 ≤ 20) ∧ Hid (Lw W wr2 A S3 kb2 [] ∧ Ln S3 f2 nx2 L0))
                      case atStart => exact ⟨f + 1, nx, kb + 1, S2, by first | rfl | (congr 1), rfl, by omega, by omega, by have := H6.out.2.cn; have := cntB_20 S2.F; omega, H6.out⟩
                      case round =>
                        obtain ⟨f2, nx2, kb2, S3, rfl, rfl, hn2, hm, hb2, hw2⟩ := hrel
                        have HM5 : Hid _ := hm
                        obtain ⟨hb4, hb5⟩ := hb2
                        clear hm H6
                        by_cases hx : nx2 < 3
                        · have hxi : (nx2 : Int) < 3 := by omega
                          have a0 := SZ.out W wr A _ _ _ KB.out.1 hw2.out.1 nx2 hx
                          by_cases hfit : L0 nx2 ≤ (f2 : Int)
                          · obtain ⟨v1, Z, vz, v2, v3⟩ := ln_yes hw2.out.2 hx (HI.out.1 nx2 hx).1 hfit hw2.out.1.bd
                            have C := hw2.out.1.serve (fun _ h => by cases h) (by omega) true
                            rw [v1] at C
                            have hz6 := (HI.out.1 nx2 hx).2
                            have HZ : Hid (Ln ((S3.serve true).look nx2) (f2 - (L0 nx2).toNat) (nx2 + 1) L0) := v3
                            generalize hzz : L0 nx2 = z at *
                            subst vz
                            clear v3 v1
                            go_wp2_with fail
                            refine C.mono ?_
                            rintro e w8 ⟨rfl, lw8, _⟩
                            have H8 : Hid (Lw W w8 A (S3.serve true) (kb2 + 1) []) := lw8
                            clear C lw8 hw2 a0
                            have a0 : w8.cell? ⟨gb, go + nx2, none⟩ = some (.int .i64 (Z.length : Int)) := by rw [← hzz]; exact SZ.out W w8 A _ _ _ KB.out.1 H8.out nx2 hx
                            have HZZ : Hid (L0 nx2 = (Z.length : Int)) := hzz
                            clear hzz
                            have hq1 : ¬ (f2 : Int) < (Z.length : Int) := by omega
                            have C := H8.out.look (fun _ h => by cases h) (by omega) nx2
                            rw [v2] at C
                            obtain ⟨S4, hS4⟩ : ∃ S4, S4 = (S3.serve true).look nx2 := ⟨_, rfl⟩
                            rw [← hS4] at C HZ
                            clear v2 hS4
                            go_wp2_with fail
                            refine C.mono ?_
                            rintro e w9 ⟨x9, d9, rfl, _, _, lw9, _⟩
                            have H9 : Hid (Lw W w9 A S4 (kb2 + 2) []) := lw9
                            clear C lw9 H8 a0
                            go_wp2_with fail
                            generalize hW : World.alloc _ _ = w10
                            have H10 : Hid (Lw W w10 A S4 (kb2 + 2) [] ∧ Blk w10 w9.heap.size [.int .i64 1, .slice x9 Z.length d9, .int .i64 (-1)]) := by
                              rw [← hW]
                              exact ⟨H9.out.keep ((Kept.refl _).alloc _ _), Blk.new w9 _ _⟩
                            obtain ⟨bg, hbg⟩ : ∃ bg, bg = w9.heap.size := ⟨_, rfl⟩
                            rw [← hbg] at H10 ⊢
                            clear hW H9 hbg
                            have LB := H10.out.2.lt
                            have LG : gb < w10.heap.size := Nat.lt_of_lt_of_le HI.out.2.1 (KB.out.1.trans H10.out.1.kept).size
                            have d0 := fun zz : KW w10 => zz.cell (a := ⟨bg, 0, none⟩) LB (H10.out.2.at 0 rfl)
                            have d1 := fun zz : KW w10 => zz.cell (a := ⟨bg, 1, none⟩) LB (H10.out.2.at 1 rfl)
                            have a3 : w10.cell? ⟨gb, go + nx2, none⟩ = some (.int .i64 (Z.length : Int)) := by rw [← HZZ.out]; exact SZ.out W w10 A _ _ _ KB.out.1 H10.out.1 nx2 hx
                            have d2 := fun zz : KW w10 => zz.cell (a := ⟨gb, go + nx2, none⟩) LG a3
                            clear a3
                            refine wp_region_kept (by kernel_rfl) (by kernel_rfl) fun _ => ?_
                            repeat (go_big_quiet_step (skip))
                            refine wpQuiet_nil ?_
                            rintro _ ⟨zz, rfl⟩
                            have H11 : Hid (Lw W zz.it A S4 (kb2 + 2) [] ∧ Ln S4 (f2 - Z.length) (nx2 + 1) L0) := ⟨H10.out.1.keep zz.ok, HZ.out⟩
                            clear d0 d1 d2 LB LG H10
                            go_wp2
                            go_roundg (gk - 1)
                            all_goals (have := HM5.out; try omega)
                            exact ⟨f2 - Z.length, nx2 + 1, kb2 + 2, S4, by first | go_num | (congr 1; omega), by go_num, by omega, by omega, by omega, H11⟩
                          · obtain ⟨v1, v2⟩ := ln_no hw2.out.2 hx (by omega)
                            have C := hw2.out.1.serve (fun _ h => by cases h) (by omega) true
                            rw [v1] at C
                            obtain ⟨S5, hS5⟩ : ∃ S5, S5 = S3.serve true := ⟨_, rfl⟩
                            rw [← hS5] at C v2
                            clear v1 hS5 a0
                            go_wp2_with fail
                            refine C.mono ?_
                            rintro e w9 ⟨rfl, lw9, _⟩
                            have H9 : Hid (Lw W w9 A S5 (kb2 + 1) [] ∧ Ln S5 f2 nx2 L0) := ⟨lw9, v2⟩
                            have a0 := SZ.out W w9 A _ _ _ KB.out.1 lw9 nx2 hx
                            have hq1 : ¬ (f2 : Int) ≥ L0 nx2 := by omega
                            have hz6 := HI.out.1 nx2 hx
                            clear C lw9 hw2 v2
                            obtain ⟨S3, rfl⟩ : ∃ S3, S3 = S5 := ⟨_, rfl⟩
                            generalize L0 nx2 = z at *
                            have C := H9.out.1.free
                            rw [show ((cntB S3.F S3.n : Nat) : Int) = (f2 : Int) by rw [H9.out.2.n, H9.out.2.cn]] at C
                            go_wp2_with fail
                            refine C.mono ?_
                            rintro e w10 ⟨rfl, e10⟩
                            rw [e10]
                            clear C e10
                            have C := H9.out.1.waits
                            rw [show (((wts S3.E).length : Nat) : Int) = 3 - (nx2 : Int) by rw [ln_waits H9.out.2]; omega] at C
                            go_wp2_with fail
                            refine C.mono ?_
                            rintro e w11 ⟨rfl, lw11, _⟩
                            have H11 : Hid (Lw W w11 A S3 (kb2 + 1) [] ∧ Ln S3 f2 nx2 L0) := ⟨lw11, H9.out.2⟩
                            have f20 : f2 ≤ 20 := by have := cntB_20 S3.F; have := H9.out.2.cn; omega
                            clear C lw11 H9
                            go_wp2
                            go_roundg (l1 - (k + 1))
                            all_goals (have := HM4.out; try omega)
                            exact ⟨k + 1, f2, nx2, kb2 + 1, S3, by go_num, rfl, rfl, by omega, by omega, by omega, H11⟩
                        · obtain rfl : nx2 = 3 := by omega
                          obtain ⟨v1, v2⟩ := ln_end hw2.out.2
                          have C := hw2.out.1.serve (fun _ h => by cases h) (by omega) true
                          rw [v1] at C
                          obtain ⟨S5, hS5⟩ : ∃ S5, S5 = S3.serve true := ⟨_, rfl⟩
                          rw [← hS5] at C v2
                          clear v1 hS5
                          go_wp2_with fail
                          refine C.mono ?_
                          rintro e w9 ⟨rfl, lw9, _⟩
                          have H9 : Hid (Lw W w9 A S5 (kb2 + 1) [] ∧ Ln S5 f2 3 L0) := ⟨lw9, v2⟩
                          clear C lw9 hw2 v2
                          obtain ⟨S3, rfl⟩ : ∃ S3, S3 = S5 := ⟨_, rfl⟩
                          have C := H9.out.1.free
                          rw [show ((cntB S3.F S3.n : Nat) : Int) = (f2 : Int) by rw [H9.out.2.n, H9.out.2.cn]] at C
                          go_wp2_with fail
                          refine C.mono ?_
                          rintro e w10 ⟨rfl, e10⟩
                          rw [e10]
                          clear C e10
                          have C := H9.out.1.waits
                          rw [show (((wts S3.E).length : Nat) : Int) = 3 - 3 by rw [ln_waits H9.out.2]; omega] at C
                          go_wp2_with fail
                          refine C.mono ?_
                          rintro e w11 ⟨rfl, lw11, _⟩
                          have H11 : Hid (Lw W w11 A S3 (kb2 + 1) [] ∧ Ln S3 f2 3 L0) := ⟨lw11, H9.out.2⟩
                          have f20 : f2 ≤ 20 := by have := cntB_20 S3.F; have := H9.out.2.cn; omega
                          clear C lw11 H9
                          go_wp2
                          go_roundg (l1 - (k + 1))
                          all_goals (have := HM4.out; try omega)
                          exact ⟨k + 1, f2, 3, kb2 + 1, S3, by go_num, rfl, rfl, by omega, by omega, by omega, H11⟩
                  · have hni : ¬ (nx : Int) < 3 := by omega
                    go_wp2_with fail
                    refine (first_any wr).mono ?_
                    rintro e w12 ⟨rfl, k12⟩
                    have K12 : Hid (Kept w w12) := (KB.out.1.trans hw.out.1.kept).trans k12
                    clear k12 hw
                    go_wp2
                    go_ret
                    exact ⟨rfl, K12.out⟩
                · have hki : ¬ (k : Int) < (l1 : Int) := by omega
                  go_wp2_with fail
                  refine (first_any wr).mono ?_
                  rintro e w12 ⟨rfl, k12⟩
                  have K12 : Hid (Kept w w12) := (KB.out.1.trans hw.out.1.kept).trans k12
                  clear k12 hw
                  go_wp2
                  go_ret
                  exact ⟨rfl, K12.out⟩

set_option maxRecDepth 8000 in
set_option maxHeartbeats 4000000 in
theorem spaceLine_any (x0 : Option Addr) (l0 c0 : Nat) (L0 : Nat → Int) (x1 : Option Addr) (l1 c1 : Nat) (L1 : Nat → Int) (w : World) (h0c : l0 ≤ c0) (hL0 : Ints w x0 l0 L0) (_hB0 : ∀ i, i < l0 → IntKind.min .i64 ≤ L0 i ∧ L0 i ≤ IntKind.max .i64) (h1c : l1 ≤ c1) (hL1 : Ints w x1 l1 L1) (_hB1 : ∀ i, i < l1 → IntKind.min .i64 ≤ L1 i ∧ L1 i ≤ IntKind.max .i64) :
    Calls Try.prog 8 #[.slice x0 l0 c0, .slice x1 l1 c1] w fun e w' => e = .returned (.bool true) ∧ Kept w w' := by
  clear _hB0 _hB1
  have F : Hid (∀ w, _) := fun w => first_any w
  by_cases h3 : l0 = 3
  · subst h3
    by_cases h2 : l1 ≤ 200
    · by_cases hs : ∀ i, i < 3 → 1 ≤ L0 i ∧ L0 i ≤ 6
      · exact line_in x0 c0 L0 x1 l1 c1 L1 w h0c hL0 h1c hL1 h2 hs
      · obtain ⟨gb, go, rfl, hg, hc⟩ := hL0.at (by omega)
        have HI : Hid (gb < w.heap.size ∧ (∀ i, i < 3 → w.cell? ⟨gb, go + i, none⟩ = some (.int .i64 (L0 i))) ∧ ¬ ∀ i, i < 3 → 1 ≤ L0 i ∧ L0 i ≤ 6) := ⟨hg, hc, hs⟩
        clear hL0 hL1 hc hs
        have h2i : ¬ (l1 : Int) > 200 := by omega
        go_enter Try.func8, Try.ntmps8
        go_wp2_with fail
        refine (F.out w).mono ?_
        rintro e wa ⟨rfl, ka⟩
        have KA : Hid (Kept w wa) := ka
        clear ka
        go_wp2
        go_loopg [5] 3 (fun m i wr => ∃ k : Nat, i = .int .i64 k ∧ k ≤ 3 ∧ m = 3 - k ∧ Hid (wr = wa ∧ ∀ i, i < k → 1 ≤ L0 i ∧ L0 i ≤ 6))
        case atStart => exact ⟨0, rfl, by omega, by omega, rfl, fun _ h => by omega⟩
        case round =>
          obtain ⟨k, rfl, hk, hm, hw⟩ := hrel
          have HM : Hid _ := hm
          clear hm
          by_cases hlt : k < 3
          · have hki : (k : Int) < 3 := by omega
            have a0 : wr.cell? ⟨gb, go + k, none⟩ = some (.int .i64 (L0 k)) := by rw [hw.out.1]; exact (KA.out.cell HI.out.1).trans (HI.out.2.1 k hlt)
            by_cases q1 : L0 k < 1
            · generalize L0 k = z at *
              go_wp2_with fail
              refine (F.out wr).mono ?_
              rintro e w2 ⟨rfl, k2⟩
              have K2 : Hid (Kept w w2) := by
                have e : wr = wa := hw.out.1
                rw [e] at k2
                exact KA.out.trans k2
              clear k2 hw a0
              go_wp2
              go_ret
              exact ⟨rfl, K2.out⟩
            · by_cases q2 : L0 k > 6
              · generalize L0 k = z at *
                go_wp2_with fail
                refine (F.out wr).mono ?_
                rintro e w2 ⟨rfl, k2⟩
                have K2 : Hid (Kept w w2) := by
                  have e : wr = wa := hw.out.1
                  rw [e] at k2
                  exact KA.out.trans k2
                clear k2 hw a0
                go_wp2
                go_ret
                exact ⟨rfl, K2.out⟩
              · have H2 : Hid (wr = wa ∧ ∀ i, i < k + 1 → 1 ≤ L0 i ∧ L0 i ≤ 6) := ⟨hw.out.1, fun i hi => by
                  by_cases e : i = k
                  · subst e; omega
                  · exact hw.out.2 i (by omega)⟩
                clear hw
                generalize L0 k = z at *
                go_wp2
                go_roundg (gk - 1)
                all_goals (have := HM.out; try omega)
                exact ⟨k + 1, by go_num, by omega, by omega, H2⟩
          · obtain rfl : k = 3 := by omega
            exact absurd hw.out.2 HI.out.2.2
    · have h2i : (l1 : Int) > 200 := by omega
      clear hL0 hL1
      go_enter Try.func8, Try.ntmps8
      go_wp2_with fail
      refine (F.out w).mono ?_
      rintro e w1 ⟨rfl, k1⟩
      have K1 : Hid (Kept w w1) := k1
      clear k1
      go_wp2_with fail
      refine (F.out w1).mono ?_
      rintro e w2 ⟨rfl, k2⟩
      have K2 : Hid (Kept w w2) := K1.out.trans k2
      clear k2
      go_wp2
      go_ret
      exact ⟨rfl, K2.out⟩
  · have h3i : ((l0 : Int) != 3) = true := by simp; omega
    clear hL0 hL1
    go_enter Try.func8, Try.ntmps8
    go_wp2_with fail
    refine (F.out w).mono ?_
    rintro e w1 ⟨rfl, k1⟩
    have K1 : Hid (Kept w w1) := k1
    clear k1
    go_wp2_with fail
    refine (F.out w1).mono ?_
    rintro e w2 ⟨rfl, k2⟩
    have K2 : Hid (Kept w w2) := K1.out.trans k2
    clear k2
    go_wp2
    go_ret
    exact ⟨rfl, K2.out⟩
end Go.Proofs.Ytahpnnjemjjfhaa
