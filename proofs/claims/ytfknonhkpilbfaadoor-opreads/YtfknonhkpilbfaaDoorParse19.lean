/-
  op.Parse: of what an operation prints, that operation; else none.
-/
import Derived.Test.YtfknonhkpilbfaaDoorPrint19
namespace Go.Proofs.YtfknonhkpilbfaaDoor
open Go.RowKit
attribute [local go_sem] run_store_complex

theorem mk_inj' {a b : List UInt8} (h : (⟨a.toArray⟩ : ByteArray) = ⟨b.toArray⟩) : a = b := by
  have := congrArg (fun x : ByteArray => x.data.toList) h
  simpa using this
theorem beq_ne {a b : ByteArray} (h : a ≠ b) : (a.toList == b.toList) = false := by
  rw [ByteArray.toList_eq, ByteArray.toList_eq]
  exact beq_eq_false_iff_ne.2 fun q => h (ByteArray.ext (Array.toList_inj.mp q))
theorem beq_same (a : ByteArray) : (a.toList == a.toList) = true := by simp
/-- The kind of a word; 0: there is none. -/
structure Kof (s : List UInt8) (k : Nat) : Prop where
  le : k ≤ 18
  no : k = 0 → ∀ i, 1 ≤ i → i ≤ 18 → wd i ≠ s
  yes : k ≠ 0 → wd k = s

set_option maxHeartbeats 2000000 in
theorem kindOf_any (s : List UInt8) (w : World) (hv : Vs w) : Calls Tryd.prog 10 #[.string ⟨s.toArray⟩] w fun e w' => ∃ k : Nat, e = .returned (.int .i64 (k : Int)) ∧ Kof s k ∧ w' = w := by
  have HV : Hid (Vs w) := hv
  clear hv
  obtain ⟨t, ht⟩ : ∃ t : ByteArray, t = ⟨s.toArray⟩ := ⟨_, rfl⟩
  rw [← ht]
  have HT : Hid (t = ⟨s.toArray⟩) := ht
  clear ht
  go_enter Tryd.func10, Tryd.ntmps10
  go_wp2
  go_loopg [3] 18 (fun m v wr => ∃ j : Nat, v = .int .i64 j ∧ 1 ≤ j ∧ j ≤ 19 ∧ m = 19 - j ∧ Hid ((∀ i, 1 ≤ i → i < j → wd i ≠ s) ∧ wr = w))
  case atStart => exact ⟨1, rfl, by omega, by omega, rfl, fun i h1 h2 => by omega, rfl⟩
  case round =>
    obtain ⟨j, rfl, hj1, hj2, rfl, hh⟩ := hrel
    obtain ⟨hn, rfl⟩ := hh.out
    have HN : Hid (∀ i, 1 ≤ i → i < j → wd i ≠ s) := hn
    clear hh hn
    by_cases h : j ≤ 18
    · have hc := HV.out.wd j (by omega)
      obtain ⟨D, hD⟩ : ∃ D : ByteArray, D = ⟨(wd j).toArray⟩ := ⟨_, rfl⟩
      rw [← hD] at hc
      by_cases e : wd j = s
      · have hDt : D = t := by rw [hD, HT.out, e]
        subst hDt
        have HE : Hid (Kof s j) := ⟨h, fun q => by omega, fun _ => e⟩
        clear hD e
        go_wp2
        go_ret
        exact ⟨j, rfl, HE.out, rfl⟩
      · have hDt : (D.toList == t.toList) = false := beq_ne (by
          rw [hD, HT.out]
          exact fun q => e (mk_inj' q))
        have HE : Hid (∀ i, 1 ≤ i → i < j + 1 → wd i ≠ s) := fun i h1 h2 => by
          rcases Nat.lt_or_ge i j with q | q
          · exact HN.out i h1 q
          · obtain rfl : i = j := by omega
            exact e
        clear hD e
        go_wp2
        go_roundg (19 - (j + 1))
        · exact ⟨j + 1, rfl, by omega, by omega, rfl, HE.out, rfl⟩
        · omega
    · have HE : Hid (Kof s 0) := ⟨by omega, fun _ i h1 h2 => HN.out i h1 (by omega), fun q => absurd rfl q⟩
      go_wp2
      go_ret
      exact ⟨0, rfl, HE.out, rfl⟩

/-- What Parse answers. -/
def ParseA (s : List UInt8) (w : World) (e : Ending) (w' : World) : Prop := ∃ (o : OP) (code : Int), e = .returned (.tuple #[o.val, .int .i64 code]) ∧ Kept w w' ∧ (∀ g, Good s g → o = g ∧ code = 0) ∧ ((¬ ∃ g, Good s g) → o = zer 0 ∧ code = 2)
theorem ParseA.bad {s : List UInt8} {w w' : World} (h : ¬ ∃ g, Good s g) (k : Kept w w') : ParseA s w (.returned (.tuple #[(zer 0).val, .int .i64 2])) w' := ⟨zer 0, 2, rfl, k, fun g hg => absurd ⟨g, hg⟩ h, fun _ => ⟨rfl, rfl⟩⟩
theorem ParseA.good {s : List UInt8} {w w' : World} {o : OP} (h : Good s o) (hu : ∀ g, Good s g → o = g) (k : Kept w w') : ParseA s w (.returned (.tuple #[o.val, .int .i64 0])) w' := ⟨o, 0, rfl, k, fun g hg => ⟨hu g hg, rfl⟩, fun q => absurd ⟨o, h⟩ q⟩

/-- How far it is read, of whatever operation the text is of. -/
structure Rdg (s : List UInt8) (k j : Nat) (p : OP) (R : List UInt8) : Prop where
  ok : p.Ok
  kk : p.k = k
  len : R.length ≤ s.length
  trk : ∀ g, Good s g → g.k = k ∧ p = g.rd ((lts k).take j) ∧ R = g.tl ((lts k).drop j)

theorem Rdg.start {s : List UInt8} {k : Nat} (hk : Kof (cutS s).1 k) (h0 : k ≠ 0) : Rdg s k 0 (zer k) (cutS s).2 := by
  refine ⟨zer_ok (by omega) hk.le, rfl, (cutS_len s).2, fun g hg => ?_⟩
  have e : cutS s = (wd g.k, g.tl (lts g.k)) := by rw [← hg.prt]; exact cutS_prt g
  have h1 := hk.yes h0
  rw [e] at h1
  have h2 : k = g.k := wd_inj ⟨by omega, hk.le⟩ ⟨hg.ok.k1, hg.ok.k2⟩ h1
  subst h2
  rw [e]
  exact ⟨rfl, rfl, rfl⟩
theorem Good.kof {s : List UInt8} {g : OP} (hg : Good s g) (hk : Kof (cutS s).1 0) : False := by
  have e : cutS s = (wd g.k, g.tl (lts g.k)) := by rw [← hg.prt]; exact cutS_prt g
  have := hk.no rfl g.k hg.ok.k1 hg.ok.k2
  rw [e] at this
  exact this rfl
theorem upd_congr (p : OP) (l : UInt8) {r r' : Int} {q q' : Nat} (h1 : l ≠ 88 → l ≠ 89 → r = r') (h2 : l = 88 ∨ l = 89 → q = q') : p.upd l r q = p.upd l r' q' := by
  by_cases a : l = 88
  · rw [h2 (.inl a)]; subst a; rfl
  · by_cases b : l = 89
    · rw [h2 (.inr b)]; subst b; rfl
    · rw [h1 a b]
      unfold OP.upd
      rw [if_neg a, if_neg b, if_neg a, if_neg b]
theorem Rdg.step {s R : List UInt8} {k j : Nat} {p : OP} (h : Rdg s k j p R) (hj : j < (lts k).length) {r : Int} {q : Nat} (hr : i64 r) (hq : q < 18446744073709551616)
    (h1 : (lts k)[j] ≠ 88 → (lts k)[j] ≠ 89 → ∀ m, i64 m → (cutS R).1 = Lib.itoa m → r = m) (h2 : (lts k)[j] = 88 ∨ (lts k)[j] = 89 → ∀ v, v < 18446744073709551616 → (cutS R).1 = hex16 v → q = v) :
    Rdg s k (j + 1) (p.upd (lts k)[j] r q) (cutS R).2 := by
  refine ⟨h.ok.upd _ hr hq, (OP.upd_k _ _ _ _).trans h.kk, Nat.le_trans (cutS_len R).2 h.len, fun g hg => ?_⟩
  obtain ⟨e1, e2, e3⟩ := h.trk g hg
  have hd : (lts k).drop j = (lts k)[j] :: (lts k).drop (j + 1) := List.drop_eq_getElem_cons hj
  rw [hd] at e3
  have hc := cutS_tl g (lts k)[j] ((lts k).drop (j + 1))
  rw [← e3] at hc
  refine ⟨e1, ?_, by rw [hc]⟩
  rw [List.take_add_one, List.getElem?_eq_getElem hj, Option.toList_some]
  unfold OP.rd at e2 ⊢
  rw [List.foldl_append, ← e2]
  simp only [List.foldl_cons, List.foldl_nil]
  have hf : (cutS R).1 = g.fld (lts k)[j] := by rw [hc]
  refine upd_congr _ _ (fun a b => h1 a b _ (num_in hg.ok _) ?_) (fun a => h2 a _ (bit_lt hg.ok _) ?_)
  · rw [hf, fld_dec _ _ a b]
  · rw [hf, fld_hex _ _ a]
theorem Rdg.all {s R : List UInt8} {k j : Nat} {p : OP} (h : Rdg s k j p R) (hj : (lts k).length ≤ j) (g : OP) (hg : Good s g) : p = g := by
  obtain ⟨e1, e2, _⟩ := h.trk g hg
  rw [List.take_of_length_le hj, ← e1] at e2
  rw [e2]
  exact rd_all g hg.ok hg.cz

theorem It.six {w : World} {g b i : Nat} {s : List UInt8} (h : It w g s i) (hb : g ≠ b) (v0 v1 v2 v3 v4 v5 : Value) : It (Go.Proofs.YtfknonhkpilbfaaDoor.six w b v0 v1 v2 v3 v4 v5) g s i := by
  have e : ∀ (w : World) (o : Nat) (v : Value), It w g s i → It (w.setCell ⟨b, o, none⟩ v) g s i := fun w o v h => (Below.heap_setCell w ⟨b, o, none⟩ v g hb).trans h
  exact e _ 5 v5 (e _ 4 v4 (e _ 3 v3 (e _ 2 v2 (e _ 1 v1 (e _ 0 v0 h)))))

set_option maxHeartbeats 8000000 in
set_option maxRecDepth 20000 in
theorem parse_op (s : List UInt8) (hl : s.length ≤ 500) (w : World) (hv : Vs w) : Calls Tryd.prog 5 #[.string ⟨s.toArray⟩] w fun e w' => ParseA s w e w' := by
  have HV : Hid (Vs w) := hv
  have HC : Hid (∀ (r : List UInt8) W, r.length ≤ 500 → Vs W → Calls Tryd.prog 9 #[.string ⟨r.toArray⟩, .string ⟨#[32]⟩] W fun e w' => ∃ b : Bool, e = .returned (.tuple #[.string ⟨(cutS r).1.toArray⟩, .string ⟨(cutS r).2.toArray⟩, .bool b]) ∧ Kept W w') := fun r W h q => cut_any r (by omega) W q
  clear hv
  obtain ⟨t, ht⟩ : ∃ t : ByteArray, t = ⟨s.toArray⟩ := ⟨_, rfl⟩
  have hC0 := HC.out s
  rw [← ht] at hC0 ⊢
  have HT : Hid (t = ⟨s.toArray⟩) := ht
  clear ht
  go_enter Tryd.func5, Tryd.ntmps5
  go_wp2_with fail
  have HB : Hid (Blk (w.alloc (.cells #[.int .i64 0, .int .i64 0, .int .i64 0, .int .i64 0, .int .i64 0, .complex .f64 0 0] 25)) w.heap.size (zer 0).cs ∧ Kept w (w.alloc (.cells #[.int .i64 0, .int .i64 0, .int .i64 0, .int .i64 0, .int .i64 0, .complex .f64 0 0] 25))) := ⟨Blk.new w [.int .i64 0, .int .i64 0, .int .i64 0, .int .i64 0, .int .i64 0, .complex .f64 0 0] 25, (Kept.refl w).alloc _ _⟩
  refine (hC0 _ hl (HV.out.keep HB.out.2)).mono ?_
  rintro e w1 ⟨b, rfl, K⟩
  have HB1 : Hid (Blk w1 w.heap.size (zer 0).cs ∧ Kept w w1) := ⟨HB.out.1.kept K, HB.out.2.trans K⟩
  clear K HB hC0
  go_wp2_with fail
  refine (kindOf_any (cutS s).1 _ (HV.out.keep HB1.out.2)).mono ?_
  rintro e w' ⟨k, rfl, hk, rfl⟩
  have HK : Hid (Kof (cutS s).1 k) := hk
  clear hk
  go_wp2_with fail
  have HW : Hid (Blk (w'.alloc (.cells #[.int .i64 (k : Int), .int .i64 0, .int .i64 0, .int .i64 0, .int .i64 0, .complex .f64 0 0] 25)) w.heap.size (zer 0).cs ∧ Blk (w'.alloc (.cells #[.int .i64 (k : Int), .int .i64 0, .int .i64 0, .int .i64 0, .int .i64 0, .complex .f64 0 0] 25)) w'.heap.size (zer k).cs ∧ Kept w (w'.alloc (.cells #[.int .i64 (k : Int), .int .i64 0, .int .i64 0, .int .i64 0, .int .i64 0, .complex .f64 0 0] 25)) ∧ w.heap.size < w'.heap.size ∧ (w'.alloc (.cells #[.int .i64 (k : Int), .int .i64 0, .int .i64 0, .int .i64 0, .int .i64 0, .complex .f64 0 0] 25)).heap.size = w'.heap.size + 1) :=
    ⟨HB1.out.1.kept ((Kept.refl _).alloc _ _), Blk.new w' [.int .i64 (k : Int), .int .i64 0, .int .i64 0, .int .i64 0, .int .i64 0, .complex .f64 0 0] 25, HB1.out.2.trans ((Kept.refl _).alloc _ _), HB1.out.1.lt, by simp⟩
  generalize w'.alloc (.cells #[.int .i64 (k : Int), .int .i64 0, .int .i64 0, .int .i64 0, .int .i64 0, .complex .f64 0 0] 25) = W2 at HW ⊢
  generalize w'.heap.size = g at HW ⊢
  clear HB1
  by_cases h0 : k = 0
  · subst h0
    have HE : Hid (¬ ∃ g, Good s g) := fun ⟨g, hg⟩ => hg.kof HK.out
    have HZ : Hid (Blk W2 w.heap.size (zer 0).cs ∧ Kept w W2) := ⟨HW.out.1, HW.out.2.2.1⟩
    have B1 := HW.out.1
    refine (known_no _).mono ?_
    rintro e w3 ⟨rfl, rfl⟩
    have g0 := B1.fz 0
    have g1 := B1.fz 1
    have g2 := B1.fz 2
    have g3 := B1.fz 3
    have g4 := B1.fz 4
    have g5 := B1.fz 5
    have d0 := B1.at 0 rfl
    have d1 := B1.at 1 rfl
    have d2 := B1.at 2 rfl
    have d3 := B1.at 3 rfl
    have d4 := B1.at 4 rfl
    have d5 := B1.at 5 rfl
    clear B1
    go_wp2
    (try simp only [Exit.inBlock, Exit.then])
    exact bodyPost_ret_by (results_blk_tmp (p := 2) (u := 3) rfl _ _ w.heap.size [.int .i64 0, .int .i64 0, .int .i64 0, .int .i64 0, .int .i64 0, .complex .f64 0 0] rfl (HZ.out.1.six (.int .i64 0) (.int .i64 0) (.int .i64 0) (.int .i64 0) (.int .i64 0) (.complex .f64 0 0)) Tryd.underlying25 (by kernel_rfl)) rfl (ParseA.bad HE.out (HZ.out.2.six (Nat.le_refl _) (.int .i64 0) (.int .i64 0) (.int .i64 0) (.int .i64 0) (.int .i64 0) (.complex .f64 0 0)))
  · have hk18 := HK.out.le
    have HR : Hid (Rdg s k 0 (zer k) (cutS s).2) := Rdg.start HK.out h0
    refine (known_yes k (by omega) hk18 _).mono ?_
    rintro e w3 ⟨rfl, rfl⟩
    have q2 := (HV.out.keep HW.out.2.2.1).lts k (by omega)
    have q0 : w3.cell? ⟨g, 0, none⟩ = some (.int .i64 (k : Int)) := HW.out.2.1.at 0 rfl
    have hs2 := HW.out.2.2.2.2
    have HI : Hid (It (w3.iter ⟨(lts k).toArray⟩ 0) (g + 1) (lts k) 0 ∧ Kept w3 (w3.iter ⟨(lts k).toArray⟩ 0)) := by
      refine ⟨?_, ⟨(Below.refl _ _).alloc (Nat.le_refl _) _⟩⟩
      have := World.iter_heap w3 ⟨(lts k).toArray⟩ 0
      rw [hs2] at this
      exact this
    go_wp2
    go_loopg [5] (lts k).length (fun m v wr => ∃ (j : Nat) (R : List UInt8), v = .string ⟨R.toArray⟩ ∧ j ≤ (lts k).length ∧ m = (lts k).length - j ∧ Hid (∃ p, Rdg s k j p R ∧ It wr (g + 1) (lts k) j ∧ Blk wr g p.cs ∧ Blk wr w.heap.size (zer 0).cs ∧ Kept w wr ∧ w.heap.size < g))
    case atStart => exact ⟨0, (cutS s).2, rfl, Nat.zero_le _, rfl, zer k, HR.out, HI.out.1, HW.out.2.1.kept HI.out.2, HW.out.1.kept HI.out.2, HW.out.2.2.1.trans HI.out.2, HW.out.2.2.2.1⟩
    case round =>
      obtain ⟨j, R, rfl, hj, rfl, hh⟩ := hrel
      obtain ⟨p, hR, hIt, hB, hB0, hK, hlt⟩ := hh.out
      clear hh HR HI HW q2 q0 hs2
      have h3 := lts_len k
      by_cases h : j < (lts k).length
      · have hnext := next_l (P := Tryd.prog) wr (g + 1) (lts k) j hIt h (lts_ascii k)
        have hC := HC.out R
        have hRl : R.length ≤ 500 := Nat.le_trans hR.len hl
        have HS : Hid (∀ r q, i64 r → q < 18446744073709551616 → ((lts k)[j] ≠ 88 → (lts k)[j] ≠ 89 → ∀ m, i64 m → (cutS R).1 = Lib.itoa m → r = m) → ((lts k)[j] = 88 ∨ (lts k)[j] = 89 → ∀ v, v < 18446744073709551616 → (cutS R).1 = hex16 v → q = v) → Rdg s k (j + 1) (p.upd (lts k)[j] r q) (cutS R).2) := fun r q a b c d => hR.step h a b c d
        have HH : Hid (It (wr.iterAt (g + 1) ⟨(lts k).toArray⟩ (j + 1)) (g + 1) (lts k) (j + 1) ∧ Blk (wr.iterAt (g + 1) ⟨(lts k).toArray⟩ (j + 1)) g p.cs ∧ Blk (wr.iterAt (g + 1) ⟨(lts k).toArray⟩ (j + 1)) w.heap.size (zer 0).cs ∧ Kept w (wr.iterAt (g + 1) ⟨(lts k).toArray⟩ (j + 1)) ∧ w.heap.size < g) :=
          ⟨hIt.step (j + 1), hB.iterAt (by omega), hB0.iterAt (by omega), hK.iterAt (by omega) _, hlt⟩
        clear hIt hB hB0 hK hR hlt
        generalize wr.iterAt (g + 1) ⟨(lts k).toArray⟩ (j + 1) = W1 at hnext HH
        generalize (lts k)[j] = l at hnext HS
        go_wp2_with fail
        refine (hC _ hRl (HV.out.keep HH.out.2.2.2.1)).mono ?_
        rintro e w4 ⟨b, rfl, K⟩
        have HH4 : Hid (It w4 (g + 1) (lts k) (j + 1) ∧ Blk w4 g p.cs ∧ Blk w4 w.heap.size (zer 0).cs ∧ Kept w w4 ∧ w.heap.size < g) := ⟨HH.out.1.kept K, HH.out.2.1.kept K, HH.out.2.2.1.kept K, HH.out.2.2.2.1.trans K, HH.out.2.2.2.2⟩
        clear K HH hC hnext
        have B := HH4.out.2.1
        have c0 := B.at 0 rfl
        have c1 := B.at 1 rfl
        have c2 := B.at 2 rfl
        have c3 := B.at 3 rfl
        have c4 := B.at 4 rfl
        have c5 := B.at 5 rfl
        clear B
        have hcl := (cutS_len R).1
        have hW := fun W q => with_any p l (cutS R).1 (by omega) W q
        unfold OP.val at hW
        go_wp2_with fail
        refine (hW _ (HV.out.keep HH4.out.2.2.2.1)).mono ?_
        clear hW c0 c1 c2 c3 c4 c5 hcl
        rintro e w5 ⟨r, q, rfl, a1, a2, a3, a4, K⟩
        have HS2 : Hid (Rdg s k (j + 1) (p.upd l r q) (cutS R).2) := HS.out r q a1 a2 a3 a4
        have HH5 : Hid (It w5 (g + 1) (lts k) (j + 1) ∧ Blk w5 g p.cs ∧ Blk w5 w.heap.size (zer 0).cs ∧ Kept w w5 ∧ w.heap.size < g) := ⟨HH4.out.1.kept K, HH4.out.2.1.kept K, HH4.out.2.2.1.kept K, HH4.out.2.2.2.1.trans K, HH4.out.2.2.2.2⟩
        clear a1 a2 a3 a4 K HH4 HS
        have B := HH5.out.2.1
        have g0 := B.fz 0
        have g1 := B.fz 1
        have g2 := B.fz 2
        have g3 := B.fz 3
        have g4 := B.fz 4
        have g5 := B.fz 5
        have d0 := B.at 0 rfl
        have d1 := B.at 1 rfl
        have d2 := B.at 2 rfl
        have d3 := B.at 3 rfl
        have d4 := B.at 4 rfl
        have d5 := B.at 5 rfl
        clear B
        generalize p.upd l r q = u at HS2 ⊢
        have hu : u.val = .agg #[.int .i64 (u.k : Int), .int .i64 u.a, .int .i64 u.b, .int .i64 u.c, .int .i64 u.n, .complex .f64 u.x u.y] := rfl
        rw [hu]
        clear hu
        go_wp2
        go_roundg ((lts k).length - (j + 1))
        · refine ⟨j + 1, (cutS R).2, rfl, by omega, rfl, u, HS2.out, ?_, HH5.out.2.1.six _ _ _ _ _ _, HH5.out.2.2.1.six_other (b := g) (by have := HH5.out.2.2.2.2; omega) _ _ _ _ _ _, HH5.out.2.2.2.1.six (by have := HH5.out.2.2.2.2; omega) _ _ _ _ _ _, HH5.out.2.2.2.2⟩
          exact It.six HH5.out.1 (by omega) _ _ _ _ _ _
        · omega
      · have hnext := next_e (P := Tryd.prog) wr (g + 1) (lts k) j hIt h
        have HG : Hid (∀ q, Good s q → p = q) := fun q hq => hR.all (by omega) q hq
        have HPok : Hid p.Ok := hR.ok
        have hP := fun W q => print_any p hR.ok W q
        have HH : Hid (Blk wr g p.cs ∧ Blk wr w.heap.size (zer 0).cs ∧ Kept w wr ∧ w.heap.size < g) := ⟨hB, hB0, hK, hlt⟩
        obtain ⟨D, hD⟩ : ∃ D : ByteArray, D = ⟨p.prt.toArray⟩ := ⟨_, rfl⟩
        rw [← hD] at hP
        have HD : Hid (D = ⟨p.prt.toArray⟩) := hD
        unfold OP.val at hP
        have c0 := hB.at 0 rfl
        have c1 := hB.at 1 rfl
        have c2 := hB.at 2 rfl
        have c3 := hB.at 3 rfl
        have c4 := hB.at 4 rfl
        have c5 := hB.at 5 rfl
        clear hIt hB hB0 hK hR hlt hD
        go_wp2_with fail
        refine (hP _ (HV.out.keep HH.out.2.2.1)).mono ?_
        clear hP c0 c1 c2 c3 c4 c5 hnext
        rintro e w5 ⟨rfl, K⟩
        have HH5 : Hid (Blk w5 g p.cs ∧ Blk w5 w.heap.size (zer 0).cs ∧ Kept w w5 ∧ w.heap.size < g) := ⟨HH.out.1.kept K, HH.out.2.1.kept K, HH.out.2.2.1.trans K, HH.out.2.2.2⟩
        clear K HH
        have B := HH5.out.1
        have B1 := HH5.out.2.1
        have c0 := B.at 0 rfl
        have c1 := B.at 1 rfl
        have c2 := B.at 2 rfl
        have c3 := B.at 3 rfl
        have c4 := B.at 4 rfl
        have c5 := B.at 5 rfl
        have g0 := B1.fz 0
        have g1 := B1.fz 1
        have g2 := B1.fz 2
        have g3 := B1.fz 3
        have g4 := B1.fz 4
        have g5 := B1.fz 5
        have d0 := B1.at 0 rfl
        have d1 := B1.at 1 rfl
        have d2 := B1.at 2 rfl
        have d3 := B1.at 3 rfl
        have d4 := B1.at 4 rfl
        have d5 := B1.at 5 rfl
        clear B B1
        by_cases he : p.prt = s
        · have hDt : D = t := by rw [HD.out, HT.out, he]
          subst hDt
          have hg : Good s p.cz := Good.of HPok.out he
          have HE : Hid (Good s p) := by
            have := HG.out _ hg
            rw [← this] at hg
            exact hg
          clear hg he
          go_wp2
          (try simp only [Exit.inBlock, Exit.then])
          exact bodyPost_ret_by (results_blk_tmp (p := 2) (u := 3) rfl _ _ w.heap.size [.int .i64 (p.k : Int), .int .i64 p.a, .int .i64 p.b, .int .i64 p.c, .int .i64 p.n, .complex .f64 p.x p.y] rfl (HH5.out.2.1.six (.int .i64 (p.k : Int)) (.int .i64 p.a) (.int .i64 p.b) (.int .i64 p.c) (.int .i64 p.n) (.complex .f64 p.x p.y)) Tryd.underlying25 (by kernel_rfl)) rfl (ParseA.good HE.out HG.out (HH5.out.2.2.1.six (Nat.le_refl _) (.int .i64 (p.k : Int)) (.int .i64 p.a) (.int .i64 p.b) (.int .i64 p.c) (.int .i64 p.n) (.complex .f64 p.x p.y)))
        · have hDt : (D.toList == t.toList) = false := beq_ne (by
            rw [HD.out, HT.out]
            exact fun q => he (mk_inj' q))
          have HE : Hid (¬ ∃ q, Good s q) := fun ⟨q, hq⟩ => he (by rw [HG.out q hq]; exact hq.prt)
          clear he
          go_wp2
          (try simp only [Exit.inBlock, Exit.then])
          exact bodyPost_ret_by (results_blk_tmp (p := 2) (u := 3) rfl _ _ w.heap.size [.int .i64 0, .int .i64 0, .int .i64 0, .int .i64 0, .int .i64 0, .complex .f64 0 0] rfl (HH5.out.2.1.six (.int .i64 0) (.int .i64 0) (.int .i64 0) (.int .i64 0) (.int .i64 0) (.complex .f64 0 0)) Tryd.underlying25 (by kernel_rfl)) rfl (ParseA.bad HE.out (HH5.out.2.2.1.six (Nat.le_refl _) (.int .i64 0) (.int .i64 0) (.int .i64 0) (.int .i64 0) (.int .i64 0) (.complex .f64 0 0)))
end Go.Proofs.YtfknonhkpilbfaaDoor
