/-
  Package graph: Size, Live, Len.
-/
import Derived.Test.YtbmcbkebcchjmaaGreatDoorRed20
namespace Go.Proofs.YtbmcbkebcchjmaaGreatDoor
open Go.RowKit Go.Maps Go.Sort
attribute [local go_sem] run_store_complex

/-- Objects have no length; what is made may be. -/
def Well (C : Cf) (E : List Th) : Prop := ∀ i (hi : i < E.length), C.A E[i].p.kd = false → E[i].p.ln = 0
def frE (C : Cf) (E : List Th) (i : Nat) : Int := match E[i]? with | some t => C.fr t.p.kd t.p.ln | none => 0
def spE (C : Cf) (E : List Th) (i : Nat) : Int := match E[i]? with | some t => C.sp t.p.kd t.p.ln | none => 0
def sumF (f : Nat → Int) : List Nat → Int
  | [] => 0
  | i :: K => f i + sumF f K
theorem sumF_app (f : Nat → Int) (K M : List Nat) : sumF f (K ++ M) = sumF f K + sumF f M := by
  induction K with
  | nil => simp [sumF]
  | cons i K ih => simp only [List.cons_append, sumF, ih]; omega
theorem sumF_take (f : Nat → Int) (K : List Nat) (k : Nat) (h : k < K.length) : sumF f (K.take (k + 1)) = sumF f (K.take k) + f K[k] := by
  rw [List.take_add_one, List.getElem?_eq_getElem h, Option.toList_some, sumF_app]
  simp [sumF]
theorem sumF_bound (f : Nat → Int) (hf : ∀ i, -1000 ≤ f i ∧ f i ≤ 1000) : ∀ K : List Nat, -(1000 * (K.length : Int)) ≤ sumF f K ∧ sumF f K ≤ 1000 * (K.length : Int)
  | [] => by simp [sumF]
  | i :: K => by
    have h1 := sumF_bound f hf K
    have h2 := hf i
    simp only [sumF, List.length_cons]
    omega
theorem sumF_perm (f : Nat → Int) {K M : List Nat} (h : K.Perm M) : sumF f K = sumF f M := by
  induction h with
  | nil => rfl
  | cons x _ ih => simp [sumF, ih]
  | swap x y l => simp only [sumF]; omega
  | trans _ _ h1 h2 => exact h1.trans h2

section
variable {C : Cf} {base p : Nat} {F : List Nat} {A : Ga}
theorem fr_bound (C : Cf) (O : C.Ok) {k : Nat} (hk : k < C.l) (n : Int) : -1000 ≤ C.fr k n ∧ C.fr k n ≤ 1000 := by
  unfold Cf.fr arrSize
  have h1 := dat_lo n
  have h2 := dat_hi n
  cases ha : C.A k
  · have := O.obj k hk ha
    simp
    omega
  · simp only [if_true]
    split <;> omega
theorem sp_bound (C : Cf) (k : Nat) (n : Int) : -1000 ≤ C.sp k n ∧ C.sp k n ≤ 1000 := by
  unfold Cf.sp spineOf
  have h1 := dat_lo n
  have h2 := dat_hi n
  split
  · split <;> omega
  · omega

set_option maxHeartbeats 4000000 in
set_option maxRecDepth 10000 in
theorem gsize_any {w : World} (h : GrA C w base p F A) (O : C.Ok) (hW : Well C A.E) {i : Nat} (hi : i < A.E.length) :
    Calls Tryz.prog 24 #[.pointer (some ⟨p, 0, none⟩), .int .i64 (i : Int)] w fun e w' => e = .returned (.tuple #[.int .i64 (C.fr A.E[i].p.kd A.E[i].p.ln), .int .i64 (C.sp A.E[i].p.kd A.E[i].p.ln)]) ∧ Kept w w' := by
  obtain ⟨g, cap, hg, hgl, _⟩ := h.here hi
  have hk := h.kds A.E[i] (List.getElem_mem hi)
  have hf := h.few
  have c9 := h.at 9 (v := A.tv) rfl
  have HS : Hid (∀ W, Kept w W → _) := fun W q => gshape_any (h.kept q) O hi hg
  have HZ : Hid (∀ x c W, Calls Tryz.prog 11 #[.agg #[.bool (C.A A.E[i].p.kd), .slice x (C.L A.E[i].p.kd) c], .int .i64 A.E[i].p.ln] W fun e w' => e = .returned (.int .i64 (C.fr A.E[i].p.kd A.E[i].p.ln)) ∧ Kept W w') := fun x c W => size_ok O hk _ (hW i hi) x c W
  have HP : Hid (∀ x c W, Calls Tryz.prog 12 #[.agg #[.bool (C.A A.E[i].p.kd), .slice x (C.L A.E[i].p.kd) c], .int .i64 A.E[i].p.ln] W fun e w' => e = .returned (.int .i64 (C.sp A.E[i].p.kd A.E[i].p.ln)) ∧ Kept W w') := fun x c W => spine_ok O hk _ x c W
  have HL : Hid (g < w.heap.size ∧ w.cell? ⟨g, i * 3 + 1, none⟩ = some (.int .i64 A.E[i].p.ln)) := ⟨hgl, h.thing hg hi (j := 1) rfl⟩
  rw [hg] at c9
  clear h O hg hgl hW hk
  generalize A.E[i].p.ln = ln at *
  generalize A.E[i].p.kd = kd at *
  generalize C.fr kd ln = fr at *
  generalize C.sp kd ln = sp at *
  generalize C.A kd = ab at *
  generalize C.L kd = lk at *
  generalize (A.sh kd).x = sx at *
  generalize (A.sh kd).c = sc at *
  generalize A.E.length = n at *
  have g0 : decide ((i : Int) < 0) = false := decide_eq_false (by omega)
  have g1 : decide ((i : Int) ≥ (n : Int)) = false := decide_eq_false (by omega)
  have g2 : decide (n ≤ i) = false := decide_eq_false (by omega)
  go_enter Tryz.func24, Tryz.ntmps24
  go_wp2_with fail
  refine (HS.out _ (Kept.refl _)).mono ?_
  rintro e w3 ⟨rfl, K⟩
  have K3 : Hid (Kept w w3) := K
  clear K c9
  go_wp2_with fail
  generalize hW4 : w3.alloc _ = W4
  have B4 : Hid (Blk W4 w3.heap.size [.bool ab, .slice sx lk sc]) := by rw [← hW4]; exact Blk.new w3 _ _
  have K4 : Hid (Kept w W4) := by rw [← hW4]; exact K3.out.alloc _ _
  clear hW4
  have d0 := fun z : KW W4 => z.cell (a := ⟨w3.heap.size, 0, none⟩) B4.out.lt (B4.out.at 0 rfl)
  have d1 := fun z : KW W4 => z.cell (a := ⟨w3.heap.size, 1, none⟩) B4.out.lt (B4.out.at 1 rfl)
  have e1 := fun z : KW W4 => z.cell (a := ⟨g, i * 3 + 1, none⟩) (Nat.lt_of_lt_of_le HL.out.1 K4.out.size) ((K4.out.cell HL.out.1).trans HL.out.2)
  refine wp_region_kept (by kernel_rfl) (by kernel_rfl) fun _ => ?_
  repeat (go_big_quiet_step (first | (go_at_call 11; exact kept_of (HZ.out _ _ _)) | (go_at_call 12; exact kept_of (HP.out _ _ _))))
  refine wpQuiet_nil ?_
  rintro _ ⟨z, rfl⟩
  clear d0 d1 e1
  go_wp2
  go_ret2
  exact ⟨rfl, K4.out.trans z.ok⟩

theorem len_any {w : World} (h : GrA C w base p F A) : Calls Tryz.prog 18 #[.pointer (some ⟨p, 0, none⟩)] w fun e w' => e = .returned (.int .i64 (A.E.length : Int)) ∧ w' = w := by
  obtain ⟨x, d, hv⟩ := h.thg.form
  have c9 := h.at 9 (v := A.tv) rfl
  have hf := h.few
  rw [hv] at c9
  generalize A.E.length = n at *
  clear h hv
  go_enter Tryz.func18, Tryz.ntmps18
  go_wp2
  go_ret
  exact ⟨rfl, rfl⟩

set_option maxHeartbeats 4000000 in
set_option maxRecDepth 10000 in
theorem live_any {w : World} (h : GrA C w base p F A) (O : C.Ok) (hW : Well C A.E) (rs : List Nat) (sc : Nat → Option Nat) (hlt : ∀ x, Rch rs sc x → x < A.E.length)
    (hR : ∀ W, Kept w W → Calls Tryz.prog 14 #[.pointer (some ⟨p, 0, none⟩)] W fun e w' => ∃ v ids, e = .returned v ∧ Lst w' W.heap.size v (NI ids) ∧ ids.Nodup ∧ (∀ x, x ∈ ids ↔ Rch rs sc x) ∧ Kept W w') :
    Calls Tryz.prog 10 #[.pointer (some ⟨p, 0, none⟩)] w fun e w' => ∃ ids : List Nat, e = .returned (.tuple #[.int .i64 (sumF (frE C A.E) ids), .int .i64 (sumF (spE C A.E) ids)]) ∧ ids.Nodup ∧ (∀ x, x ∈ ids ↔ Rch rs sc x) ∧ Kept w w' := by
  have HS : Hid (∀ W, Kept w W → ∀ i, i < A.E.length → Calls Tryz.prog 24 #[.pointer (some ⟨p, 0, none⟩), .int .i64 (i : Int)] W fun e w' => e = .returned (.tuple #[.int .i64 (frE C A.E i), .int .i64 (spE C A.E i)]) ∧ Kept W w') := fun W q i hi => by
    have := gsize_any (h.kept q) O hW hi
    unfold frE spE
    rw [List.getElem?_eq_getElem hi]
    exact this
  have HB1 : Hid (∀ i, -1000 ≤ frE C A.E i ∧ frE C A.E i ≤ 1000) := fun i => by
    unfold frE
    split
    · rename_i t e
      exact fr_bound C O (h.kds t (List.mem_of_getElem? e)) _
    · omega
  have HB2 : Hid (∀ i, -1000 ≤ spE C A.E i ∧ spE C A.E i ≤ 1000) := fun i => by
    unfold spE
    split
    · exact sp_bound C _ _
    · omega
  have HF : Hid (A.E.length ≤ 1000) := h.few
  have HLT : Hid (∀ x, Rch rs sc x → x < A.E.length) := hlt
  have HR := hR w (Kept.refl _)
  generalize frE C A.E = f1 at *
  generalize spE C A.E = f2 at *
  clear h O hW hlt hR
  go_enter Tryz.func10, Tryz.ntmps10
  go_wp2_with fail
  refine HR.mono ?_
  rintro e w2 ⟨v, ids, rfl, hl, hn, hi, hk⟩
  obtain ⟨y, d, rfl⟩ := hl.form
  rw [NI_len]
  have H2 : Hid (Rdi w2 y (NI ids) ∧ Kept w w2) := ⟨hl.rdi, hk⟩
  have HI : Hid (ids.Nodup ∧ ∀ x, x ∈ ids ↔ Rch rs sc x) := ⟨hn, hi⟩
  have hle : ids.length ≤ 1000 := Nat.le_trans (nodup_len A.E.length ids hn (fun k q => HLT.out k ((hi k).1 q))) HF.out
  clear hl hn hi hk HR
  go_wp2_with fail
  go_loopg [4, 5, 13] ids.length (fun m a b i wr => ∃ k : Nat, i = .int .i64 k ∧ k ≤ ids.length ∧ m = ids.length - k ∧ a = .int .i64 (sumF f1 (ids.take k)) ∧ b = .int .i64 (sumF f2 (ids.take k)) ∧ Hid (Kept w2 wr))
  case atStart => exact ⟨0, rfl, Nat.zero_le _, rfl, rfl, rfl, Kept.refl _⟩
  case round =>
    obtain ⟨k, rfl, hk, rfl, rfl, rfl, hh⟩ := hrel
    by_cases hlt : k < ids.length
    · obtain ⟨g, o, ey, hg, hc⟩ := H2.out.1 (by rw [NI_len]; omega)
      subst ey
      have c0 : w2.cell? ⟨g, o + k, none⟩ = some (.int .i64 (ids[k] : Int)) := by
        have := hc k (by rw [NI_len]; exact hlt)
        simpa [NI] using this
      have c1 := (hh.out.cell (a := ⟨g, o + k, none⟩) hg).trans c0
      have hx : ids[k] < A.E.length := HLT.out _ ((HI.out.2 _).1 (List.getElem_mem hlt))
      have HSk := HS.out wr (H2.out.2.trans hh.out) ids[k] hx
      have HT1 : Hid (sumF f1 (ids.take (k + 1)) = sumF f1 (ids.take k) + f1 ids[k]) := sumF_take f1 ids k hlt
      have HT2 : Hid (sumF f2 (ids.take (k + 1)) = sumF f2 (ids.take k) + f2 ids[k]) := sumF_take f2 ids k hlt
      have b1 := sumF_bound f1 HB1.out (ids.take k)
      have b2 := sumF_bound f2 HB2.out (ids.take k)
      have b3 := HB1.out ids[k]
      have b4 := HB2.out ids[k]
      have hl2 : (ids.take k).length ≤ 1000 := by simp; omega
      clear c0 hc
      generalize sumF f1 (ids.take k) = s1 at *
      generalize sumF f2 (ids.take k) = s2 at *
      generalize f1 ids[k] = t1 at *
      generalize f2 ids[k] = t2 at *
      have q1 : -2000000 ≤ s1 ∧ s1 ≤ 2000000 := by omega
      have q2 : -2000000 ≤ s2 ∧ s2 ≤ 2000000 := by omega
      clear b1 b2 hl2
      generalize ids[k] = x at *
      go_wp2_with fail
      refine HSk.mono ?_
      rintro e w4 ⟨rfl, K⟩
      have K4 : Hid (Kept w2 w4) := hh.out.trans K
      clear K HSk c1
      go_wp2
      go_roundg (ids.length - (k + 1))
      case rel => exact ⟨k + 1, rfl, by omega, rfl, by rw [HT1.out], by rw [HT2.out], K4.out⟩
      case measure => omega
    · obtain rfl : k = ids.length := by omega
      rw [List.take_length]
      go_wp2
      go_ret2
      exact ⟨ids, rfl, HI.out.1, HI.out.2, H2.out.2.trans hh.out⟩
end
end Go.Proofs.YtbmcbkebcchjmaaGreatDoor
