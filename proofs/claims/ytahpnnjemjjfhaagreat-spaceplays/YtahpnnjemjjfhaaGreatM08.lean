/-
  The modules LineE, CoilT, Coil, CoilB, one behind another.
-/
import Derived.Laws.Cover3
import Derived.Test.YtahpnnjemjjfhaaGreatM01
import Derived.Test.YtahpnnjemjjfhaaGreatM07
/-
  Contracts of package line: Drop, and slices.Delete at its requests.
-/
namespace Go.Proofs.YtahpnnjemjjfhaaGreat
open Go.RowKit

theorem lrun_clear_one {P : Program} (w : World) (t e ty : TypeId) (z : Value) (zs : List Value) (ht : P.underlying t = some (.slice e)) (hv : ∀ w, (zeroValue e).run P w = .ok z w) (hz : (Builtin.zeroCells z.cells 1).toList = zs) (h1 : ∀ u ∈ zs, u.oneCell' = true) (b o c : Nat)
    (hc : ∀ j, j < zs.length → (w.cell? ⟨b, o + j, none⟩).isSome = true) (hf : ∀ j, j < zs.length → w.frozen? ⟨b, o + j, none⟩ = false) :
    (Builtin.clear_ #[t] ty #[.slice (some ⟨b, o, none⟩) 1 c]).run P w = .ok (.tuple #[]) (w.setCells b o zs) := by
  have hst := run_storeCells_cells (P := P) b o zs 0 w (by simpa using hc) (by simpa using hf) h1
  simp only [Nat.add_zero] at hst
  simp [Builtin.clear_, run_underlying ht, hv, hz, hst]

section
variable {t : TypeId} {m : Nat} {c : Ent → List Value} {w : World} {base g n cap : Nat} {E : List Ent}
theorem Rw.row (h : Rw t m c w base (.slice (some ⟨g, 0, none⟩) n cap) E) : E.length ≤ cap ∧ cap ≤ maxLen ∧ base ≤ g ∧ ∃ f, w.rowIs g t (cap * m) f ∧ ∀ j, j < E.length * m → (E.flatMap c)[j]? = some (f j) := by
  rcases h.2 with ⟨e, h0⟩ | ⟨g', cap', cur, e, hb, hg, hnc, hcm, hcs, htake⟩
  · cases e
  · obtain ⟨e1, _, e3⟩ := Value.slice.inj e
    obtain rfl : g = g' := by simpa using e1
    subst e3
    have hle : E.length * m ≤ cap * m := Nat.mul_le_mul_right m hnc
    refine ⟨hnc, hcm, hb, fun j => cur[j]?.getD default, ⟨cur, hg, hcs, fun j hj => ?_⟩, fun j hj => ?_⟩
    · have : j < cur.size := by omega
      simp [this]
    · have : j < cur.size := by omega
      rw [← htake, List.getElem?_take, if_pos hj]
      simp [this]
theorem rw_of_row {f : Nat → Value} (h : w.rowIs g t (cap * m) f) (hc : ∀ e, (c e).length = m) (hf : ∀ j, j < E.length * m → (E.flatMap c)[j]? = some (f j)) (hl : E.length ≤ cap) (hm : cap ≤ maxLen) (hb : base ≤ g) : Rw t m c w base (.slice (some ⟨g, 0, none⟩) E.length cap) E := by
  obtain ⟨cur, hg, hs, hcell⟩ := h
  have hle : E.length * m ≤ cap * m := Nat.mul_le_mul_right m hl
  refine ⟨flat_len hc E, .inr ⟨g, cap, cur, rfl, hb, hg, hl, hm, hs, ?_⟩⟩
  apply List.ext_getElem?
  intro j
  rw [List.getElem?_take]
  by_cases hj : j < E.length * m
  · rw [if_pos hj, hf j hj]
    simpa using hcell j (by omega)
  · rw [if_neg hj, List.getElem?_eq_none (by rw [flat_len hc]; omega)]
end

def zero8 : List Value := [.int .i64 0, .int .i64 0, .int .i64 0, .int .i64 0, .int .i64 0, .int .i64 0, .slice none 0 0, .bool false]

theorem zero8_eq : (Builtin.zeroCells (Value.agg #[.int .i64 0, .int .i64 0, .int .i64 0, .int .i64 0, .int .i64 0, .int .i64 0, .slice none 0 0, .bool false]).cells 1).toList = zero8 := by kernel_rfl

/-- The worlds behind Delete's append, and behind its clear. -/
theorem ldelete_worlds {w : World} {base g i q n cap : Nat} {E : List Ent} (h : Rw 146 8 Ent.c8 w base (.slice (some ⟨g, 0, none⟩) n cap) E) (hi : E.length = i + q + 1) (W1 W2 : World)
    (h1 : W1 = w.drew.setCells g (i * 8) ((E.drop (i + 1)).flatMap Ent.c8)) (h2 : W2 = W1.setCells g ((i + q) * 8) zero8) :
    (∀ j, j < 8 → (W1.cell? ⟨g, (i + q) * 8 + j, none⟩).isSome = true) ∧ (∀ j, j < 8 → W1.frozen? ⟨g, (i + q) * 8 + j, none⟩ = false) ∧ Rw 146 8 Ent.c8 W2 base (.slice (some ⟨g, 0, none⟩) (i + q) cap) (E.eraseIdx i) ∧ Mut [g] w W2 := by
  obtain ⟨hl, hm, hb, f, hf, hv⟩ := h.row
  have hf0 : w.drew.rowIs g 146 (cap * 8) f := hf
  have r1 := rowIs_setCells ((E.drop (i + 1)).flatMap Ent.c8) (i * 8) w.drew f hf0
  rw [← h1] at r1
  have r2 := rowIs_setCells zero8 ((i + q) * 8) W1 _ r1
  rw [← h2] at r2
  have hnl : ((E.drop (i + 1)).flatMap Ent.c8).length = q * 8 := by rw [flat_len c8len]; simp; omega
  have hzl : zero8.length = 8 := rfl
  refine ⟨fun j hj => by rw [r1.cell (by omega)]; rfl, fun j _ => r1.frozen _, ?_, ?_⟩
  · have hlen : (E.eraseIdx i).length = i + q := by rw [List.length_eraseIdx_of_lt (by omega)]; omega
    have := rw_of_row (c := Ent.c8) (E := E.eraseIdx i) (base := base) r2 c8len (fun j hj => ?_) (by omega) hm hb
    · rwa [hlen] at this
    · rw [hlen] at hj
      rw [if_neg (by omega), hnl, List.eraseIdx_eq_take_drop_succ, List.flatMap_append, flat_take c8len]
      by_cases hj2 : j < i * 8
      · rw [List.getElem?_append_left (by rw [List.length_take, flat_len c8len]; omega), List.getElem?_take, if_pos hj2, if_neg (by omega)]
        exact hv j (by omega)
      · have e1 : (List.take (i * 8) (E.flatMap Ent.c8)).length = i * 8 := by rw [List.length_take, flat_len c8len]; omega
        rw [List.getElem?_append_right (by omega), if_pos (by omega), e1]
        have : j - i * 8 < ((E.drop (i + 1)).flatMap Ent.c8).length := by omega
        rw [List.getElem?_eq_getElem this]
        rfl
  · rw [h2, h1]
    exact ((Mut.refl [g] w).drew.trans (mut_setCells (by simp) _ _ _)).trans (mut_setCells (by simp) _ _ _)

set_option maxHeartbeats 4000000 in
theorem ldelete_any {base g i q cap : Nat} {E : List Ent} (w : World) (h : Rw 146 8 Ent.c8 w base (.slice (some ⟨g, 0, none⟩) (i + q + 1) cap) E) (hi : E.length = i + q + 1) (hc : E.length ≤ 100000) :
    Calls Tryz.prog 150 #[.slice (some ⟨g, 0, none⟩) (i + q + 1) cap, .int .i64 (i : Int), .int .i64 ((i : Int) + 1)] w fun e w' => e = .returned (.slice (some ⟨g, 0, none⟩) (i + q) cap) ∧ Rw 146 8 Ent.c8 w' base (.slice (some ⟨g, 0, none⟩) (i + q) cap) (E.eraseIdx i) ∧ Mut [g] w w' := by
  obtain ⟨hl, hm, hb, f, hf, hv⟩ := h.row
  obtain ⟨W1, h1⟩ : ∃ W1, W1 = w.drew.setCells g (i * 8) ((E.drop (i + 1)).flatMap Ent.c8) := ⟨_, rfl⟩
  obtain ⟨W2, h2⟩ : ∃ W2, W2 = W1.setCells g ((i + q) * 8) zero8 := ⟨_, rfl⟩
  obtain ⟨d1, d2, d3⟩ := ldelete_worlds h hi W1 W2 h1 h2
  obtain ⟨i0, hi0, hz0, hz1, hz2⟩ := info_parts info_entry
  have hcl : ∀ ty, (Builtin.clear_ #[132] ty #[.slice (some ⟨g, (i + q) * 8, none⟩) 1 (cap - (i + q))]).run Tryz.prog W1 = .ok (.tuple #[]) W2 := fun ty => by
    rw [h2]
    exact lrun_clear_one W1 _ _ ty (.agg #[.int .i64 0, .int .i64 0, .int .i64 0, .int .i64 0, .int .i64 0, .int .i64 0, .slice none 0 0, .bool false]) zero8 Tryz.underlying132 (fun w => by simp [zeroValue, typeInfo, hi0, hz0]) zero8_eq (by simp [zero8, Value.oneCell']) g _ _ d1 d2
  have HD : Hid (Rw 146 8 Ent.c8 W2 base (.slice (some ⟨g, 0, none⟩) (i + q) cap) (E.eraseIdx i) ∧ Mut [g] w W2) := d3
  have hlen : ((E.drop (i + 1)).flatMap Ent.c8).length = q * 8 := by rw [flat_len c8len]; simp; omega
  have hone : ∀ u ∈ (E.drop (i + 1)).flatMap Ent.c8, u.oneCell' = true := fun u hu => by
    obtain ⟨e, _, he⟩ := List.mem_flatMap.1 hu
    exact lc8_one e u he
  have hsp : ∀ j, j < ((E.drop (i + 1)).flatMap Ent.c8).length → (w.drew.cell? ⟨g, 0 + i * 8 + j, none⟩).isSome = true ∧ w.drew.frozen? ⟨g, 0 + i * 8 + j, none⟩ = false := fun j hj => by
    have hj' : j < q * 8 := by rw [hlen] at hj; omega
    have hf0 : w.drew.rowIs g 146 (cap * 8) f := hf
    simp only [Nat.zero_add]
    exact ⟨by rw [hf0.cell (by omega)]; rfl, hf0.frozen _⟩
  have hsrc : ∀ (o : Nat), (o = (i + 1) * 8 ∨ q = 0) → ∀ j u, ((E.drop (i + 1)).flatMap Ent.c8)[j]? = some u → w.drew.cell? ((⟨g, o, none⟩ : Addr).add j) = some u := fun o ho j u hu => by
    have hj : j < q * 8 := by have := (List.getElem?_eq_some_iff.1 hu).1; rw [hlen] at this; omega
    rcases ho with rfl | ho
    · have hf0 : w.drew.rowIs g 146 (cap * 8) f := hf
      rw [Addr.add_lit, hf0.cell (by omega), ← hv _ (by omega), ← hu, flat_drop c8len, List.getElem?_drop]
    · omega
  have SP : Hid _ := hsp
  have SR : Hid _ := hsrc
  have SO : Hid _ := hone
  have SL : Hid _ := hlen
  have HW : Hid (W1 = w.drew.setCells g (i * 8) ((E.drop (i + 1)).flatMap Ent.c8)) := h1
  rw [hi] at hl hc
  generalize (E.drop (i + 1)).flatMap Ent.c8 = news at *
  clear hsp hsrc hone hlen h1 h2 d1 d2 d3 h hf hv f hm hb hi
  have e1 : ((i : Int) == (i : Int) + 1) = false := beq_eq_false_iff_ne.2 (by omega)
  have q1 : (i : Int) ≤ (i : Int) + 1 := by omega
  have q0 : 0 ≤ (i : Int) + 1 := by omega
  by_cases hck : cap = i + 1
  · obtain rfl : q = 0 := by omega
    subst hck
    simp only [Nat.add_zero, Nat.add_sub_cancel_left] at hcl
    go_enter Tryz.func150, Tryz.ntmps150
    go_wp2_with fail
    go_region_law (refine step_append_room rfl (.tmp 22) (.tmp 25) 132 rfl 146 i0 8 Tryz.underlying132 hi0 hz1 g 0 i (i + 1) (by simp [Act.eval, Act.put]) ⟨g, 0, none⟩ 0 0 news (by simp [Act.eval, Act.put]) SL.out (SR.out 0 (by simp)) SO.out (by omega) SP.out ?_)
    all_goals rw [← HW.out]
    all_goals go_wp2
    all_goals go_ret
    all_goals exact ⟨rfl, HD.out⟩
  · have z : q ≤ cap - (i + 1) := by omega
    have q2 : (i : Int) ≤ (cap : Int) := by omega
    have q3 : (i : Int) + 1 ≤ (i : Int) + (q : Int) + 1 := by omega
    have q4 : (i : Int) + 1 ≤ (cap : Int) := by omega
    have q5 : (i : Int) + (q : Int) ≤ (i : Int) + (q : Int) + 1 := by omega
    have q6 : (i : Int) + (q : Int) + 1 ≤ (cap : Int) := by omega
    have q7 : (i : Int) ≤ (i : Int) + (q : Int) + 1 := by omega
    go_enter Tryz.func150, Tryz.ntmps150
    go_wp2_with fail
    go_region_law (refine step_append_room rfl (.tmp 22) (.tmp 25) 132 rfl 146 i0 8 Tryz.underlying132 hi0 hz1 g 0 i cap (by simp [Act.eval, Act.put]) ⟨g, (i + 1) * 8, none⟩ q (cap - (i + 1)) news (by simp [Act.eval, Act.put]) SL.out (SR.out _ (.inl rfl)) SO.out (by omega) SP.out ?_)
    all_goals rw [← HW.out]
    all_goals go_wp2
    all_goals go_ret
    all_goals exact ⟨rfl, HD.out⟩
set_option maxHeartbeats 1000000 in
theorem ldrop_no {base b : Nat} {v : Value} {E : List Ent} {t : Int} (w : World) (h : LTab w base b v E) (hi : idx (fun e => e.th == t) E = -1) :
    Calls Tryz.prog 107 #[.pointer (some ⟨b, 0, none⟩), .int .i64 t] w fun r w' => r = .returned (.bool false) ∧ Kept w w' := by
  have C := lplace_any t w h
  rw [hi] at C
  clear hi h
  go_enter Tryz.func107, Tryz.ntmps107
  go_wp2_with fail
  refine C.mono ?_
  rintro r w1 ⟨rfl, k1⟩
  have H1 : Hid (Kept w w1) := k1
  clear k1 C
  go_wp2
  go_ret
  exact ⟨rfl, H1.out⟩

set_option maxHeartbeats 2000000 in
theorem ldrop_yes {base b : Nat} {v : Value} {E : List Ent} {i : Nat} {t : Int} (w : World) (h : LTab w base b v E) (hl : i < E.length) (hi : idx (fun e => e.th == t) E = (i : Int)) :
    Calls Tryz.prog 107 #[.pointer (some ⟨b, 0, none⟩), .int .i64 t] w fun r w' => r = .returned (.bool true) ∧ ∃ v', LTab w' base b v' (E.eraseIdx i) ∧ Mut (b :: v.ownBlock.toList) w w' ∧ ∀ k, k ∈ foot b v' (E.eraseIdx i) → k ∈ foot b v E ∨ w.heap.size ≤ k := by
  have C := lplace_any t w h
  rw [hi] at C
  obtain ⟨g, cap, rfl, _, hg, _⟩ := h.ens.row.here (by omega)
  have hf := h.few
  obtain ⟨q, hq⟩ : ∃ q, E.length = i + q + 1 := ⟨E.length - i - 1, by omega⟩
  have HT : Hid (LTab w base b (.slice (some ⟨g, 0, none⟩) (i + q + 1) cap) E ∧ E.length = i + q + 1) := by rw [hq] at h; exact ⟨h, hq⟩
  rw [hq] at hf ⊢
  clear hi h hl hq
  go_enter Tryz.func107, Tryz.ntmps107
  go_wp2_with fail
  refine C.mono ?_
  rintro r w1 ⟨rfl, k1⟩
  have H1 : Hid (LTab w1 base b (.slice (some ⟨g, 0, none⟩) (i + q + 1) cap) E ∧ Kept w w1) := ⟨HT.out.1.kept k1, k1⟩
  have b0 := H1.out.1.c0
  have e0 : ¬ (i : Int) < 0 := by omega
  clear k1 C
  go_wp2_with fail
  refine (ldelete_any _ H1.out.1.ens.row HT.out.2 H1.out.1.few).mono ?_
  rintro r w2 ⟨rfl, r2, m2⟩
  have O2 : Own w2 b 134 [.slice (some ⟨g, 0, none⟩) (i + q + 1) cap] := H1.out.1.head.muts m2 (by simpa using Ne.symm H1.out.1.ng)
  have c2 := O2.blk.at 0 rfl
  have f2 := O2.blk.fz
  have HR : Hid (LTab (w2.setCell ⟨b, 0, none⟩ (.slice (some ⟨g, 0, none⟩) (i + q) cap)) base b (.slice (some ⟨g, 0, none⟩) (i + q) cap) (E.eraseIdx i) ∧ Mut (b :: (Value.slice (some ⟨g, 0, none⟩) (i + q + 1) cap).ownBlock.toList) w (w2.setCell ⟨b, 0, none⟩ (.slice (some ⟨g, 0, none⟩) (i + q) cap)) ∧ ∀ k, k ∈ foot b (.slice (some ⟨g, 0, none⟩) (i + q) cap) (E.eraseIdx i) → k ∈ foot b (.slice (some ⟨g, 0, none⟩) (i + q + 1) cap) E ∨ w.heap.size ≤ k) := by
    have EN := H1.out.1.ens.turn r2 m2 (fun k hk => .inl (by simp at hk; simp [Value.ownBlock, hk])) (fun k hk => .inl (by simpa [Value.ownBlock] using hk)) (fun e he => .inl (List.mem_of_mem_eraseIdx he)) H1.out.1.ltb
    refine ⟨H1.out.1.turn O2 EN (by have h1 := HT.out.2; have h2 := H1.out.1.few; rw [List.length_eraseIdx_of_lt (by omega)]; omega), ?_, fun k hk => .inl ?_⟩
    · exact ((H1.out.2.mut).trans (m2.wide fun k hk => by simp at hk; simp [Value.ownBlock, hk])).setCell (by simp) _
    · rcases mem_foot.1 hk with rfl | hk | ⟨e, he, hk⟩
      · exact mem_foot.2 (.inl rfl)
      · exact mem_foot.2 (.inr (.inl (by simpa [Value.ownBlock] using hk)))
      · exact mem_foot.2 (.inr (.inr ⟨e, List.mem_of_mem_eraseIdx he, hk⟩))
  clear O2 r2 m2 b0
  go_wp2
  go_ret
  exact ⟨rfl, _, HR.out⟩
end Go.Proofs.YtahpnnjemjjfhaaGreat

/-
  A coil as it lies in memory: five whole numbers; what each method answers and leaves, as plain functions of them.
-/
namespace Go.Proofs.YtahpnnjemjjfhaaGreat
open Go.RowKit

/-- The words of each space, which one is filled, how many words are kept, how many are used of space 0 and of space 1. -/
structure CS where
  s : Nat
  c : Nat
  k : Nat
  a : Nat
  b : Nat

def CS.cells (S : CS) : List Value := [.int .i64 (S.s : Int), .int .i64 (S.c : Int), .int .i64 (S.k : Int), .int .i64 (S.a : Int), .int .i64 (S.b : Int)]
/-- Used in the space that is filled, and in the other one. -/
def CS.u (S : CS) : Nat := if S.c = 0 then S.a else S.b
def CS.o (S : CS) : Nat := if S.c = 0 then S.b else S.a
structure CS.Ok (S : CS) : Prop where
  max : S.s ≤ 2048
  two : S.c = 0 ∨ S.c = 1
  fit : S.u + S.k ≤ S.s
  oth : S.o ≤ S.s
  ko : S.k ≤ S.o

def roomF (S : CS) : Int := (S.s : Int) - (S.u : Int) - (S.k : Int)
def usedF (S : CS) (i : Int) : Int := if i = 0 then (S.a : Int) else if i = 1 then (S.b : Int) else 0
/-- m words more used where it is filled. -/
def putU (S : CS) (m : Nat) : CS := if S.c = 0 then { S with a := S.a + m } else { S with b := S.b + m }
def takes (S : CS) (n : Int) : Bool := decide (1 ≤ n ∧ n ≤ roomF S)
def takeA (S : CS) (n : Int) : Int := if takes S n then (S.u : Int) else 0
def takeS (S : CS) (n : Int) : CS := if takes S n then putU S n.toNat else S
def skips (S : CS) (n : Int) : Bool := decide (1 ≤ n ∧ n ≤ (S.k : Int))
def skipS (S : CS) (n : Int) : CS := if skips S n then { S with k := S.k - n.toNat } else S
def copyA (S : CS) (n : Int) : Int := if skips S n then (S.u : Int) else 0
def copyS (S : CS) (n : Int) : CS := if skips S n then putU { S with k := S.k - n.toNat } n.toNat else S
def turns (S : CS) : Bool := S.o == 0
def turnS (S : CS) : CS := if turns S then { S with k := S.u, c := 1 - S.c } else S
def dones (S : CS) : Bool := S.k == 0
def doneS (S : CS) : CS := if dones S then (if S.c = 0 then { S with b := 0 } else { S with a := 0 }) else S

section
variable {S : CS}
theorem CS.Ok.take (h : S.Ok) (n : Int) : (takeS S n).Ok := by
  obtain ⟨s, c, k, a, b⟩ := S
  obtain ⟨h1, h2, h3, h4, h5⟩ := h
  unfold takeS
  split
  · rename_i ht
    simp only [takes, roomF, CS.u, CS.o, putU, decide_eq_true_eq] at *
    rcases h2 with rfl | rfl <;> simp at * <;> constructor <;> simp [CS.u, CS.o] <;> omega
  · exact ⟨h1, h2, h3, h4, h5⟩
theorem CS.Ok.skip (h : S.Ok) (n : Int) : (skipS S n).Ok := by
  obtain ⟨s, c, k, a, b⟩ := S
  obtain ⟨h1, h2, h3, h4, h5⟩ := h
  unfold skipS
  split
  · rename_i ht
    simp only [skips, CS.u, CS.o, decide_eq_true_eq] at *
    rcases h2 with rfl | rfl <;> simp at * <;> constructor <;> simp [CS.u, CS.o] <;> omega
  · exact ⟨h1, h2, h3, h4, h5⟩
theorem CS.Ok.copy (h : S.Ok) (n : Int) : (copyS S n).Ok := by
  obtain ⟨s, c, k, a, b⟩ := S
  obtain ⟨h1, h2, h3, h4, h5⟩ := h
  unfold copyS
  split
  · rename_i ht
    simp only [skips, CS.u, CS.o, putU, decide_eq_true_eq] at *
    rcases h2 with rfl | rfl <;> simp at * <;> constructor <;> simp [CS.u, CS.o] <;> omega
  · exact ⟨h1, h2, h3, h4, h5⟩
theorem CS.Ok.turn (h : S.Ok) : (turnS S).Ok := by
  obtain ⟨s, c, k, a, b⟩ := S
  obtain ⟨h1, h2, h3, h4, h5⟩ := h
  unfold turnS
  split
  · rename_i ht
    simp only [turns, CS.u, CS.o, beq_iff_eq] at *
    rcases h2 with rfl | rfl <;> simp at * <;> constructor <;> simp [CS.u, CS.o] <;> omega
  · exact ⟨h1, h2, h3, h4, h5⟩
theorem CS.Ok.done (h : S.Ok) : (doneS S).Ok := by
  obtain ⟨s, c, k, a, b⟩ := S
  obtain ⟨h1, h2, h3, h4, h5⟩ := h
  unfold doneS
  split
  · rename_i ht
    simp only [dones, CS.u, CS.o, beq_iff_eq] at *
    rcases h2 with rfl | rfl <;> simp at * <;> constructor <;> simp [CS.u, CS.o] <;> omega
  · exact ⟨h1, h2, h3, h4, h5⟩
end

/-- A coil (of head type t) at block p. -/
structure CTab (t : TypeId) (w : World) (p : Nat) (S : CS) : Prop where
  own : Own w p t S.cells
  ok : S.Ok

section
variable {t : TypeId} {w w' : World} {p : Nat} {S : CS}
theorem CTab.kept (h : CTab t w p S) (k : Kept w w') : CTab t w' p S := ⟨h.own.kept k, h.ok⟩
theorem CTab.muts {D : List Nat} (h : CTab t w p S) (m : Mut D w w') (hp : p ∉ D) : CTab t w' p S := ⟨h.own.muts m hp, h.ok⟩
theorem CTab.lt (h : CTab t w p S) : p < w.heap.size := h.own.lt
theorem CTab.c0 (h : CTab t w p S) : w.cell? ⟨p, 0, none⟩ = some (.int .i64 (S.s : Int)) := h.own.blk.at 0 rfl
theorem CTab.c1 (h : CTab t w p S) : w.cell? ⟨p, 1, none⟩ = some (.int .i64 (S.c : Int)) := h.own.blk.at 1 rfl
theorem CTab.c2 (h : CTab t w p S) : w.cell? ⟨p, 2, none⟩ = some (.int .i64 (S.k : Int)) := h.own.blk.at 2 rfl
theorem CTab.c3 (h : CTab t w p S) : w.cell? ⟨p, 3, none⟩ = some (.int .i64 (S.a : Int)) := h.own.blk.at 3 rfl
theorem CTab.c4 (h : CTab t w p S) : w.cell? ⟨p, 4, none⟩ = some (.int .i64 (S.b : Int)) := h.own.blk.at 4 rfl
theorem CTab.fz (h : CTab t w p S) (i : Nat) : w.frozen? ⟨p, i, none⟩ = false := h.own.blk.fz i
/-- Both spaces empty. -/
theorem CTab.new (w : World) (t : TypeId) {s : Nat} (hs : s ≤ 2048) : CTab t (w.alloc (.cells #[.int .i64 (s : Int), .int .i64 0, .int .i64 0, .int .i64 0, .int .i64 0] t)) w.heap.size ⟨s, 0, 0, 0, 0⟩ :=
  ⟨Own.new w (CS.cells ⟨s, 0, 0, 0, 0⟩) t, hs, .inl rfl, by simp [CS.u], by simp [CS.o], by simp⟩
end
end Go.Proofs.YtahpnnjemjjfhaaGreat

/-
  Contracts of package coil: each method answers and leaves what a plain function of the coil's five numbers says.
-/
namespace Go.Proofs.YtahpnnjemjjfhaaGreat
open Go.RowKit

set_option maxHeartbeats 800000 in
theorem knew_bad (n : Int) (w : World) (hn : ¬ (0 ≤ n ∧ n ≤ 2048)) :
    Calls Tryz.prog 35 #[.int .i64 n] w fun e w' => e = .returned (.tuple #[.pointer none, .int .i64 1]) ∧ w' = w := by
  by_cases h0 : n < 0
  · clear hn
    go_enter Tryz.func35, Tryz.ntmps35
    go_wp2
    go_ret2
    exact ⟨rfl, rfl⟩
  · have h1 : 2048 < n := by omega
    clear hn
    go_enter Tryz.func35, Tryz.ntmps35
    go_wp2
    go_ret2
    exact ⟨rfl, rfl⟩

set_option maxHeartbeats 800000 in
theorem knew_any (s : Nat) (w : World) (hs : s ≤ 2048) :
    Calls Tryz.prog 35 #[.int .i64 s] w fun e w' => ∃ p, e = .returned (.tuple #[.pointer (some ⟨p, 0, none⟩), .int .i64 0]) ∧ CTab 114 w' p ⟨s, 0, 0, 0, 0⟩ ∧ Kept w w' ∧ w.heap.size ≤ p := by
  have HO : Hid (∀ w' : World, CTab 114 (w'.alloc (.cells #[.int .i64 (s : Int), .int .i64 0, .int .i64 0, .int .i64 0, .int .i64 0] 114)) w'.heap.size ⟨s, 0, 0, 0, 0⟩) := fun w' => CTab.new w' _ hs
  go_enter Tryz.func35, Tryz.ntmps35
  go_wp2
  go_ret2
  exact ⟨_, rfl, HO.out w, (Kept.refl _).alloc _ _, by omega⟩

theorem z0 : ((0 : Nat) : Int) = 0 := rfl
theorem z1 : ((1 : Nat) : Int) = 1 := rfl

section
variable {p : Nat} {S : CS}

set_option maxHeartbeats 400000 in
theorem kcurrent_any (w : World) (h : CTab 114 w p S) :
    Calls Tryz.prog 25 #[.pointer (some ⟨p, 0, none⟩)] w fun e w' => e = .returned (.int .i64 (S.c : Int)) ∧ w' = w := by
  have c1 := h.c1
  clear h
  go_enter Tryz.func25, Tryz.ntmps25
  go_wp2
  go_ret
  exact ⟨rfl, rfl⟩

set_option maxHeartbeats 400000 in
theorem kleft_any (w : World) (h : CTab 114 w p S) :
    Calls Tryz.prog 28 #[.pointer (some ⟨p, 0, none⟩)] w fun e w' => e = .returned (.int .i64 (S.k : Int)) ∧ w' = w := by
  have c2 := h.c2
  clear h
  go_enter Tryz.func28, Tryz.ntmps28
  go_wp2
  go_ret
  exact ⟨rfl, rfl⟩

set_option maxHeartbeats 400000 in
theorem kother_aux (c : Nat) (w : World) (c1 : w.cell? ⟨p, 1, none⟩ = some (.int .i64 (c : Int))) (h2 : c = 0 ∨ c = 1) :
    Calls Tryz.prog 152 #[.pointer (some ⟨p, 0, none⟩)] w fun e w' => e = .returned (.int .i64 ((1 - c : Nat) : Int)) ∧ w' = w := by
  rcases h2 with rfl | rfl
  all_goals simp only [z0, z1] at *
  all_goals go_enter Tryz.func152, Tryz.ntmps152
  all_goals go_wp2
  all_goals go_ret
  all_goals exact ⟨rfl, rfl⟩
theorem kother_any (w : World) (h : CTab 114 w p S) :
    Calls Tryz.prog 152 #[.pointer (some ⟨p, 0, none⟩)] w fun e w' => e = .returned (.int .i64 ((1 - S.c : Nat) : Int)) ∧ w' = w := kother_aux S.c w h.c1 h.ok.two

set_option maxHeartbeats 800000 in
theorem kroom_any (w : World) (h : CTab 114 w p S) :
    Calls Tryz.prog 26 #[.pointer (some ⟨p, 0, none⟩)] w fun e w' => e = .returned (.int .i64 (roomF S)) ∧ Kept w w' := by
  have hp := h.lt
  have c0 := KW.cell (a := ⟨p, 0, none⟩) hp h.c0
  have c1 := KW.cell (a := ⟨p, 1, none⟩) hp h.c1
  have c2 := KW.cell (a := ⟨p, 2, none⟩) hp h.c2
  have c3 := KW.cell (a := ⟨p, 3, none⟩) hp h.c3
  have c4 := KW.cell (a := ⟨p, 4, none⟩) hp h.c4
  have h1 := h.ok.max
  have h2 := h.ok.two
  have h3 := h.ok.fit
  clear h hp
  obtain ⟨s, c, k, a, b⟩ := S
  simp only [roomF, CS.u] at *
  rcases h2 with rfl | rfl
  all_goals simp only [if_true, if_false, Nat.one_ne_zero, z0, z1] at *
  all_goals go_enter Tryz.func26, Tryz.ntmps26
  all_goals go_wp2
  all_goals refine wp_region_kept (by kernel_rfl) (by kernel_rfl) fun _ => ?_
  all_goals repeat (go_big_quiet_step (fail))
  all_goals refine wpQuiet_nil ?_
  all_goals rintro _ ⟨z, rfl⟩
  all_goals go_wp2
  all_goals go_ret
  all_goals exact ⟨by go_num, z.ok⟩
end
end Go.Proofs.YtahpnnjemjjfhaaGreat

/-
  Contracts of package coil: the methods that write.
-/
namespace Go.Proofs.YtahpnnjemjjfhaaGreat
open Go.RowKit

section
variable {p : Nat} {S : CS}

theorem Own.drew {w : World} {b : Nat} {t : TypeId} {L : List Value} (h : Own w b t L) : Own w.drew b t L := h
theorem CTab.drew {w : World} {t : TypeId} (h : CTab t w p S) : CTab t w.drew p S := ⟨h.own.drew, h.ok⟩
/-- One cell written anew. -/
theorem CTab.put {w : World} {t : TypeId} (h : CTab t w p S) (i : Nat) (v : Value) {S' : CS} (e : S.cells.set i v = S'.cells) (ok : S'.Ok) : CTab t (w.setCell ⟨p, i, none⟩ v) p S' :=
  ⟨e ▸ h.own.set i v, ok⟩

set_option maxHeartbeats 1000000 in
theorem kuse_any (m : Nat) (w : World) (h : CTab 114 w p S) (hm : S.u + m + S.k ≤ S.s) :
    Calls Tryz.prog 128 #[.pointer (some ⟨p, 0, none⟩), .int .i64 (m : Int)] w fun e w' => e = .returned (.int .i64 (S.u : Int)) ∧ CTab 114 w' p (putU S m) ∧ Mut [p] w w' := by
  have HT : Hid (CTab 114 w p S) := h
  have HM : Hid (S.u + m + S.k ≤ S.s) := hm
  have hp := h.lt
  have c1 := KW.cell (a := ⟨p, 1, none⟩) hp h.c1
  have c3 := KW.cell (a := ⟨p, 3, none⟩) hp h.c3
  have c4 := KW.cell (a := ⟨p, 4, none⟩) hp h.c4
  have h1 := h.ok.max
  have h2 := h.ok.two
  clear h hp
  obtain ⟨s, c, k, a, b⟩ := S
  simp only [CS.u] at *
  rcases h2 with rfl | rfl
  all_goals simp only [if_true, if_false, Nat.one_ne_zero, z0, z1] at *
  all_goals go_enter Tryz.func128, Tryz.ntmps128
  all_goals go_wp2
  all_goals refine wp_region_kept (by kernel_rfl) (by kernel_rfl) fun _ => ?_
  all_goals repeat (go_big_quiet_step (fail))
  all_goals refine wpQuiet_nil ?_
  all_goals rintro _ ⟨z, rfl⟩
  all_goals clear c1 c3 c4
  all_goals have HZ : Hid (CTab 114 z.it p _ ∧ Kept w z.it) := ⟨HT.out.kept z.ok, z.ok⟩
  all_goals have c1 := HZ.out.1.c1
  all_goals have c3 := HZ.out.1.c3
  all_goals have c4 := HZ.out.1.c4
  all_goals have fz := HZ.out.1.fz
  all_goals simp only [z0, z1] at c1 c3 c4
  all_goals generalize z.it = w1 at *
  all_goals go_wp2
  all_goals go_region
  all_goals go_wp2
  all_goals go_ret
  · refine ⟨rfl, HZ.out.1.drew.put 3 _ ?_ ?_, (HZ.out.2.mut.drew).setCell (by simp) _⟩
    · simp [CS.cells, putU]
    · have := HZ.out.1.ok
      obtain ⟨g1, g2, g3, g4, g5⟩ := this
      simp only [CS.u, CS.o, if_true] at *
      constructor <;> simp [putU, CS.u, CS.o] <;> omega
  · refine ⟨rfl, HZ.out.1.drew.put 4 _ ?_ ?_, (HZ.out.2.mut.drew).setCell (by simp) _⟩
    · simp [CS.cells, putU]
    · have := HZ.out.1.ok
      obtain ⟨g1, g2, g3, g4, g5⟩ := this
      simp only [CS.u, CS.o, if_false, Nat.one_ne_zero] at *
      constructor <;> simp [putU, CS.u, CS.o] <;> omega

theorem takes_room {n : Int} (h : takes S n = true) : ∃ m : Nat, n = m ∧ 1 ≤ m ∧ S.u + m + S.k ≤ S.s ∧ (m : Int) ≤ roomF S := by
  have h : 1 ≤ n ∧ n ≤ roomF S := of_decide_eq_true h
  unfold roomF at *
  exact ⟨n.toNat, by omega, by omega, by omega, by omega⟩

set_option maxHeartbeats 1000000 in
theorem ktake_any (n : Int) (w : World) (h : CTab 114 w p S) :
    Calls Tryz.prog 158 #[.pointer (some ⟨p, 0, none⟩), .int .i64 n] w fun e w' => e = .returned (.tuple #[.int .i64 (takeA S n), .bool (takes S n)]) ∧ CTab 114 w' p (takeS S n) ∧ Mut [p] w w' := by
  have HT : Hid (CTab 114 w p S) := h
  clear h
  cases ht : takes S n
  · simp only [takeA, takeS, ht, if_false, Bool.false_eq_true]
    by_cases h1 : n < 1
    · clear ht
      go_enter Tryz.func158, Tryz.ntmps158
      go_wp2
      go_ret2
      exact ⟨rfl, HT.out, Mut.refl _ _⟩
    · have h2 : roomF S < n := by
        simp only [takes, decide_eq_false_iff_not] at ht
        omega
      clear ht
      generalize hr : roomF S = r at h2
      have HR := kroom_any _ HT.out
      rw [hr] at HR
      clear hr
      go_enter Tryz.func158, Tryz.ntmps158
      go_wp2_with fail
      refine HR.mono ?_
      rintro e w1 ⟨rfl, k1⟩
      have H1 : Hid (CTab 114 w1 p S ∧ Kept w w1) := ⟨HT.out.kept k1, k1⟩
      clear k1
      go_wp2
      go_ret2
      exact ⟨rfl, H1.out.1, H1.out.2.mut⟩
  · simp only [takeA, takeS, ht, if_true]
    obtain ⟨m, rfl, hm1, hm2, hm3⟩ := takes_room ht
    clear ht
    have HM : Hid (S.u + m + S.k ≤ S.s) := hm2
    clear hm2
    have HR := kroom_any _ HT.out
    generalize hr : roomF S = r at hm3 HR
    clear hr
    go_enter Tryz.func158, Tryz.ntmps158
    go_wp2_with fail
    refine HR.mono ?_
    rintro e w1 ⟨rfl, k1⟩
    have H1 : Hid (CTab 114 w1 p S ∧ Kept w w1) := ⟨HT.out.kept k1, k1⟩
    clear k1
    go_wp2_with fail
    refine (kuse_any m _ H1.out.1 HM.out).mono ?_
    rintro e w2 ⟨rfl, t2, m2⟩
    have H2 : Hid (CTab 114 w2 p (putU S m) ∧ Mut [p] w w2) := ⟨t2, H1.out.2.mut.trans m2⟩
    clear t2 m2
    go_wp2
    go_ret2
    exact ⟨rfl, H2.out.1, H2.out.2⟩

theorem skips_room {n : Int} (h : skips S n = true) : ∃ m : Nat, n = m ∧ 1 ≤ m ∧ m ≤ S.k := by
  simp only [skips, decide_eq_true_eq] at h
  exact ⟨n.toNat, by omega, by omega, by omega⟩

set_option maxHeartbeats 1000000 in
theorem kskip_any (n : Int) (w : World) (h : CTab 114 w p S) :
    Calls Tryz.prog 67 #[.pointer (some ⟨p, 0, none⟩), .int .i64 n] w fun e w' => e = .returned (.bool (skips S n)) ∧ CTab 114 w' p (skipS S n) ∧ Mut [p] w w' := by
  have HT : Hid (CTab 114 w p S) := h
  have c2 := h.c2
  have fz := h.fz
  have hk : S.k ≤ 2048 := by have := h.ok.max; have := h.ok.fit; omega
  have HO := h.ok.skip n
  clear h
  cases ht : skips S n
  · simp only [skipS, ht, if_false, Bool.false_eq_true]
    by_cases h1 : n < 1
    · clear ht
      go_enter Tryz.func67, Tryz.ntmps67
      go_wp2
      go_ret
      exact ⟨rfl, HT.out, Mut.refl _ _⟩
    · have h2 : (S.k : Int) < n := by
        simp only [skips, decide_eq_false_iff_not] at ht
        omega
      clear ht
      go_enter Tryz.func67, Tryz.ntmps67
      go_wp2
      go_ret
      exact ⟨rfl, HT.out, Mut.refl _ _⟩
  · simp only [skipS, ht, if_true] at HO ⊢
    obtain ⟨m, rfl, hm1, hm2⟩ := skips_room ht
    clear ht
    have HO2 : Hid _ := HO
    clear HO
    have e : ((S.k : Int) - (m : Int)) = ((S.k - m : Nat) : Int) := by omega
    go_enter Tryz.func67, Tryz.ntmps67
    go_wp2
    go_ret
    refine ⟨rfl, HT.out.put 2 _ ?_ HO2.out, (Mut.refl _ _).setCell (by simp) _⟩
    simp [CS.cells]

set_option maxHeartbeats 1000000 in
theorem kcopy_any (n : Int) (w : World) (h : CTab 114 w p S) :
    Calls Tryz.prog 69 #[.pointer (some ⟨p, 0, none⟩), .int .i64 n] w fun e w' => e = .returned (.tuple #[.int .i64 (copyA S n), .bool (skips S n)]) ∧ CTab 114 w' p (copyS S n) ∧ Mut [p] w w' := by
  have HT : Hid (CTab 114 w p S) := h
  have HS := kskip_any n _ h
  clear h
  cases ht : skips S n
  · simp only [copyA, copyS, skipS, ht, if_false, Bool.false_eq_true] at HS ⊢
    clear ht
    go_enter Tryz.func69, Tryz.ntmps69
    go_wp2_with fail
    refine HS.mono ?_
    rintro e w1 ⟨rfl, t1, m1⟩
    have H1 : Hid (CTab 114 w1 p S ∧ Mut [p] w w1) := ⟨t1, m1⟩
    clear t1 m1
    go_wp2
    go_ret2
    exact ⟨rfl, H1.out⟩
  · simp only [copyA, copyS, skipS, ht, if_true] at HS ⊢
    obtain ⟨m, rfl, hm1, hm2⟩ := skips_room ht
    clear ht
    have HM : Hid (m ≤ S.k) := hm2
    clear hm2
    simp only [Int.toNat_natCast] at HS ⊢
    have e : S.u = CS.u { S with k := S.k - m } := rfl
    rw [e]
    clear e
    generalize hS : ({ S with k := S.k - m } : CS) = S1 at *
    have HF : Hid (S1.u + m + S1.k ≤ S1.s) := by
      subst hS
      have := HT.out.ok.fit
      have := HM.out
      show CS.u S + m + (S.k - m) ≤ S.s
      omega
    clear hS
    go_enter Tryz.func69, Tryz.ntmps69
    go_wp2_with fail
    refine HS.mono ?_
    rintro e w1 ⟨rfl, t1, m1⟩
    have H1 : Hid (CTab 114 w1 p S1 ∧ Mut [p] w w1) := ⟨t1, m1⟩
    clear t1 m1
    go_wp2_with fail
    refine (kuse_any m _ H1.out.1 HF.out).mono ?_
    rintro e w2 ⟨rfl, t2, m2⟩
    have H2 : Hid (CTab 114 w2 p (putU S1 m) ∧ Mut [p] w w2) := ⟨t2, H1.out.2.trans m2⟩
    clear t2 m2
    go_wp2
    go_ret2
    exact ⟨rfl, H2.out.1, H2.out.2⟩

set_option maxHeartbeats 1000000 in
theorem kturn_any (w : World) (h : CTab 114 w p S) :
    Calls Tryz.prog 116 #[.pointer (some ⟨p, 0, none⟩)] w fun e w' => e = .returned (.bool (turns S)) ∧ CTab 114 w' p (turnS S) ∧ Mut [p] w w' := by
  have HT : Hid (CTab 114 w p S) := h
  have HO : Hid (turnS S).Ok := h.ok.turn
  have h1 := h.ok.max
  have h2 := h.ok.two
  have hp := h.lt
  have q3 := KW.cell (a := ⟨p, 3, none⟩) hp h.c3
  have q4 := KW.cell (a := ⟨p, 4, none⟩) hp h.c4
  clear h
  obtain ⟨s, c, k, a, b⟩ := S
  have G : Hid (∀ x : KW w, Calls Tryz.prog 152 #[.pointer (some ⟨p, 0, none⟩)] x.it fun e w' => e = .returned (.int .i64 ((1 - c : Nat) : Int)) ∧ Kept x.it w') := fun x => (kother_any _ (HT.out.kept x.ok)).mono (by rintro e w' ⟨rfl, rfl⟩; exact ⟨rfl, Kept.refl _⟩)
  simp only [CS.o, CS.u, turns, turnS] at *
  rcases h2 with rfl | rfl
  · simp only [if_true, z1, Nat.sub_zero] at *
    by_cases hb : b = 0
    · subst hb
      simp only [beq_self_eq_true, if_true, z0] at *
      go_enter Tryz.func116, Tryz.ntmps116
      go_wp2_with fail
      refine wp_region_kept (by kernel_rfl) (by kernel_rfl) fun _ => ?_
      repeat (go_big_quiet_step ((go_at_call 152; exact kept_of (G.out _))))
      refine wpQuiet_nil ?_
      rintro _ ⟨z, rfl⟩
      clear q3 q4
      have HZ : Hid (CTab 114 z.it p _ ∧ Kept w z.it) := ⟨HT.out.kept z.ok, z.ok⟩
      have c1 := HZ.out.1.c1
      have c2 := HZ.out.1.c2
      have cu := HZ.out.1.c3
      have fz := HZ.out.1.fz
      simp only [z0] at c1
      generalize z.it = w1 at *
      go_wp2
      go_region
      clear c1 c2 cu fz
      have H2 : Hid (Own ((w1.setCell ⟨p, 2, none⟩ (.int .i64 (a : Int))).drew) p 114 (CS.cells ⟨s, 0, a, a, 0⟩) ∧ Mut [p] w ((w1.setCell ⟨p, 2, none⟩ (.int .i64 (a : Int))).drew)) := ⟨(HZ.out.1.own.set 2 _).drew, (HZ.out.2.mut.setCell (by simp) _).drew⟩
      go_wp2_with fail
      generalize (w1.setCell ⟨p, 2, none⟩ (.int .i64 (a : Int))).drew = w2 at *
      refine (kother_aux 0 _ (H2.out.1.blk.at 1 rfl) (by omega)).mono ?_
      rintro e w3 ⟨rfl, rfl⟩
      have fz := H2.out.1.blk.fz
      have c1 : w3.cell? ⟨p, 1, none⟩ = some (.int .i64 0) := H2.out.1.blk.at 1 rfl
      go_wp2
      go_ret
      exact ⟨rfl, ⟨H2.out.1.set 1 _, HO.out⟩, H2.out.2.setCell (by simp) _⟩
    · have hb2 : (b == 0) = false := by simpa using hb
      have hb3 : ((b : Int) == 0) = false := by simpa using hb
      have hb4 : ((b : Int) != 0) = true := by simpa using hb
      simp only [hb2, if_false, Bool.false_eq_true] at HO ⊢
      go_enter Tryz.func116, Tryz.ntmps116
      go_wp2_with fail
      refine wp_region_kept (by kernel_rfl) (by kernel_rfl) fun _ => ?_
      repeat (go_big_quiet_step ((go_at_call 152; exact kept_of (G.out _))))
      refine wpQuiet_nil ?_
      rintro _ ⟨z, rfl⟩
      clear q3 q4
      have HZ : Hid (CTab 114 z.it p _ ∧ Kept w z.it) := ⟨HT.out.kept z.ok, z.ok⟩
      generalize z.it = w1 at *
      go_wp2
      go_ret
      exact ⟨rfl, HZ.out.1, HZ.out.2.mut⟩
  · simp only [if_false, Nat.one_ne_zero, z0, Nat.sub_self] at *
    by_cases hb : a = 0
    · subst hb
      simp only [beq_self_eq_true, if_true, z0] at *
      go_enter Tryz.func116, Tryz.ntmps116
      go_wp2_with fail
      refine wp_region_kept (by kernel_rfl) (by kernel_rfl) fun _ => ?_
      repeat (go_big_quiet_step ((go_at_call 152; exact kept_of (G.out _))))
      refine wpQuiet_nil ?_
      rintro _ ⟨z, rfl⟩
      clear q3 q4
      have HZ : Hid (CTab 114 z.it p _ ∧ Kept w z.it) := ⟨HT.out.kept z.ok, z.ok⟩
      have c1 := HZ.out.1.c1
      have c2 := HZ.out.1.c2
      have cu := HZ.out.1.c4
      have fz := HZ.out.1.fz
      simp only [z1] at c1
      generalize z.it = w1 at *
      go_wp2
      go_region
      clear c1 c2 cu fz
      have H2 : Hid (Own ((w1.setCell ⟨p, 2, none⟩ (.int .i64 (b : Int))).drew) p 114 (CS.cells ⟨s, 1, b, 0, b⟩) ∧ Mut [p] w ((w1.setCell ⟨p, 2, none⟩ (.int .i64 (b : Int))).drew)) := ⟨(HZ.out.1.own.set 2 _).drew, (HZ.out.2.mut.setCell (by simp) _).drew⟩
      go_wp2_with fail
      generalize (w1.setCell ⟨p, 2, none⟩ (.int .i64 (b : Int))).drew = w2 at *
      refine (kother_aux 1 _ (H2.out.1.blk.at 1 rfl) (by omega)).mono ?_
      rintro e w3 ⟨rfl, rfl⟩
      have fz := H2.out.1.blk.fz
      have c1 : w3.cell? ⟨p, 1, none⟩ = some (.int .i64 1) := H2.out.1.blk.at 1 rfl
      go_wp2
      go_ret
      exact ⟨rfl, ⟨H2.out.1.set 1 _, HO.out⟩, H2.out.2.setCell (by simp) _⟩
    · have hb2 : (a == 0) = false := by simpa using hb
      have hb3 : ((a : Int) == 0) = false := by simpa using hb
      have hb4 : ((a : Int) != 0) = true := by simpa using hb
      simp only [hb2, if_false, Bool.false_eq_true] at HO ⊢
      go_enter Tryz.func116, Tryz.ntmps116
      go_wp2_with fail
      refine wp_region_kept (by kernel_rfl) (by kernel_rfl) fun _ => ?_
      repeat (go_big_quiet_step ((go_at_call 152; exact kept_of (G.out _))))
      refine wpQuiet_nil ?_
      rintro _ ⟨z, rfl⟩
      clear q3 q4
      have HZ : Hid (CTab 114 z.it p _ ∧ Kept w z.it) := ⟨HT.out.kept z.ok, z.ok⟩
      generalize z.it = w1 at *
      go_wp2
      go_ret
      exact ⟨rfl, HZ.out.1, HZ.out.2.mut⟩

set_option maxHeartbeats 1000000 in
theorem kdone_any (w : World) (h : CTab 114 w p S) :
    Calls Tryz.prog 118 #[.pointer (some ⟨p, 0, none⟩)] w fun e w' => e = .returned (.bool (dones S)) ∧ CTab 114 w' p (doneS S) ∧ Mut [p] w w' := by
  have HT : Hid (CTab 114 w p S) := h
  have HO : Hid (doneS S).Ok := h.ok.done
  have h2 := h.ok.two
  have c2 := h.c2
  have q3 := h.c3
  have q4 := h.c4
  have fz := h.fz
  clear h
  obtain ⟨s, c, k, a, b⟩ := S
  have G : Hid (∀ x : World, x.cell? ⟨p, 1, none⟩ = some (.int .i64 (c : Int)) → Calls Tryz.prog 152 #[.pointer (some ⟨p, 0, none⟩)] x fun e w' => e = .returned (.int .i64 ((1 - c : Nat) : Int)) ∧ w' = x) := fun x hx => kother_aux c x hx h2
  have C1 : Hid (w.cell? ⟨p, 1, none⟩ = some (.int .i64 (c : Int))) := HT.out.c1
  simp only [dones, doneS] at *
  by_cases hb : k = 0
  · subst hb
    simp only [beq_self_eq_true, if_true, z0] at *
    rcases h2 with rfl | rfl
    · simp only [if_true, z0, z1, Nat.sub_zero] at *
      go_enter Tryz.func118, Tryz.ntmps118
      go_wp2_with fail
      go_region_with (go_at_call 152; refine (G.out w.drew C1.out).mono ?_; rintro r w2 ⟨rfl, rfl⟩)
      all_goals go_wp2
      all_goals go_ret
      all_goals exact ⟨rfl, ⟨HT.out.own.drew.set 4 _, HO.out⟩, (Mut.refl _ _).drew.setCell (by simp) _⟩
    · simp only [if_false, Nat.one_ne_zero, z0, z1, Nat.sub_self] at *
      go_enter Tryz.func118, Tryz.ntmps118
      go_wp2_with fail
      go_region_with (go_at_call 152; refine (G.out w.drew C1.out).mono ?_; rintro r w2 ⟨rfl, rfl⟩)
      all_goals go_wp2
      all_goals go_ret
      all_goals exact ⟨rfl, ⟨HT.out.own.drew.set 3 _, HO.out⟩, (Mut.refl _ _).drew.setCell (by simp) _⟩
  · have hb2 : (k == 0) = false := by simpa using hb
    have hb3 : ((k : Int) == 0) = false := by simpa using hb
    have hb4 : ((k : Int) != 0) = true := by simpa using hb
    simp only [hb2, if_false, Bool.false_eq_true] at HO ⊢
    go_enter Tryz.func118, Tryz.ntmps118
    go_wp2
    go_ret
    exact ⟨rfl, HT.out, Mut.refl _ _⟩
end
end Go.Proofs.YtahpnnjemjjfhaaGreat

