/-
  The modules RAdd, RDro, one behind another.
-/
import Derived.Deep.CutBlock
import Derived.Test.YtahpnnjemjjfhaaGreatM11
import Derived.Test.YtahpnnjemjjfhaaGreatM21
/-
  The document's line: Add.
-/
namespace Go.Proofs.YtahpnnjemjjfhaaGreat
open Go.RowKit

variable {rq : RQ}

theorem info_req : (Tryz.prog.info? 126).map (fun i => (i.zero, i.size, i.bytes)) = some (some (.agg #[.int .i64 0, .int .i64 0, .int .i64 0, .int .i64 0, .int .i64 0, .int .i64 0, .slice none 0 0]), 7, 72) := by kernel_rfl
theorem rdr_one7 (w : World) (e : Ent) : Rdr Ent.c7 (w.alloc (.cells e.c7.toArray 126)) (some ⟨w.heap.size, 0, none⟩) [e] := fun _ => ⟨_, rfl, fun j u hu => by
  rw [show (⟨w.heap.size, 0, none⟩ : Addr).add j = ⟨w.heap.size, j, none⟩ by unfold Addr.add; split <;> simp_all]
  simpa using hu⟩

set_option maxHeartbeats 1000000 in
theorem lradd_no {base b : Nat} {v nv : Value} {E : List Ent} {N : List Int} {t f s s3 s4 s5 : Int} {x : Option Addr} {l c : Nat} (w : World) (h : RlT rq w base b v nv E N) (ht : ∃ e ∈ E, e.th = t) :
    Calls Tryz.prog 103 #[.pointer (some ⟨b, 12, none⟩), .agg #[.int .i64 t, .int .i64 f, .int .i64 s, .int .i64 s3, .int .i64 s4, .int .i64 s5, .slice x l c]] w fun r w' => r = .returned (.bool false) ∧ Kept w w' := by
  have HT : Hid (RlT rq w base b v nv E N) := h
  have HI : Hid (idx (fun e => e.th == t) E ≥ 0) := by
    rcases idx_cases (fun e => e.th == t) E with ⟨_, _, h3⟩ | ⟨i, hi, h1, _⟩
    · obtain ⟨e, he, q⟩ := ht
      have := h3 e he
      simp [q] at this
    · show idx (fun e => e.th == t) E ≥ 0
      omega
  clear h ht
  go_enter Tryz.func103, Tryz.ntmps103
  go_wp2_with fail
  refine (lrplace_any t _ (HT.out.kept ((Kept.refl w).alloc _ _))).mono ?_
  rintro r w1 ⟨rfl, rfl⟩
  have hi := HI.out
  generalize idx (fun e => e.th == t) E = i at *
  go_wp2
  go_ret
  exact ⟨rfl, (Kept.refl w).alloc _ _⟩

set_option maxHeartbeats 8000000 in
theorem lradd_yes {base b : Nat} {v nv : Value} {E : List Ent} {N : List Int} {t f s s3 s4 s5 : Int} {x : Option Addr} {l c : Nat} (w : World) (h : RlT rq w base b v nv E N) (hf : E.length < 100000) (ht : ∀ e ∈ E, e.th ≠ t) :
    Calls Tryz.prog 103 #[.pointer (some ⟨b, 12, none⟩), .agg #[.int .i64 t, .int .i64 f, .int .i64 s, .int .i64 s3, .int .i64 s4, .int .i64 s5, .slice x l c]] w fun r w' => r = .returned (.bool true) ∧
      ∃ v', RlT rq w' base b v' nv (E ++ [newEnt t f s]) N ∧ Mut (b :: v.ownBlock.toList) w w' ∧ ∀ k, k ∈ footR b v' nv (E ++ [newEnt t f s]) → k ∈ footR b v nv E ∨ w.heap.size ≤ k := by
  have HT : Hid (RlT rq w base b v nv E N ∧ E.length < 100000) := ⟨h, hf⟩
  have HI : Hid (idx (fun e => e.th == t) E = -1) := idx_none fun e he => by simpa using ht e he
  clear h ht hf
  go_enter Tryz.func103, Tryz.ntmps103
  go_wp2_with fail
  generalize hW0 : w.alloc _ = W2
  have k0 : Kept w W2 := by rw [← hW0]; exact (Kept.refl w).alloc _ _
  have b2 : Blk W2 w.heap.size [.int .i64 t, .int .i64 f, .int .i64 s, .int .i64 s3, .int .i64 s4, .int .i64 s5, .slice x l c] := by rw [← hW0]; exact Blk.new w _ _
  clear hW0
  refine (lrplace_any t _ (HT.out.1.kept k0)).mono ?_
  rintro r w1 ⟨rfl, rfl⟩
  rw [HI.out]
  go_upto_region 3 with fail
  have H2 : Hid (RlT rq w1.drew base b v nv E N ∧ Kept w w1.drew) := ⟨HT.out.1.kept k0.drew, k0.drew⟩
  obtain ⟨x0, e0, rfl⟩ := H2.out.1.ens.row.form
  have c0 : ∀ A u, (w1.alloc (.cells A u)).cell? ⟨b, 12, none⟩ = some (.slice x0 E.length e0) := fun A u => (H2.out.1.kept ((Kept.refl _).alloc A u)).c0
  have c1 : w1.cell? ⟨b, 12, none⟩ = some (.slice x0 E.length e0) := H2.out.1.c0
  obtain ⟨v', w', hrun, hrw, hmt, hfr⟩ := run_append_rw (P := Tryz.prog) (ts := 54) (ty := 54) (c := Ent.c7) (T := [newEnt t f s]) (d := 1) Tryz.underlying54 info_req rfl (by omega) (by omega) c7len lc7_one (H2.out.1.ens.row.kept ((Kept.refl w1.drew).alloc (newEnt t f s).c7.toArray 126)) (by have h1 := H2.out.1.lo; have h2 : b < w1.heap.size := H2.out.1.ltb; simp; omega) (rdr_one7 _ _) (by have := HT.out.2; simp; omega)
  have hml : ([newEnt t f s] : List Ent).length = 1 := rfl
  rw [hml] at hrun
  have hrun : (Builtin.append_ #[54, 54] 54 #[.slice x0 E.length e0, .slice (some ⟨w1.heap.size, 0, none⟩) 1 1]).run Tryz.prog (w1.alloc (.cells #[.int .i64 t, .int .i64 f, .int .i64 s, .int .i64 0, .int .i64 0, .int .i64 (-1), .slice none 0 0] 126)).drew = .ok v' w' := hrun
  have hbm : b < w1.heap.size := H2.out.1.ltb
  have O2 : Own w' b 60 (rq.cells (.slice x0 E.length e0) nv) := (H2.out.1.kept ((Kept.refl w1.drew).alloc (newEnt t f s).c7.toArray 126)).head.muts hmt (by simpa using H2.out.1.ens.nb)
  have LN : Lst w' base nv N := (H2.out.1.kept ((Kept.refl w1.drew).alloc (newEnt t f s).c7.toArray 126)).ln.muts hmt (fun k hk hd => H2.out.1.n2 k (by simpa using hd) hk)
  have c2 := O2.blk.at 12 rfl
  have f2 := O2.blk.fz
  have m0 := b2.at 0 rfl
  have m1 := b2.at 1 rfl
  have m2 := b2.at 2 rfl
  have HR : Hid (RlT rq (w'.setCell ⟨b, 12, none⟩ v') base b v' nv (E ++ [newEnt t f s]) N ∧ Mut (b :: (Value.slice x0 E.length e0).ownBlock.toList) w (w'.setCell ⟨b, 12, none⟩ v') ∧ ∀ k, k ∈ footR b v' nv (E ++ [newEnt t f s]) → k ∈ footR b (.slice x0 E.length e0) nv E ∨ w.heap.size ≤ k) := by
    have K3 := (Kept.refl w1.drew).alloc (newEnt t f s).c7.toArray 126
    have EN := (H2.out.1.ens.kept K3).turn hrw hmt (fun k hk => .inl (by simpa using hk)) hfr (fun e he => by
      rcases List.mem_append.1 he with he | he
      · exact .inl he
      · simp at he
        subst he
        exact .inr ⟨rfl, rfl⟩) (by simp; omega)
    refine ⟨H2.out.1.turn O2 EN LN (fun k hk q => ?_) (by have := HT.out.2; simp; omega), ?_, fun k hk => ?_⟩
    · rcases hfr k hk with g | g
      · exact H2.out.1.n2 k g q
      · have h1 := (H2.out.1.ln.lt k q).2
        have h2 : w1.drew.heap.size ≤ k := Nat.le_trans K3.size g
        omega
    · exact (((H2.out.2.trans K3).mut).trans (hmt.wide fun k hk => by simp at hk ⊢; exact .inr hk)).setCell (by simp) _
    · rcases mem_footR.1 hk with hk | hk
      · exact .inl (mem_footR.2 (.inl hk))
      rcases mem_foot.1 hk with rfl | hk | ⟨e, he, hk⟩
      · exact .inl (mem_footR.2 (.inr (mem_foot.2 (.inl rfl))))
      · rcases hfr k hk with q | q
        · exact .inl (mem_footR.2 (.inr (mem_foot.2 (.inr (.inl q)))))
        · have h1 := (H2.out.2.trans K3).size
          exact .inr (by omega)
      · rcases List.mem_append.1 he with he | he
        · exact .inl (mem_footR.2 (.inr (mem_foot.2 (.inr (.inr ⟨e, he, hk⟩)))))
        · simp at he
          subst he
          simp [newEnt, Ent.blk] at hk
  obtain ⟨x1, e1, ev⟩ := hrw.form
  rw [List.length_append, hml] at ev
  subst ev
  clear hrw hmt hfr O2 b2 LN
  go_region_law (refine step_append_eq rfl (.tmp 14) (.tmp 22) 54 rfl (by first | rfl | (simp [Act.eval]; done) | simp [Act.eval, Act.put]) (by first | rfl | (simp [Act.eval]; done) | simp [Act.eval, Act.put]) hrun ?_)
  all_goals go_wp2
  all_goals go_ret
  all_goals exact ⟨rfl, _, HR.out⟩
end Go.Proofs.YtahpnnjemjjfhaaGreat

/-
  The document's line: Drop.
-/
namespace Go.Proofs.YtahpnnjemjjfhaaGreat
open Go.RowKit

variable {rq : RQ}

set_option maxHeartbeats 1000000 in
theorem lrdrop_no {base b : Nat} {v nv : Value} {E : List Ent} {N : List Int} {t : Int} (w : World) (h : RlT rq w base b v nv E N) (hi : idx (fun e => e.th == t) E = -1) :
    Calls Tryz.prog 108 #[.pointer (some ⟨b, 12, none⟩), .int .i64 t] w fun r w' => r = .returned (.bool false) ∧ w' = w := by
  have C := lrplace_any t w h
  rw [hi] at C
  clear hi h
  go_enter Tryz.func108, Tryz.ntmps108
  go_wp2_with fail
  refine C.mono ?_
  rintro r w1 ⟨rfl, rfl⟩
  go_wp2
  go_ret
  exact ⟨rfl, rfl⟩

theorem rw_empty (w : World) : Rw 126 7 Ent.c7 (w.alloc (.cells #[] 126)) w.heap.size (.slice (some ⟨w.heap.size, 0, none⟩) 0 0) [] :=
  World.ownsRow_made w _ 0 (Nat.le_refl _) (by unfold maxLen; omega) (by simp)
theorem Rw.rdr {t : TypeId} {m : Nat} {c : Ent → List Value} {w : World} {base g n d : Nat} {E : List Ent} (h : Rw t m c w base (.slice (some ⟨g, 0, none⟩) n d) E) (hc : ∀ e, (c e).length = m) (i : Nat) : Rdr c w (some ⟨g, i * m, none⟩) (E.drop i) := fun _ => ⟨_, rfl, fun j u hu => by
  rw [flat_drop hc, List.getElem?_drop] at hu
  have := World.ownsRow.cells h (g := g) rfl (i * m + j) u hu
  rw [show (⟨g, 0, none⟩ : Addr).add (i * m + j) = ⟨g, i * m + j, none⟩ by unfold Addr.add; split <;> simp_all] at this
  rw [show (⟨g, i * m, none⟩ : Addr).add j = ⟨g, i * m + j, none⟩ by unfold Addr.add; split <;> simp_all]
  exact this⟩
theorem Rw.rdt {t : TypeId} {m : Nat} {c : Ent → List Value} {w : World} {base g n d : Nat} {E : List Ent} (h : Rw t m c w base (.slice (some ⟨g, 0, none⟩) n d) E) (hc : ∀ e, (c e).length = m) (i : Nat) : Rdr c w (some ⟨g, 0, none⟩) (E.take i) := fun _ => ⟨_, rfl, fun j u hu => by
  rw [flat_take hc, List.getElem?_take] at hu
  split at hu
  · exact World.ownsRow.cells h (g := g) rfl j u hu
  · cases hu⟩
theorem filt_more {N : List Int} {t : Int} {k : Nat} (hk : k < N.length) : (N.take (k + 1)).filter (fun x => x != t) = (N.take k).filter (fun x => x != t) ++ (if N[k] != t then [N[k]] else []) := by
  rw [List.take_succ_eq_append_getElem hk, List.filter_append]
  by_cases h : (N[k] != t) = true
  · simp [h]
  · simp [h]

/-- What is known in the midst of Drop's assignment: operation 1 lays an empty row, 8 and 16 append, 19 stores. -/
def DrJ (w w6 w7 w8 : World) (d : Nat → Bool) (u : World) : Prop :=
  (d 1 = false ∧ d 8 = false ∧ d 16 = false ∧ d 19 = false ∧ u = w.drew) ∨ (d 1 = true ∧ d 8 = false ∧ d 16 = false ∧ d 19 = false ∧ u = (w.alloc (.cells #[] 126)).drew) ∨
  (d 1 = true ∧ d 8 = true ∧ d 16 = false ∧ d 19 = false ∧ u = w6) ∨ (d 1 = true ∧ d 8 = true ∧ d 16 = true ∧ d 19 = false ∧ u = w7) ∨ (d 1 = true ∧ d 8 = true ∧ d 16 = true ∧ d 19 = true ∧ d 5 = true ∧ d 12 = true ∧ u = w8)
section
variable {w w6 w7 w8 u : World} {d : Nat → Bool}
theorem DrJ.plain (h : DrJ w w6 w7 w8 d u) (k : Nat) (h1 : k ≠ 1) (h8 : k ≠ 8) (h16 : k ≠ 16) (h19 : k ≠ 19) : DrJ w w6 w7 w8 (done d k) u := by
  have e1 : done d k 1 = d 1 := by simp [done, Ne.symm h1]
  have e8 : done d k 8 = d 8 := by simp [done, Ne.symm h8]
  have e16 : done d k 16 = d 16 := by simp [done, Ne.symm h16]
  have e19 : done d k 19 = d 19 := by simp [done, Ne.symm h19]
  unfold DrJ
  rw [e1, e8, e16, e19]
  rcases h with h | h | h | h | ⟨a1, a2, a3, a4, a5, a6, a7⟩
  · exact .inl h
  · exact .inr (.inl h)
  · exact .inr (.inr (.inl h))
  · exact .inr (.inr (.inr (.inl h)))
  · exact .inr (.inr (.inr (.inr ⟨a1, a2, a3, a4, by simp only [done]; split <;> simp_all, by simp only [done]; split <;> simp_all, a7⟩)))
theorem DrJ.one (h : DrJ w w6 w7 w8 d u) (hi : d 1 = false) : u = w.drew ∧ DrJ w w6 w7 w8 (done d 1) (w.alloc (.cells #[] 126)).drew := by
  rcases h with ⟨a1, a2, a3, a4, a5⟩ | ⟨a1, _⟩ | ⟨a1, _⟩ | ⟨a1, _⟩ | ⟨a1, _⟩
  · exact ⟨a5, .inr (.inl ⟨by simp [done], by simp [done, a2], by simp [done, a3], by simp [done, a4], rfl⟩)⟩
  all_goals (rw [hi] at a1; cases a1)
theorem DrJ.eight (h : DrJ w w6 w7 w8 d u) (h1 : d 1 = true) (hi : d 8 = false) : u = (w.alloc (.cells #[] 126)).drew ∧ DrJ w w6 w7 w8 (done d 8) w6 := by
  rcases h with ⟨a1, _⟩ | ⟨a1, a2, a3, a4, a5⟩ | ⟨_, a1, _⟩ | ⟨_, a1, _⟩ | ⟨_, a1, _⟩
  · rw [h1] at a1; cases a1
  · exact ⟨a5, .inr (.inr (.inl ⟨by simp [done, a1], by simp [done], by simp [done, a3], by simp [done, a4], rfl⟩))⟩
  all_goals (rw [hi] at a1; cases a1)
theorem DrJ.sixteen (h : DrJ w w6 w7 w8 d u) (h1 : d 8 = true) (hi : d 16 = false) : u = w6 ∧ DrJ w w6 w7 w8 (done d 16) w7 := by
  rcases h with ⟨_, a1, _⟩ | ⟨_, a1, _⟩ | ⟨a1, a2, a3, a4, a5⟩ | ⟨_, _, a1, _⟩ | ⟨_, _, a1, _⟩
  · rw [h1] at a1; cases a1
  · rw [h1] at a1; cases a1
  · exact ⟨a5, .inr (.inr (.inr (.inl ⟨by simp [done, a1], by simp [done, a2], by simp [done], by simp [done, a4], rfl⟩)))⟩
  all_goals (rw [hi] at a1; cases a1)
theorem DrJ.last (h : DrJ w w6 w7 w8 d u) (h1 : d 16 = true) (hi : d 19 = false) (h5 : d 5 = true) (h12 : d 12 = true) : u = w7 ∧ DrJ w w6 w7 w8 (done d 19) w8 := by
  rcases h with ⟨_, _, a1, _⟩ | ⟨_, _, a1, _⟩ | ⟨_, _, a1, _⟩ | ⟨a1, a2, a3, a4, a5⟩ | ⟨_, _, _, a1, _⟩
  · rw [h1] at a1; cases a1
  · rw [h1] at a1; cases a1
  · rw [h1] at a1; cases a1
  · exact ⟨a5, .inr (.inr (.inr (.inr ⟨by simp [done, a1], by simp [done, a2], by simp [done, a3], by simp [done], by simp [done, h5], by simp [done, h12], rfl⟩)))⟩
  · rw [hi] at a1; cases a1
theorem DrJ.fin (h : DrJ w w6 w7 w8 d u) (h1 : d 19 = true) : w8 = u := by
  rcases h with ⟨_, _, _, a1, _⟩ | ⟨_, _, _, a1, _⟩ | ⟨_, _, _, a1, _⟩ | ⟨_, _, _, a1, _⟩ | ⟨_, _, _, _, _, _, a5⟩
  · rw [h1] at a1; cases a1
  · rw [h1] at a1; cases a1
  · rw [h1] at a1; cases a1
  · rw [h1] at a1; cases a1
  · exact a5.symm
theorem DrJ.cell {b : Nat} {v : Value} (h : DrJ w w6 w7 w8 d u) (hi : d 5 = false) (b0 : w.cell? ⟨b, 12, none⟩ = some v) (b1 : ∀ A t, (w.alloc (.cells A t)).cell? ⟨b, 12, none⟩ = some v) (b6 : w6.cell? ⟨b, 12, none⟩ = some v) (b7 : w7.cell? ⟨b, 12, none⟩ = some v) : u.cell? ⟨b, 12, none⟩ = some v := by
  rcases h with ⟨_, _, _, _, rfl⟩ | ⟨_, _, _, _, rfl⟩ | ⟨_, _, _, _, rfl⟩ | ⟨_, _, _, _, rfl⟩ | ⟨_, _, _, _, a, _⟩
  · exact b0
  · exact b1 _ _
  · exact b6
  · exact b7
  · rw [hi] at a; cases a
theorem DrJ.cell2 {b : Nat} {v : Value} (h : DrJ w w6 w7 w8 d u) (hi : d 12 = false) (b0 : w.cell? ⟨b, 12, none⟩ = some v) (b1 : ∀ A t, (w.alloc (.cells A t)).cell? ⟨b, 12, none⟩ = some v) (b6 : w6.cell? ⟨b, 12, none⟩ = some v) (b7 : w7.cell? ⟨b, 12, none⟩ = some v) : u.cell? ⟨b, 12, none⟩ = some v := by
  rcases h with ⟨_, _, _, _, rfl⟩ | ⟨_, _, _, _, rfl⟩ | ⟨_, _, _, _, rfl⟩ | ⟨_, _, _, _, rfl⟩ | ⟨_, _, _, _, _, a, _⟩
  · exact b0
  · exact b1 _ _
  · exact b6
  · exact b7
  · rw [hi] at a; cases a
end

set_option maxHeartbeats 8000000 in
set_option maxRecDepth 20000 in
theorem lrdrop_yes {base b : Nat} {v nv : Value} {E : List Ent} {N : List Int} {i : Nat} {t : Int} (w : World) (h : RlT rq w base b v nv E N) (hl : i < E.length) (hi : idx (fun e => e.th == t) E = (i : Int)) (hN : N.length ≤ 100000) :
    Calls Tryz.prog 108 #[.pointer (some ⟨b, 12, none⟩), .int .i64 t] w fun r w' => r = .returned (.bool true) ∧ ∃ v' nv', RlT rq w' base b v' nv' (E.eraseIdx i) (N.filter fun x => x != t) ∧ Mut (b :: v.ownBlock.toList) w w' ∧ ∀ k, k ∈ footR b v' nv' (E.eraseIdx i) → k ∈ footR b v nv E ∨ w.heap.size ≤ k := by
  have C := lrplace_any t w h
  rw [hi] at C
  obtain ⟨g, cap, rfl, _, hg, hcap⟩ := h.ens.row.here (by omega)
  have hf := h.few
  have hbw := h.ltb
  have hlo := h.lo
  have b0 := h.c0
  have kk : Kept w (w.alloc (.cells #[] 126)).drew := ((Kept.refl w).alloc _ _).drew
  have b1 : ∀ A u, (w.alloc (.cells A u)).cell? ⟨b, 12, none⟩ = some (.slice (some ⟨g, 0, none⟩) E.length cap) := fun A u => (h.kept ((Kept.refl w).alloc A u)).c0
  obtain ⟨v6, w6, run6, r6, m6, f6⟩ := run_append_rw (P := Tryz.prog) (ts := 54) (ty := 54) (c := Ent.c7) (T := E.take i) (d := cap) Tryz.underlying54 info_req rfl (by omega) (by omega) c7len lc7_one (Rw.kept (rw_empty w) (Kept.refl _).drew) (kk.size) ((h.ens.row.kept kk).rdt c7len i) (by simp; omega)
  have k6 : Kept w w6 := kk.muts m6 (by simp [Value.ownBlock])
  obtain ⟨yr, hyr⟩ : ∃ y : Option Addr, (if cap = i + 1 then some (⟨g, 0, none⟩ : Addr) else some ⟨g, (i + 1) * 7, none⟩) = y := ⟨_, rfl⟩
  obtain ⟨dr, hdr⟩ : ∃ d, cap - (i + 1) = d := ⟨_, rfl⟩
  have rr : Rdr Ent.c7 w6 yr (E.drop (i + 1)) := by
    by_cases hca : cap = i + 1
    · exact fun h => by simp at h; omega
    · rw [← hyr, if_neg hca]
      exact (h.ens.row.kept k6).rdr c7len (i + 1)
  obtain ⟨v7, w7, run7, r7, m7, f7⟩ := run_append_rw (P := Tryz.prog) (ts := 54) (ty := 54) (c := Ent.c7) (T := E.drop (i + 1)) (d := dr) Tryz.underlying54 info_req rfl (by omega) (by omega) c7len lc7_one r6 (k6.size) rr (by simp; omega)
  have k7 : Kept w w7 := k6.muts m7 (fun j hj => (r6.lt j (by simpa using hj)).1)
  have eE : ([] ++ E.take i) ++ E.drop (i + 1) = E.eraseIdx i := by rw [List.nil_append, List.eraseIdx_eq_take_drop_succ]
  have hle : (E.eraseIdx i).length = E.length - 1 := by rw [List.length_eraseIdx_of_lt hl]
  have b6 : w6.cell? ⟨b, 12, none⟩ = some (.slice (some ⟨g, 0, none⟩) E.length cap) := (h.kept k6).c0
  have T7 := h.kept k7
  have H8 : Hid (RlT rq (w7.setCell ⟨b, 12, none⟩ v7) base b v7 nv (E.eraseIdx i) N ∧ Mut (b :: (Value.slice (some ⟨g, 0, none⟩) E.length cap).ownBlock.toList) w (w7.setCell ⟨b, 12, none⟩ v7) ∧ (∀ k, v7.ownBlock = some k → w.heap.size ≤ k) ∧ ∀ k, k ∈ foot b v7 (E.eraseIdx i) → k ∈ foot b (.slice (some ⟨g, 0, none⟩) E.length cap) E ∨ w.heap.size ≤ k) := by
    rw [eE] at r7
    have hv : ∀ k, v7.ownBlock = some k → w.heap.size ≤ k := fun k hk => (r7.lt k hk).1
    have EN := h.ens.turn (r7.low (by omega : base ≤ w.heap.size)) (k7.mut (D := [])) (by simp) (fun k hk => .inr (hv k hk)) (fun e he => .inl (List.mem_of_mem_eraseIdx he)) hbw
    refine ⟨T7.turn T7.head EN T7.ln (fun k hk q => ?_) (by omega), k7.mut.setCell (by simp) _, hv, fun k hk => ?_⟩
    · have h1 := hv k hk
      have h2 := (h.ln.lt k q).2
      omega
    · rcases mem_foot.1 hk with q | q | ⟨e, he, q⟩
      · exact .inl (mem_foot.2 (.inl q))
      · exact .inr (hv k q)
      · exact .inl (mem_foot.2 (.inr (.inr ⟨e, List.mem_of_mem_eraseIdx he, q⟩)))
  have c7 := T7.c0
  have f7 := T7.fz
  obtain ⟨q, hq⟩ : ∃ q, E.length = i + q + 1 := ⟨E.length - i - 1, by omega⟩
  have ht6 : (E.take i).length = i := by rw [List.length_take]; omega
  have ht7 : (E.drop (i + 1)).length = q := by rw [List.length_drop]; omega
  rw [ht6] at run6
  rw [ht7] at run7
  have run6 : (Builtin.append_ #[54, 54] 54 #[.slice (some ⟨w.heap.size, 0, none⟩) 0 0, .slice (some ⟨g, 0, none⟩) i cap]).run Tryz.prog (w.alloc (.cells #[] 126)).drew = .ok v6 w6 := run6
  obtain ⟨y6, d6, e6⟩ := r6.form
  rw [List.nil_append, ht6] at e6
  subst e6
  obtain ⟨y7, d7, e7⟩ := r7.form
  rw [eE, hle, hq, Nat.add_sub_cancel] at e7
  subst e7
  have HNV : Hid (Lst w base nv N ∧ N.length ≤ 100000) := ⟨h.ln, hN⟩
  have HBW : Hid (b < w.heap.size) := hbw
  have HB : Hid (base ≤ w.heap.size) := by show base ≤ _; omega
  rw [hq] at b0 b1 b6 c7 hf hcap
  obtain ⟨vg, hvg⟩ : ∃ vg, vg = Value.slice (some ⟨g, 0, none⟩) E.length cap := ⟨_, rfl⟩
  have HVG : Hid (vg = Value.slice (some ⟨g, 0, none⟩) E.length cap) := hvg
  rw [← hvg] at H8 ⊢
  clear r6 r7 m6 m7 k6 k7 kk T7 rr eE hle hi h ht6 ht7 hvg f6 hN
  have e0 : ¬ (i : Int) < 0 := by omega
  have e1 : IntKind.i64.wrap ((i : Int) + 1) = (i : Int) + 1 := IntWalk.i64_in _ (by omega)
  have q0 : (i : Int) ≤ (cap : Int) := by omega
  have q1 : (i : Int) + 1 ≤ (i : Int) + (q : Int) + 1 := by omega
  have q2 : 0 ≤ (i : Int) + 1 := by omega
  have q3 : (i : Int) ≤ (i : Int) + 1 := by omega
  have q4 : i + q + 1 - (i + 1) = q := by omega
  have HL : Hid (i < E.length) := hl
  clear hl hg hbw hlo
  go_enter Tryz.func108, Tryz.ntmps108
  go_wp2_with fail
  refine C.mono ?_
  rintro r w1 ⟨rfl, rfl⟩
  clear C
  go_upto_region 4 with fail
  obtain ⟨w8, hw8⟩ : ∃ w8, w8 = w7.setCell ⟨b, 12, none⟩ (.slice y7 (i + q) d7) := ⟨_, rfl⟩
  rw [← hw8] at H8
  have HW8 : Hid (w8 = w7.setCell ⟨b, 12, none⟩ (.slice y7 (i + q) d7)) := hw8
  clear hw8
  go_cut [5] from 13 to 31 (fun v5 wc => v5 = .int .i64 (i : Int) ∧ w8 = wc)
  case first =>
    as_aux_lemma =>
      refine wp_region_phase [(.pointer (some ⟨b, 12, none⟩)), (.slice (some ⟨w1.heap.size, 0, none⟩) 0 0), (.pointer (some ⟨b, 12, none⟩)), (.pointer (some ⟨b, 12, none⟩)), (.pointer (some ⟨b, 12, none⟩)), (.slice (some ⟨g, 0, none⟩) (i + q + 1) cap), (.int .i64 (i : Int)), (.slice (some ⟨g, 0, none⟩) i cap), (.slice y6 i d6), (.pointer (some ⟨b, 12, none⟩)), (.pointer (some ⟨b, 12, none⟩)), (.pointer (some ⟨b, 12, none⟩)), (.slice (some ⟨g, 0, none⟩) (i + q + 1) cap), (.int .i64 (i : Int)), (.int .i64 ((i : Int) + 1)), (.slice yr q dr), (.slice y7 (i + q) d7), (.pointer (some ⟨b, 12, none⟩)), (.pointer (some ⟨b, 12, none⟩)), (.bool false)] [(13, 0), (14, 1), (15, 2), (16, 3), (17, 4), (18, 5), (19, 6), (20, 7), (21, 8), (22, 9), (23, 10), (24, 11), (25, 12), (26, 13), (27, 14), (28, 15), (29, 16), (30, 17), (31, 18)] [_, _, _, _, _, _, _, _, _, _, _, _, _, _, _, _, _, _, _, _, _, _, _, _, _, _, _, _, _, _, _, _, _, _, _, _, _, _, _, _, _, _, _, _, _, _, _, _, _, _, _, _, _, _, _, _, _, _, _, _, _, _, _, _] (fun d u => DrJ w1 w6 w7 w8 d u) (by kernel_rfl) (by kernel_rfl) (by kernel_rfl) (by kernel_rfl) rfl ?_ ?_ ?_
      · exact .inl ⟨rfl, rfl, rfl, rfl, rfl⟩
      · intro k o ho a d u hh hj hi hd
        match k, ho, hi, hd with
        | 0, ho, hi, hd =>
          simp only [List.getElem?_cons_zero, Option.some.injEq] at ho
          subst ho
          have g0 : a.tmps[0]? = some (.pointer (some ⟨b, 12, none⟩)) := hh.old 0 (by kernel_rfl) rfl
          have HN : Hid (DrJ w1 w6 w7 w8 (done d 0) u) := hj.plain 0 (by decide) (by decide) (by decide) (by decide)
          clear hj hi hh hd
          refine wpOp_step rfl (fun K hK => ?_)
          go_simp
          exact hK _ _ ⟨by simp [Act.put], HN.out⟩
        | 1, ho, hi, hd =>
          simp only [List.getElem?_cons_succ, List.getElem?_cons_zero, Option.some.injEq] at ho
          subst ho
          obtain ⟨hu, hJ⟩ := hj.one hi
          subst hu
          have HN : Hid _ := hJ
          clear hj hi hh hd hJ
          refine wpOp_step rfl (fun K hK => ?_)
          go_simp
          exact hK _ _ ⟨by simp [Act.put], HN.out⟩
        | 2, ho, hi, hd =>
          simp only [List.getElem?_cons_succ, List.getElem?_cons_zero, Option.some.injEq] at ho
          subst ho
          have g0 : a.tmps[0]? = some (.pointer (some ⟨b, 12, none⟩)) := hh.old 0 (by kernel_rfl) rfl
          have HN : Hid (DrJ w1 w6 w7 w8 (done d 2) u) := hj.plain 2 (by decide) (by decide) (by decide) (by decide)
          clear hj hi hh hd
          refine wpOp_step rfl (fun K hK => ?_)
          go_simp
          exact hK _ _ ⟨by simp [Act.put], HN.out⟩
        | 3, ho, hi, hd =>
          simp only [List.getElem?_cons_succ, List.getElem?_cons_zero, Option.some.injEq] at ho
          subst ho
          have g15 : a.tmps[15]? = some (.pointer (some ⟨b, 12, none⟩)) := hh.did 2 _ 15 rfl rfl (hd { on := 2, ground := .data } (by simp) rfl)
          have HN : Hid (DrJ w1 w6 w7 w8 (done d 3) u) := hj.plain 3 (by decide) (by decide) (by decide) (by decide)
          clear hj hi hh hd
          refine wpOp_step rfl (fun K hK => ?_)
          go_simp
          exact hK _ _ ⟨by simp [Act.put], HN.out⟩
        | 4, ho, hi, hd =>
          simp only [List.getElem?_cons_succ, List.getElem?_cons_zero, Option.some.injEq] at ho
          subst ho
          have g16 : a.tmps[16]? = some (.pointer (some ⟨b, 12, none⟩)) := hh.did 3 _ 16 rfl rfl (hd { on := 3, ground := .data } (by simp) rfl)
          have HN : Hid (DrJ w1 w6 w7 w8 (done d 4) u) := hj.plain 4 (by decide) (by decide) (by decide) (by decide)
          clear hj hi hh hd
          refine wpOp_step rfl (fun K hK => ?_)
          go_simp
          exact hK _ _ ⟨by simp [Act.put], HN.out⟩
        | 5, ho, hi, hd =>
          simp only [List.getElem?_cons_succ, List.getElem?_cons_zero, Option.some.injEq] at ho
          subst ho
          have g17 : a.tmps[17]? = some (.pointer (some ⟨b, 12, none⟩)) := hh.did 4 _ 17 rfl rfl (hd { on := 4, ground := .data } (by simp) rfl)
          have HN : Hid (DrJ w1 w6 w7 w8 (done d 5) u) := hj.plain 5 (by decide) (by decide) (by decide) (by decide)
          have cc := hj.cell hi b0 b1 b6 c7
          clear hj hi hh hd
          refine wpOp_step rfl (fun K hK => ?_)
          go_simp
          exact hK _ _ ⟨by simp [Act.put], HN.out⟩
        | 6, ho, hi, hd =>
          simp only [List.getElem?_cons_succ, List.getElem?_cons_zero, Option.some.injEq] at ho
          subst ho
          have g5 : a.tmps[5]? = some (.int .i64 (i : Int)) := hh.old 5 (by kernel_rfl) rfl
          have HN : Hid (DrJ w1 w6 w7 w8 (done d 6) u) := hj.plain 6 (by decide) (by decide) (by decide) (by decide)
          clear hj hi hh hd
          refine wpOp_step rfl (fun K hK => ?_)
          go_simp
          exact hK _ _ ⟨by simp [Act.put], HN.out⟩
        | 7, ho, hi, hd =>
          simp only [List.getElem?_cons_succ, List.getElem?_cons_zero, Option.some.injEq] at ho
          subst ho
          have g18 : a.tmps[18]? = some (.slice (some ⟨g, 0, none⟩) (i + q + 1) cap) := hh.did 5 _ 18 rfl rfl (hd { on := 5, ground := .data } (by simp) rfl)
          have g19 : a.tmps[19]? = some (.int .i64 (i : Int)) := hh.did 6 _ 19 rfl rfl (hd { on := 6, ground := .data } (by simp) rfl)
          have HN : Hid (DrJ w1 w6 w7 w8 (done d 7) u) := hj.plain 7 (by decide) (by decide) (by decide) (by decide)
          clear hj hi hh hd
          refine wpOp_step rfl (fun K hK => ?_)
          go_simp
          exact hK _ _ ⟨by simp [Act.put], HN.out⟩
        | 8, ho, hi, hd =>
          simp only [List.getElem?_cons_succ, List.getElem?_cons_zero, Option.some.injEq] at ho
          subst ho
          have g14 : a.tmps[14]? = some (.slice (some ⟨w1.heap.size, 0, none⟩) 0 0) := hh.did 1 _ 14 rfl rfl (hd { on := 1, ground := .data } (by simp) rfl)
          have g20 : a.tmps[20]? = some (.slice (some ⟨g, 0, none⟩) i cap) := hh.did 7 _ 20 rfl rfl (hd { on := 7, ground := .data } (by simp) rfl)
          obtain ⟨hu, hJ⟩ := hj.eight (hd { on := 1, ground := .data } (by simp) rfl) hi
          subst hu
          refine wpOp_step rfl (fun K hK => ?_)
          refine step_append_eq rfl (.tmp 14) (.tmp 20) 54 rfl (by simp [Act.eval, g14]) (by simp [Act.eval, g20]) run6 ?_
          exact hK _ _ ⟨rfl, hJ⟩
        | 9, ho, hi, hd =>
          simp only [List.getElem?_cons_succ, List.getElem?_cons_zero, Option.some.injEq] at ho
          subst ho
          have g0 : a.tmps[0]? = some (.pointer (some ⟨b, 12, none⟩)) := hh.old 0 (by kernel_rfl) rfl
          have HN : Hid (DrJ w1 w6 w7 w8 (done d 9) u) := hj.plain 9 (by decide) (by decide) (by decide) (by decide)
          clear hj hi hh hd
          refine wpOp_step rfl (fun K hK => ?_)
          go_simp
          exact hK _ _ ⟨by simp [Act.put], HN.out⟩
        | 10, ho, hi, hd =>
          simp only [List.getElem?_cons_succ, List.getElem?_cons_zero, Option.some.injEq] at ho
          subst ho
          have g22 : a.tmps[22]? = some (.pointer (some ⟨b, 12, none⟩)) := hh.did 9 _ 22 rfl rfl (hd { on := 9, ground := .data } (by simp) rfl)
          have HN : Hid (DrJ w1 w6 w7 w8 (done d 10) u) := hj.plain 10 (by decide) (by decide) (by decide) (by decide)
          clear hj hi hh hd
          refine wpOp_step rfl (fun K hK => ?_)
          go_simp
          exact hK _ _ ⟨by simp [Act.put], HN.out⟩
        | 11, ho, hi, hd =>
          simp only [List.getElem?_cons_succ, List.getElem?_cons_zero, Option.some.injEq] at ho
          subst ho
          have g23 : a.tmps[23]? = some (.pointer (some ⟨b, 12, none⟩)) := hh.did 10 _ 23 rfl rfl (hd { on := 10, ground := .data } (by simp) rfl)
          have HN : Hid (DrJ w1 w6 w7 w8 (done d 11) u) := hj.plain 11 (by decide) (by decide) (by decide) (by decide)
          clear hj hi hh hd
          refine wpOp_step rfl (fun K hK => ?_)
          go_simp
          exact hK _ _ ⟨by simp [Act.put], HN.out⟩
        | 12, ho, hi, hd =>
          simp only [List.getElem?_cons_succ, List.getElem?_cons_zero, Option.some.injEq] at ho
          subst ho
          have g24 : a.tmps[24]? = some (.pointer (some ⟨b, 12, none⟩)) := hh.did 11 _ 24 rfl rfl (hd { on := 11, ground := .data } (by simp) rfl)
          have HN : Hid (DrJ w1 w6 w7 w8 (done d 12) u) := hj.plain 12 (by decide) (by decide) (by decide) (by decide)
          have cc := hj.cell2 hi b0 b1 b6 c7
          clear hj hi hh hd
          refine wpOp_step rfl (fun K hK => ?_)
          go_simp
          exact hK _ _ ⟨by simp [Act.put], HN.out⟩
        | 13, ho, hi, hd =>
          simp only [List.getElem?_cons_succ, List.getElem?_cons_zero, Option.some.injEq] at ho
          subst ho
          have g5 : a.tmps[5]? = some (.int .i64 (i : Int)) := hh.old 5 (by kernel_rfl) rfl
          have HN : Hid (DrJ w1 w6 w7 w8 (done d 13) u) := hj.plain 13 (by decide) (by decide) (by decide) (by decide)
          clear hj hi hh hd
          refine wpOp_step rfl (fun K hK => ?_)
          go_simp
          exact hK _ _ ⟨by simp [Act.put], HN.out⟩
        | 14, ho, hi, hd =>
          simp only [List.getElem?_cons_succ, List.getElem?_cons_zero, Option.some.injEq] at ho
          subst ho
          have g26 : a.tmps[26]? = some (.int .i64 (i : Int)) := hh.did 13 _ 26 rfl rfl (hd { on := 13, ground := .data } (by simp) rfl)
          have HN : Hid (DrJ w1 w6 w7 w8 (done d 14) u) := hj.plain 14 (by decide) (by decide) (by decide) (by decide)
          clear hj hi hh hd
          refine wpOp_step rfl (fun K hK => ?_)
          go_simp
          exact hK _ _ ⟨by simp [Act.put], HN.out⟩
        | 15, ho, hi, hd =>
          simp only [List.getElem?_cons_succ, List.getElem?_cons_zero, Option.some.injEq] at ho
          subst ho
          have g25 : a.tmps[25]? = some (.slice (some ⟨g, 0, none⟩) (i + q + 1) cap) := hh.did 12 _ 25 rfl rfl (hd { on := 12, ground := .data } (by simp) rfl)
          have g27 : a.tmps[27]? = some (.int .i64 ((i : Int) + 1)) := hh.did 14 _ 27 rfl rfl (hd { on := 14, ground := .data } (by simp) rfl)
          have HN : Hid (DrJ w1 w6 w7 w8 (done d 15) u) := hj.plain 15 (by decide) (by decide) (by decide) (by decide)
          clear hj hi hh hd
          refine wpOp_step rfl (fun K hK => ?_)
          go_simp
          exact hK _ _ ⟨by simp [Act.put], HN.out⟩
        | 16, ho, hi, hd =>
          simp only [List.getElem?_cons_succ, List.getElem?_cons_zero, Option.some.injEq] at ho
          subst ho
          have g21 : a.tmps[21]? = some (.slice y6 i d6) := hh.did 8 _ 21 rfl rfl (hd { on := 8, ground := .data } (by simp) rfl)
          have g28 : a.tmps[28]? = some (.slice yr q dr) := hh.did 15 _ 28 rfl rfl (hd { on := 15, ground := .data } (by simp) rfl)
          obtain ⟨hu, hJ⟩ := hj.sixteen (hd { on := 8, ground := .data } (by simp) rfl) hi
          subst hu
          refine wpOp_step rfl (fun K hK => ?_)
          refine step_append_eq rfl (.tmp 21) (.tmp 28) 54 rfl (by simp [Act.eval, g21]) (by simp [Act.eval, g28]) run7 ?_
          exact hK _ _ ⟨rfl, hJ⟩
        | 17, ho, hi, hd =>
          simp only [List.getElem?_cons_succ, List.getElem?_cons_zero, Option.some.injEq] at ho
          subst ho
          have g13 : a.tmps[13]? = some (.pointer (some ⟨b, 12, none⟩)) := hh.did 0 _ 13 rfl rfl (hd { on := 0, ground := .data } (by simp) rfl)
          have HN : Hid (DrJ w1 w6 w7 w8 (done d 17) u) := hj.plain 17 (by decide) (by decide) (by decide) (by decide)
          clear hj hi hh hd
          refine wpOp_step rfl (fun K hK => ?_)
          go_simp
          exact hK _ _ ⟨by simp [Act.put], HN.out⟩
        | 18, ho, hi, hd =>
          simp only [List.getElem?_cons_succ, List.getElem?_cons_zero, Option.some.injEq] at ho
          subst ho
          have g30 : a.tmps[30]? = some (.pointer (some ⟨b, 12, none⟩)) := hh.did 17 _ 30 rfl rfl (hd { on := 17, ground := .data } (by simp) rfl)
          have HN : Hid (DrJ w1 w6 w7 w8 (done d 18) u) := hj.plain 18 (by decide) (by decide) (by decide) (by decide)
          clear hj hi hh hd
          refine wpOp_step rfl (fun K hK => ?_)
          go_simp
          exact hK _ _ ⟨by simp [Act.put], HN.out⟩
        | 19, ho, hi, hd =>
          simp only [List.getElem?_cons_succ, List.getElem?_cons_zero, Option.some.injEq] at ho
          subst ho
          have g31 : a.tmps[31]? = some (.pointer (some ⟨b, 12, none⟩)) := hh.did 18 _ 31 rfl rfl (hd { on := 18, ground := .data } (by simp) rfl)
          have g29 : a.tmps[29]? = some (.slice y7 (i + q) d7) := hh.did 16 _ 29 rfl rfl (hd { on := 16, ground := .data } (by simp) rfl)
          obtain ⟨hu, hJ⟩ := hj.last (hd { on := 16, ground := .data } (by simp) rfl) hi (hd { on := 5, ground := .phase } (by simp) rfl) (hd { on := 12, ground := .phase } (by simp) rfl)
          subst hu
          have HN : Hid _ := hJ
          clear hj hi hh hd hJ
          refine wpOp_step rfl (fun K hK => ?_)
          go_simp
          rw [← HW8.out]
          exact hK _ _ ⟨by simp [Act.put], HN.out⟩
        | k + 20, ho, _, _ => simp at ho
      · intro u d hall hj
        have hu := hj.fin (hall 19 (by decide))
        subst hu
        clear hall hj
        simp only [List.getD_cons_succ, List.getD_cons_zero]
        go_wp2
        go_meet
        case rel => exact ⟨rfl, rfl⟩
  case rest =>
    obtain ⟨rfl, rfl⟩ := hcut
    clear run6 run7 b0 b1 b6 c7 f7 hyr hdr q0 q1 q2 q3 q4 e0 e1 HW8
    obtain ⟨yn, dn, en⟩ := HNV.out.1.form
    subst en
    have hnl := HNV.out.2
    go_wp2
    go_loopg [6, 7] N.length (fun m vn ik wr => ∃ k : Nat, ik = .int .i64 k ∧ k ≤ N.length ∧ m = N.length - k ∧ ∃ (ym : Option Addr) (qm dm : Nat), vn = .slice ym qm dm ∧ qm ≤ k ∧ Hid (Kept w8 wr ∧ Lst wr w8.heap.size (.slice ym qm dm) ((N.take k).filter fun x => x != t) ∧ ((N.take k).filter fun x => x != t).length = qm))
    case atStart => exact ⟨0, rfl, by omega, by omega, _, _, _, rfl, by omega, Kept.refl _, Lst.nil _ _, rfl⟩
    case round =>
      obtain ⟨k, rfl, hk, hm, ym, qm, dm, rfl, hqm, hw⟩ := hrel
      have HM : Hid _ := hm
      clear hm
      have c1 := (H8.out.1.kept hw.out.1).c1
      by_cases hlt : k < N.length
      · obtain ⟨gn, on, ey, hgn, cc⟩ := (H8.out.1.kept hw.out.1).ln.rdi (by omega)
        subst ey
        have c2 := cc k hlt
        have HC : Hid _ := filt_more (t := t) hlt
        have x1 : (k : Int) < (N.length : Int) := by omega
        clear cc
        generalize N[k] = nk at *
        by_cases hs : (nk != t) = true
        · have HCt : Hid ((N.take (k + 1)).filter (fun x => x != t) = (N.take k).filter (fun x => x != t) ++ [nk]) := by have := HC.out; rwa [if_pos hs] at this
          obtain ⟨T, hT⟩ : ∃ T, T = (N.take k).filter (fun x => x != t) := ⟨_, rfl⟩
          rw [← hT] at hw HCt
          clear hT HC
          have L5 : Hid (Lst (wr.alloc (.cells #[.int .i64 nk] 3)) w8.heap.size (.slice ym qm dm) T) := hw.out.2.1.alloc _ _
          have R5 : Hid (Rdi (wr.alloc (.cells #[.int .i64 nk] 3)) (some ⟨wr.heap.size, 0, none⟩) [nk]) := rdi_lit wr [nk]
          have z1 : w8.heap.size ≤ (wr.alloc (.cells #[.int .i64 nk] 3)).heap.size := ((hw.out.1).alloc _ _).size
          have z2 : T.length + ([nk] : List Int).length ≤ 1000000 := by rw [hw.out.2.2]; simp; omega
          have HZ2 : Hid _ := z2
          clear z2
          go_wp2_with (at_builtin; refine wpList_append_lst (T := T) (N := [nk]) rfl _ _ rfl rfl L5.out z1 rfl rfl R5.out HZ2.out ?_)
          intro v9 w9 l9 m9 f9
          have H9 : Hid (Kept w8 w9 ∧ Lst w9 w8.heap.size v9 ((N.take (k + 1)).filter fun x => x != t) ∧ ((N.take (k + 1)).filter fun x => x != t).length = qm + 1) := ⟨((hw.out.1).alloc _ _).muts m9 (fun j hj => (L5.out.lt j (by simpa using hj)).1), by rw [HCt.out]; exact l9, by rw [HCt.out, List.length_append, hw.out.2.2]; rfl⟩
          obtain ⟨y9, d9, e9⟩ := H9.out.2.1.form
          rw [H9.out.2.2] at e9
          subst e9
          clear l9 m9 f9 L5 R5 z1 HZ2 hw c1 c2
          go_wp2
          go_roundg (gk - 1)
          all_goals (have := HM.out; try omega)
          exact ⟨k + 1, by go_num, by omega, by omega, _, _, _, rfl, by omega, H9.out⟩
        · have hs' : (nk != t) = false := by simpa using hs
          have HCt : Hid ((N.take (k + 1)).filter (fun x => x != t) = (N.take k).filter (fun x => x != t)) := by have := HC.out; rwa [if_neg hs, List.append_nil] at this
          clear hs HC
          go_wp2
          go_roundg (gk - 1)
          all_goals (have := HM.out; try omega)
          exact ⟨k + 1, by go_num, by omega, by omega, _, _, _, rfl, by omega, by rw [HCt.out]; exact hw.out⟩
      · obtain rfl : k = N.length := by omega
        rw [List.take_length] at hw
        have cf := (H8.out.1.kept hw.out.1).fz
        have h8b : b < w8.heap.size := H8.out.1.ltb
        have hv8 : ∀ q, (Value.slice ym qm dm).ownBlock = some q → w8.heap.size ≤ q := fun q hq => (hw.out.2.1.lt q hq).1
        have HR : Hid (RlT rq (wr.setCell ⟨b, 13, none⟩ (.slice ym qm dm)) base b (.slice y7 (i + q) d7) (.slice ym qm dm) (E.eraseIdx i) (N.filter fun x => x != t) ∧ Mut (b :: vg.ownBlock.toList) w1 (wr.setCell ⟨b, 13, none⟩ (.slice ym qm dm)) ∧ ∀ k, k ∈ footR b (.slice y7 (i + q) d7) (.slice ym qm dm) (E.eraseIdx i) → k ∈ footR b vg (.slice yn N.length dn) E ∨ w1.heap.size ≤ k) := by
          have T9 := H8.out.1.kept hw.out.1
          have m8 := H8.out.2.1.size
          refine ⟨T9.note (hw.out.2.1.low (Nat.le_trans HB.out m8)) (fun q => by have := hv8 b q; omega) (fun q hq hd => ?_), (H8.out.2.1.trans hw.out.1.mut).setCell (by simp) _, fun j hj => ?_⟩
          · have h1 := (H8.out.1.lt q (mem_footR.2 (.inr (mem_foot.2 (.inr (.inl hq)))))).2
            have h2 := hv8 q hd
            omega
          · rcases mem_footR.1 hj with g2 | g2
            · have := hv8 j g2
              exact .inr (by omega)
            · rcases H8.out.2.2.2 j g2 with g3 | g3
              · exact .inl (mem_footR.2 (.inr g3))
              · exact .inr g3
        clear hw
        go_wp2
        go_ret
        exact ⟨rfl, _, _, HR.out⟩
end Go.Proofs.YtahpnnjemjjfhaaGreat

