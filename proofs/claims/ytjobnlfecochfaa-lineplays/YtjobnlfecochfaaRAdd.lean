/-
  The document's line: Add.
-/
import Derived.Test.YtjobnlfecochfaaRLine
import Derived.Deep.CutBlock
namespace Go.Proofs.Ytjobnlfecochfaa
open Go.RowKit

theorem info_req : (Try.prog.info? 35).map (fun i => (i.zero, i.size, i.bytes)) = some (some (.agg #[.int .i64 0, .int .i64 0, .int .i64 0, .int .i64 0, .int .i64 0, .int .i64 0, .slice none 0 0]), 7, 72) := by kernel_rfl
theorem rdr_one7 (w : World) (e : Ent) : Rdr Ent.c7 (w.alloc (.cells e.c7.toArray 35)) (some ⟨w.heap.size, 0, none⟩) [e] := fun _ => ⟨_, rfl, fun j u hu => by
  rw [show (⟨w.heap.size, 0, none⟩ : Addr).add j = ⟨w.heap.size, j, none⟩ by unfold Addr.add; split <;> simp_all]
  simpa using hu⟩

set_option maxHeartbeats 1000000 in
theorem radd_no {base b : Nat} {v nv : Value} {E : List Ent} {N : List Int} {t f s s3 s4 s5 : Int} {x : Option Addr} {l c : Nat} (w : World) (h : RTab w base b v nv E N) (ht : ∃ e ∈ E, e.th = t) :
    Calls Try.prog 11 #[.pointer (some ⟨b, 0, none⟩), .agg #[.int .i64 t, .int .i64 f, .int .i64 s, .int .i64 s3, .int .i64 s4, .int .i64 s5, .slice x l c]] w fun r w' => r = .returned (.bool false) ∧ Kept w w' := by
  have HT : Hid (RTab w base b v nv E N) := h
  have HI : Hid (idx (fun e => e.th == t) E ≥ 0) := by
    rcases idx_cases (fun e => e.th == t) E with ⟨_, _, h3⟩ | ⟨i, hi, h1, _⟩
    · obtain ⟨e, he, q⟩ := ht
      have := h3 e he
      simp [q] at this
    · show idx (fun e => e.th == t) E ≥ 0
      omega
  clear h ht
  go_enter Try.func11, Try.ntmps11
  go_wp2_with fail
  refine (rplace_any t _ (HT.out.kept ((Kept.refl w).alloc _ _))).mono ?_
  rintro r w1 ⟨rfl, rfl⟩
  have hi := HI.out
  generalize idx (fun e => e.th == t) E = i at *
  go_wp2
  go_ret
  exact ⟨rfl, (Kept.refl w).alloc _ _⟩

set_option maxHeartbeats 8000000 in
theorem radd_yes {base b : Nat} {v nv : Value} {E : List Ent} {N : List Int} {t f s s3 s4 s5 : Int} {x : Option Addr} {l c : Nat} (w : World) (h : RTab w base b v nv E N) (hf : E.length < 100000) (ht : ∀ e ∈ E, e.th ≠ t) :
    Calls Try.prog 11 #[.pointer (some ⟨b, 0, none⟩), .agg #[.int .i64 t, .int .i64 f, .int .i64 s, .int .i64 s3, .int .i64 s4, .int .i64 s5, .slice x l c]] w fun r w' => r = .returned (.bool true) ∧
      ∃ v', RTab w' base b v' nv (E ++ [newEnt t f s]) N ∧ Mut (b :: v.ownBlock.toList) w w' ∧ ∀ k, k ∈ footR b v' nv (E ++ [newEnt t f s]) → k ∈ footR b v nv E ∨ w.heap.size ≤ k := by
  have HT : Hid (RTab w base b v nv E N ∧ E.length < 100000) := ⟨h, hf⟩
  have HI : Hid (idx (fun e => e.th == t) E = -1) := idx_none fun e he => by simpa using ht e he
  clear h ht hf
  go_enter Try.func11, Try.ntmps11
  go_wp2_with fail
  generalize hW0 : w.alloc _ = W2
  have k0 : Kept w W2 := by rw [← hW0]; exact (Kept.refl w).alloc _ _
  have b2 : Blk W2 w.heap.size [.int .i64 t, .int .i64 f, .int .i64 s, .int .i64 s3, .int .i64 s4, .int .i64 s5, .slice x l c] := by rw [← hW0]; exact Blk.new w _ _
  clear hW0
  refine (rplace_any t _ (HT.out.1.kept k0)).mono ?_
  rintro r w1 ⟨rfl, rfl⟩
  rw [HI.out]
  go_upto_region 3 with fail
  have H2 : Hid (RTab w1.drew base b v nv E N ∧ Kept w w1.drew) := ⟨HT.out.1.kept k0.drew, k0.drew⟩
  obtain ⟨x0, e0, rfl⟩ := H2.out.1.ens.row.form
  have c0 : ∀ A u, (w1.alloc (.cells A u)).cell? ⟨b, 0, none⟩ = some (.slice x0 E.length e0) := fun A u => (H2.out.1.kept ((Kept.refl _).alloc A u)).c0
  have c1 : w1.cell? ⟨b, 0, none⟩ = some (.slice x0 E.length e0) := H2.out.1.c0
  obtain ⟨v', w', hrun, hrw, hmt, hfr⟩ := run_append_rw (P := Try.prog) (ts := 27) (ty := 27) (c := Ent.c7) (T := [newEnt t f s]) (d := 1) Try.underlying27 info_req rfl (by omega) (by omega) c7len c7_one (H2.out.1.ens.row.kept ((Kept.refl w1.drew).alloc (newEnt t f s).c7.toArray 35)) (by have h1 := H2.out.1.lo; have h2 : b < w1.heap.size := H2.out.1.ltb; simp; omega) (rdr_one7 _ _) (by have := HT.out.2; simp; omega)
  have hml : ([newEnt t f s] : List Ent).length = 1 := rfl
  rw [hml] at hrun
  have hrun : (Builtin.append_ #[27, 27] 27 #[.slice x0 E.length e0, .slice (some ⟨w1.heap.size, 0, none⟩) 1 1]).run Try.prog (w1.alloc (.cells #[.int .i64 t, .int .i64 f, .int .i64 s, .int .i64 0, .int .i64 0, .int .i64 (-1), .slice none 0 0] 35)).drew = .ok v' w' := hrun
  have hbm : b < w1.heap.size := H2.out.1.ltb
  have O2 : Own w' b 30 [.slice x0 E.length e0, nv] := (H2.out.1.kept ((Kept.refl w1.drew).alloc (newEnt t f s).c7.toArray 35)).head.muts hmt (by simpa using H2.out.1.ens.nb)
  have LN : Lst w' base nv N := (H2.out.1.kept ((Kept.refl w1.drew).alloc (newEnt t f s).c7.toArray 35)).ln.muts hmt (fun k hk hd => H2.out.1.n2 k (by simpa using hd) hk)
  have c2 := O2.blk.at 0 rfl
  have f2 := O2.blk.fz
  have m0 := b2.at 0 rfl
  have m1 := b2.at 1 rfl
  have m2 := b2.at 2 rfl
  have HR : Hid (RTab (w'.setCell ⟨b, 0, none⟩ v') base b v' nv (E ++ [newEnt t f s]) N ∧ Mut (b :: (Value.slice x0 E.length e0).ownBlock.toList) w (w'.setCell ⟨b, 0, none⟩ v') ∧ ∀ k, k ∈ footR b v' nv (E ++ [newEnt t f s]) → k ∈ footR b (.slice x0 E.length e0) nv E ∨ w.heap.size ≤ k) := by
    have K3 := (Kept.refl w1.drew).alloc (newEnt t f s).c7.toArray 35
    have EN := (H2.out.1.ens.kept K3).turn hrw hmt (fun k hk => .inl (by simpa using hk)) hfr (fun e he => by
      rcases List.mem_append.1 he with he | he
      · exact .inl he
      · simp at he
        subst he
        exact .inr ⟨rfl, rfl⟩) (by simp; omega)
    refine ⟨H2.out.1.turn O2 EN LN (fun k hk q => ?_) (by have := HT.out.2; simp; omega), ?_, fun k hk => ?_⟩
    · rcases hfr k hk with g | g
      · exact H2.out.1.n2 k g q
      · have h1 := (H2.out.1.ln.lt k q).2
        have h2 : w1.drew.heap.size ≤ k := Nat.le_trans K3.size g
        omega
    · exact (((H2.out.2.trans K3).mut).trans (hmt.wide fun k hk => by simp at hk ⊢; exact .inr hk)).setCell (by simp) _
    · rcases mem_footR.1 hk with hk | hk
      · exact .inl (mem_footR.2 (.inl hk))
      rcases mem_foot.1 hk with rfl | hk | ⟨e, he, hk⟩
      · exact .inl (mem_footR.2 (.inr (mem_foot.2 (.inl rfl))))
      · rcases hfr k hk with q | q
        · exact .inl (mem_footR.2 (.inr (mem_foot.2 (.inr (.inl q)))))
        · have h1 := (H2.out.2.trans K3).size
          exact .inr (by omega)
      · rcases List.mem_append.1 he with he | he
        · exact .inl (mem_footR.2 (.inr (mem_foot.2 (.inr (.inr ⟨e, he, hk⟩)))))
        · simp at he
          subst he
          simp [newEnt, Ent.blk] at hk
  obtain ⟨x1, e1, ev⟩ := hrw.form
  rw [List.length_append, hml] at ev
  subst ev
  clear hrw hmt hfr O2 b2 LN
  go_region_law (refine step_append_eq rfl (.tmp 14) (.tmp 22) 27 rfl (by first | rfl | (simp [Act.eval]; done) | simp [Act.eval, Act.put]) (by first | rfl | (simp [Act.eval]; done) | simp [Act.eval, Act.put]) hrun ?_)
  all_goals go_wp2
  all_goals go_ret
  all_goals exact ⟨rfl, _, HR.out⟩
end Go.Proofs.Ytjobnlfecochfaa
