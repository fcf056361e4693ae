/-
  Package graph: Reach.
-/
import Derived.Test.YtbmcbkebcchjmaaGreatDoorRec20
import Derived.Test.YtbmcbkebcchjmaaGreatDoorDfs20
namespace Go.Proofs.YtbmcbkebcchjmaaGreatDoor
open Go.RowKit Go.Maps Go.Sort
attribute [local go_sem] run_store_complex

def NI (N : List Nat) : List Int := N.map fun (i : Nat) => (i : Int)
theorem NI_len (N : List Nat) : (NI N).length = N.length := by simp [NI]
theorem NI_app (N M : List Nat) : NI (N ++ M) = NI N ++ NI M := by simp [NI]
theorem Lst.init20 {w : World} {base : Nat} {T : List Int} {x : Option Addr} {l c : Nat} {i : Int} (h : Lst w base (.slice x l c) (T ++ [i])) : ∃ g, x = some ⟨g, 0, none⟩ ∧ l = T.length + 1 ∧ l ≤ c ∧ Lst w base (.slice (some ⟨g, 0, none⟩) T.length c) T ∧ w.cell? ⟨g, T.length, none⟩ = some (.int .i64 i) := by
  obtain ⟨x', c', e⟩ := h.form
  obtain ⟨_, e2, _⟩ := Value.slice.inj e
  rw [List.length_append, List.length_singleton] at e2
  subst e2
  rcases h.2 with ⟨e, h0⟩ | ⟨g, cap, cur, e, hb, hg, _⟩
  · simp at h0
  · obtain ⟨e1, _, e3⟩ := Value.slice.inj e
    subst e1 e3
    obtain ⟨h1, h2, h3, f, hr, hf⟩ := h.row
    simp only [List.length_append, List.length_singleton] at h1
    refine ⟨g, rfl, rfl, h1, lst_of_row hr (fun j hj => ?_) (by omega) h2 h3, ?_⟩
    · rw [hf j (by simp; omega), List.getElem_append_left hj]
    · rw [hr.cell (by omega), hf T.length (by simp)]
      simp

/-- What is stored, and where it leads to. -/
def Leads (E : List Th) (sc : Nat → Option Nat) : Prop := ∀ i (hi : i < E.length), (E[i].p.st = none ∧ sc i = none) ∨ ∃ k v, E[i].p.st = some (k, v) ∧ Kd v (sc i)

section
variable {C : Cf} {base p : Nat} {F : List Nat} {A : Ga}
theorem refersTo_any {w : World} (h : GrA C w base p F A) {sc : Nat → Option Nat} (hs : Leads A.E sc) {i : Nat} (hi : i < A.E.length) {g cap : Nat} (hg : A.tv = .slice (some ⟨g, 0, none⟩) A.E.length cap) :
    Calls Tryz.prog 31 #[.pointer (some ⟨g, i * 3, none⟩)] w fun e w' => ∃ u, e = .returned u ∧ Lst w' w.heap.size u (NI (sc i).toList) ∧ Kept w w' := by
  have t2 := h.thing hg hi (j := 2) (u := .map A.E[i].b) rfl
  rcases h.ths A.E[i] (List.getElem_mem hi) with ⟨e1, e2⟩ | ⟨b, k, v, e1, e2, e3, e4⟩
  · rcases hs i hi with ⟨_, e5⟩ | ⟨k, v, e5, _⟩
    · rw [e1] at t2
      rw [e5]
      exact refersTo_none t2
    · rw [e2] at e5; cases e5
  · rcases hs i hi with ⟨e5, _⟩ | ⟨k', v', e5, e6⟩
    · rw [e2] at e5; cases e5
    · rw [e2] at e5
      simp only [Option.some.injEq, Prod.mk.injEq] at e5
      obtain ⟨rfl, rfl⟩ := e5
      rw [e1] at t2
      have := refersTo_some (h.thlt hg) t2 e3 e4 (sc i) e6
      have e : idl (fun _ => sc i) 1 = NI (sc i).toList := by
        cases hq : sc i <;> simp [idl, NI, List.range_succ]
      rwa [e] at this

set_option maxHeartbeats 8000000 in
set_option maxRecDepth 10000 in
theorem reach_any {w : World} (h : GrA C w base p F A) (rs : List Nat) (sc : Nat → Option Nat) (hrs : ∀ r ∈ rs, r < A.E.length) (hrl : rs.length ≤ 2000) (hs : Leads A.E sc) (hsb : ∀ i j, sc i = some j → j < A.E.length)
    (hR : ∀ W, Kept w W → Calls Tryz.prog 30 #[.pointer (some ⟨p, 0, none⟩)] W fun e w' => ∃ v, e = .returned v ∧ Lst w' W.heap.size v (NI rs) ∧ Kept W w') :
    Calls Tryz.prog 14 #[.pointer (some ⟨p, 0, none⟩)] w fun e w' => ∃ v ids, e = .returned v ∧ Lst w' w.heap.size v (NI ids) ∧ ids.Nodup ∧ (∀ x, x ∈ ids ↔ Rch rs sc x) ∧ Kept w w' := by
  have HG : Hid (GrA C w base p F A) := h
  have HR : Hid (∀ W, Kept w W → Calls Tryz.prog 30 #[.pointer (some ⟨p, 0, none⟩)] W fun e w' => ∃ v, e = .returned v ∧ Lst w' W.heap.size v (NI rs) ∧ Kept W w') := hR
  have HS : Hid (Leads A.E sc) := hs
  have HB : Hid (∀ i j, sc i = some j → j < A.E.length) := hsb
  have HD : Hid (Dfs A.E.length rs sc [] rs) := Dfs.start hrs
  have HF : Hid (A.E.length ≤ 1000) := h.few
  clear h hR hs hsb hrs
  have hmm := @run_makeMap Tryz.prog
  go_enter Tryz.func14, Tryz.ntmps14
  go_wp2_with fail
  generalize hW1 : w.alloc _ = W1
  have HW1 : Hid (St W1 w.heap.size [] ∧ Kept w W1 ∧ W1.heap.size = w.heap.size + 1) := by
    rw [← hW1]
    exact ⟨St.new w, ⟨(Below.refl _ _).alloc (Nat.le_refl _) _⟩, by simp⟩
  clear hW1
  refine (HR.out _ HW1.out.2.1).mono ?_
  rintro e w2 ⟨v, rfl, hl, hk⟩
  obtain ⟨y, d, rfl⟩ := hl.form
  have H2 : Hid (Lst w2 (w.heap.size + 1) (.slice y (NI rs).length d) (NI rs) ∧ St w2 w.heap.size [] ∧ Kept w w2) := ⟨HW1.out.2.2 ▸ hl, HW1.out.1.muts (E := []) hk.mut (by simp), HW1.out.2.1.trans hk⟩
  clear hl hk hmm
  have e2 := NI_len rs
  rw [e2] at H2 ⊢
  clear e2
  go_wp2_with fail
  go_loopg [4] (2 * A.E.length + rs.length) (fun m v wr => ∃ (K N : List Nat) (y : Option Addr) (d : Nat), v = .slice y N.length d ∧ m = 2 * (A.E.length - K.length) + N.length ∧ Hid (Dfs A.E.length rs sc K N ∧ Lst wr (w.heap.size + 1) (.slice y N.length d) (NI N) ∧ St wr w.heap.size K ∧ Kept w wr ∧ N.length ≤ 3000 + K.length))
  case atStart => exact ⟨[], rs, y, d, rfl, by simp, HD.out, H2.out.1, H2.out.2.1, H2.out.2.2, by omega⟩
  case round =>
    obtain ⟨K, N, y1, d1, rfl, hm, hh⟩ := hrel
    have HM : Hid _ := hm
    clear hm H2 HW1 HD
    rcases List.eq_nil_or_concat N with rfl | ⟨N', x, rfl⟩
    · have hK := keysR_any (some w.heap.size) wr
      have hS := sortedR_any w.heap.size _ _ _ wr hh.out.2.2.1 (by
        have h1 := World.ownsMap.size_le hh.out.2.2.1
        have h2 := hh.out.1.len
        have := HF.out
        omega)
      go_wp2_with fail
      refine hK.mono ?_
      rintro e w5 ⟨rfl, rfl⟩
      go_wp2_with fail
      refine hS.mono ?_
      rintro e w6 ⟨v, ss, rfl, hp, hl, hk⟩
      obtain ⟨ids, hi1, hi2⟩ := St.keys hh.out.2.2.1 hh.out.1.nd hp
      have HFin : Hid (Lst w6 w.heap.size v (NI ids) ∧ ids.Nodup ∧ (∀ x, x ∈ ids ↔ Rch rs sc x) ∧ Kept w w6) := by
        have e : ss.mergeSort leI = NI ids := hi2
        rw [e] at hl
        refine ⟨hl.low ?_, hi1.nodup_iff.2 hh.out.1.nd, fun x => (hi1.mem_iff).trans (hh.out.1.fin x), (hh.out.2.2.2.1.alloc _ _).trans hk⟩
        have := hh.out.2.2.2.1.size
        omega
      obtain ⟨y6, d6, rfl⟩ := HFin.out.1.form
      clear hp hl hk hi1 hi2 hK hS
      go_wp2
      go_ret
      exact ⟨_, ids, rfl, HFin.out⟩
    · rw [List.concat_eq_append] at hh HM ⊢
      have hLn : (N' ++ [x]).length = N'.length + 1 := by simp
      rw [hLn] at hh HM ⊢
      have hl := hh.out.2.1
      rw [NI_app] at hl
      obtain ⟨g, rfl, el, hcap, hl2, hcx⟩ := Lst.init20 (i := (x : Int)) hl
      clear el
      rw [NI_len] at hl2 hcx
      have hxn : x < A.E.length := hh.out.1.nn x (by simp)
      have hE := HF.out
      have hx6 : x ≤ 1000000 := by omega
      have hN4 : N'.length ≤ 5000 := by
        have h7 : N'.length + 1 ≤ 3000 + K.length := hh.out.2.2.2.2
        have h8 := hh.out.1.len
        omega
      have HL2 : Hid (Lst wr (w.heap.size + 1) (.slice (some ⟨g, 0, none⟩) N'.length d1) (NI N')) := hl2
      have HST : Hid (St (wr.alloc (.cells #[] 70)) w.heap.size K) := hh.out.2.2.1.muts (E := []) ((Kept.refl wr).alloc _ _).mut (by simp)
      have HKD : Hid (Kept w (wr.alloc (.cells #[] 70))) := hh.out.2.2.2.1.alloc _ _
      have hlk := hh.out.2.2.1.look (i := x) hx6 Tryz.underlying69 (zeroU wr)
      by_cases hxK : x ∈ K
      · rw [decide_eq_true hxK] at hlk
        have HDf : Hid (Dfs A.E.length rs sc K N') := hh.out.1.old hxK
        have HN3 : Hid (N'.length ≤ 3000 + K.length) := by have h9 : N'.length + 1 ≤ 3000 + K.length := hh.out.2.2.2.2; show N'.length ≤ _; omega
        clear hl hl2
        go_wp2
        go_roundg (2 * (A.E.length - K.length) + N'.length)
        case rel => exact ⟨K, N', some ⟨g, 0, none⟩, d1, rfl, rfl, HDf.out, HL2.out.alloc _ _, HST.out, HKD.out, HN3.out⟩
        case measure => have h9 : gk = 2 * (A.E.length - K.length) + (N'.length + 1) := HM.out; omega
      · rw [decide_eq_false hxK] at hlk
        have HDf : Hid (Dfs A.E.length rs sc (K ++ [x]) (N' ++ (sc x).toList)) := hh.out.1.new hxK (fun j e => HB.out x j e)
        have hKl : K.length + 1 ≤ A.E.length := by have := HDf.out.len; simpa using this
        obtain ⟨wm, hru, hst, hmu⟩ := HST.out.add hx6 (by omega) Tryz.underlying69
        obtain ⟨gT, capT, hgT, hgl, _⟩ := HG.out.here hxn
        have KM : Hid (Kept w wm) := HKD.out.muts hmu (fun k hk => by
          have e : k = w.heap.size := by simpa using hk
          omega)
        have HLm : Hid (Lst wm (w.heap.size + 1) (.slice (some ⟨g, 0, none⟩) N'.length d1) (NI N')) := (HL2.out.alloc _ _).muts hmu (fun k hk => by have := (HL2.out.lt k hk).1; simp; omega)
        have HSm : Hid (St wm w.heap.size (K ++ [x])) := hst
        have c9 := (HG.out.kept KM.out).at 9 (v := A.tv) rfl
        rw [hgT] at c9
        have HRf : Hid (Calls Tryz.prog 31 #[.pointer (some ⟨gT, x * 3, none⟩)] wm fun e w' => ∃ u, e = .returned u ∧ Lst w' wm.heap.size u (NI (sc x).toList) ∧ Kept wm w') := refersTo_any (HG.out.kept KM.out) HS.out hxn hgT
        have HN3 : Hid (N'.length + (sc x).toList.length ≤ 3000 + (K.length + 1) ∧ N'.length ≤ 4000 ∧ (sc x).toList.length ≤ 1) := by
          have h9 : N'.length + 1 ≤ 3000 + K.length := hh.out.2.2.2.2
          have h8 : (sc x).toList.length ≤ 1 := by cases sc x <;> simp
          exact ⟨by omega, by omega, h8⟩
        have HKl : Hid (K.length + 1 ≤ A.E.length) := hKl
        clear hl hl2 hst hmu hgT hKl
        go_wp2_with fail
        refine HRf.out.mono ?_
        rintro e w5 ⟨u, rfl, hl5, hk5⟩
        obtain ⟨y5, d5, rfl⟩ := hl5.form
        have H5 : Hid (Lst w5 (w.heap.size + 1) (.slice (some ⟨g, 0, none⟩) N'.length d1) (NI N') ∧ St w5 w.heap.size (K ++ [x]) ∧ Kept w w5) := ⟨HLm.out.kept hk5, HSm.out.muts (E := []) hk5.mut (by simp), KM.out.trans hk5⟩
        have HT : Hid (Rdi w5 y5 (NI (sc x).toList)) := hl5.rdi
        have z0 := HN3.out
        have z1 : w.heap.size + 1 ≤ w5.heap.size := by
          have h1 := HSm.out.lt
          have h2 := hk5.size
          omega
        have z2 : (NI N').length + (NI (sc x).toList).length ≤ 1000000 := by rw [NI_len, NI_len]; omega
        have z3 : (NI (sc x).toList).length = (sc x).toList.length := NI_len _
        rw [z3]
        clear hl5 hk5 HRf c9 hlk hru
        go_wp2_with (at_builtin; refine wpList_append_lst (T := NI N') (N := NI (sc x).toList) rfl _ _ rfl rfl H5.out.1 z1 rfl z3 HT.out z2 ?_)
        intro v6 w6 l6 m6 f6
        rw [← NI_app] at l6
        obtain ⟨y6, d6, e6⟩ := l6.form
        subst e6
        have el6 : (NI (N' ++ (sc x).toList)).length = (N' ++ (sc x).toList).length := NI_len _
        rw [el6] at l6 ⊢
        have H6 : Hid (Lst w6 (w.heap.size + 1) (.slice y6 (N' ++ (sc x).toList).length d6) (NI (N' ++ (sc x).toList)) ∧ St w6 w.heap.size (K ++ [x]) ∧ Kept w w6) :=
          ⟨l6, H5.out.2.1.muts m6 (fun q => by have := (H5.out.1.lt w.heap.size (by simpa using q)).1; omega), H5.out.2.2.muts m6 (fun k hk => by have := (H5.out.1.lt k (by simpa using hk)).1; omega)⟩
        clear l6 m6 f6 el6 z0 z1 z2 z3
        go_wp2
        go_roundg (2 * (A.E.length - (K ++ [x]).length) + (N' ++ (sc x).toList).length)
        case rel =>
          refine ⟨K ++ [x], N' ++ (sc x).toList, y6, d6, rfl, rfl, HDf.out, H6.out.1, H6.out.2.1, H6.out.2.2, ?_⟩
          have := HN3.out.1
          simp only [List.length_append, List.length_singleton]
          exact this
        case measure =>
          have h9 : gk = 2 * (A.E.length - K.length) + (N'.length + 1) := HM.out
          have h8 := HN3.out.2.2
          have h7 := HKl.out
          simp only [List.length_append, List.length_singleton]
          omega
end
end Go.Proofs.YtbmcbkebcchjmaaGreatDoor
