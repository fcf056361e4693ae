/-
  ShadeOnce: the walk.
-/
import Derived.Test.YtfglmnjhnjkiiaaFirst15
import Derived.Test.YtfglmnjhnjkiiaaElems
import Derived.Test.YtfglmnjhnjkiiaaPhase
import Derived.Deep.CutBlock
namespace Go.Proofs.Ytfglmnjhnjkiiaa
open Go.RowKit Go.ChangeShapes Go.WideShapes Go.Deep

/-- A slice of truth values. -/
def Bools (w : World) (x : Option Addr) (l : Nat) (L : Nat → Bool) : Prop := Elems w x l 1 (fun i => [.bool (L i)])
theorem Bools.at {w : World} {x : Option Addr} {l : Nat} {L : Nat → Bool} (h : Bools w x l L) (hp : 0 < l) : ∃ b o, x = some ⟨b, o, none⟩ ∧ b < w.heap.size ∧ ∀ i, i < l → w.cell? ⟨b, o + i, none⟩ = some (.bool (L i)) := by
  obtain ⟨b, o, e, hb, hc⟩ := h hp
  exact ⟨b, o, e, hb, fun i hi => by simpa using hc i hi 0 _ (by omega) rfl⟩
section
variable {H : Type} {enc : TypeId × Value → H} {W : World} {sp : Nat → Bool} {held : Bool}
theorem bools_open {x : Option Addr} {l c : Nat} {d : DataW H} {p : List MemPlace} (h : DataW.Trod enc Try.prog W 0 sp held 46 (.slice x l c) d p) :
    ∃ L, Bools W x l L := by
  have ce : Try.prog.cellsOf 4 = 1 := by kernel_rfl
  obtain ⟨V, hV, hr⟩ := elems_open Try.underlying46 (by rw [ce]; omega) h
  rw [ce] at hV
  obtain ⟨L, hL, _⟩ := elems_typed (fun n : Bool => [Value.bool n]) (fun _ => True) hV fun i hi => by
    obtain ⟨n, y, hy⟩ := hr i hi
    obtain ⟨z, hz, _⟩ := DataW.trod_bool Try.underlying4 hy
    exact ⟨z, hz, trivial⟩
  exact ⟨L, hL⟩
end

set_option maxHeartbeats 2000000 in
set_option maxRecDepth 20000 in
theorem once_bad (n most : Int) (x1 : Option Addr) (l1 c1 : Nat) (x2 : Option Addr) (l2 c2 : Nat) (w : World) (hn : ¬ (0 ≤ n ∧ n ≤ 1024 ∧ 1 ≤ most ∧ most ≤ 256)) (h0 : IntKind.min .i64 ≤ n) (h1 : n ≤ IntKind.max .i64) :
    Calls Try.prog 4 #[.int .i64 n, .int .i64 most, .slice x1 l1 c1, .slice x2 l2 c2] w fun e w' => e = .returned (.bool true) ∧ Kept w w' := by
  have HN : Hid (∀ w, _) := fun w => snew_bad n most w hn h0 h1
  clear hn h0 h1
  go_enter Try.func4, Try.ntmps4
  go_wp2_with fail
  refine (first_any _).mono ?_
  rintro e w1 ⟨rfl, k1⟩
  have K1 : Hid (Kept w w1) := k1
  clear k1
  go_wp2_with fail
  refine (HN.out _).mono ?_
  rintro e w2 ⟨rfl, k2⟩
  have K2 : Hid (Kept w w2) := K1.out.trans k2
  clear k2
  go_wp2_with fail
  refine (first_any _).mono ?_
  rintro e w3 ⟨rfl, k3⟩
  have K3 : Hid (Kept w w3) := K2.out.trans k3
  clear k3
  go_wp2
  go_ret
  exact ⟨rfl, K3.out⟩

set_option maxHeartbeats 2000000 in
set_option maxRecDepth 20000 in
theorem once_out (n most : Nat) (x1 : Option Addr) (l1 c1 : Nat) (x2 : Option Addr) (l2 c2 : Nat) (w : World) (hn : n ≤ 1024) (hm1 : 1 ≤ (most : Int)) (hm2 : (most : Int) ≤ 256) (ho : 200 < (n : Int) ∨ ((n : Int) ≤ 200 ∧ (l1 : Int) < (n : Int)) ∨ ((n : Int) ≤ 200 ∧ (n : Int) ≤ (l1 : Int) ∧ 500 < (l2 : Int))) :
    Calls Try.prog 4 #[.int .i64 n, .int .i64 most, .slice x1 l1 c1, .slice x2 l2 c2] w fun e w' => e = .returned (.bool true) ∧ Kept w w' := by
  have HN : Hid (∀ u, Kept w u → _) := fun u k => ms_new (w := w) n most u k hn hm1 hm2
  rcases ho with h | ⟨h, h2⟩ | ⟨h, h2, h3⟩
  all_goals go_enter Try.func4, Try.ntmps4
  all_goals go_wp2_with fail
  all_goals (refine (first_any _).mono ?_; rintro e w1 ⟨rfl, k1⟩)
  all_goals (have K1 : Hid (Kept w w1) := k1; clear k1)
  all_goals go_wp2_with fail
  all_goals (refine (HN.out _ K1.out).mono ?_; rintro e w2 ⟨b, tb, rfl, t2⟩)
  all_goals (have K2 : Hid (Kept w w2) := t2.kept; clear t2 K1)
  all_goals go_wp2_with fail
  all_goals (refine (first_any _).mono ?_; rintro e w3 ⟨rfl, k3⟩)
  all_goals (have K3 : Hid (Kept w w3) := K2.out.trans k3; clear k3)
  all_goals go_wp2
  all_goals go_ret
  all_goals exact ⟨rfl, K3.out⟩

/-- The first n are Used; heads as HB says; coloured as m says. -/
def onT (HB m : Nat → Bool) (n k : Nat) : Fr := if k < n then ⟨2, HB k, m k⟩ else ⟨0, false, false⟩
theorem onT_at {HB m : Nat → Bool} {n k : Nat} (h : k < n) : onT HB m n k = ⟨2, HB k, m k⟩ := by simp [onT, h]
theorem onT_set {HB : Nat → Bool} {n i : Nat} (hi : i < n) : setT n (onT HB (fun _ => false) i) i 2 (HB i) false = onT HB (fun _ => false) (i + 1) := by
  funext k
  have e : (inn n (i : Int) && isSt 2) = true := by simp [inn_of hi, isSt]
  unfold setT
  rw [e, if_pos rfl]
  simp only [Int.toNat_natCast]
  unfold onT
  by_cases hk : k = i
  · subst hk
    simp
  · by_cases h2 : k < i
    · simp [hk, h2, show k < i + 1 by omega]
    · simp [hk, h2, show ¬ k < i + 1 by omega]
/-- m, at k now x. -/
def upd (m : Nat → Bool) (k : Nat) (x : Bool) (j : Nat) : Bool := if j = k then x else m j

section
variable {HB m : Nat → Bool} {n most k laid : Nat} {P : List Int} {z : Bool} {c : Nat} {i : Int}
theorem on_out (h : inn n i = false) : greyB ⟨n, most, onT HB m n, P, z, c⟩ i true = false := by simp [greyB, hdd, h]
theorem on_in (h : k < n) : greyB ⟨n, most, onT HB m n, P, z, c⟩ k true = (HB k && !m k) := by
  simp [greyB, hdd, markB, usd, inn_of h, onT_at h]
theorem on_no (h : greyB ⟨n, most, onT HB m n, P, z, c⟩ i true = false) : greyS ⟨n, most, onT HB m n, P, z, c⟩ i true = ⟨n, most, onT HB m n, P, z, c + 1⟩ := by
  unfold greyS layS
  rw [show greyB (ShS.tick ⟨n, most, onT HB m n, P, z, c⟩) i true = false from h]
  rfl
theorem on_yes (h : k < n) (hh : HB k = true) (hm : m k = false) : greyS ⟨n, most, onT HB m n, P, z, c⟩ k true = ⟨n, most, onT HB (upd m k true) n, pushT most P k, pushZ most P z, c + 1⟩ := by
  have g : greyB (ShS.tick ⟨n, most, onT HB m n, P, z, c⟩) k true = true := (on_in h).trans (by simp [hh, hm])
  unfold greyS layS
  rw [g, if_pos rfl]
  simp only [ShS.tick, ShS.mk.injEq, true_and, and_true]
  have e2 : markB n (onT HB m n) k true = true := by simp [markB, usd, inn_of h, onT_at h, hm]
  funext j
  simp only [markT, e2, if_true, Int.toNat_natCast]
  by_cases hj : j = k
  · subst hj
    simp [onT_at h, upd]
  · simp [onT, upd, hj]

/-- What the pile holds: each once, each met. -/
structure Pl (P : List Int) (m : Nat → Bool) (n : Nat) : Prop where
  nd : P.Nodup
  each : ∀ i ∈ P, ∃ k : Nat, i = k ∧ k < n ∧ m k = true
/-- What so many that were laid leave. -/
structure On (P : List Int) (m : Nat → Bool) (n laid most : Nat) (z : Bool) : Prop extends Pl P m n where
  len : P.length = min laid most
  lost : z = decide (most < laid)
theorem On.push (h : On P m n laid most z) (hk : k < n) (hm : m k = false) : On (pushT most P k) (upd m k true) n (laid + 1) most (pushZ most P z) := by
  have hu : ∀ i ∈ P, ∃ j : Nat, i = j ∧ j < n ∧ upd m k true j = true := fun i hi => by
    obtain ⟨j, e, hj, q⟩ := h.each i hi
    exact ⟨j, e, hj, by unfold upd; split <;> simp_all⟩
  have hlen := h.len
  by_cases hf : P.length < most
  · refine ⟨⟨?_, ?_⟩, ?_, ?_⟩
    · simp only [pushT, hf, if_true]
      refine List.nodup_append.2 ⟨h.nd, by simp, fun a ha b hb => ?_⟩
      simp at hb
      subst hb
      rintro rfl
      obtain ⟨j, e, _, q⟩ := h.each _ ha
      obtain rfl : k = j := by omega
      rw [hm] at q
      cases q
    · simp only [pushT, hf, if_true]
      intro i hi
      simp at hi
      rcases hi with hi | rfl
      · exact hu i hi
      · exact ⟨k, rfl, hk, by simp [upd]⟩
    · simp only [pushT, hf, if_true, List.length_append, List.length_singleton]
      omega
    · simp only [pushZ, hf, if_true]
      rw [h.lost, decide_eq_false (by omega), decide_eq_false (by omega)]
  · refine ⟨⟨?_, ?_⟩, ?_, ?_⟩
    · simpa [pushT, hf] using h.nd
    · simpa [pushT, hf] using hu
    · simp only [pushT, hf, if_false]
      omega
    · simp only [pushZ, hf, if_false]
      rw [decide_eq_true (by omega)]
theorem Pl.pop (h : Pl (P ++ [i]) m n) : ∃ k : Nat, i = k ∧ k < n ∧ m k = true ∧ Pl P (upd m k false) n := by
  obtain ⟨k, e, hk, hm⟩ := h.each i (by simp)
  obtain ⟨h1, _, h3⟩ := List.nodup_append.1 h.nd
  refine ⟨k, e, hk, hm, h1, fun a ha => ?_⟩
  obtain ⟨j, e2, hj, q⟩ := h.each a (by simp [ha])
  refine ⟨j, e2, hj, ?_⟩
  have : j ≠ k := by
    rintro rfl
    exact h3 a ha i (by simp) (by omega)
  simpa [upd, this] using q
end

/-- The law's shade, and what it has met. -/
structure Mo (w u : World) (b tb mb n : Nat) (m : Nat → Bool) (S : ShS) : Prop where
  kept : Kept w u
  tab : ∃ g pb v, ShC u w.heap.size b tb g pb v S
  row : u.rowIs mb 4 n (fun k => .bool (m k))
  lo : w.heap.size ≤ mb
section
variable {w u u' : World} {b tb mb n g pb : Nat} {v : Value} {m : Nat → Bool} {S : ShS}
theorem row_out {base : Nat} (h : ShC u base b tb g pb v S) {f : Nat → Value} (r : u.rowIs mb 4 n f) : mb ∉ ShF b tb g pb v := fun q => by
  simp only [ShF, List.mem_cons] at q
  rcases q with rfl | rfl | rfl | rfl | q
  · exact h.head.ne r (by decide) rfl
  · exact h.tab.head.ne r (by decide) rfl
  · obtain ⟨c1, h1, _⟩ := h.tab.row
    obtain ⟨c2, h2, _⟩ := r
    rw [h1] at h2
    simp at h2
  · exact h.pile.head.ne r (by decide) rfl
  · exact lst_ne_row h.pile.lst r (by decide) (by simpa using q)
theorem Mo.still (h : Mo w u b tb mb n m S) (k : Kept u u') : Mo w u' b tb mb n m S := ⟨h.kept.trans k, h.tab.elim fun g ⟨pb, v, t⟩ => ⟨g, pb, v, t.kept k⟩, k.row h.row, h.lo⟩
theorem Mo.ms (h : Mo w u b tb mb n m S) : Ms w u b tb S := ⟨h.kept, h.tab⟩
theorem Mo.put (h : Mo w u b tb mb n m S) (k : Nat) (x : Bool) : Mo w (u.setCell ⟨mb, k, none⟩ (.bool x)) b tb mb n (upd m k x) S := by
  obtain ⟨g, pb, v, t⟩ := h.tab
  have mu : Mut [mb] u (u.setCell ⟨mb, k, none⟩ (.bool x)) := (Mut.refl _ _).setCell (by simp) _
  refine ⟨h.kept.setCell h.lo _, ⟨g, pb, v, t.muts mu fun j hj hd => ?_⟩, (h.row.set k _).congr fun j _ => ?_, h.lo⟩
  · simp at hd
    subst hd
    exact row_out t h.row hj
  · simp only [upd]
    split <;> rfl
theorem mo_grey (i : Int) (s : Bool) (h : Mo w u b tb mb n m S) (hc : S.c < lots) : Calls Try.prog 13 #[.pointer (some ⟨b, 0, none⟩), .int .i64 i, .bool s] u fun e w' => e = .returned (.bool (greyB S i s)) ∧ Mo w w' b tb mb n m (greyS S i s) := by
  obtain ⟨g, pb, v, t⟩ := h.tab
  exact (sgrey_any i s u t hc).mono fun _ _ ⟨he, v2, t2, mu, _⟩ => ⟨he, h.kept.muts mu (fun k hk => (t.own k hk).1), ⟨g, pb, v2, t2⟩, mu.row h.row (row_out t h.row), h.lo⟩
theorem mo_next (h : Mo w u b tb mb n m S) (hc : S.c < lots) : Calls Try.prog 19 #[.pointer (some ⟨b, 0, none⟩)] u fun e w' => e = .returned (.tuple #[.int .i64 (topI S.P), .bool (isI S.P)]) ∧ Mo w w' b tb mb n m S.tick.pop := by
  obtain ⟨g, pb, v, t⟩ := h.tab
  exact (snext_any u t hc).mono fun _ _ ⟨he, v2, t2, mu, _⟩ => ⟨he, h.kept.muts mu (fun k hk => (t.own k hk).1), ⟨g, pb, v2, t2⟩, mu.row h.row (row_out t h.row), h.lo⟩
end

theorem info_bool7 : (Try.prog.info? 4).map (fun i => (i.zero, i.size, i.bytes)) = some (some (.bool false), 1, 1) := by kernel_rfl

set_option maxHeartbeats 8000000 in
set_option maxRecDepth 20000 in
theorem once_in (n most : Nat) (x1 : Option Addr) (l1 c1 : Nat) (HB : Nat → Bool) (x2 : Option Addr) (l2 c2 : Nat) (L : Nat → Int) (w : World) (hX1 : Bools w x1 l1 HB) (hX2 : Ints w x2 l2 L) (hm1 : 1 ≤ (most : Int)) (hm2 : (most : Int) ≤ 256) (hn : (n : Int) ≤ 200) (hl1 : (n : Int) ≤ (l1 : Int)) (hl2 : (l2 : Int) ≤ 500) :
    Calls Try.prog 4 #[.int .i64 n, .int .i64 most, .slice x1 l1 c1, .slice x2 l2 c2] w fun e w' => e = .returned (.bool true) ∧ Kept w w' := by
  have HX1 : Hid (Bools w x1 l1 HB) := hX1
  have HX2 : Hid (Ints w x2 l2 L) := hX2
  have HN : Hid (∀ u, Kept w u → _) := fun u k => ms_new (w := w) n most u k (by omega) hm1 hm2
  have hmk := run_make_row' (P := Try.prog) 46 4 (.bool false) 1 Try.underlying46 info_bool7 rfl .i64 .i64 n (by omega) (by omega)
  have HMK : Hid _ := hmk
  clear hX1 hX2 hmk
  go_enter Try.func4, Try.ntmps4
  go_wp2_with fail
  refine (first_any _).mono ?_
  rintro e w1 ⟨rfl, k1⟩
  have K1 : Hid (Kept w w1) := k1
  clear k1
  go_wp2_with fail
  refine (HN.out _ K1.out).mono ?_
  rintro e w2 ⟨b, tb, rfl, t2⟩
  have H2 : Hid (Ms w w2 b tb ⟨n, most, onT HB (fun _ => false) 0, [], false, 0⟩) := t2
  clear t2 K1 HN
  go_wp2_with fail
  refine (ms_table H2.out).mono ?_
  rintro e w3 ⟨rfl, rfl⟩
  go_wp2
  go_loopg [11] n (fun m i wr => ∃ j : Nat, i = .int .i64 j ∧ j ≤ n ∧ m = n - j ∧ Hid (Ms w wr b tb ⟨n, most, onT HB (fun _ => false) j, [], false, 0⟩))
  case atStart => exact ⟨0, rfl, by omega, by omega, H2.out⟩
  case round =>
    obtain ⟨j, rfl, hj, hm, HR⟩ := hrel
    have HM : Hid _ := hm
    clear hm H2
    by_cases hlt' : j < n
    · obtain ⟨bx, ox, rfl, hbx', hcx'⟩ := HX1.out.at (by omega)
      have hbx : Hid (bx < w.heap.size) := hbx'
      have hcx : Hid (∀ i, i < l1 → w.cell? ⟨bx, ox + i, none⟩ = some (.bool (HB i))) := hcx'
      have hjl' : j < l1 := by omega
      have hjl : Hid (j < l1) := hjl'
      have hlt : Hid (j < n) := hlt'
      clear hbx' hcx'
      go_upto_region 11 with fail
      refine wp_region_phase [(.pointer (some ⟨b, 0, none⟩)), (.pointer (some ⟨tb, 0, none⟩)), (.int .i64 (j : Int)), (.slice (some ⟨bx, ox, none⟩) l1 c1), (.int .i64 (j : Int)), (.pointer (some ⟨bx, ox + j, none⟩)), (.bool (HB j)), (.bool (inn n (j : Int) && isSt 2))] [(61, 0), (62, 1), (63, 2), (64, 3), (65, 4), (66, 5), (67, 6), (68, 7)] [_, _, _, _, _, _, _, _, _, _, _, _, _, _, _, _, _, _, _, _, _, _, _, _, _, _, _, _, _, _, _, _, _, _, _, _, _, _, _, _, _, _, _, _, _, _, _, _, _, _, _, _, _, _, _, _, _, _, _, _, _, _, _, _, _, _, _, _, _, _, _, _, _, _, _, _, _, _, _, _, _, _, _, _, _, _, _, _, _, _, _, _, _, _, _, _, _, _, _, _, _, _, _, _, _, _, _, _, _, _, _, _, _, _, _, _, _, _, _, _, _, _, _, _, _, _, _, _, _, _, _, _, _, _, _, _, _, _, _, _, _, _, _, _, _, _, _, _, _, _, _, _, _, _, _, _, _, _, _, _, _, _, _, _, _, _, _, _, _, _, _, _, _, _, _, _, _, _, _] (fun d u => Ms w u b tb (if d 7 then ⟨n, most, onT HB (fun _ => false) (j + 1), [], false, 0⟩ else ⟨n, most, onT HB (fun _ => false) j, [], false, 0⟩)) (by kernel_rfl) (by kernel_rfl) (by kernel_rfl) (by kernel_rfl) rfl ?_ ?_ ?_
      · exact HR.out.still (Kept.refl _).drew
      · intro i1 o ho a1 d u hh hj hi hd
        match i1, ho, hi, hd with
        | 0, ho, hi, hd =>
          simp only [List.getElem?_cons_zero, Option.some.injEq] at ho
          subst ho
          have g9 : a1.tmps[9]? = some (.pointer (some ⟨b, 0, none⟩)) := hh.old 9 (by kernel_rfl) rfl
          clear hh hd
          have HN : Hid (Ms w u b tb (if done d 0 7 then ⟨n, most, onT HB (fun _ => false) (j + 1), [], false, 0⟩ else ⟨n, most, onT HB (fun _ => false) j, [], false, 0⟩)) := by rw [show done d 0 7 = d 7 by simp [done]]; exact hj
          clear hj hi
          refine wpOp_step rfl (fun K hK => ?_)
          go_simp
          exact hK _ _ ⟨by simp [Act.put], HN.out⟩
        | 1, ho, hi, hd =>
          simp only [List.getElem?_cons_succ, List.getElem?_cons_zero, Option.some.injEq] at ho
          subst ho
          have g61 : a1.tmps[61]? = some (.pointer (some ⟨b, 0, none⟩)) := hh.did 0 _ 61 rfl rfl (hd { on := 0, ground := .data } (by simp) rfl)
          have CA : Hid (Calls _ _ _ _ _) := ms_table hj
          clear hh hd
          have HN : Hid (Ms w u b tb (if done d 1 7 then ⟨n, most, onT HB (fun _ => false) (j + 1), [], false, 0⟩ else ⟨n, most, onT HB (fun _ => false) j, [], false, 0⟩)) := by rw [show done d 1 7 = d 7 by simp [done]]; exact hj
          clear hj hi
          refine wpOp_step rfl (fun K hK => ?_)
          go_simp
          refine CA.out.mono ?_
          rintro e u2 ⟨rfl, rfl⟩
          exact hK _ _ ⟨by simp [Act.put], HN.out⟩
        | 2, ho, hi, hd =>
          simp only [List.getElem?_cons_succ, List.getElem?_cons_zero, Option.some.injEq] at ho
          subst ho
          have g11 : a1.tmps[11]? = some (.int .i64 (j : Int)) := hh.old 11 (by kernel_rfl) rfl
          clear hh hd
          have HN : Hid (Ms w u b tb (if done d 2 7 then ⟨n, most, onT HB (fun _ => false) (j + 1), [], false, 0⟩ else ⟨n, most, onT HB (fun _ => false) j, [], false, 0⟩)) := by rw [show done d 2 7 = d 7 by simp [done]]; exact hj
          clear hj hi
          refine wpOp_step rfl (fun K hK => ?_)
          go_simp
          exact hK _ _ ⟨by simp [Act.put], HN.out⟩
        | 3, ho, hi, hd =>
          simp only [List.getElem?_cons_succ, List.getElem?_cons_zero, Option.some.injEq] at ho
          subst ho
          have g2 : a1.tmps[2]? = some (.slice (some ⟨bx, ox, none⟩) l1 c1) := hh.old 2 (by kernel_rfl) rfl
          clear hh hd
          have HN : Hid (Ms w u b tb (if done d 3 7 then ⟨n, most, onT HB (fun _ => false) (j + 1), [], false, 0⟩ else ⟨n, most, onT HB (fun _ => false) j, [], false, 0⟩)) := by rw [show done d 3 7 = d 7 by simp [done]]; exact hj
          clear hj hi
          refine wpOp_step rfl (fun K hK => ?_)
          go_simp
          exact hK _ _ ⟨by simp [Act.put], HN.out⟩
        | 4, ho, hi, hd =>
          simp only [List.getElem?_cons_succ, List.getElem?_cons_zero, Option.some.injEq] at ho
          subst ho
          have g11 : a1.tmps[11]? = some (.int .i64 (j : Int)) := hh.old 11 (by kernel_rfl) rfl
          clear hh hd
          have HN : Hid (Ms w u b tb (if done d 4 7 then ⟨n, most, onT HB (fun _ => false) (j + 1), [], false, 0⟩ else ⟨n, most, onT HB (fun _ => false) j, [], false, 0⟩)) := by rw [show done d 4 7 = d 7 by simp [done]]; exact hj
          clear hj hi
          refine wpOp_step rfl (fun K hK => ?_)
          go_simp
          exact hK _ _ ⟨by simp [Act.put], HN.out⟩
        | 5, ho, hi, hd =>
          simp only [List.getElem?_cons_succ, List.getElem?_cons_zero, Option.some.injEq] at ho
          subst ho
          have g64 : a1.tmps[64]? = some (.slice (some ⟨bx, ox, none⟩) l1 c1) := hh.did 3 _ 64 rfl rfl (hd { on := 3, ground := .data } (by simp) rfl)
          have g65 : a1.tmps[65]? = some (.int .i64 (j : Int)) := hh.did 4 _ 65 rfl rfl (hd { on := 4, ground := .data } (by simp) rfl)
          clear hh hd
          have HN : Hid (Ms w u b tb (if done d 5 7 then ⟨n, most, onT HB (fun _ => false) (j + 1), [], false, 0⟩ else ⟨n, most, onT HB (fun _ => false) j, [], false, 0⟩)) := by rw [show done d 5 7 = d 7 by simp [done]]; exact hj
          clear hj hi
          refine wpOp_step rfl (fun K hK => ?_)
          go_simp
          exact hK _ _ ⟨by simp [Act.put], HN.out⟩
        | 6, ho, hi, hd =>
          simp only [List.getElem?_cons_succ, List.getElem?_cons_zero, Option.some.injEq] at ho
          subst ho
          have g66 : a1.tmps[66]? = some (.pointer (some ⟨bx, ox + j, none⟩)) := hh.did 5 _ 66 rfl rfl (hd { on := 5, ground := .data } (by simp) rfl)
          have cc : u.cell? ⟨bx, ox + j, none⟩ = some (.bool (HB j)) := (hj.kept.cell hbx.out).trans (hcx.out j hjl.out)
          clear hh hd
          have HN : Hid (Ms w u b tb (if done d 6 7 then ⟨n, most, onT HB (fun _ => false) (j + 1), [], false, 0⟩ else ⟨n, most, onT HB (fun _ => false) j, [], false, 0⟩)) := by rw [show done d 6 7 = d 7 by simp [done]]; exact hj
          clear hj hi
          refine wpOp_step rfl (fun K hK => ?_)
          go_simp
          exact hK _ _ ⟨by simp [Act.put], HN.out⟩
        | 7, ho, hi, hd =>
          simp only [List.getElem?_cons_succ, List.getElem?_cons_zero, Option.some.injEq] at ho
          subst ho
          have g62 : a1.tmps[62]? = some (.pointer (some ⟨tb, 0, none⟩)) := hh.did 1 _ 62 rfl rfl (hd { on := 1, ground := .data } (by simp) rfl)
          have g63 : a1.tmps[63]? = some (.int .i64 (j : Int)) := hh.did 2 _ 63 rfl rfl (hd { on := 2, ground := .data } (by simp) rfl)
          have g67 : a1.tmps[67]? = some (.bool (HB j)) := hh.did 6 _ 67 rfl rfl (hd { on := 6, ground := .data } (by simp) rfl)
          clear hh hd
          have hj2 : Ms w u b tb ⟨n, most, onT HB (fun _ => false) j, [], false, 0⟩ := by simpa [hi] using hj
          have CA : Hid (Calls _ _ _ _ _) := ms_set j 2 (HB j) false hj2
          have HN : Hid (∀ u2, Ms w u2 b tb (ShS.set ⟨n, most, onT HB (fun _ => false) j, [], false, 0⟩ j 2 (HB j) false) → Ms w u2 b tb (if done d 7 7 then ⟨n, most, onT HB (fun _ => false) (j + 1), [], false, 0⟩ else ⟨n, most, onT HB (fun _ => false) j, [], false, 0⟩)) := fun u2 t => by
            rw [show done d 7 7 = true by simp [done], if_pos rfl]
            unfold ShS.set at t
            simp only [onT_set hlt.out] at t
            exact t
          clear hj hi hj2
          refine wpOp_step rfl (fun K hK => ?_)
          go_simp
          refine CA.out.mono ?_
          rintro e u2 ⟨rfl, t2⟩
          exact hK _ _ ⟨by simp [Act.put], HN.out u2 t2⟩
        | n + 8, ho, hi, hd => simp at ho
      · intro u d hall hj
        have h7 := hall 7 (by decide)
        rw [h7, if_pos rfl] at hj
        have H5 : Hid (Ms w u b tb ⟨n, most, onT HB (fun _ => false) (j + 1), [], false, 0⟩) := hj
        clear hj h7 hall
        simp only [List.getD_cons_succ, List.getD_cons_zero]
        go_wp2
        go_roundg (n - (j + 1))
        all_goals (have := HM.out; have := hlt.out; try omega)
        exact ⟨j + 1, by go_num, by omega, by omega, H5.out⟩
    · obtain rfl : j = n := by omega
      have hmk := HMK.out
      go_upto_region 13 with fail
      have HQ : Hid (Mo w (wr.alloc (.cells (madeCells #[.bool false] j) 4)) b tb wr.heap.size j (fun _ => false) ⟨j, most, onT HB (fun _ => false) j, [], false, 0⟩) := ⟨HR.out.kept.alloc _ _, (HR.out.still ((Kept.refl _).alloc _ _)).tab, World.rowIs_made wr _ _ _, HR.out.kept.size⟩
      have O0 : Hid (On [] (fun _ => false) j 0 most false) := ⟨⟨List.nodup_nil, fun i hi => by cases hi⟩, by simp, by simp⟩
      generalize wr.alloc _ = wm at *
      generalize wr.heap.size = mb at *
      clear hmk HMK HR HM
      go_wp2
      go_loopg [13, 14] l2 (fun gm la i wr2 => ∃ (q laid : Nat) (m : Nat → Bool) (P : List Int) (z : Bool), la = .int .i64 laid ∧ i = .int .i64 q ∧ q ≤ l2 ∧ laid ≤ q ∧ gm = l2 - q ∧ Hid (Mo w wr2 b tb mb j m ⟨j, most, onT HB m j, P, z, q⟩ ∧ On P m j laid most z))
      case atStart => exact ⟨0, 0, fun _ => false, [], false, rfl, rfl, by omega, by omega, by omega, HQ.out, O0.out⟩
      case round =>
        obtain ⟨q, laid, m, P, z, rfl, rfl, hq, hlq, hm, HR⟩ := hrel
        have HM : Hid _ := hm
        clear hm HQ O0
        by_cases hqt : q < l2
        · obtain ⟨by2, oy, rfl, hby', hcy'⟩ := HX2.out.at (by omega)
          have hby : Hid (by2 < w.heap.size ∧ ∀ i, i < l2 → w.cell? ⟨by2, oy + i, none⟩ = some (.int .i64 (L i))) := ⟨hby', hcy'⟩
          have e0 : wr.cell? ⟨by2, oy + q, none⟩ = _ := (HR.out.1.kept.cell hby').trans (hcy' q hqt)
          clear hby' hcy'
          have HLc : Hid (∀ u, Kept w u → u.cell? ⟨by2, oy + q, none⟩ = some (.int .i64 (L q))) := fun u k => (k.cell hby.out.1).trans (hby.out.2 q hqt)
          clear hby
          generalize L q = i at *
          have HC : Hid (q < lots) := by simp only [Hid, lots]; omega
          by_cases hin : 0 ≤ i ∧ i < (j : Int)
          · obtain ⟨k, rfl⟩ : ∃ k : Nat, i = k := ⟨i.toNat, by omega⟩
            have hk : k < j := by omega
            obtain ⟨bx, ox, rfl, hbx', hcx'⟩ := HX1.out.at (by omega)
            have f0 : wr.cell? ⟨bx, ox + k, none⟩ = _ := (HR.out.1.kept.cell hbx').trans (hcx' k (by omega))
            have m0 : wr.cell? ⟨mb, k, none⟩ = some (.bool (m k)) := HR.out.1.row.cell hk
            clear hbx' hcx' hin
            rcases (show (HB k = false) ∨ (HB k = true ∧ m k = true) ∨ (HB k = true ∧ m k = false) by cases HB k <;> cases m k <;> simp) with h1 | ⟨h1, h2⟩ | ⟨h1, h2⟩
            · have HG : Hid (greyB ⟨j, most, onT HB m j, P, z, q⟩ k true = false) := (on_in hk).trans (by simp [h1])
              rw [h1] at f0
              go_wp2_with fail
              refine (mo_grey k true HR.out.1 HC.out).mono ?_
              rintro e w5 ⟨rfl, t5⟩
              have H5 : Hid (Mo w w5 b tb mb j m ⟨j, most, onT HB m j, P, z, q + 1⟩) := by rw [on_no HG.out] at t5; exact t5
              rw [HG.out]
              clear t5 e0 f0 m0 HG
              go_wp2
              go_roundg (l2 - (q + 1))
              all_goals (have := HM.out; try omega)
              exact ⟨q + 1, laid, m, P, z, rfl, by go_num, by omega, by omega, by omega, H5.out, HR.out.2⟩
            · have HG : Hid (greyB ⟨j, most, onT HB m j, P, z, q⟩ k true = false) := (on_in hk).trans (by simp [h2])
              rw [h1] at f0
              rw [h2] at m0
              go_wp2_with fail
              refine (mo_grey k true HR.out.1 HC.out).mono ?_
              rintro e w5 ⟨rfl, t5⟩
              have H5 : Hid (Mo w w5 b tb mb j m ⟨j, most, onT HB m j, P, z, q + 1⟩) := by rw [on_no HG.out] at t5; exact t5
              rw [HG.out]
              clear t5 e0 f0 m0 HG
              go_wp2
              go_roundg (l2 - (q + 1))
              all_goals (have := HM.out; try omega)
              exact ⟨q + 1, laid, m, P, z, rfl, by go_num, by omega, by omega, by omega, H5.out, HR.out.2⟩
            · have HG : Hid (greyB ⟨j, most, onT HB m j, P, z, q⟩ k true = true) := (on_in hk).trans (by simp [h1, h2])
              have HY : Hid (∀ P z c, greyS ⟨j, most, onT HB m j, P, z, c⟩ k true = ⟨j, most, onT HB (upd m k true) j, pushT most P k, pushZ most P z, c + 1⟩) := fun _ _ _ => on_yes hk h1 h2
              have HO : Hid (On (pushT most P k) (upd m k true) j (laid + 1) most (pushZ most P z)) := HR.out.2.push hk h2
              rw [h1] at f0
              rw [h2] at m0
              go_wp2_with fail
              refine (mo_grey k true HR.out.1 HC.out).mono ?_
              rintro e w5 ⟨rfl, t5⟩
              have H5 : Hid (Mo w w5 b tb mb j m ⟨j, most, onT HB (upd m k true) j, pushT most P k, pushZ most P z, q + 1⟩) := by rw [HY.out] at t5; exact t5
              rw [HG.out]
              clear t5 e0 f0 m0 HG HR
              have e0 := HLc.out _ H5.out.kept
              have m0 : w5.cell? ⟨mb, k, none⟩ = some (.bool (m k)) := H5.out.row.cell hk
              have mf := H5.out.row.frozen
              have H6 : Hid (Mo w (w5.setCell ⟨mb, k, none⟩ (.bool true)) b tb mb j (upd m k true) ⟨j, most, onT HB (upd m k true) j, pushT most P k, pushZ most P z, q + 1⟩) := H5.out.put k true
              clear H5
              go_wp2
              go_roundg (l2 - (q + 1))
              all_goals (have := HM.out; try omega)
              exact ⟨q + 1, laid + 1, _, _, _, by go_num, by go_num, by omega, by omega, by omega, H6.out, HO.out⟩
          · have HG : Hid (greyB ⟨j, most, onT HB m j, P, z, q⟩ i true = false) := on_out (by simpa [inn] using hin)
            rcases (show i < 0 ∨ (0 ≤ i ∧ (j : Int) ≤ i) by omega) with h1 | ⟨h1, h2⟩
            all_goals clear hin
            all_goals go_wp2_with fail
            all_goals (refine (mo_grey i true HR.out.1 HC.out).mono ?_; rintro e w5 ⟨rfl, t5⟩)
            all_goals (have H5 : Hid (Mo w w5 b tb mb j m ⟨j, most, onT HB m j, P, z, q + 1⟩) := by rw [on_no HG.out] at t5; exact t5)
            all_goals rw [HG.out]
            all_goals clear t5 e0 HG
            all_goals go_wp2
            all_goals go_roundg (l2 - (q + 1))
            all_goals (have := HM.out; try omega)
            all_goals exact ⟨q + 1, laid, m, P, z, rfl, by go_num, by omega, by omega, by omega, H5.out, HR.out.2⟩
        · obtain rfl : q = l2 := by omega
          obtain ⟨p, hp, hp2, hpl, hpm, HP⟩ : ∃ p : Nat, (if most < laid then (most : Int) else (laid : Int)) = (p : Int) ∧ (if most < laid then Value.int .i64 (most : Int) else Value.int .i64 (laid : Int)) = Value.int .i64 (p : Int) ∧ p ≤ laid ∧ p ≤ most ∧ Hid (P.length = p) := by
            refine ⟨min laid most, ?_, ?_, by omega, by omega, HR.out.2.len⟩
            · split <;> omega
            · split
              · rw [show min laid most = most by omega]
              · rw [show min laid most = laid by omega]
          obtain ⟨HZ0, hzi⟩ : Hid (z = decide (most < laid)) ∧ decide ((laid : Int) > (most : Int)) = z := ⟨HR.out.2.lost, by rw [HR.out.2.lost]; simp⟩
          have hzn : decide (most < laid) = z := HZ0.out.symm
          have HQ : Hid (Mo w wr b tb mb j m ⟨j, most, onT HB m j, P, z, q⟩ ∧ Pl P m j) := ⟨HR.out.1, HR.out.2.toPl⟩
          clear HR HM HZ0
          go_wp2_with fail
          refine (ms_len HQ.out.1.ms).mono ?_
          rintro e w4 ⟨rfl, rfl⟩
          simp only [HP.out]
          go_wp2
          go_loopg [16] p (fun gm i wr2 => ∃ (r c : Nat) (m2 : Nat → Bool) (P2 : List Int), i = .int .i64 (r : Int) ∧ r ≤ p ∧ gm = p - r ∧ P2.length + r = p ∧ c = q + r ∧ Hid (Mo w wr2 b tb mb j m2 ⟨j, most, onT HB m j, P2, z, c⟩ ∧ Pl P2 m2 j))
          case atStart => exact ⟨0, q, m, P, rfl, by omega, by omega, by have := HP.out; omega, rfl, HQ.out⟩
          case round =>
            obtain ⟨r, c, m2, P2, rfl, hr, hm, hlen, hc, HR⟩ := hrel
            have HM : Hid _ := hm
            have HLn : Hid _ := hlen
            have HCc : Hid (c = q + r) := hc
            have HC : Hid (c + 5 < lots) := by simp only [Hid, lots]; omega
            clear hm HQ hlen hc
            by_cases hrp : r < p
            · obtain ⟨P3, i, hP⟩ : ∃ (P3 : List Int) (i : Int), P2 = P3 ++ [i] := by
                rcases List.eq_nil_or_concat P2 with rfl | ⟨P3, i, rfl⟩
                · have := HLn.out; simp at this; omega
                · exact ⟨P3, i, by rw [List.concat_eq_append]⟩
              subst hP
              obtain ⟨k, rfl, hk, hmk2, HPl'⟩ := HR.out.2.pop
              have HPl : Hid (Pl P3 (upd m2 k false) j) := HPl'
              have HMk : Hid (m2 k = true) := hmk2
              have HL3 : Hid (P3.length + (r + 1) = p) := by have := HLn.out; simp at this; simp only [Hid]; omega
              have e1 : topI (P3 ++ [(k : Int)]) = (k : Int) := by simp [topI]
              have e2 : isI (P3 ++ [(k : Int)]) = true := by simp [isI]
              clear HPl' hmk2 HLn
              go_wp2_with fail
              refine (mo_next HR.out.1 (by have := HC.out; simp only [lots] at this ⊢; omega)).mono ?_
              rintro e w5 ⟨rfl, t5⟩
              have H5 : Hid (Mo w w5 b tb mb j m2 ⟨j, most, onT HB m j, P3, z, c + 1⟩) := by
                unfold ShS.tick ShS.pop at t5
                simp only [List.dropLast_concat] at t5
                exact t5
              rw [e1, e2]
              clear t5 HR e1 e2
              have m0 : w5.cell? ⟨mb, k, none⟩ = some (.bool true) := by rw [← HMk.out]; exact H5.out.row.cell hk
              have mf := H5.out.row.frozen
              have H6 : Hid (Mo w (w5.setCell ⟨mb, k, none⟩ (.bool false)) b tb mb j (upd m2 k false) ⟨j, most, onT HB m j, P3, z, c + 1⟩) := H5.out.put k false
              clear H5
              go_wp2
              go_roundg (p - (r + 1))
              all_goals (have := HM.out; have := HCc.out; have := HL3.out; try omega)
              exact ⟨r + 1, c + 1, _, _, by go_num, by omega, by omega, by omega, by omega, H6.out, HPl.out⟩
            · obtain rfl : r = p := by omega
              clear HM HLn HCc
              go_wp2_with fail
              refine (first_any _).mono ?_
              rintro e w5 ⟨rfl, k5⟩
              have H5 : Hid (Ms w w5 b tb ⟨j, most, onT HB m j, P2, z, c⟩) := HR.out.1.ms.still k5
              clear k5 HR
              go_wp2_with fail
              refine (ms_lost H5.out (by have := HC.out; simp only [lots] at this ⊢; omega)).mono ?_
              rintro e w6 ⟨rfl, t6⟩
              have H6 : Hid (Ms w w6 b tb ⟨j, most, onT HB m j, P2, false, c + 1⟩) := t6
              clear t6 H5
              have zz : (z == z) = true := by simp
              go_wp2_with fail
              refine (ms_lost H6.out (by have := HC.out; simp only [lots] at this ⊢; omega)).mono ?_
              rintro e w7 ⟨rfl, t7⟩
              have K7 : Hid (Kept w w7) := t7.kept
              clear t7 H6
              go_wp2
              go_ret
              exact ⟨rfl, K7.out⟩

theorem shadeOnce_any (n0 : Int) (n1 : Int) (x2 : Option Addr) (l2 c2 : Nat) (L2 : Nat → Bool) (x3 : Option Addr) (l3 c3 : Nat) (L3 : Nat → Int) (w : World) (lo0 : IntKind.min .i64 ≤ n0) (hi0 : n0 ≤ IntKind.max .i64) (_lo1 : IntKind.min .i64 ≤ n1) (_hi1 : n1 ≤ IntKind.max .i64) (_h2c : l2 ≤ c2) (hL2 : Bools w x2 l2 L2) (_h3c : l3 ≤ c3) (hL3 : Ints w x3 l3 L3) (_hB3 : ∀ i, i < l3 → IntKind.min .i64 ≤ L3 i ∧ L3 i ≤ IntKind.max .i64) :
    Calls Try.prog 4 #[.int .i64 n0, .int .i64 n1, .slice x2 l2 c2, .slice x3 l3 c3] w fun e w' => e = .returned (.bool true) ∧ Kept w w' := by
  by_cases hn : 0 ≤ n0 ∧ n0 ≤ 1024 ∧ 1 ≤ n1 ∧ n1 ≤ 256
  · obtain ⟨n, rfl⟩ : ∃ n : Nat, n0 = n := ⟨n0.toNat, by omega⟩
    obtain ⟨most, rfl⟩ : ∃ n : Nat, n1 = n := ⟨n1.toNat, by omega⟩
    by_cases ho : 200 < (n : Int) ∨ ((n : Int) ≤ 200 ∧ (l2 : Int) < (n : Int)) ∨ ((n : Int) ≤ 200 ∧ (n : Int) ≤ (l2 : Int) ∧ 500 < (l3 : Int))
    · exact once_out n most x2 l2 c2 x3 l3 c3 w (by omega) hn.2.2.1 hn.2.2.2 ho
    · exact once_in n most x2 l2 c2 L2 x3 l3 c3 L3 w hL2 hL3 hn.2.2.1 hn.2.2.2 (by omega) (by omega) (by omega)
  · exact once_bad n0 n1 x2 l2 c2 x3 l3 c3 w hn lo0 hi0
end Go.Proofs.Ytfglmnjhnjkiiaa
