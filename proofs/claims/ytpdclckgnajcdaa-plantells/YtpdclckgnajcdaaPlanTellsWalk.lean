/-
  The walk of PlanTells: the program's answers and the document's are the same.
-/
import Derived.Test.YtpdclckgnajcdaaRefD
import Derived.Test.YtpdclckgnajcdaaRefE
import Derived.Test.YtpdclckgnajcdaaRefG
import Derived.Test.YtpdclckgnajcdaaRefH0
import Derived.Test.YtpdclckgnajcdaaRefH1
import Derived.Test.YtpdclckgnajcdaaRefH2
import Derived.Test.YtpdclckgnajcdaaFirst12
import Derived.Test.YtpdclckgnajcdaaOpen12
namespace Go.Proofs.Ytpdclckgnajcdaa
open Go.RowKit

def NC (z : Cx) : Prop := NN z.re ∧ NN z.im
theorem nc_cz : NC cz := ⟨nn_zero, nn_zero⟩
theorem nc_cn : NC cn := ⟨nn_zero, nn_one⟩
theorem nc_cr (i : Int) : NC (cr i) := ⟨nn_fi _, nn_one⟩
theorem nc_cw (i : Int) : NC (cw i) := ⟨nn_fi _, nn_zero⟩
theorem nc_ch (i j : Int) : NC (ch i j) := ⟨nn_fi _, nn_fi _⟩
theorem nc_un (b : Bool) : NC (un b) := by
  cases b
  · exact nc_cz
  · exact nc_cn
theorem nc_ref (L : Nat → Int) (l i : Nat) : NC (refAt L l i) := by
  unfold refAt
  split
  · exact nc_cr _
  · exact nc_cn
theorem nc_obj (kind : Int) (R : Nat → Bool) (L : Nat → Int) (l fl i : Nat) : NC (objF kind R L l fl i).z := by
  simp only [objF, objW]
  split
  · exact nc_ref _ _ _
  · split
    · exact nc_ch _ _
    · split
      · exact nc_un _
      · exact nc_cz
theorem nc_sent (kind n mode : Int) (L : Nat → Int) (l : Nat) (at' : Int) (j : Nat) : NC (sentW kind n mode L l at' j) := by
  unfold sentW
  split
  · exact nc_cn
  · split
    · exact nc_ch _ _
    · split
      · exact nc_cw _
      · split
        · exact nc_cw _
        · split
          · exact nc_ref _ _ _
          · split
            · split
              · exact nc_cw _
              · exact nc_ref _ _ _
            · exact nc_cz
theorem nc_arr (kind n mode : Int) (R : Nat → Bool) (L : Nat → Int) (l : Nat) (at' : Int) (i : Nat) : NC (arrF kind n mode R L l at' i).z := by
  unfold arrF
  split
  · simp only [arrW]
    split
    · exact nc_sent _ _ _ _ _ _ _
    · exact nc_un _
  · simp only [spW]
    split
    · exact nc_cr _
    · split
      · exact nc_cw _
      · exact nc_cr _

/-- A call that answers the first T of the writes f, and r. -/
def Wrote (F : FuncId) (args : Array Value) (w : World) (r : Int) (T : Nat) (f : Nat → Wr) : Prop :=
  ∀ w', Kept w w' → Calls Try.prog F args w' fun e w'' => ∃ v, e = .returned (.tuple #[v, .int .i64 r]) ∧ Ws w'' w'.heap.size v T f ∧ Kept w' w''

theorem wrote_no {F : FuncId} {args : Array Value} {w : World} {r : Int} (f : Nat → Wr) (h : ∀ w', Kept w w' → Calls Try.prog F args w' fun e w'' => e = .returned (.tuple #[.slice none 0 0, .int .i64 r]) ∧ Kept w' w'') : Wrote F args w r 0 f :=
  fun w' k => (h w' k).mono fun _ _ ⟨he, hk⟩ => ⟨_, he, Ws.nil _ _ _, hk⟩
theorem wrote_yes {F : FuncId} {args : Array Value} {w : World} {T : Nat} {f : Nat → Wr} (h : ∀ w', Kept w w' → Calls Try.prog F args w' fun e w'' => (∃ v, e = .returned (.tuple #[v, .int .i64 0]) ∧ Ws w'' w'.heap.size v T f) ∧ Kept w' w'') : Wrote F args w 0 T f :=
  fun w' k => (h w' k).mono fun _ _ ⟨⟨v, he, hw⟩, hk⟩ => ⟨v, he, hw, hk⟩

theorem object_both (n0 n1 n2 n3 n4 n5 n6 n7 : Int) (sx : Option Addr) (sl sc : Nat) (S : Nat → Sh) (R : Nat → Nat → Bool) (kind : Int) {x : Option Addr} {l c : Nat} {L : Nat → Int} (w : World) (hS : Shps w sx sl S) (hR : ∀ i, i < sl → Refs w (S i).x (S i).l (R i)) (hl : l ≤ 200) (hc : l ≤ c) (hx : Rdf w x l L) :
    ∃ r T f, Wrote 12 #[.agg #[.int .i64 n0, .int .i64 n1, .int .i64 n2, .int .i64 n3, .int .i64 n4, .int .i64 n5, .int .i64 n6, .int .i64 n7, .slice sx sl sc], .int .i64 kind, .slice x l c] w r T f ∧ Wrote 13 #[.agg #[.int .i64 n0, .int .i64 n1, .int .i64 n2, .int .i64 n3, .int .i64 n4, .int .i64 n5, .int .i64 n6, .int .i64 n7, .slice sx sl sc], .int .i64 kind, .slice x l c] w r T f ∧ T ≤ 5000 ∧ ∀ i, NC (f i).z := by
  obtain ⟨r, hr⟩ := Asks.some (AG n0 n1 n2 n3 n4 n5 n6 n7 sl S L l) (AK sl S kind false) (AI S kind 0 false) (AF S kind 0 false L l)
  by_cases h0 : r = 0
  case neg =>
    exact ⟨r, 0, fun _ => ⟨0, cz⟩, wrote_no _ (fun w' q => object_no n0 n1 n2 n3 n4 n5 n6 n7 sx sl sc S R kind r w' (hS.kept q) (fun i hi => (hR i hi).kept q) (by omega) hc (hx.kept q) hr h0), wrote_no _ (fun w' q => robject_no n0 n1 n2 n3 n4 n5 n6 n7 sx sl sc S kind r w' (hS.kept q) (by omega) hc (hx.kept q) hr h0), by omega, fun _ => nc_cz⟩
  subst h0
  obtain ⟨k, rfl⟩ : ∃ k : Nat, kind = k := ⟨kind.toNat, by have := hr.zero.2.1.1; omega⟩
  have hp : Wrote 12 #[.agg #[.int .i64 n0, .int .i64 n1, .int .i64 n2, .int .i64 n3, .int .i64 n4, .int .i64 n5, .int .i64 n6, .int .i64 n7, .slice sx sl sc], .int .i64 k, .slice x l c] w 0 (8 * l) (objF k (R k) L l (S k).l) := wrote_yes (fun w' q => by
    have := object_yes n0 n1 n2 n3 n4 n5 n6 n7 sx sl sc S R k (c := c) w' (hS.kept q) (fun i hi => (hR i hi).kept q) (by omega) hc (hx.kept q) hr
    rw [Int.toNat_natCast] at this
    exact this.mono fun _ _ ⟨v, he, hw, hk⟩ => ⟨⟨v, he, hw⟩, hk⟩)
  refine ⟨0, 8 * l, _, hp, wrote_yes (fun w' q => ?_), by omega, nc_obj _ _ _ _ _⟩
  cases hs : sideU L l
  · exact robject_yes0 n0 n1 n2 n3 n4 n5 n6 n7 sx sl sc S R k w' (hS.kept q) (fun i hi => (hR i hi).kept q) hc (hx.kept q) hr hs
  · exact robject_yes1 n0 n1 n2 n3 n4 n5 n6 n7 sx sl sc S R k w' (hS.kept q) (fun i hi => (hR i hi).kept q) hc (hx.kept q) hr hs

theorem array_both (n0 n1 n2 n3 n4 n5 n6 n7 : Int) (sx : Option Addr) (sl sc : Nat) (S : Nat → Sh) (R : Nat → Nat → Bool) (kind n : Int) {x : Option Addr} {l c : Nat} {L : Nat → Int} (at' : Int) (w : World) (hS : Shps w sx sl S) (hR : ∀ i, i < sl → Refs w (S i).x (S i).l (R i)) (hl : l ≤ 200) (hc : l ≤ c) (hx : Rdf w x l L) :
    ∃ r T f, Wrote 14 #[.agg #[.int .i64 n0, .int .i64 n1, .int .i64 n2, .int .i64 n3, .int .i64 n4, .int .i64 n5, .int .i64 n6, .int .i64 n7, .slice sx sl sc], .int .i64 kind, .int .i64 n, .slice x l c, .int .i64 at'] w r T f ∧ Wrote 15 #[.agg #[.int .i64 n0, .int .i64 n1, .int .i64 n2, .int .i64 n3, .int .i64 n4, .int .i64 n5, .int .i64 n6, .int .i64 n7, .slice sx sl sc], .int .i64 kind, .int .i64 n, .slice x l c, .int .i64 at'] w r T f ∧ T ≤ 5000 ∧ ∀ i, NC (f i).z := by
  obtain ⟨r, hr⟩ := Asks.some (AG n0 n1 n2 n3 n4 n5 n6 n7 sl S L l) (AK sl S kind true) (AI S kind n true) (AF S kind n true L l)
  by_cases h0 : r = 0
  case neg =>
    exact ⟨r, 0, fun _ => ⟨0, cz⟩, wrote_no _ (fun w' q => array_no n0 n1 n2 n3 n4 n5 n6 n7 sx sl sc S R kind n at' r w' (hS.kept q) (fun i hi => (hR i hi).kept q) (by omega) hc (hx.kept q) hr h0), wrote_no _ (fun w' q => rarray_no n0 n1 n2 n3 n4 n5 n6 n7 sx sl sc S kind n at' r w' (hS.kept q) (by omega) hc (hx.kept q) hr h0), by omega, fun _ => nc_cz⟩
  subst h0
  obtain ⟨k, rfl⟩ : ∃ k : Nat, kind = k := ⟨kind.toNat, by have := hr.zero.2.1.1; omega⟩
  by_cases hb : modeA n L l = 1 ∧ ¬ Fit n0 n1 at' (l + 1)
  · exact ⟨2, 0, fun _ => ⟨0, cz⟩, wrote_no _ (fun w' q => array_bad n0 n1 n2 n3 n4 n5 n6 n7 sx sl sc S R k n at' w' (hS.kept q) (fun i hi => (hR i hi).kept q) (by omega) hc (hx.kept q) hr hb.1 hb.2), wrote_no _ (fun w' q => rarray_bad n0 n1 n2 n3 n4 n5 n6 n7 sx sl sc S k n at' w' (hS.kept q) hc (hx.kept q) hr hb.1 hb.2), by omega, fun _ => nc_cz⟩
  have hF : modeA n L l = 1 → Fit n0 n1 at' (l + 1) := fun h => Classical.byContradiction fun q => hb ⟨h, q⟩
  have hp : Wrote 14 #[.agg #[.int .i64 n0, .int .i64 n1, .int .i64 n2, .int .i64 n3, .int .i64 n4, .int .i64 n5, .int .i64 n6, .int .i64 n7, .slice sx sl sc], .int .i64 k, .int .i64 n, .slice x l c, .int .i64 at'] w 0 (8 * l + spN n L l) (arrF k n (modeA n L l) (R k) L l at') := wrote_yes (fun w' q => by
    have := array_yes n0 n1 n2 n3 n4 n5 n6 n7 sx sl sc S R k n (c := c) at' w' (hS.kept q) (fun i hi => (hR i hi).kept q) (by omega) hc (hx.kept q) hr hF
    rw [Int.toNat_natCast] at this
    exact this.mono fun _ _ ⟨v, he, hw, hk⟩ => ⟨⟨v, he, hw⟩, hk⟩)
  have hm3 : modeA n L l = 0 ∨ modeA n L l = 1 ∨ modeA n L l = 2 := by unfold modeA; split <;> (try split) <;> simp
  refine ⟨0, 8 * l + spN n L l, _, hp, wrote_yes (fun w' q => ?_), by unfold spN; split <;> omega, nc_arr _ _ _ _ _ _ _⟩
  unfold spN
  rcases hm3 with h | h | h
  · rw [h]
    exact rarray_yes0 n0 n1 n2 n3 n4 n5 n6 n7 sx sl sc S R k n at' w' (hS.kept q) (fun i hi => (hR i hi).kept q) hc (hx.kept q) hr h
  · rw [h]
    exact rarray_yes1 n0 n1 n2 n3 n4 n5 n6 n7 sx sl sc S R k n at' w' (hS.kept q) (fun i hi => (hR i hi).kept q) hc (hx.kept q) hr h (hF h)
  · rw [h]
    exact rarray_yes2 n0 n1 n2 n3 n4 n5 n6 n7 sx sl sc S R k n at' w' (hS.kept q) (fun i hi => (hR i hi).kept q) hc (hx.kept q) hr h

set_option maxRecDepth 20000 in
set_option maxHeartbeats 4000000 in
theorem planTells_any (n0 n1 n2 n3 n4 n5 n6 n7 : Int) (sx : Option Addr) (sl sc : Nat) (S : Nat → Sh) (R : Nat → Nat → Bool) (kind n : Int) (x : Option Addr) (l c : Nat) (L : Nat → Int) (at' : Int) (w : World) (hS : Shps w sx sl S) (hR : ∀ i, i < sl → Refs w (S i).x (S i).l (R i)) (hc : l ≤ c) (hL : Ints w x l L) :
    Calls Try.prog 3 #[.agg #[.int .i64 n0, .int .i64 n1, .int .i64 n2, .int .i64 n3, .int .i64 n4, .int .i64 n5, .int .i64 n6, .int .i64 n7, .slice sx sl sc], .int .i64 kind, .int .i64 n, .slice x l c, .int .i64 at'] w fun e w' => e = .returned (.bool true) ∧ Kept w w' := by
  obtain ⟨p, hp⟩ := bool_iff (Small sl S)
  have CF : Hid (∀ w', Kept w w' → Calls Try.prog 11 #[.agg #[.int .i64 n0, .int .i64 n1, .int .i64 n2, .int .i64 n3, .int .i64 n4, .int .i64 n5, .int .i64 n6, .int .i64 n7, .slice sx sl sc]] w' _) := fun w' k => few_any n0 n1 n2 n3 n4 n5 n6 n7 sx sl sc S p w' (hS.kept k) hp
  have hx : Rdf w x l L := fun h0 => hL.at h0
  have HB : Hid (l ≤ 200 → (∃ r T f, Wrote 12 #[.agg #[.int .i64 n0, .int .i64 n1, .int .i64 n2, .int .i64 n3, .int .i64 n4, .int .i64 n5, .int .i64 n6, .int .i64 n7, .slice sx sl sc], .int .i64 kind, .slice x l c] w r T f ∧ Wrote 13 #[.agg #[.int .i64 n0, .int .i64 n1, .int .i64 n2, .int .i64 n3, .int .i64 n4, .int .i64 n5, .int .i64 n6, .int .i64 n7, .slice sx sl sc], .int .i64 kind, .slice x l c] w r T f ∧ T ≤ 5000 ∧ ∀ i, NC (f i).z) ∧ (∃ r T f, Wrote 14 #[.agg #[.int .i64 n0, .int .i64 n1, .int .i64 n2, .int .i64 n3, .int .i64 n4, .int .i64 n5, .int .i64 n6, .int .i64 n7, .slice sx sl sc], .int .i64 kind, .int .i64 n, .slice x l c, .int .i64 at'] w r T f ∧ Wrote 15 #[.agg #[.int .i64 n0, .int .i64 n1, .int .i64 n2, .int .i64 n3, .int .i64 n4, .int .i64 n5, .int .i64 n6, .int .i64 n7, .slice sx sl sc], .int .i64 kind, .int .i64 n, .slice x l c, .int .i64 at'] w r T f ∧ T ≤ 5000 ∧ ∀ i, NC (f i).z)) := fun h => ⟨object_both n0 n1 n2 n3 n4 n5 n6 n7 sx sl sc S R kind w hS hR h hc hx, array_both n0 n1 n2 n3 n4 n5 n6 n7 sx sl sc S R kind n at' w hS hR h hc hx⟩
  clear hp hS hR hL hx
  go_enter Try.func3, Try.ntmps3
  go_wp2_with fail
  generalize hW1 : w.alloc _ = W1
  have HW1 : Hid (Kept w W1 ∧ Blk W1 w.heap.size (cl n0 n1 n2 n3 n4 n5 n6 n7 (.slice sx sl sc))) := by rw [← hW1]; exact ⟨(Kept.refl w).alloc _ _, Blk.new w _ _⟩
  clear hW1
  refine (first_any _).mono ?_
  rintro e u1 ⟨rfl, K⟩
  have HW : Hid (Kept w u1 ∧ Blk u1 w.heap.size (cl n0 n1 n2 n3 n4 n5 n6 n7 (.slice sx sl sc))) := ⟨HW1.out.1.trans K, HW1.out.2.kept K⟩
  clear HW1 K
  have c0 := HW.out.2.at 0 rfl
  have c1 := HW.out.2.at 1 rfl
  have c2 := HW.out.2.at 2 rfl
  have c3 := HW.out.2.at 3 rfl
  have c4 := HW.out.2.at 4 rfl
  have c5 := HW.out.2.at 5 rfl
  have c6 := HW.out.2.at 6 rfl
  have c7 := HW.out.2.at 7 rfl
  have c8 := HW.out.2.at 8 rfl
  go_wp2_with fail
  refine (CF.out _ HW.out.1).mono ?_
  rintro e u2 ⟨rfl, K⟩
  have HK : Hid (Kept w u2) := HW.out.1.trans K
  have HW2 : Hid (Kept w u2 ∧ Blk u2 w.heap.size (cl n0 n1 n2 n3 n4 n5 n6 n7 (.slice sx sl sc))) := ⟨HW.out.1.trans K, HW.out.2.kept K⟩
  clear HW K c0 c1 c2 c3 c4 c5 c6 c7 c8 CF
  cases p
  · go_wp2_with fail
    refine (first_any _).mono ?_
    rintro e u9 ⟨rfl, K9⟩
    have K10 : Hid (Kept w u9) := HK.out.trans K9
    clear K9
    go_wp2
    go_ret
    exact ⟨rfl, K10.out⟩
  by_cases hl200 : (l : Int) > 200
  · go_wp2_with fail
    refine (first_any _).mono ?_
    rintro e u9 ⟨rfl, K9⟩
    have K10 : Hid (Kept w u9) := HK.out.trans K9
    clear K9
    go_wp2
    go_ret
    exact ⟨rfl, K10.out⟩
  obtain ⟨⟨r, T, f, W1, W2, hT, hN⟩, r', T', f', W3, W4, hT', hN'⟩ := HB.out (by omega)
  have CO : Hid (Wrote _ _ _ _ _ _) := W1
  have CR : Hid (Wrote _ _ _ _ _ _) := W2
  have CA : Hid (Wrote _ _ _ _ _ _) := W3
  have CB : Hid (Wrote _ _ _ _ _ _) := W4
  have HN : Hid ((∀ i, NC (f i).z) ∧ ∀ i, NC (f' i).z) := ⟨hN, hN'⟩
  have HW : Hid _ := HW2.out
  clear W1 W2 W3 W4 hN hN' HB HK HW2
  have c0 := HW.out.2.at 0 rfl
  have c1 := HW.out.2.at 1 rfl
  have c2 := HW.out.2.at 2 rfl
  have c3 := HW.out.2.at 3 rfl
  have c4 := HW.out.2.at 4 rfl
  have c5 := HW.out.2.at 5 rfl
  have c6 := HW.out.2.at 6 rfl
  have c7 := HW.out.2.at 7 rfl
  have c8 := HW.out.2.at 8 rfl
  go_wp2_with fail
  refine (CO.out _ HW.out.1).mono ?_
  rintro e u3 ⟨v1, rfl, hv1, K⟩
  have HW3 : Hid ((Kept w u3 ∧ Blk u3 w.heap.size (cl n0 n1 n2 n3 n4 n5 n6 n7 (.slice sx sl sc))) ∧ Ws u3 u2.heap.size v1 T f) := ⟨⟨HW.out.1.trans K, HW.out.2.kept K⟩, hv1⟩
  clear HW K hv1 c0 c1 c2 c3 c4 c5 c6 c7 c8 CO
  have HW : Hid (Kept w u3 ∧ Blk u3 w.heap.size (cl n0 n1 n2 n3 n4 n5 n6 n7 (.slice sx sl sc))) := HW3.out.1
  have c0 := HW.out.2.at 0 rfl
  have c1 := HW.out.2.at 1 rfl
  have c2 := HW.out.2.at 2 rfl
  have c3 := HW.out.2.at 3 rfl
  have c4 := HW.out.2.at 4 rfl
  have c5 := HW.out.2.at 5 rfl
  have c6 := HW.out.2.at 6 rfl
  have c7 := HW.out.2.at 7 rfl
  have c8 := HW.out.2.at 8 rfl
  go_wp2_with fail
  refine (CR.out _ HW.out.1).mono ?_
  rintro e u4 ⟨v2, rfl, hv2, K⟩
  have HW4 : Hid ((Kept w u4 ∧ Blk u4 w.heap.size (cl n0 n1 n2 n3 n4 n5 n6 n7 (.slice sx sl sc))) ∧ Ws u4 u2.heap.size v1 T f ∧ Ws u4 u3.heap.size v2 T f) := ⟨⟨HW.out.1.trans K, HW.out.2.kept K⟩, HW3.out.2.kept K, hv2⟩
  clear HW HW3 K hv2 c0 c1 c2 c3 c4 c5 c6 c7 c8 CR
  have HW : Hid (Kept w u4 ∧ Blk u4 w.heap.size (cl n0 n1 n2 n3 n4 n5 n6 n7 (.slice sx sl sc))) := HW4.out.1
  have c0 := HW.out.2.at 0 rfl
  have c1 := HW.out.2.at 1 rfl
  have c2 := HW.out.2.at 2 rfl
  have c3 := HW.out.2.at 3 rfl
  have c4 := HW.out.2.at 4 rfl
  have c5 := HW.out.2.at 5 rfl
  have c6 := HW.out.2.at 6 rfl
  have c7 := HW.out.2.at 7 rfl
  have c8 := HW.out.2.at 8 rfl
  go_wp2_with fail
  refine (CA.out _ HW.out.1).mono ?_
  rintro e u5 ⟨v3, rfl, hv3, K⟩
  have HW5 : Hid ((Kept w u5 ∧ Blk u5 w.heap.size (cl n0 n1 n2 n3 n4 n5 n6 n7 (.slice sx sl sc))) ∧ (Ws u5 u2.heap.size v1 T f ∧ Ws u5 u3.heap.size v2 T f) ∧ Ws u5 u4.heap.size v3 T' f') := ⟨⟨HW.out.1.trans K, HW.out.2.kept K⟩, ⟨HW4.out.2.1.kept K, HW4.out.2.2.kept K⟩, hv3⟩
  clear HW HW4 K hv3 c0 c1 c2 c3 c4 c5 c6 c7 c8 CA
  have HW : Hid (Kept w u5 ∧ Blk u5 w.heap.size (cl n0 n1 n2 n3 n4 n5 n6 n7 (.slice sx sl sc))) := HW5.out.1
  have c0 := HW.out.2.at 0 rfl
  have c1 := HW.out.2.at 1 rfl
  have c2 := HW.out.2.at 2 rfl
  have c3 := HW.out.2.at 3 rfl
  have c4 := HW.out.2.at 4 rfl
  have c5 := HW.out.2.at 5 rfl
  have c6 := HW.out.2.at 6 rfl
  have c7 := HW.out.2.at 7 rfl
  have c8 := HW.out.2.at 8 rfl
  go_wp2_with fail
  refine (CB.out _ HW.out.1).mono ?_
  rintro e u6 ⟨v4, rfl, hv4, K⟩
  have HW6 : Hid (Kept w u6 ∧ (Ws u6 u2.heap.size v1 T f ∧ Ws u6 u3.heap.size v2 T f) ∧ Ws u6 u4.heap.size v3 T' f' ∧ Ws u6 u5.heap.size v4 T' f') := ⟨HW.out.1.trans K, ⟨HW5.out.2.1.1.kept K, HW5.out.2.1.2.kept K⟩, HW5.out.2.2.kept K, hv4⟩
  clear HW HW5 K hv4 c0 c1 c2 c3 c4 c5 c6 c7 c8 CB
  go_wp2_with fail
  refine (first_any _).mono ?_
  rintro e u7 ⟨rfl, K⟩
  have HW7 : Hid (Kept w u7 ∧ (Ws u7 u2.heap.size v1 T f ∧ Ws u7 u3.heap.size v2 T f) ∧ Ws u7 u4.heap.size v3 T' f' ∧ Ws u7 u5.heap.size v4 T' f') := ⟨HW6.out.1.trans K, ⟨HW6.out.2.1.1.kept K, HW6.out.2.1.2.kept K⟩, HW6.out.2.2.1.kept K, HW6.out.2.2.2.kept K⟩
  clear HW6 K
  have er : (r == r) = true := by simp
  have er' : (r' == r') = true := by simp
  go_wp2_with fail
  refine (same_writes HW7.out.2.1.1 HW7.out.2.1.2 (by omega) (fun i _ => HN.out.1 i)).mono ?_
  rintro e u8 ⟨rfl, K⟩
  have HW8 : Hid (Kept w u8 ∧ Ws u8 u4.heap.size v3 T' f' ∧ Ws u8 u5.heap.size v4 T' f') := ⟨HW7.out.1.trans K, HW7.out.2.2.1.kept K, HW7.out.2.2.2.kept K⟩
  clear HW7 K
  go_wp2_with fail
  refine (same_writes HW8.out.2.1 HW8.out.2.2 (by omega) (fun i _ => HN.out.2 i)).mono ?_
  rintro e u9 ⟨rfl, K⟩
  have HK : Hid (Kept w u9) := HW8.out.1.trans K
  clear HW8 K
  go_wp2
  go_ret
  exact ⟨by simp, HK.out⟩
end Go.Proofs.Ytpdclckgnajcdaa
