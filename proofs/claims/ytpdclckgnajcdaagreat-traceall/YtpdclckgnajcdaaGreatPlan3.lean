/-
  Contracts of package plan: the eight words of a fragment, writes laid one behind the other.
-/
import Derived.Test.YtpdclckgnajcdaaGreatPlan2
namespace Go.Proofs.YtpdclckgnajcdaaGreat
open Go.RowKit

theorem run_store_complex {P : Program} {w : World} {a : Addr} {m : Mode} (k : FloatKind) (x y : Nat) : (store a (.complex k x y) m).run P w = stored P w a (.complex k x y) m := run_store P w a _ m rfl
attribute [local go_sem] run_store_complex

def eight (F : Nat → Cx) : List Value :=
  [.complex .f64 (F 0).re (F 0).im, .complex .f64 (F 1).re (F 1).im, .complex .f64 (F 2).re (F 2).im, .complex .f64 (F 3).re (F 3).im, .complex .f64 (F 4).re (F 4).im, .complex .f64 (F 5).re (F 5).im, .complex .f64 (F 6).re (F 6).im, .complex .f64 (F 7).re (F 7).im]
theorem lt8 {v : Nat} (h : v < 8) : v = 0 ∨ v = 1 ∨ v = 2 ∨ v = 3 ∨ v = 4 ∨ v = 5 ∨ v = 6 ∨ v = 7 := by omega
theorem eight_congr {F G : Nat → Cx} (h : ∀ j, j < 8 → F j = G j) : eight F = eight G := by
  simp only [eight]
  rw [h 0 (by omega), h 1 (by omega), h 2 (by omega), h 3 (by omega), h 4 (by omega), h 5 (by omega), h 6 (by omega), h 7 (by omega)]
theorem eight_get (F : Nat → Cx) {v : Nat} (h : v < 8) : (eight F)[v]? = some (.complex .f64 (F v).re (F v).im) := by
  rcases lt8 h with rfl | rfl | rfl | rfl | rfl | rfl | rfl | rfl <;> rfl
theorem eight_set (F : Nat → Cx) (z : Cx) {v : Nat} (h : v < 8) : (eight F).set v (.complex .f64 z.re z.im) = eight fun j => if j = v then z else F j := by
  rcases lt8 h with rfl | rfl | rfl | rfl | rfl | rfl | rfl | rfl <;> rfl
theorem Blk.put {w : World} {b : Nat} {F G : Nat → Cx} (h : Blk w b (eight F)) {v : Nat} (hv : v < 8) (z : Cx) (he : ∀ j, j < 8 → (if j = v then z else F j) = G j) : Blk (w.setCell ⟨b, v, none⟩ (.complex .f64 z.re z.im)) b (eight G) := by
  have := h.set (eight_get F hv) (.complex .f64 z.re z.im)
  rw [eight_set F z hv, eight_congr he] at this
  exact this

theorem run_loadVar_arr {P : Program} (w : World) (g : Nat) (ty : TypeId) (L : List Value) {n : Nat} {e : TypeId} (hb : Blk w g L) (hu : P.underlying ty = some (.array n e)) (hi : (P.info? ty).map (·.size) = some L.length) :
    (loadVar ty ⟨g, 0, none⟩).run P w = .ok (.agg L.toArray) w := by
  have hl : (loadCells ⟨g, 0, none⟩ L.length).run P w = .ok L.toArray w :=
    run_loadCells_list (P := P) w ⟨g, 0, none⟩ L (fun j v hv => by
      have hadd : (⟨g, 0, none⟩ : Addr).add j = ⟨g, j, none⟩ := by unfold Addr.add; split <;> simp_all
      rw [hadd]
      exact hb.cells j v hv)
  cases hq : P.info? ty with
  | none => simp [hq] at hi
  | some i =>
    have hs : i.size = L.length := by simpa [hq] using hi
    have hagg : (isAgg ty).run P w = .ok true w := by simp [isAgg, run_underlying hu]
    simp [loadVar, hagg, sizeOf, typeInfo, hq, hs, hl]
theorem results_arr {P : Program} {fn : Func} {p : Tmp} {ty : TypeId} (h : fn.results = #[.cell p ty]) (tmps : Array Value) (w : World) (g : Nat) (L : List Value) {n : Nat} {e : TypeId}
    (hp : tmps.getD p undef = .pointer (some ⟨g, 0, none⟩)) (hb : Blk w g L) (hu : P.underlying ty = some (.array n e)) (hi : (P.info? ty).map (·.size) = some L.length) :
    (results fn tmps).run P w = .ok (.agg L.toArray) w := by
  have hp' : tmps[p]?.getD undef = .pointer (some ⟨g, 0, none⟩) := by simpa using hp
  simp [results, h, hp', asAddr, run_loadVar_arr w g ty L hb hu hi]

/-- Word j of fragment i of an object, its first m fields set. -/
def objW (kind : Int) (R : Nat → Bool) (L : Nat → Int) (l m i j : Nat) : Cx :=
  if j = 0 then refAt L l (i + 1) else if i = 0 ∧ j = 1 then ch kind (modeO L l) else if 7 * i + j < m + 2 then un (R (7 * i + j - 2)) else cz

theorem objW_step {kind : Int} {R : Nat → Bool} {L : Nat → Int} {l m i : Nat} (h : (m + 1) / 7 = i) (j : Nat) :
    (if j = 1 + (m + 1) % 7 then un (R m) else objW kind R L l m i j) = objW kind R L l (m + 1) i j := by
  unfold objW
  by_cases e : j = 1 + (m + 1) % 7
  · have e0 : ¬ j = 0 := by omega
    have e1 : ¬ (i = 0 ∧ j = 1) := by omega
    have e2 : 7 * i + j < m + 1 + 2 := by omega
    have e3 : 7 * i + j - 2 = m := by omega
    rw [if_pos e, if_neg e0, if_neg e1, if_pos e2, e3]
  · rw [if_neg e]
    by_cases e0 : j = 0
    · simp [e0]
    · by_cases e1 : i = 0 ∧ j = 1
      · simp [e1]
      · have : (7 * i + j < m + 1 + 2) ↔ (7 * i + j < m + 2) := by omega
        simp only [if_neg e0, if_neg e1, this]
theorem objW_skip {kind : Int} {R : Nat → Bool} {L : Nat → Int} {l m i : Nat} (h : (m + 1) / 7 ≠ i) (j : Nat) (hj : j < 8) : objW kind R L l m i j = objW kind R L l (m + 1) i j := by
  unfold objW
  by_cases e0 : j = 0
  · simp [e0]
  · by_cases e1 : i = 0 ∧ j = 1
    · simp [e1]
    · have : (7 * i + j < m + 1 + 2) ↔ (7 * i + j < m + 2) := by omega
      simp only [if_neg e0, if_neg e1, this]

set_option maxHeartbeats 2000000 in
theorem begin_any (n0 n1 n2 n3 n4 n5 n6 n7 : Int) (sx : Option Addr) (sl sc : Nat) (S : Nat → Sh) (f : Int) (w : World) (hS : Shps w sx sl S) (hg : Good n0 n1 n2 n3 n4 n5 n6 n7 sl S) (h0 : 0 ≤ f) (h1 : f < n0) :
    Calls Tryz.prog 33 #[.agg #[.int .i64 n0, .int .i64 n1, .int .i64 n2, .int .i64 n3, .int .i64 n4, .int .i64 n5, .int .i64 n6, .int .i64 n7, .slice sx sl sc], .int .i64 f] w fun e w' => e = .returned (.int .i64 (f * 8)) ∧ Kept w w' := by
  have C0 : Hid (∀ w', Kept w w' → Calls Tryz.prog 48 #[.agg #[.int .i64 n0, .int .i64 n1, .int .i64 n2, .int .i64 n3, .int .i64 n4, .int .i64 n5, .int .i64 n6, .int .i64 n7, .slice sx sl sc], .int .i64 f, .int .i64 0] w' _) := fun w' k => frag_any n0 n1 n2 n3 n4 n5 n6 n7 sx sl sc S f 0 _ _ w' (hS.kept k) (At.is _ ⟨hg, ⟨h0, h1⟩, by omega, by omega⟩)
  clear hS hg h0 h1
  go_enter Tryz.func33, Tryz.ntmps33
  go_wp2_with fail
  refine (C0.out _ ((Kept.refl w).alloc _ _)).mono ?_
  rintro e w' ⟨rfl, K⟩
  go_wp2
  go_ret
  exact ⟨by simp, K.ofAlloc⟩

set_option maxHeartbeats 2000000 in
theorem objectWords_any (kind : Int) (g fl : Nat) (R : Nat → Bool) {x : Option Addr} {l c : Nat} {L : Nat → Int} (i : Nat) (w : World) (hk : 0 ≤ kind ∧ kind ≤ 1000) (hf : fl ≤ 40) (hR : Refs w (some ⟨g, 0, none⟩) fl R)
    (hx : Rdf w x l L) (hi : i < l) (hl : l ≤ 100) (hL : ∀ j, j < l → 0 ≤ L j ∧ L j ≤ 1024) :
    Calls Tryz.prog 31 #[.int .i64 kind, .agg #[.bool false, .slice (some ⟨g, 0, none⟩) fl fl], .slice x l c, .int .i64 i] w fun e w' => e = .returned (.agg (eight (objW kind R L l fl i)).toArray) ∧ Kept w w' := by
  have C0 : Hid (∀ w', Kept w w' → Calls Tryz.prog 57 #[.slice x l c, .int .i64 ((i : Int) + 1)] w' _) := fun w' k => reference_any (c := c) (i + 1) w' (hx.kept k) hL
  have C1 : Hid (∀ w', Kept w w' → Calls Tryz.prog 59 #[.slice x l c] w' _) := fun w' k => objectMode_any (c := c) w' (by omega) (hx.kept k) (fun j hj => by
    have := hL j hj
    have e1 : IntKind.min .i64 = -9223372036854775808 := by decide
    have e2 : IntKind.max .i64 = 9223372036854775807 := by decide
    rw [e1, e2]
    omega)
  have hm : 0 ≤ modeO L l ∧ modeO L l ≤ 1 := by unfold modeO; split <;> omega
  have C2 : Hid (∀ w, Calls Tryz.prog 58 #[.int .i64 kind, .int .i64 (modeO L l)] w _) := fun w => head_in kind (modeO L l) w (by omega) (by omega) (by omega) (by omega)
  have C3 : Hid (∀ k a b : Nat, k < fl → (k + 1) / 7 = a → 1 + (k + 1) % 7 = b → ∀ w, Calls Tryz.prog 60 #[.agg #[.bool false, .slice (some ⟨g, 0, none⟩) fl fl], .int .i64 k] w _) := fun k a b hk ha hb w => place_in (some ⟨g, 0, none⟩) fl fl k a b w hf (by omega) (by omega) (by omega) (by omega)
  have HR : Hid (Refs w (some ⟨g, 0, none⟩) fl R) := hR
  clear hx hR hL
  go_enter Tryz.func31, Tryz.ntmps31
  go_wp2_with fail
  generalize hW0 : w.alloc (Obj.cells #[Value.bool false, _] _) = W0
  have z0 : W0.heap.size = w.heap.size + 1 := by rw [← hW0]; simp
  have b0 : Blk W0 w.heap.size [.bool false, .slice (some ⟨g, 0, none⟩) fl fl] := by rw [← hW0]; exact Blk.new w _ _
  have k0 : Kept w W0 := by rw [← hW0]; exact (Kept.refl w).alloc _ _
  clear hW0
  generalize hW1 : W0.alloc _ = W1
  have z1 : W1.heap.size = w.heap.size + 1 + 1 := by rw [← hW1]; simp [z0]
  have b1 : Blk W1 (w.heap.size + 1) (eight fun _ => cz) := by rw [← hW1, ← z0]; exact Blk.new W0 (eight fun _ => cz) _
  have k1 : Kept W0 W1 := by rw [← hW1]; exact (Kept.refl W0).alloc _ _
  clear hW1
  generalize hW2 : W1.alloc _ = W2
  have b2 : Blk W2 (w.heap.size + 1 + 1) (eight fun _ => cz) := by rw [← hW2, ← z1]; exact Blk.new W1 (eight fun _ => cz) _
  have k2 : Kept W1 W2 := by rw [← hW2]; exact (Kept.refl W1).alloc _ _
  have HW : Hid (Kept w W2 ∧ Blk W2 w.heap.size [.bool false, .slice (some ⟨g, 0, none⟩) fl fl] ∧ Blk W2 (w.heap.size + 1) (eight fun _ => cz) ∧ Blk W2 (w.heap.size + 1 + 1) (eight fun _ => cz)) := ⟨(k0.trans k1).trans k2, (b0.kept k1).kept k2, b1.kept k2, b2⟩
  clear hW2 z0 z1 b0 b1 b2 k0 k1 k2
  refine (C0.out _ HW.out.1).mono ?_
  rintro e w3 ⟨rfl, rfl⟩
  have d0 := HW.out.2.2.2.at 0 rfl
  have f0 := HW.out.2.2.2.fz
  by_cases hi0 : i = 0
  · have ei : ((i : Int) == 0) = true := by simp [hi0]
    have HI : Hid (i = 0) := hi0
    clear hi0
    go_wp2_with fail
    generalize hW4 : w3.setCell _ _ = W4
    have HW4 : Hid (Kept w W4 ∧ Blk W4 w.heap.size [.bool false, .slice (some ⟨g, 0, none⟩) fl fl] ∧ Blk W4 (w.heap.size + 1) (eight fun _ => cz) ∧ Blk W4 (w.heap.size + 1 + 1) (eight fun j => if j = 0 then refAt L l (i + 1) else cz)) := by
      rw [← hW4]
      exact ⟨HW.out.1.setCell (by simp; omega) _, HW.out.2.1.set_other (by simp <;> omega) _, HW.out.2.2.1.set_other (by simp <;> omega) _, HW.out.2.2.2.put (by omega) (refAt L l (i + 1)) fun _ _ => rfl⟩
    clear hW4 HW d0 f0
    refine (C1.out _ HW4.out.1).mono ?_
    rintro e w5 ⟨rfl, K⟩
    have HW5 : Hid (Kept w w5 ∧ Blk w5 w.heap.size [.bool false, .slice (some ⟨g, 0, none⟩) fl fl] ∧ Blk w5 (w.heap.size + 1) (eight fun _ => cz) ∧ Blk w5 (w.heap.size + 1 + 1) (eight fun j => if j = 0 then refAt L l (i + 1) else cz)) := ⟨HW4.out.1.trans K, HW4.out.2.1.kept K, HW4.out.2.2.1.kept K, HW4.out.2.2.2.kept K⟩
    clear HW4 K
    go_wp2_with fail
    refine (C2.out _).mono ?_
    rintro e w6 ⟨rfl, rfl⟩
    have d1 := HW5.out.2.2.2.at 1 rfl
    have f0 := HW5.out.2.2.2.fz
    have s1 := HW5.out.2.1.at 1 rfl
    go_wp2_with fail
    generalize hW7 : w6.setCell _ _ = W7
    have HW7 : Hid (Kept w W7 ∧ Blk W7 w.heap.size [.bool false, .slice (some ⟨g, 0, none⟩) fl fl] ∧ Blk W7 (w.heap.size + 1) (eight fun _ => cz) ∧ Blk W7 (w.heap.size + 1 + 1) (eight (objW kind R L l 0 i))) := by
      rw [← hW7]
      refine ⟨HW5.out.1.setCell (by simp; omega) _, HW5.out.2.1.set_other (by simp <;> omega) _, HW5.out.2.2.1.set_other (by simp <;> omega) _, HW5.out.2.2.2.put (by omega) (ch kind (modeO L l)) fun j hj => ?_⟩
      unfold objW
      have := HI.out
      by_cases e1 : j = 1
      · simp [e1, this]
      · by_cases e0 : j = 0
        · simp [e0]
        · have e2 : ¬ (i = 0 ∧ j = 1) := by omega
          have e3 : ¬ 7 * i + j < 0 + 2 := by omega
          rw [if_neg e1, if_neg e0, if_neg e0, if_neg e2, if_neg e3]
    clear hW7 HW5 d1 f0 s1
    go_loopg [30] fl (fun m v wr => ∃ k : Nat, v = .int .i64 k ∧ k ≤ fl ∧ m = fl - k ∧ Hid (Kept w wr ∧ Blk wr w.heap.size [.bool false, .slice (some ⟨g, 0, none⟩) fl fl] ∧ Blk wr (w.heap.size + 1) (eight fun _ => cz) ∧ Blk wr (w.heap.size + 1 + 1) (eight (objW kind R L l k i))))
    case atStart => exact ⟨0, rfl, by omega, by omega, HW7⟩
    case round =>
      obtain ⟨k, rfl, hk0, hm, hw⟩ := hrel
      have HM : Hid _ := hm
      clear hm HW7
      have s0 := hw.out.2.1.at 0 rfl
      have s1 := hw.out.2.1.at 1 rfl
      by_cases hlt : k < fl
      · have c1 : wr.cell? ⟨g, k, none⟩ = some (.bool (R k)) := by
          obtain ⟨g', o', e, hg, cc⟩ := HR.out.kept hw.out.1 (by omega)
          obtain ⟨rfl, rfl⟩ : g = g' ∧ 0 = o' := by simpa using e
          simpa using cc k hlt
        obtain ⟨a, ha⟩ : ∃ a, (k + 1) / 7 = a := ⟨_, rfl⟩
        obtain ⟨b, hb⟩ : ∃ b, 1 + (k + 1) % 7 = b := ⟨_, rfl⟩
        have hb8 : b < 8 := by omega
        have C4 : Hid (∀ w, _) := fun w => C3.out k a b hlt ha hb w
        have HA : Hid ((k + 1) / 7 = a ∧ 1 + (k + 1) % 7 = b) := ⟨ha, hb⟩
        clear ha hb
        go_wp2_with fail
        refine (C4.out _).mono ?_
        rintro e w2 ⟨rfl, K⟩
        have HV : Hid (Kept w w2 ∧ Blk w2 w.heap.size [.bool false, .slice (some ⟨g, 0, none⟩) fl fl] ∧ Blk w2 (w.heap.size + 1) (eight fun _ => cz) ∧ Blk w2 (w.heap.size + 1 + 1) (eight (objW kind R L l k i))) := ⟨hw.out.1.trans K, hw.out.2.1.kept K, hw.out.2.2.1.kept K, hw.out.2.2.2.kept K⟩
        clear K c1 s0 s1 hw C4
        by_cases hai : a = i
        · have ea : ((a : Int) == (i : Int)) = true := by simp [hai]
          have HAI : Hid (a = i) := hai
          clear hai
          go_wp2_with fail
          refine (unset_any (R k) _).mono ?_
          rintro e w4 ⟨rfl, rfl⟩
          have d1 : w4.cell? ⟨w.heap.size + 1 + 1, b, none⟩ = _ := HV.out.2.2.2.at b (eight_get _ hb8)
          have f1 := HV.out.2.2.2.fz
          have HV2 : Hid (Kept w (w4.setCell ⟨w.heap.size + 1 + 1, b, none⟩ (.complex .f64 (un (R k)).re (un (R k)).im)) ∧ Blk (w4.setCell ⟨w.heap.size + 1 + 1, b, none⟩ (.complex .f64 (un (R k)).re (un (R k)).im)) w.heap.size [.bool false, .slice (some ⟨g, 0, none⟩) fl fl] ∧ Blk (w4.setCell ⟨w.heap.size + 1 + 1, b, none⟩ (.complex .f64 (un (R k)).re (un (R k)).im)) (w.heap.size + 1) (eight fun _ => cz) ∧ Blk (w4.setCell ⟨w.heap.size + 1 + 1, b, none⟩ (.complex .f64 (un (R k)).re (un (R k)).im)) (w.heap.size + 1 + 1) (eight (objW kind R L l (k + 1) i))) := by
            refine ⟨HV.out.1.setCell (by simp; omega) _, HV.out.2.1.set_other (by simp <;> omega) _, HV.out.2.2.1.set_other (by simp <;> omega) _, HV.out.2.2.2.put hb8 (un (R k)) fun j hj => ?_⟩
            have e1 := HA.out
            have e2 := HAI.out
            rw [← e1.2]
            exact objW_step (by omega) j
          clear HV
          go_wp2
          go_roundg (gk - 1)
          all_goals (have := HM.out; try omega)
          exact ⟨k + 1, by go_num, by omega, by omega, HV2⟩
        · have ea : ((a : Int) == (i : Int)) = false := by simp; omega
          have HV2 : Hid (Kept w w2 ∧ Blk w2 w.heap.size [.bool false, .slice (some ⟨g, 0, none⟩) fl fl] ∧ Blk w2 (w.heap.size + 1) (eight fun _ => cz) ∧ Blk w2 (w.heap.size + 1 + 1) (eight (objW kind R L l (k + 1) i))) := by
            refine ⟨HV.out.1, HV.out.2.1, HV.out.2.2.1, ?_⟩
            have e1 := HA.out
            rw [← eight_congr (fun j hj => objW_skip (kind := kind) (R := R) (L := L) (l := l) (by omega) j hj)]
            exact HV.out.2.2.2
          clear hai HV
          go_wp2
          go_roundg (gk - 1)
          all_goals (have := HM.out; try omega)
          exact ⟨k + 1, by go_num, by omega, by omega, HV2⟩
      · obtain rfl : k = fl := by omega
        obtain ⟨F, hF⟩ : ∃ F, F = objW kind R L l k i := ⟨_, rfl⟩
        have hw : Hid (Kept w wr ∧ Blk wr w.heap.size [.bool false, .slice (some ⟨g, 0, none⟩) k k] ∧ Blk wr (w.heap.size + 1) (eight fun _ => cz) ∧ Blk wr (w.heap.size + 1 + 1) (eight F)) := by rw [hF]; exact hw
        have HF : Hid (F = objW kind R L l k i) := hF
        clear hF
        have b2 := hw.out.2.2.2
        have b1 := hw.out.2.2.1
        have d0 := b2.at 0 rfl
        have d1 := b2.at 1 rfl
        have d2 := b2.at 2 rfl
        have d3 := b2.at 3 rfl
        have d4 := b2.at 4 rfl
        have d5 := b2.at 5 rfl
        have d6 := b2.at 6 rfl
        have d7 := b2.at 7 rfl
        have q0 := b1.at 0 rfl
        have q1 := b1.at 1 rfl
        have q2 := b1.at 2 rfl
        have q3 := b1.at 3 rfl
        have q4 := b1.at 4 rfl
        have q5 := b1.at 5 rfl
        have q6 := b1.at 6 rfl
        have q7 := b1.at 7 rfl
        have f1 := b1.fz
        clear b1 b2
        go_wp2
        (try simp only [Exit.inBlock, Exit.then])
        refine bodyPost_ret_by (results_arr rfl _ _ (w.heap.size + 1) [_, _, _, _, _, _, _, _] rfl ((((((((hw.out.2.2.1.set (i := 0) rfl _).set (i := 1) rfl _).set (i := 2) rfl _).set (i := 3) rfl _).set (i := 4) rfl _).set (i := 5) rfl _).set (i := 6) rfl _).set (i := 7) rfl _) Tryz.underlying69 (by kernel_rfl)) rfl
          ⟨by rw [← HF.out]; rfl, (((((((hw.out.1.setCell ?_ _).setCell ?_ _).setCell ?_ _).setCell ?_ _).setCell ?_ _).setCell ?_ _).setCell ?_ _).setCell ?_ _⟩
        all_goals simp
  · have ei : ((i : Int) == 0) = false := by simp; omega
    have HI : Hid (i ≠ 0) := hi0
    have s1 := HW.out.2.1.at 1 rfl
    clear hi0
    go_wp2_with fail
    generalize hW7 : w3.setCell _ _ = W7
    have HW7 : Hid (Kept w W7 ∧ Blk W7 w.heap.size [.bool false, .slice (some ⟨g, 0, none⟩) fl fl] ∧ Blk W7 (w.heap.size + 1) (eight fun _ => cz) ∧ Blk W7 (w.heap.size + 1 + 1) (eight (objW kind R L l 0 i))) := by
      rw [← hW7]
      refine ⟨HW.out.1.setCell (by simp; omega) _, HW.out.2.1.set_other (by simp <;> omega) _, HW.out.2.2.1.set_other (by simp <;> omega) _, HW.out.2.2.2.put (by omega) (refAt L l (i + 1)) fun j hj => ?_⟩
      unfold objW
      have := HI.out
      by_cases e0 : j = 0
      · simp [e0]
      · have e2 : ¬ (i = 0 ∧ j = 1) := by omega
        have e3 : ¬ 7 * i + j < 0 + 2 := by omega
        rw [if_neg e0, if_neg e0, if_neg e2, if_neg e3]
    clear hW7 HW d0 f0 s1
    go_loopg [30] fl (fun m v wr => ∃ k : Nat, v = .int .i64 k ∧ k ≤ fl ∧ m = fl - k ∧ Hid (Kept w wr ∧ Blk wr w.heap.size [.bool false, .slice (some ⟨g, 0, none⟩) fl fl] ∧ Blk wr (w.heap.size + 1) (eight fun _ => cz) ∧ Blk wr (w.heap.size + 1 + 1) (eight (objW kind R L l k i))))
    case atStart => exact ⟨0, rfl, by omega, by omega, HW7⟩
    case round =>
      obtain ⟨k, rfl, hk0, hm, hw⟩ := hrel
      have HM : Hid _ := hm
      clear hm HW7
      have s0 := hw.out.2.1.at 0 rfl
      have s1 := hw.out.2.1.at 1 rfl
      by_cases hlt : k < fl
      · have c1 : wr.cell? ⟨g, k, none⟩ = some (.bool (R k)) := by
          obtain ⟨g', o', e, hg, cc⟩ := HR.out.kept hw.out.1 (by omega)
          obtain ⟨rfl, rfl⟩ : g = g' ∧ 0 = o' := by simpa using e
          simpa using cc k hlt
        obtain ⟨a, ha⟩ : ∃ a, (k + 1) / 7 = a := ⟨_, rfl⟩
        obtain ⟨b, hb⟩ : ∃ b, 1 + (k + 1) % 7 = b := ⟨_, rfl⟩
        have hb8 : b < 8 := by omega
        have C4 : Hid (∀ w, _) := fun w => C3.out k a b hlt ha hb w
        have HA : Hid ((k + 1) / 7 = a ∧ 1 + (k + 1) % 7 = b) := ⟨ha, hb⟩
        clear ha hb
        go_wp2_with fail
        refine (C4.out _).mono ?_
        rintro e w2 ⟨rfl, K⟩
        have HV : Hid (Kept w w2 ∧ Blk w2 w.heap.size [.bool false, .slice (some ⟨g, 0, none⟩) fl fl] ∧ Blk w2 (w.heap.size + 1) (eight fun _ => cz) ∧ Blk w2 (w.heap.size + 1 + 1) (eight (objW kind R L l k i))) := ⟨hw.out.1.trans K, hw.out.2.1.kept K, hw.out.2.2.1.kept K, hw.out.2.2.2.kept K⟩
        clear K c1 s0 s1 hw C4
        by_cases hai : a = i
        · have ea : ((a : Int) == (i : Int)) = true := by simp [hai]
          have HAI : Hid (a = i) := hai
          clear hai
          go_wp2_with fail
          refine (unset_any (R k) _).mono ?_
          rintro e w4 ⟨rfl, rfl⟩
          have d1 : w4.cell? ⟨w.heap.size + 1 + 1, b, none⟩ = _ := HV.out.2.2.2.at b (eight_get _ hb8)
          have f1 := HV.out.2.2.2.fz
          have HV2 : Hid (Kept w (w4.setCell ⟨w.heap.size + 1 + 1, b, none⟩ (.complex .f64 (un (R k)).re (un (R k)).im)) ∧ Blk (w4.setCell ⟨w.heap.size + 1 + 1, b, none⟩ (.complex .f64 (un (R k)).re (un (R k)).im)) w.heap.size [.bool false, .slice (some ⟨g, 0, none⟩) fl fl] ∧ Blk (w4.setCell ⟨w.heap.size + 1 + 1, b, none⟩ (.complex .f64 (un (R k)).re (un (R k)).im)) (w.heap.size + 1) (eight fun _ => cz) ∧ Blk (w4.setCell ⟨w.heap.size + 1 + 1, b, none⟩ (.complex .f64 (un (R k)).re (un (R k)).im)) (w.heap.size + 1 + 1) (eight (objW kind R L l (k + 1) i))) := by
            refine ⟨HV.out.1.setCell (by simp; omega) _, HV.out.2.1.set_other (by simp <;> omega) _, HV.out.2.2.1.set_other (by simp <;> omega) _, HV.out.2.2.2.put hb8 (un (R k)) fun j hj => ?_⟩
            have e1 := HA.out
            have e2 := HAI.out
            rw [← e1.2]
            exact objW_step (by omega) j
          clear HV
          go_wp2
          go_roundg (gk - 1)
          all_goals (have := HM.out; try omega)
          exact ⟨k + 1, by go_num, by omega, by omega, HV2⟩
        · have ea : ((a : Int) == (i : Int)) = false := by simp; omega
          have HV2 : Hid (Kept w w2 ∧ Blk w2 w.heap.size [.bool false, .slice (some ⟨g, 0, none⟩) fl fl] ∧ Blk w2 (w.heap.size + 1) (eight fun _ => cz) ∧ Blk w2 (w.heap.size + 1 + 1) (eight (objW kind R L l (k + 1) i))) := by
            refine ⟨HV.out.1, HV.out.2.1, HV.out.2.2.1, ?_⟩
            have e1 := HA.out
            rw [← eight_congr (fun j hj => objW_skip (kind := kind) (R := R) (L := L) (l := l) (by omega) j hj)]
            exact HV.out.2.2.2
          clear hai HV
          go_wp2
          go_roundg (gk - 1)
          all_goals (have := HM.out; try omega)
          exact ⟨k + 1, by go_num, by omega, by omega, HV2⟩
      · obtain rfl : k = fl := by omega
        obtain ⟨F, hF⟩ : ∃ F, F = objW kind R L l k i := ⟨_, rfl⟩
        have hw : Hid (Kept w wr ∧ Blk wr w.heap.size [.bool false, .slice (some ⟨g, 0, none⟩) k k] ∧ Blk wr (w.heap.size + 1) (eight fun _ => cz) ∧ Blk wr (w.heap.size + 1 + 1) (eight F)) := by rw [hF]; exact hw
        have HF : Hid (F = objW kind R L l k i) := hF
        clear hF
        have b2 := hw.out.2.2.2
        have b1 := hw.out.2.2.1
        have d0 := b2.at 0 rfl
        have d1 := b2.at 1 rfl
        have d2 := b2.at 2 rfl
        have d3 := b2.at 3 rfl
        have d4 := b2.at 4 rfl
        have d5 := b2.at 5 rfl
        have d6 := b2.at 6 rfl
        have d7 := b2.at 7 rfl
        have q0 := b1.at 0 rfl
        have q1 := b1.at 1 rfl
        have q2 := b1.at 2 rfl
        have q3 := b1.at 3 rfl
        have q4 := b1.at 4 rfl
        have q5 := b1.at 5 rfl
        have q6 := b1.at 6 rfl
        have q7 := b1.at 7 rfl
        have f1 := b1.fz
        clear b1 b2
        go_wp2
        (try simp only [Exit.inBlock, Exit.then])
        refine bodyPost_ret_by (results_arr rfl _ _ (w.heap.size + 1) [_, _, _, _, _, _, _, _] rfl ((((((((hw.out.2.2.1.set (i := 0) rfl _).set (i := 1) rfl _).set (i := 2) rfl _).set (i := 3) rfl _).set (i := 4) rfl _).set (i := 5) rfl _).set (i := 6) rfl _).set (i := 7) rfl _) Tryz.underlying69 (by kernel_rfl)) rfl
          ⟨by rw [← HF.out]; rfl, (((((((hw.out.1.setCell ?_ _).setCell ?_ _).setCell ?_ _).setCell ?_ _).setCell ?_ _).setCell ?_ _).setCell ?_ _).setCell ?_ _⟩
        all_goals simp
end Go.Proofs.YtpdclckgnajcdaaGreat
