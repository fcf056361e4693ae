/-
  ShapePlaces's walk.
-/
import Derived.Test.YtnojiabhfkikgaaFirst
import Derived.Outline
import Derived.RegionTactic
import Derived.Deep.RegionWith
import Derived.BigRegion
import Derived.Deep.LoopGhost
namespace Go.Proofs.Ytnojiabhfkikgaa
open Go.RowKit

set_option maxHeartbeats 400000 in
theorem few_any (b : Bool) (x : Option Addr) (l c : Nat) (p : Bool) (w : World) (hp : decide ((l : Int) ≤ 1000) = p) :
    Calls Try.prog 8 #[.agg #[.bool b, .slice x l c]] w fun e w' => e = .returned (.bool p) ∧ Kept w w' := by
  go_enter Try.func8, Try.ntmps8
  go_wp2
  go_ret
  exact ⟨by rw [← hp]; rfl, (Kept.refl _).alloc _ _⟩

/-- What the law keeps in 'met' (block B) before it looks at field k: nothing is met from that field's place on. -/
structure Met (W wr : World) (B : Nat) (k : Int) : Prop where
  kept : Kept W wr
  old : W.heap.size ≤ B
  lt : B < wr.heap.size
  cells : ∃ f : Nat → Bool, (∀ j, j < 48 → wr.cell? ⟨B, j, none⟩ = some (.bool (f j))) ∧ ∀ j : Nat, k + 2 + (k + 1) / 7 ≤ j → f j = false

theorem Met.on {W wr wx : World} {B : Nat} {k : Int} (h : Met W wr B k) (hk : Kept wr wx) : Met W wx B k := by
  obtain ⟨f, h1, h2⟩ := h.cells
  exact ⟨h.kept.trans hk, h.old, Nat.lt_of_lt_of_le h.lt hk.size, f, fun j hj => (hk.cell h.lt).trans (h1 j hj), h2⟩
theorem Met.unfrozen {W wr : World} {B : Nat} {k : Int} (h : Met W wr B k) (o : Nat) : wr.frozen? ⟨B, o, none⟩ = false := by
  rw [h.kept.frozen]
  have := h.old
  simp [World.frozen?, this]
theorem Met.get {W wr : World} {B : Nat} {k i v : Int} (h : Met W wr B k) (h0 : 0 ≤ k) (h1 : k < 40) (hi : (k + 1) / 7 = i) (hv : 1 + (k + 1) % 7 = v) : wr.cell? ⟨B, (8 * i + v).toNat, none⟩ = some (.bool false) := by
  obtain ⟨f, g1, g2⟩ := h.cells
  rw [g1 _ (by omega), g2 _ (by omega)]
theorem Met.set {W wr : World} {B : Nat} {k i v : Int} (h : Met W wr B k) (h0 : 0 ≤ k) (h1 : k < 40) (hi : (k + 1) / 7 = i) (hv : 1 + (k + 1) % 7 = v) : Met W (wr.setCell ⟨B, (8 * i + v).toNat, none⟩ (.bool true)) B (k + 1) := by
  have hg := h.get h0 h1 hi hv
  obtain ⟨f, g1, g2⟩ := h.cells
  refine ⟨h.kept.setCell h.old _, h.old, by simpa [World.setCell] using h.lt, fun j => if j = (8 * i + v).toNat then true else f j, fun j hj => ?_, fun j hj => ?_⟩
  · by_cases e : j = (8 * i + v).toNat
    · subst e
      dsimp only
      rw [if_pos rfl]
      exact World.cell?_setCell_same _ _ _ hg
    · dsimp only
      rw [if_neg e, World.cell?_setCell_other _ _ _ _ (by intro q; injection q with _ q; exact e q.symm)]
      exact g1 j hj
  · dsimp only
    rw [if_neg (by omega), g2 j (by omega)]

set_option maxRecDepth 10000 in
set_option maxHeartbeats 4000000 in
theorem places_in (x : Option Addr) (l c : Nat) (w : World) (h : l ≤ 40) (S : Int) (hS : 1 + (l : Int) / 7 = S) :
    Calls Try.prog 3 #[.agg #[.bool false, .slice x l c]] w fun e w' => e = .returned (.bool true) ∧ Kept w w' := by
  have FW : Hid (∀ w, Calls Try.prog 8 #[.agg #[.bool false, .slice x l c]] w fun e w' => e = .returned (.bool true) ∧ Kept w w') := fun w => few_any false x l c true w (decide_eq_true (by omega))
  have M : Hid (∀ w, Calls Try.prog 9 #[.agg #[.bool false, .slice x l c]] w fun e w' => e = .returned (.bool true) ∧ Kept w w') := fun w => by
    have := may_obj x l c w
    rwa [decide_eq_true (by omega : (l : Int) ≤ 40)] at this
  have SZ : Hid (∀ w, Calls Try.prog 10 #[.agg #[.bool false, .slice x l c], .int .i64 0] w _) := fun w => size_obj x l c S w h hS
  have s1 : ¬ S < 1 := by omega
  have s2 : ¬ S > 6 := by omega
  have s3 : ¬ 6 + 7 * (S - 1) < (l : Int) := by omega
  have s4 : S > 1 → ¬ 6 + 7 * (S - 2) ≥ (l : Int) := by omega
  go_enter Try.func3, Try.ntmps3
  go_wp2_with fail
  refine (first_any _).mono ?_
  rintro e w1 ⟨rfl, k1⟩
  generalize hW : w.alloc (Obj.cells #[Value.bool false, Value.slice x l c] 24) = W at k1
  have u0 : w.heap.size < W.heap.size := by rw [← hW]; simp
  have q0 : W.cell? ⟨w.heap.size, 0, none⟩ = some (.bool false) := by rw [← hW]; simp
  have q1 : W.cell? ⟨w.heap.size, 1, none⟩ = some (.slice x l c) := by rw [← hW]; simp
  have A0 : Hid (∀ x : KW W, _) := fun x : KW W => x.cell u0 q0
  have A1 : Hid (∀ x : KW W, _) := fun x : KW W => x.cell u0 q1
  have kW : Hid (Kept w W) := by rw [← hW]; exact (Kept.refl w).alloc _ _
  clear u0 q0 q1 hW
  have c0 := A0.out ⟨w1, k1⟩
  have c1 := A1.out ⟨w1, k1⟩
  go_wp2_with fail
  refine (FW.out _).mono ?_
  rintro e w2 ⟨rfl, k2⟩
  replace k2 := k1.trans k2
  clear c0 c1 k1
  have c0 := A0.out ⟨w2, k2⟩
  have c1 := A1.out ⟨w2, k2⟩
  go_wp2_with fail
  refine (M.out _).mono ?_
  rintro e w3 ⟨rfl, k3⟩
  replace k3 := k2.trans k3
  clear c0 c1 k2
  have c0 := A0.out ⟨w3, k3⟩
  have c1 := A1.out ⟨w3, k3⟩
  go_wp2_with fail
  refine (SZ.out _).mono ?_
  rintro e w4 ⟨rfl, k4⟩
  replace k4 := k3.trans k4
  clear c0 c1 k3
  have c0 := A0.out ⟨w4, k4⟩
  have c1 := A1.out ⟨w4, k4⟩
  have hl : (l : Int) ≤ 40 := by omega
  have PI : Hid (∀ k : Int, 0 ≤ k → k < l → ∃ i v : Int, ((k + 1) / 7 = i ∧ 1 + (k + 1) % 7 = v) ∧ i < S ∧ ∀ w, Calls Try.prog 11 #[.agg #[.bool false, .slice x l c], .int .i64 k] w fun e w' => e = .returned (.tuple #[.int .i64 i, .int .i64 v, .bool true]) ∧ Kept w w') :=
    fun k h0 h1 => ⟨_, _, ⟨rfl, rfl⟩, by omega, fun w => place_in x l c k _ _ w h h0 h1 rfl rfl⟩
  have PO : Hid (∀ w, Calls Try.prog 11 #[.agg #[.bool false, .slice x l c], .int .i64 l] w _) := fun w => place_out x l c l w h (Or.inr (by omega))
  have sS : S ≤ 6 := by omega
  clear hS
  by_cases hS1 : S > 1
  · have s5 := s4 hS1
    clear s4
    go_wp2_with fail
    generalize hZ : w4.alloc _ = Z
    have m0 : Met W Z w4.heap.size 0 := by
      rw [← hZ]
      refine ⟨k4.alloc _ _, k4.size, by simp, fun _ => false, fun j hj => ?_, fun _ _ => rfl⟩
      rw [(Kept.refl _).own j]
      show (Array.replicate 48 (Value.bool false))[j]? = _
      simp [hj]
    clear hZ c0 c1
    generalize w4.heap.size = B at *
    go_loopg [5] l (fun m i wr => ∃ k : Int, i = .int .i64 k ∧ 0 ≤ k ∧ k ≤ l ∧ (m : Int) = l - k ∧ Hid (Met W wr B k))
    case atStart => exact ⟨0, rfl, by omega, by omega, by omega, m0⟩
    case round =>
      obtain ⟨k, rfl, hk0, hk1, hm, KK⟩ := hrel
      have HM : Hid _ := hm
      clear hm m0
      have c0 := A0.out ⟨wr, KK.out.kept⟩
      have c1 := A1.out ⟨wr, KK.out.kept⟩
      by_cases hlt : k < (l : Int)
      · obtain ⟨i, v, HE, hiS, PL⟩ := PI.out k hk0 hlt
        have PL : Hid _ := PL
        have i0 : ¬ i < 0 := by omega
        have i1 : ¬ i ≥ S := by omega
        have v0 : ¬ v < 1 := by omega
        have v1 : ¬ v > 7 := by omega
        have iv : i = 0 → ¬ v < 2 := by omega
        have HE : Hid _ := HE
        go_wp2_with fail
        refine (PL.out _).mono ?_
        rintro e w5 ⟨rfl, K3⟩
        have M5 : Hid (Met W w5 B k) := KK.out.on K3
        clear K3 c0 c1
        have f0 := M5.out.unfrozen (8 * i + v).toNat
        have g0 := M5.out.get hk0 (by omega) HE.out.1 HE.out.2
        by_cases iz : i = 0
        · have v2 := iv iz
          have iz' : (i == 0) = true := by simp [iz]
          clear iv iz
          go_wp2
          go_roundg (gk - 1)
          case measure => have := HM.out; omega
          case rel => have := HM.out; exact ⟨k + 1, by go_num, by omega, by omega, by omega, M5.out.set hk0 (by omega) HE.out.1 HE.out.2⟩
        · have iz' : (i == 0) = false := by simp [iz]
          clear iv
          go_wp2
          go_roundg (gk - 1)
          case measure => have := HM.out; omega
          case rel => have := HM.out; exact ⟨k + 1, by go_num, by omega, by omega, by omega, M5.out.set hk0 (by omega) HE.out.1 HE.out.2⟩
      · go_wp2_with fail
        refine (PO.out _).mono ?_
        rintro e w5 ⟨rfl, K3⟩
        go_wp2_with fail
        refine (first_any _).mono ?_
        rintro e w6 ⟨rfl, K4⟩
        go_wp2
        go_ret
        exact ⟨rfl, kW.out.trans (KK.out.kept.trans (K3.trans K4))⟩
  · clear s4
    go_wp2_with fail
    generalize hZ : w4.alloc _ = Z
    have m0 : Met W Z w4.heap.size 0 := by
      rw [← hZ]
      refine ⟨k4.alloc _ _, k4.size, by simp, fun _ => false, fun j hj => ?_, fun _ _ => rfl⟩
      rw [(Kept.refl _).own j]
      show (Array.replicate 48 (Value.bool false))[j]? = _
      simp [hj]
    clear hZ c0 c1
    generalize w4.heap.size = B at *
    go_loopg [5] l (fun m i wr => ∃ k : Int, i = .int .i64 k ∧ 0 ≤ k ∧ k ≤ l ∧ (m : Int) = l - k ∧ Hid (Met W wr B k))
    case atStart => exact ⟨0, rfl, by omega, by omega, by omega, m0⟩
    case round =>
      obtain ⟨k, rfl, hk0, hk1, hm, KK⟩ := hrel
      have HM : Hid _ := hm
      clear hm m0
      have c0 := A0.out ⟨wr, KK.out.kept⟩
      have c1 := A1.out ⟨wr, KK.out.kept⟩
      by_cases hlt : k < (l : Int)
      · obtain ⟨i, v, HE, hiS, PL⟩ := PI.out k hk0 hlt
        have PL : Hid _ := PL
        have i0 : ¬ i < 0 := by omega
        have i1 : ¬ i ≥ S := by omega
        have v0 : ¬ v < 1 := by omega
        have v1 : ¬ v > 7 := by omega
        have iv : i = 0 → ¬ v < 2 := by omega
        have HE : Hid _ := HE
        go_wp2_with fail
        refine (PL.out _).mono ?_
        rintro e w5 ⟨rfl, K3⟩
        have M5 : Hid (Met W w5 B k) := KK.out.on K3
        clear K3 c0 c1
        have f0 := M5.out.unfrozen (8 * i + v).toNat
        have g0 := M5.out.get hk0 (by omega) HE.out.1 HE.out.2
        by_cases iz : i = 0
        · have v2 := iv iz
          have iz' : (i == 0) = true := by simp [iz]
          clear iv iz
          go_wp2
          go_roundg (gk - 1)
          case measure => have := HM.out; omega
          case rel => have := HM.out; exact ⟨k + 1, by go_num, by omega, by omega, by omega, M5.out.set hk0 (by omega) HE.out.1 HE.out.2⟩
        · omega
      · go_wp2_with fail
        refine (PO.out _).mono ?_
        rintro e w5 ⟨rfl, K3⟩
        go_wp2_with fail
        refine (first_any _).mono ?_
        rintro e w6 ⟨rfl, K4⟩
        go_wp2
        go_ret
        exact ⟨rfl, kW.out.trans (KK.out.kept.trans (K3.trans K4))⟩
set_option maxHeartbeats 1000000 in
/-- An array, too many fields: nothing is asked. -/
theorem places_out (q : Bool) (x : Option Addr) (l c : Nat) (w : World) (h : q = false → 40 < l) :
    Calls Try.prog 3 #[.agg #[.bool q, .slice x l c]] w fun e w' => e = .returned (.bool true) ∧ Kept w w' := by
  obtain ⟨f, hf⟩ : ∃ f, decide ((l : Int) ≤ 1000) = f := ⟨_, rfl⟩
  have FW : Hid (∀ w, Calls Try.prog 8 #[.agg #[.bool q, .slice x l c]] w fun e w' => e = .returned (.bool f) ∧ Kept w w') := fun w => few_any q x l c f w hf
  obtain ⟨p, hp, M⟩ : ∃ p : Bool, (q = false → p = false) ∧ ∀ w, Calls Try.prog 9 #[.agg #[.bool q, .slice x l c]] w fun e w' => e = .returned (.bool p) ∧ Kept w w' := by
    cases q
    · refine ⟨false, fun _ => rfl, fun w => ?_⟩
      have := may_obj x l c w
      rwa [decide_eq_false (by have := h rfl; omega : ¬ (l : Int) ≤ 40)] at this
    · exact ⟨_, fun h => by simp at h, fun w => may_arr x l c w⟩
  have M : Hid _ := M
  clear h hf
  have rest : ∀ w1, Kept (w.alloc (Obj.cells #[Value.bool q, Value.slice x l c] 24)) w1 → w1.cell? ⟨w.heap.size, 0, none⟩ = some (.bool q) ∧ w1.cell? ⟨w.heap.size, 1, none⟩ = some (.slice x l c) := fun w1 k1 => ⟨by rw [k1.own]; rfl, by rw [k1.own]; rfl⟩
  have R : Hid _ := rest
  clear rest
  have fin : ∀ w1, Kept (w.alloc (Obj.cells #[Value.bool q, Value.slice x l c] 24)) w1 → Kept w w1 := fun _ k => k.ofAlloc
  have FI : Hid _ := fin
  clear fin
  go_enter Try.func3, Try.ntmps3
  go_wp2_with fail
  refine (first_any _).mono ?_
  rintro e w1 ⟨rfl, k1⟩
  obtain ⟨c0, c1⟩ := R.out w1 k1
  go_wp2_with fail
  refine (FW.out _).mono ?_
  rintro e w2 ⟨rfl, k2⟩
  replace k2 := k1.trans k2
  clear c0 c1 k1
  cases f
  · go_wp2_with fail
    refine (first_any _).mono ?_
    rintro e w3 ⟨rfl, k3⟩
    replace k3 := k2.trans k3
    go_wp2
    go_ret
    exact ⟨rfl, FI.out _ k3⟩
  · obtain ⟨c0, c1⟩ := R.out w2 k2
    go_wp2_with fail
    refine (M.out _).mono ?_
    rintro e w3 ⟨rfl, k3⟩
    replace k3 := k2.trans k3
    clear c0 c1 k2
    cases p
    · go_wp2_with fail
      refine (first_any _).mono ?_
      rintro e w4 ⟨rfl, k4⟩
      replace k4 := k3.trans k4
      go_wp2
      go_ret
      exact ⟨rfl, FI.out _ k4⟩
    · obtain rfl : q = true := by cases q; · exact absurd (hp rfl) (by decide)
                                  · rfl
      clear hp
      obtain ⟨c0, c1⟩ := R.out w3 k3
      go_wp2_with fail
      refine (first_any _).mono ?_
      rintro e w4 ⟨rfl, k4⟩
      replace k4 := k3.trans k4
      go_wp2
      go_ret
      exact ⟨rfl, FI.out _ k4⟩

theorem places_any (q : Bool) (x : Option Addr) (l c : Nat) (w : World) :
    Calls Try.prog 3 #[.agg #[.bool q, .slice x l c]] w fun e w' => e = .returned (.bool true) ∧ Kept w w' := by
  by_cases h : q = false → 40 < l
  · exact places_out q x l c w h
  · obtain rfl : q = false := by cases q; · rfl
                                 · exact absurd (fun h => by simp at h) h
    exact places_in x l c w (by have : ¬ 40 < l := fun g => h (fun _ => g)
                                omega) _ rfl

end Go.Proofs.Ytnojiabhfkikgaa
