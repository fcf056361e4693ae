/-
  The laws' own 'first' of package spolaw12 returns true; what was there is kept.
-/
import Derived.Test.YtpdclckgnajcdaaPlan5
import Derived.Test.YtpdclckgnajcdaaFew12
namespace Go.Proofs.Ytpdclckgnajcdaa
open Go.RowKit

def F0 : Nat → Sh := fun _ => ⟨false, none, 0, 0⟩
def G0 : Nat → Int := fun _ => 2
theorem asks_first : Asks (AG 4 0 0 1 1 0 1 0 1 F0 G0 1) (AK 1 F0 0 false) (AI F0 0 0 false) (AF F0 0 0 false G0 1) 0 := by
  refine ⟨fun h => absurd ?_ h, fun _ h => absurd ?_ h, fun _ _ h => absurd ?_ h, fun _ _ _ h => absurd ?_ h, fun _ _ _ _ => rfl⟩
  · exact ⟨⟨by unfold Fits; decide, mays_one _ (by decide)⟩, fun j _ => by unfold G0; decide⟩
  · exact ⟨by decide, by decide, rfl⟩
  · unfold AI; decide
  · exact ⟨by decide, fun ⟨i, j, h1, h2, _⟩ => by omega⟩

set_option maxHeartbeats 2000000 in
theorem first_any (w : World) : Calls Try.prog 10 #[] w fun e w' => e = .returned (.bool true) ∧ Kept w w' := by
  have C0 : Hid (∀ w sx xb, Shps w sx 1 F0 → xb < w.heap.size → w.cell? ⟨xb, 0, none⟩ = some (.int .i64 2) → Calls Try.prog 12 #[.agg #[.int .i64 4, .int .i64 0, .int .i64 0, .int .i64 1, .int .i64 1, .int .i64 0, .int .i64 1, .int .i64 0, .slice sx 1 1], .int .i64 0, .slice (some ⟨xb, 0, none⟩) 1 1] w _) := fun w sx xb hS hb hc =>
    object_yes 4 0 0 1 1 0 1 0 sx 1 1 F0 (fun _ _ => false) 0 (L := G0) (c := 1) w hS (fun i hi h => absurd h (by simp [F0])) (by decide) (by decide) (fun _ => ⟨xb, 0, rfl, hb, fun j hj => by
      obtain rfl : j = 0 := by omega
      exact hc⟩) asks_first
  go_enter Try.func10, Try.ntmps10
  go_wp2_with fail
  generalize hW0 : w.alloc (Obj.cells #[Value.bool false, Value.slice none 0 0] _) = W0
  have S0 : Shps W0 (some ⟨w.heap.size, 0, none⟩) 1 F0 := by
    rw [← hW0]
    exact shps_one ⟨false, none, 0, 0⟩ (by simp) (by simp) (by simp)
  have k0 : Kept w W0 := by rw [← hW0]; exact (Kept.refl w).alloc _ _
  have hz : w.heap.size + 1 = W0.heap.size := by rw [← hW0]; simp
  clear hW0
  generalize hW1 : W0.alloc _ = W1
  have k1 : Kept W0 W1 := by rw [← hW1]; exact (Kept.refl W0).alloc _ _
  have hz1 : w.heap.size + 1 + 1 = W1.heap.size := by rw [← hW1, hz]; simp
  clear hW1
  rw [hz1]
  generalize hW2 : W1.alloc _ = W2
  have k2 : Kept W1 W2 := by rw [← hW2]; exact (Kept.refl W1).alloc _ _
  have c2 : W2.cell? ⟨W1.heap.size, 0, none⟩ = some (.int .i64 2) := by rw [← hW2]; simp
  have hb : W1.heap.size < W2.heap.size := by rw [← hW2]; simp
  clear hW2
  have HK : Hid (Kept w W2) := (k0.trans k1).trans k2
  refine (C0.out _ _ _ ((S0.kept k1).kept k2) hb c2).mono ?_
  rintro e w3 ⟨v, rfl, hv, K⟩
  obtain ⟨g, d, rfl, _, _, hc⟩ := hv.here (by decide)
  have a0 := (hc 0 (by decide)).1
  have a7 := (hc 7 (by decide)).1
  have K3 : Hid (Kept w w3) := HK.out.trans K
  have e0 : (objF 0 ((fun _ _ => false) (0 : Int).toNat) G0 1 (F0 (0 : Int).toNat).l 0).a = 16 := rfl
  have e7 : (objF 0 ((fun _ _ => false) (0 : Int).toNat) G0 1 (F0 (0 : Int).toNat).l 7).a = 23 := rfl
  rw [e0] at a0
  rw [e7] at a7
  clear hv hc K S0 k0 k1 k2 c2 hb hz hz1 e0 e7 HK C0
  go_wp2
  go_ret
  exact ⟨rfl, K3.out⟩
end Go.Proofs.Ytpdclckgnajcdaa
