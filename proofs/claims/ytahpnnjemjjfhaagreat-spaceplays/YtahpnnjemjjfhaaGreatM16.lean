/-
  The modules Row, one behind another.
-/
import Derived.Laws.Tables
import Derived.Test.YtahpnnjemjjfhaaGreatM01
import Derived.Test.YtahpnnjemjjfhaaGreatM11
/-
  A region in its own order, walked over a frame that is a variable: each operation's value is given, 'J i' is what is known of the world when i operations are done.
-/
namespace Go.Proofs.YtahpnnjemjjfhaaGreat
open Go.RowKit

theorem wpOps_row {P : Program} {l : List Oper} {Q : Exit → Act → World → Prop} {a0 : Act} {vals : List Value} {J : Nat → World → Prop} (hn : slotsB a0.tmps.size l = true)
    (step : ∀ i o, l[i]? = some o → ∀ a u, Held a0 a l (fun k => decide (k < i)) vals → J i u → wpOp P l.toArray Q i (fun a' w' => a' = a.put o.dst (vals.getD i undef) ∧ J (i + 1) w') a u)
    (fin : ∀ a u, Held a0 a l (fun k => decide (k < l.length)) vals → J l.length u → Q .normal a u) :
    ∀ (m i : Nat), i + m = l.length → ∀ (a : Act) (u : World), Held a0 a l (fun k => decide (k < i)) vals → J i u → wpOps P l.toArray Q (List.range' i m) a u
  | 0, i, h, a, u, hh, hj => by
    obtain rfl : i = l.length := by omega
    exact fin a u hh hj
  | m + 1, i, h, a, u, hh, hj => by
    rw [List.range'_succ, wpOps_cons]
    have hi : i < l.length := by omega
    have ho : l[i]? = some l[i] := List.getElem?_eq_getElem hi
    refine wpOp_mono ?_ (step i _ ho a u hh hj)
    rintro a' w' ⟨rfl, hj'⟩
    refine wpOps_row hn step fin m (i + 1) (by omega) _ _ ?_ hj'
    have e : done (fun k => decide (k < i)) i = (fun k => decide (k < i + 1)) := by
      funext k
      by_cases hk : k = i
      · subst hk; simp [done]
      · simp [done, hk]; omega
    have := hh.put hn ho
    rwa [e] at this

theorem wp_region_row {P : Program} {id : Nat} {l : List Oper} {Q : Exit → Act → World → Prop} {a0 : Act} {w : World} (vals : List Value) (ps : List (Nat × Nat)) (L : List Value) (J : Nat → World → Prop)
    (hn : slotsB a0.tmps.size l = true) (hp : pairsB l ps = true) (hL : patch vals ps 0 a0.tmps.toList = L) (h0 : J 0 w)
    (step : ∀ i o, l[i]? = some o → ∀ a u, Held a0 a l (fun k => decide (k < i)) vals → J i u → wpOp P l.toArray Q i (fun a' w' => a' = a.put o.dst (vals.getD i undef) ∧ J (i + 1) w') a u)
    (fin : ∀ u, J l.length u → Q .normal ⟨L.toArray, a0.defers⟩ u) :
    (Code.region id l.toArray false).wp P Q a0 w := by
  refine wp_region ?_
  rw [List.range_eq_range']
  refine wpOps_row (J := J) hn step (fun a u hh hj => ?_) _ 0 (by simp) a0 w ⟨rfl, rfl, fun i o s _ _ h => absurd h (by simp), fun _ _ => rfl⟩ h0
  rw [hh.patched ps hp (fun i hi => by simpa using hi), hL]
  exact fin u hj

theorem wp_build_to {P : Program} {o : Oper} {a : Act} {w : World} {K : Act → World → Prop} {Q : Exit → Act → World → Prop} (t : TypeId) (parts : Array (Nat × Operand)) (ho : o.op = .build t parts) (cells : Array Value)
    (hf : P.built t (parts.map fun (i, x) => (i, a.eval x)).toList = some cells) (h : K (a.put o.dst (.agg cells)) w) : o.wp P a w K Q :=
  wp_build t parts ho (by rw [hf]; rfl) (by rw [hf]; exact h)

theorem kept_setRow {w w' : World} {g : Nat} (h : Kept w w') (hg : w.heap.size ≤ g) (cs : Array Value) : Kept w (w'.setRow g cs) :=
  ⟨h.below.trans ⟨rfl, rfl, rfl, by simp, fun k hk => setRow_other _ _ _ _ (by omega)⟩⟩
/-- A struct stored whole into a block that was laid just now. -/
theorem wp_store_new {P : Program} {o : Oper} {a : Act} {w : World} {old : Array Value} {t : TypeId} {K : Act → World → Prop} {Q : Exit → Act → World → Prop} (ty : TypeId) (x y : Operand) (ho : o.op = .store ty x y)
    (cells : List Value) (hx : a.eval x = .pointer (some ⟨w.heap.size, 0, none⟩)) (hy : a.eval y = .agg cells.toArray) (hi : (P.info? ty).map (·.size) = some cells.length)
    (hold : old.size = cells.length) (h1 : cells.toArray.all (·.oneCell') = true)
    (h : ∀ w2, Own w2 w.heap.size t cells → Kept w w2 → K (a.put o.dst undef) w2) : o.wp P a (w.alloc (.cells old t)) K Q :=
  wp_store_row ty x y ho w.heap.size cells.toArray hx hy t old (heap_alloc_new w _) (by simpa using hi) (by simpa using hold) h1 (h _ (setRow_heap _ _ _ _ _ _ (heap_alloc_new w _)) (kept_setRow ((Kept.refl w).alloc _ _) (Nat.le_refl _) _))
end Go.Proofs.YtahpnnjemjjfhaaGreat

