/-
  'Kept w w'': all that was there is as it was: what a call leaves that at most lays new blocks and writes into them. With it any law's arguments read behind the call as before, whatever their types.
-/
import Derived.Test.YtahpnnjemjjfhaaRows
import Derived.WalkKit
import Derived.ProofKit
import Derived.OpenShut
import Derived.Below
import Derived.WideKeyArgs
import Derived.Deep.Frames
import Derived.BigQuiet
import Derived.RegionTactic
import Derived.BigRegion
import Derived.Deep.RegionWith
import Derived.Deep.LoopGhost
import Derived.Deep.Slices
namespace Go.Proofs.Ytahpnnjemjjfhaa
open Go.RowKit Go.ChangeShapes Go.WideShapes

structure Kept (w w' : World) : Prop where
  below : Below w.heap.size w w'

theorem Kept.refl (w : World) : Kept w w := ⟨Below.refl _ _⟩
theorem Kept.size {w w' : World} (h : Kept w w') : w.heap.size ≤ w'.heap.size := h.below.size
theorem Kept.trans {a b c : World} (h : Kept a b) (k : Kept b c) : Kept a c := ⟨h.below.trans (k.below.mono h.size)⟩
theorem Kept.alloc {w w' : World} (h : Kept w w') (c : Array Value) (t : TypeId) : Kept w (w'.alloc (.cells c t)) := ⟨h.below.alloc h.size _⟩
theorem Kept.drew {w w' : World} (h : Kept w w') : Kept w w'.drew := ⟨h.below.drew⟩
theorem Kept.setCell {w w' : World} (h : Kept w w') {a : Addr} (ha : w.heap.size ≤ a.block) (v : Value) : Kept w (w'.setCell a v) := ⟨h.below.setCell ha v⟩
theorem Kept.cell {w w' : World} (h : Kept w w') {a : Addr} (ha : a.block < w.heap.size) : w'.cell? a = w.cell? a := h.below.cell ha
theorem Kept.frozen {w w' : World} (h : Kept w w') {a : Addr} (ha : a.block < w.heap.size) : w'.frozen? a = w.frozen? a := h.below.frozen ha
theorem Kept.grownBy {w w' w'' : World} {row : Option Nat} (h : Kept w w') (hg : w'.grownBy w'' row) (hr : ∀ k, row = some k → w.heap.size ≤ k) : Kept w w'' := ⟨h.below.grown hg h.size hr⟩
/-- Behind a call made right after a new block was laid: the block's cells. -/
theorem Kept.own {w w' : World} {C : Array Value} {t : TypeId} (h : Kept (w.alloc (.cells C t)) w') (i : Nat) : w'.cell? ⟨w.heap.size, i, none⟩ = C[i]? := by
  rw [h.cell (by simp)]
  simp
theorem Kept.ofAlloc {w w' : World} {C : Array Value} {t : TypeId} (h : Kept (w.alloc (.cells C t)) w') : Kept w w' := ((Kept.refl w).alloc C t).trans h

/-! A region that draws its order, whose operations only read and whose callees at most lay new blocks: one walk serves every order ('wp_region_quiet', at the class of the worlds in which all is kept). -/
structure KW (w : World) where
  it : World
  ok : Kept w it

theorem KW.cell {w : World} {a : Addr} {v : Option Value} (ha : a.block < w.heap.size) (h : w.cell? a = v) (x : KW w) : x.it.cell? a = v := (x.ok.cell ha).trans h

theorem kept_of {P : Program} {f : FuncId} {args : Array Value} {w : World} {x : KW w} {v : Value}
    (h : Calls P f args x.it fun e w' => e = .returned v ∧ Kept x.it w') : Calls P f args x.it fun e w'' => e = .returned v ∧ ∃ y : KW w, w'' = y.it :=
  h.mono fun _ w' ⟨he, hk⟩ => ⟨he, ⟨w', x.ok.trans hk⟩, rfl⟩
theorem kept_of_same {P : Program} {f : FuncId} {args : Array Value} {w : World} {x : KW w} {v : Value}
    (h : Calls P f args x.it fun e w' => e = .returned v ∧ w' = x.it) : Calls P f args x.it fun e w'' => e = .returned v ∧ ∃ y : KW w, w'' = y.it :=
  h.mono fun _ _ ⟨he, hk⟩ => ⟨he, x, hk⟩

theorem wp_region_kept {P : Program} {id : Nat} {Q : Exit → Act → World → Prop} {a : Act} {w : World} {l : List Oper} (hm : P.follows .mixedOrders = true) (hB : Region.lexB .any l.toArray = true)
    (h : Nonempty (KW w) → wpQuiet P l.toArray (fun w' => ∃ x : KW w, w' = x.it) (fun a' => ∀ w', (∃ x : KW w, w' = x.it) → Q .normal a' w') l a) : (Code.region id l.toArray true).wp P Q a w :=
  wp_region_quiet (C := fun w' => ∃ x : KW w, w' = x.it) hm hB ⟨⟨_, (Kept.refl w).drew⟩, rfl⟩ (by simpa using h ⟨⟨w, Kept.refl w⟩⟩)

section
variable {H : Type} {enc : TypeId × Value → H} {P : Program}

/-- Whatever was read in what is kept reads on as it did. -/
theorem trodAll_kept (hl : laidOutB P = true) {W W' : World} {sp : Nat → Bool} (hk : Kept W W') :
    ∀ {ts : List TypeId} {vs : List Value} {ds : List (DataW H)} {p : List MemPlace}, (∀ t ∈ ts, P.readableRec t = true ∧ t < P.types.size) →
      DataW.TrodAll enc P W 0 (fun _ => true) true ts vs ds p → (∀ x ∈ p, x.block < W.heap.size) → (∀ x ∈ p, sp x.block = true) → DataW.TrodAll enc P W' 0 sp true ts vs ds p
  | [], _, _, _, _, h, _, _ => by
    obtain ⟨rfl, rfl, rfl⟩ := trodAll_nil h
    exact trodAll_mk0
  | t :: ts, _, _, _, hr, h, hlt, hsp => by
    obtain ⟨v, vs1, d, ds1, a, b, rfl, rfl, rfl, h1, h2⟩ := trodAll_cons h
    refine trodAll_cons_mk (WideElems.Trod_stays hl (hr t (by simp)).1 (hr t (by simp)).2 h1 (fun x hx => hk.below.same (hlt x (by simp [hx]))) (fun x hx => hsp x (by simp [hx]))) ?_
    exact trodAll_kept hl hk (fun t' ht' => hr t' (by simp [ht'])) h2 (fun x hx => hlt x (by simp [hx])) (fun x hx => hsp x (by simp [hx]))
end

/-! What a value that came in looks like, by its type. -/
section
variable {P : Program} {W : World} {r : Reach} {b : Nat} {t : TypeId} {v : Value}

theorem ok_cell (h : Value.okWide P W r b t v) (hs : ∀ fs, P.underlying t ≠ some (.struct fs)) (ha : ∀ n e, P.underlying t ≠ some (.array n e)) : Cell.okWide P W r b t v := by
  unfold Value.okWide at h
  split at h
  · rename_i e; exact absurd e (hs _)
  · rename_i e; exact absurd e (ha _ _)
  · exact h
theorem cell_int {k : IntKind} (ht : P.underlying t = some (.int k)) (h : Cell.okWide P W r b t v) : ∃ n, v = .int k n ∧ k.min ≤ n ∧ n ≤ k.max := by
  simp only [Cell.okWide, ht] at h
  cases v <;> simp_all [Cell.ok, IntKind.has]
theorem cell_bool (ht : P.underlying t = some .bool) (h : Cell.okWide P W r b t v) : ∃ p, v = .bool p := by
  simp only [Cell.okWide, ht] at h
  cases v <;> simp_all [Cell.ok]
theorem cell_slice {e : TypeId} (ht : P.underlying t = some (.slice e)) (h : Cell.okWide P W r b t v) : ∃ x l c, v = .slice x l c ∧ l ≤ c := by
  simp only [Cell.okWide, ht] at h
  cases v <;> simp_all [Cell.ok]
  rename_i a l c
  refine ⟨a, l, c, ⟨rfl, rfl, rfl⟩, ?_⟩
  cases a with
  | none =>
    cases l with
    | zero => exact Nat.zero_le _
    | succ l => simp_all
  | some a => simp_all
/-- A struct by value: its cells, each as its type says. -/
theorem ok_struct {fs : Array Field} {ts : List TypeId} (ht : P.underlying t = some (.struct fs)) (hts : P.cellTypes P.depth t = some ts) (hn : P.cellsOf t = ts.length) (h : Value.okWide P W r b t v) :
    ∃ cs : Array Value, v = .agg cs ∧ cs.size = ts.length ∧ ∀ (i : Nat) (x : Value) (u : TypeId), cs[i]? = some x → ts[i]? = some u → Cell.okWide P W r b u x := by
  simp only [Value.okWide, ht] at h
  obtain ⟨cs, rfl, hsz, ts', e, _, hc⟩ := h
  rw [hts] at e
  obtain rfl : ts = ts' := by simpa using e
  refine ⟨cs, rfl, hsz.trans hn, fun i x u hx hu => ?_⟩
  obtain ⟨u', hu', ok⟩ := hc i x hx
  have hi : i < ts.length := by
    rcases Nat.lt_or_ge i ts.length with g | g
    · exact g
    · rw [List.getElem?_eq_none g] at hu; cases hu
  rw [Nat.mod_eq_of_lt hi, hu] at hu'
  obtain rfl : u = u' := by simpa using hu'
  exact ok
end
end Go.Proofs.Ytahpnnjemjjfhaa
