/-
  The modules Kept, Cells, Tint, TintNew, one behind another.
-/
import Derived.Test.YtiigmmmhhpdmdaaRows
import Derived.WalkKit
import Derived.ProofKit
import Derived.OpenShut
import Derived.Below
import Derived.WideKeyArgs
import Derived.Deep.Frames
import Derived.BigQuiet
import Derived.RegionTactic
import Derived.BigRegion
import Derived.Deep.RegionWith
import Derived.Deep.LoopGhost
import Derived.Deep.Slices
import Derived.OneCell
import Derived.Outline
import Derived.Deep.OwnRows
import Derived.Laws.Rows
/-
  'Kept w w'': all that was there is as it was: what a call leaves that at most lays new blocks and writes into them. With it any law's arguments read behind the call as before, whatever their types.
-/
namespace Go.Proofs.Ytiigmmmhhpdmdaa
open Go.RowKit Go.ChangeShapes Go.WideShapes

structure Kept (w w' : World) : Prop where
  below : Below w.heap.size w w'

theorem Kept.refl (w : World) : Kept w w := ⟨Below.refl _ _⟩
theorem Kept.size {w w' : World} (h : Kept w w') : w.heap.size ≤ w'.heap.size := h.below.size
theorem Kept.trans {a b c : World} (h : Kept a b) (k : Kept b c) : Kept a c := ⟨h.below.trans (k.below.mono h.size)⟩
theorem Kept.alloc {w w' : World} (h : Kept w w') (c : Array Value) (t : TypeId) : Kept w (w'.alloc (.cells c t)) := ⟨h.below.alloc h.size _⟩
theorem Kept.drew {w w' : World} (h : Kept w w') : Kept w w'.drew := ⟨h.below.drew⟩
theorem Kept.setCell {w w' : World} (h : Kept w w') {a : Addr} (ha : w.heap.size ≤ a.block) (v : Value) : Kept w (w'.setCell a v) := ⟨h.below.setCell ha v⟩
theorem Kept.cell {w w' : World} (h : Kept w w') {a : Addr} (ha : a.block < w.heap.size) : w'.cell? a = w.cell? a := h.below.cell ha
theorem Kept.frozen {w w' : World} (h : Kept w w') {a : Addr} (ha : a.block < w.heap.size) : w'.frozen? a = w.frozen? a := h.below.frozen ha
theorem Kept.grownBy {w w' w'' : World} {row : Option Nat} (h : Kept w w') (hg : w'.grownBy w'' row) (hr : ∀ k, row = some k → w.heap.size ≤ k) : Kept w w'' := ⟨h.below.grown hg h.size hr⟩
/-- Behind a call made right after a new block was laid: the block's cells. -/
theorem Kept.own {w w' : World} {C : Array Value} {t : TypeId} (h : Kept (w.alloc (.cells C t)) w') (i : Nat) : w'.cell? ⟨w.heap.size, i, none⟩ = C[i]? := by
  rw [h.cell (by simp)]
  simp
theorem Kept.ofAlloc {w w' : World} {C : Array Value} {t : TypeId} (h : Kept (w.alloc (.cells C t)) w') : Kept w w' := ((Kept.refl w).alloc C t).trans h

/-! A region that draws its order, whose operations only read and whose callees at most lay new blocks: one walk serves every order ('wp_region_quiet', at the class of the worlds in which all is kept). -/
structure KW (w : World) where
  it : World
  ok : Kept w it

theorem KW.cell {w : World} {a : Addr} {v : Option Value} (ha : a.block < w.heap.size) (h : w.cell? a = v) (x : KW w) : x.it.cell? a = v := (x.ok.cell ha).trans h

theorem kept_of {P : Program} {f : FuncId} {args : Array Value} {w : World} {x : KW w} {v : Value}
    (h : Calls P f args x.it fun e w' => e = .returned v ∧ Kept x.it w') : Calls P f args x.it fun e w'' => e = .returned v ∧ ∃ y : KW w, w'' = y.it :=
  h.mono fun _ w' ⟨he, hk⟩ => ⟨he, ⟨w', x.ok.trans hk⟩, rfl⟩
theorem kept_of_same {P : Program} {f : FuncId} {args : Array Value} {w : World} {x : KW w} {v : Value}
    (h : Calls P f args x.it fun e w' => e = .returned v ∧ w' = x.it) : Calls P f args x.it fun e w'' => e = .returned v ∧ ∃ y : KW w, w'' = y.it :=
  h.mono fun _ _ ⟨he, hk⟩ => ⟨he, x, hk⟩

theorem wp_region_kept {P : Program} {id : Nat} {Q : Exit → Act → World → Prop} {a : Act} {w : World} {l : List Oper} (hm : P.follows .mixedOrders = true) (hB : Region.lexB .any l.toArray = true)
    (h : Nonempty (KW w) → wpQuiet P l.toArray (fun w' => ∃ x : KW w, w' = x.it) (fun a' => ∀ w', (∃ x : KW w, w' = x.it) → Q .normal a' w') l a) : (Code.region id l.toArray true).wp P Q a w :=
  wp_region_quiet (C := fun w' => ∃ x : KW w, w' = x.it) hm hB ⟨⟨_, (Kept.refl w).drew⟩, rfl⟩ (by simpa using h ⟨⟨w, Kept.refl w⟩⟩)

section
variable {H : Type} {enc : TypeId × Value → H} {P : Program}

/-- Whatever was read in what is kept reads on as it did. -/
theorem trodAll_kept (hl : laidOutB P = true) {W W' : World} {sp : Nat → Bool} (hk : Kept W W') :
    ∀ {ts : List TypeId} {vs : List Value} {ds : List (DataW H)} {p : List MemPlace}, (∀ t ∈ ts, P.readableRec t = true ∧ t < P.types.size) →
      DataW.TrodAll enc P W 0 (fun _ => true) true ts vs ds p → (∀ x ∈ p, x.block < W.heap.size) → (∀ x ∈ p, sp x.block = true) → DataW.TrodAll enc P W' 0 sp true ts vs ds p
  | [], _, _, _, _, h, _, _ => by
    obtain ⟨rfl, rfl, rfl⟩ := trodAll_nil h
    exact trodAll_mk0
  | t :: ts, _, _, _, hr, h, hlt, hsp => by
    obtain ⟨v, vs1, d, ds1, a, b, rfl, rfl, rfl, h1, h2⟩ := trodAll_cons h
    refine trodAll_cons_mk (WideElems.Trod_stays hl (hr t (by simp)).1 (hr t (by simp)).2 h1 (fun x hx => hk.below.same (hlt x (by simp [hx]))) (fun x hx => hsp x (by simp [hx]))) ?_
    exact trodAll_kept hl hk (fun t' ht' => hr t' (by simp [ht'])) h2 (fun x hx => hlt x (by simp [hx])) (fun x hx => hsp x (by simp [hx]))
end

/-! What a value that came in looks like, by its type. -/
section
variable {P : Program} {W : World} {r : Reach} {b : Nat} {t : TypeId} {v : Value}

theorem ok_cell (h : Value.okWide P W r b t v) (hs : ∀ fs, P.underlying t ≠ some (.struct fs)) (ha : ∀ n e, P.underlying t ≠ some (.array n e)) : Cell.okWide P W r b t v := by
  unfold Value.okWide at h
  split at h
  · rename_i e; exact absurd e (hs _)
  · rename_i e; exact absurd e (ha _ _)
  · exact h
theorem cell_int {k : IntKind} (ht : P.underlying t = some (.int k)) (h : Cell.okWide P W r b t v) : ∃ n, v = .int k n ∧ k.min ≤ n ∧ n ≤ k.max := by
  simp only [Cell.okWide, ht] at h
  cases v <;> simp_all [Cell.ok, IntKind.has]
theorem cell_bool (ht : P.underlying t = some .bool) (h : Cell.okWide P W r b t v) : ∃ p, v = .bool p := by
  simp only [Cell.okWide, ht] at h
  cases v <;> simp_all [Cell.ok]
theorem cell_slice {e : TypeId} (ht : P.underlying t = some (.slice e)) (h : Cell.okWide P W r b t v) : ∃ x l c, v = .slice x l c ∧ l ≤ c := by
  simp only [Cell.okWide, ht] at h
  cases v <;> simp_all [Cell.ok]
  rename_i a l c
  refine ⟨a, l, c, ⟨rfl, rfl, rfl⟩, ?_⟩
  cases a with
  | none =>
    cases l with
    | zero => exact Nat.zero_le _
    | succ l => simp_all
  | some a => simp_all
/-- A struct by value: its cells, each as its type says. -/
theorem ok_struct {fs : Array Field} {ts : List TypeId} (ht : P.underlying t = some (.struct fs)) (hts : P.cellTypes P.depth t = some ts) (hn : P.cellsOf t = ts.length) (h : Value.okWide P W r b t v) :
    ∃ cs : Array Value, v = .agg cs ∧ cs.size = ts.length ∧ ∀ (i : Nat) (x : Value) (u : TypeId), cs[i]? = some x → ts[i]? = some u → Cell.okWide P W r b u x := by
  simp only [Value.okWide, ht] at h
  obtain ⟨cs, rfl, hsz, ts', e, _, hc⟩ := h
  rw [hts] at e
  obtain rfl : ts = ts' := by simpa using e
  refine ⟨cs, rfl, hsz.trans hn, fun i x u hx hu => ?_⟩
  obtain ⟨u', hu', ok⟩ := hc i x hx
  have hi : i < ts.length := by
    rcases Nat.lt_or_ge i ts.length with g | g
    · exact g
    · rw [List.getElem?_eq_none g] at hu; cases hu
  rw [Nat.mod_eq_of_lt hi, hu] at hu'
  obtain rfl : u = u' := by simpa using hu'
  exact ok
end
end Go.Proofs.Ytiigmmmhhpdmdaa

/-
  Blocks of the call's own, known whole; what a call leaves that writes into some blocks alone ('Mut D').
-/
namespace Go.Proofs.Ytiigmmmhhpdmdaa
open Go.RowKit

/-- A block's first cells, none of them frozen. -/
structure Blk (w : World) (b : Nat) (L : List Value) : Prop where
  lt : b < w.heap.size
  fz : ∀ i, w.frozen? ⟨b, i, none⟩ = false
  cells : ∀ i v, L[i]? = some v → w.cell? ⟨b, i, none⟩ = some v

theorem Blk.at {w : World} {b : Nat} {L : List Value} (h : Blk w b L) (i : Nat) {v : Value} (e : L[i]? = some v) : w.cell? ⟨b, i, none⟩ = some v := h.cells i v e
theorem Blk.kept {w w' : World} {b : Nat} {L : List Value} (h : Blk w b L) (k : Kept w w') : Blk w' b L :=
  ⟨Nat.lt_of_lt_of_le h.lt k.size, fun i => (k.frozen h.lt).trans (h.fz i), fun i v e => (k.cell h.lt).trans (h.cells i v e)⟩
theorem Blk.new (w : World) (L : List Value) (t : TypeId) : Blk (w.alloc (.cells L.toArray t)) w.heap.size L :=
  ⟨by simp, fun i => by simp, fun i v e => by simp [e]⟩
theorem Blk.set {w : World} {b : Nat} {L : List Value} (h : Blk w b L) {i : Nat} {u : Value} (hi : L[i]? = some u) (v : Value) : Blk (w.setCell ⟨b, i, none⟩ v) b (L.set i v) := by
  have hlt : i < L.length := by
    rcases Nat.lt_or_ge i L.length with g | g
    · exact g
    · rw [List.getElem?_eq_none g] at hi; cases hi
  refine ⟨by simpa using h.lt, fun j => (World.frozen?_setCell _ _ _ _).trans (h.fz j), fun j x e => ?_⟩
  by_cases hj : i = j
  · subst hj
    rw [List.getElem?_set_self hlt] at e
    obtain rfl : v = x := by simpa using e
    exact World.cell?_setCell_same _ _ _ (h.cells i u hi)
  · rw [List.getElem?_set_ne hj] at e
    exact (World.cell?_setCell_other w ⟨b, i, none⟩ ⟨b, j, none⟩ v (fun q => hj (congrArg Addr.off q))).trans (h.cells j x e)

/-- All but the blocks of D is as it was; blocks may be new. -/
structure Mut (D : List Nat) (w w' : World) : Prop where
  os : w'.os = w.os
  tape : w'.tape = w.tape
  output : w'.output = w.output
  size : w.heap.size ≤ w'.heap.size
  block : ∀ k, k < w.heap.size → k ∉ D → w'.heap[k]? = w.heap[k]?

section
variable {D E : List Nat} {a w w' w'' : World}

theorem Mut.refl (D : List Nat) (w : World) : Mut D w w := ⟨rfl, rfl, rfl, Nat.le_refl _, fun _ _ _ => rfl⟩
theorem Mut.trans (h : Mut D w w') (k : Mut D w' w'') : Mut D w w'' :=
  ⟨k.os.trans h.os, k.tape.trans h.tape, k.output.trans h.output, Nat.le_trans h.size k.size, fun i hi hd => (k.block i (Nat.lt_of_lt_of_le hi h.size) hd).trans (h.block i hi hd)⟩
theorem Mut.wide (h : Mut D w w') (hd : ∀ k, k ∈ D → k ∈ E) : Mut E w w' := ⟨h.os, h.tape, h.output, h.size, fun i hi he => h.block i hi fun q => he (hd i q)⟩
theorem Mut.drew (h : Mut D w w') : Mut D w w'.drew := ⟨h.os, h.tape, h.output, h.size, h.block⟩
theorem Mut.alloc (h : Mut D w w') (o : Obj) : Mut D w (w'.alloc o) :=
  h.trans ⟨rfl, rfl, rfl, by simp, fun k hk _ => Below.heap_alloc _ _ _ hk⟩
theorem Mut.setCell (h : Mut D w w') {p : Addr} (hp : p.block ∈ D) (u : Value) : Mut D w (w'.setCell p u) :=
  h.trans ⟨rfl, rfl, rfl, by simp [World.setCell], fun k _ hd => Below.heap_setCell _ _ _ _ fun e => hd (e ▸ hp)⟩
theorem Kept.mut (h : Kept w w') : Mut D w w' := ⟨h.below.os, h.below.tape, h.below.output, h.size, fun k hk _ => h.below.block k hk⟩
/-- What was there at first is kept, where only blocks of one's own were written. -/
theorem Kept.muts (h : Kept a w) (m : Mut D w w') (hd : ∀ k, k ∈ D → a.heap.size ≤ k) : Kept a w' :=
  ⟨h.below.trans ⟨m.os, m.tape, m.output, m.size, fun k hk => m.block k (Nat.lt_of_lt_of_le hk h.size) fun q => by have := hd k q; omega⟩⟩
theorem Mut.cell (m : Mut D w w') {p : Addr} (hp : p.block < w.heap.size) (hd : p.block ∉ D) : w'.cell? p = w.cell? p := World.cell?_of_block (w := w) (m.block p.block hp hd)
theorem Mut.frozen (m : Mut D w w') {p : Addr} (hp : p.block < w.heap.size) (hd : p.block ∉ D) : w'.frozen? p = w.frozen? p := World.frozen?_of_block (w := w) (m.block p.block hp hd)
theorem Blk.muts {b : Nat} {L : List Value} (h : Blk w b L) (m : Mut D w w') (hd : b ∉ D) : Blk w' b L :=
  ⟨Nat.lt_of_lt_of_le h.lt m.size, fun i => (m.frozen h.lt hd).trans (h.fz i), fun i v e => (m.cell h.lt hd).trans (h.cells i v e)⟩
theorem Kept.row (k : Kept w w') {b n : Nat} {t : TypeId} {f : Nat → Value} (h : w.rowIs b t n f) : w'.rowIs b t n f := h.of_block (k.below.block b h.lt)
theorem Mut.row (m : Mut D w w') {b n : Nat} {t : TypeId} {f : Nat → Value} (h : w.rowIs b t n f) (hd : b ∉ D) : w'.rowIs b t n f := h.of_block (m.block b h.lt hd)
end

/-- Block b, known whole; none of its cells frozen. -/
def Own (w : World) (b : Nat) (t : TypeId) (L : List Value) : Prop := w.heap[b]? = some (.cells L.toArray t (0, 0))

section
variable {w w' : World} {b : Nat} {t : TypeId} {L : List Value}

theorem Own.lt (h : Own w b t L) : b < w.heap.size := lt_of_block h
theorem Own.blk (h : Own w b t L) : Blk w b L := by
  unfold Own at h
  exact ⟨lt_of_block h, fun i => by simp [World.frozen?, h], fun i v e => by simp [World.cell?, h, e]⟩
theorem Own.new (w : World) (L : List Value) (t : TypeId) : Own (w.alloc (.cells L.toArray t)) w.heap.size t L := heap_alloc_new w _
theorem Own.set (h : Own w b t L) (i : Nat) (v : Value) : Own (w.setCell ⟨b, i, none⟩ v) b t (L.set i v) := by
  unfold Own at *
  simp [World.setCell, Array.getElem?_modify, h]
theorem Own.kept (h : Own w b t L) (k : Kept w w') : Own w' b t L := (k.below.block b h.lt).trans h
theorem Own.muts {D : List Nat} (h : Own w b t L) (m : Mut D w w') (hd : b ∉ D) : Own w' b t L := (m.block b h.lt hd).trans h
theorem Own.alloc (h : Own w b t L) (o : Obj) : Own (w.alloc o) b t L := (heap_alloc_old w o h.lt).trans h
theorem Own.set_other (h : Own w b t L) {a : Addr} (ha : a.block ≠ b) (v : Value) : Own (w.setCell a v) b t L := (Below.heap_setCell w a v b (Ne.symm ha)).trans h
/-- A row of other elements is another block. -/
theorem Own.ne {g n : Nat} {e : TypeId} {f : Nat → Value} (h : Own w b t L) (r : w.rowIs g e n f) (ht : t ≠ e) : b ≠ g := by
  rintro rfl
  obtain ⟨c, hc, _⟩ := r
  unfold Own at h
  rw [hc] at h
  simp only [Option.some.injEq, Obj.cells.injEq] at h
  exact ht h.2.1.symm
end
end Go.Proofs.Ytiigmmmhhpdmdaa

/-
  Contracts of package tint: a table as it lies in memory; each method answers as a plain function of it.
-/
namespace Go.Proofs.Ytiigmmmhhpdmdaa
open Go.RowKit

/-- A fragment: its state, whether it is a head, its colour. -/
structure Fr where
  s : Int
  h : Bool
  c : Bool

/-- The cells of a row of fragments. -/
def fc (T : Nat → Fr) (j : Nat) : Value := if j % 3 = 0 then .int .i64 (T (j / 3)).s else if j % 3 = 1 then .bool (T (j / 3)).h else .bool (T (j / 3)).c

theorem fc_0 (T : Nat → Fr) (k : Nat) : fc T (k * 3) = .int .i64 (T k).s := by simp [fc]
theorem fc_1 (T : Nat → Fr) (k : Nat) : fc T (k * 3 + 1) = .bool (T k).h := by
  have h1 : (k * 3 + 1) % 3 = 1 := by omega
  have h2 : (k * 3 + 1) / 3 = k := by omega
  simp [fc, h1, h2]
theorem fc_2 (T : Nat → Fr) (k : Nat) : fc T (k * 3 + 2) = .bool (T k).c := by
  have h1 : (k * 3 + 2) % 3 = 2 := by omega
  have h2 : (k * 3 + 2) / 3 = k := by omega
  simp [fc, h1, h2]

/-- A table at block b, its fragments at block g. -/
structure Tab (w : World) (b g n : Nat) (T : Nat → Fr) : Prop where
  head : Own w b 111 [.slice (some ⟨g, 0, none⟩) n n]
  row : w.rowIs g 113 (n * 3) (fc T)
  few : n ≤ 1024

section
variable {w w' : World} {b g n : Nat} {T : Nat → Fr}

theorem Tab.kept (h : Tab w b g n T) (k : Kept w w') : Tab w' b g n T := ⟨h.head.kept k, k.row h.row, h.few⟩
theorem Tab.ne (h : Tab w b g n T) : b ≠ g := h.head.ne h.row (by decide)
theorem Tab.muts {D : List Nat} (h : Tab w b g n T) (m : Mut D w w') (hb : b ∉ D) (hg : g ∉ D) : Tab w' b g n T := ⟨h.head.muts m hb, m.row h.row hg, h.few⟩
theorem Tab.hd (h : Tab w b g n T) : w.cell? ⟨b, 0, none⟩ = some (.slice (some ⟨g, 0, none⟩) n n) := h.head.blk.at 0 rfl
theorem Tab.at0 (h : Tab w b g n T) {k : Nat} (hk : k < n) : w.cell? ⟨g, k * 3, none⟩ = some (.int .i64 (T k).s) := by
  rw [h.row.cell (by omega), fc_0]
theorem Tab.at1 (h : Tab w b g n T) {k : Nat} (hk : k < n) : w.cell? ⟨g, k * 3 + 1, none⟩ = some (.bool (T k).h) := by
  rw [h.row.cell (by omega), fc_1]
theorem Tab.at2 (h : Tab w b g n T) {k : Nat} (hk : k < n) : w.cell? ⟨g, k * 3 + 2, none⟩ = some (.bool (T k).c) := by
  rw [h.row.cell (by omega), fc_2]
end

/-- Is there such a fragment? -/
def inn (n : Nat) (i : Int) : Bool := decide (0 ≤ i ∧ i < n)

theorem tinn_of {n k : Nat} (h : k < n) : inn n k = true := by simp [inn, h]
theorem tinn_iff {n : Nat} {i : Int} (h : inn n i = true) : ∃ k : Nat, i = k ∧ k < n := by
  simp [inn] at h
  exact ⟨i.toNat, by omega, by omega⟩
theorem tinn_not {n : Nat} {i : Int} (h : inn n i = false) : ¬ (0 ≤ i ∧ i < n) := by
  simpa [inn] using h

set_option maxHeartbeats 400000 in
theorem thas_any {b g n : Nat} {T : Nat → Fr} (i : Int) (w : World) (h : Tab w b g n T) :
    Calls Try.prog 61 #[.pointer (some ⟨b, 0, none⟩), .int .i64 i] w fun e w' => e = .returned (.bool (inn n i)) ∧ w' = w := by
  have c0 := h.hd
  clear h
  cases hi : inn n i
  · have h1 := tinn_not hi
    by_cases h0 : 0 ≤ i
    · have h2 : ¬ i < (n : Int) := fun q => h1 ⟨h0, q⟩
      clear h1 hi
      go_enter Try.func61, Try.ntmps61
      go_wp2
      go_ret
      exact ⟨rfl, rfl⟩
    · clear h1 hi
      go_enter Try.func61, Try.ntmps61
      go_wp2
      go_ret
      exact ⟨rfl, rfl⟩
  · obtain ⟨k, rfl, hk⟩ := tinn_iff hi
    clear hi
    go_enter Try.func61, Try.ntmps61
    go_wp2
    go_ret
    exact ⟨rfl, rfl⟩

def usd (n : Nat) (T : Nat → Fr) (i : Int) : Bool := inn n i && ((T i.toNat).s == 2)
def stt (n : Nat) (T : Nat → Fr) (i : Int) : Int := if inn n i then (T i.toNat).s else 0
def hdd (n : Nat) (T : Nat → Fr) (i : Int) : Bool := inn n i && (T i.toNat).h
def blk (n : Nat) (T : Nat → Fr) (i : Int) (c : Bool) : Bool := usd n T i && ((T i.toNat).c == c)
def isSt (s : Int) : Bool := s == 0 || s == 1 || s == 2

set_option maxHeartbeats 400000 in
theorem tisState_any (s : Int) (w : World) : Calls Try.prog 112 #[.int .i64 s] w fun e w' => e = .returned (.bool (isSt s)) ∧ w' = w := by
  by_cases h0 : s = 0
  · subst h0
    go_enter Try.func112, Try.ntmps112
    go_wp2
    go_ret
    exact ⟨rfl, rfl⟩
  · by_cases h1 : s = 1
    · subst h1
      go_enter Try.func112, Try.ntmps112
      go_wp2
      go_ret
      exact ⟨rfl, rfl⟩
    · have q0 : (s == 0) = false := by simpa using h0
      have q1 : (s == 1) = false := by simpa using h1
      have e : isSt s = (s == 2) := by simp [isSt, q0, q1]
      rw [e]
      clear e h0 h1
      go_enter Try.func112, Try.ntmps112
      go_wp2
      go_ret
      exact ⟨rfl, rfl⟩

set_option maxHeartbeats 400000 in
theorem tlen_any {b g n : Nat} {T : Nat → Fr} (w : World) (h : Tab w b g n T) :
    Calls Try.prog 72 #[.pointer (some ⟨b, 0, none⟩)] w fun e w' => e = .returned (.int .i64 n) ∧ w' = w := by
  have c0 := h.hd
  clear h
  go_enter Try.func72, Try.ntmps72
  go_wp2
  go_ret
  exact ⟨rfl, rfl⟩

set_option maxHeartbeats 400000 in
theorem tused_any {b g n : Nat} {T : Nat → Fr} (i : Int) (w : World) (h : Tab w b g n T) :
    Calls Try.prog 109 #[.pointer (some ⟨b, 0, none⟩), .int .i64 i] w fun e w' => e = .returned (.bool (usd n T i)) ∧ w' = w := by
  have H := thas_any i w h
  have c0 := h.hd
  cases hi : inn n i
  · simp only [usd, hi, Bool.false_and] at H ⊢
    clear h hi
    go_enter Try.func109, Try.ntmps109
    go_wp2_with fail
    refine H.mono ?_
    rintro e w' ⟨rfl, rfl⟩
    go_wp2
    go_ret
    exact ⟨rfl, rfl⟩
  · obtain ⟨k, rfl, hk⟩ := tinn_iff hi
    have c1 := h.at0 hk
    simp only [usd, hi, Bool.true_and, Int.toNat_natCast] at H ⊢
    clear h hi
    go_enter Try.func109, Try.ntmps109
    go_wp2_with fail
    refine H.mono ?_
    rintro e w' ⟨rfl, rfl⟩
    go_wp2
    go_ret
    exact ⟨rfl, rfl⟩

set_option maxHeartbeats 400000 in
theorem tstate_any {b g n : Nat} {T : Nat → Fr} (i : Int) (w : World) (h : Tab w b g n T) :
    Calls Try.prog 22 #[.pointer (some ⟨b, 0, none⟩), .int .i64 i] w fun e w' => e = .returned (.int .i64 (stt n T i)) ∧ w' = w := by
  have H := thas_any i w h
  have c0 := h.hd
  cases hi : inn n i
  · simp only [stt, hi] at H ⊢
    clear h hi
    go_enter Try.func22, Try.ntmps22
    go_wp2_with fail
    refine H.mono ?_
    rintro e w' ⟨rfl, rfl⟩
    go_wp2
    go_ret
    exact ⟨rfl, rfl⟩
  · obtain ⟨k, rfl, hk⟩ := tinn_iff hi
    have c1 := h.at0 hk
    simp only [stt, hi, Int.toNat_natCast, if_true] at H ⊢
    clear h hi
    go_enter Try.func22, Try.ntmps22
    go_wp2_with fail
    refine H.mono ?_
    rintro e w' ⟨rfl, rfl⟩
    go_wp2
    go_ret
    exact ⟨rfl, rfl⟩

set_option maxHeartbeats 400000 in
theorem thead_any {b g n : Nat} {T : Nat → Fr} (i : Int) (w : World) (h : Tab w b g n T) :
    Calls Try.prog 86 #[.pointer (some ⟨b, 0, none⟩), .int .i64 i] w fun e w' => e = .returned (.bool (hdd n T i)) ∧ w' = w := by
  have H := thas_any i w h
  have c0 := h.hd
  cases hi : inn n i
  · simp only [hdd, hi, Bool.false_and] at H ⊢
    clear h hi
    go_enter Try.func86, Try.ntmps86
    go_wp2_with fail
    refine H.mono ?_
    rintro e w' ⟨rfl, rfl⟩
    go_wp2
    go_ret
    exact ⟨rfl, rfl⟩
  · obtain ⟨k, rfl, hk⟩ := tinn_iff hi
    have c1 := h.at1 hk
    simp only [hdd, hi, Bool.true_and, Int.toNat_natCast] at H ⊢
    clear h hi
    go_enter Try.func86, Try.ntmps86
    go_wp2_with fail
    refine H.mono ?_
    rintro e w' ⟨rfl, rfl⟩
    go_wp2
    go_ret
    exact ⟨rfl, rfl⟩

theorem tusd_iff {n : Nat} {T : Nat → Fr} {i : Int} (h : usd n T i = true) : ∃ k : Nat, i = k ∧ k < n ∧ (T k).s = 2 := by
  simp only [usd, Bool.and_eq_true, beq_iff_eq] at h
  obtain ⟨k, rfl, hk⟩ := tinn_iff h.1
  exact ⟨k, rfl, hk, by simpa using h.2⟩

set_option maxHeartbeats 400000 in
theorem tblack_any {b g n : Nat} {T : Nat → Fr} (i : Int) (c : Bool) (w : World) (h : Tab w b g n T) :
    Calls Try.prog 110 #[.pointer (some ⟨b, 0, none⟩), .int .i64 i, .bool c] w fun e w' => e = .returned (.bool (blk n T i c)) ∧ w' = w := by
  have H := tused_any i w h
  have c0 := h.hd
  cases hi : usd n T i
  · simp only [blk, hi, Bool.false_and] at H ⊢
    clear h hi
    go_enter Try.func110, Try.ntmps110
    go_wp2_with fail
    refine H.mono ?_
    rintro e w' ⟨rfl, rfl⟩
    go_wp2
    go_ret
    exact ⟨rfl, rfl⟩
  · obtain ⟨k, rfl, hk, _⟩ := tusd_iff hi
    have c1 := h.at2 hk
    simp only [blk, hi, Bool.true_and, Int.toNat_natCast] at H ⊢
    clear h hi
    go_enter Try.func110, Try.ntmps110
    go_wp2_with fail
    refine H.mono ?_
    rintro e w' ⟨rfl, rfl⟩
    go_wp2
    go_ret
    exact ⟨rfl, rfl⟩

/-! What the table is behind a call that writes. -/
def setT (n : Nat) (T : Nat → Fr) (i s : Int) (h c : Bool) : Nat → Fr := if inn n i && isSt s then fun j => if j = i.toNat then ⟨s, h && (s == 2), c⟩ else T j else T
def bornB (n : Nat) (T : Nat → Fr) (i : Int) : Bool := usd n T i && !(T i.toNat).h
def bornT (n : Nat) (T : Nat → Fr) (i : Int) : Nat → Fr := if bornB n T i then fun j => if j = i.toNat then ⟨(T j).s, true, (T j).c⟩ else T j else T
def markB (n : Nat) (T : Nat → Fr) (i : Int) (c : Bool) : Bool := usd n T i && !((T i.toNat).c == c)
def markT (n : Nat) (T : Nat → Fr) (i : Int) (c : Bool) : Nat → Fr := if markB n T i c then fun j => if j = i.toNat then ⟨(T j).s, (T j).h, c⟩ else T j else T

theorem fc_set1 (T : Nat → Fr) (k : Nat) (v : Bool) (j : Nat) : (if j = k * 3 + 1 then .bool v else fc T j) = fc (fun i => if i = k then ⟨(T i).s, v, (T i).c⟩ else T i) j := by
  by_cases e : j / 3 = k
  · by_cases e1 : j % 3 = 1
    · have : j = k * 3 + 1 := by omega
      subst this
      simp [fc_1]
    · have : ¬ j = k * 3 + 1 := by omega
      simp [fc, e, e1, this]
  · have : ¬ j = k * 3 + 1 := by omega
    simp [fc, e, this]
theorem fc_set2 (T : Nat → Fr) (k : Nat) (v : Bool) (j : Nat) : (if j = k * 3 + 2 then .bool v else fc T j) = fc (fun i => if i = k then ⟨(T i).s, (T i).h, v⟩ else T i) j := by
  by_cases e : j / 3 = k
  · by_cases e1 : j % 3 = 2
    · have : j = k * 3 + 2 := by omega
      subst this
      simp [fc_2]
    · have : ¬ j = k * 3 + 2 := by omega
      simp [fc, e, this]
      split
      · rfl
      · split
        · rfl
        · omega
  · have : ¬ j = k * 3 + 2 := by omega
    simp [fc, e, this]
theorem fc_set (T : Nat → Fr) (k : Nat) (f : Fr) (j : Nat) : (if j = k * 3 + 2 then .bool f.c else if j = k * 3 + 1 then .bool f.h else if j = k * 3 then .int .i64 f.s else fc T j) = fc (fun i => if i = k then f else T i) j := by
  by_cases e : j / 3 = k
  · have h3 : j % 3 = 0 ∨ j % 3 = 1 ∨ j % 3 = 2 := by omega
    rcases h3 with h | h | h
    · have : j = k * 3 := by omega
      subst this
      simp [fc_0]
    · have : j = k * 3 + 1 := by omega
      subst this
      simp [fc_1]
    · have : j = k * 3 + 2 := by omega
      subst this
      simp [fc_2]
  · have h0 : ¬ j = k * 3 := by omega
    have h1 : ¬ j = k * 3 + 1 := by omega
    have h2 : ¬ j = k * 3 + 2 := by omega
    simp [fc, e, h0, h1, h2]

section
variable {w : World} {b g n : Nat} {T : Nat → Fr}
theorem Tab.set1 (h : Tab w b g n T) (k : Nat) (v : Bool) : Tab (w.setCell ⟨g, k * 3 + 1, none⟩ (.bool v)) b g n (fun i => if i = k then ⟨(T i).s, v, (T i).c⟩ else T i) :=
  ⟨h.head.set_other (Ne.symm h.ne) _, (h.row.set _ _).congr fun j _ => fc_set1 T k v j, h.few⟩
theorem Tab.set2 (h : Tab w b g n T) (k : Nat) (v : Bool) : Tab (w.setCell ⟨g, k * 3 + 2, none⟩ (.bool v)) b g n (fun i => if i = k then ⟨(T i).s, (T i).h, v⟩ else T i) :=
  ⟨h.head.set_other (Ne.symm h.ne) _, (h.row.set _ _).congr fun j _ => fc_set2 T k v j, h.few⟩
theorem Tab.sets (h : Tab w b g n T) (k : Nat) (f : Fr) : Tab (((w.setCell ⟨g, k * 3, none⟩ (.int .i64 f.s)).setCell ⟨g, k * 3 + 1, none⟩ (.bool f.h)).setCell ⟨g, k * 3 + 2, none⟩ (.bool f.c)) b g n (fun i => if i = k then f else T i) :=
  ⟨((h.head.set_other (Ne.symm h.ne) _).set_other (Ne.symm h.ne) _).set_other (Ne.symm h.ne) _, (((h.row.set _ _).set _ _).set _ _).congr fun j _ => fc_set T k f j, h.few⟩
end

set_option maxHeartbeats 400000 in
theorem tmark_any {b g n : Nat} {T : Nat → Fr} (i : Int) (c : Bool) (w : World) (h : Tab w b g n T) :
    Calls Try.prog 87 #[.pointer (some ⟨b, 0, none⟩), .int .i64 i, .bool c] w fun e w' => e = .returned (.bool (markB n T i c)) ∧ Tab w' b g n (markT n T i c) ∧ Mut [g] w w' := by
  have H := tused_any i w h
  have L := tblack_any i c w h
  have c0 := h.hd
  have HT : Hid (Tab w b g n T) := h
  cases hi : usd n T i
  · simp only [markB, markT, hi, Bool.false_and, Bool.false_eq_true, if_false] at H ⊢
    clear h hi
    go_enter Try.func87, Try.ntmps87
    go_wp2_with fail
    refine H.mono ?_
    rintro e w' ⟨rfl, rfl⟩
    go_wp2
    go_ret
    exact ⟨rfl, HT.out, Mut.refl _ _⟩
  · obtain ⟨k, rfl, hk, _⟩ := tusd_iff hi
    have c1 := h.at2 hk
    have c2 := h.row.frozen
    simp only [markB, markT, blk, hi, Bool.true_and, Int.toNat_natCast] at H L ⊢
    clear h hi
    cases hh : (T k).c == c
    · rw [hh] at L
      clear hh
      go_enter Try.func87, Try.ntmps87
      go_wp2_with fail
      refine H.mono ?_
      rintro e w' ⟨rfl, rfl⟩
      go_wp2_with fail
      refine L.mono ?_
      rintro e w' ⟨rfl, rfl⟩
      go_wp2
      go_ret
      exact ⟨rfl, HT.out.set2 k c, (Mut.refl _ _).setCell (by simp) _⟩
    · rw [hh] at L
      clear hh
      go_enter Try.func87, Try.ntmps87
      go_wp2_with fail
      refine H.mono ?_
      rintro e w' ⟨rfl, rfl⟩
      go_wp2_with fail
      refine L.mono ?_
      rintro e w' ⟨rfl, rfl⟩
      go_wp2
      go_ret
      exact ⟨rfl, HT.out, Mut.refl _ _⟩

set_option maxHeartbeats 800000 in
theorem tset_any {b g n : Nat} {T : Nat → Fr} (i s : Int) (p c : Bool) (w : World) (h : Tab w b g n T) :
    Calls Try.prog 93 #[.pointer (some ⟨b, 0, none⟩), .int .i64 i, .int .i64 s, .bool p, .bool c] w fun e w' => e = .returned (.bool (inn n i && isSt s)) ∧ Tab w' b g n (setT n T i s p c) ∧ Mut [g] w w' := by
  have H := thas_any i w h
  have L := tisState_any s w
  have c0 := h.hd
  have HT : Hid (Tab w b g n T) := h
  cases hi : inn n i
  · simp only [setT, hi, Bool.false_and, Bool.false_eq_true, if_false] at H ⊢
    clear h hi
    go_enter Try.func93, Try.ntmps93
    go_wp2_with fail
    refine H.mono ?_
    rintro e w' ⟨rfl, rfl⟩
    go_wp2
    go_ret
    exact ⟨rfl, HT.out, Mut.refl _ _⟩
  · obtain ⟨k, rfl, hk⟩ := tinn_iff hi
    have c1 := h.at0 hk
    have c2 := h.at1 hk
    have c3 := h.at2 hk
    have c4 := h.row.frozen
    cases hs : isSt s
    · simp only [setT, hi, hs, Bool.and_false, Bool.false_eq_true, if_false] at H L ⊢
      clear h hi hs
      go_enter Try.func93, Try.ntmps93
      go_wp2_with fail
      refine H.mono ?_
      rintro e w' ⟨rfl, rfl⟩
      go_wp2_with fail
      refine L.mono ?_
      rintro e w' ⟨rfl, rfl⟩
      go_wp2
      go_ret
      exact ⟨rfl, HT.out, Mut.refl _ _⟩
    · simp only [setT, hi, hs, Bool.and_true, if_true, Int.toNat_natCast] at H L ⊢
      clear h hi hs
      have fin : ∀ q : Bool, (p && (s == 2)) = q → Tab (((w.setCell ⟨g, k * 3, none⟩ (.int .i64 s)).setCell ⟨g, k * 3 + 1, none⟩ (.bool q)).setCell ⟨g, k * 3 + 2, none⟩ (.bool c)) b g n (fun j => if j = k then ⟨s, p && (s == 2), c⟩ else T j) := fun q e => by
        subst e
        exact HT.out.sets k ⟨s, _, c⟩
      have FIN : Hid (∀ q : Bool, (p && (s == 2)) = q → Tab (((w.setCell ⟨g, k * 3, none⟩ (.int .i64 s)).setCell ⟨g, k * 3 + 1, none⟩ (.bool q)).setCell ⟨g, k * 3 + 2, none⟩ (.bool c)) b g n (fun j => if j = k then ⟨s, p && (s == 2), c⟩ else T j)) := fin
      clear fin
      have M : Hid (∀ q : Bool, Mut [g] w (((w.setCell ⟨g, k * 3, none⟩ (.int .i64 s)).setCell ⟨g, k * 3 + 1, none⟩ (.bool q)).setCell ⟨g, k * 3 + 2, none⟩ (.bool c))) := fun q => (((Mut.refl _ _).setCell (by simp) _).setCell (by simp) _).setCell (by simp) _
      cases p
      · go_enter Try.func93, Try.ntmps93
        go_wp2_with fail
        refine H.mono ?_
        rintro e w' ⟨rfl, rfl⟩
        go_wp2_with fail
        refine L.mono ?_
        rintro e w' ⟨rfl, rfl⟩
        go_wp2
        go_ret
        exact ⟨rfl, FIN.out _ rfl, M.out _⟩
      · go_enter Try.func93, Try.ntmps93
        go_wp2_with fail
        refine H.mono ?_
        rintro e w' ⟨rfl, rfl⟩
        go_wp2_with fail
        refine L.mono ?_
        rintro e w' ⟨rfl, rfl⟩
        go_wp2
        go_ret
        exact ⟨rfl, FIN.out _ (by simp), M.out _⟩

end Go.Proofs.Ytiigmmmhhpdmdaa

/-
  Contracts of package tint's New and Counts; the laws' own 'first'.
-/
namespace Go.Proofs.Ytiigmmmhhpdmdaa
open Go.RowKit

theorem info_frag : (Try.prog.info? 113).map (fun i => (i.zero, i.size, i.bytes)) = some (some (.agg #[.int .i64 0, .bool false, .bool false]), 3, 16) := by kernel_rfl

theorem run_make_frags (n : Nat) (h : n ≤ 1024) (w : World) :
    (Instr.makeSlice 109 (.int .i64 (n : Int)) (.int .i64 (n : Int))).run Try.prog w = .ok (.slice (some ⟨w.heap.size, 0, none⟩) n n) (w.alloc (.cells (madeCells #[.int .i64 0, .bool false, .bool false] (n * 3)) 113)) := by
  obtain ⟨i, hi, hz, hs, hb⟩ := info_parts info_frag
  have hr := run_make (P := Try.prog) w 109 113 i _ Try.underlying109 hi hz .i64 .i64 n n (by omega) (Int.le_refl _) (by rw [hb]; omega) (by omega)
  simp only [Int.toNat_natCast, hs] at hr
  exact hr

/-- All Free, none a head. -/
def T0 : Nat → Fr := fun _ => ⟨0, false, false⟩

theorem tfrags_made (w : World) (n : Nat) (t : TypeId) : (w.alloc (.cells (madeCells #[.int .i64 0, .bool false, .bool false] (n * 3)) t)).rowIs w.heap.size t (n * 3) (fc T0) := by
  have h := World.rowIs_alloc w (madeCells #[.int .i64 0, .bool false, .bool false] (n * 3)) t (fc T0) (fun i hi => by
    rw [size_madeCells] at hi
    have h3 : i % 3 = 0 ∨ i % 3 = 1 ∨ i % 3 = 2 := by omega
    rcases h3 with e | e | e
    · simp [madeCells, hi, fc, T0, e]
    · simp [madeCells, hi, fc, T0, e]
    · simp [madeCells, hi, fc, T0, e])
  rwa [size_madeCells] at h

set_option maxHeartbeats 800000 in
theorem tnew_bad (n : Int) (w : World) (hn : ¬ (0 ≤ n ∧ n ≤ 1024)) :
    Calls Try.prog 70 #[.int .i64 n] w fun e w' => e = .returned (.tuple #[.pointer none, .int .i64 1]) ∧ w' = w := by
  by_cases h0 : n < 0
  · clear hn
    go_enter Try.func70, Try.ntmps70
    go_wp2
    go_ret2
    exact ⟨rfl, rfl⟩
  · have h1 : 1024 < n := by omega
    clear hn
    go_enter Try.func70, Try.ntmps70
    go_wp2
    go_ret2
    exact ⟨rfl, rfl⟩

set_option maxHeartbeats 800000 in
theorem tnew_any (n : Nat) (w : World) (hn : n ≤ 1024) :
    Calls Try.prog 70 #[.int .i64 n] w fun e w' => ∃ b g, e = .returned (.tuple #[.pointer (some ⟨b, 0, none⟩), .int .i64 0]) ∧ Tab w' b g n T0 ∧ w.heap.size ≤ b ∧ w.heap.size ≤ g ∧ Kept w w' := by
  have hmk := run_make_frags n hn
  go_enter Try.func70, Try.ntmps70
  go_wp2
  go_ret2
  refine ⟨w.heap.size + 1, w.heap.size, rfl, ⟨?_, ?_, hn⟩, by omega, by omega, ((Kept.refl w).alloc _ _).alloc _ _⟩
  · have h := Own.new (w.alloc (.cells (madeCells #[.int .i64 0, .bool false, .bool false] (n * 3)) 113)) [.slice (some ⟨w.heap.size, 0, none⟩) n n] 111
    simpa using h
  · exact (tfrags_made w n _).alloc _

/-- How many of the first k are in state s. -/
def cnt (T : Nat → Fr) (s : Int) : Nat → Nat
  | 0 => 0
  | k + 1 => cnt T s k + if (T k).s = s then 1 else 0

theorem cnt_le (T : Nat → Fr) (s : Int) : ∀ k, cnt T s k ≤ k
  | 0 => Nat.le_refl _
  | k + 1 => by
    have := cnt_le T s k
    simp only [cnt]
    split <;> omega

set_option maxHeartbeats 1000000 in
theorem tcounts_any {b g n : Nat} {T : Nat → Fr} (w : World) (h : Tab w b g n T) :
    Calls Try.prog 16 #[.pointer (some ⟨b, 0, none⟩)] w fun e w' => e = .returned (.tuple #[.int .i64 (cnt T 0 n), .int .i64 (cnt T 1 n), .int .i64 (cnt T 2 n)]) ∧ Kept w w' := by
  have c0 := h.hd
  have hn := h.few
  have HT : Hid (Tab w b g n T) := h
  clear h
  go_enter Try.func16, Try.ntmps16
  go_wp2
  clear c0
  go_loopg [5, 6, 7, 15] n (fun m x y z i wr => ∃ k : Nat, i = .int .i64 k ∧ k ≤ n ∧ m = n - k ∧ x = .int .i64 (cnt T 0 k) ∧ y = .int .i64 (cnt T 1 k) ∧ z = .int .i64 (cnt T 2 k) ∧ Hid (Kept w wr))
  case atStart => exact ⟨0, rfl, by omega, by omega, rfl, rfl, rfl, Kept.refl _⟩
  case round =>
    obtain ⟨k, rfl, hk, hm, rfl, rfl, rfl, hw⟩ := hrel
    have HM : Hid _ := hm
    clear hm
    have l0 := cnt_le T 0 k
    have l1 := cnt_le T 1 k
    have l2 := cnt_le T 2 k
    by_cases hlt : k < n
    · have ht := HT.out.kept hw.out
      have a0 := ht.at0 hlt
      have a1 := ht.at1 hlt
      have a2 := ht.at2 hlt
      clear ht
      have s0 : cnt T 0 (k + 1) = cnt T 0 k + if (T k).s = 0 then 1 else 0 := rfl
      have s1 : cnt T 1 (k + 1) = cnt T 1 k + if (T k).s = 1 then 1 else 0 := rfl
      have s2 : cnt T 2 (k + 1) = cnt T 2 k + if (T k).s = 2 then 1 else 0 := rfl
      generalize (T k).s = s at *
      rcases (show s = 0 ∨ s = 1 ∨ s = 2 ∨ ((s == 0) = false ∧ (s == 1) = false ∧ (s == 2) = false) by
        by_cases h0 : s = 0
        · exact .inl h0
        · by_cases h1 : s = 1
          · exact .inr (.inl h1)
          · by_cases h2 : s = 2
            · exact .inr (.inr (.inl h2))
            · exact .inr (.inr (.inr ⟨by simpa using h0, by simpa using h1, by simpa using h2⟩))) with rfl | rfl | rfl | ⟨h0, h1, h2⟩
      all_goals simp_all only [if_true, if_false, beq_eq_false_iff_ne, ne_eq, Int.reduceEq, Nat.add_zero]
      all_goals (have S : Hid (_ ∧ _ ∧ _) := ⟨s0, s1, s2⟩; clear s0 s1 s2)
      all_goals go_wp2
      all_goals go_roundg (gk - 1)
      all_goals (have := HM.out; try omega)
      all_goals (obtain ⟨e0, e1, e2⟩ := S.out; exact ⟨k + 1, by go_num, by omega, by omega, by simp [e0], by simp [e1], by simp [e2], hw.out.alloc _ _⟩)
    · obtain rfl : k = n := by omega
      go_wp2
      go_ret3
      exact ⟨rfl, hw.out⟩

end Go.Proofs.Ytiigmmmhhpdmdaa

