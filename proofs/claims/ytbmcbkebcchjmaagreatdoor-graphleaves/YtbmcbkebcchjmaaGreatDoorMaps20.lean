/-
  Maps whose keys are whole numbers: one entry at most (Mp); a set (St); their keys, sorted.
-/
import Derived.Test.YtbmcbkebcchjmaaGreatDoorLst
import Derived.Test.YtbmcbkebcchjmaaGreatDoorShelf
import Derived.Maps.OwnSet
import Derived.Maps.Ext
namespace Go.Proofs.YtbmcbkebcchjmaaGreatDoor
open Go.RowKit Go.Maps Go.Sort Go.Shelf

theorem law3 : Keyed Tryz.prog 3 := int_keyed Tryz.underlying3

/-- Whatever an element is, it reads as itself. -/
def heldR (v : Value) : Option (DataW Value × List MemPlace) := some (.held v, [])

theorem mut_turned {w w' : World} {b : Nat} (h : w.mapTurned w' b) : Mut [b] w w' := mut_grown h.grown
theorem wf64 {k : Int} (h : IntKind.min .i64 ≤ k ∧ k ≤ IntKind.max .i64) : (Lit.int .i64 k).wf = true := by
  simp only [Lit.wf, Bool.and_eq_true, decide_eq_true_eq]
  exact h
theorem key_of {k : Int} (h : IntKind.min .i64 ≤ k ∧ k ≤ IntKind.max .i64) : keyOf Tryz.prog 3 (.int .i64 k) = some (.int .i64 k) := keyOf_int_mk Tryz.underlying3 (wf64 h)
theorem in64 {k : Nat} (h : k ≤ 1000000000000) : IntKind.min .i64 ≤ (k : Int) ∧ (k : Int) ≤ IntKind.max .i64 := by
  have a : IntKind.min .i64 = -9223372036854775808 := by decide
  have b : IntKind.max .i64 = 9223372036854775807 := by decide
  omega

section
variable {H : Type} {k : TypeId} {R : Value → Option (DataW H × List MemPlace)} {w w' : World} {b n : Nat} {D : DataW H}
theorem ownsMap_tight (h : w.ownsMap Tryz.prog k R b n D) : w.ownsMap Tryz.prog k R b (Maps.size D) D := by
  obtain ⟨es, clock, hb, F, hs, rfl⟩ := h
  refine ⟨es, clock, hb, F, ?_, rfl⟩
  simp [Maps.size, length_sorted]
theorem ownsMap_muts {E : List Nat} (h : w.ownsMap Tryz.prog k R b n D) (m : Mut E w w') (hd : b ∉ E) : w'.ownsMap Tryz.prog k R b n D := by
  have hl := h.lt
  obtain ⟨es, clock, hb, F, hs, e⟩ := h
  exact ⟨es, clock, (m.block b hl hd).trans hb, F, hs, e⟩
end

/-! ### A map of one entry at most -/
def mpD : Option (Int × Value) → DataW Value
  | none => .map []
  | some (k, v) => (DataW.map []).put (.int .i64 k) (.held v)
def Mp (w : World) (b : Nat) (kv : Option (Int × Value)) : Prop := w.ownsMap Tryz.prog 3 heldR b (Maps.size (mpD kv)) (mpD kv)

section
variable {w w' : World} {b : Nat} {kv : Option (Int × Value)} {v : Value} {k : Int} {t e : TypeId} {z : Value}
theorem Mp.lt (h : Mp w b kv) : b < w.heap.size := World.ownsMap.lt h
theorem Mp.muts {E : List Nat} (h : Mp w b kv) (m : Mut E w w') (hd : b ∉ E) : Mp w' b kv := ownsMap_muts h m hd
theorem Mp.kept (h : Mp w b kv) (q : Kept w w') : Mp w' b kv := h.muts (E := []) q.mut (by simp)
theorem Mp.new (w : World) : Mp (w.alloc (.map #[] 0)) w.heap.size none := World.ownsMap_made _ _ _ _
theorem size_one (k : Int) (v : Value) : Maps.size (mpD (some (k, v))) = 1 := rfl

theorem Mp.hit (h : Mp w b (some (k, v))) (hk : IntKind.min .i64 ≤ k ∧ k ≤ IntKind.max .i64) (ht : Tryz.prog.underlying t = some (.map 3 e)) (hz : (zeroValue e).run Tryz.prog w = .ok z w) :
    (Instr.lookup t (.map (some b)) (.int .i64 k) true).run Tryz.prog w = .ok (.tuple #[v, .bool true]) w ∧ (Instr.lookup t (.map (some b)) (.int .i64 k) false).run Tryz.prog w = .ok v w := by
  have hK : WideAt.IsKeyLit (.int .i64 k) := law3.key (key_of hk)
  have hat : (mpD (some (k, v))).atKey (.int .i64 k) (.held z) = .held v := atKey_put_same isMap_empty hK _ _
  have hhas : Maps.has (mpD (some (k, v))) (.int .i64 k) = true := has_put_same isMap_empty hK _
  constructor
  · obtain ⟨u, ps, hr, hv⟩ := World.ownsMap.look_ok h law3 ht hz (zd := .held z) (zp := []) rfl (key_of hk)
    rw [hat] at hv
    simp only [heldR, Option.some.injEq, Prod.mk.injEq, DataW.held.injEq] at hv
    rw [hr, hv.1, hhas]
  · obtain ⟨u, ps, hr, hv⟩ := World.ownsMap.lookup h law3 ht hz (zd := .held z) (zp := []) rfl (key_of hk)
    rw [hat] at hv
    simp only [heldR, Option.some.injEq, Prod.mk.injEq, DataW.held.injEq] at hv
    rw [hr, hv.1]
theorem Mp.miss (h : Mp w b none) (hk : IntKind.min .i64 ≤ k ∧ k ≤ IntKind.max .i64) (ht : Tryz.prog.underlying t = some (.map 3 e)) (hz : (zeroValue e).run Tryz.prog w = .ok z w) :
    (Instr.lookup t (.map (some b)) (.int .i64 k) true).run Tryz.prog w = .ok (.tuple #[z, .bool false]) w := by
  obtain ⟨u, ps, hr, hv⟩ := World.ownsMap.look_ok h law3 ht hz (zd := .held z) (zp := []) rfl (key_of hk)
  have hat : (mpD none).atKey (.int .i64 k) (.held z) = .held z := rfl
  rw [hat] at hv
  simp only [heldR, Option.some.injEq, Prod.mk.injEq, DataW.held.injEq] at hv
  rw [hr, hv.1]
  rfl
theorem Mp.put (h : Mp w b none) (hk : IntKind.min .i64 ≤ k ∧ k ≤ IntKind.max .i64) (ht : Tryz.prog.underlying t = some (.map 3 e)) (v : Value) :
    ∃ w', (Instr.mapUpdate t (.map (some b)) (.int .i64 k) v).run Tryz.prog w = .ok () w' ∧ Mp w' b (some (k, v)) ∧ Mut [b] w w' := by
  obtain ⟨w', hr, h1, h2⟩ := World.ownsMap.store h law3 ht (by decide) (key_of hk) (show heldR v = some (.held v, []) from rfl)
  exact ⟨w', hr, ownsMap_tight h1, mut_turned h2⟩
theorem Mp.del (h : Mp w b (some (k, v))) (hk : IntKind.min .i64 ≤ k ∧ k ≤ IntKind.max .i64) (ht : Tryz.prog.underlying t = some (.map 3 e)) (ty : TypeId) :
    ∃ w', (Builtin.delete_ #[t, 3] ty #[.map (some b), .int .i64 k]).run Tryz.prog w = .ok (.tuple #[]) w' ∧ Mp w' b none ∧ Mut [b] w w' := by
  obtain ⟨w', hr, h1, h2⟩ := World.ownsMap.drop h law3 ht (key_of hk) ty
  have e : (mpD (some (k, v))).del (.int .i64 k) = .map [] := by
    show DataW.map ([((.int .i64 k : Lit), (.held v : DataW Value))].filter fun p => !p.1.sameKey (.int .i64 k)) = .map []
    simp [Lit.sameKey]
  rw [e] at h1
  exact ⟨w', hr, ownsMap_tight h1, mut_turned h2⟩
theorem intKeys_one (k : Int) (v : Value) : intKeys (mpD (some (k, v))) = [k] := rfl
end

/-! ### A set of numbers -/
def lits (K : List Nat) : List Lit := K.map fun (i : Nat) => (Lit.int .i64 (i : Int))
def St (w : World) (b : Nat) (K : List Nat) : Prop := w.ownsMap Tryz.prog 3 (unitElem (H := Unit)) b K.length (setOf (.agg []) (lits K))
theorem lits_key (K : List Nat) : ∀ x ∈ lits K, WideAt.IsKeyLit x := fun x hx => by
  obtain ⟨i, _, rfl⟩ := List.mem_map.1 hx
  exact trivial
theorem any_lits (K : List Nat) (i : Nat) : ((lits K).any fun x => x.sameKey (.int .i64 (i : Int))) = decide (i ∈ K) := by
  rw [Bool.eq_iff_iff, List.any_eq_true, decide_eq_true_eq]
  constructor
  · rintro ⟨x, hx, hs⟩
    obtain ⟨j, hj, rfl⟩ := List.mem_map.1 hx
    have : (j : Int) = i := by simpa [Lit.sameKey] using hs
    obtain rfl : j = i := by omega
    exact hj
  · intro hi
    exact ⟨_, List.mem_map.2 ⟨i, hi, rfl⟩, by simp [Lit.sameKey]⟩
section
variable {w w' : World} {b : Nat} {K : List Nat} {t : TypeId}
theorem St.lt (h : St w b K) : b < w.heap.size := World.ownsMap.lt h
theorem St.muts {E : List Nat} (h : St w b K) (m : Mut E w w') (hd : b ∉ E) : St w' b K := ownsMap_muts h m hd
theorem St.new (w : World) : St (w.alloc (.map #[] 0)) w.heap.size [] := World.ownsMap_made w Tryz.prog 3 unitElem
theorem St.look (h : St w b K) {i : Nat} (hi : i ≤ 1000000) (ht : Tryz.prog.underlying t = some (.map 3 70)) (hz : (zeroValue 70).run Tryz.prog w = .ok (.agg #[]) w) :
    (Instr.lookup t (.map (some b)) (.int .i64 (i : Int)) true).run Tryz.prog w = .ok (.tuple #[.agg #[], .bool (decide (i ∈ K))]) w := by
  obtain ⟨u, ps, hr, hv⟩ := World.ownsMap.look_ok h law3 ht hz unitElem_mk (key_of (in64 (k := i) (by omega)))
  obtain ⟨rfl, _⟩ := unitElem_inv hv
  rw [hr, has_setOf _ _ _ (lits_key K), any_lits]
theorem St.add (h : St w b K) {i : Nat} (hi : i ≤ 1000000) (hl : K.length ≤ 1000000) (ht : Tryz.prog.underlying t = some (.map 3 70)) :
    ∃ w', (Instr.mapUpdate t (.map (some b)) (.int .i64 (i : Int)) (.agg #[])).run Tryz.prog w = .ok () w' ∧ St w' b (K ++ [i]) ∧ Mut [b] w w' := by
  obtain ⟨w', hr, h1, h2⟩ := World.ownsMap.store h law3 ht (by unfold maxLen; omega) (key_of (in64 (k := i) (by omega))) (unitElem_mk (H := Unit))
  refine ⟨w', hr, ?_, mut_turned h2⟩
  have e : setOf (DataW.agg (H := Unit) []) (lits (K ++ [i])) = (setOf (.agg []) (lits K)).put (.int .i64 (i : Int)) (.agg []) := by
    unfold lits
    rw [List.map_append, List.map_singleton, setOf_snoc]
  unfold St
  rw [e, List.length_append]
  exact h1
/-- The keys, in whatever order and sorted: those of the set. -/
theorem St.keys (h : St w b K) (hn : K.Nodup) {ss : List Int} (hp : ss.Perm (intKeys (setOf (DataW.agg (H := Unit) []) (lits K)))) : ∃ ids : List Nat, ids.Perm K ∧ ss.mergeSort leI = ids.map fun (i : Nat) => (i : Int) := by
  have hs : (K.map fun (i : Nat) => (i : Int)).Perm (intKeys (setOf (DataW.agg (H := Unit) []) (lits K))) := by
    obtain ⟨es, hD, hpw, _⟩ := World.ownsMap.entries h law3
    obtain ⟨es', hD', hko⟩ := World.ownsMap.keysOf h
    obtain rfl : es = es' := by rw [hD] at hD'; simpa using hD'
    have hh := fun i => has_setOf (DataW.agg (H := Unit) []) i (lits K) (lits_key K)
    rw [hD] at hh ⊢
    refine perm_intKeys hpw (fun p hp => by obtain ⟨v, hv⟩ := hko p hp; obtain ⟨x, _, hx, _⟩ := Maps.keyOf_i64 Tryz.underlying3 hv; exact ⟨x, hx⟩) (List.pairwise_map.2 (hn.imp fun {a b} hne e => hne (by omega))) fun x => ?_
    rw [hh, List.any_eq_true, List.mem_map]
    constructor
    · rintro ⟨i, hi, rfl⟩
      exact ⟨_, List.mem_map.2 ⟨i, hi, rfl⟩, by simp [Lit.sameKey]⟩
    · rintro ⟨y, hy, hs⟩
      obtain ⟨i, hi, rfl⟩ := List.mem_map.1 hy
      exact ⟨i, hi, by simpa [Lit.sameKey] using hs⟩
  have h1 : (ss.mergeSort leI).Perm (K.map fun (i : Nat) => (i : Int)) := (List.mergeSort_perm ss leI).trans (hp.trans hs.symm)
  refine ⟨(ss.mergeSort leI).map Int.toNat, ?_, ?_⟩
  · have := h1.map Int.toNat
    rw [List.map_map] at this
    have e : (Int.toNat ∘ fun (i : Nat) => (i : Int)) = id := by funext i; simp
    rwa [e, List.map_id] at this
  · rw [List.map_map]
    have e : ∀ x ∈ ss.mergeSort leI, ((fun (i : Nat) => (i : Int)) ∘ Int.toNat) x = id x := fun x hx => by
      obtain ⟨i, _, rfl⟩ := List.mem_map.1 (h1.mem_iff.1 hx)
      simp
    rw [List.map_congr_left e, List.map_id]
end

/-- slices.Sort's two contracts. -/
theorem sorts (m : Nat) : AnyZI.SortsIn Tryz.prog Tryz.sorted_ren Fence.wide m :=
  ⟨fun blk off cap ss W hH hblk hsz => callsIn_wide.2 (AnyM.slices_Sort_int Tryz.laysSlM5_f52 blk off cap ss W hH hblk hsz),
   fun p cap W => callsIn_wide.2 (AnyM.slices_Sort_int_none Tryz.laysSlM5_f52 p cap W)⟩

/-! ### maps.Keys at map[int]struct%20{}, and what slices.Sorted makes of it -/
theorem keysR_any (mb : Option Nat) (w : World) : Calls Tryz.prog 33 #[.map mb] w fun e w' => e = .returned (.func (.func 53) #[] #[.pointer (some ⟨w.heap.size, 0, none⟩)]) ∧ w' = w.alloc (.cells #[.map mb] 69) :=
  (callsIn_wide (n := 6)).1 (AnyZI.keys_in Tryz.keysR Fence.wide 6 trivial rfl mb w)

set_option maxHeartbeats 1000000 in
theorem sortedR_any {H : Type} (b nn : Nat) (D0 : DataW H) (R : Value → Option (DataW H × List MemPlace)) (w : World) (hown : w.ownsMap Tryz.prog 3 R b nn D0) (hmax : Maps.size D0 ≤ 1000000) :
    Calls Tryz.prog 32 #[.func (.func 53) #[] #[.pointer (some ⟨w.heap.size, 0, none⟩)]] (w.alloc (.cells #[.map (some b)] 69)) fun e w' =>
      ∃ (v : Value) (ss : List Int), e = .returned v ∧ ss.Perm (intKeys D0) ∧ Lst w' (w.heap.size + 1) v (ss.mergeSort leI) ∧ Kept (w.alloc (.cells #[.map (some b)] 69)) w' := by
  refine (callsIn_wide (n := 6)).1 ?_
  have hbl := hown.lt
  have hseq : SeqGives Fence.wide 3 Tryz.prog 53 #[.pointer (some ⟨w.heap.size, 0, none⟩)] encZ (fun ss => ss.Perm (intKeys D0)) (Maps.size D0) (w.alloc (.cells #[.map (some b)] 69)) :=
    AnyZI.keys_gives (ρ := Tryz.keysR_ren) { Tryz.keysR with } Fence.wide _ trivial rfl (by omega) w.heap.size b nn D0 _ (by simp) (by simp) (by
      obtain ⟨es, clock, hb, Ft, hs, hD⟩ := hown
      exact ⟨es, clock, (Below.heap_alloc _ _ b hbl).trans hb, Ft, hs, hD⟩)
  have cS := AnyZI.sorted_in Tryz.sorted Fence.wide 6 trivial trivial trivial trivial rfl (by omega) (sorts _) (enters_of Tryz.func52 (by kernel_rfl) rfl) 53 #[.pointer (some ⟨w.heap.size, 0, none⟩)] trivial (enters_of Tryz.func53 (by kernel_rfl) rfl) _ (Maps.size D0) (by unfold maxLen; omega) (by omega) _ hseq
  refine cS.mono ?_
  rintro e w' ⟨v, ss, rfl, hS, hrow, _, hb⟩
  refine ⟨v, ss, rfl, hS, ?_, ⟨hb⟩⟩
  have hr : World.ownsRow w' _ 3 1 v ss.length ((ss.mergeSort leI).map encZ) := hrow
  unfold Lst
  rw [List.length_mergeSort]
  simpa using hr

set_option maxHeartbeats 1000000 in
theorem sortedR_nil (w : World) :
    Calls Tryz.prog 32 #[.func (.func 53) #[] #[.pointer (some ⟨w.heap.size, 0, none⟩)]] (w.alloc (.cells #[.map none] 69)) fun e w' =>
      ∃ v : Value, e = .returned v ∧ Lst w' (w.heap.size + 1) v [] ∧ Kept (w.alloc (.cells #[.map none] 69)) w' := by
  refine (callsIn_wide (n := 6)).1 ?_
  have hseq : SeqGives Fence.wide 3 Tryz.prog 53 #[.pointer (some ⟨w.heap.size, 0, none⟩)] encZ (fun ss : List Int => ss = []) 0 (w.alloc (.cells #[.map none] 69)) :=
    AnyZI.keys_gives_nil (ρ := Tryz.keysR_ren) { Tryz.keysR with } Fence.wide _ trivial rfl w.heap.size _ (by simp) (by simp)
  have cS := AnyZI.sorted_in Tryz.sorted Fence.wide 6 trivial trivial trivial trivial rfl (by omega) (sorts _) (enters_of Tryz.func52 (by kernel_rfl) rfl) 53 #[.pointer (some ⟨w.heap.size, 0, none⟩)] trivial (enters_of Tryz.func53 (by kernel_rfl) rfl) _ 0 (Nat.zero_le _) (by omega) _ hseq
  refine cS.mono ?_
  rintro e w' ⟨v, ss, rfl, rfl, hrow, _, hb⟩
  have hr : World.ownsRow w' _ 3 1 v _ _ := hrow
  exact ⟨v, rfl, by simpa [Lst] using hr, ⟨hb⟩⟩

/-! ### maps.Keys at map[int][]op.Value, and what slices.Sorted makes of it -/
theorem keysL_any (mb : Option Nat) (w : World) : Calls Tryz.prog 49 #[.map mb] w fun e w' => e = .returned (.func (.func 69) #[] #[.pointer (some ⟨w.heap.size, 0, none⟩)]) ∧ w' = w.alloc (.cells #[.map mb] 57) :=
  (callsIn_wide (n := 6)).1 (AnyZI.keys_in Tryz.keysL Fence.wide 6 trivial rfl mb w)

set_option maxHeartbeats 1000000 in
theorem sortedL_any {H : Type} (b nn : Nat) (D0 : DataW H) (R : Value → Option (DataW H × List MemPlace)) (w : World) (hown : w.ownsMap Tryz.prog 3 R b nn D0) (hmax : Maps.size D0 ≤ 1000000) :
    Calls Tryz.prog 32 #[.func (.func 69) #[] #[.pointer (some ⟨w.heap.size, 0, none⟩)]] (w.alloc (.cells #[.map (some b)] 57)) fun e w' =>
      ∃ (v : Value) (ss : List Int), e = .returned v ∧ ss.Perm (intKeys D0) ∧ Lst w' (w.heap.size + 1) v (ss.mergeSort leI) ∧ Kept (w.alloc (.cells #[.map (some b)] 57)) w' := by
  refine (callsIn_wide (n := 6)).1 ?_
  have hbl := hown.lt
  have hseq : SeqGives Fence.wide 3 Tryz.prog 69 #[.pointer (some ⟨w.heap.size, 0, none⟩)] encZ (fun ss => ss.Perm (intKeys D0)) (Maps.size D0) (w.alloc (.cells #[.map (some b)] 57)) :=
    AnyZI.keys_gives (ρ := Tryz.keysL_ren) { Tryz.keysL with } Fence.wide _ trivial rfl (by omega) w.heap.size b nn D0 _ (by simp) (by simp) (by
      obtain ⟨es, clock, hb, Ft, hs, hD⟩ := hown
      exact ⟨es, clock, (Below.heap_alloc _ _ b hbl).trans hb, Ft, hs, hD⟩)
  have cS := AnyZI.sorted_in Tryz.sorted Fence.wide 6 trivial trivial trivial trivial rfl (by omega) (sorts _) (enters_of Tryz.func52 (by kernel_rfl) rfl) 69 #[.pointer (some ⟨w.heap.size, 0, none⟩)] trivial (enters_of Tryz.func69 (by kernel_rfl) rfl) _ (Maps.size D0) (by unfold maxLen; omega) (by omega) _ hseq
  refine cS.mono ?_
  rintro e w' ⟨v, ss, rfl, hS, hrow, _, hb⟩
  refine ⟨v, ss, rfl, hS, ?_, ⟨hb⟩⟩
  have hr : World.ownsRow w' _ 3 1 v ss.length ((ss.mergeSort leI).map encZ) := hrow
  unfold Lst
  rw [List.length_mergeSort]
  simpa using hr

set_option maxHeartbeats 1000000 in
theorem sortedL_nil (w : World) :
    Calls Tryz.prog 32 #[.func (.func 69) #[] #[.pointer (some ⟨w.heap.size, 0, none⟩)]] (w.alloc (.cells #[.map none] 57)) fun e w' =>
      ∃ v : Value, e = .returned v ∧ Lst w' (w.heap.size + 1) v [] ∧ Kept (w.alloc (.cells #[.map none] 57)) w' := by
  refine (callsIn_wide (n := 6)).1 ?_
  have hseq : SeqGives Fence.wide 3 Tryz.prog 69 #[.pointer (some ⟨w.heap.size, 0, none⟩)] encZ (fun ss : List Int => ss = []) 0 (w.alloc (.cells #[.map none] 57)) :=
    AnyZI.keys_gives_nil (ρ := Tryz.keysL_ren) { Tryz.keysL with } Fence.wide _ trivial rfl w.heap.size _ (by simp) (by simp)
  have cS := AnyZI.sorted_in Tryz.sorted Fence.wide 6 trivial trivial trivial trivial rfl (by omega) (sorts _) (enters_of Tryz.func52 (by kernel_rfl) rfl) 69 #[.pointer (some ⟨w.heap.size, 0, none⟩)] trivial (enters_of Tryz.func69 (by kernel_rfl) rfl) _ 0 (Nat.zero_le _) (by omega) _ hseq
  refine cS.mono ?_
  rintro e w' ⟨v, ss, rfl, rfl, hrow, _, hb⟩
  have hr : World.ownsRow w' _ 3 1 v _ _ := hrow
  exact ⟨v, rfl, by simpa [Lst] using hr, ⟨hb⟩⟩

/-! ### maps.Keys at map[int]op.Value, and what slices.Sorted makes of it -/
theorem keysT_any (mb : Option Nat) (w : World) : Calls Tryz.prog 50 #[.map mb] w fun e w' => e = .returned (.func (.func 70) #[] #[.pointer (some ⟨w.heap.size, 0, none⟩)]) ∧ w' = w.alloc (.cells #[.map mb] 72) :=
  (callsIn_wide (n := 6)).1 (AnyZI.keys_in Tryz.keysT Fence.wide 6 trivial rfl mb w)

set_option maxHeartbeats 1000000 in
theorem sortedT_any {H : Type} (b nn : Nat) (D0 : DataW H) (R : Value → Option (DataW H × List MemPlace)) (w : World) (hown : w.ownsMap Tryz.prog 3 R b nn D0) (hmax : Maps.size D0 ≤ 1000000) :
    Calls Tryz.prog 32 #[.func (.func 70) #[] #[.pointer (some ⟨w.heap.size, 0, none⟩)]] (w.alloc (.cells #[.map (some b)] 72)) fun e w' =>
      ∃ (v : Value) (ss : List Int), e = .returned v ∧ ss.Perm (intKeys D0) ∧ Lst w' (w.heap.size + 1) v (ss.mergeSort leI) ∧ Kept (w.alloc (.cells #[.map (some b)] 72)) w' := by
  refine (callsIn_wide (n := 6)).1 ?_
  have hbl := hown.lt
  have hseq : SeqGives Fence.wide 3 Tryz.prog 70 #[.pointer (some ⟨w.heap.size, 0, none⟩)] encZ (fun ss => ss.Perm (intKeys D0)) (Maps.size D0) (w.alloc (.cells #[.map (some b)] 72)) :=
    AnyZI.keys_gives (ρ := Tryz.keysT_ren) { Tryz.keysT with } Fence.wide _ trivial rfl (by omega) w.heap.size b nn D0 _ (by simp) (by simp) (by
      obtain ⟨es, clock, hb, Ft, hs, hD⟩ := hown
      exact ⟨es, clock, (Below.heap_alloc _ _ b hbl).trans hb, Ft, hs, hD⟩)
  have cS := AnyZI.sorted_in Tryz.sorted Fence.wide 6 trivial trivial trivial trivial rfl (by omega) (sorts _) (enters_of Tryz.func52 (by kernel_rfl) rfl) 70 #[.pointer (some ⟨w.heap.size, 0, none⟩)] trivial (enters_of Tryz.func70 (by kernel_rfl) rfl) _ (Maps.size D0) (by unfold maxLen; omega) (by omega) _ hseq
  refine cS.mono ?_
  rintro e w' ⟨v, ss, rfl, hS, hrow, _, hb⟩
  refine ⟨v, ss, rfl, hS, ?_, ⟨hb⟩⟩
  have hr : World.ownsRow w' _ 3 1 v ss.length ((ss.mergeSort leI).map encZ) := hrow
  unfold Lst
  rw [List.length_mergeSort]
  simpa using hr

set_option maxHeartbeats 1000000 in
theorem sortedT_nil (w : World) :
    Calls Tryz.prog 32 #[.func (.func 70) #[] #[.pointer (some ⟨w.heap.size, 0, none⟩)]] (w.alloc (.cells #[.map none] 72)) fun e w' =>
      ∃ v : Value, e = .returned v ∧ Lst w' (w.heap.size + 1) v [] ∧ Kept (w.alloc (.cells #[.map none] 72)) w' := by
  refine (callsIn_wide (n := 6)).1 ?_
  have hseq : SeqGives Fence.wide 3 Tryz.prog 70 #[.pointer (some ⟨w.heap.size, 0, none⟩)] encZ (fun ss : List Int => ss = []) 0 (w.alloc (.cells #[.map none] 72)) :=
    AnyZI.keys_gives_nil (ρ := Tryz.keysT_ren) { Tryz.keysT with } Fence.wide _ trivial rfl w.heap.size _ (by simp) (by simp)
  have cS := AnyZI.sorted_in Tryz.sorted Fence.wide 6 trivial trivial trivial trivial rfl (by omega) (sorts _) (enters_of Tryz.func52 (by kernel_rfl) rfl) 70 #[.pointer (some ⟨w.heap.size, 0, none⟩)] trivial (enters_of Tryz.func70 (by kernel_rfl) rfl) _ 0 (Nat.zero_le _) (by omega) _ hseq
  refine cS.mono ?_
  rintro e w' ⟨v, ss, rfl, rfl, hrow, _, hb⟩
  have hr : World.ownsRow w' _ 3 1 v _ _ := hrow
  exact ⟨v, rfl, by simpa [Lst] using hr, ⟨hb⟩⟩
end Go.Proofs.YtbmcbkebcchjmaaGreatDoor
