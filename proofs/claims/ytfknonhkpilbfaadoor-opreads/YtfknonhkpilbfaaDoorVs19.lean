/-
  What the package-level variables hold that layer 19 reads: the words, the two sentinels, the library's tables. It stays in whatever world keeps what was there.
-/
import Derived.Test.YtfknonhkpilbfaaDoorCells
import Derived.Test.YtfknonhkpilbfaaDoorPure19
import Derived.Test.YtfknonhkpilbfaaDoorShelf
import Derived.Lib.ItoaMem
import Derived.Lib.AppendIntMem
namespace Go.Proofs.YtfknonhkpilbfaaDoor
open Go.RowKit

structure Vs (w : World) : Prop where
  lt : 8 ≤ w.heap.size
  m : ∃ m, w.cell? ⟨2, 0, none⟩ = some (.int .i64 m)
  syn : ∃ te pe, w.cell? ⟨3, 0, none⟩ = some (.iface te pe)
  rng : ∃ te pe, w.cell? ⟨4, 0, none⟩ = some (.iface te pe)
  pow : Lib.TabIs Tryd.prog w "internal/strconv.uint64pow10" .u64 Lib.pow10Tab
  tz : w.cell? ⟨7, 15, none⟩ = some (.int .u8 4)
  wd : ∀ k, k < 19 → w.cell? ⟨0, k * 2, none⟩ = some (.string ⟨(wd k).toArray⟩)
  lts : ∀ k, k < 19 → w.cell? ⟨0, k * 2 + 1, none⟩ = some (.string ⟨(lts k).toArray⟩)

theorem TabIs.keep {P : Program} {w w' : World} {name : String} {k : IntKind} {zs : List Int} (h : Lib.TabIs P w name k zs) (q : Kept w w') : Lib.TabIs P w' name k zs := by
  unfold Lib.TabIs World.var? at *
  cases hg : P.globalNamed name with
  | none => simp [hg] at h
  | some g =>
    simp only [hg, Option.bind_some] at h ⊢
    have hlt : g < w.heap.size := by
      rcases Nat.lt_or_ge g w.heap.size with h' | h'
      · exact h'
      · rw [Array.getElem?_eq_none h'] at h; simp at h
    rw [q.below.block g hlt]
    exact h

theorem Vs.keep {w w' : World} (h : Vs w) (q : Kept w w') : Vs w' := by
  have h8 := h.lt
  refine ⟨Nat.le_trans h8 q.size, ?_, ?_, ?_, TabIs.keep h.pow q, ?_, fun k hk => ?_, fun k hk => ?_⟩
  · obtain ⟨m, e⟩ := h.m; exact ⟨m, (q.cell (a := ⟨2, 0, none⟩) (show 2 < w.heap.size by omega)).trans e⟩
  · obtain ⟨a, b, e⟩ := h.syn; exact ⟨a, b, (q.cell (a := ⟨3, 0, none⟩) (show 3 < w.heap.size by omega)).trans e⟩
  · obtain ⟨a, b, e⟩ := h.rng; exact ⟨a, b, (q.cell (a := ⟨4, 0, none⟩) (show 4 < w.heap.size by omega)).trans e⟩
  · exact (q.cell (a := ⟨7, 15, none⟩) (show 7 < w.heap.size by omega)).trans h.tz
  · exact (q.cell (a := ⟨0, k * 2, none⟩) (show 0 < w.heap.size by omega)).trans (h.wd k hk)
  · exact (q.cell (a := ⟨0, k * 2 + 1, none⟩) (show 0 < w.heap.size by omega)).trans (h.lts k hk)

theorem kept_grow (w : World) (k : Nat) (os : Array Obj) : Kept w (Sort.grow (w.drewN k) os) := ⟨Lib.below_grow _ w (Nat.le_refl _) k os⟩
theorem kept_drewN (w : World) (n : Nat) : Kept w (w.drewN n) := by
  have := kept_grow w n #[]
  rwa [Sort.grow_empty] at this
theorem kept_bytes (w : World) (t : TypeId) (s : ByteArray) : Kept w (Lib.bytesWorld w t s) := ⟨Lib.bytesWorld_below w t s⟩

/-! ### The library's functions, in these words -/
theorem itoa_any (n : Int) (h : i64 n) (w : World) (hv : Vs w) : Calls Tryd.prog 30 #[.int .i64 n] w fun e w' => e = .returned (.string ⟨(Lib.itoa n).toArray⟩) ∧ Kept w w' :=
  (Tryd.strconv_Itoa n h.1 h.2 w hv.pow).mono fun _ _ ⟨he, k, os, hw⟩ => ⟨he, hw ▸ kept_grow w k os⟩

/-- The number of a text, if it is a number's. -/
theorem atoi_any (s : List UInt8) (hl : s.length ≤ 1000) (w : World) (hv : Vs w) :
    Calls Tryd.prog 21 #[.string ⟨s.toArray⟩] w fun e w' => ∃ (r : Int) (x : Value), e = .returned (.tuple #[.int .i64 r, x]) ∧ i64 r ∧ (∀ m, i64 m → s = Lib.itoa m → r = m) ∧ Kept w w' := by
  have hsz : (⟨s.toArray⟩ : ByteArray).size = s.length := by simp [ByteArray.size]
  have hto : (⟨s.toArray⟩ : ByteArray).data.toList = s := rfl
  cases h : Lib.atoiAll s with
  | ok v =>
    refine (Tryd.strconv_Atoi_ok ⟨s.toArray⟩ (by rw [hsz]; omega) v h w).mono fun _ _ ⟨he, hw⟩ => ⟨v, _, he, Lib.atoiAll_bounds h, fun m hm hs => ?_, ?_⟩
    · rw [hs, atoiAll_itoa m hm] at h
      injection h with h
      exact h.symm
    · rcases hw with rfl | ⟨t, rfl⟩
      · exact Kept.refl _
      · exact kept_bytes _ _ _
  | «syntax» =>
    obtain ⟨te, pe, hc⟩ := hv.syn
    refine (Tryd.strconv_Atoi_syntax ⟨s.toArray⟩ (by rw [hsz]; omega) h _ w hc (.inr ⟨te, pe, rfl⟩)).mono fun _ _ ⟨N, he, _, _, hb⟩ => ⟨0, _, he, i64_zero, fun m hm hs => ?_, ⟨hb⟩⟩
    rw [hs, atoiAll_itoa m hm] at h
    cases h
  | range =>
    obtain ⟨te, pe, hc⟩ := hv.rng
    refine (Tryd.strconv_Atoi_range ⟨s.toArray⟩ (by rw [hsz]; omega) h _ w hc (.inr ⟨te, pe, rfl⟩)).mono fun _ _ ⟨N, he, _, _, hb⟩ => ⟨_, _, he, Lib.atoiSat_bounds _, fun m hm hs => ?_, ⟨hb⟩⟩
    rw [hs, atoiAll_itoa m hm] at h
    cases h

theorem index_sp : ∀ s : List UInt8, ((32 : UInt8) ∉ s ∧ Lib.index s [32] = -1) ∨ ∃ f r, s = f ++ 32 :: r ∧ (32 : UInt8) ∉ f ∧ Lib.index s [32] = (f.length : Int) := by
  intro s
  rcases Lib.index_spec s [32] with ⟨h, hn⟩ | ⟨i, h, hi, ho, hn⟩
  · refine .inl ⟨fun hm => ?_, h⟩
    obtain ⟨j, hj, e⟩ := List.mem_iff_getElem.1 hm
    have := hn j (by omega)
    simp [Lib.occAt, List.drop_eq_getElem_cons hj, e] at this
  · right
    have hg := Lib.occAt_head (t := []) rfl ho
    obtain ⟨hlt, e⟩ := List.getElem?_eq_some_iff.1 hg
    refine ⟨s.take i, s.drop (i + 1), ?_, fun hm => ?_, ?_⟩
    · rw [← e, List.getElem_cons_drop, List.take_append_drop]
    · obtain ⟨j, hj, e'⟩ := List.mem_iff_getElem.1 hm
      rw [List.getElem_take] at e'
      have hj' : j < i := by simp at hj; omega
      have := hn j hj'
      simp [Lib.occAt, List.drop_eq_getElem_cons (show j < s.length by omega), e'] at this
    · rw [h, List.length_take, Nat.min_eq_left hi]

theorem cut_any (s : List UInt8) (hl : s.length ≤ 1000) (w : World) (hv : Vs w) :
    Calls Tryd.prog 9 #[.string ⟨s.toArray⟩, .string ⟨#[32]⟩] w fun e w' => ∃ b : Bool, e = .returned (.tuple #[.string ⟨(cutS s).1.toArray⟩, .string ⟨(cutS s).2.toArray⟩, .bool b]) ∧ Kept w w' := by
  have hsz : (⟨s.toArray⟩ : ByteArray).size = s.length := by simp [ByteArray.size]
  obtain ⟨m, hm⟩ := hv.m
  have h1 : (Lib.cut s [32]).1 = (cutS s).1 ∧ (Lib.cut s [32]).2.1 = (cutS s).2 := by
    unfold Lib.cut
    rcases index_sp s with ⟨h1, h2⟩ | ⟨f, r, rfl, h1, h2⟩
    · rw [h2, if_neg (by omega), cutS_no s h1]
      exact ⟨rfl, rfl⟩
    · rw [h2, if_pos (by omega), cutS_sp f r h1]
      have e : ((f.length : Int)).toNat = f.length := by omega
      simp only [e]
      simp
  refine (Tryd.strings_Cut ⟨s.toArray⟩ ⟨#[32]⟩ m w (by rw [hsz]; omega) hm).mono fun e w' ⟨he, n, hw⟩ => ?_
  refine ⟨(Lib.cut s [32]).2.2, ?_, ?_⟩
  · rw [he, ← h1.1, ← h1.2]
  · rw [hw]; exact kept_drewN w n
end Go.Proofs.YtfknonhkpilbfaaDoor
