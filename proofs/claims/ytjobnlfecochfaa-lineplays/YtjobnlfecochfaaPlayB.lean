/-
  LinePlays: the two calls of each kind.
-/
import Derived.Test.YtjobnlfecochfaaPlayA
namespace Go.Proofs.Ytjobnlfecochfaa
open Go.RowKit

def CallsL (w : World) (b : Nat) (E : List Ent) (P1 : List Ent → Prop) (fit : Bool) (f : FuncId) (args : Array Value) : Prop := ∀ u v, LTab u w.heap.size b v E → Kept w u → Calls Try.prog f args u fun e u' => e = .returned (.bool fit) ∧ ∃ v' E', LTab u' w.heap.size b v' E' ∧ P1 E' ∧ Mut (b :: v.ownBlock.toList) u u' ∧ ∀ k, k ∈ foot b v' E' → k ∈ foot b v E ∨ u.heap.size ≤ k
def CallsR (w : World) (b : Nat) (E : List Ent) (N : List Int) (P2 : List Ent → List Int → Prop) (fit : Bool) (f : FuncId) (args : Array Value) : Prop := ∀ u v nv, RTab u w.heap.size b v nv E N → Kept w u → Calls Try.prog f args u fun e u' => e = .returned (.bool fit) ∧ ∃ v' nv' E' N', RTab u' w.heap.size b v' nv' E' N' ∧ P2 E' N' ∧ Mut (b :: v.ownBlock.toList) u u' ∧ ∀ k, k ∈ footR b v' nv' E' → k ∈ footR b v nv E ∨ u.heap.size ≤ k

section
variable {w : World} {b b' : Nat} {E R : List Ent} {N : List Int} {j : Nat}
theorem add_both (h : Rel E R N j) (hj : j < 1000) (t f s s3 s4 s5 : Int) (x : Option Addr) (l c : Nat) : ∃ (fit : Bool) (P1 : List Ent → Prop) (P2 : List Ent → List Int → Prop),
    CallsL w b E P1 fit 10 #[.pointer (some ⟨b, 0, none⟩), .agg #[.int .i64 t, .int .i64 f, .int .i64 s, .int .i64 s3, .int .i64 s4, .int .i64 s5, .slice x l c]] ∧
    CallsR w b' R N P2 fit 11 #[.pointer (some ⟨b', 0, none⟩), .agg #[.int .i64 t, .int .i64 f, .int .i64 s, .int .i64 s3, .int .i64 s4, .int .i64 s5, .slice x l c]] ∧ ∀ E' R' N', P1 E' → P2 R' N' → Rel E' R' N' (j + 1) := by
  have hl := h.len
  have hl2 := h.len2
  by_cases hm : ∃ e ∈ E, e.th = t
  · refine ⟨false, fun E' => E' = E, fun R' N' => R' = R ∧ N' = N, fun u v T _ => (add_no u T hm).mono fun e u' ⟨he, k⟩ => ⟨he, v, E, T.kept k, rfl, k.mut, fun k hk => .inl hk⟩,
      fun u v nv T _ => (radd_no u T (h.thR.2 hm)).mono fun e u' ⟨he, k⟩ => ⟨he, v, nv, R, N, T.kept k, ⟨rfl, rfl⟩, k.mut, fun k hk => .inl hk⟩, ?_⟩
    rintro E' R' N' rfl ⟨rfl, rfl⟩
    exact h.more
  · have h1 : ∀ e ∈ E, e.th ≠ t := fun e he q => hm ⟨e, he, q⟩
    have h2 : ∀ e ∈ R, e.th ≠ t := fun e he q => hm (h.thR.1 ⟨e, he, q⟩)
    refine ⟨true, fun E' => E' = E ++ [newEnt t f s], fun R' N' => R' = R ++ [newEnt t f s] ∧ N' = N, fun u v T _ => (add_yes u T (by omega) h1).mono fun e u' ⟨he, v', a1, a2, a3⟩ => ⟨he, v', _, a1, rfl, a2, a3⟩,
      fun u v nv T _ => (radd_yes u T (by omega) h2).mono fun e u' ⟨he, v', a1, a2, a3⟩ => ⟨he, v', nv, _, N, a1, ⟨rfl, rfl⟩, a2, a3⟩, ?_⟩
    rintro E' R' N' rfl ⟨rfl, rfl⟩
    exact h.add f s h1
theorem idxS (h : Rel E R N j) : idx (fun e => e.st == 0) R = idx (fun e => e.st == 0) E := idx_key (fun k => k.2.2.2.1 == 0) (fun _ => rfl) h.key
theorem idxT (h : Rel E R N j) (t : Int) : idx (fun e => e.th == t) R = idx (fun e => e.th == t) E := idx_key (fun k => k.1 == t) (fun _ => rfl) h.key
theorem key_at (h : Rel E R N j) {i : Nat} (hi : i < E.length) (hr : i < R.length) : E[i].key = R[i].key := by
  have : (E.map Ent.key)[i]'(by simpa using hi) = (R.map Ent.key)[i]'(by simpa using hr) := by simp [h.key]
  simpa using this
theorem grant_both (h : Rel E R N j) {x : Option Addr} {T : List Int} (c : Nat) (p : Int) (hx : Rdi w x T) (hT : T.length ≤ 2000) : ∃ (fit : Bool) (P1 : List Ent → Prop) (P2 : List Ent → List Int → Prop),
    CallsL w b E P1 fit 12 #[.pointer (some ⟨b, 0, none⟩), .slice x T.length c, .int .i64 p] ∧
    CallsR w b' R N P2 fit 13 #[.pointer (some ⟨b', 0, none⟩), .slice x T.length c, .int .i64 p] ∧ ∀ E' R' N', P1 E' → P2 R' N' → Rel E' R' N' (j + 1) := by
  rcases idx_cases (fun e => e.st == 0) E with ⟨i1, -, -⟩ | ⟨i, hi, i1, -, -, -⟩
  · refine ⟨false, fun E' => E' = E, fun R' N' => R' = R ∧ N' = N, fun u v Tb _ => (grant_no u Tb i1).mono fun e u' ⟨he, k⟩ => ⟨he, v, E, Tb.kept k, rfl, k.mut, fun k hk => .inl hk⟩,
      fun u v nv Tb _ => (rgrant_no u Tb ((idxS h).trans i1)).mono fun e u' ⟨he, k⟩ => ⟨he, v, nv, R, N, k ▸ Tb, ⟨rfl, rfl⟩, k ▸ Mut.refl _ _, fun k hk => .inl hk⟩, ?_⟩
    rintro E' R' N' rfl ⟨rfl, rfl⟩
    exact h.more
  · have hr : i < R.length := by rw [h.len2]; exact hi
    have hk := key_at h hi hr
    refine ⟨true, fun E' => ∃ y d, E' = E.set i { E[i] with st := 1, pl := p, gx := y, gc := d, G := T }, fun R' N' => (∃ y d, R' = R.set i { R[i] with st := 1, pl := p, gx := y, gc := d, G := T }) ∧ N' = N,
      fun u v Tb k => (grant_yes u Tb hi i1 (hx.kept k) (by omega)).mono fun e u' ⟨he, y, d, a1, a2, a3⟩ => ⟨he, v, _, a1, ⟨y, d, rfl⟩, a2, a3⟩,
      fun u v nv Tb k => (rgrant_yes u Tb hr ((idxS h).trans i1) (hx.kept k) (by omega)).mono fun e u' ⟨he, y, d, a1, a2, a3⟩ => ⟨he, v, nv, _, N, a1, ⟨⟨y, d, rfl⟩, rfl⟩, a2, a3⟩, ?_⟩
    rintro E' R' N' ⟨y, d, rfl⟩ ⟨⟨y', d', rfl⟩, rfl⟩
    refine h.put hi ?_ rfl (by simp) rfl
    simp only [Ent.key, Prod.mk.injEq] at hk ⊢
    simp [hk.1, hk.2.1, hk.2.2.1, hk.2.2.2.2.1]
theorem fail_both (h : Rel E R N j) : ∃ (fit : Bool) (P1 : List Ent → Prop) (P2 : List Ent → List Int → Prop),
    CallsL w b E P1 fit 14 #[.pointer (some ⟨b, 0, none⟩)] ∧ CallsR w b' R N P2 fit 15 #[.pointer (some ⟨b', 0, none⟩)] ∧ ∀ E' R' N', P1 E' → P2 R' N' → Rel E' R' N' (j + 1) := by
  rcases idx_cases (fun e => e.st == 0) E with ⟨i1, -, -⟩ | ⟨i, hi, i1, -, -, -⟩
  · refine ⟨false, fun E' => E' = E, fun R' N' => R' = R ∧ N' = N, fun u v Tb _ => (fail_no u Tb i1).mono fun e u' ⟨he, k⟩ => ⟨he, v, E, Tb.kept k, rfl, k.mut, fun k hk => .inl hk⟩,
      fun u v nv Tb _ => (rfail_no u Tb ((idxS h).trans i1)).mono fun e u' ⟨he, k⟩ => ⟨he, v, nv, R, N, k ▸ Tb, ⟨rfl, rfl⟩, k ▸ Mut.refl _ _, fun k hk => .inl hk⟩, ?_⟩
    rintro E' R' N' rfl ⟨rfl, rfl⟩
    exact h.more
  · have hr : i < R.length := by rw [h.len2]; exact hi
    have hk := key_at h hi hr
    refine ⟨true, fun E' => E' = E.set i { E[i] with st := 2 }, fun R' N' => R' = R.set i { R[i] with st := 2 } ∧ N' = N,
      fun u v Tb _ => (fail_yes u Tb hi i1).mono fun e u' ⟨he, a1, a2, a3⟩ => ⟨he, v, _, a1, rfl, a2, a3⟩,
      fun u v nv Tb _ => (rfail_yes u Tb hr ((idxS h).trans i1)).mono fun e u' ⟨he, a1, a2, a3⟩ => ⟨he, v, nv, _, N, a1, ⟨rfl, rfl⟩, a2, a3⟩, ?_⟩
    rintro E' R' N' rfl ⟨rfl, rfl⟩
    refine h.put hi ?_ rfl (by simp) rfl
    simp only [Ent.key, Prod.mk.injEq] at hk ⊢
    simp [hk.1, hk.2.1, hk.2.2.1, hk.2.2.2.2.1, hk.2.2.2.2.2.1, hk.2.2.2.2.2.2]
theorem drop_both (h : Rel E R N j) (hj : j < 1000) (t : Int) : ∃ (fit : Bool) (P1 : List Ent → Prop) (P2 : List Ent → List Int → Prop),
    CallsL w b E P1 fit 16 #[.pointer (some ⟨b, 0, none⟩), .int .i64 t] ∧ CallsR w b' R N P2 fit 17 #[.pointer (some ⟨b', 0, none⟩), .int .i64 t] ∧ ∀ E' R' N', P1 E' → P2 R' N' → Rel E' R' N' (j + 1) := by
  have hln := h.lnn
  rcases idx_cases (fun e => e.th == t) E with ⟨i1, -, -⟩ | ⟨i, hi, i1, -, i4, -⟩
  · refine ⟨false, fun E' => E' = E, fun R' N' => R' = R ∧ N' = N, fun u v Tb _ => (drop_no u Tb i1).mono fun e u' ⟨he, k⟩ => ⟨he, v, E, Tb.kept k, rfl, k.mut, fun k hk => .inl hk⟩,
      fun u v nv Tb _ => (rdrop_no u Tb ((idxT h t).trans i1)).mono fun e u' ⟨he, k⟩ => ⟨he, v, nv, R, N, k ▸ Tb, ⟨rfl, rfl⟩, k ▸ Mut.refl _ _, fun k hk => .inl hk⟩, ?_⟩
    rintro E' R' N' rfl ⟨rfl, rfl⟩
    exact h.more
  · have hr : i < R.length := by rw [h.len2]; exact hi
    refine ⟨true, fun E' => E' = E.eraseIdx i, fun R' N' => R' = R.eraseIdx i ∧ N' = N.filter fun x => x != t,
      fun u v Tb _ => (drop_yes u Tb hi i1).mono fun e u' ⟨he, v', a1, a2, a3⟩ => ⟨he, v', _, a1, rfl, a2, a3⟩,
      fun u v nv Tb _ => (rdrop_yes u Tb hr ((idxT h t).trans i1) (by omega)).mono fun e u' ⟨he, v', nv', a1, a2, a3⟩ => ⟨he, v', nv', _, _, a1, ⟨rfl, rfl⟩, a2, a3⟩, ?_⟩
    rintro E' R' N' rfl ⟨rfl, rfl⟩
    exact h.drop hi (by simpa using i4)
end

theorem agg_in (e : Ent) (y : Option Addr) (d : Nat) : e.agg y d = .agg #[.int .i64 e.th, .int .i64 e.fr, .int .i64 e.sp, .int .i64 e.st, .int .i64 e.cy, .int .i64 e.pl, .slice y e.G.length d] := rfl
theorem agg_key {e r : Ent} (h : r.key = e.key) (y : Option Addr) (d : Nat) : r.agg y d = e.agg y d := by
  simp only [Ent.key, Prod.mk.injEq] at h
  simp [Ent.agg, h.1, h.2.1, h.2.2.1, h.2.2.2.1, h.2.2.2.2.1, h.2.2.2.2.2.1, h.2.2.2.2.2.2]
theorem told_rdi {u : World} {base b : Nat} {v nv : Value} {R : List Ent} {N : List Int} (T : RTab u base b v nv R N) (p : Ent → Bool) : Rdi u (told (R.find? p)).gx (told (R.find? p)).G ∧ (told (R.find? p)).G.length ≤ 100000 := by
  cases h : R.find? p with
  | none => exact ⟨Rdi.nil, by simp [told, none7]⟩
  | some e => exact ⟨T.ens.got e (List.mem_of_find?_eq_some h), T.ens.short e (List.mem_of_find?_eq_some h)⟩
theorem Tw.back {w u : World} {b b' o r : Nat} {v v' nv : Value} {E R : List Ent} {N : List Int} (h : Tw w u b v E b' v' nv R N o r) : Tw w u b v E b' v' nv R N o o := ⟨h.tab, h.ref, h.kept, h.sep, fun k hk => ⟨(h.no k hk).1, (h.no k hk).1⟩, fun k hk => ⟨(h.nr k hk).1, (h.nr k hk).1⟩, ⟨h.lt.1, h.lt.1⟩⟩
end Go.Proofs.Ytjobnlfecochfaa
