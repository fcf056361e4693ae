/-
  The document's Object (package sporef6): what is written.
-/
import Derived.Test.YtpdclckgnajcdaaRefB
import Derived.Test.YtpdclckgnajcdaaMix
namespace Go.Proofs.Ytpdclckgnajcdaa
open Go.RowKit
attribute [local go_sem] run_store_complex

theorem info_arr8 : (Try.prog.info? 65).map (fun i => (i.zero, i.size, i.bytes)) = some (some (.agg #[.complex .f64 0 0, .complex .f64 0 0, .complex .f64 0 0, .complex .f64 0 0, .complex .f64 0 0, .complex .f64 0 0, .complex .f64 0 0, .complex .f64 0 0]), 8, 128) := by kernel_rfl
theorem run_make_arr8 (n : Nat) (h : n ≤ 10000) (w : World) :
    (Instr.makeSlice 74 (.int .i64 (n : Int)) (.int .i64 (n : Int))).run Try.prog w = .ok (.slice (some ⟨w.heap.size, 0, none⟩) n n) (w.alloc (.cells (madeCells #[.complex .f64 0 0, .complex .f64 0 0, .complex .f64 0 0, .complex .f64 0 0, .complex .f64 0 0, .complex .f64 0 0, .complex .f64 0 0, .complex .f64 0 0] (n * 8)) 65)) := by
  obtain ⟨i, hi, hz, hs, hb⟩ := info_parts info_arr8
  have hr := run_make (P := Try.prog) w 74 65 i _ Try.underlying74 hi hz .i64 .i64 n n (by omega) (Int.le_refl _) (by rw [hb]; omega) (by omega)
  simp only [Int.toNat_natCast, hs] at hr
  exact hr
def rv (F : Nat → Cx) (i : Nat) : Value := .complex .f64 (F i).re (F i).im
theorem row_made8 (w : World) (n : Nat) : (w.alloc (.cells (madeCells #[.complex .f64 0 0, .complex .f64 0 0, .complex .f64 0 0, .complex .f64 0 0, .complex .f64 0 0, .complex .f64 0 0, .complex .f64 0 0, .complex .f64 0 0] (n * 8)) 65)).rowIs w.heap.size 65 (n * 8) (rv fun _ => cz) := by
  have h := World.rowIs_alloc w (madeCells #[.complex .f64 0 0, .complex .f64 0 0, .complex .f64 0 0, .complex .f64 0 0, .complex .f64 0 0, .complex .f64 0 0, .complex .f64 0 0, .complex .f64 0 0] (n * 8)) 65 (rv fun _ => cz) (fun i hi => by
    rw [size_madeCells] at hi
    have h8 : i % 8 < 8 := Nat.mod_lt _ (by omega)
    rcases lt8 h8 with e | e | e | e | e | e | e | e <;> simp [madeCells, hi, rv, cz, e])
  rwa [size_madeCells] at h

/-- The words of the fragments, laid in a row; a shape beside them. -/
structure Wd (w u : World) (g l sb : Nat) (sh : List Value) (F : Nat → Cx) : Prop where
  kept : Kept w u
  row : u.rowIs g 65 (l * 8) (rv F)
  sh : Blk u sb sh
  g1 : w.heap.size ≤ g
  gs : g ≠ sb
section
variable {w u u' : World} {g l sb : Nat} {sh : List Value} {F G : Nat → Cx}
theorem Wd.still (h : Wd w u g l sb sh F) (k : Kept u u') : Wd w u' g l sb sh F := ⟨h.kept.trans k, k.row h.row, h.sh.kept k, h.g1, h.gs⟩
theorem Wd.put (h : Wd w u g l sb sh F) {i : Nat} (z : Cx) (he : ∀ j, j < l * 8 → (if j = i then z else F j) = G j) : Wd w (u.setCell ⟨g, i, none⟩ (.complex .f64 z.re z.im)) g l sb sh G :=
  ⟨h.kept.setCell h.g1 _, (h.row.set i (.complex .f64 z.re z.im)).congr (fun j hj => by
    have q := he j hj
    by_cases e : j = i
    · rw [if_pos e] at q
      simp only [if_pos e, rv, ← q]
    · rw [if_neg e] at q
      simp only [if_neg e, rv, ← q]), h.sh.set_other h.gs _, h.g1, h.gs⟩
theorem Wd.congr (h : Wd w u g l sb sh F) (he : ∀ j, j < l * 8 → F j = G j) : Wd w u g l sb sh G :=
  ⟨h.kept, h.row.congr (fun j hj => by rw [rv, rv, he j hj]), h.sh, h.g1, h.gs⟩
end

/-- The words while they are laid: a links, the head or not, m fields. -/
def rowW (kind mode : Int) (R : Nat → Bool) (L : Nat → Int) (l a : Nat) (hd : Bool) (m idx : Nat) : Cx :=
  if idx % 8 = 0 then (if idx / 8 < a then refAt L l (idx / 8 + 1) else cz) else if idx / 8 = 0 ∧ idx % 8 = 1 then (if hd then ch kind mode else cz)
  else if 7 * (idx / 8) + idx % 8 < m + 2 then un (R (7 * (idx / 8) + idx % 8 - 2)) else cz
section
variable {kind mode : Int} {R : Nat → Bool} {L : Nat → Int} {l a m : Nat} {hd : Bool}
theorem rowW_0 (idx : Nat) : rowW kind mode R L l 0 false 0 idx = cz := by
  unfold rowW
  by_cases h0 : idx % 8 = 0
  · simp [h0]
  · by_cases h1 : idx / 8 = 0 ∧ idx % 8 = 1
    · simp [h1]
    · rw [if_neg h0, if_neg h1, if_neg (by omega)]
theorem rowW_link (idx : Nat) : (if idx = a * 8 then refAt L l (a + 1) else rowW kind mode R L l a hd m idx) = rowW kind mode R L l (a + 1) hd m idx := by
  unfold rowW
  by_cases h0 : idx % 8 = 0
  · by_cases h1 : idx = a * 8
    · have e : idx / 8 = a := by omega
      rw [if_pos h1, if_pos h0, e, if_pos (by omega)]
    · have e : (idx / 8 < a + 1) ↔ (idx / 8 < a) := by omega
      rw [if_neg h1, if_pos h0, if_pos h0]
      simp only [e]
  · rw [if_neg (by omega), if_neg h0, if_neg h0]
theorem rowW_head (idx : Nat) : (if idx = 1 then ch kind mode else rowW kind mode R L l a false m idx) = rowW kind mode R L l a true m idx := by
  unfold rowW
  by_cases h1 : idx = 1
  · subst h1; simp
  · by_cases h0 : idx % 8 = 0
    · rw [if_neg h1, if_pos h0, if_pos h0]
    · have h2 : ¬ (idx / 8 = 0 ∧ idx % 8 = 1) := by omega
      rw [if_neg h1, if_neg h0, if_neg h0, if_neg h2, if_neg h2]
theorem rowW_field (idx : Nat) : (if idx = (m + 1) / 7 * 8 + (1 + (m + 1) % 7) then un (R m) else rowW kind mode R L l a hd m idx) = rowW kind mode R L l a hd (m + 1) idx := by
  unfold rowW
  by_cases h1 : idx = (m + 1) / 7 * 8 + (1 + (m + 1) % 7)
  · have e1 : idx / 8 = (m + 1) / 7 := by omega
    have e2 : idx % 8 = 1 + (m + 1) % 7 := by omega
    rw [if_pos h1, if_neg (by omega), if_neg (by omega), if_pos (by omega), show 7 * (idx / 8) + idx % 8 - 2 = m by omega]
  · rw [if_neg h1]
    by_cases h0 : idx % 8 = 0
    · rw [if_pos h0, if_pos h0]
    · by_cases h2 : idx / 8 = 0 ∧ idx % 8 = 1
      · rw [if_neg h0, if_neg h0, if_pos h2, if_pos h2]
      · have e : (7 * (idx / 8) + idx % 8 < m + 1 + 2) ↔ (7 * (idx / 8) + idx % 8 < m + 2) := by omega
        simp only [if_neg h0, if_neg h2, e]
theorem rowW_done {k j : Nat} (hk : k < l) (hj : j < 8) : rowW kind (modeO L l) R L l l true m (k * 8 + j) = objW kind R L l m k j := by
  have e1 : (k * 8 + j) / 8 = k := by omega
  have e2 : (k * 8 + j) % 8 = j := by omega
  unfold rowW objW
  rw [e1, e2, if_pos hk]
  simp only [if_true]
end

/-- Known values, one call c whose answer is new, and the last operation e that hands it on. -/
structure MJ (K : Nat → Option Value) (c e : Nat) (W0 : World → Prop) (W1 : Value → World → Prop) (d : Nat → Bool) (vals : List Value) (u : World) : Prop where
  kn : ∀ k V, K k = some V → d k = true → vals.getD k undef = V
  bf : d c = false → W0 u
  af : d c = true → W1 (vals.getD c undef) u
  la : d e = true → d c = true ∧ vals.getD e undef = vals.getD c undef ∧ d 0 = true
section
variable {K : Nat → Option Value} {c e : Nat} {W0 : World → Prop} {W1 : Value → World → Prop} {d : Nat → Bool} {vals : List Value} {u u' : World}
theorem MJ.kns (h : MJ K c e W0 W1 d vals u) {k : Nat} {v : Value} (hl : k < vals.length) (hK : ∀ V, K k = some V → v = V) : ∀ j V, K j = some V → done d k j = true → (vals.set k v).getD j undef = V := fun j V hj hd => by
  by_cases q : k = j
  · subst q
    rw [getD_set_self hl]
    exact hK V hj
  · rw [getD_set_ne q]
    exact h.kn j V hj (by simpa [done, Ne.symm q] using hd)
theorem MJ.plain (h : MJ K c e W0 W1 d vals u) (k : Nat) (V : Value) (hl : k < vals.length) (hc : k ≠ c) (he : k ≠ e) (hK : K k = some V) : MJ K c e W0 W1 (done d k) (vals.set k V) u := by
  have e1 : done d k c = d c := by simp [done, Ne.symm hc]
  have e2 : done d k e = d e := by simp [done, Ne.symm he]
  refine ⟨h.kns hl (fun V' q => by rw [hK] at q; simpa using q), by rw [e1]; exact h.bf, by rw [e1, getD_set_ne hc]; exact h.af, fun q => ?_⟩
  rw [e2] at q
  have := h.la q
  rw [e1, getD_set_ne he, getD_set_ne hc]
  refine ⟨this.1, this.2.1, ?_⟩
  simp only [done]
  split
  · rfl
  · exact this.2.2
theorem MJ.call (h : MJ K c e W0 W1 d vals u) {v : Value} (hl : c < vals.length) (hce : c ≠ e) (hi : d c = false) (hK : K c = none) (hw : W1 v u') : MJ K c e W0 W1 (done d c) (vals.set c v) u' := by
  refine ⟨h.kns hl (fun V q => by rw [hK] at q; cases q), fun q => by simp [done] at q, fun _ => by rw [getD_set_self hl]; exact hw, fun q => ?_⟩
  have e2 : done d c e = d e := by simp [done, Ne.symm hce]
  rw [e2] at q
  rw [(h.la q).1] at hi
  cases hi
theorem MJ.last (h : MJ K c e W0 W1 d vals u) (hl : e < vals.length) (hce : c ≠ e) (hd : d c = true) (hd0 : d 0 = true) (hK : K e = none) : MJ K c e W0 W1 (done d e) (vals.set e (vals.getD c undef)) u := by
  have e1 : done d e c = d c := by simp [done, hce]
  refine ⟨h.kns hl (fun V q => by rw [hK] at q; cases q), by rw [e1]; exact h.bf, by rw [e1, getD_set_ne (Ne.symm hce)]; exact h.af, fun _ => ⟨by rw [e1]; exact hd, by rw [getD_set_self hl, getD_set_ne (Ne.symm hce)], by simp [done, hd0]⟩⟩
  all_goals simp_all
end
theorem norm_list' {Q : Exit → Act → World → Prop} {L L' : List Value} {ds : List Deferred} {u : World} (e : L = L') (h : Q .normal ⟨L'.toArray, ds⟩ u) : Q .normal ⟨L.toArray, ds⟩ u := e ▸ h

end Go.Proofs.Ytpdclckgnajcdaa
