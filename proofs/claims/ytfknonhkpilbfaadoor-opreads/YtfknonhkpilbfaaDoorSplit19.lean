/-
  sporef19.Split: a text at each space; slices of texts.
-/
import Derived.Test.YtfknonhkpilbfaaDoorRws19
import Derived.Test.YtfknonhkpilbfaaDoorNum19
import Derived.Lib.Strings
import Derived.Laws.Strings2
namespace Go.Proofs.YtfknonhkpilbfaaDoor
open Go.RowKit

def sc (s : List UInt8) : List Value := [.string ⟨s.toArray⟩]
theorem sc_len (s : List UInt8) : (sc s).length = 1 := rfl
theorem sc_one (s : List UInt8) : ∀ u ∈ sc s, u.oneCell' = true := by simp [sc, Value.oneCell']
theorem info_str : (Tryd.prog.info? 9).map (fun i => (i.zero, i.size, i.bytes)) = some (some (.string ⟨#[]⟩), 1, 16) := by kernel_rfl
/-- A slice of the call's own that holds the texts E. -/
def Strs (w : World) (base : Nat) (v : Value) (E : List (List UInt8)) : Prop := Rw 9 1 sc w base v E
theorem rdr_ones (w : World) (z : List UInt8) : Rdr sc (w.alloc (.cells (sc z).toArray 9)) (some ⟨w.heap.size, 0, none⟩) [z] := fun _ => ⟨_, rfl, fun j u hu => by
  rw [show (⟨w.heap.size, 0, none⟩ : Addr).add j = ⟨w.heap.size, j, none⟩ by unfold Addr.add; split <;> simp_all]
  simpa using hu⟩
theorem run_pushs {w : World} {base : Nat} {v : Value} {E : List (List UInt8)} (ty : TypeId) (h : Strs w base v E) (hb : base ≤ w.heap.size) (hn : E.length ≤ 100000) (z : List UInt8) (d : Nat) :
    ∃ v' w', (Builtin.append_ #[42, 42] ty #[v, .slice (some ⟨w.heap.size, 0, none⟩) 1 d]).run Tryd.prog (w.alloc (.cells (sc z).toArray 9)) = .ok v' w' ∧ Strs w' base v' (E ++ [z]) ∧ Mut v.ownBlock.toList w w' ∧ Fresh w v v' := by
  have k0 : Kept w (w.alloc (.cells (sc z).toArray 9)) := (Kept.refl w).alloc _ _
  obtain ⟨v', w', hr, h2, h3, h4⟩ := run_append_rw (ty := ty) (T := [z]) (d := d) Tryd.underlying42 info_str rfl (by decide) (by decide) sc_len sc_one (Rw.kept h k0) (by have := k0.size; omega) (rdr_ones w z) (by simp; omega)
  refine ⟨v', w', hr, h2, k0.mut.trans h3, fun k hk => ?_⟩
  rcases h4 k hk with e | e
  · exact .inl e
  · have := k0.size; exact .inr (by omega)
theorem wpList_pushs {w : World} {ops : Array Oper} {rest : List Oper} {o : Oper} {a : Act} {Q : Exit → Act → World → Prop} (hgd : o.guard = none) (s x : Operand)
    (ho : o.op = .call { callee := .builtin .append, args := #[s, x], argTypes := #[42, 42] }) {base d : Nat} {v : Value} {E : List (List UInt8)} (hs : a.eval s = v) (h : Strs w base v E) (hb : base ≤ w.heap.size)
    (hn : E.length ≤ 100000) (hx : a.eval x = .slice (some ⟨w.heap.size, 0, none⟩) 1 d) {z : List UInt8} {D : ByteArray} (hA : D = ⟨z.toArray⟩)
    (hK : ∀ v' w', Strs w' base v' (E ++ [z]) → Mut v.ownBlock.toList w w' → Fresh w v v' → wpList Tryd.prog ops Q rest (a.put o.dst v') w') :
    wpList Tryd.prog ops Q (o :: rest) a (w.alloc (.cells #[.string D] 9)) := by
  obtain ⟨v', w', hr, h2, h3, h4⟩ := run_pushs o.type h hb hn z d
  subst hA
  refine wpList_plain hgd fun K hK' => ?_
  unfold Oper.wp execOp
  simp only [sc] at hr
  simp only [ho, resolve, invoke, builtin, Sem.run_bind, Sem.run_pure, Result.andThen_ok, List.map_toArray, List.map_cons, List.map_nil, hs, hx, hr]
  exact hK' _ _ (hK v' w' h2 h3 h4)

/-- Texts that are read from x on. -/
def Rds (w : World) (x : Option Addr) (E : List (List UInt8)) : Prop := 0 < E.length → ∃ g o, x = some ⟨g, o, none⟩ ∧ g < w.heap.size ∧ ∀ i, (hi : i < E.length) → w.cell? ⟨g, o + i, none⟩ = some (.string ⟨(E[i]).toArray⟩)
theorem Strs.form {w : World} {base : Nat} {v : Value} {E : List (List UInt8)} (h : Strs w base v E) : ∃ x d, v = .slice x E.length d := Rw.form h
theorem Strs.rd {w : World} {base : Nat} {x : Option Addr} {l d : Nat} {E : List (List UInt8)} (h : Strs w base (.slice x l d) E) : Rds w x E := fun h0 => by
  obtain ⟨g, d', e, hb, hg, _⟩ := Rw.here h h0
  obtain ⟨rfl, rfl, rfl⟩ := Value.slice.inj e
  refine ⟨g, 0, rfl, hg, fun i hi => ?_⟩
  have a0 := Rw.cell h sc_len hi (j := 0) (u := .string ⟨(E[i]).toArray⟩) rfl
  simpa using a0
theorem Rds.kept {w w' : World} {x : Option Addr} {E : List (List UInt8)} (h : Rds w x E) (k : Kept w w') : Rds w' x E := fun h0 => by
  obtain ⟨g, o, e, hl, hc⟩ := h h0
  exact ⟨g, o, e, Nat.lt_of_lt_of_le hl k.size, fun i hi => (k.cell (a := ⟨g, o + i, none⟩) hl).trans (hc i hi)⟩
theorem Rds.tail {w : World} {g o : Nat} {a : List UInt8} {E : List (List UInt8)} (h : Rds w (some ⟨g, o, none⟩) (a :: E)) : Rds w (some ⟨g, o + 1, none⟩) E := fun h0 => by
  obtain ⟨g', o', e, hl, hc⟩ := h (by simp)
  obtain ⟨rfl, rfl⟩ : g = g' ∧ o = o' := by simpa using e
  refine ⟨g, o + 1, rfl, hl, fun i hi => ?_⟩
  have := hc (i + 1) (by simp; omega)
  rw [show o + 1 + i = o + (i + 1) by omega]
  simpa using this

/-! ### The loop's sense -/
structure Spt (s : List UInt8) (f k : Nat) (E : List (List UInt8)) : Prop where
  fk : f ≤ k
  le : k ≤ s.length
  no : ∀ j, f ≤ j → j < k → s[j]? ≠ some 32
  all : spl s = E ++ spl (s.drop f)
  len : E.length ≤ f
theorem piece_no {s : List UInt8} {f k : Nat} (h : ∀ j, f ≤ j → j < k → s[j]? ≠ some 32) : (32 : UInt8) ∉ (s.drop f).take (k - f) := fun hm => by
  obtain ⟨j, hj, e⟩ := List.mem_iff_getElem.1 hm
  simp only [List.length_take, List.length_drop] at hj
  rw [List.getElem_take, List.getElem_drop] at e
  exact h (f + j) (by omega) (by omega) (by rw [List.getElem?_eq_getElem (by omega), e])
theorem Spt.start (s : List UInt8) : Spt s 0 0 [] := ⟨Nat.le_refl _, Nat.zero_le _, fun j h1 h2 => by omega, by simp, Nat.le_refl _⟩
theorem Spt.skip {s : List UInt8} {f k : Nat} {E : List (List UInt8)} (h : Spt s f k E) (hk : k < s.length) (hc : s[k] ≠ 32) : Spt s f (k + 1) E :=
  ⟨by have := h.fk; omega, by omega, fun j h1 h2 => by
    rcases Nat.lt_or_ge j k with q | q
    · exact h.no j h1 q
    · obtain rfl : j = k := by omega
      rw [List.getElem?_eq_getElem hk]
      simpa using hc, h.all, h.len⟩
theorem Spt.space {s : List UInt8} {f k : Nat} {E : List (List UInt8)} (h : Spt s f k E) (hk : k < s.length) (hc : s[k] = 32) : Spt s (k + 1) (k + 1) (E ++ [(s.drop f).take (k - f)]) := by
  refine ⟨Nat.le_refl _, by omega, fun j h1 h2 => by omega, ?_, ?_⟩
  · have e : s.drop f = (s.drop f).take (k - f) ++ 32 :: s.drop (k + 1) := by
      have e1 : (s.drop f).drop (k - f) = s.drop k := by rw [List.drop_drop]; congr 1; have := h.fk; omega
      have e2 : s.drop k = 32 :: s.drop (k + 1) := by rw [List.drop_eq_getElem_cons hk, hc]
      rw [← e2, ← e1, List.take_append_drop]
    rw [h.all]
    conv => lhs; rw [e]
    rw [spl_sp _ _ (piece_no h.no)]
    simp
  · have := h.len
    have := h.fk
    simp
    omega
theorem Spt.last {s : List UInt8} {f : Nat} {E : List (List UInt8)} (h : Spt s f s.length E) : spl s = E ++ [(s.drop f).take (s.length - f)] := by
  have e1 : (s.drop f).take (s.length - f) = s.drop f := List.take_of_length_le (by simp)
  have := piece_no h.no
  rw [e1] at this
  rw [h.all, e1, spl_no _ this]

set_option maxHeartbeats 4000000 in
theorem split_any (s : List UInt8) (hl : s.length ≤ 1000) (w : World) : Calls Tryd.prog 13 #[.string ⟨s.toArray⟩] w fun e w' => ∃ v, e = .returned v ∧ Strs w' w.heap.size v (spl s) ∧ Kept w w' := by
  have hsz := size_mk s
  have HX : Hid (∀ k (hk : k < s.length) W, (Instr.index 9 (.string ⟨s.toArray⟩) (.int .i64 (k : Int))).run Tryd.prog W = .ok (.int .u8 ((s[k]'hk).toNat : Int)) W) := fun k hk W => idx_str 9 Tryd.underlying9 s k hk W
  have HC : Hid (∀ (f k : Nat) W, f ≤ k → k ≤ s.length → (Instr.slice 9 (.string ⟨s.toArray⟩) (some (.int .i64 (f : Int))) (some (.int .i64 (k : Int))) none).run Tryd.prog W = .ok (.string ⟨((s.drop f).take (k - f)).toArray⟩) W) := fun f k W h1 h2 => by
    rw [run_slice_string W 9 _ .i64 .i64 f k Tryd.underlying9 (by omega) (by omega) (by rw [hsz]; omega), Lib.extract_eq]
    rfl
  obtain ⟨t, ht⟩ : ∃ t : ByteArray, t = ⟨s.toArray⟩ := ⟨_, rfl⟩
  rw [← ht] at hsz HX HC ⊢
  clear ht
  go_enter Tryd.func13, Tryd.ntmps13
  go_wp2
  go_loopg [3, 4, 5] (s.length + 1) (fun m v fr i wr => ∃ (f k : Nat) (E : List (List UInt8)), v = v ∧ fr = .int .i64 f ∧ i = .int .i64 k ∧ k ≤ s.length + 1 ∧ m = s.length + 1 - k ∧ Hid (((k ≤ s.length ∧ Spt s f k E) ∨ (k = s.length + 1 ∧ E = spl s ∧ f = s.length + 1)) ∧ Strs wr w.heap.size v E ∧ Kept w wr))
  case atStart => exact ⟨0, 0, [], rfl, rfl, rfl, by omega, rfl, .inl ⟨Nat.zero_le _, Spt.start s⟩, Rw.nil _ _ _ _ _, Kept.refl _⟩
  case round =>
    obtain ⟨f, k, E, _, rfl, rfl, hk, rfl, hh⟩ := hrel
    by_cases h : k ≤ s.length
    · have hp : Spt s f k E := by
        rcases hh.out.1 with q | q
        · exact q.2
        · omega
      have hfk := hp.fk
      have hsl := fun W => HC.out f k W hfk h
      have hr := hh.out.2.1
      have hKr := hh.out.2.2
      have hE1 := hp.len
      by_cases hend : k = s.length
      · subst hend
        have HL : Hid (spl s = E ++ [(s.drop f).take (s.length - f)]) := hp.last
        obtain ⟨D, hD⟩ : ∃ D : ByteArray, D = ⟨((s.drop f).take (s.length - f)).toArray⟩ := ⟨_, rfl⟩
        rw [← hD] at hsl
        have HF : Hid (D = ⟨((s.drop f).take (s.length - f)).toArray⟩) := hD
        have HR : Hid (Strs wr w.heap.size _ E ∧ Kept w wr) := ⟨hr, hKr⟩
        have z2 : E.length ≤ 100000 := by omega
        have z1 : w.heap.size ≤ wr.heap.size := hKr.size
        clear hD hp hr hh hKr hE1
        go_wp2_with (at_builtin; refine wpList_pushs rfl _ _ rfl rfl HR.out.1 z1 z2 rfl HF.out ?_)
        rintro v' w2 r2 m2 f2
        have HR2 : Hid (Strs w2 w.heap.size v' (spl s) ∧ Kept w w2) := ⟨by rw [HL.out]; exact r2, HR.out.2.muts m2 (fun q hq => by
          have := Rw.lt HR.out.1 q (by simpa using hq)
          exact this.1)⟩
        clear r2 m2 f2 HR z1
        go_wp2
        go_roundg (s.length + 1 - (s.length + 1))
        · exact ⟨s.length + 1, s.length + 1, spl s, trivial, by simp, by simp, by omega, rfl, .inr ⟨rfl, rfl, rfl⟩, HR2.out⟩
        · omega
      · have hks : k < s.length := by omega
        have hne : ((k : Int) == (s.length : Int)) = false := by simp; omega
        have hx := HX.out k hks
        by_cases hc : s[k] = 32
        · have HP : Hid (Spt s (k + 1) (k + 1) (E ++ [(s.drop f).take (k - f)])) := hp.space hks hc
          have hx2 : ∀ W, (Instr.index 9 (.string t) (.int .i64 (k : Int))).run Tryd.prog W = .ok (.int .u8 32) W := fun W => by rw [hx W, hc]; rfl
          obtain ⟨D, hD⟩ : ∃ D : ByteArray, D = ⟨((s.drop f).take (k - f)).toArray⟩ := ⟨_, rfl⟩
          rw [← hD] at hsl
          have HF : Hid (D = ⟨((s.drop f).take (k - f)).toArray⟩) := hD
          have HR : Hid (Strs wr w.heap.size _ E ∧ Kept w wr) := ⟨hr, hKr⟩
          have z2 : E.length ≤ 100000 := by omega
          have z1 : w.heap.size ≤ wr.heap.size := hKr.size
          clear hD hp hr hh hKr hE1 hx hc hend
          go_wp2_with (at_builtin; refine wpList_pushs rfl _ _ rfl rfl HR.out.1 z1 z2 rfl HF.out ?_)
          rintro v' w2 r2 m2 f2
          have HR2 : Hid (Strs w2 w.heap.size v' (E ++ [(s.drop f).take (k - f)]) ∧ Kept w w2) := ⟨r2, HR.out.2.muts m2 (fun q hq => by
            have := Rw.lt HR.out.1 q (by simpa using hq)
            exact this.1)⟩
          clear r2 m2 f2 HR z1
          go_wp2
          go_roundg (s.length + 1 - (k + 1))
          · exact ⟨k + 1, k + 1, _, trivial, by simp, by simp, by omega, rfl, .inl ⟨by omega, HP.out⟩, HR2.out⟩
          · omega
        · have HP : Hid (Spt s f (k + 1) E) := hp.skip hks hc
          have HR : Hid (Strs wr w.heap.size _ E ∧ Kept w wr) := ⟨hr, hKr⟩
          have hb : (((s[k]).toNat : Int) == 32) = false := by
            have : ¬ ((s[k]).toNat : Int) = 32 := fun e => hc (UInt8.toNat_inj.1 (by show (s[k]).toNat = 32; omega))
            simpa using this
          generalize ((s[k]).toNat : Int) = z at hx hb
          clear hp hr hh hKr hE1 hc hend hsl
          go_wp2
          go_roundg (s.length + 1 - (k + 1))
          · exact ⟨f, k + 1, E, trivial, rfl, by simp, by omega, rfl, .inl ⟨by omega, HP.out⟩, HR.out⟩
          · omega
    · have HE : Hid (Strs wr w.heap.size u3 (spl s) ∧ Kept w wr) := by
        rcases hh.out.1 with q | q
        · omega
        · rw [← q.2.1]; exact hh.out.2
      clear hh
      go_wp2
      go_ret
      exact ⟨_, rfl, HE.out⟩
end Go.Proofs.YtfknonhkpilbfaaDoor
