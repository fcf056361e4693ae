/-
  The operations of package spolaw10 that came in: five numbers and a list of numbers each; whether they are few.
-/
import Derived.Test.YtjobnlfecochfaaFirst10
import Derived.Test.YtjobnlfecochfaaElems
import Derived.Deep.CutBlock
namespace Go.Proofs.Ytjobnlfecochfaa
open Go.RowKit Go.ChangeShapes Go.WideShapes Go.Deep

structure Op10 where
  k : Int
  t : Int
  f : Int
  s : Int
  a : Int
  x : Option Addr
  c : Nat
  T : List Int
def Op10.cells (o : Op10) : List Value := [.int .i64 o.k, .int .i64 o.t, .int .i64 o.f, .int .i64 o.s, .int .i64 o.a, .slice o.x o.T.length o.c]
def Ops (w : World) (x : Option Addr) (l : Nat) (L : Nat → Op10) : Prop := Elems w x l 6 (fun i => (L i).cells) ∧ ∀ i, i < l → Rdi w (L i).x (L i).T
theorem Ops.kept {w w' : World} {x : Option Addr} {l : Nat} {L : Nat → Op10} (h : Ops w x l L) (k : Kept w w') : Ops w' x l L := ⟨Elems.kept h.1 k, fun i hi => (h.2 i hi).kept k⟩
theorem Ops.six {w : World} {x : Option Addr} {l : Nat} {L : Nat → Op10} (h : Ops w x l L) {j : Nat} (hj : j < l) : ∃ b o, x = some ⟨b, o, none⟩ ∧ b < w.heap.size ∧ w.cell? ⟨b, o + j * 6, none⟩ = some (.int .i64 (L j).k) ∧ w.cell? ⟨b, o + j * 6 + 1, none⟩ = some (.int .i64 (L j).t) ∧ w.cell? ⟨b, o + j * 6 + 2, none⟩ = some (.int .i64 (L j).f) ∧ w.cell? ⟨b, o + j * 6 + 3, none⟩ = some (.int .i64 (L j).s) ∧ w.cell? ⟨b, o + j * 6 + 4, none⟩ = some (.int .i64 (L j).a) ∧ w.cell? ⟨b, o + j * 6 + 5, none⟩ = some (.slice (L j).x (L j).T.length (L j).c) := by
  obtain ⟨b, o, e, hb, hc⟩ := h.1 (by omega)
  exact ⟨b, o, e, hb, hc j hj 0 _ (by omega) rfl, hc j hj 1 _ (by omega) rfl, hc j hj 2 _ (by omega) rfl, hc j hj 3 _ (by omega) rfl, hc j hj 4 _ (by omega) rfl, hc j hj 5 _ (by omega) rfl⟩

section
variable {H : Type} {enc : TypeId × Value → H} {W : World} {sp : Nat → Bool} {held : Bool}

theorem ints_rdi {x : Option Addr} {l : Nat} {L : Nat → Int} (h : Ints W x l L) : ∃ T : List Int, l = T.length ∧ Rdi W x T := by
  refine ⟨(List.range l).map L, by simp, fun h0 => ?_⟩
  obtain ⟨b, o, e, hb, hc⟩ := h.at (by simpa using h0)
  exact ⟨b, o, e, hb, fun j hj => by
    rw [hc j (by simpa using hj)]
    simp⟩
theorem list_open {n : Nat} {v : Value} {y : DataW H × List MemPlace} (h : DataW.trod enc Try.prog W 0 sp held n 28 [v] = some y) : ∃ x c, ∃ T : List Int, v = .slice x T.length c ∧ Rdi W x T := by
  have form : ∃ x l c, v = .slice x l c := by
    rcases DataW.trod_slice Try.underlying28 h with ⟨g, _⟩ | ⟨a', len, cap, _, _, _, _, g, _⟩
    · simp at g; exact ⟨_, _, _, g⟩
    · simp at g; exact ⟨_, _, _, g⟩
  obtain ⟨x, l, c, rfl⟩ := form
  obtain ⟨L, hL, _⟩ := ints_open (enc := enc) (W := W) (sp := sp) (held := held) (x := x) (l := l) (c := c) (d := y.1) (p := y.2) ⟨n, h⟩
  obtain ⟨T, rfl, hT⟩ := ints_rdi hL
  exact ⟨x, c, T, rfl, hT⟩

theorem op_open {n : Nat} {cs : List Value} {y : DataW H × List MemPlace} (h : DataW.trod enc Try.prog W 0 sp held n 33 cs = some y) : ∃ q : Op10, cs = q.cells ∧ Rdi W q.x q.T := by
  obtain ⟨xs, k, _, _, hlen, hxl, hf⟩ := DataW.trod_struct Try.underlying33 h
  have ce : Try.prog.cellsOf 33 = 6 := by kernel_rfl
  have ci : Try.prog.cellsOf 3 = 1 := by kernel_rfl
  have cl : Try.prog.cellsOf 28 = 1 := by kernel_rfl
  rw [ce] at hlen
  match xs, hxl, cs, hlen with
  | [y0, y1, y2, y3, y4, y5], _, [v0, v1, v2, v3, v4, v5], _ =>
    have g0 := hf 0 _ rfl
    have g1 := hf 1 _ rfl
    have g2 := hf 2 _ rfl
    have g3 := hf 3 _ rfl
    have g4 := hf 4 _ rfl
    have g5 := hf 5 _ rfl
    simp [ci] at g0 g1 g2 g3 g4
    simp [cl] at g5
    obtain ⟨z0, e0, _⟩ := DataW.trod_int Try.underlying3 g0
    obtain ⟨z1, e1, _⟩ := DataW.trod_int Try.underlying3 g1
    obtain ⟨z2, e2, _⟩ := DataW.trod_int Try.underlying3 g2
    obtain ⟨z3, e3, _⟩ := DataW.trod_int Try.underlying3 g3
    obtain ⟨z4, e4, _⟩ := DataW.trod_int Try.underlying3 g4
    obtain ⟨x, c, T, e5, hT⟩ := list_open g5
    simp at e0 e1 e2 e3 e4
    exact ⟨⟨z0, z1, z2, z3, z4, x, c, T⟩, by simp [Op10.cells, e0, e1, e2, e3, e4, e5], hT⟩

theorem ops_open {x : Option Addr} {l c : Nat} {d : DataW H} {p : List MemPlace} (h : DataW.Trod enc Try.prog W 0 sp held 22 (.slice x l c) d p) : ∃ L, Ops W x l L := by
  have ce : Try.prog.cellsOf 33 = 6 := by kernel_rfl
  obtain ⟨V, hV, hr⟩ := elems_open Try.underlying22 (by rw [ce]; omega) h
  rw [ce] at hV
  haveI : Inhabited Op10 := ⟨⟨0, 0, 0, 0, 0, none, 0, []⟩⟩
  obtain ⟨L, hL, hT⟩ := elems_typed Op10.cells (fun q => Rdi W q.x q.T) hV fun i hi => by
    obtain ⟨n, y, hy⟩ := hr i hi
    exact op_open hy
  exact ⟨L, hL, hT⟩
end

set_option maxHeartbeats 2000000 in
theorem few_any {x : Option Addr} {l c : Nat} {L : Nat → Op10} (w : World) (hX : Ops w x l L) :
    Calls Try.prog 9 #[.slice x l c] w fun e w' => w' = w ∧ (e = .returned (.bool false) ∨ e = .returned (.bool true) ∧ l ≤ 200 ∧ ∀ i, i < l → (L i).T.length ≤ 2000) := by
  have HX : Hid (Ops w x l L) := hX
  clear hX
  go_enter Try.func9, Try.ntmps9
  go_upto_block 0 with fail
  go_cut [3, 4] from 5 to 23 (fun vn vi wc => (∃ A j : Nat, vn = .int .i64 A ∧ vi = .int .i64 j ∧ Hid (200 < l ∨ ∀ i, i < l → (L i).T.length ≤ A ∨ 2000 < A)) ∧ w = wc)
  case first =>
    go_wp2_with fail
    go_loopg [3, 4] l (fun m vn i wr => ∃ j A : Nat, i = .int .i64 j ∧ vn = .int .i64 A ∧ j ≤ l ∧ m = l - j ∧ j ≤ 200 ∧ A ≤ 2001 * j ∧ Hid (∀ i, i < j → (L i).T.length ≤ A ∨ 2000 < A) ∧ w = wr)
    case atStart => exact ⟨0, 0, rfl, rfl, by omega, by omega, by omega, by omega, fun i hi => by omega, rfl⟩
    case round =>
      obtain ⟨j, A, rfl, rfl, hj, hm, hj2, hA, HS, rfl⟩ := hrel
      have HM : Hid _ := hm
      clear hm
      by_cases hlt : j < l
      · by_cases h2 : (j : Int) < 200
        · obtain ⟨bx, ox, rfl, hbx, -, -, -, -, -, e5⟩ := HX.out.six hlt
          have HN : Hid (∀ q : Nat, q = min (L j).T.length 2001 → ∀ i, i < j + 1 → (L i).T.length ≤ A + q ∨ 2000 < A + q) := fun q hq i hi => by
            by_cases e : i = j
            · subst e; omega
            · have := HS.out i (by omega); omega
          clear hbx HX HS
          generalize L j = o at *
          obtain ⟨ok, ot, of, os, oa, ol, oc, oT⟩ := o
          simp only at e5
          obtain ⟨q, hq, hq2, hq3⟩ : ∃ q : Nat, (if (2001 : Int) < (oT.length : Int) then 2001 else (oT.length : Int)) = (q : Int) ∧ q ≤ 2001 ∧ Hid (q = min oT.length 2001) := ⟨min oT.length 2001, by split <;> omega, by omega, rfl⟩
          have HN2 : Hid _ := HN.out q hq3.out
          clear HN hq3
          generalize oT.length = om at *
          go_wp2
          go_roundg (gk - 1)
          all_goals (have := HM.out; try omega)
          exact ⟨j + 1, A + q, by go_num, by go_num, by omega, by omega, by omega, by omega, HN2.out, rfl⟩
        · have HE : Hid (200 < l ∨ ∀ i, i < l → (L i).T.length ≤ A ∨ 2000 < A) := .inl (by omega)
          go_wp2
          go_meet
          case rel => exact ⟨⟨A, j, rfl, rfl, HE.out⟩, rfl⟩
      · have HE : Hid (200 < l ∨ ∀ i, i < l → (L i).T.length ≤ A ∨ 2000 < A) := .inr (fun i hi => HS.out i (by omega))
        go_wp2
        go_meet
        case rel => exact ⟨⟨A, j, rfl, rfl, HE.out⟩, rfl⟩
  case rest =>
    obtain ⟨⟨A, j, rfl, rfl, HE⟩, rfl⟩ := hcut
    by_cases ho : (l : Int) ≤ 200
    · by_cases hA : (A : Int) ≤ 2000
      · have HF : Hid (l ≤ 200 ∧ ∀ i, i < l → (L i).T.length ≤ 2000) := ⟨by omega, fun i hi => by
          rcases HE.out with h | h
          · omega
          · have := h i hi; omega⟩
        go_wp2
        go_ret
        refine ⟨rfl, .inr ⟨?_, HF.out⟩⟩
        simp
      · go_wp2
        go_ret
        refine ⟨rfl, .inl ?_⟩
        simp
    · go_wp2
      go_ret
      refine ⟨rfl, .inl ?_⟩
      simp
end Go.Proofs.Ytjobnlfecochfaa
