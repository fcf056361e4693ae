/-
  The law's 'one': a thread's operations, one behind the other.
-/
import Derived.Test.YtbmcbkebcchjmaaGreatDoorSem20
namespace Go.Proofs.YtbmcbkebcchjmaaGreatDoor
open Go.RowKit
attribute [local go_sem] run_store_complex

section
variable {C : Cf} {base p : Nat} {F F' : List Nat} {S S' : Pg} {w w' : World}
theorem GS.muts {D : List Nat} (h : GS C base p F S w) (m : Mut D w w') (hd : ∀ k ∈ F, k ∉ D) (hg : 1 ∉ D) : GS C base p F S w' := by
  obtain ⟨⟨A, g, e⟩, v, b, hb⟩ := h
  exact ⟨⟨A, g.muts m hd, e⟩, ⟨Nat.lt_of_lt_of_le v.lt m.size, fun k hk => (m.cell (p := ⟨1, k * 2 + 1, none⟩) v.lt hg).trans (v.lts k hk)⟩, b, Nat.le_trans hb m.size⟩
theorem Grow.own {F0 : List Nat} {w0 : World} (g : Grow F0 F w0 w) {b : Nat} (hb : w0.heap.size ≤ b) (m : Mut [b] w w') : Grow F0 F w0 w' := by
  refine ⟨⟨m.os.trans g.muta.os, m.tape.trans g.muta.tape, m.output.trans g.muta.output, Nat.le_trans g.muta.size m.size, fun i hi hn => ?_⟩, g.new⟩
  refine (m.block i (Nat.lt_of_lt_of_le hi g.muta.size) fun q => ?_).trans (g.muta.block i hi hn)
  have e : i = b := by simpa using q
  omega
end

/-- Operations, side by side in a block. -/
def Ol (w : World) (b : Nat) (l : List OP) : Prop := b < w.heap.size ∧ ∀ k (h : k < l.length) j u, (l[k].cs)[j]? = some u → w.cell? ⟨b, k * 6 + j, none⟩ = some u

set_option maxHeartbeats 4000000 in
set_option maxRecDepth 10000 in
theorem one_any {C : Cf} {base p : Nat} {F : List Nat} {S S' : Pg} {w : World} (h : GS C base p F S w) {l : List OP} {v : V} (hr : Runs C S l v S') (hl : l.length ≤ 10) {b : Nat} (ho : Ol w b l) (hb : b ∉ F) :
    Calls Tryz.prog 9 #[.pointer (some ⟨p, 0, none⟩), .slice (some ⟨b, 0, none⟩) l.length l.length] w fun e w' => e = .returned (.tuple #[v.val, .int .i64 0]) ∧ ∃ F', GS C base p F' S' w' ∧ Grow F F' w w' := by
  obtain ⟨T, u, e0, e1, hd, ev, hpos⟩ := hr.at
  subst e0 e1
  have HD : Hid (∀ k (hk : k < l.length), Does C (T k) l[k] (u (k + 1)) (T (k + 1))) := hd
  have HO : Hid (Ol w b l) := ho
  have HG : Hid (GS C base p F (T 0) w) := h
  have HB : Hid (b ∉ F) := hb
  have HV : Hid (u l.length = v) := ev
  clear hd ho h hb hr ev
  go_enter Tryz.func9, Tryz.ntmps9
  go_wp2_with fail
  generalize hW1 : (w.alloc _).alloc _ = W1
  have z1 : W1.heap.size = w.heap.size + 2 := by rw [← hW1]; simp
  have K1 : Hid (Kept w W1) := by rw [← hW1]; exact ((Kept.refl w).alloc _ _).alloc _ _
  have B0 : Hid (Blk W1 w.heap.size zerV.cs) := by rw [← hW1]; exact (Blk.new w zerV.cs _).kept ((Kept.refl _).alloc _ _)
  have B1 : Hid (Blk W1 (w.heap.size + 1) zerV.cs) := by
    have := Blk.new (w.alloc (.cells zerV.cs.toArray 34)) zerV.cs 34
    have z : (w.alloc (.cells zerV.cs.toArray 34)).heap.size = w.heap.size + 1 := by simp
    rw [z] at this
    rw [← hW1]
    exact this
  clear hW1
  have HZ : Hid (W1.heap.size = w.heap.size + 2) := z1
  clear z1
  go_loopg [7, 8] l.length (fun m x i wr => ∃ (k : Nat) (Fk : List Nat) (vk : V), x = .int .i64 0 ∧ i = .int .i64 (k : Int) ∧ k ≤ l.length ∧ m = l.length - k ∧ Hid (GS C base p Fk (T k) wr ∧ Grow F Fk w wr ∧ w.heap.size + 2 ≤ wr.heap.size ∧ w.heap.size ∉ Fk ∧ w.heap.size + 1 ∉ Fk ∧ Blk wr w.heap.size zerV.cs ∧ Blk wr (w.heap.size + 1) vk.cs ∧ (0 < k → vk = u k)))
  case atStart =>
    exact ⟨0, F, zerV, rfl, rfl, Nat.zero_le _, rfl, HG.out.kept K1.out, Grow.kept K1.out, Nat.le_of_eq HZ.out.symm, fun q => absurd (HG.out.ge _ q).2 (by omega), fun q => absurd (HG.out.ge _ q).2 (by omega), B0.out, B1.out, fun q => absurd q (by omega)⟩
  case round =>
    obtain ⟨k, Fk, vk, rfl, rfl, hk, rfl, hh⟩ := hrel
    by_cases hlt : k < l.length
    · have HDk := HD.out k hlt base p Fk wr hh.out.1
      have hcs : ∀ j u, (l[k].cs)[j]? = some u → wr.cell? ⟨b, k * 6 + j, none⟩ = some u := fun j u e => (hh.out.2.1.muta.cell (p := ⟨b, k * 6 + j, none⟩) HO.out.1 HB.out).trans (HO.out.2 k hlt j u e)
      have a0 := hcs 0 _ rfl
      rw [Nat.add_zero] at a0
      have a1 := hcs 1 _ rfl
      have a2 := hcs 2 _ rfl
      have a3 := hcs 3 _ rfl
      have a4 := hcs 4 _ rfl
      have a5 := hcs 5 _ rfl
      clear hcs
      have HU : Hid (u (k + 1) = u (k + 1)) := rfl
      generalize l[k] = o at HDk a0 a1 a2 a3 a4 a5
      obtain ⟨ok, oa, ob, oc, on, ox, oy⟩ := o
      unfold OP.val at HDk
      dsimp only at HDk a0 a1 a2 a3 a4 a5
      generalize hv1 : u (k + 1) = v1 at HDk
      have HV1 : Hid (u (k + 1) = v1) := hv1
      clear hv1 HU
      go_wp2_with fail
      refine HDk.mono ?_
      rintro e w2 ⟨rfl, F2, hg2, hr2⟩
      have n0 : w.heap.size ∉ F2 := fun q => by
        rcases hr2.new _ q with e | e
        · exact hh.out.2.2.2.1 e
        · have := hh.out.2.2.1; omega
      have n1 : w.heap.size + 1 ∉ F2 := fun q => by
        rcases hr2.new _ q with e | e
        · exact hh.out.2.2.2.2.1 e
        · have := hh.out.2.2.1; omega
      have hb0 : Blk w2 w.heap.size zerV.cs := hr2.blk hh.out.2.2.2.2.2.1 hh.out.2.2.2.1
      have hb1 : Blk w2 (w.heap.size + 1) vk.cs := hr2.blk hh.out.2.2.2.2.2.2.1 hh.out.2.2.2.2.1
      have f0 := hb1.fz 0
      have f1 := hb1.fz 1
      have y0 := hb1.at 0 (v := .bool vk.r) rfl
      have y1 := hb1.at 1 (v := .complex .f64 vk.x vk.y) rfl
      have hb2 : Blk ((w2.setCell ⟨w.heap.size + 1, 0, none⟩ (.bool v1.r)).setCell ⟨w.heap.size + 1, 1, none⟩ (.complex .f64 v1.x v1.y)) (w.heap.size + 1) v1.cs := (hb1.set (i := 0) rfl (.bool v1.r)).set (i := 1) rfl (.complex .f64 v1.x v1.y)
      have hm : Mut [w.heap.size + 1] w2 ((w2.setCell ⟨w.heap.size + 1, 0, none⟩ (.bool v1.r)).setCell ⟨w.heap.size + 1, 1, none⟩ (.complex .f64 v1.x v1.y)) := ((Mut.refl _ _).setCell (by simp) _).setCell (by simp) _
      have H3 : Hid (GS C base p F2 (T (k + 1)) ((w2.setCell ⟨w.heap.size + 1, 0, none⟩ (.bool v1.r)).setCell ⟨w.heap.size + 1, 1, none⟩ (.complex .f64 v1.x v1.y)) ∧ Grow F F2 w ((w2.setCell ⟨w.heap.size + 1, 0, none⟩ (.bool v1.r)).setCell ⟨w.heap.size + 1, 1, none⟩ (.complex .f64 v1.x v1.y)) ∧ w.heap.size + 2 ≤ ((w2.setCell ⟨w.heap.size + 1, 0, none⟩ (.bool v1.r)).setCell ⟨w.heap.size + 1, 1, none⟩ (.complex .f64 v1.x v1.y)).heap.size ∧ w.heap.size ∉ F2 ∧ w.heap.size + 1 ∉ F2 ∧ Blk ((w2.setCell ⟨w.heap.size + 1, 0, none⟩ (.bool v1.r)).setCell ⟨w.heap.size + 1, 1, none⟩ (.complex .f64 v1.x v1.y)) w.heap.size zerV.cs ∧ Blk ((w2.setCell ⟨w.heap.size + 1, 0, none⟩ (.bool v1.r)).setCell ⟨w.heap.size + 1, 1, none⟩ (.complex .f64 v1.x v1.y)) (w.heap.size + 1) v1.cs) := by
        have hz := Nat.le_trans hh.out.2.2.1 (Nat.le_trans hr2.muta.size hm.size)
        refine ⟨hg2.muts hm (fun q hq e => ?_) (fun e => ?_), (hh.out.2.1.trans hr2).own (by omega) hm, hz, n0, n1, hb0.muts hm (by simp), hb2⟩
        · have e : q = w.heap.size + 1 := by simpa using e
          exact n1 (e ▸ hq)
        · have e : 1 = w.heap.size + 1 := List.mem_singleton.1 e
          have := HG.out.gb
          have := HG.out.hb
          omega
      clear hb2 hm hb0 hb1 hg2 hr2 n0 n1 a0 a1 a2 a3 a4 a5 HDk
      unfold V.val
      go_wp2
      go_roundg (l.length - (k + 1))
      case rel => exact ⟨k + 1, F2, v1, rfl, rfl, by omega, rfl, H3.out.1, H3.out.2.1, H3.out.2.2.1, H3.out.2.2.2.1, H3.out.2.2.2.2.1, H3.out.2.2.2.2.2.1, H3.out.2.2.2.2.2.2, fun _ => HV1.out.symm⟩
      case measure => omega
    · obtain rfl : k = l.length := by omega
      have a0 := hh.out.2.2.2.2.2.2.1.at 0 (v := .bool vk.r) rfl
      have a1 := hh.out.2.2.2.2.2.2.1.at 1 (v := .complex .f64 vk.x vk.y) rfl
      have f0 := hh.out.2.2.2.2.2.1.fz 0
      have f1 := hh.out.2.2.2.2.2.1.fz 1
      have y0 := hh.out.2.2.2.2.2.1.at 0 (v := .bool false) rfl
      have y1 := hh.out.2.2.2.2.2.1.at 1 (v := .complex .f64 0 0) rfl
      have eV : vk = v := (hh.out.2.2.2.2.2.2.2 hpos).trans HV.out
      subst eV
      go_wp2_with fail
      have hm : Mut [w.heap.size] wr ((wr.setCell ⟨w.heap.size, 0, none⟩ (.bool vk.r)).setCell ⟨w.heap.size, 1, none⟩ (.complex .f64 vk.x vk.y)) := ((Mut.refl _ _).setCell (by simp) _).setCell (by simp) _
      have hb2 : Blk ((wr.setCell ⟨w.heap.size, 0, none⟩ (.bool vk.r)).setCell ⟨w.heap.size, 1, none⟩ (.complex .f64 vk.x vk.y)) w.heap.size vk.cs := (hh.out.2.2.2.2.2.1.set (i := 0) rfl (.bool vk.r)).set (i := 1) rfl (.complex .f64 vk.x vk.y)
      refine bodyPost_ret_by (results_blk_tmp rfl _ _ w.heap.size vk.cs rfl hb2 Tryz.underlying34 (by kernel_rfl)) rfl ?_
      refine ⟨rfl, Fk, hh.out.1.muts hm (fun q hq e => ?_) (fun e => ?_), hh.out.2.1.own (Nat.le_refl _) hm⟩
      · have e : q = w.heap.size := by simpa using e
        exact hh.out.2.2.2.1 (e ▸ hq)
      · have e : 1 = w.heap.size := List.mem_singleton.1 e
        have := HG.out.gb
        have := HG.out.hb
        omega
end Go.Proofs.YtbmcbkebcchjmaaGreatDoor
