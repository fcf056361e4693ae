/-
  The laws' own SameConf answers true of two configurations with the same numbers and alike shapes; what was there is kept.
-/
import Derived.Test.YtiigmmmhhpdmdaaB14
import Derived.Test.YtiigmmmhhpdmdaaB04
namespace Go.Proofs.Ytiigmmmhhpdmdaa
open Go.RowKit

set_option maxHeartbeats 4000000 in
theorem same_conf (n0 n1 n2 n3 n4 n5 n6 n7 : Int) (x y : Option Addr) (l c d : Nat) (T S : Nat → Sh) (R : Nat → Nat → Bool) (w : World) (hl : l ≤ 1000000) (hT : Shps w x l T) (hS : Shps w y l S)
    (harr : ∀ i, i < l → (T i).arr = (S i).arr) (hlen : ∀ i, i < l → (T i).l = (S i).l) (hn : ∀ i, i < l → (S i).l ≤ 1000) (hRT : ∀ i, i < l → Refs w (T i).x (S i).l (R i)) (hRS : ∀ i, i < l → Refs w (S i).x (S i).l (R i)) :
    Calls Try.prog 11 #[.agg #[.int .i64 n0, .int .i64 n1, .int .i64 n2, .int .i64 n3, .int .i64 n4, .int .i64 n5, .int .i64 n6, .int .i64 n7, .slice x l c],
      .agg #[.int .i64 n0, .int .i64 n1, .int .i64 n2, .int .i64 n3, .int .i64 n4, .int .i64 n5, .int .i64 n6, .int .i64 n7, .slice y l d]] w fun e w' => e = .returned (.bool true) ∧ Kept w w' := by
  have HH : Hid (Shps w x l T ∧ Shps w y l S ∧ (∀ i, i < l → (T i).arr = (S i).arr) ∧ (∀ i, i < l → (T i).l = (S i).l) ∧ (∀ i, i < l → (S i).l ≤ 1000) ∧ (∀ i, i < l → Refs w (T i).x (S i).l (R i)) ∧ ∀ i, i < l → Refs w (S i).x (S i).l (R i)) := ⟨hT, hS, harr, hlen, hn, hRT, hRS⟩
  clear hT hS harr hlen hn hRT hRS
  go_enter Try.func11, Try.ntmps11
  go_wp2_with fail
  generalize hW0 : w.alloc _ = W0
  have z0 : W0.heap.size = w.heap.size + 1 := by rw [← hW0]; simp
  have b0 : Blk W0 w.heap.size (cl n0 n1 n2 n3 n4 n5 n6 n7 (.slice x l c)) := by rw [← hW0]; exact Blk.new w _ _
  have k0 : Kept w W0 := by rw [← hW0]; exact (Kept.refl w).alloc _ _
  clear hW0
  generalize hW1 : W0.alloc _ = W1
  have b1 : Blk W1 (w.heap.size + 1) (cl n0 n1 n2 n3 n4 n5 n6 n7 (.slice y l d)) := by rw [← hW1, ← z0]; exact Blk.new W0 _ _
  have k1 : Kept W0 W1 := by rw [← hW1]; exact (Kept.refl W0).alloc _ _
  have BB : Hid (Blk W1 w.heap.size (cl n0 n1 n2 n3 n4 n5 n6 n7 (.slice x l c)) ∧ Blk W1 (w.heap.size + 1) (cl n0 n1 n2 n3 n4 n5 n6 n7 (.slice y l d)) ∧ Kept w W1) := ⟨b0.kept k1, b1, k0.trans k1⟩
  clear hW1 z0 b0 k0 b1 k1
  go_loopg [5] l (fun m i wr => ∃ k : Nat, i = .int .i64 k ∧ k ≤ l ∧ m = l - k ∧ Hid (Kept W1 wr))
  case atStart => exact ⟨0, rfl, by omega, by omega, Kept.refl _⟩
  case round =>
    obtain ⟨k, rfl, hk0, hm, KK⟩ := hrel
    have HM : Hid _ := hm
    clear hm
    have A := BB.out.1.kept KK.out
    have B := BB.out.2.1.kept KK.out
    have a8 := A.at 8 rfl
    have b8 := B.at 8 rfl
    by_cases hlt : k < l
    · obtain ⟨hT, hS, harr, hlen, hn, hRT, hRS⟩ := HH.out
      obtain ⟨bx, ox, rfl, hbx, hcx⟩ := hT (by omega)
      obtain ⟨by', oy, rfl, hby, hcy⟩ := hS (by omega)
      have kr : Kept w wr := BB.out.2.2.trans KK.out
      have x0 : wr.cell? ⟨bx, ox + k * 2, none⟩ = some (.bool (S k).arr) := by rw [(kr.cell hbx).trans (hcx k hlt).1, harr k hlt]
      have x1 : wr.cell? ⟨bx, ox + k * 2 + 1, none⟩ = some (.slice (T k).x (S k).l (T k).c) := by rw [(kr.cell hbx).trans (hcx k hlt).2, hlen k hlt]
      have y0 := (kr.cell hby).trans (hcy k hlt).1
      have y1 := (kr.cell hby).trans (hcy k hlt).2
      have lx : bx < wr.heap.size := Nat.lt_of_lt_of_le hbx kr.size
      have ly : by' < wr.heap.size := Nat.lt_of_lt_of_le hby kr.size
      have la := A.lt
      have lb := B.lt
      have a8F := fun (A : Array Value) (t : TypeId) => (((Kept.refl wr).alloc A t).cell (a := ⟨w.heap.size, 8, none⟩) la).trans a8
      have a8G := fun (A B : Array Value) (t u : TypeId) => ((((Kept.refl wr).alloc A t).alloc B u).cell (a := ⟨w.heap.size, 8, none⟩) la).trans a8
      have b8F := fun (A : Array Value) (t : TypeId) => (((Kept.refl wr).alloc A t).cell (a := ⟨w.heap.size + 1, 8, none⟩) lb).trans b8
      have b8G := fun (A B : Array Value) (t u : TypeId) => ((((Kept.refl wr).alloc A t).alloc B u).cell (a := ⟨w.heap.size + 1, 8, none⟩) lb).trans b8
      have x0F := fun (A : Array Value) (t : TypeId) => (((Kept.refl wr).alloc A t).cell (a := ⟨bx, ox + k * 2, none⟩) lx).trans x0
      have x0G := fun (A B : Array Value) (t u : TypeId) => ((((Kept.refl wr).alloc A t).alloc B u).cell (a := ⟨bx, ox + k * 2, none⟩) lx).trans x0
      have x1F := fun (A : Array Value) (t : TypeId) => (((Kept.refl wr).alloc A t).cell (a := ⟨bx, ox + k * 2 + 1, none⟩) lx).trans x1
      have x1G := fun (A B : Array Value) (t u : TypeId) => ((((Kept.refl wr).alloc A t).alloc B u).cell (a := ⟨bx, ox + k * 2 + 1, none⟩) lx).trans x1
      have y0F := fun (A : Array Value) (t : TypeId) => (((Kept.refl wr).alloc A t).cell (a := ⟨by', oy + k * 2, none⟩) ly).trans y0
      have y0G := fun (A B : Array Value) (t u : TypeId) => ((((Kept.refl wr).alloc A t).alloc B u).cell (a := ⟨by', oy + k * 2, none⟩) ly).trans y0
      have y1F := fun (A : Array Value) (t : TypeId) => (((Kept.refl wr).alloc A t).cell (a := ⟨by', oy + k * 2 + 1, none⟩) ly).trans y1
      have y1G := fun (A B : Array Value) (t u : TypeId) => ((((Kept.refl wr).alloc A t).alloc B u).cell (a := ⟨by', oy + k * 2 + 1, none⟩) ly).trans y1
      have k1 : (0 : Int) ≤ (k : Int) := by omega
      have k2 : (k : Int) < (l : Int) := by omega
      go_wp2_with fail
      clear hcx hcy hT hS
      have HR2 : Hid (Kept w wr ∧ Refs w (T k).x (S k).l (R k) ∧ Refs w (S k).x (S k).l (R k) ∧ (S k).l ≤ 1000) := ⟨kr, hRT k hlt, hRS k hlt, hn k hlt⟩
      clear harr hlen hn hRT hRS A B kr hbx hby
      go_region
      generalize hW : World.drew _ = W2
      have X : Hid (Blk W2 wr.heap.size [.bool (S k).arr, .slice (T k).x (S k).l (T k).c]) := by rw [← hW]; exact (Blk.new wr _ _).kept ((Kept.refl _).alloc _ _).drew
      have Y : Hid (Blk W2 (wr.heap.size + 1) [.bool (S k).arr, .slice (S k).x (S k).l (S k).c]) := by rw [← hW]; exact (Blk.new2 wr _ _ _ _).kept (Kept.refl _).drew
      have K2 : Hid (Kept wr W2) := by rw [← hW]; exact (((Kept.refl wr).alloc _ _).alloc _ _).drew
      clear hW x0 x1 y0 y1 a8 b8 lx ly la lb a8F a8G b8F b8G x0F x0G x1F x1G y0F y0G y1F y1G
      generalize wr.heap.size + 1 = py at Y ⊢
      generalize wr.heap.size = px at X ⊢
      rotate_left
      generalize hW : World.drew _ = W2
      have X : Hid (Blk W2 (wr.heap.size + 1) [.bool (S k).arr, .slice (T k).x (S k).l (T k).c]) := by rw [← hW]; exact (Blk.new2 wr _ _ _ _).kept (Kept.refl _).drew
      have Y : Hid (Blk W2 wr.heap.size [.bool (S k).arr, .slice (S k).x (S k).l (S k).c]) := by rw [← hW]; exact (Blk.new wr _ _).kept ((Kept.refl _).alloc _ _).drew
      have K2 : Hid (Kept wr W2) := by rw [← hW]; exact (((Kept.refl wr).alloc _ _).alloc _ _).drew
      clear hW x0 x1 y0 y1 a8 b8 lx ly la lb a8F a8G b8F b8G x0F x0G x1F x1G y0F y0G y1F y1G
      generalize wr.heap.size + 1 = px at X ⊢
      generalize wr.heap.size = py at Y ⊢
      rotate_left
      all_goals
        have x0 := X.out.at 0 rfl
        have x1 := X.out.at 1 rfl
        have y0 := Y.out.at 0 rfl
        have y1 := Y.out.at 1 rfl
        go_wp2_with fail
        clear x0 x1 y0 y1
        go_loopg [8] (S k).l (fun m i wq => ∃ j : Nat, i = .int .i64 j ∧ j ≤ (S k).l ∧ m = (S k).l - j ∧ Hid (Kept W2 wq))
        case atStart => exact ⟨0, rfl, by omega, by omega, Kept.refl _⟩
        case round =>
          obtain ⟨j, rfl, hj0, hm, K3⟩ := hrel
          have HM2 : Hid _ := hm
          clear hm
          have x1 := (X.out.kept K3.out).at 1 rfl
          by_cases hj : j < (S k).l
          · obtain ⟨kw, hRT, hRS, _⟩ := HR2.out
            obtain ⟨p1, o1, e1, l1, c1⟩ := hRT (by omega)
            obtain ⟨p2, o2, e2, l2, c2⟩ := hRS (by omega)
            have kq : Kept w wr := kw.trans (K2.out.trans K3.out)
            have XQ := X.out.kept K3.out
            have YQ := Y.out.kept K3.out
            rw [e1] at XQ x1
            rw [e2] at YQ
            have d1 := fun z : KW wr => z.cell XQ.lt (XQ.at 1 rfl)
            have d2 := fun z : KW wr => z.cell YQ.lt (YQ.at 1 rfl)
            have s1 := fun z : KW wr => z.cell (a := ⟨p1, o1 + j, none⟩) (Nat.lt_of_lt_of_le l1 kq.size) ((kq.cell l1).trans (c1 j hj))
            have s2 := fun z : KW wr => z.cell (a := ⟨p2, o2 + j, none⟩) (Nat.lt_of_lt_of_le l2 kq.size) ((kq.cell l2).trans (c2 j hj))
            have j1 : (0 : Int) ≤ (j : Int) := by omega
            have j2 : (j : Int) < ((S k).l : Int) := by omega
            clear kw hRT hRS c1 c2 kq XQ YQ e1 e2
            go_wp2_with fail
            refine wp_region_kept (by kernel_rfl) (by kernel_rfl) fun _ => ?_
            repeat (go_big_quiet_step (fail))
            refine wpQuiet_nil ?_
            rintro _ ⟨z, rfl⟩
            clear d1 d2 s1 s2 x1
            go_wp2
            go_roundg ((S k).l - (j + 1))
            case measure => have := HM2.out; omega
            case rel => exact ⟨j + 1, by go_num, by omega, rfl, K3.out.trans z.ok⟩
          · go_wp2
            go_roundg (l - (k + 1))
            case measure => have := HM.out; omega
            case rel => exact ⟨k + 1, by go_num, by omega, rfl, KK.out.trans (K2.out.trans K3.out)⟩
    · go_wp2
      go_ret
      exact ⟨rfl, BB.out.2.2.trans KK.out⟩

end Go.Proofs.Ytiigmmmhhpdmdaa
