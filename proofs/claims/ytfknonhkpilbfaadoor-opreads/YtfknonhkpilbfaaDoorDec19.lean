/-
  sporef.Dec: the decimal digits of a number, with a minus sign below nought.
-/
import Derived.Test.YtfknonhkpilbfaaDoorSoft19
import Derived.Test.YtfknonhkpilbfaaDoorBits19
import Derived.Laws.IdiomStrings
import Derived.Laws.Concat
import Derived.Lib.ItoaLen
namespace Go.Proofs.YtfknonhkpilbfaaDoor
open Go.RowKit

theorem itoa_neg_small (u : Nat) (h1 : 1 ≤ u) (h2 : u < 10) : Lib.itoa (-(u : Int)) = [45, UInt8.ofNat (48 + u)] := by
  unfold Lib.itoa
  rw [if_pos (by omega), show (-(u : Int)).natAbs = u by omega, Lib.decDigits, dif_pos h2]
theorem itoa_neg_big (u : Nat) (h2 : 10 ≤ u) : Lib.itoa (-(u : Int)) = 45 :: Lib.itoa (u / 10 : Nat) ++ [UInt8.ofNat (48 + u % 10)] := by
  unfold Lib.itoa
  rw [if_pos (by omega), show (-(u : Int)).natAbs = u by omega, Lib.decDigits, dif_neg (by omega), if_neg (by omega), Int.toNat_natCast]
  rfl
theorem itoa_small (u : Nat) (h2 : u < 10) : Lib.itoa (u : Int) = [UInt8.ofNat (48 + u)] := by
  unfold Lib.itoa
  rw [if_neg (by omega), Int.toNat_natCast, Lib.decDigits, dif_pos h2]
theorem itoa_big (u : Nat) (h2 : 10 ≤ u) : Lib.itoa (u : Int) = Lib.itoa (u / 10 : Nat) ++ [UInt8.ofNat (48 + u % 10)] := by
  unfold Lib.itoa
  rw [if_neg (by omega), Int.toNat_natCast, Lib.decDigits, dif_neg (by omega), if_neg (by omega), Int.toNat_natCast]

theorem byte_back (b : UInt8) (z : Int) (hz : (b.toNat : Int) = z) (w : World) (g cap : Nat) (hc : w.cell? ⟨g, 0, none⟩ = some (.int .u8 z)) :
    (convert 68 9 (.slice (some ⟨g, 0, none⟩) 1 cap)).run Tryd.prog w = .ok (.string ⟨#[b]⟩) w := by
  have := run_convert_bytes_back (P := Tryd.prog) w 68 9 5 ⟨g, 0, none⟩ cap [b] Tryd.underlying68 Tryd.underlying5 Tryd.underlying9 (fun j hj => by
    obtain rfl : j = 0 := by simpa using hj
    rw [show (⟨g, 0, none⟩ : Addr).add 0 = ⟨g, 0, none⟩ by rfl, hc, ← hz]
    rfl)
  exact this

set_option maxRecDepth 10000 in
set_option maxHeartbeats 1000000 in
theorem dec_small (u : Nat) (h : u < 10) (w : World) : Calls Tryd.prog 25 #[.int .i64 (u : Int)] w fun e w' => e = .returned (.string ⟨(Lib.itoa (u : Int)).toArray⟩) ∧ Kept w w' := by
  rw [itoa_small u h]
  have e := ofNat_toNat_digit u h
  generalize UInt8.ofNat (48 + u) = b at e
  have hcv := byte_back b (48 + (u : Int)) (by omega) (w.alloc (.cells #[.int .u8 (48 + (u : Int))] 5)) w.heap.size 1 (by simp)
  clear e
  go_enter Tryd.func25, Tryd.ntmps25
  go_wp2
  go_ret
  exact ⟨rfl, (Kept.refl w).alloc _ _⟩

set_option maxRecDepth 10000 in
set_option maxHeartbeats 1000000 in
theorem dec_neg_small (u : Nat) (h1 : 1 ≤ u) (h : u < 10) (w : World) : Calls Tryd.prog 25 #[.int .i64 (-(u : Int))] w fun e w' => e = .returned (.string ⟨(Lib.itoa (-(u : Int))).toArray⟩) ∧ Kept w w' := by
  rw [itoa_neg_small u h1 h]
  have e := ofNat_toNat_digit u h
  generalize UInt8.ofNat (48 + u) = b at e
  have hcv := byte_back b (48 + (u : Int)) (by omega) (w.alloc (.cells #[.int .u8 (48 + (u : Int))] 5)) w.heap.size 1 (by simp)
  have hq : (-(u : Int)).tdiv 10 = 0 := by
    rw [Int.neg_tdiv, show (u : Int).tdiv 10 = ((u / 10 : Nat) : Int) by rfl]
    omega
  have hr : (-(u : Int)).tmod 10 = -(u : Int) := by
    rw [Int.neg_tmod, show (u : Int).tmod 10 = ((u % 10 : Nat) : Int) by rfl]
    omega
  clear e
  go_enter Tryd.func25, Tryd.ntmps25
  go_wp2
  go_ret
  exact ⟨rfl, (Kept.refl w).alloc _ _⟩

set_option maxRecDepth 20000 in
set_option maxHeartbeats 4000000 in
theorem dec_big (u : Nat) (h : 10 ≤ u) (hu : u ≤ 9223372036854775807) (ih : ∀ W, Calls Tryd.prog 25 #[.int .i64 ((u / 10 : Nat) : Int)] W fun e w' => e = .returned (.string ⟨(Lib.itoa ((u / 10 : Nat) : Int)).toArray⟩) ∧ Kept W w') (w : World) :
    Calls Tryd.prog 25 #[.int .i64 ((u : Int))] w fun e w' => e = .returned (.string ⟨(Lib.itoa ((u : Int))).toArray⟩) ∧ Kept w w' := by
  have hl := Lib.itoa_length_le ((u / 10 : Nat) : Int) (by omega) (by omega)
  rw [itoa_big u h]
  have e := ofNat_toNat_digit (u % 10) (by omega)
  generalize UInt8.ofNat (48 + u % 10) = b at e
  have hr9 : u % 10 < 10 := Nat.mod_lt _ (by decide)
  have eq1 : (u : Int).tdiv 10 = ((u / 10 : Nat) : Int) := rfl
  have eq2 : (u : Int) / 10 = ((u / 10 : Nat) : Int) := by omega
  have er1 : (u : Int).tmod 10 = ((u % 10 : Nat) : Int) := rfl
  have er2 : (u : Int) % 10 = ((u % 10 : Nat) : Int) := by omega
  have hq9 : u / 10 ≤ 922337203685477580 := by omega
  have hcat : (⟨(Lib.itoa ((u / 10 : Nat) : Int)).toArray⟩ : ByteArray) ++ ⟨#[b]⟩ = ⟨(Lib.itoa ((u / 10 : Nat) : Int) ++ [b]).toArray⟩ := by apply ByteArray.ext; simp
  rw [← hcat]
  clear hcat
  have hlen : (⟨(Lib.itoa ((u / 10 : Nat) : Int)).toArray⟩ : ByteArray).size ≤ 21 := by simpa [ByteArray.size] using hl
  have hb1 : (⟨#[b]⟩ : ByteArray).size = 1 := rfl
  generalize (⟨(Lib.itoa ((u / 10 : Nat) : Int)).toArray⟩ : ByteArray) = A at ih hlen ⊢
  generalize u / 10 = q at ih eq1 eq2 hq9
  generalize u % 10 = r at e er1 er2 hr9
  have HB : Hid (∀ (W : World) (g cap : Nat), W.cell? ⟨g, 0, none⟩ = some (.int .u8 (48 + (r : Int))) → (convert 68 9 (.slice (some ⟨g, 0, none⟩) 1 cap)).run Tryd.prog W = .ok (.string ⟨#[b]⟩) W) := fun W g cap hc => byte_back b _ (by omega) W g cap hc
  clear e hl
  generalize (⟨#[b]⟩ : ByteArray) = bb at HB hb1 ⊢
  have IH : Hid _ := ih
  clear ih
  have wq : IntKind.i64.wrap (q : Int) = (q : Int) := by rw [IntKind.wrap_i64]; omega
  have w48 : IntKind.i64.wrap (48 + (r : Int)) = 48 + (r : Int) := by rw [IntKind.wrap_i64]; omega
  have w8 : IntKind.u8.wrap (48 + (r : Int)) = 48 + (r : Int) := by rw [IntKind.wrap_u8]; omega
  have hS : ¬ 9223372036854775807 < A.size + bb.size := by omega
  clear hb1
  have t1 : decide ((u : Int) < 0) = false := decide_eq_false (by omega)
  have t2 : decide ((u : Int) < 10) = false := decide_eq_false (by omega)
  go_enter Tryd.func25, Tryd.ntmps25
  go_wp2_with fail
  refine wp_region_soft1 (W := w) (fun uu => { tmps := #[.int .i64 (u : Int), undef, uu 10, .int .i64 (u : Int), .bool false, undef, undef, undef, undef, undef, undef, undef, undef, undef, undef, undef, undef, undef, undef, undef, undef, undef, undef, undef, undef, undef, undef, .int .i64 (u : Int), .bool false, undef, undef, undef, undef, undef, uu 0, uu 1, uu 2, uu 3, uu 4, uu 5, uu 6, uu 7, uu 8, uu 9], defers := [] }) [(.int .i64 (u : Int)), (.int .i64 (q : Int)), (.string A), (.int .i64 (u : Int)), (.int .i64 (r : Int)), (.int .i64 (48 + (r : Int))), (.int .u8 (48 + (r : Int))), (undef), (.string bb), (.string (A ++ bb)), (.string (A ++ bb))] 7 (fun v w1 => ∃ g, v = .slice (some ⟨g, 0, none⟩) 1 1 ∧ g < w1.heap.size ∧ w1.cell? ⟨g, 0, none⟩ = some (.int .u8 (48 + (r : Int)))) (fun i => if i = 10 then .string ⟨#[]⟩ else undef) (by kernel_rfl) (by kernel_rfl) ?_ (Kept.refl _) ?_ ?_
  · rintro v w1 w2 k ⟨g, rfl, hg, hc⟩
    exact ⟨g, rfl, Nat.lt_of_lt_of_le hg k.size, (k.cell (a := ⟨g, 0, none⟩) hg).trans hc⟩
  · intro i o ho uu w1 hk hd hx
    match i, ho, hd, hx with
    | 0, ho, hd, hx =>
      simp only [List.getElem?_cons_zero, Option.some.injEq] at ho
      subst ho
      refine wpOp_step rfl (fun K hK => ?_)
      clear hd hx
      go_simp
      refine hK _ _ ⟨.int .i64 (u : Int), ?_, Kept.refl _, fun h => absurd h (by decide), fun _ => rfl⟩
      simp [upd]
    | 1, ho, hd, hx =>
      simp only [List.getElem?_cons_succ, List.getElem?_cons_zero, Option.some.injEq] at ho
      subst ho
      have g0 : uu 0 = .int .i64 (u : Int) := hd { on := 0, ground := .data } (by simp) rfl (by decide)
      refine wpOp_step rfl (fun K hK => ?_)
      clear hd hx
      go_simp
      refine hK _ _ ⟨.int .i64 (q : Int), ?_, Kept.refl _, fun h => absurd h (by decide), fun _ => rfl⟩
      simp [upd, g0]
    | 2, ho, hd, hx =>
      simp only [List.getElem?_cons_succ, List.getElem?_cons_zero, Option.some.injEq] at ho
      subst ho
      have g1 : uu 1 = .int .i64 (q : Int) := hd { on := 1, ground := .data } (by simp) rfl (by decide)
      refine wpOp_step rfl (fun K hK => ?_)
      clear hd hx
      go_simp
      refine (IH.out _).mono ?_
      rintro e w2 ⟨rfl, k2⟩
      refine hK _ _ ⟨.string A, ?_, k2, fun h => absurd h (by decide), fun _ => rfl⟩
      simp [upd, g1]
    | 3, ho, hd, hx =>
      simp only [List.getElem?_cons_succ, List.getElem?_cons_zero, Option.some.injEq] at ho
      subst ho
      refine wpOp_step rfl (fun K hK => ?_)
      clear hd hx
      go_simp
      refine hK _ _ ⟨.int .i64 (u : Int), ?_, Kept.refl _, fun h => absurd h (by decide), fun _ => rfl⟩
      simp [upd]
    | 4, ho, hd, hx =>
      simp only [List.getElem?_cons_succ, List.getElem?_cons_zero, Option.some.injEq] at ho
      subst ho
      have g3 : uu 3 = .int .i64 (u : Int) := hd { on := 3, ground := .data } (by simp) rfl (by decide)
      refine wpOp_step rfl (fun K hK => ?_)
      clear hd hx
      go_simp
      refine hK _ _ ⟨.int .i64 (r : Int), ?_, Kept.refl _, fun h => absurd h (by decide), fun _ => rfl⟩
      simp [upd, g3]
    | 5, ho, hd, hx =>
      simp only [List.getElem?_cons_succ, List.getElem?_cons_zero, Option.some.injEq] at ho
      subst ho
      have g4 : uu 4 = .int .i64 (r : Int) := hd { on := 4, ground := .data } (by simp) rfl (by decide)
      refine wpOp_step rfl (fun K hK => ?_)
      clear hd hx
      go_simp
      refine hK _ _ ⟨.int .i64 (48 + (r : Int)), ?_, Kept.refl _, fun h => absurd h (by decide), fun _ => rfl⟩
      simp [upd, g4]
    | 6, ho, hd, hx =>
      simp only [List.getElem?_cons_succ, List.getElem?_cons_zero, Option.some.injEq] at ho
      subst ho
      have g5 : uu 5 = .int .i64 (48 + (r : Int)) := hd { on := 5, ground := .data } (by simp) rfl (by decide)
      refine wpOp_step rfl (fun K hK => ?_)
      clear hd hx
      go_simp
      refine hK _ _ ⟨.int .u8 (48 + (r : Int)), ?_, Kept.refl _, fun h => absurd h (by decide), fun _ => rfl⟩
      simp [upd, g5]
    | 7, ho, hd, hx =>
      simp only [List.getElem?_cons_succ, List.getElem?_cons_zero, Option.some.injEq] at ho
      subst ho
      have g6 : uu 6 = .int .u8 (48 + (r : Int)) := hd { on := 6, ground := .data } (by simp) rfl (by decide)
      refine wpOp_step rfl (fun K hK => ?_)
      clear hd hx
      go_simp
      refine hK _ _ ⟨.slice (some ⟨w1.heap.size, 0, none⟩) 1 1, ?_, (Kept.refl _).alloc _ _, fun _ => ⟨w1.heap.size, rfl, by simp, by simp⟩, fun h => absurd rfl h⟩
      simp [upd, g6]
    | 8, ho, hd, hx =>
      simp only [List.getElem?_cons_succ, List.getElem?_cons_zero, Option.some.injEq] at ho
      subst ho
      obtain ⟨g, gs, hg, hc⟩ := hx ⟨{ on := 7, ground := .data }, by simp, rfl, rfl⟩
      have hcv : Hid (∀ cap, (convert 68 9 (.slice (some ⟨g, 0, none⟩) 1 cap)).run Tryd.prog w1 = .ok (.string bb) w1) := fun cap => HB.out w1 g cap hc
      have hcv1 := hcv.out 1
      clear hcv hc hg
      refine wpOp_step rfl (fun K hK => ?_)
      clear hd hx
      go_simp
      refine hK _ _ ⟨.string bb, ?_, Kept.refl _, fun h => absurd h (by decide), fun _ => rfl⟩
      simp [upd, gs]
    | 9, ho, hd, hx =>
      simp only [List.getElem?_cons_succ, List.getElem?_cons_zero, Option.some.injEq] at ho
      subst ho
      have g2 : uu 2 = .string A := hd { on := 2, ground := .data } (by simp) rfl (by decide)
      have g8 : uu 8 = .string bb := hd { on := 8, ground := .data } (by simp) rfl (by decide)
      refine wpOp_step rfl (fun K hK => ?_)
      clear hd hx
      go_simp
      refine hK _ _ ⟨.string (A ++ bb), ?_, Kept.refl _, fun h => absurd h (by decide), fun _ => rfl⟩
      simp [upd, g2, g8]
    | 10, ho, hd, hx =>
      simp only [List.getElem?_cons_succ, List.getElem?_cons_zero, Option.some.injEq] at ho
      subst ho
      have g9 : uu 9 = .string (A ++ bb) := hd { on := 9, ground := .data } (by simp) rfl (by decide)
      refine wpOp_step rfl (fun K hK => ?_)
      clear hd hx
      go_simp
      refine hK _ _ ⟨.string (A ++ bb), ?_, Kept.refl _, fun h => absurd h (by decide), fun _ => rfl⟩
      simp [upd, g9]
    | (n + 11), ho, hd, hx => simp at ho
  · intro uu w1 hk huu
    have r10 : uu 10 = .string (A ++ bb) := huu 10 (by decide) (by decide)
    clear huu
    have KF : Hid (Kept w w1) := hk
    clear hk
    go_wp2
    go_ret
    exact ⟨by simp [r10], KF.out⟩

set_option maxRecDepth 20000 in
set_option maxHeartbeats 4000000 in
theorem dec_neg_big (u : Nat) (h : 10 ≤ u) (hu : u ≤ 9223372036854775808) (ih : ∀ W, Calls Tryd.prog 25 #[.int .i64 ((u / 10 : Nat) : Int)] W fun e w' => e = .returned (.string ⟨(Lib.itoa ((u / 10 : Nat) : Int)).toArray⟩) ∧ Kept W w') (w : World) :
    Calls Tryd.prog 25 #[.int .i64 (-(u : Int))] w fun e w' => e = .returned (.string ⟨(Lib.itoa (-(u : Int))).toArray⟩) ∧ Kept w w' := by
  have hl := Lib.itoa_length_le ((u / 10 : Nat) : Int) (by omega) (by omega)
  rw [itoa_neg_big u h]
  have e := ofNat_toNat_digit (u % 10) (by omega)
  generalize UInt8.ofNat (48 + u % 10) = b at e
  have hr9 : u % 10 < 10 := Nat.mod_lt _ (by decide)
  have eq1 : (u : Int).tdiv 10 = ((u / 10 : Nat) : Int) := rfl
  have eq2 : (u : Int) / 10 = ((u / 10 : Nat) : Int) := by omega
  have er1 : (u : Int).tmod 10 = ((u % 10 : Nat) : Int) := rfl
  have er2 : (u : Int) % 10 = ((u % 10 : Nat) : Int) := by omega
  have hq9 : u / 10 ≤ 922337203685477580 := by omega
  have hcat : (⟨#[45]⟩ : ByteArray) ++ ⟨(Lib.itoa ((u / 10 : Nat) : Int)).toArray⟩ ++ ⟨#[b]⟩ = ⟨(45 :: Lib.itoa ((u / 10 : Nat) : Int) ++ [b]).toArray⟩ := by apply ByteArray.ext; simp
  rw [← hcat]
  clear hcat
  have hlen : (⟨(Lib.itoa ((u / 10 : Nat) : Int)).toArray⟩ : ByteArray).size ≤ 21 := by simpa [ByteArray.size] using hl
  have hb1 : (⟨#[b]⟩ : ByteArray).size = 1 := rfl
  generalize (⟨(Lib.itoa ((u / 10 : Nat) : Int)).toArray⟩ : ByteArray) = A at ih hlen ⊢
  generalize u / 10 = q at ih eq1 eq2 hq9
  generalize u % 10 = r at e er1 er2 hr9
  have HB : Hid (∀ (W : World) (g cap : Nat), W.cell? ⟨g, 0, none⟩ = some (.int .u8 (48 + (r : Int))) → (convert 68 9 (.slice (some ⟨g, 0, none⟩) 1 cap)).run Tryd.prog W = .ok (.string ⟨#[b]⟩) W) := fun W g cap hc => byte_back b _ (by omega) W g cap hc
  clear e hl
  generalize (⟨#[b]⟩ : ByteArray) = bb at HB hb1 ⊢
  have IH : Hid _ := ih
  clear ih
  have wq : IntKind.i64.wrap (q : Int) = (q : Int) := by rw [IntKind.wrap_i64]; omega
  have w48 : IntKind.i64.wrap (48 + (r : Int)) = 48 + (r : Int) := by rw [IntKind.wrap_i64]; omega
  have w8 : IntKind.u8.wrap (48 + (r : Int)) = 48 + (r : Int) := by rw [IntKind.wrap_u8]; omega
  have hS : ¬ 9223372036854775807 < A.size + bb.size := by omega
  have en1 : (-(u : Int)).tdiv 10 = -(q : Int) := by rw [Int.neg_tdiv, eq1]
  have en2 : (-(u : Int)).tmod 10 = -(r : Int) := by rw [Int.neg_tmod, er1]
  have hm1 : (⟨#[45]⟩ : ByteArray).size = 1 := rfl
  have wn : IntKind.i64.wrap (-(q : Int)) = -(q : Int) := by rw [IntKind.wrap_i64]; omega
  have wr : IntKind.i64.wrap (-(r : Int)) = -(r : Int) := by rw [IntKind.wrap_i64]; omega
  have hS1 : ¬ 9223372036854775807 < (⟨#[45]⟩ : ByteArray).size + A.size := by omega
  have hS2 : ¬ 9223372036854775807 < 1 + A.size := by omega
  have hS3 : ¬ 9223372036854775807 < 1 + A.size + bb.size := by omega
  clear hb1
  have t1 : decide (-(u : Int) < 0) = true := decide_eq_true (by omega)
  have t2 : decide (0 < u) = true := decide_eq_true (by omega)
  have t3 : (-(q : Int) == 0) = false := by simp; omega
  have t4 : decide (q = 0) = false := decide_eq_false (by omega)
  go_enter Tryd.func25, Tryd.ntmps25
  go_wp2_with fail
  refine wp_region_soft1 (W := w) (fun uu => { tmps := #[.int .i64 (-(u : Int)), undef, uu 12, .int .i64 (-(u : Int)), .bool true, .int .i64 (-(u : Int)), .int .i64 (-(q : Int)), .bool false, undef, undef, undef, undef, undef, undef, undef, uu 0, uu 1, uu 2, uu 3, uu 4, uu 5, uu 6, uu 7, uu 8, uu 9, uu 10, uu 11, undef, undef, undef, undef, undef, undef, undef, undef, undef, undef, undef, undef, undef, undef, undef, undef, undef], defers := [] }) [(.int .i64 (-(u : Int))), (.int .i64 (-(q : Int))), (.int .i64 (q : Int)), (.string A), (.string (⟨#[45]⟩ ++ A)), (.int .i64 (-(u : Int))), (.int .i64 (-(r : Int))), (.int .i64 (48 + (r : Int))), (.int .u8 (48 + (r : Int))), (undef), (.string bb), (.string (⟨#[45]⟩ ++ A ++ bb)), (.string (⟨#[45]⟩ ++ A ++ bb))] 9 (fun v w1 => ∃ g, v = .slice (some ⟨g, 0, none⟩) 1 1 ∧ g < w1.heap.size ∧ w1.cell? ⟨g, 0, none⟩ = some (.int .u8 (48 + (r : Int)))) (fun i => if i = 12 then .string ⟨#[]⟩ else undef) (by kernel_rfl) (by kernel_rfl) ?_ (Kept.refl _) ?_ ?_
  · rintro v w1 w2 k ⟨g, rfl, hg, hc⟩
    exact ⟨g, rfl, Nat.lt_of_lt_of_le hg k.size, (k.cell (a := ⟨g, 0, none⟩) hg).trans hc⟩
  · intro i o ho uu w1 hk hd hx
    match i, ho, hd, hx with
    | 0, ho, hd, hx =>
      simp only [List.getElem?_cons_zero, Option.some.injEq] at ho
      subst ho
      refine wpOp_step rfl (fun K hK => ?_)
      clear hd hx
      go_simp
      refine hK _ _ ⟨.int .i64 (-(u : Int)), ?_, Kept.refl _, fun h => absurd h (by decide), fun _ => rfl⟩
      simp [upd]
    | 1, ho, hd, hx =>
      simp only [List.getElem?_cons_succ, List.getElem?_cons_zero, Option.some.injEq] at ho
      subst ho
      have g0 : uu 0 = .int .i64 (-(u : Int)) := hd { on := 0, ground := .data } (by simp) rfl (by decide)
      refine wpOp_step rfl (fun K hK => ?_)
      clear hd hx
      go_simp
      refine hK _ _ ⟨.int .i64 (-(q : Int)), ?_, Kept.refl _, fun h => absurd h (by decide), fun _ => rfl⟩
      simp [upd, g0]
    | 2, ho, hd, hx =>
      simp only [List.getElem?_cons_succ, List.getElem?_cons_zero, Option.some.injEq] at ho
      subst ho
      have g1 : uu 1 = .int .i64 (-(q : Int)) := hd { on := 1, ground := .data } (by simp) rfl (by decide)
      refine wpOp_step rfl (fun K hK => ?_)
      clear hd hx
      go_simp
      refine hK _ _ ⟨.int .i64 (q : Int), ?_, Kept.refl _, fun h => absurd h (by decide), fun _ => rfl⟩
      simp [upd, g1]
    | 3, ho, hd, hx =>
      simp only [List.getElem?_cons_succ, List.getElem?_cons_zero, Option.some.injEq] at ho
      subst ho
      have g2 : uu 2 = .int .i64 (q : Int) := hd { on := 2, ground := .data } (by simp) rfl (by decide)
      refine wpOp_step rfl (fun K hK => ?_)
      clear hd hx
      go_simp
      refine (IH.out _).mono ?_
      rintro e w2 ⟨rfl, k2⟩
      refine hK _ _ ⟨.string A, ?_, k2, fun h => absurd h (by decide), fun _ => rfl⟩
      simp [upd, g2]
    | 4, ho, hd, hx =>
      simp only [List.getElem?_cons_succ, List.getElem?_cons_zero, Option.some.injEq] at ho
      subst ho
      have g3 : uu 3 = .string A := hd { on := 3, ground := .data } (by simp) rfl (by decide)
      refine wpOp_step rfl (fun K hK => ?_)
      clear hd hx
      go_simp
      refine hK _ _ ⟨.string (⟨#[45]⟩ ++ A), ?_, Kept.refl _, fun h => absurd h (by decide), fun _ => rfl⟩
      simp [upd, g3]
    | 5, ho, hd, hx =>
      simp only [List.getElem?_cons_succ, List.getElem?_cons_zero, Option.some.injEq] at ho
      subst ho
      refine wpOp_step rfl (fun K hK => ?_)
      clear hd hx
      go_simp
      refine hK _ _ ⟨.int .i64 (-(u : Int)), ?_, Kept.refl _, fun h => absurd h (by decide), fun _ => rfl⟩
      simp [upd]
    | 6, ho, hd, hx =>
      simp only [List.getElem?_cons_succ, List.getElem?_cons_zero, Option.some.injEq] at ho
      subst ho
      have g5 : uu 5 = .int .i64 (-(u : Int)) := hd { on := 5, ground := .data } (by simp) rfl (by decide)
      refine wpOp_step rfl (fun K hK => ?_)
      clear hd hx
      go_simp
      refine hK _ _ ⟨.int .i64 (-(r : Int)), ?_, Kept.refl _, fun h => absurd h (by decide), fun _ => rfl⟩
      simp [upd, g5]
    | 7, ho, hd, hx =>
      simp only [List.getElem?_cons_succ, List.getElem?_cons_zero, Option.some.injEq] at ho
      subst ho
      have g6 : uu 6 = .int .i64 (-(r : Int)) := hd { on := 6, ground := .data } (by simp) rfl (by decide)
      refine wpOp_step rfl (fun K hK => ?_)
      clear hd hx
      go_simp
      refine hK _ _ ⟨.int .i64 (48 + (r : Int)), ?_, Kept.refl _, fun h => absurd h (by decide), fun _ => rfl⟩
      simp [upd, g6]
    | 8, ho, hd, hx =>
      simp only [List.getElem?_cons_succ, List.getElem?_cons_zero, Option.some.injEq] at ho
      subst ho
      have g7 : uu 7 = .int .i64 (48 + (r : Int)) := hd { on := 7, ground := .data } (by simp) rfl (by decide)
      refine wpOp_step rfl (fun K hK => ?_)
      clear hd hx
      go_simp
      refine hK _ _ ⟨.int .u8 (48 + (r : Int)), ?_, Kept.refl _, fun h => absurd h (by decide), fun _ => rfl⟩
      simp [upd, g7]
    | 9, ho, hd, hx =>
      simp only [List.getElem?_cons_succ, List.getElem?_cons_zero, Option.some.injEq] at ho
      subst ho
      have g8 : uu 8 = .int .u8 (48 + (r : Int)) := hd { on := 8, ground := .data } (by simp) rfl (by decide)
      refine wpOp_step rfl (fun K hK => ?_)
      clear hd hx
      go_simp
      refine hK _ _ ⟨.slice (some ⟨w1.heap.size, 0, none⟩) 1 1, ?_, (Kept.refl _).alloc _ _, fun _ => ⟨w1.heap.size, rfl, by simp, by simp⟩, fun h => absurd rfl h⟩
      simp [upd, g8]
    | 10, ho, hd, hx =>
      simp only [List.getElem?_cons_succ, List.getElem?_cons_zero, Option.some.injEq] at ho
      subst ho
      obtain ⟨g, gs, hg, hc⟩ := hx ⟨{ on := 9, ground := .data }, by simp, rfl, rfl⟩
      have hcv : Hid (∀ cap, (convert 68 9 (.slice (some ⟨g, 0, none⟩) 1 cap)).run Tryd.prog w1 = .ok (.string bb) w1) := fun cap => HB.out w1 g cap hc
      have hcv1 := hcv.out 1
      clear hcv hc hg
      refine wpOp_step rfl (fun K hK => ?_)
      clear hd hx
      go_simp
      refine hK _ _ ⟨.string bb, ?_, Kept.refl _, fun h => absurd h (by decide), fun _ => rfl⟩
      simp [upd, gs]
    | 11, ho, hd, hx =>
      simp only [List.getElem?_cons_succ, List.getElem?_cons_zero, Option.some.injEq] at ho
      subst ho
      have g4 : uu 4 = .string (⟨#[45]⟩ ++ A) := hd { on := 4, ground := .data } (by simp) rfl (by decide)
      have g10 : uu 10 = .string bb := hd { on := 10, ground := .data } (by simp) rfl (by decide)
      refine wpOp_step rfl (fun K hK => ?_)
      clear hd hx
      go_simp
      refine hK _ _ ⟨.string (⟨#[45]⟩ ++ A ++ bb), ?_, Kept.refl _, fun h => absurd h (by decide), fun _ => rfl⟩
      simp [upd, g4, g10]
    | 12, ho, hd, hx =>
      simp only [List.getElem?_cons_succ, List.getElem?_cons_zero, Option.some.injEq] at ho
      subst ho
      have g11 : uu 11 = .string (⟨#[45]⟩ ++ A ++ bb) := hd { on := 11, ground := .data } (by simp) rfl (by decide)
      refine wpOp_step rfl (fun K hK => ?_)
      clear hd hx
      go_simp
      refine hK _ _ ⟨.string (⟨#[45]⟩ ++ A ++ bb), ?_, Kept.refl _, fun h => absurd h (by decide), fun _ => rfl⟩
      simp [upd, g11]
    | (n + 13), ho, hd, hx => simp at ho
  · intro uu w1 hk huu
    have r12 : uu 12 = .string (⟨#[45]⟩ ++ A ++ bb) := huu 12 (by decide) (by decide)
    clear huu
    have KF : Hid (Kept w w1) := hk
    clear hk
    go_wp2
    go_ret
    exact ⟨by simp [r12], KF.out⟩

theorem dec_any : ∀ (n : Int), i64 n → ∀ w, Calls Tryd.prog 25 #[.int .i64 n] w fun e w' => e = .returned (.string ⟨(Lib.itoa n).toArray⟩) ∧ Kept w w' := by
  have pos : ∀ (u : Nat), u ≤ 9223372036854775807 → ∀ w, Calls Tryd.prog 25 #[.int .i64 (u : Int)] w fun e w' => e = .returned (.string ⟨(Lib.itoa (u : Int)).toArray⟩) ∧ Kept w w' := by
    intro u
    induction u using Nat.strongRecOn with
    | _ u ih =>
      intro hu w
      by_cases h : u < 10
      · exact dec_small u h w
      · exact dec_big u (by omega) hu (ih (u / 10) (by omega) (by omega)) w
  intro n hn w
  unfold i64 at hn
  by_cases h : 0 ≤ n
  · obtain ⟨u, rfl⟩ : ∃ u : Nat, n = u := ⟨n.toNat, by omega⟩
    exact pos u (by omega) w
  · obtain ⟨u, rfl⟩ : ∃ u : Nat, n = -(u : Int) := ⟨n.natAbs, by omega⟩
    by_cases h10 : u < 10
    · exact dec_neg_small u (by omega) h10 w
    · exact dec_neg_big u (by omega) (by omega) (pos (u / 10) (by omega)) w
end Go.Proofs.YtfknonhkpilbfaaDoor
