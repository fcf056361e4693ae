/-
  The document's words and what it prints.
-/
import Derived.Test.YtfknonhkpilbfaaDoorNum19
namespace Go.Proofs.YtfknonhkpilbfaaDoor
open Go.RowKit

/-- What stands behind the document's words. -/
def rlt : Nat → List UInt8
  | 1 => [65, 107] | 2 => [65, 107, 78] | 3 => [65, 66, 78] | 4 => [65, 78, 66] | 5 => [65, 66, 78] | 6 => [65, 78, 66] | 7 => [65, 78] | 8 => [78, 66] | 9 => [65, 66, 67] | 10 => [65, 66] | 11 => [65, 66]
  | 12 => [65, 122] | 13 => [65] | 14 => [65, 66] | 15 => [65, 66, 67] | 16 => [65, 66, 67] | _ => []
def OP.rf (o : OP) (l : UInt8) : List UInt8 := if l = 65 then Lib.itoa o.a else if l = 66 ∨ l = 107 then Lib.itoa o.b else if l = 67 then Lib.itoa o.c else if l = 78 then Lib.itoa o.n else hex16 (nbP o.x) ++ 32 :: hex16 (nbP o.y)
theorem rlt_cases (k : Nat) : ∀ l ∈ rlt k, l = 65 ∨ l = 66 ∨ l = 107 ∨ l = 67 ∨ l = 78 ∨ l = 122 := by
  by_cases h : 1 ≤ k ∧ k ≤ 18
  · rcases kinds k h.1 h.2 with rfl | rfl | rfl | rfl | rfl | rfl | rfl | rfl | rfl | rfl | rfl | rfl | rfl | rfl | rfl | rfl | rfl | rfl <;> decide
  · have e : rlt k = [] := by unfold rlt; split <;> first | omega | rfl
    rw [e]; simp
theorem rlt_len (k : Nat) : (rlt k).length ≤ 3 := by
  by_cases h : 1 ≤ k ∧ k ≤ 18
  · rcases kinds k h.1 h.2 with rfl | rfl | rfl | rfl | rfl | rfl | rfl | rfl | rfl | rfl | rfl | rfl | rfl | rfl | rfl | rfl | rfl | rfl <;> decide
  · have e : rlt k = [] := by unfold rlt; split <;> first | omega | rfl
    rw [e]; simp
theorem wd_len' (k : Nat) : (wd k).length ≤ 7 := by
  by_cases h : 1 ≤ k ∧ k ≤ 18
  · rcases kinds k h.1 h.2 with rfl | rfl | rfl | rfl | rfl | rfl | rfl | rfl | rfl | rfl | rfl | rfl | rfl | rfl | rfl | rfl | rfl | rfl <;> decide
  · have e : wd k = [] := by unfold wd; split <;> first | omega | rfl
    rw [e]; simp
theorem rprt_is (o : OP) (h1 : 1 ≤ o.k) (h2 : o.k ≤ 18) : wd o.k ++ (rlt o.k).flatMap (fun l => 32 :: o.rf l) = o.prt := by
  obtain ⟨k, a, b, c, n, x, y⟩ := o
  dsimp only at h1 h2
  rcases kinds k h1 h2 with rfl | rfl | rfl | rfl | rfl | rfl | rfl | rfl | rfl | rfl | rfl | rfl | rfl | rfl | rfl | rfl | rfl | rfl <;> simp [OP.prt, OP.rf, rlt, lts, OP.fld, OP.num]
theorem itoa_len21 {n : Int} (h : i64 n) : (Lib.itoa n).length ≤ 21 := Lib.itoa_length_le _ h.1 h.2
theorem rf_len (o : OP) (h : o.Ok) (l : UInt8) : (o.rf l).length ≤ 40 := by
  have ha := itoa_len21 h.a
  have hb := itoa_len21 h.b
  have hc := itoa_len21 h.c
  have hn := itoa_len21 h.n
  unfold OP.rf
  repeat' split
  all_goals (try simp only [List.length_append, List.length_cons, hex16_len])
  all_goals omega
/-- What is printed when j of them have been printed. -/
def OP.rpr (o : OP) (j : Nat) : List UInt8 := wd o.k ++ ((rlt o.k).take j).flatMap fun l => 32 :: o.rf l
theorem rpr_zero (o : OP) : o.rpr 0 = wd o.k := by simp [OP.rpr]
theorem rpr_all (o : OP) (h : o.Ok) (j : Nat) (hj : (rlt o.k).length ≤ j) : o.rpr j = o.prt := by unfold OP.rpr; rw [List.take_of_length_le hj]; exact rprt_is o h.k1 h.k2
theorem rpr_succ (o : OP) (j : Nat) (h : j < (rlt o.k).length) : o.rpr (j + 1) = o.rpr j ++ (32 :: o.rf (rlt o.k)[j]) := by
  unfold OP.rpr
  rw [List.take_add_one, List.getElem?_eq_getElem h, Option.toList_some, List.flatMap_append, List.append_assoc]
  simp
theorem rpr_len (o : OP) (h : o.Ok) (j : Nat) : j ≤ 3 → (o.rpr j).length ≤ 7 + 41 * j := by
  intro hj
  unfold OP.rpr
  have h1 := wd_len' o.k
  have : ∀ (L : List UInt8), (L.flatMap fun l => 32 :: o.rf l).length ≤ 41 * L.length := by
    intro L
    induction L with
    | nil => simp
    | cons a L ih =>
      have := rf_len o h a
      simp only [List.flatMap_cons, List.length_append, List.length_cons]
      omega
  have h2 := this ((rlt o.k).take j)
  have h3 : ((rlt o.k).take j).length ≤ j := by simp; omega
  rw [List.length_append]
  omega

set_option maxHeartbeats 4000000 in
theorem word_any (k : Nat) (h1 : 1 ≤ k) (h2 : k ≤ 18) (w : World) : Calls Tryd.prog 14 #[.int .i64 (k : Int)] w fun e w' => e = .returned (.tuple #[.string ⟨(wd k).toArray⟩, .string ⟨(rlt k).toArray⟩]) ∧ w' = w := by
  rcases kinds k h1 h2 with rfl | rfl | rfl | rfl | rfl | rfl | rfl | rfl | rfl | rfl | rfl | rfl | rfl | rfl | rfl | rfl | rfl | rfl
  all_goals
    go_enter Tryd.func14, Tryd.ntmps14
    go_wp2
    go_ret2
    exact ⟨rfl, rfl⟩

set_option maxHeartbeats 8000000 in
set_option maxRecDepth 20000 in
theorem rprint_any (o : OP) (ho : o.Ok) (w : World) : Calls Tryd.prog 16 #[.agg #[.int .i64 (o.k : Int), .int .i64 o.a, .int .i64 o.b, .int .i64 o.c, .int .i64 o.n, .complex .f64 o.x o.y]] w fun e w' => e = .returned (.string ⟨o.prt.toArray⟩) ∧ Kept w w' := by
  have HO : Hid o.Ok := ho
  have HW : Hid (∀ W, Calls Tryd.prog 14 #[.int .i64 (o.k : Int)] W fun e w' => e = .returned (.tuple #[.string ⟨(wd o.k).toArray⟩, .string ⟨(rlt o.k).toArray⟩]) ∧ w' = W) := fun W => word_any o.k ho.k1 ho.k2 W
  have HX : Hid (∀ j (hj : j < (rlt o.k).length) W, (Instr.index 9 (.string ⟨(rlt o.k).toArray⟩) (.int .i64 (j : Int))).run Tryd.prog W = .ok (.int .u8 (((rlt o.k)[j]'hj).toNat : Int)) W) := fun j hj W => idx_str 9 Tryd.underlying9 (rlt o.k) j hj W
  have hsz := size_mk (rlt o.k)
  obtain ⟨RB, hRB⟩ : ∃ t : ByteArray, t = ⟨(rlt o.k).toArray⟩ := ⟨_, rfl⟩
  obtain ⟨WB, hWB⟩ : ∃ t : ByteArray, t = ⟨(wd o.k).toArray⟩ := ⟨_, rfl⟩
  have HWB : Hid (WB = ⟨(wd o.k).toArray⟩) := hWB
  rw [← hRB] at HX HW hsz
  rw [← hWB] at HW
  clear hRB hWB ho
  go_enter Tryd.func16, Tryd.ntmps16
  go_wp2_with fail
  refine (HW.out _).mono ?_
  rintro e w' ⟨rfl, rfl⟩
  have H0 : Hid (Blk (w.alloc (.cells #[.int .i64 (o.k : Int), .int .i64 o.a, .int .i64 o.b, .int .i64 o.c, .int .i64 o.n, .complex .f64 o.x o.y] 25)) w.heap.size [.int .i64 (o.k : Int), .int .i64 o.a, .int .i64 o.b, .int .i64 o.c, .int .i64 o.n, .complex .f64 o.x o.y] ∧ Kept w (w.alloc (.cells #[.int .i64 (o.k : Int), .int .i64 o.a, .int .i64 o.b, .int .i64 o.c, .int .i64 o.n, .complex .f64 o.x o.y] 25))) := ⟨Blk.new w [.int .i64 (o.k : Int), .int .i64 o.a, .int .i64 o.b, .int .i64 o.c, .int .i64 o.n, .complex .f64 o.x o.y] 25, (Kept.refl w).alloc _ _⟩
  generalize w.alloc (.cells #[.int .i64 (o.k : Int), .int .i64 o.a, .int .i64 o.b, .int .i64 o.c, .int .i64 o.n, .complex .f64 o.x o.y] 25) = W0 at H0 ⊢
  go_wp2
  go_loopg [3, 5] (rlt o.k).length (fun m v i wr => ∃ (j : Nat) (S : ByteArray), v = .string S ∧ i = .int .i64 j ∧ j ≤ (rlt o.k).length ∧ m = (rlt o.k).length - j ∧ S.size ≤ 1000 ∧ Hid (S = ⟨(o.rpr j).toArray⟩ ∧ Blk wr w.heap.size [.int .i64 (o.k : Int), .int .i64 o.a, .int .i64 o.b, .int .i64 o.c, .int .i64 o.n, .complex .f64 o.x o.y] ∧ Kept w wr))
  case atStart =>
    refine ⟨0, WB, rfl, rfl, Nat.zero_le _, rfl, ?_, ?_, H0.out⟩
    · have := wd_len' o.k; rw [HWB.out]; simp [ByteArray.size]; omega
    · rw [rpr_zero]; exact HWB.out
  case round =>
    obtain ⟨j, S, rfl, rfl, hj, rfl, hS, hh⟩ := hrel
    clear H0
    have h3 := rlt_len o.k
    by_cases h : j < (rlt o.k).length
    · have hx := HX.out j h
      have hs := rpr_succ o j h
      have hcs := rlt_cases o.k _ (List.getElem_mem h)
      have hlen := rpr_len o HO.out (j + 1) (by omega)
      have B1 := hh.out.2.1
      have HH : Hid (Blk wr w.heap.size [.int .i64 (o.k : Int), .int .i64 o.a, .int .i64 o.b, .int .i64 o.c, .int .i64 o.n, .complex .f64 o.x o.y] ∧ Kept w wr) := hh.out.2
      generalize (rlt o.k)[j] = l at hx hs hcs
      have HS : Hid (S = ⟨(o.rpr j).toArray⟩) := hh.out.1
      have HL : Hid (o.rpr (j + 1) = o.rpr j ++ (32 :: o.rf l) ∧ (o.rpr (j + 1)).length ≤ 1000) := ⟨hs, by omega⟩
      clear hs hh hlen
      rcases hcs with rfl | rfl | rfl | rfl | rfl | rfl
      · obtain ⟨F, hFF⟩ : ∃ F : ByteArray, F = ⟨(Lib.itoa o.a).toArray⟩ := ⟨_, rfl⟩
        have hF := fun W => dec_any o.a HO.out.a W
        rw [← hFF] at hF
        have hFs : F.size ≤ 21 := by rw [hFF]; simpa [ByteArray.size] using itoa_len21 HO.out.a
        have HN : Hid (S ++ (⟨#[32]⟩ ++ F) = ⟨(o.rpr (j + 1)).toArray⟩ ∧ (S ++ (⟨#[32]⟩ ++ F)).size ≤ 1000) := by
          have e : S ++ (⟨#[32]⟩ ++ F) = ⟨(o.rpr (j + 1)).toArray⟩ := by
            rw [HS.out, hFF, HL.out.1]
            apply ByteArray.ext
            simp [OP.rf]
          refine ⟨e, ?_⟩
          rw [e]
          simpa [ByteArray.size] using HL.out.2
        have c1 := B1.at 1 rfl
        have hx2 : ∀ W, (Instr.index 9 (.string RB) (.int .i64 (j : Int))).run Tryd.prog W = .ok (.int .u8 65) W := hx
        clear hFF HS HL B1 hx
        go_wp2_with fail
        refine (hF _).mono ?_
        rintro e w2 ⟨rfl, K⟩
        have HH2 : Hid (Blk w2 w.heap.size [.int .i64 (o.k : Int), .int .i64 o.a, .int .i64 o.b, .int .i64 o.c, .int .i64 o.n, .complex .f64 o.x o.y] ∧ Kept w w2) := ⟨HH.out.1.kept K, HH.out.2.trans K⟩
        clear K HH hF c1 hx2
        go_wp2
        go_roundg ((rlt o.k).length - (j + 1))
        · exact ⟨j + 1, _, rfl, rfl, by omega, rfl, HN.out.2, HN.out.1, HH2.out⟩
        · omega
      · obtain ⟨F, hFF⟩ : ∃ F : ByteArray, F = ⟨(Lib.itoa o.b).toArray⟩ := ⟨_, rfl⟩
        have hF := fun W => dec_any o.b HO.out.b W
        rw [← hFF] at hF
        have hFs : F.size ≤ 21 := by rw [hFF]; simpa [ByteArray.size] using itoa_len21 HO.out.b
        have HN : Hid (S ++ (⟨#[32]⟩ ++ F) = ⟨(o.rpr (j + 1)).toArray⟩ ∧ (S ++ (⟨#[32]⟩ ++ F)).size ≤ 1000) := by
          have e : S ++ (⟨#[32]⟩ ++ F) = ⟨(o.rpr (j + 1)).toArray⟩ := by
            rw [HS.out, hFF, HL.out.1]
            apply ByteArray.ext
            simp [OP.rf]
          refine ⟨e, ?_⟩
          rw [e]
          simpa [ByteArray.size] using HL.out.2
        have c2 := B1.at 2 rfl
        have hx2 : ∀ W, (Instr.index 9 (.string RB) (.int .i64 (j : Int))).run Tryd.prog W = .ok (.int .u8 66) W := hx
        clear hFF HS HL B1 hx
        go_wp2_with fail
        refine (hF _).mono ?_
        rintro e w2 ⟨rfl, K⟩
        have HH2 : Hid (Blk w2 w.heap.size [.int .i64 (o.k : Int), .int .i64 o.a, .int .i64 o.b, .int .i64 o.c, .int .i64 o.n, .complex .f64 o.x o.y] ∧ Kept w w2) := ⟨HH.out.1.kept K, HH.out.2.trans K⟩
        clear K HH hF c2 hx2
        go_wp2
        go_roundg ((rlt o.k).length - (j + 1))
        · exact ⟨j + 1, _, rfl, rfl, by omega, rfl, HN.out.2, HN.out.1, HH2.out⟩
        · omega
      · obtain ⟨F, hFF⟩ : ∃ F : ByteArray, F = ⟨(Lib.itoa o.b).toArray⟩ := ⟨_, rfl⟩
        have hF := fun W => dec_any o.b HO.out.b W
        rw [← hFF] at hF
        have hFs : F.size ≤ 21 := by rw [hFF]; simpa [ByteArray.size] using itoa_len21 HO.out.b
        have HN : Hid (S ++ (⟨#[32]⟩ ++ F) = ⟨(o.rpr (j + 1)).toArray⟩ ∧ (S ++ (⟨#[32]⟩ ++ F)).size ≤ 1000) := by
          have e : S ++ (⟨#[32]⟩ ++ F) = ⟨(o.rpr (j + 1)).toArray⟩ := by
            rw [HS.out, hFF, HL.out.1]
            apply ByteArray.ext
            simp [OP.rf]
          refine ⟨e, ?_⟩
          rw [e]
          simpa [ByteArray.size] using HL.out.2
        have c2 := B1.at 2 rfl
        have hx2 : ∀ W, (Instr.index 9 (.string RB) (.int .i64 (j : Int))).run Tryd.prog W = .ok (.int .u8 107) W := hx
        clear hFF HS HL B1 hx
        go_wp2_with fail
        refine (hF _).mono ?_
        rintro e w2 ⟨rfl, K⟩
        have HH2 : Hid (Blk w2 w.heap.size [.int .i64 (o.k : Int), .int .i64 o.a, .int .i64 o.b, .int .i64 o.c, .int .i64 o.n, .complex .f64 o.x o.y] ∧ Kept w w2) := ⟨HH.out.1.kept K, HH.out.2.trans K⟩
        clear K HH hF c2 hx2
        go_wp2
        go_roundg ((rlt o.k).length - (j + 1))
        · exact ⟨j + 1, _, rfl, rfl, by omega, rfl, HN.out.2, HN.out.1, HH2.out⟩
        · omega
      · obtain ⟨F, hFF⟩ : ∃ F : ByteArray, F = ⟨(Lib.itoa o.c).toArray⟩ := ⟨_, rfl⟩
        have hF := fun W => dec_any o.c HO.out.c W
        rw [← hFF] at hF
        have hFs : F.size ≤ 21 := by rw [hFF]; simpa [ByteArray.size] using itoa_len21 HO.out.c
        have HN : Hid (S ++ (⟨#[32]⟩ ++ F) = ⟨(o.rpr (j + 1)).toArray⟩ ∧ (S ++ (⟨#[32]⟩ ++ F)).size ≤ 1000) := by
          have e : S ++ (⟨#[32]⟩ ++ F) = ⟨(o.rpr (j + 1)).toArray⟩ := by
            rw [HS.out, hFF, HL.out.1]
            apply ByteArray.ext
            simp [OP.rf]
          refine ⟨e, ?_⟩
          rw [e]
          simpa [ByteArray.size] using HL.out.2
        have c3 := B1.at 3 rfl
        have hx2 : ∀ W, (Instr.index 9 (.string RB) (.int .i64 (j : Int))).run Tryd.prog W = .ok (.int .u8 67) W := hx
        clear hFF HS HL B1 hx
        go_wp2_with fail
        refine (hF _).mono ?_
        rintro e w2 ⟨rfl, K⟩
        have HH2 : Hid (Blk w2 w.heap.size [.int .i64 (o.k : Int), .int .i64 o.a, .int .i64 o.b, .int .i64 o.c, .int .i64 o.n, .complex .f64 o.x o.y] ∧ Kept w w2) := ⟨HH.out.1.kept K, HH.out.2.trans K⟩
        clear K HH hF c3 hx2
        go_wp2
        go_roundg ((rlt o.k).length - (j + 1))
        · exact ⟨j + 1, _, rfl, rfl, by omega, rfl, HN.out.2, HN.out.1, HH2.out⟩
        · omega
      · obtain ⟨F, hFF⟩ : ∃ F : ByteArray, F = ⟨(Lib.itoa o.n).toArray⟩ := ⟨_, rfl⟩
        have hF := fun W => dec_any o.n HO.out.n W
        rw [← hFF] at hF
        have hFs : F.size ≤ 21 := by rw [hFF]; simpa [ByteArray.size] using itoa_len21 HO.out.n
        have HN : Hid (S ++ (⟨#[32]⟩ ++ F) = ⟨(o.rpr (j + 1)).toArray⟩ ∧ (S ++ (⟨#[32]⟩ ++ F)).size ≤ 1000) := by
          have e : S ++ (⟨#[32]⟩ ++ F) = ⟨(o.rpr (j + 1)).toArray⟩ := by
            rw [HS.out, hFF, HL.out.1]
            apply ByteArray.ext
            simp [OP.rf]
          refine ⟨e, ?_⟩
          rw [e]
          simpa [ByteArray.size] using HL.out.2
        have c4 := B1.at 4 rfl
        have hx2 : ∀ W, (Instr.index 9 (.string RB) (.int .i64 (j : Int))).run Tryd.prog W = .ok (.int .u8 78) W := hx
        clear hFF HS HL B1 hx
        go_wp2_with fail
        refine (hF _).mono ?_
        rintro e w2 ⟨rfl, K⟩
        have HH2 : Hid (Blk w2 w.heap.size [.int .i64 (o.k : Int), .int .i64 o.a, .int .i64 o.b, .int .i64 o.c, .int .i64 o.n, .complex .f64 o.x o.y] ∧ Kept w w2) := ⟨HH.out.1.kept K, HH.out.2.trans K⟩
        clear K HH hF c4 hx2
        go_wp2
        go_roundg ((rlt o.k).length - (j + 1))
        · exact ⟨j + 1, _, rfl, rfl, by omega, rfl, HN.out.2, HN.out.1, HH2.out⟩
        · omega
      · obtain ⟨F, hFF⟩ : ∃ F : ByteArray, F = ⟨(hex16 (nbP o.x)).toArray⟩ := ⟨_, rfl⟩
        obtain ⟨G, hGG⟩ : ∃ F : ByteArray, F = ⟨(hex16 (nbP o.y)).toArray⟩ := ⟨_, rfl⟩
        have hF := fun W => hex_any (nbP o.x) (nbP_lt _ HO.out.x) W
        have hG := fun W => hex_any (nbP o.y) (nbP_lt _ HO.out.y) W
        rw [← hFF] at hF
        rw [← hGG] at hG
        have hFs : F.size = 16 := by rw [hFF]; simp [ByteArray.size, hex16_len]
        have hGs : G.size = 16 := by rw [hGG]; simp [ByteArray.size, hex16_len]
        have HN : Hid (S ++ (⟨#[32]⟩ ++ F ++ ⟨#[32]⟩ ++ G) = ⟨(o.rpr (j + 1)).toArray⟩ ∧ (S ++ (⟨#[32]⟩ ++ F ++ ⟨#[32]⟩ ++ G)).size ≤ 1000) := by
          have e : S ++ (⟨#[32]⟩ ++ F ++ ⟨#[32]⟩ ++ G) = ⟨(o.rpr (j + 1)).toArray⟩ := by
            rw [HS.out, hFF, hGG, HL.out.1]
            apply ByteArray.ext
            simp [OP.rf]
          refine ⟨e, ?_⟩
          rw [e]
          simpa [ByteArray.size] using HL.out.2
        have hB := fun W => rbits_any o.x o.y W
        have c5 := B1.at 5 rfl
        have hx2 : ∀ W, (Instr.index 9 (.string RB) (.int .i64 (j : Int))).run Tryd.prog W = .ok (.int .u8 122) W := hx
        generalize nbP o.x = px at hF hB
        generalize nbP o.y = py at hG hB
        clear hFF hGG HS HL B1 hx
        go_wp2_with fail
        refine (hB _).mono ?_
        rintro e w' ⟨rfl, rfl⟩
        clear hB c5 hx2
        go_wp2_with fail
        refine (hF _).mono ?_
        rintro e w2 ⟨rfl, K⟩
        have HH2 : Hid (Blk w2 w.heap.size [.int .i64 (o.k : Int), .int .i64 o.a, .int .i64 o.b, .int .i64 o.c, .int .i64 o.n, .complex .f64 o.x o.y] ∧ Kept w w2) := ⟨HH.out.1.kept K, HH.out.2.trans K⟩
        clear K HH hF
        go_wp2_with fail
        refine (hG _).mono ?_
        rintro e w3 ⟨rfl, K⟩
        have HH3 : Hid (Blk w3 w.heap.size [.int .i64 (o.k : Int), .int .i64 o.a, .int .i64 o.b, .int .i64 o.c, .int .i64 o.n, .complex .f64 o.x o.y] ∧ Kept w w3) := ⟨HH2.out.1.kept K, HH2.out.2.trans K⟩
        clear K HH2 hG
        go_wp2
        go_roundg ((rlt o.k).length - (j + 1))
        · exact ⟨j + 1, _, rfl, rfl, by omega, rfl, HN.out.2, HN.out.1, HH3.out⟩
        · omega
    · have HE : Hid (S = ⟨o.prt.toArray⟩ ∧ Kept w wr) := ⟨by rw [hh.out.1, rpr_all o HO.out j (by omega)], hh.out.2.2⟩
      clear hh
      go_wp2
      go_ret
      refine ⟨?_, HE.out.2⟩
      rw [HE.out.1]
      rfl
end Go.Proofs.YtfknonhkpilbfaaDoor
