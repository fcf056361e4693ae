/-
  sporef.Hex: the sixteen digits of hex.
-/
import Derived.Test.YtfknonhkpilbfaaDoorBits19
import Derived.Laws.ShiftsVarLaws
import Derived.Laws.IdiomStrings
namespace Go.Proofs.YtfknonhkpilbfaaDoor
open Go.RowKit

def digs16 : ByteArray := ⟨#[48, 49, 50, 51, 52, 53, 54, 55, 56, 57, 97, 98, 99, 100, 101, 102]⟩
theorem digs16_at : ∀ d : Fin 16, digs16.data[d.val]? = some (hexD d.val) := by decide +kernel

def hxc (u k j : Nat) : Int := if j < k then ((hexD (u / 16 ^ (15 - j) % 16)).toNat : Int) else 0
def hxr (u k : Nat) : List Value := (List.range 16).map fun j => .int .u8 (hxc u k j)
theorem hxr_at (u k j : Nat) (h : j < 16) : (hxr u k)[j]? = some (.int .u8 (hxc u k j)) := by simp [hxr, h]
theorem hxr_zero (u : Nat) : hxr u 0 = List.replicate 16 (.int .u8 0) := by
  simp [hxr, hxc, List.map_const']
theorem hxr_set (u k : Nat) (h : k < 16) : (hxr u k).set k (.int .u8 ((hexD (u / 16 ^ (15 - k) % 16)).toNat : Int)) = hxr u (k + 1) := by
  apply List.ext_getElem?
  intro j
  rw [List.getElem?_set]
  by_cases hj : j < 16
  · rw [hxr_at u (k + 1) j hj]
    by_cases e : k = j
    · subst e
      rw [if_pos rfl, if_pos (by simpa [hxr] using h)]
      simp [hxc]
    · rw [if_neg e, hxr_at u k j hj]
      unfold hxc
      by_cases h1 : j < k
      · rw [if_pos h1, if_pos (by omega)]
      · rw [if_neg h1, if_neg (by omega)]
  · have e1 : (hxr u (k + 1))[j]? = none := List.getElem?_eq_none (by simp [hxr]; omega)
    have e2 : (hxr u k)[j]? = none := List.getElem?_eq_none (by simp [hxr]; omega)
    rw [e1, if_neg (by omega), e2]

theorem idx_digs (t : TypeId) {P : Program} (ht : P.underlying t = some .string) (k : IntKind) (d : Nat) (hd : d < 16) (w : World) :
    (Instr.index t (.string ⟨#[48, 49, 50, 51, 52, 53, 54, 55, 56, 57, 97, 98, 99, 100, 101, 102]⟩) (.int k (d : Int))).run P w = .ok (.int .u8 ((hexD d).toNat : Int)) w := by
  rw [run_index_string w t _ k _ ht, dif_pos ⟨by omega, by show (d : Int) < ((16 : Nat) : Int); omega⟩]
  have key : ∀ d : Fin 16, (#[48, 49, 50, 51, 52, 53, 54, 55, 56, 57, 97, 98, 99, 100, 101, 102] : Array UInt8)[d.val] = hexD d.val := by decide +kernel
  have e := key ⟨d, hd⟩
  have e2 : ((d : Int)).toNat = d := by omega
  simp only [e2]
  rw [← e]
  rfl
theorem and15 (a : Nat) (h : a < 18446744073709551616) : bits .and .u64 (a : Int) 15 = ((a % 16 : Nat) : Int) := by
  rw [show (15 : Int) = ((15 : Nat) : Int) by rfl, u64_and_nat a 15 h (by decide), show (15 : Nat) = 2 ^ 4 - 1 by rfl, Nat.and_two_pow_sub_one_eq_mod]
theorem pow16 (k : Nat) : (16 : Nat) ^ k = 2 ^ (4 * k) := by rw [show (16 : Nat) = 2 ^ 4 by rfl, ← Nat.pow_mul]
theorem hex16_row (u : Nat) : (hex16 u).map (fun b => Value.int .u8 (b.toNat : Int)) = hxr u 16 := by
  apply List.ext_getElem?
  intro j
  by_cases hj : j < 16
  · rw [hxr_at u 16 j hj, List.getElem?_map, hex16_get u j hj]
    simp [hxc, hj]
  · rw [List.getElem?_eq_none (by simp [hex16]; omega), List.getElem?_eq_none (by simp [hxr]; omega)]

set_option maxHeartbeats 1000000 in
theorem hex_any (u : Nat) (hu : u < 18446744073709551616) (w : World) :
    Calls Tryd.prog 26 #[.int .u64 u] w fun e w' => e = .returned (.string ⟨(hex16 u).toArray⟩) ∧ Kept w w' := by
  go_enter Tryd.func26, Tryd.ntmps26
  go_wp2
  go_loopg [4] 16 (fun m i wr => ∃ k : Nat, i = .int .i64 k ∧ k ≤ 16 ∧ m = 16 - k ∧ Hid (Own wr w.heap.size 69 (hxr u k) ∧ Kept w wr))
  case atStart =>
    refine ⟨0, rfl, by omega, rfl, ?_, ?_⟩
    · rw [hxr_zero]; exact Own.new _ _ _
    · exact (Kept.refl w).alloc _ _
  case round =>
    obtain ⟨k, rfl, hk, rfl, hh⟩ := hrel
    by_cases h : k < 16
    · have hc := hh.out.1.blk.at k (hxr_at u k k h)
      have hf := hh.out.1.blk.fz k
      have hd16 : u / 16 ^ (15 - k) % 16 < 16 := Nat.mod_lt _ (by decide)
      have hb : bits .and .u64 ((u : Int) / 2 ^ (60 - 4 * k)) 15 = ((u / 16 ^ (15 - k) % 16 : Nat) : Int) := by
        have e := and15 (u / 2 ^ (60 - 4 * k)) (Nat.lt_of_le_of_lt (Nat.div_le_self _ _) hu)
        rw [pow16, show 4 * (15 - k) = 60 - 4 * k by omega, ← e]
        congr 1
      have HN : Hid (Own (wr.setCell ⟨w.heap.size, k, none⟩ (.int .u8 ((hexD (u / 16 ^ (15 - k) % 16)).toNat : Int))) w.heap.size 69 (hxr u (k + 1)) ∧ Kept w (wr.setCell ⟨w.heap.size, k, none⟩ (.int .u8 ((hexD (u / 16 ^ (15 - k) % 16)).toNat : Int)))) := by
        refine ⟨?_, hh.out.2.setCell (Nat.le_refl _) _⟩
        rw [← hxr_set u k h]
        exact hh.out.1.set k _
      generalize u / 16 ^ (15 - k) % 16 = d at hb hd16 HN
      have hx := idx_digs 9 Tryd.underlying9 .u64 d hd16
      clear hh hd16
      go_wp2
      go_roundg (16 - (k + 1))
      · exact ⟨k + 1, rfl, by omega, rfl, HN⟩
      · omega
    · obtain rfl : k = 16 := by omega
      have hcv := run_convert_bytes_back (P := Tryd.prog) wr 68 9 5 ⟨w.heap.size, 0, none⟩ 16 (hex16 u) Tryd.underlying68 Tryd.underlying5 Tryd.underlying9 (fun j hj => by
        have hj' : j < 16 := by rw [hex16_len] at hj; exact hj
        have := hh.out.1.blk.at j (hxr_at u 16 j hj')
        rw [show (⟨w.heap.size, 0, none⟩ : Addr).add j = ⟨w.heap.size, j, none⟩ by unfold Addr.add; split <;> simp_all, this]
        have e := hex16_get u j hj'
        rw [List.getElem?_eq_getElem hj, Option.some.injEq] at e
        rw [e, hxc, if_pos hj'])
      rw [hex16_len] at hcv
      go_wp2
      go_ret
      exact ⟨rfl, hh.out.2⟩
end Go.Proofs.YtfknonhkpilbfaaDoor
