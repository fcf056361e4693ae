/-
  sporef19.number and sporef19.hex: whatever the text; of what is printed it is the number.
-/
import Derived.Test.YtfknonhkpilbfaaDoorDec19
import Derived.Test.YtfknonhkpilbfaaDoorHex19
namespace Go.Proofs.YtfknonhkpilbfaaDoor
open Go.RowKit

theorem idx_str (t : TypeId) {P : Program} (ht : P.underlying t = some .string) (s : List UInt8) (k : Nat) (hk : k < s.length) (w : World) :
    (Instr.index t (.string ⟨s.toArray⟩) (.int .i64 (k : Int))).run P w = .ok (.int .u8 ((s[k]'hk).toNat : Int)) w := by
  rw [run_index_string w t _ _ _ ht, dif_pos ⟨by omega, by simp [ByteArray.size]; omega⟩]
  have e2 : ((k : Int)).toNat = k := by omega
  simp only [e2]
  rfl
theorem size_mk (s : List UInt8) : (⟨s.toArray⟩ : ByteArray).size = s.length := by simp [ByteArray.size]
theorem mk_inj {a b : List UInt8} (h : (⟨a.toArray⟩ : ByteArray) = ⟨b.toArray⟩) : a = b := by
  have := congrArg (fun x : ByteArray => x.data.toList) h
  simpa using this
theorem mk_eq (a b : List UInt8) : ((⟨a.toArray⟩ : ByteArray) = ⟨b.toArray⟩) = (a = b) := propext ⟨mk_inj, fun h => by rw [h]⟩

theorem dig_of' {c : UInt8} (h2 : c.toNat ≤ 57) : ∀ e, e < 16 → c = hexD e → e = c.toNat - 48 := fun e he h => by
  by_cases q : e < 10
  · rw [h, hexD_val e q]; omega
  · rw [h, hexD_val' e q he] at h2; omega

/-- What number answers. -/
def NumA (s : List UInt8) (w : World) (e : Ending) (w' : World) : Prop := ∃ (n : Int) (b : Bool), e = .returned (.tuple #[.int .i64 n, .bool b]) ∧ i64 n ∧ (∀ m, i64 m → s = Lib.itoa m → n = m ∧ b = true) ∧ Kept w w'
theorem NumA.no {s : List UInt8} {w : World} (h : ∀ m, i64 m → s ≠ Lib.itoa m) : NumA s w (.returned (.tuple #[.int .i64 0, .bool false])) w := ⟨0, false, rfl, i64_zero, fun m hm e => absurd e (h m hm), Kept.refl _⟩

set_option maxRecDepth 20000 in
set_option maxHeartbeats 8000000 in
theorem number_neg (s : List UInt8) (hl : s.length ≤ 1000) (h0 : 0 < s.length) (hs : s[0].toNat = 45) (w : World) :
    Calls Tryd.prog 24 #[.string ⟨s.toArray⟩] w fun e w' => NumA s w e w' := by
  have hx0 : ∀ W, (Instr.index 9 (.string ⟨s.toArray⟩) (.int .i64 0)).run Tryd.prog W = .ok (.int .u8 45) W := fun W => by
    have := idx_str 9 Tryd.underlying9 s 0 h0 W
    rw [hs] at this
    exact this
  have htr : ∀ m, s = Lib.itoa m → 1 = sgn m := fun m e => by
    obtain ⟨c, r, e1, e2⟩ := itoa_head m
    have : s[0] = c := by
      have e3 : s = c :: r := e.trans e1
      subst e3
      rfl
    rw [this] at hs
    exact (e2.1 hs).symm
  have hsz := size_mk s
  have HX : Hid (∀ k (hk : k < s.length) W, (Instr.index 9 (.string ⟨s.toArray⟩) (.int .i64 (k : Int))).run Tryd.prog W = .ok (.int .u8 ((s[k]'hk).toNat : Int)) W) := fun k hk W => idx_str 9 Tryd.underlying9 s k hk W
  obtain ⟨t, ht⟩ : ∃ t : ByteArray, t = ⟨s.toArray⟩ := ⟨_, rfl⟩
  rw [← ht] at hx0 hsz HX ⊢
  have HT : Hid (t = ⟨s.toArray⟩) := ht
  clear ht hs
  go_enter Tryd.func24, Tryd.ntmps24
  go_wp2
  go_loopg [4, 6] (s.length - 1) (fun m n i wr => ∃ (k : Nat) (a : Int), n = .int .i64 a ∧ i = .int .i64 k ∧ 1 ≤ k ∧ k ≤ s.length ∧ m = s.length - k ∧ a ≤ 0 ∧ -9223372036854775808 ≤ a ∧ Hid (Trk s 1 k a ∧ wr = w))
  case atStart => exact ⟨1, 0, rfl, rfl, by omega, by omega, rfl, by omega, by omega, Trk.start s 1 htr, rfl⟩
  case round =>
    obtain ⟨k, a, rfl, rfl, hk1, hk, rfl, ha0, ha1, hh⟩ := hrel
    obtain ⟨htk, rfl⟩ := hh.out
    clear hh
    by_cases h : k < s.length
    · have hx := HX.out k h
      have HS : Hid (∀ m, i64 m → s = Lib.itoa m → ∃ d : Nat, d < 10 ∧ (s[k]).toNat = 48 + d ∧ k ≤ 1 + 18 ∧ 10 * a - (d : Int) ≤ 0 ∧ -9223372036854775808 ≤ 10 * a - (d : Int) ∧ ∃ v : Nat, Lib.decFrom 0 ((Lib.decDigits m.natAbs).take (k + 1 - 1)) = some v ∧ 10 * a - (d : Int) = -(v : Int)) := fun m hm e => htk.step hk1 h m hm e
      have HG : Hid (∀ m, s = Lib.itoa m → 1 = sgn m) := htr
      generalize s[k] = c at hx HS
      clear htk htr
      by_cases hd : 48 ≤ c.toNat ∧ c.toNat ≤ 57
      · obtain ⟨hd1, hd2⟩ := hd
        by_cases hk19 : k ≤ 19
        · obtain ⟨N, hN⟩ : ∃ N, N = wrap64 (wrap64 (10 * a) - ((c.toNat : Int) - 48)) := ⟨_, rfl⟩
          have hN1 : -9223372036854775808 ≤ N := by rw [hN]; unfold wrap64; omega
          have HN : Hid (∀ d : Nat, d < 10 → c.toNat = 48 + d → 10 * a - (d : Int) ≤ 0 → -9223372036854775808 ≤ 10 * a - (d : Int) → N = 10 * a - (d : Int)) := fun d h1 h2 h3 h4 => by rw [hN]; unfold wrap64; omega
          have hN' := hN.symm
          clear hN
          by_cases hp : 0 < N
          · have HE : Hid (∀ m, i64 m → s ≠ Lib.itoa m) := fun m hm e => by
              obtain ⟨d, h1, h2, _, h3, h4, _⟩ := HS.out m hm e
              have := HN.out d h1 h2 h3 h4
              omega
            clear HS HN
            go_wp2
            go_ret2
            exact NumA.no HE.out
          · have hp' : N ≤ 0 := by omega
            have HE : Hid (Trk s 1 (k + 1) N) := fun m hm e => by
              obtain ⟨d, h1, h2, _, h3, h4, v, h5, h6⟩ := HS.out m hm e
              refine ⟨HG.out m e, v, h5, ?_⟩
              rw [HN.out d h1 h2 h3 h4]
              exact h6
            clear HS HN hp
            go_wp2
            go_roundg (s.length - (k + 1))
            · refine ⟨k + 1, N, ?_, rfl, by omega, by omega, rfl, hp', hN1, HE.out, rfl⟩
              rw [hN']
            · omega
        · have HE : Hid (∀ m, i64 m → s ≠ Lib.itoa m) := fun m hm e => by
            obtain ⟨d, h1, h2, h3, _⟩ := HS.out m hm e
            omega
          clear HS
          go_wp2
          go_ret2
          exact NumA.no HE.out
      · have HE : Hid (∀ m, i64 m → s ≠ Lib.itoa m) := fun m hm e => by
          obtain ⟨d, h1, h2, h3, _⟩ := HS.out m hm e
          omega
        clear HS
        go_wp2
        all_goals go_ret2
        all_goals exact NumA.no HE.out
    · obtain rfl : k = s.length := by omega
      have HE : Hid (∀ m, i64 m → s = Lib.itoa m → a = m) := fun m hm e => by
        obtain ⟨h1, h2⟩ := htk.stop m hm e
        unfold sgn at h1
        split at h1 <;> omega
      have hD := fun W => dec_any a ⟨by omega, by omega⟩ W
      obtain ⟨D, hDD⟩ : ∃ D : ByteArray, D = ⟨(Lib.itoa a).toArray⟩ := ⟨_, rfl⟩
      rw [← hDD] at hD
      have HDD : Hid (D = ⟨(Lib.itoa a).toArray⟩) := hDD
      clear hDD
      have HI : Hid (i64 a) := ⟨by omega, by omega⟩
      clear htk htr
      go_wp2_with fail
      refine (hD _).mono ?_
      rintro e w2 ⟨rfl, K⟩
      have HK : Hid (Kept wr w2) := K
      clear K hD
      go_wp2
      go_ret2
      refine ⟨a, _, rfl, HI.out, fun m hm e => ⟨HE.out m hm e, ?_⟩, HK.out⟩
      rw [HDD.out, HT.out, HE.out m hm e, ← e]
      simp

set_option maxRecDepth 20000 in
set_option maxHeartbeats 8000000 in
theorem number_pos (s : List UInt8) (hl : s.length ≤ 1000) (h0 : 0 < s.length) (hs : s[0].toNat ≠ 45) (w : World) :
    Calls Tryd.prog 24 #[.string ⟨s.toArray⟩] w fun e w' => NumA s w e w' := by
  obtain ⟨z, hz⟩ : ∃ z, z = s[0].toNat := ⟨_, rfl⟩
  rw [← hz] at hs
  have hx0 : ∀ W, (Instr.index 9 (.string ⟨s.toArray⟩) (.int .i64 0)).run Tryd.prog W = .ok (.int .u8 (z : Int)) W := fun W => by
    have := idx_str 9 Tryd.underlying9 s 0 h0 W
    rw [← hz] at this
    exact this
  have htr : ∀ m, s = Lib.itoa m → 0 = sgn m := fun m e => by
    obtain ⟨c, r, e1, e2⟩ := itoa_head m
    have : s[0] = c := by
      have e3 : s = c :: r := e.trans e1
      subst e3
      rfl
    rw [this] at hz
    rw [hz] at hs
    unfold sgn at e2 ⊢
    split
    · rename_i q
      rw [if_pos q] at e2
      exact absurd (e2.2 rfl) hs
    · rfl
  have hz45 : ((z : Int) == 45) = false := by simp; omega
  clear hz
  have hsz := size_mk s
  have HX : Hid (∀ k (hk : k < s.length) W, (Instr.index 9 (.string ⟨s.toArray⟩) (.int .i64 (k : Int))).run Tryd.prog W = .ok (.int .u8 ((s[k]'hk).toNat : Int)) W) := fun k hk W => idx_str 9 Tryd.underlying9 s k hk W
  obtain ⟨t, ht⟩ : ∃ t : ByteArray, t = ⟨s.toArray⟩ := ⟨_, rfl⟩
  rw [← ht] at hx0 hsz HX ⊢
  have HT : Hid (t = ⟨s.toArray⟩) := ht
  clear ht 
  go_enter Tryd.func24, Tryd.ntmps24
  go_wp2
  go_loopg [4, 6] (s.length - 0) (fun m n i wr => ∃ (k : Nat) (a : Int), n = .int .i64 a ∧ i = .int .i64 k ∧ 0 ≤ k ∧ k ≤ s.length ∧ m = s.length - k ∧ a ≤ 0 ∧ -9223372036854775808 ≤ a ∧ Hid (Trk s 0 k a ∧ wr = w))
  case atStart => exact ⟨0, 0, rfl, rfl, by omega, by omega, rfl, by omega, by omega, Trk.start s 0 htr, rfl⟩
  case round =>
    obtain ⟨k, a, rfl, rfl, hk1, hk, rfl, ha0, ha1, hh⟩ := hrel
    obtain ⟨htk, rfl⟩ := hh.out
    clear hh
    by_cases h : k < s.length
    · have hx := HX.out k h
      have HS : Hid (∀ m, i64 m → s = Lib.itoa m → ∃ d : Nat, d < 10 ∧ (s[k]).toNat = 48 + d ∧ k ≤ 0 + 18 ∧ 10 * a - (d : Int) ≤ 0 ∧ -9223372036854775808 ≤ 10 * a - (d : Int) ∧ ∃ v : Nat, Lib.decFrom 0 ((Lib.decDigits m.natAbs).take (k + 1 - 0)) = some v ∧ 10 * a - (d : Int) = -(v : Int)) := fun m hm e => htk.step (Nat.zero_le _) h m hm e
      have HG : Hid (∀ m, s = Lib.itoa m → 0 = sgn m) := htr
      generalize s[k] = c at hx HS
      clear htk htr
      by_cases hd : 48 ≤ c.toNat ∧ c.toNat ≤ 57
      · obtain ⟨hd1, hd2⟩ := hd
        by_cases hk19 : k ≤ 18
        · obtain ⟨N, hN⟩ : ∃ N, N = wrap64 (wrap64 (10 * a) - ((c.toNat : Int) - 48)) := ⟨_, rfl⟩
          have hN1 : -9223372036854775808 ≤ N := by rw [hN]; unfold wrap64; omega
          have HN : Hid (∀ d : Nat, d < 10 → c.toNat = 48 + d → 10 * a - (d : Int) ≤ 0 → -9223372036854775808 ≤ 10 * a - (d : Int) → N = 10 * a - (d : Int)) := fun d h1 h2 h3 h4 => by rw [hN]; unfold wrap64; omega
          have hN' := hN.symm
          clear hN
          by_cases hp : 0 < N
          · have HE : Hid (∀ m, i64 m → s ≠ Lib.itoa m) := fun m hm e => by
              obtain ⟨d, h1, h2, _, h3, h4, _⟩ := HS.out m hm e
              have := HN.out d h1 h2 h3 h4
              omega
            clear HS HN
            go_wp2
            go_ret2
            exact NumA.no HE.out
          · have hp' : N ≤ 0 := by omega
            have HE : Hid (Trk s 0 (k + 1) N) := fun m hm e => by
              obtain ⟨d, h1, h2, _, h3, h4, v, h5, h6⟩ := HS.out m hm e
              refine ⟨HG.out m e, v, h5, ?_⟩
              rw [HN.out d h1 h2 h3 h4]
              exact h6
            clear HS HN hp
            go_wp2
            go_roundg (s.length - (k + 1))
            · refine ⟨k + 1, N, ?_, rfl, by omega, by omega, rfl, hp', hN1, HE.out, rfl⟩
              rw [hN']
            · omega
        · have HE : Hid (∀ m, i64 m → s ≠ Lib.itoa m) := fun m hm e => by
            obtain ⟨d, h1, h2, h3, _⟩ := HS.out m hm e
            omega
          clear HS
          go_wp2
          go_ret2
          exact NumA.no HE.out
      · have HE : Hid (∀ m, i64 m → s ≠ Lib.itoa m) := fun m hm e => by
          obtain ⟨d, h1, h2, h3, _⟩ := HS.out m hm e
          omega
        clear HS
        go_wp2
        all_goals go_ret2
        all_goals exact NumA.no HE.out
    · obtain rfl : k = s.length := by omega
      have HE : Hid (∀ m, i64 m → s = Lib.itoa m → -a = m ∧ a ≠ -9223372036854775808) := fun m hm e => by
        obtain ⟨h1, h2⟩ := htk.stop m hm e
        unfold sgn at h1
        unfold i64 at hm
        split at h1 <;> omega
      clear htk htr
      by_cases hmin : a = -9223372036854775808
      · subst hmin
        have hw : wrap64 9223372036854775808 = -9223372036854775808 := by decide +kernel
        have HE2 : Hid (∀ m, i64 m → s ≠ Lib.itoa m) := fun m hm e => (HE.out m hm e).2 rfl
        clear HE
        go_wp2
        go_ret2
        exact NumA.no HE2.out
      · have hw : wrap64 (-a) = -a := by unfold wrap64; omega
        have hD := fun W => dec_any (-a) ⟨by omega, by omega⟩ W
        obtain ⟨D, hDD⟩ : ∃ D : ByteArray, D = ⟨(Lib.itoa (-a)).toArray⟩ := ⟨_, rfl⟩
        rw [← hDD] at hD
        have HDD : Hid (D = ⟨(Lib.itoa (-a)).toArray⟩) := hDD
        clear hDD
        have HI : Hid (i64 (-a)) := ⟨by omega, by omega⟩
        have HZ : Hid (∀ m, i64 m → s = Lib.itoa m → -a = m) := fun m hm e => (HE.out m hm e).1
        clear HE
        by_cases hz : a = 0
        · subst hz
          go_wp2_with fail
          refine (hD _).mono ?_
          rintro e w2 ⟨rfl, K⟩
          have HK : Hid (Kept wr w2) := K
          clear K hD
          go_wp2
          go_ret2
          refine ⟨-0, _, rfl, HI.out, fun m hm e => ⟨HZ.out m hm e, ?_⟩, HK.out⟩
          rw [HDD.out, HT.out, HZ.out m hm e, ← e]
          simp
        · have hne : (a == -a) = false := by simp; omega
          go_wp2_with fail
          refine (hD _).mono ?_
          rintro e w2 ⟨rfl, K⟩
          have HK : Hid (Kept wr w2) := K
          clear K hD
          go_wp2
          go_ret2
          refine ⟨-a, _, rfl, HI.out, fun m hm e => ⟨HZ.out m hm e, ?_⟩, HK.out⟩
          rw [HDD.out, HT.out, HZ.out m hm e, ← e]
          simp

set_option maxRecDepth 20000 in
set_option maxHeartbeats 4000000 in
theorem number_nil (w : World) : Calls Tryd.prog 24 #[.string ⟨#[]⟩] w fun e w' => NumA [] w e w' := by
  have hD := fun W => dec_any 0 i64_zero W
  obtain ⟨D, hDD⟩ : ∃ D : ByteArray, D = ⟨(Lib.itoa 0).toArray⟩ := ⟨_, rfl⟩
  rw [← hDD] at hD
  clear hDD
  go_enter Tryd.func24, Tryd.ntmps24
  go_wp2
  go_loopg [4, 6] 0 (fun m n i wr => n = .int .i64 0 ∧ i = .int .i64 0 ∧ m = 0 ∧ Hid (wr = w))
  case atStart => exact ⟨rfl, rfl, rfl, rfl⟩
  case round =>
    obtain ⟨rfl, rfl, rfl, hh⟩ := hrel
    obtain rfl := hh.out
    clear hh
    go_wp2_with fail
    refine (hD _).mono ?_
    rintro e w2 ⟨rfl, K⟩
    have HK : Hid (Kept wr w2) := K
    clear K hD
    go_wp2
    go_ret2
    exact ⟨0, _, rfl, i64_zero, fun m hm e => absurd e.symm (itoa_ne m), HK.out⟩

theorem number_any (s : List UInt8) (hl : s.length ≤ 1000) (w : World) : Calls Tryd.prog 24 #[.string ⟨s.toArray⟩] w fun e w' => NumA s w e w' := by
  by_cases h0 : 0 < s.length
  · by_cases hs : s[0].toNat = 45
    · exact number_neg s hl h0 hs w
    · exact number_pos s hl h0 hs w
  · obtain rfl : s = [] := List.eq_nil_of_length_eq_zero (by omega)
    exact number_nil w

/-- What hex answers. -/
def HexA (s : List UInt8) (w : World) (e : Ending) (w' : World) : Prop := ∃ (u : Nat) (b : Bool), e = .returned (.tuple #[.int .u64 (u : Int), .bool b]) ∧ u < 18446744073709551616 ∧ (∀ v, v < 18446744073709551616 → s = hex16 v → u = v ∧ b = true) ∧ Kept w w'

theorem or16 (a d : Nat) (ha : a < 1152921504606846976) (hd : d < 16) : bits .or .u64 (IntKind.u64.wrap ((a : Int) * 16)) (d : Int) = ((a * 16 + d : Nat) : Int) := by
  have e : IntKind.u64.wrap ((a : Int) * 16) = ((2 ^ 4 * a : Nat) : Int) := by rw [IntKind.wrap_u64]; omega
  rw [e, u64_or_nat _ _ (by omega) (by omega), ← Nat.two_pow_add_eq_or_of_lt (i := 4) hd a]
  omega

set_option maxRecDepth 20000 in
set_option maxHeartbeats 8000000 in
theorem rhex_any (s : List UInt8) (hl : s.length ≤ 1000) (w : World) : Calls Tryd.prog 22 #[.string ⟨s.toArray⟩] w fun e w' => HexA s w e w' := by
  have hsz := size_mk s
  have HX : Hid (∀ k (hk : k < s.length) W, (Instr.index 9 (.string ⟨s.toArray⟩) (.int .i64 (k : Int))).run Tryd.prog W = .ok (.int .u8 ((s[k]'hk).toNat : Int)) W) := fun k hk W => idx_str 9 Tryd.underlying9 s k hk W
  obtain ⟨t, ht⟩ : ∃ t : ByteArray, t = ⟨s.toArray⟩ := ⟨_, rfl⟩
  rw [← ht] at hsz HX ⊢
  have HT : Hid (t = ⟨s.toArray⟩) := ht
  clear ht
  go_enter Tryd.func22, Tryd.ntmps22
  go_wp2
  go_loopg [4, 5] s.length (fun m u i wr => ∃ (k : Nat) (a : Int), u = .int .u64 a ∧ i = .int .i64 k ∧ k ≤ s.length ∧ m = s.length - k ∧ 0 ≤ a ∧ a < 18446744073709551616 ∧ Hid (TrkH s k a.toNat ∧ wr = w))
  case atStart => exact ⟨0, 0, rfl, rfl, by omega, rfl, by omega, by omega, TrkH.start s, rfl⟩
  case round =>
    obtain ⟨k, a, rfl, rfl, hk, rfl, ha0, ha1, hh⟩ := hrel
    obtain ⟨htk, rfl⟩ := hh.out
    clear hh
    by_cases h : k < s.length
    · have hx := HX.out k h
      have HS : Hid (∀ v, v < 18446744073709551616 → s = hex16 v → ∃ d : Nat, d < 16 ∧ s[k] = hexD d ∧ k < 16 ∧ a.toNat < 1152921504606846976 ∧ a.toNat * 16 + d = hxp v (k + 1)) := fun v hv e => htk.step h v hv e
      generalize s[k] = c at hx HS
      have hc256 : c.toNat < 256 := c.toNat_lt
      clear htk
      by_cases hd : 48 ≤ c.toNat ∧ c.toNat ≤ 57
      · obtain ⟨hd1, hd2⟩ := hd
        obtain ⟨d, hdd⟩ : ∃ d : Nat, c.toNat = 48 + d := ⟨c.toNat - 48, by omega⟩
        have hN1 := bits_lo_u64 .or (IntKind.u64.wrap (a * 16)) ((c.toNat : Int) - 48)
        have hN2 := bits_hi_u64 .or (IntKind.u64.wrap (a * 16)) ((c.toNat : Int) - 48)
        obtain ⟨N, hN⟩ : ∃ N, N = bits .or .u64 (IntKind.u64.wrap (a * 16)) ((c.toNat : Int) - 48) := ⟨_, rfl⟩
        rw [← hN] at hN1 hN2
        have HE : Hid (TrkH s (k + 1) N.toNat) := fun v hv e => by
          obtain ⟨q, h1, h2, h3, h4, h5⟩ := HS.out v hv e
          have hq : q = d := by
            have := dig_of' hd2 q h1 h2
            omega
          subst hq
          have e1 := or16 a.toNat q h4 h1
          have e2 : ((a.toNat : Nat) : Int) = a := by omega
          have e3 : (c.toNat : Int) - 48 = (q : Int) := by omega
          rw [e2] at e1
          rw [hN, e3, e1]
          omega
        have hN' := hN.symm
        clear HS hN hdd
        go_wp2
        go_roundg (s.length - (k + 1))
        · refine ⟨k + 1, N, ?_, rfl, by omega, rfl, hN1, by omega, HE.out, rfl⟩
          rfl
        · omega
      · by_cases hC : 97 ≤ c.toNat ∧ c.toNat ≤ 102
        · obtain ⟨hd1, hd2⟩ := hC
          obtain ⟨d, hdd⟩ : ∃ d : Nat, c.toNat = 87 + d := ⟨c.toNat - 87, by omega⟩
          have hN1 := bits_lo_u64 .or (IntKind.u64.wrap (a * 16)) ((c.toNat : Int) - 97 + 10)
          have hN2 := bits_hi_u64 .or (IntKind.u64.wrap (a * 16)) ((c.toNat : Int) - 97 + 10)
          obtain ⟨N, hN⟩ : ∃ N, N = bits .or .u64 (IntKind.u64.wrap (a * 16)) ((c.toNat : Int) - 97 + 10) := ⟨_, rfl⟩
          rw [← hN] at hN1 hN2
          have HE : Hid (TrkH s (k + 1) N.toNat) := fun v hv e => by
            obtain ⟨q, h1, h2, h3, h4, h5⟩ := HS.out v hv e
            have hq : q = d := by
              by_cases q10 : q < 10
              · rw [h2, hexD_val q q10] at hd1; omega
              · have e9 := hexD_val' q q10 h1
                rw [← h2] at e9
                omega
            subst hq
            have e1 := or16 a.toNat q h4 h1
            have e2 : ((a.toNat : Nat) : Int) = a := by omega
            have e3 : (c.toNat : Int) - 97 + 10 = (q : Int) := by omega
            rw [e2] at e1
            rw [hN, e3, e1]
            omega
          have hN' := hN.symm
          have hd3 : 57 < c.toNat := by omega
          clear HS hN hdd hd
          go_wp2
          go_roundg (s.length - (k + 1))
          · refine ⟨k + 1, N, ?_, rfl, by omega, rfl, hN1, by omega, HE.out, rfl⟩
            rfl
          · omega
        · have HE : Hid (TrkH s (k + 1) a.toNat) := fun v hv e => by
            obtain ⟨q, h1, h2, h3, h4, h5⟩ := HS.out v hv e
            have := hexD_byte q h1
            rw [← h2] at this
            omega
          clear HS
          by_cases h48 : c.toNat < 48
          · clear hd hC
            go_wp2
            go_roundg (s.length - (k + 1))
            · exact ⟨k + 1, a, rfl, rfl, by omega, rfl, ha0, ha1, HE.out, rfl⟩
            · omega
          · have h57 : 57 < c.toNat := by omega
            by_cases h97 : c.toNat < 97
            · clear hd hC
              go_wp2
              go_roundg (s.length - (k + 1))
              · exact ⟨k + 1, a, rfl, rfl, by omega, rfl, ha0, ha1, HE.out, rfl⟩
              · omega
            · have h102 : 102 < c.toNat := by omega
              clear hd hC
              go_wp2
              go_roundg (s.length - (k + 1))
              · exact ⟨k + 1, a, rfl, rfl, by omega, rfl, ha0, ha1, HE.out, rfl⟩
              · omega
    · obtain rfl : k = s.length := by omega
      obtain ⟨u, rfl⟩ : ∃ u : Nat, a = (u : Int) := ⟨a.toNat, by omega⟩
      have hu : u < 18446744073709551616 := by omega
      have HE : Hid (∀ v, v < 18446744073709551616 → s = hex16 v → u = v) := fun v hv e => htk.stop v hv e
      have hD := fun W => hex_any u hu W
      obtain ⟨D, hDD⟩ : ∃ D : ByteArray, D = ⟨(hex16 u).toArray⟩ := ⟨_, rfl⟩
      rw [← hDD] at hD
      have HDD : Hid (D = ⟨(hex16 u).toArray⟩) := hDD
      clear hDD htk
      go_wp2_with fail
      refine (hD _).mono ?_
      rintro e w2 ⟨rfl, K⟩
      have HK : Hid (Kept wr w2) := K
      clear K hD
      go_wp2
      go_ret2
      refine ⟨u, _, rfl, hu, fun v hv e => ⟨HE.out v hv e, ?_⟩, HK.out⟩
      rw [HDD.out, HT.out, HE.out v hv e, ← e]
      simp
end Go.Proofs.YtfknonhkpilbfaaDoor
