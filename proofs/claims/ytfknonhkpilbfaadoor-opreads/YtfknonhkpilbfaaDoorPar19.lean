/-
  strconv.ParseUint at base 16 of 64 bits: whatever the text; of sixteen digits of hex it is their number.
-/
import Derived.Test.YtfknonhkpilbfaaDoorHex19
import Derived.Test.YtfknonhkpilbfaaDoorVs19
import Derived.Lib.ConvBytes
import Derived.Lib.AtoiAllMem
import Derived.Lib.Hide
import Derived.Laws.Strings3
import Derived.Laws.Closers25
import Derived.Laws.Closers25b
namespace Go.Proofs.YtfknonhkpilbfaaDoor
open Go.RowKit

theorem or32_hex : ∀ d : Fin 16, ¬ d.val < 10 → bits .or .u8 ((hexD d.val).toNat : Int) 32 = ((hexD d.val).toNat : Int) := by decide +kernel

/-- What is read behind k bytes: the number so far; a Go int of its own. -/
structure At (bs : List UInt8) (k : Nat) (a : Int) (acc : Nat) : Prop where
  eq : a = (acc : Int)
  lt : acc < 18446744073709551616
  trk : TrkH bs k acc

theorem At.next {bs : List UInt8} {k acc : Nat} {a : Int} (h : At bs k a acc) (hk : k < bs.length) (d : Nat) (hd : d < 16) (hc : ∀ e, e < 16 → bs[k] = hexD e → e = d) (hn : acc < 1152921504606846976) : At bs (k + 1) (a * 16 + (d : Int)) (acc * 16 + d) := by
  refine ⟨?_, by omega, fun v hv e => ?_⟩
  · rw [h.eq]; omega
  · obtain ⟨q, hq, hb, _, _, hs⟩ := h.trk.step hk v hv e
    rw [hc q hq hb] at hs
    exact hs
theorem At.big {bs : List UInt8} {k acc : Nat} {a : Int} (h : At bs k a acc) (hk : k < bs.length) (hn : 1152921504606846976 ≤ acc) (r : Nat) : ∀ v, v < 18446744073709551616 → bs = hex16 v → r = v := fun v hv e => by
  obtain ⟨q, hq, hb, _, hl, hs⟩ := h.trk.step hk v hv e
  omega
theorem At.odd {bs : List UInt8} {k acc : Nat} {a : Int} (h : At bs k a acc) (hk : k < bs.length) (hn : ∀ e, e < 16 → bs[k] ≠ hexD e) (r : Nat) : ∀ v, v < 18446744073709551616 → bs = hex16 v → r = v := fun v hv e => by
  obtain ⟨q, hq, hb, _, hl, hs⟩ := h.trk.step hk v hv e
  exact absurd hb (hn q hq)

theorem dig_of {c : UInt8} (h2 : c.toNat ≤ 57) : ∀ e, e < 16 → c = hexD e → e = c.toNat - 48 := fun e he h => by
  by_cases q : e < 10
  · rw [h, hexD_val e q]; omega
  · rw [h, hexD_val' e q he] at h2; omega
theorem let_of {c : UInt8} (h : ¬ (48 ≤ c.toNat ∧ c.toNat ≤ 57)) {L : Int} (hL : bits .or .u8 (c.toNat : Int) 32 = L) : ∀ e, e < 16 → c = hexD e → (e : Int) = L - 87 ∧ 97 ≤ L ∧ L ≤ 102 := fun e he hc => by
  by_cases q : e < 10
  · rw [hc, hexD_val e q] at h; omega
  · have h1 := or32_hex ⟨e, he⟩ q
    rw [hc, h1, hexD_val' e q he] at hL
    omega

set_option maxHeartbeats 32000000 in
set_option maxRecDepth 100000 in
theorem parse16_some (s : List UInt8) (hne : s ≠ []) (hmax : s.length ≤ 1000) (w : World) :
    Calls Tryd.prog 44 #[.string ⟨s.toArray⟩, .int .i64 16, .int .i64 64] w fun e w' => ∃ (r : Nat) (x : Value), e = .returned (.tuple #[.int .u64 (r : Int), x]) ∧ r < 18446744073709551616 ∧ (∀ v, v < 18446744073709551616 → s = hex16 v → r = v) ∧ (x = .nilIface ∨ x = .iface 74 (.int .i64 1) ∨ x = .iface 74 (.int .i64 2)) ∧ Kept w w' := by
  obtain ⟨t, ht⟩ : ∃ t : ByteArray, t = ⟨s.toArray⟩ := ⟨_, rfl⟩
  rw [← ht]
  have hts : t.data.toList = s := by rw [ht]
  have htn : t.size = s.length := by rw [ht]; simp [ByteArray.size]
  have hpos : 0 < s.length := List.length_pos_iff.2 hne
  have hemp : t.toList.isEmpty = false := by
    rw [← decide_eq_emptyBytes]
    exact decide_eq_false (fun h => by rw [h] at htn; have : ByteArray.empty.size = 0 := rfl; omega)
  have hcv := Lib.run_convert_string_bytes (P := Tryd.prog) w 9 68 5 t (u := .string) Tryd.underlying9 Tryd.underlying68 Tryd.underlying5
  have hB : ∀ j, j < t.size → (Lib.bytesWorld w 5 t).cell? ⟨w.heap.size, j, none⟩ = some (.int .u8 (t.data.toList.getD j 0).toNat) := fun j hj => Lib.bytesWorld_cell w 5 t j hj
  have HK : Hid (Kept w (Lib.bytesWorld w 5 t)) := kept_bytes _ _ _
  obtain ⟨W1, hW1⟩ : ∃ W1, W1 = Lib.bytesWorld w 5 t := ⟨_, rfl⟩
  rw [← hW1] at hcv hB HK
  clear hW1
  rw [hts] at hB
  clear hts ht
  have hmv : IntKind.u64.wrap (IntKind.u64.wrap 18446744073709551616 - 1) = 18446744073709551615 := by
    rw [IntKind.wrap_u64, IntKind.wrap_u64]
    decide
  go_enter Tryd.func44, Tryd.ntmps44
  go_wp2
  go_loop [12, 13, 101] (fun vu vn vi => ∃ (k acc : Nat) (a : Int), vu = .bool false ∧ vn = .int .u64 a ∧ vi = .int .i64 k ∧ k ≤ t.size ∧ Hid (At s k a acc))
    (fun _ _ vi => t.size - (intOf vi).toNat)
  case atStart => exact ⟨0, 0, 0, rfl, rfl, rfl, by omega, rfl, by omega, TrkH.start s⟩
  case round =>
    obtain ⟨k, acc, a, rfl, rfl, rfl, hk, hh⟩ := hrel
    have a0 : 0 ≤ a := by have := hh.out.eq; omega
    have a1 : a < 18446744073709551616 := by have := hh.out.eq; have := hh.out.lt; omega
    by_cases hkn : k < t.size
    · have hks : k < s.length := by omega
      have hc := hB k hkn
      have hget : s.getD k 0 = s[k]'hks := by simp [List.getD, List.getElem?_eq_getElem hks]
      rw [hget] at hc
      obtain ⟨c, hcc⟩ : ∃ c, c = s[k]'hks := ⟨_, rfl⟩
      rw [← hcc] at hc
      have hc256 : c.toNat < 256 := c.toNat_lt
      clear hB hget
      by_cases hdig : 48 ≤ c.toNat ∧ c.toNat ≤ 57
      · obtain ⟨hd0, hd1⟩ := hdig
        by_cases hcut : 1152921504606846976 ≤ acc
        · have HE : Hid (∀ r v : Nat, v < 18446744073709551616 → s = hex16 v → r = v) := fun r => hh.out.big hks hcut r
          have icut : 1152921504606846976 ≤ a := by have := hh.out.eq; omega
          clear hcut hh hcc
          go_wp2
          go_ret2
          exact ⟨18446744073709551615, _, rfl, by omega, HE.out _, .inr (.inl rfl), HK.out⟩
        · have HN : Hid (At s (k + 1) (a * 16 + ((c.toNat - 48 : Nat) : Int)) (acc * 16 + (c.toNat - 48))) := hh.out.next hks (c.toNat - 48) (by omega) (fun e he q => dig_of hd1 e he (by rw [hcc]; exact q)) (by omega)
          have icut : a < 1152921504606846976 := by have := hh.out.eq; omega
          have ee : ((c.toNat - 48 : Nat) : Int) = (c.toNat : Int) - 48 := by omega
          rw [ee] at HN
          have iov : a * 16 + ((c.toNat : Int) - 48) < 18446744073709551616 := by omega
          clear hcut hh hcc ee
          go_wp2
          refine ⟨⟨k + 1, acc * 16 + (c.toNat - 48), a * 16 + ((c.toNat : Int) - 48), rfl, (by first | rfl | (congr 1; omega)), (by first | rfl | (congr 1; omega)), by omega, HN⟩, by simp [intOf]; omega⟩
      · have hv0 := bits_lo_u8 .or (c.toNat : Int) 32
        have hv1 := bits_hi_u8 .or (c.toNat : Int) 32
        have hu0 := bits_lo_u8 .or 95 32
        have hu1 := bits_hi_u8 .or 95 32
        have HL : Hid (∀ e, e < 16 → s[k]'hks = hexD e → (e : Int) = bits .or .u8 (c.toNat : Int) 32 - 87 ∧ 97 ≤ bits .or .u8 (c.toNat : Int) 32 ∧ bits .or .u8 (c.toNat : Int) 32 ≤ 102) := fun e he q => let_of hdig rfl e he (by rw [hcc]; exact q)
        clear hcc
        have hlow := fun W => Tryd.internal_strconv_lower (c.toNat : Int) W
        by_cases h95 : c.toNat = 95
        · have e95 : bits .or .u8 95 32 = 127 := by decide +kernel
          have HE : Hid (∀ r v : Nat, v < 18446744073709551616 → s = hex16 v → r = v) := fun r => hh.out.odd hks (fun e he q => by
            have := HL.out e he q
            rw [h95] at this
            have h2 : bits .or .u8 ((95 : Nat) : Int) 32 = 127 := e95
            omega) r
          have c95 : (c.toNat : Int) = 95 := by omega
          rw [c95] at hc hlow
          rw [e95] at hlow
          clear HL hh hv0 hv1 hu0 hu1 hdig h95 c95 hc256 e95
          go_wp2_with (go_at_call 61; refine (hlow _).mono ?_; rintro e w' ⟨rfl, rfl⟩)
          all_goals go_ret2
          all_goals exact ⟨0, _, rfl, by omega, HE.out _, .inr (.inr rfl), HK.out⟩
        · obtain ⟨L, hL⟩ : ∃ L, L = bits .or .u8 (c.toNat : Int) 32 := ⟨_, rfl⟩
          rw [← hL] at HL hv0 hv1 hlow
          clear hL hu0 hu1
          by_cases hC : 97 ≤ L ∧ L ≤ 102
          · obtain ⟨d, rfl⟩ : ∃ d : Nat, L = (d : Int) + 87 := ⟨(L - 87).toNat, by omega⟩
            have hd : d < 16 := by omega
            have hd1 : 10 ≤ d := by omega
            by_cases hcut : 1152921504606846976 ≤ acc
            · have HE : Hid (∀ r v : Nat, v < 18446744073709551616 → s = hex16 v → r = v) := fun r => hh.out.big hks hcut r
              have icut : 1152921504606846976 ≤ a := by have := hh.out.eq; omega
              clear hcut hh HL hC hv0 hv1
              go_wp2_with (go_at_call 61; refine (hlow _).mono ?_; rintro e w' ⟨rfl, rfl⟩)
              all_goals go_ret2
              all_goals exact ⟨18446744073709551615, _, rfl, by omega, HE.out _, .inr (.inl rfl), HK.out⟩
            · have HN : Hid (At s (k + 1) (a * 16 + (d : Int)) (acc * 16 + d)) := hh.out.next hks d hd (fun e he q => by have := HL.out e he q; omega) (by omega)
              have icut : a < 1152921504606846976 := by have := hh.out.eq; omega
              have iov : a * 16 + (d : Int) < 18446744073709551616 := by omega
              clear hcut hh HL hC hv0 hv1
              go_wp2_with (go_at_call 61; refine (hlow _).mono ?_; rintro e w' ⟨rfl, rfl⟩)
              all_goals refine ⟨⟨k + 1, acc * 16 + d, a * 16 + (d : Int), rfl, (by first | rfl | (congr 1; omega)), (by first | rfl | (congr 1; omega)), by omega, HN⟩, by simp [intOf]; omega⟩
          · have HE : Hid (∀ r v : Nat, v < 18446744073709551616 → s = hex16 v → r = v) := fun r => hh.out.odd hks (fun e he q => by
              have := HL.out e he q
              omega) r
            clear hh HL
            by_cases h1 : 97 ≤ L
            · by_cases h2 : L ≤ 122
              · obtain ⟨d, rfl⟩ : ∃ d : Nat, L = (d : Int) + 87 := ⟨(L - 87).toNat, by omega⟩
                have hd : 16 ≤ d := by omega
                have hd1 : d ≤ 35 := by omega
                clear hC hv0 hv1 h1 h2
                go_wp2_with (go_at_call 61; refine (hlow _).mono ?_; rintro e w' ⟨rfl, rfl⟩)
                all_goals go_ret2
                all_goals exact ⟨0, _, rfl, by omega, HE.out _, .inr (.inr rfl), HK.out⟩
              · clear hC
                go_wp2_with (go_at_call 61; refine (hlow _).mono ?_; rintro e w' ⟨rfl, rfl⟩)
                all_goals go_ret2
                all_goals exact ⟨0, _, rfl, by omega, HE.out _, .inr (.inr rfl), HK.out⟩
            · clear hC
              go_wp2_with (go_at_call 61; refine (hlow _).mono ?_; rintro e w' ⟨rfl, rfl⟩)
              all_goals go_ret2
              all_goals exact ⟨0, _, rfl, by omega, HE.out _, .inr (.inr rfl), HK.out⟩
    · have hkk : k = t.size := by omega
      subst hkk
      have HE : Hid (acc < 18446744073709551616 ∧ a = (acc : Int) ∧ ∀ v : Nat, v < 18446744073709551616 → s = hex16 v → acc = v) := ⟨hh.out.lt, hh.out.eq, fun v hv e => by
        have h1 := hh.out.trk
        rw [htn] at h1
        exact h1.stop v hv e⟩
      clear hh hB
      go_wp2
      go_ret2
      refine ⟨acc, .nilIface, ?_, HE.out.1, HE.out.2.2, .inl rfl, HK.out⟩
      rw [HE.out.2.1]
      rfl
end Go.Proofs.YtfknonhkpilbfaaDoor
