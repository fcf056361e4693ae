/-
  NumSums's walk.
-/
import Derived.Test.YtepddgmgmabjoaaSum
import Derived.Outline
import Derived.Deep.QuietTactic
import Derived.Deep.RegionWith
import Derived.BigQuiet
import Derived.RegionTactic
namespace Go.Proofs.Ytepddgmgmabjoaa
open Go.RowKit
open Ieee (double)
attribute [local go_sem] run_store_complex

set_option maxRecDepth 10000 in
set_option maxHeartbeats 8000000 in
theorem sums_any (a0 a1 b0 b1 c0 c1 : Int) (w : World) :
    Calls Try.prog 5 #[.agg #[.int .i64 a0, .int .i64 a1], .agg #[.int .i64 b0, .int .i64 b1], .agg #[.int .i64 c0, .int .i64 c1]] w fun e w' => e = .returned (.bool true) ∧ Grown w w' := by
  go_enter Try.func5, Try.ntmps5
  go_wp2_with fail
  refine (first_any _).mono ?_
  rintro e w' ⟨rfl, hw⟩
  subst hw
  go_wp2_with fail
  go_loopw [9] (fun i wr => ∃ (k x0 y0 x1 y1 x2 y2 : Nat), k ≤ 3 ∧ i = .int .i64 k ∧ Inv a0 a1 b0 b1 c0 c1 w k wr x0 y0 x1 y1 x2 y2) (fun i _ => 3 - (intOf i).toNat)
  case atStart =>
    refine ⟨0, 0, 0, 0, 0, 0, 0, by omega, rfl, ?_⟩
    constructor
    case g => exact (((((Grown.refl _).alloc _ _).alloc _ _).alloc _ _).alloc _ _).alloc _ _
    case k0 => exact fun h => absurd h (by decide)
    case k1 => exact fun h => absurd h (by decide)
    case k2 => exact fun h => absurd h (by decide)
    all_goals go_simp
  case round =>
    obtain ⟨k, x0, y0, x1, y1, x2, y2, hk, rfl, inv⟩ := hrel
    match k, hk with
    | 0, _ =>
      have HI : Hid (Inv a0 a1 b0 b1 c0 c1 w 0 wr x0 y0 x1 y1 x2 y2) := inv
      obtain ⟨z0, z1, z2, f0, f1, f2, l0, l1, l2, l3, l4, l5, g, k0, k1, k2⟩ := inv
      clear k0 k1 k2 g z1 z2 f1 f2 l2 l3 l4 l5
      by_cases hr : R1 a0 a1
      · have HR : Hid (R1 a0 a1) := hr
        obtain ⟨r1, r2, r3, r4⟩ := hr
        go_wp2_with fail
        go_region
        go_wp2
        go_roundw
        case rel => exact ⟨1, _, _, _, _, _, _, by omega, rfl, inv_0 HI.out HR.out⟩
        case measure => simp [intOf]
      · rcases r1_cases _ _ hr with r1 | ⟨r1, r2⟩ | ⟨r1, r2, r3⟩ | ⟨r1, r2, r3, r4⟩
        all_goals
          clear hr z0 f0
          go_wp2_with fail
          refine (first_any _).mono ?_
          rintro e w' ⟨rfl, hw⟩
          subst hw
          go_wp2
          go_ret
          exact ⟨rfl, HI.out.g⟩
    | 1, _ =>
      have HI : Hid (Inv a0 a1 b0 b1 c0 c1 w 1 wr x0 y0 x1 y1 x2 y2) := inv
      obtain ⟨z0, z1, z2, f0, f1, f2, l0, l1, l2, l3, l4, l5, g, k0, k1, k2⟩ := inv
      clear k0 k1 k2 g z0 z2 f0 f2 l0 l1 l4 l5
      by_cases hr : R1 b0 b1
      · have HR : Hid (R1 b0 b1) := hr
        obtain ⟨r1, r2, r3, r4⟩ := hr
        go_wp2_with fail
        go_region
        go_wp2
        go_roundw
        case rel => exact ⟨2, _, _, _, _, _, _, by omega, rfl, inv_1 HI.out HR.out⟩
        case measure => simp [intOf]
      · rcases r1_cases _ _ hr with r1 | ⟨r1, r2⟩ | ⟨r1, r2, r3⟩ | ⟨r1, r2, r3, r4⟩
        all_goals
          clear hr z1 f1
          go_wp2_with fail
          refine (first_any _).mono ?_
          rintro e w' ⟨rfl, hw⟩
          subst hw
          go_wp2
          go_ret
          exact ⟨rfl, HI.out.g⟩
    | 2, _ =>
      have HI : Hid (Inv a0 a1 b0 b1 c0 c1 w 2 wr x0 y0 x1 y1 x2 y2) := inv
      obtain ⟨z0, z1, z2, f0, f1, f2, l0, l1, l2, l3, l4, l5, g, k0, k1, k2⟩ := inv
      clear k0 k1 k2 g z0 z1 f0 f1 l0 l1 l2 l3
      by_cases hr : R1 c0 c1
      · have HR : Hid (R1 c0 c1) := hr
        obtain ⟨r1, r2, r3, r4⟩ := hr
        go_wp2_with fail
        go_region
        go_wp2
        go_roundw
        case rel => exact ⟨3, _, _, _, _, _, _, by omega, rfl, inv_2 HI.out HR.out⟩
        case measure => simp [intOf]
      · rcases r1_cases _ _ hr with r1 | ⟨r1, r2⟩ | ⟨r1, r2, r3⟩ | ⟨r1, r2, r3, r4⟩
        all_goals
          clear hr z2 f2
          go_wp2_with fail
          refine (first_any _).mono ?_
          rintro e w' ⟨rfl, hw⟩
          subst hw
          go_wp2
          go_ret
          exact ⟨rfl, HI.out.g⟩
    | 3, _ =>
      obtain ⟨z0, z1, z2, f0, f1, f2, l0, l1, l2, l3, l4, l5, g, k0, k1, k2⟩ := inv
      clear f0 f1 f2 l0 l1 l2 l3 l4 l5
      obtain ⟨⟨ra1, ra2, ra3, ra4⟩, ca⟩ := k0 (by decide)
      obtain ⟨⟨rb1, rb2, rb3, rb4⟩, cb⟩ := k1 (by decide)
      obtain ⟨⟨rc1, rc2, rc3, rc4⟩, cc⟩ := k2 (by decide)
      clear k0 k1 k2
      obtain ⟨m01r, m01i, i01, n01r, n01i, M01⟩ := mul_ci 1000 1000 ca cb (by omega) (by omega) (by omega) (by omega) (by decide)
      obtain ⟨pr, pi, ip, npr, npi, MP⟩ := mul_ci 2000000 1000 i01 cc n01r n01i (by omega) (by omega) (by decide)
      obtain ⟨m12r, m12i, i12, n12r, n12i, M12⟩ := mul_ci 1000 1000 cb cc (by omega) (by omega) (by omega) (by omega) (by decide)
      obtain ⟨qr, qi, iq, nqr, nqi, MQ⟩ := mul_ci 1000 2000000 ca i12 (by omega) (by omega) n12r n12i (by decide)
      obtain ⟨s01r, s01i, j01, o01r, o01i, A01⟩ := add_ci 1000 1000 ca cb (by omega) (by omega) (by omega) (by omega) (by decide)
      obtain ⟨sr, si, js, osr, osi, AS⟩ := add_ci 2000 1000 j01 cc o01r o01i (by omega) (by omega) (by decide)
      obtain ⟨s12r, s12i, j12, o12r, o12i, A12⟩ := add_ci 1000 1000 cb cc (by omega) (by omega) (by omega) (by omega) (by decide)
      obtain ⟨tr, ti, jt, otr, oti, AT⟩ := add_ci 1000 2000 ca j12 (by omega) (by omega) o12r o12i (by decide)
      obtain ⟨ur, ui, iu, nur, nui, MU⟩ := mul_ci 1000 2000 ca j12 (by omega) (by omega) o12r o12i (by decide)
      obtain ⟨m02r, m02i, i02, n02r, n02i, M02⟩ := mul_ci 1000 1000 ca cc (by omega) (by omega) (by omega) (by omega) (by decide)
      obtain ⟨vr, vi, iv, nvr, nvi, AV⟩ := add_ci 2000000 2000000 i01 i02 n01r n01i n02r n02i (by decide)
      obtain ⟨dr, di, id, ndr, ndi, SD⟩ := sub_ci 3000 1000 js cc osr osi (by omega) (by omega) (by decide)
      have e1 := eq_isI ip.1 iq.1 (ring1 ..)
      have e2 := eq_isI ip.2 iq.2 (ring2 ..)
      have e3 := eq_isI js.1 jt.1 (by omega)
      have e4 := eq_isI js.2 jt.2 (by omega)
      have e5 := eq_isI iu.1 iv.1 (ring3 ..)
      have e6 := eq_isI iu.2 iv.2 (ring4 ..)
      have e7 := eq_isI id.1 j01.1 (by omega)
      have e8 := eq_isI id.2 j01.2 (by omega)
      have M01 : Hid _ := M01
      have MP : Hid _ := MP
      have M12 : Hid _ := M12
      have MQ : Hid _ := MQ
      have A01 : Hid _ := A01
      have AS : Hid _ := AS
      have A12 : Hid _ := A12
      have AT : Hid _ := AT
      have MU : Hid _ := MU
      have M02 : Hid _ := M02
      have AV : Hid _ := AV
      have SD : Hid _ := SD
      have G : Hid (Grown w wr) := g
      clear g i01 n01r n01i ip npr npi i12 n12r n12i iq nqr nqi j01 o01r o01i js osr osi j12 o12r o12i jt otr oti iu nur nui i02 n02r n02i iv nvr nvi id ndr ndi ca cb cc
      clear ra1 ra2 ra3 ra4 rb1 rb2 rb3 rb4 rc1 rc2 rc3 rc4
      go_wp2_with fail
      go_quiet (first | (go_at_call_of 7 (#[Value.complex FloatKind.f64 x0 y0, Value.complex FloatKind.f64 x1 y1]); exact Calls.quiet_of_same (M01.out _)) | (go_at_call_of 7 (#[Value.complex FloatKind.f64 m01r m01i, Value.complex FloatKind.f64 x2 y2]); exact Calls.quiet_of_same (MP.out _)) | (go_at_call_of 7 (#[Value.complex FloatKind.f64 x1 y1, Value.complex FloatKind.f64 x2 y2]); exact Calls.quiet_of_same (M12.out _)) | (go_at_call_of 7 (#[Value.complex FloatKind.f64 x0 y0, Value.complex FloatKind.f64 m12r m12i]); exact Calls.quiet_of_same (MQ.out _)))
      go_wp2_with fail
      have z0 : (wr.drewN nq).cell? ⟨w.heap.size + 1 + 1 + 1, 0, none⟩ = some (.complex .f64 x0 y0) := z0
      have z1 : (wr.drewN nq).cell? ⟨w.heap.size + 1 + 1 + 1, 1, none⟩ = some (.complex .f64 x1 y1) := z1
      have z2 : (wr.drewN nq).cell? ⟨w.heap.size + 1 + 1 + 1, 2, none⟩ = some (.complex .f64 x2 y2) := z2
      have G : Hid (Grown w (wr.drewN nq)) := G
      generalize wr.drewN nq = wr at z0 z1 z2 G ⊢
      go_quiet (first | (go_at_call_of 8 (#[Value.complex FloatKind.f64 x0 y0, Value.complex FloatKind.f64 x1 y1]); exact Calls.quiet_of_same (A01.out _)) | (go_at_call_of 8 (#[Value.complex FloatKind.f64 s01r s01i, Value.complex FloatKind.f64 x2 y2]); exact Calls.quiet_of_same (AS.out _)) | (go_at_call_of 8 (#[Value.complex FloatKind.f64 x1 y1, Value.complex FloatKind.f64 x2 y2]); exact Calls.quiet_of_same (A12.out _)) | (go_at_call_of 8 (#[Value.complex FloatKind.f64 x0 y0, Value.complex FloatKind.f64 s12r s12i]); exact Calls.quiet_of_same (AT.out _)))
      go_wp2_with fail
      have z0 : (wr.drewN nq).cell? ⟨w.heap.size + 1 + 1 + 1, 0, none⟩ = some (.complex .f64 x0 y0) := z0
      have z1 : (wr.drewN nq).cell? ⟨w.heap.size + 1 + 1 + 1, 1, none⟩ = some (.complex .f64 x1 y1) := z1
      have z2 : (wr.drewN nq).cell? ⟨w.heap.size + 1 + 1 + 1, 2, none⟩ = some (.complex .f64 x2 y2) := z2
      have G : Hid (Grown w (wr.drewN nq)) := G
      generalize wr.drewN nq = wr at z0 z1 z2 G ⊢
      go_quiet (first | (go_at_call_of 8 (#[Value.complex FloatKind.f64 x1 y1, Value.complex FloatKind.f64 x2 y2]); exact Calls.quiet_of_same (A12.out _)) | (go_at_call_of 7 (#[Value.complex FloatKind.f64 x0 y0, Value.complex FloatKind.f64 s12r s12i]); exact Calls.quiet_of_same (MU.out _)) | (go_at_call_of 7 (#[Value.complex FloatKind.f64 x0 y0, Value.complex FloatKind.f64 x1 y1]); exact Calls.quiet_of_same (M01.out _)) | (go_at_call_of 7 (#[Value.complex FloatKind.f64 x0 y0, Value.complex FloatKind.f64 x2 y2]); exact Calls.quiet_of_same (M02.out _)) | (go_at_call_of 8 (#[Value.complex FloatKind.f64 m01r m01i, Value.complex FloatKind.f64 m02r m02i]); exact Calls.quiet_of_same (AV.out _)))
      go_wp2_with fail
      have z0 : (wr.drewN nq).cell? ⟨w.heap.size + 1 + 1 + 1, 0, none⟩ = some (.complex .f64 x0 y0) := z0
      have z1 : (wr.drewN nq).cell? ⟨w.heap.size + 1 + 1 + 1, 1, none⟩ = some (.complex .f64 x1 y1) := z1
      have z2 : (wr.drewN nq).cell? ⟨w.heap.size + 1 + 1 + 1, 2, none⟩ = some (.complex .f64 x2 y2) := z2
      have G : Hid (Grown w (wr.drewN nq)) := G
      generalize wr.drewN nq = wr at z0 z1 z2 G ⊢
      go_quiet (first | (go_at_call 6; exact Calls.quiet_of_same (first_any _)) | (go_at_call_of 10 (#[Value.complex FloatKind.f64 sr si, Value.complex FloatKind.f64 x2 y2]); exact Calls.quiet_of_same (SD.out _)) | (go_at_call_of 8 (#[Value.complex FloatKind.f64 x0 y0, Value.complex FloatKind.f64 x1 y1]); exact Calls.quiet_of_same (A01.out _)))
      go_wp2
      go_ret
      exact ⟨rfl, G.out⟩
end Go.Proofs.Ytepddgmgmabjoaa
