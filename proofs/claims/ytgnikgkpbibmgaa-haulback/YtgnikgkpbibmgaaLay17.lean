/-
  Contracts of package layout.
-/
import Derived.Test.YtgnikgkpbibmgaaCx17
namespace Go.Proofs.Ytgnikgkpbibmgaa
open Go.RowKit

theorem results_blk_tmp2 {P : Program} {fn : Func} {p u v : Tmp} {ty : TypeId} (h : fn.results = #[.cell p ty, .tmp u, .tmp v]) (tmps : Array Value) (w : World) (g : Nat) (L : List Value) {fs : Array Field}
    (ha : tmps.getD p undef = .pointer (some ⟨g, 0, none⟩)) (hb : Blk w g L) (hu : P.underlying ty = some (.struct fs)) (hi : (P.info? ty).map (·.size) = some L.length) :
    (results fn tmps).run P w = .ok (.tuple #[.agg L.toArray, tmps.getD u undef, tmps.getD v undef]) w := by
  have hp' : tmps[p]?.getD undef = .pointer (some ⟨g, 0, none⟩) := by simpa using ha
  simp [results, h, hp', asAddr, run_loadVar_blk w g ty L hb hu hi]

section
variable (n0 n1 n2 n3 n4 n5 n6 n7 : Int) (x : Option Addr) (l c : Nat) (S : Nat → Sh)

set_option maxHeartbeats 800000 in
theorem lfrag_is (i : Int) (w : World) (hn : n0 ≤ 1024) (h1 : 0 ≤ i ∧ i < n0) :
    Calls Try.prog 66 #[.agg #[.int .i64 n0, .int .i64 n1, .int .i64 n2, .int .i64 n3, .int .i64 n4, .int .i64 n5, .int .i64 n6, .int .i64 n7, .slice x l c], .complex .f64 (cr i).re (cr i).im] w fun e w' => e = .returned (.tuple #[.int .i64 i, .bool true]) ∧ Kept w w' := by
  have C0 : Hid (∀ w, Calls Try.prog 77 #[.complex .f64 (floatOfInt .f64 (i + 1)) 4607182418800017408] w _) := fun w => index_in (i + 1) 4607182418800017408 w true (by rw [nb_one]; rfl) (by omega) (by omega)
  unfold cr
  have e1 : i + 1 - 1 = i := by omega
  have e2 : i < n0 := h1.2
  have e3 : ¬ i ≥ n0 := by omega
  have HK : Hid (∀ C t, Kept w (w.alloc (.cells C t))) := fun C t => (Kept.refl w).alloc C t
  go_enter Try.func66, Try.ntmps66
  go_wp2_with fail
  refine (C0.out _).mono ?_
  rintro e w' ⟨rfl, rfl⟩
  simp only [if_true, e1]
  go_wp2
  go_ret2
  exact ⟨rfl, HK.out _ _⟩

end
end Go.Proofs.Ytgnikgkpbibmgaa
