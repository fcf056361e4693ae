/-
  Package op's withPart and with; strconv.ParseUint at base 16.
-/
import Derived.Test.YtfknonhkpilbfaaDoorOp19
namespace Go.Proofs.YtfknonhkpilbfaaDoor
open Go.RowKit

theorem run_store_complex {P : Program} {w : World} {a : Addr} {m : Mode} (k : FloatKind) (x y : Nat) : (store a (.complex k x y) m).run P w = stored P w a (.complex k x y) m := run_store P w a _ m rfl
attribute [local go_sem] run_store_complex
theorem run_loadVar_blk {P : Program} (w : World) (g : Nat) (ty : TypeId) (L : List Value) {fs : Array Field} (hb : Blk w g L) (hu : P.underlying ty = some (.struct fs)) (hi : (P.info? ty).map (·.size) = some L.length) :
    (loadVar ty ⟨g, 0, none⟩).run P w = .ok (.agg L.toArray) w := by
  have hl : (loadCells ⟨g, 0, none⟩ L.length).run P w = .ok L.toArray w :=
    run_loadCells_list (P := P) w ⟨g, 0, none⟩ L (fun j v hv => by
      have hadd : (⟨g, 0, none⟩ : Addr).add j = ⟨g, j, none⟩ := by unfold Addr.add; split <;> simp_all
      rw [hadd]
      exact hb.cells j v hv)
  cases hq : P.info? ty with
  | none => simp [hq] at hi
  | some i =>
    have hs : i.size = L.length := by simpa [hq] using hi
    have hagg : (isAgg ty).run P w = .ok true w := by simp [isAgg, run_underlying hu]
    simp [loadVar, hagg, sizeOf, typeInfo, hq, hs, hl]
theorem results_blk {P : Program} {fn : Func} {p : Tmp} {ty : TypeId} (h : fn.results = #[.cell p ty]) (tmps : Array Value) (w : World) (g : Nat) (L : List Value) {fs : Array Field}
    (hp : tmps.getD p undef = .pointer (some ⟨g, 0, none⟩)) (hb : Blk w g L) (hu : P.underlying ty = some (.struct fs)) (hi : (P.info? ty).map (·.size) = some L.length) :
    (results fn tmps).run P w = .ok (.agg L.toArray) w := by
  have hp' : tmps[p]?.getD undef = .pointer (some ⟨g, 0, none⟩) := by simpa using hp
  simp [results, h, hp', asAddr, run_loadVar_blk w g ty L hb hu hi]
theorem results_blk_tmp {P : Program} {fn : Func} {p u : Tmp} {ty : TypeId} (h : fn.results = #[.cell p ty, .tmp u]) (tmps : Array Value) (w : World) (g : Nat) (L : List Value) {fs : Array Field}
    (hp : tmps.getD p undef = .pointer (some ⟨g, 0, none⟩)) (hb : Blk w g L) (hu : P.underlying ty = some (.struct fs)) (hi : (P.info? ty).map (·.size) = some L.length) :
    (results fn tmps).run P w = .ok (.tuple #[.agg L.toArray, tmps.getD u undef]) w := by
  rw [results_cell_tmp h, hp]
  simp [asAddr, run_loadVar_blk w g ty L hb hu hi, Result.andThen]
theorem Blk.set_other {w : World} {b : Nat} {L : List Value} (h : Blk w b L) {a : Addr} (ha : a.block ≠ b) (v : Value) : Blk (w.setCell a v) b L :=
  ⟨by simpa using h.lt, fun j => (World.frozen?_setCell _ _ _ _).trans (h.fz j), fun j x e => (World.cell?_setCell_other w a ⟨b, j, none⟩ v (fun q => ha (congrArg Addr.block q))).trans (h.cells j x e)⟩

/-- Six cells of one block, laid anew. -/
def six (w : World) (b : Nat) (v0 v1 v2 v3 v4 v5 : Value) : World :=
  (((((w.setCell ⟨b, 0, none⟩ v0).setCell ⟨b, 1, none⟩ v1).setCell ⟨b, 2, none⟩ v2).setCell ⟨b, 3, none⟩ v3).setCell ⟨b, 4, none⟩ v4).setCell ⟨b, 5, none⟩ v5
theorem Blk.six {w : World} {b : Nat} {u0 u1 u2 u3 u4 u5 : Value} (h : Blk w b [u0, u1, u2, u3, u4, u5]) (v0 v1 v2 v3 v4 v5 : Value) : Blk (six w b v0 v1 v2 v3 v4 v5) b [v0, v1, v2, v3, v4, v5] :=
  (((((h.set (i := 0) rfl v0).set (i := 1) rfl v1).set (i := 2) rfl v2).set (i := 3) rfl v3).set (i := 4) rfl v4).set (i := 5) rfl v5
theorem Blk.six_other {w : World} {b g : Nat} {L : List Value} (h : Blk w g L) (hg : b ≠ g) (v0 v1 v2 v3 v4 v5 : Value) : Blk (Go.Proofs.YtfknonhkpilbfaaDoor.six w b v0 v1 v2 v3 v4 v5) g L :=
  (((((h.set_other (a := ⟨b, 0, none⟩) hg v0).set_other (a := ⟨b, 1, none⟩) hg v1).set_other (a := ⟨b, 2, none⟩) hg v2).set_other (a := ⟨b, 3, none⟩) hg v3).set_other (a := ⟨b, 4, none⟩) hg v4).set_other (a := ⟨b, 5, none⟩) hg v5
theorem Kept.six {w w' : World} (h : Kept w w') {b : Nat} (hb : w.heap.size ≤ b) (v0 v1 v2 v3 v4 v5 : Value) : Kept w (Go.Proofs.YtfknonhkpilbfaaDoor.six w' b v0 v1 v2 v3 v4 v5) :=
  (((((h.setCell (a := ⟨b, 0, none⟩) hb v0).setCell (a := ⟨b, 1, none⟩) hb v1).setCell (a := ⟨b, 2, none⟩) hb v2).setCell (a := ⟨b, 3, none⟩) hb v3).setCell (a := ⟨b, 4, none⟩) hb v4).setCell (a := ⟨b, 5, none⟩) hb v5
theorem Own.six {w : World} {b : Nat} {t : TypeId} {u0 u1 u2 u3 u4 u5 : Value} (h : Own w b t [u0, u1, u2, u3, u4, u5]) (v0 v1 v2 v3 v4 v5 : Value) : Own (Go.Proofs.YtfknonhkpilbfaaDoor.six w b v0 v1 v2 v3 v4 v5) b t [v0, v1, v2, v3, v4, v5] :=
  (((((h.set 0 v0).set 1 v1).set 2 v2).set 3 v3).set 4 v4).set 5 v5

/-- An operation's cells. -/
def OP.cs (o : OP) : List Value := [.int .i64 (o.k : Int), .int .i64 o.a, .int .i64 o.b, .int .i64 o.c, .int .i64 o.n, .complex .f64 o.x o.y]
theorem OP.val_cs (o : OP) : o.val = .agg o.cs.toArray := rfl

set_option maxHeartbeats 2000000 in
set_option maxRecDepth 20000 in
theorem parse16_nil (w : World) : Calls Tryd.prog 44 #[.string ⟨#[]⟩, .int .i64 16, .int .i64 64] w fun e w' => e = .returned (.tuple #[.int .u64 0, .iface 74 (.int .i64 2)]) ∧ w' = w := by
  go_enter Tryd.func44, Tryd.ntmps44
  go_wp2
  go_ret2
  exact ⟨rfl, rfl⟩

/-- What ParseUint answers at base 16. -/
def ParA (s : List UInt8) (w : World) (e : Ending) (w' : World) : Prop := ∃ (r : Nat) (x : Value), e = .returned (.tuple #[.int .u64 (r : Int), x]) ∧ r < 18446744073709551616 ∧ (∀ v, v < 18446744073709551616 → s = hex16 v → r = v) ∧ Kept w w'

set_option maxHeartbeats 2000000 in
set_option maxRecDepth 20000 in
theorem parse_any (s : List UInt8) (hl : s.length ≤ 1000) (w : World) (hv : Vs w) : Calls Tryd.prog 33 #[.string ⟨s.toArray⟩, .int .i64 16, .int .i64 64] w fun e w' => ParA s w e w' := by
  have HV : Hid (Vs w) := hv
  have hsz : (⟨s.toArray⟩ : ByteArray).size ≤ 281474976710656 := by simp [ByteArray.size]; omega
  have hI : Calls Tryd.prog 44 #[.string ⟨s.toArray⟩, .int .i64 16, .int .i64 64] w fun e w' => ∃ (r : Nat) (x : Value), e = .returned (.tuple #[.int .u64 (r : Int), x]) ∧ r < 18446744073709551616 ∧ (∀ v, v < 18446744073709551616 → s = hex16 v → r = v) ∧ (x = .nilIface ∨ x = .iface 74 (.int .i64 1) ∨ x = .iface 74 (.int .i64 2)) ∧ Kept w w' := by
    by_cases hne : s = []
    · subst hne
      refine (parse16_nil w).mono ?_
      rintro e w' ⟨rfl, rfl⟩
      refine ⟨0, _, rfl, by decide, fun v hv e => ?_, .inr (.inr rfl), Kept.refl _⟩
      have := congrArg List.length e
      simp [hex16_len] at this
    · exact parse16_some s hne hl w
  clear hv
  generalize (⟨s.toArray⟩ : ByteArray) = t at hsz hI ⊢
  go_enter Tryd.func33, Tryd.ntmps33
  go_wp2_with fail
  refine hI.mono ?_
  rintro e w1 ⟨r, x, rfl, h1, h2, h3, K⟩
  have HR : Hid (r < 18446744073709551616 ∧ (∀ v, v < 18446744073709551616 → s = hex16 v → r = v) ∧ Kept w w1 ∧ Vs w1) := ⟨h1, h2, K, HV.out.keep K⟩
  clear hI h1 h2 K
  rcases h3 with rfl | rfl | rfl
  · go_wp2
    go_ret2
    exact ⟨r, _, rfl, HR.out.1, HR.out.2.1, HR.out.2.2.1⟩
  · obtain ⟨te, pe, hc⟩ := HR.out.2.2.2.rng
    have hT := Tryd.strconv_toError_range ⟨#[80, 97, 114, 115, 101, 85, 105, 110, 116]⟩ t 16 64 _ w1 hsz hc (.inr ⟨te, pe, rfl⟩)
    clear hc
    go_wp2_with fail
    refine hT.mono ?_
    rintro e w2 ⟨N, rfl, _, _, hb⟩
    have HK : Hid (Kept w w2) := HR.out.2.2.1.trans ⟨hb⟩
    clear hb hT
    go_wp2
    go_ret2
    exact ⟨r, _, rfl, HR.out.1, HR.out.2.1, HK.out⟩
  · obtain ⟨te, pe, hc⟩ := HR.out.2.2.2.syn
    have hT := Tryd.strconv_toError_syntax ⟨#[80, 97, 114, 115, 101, 85, 105, 110, 116]⟩ t 16 64 _ w1 hsz hc (.inr ⟨te, pe, rfl⟩)
    clear hc
    go_wp2_with fail
    refine hT.mono ?_
    rintro e w2 ⟨N, rfl, _, _, hb⟩
    have HK : Hid (Kept w w2) := HR.out.2.2.1.trans ⟨hb⟩
    clear hb hT
    go_wp2
    go_ret2
    exact ⟨r, _, rfl, HR.out.1, HR.out.2.1, HK.out⟩

/-- What withPart and with answer. -/
def WitA (o : OP) (l : UInt8) (s : List UInt8) (w : World) (e : Ending) (w' : World) : Prop := ∃ (r : Int) (q : Nat), e = .returned (o.upd l r q).val ∧ i64 r ∧ q < 18446744073709551616 ∧ (l ≠ 88 → l ≠ 89 → ∀ m, i64 m → s = Lib.itoa m → r = m) ∧ (l = 88 ∨ l = 89 → ∀ v, v < 18446744073709551616 → s = hex16 v → q = v) ∧ Kept w w'

set_option maxHeartbeats 4000000 in
set_option maxRecDepth 20000 in
theorem withPart_88 (o : OP) (s : List UInt8) (hl : s.length ≤ 1000) (w : World) (hv : Vs w) : Calls Tryd.prog 20 #[o.val, .int .i32 88, .string ⟨s.toArray⟩] w fun e w' => WitA o 88 s w e w' := by
  have HO : Hid (∀ (w' : World) (q : Nat), q < 18446744073709551616 → (∀ v, v < 18446744073709551616 → s = hex16 v → q = v) → Kept w w' → WitA o 88 s w (.returned (.agg #[.int .i64 (o.k : Int), .int .i64 o.a, .int .i64 o.b, .int .i64 o.c, .int .i64 o.n, .complex .f64 q o.y])) w') := fun w' q h1 h2 K => ⟨0, q, rfl, i64_zero, h1, fun h88 h89 => by first | exact absurd rfl h88 | exact absurd rfl h89, fun _ => h2, K⟩
  have hI : Hid (∀ W, Vs W → Calls Tryd.prog 33 #[.string ⟨s.toArray⟩, .int .i64 16, .int .i64 64] W fun e w' => ParA s W e w') := fun W hV => parse_any s hl W hV
  have HV : Hid (Vs w) := hv
  have hf := f64from
  clear hv
  unfold OP.val
  obtain ⟨k, a, b, c, n, x, y⟩ := o
  dsimp only at HO ⊢
  generalize (⟨s.toArray⟩ : ByteArray) = t at hI ⊢
  go_enter Tryd.func20, Tryd.ntmps20
  go_wp2_with fail
  have B0' := Blk.new w [.int .i64 (k : Int), .int .i64 a, .int .i64 b, .int .i64 c, .int .i64 n, .complex .f64 x y] 25
  have k1 := (Kept.refl (w.alloc (.cells [.int .i64 (k : Int), .int .i64 a, .int .i64 b, .int .i64 c, .int .i64 n, .complex .f64 x y].toArray 25))).alloc [.int .i64 0, .int .i64 0, .int .i64 0, .int .i64 0, .int .i64 0, .complex .f64 0 0].toArray 25
  have HB : Hid (Blk _ _ _ ∧ Blk _ _ _ ∧ Kept w _) := ⟨B0'.kept k1, Blk.new (w.alloc (.cells [.int .i64 (k : Int), .int .i64 a, .int .i64 b, .int .i64 c, .int .i64 n, .complex .f64 x y].toArray 25)) [.int .i64 0, .int .i64 0, .int .i64 0, .int .i64 0, .int .i64 0, .complex .f64 0 0] 25, ((Kept.refl w).alloc _ _).trans k1⟩
  clear B0' k1
  refine (hI.out _ (HV.out.keep HB.out.2.2)).mono ?_
  rintro e w1 ⟨q, xx, rfl, h1, h2, K⟩
  have HQ : Hid (q < 18446744073709551616 ∧ ∀ v, v < 18446744073709551616 → s = hex16 v → q = v) := ⟨h1, h2⟩
  have B0 := HB.out.1.kept K
  have B1 := HB.out.2.1.kept K
  have HK : Hid (Kept w w1) := HB.out.2.2.trans K
  rw [show (w.alloc (.cells [.int .i64 (k : Int), .int .i64 a, .int .i64 b, .int .i64 c, .int .i64 n, .complex .f64 x y].toArray 25)).heap.size = w.heap.size + 1 by simp] at B1
  have HS : Hid (w1.heap.size ≥ w.heap.size + 2 ∧ Blk w1 w.heap.size _ ∧ Blk w1 (w.heap.size + 1) _) := ⟨B1.lt, B0, B1⟩
  clear h1 h2 K HB hI
  have c0 := B0.at 0 rfl
  have c1 := B0.at 1 rfl
  have c2 := B0.at 2 rfl
  have c3 := B0.at 3 rfl
  have c4 := B0.at 4 rfl
  have c5 := B0.at 5 rfl
  have f5 := B0.fz 5
  have g0 := B1.fz 0
  have g1 := B1.fz 1
  have g2 := B1.fz 2
  have g3 := B1.fz 3
  have g4 := B1.fz 4
  have g5 := B1.fz 5
  have d0 := B1.at 0 rfl
  have d1 := B1.at 1 rfl
  have d2 := B1.at 2 rfl
  have d3 := B1.at 3 rfl
  have d4 := B1.at 4 rfl
  have d5 := B1.at 5 rfl
  clear B0 B1
  go_wp2
  (try simp only [Exit.inBlock, Exit.then])
  refine bodyPost_ret_by (v := .agg #[.int .i64 (k : Int), .int .i64 a, .int .i64 b, .int .i64 c, .int .i64 n, .complex .f64 q y]) (results_blk rfl _ _ (w.heap.size + 1) [.int .i64 (k : Int), .int .i64 a, .int .i64 b, .int .i64 c, .int .i64 n, .complex .f64 q y] rfl ((HS.out.2.2.set_other ?_ _).six _ _ _ _ _ _) Tryd.underlying25 (by kernel_rfl)) rfl (HO.out _ q HQ.out.1 HQ.out.2 ((HK.out.setCell ?_ _).six ?_ _ _ _ _ _ _))
  all_goals (first | (simp; done) | (simp; omega))

set_option maxHeartbeats 4000000 in
set_option maxRecDepth 20000 in
theorem withPart_89 (o : OP) (s : List UInt8) (hl : s.length ≤ 1000) (w : World) (hv : Vs w) : Calls Tryd.prog 20 #[o.val, .int .i32 89, .string ⟨s.toArray⟩] w fun e w' => WitA o 89 s w e w' := by
  have HO : Hid (∀ (w' : World) (q : Nat), q < 18446744073709551616 → (∀ v, v < 18446744073709551616 → s = hex16 v → q = v) → Kept w w' → WitA o 89 s w (.returned (.agg #[.int .i64 (o.k : Int), .int .i64 o.a, .int .i64 o.b, .int .i64 o.c, .int .i64 o.n, .complex .f64 o.x q])) w') := fun w' q h1 h2 K => ⟨0, q, rfl, i64_zero, h1, fun h88 h89 => by first | exact absurd rfl h88 | exact absurd rfl h89, fun _ => h2, K⟩
  have hI : Hid (∀ W, Vs W → Calls Tryd.prog 33 #[.string ⟨s.toArray⟩, .int .i64 16, .int .i64 64] W fun e w' => ParA s W e w') := fun W hV => parse_any s hl W hV
  have HV : Hid (Vs w) := hv
  have hf := f64from
  clear hv
  unfold OP.val
  obtain ⟨k, a, b, c, n, x, y⟩ := o
  dsimp only at HO ⊢
  generalize (⟨s.toArray⟩ : ByteArray) = t at hI ⊢
  go_enter Tryd.func20, Tryd.ntmps20
  go_wp2_with fail
  have B0' := Blk.new w [.int .i64 (k : Int), .int .i64 a, .int .i64 b, .int .i64 c, .int .i64 n, .complex .f64 x y] 25
  have k1 := (Kept.refl (w.alloc (.cells [.int .i64 (k : Int), .int .i64 a, .int .i64 b, .int .i64 c, .int .i64 n, .complex .f64 x y].toArray 25))).alloc [.int .i64 0, .int .i64 0, .int .i64 0, .int .i64 0, .int .i64 0, .complex .f64 0 0].toArray 25
  have HB : Hid (Blk _ _ _ ∧ Blk _ _ _ ∧ Kept w _) := ⟨B0'.kept k1, Blk.new (w.alloc (.cells [.int .i64 (k : Int), .int .i64 a, .int .i64 b, .int .i64 c, .int .i64 n, .complex .f64 x y].toArray 25)) [.int .i64 0, .int .i64 0, .int .i64 0, .int .i64 0, .int .i64 0, .complex .f64 0 0] 25, ((Kept.refl w).alloc _ _).trans k1⟩
  clear B0' k1
  refine (hI.out _ (HV.out.keep HB.out.2.2)).mono ?_
  rintro e w1 ⟨q, xx, rfl, h1, h2, K⟩
  have HQ : Hid (q < 18446744073709551616 ∧ ∀ v, v < 18446744073709551616 → s = hex16 v → q = v) := ⟨h1, h2⟩
  have B0 := HB.out.1.kept K
  have B1 := HB.out.2.1.kept K
  have HK : Hid (Kept w w1) := HB.out.2.2.trans K
  rw [show (w.alloc (.cells [.int .i64 (k : Int), .int .i64 a, .int .i64 b, .int .i64 c, .int .i64 n, .complex .f64 x y].toArray 25)).heap.size = w.heap.size + 1 by simp] at B1
  have HS : Hid (w1.heap.size ≥ w.heap.size + 2 ∧ Blk w1 w.heap.size _ ∧ Blk w1 (w.heap.size + 1) _) := ⟨B1.lt, B0, B1⟩
  clear h1 h2 K HB hI
  have c0 := B0.at 0 rfl
  have c1 := B0.at 1 rfl
  have c2 := B0.at 2 rfl
  have c3 := B0.at 3 rfl
  have c4 := B0.at 4 rfl
  have c5 := B0.at 5 rfl
  have f5 := B0.fz 5
  have g0 := B1.fz 0
  have g1 := B1.fz 1
  have g2 := B1.fz 2
  have g3 := B1.fz 3
  have g4 := B1.fz 4
  have g5 := B1.fz 5
  have d0 := B1.at 0 rfl
  have d1 := B1.at 1 rfl
  have d2 := B1.at 2 rfl
  have d3 := B1.at 3 rfl
  have d4 := B1.at 4 rfl
  have d5 := B1.at 5 rfl
  clear B0 B1
  go_wp2
  (try simp only [Exit.inBlock, Exit.then])
  refine bodyPost_ret_by (v := .agg #[.int .i64 (k : Int), .int .i64 a, .int .i64 b, .int .i64 c, .int .i64 n, .complex .f64 x q]) (results_blk rfl _ _ (w.heap.size + 1) [.int .i64 (k : Int), .int .i64 a, .int .i64 b, .int .i64 c, .int .i64 n, .complex .f64 x q] rfl ((HS.out.2.2.set_other ?_ _).six _ _ _ _ _ _) Tryd.underlying25 (by kernel_rfl)) rfl (HO.out _ q HQ.out.1 HQ.out.2 ((HK.out.setCell ?_ _).six ?_ _ _ _ _ _ _))
  all_goals (first | (simp; done) | (simp; omega))
end Go.Proofs.YtfknonhkpilbfaaDoor
