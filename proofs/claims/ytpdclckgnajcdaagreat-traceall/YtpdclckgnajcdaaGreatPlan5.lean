/-
  Contract of package plan's Object.
-/
import Derived.Test.YtpdclckgnajcdaaGreatPlan4
import Derived.Test.YtpdclckgnajcdaaGreatPhase
import Derived.ScopeJumps
import Derived.WalkMore
namespace Go.Proofs.YtpdclckgnajcdaaGreat
open Go.RowKit

attribute [local go_sem] run_store_complex

theorem wp_scope_both {P : Program} {a : Act} {w : World} {Q : Exit → Act → World → Prop} {c rest : Code} (l : Nat) (J : Act → World → Prop) (μ : Act → World → Nat) (hf : findLabel c l = some (.seq .skip rest))
    (pass : ∀ a w, J a w → rest.wp P (Exit.jump l (fun a' w' => J a' w' ∧ μ a' w' < μ a w) Q) a w)
    (first : (∀ a w, J a w → rest.wp P (Exit.jump l J Q) a w) → c.wp P (Exit.jump l J Q) a w) : (Code.scope c).wp P Q a w := by
  refine wp_scope_jumps l J μ hf (first fun a w h b k cs => ?_) fun a w h => wp_seq (wp_skip (pass a w h))
  obtain ⟨e, a', w', hq, r⟩ := pass a w h b k cs
  refine ⟨e, a', w', ?_, r⟩
  cases e with
  | goto l' => exact ⟨hq.1, hq.2.1⟩
  | _ => exact hq

def intAt (a : Act) (s : Nat) : Int := match a.tmps.getD s undef with | .int _ n => n | _ => 0

/-- Write i of an object. -/
def objF (kind : Int) (R : Nat → Bool) (L : Nat → Int) (l fl i : Nat) : Wr := ⟨L (i / 8) * 8 + ((i % 8 : Nat) : Int), objW kind R L l fl (i / 8) (i % 8)⟩

theorem run_make_writes (n : Nat) (h : n ≤ 1000000) (w : World) :
    (Instr.makeSlice 35 (.int .i64 0) (.int .i64 (n : Int))).run Tryz.prog w = .ok (.slice (some ⟨w.heap.size, 0, none⟩) 0 n) (w.alloc (.cells (madeCells #[.int .i64 0, .complex .f64 0 0] (n * 2)) 49)) := by
  obtain ⟨i, hi, hz, hs, hb⟩ := info_parts info_write
  have hr := run_make (P := Tryz.prog) w 35 49 i _ Tryz.underlying35 hi hz .i64 .i64 0 n (by omega) (by omega) (by rw [hb]; omega) (by omega)
  simp only [Int.toNat_natCast, Int.toNat_zero, hs] at hr
  exact hr
theorem ws_made (w : World) (base n : Nat) (f : Nat → Wr) (hb : base ≤ w.heap.size) (hn : n ≤ 1000000) : Ws (w.alloc (.cells (madeCells #[.int .i64 0, .complex .f64 0 0] (n * 2)) 49)) base (.slice (some ⟨w.heap.size, 0, none⟩) 0 n) 0 f :=
  ⟨by simp, .inr ⟨w.heap.size, n, _, by simp, hb, heap_alloc_new w _, by simp, by unfold maxLen; omega, by simp [size_madeCells], by simp⟩⟩

/-- What is laid while a region runs: before (q = false) and behind. -/
structure LJ (W u : World) (base g cap n m : Nat) (f : Nat → Wr) (q : Bool) : Prop where
  mu : Mut [g] W u
  ws : Ws u base (.slice (some ⟨g, 0, none⟩) (if q then n + m else n) cap) (if q then n + m else n) f
theorem LJ.same {W u : World} {base g cap n m : Nat} {f : Nat → Wr} {q q' : Bool} (h : LJ W u base g cap n m f q) (e : q' = q) : LJ W u base g cap n m f q' := e ▸ h
theorem LJ.kept {W u u' : World} {base g cap n m : Nat} {f : Nat → Wr} {q q' : Bool} (h : LJ W u base g cap n m f q) (k : Kept u u') (e : q' = q) : LJ W u' base g cap n m f q' := by
  subst e
  exact ⟨h.mu.trans k.mut, h.ws.kept k⟩

/-- Between two fragments of an object: k of them laid. -/
structure Ob (w u : World) (l sb g rg k : Nat) (cf : List Value) (fl : Nat) (R : Nat → Bool) (f : Nat → Wr) (F : Nat → Cx) : Prop where
  kept : Kept w u
  cf : Blk u w.heap.size cf
  fill : Blk u (w.heap.size + 1) (eight F)
  sh : Blk u sb [.bool false, .slice (some ⟨rg, 0, none⟩) fl fl]
  refs : Refs u (some ⟨rg, 0, none⟩) fl R
  ws : Ws u w.heap.size (.slice (some ⟨g, 0, none⟩) (k * 8) (l * 8)) (k * 8) f
  s1 : w.heap.size + 1 < sb
  r1 : w.heap.size + 1 < rg
  g1 : w.heap.size + 1 < g
  gs : g ≠ sb
  gr : 0 < fl → g ≠ rg
theorem Refs.muts {D : List Nat} {w w' : World} {g fl : Nat} {R : Nat → Bool} (h : Refs w (some ⟨g, 0, none⟩) fl R) (q : Mut D w w') (hd : 0 < fl → g ∉ D) : Refs w' (some ⟨g, 0, none⟩) fl R := fun h0 => by
  obtain ⟨b, o, e, hb, hc⟩ := h h0
  obtain ⟨rfl, rfl⟩ : g = b ∧ 0 = o := by simpa using e
  exact ⟨g, 0, rfl, Nat.lt_of_lt_of_le hb q.size, fun k hk => (q.cell hb (hd h0)).trans (hc k hk)⟩
section
variable {w u u' : World} {l sb g rg k : Nat} {cf : List Value} {fl : Nat} {R : Nat → Bool} {f : Nat → Wr} {F G : Nat → Cx}
theorem Ob.still (h : Ob w u l sb g rg k cf fl R f F) (q : Kept u u') : Ob w u' l sb g rg k cf fl R f F :=
  ⟨h.kept.trans q, h.cf.kept q, h.fill.kept q, h.sh.kept q, h.refs.kept q, h.ws.kept q, h.s1, h.r1, h.g1, h.gs, h.gr⟩
/-- The words are laid anew. -/
theorem Ob.filled (h : Ob w u l sb g rg k cf fl R f F) (q : Mut [w.heap.size + 1] u u') (hG : Blk u' (w.heap.size + 1) (eight G)) : Ob w u' l sb g rg k cf fl R f G := by
  have := h.s1
  have := h.r1
  have := h.g1
  refine ⟨h.kept.muts q (by simp), h.cf.muts q (by simp), hG, h.sh.muts q (by simp; omega), h.refs.muts q (fun _ => by simp; omega), h.ws.muts q (fun k hk => ?_), h.s1, h.r1, h.g1, h.gs, h.gr⟩
  obtain rfl : g = k := by simpa [Value.ownBlock] using hk
  simp
  omega
/-- A fragment's eight are laid. -/
theorem Ob.laid (h : Ob w u l sb g rg k cf fl R f F) (q : Mut [g] u u') (hw : Ws u' w.heap.size (.slice (some ⟨g, 0, none⟩) (k * 8 + 8) (l * 8)) (k * 8 + 8) f) : Ob w u' l sb g rg (k + 1) cf fl R f F := by
  have := h.g1
  refine ⟨h.kept.muts q (by simp; omega), h.cf.muts q (by simp; omega), h.fill.muts q (by simp; omega), h.sh.muts q (by have := h.gs; simp; omega), h.refs.muts q (fun h0 => by have := h.gr h0; simp; omega), ?_, h.s1, h.r1, h.g1, h.gs, h.gr⟩
  have e : (k + 1) * 8 = k * 8 + 8 := by omega
  rw [e]
  exact hw
end

set_option maxRecDepth 10000 in
set_option maxHeartbeats 4000000 in
theorem object_no (n0 n1 n2 n3 n4 n5 n6 n7 : Int) (sx : Option Addr) (sl sc : Nat) (S : Nat → Sh) (R : Nat → Nat → Bool) (kind : Int) {x : Option Addr} {l c : Nat} {L : Nat → Int} (r : Int) (w : World) (hS : Shps w sx sl S) (hR : ∀ i, i < sl → Refs w (S i).x (S i).l (R i))
    (hl : (l : Int) ≤ 1000000) (hc : l ≤ c) (hx : Rdf w x l L) (hr : Asks (AG n0 n1 n2 n3 n4 n5 n6 n7 sl S L l) (AK sl S kind false) (AI S kind 0 false) (AF S kind 0 false L l) r) (h0 : r ≠ 0) :
    Calls Tryz.prog 10 #[.agg #[.int .i64 n0, .int .i64 n1, .int .i64 n2, .int .i64 n3, .int .i64 n4, .int .i64 n5, .int .i64 n6, .int .i64 n7, .slice sx sl sc], .int .i64 kind, .slice x l c] w fun e w' => e = .returned (.tuple #[.slice none 0 0, .int .i64 r]) ∧ Kept w w' := by
  have C0 : Hid (∀ w', Kept w w' → Calls Tryz.prog 30 #[.agg #[.int .i64 n0, .int .i64 n1, .int .i64 n2, .int .i64 n3, .int .i64 n4, .int .i64 n5, .int .i64 n6, .int .i64 n7, .slice sx sl sc], .int .i64 kind, .int .i64 0, .slice x l c, .bool false] w' _) := fun w' k => asked_any n0 n1 n2 n3 n4 n5 n6 n7 sx sl sc S R kind 0 (c := c) false r w' (hS.kept k) (fun i hi => (hR i hi).kept k) hl hc (hx.kept k) (fun _ => rfl) hr
  have e0 : (r != 0) = true := by simpa using h0
  have H0 : Hid (r ≠ 0) := h0
  clear hS hR hl hc hx hr h0
  go_enter Tryz.func10, Tryz.ntmps10
  go_wp2_with fail
  refine wp_scope_both 0 (fun a u => Hid (Kept w u) ∧ ∃ u0 u1 u2 u3 u4 u5 u6 u7 u9 u10 u11 u13 u14 u15 u16 u17 u18 u19 u20 u21 u22 u23 u24 u25 u26 u27 u28 u29 u30 u31 u32 u33 u34 u35 u36 u37 u38 u39 u40 u41 u42 u43 u44 u45 u46 u47 : Value, a = { tmps := #[u0, u1, u2, u3, u4, u5, u6, u7, .slice none 0 0, u9, u10, u11, .int .i64 r, u13, u14, u15, u16, u17, u18, u19, u20, u21, u22, u23, u24, u25, u26, u27, u28, u29, u30, u31, u32, u33, u34, u35, u36, u37, u38, u39, u40, u41, u42, u43, u44, u45, u46, u47], defers := [] }) (fun _ _ => 0) rfl ?_ ?_
  · rintro a u ⟨K, u0, u1, u2, u3, u4, u5, u6, u7, u9, u10, u11, u13, u14, u15, u16, u17, u18, u19, u20, u21, u22, u23, u24, u25, u26, u27, u28, u29, u30, u31, u32, u33, u34, u35, u36, u37, u38, u39, u40, u41, u42, u43, u44, u45, u46, u47, rfl⟩
    go_wp2
    simp only [Exit.jump]
    go_ret2
    exact ⟨rfl, K.out⟩
  · intro pass
    go_wp2_with fail
    generalize hW0 : w.alloc _ = W0
    have k0 : Kept w W0 := by rw [← hW0]; exact (Kept.refl w).alloc _ _
    clear hW0
    generalize hW1 : W0.alloc _ = W1
    have k1 : Hid (Kept w W1) := by rw [← hW1]; exact k0.alloc _ _
    clear hW1 k0
    refine (C0.out _ k1.out).mono ?_
    rintro e w2 ⟨h | h, K⟩
    · obtain ⟨_, rfl⟩ := h
      have K2 : Hid (Kept w w2) := k1.out.trans K
      clear K pass
      go_wp2
      go_step3
      exact ⟨rfl, K2.out.alloc _ _, _, _, _, _, _, _, _, _, _, _, _, _, _, _, _, _, _, _, _, _, _, _, _, _, _, _, _, _, _, _, _, _, _, _, _, _, _, _, _, _, _, _, _, _, _, _, rfl⟩
    · exact absurd h.1 H0.out

set_option maxRecDepth 10000 in
set_option maxHeartbeats 4000000 in
theorem object_yes (n0 n1 n2 n3 n4 n5 n6 n7 : Int) (sx : Option Addr) (sl sc : Nat) (S : Nat → Sh) (R : Nat → Nat → Bool) (kind : Int) {x : Option Addr} {l c : Nat} {L : Nat → Int}  (w : World) (hS : Shps w sx sl S) (hR : ∀ i, i < sl → Refs w (S i).x (S i).l (R i))
    (hl : (l : Int) ≤ 1000000) (hc : l ≤ c) (hx : Rdf w x l L) (hr : Asks (AG n0 n1 n2 n3 n4 n5 n6 n7 sl S L l) (AK sl S kind false) (AI S kind 0 false) (AF S kind 0 false L l) 0) :
    Calls Tryz.prog 10 #[.agg #[.int .i64 n0, .int .i64 n1, .int .i64 n2, .int .i64 n3, .int .i64 n4, .int .i64 n5, .int .i64 n6, .int .i64 n7, .slice sx sl sc], .int .i64 kind, .slice x l c] w fun e w' => ∃ v, e = .returned (.tuple #[v, .int .i64 0]) ∧ Ws w' w.heap.size v (8 * l) (objF kind (R kind.toNat) L l (S kind.toNat).l) ∧ Kept w w' := by
  have HQ : Hid _ := hr.zero
  obtain ⟨hg, hk, _, hf⟩ := hr.zero
  have hkn : kind.toNat < sl := by have := hk.1; have := hk.2.1; omega
  have hfl : (S kind.toNat).l ≤ 40 := may_few (hg.1.2.2.2 _ hkn)
  have hsz := sizeU_hi false (S kind.toNat).l 0 (fun _ => hfl)
  have hl65 : l ≤ 65 := by have := hf.1; omega
  have hl1 : 1 ≤ l := by have := hf.1; simp only [sizeU] at this; simp at this; omega
  have hn0 : n0 ≤ 1024 := hg.1.1.1.2
  have hkd : 0 ≤ kind ∧ kind ≤ 1000 := ⟨hk.1, by have := hk.2.1; have := hg.1.2.2.1; omega⟩
  have hL : ∀ j, j < l → 0 ≤ L j ∧ L j ≤ 1024 := fun j hj => by have := hg.2 j hj; omega
  obtain ⟨xb, xo, rfl, hxb, hxc⟩ := hx (by omega)
  have C0 : Hid (∀ w', Kept w w' → Calls Tryz.prog 30 #[.agg #[.int .i64 n0, .int .i64 n1, .int .i64 n2, .int .i64 n3, .int .i64 n4, .int .i64 n5, .int .i64 n6, .int .i64 n7, .slice sx sl sc], .int .i64 kind, .int .i64 0, .slice (some ⟨xb, xo, none⟩) l c, .bool false] w' _) := fun w' k => asked_any n0 n1 n2 n3 n4 n5 n6 n7 sx sl sc S R kind 0 (c := c) false 0 w' (hS.kept k) (fun i hi => (hR i hi).kept k) hl hc (hx.kept k) (fun _ => rfl) hr
  have CB : Hid (∀ w' k, Kept w w' → k < l → Calls Tryz.prog 33 #[.agg #[.int .i64 n0, .int .i64 n1, .int .i64 n2, .int .i64 n3, .int .i64 n4, .int .i64 n5, .int .i64 n6, .int .i64 n7, .slice sx sl sc], .int .i64 (L k)] w' _) := fun w' k q hk => begin_any n0 n1 n2 n3 n4 n5 n6 n7 sx sl sc S (L k) w' (hS.kept q) hg.1 (hg.2 k hk).1 (hg.2 k hk).2
  obtain ⟨fl, hfe⟩ : ∃ fl, (S kind.toNat).l = fl := ⟨_, rfl⟩
  rw [hfe] at hfl
  have CW : Hid (∀ w' k rg, Kept w w' → k < l → Refs w' (some ⟨rg, 0, none⟩) fl (R kind.toNat) → Calls Tryz.prog 31 #[.int .i64 kind, .agg #[.bool false, .slice (some ⟨rg, 0, none⟩) fl fl], .slice (some ⟨xb, xo, none⟩) l c, .int .i64 k] w' fun e w'' => e = .returned (.agg #[.complex .f64 ((objW kind (R kind.toNat) L l fl k) 0).re ((objW kind (R kind.toNat) L l fl k) 0).im, .complex .f64 ((objW kind (R kind.toNat) L l fl k) 1).re ((objW kind (R kind.toNat) L l fl k) 1).im, .complex .f64 ((objW kind (R kind.toNat) L l fl k) 2).re ((objW kind (R kind.toNat) L l fl k) 2).im, .complex .f64 ((objW kind (R kind.toNat) L l fl k) 3).re ((objW kind (R kind.toNat) L l fl k) 3).im, .complex .f64 ((objW kind (R kind.toNat) L l fl k) 4).re ((objW kind (R kind.toNat) L l fl k) 4).im, .complex .f64 ((objW kind (R kind.toNat) L l fl k) 5).re ((objW kind (R kind.toNat) L l fl k) 5).im, .complex .f64 ((objW kind (R kind.toNat) L l fl k) 6).re ((objW kind (R kind.toNat) L l fl k) 6).im, .complex .f64 ((objW kind (R kind.toNat) L l fl k) 7).re ((objW kind (R kind.toNat) L l fl k) 7).im]) ∧ Kept w' w'') := fun w' k rg q hk hr => objectWords_any kind rg fl (R kind.toNat) (c := c) k w' hkd hfl hr (hx.kept q) hk (by omega) hL
  have HX : Hid (xb < w.heap.size ∧ ∀ j, j < l → w.cell? ⟨xb, xo + j, none⟩ = some (.int .i64 (L j))) := ⟨hxb, hxc⟩
  have HFE : Hid ((S kind.toNat).l = fl) := hfe
  have HLL : Hid (∀ j, j < l → 0 ≤ L j ∧ L j ≤ 1024) := hL
  have hmk : ∀ w, (Instr.makeSlice 35 (.int .i64 0) (.int .i64 ((l : Int) * 8))).run Tryz.prog w = .ok (.slice (some ⟨w.heap.size, 0, none⟩) 0 (l * 8)) (w.alloc (.cells (madeCells #[.int .i64 0, .complex .f64 0 0] (l * 8 * 2)) 49)) := fun w => by
    have := run_make_writes (l * 8) (by omega) w
    simpa using this
  clear hS hR hl hc hr hx hxb hxc hfe hL hg hk hf hkd hsz hkn
  go_enter Tryz.func10, Tryz.ntmps10
  go_wp2_with fail
  refine wp_scope_both 1 (fun a u => ∃ k : Nat, k < l ∧ ∃ (sb g rg : Nat) (F : Nat → Cx), Hid (Ob w u l sb g rg k (cl n0 n1 n2 n3 n4 n5 n6 n7 (.slice sx sl sc)) fl (R kind.toNat) (objF kind (R kind.toNat) L l fl) F) ∧ ∃ u4 u5 u6 u7 u13 u14 u15 u16 u17 u18 u19 u20 u21 u22 u23 u24 u25 u26 u27 u28 u29 u30 u31 u32 u33 u34 u35 u36 u37 u38 u39 u40 u41 u42 u43 u44 u45 u46 u47 : Value, a = { tmps := #[.agg #[.int .i64 n0, .int .i64 n1, .int .i64 n2, .int .i64 n3, .int .i64 n4, .int .i64 n5, .int .i64 n6, .int .i64 n7, .slice sx sl sc], .int .i64 kind, .slice (some ⟨xb, xo, none⟩) l c, .pointer (some ⟨w.heap.size, 0, none⟩), u4, u5, u6, u7, .slice (some ⟨g, 0, none⟩) (k * 8) (l * 8), .pointer (some ⟨w.heap.size + 1, 0, none⟩), .int .i64 k, .pointer (some ⟨sb, 0, none⟩), .int .i64 0, u13, u14, u15, u16, u17, u18, u19, u20, u21, u22, u23, u24, u25, u26, u27, u28, u29, u30, u31, u32, u33, u34, u35, u36, u37, u38, u39, u40, u41, u42, u43, u44, u45, u46, u47], defers := [] }) (fun a _ => l - (intAt a 10).toNat) rfl ?_ ?_
  · rintro a u ⟨k, hkl, sb, g, rg, F, HO, u4, u5, u6, u7, u13, u14, u15, u16, u17, u18, u19, u20, u21, u22, u23, u24, u25, u26, u27, u28, u29, u30, u31, u32, u33, u34, u35, u36, u37, u38, u39, u40, u41, u42, u43, u44, u45, u46, u47, rfl⟩
    have s0 := HO.out.sh.at 0 rfl
    have s1 := HO.out.sh.at 1 rfl
    go_wp2_with fail
    refine (CW.out _ k rg HO.out.kept hkl HO.out.refs).mono ?_
    rintro e u2 ⟨rfl, K⟩
    have HO2 : Hid (Ob w u2 l sb g rg k (cl n0 n1 n2 n3 n4 n5 n6 n7 (.slice sx sl sc)) fl (R kind.toNat) (objF kind (R kind.toNat) L l fl) F) := HO.out.still K
    clear K HO s0 s1
    obtain ⟨G, hG⟩ : ∃ G, G = objW kind (R kind.toNat) L l fl k := ⟨_, rfl⟩
    have HG : Hid (G = objW kind (R kind.toNat) L l fl k) := hG
    rw [← hG]
    clear hG
    have q0 := HO2.out.fill.at 0 rfl
    have q1 := HO2.out.fill.at 1 rfl
    have q2 := HO2.out.fill.at 2 rfl
    have q3 := HO2.out.fill.at 3 rfl
    have q4 := HO2.out.fill.at 4 rfl
    have q5 := HO2.out.fill.at 5 rfl
    have q6 := HO2.out.fill.at 6 rfl
    have q7 := HO2.out.fill.at 7 rfl
    have fz := HO2.out.fill.fz
    go_upto_region 8 with fail
    generalize hW6 : ((((((((u2.setCell _ _).setCell _ _).setCell _ _).setCell _ _).setCell _ _).setCell _ _).setCell _ _).setCell _ _) = W6
    have HO6 : Hid (Ob w W6 l sb g rg k (cl n0 n1 n2 n3 n4 n5 n6 n7 (.slice sx sl sc)) fl (R kind.toNat) (objF kind (R kind.toNat) L l fl) G) := by
      have hB : Blk W6 (w.heap.size + 1) (eight G) := by
        rw [← hW6]
        exact (((((((HO2.out.fill.set (i := 0) rfl _).set (i := 1) rfl _).set (i := 2) rfl _).set (i := 3) rfl _).set (i := 4) rfl _).set (i := 5) rfl _).set (i := 6) rfl _).set (i := 7) rfl _
      have hM : Mut [w.heap.size + 1] u2 W6 := by
        rw [← hW6]
        exact ((((((((Mut.refl _ _).setCell (by simp) _).setCell (by simp) _).setCell (by simp) _).setCell (by simp) _).setCell (by simp) _).setCell (by simp) _).setCell (by simp) _).setCell (by simp) _
      exact HO2.out.filled hM hB
    clear hW6 HO2 fz q0 q1 q2 q3 q4 q5 q6 q7
    have hci : (k : Int) < (l : Int) := by omega
    refine wp_region_phase [(.slice (some ⟨g, 0, none⟩) (k * 8) (l * 8)), (.agg #[.int .i64 n0, .int .i64 n1, .int .i64 n2, .int .i64 n3, .int .i64 n4, .int .i64 n5, .int .i64 n6, .int .i64 n7, .slice sx sl sc]), (.slice (some ⟨xb, xo, none⟩) l c), (.int .i64 k), (.pointer (some ⟨xb, xo + k, none⟩)), (.int .i64 (L k)), (.int .i64 (L k * 8)), (.slice (some ⟨w.heap.size + 1, 0, none⟩) 8 8), (.slice (some ⟨g, 0, none⟩) (k * 8 + 8) (l * 8)), (.slice (some ⟨g, 0, none⟩) (k * 8 + 8) (l * 8))] [(8, 9), (31, 0), (32, 1), (33, 2), (34, 3), (35, 4), (36, 5), (37, 6), (38, 7), (39, 8)] [_, _, _, _, _, _, _, _, _, _, _, _, _, _, _, _, _, _, _, _, _, _, _, _, _, _, _, _, _, _, _, _, _, _, _, _, _, _, _, _, _, _, _, _, _, _, _, _] (fun d u => LJ W6 u w.heap.size g (l * 8) (k * 8) 8 (objF kind (R kind.toNat) L l fl) (d 8) ∧ (d 9 = true → d 0 = true)) (by kernel_rfl) (by kernel_rfl) (by kernel_rfl) (by kernel_rfl) rfl ?_ ?_ ?_
    · exact ⟨⟨(Mut.refl _ _).drew, by simpa using HO6.out.ws.kept (Kept.refl _).drew⟩, by simp⟩
    · intro i o ho a d u hh hj hi hd
      match i, ho, hi, hd with
      | 0, ho, hi, hd =>
        simp only [List.getElem?_cons_zero, Option.some.injEq] at ho
        subst ho
        have g8 : a.tmps[8]? = some (.slice (some ⟨g, 0, none⟩) (k * 8) (l * 8)) := (hh.rest 8 fun i o hio hdst => by
            have e9 : i = 9 := slots_inj (of_decide_eq_true (by kernel_rfl)) hio (j := 9) rfl hdst rfl
            subst e9
            cases hq : d 9
            · rfl
            · exact absurd (hj.2 hq) (by simp [hi])).trans rfl
        clear hh hd
        have HN : Hid (LJ W6 u w.heap.size g (l * 8) (k * 8) 8 (objF kind (R kind.toNat) L l fl) (done d 0 8) ∧ (done d 0 9 = true → done d 0 0 = true)) := ⟨hj.1.same (by simp [done]), by simp [done]⟩
        clear hj hi
        refine wpOp_step rfl (fun K hK => ?_)
        go_simp
        exact hK _ _ ⟨by simp [Act.put], HN.out⟩
      | 1, ho, hi, hd =>
        simp only [List.getElem?_cons_succ, List.getElem?_cons_zero, Option.some.injEq] at ho
        subst ho
        have g3 : a.tmps[3]? = some (.pointer (some ⟨w.heap.size, 0, none⟩)) := hh.old 3 (by kernel_rfl) rfl
        have B := HO6.out.cf.muts hj.1.mu (by have := HO6.out.g1; simp; omega)
        have c0 := B.at 0 rfl
        have c1 := B.at 1 rfl
        have c2 := B.at 2 rfl
        have c3 := B.at 3 rfl
        have c4 := B.at 4 rfl
        have c5 := B.at 5 rfl
        have c6 := B.at 6 rfl
        have c7 := B.at 7 rfl
        have c8 := B.at 8 rfl
        clear B
        clear hh hd
        have HN : Hid (LJ W6 u w.heap.size g (l * 8) (k * 8) 8 (objF kind (R kind.toNat) L l fl) (done d 1 8) ∧ (done d 1 9 = true → done d 1 0 = true)) := ⟨hj.1.same (by simp [done]), by simpa [done] using hj.2⟩
        clear hj hi
        refine wpOp_step rfl (fun K hK => ?_)
        go_simp
        exact hK _ _ ⟨by simp [Act.put], HN.out⟩
      | 2, ho, hi, hd =>
        simp only [List.getElem?_cons_succ, List.getElem?_cons_zero, Option.some.injEq] at ho
        subst ho
        have g2 : a.tmps[2]? = some (.slice (some ⟨xb, xo, none⟩) l c) := hh.old 2 (by kernel_rfl) rfl
        clear hh hd
        have HN : Hid (LJ W6 u w.heap.size g (l * 8) (k * 8) 8 (objF kind (R kind.toNat) L l fl) (done d 2 8) ∧ (done d 2 9 = true → done d 2 0 = true)) := ⟨hj.1.same (by simp [done]), by simpa [done] using hj.2⟩
        clear hj hi
        refine wpOp_step rfl (fun K hK => ?_)
        go_simp
        exact hK _ _ ⟨by simp [Act.put], HN.out⟩
      | 3, ho, hi, hd =>
        simp only [List.getElem?_cons_succ, List.getElem?_cons_zero, Option.some.injEq] at ho
        subst ho
        have g10 : a.tmps[10]? = some (.int .i64 k) := hh.old 10 (by kernel_rfl) rfl
        clear hh hd
        have HN : Hid (LJ W6 u w.heap.size g (l * 8) (k * 8) 8 (objF kind (R kind.toNat) L l fl) (done d 3 8) ∧ (done d 3 9 = true → done d 3 0 = true)) := ⟨hj.1.same (by simp [done]), by simpa [done] using hj.2⟩
        clear hj hi
        refine wpOp_step rfl (fun K hK => ?_)
        go_simp
        exact hK _ _ ⟨by simp [Act.put], HN.out⟩
      | 4, ho, hi, hd =>
        simp only [List.getElem?_cons_succ, List.getElem?_cons_zero, Option.some.injEq] at ho
        subst ho
        have g33 : a.tmps[33]? = some (.slice (some ⟨xb, xo, none⟩) l c) := hh.did 2 _ 33 rfl rfl (hd { on := 2, ground := .data } (by simp) rfl)
        have g34 : a.tmps[34]? = some (.int .i64 k) := hh.did 3 _ 34 rfl rfl (hd { on := 3, ground := .data } (by simp) rfl)
        clear hh hd
        have HN : Hid (LJ W6 u w.heap.size g (l * 8) (k * 8) 8 (objF kind (R kind.toNat) L l fl) (done d 4 8) ∧ (done d 4 9 = true → done d 4 0 = true)) := ⟨hj.1.same (by simp [done]), by simpa [done] using hj.2⟩
        clear hj hi
        refine wpOp_step rfl (fun K hK => ?_)
        go_simp
        exact hK _ _ ⟨by simp [Act.put], HN.out⟩
      | 5, ho, hi, hd =>
        simp only [List.getElem?_cons_succ, List.getElem?_cons_zero, Option.some.injEq] at ho
        subst ho
        have g35 : a.tmps[35]? = some (.pointer (some ⟨xb, xo + k, none⟩)) := hh.did 4 _ 35 rfl rfl (hd { on := 4, ground := .data } (by simp) rfl)
        have cc : u.cell? ⟨xb, xo + k, none⟩ = some (.int .i64 (L k)) := ((hj.1.mu.cell (by have := HX.out.1; have := HO6.out.kept.size; simp; omega) (by have := HX.out.1; have := HO6.out.g1; simp; omega)).trans (HO6.out.kept.cell HX.out.1)).trans (HX.out.2 k hkl)
        clear hh hd
        have HN : Hid (LJ W6 u w.heap.size g (l * 8) (k * 8) 8 (objF kind (R kind.toNat) L l fl) (done d 5 8) ∧ (done d 5 9 = true → done d 5 0 = true)) := ⟨hj.1.same (by simp [done]), by simpa [done] using hj.2⟩
        clear hj hi
        refine wpOp_step rfl (fun K hK => ?_)
        go_simp
        exact hK _ _ ⟨by simp [Act.put], HN.out⟩
      | 6, ho, hi, hd =>
        simp only [List.getElem?_cons_succ, List.getElem?_cons_zero, Option.some.injEq] at ho
        subst ho
        have g32 : a.tmps[32]? = some (.agg #[.int .i64 n0, .int .i64 n1, .int .i64 n2, .int .i64 n3, .int .i64 n4, .int .i64 n5, .int .i64 n6, .int .i64 n7, .slice sx sl sc]) := hh.did 1 _ 32 rfl rfl (hd { on := 1, ground := .data } (by simp) rfl)
        have g36 : a.tmps[36]? = some (.int .i64 (L k)) := hh.did 5 _ 36 rfl rfl (hd { on := 5, ground := .data } (by simp) rfl)
        have CA := CB.out u k (HO6.out.kept.muts hj.1.mu (by have := HO6.out.g1; simp; omega)) hkl
        clear hh hd
        have HN : Hid (∀ u', Kept u u' → LJ W6 u' w.heap.size g (l * 8) (k * 8) 8 (objF kind (R kind.toNat) L l fl) (done d 6 8) ∧ (done d 6 9 = true → done d 6 0 = true)) := fun u' q => ⟨hj.1.kept q (by simp [done]), by simpa [done] using hj.2⟩
        clear hj hi
        refine wpOp_step rfl (fun K hK => ?_)
        go_simp
        refine CA.mono ?_
        rintro e u' ⟨rfl, q⟩
        exact hK _ _ ⟨by simp [Act.put], HN.out u' q⟩
      | 7, ho, hi, hd =>
        simp only [List.getElem?_cons_succ, List.getElem?_cons_zero, Option.some.injEq] at ho
        subst ho
        have g9 : a.tmps[9]? = some (.pointer (some ⟨w.heap.size + 1, 0, none⟩)) := hh.old 9 (by kernel_rfl) rfl
        clear hh hd
        have HN : Hid (LJ W6 u w.heap.size g (l * 8) (k * 8) 8 (objF kind (R kind.toNat) L l fl) (done d 7 8) ∧ (done d 7 9 = true → done d 7 0 = true)) := ⟨hj.1.same (by simp [done]), by simpa [done] using hj.2⟩
        clear hj hi
        refine wpOp_step rfl (fun K hK => ?_)
        go_simp
        exact hK _ _ ⟨by simp [Act.put], HN.out⟩
      | 8, ho, hi, hd =>
        simp only [List.getElem?_cons_succ, List.getElem?_cons_zero, Option.some.injEq] at ho
        subst ho
        have g31 : a.tmps[31]? = some (.slice (some ⟨g, 0, none⟩) (k * 8) (l * 8)) := hh.did 0 _ 31 rfl rfl (hd { on := 0, ground := .data } (by simp) rfl)
        have g37 : a.tmps[37]? = some (.int .i64 (L k * 8)) := hh.did 6 _ 37 rfl rfl (hd { on := 6, ground := .data } (by simp) rfl)
        have g38 : a.tmps[38]? = some (.slice (some ⟨w.heap.size + 1, 0, none⟩) 8 8) := hh.did 7 _ 38 rfl rfl (hd { on := 7, ground := .data } (by simp) rfl)
        have hws := hj.1.ws
        rw [hi] at hws
        simp only [Bool.false_eq_true, if_false] at hws
        have CA := lay_room (m := 8) (d := 8) (L k * 8) u hws (by omega) (by omega) (fun _ => by have := HLL.out k hkl; omega) (y := some ⟨w.heap.size + 1, 0, none⟩) (Z := G) (fun _ => ⟨w.heap.size + 1, 0, rfl, Nat.lt_of_lt_of_le HO6.out.fill.lt hj.1.mu.size, fun j hj8 => by
          rw [Nat.zero_add]
          exact (HO6.out.fill.muts hj.1.mu (by have := HO6.out.g1; simp; omega)).at j (eight_get _ hj8)⟩) (fun b o e => by have := HO6.out.g1; simp at e; omega) (fun j hj8 => by
          rw [HG.out]
          have e1 : (k * 8 + j) / 8 = k := by omega
          have e2 : (k * 8 + j) % 8 = j := by omega
          simp only [objF, e1, e2])
        clear hws
        clear hh hd
        have HN : Hid (∀ u', Ws u' w.heap.size (.slice (some ⟨g, 0, none⟩) (k * 8 + 8) (l * 8)) (k * 8 + 8) (objF kind (R kind.toNat) L l fl) → Mut [g] u u' → LJ W6 u' w.heap.size g (l * 8) (k * 8) 8 (objF kind (R kind.toNat) L l fl) (done d 8 8) ∧ (done d 8 9 = true → done d 8 0 = true)) := fun u' a b => ⟨⟨hj.1.mu.trans b, by simpa [done] using a⟩, by simpa [done] using hj.2⟩
        clear hj hi
        refine wpOp_step rfl (fun K hK => ?_)
        go_simp
        refine CA.mono ?_
        rintro e u' ⟨rfl, a, b⟩
        exact hK _ _ ⟨by simp [Act.put], HN.out u' a b⟩
      | 9, ho, hi, hd =>
        simp only [List.getElem?_cons_succ, List.getElem?_cons_zero, Option.some.injEq] at ho
        subst ho
        have g39 : a.tmps[39]? = some (.slice (some ⟨g, 0, none⟩) (k * 8 + 8) (l * 8)) := hh.did 8 _ 39 rfl rfl (hd { on := 8, ground := .data } (by simp) rfl)
        have d0 : d 0 = true := hd { on := 0, ground := .phase } (by simp) rfl
        clear hh hd
        have HN : Hid (LJ W6 u w.heap.size g (l * 8) (k * 8) 8 (objF kind (R kind.toNat) L l fl) (done d 9 8) ∧ (done d 9 9 = true → done d 9 0 = true)) := ⟨hj.1.same (by simp [done]), by simp [done, d0]⟩
        clear hj hi d0
        refine wpOp_step rfl (fun K hK => ?_)
        go_simp
        exact hK _ _ ⟨by simp [Act.put], HN.out⟩
      | n + 10, ho, hi, hd => simp at ho
    · intro u d hall hj
      have HO7 : Hid (Ob w u l sb g rg (k + 1) (cl n0 n1 n2 n3 n4 n5 n6 n7 (.slice sx sl sc)) fl (R kind.toNat) (objF kind (R kind.toNat) L l fl) G) := by
        refine HO6.out.laid hj.1.mu ?_
        have := hj.1.ws
        rw [hall 8 (by simp)] at this
        simpa using this
      clear hall hj HO6
      simp only [List.getD_cons_succ, List.getD_cons_zero]
      by_cases hk1 : k + 1 < l
      · have hk2 : (k : Int) + 1 < (l : Int) := by omega
        go_wp2
        go_step3
        rw [show k * 8 + 8 = (k + 1) * 8 by omega]
        refine ⟨rfl, ⟨k + 1, hk1, sb, g, rg, _, HO7, _, _, _, _, _, _, _, _, _, _, _, _, _, _, _, _, _, _, _, _, _, _, _, _, _, _, _, _, _, _, _, _, _, _, _, _, _, _, _, rfl⟩, ?_⟩
        simp [intAt]
        omega
      · have hk2 : ¬ (k : Int) + 1 < (l : Int) := by omega
        have HE : Hid (k + 1 = l) := by exact (by omega : k + 1 = l)
        go_wp2
        go_step3
        go_wp2
        simp only [Exit.jump]
        go_ret2
        refine ⟨_, rfl, ?_, HO7.out.kept⟩
        have h7 := HO7.out.ws
        rw [HE.out] at h7
        rw [HFE.out, Nat.mul_comm 8 l]
        have e8 : k * 8 + 8 = l * 8 := by have := HE.out; omega
        rw [e8]
        exact h7
  · intro pass
    go_wp2_with fail
    generalize hW0 : w.alloc _ = W0
    have z0 : W0.heap.size = w.heap.size + 1 := by rw [← hW0]; simp
    have b0 : Blk W0 w.heap.size (cl n0 n1 n2 n3 n4 n5 n6 n7 (.slice sx sl sc)) := by rw [← hW0]; exact Blk.new w _ _
    have k0 : Kept w W0 := by rw [← hW0]; exact (Kept.refl w).alloc _ _
    clear hW0
    generalize hW1 : W0.alloc _ = W1
    have b1 : Blk W1 (w.heap.size + 1) (eight fun _ => cz) := by rw [← hW1, ← z0]; exact Blk.new W0 (eight fun _ => cz) _
    have k1 : Kept W0 W1 := by rw [← hW1]; exact (Kept.refl W0).alloc _ _
    have HW : Hid (Kept w W1 ∧ Blk W1 w.heap.size (cl n0 n1 n2 n3 n4 n5 n6 n7 (.slice sx sl sc)) ∧ Blk W1 (w.heap.size + 1) (eight fun _ => cz)) := ⟨k0.trans k1, b0.kept k1, b1⟩
    clear hW1 z0 b0 b1 k0 k1
    refine (C0.out _ HW.out.1).mono ?_
    rintro e w2 ⟨h | h, K⟩
    · exact absurd rfl h.1
    obtain ⟨_, rg, rfl, hrg, hRf⟩ := h
    have HW2 : Hid (Kept w w2 ∧ Blk w2 w.heap.size (cl n0 n1 n2 n3 n4 n5 n6 n7 (.slice sx sl sc)) ∧ Blk w2 (w.heap.size + 1) (eight fun _ => cz) ∧ w.heap.size + 1 < rg ∧ Refs w2 (some ⟨rg, 0, none⟩) fl (R kind.toNat)) := by
      refine ⟨HW.out.1.trans K, HW.out.2.1.kept K, HW.out.2.2.kept K, ?_, ?_⟩
      · have := HW.out.2.2.lt; omega
      · rw [← HFE.out]; exact hRf
    clear K hrg hRf HW C0
    rw [HFE.out]
    go_wp2_with fail
    go_step3
    rename_i aK
    simp only [Exit.then]
    refine aK _ _ (pass _ _ ?_)
    refine ⟨0, by omega, w2.heap.size, w2.heap.size + 1, rg, fun _ => cz, ?_, _, _, _, _, _, _, _, _, _, _, _, _, _, _, _, _, _, _, _, _, _, _, _, _, _, _, _, _, _, _, _, _, _, _, _, _, _, _, _, rfl⟩
    have k3 : Kept w2 (w2.alloc (Obj.cells #[Value.bool false, Value.slice (some { block := rg, off := 0 }) fl fl] 29)) := (Kept.refl w2).alloc _ _
    have b3 : Blk (w2.alloc (Obj.cells #[Value.bool false, Value.slice (some { block := rg, off := 0 }) fl fl] 29)) w2.heap.size [.bool false, .slice (some ⟨rg, 0, none⟩) fl fl] := Blk.new w2 [_, _] _
    have z3 : (w2.alloc (Obj.cells #[Value.bool false, Value.slice (some { block := rg, off := 0 }) fl fl] 29)).heap.size = w2.heap.size + 1 := by simp
    have w3 := ws_made (w2.alloc (Obj.cells #[Value.bool false, Value.slice (some { block := rg, off := 0 }) fl fl] 29)) w.heap.size (l * 8) (objF kind (R kind.toNat) L l fl) (by have := HW2.out.1.size; omega) (by omega)
    rw [z3] at w3
    have k4 := k3.trans ((Kept.refl _).alloc (madeCells #[.int .i64 0, .complex .f64 0 0] (l * 8 * 2)) 49)
    have hlt := HW2.out.2.2.1.lt
    refine ⟨HW2.out.1.trans k4, HW2.out.2.1.kept k4, HW2.out.2.2.1.kept k4, b3.kept ((Kept.refl _).alloc _ _), HW2.out.2.2.2.2.kept k4, by simpa using w3, by omega, HW2.out.2.2.2.1, by omega, by omega, fun h0 => ?_⟩
    obtain ⟨b, o, e, hb, _⟩ := HW2.out.2.2.2.2 h0
    obtain ⟨rfl, _⟩ : rg = b ∧ 0 = o := by simpa using e
    omega
end Go.Proofs.YtpdclckgnajcdaaGreat
