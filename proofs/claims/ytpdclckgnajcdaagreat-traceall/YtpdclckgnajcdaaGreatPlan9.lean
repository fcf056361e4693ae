/-
  Contract of package plan's Array.
-/
import Derived.Test.YtpdclckgnajcdaaGreatPlan8
namespace Go.Proofs.YtpdclckgnajcdaaGreat
open Go.RowKit
attribute [local go_sem] run_store_complex

/-- Word j of fragment k of an array. -/
def arrW (kind n mode : Int) (R : Nat → Bool) (L : Nat → Int) (l : Nat) (at' : Int) (k j : Nat) : Cx := if k = 0 then sentW kind n mode L l at' j else un (R 0)
/-- Write i of an array. -/
def arrF (kind n mode : Int) (R : Nat → Bool) (L : Nat → Int) (l : Nat) (at' : Int) (i : Nat) : Wr :=
  if i < l * 8 then ⟨L (i / 8) * 8 + ((i % 8 : Nat) : Int), arrW kind n mode R L l at' (i / 8) (i % 8)⟩ else ⟨at' + ((i - l * 8 : Nat) : Int), spW L l (i - l * 8)⟩
/-- How many words of a spine are written. -/
def spN (n : Int) (L : Nat → Int) (l : Nat) : Nat := if modeA n L l = 1 then l + 1 else 0

/-- Between two fragments of an array: k of them laid. -/
structure Ar (w u : World) (l sb g rg k sn : Nat) (sy : Option Addr) (cf : List Value) (R : Nat → Bool) (Z : Nat → Cx) (f : Nat → Wr) (F : Nat → Cx) : Prop where
  kept : Kept w u
  cf : Blk u w.heap.size cf
  fill : Blk u (w.heap.size + 1) (eight F)
  sh : Blk u sb [.bool true, .slice (some ⟨rg, 0, none⟩) 1 1]
  refs : Refs u (some ⟨rg, 0, none⟩) 1 R
  ws : Ws u w.heap.size (.slice (some ⟨g, 0, none⟩) (k * 8) (l * 8 + sn)) (k * 8) f
  sp : Rdz u sy sn Z
  s1 : w.heap.size + 1 < sb
  r1 : w.heap.size + 1 < rg
  g1 : w.heap.size + 1 < g
  gs : g ≠ sb
  gr : g ≠ rg
  gp : ∀ b o, sy = some ⟨b, o, none⟩ → b ≠ g ∧ b ≠ w.heap.size + 1
section
variable {w u u' : World} {l sb g rg k sn : Nat} {sy : Option Addr} {cf : List Value} {R : Nat → Bool} {Z : Nat → Cx} {f : Nat → Wr} {F G : Nat → Cx}
theorem Ar.still (h : Ar w u l sb g rg k sn sy cf R Z f F) (q : Kept u u') : Ar w u' l sb g rg k sn sy cf R Z f F :=
  ⟨h.kept.trans q, h.cf.kept q, h.fill.kept q, h.sh.kept q, h.refs.kept q, h.ws.kept q, h.sp.kept q, h.s1, h.r1, h.g1, h.gs, h.gr, h.gp⟩
theorem Ar.filled (h : Ar w u l sb g rg k sn sy cf R Z f F) (q : Mut [w.heap.size + 1] u u') (hG : Blk u' (w.heap.size + 1) (eight G)) : Ar w u' l sb g rg k sn sy cf R Z f G := by
  have := h.s1
  have := h.r1
  have := h.g1
  refine ⟨h.kept.muts q (by simp), h.cf.muts q (by simp), hG, h.sh.muts q (by simp; omega), h.refs.muts q (fun _ => by simp; omega), h.ws.muts q (fun k hk => ?_), h.sp.muts q (fun b o e => by have := (h.gp b o e).2; simpa using this), h.s1, h.r1, h.g1, h.gs, h.gr, h.gp⟩
  obtain rfl : g = k := by simpa [Value.ownBlock] using hk
  simp
  omega
theorem Ar.laid (h : Ar w u l sb g rg k sn sy cf R Z f F) (q : Mut [g] u u') (hw : Ws u' w.heap.size (.slice (some ⟨g, 0, none⟩) (k * 8 + 8) (l * 8 + sn)) (k * 8 + 8) f) : Ar w u' l sb g rg (k + 1) sn sy cf R Z f F := by
  have := h.g1
  refine ⟨h.kept.muts q (by simp; omega), h.cf.muts q (by simp; omega), h.fill.muts q (by simp; omega), h.sh.muts q (by have := h.gs; simp; omega), h.refs.muts q (fun h0 => by have := h.gr; simp; omega), ?_, h.sp.muts q (fun b o e => by have := (h.gp b o e).1; simpa using this), h.s1, h.r1, h.g1, h.gs, h.gr, h.gp⟩
  have e : (k + 1) * 8 = k * 8 + 8 := by omega
  rw [e]
  exact hw
end

set_option maxRecDepth 10000 in
set_option maxHeartbeats 4000000 in
theorem array_no (n0 n1 n2 n3 n4 n5 n6 n7 : Int) (sx : Option Addr) (sl sc : Nat) (S : Nat → Sh) (R : Nat → Nat → Bool) (kind n : Int) {x : Option Addr} {l c : Nat} {L : Nat → Int} (at' : Int) (r : Int) (w : World) (hS : Shps w sx sl S) (hR : ∀ i, i < sl → Refs w (S i).x (S i).l (R i))
    (hl : (l : Int) ≤ 1000000) (hc : l ≤ c) (hx : Rdf w x l L) (hr : Asks (AG n0 n1 n2 n3 n4 n5 n6 n7 sl S L l) (AK sl S kind true) (AI S kind n true) (AF S kind n true L l) r) (h0 : r ≠ 0) :
    Calls Tryz.prog 11 #[.agg #[.int .i64 n0, .int .i64 n1, .int .i64 n2, .int .i64 n3, .int .i64 n4, .int .i64 n5, .int .i64 n6, .int .i64 n7, .slice sx sl sc], .int .i64 kind, .int .i64 n, .slice x l c, .int .i64 at'] w fun e w' => e = .returned (.tuple #[.slice none 0 0, .int .i64 r]) ∧ Kept w w' := by
  have C0 : Hid (∀ w', Kept w w' → Calls Tryz.prog 30 #[.agg #[.int .i64 n0, .int .i64 n1, .int .i64 n2, .int .i64 n3, .int .i64 n4, .int .i64 n5, .int .i64 n6, .int .i64 n7, .slice sx sl sc], .int .i64 kind, .int .i64 n, .slice x l c, .bool true] w' _) := fun w' k => asked_any n0 n1 n2 n3 n4 n5 n6 n7 sx sl sc S R kind n (c := c) true r w' (hS.kept k) (fun i hi => (hR i hi).kept k) hl hc (hx.kept k) (fun h => by cases h) hr
  have e0 : (r != 0) = true := by simpa using h0
  have H0 : Hid (r ≠ 0) := h0
  clear hS hR hl hc hx hr h0
  go_enter Tryz.func11, Tryz.ntmps11
  go_wp2_with fail
  refine wp_scope_both 0 (fun a u => Hid (Kept w u) ∧ ∃ u0 u1 u2 u3 u4 u5 u6 u7 u8 u9 u10 u11 u13 u14 u15 u16 u17 u19 u20 u21 u22 u23 u24 u25 u26 u27 u28 u29 u30 u31 u32 u33 u34 u35 u36 u37 u38 u39 u40 u41 u42 u43 u44 u45 u46 u47 u48 u49 u50 u51 u52 u53 u54 u55 u56 u57 u58 u59 u60 u61 u62 u63 u64 u65 u66 u67 u68 u69 u70 u71 u72 u73 u74 u75 u76 u77 : Value, a = { tmps := #[u0, u1, u2, u3, u4, u5, u6, u7, u8, u9, u10, u11, .slice none 0 0, u13, u14, u15, u16, u17, .int .i64 r, u19, u20, u21, u22, u23, u24, u25, u26, u27, u28, u29, u30, u31, u32, u33, u34, u35, u36, u37, u38, u39, u40, u41, u42, u43, u44, u45, u46, u47, u48, u49, u50, u51, u52, u53, u54, u55, u56, u57, u58, u59, u60, u61, u62, u63, u64, u65, u66, u67, u68, u69, u70, u71, u72, u73, u74, u75, u76, u77], defers := [] }) (fun _ _ => 0) rfl ?_ ?_
  · rintro a u ⟨K, u0, u1, u2, u3, u4, u5, u6, u7, u8, u9, u10, u11, u13, u14, u15, u16, u17, u19, u20, u21, u22, u23, u24, u25, u26, u27, u28, u29, u30, u31, u32, u33, u34, u35, u36, u37, u38, u39, u40, u41, u42, u43, u44, u45, u46, u47, u48, u49, u50, u51, u52, u53, u54, u55, u56, u57, u58, u59, u60, u61, u62, u63, u64, u65, u66, u67, u68, u69, u70, u71, u72, u73, u74, u75, u76, u77, rfl⟩
    go_wp2
    simp only [Exit.jump]
    go_ret2
    exact ⟨rfl, K.out⟩
  · intro pass
    go_wp2_with fail
    generalize hW0 : w.alloc _ = W0
    have k0 : Kept w W0 := by rw [← hW0]; exact (Kept.refl w).alloc _ _
    clear hW0
    generalize hW1 : W0.alloc _ = W1
    have k1 : Hid (Kept w W1) := by rw [← hW1]; exact k0.alloc _ _
    clear hW1 k0
    refine (C0.out _ k1.out).mono ?_
    rintro e w2 ⟨h | h, K⟩
    · obtain ⟨_, rfl⟩ := h
      have K2 : Hid (Kept w w2) := k1.out.trans K
      clear K pass
      go_wp2
      go_step3
      exact ⟨rfl, K2.out.alloc _ _, _, _, _, _, _, _, _, _, _, _, _, _, _, _, _, _, _, _, _, _, _, _, _, _, _, _, _, _, _, _, _, _, _, _, _, _, _, _, _, _, _, _, _, _, _, _, _, _, _, _, _, _, _, _, _, _, _, _, _, _, _, _, _, _, _, _, _, _, _, _, _, _, _, _, _, _, rfl⟩
    · exact absurd h.1 H0.out

set_option maxRecDepth 10000 in
set_option maxHeartbeats 4000000 in
theorem array_bad (n0 n1 n2 n3 n4 n5 n6 n7 : Int) (sx : Option Addr) (sl sc : Nat) (S : Nat → Sh) (R : Nat → Nat → Bool) (kind n : Int) {x : Option Addr} {l c : Nat} {L : Nat → Int} (at' : Int)  (w : World) (hS : Shps w sx sl S) (hR : ∀ i, i < sl → Refs w (S i).x (S i).l (R i))
    (hl : (l : Int) ≤ 1000000) (hc : l ≤ c) (hx : Rdf w x l L) (hr : Asks (AG n0 n1 n2 n3 n4 n5 n6 n7 sl S L l) (AK sl S kind true) (AI S kind n true) (AF S kind n true L l) 0) (hm : modeA n L l = 1) (hb : ¬ Fit n0 n1 at' (l + 1)) :
    Calls Tryz.prog 11 #[.agg #[.int .i64 n0, .int .i64 n1, .int .i64 n2, .int .i64 n3, .int .i64 n4, .int .i64 n5, .int .i64 n6, .int .i64 n7, .slice sx sl sc], .int .i64 kind, .int .i64 n, .slice x l c, .int .i64 at'] w fun e w' => e = .returned (.tuple #[.slice none 0 0, .int .i64 2]) ∧ Kept w w' := by
  obtain ⟨hg, hk, hi, hf⟩ := hr.zero
  have hkn : kind.toNat < sl := by have := hk.1; have := hk.2.1; omega
  have hfl : (S kind.toNat).l = 1 := (may_len (hg.1.2.2.2 _ hkn)).2 hk.2.2
  have hsz := sizeU_hi true (S kind.toNat).l n (fun h => by cases h)
  have hl65 : l ≤ 65 := by have := hf.1; omega
  have hn5 : 0 ≤ n ∧ n ≤ 512 := by
    have := hi
    unfold AI at this
    simp only [sizeU, arrSize, if_true] at this
    split at this <;> omega
  have hl1 : (l : Int) = 1 + dat n := by
    have := hf.1
    simp only [sizeU, arrSize, if_true] at this
    rw [if_neg (by omega)] at this
    exact this
  have hdl := dat_lo n
  have hn0 : n0 ≤ 1024 := hg.1.1.1.2
  have hn1 : 0 ≤ n1 ∧ n1 ≤ 2048 := hg.1.1.2.1
  have hkd : 0 ≤ kind ∧ kind ≤ 1000 := ⟨hk.1, by have := hk.2.1; have := hg.1.2.2.1; omega⟩
  have hL : ∀ j, j < l → 0 ≤ L j ∧ L j ≤ 1024 := fun j hj => by have := hg.2 j hj; omega
  obtain ⟨xb, xo, rfl, hxb, hxc⟩ := hx (by omega)
  have C0 : Hid (∀ w', Kept w w' → Calls Tryz.prog 30 #[.agg #[.int .i64 n0, .int .i64 n1, .int .i64 n2, .int .i64 n3, .int .i64 n4, .int .i64 n5, .int .i64 n6, .int .i64 n7, .slice sx sl sc], .int .i64 kind, .int .i64 n, .slice (some ⟨xb, xo, none⟩) l c, .bool true] w' _) := fun w' k => asked_any n0 n1 n2 n3 n4 n5 n6 n7 sx sl sc S R kind n (c := c) true 0 w' (hS.kept k) (fun i hi => (hR i hi).kept k) hl hc (hx.kept k) (fun h => by cases h) hr
  rw [hfl] at C0
  have CM : Hid (∀ w', Kept w w' → Calls Tryz.prog 34 #[.int .i64 n, .slice (some ⟨xb, xo, none⟩) l c] w' _) := fun w' k => arrayMode_any n (c := c) w' (by omega) (hx.kept k) hL
  have CS : Hid (∀ w', Kept w w' → 2 ≤ l → Calls Tryz.prog 35 #[.slice (some ⟨xb, xo, none⟩) l c] w' _) := fun w' k h2 => spineWords_any (c := c) w' h2 (by omega) hc ⟨Nat.lt_of_lt_of_le hxb k.size, fun j hj => (k.cell hxb).trans (hxc j hj)⟩ hL
  have CF : Hid (∀ w' (len : Nat) p, Kept w w' → len ≤ 1000 → (p = true ↔ len = 0 ∨ Fit n0 n1 at' len) → Calls Tryz.prog 36 #[.agg #[.int .i64 n0, .int .i64 n1, .int .i64 n2, .int .i64 n3, .int .i64 n4, .int .i64 n5, .int .i64 n6, .int .i64 n7, .slice sx sl sc], .int .i64 at', .int .i64 len] w' _) := fun w' len p k hlen hp => spineFits_any n0 n1 n2 n3 n4 n5 n6 n7 sx sl sc S at' len p w' (hS.kept k) hg.1 hlen hp
  have h2 : 2 ≤ l := by
    unfold modeA at hm
    split at hm
    · cases hm
    · omega
  obtain ⟨mo, hmo⟩ : ∃ mo, modeA n L l = mo := ⟨_, rfl⟩
  rw [hmo] at CM
  have HMO : Hid (mo = 1) := by rw [← hmo]; exact hm
  have HB : Hid (¬ Fit n0 n1 at' (l + 1)) := hb
  clear hS hR hl hr hx hxb hxc hL hg hk hf hi hkd hsz hkn hm hb hmo hl1 hfl hn1 hdl
  go_enter Tryz.func11, Tryz.ntmps11
  go_wp2_with fail
  refine wp_scope_both 0 (fun a u => Hid (Kept w u) ∧ ∃ u0 u1 u2 u3 u4 u5 u6 u7 u8 u9 u10 u11 u13 u14 u15 u16 u17 u19 u20 u21 u22 u23 u24 u25 u26 u27 u28 u29 u30 u31 u32 u33 u34 u35 u36 u37 u38 u39 u40 u41 u42 u43 u44 u45 u46 u47 u48 u49 u50 u51 u52 u53 u54 u55 u56 u57 u58 u59 u60 u61 u62 u63 u64 u65 u66 u67 u68 u69 u70 u71 u72 u73 u74 u75 u76 u77 : Value, a = { tmps := #[u0, u1, u2, u3, u4, u5, u6, u7, u8, u9, u10, u11, .slice none 0 0, u13, u14, u15, u16, u17, .int .i64 2, u19, u20, u21, u22, u23, u24, u25, u26, u27, u28, u29, u30, u31, u32, u33, u34, u35, u36, u37, u38, u39, u40, u41, u42, u43, u44, u45, u46, u47, u48, u49, u50, u51, u52, u53, u54, u55, u56, u57, u58, u59, u60, u61, u62, u63, u64, u65, u66, u67, u68, u69, u70, u71, u72, u73, u74, u75, u76, u77], defers := [] }) (fun _ _ => 0) rfl ?_ ?_
  · rintro a u ⟨K, u0, u1, u2, u3, u4, u5, u6, u7, u8, u9, u10, u11, u13, u14, u15, u16, u17, u19, u20, u21, u22, u23, u24, u25, u26, u27, u28, u29, u30, u31, u32, u33, u34, u35, u36, u37, u38, u39, u40, u41, u42, u43, u44, u45, u46, u47, u48, u49, u50, u51, u52, u53, u54, u55, u56, u57, u58, u59, u60, u61, u62, u63, u64, u65, u66, u67, u68, u69, u70, u71, u72, u73, u74, u75, u76, u77, rfl⟩
    go_wp2
    simp only [Exit.jump]
    go_ret2
    exact ⟨rfl, K.out⟩
  · intro pass
    go_wp2_with fail
    generalize hW0 : w.alloc _ = W0
    have z0 : W0.heap.size = w.heap.size + 1 := by rw [← hW0]; simp
    have b0 : Blk W0 w.heap.size (cl n0 n1 n2 n3 n4 n5 n6 n7 (.slice sx sl sc)) := by rw [← hW0]; exact Blk.new w _ _
    have k0 : Kept w W0 := by rw [← hW0]; exact (Kept.refl w).alloc _ _
    clear hW0
    generalize hW1 : W0.alloc _ = W1
    have b1 : Blk W1 (w.heap.size + 1) (eight fun _ => cz) := by rw [← hW1, ← z0]; exact Blk.new W0 (eight fun _ => cz) _
    have k1 : Kept W0 W1 := by rw [← hW1]; exact (Kept.refl W0).alloc _ _
    have HW : Hid (Kept w W1 ∧ Blk W1 w.heap.size (cl n0 n1 n2 n3 n4 n5 n6 n7 (.slice sx sl sc)) ∧ Blk W1 (w.heap.size + 1) (eight fun _ => cz)) := ⟨k0.trans k1, b0.kept k1, b1⟩
    clear hW1 z0 b0 b1 k0 k1
    refine (C0.out _ HW.out.1).mono ?_
    rintro e w2 ⟨h | h, K⟩
    · exact absurd rfl h.1
    obtain ⟨_, rg, rfl, hrg, hRf⟩ := h
    have HW2 : Hid (Kept w w2 ∧ Blk w2 w.heap.size (cl n0 n1 n2 n3 n4 n5 n6 n7 (.slice sx sl sc)) ∧ Blk w2 (w.heap.size + 1) (eight fun _ => cz) ∧ w.heap.size + 1 < rg ∧ Refs w2 (some ⟨rg, 0, none⟩) 1 (R kind.toNat)) := by
      refine ⟨HW.out.1.trans K, HW.out.2.1.kept K, HW.out.2.2.kept K, ?_, hRf⟩
      have := HW.out.2.2.lt
      omega
    clear K hrg hRf HW C0
    go_wp2_with fail
    generalize hW3 : w2.alloc _ = W3
    have z3 : W3.heap.size = w2.heap.size + 1 := by rw [← hW3]; simp
    have k3 : Kept w2 W3 := by rw [← hW3]; exact (Kept.refl w2).alloc _ _
    have b3 : Blk W3 w2.heap.size [.bool true, .slice (some ⟨rg, 0, none⟩) 1 1] := by rw [← hW3]; exact Blk.new w2 [_, _] _
    have HW3 : Hid (Kept w W3 ∧ Blk W3 w.heap.size (cl n0 n1 n2 n3 n4 n5 n6 n7 (.slice sx sl sc)) ∧ Blk W3 (w.heap.size + 1) (eight fun _ => cz) ∧ w.heap.size + 1 < rg ∧ Refs W3 (some ⟨rg, 0, none⟩) 1 (R kind.toNat) ∧ Blk W3 w2.heap.size [.bool true, .slice (some ⟨rg, 0, none⟩) 1 1]) :=
      ⟨HW2.out.1.trans k3, HW2.out.2.1.kept k3, HW2.out.2.2.1.kept k3, HW2.out.2.2.2.1, HW2.out.2.2.2.2.kept k3, b3⟩
    have HZ : Hid (w.heap.size + 1 < w2.heap.size) := HW2.out.2.2.1.lt
    clear hW3 z3 k3 b3 HW2
    refine (CM.out _ HW3.out.1).mono ?_
    rintro e w4 ⟨rfl, K⟩
    have HW4 : Hid (Kept w w4 ∧ Blk w4 w.heap.size (cl n0 n1 n2 n3 n4 n5 n6 n7 (.slice sx sl sc)) ∧ Blk w4 (w.heap.size + 1) (eight fun _ => cz) ∧ w.heap.size + 1 < rg ∧ Refs w4 (some ⟨rg, 0, none⟩) 1 (R kind.toNat) ∧ Blk w4 w2.heap.size [.bool true, .slice (some ⟨rg, 0, none⟩) 1 1]) :=
      ⟨HW3.out.1.trans K, HW3.out.2.1.kept K, HW3.out.2.2.1.kept K, HW3.out.2.2.2.1, HW3.out.2.2.2.2.1.kept K, HW3.out.2.2.2.2.2.kept K⟩
    clear K HW3 CM
    have em : (mo == 1) = true := by rw [HMO.out]; rfl
    go_wp2_with fail
    refine (CS.out _ HW4.out.1 h2).mono ?_
    rintro e w5 ⟨v, rfl, hz, K⟩
    obtain ⟨sy, sd, rfl⟩ := hz.form
    have HW5 : Hid (Kept w w5 ∧ Blk w5 w.heap.size (cl n0 n1 n2 n3 n4 n5 n6 n7 (.slice sx sl sc)) ∧ Blk w5 (w.heap.size + 1) (eight fun _ => cz) ∧ w.heap.size + 1 < rg ∧ Refs w5 (some ⟨rg, 0, none⟩) 1 (R kind.toNat) ∧ Blk w5 w2.heap.size [.bool true, .slice (some ⟨rg, 0, none⟩) 1 1] ∧ Zs w5 w4.heap.size (.slice sy (l + 1) sd) (l + 1) (spW L l)) := ⟨HW4.out.1.trans K, HW4.out.2.1.kept K, HW4.out.2.2.1.kept K, HW4.out.2.2.2.1, HW4.out.2.2.2.2.1.kept K, HW4.out.2.2.2.2.2.kept K, hz⟩
    clear hz K HW4 CS
    obtain ⟨sn, hsn⟩ : ∃ sn, l + 1 = sn := ⟨_, rfl⟩
    rw [hsn] at HW5 ⊢
    have HSN : Hid (l + 1 = sn) := hsn
    clear hsn
    have c0 := HW5.out.2.1.at 0 rfl
    have c1 := HW5.out.2.1.at 1 rfl
    have c2 := HW5.out.2.1.at 2 rfl
    have c3 := HW5.out.2.1.at 3 rfl
    have c4 := HW5.out.2.1.at 4 rfl
    have c5 := HW5.out.2.1.at 5 rfl
    have c6 := HW5.out.2.1.at 6 rfl
    have c7 := HW5.out.2.1.at 7 rfl
    have c8 := HW5.out.2.1.at 8 rfl
    have CF2 : Hid (∀ w', Kept w w' → Calls Tryz.prog 36 #[.agg #[.int .i64 n0, .int .i64 n1, .int .i64 n2, .int .i64 n3, .int .i64 n4, .int .i64 n5, .int .i64 n6, .int .i64 n7, .slice sx sl sc], .int .i64 at', .int .i64 sn] w' fun e w'' => e = .returned (.bool false) ∧ Kept w' w'') := fun w' k => CF.out w' sn false k (by have := HSN.out; omega) (by
      have h1 := HSN.out
      have h3 := HB.out
      subst h1
      constructor
      · intro h; cases h
      · intro h
        rcases h with h | h
        · omega
        · exact absurd (by simpa using h) h3)
    clear CF
    go_wp2_with fail
    refine (CF2.out _ HW5.out.1).mono ?_
    rintro e w6 ⟨rfl, K⟩
    have K2 : Hid (Kept w w6) := HW5.out.1.trans K
    clear K pass HW5 c0 c1 c2 c3 c4 c5 c6 c7 c8
    go_wp2
    go_step3
    exact ⟨rfl, K2, _, _, _, _, _, _, _, _, _, _, _, _, _, _, _, _, _, _, _, _, _, _, _, _, _, _, _, _, _, _, _, _, _, _, _, _, _, _, _, _, _, _, _, _, _, _, _, _, _, _, _, _, _, _, _, _, _, _, _, _, _, _, _, _, _, _, _, _, _, _, _, _, _, _, _, _, rfl⟩
end Go.Proofs.YtpdclckgnajcdaaGreat
