/-
  The law SpaceWhole: free, kept and used are all, at every step.
-/
import Derived.Test.YtahpnnjemjjfhaaWhole21
import Derived.Test.YtahpnnjemjjfhaaOpen21
import Derived.Test.YtahpnnjemjjfhaaRefCheck12
namespace Go.Proofs.Ytahpnnjemjjfhaa
open Go.RowKit

theorem Un.row {w0 w w' : World} {D : List Nat} {b n : Nat} {t : TypeId} {f : Nat → Value} (h : Un w0 w w' D) (r : w.rowIs b t n f) (hb : b ∈ D) : w'.rowIs b t n f := by
  obtain ⟨E, m, _, e⟩ := h.mu
  exact m.row r (e b hb r.lt)

theorem nodup_le {n : Nat} {G : List Int} (h : G.Nodup) (hg : ∀ z, z ∈ G → ∃ q : Nat, z = q ∧ q < n) : G.length ≤ n := by
  have := h.length_le_of_subset (l₂ := (List.range n).map fun q : Nat => (q : Int)) fun z hz => by
    obtain ⟨q, e, hq⟩ := hg z hz
    exact List.mem_map.2 ⟨q, List.mem_range.2 hq, e.symm⟩
  simpa using this
theorem Lw.short {w0 w : World} {A : Ad} {S : Sp} {kb : Nat} {D : List Nat} (h : Lw w0 w A S kb D) (t : Int) : (S.lookG t).G.length ≤ 100000 := by
  obtain ⟨c, m, _⟩ := h.my
  obtain ⟨v, E, q1, q2, _⟩ := m.sh.line
  have hs : ∀ e, e ∈ S.E → e.G.length ≤ 100000 := fun e he => by
    rw [← q2] at he
    obtain ⟨e0, h0, rfl⟩ := List.mem_map.1 he
    exact q1.ens.short e0 h0
  unfold Sp.lookG
  split
  · simp
  · rename_i e he
    split
    · simp
    · split
      · exact hs e (List.mem_of_find?_eq_some he)
      · simp

set_option maxRecDepth 16000 in
set_option maxHeartbeats 32000000 in
theorem whole_in (n s m ch : Nat) (n2 n4 n6 n7 : Int) (sx : Option Addr) (sl sc : Nat) (S0 : Nat → Sh) (R0 : Nat → Nat → Bool) (x1 : Option Addr) (l1 c1 : Nat) (L1 : Nat → Op21) (w : World) (hS : Shps w sx sl S0) (hR : ∀ i, i < sl → Refs w (S0 i).x (S0 i).l (R0 i)) (hL1 : Ops w x1 l1 L1) (hl1 : l1 ≤ 300)
    (hg : Good n s n2 m n4 ch n6 n7 sl S0) :
    Calls Try.prog 3 #[.agg #[.int .i64 (n : Int), .int .i64 (s : Int), .int .i64 n2, .int .i64 (m : Int), .int .i64 n4, .int .i64 (ch : Int), .int .i64 n6, .int .i64 n7, .slice sx sl sc], .slice x1 l1 c1] w fun e w' => e = .returned (.bool true) ∧ Kept w w' := by
  have hn1024 : n ≤ 1024 := by have := hg.1.1; omega
  have HSR : Hid (Shps w sx sl S0 ∧ (∀ i, i < sl → Refs w (S0 i).x (S0 i).l (R0 i)) ∧ Ops w x1 l1 L1) := ⟨hS, hR, hL1⟩
  have HG : Hid (Good n s n2 m n4 ch n6 n7 sl S0) := hg
  clear hS hR hL1 hg
  have hmk := run_make_bools n hn1024
  go_enter Try.func3, Try.ntmps3
  go_wp2_with fail
  generalize hW : w.alloc _ = W0
  have H0 : Hid (Blk W0 w.heap.size [.int .i64 (n : Int), .int .i64 (s : Int), .int .i64 n2, .int .i64 (m : Int), .int .i64 n4, .int .i64 (ch : Int), .int .i64 n6, .int .i64 n7, .slice sx sl sc] ∧ Kept w W0) := by
    rw [← hW]
    exact ⟨Blk.new w _ _, (Kept.refl w).alloc _ _⟩
  clear hW
  refine (first_any W0).mono ?_
  rintro e w1 ⟨rfl, k1⟩
  have H1 : Hid (Blk w1 w.heap.size [.int .i64 (n : Int), .int .i64 (s : Int), .int .i64 n2, .int .i64 (m : Int), .int .i64 n4, .int .i64 (ch : Int), .int .i64 n6, .int .i64 n7, .slice sx sl sc] ∧ Kept w w1) := ⟨H0.out.1.kept k1, H0.out.2.trans k1⟩
  clear k1 H0
  have c0 := H1.out.1.at 0 rfl
  have c1 := H1.out.1.at 1 rfl
  have c2 := H1.out.1.at 2 rfl
  have c3 := H1.out.1.at 3 rfl
  have c4 := H1.out.1.at 4 rfl
  have c5 := H1.out.1.at 5 rfl
  have c6 := H1.out.1.at 6 rfl
  have c7 := H1.out.1.at 7 rfl
  have c8 := H1.out.1.at 8 rfl
  have C := ref_check n s n2 m n4 ch n6 n7 sx sl sc S0 0 w1 (HSR.out.1.kept H1.out.2) (Checks.of_ok HG.out.1 HG.out.2)
  go_wp2_with fail
  refine C.mono ?_
  rintro e w2 ⟨rfl, k2⟩
  have H2 : Hid (Blk w2 w.heap.size [.int .i64 (n : Int), .int .i64 (s : Int), .int .i64 n2, .int .i64 (m : Int), .int .i64 n4, .int .i64 (ch : Int), .int .i64 n6, .int .i64 n7, .slice sx sl sc] ∧ Kept w w2) := ⟨H1.out.1.kept k2, H1.out.2.trans k2⟩
  clear k2 C H1 c0 c1 c2 c3 c4 c5 c6 c7 c8
  have c0 := H2.out.1.at 0 rfl
  have c1 := H2.out.1.at 1 rfl
  have c2 := H2.out.1.at 2 rfl
  have c3 := H2.out.1.at 3 rfl
  have c4 := H2.out.1.at 4 rfl
  have c5 := H2.out.1.at 5 rfl
  have c6 := H2.out.1.at 6 rfl
  have c7 := H2.out.1.at 7 rfl
  have c8 := H2.out.1.at 8 rfl
  have C := few_any n s n2 m n4 ch n6 n7 sx sl sc S0 true w2 (HSR.out.1.kept H2.out.2) (by
    obtain ⟨_, _, m8, mi⟩ := id HG.out
    refine ⟨fun _ => ⟨by omega, fun i hi => ?_⟩, fun _ => rfl⟩
    have := mi i hi
    simp only [Sh.may] at this
    split at this
    · simp at this; omega
    · simp at this; omega)
  go_wp2_with fail
  refine C.mono ?_
  rintro e w3 ⟨rfl, k3⟩
  have H3 : Hid (Blk w3 w.heap.size [.int .i64 (n : Int), .int .i64 (s : Int), .int .i64 n2, .int .i64 (m : Int), .int .i64 n4, .int .i64 (ch : Int), .int .i64 n6, .int .i64 n7, .slice sx sl sc] ∧ Kept w w3) := ⟨H2.out.1.kept k3, H2.out.2.trans k3⟩
  clear k3 C H2 c0 c1 c2 c3 c4 c5 c6 c7 c8
  have c0 := H3.out.1.at 0 rfl
  have c1 := H3.out.1.at 1 rfl
  have c2 := H3.out.1.at 2 rfl
  have c3 := H3.out.1.at 3 rfl
  have c4 := H3.out.1.at 4 rfl
  have c5 := H3.out.1.at 5 rfl
  have c6 := H3.out.1.at 6 rfl
  have c7 := H3.out.1.at 7 rfl
  have c8 := H3.out.1.at 8 rfl
  have hli : ¬ (l1 : Int) > 300 := by omega
  have C := check_any n s n2 m n4 ch n6 n7 sx sl sc S0 0 w3 (HSR.out.1.kept H3.out.2) (Checks.of_ok HG.out.1 HG.out.2)
  go_wp2_with fail
  refine C.mono ?_
  rintro e w4 ⟨rfl, k4⟩
  have H4 : Hid (Blk w4 w.heap.size [.int .i64 (n : Int), .int .i64 (s : Int), .int .i64 n2, .int .i64 (m : Int), .int .i64 n4, .int .i64 (ch : Int), .int .i64 n6, .int .i64 n7, .slice sx sl sc] ∧ Kept w w4) := ⟨H3.out.1.kept k4, H3.out.2.trans k4⟩
  clear k4 C H3 c0 c1 c2 c3 c4 c5 c6 c7 c8
  have c0 := H4.out.1.at 0 rfl
  have c1 := H4.out.1.at 1 rfl
  have c2 := H4.out.1.at 2 rfl
  have c3 := H4.out.1.at 3 rfl
  have c4 := H4.out.1.at 4 rfl
  have c5 := H4.out.1.at 5 rfl
  have c6 := H4.out.1.at 6 rfl
  have c7 := H4.out.1.at 7 rfl
  have c8 := H4.out.1.at 8 rfl
  have C := made_any n s m ch n2 n4 n6 n7 sx sl sc S0 R0 w4 (HSR.out.1.kept H4.out.2) (fun i hi => (HSR.out.2.1 i hi).kept H4.out.2) HG.out
  go_wp2_with fail
  refine C.mono ?_
  rintro e w5 ⟨A, cl5, rfl, m5, _⟩
  obtain ⟨W, rfl⟩ : ∃ W, W = w4 := ⟨_, rfl⟩
  have KB : Hid (Kept w W ∧ Blk W w.heap.size [.int .i64 (n : Int), .int .i64 (s : Int), .int .i64 n2, .int .i64 (m : Int), .int .i64 n4, .int .i64 (ch : Int), .int .i64 n6, .int .i64 n7, .slice sx sl sc]) := ⟨H4.out.2, H4.out.1⟩
  have H5 : Hid (Lw W w5 A (Sp.new n s m ch) 0 []) := ⟨⟨cl5, m5, (fun _ h => by cases h)⟩, bd_new _ _ _ _ _, by omega⟩
  clear m5 C H4 c0 c1 c2 c3 c4 c5 c6 c7 c8
  have c0 := (KB.out.2.kept H5.out.kept).at 0 rfl
  go_upto_block 0 with fail
  generalize hW : w5.alloc _ = w6
  obtain ⟨ub, hub⟩ : ∃ ub, ub = w5.heap.size := ⟨_, rfl⟩
  rw [← hub]
  have H6 : Hid (Lw W w6 A (Sp.new n s m ch) 0 [ub] ∧ w6.rowIs ub 4 n (fun _ => .bool false) ∧ W.heap.size ≤ ub) := by
    rw [← hW, hub]
    refine ⟨H5.out.alloc _ _, ?_, H5.out.kept.size⟩
    have r := World.rowIs_alloc w5 (madeCells #[.bool false] n) 4 (fun _ => .bool false) (fun i hi => by
      rw [size_madeCells] at hi
      simp [madeCells, hi, Nat.mod_one])
    rwa [size_madeCells] at r
  clear hW hub H5 hmk c0
  go_wp2
  go_loopg [8] l1 (fun mm i wr => ∃ (k kb : Nat) (S : Sp) (O : Nat → Bool), i = .int .i64 k ∧ k ≤ l1 ∧ mm = l1 - k ∧ Hid ((Lw W wr A S kb [ub] ∧ kb ≤ k) ∧ wr.rowIs ub 4 n (fun j => .bool (O j)) ∧ Wk S n O))
  case atStart => exact ⟨0, 0, _, _, rfl, by omega, by omega, ⟨H6.out.1, by omega⟩, H6.out.2.1, wk_new n s m ch⟩
  case round =>
    obtain ⟨k, kb, S, O, rfl, hk, hm, hw⟩ := hrel
    have HM : Hid _ := hm
    clear hm
    by_cases hlt : k < l1
    · have hki : (k : Int) < (l1 : Int) := by omega
      have hkb : kb ≤ k := hw.out.1.2
      obtain ⟨ox, oo, rfl, hol, hoc⟩ := HSR.out.2.2.at (by omega)
      have KR : Hid (Kept w wr) := KB.out.1.trans hw.out.1.1.kept
      obtain ⟨⟨ok, ot, of, os, on, ob⟩, hop⟩ : ∃ q, q = L1 k := ⟨_, rfl⟩
      have hoc2 : ∀ j v, (Op21.cells ⟨ok, ot, of, os, on, ob⟩)[j]? = some v → wr.cell? ⟨ox, oo + k * 6 + j, none⟩ = some v := fun j v hv => (KR.out.cell hol).trans (hoc k hlt j v (by rw [← hop]; exact hv))
      have e0 := hoc2 0 _ rfl
      have e1 := hoc2 1 _ rfl
      have e2 := hoc2 2 _ rfl
      have e3 := hoc2 3 _ rfl
      have e4 := hoc2 4 _ rfl
      have e5 := hoc2 5 _ rfl
      simp only [Nat.add_zero] at e0
      clear hoc hoc2 hop KR
      go_wp2_with fail
      generalize hW : wr.alloc _ = w1
      obtain ⟨cb, hcb⟩ : ∃ cb, cb = wr.heap.size := ⟨_, rfl⟩
      rw [← hcb]
      have H1 : Hid (Lw W w1 A S kb [cb, ub] ∧ Blk w1 cb [.int .i64 ok, .int .i64 ot, .int .i64 of, .int .i64 os, .int .i64 on, .bool ob] ∧ w1.rowIs ub 4 n (fun j => .bool (O j)) ∧ Wk S n O ∧ ub < cb) := by
        rw [← hW, hcb]
        exact ⟨hw.out.1.1.alloc _ _, Blk.new wr _ _, ((Kept.refl wr).alloc _ _).row hw.out.2.1, hw.out.2.2, hw.out.2.1.lt⟩
      clear hW hcb hw e0 e1 e2 e3 e4 e5
      obtain ⟨fre, hfre⟩ : ∃ fre, fre = cntB S.F S.n := ⟨_, rfl⟩
      obtain ⟨wl, hwl⟩ : ∃ wl, wl = (wts S.E).length := ⟨_, rfl⟩
      have HFW : Hid (fre = cntB S.F S.n ∧ wl = (wts S.E).length) := ⟨hfre, hwl⟩
      have hwb : wl ≤ 300 := by rw [hwl]; have := wts_le S.E; have := H1.out.1.bd.len; omega
      have hfb : fre ≤ 1024 := by rw [hfre]; have := cntB_le S.F S.n; have := H1.out.2.2.2.1.sz; omega
      have C := H1.out.1.free
      rw [← hfre] at C
      refine C.mono ?_
      rintro e w2 ⟨rfl, e2⟩
      rw [e2]
      clear C e2
      have C := H1.out.1.waits
      rw [← hwl] at C
      go_wp2_with fail
      refine C.mono ?_
      rintro e w2 ⟨rfl, lw2, un2⟩
      have H2 : Hid (Lw W w2 A S kb [cb, ub] ∧ Blk w2 cb [.int .i64 ok, .int .i64 ot, .int .i64 of, .int .i64 os, .int .i64 on, .bool ob] ∧ w2.rowIs ub 4 n (fun j => .bool (O j)) ∧ Wk S n O ∧ ub < cb) := ⟨lw2, un2.blk H1.out.2.1 (by simp), un2.row H1.out.2.2.1 (by simp), H1.out.2.2.2⟩
      clear C lw2 un2 H1 hfre hwl
      have o0 : ∀ C t, (w2.alloc (.cells C t)).cell? ⟨cb, 0, none⟩ = some (.int .i64 ok) := fun C t => (((Kept.refl w2).alloc C t).cell H2.out.2.1.lt).trans (H2.out.2.1.at 0 rfl)
      go_upto_block 2 with fail
      generalize hW : w2.alloc _ = w3
      obtain ⟨bg, hbg⟩ : ∃ bg, bg = w2.heap.size := ⟨_, rfl⟩
      rw [← hbg]
      have H3 : Hid (Lw W w3 A S kb [bg, cb, ub] ∧ Blk w3 cb [.int .i64 ok, .int .i64 ot, .int .i64 of, .int .i64 os, .int .i64 on, .bool ob] ∧ Blk w3 bg [.int .i64 0, .slice none 0 0, .int .i64 0] ∧ w3.rowIs ub 4 n (fun j => .bool (O j)) ∧ Wk S n O ∧ (ub < bg ∧ W.heap.size ≤ bg ∧ bg < w3.heap.size ∧ ub < w3.heap.size)) := by
        have hl1 := H2.out.2.1.lt
        have hl2 := H2.out.1.kept.size
        have hl3 := H2.out.2.2.1.lt
        rw [← hW, hbg]
        refine ⟨H2.out.1.alloc _ _, H2.out.2.1.kept ((Kept.refl _).alloc _ _), Blk.new w2 _ _, ((Kept.refl w2).alloc _ _).row H2.out.2.2.1, H2.out.2.2.2.1, by omega, hl2, by simp, by simp; omega⟩
      have HCB : Hid (cb ≠ bg) := by
        have h1 := H2.out.2.1.lt
        show cb ≠ bg
        rw [hbg]; omega
      have HUB : Hid (W.heap.size ≤ ub ∧ cb ≠ ub) := ⟨H6.out.2.2, by have := H2.out.2.2.2.2; omega⟩
      have HUG : Hid (bg ≠ ub) := by have := H3.out.2.2.2.2.2.1; show bg ≠ ub; omega
      clear hW hbg H2 o0
      have o0 := H3.out.2.1.at 0 rfl
      have o1 := H3.out.2.1.at 1 rfl
      have o2 := H3.out.2.1.at 2 rfl
      have o3 := H3.out.2.1.at 3 rfl
      have o4 := H3.out.2.1.at 4 rfl
      have o5 := H3.out.2.1.at 5 rfl
      go_cut [13] from 69 to 160 (fun _ wc => ∃ (S2 : Sp) (kb2 : Nat) (O2 : Nat → Bool) (st : Int) (G : List Int) (at_ : Int) (x : Option Addr) (d : Nat), Hid ((Lw W wc A S2 kb2 [bg, cb, ub] ∧ kb2 ≤ k + 1) ∧ Blk wc cb [.int .i64 ok, .int .i64 ot, .int .i64 of, .int .i64 os, .int .i64 on, .bool ob] ∧ Blk wc bg [.int .i64 st, .slice x G.length d, .int .i64 at_] ∧ wc.rowIs ub 4 n (fun j => .bool (O2 j)) ∧ Wk S2 n O2 ∧ Rdi wc x G ∧ (∀ g o, x = some ⟨g, o, none⟩ → g ≠ ub) ∧ (st = 1 → G.length ≤ 100000 ∧ ∀ z, z ∈ G → ∃ q : Nat, z = q ∧ q < n) ∧ (ok = 0 → st = 1 → G.Nodup ∧ ∀ z, z ∈ G → ∃ q : Nat, z = q ∧ q < n ∧ O2 q = false ∧ (S2.T q).s = 2)))
      case first =>
        by_cases h0 : ok = 0
        · have h0' : (ok == 0) = true := by simpa using h0
          have H00 : Hid (ok = 0) := h0
          clear h0
          obtain ⟨st, G, at_, hgr⟩ : ∃ (st : Int) (G : List Int) (at_ : Int), S.askG ot of os = (⟨st, G, at_⟩ : Gr) := ⟨_, _, _, rfl⟩
          have GF : Hid ((st = 1 → (G.length : Int) = of ∧ G.Nodup ∧ ∀ z, z ∈ G → ∃ q : Nat, z = q ∧ q < n ∧ (S.T q).s ≠ 2 ∧ ((S.ask ot of os ob).T q).s = 2) ∧ Wk (S.ask ot of os ob) n O ∧ (0 < wl → cntB (S.ask ot of os ob).F (S.ask ot of os ob).n = fre)) := by
            have q := ask_G H3.out.2.2.2.2.1.snd ot of os ob
            rw [hgr, H3.out.2.2.2.2.1.sz] at q
            exact ⟨q, H3.out.2.2.2.2.1.ask ot of os ob, fun h => by rw [ask_waits ot of os ob (by rw [← HFW.out.2]; exact h), HFW.out.1]⟩
          have C := H3.out.1.ask (fun k h => by
              simp only [List.mem_cons, List.not_mem_nil, or_false] at h
              rcases h with rfl | rfl | rfl
              · exact H3.out.2.2.1.lt
              · exact H3.out.2.1.lt
              · exact H3.out.2.2.2.1.lt) (by omega) ot of os ob
          rw [hgr] at C
          go_wp2_with fail
          refine C.mono ?_
          rintro e w4 ⟨x, d, rfl, r4, n4', lw4, un4⟩
          have H4 : Hid (Lw W w4 A (S.ask ot of os ob) (kb + 1) [bg, cb, ub] ∧ Blk w4 cb [.int .i64 ok, .int .i64 ot, .int .i64 of, .int .i64 os, .int .i64 on, .bool ob] ∧ Blk w4 bg [.int .i64 0, .slice none 0 0, .int .i64 0] ∧ w4.rowIs ub 4 n (fun j => .bool (O j)) ∧ Rdi w4 x G ∧ ∀ g o, x = some ⟨g, o, none⟩ → w3.heap.size ≤ g) := ⟨lw4, un4.blk H3.out.2.1 (by simp), un4.blk H3.out.2.2.1 (by simp), un4.row H3.out.2.2.2.1 (by simp), r4, n4'⟩
          clear C lw4 un4 r4 n4'
          have HCG : Hid (cb ≠ bg) := HCB.out
          obtain ⟨S2, hS2⟩ : ∃ S2, S2 = S.ask ot of os ob := ⟨_, rfl⟩
          rw [← hS2] at H4 GF
          clear hS2 hgr o0 o1 o2 o3 o4 o5
          have g0 := H4.out.2.2.1.at 0 rfl
          have g1 := H4.out.2.2.1.at 1 rfl
          have g2 := H4.out.2.2.1.at 2 rfl
          have gf := H4.out.2.2.1.fz
          go_upto_region 18 with fail
          generalize hW : World.setCell _ _ _ = w5
          have M5 : Mut [bg] w4 w5 := by
            rw [← hW]
            exact (((Mut.refl [bg] w4).setCell (p := ⟨bg, 0, none⟩) (by simp) _).setCell (p := ⟨bg, 1, none⟩) (by simp) _).setCell (p := ⟨bg, 2, none⟩) (by simp) _
          have H5 : Hid (Lw W w5 A S2 (kb + 1) [bg, cb, ub] ∧ Blk w5 cb [.int .i64 ok, .int .i64 ot, .int .i64 of, .int .i64 os, .int .i64 on, .bool ob] ∧ Blk w5 bg [.int .i64 st, .slice x G.length d, .int .i64 at_] ∧ w5.rowIs ub 4 n (fun j => .bool (O j)) ∧ Rdi w5 x G ∧ ∀ g o, x = some ⟨g, o, none⟩ → g ≠ ub) := by
            have hb := H3.out.2.2.2.2.2
            have hcb := H3.out.2.1.lt
            refine ⟨H4.out.1.wrote M5 (fun k hk => by simp at hk; subst hk; exact ⟨by simp, hb.2.1⟩), H4.out.2.1.muts M5 (by simp; exact HCG.out), ?_, M5.row H4.out.2.2.2.1 (by simp; omega), H4.out.2.2.2.2.1.muts M5 (fun g o e => by have := H4.out.2.2.2.2.2 g o e; simp; omega), fun g o e => by have := H4.out.2.2.2.2.2 g o e; omega⟩
            rw [← hW]
            exact ((H4.out.2.2.1.set (i := 0) rfl _).set (i := 1) rfl _).set (i := 2) rfl _
          clear hW M5 g0 g1 g2 gf
          have o2 := H5.out.2.1.at 2 rfl
          have g0 := H5.out.2.2.1.at 0 rfl
          have g1 := H5.out.2.2.1.at 1 rfl
          have FIN : Hid (∀ w' : World, w' = w5 → ∃ (S2 : Sp) (kb2 : Nat) (O2 : Nat → Bool) (st : Int) (G : List Int) (at_ : Int) (x : Option Addr) (d : Nat), Hid ((Lw W w' A S2 kb2 [bg, cb, ub] ∧ kb2 ≤ k + 1) ∧ Blk w' cb [.int .i64 ok, .int .i64 ot, .int .i64 of, .int .i64 os, .int .i64 on, .bool ob] ∧ Blk w' bg [.int .i64 st, .slice x G.length d, .int .i64 at_] ∧ w'.rowIs ub 4 n (fun j => .bool (O2 j)) ∧ Wk S2 n O2 ∧ Rdi w' x G ∧ (∀ g o, x = some ⟨g, o, none⟩ → g ≠ ub) ∧ (st = 1 → G.length ≤ 100000 ∧ ∀ z, z ∈ G → ∃ q : Nat, z = q ∧ q < n) ∧ (ok = 0 → st = 1 → G.Nodup ∧ ∀ z, z ∈ G → ∃ q : Nat, z = q ∧ q < n ∧ O2 q = false ∧ (S2.T q).s = 2))) := fun w' e => by
            subst e
            refine ⟨S2, kb + 1, O, st, G, at_, x, d, ⟨H5.out.1, by omega⟩, H5.out.2.1, H5.out.2.2.1, H5.out.2.2.2.1, GF.out.2.1, H5.out.2.2.2.2.1, H5.out.2.2.2.2.2, fun h1 => ⟨?_, fun z hz => ?_⟩, fun _ h1 => ⟨(GF.out.1 h1).2.1, fun z hz => ?_⟩⟩
            · have := nodup_le (n := n) (GF.out.1 h1).2.1 (fun z hz => by
                obtain ⟨q, e1, e2, _⟩ := (GF.out.1 h1).2.2 z hz
                exact ⟨q, e1, e2⟩)
              omega
            · obtain ⟨q, e1, e2, _⟩ := (GF.out.1 h1).2.2 z hz
              exact ⟨q, e1, e2⟩
            · obtain ⟨q, e1, e2, e3, e4⟩ := (GF.out.1 h1).2.2 z hz
              refine ⟨q, e1, e2, ?_, e4⟩
              cases ho : O q
              · rfl
              · exact absurd (H3.out.2.2.2.2.1.us q e2 ho) e3
          have CF := H5.out.1.free
          by_cases hwz : 0 < wl
          · have hwi : (wl : Int) > 0 := by omega
            rw [GF.out.2.2 hwz, HFW.out.1] at CF
            go_wp2_with fail
            refine CF.mono ?_
            rintro e w6 ⟨rfl, e6⟩
            rw [e6]
            clear CF e6
            by_cases h1 : st = 1
            · have h1' : (st == 1) = true := by simpa using h1
              have hle : ((G.length : Int) != of) = false := by have := (GF.out.1 h1).1; simp [this]
              clear h1
              go_wp2
              go_meet
              case rel => exact FIN.out _ rfl
            · have h1' : (st == 1) = false := by simpa using h1
              clear h1
              go_wp2
              go_meet
              case rel => exact FIN.out _ rfl
          · have hwi : ¬ (wl : Int) > 0 := by omega
            clear CF
            by_cases h1 : st = 1
            · have h1' : (st == 1) = true := by simpa using h1
              have hle : ((G.length : Int) != of) = false := by have := (GF.out.1 h1).1; simp [this]
              clear h1
              go_wp2
              go_meet
              case rel => exact FIN.out _ rfl
            · have h1' : (st == 1) = false := by simpa using h1
              clear h1
              go_wp2
              go_meet
              case rel => exact FIN.out _ rfl
        · have h0' : (ok == 0) = false := by simpa using h0
          have H0N : Hid (ok ≠ 0) := h0
          clear h0
          by_cases h2 : ok = 2
          · have h2' : (ok == 2) = true := by simpa using h2
            clear h2
            obtain ⟨st, G, at_, hgr⟩ : ∃ (st : Int) (G : List Int) (at_ : Int), S.lookG ot = (⟨st, G, at_⟩ : Gr) := ⟨_, _, _, rfl⟩
            have GF : Hid ((G.length ≤ 100000 ∧ ∀ z, z ∈ G → ∃ q : Nat, z = q ∧ q < n) ∧ Wk (S.look ot) n O) := by
              have q := look_G H3.out.2.2.2.2.1.got ot
              have q2 := H3.out.1.short ot
              rw [hgr, H3.out.2.2.2.2.1.sz] at q
              rw [hgr] at q2
              exact ⟨⟨q2, q⟩, H3.out.2.2.2.2.1.look ot⟩
            have C := H3.out.1.look (fun k h => by
                simp only [List.mem_cons, List.not_mem_nil, or_false] at h
                rcases h with rfl | rfl | rfl
                · exact H3.out.2.2.1.lt
                · exact H3.out.2.1.lt
                · exact H3.out.2.2.2.1.lt) (by omega) ot
            rw [hgr] at C
            go_wp2_with fail
            refine C.mono ?_
            rintro e w4 ⟨x, d, rfl, r4, n4', lw4, un4⟩
            have H4 : Hid (Lw W w4 A (S.look ot) (kb + 1) [bg, cb, ub] ∧ Blk w4 cb [.int .i64 ok, .int .i64 ot, .int .i64 of, .int .i64 os, .int .i64 on, .bool ob] ∧ Blk w4 bg [.int .i64 0, .slice none 0 0, .int .i64 0] ∧ w4.rowIs ub 4 n (fun j => .bool (O j)) ∧ Rdi w4 x G ∧ ∀ g o, x = some ⟨g, o, none⟩ → w3.heap.size ≤ g) := ⟨lw4, un4.blk H3.out.2.1 (by simp), un4.blk H3.out.2.2.1 (by simp), un4.row H3.out.2.2.2.1 (by simp), r4, n4'⟩
            clear C lw4 un4 r4 n4'
            have HCG : Hid (cb ≠ bg) := HCB.out
            obtain ⟨S2, hS2⟩ : ∃ S2, S2 = S.look ot := ⟨_, rfl⟩
            rw [← hS2] at H4 GF
            clear hS2 hgr o0 o1 o2 o3 o4 o5
            have g0 := H4.out.2.2.1.at 0 rfl
            have g1 := H4.out.2.2.1.at 1 rfl
            have g2 := H4.out.2.2.1.at 2 rfl
            have gf := H4.out.2.2.1.fz
            have FIN : Hid (∀ w5 : World, w5 = ((w4.setCell ⟨bg, 0, none⟩ (.int .i64 st)).setCell ⟨bg, 1, none⟩ (.slice x G.length d)).setCell ⟨bg, 2, none⟩ (.int .i64 at_) → ∃ (S2 : Sp) (kb2 : Nat) (O2 : Nat → Bool) (st : Int) (G : List Int) (at_ : Int) (x : Option Addr) (d : Nat), Hid ((Lw W w5 A S2 kb2 [bg, cb, ub] ∧ kb2 ≤ k + 1) ∧ Blk w5 cb [.int .i64 ok, .int .i64 ot, .int .i64 of, .int .i64 os, .int .i64 on, .bool ob] ∧ Blk w5 bg [.int .i64 st, .slice x G.length d, .int .i64 at_] ∧ w5.rowIs ub 4 n (fun j => .bool (O2 j)) ∧ Wk S2 n O2 ∧ Rdi w5 x G ∧ (∀ g o, x = some ⟨g, o, none⟩ → g ≠ ub) ∧ (st = 1 → G.length ≤ 100000 ∧ ∀ z, z ∈ G → ∃ q : Nat, z = q ∧ q < n) ∧ (ok = 0 → st = 1 → G.Nodup ∧ ∀ z, z ∈ G → ∃ q : Nat, z = q ∧ q < n ∧ O2 q = false ∧ (S2.T q).s = 2))) := fun w5 hW => by
              have M5 : Mut [bg] w4 w5 := by
                rw [hW]
                exact (((Mut.refl [bg] w4).setCell (p := ⟨bg, 0, none⟩) (by simp) _).setCell (p := ⟨bg, 1, none⟩) (by simp) _).setCell (p := ⟨bg, 2, none⟩) (by simp) _
              have hb := H3.out.2.2.2.2.2
              refine ⟨S2, kb + 1, O, st, G, at_, x, d, ⟨H4.out.1.wrote M5 (fun k hk => by simp at hk; subst hk; exact ⟨by simp, hb.2.1⟩), by omega⟩, H4.out.2.1.muts M5 (by simp; exact HCG.out), ?_, M5.row H4.out.2.2.2.1 (by simp; omega), GF.out.2, H4.out.2.2.2.2.1.muts M5 (fun g o e => by have := H4.out.2.2.2.2.2 g o e; simp; omega), (fun g o e => by have := H4.out.2.2.2.2.2 g o e; omega), fun _ => GF.out.1, fun h => absurd h H0N.out⟩
              rw [hW]
              exact ((H4.out.2.2.1.set (i := 0) rfl _).set (i := 1) rfl _).set (i := 2) rfl _
            go_wp2
            go_meet
            case rel => exact FIN.out _ rfl
          · have h2' : (ok == 2) = false := by simpa using h2
            clear h2
            by_cases h3 : ok = 3
            · have h3' : (ok == 3) = true := by simpa using h3
              clear h3
              have C := H3.out.1.drain (fun k h => by
                  simp only [List.mem_cons, List.not_mem_nil, or_false] at h
                  rcases h with rfl | rfl | rfl
                  · exact H3.out.2.2.1.lt
                  · exact H3.out.2.1.lt
                  · exact H3.out.2.2.2.1.lt) (by omega) ot
              go_wp2_with fail
              refine C.mono ?_
              rintro e w4 ⟨rfl, lw4, un4⟩
              have H4 : Hid (Lw W w4 A (S.drain ot) (kb + 1) [bg, cb, ub] ∧ Blk w4 cb [.int .i64 ok, .int .i64 ot, .int .i64 of, .int .i64 os, .int .i64 on, .bool ob] ∧ Blk w4 bg [.int .i64 0, .slice none 0 0, .int .i64 0] ∧ w4.rowIs ub 4 n (fun j => .bool (O j))) := ⟨lw4, un4.blk H3.out.2.1 (by simp), un4.blk H3.out.2.2.1 (by simp), un4.row H3.out.2.2.2.1 (by simp)⟩
              clear C lw4 un4 
              have HF : Hid ((Lw W w4 A (S.drain ot) (kb + 1) [bg, cb, ub] ∧ kb + 1 ≤ k + 1) ∧ Blk w4 cb [.int .i64 ok, .int .i64 ot, .int .i64 of, .int .i64 os, .int .i64 on, .bool ob] ∧ Blk w4 bg [.int .i64 0, .slice none 0 0, .int .i64 0] ∧ w4.rowIs ub 4 n (fun j => .bool (O j)) ∧ Wk ((S.drain ot)) n O) := ⟨⟨H4.out.1, by omega⟩, H4.out.2.1, H4.out.2.2.1, H4.out.2.2.2, H3.out.2.2.2.2.1.drain ot⟩
              clear H4 H3
              go_wp2
              go_meet
              case rel => exact ⟨_, kb + 1, O, 0, [], 0, none, 0, HF.out.1, HF.out.2.1, HF.out.2.2.1, HF.out.2.2.2.1, HF.out.2.2.2.2, Rdi.nil, (fun _ _ e => by cases e), (fun e => by cases e), (fun _ e => by cases e)⟩
            · have h3' : (ok == 3) = false := by simpa using h3
              clear h3
              by_cases h9 : ok = 9
              · have h9' : (ok == 9) = true := by simpa using h9
                clear h9
                have C := H3.out.1.sweep (fun k h => by
                    simp only [List.mem_cons, List.not_mem_nil, or_false] at h
                    rcases h with rfl | rfl | rfl
                    · exact H3.out.2.2.1.lt
                    · exact H3.out.2.1.lt
                    · exact H3.out.2.2.2.1.lt) (by omega) on ob
                go_wp2_with fail
                refine C.mono ?_
                rintro e w4 ⟨rfl, lw4, un4⟩
                have H4 : Hid (Lw W w4 A (S.sweep on ob) (kb + 1) [bg, cb, ub] ∧ Blk w4 cb [.int .i64 ok, .int .i64 ot, .int .i64 of, .int .i64 os, .int .i64 on, .bool ob] ∧ Blk w4 bg [.int .i64 0, .slice none 0 0, .int .i64 0] ∧ w4.rowIs ub 4 n (fun j => .bool (O j))) := ⟨lw4, un4.blk H3.out.2.1 (by simp), un4.blk H3.out.2.2.1 (by simp), un4.row H3.out.2.2.2.1 (by simp)⟩
                clear C lw4 un4 
                cases hsw : S.sweeps on ob
                · have HW : Hid (Wk (S.sweep on ob) n O) := H3.out.2.2.2.2.1.sweep_no hsw
                  clear hsw
                  go_wp2
                  go_meet
                  case rel => exact ⟨_, kb + 1, O, 0, [], 0, none, 0, ⟨H4.out.1, by omega⟩, H4.out.2.1, H4.out.2.2.1, H4.out.2.2.2, HW.out, Rdi.nil, (fun _ _ e => by cases e), (fun e => by cases e), (fun _ e => by cases e)⟩
                · obtain ⟨q, rfl, hq, hwk⟩ := H3.out.2.2.2.2.1.sweep_yes hsw
                  have HW : Hid (Wk (S.sweep q ob) n (setB O q false)) := hwk
                  clear hsw hwk o0 o1 o2 o3 o4 o5
                  have o4 := H4.out.2.1.at 4 rfl
                  have c0 := (KB.out.2.kept H4.out.1.kept).at 0 rfl
                  have u0 := H4.out.2.2.2.cell hq
                  have uf := H4.out.2.2.2.frozen
                  have hqi : (q : Int) < (n : Int) := by omega
                  have FIN : Hid (∀ w5 : World, w5 = w4.setCell ⟨ub, q, none⟩ (.bool false) → ∃ (S2 : Sp) (kb2 : Nat) (O2 : Nat → Bool) (st : Int) (G : List Int) (at_ : Int) (x : Option Addr) (d : Nat), Hid ((Lw W w5 A S2 kb2 [bg, cb, ub] ∧ kb2 ≤ k + 1) ∧ Blk w5 cb [.int .i64 ok, .int .i64 ot, .int .i64 of, .int .i64 os, .int .i64 (q : Int), .bool ob] ∧ Blk w5 bg [.int .i64 st, .slice x G.length d, .int .i64 at_] ∧ w5.rowIs ub 4 n (fun j => .bool (O2 j)) ∧ Wk S2 n O2 ∧ Rdi w5 x G ∧ (∀ g o, x = some ⟨g, o, none⟩ → g ≠ ub) ∧ (st = 1 → G.length ≤ 100000 ∧ ∀ z, z ∈ G → ∃ q : Nat, z = q ∧ q < n) ∧ (ok = 0 → st = 1 → G.Nodup ∧ ∀ z, z ∈ G → ∃ q : Nat, z = q ∧ q < n ∧ O2 q = false ∧ (S2.T q).s = 2))) := fun w5 hW => by
                    have M5 : Mut [ub] w4 w5 := by
                      rw [hW]
                      exact (Mut.refl [ub] w4).setCell (p := ⟨ub, q, none⟩) (by simp) _
                    have hb := H3.out.2.2.2.2.2
                    refine ⟨_, kb + 1, setB O q false, 0, [], 0, none, 0, ⟨H4.out.1.wrote M5 (fun k hk => by simp at hk; subst hk; exact ⟨by simp, HUB.out.1⟩), by omega⟩, H4.out.2.1.muts M5 (by simp; exact HUB.out.2), H4.out.2.2.1.muts M5 (by simp; omega), ?_, HW.out, Rdi.nil, (fun _ _ e => by cases e), (fun e => by cases e), (fun _ e => by cases e)⟩
                    rw [hW]
                    refine (H4.out.2.2.2.set _ _).congr fun j _ => ?_
                    by_cases e : j = q <;> simp [e, setB]
                  go_wp2
                  go_meet
                  case rel => exact FIN.out _ rfl
              · have h9' : (ok == 9) = false := by simpa using h9
                clear h9
                by_cases h6 : ok = 6
                · have h6' : (ok == 6) = true := by simpa using h6
                  clear h6
                  have C := H3.out.1.begin (fun k h => by
                      simp only [List.mem_cons, List.not_mem_nil, or_false] at h
                      rcases h with rfl | rfl | rfl
                      · exact H3.out.2.2.1.lt
                      · exact H3.out.2.1.lt
                      · exact H3.out.2.2.2.1.lt) (by omega)
                  go_wp2_with fail
                  refine C.mono ?_
                  rintro e w4 ⟨rfl, lw4, un4⟩
                  have H4 : Hid (Lw W w4 A S.begin (kb + 1) [bg, cb, ub] ∧ Blk w4 cb [.int .i64 ok, .int .i64 ot, .int .i64 of, .int .i64 os, .int .i64 on, .bool ob] ∧ Blk w4 bg [.int .i64 0, .slice none 0 0, .int .i64 0] ∧ w4.rowIs ub 4 n (fun j => .bool (O j))) := ⟨lw4, un4.blk H3.out.2.1 (by simp), un4.blk H3.out.2.2.1 (by simp), un4.row H3.out.2.2.2.1 (by simp)⟩
                  clear C lw4 un4 
                  have HF : Hid ((Lw W w4 A S.begin (kb + 1) [bg, cb, ub] ∧ kb + 1 ≤ k + 1) ∧ Blk w4 cb [.int .i64 ok, .int .i64 ot, .int .i64 of, .int .i64 os, .int .i64 on, .bool ob] ∧ Blk w4 bg [.int .i64 0, .slice none 0 0, .int .i64 0] ∧ w4.rowIs ub 4 n (fun j => .bool (O j)) ∧ Wk (S.begin) n O) := ⟨⟨H4.out.1, by omega⟩, H4.out.2.1, H4.out.2.2.1, H4.out.2.2.2, H3.out.2.2.2.2.1.begin⟩
                  clear H4 H3
                  go_wp2
                  go_meet
                  case rel => exact ⟨_, kb + 1, O, 0, [], 0, none, 0, HF.out.1, HF.out.2.1, HF.out.2.2.1, HF.out.2.2.2.1, HF.out.2.2.2.2, Rdi.nil, (fun _ _ e => by cases e), (fun e => by cases e), (fun _ e => by cases e)⟩
                · have h6' : (ok == 6) = false := by simpa using h6
                  clear h6
                  by_cases h10 : ok = 10
                  · have h10' : (ok == 10) = true := by simpa using h10
                    clear h10
                    have C := H3.out.1.end_ (fun k h => by
                        simp only [List.mem_cons, List.not_mem_nil, or_false] at h
                        rcases h with rfl | rfl | rfl
                        · exact H3.out.2.2.1.lt
                        · exact H3.out.2.1.lt
                        · exact H3.out.2.2.2.1.lt) (by omega)
                    go_wp2_with fail
                    refine C.mono ?_
                    rintro e w4 ⟨rfl, lw4, un4⟩
                    have H4 : Hid (Lw W w4 A S.end_ (kb + 1) [bg, cb, ub] ∧ Blk w4 cb [.int .i64 ok, .int .i64 ot, .int .i64 of, .int .i64 os, .int .i64 on, .bool ob] ∧ Blk w4 bg [.int .i64 0, .slice none 0 0, .int .i64 0] ∧ w4.rowIs ub 4 n (fun j => .bool (O j))) := ⟨lw4, un4.blk H3.out.2.1 (by simp), un4.blk H3.out.2.2.1 (by simp), un4.row H3.out.2.2.2.1 (by simp)⟩
                    clear C lw4 un4 
                    have HF : Hid ((Lw W w4 A S.end_ (kb + 1) [bg, cb, ub] ∧ kb + 1 ≤ k + 1) ∧ Blk w4 cb [.int .i64 ok, .int .i64 ot, .int .i64 of, .int .i64 os, .int .i64 on, .bool ob] ∧ Blk w4 bg [.int .i64 0, .slice none 0 0, .int .i64 0] ∧ w4.rowIs ub 4 n (fun j => .bool (O j)) ∧ Wk (S.end_) n O) := ⟨⟨H4.out.1, by omega⟩, H4.out.2.1, H4.out.2.2.1, H4.out.2.2.2, H3.out.2.2.2.2.1.end_⟩
                    clear H4 H3
                    go_wp2
                    go_meet
                    case rel => exact ⟨_, kb + 1, O, 0, [], 0, none, 0, HF.out.1, HF.out.2.1, HF.out.2.2.1, HF.out.2.2.2.1, HF.out.2.2.2.2, Rdi.nil, (fun _ _ e => by cases e), (fun e => by cases e), (fun _ e => by cases e)⟩
                  · have h10' : (ok == 10) = false := by simpa using h10
                    clear h10
                    by_cases h11 : ok = 11
                    · have h11' : (ok == 11) = true := by simpa using h11
                      clear h11
                      have C := H3.out.1.serve (fun k h => by
                          simp only [List.mem_cons, List.not_mem_nil, or_false] at h
                          rcases h with rfl | rfl | rfl
                          · exact H3.out.2.2.1.lt
                          · exact H3.out.2.1.lt
                          · exact H3.out.2.2.2.1.lt) (by omega) ob
                      go_wp2_with fail
                      refine C.mono ?_
                      rintro e w4 ⟨rfl, lw4, un4⟩
                      have H4 : Hid (Lw W w4 A (S.serve ob) (kb + 1) [bg, cb, ub] ∧ Blk w4 cb [.int .i64 ok, .int .i64 ot, .int .i64 of, .int .i64 os, .int .i64 on, .bool ob] ∧ Blk w4 bg [.int .i64 0, .slice none 0 0, .int .i64 0] ∧ w4.rowIs ub 4 n (fun j => .bool (O j))) := ⟨lw4, un4.blk H3.out.2.1 (by simp), un4.blk H3.out.2.2.1 (by simp), un4.row H3.out.2.2.2.1 (by simp)⟩
                      clear C lw4 un4 
                      have HW : Hid (Wk (S.serve ob) n O ∧ ((wts (S.serve ob).E).length + 1 = wl ∨ (wts (S.serve ob).E).length = wl)) := ⟨H3.out.2.2.2.2.1.serve H3.out.1.bd ob, by
                        rw [HFW.out.2]
                        rcases serve_wts (S := S) ob with h | h
                        · exact .inl h.2
                        · exact .inr h.2⟩
                      obtain ⟨S2, hS2⟩ : ∃ S2, S2 = S.serve ob := ⟨_, rfl⟩
                      rw [← hS2] at H4 HW
                      generalize hsv : S.serves = sv at *
                      clear hS2 hsv o0 o1 o2 o3 o4 o5
                      have C := H4.out.1.waits
                      obtain ⟨wl2, hwl2⟩ : ∃ wl2, wl2 = (wts S2.E).length := ⟨_, rfl⟩
                      have HWL : Hid ((wts S2.E).length = wl2) := hwl2.symm
                      rw [← hwl2] at C HW
                      have hq1 : ¬ (wl2 : Int) > (wl : Int) := by have := HW.out.2; omega
                      have hq2 : ¬ (wl2 : Int) < (wl : Int) - 1 := by have := HW.out.2; omega
                      clear hwl2
                      go_wp2_with fail
                      refine C.mono ?_
                      rintro e w5 ⟨rfl, lw5, un5⟩
                      have H5 : Hid (Lw W w5 A S2 (kb + 1) [bg, cb, ub] ∧ Blk w5 cb [.int .i64 ok, .int .i64 ot, .int .i64 of, .int .i64 os, .int .i64 on, .bool ob] ∧ Blk w5 bg [.int .i64 0, .slice none 0 0, .int .i64 0] ∧ w5.rowIs ub 4 n (fun j => .bool (O j))) := ⟨lw5, un5.blk H4.out.2.1 (by simp), un5.blk H4.out.2.2.1 (by simp), un5.row H4.out.2.2.2 (by simp)⟩
                      clear C lw5 un5 H4
                      have C := H5.out.1.waits
                      obtain ⟨wl3, hwl3⟩ : ∃ wl3, wl3 = (wts S2.E).length := ⟨_, rfl⟩
                      rw [← hwl3] at C
                      have hq3 : wl3 = wl2 := by rw [hwl3]; exact HWL.out
                      subst hq3
                      clear hwl3
                      go_wp2_with fail
                      refine C.mono ?_
                      rintro e w6 ⟨rfl, lw6, un6⟩
                      have H6 : Hid (Lw W w6 A S2 (kb + 1) [bg, cb, ub] ∧ Blk w6 cb [.int .i64 ok, .int .i64 ot, .int .i64 of, .int .i64 os, .int .i64 on, .bool ob] ∧ Blk w6 bg [.int .i64 0, .slice none 0 0, .int .i64 0] ∧ w6.rowIs ub 4 n (fun j => .bool (O j))) := ⟨lw6, un6.blk H5.out.2.1 (by simp), un6.blk H5.out.2.2.1 (by simp), un6.row H5.out.2.2.2 (by simp)⟩
                      clear C lw6 un6 H5
                      go_wp2
                      go_meet
                      case rel => exact ⟨S2, kb + 1, O, 0, [], 0, none, 0, ⟨H6.out.1, by omega⟩, H6.out.2.1, H6.out.2.2.1, H6.out.2.2.2, HW.out.1, Rdi.nil, (fun _ _ e => by cases e), (fun e => by cases e), (fun _ e => by cases e)⟩
                    · have h11' : (ok == 11) = false := by simpa using h11
                      clear h11
                      have HF := H3.out
                      have HF2 : Hid _ := HF
                      clear HF
                      go_wp2
                      go_meet
                      case rel => exact ⟨S, kb, O, 0, [], 0, none, 0, ⟨H3.out.1, by omega⟩, H3.out.2.1, H3.out.2.2.1, H3.out.2.2.2.1, H3.out.2.2.2.2.1, Rdi.nil, (fun _ _ e => by cases e), (fun e => by cases e), (fun _ e => by cases e)⟩
      case rest =>
        obtain ⟨S2, kb2, O2, st, G, at_, x, d, hc⟩ := hcut
        clear H3 o0 o1 o2 o3 o4 o5
        have hkb2 : kb2 ≤ k + 1 := hc.out.1.2
        by_cases h1 : st = 1
        · have h1' : (st == 1) = true := by simpa using h1
          have g0 := hc.out.2.2.1.at 0 rfl
          have HIN : Hid ((∀ z, z ∈ G → ∃ q : Nat, z = q ∧ q < n) ∧ (ok = 0 → G.Nodup ∧ ∀ z, z ∈ G → ∃ q : Nat, z = q ∧ q < n ∧ O2 q = false ∧ (S2.T q).s = 2)) := ⟨(hc.out.2.2.2.2.2.2.2.1 h1).2, fun h => hc.out.2.2.2.2.2.2.2.2 h h1⟩
          have H5 : Hid (Lw W wc A S2 kb2 [bg, cb, ub] ∧ Blk wc cb [.int .i64 ok, .int .i64 ot, .int .i64 of, .int .i64 os, .int .i64 on, .bool ob] ∧ Blk wc bg [.int .i64 st, .slice x G.length d, .int .i64 at_] ∧ wc.rowIs ub 4 n (fun j => .bool (O2 j)) ∧ Wk S2 n O2 ∧ Rdi wc x G ∧ ∀ g o, x = some ⟨g, o, none⟩ → g ≠ ub) := ⟨hc.out.1.1, hc.out.2.1, hc.out.2.2.1, hc.out.2.2.2.1, hc.out.2.2.2.2.1, hc.out.2.2.2.2.2.1, hc.out.2.2.2.2.2.2.1⟩
          have HST : Hid (st = 1) := h1
          have hGl : G.length ≤ 100000 := (hc.out.2.2.2.2.2.2.2.1 h1).1
          clear hc h1 g0
          go_wp2
          go_loopg [13] G.length (fun mm i wr => ∃ (q : Nat) (O3 : Nat → Bool), i = .int .i64 q ∧ q ≤ G.length ∧ mm = G.length - q ∧ Hid (Lw W wr A S2 kb2 [bg, cb, ub] ∧ Blk wr cb [.int .i64 ok, .int .i64 ot, .int .i64 of, .int .i64 os, .int .i64 on, .bool ob] ∧ Blk wr bg [.int .i64 st, .slice x G.length d, .int .i64 at_] ∧ wr.rowIs ub 4 n (fun j => .bool (O3 j)) ∧ Wk S2 n O3 ∧ Rdi wr x G ∧ (ok = 0 → ∀ j, (hj : j < G.length) → q ≤ j → O3 (G[j]).toNat = false)))
          case atStart => exact ⟨0, O2, rfl, by omega, by omega, H5.out.1, H5.out.2.1, H5.out.2.2.1, H5.out.2.2.2.1, H5.out.2.2.2.2.1, H5.out.2.2.2.2.2.1, fun h j hj _ => by
            obtain ⟨q, e1, _, e3, _⟩ := (HIN.out.2 h).2 _ (List.getElem_mem hj)
            rw [e1, Int.toNat_natCast]; exact e3⟩
          case round =>
            obtain ⟨q, O3, rfl, hq, hm2, hw2⟩ := hrel
            have HM2 : Hid _ := hm2
            clear hm2
            have g0 := hw2.out.2.2.1.at 0 rfl
            have g1 := hw2.out.2.2.1.at 1 rfl
            by_cases hlt2 : q < G.length
            · have hqi : (q : Int) < (G.length : Int) := by omega
              obtain ⟨yb, yo, rfl, hyl, hyc⟩ := hw2.out.2.2.2.2.2.1 (by omega)
              have a0 := hyc q hlt2
              obtain ⟨fk, hfk, hfn⟩ := HIN.out.1 _ (List.getElem_mem hlt2)
              have HO : Hid (ok = 0 → O3 fk = false ∧ (S2.T fk).s = 2) := fun h => by
                have h1 := hw2.out.2.2.2.2.2.2 h q hlt2 (Nat.le_refl _)
                rw [hfk, Int.toNat_natCast] at h1
                obtain ⟨q', e1, _, _, e4⟩ := (HIN.out.2 h).2 _ (List.getElem_mem hlt2)
                rw [hfk] at e1
                obtain rfl : fk = q' := by omega
                exact ⟨h1, e4⟩
              have HNX : Hid (ok = 0 → ∀ j, (hj : j < G.length) → q + 1 ≤ j → setB O3 fk ((S2.T fk).s == 2) (G[j]).toNat = false) := fun h j hj hqj => by
                have h1 := hw2.out.2.2.2.2.2.2 h j hj (by omega)
                have hne : (G[j]).toNat ≠ fk := fun e => by
                  obtain ⟨q', e1, _⟩ := HIN.out.1 _ (List.getElem_mem hj)
                  rw [e1, Int.toNat_natCast] at e
                  have := List.pairwise_iff_getElem.1 (HIN.out.2 h).1 q j hlt2 hj (by omega)
                  rw [hfk, e1, e] at this
                  exact this rfl
                rw [setB_other _ _ hne]
                exact h1
              rw [hfk] at a0
              have c0 := (KB.out.2.kept hw2.out.1.kept).at 0 rfl
              have o0 := hw2.out.2.1.at 0 rfl
              have u0 := hw2.out.2.2.2.1.cell hfn
              have uf := hw2.out.2.2.2.1.frozen
              have hfi : (fk : Int) < (n : Int) := by omega
              have CS := tstate_any fk wr hw2.out.1.tab
              have hst : stt S2.n S2.T fk = (S2.T fk).s := by
                unfold stt
                rw [hw2.out.2.2.2.2.1.sz, tinn_of hfn, if_pos rfl, Int.toNat_natCast]
              rw [hst] at CS
              have HYU : Hid (yb ≠ ub) := H5.out.2.2.2.2.2.2 yb yo rfl
              have FIN : Hid (∀ w5 : World, w5 = wr.setCell ⟨ub, fk, none⟩ (.bool ((S2.T fk).s == 2)) → Hid (Lw W w5 A S2 kb2 [bg, cb, ub] ∧ Blk w5 cb [.int .i64 ok, .int .i64 ot, .int .i64 of, .int .i64 os, .int .i64 on, .bool ob] ∧ Blk w5 bg [.int .i64 st, .slice (some ⟨yb, yo, none⟩) G.length d, .int .i64 at_] ∧ w5.rowIs ub 4 n (fun j => .bool (setB O3 fk ((S2.T fk).s == 2) j)) ∧ Wk S2 n (setB O3 fk ((S2.T fk).s == 2)) ∧ Rdi w5 (some ⟨yb, yo, none⟩) G ∧ (ok = 0 → ∀ j, (hj : j < G.length) → q + 1 ≤ j → setB O3 fk ((S2.T fk).s == 2) (G[j]).toNat = false))) := fun w5 hW => by
                have M5 : Mut [ub] wr w5 := by
                  rw [hW]
                  exact (Mut.refl [ub] wr).setCell (p := ⟨ub, fk, none⟩) (by simp) _
                refine ⟨hw2.out.1.wrote M5 (fun k hk => by simp at hk; subst hk; exact ⟨by simp, HUB.out.1⟩), hw2.out.2.1.muts M5 (by simp; exact HUB.out.2), hw2.out.2.2.1.muts M5 (by simp; exact HUG.out), ?_, hw2.out.2.2.2.2.1.put hfn, hw2.out.2.2.2.2.2.1.muts M5 (fun g o e => by
                  have : yb = g := (Addr.mk.inj (Option.some.inj e)).1
                  simp; rw [← this]; exact HYU.out), HNX.out⟩
                rw [hW]
                refine (hw2.out.2.2.2.1.set _ _).congr fun j _ => ?_
                by_cases e : j = fk <;> simp [e, setB]
              clear hyc hfk hst
              by_cases h0 : ok = 0
              · have h0' : (ok == 0) = true := by simpa using h0
                obtain ⟨q1, q2⟩ := HO.out h0
                rw [q1] at u0
                rw [q2] at CS FIN
                clear h0 q1 q2
                go_wp2_with fail
                refine CS.mono ?_
                rintro e w6 ⟨rfl, e6⟩
                rw [e6]
                clear e6
                go_wp2_with fail
                refine CS.mono ?_
                rintro e w6 ⟨rfl, e6⟩
                rw [e6]
                clear e6 CS
                go_wp2
                go_roundg (G.length - (q + 1))
                all_goals (have := HM2.out; try omega)
                exact ⟨q + 1, _, by go_num, by omega, by omega, FIN.out _ rfl⟩
              · have h0' : (ok == 0) = false := by simpa using h0
                clear h0
                generalize hz : (S2.T fk).s = z at *
                go_wp2_with fail
                refine CS.mono ?_
                rintro e w6 ⟨rfl, e6⟩
                rw [e6]
                clear e6 CS
                go_wp2
                go_roundg (G.length - (q + 1))
                all_goals (have := HM2.out; try omega)
                exact ⟨q + 1, _, by go_num, by omega, by omega, FIN.out _ rfl⟩
            · obtain rfl : q = G.length := by omega
              have hqi : ¬ (G.length : Int) < (G.length : Int) := by omega
              have A0 : Hid (Lw W wr A S2 kb2 [ub] ∧ Wk S2 n O3 ∧ wr.rowIs ub 4 n (fun j => .bool (O3 j))) := ⟨hw2.out.1.less (by simp), hw2.out.2.2.2.2.1, hw2.out.2.2.2.1⟩
              clear hw2 H5
              have C := tcounts_any wr A0.out.1.tab
              rw [A0.out.2.1.sz] at C
              have hcn := cnt_all (T := S2.T) (n := n) (by have := A0.out.2.1.snd.st; rw [A0.out.2.1.sz] at this; exact this)
              have hfr : cntB S2.F S2.n = cnt S2.T 0 n := by rw [A0.out.2.1.snd.free, A0.out.2.1.sz]
              have CF0 : Hid (∀ wx, Kept wr wx → Calls Try.prog 14 #[.pointer (some ⟨A.b, 0, none⟩)] wx fun e w' => e = .returned (.int .i64 (cnt S2.T 0 n : Int)) ∧ w' = wx) := fun wx k => by
                have := (A0.out.1.keep k).free
                rwa [hfr] at this
              clear hfr
              generalize cnt S2.T 0 n = ca at *
              generalize cnt S2.T 1 n = cc at *
              generalize cnt S2.T 2 n = cd at *
              have hsm : ((ca : Int) + (cc : Int) + (cd : Int) != (n : Int)) = false := by
                have : (ca : Int) + (cc : Int) + (cd : Int) = (n : Int) := by omega
                simp [this]
              have cn0 : ∀ wx, Kept wr wx → wx.cell? ⟨w.heap.size, 0, none⟩ = some (.int .i64 (n : Int)) := fun wx k => (KB.out.2.kept (A0.out.1.kept.trans k)).at 0 rfl
              have CN0 : Hid (∀ wx, Kept wr wx → wx.cell? ⟨w.heap.size, 0, none⟩ = some (.int .i64 (n : Int))) := cn0
              clear cn0
              go_wp2_with fail
              refine C.mono ?_
              rintro e w8 ⟨rfl, k8⟩
              have H8 : Hid (Lw W w8 A S2 kb2 [ub] ∧ Wk S2 n O3 ∧ w8.rowIs ub 4 n (fun j => .bool (O3 j))) := ⟨A0.out.1.keep k8, A0.out.2.1, k8.row A0.out.2.2⟩
              have c0 := CN0.out w8 k8
              have CF := CF0.out w8 k8
              clear C k8 CN0 CF0 A0
              go_wp2_with fail
              refine CF.mono ?_
              rintro e w9 ⟨rfl, e9⟩
              rw [e9]
              clear CF e9 c0
              go_wp2
              go_roundg (l1 - (k + 1))
              all_goals (have := HM.out; try omega)
              exact ⟨k + 1, kb2, S2, O3, by go_num, by omega, by omega, ⟨H8.out.1, hkb2⟩, H8.out.2.2, H8.out.2.1⟩
        · have h1' : (st == 1) = false := by simpa using h1
          have g0 := hc.out.2.2.1.at 0 rfl
          have H5 : Hid (Lw W wc A S2 kb2 [ub] ∧ Wk S2 n O2 ∧ wc.rowIs ub 4 n (fun j => .bool (O2 j))) := ⟨hc.out.1.1.less (by simp), hc.out.2.2.2.2.1, hc.out.2.2.2.1⟩
          have HBG : Hid (Blk wc bg [.int .i64 st, .slice x G.length d, .int .i64 at_]) := hc.out.2.2.1
          clear hc h1 g0
          go_wp2
          go_loopg [13] 0 (fun _ i wr => i = .int .i64 0 ∧ Hid (wr = wc))
          case atStart => exact ⟨rfl, rfl⟩
          case round =>
            obtain ⟨rfl, hw2⟩ := hrel
            have hwe : wr = wc := hw2.out
            have g0 : wr.cell? ⟨bg, 0, none⟩ = some (.int .i64 st) := by rw [hwe]; exact HBG.out.at 0 rfl
            obtain ⟨O3, hO3⟩ : ∃ O3, O3 = O2 := ⟨_, rfl⟩
            have A0 : Hid (Lw W wr A S2 kb2 [ub] ∧ Wk S2 n O3 ∧ wr.rowIs ub 4 n (fun j => .bool (O3 j))) := by rw [hwe, hO3]; exact H5.out
            clear hw2 hwe hO3 H5 HBG
            have C := tcounts_any wr A0.out.1.tab
            rw [A0.out.2.1.sz] at C
            have hcn := cnt_all (T := S2.T) (n := n) (by have := A0.out.2.1.snd.st; rw [A0.out.2.1.sz] at this; exact this)
            have hfr : cntB S2.F S2.n = cnt S2.T 0 n := by rw [A0.out.2.1.snd.free, A0.out.2.1.sz]
            have CF0 : Hid (∀ wx, Kept wr wx → Calls Try.prog 14 #[.pointer (some ⟨A.b, 0, none⟩)] wx fun e w' => e = .returned (.int .i64 (cnt S2.T 0 n : Int)) ∧ w' = wx) := fun wx k => by
              have := (A0.out.1.keep k).free
              rwa [hfr] at this
            clear hfr
            generalize cnt S2.T 0 n = ca at *
            generalize cnt S2.T 1 n = cc at *
            generalize cnt S2.T 2 n = cd at *
            have hsm : ((ca : Int) + (cc : Int) + (cd : Int) != (n : Int)) = false := by
              have : (ca : Int) + (cc : Int) + (cd : Int) = (n : Int) := by omega
              simp [this]
            have cn0 : ∀ wx, Kept wr wx → wx.cell? ⟨w.heap.size, 0, none⟩ = some (.int .i64 (n : Int)) := fun wx k => (KB.out.2.kept (A0.out.1.kept.trans k)).at 0 rfl
            have CN0 : Hid (∀ wx, Kept wr wx → wx.cell? ⟨w.heap.size, 0, none⟩ = some (.int .i64 (n : Int))) := cn0
            clear cn0
            go_wp2_with fail
            refine C.mono ?_
            rintro e w8 ⟨rfl, k8⟩
            have H8 : Hid (Lw W w8 A S2 kb2 [ub] ∧ Wk S2 n O3 ∧ w8.rowIs ub 4 n (fun j => .bool (O3 j))) := ⟨A0.out.1.keep k8, A0.out.2.1, k8.row A0.out.2.2⟩
            have c0 := CN0.out w8 k8
            have CF := CF0.out w8 k8
            clear C k8 CN0 CF0 A0
            go_wp2_with fail
            refine CF.mono ?_
            rintro e w9 ⟨rfl, e9⟩
            rw [e9]
            clear CF e9 c0
            go_wp2
            go_roundg (l1 - (k + 1))
            all_goals (have := HM.out; try omega)
            exact ⟨k + 1, kb2, S2, O3, by go_num, by omega, by omega, ⟨H8.out.1, hkb2⟩, H8.out.2.2, H8.out.2.1⟩
    · obtain rfl : k = l1 := by omega
      have hki : ¬ (k : Int) < (k : Int) := by omega
      go_wp2_with fail
      refine (first_any wr).mono ?_
      rintro e w12 ⟨rfl, k12⟩
      have K12 : Hid (Kept w w12) := (KB.out.1.trans hw.out.1.1.kept).trans k12
      clear k12 hw
      go_wp2
      go_ret
      exact ⟨rfl, K12.out⟩
end Go.Proofs.Ytahpnnjemjjfhaa
