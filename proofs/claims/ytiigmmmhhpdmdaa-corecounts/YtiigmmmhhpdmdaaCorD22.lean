/-
  A core that was asked i times, whatever of it: what each call answers and leaves.
-/
import Derived.Test.YtiigmmmhhpdmdaaSnd22
namespace Go.Proofs.Ytiigmmmhhpdmdaa
open Go.RowKit

theorem i64_and3 (n : Int) : bits .and .i64 n 3 = n % 4 := by
  have key : (BitVec.ofInt 64 n &&& BitVec.ofInt 64 3).toNat = (n % ((2 ^ 64 : Nat) : Int)).toNat % 2 ^ 2 := by
    rw [BitVec.toNat_and, BitVec.toNat_ofInt, BitVec.toNat_ofInt]
    exact Nat.and_two_pow_sub_one_eq_mod _ 2
  show IntKind.i64.wrap ((BitVec.ofInt 64 n &&& BitVec.ofInt 64 3).toNat : Nat) = n % 4
  rw [key, IntKind.wrap_i64]
  omega

section
variable {b M n q : Nat} {F : Nat → Cx}
set_option maxHeartbeats 400000 in
theorem mem_has_no (a : Int) (w : World) (h : Mm w b M n F q) (ha : ¬ (0 ≤ a ∧ a < (n : Int))) :
    Calls Try.prog 47 #[.pointer (some ⟨M, 0, none⟩), .int .i64 a] w fun e w' => e = .returned (.bool false) ∧ w' = w := by
  have c0 := h.hd.at 0 rfl
  clear h
  by_cases h0 : 0 ≤ a
  · have h1 : ¬ a < (n : Int) := fun q => ha ⟨h0, q⟩
    clear ha
    go_enter Try.func47, Try.ntmps47
    go_wp2
    go_ret
    exact ⟨rfl, rfl⟩
  · clear ha
    go_enter Try.func47, Try.ntmps47
    go_wp2
    go_ret
    exact ⟨rfl, rfl⟩
set_option maxHeartbeats 800000 in
theorem mem_read_any (a : Int) (w : World) (h : Mm w b M n F q) (hq : q ≤ 1000000) :
    Calls Try.prog 19 #[.pointer (some ⟨M, 0, none⟩), .int .i64 a] w fun e w' => (∃ r, e = .returned r) ∧ Mm w' b M n F (q + 1) ∧ Mut [M] w w' := by
  by_cases ha : 0 ≤ a ∧ a < (n : Int)
  · obtain ⟨k, rfl⟩ := Int.eq_ofNat_of_zero_le ha.1
    exact (mem_read k w h (by omega) hq).mono fun e w' ⟨he, h1, h2⟩ => ⟨⟨_, he⟩, h1, h2⟩
  · have h1 := h.asked
    have C0 : Hid (Calls Try.prog 47 #[.pointer (some ⟨M, 0, none⟩), .int .i64 a] (w.setCell ⟨M, 1, none⟩ (.int .i64 ((q : Int) + 1))) _) := mem_has_no a _ h1 ha
    have c1 := h.hd.at 1 rfl
    have f1 := h.hd.fz
    have HM : Hid (Mm (w.setCell ⟨M, 1, none⟩ (.int .i64 ((q : Int) + 1))) b M n F (q + 1) ∧ Mut [M] w (w.setCell ⟨M, 1, none⟩ (.int .i64 ((q : Int) + 1)))) := ⟨h1, (Mut.refl _ _).setCell (by simp) _⟩
    clear h1 h ha
    go_enter Try.func19, Try.ntmps19
    go_wp2_with fail
    refine C0.out.mono ?_
    rintro e w' ⟨rfl, rfl⟩
    clear C0
    go_wp2
    go_ret2
    exact ⟨⟨_, rfl⟩, HM.out.1, HM.out.2⟩
end

/-- Asked i times since world w0. -/
structure CI (w0 w : World) (B : Ak) (th i : Nat) : Prop where
  ex : ∃ cc dd v K, KM w0 w cc dd { B with v := v } K ∧ K.S.m = th ∧ Snd K.S ∧ K.S.Bd i ∧ K.q ≤ i ∧ K.sc ≤ i ∧ (0 ≤ K.H.ct ∧ K.H.ct ≤ i) ∧ (K.q : Int) + (K.sc : Int) + K.S.ct + K.H.ct = i
theorem Sp.Bd.up {S : Sp} {k : Nat} (h : S.Bd k) : S.Bd (k + 1) := ⟨h.c0, by have := h.c1; omega, by have := h.len; omega, fun e he => by have := h.cyc e he; omega, h.pos⟩

section
variable {w0 w w' : World} {B : Ak} {th i : Nat}
theorem CI.start {cc dd : Nat → Nat} {N m n s g most ch : Nat} (h : KM w0 w cc dd B (Kv.new N m n s g most th ch)) : CI w0 w B th 0 :=
  ⟨cc, dd, B.v, _, h, rfl, Snd.new n s th ch, bd_new n s th ch 0, Nat.le_refl _, Nat.le_refl _, ⟨Int.le_refl _, Int.le_refl _⟩, rfl⟩
theorem CI.keep (h : CI w0 w B th i) (k : Kept w w') : CI w0 w' B th i := by
  obtain ⟨cc, dd, v, K, h1, h2⟩ := h.ex
  exact ⟨cc, dd, v, K, h1.keep k, h2⟩
theorem CI.kept (h : CI w0 w B th i) : Kept w0 w := by
  obtain ⟨cc, dd, v, K, h1, _⟩ := h.ex
  exact h1.kept
theorem CI.head (h : CI w0 w B th i) : Blk w B.kb B.cells := by
  obtain ⟨cc, dd, v, K, h1, _⟩ := h.ex
  exact h1.kh.head
theorem CI.count (h : CI w0 w B th i) (hi : i ≤ 100) : Calls Try.prog 12 #[.pointer (some ⟨B.kb, 0, none⟩)] w fun e w' => e = .returned (.int .i64 (i : Int)) ∧ Kept w w' := by
  obtain ⟨cc, dd, v, K, h1, _, _, hb, hq, hs, hh, ht⟩ := h.ex
  exact ocount_any (B := { B with v := v }) w h1.kh (by omega) (by omega) ⟨hb.c0, by have := hb.c1; omega⟩ ⟨hh.1, by omega⟩ ht
theorem CI.read (h : CI w0 w B th i) (hi : i < 100) (a : Int) : Calls Try.prog 19 #[.pointer (some ⟨B.mh, 0, none⟩), .int .i64 a] w fun e w' => ∃ r, e = .returned r ∧ CI w0 w' B th (i + 1) := by
  obtain ⟨cc, dd, v, K, h1, hm, hsn, hb, hq, hs, hh, ht⟩ := h.ex
  refine (mem_read_any a w h1.kh.mem (by omega)).mono fun e w' ⟨⟨r, he⟩, m1, m2⟩ => ⟨r, he, cc, dd, v, { K with q := K.q + 1 }, ⟨h1.kh.mems m1 m2, h1.kept.muts m2 fun k hk => ?_, h1.newc, h1.newd⟩, hm, hsn, hb.up, by show K.q + 1 ≤ _; omega, by show K.sc ≤ _; omega, ⟨hh.1, by have := hh.2; show K.H.ct ≤ _; omega⟩, ?_⟩
  · simp only [List.mem_singleton] at hk
    rw [hk]
    exact h1.newd _ (by rw [h1.kh.dm]; decide)
  · show ((K.q + 1 : Nat) : Int) + (K.sc : Int) + K.S.ct + K.H.ct = _
    omega
theorem CI.look (h : CI w0 w B th i) (hi : i < 100) : Calls Try.prog 23 #[.pointer (some ⟨B.hb, 0, none⟩)] w fun e w' => ∃ s se, e = .returned (.tuple #[.int .i64 s, .bool se]) ∧ CI w0 w' B th (i + 1) := by
  obtain ⟨cc, dd, v, K, h1, hm, hsn, hb, hq, hs, hh, ht⟩ := h.ex
  refine (hlook_any w h1.kh.hand (by have := hh.2; omega)).mono fun e w' ⟨he, m1, m2⟩ => ⟨_, _, he, cc, dd, v, { K with H := K.H.tick }, ⟨h1.kh.hands m1 m2, h1.kept.muts m2 fun k hk => ?_, h1.newc, h1.newd⟩, hm, hsn, hb.up, by show K.q ≤ _; omega, by show K.sc ≤ _; omega, ⟨?_, ?_⟩, ?_⟩
  · simp only [List.mem_cons, List.not_mem_nil, or_false] at hk
    rcases hk with rfl | rfl
    · exact h1.newd _ (by rw [h1.kh.dh]; decide)
    · exact h1.newd _ (by rw [h1.kh.dg]; decide)
  · show 0 ≤ K.H.ct + 1
    omega
  · show K.H.ct + 1 ≤ _
    omega
  · show (K.q : Int) + (K.sc : Int) + K.S.ct + (K.H.ct + 1) = _
    omega
theorem lay_n (S : ShS) (j : Int) (s : Bool) : (layS S j s).n = S.n ∧ (layS S j s).most = S.most ∧ (layS S j s).c = S.c ∧ ∀ k, ((layS S j s).T k).s = (S.T k).s := by
  unfold layS
  split
  · exact ⟨rfl, rfl, rfl, fun k => mark_s _ _ _ _ _⟩
  · exact ⟨rfl, rfl, rfl, fun k => rfl⟩
theorem CI.grey (h : CI w0 w B th i) (hi : i < 100) (j : Int) (se : Bool) : Calls Try.prog 20 #[.pointer (some ⟨B.sb, 0, none⟩), .int .i64 j, .bool se] w fun e w' => ∃ r, e = .returned r ∧ CI w0 w' B th (i + 1) := by
  obtain ⟨cc, dd, v, K, h1, hm, hsn, hb, hq, hs, hh, ht⟩ := h.ex
  have hl : K.sh.c < lots := by
    show K.sc < lots
    unfold lots
    omega
  refine (dgrey_any (b := ({ B with v := v } : Ak).sb) j se w h1.kh.sh hl).mono fun e w' ⟨he, v', m1, m2, m3⟩ => ⟨_, he, cc, _, v', _, ⟨h1.kh.shades m1 m2 m3 (lay_n _ _ _).1 (lay_n _ _ _).2.1, h1.kept.muts m2 fun k hk => ?_, h1.newc, fun k hk => ?_⟩, hm, hsn.recolour (lay_n _ _ _).2.2.2, hb.up.like rfl rfl, by show K.q ≤ _; omega, ?_, ⟨hh.1, by have := hh.2; show K.H.ct ≤ _; omega⟩, ?_⟩
  · have hc1 := h1.kh.sp.ctb
    have hc2 := h1.kh.sp.ctg
    simp only [ShF, List.mem_cons, Option.mem_toList] at hk
    rcases hk with rfl | rfl | rfl | rfl | hk
    · exact h1.newd _ (by rw [h1.kh.ds]; decide)
    · exact h1.newc _ (by rw [hc1]; decide)
    · exact h1.newc _ (by rw [hc2]; decide)
    · exact h1.newd _ (by rw [h1.kh.dp]; decide)
    · exact h1.newd _ (by rw [h1.kh.dv k hk]; decide)
  · by_cases q : k < w.heap.size
    · rw [grow_old q] at hk
      exact h1.newd k hk
    · exact Nat.le_trans h1.kept.size (Nat.le_of_not_lt q)
  · show (greyS K.sh j se).c ≤ _
    have := (lay_n K.sh.tick j se).2.2.1
    show (layS K.sh.tick j se).c ≤ _
    rw [this]
    show K.sc + 1 ≤ _
    omega
  · show (K.q : Int) + ((layS K.sh.tick j se).c : Int) + K.S.ct + K.H.ct = _
    rw [(lay_n K.sh.tick j se).2.2.1]
    show (K.q : Int) + ((K.sc + 1 : Nat) : Int) + K.S.ct + K.H.ct = _
    omega
theorem ask_ct (S : Sp) (t fr sp : Int) (se : Bool) : (S.ask t fr sp se).ct = S.ct + 1 ∧ (S.ask t fr sp se).m = S.m ∧ (S.ask t fr sp se).n = S.n := by
  unfold Sp.ask
  split
  · split
    · exact ⟨rfl, rfl, rfl⟩
    · split
      · exact ⟨rfl, rfl, rfl⟩
      · exact ⟨rfl, rfl, rfl⟩
  · exact ⟨rfl, rfl, rfl⟩
/-- One fragment for the first thread: granted, it is used in the table. -/
theorem CI.ask (h : CI w0 w B th i) (hi : i < 100) (h1t : 1 ≤ th) : Calls Try.prog 21 #[.pointer (some ⟨B.A.b, 0, none⟩), .int .i64 0, .int .i64 1, .int .i64 0, .bool true] w fun e w' =>
    ∃ x d st len at_, e = .returned (.agg #[.int .i64 st, .slice x len d, .int .i64 at_]) ∧ CI w0 w' B th (i + 1) ∧
      ((st = 1 ∧ len = 1 ∧ ∃ k : Nat, Rdi w' x [(k : Int)] ∧ ∀ u, Kept w' u → (Calls Try.prog 10 #[.pointer (some ⟨B.sb, 0, none⟩)] u fun e u' => e = .returned (.pointer (some ⟨B.A.tb, 0, none⟩)) ∧ u' = u) ∧ Calls Try.prog 22 #[.pointer (some ⟨B.A.tb, 0, none⟩), .int .i64 (k : Int)] u fun e u' => e = .returned (.int .i64 2) ∧ u' = u) ∨ (st = 0 ∧ len = 0) ∨ (st = 3 ∧ len = 0)) := by
  obtain ⟨cc, dd, v, K, h1, hm, hsn, hb, hq, hs, hh, ht⟩ := h.ex
  refine (ask_any (A := B.A) 0 1 0 true w h1.kh.sp hb (by omega)).mono fun e w' ⟨x, d, he, m1, m2, c', m3, m4⟩ => ⟨x, d, _, _, _, he, ?_, ?_⟩
  · have e0 := ask_ct K.S 0 1 0 true
    refine ⟨c', dd, v, { K with S := K.S.ask 0 1 0 true }, ⟨h1.kh.spaces m3 m4 e0.2.2, h1.kept.muts m4.mu fun k hk => h1.newc k (mem_cols.1 hk).2, fun k hk => ?_, h1.newd⟩, e0.2.1.trans hm, hsn.ask _ _ _ _, bd_ask hb _ _ _ _, by show K.q ≤ _; omega, by show K.sc ≤ _; omega, ⟨hh.1, by have := hh.2; show K.H.ct ≤ _; omega⟩, ?_⟩
    · by_cases q : k < w.heap.size
      · rw [m4.same k q] at hk
        exact h1.newc k hk
      · exact Nat.le_trans h1.kept.size (Nat.le_of_not_lt q)
    · show (K.q : Int) + (K.sc : Int) + (K.S.ask 0 1 0 true).ct + K.H.ct = _
      rw [e0.1]
      omega
  · rcases hsn.one (by omega) with ⟨z1, k, z2, z3, z4⟩ | z | z
    · have e0 := ask_ct K.S 0 1 0 true
      have kh2 := h1.kh.spaces m3 m4 e0.2.2
      rw [z2] at m1
      refine .inl ⟨z1, by rw [z2]; rfl, k, m1, fun u hu => ⟨dtable_any u (kh2.kept hu).sh, ?_⟩⟩
      have hst : stt (K.S.ask 0 1 0 true).n (K.S.ask 0 1 0 true).T (k : Int) = 2 := by rw [e0.2.2]; exact z4
      have C := tstate_any (k : Int) u (kh2.kept hu).sp.tab
      rw [show stt ({ K with S := K.S.ask 0 1 0 true } : Kv).S.n ({ K with S := K.S.ask 0 1 0 true } : Kv).S.T (k : Int) = 2 from hst] at C
      exact C
    · exact .inr (.inl ⟨by rw [z], by rw [z]; rfl⟩)
    · exact .inr (.inr ⟨by rw [z], by rw [z]; rfl⟩)
end
end Go.Proofs.Ytiigmmmhhpdmdaa
