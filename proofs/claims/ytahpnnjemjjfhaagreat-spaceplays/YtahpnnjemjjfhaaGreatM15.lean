/-
  The modules SpcH, one behind another.
-/
import Derived.Test.YtahpnnjemjjfhaaGreatM11
import Derived.Test.YtahpnnjemjjfhaaGreatM14
/-
  Contracts of package space: Serve, Wants.
-/
namespace Go.Proofs.YtahpnnjemjjfhaaGreat
open Go.RowKit

/-- Operation c turns the world, and then operation s does. -/
def J3 (c s : Nat) (P0 P1 P2 : World → Prop) (d : Nat → Bool) (u : World) : Prop := (d c = false → P0 u) ∧ (d c = true → d s = false → P1 u) ∧ (d s = true → P2 u)
section
variable {c s : Nat} {P0 P1 P2 Q1 : World → Prop} {d : Nat → Bool} {u : World}
theorem J3.start (h : P0 u) : J3 c s P0 P1 P2 (fun _ => false) u := ⟨fun _ => h, fun e => absurd e (by simp), fun e => absurd e (by simp)⟩
theorem J3.plain (h : J3 c s P0 P1 P2 d u) (k : Nat) (hk : k ≠ c) (hs : k ≠ s) : J3 c s P0 P1 P2 (done d k) u := by
  have e : done d k c = d c := by simp [done, Ne.symm hk]
  have e2 : done d k s = d s := by simp [done, Ne.symm hs]
  unfold J3
  rw [e, e2]
  exact h
theorem J3.now (h : J3 c s P0 P1 P2 d u) (hk : d c = false) : P0 u := h.1 hk
theorem J3.mid (h : J3 c s P0 P1 P2 d u) (hk : d c = true) (hs : d s = false) : P1 u := h.2.1 hk hs
theorem J3.fin (h : J3 c s P0 P1 P2 d u) (hs : d s = true) : P2 u := h.2.2 hs
theorem J3.turn (_h : J3 c s P0 P1 P2 d u) (hne : c ≠ s) (_ : d c = false) {u' : World} (h' : Q1 u') (hs : d s = false) : J3 c s P0 Q1 P2 (done d c) u' := by
  have e : done d c c = true := by simp [done]
  have e2 : done d c s = d s := by simp [done, Ne.symm hne]
  unfold J3
  rw [e, e2]
  exact ⟨(fun q => by cases q), (fun _ _ => h'), (fun q => by rw [hs] at q; cases q)⟩
theorem J3.turn2 (_h : J3 c s P0 P1 P2 d u) (hc : d c = true) (hne : c ≠ s) {u' : World} (h' : P2 u') : J3 c s P0 P1 P2 (done d s) u' := by
  have e : done d s s = true := by simp [done]
  have e2 : done d s c = d c := by simp [done, hne]
  unfold J3
  rw [e, e2, hc]
  exact ⟨(fun q => by cases q), (fun _ q => by cases q), (fun _ => h')⟩
end

def Sp.hd (S : Sp) : Option Ent := S.E.find? fun e => e.st == 0
/-- The first one that waits, another one in its place. -/
def Sp.setE (S : Sp) (e : Ent) : Sp := { S with E := S.E.set (idx (fun e => e.st == 0) S.E).toNat e }
def Sp.serves (S : Sp) : Bool := match S.hd with
  | none => false
  | some e => fitsB S e.fr e.sp || decide (2 ≤ e.cy)
def Sp.serve (S : Sp) (se : Bool) : Sp := match S.hd with
  | none => S.tick
  | some e => if fitsB S e.fr e.sp then (S.tick.tk e.fr e.sp se).setE { e with st := 1, pl := S.tkA e.fr e.sp, G := takeZ S.n S.F e.fr }
    else if 2 ≤ e.cy then S.tick.setE { e with st := 2 } else S.tick
def Ad.wants (A : Ad) (S : Sp) : Bool := S.fo || decide (0 < (wts S.E).length) || decide ((cntB S.F S.n : Int) < A.C.n7)

theorem wwaits_line {c : Nat → Nat} {A : Ad} {S : Sp} (w : World) (h : SH w c A S) : Calls Tryz.prog 74 #[.pointer (some ⟨A.lb, 0, none⟩)] w fun e w' => e = .returned (.int .i64 ((wts S.E).length : Int)) ∧ Kept w w' := by
  obtain ⟨v, E, q1, q2, _⟩ := h.line
  have C := lwaits_any w q1
  have hwl : (wts E).length = (wts S.E).length := by
    rw [show S.E = E.map Ent.nrm from q2.symm]
    unfold wts
    rw [List.filter_map, List.length_map]
    rfl
  rwa [hwl] at C
theorem set_nrm (E : List Ent) (i : Nat) (e : Ent) : (E.set i e).map Ent.nrm = (E.map Ent.nrm).set i e.nrm := List.map_set

section
variable {c c' : Nat → Nat} {w w' W : World} {A : Ad} {S : Sp}

set_option maxHeartbeats 8000000 in
theorem wserve_any (se : Bool) (w : World) (h : SH w c A S) {kb : Nat} (hk : S.Bd kb) (hkb : kb ≤ 50000) :
    Calls Tryz.prog 65 #[.pointer (some ⟨A.b, 0, none⟩), .bool se] w fun e w' => e = .returned (.bool S.serves) ∧ ∃ c', SH w' c' A (S.serve se) ∧ Stp c w c' w' := by
  have HS : Hid (SH w c A S) := h
  have HK : Hid (S.Bd kb ∧ kb ≤ 50000) := ⟨hk, hkb⟩
  have hct : 0 ≤ S.ct ∧ S.ct ≤ 50000 := ⟨hk.c0, by have := hk.c1; omega⟩
  have c15 := h.head.blk.at 15 rfl
  have f15 := h.head.blk.fz 15
  have c2 := h.head.blk.at 2 rfl
  have HW : Hid (∀ W, w.setCell ⟨A.b, 15, none⟩ (.int .i64 (S.ct + 1)) = W → SH W c A S.tick ∧ Stp c w c W) := fun W hW => by
    rw [← hW]
    exact ⟨h.ticks, h.stph ((Mut.refl _ _).setCell (by simp) _)⟩
  obtain ⟨h0, h1⟩ := hct
  clear h hk hkb
  have HV : Hid (S.serves = match S.hd with
    | none => false
    | some e => fitsB S e.fr e.sp || decide (2 ≤ e.cy)) := rfl
  have HA : Hid (S.serve se = match S.hd with
    | none => S.tick
    | some e => if fitsB S e.fr e.sp then (S.tick.tk e.fr e.sp se).setE { e with st := 1, pl := S.tkA e.fr e.sp, G := takeZ S.n S.F e.fr }
      else if 2 ≤ e.cy then S.tick.setE { e with st := 2 } else S.tick) := rfl
  go_enter Tryz.func65, Tryz.ntmps65
  go_wp2_with fail
  generalize hW : World.setCell _ _ _ = W
  have HB : Hid (SH W c A S.tick ∧ Stp c w c W) := HW.out W hW
  clear hW HW c15 f15 c2
  obtain ⟨lv, E, l1, l2, l3⟩ := HB.out.1.line
  have CO := lfirst_any W l1
  simp only [Ent.agg] at CO
  have HHD : S.hd = (E.find? fun e => e.st == 0).map Ent.nrm := by
    unfold Sp.hd
    rw [show S.E = E.map Ent.nrm from l2.symm, find_nrm _ (fun _ => rfl)]
  have HL : Hid (LTab W 0 A.lb lv E ∧ E.map Ent.nrm = S.E ∧ ∀ k, k ∈ foot A.lb lv E → c k = 3) := ⟨l1, l2, l3⟩
  clear l1 l2 l3
  rcases idx_cases (fun e => e.st == 0) E with ⟨hix, hf, _⟩ | ⟨i, hi, hix, hf, hst, _⟩
  · rw [hf] at CO HHD
    simp only [told, Option.getD_none, none7, Option.isSome_none] at CO
    rw [HHD] at HV HA
    simp only [Option.map_none] at HV HA
    clear hf HHD HL hix
    refine CO.mono ?_
    rintro e w2 ⟨y, d, rfl, _, _, k2⟩
    have H2 : Hid (SH w2 c A S.tick ∧ Stp c w c w2 ∧ Kept w2 (w2.alloc (.cells #[.int .i64 0, .int .i64 0, .int .i64 0, .int .i64 0, .int .i64 0, .int .i64 0, .slice y 0 d] 126))) := ⟨HB.out.1.kept k2, HB.out.2.trans (Stp.kept k2), (Kept.refl w2).alloc _ _⟩
    clear k2 CO
    go_wp2
    go_ret
    exact ⟨by rw [HV.out] <;> rfl, c, by rw [HA.out]; exact ⟨H2.out.1.kept H2.out.2.2, H2.out.2.1.trans (Stp.kept H2.out.2.2)⟩⟩
  · rw [hf] at CO HHD
    simp only [told, Option.getD_some, Option.isSome_some] at CO
    rw [HHD] at HV HA
    simp only [Option.map_some] at HV HA
    have hE : E[i].nrm ∈ S.E := by rw [show S.E = E.map Ent.nrm from HL.out.2.1.symm]; exact List.mem_map_of_mem (List.getElem_mem hi)
    have hps := HK.out.1.pos _ hE
    have hcy := HK.out.1.cyc _ hE
    have HIX : Hid (i < E.length ∧ idx (fun e => e.st == 0) E = (i : Int)) := ⟨hi, hix⟩
    rw [show E[i].nrm.fr = E[i].fr from rfl, show E[i].nrm.sp = E[i].sp from rfl] at HV HA hps
    rw [show E[i].nrm.cy = E[i].cy from rfl] at HV HA hcy
    have HE0 : Hid (∃ e0, e0 = E[i]) := ⟨_, rfl⟩
    obtain ⟨e0, he0⟩ := HE0.out
    rw [← he0] at CO HV HA hps hcy
    have HEI : Hid (e0 = E[i]) := he0
    clear hf HHD hst HE0 he0 hE hix
    refine CO.mono ?_
    rintro e w2 ⟨y, dy, rfl, r2, f2, k2⟩
    have H2 : Hid (SH w2 c A S.tick ∧ Stp c w c w2 ∧ Kept W w2) := ⟨HB.out.1.kept k2, HB.out.2.trans (Stp.kept k2), k2⟩
    clear k2 CO r2 f2
    obtain ⟨fr, hfr⟩ : ∃ fr, fr = e0.fr := ⟨_, rfl⟩
    obtain ⟨sp, hsp⟩ : ∃ sp, sp = e0.sp := ⟨_, rfl⟩
    rw [← hfr, ← hsp] at HV HA hps
    have HFS : Hid (fr = e0.fr ∧ sp = e0.sp) := ⟨hfr, hsp⟩
    rw [← hfr, ← hsp]
    clear hfr hsp
    go_wp2_with fail
    generalize hW2 : w2.alloc _ = W2
    obtain ⟨rb, hrb⟩ : ∃ rb, rb = w2.heap.size := ⟨_, rfl⟩
    rw [← hrb]
    have HR : Hid (Blk W2 rb [.int .i64 e0.th, .int .i64 fr, .int .i64 sp, .int .i64 e0.st, .int .i64 e0.cy, .int .i64 e0.pl, .slice y e0.G.length dy]) := by
      rw [← hW2, hrb]; exact Blk.new w2 _ _
    have k2 : Kept w2 W2 := by rw [← hW2]; exact (Kept.refl w2).alloc _ _
    have HS2 : Hid (SH W2 c A S.tick) := H2.out.1.kept k2
    have HX : Hid (Stp c w c W2 ∧ Kept W W2) := ⟨H2.out.2.1.trans (Stp.kept k2), H2.out.2.2.trans k2⟩
    clear hW2 k2 H2 hrb
    have CF : Hid (∀ z : KW W2, Calls Tryz.prog 82 #[.agg #[.pointer (some ⟨A.tb, 0, none⟩), .pointer (some ⟨A.pb, 0, none⟩), .pointer (some ⟨A.lb, 0, none⟩), .pointer (some ⟨A.kb, 0, none⟩), .int .i64 A.C.n0, .int .i64 A.C.n1, .int .i64 A.C.n2, .int .i64 A.C.n3, .int .i64 A.C.n4, .int .i64 A.C.n5, .int .i64 A.C.n6, .int .i64 A.C.n7, .slice A.C.x A.C.l A.C.c], .int .i64 fr, .int .i64 sp] z.it fun e w' => e = .returned (.bool (fitsB S fr sp)) ∧ Kept z.it w') := fun z => fits_any (S := S.tick) fr sp z.it (HS2.out.kept z.ok)
    have LH := HS2.out.head.blk.lt
    have LR := HR.out.lt
    have b0 := fun z : KW W2 => z.cell (a := ⟨A.b, 0, none⟩) LH (HS2.out.head.blk.at 0 rfl)
    have b1 := fun z : KW W2 => z.cell (a := ⟨A.b, 1, none⟩) LH (HS2.out.head.blk.at 1 rfl)
    have b2 := fun z : KW W2 => z.cell (a := ⟨A.b, 2, none⟩) LH (HS2.out.head.blk.at 2 rfl)
    have b3 := fun z : KW W2 => z.cell (a := ⟨A.b, 3, none⟩) LH (HS2.out.head.blk.at 3 rfl)
    have b4 := fun z : KW W2 => z.cell (a := ⟨A.b, 4, none⟩) LH (HS2.out.head.blk.at 4 rfl)
    have b5 := fun z : KW W2 => z.cell (a := ⟨A.b, 5, none⟩) LH (HS2.out.head.blk.at 5 rfl)
    have b6 := fun z : KW W2 => z.cell (a := ⟨A.b, 6, none⟩) LH (HS2.out.head.blk.at 6 rfl)
    have b7 := fun z : KW W2 => z.cell (a := ⟨A.b, 7, none⟩) LH (HS2.out.head.blk.at 7 rfl)
    have b8 := fun z : KW W2 => z.cell (a := ⟨A.b, 8, none⟩) LH (HS2.out.head.blk.at 8 rfl)
    have b9 := fun z : KW W2 => z.cell (a := ⟨A.b, 9, none⟩) LH (HS2.out.head.blk.at 9 rfl)
    have b10 := fun z : KW W2 => z.cell (a := ⟨A.b, 10, none⟩) LH (HS2.out.head.blk.at 10 rfl)
    have b11 := fun z : KW W2 => z.cell (a := ⟨A.b, 11, none⟩) LH (HS2.out.head.blk.at 11 rfl)
    have b12 := fun z : KW W2 => z.cell (a := ⟨A.b, 12, none⟩) LH (HS2.out.head.blk.at 12 rfl)
    have r1 := fun z : KW W2 => z.cell (a := ⟨rb, 1, none⟩) LR (HR.out.at 1 rfl)
    have r2 := fun z : KW W2 => z.cell (a := ⟨rb, 2, none⟩) LR (HR.out.at 2 rfl)
    refine wp_region_kept (by kernel_rfl) (by kernel_rfl) fun _ => ?_
    repeat (go_big_quiet_step (first | (go_at_call 82; exact kept_of (CF.out _))))
    refine wpQuiet_nil ?_
    rintro _ ⟨z, rfl⟩
    have HR' : Hid (Blk z.it rb [.int .i64 e0.th, .int .i64 fr, .int .i64 sp, .int .i64 e0.st, .int .i64 e0.cy, .int .i64 e0.pl, .slice y e0.G.length dy]) := HR.out.kept z.ok
    have HS2' : Hid (SH z.it c A S.tick) := HS2.out.kept z.ok
    have HX' : Hid (Stp c w c z.it ∧ Kept W z.it) := ⟨HX.out.1.trans (Stp.kept z.ok), HX.out.2.trans z.ok⟩
    clear b0 b1 b2 b3 b4 b5 b6 b7 b8 b9 b10 b11 b12 r1 r2 CF LH LR
    generalize z.it = W3 at *
    clear z HR HS2 HX
    obtain ⟨W2, rfl⟩ : ∃ W, W = W3 := ⟨_, rfl⟩
    have HR := HR'
    have HS2 := HS2'
    have HX := HX'
    clear HR' HS2' HX'
    have HPS : Hid (1 ≤ fr ∧ 0 ≤ sp) := hps
    have hnr : e0.nrm = { e0 with gx := none, gc := 0 } := rfl
    cases hft : fitsB S fr sp
    · rw [hft] at HV HA
      simp only [Bool.false_or, Bool.false_eq_true, if_false] at HV HA
      clear hft hps
      have r4 := HR.out.at 4 rfl
      by_cases hc2 : 2 ≤ e0.cy
      · rw [if_pos hc2] at HA
        have hd2 : decide (2 ≤ e0.cy) = true := by simpa using hc2
        rw [hd2] at HV
        clear hd2
        have c2 := HS2.out.head.blk.at 2 rfl
        have CL := lfail_yes W2 (HL.out.1.kept HX.out.2) HIX.out.1 HIX.out.2
        go_wp2_with fail
        refine CL.mono ?_
        rintro e w3 ⟨rfl, t3, m3, f3⟩
        have H3a := SH.lines HS2.out HL.out.2.2 t3 m3 (fun k hk => mem_foot.2 (by
          rcases List.mem_cons.1 hk with q | q
          · exact .inl q
          · exact .inr (.inl (by simpa using q)))) f3
        have h3 : ∃ c', SH w3 c' A (S.tick.setE { e0.nrm with st := 2 }) ∧ Stp c w c' w3 := by
          refine ⟨_, ?_, HX.out.1.trans H3a.2⟩
          have e1 : S.tick.setE { e0.nrm with st := 2 } = { S.tick with E := (E.set i { E[i] with st := 2 }).map Ent.nrm } := by
            unfold Sp.setE
            rw [set_nrm, show S.tick.E = E.map Ent.nrm from HL.out.2.1.symm, idx_nrm _ (fun _ => rfl), HIX.out.2, Int.toNat_natCast, HEI.out]
            rfl
          rw [e1]
          exact H3a.1
        have H3 : Hid _ := h3
        clear h3 H3a t3 m3 f3 CL c2 r4
        go_wp2
        go_ret
        exact ⟨by rw [HV.out] <;> rfl, by rw [HA.out]; obtain ⟨rfl, rfl⟩ := HFS.out; exact H3.out⟩
      · rw [if_neg hc2] at HA
        have hd2 : decide (2 ≤ e0.cy) = false := by simpa using hc2
        rw [hd2] at HV
        clear hd2
        go_wp2
        go_ret
        exact ⟨by rw [HV.out] <;> rfl, c, by rw [HA.out]; exact ⟨HS2.out, HX.out.1⟩⟩
    · rw [hft] at HV HA
      simp only [Bool.true_or, if_true] at HV HA
      obtain ⟨Z, hZ⟩ : ∃ Z, Z = takeZ S.n S.F fr := ⟨_, rfl⟩
      obtain ⟨ta, hta⟩ : ∃ ta, ta = S.tkA fr sp := ⟨_, rfl⟩
      obtain ⟨P1, hP1⟩ : ∃ P1 : Option Addr → Nat → World → Prop, P1 = fun x dd u => SH u c A (S.tick.tk fr sp se) ∧ Stp c W2 c u ∧ Rdi u x Z ∧ ∀ g o, x = some ⟨g, o, none⟩ → W2.heap.size ≤ g := ⟨_, rfl⟩
      obtain ⟨P2, hP2⟩ : ∃ P2 : World → Prop, P2 = fun u => ∃ c', SH u c' A (S.serve se) ∧ Stp c w c' u := ⟨_, rfl⟩
      have HT : Hid (∀ u, Kept W2 u → Calls Tryz.prog 83 #[.agg #[.pointer (some ⟨A.tb, 0, none⟩), .pointer (some ⟨A.pb, 0, none⟩), .pointer (some ⟨A.lb, 0, none⟩), .pointer (some ⟨A.kb, 0, none⟩), .int .i64 A.C.n0, .int .i64 A.C.n1, .int .i64 A.C.n2, .int .i64 A.C.n3, .int .i64 A.C.n4, .int .i64 A.C.n5, .int .i64 A.C.n6, .int .i64 A.C.n7, .slice A.C.x A.C.l A.C.c], .int .i64 fr, .int .i64 sp, .bool se] u fun e u' => ∃ x dd, e = .returned (.tuple #[.slice x Z.length dd, .int .i64 ta]) ∧ P1 x dd u') := fun u k => by
        refine (wtake_any fr sp se u (HS2.out.kept k) hft HPS.out.1 HPS.out.2).mono ?_
        rintro e u' ⟨x, dd, rfl, s3, p3, r3, n3⟩
        refine ⟨x, dd, by rw [hZ, hta]; rfl, ?_⟩
        rw [hP1]
        exact ⟨s3, (Stp.kept k).trans p3, by rw [hZ]; exact r3, fun g o e => Nat.le_trans k.size (n3 g o e)⟩
      have HGr : Hid (∀ (x : Option Addr) (dd : Nat) u, P1 x dd u → Calls Tryz.prog 123 #[.pointer (some ⟨A.lb, 0, none⟩), .slice x Z.length dd, .int .i64 ta] u fun e u' => e = .returned (.bool true) ∧ P2 u') := fun x dd u p1 => by
        rw [hP1] at p1
        obtain ⟨s3, p3, r3, n3⟩ := p1
        obtain ⟨v, E', q1, q2, q3⟩ := s3.line
        rw [show (S.tick.tk fr sp se).E = S.E from rfl] at q2
        have hlen : E'.length = E.length := by
          have := congrArg List.length (q2.trans HL.out.2.1.symm)
          simpa using this
        have hix' : idx (fun e => e.st == 0) E' = (i : Int) := by
          rw [← idx_nrm _ (fun _ => rfl), q2, ← HL.out.2.1, idx_nrm _ (fun _ => rfl), HIX.out.2]
        have hi' : i < E'.length := by have := HIX.out.1; omega
        have hEi : E'[i].nrm = e0.nrm := by
          have := congrArg (fun l => l[i]?) (q2.trans HL.out.2.1.symm)
          simp only [List.getElem?_map, List.getElem?_eq_getElem hi', List.getElem?_eq_getElem HIX.out.1, Option.map_some, Option.some.injEq] at this
          rw [this, HEI.out]
        have hZl : Z.length ≤ 100000 := by
          have : Z.length = fr.toNat := by rw [hZ]; simp [takeZ, takeL_len (fits_takes hft HPS.out.1 HPS.out.2).1]
          have h2 := (fits_takes hft HPS.out.1 HPS.out.2).1
          simp only [takeB, decide_eq_true_eq] at h2
          have h3 := cntB_le S.F S.n
          have h4 := HS2.out.pool.few
          have h5 : S.tick.n = S.n := rfl
          omega
        refine (lgrant_yes (c := dd) (p := ta) u q1 hi' hix' r3 hZl).mono ?_
        rintro e u' ⟨rfl, y', d', t3, m3, f3⟩
        refine ⟨rfl, ?_⟩
        rw [hP2]
        have H3a := SH.lines s3 q3 t3 m3 (fun k hk => mem_foot.2 (by
          rcases List.mem_cons.1 hk with q | q
          · exact .inl q
          · exact .inr (.inl (by simpa using q)))) f3
        refine ⟨_, ?_, (HX.out.1.trans p3).trans H3a.2⟩
        have e1 : S.serve se = { S.tick.tk fr sp se with E := (E'.set i { E'[i] with st := 1, pl := ta, gx := y', gc := d', G := Z }).map Ent.nrm } := by
          rw [HA.out]
          unfold Sp.setE
          rw [set_nrm, show (S.tick.tk fr sp se).E = E'.map Ent.nrm from q2.symm, idx_nrm _ (fun _ => rfl), hix', Int.toNat_natCast, ← hZ, ← hta]
          have e2 : ({ E'[i] with st := 1, pl := ta, gx := y', gc := d', G := Z } : Ent).nrm = { e0.nrm with st := 1, pl := ta, G := Z } := by rw [← hEi]; rfl
          rw [e2]
          obtain ⟨rfl, rfl⟩ := HFS.out
          rfl
        rw [e1]
        exact H3a.1
      have HP1 : Hid (∀ (x : Option Addr) (dd : Nat) u, P1 x dd u → SH u c A (S.tick.tk fr sp se)) := fun x dd u p => by rw [hP1] at p; exact p.1
      have FIN : Hid (∀ u, P2 u → Ending.returned (.bool true) = Ending.returned (.bool S.serves) ∧ ∃ c', SH u c' A (S.serve se) ∧ Stp c w c' u) := fun u p => by rw [hP2] at p; exact ⟨by rw [HV.out], p⟩
      clear hft hps hZ hta hP1 hP2
      go_wp2_with fail
      refine wp_region_ghost (G := Option Addr × Nat) (fun ⟨x, dd⟩ => [(.pointer (some ⟨A.b, 0, none⟩)), (.pointer (some ⟨A.b, 0, none⟩)), (.pointer (some ⟨A.b, 0, none⟩)), (.pointer (some ⟨A.b, 2, none⟩)), (.pointer (some ⟨A.lb, 0, none⟩)), (.pointer (some ⟨A.b, 0, none⟩)), (.pointer (some ⟨A.b, 0, none⟩)), (.pointer (some ⟨A.b, 0, none⟩)), (.agg #[.pointer (some ⟨A.tb, 0, none⟩), .pointer (some ⟨A.pb, 0, none⟩), .pointer (some ⟨A.lb, 0, none⟩), .pointer (some ⟨A.kb, 0, none⟩), .int .i64 A.C.n0, .int .i64 A.C.n1, .int .i64 A.C.n2, .int .i64 A.C.n3, .int .i64 A.C.n4, .int .i64 A.C.n5, .int .i64 A.C.n6, .int .i64 A.C.n7, .slice A.C.x A.C.l A.C.c]), (.pointer (some ⟨rb, 1, none⟩)), (.int .i64 fr), (.pointer (some ⟨rb, 2, none⟩)), (.int .i64 sp), (.bool se), (.tuple #[.slice x Z.length dd, .int .i64 ta]), (.slice x Z.length dd), (.int .i64 ta), (.bool true), (.bool true)]) [(4, 18), (36, 0), (37, 1), (38, 2), (39, 3), (40, 4), (41, 5), (42, 6), (43, 7), (44, 8), (45, 9), (46, 10), (47, 11), (48, 12), (49, 13), (50, 14), (51, 15), (52, 16), (53, 17)] (fun ⟨x, dd⟩ d u => J3 14 17 (fun u => Kept W2 u) (fun u => P1 x dd u) P2 d u) (by kernel_rfl) (by kernel_rfl) (by kernel_rfl) (by kernel_rfl) (fun _ => rfl) ?_ ?_ ?_
      · exact ⟨⟨none, 0⟩, J3.start (Kept.refl _).drew⟩
      · intro i1 o1 ho ng a1 d u hh hj0 hi hd hc
        obtain ⟨x, dd⟩ := ng
        have hj : J3 14 17 (fun u => Kept W2 u) (fun u => P1 x dd u) P2 d u := hj0
        clear hj0
        match i1, ho, hi, hd with
        | 0, ho, hi, hd =>
          simp only [List.getElem?_cons_zero, Option.some.injEq] at ho
          subst ho
          have g0 : a1.tmps[0]? = some (.pointer (some ⟨A.b, 0, none⟩)) := hh.old 0 (by kernel_rfl) rfl
          have HN : Hid (J3 14 17 (fun u => Kept W2 u) (fun u => P1 x dd u) P2 (done d 0) u) := hj.plain 0 (by decide) (by decide)
          clear hh hd hc hj hi
          refine wpOp_step rfl (fun K hK => ?_)
          go_simp
          exact hK _ _ ⟨⟨x, dd⟩, fun _ _ => rfl, by simp [Act.put], HN.out⟩
        | 1, ho, hi, hd =>
          simp only [List.getElem?_cons_succ, List.getElem?_cons_zero, Option.some.injEq] at ho
          subst ho
          have g36 : a1.tmps[36]? = some (.pointer (some ⟨A.b, 0, none⟩)) := hh.did 0 _ 36 rfl rfl (hd { on := 0, ground := .data } (by simp) rfl)
          have HN : Hid (J3 14 17 (fun u => Kept W2 u) (fun u => P1 x dd u) P2 (done d 1) u) := hj.plain 1 (by decide) (by decide)
          clear hh hd hc hj hi
          refine wpOp_step rfl (fun K hK => ?_)
          go_simp
          exact hK _ _ ⟨⟨x, dd⟩, fun _ _ => rfl, by simp [Act.put], HN.out⟩
        | 2, ho, hi, hd =>
          simp only [List.getElem?_cons_succ, List.getElem?_cons_zero, Option.some.injEq] at ho
          subst ho
          have g37 : a1.tmps[37]? = some (.pointer (some ⟨A.b, 0, none⟩)) := hh.did 1 _ 37 rfl rfl (hd { on := 1, ground := .data } (by simp) rfl)
          have HN : Hid (J3 14 17 (fun u => Kept W2 u) (fun u => P1 x dd u) P2 (done d 2) u) := hj.plain 2 (by decide) (by decide)
          clear hh hd hc hj hi
          refine wpOp_step rfl (fun K hK => ?_)
          go_simp
          exact hK _ _ ⟨⟨x, dd⟩, fun _ _ => rfl, by simp [Act.put], HN.out⟩
        | 3, ho, hi, hd =>
          simp only [List.getElem?_cons_succ, List.getElem?_cons_zero, Option.some.injEq] at ho
          subst ho
          have g38 : a1.tmps[38]? = some (.pointer (some ⟨A.b, 0, none⟩)) := hh.did 2 _ 38 rfl rfl (hd { on := 2, ground := .data } (by simp) rfl)
          have HN : Hid (J3 14 17 (fun u => Kept W2 u) (fun u => P1 x dd u) P2 (done d 3) u) := hj.plain 3 (by decide) (by decide)
          clear hh hd hc hj hi
          refine wpOp_step rfl (fun K hK => ?_)
          go_simp
          exact hK _ _ ⟨⟨x, dd⟩, fun _ _ => rfl, by simp [Act.put], HN.out⟩
        | 4, ho, hi, hd =>
          simp only [List.getElem?_cons_succ, List.getElem?_cons_zero, Option.some.injEq] at ho
          subst ho
          have g39 : a1.tmps[39]? = some (.pointer (some ⟨A.b, 2, none⟩)) := hh.did 3 _ 39 rfl rfl (hd { on := 3, ground := .data } (by simp) rfl)
          have n17 : d 17 = false := by
            cases q : d 17 with
            | false => rfl
            | true => exact absurd (hc 17 _ rfl q { on := 4, ground := .data } (by simp) rfl) (by simp [hi])
          have c2 : u.cell? ⟨A.b, 2, none⟩ = some (.pointer (some ⟨A.lb, 0, none⟩)) := by
            cases q14 : d 14 with
            | false => exact (HS2.out.kept (hj.now q14)).head.blk.at 2 rfl
            | true => exact (HP1.out x dd u (hj.mid q14 n17)).head.blk.at 2 rfl
          have HN : Hid (J3 14 17 (fun u => Kept W2 u) (fun u => P1 x dd u) P2 (done d 4) u) := hj.plain 4 (by decide) (by decide)
          clear hh hd hc hj hi
          refine wpOp_step rfl (fun K hK => ?_)
          go_simp
          exact hK _ _ ⟨⟨x, dd⟩, fun _ _ => rfl, by simp [Act.put], HN.out⟩
        | 5, ho, hi, hd =>
          simp only [List.getElem?_cons_succ, List.getElem?_cons_zero, Option.some.injEq] at ho
          subst ho
          have g0 : a1.tmps[0]? = some (.pointer (some ⟨A.b, 0, none⟩)) := hh.old 0 (by kernel_rfl) rfl
          have HN : Hid (J3 14 17 (fun u => Kept W2 u) (fun u => P1 x dd u) P2 (done d 5) u) := hj.plain 5 (by decide) (by decide)
          clear hh hd hc hj hi
          refine wpOp_step rfl (fun K hK => ?_)
          go_simp
          exact hK _ _ ⟨⟨x, dd⟩, fun _ _ => rfl, by simp [Act.put], HN.out⟩
        | 6, ho, hi, hd =>
          simp only [List.getElem?_cons_succ, List.getElem?_cons_zero, Option.some.injEq] at ho
          subst ho
          have g41 : a1.tmps[41]? = some (.pointer (some ⟨A.b, 0, none⟩)) := hh.did 5 _ 41 rfl rfl (hd { on := 5, ground := .data } (by simp) rfl)
          have HN : Hid (J3 14 17 (fun u => Kept W2 u) (fun u => P1 x dd u) P2 (done d 6) u) := hj.plain 6 (by decide) (by decide)
          clear hh hd hc hj hi
          refine wpOp_step rfl (fun K hK => ?_)
          go_simp
          exact hK _ _ ⟨⟨x, dd⟩, fun _ _ => rfl, by simp [Act.put], HN.out⟩
        | 7, ho, hi, hd =>
          simp only [List.getElem?_cons_succ, List.getElem?_cons_zero, Option.some.injEq] at ho
          subst ho
          have g42 : a1.tmps[42]? = some (.pointer (some ⟨A.b, 0, none⟩)) := hh.did 6 _ 42 rfl rfl (hd { on := 6, ground := .data } (by simp) rfl)
          have HN : Hid (J3 14 17 (fun u => Kept W2 u) (fun u => P1 x dd u) P2 (done d 7) u) := hj.plain 7 (by decide) (by decide)
          clear hh hd hc hj hi
          refine wpOp_step rfl (fun K hK => ?_)
          go_simp
          exact hK _ _ ⟨⟨x, dd⟩, fun _ _ => rfl, by simp [Act.put], HN.out⟩
        | 8, ho, hi, hd =>
          simp only [List.getElem?_cons_succ, List.getElem?_cons_zero, Option.some.injEq] at ho
          subst ho
          have g43 : a1.tmps[43]? = some (.pointer (some ⟨A.b, 0, none⟩)) := hh.did 7 _ 43 rfl rfl (hd { on := 7, ground := .data } (by simp) rfl)
          have n14 : d 14 = false := by
            cases q : d 14 with
            | false => rfl
            | true => exact absurd (hc 14 _ rfl q { on := 8, ground := .data } (by simp) rfl) (by simp [hi])
          have h0 := hj.now n14
          have h1 := HS2.out.kept h0
          have b0 := h1.head.blk.at 0 rfl
          have b1 := h1.head.blk.at 1 rfl
          have b2 := h1.head.blk.at 2 rfl
          have b3 := h1.head.blk.at 3 rfl
          have b4 := h1.head.blk.at 4 rfl
          have b5 := h1.head.blk.at 5 rfl
          have b6 := h1.head.blk.at 6 rfl
          have b7 := h1.head.blk.at 7 rfl
          have b8 := h1.head.blk.at 8 rfl
          have b9 := h1.head.blk.at 9 rfl
          have b10 := h1.head.blk.at 10 rfl
          have b11 := h1.head.blk.at 11 rfl
          have b12 := h1.head.blk.at 12 rfl
          have HN : Hid (J3 14 17 (fun u => Kept W2 u) (fun u => P1 x dd u) P2 (done d 8) u) := hj.plain 8 (by decide) (by decide)
          clear hh hd hc hj hi
          refine wpOp_step rfl (fun K hK => ?_)
          go_simp
          exact hK _ _ ⟨⟨x, dd⟩, fun _ _ => rfl, by simp [Act.put], HN.out⟩
        | 9, ho, hi, hd =>
          simp only [List.getElem?_cons_succ, List.getElem?_cons_zero, Option.some.injEq] at ho
          subst ho
          have g5 : a1.tmps[5]? = some (.pointer (some ⟨rb, 0, none⟩)) := hh.old 5 (by kernel_rfl) rfl
          have HN : Hid (J3 14 17 (fun u => Kept W2 u) (fun u => P1 x dd u) P2 (done d 9) u) := hj.plain 9 (by decide) (by decide)
          clear hh hd hc hj hi
          refine wpOp_step rfl (fun K hK => ?_)
          go_simp
          exact hK _ _ ⟨⟨x, dd⟩, fun _ _ => rfl, by simp [Act.put], HN.out⟩
        | 10, ho, hi, hd =>
          simp only [List.getElem?_cons_succ, List.getElem?_cons_zero, Option.some.injEq] at ho
          subst ho
          have g45 : a1.tmps[45]? = some (.pointer (some ⟨rb, 1, none⟩)) := hh.did 9 _ 45 rfl rfl (hd { on := 9, ground := .data } (by simp) rfl)
          have n14 : d 14 = false := by
            cases q : d 14 with
            | false => rfl
            | true => exact absurd (hc 14 _ rfl q { on := 10, ground := .data } (by simp) rfl) (by simp [hi])
          have h0 := hj.now n14
          have r1 := (HR.out.kept h0).at 1 rfl
          have HN : Hid (J3 14 17 (fun u => Kept W2 u) (fun u => P1 x dd u) P2 (done d 10) u) := hj.plain 10 (by decide) (by decide)
          clear hh hd hc hj hi
          refine wpOp_step rfl (fun K hK => ?_)
          go_simp
          exact hK _ _ ⟨⟨x, dd⟩, fun _ _ => rfl, by simp [Act.put], HN.out⟩
        | 11, ho, hi, hd =>
          simp only [List.getElem?_cons_succ, List.getElem?_cons_zero, Option.some.injEq] at ho
          subst ho
          have g5 : a1.tmps[5]? = some (.pointer (some ⟨rb, 0, none⟩)) := hh.old 5 (by kernel_rfl) rfl
          have HN : Hid (J3 14 17 (fun u => Kept W2 u) (fun u => P1 x dd u) P2 (done d 11) u) := hj.plain 11 (by decide) (by decide)
          clear hh hd hc hj hi
          refine wpOp_step rfl (fun K hK => ?_)
          go_simp
          exact hK _ _ ⟨⟨x, dd⟩, fun _ _ => rfl, by simp [Act.put], HN.out⟩
        | 12, ho, hi, hd =>
          simp only [List.getElem?_cons_succ, List.getElem?_cons_zero, Option.some.injEq] at ho
          subst ho
          have g47 : a1.tmps[47]? = some (.pointer (some ⟨rb, 2, none⟩)) := hh.did 11 _ 47 rfl rfl (hd { on := 11, ground := .data } (by simp) rfl)
          have n14 : d 14 = false := by
            cases q : d 14 with
            | false => rfl
            | true => exact absurd (hc 14 _ rfl q { on := 12, ground := .data } (by simp) rfl) (by simp [hi])
          have h0 := hj.now n14
          have r2 := (HR.out.kept h0).at 2 rfl
          have HN : Hid (J3 14 17 (fun u => Kept W2 u) (fun u => P1 x dd u) P2 (done d 12) u) := hj.plain 12 (by decide) (by decide)
          clear hh hd hc hj hi
          refine wpOp_step rfl (fun K hK => ?_)
          go_simp
          exact hK _ _ ⟨⟨x, dd⟩, fun _ _ => rfl, by simp [Act.put], HN.out⟩
        | 13, ho, hi, hd =>
          simp only [List.getElem?_cons_succ, List.getElem?_cons_zero, Option.some.injEq] at ho
          subst ho
          have g1 : a1.tmps[1]? = some (.bool se) := hh.old 1 (by kernel_rfl) rfl
          have HN : Hid (J3 14 17 (fun u => Kept W2 u) (fun u => P1 x dd u) P2 (done d 13) u) := hj.plain 13 (by decide) (by decide)
          clear hh hd hc hj hi
          refine wpOp_step rfl (fun K hK => ?_)
          go_simp
          exact hK _ _ ⟨⟨x, dd⟩, fun _ _ => rfl, by simp [Act.put], HN.out⟩
        | 14, ho, hi, hd =>
          simp only [List.getElem?_cons_succ, List.getElem?_cons_zero, Option.some.injEq] at ho
          subst ho
          have g44 : a1.tmps[44]? = some (.agg #[.pointer (some ⟨A.tb, 0, none⟩), .pointer (some ⟨A.pb, 0, none⟩), .pointer (some ⟨A.lb, 0, none⟩), .pointer (some ⟨A.kb, 0, none⟩), .int .i64 A.C.n0, .int .i64 A.C.n1, .int .i64 A.C.n2, .int .i64 A.C.n3, .int .i64 A.C.n4, .int .i64 A.C.n5, .int .i64 A.C.n6, .int .i64 A.C.n7, .slice A.C.x A.C.l A.C.c]) := hh.did 8 _ 44 rfl rfl (hd { on := 8, ground := .data } (by simp) rfl)
          have g46 : a1.tmps[46]? = some (.int .i64 fr) := hh.did 10 _ 46 rfl rfl (hd { on := 10, ground := .data } (by simp) rfl)
          have g48 : a1.tmps[48]? = some (.int .i64 sp) := hh.did 12 _ 48 rfl rfl (hd { on := 12, ground := .data } (by simp) rfl)
          have g49 : a1.tmps[49]? = some (.bool se) := hh.did 13 _ 49 rfl rfl (hd { on := 13, ground := .data } (by simp) rfl)
          have h0 : Hid (Kept W2 u) := hj.now hi
          have HJ : Hid (J3 14 17 (fun u => Kept W2 u) (fun u => P1 x dd u) P2 d u) := hj
          have m15 : d 15 = false := by
            cases q : d 15 with
            | false => rfl
            | true => exact absurd (hc 15 _ rfl q { on := 14, ground := .data } (by simp) rfl) (by simp [hi])
          have m16 : d 16 = false := by
            cases q : d 16 with
            | false => rfl
            | true => exact absurd (hc 16 _ rfl q { on := 14, ground := .data } (by simp) rfl) (by simp [hi])
          have m17 : d 17 = false := by
            cases q : d 17 with
            | false => rfl
            | true => exact absurd (hc 17 _ rfl q { on := 14, ground := .chain } (by simp) rfl) (by simp [hi])
          have HI : Hid (d 14 = false ∧ d 15 = false ∧ d 16 = false ∧ d 17 = false) := ⟨hi, m15, m16, m17⟩
          have C := HT.out u h0.out
          clear hh hd hc hj hi m15 m16 m17
          refine wpOp_step rfl (fun K hK => ?_)
          go_simp
          refine C.mono ?_
          rintro e u2 ⟨x', dd', rfl, p1⟩
          refine hK _ _ ⟨⟨x', dd'⟩, fun j hj => ?_, by simp [Act.put], HJ.out.turn (by decide) HI.out.1 p1 HI.out.2.2.2⟩
          have j14 : j ≠ 14 := fun q => by rw [q, HI.out.1] at hj; cases hj
          have j15 : j ≠ 15 := fun q => by rw [q, HI.out.2.1] at hj; cases hj
          have j16 : j ≠ 16 := fun q => by rw [q, HI.out.2.2.1] at hj; cases hj
          match j, j14, j15, j16 with
          | 0, _, _, _ => rfl
          | 1, _, _, _ => rfl
          | 2, _, _, _ => rfl
          | 3, _, _, _ => rfl
          | 4, _, _, _ => rfl
          | 5, _, _, _ => rfl
          | 6, _, _, _ => rfl
          | 7, _, _, _ => rfl
          | 8, _, _, _ => rfl
          | 9, _, _, _ => rfl
          | 10, _, _, _ => rfl
          | 11, _, _, _ => rfl
          | 12, _, _, _ => rfl
          | 13, _, _, _ => rfl
          | 17, _, _, _ => rfl
          | 18, _, _, _ => rfl
          | j + 19, _, _, _ => rfl
        | 15, ho, hi, hd =>
          simp only [List.getElem?_cons_succ, List.getElem?_cons_zero, Option.some.injEq] at ho
          subst ho
          have g50 : a1.tmps[50]? = some (.tuple #[.slice x Z.length dd, .int .i64 ta]) := hh.did 14 _ 50 rfl rfl (hd { on := 14, ground := .data } (by simp) rfl)
          have HN : Hid (J3 14 17 (fun u => Kept W2 u) (fun u => P1 x dd u) P2 (done d 15) u) := hj.plain 15 (by decide) (by decide)
          clear hh hd hc hj hi
          refine wpOp_step rfl (fun K hK => ?_)
          go_simp
          exact hK _ _ ⟨⟨x, dd⟩, fun _ _ => rfl, by simp [Act.put], HN.out⟩
        | 16, ho, hi, hd =>
          simp only [List.getElem?_cons_succ, List.getElem?_cons_zero, Option.some.injEq] at ho
          subst ho
          have g50 : a1.tmps[50]? = some (.tuple #[.slice x Z.length dd, .int .i64 ta]) := hh.did 14 _ 50 rfl rfl (hd { on := 14, ground := .data } (by simp) rfl)
          have HN : Hid (J3 14 17 (fun u => Kept W2 u) (fun u => P1 x dd u) P2 (done d 16) u) := hj.plain 16 (by decide) (by decide)
          clear hh hd hc hj hi
          refine wpOp_step rfl (fun K hK => ?_)
          go_simp
          exact hK _ _ ⟨⟨x, dd⟩, fun _ _ => rfl, by simp [Act.put], HN.out⟩
        | 17, ho, hi, hd =>
          simp only [List.getElem?_cons_succ, List.getElem?_cons_zero, Option.some.injEq] at ho
          subst ho
          have g40 : a1.tmps[40]? = some (.pointer (some ⟨A.lb, 0, none⟩)) := hh.did 4 _ 40 rfl rfl (hd { on := 4, ground := .data } (by simp) rfl)
          have g51 : a1.tmps[51]? = some (.slice x Z.length dd) := hh.did 15 _ 51 rfl rfl (hd { on := 15, ground := .data } (by simp) rfl)
          have g52 : a1.tmps[52]? = some (.int .i64 ta) := hh.did 16 _ 52 rfl rfl (hd { on := 16, ground := .data } (by simp) rfl)
          have y14 : d 14 = true := (hd { on := 14, ground := .chain } (by simp) rfl)
          have HY : Hid (d 14 = true) := y14
          have h1 : Hid (P1 x dd u) := hj.mid y14 hi
          have HJ : Hid (J3 14 17 (fun u => Kept W2 u) (fun u => P1 x dd u) P2 d u) := hj
          have C := HGr.out x dd u h1.out
          clear hh hd hc hj hi y14
          refine wpOp_step rfl (fun K hK => ?_)
          go_simp
          refine C.mono ?_
          rintro e u2 ⟨rfl, p2⟩
          exact hK _ _ ⟨⟨x, dd⟩, fun _ _ => rfl, by simp [Act.put], HJ.out.turn2 HY.out (by decide) p2⟩
        | 18, ho, hi, hd =>
          simp only [List.getElem?_cons_succ, List.getElem?_cons_zero, Option.some.injEq] at ho
          subst ho
          have g53 : a1.tmps[53]? = some (.bool true) := hh.did 17 _ 53 rfl rfl (hd { on := 17, ground := .data } (by simp) rfl)
          have HN : Hid (J3 14 17 (fun u => Kept W2 u) (fun u => P1 x dd u) P2 (done d 18) u) := hj.plain 18 (by decide) (by decide)
          clear hh hd hc hj hi
          refine wpOp_step rfl (fun K hK => ?_)
          go_simp
          exact hK _ _ ⟨⟨x, dd⟩, fun _ _ => rfl, by simp [Act.put], HN.out⟩
        | n + 19, ho, hi, hd => simp at ho
      · intro ng u d hall hj0
        obtain ⟨x, dd⟩ := ng
        have hj : J3 14 17 (fun u => Kept W2 u) (fun u => P1 x dd u) P2 d u := hj0
        clear hj0
        have h2 : Hid (P2 u) := hj.fin (hall 17 (by decide))
        clear hall hj
        refine norm_list' (L' := [_, _, _, _, _, _, _, _, _, _, _, _, _, _, _, _, _, _, _, _, _, _, _, _, _, _, _, _, _, _, _, _, _, _, _, _, _, _, _, _, _, _, _, _, _, _, _, _, _, _, _, _, _, _, _, _, _, _, _, _, _, _, _, _]) rfl ?_
        go_wp2
        go_ret
        exact FIN.out u h2.out

set_option maxHeartbeats 4000000 in
theorem wwants_any (w : World) (h : SH w c A S) {kb : Nat} (hk : S.Bd kb) (hkb : kb ≤ 50000) :
    Calls Tryz.prog 51 #[.pointer (some ⟨A.b, 0, none⟩)] w fun e w' => e = .returned (.bool (A.wants S)) ∧ SH w' c A S.tick ∧ Stp c w c w' := by
  have HS : Hid (SH w c A S) := h
  have hct : 0 ≤ S.ct ∧ S.ct ≤ 50000 := ⟨hk.c0, by have := hk.c1; omega⟩
  have hlen : (wts S.E).length ≤ 50000 := by have := wts_le S.E; have := hk.len; omega
  have c15 := h.head.blk.at 15 rfl
  have f15 := h.head.blk.fz 15
  have HW : Hid (∀ W, w.setCell ⟨A.b, 15, none⟩ (.int .i64 (S.ct + 1)) = W → SH W c A S.tick ∧ Stp c w c W) := fun W hW => by
    rw [← hW]
    exact ⟨h.ticks, h.stph ((Mut.refl _ _).setCell (by simp) _)⟩
  obtain ⟨h0, h1⟩ := hct
  clear h hk hkb
  have HV : Hid (A.wants S = (S.fo || decide (0 < (wts S.E).length) || decide ((cntB S.F S.n : Int) < A.C.n7))) := rfl
  go_enter Tryz.func51, Tryz.ntmps51
  go_wp2_with fail
  generalize hW : World.setCell _ _ _ = W
  have HB : Hid (SH W c A S.tick ∧ Stp c w c W) := HW.out W hW
  clear hW HW c15 f15
  have CW : Hid (∀ z : KW W, _) := fun z => wwaits_line z.it (HB.out.1.kept z.ok)
  have CF : Hid (∀ z : KW W, _) := fun z => pfree_any z.it (HB.out.1.kept z.ok).pool
  rw [show S.tick.n = S.n from rfl, show S.tick.F = S.F from rfl] at CF
  rw [show S.tick.E = S.E from rfl] at CW
  have LH := HB.out.1.head.blk.lt
  have b1 := fun z : KW W => z.cell (a := ⟨A.b, 1, none⟩) LH (HB.out.1.head.blk.at 1 rfl)
  have b2 := fun z : KW W => z.cell (a := ⟨A.b, 2, none⟩) LH (HB.out.1.head.blk.at 2 rfl)
  have b11 := fun z : KW W => z.cell (a := ⟨A.b, 11, none⟩) LH (HB.out.1.head.blk.at 11 rfl)
  have b14 := fun z : KW W => z.cell (a := ⟨A.b, 14, none⟩) LH (HB.out.1.head.blk.at 14 rfl)
  rw [show S.tick.fo = S.fo from rfl] at b14
  have E2 : ∀ w', (∃ z : KW W, w' = z.it) → SH w' c A S.tick ∧ Stp c w c w' := fun w' ⟨z, e⟩ => by rw [e]; exact ⟨HB.out.1.kept z.ok, HB.out.2.trans (Stp.kept z.ok)⟩
  have HE2 : Hid (∀ w', (∃ z : KW W, w' = z.it) → SH w' c A S.tick ∧ Stp c w c w') := E2
  clear E2
  generalize (wts S.E).length = wl at *
  generalize (cntB S.F S.n) = cf at *
  generalize A.C.n7 = n7 at *
  generalize S.fo = fo at *
  cases fo
  · by_cases hw : 0 < wl
    · have dw : decide (0 < wl) = true := by simpa using hw
      have hgt : (wl : Int) > 0 := by omega
      rw [dw] at HV
      clear dw
      refine wp_region_kept (by kernel_rfl) (by kernel_rfl) fun _ => ?_
      repeat (go_big_quiet_step (first | (go_at_call 74; exact kept_of (CW.out _)) | (go_at_call 76; exact kept_of_same (CF.out _))))
      refine wpQuiet_nil ?_
      intro w' hz
      have H3 : Hid _ := HE2.out w' hz
      clear hz b1 b2 b11 b14
      go_wp2
      go_ret
      exact ⟨by rw [HV.out] <;> rfl, H3.out⟩
    · have dw : decide (0 < wl) = false := by simpa using hw
      obtain rfl : wl = 0 := by omega
      rw [dw] at HV
      rw [show ((0 : Nat) : Int) = 0 from rfl] at CW
      clear dw hw
      by_cases hn : (cf : Int) < n7
      · have dn : decide ((cf : Int) < n7) = true := by simpa using hn
        rw [dn] at HV
        clear dn
        refine wp_region_kept (by kernel_rfl) (by kernel_rfl) fun _ => ?_
        repeat (go_big_quiet_step (first | (go_at_call 74; exact kept_of (CW.out _)) | (go_at_call 76; exact kept_of_same (CF.out _))))
        refine wpQuiet_nil ?_
        intro w' hz
        have H3 : Hid _ := HE2.out w' hz
        clear hz b1 b2 b11 b14
        go_wp2
        go_ret
        exact ⟨by rw [HV.out] <;> rfl, H3.out⟩
      · have dn : decide ((cf : Int) < n7) = false := by simpa using hn
        rw [dn] at HV
        clear hn
        refine wp_region_kept (by kernel_rfl) (by kernel_rfl) fun _ => ?_
        repeat (go_big_quiet_step (first | (go_at_call 74; exact kept_of (CW.out _)) | (go_at_call 76; exact kept_of_same (CF.out _))))
        refine wpQuiet_nil ?_
        intro w' hz
        have H3 : Hid _ := HE2.out w' hz
        clear hz b1 b2 b11 b14
        go_wp2
        go_ret
        exact ⟨by rw [HV.out] <;> rfl, H3.out⟩
  · rw [Bool.true_or, Bool.true_or] at HV
    refine wp_region_kept (by kernel_rfl) (by kernel_rfl) fun _ => ?_
    repeat (go_big_quiet_step (first | (go_at_call 74; exact kept_of (CW.out _)) | (go_at_call 76; exact kept_of_same (CF.out _))))
    refine wpQuiet_nil ?_
    intro w' hz
    have H3 : Hid _ := HE2.out w' hz
    clear hz b1 b2 b11 b14
    go_wp2
    go_ret
    exact ⟨by rw [HV.out] <;> rfl, H3.out⟩
end
end Go.Proofs.YtahpnnjemjjfhaaGreat

