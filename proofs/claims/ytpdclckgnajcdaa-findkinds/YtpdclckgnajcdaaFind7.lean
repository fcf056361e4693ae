/-
  Whole runs of a program: its states one behind the other, in a memory that holds what was planned.
-/
import Derived.Test.YtpdclckgnajcdaaFind4
import Derived.Test.YtpdclckgnajcdaaFind5
import Derived.Test.YtpdclckgnajcdaaFind6
import Derived.Test.YtpdclckgnajcdaaPlan9
namespace Go.Proofs.Ytpdclckgnajcdaa
open Go.RowKit

/-- The memory behind k writes. -/
def wrt (f : Nat → Wr) : Nat → Nat → Cx
  | 0, _ => cz
  | k + 1, a => if (f k).a = (a : Int) then (f k).z else wrt f k a
theorem wrt_get {f : Nat → Wr} : ∀ {N : Nat}, (∀ i, i < N → ∀ k, k < i → (f k).a ≠ (f i).a) → ∀ {i a : Nat}, i < N → (f i).a = (a : Int) → wrt f N a = (f i).z
  | 0, _, _, _, h, _ => absurd h (Nat.not_lt_zero _)
  | N + 1, hd, i, a, hi, ha => by
    by_cases e : i = N
    · subst e
      rw [wrt, if_pos ha]
    · have hne := hd N (by omega) i (by omega)
      rw [wrt, if_neg (fun q => hne (ha.trans q.symm))]
      exact wrt_get (fun i hi => hd i (by omega)) (by omega) ha
theorem wrt_step {f : Nat → Wr} {k a : Nat} (ha : (f k).a = (a : Int)) (j : Nat) : (if j = a then (f k).z else wrt f k j) = wrt f (k + 1) j := by
  rw [wrt, ha]
  by_cases e : j = a
  · rw [if_pos e, if_pos (by omega)]
  · rw [if_neg e, if_neg (by omega)]
/-- What was written is there. -/
def Has (n N : Nat) (F : Nat → Cx) (f : Nat → Wr) : Prop := ∀ i, i < N → ∃ a : Nat, a < n ∧ (f i).a = (a : Int) ∧ F a = (f i).z
theorem has_wrt {f : Nat → Wr} {n N : Nat} (hb : ∀ i, i < N → 0 ≤ (f i).a ∧ (f i).a < n) (hd : ∀ i, i < N → ∀ k, k < i → (f k).a ≠ (f i).a) : Has n N (wrt f N) f := fun i hi => by
  have := hb i hi
  have e : (f i).a = (((f i).a.toNat : Nat) : Int) := (Int.toNat_of_nonneg this.1).symm
  exact ⟨(f i).a.toNat, by omega, e, wrt_get hd hi e⟩

/-- A run: T steps from St 0 on. -/
structure Goes (p : Nat) (E : En) (n : Nat) (F : Nat → Cx) (T : Nat) (St : Nat → Fd) : Prop where
  step : ∀ t, t < T → ∀ (b M c : Nat) (w : World), FS w p E (St t) → Mm w b M n F c → b < p → M < p → c ≤ 100000 →
    Calls Try.prog 32 #[.pointer (some ⟨p, 0, none⟩), .pointer (some ⟨M, 0, none⟩)] w fun e w' => e = .returned (.bool (decide (t + 1 = T))) ∧ FS w' p E (St (t + 1)) ∧ Mm w' b M n F (c + 1) ∧ Mut [p, M] w w'
  st : ∀ t, t ≤ T → ((St t).st == 8) = decide (t = T)
  lo : 1 ≤ T
  hi : T ≤ 7
  sp : (St T).sp = T

theorem objF_at (kind : Int) (R : Nat → Bool) (L : Nat → Int) (l fl j c : Nat) (hc : c < 8) : (objF kind R L l fl (8 * j + c)).a = L j * 8 + (c : Int) ∧ (objF kind R L l fl (8 * j + c)).z = objW kind R L l fl j c := by
  have e1 : (8 * j + c) / 8 = j := by omega
  have e2 : (8 * j + c) % 8 = c := by omega
  simp only [objF, e1, e2]
  exact ⟨trivial, trivial⟩
theorem arrF_at (kind n mode : Int) (R : Nat → Bool) (L : Nat → Int) (l : Nat) (at' : Int) (j c : Nat) (hj : j < l) (hc : c < 8) : (arrF kind n mode R L l at' (8 * j + c)).a = L j * 8 + (c : Int) ∧ (arrF kind n mode R L l at' (8 * j + c)).z = arrW kind n mode R L l at' j c := by
  have e1 : (8 * j + c) / 8 = j := by omega
  have e2 : (8 * j + c) % 8 = c := by omega
  have e3 : 8 * j + c < l * 8 := by omega
  simp only [arrF, e1, e2, if_pos e3]
  exact ⟨trivial, trivial⟩
theorem arrF_sp (kind n mode : Int) (R : Nat → Bool) (L : Nat → Int) (l : Nat) (at' : Int) (j : Nat) : (arrF kind n mode R L l at' (8 * l + j)).a = at' + (j : Int) ∧ (arrF kind n mode R L l at' (8 * l + j)).z = spW L l j := by
  have e3 : ¬ 8 * l + j < l * 8 := by omega
  have e4 : 8 * l + j - l * 8 = j := by omega
  simp only [arrF, if_neg e3, e4]
  exact ⟨trivial, trivial⟩

section
variable {p n : Nat} {E : En} {F : Nat → Cx} {n0 n1 : Int} {sl : Nat} {S : Nat → Sh} {R : Nat → Nat → Bool}

/-- What is told at the end. -/
structure Tells (n : Nat) (F : Nat → Cx) (q : Fd) (a : Nat) (r : Bool) : Prop where
  at_ : q.at' = (a : Int)
  er : q.er = 0
  rf : q.rf = r
  lt : a < n
  is_ : F a = un r

theorem one_run {q0 q1 : Fd} (h0 : (q0.st == 8) = false) (h1 : (q1.st == 8) = true) (hs : q1.sp = 1)
    (hstep : ∀ (b M c : Nat) (w : World), FS w p E q0 → Mm w b M n F c → b < p → M < p → c ≤ 100000 →
      Calls Try.prog 32 #[.pointer (some ⟨p, 0, none⟩), .pointer (some ⟨M, 0, none⟩)] w fun e w' => e = .returned (.bool true) ∧ FS w' p E q1 ∧ Mm w' b M n F (c + 1) ∧ Mut [p, M] w w') :
    Goes p E n F 1 (fun t => if t = 0 then q0 else q1) := by
  refine ⟨fun t ht b M c w hF hM hb hMp hc => ?_, fun t ht => ?_, by omega, by omega, hs⟩
  · obtain rfl : t = 0 := by omega
    exact hstep b M c w hF hM hb hMp hc
  · rcases (by omega : t = 0 ∨ t = 1) with rfl | rfl
    · simpa using h0
    · simpa using h1

/-- A field of an array. -/
theorem goes_kind_f (hE : Began n0 n1 sl S R E) {k : Nat} (hk : k < sl) (ha : (S k).arr = true) {hd nth : Int} {a : Nat} (hx : hd * 8 + 1 = a) (han : a < n) (hz : F a = ch k 0) :
    ∃ St, Goes p E n F 1 St ∧ St 0 = fd0 hd nth false ∧ (St 1).at' = -1 ∧ (St 1).er = 4 := by
  obtain ⟨rfl, rfl, rfl, rfl, rfl⟩ := hE
  exact ⟨_, one_run (q0 := fd0 hd nth false) (q1 := { fd0 hd nth false with st := 8, er := 4, sp := 1 }) rfl rfl rfl fun b M c w hF hM hb hMp hc =>
    field_step true w hF hM hb hMp rfl rfl hx han hz hc (Nat.zero_le _) rfl (fun w' h' => field_kind k 0 w' h' rfl hk (by omega) ha) rfl, rfl, rfl, rfl⟩
/-- An element of an object. -/
theorem goes_kind_e (hE : Began n0 n1 sl S R E) {k : Nat} (hk : k < sl) (ha : (S k).arr = false) {hd nth m : Int} (hm : 0 ≤ m ∧ m ≤ 1) {a : Nat} (hx : hd * 8 + 1 = a) (han : a < n) (hz : F a = ch k m) :
    ∃ St, Goes p E n F 1 St ∧ St 0 = fd0 hd nth true ∧ (St 1).at' = -1 ∧ (St 1).er = 4 := by
  obtain ⟨rfl, rfl, rfl, rfl, rfl⟩ := hE
  exact ⟨_, one_run (q0 := fd0 hd nth true) (q1 := { fd0 hd nth true with st := 8, er := 4, sp := 1 }) rfl rfl rfl fun b M c w hF hM hb hMp hc =>
    elem_step true w hF hM hb hMp rfl rfl hx han hz hc (Nat.zero_le _) rfl (fun w' h' => elem_kind k m w' h' rfl hk (by omega) ha) rfl, rfl, rfl, rfl⟩

/-- No such field. -/
theorem goes_field_out (hE : Began n0 n1 sl S R E) {k : Nat} (hk : k < sl) (ha : (S k).arr = false) {L : Nat → Int} {l : Nat} (hl : 1 ≤ l) (H : Has n (8 * l) F (objF k (R k) L l (S k).l)) {nth : Int} (ho : nth < 0 ∨ (S k).l ≤ nth) :
    ∃ St, Goes p E n F 1 St ∧ St 0 = fd0 (L 0) nth false ∧ (St 1).at' = -1 ∧ (St 1).er = 5 := by
  obtain ⟨rfl, rfl, rfl, rfl, rfl⟩ := hE
  obtain ⟨a, han, hx, hz⟩ := H (8 * 0 + 1) (by omega)
  rw [(objF_at k (E.R k) L l (E.S k).l 0 1 (by omega)).1] at hx
  rw [(objF_at k (E.R k) L l (E.S k).l 0 1 (by omega)).2] at hz
  have hz' : F a = ch k (modeO L l) := hz
  have hm : 0 ≤ modeO L l ∧ modeO L l ≤ 1 := by unfold modeO; split <;> omega
  exact ⟨_, one_run (q0 := fd0 (L 0) nth false) (q1 := { fd0 (L 0) nth false with st := 8, er := 5, lk := 0, pl := 0, sp := 1 }) rfl rfl rfl fun b M c w hF hM hb hMp hc =>
    field_step true w hF hM hb hMp rfl rfl hx han hz' hc (Nat.zero_le _) rfl (fun w' h' => field_out k _ w' h' rfl hk hm ha rfl ho) rfl, rfl, rfl, rfl⟩

theorem sideU_all {L : Nat → Int} : ∀ {l : Nat}, sideU L l = true → ∀ j, j < l → L j = L 0 + j
  | 0, _, j, h => absurd h (Nat.not_lt_zero _)
  | l + 1, h, j, hj => by
    rw [sideU, Bool.and_eq_true] at h
    rcases Nat.lt_succ_iff_lt_or_eq.1 hj with q | rfl
    · exact sideU_all h.1 j q
    · by_cases h0 : j = 0
      · subst h0; simp
      · have h2 : L j = L (j - 1) + 1 := by
          have := h.2
          simpa [h0] using this
        have h3 := sideU_all h.1 (j - 1) (by omega)
        rw [h2, h3]
        omega

/-- A field that is on its way, t steps done. -/
def midF (L : Nat → Int) (m i : Nat) (v : Int) (r : Bool) (t : Nat) : Fd := ⟨L 0, m, false, 2, L (t - 1) * 8 + 0, (i : Int) + 1 - t, v, 0, r, -1, 0, t⟩
def stF (L : Nat → Int) (m i : Nat) (v : Int) (r : Bool) (t : Nat) : Fd := if t = 0 then fd0 (L 0) m false else if t ≤ i then midF L m i v r t else { midF L m i v r i with st := 8, at' := L i * 8 + v, lk := 0, sp := i + 1 }

/-- A field. -/
theorem goes_field (hE : Began n0 n1 sl S R E) {k : Nat} (hk : k < sl) (ha : (S k).arr = false) {L : Nat → Int} {l : Nat} (hl : (l : Int) = 1 + ((S k).l : Int) / 7) (h40 : (S k).l ≤ 40) (hf : Frs L l n0) (H : Has n (8 * l) F (objF k (R k) L l (S k).l)) {m : Nat} (hm : m < (S k).l) :
    ∃ T St a, Goes p E n F T St ∧ St 0 = fd0 (L 0) m false ∧ T = (if sideU L l then 1 else 1 + (m + 1) / 7) ∧ Tells n F (St T) a (R k m) ∧ (a : Int) = L ((m + 1) / 7) * 8 + ((1 + (m + 1) % 7 : Nat) : Int) := by
  obtain ⟨rfl, rfl, rfl, rfl, rfl⟩ := hE
  obtain ⟨i, hi⟩ : ∃ i, (m + 1) / 7 = i := ⟨_, rfl⟩
  obtain ⟨v, hv⟩ : ∃ v, 1 + (m + 1) % 7 = v := ⟨_, rfl⟩
  have hil : i < l := by omega
  have hv8 : v < 8 := by omega
  obtain ⟨a0, ha0, hx0, hz0⟩ := H (8 * 0 + 1) (by omega)
  rw [(objF_at k (E.R k) L l (E.S k).l 0 1 (by omega)).1] at hx0
  rw [(objF_at k (E.R k) L l (E.S k).l 0 1 (by omega)).2] at hz0
  have hz0' : F a0 = ch k (modeO L l) := hz0
  obtain ⟨a, han, hxa, hza⟩ := H (8 * i + v) (by omega)
  rw [(objF_at k (E.R k) L l (E.S k).l i v hv8).1] at hxa
  rw [(objF_at k (E.R k) L l (E.S k).l i v hv8).2] at hza
  have hza' : F a = un (E.R k m) := by
    rw [hza]
    unfold objW
    have e0 : ¬ v = 0 := by omega
    have e1 : ¬ (i = 0 ∧ v = 1) := by omega
    have e2 : 7 * i + v < (E.S k).l + 2 := by omega
    have e3 : 7 * i + v - 2 = m := by omega
    rw [if_neg e0, if_neg e1, if_pos e2, e3]
  rw [hi, hv]
  have h0 := hf 0 (by omega)
  have hii := hf i hil
  have hei : ((m : Int) + 1) / 7 = i := by omega
  have hev : 1 + ((m : Int) + 1) % 7 = v := by omega
  cases hs : sideU L l
  · have hm0 : modeO L l = 0 := by simp [modeO, hs]
    rw [hm0] at hz0'
    by_cases hi0 : i = 0
    · subst hi0
      refine ⟨1, _, a, one_run (q0 := fd0 (L 0) m false) (q1 := { fd0 (L 0) m false with st := 8, at' := L 0 * 8 + v, lk := 0, pl := v, rf := E.R k m, sp := 1 }) rfl rfl rfl fun b M c w hF hM hb hMp hc =>
        field_step true w hF hM hb hMp rfl rfl hx0 ha0 hz0' hc (Nat.zero_le _) rfl (fun w' h' => field_near k 0 w' h' rfl hk (by omega) ha rfl (n := m) (i := 0) (v := v) rfl hm hei hev h0 rfl rfl) rfl, rfl, by simp, ⟨hxa, rfl, rfl, han, hza'⟩, hxa.symm⟩
    · have i6 : i ≤ 6 := by omega
      have hi0' : (i : Int) ≠ 0 := by omega
      have hlast : stF L m i v (E.R k m) (1 + i) = { midF L m i v (E.R k m) i with st := 8, at' := L i * 8 + v, lk := 0, sp := i + 1 } := by
        unfold stF
        rw [if_neg (by omega), if_neg (by omega)]
      refine ⟨1 + i, stF L m i v (E.R k m), a, ⟨fun t ht b M c w hF hM hb hMp hc => ?_, fun t ht => ?_, by omega, by omega, ?_⟩, rfl, by simp, ?_, hxa.symm⟩
      · by_cases t0 : t = 0
        · subst t0
          have e1 : stF L m i v (E.R k m) (0 + 1) = { fd0 (L 0) m false with st := 2, nx := L 0 * 8 + 0, lk := i, pl := v, rf := E.R k m, sp := 1 } := by
            unfold stF midF fd0
            rw [if_neg (by omega), if_pos (by omega)]
            simp
          rw [e1, show decide (0 + 1 = 1 + i) = false by simp; omega]
          exact field_step false w hF hM hb hMp rfl rfl hx0 ha0 hz0' hc (Nat.zero_le _) rfl (fun w' h' => field_far k 0 w' h' rfl hk (by omega) ha rfl (n := m) (i := i) (v := v) rfl hm hei hev h0 rfl hi0') rfl
        · have et : stF L m i v (E.R k m) t = midF L m i v (E.R k m) t := by
            unfold stF
            rw [if_neg t0, if_pos (by omega)]
          rw [et] at hF
          obtain ⟨a1, ha1, hx1, hz1⟩ := H (8 * (t - 1) + 0) (by omega)
          rw [(objF_at k (E.R k) L l (E.S k).l (t - 1) 0 (by omega)).1] at hx1
          rw [(objF_at k (E.R k) L l (E.S k).l (t - 1) 0 (by omega)).2] at hz1
          have hz1' : F a1 = cr (L t) := by
            rw [hz1]
            unfold objW refAt
            rw [if_pos rfl, if_pos (by omega), show t - 1 + 1 = t by omega]
          have hlt := hf t (by omega)
          by_cases hti : t = i
          · subst hti
            rw [show t + 1 = 1 + t by omega, hlast, show decide (1 + t = 1 + t) = true by simp]
            exact field_step true w hF hM hb hMp rfl rfl hx1 ha1 hz1' hc (by simp [midF]; omega) rfl (fun w' h' => link_near (L t) w' h' rfl hlt (by simp [midF]; omega) (by simp [midF]; omega)) rfl
          · have e1 : stF L m i v (E.R k m) (t + 1) = { midF L m i v (E.R k m) t with st := 2, nx := L t * 8 + 0, lk := (i : Int) + 1 - t - 1, sp := t + 1 } := by
              unfold stF midF
              rw [if_neg (by omega), if_pos (by omega)]
              simp
              omega
            rw [e1, show decide (t + 1 = 1 + i) = false by simp; omega]
            exact field_step false w hF hM hb hMp rfl rfl hx1 ha1 hz1' hc (by simp [midF]; omega) rfl (fun w' h' => link_far (L t) w' h' rfl hlt (by simp [midF]; omega)) rfl
      · by_cases t0 : t = 0
        · subst t0
          simp [stF, fd0]; omega
        · by_cases tl : t ≤ i
          · simp [stF, midF, t0, tl]; omega
          · have : t = 1 + i := by omega
            subst this
            rw [hlast]
            simp
      · rw [hlast]; simp; omega
      · rw [hlast]
        exact ⟨hxa, rfl, rfl, han, hza'⟩
  · have hm1 : modeO L l = 1 := by simp [modeO, hs]
    rw [hm1] at hz0'
    have hLi : L i = L 0 + i := sideU_all hs i hil
    refine ⟨1, _, a, one_run (q0 := fd0 (L 0) m false) (q1 := { fd0 (L 0) m false with st := 8, at' := (L 0 + i) * 8 + v, lk := 0, pl := v, rf := E.R k m, sp := 1 }) rfl rfl rfl fun b M c w hF hM hb hMp hc =>
      field_step true w hF hM hb hMp rfl rfl hx0 ha0 hz0' hc (Nat.zero_le _) rfl (fun w' h' => field_side k 1 w' h' rfl hk (by omega) ha rfl (n := m) (i := i) (v := v) rfl hm hei hev h0 (by simp [fd0]; omega) rfl) rfl, rfl, by simp, ⟨by rw [← hLi]; exact hxa, rfl, rfl, han, hza'⟩, hxa.symm⟩

theorem where_st (q : Fd) (m : Int) : ((whereS q m).st == 8) = false := by
  unfold whereS
  by_cases h0 : m = 0
  · simp [h0]
  · by_cases h1 : m = 1
    · simp [h1]
    · simp [h0, h1]
def stE (L : Nat → Int) (m : Int) (r : Bool) (n : Int) (md : Int) (at' : Int) (a : Int) : Nat → Fd
  | 0 => fd0 (L 0) m true
  | 1 => { fd0 (L 0) m true with st := 3, nx := L 0 * 8 + 2, rf := r, sp := 1 }
  | 2 => { fd0 (L 0) m true with st := 4, nx := L 0 * 8 + 3, rf := r, ln := n, sp := 2 }
  | 3 => { whereS { fd0 (L 0) m true with st := 4, nx := L 0 * 8 + 3, rf := r, ln := n, sp := 2 } md with sp := 3 }
  | 4 => if md = 1 then { fd0 (L 0) m true with st := 6, nx := at' + 2 + m / 8, rf := r, ln := n, sp := 4 } else { whereS { fd0 (L 0) m true with st := 4, nx := L 0 * 8 + 3, rf := r, ln := n, sp := 2 } md with st := 8, at' := a, sp := 4 }
  | _ => { fd0 (L 0) m true with st := 8, nx := at' + 2 + m / 8, rf := r, ln := n, at' := a, sp := 5 }

/-- No such element. -/
theorem goes_elem_out (hE : Began n0 n1 sl S R E) {k : Nat} (hk : k < sl) (ha : (S k).arr = true) {L : Nat → Int} {l N : Nat} (hl : 1 ≤ l) (hN : 8 * l ≤ N) {n' at' : Int} (hn' : 0 ≤ n' ∧ n' ≤ 512) (hf : Frs L l n0) (H : Has n N F (arrF k n' (modeA n' L l) (R k) L l at')) {nth : Int} (ho : nth < 0 ∨ n' ≤ nth) :
    ∃ St, Goes p E n F 2 St ∧ St 0 = fd0 (L 0) nth true ∧ (St 2).at' = -1 ∧ (St 2).er = 5 := by
  obtain ⟨rfl, rfl, rfl, rfl, rfl⟩ := hE
  obtain ⟨a1, ha1, hx1, hz1⟩ := H (8 * 0 + 1) (by omega)
  rw [(arrF_at k n' (modeA n' L l) (E.R k) L l at' 0 1 (by omega) (by omega)).1] at hx1
  rw [(arrF_at k n' (modeA n' L l) (E.R k) L l at' 0 1 (by omega) (by omega)).2] at hz1
  have hz1' : F a1 = ch k 0 := hz1
  obtain ⟨a2, ha2, hx2, hz2⟩ := H (8 * 0 + 2) (by omega)
  rw [(arrF_at k n' (modeA n' L l) (E.R k) L l at' 0 2 (by omega) (by omega)).1] at hx2
  rw [(arrF_at k n' (modeA n' L l) (E.R k) L l at' 0 2 (by omega) (by omega)).2] at hz2
  have hz2' : F a2 = cw n' := hz2
  have h0 := hf 0 (by omega)
  refine ⟨fun t => match t with | 0 => fd0 (L 0) nth true | 1 => { fd0 (L 0) nth true with st := 3, nx := L 0 * 8 + 2, rf := E.R k 0, sp := 1 } | _ => { fd0 (L 0) nth true with st := 8, nx := L 0 * 8 + 2, rf := E.R k 0, sp := 2, er := 5, ln := 0 }, ⟨fun t ht b M c w hF hM hb hMp hc => ?_, fun t ht => ?_, by omega, by omega, rfl⟩, rfl, rfl, rfl⟩
  · rcases (by omega : t = 0 ∨ t = 1) with rfl | rfl
    · exact elem_step false w hF hM hb hMp rfl rfl hx1 ha1 hz1' hc (Nat.zero_le _) rfl (fun w' h' => elem_head k w' h' rfl hk ha rfl h0) rfl
    · exact elem_step true w hF hM hb hMp rfl rfl hx2 ha2 hz2' hc (by simp) rfl (fun w' h' => elem_out n' w' h' rfl ho hn') rfl
  · rcases (by omega : t = 0 ∨ t = 1 ∨ t = 2) with rfl | rfl | rfl <;> rfl

/-- An element. -/
theorem goes_elem (hE : Began n0 n1 sl S R E) {k : Nat} (hk : k < sl) (ha : (S k).arr = true) {L : Nat → Int} {l : Nat} {n' at' : Int} (hn' : 0 ≤ n' ∧ n' ≤ 512) (hl : (l : Int) = 1 + dat n') (hf : Frs L l n0) (hFit : modeA n' L l = 1 → Fit n0 n1 at' (l + 1)) (H : Has n (8 * l + spN n' L l) F (arrF k n' (modeA n' L l) (R k) L l at')) {m : Nat} (hm : (m : Int) < n') :
    ∃ T St a, Goes p E n F T St ∧ St 0 = fd0 (L 0) m true ∧ T = (if modeA n' L l = 1 then 5 else 4) ∧ Tells n F (St T) a (R k 0) ∧ (a : Int) = L (1 + m / 8) * 8 + ((m % 8 : Nat) : Int) := by
  obtain ⟨rfl, rfl, rfl, rfl, rfl⟩ := hE
  have hdat : dat n' = (n' + 7) / 8 := by unfold dat; rw [if_neg (by omega)]
  have hl1 : 1 + m / 8 < l := by omega
  obtain ⟨a1, ha1, hx1, hz1⟩ := H (8 * 0 + 1) (by omega)
  rw [(arrF_at k n' (modeA n' L l) (E.R k) L l at' 0 1 (by omega) (by omega)).1] at hx1
  rw [(arrF_at k n' (modeA n' L l) (E.R k) L l at' 0 1 (by omega) (by omega)).2] at hz1
  have hz1' : F a1 = ch k 0 := hz1
  obtain ⟨a2, ha2, hx2, hz2⟩ := H (8 * 0 + 2) (by omega)
  rw [(arrF_at k n' (modeA n' L l) (E.R k) L l at' 0 2 (by omega) (by omega)).1] at hx2
  rw [(arrF_at k n' (modeA n' L l) (E.R k) L l at' 0 2 (by omega) (by omega)).2] at hz2
  have hz2' : F a2 = cw n' := hz2
  obtain ⟨a3, ha3, hx3, hz3⟩ := H (8 * 0 + 3) (by omega)
  rw [(arrF_at k n' (modeA n' L l) (E.R k) L l at' 0 3 (by omega) (by omega)).1] at hx3
  rw [(arrF_at k n' (modeA n' L l) (E.R k) L l at' 0 3 (by omega) (by omega)).2] at hz3
  have hz3' : F a3 = cw (modeA n' L l) := hz3
  obtain ⟨a, han, hxa, hza⟩ := H (8 * (1 + m / 8) + m % 8) (by omega)
  rw [(arrF_at k n' (modeA n' L l) (E.R k) L l at' (1 + m / 8) (m % 8) hl1 (by omega)).1] at hxa
  rw [(arrF_at k n' (modeA n' L l) (E.R k) L l at' (1 + m / 8) (m % 8) hl1 (by omega)).2] at hza
  have hza' : F a = un (E.R k 0) := by rw [hza]; unfold arrW; rw [if_neg (by omega)]
  have h0 := hf 0 (by omega)
  have hd := hf (1 + m / 8) hl1
  have hm8 : (m : Int) / 8 = ((m / 8 : Nat) : Int) := by omega
  have hmm : (m : Int) % 8 = ((m % 8 : Nat) : Int) := by omega
  have hmd : 0 ≤ modeA n' L l ∧ modeA n' L l ≤ 2 := by unfold modeA; split <;> (try split) <;> omega
  have hiff : dat n' ≤ 4 ↔ modeA n' L l = 0 := by
    unfold modeA
    by_cases q : dat n' ≤ 4
    · simp [q]
    · by_cases q2 : sideU L l = true <;> simp [q, q2]
  have s0 : ∀ (b M c : Nat) (w : World), FS w p E (stE L m (E.R k 0) n' (modeA n' L l) at' a 0) → Mm w b M n F c → b < p → M < p → c ≤ 100000 → Calls Try.prog 32 #[.pointer (some ⟨p, 0, none⟩), .pointer (some ⟨M, 0, none⟩)] w fun e w' => e = .returned (.bool false) ∧ FS w' p E (stE L m (E.R k 0) n' (modeA n' L l) at' a 1) ∧ Mm w' b M n F (c + 1) ∧ Mut [p, M] w w' := fun b M c w hF hM hb hMp hc =>
    elem_step false w hF hM hb hMp rfl rfl hx1 ha1 hz1' hc (Nat.zero_le _) rfl (fun w' h' => elem_head k w' h' rfl hk ha rfl h0) rfl
  have s1 : ∀ (b M c : Nat) (w : World), FS w p E (stE L m (E.R k 0) n' (modeA n' L l) at' a 1) → Mm w b M n F c → b < p → M < p → c ≤ 100000 → Calls Try.prog 32 #[.pointer (some ⟨p, 0, none⟩), .pointer (some ⟨M, 0, none⟩)] w fun e w' => e = .returned (.bool false) ∧ FS w' p E (stE L m (E.R k 0) n' (modeA n' L l) at' a 2) ∧ Mm w' b M n F (c + 1) ∧ Mut [p, M] w w' := fun b M c w hF hM hb hMp hc =>
    elem_step false w hF hM hb hMp rfl rfl hx2 ha2 hz2' hc (by simp [stE]) rfl (fun w' h' => elem_len n' w' h' rfl ⟨by simp [stE, fd0], hm⟩ hn'.2 h0) rfl
  have s2 : ∀ (b M c : Nat) (w : World), FS w p E (stE L m (E.R k 0) n' (modeA n' L l) at' a 2) → Mm w b M n F c → b < p → M < p → c ≤ 100000 → Calls Try.prog 32 #[.pointer (some ⟨p, 0, none⟩), .pointer (some ⟨M, 0, none⟩)] w fun e w' => e = .returned (.bool false) ∧ FS w' p E (stE L m (E.R k 0) n' (modeA n' L l) at' a 3) ∧ Mm w' b M n F (c + 1) ∧ Mut [p, M] w w' := fun b M c w hF hM hb hMp hc =>
    elem_step false w hF hM hb hMp rfl rfl hx3 ha3 hz3' hc (by simp [stE]) rfl (fun w' h' => by
      have := elem_mode (modeA n' L l) w' h' rfl hmd hiff h0 (fun e => by have := hiff.2 e; simp only [stE, fd0]; omega)
      refine this.mono ?_
      rintro e w'' ⟨rfl, hF2, hU2⟩
      refine ⟨rfl, ?_, hU2⟩
      unfold stE
      unfold whereS at hF2 ⊢
      split at hF2
      · rename_i q; rw [if_pos q]; exact hF2
      · rename_i q; rw [if_neg q]
        split at hF2
        · rename_i q2; rw [if_pos q2]; exact hF2
        · rename_i q2; rw [if_neg q2]; exact hF2) (where_st _ _)
  by_cases e1 : modeA n' L l = 1
  · have hsn : spN n' L l = l + 1 := by unfold spN; rw [if_pos e1]
    have hb := hFit e1
    have hab : 8 * E.n0 ≤ at' ∧ at' < 8 * E.n0 + 2 * E.n1 := by rcases hb with q | q <;> omega
    obtain ⟨a4, ha4, hx4, hz4⟩ := H (8 * 0 + 4) (by omega)
    rw [(arrF_at k n' (modeA n' L l) (E.R k) L l at' 0 4 (by omega) (by omega)).1] at hx4
    rw [(arrF_at k n' (modeA n' L l) (E.R k) L l at' 0 4 (by omega) (by omega)).2] at hz4
    have hz4' : F a4 = cw at' := by rw [hz4, e1]; rfl
    obtain ⟨a5, ha5, hx5, hz5⟩ := H (8 * l + (2 + m / 8)) (by omega)
    rw [(arrF_sp k n' (modeA n' L l) (E.R k) L l at' (2 + m / 8)).1] at hx5
    rw [(arrF_sp k n' (modeA n' L l) (E.R k) L l at' (2 + m / 8)).2] at hz5
    have hz5' : F a5 = cr (L (1 + m / 8)) := by
      rw [hz5]
      unfold spW
      rw [if_neg (by omega), if_neg (by omega), show 2 + m / 8 - 1 = 1 + m / 8 by omega]
    rw [e1] at s0 s1 s2
    refine ⟨5, stE L m (E.R k 0) n' 1 at' a, a, ⟨fun t ht b M c w hF hM hb hMp hc => ?_, fun t ht => ?_, by omega, by omega, rfl⟩, rfl, by rw [if_pos e1], ⟨rfl, rfl, rfl, han, hza'⟩, hxa.symm⟩
    · rcases (by omega : t = 0 ∨ t = 1 ∨ t = 2 ∨ t = 3 ∨ t = 4) with rfl | rfl | rfl | rfl | rfl
      · exact s0 b M c w hF hM hb hMp hc
      · exact s1 b M c w hF hM hb hMp hc
      · exact s2 b M c w hF hM hb hMp hc
      · exact elem_step false w hF hM hb hMp rfl rfl hx4 ha4 hz4' hc (by simp [stE]) rfl (fun w' h' => elem_spine at' w' h' rfl hab (by simp [stE, whereS, fd0]; omega)) rfl
      · refine elem_step true w hF hM hb hMp rfl rfl (by simp only [stE, if_true]; omega) ha5 hz5' hc (by simp [stE]) rfl (fun w' h' => ?_) rfl
        have := elem_data (L (1 + m / 8)) w' h' rfl hd (by simp [stE, fd0]; omega)
        refine this.mono ?_
        rintro e w'' ⟨rfl, hF2, hU2⟩
        refine ⟨rfl, ?_, hU2⟩
        have ea : (a : Int) = L (1 + m / 8) * 8 + (m : Int) % 8 := by rw [hmm]; exact hxa.symm
        simp only [stE]
        rw [ea]
        exact hF2
    · rcases (by omega : t = 0 ∨ t = 1 ∨ t = 2 ∨ t = 3 ∨ t = 4 ∨ t = 5) with rfl | rfl | rfl | rfl | rfl | rfl <;> rfl
  · refine ⟨4, stE L m (E.R k 0) n' (modeA n' L l) at' a, a, ⟨fun t ht b M c w hF hM hb hMp hc => ?_, fun t ht => ?_, by omega, by omega, ?_⟩, rfl, by rw [if_neg e1], ⟨?_, ?_, ?_, han, hza'⟩, hxa.symm⟩
    · rcases (by omega : t = 0 ∨ t = 1 ∨ t = 2 ∨ t = 3) with rfl | rfl | rfl | rfl
      · exact s0 b M c w hF hM hb hMp hc
      · exact s1 b M c w hF hM hb hMp hc
      · exact s2 b M c w hF hM hb hMp hc
      · have ea : (a : Int) = L (1 + m / 8) * 8 + (m : Int) % 8 := by rw [hmm]; exact hxa.symm
        by_cases e0 : modeA n' L l = 0
        · rw [e0] at hF ⊢
          have hmn := hiff.2 e0
          obtain ⟨a4, ha4, hx4, hz4⟩ := H (8 * 0 + (4 + m / 8)) (by omega)
          rw [(arrF_at k n' (modeA n' L l) (E.R k) L l at' 0 (4 + m / 8) (by omega) (by omega)).1] at hx4
          rw [(arrF_at k n' (modeA n' L l) (E.R k) L l at' 0 (4 + m / 8) (by omega) (by omega)).2] at hz4
          have hz4' : F a4 = cr (L (1 + m / 8)) := by
            rw [hz4, e0]
            unfold arrW sentW refAt
            rw [if_pos rfl, if_neg (by omega), if_neg (by omega), if_neg (by omega), if_neg (by omega), if_pos rfl, if_pos (by omega), show 4 + m / 8 - 3 = 1 + m / 8 by omega]
          refine elem_step true w hF hM hb hMp rfl rfl (by simp only [stE, whereS, fd0, if_true]; omega) ha4 hz4' hc (by simp [stE]) rfl (fun w' h' => ?_) rfl
          have := elem_data (L (1 + m / 8)) w' h' rfl hd (by simp [stE, whereS, fd0]; omega)
          refine this.mono ?_
          rintro e w'' ⟨rfl, hF2, hU2⟩
          refine ⟨rfl, ?_, hU2⟩
          simp only [stE]
          rw [if_neg (by omega), ea]
          exact hF2
        · have e2 : modeA n' L l = 2 := by omega
          have hsd : sideU L l = true := by
            unfold modeA at e2
            by_cases q : sideU L l = true
            · exact q
            · simp [q] at e2
              split at e2 <;> omega
          obtain ⟨a4, ha4, hx4, hz4⟩ := H (8 * 0 + 4) (by omega)
          rw [(arrF_at k n' (modeA n' L l) (E.R k) L l at' 0 4 (by omega) (by omega)).1] at hx4
          rw [(arrF_at k n' (modeA n' L l) (E.R k) L l at' 0 4 (by omega) (by omega)).2] at hz4
          have hz4' : F a4 = cr (L 1) := by
            rw [hz4, e2]
            unfold arrW sentW refAt
            rw [if_pos rfl, if_neg (by omega), if_neg (by omega), if_neg (by omega), if_neg (by omega), if_neg (by omega), if_pos rfl, if_neg (by omega), if_pos (by omega)]
          rw [e2] at hF ⊢
          have hL1 : L 1 = L 0 + 1 := sideU_all hsd 1 (by omega)
          have hLd : L (1 + m / 8) = L 0 + ((1 + m / 8 : Nat) : Int) := sideU_all hsd (1 + m / 8) hl1
          have hj1 := hf 1 (by omega)
          have hjd : L 1 + (m : Int) / 8 = L (1 + m / 8) := by rw [hLd, hL1]; omega
          refine elem_step true w hF hM hb hMp rfl rfl hx4 ha4 hz4' hc (by simp [stE]) rfl (fun w' h' => ?_) rfl
          have := elem_row (L 1) w' h' rfl hj1.1 (by simp only [stE, whereS, fd0]; rw [if_neg (by omega), if_neg (by omega)]; simp only []; omega) (by simp [stE, whereS, fd0]; omega)
          refine this.mono ?_
          rintro e w'' ⟨rfl, hF2, hU2⟩
          refine ⟨rfl, ?_, hU2⟩
          have hF3 : FS w'' p E { whereS { fd0 (L 0) m true with st := 4, nx := L 0 * 8 + 3, rf := E.R k 0, ln := n', sp := 2 } 2 with st := 8, at' := (L 1 + (m : Int) / 8) * 8 + (m : Int) % 8, sp := 4 } := hF2
          rw [hjd] at hF3
          simp only [stE]
          rw [if_neg (by omega), ea]
          exact hF3
    · rcases (by omega : t = 0 ∨ t = 1 ∨ t = 2 ∨ t = 3 ∨ t = 4) with rfl | rfl | rfl | rfl | rfl
      · rfl
      · rfl
      · rfl
      · exact where_st _ _
      · simp only [stE]
        rw [if_neg e1]
        rfl
    · simp only [stE]; rw [if_neg e1]
    · simp only [stE]; rw [if_neg e1]
    · simp only [stE]; rw [if_neg e1]; unfold whereS; split <;> (try split) <;> rfl
    · simp only [stE]; rw [if_neg e1]; unfold whereS; split <;> (try split) <;> rfl
end
end Go.Proofs.Ytpdclckgnajcdaa
