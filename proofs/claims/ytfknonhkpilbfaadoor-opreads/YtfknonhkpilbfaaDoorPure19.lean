/-
  What an operation's text is, as plain lists of bytes: its word, and what stands behind it; how it is cut at spaces; which operation a text is of. No model in this text.
-/
import Derived.Lib.ItoaNum
import Derived.Lib.ItoaLen
import Derived.Lib.Atoi
import Derived.Lib.AtoiAll
import Derived.Lib.AtoiAllCases
import Derived.Lib.IndexMore
namespace Go.Proofs.YtfknonhkpilbfaaDoor
open Go

/-- An operation: its kind, its numbers, the bits of its two parts. -/
structure OP where
  k : Nat
  a : Int
  b : Int
  c : Int
  n : Int
  x : Nat
  y : Nat

def wd : Nat → List UInt8
  | 1 => [110, 101, 119] | 2 => [97, 114, 114, 97, 121] | 3 => [108, 111, 97, 100] | 4 => [115, 116, 111, 114, 101] | 5 => [103, 101, 116] | 6 => [112, 117, 116] | 7 => [108, 111, 111, 107] | 8 => [115, 101, 116]
  | 9 => [115, 97, 109, 101] | 10 => [108, 101, 110, 103, 116, 104] | 11 => [107, 105, 110, 100] | 12 => [110, 117, 109, 98, 101, 114] | 13 => [99, 108, 101, 97, 114] | 14 => [99, 111, 112, 121] | 15 => [97, 100, 100] | 16 => [109, 117, 108]
  | 17 => [99, 111, 108, 108, 101, 99, 116] | 18 => [108, 101, 97, 118, 101] | _ => []
def lts : Nat → List UInt8
  | 1 => [65, 75] | 2 => [65, 75, 78] | 3 => [65, 66, 78] | 4 => [65, 78, 66] | 5 => [65, 66, 78] | 6 => [65, 78, 66] | 7 => [65, 71] | 8 => [71, 66] | 9 => [65, 66, 67] | 10 => [65, 66] | 11 => [65, 66]
  | 12 => [65, 88, 89] | 13 => [65] | 14 => [65, 66] | 15 => [65, 66, 67] | 16 => [65, 66, 67] | _ => []

/-- A number of 64 bits with a sign. -/
def i64 (n : Int) : Prop := -9223372036854775808 ≤ n ∧ n ≤ 9223372036854775807

/-- A digit of hex. -/
def hexD (n : Nat) : UInt8 := UInt8.ofNat (if n < 10 then 48 + n else 87 + n)
/-- The sixteen digits of hex. -/
def hex16 (u : Nat) : List UInt8 := (List.range 16).map fun i => hexD (u / 16 ^ (15 - i) % 16)
/-- A part's bits, all NaNs as one. -/
def nbP (x : Nat) : Nat := if 18437736874454810624 < 2 * x % 18446744073709551616 then 9221120237041090560 else x

def OP.num (o : OP) (l : UInt8) : Int := if l = 65 then o.a else if l = 66 ∨ l = 75 then o.b else if l = 67 then o.c else o.n
def OP.fld (o : OP) (l : UInt8) : List UInt8 := if l = 88 then hex16 (nbP o.x) else if l = 89 then hex16 (nbP o.y) else Lib.itoa (o.num l)
def OP.prt (o : OP) : List UInt8 := wd o.k ++ (lts o.k).flatMap fun l => 32 :: o.fld l

structure OP.Ok (o : OP) : Prop where
  k1 : 1 ≤ o.k
  k2 : o.k ≤ 18
  a : i64 o.a
  b : i64 o.b
  c : i64 o.c
  n : i64 o.n
  x : o.x < 18446744073709551616
  y : o.y < 18446744073709551616

/-- Without what its words do not name, and with one NaN for all. -/
def OP.cz (o : OP) : OP :=
  { k := o.k
    a := if 65 ∈ lts o.k then o.a else 0
    b := if 66 ∈ lts o.k ∨ 75 ∈ lts o.k then o.b else 0
    c := if 67 ∈ lts o.k then o.c else 0
    n := if 78 ∈ lts o.k ∨ 71 ∈ lts o.k then o.n else 0
    x := if 88 ∈ lts o.k then nbP o.x else 0
    y := if 89 ∈ lts o.k then nbP o.y else 0 }

structure Good (s : List UInt8) (o : OP) : Prop where
  ok : o.Ok
  cz : o.cz = o
  prt : o.prt = s

theorem i64_zero : i64 0 := by unfold i64; omega
theorem nbP_lt (x : Nat) (h : x < 18446744073709551616) : nbP x < 18446744073709551616 := by unfold nbP; split <;> omega
theorem nbP_nbP (x : Nat) : nbP (nbP x) = nbP x := by
  by_cases h : 18437736874454810624 < 2 * x % 18446744073709551616
  · have e : nbP x = 9221120237041090560 := if_pos h
    rw [e]
    decide
  · have e : nbP x = x := if_neg h
    rw [e, e]

theorem kinds (k : Nat) (h1 : 1 ≤ k) (h2 : k ≤ 18) : k = 1 ∨ k = 2 ∨ k = 3 ∨ k = 4 ∨ k = 5 ∨ k = 6 ∨ k = 7 ∨ k = 8 ∨ k = 9 ∨ k = 10 ∨ k = 11 ∨ k = 12 ∨ k = 13 ∨ k = 14 ∨ k = 15 ∨ k = 16 ∨ k = 17 ∨ k = 18 := by omega

theorem OP.Ok.cz {o : OP} (h : o.Ok) : o.cz.Ok := by
  obtain ⟨h1, h2, ha, hb, hc, hn, hx, hy⟩ := h
  have z := i64_zero
  have ex := nbP_lt _ hx
  have ey := nbP_lt _ hy
  refine ⟨h1, h2, ?_, ?_, ?_, ?_, ?_, ?_⟩ <;> (unfold OP.cz; dsimp only; split <;> first | assumption | omega)
theorem OP.cz_cz (o : OP) : o.cz.cz = o.cz := by
  unfold OP.cz
  dsimp only
  congr 1 <;> (split <;> first | rfl | exact nbP_nbP _)
theorem OP.prt_cz (o : OP) (h1 : 1 ≤ o.k) (h2 : o.k ≤ 18) : o.cz.prt = o.prt := by
  obtain ⟨k, a, b, c, n, x, y⟩ := o
  dsimp only at h1 h2
  rcases kinds k h1 h2 with rfl | rfl | rfl | rfl | rfl | rfl | rfl | rfl | rfl | rfl | rfl | rfl | rfl | rfl | rfl | rfl | rfl | rfl <;> simp [OP.prt, OP.cz, lts, OP.fld, OP.num, nbP_nbP]
theorem Good.of {s : List UInt8} {o : OP} (h : o.Ok) (e : o.prt = s) : Good s o.cz := ⟨h.cz, o.cz_cz, (o.prt_cz h.k1 h.k2).trans e⟩

/-! ### Digits -/
theorem decDigits_digit : ∀ (u : Nat), ∀ c ∈ Lib.decDigits u, 48 ≤ c.toNat ∧ c.toNat ≤ 57 := by
  intro u
  induction u using Nat.strongRecOn with
  | _ u ih =>
    intro c hc
    rw [Lib.decDigits] at hc
    split at hc
    · rename_i h
      obtain rfl := List.mem_singleton.1 hc
      simp [UInt8.toNat_ofNat]
      omega
    · rcases List.mem_append.1 hc with hc | hc
      · exact ih (u / 10) (by omega) c hc
      · obtain rfl := List.mem_singleton.1 hc
        simp [UInt8.toNat_ofNat]
        omega
theorem decDigits_ne (u : Nat) : Lib.decDigits u ≠ [] := by
  rw [Lib.decDigits]
  split <;> simp
theorem itoa_ne (n : Int) : Lib.itoa n ≠ [] := by
  unfold Lib.itoa
  split
  · simp
  · exact decDigits_ne _
theorem itoa_byte (n : Int) : ∀ c ∈ Lib.itoa n, c.toNat = 45 ∨ (48 ≤ c.toNat ∧ c.toNat ≤ 57) := by
  intro c hc
  unfold Lib.itoa at hc
  split at hc
  · rcases List.mem_cons.1 hc with rfl | hc
    · left; rfl
    · right; exact decDigits_digit _ c hc
  · right; exact decDigits_digit _ c hc
theorem hexD_byte (n : Nat) (h : n < 16) : (48 ≤ (hexD n).toNat ∧ (hexD n).toNat ≤ 57) ∨ (97 ≤ (hexD n).toNat ∧ (hexD n).toNat ≤ 102) := by
  unfold hexD
  split <;> simp [UInt8.toNat_ofNat] <;> omega
theorem hex16_byte (u : Nat) : ∀ c ∈ hex16 u, (48 ≤ c.toNat ∧ c.toNat ≤ 57) ∨ (97 ≤ c.toNat ∧ c.toNat ≤ 102) := by
  intro c hc
  obtain ⟨i, _, rfl⟩ := List.mem_map.1 hc
  exact hexD_byte _ (Nat.mod_lt _ (by decide))
theorem hex16_len (u : Nat) : (hex16 u).length = 16 := by simp [hex16]
theorem hex16_get (u i : Nat) (h : i < 16) : (hex16 u)[i]? = some (hexD (u / 16 ^ (15 - i) % 16)) := by simp [hex16, h]

theorem ne32_of {c : UInt8} {m : Nat} (h : c.toNat = m) (hm : m ≠ 32) : c ≠ 32 := fun e => by subst e; exact hm (h ▸ rfl)
theorem fld_no (o : OP) (l : UInt8) : (32 : UInt8) ∉ o.fld l := by
  intro h
  unfold OP.fld at h
  split at h
  · rcases hex16_byte _ _ h with ⟨a, b⟩ | ⟨a, b⟩ <;> simp at a b
  · split at h
    · rcases hex16_byte _ _ h with ⟨a, b⟩ | ⟨a, b⟩ <;> simp at a b
    · rcases itoa_byte _ _ h with a | ⟨a, b⟩
      · simp at a
      · simp at a
theorem fld_ne (o : OP) (l : UInt8) : o.fld l ≠ [] := by
  unfold OP.fld
  split
  · intro h; have := congrArg List.length h; simp [hex16_len] at this
  · split
    · intro h; have := congrArg List.length h; simp [hex16_len] at this
    · exact itoa_ne _
theorem wd_no (k : Nat) : (32 : UInt8) ∉ wd k := by
  by_cases h : 1 ≤ k ∧ k ≤ 18
  · rcases kinds k h.1 h.2 with rfl | rfl | rfl | rfl | rfl | rfl | rfl | rfl | rfl | rfl | rfl | rfl | rfl | rfl | rfl | rfl | rfl | rfl <;> decide
  · have e : wd k = [] := by unfold wd; split <;> first | omega | rfl
    rw [e]; simp
theorem wd_inj {j k : Nat} (hj : 1 ≤ j ∧ j ≤ 18) (hk : 1 ≤ k ∧ k ≤ 18) (h : wd j = wd k) : j = k := by
  have key : ∀ j : Fin 19, ∀ k : Fin 19, 1 ≤ j.val → 1 ≤ k.val → wd j.val = wd k.val → j.val = k.val := by decide +kernel
  exact key ⟨j, by omega⟩ ⟨k, by omega⟩ hj.1 hk.1 h

/-! ### Cut at a space -/
/-- What stands ahead of the first space, and what behind it. -/
def cutS : List UInt8 → List UInt8 × List UInt8
  | [] => ([], [])
  | c :: r => if c = 32 then ([], r) else (c :: (cutS r).1, (cutS r).2)
theorem cutS_sp : ∀ (f r : List UInt8), (32 : UInt8) ∉ f → cutS (f ++ 32 :: r) = (f, r)
  | [], r, _ => by simp [cutS]
  | c :: f, r, h => by
    simp only [List.mem_cons, not_or] at h
    simp [cutS, cutS_sp f r h.2, Ne.symm h.1]
theorem cutS_no : ∀ (f : List UInt8), (32 : UInt8) ∉ f → cutS f = (f, [])
  | [], _ => rfl
  | c :: f, h => by
    simp only [List.mem_cons, not_or] at h
    simp [cutS, cutS_no f h.2, Ne.symm h.1]
theorem cutS_len : ∀ (s : List UInt8), (cutS s).1.length ≤ s.length ∧ (cutS s).2.length ≤ s.length
  | [] => ⟨Nat.le_refl _, Nat.le_refl _⟩
  | c :: r => by
    have := cutS_len r
    unfold cutS
    split <;> simp <;> omega
/-- What stands behind the word, from a letter on. -/
def OP.tl (o : OP) : List UInt8 → List UInt8
  | [] => []
  | l :: ls => o.fld l ++ ls.flatMap fun l => 32 :: o.fld l
theorem cutS_prt (o : OP) : cutS o.prt = (wd o.k, o.tl (lts o.k)) := by
  unfold OP.prt
  cases h : lts o.k with
  | nil => simpa [OP.tl] using cutS_no _ (wd_no o.k)
  | cons l ls => simpa [OP.tl] using cutS_sp (wd o.k) (o.fld l ++ ls.flatMap fun l => 32 :: o.fld l) (wd_no o.k)
theorem cutS_tl (o : OP) (l : UInt8) (ls : List UInt8) : cutS (o.tl (l :: ls)) = (o.fld l, o.tl ls) := by
  unfold OP.tl
  cases ls with
  | nil => simpa using cutS_no _ (fld_no o l)
  | cons l' ls => simpa using cutS_sp (o.fld l) (o.fld l' ++ ls.flatMap fun l => 32 :: o.fld l) (fld_no o l)

/-- All pieces. -/
def spl : List UInt8 → List (List UInt8)
  | [] => [[]]
  | c :: r => if c = 32 then [] :: spl r else match spl r with
    | [] => [[c]]
    | f :: fs => (c :: f) :: fs
theorem spl_ne : ∀ (s : List UInt8), spl s ≠ []
  | [] => by simp [spl]
  | c :: r => by
    unfold spl
    split
    · simp
    · split <;> simp
theorem spl_sp : ∀ (f r : List UInt8), (32 : UInt8) ∉ f → spl (f ++ 32 :: r) = f :: spl r
  | [], r, _ => by simp [spl]
  | c :: f, r, h => by
    simp only [List.mem_cons, not_or] at h
    simp [spl, spl_sp f r h.2, Ne.symm h.1]
theorem spl_no : ∀ (f : List UInt8), (32 : UInt8) ∉ f → spl f = [f]
  | [], _ => rfl
  | c :: f, h => by
    simp only [List.mem_cons, not_or] at h
    simp [spl, spl_no f h.2, Ne.symm h.1]
theorem spl_fields (f : List UInt8) (h : (32 : UInt8) ∉ f) (o : OP) : ∀ ls : List UInt8, spl (f ++ ls.flatMap fun l => 32 :: o.fld l) = f :: ls.map o.fld := by
  intro ls
  induction ls generalizing f with
  | nil => simpa using spl_no f h
  | cons l ls ih =>
    rw [List.flatMap_cons, List.cons_append, spl_sp _ _ h, ih (o.fld l) (fld_no o l)]
    simp
theorem spl_prt (o : OP) : spl o.prt = wd o.k :: (lts o.k).map o.fld := spl_fields _ (wd_no _) o _

/-! ### An operation without a number more: what a letter sets -/
def OP.upd (o : OP) (l : UInt8) (r : Int) (q : Nat) : OP :=
  if l = 88 then { o with x := q } else if l = 89 then { o with y := q } else if l = 65 then { o with a := r } else if l = 66 ∨ l = 75 then { o with b := r } else if l = 67 then { o with c := r } else { o with n := r }
/-- The number that a letter of o sets, and the bits. -/
def OP.bit (o : OP) (l : UInt8) : Nat := if l = 88 then nbP o.x else nbP o.y
def zer (k : Nat) : OP := ⟨k, 0, 0, 0, 0, 0, 0⟩
/-- What is read when the letters ls have been read. -/
def OP.rd (o : OP) (ls : List UInt8) : OP := ls.foldl (fun p l => p.upd l (o.num l) (o.bit l)) (zer o.k)
theorem rd_all (o : OP) (h : o.Ok) (e : o.cz = o) : o.rd (lts o.k) = o := by
  obtain ⟨k, a, b, c, n, x, y⟩ := o
  have h1 := h.k1
  have h2 := h.k2
  dsimp only at h1 h2
  rcases kinds k h1 h2 with rfl | rfl | rfl | rfl | rfl | rfl | rfl | rfl | rfl | rfl | rfl | rfl | rfl | rfl | rfl | rfl | rfl | rfl <;> simp [OP.cz, lts] at e <;> simp [OP.rd, lts, OP.upd, OP.num, OP.bit, zer] <;> omega
theorem OP.upd_k (o : OP) (l : UInt8) (r : Int) (q : Nat) : (o.upd l r q).k = o.k := by
  unfold OP.upd
  repeat' split
  all_goals rfl
theorem OP.Ok.upd {o : OP} (h : o.Ok) (l : UInt8) {r : Int} {q : Nat} (hr : i64 r) (hq : q < 18446744073709551616) : (o.upd l r q).Ok := by
  obtain ⟨h1, h2, ha, hb, hc, hn, hx, hy⟩ := h
  unfold OP.upd
  repeat' split
  all_goals exact ⟨h1, h2, by assumption, by assumption, by assumption, by assumption, by assumption, by assumption⟩
theorem zer_ok {k : Nat} (h1 : 1 ≤ k) (h2 : k ≤ 18) : (zer k).Ok := ⟨h1, h2, i64_zero, i64_zero, i64_zero, i64_zero, show (0 : Nat) < _ by decide, show (0 : Nat) < _ by decide⟩

theorem bit_lt {o : OP} (h : o.Ok) (l : UInt8) : o.bit l < 18446744073709551616 := by
  unfold OP.bit
  split
  · exact nbP_lt _ h.x
  · exact nbP_lt _ h.y
theorem num_in {o : OP} (h : o.Ok) (l : UInt8) : i64 (o.num l) := by
  obtain ⟨h1, h2, ha, hb, hc, hn, hx, hy⟩ := h
  unfold OP.num
  repeat' split
  all_goals assumption
theorem fld_hex (o : OP) (l : UInt8) (h : l = 88 ∨ l = 89) : o.fld l = hex16 (o.bit l) := by
  rcases h with rfl | rfl <;> rfl
theorem fld_dec (o : OP) (l : UInt8) (h : l ≠ 88) (h' : l ≠ 89) : o.fld l = Lib.itoa (o.num l) := by
  unfold OP.fld
  rw [if_neg h, if_neg h']

/-! ### Atoi of Itoa -/
theorem ofNat_toNat_digit (d : Nat) (h : d < 10) : (UInt8.ofNat (48 + d)).toNat = 48 + d := by
  simp [UInt8.toNat_ofNat]
  omega
theorem parseUint10_append : ∀ (l : List UInt8) (acc v : Nat) (r : List UInt8), Lib.parseUint10 acc l = .ok v → Lib.parseUint10 acc (l ++ r) = Lib.parseUint10 v r
  | [], acc, v, r, h => by
    simp only [Lib.parseUint10] at h
    injection h with h
    subst h
    rfl
  | c :: l, acc, v, r, h => by
    simp only [Lib.parseUint10] at h
    simp only [List.cons_append, Lib.parseUint10]
    split at h
    · split at h
      · cases h
      · split at h
        · cases h
        · rename_i h1 h2 h3
          rw [if_pos h1, if_neg h2, if_neg h3]
          exact parseUint10_append l _ v r h
    · cases h
theorem parseUint10_dec : ∀ (u : Nat), u < 18446744073709551616 → Lib.parseUint10 0 (Lib.decDigits u) = .ok u := by
  intro u
  induction u using Nat.strongRecOn with
  | _ u ih =>
    intro hu
    rw [Lib.decDigits]
    split
    · rename_i h
      have e := ofNat_toNat_digit u h
      have q : 48 ≤ (UInt8.ofNat (48 + u)).toNat ∧ (UInt8.ofNat (48 + u)).toNat ≤ 57 := by omega
      simp only [Lib.parseUint10]
      rw [if_pos q, if_neg (by omega), if_neg (by omega), e]
      congr 1
      omega
    · have e := ofNat_toNat_digit (u % 10) (by omega)
      rw [parseUint10_append _ _ _ _ (ih (u / 10) (by omega) (by omega))]
      have q : 48 ≤ (UInt8.ofNat (48 + u % 10)).toNat ∧ (UInt8.ofNat (48 + u % 10)).toNat ≤ 57 := by omega
      simp only [Lib.parseUint10]
      rw [if_pos q, if_neg (by omega), if_neg (by omega), e]
      congr 1
      omega
theorem parseMag_dec (u : Nat) (hu : u < 18446744073709551616) : Lib.parseMag (Lib.decDigits u) = .ok u := by
  unfold Lib.parseMag
  rw [if_neg (decDigits_ne u)]
  exact parseUint10_dec u hu
theorem decDigits_head (u : Nat) : ∃ c r, Lib.decDigits u = c :: r ∧ c.toNat ≠ 43 ∧ c.toNat ≠ 45 := by
  cases h : Lib.decDigits u with
  | nil => exact absurd h (decDigits_ne u)
  | cons c r =>
    have := decDigits_digit u c (by rw [h]; simp)
    exact ⟨c, r, rfl, by omega, by omega⟩
theorem atoiAll_itoa (n : Int) (h : i64 n) : Lib.atoiAll (Lib.itoa n) = .ok n := by
  unfold i64 at h
  unfold Lib.itoa
  split
  · rename_i hn
    rw [Lib.atoiAll_minus, parseMag_dec _ (by omega)]
    show (if 9223372036854775808 < n.natAbs then Lib.NumEnd.range else Lib.NumEnd.ok (-(n.natAbs : Int))) = _
    rw [if_neg (by omega)]
    congr 1
    omega
  · obtain ⟨c, r, e, h43, h45⟩ := decDigits_head n.toNat
    rw [e, Lib.atoiAll_plain c r h43 h45, ← e, parseMag_dec _ (by omega)]
    show (if 9223372036854775808 ≤ n.toNat then Lib.NumEnd.range else Lib.NumEnd.ok (n.toNat : Int)) = _
    rw [if_neg (by omega)]
    congr 1
    omega
/-! ### The digits one by one: decimal -/
theorem decFrom_append : ∀ (l : List UInt8) (acc v : Nat) (r : List UInt8), Lib.decFrom acc l = some v → Lib.decFrom acc (l ++ r) = Lib.decFrom v r
  | [], acc, v, r, h => by
    simp only [Lib.decFrom, Option.some.injEq] at h
    subst h
    rfl
  | c :: l, acc, v, r, h => by
    simp only [Lib.decFrom] at h
    simp only [List.cons_append, Lib.decFrom]
    cases hd : Lib.digitVal c with
    | none => rw [hd] at h; cases h
    | some d =>
      rw [hd] at h
      exact decFrom_append l _ v r h
theorem digitVal_of (d : Nat) (h : d < 10) : Lib.digitVal (UInt8.ofNat (48 + d)) = some d := by
  have e := ofNat_toNat_digit d h
  unfold Lib.digitVal
  rw [if_pos (by omega), e]
  congr 1
  omega
theorem decFrom_dec : ∀ (u : Nat), Lib.decFrom 0 (Lib.decDigits u) = some u := by
  intro u
  induction u using Nat.strongRecOn with
  | _ u ih =>
    rw [Lib.decDigits]
    split
    · rename_i h
      simp only [Lib.decFrom, digitVal_of u h]
      simp
    · rw [decFrom_append _ _ _ _ (ih (u / 10) (by omega))]
      simp only [Lib.decFrom, digitVal_of (u % 10) (by omega)]
      simp
      omega
theorem decFrom_ge : ∀ (l : List UInt8) (acc v : Nat), Lib.decFrom acc l = some v → acc ≤ v
  | [], acc, v, h => by
    simp only [Lib.decFrom, Option.some.injEq] at h
    omega
  | c :: l, acc, v, h => by
    simp only [Lib.decFrom] at h
    cases hd : Lib.digitVal c with
    | none => rw [hd] at h; cases h
    | some d =>
      rw [hd] at h
      have := decFrom_ge l _ v h
      omega
theorem decFrom_part (l : List UInt8) (k v w : Nat) (h : Lib.decFrom 0 (l.take k) = some v) (h' : Lib.decFrom 0 l = some w) : v ≤ w := by
  have e := decFrom_append (l.take k) 0 v (l.drop k) h
  rw [List.take_append_drop] at e
  exact decFrom_ge _ _ _ (e.symm.trans h')
theorem nDigits_le19 (u : Nat) (h : u ≤ 9223372036854775808) : (Lib.decDigits u).length ≤ 19 := by
  rw [Lib.decDigits_length]
  rcases Nat.lt_or_ge (Lib.nDigits u) 20 with g | g
  · omega
  · exfalso
    have : ∀ (k u : Nat), k + 1 ≤ Lib.nDigits u → 10 ^ k ≤ u ∨ k = 0 := by
      intro k
      induction k with
      | zero => intro u _; exact .inr rfl
      | succ k ih =>
        intro u hk
        left
        by_cases h10 : u < 10
        · rw [Lib.nDigits_small h10] at hk; omega
        · rw [Lib.nDigits_big h10] at hk
          rcases ih (u / 10) (by omega) with q | q
          · rw [Nat.pow_succ]; omega
          · subst q; omega
    rcases this 19 u (by omega) with q | q
    · have : (10 : Nat) ^ 19 = 10000000000000000000 := by decide
      omega
    · omega

/-- How many signs stand ahead of the digits of m. -/
def sgn (m : Int) : Nat := if m < 0 then 1 else 0
theorem itoa_drop (m : Int) : (Lib.itoa m).drop (sgn m) = Lib.decDigits m.natAbs := by
  unfold Lib.itoa sgn
  by_cases h : m < 0
  · rw [if_pos h, if_pos h]; rfl
  · rw [if_neg h, if_neg h, List.drop_zero]
    congr 1
    omega
theorem itoa_len (m : Int) : (Lib.itoa m).length = sgn m + (Lib.decDigits m.natAbs).length := by
  rw [← itoa_drop, List.length_drop]
  unfold sgn
  have := List.length_pos_iff.2 (itoa_ne m)
  split <;> omega
theorem itoa_head (m : Int) : ∃ c r, Lib.itoa m = c :: r ∧ ((c.toNat = 45) ↔ sgn m = 1) := by
  unfold Lib.itoa sgn
  by_cases h : m < 0
  · rw [if_pos h, if_pos h]; exact ⟨45, _, rfl, by decide⟩
  · rw [if_neg h, if_neg h]
    obtain ⟨c, r, e, _, h2⟩ := decDigits_head m.toNat
    exact ⟨c, r, e, by simp [h2]⟩
/-- The first signs of m's digits, read. -/
def Trk (s : List UInt8) (from_ i : Nat) (n : Int) : Prop := ∀ m, i64 m → s = Lib.itoa m → from_ = sgn m ∧ ∃ v : Nat, Lib.decFrom 0 ((Lib.decDigits m.natAbs).take (i - from_)) = some v ∧ n = -(v : Int)
theorem Trk.start (s : List UInt8) (from_ : Nat) (h : ∀ m, s = Lib.itoa m → from_ = sgn m) : Trk s from_ from_ 0 := fun m _ e => ⟨h m e, 0, by simp [Lib.decFrom], rfl⟩
theorem Trk.step {s : List UInt8} {from_ i : Nat} {n : Int} (h : Trk s from_ i n) (hf : from_ ≤ i) (hi : i < s.length) (m : Int) (hm : i64 m) (e : s = Lib.itoa m) :
    ∃ d : Nat, d < 10 ∧ (s[i]).toNat = 48 + d ∧ i ≤ from_ + 18 ∧ 10 * n - (d : Int) ≤ 0 ∧ -9223372036854775808 ≤ 10 * n - (d : Int) ∧ ∃ v : Nat, Lib.decFrom 0 ((Lib.decDigits m.natAbs).take (i + 1 - from_)) = some v ∧ 10 * n - (d : Int) = -(v : Int) := by
  obtain ⟨hs, v, hv, rfl⟩ := h m hm e
  have hl : s.length = sgn m + (Lib.decDigits m.natAbs).length := by rw [e, itoa_len]
  have hk : i - from_ < (Lib.decDigits m.natAbs).length := by omega
  have hn := nDigits_le19 m.natAbs (by unfold i64 at hm; omega)
  have hg : (Lib.decDigits m.natAbs)[i - from_]? = some s[i] := by
    rw [← itoa_drop, ← hs, List.getElem?_drop, ← e, show from_ + (i - from_) = i by omega]
    exact List.getElem?_eq_getElem hi
  obtain ⟨d, hd⟩ := Lib.digit_of_decFrom _ _ _ (decFrom_dec m.natAbs) _ _ hg
  have ht := Lib.decFrom_take (Lib.decDigits m.natAbs) (i - from_) 0 v s[i] d hv hg hd
  obtain ⟨d1, d2, d3⟩ := Lib.digitVal_eq hd
  have hle := decFrom_part _ _ _ _ ht (decFrom_dec m.natAbs)
  refine ⟨d, by omega, by omega, by omega, by omega, by unfold i64 at hm; omega, v * 10 + d, ?_, by omega⟩
  rw [show i + 1 - from_ = i - from_ + 1 by omega]
  exact ht
theorem Trk.stop {s : List UInt8} {from_ : Nat} {n : Int} (h : Trk s from_ s.length n) (m : Int) (hm : i64 m) (e : s = Lib.itoa m) : from_ = sgn m ∧ n = -(m.natAbs : Int) := by
  obtain ⟨hs, v, hv, rfl⟩ := h m hm e
  refine ⟨hs, ?_⟩
  have hl : s.length = sgn m + (Lib.decDigits m.natAbs).length := by rw [e, itoa_len]
  rw [List.take_of_length_le (by omega), decFrom_dec] at hv
  obtain rfl := Option.some.inj hv
  rfl

/-! ### The digits one by one: hex -/
theorem hexD_val (d : Nat) (h : d < 10) : (hexD d).toNat = 48 + d := by
  unfold hexD
  rw [if_pos h]
  simp [UInt8.toNat_ofNat]
  omega
theorem hexD_val' (d : Nat) (h : ¬ d < 10) (h' : d < 16) : (hexD d).toNat = 87 + d := by
  unfold hexD
  rw [if_neg h]
  simp [UInt8.toNat_ofNat]
  omega
/-- The first i digits of v. -/
def hxp (v i : Nat) : Nat := v / 16 ^ (16 - i)
theorem hxp_zero (v : Nat) (h : v < 18446744073709551616) : hxp v 0 = 0 := by
  unfold hxp
  have : (16 : Nat) ^ (16 - 0) = 18446744073709551616 := by decide
  rw [this]
  exact Nat.div_eq_of_lt h
theorem hxp_all (v : Nat) : hxp v 16 = v := by simp [hxp]
theorem hxp_succ (v i : Nat) (h : i < 16) : hxp v (i + 1) = hxp v i * 16 + v / 16 ^ (15 - i) % 16 := by
  unfold hxp
  rw [show 16 - (i + 1) = 15 - i by omega, show 16 - i = 15 - i + 1 by omega, Nat.pow_succ, ← Nat.div_div_eq_div_mul]
  omega
theorem hxp_lt (v i : Nat) (h : v < 18446744073709551616) (hi : i < 16) : hxp v i < 1152921504606846976 := by
  unfold hxp
  have h1 : (16 : Nat) ^ 1 ≤ 16 ^ (16 - i) := Nat.pow_le_pow_right (by decide) (by omega)
  have h2 : v / 16 ^ (16 - i) ≤ v / 16 ^ 1 := Nat.div_le_div_left h1 (by decide)
  have h3 : (16 : Nat) ^ 1 = 16 := by decide
  omega
/-- The first digits of v, read. -/
def TrkH (s : List UInt8) (i : Nat) (u : Nat) : Prop := ∀ v, v < 18446744073709551616 → s = hex16 v → u = hxp v i
theorem TrkH.start (s : List UInt8) : TrkH s 0 0 := fun v h _ => (hxp_zero v h).symm
theorem TrkH.step {s : List UInt8} {i u : Nat} (h : TrkH s i u) (hi : i < s.length) (v : Nat) (hv : v < 18446744073709551616) (e : s = hex16 v) :
    ∃ d : Nat, d < 16 ∧ s[i] = hexD d ∧ i < 16 ∧ u < 1152921504606846976 ∧ u * 16 + d = hxp v (i + 1) := by
  have hl : s.length = 16 := by rw [e, hex16_len]
  have h16 : i < 16 := by omega
  have hg := hex16_get v i h16
  rw [← e, List.getElem?_eq_getElem hi, Option.some.injEq] at hg
  refine ⟨v / 16 ^ (15 - i) % 16, Nat.mod_lt _ (by decide), hg, h16, ?_, ?_⟩
  · rw [h v hv e]; exact hxp_lt v i hv h16
  · rw [h v hv e, hxp_succ v i h16]
theorem TrkH.stop {s : List UInt8} {u : Nat} (h : TrkH s s.length u) (v : Nat) (hv : v < 18446744073709551616) (e : s = hex16 v) : u = v := by
  have hl : s.length = 16 := by rw [e, hex16_len]
  rw [h v hv e, hl, hxp_all]
theorem hex16_inj {u v : Nat} (hu : u < 18446744073709551616) (hv : v < 18446744073709551616) (h : hex16 u = hex16 v) : u = v := by
  have key : ∀ i, i ≤ 16 → hxp u i = hxp v i := by
    intro i
    induction i with
    | zero => intro _; rw [hxp_zero u hu, hxp_zero v hv]
    | succ i ih =>
      intro hi
      rw [hxp_succ u i (by omega), hxp_succ v i (by omega), ih (by omega)]
      have a := hex16_get u i (by omega)
      have b := hex16_get v i (by omega)
      rw [h, b, Option.some.injEq] at a
      have c1 : u / 16 ^ (15 - i) % 16 < 16 := Nat.mod_lt _ (by decide)
      have c2 : v / 16 ^ (15 - i) % 16 < 16 := Nat.mod_lt _ (by decide)
      generalize u / 16 ^ (15 - i) % 16 = p at a c1 ⊢
      generalize v / 16 ^ (15 - i) % 16 = q at a c2 ⊢
      have e := congrArg UInt8.toNat a
      by_cases hp : p < 10 <;> by_cases hq : q < 10
      · rw [hexD_val p hp, hexD_val q hq] at e; omega
      · rw [hexD_val p hp, hexD_val' q hq c2] at e; omega
      · rw [hexD_val' p hp c1, hexD_val q hq] at e; omega
      · rw [hexD_val' p hp c1, hexD_val' q hq c2] at e; omega
  have := key 16 (by omega)
  rwa [hxp_all, hxp_all] at this
end Go.Proofs.YtfknonhkpilbfaaDoor
