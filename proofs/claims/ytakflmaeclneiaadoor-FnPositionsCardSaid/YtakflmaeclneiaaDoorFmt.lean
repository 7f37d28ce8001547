/-
  Walks and plain lemmas for the laws of this seat: what single Go functions return, for every argument.
-/
import Derived.Lib.ItoaNum
import Derived.Lib.ItoaLen
import Derived.Lib.Atoi
import Derived.Test.YtakflmaeclneiaaDoorBase
namespace Go.Proofs.YtakflmaeclneiaaDoor
open Go.RowKit

/-- the digits of m, none for 0 -/
def dd (m : Nat) : List UInt8 := if m = 0 then [] else Lib.decDigits m
theorem decDigits_rec (u : Nat) : Lib.decDigits u = if u < 10 then [UInt8.ofNat (48 + u)] else Lib.decDigits (u / 10) ++ [UInt8.ofNat (48 + u % 10)] := by
  rw [Lib.decDigits]; split <;> rfl
theorem dd_step (m : Nat) (h : 0 < m) : dd m = dd (m / 10) ++ [byteI (48 + (m : Int) % 10)] := by
  have hb : byteI (48 + (m : Int) % 10) = UInt8.ofNat (48 + m % 10) := by unfold byteI; rw [show (48 + (m : Int) % 10).toNat = 48 + m % 10 by omega]
  rw [hb]
  unfold dd
  rw [if_neg (by omega), decDigits_rec]
  by_cases h1 : m < 10
  · rw [if_pos h1, if_pos (by omega), Nat.mod_eq_of_lt h1]; rfl
  · rw [if_neg h1, if_neg (by omega)]
/-- what a round of the digits' loop keeps -/
def DigInv (n m : Nat) (o : ByteArray) : Prop := (∃ l : List UInt8, o = ⟨l.toArray⟩ ∧ dd m ++ l = Lib.decDigits n) ∧ o.size ≤ 20
theorem dd_len (n : Nat) (h : n ≤ 9223372036854775808) : (Lib.decDigits n).length ≤ 20 := by
  rw [Lib.decDigits_length]; exact Lib.nDigits_le20 n (by omega)
theorem DigInv.zero (n : Nat) (h : 0 < n) : DigInv n n ⟨#[]⟩ := ⟨⟨[], rfl, by unfold dd; rw [if_neg (by omega), List.append_nil]⟩, by decide⟩
theorem DigInv.step {n m : Nat} {o : ByteArray} (h : DigInv n m o) (hm : 0 < m) (hn : n ≤ 9223372036854775808) : DigInv n (m / 10) ((⟨#[byteI (48 + (m : Int) % 10)]⟩ : ByteArray) ++ o) := by
  obtain ⟨⟨l, rfl, h1⟩, h2⟩ := h
  rw [strOne _ _ l rfl]
  rw [dd_step m hm, List.append_assoc, List.singleton_append] at h1
  refine ⟨⟨_, rfl, h1⟩, ?_⟩
  have := congrArg List.length h1
  have := dd_len n hn
  simp only [List.length_append] at *
  show (byteI (48 + (m : Int) % 10) :: l).toArray.size ≤ 20
  rw [List.size_toArray]; omega
theorem DigInv.done {n : Nat} {o : ByteArray} (h : DigInv n 0 o) : o = ⟨(Lib.decDigits n).toArray⟩ := by
  obtain ⟨⟨l, rfl, h1⟩, _⟩ := h
  have : l = Lib.decDigits n := by simpa [dd] using h1
  rw [this]
theorem itoa_pos (n : Nat) : Lib.itoa (n : Int) = Lib.decDigits n := by unfold Lib.itoa; rw [if_neg (by omega)]; simp
theorem itoa_negN (n : Nat) (h : 0 < n) : Lib.itoa (-(n : Int)) = 45 :: Lib.decDigits n := by unfold Lib.itoa; rw [if_pos (by omega)]; simp

theorem decFrom_snoc : ∀ (l : List UInt8) (acc : Nat) (b : UInt8), Lib.decFrom acc (l ++ [b]) = (Lib.decFrom acc l).bind fun n => (Lib.digitVal b).map fun d => n * 10 + d
  | [], acc, b => by
    simp only [List.nil_append, Lib.decFrom, Option.bind_some]
    cases Lib.digitVal b <;> rfl
  | c :: l, acc, b => by
    rw [List.cons_append, Lib.decFrom, Lib.decFrom]
    cases hc : Lib.digitVal c with
    | none => rfl
    | some d => exact decFrom_snoc l _ b
theorem digitVal_num (d : Nat) (h : d < 10) : Lib.digitVal (UInt8.ofNat (48 + d)) = some d := by
  have : (UInt8.ofNat (48 + d)).toNat = 48 + d := by rw [UInt8.toNat_ofNat', Nat.mod_eq_of_lt (by omega)]
  unfold Lib.digitVal; rw [this, if_pos (by omega)]; congr 1; omega
theorem decFrom_digits (u : Nat) : Lib.decFrom 0 (Lib.decDigits u) = some u := by
  induction u using Nat.strongRecOn with
  | _ u ih =>
    rw [decDigits_rec]
    by_cases h : u < 10
    · rw [if_pos h]; unfold Lib.decFrom; rw [digitVal_num u h]; simp [Lib.decFrom]
    · rw [if_neg h, decFrom_snoc, ih (u / 10) (by omega), digitVal_num _ (Nat.mod_lt _ (by decide))]
      simp only [Option.bind_some, Option.map_some]; congr 1; omega
theorem digits_ne (u : Nat) : Lib.decDigits u ≠ [] := by
  rw [decDigits_rec]; split <;> simp
/-- the value of the digits of a text, and how many there are -/
def scStep (x : Nat × Nat) (b : UInt8) : Nat × Nat := if 48 ≤ b.toNat ∧ b.toNat ≤ 57 then (x.1 * 10 + (b.toNat - 48), x.2 + 1) else x
def sc (l : List UInt8) : Nat × Nat := l.foldl scStep (0, 0)
theorem sc_snoc (l : List UInt8) (b : UInt8) : sc (l ++ [b]) = scStep (sc l) b := by unfold sc; rw [List.foldl_append]; rfl
theorem foldl_sc : ∀ (l : List UInt8) (acc k n : Nat), Lib.decFrom acc l = some n → l.foldl scStep (acc, k) = (n, k + l.length)
  | [], acc, k, n, h => by simp [Lib.decFrom] at h; subst h; rfl
  | b :: l, acc, k, n, h => by
    rw [Lib.decFrom] at h
    cases hb : Lib.digitVal b with
    | none => simp [hb] at h
    | some d =>
      simp only [hb] at h
      unfold Lib.digitVal at hb
      split at hb
      · rename_i hr
        simp only [Option.some.injEq] at hb; subst hb
        rw [List.foldl_cons, scStep, if_pos hr, foldl_sc l _ (k + 1) n h, List.length_cons]
        congr 1; omega
      · cases hb
theorem sc_digits (u : Nat) : sc (Lib.decDigits u) = (u, (Lib.decDigits u).length) := by
  unfold sc; rw [foldl_sc _ 0 0 u (decFrom_digits u), Nat.zero_add]
theorem sc_minus (l : List UInt8) : sc (45 :: l) = sc l := by unfold sc; rw [List.foldl_cons]; rfl
theorem sc_bd : ∀ (k : Nat) (l : List UInt8), l.length ≤ k → (sc l).1 < 10 ^ k ∧ (sc l).2 ≤ k := by
  have h : ∀ (l : List UInt8) (a c k : Nat), a < 10 ^ k → c ≤ k → (l.foldl scStep (a, c)).1 < 10 ^ (k + l.length) ∧ (l.foldl scStep (a, c)).2 ≤ k + l.length := by
    intro l
    induction l with
    | nil => intro a c k ha hc; exact ⟨ha, hc⟩
    | cons b l ih =>
      intro a c k ha hc
      rw [List.foldl_cons, List.length_cons, show k + (l.length + 1) = (k + 1) + l.length by omega]
      have hb := b.toNat_lt
      unfold scStep
      split
      · exact ih _ _ (k + 1) (by rw [Nat.pow_succ]; omega) (by omega)
      · exact ih _ _ (k + 1) (by rw [Nat.pow_succ]; omega) (by omega)
  intro k l hl
  have h1 := h l 0 0 0 (by decide) (by decide)
  rw [Nat.zero_add] at h1
  exact ⟨Nat.lt_of_lt_of_le h1.1 (Nat.pow_le_pow_right (by decide) hl), Nat.le_trans h1.2 hl⟩
def isNeg (l : List UInt8) : Bool := match l with | [] => false | b :: _ => b == 45
/-- the number that a text would have to be the numeral of -/
def cand (l : List UInt8) : Int := if isNeg l then -(((sc (l.take 11)).1 : Nat) : Int) else (((sc (l.take 11)).1 : Nat) : Int)
def parseOk (l : List UInt8) : Bool := decide ((sc (l.take 11)).2 ≤ 9 ∧ l.length ≤ 10) && (Lib.itoa (cand l) == l)
def parseInt (l : List UInt8) : Int × Bool := if parseOk l then (cand l, true) else (0, false)
/-- of a numeral: its value, its digits' number -/
theorem itoa_facts (v : Int) : ∃ l : List UInt8, (Lib.itoa v = l ∧ 0 ≤ v ∨ Lib.itoa v = 45 :: l ∧ v < 0) ∧ sc l = (v.natAbs, l.length) ∧ isNeg l = false ∧ l ≠ [] ∧ Lib.decFrom 0 l = some v.natAbs := by
  have hd : isNeg (Lib.decDigits v.natAbs) = false := by
    cases h : Lib.decDigits v.natAbs with
    | nil => rfl
    | cons b r =>
      have h1 := decFrom_digits v.natAbs
      rw [h, Lib.decFrom] at h1
      show (b == 45) = false
      cases hb : (b == 45) with
      | false => rfl
      | true =>
        rw [beq_iff_eq] at hb; subst hb
        exact absurd h1 (by simp [Lib.digitVal])
  refine ⟨Lib.decDigits v.natAbs, ?_, sc_digits _, hd, digits_ne _, decFrom_digits _⟩
  by_cases h : 0 ≤ v
  · left; refine ⟨?_, h⟩
    have := itoa_pos v.natAbs
    rwa [show ((v.natAbs : Nat) : Int) = v by omega] at this
  · right; refine ⟨?_, by omega⟩
    have := itoa_negN v.natAbs (by omega)
    rwa [show -((v.natAbs : Nat) : Int) = v by omega] at this
theorem atoi_itoa (v : Int) : Lib.atoi (Lib.itoa v) = some v := by
  obtain ⟨l, h1, _, h3, h4, h5⟩ := itoa_facts v
  have hn : Lib.decNat l = some v.natAbs := by
    unfold Lib.decNat
    cases l with
    | nil => exact absurd rfl h4
    | cons b r => exact h5
  rcases h1 with ⟨h1, h0⟩ | ⟨h1, h0⟩
  · rw [h1]
    cases l with
    | nil => exact absurd rfl h4
    | cons b r =>
      have hb : (b == 45) = false := h3
      have hb2 : (b == 43) = false := by
        cases h : (b == 43) with
        | false => rfl
        | true =>
          rw [beq_iff_eq] at h; subst h
          rw [Lib.decFrom] at h5
          exact absurd h5 (by simp [Lib.digitVal])
      rw [Lib.atoi, hb, hb2, hn]
      simp; omega
  · rw [h1, Lib.atoi, hn]
    simp; omega
theorem cand_itoa (v : Int) (h : (Lib.itoa v).length ≤ 11) : cand (Lib.itoa v) = v ∧ (sc ((Lib.itoa v).take 11)).2 = (Lib.itoa v).length - (if isNeg (Lib.itoa v) then 1 else 0) := by
  obtain ⟨l, h1, h2, h3, h4, _⟩ := itoa_facts v
  unfold cand
  rw [List.take_of_length_le h]
  rcases h1 with ⟨h1, h0⟩ | ⟨h1, h0⟩
  · rw [h1, h3, h2]; simp; omega
  · have hn : isNeg (45 :: l) = true := rfl
    rw [h1, sc_minus, hn, h2]; simp; omega
/-- what impl.ParseInt tests: the digits without a sign, and the way back -/
theorem parse_spec (l : List UInt8) (v : Int) (h : Lib.itoa v = l) (hl : l.length - (if isNeg l then 1 else 0) ≤ 9) : parseInt l = (v, true) := by
  have h10 : l.length ≤ 10 := by split at hl <;> omega
  subst h
  obtain ⟨h1, h2⟩ := cand_itoa v (by omega)
  unfold parseInt
  rw [if_pos]
  · rw [h1]
  · unfold parseOk
    rw [h1, Bool.and_eq_true, decide_eq_true_eq, beq_iff_eq]
    exact ⟨⟨by omega, h10⟩, rfl⟩
theorem parse_some (l : List UInt8) (h : parseOk l = true) : Lib.itoa (cand l) = l ∧ l.length - (if isNeg l then 1 else 0) ≤ 9 ∧ Lib.atoi l = some (cand l) := by
  unfold parseOk at h
  rw [Bool.and_eq_true, decide_eq_true_eq, beq_iff_eq] at h
  obtain ⟨⟨h1, h2⟩, h3⟩ := h
  have h4 := cand_itoa (cand l) (by rw [h3]; omega)
  have h5 := atoi_itoa (cand l)
  rw [h3] at h4 h5
  exact ⟨h3, by omega, h5⟩

end Go.Proofs.YtakflmaeclneiaaDoor
