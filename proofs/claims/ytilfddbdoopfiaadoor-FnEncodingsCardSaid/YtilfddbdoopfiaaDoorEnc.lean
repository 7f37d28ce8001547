/-
  Walks and plain lemmas for the laws of this seat: what single Go functions return, for every argument.
-/
import Derived.Test.YtilfddbdoopfiaaDoorFmt
import Derived.Test.YtilfddbdoopfiaaDoorDraw3
import Derived.Test.YtilfddbdoopfiaaDoorNum
namespace Go.Proofs.YtilfddbdoopfiaaDoor
open Go.RowKit

theorem encodeVarint_ne (n : Int) : (encodeVarint n = [] ↔ ¬ (0 ≤ n ∧ n ≤ 562949953421311)) := by
  unfold encodeVarint; split
  · rename_i h
    constructor
    · intro h1
      have : (leb n.toNat) ≠ [] := by rw [leb]; split <;> simp
      exact absurd h1 this
    · intro h1; exact absurd h h1
  · rename_i h; simp [h]
theorem leVal_leb (n : Nat) : leVal (leb n) = n := by
  induction n using Nat.strongRecOn with
  | _ n ih =>
    by_cases h : n < 128
    · rw [leb_lt n h, leVal, leVal, UInt8.toNat_ofNat', Nat.mod_eq_of_lt (show n < 256 by omega)]; omega
    · rw [leb_ge n (by omega), leVal, ih (n / 128) (by omega), UInt8.toNat_ofNat', Nat.mod_eq_of_lt (show 128 + n % 128 < 256 by omega)]; omega
theorem leb_pos (n : Nat) : 0 < (leb n).length := by rw [leb]; split <;> simp
/-- every proper start of a varint goes on -/
theorem leb_take_canon (n k : Nat) (h : k + 1 < (leb n).length) (t : List UInt8) : canon ((leb n ++ t).take (k + 1)) = false := by
  rw [List.take_append_of_le_length (by omega)]
  have hall : ∀ (n j : Nat), j + 1 < (leb n).length → ∃ b, (leb n)[j]? = some b ∧ 128 ≤ b.toNat := by
    intro n
    induction n using Nat.strongRecOn with
    | _ n ih =>
      intro j hj
      by_cases hn : n < 128
      · rw [leb_lt n hn] at hj; simp at hj
      · rw [leb_ge n (by omega)] at hj ⊢
        cases j with
        | zero => exact ⟨_, rfl, by rw [UInt8.toNat_ofNat', Nat.mod_eq_of_lt (show 128 + n % 128 < 256 by omega)]; omega⟩
        | succ j =>
          obtain ⟨b, h1, h2⟩ := ih (n / 128) (by omega) j (by simpa using hj)
          exact ⟨b, by simpa using h1, h2⟩
  have hA : allHi ((leb n).take k) := by
    intro b hb
    obtain ⟨j, hj, rfl⟩ := List.getElem_of_mem hb
    simp only [List.length_take] at hj
    obtain ⟨c, h1, h2⟩ := hall n j (by omega)
    rw [List.getElem?_eq_getElem (by omega)] at h1
    injection h1 with h1
    rw [List.getElem_take, h1]; exact h2
  obtain ⟨c, h1, h2⟩ := hall n k h
  have hk : k < (leb n).length := by omega
  rw [List.getElem?_eq_getElem hk] at h1
  injection h1 with h1
  rw [List.take_succ_eq_append_getElem hk, canon_snoc _ _ hA, h1]
  simp; omega
theorem dv_leb (n : Nat) (hn : n ≤ 562949953421311) (t : List UInt8) : decodeVarint (leb n ++ t) = (n, (leb n).length) := by
  have h7 := leb_len7 n hn
  have hp := leb_pos n
  have inv : ∀ k, k < (leb n).length → DvInv (leb n ++ t) k := by
    intro k
    induction k with
    | zero => intro _; exact DvInv.zero _
    | succ k ih => intro hk; exact (ih (by omega)).next (by omega) (leb_take_canon n k hk t)
  have hlast := inv ((leb n).length - 1) (by omega)
  have htk : (leb n ++ t).take ((leb n).length - 1 + 1) = leb n := by rw [show (leb n).length - 1 + 1 = (leb n).length by omega, List.take_left]
  have hc : canon ((leb n ++ t).take ((leb n).length - 1 + 1)) = true := by
    rw [htk]
    exact (leb_canon (leb n) (by intro h; rw [h] at hp; simp at hp)).1 (by rw [leVal_leb])
  rw [hlast.found (by omega) (by rw [List.length_append]; omega) hc, htk, leVal_leb, show (leb n).length - 1 + 1 = (leb n).length by omega]
theorem dv_sound (l : List UInt8) : (decodeVarint l).2 = 0 ∨ (0 < (decodeVarint l).2 ∧ (decodeVarint l).2 ≤ l.length ∧ encodeVarint ((decodeVarint l).1 : Nat) = l.take (decodeVarint l).2) := by
  have h : ∀ f k, f + k ≤ 7 → (dvFrom l f k).2 = 0 ∨ (0 < (dvFrom l f k).2 ∧ (dvFrom l f k).2 ≤ l.length ∧ encodeVarint ((dvFrom l f k).1 : Nat) = l.take (dvFrom l f k).2) := by
    intro f
    induction f with
    | zero => intro k _; left; rfl
    | succ f ih =>
      intro k hk
      rw [dvFrom]
      split
      · rename_i hc
        obtain ⟨hc1, hc2⟩ := hc
        right
        refine ⟨by simp, hc1, ?_⟩
        have hne : l.take (k + 1) ≠ [] := by intro h0; have := congrArg List.length h0; rw [List.length_take, Nat.min_eq_left hc1] at this; simp at this
        have hlt := leVal_lt (l.take (k + 1))
        have hl : (l.take (k + 1)).length = k + 1 := by simp; omega
        have hp := pow128_le (k + 1) (by omega)
        rw [hl] at hlt
        show encodeVarint ((leVal (l.take (k + 1)) : Nat) : Int) = _
        rw [encodeVarint_yes _ (by omega)]
        exact (leb_canon _ hne).2 hc2
      · exact ih (k + 1) (by omega)
  exact h 7 0 (by decide)
theorem encFixed7 (n : Int) : (encodeFixed n 7 = [] ↔ (n < 0 ∨ 72057594037927936 ≤ n)) ∧ (¬ (n < 0 ∨ 72057594037927936 ≤ n) → encodeFixed n 7 = beLow 7 n.toNat) := by
  unfold encodeFixed
  have e : (256 : Nat) ^ (7 : Int).toNat = 72057594037927936 := by decide
  rw [e]
  by_cases h : n < 0 ∨ 72057594037927936 ≤ n
  · rw [if_neg (by omega)]; exact ⟨⟨fun _ => h, fun _ => rfl⟩, fun h1 => absurd h h1⟩
  · rw [if_pos (by omega)]
    refine ⟨⟨fun h1 => ?_, fun h1 => absurd h1 h⟩, fun _ => rfl⟩
    have := congrArg List.length h1
    rw [beLow_length] at this; simp at this
theorem beNat_cons (b : UInt8) (l : List UInt8) : beNat (b :: l) = b.toNat * 256 ^ l.length + beNat l := by
  have h : ∀ (l : List UInt8) (a : Nat), l.foldl (fun n b => n * 256 + b.toNat) a = a * 256 ^ l.length + beNat l := by
    intro l
    induction l with
    | nil => intro a; simp [beNat]
    | cons c l ih =>
      intro a
      have e : beNat (c :: l) = (0 * 256 + c.toNat) * 256 ^ l.length + beNat l := ih (0 * 256 + c.toNat)
      rw [List.foldl_cons, ih, e, List.length_cons, Nat.pow_succ, Nat.add_mul, Nat.mul_assoc, Nat.mul_comm 256 (256 ^ l.length), Nat.zero_mul, Nat.zero_add, Nat.add_assoc]
  have := h l b.toNat
  unfold beNat at this ⊢
  rw [List.foldl_cons, Nat.zero_mul, Nat.zero_add]; exact this
theorem beNat_beLow (k n : Nat) : beNat (beLow k n) = n % 256 ^ k := by
  induction k with
  | zero => simp [beLow, beNat, Nat.mod_one]
  | succ k ih =>
    rw [beLow, beNat_cons, ih, beLow_length]
    have hb : (byteI (((n / 256 ^ k : Nat) : Int) % 256)).toNat = n / 256 ^ k % 256 := by
      unfold byteI
      rw [UInt8.toNat_ofNat', show (((n / 256 ^ k : Nat) : Int) % 256).toNat = n / 256 ^ k % 256 by omega, Nat.mod_eq_of_lt (by have := Nat.mod_lt (n / 256 ^ k) (show 0 < 256 by decide); omega)]
    rw [hb, Nat.pow_succ, Nat.mod_mul, Nat.mul_comm, Nat.add_comm]
theorem decFixed7 (n : Int) (h : ¬ (n < 0 ∨ 72057594037927936 ≤ n)) (t : List UInt8) : decodeFixed (encodeFixed n 7 ++ t) 7 = (n, true) := by
  rw [(encFixed7 n).2 h]
  have := decodeFixed_yes (beLow 7 n.toNat ++ t) 7 (by rw [List.length_append, beLow_length]; omega)
  rw [show ((7 : Nat) : Int) = 7 from rfl] at this
  rw [this]
  have htk : (beLow 7 n.toNat ++ t).take 7 = beLow 7 n.toNat := List.take_left' (beLow_length 7 _)
  rw [htk, beNat_beLow, show (256 : Nat) ^ 7 = 72057594037927936 from rfl, Nat.mod_eq_of_lt (by omega)]
  congr 1; omega
theorem unhex_hexD (k : Nat) (h : k < 16) : unhex (hexD k) = (k : Int) := (hexD_eq (hexD k) k h).1 rfl
theorem decHex_enc (l : List UInt8) : decodeHex (encodeHex l) = some l := by
  induction l with
  | nil => rfl
  | cons b l ih =>
    have hb := b.toNat_lt
    show decodeHex (hexD (b.toNat / 16) :: hexD (b.toNat % 16) :: encodeHex l) = _
    rw [decodeHex, unhex_hexD _ (by omega), unhex_hexD _ (by omega), if_neg (by omega), ih]
    have : byteI (16 * ((b.toNat / 16 : Nat) : Int) + ((b.toNat % 16 : Nat) : Int)) = b := by
      unfold byteI
      rw [show (16 * ((b.toNat / 16 : Nat) : Int) + ((b.toNat % 16 : Nat) : Int)).toNat = b.toNat by omega]; exact UInt8.ofNat_toNat
    rw [this]; rfl
theorem nDigits_le9 (u : Nat) : Lib.nDigits u ≤ 9 ↔ u < 1000000000 := by
  constructor
  · intro h
    exact Nat.lt_of_lt_of_le (Lib.lt_pow_nDigits u) (Nat.le_trans (Nat.pow_le_pow_right (by decide) h) (by decide))
  · intro h
    by_cases h9 : Lib.nDigits u ≤ 9
    · exact h9
    · exfalso
      have : ∀ k u, u < 10 ^ (k + 1) → Lib.nDigits u ≤ k + 1 := by
        intro k
        induction k with
        | zero => intro u hu; rw [Lib.nDigits_small (by omega)]; omega
        | succ k ih =>
          intro u hu
          by_cases h1 : u < 10
          · rw [Lib.nDigits_small h1]; omega
          · rw [Lib.nDigits_big h1]
            have := ih (u / 10) (by rw [Nat.div_lt_iff_lt_mul (by decide)]; rw [Nat.pow_succ] at hu; exact hu)
            omega
      exact h9 (this 8 u (by rw [show (10 : Nat) ^ (8 + 1) = 1000000000 from rfl]; exact h))
theorem parse_format (n : Int) : parseInt (Lib.itoa n) = if -1000000000 < n ∧ n < 1000000000 then (n, true) else (0, false) := by
  have hlen : (Lib.itoa n).length - (if isNeg (Lib.itoa n) then 1 else 0) = Lib.nDigits n.natAbs := by
    obtain ⟨l, h1, h2, h3, h4, _⟩ := itoa_facts n
    have hl : l = Lib.decDigits n.natAbs := by
      by_cases h : 0 ≤ n
      · rcases h1 with ⟨h1, _⟩ | ⟨_, h0⟩
        · have := itoa_pos n.natAbs
          rw [show ((n.natAbs : Nat) : Int) = n by omega] at this
          rw [← h1, this]
        · omega
      · rcases h1 with ⟨_, h0⟩ | ⟨h1, _⟩
        · omega
        · have := itoa_negN n.natAbs (by omega)
          rw [show -((n.natAbs : Nat) : Int) = n by omega, h1] at this
          injection this
    have hd := Lib.decDigits_length n.natAbs
    rcases h1 with ⟨h1, _⟩ | ⟨h1, _⟩
    · rw [h1, h3, hl, hd]; simp
    · rw [h1]
      show (45 :: l).length - 1 = _
      rw [List.length_cons, hl, hd]; omega
  split
  · rename_i h
    exact parse_spec _ n rfl (by rw [hlen, nDigits_le9]; omega)
  · rename_i h
    have hp : ¬ parseOk (Lib.itoa n) = true := by
      intro hp
      obtain ⟨_, h2, _⟩ := parse_some _ hp
      rw [hlen, nDigits_le9] at h2
      omega
    unfold parseInt; rw [if_neg hp]

end Go.Proofs.YtilfddbdoopfiaaDoor
