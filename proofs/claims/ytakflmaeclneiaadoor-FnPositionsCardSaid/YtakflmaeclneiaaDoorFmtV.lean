/-
  Walks and plain lemmas for the laws of this seat: what single Go functions return, for every argument.
-/
import Derived.Test.YtakflmaeclneiaaDoorFmt
import Derived.Test.YtakflmaeclneiaaDoorNum
namespace Go.Proofs.YtakflmaeclneiaaDoor
open Go.RowKit

theorem decDigits_short (u : Nat) (h : u < 100) : (Lib.decDigits u).length ≤ 2 := by
  rw [decDigits_rec]
  split
  · simp
  · rw [decDigits_rec, if_pos (by omega)]; simp
theorem itoa_short (u : Nat) (h : u < 100) : (Lib.itoa (u : Int)).length ≤ 2 := by rw [itoa_pos]; exact decDigits_short u h
theorem parse_itoa (u : Nat) (h : u < 100) : parseInt (Lib.itoa (u : Int)) = ((u : Int), true) :=
  parse_spec _ _ rfl (by have := itoa_short u h; omega)
theorem parse_itoaI (v : Int) (h0 : 0 ≤ v) (h : v < 100) : parseInt (Lib.itoa v) = (v, true) := by
  obtain ⟨u, rfl⟩ := Int.eq_ofNat_of_zero_le h0
  exact parse_itoa u (by omega)
/-- a numeral is not empty and begins with no letter -/
theorem itoa_noPrefix (v : Int) (h0 : 0 ≤ v) : Lib.hasPrefix (Lib.itoa v) [110] = false ∧ Lib.itoa v ≠ [] := by
  obtain ⟨l, h1, _, _, h4, h5⟩ := itoa_facts v
  rcases h1 with ⟨h1, _⟩ | ⟨_, h1⟩
  · rw [h1]
    refine ⟨?_, h4⟩
    cases l with
    | nil => rfl
    | cons b r =>
      cases h : Lib.hasPrefix (b :: r) [110] with
      | false => rfl
      | true =>
        have hb : b = 110 := by
          unfold Lib.hasPrefix at h
          simp [List.isPrefixOf] at h
          exact h.symm
        subst hb
        rw [Lib.decFrom] at h5
        exact absurd h5 (by simp [Lib.digitVal])
  · omega
def fmtV (v : Int) : List UInt8 := if -40 ≤ v ∧ v < 0 then 110 :: Lib.itoa (-1 - v) else if 0 ≤ v ∧ v ≤ 9 then Lib.itoa v else []
theorem fmtV_null (v : Int) (h : -40 ≤ v ∧ v < 0) : fmtV v = 110 :: Lib.itoa (-1 - v) := if_pos h
theorem fmtV_const (v : Int) (h : 0 ≤ v ∧ v ≤ 9) : fmtV v = Lib.itoa v := by unfold fmtV; rw [if_neg (by omega), if_pos h]
theorem fmtV_no (v : Int) (h : ¬(-40 ≤ v ∧ v ≤ 9)) : fmtV v = [] := by unfold fmtV; rw [if_neg (by omega), if_neg (by omega)]
theorem fmtV_ne (v : Int) (h : -40 ≤ v ∧ v ≤ 9) : fmtV v ≠ [] := by
  by_cases h0 : v < 0
  · rw [fmtV_null v ⟨h.1, h0⟩]; simp
  · rw [fmtV_const v ⟨by omega, h.2⟩]; exact (itoa_noPrefix v (by omega)).2
theorem fmtV_len (v : Int) : (fmtV v).length ≤ 3 := by
  by_cases h0 : -40 ≤ v ∧ v < 0
  · rw [fmtV_null v h0]
    obtain ⟨u, hu⟩ := Int.eq_ofNat_of_zero_le (a := -1 - v) (by omega)
    have := itoa_short u (by omega)
    rw [hu, List.length_cons]; omega
  · by_cases h : 0 ≤ v ∧ v ≤ 9
    · rw [fmtV_const v h]
      obtain ⟨u, rfl⟩ := Int.eq_ofNat_of_zero_le (a := v) (by omega)
      have := itoa_short u (by omega); omega
    · rw [fmtV_no v (by omega)]; simp
def isN (l : List UInt8) : Bool := Lib.hasPrefix l [110]
def numV (l : List UInt8) : List UInt8 := Lib.trimPrefix l [110]
def candV (l : List UInt8) : Int := if isN l then -1 - (parseInt (numV l)).1 else (parseInt (numV l)).1
def parseVOk (l : List UInt8) : Bool := (parseInt (numV l)).2 && (fmtV (candV l) == l)
def parseV (l : List UInt8) : Int × Bool := if parseVOk l then (candV l, true) else (0, false)
theorem parse_nil : (parseInt []).2 = false := by
  have h : parseOk [] = false := by
    cases h : parseOk [] with
    | false => rfl
    | true =>
      have h1 := (parse_some _ h).1
      obtain ⟨l, h2, _, _, h4, _⟩ := itoa_facts (cand [])
      rcases h2 with ⟨h2, _⟩ | ⟨h2, _⟩
      · rw [h1] at h2; exact absurd h2.symm h4
      · rw [h1] at h2; cases h2
  unfold parseInt; rw [h]; rfl
theorem hasN (l : List UInt8) : Lib.hasPrefix (110 :: l) [110] = true := by unfold Lib.hasPrefix; simp [List.isPrefixOf]
theorem trimN (l : List UInt8) : Lib.trimPrefix (110 :: l) [110] = l := by unfold Lib.trimPrefix; rw [hasN]; simp
theorem trim_no (l : List UInt8) (h : Lib.hasPrefix l [110] = false) : Lib.trimPrefix l [110] = l := by unfold Lib.trimPrefix; rw [h]; rfl
theorem parseV_fmt (v : Int) (h : -40 ≤ v ∧ v ≤ 9) : parseV (fmtV v) = (v, true) := by
  have hk : (parseInt (numV (fmtV v))).2 = true ∧ candV (fmtV v) = v := by
    by_cases h0 : v < 0
    · rw [fmtV_null v ⟨h.1, h0⟩]
      unfold candV isN numV
      rw [hasN, trimN, parse_itoaI _ (by omega) (by omega)]
      exact ⟨rfl, by simp; omega⟩
    · rw [fmtV_const v ⟨by omega, h.2⟩]
      unfold candV isN numV
      have := (itoa_noPrefix v (by omega)).1
      rw [this, trim_no _ this, parse_itoaI _ (by omega) (by omega)]
      exact ⟨rfl, rfl⟩
  unfold parseV parseVOk
  rw [hk.1, hk.2]; simp
theorem parseV_some (l : List UInt8) (v : Int) (h : -40 ≤ v ∧ v ≤ 9) (he : fmtV v = l) : parseV l = (v, true) := by subst he; exact parseV_fmt v h
theorem parseV_none (l : List UInt8) (h : ∀ v : Int, -40 ≤ v → v ≤ 9 → fmtV v ≠ l) : parseV l = (0, false) := by
  unfold parseV
  rw [if_neg]
  unfold parseVOk
  simp only [Bool.and_eq_true, beq_iff_eq]
  rintro ⟨h1, h2⟩
  by_cases hv : -40 ≤ candV l ∧ candV l ≤ 9
  · exact h _ hv.1 hv.2 h2
  · rw [fmtV_no _ hv] at h2
    subst h2
    have : numV [] = [] := rfl
    rw [this, parse_nil] at h1; cases h1
theorem parseV_nil : parseV [] = (0, false) := parseV_none _ (fun v h0 h1 => fmtV_ne v ⟨h0, h1⟩)
/-- what ParseValue takes is what FormatValue gives -/
theorem parseV_sound (l : List UInt8) : (parseV l).2 = true → fmtV (parseV l).1 = l ∧ -40 ≤ (parseV l).1 ∧ (parseV l).1 ≤ 9 := by
  intro h
  by_cases h1 : parseVOk l = true
  · have h2 : parseV l = (candV l, true) := by unfold parseV; rw [if_pos h1]
    rw [h2]
    unfold parseVOk at h1
    simp only [Bool.and_eq_true, beq_iff_eq] at h1
    obtain ⟨h3, h4⟩ := h1
    refine ⟨h4, ?_⟩
    by_cases hv : -40 ≤ candV l ∧ candV l ≤ 9
    · exact hv
    · rw [fmtV_no _ hv] at h4
      subst h4
      have : numV [] = [] := rfl
      rw [this, parse_nil] at h3; cases h3
  · have h2 : parseV l = (0, false) := by unfold parseV; rw [if_neg h1]
    rw [h2] at h; cases h
theorem parseV_bd (l : List UInt8) : -40 ≤ (parseV l).1 ∧ (parseV l).1 ≤ 9 := by
  cases h : (parseV l).2 with
  | true => exact (parseV_sound l h).2
  | false =>
    unfold parseV at h ⊢
    split
    · rename_i h1; rw [if_pos h1] at h; cases h
    · decide
theorem parseInt_bd (l : List UInt8) : -9223372036854775808 ≤ (parseInt l).1 ∧ (parseInt l).1 ≤ 9223372036854775806 := by
  have hb := (sc_bd 11 (l.take 11) (by simp; omega)).1
  rw [show (10 : Nat) ^ 11 = 100000000000 from rfl] at hb
  unfold parseInt
  split
  · unfold cand
    split <;> simp <;> omega
  · decide

end Go.Proofs.YtakflmaeclneiaaDoor
