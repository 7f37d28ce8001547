/-
  Walks and plain lemmas for the laws of this seat: what single Go functions return, for every argument.
-/
import Derived.Lib.Join
import Derived.Test.YtmecdjincmkofaaGreatDoorBase
import Derived.Test.YtmecdjincmkofaaGreatDoorFmtS
import Derived.Test.YtmecdjincmkofaaGreatDoorInts
import Derived.Test.YtmecdjincmkofaaGreatDoorRels
import Derived.Test.YtmecdjincmkofaaGreatDoorNum
namespace Go.Proofs.YtmecdjincmkofaaGreatDoor
open Go.RowKit

theorem decDigits_short (u : Nat) (h : u < 100) : (Lib.decDigits u).length ≤ 2 := by
  rw [decDigits_rec]
  split
  · simp
  · rw [decDigits_rec, if_pos (by omega)]; simp
theorem itoa_short (u : Nat) (h : u < 100) : (Lib.itoa (u : Int)).length ≤ 2 := by rw [itoa_pos]; exact decDigits_short u h
theorem parse_itoa (u : Nat) (h : u < 100) : parseInt (Lib.itoa (u : Int)) = ((u : Int), true) :=
  parse_spec _ _ rfl (by have := itoa_short u h; omega)
theorem parse_itoaI (v : Int) (h0 : 0 ≤ v) (h : v < 100) : parseInt (Lib.itoa v) = (v, true) := by
  obtain ⟨u, rfl⟩ := Int.eq_ofNat_of_zero_le h0
  exact parse_itoa u (by omega)
/-- a numeral is not empty and begins with no letter -/
theorem itoa_noPrefix (v : Int) (h0 : 0 ≤ v) : Lib.hasPrefix (Lib.itoa v) [110] = false ∧ Lib.itoa v ≠ [] := by
  obtain ⟨l, h1, _, _, h4, h5⟩ := itoa_facts v
  rcases h1 with ⟨h1, _⟩ | ⟨_, h1⟩
  · rw [h1]
    refine ⟨?_, h4⟩
    cases l with
    | nil => rfl
    | cons b r =>
      cases h : Lib.hasPrefix (b :: r) [110] with
      | false => rfl
      | true =>
        have hb : b = 110 := by
          unfold Lib.hasPrefix at h
          simp [List.isPrefixOf] at h
          exact h.symm
        subst hb
        rw [Lib.decFrom] at h5
        exact absurd h5 (by simp [Lib.digitVal])
  · omega
def fmtV (v : Int) : List UInt8 := if -40 ≤ v ∧ v < 0 then 110 :: Lib.itoa (-1 - v) else if 0 ≤ v ∧ v ≤ 9 then Lib.itoa v else []
theorem fmtV_null (v : Int) (h : -40 ≤ v ∧ v < 0) : fmtV v = 110 :: Lib.itoa (-1 - v) := if_pos h
theorem fmtV_const (v : Int) (h : 0 ≤ v ∧ v ≤ 9) : fmtV v = Lib.itoa v := by unfold fmtV; rw [if_neg (by omega), if_pos h]
theorem fmtV_no (v : Int) (h : ¬(-40 ≤ v ∧ v ≤ 9)) : fmtV v = [] := by unfold fmtV; rw [if_neg (by omega), if_neg (by omega)]
theorem fmtV_ne (v : Int) (h : -40 ≤ v ∧ v ≤ 9) : fmtV v ≠ [] := by
  by_cases h0 : v < 0
  · rw [fmtV_null v ⟨h.1, h0⟩]; simp
  · rw [fmtV_const v ⟨by omega, h.2⟩]; exact (itoa_noPrefix v (by omega)).2
theorem fmtV_len (v : Int) : (fmtV v).length ≤ 3 := by
  by_cases h0 : -40 ≤ v ∧ v < 0
  · rw [fmtV_null v h0]
    obtain ⟨u, hu⟩ := Int.eq_ofNat_of_zero_le (a := -1 - v) (by omega)
    have := itoa_short u (by omega)
    rw [hu, List.length_cons]; omega
  · by_cases h : 0 ≤ v ∧ v ≤ 9
    · rw [fmtV_const v h]
      obtain ⟨u, rfl⟩ := Int.eq_ofNat_of_zero_le (a := v) (by omega)
      have := itoa_short u (by omega); omega
    · rw [fmtV_no v (by omega)]; simp
def isN (l : List UInt8) : Bool := Lib.hasPrefix l [110]
def numV (l : List UInt8) : List UInt8 := Lib.trimPrefix l [110]
def candV (l : List UInt8) : Int := if isN l then -1 - (parseInt (numV l)).1 else (parseInt (numV l)).1
def parseVOk (l : List UInt8) : Bool := (parseInt (numV l)).2 && (fmtV (candV l) == l)
def parseV (l : List UInt8) : Int × Bool := if parseVOk l then (candV l, true) else (0, false)
theorem parse_nil : (parseInt []).2 = false := by
  have h : parseOk [] = false := by
    cases h : parseOk [] with
    | false => rfl
    | true =>
      have h1 := (parse_some _ h).1
      obtain ⟨l, h2, _, _, h4, _⟩ := itoa_facts (cand [])
      rcases h2 with ⟨h2, _⟩ | ⟨h2, _⟩
      · rw [h1] at h2; exact absurd h2.symm h4
      · rw [h1] at h2; cases h2
  unfold parseInt; rw [h]; rfl
theorem hasN (l : List UInt8) : Lib.hasPrefix (110 :: l) [110] = true := by unfold Lib.hasPrefix; simp [List.isPrefixOf]
theorem trimN (l : List UInt8) : Lib.trimPrefix (110 :: l) [110] = l := by unfold Lib.trimPrefix; rw [hasN]; simp
theorem trim_no (l : List UInt8) (h : Lib.hasPrefix l [110] = false) : Lib.trimPrefix l [110] = l := by unfold Lib.trimPrefix; rw [h]; rfl
theorem parseV_fmt (v : Int) (h : -40 ≤ v ∧ v ≤ 9) : parseV (fmtV v) = (v, true) := by
  have hk : (parseInt (numV (fmtV v))).2 = true ∧ candV (fmtV v) = v := by
    by_cases h0 : v < 0
    · rw [fmtV_null v ⟨h.1, h0⟩]
      unfold candV isN numV
      rw [hasN, trimN, parse_itoaI _ (by omega) (by omega)]
      exact ⟨rfl, by simp; omega⟩
    · rw [fmtV_const v ⟨by omega, h.2⟩]
      unfold candV isN numV
      have := (itoa_noPrefix v (by omega)).1
      rw [this, trim_no _ this, parse_itoaI _ (by omega) (by omega)]
      exact ⟨rfl, rfl⟩
  unfold parseV parseVOk
  rw [hk.1, hk.2]; simp
theorem parseV_some (l : List UInt8) (v : Int) (h : -40 ≤ v ∧ v ≤ 9) (he : fmtV v = l) : parseV l = (v, true) := by subst he; exact parseV_fmt v h
theorem parseV_none (l : List UInt8) (h : ∀ v : Int, -40 ≤ v → v ≤ 9 → fmtV v ≠ l) : parseV l = (0, false) := by
  unfold parseV
  rw [if_neg]
  unfold parseVOk
  simp only [Bool.and_eq_true, beq_iff_eq]
  rintro ⟨h1, h2⟩
  by_cases hv : -40 ≤ candV l ∧ candV l ≤ 9
  · exact h _ hv.1 hv.2 h2
  · rw [fmtV_no _ hv] at h2
    subst h2
    have : numV [] = [] := rfl
    rw [this, parse_nil] at h1; cases h1
theorem parseV_nil : parseV [] = (0, false) := parseV_none _ (fun v h0 h1 => fmtV_ne v ⟨h0, h1⟩)
/-- what ParseValue takes is what FormatValue gives -/
theorem parseV_sound (l : List UInt8) : (parseV l).2 = true → fmtV (parseV l).1 = l ∧ -40 ≤ (parseV l).1 ∧ (parseV l).1 ≤ 9 := by
  intro h
  by_cases h1 : parseVOk l = true
  · have h2 : parseV l = (candV l, true) := by unfold parseV; rw [if_pos h1]
    rw [h2]
    unfold parseVOk at h1
    simp only [Bool.and_eq_true, beq_iff_eq] at h1
    obtain ⟨h3, h4⟩ := h1
    refine ⟨h4, ?_⟩
    by_cases hv : -40 ≤ candV l ∧ candV l ≤ 9
    · exact hv
    · rw [fmtV_no _ hv] at h4
      subst h4
      have : numV [] = [] := rfl
      rw [this, parse_nil] at h3; cases h3
  · have h2 : parseV l = (0, false) := by unfold parseV; rw [if_neg h1]
    rw [h2] at h; cases h
theorem parseV_bd (l : List UInt8) : -40 ≤ (parseV l).1 ∧ (parseV l).1 ≤ 9 := by
  cases h : (parseV l).2 with
  | true => exact (parseV_sound l h).2
  | false =>
    unfold parseV at h ⊢
    split
    · rename_i h1; rw [if_pos h1] at h; cases h
    · decide
theorem parseInt_bd (l : List UInt8) : -9223372036854775808 ≤ (parseInt l).1 ∧ (parseInt l).1 ≤ 9223372036854775806 := by
  have hb := (sc_bd 11 (l.take 11) (by simp; omega)).1
  rw [show (10 : Nat) ^ 11 = 100000000000 from rfl] at hb
  unfold parseInt
  split
  · unfold cand
    split <;> simp <;> omega
  · decide

set_option maxHeartbeats 800000 in
theorem specFormatValue_any (v : Int) (w : World) (h0 : -9223372036854775808 ≤ v) (h1 : v ≤ 9223372036854775807) :
    Calls Tryz.prog 150 #[.int .i64 v] w fun e w' => e = .returned (.string ⟨(fmtV v).toArray⟩) ∧ Below w.heap.size w w' := by
  by_cases hv : -40 ≤ v ∧ v < 0
  · have hr : nullNum v = (-1 - v, true) := nullNum_yes v hv
    rw [fmtV_null v hv]
    have hj := strOne 110 _ _ (rfl : (⟨(Lib.itoa (-1 - v)).toArray⟩ : ByteArray) = _)
    obtain ⟨ha, hb⟩ := hv
    obtain ⟨u, hu⟩ := Int.eq_ofNat_of_zero_le (a := -1 - v) (by omega)
    have hsz : ByteArray.size ⟨(Lib.itoa (-1 - v)).toArray⟩ ≤ 2 := by
      rw [ByteArray.size, List.size_toArray, hu]; exact itoa_short u (by omega)
    clear hu
    have hs1 : ByteArray.size ⟨#[110]⟩ = 1 := rfl
    go_enter Tryz.func150, Tryz.ntmps150
    go_wp2_with (first | (go_at_call 178; refine (specNullNumber_any _ _ h0 h1).mono ?_; rintro e w' ⟨rfl, rfl⟩) | (go_at_call 184; refine (specFormatInt_any _ _ (by omega) (by omega)).mono ?_; rintro e w1 ⟨rfl, hb1⟩))
    go_ret
    exact ⟨rfl, hb1⟩
  · have hr : nullNum v = (0, false) := nullNum_no v hv
    by_cases hc : 0 ≤ v ∧ v ≤ 9
    · rw [fmtV_const v hc]
      have hi : inB v 0 9 = true := inB_true hc
      go_enter Tryz.func150, Tryz.ntmps150
      go_wp2_with (first | (go_at_call 178; refine (specNullNumber_any _ _ h0 h1).mono ?_; rintro e w' ⟨rfl, rfl⟩) | (go_at_call 112; refine (l1In_any _ _ _ _).mono ?_; rintro e w' ⟨rfl, rfl⟩) | (go_at_call 184; refine (specFormatInt_any _ _ (by omega) (by omega)).mono ?_; rintro e w1 ⟨rfl, hb1⟩))
      go_ret
      exact ⟨rfl, hb1⟩
    · rw [fmtV_no v (by omega)]
      have hi : inB v 0 9 = false := inB_false hc
      go_enter Tryz.func150, Tryz.ntmps150
      go_wp2_with (first | (go_at_call 178; refine (specNullNumber_any _ _ h0 h1).mono ?_; rintro e w' ⟨rfl, rfl⟩) | (go_at_call 112; refine (l1In_any _ _ _ _).mono ?_; rintro e w' ⟨rfl, rfl⟩))
      go_ret
      exact ⟨rfl, Below.refl _ _⟩

set_option maxHeartbeats 800000 in
theorem specParseValue_any (s : ByteArray) (w : World) :
    Calls Tryz.prog 111 #[.string s] w fun e w' => e = .returned (.tuple #[.int .i64 (parseV s.data.toList).1, .bool (parseV s.data.toList).2]) ∧ Below w.heap.size w w' := by
  go_enter Tryz.func111, Tryz.ntmps111
  go_wp2
  go_loopw [4] (fun i wr => ∃ k : Int, -40 ≤ k ∧ k ≤ 10 ∧ i = .int .i64 k ∧ Hid (∀ v : Int, -40 ≤ v → v < k → fmtV v ≠ s.data.toList) ∧ Below w.heap.size w wr) (fun i _ => (10 - intOf i).toNat)
  case atStart => exact ⟨-40, by omega, by omega, rfl, Lib.hid (fun v h1 h2 => by omega), Below.refl _ _⟩
  case round =>
    obtain ⟨k, hk0, hk1, rfl, HN, hW⟩ := hrel
    have hz := hW.size
    by_cases hlt : k ≤ 9
    · by_cases he : fmtV k = s.data.toList
      · have HR := Lib.hid (parseV_some _ k ⟨hk0, hlt⟩ he)
        have he' : (fmtV k == s.toList) = true := by rw [ByteArray.toList_eq, beq_iff_eq]; exact he
        clear he
        go_wp2_with (go_at_call 150; refine (specFormatValue_any _ _ (by omega) (by omega)).mono ?_; rintro e w1 ⟨rfl, hb1⟩)
        go_ret2
        exact ⟨ret_pair HR.out.symm, hW.trans (hb1.mono hz)⟩
      · have he' : (fmtV k == s.toList) = false := by rw [ByteArray.toList_eq, beq_eq_false_iff_ne]; exact he
        have HN' : Hid (∀ v : Int, -40 ≤ v → v < k + 1 → fmtV v ≠ s.data.toList) := Lib.hid (fun v h1 h2 => by
          by_cases h3 : v < k
          · exact HN.out v h1 h3
          · rw [show v = k by omega]; exact he)
        clear he
        go_wp2_with (go_at_call 150; refine (specFormatValue_any _ _ (by omega) (by omega)).mono ?_; rintro e w1 ⟨rfl, hb1⟩)
        go_roundw
        case rel => exact ⟨k + 1, by omega, by omega, rfl, HN', hW.trans (hb1.mono hz)⟩
        case measure => simp [intOf]; omega
    · have HR := Lib.hid (parseV_none s.data.toList (fun v h1 h2 => HN.out v h1 (by omega)))
      go_wp2
      go_ret2
      exact ⟨ret_pair HR.out.symm, hW⟩

def fmtRel (r : Rel) : List UInt8 := (if r.source then [43] else []) ++ (r.name.data.toList ++ Lib.itoa r.arity)
def joinRels (l : List Rel) : List UInt8 := Lib.join (l.map fmtRel) [32]
def fmtRels (l : List Rel) : List UInt8 := if validRels l then joinRels l else []
theorem fmtRels_no (l : List Rel) (h : validRels l = false) : fmtRels l = [] := by unfold fmtRels; rw [h]; rfl
theorem fmtRels_yes (l : List Rel) (h : validRels l = true) : fmtRels l = joinRels l := by unfold fmtRels; rw [h]; rfl
theorem joinRels_zero (l : List Rel) : joinRels (l.take 0) = [] := rfl
theorem joinRels_one (l : List Rel) (h : 0 < l.length) : joinRels (l.take 1) = fmtRel l[0] := by
  unfold joinRels
  cases l with
  | nil => simp at h
  | cons r t => simp [Lib.join_one]
theorem joinRels_succ (l : List Rel) (k : Nat) (h0 : 0 < k) (h : k < l.length) : joinRels (l.take (k + 1)) = joinRels (l.take k) ++ ([32] ++ fmtRel l[k]) := by
  unfold joinRels
  cases l with
  | nil => simp at h
  | cons r t =>
    obtain ⟨j, rfl⟩ : ∃ j, k = j + 1 := ⟨k - 1, by omega⟩
    rw [List.take_succ_cons, List.take_succ_cons, List.map_cons, List.map_cons, Lib.join_cons, Lib.join_cons, List.map_take, List.map_take]
    have hj : j < t.length := by simpa using h
    rw [Lib.joinTail_take_succ [32] (t.map fmtRel) j (fmtRel t[j]) (by simp [hj])]
    simp
/-- what a valid schema says of its relations -/
theorem validRels_len (l : List Rel) (h : validRels l = true) : l.length ≤ 6 := by
  unfold validRels at h; simp only [Bool.and_eq_true, decide_eq_true_eq] at h; exact h.2
theorem itoa_le2 (a : Int) (h0 : 0 ≤ a) (h : a < 100) : (Lib.itoa a).length ≤ 2 := by
  obtain ⟨u, rfl⟩ := Int.eq_ofNat_of_zero_le h0
  exact itoa_short u (by omega)
theorem fmtRel_len (r : Rel) (h : relOk r.name r.arity = true) : (fmtRel r).length ≤ 4 := by
  obtain ⟨h1, h2, h3⟩ := relOk_bd _ _ h
  have h4 := itoa_le2 r.arity (by omega) (by omega)
  have h5 : r.name.data.toList.length = 1 := by simpa using h1
  unfold fmtRel
  rw [List.length_append, List.length_append, h5]
  split <;> simp <;> omega
theorem joinRels_len (l : List Rel) (h : validRels l = true) (k : Nat) (hk : k ≤ l.length) : (joinRels (l.take k)).length ≤ 5 * k := by
  induction k with
  | zero => exact Nat.le_of_eq (congrArg List.length (joinRels_zero l))
  | succ k ih =>
    have h1 := fmtRel_len l[k] (validRels_at l h k (by omega))
    rcases Nat.eq_zero_or_pos k with h0 | h0
    · subst h0; rw [joinRels_one l (by omega)]; omega
    · rw [joinRels_succ l k h0 (by omega)]
      have := ih (by omega)
      simp only [List.length_append, List.length_cons, List.length_nil]; omega
theorem mk_self (s : ByteArray) : s = ⟨s.data.toList.toArray⟩ := by simp
/-- the text of the first k + 1 relations, as the loop builds it -/
theorem joinStep (l : List Rel) (k : Nat) (h : k < l.length) (p : ByteArray) (hp : p.data.toList = (if k = 0 then [] else [32]) ++ (if l[k].source then [43] else [])) :
    (((⟨(joinRels (l.take k)).toArray⟩ : ByteArray) ++ p) ++ l[k].name) ++ ⟨(Lib.itoa l[k].arity).toArray⟩ = ⟨(joinRels (l.take (k + 1))).toArray⟩ := by
  apply bytes_ext
  rcases Nat.eq_zero_or_pos k with h0 | h0
  · subst h0
    rw [joinRels_one l h]
    simp [hp, fmtRel, ByteArray.data_append]
    rfl
  · rw [joinRels_succ l k h0 h]
    simp [hp, fmtRel, ByteArray.data_append, show k ≠ 0 by omega]
theorem fmtRels_len (l : List Rel) : (fmtRels l).length ≤ 30 := by
  cases h : validRels l with
  | false => rw [fmtRels_no l h]; simp
  | true =>
    rw [fmtRels_yes l h]
    have h1 := joinRels_len l h l.length (Nat.le_refl _)
    rw [List.take_length] at h1
    have := validRels_len l h
    omega

set_option maxHeartbeats 800000 in
theorem specIsValidRelation_any (s : ByteArray) (a : Int) (b : Bool) (w : World) :
    Calls Tryz.prog 101 #[.agg #[.string s, .int .i64 a, .bool b]] w fun e w' => e = .returned (.bool (relOk s a)) ∧ Below w.heap.size w w' := by
  by_cases h1 : s.size = 1
  · have h0 : 0 < s.size := by omega
    have HN := Lib.hid (nameOk_one s h1)
    by_cases h2 : (97 : Int) ≤ ((s[0].toNat : Nat) : Int)
    · by_cases h3 : ((s[0].toNat : Nat) : Int) ≤ 122
      · have hr : Hid (relOk s a = inB a 1 3) := Lib.hid (by unfold relOk; rw [HN.out]; simp [h2, h3])
        go_enter Tryz.func101, Tryz.ntmps101
        go_wp2_with (go_at_call 112; refine (l1In_any _ _ _ _).mono ?_; rintro e w' ⟨rfl, rfl⟩)
        go_ret
        refine ⟨?_, (Below.refl _ _).alloc (Nat.le_refl _) _⟩
        rw [hr.out]; rfl
      · have hr : Hid (relOk s a = false) := Lib.hid (by unfold relOk; rw [HN.out]; simp [h2, h3])
        go_enter Tryz.func101, Tryz.ntmps101
        go_wp2
        go_ret
        refine ⟨?_, (Below.refl _ _).alloc (Nat.le_refl _) _⟩
        rw [hr.out]; rfl
    · have hr : Hid (relOk s a = false) := Lib.hid (by unfold relOk; rw [HN.out]; simp [h2])
      go_enter Tryz.func101, Tryz.ntmps101
      go_wp2
      go_ret
      refine ⟨?_, (Below.refl _ _).alloc (Nat.le_refl _) _⟩
      rw [hr.out]; rfl
  · have hr : Hid (relOk s a = false) := Lib.hid (by unfold relOk; rw [nameOk_ne s h1]; rfl)
    go_enter Tryz.func101, Tryz.ntmps101
    go_wp2
    go_ret
    refine ⟨?_, (Below.refl _ _).alloc (Nat.le_refl _) _⟩
    rw [hr.out]; rfl

set_option maxHeartbeats 400000 in
theorem isRelationName_any (s : ByteArray) (w : World) :
    Calls Tryz.prog 192 #[.string s] w fun e w' => e = .returned (.bool (nameOk s)) ∧ w = w' := by
  by_cases h1 : s.size = 1
  · have hN := nameOk_one s h1
    generalize nameOk s = N at hN
    have h0 : 0 < s.size := by omega
    by_cases h2 : (97 : Int) ≤ ((s[0].toNat : Nat) : Int)
    all_goals
      have HN := Lib.hid hN
      clear hN
      go_enter Tryz.func192, Tryz.ntmps192
      go_wp2
      go_ret
      rw [HN.out]
      first | rfl | (simp [*]; done) | (simp; omega)
  · rw [nameOk_ne s h1]
    go_enter Tryz.func192, Tryz.ntmps192
    go_wp2
    go_ret
    exact ⟨rfl, rfl⟩

set_option maxHeartbeats 400000 in
theorem implIsValidRelation_any (s : ByteArray) (a : Int) (b : Bool) (w : World) :
    Calls Tryz.prog 117 #[.agg #[.string s, .int .i64 a, .bool b]] w fun e w' => e = .returned (.bool (relOk s a)) ∧ Below w.heap.size w w' := by
  unfold relOk inB
  cases hn : nameOk s
  · go_enter Tryz.func117, Tryz.ntmps117
    go_wp2_with (go_at_call 192; refine (isRelationName_any _ _).mono ?_; rintro e w' ⟨rfl, rfl⟩)
    go_ret
    exact ⟨rfl, (Below.refl _ _).alloc (Nat.le_refl _) _⟩
  · by_cases h1 : 1 ≤ a
    all_goals
      go_enter Tryz.func117, Tryz.ntmps117
      go_wp2_with (go_at_call 192; refine (isRelationName_any _ _).mono ?_; rintro e w' ⟨rfl, rfl⟩)
      go_ret
      refine ⟨?_, (Below.refl _ _).alloc (Nat.le_refl _) _⟩
      first | rfl | (simp [*]; done) | (simp; omega) | trace_state

end Go.Proofs.YtmecdjincmkofaaGreatDoor
