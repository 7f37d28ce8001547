/-
  Walks and plain lemmas for the laws of this seat: what single Go functions return, for every argument.
-/
import Derived.Lib.Join
import Derived.Lib.SplitLaws
import Derived.Test.YtmecdjincmkofaaGreatDoorBase
import Derived.Test.YtmecdjincmkofaaGreatDoorNum
namespace Go.Proofs.YtmecdjincmkofaaGreatDoor
open Go.RowKit

theorem decDigits_short (u : Nat) (h : u < 100) : (Lib.decDigits u).length ≤ 2 := by
  rw [decDigits_rec]
  split
  · simp
  · rw [decDigits_rec, if_pos (by omega)]; simp
theorem itoa_short (u : Nat) (h : u < 100) : (Lib.itoa (u : Int)).length ≤ 2 := by rw [itoa_pos]; exact decDigits_short u h
theorem parse_itoa (u : Nat) (h : u < 100) : parseInt (Lib.itoa (u : Int)) = ((u : Int), true) :=
  parse_spec _ _ rfl (by have := itoa_short u h; omega)
theorem parse_itoaI (v : Int) (h0 : 0 ≤ v) (h : v < 100) : parseInt (Lib.itoa v) = (v, true) := by
  obtain ⟨u, rfl⟩ := Int.eq_ofNat_of_zero_le h0
  exact parse_itoa u (by omega)
/-- a numeral is not empty and begins with no letter -/
theorem itoa_noPrefix (v : Int) (h0 : 0 ≤ v) : Lib.hasPrefix (Lib.itoa v) [110] = false ∧ Lib.itoa v ≠ [] := by
  obtain ⟨l, h1, _, _, h4, h5⟩ := itoa_facts v
  rcases h1 with ⟨h1, _⟩ | ⟨_, h1⟩
  · rw [h1]
    refine ⟨?_, h4⟩
    cases l with
    | nil => rfl
    | cons b r =>
      cases h : Lib.hasPrefix (b :: r) [110] with
      | false => rfl
      | true =>
        have hb : b = 110 := by
          unfold Lib.hasPrefix at h
          simp [List.isPrefixOf] at h
          exact h.symm
        subst hb
        rw [Lib.decFrom] at h5
        exact absurd h5 (by simp [Lib.digitVal])
  · omega
def fmtV (v : Int) : List UInt8 := if -40 ≤ v ∧ v < 0 then 110 :: Lib.itoa (-1 - v) else if 0 ≤ v ∧ v ≤ 9 then Lib.itoa v else []
theorem fmtV_null (v : Int) (h : -40 ≤ v ∧ v < 0) : fmtV v = 110 :: Lib.itoa (-1 - v) := if_pos h
theorem fmtV_const (v : Int) (h : 0 ≤ v ∧ v ≤ 9) : fmtV v = Lib.itoa v := by unfold fmtV; rw [if_neg (by omega), if_pos h]
theorem fmtV_no (v : Int) (h : ¬(-40 ≤ v ∧ v ≤ 9)) : fmtV v = [] := by unfold fmtV; rw [if_neg (by omega), if_neg (by omega)]
theorem fmtV_ne (v : Int) (h : -40 ≤ v ∧ v ≤ 9) : fmtV v ≠ [] := by
  by_cases h0 : v < 0
  · rw [fmtV_null v ⟨h.1, h0⟩]; simp
  · rw [fmtV_const v ⟨by omega, h.2⟩]; exact (itoa_noPrefix v (by omega)).2
theorem fmtV_len (v : Int) : (fmtV v).length ≤ 3 := by
  by_cases h0 : -40 ≤ v ∧ v < 0
  · rw [fmtV_null v h0]
    obtain ⟨u, hu⟩ := Int.eq_ofNat_of_zero_le (a := -1 - v) (by omega)
    have := itoa_short u (by omega)
    rw [hu, List.length_cons]; omega
  · by_cases h : 0 ≤ v ∧ v ≤ 9
    · rw [fmtV_const v h]
      obtain ⟨u, rfl⟩ := Int.eq_ofNat_of_zero_le (a := v) (by omega)
      have := itoa_short u (by omega); omega
    · rw [fmtV_no v (by omega)]; simp
def isN (l : List UInt8) : Bool := Lib.hasPrefix l [110]
def numV (l : List UInt8) : List UInt8 := Lib.trimPrefix l [110]
def candV (l : List UInt8) : Int := if isN l then -1 - (parseInt (numV l)).1 else (parseInt (numV l)).1
def parseVOk (l : List UInt8) : Bool := (parseInt (numV l)).2 && (fmtV (candV l) == l)
def parseV (l : List UInt8) : Int × Bool := if parseVOk l then (candV l, true) else (0, false)
theorem parse_nil : (parseInt []).2 = false := by
  have h : parseOk [] = false := by
    cases h : parseOk [] with
    | false => rfl
    | true =>
      have h1 := (parse_some _ h).1
      obtain ⟨l, h2, _, _, h4, _⟩ := itoa_facts (cand [])
      rcases h2 with ⟨h2, _⟩ | ⟨h2, _⟩
      · rw [h1] at h2; exact absurd h2.symm h4
      · rw [h1] at h2; cases h2
  unfold parseInt; rw [h]; rfl
theorem hasN (l : List UInt8) : Lib.hasPrefix (110 :: l) [110] = true := by unfold Lib.hasPrefix; simp [List.isPrefixOf]
theorem trimN (l : List UInt8) : Lib.trimPrefix (110 :: l) [110] = l := by unfold Lib.trimPrefix; rw [hasN]; simp
theorem trim_no (l : List UInt8) (h : Lib.hasPrefix l [110] = false) : Lib.trimPrefix l [110] = l := by unfold Lib.trimPrefix; rw [h]; rfl
theorem parseV_fmt (v : Int) (h : -40 ≤ v ∧ v ≤ 9) : parseV (fmtV v) = (v, true) := by
  have hk : (parseInt (numV (fmtV v))).2 = true ∧ candV (fmtV v) = v := by
    by_cases h0 : v < 0
    · rw [fmtV_null v ⟨h.1, h0⟩]
      unfold candV isN numV
      rw [hasN, trimN, parse_itoaI _ (by omega) (by omega)]
      exact ⟨rfl, by simp; omega⟩
    · rw [fmtV_const v ⟨by omega, h.2⟩]
      unfold candV isN numV
      have := (itoa_noPrefix v (by omega)).1
      rw [this, trim_no _ this, parse_itoaI _ (by omega) (by omega)]
      exact ⟨rfl, rfl⟩
  unfold parseV parseVOk
  rw [hk.1, hk.2]; simp
theorem parseV_some (l : List UInt8) (v : Int) (h : -40 ≤ v ∧ v ≤ 9) (he : fmtV v = l) : parseV l = (v, true) := by subst he; exact parseV_fmt v h
theorem parseV_none (l : List UInt8) (h : ∀ v : Int, -40 ≤ v → v ≤ 9 → fmtV v ≠ l) : parseV l = (0, false) := by
  unfold parseV
  rw [if_neg]
  unfold parseVOk
  simp only [Bool.and_eq_true, beq_iff_eq]
  rintro ⟨h1, h2⟩
  by_cases hv : -40 ≤ candV l ∧ candV l ≤ 9
  · exact h _ hv.1 hv.2 h2
  · rw [fmtV_no _ hv] at h2
    subst h2
    have : numV [] = [] := rfl
    rw [this, parse_nil] at h1; cases h1
theorem parseV_nil : parseV [] = (0, false) := parseV_none _ (fun v h0 h1 => fmtV_ne v ⟨h0, h1⟩)
/-- what ParseValue takes is what FormatValue gives -/
theorem parseV_sound (l : List UInt8) : (parseV l).2 = true → fmtV (parseV l).1 = l ∧ -40 ≤ (parseV l).1 ∧ (parseV l).1 ≤ 9 := by
  intro h
  by_cases h1 : parseVOk l = true
  · have h2 : parseV l = (candV l, true) := by unfold parseV; rw [if_pos h1]
    rw [h2]
    unfold parseVOk at h1
    simp only [Bool.and_eq_true, beq_iff_eq] at h1
    obtain ⟨h3, h4⟩ := h1
    refine ⟨h4, ?_⟩
    by_cases hv : -40 ≤ candV l ∧ candV l ≤ 9
    · exact hv
    · rw [fmtV_no _ hv] at h4
      subst h4
      have : numV [] = [] := rfl
      rw [this, parse_nil] at h3; cases h3
  · have h2 : parseV l = (0, false) := by unfold parseV; rw [if_neg h1]
    rw [h2] at h; cases h
theorem parseV_bd (l : List UInt8) : -40 ≤ (parseV l).1 ∧ (parseV l).1 ≤ 9 := by
  cases h : (parseV l).2 with
  | true => exact (parseV_sound l h).2
  | false =>
    unfold parseV at h ⊢
    split
    · rename_i h1; rw [if_pos h1] at h; cases h
    · decide
theorem parseInt_bd (l : List UInt8) : -9223372036854775808 ≤ (parseInt l).1 ∧ (parseInt l).1 ≤ 9223372036854775806 := by
  have hb := (sc_bd 11 (l.take 11) (by simp; omega)).1
  rw [show (10 : Nat) ^ 11 = 100000000000 from rfl] at hb
  unfold parseInt
  split
  · unfold cand
    split <;> simp <;> omega
  · decide

def fmtRel (r : Rel) : List UInt8 := (if r.source then [43] else []) ++ (r.name.data.toList ++ Lib.itoa r.arity)
def joinRels (l : List Rel) : List UInt8 := Lib.join (l.map fmtRel) [32]
def fmtRels (l : List Rel) : List UInt8 := if validRels l then joinRels l else []
theorem fmtRels_no (l : List Rel) (h : validRels l = false) : fmtRels l = [] := by unfold fmtRels; rw [h]; rfl
theorem fmtRels_yes (l : List Rel) (h : validRels l = true) : fmtRels l = joinRels l := by unfold fmtRels; rw [h]; rfl
theorem joinRels_zero (l : List Rel) : joinRels (l.take 0) = [] := rfl
theorem joinRels_one (l : List Rel) (h : 0 < l.length) : joinRels (l.take 1) = fmtRel l[0] := by
  unfold joinRels
  cases l with
  | nil => simp at h
  | cons r t => simp [Lib.join_one]
theorem joinRels_succ (l : List Rel) (k : Nat) (h0 : 0 < k) (h : k < l.length) : joinRels (l.take (k + 1)) = joinRels (l.take k) ++ ([32] ++ fmtRel l[k]) := by
  unfold joinRels
  cases l with
  | nil => simp at h
  | cons r t =>
    obtain ⟨j, rfl⟩ : ∃ j, k = j + 1 := ⟨k - 1, by omega⟩
    rw [List.take_succ_cons, List.take_succ_cons, List.map_cons, List.map_cons, Lib.join_cons, Lib.join_cons, List.map_take, List.map_take]
    have hj : j < t.length := by simpa using h
    rw [Lib.joinTail_take_succ [32] (t.map fmtRel) j (fmtRel t[j]) (by simp [hj])]
    simp
/-- what a valid schema says of its relations -/
theorem validRels_len (l : List Rel) (h : validRels l = true) : l.length ≤ 6 := by
  unfold validRels at h; simp only [Bool.and_eq_true, decide_eq_true_eq] at h; exact h.2
theorem itoa_le2 (a : Int) (h0 : 0 ≤ a) (h : a < 100) : (Lib.itoa a).length ≤ 2 := by
  obtain ⟨u, rfl⟩ := Int.eq_ofNat_of_zero_le h0
  exact itoa_short u (by omega)
theorem fmtRel_len (r : Rel) (h : relOk r.name r.arity = true) : (fmtRel r).length ≤ 4 := by
  obtain ⟨h1, h2, h3⟩ := relOk_bd _ _ h
  have h4 := itoa_le2 r.arity (by omega) (by omega)
  have h5 : r.name.data.toList.length = 1 := by simpa using h1
  unfold fmtRel
  rw [List.length_append, List.length_append, h5]
  split <;> simp <;> omega
theorem joinRels_len (l : List Rel) (h : validRels l = true) (k : Nat) (hk : k ≤ l.length) : (joinRels (l.take k)).length ≤ 5 * k := by
  induction k with
  | zero => exact Nat.le_of_eq (congrArg List.length (joinRels_zero l))
  | succ k ih =>
    have h1 := fmtRel_len l[k] (validRels_at l h k (by omega))
    rcases Nat.eq_zero_or_pos k with h0 | h0
    · subst h0; rw [joinRels_one l (by omega)]; omega
    · rw [joinRels_succ l k h0 (by omega)]
      have := ih (by omega)
      simp only [List.length_append, List.length_cons, List.length_nil]; omega
theorem mk_self (s : ByteArray) : s = ⟨s.data.toList.toArray⟩ := by simp
/-- the text of the first k + 1 relations, as the loop builds it -/
theorem joinStep (l : List Rel) (k : Nat) (h : k < l.length) (p : ByteArray) (hp : p.data.toList = (if k = 0 then [] else [32]) ++ (if l[k].source then [43] else [])) :
    (((⟨(joinRels (l.take k)).toArray⟩ : ByteArray) ++ p) ++ l[k].name) ++ ⟨(Lib.itoa l[k].arity).toArray⟩ = ⟨(joinRels (l.take (k + 1))).toArray⟩ := by
  apply bytes_ext
  rcases Nat.eq_zero_or_pos k with h0 | h0
  · subst h0
    rw [joinRels_one l h]
    simp [hp, fmtRel, ByteArray.data_append]
    rfl
  · rw [joinRels_succ l k h0 h]
    simp [hp, fmtRel, ByteArray.data_append, show k ≠ 0 by omega]
theorem fmtRels_len (l : List Rel) : (fmtRels l).length ≤ 30 := by
  cases h : validRels l with
  | false => rw [fmtRels_no l h]; simp
  | true =>
    rw [fmtRels_yes l h]
    have h1 := joinRels_len l h l.length (Nat.le_refl _)
    rw [List.take_length] at h1
    have := validRels_len l h
    omega

/-- a text cut at every byte c -/
def withHead (p : List UInt8) : List (List UInt8) → List (List UInt8)
  | [] => [p]
  | h :: t => (p ++ h) :: t
def cutA (c : UInt8) : List UInt8 → List (List UInt8)
  | [] => [[]]
  | b :: r => if b = c then [] :: cutA c r else withHead [b] (cutA c r)
/-- .. at the first k of them -/
def cutN (c : UInt8) : Nat → List UInt8 → List (List UInt8)
  | _, [] => [[]]
  | 0, b :: r => [b :: r]
  | k + 1, b :: r => if b = c then [] :: cutN c k r else withHead [b] (cutN c (k + 1) r)
theorem cutA_cons (c : UInt8) (b : UInt8) (r : List UInt8) : cutA c (b :: r) = if b = c then [] :: cutA c r else withHead [b] (cutA c r) := rfl
theorem cutN_succ (c : UInt8) (k : Nat) (b : UInt8) (r : List UInt8) : cutN c (k + 1) (b :: r) = if b = c then [] :: cutN c k r else withHead [b] (cutN c (k + 1) r) := rfl
theorem splitK_succ (c : UInt8) (k : Nat) (s : List UInt8) : Lib.splitK [c] 0 (k + 1) s = if Lib.index s [c] == -1 then [s] else s.take ((Lib.index s [c]).toNat + 0) :: Lib.splitK [c] 0 k (s.drop ((Lib.index s [c]).toNat + 1)) := rfl
theorem withHead_ne (p : List UInt8) (l : List (List UInt8)) : withHead p l ≠ [] := by cases l <;> simp [withHead]
theorem withHead_len (p : List UInt8) (l : List (List UInt8)) (h : l ≠ []) : (withHead p l).length = l.length := by
  cases l with
  | nil => exact absurd rfl h
  | cons => rfl
theorem withHead_nil (l : List (List UInt8)) (h : l ≠ []) : withHead [] l = l := by
  cases l with
  | nil => exact absurd rfl h
  | cons => rfl
theorem withHead_withHead (p q : List UInt8) (l : List (List UInt8)) : withHead p (withHead q l) = withHead (p ++ q) l := by cases l <;> simp [withHead]
theorem cutA_ne (c : UInt8) (s : List UInt8) : cutA c s ≠ [] := by
  cases s with
  | nil => simp [cutA]
  | cons b r =>
    rw [cutA_cons]
    split
    · simp
    · exact withHead_ne _ _
theorem cutN_ne (c : UInt8) (k : Nat) (s : List UInt8) : cutN c k s ≠ [] := by
  cases s with
  | nil => simp [cutN]
  | cons b r =>
    cases k with
    | zero => simp [cutN]
    | succ k =>
      rw [cutN_succ]
      split
      · simp
      · exact withHead_ne _ _
theorem cutA_len (c : UInt8) (s : List UInt8) : (cutA c s).length ≤ s.length + 1 := by
  induction s with
  | nil => simp [cutA]
  | cons b r ih =>
    unfold cutA
    split
    · simp; exact ih
    · rw [withHead_len _ _ (cutA_ne c r)]; simp; omega
theorem cutN_len (c : UInt8) (k : Nat) (s : List UInt8) : (cutN c k s).length = min (k + 1) (cutA c s).length := by
  induction s generalizing k with
  | nil => simp [cutN, cutA]
  | cons b r ih =>
    cases k with
    | zero =>
      have : 0 < (cutA c (b :: r)).length := List.length_pos_iff.2 (cutA_ne c _)
      simp only [cutN, List.length_singleton]; omega
    | succ k =>
      rw [cutN_succ, cutA_cons]
      split
      · simp [ih]
      · rw [withHead_len _ _ (cutN_ne c _ r), withHead_len _ _ (cutA_ne c r), ih]
theorem cutN_all (c : UInt8) (k : Nat) (s : List UInt8) (h : (cutA c s).length ≤ k + 1) : cutN c k s = cutA c s := by
  induction s generalizing k with
  | nil => simp [cutN, cutA]
  | cons b r ih =>
    cases k with
    | zero =>
      have h' := h
      rw [cutA_cons] at h'
      split at h'
      · have : 0 < (cutA c r).length := List.length_pos_iff.2 (cutA_ne c _)
        simp only [List.length_cons] at h'
        omega
      · rename_i hb
        rw [withHead_len _ _ (cutA_ne c r)] at h'
        have e := ih 0 h'
        have e2 : cutN c 0 r = [r] := by cases r <;> rfl
        rw [e2] at e
        show [b :: r] = cutA c (b :: r)
        rw [cutA_cons, if_neg hb, ← e]; rfl
    | succ k =>
      have h' := h
      rw [cutA_cons] at h'
      rw [cutN_succ, cutA_cons]
      split
      · rename_i hb
        rw [if_pos hb] at h'
        rw [ih k (by simpa using h')]
      · rename_i hb
        rw [if_neg hb, withHead_len _ _ (cutA_ne c r)] at h'
        rw [ih (k + 1) h']
theorem join_cutA (c : UInt8) (s : List UInt8) : Lib.join (cutA c s) [c] = s := by
  induction s with
  | nil => rfl
  | cons b r ih =>
    have hne := cutA_ne c r
    rw [cutA_cons]
    cases hc : cutA c r with
    | nil => exact absurd hc hne
    | cons h t =>
      rw [hc, Lib.join_cons] at ih
      split
      · rename_i hb
        rw [Lib.join_cons]
        simp [Lib.joinTail, hb] at ih ⊢
        exact ih
      · show Lib.join (([b] ++ h) :: t) [c] = b :: r
        rw [Lib.join_cons]
        simp [ih]
theorem cutA_plain (c : UInt8) (p : List UInt8) (h : c ∉ p) : cutA c p = [p] := by
  induction p with
  | nil => rfl
  | cons b r ih =>
    rw [cutA_cons, if_neg (fun e => h (by simp [e])), ih (fun e => h (by simp [e]))]
    rfl
theorem cutA_app (c : UInt8) (p r : List UInt8) (h : c ∉ p) : cutA c (p ++ c :: r) = p :: cutA c r := by
  induction p with
  | nil => simp [cutA]
  | cons b q ih =>
    rw [List.cons_append]
    rw [cutA_cons, if_neg (fun e => h (by simp [e])), ih (fun e => h (by simp [e]))]
    rfl
theorem cutA_join (c : UInt8) (x : List UInt8) (r : List (List UInt8)) (h : ∀ p ∈ x :: r, c ∉ p) : cutA c (Lib.join (x :: r) [c]) = x :: r := by
  induction r generalizing x with
  | nil => rw [Lib.join_one]; exact cutA_plain c x (h x (by simp))
  | cons y t ih =>
    have e : Lib.join (x :: y :: t) [c] = x ++ c :: Lib.join (y :: t) [c] := by
      rw [Lib.join_cons, Lib.join_cons]; simp [Lib.joinTail]
    rw [e, cutA_app c x _ (h x (by simp)), ih y (fun p hp => h p (by simp at hp ⊢; exact .inr hp))]
theorem index_cons_eq (c : UInt8) (r : List UInt8) : Lib.index (c :: r) [c] = 0 := by rw [Lib.index]; simp [List.isPrefixOf]
theorem index_cons_ne (c : UInt8) (b : UInt8) (r : List UInt8) (h : ¬ b = c) : Lib.index (b :: r) [c] = if Lib.index r [c] == -1 then -1 else Lib.index r [c] + 1 := by
  rw [Lib.index, if_neg]
  simp [List.isPrefixOf]
  exact fun e => h e.symm
theorem splitK_cutN (c : UInt8) (k : Nat) (s : List UInt8) : Lib.splitK [c] 0 k s = cutN c k s := by
  induction s generalizing k with
  | nil => cases k <;> rfl
  | cons b r ih =>
    cases k with
    | zero => rfl
    | succ k =>
      rw [splitK_succ, cutN_succ]
      by_cases hb : b = c
      · subst hb
        rw [index_cons_eq, if_pos rfl, if_neg (by decide)]
        simp [ih]
      · rw [if_neg hb, index_cons_ne c b r hb, ← ih (k + 1), splitK_succ]
        have hge := Lib.index_ge r [c]
        by_cases hm : Lib.index r [c] = -1
        · rw [hm]; rfl
        · obtain ⟨j, hj⟩ : ∃ j : Nat, Lib.index r [c] = j := ⟨(Lib.index r [c]).toNat, by omega⟩
          have n1 : ((j : Int) == -1) = false := beq_eq_false_iff_ne.2 (by omega)
          have n2 : ((j : Int) + 1 == -1) = false := beq_eq_false_iff_ne.2 (by omega)
          have n3 : ((j : Int) + 1).toNat = j + 1 := by omega
          rw [hj]
          simp only [n1, n2, n3, Bool.false_eq_true, if_false, Int.toNat_natCast, Nat.add_zero]
          rfl
/-- what the loop of the model's cut keeps -/
def CutInv (c : UInt8) (s : List UInt8) (done : List (List UInt8)) (frm i : Nat) : Prop := frm ≤ i ∧ i ≤ s.length ∧ cutA c s = done ++ withHead ((s.take i).drop frm) (cutA c (s.drop i))
theorem CutInv.zero (c : UInt8) (s : List UInt8) : CutInv c s [] 0 0 := ⟨Nat.le_refl _, Nat.zero_le _, by simp [withHead_nil _ (cutA_ne c s)]⟩
theorem CutInv.hit {c : UInt8} {s : List UInt8} {done : List (List UInt8)} {frm i : Nat} (h : CutInv c s done frm i) (hi : i < s.length) (hb : s[i] = c) : CutInv c s (done ++ [(s.take i).drop frm]) (i + 1) (i + 1) := by
  refine ⟨Nat.le_refl _, hi, ?_⟩
  rw [h.2.2, List.drop_eq_getElem_cons hi]
  conv => lhs; rw [cutA]
  rw [if_pos hb, List.drop_eq_nil_of_le (List.length_take_le _ _), withHead_nil _ (cutA_ne c _)]
  simp [withHead]
theorem CutInv.miss {c : UInt8} {s : List UInt8} {done : List (List UInt8)} {frm i : Nat} (h : CutInv c s done frm i) (hi : i < s.length) (hb : ¬ s[i] = c) : CutInv c s done frm (i + 1) := by
  refine ⟨Nat.le_succ_of_le h.1, hi, ?_⟩
  rw [h.2.2, List.drop_eq_getElem_cons hi]
  conv => lhs; rw [cutA]
  rw [if_neg hb, withHead_withHead, List.take_succ_eq_append_getElem hi, List.drop_append_of_le_length (by rw [List.length_take]; have := h.1; omega)]
theorem CutInv.done {c : UInt8} {s : List UInt8} {done : List (List UInt8)} {frm i : Nat} (h : CutInv c s done frm i) (hi : i = s.length) : cutA c s = done ++ [s.drop frm] := by
  subst hi
  rw [h.2.2]; simp [cutA, withHead]
theorem cutN_piece (c : UInt8) (k : Nat) (s p : List UInt8) (h : p ∈ cutN c k s) : p.length ≤ s.length := by
  induction s generalizing k p with
  | nil => cases k <;> simp [cutN] at h <;> subst h <;> simp
  | cons b r ih =>
    cases k with
    | zero => simp [cutN] at h; subst h; simp
    | succ k =>
      rw [cutN_succ] at h
      split at h
      · simp only [List.mem_cons] at h
        rcases h with rfl | h
        · simp
        · have := ih k p h; simp; omega
      · cases hc : cutN c (k + 1) r with
        | nil => exact absurd hc (cutN_ne c _ _)
        | cons x t =>
          rw [hc] at h
          simp only [withHead, List.mem_cons] at h
          rcases h with rfl | h
          · have := ih (k + 1) x (by rw [hc]; simp)
            simp; omega
          · have := ih (k + 1) p (by rw [hc]; simp [h])
            simp; omega

def dataOf (l : List ByteArray) : List (List UInt8) := l.map (·.data.toList)
theorem dataOf_snoc (l : List ByteArray) (x : ByteArray) : dataOf (l ++ [x]) = dataOf l ++ [x.data.toList] := by simp [dataOf]
theorem dataOf_len (l : List ByteArray) : (dataOf l).length = l.length := by simp [dataOf]
theorem dataOf_at (l : List ByteArray) (k : Nat) (h : k < l.length) : (dataOf l)[k]'(by rw [dataOf_len]; exact h) = l[k].data.toList := by simp [dataOf]

/-- a piece of a schema's text, as the model reads it -/
def specTok (t : List UInt8) : Option Rel :=
  let u := if t.head? = some 43 then t.drop 1 else t
  match u with
  | [n, a] => some ⟨⟨#[n]⟩, (a.toNat : Int) - 48, decide (t.head? = some 43)⟩
  | _ => none
/-- .. as the program reads it -/
def implTok (t : List UInt8) : Option Rel :=
  match Lib.trimPrefix t [43] with
  | [] => none
  | n :: r => if (parseInt r).2 then some ⟨⟨#[n]⟩, (parseInt r).1, Lib.hasPrefix t [43]⟩ else none
def toks (f : List UInt8 → Option Rel) : List (List UInt8) → Option (List Rel)
  | [] => some []
  | t :: r => match f t, toks f r with
    | some a, some l => some (a :: l)
    | _, _ => none
theorem toks_none (f : List UInt8 → Option Rel) (a b : List (List UInt8)) (t : List UInt8) (h : f t = none) : toks f (a ++ t :: b) = none := by
  induction a with
  | nil => simp [toks, h]
  | cons x r ih =>
    rw [List.cons_append, toks, ih]
    cases f x <;> rfl
theorem toks_snoc (f : List UInt8 → Option Rel) (a : List (List UInt8)) (t : List UInt8) (l : List Rel) (r : Rel) (h : toks f a = some l) (ht : f t = some r) : toks f (a ++ [t]) = some (l ++ [r]) := by
  induction a generalizing l with
  | nil => simp [toks] at h; subst h; simp [toks, ht]
  | cons x q ih =>
    rw [toks] at h
    cases hx : f x with
    | none => rw [hx] at h; cases h
    | some y =>
      cases hq : toks f q with
      | none => rw [hx, hq] at h; cases h
      | some m =>
        rw [hx, hq] at h
        cases h
        rw [List.cons_append, toks, hx, ih m hq]
        rfl
theorem toks_len (f : List UInt8 → Option Rel) (a : List (List UInt8)) (l : List Rel) (h : toks f a = some l) : l.length = a.length := by
  induction a generalizing l with
  | nil => simp [toks] at h; subst h; rfl
  | cons x q ih =>
    rw [toks] at h
    cases hx : f x with
    | none => rw [hx] at h; cases h
    | some y =>
      cases hq : toks f q with
      | none => rw [hx, hq] at h; cases h
      | some m =>
        rw [hx, hq] at h
        cases h
        simp [ih m hq]
theorem toks_fmt (f : List UInt8 → Option Rel) (l : List Rel) (h : ∀ r ∈ l, f (fmtRel r) = some r) : toks f (l.map fmtRel) = some l := by
  induction l with
  | nil => rfl
  | cons r t ih => rw [List.map_cons, toks, h r (by simp), ih (fun x hx => h x (by simp [hx]))]
theorem toks_back (f : List UInt8 → Option Rel) (hf : ∀ t r, f t = some r → fmtRel r = t) (a : List (List UInt8)) (l : List Rel) (h : toks f a = some l) : l.map fmtRel = a := by
  induction a generalizing l with
  | nil => simp [toks] at h; subst h; rfl
  | cons x q ih =>
    rw [toks] at h
    cases hx : f x with
    | none => rw [hx] at h; cases h
    | some y =>
      cases hq : toks f q with
      | none => rw [hx, hq] at h; cases h
      | some m =>
        rw [hx, hq] at h
        cases h
        rw [List.map_cons, ih m hq, hf x y hx]
/-- what ParseRelations gives at a text that is not empty: its relations, or nothing -/
def parseRels (s : List UInt8) : Option (List Rel) := match toks specTok (cutA 32 s) with
  | some l => if fmtRels l = s then some l else none
  | none => none
theorem itoa_digit (a : Int) (h0 : 1 ≤ a) (h1 : a ≤ 3) : Lib.itoa a = [UInt8.ofNat (48 + a.toNat)] := by
  obtain ⟨u, rfl⟩ := Int.eq_ofNat_of_zero_le (a := a) (by omega)
  rw [itoa_pos, decDigits_rec, if_pos (by omega), Int.toNat_natCast]
theorem name_one (s : ByteArray) (h : s.size = 1) : ∃ c, s = ⟨#[c]⟩ := by
  obtain ⟨⟨l⟩⟩ := s
  match l, h with
  | [c], _ => exact ⟨c, rfl⟩
/-- a valid relation: its letter, its digit -/
theorem relOk_form (r : Rel) (h : relOk r.name r.arity = true) : ∃ c : UInt8, r.name = ⟨#[c]⟩ ∧ 97 ≤ c.toNat ∧ c.toNat ≤ 122 ∧ 1 ≤ r.arity ∧ r.arity ≤ 3 := by
  obtain ⟨h1, h2, h3⟩ := relOk_bd _ _ h
  obtain ⟨c, hc⟩ := name_one _ h1
  refine ⟨c, hc, ?_, ?_, h2, h3⟩
  all_goals
    unfold relOk at h
    rw [hc] at h
    simp only [Bool.and_eq_true] at h
    have := h.1
    simp [nameOk] at this
    omega
theorem ne_of_toNat {c : UInt8} {n : Nat} (hn : n < 256) (h : c.toNat ≠ n) : ¬ c = UInt8.ofNat n := by
  rintro rfl
  exact h (by rw [UInt8.toNat_ofNat', Nat.mod_eq_of_lt hn])
theorem fmtRel_form (r : Rel) (c : UInt8) (hc : r.name = ⟨#[c]⟩) (h0 : 1 ≤ r.arity) (h1 : r.arity ≤ 3) : fmtRel r = (if r.source then [43] else []) ++ [c, UInt8.ofNat (48 + r.arity.toNat)] := by
  unfold fmtRel; rw [hc, itoa_digit _ h0 h1]; rfl
theorem specTok_fmt (r : Rel) (h : relOk r.name r.arity = true) : specTok (fmtRel r) = some r := by
  obtain ⟨c, hc, c0, c1, h0, h1⟩ := relOk_form r h
  rw [fmtRel_form r c hc h0 h1]
  have hd : ((UInt8.ofNat (48 + r.arity.toNat)).toNat : Int) - 48 = r.arity := by
    rw [UInt8.toNat_ofNat', Nat.mod_eq_of_lt (by omega)]; omega
  have hne : ¬ c = 43 := by have := ne_of_toNat (c := c) (n := 43) (by omega) (by omega); simpa using this
  cases r with
  | mk name arity source =>
    cases source with
    | true => simp only [specTok, if_true, List.cons_append, List.nil_append, List.head?_cons, List.drop_succ_cons, List.drop_zero, decide_true, hd]; rw [← hc]
    | false =>
      have e : ¬ (some c = some (43 : UInt8)) := fun e => hne (by injection e)
      simp only [specTok, Bool.false_eq_true, if_false, List.nil_append, List.head?_cons, e, decide_false, hd]; rw [← hc]
theorem implTok_fmt (r : Rel) (h : relOk r.name r.arity = true) : implTok (fmtRel r) = some r := by
  obtain ⟨c, hc, c0, c1, h0, h1⟩ := relOk_form r h
  have hp : parseInt (Lib.itoa r.arity) = (r.arity, true) := parse_itoaI _ (by omega) (by omega)
  have hne : ¬ c = 43 := by have := ne_of_toNat (c := c) (n := 43) (by omega) (by omega); simpa using this
  have ef : fmtRel r = (if r.source then [43] else []) ++ (c :: Lib.itoa r.arity) := by unfold fmtRel; rw [hc]; rfl
  have hn : ∀ l : List UInt8, Lib.hasPrefix (c :: l) [43] = false := fun l => by
    unfold Lib.hasPrefix; simp [List.isPrefixOf]; exact fun e => hne e.symm
  have hy : ∀ l : List UInt8, Lib.hasPrefix (43 :: l) [43] = true := fun l => by unfold Lib.hasPrefix; simp [List.isPrefixOf]
  rw [ef]
  cases r with
  | mk name arity source =>
    simp only at hc hp
    cases source with
    | true => simp [implTok, Lib.trimPrefix, hy, hp, hc]
    | false => simp [implTok, Lib.trimPrefix, hn, hp, hc]
/-- what the program reads as a valid relation is that relation's text -/
theorem implTok_sound (t : List UInt8) (r : Rel) (h : implTok t = some r) : fmtRel r = t := by
  unfold implTok at h
  have key : ∀ n rest, Lib.trimPrefix t [43] = n :: rest → (if Lib.hasPrefix t [43] then [43] else []) ++ n :: rest = t := by
    intro n rest e
    unfold Lib.trimPrefix at e
    cases hp : Lib.hasPrefix t [43] with
    | true =>
      rw [hp] at e
      unfold Lib.hasPrefix at hp
      cases t with
      | nil => simp at hp
      | cons b u =>
        simp [List.isPrefixOf] at hp
        subst hp
        simp at e ⊢
        exact e.symm
    | false => rw [hp] at e; simpa using e.symm
  cases ht : Lib.trimPrefix t [43] with
  | nil => rw [ht] at h; cases h
  | cons n rest =>
    rw [ht] at h
    simp only at h
    split at h
    · rename_i hok
      cases h
      have := key n rest ht
      have hpo : parseOk rest = true := by
        cases hq : parseOk rest with
        | true => rfl
        | false => unfold parseInt at hok; rw [hq] at hok; cases hok
      have hi := (parse_some _ hpo).1
      have hv : (parseInt rest).1 = cand rest := by unfold parseInt; rw [hpo]; rfl
      show (if Lib.hasPrefix t [43] then [43] else []) ++ ([n] ++ Lib.itoa (parseInt rest).1) = t
      rw [hv, hi]
      exact this
    · cases h
theorem fmtRel_plain (r : Rel) (h : relOk r.name r.arity = true) : (32 : UInt8) ∉ fmtRel r := by
  obtain ⟨c, hc, c0, c1, h0, h1⟩ := relOk_form r h
  rw [fmtRel_form r c hc h0 h1]
  have n1 : ¬ c = 32 := by have := ne_of_toNat (c := c) (n := 32) (by omega) (by omega); simpa using this
  have n2 : ¬ (UInt8.ofNat (48 + r.arity.toNat)) = 32 := by
    have := ne_of_toNat (c := UInt8.ofNat (48 + r.arity.toNat)) (n := 32) (by omega) (by rw [UInt8.toNat_ofNat', Nat.mod_eq_of_lt (by omega)]; omega)
    simpa using this
  intro hm
  simp only [List.mem_append, List.mem_cons, List.not_mem_nil, or_false] at hm
  rcases hm with hm | hm | hm
  · split at hm
    · simp at hm
    · simp at hm
  · exact n1 hm.symm
  · exact n2 hm.symm
theorem validRels_mem (l : List Rel) (h : validRels l = true) (r : Rel) (hr : r ∈ l) : relOk r.name r.arity = true := by
  obtain ⟨i, hi, rfl⟩ := List.getElem_of_mem hr
  exact validRels_at l h i hi
theorem cut_fmt (l : List Rel) (h : validRels l = true) (hne : l ≠ []) : cutA 32 (joinRels l) = l.map fmtRel := by
  cases l with
  | nil => exact absurd rfl hne
  | cons r t =>
    unfold joinRels
    rw [List.map_cons]
    refine cutA_join 32 _ _ (fun p hp => ?_)
    rw [← List.map_cons] at hp
    obtain ⟨q, hq, rfl⟩ := List.mem_map.1 hp
    exact fmtRel_plain q (validRels_mem _ h q hq)
theorem parse_iff (s : List UInt8) (hs : s ≠ []) (l : List Rel) : parseRels s = some l ↔ validRels l = true ∧ fmtRels l = s := by
  constructor
  · intro h
    unfold parseRels at h
    cases ht : toks specTok (cutA 32 s) with
    | none => rw [ht] at h; cases h
    | some m =>
      rw [ht] at h
      simp only at h
      split at h
      · rename_i hm
        cases h
        refine ⟨?_, hm⟩
        cases hv : validRels l with
        | true => rfl
        | false => rw [fmtRels_no l hv] at hm; exact absurd hm.symm hs
      · cases h
  · rintro ⟨hv, hf⟩
    have hj := hf
    rw [fmtRels_yes l hv] at hj
    have hne : l ≠ [] := by rintro rfl; exact hs hj.symm
    have hc := cut_fmt l hv hne
    rw [hj] at hc
    unfold parseRels
    rw [hc, toks_fmt specTok l (fun r hr => specTok_fmt r (validRels_mem l hv r hr))]
    simp [hf]
/-- the program's way -/
def implRels (s : List UInt8) : Option (List Rel) := match toks implTok (cutN 32 (min 7 (s.length + 1) - 1) s) with
  | some l => if validRels l then some l else none
  | none => none
theorem implRels_eq (s : List UInt8) (hs : s ≠ []) : implRels s = parseRels s := by
  apply Option.ext
  intro l
  rw [parse_iff s hs l]
  have hcl := cutA_len 32 s
  have hnl := cutN_len 32 (min 7 (s.length + 1) - 1) s
  constructor
  · intro h
    unfold implRels at h
    cases ht : toks implTok (cutN 32 (min 7 (s.length + 1) - 1) s) with
    | none => rw [ht] at h; cases h
    | some m =>
      rw [ht] at h
      simp only at h
      split at h
      · rename_i hv
        cases h
        have h6 := validRels_len l hv
        have hl := toks_len _ _ _ ht
        have he : cutN 32 (min 7 (s.length + 1) - 1) s = cutA 32 s := cutN_all 32 _ s (by omega)
        have hb := toks_back implTok implTok_sound _ _ ht
        refine ⟨hv, ?_⟩
        rw [fmtRels_yes l hv]
        unfold joinRels
        rw [hb, he, join_cutA]
      · cases h
  · rintro ⟨hv, hf⟩
    have hj := hf
    rw [fmtRels_yes l hv] at hj
    have hne : l ≠ [] := by rintro rfl; exact hs hj.symm
    have hc := cut_fmt l hv hne
    rw [hj] at hc
    have h6 := validRels_len l hv
    have hlen : (cutA 32 s).length ≤ 6 := by rw [hc, List.length_map]; exact h6
    have he : cutN 32 (min 7 (s.length + 1) - 1) s = cutA 32 s := cutN_all 32 _ s (by omega)
    unfold implRels
    rw [he, hc, toks_fmt implTok l (fun r hr => implTok_fmt r (validRels_mem l hv r hr))]
    simp [hv]
theorem parse_stop (s : List UInt8) (k : Nat) (hk : k < (cutA 32 s).length) (h : specTok (cutA 32 s)[k] = none) : parseRels s = none := by
  have e : cutA 32 s = (cutA 32 s).take k ++ (cutA 32 s)[k] :: (cutA 32 s).drop (k + 1) := by rw [← List.drop_eq_getElem_cons hk, List.take_append_drop]
  unfold parseRels
  rw [e, toks_none specTok _ _ _ h]
theorem toks_next (f : List UInt8 → Option Rel) (P : List (List UInt8)) (k : Nat) (hk : k < P.length) (l : List Rel) (r : Rel) (h : toks f (P.take k) = some l) (ht : f P[k] = some r) : toks f (P.take (k + 1)) = some (l ++ [r]) := by
  rw [List.take_succ_eq_append_getElem hk]; exact toks_snoc f _ _ l r h ht
theorem specTok_three (n a : UInt8) : specTok [43, n, a] = some ⟨⟨#[n]⟩, (a.toNat : Int) - 48, true⟩ := by simp [specTok]
theorem specTok_two (n a : UInt8) (h : ¬ n = 43) : specTok [n, a] = some ⟨⟨#[n]⟩, (a.toNat : Int) - 48, false⟩ := by simp [specTok, h]
theorem specTok_plus (r : List UInt8) (h : r.length ≠ 2) : specTok (43 :: r) = none := by
  match r, h with
  | [], _ => rfl
  | [_], _ => rfl
  | _ :: _ :: _ :: _, _ => rfl
theorem specTok_no (t : List UInt8) (h : t.head? ≠ some 43) (hl : t.length ≠ 2) : specTok t = none := by
  unfold specTok
  simp only [h, if_false]
  match t, hl with
  | [], _ => rfl
  | [_], _ => rfl
  | _ :: _ :: _ :: _, _ => rfl
theorem parse_end (s : List UInt8) (l : List Rel) (h : toks specTok (cutA 32 s) = some l) : parseRels s = if fmtRels l = s then some l else none := by
  unfold parseRels; rw [h]

end Go.Proofs.YtmecdjincmkofaaGreatDoor
