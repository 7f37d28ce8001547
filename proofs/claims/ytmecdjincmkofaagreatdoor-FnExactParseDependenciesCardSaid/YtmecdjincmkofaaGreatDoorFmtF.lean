/-
  Walks and plain lemmas for the laws of this seat: what single Go functions return, for every argument.
-/
import Derived.Lib.IndexMore
import Derived.Test.YtmecdjincmkofaaGreatDoorShelf
import Derived.Lib.LaidTab
import Derived.Lib.AppendIntMem
import Derived.Lib.AtoiTie
import Derived.Lib.Strings
import Derived.Lib.AtoiErrMem
import Derived.Lib.AtoiBound
import Derived.ShapedOpen
import Derived.Test.YtmecdjincmkofaaGreatDoorBase
import Derived.Test.YtmecdjincmkofaaGreatDoorPlan
import Derived.Test.YtmecdjincmkofaaGreatDoorInts
import Derived.Test.YtmecdjincmkofaaGreatDoorRels
import Derived.Test.YtmecdjincmkofaaGreatDoorRelsC
import Derived.Test.YtmecdjincmkofaaGreatDoorFmtS
namespace Go.Proofs.YtmecdjincmkofaaGreatDoor
open Go.RowKit

def bodyF (n : List UInt8) (vs : List Int) : List UInt8 := n ++ (40 :: (Lib.join (vs.map fmtV) [44] ++ [41]))
def fmtFact (l : List Rel) (r : Int) (vs : List Int) : List UInt8 := if factOk l r vs then bodyF (l.getD r.toNat zeroRel).name.data.toList vs else []
theorem fmtFact_no {l : List Rel} {r : Int} {vs : List Int} (h : factOk l r vs = false) : fmtFact l r vs = [] := by unfold fmtFact; rw [h]; rfl
theorem fmtFact_yes {l : List Rel} {r : Int} {vs : List Int} (h : factOk l r vs = true) : fmtFact l r vs = bodyF (l.getD r.toNat zeroRel).name.data.toList vs := by unfold fmtFact; rw [h]; rfl
theorem fmtFact_ne {l : List Rel} {r : Int} {vs : List Int} : fmtFact l r vs ≠ [] ↔ factOk l r vs = true := by
  constructor
  · intro h
    cases hf : factOk l r vs with
    | true => rfl
    | false => exact absurd (fmtFact_no hf) h
  · intro h
    rw [fmtFact_yes h]; unfold bodyF; simp
theorem itoa_nat (u : Nat) (h : u < 100) : ∀ b ∈ Lib.itoa (u : Int), 48 ≤ b.toNat ∧ b.toNat ≤ 57 := by
  rw [itoa_pos, decDigits_rec]
  have key : ∀ d, d < 10 → 48 ≤ (UInt8.ofNat (48 + d)).toNat ∧ (UInt8.ofNat (48 + d)).toNat ≤ 57 := by
    intro d hd
    rw [UInt8.toNat_ofNat', Nat.mod_eq_of_lt (by omega)]; omega
  split
  · intro b hb; rw [List.mem_singleton.1 hb]; exact key _ (by omega)
  · rw [decDigits_rec, if_pos (by omega)]
    intro b hb
    rcases List.mem_append.1 hb with hb | hb
    · rw [List.mem_singleton.1 hb]; exact key _ (by omega)
    · rw [List.mem_singleton.1 hb]; exact key _ (by omega)
/-- a value's text: 'n' and digits, or digits -/
theorem fmtV_bytes (v : Int) : ∀ b ∈ fmtV v, b = 110 ∨ 48 ≤ b.toNat ∧ b.toNat ≤ 57 := by
  intro b hb
  by_cases h0 : -40 ≤ v ∧ v < 0
  · rw [fmtV_null v h0] at hb
    rcases List.mem_cons.1 hb with rfl | hb
    · exact .inl rfl
    · obtain ⟨u, hu⟩ := Int.eq_ofNat_of_zero_le (a := -1 - v) (by omega)
      rw [hu] at hb
      exact .inr (itoa_nat u (by omega) b hb)
  · by_cases h : 0 ≤ v ∧ v ≤ 9
    · rw [fmtV_const v h] at hb
      obtain ⟨u, rfl⟩ := Int.eq_ofNat_of_zero_le (a := v) (by omega)
      exact .inr (itoa_nat u (by omega) b hb)
    · rw [fmtV_no v (by omega)] at hb; simp at hb
theorem fmtV_plain (v : Int) (c : UInt8) (hc : c ≠ 110) (hc2 : ¬(48 ≤ c.toNat ∧ c.toNat ≤ 57)) : c ∉ fmtV v := by
  intro h
  rcases fmtV_bytes v c h with h | h
  · exact hc h
  · exact hc2 h
theorem vals_cut (vs : List Int) (h : vs ≠ []) : cutA 44 (Lib.join (vs.map fmtV) [44]) = vs.map fmtV := by
  cases vs with
  | nil => exact absurd rfl h
  | cons v t =>
    rw [List.map_cons]
    refine cutA_join 44 _ _ (fun p hp => ?_)
    rw [← List.map_cons] at hp
    obtain ⟨q, _, rfl⟩ := List.mem_map.1 hp
    exact fmtV_plain q 44 (by decide) (by decide)
/-- the text of the first k values -/
def joinVals (vs : List Int) : List UInt8 := Lib.join (vs.map fmtV) [44]
theorem joinVals_one (vs : List Int) (h : 0 < vs.length) : joinVals (vs.take 1) = fmtV vs[0] := by
  unfold joinVals
  cases vs with
  | nil => simp at h
  | cons r t => simp [Lib.join_one]
theorem joinVals_succ (l : List Int) (k : Nat) (h0 : 0 < k) (h : k < l.length) : joinVals (l.take (k + 1)) = joinVals (l.take k) ++ ([44] ++ fmtV l[k]) := by
  unfold joinVals
  cases l with
  | nil => simp at h
  | cons r t =>
    obtain ⟨j, rfl⟩ : ∃ j, k = j + 1 := ⟨k - 1, by omega⟩
    rw [List.take_succ_cons, List.take_succ_cons, List.map_cons, List.map_cons, Lib.join_cons, Lib.join_cons, List.map_take, List.map_take]
    have hj : j < t.length := by simpa using h
    rw [Lib.joinTail_take_succ [44] (t.map fmtV) j (fmtV t[j]) (by simp [hj])]
    simp
theorem joinVals_len (l : List Int) (k : Nat) (hk : k ≤ l.length) : (joinVals (l.take k)).length ≤ 4 * k := by
  induction k with
  | zero => exact Nat.le_of_eq rfl
  | succ k ih =>
    have h1 := fmtV_len l[k]
    rcases Nat.eq_zero_or_pos k with h0 | h0
    · subst h0; rw [joinVals_one l (by omega)]; omega
    · rw [joinVals_succ l k h0 (by omega)]
      have := ih (by omega)
      simp only [List.length_append, List.length_cons, List.length_nil]; omega
/-- all pieces read as values -/
def toVals : List (List UInt8) → Option (List Int)
  | [] => some []
  | t :: r => if (parseV t).2 then (toVals r).map ((parseV t).1 :: ·) else none
theorem toVals_fmt (vs : List Int) (h : ∀ v ∈ vs, -40 ≤ v ∧ v ≤ 9) : toVals (vs.map fmtV) = some vs := by
  induction vs with
  | nil => rfl
  | cons v t ih => rw [List.map_cons, toVals, parseV_fmt v (h v (by simp)), ih (fun x hx => h x (by simp [hx]))]; rfl
theorem toVals_snoc (a : List (List UInt8)) (t : List UInt8) (l : List Int) (h : toVals a = some l) (ht : (parseV t).2 = true) : toVals (a ++ [t]) = some (l ++ [(parseV t).1]) := by
  induction a generalizing l with
  | nil => simp [toVals] at h; subst h; simp [toVals, ht]
  | cons x q ih =>
    rw [toVals] at h
    cases hx : (parseV x).2 with
    | false => rw [hx] at h; cases h
    | true =>
      cases hq : toVals q with
      | none => rw [hx, hq] at h; cases h
      | some m =>
        rw [hx, hq] at h
        cases h
        rw [List.cons_append, toVals, hx, ih m hq]; rfl
theorem toVals_none (a b : List (List UInt8)) (t : List UInt8) (h : (parseV t).2 = false) : toVals (a ++ t :: b) = none := by
  induction a with
  | nil => simp [toVals, h]
  | cons x r ih => rw [List.cons_append, toVals, ih]; simp
theorem toVals_len (a : List (List UInt8)) (l : List Int) (h : toVals a = some l) : l.length = a.length := by
  induction a generalizing l with
  | nil => simp [toVals] at h; subst h; rfl
  | cons x q ih =>
    rw [toVals] at h
    cases hx : (parseV x).2 with
    | false => rw [hx] at h; cases h
    | true =>
      cases hq : toVals q with
      | none => rw [hx, hq] at h; cases h
      | some m =>
        rw [hx, hq] at h
        cases h
        simp [ih m hq]
theorem toVals_back (a : List (List UInt8)) (l : List Int) (h : toVals a = some l) : l.map fmtV = a ∧ ∀ v ∈ l, -40 ≤ v ∧ v ≤ 9 := by
  induction a generalizing l with
  | nil => simp [toVals] at h; subst h; exact ⟨rfl, by simp⟩
  | cons x q ih =>
    rw [toVals] at h
    cases hx : (parseV x).2 with
    | false => rw [hx] at h; cases h
    | true =>
      cases hq : toVals q with
      | none => rw [hx, hq] at h; cases h
      | some m =>
        rw [hx, hq] at h
        cases h
        have hs := parseV_sound x hx
        refine ⟨by rw [List.map_cons, hs.1, (ih m hq).1], fun v hv => ?_⟩
        rcases List.mem_cons.1 hv with rfl | hv
        · exact hs.2
        · exact (ih m hq).2 v hv
/-- what the model's ParseFact takes -/
def parseFact (l : List Rel) (s : List UInt8) : Option (Int × List Int) :=
  if s.length < 3 then none else match toVals (cutA 44 ((s.drop 2).take (s.length - 3))) with
  | some vs => if fmtFact l (relIdx ⟨(s.take 1).toArray⟩ l) vs = s then some (relIdx ⟨(s.take 1).toArray⟩ l, vs) else none
  | none => none
/-- the names of a valid schema, in order -/
theorem name_less (l : List Rel) (h : validRels l = true) (k : Nat) (hk : k + 1 < l.length) : Op.bytesLess l[k].name.toList l[k + 1].name.toList = true := by
  have hr := validRels_at l h (k + 1) hk
  unfold validRels okTo at h
  simp only [Bool.and_eq_true, List.all_eq_true] at h
  have := h.1 (k + 1) (List.mem_range.2 hk)
  rwa [okAt_succ l k hk hr] at this
theorem name_byte (l : List Rel) (h : validRels l = true) (k : Nat) (hk : k < l.length) : ∃ c : UInt8, l[k].name = ⟨#[c]⟩ ∧ 97 ≤ c.toNat ∧ c.toNat ≤ 122 := by
  obtain ⟨c, h1, h2, h3, _⟩ := relOk_form _ (validRels_at l h k hk)
  exact ⟨c, h1, h2, h3⟩
theorem less_one (a b : UInt8) : Op.bytesLess (⟨#[a]⟩ : ByteArray).toList (⟨#[b]⟩ : ByteArray).toList = true → a.toNat < b.toNat := by
  rw [ByteArray.toList_eq, ByteArray.toList_eq]
  intro h
  simp [Op.bytesLess] at h
  exact UInt8.lt_iff_toNat_lt.1 h
theorem names_asc (l : List Rel) (h : validRels l = true) (j k : Nat) (hjk : j < k) (hk : k < l.length) : ∀ (a b : UInt8), l[j].name = ⟨#[a]⟩ → l[k].name = ⟨#[b]⟩ → a.toNat < b.toNat := by
  induction k with
  | zero => omega
  | succ k ih =>
    intro a b ha hb
    obtain ⟨c, hc, _⟩ := name_byte l h k (by omega)
    have h1 := name_less l h k hk
    rw [hc, hb] at h1
    have h2 := less_one c b h1
    rcases Nat.lt_or_eq_of_le (Nat.le_of_lt_succ hjk) with hlt | heq
    · have := ih hlt (by omega) a c ha hc; omega
    · subst heq
      rw [ha] at hc
      injection hc with hc
      injection hc with hc
      simp at hc
      subst hc
      exact h2
theorem relIdx_name (l : List Rel) (h : validRels l = true) (k : Nat) (hk : k < l.length) : relIdx l[k].name l = (k : Int) := by
  refine NoneTo.hit (k := k) (fun j hj hjk he => ?_) hk rfl
  obtain ⟨a, ha, _⟩ := name_byte l h j hj
  obtain ⟨b, hb, _⟩ := name_byte l h k hk
  have := names_asc l h j k hjk hk a b ha hb
  rw [ha, hb] at he
  injection he with he
  injection he with he
  simp at he
  subst he; omega
theorem fact_form {l : List Rel} {r : Int} {vs : List Int} (h : factOk l r vs = true) : ∃ c : UInt8, (l.getD r.toNat zeroRel).name = ⟨#[c]⟩ ∧ relIdx ⟨#[c]⟩ l = r ∧ bodyF (l.getD r.toNat zeroRel).name.data.toList vs = c :: 40 :: (joinVals vs ++ [41]) ∧ vs ≠ [] ∧ vs.length ≤ 3 ∧ ∀ v ∈ vs, -40 ≤ v ∧ v ≤ 9 := by
  obtain ⟨h1, h2, h3, h4⟩ := factOk_parts h
  have hk : r.toNat < l.length := by omega
  obtain ⟨c, hc, _⟩ := name_byte l h1 r.toNat hk
  have hr := relIdx_name l h1 r.toNat hk
  rw [hc] at hr
  have ha := relOk_bd _ _ (validRels_at l h1 r.toNat hk)
  rw [arityAt_in hk] at h3
  refine ⟨c, by rw [getD_at hk]; exact hc, by rw [hr]; omega, by rw [getD_at hk, hc]; rfl, fun e => by subst e; simp at h3; omega, by omega, fun v hv => ?_⟩
  obtain ⟨i, hi, rfl⟩ := List.getElem_of_mem hv
  have := h4 i hi
  unfold validV at this
  simpa using this
theorem joinVals_ne (vs : List Int) (h : vs ≠ []) (hv : ∀ v ∈ vs, -40 ≤ v ∧ v ≤ 9) : 0 < (joinVals vs).length := by
  cases vs with
  | nil => exact absurd rfl h
  | cons v t =>
    have := fmtV_ne v (hv v (by simp))
    unfold joinVals
    rw [List.map_cons, Lib.join_cons, List.length_append]
    have : 0 < (fmtV v).length := List.length_pos_iff.2 this
    omega
theorem parseFact_iff (l : List Rel) (s : List UInt8) (r : Int) (vs : List Int) : parseFact l s = some (r, vs) ↔ factOk l r vs = true ∧ fmtFact l r vs = s := by
  constructor
  · intro h
    unfold parseFact at h
    split at h
    · cases h
    · rename_i hlen
      cases ht : toVals (cutA 44 ((s.drop 2).take (s.length - 3))) with
      | none => rw [ht] at h; cases h
      | some m =>
        rw [ht] at h
        simp only at h
        split at h
        · rename_i hm
          cases h
          refine ⟨?_, hm⟩
          rw [← fmtFact_ne, hm]
          rintro rfl
          simp at hlen
        · cases h
  · rintro ⟨ho, hf⟩
    obtain ⟨c, _, hr, hb, hne, _, hv⟩ := fact_form ho
    have hf' := hf
    rw [fmtFact_yes ho, hb] at hf
    have hl : s.length = (joinVals vs).length + 3 := by rw [← hf]; simp
    have hj := joinVals_ne vs hne hv
    have h1 : s.take 1 = [c] := by rw [← hf]; rfl
    have h2 : (s.drop 2).take (s.length - 3) = joinVals vs := by rw [hl, ← hf]; simp
    have h3 : cutA 44 (joinVals vs) = vs.map fmtV := vals_cut vs hne
    unfold parseFact
    rw [if_neg (by omega), h2, h3, toVals_fmt vs hv, h1, show (⟨[c].toArray⟩ : ByteArray) = ⟨#[c]⟩ from rfl, hr]
    simp [hf']
theorem relIdxFrom_bd (s : ByteArray) (l : List Rel) (i : Nat) : -1 ≤ relIdxFrom s l i ∧ relIdxFrom s l i < (i : Int) + l.length := by
  induction l generalizing i with
  | nil => simp [relIdxFrom]; omega
  | cons a t ih =>
    unfold relIdxFrom
    have := ih (i + 1)
    split
    · simp; omega
    · simp at this ⊢; omega
theorem relIdx_bd (s : ByteArray) (l : List Rel) : -1 ≤ relIdx s l ∧ relIdx s l < l.length := by
  have := relIdxFrom_bd s l 0
  unfold relIdx; simpa using this
/-- the pieces between the commas -/
def piecesF (s : List UInt8) : List (List UInt8) := cutA 44 ((s.drop 2).take (s.length - 3))
theorem parseFact_stop {l : List Rel} {s : List UInt8} (k : Nat) (hk : k < (piecesF s).length) (h : (parseV (piecesF s)[k]).2 = false) : parseFact l s = none := by
  have e : piecesF s = (piecesF s).take k ++ (piecesF s)[k] :: (piecesF s).drop (k + 1) := by rw [← List.drop_eq_getElem_cons hk, List.take_append_drop]
  have hn : toVals (piecesF s) = none := by rw [e]; exact toVals_none _ _ _ h
  unfold piecesF at hn
  unfold parseFact
  rw [hn]; split <;> rfl
theorem parseFact_end {l : List Rel} {s : List UInt8} {vs : List Int} (h3 : ¬ s.length < 3) (h : toVals (piecesF s) = some vs) :
    parseFact l s = if fmtFact l (relIdx ⟨(s.take 1).toArray⟩ l) vs = s then some (relIdx ⟨(s.take 1).toArray⟩ l, vs) else none := by
  unfold piecesF at h
  unfold parseFact
  rw [if_neg h3, h]
theorem toVals_next {P : List (List UInt8)} {k : Nat} (hk : k < P.length) {l : List Int} (h : toVals (P.take k) = some l) (ht : (parseV P[k]).2 = true) : toVals (P.take (k + 1)) = some (l ++ [(parseV P[k]).1]) := by
  rw [List.take_succ_eq_append_getElem hk]; exact toVals_snoc _ _ _ h ht
theorem fmtFact_len (l : List Rel) (r : Int) (vs : List Int) (h : vs.length ≤ 3) : (fmtFact l r vs).length ≤ 30 := by
  cases hf : factOk l r vs with
  | false => rw [fmtFact_no hf]; simp
  | true =>
    obtain ⟨c, -, -, hb, -⟩ := fact_form hf
    rw [fmtFact_yes hf, hb]
    have h1 := joinVals_len vs vs.length (Nat.le_refl _)
    rw [List.take_length] at h1
    simp
    omega

theorem join_mem (L : List (List UInt8)) (sep : List UInt8) (b : UInt8) (h : b ∈ Lib.join L sep) : b ∈ sep ∨ ∃ p ∈ L, b ∈ p := by
  cases L with
  | nil => simp [Lib.join] at h
  | cons x t =>
    rw [Lib.join_cons] at h
    rcases List.mem_append.1 h with h | h
    · exact .inr ⟨x, by simp, h⟩
    · have h' : b ∈ (t.map (sep ++ ·)).flatten := h
      rw [List.mem_flatten] at h'
      obtain ⟨q, hq, hb⟩ := h'
      obtain ⟨p, hp, rfl⟩ := List.mem_map.1 hq
      rcases List.mem_append.1 hb with hb | hb
      · exact .inl hb
      · exact .inr ⟨p, by simp [hp], hb⟩

/-- what the program's ParseFact takes: the name ahead of the first parenthesis, the pieces ahead of the last one -/
def implPieces (s : List UInt8) : List (List UInt8) := cutN 44 (min 4 (s.length + 1) - 1) s
def implFact (l : List Rel) (s : List UInt8) : Option (Int × List Int) :=
  if Lib.hasSuffix (Lib.cut s [40]).2.1 [41] then match toVals (implPieces (Lib.trimSuffix (Lib.cut s [40]).2.1 [41])) with
  | some vs => if factOk l (relIdx ⟨(Lib.cut s [40]).1.toArray⟩ l) vs then some (relIdx ⟨(Lib.cut s [40]).1.toArray⟩ l, vs) else none
  | none => none else none
theorem index_none (c : UInt8) (s : List UInt8) (h : c ∉ s) : Lib.index s [c] = -1 := by
  induction s with
  | nil => rfl
  | cons b r ih =>
    rw [index_cons_ne c b r (fun e => h (by simp [e])), ih (fun e => h (by simp [e]))]; rfl
theorem index_app (c : UInt8) (p r : List UInt8) (h : c ∉ p) : Lib.index (p ++ c :: r) [c] = (p.length : Int) := by
  induction p with
  | nil => exact index_cons_eq c r
  | cons b q ih =>
    rw [List.cons_append, index_cons_ne c b _ (fun e => h (by simp [e])), ih (fun e => h (by simp [e]))]
    have : ((q.length : Int) == -1) = false := by rw [beq_eq_false_iff_ne]; omega
    rw [this]; simp
theorem split_at (c : UInt8) (s : List UInt8) (h : c ∈ s) : ∃ p r, c ∉ p ∧ s = p ++ c :: r := by
  induction s with
  | nil => simp at h
  | cons b t ih =>
    by_cases e : b = c
    · subst e; exact ⟨[], t, by simp, rfl⟩
    · obtain ⟨p, r, h1, h2⟩ := ih (by rcases List.mem_cons.1 h with h | h; exact absurd h.symm e; exact h)
      exact ⟨b :: p, r, by simp [h1]; exact fun h => e h.symm, by rw [h2]; rfl⟩
theorem cut_app (c : UInt8) (p r : List UInt8) (h : c ∉ p) : Lib.cut (p ++ c :: r) [c] = (p, r, true) := by
  unfold Lib.cut
  rw [index_app c p r h, if_pos (by omega)]
  simp
theorem cut_none (c : UInt8) (s : List UInt8) (h : c ∉ s) : Lib.cut s [c] = (s, [], false) := by
  unfold Lib.cut
  rw [index_none c s h]; rfl
theorem suf_app (p : List UInt8) (c : UInt8) : Lib.hasSuffix (p ++ [c]) [c] = true ∧ Lib.trimSuffix (p ++ [c]) [c] = p := by
  have h : Lib.hasSuffix (p ++ [c]) [c] = true := by unfold Lib.hasSuffix; rw [List.isSuffixOf_iff_suffix]; exact List.suffix_append _ _
  refine ⟨h, ?_⟩
  unfold Lib.trimSuffix; rw [h]; simp
theorem suf_form (s : List UInt8) (c : UInt8) (h : Lib.hasSuffix s [c] = true) : s = Lib.trimSuffix s [c] ++ [c] := by
  unfold Lib.trimSuffix
  rw [h]
  unfold Lib.hasSuffix at h
  rw [List.isSuffixOf_iff_suffix] at h
  obtain ⟨t, rfl⟩ := h
  simp
theorem relIdx_at (s : ByteArray) (l : List Rel) (h : 0 ≤ relIdx s l) : (relIdx s l).toNat < l.length ∧ (l.getD (relIdx s l).toNat zeroRel).name = s := by
  by_cases hn : ∃ j, ∃ h : j < l.length, l[j].name = s
  · obtain ⟨j, hj, he⟩ := hn
    have key : ∀ n, (∀ k, k < n → ∀ h : k < l.length, ¬ l[k].name = s) ∨ ∃ k, ∃ h : k < l.length, NoneTo s l k ∧ l[k].name = s := by
      intro n
      induction n with
      | zero => exact .inl (fun k hk => absurd hk (by omega))
      | succ n ih =>
        rcases ih with ih | ih
        · by_cases hln : n < l.length
          · by_cases hln2 : l[n].name = s
            · exact .inr ⟨n, hln, fun i hi hin => ih i hin hi, hln2⟩
            · refine .inl (fun k hk hkl => ?_)
              rcases Nat.lt_or_eq_of_le (Nat.le_of_lt_succ hk) with h1 | h1
              · exact ih k h1 hkl
              · subst h1; exact hln2
          · exact .inl (fun k hk hkl => ih k (by omega) hkl)
        · exact .inr ih
    rcases key (j + 1) with h1 | ⟨k, hk, h1, h2⟩
    · exact absurd he (h1 j (by omega) hj)
    · have e := h1.hit hk h2
      rw [e]
      simp only [Int.toNat_natCast]
      exact ⟨hk, by rw [getD_at hk]; exact h2⟩
  · have : relIdx s l = -1 := relIdxFrom_miss s l 0 (fun j hj he => hn ⟨j, hj, he⟩)
    omega
theorem implPieces_all (s : List UInt8) (h : (implPieces s).length ≤ 3) : implPieces s = cutA 44 s := by
  unfold implPieces at *
  rw [cutN_len] at h
  have := cutA_len 44 s
  exact cutN_all 44 _ s (by omega)
theorem implPieces_small (s : List UInt8) (h : (cutA 44 s).length ≤ 3) : implPieces s = cutA 44 s := by
  unfold implPieces
  have := cutA_len 44 s
  exact cutN_all 44 _ s (by omega)
theorem implFact_iff (l : List Rel) (s : List UInt8) (r : Int) (vs : List Int) : implFact l s = some (r, vs) ↔ factOk l r vs = true ∧ fmtFact l r vs = s := by
  constructor
  · intro h
    unfold implFact at h
    split at h
    · rename_i hsuf
      by_cases hm : (40 : UInt8) ∈ s
      · obtain ⟨p, q, hp, hs⟩ := split_at 40 s hm
        rw [hs, cut_app 40 p q hp] at h hsuf
        simp only at h hsuf
        have hq := suf_form q 41 hsuf
        generalize Lib.trimSuffix q [41] = t at *
        cases ht : toVals (implPieces t) with
        | none => rw [ht] at h; cases h
        | some m =>
          rw [ht] at h
          simp only at h
          split at h
          · rename_i hok
            cases h
            refine ⟨hok, ?_⟩
            obtain ⟨c, hc, hr, hb, hne, h3, hv⟩ := fact_form hok
            have hpos : 0 ≤ relIdx ⟨p.toArray⟩ l := (factOk_parts hok).2.1.1
            have hn := (relIdx_at _ _ hpos).2
            have hbk := (toVals_back _ _ ht).1
            have hlen : (implPieces t).length ≤ 3 := by rw [← hbk]; simpa using h3
            rw [implPieces_all t hlen] at hbk
            have hj : joinVals vs = t := by unfold joinVals; rw [hbk, join_cutA]
            rw [fmtFact_yes hok]
            unfold bodyF
            rw [hn, hs, hq, ← hj]
            rfl
          · cases h
      · rw [cut_none 40 s hm] at hsuf
        simp [Lib.hasSuffix, List.isSuffixOf] at hsuf
    · cases h
  · rintro ⟨ho, hf⟩
    obtain ⟨c, hc, hr, hb, hne, h3, hv⟩ := fact_form ho
    have h97 := name_byte l (factOk_parts ho).1 r.toNat (by have := (factOk_parts ho).2.1; omega)
    obtain ⟨c', hc', h97, h122⟩ := h97
    rw [getD_at (show r.toNat < l.length by have := (factOk_parts ho).2.1; omega), hc'] at hc
    have ecc : c' = c := by
      injection hc with hc
      injection hc with hc
      simpa using hc
    subst ecc
    rw [fmtFact_yes ho, hb] at hf
    have e : Lib.cut s [40] = ([c'], joinVals vs ++ [41], true) := by
      rw [← hf]
      refine cut_app 40 [c'] _ ?_
      rw [List.mem_singleton]
      rintro rfl
      exact absurd h97 (by decide)
    have hcut := vals_cut vs hne
    have hp : implPieces (joinVals vs) = vs.map fmtV := by
      rw [implPieces_small _ (by unfold joinVals; rw [hcut]; simpa using h3)]; exact hcut
    unfold implFact
    rw [e]
    simp only [(suf_app (joinVals vs) 41).1, (suf_app (joinVals vs) 41).2, if_true, hp, toVals_fmt vs hv]
    rw [show (⟨[c'].toArray⟩ : ByteArray) = ⟨#[c']⟩ from rfl, hr, ho]
    rfl
theorem implFact_eq (l : List Rel) (s : List UInt8) : implFact l s = parseFact l s := by
  cases h : implFact l s with
  | some x =>
    obtain ⟨r, vs⟩ := x
    exact ((parseFact_iff l s r vs).2 ((implFact_iff l s r vs).1 h)).symm
  | none =>
    cases h2 : parseFact l s with
    | none => rfl
    | some x =>
      obtain ⟨r, vs⟩ := x
      rw [(implFact_iff l s r vs).2 ((parseFact_iff l s r vs).1 h2)] at h; cases h
theorem cut_le (s p : List UInt8) : (Lib.cut s p).2.1.length ≤ s.length := by
  unfold Lib.cut; split <;> simp
theorem trimSuf_le (s p : List UInt8) : (Lib.trimSuffix s p).length ≤ s.length := by
  unfold Lib.trimSuffix; split
  · rw [List.length_take]; omega
  · exact Nat.le_refl _
theorem implFact_open {l : List Rel} {s : List UInt8} (h : Lib.hasSuffix (Lib.cut s [40]).2.1 [41] = false) : parseFact l s = none := by
  rw [← implFact_eq]; unfold implFact; rw [h]; rfl
theorem implFact_stop {l : List Rel} {s : List UInt8} (h : Lib.hasSuffix (Lib.cut s [40]).2.1 [41] = true) (P : List (List UInt8)) (hP : P = implPieces (Lib.trimSuffix (Lib.cut s [40]).2.1 [41])) (k : Nat) (hk : k < P.length) (hv : (parseV P[k]).2 = false) : parseFact l s = none := by
  have e : P = P.take k ++ P[k] :: P.drop (k + 1) := by rw [← List.drop_eq_getElem_cons hk, List.take_append_drop]
  have hn : toVals P = none := by rw [e]; exact toVals_none _ _ _ hv
  rw [← implFact_eq]; unfold implFact
  rw [h, if_pos rfl, ← hP, hn]
theorem implFact_end {l : List Rel} {s : List UInt8} (h : Lib.hasSuffix (Lib.cut s [40]).2.1 [41] = true) (P : List (List UInt8)) (hP : P = implPieces (Lib.trimSuffix (Lib.cut s [40]).2.1 [41])) {vs : List Int} (hv : toVals P = some vs) :
    parseFact l s = if factOk l (relIdx ⟨(Lib.cut s [40]).1.toArray⟩ l) vs then some (relIdx ⟨(Lib.cut s [40]).1.toArray⟩ l, vs) else none := by
  rw [← implFact_eq]; unfold implFact
  rw [h, if_pos rfl, ← hP, hv]

set_option maxHeartbeats 800000 in
theorem specRelationIndex_any (v : Value) (l : List Rel) (s : ByteArray) (w : World) (hl : RelsAt w w.heap.size v l) :
    Calls Tryz.prog 110 #[v, .string s] w fun e w' => e = .returned (.int .i64 (relIdx s l)) ∧ w = w' := by
  have HL := Lib.hid hl
  obtain ⟨A, c, rfl, hlc, hcm, -⟩ := hl
  unfold maxLen at hcm
  go_enter Tryz.func110, Tryz.ntmps110
  go_wp2
  go_loop [5] (fun i => ∃ k : Nat, k ≤ l.length ∧ i = .int .i64 k ∧ Hid (NoneTo s l k)) (fun i => l.length - (intOf i).toNat)
  case atStart => exact ⟨0, by omega, rfl, Lib.hid (NoneTo.zero s l)⟩
  case round =>
    obtain ⟨k, hk, rfl, HT⟩ := hrel
    by_cases hlt : k < l.length
    · obtain ⟨b, off, rfl, hb, c0, c1, c2⟩ := RelsAt.elem HL.out k hlt
      by_cases he : l[k].name = s
      · have HV := Lib.hid (HT.out.hit hlt he)
        have he' : (l[k].name.toList == s.toList) = true := by rw [he]; exact str_eq s
        clear he
        go_wp2
        go_ret
        exact ⟨ret_int HV.out.symm, rfl⟩
      · have HV := Lib.hid (HT.out.next hlt he)
        have he' := str_ne he
        clear he
        go_wp2
        go_round
        case rel => exact ⟨k + 1, by omega, by go_num, HV⟩
        case measure => simp [intOf]; omega
    · obtain rfl : k = l.length := by omega
      have HV := Lib.hid HT.out.miss
      go_wp2
      go_ret
      exact ⟨ret_int HV.out.symm, rfl⟩

set_option maxHeartbeats 800000 in
theorem relIndexEq_any (s : ByteArray) (a : Int) (b : Bool) (B : Nat) (t : ByteArray) (q : Bool) (hq : (s.toList == t.toList) = q) (w : World) (hB : B < w.heap.size) (hc : w.cell? ⟨B, 0, none⟩ = some (.string t)) :
    Calls Tryz.prog 187 #[.agg #[.string s, .int .i64 a, .bool b], .pointer (some ⟨B, 0, none⟩)] w fun e w' => e = .returned (.bool q) ∧ Below w.heap.size w w' := by
  have hne : w.heap.size ≠ B := by omega
  go_enter Tryz.func187, Tryz.ntmps187
  go_wp2
  go_ret
  exact ⟨rfl, below_more (Below.refl _ _) _⟩
set_option maxHeartbeats 1600000 in
theorem indexFuncRel_any (v : Value) (l : List Rel) (s : ByteArray) (B : Nat) (w : World) (hl : RelsAt w w.heap.size v l) (hB : B < w.heap.size) (hc : w.cell? ⟨B, 0, none⟩ = some (.string s)) :
    Calls Tryz.prog 186 #[v, .func (.func 187) #[] #[.pointer (some ⟨B, 0, none⟩)]] w fun e w' => e = .returned (.int .i64 (relIdx s l)) ∧ Below w.heap.size w w' := by
  have HL := Lib.hid hl
  obtain ⟨A, c, rfl, hlc, hcm, -⟩ := hl
  unfold maxLen at hcm
  go_enter Tryz.func186, Tryz.ntmps186
  go_wp2
  go_loopw [8] (fun i wr => ∃ k : Nat, k ≤ l.length ∧ i = .int .i64 k ∧ Hid (NoneTo s l k) ∧ Below w.heap.size w wr) (fun i _ => l.length - (intOf i).toNat)
  case atStart => exact ⟨0, by omega, rfl, Lib.hid (NoneTo.zero s l), Below.refl _ _⟩
  case round =>
    obtain ⟨k, hk, rfl, HT, hW⟩ := hrel
    have hz := hW.size
    have hBr : B < wr.heap.size := by omega
    have hcr := (hW.cell (p := ⟨B, 0, none⟩) hB).trans hc
    clear hc
    by_cases hlt : k < l.length
    · obtain ⟨b, off, rfl, hb, c0, c1, c2⟩ := RelsAt.elem (HL.out.below hW (Nat.le_refl _)) k hlt
      by_cases he : l[k].name = s
      · have HV := Lib.hid (HT.out.hit hlt he)
        have hcon := relIndexEq_any l[k].name l[k].arity l[k].source B s true (by rw [he]; exact str_eq s) wr hBr hcr
        clear he hcr
        go_wp2_with (go_at_call 187; refine hcon.mono ?_; rintro e w1 ⟨rfl, hb1⟩)
        go_ret
        exact ⟨ret_int HV.out.symm, hW.trans (hb1.mono hz)⟩
      · have HV := Lib.hid (HT.out.next hlt he)
        have hcon := relIndexEq_any l[k].name l[k].arity l[k].source B s false (str_ne he) wr hBr hcr
        clear he hcr
        go_wp2_with (go_at_call 187; refine hcon.mono ?_; rintro e w1 ⟨rfl, hb1⟩)
        go_roundw
        case rel => exact ⟨k + 1, by omega, by go_num, HV, hW.trans (hb1.mono hz)⟩
        case measure => simp [intOf]; omega
    · obtain rfl : k = l.length := by omega
      have HV := Lib.hid HT.out.miss
      go_wp2
      go_ret
      exact ⟨ret_int HV.out.symm, hW⟩
set_option maxHeartbeats 800000 in
theorem implRelationIndex_any (v : Value) (l : List Rel) (s : ByteArray) (w : World) (hl : RelsAt w w.heap.size v l) :
    Calls Tryz.prog 104 #[v, .string s] w fun e w' => e = .returned (.int .i64 (relIdx s l)) ∧ Below w.heap.size w w' := by
  go_enter Tryz.func104, Tryz.ntmps104
  go_wp2_with fail
  refine (indexFuncRel_any v l s w.heap.size _ ((hl.below ((Below.refl _ _).alloc (Nat.le_refl _) _) (Nat.le_refl _)).more (by simp)) (by simp) (box_cell _ _ _ 0)).mono ?_
  rintro e w1 ⟨rfl, hb1⟩
  go_wp2
  go_ret
  exact ⟨rfl, ((Below.refl _ _).alloc (Nat.le_refl _) _).trans (hb1.mono (by simp))⟩

/-- a slice of strings of the call's own -/
def OwnStrs (B : Nat) (v : Value) (l : List ByteArray) (w : World) : Prop := w.ownsRow B 9 1 v l.length (l.map Value.string)
theorem infoStr : (Tryz.prog.info? 9).map (fun i => (i.zero, i.size, i.bytes)) = some (some (.string ByteArray.empty), 1, 16) := by kernel_rfl
theorem make_strs (w : World) (n c : Nat) (hnc : n ≤ c) (hn : c ≤ 1048576) : (Instr.makeSlice 94 (.int .i64 (n : Int)) (.int .i64 (c : Int))).run Tryz.prog w = .ok (.slice (some ⟨w.heap.size, 0, none⟩) n c) (w.alloc (.cells (madeCells #[.string ByteArray.empty] c) 9)) := by
  obtain ⟨i0, hi, hz0, hz1, hz2⟩ := info_parts infoStr
  have hr := run_make (P := Tryz.prog) w 94 9 i0 _ Tryz.underlying94 hi hz0 .i64 .i64 (n : Int) (c : Int) (by omega) (by omega) (by rw [hz2]; omega) (by omega)
  simp only [Int.toNat_natCast, hz1, Nat.mul_one] at hr
  exact hr
theorem OwnStrs.full (w : World) (n : Nat) (hn : n ≤ 1048576) (B : Nat) (hB : B ≤ w.heap.size) : OwnStrs B (.slice (some ⟨w.heap.size, 0, none⟩) n n) (List.replicate n ByteArray.empty) (w.alloc (.cells (madeCells #[.string ByteArray.empty] n) 9)) := by
  unfold OwnStrs
  have e : (madeCells #[.string ByteArray.empty] n).toList = (List.replicate n ByteArray.empty).map Value.string := by rw [toList_madeCells_one, List.map_replicate]
  rw [← e, List.length_replicate]
  exact World.ownsRow_lit w _ n hB (by unfold maxLen; omega) (by rw [size_madeCells, Nat.mul_one])
theorem OwnStrs.cell {B g n cap : Nat} {l : List ByteArray} {w : World} (h : OwnStrs B (.slice (some ⟨g, 0, none⟩) n cap) l w) (hn : l.length = n) (j : Nat) (hj : j < l.length) : w.cell? ⟨g, j, none⟩ = some (.string l[j]) := by
  subst hn
  rw [World.ownsRow.cellAt h j (by omega)]; simp [hj]
theorem OwnStrs.frozen {B g n cap : Nat} {l : List ByteArray} {w : World} (h : OwnStrs B (.slice (some ⟨g, 0, none⟩) n cap) l w) (hn : l.length = n) (j : Nat) : w.frozen? ⟨g, j, none⟩ = false := by
  subst hn; exact World.ownsRow.frozenAt h j
theorem OwnStrs.set {B g n cap : Nat} {l : List ByteArray} {w : World} (h : OwnStrs B (.slice (some ⟨g, 0, none⟩) n cap) l w) (hn : l.length = n) (j : Nat) (s : ByteArray) :
    OwnStrs B (.slice (some ⟨g, 0, none⟩) n cap) (l.set j s) (w.setCell ⟨g, j, none⟩ (.string s)) := by
  subst hn
  have := (World.ownsRow.stored h j (.string s)).1
  unfold OwnStrs
  rw [List.length_set, List.map_set]
  exact this
theorem own_below {w w' : World} {B B' k n : Nat} {e : TypeId} {v : Value} {xs : List Value} (h : w.ownsRow B e k v n xs) (hb : Below B' w w') (hB : w.heap.size ≤ B') : w'.ownsRow B e k v n xs :=
  World.ownsRow.kept (row := none) h ⟨hb.os, hb.tape, hb.output, hb.size, fun k hk _ => hb.block k (Nat.lt_of_lt_of_le hk hB)⟩ (by
    cases h' : v.ownBlock with
    | none => exact .inl rfl
    | some g => exact .inr (by simp))
theorem OwnStrs.below {B B' : Nat} {v : Value} {l : List ByteArray} {w w' : World} (h : OwnStrs B v l w) (hb : Below B' w w') (hB : w.heap.size ≤ B') : OwnStrs B v l w' := own_below h hb hB

theorem flat_str (l : List ByteArray) : l.flatMap (fun s => [Value.string s]) = l.map Value.string := by
  induction l with
  | nil => rfl
  | cons a t ih => rw [List.flatMap_cons, List.map_cons, ih]; rfl
theorem OwnStrs.empty (w : World) (B : Nat) (hB : B ≤ w.heap.size) : OwnStrs B (.slice (some ⟨w.heap.size, 0, none⟩) 0 0) [] (w.alloc (.cells #[] 9)) :=
  World.ownsRow_lit w #[] 0 hB (by decide) rfl
/-- append(l, s) -/
theorem strs_app1 {ops : Array Oper} {rest : List Oper} {o : Oper} {a : Act} {Q : Exit → Act → World → Prop} {B : Nat} {v : Value} {l : List ByteArray} {w : World} (hO : OwnStrs B v l w)
    (hgd : o.guard = none) (s x : Operand) (ho : o.op = .call { callee := .builtin .append, args := #[s, x], argTypes := #[94, 94] }) (hs : a.eval s = v) (r : ByteArray) (c bs : Nat) (hx : a.eval x = .slice (some ⟨bs, 0, none⟩) 1 c) (hbs : bs = w.heap.size)
    (hlen : l.length < 1048577) (hbase : B ≤ w.heap.size) (h : ∀ v' w', OwnStrs B v' (l ++ [r]) w' → Below B w w' → w.grownBy w' v.ownBlock → wpList Tryz.prog ops Q rest (a.put o.dst v') w') :
    wpList Tryz.prog ops Q (o :: rest) a (w.alloc (.cells #[.string r] 9)) := by
  unfold OwnStrs at hO
  rw [← flat_str] at hO
  refine wp_own_app (fun s => [Value.string s]) 1 16 (fun x u hu => by simp at hu; subst hu; rfl) (fun _ => rfl) Tryz.underlying94 infoStr rfl (by decide) hO hgd s x ho hs r c (by rw [hx, hbs]) (by omega) (by omega) hbase ?_
  intro v' w' h1 h2 h3
  refine h v' w' ?_ h2 h3
  unfold OwnStrs
  rw [← flat_str]; exact h1
abbrev StrsAt (w : World) (B : Nat) (v : Value) (l : List ByteArray) : Prop := SliceAt (fun s : ByteArray => [Value.string s]) w B v l
theorem OwnStrs.at_ {B : Nat} {v : Value} {l : List ByteArray} {w : World} (h : OwnStrs B v l w) : StrsAt w w.heap.size v l := by
  unfold OwnStrs at h
  rw [← flat_str] at h
  exact SliceAt.of_own h
theorem OwnStrs.form {B : Nat} {v : Value} {l : List ByteArray} {w : World} (h : OwnStrs B v l w) : ∃ A c, v = .slice A l.length c ∧ l.length ≤ c ∧ c ≤ maxLen := by
  obtain ⟨A, c, h1, h2, h3, _⟩ := h.at_
  exact ⟨A, c, h1, h2, h3⟩
theorem StrsAt.elem {w : World} {B c : Nat} {A : Option Addr} {l : List ByteArray} (h : StrsAt w B (.slice A l.length c) l) (j : Nat) (hj : j < l.length) :
    ∃ b off, A = some ⟨b, off, none⟩ ∧ b < B ∧ w.cell? ⟨b, off + j, none⟩ = some (.string l[j]) := by
  obtain ⟨A', c', hv, h1, h2, h3⟩ := h
  obtain ⟨b, off, hA, hb, hc⟩ := h3.1 (by omega)
  subst hA
  injection hv with h4 _ _
  subst h4
  refine ⟨b, off, rfl, hb, hc j _ ?_⟩
  rw [flat_str]; simp [hj]

/-- the pieces between the spaces, in memory of the call's own -/
def GivesCut (c : UInt8) (s : ByteArray) (w : World) (e : Ending) (w' : World) : Prop := ∃ v l, e = .returned v ∧ dataOf l = cutA c s.data.toList ∧ OwnStrs w.heap.size v l w' ∧ Below w.heap.size w w'
theorem extract_mid (s : ByteArray) (f k : Nat) : (s.extract f k).data.toList = (s.data.toList.take k).drop f := by
  rw [Lib.extract_data, List.drop_take]
set_option maxHeartbeats 1600000 in
theorem specCutAt_any (c : UInt8) (s : ByteArray) (w : World) (hs : s.size ≤ 1048576) :
    Calls Tryz.prog 81 #[.string s, .int .u8 ((c.toNat : Nat) : Int)] w (GivesCut c s w) := by
  go_enter Tryz.func81, Tryz.ntmps81
  go_wp2
  go_loopw [5, 6, 7] (fun v f i wr => ∃ k j : Nat, ∃ l : List ByteArray, k ≤ s.size ∧ j ≤ k ∧ l.length ≤ k ∧ i = .int .i64 k ∧ f = .int .i64 j ∧ OwnStrs w.heap.size v l wr ∧ Hid (CutInv c s.data.toList (dataOf l) j k) ∧ Below w.heap.size w wr) (fun _ _ i _ => s.size - (intOf i).toNat)
  case atStart => exact ⟨0, 0, [], by omega, by omega, by simp, rfl, rfl, OwnStrs.empty w _ (Nat.le_refl _), Lib.hid (CutInv.zero _ _), (Below.refl _ _).alloc (Nat.le_refl _) _⟩
  case round =>
    obtain ⟨k, j, l, hk, hj, hl, rfl, rfl, hO, HC, hW⟩ := hrel
    have hz := hW.size
    by_cases hlt : k < s.size
    · have hlt' : k < s.data.toList.length := by simpa using hlt
      by_cases he : s[k] = c
      · have hb : (((s[k].toNat : Nat) : Int) == ((c.toNat : Nat) : Int)) = true := by rw [he]; exact beq_self_eq_true _
        have HI := Lib.hid (HC.out.hit hlt' he)
        clear he
        go_wp2_with (at_builtin; refine strs_app1 hO rfl _ _ rfl rfl _ _ _ rfl rfl (by omega) hz ?_; intro v' w1 hO1 hW1 _)
        go_roundw
        case rel => exact ⟨k + 1, k + 1, _, by omega, by omega, by simp; omega, by go_num, by go_num, hO1, by rw [dataOf_snoc, extract_mid]; exact HI, hW.trans hW1⟩
        case measure => simp [intOf]; omega
      · have hb : (((s[k].toNat : Nat) : Int) == ((c.toNat : Nat) : Int)) = false := by
          rw [beq_eq_false_iff_ne]
          intro e
          exact he (UInt8.toNat_inj.1 (by omega))
        have HI := Lib.hid (HC.out.miss hlt' he)
        clear he
        go_wp2
        go_roundw
        case rel => exact ⟨k + 1, j, l, by omega, by omega, by omega, by go_num, rfl, hO, HI, hW⟩
        case measure => simp [intOf]; omega
    · obtain rfl : k = s.size := by omega
      have HD := Lib.hid (HC.out.done (by simp))
      go_wp2_with (at_builtin; refine strs_app1 hO rfl _ _ rfl rfl _ _ _ rfl rfl (by omega) hz ?_; intro v' w1 hO1 hW1 _)
      go_ret
      exact ⟨_, _, rfl, by rw [HD.out, dataOf_snoc, extract_mid, List.take_of_length_le (by simp)], hO1, hW.trans hW1⟩
theorem specCut_any (s : ByteArray) (w : World) (hs : s.size ≤ 1048576) :
    Calls Tryz.prog 81 #[.string s, .int .u8 32] w (GivesCut 32 s w) := specCutAt_any 32 s w hs

theorem SliceAt.aft {α : Type} {f : α → List Value} {w0 W : World} {v : Value} {l : List α} (h : SliceAt f w0 w0.heap.size v l) (hb : Below w0.heap.size w0 W) (u : Aft W.heap.size W) : SliceAt f u.now u.now.heap.size v l :=
  (h.below (hb.trans (u.is.mono hb.size)) (Nat.le_refl _)).more (hb.trans (u.is.mono hb.size)).size

set_option maxHeartbeats 800000 in
theorem specHas_any (v : Value) (l : List Int) (x : Int) (w : World) (hl : IntS_at w w.heap.size v l) :
    Calls Tryz.prog 146 #[v, .int .i64 x] w fun e w' => e = .returned (.bool (decide (x ∈ l))) ∧ w = w' := by
  have HL := Lib.hid hl
  obtain ⟨A, c, rfl, hlc, hcm, -⟩ := hl
  unfold maxLen at hcm
  go_enter Tryz.func146, Tryz.ntmps146
  go_wp2
  go_loop [5] (fun i => ∃ k : Nat, k ≤ l.length ∧ i = .int .i64 k ∧ Hid (x ∉ l.take k)) (fun i => l.length - (intOf i).toNat)
  case atStart => exact ⟨0, by omega, rfl, Lib.hid (by simp)⟩
  case round =>
    obtain ⟨k, hk, rfl, HT⟩ := hrel
    by_cases hlt : k < l.length
    · obtain ⟨b, off, rfl, hb, c0⟩ := IntsAt.elem HL.out k hlt
      by_cases he : l[k] = x
      · have HV := Lib.hid (decide_eq_true (show x ∈ l by rw [← he]; exact List.getElem_mem hlt))
        have hb2 : (l[k] == x) = true := by rw [he]; exact beq_self_eq_true x
        clear he
        go_wp2
        go_ret
        exact ⟨ret_bool HV.out.symm, rfl⟩
      · have HN := Lib.hid (show x ∉ l.take (k + 1) by
          rw [List.take_succ_eq_append_getElem hlt, List.mem_append, List.mem_singleton]
          exact fun h => h.elim HT.out (fun e => he e.symm))
        have hb2 : (l[k] == x) = false := beq_eq_false_iff_ne.2 he
        clear he
        go_wp2
        go_round
        case rel => exact ⟨k + 1, by omega, by go_num, HN⟩
        case measure => simp [intOf]; omega
    · obtain rfl : k = l.length := by omega
      have HV := Lib.hid (decide_eq_false (show x ∉ l by have := HT.out; rwa [List.take_of_length_le (Nat.le_refl _)] at this))
      go_wp2
      go_ret
      exact ⟨ret_bool HV.out.symm, rfl⟩
theorem specHas_at (v : Value) (l : List Int) (x : Int) (bb : Bool) (hq : decide (x ∈ l) = bb) (w : World) (hl : IntS_at w w.heap.size v l) :
    Calls Tryz.prog 146 #[v, .int .i64 x] w fun e w' => e = .returned (.bool bb) ∧ w = w' := by
  subst hq; exact specHas_any v l x w hl

/-- the library's table of the powers of ten stands as its text lays it -/
def Tab (w : World) : Prop := Lib.TabIs Tryz.prog w "internal/strconv.uint64pow10" .u64 Lib.pow10Tab
theorem var_below {P : Program} {w w' : World} {n : String} {cs : Array Value} (h : w.var? P n = some cs) (hb : Below w.heap.size w w') : w'.var? P n = some cs := by
  unfold World.var? at h ⊢
  cases hg : P.globalNamed n with
  | none => rw [hg] at h; exact h
  | some g =>
    rw [hg] at h
    simp only [Option.bind_some] at h ⊢
    have hlt : g < w.heap.size := by
      rcases Nat.lt_or_ge g w.heap.size with h1 | h1
      · exact h1
      · rw [Array.getElem?_eq_none h1] at h; cases h
    rw [hb.block g hlt]; exact h
theorem Tab.below {w w' : World} (h : Tab w) (hb : Below w.heap.size w w') : Tab w' := var_below h hb

theorem itoa_below (n : Int) (h0 : -9223372036854775808 ≤ n) (h1 : n ≤ 9223372036854775807) (w : World) (ht : Tab w) :
    Calls Tryz.prog 232 #[.int .i64 n] w fun e w' => e = .returned (.string ⟨(Lib.itoa n).toArray⟩) ∧ Below w.heap.size w w' :=
  (Tryz.strconv_Itoa n h0 h1 w ht).mono fun e w' ⟨he, k, os, hw⟩ => ⟨he, by rw [hw]; exact Lib.below_grow _ w (Nat.le_refl _) k os⟩
set_option maxHeartbeats 400000 in
theorem implFormatInt_any (n : Int) (w : World) (h0 : -9223372036854775808 ≤ n) (h1 : n ≤ 9223372036854775807) (ht : Tab w) :
    Calls Tryz.prog 183 #[.int .i64 n] w fun e w' => e = .returned (.string ⟨(Lib.itoa n).toArray⟩) ∧ Below w.heap.size w w' := by
  go_enter Tryz.func183, Tryz.ntmps183
  go_wp2_with (go_at_call 232; refine (itoa_below n h0 h1 _ ht).mono ?_; rintro e w1 ⟨rfl, hb⟩)
  go_ret
  exact ⟨rfl, hb⟩

/-- the two sentinels stand as values of an interface's type -/
structure ErrVars (w : World) : Prop where
  range : ∃ tp p, w.var? Tryz.prog "strconv.ErrRange" = some #[.iface tp p]
  form : ∃ tp p, w.var? Tryz.prog "strconv.ErrSyntax" = some #[.iface tp p]
theorem ErrVars.below {w w' : World} (h : ErrVars w) (hb : Below w.heap.size w w') : ErrVars w' :=
  ⟨h.range.elim fun tp h => h.elim fun p h => ⟨tp, p, var_below h hb⟩, h.form.elim fun tp h => h.elim fun p h => ⟨tp, p, var_below h hb⟩⟩
/-- strconv.Atoi at a short text: the value and no error, or an error -/
theorem atoi_some (s : ByteArray) (v : Int) (hs : s.size ≤ 18) (ha : Hid (Lib.atoi s.data.toList = some v)) (w : World) : Calls Tryz.prog 231 #[.string s] w fun e w' => e = .returned (.tuple #[.int .i64 v, .nilIface]) ∧ Below w.heap.size w w' := by
  have ht := Lib.atoiAll_short s.data.toList (by simpa using hs)
  rw [ha.out] at ht
  exact (Tryz.strconv_Atoi_ok s (by omega) v ht w).mono fun e w' ⟨he, hw⟩ => ⟨he, by
      rcases hw with rfl | ⟨t, rfl⟩
      · exact Below.refl _ _
      · exact Lib.bytesWorld_below _ _ _⟩
theorem atoi_none (s : ByteArray) (hs : s.size ≤ 18) (ha : Hid (Lib.atoi s.data.toList = none)) (w : World) (hv : ErrVars w) : Calls Tryz.prog 231 #[.string s] w fun e w' => (∃ n T p, e = .returned (.tuple #[.int .i64 n, .iface T p])) ∧ Below w.heap.size w w' := by
  have ht := Lib.atoiAll_short s.data.toList (by simpa using hs)
  rw [ha.out] at ht
  obtain ⟨tp, p, hvar⟩ := hv.form
  exact (Tryz.strconv_Atoi_syntax_var s (by omega) ht tp p w hvar).mono fun e w' ⟨N, he, _, _, hb⟩ => ⟨⟨_, _, _, he⟩, hb⟩
theorem trim_len (l : List UInt8) : (Lib.trimPrefix l [45]).length = l.length - (if isNeg l then 1 else 0) := by
  cases l with
  | nil => rfl
  | cons b r =>
    unfold Lib.trimPrefix Lib.hasPrefix
    show _ = _ - (if (b == 45) = true then 1 else 0)
    have : ([45] : List UInt8).isPrefixOf (b :: r) = (b == 45) := by
      by_cases h : b = 45
      · subst h; simp [List.isPrefixOf]
      · have h1 : (b == 45) = false := beq_eq_false_iff_ne.2 h
        have h2 : ((45 : UInt8) == b) = false := beq_eq_false_iff_ne.2 (Ne.symm h)
        rw [h1, List.isPrefixOf, h2]; rfl
    rw [this]
    cases (b == 45) <;> simp
theorem parse_none (l : List UInt8) (h : parseOk l = false) : parseInt l = (0, false) := by unfold parseInt; rw [h]; rfl
set_option maxHeartbeats 800000 in
set_option maxRecDepth 100000 in
theorem implParseInt_any (s : ByteArray) (w : World) (hs : s.size ≤ 1048576) (ht : Tab w) (hv : ErrVars w) :
    Calls Tryz.prog 182 #[.string s] w fun e w' => e = .returned (.tuple #[.int .i64 (parseInt s.data.toList).1, .bool (parseInt s.data.toList).2]) ∧ Below w.heap.size w w' := by
  have htl := trim_len s.data.toList
  have hsz : s.data.toList.length = s.size := by simp
  by_cases h9 : (Lib.trimPrefix s.data.toList [45]).length ≤ 9
  · have hs18 : s.size ≤ 18 := by rw [htl, hsz] at h9; split at h9 <;> omega
    cases ha : Lib.atoi s.data.toList with
    | none =>
      have hr : Hid (parseInt s.data.toList = (0, false)) := by
        refine parse_none _ ?_
        cases h : parseOk s.data.toList with
        | false => rfl
        | true => have := (parse_some _ h).2.2; rw [ha] at this; cases this
      clear htl hsz
      have hA := Lib.hid ha
      clear ha
      go_enter Tryz.func182, Tryz.ntmps182
      go_wp2_with (first | (go_at_call 230; refine (Tryz.strings_TrimPrefix _ _ _).mono ?_; rintro e w1 ⟨rfl, rfl⟩) | (go_at_call 231; refine (atoi_none s hs18 hA _ hv).mono ?_; rintro e w2 ⟨⟨n, T, p, rfl⟩, hb⟩))
      go_ret2
      exact ⟨ret_int_bool (by rw [hr.out]) (by rw [hr.out]), hb⟩
    | some v =>
      have hb0 := Lib.atoi_bound ha (by rw [hsz]; exact hs18)
      have hb : -9223372036854775808 ≤ v ∧ v ≤ 9223372036854775807 := by omega
      have hA := Lib.hid ha
      clear ha
      by_cases hI : Lib.itoa v = s.data.toList
      · have hr : Hid (parseInt s.data.toList = (v, true)) := parse_spec _ _ hI (by rw [← htl]; exact h9)
        have hE : (Lib.itoa v == s.toList) = true := by rw [ByteArray.toList_eq, beq_iff_eq]; exact hI
        clear htl hsz hI
        go_enter Tryz.func182, Tryz.ntmps182
        go_wp2_with (first | (go_at_call 230; refine (Tryz.strings_TrimPrefix _ _ _).mono ?_; rintro e w1 ⟨rfl, rfl⟩) | (go_at_call 231; refine (atoi_some s v hs18 hA _).mono ?_; rintro e w2 ⟨rfl, hb2⟩) | (go_at_call 183; refine (implFormatInt_any _ _ hb.1 hb.2 (ht.below (by assumption))).mono ?_; rintro e w3 ⟨rfl, hb3⟩))
        go_ret2
        exact ⟨ret_int_bool (by rw [hr.out]) (by rw [hr.out]), hb2.trans (hb3.mono hb2.size)⟩
      · have hr : Hid (parseInt s.data.toList = (0, false)) := by
          refine parse_none _ ?_
          cases h : parseOk s.data.toList with
          | false => rfl
          | true =>
            obtain ⟨h1, _, h2⟩ := parse_some _ h
            rw [hA.out] at h2
            cases h2
            exact absurd h1 hI
        have hE : (Lib.itoa v == s.toList) = false := by rw [ByteArray.toList_eq, beq_eq_false_iff_ne]; exact hI
        clear htl hsz hI
        go_enter Tryz.func182, Tryz.ntmps182
        go_wp2_with (first | (go_at_call 230; refine (Tryz.strings_TrimPrefix _ _ _).mono ?_; rintro e w1 ⟨rfl, rfl⟩) | (go_at_call 231; refine (atoi_some s v hs18 hA _).mono ?_; rintro e w2 ⟨rfl, hb2⟩) | (go_at_call 183; refine (implFormatInt_any _ _ hb.1 hb.2 (ht.below (by assumption))).mono ?_; rintro e w3 ⟨rfl, hb3⟩))
        go_ret2
        exact ⟨ret_int_bool (by rw [hr.out]) (by rw [hr.out]), hb2.trans (hb3.mono hb2.size)⟩
  · have hr : Hid (parseInt s.data.toList = (0, false)) := by
      refine parse_none _ ?_
      cases h : parseOk s.data.toList with
      | false => rfl
      | true => have := (parse_some _ h).2.1; rw [← htl] at this; exact absurd this h9
    have h9' : (9 : Int) < ((Lib.trimPrefix s.data.toList [45]).length : Nat) := by omega
    clear htl hsz h9
    go_enter Tryz.func182, Tryz.ntmps182
    go_wp2_with (go_at_call 230; refine (Tryz.strings_TrimPrefix _ _ _).mono ?_; rintro e w1 ⟨rfl, rfl⟩)
    go_ret2
    exact ⟨ret_int_bool (by rw [hr.out]) (by rw [hr.out]), Below.refl _ _⟩

/-- internal/bytealg.MaxLen holds some int -/
def MaxL (w : World) : Prop := ∃ m : Int, w.cell? ⟨0, 0, none⟩ = some (.int .i64 m)
theorem MaxL.below {w w' : World} (h : MaxL w) (hb : Below w.heap.size w w') : MaxL w' := by
  obtain ⟨m, hm⟩ := h
  exact ⟨m, (hb.cell (p := ⟨0, 0, none⟩) (World.block_lt_of_cell? _ _ hm)).trans hm⟩
/-- a variable of type int holds some int, in every world of the program's shape -/
theorem int_of_shape {P : Program} {w : World} {g : Nat} {t : TypeId} {zero : Array Value} (h : w.ShapedOpen P) (hg : g < P.globals.size)
    (h0 : ((begin P (fun _ _ => 0) default).world.heap[g]?).bind Obj.row? = some (zero, t)) (hz : zero.size = 1) (hb : P.buildable t = true) (hc : P.cellTypes P.depth t = some [t]) (hu : P.underlying t = some (.int .i64)) :
    ∃ m, w.cell? ⟨g, 0, none⟩ = some (.int .i64 m) := by
  obtain ⟨cs, hh, hs, hr⟩ := h.1 g zero t hg h0
  obtain ⟨ts, hts, _, hall⟩ := hr hb
  have ht1 : ts = [t] := Option.some.inj (hts.symm.trans hc)
  have hpos : 0 < cs.size := by omega
  have hcell : w.cell? ⟨g, 0, none⟩ = some cs[0] := by simp [World.cell?, hh, hpos]
  obtain ⟨u, hu1, hok⟩ := hall 0 cs[0] (by simp [hpos])
  have hut : u = t := by rw [ht1] at hu1; simpa using hu1.symm
  rw [hcell]
  rw [hut] at hok
  simp only [Cell.ok, hu] at hok
  cases hv : cs[0] <;> rw [hv] at hok <;> simp at hok
  obtain ⟨rfl, _⟩ := hok
  exact ⟨_, rfl⟩
theorem maxL_of_shape {w : World} (h : w.ShapedOpen Tryz.prog) : MaxL w :=
  int_of_shape (zero := #[.int .i64 0]) (t := 3) h (of_decide_eq_true (by kernel_rfl)) (by kernel_rfl) rfl (by kernel_rfl) (by kernel_rfl) Tryz.underlying3

theorem implIsValidTerm_at (t : Int) (q : Bool) (hq : validT t = q) (w : World) :
    Calls Tryz.prog 218 #[.int .i64 t] w fun e w' => e = .returned (.bool q) ∧ w = w' := by
  subst hq
  by_cases h1 : -10 ≤ t
  · have hd1 : decide (-10 ≤ t) = true := decide_eq_true h1
    have HV := Lib.hid (show decide (t < 5) = validT t by unfold validT inB; rw [decide_eq_decide]; omega)
    clear h1
    go_enter Tryz.func218, Tryz.ntmps218
    go_wp2
    go_ret
    exact ⟨ret_bool HV.out, rfl⟩
  · have hd1 : decide (-10 ≤ t) = false := decide_eq_false h1
    have HV := Lib.hid (show validT t = false by unfold validT inB; exact decide_eq_false (by omega))
    clear h1
    go_enter Tryz.func218, Tryz.ntmps218
    go_wp2
    go_ret
    exact ⟨ret_bool HV.out.symm, rfl⟩
theorem implIsVariable_any (t : Int) (w : World) :
    Calls Tryz.prog 219 #[.int .i64 t] w fun e w' => e = .returned (.bool (decide (0 ≤ t))) ∧ w = w' := by
  go_enter Tryz.func219, Tryz.ntmps219
  go_wp2
  go_ret
  exact ⟨rfl, rfl⟩

end Go.Proofs.YtmecdjincmkofaaGreatDoor
