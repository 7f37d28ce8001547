/-
  Walks and plain lemmas for the laws of this seat: what single Go functions return, for every argument.
-/
import Derived.Lib.IndexMore
import Derived.Test.YtmecdjincmkofaaGreatDoorNum
import Derived.Test.YtmecdjincmkofaaGreatDoorFact
import Derived.Test.YtmecdjincmkofaaGreatDoorFmtV
namespace Go.Proofs.YtmecdjincmkofaaGreatDoor
open Go.RowKit

def bodyF (n : List UInt8) (vs : List Int) : List UInt8 := n ++ (40 :: (Lib.join (vs.map fmtV) [44] ++ [41]))
def fmtFact (l : List Rel) (r : Int) (vs : List Int) : List UInt8 := if factOk l r vs then bodyF (l.getD r.toNat zeroRel).name.data.toList vs else []
theorem fmtFact_no {l : List Rel} {r : Int} {vs : List Int} (h : factOk l r vs = false) : fmtFact l r vs = [] := by unfold fmtFact; rw [h]; rfl
theorem fmtFact_yes {l : List Rel} {r : Int} {vs : List Int} (h : factOk l r vs = true) : fmtFact l r vs = bodyF (l.getD r.toNat zeroRel).name.data.toList vs := by unfold fmtFact; rw [h]; rfl
theorem fmtFact_ne {l : List Rel} {r : Int} {vs : List Int} : fmtFact l r vs ≠ [] ↔ factOk l r vs = true := by
  constructor
  · intro h
    cases hf : factOk l r vs with
    | true => rfl
    | false => exact absurd (fmtFact_no hf) h
  · intro h
    rw [fmtFact_yes h]; unfold bodyF; simp
theorem itoa_nat (u : Nat) (h : u < 100) : ∀ b ∈ Lib.itoa (u : Int), 48 ≤ b.toNat ∧ b.toNat ≤ 57 := by
  rw [itoa_pos, decDigits_rec]
  have key : ∀ d, d < 10 → 48 ≤ (UInt8.ofNat (48 + d)).toNat ∧ (UInt8.ofNat (48 + d)).toNat ≤ 57 := by
    intro d hd
    rw [UInt8.toNat_ofNat', Nat.mod_eq_of_lt (by omega)]; omega
  split
  · intro b hb; rw [List.mem_singleton.1 hb]; exact key _ (by omega)
  · rw [decDigits_rec, if_pos (by omega)]
    intro b hb
    rcases List.mem_append.1 hb with hb | hb
    · rw [List.mem_singleton.1 hb]; exact key _ (by omega)
    · rw [List.mem_singleton.1 hb]; exact key _ (by omega)
/-- a value's text: 'n' and digits, or digits -/
theorem fmtV_bytes (v : Int) : ∀ b ∈ fmtV v, b = 110 ∨ 48 ≤ b.toNat ∧ b.toNat ≤ 57 := by
  intro b hb
  by_cases h0 : -40 ≤ v ∧ v < 0
  · rw [fmtV_null v h0] at hb
    rcases List.mem_cons.1 hb with rfl | hb
    · exact .inl rfl
    · obtain ⟨u, hu⟩ := Int.eq_ofNat_of_zero_le (a := -1 - v) (by omega)
      rw [hu] at hb
      exact .inr (itoa_nat u (by omega) b hb)
  · by_cases h : 0 ≤ v ∧ v ≤ 9
    · rw [fmtV_const v h] at hb
      obtain ⟨u, rfl⟩ := Int.eq_ofNat_of_zero_le (a := v) (by omega)
      exact .inr (itoa_nat u (by omega) b hb)
    · rw [fmtV_no v (by omega)] at hb; simp at hb
theorem fmtV_plain (v : Int) (c : UInt8) (hc : c ≠ 110) (hc2 : ¬(48 ≤ c.toNat ∧ c.toNat ≤ 57)) : c ∉ fmtV v := by
  intro h
  rcases fmtV_bytes v c h with h | h
  · exact hc h
  · exact hc2 h
theorem vals_cut (vs : List Int) (h : vs ≠ []) : cutA 44 (Lib.join (vs.map fmtV) [44]) = vs.map fmtV := by
  cases vs with
  | nil => exact absurd rfl h
  | cons v t =>
    rw [List.map_cons]
    refine cutA_join 44 _ _ (fun p hp => ?_)
    rw [← List.map_cons] at hp
    obtain ⟨q, _, rfl⟩ := List.mem_map.1 hp
    exact fmtV_plain q 44 (by decide) (by decide)
/-- the text of the first k values -/
def joinVals (vs : List Int) : List UInt8 := Lib.join (vs.map fmtV) [44]
theorem joinVals_one (vs : List Int) (h : 0 < vs.length) : joinVals (vs.take 1) = fmtV vs[0] := by
  unfold joinVals
  cases vs with
  | nil => simp at h
  | cons r t => simp [Lib.join_one]
theorem joinVals_succ (l : List Int) (k : Nat) (h0 : 0 < k) (h : k < l.length) : joinVals (l.take (k + 1)) = joinVals (l.take k) ++ ([44] ++ fmtV l[k]) := by
  unfold joinVals
  cases l with
  | nil => simp at h
  | cons r t =>
    obtain ⟨j, rfl⟩ : ∃ j, k = j + 1 := ⟨k - 1, by omega⟩
    rw [List.take_succ_cons, List.take_succ_cons, List.map_cons, List.map_cons, Lib.join_cons, Lib.join_cons, List.map_take, List.map_take]
    have hj : j < t.length := by simpa using h
    rw [Lib.joinTail_take_succ [44] (t.map fmtV) j (fmtV t[j]) (by simp [hj])]
    simp
theorem joinVals_len (l : List Int) (k : Nat) (hk : k ≤ l.length) : (joinVals (l.take k)).length ≤ 4 * k := by
  induction k with
  | zero => exact Nat.le_of_eq rfl
  | succ k ih =>
    have h1 := fmtV_len l[k]
    rcases Nat.eq_zero_or_pos k with h0 | h0
    · subst h0; rw [joinVals_one l (by omega)]; omega
    · rw [joinVals_succ l k h0 (by omega)]
      have := ih (by omega)
      simp only [List.length_append, List.length_cons, List.length_nil]; omega
/-- all pieces read as values -/
def toVals : List (List UInt8) → Option (List Int)
  | [] => some []
  | t :: r => if (parseV t).2 then (toVals r).map ((parseV t).1 :: ·) else none
theorem toVals_fmt (vs : List Int) (h : ∀ v ∈ vs, -40 ≤ v ∧ v ≤ 9) : toVals (vs.map fmtV) = some vs := by
  induction vs with
  | nil => rfl
  | cons v t ih => rw [List.map_cons, toVals, parseV_fmt v (h v (by simp)), ih (fun x hx => h x (by simp [hx]))]; rfl
theorem toVals_snoc (a : List (List UInt8)) (t : List UInt8) (l : List Int) (h : toVals a = some l) (ht : (parseV t).2 = true) : toVals (a ++ [t]) = some (l ++ [(parseV t).1]) := by
  induction a generalizing l with
  | nil => simp [toVals] at h; subst h; simp [toVals, ht]
  | cons x q ih =>
    rw [toVals] at h
    cases hx : (parseV x).2 with
    | false => rw [hx] at h; cases h
    | true =>
      cases hq : toVals q with
      | none => rw [hx, hq] at h; cases h
      | some m =>
        rw [hx, hq] at h
        cases h
        rw [List.cons_append, toVals, hx, ih m hq]; rfl
theorem toVals_none (a b : List (List UInt8)) (t : List UInt8) (h : (parseV t).2 = false) : toVals (a ++ t :: b) = none := by
  induction a with
  | nil => simp [toVals, h]
  | cons x r ih => rw [List.cons_append, toVals, ih]; simp
theorem toVals_len (a : List (List UInt8)) (l : List Int) (h : toVals a = some l) : l.length = a.length := by
  induction a generalizing l with
  | nil => simp [toVals] at h; subst h; rfl
  | cons x q ih =>
    rw [toVals] at h
    cases hx : (parseV x).2 with
    | false => rw [hx] at h; cases h
    | true =>
      cases hq : toVals q with
      | none => rw [hx, hq] at h; cases h
      | some m =>
        rw [hx, hq] at h
        cases h
        simp [ih m hq]
theorem toVals_back (a : List (List UInt8)) (l : List Int) (h : toVals a = some l) : l.map fmtV = a ∧ ∀ v ∈ l, -40 ≤ v ∧ v ≤ 9 := by
  induction a generalizing l with
  | nil => simp [toVals] at h; subst h; exact ⟨rfl, by simp⟩
  | cons x q ih =>
    rw [toVals] at h
    cases hx : (parseV x).2 with
    | false => rw [hx] at h; cases h
    | true =>
      cases hq : toVals q with
      | none => rw [hx, hq] at h; cases h
      | some m =>
        rw [hx, hq] at h
        cases h
        have hs := parseV_sound x hx
        refine ⟨by rw [List.map_cons, hs.1, (ih m hq).1], fun v hv => ?_⟩
        rcases List.mem_cons.1 hv with rfl | hv
        · exact hs.2
        · exact (ih m hq).2 v hv
/-- what the model's ParseFact takes -/
def parseFact (l : List Rel) (s : List UInt8) : Option (Int × List Int) :=
  if s.length < 3 then none else match toVals (cutA 44 ((s.drop 2).take (s.length - 3))) with
  | some vs => if fmtFact l (relIdx ⟨(s.take 1).toArray⟩ l) vs = s then some (relIdx ⟨(s.take 1).toArray⟩ l, vs) else none
  | none => none
/-- the names of a valid schema, in order -/
theorem name_less (l : List Rel) (h : validRels l = true) (k : Nat) (hk : k + 1 < l.length) : Op.bytesLess l[k].name.toList l[k + 1].name.toList = true := by
  have hr := validRels_at l h (k + 1) hk
  unfold validRels okTo at h
  simp only [Bool.and_eq_true, List.all_eq_true] at h
  have := h.1 (k + 1) (List.mem_range.2 hk)
  rwa [okAt_succ l k hk hr] at this
theorem name_byte (l : List Rel) (h : validRels l = true) (k : Nat) (hk : k < l.length) : ∃ c : UInt8, l[k].name = ⟨#[c]⟩ ∧ 97 ≤ c.toNat ∧ c.toNat ≤ 122 := by
  obtain ⟨c, h1, h2, h3, _⟩ := relOk_form _ (validRels_at l h k hk)
  exact ⟨c, h1, h2, h3⟩
theorem less_one (a b : UInt8) : Op.bytesLess (⟨#[a]⟩ : ByteArray).toList (⟨#[b]⟩ : ByteArray).toList = true → a.toNat < b.toNat := by
  rw [ByteArray.toList_eq, ByteArray.toList_eq]
  intro h
  simp [Op.bytesLess] at h
  exact UInt8.lt_iff_toNat_lt.1 h
theorem names_asc (l : List Rel) (h : validRels l = true) (j k : Nat) (hjk : j < k) (hk : k < l.length) : ∀ (a b : UInt8), l[j].name = ⟨#[a]⟩ → l[k].name = ⟨#[b]⟩ → a.toNat < b.toNat := by
  induction k with
  | zero => omega
  | succ k ih =>
    intro a b ha hb
    obtain ⟨c, hc, _⟩ := name_byte l h k (by omega)
    have h1 := name_less l h k hk
    rw [hc, hb] at h1
    have h2 := less_one c b h1
    rcases Nat.lt_or_eq_of_le (Nat.le_of_lt_succ hjk) with hlt | heq
    · have := ih hlt (by omega) a c ha hc; omega
    · subst heq
      rw [ha] at hc
      injection hc with hc
      injection hc with hc
      simp at hc
      subst hc
      exact h2
theorem relIdx_name (l : List Rel) (h : validRels l = true) (k : Nat) (hk : k < l.length) : relIdx l[k].name l = (k : Int) := by
  refine NoneTo.hit (k := k) (fun j hj hjk he => ?_) hk rfl
  obtain ⟨a, ha, _⟩ := name_byte l h j hj
  obtain ⟨b, hb, _⟩ := name_byte l h k hk
  have := names_asc l h j k hjk hk a b ha hb
  rw [ha, hb] at he
  injection he with he
  injection he with he
  simp at he
  subst he; omega
theorem fact_form {l : List Rel} {r : Int} {vs : List Int} (h : factOk l r vs = true) : ∃ c : UInt8, (l.getD r.toNat zeroRel).name = ⟨#[c]⟩ ∧ relIdx ⟨#[c]⟩ l = r ∧ bodyF (l.getD r.toNat zeroRel).name.data.toList vs = c :: 40 :: (joinVals vs ++ [41]) ∧ vs ≠ [] ∧ vs.length ≤ 3 ∧ ∀ v ∈ vs, -40 ≤ v ∧ v ≤ 9 := by
  obtain ⟨h1, h2, h3, h4⟩ := factOk_parts h
  have hk : r.toNat < l.length := by omega
  obtain ⟨c, hc, _⟩ := name_byte l h1 r.toNat hk
  have hr := relIdx_name l h1 r.toNat hk
  rw [hc] at hr
  have ha := relOk_bd _ _ (validRels_at l h1 r.toNat hk)
  rw [arityAt_in hk] at h3
  refine ⟨c, by rw [getD_at hk]; exact hc, by rw [hr]; omega, by rw [getD_at hk, hc]; rfl, fun e => by subst e; simp at h3; omega, by omega, fun v hv => ?_⟩
  obtain ⟨i, hi, rfl⟩ := List.getElem_of_mem hv
  have := h4 i hi
  unfold validV at this
  simpa using this
theorem joinVals_ne (vs : List Int) (h : vs ≠ []) (hv : ∀ v ∈ vs, -40 ≤ v ∧ v ≤ 9) : 0 < (joinVals vs).length := by
  cases vs with
  | nil => exact absurd rfl h
  | cons v t =>
    have := fmtV_ne v (hv v (by simp))
    unfold joinVals
    rw [List.map_cons, Lib.join_cons, List.length_append]
    have : 0 < (fmtV v).length := List.length_pos_iff.2 this
    omega
theorem parseFact_iff (l : List Rel) (s : List UInt8) (r : Int) (vs : List Int) : parseFact l s = some (r, vs) ↔ factOk l r vs = true ∧ fmtFact l r vs = s := by
  constructor
  · intro h
    unfold parseFact at h
    split at h
    · cases h
    · rename_i hlen
      cases ht : toVals (cutA 44 ((s.drop 2).take (s.length - 3))) with
      | none => rw [ht] at h; cases h
      | some m =>
        rw [ht] at h
        simp only at h
        split at h
        · rename_i hm
          cases h
          refine ⟨?_, hm⟩
          rw [← fmtFact_ne, hm]
          rintro rfl
          simp at hlen
        · cases h
  · rintro ⟨ho, hf⟩
    obtain ⟨c, _, hr, hb, hne, _, hv⟩ := fact_form ho
    have hf' := hf
    rw [fmtFact_yes ho, hb] at hf
    have hl : s.length = (joinVals vs).length + 3 := by rw [← hf]; simp
    have hj := joinVals_ne vs hne hv
    have h1 : s.take 1 = [c] := by rw [← hf]; rfl
    have h2 : (s.drop 2).take (s.length - 3) = joinVals vs := by rw [hl, ← hf]; simp
    have h3 : cutA 44 (joinVals vs) = vs.map fmtV := vals_cut vs hne
    unfold parseFact
    rw [if_neg (by omega), h2, h3, toVals_fmt vs hv, h1, show (⟨[c].toArray⟩ : ByteArray) = ⟨#[c]⟩ from rfl, hr]
    simp [hf']
theorem relIdxFrom_bd (s : ByteArray) (l : List Rel) (i : Nat) : -1 ≤ relIdxFrom s l i ∧ relIdxFrom s l i < (i : Int) + l.length := by
  induction l generalizing i with
  | nil => simp [relIdxFrom]; omega
  | cons a t ih =>
    unfold relIdxFrom
    have := ih (i + 1)
    split
    · simp; omega
    · simp at this ⊢; omega
theorem relIdx_bd (s : ByteArray) (l : List Rel) : -1 ≤ relIdx s l ∧ relIdx s l < l.length := by
  have := relIdxFrom_bd s l 0
  unfold relIdx; simpa using this
/-- the pieces between the commas -/
def piecesF (s : List UInt8) : List (List UInt8) := cutA 44 ((s.drop 2).take (s.length - 3))
theorem parseFact_stop {l : List Rel} {s : List UInt8} (k : Nat) (hk : k < (piecesF s).length) (h : (parseV (piecesF s)[k]).2 = false) : parseFact l s = none := by
  have e : piecesF s = (piecesF s).take k ++ (piecesF s)[k] :: (piecesF s).drop (k + 1) := by rw [← List.drop_eq_getElem_cons hk, List.take_append_drop]
  have hn : toVals (piecesF s) = none := by rw [e]; exact toVals_none _ _ _ h
  unfold piecesF at hn
  unfold parseFact
  rw [hn]; split <;> rfl
theorem parseFact_end {l : List Rel} {s : List UInt8} {vs : List Int} (h3 : ¬ s.length < 3) (h : toVals (piecesF s) = some vs) :
    parseFact l s = if fmtFact l (relIdx ⟨(s.take 1).toArray⟩ l) vs = s then some (relIdx ⟨(s.take 1).toArray⟩ l, vs) else none := by
  unfold piecesF at h
  unfold parseFact
  rw [if_neg h3, h]
theorem toVals_next {P : List (List UInt8)} {k : Nat} (hk : k < P.length) {l : List Int} (h : toVals (P.take k) = some l) (ht : (parseV P[k]).2 = true) : toVals (P.take (k + 1)) = some (l ++ [(parseV P[k]).1]) := by
  rw [List.take_succ_eq_append_getElem hk]; exact toVals_snoc _ _ _ h ht
theorem fmtFact_len (l : List Rel) (r : Int) (vs : List Int) (h : vs.length ≤ 3) : (fmtFact l r vs).length ≤ 30 := by
  cases hf : factOk l r vs with
  | false => rw [fmtFact_no hf]; simp
  | true =>
    obtain ⟨c, -, -, hb, -⟩ := fact_form hf
    rw [fmtFact_yes hf, hb]
    have h1 := joinVals_len vs vs.length (Nat.le_refl _)
    rw [List.take_length] at h1
    simp
    omega

theorem join_mem (L : List (List UInt8)) (sep : List UInt8) (b : UInt8) (h : b ∈ Lib.join L sep) : b ∈ sep ∨ ∃ p ∈ L, b ∈ p := by
  cases L with
  | nil => simp [Lib.join] at h
  | cons x t =>
    rw [Lib.join_cons] at h
    rcases List.mem_append.1 h with h | h
    · exact .inr ⟨x, by simp, h⟩
    · have h' : b ∈ (t.map (sep ++ ·)).flatten := h
      rw [List.mem_flatten] at h'
      obtain ⟨q, hq, hb⟩ := h'
      obtain ⟨p, hp, rfl⟩ := List.mem_map.1 hq
      rcases List.mem_append.1 hb with hb | hb
      · exact .inl hb
      · exact .inr ⟨p, by simp [hp], hb⟩

/-- what the program's ParseFact takes: the name ahead of the first parenthesis, the pieces ahead of the last one -/
def implPieces (s : List UInt8) : List (List UInt8) := cutN 44 (min 4 (s.length + 1) - 1) s
def implFact (l : List Rel) (s : List UInt8) : Option (Int × List Int) :=
  if Lib.hasSuffix (Lib.cut s [40]).2.1 [41] then match toVals (implPieces (Lib.trimSuffix (Lib.cut s [40]).2.1 [41])) with
  | some vs => if factOk l (relIdx ⟨(Lib.cut s [40]).1.toArray⟩ l) vs then some (relIdx ⟨(Lib.cut s [40]).1.toArray⟩ l, vs) else none
  | none => none else none
theorem index_none (c : UInt8) (s : List UInt8) (h : c ∉ s) : Lib.index s [c] = -1 := by
  induction s with
  | nil => rfl
  | cons b r ih =>
    rw [index_cons_ne c b r (fun e => h (by simp [e])), ih (fun e => h (by simp [e]))]; rfl
theorem index_app (c : UInt8) (p r : List UInt8) (h : c ∉ p) : Lib.index (p ++ c :: r) [c] = (p.length : Int) := by
  induction p with
  | nil => exact index_cons_eq c r
  | cons b q ih =>
    rw [List.cons_append, index_cons_ne c b _ (fun e => h (by simp [e])), ih (fun e => h (by simp [e]))]
    have : ((q.length : Int) == -1) = false := by rw [beq_eq_false_iff_ne]; omega
    rw [this]; simp
theorem split_at (c : UInt8) (s : List UInt8) (h : c ∈ s) : ∃ p r, c ∉ p ∧ s = p ++ c :: r := by
  induction s with
  | nil => simp at h
  | cons b t ih =>
    by_cases e : b = c
    · subst e; exact ⟨[], t, by simp, rfl⟩
    · obtain ⟨p, r, h1, h2⟩ := ih (by rcases List.mem_cons.1 h with h | h; exact absurd h.symm e; exact h)
      exact ⟨b :: p, r, by simp [h1]; exact fun h => e h.symm, by rw [h2]; rfl⟩
theorem cut_app (c : UInt8) (p r : List UInt8) (h : c ∉ p) : Lib.cut (p ++ c :: r) [c] = (p, r, true) := by
  unfold Lib.cut
  rw [index_app c p r h, if_pos (by omega)]
  simp
theorem cut_none (c : UInt8) (s : List UInt8) (h : c ∉ s) : Lib.cut s [c] = (s, [], false) := by
  unfold Lib.cut
  rw [index_none c s h]; rfl
theorem suf_app (p : List UInt8) (c : UInt8) : Lib.hasSuffix (p ++ [c]) [c] = true ∧ Lib.trimSuffix (p ++ [c]) [c] = p := by
  have h : Lib.hasSuffix (p ++ [c]) [c] = true := by unfold Lib.hasSuffix; rw [List.isSuffixOf_iff_suffix]; exact List.suffix_append _ _
  refine ⟨h, ?_⟩
  unfold Lib.trimSuffix; rw [h]; simp
theorem suf_form (s : List UInt8) (c : UInt8) (h : Lib.hasSuffix s [c] = true) : s = Lib.trimSuffix s [c] ++ [c] := by
  unfold Lib.trimSuffix
  rw [h]
  unfold Lib.hasSuffix at h
  rw [List.isSuffixOf_iff_suffix] at h
  obtain ⟨t, rfl⟩ := h
  simp
theorem relIdx_at (s : ByteArray) (l : List Rel) (h : 0 ≤ relIdx s l) : (relIdx s l).toNat < l.length ∧ (l.getD (relIdx s l).toNat zeroRel).name = s := by
  by_cases hn : ∃ j, ∃ h : j < l.length, l[j].name = s
  · obtain ⟨j, hj, he⟩ := hn
    have key : ∀ n, (∀ k, k < n → ∀ h : k < l.length, ¬ l[k].name = s) ∨ ∃ k, ∃ h : k < l.length, NoneTo s l k ∧ l[k].name = s := by
      intro n
      induction n with
      | zero => exact .inl (fun k hk => absurd hk (by omega))
      | succ n ih =>
        rcases ih with ih | ih
        · by_cases hln : n < l.length
          · by_cases hln2 : l[n].name = s
            · exact .inr ⟨n, hln, fun i hi hin => ih i hin hi, hln2⟩
            · refine .inl (fun k hk hkl => ?_)
              rcases Nat.lt_or_eq_of_le (Nat.le_of_lt_succ hk) with h1 | h1
              · exact ih k h1 hkl
              · subst h1; exact hln2
          · exact .inl (fun k hk hkl => ih k (by omega) hkl)
        · exact .inr ih
    rcases key (j + 1) with h1 | ⟨k, hk, h1, h2⟩
    · exact absurd he (h1 j (by omega) hj)
    · have e := h1.hit hk h2
      rw [e]
      simp only [Int.toNat_natCast]
      exact ⟨hk, by rw [getD_at hk]; exact h2⟩
  · have : relIdx s l = -1 := relIdxFrom_miss s l 0 (fun j hj he => hn ⟨j, hj, he⟩)
    omega
theorem implPieces_all (s : List UInt8) (h : (implPieces s).length ≤ 3) : implPieces s = cutA 44 s := by
  unfold implPieces at *
  rw [cutN_len] at h
  have := cutA_len 44 s
  exact cutN_all 44 _ s (by omega)
theorem implPieces_small (s : List UInt8) (h : (cutA 44 s).length ≤ 3) : implPieces s = cutA 44 s := by
  unfold implPieces
  have := cutA_len 44 s
  exact cutN_all 44 _ s (by omega)
theorem implFact_iff (l : List Rel) (s : List UInt8) (r : Int) (vs : List Int) : implFact l s = some (r, vs) ↔ factOk l r vs = true ∧ fmtFact l r vs = s := by
  constructor
  · intro h
    unfold implFact at h
    split at h
    · rename_i hsuf
      by_cases hm : (40 : UInt8) ∈ s
      · obtain ⟨p, q, hp, hs⟩ := split_at 40 s hm
        rw [hs, cut_app 40 p q hp] at h hsuf
        simp only at h hsuf
        have hq := suf_form q 41 hsuf
        generalize Lib.trimSuffix q [41] = t at *
        cases ht : toVals (implPieces t) with
        | none => rw [ht] at h; cases h
        | some m =>
          rw [ht] at h
          simp only at h
          split at h
          · rename_i hok
            cases h
            refine ⟨hok, ?_⟩
            obtain ⟨c, hc, hr, hb, hne, h3, hv⟩ := fact_form hok
            have hpos : 0 ≤ relIdx ⟨p.toArray⟩ l := (factOk_parts hok).2.1.1
            have hn := (relIdx_at _ _ hpos).2
            have hbk := (toVals_back _ _ ht).1
            have hlen : (implPieces t).length ≤ 3 := by rw [← hbk]; simpa using h3
            rw [implPieces_all t hlen] at hbk
            have hj : joinVals vs = t := by unfold joinVals; rw [hbk, join_cutA]
            rw [fmtFact_yes hok]
            unfold bodyF
            rw [hn, hs, hq, ← hj]
            rfl
          · cases h
      · rw [cut_none 40 s hm] at hsuf
        simp [Lib.hasSuffix, List.isSuffixOf] at hsuf
    · cases h
  · rintro ⟨ho, hf⟩
    obtain ⟨c, hc, hr, hb, hne, h3, hv⟩ := fact_form ho
    have h97 := name_byte l (factOk_parts ho).1 r.toNat (by have := (factOk_parts ho).2.1; omega)
    obtain ⟨c', hc', h97, h122⟩ := h97
    rw [getD_at (show r.toNat < l.length by have := (factOk_parts ho).2.1; omega), hc'] at hc
    have ecc : c' = c := by
      injection hc with hc
      injection hc with hc
      simpa using hc
    subst ecc
    rw [fmtFact_yes ho, hb] at hf
    have e : Lib.cut s [40] = ([c'], joinVals vs ++ [41], true) := by
      rw [← hf]
      refine cut_app 40 [c'] _ ?_
      rw [List.mem_singleton]
      rintro rfl
      exact absurd h97 (by decide)
    have hcut := vals_cut vs hne
    have hp : implPieces (joinVals vs) = vs.map fmtV := by
      rw [implPieces_small _ (by unfold joinVals; rw [hcut]; simpa using h3)]; exact hcut
    unfold implFact
    rw [e]
    simp only [(suf_app (joinVals vs) 41).1, (suf_app (joinVals vs) 41).2, if_true, hp, toVals_fmt vs hv]
    rw [show (⟨[c'].toArray⟩ : ByteArray) = ⟨#[c']⟩ from rfl, hr, ho]
    rfl
theorem implFact_eq (l : List Rel) (s : List UInt8) : implFact l s = parseFact l s := by
  cases h : implFact l s with
  | some x =>
    obtain ⟨r, vs⟩ := x
    exact ((parseFact_iff l s r vs).2 ((implFact_iff l s r vs).1 h)).symm
  | none =>
    cases h2 : parseFact l s with
    | none => rfl
    | some x =>
      obtain ⟨r, vs⟩ := x
      rw [(implFact_iff l s r vs).2 ((parseFact_iff l s r vs).1 h2)] at h; cases h
theorem cut_le (s p : List UInt8) : (Lib.cut s p).2.1.length ≤ s.length := by
  unfold Lib.cut; split <;> simp
theorem trimSuf_le (s p : List UInt8) : (Lib.trimSuffix s p).length ≤ s.length := by
  unfold Lib.trimSuffix; split
  · rw [List.length_take]; omega
  · exact Nat.le_refl _
theorem implFact_open {l : List Rel} {s : List UInt8} (h : Lib.hasSuffix (Lib.cut s [40]).2.1 [41] = false) : parseFact l s = none := by
  rw [← implFact_eq]; unfold implFact; rw [h]; rfl
theorem implFact_stop {l : List Rel} {s : List UInt8} (h : Lib.hasSuffix (Lib.cut s [40]).2.1 [41] = true) (P : List (List UInt8)) (hP : P = implPieces (Lib.trimSuffix (Lib.cut s [40]).2.1 [41])) (k : Nat) (hk : k < P.length) (hv : (parseV P[k]).2 = false) : parseFact l s = none := by
  have e : P = P.take k ++ P[k] :: P.drop (k + 1) := by rw [← List.drop_eq_getElem_cons hk, List.take_append_drop]
  have hn : toVals P = none := by rw [e]; exact toVals_none _ _ _ hv
  rw [← implFact_eq]; unfold implFact
  rw [h, if_pos rfl, ← hP, hn]
theorem implFact_end {l : List Rel} {s : List UInt8} (h : Lib.hasSuffix (Lib.cut s [40]).2.1 [41] = true) (P : List (List UInt8)) (hP : P = implPieces (Lib.trimSuffix (Lib.cut s [40]).2.1 [41])) {vs : List Int} (hv : toVals P = some vs) :
    parseFact l s = if factOk l (relIdx ⟨(Lib.cut s [40]).1.toArray⟩ l) vs then some (relIdx ⟨(Lib.cut s [40]).1.toArray⟩ l, vs) else none := by
  rw [← implFact_eq]; unfold implFact
  rw [h, if_pos rfl, ← hP, hv]

end Go.Proofs.YtmecdjincmkofaaGreatDoor
