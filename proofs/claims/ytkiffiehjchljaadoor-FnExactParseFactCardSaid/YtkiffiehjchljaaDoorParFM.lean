/-
  Walks and plain lemmas for the laws of this seat: what single Go functions return, for every argument.
-/
import Derived.Lib.IndexMore
import Derived.Test.YtkiffiehjchljaaDoorFmtF
namespace Go.Proofs.YtkiffiehjchljaaDoor
open Go.RowKit

/-- what the program's ParseFact takes: the name ahead of the first parenthesis, the pieces ahead of the last one -/
def implPieces (s : List UInt8) : List (List UInt8) := cutN 44 (min 4 (s.length + 1) - 1) s
def implFact (l : List Rel) (s : List UInt8) : Option (Int × List Int) :=
  if Lib.hasSuffix (Lib.cut s [40]).2.1 [41] then match toVals (implPieces (Lib.trimSuffix (Lib.cut s [40]).2.1 [41])) with
  | some vs => if factOk l (relIdx ⟨(Lib.cut s [40]).1.toArray⟩ l) vs then some (relIdx ⟨(Lib.cut s [40]).1.toArray⟩ l, vs) else none
  | none => none else none
theorem index_none (c : UInt8) (s : List UInt8) (h : c ∉ s) : Lib.index s [c] = -1 := by
  induction s with
  | nil => rfl
  | cons b r ih =>
    rw [index_cons_ne c b r (fun e => h (by simp [e])), ih (fun e => h (by simp [e]))]; rfl
theorem index_app (c : UInt8) (p r : List UInt8) (h : c ∉ p) : Lib.index (p ++ c :: r) [c] = (p.length : Int) := by
  induction p with
  | nil => exact index_cons_eq c r
  | cons b q ih =>
    rw [List.cons_append, index_cons_ne c b _ (fun e => h (by simp [e])), ih (fun e => h (by simp [e]))]
    have : ((q.length : Int) == -1) = false := by rw [beq_eq_false_iff_ne]; omega
    rw [this]; simp
theorem split_at (c : UInt8) (s : List UInt8) (h : c ∈ s) : ∃ p r, c ∉ p ∧ s = p ++ c :: r := by
  induction s with
  | nil => simp at h
  | cons b t ih =>
    by_cases e : b = c
    · subst e; exact ⟨[], t, by simp, rfl⟩
    · obtain ⟨p, r, h1, h2⟩ := ih (by rcases List.mem_cons.1 h with h | h; exact absurd h.symm e; exact h)
      exact ⟨b :: p, r, by simp [h1]; exact fun h => e h.symm, by rw [h2]; rfl⟩
theorem cut_app (c : UInt8) (p r : List UInt8) (h : c ∉ p) : Lib.cut (p ++ c :: r) [c] = (p, r, true) := by
  unfold Lib.cut
  rw [index_app c p r h, if_pos (by omega)]
  simp
theorem cut_none (c : UInt8) (s : List UInt8) (h : c ∉ s) : Lib.cut s [c] = (s, [], false) := by
  unfold Lib.cut
  rw [index_none c s h]; rfl
theorem suf_app (p : List UInt8) (c : UInt8) : Lib.hasSuffix (p ++ [c]) [c] = true ∧ Lib.trimSuffix (p ++ [c]) [c] = p := by
  have h : Lib.hasSuffix (p ++ [c]) [c] = true := by unfold Lib.hasSuffix; rw [List.isSuffixOf_iff_suffix]; exact List.suffix_append _ _
  refine ⟨h, ?_⟩
  unfold Lib.trimSuffix; rw [h]; simp
theorem suf_form (s : List UInt8) (c : UInt8) (h : Lib.hasSuffix s [c] = true) : s = Lib.trimSuffix s [c] ++ [c] := by
  unfold Lib.trimSuffix
  rw [h]
  unfold Lib.hasSuffix at h
  rw [List.isSuffixOf_iff_suffix] at h
  obtain ⟨t, rfl⟩ := h
  simp
theorem relIdx_at (s : ByteArray) (l : List Rel) (h : 0 ≤ relIdx s l) : (relIdx s l).toNat < l.length ∧ (l.getD (relIdx s l).toNat zeroRel).name = s := by
  by_cases hn : ∃ j, ∃ h : j < l.length, l[j].name = s
  · obtain ⟨j, hj, he⟩ := hn
    have key : ∀ n, (∀ k, k < n → ∀ h : k < l.length, ¬ l[k].name = s) ∨ ∃ k, ∃ h : k < l.length, NoneTo s l k ∧ l[k].name = s := by
      intro n
      induction n with
      | zero => exact .inl (fun k hk => absurd hk (by omega))
      | succ n ih =>
        rcases ih with ih | ih
        · by_cases hln : n < l.length
          · by_cases hln2 : l[n].name = s
            · exact .inr ⟨n, hln, fun i hi hin => ih i hin hi, hln2⟩
            · refine .inl (fun k hk hkl => ?_)
              rcases Nat.lt_or_eq_of_le (Nat.le_of_lt_succ hk) with h1 | h1
              · exact ih k h1 hkl
              · subst h1; exact hln2
          · exact .inl (fun k hk hkl => ih k (by omega) hkl)
        · exact .inr ih
    rcases key (j + 1) with h1 | ⟨k, hk, h1, h2⟩
    · exact absurd he (h1 j (by omega) hj)
    · have e := h1.hit hk h2
      rw [e]
      simp only [Int.toNat_natCast]
      exact ⟨hk, by rw [getD_at hk]; exact h2⟩
  · have : relIdx s l = -1 := relIdxFrom_miss s l 0 (fun j hj he => hn ⟨j, hj, he⟩)
    omega
theorem implPieces_all (s : List UInt8) (h : (implPieces s).length ≤ 3) : implPieces s = cutA 44 s := by
  unfold implPieces at *
  rw [cutN_len] at h
  have := cutA_len 44 s
  exact cutN_all 44 _ s (by omega)
theorem implPieces_small (s : List UInt8) (h : (cutA 44 s).length ≤ 3) : implPieces s = cutA 44 s := by
  unfold implPieces
  have := cutA_len 44 s
  exact cutN_all 44 _ s (by omega)
theorem implFact_iff (l : List Rel) (s : List UInt8) (r : Int) (vs : List Int) : implFact l s = some (r, vs) ↔ factOk l r vs = true ∧ fmtFact l r vs = s := by
  constructor
  · intro h
    unfold implFact at h
    split at h
    · rename_i hsuf
      by_cases hm : (40 : UInt8) ∈ s
      · obtain ⟨p, q, hp, hs⟩ := split_at 40 s hm
        rw [hs, cut_app 40 p q hp] at h hsuf
        simp only at h hsuf
        have hq := suf_form q 41 hsuf
        generalize Lib.trimSuffix q [41] = t at *
        cases ht : toVals (implPieces t) with
        | none => rw [ht] at h; cases h
        | some m =>
          rw [ht] at h
          simp only at h
          split at h
          · rename_i hok
            cases h
            refine ⟨hok, ?_⟩
            obtain ⟨c, hc, hr, hb, hne, h3, hv⟩ := fact_form hok
            have hpos : 0 ≤ relIdx ⟨p.toArray⟩ l := (factOk_parts hok).2.1.1
            have hn := (relIdx_at _ _ hpos).2
            have hbk := (toVals_back _ _ ht).1
            have hlen : (implPieces t).length ≤ 3 := by rw [← hbk]; simpa using h3
            rw [implPieces_all t hlen] at hbk
            have hj : joinVals vs = t := by unfold joinVals; rw [hbk, join_cutA]
            rw [fmtFact_yes hok]
            unfold bodyF
            rw [hn, hs, hq, ← hj]
            rfl
          · cases h
      · rw [cut_none 40 s hm] at hsuf
        simp [Lib.hasSuffix, List.isSuffixOf] at hsuf
    · cases h
  · rintro ⟨ho, hf⟩
    obtain ⟨c, hc, hr, hb, hne, h3, hv⟩ := fact_form ho
    have h97 := name_byte l (factOk_parts ho).1 r.toNat (by have := (factOk_parts ho).2.1; omega)
    obtain ⟨c', hc', h97, h122⟩ := h97
    rw [getD_at (show r.toNat < l.length by have := (factOk_parts ho).2.1; omega), hc'] at hc
    have ecc : c' = c := by
      injection hc with hc
      injection hc with hc
      simpa using hc
    subst ecc
    rw [fmtFact_yes ho, hb] at hf
    have e : Lib.cut s [40] = ([c'], joinVals vs ++ [41], true) := by
      rw [← hf]
      refine cut_app 40 [c'] _ ?_
      rw [List.mem_singleton]
      rintro rfl
      exact absurd h97 (by decide)
    have hcut := vals_cut vs hne
    have hp : implPieces (joinVals vs) = vs.map fmtV := by
      rw [implPieces_small _ (by unfold joinVals; rw [hcut]; simpa using h3)]; exact hcut
    unfold implFact
    rw [e]
    simp only [(suf_app (joinVals vs) 41).1, (suf_app (joinVals vs) 41).2, if_true, hp, toVals_fmt vs hv]
    rw [show (⟨[c'].toArray⟩ : ByteArray) = ⟨#[c']⟩ from rfl, hr, ho]
    rfl
theorem implFact_eq (l : List Rel) (s : List UInt8) : implFact l s = parseFact l s := by
  cases h : implFact l s with
  | some x =>
    obtain ⟨r, vs⟩ := x
    exact ((parseFact_iff l s r vs).2 ((implFact_iff l s r vs).1 h)).symm
  | none =>
    cases h2 : parseFact l s with
    | none => rfl
    | some x =>
      obtain ⟨r, vs⟩ := x
      rw [(implFact_iff l s r vs).2 ((parseFact_iff l s r vs).1 h2)] at h; cases h
theorem cut_le (s p : List UInt8) : (Lib.cut s p).2.1.length ≤ s.length := by
  unfold Lib.cut; split <;> simp
theorem trimSuf_le (s p : List UInt8) : (Lib.trimSuffix s p).length ≤ s.length := by
  unfold Lib.trimSuffix; split
  · rw [List.length_take]; omega
  · exact Nat.le_refl _
theorem implFact_open {l : List Rel} {s : List UInt8} (h : Lib.hasSuffix (Lib.cut s [40]).2.1 [41] = false) : parseFact l s = none := by
  rw [← implFact_eq]; unfold implFact; rw [h]; rfl
theorem implFact_stop {l : List Rel} {s : List UInt8} (h : Lib.hasSuffix (Lib.cut s [40]).2.1 [41] = true) (P : List (List UInt8)) (hP : P = implPieces (Lib.trimSuffix (Lib.cut s [40]).2.1 [41])) (k : Nat) (hk : k < P.length) (hv : (parseV P[k]).2 = false) : parseFact l s = none := by
  have e : P = P.take k ++ P[k] :: P.drop (k + 1) := by rw [← List.drop_eq_getElem_cons hk, List.take_append_drop]
  have hn : toVals P = none := by rw [e]; exact toVals_none _ _ _ hv
  rw [← implFact_eq]; unfold implFact
  rw [h, if_pos rfl, ← hP, hn]
theorem implFact_end {l : List Rel} {s : List UInt8} (h : Lib.hasSuffix (Lib.cut s [40]).2.1 [41] = true) (P : List (List UInt8)) (hP : P = implPieces (Lib.trimSuffix (Lib.cut s [40]).2.1 [41])) {vs : List Int} (hv : toVals P = some vs) :
    parseFact l s = if factOk l (relIdx ⟨(Lib.cut s [40]).1.toArray⟩ l) vs then some (relIdx ⟨(Lib.cut s [40]).1.toArray⟩ l, vs) else none := by
  rw [← implFact_eq]; unfold implFact
  rw [h, if_pos rfl, ← hP, hv]

end Go.Proofs.YtkiffiehjchljaaDoor
