/-
  Walks and plain lemmas for the laws of this seat: what single Go functions return, for every argument.
-/
import Derived.Test.YtmecdjincmkofaaGreatDoorBase
import Derived.Test.YtmecdjincmkofaaGreatDoorTyDepS
import Derived.Test.YtmecdjincmkofaaGreatDoorFact
import Derived.Test.YtmecdjincmkofaaGreatDoorFmtF
import Derived.Test.YtmecdjincmkofaaGreatDoorMInst
namespace Go.Proofs.YtmecdjincmkofaaGreatDoor
open Go.RowKit

/-- the variables among terms, one after another -/
def posOf (vs : List Int) : List Int := vs.filter fun t => decide (0 ≤ t)
def vposOf (l : List Atm) : List Int := l.flatMap fun a => posOf a.vals
theorem posOf_take (vs : List Int) (k : Nat) (h : k < vs.length) : posOf (vs.take (k + 1)) = posOf (vs.take k) ++ (if 0 ≤ vs[k] then [vs[k]] else []) := by
  unfold posOf
  rw [List.take_succ_eq_append_getElem h, List.filter_append]
  congr 1
  by_cases hp : 0 ≤ vs[k] <;> simp [hp]
theorem posOf_len (vs : List Int) : (posOf vs).length ≤ vs.length := List.length_filter_le _ _
theorem vposOf_take (l : List Atm) (k : Nat) (h : k < l.length) : vposOf (l.take (k + 1)) = vposOf (l.take k) ++ posOf l[k].vals := by
  unfold vposOf; rw [List.take_succ_eq_append_getElem h, List.flatMap_append]; simp
theorem vposOf_len (l : List Atm) : (vposOf l).length ≤ avalsLen l := by
  induction l with
  | nil => simp [vposOf]
  | cons a t ih =>
    have h1 := posOf_len a.vals
    unfold vposOf at ih ⊢
    rw [List.flatMap_cons, List.length_append]
    simp only [avalsLen]; omega
theorem addTerms_mem (vs out : List Int) (x : Int) : x ∈ addTerms out vs ↔ x ∈ out ∨ x ∈ posOf vs := by
  induction vs generalizing out with
  | nil => simp [addTerms, posOf]
  | cons a t ih =>
    have h := ih (addVar out a)
    unfold addTerms at h ⊢
    rw [List.foldl_cons, h]
    unfold addVar posOf
    rw [List.filter_cons]
    by_cases hp : 0 ≤ a
    · rw [if_pos hp, decide_eq_true hp, if_pos rfl, putI_mem, List.mem_cons]
      constructor
      · rintro ((h | h) | h)
        · exact .inr (.inl h)
        · exact .inl h
        · exact .inr (.inr h)
      · rintro (h | h | h)
        · exact .inl (.inr h)
        · exact .inl (.inl h)
        · exact .inr h
    · rw [if_neg hp, decide_eq_false hp]; simp
theorem varsFold_mem (l : List Atm) (out : List Int) (x : Int) : x ∈ l.foldl (fun o a => addTerms o a.vals) out ↔ x ∈ out ∨ x ∈ vposOf l := by
  induction l generalizing out with
  | nil => simp [vposOf]
  | cons a t ih =>
    rw [List.foldl_cons, ih, addTerms_mem]
    unfold vposOf
    rw [List.flatMap_cons, List.mem_append, or_assoc]
theorem varsOf_mem (l : List Atm) (x : Int) : x ∈ varsOf l ↔ x ∈ vposOf l := by
  unfold varsOf; rw [varsFold_mem]; simp
theorem addTerms_asc (vs out : List Int) (h : out.Pairwise (· < ·)) : (addTerms out vs).Pairwise (· < ·) := by
  induction vs generalizing out with
  | nil => exact h
  | cons a t ih =>
    unfold addTerms
    rw [List.foldl_cons]
    refine ih _ ?_
    unfold addVar
    split
    · exact putI_asc out a h
    · exact h
theorem varsOf_asc (l : List Atm) : (varsOf l).Pairwise (· < ·) := by
  have : ∀ (l : List Atm) (out : List Int), out.Pairwise (· < ·) → (l.foldl (fun o a => addTerms o a.vals) out).Pairwise (· < ·) := by
    intro l
    induction l with
    | nil => intro out h; exact h
    | cons a t ih => intro out h; rw [List.foldl_cons]; exact ih _ (addTerms_asc a.vals out h)
  exact this l [] List.Pairwise.nil
/-- sorted, doubles dropped: the variables in ascending order -/
theorem compact_vars (l : List Atm) : Lib.compact ((vposOf l).mergeSort fun x y => decide (x ≤ y)) = varsOf l := by
  have hs : ((vposOf l).mergeSort fun x y => decide (x ≤ y)).Pairwise (· ≤ ·) := by
    have := List.pairwise_mergeSort (le := fun (x y : Int) => decide (x ≤ y)) (by intro a b c; simp; omega) (by intro a b; simp; omega) (vposOf l)
    exact this.imp (fun h => by simpa using h)
  obtain ⟨h1, h2⟩ := compact_upTo _ hs _ (Nat.le_refl _)
  refine asc_eq _ _ h1 (varsOf_asc l) (fun x => ?_)
  unfold Lib.compact
  rw [h2, List.take_of_length_le (Nat.le_refl _), List.mem_mergeSort, varsOf_mem]

/-- a valid term's byte -/
def termB (t : Int) : UInt8 := if t < 0 then UInt8.ofNat (48 + (-1 - t).toNat) else if t = 0 then 120 else if t = 1 then 121 else if t = 2 then 122 else if t = 3 then 117 else 118
def fmtT (t : Int) : List UInt8 := if validT t = true then [termB t] else []
def termOf (c : UInt8) : Int := if 48 ≤ c.toNat ∧ c.toNat ≤ 57 then 47 - (c.toNat : Int) else if c = 120 then 0 else if c = 121 then 1 else if c = 122 then 2 else if c = 117 then 3 else if c = 118 then 4 else 5
theorem validT_iff (t : Int) : validT t = true ↔ -10 ≤ t ∧ t ≤ 4 := by unfold validT inB; exact decide_eq_true_iff
theorem term_cases {t : Int} (h : validT t = true) : t = -10 ∨ t = -9 ∨ t = -8 ∨ t = -7 ∨ t = -6 ∨ t = -5 ∨ t = -4 ∨ t = -3 ∨ t = -2 ∨ t = -1 ∨ t = 0 ∨ t = 1 ∨ t = 2 ∨ t = 3 ∨ t = 4 := by
  have := (validT_iff t).1 h; omega
theorem termOf_termB {t : Int} (h : validT t = true) : termOf (termB t) = t := by
  rcases term_cases h with rfl | rfl | rfl | rfl | rfl | rfl | rfl | rfl | rfl | rfl | rfl | rfl | rfl | rfl | rfl <;> decide
theorem termB_plain {t : Int} (h : validT t = true) : 48 ≤ (termB t).toNat ∧ (termB t).toNat ≤ 57 ∨ 97 ≤ (termB t).toNat ∧ (termB t).toNat ≤ 122 := by
  rcases term_cases h with rfl | rfl | rfl | rfl | rfl | rfl | rfl | rfl | rfl | rfl | rfl | rfl | rfl | rfl | rfl <;> decide
theorem termOf_bd (c : UInt8) : -10 ≤ termOf c ∧ termOf c ≤ 5 := by
  unfold termOf
  split
  · omega
  · repeat' split
    all_goals omega
theorem termB_termOf {c : UInt8} (h : termOf c ≤ 4) : termB (termOf c) = c := by
  unfold termOf at h ⊢
  split at h
  · rename_i hc
    rw [if_pos hc]
    unfold termB
    rw [if_pos (by omega)]
    have e : 48 + (-1 - (47 - (c.toNat : Int))).toNat = c.toNat := by omega
    rw [e]; simp
  · rename_i hc
    rw [if_neg hc]
    split at h
    · rename_i e; rw [if_pos e, e]; rfl
    · rename_i e; rw [if_neg e]
      split at h
      · rename_i e; rw [if_pos e, e]; rfl
      · rename_i e; rw [if_neg e]
        split at h
        · rename_i e; rw [if_pos e, e]; rfl
        · rename_i e; rw [if_neg e]
          split at h
          · rename_i e; rw [if_pos e, e]; rfl
          · rename_i e; rw [if_neg e]
            split at h
            · rename_i e; rw [if_pos e, e]; rfl
            · omega
/-- a term's text is that byte alone -/
theorem fmtT_is {t : Int} {c : UInt8} (h : validT t = true) : fmtT t = [c] ↔ termOf c = t := by
  unfold fmtT
  rw [if_pos h]
  constructor
  · intro e
    injection e with e
    rw [← e]; exact termOf_termB h
  · intro e
    have h1 := (validT_iff t).1 h
    rw [← e, termB_termOf (by omega)]
theorem fmtT_len (t : Int) : (fmtT t).length ≤ 1 := by unfold fmtT; split <;> simp
theorem fmtT_yes {t : Int} (h : validT t = true) : fmtT t = [termB t] := if_pos h
theorem fmtT_no {t : Int} (h : validT t = false) : fmtT t = [] := if_neg (by rw [h]; simp)
theorem itoa_one (u : Nat) (h : u < 10) : Lib.itoa (u : Int) = [UInt8.ofNat (48 + u)] := by
  rw [itoa_pos, decDigits_rec, if_pos h]
theorem fmtT_const {t : Int} (h : -10 ≤ t ∧ t < 0) : fmtT t = Lib.itoa (-1 - t) := by
  rw [fmtT_yes ((validT_iff t).2 (by omega))]
  obtain ⟨u, hu⟩ := Int.eq_ofNat_of_zero_le (a := -1 - t) (by omega)
  rw [hu, itoa_one u (by omega)]
  unfold termB
  rw [if_pos h.2, hu]; rfl
/-- terms' texts, one after another -/
def fmtTs (vs : List Int) : List UInt8 := vs.flatMap fmtT
theorem fmtTs_take (vs : List Int) (k : Nat) (h : k < vs.length) : fmtTs (vs.take (k + 1)) = fmtTs (vs.take k) ++ fmtT vs[k] := by
  unfold fmtTs; rw [List.take_succ_eq_append_getElem h, List.flatMap_append]; simp
theorem fmtTs_len (vs : List Int) : (fmtTs vs).length ≤ vs.length := by
  induction vs with
  | nil => simp [fmtTs]
  | cons a t ih =>
    have := fmtT_len a
    unfold fmtTs at ih ⊢
    rw [List.flatMap_cons, List.length_append, List.length_cons]; omega
theorem fmtTs_all (vs : List Int) (h : ∀ t ∈ vs, validT t = true) : fmtTs vs = vs.map termB := by
  induction vs with
  | nil => rfl
  | cons a t ih =>
    unfold fmtTs at ih ⊢
    rw [List.flatMap_cons, fmtT_yes (h a (by simp)), ih (fun x hx => h x (by simp [hx]))]; rfl
def nameAt (l : List Rel) (r : Int) : ByteArray := (l.getD r.toNat zeroRel).name
def fmtAtom (l : List Rel) (a : Atm) : List UInt8 := if atomB l a = true then (nameAt l a.rel).data.toList ++ fmtTs a.vals else []
theorem fmtAtom_no {l : List Rel} {a : Atm} (h : atomB l a = false) : fmtAtom l a = [] := if_neg (by rw [h]; simp)
theorem fmtAtom_yes {l : List Rel} {a : Atm} (h : atomB l a = true) : fmtAtom l a = (nameAt l a.rel).data.toList ++ fmtTs a.vals := if_pos h
theorem atom_form {l : List Rel} {a : Atm} (h : atomB l a = true) : ∃ c : UInt8, nameAt l a.rel = ⟨#[c]⟩ ∧ relIdx ⟨#[c]⟩ l = a.rel ∧ (97 ≤ c.toNat ∧ c.toNat ≤ 122) ∧ fmtAtom l a = c :: a.vals.map termB ∧ a.vals ≠ [] ∧ a.vals.length ≤ 3 ∧ ∀ t ∈ a.vals, validT t = true := by
  obtain ⟨h1, h2, h3, h4⟩ := atomOk_parts h
  have hk : a.rel.toNat < l.length := by omega
  obtain ⟨c, hc, hb⟩ := name_byte l h1 a.rel.toNat hk
  have hr := relIdx_name l h1 a.rel.toNat hk
  rw [hc] at hr
  have ha := relOk_bd _ _ (validRels_at l h1 a.rel.toNat hk)
  rw [arityAt_in hk] at h3
  have hn : nameAt l a.rel = ⟨#[c]⟩ := by unfold nameAt; rw [getD_at hk]; exact hc
  have hv : ∀ t ∈ a.vals, validT t = true := fun t ht => by
    obtain ⟨i, hi, rfl⟩ := List.getElem_of_mem ht
    exact h4 i hi
  refine ⟨c, hn, by rw [hr]; omega, hb, ?_, fun e => by rw [e] at h3; simp at h3; omega, by omega, hv⟩
  rw [fmtAtom_yes h, hn, fmtTs_all _ hv]; rfl
theorem fmtAtom_len (l : List Rel) (a : Atm) : (fmtAtom l a).length ≤ 4 := by
  cases h : atomB l a with
  | false => rw [fmtAtom_no h]; simp
  | true =>
    obtain ⟨c, _, _, _, e, _, h3, _⟩ := atom_form h
    rw [e, List.length_cons, List.length_map]; omega
theorem fmtAtom_bytes (l : List Rel) (a : Atm) : ∀ b ∈ fmtAtom l a, 48 ≤ b.toNat ∧ b.toNat ≤ 57 ∨ 97 ≤ b.toNat ∧ b.toNat ≤ 122 := by
  cases h : atomB l a with
  | false => rw [fmtAtom_no h]; simp
  | true =>
    obtain ⟨c, _, _, hc, e, _, h3, hv⟩ := atom_form h
    rw [e]
    intro b hb
    rcases List.mem_cons.1 hb with rfl | hb
    · exact .inr hc
    · obtain ⟨t, ht, rfl⟩ := List.mem_map.1 hb
      exact termB_plain (hv t ht)
theorem fmtAtom_plain (l : List Rel) (a : Atm) (c : UInt8) (hc : c = 32 ∨ c = 59 ∨ c = 61 ∨ c = 62) : c ∉ fmtAtom l a := by
  intro h
  have := fmtAtom_bytes l a c h
  rcases hc with rfl | rfl | rfl | rfl <;> (revert this; decide)
/-- a piece read as an atom -/
def readAtom (l : List Rel) : List UInt8 → Atm
  | [] => ⟨-1, []⟩
  | b :: r => ⟨relIdx ⟨#[b]⟩ l, r.map termOf⟩
theorem readAtom_fmt {l : List Rel} {a : Atm} (h : atomB l a = true) : readAtom l (fmtAtom l a) = a := by
  obtain ⟨c, _, hr, _, e, _, _, hv⟩ := atom_form h
  rw [e]
  refine Atm.ext' hr ?_
  show (a.vals.map termB).map termOf = a.vals
  rw [List.map_map]
  exact (List.map_congr_left (g := id) fun t ht => termOf_termB (hv t ht)).trans (List.map_id _)
def joinAtoms (l : List Rel) (ts : List Atm) : List UInt8 := Lib.join (ts.map (fmtAtom l)) [32]
theorem joinAtoms_one (l : List Rel) (ts : List Atm) (h : 0 < ts.length) : joinAtoms l (ts.take 1) = fmtAtom l ts[0] := by
  unfold joinAtoms
  cases ts with
  | nil => simp at h
  | cons r t => simp [Lib.join_one]
theorem joinAtoms_succ (l : List Rel) (ts : List Atm) (k : Nat) (h0 : 0 < k) (h : k < ts.length) : joinAtoms l (ts.take (k + 1)) = joinAtoms l (ts.take k) ++ ([32] ++ fmtAtom l ts[k]) := by
  unfold joinAtoms
  cases ts with
  | nil => simp at h
  | cons r t =>
    obtain ⟨j, rfl⟩ : ∃ j, k = j + 1 := ⟨k - 1, by omega⟩
    rw [List.take_succ_cons, List.take_succ_cons, List.map_cons, List.map_cons, Lib.join_cons, Lib.join_cons, List.map_take, List.map_take]
    have hj : j < t.length := by simpa using h
    rw [Lib.joinTail_take_succ [32] (t.map (fmtAtom l)) j (fmtAtom l t[j]) (by simp [hj])]
    simp
theorem joinAtoms_len (l : List Rel) (ts : List Atm) (k : Nat) (hk : k ≤ ts.length) : (joinAtoms l (ts.take k)).length ≤ 5 * k := by
  induction k with
  | zero => exact Nat.le_of_eq rfl
  | succ k ih =>
    have h1 := fmtAtom_len l ts[k]
    rcases Nat.eq_zero_or_pos k with h0 | h0
    · subst h0; rw [joinAtoms_one l ts (by omega)]; omega
    · rw [joinAtoms_succ l ts k h0 (by omega)]
      have := ih (by omega)
      simp only [List.length_append, List.length_cons, List.length_nil]; omega
theorem joinAtoms_plain (l : List Rel) (ts : List Atm) (c : UInt8) (hc : c = 59 ∨ c = 61 ∨ c = 62) : c ∉ joinAtoms l ts := by
  intro h
  rcases join_mem _ _ _ h with h | ⟨p, hp, hb⟩
  · rw [List.mem_singleton.1 h] at hc
    revert hc; decide
  · obtain ⟨f, _, rfl⟩ := List.mem_map.1 hp
    exact fmtAtom_plain l f c (.inr hc) hb
def readAtoms (l : List Rel) (s : List UInt8) : List Atm := (cutA 32 s).map (readAtom l)
theorem readAtoms_join {l : List Rel} {ts : List Atm} (hne : ts ≠ []) (h : ts.all (atomB l) = true) : readAtoms l (joinAtoms l ts) = ts := by
  have hc : cutA 32 (joinAtoms l ts) = ts.map (fmtAtom l) := by
    cases ts with
    | nil => exact absurd rfl hne
    | cons f t =>
      unfold joinAtoms
      rw [List.map_cons]
      refine cutA_join 32 _ _ (fun p hp => ?_)
      rw [← List.map_cons (f := fmtAtom l)] at hp
      obtain ⟨g, _, rfl⟩ := List.mem_map.1 hp
      exact fmtAtom_plain l g 32 (.inl rfl)
  unfold readAtoms
  rw [hc, List.map_map]
  rw [List.all_eq_true] at h
  exact (List.map_congr_left (g := id) fun a ha => readAtom_fmt (h a ha)).trans (List.map_id _)
def fmtDep (l : List Rel) (x : Dep) : List UInt8 := if depOk l x = true then (if x.egd = true then joinAtoms l x.body ++ 61 :: (fmtT x.left ++ fmtT x.right) else joinAtoms l x.body ++ 62 :: joinAtoms l x.head) else []
theorem fmtDep_no {l : List Rel} {x : Dep} (h : depOk l x = false) : fmtDep l x = [] := if_neg (by rw [h]; simp)
theorem fmtDep_egd {l : List Rel} {x : Dep} (h : depOk l x = true) (hg : x.egd = true) : fmtDep l x = joinAtoms l x.body ++ 61 :: (fmtT x.left ++ fmtT x.right) := by unfold fmtDep; rw [if_pos h, if_pos hg]
theorem fmtDep_tgd {l : List Rel} {x : Dep} (h : depOk l x = true) (hg : x.egd = false) : fmtDep l x = joinAtoms l x.body ++ 62 :: joinAtoms l x.head := by unfold fmtDep; rw [if_pos h, if_neg (by rw [hg]; simp)]
theorem fmtDep_ne {l : List Rel} {x : Dep} : fmtDep l x ≠ [] ↔ depOk l x = true := by
  constructor
  · intro h
    cases hf : depOk l x with
    | true => rfl
    | false => exact absurd (fmtDep_no hf) h
  · intro h
    cases hg : x.egd with
    | true => rw [fmtDep_egd h hg]; simp
    | false => rw [fmtDep_tgd h hg]; simp
/-- what a valid dependency consists of -/
theorem depOk_body {l : List Rel} {x : Dep} (h : depOk l x = true) : x.body ≠ [] ∧ x.body.length ≤ 2 ∧ x.body.all (atomB l) = true := by
  unfold depOk at h
  simp only [Bool.and_eq_true] at h
  obtain ⟨h1, h2, _⟩ := h
  unfold inB at h1
  have h1 := of_decide_eq_true h1
  exact ⟨fun e => by rw [e] at h1; simp at h1, by omega, h2⟩
theorem vars_valid {l : List Rel} {ts : List Atm} (h : ts.all (atomB l) = true) (t : Int) (ht : t ∈ varsOf ts) : 0 ≤ t ∧ validT t = true := by
  have h1 := (varsOf_mem ts t).1 ht
  unfold vposOf at h1
  obtain ⟨a, ha, h2⟩ := List.mem_flatMap.1 h1
  unfold posOf at h2
  obtain ⟨h3, h4⟩ := List.mem_filter.1 h2
  obtain ⟨_, _, _, _, _, _, _, hv⟩ := atom_form (List.all_eq_true.1 h a ha)
  exact ⟨of_decide_eq_true h4, hv t h3⟩
theorem depOk_egd {l : List Rel} {x : Dep} (h : depOk l x = true) (hg : x.egd = true) : x.head = [] ∧ (0 ≤ x.left ∧ validT x.left = true) ∧ (0 ≤ x.right ∧ validT x.right = true) := by
  have hb := (depOk_body h).2.2
  unfold depOk at h
  rw [if_pos hg] at h
  simp only [Bool.and_eq_true, decide_eq_true_eq, beq_iff_eq] at h
  obtain ⟨_, _, h3, h4, h5, _⟩ := h
  exact ⟨List.eq_nil_of_length_eq_zero (by omega), vars_valid hb _ h4, vars_valid hb _ h5⟩
theorem depOk_tgd {l : List Rel} {x : Dep} (h : depOk l x = true) (hg : x.egd = false) : x.head ≠ [] ∧ x.head.length ≤ 2 ∧ x.head.all (atomB l) = true ∧ x.left = 0 ∧ x.right = 0 := by
  unfold depOk at h
  rw [if_neg (by rw [hg]; simp)] at h
  simp only [Bool.and_eq_true, beq_iff_eq] at h
  obtain ⟨_, _, h3, h4, h5, h6⟩ := h
  unfold inB at h4
  have h4 := of_decide_eq_true h4
  refine ⟨fun e => by rw [e] at h4; simp at h4, by omega, ?_, h5, h6⟩
  rw [List.all_eq_true] at h3 ⊢
  intro a ha
  have := h3 a ha
  unfold headB at this
  rw [Bool.and_eq_true] at this
  exact this.1
theorem fmtDep_len (l : List Rel) (x : Dep) : (fmtDep l x).length ≤ 21 := by
  cases h : depOk l x with
  | false => rw [fmtDep_no h]; simp
  | true =>
    have hb := depOk_body h
    have h1 := joinAtoms_len l x.body x.body.length (Nat.le_refl _)
    rw [List.take_of_length_le (Nat.le_refl _)] at h1
    cases hg : x.egd with
    | true =>
      have h2 := fmtT_len x.left
      have h3 := fmtT_len x.right
      rw [fmtDep_egd h hg]
      simp only [List.length_append, List.length_cons]; omega
    | false =>
      have hh := depOk_tgd h hg
      have h2 := joinAtoms_len l x.head x.head.length (Nat.le_refl _)
      rw [List.take_of_length_le (Nat.le_refl _)] at h2
      rw [fmtDep_tgd h hg]
      simp only [List.length_append, List.length_cons]; omega
def noDep : Dep := ⟨[], [], false, 0, 0⟩
def readTgd (l : List Rel) (s : List UInt8) : Dep := match cutA 62 s with
  | [a, b] => ⟨readAtoms l a, readAtoms l b, false, 0, 0⟩
  | _ => noDep
def readDep (l : List Rel) (s : List UInt8) : Dep := match cutA 61 s with
  | [a, [c, d]] => ⟨readAtoms l a, [], true, termOf c, termOf d⟩
  | _ => readTgd l s
def parseDep (l : List Rel) (s : List UInt8) : Option Dep := if fmtDep l (readDep l s) = s ∧ s ≠ [] then some (readDep l s) else none
theorem readDep_fmt {l : List Rel} {x : Dep} (h : depOk l x = true) : readDep l (fmtDep l x) = x := by
  obtain ⟨hb1, _, hb2⟩ := depOk_body h
  cases hg : x.egd with
  | true =>
    obtain ⟨hh, ⟨_, hl⟩, _, hr⟩ := depOk_egd h hg
    have hc : cutA 61 (fmtDep l x) = [joinAtoms l x.body, [termB x.left, termB x.right]] := by
      rw [fmtDep_egd h hg, fmtT_yes hl, fmtT_yes hr, cutA_app 61 _ _ (joinAtoms_plain l _ 61 (.inr (.inl rfl)))]
      rw [cutA_plain 61 _ (fun hm => ?_)]
      · rfl
      · have h1 := termB_plain hl
        have h2 := termB_plain hr
        rcases List.mem_append.1 hm with e | e
        · rw [← List.mem_singleton.1 e] at h1; revert h1; decide
        · rw [← List.mem_singleton.1 e] at h2; revert h2; decide
    unfold readDep
    rw [hc]
    simp only [readAtoms_join hb1 hb2, termOf_termB hl, termOf_termB hr]
    cases x
    simp only at hg hh
    subst hg hh
    rfl
  | false =>
    obtain ⟨hh1, _, hh2, hl, hr⟩ := depOk_tgd h hg
    have e := fmtDep_tgd h hg
    have hc : cutA 61 (fmtDep l x) = [fmtDep l x] := by
      refine cutA_plain 61 _ (fun hm => ?_)
      rw [e] at hm
      rcases List.mem_append.1 hm with hm | hm
      · exact joinAtoms_plain l _ 61 (.inr (.inl rfl)) hm
      · rcases List.mem_cons.1 hm with hm | hm
        · revert hm; decide
        · exact joinAtoms_plain l _ 61 (.inr (.inl rfl)) hm
    have hc2 : cutA 62 (fmtDep l x) = [joinAtoms l x.body, joinAtoms l x.head] := by
      rw [e, cutA_app 62 _ _ (joinAtoms_plain l _ 62 (.inr (.inr rfl))), cutA_plain 62 _ (joinAtoms_plain l _ 62 (.inr (.inr rfl)))]
    unfold readDep
    rw [hc]
    simp only
    unfold readTgd
    rw [hc2]
    simp only [readAtoms_join hb1 hb2, readAtoms_join hh1 hh2]
    cases x
    simp only at hg hl hr
    subst hg hl hr
    rfl
theorem parseDep_iff (l : List Rel) (s : List UInt8) (x : Dep) : parseDep l s = some x ↔ depOk l x = true ∧ fmtDep l x = s := by
  unfold parseDep
  constructor
  · intro h
    split at h
    · rename_i hf
      cases h
      exact ⟨fmtDep_ne.1 (by rw [hf.1]; exact hf.2), hf.1⟩
    · cases h
  · rintro ⟨h, rfl⟩
    rw [readDep_fmt h, if_pos ⟨rfl, fmtDep_ne.2 h⟩]
theorem fmtDep_semi (l : List Rel) (x : Dep) : (59 : UInt8) ∉ fmtDep l x := by
  cases h : depOk l x with
  | false => rw [fmtDep_no h]; simp
  | true =>
    intro hm
    cases hg : x.egd with
    | true =>
      obtain ⟨_, ⟨_, hl⟩, _, hr⟩ := depOk_egd h hg
      rw [fmtDep_egd h hg, fmtT_yes hl, fmtT_yes hr] at hm
      have h1 := termB_plain hl
      have h2 := termB_plain hr
      rcases List.mem_append.1 hm with hm | hm
      · exact joinAtoms_plain l _ 59 (.inl rfl) hm
      · rcases List.mem_cons.1 hm with hm | hm
        · revert hm; decide
        · rcases List.mem_append.1 hm with e | e
          · rw [← List.mem_singleton.1 e] at h1; revert h1; decide
          · rw [← List.mem_singleton.1 e] at h2; revert h2; decide
    | false =>
      rw [fmtDep_tgd h hg] at hm
      rcases List.mem_append.1 hm with hm | hm
      · exact joinAtoms_plain l _ 59 (.inl rfl) hm
      · rcases List.mem_cons.1 hm with hm | hm
        · revert hm; decide
        · exact joinAtoms_plain l _ 59 (.inl rfl) hm

theorem readAtom_one (l : List Rel) (t : List UInt8) (h : 0 < t.length) : readAtom l (t.take 1) = ⟨relIdx ⟨#[t[0]]⟩ l, []⟩ := by
  cases t with
  | nil => simp at h
  | cons b r => rfl
theorem readAtom_succ (l : List Rel) (t : List UInt8) (k : Nat) (h0 : 0 < k) (h : k < t.length) : readAtom l (t.take (k + 1)) = ⟨(readAtom l (t.take k)).rel, (readAtom l (t.take k)).vals ++ [termOf t[k]]⟩ := by
  cases t with
  | nil => simp at h
  | cons b r =>
    obtain ⟨j, rfl⟩ : ∃ j, k = j + 1 := ⟨k - 1, by omega⟩
    have hj : j < r.length := by simpa using h
    rw [List.take_succ_cons, List.take_succ_cons]
    show (⟨relIdx ⟨#[b]⟩ l, (r.take (j + 1)).map termOf⟩ : Atm) = ⟨relIdx ⟨#[b]⟩ l, (r.take j).map termOf ++ [termOf (b :: r)[j + 1]]⟩
    rw [List.take_succ_eq_append_getElem hj, List.map_append]; rfl
theorem readAtom_len (l : List Rel) (t : List UInt8) : (readAtom l t).vals.length ≤ t.length := by
  cases t with
  | nil => exact Nat.le_refl _
  | cons b r => show (r.map termOf).length ≤ _; simp
theorem readAtom_wf (l : List Rel) (hl : l.length ≤ 1048576) (t : List UInt8) : Atom_wf (readAtom l t) := by
  cases t with
  | nil => exact ⟨⟨by show (-9223372036854775808 : Int) ≤ -1; decide, by show (-1 : Int) ≤ 9223372036854775807; decide⟩, fun i hi => absurd hi (by show ¬ i < 0; omega)⟩
  | cons b r =>
    have h1 := relIdx_bd ⟨#[b]⟩ l
    refine ⟨⟨by show -9223372036854775808 ≤ relIdx ⟨#[b]⟩ l; omega, by show relIdx ⟨#[b]⟩ l ≤ _; omega⟩, fun i hi => ?_⟩
    have hi' : i < (r.map termOf).length := hi
    show -9223372036854775808 ≤ (r.map termOf)[i] ∧ (r.map termOf)[i] ≤ 9223372036854775807
    rw [List.getElem_map]
    have := termOf_bd (r[i]'(by simpa using hi'))
    omega
theorem readAtoms_wf (l : List Rel) (hl : l.length ≤ 1048576) (s : List UInt8) : AtomS_wf (readAtoms l s) := by
  intro i hi
  have hi' : i < ((cutA 32 s).map (readAtom l)).length := hi
  show Atom_wf ((cutA 32 s).map (readAtom l))[i]
  rw [List.getElem_map]
  exact readAtom_wf l hl _
theorem extract_one (t : ByteArray) (k : Nat) (h : k < t.size) : t.extract k (k + 1) = ⟨#[t[k]]⟩ := by
  apply bytes_ext
  rw [Lib.extract_data]
  have h' : k < t.data.toList.length := by simpa using h
  have e : (t.data.toList.drop k).take (k + 1 - k) = [t.data.toList[k]] := by
    rw [show k + 1 - k = 1 by omega, List.drop_eq_getElem_cons h']; rfl
  rw [e]; rfl
theorem AtomSO.empty (e : TypeId) (w : World) : AtomSO e w.heap.size (w.heap.size + 1) (.slice (some ⟨w.heap.size, 0, none⟩) 0 0) [] [] (w.alloc (.cells #[] e)) :=
  ⟨rfl, World.ownsRow_lit w #[] 0 (Nat.le_refl _) (by decide) rfl, (fun g hg => by cases hg; exact Nat.lt_succ_self _), (fun i h => absurd h (by simp)), List.Pairwise.nil⟩
theorem cutA_mem_len (c : UInt8) (s : List UInt8) : ∀ p ∈ cutA c s, p.length ≤ s.length := by
  induction s with
  | nil => intro p hp; simp [cutA] at hp; subst hp; exact Nat.le_refl _
  | cons b r ih =>
    rw [cutA_cons]
    split
    · intro p hp
      rcases List.mem_cons.1 hp with rfl | hp
      · exact Nat.zero_le _
      · exact Nat.le_succ_of_le (ih p hp)
    · intro p hp
      cases hc : cutA c r with
      | nil => exact absurd hc (cutA_ne c r)
      | cons h t =>
        rw [hc] at hp ih
        rcases List.mem_cons.1 hp with rfl | hp
        · have := ih h (by simp)
          simp only [List.singleton_append, List.length_cons]; omega
        · have := ih p (by simp [hp])
          simp only [List.length_cons]; omega

def ParseDependency_r0 (l : List Rel) (s : ByteArray) : Dep := (parseDep l s.data.toList).getD noDep
def ParseDependency_ok (l : List Rel) (s : ByteArray) : Bool := (parseDep l s.data.toList).isSome
theorem parseDep_yes {l : List Rel} {s : ByteArray} {x : Dep} (h : x = readDep l s.data.toList) (h1 : fmtDep l x = s.data.toList) (h2 : s.data.toList ≠ []) : ParseDependency_r0 l s = x ∧ ParseDependency_ok l s = true := by
  subst h
  unfold ParseDependency_r0 ParseDependency_ok parseDep
  rw [if_pos ⟨h1, h2⟩]; exact ⟨rfl, rfl⟩
theorem parseDep_no {l : List Rel} {s : ByteArray} {x : Dep} (h : x = readDep l s.data.toList) (h1 : ¬ (fmtDep l x = s.data.toList ∧ s.data.toList ≠ [])) : ParseDependency_r0 l s = noDep ∧ ParseDependency_ok l s = false := by
  subst h
  unfold ParseDependency_r0 ParseDependency_ok parseDep
  rw [if_neg h1]; exact ⟨rfl, rfl⟩
theorem readDep_egd {l : List Rel} {s a : List UInt8} {c d : UInt8} (h : cutA 61 s = [a, [c, d]]) : readDep l s = ⟨readAtoms l a, [], true, termOf c, termOf d⟩ := by unfold readDep; rw [h]
theorem readDep_rest {l : List Rel} {s : List UInt8} (h : ∀ a c d, cutA 61 s ≠ [a, [c, d]]) : readDep l s = readTgd l s := by
  unfold readDep
  split
  · rename_i a c d he; exact absurd he (h a c d)
  · rfl
theorem readTgd_two {l : List Rel} {s a b : List UInt8} (h : cutA 62 s = [a, b]) : readTgd l s = ⟨readAtoms l a, readAtoms l b, false, 0, 0⟩ := by unfold readTgd; rw [h]
theorem readTgd_no {l : List Rel} {s : List UInt8} (h : (cutA 62 s).length ≠ 2) : readTgd l s = noDep := by
  unfold readTgd
  split
  · rename_i a b he; rw [he] at h; exact absurd rfl h
  · rfl
/-- what ParseDependency gives, in memory of the call's own -/
def GivesDep (l : List Rel) (s : ByteArray) (w : World) (e : Ending) (w' : World) : Prop := ∃ X : DepX, e = .returned (.tuple #[.agg #[X.1.1, X.2.1, .bool (ParseDependency_r0 l s).egd, .int .i64 (ParseDependency_r0 l s).left, .int .i64 (ParseDependency_r0 l s).right], .bool (ParseDependency_ok l s)]) ∧ DepOwn w.heap.size w'.heap.size X (ParseDependency_r0 l s) w' ∧ Below w.heap.size w w'
theorem DepOwn.none (B C : Nat) (w : World) : DepOwn B C zeroDX noDep w := ⟨AtomSO.nil0 _ _ _ _, AtomSO.nil0 _ _ _ _, fun g hg => absurd hg (no_foot g)⟩
theorem bytes_two (t : ByteArray) (h : t.size = 2) : ∃ c d : UInt8, t = ⟨#[c, d]⟩ := by
  obtain ⟨⟨l⟩⟩ := t
  match l, h with
  | [c, d], _ => exact ⟨c, d, rfl⟩
theorem list_two {α : Type} (l : List α) (h : l.length = 2) : ∃ a b, l = [a, b] := by
  match l, h with
  | [a, b], _ => exact ⟨a, b, rfl⟩
theorem zero_i64 : -9223372036854775808 ≤ (0 : Int) ∧ (0 : Int) ≤ 9223372036854775807 := ⟨by decide, by decide⟩
theorem GivesDep.out {l : List Rel} {s : ByteArray} {w : World} {e : Ending} {w' : World} (h : GivesDep l s w e w') : ∃ r0, e = .returned (.tuple #[r0, .bool (ParseDependency_ok l s)]) ∧ Dependency_own w.heap.size w'.heap.size r0 (ParseDependency_r0 l s) w' ∧ Below w.heap.size w w' := by
  obtain ⟨X, he, ⟨h1, h2, h3⟩, hb⟩ := h
  exact ⟨_, he, ⟨_, _, _, _, rfl, h1, h2, h3⟩, hb⟩

end Go.Proofs.YtmecdjincmkofaaGreatDoor
