/-
  Walks and plain lemmas for the laws of this seat: what single Go functions return, for every argument.
-/
import Derived.Test.YtmecdjincmkofaaGreatDoorBase
import Derived.Test.YtmecdjincmkofaaGreatDoorInts
import Derived.Test.YtmecdjincmkofaaGreatDoorRels
import Derived.Test.YtmecdjincmkofaaGreatDoorRelsC
import Derived.Test.YtmecdjincmkofaaGreatDoorTyDepS
import Derived.Test.YtmecdjincmkofaaGreatDoorFmtF
import Derived.Test.YtmecdjincmkofaaGreatDoorCmpI
import Derived.Test.YtmecdjincmkofaaGreatDoorMInst
namespace Go.Proofs.YtmecdjincmkofaaGreatDoor
open Go.RowKit

/-- the variables among terms, one after another -/
def posOf (vs : List Int) : List Int := vs.filter fun t => decide (0 ≤ t)
def vposOf (l : List Atm) : List Int := l.flatMap fun a => posOf a.vals
theorem posOf_take (vs : List Int) (k : Nat) (h : k < vs.length) : posOf (vs.take (k + 1)) = posOf (vs.take k) ++ (if 0 ≤ vs[k] then [vs[k]] else []) := by
  unfold posOf
  rw [List.take_succ_eq_append_getElem h, List.filter_append]
  congr 1
  by_cases hp : 0 ≤ vs[k] <;> simp [hp]
theorem posOf_len (vs : List Int) : (posOf vs).length ≤ vs.length := List.length_filter_le _ _
theorem vposOf_take (l : List Atm) (k : Nat) (h : k < l.length) : vposOf (l.take (k + 1)) = vposOf (l.take k) ++ posOf l[k].vals := by
  unfold vposOf; rw [List.take_succ_eq_append_getElem h, List.flatMap_append]; simp
theorem vposOf_len (l : List Atm) : (vposOf l).length ≤ avalsLen l := by
  induction l with
  | nil => simp [vposOf]
  | cons a t ih =>
    have h1 := posOf_len a.vals
    unfold vposOf at ih ⊢
    rw [List.flatMap_cons, List.length_append]
    simp only [avalsLen]; omega
theorem addTerms_mem (vs out : List Int) (x : Int) : x ∈ addTerms out vs ↔ x ∈ out ∨ x ∈ posOf vs := by
  induction vs generalizing out with
  | nil => simp [addTerms, posOf]
  | cons a t ih =>
    have h := ih (addVar out a)
    unfold addTerms at h ⊢
    rw [List.foldl_cons, h]
    unfold addVar posOf
    rw [List.filter_cons]
    by_cases hp : 0 ≤ a
    · rw [if_pos hp, decide_eq_true hp, if_pos rfl, putI_mem, List.mem_cons]
      constructor
      · rintro ((h | h) | h)
        · exact .inr (.inl h)
        · exact .inl h
        · exact .inr (.inr h)
      · rintro (h | h | h)
        · exact .inl (.inr h)
        · exact .inl (.inl h)
        · exact .inr h
    · rw [if_neg hp, decide_eq_false hp]; simp
theorem varsFold_mem (l : List Atm) (out : List Int) (x : Int) : x ∈ l.foldl (fun o a => addTerms o a.vals) out ↔ x ∈ out ∨ x ∈ vposOf l := by
  induction l generalizing out with
  | nil => simp [vposOf]
  | cons a t ih =>
    rw [List.foldl_cons, ih, addTerms_mem]
    unfold vposOf
    rw [List.flatMap_cons, List.mem_append, or_assoc]
theorem varsOf_mem (l : List Atm) (x : Int) : x ∈ varsOf l ↔ x ∈ vposOf l := by
  unfold varsOf; rw [varsFold_mem]; simp
theorem addTerms_asc (vs out : List Int) (h : out.Pairwise (· < ·)) : (addTerms out vs).Pairwise (· < ·) := by
  induction vs generalizing out with
  | nil => exact h
  | cons a t ih =>
    unfold addTerms
    rw [List.foldl_cons]
    refine ih _ ?_
    unfold addVar
    split
    · exact putI_asc out a h
    · exact h
theorem varsOf_asc (l : List Atm) : (varsOf l).Pairwise (· < ·) := by
  have : ∀ (l : List Atm) (out : List Int), out.Pairwise (· < ·) → (l.foldl (fun o a => addTerms o a.vals) out).Pairwise (· < ·) := by
    intro l
    induction l with
    | nil => intro out h; exact h
    | cons a t ih => intro out h; rw [List.foldl_cons]; exact ih _ (addTerms_asc a.vals out h)
  exact this l [] List.Pairwise.nil
/-- sorted, doubles dropped: the variables in ascending order -/
theorem compact_vars (l : List Atm) : Lib.compact ((vposOf l).mergeSort fun x y => decide (x ≤ y)) = varsOf l := by
  have hs : ((vposOf l).mergeSort fun x y => decide (x ≤ y)).Pairwise (· ≤ ·) := by
    have := List.pairwise_mergeSort (le := fun (x y : Int) => decide (x ≤ y)) (by intro a b c; simp; omega) (by intro a b; simp; omega) (vposOf l)
    exact this.imp (fun h => by simpa using h)
  obtain ⟨h1, h2⟩ := compact_upTo _ hs _ (Nat.le_refl _)
  refine asc_eq _ _ h1 (varsOf_asc l) (fun x => ?_)
  unfold Lib.compact
  rw [h2, List.take_of_length_le (Nat.le_refl _), List.mem_mergeSort, varsOf_mem]

/-- a valid term's byte -/
def termB (t : Int) : UInt8 := if t < 0 then UInt8.ofNat (48 + (-1 - t).toNat) else if t = 0 then 120 else if t = 1 then 121 else if t = 2 then 122 else if t = 3 then 117 else 118
def fmtT (t : Int) : List UInt8 := if validT t = true then [termB t] else []
def termOf (c : UInt8) : Int := if 48 ≤ c.toNat ∧ c.toNat ≤ 57 then 47 - (c.toNat : Int) else if c = 120 then 0 else if c = 121 then 1 else if c = 122 then 2 else if c = 117 then 3 else if c = 118 then 4 else 5
theorem validT_iff (t : Int) : validT t = true ↔ -10 ≤ t ∧ t ≤ 4 := by unfold validT inB; exact decide_eq_true_iff
theorem term_cases {t : Int} (h : validT t = true) : t = -10 ∨ t = -9 ∨ t = -8 ∨ t = -7 ∨ t = -6 ∨ t = -5 ∨ t = -4 ∨ t = -3 ∨ t = -2 ∨ t = -1 ∨ t = 0 ∨ t = 1 ∨ t = 2 ∨ t = 3 ∨ t = 4 := by
  have := (validT_iff t).1 h; omega
theorem termOf_termB {t : Int} (h : validT t = true) : termOf (termB t) = t := by
  rcases term_cases h with rfl | rfl | rfl | rfl | rfl | rfl | rfl | rfl | rfl | rfl | rfl | rfl | rfl | rfl | rfl <;> decide
theorem termB_plain {t : Int} (h : validT t = true) : 48 ≤ (termB t).toNat ∧ (termB t).toNat ≤ 57 ∨ 97 ≤ (termB t).toNat ∧ (termB t).toNat ≤ 122 := by
  rcases term_cases h with rfl | rfl | rfl | rfl | rfl | rfl | rfl | rfl | rfl | rfl | rfl | rfl | rfl | rfl | rfl <;> decide
theorem termOf_bd (c : UInt8) : -10 ≤ termOf c ∧ termOf c ≤ 5 := by
  unfold termOf
  split
  · omega
  · repeat' split
    all_goals omega
theorem termB_termOf {c : UInt8} (h : termOf c ≤ 4) : termB (termOf c) = c := by
  unfold termOf at h ⊢
  split at h
  · rename_i hc
    rw [if_pos hc]
    unfold termB
    rw [if_pos (by omega)]
    have e : 48 + (-1 - (47 - (c.toNat : Int))).toNat = c.toNat := by omega
    rw [e]; simp
  · rename_i hc
    rw [if_neg hc]
    split at h
    · rename_i e; rw [if_pos e, e]; rfl
    · rename_i e; rw [if_neg e]
      split at h
      · rename_i e; rw [if_pos e, e]; rfl
      · rename_i e; rw [if_neg e]
        split at h
        · rename_i e; rw [if_pos e, e]; rfl
        · rename_i e; rw [if_neg e]
          split at h
          · rename_i e; rw [if_pos e, e]; rfl
          · rename_i e; rw [if_neg e]
            split at h
            · rename_i e; rw [if_pos e, e]; rfl
            · omega
/-- a term's text is that byte alone -/
theorem fmtT_is {t : Int} {c : UInt8} (h : validT t = true) : fmtT t = [c] ↔ termOf c = t := by
  unfold fmtT
  rw [if_pos h]
  constructor
  · intro e
    injection e with e
    rw [← e]; exact termOf_termB h
  · intro e
    have h1 := (validT_iff t).1 h
    rw [← e, termB_termOf (by omega)]
theorem fmtT_len (t : Int) : (fmtT t).length ≤ 1 := by unfold fmtT; split <;> simp
theorem fmtT_yes {t : Int} (h : validT t = true) : fmtT t = [termB t] := if_pos h
theorem fmtT_no {t : Int} (h : validT t = false) : fmtT t = [] := if_neg (by rw [h]; simp)
theorem itoa_one (u : Nat) (h : u < 10) : Lib.itoa (u : Int) = [UInt8.ofNat (48 + u)] := by
  rw [itoa_pos, decDigits_rec, if_pos h]
theorem fmtT_const {t : Int} (h : -10 ≤ t ∧ t < 0) : fmtT t = Lib.itoa (-1 - t) := by
  rw [fmtT_yes ((validT_iff t).2 (by omega))]
  obtain ⟨u, hu⟩ := Int.eq_ofNat_of_zero_le (a := -1 - t) (by omega)
  rw [hu, itoa_one u (by omega)]
  unfold termB
  rw [if_pos h.2, hu]; rfl
/-- terms' texts, one after another -/
def fmtTs (vs : List Int) : List UInt8 := vs.flatMap fmtT
theorem fmtTs_take (vs : List Int) (k : Nat) (h : k < vs.length) : fmtTs (vs.take (k + 1)) = fmtTs (vs.take k) ++ fmtT vs[k] := by
  unfold fmtTs; rw [List.take_succ_eq_append_getElem h, List.flatMap_append]; simp
theorem fmtTs_len (vs : List Int) : (fmtTs vs).length ≤ vs.length := by
  induction vs with
  | nil => simp [fmtTs]
  | cons a t ih =>
    have := fmtT_len a
    unfold fmtTs at ih ⊢
    rw [List.flatMap_cons, List.length_append, List.length_cons]; omega
theorem fmtTs_all (vs : List Int) (h : ∀ t ∈ vs, validT t = true) : fmtTs vs = vs.map termB := by
  induction vs with
  | nil => rfl
  | cons a t ih =>
    unfold fmtTs at ih ⊢
    rw [List.flatMap_cons, fmtT_yes (h a (by simp)), ih (fun x hx => h x (by simp [hx]))]; rfl
def nameAt (l : List Rel) (r : Int) : ByteArray := (l.getD r.toNat zeroRel).name
def fmtAtom (l : List Rel) (a : Atm) : List UInt8 := if atomB l a = true then (nameAt l a.rel).data.toList ++ fmtTs a.vals else []
theorem fmtAtom_no {l : List Rel} {a : Atm} (h : atomB l a = false) : fmtAtom l a = [] := if_neg (by rw [h]; simp)
theorem fmtAtom_yes {l : List Rel} {a : Atm} (h : atomB l a = true) : fmtAtom l a = (nameAt l a.rel).data.toList ++ fmtTs a.vals := if_pos h
theorem atom_form {l : List Rel} {a : Atm} (h : atomB l a = true) : ∃ c : UInt8, nameAt l a.rel = ⟨#[c]⟩ ∧ relIdx ⟨#[c]⟩ l = a.rel ∧ (97 ≤ c.toNat ∧ c.toNat ≤ 122) ∧ fmtAtom l a = c :: a.vals.map termB ∧ a.vals ≠ [] ∧ a.vals.length ≤ 3 ∧ ∀ t ∈ a.vals, validT t = true := by
  obtain ⟨h1, h2, h3, h4⟩ := atomOk_parts h
  have hk : a.rel.toNat < l.length := by omega
  obtain ⟨c, hc, hb⟩ := name_byte l h1 a.rel.toNat hk
  have hr := relIdx_name l h1 a.rel.toNat hk
  rw [hc] at hr
  have ha := relOk_bd _ _ (validRels_at l h1 a.rel.toNat hk)
  rw [arityAt_in hk] at h3
  have hn : nameAt l a.rel = ⟨#[c]⟩ := by unfold nameAt; rw [getD_at hk]; exact hc
  have hv : ∀ t ∈ a.vals, validT t = true := fun t ht => by
    obtain ⟨i, hi, rfl⟩ := List.getElem_of_mem ht
    exact h4 i hi
  refine ⟨c, hn, by rw [hr]; omega, hb, ?_, fun e => by rw [e] at h3; simp at h3; omega, by omega, hv⟩
  rw [fmtAtom_yes h, hn, fmtTs_all _ hv]; rfl
theorem fmtAtom_len (l : List Rel) (a : Atm) : (fmtAtom l a).length ≤ 4 := by
  cases h : atomB l a with
  | false => rw [fmtAtom_no h]; simp
  | true =>
    obtain ⟨c, _, _, _, e, _, h3, _⟩ := atom_form h
    rw [e, List.length_cons, List.length_map]; omega
theorem fmtAtom_bytes (l : List Rel) (a : Atm) : ∀ b ∈ fmtAtom l a, 48 ≤ b.toNat ∧ b.toNat ≤ 57 ∨ 97 ≤ b.toNat ∧ b.toNat ≤ 122 := by
  cases h : atomB l a with
  | false => rw [fmtAtom_no h]; simp
  | true =>
    obtain ⟨c, _, _, hc, e, _, h3, hv⟩ := atom_form h
    rw [e]
    intro b hb
    rcases List.mem_cons.1 hb with rfl | hb
    · exact .inr hc
    · obtain ⟨t, ht, rfl⟩ := List.mem_map.1 hb
      exact termB_plain (hv t ht)
theorem fmtAtom_plain (l : List Rel) (a : Atm) (c : UInt8) (hc : c = 32 ∨ c = 59 ∨ c = 61 ∨ c = 62) : c ∉ fmtAtom l a := by
  intro h
  have := fmtAtom_bytes l a c h
  rcases hc with rfl | rfl | rfl | rfl <;> (revert this; decide)
/-- a piece read as an atom -/
def readAtom (l : List Rel) : List UInt8 → Atm
  | [] => ⟨-1, []⟩
  | b :: r => ⟨relIdx ⟨#[b]⟩ l, r.map termOf⟩
theorem readAtom_fmt {l : List Rel} {a : Atm} (h : atomB l a = true) : readAtom l (fmtAtom l a) = a := by
  obtain ⟨c, _, hr, _, e, _, _, hv⟩ := atom_form h
  rw [e]
  refine Atm.ext' hr ?_
  show (a.vals.map termB).map termOf = a.vals
  rw [List.map_map]
  exact (List.map_congr_left (g := id) fun t ht => termOf_termB (hv t ht)).trans (List.map_id _)
def joinAtoms (l : List Rel) (ts : List Atm) : List UInt8 := Lib.join (ts.map (fmtAtom l)) [32]
theorem joinAtoms_one (l : List Rel) (ts : List Atm) (h : 0 < ts.length) : joinAtoms l (ts.take 1) = fmtAtom l ts[0] := by
  unfold joinAtoms
  cases ts with
  | nil => simp at h
  | cons r t => simp [Lib.join_one]
theorem joinAtoms_succ (l : List Rel) (ts : List Atm) (k : Nat) (h0 : 0 < k) (h : k < ts.length) : joinAtoms l (ts.take (k + 1)) = joinAtoms l (ts.take k) ++ ([32] ++ fmtAtom l ts[k]) := by
  unfold joinAtoms
  cases ts with
  | nil => simp at h
  | cons r t =>
    obtain ⟨j, rfl⟩ : ∃ j, k = j + 1 := ⟨k - 1, by omega⟩
    rw [List.take_succ_cons, List.take_succ_cons, List.map_cons, List.map_cons, Lib.join_cons, Lib.join_cons, List.map_take, List.map_take]
    have hj : j < t.length := by simpa using h
    rw [Lib.joinTail_take_succ [32] (t.map (fmtAtom l)) j (fmtAtom l t[j]) (by simp [hj])]
    simp
theorem joinAtoms_len (l : List Rel) (ts : List Atm) (k : Nat) (hk : k ≤ ts.length) : (joinAtoms l (ts.take k)).length ≤ 5 * k := by
  induction k with
  | zero => exact Nat.le_of_eq rfl
  | succ k ih =>
    have h1 := fmtAtom_len l ts[k]
    rcases Nat.eq_zero_or_pos k with h0 | h0
    · subst h0; rw [joinAtoms_one l ts (by omega)]; omega
    · rw [joinAtoms_succ l ts k h0 (by omega)]
      have := ih (by omega)
      simp only [List.length_append, List.length_cons, List.length_nil]; omega
theorem joinAtoms_plain (l : List Rel) (ts : List Atm) (c : UInt8) (hc : c = 59 ∨ c = 61 ∨ c = 62) : c ∉ joinAtoms l ts := by
  intro h
  rcases join_mem _ _ _ h with h | ⟨p, hp, hb⟩
  · rw [List.mem_singleton.1 h] at hc
    revert hc; decide
  · obtain ⟨f, _, rfl⟩ := List.mem_map.1 hp
    exact fmtAtom_plain l f c (.inr hc) hb
def readAtoms (l : List Rel) (s : List UInt8) : List Atm := (cutA 32 s).map (readAtom l)
theorem readAtoms_join {l : List Rel} {ts : List Atm} (hne : ts ≠ []) (h : ts.all (atomB l) = true) : readAtoms l (joinAtoms l ts) = ts := by
  have hc : cutA 32 (joinAtoms l ts) = ts.map (fmtAtom l) := by
    cases ts with
    | nil => exact absurd rfl hne
    | cons f t =>
      unfold joinAtoms
      rw [List.map_cons]
      refine cutA_join 32 _ _ (fun p hp => ?_)
      rw [← List.map_cons (f := fmtAtom l)] at hp
      obtain ⟨g, _, rfl⟩ := List.mem_map.1 hp
      exact fmtAtom_plain l g 32 (.inl rfl)
  unfold readAtoms
  rw [hc, List.map_map]
  rw [List.all_eq_true] at h
  exact (List.map_congr_left (g := id) fun a ha => readAtom_fmt (h a ha)).trans (List.map_id _)
def fmtDep (l : List Rel) (x : Dep) : List UInt8 := if depOk l x = true then (if x.egd = true then joinAtoms l x.body ++ 61 :: (fmtT x.left ++ fmtT x.right) else joinAtoms l x.body ++ 62 :: joinAtoms l x.head) else []
theorem fmtDep_no {l : List Rel} {x : Dep} (h : depOk l x = false) : fmtDep l x = [] := if_neg (by rw [h]; simp)
theorem fmtDep_egd {l : List Rel} {x : Dep} (h : depOk l x = true) (hg : x.egd = true) : fmtDep l x = joinAtoms l x.body ++ 61 :: (fmtT x.left ++ fmtT x.right) := by unfold fmtDep; rw [if_pos h, if_pos hg]
theorem fmtDep_tgd {l : List Rel} {x : Dep} (h : depOk l x = true) (hg : x.egd = false) : fmtDep l x = joinAtoms l x.body ++ 62 :: joinAtoms l x.head := by unfold fmtDep; rw [if_pos h, if_neg (by rw [hg]; simp)]
theorem fmtDep_ne {l : List Rel} {x : Dep} : fmtDep l x ≠ [] ↔ depOk l x = true := by
  constructor
  · intro h
    cases hf : depOk l x with
    | true => rfl
    | false => exact absurd (fmtDep_no hf) h
  · intro h
    cases hg : x.egd with
    | true => rw [fmtDep_egd h hg]; simp
    | false => rw [fmtDep_tgd h hg]; simp
/-- what a valid dependency consists of -/
theorem depOk_body {l : List Rel} {x : Dep} (h : depOk l x = true) : x.body ≠ [] ∧ x.body.length ≤ 2 ∧ x.body.all (atomB l) = true := by
  unfold depOk at h
  simp only [Bool.and_eq_true] at h
  obtain ⟨h1, h2, _⟩ := h
  unfold inB at h1
  have h1 := of_decide_eq_true h1
  exact ⟨fun e => by rw [e] at h1; simp at h1, by omega, h2⟩
theorem vars_valid {l : List Rel} {ts : List Atm} (h : ts.all (atomB l) = true) (t : Int) (ht : t ∈ varsOf ts) : 0 ≤ t ∧ validT t = true := by
  have h1 := (varsOf_mem ts t).1 ht
  unfold vposOf at h1
  obtain ⟨a, ha, h2⟩ := List.mem_flatMap.1 h1
  unfold posOf at h2
  obtain ⟨h3, h4⟩ := List.mem_filter.1 h2
  obtain ⟨_, _, _, _, _, _, _, hv⟩ := atom_form (List.all_eq_true.1 h a ha)
  exact ⟨of_decide_eq_true h4, hv t h3⟩
theorem depOk_egd {l : List Rel} {x : Dep} (h : depOk l x = true) (hg : x.egd = true) : x.head = [] ∧ (0 ≤ x.left ∧ validT x.left = true) ∧ (0 ≤ x.right ∧ validT x.right = true) := by
  have hb := (depOk_body h).2.2
  unfold depOk at h
  rw [if_pos hg] at h
  simp only [Bool.and_eq_true, decide_eq_true_eq, beq_iff_eq] at h
  obtain ⟨_, _, h3, h4, h5, _⟩ := h
  exact ⟨List.eq_nil_of_length_eq_zero (by omega), vars_valid hb _ h4, vars_valid hb _ h5⟩
theorem depOk_tgd {l : List Rel} {x : Dep} (h : depOk l x = true) (hg : x.egd = false) : x.head ≠ [] ∧ x.head.length ≤ 2 ∧ x.head.all (atomB l) = true ∧ x.left = 0 ∧ x.right = 0 := by
  unfold depOk at h
  rw [if_neg (by rw [hg]; simp)] at h
  simp only [Bool.and_eq_true, beq_iff_eq] at h
  obtain ⟨_, _, h3, h4, h5, h6⟩ := h
  unfold inB at h4
  have h4 := of_decide_eq_true h4
  refine ⟨fun e => by rw [e] at h4; simp at h4, by omega, ?_, h5, h6⟩
  rw [List.all_eq_true] at h3 ⊢
  intro a ha
  have := h3 a ha
  unfold headB at this
  rw [Bool.and_eq_true] at this
  exact this.1
theorem fmtDep_len (l : List Rel) (x : Dep) : (fmtDep l x).length ≤ 21 := by
  cases h : depOk l x with
  | false => rw [fmtDep_no h]; simp
  | true =>
    have hb := depOk_body h
    have h1 := joinAtoms_len l x.body x.body.length (Nat.le_refl _)
    rw [List.take_of_length_le (Nat.le_refl _)] at h1
    cases hg : x.egd with
    | true =>
      have h2 := fmtT_len x.left
      have h3 := fmtT_len x.right
      rw [fmtDep_egd h hg]
      simp only [List.length_append, List.length_cons]; omega
    | false =>
      have hh := depOk_tgd h hg
      have h2 := joinAtoms_len l x.head x.head.length (Nat.le_refl _)
      rw [List.take_of_length_le (Nat.le_refl _)] at h2
      rw [fmtDep_tgd h hg]
      simp only [List.length_append, List.length_cons]; omega
def noDep : Dep := ⟨[], [], false, 0, 0⟩
def readTgd (l : List Rel) (s : List UInt8) : Dep := match cutA 62 s with
  | [a, b] => ⟨readAtoms l a, readAtoms l b, false, 0, 0⟩
  | _ => noDep
def readDep (l : List Rel) (s : List UInt8) : Dep := match cutA 61 s with
  | [a, [c, d]] => ⟨readAtoms l a, [], true, termOf c, termOf d⟩
  | _ => readTgd l s
def parseDep (l : List Rel) (s : List UInt8) : Option Dep := if fmtDep l (readDep l s) = s ∧ s ≠ [] then some (readDep l s) else none
theorem readDep_fmt {l : List Rel} {x : Dep} (h : depOk l x = true) : readDep l (fmtDep l x) = x := by
  obtain ⟨hb1, _, hb2⟩ := depOk_body h
  cases hg : x.egd with
  | true =>
    obtain ⟨hh, ⟨_, hl⟩, _, hr⟩ := depOk_egd h hg
    have hc : cutA 61 (fmtDep l x) = [joinAtoms l x.body, [termB x.left, termB x.right]] := by
      rw [fmtDep_egd h hg, fmtT_yes hl, fmtT_yes hr, cutA_app 61 _ _ (joinAtoms_plain l _ 61 (.inr (.inl rfl)))]
      rw [cutA_plain 61 _ (fun hm => ?_)]
      · rfl
      · have h1 := termB_plain hl
        have h2 := termB_plain hr
        rcases List.mem_append.1 hm with e | e
        · rw [← List.mem_singleton.1 e] at h1; revert h1; decide
        · rw [← List.mem_singleton.1 e] at h2; revert h2; decide
    unfold readDep
    rw [hc]
    simp only [readAtoms_join hb1 hb2, termOf_termB hl, termOf_termB hr]
    cases x
    simp only at hg hh
    subst hg hh
    rfl
  | false =>
    obtain ⟨hh1, _, hh2, hl, hr⟩ := depOk_tgd h hg
    have e := fmtDep_tgd h hg
    have hc : cutA 61 (fmtDep l x) = [fmtDep l x] := by
      refine cutA_plain 61 _ (fun hm => ?_)
      rw [e] at hm
      rcases List.mem_append.1 hm with hm | hm
      · exact joinAtoms_plain l _ 61 (.inr (.inl rfl)) hm
      · rcases List.mem_cons.1 hm with hm | hm
        · revert hm; decide
        · exact joinAtoms_plain l _ 61 (.inr (.inl rfl)) hm
    have hc2 : cutA 62 (fmtDep l x) = [joinAtoms l x.body, joinAtoms l x.head] := by
      rw [e, cutA_app 62 _ _ (joinAtoms_plain l _ 62 (.inr (.inr rfl))), cutA_plain 62 _ (joinAtoms_plain l _ 62 (.inr (.inr rfl)))]
    unfold readDep
    rw [hc]
    simp only
    unfold readTgd
    rw [hc2]
    simp only [readAtoms_join hb1 hb2, readAtoms_join hh1 hh2]
    cases x
    simp only at hg hl hr
    subst hg hl hr
    rfl
theorem parseDep_iff (l : List Rel) (s : List UInt8) (x : Dep) : parseDep l s = some x ↔ depOk l x = true ∧ fmtDep l x = s := by
  unfold parseDep
  constructor
  · intro h
    split at h
    · rename_i hf
      cases h
      exact ⟨fmtDep_ne.1 (by rw [hf.1]; exact hf.2), hf.1⟩
    · cases h
  · rintro ⟨h, rfl⟩
    rw [readDep_fmt h, if_pos ⟨rfl, fmtDep_ne.2 h⟩]
theorem fmtDep_semi (l : List Rel) (x : Dep) : (59 : UInt8) ∉ fmtDep l x := by
  cases h : depOk l x with
  | false => rw [fmtDep_no h]; simp
  | true =>
    intro hm
    cases hg : x.egd with
    | true =>
      obtain ⟨_, ⟨_, hl⟩, _, hr⟩ := depOk_egd h hg
      rw [fmtDep_egd h hg, fmtT_yes hl, fmtT_yes hr] at hm
      have h1 := termB_plain hl
      have h2 := termB_plain hr
      rcases List.mem_append.1 hm with hm | hm
      · exact joinAtoms_plain l _ 59 (.inl rfl) hm
      · rcases List.mem_cons.1 hm with hm | hm
        · revert hm; decide
        · rcases List.mem_append.1 hm with e | e
          · rw [← List.mem_singleton.1 e] at h1; revert h1; decide
          · rw [← List.mem_singleton.1 e] at h2; revert h2; decide
    | false =>
      rw [fmtDep_tgd h hg] at hm
      rcases List.mem_append.1 hm with hm | hm
      · exact joinAtoms_plain l _ 59 (.inl rfl) hm
      · rcases List.mem_cons.1 hm with hm | hm
        · revert hm; decide
        · exact joinAtoms_plain l _ 59 (.inl rfl) hm

theorem readAtom_one (l : List Rel) (t : List UInt8) (h : 0 < t.length) : readAtom l (t.take 1) = ⟨relIdx ⟨#[t[0]]⟩ l, []⟩ := by
  cases t with
  | nil => simp at h
  | cons b r => rfl
theorem readAtom_succ (l : List Rel) (t : List UInt8) (k : Nat) (h0 : 0 < k) (h : k < t.length) : readAtom l (t.take (k + 1)) = ⟨(readAtom l (t.take k)).rel, (readAtom l (t.take k)).vals ++ [termOf t[k]]⟩ := by
  cases t with
  | nil => simp at h
  | cons b r =>
    obtain ⟨j, rfl⟩ : ∃ j, k = j + 1 := ⟨k - 1, by omega⟩
    have hj : j < r.length := by simpa using h
    rw [List.take_succ_cons, List.take_succ_cons]
    show (⟨relIdx ⟨#[b]⟩ l, (r.take (j + 1)).map termOf⟩ : Atm) = ⟨relIdx ⟨#[b]⟩ l, (r.take j).map termOf ++ [termOf (b :: r)[j + 1]]⟩
    rw [List.take_succ_eq_append_getElem hj, List.map_append]; rfl
theorem readAtom_len (l : List Rel) (t : List UInt8) : (readAtom l t).vals.length ≤ t.length := by
  cases t with
  | nil => exact Nat.le_refl _
  | cons b r => show (r.map termOf).length ≤ _; simp
theorem readAtom_wf (l : List Rel) (hl : l.length ≤ 1048576) (t : List UInt8) : Atom_wf (readAtom l t) := by
  cases t with
  | nil => exact ⟨⟨by show (-9223372036854775808 : Int) ≤ -1; decide, by show (-1 : Int) ≤ 9223372036854775807; decide⟩, fun i hi => absurd hi (by show ¬ i < 0; omega)⟩
  | cons b r =>
    have h1 := relIdx_bd ⟨#[b]⟩ l
    refine ⟨⟨by show -9223372036854775808 ≤ relIdx ⟨#[b]⟩ l; omega, by show relIdx ⟨#[b]⟩ l ≤ _; omega⟩, fun i hi => ?_⟩
    have hi' : i < (r.map termOf).length := hi
    show -9223372036854775808 ≤ (r.map termOf)[i] ∧ (r.map termOf)[i] ≤ 9223372036854775807
    rw [List.getElem_map]
    have := termOf_bd (r[i]'(by simpa using hi'))
    omega
theorem readAtoms_wf (l : List Rel) (hl : l.length ≤ 1048576) (s : List UInt8) : AtomS_wf (readAtoms l s) := by
  intro i hi
  have hi' : i < ((cutA 32 s).map (readAtom l)).length := hi
  show Atom_wf ((cutA 32 s).map (readAtom l))[i]
  rw [List.getElem_map]
  exact readAtom_wf l hl _
theorem extract_one (t : ByteArray) (k : Nat) (h : k < t.size) : t.extract k (k + 1) = ⟨#[t[k]]⟩ := by
  apply bytes_ext
  rw [Lib.extract_data]
  have h' : k < t.data.toList.length := by simpa using h
  have e : (t.data.toList.drop k).take (k + 1 - k) = [t.data.toList[k]] := by
    rw [show k + 1 - k = 1 by omega, List.drop_eq_getElem_cons h']; rfl
  rw [e]; rfl
theorem AtomSO.empty (e : TypeId) (w : World) : AtomSO e w.heap.size (w.heap.size + 1) (.slice (some ⟨w.heap.size, 0, none⟩) 0 0) [] [] (w.alloc (.cells #[] e)) :=
  ⟨rfl, World.ownsRow_lit w #[] 0 (Nat.le_refl _) (by decide) rfl, (fun g hg => by cases hg; exact Nat.lt_succ_self _), (fun i h => absurd h (by simp)), List.Pairwise.nil⟩
theorem cutA_mem_len (c : UInt8) (s : List UInt8) : ∀ p ∈ cutA c s, p.length ≤ s.length := by
  induction s with
  | nil => intro p hp; simp [cutA] at hp; subst hp; exact Nat.le_refl _
  | cons b r ih =>
    rw [cutA_cons]
    split
    · intro p hp
      rcases List.mem_cons.1 hp with rfl | hp
      · exact Nat.zero_le _
      · exact Nat.le_succ_of_le (ih p hp)
    · intro p hp
      cases hc : cutA c r with
      | nil => exact absurd hc (cutA_ne c r)
      | cons h t =>
        rw [hc] at hp ih
        rcases List.mem_cons.1 hp with rfl | hp
        · have := ih h (by simp)
          simp only [List.singleton_append, List.length_cons]; omega
        · have := ih p (by simp [hp])
          simp only [List.length_cons]; omega

def ParseDependency_r0 (l : List Rel) (s : ByteArray) : Dep := (parseDep l s.data.toList).getD noDep
def ParseDependency_ok (l : List Rel) (s : ByteArray) : Bool := (parseDep l s.data.toList).isSome
theorem parseDep_yes {l : List Rel} {s : ByteArray} {x : Dep} (h : x = readDep l s.data.toList) (h1 : fmtDep l x = s.data.toList) (h2 : s.data.toList ≠ []) : ParseDependency_r0 l s = x ∧ ParseDependency_ok l s = true := by
  subst h
  unfold ParseDependency_r0 ParseDependency_ok parseDep
  rw [if_pos ⟨h1, h2⟩]; exact ⟨rfl, rfl⟩
theorem parseDep_no {l : List Rel} {s : ByteArray} {x : Dep} (h : x = readDep l s.data.toList) (h1 : ¬ (fmtDep l x = s.data.toList ∧ s.data.toList ≠ [])) : ParseDependency_r0 l s = noDep ∧ ParseDependency_ok l s = false := by
  subst h
  unfold ParseDependency_r0 ParseDependency_ok parseDep
  rw [if_neg h1]; exact ⟨rfl, rfl⟩
theorem readDep_egd {l : List Rel} {s a : List UInt8} {c d : UInt8} (h : cutA 61 s = [a, [c, d]]) : readDep l s = ⟨readAtoms l a, [], true, termOf c, termOf d⟩ := by unfold readDep; rw [h]
theorem readDep_rest {l : List Rel} {s : List UInt8} (h : ∀ a c d, cutA 61 s ≠ [a, [c, d]]) : readDep l s = readTgd l s := by
  unfold readDep
  split
  · rename_i a c d he; exact absurd he (h a c d)
  · rfl
theorem readTgd_two {l : List Rel} {s a b : List UInt8} (h : cutA 62 s = [a, b]) : readTgd l s = ⟨readAtoms l a, readAtoms l b, false, 0, 0⟩ := by unfold readTgd; rw [h]
theorem readTgd_no {l : List Rel} {s : List UInt8} (h : (cutA 62 s).length ≠ 2) : readTgd l s = noDep := by
  unfold readTgd
  split
  · rename_i a b he; rw [he] at h; exact absurd rfl h
  · rfl
/-- what ParseDependency gives, in memory of the call's own -/
def GivesDep (l : List Rel) (s : ByteArray) (w : World) (e : Ending) (w' : World) : Prop := ∃ X : DepX, e = .returned (.tuple #[.agg #[X.1.1, X.2.1, .bool (ParseDependency_r0 l s).egd, .int .i64 (ParseDependency_r0 l s).left, .int .i64 (ParseDependency_r0 l s).right], .bool (ParseDependency_ok l s)]) ∧ DepOwn w.heap.size w'.heap.size X (ParseDependency_r0 l s) w' ∧ Below w.heap.size w w'
theorem DepOwn.none (B C : Nat) (w : World) : DepOwn B C zeroDX noDep w := ⟨AtomSO.nil0 _ _ _ _, AtomSO.nil0 _ _ _ _, fun g hg => absurd hg (no_foot g)⟩
theorem bytes_two (t : ByteArray) (h : t.size = 2) : ∃ c d : UInt8, t = ⟨#[c, d]⟩ := by
  obtain ⟨⟨l⟩⟩ := t
  match l, h with
  | [c, d], _ => exact ⟨c, d, rfl⟩
theorem list_two {α : Type} (l : List α) (h : l.length = 2) : ∃ a b, l = [a, b] := by
  match l, h with
  | [a, b], _ => exact ⟨a, b, rfl⟩
theorem zero_i64 : -9223372036854775808 ≤ (0 : Int) ∧ (0 : Int) ≤ 9223372036854775807 := ⟨by decide, by decide⟩
theorem GivesDep.out {l : List Rel} {s : ByteArray} {w : World} {e : Ending} {w' : World} (h : GivesDep l s w e w') : ∃ r0, e = .returned (.tuple #[r0, .bool (ParseDependency_ok l s)]) ∧ Dependency_own w.heap.size w'.heap.size r0 (ParseDependency_r0 l s) w' ∧ Below w.heap.size w w' := by
  obtain ⟨X, he, ⟨h1, h2, h3⟩, hb⟩ := h
  exact ⟨_, he, ⟨_, _, _, _, rfl, h1, h2, h3⟩, hb⟩

theorem specIsValid_at (r : Rel) (b : Bool) (h : relOk r.name r.arity = b) (w : World) :
    Calls Tryz.prog 101 #[.agg #[.string r.name, .int .i64 r.arity, .bool r.source]] w fun e w' => e = .returned (.bool b) ∧ Below w.heap.size w w' := by
  subst h; exact specIsValidRelation_any _ _ _ w
set_option maxHeartbeats 3200000 in
theorem specAreValidRelations_any (v : Value) (l : List Rel) (w : World) (hl : RelsAt w w.heap.size v l) :
    Calls Tryz.prog 34 #[v] w fun e w' => e = .returned (.bool (validRels l)) ∧ Below w.heap.size w w' := by
  have HL := Lib.hid hl
  obtain ⟨A, c, rfl, hlc, hcm, -⟩ := hl
  unfold maxLen at hcm
  go_enter Tryz.func34, Tryz.ntmps34
  go_wp2
  go_loopw [3] (fun i wr => ∃ k : Nat, k ≤ l.length ∧ i = .int .i64 k ∧ Hid (okTo l k = true) ∧ Below w.heap.size w wr) (fun i _ => l.length - (intOf i).toNat)
  case atStart => exact ⟨0, by omega, rfl, Lib.hid rfl, Below.refl _ _⟩
  case round =>
    obtain ⟨k, hk, rfl, HT, hW⟩ := hrel
    have hz := hW.size
    by_cases hlt : k < l.length
    · obtain ⟨b, off, rfl, hb, c0, c1, c2⟩ := RelsAt.elem HL.out k hlt
      have C0 := Aft.cell hb c0
      have C1 := Aft.cell hb c1
      have C2 := Aft.cell hb c2
      clear c0 c1 c2
      cases hr : relOk l[k].name l[k].arity with
      | false =>
        have HV := Lib.hid (validRels_no l k hlt (okAt_bad l k hlt hr))
        have hcon := specIsValid_at l[k] false hr
        clear hr
        go_wp2
        refine wp_region_aft hW (by kernel_rfl) (by kernel_rfl) ?_
        repeat (go_big_quiet_step (((go_at_call 101; exact calls_aft (Nat.le_refl _) (hcon _)))))
        refine wpQuiet_nil ?_
        refine aft_end ?_
        intro w1 hh
        go_wp2
        go_ret
        exact ⟨by rw [HV.out]; rfl, hh⟩
      | true =>
        have hcon := specIsValid_at l[k] true hr
        rcases Nat.eq_zero_or_pos k with h0 | h0
        · have HT' := Lib.hid (show okTo l (k + 1) = true by rw [okTo_succ, HT.out]; subst h0; rw [okAt_zero l hlt hr]; rfl)
          have hg1 : decide ((0 : Int) < (k : Int)) = false := decide_eq_false (by omega)
          have hg2 : decide (0 < k) = false := decide_eq_false (by omega)
          clear hr h0
          go_wp2
          refine wp_region_aft hW (by kernel_rfl) (by kernel_rfl) ?_
          repeat (go_big_quiet_step (((go_at_call 101; exact calls_aft (Nat.le_refl _) (hcon _)))))
          refine wpQuiet_nil ?_
          refine aft_end ?_
          intro w1 hh
          go_wp2
          go_roundw
          case rel => exact ⟨k + 1, by omega, by go_num, HT', hh⟩
          case measure => simp [intOf]; omega
        · obtain ⟨j, rfl⟩ : ∃ j, k = j + 1 := ⟨k - 1, by omega⟩
          have hj : j < l.length := by omega
          have HS := Lib.hid (show okTo l (j + 1 + 1) = Op.bytesLess l[j].name.toList l[j + 1].name.toList by rw [okTo_succ, HT.out, okAt_succ l j hlt hr]; rfl)
          have HS2 := Lib.hid (okAt_succ l j hlt hr)
          obtain ⟨b', off', hA, hb', d0, -, -⟩ := RelsAt.elem HL.out j hj
          obtain ⟨rfl, rfl⟩ : b = b' ∧ off = off' := by simpa using hA
          have D0 := Aft.cell hb' d0
          clear hA d0
          clear hr
          cases hlss : Op.bytesLess l[j].name.toList l[j + 1].name.toList with
          | true =>
            have HT' := Lib.hid (HS.out.trans hlss)
            go_wp2
            refine wp_region_aft hW (by kernel_rfl) (by kernel_rfl) ?_
            repeat (go_big_quiet_step (((go_at_call 101; exact calls_aft (Nat.le_refl _) (hcon _)))))
            refine wpQuiet_nil ?_
            refine aft_end ?_
            intro w1 hh
            go_wp2
            go_roundw
            case rel => exact ⟨j + 1 + 1, by omega, by go_num, HT', hh⟩
            case measure => simp [intOf]; omega
          | false =>
            have HV := Lib.hid (validRels_no l (j + 1) hlt (HS2.out.trans hlss))
            go_wp2
            refine wp_region_aft hW (by kernel_rfl) (by kernel_rfl) ?_
            repeat (go_big_quiet_step (((go_at_call 101; exact calls_aft (Nat.le_refl _) (hcon _)))))
            refine wpQuiet_nil ?_
            refine aft_end ?_
            intro w1 hh
            go_wp2
            go_ret
            exact ⟨by rw [HV.out]; rfl, hh⟩
    · obtain rfl : k = l.length := by omega
      have HV := Lib.hid (validRels_yes l HT.out)
      go_wp2
      go_ret
      exact ⟨ret_bool (by rw [HV.out]; exact decide_eq_decide.2 (by omega)), hW⟩

theorem specAreValid_at2 (l : List Rel) (b : Bool) (h : validRels l = b) (v : Value) (w : World) (hl : RelsAt w w.heap.size v l) :
    Calls Tryz.prog 34 #[v] w fun e w' => e = .returned (.bool b) ∧ Below w.heap.size w w' := by
  subst h; exact specAreValidRelations_any v l w hl

set_option maxHeartbeats 3200000 in
set_option maxRecDepth 100000 in
theorem specPut_any (B g cap : Nat) (l : List Int) (x : Int) (w : World) (hO : OwnInts B (.slice (some ⟨g, 0, none⟩) l.length cap) l w) (hB : B ≤ w.heap.size) (hn : l.length ≤ 1048576) :
    Calls Tryz.prog 156 #[.slice (some ⟨g, 0, none⟩) l.length cap, .int .i64 x] w fun e w' => ∃ g' cap', e = .returned (.slice (some ⟨g', 0, none⟩) (putI l x).length cap') ∧ OwnInts B (.slice (some ⟨g', 0, none⟩) (putI l x).length cap') (putI l x) w' ∧ Below w.heap.size w w' := by
  have HO := Lib.hid hO
  have HL := Lib.hid hO.at_
  obtain ⟨_, _, hv, hlc, hcm, -⟩ := hO.at_
  injection hv with h1 _ h2
  subst h1 h2
  have hg := (hO.lt g rfl).2
  clear hO
  unfold maxLen at hcm
  go_enter Tryz.func156, Tryz.ntmps156
  go_wp2
  go_loop [5] (fun i => ∃ k : Nat, k ≤ l.length ∧ i = .int .i64 k ∧ Hid (PutTo l x k)) (fun i => l.length - (intOf i).toNat)
  case atStart => exact ⟨0, by omega, rfl, Lib.hid (PutTo.zero l x)⟩
  case round =>
    obtain ⟨k, hk, rfl, HT⟩ := hrel
    by_cases hlt : k < l.length
    · obtain ⟨b, off, hA, hb, c0⟩ := IntsAt.elem HL.out k hlt
      obtain ⟨rfl, rfl⟩ : g = b ∧ 0 = off := by simpa using hA
      clear hA
      rw [Nat.zero_add] at c0
      by_cases h1 : l[k] < x
      · have HN := Lib.hid (HT.out.next hlt h1)
        go_wp2
        go_round
        case rel => exact ⟨k + 1, by omega, by go_num, HN⟩
        case measure => simp [intOf]; omega
      · by_cases h2 : l[k] = x
        · have HV := Lib.hid (HT.out.hit hlt h2)
          have hb2 : (l[k] == x) = true := by rw [h2]; exact beq_self_eq_true x
          clear h2
          go_wp2
          go_ret
          exact ⟨g, cap, by rw [HV.out]; rfl, by rw [HV.out]; exact HO.out, Below.refl _ _⟩
        · have HV := Lib.hid (HT.out.stop hlt (by omega))
          have hb2 : (l[k] == x) = false := beq_eq_false_iff_ne.2 h2
          have hck : ¬ cap - k = 0 := by omega
          clear h2
          go_wp2_with (first
            | (at_builtin; refine ints_apps (r := l.drop k) (OwnInts.one w w.heap.size x (Nat.le_refl _)) rfl _ _ rfl rfl (some ⟨g, k, none⟩) (l.length - k) (cap - k) rfl (by simp) (by simpa using (SliceAt.drop (k := 1) (fun _ => rfl) ((HL.out.below ((Below.refl _ _).alloc (Nat.le_refl _) (.cells #[.int .i64 x] 3)) (Nat.le_refl _))) k hk)) (fun h => by cases h) (by simp <;> omega) (by simp) ?_; intro v1 w1 hO1 hW1 _ _; have hz1 := hW1.size; simp at hz1; obtain ⟨g1, cap1, rfl, _, hg1, hc1, hc2⟩ := hO1.form (by simp); have hw1 : Below w.heap.size w w1 := ((Below.refl _ _).alloc (Nat.le_refl _) _).trans hW1; have HO1 := Lib.hid hO1.at_; clear hO1 hW1)
            | (at_builtin; refine ints_apps (r := l.take k) (OwnInts.empty w1 w1.heap.size (Nat.le_refl _)) rfl _ _ rfl rfl (some ⟨g, 0, none⟩) k cap rfl (by simp <;> omega) (SliceAt.take ((HL.out.below hw1 (Nat.le_refl _)).below ((Below.refl w1.heap.size w1).alloc (Nat.le_refl _) _) (by omega)) k (by omega)) (fun h => by cases h) (by simp <;> omega) (by simp) ?_; intro v2 w2 hO2 hW2 _ _; have hz2 := hW2.size; simp at hz2; have hw2 : Below w1.heap.size w1 w2 := ((Below.refl _ _).alloc (Nat.le_refl _) _).trans hW2)
            | (at_builtin; refine ints_apps (r := [x] ++ l.drop k) hO2 rfl _ _ rfl rfl (some ⟨g1, 0, none⟩) _ cap1 rfl (by simp <;> omega) (HO1.out.below hw2 (Nat.le_refl _)) (fun h => by cases h) (by simp <;> omega) (by omega) ?_; intro v3 w3 hO3 hW3 _ _; obtain ⟨g3, cap3, rfl, -, -, -, -⟩ := hO3.form (by simp <;> omega)))
          have he : [] ++ l.take k ++ ([x] ++ l.drop k) = putI l x := by rw [HV.out]; simp
          rw [he] at hO3
          have hlen : (putI l x).length = k + (l.length - k + 1) := by rw [HV.out]; simp <;> omega
          go_ret
          exact ⟨g3, cap3, by rw [hlen]; rfl, hO3.mono (by omega), hw1.trans ((hw2.trans hW3).mono (by omega))⟩
    · obtain rfl : k = l.length := by omega
      have HV := Lib.hid (HT.out.last rfl)
      by_cases hcl : cap = l.length
      · subst hcl
        go_wp2_with (first
          | (at_builtin; refine ints_apps (r := l.drop l.length) (OwnInts.one w w.heap.size x (Nat.le_refl _)) rfl _ _ rfl rfl (some ⟨g, 0, none⟩) 0 0 rfl (by simp) (by simpa [List.drop_length] using (SliceAt.none_of (f := intCell) (w := w.alloc (.cells #[.int .i64 x] 3)) (B := w.heap.size) (A := some ⟨g, 0, none⟩) (c := 0) (by decide) (fun e => by cases e))) (fun h => by cases h) (by simp <;> omega) (by simp) ?_; intro v1 w1 hO1 hW1 _ _; have hz1 := hW1.size; simp at hz1; obtain ⟨g1, cap1, rfl, _, hg1, hc1, hc2⟩ := hO1.form (by simp); have hw1 : Below w.heap.size w w1 := ((Below.refl _ _).alloc (Nat.le_refl _) _).trans hW1; have HO1 := Lib.hid hO1.at_; clear hO1 hW1)
          | (at_builtin; refine ints_apps (r := l.take l.length) (OwnInts.empty w1 w1.heap.size (Nat.le_refl _)) rfl _ _ rfl rfl (some ⟨g, 0, none⟩) l.length l.length rfl (by simp) (SliceAt.take ((HL.out.below hw1 (Nat.le_refl _)).below ((Below.refl w1.heap.size w1).alloc (Nat.le_refl _) _) (by omega)) l.length (by omega)) (fun h => by cases h) (by simp <;> omega) (by simp) ?_; intro v2 w2 hO2 hW2 _ _; have hz2 := hW2.size; simp at hz2; have hw2 : Below w1.heap.size w1 w2 := ((Below.refl _ _).alloc (Nat.le_refl _) _).trans hW2)
          | (at_builtin; refine ints_apps (r := [x] ++ l.drop l.length) hO2 rfl _ _ rfl rfl (some ⟨g1, 0, none⟩) _ cap1 rfl (by simp <;> omega) (HO1.out.below hw2 (Nat.le_refl _)) (fun h => by cases h) (by simp <;> omega) (by omega) ?_; intro v3 w3 hO3 hW3 _ _; obtain ⟨g3, cap3, rfl, -, -, -, -⟩ := hO3.form (by simp <;> omega)))
        have he : [] ++ l.take l.length ++ ([x] ++ l.drop l.length) = putI l x := by rw [HV.out]; simp
        rw [he] at hO3
        have hlen : (putI l x).length = l.length + 1 := by rw [HV.out]; simp
        go_ret
        exact ⟨g3, cap3, by rw [hlen]; rfl, hO3.mono (by omega), hw1.trans ((hw2.trans hW3).mono (by omega))⟩
      · have hck : ¬ cap - l.length = 0 := by omega
        go_wp2_with (first
          | (at_builtin; refine ints_apps (r := l.drop l.length) (OwnInts.one w w.heap.size x (Nat.le_refl _)) rfl _ _ rfl rfl (some ⟨g, l.length, none⟩) 0 (cap - l.length) rfl (by simp) (by simpa using (SliceAt.drop (k := 1) (fun _ => rfl) ((HL.out.below ((Below.refl _ _).alloc (Nat.le_refl _) (.cells #[.int .i64 x] 3)) (Nat.le_refl _))) l.length (Nat.le_refl _))) (fun h => by cases h) (by simp <;> omega) (by simp) ?_; intro v1 w1 hO1 hW1 _ _; have hz1 := hW1.size; simp at hz1; obtain ⟨g1, cap1, rfl, _, hg1, hc1, hc2⟩ := hO1.form (by simp); have hw1 : Below w.heap.size w w1 := ((Below.refl _ _).alloc (Nat.le_refl _) _).trans hW1; have HO1 := Lib.hid hO1.at_; clear hO1 hW1)
          | (at_builtin; refine ints_apps (r := l.take l.length) (OwnInts.empty w1 w1.heap.size (Nat.le_refl _)) rfl _ _ rfl rfl (some ⟨g, 0, none⟩) l.length cap rfl (by simp) (SliceAt.take ((HL.out.below hw1 (Nat.le_refl _)).below ((Below.refl w1.heap.size w1).alloc (Nat.le_refl _) _) (by omega)) l.length (by omega)) (fun h => by cases h) (by simp <;> omega) (by simp) ?_; intro v2 w2 hO2 hW2 _ _; have hz2 := hW2.size; simp at hz2; have hw2 : Below w1.heap.size w1 w2 := ((Below.refl _ _).alloc (Nat.le_refl _) _).trans hW2)
          | (at_builtin; refine ints_apps (r := [x] ++ l.drop l.length) hO2 rfl _ _ rfl rfl (some ⟨g1, 0, none⟩) _ cap1 rfl (by simp <;> omega) (HO1.out.below hw2 (Nat.le_refl _)) (fun h => by cases h) (by simp <;> omega) (by omega) ?_; intro v3 w3 hO3 hW3 _ _; obtain ⟨g3, cap3, rfl, -, -, -, -⟩ := hO3.form (by simp <;> omega)))
        have he : [] ++ l.take l.length ++ ([x] ++ l.drop l.length) = putI l x := by rw [HV.out]; simp
        rw [he] at hO3
        have hlen : (putI l x).length = l.length + 1 := by rw [HV.out]; simp
        go_ret
        exact ⟨g3, cap3, by rw [hlen]; rfl, hO3.mono (by omega), hw1.trans ((hw2.trans hW3).mono (by omega))⟩

set_option maxHeartbeats 400000 in
theorem specCompareFacts_any (r s : Int) (v u : Value) (a b : List Int) (w : World) (hl : IntsAt w w.heap.size v a) (hm : IntsAt w w.heap.size u b) :
    Calls Tryz.prog 90 #[.agg #[.int .i64 r, v], .agg #[.int .i64 s, u]] w fun e w' => e = .returned (.int .i64 (cmpFact r a s b)) ∧ Below w.heap.size w w' := by
  have hb : Below w.heap.size w ((w.alloc (.cells #[.int .i64 r, v] 57)).alloc (.cells #[.int .i64 s, u] 57)) := below_more (below_more (Below.refl _ _) _) _
  have hcon := specInts_any v u a b _ ((hl.below hb (Nat.le_refl _)).more hb.size) ((hm.below hb (Nat.le_refl _)).more hb.size)
  clear hl hm
  by_cases h1 : r < s
  · have HV : Hid (cmpFact r a s b = -1) := Lib.hid (if_pos h1)
    go_enter Tryz.func90, Tryz.ntmps90
    go_wp2
    go_ret
    exact ⟨ret_int HV.out.symm, hb⟩
  · by_cases h2 : s < r
    · have HV : Hid (cmpFact r a s b = 1) := Lib.hid ((if_neg h1).trans (if_pos h2))
      go_enter Tryz.func90, Tryz.ntmps90
      go_wp2
      go_ret
      exact ⟨ret_int HV.out.symm, hb⟩
    · have HV : Hid (cmpFact r a s b = cmpInts a b) := Lib.hid ((if_neg h1).trans (if_neg h2))
      go_enter Tryz.func90, Tryz.ntmps90
      go_wp2_with fail
      refine hcon.mono ?_
      rintro e w' ⟨rfl, hb'⟩
      go_wp2
      go_ret
      exact ⟨ret_int HV.out.symm, hb.trans (hb'.mono hb.size)⟩
theorem specCompareFacts_c (v : Value) (x : Fct) (u : Value) (y : Fct) (w : World) (h : Fact_at w w.heap.size v x) (_ : Fact_wf x) (_ : Fact_sz x ≤ 1048576) (h' : Fact_at w w.heap.size u y) (_ : Fact_wf y) (_ : Fact_sz y ≤ 1048576) :
    Calls Tryz.prog 90 #[v, u] w fun e w' => e = .returned (.int .i64 (cmpFact x.rel x.vals y.rel y.vals)) ∧ Below w.heap.size w w' := by
  obtain ⟨V, rfl, h⟩ := h
  obtain ⟨U, rfl, h'⟩ := h'
  exact specCompareFacts_any x.rel y.rel V U x.vals y.vals w h h'

theorem specCompareFacts_at (a b : Fct) (q : Int) (hq : cmpF a b = q) (v u : Value) (w : World) (h : Fact_at w w.heap.size v a) (h' : Fact_at w w.heap.size u b) :
    Calls Tryz.prog 90 #[v, u] w fun e w' => e = .returned (.int .i64 q) ∧ Below w.heap.size w w' := by
  subst hq
  obtain ⟨V, rfl, h⟩ := h
  obtain ⟨U, rfl, h'⟩ := h'
  exact specCompareFacts_any _ _ _ _ _ _ w h h'

set_option maxHeartbeats 3200000 in
set_option maxRecDepth 100000 in
theorem specIsValidFact_any (v : Value) (l : List Rel) (r : Int) (V : Value) (vs : List Int) (w : World) (hl : RelsAt w w.heap.size v l) (hn : l.length ≤ 1048576) (hV : IntsAt w w.heap.size V vs) (hw : IntsWf vs) :
    Calls Tryz.prog 40 #[v, .agg #[.int .i64 r, V]] w fun e w' => e = .returned (.bool (factOk l r vs)) ∧ Below w.heap.size w w' := by
  have HL := Lib.hid hl
  have HV := Lib.hid hV
  obtain ⟨A, c, rfl, hlc, hcm, -⟩ := hl
  obtain ⟨A', c', rfl, hlc', hcm', -⟩ := hV
  unfold maxLen at hcm hcm'
  have hE : Below w.heap.size w (w.alloc (.cells #[.int .i64 r, .slice A' vs.length c'] 57)) := (Below.refl _ _).alloc (Nat.le_refl _) _
  have hEz : w.heap.size + 1 ≤ (w.alloc (.cells #[.int .i64 r, .slice A' vs.length c'] 57)).heap.size := by simp
  have k0 : (w.alloc (.cells #[.int .i64 r, .slice A' vs.length c'] 57)).cell? ⟨w.heap.size, 0, none⟩ = some (.int .i64 r) := by simp [go_sem]
  have k1 : (w.alloc (.cells #[.int .i64 r, .slice A' vs.length c'] 57)).cell? ⟨w.heap.size, 1, none⟩ = some (.slice A' vs.length c') := by simp [go_sem]
  have G0 := Aft.cell hEz k0
  have G1 := Aft.cell hEz k1
  have K1 := Lib.hid k1
  have hcon := fun b h (u : Aft (w.alloc (.cells #[.int .i64 r, .slice A' vs.length c'] 57)).heap.size (w.alloc (.cells #[.int .i64 r, .slice A' vs.length c'] 57))) => specAreValid_at2 l b h (.slice A l.length c) u.now ((HL.out.below (hE.trans (u.is.mono hE.size)) (Nat.le_refl _)).more (hE.trans (u.is.mono hE.size)).size)
  clear k0 k1
  cases hr : validRels l with
  | false =>
    have HF := Lib.hid (factOk_rels (r := r) (vs := vs) hr)
    replace hcon := hcon false hr
    clear hr
    go_enter Tryz.func40, Tryz.ntmps40
    go_wp2
    refine wp_region_aft (Below.refl (w.alloc (.cells #[.int .i64 r, .slice A' vs.length c'] 57)).heap.size (w.alloc (.cells #[.int .i64 r, .slice A' vs.length c'] 57))) (by kernel_rfl) (by kernel_rfl) ?_
    repeat (go_big_quiet_step (((go_at_call 34; exact calls_aft (Nat.le_refl _) (hcon _)))))
    refine wpQuiet_nil ?_
    refine aft_end ?_
    intro w1 hh
    go_wp2
    go_ret
    exact ⟨ret_bool HF.out.symm, hE.trans (hh.mono hE.size)⟩
  | true =>
    have HR := Lib.hid hr
    replace hcon := hcon true hr
    clear hr
    by_cases hin : 0 ≤ r ∧ r < l.length
    · obtain ⟨k, rfl⟩ : ∃ k : Nat, r = (k : Int) := ⟨r.toNat, by omega⟩
      have hk : k < l.length := by omega
      have HIN := Lib.hid hin
      have hin' := fun w => l1In_at (k : Int) 0 ((l.length : Int) - 1) true (inB_true (by omega)) w
      obtain ⟨b, off, rfl, hb, -, c1, -⟩ := RelsAt.elem HL.out k hk
      have C1 := Aft.cell (B := (w.alloc (.cells #[.int .i64 (k : Int), .slice A' vs.length c'] 57)).heap.size) (w := (w.alloc (.cells #[.int .i64 (k : Int), .slice A' vs.length c'] 57))) (by omega) ((hE.cell (p := ⟨b, off + k * 3 + 1, none⟩) hb).trans c1)
      have ha : Hid (l[k].arity = arityAt l (k : Int)) := Lib.hid (by rw [arityAt_in (by omega)]; rfl)
      clear c1 hin
      by_cases hlen : (vs.length : Int) = l[k].arity
      · have HLEN := Lib.hid (hlen.trans ha.out)
        have hbn : ((vs.length : Int) != l[k].arity) = false := by rw [hlen]; simp
        clear hlen
        generalize l[k].arity = q at *
        go_enter Tryz.func40, Tryz.ntmps40
        go_wp2
        refine wp_region_aft (Below.refl (w.alloc (.cells #[.int .i64 (k : Int), .slice A' vs.length c'] 57)).heap.size (w.alloc (.cells #[.int .i64 (k : Int), .slice A' vs.length c'] 57))) (by kernel_rfl) (by kernel_rfl) ?_
        repeat (go_big_quiet_step (first | ((go_at_call 34; exact calls_aft (Nat.le_refl _) (hcon _))) | ((go_at_call 112; exact calls_aft_same (hin' _)))))
        refine wpQuiet_nil ?_
        refine aft_end ?_
        intro w1 hh
        clear hcon hin' C1 G0 G1
        go_wp2
        go_loopw [5] (fun i wr => ∃ j : Nat, j ≤ vs.length ∧ i = .int .i64 j ∧ Hid (ValsTo vs j) ∧ Below (w.alloc (.cells #[.int .i64 (k : Int), .slice A' vs.length c'] 57)).heap.size (w.alloc (.cells #[.int .i64 (k : Int), .slice A' vs.length c'] 57)) wr) (fun i _ => vs.length - (intOf i).toNat)
        case atStart => exact ⟨0, by omega, rfl, Lib.hid (ValsTo.zero vs), hh⟩
        case round =>
          obtain ⟨j, hj, rfl, HT, hW⟩ := hrel
          have f1 := (hW.cell (p := ⟨w.heap.size, 1, none⟩) hEz).trans K1.out
          by_cases hlt : j < vs.length
          · obtain ⟨b', off', rfl, hb', d0⟩ := IntsAt.elem HV.out j hlt
            replace d0 := ((hE.trans (hW.mono hE.size)).cell (p := ⟨b', off' + j, none⟩) hb').trans d0
            cases hv : validV vs[j] with
            | false =>
              have hvc := specIsValidValue_at vs[j] false hv wr (hw j hlt).1 (hw j hlt).2
              have HF := Lib.hid (factOk_val (l := l) (r := (k : Int)) j hlt hv)
              clear hv
              go_wp2_with (go_at_call 113; refine hvc.mono ?_; rintro e w2 ⟨rfl, rfl⟩)
              go_ret
              exact ⟨ret_bool HF.out.symm, hE.trans (hW.mono hE.size)⟩
            | true =>
              have hvc := specIsValidValue_at vs[j] true hv wr (hw j hlt).1 (hw j hlt).2
              have HN := Lib.hid (HT.out.next hlt hv)
              clear hv
              go_wp2_with (go_at_call 113; refine hvc.mono ?_; rintro e w2 ⟨rfl, rfl⟩)
              go_roundw
              case rel => exact ⟨j + 1, by omega, by go_num, HN, hW⟩
              case measure => simp [intOf]; omega
          · obtain rfl : j = vs.length := by omega
            have HF := Lib.hid (factOk_yes HR.out HIN.out HLEN.out HT.out)
            go_wp2
            go_ret
            exact ⟨ret_bool HF.out.symm, hE.trans (hW.mono hE.size)⟩
      · have HF := Lib.hid (factOk_len (l := l) (r := (k : Int)) (vs := vs) (fun e => hlen (e.trans ha.out.symm)))
        have hbn : ((vs.length : Int) != l[k].arity) = true := bne_iff_ne.2 hlen
        clear hlen
        generalize l[k].arity = q at *
        go_enter Tryz.func40, Tryz.ntmps40
        go_wp2
        refine wp_region_aft (Below.refl (w.alloc (.cells #[.int .i64 (k : Int), .slice A' vs.length c'] 57)).heap.size (w.alloc (.cells #[.int .i64 (k : Int), .slice A' vs.length c'] 57))) (by kernel_rfl) (by kernel_rfl) ?_
        repeat (go_big_quiet_step (first | ((go_at_call 34; exact calls_aft (Nat.le_refl _) (hcon _))) | ((go_at_call 112; exact calls_aft_same (hin' _)))))
        refine wpQuiet_nil ?_
        refine aft_end ?_
        intro w1 hh
        go_wp2
        go_ret
        exact ⟨ret_bool HF.out.symm, hE.trans (hh.mono hE.size)⟩
    · have HF := Lib.hid (factOk_idx (l := l) (r := r) (vs := vs) hin)
      have hin' := fun w => l1In_at r 0 ((l.length : Int) - 1) false (inB_false (by omega)) w
      clear hin
      go_enter Tryz.func40, Tryz.ntmps40
      go_wp2
      refine wp_region_aft (Below.refl (w.alloc (.cells #[.int .i64 r, .slice A' vs.length c'] 57)).heap.size (w.alloc (.cells #[.int .i64 r, .slice A' vs.length c'] 57))) (by kernel_rfl) (by kernel_rfl) ?_
      repeat (go_big_quiet_step (first | ((go_at_call 34; exact calls_aft (Nat.le_refl _) (hcon _))) | ((go_at_call 112; exact calls_aft_same (hin' _)))))
      refine wpQuiet_nil ?_
      refine aft_end ?_
      intro w1 hh
      go_wp2
      go_ret
      exact ⟨ret_bool HF.out.symm, hE.trans (hh.mono hE.size)⟩
theorem specIsValidFact_at (v : Value) (l : List Rel) (r : Int) (V : Value) (vs : List Int) (b : Bool) (h : factOk l r vs = b) (w : World) (hl : RelsAt w w.heap.size v l) (hn : l.length ≤ 1048576) (hV : IntsAt w w.heap.size V vs) (hw : IntsWf vs) :
    Calls Tryz.prog 40 #[v, .agg #[.int .i64 r, V]] w fun e w' => e = .returned (.bool b) ∧ Below w.heap.size w w' := by
  subst h; exact specIsValidFact_any v l r V vs w hl hn hV hw
theorem specIsValidFact_c (v : Value) (l : List Rel) (u : Value) (x : Fct) (w : World) (h : RelationS_at w w.heap.size v l) (_ : RelationS_wf l) (hn : RelationS_sz l ≤ 1048576) (h' : Fact_at w w.heap.size u x) (hw : Fact_wf x) (_ : Fact_sz x ≤ 1048576) :
    Calls Tryz.prog 40 #[v, u] w fun e w' => e = .returned (.bool (factOk l x.rel x.vals)) ∧ Below w.heap.size w w' := by
  obtain ⟨V, rfl, h'⟩ := h'
  exact specIsValidFact_any v l x.rel V x.vals w h (by unfold RelationS_sz at hn; omega) h' hw.2

set_option maxHeartbeats 1600000 in
set_option maxRecDepth 100000 in
theorem specNullsOfFact_any (r : Int) (V : Value) (vs : List Int) (w : World) (hV : IntsAt w w.heap.size V vs) (hw : IntsWf vs) :
    Calls Tryz.prog 91 #[.agg #[.int .i64 r, V]] w fun e w' => ∃ u, e = .returned u ∧ OwnInts w.heap.size u (nullsOf vs) w' ∧ Below w.heap.size w w' := by
  have HV := Lib.hid hV
  obtain ⟨A', c', rfl, hlc', hcm', -⟩ := hV
  unfold maxLen at hcm'
  have hE : Below w.heap.size w (w.alloc (.cells #[.int .i64 r, .slice A' vs.length c'] 57)) := (Below.refl _ _).alloc (Nat.le_refl _) _
  have hEz : w.heap.size + 1 ≤ (w.alloc (.cells #[.int .i64 r, .slice A' vs.length c'] 57)).heap.size := by simp
  have K1 := Lib.hid (show (w.alloc (.cells #[.int .i64 r, .slice A' vs.length c'] 57)).cell? ⟨w.heap.size, 1, none⟩ = some (.slice A' vs.length c') by simp [go_sem])
  go_enter Tryz.func91, Tryz.ntmps91
  go_wp2
  go_loopw [3, 4, 5, 6] (fun o i _ _ wr => ∃ k g cap : Nat, k ≤ vs.length ∧ i = .int .i64 k ∧ o = .slice (some ⟨g, 0, none⟩) (nullsOf (vs.take k)).length cap ∧ OwnInts (w.heap.size + 1) o (nullsOf (vs.take k)) wr ∧ Below (w.heap.size + 1) (w.alloc (.cells #[.int .i64 r, .slice A' vs.length c'] 57)) wr) (fun _ i _ _ _ => vs.length - (intOf i).toNat)
  case atStart => exact ⟨0, _, _, by omega, rfl, rfl, by simpa [nullsOf] using OwnInts.empty (w.alloc (.cells #[.int .i64 r, .slice A' vs.length c'] 57)) (w.heap.size + 1) (by simp), (Below.refl _ _).alloc (by simp) _⟩
  case round =>
    obtain ⟨k, g, cap, hk, rfl, rfl, hO, hW⟩ := hrel
    have hz := hW.size
    simp at hz
    have f1 := (hW.cell (p := ⟨w.heap.size, 1, none⟩) (by show w.heap.size < _; omega)).trans K1.out
    have hWw : Below w.heap.size w wr := hE.trans (hW.mono (by omega))
    by_cases hlt : k < vs.length
    · obtain ⟨b', off', rfl, hb', d0⟩ := IntsAt.elem HV.out k hlt
      replace d0 := (hWw.cell (p := ⟨b', off' + k, none⟩) hb').trans d0
      have HN := Lib.hid (nullsOf_take vs k hlt)
      have hlen := (AscN.nullsOf vs k).len
      have hnn := specNullNumber_any vs[k] wr (hw k hlt).1 (hw k hlt).2
      cases hb : (nullNum vs[k]).2 with
      | true =>
        have HA := Lib.hid (HN.out.trans (if_pos hb))
        have hput := specPut_any (w.heap.size + 1) g cap (nullsOf (vs.take k)) (nullNum vs[k]).1 wr hO (by omega) (by omega)
        rw [hb] at hnn
        rw [← HA.out] at hput
        clear hb hO
        go_wp2_with (first | (go_at_call 178; refine hnn.mono ?_; rintro e w2 ⟨rfl, rfl⟩) | (go_at_call 156; refine hput.mono ?_; rintro e w3 ⟨g2, cap2, rfl, hO2, hb2⟩))
        go_roundw
        case rel => exact ⟨k + 1, g2, cap2, by omega, by go_num, rfl, hO2, hW.trans (hb2.mono (by omega))⟩
        case measure => simp [intOf]; omega
      | false =>
        have HA := Lib.hid (HN.out.trans (if_neg (by rw [hb]; simp)))
        rw [hb] at hnn
        have HO' := Lib.hid (show OwnInts (w.heap.size + 1) (.slice (some ⟨g, 0, none⟩) (nullsOf (vs.take k)).length cap) (nullsOf (vs.take (k + 1))) wr by rw [HA.out]; exact hO)
        have hl : (nullsOf (vs.take (k + 1))).length = (nullsOf (vs.take k)).length := by rw [HA.out]
        clear hb
        go_wp2_with (first | (go_at_call 178; refine hnn.mono ?_; rintro e w2 ⟨rfl, rfl⟩))
        go_roundw
        case rel => exact ⟨k + 1, g, cap, by omega, by go_num, by rw [hl], HO'.out, hW⟩
        case measure => simp [intOf]; omega
    · obtain rfl : k = vs.length := by omega
      have he : nullsOf (vs.take vs.length) = nullsOf vs := by rw [List.take_of_length_le (Nat.le_refl _)]
      have hO' := hO
      rw [he] at hO'
      have HO := Lib.hid (hO'.mono (B' := w.heap.size) (by omega))
      clear hO hO'
      go_wp2
      go_ret
      exact ⟨.slice (some ⟨g, 0, none⟩) (nullsOf vs).length cap, by rw [he]; rfl, HO.out, hWw⟩
theorem nullsOf_len (vs : List Int) : (nullsOf vs).length ≤ 40 := by
  have := (AscN.nullsOf vs vs.length).len
  rwa [List.take_of_length_le (Nat.le_refl _)] at this
def NullsOfFact_r0 (x : Fct) : List Int := nullsOf x.vals
theorem specNullsOfFact_c (v : Value) (x : Fct) (w : World) (h : Fact_at w w.heap.size v x) (hw : Fact_wf x) (_ : Fact_sz x ≤ 1048576) :
    Calls Tryz.prog 91 #[v] w fun e w' => ∃ u, e = .returned u ∧ IntS_at w' w'.heap.size u (NullsOfFact_r0 x) ∧ Below w.heap.size w w' := by
  obtain ⟨V, rfl, h⟩ := h
  exact (specNullsOfFact_any x.rel V x.vals w h hw.2).mono fun _ _ ⟨u, he, ho, hb⟩ => ⟨u, he, ho.at_, hb⟩

end Go.Proofs.YtmecdjincmkofaaGreatDoor
