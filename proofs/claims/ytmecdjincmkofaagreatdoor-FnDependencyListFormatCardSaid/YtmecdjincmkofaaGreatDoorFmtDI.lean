/-
  Walks and plain lemmas for the laws of this seat: what single Go functions return, for every argument.
-/
import Derived.Lib.Bytealg
import Derived.Test.YtmecdjincmkofaaGreatDoorBase
import Derived.Test.YtmecdjincmkofaaGreatDoorMem
import Derived.Test.YtmecdjincmkofaaGreatDoorNum
import Derived.Test.YtmecdjincmkofaaGreatDoorFact
import Derived.Test.YtmecdjincmkofaaGreatDoorFmtV
import Derived.Test.YtmecdjincmkofaaGreatDoorFmtF
import Derived.Test.YtmecdjincmkofaaGreatDoorVarsM
import Derived.Test.YtmecdjincmkofaaGreatDoorDrawR
import Derived.Test.YtmecdjincmkofaaGreatDoorDrawI
import Derived.Test.YtmecdjincmkofaaGreatDoorFmtDS
namespace Go.Proofs.YtmecdjincmkofaaGreatDoor
open Go.RowKit

/-- a byte that is a term's text -/
def termIs (c : UInt8) : Bool := decide (termOf c ≤ 4)
def atomIs : List UInt8 → Bool
  | [] => false
  | _ :: r => r.all termIs
def implPcs (s : List UInt8) : List (List UInt8) := cutN 32 (min 3 (s.length + 1) - 1) s
/-- what readAtoms gives; nothing where it panics -/
def implAtoms (l : List Rel) (s : List UInt8) : Option (List Atm) := if (implPcs s).all atomIs = true then some ((implPcs s).map (readAtom l)) else none
def implTgd (l : List Rel) (a b : List UInt8) : Option Dep := match implAtoms l a, implAtoms l b with
  | some x, some y => some ⟨x, y, false, 0, 0⟩
  | _, _ => none
def implEgd (l : List Rel) (a b : List UInt8) : Option Dep := match b, implAtoms l a with
  | [c, d], some x => if termIs c = true ∧ termIs d = true then some ⟨x, [], true, termOf c, termOf d⟩ else none
  | _, _ => none
/-- what readDependency has read ahead of its check -/
def implRaw (l : List Rel) (s : List UInt8) : Option Dep := if (Lib.cut s [62]).2.2 = true then implTgd l (Lib.cut s [62]).1 (Lib.cut s [62]).2.1 else implEgd l (Lib.cut s [61]).1 (Lib.cut s [61]).2.1
theorem termIs_is {c : UInt8} (h : termIs c = true) : termOf c ≤ 4 := of_decide_eq_true h
theorem termIs_valid {c : UInt8} (h : termIs c = true) : validT (termOf c) = true ∧ termB (termOf c) = c :=
  ⟨(validT_iff _).2 ⟨(termOf_bd c).1, termIs_is h⟩, termB_termOf (termIs_is h)⟩
theorem termIs_termB {t : Int} (h : validT t = true) : termIs (termB t) = true := by
  unfold termIs; rw [termOf_termB h]; exact decide_eq_true ((validT_iff t).1 h).2
/-- an atom that was read and is one of the schema: its text is what was read -/
theorem fmtAtom_read {l : List Rel} {p : List UInt8} (h : atomIs p = true) (ha : atomB l (readAtom l p) = true) : fmtAtom l (readAtom l p) = p := by
  cases p with
  | nil => cases h
  | cons b r =>
    have ha' : atomB l ⟨relIdx ⟨#[b]⟩ l, r.map termOf⟩ = true := ha
    obtain ⟨c, hn, _, _, e, _⟩ := atom_form ha'
    show fmtAtom l ⟨relIdx ⟨#[b]⟩ l, r.map termOf⟩ = b :: r
    have hr := (atomOk_parts ha').2.1
    have hb := (relIdx_at ⟨#[b]⟩ l hr.1).2
    unfold nameAt at hn
    have hn' : (⟨#[b]⟩ : ByteArray) = ⟨#[c]⟩ := hb.symm.trans hn
    have hbc : b = c := by injection hn' with h1; injection h1 with h2; injection h2
    rw [e, ← hbc]
    congr 1
    show (r.map termOf).map termB = r
    rw [List.map_map]
    have h' : ∀ x ∈ r, termIs x = true := List.all_eq_true.1 (show r.all termIs = true from h)
    exact (List.map_congr_left (g := id) fun x hx => (termIs_valid (h' x hx)).2).trans (List.map_id _)
theorem atomIs_fmt {l : List Rel} {a : Atm} (h : atomB l a = true) : atomIs (fmtAtom l a) = true := by
  obtain ⟨c, _, _, _, e, _, _, hv⟩ := atom_form h
  rw [e]
  show (a.vals.map termB).all termIs = true
  rw [List.all_eq_true]
  intro x hx
  obtain ⟨t, ht, rfl⟩ := List.mem_map.1 hx
  exact termIs_termB (hv t ht)
theorem join_cutN (c : UInt8) (k : Nat) (s : List UInt8) : Lib.join (cutN c k s) [c] = s := by
  induction s generalizing k with
  | nil => cases k <;> rfl
  | cons b r ih =>
    cases k with
    | zero =>
      show Lib.join [b :: r] [c] = b :: r
      simp [Lib.join_one]
    | succ k =>
      rw [cutN_succ]
      split
      · rename_i hb
        have e := ih k
        cases hc : cutN c k r with
        | nil => exact absurd hc (cutN_ne c k r)
        | cons h t =>
          rw [hc, Lib.join_cons] at e
          rw [Lib.join_cons]
          simp [Lib.joinTail, hb] at e ⊢
          exact e
      · have e := ih (k + 1)
        cases hc : cutN c (k + 1) r with
        | nil => exact absurd hc (cutN_ne c (k + 1) r)
        | cons h t =>
          rw [hc, Lib.join_cons] at e
          show Lib.join (([b] ++ h) :: t) [c] = b :: r
          rw [Lib.join_cons]
          simp [e]
theorem implAtoms_back {l : List Rel} {s : List UInt8} {ts : List Atm} (h : implAtoms l s = some ts) (ha : ts.all (atomB l) = true) : joinAtoms l ts = s := by
  unfold implAtoms at h
  split at h
  · rename_i hp
    cases h
    rw [List.all_eq_true] at hp ha
    unfold joinAtoms
    rw [List.map_map]
    have e : (implPcs s).map (fmtAtom l ∘ readAtom l) = implPcs s :=
      (List.map_congr_left (g := id) fun p h1 => fmtAtom_read (hp p h1) (ha _ (List.mem_map.2 ⟨p, h1, rfl⟩))).trans (List.map_id _)
    rw [e]
    exact join_cutN 32 _ s
  · cases h
theorem implAtoms_join {l : List Rel} {ts : List Atm} (h1 : ts ≠ []) (h2 : ts.length ≤ 2) (ha : ts.all (atomB l) = true) : implAtoms l (joinAtoms l ts) = some ts := by
  have hc : cutA 32 (joinAtoms l ts) = ts.map (fmtAtom l) := by
    cases ts with
    | nil => exact absurd rfl h1
    | cons f t =>
      unfold joinAtoms
      rw [List.map_cons]
      refine cutA_join 32 _ _ (fun p hp => ?_)
      rw [← List.map_cons (f := fmtAtom l)] at hp
      obtain ⟨g, _, rfl⟩ := List.mem_map.1 hp
      exact fmtAtom_plain l g 32 (.inl rfl)
  have hp : implPcs (joinAtoms l ts) = ts.map (fmtAtom l) := by
    unfold implPcs
    rw [cutN_all 32 _ _ ?_, hc]
    have := cutA_len 32 (joinAtoms l ts)
    rw [hc, List.length_map] at this ⊢
    omega
  rw [List.all_eq_true] at ha
  unfold implAtoms
  rw [hp, if_pos ?_]
  · rw [List.map_map]
    exact congrArg some ((List.map_congr_left (g := id) fun a h => readAtom_fmt (ha a h)).trans (List.map_id _))
  · rw [List.all_eq_true]
    intro p hp
    obtain ⟨a, h, rfl⟩ := List.mem_map.1 hp
    exact atomIs_fmt (ha a h)
theorem cut_back (c : UInt8) (s : List UInt8) (h : (Lib.cut s [c]).2.2 = true) : (Lib.cut s [c]).1 ++ c :: (Lib.cut s [c]).2.1 = s := by
  by_cases hc : c ∈ s
  · obtain ⟨p, r, h1, rfl⟩ := split_at c s hc
    rw [cut_app c p r h1]
  · rw [cut_none c s hc] at h; cases h
theorem cut_rest (c : UInt8) (s : List UInt8) (h : (Lib.cut s [c]).2.1 ≠ []) : (Lib.cut s [c]).1 ++ c :: (Lib.cut s [c]).2.1 = s := by
  by_cases hc : c ∈ s
  · obtain ⟨p, r, h1, rfl⟩ := split_at c s hc
    rw [cut_app c p r h1]
  · rw [cut_none c s hc] at h; exact absurd rfl h
theorem implRaw_back {l : List Rel} {s : List UInt8} {x : Dep} (h : implRaw l s = some x) (hx : depOk l x = true) : fmtDep l x = s := by
  unfold implRaw at h
  split at h
  · rename_i hf
    unfold implTgd at h
    split at h
    · rename_i a b ha hb
      cases h
      obtain ⟨_, _, hh, _⟩ := depOk_tgd hx rfl
      rw [fmtDep_tgd hx rfl]
      show joinAtoms l a ++ 62 :: joinAtoms l b = s
      rw [implAtoms_back ha (depOk_body hx).2.2, implAtoms_back hb hh]
      exact cut_back 62 s hf
    · cases h
  · unfold implEgd at h
    split at h
    · rename_i c d a hr ha
      split at h
      · rename_i hcd
        cases h
        rw [fmtDep_egd hx rfl]
        show joinAtoms l a ++ 61 :: (fmtT (termOf c) ++ fmtT (termOf d)) = s
        rw [implAtoms_back ha (depOk_body hx).2.2, fmtT_yes (termIs_valid hcd.1).1, fmtT_yes (termIs_valid hcd.2).1, (termIs_valid hcd.1).2, (termIs_valid hcd.2).2]
        have e := cut_rest 61 s (by rw [hr]; simp)
        rw [hr] at e
        exact e
      · cases h
    · cases h
theorem implRaw_fmt {l : List Rel} {x : Dep} (h : depOk l x = true) : implRaw l (fmtDep l x) = some x := by
  obtain ⟨hb1, hb2, hb3⟩ := depOk_body h
  unfold implRaw
  cases hg : x.egd with
  | true =>
    obtain ⟨hh, ⟨_, hl⟩, _, hr⟩ := depOk_egd h hg
    have p1 := termB_plain hl
    have p2 := termB_plain hr
    have e : fmtDep l x = joinAtoms l x.body ++ 61 :: [termB x.left, termB x.right] := by rw [fmtDep_egd h hg, fmtT_yes hl, fmtT_yes hr]; rfl
    have hn : (62 : UInt8) ∉ fmtDep l x := by
      rw [e]
      intro hm
      rcases List.mem_append.1 hm with hm | hm
      · exact joinAtoms_plain l _ 62 (.inr (.inr rfl)) hm
      · simp only [List.mem_cons, List.not_mem_nil, or_false] at hm
        rcases hm with hm | hm | hm
        · revert hm; decide
        · rw [← hm] at p1; revert p1; decide
        · rw [← hm] at p2; revert p2; decide
    rw [cut_none 62 _ hn, if_neg (by simp), e, cut_app 61 _ _ (joinAtoms_plain l _ 61 (.inr (.inl rfl)))]
    unfold implEgd
    simp only [implAtoms_join hb1 hb2 hb3]
    rw [if_pos ⟨termIs_termB hl, termIs_termB hr⟩, termOf_termB hl, termOf_termB hr]
    cases x
    simp only at hg hh
    subst hg hh
    rfl
  | false =>
    obtain ⟨hh1, hh2, hh3, hl, hr⟩ := depOk_tgd h hg
    rw [fmtDep_tgd h hg, cut_app 62 _ _ (joinAtoms_plain l _ 62 (.inr (.inr rfl))), if_pos rfl]
    unfold implTgd
    simp only [implAtoms_join hb1 hb2 hb3, implAtoms_join hh1 hh2 hh3]
    cases x
    simp only at hg hl hr
    subst hg hl hr
    rfl
theorem implDep_yes {l : List Rel} {s : List UInt8} {x : Dep} (h : implRaw l s = some x) (hx : depOk l x = true) : parseDep l s = some x :=
  (parseDep_iff l s x).2 ⟨hx, implRaw_back h hx⟩
theorem implDep_none {l : List Rel} {s : List UInt8} (h : implRaw l s = none) : parseDep l s = none := by
  cases hp : parseDep l s with
  | none => rfl
  | some x =>
    obtain ⟨h1, rfl⟩ := (parseDep_iff l s x).1 hp
    rw [implRaw_fmt h1] at h; cases h
theorem implDep_not {l : List Rel} {s : List UInt8} {x : Dep} (h : implRaw l s = some x) (hx : depOk l x = false) : parseDep l s = none := by
  cases hp : parseDep l s with
  | none => rfl
  | some y =>
    obtain ⟨h1, rfl⟩ := (parseDep_iff l s y).1 hp
    rw [implRaw_fmt h1] at h
    cases h
    rw [h1] at hx; cases hx

def depPcs (s : List UInt8) : List (List UInt8) := cutN 59 (min 6 (s.length + 1) - 1) s
def implDeps (l : List Rel) (P : List (List UInt8)) : Option (List Dep) := match toDeps l P with
  | some xs => if depsOk l xs = true then some xs else none
  | none => none
theorem implDeps_eq (l : List Rel) (s : List UInt8) (h0 : s ≠ []) : parseDeps l s = implDeps l (depPcs s) := by
  cases hp : parseDeps l s with
  | some xs =>
    have hp2 := hp
    obtain ⟨h1, h2⟩ := (parseDeps_iff l s xs).1 hp
    have hne : xs ≠ [] := by rintro rfl; exact h0 h2.symm
    have hc : cutA 59 s = xs.map (fmtDep l) := by rw [← h2]; exact deps_cut hne
    have hl := (depsOk_mem h1).2.1
    have e : depPcs s = cutA 59 s := by
      unfold depPcs
      have h3 := cutA_len 59 s
      refine cutN_all 59 _ s ?_
      have h4 : (cutA 59 s).length = xs.length := by rw [hc, List.length_map]
      omega
    rw [parseDeps_end h0 (xs := xs) (by rw [hc]; exact toDeps_fmt xs (depsOk_mem h1).2.2)] at hp2
    unfold implDeps
    rw [e, hc, toDeps_fmt xs (depsOk_mem h1).2.2]
    exact (if_pos h1).symm
  | none =>
    unfold implDeps
    cases ht : toDeps l (depPcs s) with
    | none => rfl
    | some xs =>
      show none = if depsOk l xs = true then some xs else none
      cases hd : depsOk l xs with
      | false => rfl
      | true =>
        have hb := (toDeps_back _ _ ht).1
        have hj : joinDeps l xs = s := by
          unfold joinDeps
          rw [hb]
          exact join_cutN 59 _ s
        rw [(parseDeps_iff l s xs).2 ⟨hd, hj⟩] at hp
        cases hp
theorem implDeps_stop {l : List Rel} {P : List (List UInt8)} (k : Nat) (hk : k < P.length) (h : parseDep l P[k] = none) : implDeps l P = none := by
  have e : P = P.take k ++ P[k] :: P.drop (k + 1) := by rw [← List.drop_eq_getElem_cons hk, List.take_append_drop]
  unfold implDeps
  rw [e, toDeps_none _ _ _ h]
theorem implDeps_end {l : List Rel} {P : List (List UInt8)} {xs : List Dep} (h : toDeps l P = some xs) : implDeps l P = if depsOk l xs = true then some xs else none := by
  unfold implDeps; rw [h]
theorem depSz_ok {l : List Rel} {x : Dep} (h : depOk l x = true) : Dependency_sz x ≤ 16 := by
  have hb := depOk_body h
  have h1 := side_sz hb.2.2 hb.2.1
  unfold Dependency_sz
  cases hg : x.egd with
  | true =>
    have hh := (depOk_egd h hg).1
    rw [hh]
    have : AtomS_sz ([] : List Atm) = 0 := rfl
    omega
  | false =>
    have hh := depOk_tgd h hg
    have h2 := side_sz hh.2.2.1 hh.2.1
    omega
theorem depsSz_ok {l : List Rel} (xs : List Dep) (h : ∀ x ∈ xs, depOk l x = true) : depsLen xs ≤ 16 * xs.length := by
  induction xs with
  | nil => exact Nat.le_refl _
  | cons x t ih =>
    have h1 := depSz_ok (h x (by simp))
    have h2 := ih (fun y hy => h y (by simp [hy]))
    show Dependency_sz x + depsLen t ≤ _
    simp only [List.length_cons]; omega

theorem idx_vars (c : UInt8) : (Lib.indexByte [120, 121, 122, 117, 118] c = termOf c ∧ 0 ≤ termOf c ∧ termOf c ≤ 4) ∨ (Lib.indexByte [120, 121, 122, 117, 118] c = -1 ∧ (48 ≤ c.toNat ∧ c.toNat ≤ 57 ∨ termOf c = 5)) := by
  by_cases h : c = 120 ∨ c = 121 ∨ c = 122 ∨ c = 117 ∨ c = 118
  · left
    rcases h with rfl | rfl | rfl | rfl | rfl <;> exact ⟨by decide, by decide, by decide⟩
  · right
    simp only [not_or] at h
    obtain ⟨h1, h2, h3, h4, h5⟩ := h
    refine ⟨?_, ?_⟩
    · unfold Lib.indexByte Lib.indexByte Lib.indexByte Lib.indexByte Lib.indexByte Lib.indexByte
      rw [beq_eq_false_iff_ne.2 (Ne.symm h1), beq_eq_false_iff_ne.2 (Ne.symm h2), beq_eq_false_iff_ne.2 (Ne.symm h3), beq_eq_false_iff_ne.2 (Ne.symm h4), beq_eq_false_iff_ne.2 (Ne.symm h5)]
      rfl
    · by_cases hd : 48 ≤ c.toNat ∧ c.toNat ≤ 57
      · exact .inl hd
      · right
        unfold termOf
        rw [if_neg hd, if_neg h1, if_neg h2, if_neg h3, if_neg h4, if_neg h5]
theorem parse_digit (c : UInt8) (h : 48 ≤ c.toNat ∧ c.toNat ≤ 57) : parseInt [c] = (((c.toNat - 48 : Nat) : Int), true) := by
  refine parse_spec [c] _ ?_ (by simp; split <;> omega)
  rw [itoa_one _ (by omega)]
  have e : 48 + (c.toNat - 48) = c.toNat := by omega
  rw [e]; simp
theorem parse_other (c : UInt8) (h : ¬ (48 ≤ c.toNat ∧ c.toNat ≤ 57)) : parseInt [c] = (0, false) := by
  have hk : parseOk [c] = false := by
    cases hp : parseOk [c] with
    | false => rfl
    | true =>
      have h1 := (parse_some [c] hp).1
      have h0 : (sc ([c].take 11)) = (0, 0) := by
        show scStep (0, 0) c = (0, 0)
        unfold scStep; rw [if_neg h]
      have hc : cand [c] = 0 := by
        unfold cand; rw [h0]; split <;> rfl
      rw [hc] at h1
      have h2 := itoa_one 0 (by decide)
      have h3 : ([UInt8.ofNat (48 + 0)] : List UInt8) = [c] := h2.symm.trans h1
      injection h3 with h3
      rw [← h3] at h
      exact absurd ⟨by decide, by decide⟩ h
  unfold parseInt; rw [hk]; rfl
theorem term_digit (c : UInt8) (h : 48 ≤ c.toNat ∧ c.toNat ≤ 57) : termIs c = true ∧ -1 - ((c.toNat - 48 : Nat) : Int) = termOf c := by
  have e : termOf c = 47 - (c.toNat : Int) := by unfold termOf; rw [if_pos h]
  exact ⟨decide_eq_true (by omega), by omega⟩
theorem term_five (c : UInt8) (h : termOf c = 5) : termIs c = false ∧ ¬ (48 ≤ c.toNat ∧ c.toNat ≤ 57) := by
  refine ⟨decide_eq_false (by omega), fun hd => ?_⟩
  unfold termOf at h
  rw [if_pos hd] at h
  omega

theorem atmSmall_wf {l : List Atm} (h : ∀ a ∈ l, AtmSmall a) : AtomS_wf l := by
  intro i hi
  have ha := h _ (List.getElem_mem hi)
  refine ⟨by have := ha.1; omega, fun j hj => ?_⟩
  have := ha.2.2 _ (List.getElem_mem hj)
  omega
theorem depSmall_wf {n : Nat} {x : Dep} (h : DepSmall n x) : Dependency_wf x := ⟨atmSmall_wf h.1.2.2, atmSmall_wf h.2.1.2, by have := h.2.2; omega, by have := h.2.2; omega⟩
theorem depsSmall_wf {n : Nat} {xs : List Dep} (h : ∀ x ∈ xs, DepSmall n x) : DependencyS_wf xs := fun _ hi => depSmall_wf (h _ (List.getElem_mem hi))
theorem avals9_small (l : List Atm) (h : ∀ a ∈ l, AtmSmall a) : avalsLen l ≤ 2 * l.length := by
  induction l with
  | nil => exact Nat.le_refl _
  | cons x t ih =>
    have h1 := (h x (by simp)).2.1.2
    have h2 := ih (fun y hy => h y (by simp [hy]))
    show x.vals.length + avalsLen t ≤ _
    simp only [List.length_cons]; omega
theorem depSmall_sz {x : Dep} (h : DepSmall 3 x) : Dependency_sz x ≤ 15 := by
  have h1 := avals9_small _ h.1.2.2
  have h2 := avals9_small _ h.2.1.2
  have h3 := h.1.2.1
  have h4 := h.2.1.1
  unfold Dependency_sz AtomS_sz
  omega
theorem depsSmall_sz (xs : List Dep) (h : ∀ x ∈ xs, DepSmall 3 x) : depsLen xs ≤ 15 * xs.length := by
  induction xs with
  | nil => exact Nat.le_refl _
  | cons x t ih =>
    have h1 := depSmall_sz (h x (by simp))
    have h2 := ih (fun y hy => h y (by simp [hy]))
    show Dependency_sz x + depsLen t ≤ _
    simp only [List.length_cons]; omega
theorem fmtDeps_short (l : List Rel) (xs : List Dep) : (fmtDeps l xs).length ≤ 200 := by
  unfold fmtDeps
  split
  · rename_i h
    have h1 := (depsOk_mem h).2.1
    have h2 := joinDeps_len l xs xs.length (Nat.le_refl _)
    rw [List.take_length] at h2
    omega
  · simp
set_option maxHeartbeats 1600000 in
set_option maxRecDepth 100000 in
theorem drawDepStr_c (cv : Value) (code : List UInt8) (w : World) (hc : CodeAt w w.heap.size cv code) (hlen : code.length ≤ 1048576) :
    Calls Tryz.prog 14 #[cv] w fun e w' => ∃ v, ∃ s : ByteArray, e = .returned (.tuple #[v, .string s]) ∧ RelsAt w' w'.heap.size v sigs5 ∧ s.size ≤ 300 ∧ Below w.heap.size w w' := by
  go_enter Tryz.func14, Tryz.ntmps14
  go_wp2_with fail
  refine (l1New_c cv code _ hc hlen).mono ?_; rintro e w1 ⟨rfl, hb1, hC1⟩
  go_wp2_with fail
  refine (drawDeps_c cv code _ (hc.later hb1) hlen).mono ?_; rintro e w2 ⟨v, u, xs, rfl, ⟨B, hB, hO⟩, hD, hl, hs, hb2⟩
  obtain ⟨P, c, rfl, -, -⟩ := hD.form
  obtain ⟨P', c', rfl, -⟩ : RelsAt w2 w2.heap.size v sigs5 := hO.at_
  have hp := Cur.lt hC1
  have hz1 := hb1.size
  have hz2 := hb2.size
  go_wp2_with fail
  refine (specFormatDeps_any _ sigs5 _ xs _ hO.at_ (by decide) hD (depsSmall_wf hs)).mono ?_; rintro e w3 ⟨rfl, hb3⟩
  have hL := fmtDeps_short sigs5 xs
  have hO3 := hO.below hb3 (Nat.le_refl _)
  have hb3' : Below w1.heap.size w1 w3 := hb2.trans (hb3.mono hz2)
  have hC3 : CurS w3 w.heap.size cv code (st0 code) := Cur.below hC1 hC1 hb3'
  have HB := Lib.hid (hb1.trans (hb3'.mono hz1))
  clear hb1 hb2 hb3 hb3' hD hs hO hC1
  generalize fmtDeps sigs5 xs = t at *
  go_wp2_with fail
  refine (l1Once_r _ cv code _ _ _ hC3).mono ?_; rintro e w4 ⟨rfl, hC4, hg4⟩
  generalize onceR code (st0 code) 4 = d at *
  obtain ⟨d, st4⟩ := d
  dsimp only at *
  have HB4 := Lib.hid (below_of_draw HB.out hg4)
  have HO4 := Lib.hid (hO3.grown hg4 (by omega))
  have hts : ByteArray.size ⟨t.toArray⟩ = t.length := by simp [ByteArray.size]
  cases d with
  | true =>
    have HTS := Lib.hid hts
    clear hts hg4 hO3
    go_wp2_with fail
    refine (l1Spoil_r _ cv code _ ⟨t.toArray⟩ (by rw [HTS.out]; omega) _ hC4).mono ?_; rintro e w5 ⟨rfl, hC5, hg5⟩
    have hsl := spoilR_len code st4 t
    rw [show (⟨t.toArray⟩ : ByteArray).data.toList = t from rfl] at hC5 ⊢
    generalize spoilR code st4 t = sp at *
    obtain ⟨sp, st5⟩ := sp
    dsimp only at *
    go_wp2_with fail
    refine (l1Pick_d _ cv code _ [[], [59], [97, 120, 121, 62, 114, 120, 59], [97, 120, 121, 62, 114, 120, 59, 59, 98, 121, 62, 114, 121], sp] 300 (fun x hx => ?_) w5 _ (by simp) (by simp) (Cur.lt hC5) _ rfl _ _ (by simp) _ rfl (Cur.alloc hC5 _)).mono ?_
    · simp only [List.mem_cons, List.not_mem_nil, or_false] at hx
      rcases hx with rfl | rfl | rfl | rfl | rfl <;> first | decide | omega
    rintro e w6 ⟨s, hs, rfl, -, hg6⟩
    have hg := hg5.trans ((World.grownBy_alloc _ _ _).trans hg6)
    go_wp2_with fail
    refine bodyPost_ret (v := .tuple #[.slice P' sigs5.length c', .string s]) (by simp [results, Tryz.results14, go_sem]) rfl ?_
    exact ⟨_, s, rfl, (HO4.out.grown hg (by omega)).at_, hs, below_of_draw HB4.out hg⟩
  | false =>
    clear hg4 hO3
    go_wp2_with fail
    refine bodyPost_ret (v := .tuple #[.slice P' sigs5.length c', .string ⟨t.toArray⟩]) (by simp [results, Tryz.results14, go_sem]) rfl ?_
    exact ⟨_, _, rfl, HO4.out.at_, by rw [hts]; omega, HB4.out⟩

set_option maxHeartbeats 800000 in
theorem specRelationIndex_any (v : Value) (l : List Rel) (s : ByteArray) (w : World) (hl : RelsAt w w.heap.size v l) :
    Calls Tryz.prog 110 #[v, .string s] w fun e w' => e = .returned (.int .i64 (relIdx s l)) ∧ w = w' := by
  have HL := Lib.hid hl
  obtain ⟨A, c, rfl, hlc, hcm, -⟩ := hl
  unfold maxLen at hcm
  go_enter Tryz.func110, Tryz.ntmps110
  go_wp2
  go_loop [5] (fun i => ∃ k : Nat, k ≤ l.length ∧ i = .int .i64 k ∧ Hid (NoneTo s l k)) (fun i => l.length - (intOf i).toNat)
  case atStart => exact ⟨0, by omega, rfl, Lib.hid (NoneTo.zero s l)⟩
  case round =>
    obtain ⟨k, hk, rfl, HT⟩ := hrel
    by_cases hlt : k < l.length
    · obtain ⟨b, off, rfl, hb, c0, c1, c2⟩ := RelsAt.elem HL.out k hlt
      by_cases he : l[k].name = s
      · have HV := Lib.hid (HT.out.hit hlt he)
        have he' : (l[k].name.toList == s.toList) = true := by rw [he]; exact str_eq s
        clear he
        go_wp2
        go_ret
        exact ⟨ret_int HV.out.symm, rfl⟩
      · have HV := Lib.hid (HT.out.next hlt he)
        have he' := str_ne he
        clear he
        go_wp2
        go_round
        case rel => exact ⟨k + 1, by omega, by go_num, HV⟩
        case measure => simp [intOf]; omega
    · obtain rfl : k = l.length := by omega
      have HV := Lib.hid HT.out.miss
      go_wp2
      go_ret
      exact ⟨ret_int HV.out.symm, rfl⟩

set_option maxHeartbeats 800000 in
theorem relIndexEq_any (s : ByteArray) (a : Int) (b : Bool) (B : Nat) (t : ByteArray) (q : Bool) (hq : (s.toList == t.toList) = q) (w : World) (hB : B < w.heap.size) (hc : w.cell? ⟨B, 0, none⟩ = some (.string t)) :
    Calls Tryz.prog 187 #[.agg #[.string s, .int .i64 a, .bool b], .pointer (some ⟨B, 0, none⟩)] w fun e w' => e = .returned (.bool q) ∧ Below w.heap.size w w' := by
  have hne : w.heap.size ≠ B := by omega
  go_enter Tryz.func187, Tryz.ntmps187
  go_wp2
  go_ret
  exact ⟨rfl, below_more (Below.refl _ _) _⟩
set_option maxHeartbeats 1600000 in
theorem indexFuncRel_any (v : Value) (l : List Rel) (s : ByteArray) (B : Nat) (w : World) (hl : RelsAt w w.heap.size v l) (hB : B < w.heap.size) (hc : w.cell? ⟨B, 0, none⟩ = some (.string s)) :
    Calls Tryz.prog 186 #[v, .func (.func 187) #[] #[.pointer (some ⟨B, 0, none⟩)]] w fun e w' => e = .returned (.int .i64 (relIdx s l)) ∧ Below w.heap.size w w' := by
  have HL := Lib.hid hl
  obtain ⟨A, c, rfl, hlc, hcm, -⟩ := hl
  unfold maxLen at hcm
  go_enter Tryz.func186, Tryz.ntmps186
  go_wp2
  go_loopw [8] (fun i wr => ∃ k : Nat, k ≤ l.length ∧ i = .int .i64 k ∧ Hid (NoneTo s l k) ∧ Below w.heap.size w wr) (fun i _ => l.length - (intOf i).toNat)
  case atStart => exact ⟨0, by omega, rfl, Lib.hid (NoneTo.zero s l), Below.refl _ _⟩
  case round =>
    obtain ⟨k, hk, rfl, HT, hW⟩ := hrel
    have hz := hW.size
    have hBr : B < wr.heap.size := by omega
    have hcr := (hW.cell (p := ⟨B, 0, none⟩) hB).trans hc
    clear hc
    by_cases hlt : k < l.length
    · obtain ⟨b, off, rfl, hb, c0, c1, c2⟩ := RelsAt.elem (HL.out.below hW (Nat.le_refl _)) k hlt
      by_cases he : l[k].name = s
      · have HV := Lib.hid (HT.out.hit hlt he)
        have hcon := relIndexEq_any l[k].name l[k].arity l[k].source B s true (by rw [he]; exact str_eq s) wr hBr hcr
        clear he hcr
        go_wp2_with (go_at_call 187; refine hcon.mono ?_; rintro e w1 ⟨rfl, hb1⟩)
        go_ret
        exact ⟨ret_int HV.out.symm, hW.trans (hb1.mono hz)⟩
      · have HV := Lib.hid (HT.out.next hlt he)
        have hcon := relIndexEq_any l[k].name l[k].arity l[k].source B s false (str_ne he) wr hBr hcr
        clear he hcr
        go_wp2_with (go_at_call 187; refine hcon.mono ?_; rintro e w1 ⟨rfl, hb1⟩)
        go_roundw
        case rel => exact ⟨k + 1, by omega, by go_num, HV, hW.trans (hb1.mono hz)⟩
        case measure => simp [intOf]; omega
    · obtain rfl : k = l.length := by omega
      have HV := Lib.hid HT.out.miss
      go_wp2
      go_ret
      exact ⟨ret_int HV.out.symm, hW⟩
set_option maxHeartbeats 800000 in
theorem implRelationIndex_any (v : Value) (l : List Rel) (s : ByteArray) (w : World) (hl : RelsAt w w.heap.size v l) :
    Calls Tryz.prog 104 #[v, .string s] w fun e w' => e = .returned (.int .i64 (relIdx s l)) ∧ Below w.heap.size w w' := by
  go_enter Tryz.func104, Tryz.ntmps104
  go_wp2_with fail
  refine (indexFuncRel_any v l s w.heap.size _ ((hl.below ((Below.refl _ _).alloc (Nat.le_refl _) _) (Nat.le_refl _)).more (by simp)) (by simp) (box_cell _ _ _ 0)).mono ?_
  rintro e w1 ⟨rfl, hb1⟩
  go_wp2
  go_ret
  exact ⟨rfl, ((Below.refl _ _).alloc (Nat.le_refl _) _).trans (hb1.mono (by simp))⟩

/-- a slice of strings of the call's own -/
def OwnStrs (B : Nat) (v : Value) (l : List ByteArray) (w : World) : Prop := w.ownsRow B 9 1 v l.length (l.map Value.string)
theorem infoStr : (Tryz.prog.info? 9).map (fun i => (i.zero, i.size, i.bytes)) = some (some (.string ByteArray.empty), 1, 16) := by kernel_rfl
theorem make_strs (w : World) (n c : Nat) (hnc : n ≤ c) (hn : c ≤ 1048576) : (Instr.makeSlice 94 (.int .i64 (n : Int)) (.int .i64 (c : Int))).run Tryz.prog w = .ok (.slice (some ⟨w.heap.size, 0, none⟩) n c) (w.alloc (.cells (madeCells #[.string ByteArray.empty] c) 9)) := by
  obtain ⟨i0, hi, hz0, hz1, hz2⟩ := info_parts infoStr
  have hr := run_make (P := Tryz.prog) w 94 9 i0 _ Tryz.underlying94 hi hz0 .i64 .i64 (n : Int) (c : Int) (by omega) (by omega) (by rw [hz2]; omega) (by omega)
  simp only [Int.toNat_natCast, hz1, Nat.mul_one] at hr
  exact hr
theorem OwnStrs.full (w : World) (n : Nat) (hn : n ≤ 1048576) (B : Nat) (hB : B ≤ w.heap.size) : OwnStrs B (.slice (some ⟨w.heap.size, 0, none⟩) n n) (List.replicate n ByteArray.empty) (w.alloc (.cells (madeCells #[.string ByteArray.empty] n) 9)) := by
  unfold OwnStrs
  have e : (madeCells #[.string ByteArray.empty] n).toList = (List.replicate n ByteArray.empty).map Value.string := by rw [toList_madeCells_one, List.map_replicate]
  rw [← e, List.length_replicate]
  exact World.ownsRow_lit w _ n hB (by unfold maxLen; omega) (by rw [size_madeCells, Nat.mul_one])
theorem OwnStrs.cell {B g n cap : Nat} {l : List ByteArray} {w : World} (h : OwnStrs B (.slice (some ⟨g, 0, none⟩) n cap) l w) (hn : l.length = n) (j : Nat) (hj : j < l.length) : w.cell? ⟨g, j, none⟩ = some (.string l[j]) := by
  subst hn
  rw [World.ownsRow.cellAt h j (by omega)]; simp [hj]
theorem OwnStrs.frozen {B g n cap : Nat} {l : List ByteArray} {w : World} (h : OwnStrs B (.slice (some ⟨g, 0, none⟩) n cap) l w) (hn : l.length = n) (j : Nat) : w.frozen? ⟨g, j, none⟩ = false := by
  subst hn; exact World.ownsRow.frozenAt h j
theorem OwnStrs.set {B g n cap : Nat} {l : List ByteArray} {w : World} (h : OwnStrs B (.slice (some ⟨g, 0, none⟩) n cap) l w) (hn : l.length = n) (j : Nat) (s : ByteArray) :
    OwnStrs B (.slice (some ⟨g, 0, none⟩) n cap) (l.set j s) (w.setCell ⟨g, j, none⟩ (.string s)) := by
  subst hn
  have := (World.ownsRow.stored h j (.string s)).1
  unfold OwnStrs
  rw [List.length_set, List.map_set]
  exact this
theorem own_below {w w' : World} {B B' k n : Nat} {e : TypeId} {v : Value} {xs : List Value} (h : w.ownsRow B e k v n xs) (hb : Below B' w w') (hB : w.heap.size ≤ B') : w'.ownsRow B e k v n xs :=
  World.ownsRow.kept (row := none) h ⟨hb.os, hb.tape, hb.output, hb.size, fun k hk _ => hb.block k (Nat.lt_of_lt_of_le hk hB)⟩ (by
    cases h' : v.ownBlock with
    | none => exact .inl rfl
    | some g => exact .inr (by simp))
theorem OwnStrs.below {B B' : Nat} {v : Value} {l : List ByteArray} {w w' : World} (h : OwnStrs B v l w) (hb : Below B' w w') (hB : w.heap.size ≤ B') : OwnStrs B v l w' := own_below h hb hB

theorem flat_str (l : List ByteArray) : l.flatMap (fun s => [Value.string s]) = l.map Value.string := by
  induction l with
  | nil => rfl
  | cons a t ih => rw [List.flatMap_cons, List.map_cons, ih]; rfl
theorem OwnStrs.empty (w : World) (B : Nat) (hB : B ≤ w.heap.size) : OwnStrs B (.slice (some ⟨w.heap.size, 0, none⟩) 0 0) [] (w.alloc (.cells #[] 9)) :=
  World.ownsRow_lit w #[] 0 hB (by decide) rfl
/-- append(l, s) -/
theorem strs_app1 {ops : Array Oper} {rest : List Oper} {o : Oper} {a : Act} {Q : Exit → Act → World → Prop} {B : Nat} {v : Value} {l : List ByteArray} {w : World} (hO : OwnStrs B v l w)
    (hgd : o.guard = none) (s x : Operand) (ho : o.op = .call { callee := .builtin .append, args := #[s, x], argTypes := #[94, 94] }) (hs : a.eval s = v) (r : ByteArray) (c bs : Nat) (hx : a.eval x = .slice (some ⟨bs, 0, none⟩) 1 c) (hbs : bs = w.heap.size)
    (hlen : l.length < 1048577) (hbase : B ≤ w.heap.size) (h : ∀ v' w', OwnStrs B v' (l ++ [r]) w' → Below B w w' → w.grownBy w' v.ownBlock → wpList Tryz.prog ops Q rest (a.put o.dst v') w') :
    wpList Tryz.prog ops Q (o :: rest) a (w.alloc (.cells #[.string r] 9)) := by
  unfold OwnStrs at hO
  rw [← flat_str] at hO
  refine wp_own_app (fun s => [Value.string s]) 1 16 (fun x u hu => by simp at hu; subst hu; rfl) (fun _ => rfl) Tryz.underlying94 infoStr rfl (by decide) hO hgd s x ho hs r c (by rw [hx, hbs]) (by omega) (by omega) hbase ?_
  intro v' w' h1 h2 h3
  refine h v' w' ?_ h2 h3
  unfold OwnStrs
  rw [← flat_str]; exact h1
abbrev StrsAt (w : World) (B : Nat) (v : Value) (l : List ByteArray) : Prop := SliceAt (fun s : ByteArray => [Value.string s]) w B v l
theorem OwnStrs.at_ {B : Nat} {v : Value} {l : List ByteArray} {w : World} (h : OwnStrs B v l w) : StrsAt w w.heap.size v l := by
  unfold OwnStrs at h
  rw [← flat_str] at h
  exact SliceAt.of_own h
theorem OwnStrs.form {B : Nat} {v : Value} {l : List ByteArray} {w : World} (h : OwnStrs B v l w) : ∃ A c, v = .slice A l.length c ∧ l.length ≤ c ∧ c ≤ maxLen := by
  obtain ⟨A, c, h1, h2, h3, _⟩ := h.at_
  exact ⟨A, c, h1, h2, h3⟩
theorem StrsAt.elem {w : World} {B c : Nat} {A : Option Addr} {l : List ByteArray} (h : StrsAt w B (.slice A l.length c) l) (j : Nat) (hj : j < l.length) :
    ∃ b off, A = some ⟨b, off, none⟩ ∧ b < B ∧ w.cell? ⟨b, off + j, none⟩ = some (.string l[j]) := by
  obtain ⟨A', c', hv, h1, h2, h3⟩ := h
  obtain ⟨b, off, hA, hb, hc⟩ := h3.1 (by omega)
  subst hA
  injection hv with h4 _ _
  subst h4
  refine ⟨b, off, rfl, hb, hc j _ ?_⟩
  rw [flat_str]; simp [hj]

/-- the pieces between the spaces, in memory of the call's own -/
def GivesCut (c : UInt8) (s : ByteArray) (w : World) (e : Ending) (w' : World) : Prop := ∃ v l, e = .returned v ∧ dataOf l = cutA c s.data.toList ∧ OwnStrs w.heap.size v l w' ∧ Below w.heap.size w w'
theorem extract_mid (s : ByteArray) (f k : Nat) : (s.extract f k).data.toList = (s.data.toList.take k).drop f := by
  rw [Lib.extract_data, List.drop_take]
set_option maxHeartbeats 1600000 in
theorem specCutAt_any (c : UInt8) (s : ByteArray) (w : World) (hs : s.size ≤ 1048576) :
    Calls Tryz.prog 81 #[.string s, .int .u8 ((c.toNat : Nat) : Int)] w (GivesCut c s w) := by
  go_enter Tryz.func81, Tryz.ntmps81
  go_wp2
  go_loopw [5, 6, 7] (fun v f i wr => ∃ k j : Nat, ∃ l : List ByteArray, k ≤ s.size ∧ j ≤ k ∧ l.length ≤ k ∧ i = .int .i64 k ∧ f = .int .i64 j ∧ OwnStrs w.heap.size v l wr ∧ Hid (CutInv c s.data.toList (dataOf l) j k) ∧ Below w.heap.size w wr) (fun _ _ i _ => s.size - (intOf i).toNat)
  case atStart => exact ⟨0, 0, [], by omega, by omega, by simp, rfl, rfl, OwnStrs.empty w _ (Nat.le_refl _), Lib.hid (CutInv.zero _ _), (Below.refl _ _).alloc (Nat.le_refl _) _⟩
  case round =>
    obtain ⟨k, j, l, hk, hj, hl, rfl, rfl, hO, HC, hW⟩ := hrel
    have hz := hW.size
    by_cases hlt : k < s.size
    · have hlt' : k < s.data.toList.length := by simpa using hlt
      by_cases he : s[k] = c
      · have hb : (((s[k].toNat : Nat) : Int) == ((c.toNat : Nat) : Int)) = true := by rw [he]; exact beq_self_eq_true _
        have HI := Lib.hid (HC.out.hit hlt' he)
        clear he
        go_wp2_with (at_builtin; refine strs_app1 hO rfl _ _ rfl rfl _ _ _ rfl rfl (by omega) hz ?_; intro v' w1 hO1 hW1 _)
        go_roundw
        case rel => exact ⟨k + 1, k + 1, _, by omega, by omega, by simp; omega, by go_num, by go_num, hO1, by rw [dataOf_snoc, extract_mid]; exact HI, hW.trans hW1⟩
        case measure => simp [intOf]; omega
      · have hb : (((s[k].toNat : Nat) : Int) == ((c.toNat : Nat) : Int)) = false := by
          rw [beq_eq_false_iff_ne]
          intro e
          exact he (UInt8.toNat_inj.1 (by omega))
        have HI := Lib.hid (HC.out.miss hlt' he)
        clear he
        go_wp2
        go_roundw
        case rel => exact ⟨k + 1, j, l, by omega, by omega, by omega, by go_num, rfl, hO, HI, hW⟩
        case measure => simp [intOf]; omega
    · obtain rfl : k = s.size := by omega
      have HD := Lib.hid (HC.out.done (by simp))
      go_wp2_with (at_builtin; refine strs_app1 hO rfl _ _ rfl rfl _ _ _ rfl rfl (by omega) hz ?_; intro v' w1 hO1 hW1 _)
      go_ret
      exact ⟨_, _, rfl, by rw [HD.out, dataOf_snoc, extract_mid, List.take_of_length_le (by simp)], hO1, hW.trans hW1⟩
theorem specCut_any (s : ByteArray) (w : World) (hs : s.size ≤ 1048576) :
    Calls Tryz.prog 81 #[.string s, .int .u8 32] w (GivesCut 32 s w) := specCutAt_any 32 s w hs

end Go.Proofs.YtmecdjincmkofaaGreatDoor
