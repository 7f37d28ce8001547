/-
  Walks and plain lemmas for the laws of this seat: what single Go functions return, for every argument.
-/
import Derived.Test.YtmecdjincmkofaaGreatDoorMInst
import Derived.Test.YtmecdjincmkofaaGreatDoorFmtF
namespace Go.Proofs.YtmecdjincmkofaaGreatDoor
open Go.RowKit

/-- the facts' texts, a space between -/
def joinFacts (l : List Rel) (fs : List Fct) : List UInt8 := Lib.join (fs.map fun f => fmtFact l f.rel f.vals) [32]
def fmtInst (x : Inst) : List UInt8 := if instOk x then fmtRels x.rels ++ 59 :: joinFacts x.rels x.facts else []
theorem fmtInst_no {x : Inst} (h : instOk x = false) : fmtInst x = [] := by unfold fmtInst; rw [h]; rfl
theorem fmtInst_yes {x : Inst} (h : instOk x = true) : fmtInst x = fmtRels x.rels ++ 59 :: joinFacts x.rels x.facts := by unfold fmtInst; rw [h]; rfl
theorem joinFacts_one (l : List Rel) (fs : List Fct) (h : 0 < fs.length) : joinFacts l (fs.take 1) = fmtFact l fs[0].rel fs[0].vals := by
  unfold joinFacts
  cases fs with
  | nil => simp at h
  | cons r t => simp [Lib.join_one]
theorem joinFacts_succ (l : List Rel) (fs : List Fct) (k : Nat) (h0 : 0 < k) (h : k < fs.length) : joinFacts l (fs.take (k + 1)) = joinFacts l (fs.take k) ++ ([32] ++ fmtFact l fs[k].rel fs[k].vals) := by
  unfold joinFacts
  cases fs with
  | nil => simp at h
  | cons r t =>
    obtain ⟨j, rfl⟩ : ∃ j, k = j + 1 := ⟨k - 1, by omega⟩
    rw [List.take_succ_cons, List.take_succ_cons, List.map_cons, List.map_cons, Lib.join_cons, Lib.join_cons, List.map_take, List.map_take]
    have hj : j < t.length := by simpa using h
    rw [Lib.joinTail_take_succ [32] (t.map fun f => fmtFact l f.rel f.vals) j (fmtFact l t[j].rel t[j].vals) (by simp [hj])]
    simp
theorem fmtRel_bytes (r : Rel) (h : relOk r.name r.arity = true) : ∀ b ∈ fmtRel r, b = 43 ∨ 48 ≤ b.toNat ∧ b.toNat ≤ 51 ∨ 97 ≤ b.toNat ∧ b.toNat ≤ 122 := by
  obtain ⟨c, hc, h1, h2, h3, h4⟩ := relOk_form r h
  rw [fmtRel_form r c hc h3 h4]
  intro b hb
  rcases List.mem_append.1 hb with hb | hb
  · split at hb
    · rw [List.mem_singleton.1 hb]; exact .inl rfl
    · simp at hb
  · rcases List.mem_cons.1 hb with rfl | hb
    · exact .inr (.inr ⟨h1, h2⟩)
    · rw [List.mem_singleton.1 hb]
      refine .inr (.inl ?_)
      rw [UInt8.toNat_ofNat', Nat.mod_eq_of_lt (by omega)]; omega
theorem fmtRels_semi (l : List Rel) : (59 : UInt8) ∉ fmtRels l := by
  cases hv : validRels l with
  | false => rw [fmtRels_no l hv]; simp
  | true =>
    rw [fmtRels_yes l hv]
    intro h
    rcases join_mem _ _ _ h with h | ⟨p, hp, hb⟩
    · simp at h
    · obtain ⟨r, hr, rfl⟩ := List.mem_map.1 hp
      rcases fmtRel_bytes r (validRels_mem l hv r hr) 59 hb with h | h | h
      · exact absurd h (by decide)
      · exact absurd h.2 (by decide)
      · exact absurd h.1 (by decide)
theorem fmtFact_bytes (l : List Rel) (r : Int) (vs : List Int) : ∀ b ∈ fmtFact l r vs, 97 ≤ b.toNat ∧ b.toNat ≤ 122 ∨ b = 40 ∨ b = 44 ∨ b = 41 ∨ b = 110 ∨ 48 ≤ b.toNat ∧ b.toNat ≤ 57 := by
  cases hv : factOk l r vs with
  | false => rw [fmtFact_no hv]; simp
  | true =>
    obtain ⟨c, hc, _, hb, _⟩ := fact_form hv
    obtain ⟨h1, h2, _⟩ := factOk_parts hv
    have hk : r.toNat < l.length := by omega
    obtain ⟨c', hc', h3, h4⟩ := name_byte l h1 r.toNat hk
    rw [getD_at hk, hc'] at hc
    have ecc : c' = c := by
      injection hc with hc
      injection hc with hc
      simpa using hc
    subst ecc
    rw [fmtFact_yes hv, hb]
    intro b hb
    rcases List.mem_cons.1 hb with rfl | hb
    · exact .inl ⟨h3, h4⟩
    rcases List.mem_cons.1 hb with rfl | hb
    · exact .inr (.inl rfl)
    rcases List.mem_append.1 hb with hb | hb
    · rcases join_mem _ _ _ hb with h | ⟨p, hp, hb⟩
      · rw [List.mem_singleton.1 h]; exact .inr (.inr (.inl rfl))
      · obtain ⟨v, _, rfl⟩ := List.mem_map.1 hp
        rcases fmtV_bytes v b hb with h | h
        · exact .inr (.inr (.inr (.inr (.inl h))))
        · exact .inr (.inr (.inr (.inr (.inr h))))
    · rw [List.mem_singleton.1 hb]; exact .inr (.inr (.inr (.inl rfl)))
theorem fmtFact_plain (l : List Rel) (r : Int) (vs : List Int) (c : UInt8) (hc : c = 32 ∨ c = 59) : c ∉ fmtFact l r vs := by
  intro h
  have := fmtFact_bytes l r vs c h
  rcases hc with rfl | rfl
  · revert this; decide
  · revert this; decide
theorem joinFacts_semi (l : List Rel) (fs : List Fct) : (59 : UInt8) ∉ joinFacts l fs := by
  intro h
  rcases join_mem _ _ _ h with h | ⟨p, hp, hb⟩
  · simp at h
  · obtain ⟨f, _, rfl⟩ := List.mem_map.1 hp
    exact fmtFact_plain l f.rel f.vals 59 (.inr rfl) hb
theorem inst_cut (a b : List UInt8) (ha : (59 : UInt8) ∉ a) (hb : (59 : UInt8) ∉ b) : cutA 59 (a ++ 59 :: b) = [a, b] := by
  rw [cutA_app 59 a b ha, cutA_plain 59 b hb]
theorem facts_cut (l : List Rel) (fs : List Fct) (h : fs ≠ []) : cutA 32 (joinFacts l fs) = fs.map fun f => fmtFact l f.rel f.vals := by
  cases fs with
  | nil => exact absurd rfl h
  | cons f t =>
    unfold joinFacts
    rw [List.map_cons]
    refine cutA_join 32 _ _ (fun p hp => ?_)
    rw [← List.map_cons (f := fun f : Fct => fmtFact l f.rel f.vals)] at hp
    obtain ⟨g, _, rfl⟩ := List.mem_map.1 hp
    exact fmtFact_plain l g.rel g.vals 32 (.inl rfl)

end Go.Proofs.YtmecdjincmkofaaGreatDoor
