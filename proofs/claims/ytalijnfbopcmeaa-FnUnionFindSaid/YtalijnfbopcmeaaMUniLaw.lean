/-
  Walks and plain lemmas for the laws of this seat: what single Go functions return, for every argument.
-/
import Derived.Test.YtalijnfbopcmeaaMUf
import Derived.Test.YtalijnfbopcmeaaMSub
namespace Go.Proofs.Ytalijnfbopcmeaa
open Go.RowKit

/-- what a union that was done is like -/
structure UniFacts (x : List Int) (a b G K : Int) : Prop where
  ok : ufOk x = true
  lt : G < K
  neg : G < 0
  fa : ufFind x a = G ∧ ufFind x b = K ∨ ufFind x a = K ∧ ufFind x b = G
  kv : -40 ≤ K ∧ K ≤ 9
  kx : K < 0 → ∃ (j : Nat) (h : j < x.length), x[j] = K
theorem find_elem {x : List Int} {v : Int} (hok : ufOk x = true) (hc : canU x v = true) : (-40 ≤ ufFind x v ∧ ufFind x v ≤ 9) ∧ (ufFind x v < 0 → ∃ (j : Nat) (h : j < x.length), x[j] = ufFind x v) := by
  have hp := ufOk_parts hok
  unfold canU at hc
  have hc := of_decide_eq_true hc
  rcases hc with hc | ⟨h1, h2⟩
  · rw [ufFind_const (by omega)]; exact ⟨by omega, fun h => by omega⟩
  · obtain ⟨m, hm⟩ : ∃ m : Nat, -1 - v = (m : Int) := ⟨(-1 - v).toNat, by omega⟩
    have hl : m < x.length := by omega
    rw [ufFind_yes hok h1 hm hl]
    exact ⟨hp.val m hl, fun _ => ⟨m, hl, rfl⟩⟩
theorem uni_facts {x : List Int} {a b : Int} (hu : uniOk x a b = true) (hne : ¬ ufFind x a = ufFind x b) (hlt : min (ufFind x a) (ufFind x b) < 0) : UniFacts x a b (min (ufFind x a) (ufFind x b)) (max (ufFind x a) (ufFind x b)) := by
  unfold uniOk at hu
  rw [Bool.and_eq_true, Bool.and_eq_true] at hu
  obtain ⟨hok, hca, hcb⟩ := hu
  obtain ⟨h1, h2⟩ := find_elem hok hca
  obtain ⟨h3, h4⟩ := find_elem hok hcb
  refine ⟨hok, by clear h2 h4; omega, hlt, by clear h2 h4; omega, by clear h2 h4; omega, fun hk => ?_⟩
  rcases (show max (ufFind x a) (ufFind x b) = ufFind x a ∨ max (ufFind x a) (ufFind x b) = ufFind x b by clear h2 h4; omega) with e | e
  · rw [e] at hk ⊢; exact h2 hk
  · rw [e] at hk ⊢; exact h4 hk
theorem swap_at {x : List Int} {G K : Int} {k : Nat} (h : k < (x.map (swapI G K)).length) (h' : k < x.length) : (x.map (swapI G K))[k] = swapI G K x[k] := by simp
theorem swap_ok {x : List Int} {a b G K : Int} (h : UniFacts x a b G K) : ufOk (x.map (swapI G K)) = true := by
  have hp := ufOk_parts h.ok
  have hl : (x.map (swapI G K)).length = x.length := by simp
  refine ufOk_yes (by rw [hl]; exact hp.len) fun k hk => ?_
  rw [hl] at hk
  have hk' : k < (x.map (swapI G K)).length := by rw [hl]; exact hk
  have hv := hp.val k hk
  have he := swap_at hk' hk
  have hvy : -40 ≤ (x.map (swapI G K))[k] ∧ (x.map (swapI G K))[k] ≤ 9 := by
    rw [he]; unfold swapI; have := h.kv; split <;> omega
  by_cases h0 : 0 ≤ (x.map (swapI G K))[k]
  · exact ufElem_const hk' (decide_eq_true hvy) h0
  · obtain ⟨m, hm⟩ : ∃ m : Nat, -1 - (x.map (swapI G K))[k] = (m : Int) := ⟨(-1 - (x.map (swapI G K))[k]).toNat, by omega⟩
    have key : ∃ hml : m < x.length, m ≤ k ∧ swapI G K x[m] = swapI G K x[k] := by
      rw [he] at hm h0
      by_cases e : x[k] = G
      · rw [swapI_eq e] at hm h0 ⊢
        obtain ⟨j, hj, hjk⟩ := h.kx (by omega)
        obtain ⟨hml, hmj, hme⟩ := hp.root j hj m (by rw [hjk]; exact hm)
        obtain ⟨g, hg⟩ : ∃ g : Nat, -1 - x[k] = (g : Int) := ⟨(-1 - x[k]).toNat, by have := h.neg; omega⟩
        obtain ⟨hgl, hgk, -⟩ := hp.root k hk g hg
        have hlt := h.lt
        refine ⟨hml, by omega, ?_⟩
        rw [hme, hjk, swapI_ne (by omega)]
      · rw [swapI_ne e] at hm h0 ⊢
        obtain ⟨hml, hmk, hme⟩ := hp.root k hk m hm
        exact ⟨hml, hmk, by rw [hme, swapI_ne e]⟩
    obtain ⟨hml, hmk, hme⟩ := key
    have hml' : m < (x.map (swapI G K)).length := by rw [hl]; exact hml
    exact ufElem_eq hk' (by omega) hm hml' (by rw [swap_at hml' hml, he]; exact hme) hmk
theorem swap_find {x : List Int} {a b G K v : Int} (h : UniFacts x a b G K) (hc : canU x v = true) : ufFind (x.map (swapI G K)) v = swapI G K (ufFind x v) := by
  have hy := swap_ok h
  have hl : (x.map (swapI G K)).length = x.length := by simp
  unfold canU at hc
  have hc := of_decide_eq_true hc
  rcases hc with hc | ⟨h1, h2⟩
  · rw [ufFind_const (by omega), ufFind_const (by omega), swapI_ne (by have := h.neg; omega)]
  · obtain ⟨m, hm⟩ : ∃ m : Nat, -1 - v = (m : Int) := ⟨(-1 - v).toNat, by omega⟩
    have hml : m < x.length := by omega
    have hml' : m < (x.map (swapI G K)).length := by rw [hl]; exact hml
    rw [ufFind_yes h.ok h1 hm hml, ufFind_yes hy h1 hm hml', swap_at hml' hml]
/-- all that the law asks of a union -/
theorem uni_law {x : List Int} {a b : Int} (hu : uniOk x a b = true) (hc : Union_r1 x a b ≠ 2) :
    ufOk (Union_r0 x a b) = true ∧ ufFind (Union_r0 x a b) a = ufFind (Union_r0 x a b) b ∧ (decide (Union_r1 x a b = 0) = decide (ufFind x a = ufFind x b)) ∧
      (∀ v, canU x v = true → (ufFind x v = ufFind x a → ufFind (Union_r0 x a b) v = ufFind (Union_r0 x a b) a) ∧ (0 ≤ ufFind x v → ufFind (Union_r0 x a b) v = ufFind x v)) := by
  have hu' := hu
  unfold uniOk at hu'
  rw [Bool.and_eq_true, Bool.and_eq_true] at hu'
  obtain ⟨hok, hca, hcb⟩ := hu'
  by_cases h1 : ufFind x a = ufFind x b
  · obtain ⟨e0, e1⟩ := uni_same hu h1
    rw [e0, e1]
    exact ⟨hok, h1, by simp [h1], fun v _ => ⟨fun h => h, fun _ => rfl⟩⟩
  · by_cases h2 : min (ufFind x a) (ufFind x b) < 0
    · obtain ⟨e0, e1⟩ := uni_done hu h1 h2
      have hf := uni_facts hu h1 h2
      rw [e0, e1]
      generalize min (ufFind x a) (ufFind x b) = G at *
      generalize max (ufFind x a) (ufFind x b) = K at *
      refine ⟨swap_ok hf, ?_, by simp [h1], fun v hv => ⟨fun h => ?_, fun h => ?_⟩⟩
      · rw [swap_find hf hca, swap_find hf hcb]
        have hlt := hf.lt
        rcases hf.fa with ⟨p, q⟩ | ⟨p, q⟩
        · rw [p, q, swapI_eq rfl, swapI_ne (by omega)]
        · rw [p, q, swapI_eq rfl, swapI_ne (by omega)]
      · rw [swap_find hf hv, swap_find hf hca, h]
      · rw [swap_find hf hv, swapI_ne (by have := hf.neg; omega)]
    · exact absurd (uni_const hu h1 h2).2 hc
theorem subOk_of {s : Sbst} (h : SubFacts s) : subOk s = true := by
  refine subOk_yes h.len fun i hi => ?_
  have h2 : i < s.vals.length := by rw [← h.len]; exact hi
  rcases i with _ | i
  · exact subElem_yes0 hi h2 (inB_true (h.bd 0 hi)) (h.ok 0 h2)
  · exact subElem_yes hi h2 (inB_true (h.bd _ hi)) (List.pairwise_iff_getElem.1 h.asc i (i + 1) (by omega) hi (by omega)) (h.ok _ h2)
theorem sub_mem {y : List Int} : ∀ {n : Nat} {z : Int}, n ≤ y.length → z ∈ (subTo y n).nulls → ∃ (k : Nat) (h : k < y.length), k < n ∧ z = (k : Int) ∧ ¬ y[k] = -1 - (k : Int)
  | 0, z, _, h => by cases h
  | n + 1, z, hn, h => by
    have hnx : n < y.length := by omega
    by_cases e : y[n] = -1 - (n : Int)
    · rw [subTo_eq hnx e] at h
      obtain ⟨k, hk, h1, h2⟩ := sub_mem (by omega) h
      exact ⟨k, hk, by omega, h2⟩
    · rw [(subTo_ne hnx e).1] at h
      rcases List.mem_append.1 h with h | h
      · obtain ⟨k, hk, h1, h2⟩ := sub_mem (by omega) h
        exact ⟨k, hk, by omega, h2⟩
      · exact ⟨n, hnx, by omega, List.mem_singleton.1 h, e⟩
theorem sub_val {y : List Int} : ∀ {n : Nat} {z : Int}, n ≤ y.length → z ∈ (subTo y n).vals → z ∈ y
  | 0, z, _, h => by cases h
  | n + 1, z, hn, h => by
    have hnx : n < y.length := by omega
    by_cases e : y[n] = -1 - (n : Int)
    · rw [subTo_eq hnx e] at h
      exact sub_val (by omega) h
    · rw [(subTo_ne hnx e).2] at h
      rcases List.mem_append.1 h with h | h
      · exact sub_val (by omega) h
      · rw [List.mem_singleton.1 h]; exact List.getElem_mem hnx
theorem sub_lens {y : List Int} : ∀ n, n ≤ y.length → (subTo y n).nulls.length = (subTo y n).vals.length
  | 0, _ => rfl
  | n + 1, hn => by
    have hnx : n < y.length := by omega
    have ih := sub_lens (y := y) n (by omega)
    by_cases e : y[n] = -1 - (n : Int)
    · rw [subTo_eq hnx e]; exact ih
    · rw [(subTo_ne hnx e).1, (subTo_ne hnx e).2, List.length_append, List.length_append, ih]; rfl
theorem sub_asc {y : List Int} : ∀ n, n ≤ y.length → (subTo y n).nulls.Pairwise (· < ·)
  | 0, _ => List.Pairwise.nil
  | n + 1, hn => by
    have hnx : n < y.length := by omega
    have ih := sub_asc (y := y) n (by omega)
    by_cases e : y[n] = -1 - (n : Int)
    · rw [subTo_eq hnx e]; exact ih
    · rw [(subTo_ne hnx e).1]
      refine List.pairwise_append.2 ⟨ih, List.pairwise_singleton _ _, fun u hu v hv => ?_⟩
      obtain ⟨k, hk, h1, h2, -⟩ := sub_mem (by omega) hu
      rw [List.mem_singleton.1 hv, h2]; omega
theorem sub_idx {y : List Int} {m : Nat} (hm : m < y.length) (hne : ¬ y[m] = -1 - (m : Int)) : ∀ n, n ≤ y.length → m < n → ∃ (i : Nat) (h1 : i < (subTo y n).nulls.length) (h2 : i < (subTo y n).vals.length), (subTo y n).nulls[i] = (m : Int) ∧ (subTo y n).vals[i] = y[m]
  | 0, _, h => by omega
  | n + 1, hn, h => by
    have hnx : n < y.length := by omega
    by_cases e : y[n] = -1 - (n : Int)
    · have hmn : m ≠ n := fun e2 => by subst e2; exact hne e
      obtain ⟨i, h1, h2, h3, h4⟩ := sub_idx hm hne n (by omega) (by omega)
      have es := subTo_eq hnx e
      refine ⟨i, by rw [es]; exact h1, by rw [es]; exact h2, ?_, ?_⟩
      · simp only [es]; exact h3
      · simp only [es]; exact h4
    · obtain ⟨e1, e2⟩ := subTo_ne hnx e
      have hl := sub_lens (y := y) n (by omega)
      by_cases hmn : m = n
      · subst hmn
        refine ⟨(subTo y m).nulls.length, by rw [e1]; simp, by rw [e2, hl]; simp, ?_, ?_⟩
        · simp [e1]
        · simp [e2, hl]
      · obtain ⟨i, h1, h2, h3, h4⟩ := sub_idx hm hne n (by omega) (by omega)
        refine ⟨i, by rw [e1, List.length_append]; omega, by rw [e2, List.length_append]; omega, ?_, ?_⟩
        · simp only [e1]; rw [List.getElem_append_left h1]; exact h3
        · simp only [e2]; rw [List.getElem_append_left h2]; exact h4
theorem sub_law {y : List Int} (hok : ufOk y = true) : subOk (UnionSubstitution_r0 y) = true ∧ ∀ v, canU y v = true → applyV (UnionSubstitution_r0 y) v = ufFind y v := by
  have e0 : UnionSubstitution_r0 y = subTo y y.length := if_pos hok
  have hp := ufOk_parts hok
  have hs : subOk (subTo y y.length) = true := by
    refine subOk_of ⟨sub_lens _ (Nat.le_refl _), fun i hi => ?_, fun i hi => ?_, sub_asc _ (Nat.le_refl _)⟩
    · obtain ⟨k, hk, h1, h2, -⟩ := sub_mem (Nat.le_refl _) (List.getElem_mem hi)
      have := hp.len
      omega
    · obtain ⟨k, hk, h1⟩ := List.getElem_of_mem (sub_val (Nat.le_refl _) (List.getElem_mem hi))
      rw [← h1]
      exact decide_eq_true (hp.val k hk)
  rw [e0]
  refine ⟨hs, fun v hc => ?_⟩
  unfold canU at hc
  have hc := of_decide_eq_true hc
  rcases hc with hc | ⟨h1, h2⟩
  · rw [ufFind_const (by omega), applyV_notNull (by rw [nullNum_no v (by omega)])]
  · obtain ⟨m, hm⟩ : ∃ m : Nat, -1 - v = (m : Int) := ⟨(-1 - v).toNat, by omega⟩
    have hml : m < y.length := by omega
    rw [ufFind_yes hok h1 hm hml]
    by_cases e : y[m] = -1 - (m : Int)
    · rw [e, applyV_miss]
      · omega
      · intro j hj _ he
        obtain ⟨k, hk, h3, h4, h5⟩ := sub_mem (Nat.le_refl _) (List.getElem_mem hj)
        have : k = m := by omega
        subst this
        exact h5 e
    · obtain ⟨i, i1, i2, i3, i4⟩ := sub_idx hml e y.length (Nat.le_refl _) hml
      rw [applyV_hit hs (k := i) (fun j hj hji he => ?_) i1 i2 (by rw [i3]; omega), i4]
      have := List.pairwise_iff_getElem.1 (sub_asc (y := y) y.length (Nat.le_refl _)) j i hj i1 hji
      omega
theorem uni_two {x : List Int} {a b : Int} (h : Union_r1 x a b = 2) : Union_r0 x a b = x := by
  cases hu : uniOk x a b with
  | false => exact (uni_bad hu).1
  | true =>
    by_cases h1 : ufFind x a = ufFind x b
    · exact (uni_same hu h1).1
    · by_cases h2 : min (ufFind x a) (ufFind x b) < 0
      · rw [(uni_done hu h1 h2).2] at h; cases h
      · exact (uni_const hu h1 h2).1
theorem uni_ok {x : List Int} {a b : Int} (h : Union_r1 x a b ≠ 2) : uniOk x a b = true := by
  cases hu : uniOk x a b with
  | false => exact absurd (uni_bad hu).2 h
  | true => rfl
theorem sub_wf {y : List Int} (hok : ufOk y = true) : Substitution_wf (UnionSubstitution_r0 y) := by
  have h := subOk_parts (sub_law hok).1
  refine ⟨fun i hi => ?_, fun i hi => ?_⟩
  · have := h.bd i hi; omega
  · have := of_decide_eq_true (h.ok i hi); omega

end Go.Proofs.Ytalijnfbopcmeaa
