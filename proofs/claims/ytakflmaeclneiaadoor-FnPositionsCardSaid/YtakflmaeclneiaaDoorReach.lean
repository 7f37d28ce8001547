/-
  Walks and plain lemmas for the laws of this seat: what single Go functions return, for every argument.
-/
import Derived.Test.YtakflmaeclneiaaDoorEdge
import Derived.Test.YtakflmaeclneiaaDoorPosI
namespace Go.Proofs.YtakflmaeclneiaaDoor
open Go.RowKit

/-- an edge whose ends are positions -/
def EdgIn (n : Nat) (e : Edg) : Prop := (0 ≤ e.src ∧ e.src < n) ∧ (0 ≤ e.dst ∧ e.dst < n)
instance (n : Nat) (e : Edg) : Decidable (EdgIn n e) := by unfold EdgIn; exact inferInstance
/-- j can be reached from a by edges among n positions -/
inductive Rch (E : List Edg) (n a : Nat) : Nat → Prop
  | here : Rch E n a a
  | step (j : Nat) (e : Edg) : Rch E n a j → e ∈ E → EdgIn n e → e.src = (j : Int) → Rch E n a e.dst.toNat
/-- how many of the first n are true -/
def cntB (f : Nat → Bool) (n : Nat) : Nat := (List.range n).countP f
theorem cntB_le (f : Nat → Bool) (n : Nat) : cntB f n ≤ n := by
  unfold cntB
  have := List.countP_le_length (p := f) (l := List.range n)
  rwa [List.length_range] at this
theorem cntB_succ (f : Nat → Bool) (n : Nat) : cntB f (n + 1) = cntB f n + (if f n = true then 1 else 0) := by
  unfold cntB
  rw [List.range_succ, List.countP_append]
  simp [List.countP_cons]
theorem cntB_mono {f g : Nat → Bool} (n : Nat) (h : ∀ j, j < n → f j = true → g j = true) : cntB f n ≤ cntB g n := by
  induction n with
  | zero => simp [cntB]
  | succ n ih =>
    rw [cntB_succ, cntB_succ]
    have h1 := ih fun j hj => h j (by omega)
    have h2 := h n (by omega)
    cases hf : f n with
    | false => simp; omega
    | true => simp [h2 hf]; omega
theorem cntB_lt {f g : Nat → Bool} (n : Nat) (h : ∀ j, j < n → f j = true → g j = true) (k : Nat) (hk : k < n) (h0 : f k = false) (h1 : g k = true) : cntB f n < cntB g n := by
  induction n with
  | zero => omega
  | succ n ih =>
    rw [cntB_succ, cntB_succ]
    by_cases e : k = n
    · subst e
      have := cntB_mono k fun j hj => h j (by omega)
      simp [h0, h1]; omega
    · have h2 := ih (fun j hj => h j (by omega)) (by omega)
      have h3 := h n (by omega)
      cases hf : f n with
      | false => simp; omega
      | true => simp [h3 hf]; omega
theorem cntB_pos {f : Nat → Bool} (n k : Nat) (hk : k < n) (h : f k = true) : 1 ≤ cntB f n := by
  have := cntB_lt (f := fun _ => false) (g := f) n (fun _ _ h => by cases h) k hk rfl h
  omega
/-- what is known of the marks after k rounds -/
structure Rnd (E : List Edg) (n a k : Nat) (f : Nat → Bool) : Prop where
  sound : ∀ j, f j = true → Rch E n a j
  root : f a = true
  full : (∀ j, Rch E n a j → f j = true) ∨ k + 1 ≤ cntB f n
theorem Rnd.zero {E : List Edg} {n a : Nat} (ha : a < n) {f : Nat → Bool} (h : ∀ j, f j = true ↔ j = a) : Rnd E n a 0 f :=
  ⟨fun j hj => by rw [(h j).1 hj]; exact .here, (h a).2 rfl, .inr (cntB_pos n a ha ((h a).2 rfl))⟩
theorem Rch.lt {E : List Edg} {n a j : Nat} (ha : a < n) (h : Rch E n a j) : j < n := by
  cases h with
  | here => exact ha
  | step j e _ _ he _ => have := he.2; omega
theorem Rnd.next {E : List Edg} {n a k : Nat} {f g : Nat → Bool} (h : Rnd E n a k f) (hs : ∀ j, g j = true → Rch E n a j) (hg : ∀ j, f j = true → g j = true)
    (hc : ∀ e ∈ E, EdgIn n e → f e.src.toNat = true → g e.dst.toNat = true) : Rnd E n a (k + 1) g := by
  refine ⟨hs, hg a h.root, ?_⟩
  rcases h.full with h1 | h1
  · exact .inl fun j hj => hg j (h1 j hj)
  · by_cases hcl : ∀ e ∈ E, EdgIn n e → f e.src.toNat = true → f e.dst.toNat = true
    · refine .inl fun j hj => hg j ?_
      induction hj with
      | here => exact h.root
      | step j e _ he hi hj ih =>
        refine hcl e he hi ?_
        have e1 : e.src.toNat = j := by omega
        rw [e1]; exact ih
    · refine .inr ?_
      have hcl2 : ∃ e ∈ E, EdgIn n e ∧ f e.src.toNat = true ∧ ¬ f e.dst.toNat = true := by
        refine Classical.byContradiction fun hno => hcl fun e he hi hf => Classical.byContradiction fun h9 => hno ⟨e, he, hi, hf, h9⟩
      obtain ⟨e, he, hi, hf, hnf⟩ := hcl2
      have := cntB_lt (f := f) (g := g) n (fun j _ => hg j) e.dst.toNat (by have := hi.2; omega) (by simpa using hnf) (hc e he hi hf)
      omega
theorem Rnd.done {E : List Edg} {n a : Nat} {f : Nat → Bool} (h : Rnd E n a n f) (j : Nat) : f j = true ↔ Rch E n a j := by
  refine ⟨h.sound j, fun hj => ?_⟩
  rcases h.full with h1 | h1
  · exact h1 j hj
  · have := cntB_le f n; omega
def RchOk (n : Int) (E : List Edg) (a b : Int) : Prop := (0 ≤ n ∧ n ≤ 30) ∧ (0 ≤ a ∧ a < n) ∧ (0 ≤ b ∧ b < n) ∧ Rch E n.toNat a.toNat b.toNat
/-- b can be reached from a -/
noncomputable def reachB (n : Int) (E : List Edg) (a b : Int) : Bool := @decide (RchOk n E a b) (Classical.propDecidable _)
theorem reachB_iff (n : Int) (E : List Edg) (a b : Int) : reachB n E a b = true ↔ RchOk n E a b := by
  unfold reachB
  exact @decide_eq_true_iff _ (Classical.propDecidable _)
theorem reachB_no {n a b : Int} {E : List Edg} (h : ¬((0 ≤ n ∧ n ≤ 30) ∧ (0 ≤ a ∧ a < n) ∧ (0 ≤ b ∧ b < n))) : reachB n E a b = false := by
  cases hr : reachB n E a b with
  | false => rfl
  | true =>
    have hp := (reachB_iff _ _ _ _).1 hr
    exact absurd ⟨hp.1, hp.2.1, hp.2.2.1⟩ h
theorem reachB_done {n a b : Nat} {E : List Edg} (hn : n ≤ 30) (ha : a < n) (hb : b < n) {f : Nat → Bool} (h : Rnd E n a n f) : f b = reachB n E a b := by
  rw [Bool.eq_iff_iff, h.done b, reachB_iff]
  unfold RchOk
  simp only [Int.toNat_natCast]
  exact ⟨fun hr => ⟨by omega, by omega, by omega, hr⟩, fun hr => hr.2.2.2⟩
theorem reachB_self {n a : Int} {E : List Edg} (hn : 1 ≤ n ∧ n ≤ 30) (ha : 0 ≤ a ∧ a < n) : reachB n E a a = true :=
  (reachB_iff _ _ _ _).2 ⟨by omega, ha, ha, .here⟩
theorem reachB_next {n a b : Int} {E : List Edg} (h : reachB n E a b = true) {e : Edg} (he : e ∈ E) (h1 : e.src = b) (h2 : 0 ≤ e.dst ∧ e.dst < n) : reachB n E a e.dst = true := by
  have hp := (reachB_iff _ _ _ _).1 h
  refine (reachB_iff _ _ _ _).2 ⟨hp.1, hp.2.1, h2, ?_⟩
  exact .step b.toNat e hp.2.2.2 he ⟨by have := hp.2.2.1; omega, by omega⟩ (by have := hp.2.2.1; omega)

/-- the marks of a round's middle: t edges seen, F the marks at the round's start -/
structure Inn (E : List Edg) (n a : Nat) (F : List Bool) (t : Nat) (G : List Bool) : Prop where
  len : G.length = n
  sound : ∀ j, G.getD j false = true → Rch E n a j
  grow : ∀ j, F.getD j false = true → G.getD j false = true
  seen : ∀ (i : Nat) (hi : i < E.length), i < t → EdgIn n E[i] → F.getD E[i].src.toNat false = true → G.getD E[i].dst.toNat false = true
theorem Inn.zero {E : List Edg} {n a k : Nat} {F : List Bool} (hl : F.length = n) (h : Rnd E n a k fun j => F.getD j false) : Inn E n a F 0 F :=
  ⟨hl, h.sound, fun _ h => h, fun _ _ h => absurd h (by omega)⟩
theorem Inn.skip {E : List Edg} {n a t : Nat} {F G : List Bool} (h : Inn E n a F t G) (ht : t < E.length) (hn : ¬(EdgIn n E[t] ∧ G.getD E[t].src.toNat false = true)) : Inn E n a F (t + 1) G :=
  ⟨h.len, h.sound, h.grow, fun i hi hlt he hf => by
    by_cases e : i = t
    · subst e; exact absurd ⟨he, h.grow _ hf⟩ hn
    · exact h.seen i hi (by omega) he hf⟩
theorem Inn.put {E : List Edg} {n a t : Nat} {F G : List Bool} (h : Inn E n a F t G) (ht : t < E.length) (he : EdgIn n E[t]) (hg : G.getD E[t].src.toNat false = true) : Inn E n a F (t + 1) (G.set E[t].dst.toNat true) := by
  have hd : E[t].dst.toNat < G.length := by rw [h.len]; have := he.2; omega
  refine ⟨by rw [List.length_set]; exact h.len, fun j hj => ?_, fun j hj => ?_, fun i hi hlt hi2 hf => ?_⟩
  · rw [getD_set_true _ _ _ hd, Bool.or_eq_true, decide_eq_true_eq] at hj
    rcases hj with hj | rfl
    · exact h.sound j hj
    · exact .step E[t].src.toNat E[t] (h.sound _ hg) (List.getElem_mem ht) he (by have := he.1; omega)
  · rw [getD_set_true _ _ _ hd, h.grow j hj]; rfl
  · rw [getD_set_true _ _ _ hd]
    by_cases e : i = t
    · subst e; simp
    · rw [h.seen i hi (by omega) hi2 hf]; rfl
theorem Inn.full {E : List Edg} {n a k : Nat} {F G : List Bool} (hr : Rnd E n a k fun j => F.getD j false) (h : Inn E n a F E.length G) : Rnd E n a (k + 1) fun j => G.getD j false :=
  hr.next h.sound h.grow fun e he hi hf => by
    obtain ⟨i, hi2, rfl⟩ := List.getElem_of_mem he
    exact h.seen i hi2 hi2 hi hf
theorem Rnd.start {E : List Edg} {n a : Nat} (ha : a < n) (m : Nat) (hm : a < m) : Rnd E n a 0 fun j => ((List.replicate m false).set a true).getD j false :=
  Rnd.zero ha fun j => by
    rw [getD_set_true _ _ _ (by rw [List.length_replicate]; exact hm), getD_rep, Bool.false_or, decide_eq_true_eq]
/-- the matrix of the first t edges -/
structure MatTo (E : List Edg) (n t : Nat) (M : List Bool) : Prop where
  len : M.length = 900
  is : ∀ p x, p < 30 → x < 30 → (M.getD (p * 30 + x) false = true ↔ ∃ i, ∃ hi : i < E.length, i < t ∧ EdgIn n E[i] ∧ E[i].src.toNat = p ∧ E[i].dst.toNat = x)
theorem MatTo.zero (E : List Edg) (n : Nat) : MatTo E n 0 (List.replicate 900 false) :=
  ⟨List.length_replicate, fun p x _ _ => by
    rw [getD_rep]
    refine ⟨fun h => (by cases h), ?_⟩
    rintro ⟨i, _, h, _⟩
    exact absurd h (by omega)⟩
theorem MatTo.skip {E : List Edg} {n t : Nat} {M : List Bool} (h : MatTo E n t M) (ht : t < E.length) (hn : ¬ EdgIn n E[t]) : MatTo E n (t + 1) M :=
  ⟨h.len, fun p x hp hx => by
    rw [h.is p x hp hx]
    constructor
    · rintro ⟨i, hi, h1, h2⟩; exact ⟨i, hi, by omega, h2⟩
    · rintro ⟨i, hi, h1, h2⟩
      by_cases e : i = t
      · subst e; exact absurd h2.1 hn
      · exact ⟨i, hi, by omega, h2⟩⟩
theorem MatTo.put {E : List Edg} {n t : Nat} {M : List Bool} (h : MatTo E n t M) (hn : n ≤ 30) (ht : t < E.length) (he : EdgIn n E[t]) : MatTo E n (t + 1) (M.set (E[t].src.toNat * 30 + E[t].dst.toNat) true) := by
  have h1 := he.1
  have h2 := he.2
  have hd : E[t].src.toNat * 30 + E[t].dst.toNat < M.length := by rw [h.len]; omega
  refine ⟨by rw [List.length_set]; exact h.len, fun p x hp hx => ?_⟩
  rw [getD_set_true _ _ _ hd, Bool.or_eq_true, decide_eq_true_eq, h.is p x hp hx]
  constructor
  · rintro (⟨i, hi, h1, h2⟩ | e)
    · exact ⟨i, hi, by omega, h2⟩
    · exact ⟨t, ht, by omega, he, by omega, by omega⟩
  · rintro ⟨i, hi, h3, h4, h5, h6⟩
    by_cases e : i = t
    · subst e; exact .inr (by omega)
    · exact .inl ⟨i, hi, by omega, h4, h5, h6⟩
/-- the marks in the middle of a round over all pairs of positions: all pairs before p, x seen -/
structure Mid2 (E : List Edg) (n a : Nat) (F : List Bool) (p x : Nat) (G : List Bool) : Prop where
  len : G.length = 30
  sound : ∀ j, G.getD j false = true → Rch E n a j
  grow : ∀ j, F.getD j false = true → G.getD j false = true
  seen : ∀ (i : Nat) (hi : i < E.length), EdgIn n E[i] → (E[i].src.toNat < p ∨ E[i].src.toNat = p ∧ E[i].dst.toNat < x) → F.getD E[i].src.toNat false = true → G.getD E[i].dst.toNat false = true
theorem Mid2.zero {E : List Edg} {n a k : Nat} {F : List Bool} (hl : F.length = 30) (h : Rnd E n a k fun j => F.getD j false) : Mid2 E n a F 0 0 F :=
  ⟨hl, h.sound, fun _ h => h, fun _ _ _ h => absurd h (by omega)⟩
theorem Mid2.row {E : List Edg} {n a p : Nat} {F G : List Bool} (h : Mid2 E n a F p n G) : Mid2 E n a F (p + 1) 0 G :=
  ⟨h.len, h.sound, h.grow, fun i hi he hlt hf => h.seen i hi he (by have := he.2; omega) hf⟩
theorem Mid2.step {E : List Edg} {n a p x : Nat} {F G M : List Bool} (h : Mid2 E n a F p x G) (hM : MatTo E n E.length M) (hn : n ≤ 30) (hp : p < n) (hx : x < n) :
    Mid2 E n a F p (x + 1) (G.set x (G.getD x false || (G.getD p false && M.getD (p * 30 + x) false))) := by
  have hd : x < G.length := by rw [h.len]; omega
  refine ⟨by rw [List.length_set]; exact h.len, fun j hj => ?_, fun j hj => ?_, fun i hi he hlt hf => ?_⟩
  · rw [getD_set_any _ _ _ _ hd] at hj
    split at hj
    · rename_i e
      subst e
      rw [Bool.or_eq_true, Bool.and_eq_true] at hj
      rcases hj with hj | ⟨h1, h2⟩
      · exact h.sound j hj
      · obtain ⟨i, hi, _, he, e1, e2⟩ := (hM.is p j (by omega) (by omega)).1 h2
        have := Rch.step (E := E) (n := n) (a := a) p E[i] (h.sound p h1) (List.getElem_mem hi) he (by have := he.1; omega)
        rwa [e2] at this
    · exact h.sound j hj
  · rw [getD_set_any _ _ _ _ hd]
    split
    · rename_i e; subst e; rw [h.grow j hj]; rfl
    · exact h.grow j hj
  · rw [getD_set_any _ _ _ _ hd]
    split
    · rename_i e
      rw [Bool.or_eq_true, Bool.and_eq_true]
      by_cases e2 : E[i].src.toNat = p
      · refine .inr ⟨?_, (hM.is p x (by omega) (by omega)).2 ⟨i, hi, hi, he, e2, e⟩⟩
        rw [← e2]; exact h.grow _ hf
      · refine .inl ?_
        rw [← e]; exact h.seen i hi he (by omega) hf
    · rename_i e
      exact h.seen i hi he (by omega) hf
theorem Mid2.full {E : List Edg} {n a k : Nat} {F G : List Bool} (hr : Rnd E n a k fun j => F.getD j false) (h : Mid2 E n a F n 0 G) : Rnd E n a (k + 1) fun j => G.getD j false :=
  hr.next h.sound h.grow fun e he hi hf => by
    obtain ⟨i, hi2, rfl⟩ := List.getElem_of_mem he
    exact h.seen i hi2 hi (by have := hi.1; omega) hf

end Go.Proofs.YtakflmaeclneiaaDoor
