/-
  Walks and plain lemmas for the laws of this seat: what single Go functions return, for every argument.
-/
import Derived.Test.YtakflmaeclneiaaDoorTyDepS
import Derived.Test.YtakflmaeclneiaaDoorNum
import Derived.Test.YtakflmaeclneiaaDoorVarsM
import Derived.Test.YtakflmaeclneiaaDoorAft
import Derived.Test.YtakflmaeclneiaaDoorEdge
namespace Go.Proofs.YtakflmaeclneiaaDoor
open Go.RowKit

def depsOk (l : List Rel) (xs : List Dep) : Bool := validRels l && (decide (xs.length ≤ 5) && xs.all (depOk l))

/-- the first k columns of an atom that hold v, ts positions -/
def atPosTo (l : List Rel) (a : Atm) (v : Int) (k : Nat) : List Int := ((List.range k).filter fun j => decide (a.vals.getD j 0 = v)).map fun j => posIx l a.rel (j : Nat)
theorem atPosTo_zero (l : List Rel) (a : Atm) (v : Int) : atPosTo l a v 0 = [] := rfl
theorem atPosTo_yes (l : List Rel) (a : Atm) (v : Int) (k : Nat) (hk : k < a.vals.length) (h : a.vals[k] = v) : atPosTo l a v (k + 1) = atPosTo l a v k ++ [posIx l a.rel (k : Nat)] := by
  unfold atPosTo
  rw [List.range_succ, List.filter_append, List.map_append]
  have e : a.vals.getD k 0 = v := by rw [List.getD_eq_getElem?_getD, List.getElem?_eq_getElem hk]; exact h
  rw [show List.filter (fun j => decide (a.vals.getD j 0 = v)) [k] = [k] by rw [List.filter_cons, decide_eq_true e]; rfl]
  rfl
theorem atPosTo_no (l : List Rel) (a : Atm) (v : Int) (k : Nat) (hk : k < a.vals.length) (h : ¬ a.vals[k] = v) : atPosTo l a v (k + 1) = atPosTo l a v k := by
  unfold atPosTo
  rw [List.range_succ, List.filter_append, List.map_append]
  have e : ¬ a.vals.getD k 0 = v := by rw [List.getD_eq_getElem?_getD, List.getElem?_eq_getElem hk]; exact h
  rw [show List.filter (fun j => decide (a.vals.getD j 0 = v)) [k] = [] by rw [List.filter_cons, decide_eq_false e]; rfl]
  exact List.append_nil _
theorem atPosTo_len (l : List Rel) (a : Atm) (v : Int) (k : Nat) : (atPosTo l a v k).length ≤ k := by
  unfold atPosTo
  rw [List.length_map]
  have := List.length_filter_le (fun j => decide (a.vals.getD j 0 = v)) (List.range k)
  rwa [List.length_range] at this
/-- the positions at which v occurs in atoms -/
def varPos (l : List Rel) (ts : List Atm) (v : Int) : List Int := ts.flatMap fun a => atPosTo l a v a.vals.length
theorem varPos_take (l : List Rel) (ts : List Atm) (v : Int) (k : Nat) (h : k < ts.length) : varPos l (ts.take (k + 1)) v = varPos l (ts.take k) v ++ atPosTo l ts[k] v ts[k].vals.length := by
  unfold varPos; rw [List.take_succ_eq_append_getElem h, List.flatMap_append]; simp
theorem varPos_len (l : List Rel) (ts : List Atm) (v : Int) : (varPos l ts v).length ≤ avalsLen ts := by
  induction ts with
  | nil => simp [varPos, avalsLen]
  | cons a t ih =>
    have h1 := atPosTo_len l a v a.vals.length
    unfold varPos at ih ⊢
    rw [List.flatMap_cons, List.length_append]
    simp only [avalsLen]; omega
theorem varPos_bd (l : List Rel) (ts : List Atm) (v : Int) : ∀ p ∈ varPos l ts v, -1 ≤ p ∧ p ≤ 21 := by
  intro p hp
  unfold varPos at hp
  obtain ⟨a, _, ha⟩ := List.mem_flatMap.1 hp
  unfold atPosTo at ha
  obtain ⟨j, _, rfl⟩ := List.mem_map.1 ha
  exact posIx_bd _ _ _
/-- the positions of the existential variables in the head -/
def exPos (l : List Rel) (d : Dep) : List Int := (headVars d false).flatMap (varPos l d.head)
/-- the edges from one place of a frontier variable -/
def edgsAt (l : List Rel) (d : Dep) (v f : Int) : List Edg := (varPos l d.head v).map (fun t => ⟨f, t, false⟩) ++ (exPos l d).map (fun t => ⟨f, t, true⟩)
def edgsOf (l : List Rel) (d : Dep) (v : Int) : List Edg := (varPos l d.body v).flatMap (edgsAt l d v)
def depEdgs (l : List Rel) (d : Dep) : List Edg := (headVars d true).flatMap (edgsOf l d)
def putE (e : List Edg) (x : Edg) : List Edg := if x ∈ e then e else e ++ [x]
def putEs (e xs : List Edg) : List Edg := xs.foldl putE e
theorem putEs_nil (e : List Edg) : putEs e [] = e := rfl
theorem putEs_snoc (e xs : List Edg) (x : Edg) : putEs e (xs ++ [x]) = putE (putEs e xs) x := by unfold putEs; rw [List.foldl_append]; rfl
theorem putEs_append (e xs ys : List Edg) : putEs e (xs ++ ys) = putEs (putEs e xs) ys := by unfold putEs; rw [List.foldl_append]
theorem putE_len (e : List Edg) (x : Edg) : (putE e x).length ≤ e.length + 1 := by
  unfold putE; split
  · omega
  · simp
theorem putEs_len (e xs : List Edg) : (putEs e xs).length ≤ e.length + xs.length := by
  induction xs generalizing e with
  | nil => simp [putEs]
  | cons a t ih =>
    have h1 := ih (putE e a)
    have h2 := putE_len e a
    simp only [putEs, List.foldl_cons, List.length_cons] at h1 ⊢
    omega
/-- all dependencies' edges, each once -/
def graphTo (l : List Rel) (ds : List Dep) : List Edg := ds.foldl (fun e d => putEs e (depEdgs l d)) []
theorem graphTo_take (l : List Rel) (ds : List Dep) (k : Nat) (h : k < ds.length) : graphTo l (ds.take (k + 1)) = putEs (graphTo l (ds.take k)) (depEdgs l ds[k]) := by
  unfold graphTo; rw [List.take_succ_eq_append_getElem h, List.foldl_append]; rfl
def PositionGraph_r0 (l : List Rel) (ds : List Dep) : List Edg := if depsOk l ds = true then graphTo l ds else []
theorem flat_take {α β : Type} (f : α → List β) (l : List α) (k : Nat) (h : k < l.length) : (l.take (k + 1)).flatMap f = (l.take k).flatMap f ++ f l[k] := by
  rw [List.take_succ_eq_append_getElem h, List.flatMap_append]; simp
theorem flat_take_len {α β : Type} (f : α → List β) (l : List α) (k : Nat) : ((l.take k).flatMap f).length ≤ (l.flatMap f).length := by
  have e : l.flatMap f = (l.take k).flatMap f ++ (l.drop k).flatMap f := by rw [← List.flatMap_append, List.take_append_drop]
  rw [e, List.length_append]; omega
theorem flat_len_le {α β : Type} (f : α → List β) (l : List α) (m : Nat) (h : ∀ a ∈ l, (f a).length ≤ m) : (l.flatMap f).length ≤ l.length * m := by
  induction l with
  | nil => simp
  | cons a t ih =>
    have h1 := h a (by simp)
    have h2 := ih fun x hx => h x (by simp [hx])
    rw [List.flatMap_cons, List.length_append, List.length_cons, Nat.add_mul]; omega
/-- a valid dependency has few variables' places -/
theorem depOk_small {l : List Rel} {d : Dep} (h : depOk l d = true) : d.body.length ≤ 2 ∧ d.head.length ≤ 2 ∧ avalsLen d.body ≤ 6 ∧ avalsLen d.head ≤ 6 := by
  unfold depOk inB at h
  simp only [Bool.and_eq_true, decide_eq_true_eq] at h
  obtain ⟨h1, h2, h3⟩ := h
  have hb := avals_small h2
  cases he : d.egd with
  | true =>
    rw [he] at h3
    simp only [if_true, Bool.and_eq_true, beq_iff_eq] at h3
    have h0 : d.head = [] := List.eq_nil_of_length_eq_zero (by omega)
    rw [h0]
    exact ⟨by omega, by simp, by omega, by simp [avalsLen]⟩
  | false =>
    rw [he] at h3
    simp only [Bool.false_eq_true, if_false, Bool.and_eq_true, decide_eq_true_eq] at h3
    have hh : d.head.all (atomB l) = true := by
      rw [List.all_eq_true] at h3 ⊢
      intro a ha
      have := h3.1 a ha
      unfold headB at this
      simp only [Bool.and_eq_true] at this
      exact this.1
    have h6 := avals_small hh
    exact ⟨by omega, by omega, by omega, by omega⟩
theorem exPos_len {l : List Rel} {d : Dep} (h : avalsLen d.head ≤ 6) : (exPos l d).length ≤ 36 := by
  have h1 := headVars_len d false
  have h2 := flat_len_le (varPos l d.head) (headVars d false) 6 fun v _ => Nat.le_trans (varPos_len l d.head v) h
  have h3 : (headVars d false).length * 6 ≤ 6 * 6 := Nat.mul_le_mul_right 6 (by omega)
  unfold exPos; omega
theorem edgsAt_len {l : List Rel} {d : Dep} (h : avalsLen d.head ≤ 6) (v f : Int) : (edgsAt l d v f).length ≤ 42 := by
  have h1 := varPos_len l d.head v
  have h2 := exPos_len (l := l) h
  unfold edgsAt
  rw [List.length_append, List.length_map, List.length_map]; omega
theorem edgsOf_len {l : List Rel} {d : Dep} (h : avalsLen d.head ≤ 6) (hb : avalsLen d.body ≤ 6) (v : Int) : (edgsOf l d v).length ≤ 252 := by
  have h1 := varPos_len l d.body v
  have h2 := flat_len_le (edgsAt l d v) (varPos l d.body v) 42 fun f _ => edgsAt_len h v f
  have h3 : (varPos l d.body v).length * 42 ≤ 6 * 42 := Nat.mul_le_mul_right 42 (by omega)
  unfold edgsOf; omega
theorem depEdgs_len {l : List Rel} {d : Dep} (h : depOk l d = true) : (depEdgs l d).length ≤ 1512 := by
  obtain ⟨_, _, hb, hh⟩ := depOk_small h
  have h1 := headVars_len d true
  have h2 := flat_len_le (edgsOf l d) (headVars d true) 252 fun v _ => edgsOf_len hh hb v
  have h3 : (headVars d true).length * 252 ≤ 6 * 252 := Nat.mul_le_mul_right 252 (by omega)
  unfold depEdgs; omega
theorem graphTo_len {l : List Rel} {ds : List Dep} (h : ∀ d ∈ ds, depOk l d = true) : (graphTo l ds).length ≤ ds.length * 1512 := by
  have key : ∀ (ds : List Dep) (e : List Edg), (∀ d ∈ ds, depOk l d = true) → (ds.foldl (fun e d => putEs e (depEdgs l d)) e).length ≤ e.length + ds.length * 1512 := by
    intro ds
    induction ds with
    | nil => intro e _; simp
    | cons a t ih =>
      intro e h
      have h1 := ih (putEs e (depEdgs l a)) fun d hd => h d (by simp [hd])
      have h2 := putEs_len e (depEdgs l a)
      have h3 := depEdgs_len (h a (by simp))
      simp only [List.foldl_cons, List.length_cons, Nat.add_mul] at h1 ⊢
      omega
  have := key ds [] h
  simpa [graphTo] using this
theorem depsOk_parts {l : List Rel} {ds : List Dep} (h : depsOk l ds = true) : validRels l = true ∧ ds.length ≤ 5 ∧ ∀ d ∈ ds, depOk l d = true := by
  unfold depsOk at h
  simp only [Bool.and_eq_true, decide_eq_true_eq, List.all_eq_true] at h
  exact ⟨h.1, h.2.1, h.2.2⟩
theorem graph_len (l : List Rel) (ds : List Dep) : (PositionGraph_r0 l ds).length ≤ 7560 := by
  unfold PositionGraph_r0
  split
  · rename_i h
    obtain ⟨_, h5, hd⟩ := depsOk_parts h
    have := graphTo_len hd
    have h3 : ds.length * 1512 ≤ 5 * 1512 := Nat.mul_le_mul_right 1512 h5
    omega
  · simp
theorem edgsAt_bd (l : List Rel) (d : Dep) (v f : Int) (hf : -1 ≤ f ∧ f ≤ 21) : ∀ e ∈ edgsAt l d v f, (-1 ≤ e.src ∧ e.src ≤ 21) ∧ (-1 ≤ e.dst ∧ e.dst ≤ 21) := by
  intro e he
  unfold edgsAt at he
  rcases List.mem_append.1 he with h | h
  · obtain ⟨t, ht, rfl⟩ := List.mem_map.1 h
    exact ⟨hf, varPos_bd _ _ _ t ht⟩
  · obtain ⟨t, ht, rfl⟩ := List.mem_map.1 h
    unfold exPos at ht
    obtain ⟨x, _, hx⟩ := List.mem_flatMap.1 ht
    exact ⟨hf, varPos_bd _ _ _ t hx⟩
theorem depEdgs_bd (l : List Rel) (d : Dep) : ∀ e ∈ depEdgs l d, (-1 ≤ e.src ∧ e.src ≤ 21) ∧ (-1 ≤ e.dst ∧ e.dst ≤ 21) := by
  intro e he
  unfold depEdgs edgsOf at he
  obtain ⟨v, _, h1⟩ := List.mem_flatMap.1 he
  obtain ⟨f, hf, h2⟩ := List.mem_flatMap.1 h1
  exact edgsAt_bd l d v f (varPos_bd _ _ _ f hf) e h2
theorem putE_mem (e : List Edg) (x y : Edg) : y ∈ putE e x → y ∈ e ∨ y = x := by
  unfold putE; split
  · exact .inl
  · intro h
    rcases List.mem_append.1 h with h | h
    · exact .inl h
    · exact .inr (by simpa using h)
theorem putEs_mem (e xs : List Edg) (y : Edg) : y ∈ putEs e xs → y ∈ e ∨ y ∈ xs := by
  induction xs generalizing e with
  | nil => exact .inl
  | cons a t ih =>
    intro h
    have h1 := ih (putE e a) (by simpa [putEs] using h)
    rcases h1 with h1 | h1
    · rcases putE_mem e a y h1 with h2 | h2
      · exact .inl h2
      · exact .inr (by simp [h2])
    · exact .inr (by simp [h1])
theorem graph_bd (l : List Rel) (ds : List Dep) : ∀ e ∈ PositionGraph_r0 l ds, (-1 ≤ e.src ∧ e.src ≤ 21) ∧ (-1 ≤ e.dst ∧ e.dst ≤ 21) := by
  have key : ∀ (ds : List Dep) (E : List Edg), (∀ e ∈ E, (-1 ≤ e.src ∧ e.src ≤ 21) ∧ (-1 ≤ e.dst ∧ e.dst ≤ 21)) → ∀ e ∈ ds.foldl (fun e d => putEs e (depEdgs l d)) E, (-1 ≤ e.src ∧ e.src ≤ 21) ∧ (-1 ≤ e.dst ∧ e.dst ≤ 21) := by
    intro ds
    induction ds with
    | nil => intro E h; exact h
    | cons a t ih =>
      intro E h
      rw [List.foldl_cons]
      refine ih _ fun e he => ?_
      rcases putEs_mem _ _ _ he with h1 | h1
      · exact h e h1
      · exact depEdgs_bd l a e h1
  intro e he
  unfold PositionGraph_r0 at he
  split at he
  · exact key ds [] (fun e h => by cases h) e he
  · cases he

end Go.Proofs.YtakflmaeclneiaaDoor
