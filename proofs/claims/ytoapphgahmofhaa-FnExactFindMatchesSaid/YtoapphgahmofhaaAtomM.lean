/-
  Walks and plain lemmas for the laws of this seat: what single Go functions return, for every argument.
-/
import Derived.Test.YtoapphgahmofhaaBase
import Derived.Test.YtoapphgahmofhaaMem
import Derived.Test.YtoapphgahmofhaaRels
import Derived.Test.YtoapphgahmofhaaFact
import Derived.Test.YtoapphgahmofhaaTyAtom
namespace Go.Proofs.Ytoapphgahmofhaa
open Go.RowKit

/-- a term of an atom: a variable or a constant -/
abbrev validT (t : Int) : Bool := inB t (-10) 4
def atomOk (l : List Rel) (r : Int) (vs : List Int) : Bool := validRels l && (decide (0 ≤ r ∧ r < l.length) && (decide ((vs.length : Int) = arityAt l r) && vs.all validT))
theorem atomOk_rels {l : List Rel} {r : Int} {vs : List Int} (h : validRels l = false) : atomOk l r vs = false := by unfold atomOk; rw [h]; rfl
theorem atomOk_idx {l : List Rel} {r : Int} {vs : List Int} (h : ¬(0 ≤ r ∧ r < l.length)) : atomOk l r vs = false := by unfold atomOk; rw [decide_eq_false h]; simp
theorem atomOk_len {l : List Rel} {r : Int} {vs : List Int} (h : ¬((vs.length : Int) = arityAt l r)) : atomOk l r vs = false := by unfold atomOk; rw [decide_eq_false h]; simp
theorem atomOk_val {l : List Rel} {r : Int} {vs : List Int} (k : Nat) (hk : k < vs.length) (h : validT vs[k] = false) : atomOk l r vs = false := by
  have : vs.all validT = false := by rw [List.all_eq_false]; exact ⟨vs[k], List.getElem_mem hk, by rw [h]; simp⟩
  unfold atomOk; rw [this]; simp
/-- the first k terms are valid -/
def TermsTo (vs : List Int) (k : Nat) : Prop := (vs.take k).all validT = true
theorem TermsTo.zero (vs : List Int) : TermsTo vs 0 := rfl
theorem TermsTo.next {vs : List Int} {k : Nat} (h : TermsTo vs k) (hk : k < vs.length) (hv : validT vs[k] = true) : TermsTo vs (k + 1) := by
  unfold TermsTo at *
  rw [List.take_succ_eq_append_getElem hk, List.all_append, h]; simp [hv]
theorem atomOk_yes {l : List Rel} {r : Int} {vs : List Int} (hv : validRels l = true) (h1 : 0 ≤ r ∧ r < l.length) (h2 : (vs.length : Int) = arityAt l r) (h3 : TermsTo vs vs.length) : atomOk l r vs = true := by
  unfold TermsTo at h3
  rw [List.take_of_length_le (Nat.le_refl _)] at h3
  unfold atomOk; rw [hv, decide_eq_true h1, decide_eq_true h2, h3]; rfl
theorem atomOk_parts {l : List Rel} {r : Int} {vs : List Int} (h : atomOk l r vs = true) : validRels l = true ∧ (0 ≤ r ∧ r < l.length) ∧ (vs.length : Int) = arityAt l r ∧ ∀ (k : Nat) (hk : k < vs.length), validT vs[k] = true := by
  unfold atomOk at h
  simp only [Bool.and_eq_true, decide_eq_true_eq, List.all_eq_true] at h
  exact ⟨h.1, h.2.1, h.2.2.1, fun k hk => h.2.2.2 _ (List.getElem_mem hk)⟩

/-- a term put among the variables, if it is one -/
def addVar (out : List Int) (t : Int) : List Int := if 0 ≤ t then putI out t else out
def addTerms (out : List Int) (vs : List Int) : List Int := vs.foldl addVar out
def varsOf (l : List Atm) : List Int := l.foldl (fun o a => addTerms o a.vals) []
theorem addTerms_take (out : List Int) (vs : List Int) (k : Nat) (h : k < vs.length) : addTerms out (vs.take (k + 1)) = addVar (addTerms out (vs.take k)) vs[k] := by
  unfold addTerms; rw [List.take_succ_eq_append_getElem h, List.foldl_append]; rfl
theorem varsOf_take (l : List Atm) (k : Nat) (h : k < l.length) : varsOf (l.take (k + 1)) = addTerms (varsOf (l.take k)) l[k].vals := by
  unfold varsOf; rw [List.take_succ_eq_append_getElem h, List.foldl_append]; rfl
theorem addVar_len (out : List Int) (t : Int) : (addVar out t).length ≤ out.length + 1 := by
  unfold addVar; split
  · exact putI_len out t
  · omega
theorem addTerms_len (out : List Int) (vs : List Int) : (addTerms out vs).length ≤ out.length + vs.length := by
  induction vs generalizing out with
  | nil => simp [addTerms]
  | cons a t ih =>
    have h1 := ih (addVar out a)
    have h2 := addVar_len out a
    simp only [addTerms, List.foldl_cons, List.length_cons] at h1 ⊢
    omega
theorem varsFold_len (o : List Int) (l : List Atm) : (l.foldl (fun o a => addTerms o a.vals) o).length ≤ o.length + avalsLen l := by
  induction l generalizing o with
  | nil => simp [avalsLen]
  | cons a t ih =>
    have h1 := ih (addTerms o a.vals)
    have h2 := addTerms_len o a.vals
    simp only [List.foldl_cons, avalsLen] at h1 ⊢
    omega
theorem varsOf_len (l : List Atm) : (varsOf l).length ≤ avalsLen l := by
  have := varsFold_len [] l
  unfold varsOf
  simpa using this

/-- the first k are as p asks -/
def AllTo {α : Type} (p : α → Bool) (l : List α) (k : Nat) : Prop := (l.take k).all p = true
theorem AllTo.zero {α : Type} (p : α → Bool) (l : List α) : AllTo p l 0 := rfl
theorem AllTo.next {α : Type} {p : α → Bool} {l : List α} {k : Nat} (h : AllTo p l k) (hk : k < l.length) (hp : p l[k] = true) : AllTo p l (k + 1) := by
  unfold AllTo at *
  rw [List.take_succ_eq_append_getElem hk, List.all_append, h]; simp [hp]
theorem AllTo.full {α : Type} {p : α → Bool} {l : List α} (h : AllTo p l l.length) : l.all p = true := by
  unfold AllTo at h; rwa [List.take_of_length_le (Nat.le_refl _)] at h
def atomB (l : List Rel) (a : Atm) : Bool := atomOk l a.rel a.vals
def srcAt (l : List Rel) (r : Int) : Bool := (l.getD r.toNat zeroRel).source
def headB (l : List Rel) (a : Atm) : Bool := atomB l a && !(srcAt l a.rel)
/-- a dependency is valid over the schema -/
def depOk (l : List Rel) (x : Dep) : Bool :=
  inB (x.body.length : Nat) 1 2 && (x.body.all (atomB l) && (if x.egd then ((x.head.length : Nat) : Int) == 0 && (decide (x.left ∈ varsOf x.body) && (decide (x.right ∈ varsOf x.body) && decide (x.left < x.right)))
    else x.head.all (headB l) && (inB (x.head.length : Nat) 1 2 && ((x.left == 0) && (x.right == 0)))))

theorem implIsValidTerm_at (t : Int) (q : Bool) (hq : validT t = q) (w : World) :
    Calls Try.prog 112 #[.int .i64 t] w fun e w' => e = .returned (.bool q) ∧ w = w' := by
  subst hq
  by_cases h1 : -10 ≤ t
  · have hd1 : decide (-10 ≤ t) = true := decide_eq_true h1
    have HV := Lib.hid (show decide (t < 5) = validT t by unfold validT inB; rw [decide_eq_decide]; omega)
    clear h1
    go_enter Try.func112, Try.ntmps112
    go_wp2
    go_ret
    exact ⟨ret_bool HV.out, rfl⟩
  · have hd1 : decide (-10 ≤ t) = false := decide_eq_false h1
    have HV := Lib.hid (show validT t = false by unfold validT inB; exact decide_eq_false (by omega))
    clear h1
    go_enter Try.func112, Try.ntmps112
    go_wp2
    go_ret
    exact ⟨ret_bool HV.out.symm, rfl⟩
theorem implIsVariable_any (t : Int) (w : World) :
    Calls Try.prog 83 #[.int .i64 t] w fun e w' => e = .returned (.bool (decide (0 ≤ t))) ∧ w = w' := by
  go_enter Try.func83, Try.ntmps83
  go_wp2
  go_ret
  exact ⟨rfl, rfl⟩

theorem take_eq_next {α : Type} (l m : List α) (k : Nat) (h : k < l.length) (h' : k < m.length) (he : l[k] = m[k]) (ht : l.take k = m.take k) : l.take (k + 1) = m.take (k + 1) := by
  rw [List.take_succ_eq_append_getElem h, List.take_succ_eq_append_getElem h', ht, he]
theorem take_eq_not {α : Type} (l m : List α) (k : Nat) (h : k < l.length) (h' : k < m.length) (he : ¬ l[k] = m[k]) : ¬ l = m := by
  rintro rfl; exact he rfl
instance : DecidableEq Rel := fun a b => by
  cases a; cases b; rw [Rel.mk.injEq]; exact inferInstance

/-- append of many elements, read from a slice; of these alone it is asked that each cell be one cell -/
theorem wp_own_appsM {P : Program} {α : Type} (f : α → List Value) (k bytes : Nat) (hf : ∀ x, (f x).length = k) {ops : Array Oper} {rest : List Oper} {o : Oper} {a : Act} {Q : Exit → Act → World → Prop} {B : Nat} {v : Value} {l r : List α} {w : World} {e t : TypeId} {z : Value}
    (hone : ∀ x ∈ r, ∀ u ∈ f x, u.oneCell' = true) (ht : P.underlying t = some (.slice e)) (hinfo : (P.info? e).map (fun i => (i.zero, i.size, i.bytes)) = some (some z, k, bytes)) (hzs : z.cells.size = k) (hk : 0 < k)
    (hO : w.ownsRow B e k v l.length (l.flatMap f)) (hgd : o.guard = none) (s x : Operand) (ho : o.op = .call { callee := .builtin .append, args := #[s, x], argTypes := #[t, t] }) (hs : a.eval s = v) (b off m c : Nat) (hx : a.eval x = .slice (some ⟨b, off, none⟩) m c) (hm : r.length = m) (hr : ∀ j u, (r.flatMap f)[j]? = some u → w.cell? ⟨b, off + j, none⟩ = some u)
    (hlen : (l.length + r.length) * bytes ≤ 140737488355328) (hl2 : l.length + r.length < 140737488355328) (hbase : B ≤ w.heap.size)
    (h : ∀ v' w', w'.ownsRow B e k v' (l ++ r).length ((l ++ r).flatMap f) → Below B w w' → w.grownBy w' v.ownBlock → (v'.ownBlock = v.ownBlock ∨ v'.ownBlock = some w.heap.size) → wpList P ops Q rest (a.put o.dst v') w') :
    wpList P ops Q (o :: rest) a w := by
  subst hm
  obtain ⟨i0, hi, hz0, hz1, hz2⟩ := info_parts hinfo
  have hcell : ∀ j u, (r.flatMap f)[j]? = some u → w.cell? ((⟨b, off, none⟩ : Addr).add j) = some u := by
    intro j u hu
    have e1 : (⟨b, off, none⟩ : Addr).add j = ⟨b, off + j, none⟩ := by unfold Addr.add; split <;> simp_all
    rw [e1]; exact hr j u hu
  refine wpList_append_own_at _ hgd s x t ho B e i0 z k bytes ht hi hz0 hz1 hz2 hzs hk v l.length (l.flatMap f) hs hO ⟨b, off, none⟩ r.length c (r.flatMap f) hx (flat_len f k hf r) hcell (fun u hu => by obtain ⟨y, hy1, hy⟩ := List.mem_flatMap.1 hu; exact hone y hy1 u hy) (by unfold maxLen; omega) hlen hbase ?_
  intro v' w' h2 h3 _ h5
  refine h v' w' ?_ ((Below.refl B w).grown h3 hbase (fun g hg => (hO.lt g hg).1)) h3 h5
  rw [List.length_append, List.flatMap_append]
  exact h2

end Go.Proofs.Ytoapphgahmofhaa
