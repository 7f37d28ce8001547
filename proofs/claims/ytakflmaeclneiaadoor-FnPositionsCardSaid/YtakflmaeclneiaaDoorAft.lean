/-
  Walks and plain lemmas for the laws of this seat: what single Go functions return, for every argument.
-/
import Derived.Test.YtakflmaeclneiaaDoorBase
import Derived.Test.YtakflmaeclneiaaDoorMem
import Derived.Test.YtakflmaeclneiaaDoorRels
import Derived.Test.YtakflmaeclneiaaDoorDraw
import Derived.Test.YtakflmaeclneiaaDoorPlan
namespace Go.Proofs.YtakflmaeclneiaaDoor
open Go.RowKit

theorem SliceAt.aft {α : Type} {f : α → List Value} {w0 W : World} {v : Value} {l : List α} (h : SliceAt f w0 w0.heap.size v l) (hb : Below w0.heap.size w0 W) (u : Aft W.heap.size W) : SliceAt f u.now u.now.heap.size v l :=
  (h.below (hb.trans (u.is.mono hb.size)) (Nat.le_refl _)).more (hb.trans (u.is.mono hb.size)).size

/-- append of many elements, read from a slice; of these alone it is asked that each cell be one cell -/
theorem wp_own_appsM {P : Program} {α : Type} (f : α → List Value) (k bytes : Nat) (hf : ∀ x, (f x).length = k) {ops : Array Oper} {rest : List Oper} {o : Oper} {a : Act} {Q : Exit → Act → World → Prop} {B : Nat} {v : Value} {l r : List α} {w : World} {e t : TypeId} {z : Value}
    (hone : ∀ x ∈ r, ∀ u ∈ f x, u.oneCell' = true) (ht : P.underlying t = some (.slice e)) (hinfo : (P.info? e).map (fun i => (i.zero, i.size, i.bytes)) = some (some z, k, bytes)) (hzs : z.cells.size = k) (hk : 0 < k)
    (hO : w.ownsRow B e k v l.length (l.flatMap f)) (hgd : o.guard = none) (s x : Operand) (ho : o.op = .call { callee := .builtin .append, args := #[s, x], argTypes := #[t, t] }) (hs : a.eval s = v) (b off m c : Nat) (hx : a.eval x = .slice (some ⟨b, off, none⟩) m c) (hm : r.length = m) (hr : ∀ j u, (r.flatMap f)[j]? = some u → w.cell? ⟨b, off + j, none⟩ = some u)
    (hlen : (l.length + r.length) * bytes ≤ 140737488355328) (hl2 : l.length + r.length < 140737488355328) (hbase : B ≤ w.heap.size)
    (h : ∀ v' w', w'.ownsRow B e k v' (l ++ r).length ((l ++ r).flatMap f) → Below B w w' → w.grownBy w' v.ownBlock → (v'.ownBlock = v.ownBlock ∨ v'.ownBlock = some w.heap.size) → wpList P ops Q rest (a.put o.dst v') w') :
    wpList P ops Q (o :: rest) a w := by
  subst hm
  obtain ⟨i0, hi, hz0, hz1, hz2⟩ := info_parts hinfo
  have hcell : ∀ j u, (r.flatMap f)[j]? = some u → w.cell? ((⟨b, off, none⟩ : Addr).add j) = some u := by
    intro j u hu
    have e1 : (⟨b, off, none⟩ : Addr).add j = ⟨b, off + j, none⟩ := by unfold Addr.add; split <;> simp_all
    rw [e1]; exact hr j u hu
  refine wpList_append_own_at _ hgd s x t ho B e i0 z k bytes ht hi hz0 hz1 hz2 hzs hk v l.length (l.flatMap f) hs hO ⟨b, off, none⟩ r.length c (r.flatMap f) hx (flat_len f k hf r) hcell (fun u hu => by obtain ⟨y, hy1, hy⟩ := List.mem_flatMap.1 hu; exact hone y hy1 u hy) (by unfold maxLen; omega) hlen hbase ?_
  intro v' w' h2 h3 _ h5
  refine h v' w' ?_ ((Below.refl B w).grown h3 hbase (fun g hg => (hO.lt g hg).1)) h3 h5
  rw [List.length_append, List.flatMap_append]
  exact h2

theorem chg_of_grown {p : Nat} {w w' : World} (hg : w.grownBy w' (some p)) : Chg (Mid p (p + 1)) w w' :=
  ⟨hg.os, hg.tape, hg.output, hg.size, fun k hk hn => hg.block k hk (by intro e; injection e with e; exact hn ⟨by omega, by omega⟩)⟩

/-- the columns of relations, counted -/
def arSum : List Rel → Int
  | [] => 0
  | r :: t => r.arity + arSum t
theorem arSum_append (l m : List Rel) : arSum (l ++ m) = arSum l + arSum m := by
  induction l with
  | nil => simp [arSum]
  | cons a t ih => simp only [List.cons_append, arSum, ih]; omega
theorem arSum_take (l : List Rel) (k : Nat) (h : k < l.length) : arSum (l.take (k + 1)) = arSum (l.take k) + l[k].arity := by
  rw [List.take_succ_eq_append_getElem h, arSum_append]; simp [arSum]
theorem arSum_bd (l : List Rel) (h : ∀ r ∈ l, 1 ≤ r.arity ∧ r.arity ≤ 3) : 0 ≤ arSum l ∧ arSum l ≤ 3 * (l.length : Int) := by
  induction l with
  | nil => simp [arSum]
  | cons a t ih =>
    have h1 := h a (by simp)
    have h2 := ih fun r hr => h r (by simp [hr])
    simp only [arSum, List.length_cons]; omega
theorem vrels_len {l : List Rel} (h : validRels l = true) : l.length ≤ 6 := by
  unfold validRels at h
  simp only [Bool.and_eq_true, decide_eq_true_eq] at h
  exact h.2
theorem validRels_ar {l : List Rel} (h : validRels l = true) : ∀ r ∈ l, 1 ≤ r.arity ∧ r.arity ≤ 3 := by
  intro r hr
  obtain ⟨i, hi, rfl⟩ := List.getElem_of_mem hr
  exact (relOk_bd _ _ (validRels_at l h i hi)).2
theorem arSum_small {l : List Rel} (h : validRels l = true) (k : Nat) : 0 ≤ arSum (l.take k) ∧ arSum (l.take k) ≤ 18 := by
  have h1 := arSum_bd (l.take k) fun r hr => validRels_ar h r (List.mem_of_mem_take hr)
  have h2 := vrels_len h
  have h3 : (l.take k).length ≤ l.length := by rw [List.length_take]; omega
  omega
theorem arSum_all {l : List Rel} (h : validRels l = true) : 0 ≤ arSum l ∧ arSum l ≤ 18 := by
  have := arSum_small h l.length
  rwa [List.take_length] at this
theorem okAt_take (l : List Rel) (k i : Nat) (h : i < k) : okAt (l.take k) i = okAt l i := by
  have g (j : Nat) (hj : j < k) : (l.take k).getD j zeroRel = l.getD j zeroRel := by
    rw [List.getD_eq_getElem?_getD, List.getD_eq_getElem?_getD, List.getElem?_take, if_pos hj]
  unfold okAt
  rw [g i h, g (i - 1) (by omega)]
theorem validRels_take {l : List Rel} (h : validRels l = true) (k : Nat) (hk : k ≤ l.length) : validRels (l.take k) = true := by
  have hl := vrels_len h
  unfold validRels at h ⊢
  simp only [Bool.and_eq_true, decide_eq_true_eq] at h ⊢
  rw [List.length_take, Nat.min_eq_left hk]
  refine ⟨?_, by omega⟩
  unfold okTo at h ⊢
  rw [List.all_eq_true] at h ⊢
  intro i hi
  have hik := List.mem_range.1 hi
  rw [okAt_take l k i hik]
  exact h.1 i (List.mem_range.2 (by omega))
def PosIn (l : List Rel) (r i : Int) : Prop := validRels l = true ∧ (0 ≤ r ∧ r < l.length) ∧ (0 ≤ i ∧ i < arityAt l r)
instance (l : List Rel) (r i : Int) : Decidable (PosIn l r i) := by unfold PosIn; exact inferInstance
/-- the number of a position, -1 where there is none -/
def posIx (l : List Rel) (r i : Int) : Int := if PosIn l r i then arSum (l.take r.toNat) + i else -1
theorem posIx_yes {l : List Rel} {r i : Int} (h : PosIn l r i) : posIx l r i = arSum (l.take r.toNat) + i := if_pos h
theorem posIx_no {l : List Rel} {r i : Int} (h : ¬ PosIn l r i) : posIx l r i = -1 := if_neg h
theorem posIx_rels {l : List Rel} {r i : Int} (h : validRels l = false) : posIx l r i = -1 := posIx_no fun hp => by have := hp.1; rw [h] at this; cases this
theorem posIx_rel {l : List Rel} {r i : Int} (h : ¬(0 ≤ r ∧ r < l.length)) : posIx l r i = -1 := posIx_no fun hp => h hp.2.1
theorem posIx_col {l : List Rel} {r i : Int} (h : ¬(0 ≤ i ∧ i < arityAt l r)) : posIx l r i = -1 := posIx_no fun hp => h hp.2.2
theorem arityAt_bd {l : List Rel} {r : Int} (h : validRels l = true) (h1 : 0 ≤ r ∧ r < l.length) : 1 ≤ arityAt l r ∧ arityAt l r ≤ 3 := by
  have hk : r.toNat < l.length := by omega
  rw [arityAt_in hk]
  exact validRels_ar h _ (List.getElem_mem hk)
theorem posIx_bd (l : List Rel) (r i : Int) : -1 ≤ posIx l r i ∧ posIx l r i ≤ 21 := by
  by_cases h : PosIn l r i
  · rw [posIx_yes h]
    have h1 := arSum_small h.1 r.toNat
    have h2 := arityAt_bd h.1 h.2.1
    have h3 := h.2.2
    omega
  · rw [posIx_no h]; omega
/-- how many positions there are -/
def posCnt (l : List Rel) : Int := if validRels l = true then arSum l else 0
theorem posCnt_yes {l : List Rel} (h : validRels l = true) : posCnt l = arSum l := if_pos h
theorem posCnt_no {l : List Rel} (h : validRels l = false) : posCnt l = 0 := if_neg (by rw [h]; simp)
theorem posCnt_bd (l : List Rel) : 0 ≤ posCnt l ∧ posCnt l ≤ 18 := by
  cases h : validRels l with
  | true => rw [posCnt_yes h]; exact arSum_all h
  | false => rw [posCnt_no h]; omega
theorem arSum_split (l : List Rel) (k : Nat) : arSum l = arSum (l.take k) + arSum (l.drop k) := by
  rw [← arSum_append, List.take_append_drop]
/-- a position lies among all -/
theorem posIx_lt {l : List Rel} {r i : Int} (h : 0 ≤ posIx l r i) : PosIn l r i ∧ posIx l r i < posCnt l := by
  by_cases hp : PosIn l r i
  · refine ⟨hp, ?_⟩
    rw [posIx_yes hp, posCnt_yes hp.1]
    have hk : r.toNat < l.length := by have := hp.2.1; omega
    have h1 := arSum_split l (r.toNat + 1)
    have h2 := arSum_take l r.toNat hk
    have h3 := arSum_bd (l.drop (r.toNat + 1)) fun x hx => validRels_ar hp.1 x (List.mem_of_mem_drop hx)
    have h4 := hp.2.2
    rw [arityAt_in hk] at h4
    omega
  · rw [posIx_no hp] at h; omega

end Go.Proofs.YtakflmaeclneiaaDoor
