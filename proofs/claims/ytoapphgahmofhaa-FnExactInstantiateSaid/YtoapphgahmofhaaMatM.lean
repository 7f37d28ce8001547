/-
  Walks and plain lemmas for the laws of this seat: what single Go functions return, for every argument.
-/
import Derived.Test.YtoapphgahmofhaaInts
import Derived.Test.YtoapphgahmofhaaFact
import Derived.Test.YtoapphgahmofhaaTyAtom
import Derived.Test.YtoapphgahmofhaaTyInst
namespace Go.Proofs.Ytoapphgahmofhaa
open Go.RowKit

/-- an atom's terms laid against a row of values under a binding; 10 stands for 'not bound' -/
def fitL : List Int → List Int → List Int → List Int × Bool
  | t :: ts, v :: vs, b => if t < 0 then (if -1 - t = v then fitL ts vs b else (b, false)) else if b.getD t.toNat 0 = 10 ∨ b.getD t.toNat 0 = v then fitL ts vs (b.set t.toNat v) else (b, false)
  | _, _, b => (b, true)
def fitA (a : Atm) (f : Fct) (b : List Int) : List Int × Bool := if a.rel = f.rel ∧ a.vals.length = f.vals.length then fitL a.vals f.vals b else (b, false)
theorem fitA_no {a : Atm} {f : Fct} {b : List Int} (h : ¬(a.rel = f.rel ∧ a.vals.length = f.vals.length)) : fitA a f b = (b, false) := if_neg h
theorem fitA_yes {a : Atm} {f : Fct} {b : List Int} (h1 : a.rel = f.rel) (h2 : a.vals.length = f.vals.length) : fitA a f b = fitL a.vals f.vals b := if_pos ⟨h1, h2⟩
theorem fitL_step {ts vs b : List Int} (k : Nat) (h1 : k < ts.length) (h2 : k < vs.length) : fitL (ts.drop k) (vs.drop k) b = if ts[k] < 0 then (if -1 - ts[k] = vs[k] then fitL (ts.drop (k + 1)) (vs.drop (k + 1)) b else (b, false)) else if b.getD ts[k].toNat 0 = 10 ∨ b.getD ts[k].toNat 0 = vs[k] then fitL (ts.drop (k + 1)) (vs.drop (k + 1)) (b.set ts[k].toNat vs[k]) else (b, false) := by
  rw [List.drop_eq_getElem_cons h1, List.drop_eq_getElem_cons h2, fitL]
theorem fitL_end {ts vs b : List Int} (k : Nat) (h1 : ts.length ≤ k) : fitL (ts.drop k) (vs.drop k) b = (b, true) := by
  rw [List.drop_eq_nil_of_le h1, fitL]
  intro t ts v vs h; cases h
theorem fitL_len (ts vs b : List Int) : (fitL ts vs b).1.length = b.length := by
  induction ts generalizing vs b with
  | nil => rw [fitL]; intro t ts v vs h; cases h
  | cons t ts ih =>
    cases vs with
    | nil => rw [fitL]; intro t ts v vs _ h; cases h
    | cons v vs =>
      rw [fitL]
      split
      · split
        · exact ih vs b
        · rfl
      · split
        · rw [ih vs]; simp
        · rfl
theorem fitA_len (a : Atm) (f : Fct) (b : List Int) : (fitA a f b).1.length = b.length := by
  unfold fitA
  split
  · exact fitL_len _ _ _
  · rfl
def FitInv (a : Atm) (f : Fct) (b : List Int) (Z : Nat) (E : World) (V : Value) (kv : Value) (wq : World) : Prop :=
  ∃ (k : Nat) (bk : List Int), k ≤ a.vals.length ∧ kv = .int .i64 k ∧ Hid (fitA a f b = fitL (a.vals.drop k) (f.vals.drop k) bk) ∧ Hid (bk.length = b.length) ∧ OwnInts Z V bk wq ∧ Hid (Below Z E wq)
theorem FitInv.mk' {a : Atm} {f : Fct} {b : List Int} {Z : Nat} {E : World} {V : Value} {kv : Value} {wq : World} (k : Nat) (bk : List Int) (h1 : k ≤ a.vals.length) (h2 : kv = .int .i64 k) (h3 : fitA a f b = fitL (a.vals.drop k) (f.vals.drop k) bk) (h4 : bk.length = b.length) (h5 : OwnInts Z V bk wq) (h6 : Below Z E wq) : FitInv a f b Z E V kv wq :=
  ⟨k, bk, h1, h2, Lib.hid h3, Lib.hid h4, h5, Lib.hid h6⟩

/-- the bindings that lay all atoms into the facts -/
def walkM (fs : List Fct) : List Atm → List Int → List (List Int)
  | [], b => [b]
  | a :: r, b => fs.flatMap fun f => if (fitA a f b).2 = true then walkM fs r (fitA a f b).1 else []
def walkF (fs : List Fct) (a : Atm) (r : List Atm) (b : List Int) (f : Fct) : List (List Int) := if (fitA a f b).2 = true then walkM fs r (fitA a f b).1 else []
theorem walkM_cons (fs : List Fct) (a : Atm) (r : List Atm) (b : List Int) : walkM fs (a :: r) b = fs.flatMap (walkF fs a r b) := rfl
theorem flatMap_le {α β : Type} (g : α → List β) (N : Nat) (l : List α) (h : ∀ f ∈ l, (g f).length ≤ N) : (l.flatMap g).length ≤ l.length * N := by
  induction l with
  | nil => simp
  | cons a t ih =>
    rw [List.flatMap_cons, List.length_append, List.length_cons, Nat.succ_mul]
    have h1 := h a List.mem_cons_self
    have h2 := ih (fun f hf => h f (List.mem_cons_of_mem _ hf))
    omega
theorem walkM_len (fs : List Fct) (hf : fs.length ≤ 30) (l : List Atm) (b : List Int) : (walkM fs l b).length ≤ 30 ^ l.length := by
  induction l generalizing b with
  | nil => simp [walkM]
  | cons a r ih =>
    rw [walkM_cons]
    refine Nat.le_trans (flatMap_le _ (30 ^ r.length) fs (fun f _ => ?_)) ?_
    · unfold walkF
      split
      · exact ih _
      · simp
    · rw [List.length_cons, Nat.pow_succ, Nat.mul_comm (30 ^ r.length)]
      exact Nat.mul_le_mul_right _ hf
theorem walkM_900 (fs : List Fct) (hf : fs.length ≤ 30) (l : List Atm) (hl : l.length ≤ 2) (b : List Int) : (walkM fs l b).length ≤ 900 := by
  refine Nat.le_trans (walkM_len fs hf l b) ?_
  rcases (show l.length = 0 ∨ l.length = 1 ∨ l.length = 2 by omega) with h | h | h <;> rw [h] <;> decide
theorem walkF_900 (fs : List Fct) (hf : fs.length ≤ 30) (a : Atm) (r : List Atm) (hl : r.length ≤ 2) (b : List Int) (f : Fct) : (walkF fs a r b f).length ≤ 900 := by
  unfold walkF
  split
  · exact walkM_900 fs hf r hl _
  · simp
theorem walkT_len (fs : List Fct) (hf : fs.length ≤ 30) (a : Atm) (r : List Atm) (hl : r.length ≤ 2) (b : List Int) (k : Nat) : ((fs.take k).flatMap (walkF fs a r b)).length ≤ 27000 := by
  refine Nat.le_trans (flatMap_le _ 900 _ (fun f _ => walkF_900 fs hf a r hl b f)) ?_
  have : (fs.take k).length ≤ 30 := by rw [List.length_take]; omega
  omega
theorem walkT_next (fs : List Fct) (a : Atm) (r : List Atm) (b : List Int) (k : Nat) (hk : k < fs.length) : (fs.take (k + 1)).flatMap (walkF fs a r b) = (fs.take k).flatMap (walkF fs a r b) ++ walkF fs a r b fs[k] := by
  rw [List.take_succ_eq_append_getElem hk, List.flatMap_append, List.flatMap_cons, List.flatMap_nil, List.append_nil]

end Go.Proofs.Ytoapphgahmofhaa
