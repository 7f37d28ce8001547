/-
  Walks and plain lemmas for the laws of this seat: what single Go functions return, for every argument.
-/
import Derived.Laws.IdiomCopy
import Derived.Test.YtakflmaeclneiaaGreatMem
import Derived.Test.YtakflmaeclneiaaGreatInts
import Derived.Test.YtakflmaeclneiaaGreatMInst
namespace Go.Proofs.YtakflmaeclneiaaGreat
open Go.RowKit

/-- a row of the call's own, cut -/
theorem ownsRow_cut {w : World} {B k g n cap i : Nat} {e : TypeId} {xs : List Value} (h : w.ownsRow B e k (.slice (some ⟨g, 0, none⟩) n cap) n xs) (hi : i ≤ n) : w.ownsRow B e k (.slice (some ⟨g, 0, none⟩) i cap) i (xs.take (i * k)) := by
  rcases h.2 with ⟨h', _⟩ | ⟨g', cap', cur, h', hb, hg, hnc, hcm, hcs, ht⟩
  · cases h'
  · injection h' with e1 _ e3
    injection e1 with e1
    injection e1 with e1
    subst e1 e3
    have hle : i * k ≤ n * k := Nat.mul_le_mul_right k hi
    refine ⟨by rw [List.length_take, h.1]; omega, .inr ⟨g, cap, cur, rfl, hb, hg, by omega, hcm, hcs, ?_⟩⟩
    rw [← ht, List.take_take, Nat.min_eq_left hle]
/-- several cells of the row set -/
theorem ownsRow_setCells {B k g n cap : Nat} {e : TypeId} (us : List Value) (o : Nat) : ∀ {w : World} {xs : List Value}, w.ownsRow B e k (.slice (some ⟨g, 0, none⟩) n cap) n xs → (w.setCells g o us).ownsRow B e k (.slice (some ⟨g, 0, none⟩) n cap) n (setMany xs o us) := by
  induction us generalizing o with
  | nil => intro w xs h; exact h
  | cons u us ih => intro w xs h; exact ih (o + 1) (World.ownsRow.stored h o u).1
theorem setMany_take (xs : List Value) (o : Nat) (us : List Value) : (setMany xs o us).take o = xs.take o := by
  have key : ∀ (us : List Value) (xs : List Value) (o m : Nat), m ≤ o → (setMany xs o us).take m = xs.take m := by
    intro us
    induction us with
    | nil => intro xs o m h; rfl
    | cons u us ih =>
      intro xs o m h
      show (setMany (xs.set o u) (o + 1) us).take m = _
      rw [ih _ _ _ (by omega), List.take_set_of_le h]
  exact key us xs o o (Nat.le_refl _)
theorem chg_setCells {g : Nat} (us : List Value) (o : Nat) : ∀ (w : World), Chg (fun q => q = g) w (w.setCells g o us) := by
  induction us generalizing o with
  | nil => intro w; exact Chg.refl _ _
  | cons u us ih => intro w; exact ((Chg.refl (fun q => q = g) w).setCell (p := ⟨g, o, none⟩) rfl u).trans (ih (o + 1) _)

/-- what a row holds ahead of element j: those that stay, then as it was -/
def rowK {α : Type} (p : α → Bool) (l : List α) (j : Nat) : List α := keepN p (l.take j) ++ l.drop (keepN p (l.take j)).length
theorem keepK_le {α : Type} (p : α → Bool) (l : List α) (j : Nat) : (keepN p (l.take j)).length ≤ l.length ∧ (keepN p (l.take j)).length ≤ j := by
  have h := keepN_len p (l.take j)
  rw [List.length_take] at h; omega
theorem rowK_len {α : Type} (p : α → Bool) (l : List α) (j : Nat) : (rowK p l j).length = l.length := by
  have := keepK_le p l j
  unfold rowK
  rw [List.length_append, List.length_drop]; omega
theorem rowK_get {α : Type} (p : α → Bool) (l : List α) (j k : Nat) (h : j ≤ k) (hk : k < l.length) : (rowK p l j)[k]'(by rw [rowK_len]; exact hk) = l[k] := by
  have := keepK_le p l j
  unfold rowK
  rw [List.getElem_append_right (by omega), List.getElem_drop]
  congr 1; omega
theorem rowK_drop {α : Type} (p : α → Bool) (l : List α) (j : Nat) (hj : j < l.length) (h : p l[j] = true) : rowK p l (j + 1) = rowK p l j ∧ (keepN p (l.take (j + 1))).length = (keepN p (l.take j)).length := by
  have e : keepN p (l.take (j + 1)) = keepN p (l.take j) := by rw [keepN_take j hj, if_pos h, List.append_nil]
  unfold rowK; rw [e]; exact ⟨rfl, rfl⟩
theorem rowK_keep {α : Type} (p : α → Bool) (l : List α) (j : Nat) (hj : j < l.length) (h : p l[j] = false) : rowK p l (j + 1) = (rowK p l j).set (keepN p (l.take j)).length l[j] ∧ (keepN p (l.take (j + 1))).length = (keepN p (l.take j)).length + 1 := by
  have e : keepN p (l.take (j + 1)) = keepN p (l.take j) ++ [l[j]] := by rw [keepN_take j hj, if_neg (by rw [h]; simp)]
  have hl := keepK_le p l j
  unfold rowK; rw [e]
  refine ⟨?_, by simp⟩
  rw [List.set_append_right _ _ (Nat.le_refl _), Nat.sub_self, List.drop_eq_getElem_cons (show (keepN p (l.take j)).length < l.length by omega), List.set_cons_zero, List.length_append, List.length_singleton, List.append_assoc]
  rfl
theorem keepK_lt {α : Type} {p : α → Bool} {l : List α} (h : l.any p = true) : (keepN p l).length < l.length := by
  induction l with
  | nil => simp at h
  | cons y t ih =>
    have hle := keepN_len p t
    unfold keepN at *
    cases hy : p y with
    | true => rw [List.filter_cons_of_neg (by simp [hy]), List.length_cons]; omega
    | false =>
      rw [List.any_cons, hy, Bool.false_or] at h
      have := ih h
      rw [List.filter_cons_of_pos (by simp [hy]), List.length_cons, List.length_cons]; omega
/-- the row's tail set to zero -/
def zeroTail (l : List Int) (i : Nat) : List Int := l.take i ++ List.replicate (l.length - i) 0
theorem zeroInt_val : ∀ w, (zeroValue 3).run Tryz.prog w = .ok (.int .i64 0) w := by
  intro w
  obtain ⟨i0, hi, hz0, hz1, hz2⟩ := info_parts infoInt
  simp [zeroValue, typeInfo, hi, hz0]
theorem zeroCells_int (n : Nat) : (Builtin.zeroCells #[.int .i64 0] n).toList = List.replicate n (Value.int .i64 0) := by
  apply List.ext_getElem?
  intro i
  by_cases hi : i < n
  · simp [Builtin.zeroCells, hi, Nat.mod_one]
  · rw [List.getElem?_eq_none (by simp [Builtin.zeroCells]; omega), List.getElem?_eq_none (by simp; omega)]
/-- 'clear' on the tail of a row of ints -/
theorem run_clear_ints {P : Program} {w : World} {t e ty : TypeId} (ht : P.underlying t = some (.slice e)) (hv : ∀ w, (zeroValue e).run P w = .ok (.int .i64 0) w) (g o n c : Nat) (hn : 0 < n)
    (hc : ∀ j, j < n → (w.cell? ⟨g, o + j, none⟩).isSome = true) (hf : ∀ j, w.frozen? ⟨g, j, none⟩ = false) :
    (Builtin.clear_ #[t] ty #[.slice (some ⟨g, o, none⟩) n c]).run P w = .ok (.tuple #[]) (w.setCells g o (List.replicate n (.int .i64 0))) := by
  have hst := run_storeCells_cells (P := P) g o (List.replicate n (Value.int .i64 0)) 0 w (by simpa using hc) (fun j _ => hf _) (by
    intro v hv'
    rw [List.eq_of_mem_replicate hv']; rfl)
  simp only [Nat.add_zero] at hst
  have hz : (Value.int .i64 0).cells = #[.int .i64 0] := rfl
  obtain ⟨m, rfl⟩ : ∃ m, n = m + 1 := ⟨n - 1, by omega⟩
  simp [Builtin.clear_, run_underlying ht, hv, hz, zeroCells_int, hst]

end Go.Proofs.YtakflmaeclneiaaGreat
