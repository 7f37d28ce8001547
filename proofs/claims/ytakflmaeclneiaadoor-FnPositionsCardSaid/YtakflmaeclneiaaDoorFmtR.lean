/-
  Walks and plain lemmas for the laws of this seat: what single Go functions return, for every argument.
-/
import Derived.Lib.Join
import Derived.Test.YtakflmaeclneiaaDoorBase
import Derived.Test.YtakflmaeclneiaaDoorFmt
import Derived.Test.YtakflmaeclneiaaDoorRels
import Derived.Test.YtakflmaeclneiaaDoorAft
import Derived.Test.YtakflmaeclneiaaDoorFmtV
namespace Go.Proofs.YtakflmaeclneiaaDoor
open Go.RowKit

def fmtRel (r : Rel) : List UInt8 := (if r.source then [43] else []) ++ (r.name.data.toList ++ Lib.itoa r.arity)
def joinRels (l : List Rel) : List UInt8 := Lib.join (l.map fmtRel) [32]
def fmtRels (l : List Rel) : List UInt8 := if validRels l then joinRels l else []
theorem fmtRels_no (l : List Rel) (h : validRels l = false) : fmtRels l = [] := by unfold fmtRels; rw [h]; rfl
theorem fmtRels_yes (l : List Rel) (h : validRels l = true) : fmtRels l = joinRels l := by unfold fmtRels; rw [h]; rfl
theorem joinRels_zero (l : List Rel) : joinRels (l.take 0) = [] := rfl
theorem joinRels_one (l : List Rel) (h : 0 < l.length) : joinRels (l.take 1) = fmtRel l[0] := by
  unfold joinRels
  cases l with
  | nil => simp at h
  | cons r t => simp [Lib.join_one]
theorem joinRels_succ (l : List Rel) (k : Nat) (h0 : 0 < k) (h : k < l.length) : joinRels (l.take (k + 1)) = joinRels (l.take k) ++ ([32] ++ fmtRel l[k]) := by
  unfold joinRels
  cases l with
  | nil => simp at h
  | cons r t =>
    obtain ⟨j, rfl⟩ : ∃ j, k = j + 1 := ⟨k - 1, by omega⟩
    rw [List.take_succ_cons, List.take_succ_cons, List.map_cons, List.map_cons, Lib.join_cons, Lib.join_cons, List.map_take, List.map_take]
    have hj : j < t.length := by simpa using h
    rw [Lib.joinTail_take_succ [32] (t.map fmtRel) j (fmtRel t[j]) (by simp [hj])]
    simp
/-- what a valid schema says of its relations -/
theorem validRels_len (l : List Rel) (h : validRels l = true) : l.length ≤ 6 := by
  unfold validRels at h; simp only [Bool.and_eq_true, decide_eq_true_eq] at h; exact h.2
theorem itoa_le2 (a : Int) (h0 : 0 ≤ a) (h : a < 100) : (Lib.itoa a).length ≤ 2 := by
  obtain ⟨u, rfl⟩ := Int.eq_ofNat_of_zero_le h0
  exact itoa_short u (by omega)
theorem fmtRel_len (r : Rel) (h : relOk r.name r.arity = true) : (fmtRel r).length ≤ 4 := by
  obtain ⟨h1, h2, h3⟩ := relOk_bd _ _ h
  have h4 := itoa_le2 r.arity (by omega) (by omega)
  have h5 : r.name.data.toList.length = 1 := by simpa using h1
  unfold fmtRel
  rw [List.length_append, List.length_append, h5]
  split <;> simp <;> omega
theorem joinRels_len (l : List Rel) (h : validRels l = true) (k : Nat) (hk : k ≤ l.length) : (joinRels (l.take k)).length ≤ 5 * k := by
  induction k with
  | zero => exact Nat.le_of_eq (congrArg List.length (joinRels_zero l))
  | succ k ih =>
    have h1 := fmtRel_len l[k] (validRels_at l h k (by omega))
    rcases Nat.eq_zero_or_pos k with h0 | h0
    · subst h0; rw [joinRels_one l (by omega)]; omega
    · rw [joinRels_succ l k h0 (by omega)]
      have := ih (by omega)
      simp only [List.length_append, List.length_cons, List.length_nil]; omega
theorem mk_self (s : ByteArray) : s = ⟨s.data.toList.toArray⟩ := by simp
/-- the text of the first k + 1 relations, as the loop builds it -/
theorem joinStep (l : List Rel) (k : Nat) (h : k < l.length) (p : ByteArray) (hp : p.data.toList = (if k = 0 then [] else [32]) ++ (if l[k].source then [43] else [])) :
    (((⟨(joinRels (l.take k)).toArray⟩ : ByteArray) ++ p) ++ l[k].name) ++ ⟨(Lib.itoa l[k].arity).toArray⟩ = ⟨(joinRels (l.take (k + 1))).toArray⟩ := by
  apply bytes_ext
  rcases Nat.eq_zero_or_pos k with h0 | h0
  · subst h0
    rw [joinRels_one l h]
    simp [hp, fmtRel, ByteArray.data_append]
    rfl
  · rw [joinRels_succ l k h0 h]
    simp [hp, fmtRel, ByteArray.data_append, show k ≠ 0 by omega]
theorem fmtRels_len (l : List Rel) : (fmtRels l).length ≤ 30 := by
  cases h : validRels l with
  | false => rw [fmtRels_no l h]; simp
  | true =>
    rw [fmtRels_yes l h]
    have h1 := joinRels_len l h l.length (Nat.le_refl _)
    rw [List.take_length] at h1
    have := validRels_len l h
    omega

/-- the position's relation and column, those ahead of it taken off -/
def posGo (l : List Rel) (p : Int) : Option (Rel × Int) := match l with
  | [] => none
  | r :: t => if p < r.arity then some (r, p) else posGo t (p - r.arity)
theorem posGo_drop (l : List Rel) (k : Nat) (p : Int) (h : ∀ j, j ≤ k → arSum (l.take j) ≤ p) : posGo l p = posGo (l.drop k) (p - arSum (l.take k)) := by
  induction k with
  | zero => simp [arSum]
  | succ k ih =>
    rw [ih fun j hj => h j (by omega)]
    by_cases hk : k < l.length
    · rw [List.drop_eq_getElem_cons hk, posGo, if_neg (by have := h (k + 1) (Nat.le_refl _); rw [arSum_take l k hk] at this; omega), arSum_take l k hk, Int.sub_sub]
    · rw [List.drop_of_length_le (by omega), List.drop_of_length_le (by omega), List.take_of_length_le (by omega), List.take_of_length_le (by omega)]
theorem posGo_hit (l : List Rel) (k : Nat) (hk : k < l.length) (p : Int) (h : ∀ j, j ≤ k → arSum (l.take j) ≤ p) (h2 : p - arSum (l.take k) < l[k].arity) : posGo l p = some (l[k], p - arSum (l.take k)) := by
  rw [posGo_drop l k p h, List.drop_eq_getElem_cons hk, posGo, if_pos h2]
theorem posGo_none (l : List Rel) (p : Int) (h : ∀ j, j ≤ l.length → arSum (l.take j) ≤ p) : posGo l p = none := by
  rw [posGo_drop l l.length p h, List.drop_length]; rfl
/-- the relation and the column of position p -/
def posOf? (l : List Rel) (p : Int) : Option (Rel × Int) := if validRels l = true ∧ 0 ≤ p then posGo l p else none
theorem posOf_bad {l : List Rel} {p : Int} (h : ¬(validRels l = true ∧ 0 ≤ p)) : posOf? l p = none := if_neg h
theorem posOf_go {l : List Rel} {p : Int} (h : validRels l = true) (h0 : 0 ≤ p) : posOf? l p = posGo l p := if_pos ⟨h, h0⟩
/-- the sums do not fall -/
theorem arSum_mono {l : List Rel} (h : validRels l = true) (i j : Nat) (hij : i ≤ j) : arSum (l.take i) ≤ arSum (l.take j) := by
  have h1 := arSum_split (l.take j) i
  rw [List.take_take, Nat.min_eq_left hij] at h1
  have h2 := arSum_bd ((l.take j).drop i) fun x hx => validRels_ar h x (List.mem_of_mem_take (List.mem_of_mem_drop hx))
  omega
theorem posOf_hit {l : List Rel} {p : Int} (h : validRels l = true) (k : Nat) (hk : k < l.length) (h1 : arSum (l.take k) ≤ p) (h0 : 0 ≤ p) (h2 : p < arSum (l.take k) + l[k].arity) : posOf? l p = some (l[k], p - arSum (l.take k)) := by
  rw [posOf_go h h0]
  exact posGo_hit l k hk p (fun j hj => by have := arSum_mono h j k hj; omega) (by omega)
theorem posOf_end {l : List Rel} {p : Int} (h : validRels l = true) (h0 : 0 ≤ p) (h1 : arSum l ≤ p) : posOf? l p = none := by
  rw [posOf_go h h0]
  refine posGo_none l p fun j hj => ?_
  have := arSum_mono h j l.length hj
  rw [List.take_length] at this; omega
theorem posOf_far {l : List Rel} {p : Int} (h : ¬(0 ≤ p ∧ p < posCnt l)) : posOf? l p = none := by
  by_cases hb : validRels l = true ∧ 0 ≤ p
  · rw [posCnt_yes hb.1] at h
    exact posOf_end hb.1 hb.2 (by omega)
  · exact posOf_bad hb
/-- no relation before k has the position in it: it lies behind them -/
theorem pos_behind {l : List Rel} {p : Int} (h : validRels l = true) (_ : 0 ≤ p) (k : Nat) (hk : k < l.length) (h1 : arSum (l.take k) ≤ p) (hn : ∀ i : Nat, i < 3 → posIx l k i ≠ p) : arSum (l.take (k + 1)) ≤ p := by
  rw [arSum_take l k hk]
  by_cases hlt : p < arSum (l.take k) + l[k].arity
  · have hb := validRels_ar h _ (List.getElem_mem hk)
    have := hn (p - arSum (l.take k)).toNat (by omega)
    rw [posIx_yes ⟨h, by omega, by omega, by rw [arityAt_in (by simpa using hk)]; simp only [Int.toNat_natCast]; omega⟩] at this
    exfalso; apply this
    simp only [Int.toNat_natCast]; omega
  · omega
/-- position p is column i of relation k -/
theorem pos_at {l : List Rel} {p : Int} (k i : Nat) (hk : k < l.length) (h0 : 0 ≤ p) (h : posIx l k i = p) : validRels l = true ∧ posOf? l p = some (l[k], (i : Int)) := by
  have hp := (posIx_lt (l := l) (r := k) (i := i) (by omega)).1
  have e := posIx_yes hp
  simp only [Int.toNat_natCast] at e
  have h2 := hp.2.2
  rw [arityAt_in (by simpa using hk)] at h2
  simp only [Int.toNat_natCast] at h2
  refine ⟨hp.1, ?_⟩
  rw [posOf_hit hp.1 k hk (by omega) h0 (by omega)]
  congr 2; omega

def fmtPosS (l : List Rel) (p : Int) : ByteArray := match posOf? l p with
  | none => ⟨#[]⟩
  | some x => x.1.name ++ ⟨(Lib.itoa x.2).toArray⟩
theorem fmtPosS_none {l : List Rel} {p : Int} (h : posOf? l p = none) : fmtPosS l p = ⟨#[]⟩ := by unfold fmtPosS; rw [h]
theorem fmtPosS_some {l : List Rel} {p : Int} {r : Rel} {i : Int} (h : posOf? l p = some (r, i)) : fmtPosS l p = r.name ++ ⟨(Lib.itoa i).toArray⟩ := by unfold fmtPosS; rw [h]
/-- no column of the first k relations is position p -/
def NoPos (l : List Rel) (p : Int) (k : Nat) : Prop := ∀ r i : Nat, r < k → i < 3 → posIx l r i ≠ p
theorem NoPos.zero (l : List Rel) (p : Int) : NoPos l p 0 := fun _ _ h => absurd h (by omega)
theorem NoPos.next {l : List Rel} {p : Int} {k : Nat} (h : NoPos l p k) (hn : ∀ i : Nat, i < 3 → posIx l k i ≠ p) : NoPos l p (k + 1) := fun r i hr hi => by
  by_cases e : r = k
  · subst e; exact hn i hi
  · exact h r i (by omega) hi
theorem posOf_no {l : List Rel} {p : Int} (h : 0 ≤ p → NoPos l p l.length) : posOf? l p = none := by
  by_cases hb : validRels l = true ∧ 0 ≤ p
  · have hn := h hb.2
    have key : ∀ k, k ≤ l.length → arSum (l.take k) ≤ p := by
      intro k
      induction k with
      | zero => intro _; simpa [arSum] using hb.2
      | succ k ih => intro hk; exact pos_behind hb.1 hb.2 k (by omega) (ih (by omega)) fun i hi => hn k i (by omega) hi
    have h2 := key l.length (Nat.le_refl _)
    rw [List.take_length] at h2
    exact posOf_end hb.1 hb.2 h2
  · exact posOf_bad hb

end Go.Proofs.YtakflmaeclneiaaDoor
