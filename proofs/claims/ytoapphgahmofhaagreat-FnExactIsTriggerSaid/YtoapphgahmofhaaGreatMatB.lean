/-
  Walks and plain lemmas for the laws of this seat: what single Go functions return, for every argument.
-/
import Derived.Test.YtoapphgahmofhaaGreatMem
import Derived.Test.YtoapphgahmofhaaGreatInts
import Derived.Test.YtoapphgahmofhaaGreatTyAtom
import Derived.Test.YtoapphgahmofhaaGreatTakeE
import Derived.Test.YtoapphgahmofhaaGreatTySS
import Derived.Test.YtoapphgahmofhaaGreatTyInst
import Derived.Test.YtoapphgahmofhaaGreatMatM
import Derived.Test.YtoapphgahmofhaaGreatMInst
namespace Go.Proofs.YtoapphgahmofhaaGreat
open Go.RowKit

def slLen : Value → Nat
  | .slice _ n _ => n
  | _ => 0
def blank5 : List Int := List.replicate 5 10
def BlankInv (w : World) (v : Value) (wr : World) : Prop := ∃ k : Nat, k ≤ 5 ∧ OwnInts w.heap.size v (List.replicate k 10) wr ∧ Hid (Below w.heap.size w wr)
set_option maxHeartbeats 3200000 in
set_option maxRecDepth 100000 in
theorem specL11Blank_c (w : World) : Calls Tryz.prog 88 #[] w fun e w' => ∃ V, e = .returned V ∧ OwnInts w.heap.size V blank5 w' ∧ Below w.heap.size w w' := by
  have hF : Below w.heap.size w (w.alloc (.cells #[] 3)) := (Below.refl _ _).alloc (Nat.le_refl _) _
  have HF := Lib.hid hF
  have HO0 := Lib.hid (OwnInts.empty w w.heap.size (Nat.le_refl _))
  clear hF
  go_enter Tryz.func88, Tryz.ntmps88
  go_wp2
  go_loopw [1] (fun v wr => BlankInv w v wr) (fun v _ => 5 - slLen v)
  case atStart => exact ⟨0, by omega, HO0.out, HF⟩
  case round =>
    obtain ⟨k, hk, hO, hW⟩ := hrel
    obtain ⟨P, c, hv, hc1, hc2, -⟩ := hO.at_
    rw [List.length_replicate] at hv hc1
    subst hv
    unfold maxLen at hc2
    have HO := Lib.hid hO
    have HZ := Lib.hid (show w.heap.size ≤ wr.heap.size from hW.out.size)
    clear hO
    by_cases hlt : k < 5
    · have HE := Lib.hid (show List.replicate k (10 : Int) ++ [10] = List.replicate (k + 1) 10 from List.replicate_succ'.symm)
      go_wp2_with (first | (go_at_call 44; refine (specL11None_c _).mono ?_; rintro e w3 ⟨rfl, rfl⟩) | (at_builtin; refine ints_app1 HO.out rfl _ _ rfl (by simp [go_sem]) _ _ _ rfl rfl (by simp; omega) HZ.out ?_; intro v5 w5 hO5 hB5 hG5; rw [HE.out] at hO5; obtain ⟨P5, c5, hv5, -⟩ := id hO5.at_; rw [List.length_replicate] at hv5; subst hv5))
      go_roundw
      case rel => exact ⟨k + 1, by omega, hO5, Lib.hid (hW.out.trans hB5)⟩
      case measure => simp [slLen]; omega
    · obtain rfl : k = 5 := by omega
      go_wp2
      exact bodyPost_ret (v := .slice P 5 c) (by simp [results, Tryz.results88, go_sem]) rfl ⟨_, rfl, HO.out, hW.out⟩

/-- a term's value under a binding, if it has a valid one -/
def instT (b : List Int) (t : Int) : Option Int :=
  if 0 ≤ t then (if h : t.toNat < b.length then (if validV b[t.toNat] = true then some b[t.toNat] else none) else none) else if validV (-1 - t) = true then some (-1 - t) else none
def instL (b : List Int) : List Int → Option (List Int)
  | [] => some []
  | t :: r => match instT b t with
    | some v => (instL b r).map (v :: ·)
    | none => none
theorem instL_snoc {b : List Int} (a : List Int) (t : Int) (l : List Int) (v : Int) (h : instL b a = some l) (ht : instT b t = some v) : instL b (a ++ [t]) = some (l ++ [v]) := by
  induction a generalizing l with
  | nil => simp [instL] at h; subst h; simp [instL, ht]
  | cons y q ih =>
    rw [instL] at h
    rw [List.cons_append, instL]
    split at h
    · rename_i z hz
      cases hq : instL b q with
      | none => rw [hq] at h; cases h
      | some m =>
        rw [hq] at h
        cases h
        rw [ih m hq]; rfl
    · cases h
theorem instL_none {b : List Int} (a c : List Int) (t : Int) (h : instT b t = none) : instL b (a ++ t :: c) = none := by
  induction a with
  | nil => simp [instL, h]
  | cons x r ih =>
    rw [List.cons_append, instL, ih]
    split <;> rfl
theorem instL_len {b : List Int} (a l : List Int) (h : instL b a = some l) : l.length = a.length := by
  induction a generalizing l with
  | nil => simp [instL] at h; subst h; rfl
  | cons y q ih =>
    rw [instL] at h
    split at h
    · rename_i z hz
      cases hq : instL b q with
      | none => rw [hq] at h; cases h
      | some m =>
        rw [hq] at h
        cases h
        simp [ih m hq]
    · cases h
def Instantiate_r0 (a : Atm) (b : List Int) : Fct := match instL b a.vals with
  | some vs => ⟨a.rel, vs⟩
  | none => ⟨0, []⟩
def Instantiate_ok (a : Atm) (b : List Int) : Bool := (instL b a.vals).isSome
theorem inst_no {a : Atm} {b : List Int} (h : instL b a.vals = none) : Instantiate_r0 a b = ⟨0, []⟩ ∧ Instantiate_ok a b = false := by unfold Instantiate_r0 Instantiate_ok; rw [h]; exact ⟨rfl, rfl⟩
theorem inst_yes {a : Atm} {b vs : List Int} (h : instL b a.vals = some vs) : Instantiate_r0 a b = ⟨a.rel, vs⟩ ∧ Instantiate_ok a b = true := by unfold Instantiate_r0 Instantiate_ok; rw [h]; exact ⟨rfl, rfl⟩
theorem instL_stop {a : Atm} {b : List Int} (k : Nat) (hk : k < a.vals.length) (h : instT b a.vals[k] = none) : instL b a.vals = none := by
  have e : a.vals = a.vals.take k ++ a.vals[k] :: a.vals.drop (k + 1) := by rw [← List.drop_eq_getElem_cons hk, List.take_append_drop]
  rw [e]; exact instL_none _ _ _ h
/-- a fact's box while an atom is instantiated: the first k terms are done -/
def InstInv (a : Atm) (b : List Int) (g : Nat) (W : World) (kv : Value) (wq : World) : Prop :=
  ∃ (k : Nat) (V : Value) (vs : List Int), k ≤ a.vals.length ∧ kv = .int .i64 k ∧ Hid (instL b (a.vals.take k) = some vs) ∧ wq.cell? ⟨g, 0, none⟩ = some (.int .i64 a.rel) ∧ wq.cell? ⟨g, 1, none⟩ = some V ∧ (∀ o, wq.frozen? ⟨g, o, none⟩ = false) ∧ OwnInts (g + 1) V vs wq ∧ Hid (Chg (fun q => q = g) W wq)
theorem InstInv.mk' {a : Atm} {b : List Int} {g : Nat} {W : World} {kv : Value} {wq : World} (k : Nat) (V : Value) (vs : List Int) (h1 : k ≤ a.vals.length) (h2 : kv = .int .i64 k) (h3 : instL b (a.vals.take k) = some vs) (h4 : wq.cell? ⟨g, 0, none⟩ = some (.int .i64 a.rel)) (h5 : wq.cell? ⟨g, 1, none⟩ = some V) (h6 : ∀ o, wq.frozen? ⟨g, o, none⟩ = false) (h7 : OwnInts (g + 1) V vs wq) (h8 : Chg (fun q => q = g) W wq) : InstInv a b g W kv wq :=
  ⟨k, V, vs, h1, h2, Lib.hid h3, h4, h5, h6, h7, Lib.hid h8⟩
theorem instL_next {a : Atm} {b vs : List Int} {v : Int} (k : Nat) (hk : k < a.vals.length) (h : instL b (a.vals.take k) = some vs) (ht : instT b a.vals[k] = some v) : instL b (a.vals.take (k + 1)) = some (vs ++ [v]) := by
  rw [List.take_succ_eq_append_getElem hk]; exact instL_snoc _ _ _ _ h ht

/-- the variables among terms, one after another -/
def posOf (vs : List Int) : List Int := vs.filter fun t => decide (0 ≤ t)
def vposOf (l : List Atm) : List Int := l.flatMap fun a => posOf a.vals
theorem posOf_take (vs : List Int) (k : Nat) (h : k < vs.length) : posOf (vs.take (k + 1)) = posOf (vs.take k) ++ (if 0 ≤ vs[k] then [vs[k]] else []) := by
  unfold posOf
  rw [List.take_succ_eq_append_getElem h, List.filter_append]
  congr 1
  by_cases hp : 0 ≤ vs[k] <;> simp [hp]
theorem posOf_len (vs : List Int) : (posOf vs).length ≤ vs.length := List.length_filter_le _ _
theorem vposOf_take (l : List Atm) (k : Nat) (h : k < l.length) : vposOf (l.take (k + 1)) = vposOf (l.take k) ++ posOf l[k].vals := by
  unfold vposOf; rw [List.take_succ_eq_append_getElem h, List.flatMap_append]; simp
theorem vposOf_len (l : List Atm) : (vposOf l).length ≤ avalsLen l := by
  induction l with
  | nil => simp [vposOf]
  | cons a t ih =>
    have h1 := posOf_len a.vals
    unfold vposOf at ih ⊢
    rw [List.flatMap_cons, List.length_append]
    simp only [avalsLen]; omega
theorem addTerms_mem (vs out : List Int) (x : Int) : x ∈ addTerms out vs ↔ x ∈ out ∨ x ∈ posOf vs := by
  induction vs generalizing out with
  | nil => simp [addTerms, posOf]
  | cons a t ih =>
    have h := ih (addVar out a)
    unfold addTerms at h ⊢
    rw [List.foldl_cons, h]
    unfold addVar posOf
    rw [List.filter_cons]
    by_cases hp : 0 ≤ a
    · rw [if_pos hp, decide_eq_true hp, if_pos rfl, putI_mem, List.mem_cons]
      constructor
      · rintro ((h | h) | h)
        · exact .inr (.inl h)
        · exact .inl h
        · exact .inr (.inr h)
      · rintro (h | h | h)
        · exact .inl (.inr h)
        · exact .inl (.inl h)
        · exact .inr h
    · rw [if_neg hp, decide_eq_false hp]; simp
theorem varsFold_mem (l : List Atm) (out : List Int) (x : Int) : x ∈ l.foldl (fun o a => addTerms o a.vals) out ↔ x ∈ out ∨ x ∈ vposOf l := by
  induction l generalizing out with
  | nil => simp [vposOf]
  | cons a t ih =>
    rw [List.foldl_cons, ih, addTerms_mem]
    unfold vposOf
    rw [List.flatMap_cons, List.mem_append, or_assoc]
theorem varsOf_mem (l : List Atm) (x : Int) : x ∈ varsOf l ↔ x ∈ vposOf l := by
  unfold varsOf; rw [varsFold_mem]; simp
theorem addTerms_asc (vs out : List Int) (h : out.Pairwise (· < ·)) : (addTerms out vs).Pairwise (· < ·) := by
  induction vs generalizing out with
  | nil => exact h
  | cons a t ih =>
    unfold addTerms
    rw [List.foldl_cons]
    refine ih _ ?_
    unfold addVar
    split
    · exact putI_asc out a h
    · exact h
theorem varsOf_asc (l : List Atm) : (varsOf l).Pairwise (· < ·) := by
  have : ∀ (l : List Atm) (out : List Int), out.Pairwise (· < ·) → (l.foldl (fun o a => addTerms o a.vals) out).Pairwise (· < ·) := by
    intro l
    induction l with
    | nil => intro out h; exact h
    | cons a t ih => intro out h; rw [List.foldl_cons]; exact ih _ (addTerms_asc a.vals out h)
  exact this l [] List.Pairwise.nil
/-- sorted, doubles dropped: the variables in ascending order -/
theorem compact_vars (l : List Atm) : Lib.compact ((vposOf l).mergeSort fun x y => decide (x ≤ y)) = varsOf l := by
  have hs : ((vposOf l).mergeSort fun x y => decide (x ≤ y)).Pairwise (· ≤ ·) := by
    have := List.pairwise_mergeSort (le := fun (x y : Int) => decide (x ≤ y)) (by intro a b c; simp; omega) (by intro a b; simp; omega) (vposOf l)
    exact this.imp (fun h => by simpa using h)
  obtain ⟨h1, h2⟩ := compact_upTo _ hs _ (Nat.le_refl _)
  refine asc_eq _ _ h1 (varsOf_asc l) (fun x => ?_)
  unfold Lib.compact
  rw [h2, List.take_of_length_le (Nat.le_refl _), List.mem_mergeSort, varsOf_mem]

set_option maxHeartbeats 6400000 in
set_option maxRecDepth 100000 in
theorem specInstantiate_any (v : Value) (a : Atm) (u : Value) (b : List Int) (w : World) (h : Atom_at w w.heap.size v a) (hw : Atom_wf a) (hn : Atom_sz a ≤ 1048576) (h' : IntsAt w w.heap.size u b) (hwb : IntsWf b) :
    Calls Tryz.prog 45 #[v, u] w fun e w' => ∃ V, e = .returned (.tuple #[.agg #[.int .i64 (Instantiate_r0 a b).rel, V], .bool (Instantiate_ok a b)]) ∧ OwnInts w.heap.size V (Instantiate_r0 a b).vals w' ∧ Below w.heap.size w w' := by
  obtain ⟨V0, rfl, hV⟩ := h
  have HV := Lib.hid hV
  have HB := Lib.hid h'
  obtain ⟨P, c, rfl, hc1, hc2, -⟩ := hV
  obtain ⟨Q, d, rfl, hd1, hd2, -⟩ := h'
  unfold maxLen at hc2 hd2
  obtain ⟨E, hEq⟩ : ∃ E, E = (((w.alloc (.cells #[.int .i64 a.rel, .slice P a.vals.length c] 74)).alloc (.cells #[.int .i64 0, .slice none 0 0] 70)).alloc (.cells #[.int .i64 a.rel, .slice none 0 0] 70)) := ⟨_, rfl⟩
  have hE : Below w.heap.size w E := by rw [hEq]; exact below_more (below_more (below_more (Below.refl _ _) _) _) _
  have HEz := Lib.hid (show E.heap.size = w.heap.size + 3 by rw [hEq]; simp)
  have HA1 := Lib.hid (show E.cell? ⟨w.heap.size, 1, none⟩ = some (.slice P a.vals.length c) by rw [hEq]; simp [go_sem])
  have HR0 := Lib.hid (show E.cell? ⟨w.heap.size + 1, 0, none⟩ = some (.int .i64 0) by rw [hEq]; simp [go_sem])
  have HR1 := Lib.hid (show E.cell? ⟨w.heap.size + 1, 1, none⟩ = some (.slice none 0 0) by rw [hEq]; simp [go_sem])
  have HRz := Lib.hid (show ∀ o, E.frozen? ⟨w.heap.size + 1, o, none⟩ = false by intro o; rw [hEq]; simp [go_sem])
  have y0 : E.cell? ⟨w.heap.size + 2, 0, none⟩ = some (.int .i64 a.rel) := by rw [hEq]; simp [go_sem]
  have y1 : E.cell? ⟨w.heap.size + 2, 1, none⟩ = some (.slice none 0 0) := by rw [hEq]; simp [go_sem]
  have yz : ∀ o, E.frozen? ⟨w.heap.size + 2, o, none⟩ = false := by intro o; rw [hEq]; simp [go_sem]
  have HY := Lib.hid (And.intro y0 (And.intro y1 yz))
  clear y0 y1 yz
  have hn1 : a.vals.length ≤ 1048576 := hn
  go_enter Tryz.func45, Tryz.ntmps45
  go_wp2
  rw [← hEq]
  clear hEq
  go_loopw [7, 8] (fun i _ wr => InstInv a b (w.heap.size + 2) E i wr) (fun i _ _ => a.vals.length - (intOf i).toNat)
  case atStart => exact InstInv.mk' 0 _ [] (by omega) rfl rfl HY.out.1 HY.out.2.1 HY.out.2.2 (OwnInts.nil _ _) (Chg.refl _ _)
  case round =>
    obtain ⟨k, V, vs, hk, rfl, HI, y0, y1, yz, hO, HC⟩ := hrel
    obtain ⟨P4, c4, rfl, hl4, hm4, -⟩ := id hO.at_
    unfold maxLen at hm4
    have hgq : w.heap.size + 3 ≤ wr.heap.size := by have h1 := HC.out.size; rw [HEz.out] at h1; exact h1
    have HWr := Lib.hid (show Below w.heap.size w wr from hE.trans ((HC.out.below (B := w.heap.size) (fun q hq => by omega) (by rw [HEz.out]; omega))))
    have a1 : wr.cell? ⟨w.heap.size, 1, none⟩ = some (.slice P a.vals.length c) := (HC.out.cell (b := w.heap.size) (by rw [HEz.out]; omega) (by omega)).trans HA1.out
    have r0 : wr.cell? ⟨w.heap.size + 1, 0, none⟩ = some (.int .i64 0) := (HC.out.cell (b := w.heap.size + 1) (by rw [HEz.out]; omega) (by omega)).trans HR0.out
    have r1 : wr.cell? ⟨w.heap.size + 1, 1, none⟩ = some (.slice none 0 0) := (HC.out.cell (b := w.heap.size + 1) (by rw [HEz.out]; omega) (by omega)).trans HR1.out
    have rz : ∀ o, wr.frozen? ⟨w.heap.size + 1, o, none⟩ = false := fun o => (HC.out.frozen (b := w.heap.size + 1) (by rw [HEz.out]; omega) (by omega)).trans (HRz.out o)
    have hvl : vs.length ≤ 1048576 := by have := instL_len _ _ HI.out; rw [List.length_take] at this; omega
    have HO := Lib.hid hO
    clear hO
    by_cases hlt : k < a.vals.length
    · obtain ⟨b0, off0, rfl, hb0, e0⟩ := IntsAt.elem HV.out k hlt
      replace e0 := (HWr.out.cell (p := ⟨b0, off0 + k, none⟩) hb0).trans e0
      have hwt := hw.2 k hlt
      obtain ⟨t, ht⟩ : ∃ t, t = a.vals[k] := ⟨_, rfl⟩
      rw [← ht] at e0 hwt
      have hNx := fun (z : Int) (hz : instT b t = some z) => instL_next k hlt HI.out (by rw [← ht]; exact hz)
      have hSt := fun (hz : instT b t = none) => inst_no (instL_stop k hlt (by rw [← ht]; exact hz))
      clear ht
      by_cases hneg : 0 ≤ t
      · have hd1 : decide (0 ≤ t) = true := decide_eq_true hneg
        have hd1' : decide (t < 0) = false := decide_eq_false (by omega)
        obtain ⟨j, rfl⟩ : ∃ j : Nat, t = (j : Int) := ⟨t.toNat, by omega⟩
        by_cases hjb : j < b.length
        · have hd2 : decide ((b.length : Int) ≤ (j : Int)) = false := decide_eq_false (by omega)
          have hd3 : decide (b.length ≤ j) = false := decide_eq_false (by omega)
          obtain ⟨b1, off1, rfl, hb1, e1⟩ := IntsAt.elem HB.out j hjb
          replace e1 := (HWr.out.cell (p := ⟨b1, off1 + j, none⟩) hb1).trans e1
          have hwv := hwb j hjb
          have hit : instT b (j : Int) = if validV b[j] = true then some b[j] else none := by
            unfold instT; rw [if_pos hneg, dif_pos (show (j : Int).toNat < b.length by simpa using hjb)]; rfl
          obtain ⟨z, hz⟩ : ∃ z, z = b[j] := ⟨_, rfl⟩
          rw [← hz] at e1 hwv hit
          clear hz hneg
          cases hvz : validV z with
          | false =>
            have hvv := specIsValidValue_at z false hvz wr hwv.1 hwv.2
            have HF := Lib.hid (hSt (by rw [hit, hvz]; rfl))
            clear hNx hSt hit hvz
            go_wp2_with (go_at_call 87; refine hvv.mono ?_; rintro e w3 ⟨rfl, rfl⟩)
            refine bodyPost_ret (v := .tuple #[.agg #[.int .i64 0, .slice none 0 0], .bool false]) (by simp [results, Tryz.results45, go_sem, r0, r1]) rfl ⟨.slice none 0 0, by rw [HF.out.1, HF.out.2], by rw [HF.out.1]; exact OwnInts.nil _ _, ?_⟩
            exact ((HWr.out.setCell (p := ⟨w.heap.size + 1, 0, none⟩) (Nat.le_succ _) _).setCell (p := ⟨w.heap.size + 1, 1, none⟩) (Nat.le_succ _) _)
          | true =>
            have hvv := specIsValidValue_at z true hvz wr hwv.1 hwv.2
            have HN := Lib.hid (hNx z (by rw [hit, hvz]; rfl))
            clear hNx hSt hit hvz
            go_wp2_with (first | (go_at_call 87; refine hvv.mono ?_; rintro e w3 ⟨rfl, rfl⟩) | (at_builtin; refine ints_app1 HO.out rfl _ _ rfl rfl _ _ _ rfl rfl (by omega) (by omega) ?_; intro v5 w5 hO5 hB5 hG5; obtain ⟨g5, c5, rfl, hg5, -, -, -⟩ := hO5.form (by simp); have hl5 : (vs ++ [z]).length = vs.length + 1 := (by simp); rw [hl5] at hO5; have q0 := (hG5.cell_far ⟨w.heap.size + 2, 0, none⟩ (by show w.heap.size + 2 < _; omega) (fun e => by have h9 : w.heap.size + 3 ≤ w.heap.size + 2 := (HO.out.lt _ e.symm).1; omega)).trans y0; have q1 := (hG5.cell_far ⟨w.heap.size + 2, 1, none⟩ (by show w.heap.size + 2 < _; omega) (fun e => by have h9 : w.heap.size + 3 ≤ w.heap.size + 2 := (HO.out.lt _ e.symm).1; omega)).trans y1; have qz := fun o => (hG5.frozen_far ⟨w.heap.size + 2, o, none⟩ (by show w.heap.size + 2 < _; omega) (fun e => by have h9 : w.heap.size + 3 ≤ w.heap.size + 2 := (HO.out.lt _ e.symm).1; omega)).trans (yz o)))
            have z0 : (w5.setCell ⟨w.heap.size + 2, 1, none⟩ (.slice (some ⟨g5, 0, none⟩) (vs.length + 1) c5)).cell? ⟨w.heap.size + 2, 0, none⟩ = some (.int .i64 a.rel) := by simp [go_sem, q0]
            have z1 : (w5.setCell ⟨w.heap.size + 2, 1, none⟩ (.slice (some ⟨g5, 0, none⟩) (vs.length + 1) c5)).cell? ⟨w.heap.size + 2, 1, none⟩ = some (.slice (some ⟨g5, 0, none⟩) (vs.length + 1) c5) := by simp [go_sem, q1]
            have zz : ∀ o, (w5.setCell ⟨w.heap.size + 2, 1, none⟩ (.slice (some ⟨g5, 0, none⟩) (vs.length + 1) c5)).frozen? ⟨w.heap.size + 2, o, none⟩ = false := fun o => by simp [qz]
            go_roundw
            case rel => exact InstInv.mk' (k + 1) _ (vs ++ [z]) (by omega) (by go_num) HN.out z0 z1 zz (hO5.chg ((Chg.refl (fun q => q = w.heap.size + 2) w5).setCell (p := ⟨w.heap.size + 2, 1, none⟩) rfl _) (fun q hq e => by have := (hO5.lt q hq).1; omega)) ((HC.out.then_below (hB5.mono (by rw [HEz.out]; omega))).setCell (p := ⟨w.heap.size + 2, 1, none⟩) rfl _)
            case measure => simp [intOf]; omega
        · have hd2 : decide ((b.length : Int) ≤ (j : Int)) = true := decide_eq_true (by omega)
          have hd3 : decide (b.length ≤ j) = true := decide_eq_true (by omega)
          have HF := Lib.hid (hSt (by unfold instT; rw [if_pos hneg, dif_neg (show ¬ (j : Int).toNat < b.length by simpa using hjb)]))
          clear hNx hSt hneg
          go_wp2
          refine bodyPost_ret (v := .tuple #[.agg #[.int .i64 0, .slice none 0 0], .bool false]) (by simp [results, Tryz.results45, go_sem, r0, r1]) rfl ⟨.slice none 0 0, by rw [HF.out.1, HF.out.2], by rw [HF.out.1]; exact OwnInts.nil _ _, ?_⟩
          exact ((HWr.out.setCell (p := ⟨w.heap.size + 1, 0, none⟩) (Nat.le_succ _) _).setCell (p := ⟨w.heap.size + 1, 1, none⟩) (Nat.le_succ _) _)
      · have hd1 : decide (0 ≤ t) = false := decide_eq_false hneg
        have hd1' : decide (t < 0) = true := decide_eq_true (by omega)
        have hit : instT b t = if validV (-1 - t) = true then some (-1 - t) else none := by
          unfold instT; rw [if_neg hneg]
        have hzb : 0 ≤ -1 - t := by omega
        have hdz : decide (-1 - t < 0) = false := decide_eq_false (by omega)
        cases hvz : validV (-1 - t) with
        | false =>
          have hvv := specIsValidValue_at (-1 - t) false hvz wr (by omega) (by omega)
          have HF := Lib.hid (hSt (by rw [hit, hvz]; rfl))
          clear hNx hSt hit hvz
          go_wp2_with (go_at_call 87; refine hvv.mono ?_; rintro e w3 ⟨rfl, rfl⟩)
          refine bodyPost_ret (v := .tuple #[.agg #[.int .i64 0, .slice none 0 0], .bool false]) (by simp [results, Tryz.results45, go_sem, r0, r1]) rfl ⟨.slice none 0 0, by rw [HF.out.1, HF.out.2], by rw [HF.out.1]; exact OwnInts.nil _ _, ?_⟩
          exact ((HWr.out.setCell (p := ⟨w.heap.size + 1, 0, none⟩) (Nat.le_succ _) _).setCell (p := ⟨w.heap.size + 1, 1, none⟩) (Nat.le_succ _) _)
        | true =>
          have hvv := specIsValidValue_at (-1 - t) true hvz wr (by omega) (by omega)
          obtain ⟨z, hz⟩ : ∃ z, z = -1 - t := ⟨_, rfl⟩
          have HN := Lib.hid (hNx z (by rw [hit, hvz, hz]; rfl))
          have HZ := Lib.hid hz
          clear hNx hSt hit hvz hz
          go_wp2_with (first | (go_at_call 87; refine hvv.mono ?_; rintro e w3 ⟨rfl, rfl⟩) | (at_builtin; refine ints_app1 HO.out rfl _ _ rfl rfl _ _ _ rfl rfl (by omega) (by omega) ?_; intro v5 w5 hO5 hB5 hG5; obtain ⟨g5, c5, rfl, hg5, -, -, -⟩ := hO5.form (by simp); have hl5 : (vs ++ [-1 - t]).length = vs.length + 1 := (by simp); rw [hl5] at hO5; have q0 := (hG5.cell_far ⟨w.heap.size + 2, 0, none⟩ (by show w.heap.size + 2 < _; omega) (fun e => by have h9 : w.heap.size + 3 ≤ w.heap.size + 2 := (HO.out.lt _ e.symm).1; omega)).trans y0; have q1 := (hG5.cell_far ⟨w.heap.size + 2, 1, none⟩ (by show w.heap.size + 2 < _; omega) (fun e => by have h9 : w.heap.size + 3 ≤ w.heap.size + 2 := (HO.out.lt _ e.symm).1; omega)).trans y1; have qz := fun o => (hG5.frozen_far ⟨w.heap.size + 2, o, none⟩ (by show w.heap.size + 2 < _; omega) (fun e => by have h9 : w.heap.size + 3 ≤ w.heap.size + 2 := (HO.out.lt _ e.symm).1; omega)).trans (yz o)))
          have z0 : (w5.setCell ⟨w.heap.size + 2, 1, none⟩ (.slice (some ⟨g5, 0, none⟩) (vs.length + 1) c5)).cell? ⟨w.heap.size + 2, 0, none⟩ = some (.int .i64 a.rel) := by simp [go_sem, q0]
          have z1 : (w5.setCell ⟨w.heap.size + 2, 1, none⟩ (.slice (some ⟨g5, 0, none⟩) (vs.length + 1) c5)).cell? ⟨w.heap.size + 2, 1, none⟩ = some (.slice (some ⟨g5, 0, none⟩) (vs.length + 1) c5) := by simp [go_sem, q1]
          have zz : ∀ o, (w5.setCell ⟨w.heap.size + 2, 1, none⟩ (.slice (some ⟨g5, 0, none⟩) (vs.length + 1) c5)).frozen? ⟨w.heap.size + 2, o, none⟩ = false := fun o => by simp [qz]
          go_roundw
          case rel =>
            rw [← HZ.out] at hO5
            exact InstInv.mk' (k + 1) _ (vs ++ [z]) (by omega) (by go_num) HN.out z0 z1 zz (hO5.chg ((Chg.refl (fun q => q = w.heap.size + 2) w5).setCell (p := ⟨w.heap.size + 2, 1, none⟩) rfl _) (fun q hq e => by have := (hO5.lt q hq).1; omega)) ((HC.out.then_below (hB5.mono (by rw [HEz.out]; omega))).setCell (p := ⟨w.heap.size + 2, 1, none⟩) rfl _)
          case measure => simp [intOf]; omega
    · obtain rfl : k = a.vals.length := by omega
      have HF := Lib.hid (inst_yes (a := a) (b := b) (vs := vs) (by have := HI.out; rwa [List.take_of_length_le (Nat.le_refl _)] at this))
      go_wp2
      refine bodyPost_ret (v := .tuple #[.agg #[.int .i64 a.rel, .slice P4 vs.length c4], .bool true]) (by simp [results, Tryz.results45, go_sem, r0, r1]) rfl ⟨_, by rw [HF.out.1, HF.out.2], ?_, ?_⟩
      · rw [HF.out.1]
        exact ((HO.out.chg (((Chg.refl (fun q => q = w.heap.size + 1) wr).setCell (p := ⟨w.heap.size + 1, 0, none⟩) rfl (.int .i64 a.rel)).setCell (p := ⟨w.heap.size + 1, 1, none⟩) rfl (.slice P4 vs.length c4)) (fun q hq e => by have := (HO.out.lt q hq).1; omega))).mono (by omega)
      · exact ((HWr.out.setCell (p := ⟨w.heap.size + 1, 0, none⟩) (Nat.le_succ _) _).setCell (p := ⟨w.heap.size + 1, 1, none⟩) (Nat.le_succ _) _)
theorem specInstantiate_c (v : Value) (a : Atm) (u : Value) (b : List Int) (w : World) (h : Atom_at w w.heap.size v a) (hw : Atom_wf a) (hn : Atom_sz a ≤ 1048576) (h' : IntS_at w w.heap.size u b) (hw' : IntS_wf b) (_ : IntS_sz b ≤ 1048576) :
    Calls Tryz.prog 45 #[v, u] w fun e w' => ∃ r0, e = .returned (.tuple #[r0, .bool (Instantiate_ok a b)]) ∧ Fact_at w' w'.heap.size r0 (Instantiate_r0 a b) ∧ Below w.heap.size w w' :=
  (specInstantiate_any v a u b w h hw hn h' hw').mono fun _ _ ⟨V, he, ho, hb⟩ => ⟨_, he, ⟨V, rfl, ho.at_⟩, hb⟩

end Go.Proofs.YtoapphgahmofhaaGreat
