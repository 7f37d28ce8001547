/-
  Walks and plain lemmas for the laws of this seat: what single Go functions return, for every argument.
-/
import Derived.Test.YtobdijcnfmgidaaGreatBase
import Derived.Test.YtobdijcnfmgidaaGreatPlan
import Derived.Test.YtobdijcnfmgidaaGreatInts
import Derived.Test.YtobdijcnfmgidaaGreatTyAtom
import Derived.Test.YtobdijcnfmgidaaGreatFact
import Derived.Test.YtobdijcnfmgidaaGreatTySS
import Derived.Test.YtobdijcnfmgidaaGreatKpM
namespace Go.Proofs.YtobdijcnfmgidaaGreat
open Go.RowKit

/-- an atom's terms laid against a row of values under a binding; 10 stands for 'not bound' -/
def fitL : List Int → List Int → List Int → List Int × Bool
  | t :: ts, v :: vs, b => if t < 0 then (if -1 - t = v then fitL ts vs b else (b, false)) else if b.getD t.toNat 0 = 10 ∨ b.getD t.toNat 0 = v then fitL ts vs (b.set t.toNat v) else (b, false)
  | _, _, b => (b, true)
def fitA (a : Atm) (f : Fct) (b : List Int) : List Int × Bool := if a.rel = f.rel ∧ a.vals.length = f.vals.length then fitL a.vals f.vals b else (b, false)
theorem fitA_no {a : Atm} {f : Fct} {b : List Int} (h : ¬(a.rel = f.rel ∧ a.vals.length = f.vals.length)) : fitA a f b = (b, false) := if_neg h
theorem fitA_yes {a : Atm} {f : Fct} {b : List Int} (h1 : a.rel = f.rel) (h2 : a.vals.length = f.vals.length) : fitA a f b = fitL a.vals f.vals b := if_pos ⟨h1, h2⟩
theorem fitL_step {ts vs b : List Int} (k : Nat) (h1 : k < ts.length) (h2 : k < vs.length) : fitL (ts.drop k) (vs.drop k) b = if ts[k] < 0 then (if -1 - ts[k] = vs[k] then fitL (ts.drop (k + 1)) (vs.drop (k + 1)) b else (b, false)) else if b.getD ts[k].toNat 0 = 10 ∨ b.getD ts[k].toNat 0 = vs[k] then fitL (ts.drop (k + 1)) (vs.drop (k + 1)) (b.set ts[k].toNat vs[k]) else (b, false) := by
  rw [List.drop_eq_getElem_cons h1, List.drop_eq_getElem_cons h2, fitL]
theorem fitL_end {ts vs b : List Int} (k : Nat) (h1 : ts.length ≤ k) : fitL (ts.drop k) (vs.drop k) b = (b, true) := by
  rw [List.drop_eq_nil_of_le h1, fitL]
  intro t ts v vs h; cases h
theorem fitL_len (ts vs b : List Int) : (fitL ts vs b).1.length = b.length := by
  induction ts generalizing vs b with
  | nil => rw [fitL]; intro t ts v vs h; cases h
  | cons t ts ih =>
    cases vs with
    | nil => rw [fitL]; intro t ts v vs _ h; cases h
    | cons v vs =>
      rw [fitL]
      split
      · split
        · exact ih vs b
        · rfl
      · split
        · rw [ih vs]; simp
        · rfl
theorem fitA_len (a : Atm) (f : Fct) (b : List Int) : (fitA a f b).1.length = b.length := by
  unfold fitA
  split
  · exact fitL_len _ _ _
  · rfl
def FitInv (a : Atm) (f : Fct) (b : List Int) (Z : Nat) (E : World) (V : Value) (kv : Value) (wq : World) : Prop :=
  ∃ (k : Nat) (bk : List Int), k ≤ a.vals.length ∧ kv = .int .i64 k ∧ Hid (fitA a f b = fitL (a.vals.drop k) (f.vals.drop k) bk) ∧ Hid (bk.length = b.length) ∧ OwnInts Z V bk wq ∧ Hid (Below Z E wq)
theorem FitInv.mk' {a : Atm} {f : Fct} {b : List Int} {Z : Nat} {E : World} {V : Value} {kv : Value} {wq : World} (k : Nat) (bk : List Int) (h1 : k ≤ a.vals.length) (h2 : kv = .int .i64 k) (h3 : fitA a f b = fitL (a.vals.drop k) (f.vals.drop k) bk) (h4 : bk.length = b.length) (h5 : OwnInts Z V bk wq) (h6 : Below Z E wq) : FitInv a f b Z E V kv wq :=
  ⟨k, bk, h1, h2, Lib.hid h3, Lib.hid h4, h5, Lib.hid h6⟩

/-- the bindings that lay all atoms into the facts -/
def walkM (fs : List Fct) : List Atm → List Int → List (List Int)
  | [], b => [b]
  | a :: r, b => fs.flatMap fun f => if (fitA a f b).2 = true then walkM fs r (fitA a f b).1 else []
def walkF (fs : List Fct) (a : Atm) (r : List Atm) (b : List Int) (f : Fct) : List (List Int) := if (fitA a f b).2 = true then walkM fs r (fitA a f b).1 else []
theorem walkM_cons (fs : List Fct) (a : Atm) (r : List Atm) (b : List Int) : walkM fs (a :: r) b = fs.flatMap (walkF fs a r b) := rfl
theorem flatMap_le {α β : Type} (g : α → List β) (N : Nat) (l : List α) (h : ∀ f ∈ l, (g f).length ≤ N) : (l.flatMap g).length ≤ l.length * N := by
  induction l with
  | nil => simp
  | cons a t ih =>
    rw [List.flatMap_cons, List.length_append, List.length_cons, Nat.succ_mul]
    have h1 := h a List.mem_cons_self
    have h2 := ih (fun f hf => h f (List.mem_cons_of_mem _ hf))
    omega
theorem walkM_len (fs : List Fct) (hf : fs.length ≤ 30) (l : List Atm) (b : List Int) : (walkM fs l b).length ≤ 30 ^ l.length := by
  induction l generalizing b with
  | nil => simp [walkM]
  | cons a r ih =>
    rw [walkM_cons]
    refine Nat.le_trans (flatMap_le _ (30 ^ r.length) fs (fun f _ => ?_)) ?_
    · unfold walkF
      split
      · exact ih _
      · simp
    · rw [List.length_cons, Nat.pow_succ, Nat.mul_comm (30 ^ r.length)]
      exact Nat.mul_le_mul_right _ hf
theorem walkM_900 (fs : List Fct) (hf : fs.length ≤ 30) (l : List Atm) (hl : l.length ≤ 2) (b : List Int) : (walkM fs l b).length ≤ 900 := by
  refine Nat.le_trans (walkM_len fs hf l b) ?_
  rcases (show l.length = 0 ∨ l.length = 1 ∨ l.length = 2 by omega) with h | h | h <;> rw [h] <;> decide
theorem walkF_900 (fs : List Fct) (hf : fs.length ≤ 30) (a : Atm) (r : List Atm) (hl : r.length ≤ 2) (b : List Int) (f : Fct) : (walkF fs a r b f).length ≤ 900 := by
  unfold walkF
  split
  · exact walkM_900 fs hf r hl _
  · simp
theorem walkT_len (fs : List Fct) (hf : fs.length ≤ 30) (a : Atm) (r : List Atm) (hl : r.length ≤ 2) (b : List Int) (k : Nat) : ((fs.take k).flatMap (walkF fs a r b)).length ≤ 27000 := by
  refine Nat.le_trans (flatMap_le _ 900 _ (fun f _ => walkF_900 fs hf a r hl b f)) ?_
  have : (fs.take k).length ≤ 30 := by rw [List.length_take]; omega
  omega
theorem walkT_next (fs : List Fct) (a : Atm) (r : List Atm) (b : List Int) (k : Nat) (hk : k < fs.length) : (fs.take (k + 1)).flatMap (walkF fs a r b) = (fs.take k).flatMap (walkF fs a r b) ++ walkF fs a r b fs[k] := by
  rw [List.take_succ_eq_append_getElem hk, List.flatMap_append, List.flatMap_cons, List.flatMap_nil, List.append_nil]

/-- a term's value under a binding, if it has a valid one -/
def instT (b : List Int) (t : Int) : Option Int :=
  if 0 ≤ t then (if h : t.toNat < b.length then (if validV b[t.toNat] = true then some b[t.toNat] else none) else none) else if validV (-1 - t) = true then some (-1 - t) else none
def instL (b : List Int) : List Int → Option (List Int)
  | [] => some []
  | t :: r => match instT b t with
    | some v => (instL b r).map (v :: ·)
    | none => none
theorem instL_snoc {b : List Int} (a : List Int) (t : Int) (l : List Int) (v : Int) (h : instL b a = some l) (ht : instT b t = some v) : instL b (a ++ [t]) = some (l ++ [v]) := by
  induction a generalizing l with
  | nil => simp [instL] at h; subst h; simp [instL, ht]
  | cons y q ih =>
    rw [instL] at h
    rw [List.cons_append, instL]
    split at h
    · rename_i z hz
      cases hq : instL b q with
      | none => rw [hq] at h; cases h
      | some m =>
        rw [hq] at h
        cases h
        rw [ih m hq]; rfl
    · cases h
theorem instL_none {b : List Int} (a c : List Int) (t : Int) (h : instT b t = none) : instL b (a ++ t :: c) = none := by
  induction a with
  | nil => simp [instL, h]
  | cons x r ih =>
    rw [List.cons_append, instL, ih]
    split <;> rfl
theorem instL_len {b : List Int} (a l : List Int) (h : instL b a = some l) : l.length = a.length := by
  induction a generalizing l with
  | nil => simp [instL] at h; subst h; rfl
  | cons y q ih =>
    rw [instL] at h
    split at h
    · rename_i z hz
      cases hq : instL b q with
      | none => rw [hq] at h; cases h
      | some m =>
        rw [hq] at h
        cases h
        simp [ih m hq]
    · cases h
def Instantiate_r0 (a : Atm) (b : List Int) : Fct := match instL b a.vals with
  | some vs => ⟨a.rel, vs⟩
  | none => ⟨0, []⟩
def Instantiate_ok (a : Atm) (b : List Int) : Bool := (instL b a.vals).isSome
theorem inst_no {a : Atm} {b : List Int} (h : instL b a.vals = none) : Instantiate_r0 a b = ⟨0, []⟩ ∧ Instantiate_ok a b = false := by unfold Instantiate_r0 Instantiate_ok; rw [h]; exact ⟨rfl, rfl⟩
theorem inst_yes {a : Atm} {b vs : List Int} (h : instL b a.vals = some vs) : Instantiate_r0 a b = ⟨a.rel, vs⟩ ∧ Instantiate_ok a b = true := by unfold Instantiate_r0 Instantiate_ok; rw [h]; exact ⟨rfl, rfl⟩
theorem instL_stop {a : Atm} {b : List Int} (k : Nat) (hk : k < a.vals.length) (h : instT b a.vals[k] = none) : instL b a.vals = none := by
  have e : a.vals = a.vals.take k ++ a.vals[k] :: a.vals.drop (k + 1) := by rw [← List.drop_eq_getElem_cons hk, List.take_append_drop]
  rw [e]; exact instL_none _ _ _ h
/-- a fact's box while an atom is instantiated: the first k terms are done -/
def InstInv (a : Atm) (b : List Int) (g : Nat) (W : World) (kv : Value) (wq : World) : Prop :=
  ∃ (k : Nat) (V : Value) (vs : List Int), k ≤ a.vals.length ∧ kv = .int .i64 k ∧ Hid (instL b (a.vals.take k) = some vs) ∧ wq.cell? ⟨g, 0, none⟩ = some (.int .i64 a.rel) ∧ wq.cell? ⟨g, 1, none⟩ = some V ∧ (∀ o, wq.frozen? ⟨g, o, none⟩ = false) ∧ OwnInts (g + 1) V vs wq ∧ Hid (Chg (fun q => q = g) W wq)
theorem InstInv.mk' {a : Atm} {b : List Int} {g : Nat} {W : World} {kv : Value} {wq : World} (k : Nat) (V : Value) (vs : List Int) (h1 : k ≤ a.vals.length) (h2 : kv = .int .i64 k) (h3 : instL b (a.vals.take k) = some vs) (h4 : wq.cell? ⟨g, 0, none⟩ = some (.int .i64 a.rel)) (h5 : wq.cell? ⟨g, 1, none⟩ = some V) (h6 : ∀ o, wq.frozen? ⟨g, o, none⟩ = false) (h7 : OwnInts (g + 1) V vs wq) (h8 : Chg (fun q => q = g) W wq) : InstInv a b g W kv wq :=
  ⟨k, V, vs, h1, h2, Lib.hid h3, h4, h5, h6, h7, Lib.hid h8⟩
theorem instL_next {a : Atm} {b vs : List Int} {v : Int} (k : Nat) (hk : k < a.vals.length) (h : instL b (a.vals.take k) = some vs) (ht : instT b a.vals[k] = some v) : instL b (a.vals.take (k + 1)) = some (vs ++ [v]) := by
  rw [List.take_succ_eq_append_getElem hk]; exact instL_snoc _ _ _ _ h ht

theorem specL11None_c (w : World) : Calls Tryz.prog 154 #[] w fun e w' => e = .returned (.int .i64 10) ∧ w = w' := by
  go_enter Tryz.func154, Tryz.ntmps154
  go_wp2
  go_ret
  exact ⟨rfl, rfl⟩

set_option maxHeartbeats 6400000 in
set_option maxRecDepth 100000 in
theorem specL11Fit_any (v : Value) (a : Atm) (u : Value) (f : Fct) (x : Value) (b : List Int) (w : World) (h : Atom_at w w.heap.size v a) (hw : Atom_wf a) (h' : Fact_at w w.heap.size u f) (hwf : Fact_wf f) (h'' : IntsAt w w.heap.size x b) (hn : b.length ≤ 1048576) (hin : ∀ (k : Nat) (hk : k < a.vals.length), a.vals[k] < b.length) :
    Calls Tryz.prog 153 #[v, u, x] w fun e w' => ∃ V, e = .returned (.tuple #[V, .bool (fitA a f b).2]) ∧ OwnInts w.heap.size V (fitA a f b).1 w' ∧ Below w.heap.size w w' := by
  obtain ⟨V0, rfl, hV⟩ := h
  obtain ⟨V1, rfl, hU⟩ := h'
  have HV := Lib.hid hV
  have HU := Lib.hid hU
  have HB := Lib.hid h''
  obtain ⟨P, c, rfl, hc1, hc2, -⟩ := hV
  obtain ⟨Q, d, rfl, hd1, hd2, -⟩ := hU
  obtain ⟨R, q, rfl, hq1, hq2, -, hA⟩ := h''
  have HRN := Lib.hid (show R = none → q = 0 from hA)
  clear hA
  unfold maxLen at hc2 hd2 hq2
  obtain ⟨E, hEq⟩ : ∃ E, E = ((w.alloc (.cells #[.int .i64 a.rel, .slice P a.vals.length c] 111)).alloc (.cells #[.int .i64 f.rel, .slice Q f.vals.length d] 66)) := ⟨_, rfl⟩
  have hE : Below w.heap.size w E := by rw [hEq]; exact below_more (below_more (Below.refl _ _) _) _
  have HEz := Lib.hid (show E.heap.size = w.heap.size + 2 by rw [hEq]; simp)
  have A0 := Lib.hid (show E.cell? ⟨w.heap.size, 0, none⟩ = some (.int .i64 a.rel) by rw [hEq]; simp [go_sem])
  have A1 := Lib.hid (show E.cell? ⟨w.heap.size, 1, none⟩ = some (.slice P a.vals.length c) by rw [hEq]; simp [go_sem])
  have F0 := Lib.hid (show E.cell? ⟨w.heap.size + 1, 0, none⟩ = some (.int .i64 f.rel) by rw [hEq]; simp [go_sem])
  have F1 := Lib.hid (show E.cell? ⟨w.heap.size + 1, 1, none⟩ = some (.slice Q f.vals.length d) by rw [hEq]; simp [go_sem])
  have hF : Below E.heap.size E (E.alloc (.cells #[] 3)) := (Below.refl _ _).alloc (Nat.le_refl _) _
  have hEF := hE.trans (hF.mono hE.size)
  have HLE := Lib.hid (show IntsAt (E.alloc (.cells #[] 3)) w.heap.size (.slice R b.length q) b from SliceAt.below HB.out hEF (Nat.le_refl _))
  have HOE := Lib.hid (OwnInts.empty E E.heap.size (Nat.le_refl _))
  go_enter Tryz.func153, Tryz.ntmps153
  have hle := HLE.out
  have hoe := HOE.out
  rw [hEq] at hle hoe
  go_upto_region 2 with (at_builtin; refine ints_apps (r := b) hoe rfl _ _ rfl (by simp [go_sem]) R b.length q rfl rfl hle HRN.out (by simp; omega) (by simp) ?_; intro v1 w1 hO1 hW1 _ _; rw [List.nil_append] at hO1; obtain ⟨P2, c2, rfl, hl2, hm2, -⟩ := id hO1.at_)
  rw [← hEq] at hO1 hW1
  clear hle hoe
  unfold maxLen at hm2
  have hb1 : Below E.heap.size E w1 := hF.trans hW1
  clear hW1 hEq hF HLE HOE hEF
  have a0 := (hb1.cell (p := ⟨w.heap.size, 0, none⟩) (by show w.heap.size < _; have := HEz.out; omega)).trans A0.out
  have a1 := (hb1.cell (p := ⟨w.heap.size, 1, none⟩) (by show w.heap.size < _; have := HEz.out; omega)).trans A1.out
  have f0 := (hb1.cell (p := ⟨w.heap.size + 1, 0, none⟩) (by show w.heap.size + 1 < _; have := HEz.out; omega)).trans F0.out
  have f1 := (hb1.cell (p := ⟨w.heap.size + 1, 1, none⟩) (by show w.heap.size + 1 < _; have := HEz.out; omega)).trans F1.out
  have HO1 := Lib.hid hO1
  have HB1 := Lib.hid hb1
  have hz : w.heap.size ≤ E.heap.size := hE.size
  have HZ := Lib.hid hz
  clear hO1 hb1 hz
  have fin : ∀ (bk : List Int) (wq : World) (r : Bool), OwnInts E.heap.size (.slice P2 b.length c2) bk wq → Below E.heap.size E wq → fitA a f b = (bk, r) → OwnInts w.heap.size (.slice P2 b.length c2) (fitA a f b).1 wq ∧ Below w.heap.size w wq := fun bk wq r h1 h2 h3 => by
    rw [h3]; exact ⟨h1.mono HZ.out, hE.trans (h2.mono HZ.out)⟩
  have FI := Lib.hid fin
  clear fin
  by_cases hr : a.rel = f.rel
  · by_cases hl : a.vals.length = f.vals.length
    · have HFA := Lib.hid (fitA_yes (b := b) hr hl)
      have HL := Lib.hid hl
      have dr : (a.rel != f.rel) = false := by rw [hr]; exact bne_self_eq_false _
      have dl' : ((a.vals.length : Int) != (f.vals.length : Int)) = false := by rw [hl]; exact bne_self_eq_false _
      clear hl hr
      go_wp2
      clear a0 a1 f0 f1 dr dl'
      go_loopw [9, 10] (fun i _ wr => FitInv a f b E.heap.size E (.slice P2 b.length c2) i wr) (fun i _ _ => a.vals.length - (intOf i).toNat)
      case atStart => exact FitInv.mk' 0 b (by omega) rfl (by rw [HFA.out]; rfl) rfl HO1.out HB1.out
      case round =>
        obtain ⟨k, bk, hk, rfl, HI, HN, hO, HW⟩ := hrel
        have a1 := (HW.out.cell (p := ⟨w.heap.size, 1, none⟩) (by show w.heap.size < _; have := HEz.out; omega)).trans A1.out
        have f1 := (HW.out.cell (p := ⟨w.heap.size + 1, 1, none⟩) (by show w.heap.size + 1 < _; have := HEz.out; omega)).trans F1.out
        have HO := Lib.hid hO
        clear hO
        have HWr := Lib.hid (show Below w.heap.size w wr from hE.trans (HW.out.mono HZ.out))
        by_cases hlt : k < a.vals.length
        · have hlf : k < f.vals.length := by have := HL.out; omega
          obtain ⟨b0, off0, rfl, hb0, e0⟩ := IntsAt.elem HV.out k hlt
          replace e0 := (HWr.out.cell (p := ⟨b0, off0 + k, none⟩) hb0).trans e0
          obtain ⟨b1, off1, rfl, hb1, e1⟩ := IntsAt.elem HU.out k hlf
          replace e1 := (HWr.out.cell (p := ⟨b1, off1 + k, none⟩) hb1).trans e1
          have hwt := hw.2 k hlt
          have hwy := hwf.2 k hlf
          have hit := hin k hlt
          have HS := HI.out
          rw [fitL_step k hlt hlf] at HS
          obtain ⟨t, ht⟩ : ∃ t, t = a.vals[k] := ⟨_, rfl⟩
          obtain ⟨y, hy⟩ : ∃ y, y = f.vals[k] := ⟨_, rfl⟩
          rw [← ht] at e0 hwt hit HS
          rw [← hy] at e1 hwy HS
          clear ht hy HI
          by_cases hneg : t < 0
          · have d1 : decide (t < 0) = true := decide_eq_true hneg
            have hzb : 0 ≤ -1 - t := by omega
            rw [if_pos hneg] at HS
            by_cases hey : -1 - t = y
            · have d2 : decide (-1 - t = y) = true := decide_eq_true hey
              rw [if_pos hey] at HS
              have HS2 := Lib.hid HS
              clear HS
              go_wp2
              go_roundw
              case rel => exact FitInv.mk' (k + 1) bk (by omega) (by go_num) HS2.out HN.out HO.out HW.out
              case measure => simp [intOf]; omega
            · have d2 : decide (-1 - t = y) = false := decide_eq_false hey
              rw [if_neg hey] at HS
              have HE2 := Lib.hid (FI.out bk wr false HO.out HW.out HS)
              have HQ := Lib.hid (show (fitA a f b).2 = false by rw [HS])
              clear HS
              go_wp2
              exact bodyPost_ret (v := .tuple #[.slice P2 b.length c2, .bool false]) (by simp [results, Tryz.results153, go_sem]) rfl ⟨_, by rw [HQ.out], HE2.out.1, HE2.out.2⟩
          · have d1 : decide (t < 0) = false := decide_eq_false hneg
            rw [if_neg hneg] at HS
            obtain ⟨j, rfl⟩ : ∃ j : Nat, t = (j : Int) := ⟨t.toNat, by omega⟩
            have hjb : j < b.length := by omega
            have hjk : j < bk.length := by rw [HN.out]; exact hjb
            obtain ⟨g, cap, e9, hg1, hg2, -, -⟩ := HO.out.form (by omega)
            have e2 : P2 = some ⟨g, 0, none⟩ := by injection e9
            subst e2
            clear e9
            have e2 := HO.out.cell HN.out j hjk
            rw [Int.toNat_natCast, List.getD_eq_getElem?_getD, List.getElem?_eq_getElem hjk, Option.getD_some] at HS
            obtain ⟨z, hz⟩ : ∃ z, z = bk[j] := ⟨_, rfl⟩
            rw [← hz] at e2 HS
            clear hz
            have HZ1 := Lib.hid (show w.heap.size < wr.heap.size by have h1 := HW.out.size; rw [HEz.out] at h1; omega)
            have HZ2 := Lib.hid (show w.heap.size + 1 < wr.heap.size by have h1 := HW.out.size; rw [HEz.out] at h1; omega)
            have HZ3 := Lib.hid (show b1 < wr.heap.size by have h1 := HZ1.out; omega)
            have G1 := Aft.cell (B := wr.heap.size) HZ2.out f1
            have G2 := Aft.cell (B := wr.heap.size) HZ3.out e1
            have G3 := Aft.cell (B := wr.heap.size) hg2 e2
            by_cases hz10 : z = 10
            · have d2 : (z != 10) = false := by rw [hz10]; rfl
              rw [if_pos (.inl hz10)] at HS
              have HS2 := Lib.hid HS
              clear HS hz10
              go_wp2
              refine wp_region_aft (Below.refl wr.heap.size wr) (by kernel_rfl) (by kernel_rfl) ?_
              repeat (go_big_quiet_step (((go_at_call 154; exact calls_aft_same (specL11None_c _)))))
              refine wpQuiet_nil ?_
              refine aft_end ?_
              intro w2 hh2
              have hW2 := HW.out.trans (hh2.mono HW.out.size)
              have hO2 := HO.out.below hh2 (Nat.le_refl _)
              have a2 := (hh2.cell (p := ⟨w.heap.size, 1, none⟩) HZ1.out).trans a1
              have f2 := (hh2.cell (p := ⟨w.heap.size + 1, 1, none⟩) HZ2.out).trans f1
              have e12 := (hh2.cell (p := ⟨b1, off1 + k, none⟩) HZ3.out).trans e1
              have e22 := (hh2.cell (p := ⟨g, j, none⟩) hg2).trans e2
              have fz := hO2.frozen HN.out j
              have HO3 := Lib.hid (hO2.set HN.out j y)
              have HB3 := Lib.hid (hW2.setCell (p := ⟨g, j, none⟩) hg1 (.int .i64 y))
              clear hO2 hW2
              go_wp2
              go_roundw
              case rel => exact FitInv.mk' (k + 1) (bk.set j y) (by omega) (by go_num) HS2.out (by rw [List.length_set]; exact HN.out) HO3.out HB3.out
              case measure => simp [intOf]; omega
            · have d2 : (z != 10) = true := bne_iff_ne.2 hz10
              by_cases hzy : z = y
              · have d3 : (z != y) = false := by rw [hzy]; exact bne_self_eq_false _
                rw [if_pos (.inr hzy)] at HS
                have HS2 := Lib.hid HS
                clear HS hz10 hzy
                go_wp2
                refine wp_region_aft (Below.refl wr.heap.size wr) (by kernel_rfl) (by kernel_rfl) ?_
                repeat (go_big_quiet_step (((go_at_call 154; exact calls_aft_same (specL11None_c _)))))
                refine wpQuiet_nil ?_
                refine aft_end ?_
                intro w2 hh2
                have hW2 := HW.out.trans (hh2.mono HW.out.size)
                have hO2 := HO.out.below hh2 (Nat.le_refl _)
                have a2 := (hh2.cell (p := ⟨w.heap.size, 1, none⟩) HZ1.out).trans a1
                have f2 := (hh2.cell (p := ⟨w.heap.size + 1, 1, none⟩) HZ2.out).trans f1
                have e12 := (hh2.cell (p := ⟨b1, off1 + k, none⟩) HZ3.out).trans e1
                have e22 := (hh2.cell (p := ⟨g, j, none⟩) hg2).trans e2
                have fz := hO2.frozen HN.out j
                have HO3 := Lib.hid (hO2.set HN.out j y)
                have HB3 := Lib.hid (hW2.setCell (p := ⟨g, j, none⟩) hg1 (.int .i64 y))
                clear hO2 hW2
                go_wp2
                go_roundw
                case rel => exact FitInv.mk' (k + 1) (bk.set j y) (by omega) (by go_num) HS2.out (by rw [List.length_set]; exact HN.out) HO3.out HB3.out
                case measure => simp [intOf]; omega
              · have d3 : (z != y) = true := bne_iff_ne.2 hzy
                rw [if_neg (fun h => h.elim hz10 hzy)] at HS
                have HS2 := Lib.hid HS
                have HQ := Lib.hid (show (fitA a f b).2 = false by rw [HS])
                clear HS hz10 hzy
                go_wp2
                refine wp_region_aft (Below.refl wr.heap.size wr) (by kernel_rfl) (by kernel_rfl) ?_
                repeat (go_big_quiet_step (((go_at_call 154; exact calls_aft_same (specL11None_c _)))))
                refine wpQuiet_nil ?_
                refine aft_end ?_
                intro w2 hh2
                have hW2 := HW.out.trans (hh2.mono HW.out.size)
                have hO2 := HO.out.below hh2 (Nat.le_refl _)
                have HE2 := Lib.hid (FI.out bk w2 false hO2 hW2 HS2.out)
                clear hO2 hW2
                go_wp2
                exact bodyPost_ret (v := .tuple #[.slice (some ⟨g, 0, none⟩) b.length c2, .bool false]) (by simp [results, Tryz.results153, go_sem]) rfl ⟨_, by rw [HQ.out], HE2.out.1, HE2.out.2⟩
        · obtain rfl : k = a.vals.length := by omega
          have HS := HI.out.trans (fitL_end _ (Nat.le_refl _))
          have HE2 := Lib.hid (FI.out bk wr true HO.out HW.out HS)
          have HQ := Lib.hid (show (fitA a f b).2 = true by rw [HS])
          clear HS HI
          go_wp2
          exact bodyPost_ret (v := .tuple #[.slice P2 b.length c2, .bool true]) (by simp [results, Tryz.results153, go_sem]) rfl ⟨_, by rw [HQ.out], HE2.out.1, HE2.out.2⟩
    · have hno := fitA_no (b := b) (a := a) (f := f) (fun h => hl h.2)
      have HE2 := Lib.hid (FI.out b w1 false HO1.out HB1.out hno)
      have HQ := Lib.hid (show (fitA a f b).2 = false by rw [hno])
      have dr : (a.rel != f.rel) = false := by rw [hr]; exact bne_self_eq_false _
      have dl' : ((a.vals.length : Int) != (f.vals.length : Int)) = true := bne_iff_ne.2 (by omega)
      clear hno hr
      go_wp2
      exact bodyPost_ret (v := .tuple #[.slice P2 b.length c2, .bool false]) (by simp [results, Tryz.results153, go_sem]) rfl ⟨_, by rw [HQ.out], HE2.out.1, HE2.out.2⟩
  · have hno := fitA_no (b := b) (a := a) (f := f) (fun h => hr h.1)
    have HE2 := Lib.hid (FI.out b w1 false HO1.out HB1.out hno)
    have HQ := Lib.hid (show (fitA a f b).2 = false by rw [hno])
    have dr : (a.rel != f.rel) = true := bne_iff_ne.2 hr
    clear hno
    go_wp2
    exact bodyPost_ret (v := .tuple #[.slice P2 b.length c2, .bool false]) (by simp [results, Tryz.results153, go_sem]) rfl ⟨_, by rw [HQ.out], HE2.out.1, HE2.out.2⟩

def GivesWalk (x : Inst) (l : List Atm) (n : Nat) (b : List Int) (w : World) (e : Ending) (w' : World) : Prop :=
  ∃ V Vs, e = .returned V ∧ (∃ g, V.ownBlock = some g) ∧ IntSSO w.heap.size w'.heap.size V Vs (walkM x.facts (l.drop n) b) w' ∧ Below w.heap.size w w'
def WalkInv (x : Inst) (a : Atm) (r : List Atm) (b : List Int) (Z : Nat) (E : World) (o i : Value) (wr : World) : Prop :=
  ∃ (k : Nat) (Vs : List Value), k ≤ x.facts.length ∧ i = .int .i64 k ∧ Hid (∃ g, o.ownBlock = some g) ∧ Hid (IntSSO Z wr.heap.size o Vs ((x.facts.take k).flatMap (walkF x.facts a r b)) wr) ∧ Hid (Below Z E wr)
theorem WalkInv.mk' {x : Inst} {a : Atm} {r : List Atm} {b : List Int} {Z : Nat} {E : World} {o i : Value} {wr : World} (k : Nat) (Vs : List Value) (h1 : k ≤ x.facts.length) (h2 : i = .int .i64 k) (h3 : ∃ g, o.ownBlock = some g) (h4 : IntSSO Z wr.heap.size o Vs ((x.facts.take k).flatMap (walkF x.facts a r b)) wr) (h5 : Below Z E wr) : WalkInv x a r b Z E o i wr :=
  ⟨k, Vs, h1, h2, Lib.hid h3, Lib.hid h4, Lib.hid h5⟩
set_option maxHeartbeats 6400000 in
set_option maxRecDepth 100000 in
theorem specL11Walk_any (v u : Value) (x : Inst) (l : List Atm) (hxw : Instance_wf x) (hfn : x.facts.length ≤ 30) (hlw : AtomS_wf l) (hl3 : l.length ≤ 3) (hin : ∀ (i : Nat) (h : i < l.length) (k : Nat) (hk : k < l[i].vals.length), l[i].vals[k] < 5) (m : Nat) :
    ∀ (n : Nat) (bv : Value) (b : List Int) (w : World), n + m = l.length → Instance_at w w.heap.size v x → AtomS_at w w.heap.size u l → IntsAt w w.heap.size bv b → b.length = 5 → Calls Tryz.prog 123 #[v, u, .int .i64 (n : Nat), bv] w (GivesWalk x l n b w) := by
  induction m with
  | zero =>
    intro n bv b w hnm hx hl hb hb5
    obtain ⟨P, c, Q, d, rfl⟩ := Instance_form hx
    obtain ⟨R, q, rfl, hq1, hq2⟩ := hl.form
    have HB := Lib.hid hb
    obtain ⟨S, t, rfl, ht1, ht2, -, hA⟩ := hb
    have HSN := Lib.hid (show S = none → t = 0 from hA)
    unfold maxLen at hq2 ht2
    clear hA hx hl
    obtain rfl : n = l.length := by omega
    clear hnm
    obtain ⟨E, hEq⟩ : ∃ E, E = w.alloc (.cells #[.slice P x.rels.length c, .slice Q x.facts.length d] 27) := ⟨_, rfl⟩
    have hE : Below w.heap.size w E := by rw [hEq]; exact below_more (Below.refl _ _) _
    have hF : Below E.heap.size E (E.alloc (.cells #[] 3)) := (Below.refl _ _).alloc (Nat.le_refl _) _
    have hEF := hE.trans (hF.mono hE.size)
    have HLE := Lib.hid (show IntsAt (E.alloc (.cells #[] 3)) w.heap.size (.slice S b.length t) b from SliceAt.below HB.out hEF (Nat.le_refl _))
    have HOE := Lib.hid (OwnInts.empty E E.heap.size (Nat.le_refl _))
    have HB5 := Lib.hid hb5
    have HM := Lib.hid (show walkM x.facts (l.drop l.length) b = [b] by rw [List.drop_length]; rfl)
    clear hb5
    go_enter Tryz.func123, Tryz.ntmps123
    have hle := HLE.out
    have hoe := HOE.out
    rw [hEq] at hle hoe
    go_wp2_with (at_builtin; refine ints_apps (r := b) hoe rfl _ _ rfl (by simp [go_sem]) S b.length t rfl rfl hle HSN.out (by have := HB5.out; simp; omega) (by simp) ?_; intro v1 w1 hO1 hW1 _ _; rw [List.nil_append] at hO1; obtain ⟨P2, c2, rfl, hl2, hm2, -⟩ := id hO1.at_)
    rw [← hEq] at hO1 hW1
    have hb1 : Below w.heap.size w w1 := hE.trans ((hF.trans hW1).mono hE.size)
    refine bodyPost_ret (v := .slice (some ⟨w1.heap.size, 0, none⟩) 1 1) (by simp [results, Tryz.results123, go_sem]) rfl ⟨_, [.slice P2 b.length c2], rfl, ⟨_, rfl⟩, ?_, hb1.alloc hb1.size _⟩
    rw [HM.out]
    refine ⟨rfl, ?_, fun g hg => ?_, fun i h1 h2 => ?_, List.pairwise_singleton _ _⟩
    · exact World.ownsRow_lit w1 #[.slice P2 b.length c2] 1 hb1.size (by decide) rfl
    · have : g = w1.heap.size := by simpa [Value.ownBlock] using hg.symm
      subst this; simp
    · obtain rfl : i = 0 := by simp at h1; omega
      have h3 := hO1.below ((Below.refl w1.heap.size w1).alloc (Nat.le_refl _) (.cells #[.slice P2 b.length c2] 31)) (Nat.le_refl _)
      exact (IntsO.of h3).mono hE.size (Nat.le_refl _)
  | succ m ih =>
    intro n bv b w hnm hx hl hb hb5
    have hlt : n < l.length := by omega
    have HX := Lib.hid hx
    have HL := Lib.hid hl
    have HB := Lib.hid hb
    obtain ⟨P, c, Q, d, rfl⟩ := Instance_form hx
    have HF := Lib.hid (show FactS_at w w.heap.size (.slice Q x.facts.length d) x.facts by
      obtain ⟨V1, V2, hv, hR, hF⟩ := hx
      simp only [Value.agg.injEq, Array.mk.injEq, List.cons.injEq, and_true] at hv
      obtain ⟨rfl, rfl⟩ := hv
      exact hF)
    obtain ⟨_, _, hv2, hd1, hd2⟩ := HF.out.form
    injection hv2 with e1 _ e2
    subst e1 e2
    obtain ⟨R, q, rfl, hq1, hq2⟩ := hl.form
    unfold maxLen at hq2 hd2
    obtain ⟨b0, off0, AV, rfl, hb0, c0, c1, hAV⟩ := AtomS_at.elem hl n hlt
    have HAV := Lib.hid hAV
    have HC0 := Lib.hid c0
    have HC1 := Lib.hid c1
    have hAw := hlw n hlt
    have hAi := hin n hlt
    have HD := Lib.hid (show l.drop n = l[n] :: l.drop (n + 1) from List.drop_eq_getElem_cons hlt)
    have hrl : (l.drop (n + 1)).length ≤ 2 := by rw [List.length_drop]; omega
    obtain ⟨a, ha⟩ : ∃ a, a = l[n] := ⟨_, rfl⟩
    obtain ⟨r, hr⟩ : ∃ r, r = l.drop (n + 1) := ⟨_, rfl⟩
    rw [← ha] at hAw hAi
    rw [← hr] at hrl
    rw [← ha, ← hr] at HD
    rw [← ha] at HC0 HAV
    have ih2 := fun bv b w => ih (n + 1) bv b w (by omega)
    unfold GivesWalk at ih2
    rw [← hr] at ih2
    have HIH := Lib.hid ih2
    obtain ⟨BV, BT, rfl, hbt1, hbt2, -, -⟩ := hb
    have hb0l := hb0
    clear ih ih2 hx hl c0 c1 hAV ha hr
    have dn : ((n : Int) == (l.length : Int)) = false := by rw [beq_eq_false_iff_ne]; omega
    obtain ⟨E, hEq⟩ : ∃ E, E = w.alloc (.cells #[.slice P x.rels.length c, .slice Q x.facts.length d] 27) := ⟨_, rfl⟩
    have hE : Below w.heap.size w E := by rw [hEq]; exact below_more (Below.refl _ _) _
    have HEz := Lib.hid (show E.heap.size = w.heap.size + 1 by rw [hEq]; simp)
    have X0 := Lib.hid (show E.cell? ⟨w.heap.size, 0, none⟩ = some (.slice P x.rels.length c) by rw [hEq]; simp [go_sem])
    have X1 := Lib.hid (show E.cell? ⟨w.heap.size, 1, none⟩ = some (.slice Q x.facts.length d) by rw [hEq]; simp [go_sem])
    have hF : Below E.heap.size E (E.alloc (.cells #[] 31)) := (Below.refl _ _).alloc (Nat.le_refl _) _
    have HO0 := Lib.hid (show IntSSO E.heap.size (E.alloc (.cells #[] 31)).heap.size (.slice (some ⟨E.heap.size, 0, none⟩) 0 0) [] [] (E.alloc (.cells #[] 31)) from ⟨rfl, World.ownsRow_lit E #[] 0 (Nat.le_refl _) (by decide) rfl, (fun g hg => by obtain rfl : g = E.heap.size := (by simpa [Value.ownBlock] using hg.symm); simp), (fun i h => absurd h (by simp)), List.Pairwise.nil⟩)
    have HF0 := Lib.hid hF
    have hEz2 : (w.alloc (.cells #[.slice P x.rels.length c, .slice Q x.facts.length d] 27)).heap.size = E.heap.size := by rw [hEq]
    clear hF
    have HB5 := Lib.hid hb5
    have HNM := Lib.hid hnm
    clear hb5 hnm
    go_enter Tryz.func123, Tryz.ntmps123
    go_upto_region 4 with fail
    rw [← hEq]
    clear hEq hEz2
    go_wp2
    go_loopw [9, 10, 11, 12] (fun o i _ _ wr => WalkInv x a r b E.heap.size E o i wr) (fun _ i _ _ _ => x.facts.length - (intOf i).toNat)
    case atStart => exact WalkInv.mk' 0 [] (by omega) rfl ⟨_, rfl⟩ HO0.out HF0.out
    case round =>
      obtain ⟨k, Vs, hk, rfl, HG, HS, HW⟩ := hrel
      obtain ⟨go, hgo⟩ := HG.out
      obtain ⟨co, rfl, -⟩ := own_some HS.out.row hgo
      clear hgo
      obtain ⟨L, hL⟩ : ∃ L, L = (x.facts.take k).flatMap (walkF x.facts a r b) := ⟨_, rfl⟩
      have HLn := Lib.hid (show L.length ≤ 27000 by rw [hL]; exact walkT_len x.facts hfn a r hrl b k)
      rw [← hL] at HS
      have HLL := Lib.hid hL
      clear hL
      have HWw := Lib.hid (hE.trans (HW.out.mono hE.size))
      have hzw : w.heap.size < wr.heap.size := by have h1 := HW.out.size; rw [HEz.out] at h1; omega
      have x0 := (HW.out.cell (p := ⟨w.heap.size, 0, none⟩) (by show w.heap.size < _; rw [HEz.out]; omega)).trans X0.out
      have x1 := (HW.out.cell (p := ⟨w.heap.size, 1, none⟩) (by show w.heap.size < _; rw [HEz.out]; omega)).trans X1.out
      have hez : E.heap.size ≤ wr.heap.size := HW.out.size
      by_cases hlk : k < x.facts.length
      · obtain ⟨b1, off1, FV, rfl, hb1, d0, d1, hFV⟩ := FactS_at.elem HF.out k hlk
        have HNx := Lib.hid (walkT_next x.facts a r b k hlk)
        have hfw := hxw.2 k hlk
        obtain ⟨f, hf⟩ : ∃ f, f = x.facts[k] := ⟨_, rfl⟩
        rw [← hf] at d0 hFV hfw HNx
        clear hf
        obtain ⟨AA, ac, rfl, -⟩ := id HAV.out
        obtain ⟨FA, fc, rfl, -⟩ := id hFV
        have HFV := Lib.hid hFV
        have G0 := Aft.cell (B := wr.heap.size) (Nat.lt_of_lt_of_le hb0 HWw.out.size) ((HWw.out.cell (p := ⟨b0, off0 + n * 2, none⟩) hb0).trans HC0.out)
        have G1 := Aft.cell (B := wr.heap.size) (Nat.lt_of_lt_of_le hb0 HWw.out.size) ((HWw.out.cell (p := ⟨b0, off0 + n * 2 + 1, none⟩) hb0).trans HC1.out)
        have G2 := Aft.cell (B := wr.heap.size) (Nat.lt_of_lt_of_le hb1 HWw.out.size) ((HWw.out.cell (p := ⟨b1, off1 + k * 2, none⟩) hb1).trans d0)
        have G3 := Aft.cell (B := wr.heap.size) (Nat.lt_of_lt_of_le hb1 HWw.out.size) ((HWw.out.cell (p := ⟨b1, off1 + k * 2 + 1, none⟩) hb1).trans d1)
        have G4 := Aft.cell (B := wr.heap.size) hzw x1
        have hWd : Below w.heap.size w wr.drew := HWw.out.drew
        have hcon := specL11Fit_any (.agg #[.int .i64 a.rel, .slice AA a.vals.length ac]) a (.agg #[.int .i64 f.rel, .slice FA f.vals.length fc]) f (.slice BV b.length BT) b wr.drew ⟨_, rfl, (HAV.out.below hWd (Nat.le_refl _)).more hWd.size⟩ hAw ⟨_, rfl, (HFV.out.below hWd (Nat.le_refl _)).more hWd.size⟩ hfw ((HB.out.below hWd (Nat.le_refl _)).more hWd.size) (by have := HB5.out; omega) (fun k hk => by have h1 := HB5.out; have h2 := hAi k hk; omega)
        obtain ⟨ok, hok⟩ : ∃ ok, ok = (fitA a f b).2 := ⟨_, rfl⟩
        obtain ⟨bn, hbn⟩ : ∃ bn, bn = (fitA a f b).1 := ⟨_, rfl⟩
        have HBN := Lib.hid (show bn.length = 5 by rw [hbn, fitA_len]; exact HB5.out)
        have HSTEP := Lib.hid (show walkF x.facts a r b f = if ok = true then walkM x.facts r bn else [] by rw [hok, hbn]; rfl)
        rw [← hok, ← hbn] at hcon
        have HCON := Lib.hid hcon
        clear hok hbn hcon d0 d1 hFV
        go_wp2
        refine wp_region_planL (C := fun w' => ∃ u : Aft wr.heap.size wr, w' = u.now) (.still 0 (.still 1 (.still 2 (.still 3 (.still 4 (.still 5 (.still 6 (.still 7 (.still 8 (.still 9 (.move true 10 (.still 11 (.still 12 (.still 13 (.still 14 (.still 15 .done))))) .none))))))))))) (by kernel_rfl) (by kernel_rfl) (by kernel_rfl) (fun _ => ⟨⟨wr.drew, (Below.refl _ _).drew⟩, rfl⟩) ?_
        iterate 10
          refine plan_look _ rfl rfl ?_
          go_big_quiet_step (fail)
          refine wpQuiet_nil ?_
        refine plan_call _ 153 _ _ _ _ _ rfl _ Tryz.func153 (by kernel_rfl) (by kernel_rfl) ?_ True.intro
        refine HCON.out.mono ?_
        rintro _ w2 ⟨V', rfl, hO', hb2⟩
        have hb2' : Below wr.heap.size wr w2 := (show Below wr.heap.size wr wr.drew from (Below.refl _ _).drew).trans hb2
        refine ⟨_, rfl, fun _ => ⟨⟨w2, hb2'⟩, rfl⟩, ?_⟩
        refine plan_put ?_ (by simp only [Act.put, List.setIfInBounds_toArray, List.set_cons_succ, List.set_cons_zero]; rfl)
        iterate 5
          refine plan_look _ rfl rfl ?_
          go_big_quiet_step (fail)
          refine wpQuiet_nil ?_
        refine plan_done ?_
        have hwW2 : Below w.heap.size w w2 := HWw.out.trans (hb2'.mono HWw.out.size)
        have HS2 := Lib.hid (HS.out.below hb2' (Nat.le_refl _))
        have HW2 := Lib.hid (show Below E.heap.size E w2 from HW.out.trans (hb2'.mono hez))
        have hz2 := hb2'.size
        have y0 := (hb2'.cell (p := ⟨w.heap.size, 0, none⟩) hzw).trans x0
        have y1 := (hb2'.cell (p := ⟨w.heap.size, 1, none⟩) hzw).trans x1
        have HO2 := Lib.hid hO'
        clear x0 x1 hO' hb2 hb2'
        cases ok with
        | false =>
          have HN2 := Lib.hid (show (x.facts.take (k + 1)).flatMap (walkF x.facts a r b) = L by rw [HNx.out, HSTEP.out, ← HLL.out]; simp)
          go_wp2
          go_roundw
          case rel => exact WalkInv.mk' (k + 1) Vs (by omega) (by go_num) ⟨_, rfl⟩ (by rw [HN2.out]; exact HS2.out.mono (Nat.le_refl _) hz2) HW2.out
          case measure => simp [intOf]; omega
        | true =>
          have HN2 := Lib.hid (show (x.facts.take (k + 1)).flatMap (walkF x.facts a r b) = L ++ walkM x.facts r bn by rw [HNx.out, HSTEP.out, ← HLL.out]; rfl)
          have HMl := Lib.hid (walkM_900 x.facts hfn r hrl bn)
          have hrec := HIH.out V' bn w2 ((HX.out.below hwW2 (Nat.le_refl _)).more hwW2.size) ((HL.out.below hwW2 (Nat.le_refl _)).more hwW2.size) HO2.out.at_ HBN.out
          rw [show ((n + 1 : Nat) : Int) = (n : Int) + 1 from by omega] at hrec
          go_wp2_with fail
          refine hrec.mono ?_
          rintro e w3 ⟨U, Us, rfl, hUg, hUS, hb3⟩
          have HS3 := Lib.hid ((HS2.out.below hb3 hz2).mono (Nat.le_refl _) hz2)
          have HW3 := Lib.hid (HW2.out.trans (hb3.mono HW2.out.size))
          have HUS := Lib.hid hUS
          have HUG := Lib.hid hUg
          have hz3 := hb3.size
          clear hrec hUS hUg hb3
          go_wp2_with (at_builtin; refine ss_apps HS3.out rfl _ _ rfl rfl rfl HUS.out HUG.out ⟨_, rfl⟩ (by omega) hz3 (Nat.le_refl _) (by have h1 := HLn.out; have h2 := HMl.out; omega) ?_; intro v5 w5 hO5 hg5 hB5)
          go_roundw
          case rel => exact WalkInv.mk' (k + 1) (Vs ++ Us) (by omega) (by go_num) hg5 (by rw [HN2.out]; exact hO5) (HW3.out.trans hB5)
          case measure => simp [intOf]; omega
      · obtain rfl : k = x.facts.length := by omega
        have HM := Lib.hid (show walkM x.facts (l.drop n) b = L by rw [HLL.out, HD.out, List.take_of_length_le (Nat.le_refl _)]; rfl)
        go_wp2
        refine bodyPost_ret (v := .slice (some ⟨go, 0, none⟩) Vs.length co) (by simp [results, Tryz.results123, go_sem]) rfl ⟨_, Vs, rfl, ⟨_, rfl⟩, ?_, HWw.out⟩
        rw [HM.out]
        exact HS.out.mono hE.size (Nat.le_refl _)

end Go.Proofs.YtobdijcnfmgidaaGreat
