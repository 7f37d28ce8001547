/-
  Walks and plain lemmas for the laws of this seat: what single Go functions return, for every argument.
-/
import Derived.Test.YtobdijcnfmgidaaBase
import Derived.Test.YtobdijcnfmgidaaMem
import Derived.Test.YtobdijcnfmgidaaInts
import Derived.Test.YtobdijcnfmgidaaDrawR
import Derived.Test.YtobdijcnfmgidaaAft
import Derived.Test.YtobdijcnfmgidaaTyInst
import Derived.Test.YtobdijcnfmgidaaTyAtom
namespace Go.Proofs.Ytobdijcnfmgidaa
open Go.RowKit

/-- an atom's terms laid against a row of values under a binding; 10 stands for 'not bound' -/
def fitL : List Int → List Int → List Int → List Int × Bool
  | t :: ts, v :: vs, b => if t < 0 then (if -1 - t = v then fitL ts vs b else (b, false)) else if b.getD t.toNat 0 = 10 ∨ b.getD t.toNat 0 = v then fitL ts vs (b.set t.toNat v) else (b, false)
  | _, _, b => (b, true)
def fitA (a : Atm) (f : Fct) (b : List Int) : List Int × Bool := if a.rel = f.rel ∧ a.vals.length = f.vals.length then fitL a.vals f.vals b else (b, false)
theorem fitA_no {a : Atm} {f : Fct} {b : List Int} (h : ¬(a.rel = f.rel ∧ a.vals.length = f.vals.length)) : fitA a f b = (b, false) := if_neg h
theorem fitA_yes {a : Atm} {f : Fct} {b : List Int} (h1 : a.rel = f.rel) (h2 : a.vals.length = f.vals.length) : fitA a f b = fitL a.vals f.vals b := if_pos ⟨h1, h2⟩
theorem fitL_step {ts vs b : List Int} (k : Nat) (h1 : k < ts.length) (h2 : k < vs.length) : fitL (ts.drop k) (vs.drop k) b = if ts[k] < 0 then (if -1 - ts[k] = vs[k] then fitL (ts.drop (k + 1)) (vs.drop (k + 1)) b else (b, false)) else if b.getD ts[k].toNat 0 = 10 ∨ b.getD ts[k].toNat 0 = vs[k] then fitL (ts.drop (k + 1)) (vs.drop (k + 1)) (b.set ts[k].toNat vs[k]) else (b, false) := by
  rw [List.drop_eq_getElem_cons h1, List.drop_eq_getElem_cons h2, fitL]
theorem fitL_end {ts vs b : List Int} (k : Nat) (h1 : ts.length ≤ k) : fitL (ts.drop k) (vs.drop k) b = (b, true) := by
  rw [List.drop_eq_nil_of_le h1, fitL]
  intro t ts v vs h; cases h
theorem fitL_len (ts vs b : List Int) : (fitL ts vs b).1.length = b.length := by
  induction ts generalizing vs b with
  | nil => rw [fitL]; intro t ts v vs h; cases h
  | cons t ts ih =>
    cases vs with
    | nil => rw [fitL]; intro t ts v vs _ h; cases h
    | cons v vs =>
      rw [fitL]
      split
      · split
        · exact ih vs b
        · rfl
      · split
        · rw [ih vs]; simp
        · rfl
theorem fitA_len (a : Atm) (f : Fct) (b : List Int) : (fitA a f b).1.length = b.length := by
  unfold fitA
  split
  · exact fitL_len _ _ _
  · rfl
def FitInv (a : Atm) (f : Fct) (b : List Int) (Z : Nat) (E : World) (V : Value) (kv : Value) (wq : World) : Prop :=
  ∃ (k : Nat) (bk : List Int), k ≤ a.vals.length ∧ kv = .int .i64 k ∧ Hid (fitA a f b = fitL (a.vals.drop k) (f.vals.drop k) bk) ∧ Hid (bk.length = b.length) ∧ OwnInts Z V bk wq ∧ Hid (Below Z E wq)
theorem FitInv.mk' {a : Atm} {f : Fct} {b : List Int} {Z : Nat} {E : World} {V : Value} {kv : Value} {wq : World} (k : Nat) (bk : List Int) (h1 : k ≤ a.vals.length) (h2 : kv = .int .i64 k) (h3 : fitA a f b = fitL (a.vals.drop k) (f.vals.drop k) bk) (h4 : bk.length = b.length) (h5 : OwnInts Z V bk wq) (h6 : Below Z E wq) : FitInv a f b Z E V kv wq :=
  ⟨k, bk, h1, h2, Lib.hid h3, Lib.hid h4, h5, Lib.hid h6⟩

/-- the bindings that lay all atoms into the facts -/
def walkM (fs : List Fct) : List Atm → List Int → List (List Int)
  | [], b => [b]
  | a :: r, b => fs.flatMap fun f => if (fitA a f b).2 = true then walkM fs r (fitA a f b).1 else []
def walkF (fs : List Fct) (a : Atm) (r : List Atm) (b : List Int) (f : Fct) : List (List Int) := if (fitA a f b).2 = true then walkM fs r (fitA a f b).1 else []
theorem walkM_cons (fs : List Fct) (a : Atm) (r : List Atm) (b : List Int) : walkM fs (a :: r) b = fs.flatMap (walkF fs a r b) := rfl
theorem flatMap_le {α β : Type} (g : α → List β) (N : Nat) (l : List α) (h : ∀ f ∈ l, (g f).length ≤ N) : (l.flatMap g).length ≤ l.length * N := by
  induction l with
  | nil => simp
  | cons a t ih =>
    rw [List.flatMap_cons, List.length_append, List.length_cons, Nat.succ_mul]
    have h1 := h a List.mem_cons_self
    have h2 := ih (fun f hf => h f (List.mem_cons_of_mem _ hf))
    omega
theorem walkM_len (fs : List Fct) (hf : fs.length ≤ 30) (l : List Atm) (b : List Int) : (walkM fs l b).length ≤ 30 ^ l.length := by
  induction l generalizing b with
  | nil => simp [walkM]
  | cons a r ih =>
    rw [walkM_cons]
    refine Nat.le_trans (flatMap_le _ (30 ^ r.length) fs (fun f _ => ?_)) ?_
    · unfold walkF
      split
      · exact ih _
      · simp
    · rw [List.length_cons, Nat.pow_succ, Nat.mul_comm (30 ^ r.length)]
      exact Nat.mul_le_mul_right _ hf
theorem walkM_900 (fs : List Fct) (hf : fs.length ≤ 30) (l : List Atm) (hl : l.length ≤ 2) (b : List Int) : (walkM fs l b).length ≤ 900 := by
  refine Nat.le_trans (walkM_len fs hf l b) ?_
  rcases (show l.length = 0 ∨ l.length = 1 ∨ l.length = 2 by omega) with h | h | h <;> rw [h] <;> decide
theorem walkF_900 (fs : List Fct) (hf : fs.length ≤ 30) (a : Atm) (r : List Atm) (hl : r.length ≤ 2) (b : List Int) (f : Fct) : (walkF fs a r b f).length ≤ 900 := by
  unfold walkF
  split
  · exact walkM_900 fs hf r hl _
  · simp
theorem walkT_len (fs : List Fct) (hf : fs.length ≤ 30) (a : Atm) (r : List Atm) (hl : r.length ≤ 2) (b : List Int) (k : Nat) : ((fs.take k).flatMap (walkF fs a r b)).length ≤ 27000 := by
  refine Nat.le_trans (flatMap_le _ 900 _ (fun f _ => walkF_900 fs hf a r hl b f)) ?_
  have : (fs.take k).length ≤ 30 := by rw [List.length_take]; omega
  omega
theorem walkT_next (fs : List Fct) (a : Atm) (r : List Atm) (b : List Int) (k : Nat) (hk : k < fs.length) : (fs.take (k + 1)).flatMap (walkF fs a r b) = (fs.take k).flatMap (walkF fs a r b) ++ walkF fs a r b fs[k] := by
  rw [List.take_succ_eq_append_getElem hk, List.flatMap_append, List.flatMap_cons, List.flatMap_nil, List.append_nil]

theorem specL11None_c (w : World) : Calls Try.prog 101 #[] w fun e w' => e = .returned (.int .i64 10) ∧ w = w' := by
  go_enter Try.func101, Try.ntmps101
  go_wp2
  go_ret
  exact ⟨rfl, rfl⟩

set_option maxHeartbeats 6400000 in
set_option maxRecDepth 100000 in
theorem specL11Fit_any (v : Value) (a : Atm) (u : Value) (f : Fct) (x : Value) (b : List Int) (w : World) (h : Atom_at w w.heap.size v a) (hw : Atom_wf a) (h' : Fact_at w w.heap.size u f) (hwf : Fact_wf f) (h'' : IntsAt w w.heap.size x b) (hn : b.length ≤ 1048576) (hin : ∀ (k : Nat) (hk : k < a.vals.length), a.vals[k] < b.length) :
    Calls Try.prog 100 #[v, u, x] w fun e w' => ∃ V, e = .returned (.tuple #[V, .bool (fitA a f b).2]) ∧ OwnInts w.heap.size V (fitA a f b).1 w' ∧ Below w.heap.size w w' := by
  obtain ⟨V0, rfl, hV⟩ := h
  obtain ⟨V1, rfl, hU⟩ := h'
  have HV := Lib.hid hV
  have HU := Lib.hid hU
  have HB := Lib.hid h''
  obtain ⟨P, c, rfl, hc1, hc2, -⟩ := hV
  obtain ⟨Q, d, rfl, hd1, hd2, -⟩ := hU
  obtain ⟨R, q, rfl, hq1, hq2, -, hA⟩ := h''
  have HRN := Lib.hid (show R = none → q = 0 from hA)
  clear hA
  unfold maxLen at hc2 hd2 hq2
  obtain ⟨E, hEq⟩ : ∃ E, E = ((w.alloc (.cells #[.int .i64 a.rel, .slice P a.vals.length c] 48)).alloc (.cells #[.int .i64 f.rel, .slice Q f.vals.length d] 44)) := ⟨_, rfl⟩
  have hE : Below w.heap.size w E := by rw [hEq]; exact below_more (below_more (Below.refl _ _) _) _
  have HEz := Lib.hid (show E.heap.size = w.heap.size + 2 by rw [hEq]; simp)
  have A0 := Lib.hid (show E.cell? ⟨w.heap.size, 0, none⟩ = some (.int .i64 a.rel) by rw [hEq]; simp [go_sem])
  have A1 := Lib.hid (show E.cell? ⟨w.heap.size, 1, none⟩ = some (.slice P a.vals.length c) by rw [hEq]; simp [go_sem])
  have F0 := Lib.hid (show E.cell? ⟨w.heap.size + 1, 0, none⟩ = some (.int .i64 f.rel) by rw [hEq]; simp [go_sem])
  have F1 := Lib.hid (show E.cell? ⟨w.heap.size + 1, 1, none⟩ = some (.slice Q f.vals.length d) by rw [hEq]; simp [go_sem])
  have hF : Below E.heap.size E (E.alloc (.cells #[] 3)) := (Below.refl _ _).alloc (Nat.le_refl _) _
  have hEF := hE.trans (hF.mono hE.size)
  have HLE := Lib.hid (show IntsAt (E.alloc (.cells #[] 3)) w.heap.size (.slice R b.length q) b from SliceAt.below HB.out hEF (Nat.le_refl _))
  have HOE := Lib.hid (OwnInts.empty E E.heap.size (Nat.le_refl _))
  go_enter Try.func100, Try.ntmps100
  have hle := HLE.out
  have hoe := HOE.out
  rw [hEq] at hle hoe
  go_upto_region 2 with (at_builtin; refine ints_apps (r := b) hoe rfl _ _ rfl (by simp [go_sem]) R b.length q rfl rfl hle HRN.out (by simp; omega) (by simp) ?_; intro v1 w1 hO1 hW1 _ _; rw [List.nil_append] at hO1; obtain ⟨P2, c2, rfl, hl2, hm2, -⟩ := id hO1.at_)
  rw [← hEq] at hO1 hW1
  clear hle hoe
  unfold maxLen at hm2
  have hb1 : Below E.heap.size E w1 := hF.trans hW1
  clear hW1 hEq hF HLE HOE hEF
  have a0 := (hb1.cell (p := ⟨w.heap.size, 0, none⟩) (by show w.heap.size < _; have := HEz.out; omega)).trans A0.out
  have a1 := (hb1.cell (p := ⟨w.heap.size, 1, none⟩) (by show w.heap.size < _; have := HEz.out; omega)).trans A1.out
  have f0 := (hb1.cell (p := ⟨w.heap.size + 1, 0, none⟩) (by show w.heap.size + 1 < _; have := HEz.out; omega)).trans F0.out
  have f1 := (hb1.cell (p := ⟨w.heap.size + 1, 1, none⟩) (by show w.heap.size + 1 < _; have := HEz.out; omega)).trans F1.out
  have HO1 := Lib.hid hO1
  have HB1 := Lib.hid hb1
  have hz : w.heap.size ≤ E.heap.size := hE.size
  have HZ := Lib.hid hz
  clear hO1 hb1 hz
  have fin : ∀ (bk : List Int) (wq : World) (r : Bool), OwnInts E.heap.size (.slice P2 b.length c2) bk wq → Below E.heap.size E wq → fitA a f b = (bk, r) → OwnInts w.heap.size (.slice P2 b.length c2) (fitA a f b).1 wq ∧ Below w.heap.size w wq := fun bk wq r h1 h2 h3 => by
    rw [h3]; exact ⟨h1.mono HZ.out, hE.trans (h2.mono HZ.out)⟩
  have FI := Lib.hid fin
  clear fin
  by_cases hr : a.rel = f.rel
  · by_cases hl : a.vals.length = f.vals.length
    · have HFA := Lib.hid (fitA_yes (b := b) hr hl)
      have HL := Lib.hid hl
      have dr : (a.rel != f.rel) = false := by rw [hr]; exact bne_self_eq_false _
      have dl' : ((a.vals.length : Int) != (f.vals.length : Int)) = false := by rw [hl]; exact bne_self_eq_false _
      clear hl hr
      go_wp2
      clear a0 a1 f0 f1 dr dl'
      go_loopw [9, 10] (fun i _ wr => FitInv a f b E.heap.size E (.slice P2 b.length c2) i wr) (fun i _ _ => a.vals.length - (intOf i).toNat)
      case atStart => exact FitInv.mk' 0 b (by omega) rfl (by rw [HFA.out]; rfl) rfl HO1.out HB1.out
      case round =>
        obtain ⟨k, bk, hk, rfl, HI, HN, hO, HW⟩ := hrel
        have a1 := (HW.out.cell (p := ⟨w.heap.size, 1, none⟩) (by show w.heap.size < _; have := HEz.out; omega)).trans A1.out
        have f1 := (HW.out.cell (p := ⟨w.heap.size + 1, 1, none⟩) (by show w.heap.size + 1 < _; have := HEz.out; omega)).trans F1.out
        have HO := Lib.hid hO
        clear hO
        have HWr := Lib.hid (show Below w.heap.size w wr from hE.trans (HW.out.mono HZ.out))
        by_cases hlt : k < a.vals.length
        · have hlf : k < f.vals.length := by have := HL.out; omega
          obtain ⟨b0, off0, rfl, hb0, e0⟩ := IntsAt.elem HV.out k hlt
          replace e0 := (HWr.out.cell (p := ⟨b0, off0 + k, none⟩) hb0).trans e0
          obtain ⟨b1, off1, rfl, hb1, e1⟩ := IntsAt.elem HU.out k hlf
          replace e1 := (HWr.out.cell (p := ⟨b1, off1 + k, none⟩) hb1).trans e1
          have hwt := hw.2 k hlt
          have hwy := hwf.2 k hlf
          have hit := hin k hlt
          have HS := HI.out
          rw [fitL_step k hlt hlf] at HS
          obtain ⟨t, ht⟩ : ∃ t, t = a.vals[k] := ⟨_, rfl⟩
          obtain ⟨y, hy⟩ : ∃ y, y = f.vals[k] := ⟨_, rfl⟩
          rw [← ht] at e0 hwt hit HS
          rw [← hy] at e1 hwy HS
          clear ht hy HI
          by_cases hneg : t < 0
          · have d1 : decide (t < 0) = true := decide_eq_true hneg
            have hzb : 0 ≤ -1 - t := by omega
            rw [if_pos hneg] at HS
            by_cases hey : -1 - t = y
            · have d2 : decide (-1 - t = y) = true := decide_eq_true hey
              rw [if_pos hey] at HS
              have HS2 := Lib.hid HS
              clear HS
              go_wp2
              go_roundw
              case rel => exact FitInv.mk' (k + 1) bk (by omega) (by go_num) HS2.out HN.out HO.out HW.out
              case measure => simp [intOf]; omega
            · have d2 : decide (-1 - t = y) = false := decide_eq_false hey
              rw [if_neg hey] at HS
              have HE2 := Lib.hid (FI.out bk wr false HO.out HW.out HS)
              have HQ := Lib.hid (show (fitA a f b).2 = false by rw [HS])
              clear HS
              go_wp2
              exact bodyPost_ret (v := .tuple #[.slice P2 b.length c2, .bool false]) (by simp [results, Try.results100, go_sem]) rfl ⟨_, by rw [HQ.out], HE2.out.1, HE2.out.2⟩
          · have d1 : decide (t < 0) = false := decide_eq_false hneg
            rw [if_neg hneg] at HS
            obtain ⟨j, rfl⟩ : ∃ j : Nat, t = (j : Int) := ⟨t.toNat, by omega⟩
            have hjb : j < b.length := by omega
            have hjk : j < bk.length := by rw [HN.out]; exact hjb
            obtain ⟨g, cap, e9, hg1, hg2, -, -⟩ := HO.out.form (by omega)
            have e2 : P2 = some ⟨g, 0, none⟩ := by injection e9
            subst e2
            clear e9
            have e2 := HO.out.cell HN.out j hjk
            rw [Int.toNat_natCast, List.getD_eq_getElem?_getD, List.getElem?_eq_getElem hjk, Option.getD_some] at HS
            obtain ⟨z, hz⟩ : ∃ z, z = bk[j] := ⟨_, rfl⟩
            rw [← hz] at e2 HS
            clear hz
            have HZ1 := Lib.hid (show w.heap.size < wr.heap.size by have h1 := HW.out.size; rw [HEz.out] at h1; omega)
            have HZ2 := Lib.hid (show w.heap.size + 1 < wr.heap.size by have h1 := HW.out.size; rw [HEz.out] at h1; omega)
            have HZ3 := Lib.hid (show b1 < wr.heap.size by have h1 := HZ1.out; omega)
            have G1 := Aft.cell (B := wr.heap.size) HZ2.out f1
            have G2 := Aft.cell (B := wr.heap.size) HZ3.out e1
            have G3 := Aft.cell (B := wr.heap.size) hg2 e2
            by_cases hz10 : z = 10
            · have d2 : (z != 10) = false := by rw [hz10]; rfl
              rw [if_pos (.inl hz10)] at HS
              have HS2 := Lib.hid HS
              clear HS hz10
              go_wp2
              refine wp_region_aft (Below.refl wr.heap.size wr) (by kernel_rfl) (by kernel_rfl) ?_
              repeat (go_big_quiet_step (((go_at_call 101; exact calls_aft_same (specL11None_c _)))))
              refine wpQuiet_nil ?_
              refine aft_end ?_
              intro w2 hh2
              have hW2 := HW.out.trans (hh2.mono HW.out.size)
              have hO2 := HO.out.below hh2 (Nat.le_refl _)
              have a2 := (hh2.cell (p := ⟨w.heap.size, 1, none⟩) HZ1.out).trans a1
              have f2 := (hh2.cell (p := ⟨w.heap.size + 1, 1, none⟩) HZ2.out).trans f1
              have e12 := (hh2.cell (p := ⟨b1, off1 + k, none⟩) HZ3.out).trans e1
              have e22 := (hh2.cell (p := ⟨g, j, none⟩) hg2).trans e2
              have fz := hO2.frozen HN.out j
              have HO3 := Lib.hid (hO2.set HN.out j y)
              have HB3 := Lib.hid (hW2.setCell (p := ⟨g, j, none⟩) hg1 (.int .i64 y))
              clear hO2 hW2
              go_wp2
              go_roundw
              case rel => exact FitInv.mk' (k + 1) (bk.set j y) (by omega) (by go_num) HS2.out (by rw [List.length_set]; exact HN.out) HO3.out HB3.out
              case measure => simp [intOf]; omega
            · have d2 : (z != 10) = true := bne_iff_ne.2 hz10
              by_cases hzy : z = y
              · have d3 : (z != y) = false := by rw [hzy]; exact bne_self_eq_false _
                rw [if_pos (.inr hzy)] at HS
                have HS2 := Lib.hid HS
                clear HS hz10 hzy
                go_wp2
                refine wp_region_aft (Below.refl wr.heap.size wr) (by kernel_rfl) (by kernel_rfl) ?_
                repeat (go_big_quiet_step (((go_at_call 101; exact calls_aft_same (specL11None_c _)))))
                refine wpQuiet_nil ?_
                refine aft_end ?_
                intro w2 hh2
                have hW2 := HW.out.trans (hh2.mono HW.out.size)
                have hO2 := HO.out.below hh2 (Nat.le_refl _)
                have a2 := (hh2.cell (p := ⟨w.heap.size, 1, none⟩) HZ1.out).trans a1
                have f2 := (hh2.cell (p := ⟨w.heap.size + 1, 1, none⟩) HZ2.out).trans f1
                have e12 := (hh2.cell (p := ⟨b1, off1 + k, none⟩) HZ3.out).trans e1
                have e22 := (hh2.cell (p := ⟨g, j, none⟩) hg2).trans e2
                have fz := hO2.frozen HN.out j
                have HO3 := Lib.hid (hO2.set HN.out j y)
                have HB3 := Lib.hid (hW2.setCell (p := ⟨g, j, none⟩) hg1 (.int .i64 y))
                clear hO2 hW2
                go_wp2
                go_roundw
                case rel => exact FitInv.mk' (k + 1) (bk.set j y) (by omega) (by go_num) HS2.out (by rw [List.length_set]; exact HN.out) HO3.out HB3.out
                case measure => simp [intOf]; omega
              · have d3 : (z != y) = true := bne_iff_ne.2 hzy
                rw [if_neg (fun h => h.elim hz10 hzy)] at HS
                have HS2 := Lib.hid HS
                have HQ := Lib.hid (show (fitA a f b).2 = false by rw [HS])
                clear HS hz10 hzy
                go_wp2
                refine wp_region_aft (Below.refl wr.heap.size wr) (by kernel_rfl) (by kernel_rfl) ?_
                repeat (go_big_quiet_step (((go_at_call 101; exact calls_aft_same (specL11None_c _)))))
                refine wpQuiet_nil ?_
                refine aft_end ?_
                intro w2 hh2
                have hW2 := HW.out.trans (hh2.mono HW.out.size)
                have hO2 := HO.out.below hh2 (Nat.le_refl _)
                have HE2 := Lib.hid (FI.out bk w2 false hO2 hW2 HS2.out)
                clear hO2 hW2
                go_wp2
                exact bodyPost_ret (v := .tuple #[.slice (some ⟨g, 0, none⟩) b.length c2, .bool false]) (by simp [results, Try.results100, go_sem]) rfl ⟨_, by rw [HQ.out], HE2.out.1, HE2.out.2⟩
        · obtain rfl : k = a.vals.length := by omega
          have HS := HI.out.trans (fitL_end _ (Nat.le_refl _))
          have HE2 := Lib.hid (FI.out bk wr true HO.out HW.out HS)
          have HQ := Lib.hid (show (fitA a f b).2 = true by rw [HS])
          clear HS HI
          go_wp2
          exact bodyPost_ret (v := .tuple #[.slice P2 b.length c2, .bool true]) (by simp [results, Try.results100, go_sem]) rfl ⟨_, by rw [HQ.out], HE2.out.1, HE2.out.2⟩
    · have hno := fitA_no (b := b) (a := a) (f := f) (fun h => hl h.2)
      have HE2 := Lib.hid (FI.out b w1 false HO1.out HB1.out hno)
      have HQ := Lib.hid (show (fitA a f b).2 = false by rw [hno])
      have dr : (a.rel != f.rel) = false := by rw [hr]; exact bne_self_eq_false _
      have dl' : ((a.vals.length : Int) != (f.vals.length : Int)) = true := bne_iff_ne.2 (by omega)
      clear hno hr
      go_wp2
      exact bodyPost_ret (v := .tuple #[.slice P2 b.length c2, .bool false]) (by simp [results, Try.results100, go_sem]) rfl ⟨_, by rw [HQ.out], HE2.out.1, HE2.out.2⟩
  · have hno := fitA_no (b := b) (a := a) (f := f) (fun h => hr h.1)
    have HE2 := Lib.hid (FI.out b w1 false HO1.out HB1.out hno)
    have HQ := Lib.hid (show (fitA a f b).2 = false by rw [hno])
    have dr : (a.rel != f.rel) = true := bne_iff_ne.2 hr
    clear hno
    go_wp2
    exact bodyPost_ret (v := .tuple #[.slice P2 b.length c2, .bool false]) (by simp [results, Try.results100, go_sem]) rfl ⟨_, by rw [HQ.out], HE2.out.1, HE2.out.2⟩

end Go.Proofs.Ytobdijcnfmgidaa
