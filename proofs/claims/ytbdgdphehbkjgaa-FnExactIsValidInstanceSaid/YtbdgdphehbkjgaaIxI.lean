/-
  Walks and plain lemmas for the laws of this seat: what single Go functions return, for every argument.
-/
import Derived.Shelf.Abstract
import Derived.Test.YtbdgdphehbkjgaaInts
import Derived.Test.YtbdgdphehbkjgaaNum
import Derived.Test.YtbdgdphehbkjgaaMImpl5
import Derived.Test.YtbdgdphehbkjgaaFactVI
namespace Go.Proofs.Ytbdgdphehbkjgaa
open Go.RowKit

set_option maxHeartbeats 1600000 in
set_option maxRecDepth 100000 in
theorem implIxNeg_any (v : Value) (l : List Int) (w : World) (hl : IntsAt w w.heap.size v l) :
    Calls Try.prog 128 #[v, .func (.func 107) #[] #[]] w fun e w' => e = .returned (.int .i64 (ixOf (fun v => decide (v < 0)) l)) ∧ Below w.heap.size w w' := by
  have HL := Lib.hid hl
  obtain ⟨A, c, rfl, hlc, hcm, -⟩ := hl
  unfold maxLen at hcm
  have eg : ∀ args w, (callFunc 107 args).run Try.prog w = .ok (.enter 107 args) w := enters_of Try.func107 (by kernel_rfl) rfl
  go_enter Try.func128, Try.ntmps128
  go_wp2
  go_loopw [8] (fun i wr => ∃ k : Nat, k ≤ l.length ∧ i = .int .i64 k ∧ Hid (IxTo (fun v => decide (v < 0)) l k) ∧ Below w.heap.size w wr) (fun i _ => l.length - (intOf i).toNat)
  case atStart => exact ⟨0, by omega, rfl, Lib.hid (IxTo.zero _ _), Below.refl _ _⟩
  case round =>
    obtain ⟨k, hk, rfl, HI, hW⟩ := hrel
    have hz := hW.size
    by_cases hlt : k < l.length
    · obtain ⟨b, off, rfl, hb, c0⟩ := IntsAt.elem HL.out k hlt
      replace c0 := (hW.cell (p := ⟨b, off + k, none⟩) hb).trans c0
      have hcall := implIsNull_any l[k] wr
      cases hp : decide (l[k] < 0) with
      | true =>
        have HV := Lib.hid (HI.out.hit hlt hp)
        rw [hp] at hcall
        clear hp
        go_wp2_with (go_at_fn 107; refine hcall.mono ?_; rintro e w1 ⟨rfl, rfl⟩)
        go_ret
        exact ⟨ret_int HV.out.symm, hW⟩
      | false =>
        have HV := Lib.hid (HI.out.next hlt hp)
        rw [hp] at hcall
        clear hp
        go_wp2_with (go_at_fn 107; refine hcall.mono ?_; rintro e w1 ⟨rfl, rfl⟩)
        go_roundw
        case rel => exact ⟨k + 1, by omega, by go_num, HV, hW⟩
        case measure => simp [intOf]; omega
    · obtain rfl : k = l.length := by omega
      have HV := Lib.hid HI.out.miss
      go_wp2
      go_ret
      exact ⟨ret_int HV.out.symm, hW⟩
theorem implAnyNeg_at (q : Bool) (v : Value) (l : List Int) (hq : negAny l = q) (w : World) (hl : IntsAt w w.heap.size v l) :
    Calls Try.prog 106 #[v, .func (.func 107) #[] #[]] w fun e w' => e = .returned (.bool q) ∧ Below w.heap.size w w' := by
  subst hq
  have hi := implIxNeg_any v l w hl
  have HV := Lib.hid (ixOf_any (fun v : Int => decide (v < 0)) l)
  generalize ixOf (fun v : Int => decide (v < 0)) l = q at *
  obtain ⟨A, c, rfl, hlc, hcm, -⟩ := hl
  go_enter Try.func106, Try.ntmps106
  go_wp2_with (go_at_call 128; refine hi.mono ?_; rintro e w1 ⟨rfl, hb1⟩)
  go_ret
  exact ⟨ret_bool HV.out, hb1⟩
theorem implIsValidFact_at3 (l : List Rel) (f : Fct) (q : Bool) (hq : factOk l f.rel f.vals = q) (v u : Value) (w : World) (hl : RelsAt w w.heap.size v l) (hf : Fact_at w w.heap.size u f) (hw : Fact_wf f) :
    Calls Try.prog 105 #[v, u] w fun e w' => e = .returned (.bool q) ∧ Below w.heap.size w w' := by
  subst hq
  obtain ⟨V, rfl, hV⟩ := hf
  exact implIsValidFact_any v l f.rel V f.vals w hl hV hw.2
/-- what is asked of a fact of an instance -/
theorem relSrc_at {l : List Rel} {f : Fct} {k : Nat} (hk : k < l.length) (h : f.rel = (k : Int)) : relSrc l f = l[k].source := by
  unfold relSrc; rw [h, Int.toNat_natCast, getD_at hk]
set_option maxHeartbeats 1600000 in
set_option maxRecDepth 100000 in
theorem implIsValidInstanceFact_at (l : List Rel) (f : Fct) (q : Bool) (hq : okFact l f = q) (v u : Value) (w : World) (hl : RelsAt w w.heap.size v l) (hf : Fact_at w w.heap.size u f) (hw : Fact_wf f) :
    Calls Try.prog 66 #[v, u] w fun e w' => e = .returned (.bool q) ∧ Below w.heap.size w w' := by
  subst hq
  obtain ⟨P, c, rfl⟩ := Fact_form hf
  have HL := Lib.hid hl
  have HF := Lib.hid hf
  have HV := Lib.hid (show IntsAt w w.heap.size (.slice P f.vals.length c) f.vals by
    obtain ⟨V, hv, hI⟩ := hf
    simp only [Value.agg.injEq, Array.mk.injEq, List.cons.injEq, and_true, true_and] at hv
    subst hv; exact hI)
  obtain ⟨A, d, rfl, hlc, hcm, -⟩ := hl
  unfold maxLen at hcm
  clear hf
  obtain ⟨E, hEq⟩ : ∃ E, E = w.alloc (.cells #[.int .i64 f.rel, .slice P f.vals.length c] 30) := ⟨_, rfl⟩
  have hE : Below w.heap.size w E := by rw [hEq]; exact below_more (Below.refl _ _) _
  have hEz : w.heap.size < E.heap.size := by rw [hEq]; simp
  have K0 := Lib.hid (show E.cell? ⟨w.heap.size, 0, none⟩ = some (.int .i64 f.rel) by rw [hEq]; simp [go_sem])
  have K1 := Lib.hid (show E.cell? ⟨w.heap.size, 1, none⟩ = some (.slice P f.vals.length c) by rw [hEq]; simp [go_sem])
  have hv := fun (q : Bool) (hq : factOk l f.rel f.vals = q) => implIsValidFact_at3 l f q hq (.slice A l.length d) (.agg #[.int .i64 f.rel, .slice P f.vals.length c]) E ((HL.out.below hE (Nat.le_refl _)).more hE.size) ((HF.out.below hE (Nat.le_refl _)).more hE.size) hw
  rw [hEq] at hv
  cases hok : factOk l f.rel f.vals with
  | false =>
    have HQ := Lib.hid (show okFact l f = false by unfold okFact; rw [hok]; rfl)
    replace hv := hv false hok
    clear hok
    go_enter Try.func66, Try.ntmps66
    go_wp2_with (go_at_call 105; refine hv.mono ?_; rintro e w1 ⟨rfl, hb1⟩)
    rw [← hEq] at hb1
    go_ret
    exact ⟨ret_bool HQ.out.symm, hE.trans (hb1.mono hE.size)⟩
  | true =>
    have hin := (factOk_parts hok).2.1
    obtain ⟨k, hkr⟩ : ∃ k : Nat, f.rel = (k : Int) := ⟨f.rel.toNat, by omega⟩
    have hk : k < l.length := by omega
    obtain ⟨b, off, rfl, hb, -, -, c2⟩ := RelsAt.elem HL.out k hk
    have HQ := Lib.hid (show okFact l f = (!l[k].source || !negAny f.vals) by unfold okFact; rw [hok, relSrc_at hk hkr]; rfl)
    replace hv := hv true hok
    have C2 := Lib.hid ((hE.cell (p := ⟨b, off + k * 3 + 2, none⟩) hb).trans c2)
    clear hok hin c2
    rw [hkr] at hv K0 hEq
    have hbE : b < E.heap.size := by omega
    cases hs : l[k].source with
    | false =>
      go_enter Try.func66, Try.ntmps66
      simp only [hkr]
      go_wp2_with fail
      refine hv.mono ?_
      rintro e w1 ⟨rfl, hb1⟩
      rw [← hEq] at hb1
      have f0 := (hb1.cell (p := ⟨w.heap.size, 0, none⟩) hEz).trans K0.out
      have f2 := (hb1.cell (p := ⟨b, off + k * 3 + 2, none⟩) hbE).trans C2.out
      rw [hs] at f2
      clear hv hEq
      go_wp2
      go_ret
      exact ⟨ret_bool (by rw [HQ.out, hs]; rfl), hE.trans (hb1.mono hE.size)⟩
    | true =>
      have hn := fun (q : Bool) (hq : negAny f.vals = q) (W : World) (hW : Below w.heap.size w W) => implAnyNeg_at q (.slice P f.vals.length c) f.vals hq W ((HV.out.below hW (Nat.le_refl _)).more hW.size)
      cases hna : negAny f.vals with
      | true =>
        replace hn := hn true hna
        have HN := Lib.hid hna
        clear hna
        go_enter Try.func66, Try.ntmps66
        simp only [hkr]
        go_wp2_with fail
        refine hv.mono ?_
        rintro e w1 ⟨rfl, hb1⟩
        rw [← hEq] at hb1
        have f0 := (hb1.cell (p := ⟨w.heap.size, 0, none⟩) hEz).trans K0.out
        have f1 := (hb1.cell (p := ⟨w.heap.size, 1, none⟩) hEz).trans K1.out
        have f2 := (hb1.cell (p := ⟨b, off + k * 3 + 2, none⟩) hbE).trans C2.out
        rw [hs] at f2
        have hW1 := hE.trans (hb1.mono hE.size)
        replace hn := hn w1 hW1
        clear hv hEq
        go_wp2_with (go_at_call 106; refine hn.mono ?_; rintro e w2 ⟨rfl, hb2⟩)
        go_ret
        exact ⟨ret_bool (by rw [HQ.out, hs, HN.out]; rfl), hW1.trans (hb2.mono hW1.size)⟩
      | false =>
        replace hn := hn false hna
        have HN := Lib.hid hna
        clear hna
        go_enter Try.func66, Try.ntmps66
        simp only [hkr]
        go_wp2_with fail
        refine hv.mono ?_
        rintro e w1 ⟨rfl, hb1⟩
        rw [← hEq] at hb1
        have f0 := (hb1.cell (p := ⟨w.heap.size, 0, none⟩) hEz).trans K0.out
        have f1 := (hb1.cell (p := ⟨w.heap.size, 1, none⟩) hEz).trans K1.out
        have f2 := (hb1.cell (p := ⟨b, off + k * 3 + 2, none⟩) hbE).trans C2.out
        rw [hs] at f2
        have hW1 := hE.trans (hb1.mono hE.size)
        replace hn := hn w1 hW1
        clear hv hEq
        go_wp2_with (go_at_call 106; refine hn.mono ?_; rintro e w2 ⟨rfl, hb2⟩)
        go_ret
        exact ⟨ret_bool (by rw [HQ.out, hs, HN.out]; rfl), hW1.trans (hb2.mono hW1.size)⟩

end Go.Proofs.Ytbdgdphehbkjgaa
