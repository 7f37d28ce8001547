/-
  Walks and plain lemmas for the laws of this seat: what single Go functions return, for every argument.
-/
import Derived.Test.YtoapphgahmofhaaGreatTyAtom
import Derived.Test.YtoapphgahmofhaaGreatTakeE
import Derived.Test.YtoapphgahmofhaaGreatTyInst
import Derived.Test.YtoapphgahmofhaaGreatMatK
import Derived.Test.YtoapphgahmofhaaGreatExtI
import Derived.Test.YtoapphgahmofhaaGreatFactVI
import Derived.Test.YtoapphgahmofhaaGreatValInI
namespace Go.Proofs.YtoapphgahmofhaaGreat
open Go.RowKit

theorem okM_false {x : Inst} {l : List Atm} (h : instOk x = false ∨ ¬ l.length ≤ 3) : okM x l = false := by
  unfold okM
  rcases h with h | h
  · rw [h]; simp
  · rw [decide_eq_false h]; simp
set_option maxHeartbeats 3200000 in
set_option maxRecDepth 100000 in
theorem implCan_any (v : Value) (x : Inst) (u : Value) (l : List Atm) (w : World) (h : Instance_at w w.heap.size v x) (hw : Instance_wf x) (h' : AtomS_at w w.heap.size u l) :
    Calls Tryz.prog 49 #[v, u] w fun e w' => e = .returned (.bool (okM x l)) ∧ Below w.heap.size w w' := by
  have HX := Lib.hid h
  have HL := Lib.hid h'
  obtain ⟨P, c, Q, d, rfl⟩ := Instance_form h
  have HR := Lib.hid (show RelationS_at w w.heap.size (.slice P x.rels.length c) x.rels by
    obtain ⟨V1, V2, hv, hR, hF⟩ := h
    simp only [Value.agg.injEq, Array.mk.injEq, List.cons.injEq, and_true] at hv
    obtain ⟨rfl, rfl⟩ := hv
    exact hR)
  obtain ⟨R, q, rfl, hq1, hq2⟩ := h'.form
  unfold maxLen at hq2
  clear h h'
  obtain ⟨E, hEq⟩ : ∃ E, E = w.alloc (.cells #[.slice P x.rels.length c, .slice Q x.facts.length d] 27) := ⟨_, rfl⟩
  have hE : Below w.heap.size w E := by rw [hEq]; exact below_more (Below.refl _ _) _
  have HEz := Lib.hid (show E.heap.size = w.heap.size + 1 by rw [hEq]; simp)
  have X0 := Lib.hid (show E.cell? ⟨w.heap.size, 0, none⟩ = some (.slice P x.rels.length c) by rw [hEq]; simp [go_sem])
  have hvi := fun q hq => implIsValidInstance_at x q hq _ E ((HX.out.below hE (Nat.le_refl _)).more hE.size) hw
  rw [hEq] at hvi
  cases hx : instOk x with
  | false =>
    have HF := Lib.hid (okM_false (l := l) (.inl hx))
    replace hvi := hvi false hx
    clear hx
    go_enter Tryz.func49, Tryz.ntmps49
    go_wp2_with (go_at_call 90; refine hvi.mono ?_; rintro e w1 ⟨rfl, hb1⟩)
    rw [← hEq] at hb1
    go_ret
    exact ⟨ret_bool HF.out.symm, hE.trans (hb1.mono hE.size)⟩
  | true =>
    replace hvi := hvi true hx
    by_cases h3 : l.length ≤ 3
    · have d3 : decide ((3 : Int) < (l.length : Int)) = false := decide_eq_false (by omega)
      have HOK := Lib.hid (show ∀ k, OkTo x l k → k = l.length → okM x l = true from fun k hT e => by subst e; rw [okM_end hT, hx, decide_eq_true h3]; rfl)
      clear hx h3
      go_enter Tryz.func49, Tryz.ntmps49
      go_wp2_with (go_at_call 90; refine hvi.mono ?_; clear hvi; rintro e w1 ⟨rfl, hb1⟩)
      rw [← hEq] at hb1
      clear hEq d3
      go_loopw [17] (fun i wr => ∃ k : Nat, k ≤ l.length ∧ i = .int .i64 k ∧ Hid (OkTo x l k) ∧ Below E.heap.size E wr) (fun i _ => l.length - (intOf i).toNat)
      case atStart => exact ⟨0, by omega, rfl, Lib.hid (OkTo.zero x l), hb1⟩
      case round =>
        obtain ⟨k, hk, rfl, HT, hW⟩ := hrel
        have hz := hW.size
        have hWw := hE.trans (hW.mono hE.size)
        by_cases hlt : k < l.length
        · have x0 := (hW.cell (p := ⟨w.heap.size, 0, none⟩) (by show w.heap.size < _; rw [HEz.out]; omega)).trans X0.out
          obtain ⟨b, off, V, rfl, hb, c0, c1, hV⟩ := AtomS_at.elem HL.out k hlt
          replace c0 := (hWw.cell (p := ⟨b, off + k * 2, none⟩) hb).trans c0
          replace c1 := (hWw.cell (p := ⟨b, off + k * 2 + 1, none⟩) hb).trans c1
          obtain ⟨PV, cV, rfl, -⟩ := id hV
          obtain ⟨W5, e5⟩ : ∃ W5, W5 = wr.alloc (.cells #[.int .i64 l[k].rel, .slice PV l[k].vals.length cV] 74) := ⟨_, rfl⟩
          have hb5 : Below wr.heap.size wr W5 := by rw [e5]; exact (Below.refl _ _).alloc (Nat.le_refl _) _
          have hwd := hWw.trans (hb5.mono hWw.size)
          have hcon := fun (qq : Bool) (hqq : atomB x.rels l[k] = qq) => implIsValidAtom_at x.rels l[k] qq hqq (.slice P x.rels.length c) (.agg #[.int .i64 l[k].rel, .slice PV l[k].vals.length cV]) W5 ((HR.out.below hwd (Nat.le_refl _)).more hwd.size) ⟨_, rfl, (hV.below hwd (Nat.le_refl _)).more hwd.size⟩
          rw [e5] at hcon
          have hlw : w.heap.size < wr.heap.size := by rw [HEz.out] at hz; omega
          have hbE : Below E.heap.size E W5 := hW.trans (hb5.mono hz)
          clear hV
          cases hr : atomB x.rels l[k] with
          | false =>
            have HF := Lib.hid (okM_no hlt hr)
            replace hcon := hcon false hr
            clear hr
            go_wp2_with (go_at_call 91; refine hcon.mono ?_; clear hcon; rintro e w2 ⟨rfl, hb2⟩)
            rw [← e5] at hb2
            go_ret
            exact ⟨ret_bool HF.out.symm, hwd.trans (hb2.mono hwd.size)⟩
          | true =>
            have HN := Lib.hid (HT.out.next hlt hr)
            replace hcon := hcon true hr
            clear hr
            go_wp2_with (go_at_call 91; refine hcon.mono ?_; clear hcon; rintro e w2 ⟨rfl, hb2⟩)
            rw [← e5] at hb2
            have hbW := hbE.trans (hb2.mono hbE.size)
            clear e5 c0 c1 x0
            go_roundw
            case rel => exact ⟨k + 1, by omega, by go_num, HN, hbW⟩
            case measure => simp [intOf]; omega
        · obtain rfl : k = l.length := by omega
          have HF := Lib.hid (HOK.out _ HT.out rfl)
          go_wp2
          go_ret
          exact ⟨ret_bool HF.out.symm, hWw⟩
    · have d3 : decide ((3 : Int) < (l.length : Int)) = true := decide_eq_true (by omega)
      have HF := Lib.hid (okM_false (x := x) (.inr h3))
      clear hx h3
      go_enter Tryz.func49, Tryz.ntmps49
      go_wp2_with (go_at_call 90; refine hvi.mono ?_; rintro e w1 ⟨rfl, hb1⟩)
      rw [← hEq] at hb1
      go_ret
      exact ⟨ret_bool HF.out.symm, hE.trans (hb1.mono hE.size)⟩

set_option maxHeartbeats 3200000 in
set_option maxRecDepth 100000 in
theorem implHasExtension_any (v u : Value) (x : Inst) (l : List Atm) (bv : Value) (b : List Int) (w : World) (hx : Instance_at w w.heap.size v x) (hxw : Instance_wf x) (hl : AtomS_at w w.heap.size u l) (hlw : AtomS_wf l) (hb : IntsAt w w.heap.size bv b) :
    Calls Tryz.prog 17 #[v, u, bv] w fun e w' => e = .returned (.bool (hasExt x l b)) ∧ Below w.heap.size w w' := by
  have HX := Lib.hid hx
  have HL := Lib.hid hl
  have HB := Lib.hid hb
  obtain ⟨P, c, Q, d, rfl⟩ := Instance_form hx
  have HFS := Lib.hid (show FactS_at w w.heap.size (.slice Q x.facts.length d) x.facts by
    obtain ⟨V1, V2, hv, hR, hF⟩ := hx
    simp only [Value.agg.injEq, Array.mk.injEq, List.cons.injEq, and_true] at hv
    obtain ⟨rfl, rfl⟩ := hv
    exact hF)
  obtain ⟨R, q, rfl, hq1, hq2⟩ := hl.form
  obtain ⟨S, t, rfl, ht1, ht2, -, -⟩ := hb
  unfold maxLen at hq2 ht2
  clear hx hl
  obtain ⟨E, hEq⟩ : ∃ E, E = w.alloc (.cells #[.slice P x.rels.length c, .slice Q x.facts.length d] 27) := ⟨_, rfl⟩
  have hE : Below w.heap.size w E := by rw [hEq]; exact below_more (Below.refl _ _) _
  have X1 : E.cell? ⟨w.heap.size, 1, none⟩ = some (.slice Q x.facts.length d) := by rw [hEq]; simp [go_sem]
  have hEz : w.heap.size < E.heap.size := by rw [hEq]; simp
  have hok := implCan_any _ x _ l E ((HX.out.below hE (Nat.le_refl _)).more hE.size) hxw ((HL.out.below hE (Nat.le_refl _)).more hE.size)
  rw [hEq] at hok
  obtain ⟨ok, hk⟩ : ∃ ok, okM x l = ok := ⟨_, rfl⟩
  rw [hk] at hok
  cases ok with
  | false =>
    have HF := Lib.hid (show hasExt x l b = false by unfold hasExt; rw [hk]; rfl)
    clear hk
    go_enter Tryz.func17, Tryz.ntmps17
    go_wp2_with (go_at_call 49; refine hok.mono ?_; rintro e w1 ⟨rfl, hb1⟩)
    rw [← hEq] at hb1
    go_ret
    exact ⟨ret_bool HF.out.symm, hE.trans (hb1.mono hE.size)⟩
  | true =>
    by_cases hb5 : b.length = 5
    · have d5 : ((b.length : Int) == 5) = true := by rw [hb5]; rfl
      have hfit := okM_fit hlw hk
      have HF := Lib.hid (show hasExt x l b = decide (0 < (walkM x.facts l b).length) by unfold hasExt; rw [hk, decide_eq_true hb5]; rfl)
      have hx2 := fun (W : World) (hW : Below w.heap.size w W) => implHasExt_any x.facts hxw.2 l hfit b hb5 (.slice Q x.facts.length d) (.slice R l.length q) (.slice S b.length t) W ((HFS.out.below hW (Nat.le_refl _)).more hW.size) ((HL.out.below hW (Nat.le_refl _)).more hW.size) ((HB.out.below hW (Nat.le_refl _)).more hW.size)
      have HX2 := Lib.hid hx2
      clear hk hb5 hfit hx2
      go_enter Tryz.func17, Tryz.ntmps17
      go_wp2_with (first | (go_at_call 49; refine hok.mono ?_; rintro e w1 ⟨rfl, hb1⟩; rw [← hEq] at hb1; have hw1 := hE.trans (hb1.mono hE.size); have x1 := (hb1.cell (p := ⟨w.heap.size, 1, none⟩) hEz).trans X1) | (go_at_call 50; refine (HX2.out _ hw1).mono ?_; rintro e w2 ⟨rfl, hb2⟩))
      go_ret
      exact ⟨ret_bool HF.out.symm, hw1.trans (hb2.mono hw1.size)⟩
    · have d5 : ((b.length : Int) == 5) = false := by rw [beq_eq_false_iff_ne]; omega
      have HF := Lib.hid (show hasExt x l b = false by unfold hasExt; rw [decide_eq_false hb5] <;> simp)
      clear hk hb5
      go_enter Tryz.func17, Tryz.ntmps17
      go_wp2_with (go_at_call 49; refine hok.mono ?_; rintro e w1 ⟨rfl, hb1⟩)
      rw [← hEq] at hb1
      go_ret
      exact ⟨ret_bool HF.out.symm, hE.trans (hb1.mono hE.size)⟩
theorem implHasExtension_c (v : Value) (x : Inst) (u : Value) (l : List Atm) (bv : Value) (b : List Int) (w : World) (h : Instance_at w w.heap.size v x) (hw : Instance_wf x) (_ : Instance_sz x ≤ 1048576) (h' : AtomS_at w w.heap.size u l) (hw' : AtomS_wf l) (_ : AtomS_sz l ≤ 1048576) (h'' : IntS_at w w.heap.size bv b) (_ : IntS_wf b) (_ : IntS_sz b ≤ 1048576) :
    Calls Tryz.prog 17 #[v, u, bv] w fun e w' => e = .returned (.bool (hasExt x l b)) ∧ Below w.heap.size w w' :=
  implHasExtension_any v u x l bv b w h hw h' hw' h''

end Go.Proofs.YtoapphgahmofhaaGreat
