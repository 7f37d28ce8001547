/-
  Walks and plain lemmas for the laws of this seat: what single Go functions return, for every argument.
-/
import Derived.Lib.SliceRun
import Derived.Shelf.Abstract
import Derived.Laws.Cover3
import Derived.Test.YtobdijcnfmgidaaInts
import Derived.Test.YtobdijcnfmgidaaDrawR
import Derived.Test.YtobdijcnfmgidaaAft
import Derived.Test.YtobdijcnfmgidaaTyInst
import Derived.Test.YtobdijcnfmgidaaTyAtom
import Derived.Test.YtobdijcnfmgidaaMatK
import Derived.Test.YtobdijcnfmgidaaInstM
import Derived.Test.YtobdijcnfmgidaaYldI
import Derived.Test.YtobdijcnfmgidaaExtI
import Derived.Test.YtobdijcnfmgidaaFactVI
import Derived.Test.YtobdijcnfmgidaaValInI
namespace Go.Proofs.Ytobdijcnfmgidaa
open Go.RowKit

theorem okM_false {x : Inst} {l : List Atm} (h : instOk x = false ∨ ¬ l.length ≤ 3) : okM x l = false := by
  unfold okM
  rcases h with h | h
  · rw [h]; simp
  · rw [decide_eq_false h]; simp
set_option maxHeartbeats 3200000 in
set_option maxRecDepth 100000 in
theorem implCan_any (v : Value) (x : Inst) (u : Value) (l : List Atm) (w : World) (h : Instance_at w w.heap.size v x) (hw : Instance_wf x) (h' : AtomS_at w w.heap.size u l) :
    Calls Try.prog 52 #[v, u] w fun e w' => e = .returned (.bool (okM x l)) ∧ Below w.heap.size w w' := by
  have HX := Lib.hid h
  have HL := Lib.hid h'
  obtain ⟨P, c, Q, d, rfl⟩ := Instance_form h
  have HR := Lib.hid (show RelationS_at w w.heap.size (.slice P x.rels.length c) x.rels by
    obtain ⟨V1, V2, hv, hR, hF⟩ := h
    simp only [Value.agg.injEq, Array.mk.injEq, List.cons.injEq, and_true] at hv
    obtain ⟨rfl, rfl⟩ := hv
    exact hR)
  obtain ⟨R, q, rfl, hq1, hq2⟩ := h'.form
  unfold maxLen at hq2
  clear h h'
  obtain ⟨E, hEq⟩ : ∃ E, E = w.alloc (.cells #[.slice P x.rels.length c, .slice Q x.facts.length d] 27) := ⟨_, rfl⟩
  have hE : Below w.heap.size w E := by rw [hEq]; exact below_more (Below.refl _ _) _
  have HEz := Lib.hid (show E.heap.size = w.heap.size + 1 by rw [hEq]; simp)
  have X0 := Lib.hid (show E.cell? ⟨w.heap.size, 0, none⟩ = some (.slice P x.rels.length c) by rw [hEq]; simp [go_sem])
  have hvi := fun q hq => implIsValidInstance_at x q hq _ E ((HX.out.below hE (Nat.le_refl _)).more hE.size) hw
  rw [hEq] at hvi
  cases hx : instOk x with
  | false =>
    have HF := Lib.hid (okM_false (l := l) (.inl hx))
    replace hvi := hvi false hx
    clear hx
    go_enter Try.func52, Try.ntmps52
    go_wp2_with (go_at_call 36; refine hvi.mono ?_; rintro e w1 ⟨rfl, hb1⟩)
    rw [← hEq] at hb1
    go_ret
    exact ⟨ret_bool HF.out.symm, hE.trans (hb1.mono hE.size)⟩
  | true =>
    replace hvi := hvi true hx
    by_cases h3 : l.length ≤ 3
    · have d3 : decide ((3 : Int) < (l.length : Int)) = false := decide_eq_false (by omega)
      have HOK := Lib.hid (show ∀ k, OkTo x l k → k = l.length → okM x l = true from fun k hT e => by subst e; rw [okM_end hT, hx, decide_eq_true h3]; rfl)
      clear hx h3
      go_enter Try.func52, Try.ntmps52
      go_wp2_with (go_at_call 36; refine hvi.mono ?_; clear hvi; rintro e w1 ⟨rfl, hb1⟩)
      rw [← hEq] at hb1
      clear hEq d3
      go_loopw [17] (fun i wr => ∃ k : Nat, k ≤ l.length ∧ i = .int .i64 k ∧ Hid (OkTo x l k) ∧ Below E.heap.size E wr) (fun i _ => l.length - (intOf i).toNat)
      case atStart => exact ⟨0, by omega, rfl, Lib.hid (OkTo.zero x l), hb1⟩
      case round =>
        obtain ⟨k, hk, rfl, HT, hW⟩ := hrel
        have hz := hW.size
        have hWw := hE.trans (hW.mono hE.size)
        by_cases hlt : k < l.length
        · have x0 := (hW.cell (p := ⟨w.heap.size, 0, none⟩) (by show w.heap.size < _; rw [HEz.out]; omega)).trans X0.out
          obtain ⟨b, off, V, rfl, hb, c0, c1, hV⟩ := AtomS_at.elem HL.out k hlt
          replace c0 := (hWw.cell (p := ⟨b, off + k * 2, none⟩) hb).trans c0
          replace c1 := (hWw.cell (p := ⟨b, off + k * 2 + 1, none⟩) hb).trans c1
          obtain ⟨PV, cV, rfl, -⟩ := id hV
          obtain ⟨W5, e5⟩ : ∃ W5, W5 = wr.alloc (.cells #[.int .i64 l[k].rel, .slice PV l[k].vals.length cV] 48) := ⟨_, rfl⟩
          have hb5 : Below wr.heap.size wr W5 := by rw [e5]; exact (Below.refl _ _).alloc (Nat.le_refl _) _
          have hwd := hWw.trans (hb5.mono hWw.size)
          have hcon := fun (qq : Bool) (hqq : atomB x.rels l[k] = qq) => implIsValidAtom_at x.rels l[k] qq hqq (.slice P x.rels.length c) (.agg #[.int .i64 l[k].rel, .slice PV l[k].vals.length cV]) W5 ((HR.out.below hwd (Nat.le_refl _)).more hwd.size) ⟨_, rfl, (hV.below hwd (Nat.le_refl _)).more hwd.size⟩
          rw [e5] at hcon
          have hlw : w.heap.size < wr.heap.size := by rw [HEz.out] at hz; omega
          have hbE : Below E.heap.size E W5 := hW.trans (hb5.mono hz)
          clear hV
          cases hr : atomB x.rels l[k] with
          | false =>
            have HF := Lib.hid (okM_no hlt hr)
            replace hcon := hcon false hr
            clear hr
            go_wp2_with (go_at_call 96; refine hcon.mono ?_; clear hcon; rintro e w2 ⟨rfl, hb2⟩)
            rw [← e5] at hb2
            go_ret
            exact ⟨ret_bool HF.out.symm, hwd.trans (hb2.mono hwd.size)⟩
          | true =>
            have HN := Lib.hid (HT.out.next hlt hr)
            replace hcon := hcon true hr
            clear hr
            go_wp2_with (go_at_call 96; refine hcon.mono ?_; clear hcon; rintro e w2 ⟨rfl, hb2⟩)
            rw [← e5] at hb2
            have hbW := hbE.trans (hb2.mono hbE.size)
            clear e5 c0 c1 x0
            go_roundw
            case rel => exact ⟨k + 1, by omega, by go_num, HN, hbW⟩
            case measure => simp [intOf]; omega
        · obtain rfl : k = l.length := by omega
          have HF := Lib.hid (HOK.out _ HT.out rfl)
          go_wp2
          go_ret
          exact ⟨ret_bool HF.out.symm, hWw⟩
    · have d3 : decide ((3 : Int) < (l.length : Int)) = true := decide_eq_true (by omega)
      have HF := Lib.hid (okM_false (x := x) (.inr h3))
      clear hx h3
      go_enter Try.func52, Try.ntmps52
      go_wp2_with (go_at_call 36; refine hvi.mono ?_; rintro e w1 ⟨rfl, hb1⟩)
      rw [← hEq] at hb1
      go_ret
      exact ⟨ret_bool HF.out.symm, hE.trans (hb1.mono hE.size)⟩

set_option maxHeartbeats 800000 in
theorem implCloneInts_any (v : Value) (l : List Int) (w : World) (hl : IntsAt w w.heap.size v l) (hn : l.length ≤ 1048576) :
    Calls Try.prog 55 #[v] w fun e w' => ∃ u, e = .returned u ∧ IntS_own w.heap.size w'.heap.size u l w' ∧ Below w.heap.size w w' := by
  have HL := Lib.hid hl
  obtain ⟨A, c, rfl, hlc, hcm, hel, hA⟩ := hl
  unfold maxLen at hcm
  have q0 : ∀ (w : World) (a : Option Addr) (n c n' c' : Nat), (binOp .eql 30 (.slice a n c) (.slice none n' c')).run Try.prog w = .ok (.bool a.isNone) w := fun w a n c n' c' => Lib.run_eql_slice_nil w _ _ a n c n' c' Try.underlying30
  cases A with
  | none =>
    obtain rfl := hA rfl
    obtain rfl : l = [] := List.eq_nil_of_length_eq_zero (by omega)
    clear hel hA
    go_enter Try.func55, Try.ntmps55
    go_wp2
    go_ret
    exact ⟨_, rfl, ⟨OwnInts.nil _ _, fun g hg => by cases hg⟩, Below.refl _ _⟩
  | some a =>
    have HLE := Lib.hid ((HL.out.below ((Below.refl w.heap.size w).alloc (Nat.le_refl _) (.cells #[] 3)) (Nat.le_refl _)))
    have HOE := Lib.hid (OwnInts.empty w w.heap.size (Nat.le_refl _))
    clear hel hA
    go_enter Try.func55, Try.ntmps55
    go_wp2_with (at_builtin; refine ints_apps (r := l) HOE.out rfl _ _ rfl (by simp [go_sem]) (some a) l.length c rfl rfl HLE.out (fun e => by cases e) (by simp; omega) (by simp) ?_; intro v1 w1 hO1 hW1 _ _)
    go_ret
    rw [List.nil_append] at hO1
    exact ⟨_, rfl, IntsO.of hO1, ((Below.refl _ _).alloc (Nat.le_refl _) _).trans hW1⟩

theorem okM_fit {x : Inst} {l : List Atm} (hlw : AtomS_wf l) (h : okM x l = true) : ∀ a ∈ l, AtmFit x.facts a := by
  intro a ha
  have hv := okM_at h a ha
  obtain ⟨i, hi, rfl⟩ := List.getElem_of_mem ha
  refine ⟨hlw i hi, fun k hk => ?_, fun f hf e => ?_⟩
  · have := (atomOk_t hv _ (List.getElem_mem hk)).2
    omega
  · have h1 := (atomOk_parts hv).2.2.1
    have h2 := (factOk_parts (((instOk_iff x).1 (okM_inst h)).1 f hf).1).2.2.1
    rw [e] at h1
    omega

attribute [local go_sem] Oper.semAt_some
theorem at5_cells {w : World} {B : Nat} {v : Value} {b : List Int} (h : IntsAt w B v b) (h5 : b.length = 5) : ∃ q off c, v = .slice (some ⟨q, off, none⟩) 5 c ∧ q < B ∧ 5 ≤ c ∧ ∀ j, j < 5 → w.cell? ⟨q, off + j, none⟩ = some (.int .i64 (at5 b j)) := by
  obtain ⟨P, c, rfl, hc1, hc2, -⟩ := id h
  obtain ⟨q, off, rfl, hq, -⟩ := IntsAt.elem h 0 (by omega)
  refine ⟨q, off, c, by rw [h5], hq, by omega, fun j hj => ?_⟩
  obtain ⟨q', off', e, -, hc⟩ := IntsAt.elem h j (by omega)
  cases e
  rw [hc]
  unfold at5
  simp [List.getD, show j < b.length by omega]
set_option maxHeartbeats 6400000 in
set_option maxRecDepth 100000 in
theorem implHasExt_any (fs : List Fct) (hfw : FactS_wf fs) (l : List Atm) (hl : ∀ a ∈ l, AtmFit fs a) (b : List Int) (hb5 : b.length = 5) (vF vA vb : Value) (w : World) (hF : FactS_at w w.heap.size vF fs) (hA : AtomS_at w w.heap.size vA l) (hb : IntsAt w w.heap.size vb b) :
    Calls Try.prog 62 #[vF, vA, vb] w fun e w' => e = .returned (.bool (decide (0 < (walkM fs l b).length))) ∧ Below w.heap.size w w' := by
  have HF := Lib.hid hF
  have HA := Lib.hid hA
  obtain ⟨Q, d, rfl, hd1, hd2⟩ := hF.form
  obtain ⟨R, q, rfl, hq1, hq2⟩ := hA.form
  obtain ⟨p, off, cb, rfl, hp, hcb, hcells⟩ := at5_cells hb hb5
  clear hF hA hb
  obtain ⟨E, hEq⟩ : ∃ E, E = w.alloc (.cells #[.bool false] 4) := ⟨_, rfl⟩
  have hE : Below w.heap.size w E := by rw [hEq]; exact (Below.refl _ _).alloc (Nat.le_refl _) _
  have e0 := (hE.cell (p := ⟨p, off, none⟩) hp).trans (hcells 0 (by omega))
  have e1 := (hE.cell (p := ⟨p, off + 1, none⟩) hp).trans (hcells 1 (by omega))
  have e2 := (hE.cell (p := ⟨p, off + 2, none⟩) hp).trans (hcells 2 (by omega))
  have e3 := (hE.cell (p := ⟨p, off + 3, none⟩) hp).trans (hcells 3 (by omega))
  have e4 := (hE.cell (p := ⟨p, off + 4, none⟩) hp).trans (hcells 4 (by omega))
  rw [hEq] at e0 e1 e2 e3 e4
  clear hcells
  have hat : ∀ w, (Instr.arrayAt 90 (.slice (some ⟨p, off, none⟩) 5 cb)).run Try.prog w = .ok (.pointer (some ⟨p, off, none⟩)) w := fun w => run_arrayAt w 90 _ 5 _ 5 cb Try.underlying90 (Nat.le_refl _)
  refine (callsIn_wide (n := 9)).1 (callsIn_of_wp_marks Try.func62 rfl trivial (wpIn_wide.2 ?_) rfl)
  simp only [Try.ntmps62, List.size_toArray, List.length_cons, List.length_nil, Nat.reduceAdd, Nat.reduceSub, Array.replicate_succ, Array.replicate_zero, List.push_toArray, List.append_toArray, List.nil_append, List.cons_append]
  go_wp2_with (go_at_call 53; refine (implExtensions_any _ _ _ _ _ _ b _).mono ?_; rintro e w1 ⟨rfl, hw1⟩)
  subst hw1
  obtain ⟨W0, hW0⟩ : ∃ W0, W0 = ((((w.alloc (.cells #[.bool false] 4)).alloc (.cells #[.slice Q fs.length d] 25)).alloc (.cells #[.slice R l.length q] 37)).alloc (.cells #[.int .i64 (at5 b 0), .int .i64 (at5 b 1), .int .i64 (at5 b 2), .int .i64 (at5 b 3), .int .i64 (at5 b 4)] 90)) := ⟨_, rfl⟩
  have hb0 : Below w.heap.size w W0 := by rw [hW0]; exact below_more (below_more (below_more (below_more (Below.refl _ _) _) _) _) _
  have hz0 : W0.heap.size = w.heap.size + 4 := by rw [hW0]; simp
  have x0 : W0.cell? ⟨w.heap.size + 1, 0, none⟩ = some (.slice Q fs.length d) := by rw [hW0]; simp [go_sem]
  have x1 : W0.cell? ⟨w.heap.size + 2, 0, none⟩ = some (.slice R l.length q) := by rw [hW0]; simp [go_sem]
  have x2 : BoxA (w.heap.size + 3) b W0 := by
    rw [hW0]
    have h9 := BoxA.new (((w.alloc (.cells #[.bool false] 4)).alloc (.cells #[.slice Q fs.length d] 25)).alloc (.cells #[.slice R l.length q] 37)) b
    simpa using h9
  have x3 : Boxed W0 w.heap.size 4 (.bool false) := by rw [hW0]; exact (((Boxed.new w 4 (.bool false)).alloc _).alloc _).alloc _
  rw [← hW0]
  refine (wpIn_wide (n := 9)).1 (wpIn_rangeFunc_ownH rfl (by decide) (gf := 97) (lb := #[.pointer (some ⟨w.heap.size + 1, 0, none⟩), .pointer (some ⟨w.heap.size + 2, 0, none⟩), .pointer (some ⟨w.heap.size + 3, 0, none⟩)]) rfl trivial (enters_of Try.func97 (by kernel_rfl) rfl)
    (implExtensions_stops (9 - 1) fs hfw l hl _ _ b hb5 w.heap.size (w.heap.size + 1) (w.heap.size + 2) (w.heap.size + 3) W0 hb0.size (HF.out.below hb0 (Nat.le_refl _)) (HA.out.below hb0 (Nat.le_refl _)) (by omega) x0 (by omega) x1 x2) Kp.trans (Kp.book (by omega)) (Below.refl _ _) (fun _ => rfl)
    (fun (pre : List (List Int)) W => pre = [] ∧ Boxed W w.heap.size 4 (.bool false) ∧ Below w.heap.size w W)
    (fun c (pre : List (List Int)) W => (c = .ret ∧ 0 < pre.length) ∧ Boxed W w.heap.size 4 (.bool true) ∧ Below w.heap.size w W)
    (OwnFrom.and (ownFrom_pure _ (fun (pre : List (List Int)) => pre = [])) (OwnFrom.and (Own.from (boxed_own _ _ (fun _ => .bool false)) _) (ownFrom_below (Nat.le_refl _) (by omega))))
    (fun c => OwnFrom.and (ownFrom_pure _ (fun (pre : List (List Int)) => c = .ret ∧ 0 < pre.length)) (OwnFrom.and (Own.from (boxed_own _ _ (fun _ => .bool true)) _) (ownFrom_below (Nat.le_refl _) (by omega))))
    ⟨rfl, x3, hb0⟩
    (fun x a' _ => a' = { tmps := #[.slice Q fs.length d, .slice R l.length q, .slice (some ⟨p, off, none⟩) 5 cb, undef, undef, undef, .pointer (some ⟨w.heap.size, 0, none⟩), .slice Q fs.length d, .slice R l.length q, .slice (some ⟨p, off, none⟩) 5 cb, .pointer (some ⟨p, off, none⟩), bAgg b, .func (.func 97) #[] #[.pointer (some ⟨w.heap.size + 1, 0, none⟩), .pointer (some ⟨w.heap.size + 2, 0, none⟩), .pointer (some ⟨w.heap.size + 3, 0, none⟩)], bAgg x], defers := [] }) (fun _ _ _ _ _ _ hs _ _ => hs) ?assign ?body ?done ?stop)
  case assign =>
    intro lp pre x W K hi hK
    gi_wp2
    exact hK _ _ (KeepsFrom.refl _ _) (Kp.refl _ _) hi (by simp)
  case body =>
    rintro lp pre x a' W hlp _ ⟨rfl, hb, hB⟩ rfl hlt
    have hc := hb.cell
    have hf := hb.frozen
    gi_wp2
    exact ⟨(KeepsOthers.setCell _ _ _).from _, ⟨rfl, by simp⟩, hb.set _, hB.setCell (p := ⟨w.heap.size, 0, none⟩) (Nat.le_refl _) _⟩
  case done =>
    rintro D xs W hD hxs ⟨rfl, hb, hB⟩ hK
    have hc := hb.cell
    have hf := hb.frozen
    have HQ := Lib.hid (show decide (0 < (walkM fs l b).length) = false by rw [← hxs]; rfl)
    go_wp2
    have hK2 := (KeepsOthers.setCell W ⟨w.heap.size, 0, none⟩ (.bool false)).same D _ hK rfl
    have hcf := cell_kept (hb.set (.bool false)).cell (grownBy_putObj' _ D (.deferred none)) (fun r e => by cases e; exact ⟨_, hK2, rfl⟩)
    refine ⟨by simp, .inl ⟨_, _, rfl, run_takeDeferred hK2, ?_⟩⟩
    exact ⟨.bool false, by simp [results, Try.results62, go_sem, hcf], by rw [HQ.out], (hB.setCell (p := ⟨w.heap.size, 0, none⟩) (Nat.le_refl _) _).trans (belowK_b (w := w) (Nat.le_refl _) _ D _ _ (by omega) hK2 rfl rfl)⟩
  case stop =>
    rintro D c pre W hD hp ⟨⟨rfl, h0⟩, hb, hB⟩ hK
    have HQ := Lib.hid (show decide (0 < (walkM fs l b).length) = true from decide_eq_true (Nat.lt_of_lt_of_le h0 hp.length_le))
    refine wpIn_wide.2 ?_
    go_wp2
    have hcf := cell_kept hb.cell (grownBy_putObj' _ D (.deferred none)) (fun r e => by cases e; exact ⟨_, hK, rfl⟩)
    refine ⟨by simp, .inl ⟨_, _, rfl, run_takeDeferred hK, ?_⟩⟩
    exact ⟨.bool true, by simp [results, Try.results62, go_sem, hcf], by rw [HQ.out], hB.trans (belowK_b (w := w) (Nat.le_refl _) _ D _ _ (by omega) hK rfl rfl)⟩

end Go.Proofs.Ytobdijcnfmgidaa
