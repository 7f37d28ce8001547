/-
  Walks and plain lemmas for the laws of this seat: what single Go functions return, for every argument.
-/
import Derived.Test.YtoapphgahmofhaaInts
import Derived.Test.YtoapphgahmofhaaFact
import Derived.Test.YtoapphgahmofhaaAft
import Derived.Test.YtoapphgahmofhaaTyAtom
import Derived.Test.YtoapphgahmofhaaTyInst
import Derived.Test.YtoapphgahmofhaaMatW
import Derived.Test.YtoapphgahmofhaaMatB
import Derived.Test.YtoapphgahmofhaaMatK
import Derived.Test.YtoapphgahmofhaaAtomVI
import Derived.Test.YtoapphgahmofhaaValInI
namespace Go.Proofs.Ytoapphgahmofhaa
open Go.RowKit

theorem okM_false {x : Inst} {l : List Atm} (h : instOk x = false ∨ ¬ l.length ≤ 3) : okM x l = false := by
  unfold okM
  rcases h with h | h
  · rw [h]; simp
  · rw [decide_eq_false h]; simp
set_option maxHeartbeats 3200000 in
set_option maxRecDepth 100000 in
theorem implCan_any (v : Value) (x : Inst) (u : Value) (l : List Atm) (w : World) (h : Instance_at w w.heap.size v x) (hw : Instance_wf x) (h' : AtomS_at w w.heap.size u l) :
    Calls Try.prog 43 #[v, u] w fun e w' => e = .returned (.bool (okM x l)) ∧ Below w.heap.size w w' := by
  have HX := Lib.hid h
  have HL := Lib.hid h'
  obtain ⟨P, c, Q, d, rfl⟩ := Instance_form h
  have HR := Lib.hid (show RelationS_at w w.heap.size (.slice P x.rels.length c) x.rels by
    obtain ⟨V1, V2, hv, hR, hF⟩ := h
    simp only [Value.agg.injEq, Array.mk.injEq, List.cons.injEq, and_true] at hv
    obtain ⟨rfl, rfl⟩ := hv
    exact hR)
  obtain ⟨R, q, rfl, hq1, hq2⟩ := h'.form
  unfold maxLen at hq2
  clear h h'
  obtain ⟨E, hEq⟩ : ∃ E, E = w.alloc (.cells #[.slice P x.rels.length c, .slice Q x.facts.length d] 27) := ⟨_, rfl⟩
  have hE : Below w.heap.size w E := by rw [hEq]; exact below_more (Below.refl _ _) _
  have HEz := Lib.hid (show E.heap.size = w.heap.size + 1 by rw [hEq]; simp)
  have X0 := Lib.hid (show E.cell? ⟨w.heap.size, 0, none⟩ = some (.slice P x.rels.length c) by rw [hEq]; simp [go_sem])
  have hvi := fun q hq => implIsValidInstance_at x q hq _ E ((HX.out.below hE (Nat.le_refl _)).more hE.size) hw
  rw [hEq] at hvi
  cases hx : instOk x with
  | false =>
    have HF := Lib.hid (okM_false (l := l) (.inl hx))
    replace hvi := hvi false hx
    clear hx
    go_enter Try.func43, Try.ntmps43
    go_wp2_with (go_at_call 54; refine hvi.mono ?_; rintro e w1 ⟨rfl, hb1⟩)
    rw [← hEq] at hb1
    go_ret
    exact ⟨ret_bool HF.out.symm, hE.trans (hb1.mono hE.size)⟩
  | true =>
    replace hvi := hvi true hx
    by_cases h3 : l.length ≤ 3
    · have d3 : decide ((3 : Int) < (l.length : Int)) = false := decide_eq_false (by omega)
      have HOK := Lib.hid (show ∀ k, OkTo x l k → k = l.length → okM x l = true from fun k hT e => by subst e; rw [okM_end hT, hx, decide_eq_true h3]; rfl)
      clear hx h3
      go_enter Try.func43, Try.ntmps43
      go_wp2_with (go_at_call 54; refine hvi.mono ?_; clear hvi; rintro e w1 ⟨rfl, hb1⟩)
      rw [← hEq] at hb1
      clear hEq d3
      go_loopw [17] (fun i wr => ∃ k : Nat, k ≤ l.length ∧ i = .int .i64 k ∧ Hid (OkTo x l k) ∧ Below E.heap.size E wr) (fun i _ => l.length - (intOf i).toNat)
      case atStart => exact ⟨0, by omega, rfl, Lib.hid (OkTo.zero x l), hb1⟩
      case round =>
        obtain ⟨k, hk, rfl, HT, hW⟩ := hrel
        have hz := hW.size
        have hWw := hE.trans (hW.mono hE.size)
        by_cases hlt : k < l.length
        · have x0 := (hW.cell (p := ⟨w.heap.size, 0, none⟩) (by show w.heap.size < _; rw [HEz.out]; omega)).trans X0.out
          obtain ⟨b, off, V, rfl, hb, c0, c1, hV⟩ := AtomS_at.elem HL.out k hlt
          replace c0 := (hWw.cell (p := ⟨b, off + k * 2, none⟩) hb).trans c0
          replace c1 := (hWw.cell (p := ⟨b, off + k * 2 + 1, none⟩) hb).trans c1
          obtain ⟨PV, cV, rfl, -⟩ := id hV
          obtain ⟨W5, e5⟩ : ∃ W5, W5 = wr.alloc (.cells #[.int .i64 l[k].rel, .slice PV l[k].vals.length cV] 40) := ⟨_, rfl⟩
          have hb5 : Below wr.heap.size wr W5 := by rw [e5]; exact (Below.refl _ _).alloc (Nat.le_refl _) _
          have hwd := hWw.trans (hb5.mono hWw.size)
          have hcon := fun (qq : Bool) (hqq : atomB x.rels l[k] = qq) => implIsValidAtom_at x.rels l[k] qq hqq (.slice P x.rels.length c) (.agg #[.int .i64 l[k].rel, .slice PV l[k].vals.length cV]) W5 ((HR.out.below hwd (Nat.le_refl _)).more hwd.size) ⟨_, rfl, (hV.below hwd (Nat.le_refl _)).more hwd.size⟩
          rw [e5] at hcon
          have hlw : w.heap.size < wr.heap.size := by rw [HEz.out] at hz; omega
          have hbE : Below E.heap.size E W5 := hW.trans (hb5.mono hz)
          clear hV
          cases hr : atomB x.rels l[k] with
          | false =>
            have HF := Lib.hid (okM_no hlt hr)
            replace hcon := hcon false hr
            clear hr
            go_wp2_with (go_at_call 76; refine hcon.mono ?_; clear hcon; rintro e w2 ⟨rfl, hb2⟩)
            rw [← e5] at hb2
            go_ret
            exact ⟨ret_bool HF.out.symm, hwd.trans (hb2.mono hwd.size)⟩
          | true =>
            have HN := Lib.hid (HT.out.next hlt hr)
            replace hcon := hcon true hr
            clear hr
            go_wp2_with (go_at_call 76; refine hcon.mono ?_; clear hcon; rintro e w2 ⟨rfl, hb2⟩)
            rw [← e5] at hb2
            have hbW := hbE.trans (hb2.mono hbE.size)
            clear e5 c0 c1 x0
            go_roundw
            case rel => exact ⟨k + 1, by omega, by go_num, HN, hbW⟩
            case measure => simp [intOf]; omega
        · obtain rfl : k = l.length := by omega
          have HF := Lib.hid (HOK.out _ HT.out rfl)
          go_wp2
          go_ret
          exact ⟨ret_bool HF.out.symm, hWw⟩
    · have d3 : decide ((3 : Int) < (l.length : Int)) = true := decide_eq_true (by omega)
      have HF := Lib.hid (okM_false (x := x) (.inr h3))
      clear hx h3
      go_enter Try.func43, Try.ntmps43
      go_wp2_with (go_at_call 54; refine hvi.mono ?_; rintro e w1 ⟨rfl, hb1⟩)
      rw [← hEq] at hb1
      go_ret
      exact ⟨ret_bool HF.out.symm, hE.trans (hb1.mono hE.size)⟩

/-- rows laid one after another, without those that are there -/
def addRow {α : Type} (f : α → List Int) (acc : List α) (p : α) : List α := if acc.any (fun q => cmpInts (f q) (f p) == 0) = true then acc else acc ++ [p]
def dedupR {α : Type} (f : α → List Int) (l : List α) : List α := l.foldl (addRow f) []
theorem dedupR_next {α : Type} (f : α → List Int) (l : List α) (k : Nat) (hk : k < l.length) : dedupR f (l.take (k + 1)) = addRow f (dedupR f (l.take k)) l[k] := by
  unfold dedupR; rw [List.take_succ_eq_append_getElem hk, List.foldl_append]; rfl
theorem foldl_addRow_map {α : Type} (f : α → List Int) (l acc : List α) : (l.foldl (addRow f) acc).map f = (l.map f).foldl (addRow id) (acc.map f) := by
  induction l generalizing acc with
  | nil => rfl
  | cons p t ih =>
    rw [List.foldl_cons, ih, List.map_cons, List.foldl_cons]
    congr 1
    unfold addRow
    rw [List.any_map]
    show (if (acc.any fun q => cmpInts (f q) (f p) == 0) = true then acc else acc ++ [p]).map f = if (acc.any fun q => cmpInts (f q) (f p) == 0) = true then acc.map f else acc.map f ++ [f p]
    split
    · rfl
    · rw [List.map_append]; rfl
theorem dedupR_map {α : Type} (f : α → List Int) (l : List α) : (dedupR f l).map f = dedupR id (l.map f) := foldl_addRow_map f l []
theorem foldl_addRow_sub {α : Type} (f : α → List Int) (l acc : List α) : List.Sublist (l.foldl (addRow f) acc) (acc ++ l) := by
  induction l generalizing acc with
  | nil => rw [List.append_nil]; exact List.Sublist.refl _
  | cons p t ih =>
    rw [List.foldl_cons]
    refine (ih (addRow f acc p)).trans ?_
    unfold addRow
    split
    · exact (List.Sublist.refl acc).append (List.sublist_cons_self p t)
    · rw [List.append_assoc]; exact List.Sublist.refl _
theorem dedupR_sub {α : Type} (f : α → List Int) (l : List α) : List.Sublist (dedupR f l) l := foldl_addRow_sub f l []
def FindMatches_r0 (x : Inst) (l : List Atm) : List (List Int) := if okM x l = true then dedupR id (walkM x.facts l blank5) else []
theorem find_no {x : Inst} {l : List Atm} (h : okM x l = false) : FindMatches_r0 x l = [] := by unfold FindMatches_r0; rw [h]; rfl
theorem find_yes {x : Inst} {l : List Atm} (h : okM x l = true) : FindMatches_r0 x l = dedupR id (walkM x.facts l blank5) := by unfold FindMatches_r0; rw [h]; rfl
theorem IntSSO.chgS {S : Nat → Prop} {B C : Nat} {v : Value} {Vs : List Value} {l : List (List Int)} {w w' : World} (h : IntSSO B C v Vs l w) (hc : Chg S w w') (hS : ∀ q, B ≤ q → q < C → ¬ S q) : IntSSO B C v Vs l w' :=
  ⟨h.len, hc.row h.row (fun g hg => hS g (World.ownsRow.lt h.row g hg).1 (h.ins g hg)), h.ins, fun i h1 h2 => ⟨(h.el i h1 h2).1.chg hc (fun q hq => hS q (World.ownsRow.lt (h.el i h1 h2).1 q hq).1 ((h.el i h1 h2).2 q hq)), (h.el i h1 h2).2⟩, h.dis⟩

end Go.Proofs.Ytoapphgahmofhaa
