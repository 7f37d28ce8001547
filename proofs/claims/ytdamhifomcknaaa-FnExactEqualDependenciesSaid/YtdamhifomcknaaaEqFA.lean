/-
  Walks and plain lemmas for the laws of this seat: what single Go functions return, for every argument.
-/
import Derived.Shelf.Abstract
import Derived.Test.YtdamhifomcknaaaTakeE
import Derived.Test.YtdamhifomcknaaaTyAtom
import Derived.Test.YtdamhifomcknaaaAtomM
import Derived.Test.YtdamhifomcknaaaMInst
import Derived.Test.YtdamhifomcknaaaSubsEI
import Derived.Test.YtdamhifomcknaaaLatI
namespace Go.Proofs.Ytdamhifomcknaaa
open Go.RowKit

set_option maxHeartbeats 800000 in
set_option maxRecDepth 100000 in
theorem implSameAtoms_at (a b : Atm) (q : Bool) (hq : decide (a = b) = q) (v u : Value) (w : World) (h : Atom_at w w.heap.size v a) (h' : Atom_at w w.heap.size u b) :
    Calls Try.prog 65 #[v, u] w fun e w' => e = .returned (.bool q) ∧ Below w.heap.size w w' := by
  subst hq
  obtain ⟨V, rfl, hV⟩ := h
  obtain ⟨U, rfl, hU⟩ := h'
  obtain ⟨P, c, rfl, -⟩ := id hV
  obtain ⟨Q, d, rfl, -⟩ := id hU
  have hE : Below w.heap.size w ((w.alloc (.cells #[.int .i64 a.rel, .slice P a.vals.length c] 31)).alloc (.cells #[.int .i64 b.rel, .slice Q b.vals.length d] 31)) := below_more (below_more (Below.refl _ _) _) _
  have hc := implEqInts_any a.vals b.vals (.slice P a.vals.length c) (.slice Q b.vals.length d) _ ((hV.below hE (Nat.le_refl _)).more hE.size) ((hU.below hE (Nat.le_refl _)).more hE.size)
  have HD := Lib.hid (show decide (a = b) = ((a.rel == b.rel) && decide (a.vals = b.vals)) by
    by_cases h1 : a.rel = b.rel
    · by_cases h2 : a.vals = b.vals
      · rw [decide_eq_true (Atm.ext' h1 h2), h1, h2]; simp
      · rw [decide_eq_false h2, decide_eq_false (fun e => h2 (by rw [e]))]; simp
    · rw [decide_eq_false (fun e => h1 (by rw [e])), beq_eq_false_iff_ne.2 h1]; rfl)
  clear hV hU
  cases h1 : (a.rel == b.rel) with
  | false =>
    have HV := Lib.hid (HD.out.trans (by rw [h1]; rfl : _ = false))
    clear hc
    go_enter Try.func65, Try.ntmps65
    go_wp2
    go_ret
    exact ⟨ret_bool HV.out.symm, hE⟩
  | true =>
    have HV := Lib.hid (HD.out.trans (by rw [h1]; rfl : _ = decide (a.vals = b.vals)))
    go_enter Try.func65, Try.ntmps65
    go_wp2_with (go_at_call 77; refine hc.mono ?_; rintro e w1 ⟨rfl, hb1⟩)
    go_ret
    exact ⟨ret_bool HV.out.symm, hE.trans (hb1.mono hE.size)⟩
set_option maxHeartbeats 1600000 in
set_option maxRecDepth 100000 in
theorem implEqualAtoms_at (l m : List Atm) (q : Bool) (hq : decide (l = m) = q) (v u : Value) (w : World) (hl : AtomS_at w w.heap.size v l) (hm : AtomS_at w w.heap.size u m) :
    Calls Try.prog 64 #[v, u, .func (.func 65) #[] #[]] w fun e w' => e = .returned (.bool q) ∧ Below w.heap.size w w' := by
  subst hq
  have HL := Lib.hid hl
  have HM := Lib.hid hm
  obtain ⟨A, c, rfl, hlc, hcm⟩ := hl.form
  obtain ⟨A', c', rfl, hlc', hcm'⟩ := hm.form
  unfold maxLen at hcm hcm'
  clear hl hm
  have eg : ∀ args w, (callFunc 65 args).run Try.prog w = .ok (.enter 65 args) w := enters_of Try.func65 (by kernel_rfl) rfl
  by_cases hn : l.length = m.length
  · have hnb : ((l.length : Int) != (m.length : Int)) = false := by rw [hn]; simp
    have HN := Lib.hid hn
    clear hn
    go_enter Try.func64, Try.ntmps64
    go_wp2
    go_loopw [17] (fun i wr => ∃ k : Nat, k ≤ l.length ∧ i = .int .i64 k ∧ Hid (l.take k = m.take k) ∧ Below w.heap.size w wr) (fun i _ => l.length - (intOf i).toNat)
    case atStart => exact ⟨0, by omega, rfl, Lib.hid (by simp), Below.refl _ _⟩
    case round =>
      obtain ⟨k, hk, rfl, HT, hW⟩ := hrel
      have hz := hW.size
      by_cases hlt : k < l.length
      · have hlt' : k < m.length := by have := HN.out; omega
        obtain ⟨b, off, V, rfl, hb, c0, c1, hV⟩ := AtomS_at.elem HL.out k hlt
        obtain ⟨b', off', U, rfl, hb', d0, d1, hU⟩ := AtomS_at.elem HM.out k hlt'
        obtain ⟨PV, cV, rfl, -⟩ := id hV
        obtain ⟨PU, cU, rfl, -⟩ := id hU
        replace c0 := (hW.cell (p := ⟨b, off + k * 2, none⟩) hb).trans c0
        replace c1 := (hW.cell (p := ⟨b, off + k * 2 + 1, none⟩) hb).trans c1
        replace d0 := ((hW.trans ((below_more (Below.refl wr.heap.size wr) (.cells #[.int .i64 l[k].rel, .slice PV l[k].vals.length cV] 31)).mono hz)).cell (p := ⟨b', off' + k * 2, none⟩) hb').trans d0
        replace d1 := ((hW.trans ((below_more (Below.refl wr.heap.size wr) (.cells #[.int .i64 l[k].rel, .slice PV l[k].vals.length cV] 31)).mono hz)).cell (p := ⟨b', off' + k * 2 + 1, none⟩) hb').trans d1
        have HE := Lib.hid (take_eq_next l m k hlt hlt')
        have HF := Lib.hid (fun h => take_eq_not l m k hlt hlt' h)
        have hcon := fun (q : Bool) (hq : decide (l[k] = m[k]) = q) (W : World) (hb : Below wr.heap.size wr W) => implSameAtoms_at l[k] m[k] q hq (.agg #[.int .i64 l[k].rel, .slice PV l[k].vals.length cV]) (.agg #[.int .i64 m[k].rel, .slice PU m[k].vals.length cU]) W ⟨_, rfl, ((hV.later hW).later hb)⟩ ⟨_, rfl, ((hU.later hW).later hb)⟩
        cases hd : decide (l[k] = m[k]) with
        | true =>
          have HE' := Lib.hid (HE.out (of_decide_eq_true hd) HT.out)
          replace hcon := hcon true hd
          clear hd hV hU
          go_wp2_with fail
          refine (hcon _ (below_more (below_more (Below.refl _ _) _) _)).mono ?_
          rintro e w2 ⟨rfl, hb2⟩
          have hb3 : Below wr.heap.size wr w2 := (below_more (below_more (Below.refl _ _) _) _).trans (hb2.mono (by simp; omega))
          go_wp2
          go_roundw
          case rel => exact ⟨k + 1, by omega, by go_num, HE', hW.trans (hb3.mono hz)⟩
          case measure => simp [intOf]; omega
        | false =>
          have HE' := Lib.hid (decide_eq_false (HF.out (of_decide_eq_false hd)))
          replace hcon := hcon false hd
          clear hd hV hU
          go_wp2_with fail
          refine (hcon _ (below_more (below_more (Below.refl _ _) _) _)).mono ?_
          rintro e w2 ⟨rfl, hb2⟩
          have hb3 : Below wr.heap.size wr w2 := (below_more (below_more (Below.refl _ _) _) _).trans (hb2.mono (by simp; omega))
          go_wp2
          go_ret
          exact ⟨ret_bool HE'.out.symm, hW.trans (hb3.mono hz)⟩
      · obtain rfl : k = l.length := by omega
        have HE' := Lib.hid (decide_eq_true (show l = m by have := HT.out; rwa [List.take_of_length_le (Nat.le_refl _), List.take_of_length_le (by rw [HN.out]; exact Nat.le_refl _)] at this))
        go_wp2
        go_ret
        exact ⟨ret_bool HE'.out.symm, hW⟩
  · have hnb : ((l.length : Int) != (m.length : Int)) = true := by rw [bne_iff_ne]; omega
    have HE' := Lib.hid (decide_eq_false (show ¬ l = m by rintro rfl; exact hn rfl))
    clear hn
    go_enter Try.func64, Try.ntmps64
    go_wp2
    go_ret
    exact ⟨ret_bool HE'.out.symm, Below.refl _ _⟩

end Go.Proofs.Ytdamhifomcknaaa
