/-
  Walks and plain lemmas for the laws of this seat: what single Go functions return, for every argument.
-/
import Derived.Test.YtoapphgahmofhaaInts
import Derived.Test.YtoapphgahmofhaaRels
import Derived.Test.YtoapphgahmofhaaNum
import Derived.Test.YtoapphgahmofhaaTyAtom
import Derived.Test.YtoapphgahmofhaaAtomM
import Derived.Test.YtoapphgahmofhaaFactV
namespace Go.Proofs.Ytoapphgahmofhaa
open Go.RowKit

set_option maxHeartbeats 3200000 in
set_option maxRecDepth 100000 in
theorem specIsValidAtom_any (v : Value) (l : List Rel) (r : Int) (V : Value) (vs : List Int) (w : World) (hl : RelsAt w w.heap.size v l) (hn : l.length ≤ 1048576) (hV : IntsAt w w.heap.size V vs) (_ : IntsWf vs) :
    Calls Try.prog 79 #[v, .agg #[.int .i64 r, V]] w fun e w' => e = .returned (.bool (atomOk l r vs)) ∧ Below w.heap.size w w' := by
  have HL := Lib.hid hl
  have HV := Lib.hid hV
  obtain ⟨A, c, rfl, hlc, hcm, -⟩ := hl
  obtain ⟨A', c', rfl, hlc', hcm', -⟩ := hV
  unfold maxLen at hcm hcm'
  have hE : Below w.heap.size w (w.alloc (.cells #[.int .i64 r, .slice A' vs.length c'] 40)) := (Below.refl _ _).alloc (Nat.le_refl _) _
  have hEz : w.heap.size + 1 ≤ (w.alloc (.cells #[.int .i64 r, .slice A' vs.length c'] 40)).heap.size := by simp
  have k0 : (w.alloc (.cells #[.int .i64 r, .slice A' vs.length c'] 40)).cell? ⟨w.heap.size, 0, none⟩ = some (.int .i64 r) := by simp [go_sem]
  have k1 : (w.alloc (.cells #[.int .i64 r, .slice A' vs.length c'] 40)).cell? ⟨w.heap.size, 1, none⟩ = some (.slice A' vs.length c') := by simp [go_sem]
  have G0 := Aft.cell hEz k0
  have G1 := Aft.cell hEz k1
  have K1 := Lib.hid k1
  have hcon := fun b h (u : Aft (w.alloc (.cells #[.int .i64 r, .slice A' vs.length c'] 40)).heap.size (w.alloc (.cells #[.int .i64 r, .slice A' vs.length c'] 40))) => specAreValid_at2 l b h (.slice A l.length c) u.now ((HL.out.below (hE.trans (u.is.mono hE.size)) (Nat.le_refl _)).more (hE.trans (u.is.mono hE.size)).size)
  clear k0 k1
  cases hr : validRels l with
  | false =>
    have HF := Lib.hid (atomOk_rels (r := r) (vs := vs) hr)
    replace hcon := hcon false hr
    clear hr
    go_enter Try.func79, Try.ntmps79
    go_wp2
    refine wp_region_aft (Below.refl (w.alloc (.cells #[.int .i64 r, .slice A' vs.length c'] 40)).heap.size (w.alloc (.cells #[.int .i64 r, .slice A' vs.length c'] 40))) (by kernel_rfl) (by kernel_rfl) ?_
    repeat (go_big_quiet_step (((go_at_call 114; exact calls_aft (Nat.le_refl _) (hcon _)))))
    refine wpQuiet_nil ?_
    refine aft_end ?_
    intro w1 hh
    go_wp2
    go_ret
    exact ⟨ret_bool HF.out.symm, hE.trans (hh.mono hE.size)⟩
  | true =>
    have HR := Lib.hid hr
    replace hcon := hcon true hr
    clear hr
    by_cases hin : 0 ≤ r ∧ r < l.length
    · obtain ⟨k, rfl⟩ : ∃ k : Nat, r = (k : Int) := ⟨r.toNat, by omega⟩
      have hk : k < l.length := by omega
      have HIN := Lib.hid hin
      have hin' := fun w => l1In_at (k : Int) 0 ((l.length : Int) - 1) true (inB_true (by omega)) w
      obtain ⟨b, off, rfl, hb, -, c1, -⟩ := RelsAt.elem HL.out k hk
      have C1 := Aft.cell (B := (w.alloc (.cells #[.int .i64 (k : Int), .slice A' vs.length c'] 40)).heap.size) (w := (w.alloc (.cells #[.int .i64 (k : Int), .slice A' vs.length c'] 40))) (by omega) ((hE.cell (p := ⟨b, off + k * 3 + 1, none⟩) hb).trans c1)
      have ha : Hid (l[k].arity = arityAt l (k : Int)) := Lib.hid (by rw [arityAt_in (by omega)]; rfl)
      clear c1 hin
      by_cases hlen : (vs.length : Int) = l[k].arity
      · have HLEN := Lib.hid (hlen.trans ha.out)
        have hbn : ((vs.length : Int) != l[k].arity) = false := by rw [hlen]; simp
        clear hlen
        generalize l[k].arity = q at *
        go_enter Try.func79, Try.ntmps79
        go_wp2
        refine wp_region_aft (Below.refl (w.alloc (.cells #[.int .i64 (k : Int), .slice A' vs.length c'] 40)).heap.size (w.alloc (.cells #[.int .i64 (k : Int), .slice A' vs.length c'] 40))) (by kernel_rfl) (by kernel_rfl) ?_
        repeat (go_big_quiet_step (first | ((go_at_call 114; exact calls_aft (Nat.le_refl _) (hcon _))) | ((go_at_call 94; exact calls_aft_same (hin' _)))))
        refine wpQuiet_nil ?_
        refine aft_end ?_
        intro w1 hh
        clear hcon hin' C1 G0 G1
        go_wp2
        go_loopw [5] (fun i wr => ∃ j : Nat, j ≤ vs.length ∧ i = .int .i64 j ∧ Hid (TermsTo vs j) ∧ Below (w.alloc (.cells #[.int .i64 (k : Int), .slice A' vs.length c'] 40)).heap.size (w.alloc (.cells #[.int .i64 (k : Int), .slice A' vs.length c'] 40)) wr) (fun i _ => vs.length - (intOf i).toNat)
        case atStart => exact ⟨0, by omega, rfl, Lib.hid (TermsTo.zero vs), hh⟩
        case round =>
          obtain ⟨j, hj, rfl, HT, hW⟩ := hrel
          have f1 := (hW.cell (p := ⟨w.heap.size, 1, none⟩) hEz).trans K1.out
          by_cases hlt : j < vs.length
          · obtain ⟨b', off', rfl, hb', d0⟩ := IntsAt.elem HV.out j hlt
            replace d0 := ((hE.trans (hW.mono hE.size)).cell (p := ⟨b', off' + j, none⟩) hb').trans d0
            cases hv : validT vs[j] with
            | false =>
              have hvc := l1In_at vs[j] (-10) 4 false hv wr
              have HF := Lib.hid (atomOk_val (l := l) (r := (k : Int)) j hlt hv)
              clear hv
              go_wp2_with (go_at_call 94; refine hvc.mono ?_; rintro e w2 ⟨rfl, rfl⟩)
              go_ret
              exact ⟨ret_bool HF.out.symm, hE.trans (hW.mono hE.size)⟩
            | true =>
              have hvc := l1In_at vs[j] (-10) 4 true hv wr
              have HN := Lib.hid (HT.out.next hlt hv)
              clear hv
              go_wp2_with (go_at_call 94; refine hvc.mono ?_; rintro e w2 ⟨rfl, rfl⟩)
              go_roundw
              case rel => exact ⟨j + 1, by omega, by go_num, HN, hW⟩
              case measure => simp [intOf]; omega
          · obtain rfl : j = vs.length := by omega
            have HF := Lib.hid (atomOk_yes HR.out HIN.out HLEN.out HT.out)
            go_wp2
            go_ret
            exact ⟨ret_bool HF.out.symm, hE.trans (hW.mono hE.size)⟩
      · have HF := Lib.hid (atomOk_len (l := l) (r := (k : Int)) (vs := vs) (fun e => hlen (e.trans ha.out.symm)))
        have hbn : ((vs.length : Int) != l[k].arity) = true := bne_iff_ne.2 hlen
        clear hlen
        generalize l[k].arity = q at *
        go_enter Try.func79, Try.ntmps79
        go_wp2
        refine wp_region_aft (Below.refl (w.alloc (.cells #[.int .i64 (k : Int), .slice A' vs.length c'] 40)).heap.size (w.alloc (.cells #[.int .i64 (k : Int), .slice A' vs.length c'] 40))) (by kernel_rfl) (by kernel_rfl) ?_
        repeat (go_big_quiet_step (first | ((go_at_call 114; exact calls_aft (Nat.le_refl _) (hcon _))) | ((go_at_call 94; exact calls_aft_same (hin' _)))))
        refine wpQuiet_nil ?_
        refine aft_end ?_
        intro w1 hh
        go_wp2
        go_ret
        exact ⟨ret_bool HF.out.symm, hE.trans (hh.mono hE.size)⟩
    · have HF := Lib.hid (atomOk_idx (l := l) (r := r) (vs := vs) hin)
      have hin' := fun w => l1In_at r 0 ((l.length : Int) - 1) false (inB_false (by omega)) w
      clear hin
      go_enter Try.func79, Try.ntmps79
      go_wp2
      refine wp_region_aft (Below.refl (w.alloc (.cells #[.int .i64 r, .slice A' vs.length c'] 40)).heap.size (w.alloc (.cells #[.int .i64 r, .slice A' vs.length c'] 40))) (by kernel_rfl) (by kernel_rfl) ?_
      repeat (go_big_quiet_step (first | ((go_at_call 114; exact calls_aft (Nat.le_refl _) (hcon _))) | ((go_at_call 94; exact calls_aft_same (hin' _)))))
      refine wpQuiet_nil ?_
      refine aft_end ?_
      intro w1 hh
      go_wp2
      go_ret
      exact ⟨ret_bool HF.out.symm, hE.trans (hh.mono hE.size)⟩
theorem specIsValidAtom_at (v : Value) (l : List Rel) (r : Int) (V : Value) (vs : List Int) (b : Bool) (h : atomOk l r vs = b) (w : World) (hl : RelsAt w w.heap.size v l) (hn : l.length ≤ 1048576) (hV : IntsAt w w.heap.size V vs) (hw : IntsWf vs) :
    Calls Try.prog 79 #[v, .agg #[.int .i64 r, V]] w fun e w' => e = .returned (.bool b) ∧ Below w.heap.size w w' := by
  subst h; exact specIsValidAtom_any v l r V vs w hl hn hV hw
theorem specIsValidAtom_c (v : Value) (l : List Rel) (u : Value) (x : Atm) (w : World) (h : RelationS_at w w.heap.size v l) (_ : RelationS_wf l) (hn : RelationS_sz l ≤ 1048576) (h' : Atom_at w w.heap.size u x) (hw : Atom_wf x) (_ : Atom_sz x ≤ 1048576) :
    Calls Try.prog 79 #[v, u] w fun e w' => e = .returned (.bool (atomOk l x.rel x.vals)) ∧ Below w.heap.size w w' := by
  obtain ⟨V, rfl, h'⟩ := h'
  exact specIsValidAtom_any v l x.rel V x.vals w h (by unfold RelationS_sz at hn; omega) h' hw.2

end Go.Proofs.Ytoapphgahmofhaa
