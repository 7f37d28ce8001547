/-
  Walks and plain lemmas for the laws of this seat: what single Go functions return, for every argument.
-/
import Derived.Test.YtoapphgahmofhaaInts
import Derived.Test.YtoapphgahmofhaaRels
import Derived.Test.YtoapphgahmofhaaTyAtom
import Derived.Test.YtoapphgahmofhaaAtomM
import Derived.Test.YtoapphgahmofhaaFactVI
namespace Go.Proofs.Ytoapphgahmofhaa
open Go.RowKit

theorem atomOk_relOf (l : List Rel) (r : Int) (vs : List Int) : atomOk l r vs = (relOf l r (vs.length : Nat) && vs.all validT) := by unfold atomOk relOf; simp only [Bool.and_assoc]
set_option maxHeartbeats 3200000 in
set_option maxRecDepth 100000 in
theorem implIsValidAtom_any (v : Value) (l : List Rel) (r : Int) (V : Value) (vs : List Int) (w : World) (hl : RelsAt w w.heap.size v l) (hV : IntsAt w w.heap.size V vs) :
    Calls Try.prog 76 #[v, .agg #[.int .i64 r, V]] w fun e w' => e = .returned (.bool (atomOk l r vs)) ∧ Below w.heap.size w w' := by
  have HL := Lib.hid hl
  have HV := Lib.hid hV
  obtain ⟨A, c, rfl, hlc, hcm, -⟩ := hl
  obtain ⟨A', c', rfl, hlc', hcm', -⟩ := hV
  unfold maxLen at hcm hcm'
  have hE : Below w.heap.size w (w.alloc (.cells #[.int .i64 r, .slice A' vs.length c'] 40)) := (Below.refl _ _).alloc (Nat.le_refl _) _
  have hEz : w.heap.size < (w.alloc (.cells #[.int .i64 r, .slice A' vs.length c'] 40)).heap.size := by simp
  have K1 := Lib.hid (show (w.alloc (.cells #[.int .i64 r, .slice A' vs.length c'] 40)).cell? ⟨w.heap.size, 1, none⟩ = some (.slice A' vs.length c') by simp [go_sem])
  have hcon := fun q hq => implRelOf_at l r (vs.length : Nat) q hq (.slice A l.length c) (w.alloc (.cells #[.int .i64 r, .slice A' vs.length c'] 40)) ((HL.out.below hE (Nat.le_refl _)).more hE.size)
  cases hr : relOf l r (vs.length : Nat) with
  | false =>
    have HF := Lib.hid (show atomOk l r vs = false by rw [atomOk_relOf, hr]; rfl)
    replace hcon := hcon false hr
    clear hr
    go_enter Try.func76, Try.ntmps76
    go_wp2_with (go_at_call 111; refine hcon.mono ?_; rintro e w1 ⟨rfl, hb1⟩)
    go_ret
    exact ⟨ret_bool HF.out.symm, hE.trans (hb1.mono hE.size)⟩
  | true =>
    have HA := Lib.hid (show atomOk l r vs = vs.all validT by rw [atomOk_relOf, hr]; rfl)
    replace hcon := hcon true hr
    clear hr
    go_enter Try.func76, Try.ntmps76
    go_wp2_with fail
    refine hcon.mono ?_
    rintro e w1 ⟨rfl, hb1⟩
    have hz1 := hb1.size
    have f1 := (hb1.cell (p := ⟨w.heap.size, 1, none⟩) hEz).trans K1.out
    clear hcon
    go_wp2
    clear f1
    go_loopw [18] (fun i wr => ∃ j : Nat, j ≤ vs.length ∧ i = .int .i64 j ∧ Hid (TermsTo vs j) ∧ Below w1.heap.size w1 wr) (fun i _ => vs.length - (intOf i).toNat)
    case atStart => exact ⟨0, by omega, rfl, Lib.hid (TermsTo.zero vs), Below.refl _ _⟩
    case round =>
      obtain ⟨j, hj, rfl, HT, hW⟩ := hrel
      have hWW := hE.trans ((hb1.trans (hW.mono hz1)).mono hE.size)
      by_cases hlt : j < vs.length
      · obtain ⟨b', off', rfl, hb', d0⟩ := IntsAt.elem HV.out j hlt
        replace d0 := (hWW.cell (p := ⟨b', off' + j, none⟩) hb').trans d0
        cases hv : validT vs[j] with
        | false =>
          have hvc := implIsValidTerm_at vs[j] false hv wr
          have HF := Lib.hid (all_no (p := validT) hlt hv)
          clear hv
          go_wp2_with (go_at_call 112; refine hvc.mono ?_; rintro e w3 ⟨rfl, rfl⟩)
          go_ret
          exact ⟨ret_bool (HA.out.trans HF.out).symm, hWW⟩
        | true =>
          have hvc := implIsValidTerm_at vs[j] true hv wr
          have HN := Lib.hid (HT.out.next hlt hv)
          clear hv
          go_wp2_with (go_at_call 112; refine hvc.mono ?_; rintro e w3 ⟨rfl, rfl⟩)
          go_roundw
          case rel => exact ⟨j + 1, by omega, by go_num, HN, hW⟩
          case measure => simp [intOf]; omega
      · obtain rfl : j = vs.length := by omega
        have HF := Lib.hid (show vs.all validT = true by have := HT.out; unfold TermsTo at this; rwa [List.take_of_length_le (Nat.le_refl _)] at this)
        go_wp2
        go_ret
        exact ⟨ret_bool (HA.out.trans HF.out).symm, hWW⟩
theorem implIsValidAtom_at (l : List Rel) (x : Atm) (q : Bool) (hq : atomB l x = q) (v u : Value) (w : World) (hl : RelsAt w w.heap.size v l) (hf : Atom_at w w.heap.size u x) :
    Calls Try.prog 76 #[v, u] w fun e w' => e = .returned (.bool q) ∧ Below w.heap.size w w' := by
  subst hq
  obtain ⟨V, rfl, hV⟩ := hf
  exact implIsValidAtom_any v l x.rel V x.vals w hl hV
theorem implIsValidAtom_c (v : Value) (l : List Rel) (u : Value) (x : Atm) (w : World) (h : RelationS_at w w.heap.size v l) (_ : RelationS_wf l) (_ : RelationS_sz l ≤ 1048576) (h' : Atom_at w w.heap.size u x) (_ : Atom_wf x) (_ : Atom_sz x ≤ 1048576) :
    Calls Try.prog 76 #[v, u] w fun e w' => e = .returned (.bool (atomOk l x.rel x.vals)) ∧ Below w.heap.size w w' := by
  obtain ⟨V, rfl, h'⟩ := h'
  exact implIsValidAtom_any v l x.rel V x.vals w h h'

end Go.Proofs.Ytoapphgahmofhaa
