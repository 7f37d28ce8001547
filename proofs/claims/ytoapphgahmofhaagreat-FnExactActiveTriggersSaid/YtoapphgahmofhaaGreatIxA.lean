/-
  Walks and plain lemmas for the laws of this seat: what single Go functions return, for every argument.
-/
import Derived.Shelf.Abstract
import Derived.Test.YtoapphgahmofhaaGreatBase
import Derived.Test.YtoapphgahmofhaaGreatInts
import Derived.Test.YtoapphgahmofhaaGreatTyAtom
import Derived.Test.YtoapphgahmofhaaGreatMInst
namespace Go.Proofs.YtoapphgahmofhaaGreat
open Go.RowKit

/-- a function value that tells of a atom among l whether p holds, wherever G holds; it only makes memory -/
def TellsA (g : Nat) (lb : Array Value) (G : World → Prop) (p : Atm → Bool) (l : List Atm) : Prop :=
  ∀ (W : World) (x : Atm) (V : Value), G W → x ∈ l → IntS_at W W.heap.size V x.vals → Calls Tryz.prog g (#[.agg #[.int .i64 x.rel, V]] ++ lb) W fun e w' => e = .returned (.bool (p x)) ∧ Below W.heap.size W w'
set_option maxHeartbeats 1600000 in
set_option maxRecDepth 100000 in
theorem implIxA_any (g : Nat) (lb : Array Value) (eg : ∀ args w, (callFunc g args).run Tryz.prog w = .ok (.enter g args) w) (G : World → Prop) (hG : ∀ W W', G W → Below W.heap.size W W' → G W') (p : Atm → Bool) (v : Value) (l : List Atm) (w : World) (h0 : G w) (ht : TellsA g lb G p l) (hl : AtomS_at w w.heap.size v l) :
    Calls Tryz.prog 135 #[v, .func (.func g) #[] lb] w fun e w' => e = .returned (.int .i64 (ixOf p l)) ∧ Below w.heap.size w w' := by
  have HL := Lib.hid hl
  obtain ⟨A, c, rfl, hlc, hcm⟩ := hl.form
  unfold maxLen at hcm
  have HG := Lib.hid (fun wr (hW : Below w.heap.size w wr) => hG w wr h0 hW)
  have HT := Lib.hid ht
  clear hG h0 ht hl
  go_enter Tryz.func135, Tryz.ntmps135
  go_wp2
  go_loopw [8] (fun i wr => ∃ k : Nat, k ≤ l.length ∧ i = .int .i64 k ∧ Hid (IxTo p l k) ∧ Below w.heap.size w wr) (fun i _ => l.length - (intOf i).toNat)
  case atStart => exact ⟨0, by omega, rfl, Lib.hid (IxTo.zero _ _), Below.refl _ _⟩
  case round =>
    obtain ⟨k, hk, rfl, HI, hW⟩ := hrel
    have hz := hW.size
    by_cases hlt : k < l.length
    · obtain ⟨b, off, V, rfl, hb, c0, c1, hV⟩ := AtomS_at.elem HL.out k hlt
      replace c0 := (hW.cell (p := ⟨b, off + k * 2, none⟩) hb).trans c0
      replace c1 := (hW.cell (p := ⟨b, off + k * 2 + 1, none⟩) hb).trans c1
      have hcall := HT.out wr l[k] V (HG.out wr hW) (List.getElem_mem hlt) ((hV.below hW (Nat.le_refl _)).more hz)
      cases hp : p l[k] with
      | true =>
        have HV := Lib.hid (HI.out.hit hlt hp)
        rw [hp] at hcall
        clear hp hV
        go_wp2_with (go_at_fn g; refine hcall.mono ?_; rintro e w1 ⟨rfl, hb1⟩)
        go_ret
        exact ⟨ret_int HV.out.symm, hW.trans (hb1.mono hz)⟩
      | false =>
        have HV := Lib.hid (HI.out.next hlt hp)
        rw [hp] at hcall
        clear hp hV
        go_wp2_with (go_at_fn g; refine hcall.mono ?_; rintro e w1 ⟨rfl, hb1⟩)
        go_roundw
        case rel => exact ⟨k + 1, by omega, by go_num, HV, hW.trans (hb1.mono hz)⟩
        case measure => simp [intOf]; omega
    · obtain rfl : k = l.length := by omega
      have HV := Lib.hid HI.out.miss
      go_wp2
      go_ret
      exact ⟨ret_int HV.out.symm, hW⟩
theorem implAnyA_any (g : Nat) (lb : Array Value) (eg : ∀ args w, (callFunc g args).run Tryz.prog w = .ok (.enter g args) w) (G : World → Prop) (hG : ∀ W W', G W → Below W.heap.size W W' → G W') (p : Atm → Bool) (v : Value) (l : List Atm) (w : World) (h0 : G w) (ht : TellsA g lb G p l) (hl : AtomS_at w w.heap.size v l) :
    Calls Tryz.prog 110 #[v, .func (.func g) #[] lb] w fun e w' => e = .returned (.bool (l.any p)) ∧ Below w.heap.size w w' := by
  have hi := implIxA_any g lb eg G hG p v l w h0 ht hl
  have HV := Lib.hid (ixOf_any p l)
  generalize ixOf p l = q at *
  clear h0 ht hG
  obtain ⟨A, c, rfl, hlc, hcm⟩ := hl.form
  clear hl
  go_enter Tryz.func110, Tryz.ntmps110
  go_wp2_with (go_at_call 135; refine hi.mono ?_; rintro e w1 ⟨rfl, hb1⟩)
  go_ret
  exact ⟨ret_bool HV.out, hb1⟩

end Go.Proofs.YtoapphgahmofhaaGreat
