/-
  Walks and plain lemmas for the laws of this seat: what single Go functions return, for every argument.
-/
import Derived.Shelf.Abstract
import Derived.Test.YtakflmaeclneiaaGreatBase
import Derived.Test.YtakflmaeclneiaaGreatInts
import Derived.Test.YtakflmaeclneiaaGreatTyAtom
import Derived.Test.YtakflmaeclneiaaGreatMInst
namespace Go.Proofs.YtakflmaeclneiaaGreat
open Go.RowKit

/-- a function value that tells of a atom among l whether p holds, wherever G holds; it only makes memory -/
def TellsA (g : Nat) (lb : Array Value) (G : World → Prop) (p : Atm → Bool) (l : List Atm) : Prop :=
  ∀ (W : World) (x : Atm) (V : Value), G W → x ∈ l → IntS_at W W.heap.size V x.vals → Calls Tryz.prog g (#[.agg #[.int .i64 x.rel, V]] ++ lb) W fun e w' => e = .returned (.bool (p x)) ∧ Below W.heap.size W w'
set_option maxHeartbeats 1600000 in
set_option maxRecDepth 100000 in
theorem implIxA_any (g : Nat) (lb : Array Value) (eg : ∀ args w, (callFunc g args).run Tryz.prog w = .ok (.enter g args) w) (G : World → Prop) (hG : ∀ W W', G W → Below W.heap.size W W' → G W') (p : Atm → Bool) (v : Value) (l : List Atm) (w : World) (h0 : G w) (ht : TellsA g lb G p l) (hl : AtomS_at w w.heap.size v l) :
    Calls Tryz.prog 83 #[v, .func (.func g) #[] lb] w fun e w' => e = .returned (.int .i64 (ixOf p l)) ∧ Below w.heap.size w w' := by
  have HL := Lib.hid hl
  obtain ⟨A, c, rfl, hlc, hcm⟩ := hl.form
  unfold maxLen at hcm
  have HG := Lib.hid (fun wr (hW : Below w.heap.size w wr) => hG w wr h0 hW)
  have HT := Lib.hid ht
  clear hG h0 ht hl
  go_enter Tryz.func83, Tryz.ntmps83
  go_wp2
  go_loopw [8] (fun i wr => ∃ k : Nat, k ≤ l.length ∧ i = .int .i64 k ∧ Hid (IxTo p l k) ∧ Below w.heap.size w wr) (fun i _ => l.length - (intOf i).toNat)
  case atStart => exact ⟨0, by omega, rfl, Lib.hid (IxTo.zero _ _), Below.refl _ _⟩
  case round =>
    obtain ⟨k, hk, rfl, HI, hW⟩ := hrel
    have hz := hW.size
    by_cases hlt : k < l.length
    · obtain ⟨b, off, V, rfl, hb, c0, c1, hV⟩ := AtomS_at.elem HL.out k hlt
      replace c0 := (hW.cell (p := ⟨b, off + k * 2, none⟩) hb).trans c0
      replace c1 := (hW.cell (p := ⟨b, off + k * 2 + 1, none⟩) hb).trans c1
      have hcall := HT.out wr l[k] V (HG.out wr hW) (List.getElem_mem hlt) ((hV.below hW (Nat.le_refl _)).more hz)
      cases hp : p l[k] with
      | true =>
        have HV := Lib.hid (HI.out.hit hlt hp)
        rw [hp] at hcall
        clear hp hV
        go_wp2_with (go_at_fn g; refine hcall.mono ?_; rintro e w1 ⟨rfl, hb1⟩)
        go_ret
        exact ⟨ret_int HV.out.symm, hW.trans (hb1.mono hz)⟩
      | false =>
        have HV := Lib.hid (HI.out.next hlt hp)
        rw [hp] at hcall
        clear hp hV
        go_wp2_with (go_at_fn g; refine hcall.mono ?_; rintro e w1 ⟨rfl, hb1⟩)
        go_roundw
        case rel => exact ⟨k + 1, by omega, by go_num, HV, hW.trans (hb1.mono hz)⟩
        case measure => simp [intOf]; omega
    · obtain rfl : k = l.length := by omega
      have HV := Lib.hid HI.out.miss
      go_wp2
      go_ret
      exact ⟨ret_int HV.out.symm, hW⟩
theorem implAnyA_any (g : Nat) (lb : Array Value) (eg : ∀ args w, (callFunc g args).run Tryz.prog w = .ok (.enter g args) w) (G : World → Prop) (hG : ∀ W W', G W → Below W.heap.size W W' → G W') (p : Atm → Bool) (v : Value) (l : List Atm) (w : World) (h0 : G w) (ht : TellsA g lb G p l) (hl : AtomS_at w w.heap.size v l) :
    Calls Tryz.prog 69 #[v, .func (.func g) #[] lb] w fun e w' => e = .returned (.bool (l.any p)) ∧ Below w.heap.size w w' := by
  have hi := implIxA_any g lb eg G hG p v l w h0 ht hl
  have HV := Lib.hid (ixOf_any p l)
  generalize ixOf p l = q at *
  clear h0 ht hG
  obtain ⟨A, c, rfl, hlc, hcm⟩ := hl.form
  clear hl
  go_enter Tryz.func69, Tryz.ntmps69
  go_wp2_with (go_at_call 83; refine hi.mono ?_; rintro e w1 ⟨rfl, hb1⟩)
  go_ret
  exact ⟨ret_bool HV.out, hb1⟩

set_option maxHeartbeats 1600000 in
theorem implIndexX_any (v : Value) (l : List Int) (x : Int) (w : World) (hl : IntsAt w w.heap.size v l) :
    Calls Tryz.prog 82 #[v, .int .i64 x] w fun e w' => e = .returned (.int .i64 (ixOf (fun y => x == y) l)) ∧ w = w' := by
  have HL := Lib.hid hl
  obtain ⟨A, c, rfl, hlc, hcm, -⟩ := hl
  unfold maxLen at hcm
  go_enter Tryz.func82, Tryz.ntmps82
  go_wp2
  go_loop [8] (fun i => ∃ n : Nat, n ≤ l.length ∧ i = .int .i64 n ∧ Hid (IxTo (fun y => x == y) l n)) (fun i => l.length - (intOf i).toNat)
  case atStart => exact ⟨0, by omega, rfl, Lib.hid (IxTo.zero _ _)⟩
  case round =>
    obtain ⟨n, hn, rfl, HT⟩ := hrel
    by_cases hlt : n < l.length
    · obtain ⟨b, off, rfl, hb, c0⟩ := IntsAt.elem HL.out n hlt
      cases he : (x == l[n]) with
      | true =>
        have HV := Lib.hid (HT.out.hit hlt he)
        obtain ⟨z, hz⟩ : ∃ z, z = l[n] := ⟨_, rfl⟩
        rw [← hz] at c0 he
        clear hz
        go_wp2
        go_ret
        exact ⟨ret_int HV.out.symm, rfl⟩
      | false =>
        have HN := Lib.hid (HT.out.next hlt he)
        obtain ⟨z, hz⟩ : ∃ z, z = l[n] := ⟨_, rfl⟩
        rw [← hz] at c0 he
        clear hz
        go_wp2
        go_round
        case rel => exact ⟨n + 1, by omega, by go_num, HN⟩
        case measure => simp [intOf]; omega
    · obtain rfl : n = l.length := by omega
      have HV := Lib.hid HT.out.miss
      go_wp2
      go_ret
      exact ⟨ret_int HV.out.symm, rfl⟩
theorem any_beq (l : List Int) (x : Int) : l.any (fun y => x == y) = decide (x ∈ l) := by
  by_cases h : x ∈ l
  · rw [decide_eq_true h]; exact List.any_eq_true.2 ⟨x, h, beq_self_eq_true x⟩
  · rw [decide_eq_false h]; exact List.any_eq_false.2 fun y hy e => h (by have := eq_of_beq e; rwa [this])
theorem implContains_at (l : List Int) (x : Int) (q : Bool) (hq : decide (x ∈ l) = q) (v : Value) (w : World) (hl : IntsAt w w.heap.size v l) :
    Calls Tryz.prog 68 #[v, .int .i64 x] w fun e w' => e = .returned (.bool q) ∧ w = w' := by
  subst hq
  have hi := implIndexX_any v l x w hl
  have HV := Lib.hid ((ixOf_any (fun y => x == y) l).trans (any_beq l x))
  generalize ixOf (fun y => x == y) l = q at *
  obtain ⟨A, c, rfl, hlc, hcm, -⟩ := hl
  go_enter Tryz.func68, Tryz.ntmps68
  go_wp2_with (go_at_call 82; refine hi.mono ?_; rintro e w1 ⟨rfl, rfl⟩)
  go_ret
  exact ⟨ret_bool HV.out, rfl⟩

end Go.Proofs.YtakflmaeclneiaaGreat
