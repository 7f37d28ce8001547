/-
  Walks and plain lemmas for the laws of this seat: what single Go functions return, for every argument.
-/
import Derived.Lib.SliceRun
import Derived.Shelf.Abstract
import Derived.Test.YtalijnfbopcmeaaInts
namespace Go.Proofs.Ytalijnfbopcmeaa
open Go.RowKit

set_option maxHeartbeats 800000 in
theorem implCloneInts_any (v : Value) (l : List Int) (w : World) (hl : IntsAt w w.heap.size v l) (hn : l.length ≤ 1048576) :
    Calls Try.prog 47 #[v] w fun e w' => ∃ u, e = .returned u ∧ IntS_own w.heap.size w'.heap.size u l w' ∧ Below w.heap.size w w' := by
  have HL := Lib.hid hl
  obtain ⟨A, c, rfl, hlc, hcm, hel, hA⟩ := hl
  unfold maxLen at hcm
  have q0 : ∀ (w : World) (a : Option Addr) (n c n' c' : Nat), (binOp .eql 24 (.slice a n c) (.slice none n' c')).run Try.prog w = .ok (.bool a.isNone) w := fun w a n c n' c' => Lib.run_eql_slice_nil w _ _ a n c n' c' Try.underlying24
  cases A with
  | none =>
    obtain rfl := hA rfl
    obtain rfl : l = [] := List.eq_nil_of_length_eq_zero (by omega)
    clear hel hA
    go_enter Try.func47, Try.ntmps47
    go_wp2
    go_ret
    exact ⟨_, rfl, ⟨OwnInts.nil _ _, fun g hg => by cases hg⟩, Below.refl _ _⟩
  | some a =>
    have HLE := Lib.hid ((HL.out.below ((Below.refl w.heap.size w).alloc (Nat.le_refl _) (.cells #[] 3)) (Nat.le_refl _)))
    have HOE := Lib.hid (OwnInts.empty w w.heap.size (Nat.le_refl _))
    clear hel hA
    go_enter Try.func47, Try.ntmps47
    go_wp2_with (at_builtin; refine ints_apps (r := l) HOE.out rfl _ _ rfl (by simp [go_sem]) (some a) l.length c rfl rfl HLE.out (fun e => by cases e) (by simp; omega) (by simp) ?_; intro v1 w1 hO1 hW1 _ _)
    go_ret
    rw [List.nil_append] at hO1
    exact ⟨_, rfl, IntsO.of hO1, ((Below.refl _ _).alloc (Nat.le_refl _) _).trans hW1⟩

end Go.Proofs.Ytalijnfbopcmeaa
