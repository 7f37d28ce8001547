/-
  Walks and plain lemmas for the laws of this seat: what single Go functions return, for every argument.
-/
import Derived.Test.YtbdgdphehbkjgaaRels
import Derived.Test.YtbdgdphehbkjgaaMarkRF
namespace Go.Proofs.Ytbdgdphehbkjgaa
open Go.RowKit

def RelationS_mk (k : Nat) (l : List Rel) : List Rel := markRels k l.length
theorem markRelationS_c (B C : Nat) (v : Value) (l : List Rel) (k : Nat) (w : World) (h : RelationS_own B C v l w) (hn : RelationS_sz l ≤ 1048576) (hk0 : 1 ≤ k) (hk : k ≤ 1000000000) :
    Calls Try.prog 78 #[v, .int .i64 (k : Int)] w fun e w' => e = .returned (.int .i64 ((k + RelationS_cnt l : Nat) : Int)) ∧ RelationS_own B C v (RelationS_mk k l) w' ∧ Chg (Mid B C) w w' :=
  (markRelationS_chg B v l k w h.1 (by unfold RelationS_sz at hn; omega) hk0 hk).mono fun _ _ ⟨he, ho, hc⟩ => ⟨by rw [he]; rfl, ⟨ho, h.2⟩, hc.mono fun g hg => ⟨(h.1.lt g hg).1, h.2 g hg⟩⟩

end Go.Proofs.Ytbdgdphehbkjgaa
