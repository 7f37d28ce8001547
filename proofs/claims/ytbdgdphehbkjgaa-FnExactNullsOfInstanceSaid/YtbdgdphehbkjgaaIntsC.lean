/-
  Walks and plain lemmas for the laws of this seat: what single Go functions return, for every argument.
-/
import Derived.Test.YtbdgdphehbkjgaaInts
import Derived.Test.YtbdgdphehbkjgaaIntsF
namespace Go.Proofs.Ytbdgdphehbkjgaa
open Go.RowKit

theorem eqIntS_c (v u : Value) (l : List Int) (w : World) (h : IntS_at w w.heap.size v l) (h' : IntS_at w w.heap.size u l) :
    Calls Try.prog 40 #[v, u] w fun e w' => e = .returned (.bool true) ∧ Below w.heap.size w w' := eqIntS_any v u l w h h'

theorem heldIntS_c (v : Value) (l : List Int) (k : Nat) (w : World) (h : IntS_at w w.heap.size v (IntS_mk k l)) (hn : IntS_sz l ≤ 1048576) (_ : 1 ≤ k) (hk : k ≤ 1000000000) :
    Calls Try.prog 42 #[v, .int .i64 (k : Int)] w fun e w' => e = .returned (.int .i64 ((k + IntS_cnt l : Nat) : Int)) ∧ Below w.heap.size w w' :=
  (heldIntS_any v l.length k _ w h hn (by omega)).mono fun _ _ ⟨he, hw⟩ => ⟨by rw [he, Int.natCast_add]; rfl, hw ▸ Below.refl _ _⟩

theorem markIntS_c (B C : Nat) (v : Value) (l : List Int) (k : Nat) (w : World) (h : IntS_own B C v l w) (hn : IntS_sz l ≤ 1048576) (_ : 1 ≤ k) (hk : k ≤ 1000000000) :
    Calls Try.prog 41 #[v, .int .i64 (k : Int)] w fun e w' => e = .returned (.int .i64 ((k + IntS_cnt l : Nat) : Int)) ∧ IntS_own B C v (IntS_mk k l) w' ∧ Chg (Mid B C) w w' :=
  (markIntS_any B v l k w h.1 hn (by omega)).mono fun _ _ ⟨he, ho, hc⟩ => ⟨by rw [he, Int.natCast_add]; rfl, ⟨ho, h.2⟩, hc.mono fun g hg => ⟨(h.1.lt g hg).1, h.2 g hg⟩⟩

end Go.Proofs.Ytbdgdphehbkjgaa
