/-
  Walks and plain lemmas for the laws of this seat: what single Go functions return, for every argument.
-/
import Derived.Test.YtalijnfbopcmeaaDraw
import Derived.Test.YtalijnfbopcmeaaNum
namespace Go.Proofs.Ytalijnfbopcmeaa
open Go.RowKit

set_option maxHeartbeats 800000 in
set_option maxRecDepth 100000 in
theorem l4Value_c (p : Nat) (cv : Value) (code : List UInt8) (st : DrawSt) (n : Int) (h1 : 0 ≤ n) (h2 : n ≤ 40) (w : World) (hC : CurS w p cv code st) :
    Calls Try.prog 46 #[.pointer (some ⟨p, 0, none⟩), .int .i64 n] w fun e w' => ∃ z, -41 ≤ z ∧ z ≤ 9 ∧ Drawn w p cv code (.int .i64 z) e w' := by
  have hb := belowR_bd code
  by_cases hn0 : n = 0
  · subst hn0
    have e0 : decide ((0 : Int) < 0) = false := rfl
    go_enter Try.func46, Try.ntmps46
    go_wp2_with fail
    have j1 := hb st 3
    have j2 := j1.2 (by omega)
    have j1 := j1.1
    refine (l1Below_r _ cv code _ _ _ hC).mono ?_; rintro e w2 ⟨rfl, hC2, hg2⟩
    generalize belowR code st 3 = b at *
    go_wp2_with fail
    go_ret
    exact ⟨_, by omega, by omega, rfl, ⟨_, hC2⟩, hg2⟩
  replace h1 : 1 ≤ n := by omega
  have e0 : decide (0 < n) = true := decide_eq_true (by omega)
  go_enter Try.func46, Try.ntmps46
  go_wp2_with fail
  refine (l1Once_r p cv code _ _ _ hC).mono ?_; rintro e w1 ⟨rfl, hC1, hg1⟩
  generalize onceR code st 2 = cst at *
  obtain ⟨c, st1⟩ := cst
  dsimp only at *
  cases c with
  | true =>
    go_wp2_with fail
    have j1 := hb st1 n
    have j2 := j1.2 h1
    have j1 := j1.1
    refine (l1Below_r _ cv code _ _ _ hC1).mono ?_; rintro e w2 ⟨rfl, hC2, hg2⟩
    generalize belowR code st1 n = b at *
    go_wp2_with fail
    refine (specNullValue_any _ _ (by omega) (by omega)).mono ?_; rintro e w3 ⟨rfl, rfl⟩
    go_wp2_with fail
    go_ret
    exact ⟨_, by omega, by omega, rfl, ⟨_, hC2⟩, hg1.trans hg2⟩
  | false =>
    go_wp2_with fail
    have j1 := hb st1 3
    have j2 := j1.2 (by omega)
    have j1 := j1.1
    refine (l1Below_r _ cv code _ _ _ hC1).mono ?_; rintro e w2 ⟨rfl, hC2, hg2⟩
    generalize belowR code st1 3 = b at *
    go_wp2_with fail
    go_ret
    exact ⟨_, by omega, by omega, rfl, ⟨_, hC2⟩, hg1.trans hg2⟩

end Go.Proofs.Ytalijnfbopcmeaa
