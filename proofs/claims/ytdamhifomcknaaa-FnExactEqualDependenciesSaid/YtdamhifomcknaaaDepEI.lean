/-
  Walks and plain lemmas for the laws of this seat: what single Go functions return, for every argument.
-/
import Derived.Test.YtdamhifomcknaaaTyAtom
import Derived.Test.YtdamhifomcknaaaDepV
import Derived.Test.YtdamhifomcknaaaEqFA
namespace Go.Proofs.Ytdamhifomcknaaa
open Go.RowKit

theorem depEq_is (a b : Dep) : depEq a b = (((a.egd == b.egd) && ((a.left == b.left) && (a.right == b.right))) && (decide (a.body = b.body) && decide (a.head = b.head))) := by
  unfold depEq
  cases decide (a.body = b.body) <;> cases decide (a.head = b.head) <;> cases (a.egd == b.egd) <;> cases (a.left == b.left) <;> cases (a.right == b.right) <;> rfl
set_option maxHeartbeats 3200000 in
set_option maxRecDepth 100000 in
theorem implEqualDependencies_any (v u : Value) (a b : Dep) (w : World) (h : Dependency_at w w.heap.size v a) (h' : Dependency_at w w.heap.size u b) :
    Calls Try.prog 43 #[v, u] w fun e w' => e = .returned (.bool (depEq a b)) ∧ Below w.heap.size w w' := by
  obtain ⟨P, c, Q, d, rfl⟩ := Dependency_form h
  obtain ⟨P', c', Q', d', rfl⟩ := Dependency_form h'
  obtain ⟨V1, V2, hv, hR, hF⟩ := h
  obtain ⟨U1, U2, hu, hR', hF'⟩ := h'
  simp only [Value.agg.injEq, Array.mk.injEq, List.cons.injEq, and_true] at hv hu
  obtain ⟨rfl, rfl⟩ := hv
  obtain ⟨rfl, rfl⟩ := hu
  have HF := Lib.hid hF
  have HF' := Lib.hid hF'
  have HR := Lib.hid hR
  have HR' := Lib.hid hR'
  clear hR hF hR' hF'
  have hE : Below w.heap.size w ((w.alloc (.cells #[.slice P a.body.length c, .slice Q a.head.length d, .bool a.egd, .int .i64 a.left, .int .i64 a.right] 43)).alloc (.cells #[.slice P' b.body.length c', .slice Q' b.head.length d', .bool b.egd, .int .i64 b.left, .int .i64 b.right] 43)) := below_more (below_more (Below.refl _ _) _) _
  have K0 := Lib.hid (show ((w.alloc (.cells #[.slice P a.body.length c, .slice Q a.head.length d, .bool a.egd, .int .i64 a.left, .int .i64 a.right] 43)).alloc (.cells #[.slice P' b.body.length c', .slice Q' b.head.length d', .bool b.egd, .int .i64 b.left, .int .i64 b.right] 43)).cell? ⟨w.heap.size, 1, none⟩ = some (.slice Q a.head.length d) by simp [go_sem])
  have K1 := Lib.hid (show ((w.alloc (.cells #[.slice P a.body.length c, .slice Q a.head.length d, .bool a.egd, .int .i64 a.left, .int .i64 a.right] 43)).alloc (.cells #[.slice P' b.body.length c', .slice Q' b.head.length d', .bool b.egd, .int .i64 b.left, .int .i64 b.right] 43)).cell? ⟨w.heap.size + 1, 1, none⟩ = some (.slice Q' b.head.length d') by simp [go_sem])
  have hEz : w.heap.size + 1 < ((w.alloc (.cells #[.slice P a.body.length c, .slice Q a.head.length d, .bool a.egd, .int .i64 a.left, .int .i64 a.right] 43)).alloc (.cells #[.slice P' b.body.length c', .slice Q' b.head.length d', .bool b.egd, .int .i64 b.left, .int .i64 b.right] 43)).heap.size := by simp
  have HD := Lib.hid (depEq_is a b)
  have cb := fun (q : Bool) (hq : decide (a.body = b.body) = q) => implEqualAtoms_at a.body b.body q hq (.slice P a.body.length c) (.slice P' b.body.length c') ((w.alloc (.cells #[.slice P a.body.length c, .slice Q a.head.length d, .bool a.egd, .int .i64 a.left, .int .i64 a.right] 43)).alloc (.cells #[.slice P' b.body.length c', .slice Q' b.head.length d', .bool b.egd, .int .i64 b.left, .int .i64 b.right] 43)) ((HR.out.below hE (Nat.le_refl _)).more hE.size) ((HR'.out.below hE (Nat.le_refl _)).more hE.size)
  have ch := fun (q : Bool) (hq : decide (a.head = b.head) = q) (W : World) (hW : Below w.heap.size w W) => implEqualAtoms_at a.head b.head q hq (.slice Q a.head.length d) (.slice Q' b.head.length d') W ((HF.out.below hW (Nat.le_refl _)).more hW.size) ((HF'.out.below hW (Nat.le_refl _)).more hW.size)
  cases q2 : (a.egd == b.egd) with
  | false =>
    have HV := Lib.hid (HD.out.trans (by rw [q2]; rfl : _ = false))
    clear cb ch
    go_enter Try.func43, Try.ntmps43
    go_wp2
    go_ret
    exact ⟨ret_bool HV.out.symm, hE⟩
  | true =>
    cases q3 : (a.left == b.left) with
    | false =>
      have HV := Lib.hid (HD.out.trans (by rw [q2, q3]; rfl : _ = false))
      clear cb ch
      go_enter Try.func43, Try.ntmps43
      go_wp2
      go_ret
      exact ⟨ret_bool HV.out.symm, hE⟩
    | true =>
      cases q4 : (a.right == b.right) with
      | false =>
        have HV := Lib.hid (HD.out.trans (by rw [q2, q3, q4]; rfl : _ = false))
        clear cb ch
        go_enter Try.func43, Try.ntmps43
        go_wp2
        go_ret
        exact ⟨ret_bool HV.out.symm, hE⟩
      | true =>
        cases q0 : decide (a.body = b.body) with
        | false =>
          have HV := Lib.hid (HD.out.trans (by rw [q0, q2, q3, q4]; rfl : _ = false))
          replace cb := cb false q0
          clear q0 ch
          go_enter Try.func43, Try.ntmps43
          go_wp2_with fail
          refine cb.mono ?_
          rintro e w1 ⟨rfl, hb1⟩
          go_wp2
          go_ret
          exact ⟨ret_bool HV.out.symm, hE.trans (hb1.mono hE.size)⟩
        | true =>
          have HV := Lib.hid (HD.out.trans (by rw [q0, q2, q3, q4]; rfl : _ = decide (a.head = b.head)))
          replace cb := cb true q0
          replace ch := ch _ rfl
          clear q0
          go_enter Try.func43, Try.ntmps43
          go_wp2_with fail
          refine cb.mono ?_
          rintro e w1 ⟨rfl, hb1⟩
          have hW1 := hE.trans (hb1.mono hE.size)
          have f0 := (hb1.cell (p := ⟨w.heap.size, 1, none⟩) (by show w.heap.size < _; omega)).trans K0.out
          have f1 := (hb1.cell (p := ⟨w.heap.size + 1, 1, none⟩) hEz).trans K1.out
          replace ch := ch w1 hW1
          clear cb
          go_wp2_with fail
          refine ch.mono ?_
          rintro e w2 ⟨rfl, hb2⟩
          go_wp2
          go_ret
          exact ⟨ret_bool HV.out.symm, hW1.trans (hb2.mono hW1.size)⟩
theorem implEqualDependencies_c (v : Value) (a : Dep) (u : Value) (b : Dep) (w : World) (h : Dependency_at w w.heap.size v a) (_ : Dependency_wf a) (_ : Dependency_sz a ≤ 1048576) (h' : Dependency_at w w.heap.size u b) (_ : Dependency_wf b) (_ : Dependency_sz b ≤ 1048576) :
    Calls Try.prog 43 #[v, u] w fun e w' => e = .returned (.bool (depEq a b)) ∧ Below w.heap.size w w' := implEqualDependencies_any v u a b w h h'

end Go.Proofs.Ytdamhifomcknaaa
