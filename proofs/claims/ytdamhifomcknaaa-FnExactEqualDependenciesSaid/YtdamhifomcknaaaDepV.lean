/-
  Walks and plain lemmas for the laws of this seat: what single Go functions return, for every argument.
-/
import Derived.Test.YtdamhifomcknaaaTyAtom
import Derived.Test.YtdamhifomcknaaaAft
import Derived.Test.YtdamhifomcknaaaAtomV
namespace Go.Proofs.Ytdamhifomcknaaa
open Go.RowKit

/-- two dependencies are the same -/
def depEq (a b : Dep) : Bool := decide (a.body = b.body) && (decide (a.head = b.head) && ((a.egd == b.egd) && ((a.left == b.left) && (a.right == b.right))))
set_option maxHeartbeats 6400000 in
set_option maxRecDepth 100000 in
theorem specEqualDependencies_any (v u : Value) (a b : Dep) (w : World) (h : Dependency_at w w.heap.size v a) (h' : Dependency_at w w.heap.size u b) :
    Calls Try.prog 42 #[v, u] w fun e w' => e = .returned (.bool (depEq a b)) ∧ Below w.heap.size w w' := by
  obtain ⟨P, c, Q, d, rfl⟩ := Dependency_form h
  obtain ⟨P', c', Q', d', rfl⟩ := Dependency_form h'
  obtain ⟨V1, V2, hv, hR, hF⟩ := h
  obtain ⟨U1, U2, hu, hR', hF'⟩ := h'
  simp only [Value.agg.injEq, Array.mk.injEq, List.cons.injEq, and_true] at hv hu
  obtain ⟨rfl, rfl⟩ := hv
  obtain ⟨rfl, rfl⟩ := hu
  have hE : Below w.heap.size w ((w.alloc (.cells #[.slice P a.body.length c, .slice Q a.head.length d, .bool a.egd, .int .i64 a.left, .int .i64 a.right] 43)).alloc (.cells #[.slice P' b.body.length c', .slice Q' b.head.length d', .bool b.egd, .int .i64 b.left, .int .i64 b.right] 43)) := below_more (below_more (Below.refl _ _) _) _
  have hEz : w.heap.size + 2 = ((w.alloc (.cells #[.slice P a.body.length c, .slice Q a.head.length d, .bool a.egd, .int .i64 a.left, .int .i64 a.right] 43)).alloc (.cells #[.slice P' b.body.length c', .slice Q' b.head.length d', .bool b.egd, .int .i64 b.left, .int .i64 b.right] 43)).heap.size := by simp
  have A1 := Lib.hid (show ((w.alloc (.cells #[.slice P a.body.length c, .slice Q a.head.length d, .bool a.egd, .int .i64 a.left, .int .i64 a.right] 43)).alloc (.cells #[.slice P' b.body.length c', .slice Q' b.head.length d', .bool b.egd, .int .i64 b.left, .int .i64 b.right] 43)).cell? ⟨w.heap.size, 1, none⟩ = some (.slice Q a.head.length d) by simp [go_sem])
  have B1 := Lib.hid (show ((w.alloc (.cells #[.slice P a.body.length c, .slice Q a.head.length d, .bool a.egd, .int .i64 a.left, .int .i64 a.right] 43)).alloc (.cells #[.slice P' b.body.length c', .slice Q' b.head.length d', .bool b.egd, .int .i64 b.left, .int .i64 b.right] 43)).cell? ⟨w.heap.size + 1, 1, none⟩ = some (.slice Q' b.head.length d') by simp [go_sem])
  have A2 := Lib.hid (show ((w.alloc (.cells #[.slice P a.body.length c, .slice Q a.head.length d, .bool a.egd, .int .i64 a.left, .int .i64 a.right] 43)).alloc (.cells #[.slice P' b.body.length c', .slice Q' b.head.length d', .bool b.egd, .int .i64 b.left, .int .i64 b.right] 43)).cell? ⟨w.heap.size, 2, none⟩ = some (.bool a.egd) by simp [go_sem])
  have B2 := Lib.hid (show ((w.alloc (.cells #[.slice P a.body.length c, .slice Q a.head.length d, .bool a.egd, .int .i64 a.left, .int .i64 a.right] 43)).alloc (.cells #[.slice P' b.body.length c', .slice Q' b.head.length d', .bool b.egd, .int .i64 b.left, .int .i64 b.right] 43)).cell? ⟨w.heap.size + 1, 2, none⟩ = some (.bool b.egd) by simp [go_sem])
  have A3 := Lib.hid (show ((w.alloc (.cells #[.slice P a.body.length c, .slice Q a.head.length d, .bool a.egd, .int .i64 a.left, .int .i64 a.right] 43)).alloc (.cells #[.slice P' b.body.length c', .slice Q' b.head.length d', .bool b.egd, .int .i64 b.left, .int .i64 b.right] 43)).cell? ⟨w.heap.size, 3, none⟩ = some (.int .i64 a.left) by simp [go_sem])
  have B3 := Lib.hid (show ((w.alloc (.cells #[.slice P a.body.length c, .slice Q a.head.length d, .bool a.egd, .int .i64 a.left, .int .i64 a.right] 43)).alloc (.cells #[.slice P' b.body.length c', .slice Q' b.head.length d', .bool b.egd, .int .i64 b.left, .int .i64 b.right] 43)).cell? ⟨w.heap.size + 1, 3, none⟩ = some (.int .i64 b.left) by simp [go_sem])
  have A4 := Lib.hid (show ((w.alloc (.cells #[.slice P a.body.length c, .slice Q a.head.length d, .bool a.egd, .int .i64 a.left, .int .i64 a.right] 43)).alloc (.cells #[.slice P' b.body.length c', .slice Q' b.head.length d', .bool b.egd, .int .i64 b.left, .int .i64 b.right] 43)).cell? ⟨w.heap.size, 4, none⟩ = some (.int .i64 a.right) by simp [go_sem])
  have B4 := Lib.hid (show ((w.alloc (.cells #[.slice P a.body.length c, .slice Q a.head.length d, .bool a.egd, .int .i64 a.left, .int .i64 a.right] 43)).alloc (.cells #[.slice P' b.body.length c', .slice Q' b.head.length d', .bool b.egd, .int .i64 b.left, .int .i64 b.right] 43)).cell? ⟨w.heap.size + 1, 4, none⟩ = some (.int .i64 b.right) by simp [go_sem])
  have c1 := fun bb hq => l9Atoms_at (.slice P a.body.length c) (.slice P' b.body.length c') a.body b.body bb hq ((w.alloc (.cells #[.slice P a.body.length c, .slice Q a.head.length d, .bool a.egd, .int .i64 a.left, .int .i64 a.right] 43)).alloc (.cells #[.slice P' b.body.length c', .slice Q' b.head.length d', .bool b.egd, .int .i64 b.left, .int .i64 b.right] 43)) ((hR.below hE (Nat.le_refl _)).more hE.size) ((hR'.below hE (Nat.le_refl _)).more hE.size)
  have c2 := fun bb hq w' (hb : Below ((w.alloc (.cells #[.slice P a.body.length c, .slice Q a.head.length d, .bool a.egd, .int .i64 a.left, .int .i64 a.right] 43)).alloc (.cells #[.slice P' b.body.length c', .slice Q' b.head.length d', .bool b.egd, .int .i64 b.left, .int .i64 b.right] 43)).heap.size ((w.alloc (.cells #[.slice P a.body.length c, .slice Q a.head.length d, .bool a.egd, .int .i64 a.left, .int .i64 a.right] 43)).alloc (.cells #[.slice P' b.body.length c', .slice Q' b.head.length d', .bool b.egd, .int .i64 b.left, .int .i64 b.right] 43)) w') => l9Atoms_at (.slice Q a.head.length d) (.slice Q' b.head.length d') a.head b.head bb hq w' ((hF.below (hE.trans (hb.mono hE.size)) (Nat.le_refl _)).more (hE.trans (hb.mono hE.size)).size) ((hF'.below (hE.trans (hb.mono hE.size)) (Nat.le_refl _)).more (hE.trans (hb.mono hE.size)).size)
  clear hR hF hR' hF'
  cases q0 : decide (a.body = b.body) with
  | false =>
    replace c1 := c1 false q0
    clear c2
    have HD := Lib.hid (show depEq a b = false by unfold depEq; rw [q0]; rfl)
    clear q0
    go_enter Try.func42, Try.ntmps42
    go_wp2_with fail
    refine c1.mono ?_
    rintro e w1 ⟨rfl, hb1⟩
    have hz1 := hb1.size
    have hB1 := hE.trans (hb1.mono hE.size)
    go_wp2
    go_ret
    exact ⟨ret_bool HD.out.symm, hB1⟩
  | true =>
    replace c1 := c1 true q0
    cases q1 : decide (a.head = b.head) with
    | false =>
      replace c2 := c2 false q1
      have HD := Lib.hid (show depEq a b = false by unfold depEq; rw [q0, q1]; rfl)
      clear q0 q1
      go_enter Try.func42, Try.ntmps42
      go_wp2_with fail
      refine c1.mono ?_
      rintro e w1 ⟨rfl, hb1⟩
      have hz1 := hb1.size
      have hB1 := hE.trans (hb1.mono hE.size)
      have a1 := (hb1.cell (p := ⟨w.heap.size, 1, none⟩) (by show w.heap.size < _; omega)).trans A1.out
      have b1 := (hb1.cell (p := ⟨w.heap.size + 1, 1, none⟩) (by show w.heap.size + 1 < _; omega)).trans B1.out
      have a2 := (hb1.cell (p := ⟨w.heap.size, 2, none⟩) (by show w.heap.size < _; omega)).trans A2.out
      have b2 := (hb1.cell (p := ⟨w.heap.size + 1, 2, none⟩) (by show w.heap.size + 1 < _; omega)).trans B2.out
      have a3 := (hb1.cell (p := ⟨w.heap.size, 3, none⟩) (by show w.heap.size < _; omega)).trans A3.out
      have b3 := (hb1.cell (p := ⟨w.heap.size + 1, 3, none⟩) (by show w.heap.size + 1 < _; omega)).trans B3.out
      have a4 := (hb1.cell (p := ⟨w.heap.size, 4, none⟩) (by show w.heap.size < _; omega)).trans A4.out
      have b4 := (hb1.cell (p := ⟨w.heap.size + 1, 4, none⟩) (by show w.heap.size + 1 < _; omega)).trans B4.out
      replace c2 := c2 w1 hb1
      clear c1 A1 A2 A3 A4 B1 B2 B3 B4
      go_wp2_with fail
      refine c2.mono ?_
      rintro e w2 ⟨rfl, hb2⟩
      have hB2 := hB1.trans (hb2.mono hB1.size)
      clear c2
      replace a2 := (hb2.cell (p := ⟨w.heap.size, 2, none⟩) (by show w.heap.size < _; omega)).trans a2
      replace b2 := (hb2.cell (p := ⟨w.heap.size + 1, 2, none⟩) (by show w.heap.size + 1 < _; omega)).trans b2
      replace a3 := (hb2.cell (p := ⟨w.heap.size, 3, none⟩) (by show w.heap.size < _; omega)).trans a3
      replace b3 := (hb2.cell (p := ⟨w.heap.size + 1, 3, none⟩) (by show w.heap.size + 1 < _; omega)).trans b3
      replace a4 := (hb2.cell (p := ⟨w.heap.size, 4, none⟩) (by show w.heap.size < _; omega)).trans a4
      replace b4 := (hb2.cell (p := ⟨w.heap.size + 1, 4, none⟩) (by show w.heap.size + 1 < _; omega)).trans b4
      go_wp2
      go_ret
      exact ⟨ret_bool HD.out.symm, hB2⟩
    | true =>
      replace c2 := c2 true q1
      cases q2 : (a.egd == b.egd) with
      | false =>
        have HD := Lib.hid (show depEq a b = false by unfold depEq; rw [q0, q1, q2]; rfl)
        clear q0 q1
        go_enter Try.func42, Try.ntmps42
        go_wp2_with fail
        refine c1.mono ?_
        rintro e w1 ⟨rfl, hb1⟩
        have hz1 := hb1.size
        have hB1 := hE.trans (hb1.mono hE.size)
        have a1 := (hb1.cell (p := ⟨w.heap.size, 1, none⟩) (by show w.heap.size < _; omega)).trans A1.out
        have b1 := (hb1.cell (p := ⟨w.heap.size + 1, 1, none⟩) (by show w.heap.size + 1 < _; omega)).trans B1.out
        have a2 := (hb1.cell (p := ⟨w.heap.size, 2, none⟩) (by show w.heap.size < _; omega)).trans A2.out
        have b2 := (hb1.cell (p := ⟨w.heap.size + 1, 2, none⟩) (by show w.heap.size + 1 < _; omega)).trans B2.out
        have a3 := (hb1.cell (p := ⟨w.heap.size, 3, none⟩) (by show w.heap.size < _; omega)).trans A3.out
        have b3 := (hb1.cell (p := ⟨w.heap.size + 1, 3, none⟩) (by show w.heap.size + 1 < _; omega)).trans B3.out
        have a4 := (hb1.cell (p := ⟨w.heap.size, 4, none⟩) (by show w.heap.size < _; omega)).trans A4.out
        have b4 := (hb1.cell (p := ⟨w.heap.size + 1, 4, none⟩) (by show w.heap.size + 1 < _; omega)).trans B4.out
        replace c2 := c2 w1 hb1
        clear c1 A1 A2 A3 A4 B1 B2 B3 B4
        go_wp2_with fail
        refine c2.mono ?_
        rintro e w2 ⟨rfl, hb2⟩
        have hB2 := hB1.trans (hb2.mono hB1.size)
        clear c2
        replace a2 := (hb2.cell (p := ⟨w.heap.size, 2, none⟩) (by show w.heap.size < _; omega)).trans a2
        replace b2 := (hb2.cell (p := ⟨w.heap.size + 1, 2, none⟩) (by show w.heap.size + 1 < _; omega)).trans b2
        replace a3 := (hb2.cell (p := ⟨w.heap.size, 3, none⟩) (by show w.heap.size < _; omega)).trans a3
        replace b3 := (hb2.cell (p := ⟨w.heap.size + 1, 3, none⟩) (by show w.heap.size + 1 < _; omega)).trans b3
        replace a4 := (hb2.cell (p := ⟨w.heap.size, 4, none⟩) (by show w.heap.size < _; omega)).trans a4
        replace b4 := (hb2.cell (p := ⟨w.heap.size + 1, 4, none⟩) (by show w.heap.size + 1 < _; omega)).trans b4
        go_wp2
        go_ret
        exact ⟨ret_bool HD.out.symm, hB2⟩
      | true =>
        cases q3 : (a.left == b.left) with
        | false =>
          have HD := Lib.hid (show depEq a b = false by unfold depEq; rw [q0, q1, q2, q3]; rfl)
          clear q0 q1
          go_enter Try.func42, Try.ntmps42
          go_wp2_with fail
          refine c1.mono ?_
          rintro e w1 ⟨rfl, hb1⟩
          have hz1 := hb1.size
          have hB1 := hE.trans (hb1.mono hE.size)
          have a1 := (hb1.cell (p := ⟨w.heap.size, 1, none⟩) (by show w.heap.size < _; omega)).trans A1.out
          have b1 := (hb1.cell (p := ⟨w.heap.size + 1, 1, none⟩) (by show w.heap.size + 1 < _; omega)).trans B1.out
          have a2 := (hb1.cell (p := ⟨w.heap.size, 2, none⟩) (by show w.heap.size < _; omega)).trans A2.out
          have b2 := (hb1.cell (p := ⟨w.heap.size + 1, 2, none⟩) (by show w.heap.size + 1 < _; omega)).trans B2.out
          have a3 := (hb1.cell (p := ⟨w.heap.size, 3, none⟩) (by show w.heap.size < _; omega)).trans A3.out
          have b3 := (hb1.cell (p := ⟨w.heap.size + 1, 3, none⟩) (by show w.heap.size + 1 < _; omega)).trans B3.out
          have a4 := (hb1.cell (p := ⟨w.heap.size, 4, none⟩) (by show w.heap.size < _; omega)).trans A4.out
          have b4 := (hb1.cell (p := ⟨w.heap.size + 1, 4, none⟩) (by show w.heap.size + 1 < _; omega)).trans B4.out
          replace c2 := c2 w1 hb1
          clear c1 A1 A2 A3 A4 B1 B2 B3 B4
          go_wp2_with fail
          refine c2.mono ?_
          rintro e w2 ⟨rfl, hb2⟩
          have hB2 := hB1.trans (hb2.mono hB1.size)
          clear c2
          replace a2 := (hb2.cell (p := ⟨w.heap.size, 2, none⟩) (by show w.heap.size < _; omega)).trans a2
          replace b2 := (hb2.cell (p := ⟨w.heap.size + 1, 2, none⟩) (by show w.heap.size + 1 < _; omega)).trans b2
          replace a3 := (hb2.cell (p := ⟨w.heap.size, 3, none⟩) (by show w.heap.size < _; omega)).trans a3
          replace b3 := (hb2.cell (p := ⟨w.heap.size + 1, 3, none⟩) (by show w.heap.size + 1 < _; omega)).trans b3
          replace a4 := (hb2.cell (p := ⟨w.heap.size, 4, none⟩) (by show w.heap.size < _; omega)).trans a4
          replace b4 := (hb2.cell (p := ⟨w.heap.size + 1, 4, none⟩) (by show w.heap.size + 1 < _; omega)).trans b4
          go_wp2
          go_ret
          exact ⟨ret_bool HD.out.symm, hB2⟩
        | true =>
          cases q4 : (a.right == b.right) with
          | false =>
            have HD := Lib.hid (show depEq a b = false by unfold depEq; rw [q0, q1, q2, q3, q4]; rfl)
            clear q0 q1
            go_enter Try.func42, Try.ntmps42
            go_wp2_with fail
            refine c1.mono ?_
            rintro e w1 ⟨rfl, hb1⟩
            have hz1 := hb1.size
            have hB1 := hE.trans (hb1.mono hE.size)
            have a1 := (hb1.cell (p := ⟨w.heap.size, 1, none⟩) (by show w.heap.size < _; omega)).trans A1.out
            have b1 := (hb1.cell (p := ⟨w.heap.size + 1, 1, none⟩) (by show w.heap.size + 1 < _; omega)).trans B1.out
            have a2 := (hb1.cell (p := ⟨w.heap.size, 2, none⟩) (by show w.heap.size < _; omega)).trans A2.out
            have b2 := (hb1.cell (p := ⟨w.heap.size + 1, 2, none⟩) (by show w.heap.size + 1 < _; omega)).trans B2.out
            have a3 := (hb1.cell (p := ⟨w.heap.size, 3, none⟩) (by show w.heap.size < _; omega)).trans A3.out
            have b3 := (hb1.cell (p := ⟨w.heap.size + 1, 3, none⟩) (by show w.heap.size + 1 < _; omega)).trans B3.out
            have a4 := (hb1.cell (p := ⟨w.heap.size, 4, none⟩) (by show w.heap.size < _; omega)).trans A4.out
            have b4 := (hb1.cell (p := ⟨w.heap.size + 1, 4, none⟩) (by show w.heap.size + 1 < _; omega)).trans B4.out
            replace c2 := c2 w1 hb1
            clear c1 A1 A2 A3 A4 B1 B2 B3 B4
            go_wp2_with fail
            refine c2.mono ?_
            rintro e w2 ⟨rfl, hb2⟩
            have hB2 := hB1.trans (hb2.mono hB1.size)
            clear c2
            replace a2 := (hb2.cell (p := ⟨w.heap.size, 2, none⟩) (by show w.heap.size < _; omega)).trans a2
            replace b2 := (hb2.cell (p := ⟨w.heap.size + 1, 2, none⟩) (by show w.heap.size + 1 < _; omega)).trans b2
            replace a3 := (hb2.cell (p := ⟨w.heap.size, 3, none⟩) (by show w.heap.size < _; omega)).trans a3
            replace b3 := (hb2.cell (p := ⟨w.heap.size + 1, 3, none⟩) (by show w.heap.size + 1 < _; omega)).trans b3
            replace a4 := (hb2.cell (p := ⟨w.heap.size, 4, none⟩) (by show w.heap.size < _; omega)).trans a4
            replace b4 := (hb2.cell (p := ⟨w.heap.size + 1, 4, none⟩) (by show w.heap.size + 1 < _; omega)).trans b4
            go_wp2
            go_ret
            exact ⟨ret_bool HD.out.symm, hB2⟩
          | true =>
            have HD := Lib.hid (show depEq a b = true by unfold depEq; rw [q0, q1, q2, q3, q4]; rfl)
            clear q0 q1
            go_enter Try.func42, Try.ntmps42
            go_wp2_with fail
            refine c1.mono ?_
            rintro e w1 ⟨rfl, hb1⟩
            have hz1 := hb1.size
            have hB1 := hE.trans (hb1.mono hE.size)
            have a1 := (hb1.cell (p := ⟨w.heap.size, 1, none⟩) (by show w.heap.size < _; omega)).trans A1.out
            have b1 := (hb1.cell (p := ⟨w.heap.size + 1, 1, none⟩) (by show w.heap.size + 1 < _; omega)).trans B1.out
            have a2 := (hb1.cell (p := ⟨w.heap.size, 2, none⟩) (by show w.heap.size < _; omega)).trans A2.out
            have b2 := (hb1.cell (p := ⟨w.heap.size + 1, 2, none⟩) (by show w.heap.size + 1 < _; omega)).trans B2.out
            have a3 := (hb1.cell (p := ⟨w.heap.size, 3, none⟩) (by show w.heap.size < _; omega)).trans A3.out
            have b3 := (hb1.cell (p := ⟨w.heap.size + 1, 3, none⟩) (by show w.heap.size + 1 < _; omega)).trans B3.out
            have a4 := (hb1.cell (p := ⟨w.heap.size, 4, none⟩) (by show w.heap.size < _; omega)).trans A4.out
            have b4 := (hb1.cell (p := ⟨w.heap.size + 1, 4, none⟩) (by show w.heap.size + 1 < _; omega)).trans B4.out
            replace c2 := c2 w1 hb1
            clear c1 A1 A2 A3 A4 B1 B2 B3 B4
            go_wp2_with fail
            refine c2.mono ?_
            rintro e w2 ⟨rfl, hb2⟩
            have hB2 := hB1.trans (hb2.mono hB1.size)
            clear c2
            replace a2 := (hb2.cell (p := ⟨w.heap.size, 2, none⟩) (by show w.heap.size < _; omega)).trans a2
            replace b2 := (hb2.cell (p := ⟨w.heap.size + 1, 2, none⟩) (by show w.heap.size + 1 < _; omega)).trans b2
            replace a3 := (hb2.cell (p := ⟨w.heap.size, 3, none⟩) (by show w.heap.size < _; omega)).trans a3
            replace b3 := (hb2.cell (p := ⟨w.heap.size + 1, 3, none⟩) (by show w.heap.size + 1 < _; omega)).trans b3
            replace a4 := (hb2.cell (p := ⟨w.heap.size, 4, none⟩) (by show w.heap.size < _; omega)).trans a4
            replace b4 := (hb2.cell (p := ⟨w.heap.size + 1, 4, none⟩) (by show w.heap.size + 1 < _; omega)).trans b4
            go_wp2
            go_ret
            exact ⟨ret_bool HD.out.symm, hB2⟩
theorem specEqualDependencies_c (v : Value) (a : Dep) (u : Value) (b : Dep) (w : World) (h : Dependency_at w w.heap.size v a) (_ : Dependency_wf a) (_ : Dependency_sz a ≤ 1048576) (h' : Dependency_at w w.heap.size u b) (_ : Dependency_wf b) (_ : Dependency_sz b ≤ 1048576) :
    Calls Try.prog 42 #[v, u] w fun e w' => e = .returned (.bool (depEq a b)) ∧ Below w.heap.size w w' := specEqualDependencies_any v u a b w h h'

end Go.Proofs.Ytdamhifomcknaaa
