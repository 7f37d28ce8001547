/-
  Walks and plain lemmas for the laws of this seat: what single Go functions return, for every argument.
-/
import Derived.Test.YtbdgdphehbkjgaaInts
import Derived.Test.YtbdgdphehbkjgaaIntsF
namespace Go.Proofs.Ytbdgdphehbkjgaa
open Go.RowKit

set_option maxHeartbeats 800000 in
theorem toFact_any (r : Int) (v : Value) (l : List Int) (w : World) (hl : IntsAt w w.heap.size v l) (hn : l.length ≤ 1048576) :
    Calls Try.prog 31 #[.agg #[.int .i64 r, v]] w fun e w' => ∃ u, e = .returned (.agg #[.int .i64 r, u]) ∧ OwnInts w.heap.size u l w' ∧ Below w.heap.size w w' := by
  have hcon := fun w' (hb : Below w.heap.size w w') => toIntS_any v l w' ((hl.below hb (Nat.le_refl _)).more hb.size) hn
  have HC := Lib.hid hcon
  clear hcon hl
  go_enter Try.func31, Try.ntmps31
  go_wp2_with fail
  have hb3 : Below w.heap.size w (((w.alloc (.cells #[.int .i64 r, v] 48)).alloc (.cells #[.int .i64 0, .slice none 0 0] 30)).alloc (.cells #[.int .i64 r, .slice none 0 0] 30)) := below_more (below_more (below_more (Below.refl _ _) _) _) _
  refine (HC.out _ hb3).mono ?_
  rintro e w' ⟨u, rfl, hO, hb'⟩
  obtain ⟨hc, hfz⟩ := bcell hb'
  obtain ⟨A, c, rfl, -, -, -⟩ := hO.at_
  have HB := Lib.hid hb'
  have HB3 := Lib.hid hb3
  have HO := Lib.hid hO
  clear hO hb' hb3
  go_wp2
  refine bodyPost_ret (v := .agg #[.int .i64 r, .slice A l.length c]) (by simp [results, Try.results31, go_sem, hc]) rfl ⟨_, rfl, ?_, ?_⟩
  · have hC : Chg (fun k => k < w.heap.size + 3) w' (((w'.setCell ⟨w.heap.size + 1 + 1, 1, none⟩ (.slice A l.length c)).setCell ⟨w.heap.size + 1, 0, none⟩ (.int .i64 r)).setCell ⟨w.heap.size + 1, 1, none⟩ (.slice A l.length c)) :=
      (((Chg.refl _ _).setCell (p := ⟨w.heap.size + 1 + 1, 1, none⟩) (by show _ < _; simp) _).setCell (p := ⟨w.heap.size + 1, 0, none⟩) (by show _ < _; simp) _).setCell (p := ⟨w.heap.size + 1, 1, none⟩) (by show _ < _; simp) _
    refine (OwnInts.chg HO.out hC (fun g hg hlt => ?_)).mono HB3.out.size
    have := (HO.out.lt g hg).1
    simp at this; omega
  · exact (((HB3.out.trans (HB.out.mono HB3.out.size)).setCell (p := ⟨w.heap.size + 1 + 1, 1, none⟩) (by show _ ≤ _; simp; omega) _).setCell (p := ⟨w.heap.size + 1, 0, none⟩) (by show _ ≤ _; simp) _).setCell (p := ⟨w.heap.size + 1, 1, none⟩) (by show _ ≤ _; simp) _
set_option maxHeartbeats 400000 in
theorem szFact_any (r : Int) (v : Value) (l : List Int) (left : Int) (w : World) (hl : IntsAt w w.heap.size v l) (h0 : 0 ≤ left) (h1 : left ≤ 1048576) :
    Calls Try.prog 29 #[.agg #[.int .i64 r, v], .int .i64 left] w fun e w' => e = .returned (.int .i64 (szLeft left (l.length : Nat))) ∧ Below w.heap.size w w' := by
  have hb : Below w.heap.size w (w.alloc (.cells #[.int .i64 r, v] 48)) := (Below.refl _ _).alloc (Nat.le_refl _) _
  have hcon := szIntS_any v l w.heap.size left _ (hl.below hb (Nat.le_refl _)) h0 h1
  clear hl
  by_cases h : ((l.length : Nat) : Int) ≤ left
  all_goals
    first | rw [szLeft_yes h] at hcon ⊢ | rw [szLeft_no h] at hcon ⊢
    go_enter Try.func29, Try.ntmps29
    go_wp2_with fail
    refine hcon.mono ?_
    rintro e w' ⟨rfl, rfl⟩
    go_wp2
    go_ret
    exact ⟨rfl, hb⟩
set_option maxHeartbeats 400000 in
theorem eqFact_any (r : Int) (v u : Value) (l : List Int) (w : World) (hl : IntsAt w w.heap.size v l) (hm : IntsAt w w.heap.size u l) :
    Calls Try.prog 32 #[.agg #[.int .i64 r, v], .agg #[.int .i64 r, u]] w fun e w' => e = .returned (.bool true) ∧ Below w.heap.size w w' := by
  have hb : Below w.heap.size w ((w.alloc (.cells #[.int .i64 r, v] 30)).alloc (.cells #[.int .i64 r, u] 30)) := below_more (below_more (Below.refl _ _) _) _
  have hcon := eqIntS_any v u l _ ((hl.below hb (Nat.le_refl _)).more hb.size) ((hm.below hb (Nat.le_refl _)).more hb.size)
  clear hl hm
  go_enter Try.func32, Try.ntmps32
  go_wp2_with fail
  refine hcon.mono ?_
  rintro e w' ⟨rfl, hb'⟩
  go_wp2
  go_ret
  exact ⟨rfl, hb.trans (hb'.mono hb.size)⟩

end Go.Proofs.Ytbdgdphehbkjgaa
