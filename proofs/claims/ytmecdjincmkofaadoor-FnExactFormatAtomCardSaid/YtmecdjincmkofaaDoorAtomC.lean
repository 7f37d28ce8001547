/-
  Walks and plain lemmas for the laws of this seat: what single Go functions return, for every argument.
-/
import Derived.Test.YtmecdjincmkofaaDoorInts
import Derived.Test.YtmecdjincmkofaaDoorTyAtom
import Derived.Test.YtmecdjincmkofaaDoorFactC
namespace Go.Proofs.YtmecdjincmkofaaDoor
open Go.RowKit

set_option maxHeartbeats 400000 in
theorem eqAtom_any (r : Int) (v u : Value) (l : List Int) (w : World) (hl : IntsAt w w.heap.size v l) (hm : IntsAt w w.heap.size u l) :
    Calls Tryd.prog 15 #[.agg #[.int .i64 r, v], .agg #[.int .i64 r, u]] w fun e w' => e = .returned (.bool true) ∧ Below w.heap.size w w' := by
  have hb : Below w.heap.size w ((w.alloc (.cells #[.int .i64 r, v] 33)).alloc (.cells #[.int .i64 r, u] 33)) := below_more (below_more (Below.refl _ _) _) _
  have hcon := eqIntS_any v u l _ ((hl.below hb (Nat.le_refl _)).more hb.size) ((hm.below hb (Nat.le_refl _)).more hb.size)
  clear hl hm
  go_enter Tryd.func15, Tryd.ntmps15
  go_wp2_with fail
  refine hcon.mono ?_
  rintro e w' ⟨rfl, hb'⟩
  go_wp2
  go_ret
  exact ⟨rfl, hb.trans (hb'.mono hb.size)⟩

theorem eqAtom_c (v u : Value) (x : Atm) (w : World) (h : Atom_at w w.heap.size v x) (h' : Atom_at w w.heap.size u x) :
    Calls Tryd.prog 15 #[v, u] w fun e w' => e = .returned (.bool true) ∧ Below w.heap.size w w' := by
  obtain ⟨V, rfl, h⟩ := h
  obtain ⟨U, rfl, h'⟩ := h'
  exact eqAtom_any x.rel V U x.vals w h h'

set_option maxHeartbeats 400000 in
theorem szAtom_any (r : Int) (v : Value) (l : List Int) (left : Int) (w : World) (hl : IntsAt w w.heap.size v l) (h0 : 0 ≤ left) (h1 : left ≤ 1048576) :
    Calls Tryd.prog 9 #[.agg #[.int .i64 r, v], .int .i64 left] w fun e w' => e = .returned (.int .i64 (szLeft left (l.length : Nat))) ∧ Below w.heap.size w w' := by
  have hb : Below w.heap.size w (w.alloc (.cells #[.int .i64 r, v] 27)) := (Below.refl _ _).alloc (Nat.le_refl _) _
  have hcon := szIntS_any v l w.heap.size left _ (hl.below hb (Nat.le_refl _)) h0 h1
  clear hl
  by_cases h : ((l.length : Nat) : Int) ≤ left
  all_goals
    first | rw [szLeft_yes h] at hcon ⊢ | rw [szLeft_no h] at hcon ⊢
    go_enter Tryd.func9, Tryd.ntmps9
    go_wp2_with fail
    refine hcon.mono ?_
    rintro e w' ⟨rfl, rfl⟩
    go_wp2
    go_ret
    exact ⟨rfl, hb⟩

theorem szAtom_c (v : Value) (x : Atm) (left : Int) (w : World) (h : Atom_at w w.heap.size v x) (_ : Atom_wf x) (h0 : 0 ≤ left) (h1 : left ≤ 1048576) :
    Calls Tryd.prog 9 #[v, .int .i64 left] w fun e w' => e = .returned (.int .i64 (szLeft left (Atom_sz x : Nat))) ∧ Below w.heap.size w w' := by
  obtain ⟨V, rfl, h⟩ := h
  exact szAtom_any x.rel V x.vals left w h h0 h1

set_option maxHeartbeats 800000 in
theorem toAtom_any (r : Int) (v : Value) (l : List Int) (w : World) (hl : IntsAt w w.heap.size v l) (hn : l.length ≤ 1048576) :
    Calls Tryd.prog 12 #[.agg #[.int .i64 r, v]] w fun e w' => ∃ u, e = .returned (.agg #[.int .i64 r, u]) ∧ OwnInts w.heap.size u l w' ∧ Below w.heap.size w w' := by
  have hcon := fun w' (hb : Below w.heap.size w w') => toIntS_any v l w' ((hl.below hb (Nat.le_refl _)).more hb.size) hn
  have HC := Lib.hid hcon
  clear hcon hl
  go_enter Tryd.func12, Tryd.ntmps12
  go_wp2_with fail
  have hb3 : Below w.heap.size w (((w.alloc (.cells #[.int .i64 r, v] 27)).alloc (.cells #[.int .i64 0, .slice none 0 0] 33)).alloc (.cells #[.int .i64 r, .slice none 0 0] 33)) := below_more (below_more (below_more (Below.refl _ _) _) _) _
  refine (HC.out _ hb3).mono ?_
  rintro e w' ⟨u, rfl, hO, hb'⟩
  obtain ⟨hc, hfz⟩ := bcell hb'
  obtain ⟨A, c, rfl, -, -, -⟩ := hO.at_
  have HB := Lib.hid hb'
  have HB3 := Lib.hid hb3
  have HO := Lib.hid hO
  clear hO hb' hb3
  go_wp2
  refine bodyPost_ret (v := .agg #[.int .i64 r, .slice A l.length c]) (by simp [results, Tryd.results12, go_sem, hc]) rfl ⟨_, rfl, ?_, ?_⟩
  · have hC : Chg (fun k => k < w.heap.size + 3) w' (((w'.setCell ⟨w.heap.size + 1 + 1, 1, none⟩ (.slice A l.length c)).setCell ⟨w.heap.size + 1, 0, none⟩ (.int .i64 r)).setCell ⟨w.heap.size + 1, 1, none⟩ (.slice A l.length c)) :=
      (((Chg.refl _ _).setCell (p := ⟨w.heap.size + 1 + 1, 1, none⟩) (by show _ < _; simp) _).setCell (p := ⟨w.heap.size + 1, 0, none⟩) (by show _ < _; simp) _).setCell (p := ⟨w.heap.size + 1, 1, none⟩) (by show _ < _; simp) _
    refine (OwnInts.chg HO.out hC (fun g hg hlt => ?_)).mono HB3.out.size
    have := (HO.out.lt g hg).1
    simp at this; omega
  · exact (((HB3.out.trans (HB.out.mono HB3.out.size)).setCell (p := ⟨w.heap.size + 1 + 1, 1, none⟩) (by show _ ≤ _; simp; omega) _).setCell (p := ⟨w.heap.size + 1, 0, none⟩) (by show _ ≤ _; simp) _).setCell (p := ⟨w.heap.size + 1, 1, none⟩) (by show _ ≤ _; simp) _

theorem toAtom_c (v : Value) (x : Atm) (w : World) (h : Atom_at w w.heap.size v x) (hn : Atom_sz x ≤ 1048576) :
    Calls Tryd.prog 12 #[v] w fun e w' => ∃ u, e = .returned u ∧ Atom_own w.heap.size w'.heap.size u x w' ∧ Below w.heap.size w w' := by
  obtain ⟨V, rfl, h⟩ := h
  exact (toAtom_any x.rel V x.vals w h hn).mono fun _ _ ⟨u, he, ho, hb⟩ => ⟨_, he, ⟨u, rfl, IntsO.of ho⟩, hb⟩

end Go.Proofs.YtmecdjincmkofaaDoor
