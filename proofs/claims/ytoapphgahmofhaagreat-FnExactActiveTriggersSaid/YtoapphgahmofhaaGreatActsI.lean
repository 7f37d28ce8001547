/-
  Walks and plain lemmas for the laws of this seat: what single Go functions return, for every argument.
-/
import Derived.Test.YtoapphgahmofhaaGreatActS
import Derived.Test.YtoapphgahmofhaaGreatSSO
import Derived.Test.YtoapphgahmofhaaGreatRowCut
namespace Go.Proofs.YtoapphgahmofhaaGreat
open Go.RowKit

theorem acts_no {x : Inst} {d : Dep} (h : depOk x.rels d = false) : ActiveTriggers_r0 x d = [] := by unfold ActiveTriggers_r0; rw [if_neg (by rw [h]; simp)]
theorem acts_keep {x : Inst} {d : Dep} (h : depOk x.rels d = true) : ActiveTriggers_r0 x d = keepN (holdsM x.facts d) (FindMatches_r0 x d.body) := active_filter h
set_option maxHeartbeats 3200000 in
set_option maxRecDepth 100000 in
/-- the function value that ActiveTriggers hands on -/
theorem implActs_fn (x : Inst) (hxw : Instance_wf x) (d : Dep) (hdw : Dependency_wf d) (hdk : depOk x.rels d = true) (Q R S : Option Addr) (d1 q t g0 g1 D : Nat) (E : World) (hg0 : g0 < D) (hg1 : g1 < D)
    (X1 : E.cell? ⟨g0, 1, none⟩ = some (.slice Q x.facts.length d1)) (D0 : E.cell? ⟨g1, 0, none⟩ = some (.slice R d.body.length q)) (D1 : E.cell? ⟨g1, 1, none⟩ = some (.slice S d.head.length t)) (D2 : E.cell? ⟨g1, 2, none⟩ = some (.bool d.egd)) (D3 : E.cell? ⟨g1, 3, none⟩ = some (.int .i64 d.left)) (D4 : E.cell? ⟨g1, 4, none⟩ = some (.int .i64 d.right))
    (hF : FactS_at E D (.slice Q x.facts.length d1) x.facts) (hD : Dependency_at E D (.agg #[.slice R d.body.length q, .slice S d.head.length t, .bool d.egd, .int .i64 d.left, .int .i64 d.right]) d) :
    TellsR 38 #[.pointer (some ⟨g0, 0, none⟩), .pointer (some ⟨g1, 0, none⟩)] (fun W => Below D E W ∧ D ≤ W.heap.size) (holdsM x.facts d) (FindMatches_r0 x d.body) := by
  rintro W b V ⟨hW, hDW⟩ hb hV
  obtain ⟨p1, p3, p4⟩ := trig_found hdk hb
  obtain ⟨T, tc, rfl, -⟩ := id hV
  have x1 := (hW.cell (p := ⟨g0, 1, none⟩) hg0).trans X1
  have d0 := (hW.cell (p := ⟨g1, 0, none⟩) hg1).trans D0
  have d1' := (hW.cell (p := ⟨g1, 1, none⟩) hg1).trans D1
  have d2 := (hW.cell (p := ⟨g1, 2, none⟩) hg1).trans D2
  have d3 := (hW.cell (p := ⟨g1, 3, none⟩) hg1).trans D3
  have d4 := (hW.cell (p := ⟨g1, 4, none⟩) hg1).trans D4
  have hh := implHolds_any x.facts hxw.2 d b p3 (fun hg => depOk_vars hdk hg) (head_fit p1 hdk hdw.2.1) (.slice Q x.facts.length d1) _ (.slice T b.length tc) W ((hF.below hW (Nat.le_refl _)).more hDW) ((hD.below hW (Nat.le_refl _)).more hDW) hV
  clear hV X1 D0 D1 D2 D3 D4 hF hD p1 p3 p4
  go_enter Tryz.func38, Tryz.ntmps38
  go_wp2_with (go_at_call 32; refine hh.mono ?_; rintro e w2 ⟨rfl, hb2⟩)
  go_ret
  exact ⟨rfl, hb2⟩
set_option maxHeartbeats 3200000 in
set_option maxRecDepth 100000 in
theorem implActs_any (v u : Value) (x : Inst) (d : Dep) (w : World) (hx : Instance_at w w.heap.size v x) (hxw : Instance_wf x) (hd : Dependency_at w w.heap.size u d) (hdw : Dependency_wf d) :
    Calls Tryz.prog 11 #[v, u] w fun e w' => ∃ r, e = .returned r ∧ IntSS_own w.heap.size w'.heap.size r (ActiveTriggers_r0 x d) w' ∧ Below w.heap.size w w' := by
  have HX := Lib.hid hx
  have HD := Lib.hid hd
  obtain ⟨P, c, Q, d1, rfl⟩ := Instance_form hx
  have HRF := Lib.hid (show RelationS_at w w.heap.size (.slice P x.rels.length c) x.rels ∧ FactS_at w w.heap.size (.slice Q x.facts.length d1) x.facts by
    obtain ⟨V1, V2, hv, hR, hF⟩ := hx
    simp only [Value.agg.injEq, Array.mk.injEq, List.cons.injEq, and_true] at hv
    obtain ⟨rfl, rfl⟩ := hv
    exact ⟨hR, hF⟩)
  obtain ⟨R, q, S, t, rfl⟩ := Dependency_form hd
  have HBD := Lib.hid (show AtomS_at w w.heap.size (.slice R d.body.length q) d.body by
    obtain ⟨V1, V2, hv, h1, h2⟩ := hd
    simp only [Value.agg.injEq, Array.mk.injEq, List.cons.injEq, and_true] at hv
    obtain ⟨rfl, rfl⟩ := hv
    exact h1)
  clear hx hd
  obtain ⟨E, hEq⟩ : ∃ E, E = (w.alloc (.cells #[.slice P x.rels.length c, .slice Q x.facts.length d1] 27)).alloc (.cells #[.slice R d.body.length q, .slice S d.head.length t, .bool d.egd, .int .i64 d.left, .int .i64 d.right] 30) := ⟨_, rfl⟩
  have hE : Below w.heap.size w E := by rw [hEq]; exact below_more (below_more (Below.refl _ _) _) _
  have hEz : E.heap.size = w.heap.size + 2 := by rw [hEq]; simp
  have X0 : E.cell? ⟨w.heap.size, 0, none⟩ = some (.slice P x.rels.length c) := by rw [hEq]; simp [go_sem]
  have X1 : E.cell? ⟨w.heap.size, 1, none⟩ = some (.slice Q x.facts.length d1) := by rw [hEq]; simp [go_sem]
  have D0 : E.cell? ⟨w.heap.size + 1, 0, none⟩ = some (.slice R d.body.length q) := by rw [hEq]; simp [go_sem]
  have D1 : E.cell? ⟨w.heap.size + 1, 1, none⟩ = some (.slice S d.head.length t) := by rw [hEq]; simp [go_sem]
  have D2 : E.cell? ⟨w.heap.size + 1, 2, none⟩ = some (.bool d.egd) := by rw [hEq]; simp [go_sem]
  have D3 : E.cell? ⟨w.heap.size + 1, 3, none⟩ = some (.int .i64 d.left) := by rw [hEq]; simp [go_sem]
  have D4 : E.cell? ⟨w.heap.size + 1, 4, none⟩ = some (.int .i64 d.right) := by rw [hEq]; simp [go_sem]
  have hvd := fun qq (hq : depOk x.rels d = qq) => implIsValidDependency_z x.rels d qq hq (.slice P x.rels.length c) _ E ((HRF.out.1.below hE (Nat.le_refl _)).more hE.size) ((HD.out.below hE (Nat.le_refl _)).more hE.size)
  rw [hEq] at hvd
  cases h1 : depOk x.rels d with
  | false =>
    have HF := Lib.hid (acts_no h1)
    replace hvd := hvd false h1
    clear h1
    go_enter Tryz.func11, Tryz.ntmps11
    go_wp2_with (go_at_call 33; refine hvd.mono ?_; rintro e w1 ⟨rfl, hb1⟩)
    rw [← hEq] at hb1
    go_ret
    exact ⟨_, rfl, by rw [HF.out]; exact ⟨[], rfl, World.ownsRow_nil _ _ _ _, (fun g hg => by cases hg), (fun i h => absurd h (by simp)), List.Pairwise.nil⟩, hE.trans (hb1.mono hE.size)⟩
  | true =>
    have HF := Lib.hid (acts_keep h1)
    have HT := Lib.hid (implActs_fn x hxw d hdw h1 Q R S d1 q t w.heap.size (w.heap.size + 1) E.heap.size E (by omega) (by omega) X1 D0 D1 D2 D3 D4 ((HRF.out.2.below hE (Nat.le_refl _)).more hE.size) ((HD.out.below hE (Nat.le_refl _)).more hE.size))
    replace hvd := hvd true h1
    have HSZ := Lib.hid (find_sz x d.body)
    clear h1
    go_enter Tryz.func11, Tryz.ntmps11
    go_wp2_with fail
    refine hvd.mono ?_
    rintro e w1 ⟨rfl, hb1⟩
    rw [← hEq] at hb1
    have hw1 := hE.trans (hb1.mono hE.size)
    have x0 := (hb1.cell (p := ⟨w.heap.size, 0, none⟩) (by show w.heap.size < _; omega)).trans X0
    have x1 := (hb1.cell (p := ⟨w.heap.size, 1, none⟩) (by show w.heap.size < _; omega)).trans X1
    have d0 := (hb1.cell (p := ⟨w.heap.size + 1, 0, none⟩) (by show w.heap.size + 1 < _; omega)).trans D0
    have hfm := implFind_any _ (.slice R d.body.length q) x d.body w1 ((HX.out.below hw1 (Nat.le_refl _)).more hw1.size) hxw ((HBD.out.below hw1 (Nat.le_refl _)).more hw1.size) hdw.1
    clear hvd hEq X0 X1 D0 D1 D2 D3 D4
    go_wp2_with fail
    refine hfm.mono ?_
    rintro e w2 ⟨V, rfl, ⟨Vs, hO⟩, hb2⟩
    have hb12 : Below E.heap.size E w2 := hb1.trans (hb2.mono hb1.size)
    have hz12 : E.heap.size ≤ w2.heap.size := hb12.size
    obtain ⟨A, cV, rfl, -⟩ := (hO.at_ (Nat.le_refl _)).form
    have hdel := implDelR_any 38 _ (enters_of Tryz.func38 (by kernel_rfl) rfl) (fun W => Below E.heap.size E W ∧ E.heap.size ≤ W.heap.size) (fun W W' h hb => ⟨h.1.trans (hb.mono h.2), Nat.le_trans h.2 hb.size⟩) (holdsM x.facts d) (FindMatches_r0 x d.body) w1.heap.size _ Vs w2 ⟨hb12, hz12⟩ HT.out (by have := HSZ.out; unfold IntSS_sz at this; omega) hb2.size (fun W q o u hq h => ⟨h.1.setCell (p := ⟨q, o, none⟩) (Nat.le_trans hb1.size hq) u, by rw [World.size_setCell]; exact h.2⟩) hO
    clear hfm x0 x1 d0
    go_wp2_with (go_at_call 36; refine hdel.mono ?_; rintro e w3 ⟨r, rfl, hO3, hb3⟩)
    go_ret
    exact ⟨_, rfl, by rw [HF.out]; exact IntSS_own.mono hO3 hw1.size (Nat.le_refl _), hw1.trans ((hb2.mono hw1.size).trans (hb3.mono hw1.size))⟩
theorem acts_sz (x : Inst) (d : Dep) : IntSS_sz (ActiveTriggers_r0 x d) ≤ 1048576 := by
  have h := find_sz x d.body
  unfold ActiveTriggers_r0
  split
  · generalize FindMatches_r0 x d.body = L at *
    have key : ∀ L : List (List Int), IntSS_sz (L.filter (activeOk x d)) ≤ IntSS_sz L := by
      intro L
      induction L with
      | nil => exact Nat.le_refl _
      | cons a t ih =>
        unfold IntSS_sz at *
        rw [List.filter_cons]
        split
        · simp only [List.length_cons, lenSum]; omega
        · simp only [List.length_cons, lenSum]; omega
    exact Nat.le_trans (key L) h
  · exact Nat.zero_le _
theorem implActiveTriggers_c (v : Value) (x : Inst) (u : Value) (d : Dep) (w : World) (h : Instance_at w w.heap.size v x) (hw : Instance_wf x) (_ : Instance_sz x ≤ 1048576) (h' : Dependency_at w w.heap.size u d) (hw' : Dependency_wf d) (_ : Dependency_sz d ≤ 1048576) :
    Calls Tryz.prog 11 #[v, u] w fun e w' => ∃ r, e = .returned r ∧ IntSS_own w.heap.size w'.heap.size r (ActiveTriggers_r0 x d) w' ∧ IntSS_sz (ActiveTriggers_r0 x d) ≤ 1048576 ∧ Below w.heap.size w w' :=
  (implActs_any v u x d w h hw h' hw').mono fun _ _ ⟨r, he, ho, hb⟩ => ⟨r, he, ho, acts_sz x d, hb⟩

end Go.Proofs.YtoapphgahmofhaaGreat
