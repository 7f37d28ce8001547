/-
  Walks and plain lemmas for the laws of this seat: what single Go functions return, for every argument.
-/
import Derived.Test.YtoapphgahmofhaaGreatBase
import Derived.Test.YtoapphgahmofhaaGreatInts
import Derived.Test.YtoapphgahmofhaaGreatDrawR
import Derived.Test.YtoapphgahmofhaaGreatTyAtom
import Derived.Test.YtoapphgahmofhaaGreatDrawD9
import Derived.Test.YtoapphgahmofhaaGreatDrawK
import Derived.Test.YtoapphgahmofhaaGreatTrgI
import Derived.Test.YtoapphgahmofhaaGreatFindI
import Derived.Test.YtoapphgahmofhaaGreatRowCut
namespace Go.Proofs.YtoapphgahmofhaaGreat
open Go.RowKit

theorem acts_no {x : Inst} {d : Dep} (h : depOk x.rels d = false) : ActiveTriggers_r0 x d = [] := by unfold ActiveTriggers_r0; rw [if_neg (by rw [h]; simp)]
theorem acts_keep {x : Inst} {d : Dep} (h : depOk x.rels d = true) : ActiveTriggers_r0 x d = keepN (holdsM x.facts d) (FindMatches_r0 x d.body) := active_filter h
set_option maxHeartbeats 3200000 in
set_option maxRecDepth 100000 in
/-- the function value that ActiveTriggers hands on -/
theorem implActs_fn (x : Inst) (hxw : Instance_wf x) (d : Dep) (hdw : Dependency_wf d) (hdk : depOk x.rels d = true) (Q R S : Option Addr) (d1 q t g0 g1 D : Nat) (E : World) (hg0 : g0 < D) (hg1 : g1 < D)
    (X1 : E.cell? ⟨g0, 1, none⟩ = some (.slice Q x.facts.length d1)) (D0 : E.cell? ⟨g1, 0, none⟩ = some (.slice R d.body.length q)) (D1 : E.cell? ⟨g1, 1, none⟩ = some (.slice S d.head.length t)) (D2 : E.cell? ⟨g1, 2, none⟩ = some (.bool d.egd)) (D3 : E.cell? ⟨g1, 3, none⟩ = some (.int .i64 d.left)) (D4 : E.cell? ⟨g1, 4, none⟩ = some (.int .i64 d.right))
    (hF : FactS_at E D (.slice Q x.facts.length d1) x.facts) (hD : Dependency_at E D (.agg #[.slice R d.body.length q, .slice S d.head.length t, .bool d.egd, .int .i64 d.left, .int .i64 d.right]) d) :
    TellsR 38 #[.pointer (some ⟨g0, 0, none⟩), .pointer (some ⟨g1, 0, none⟩)] (fun W => Below D E W ∧ D ≤ W.heap.size) (holdsM x.facts d) (FindMatches_r0 x d.body) := by
  rintro W b V ⟨hW, hDW⟩ hb hV
  obtain ⟨p1, p3, p4⟩ := trig_found hdk hb
  obtain ⟨T, tc, rfl, -⟩ := id hV
  have x1 := (hW.cell (p := ⟨g0, 1, none⟩) hg0).trans X1
  have d0 := (hW.cell (p := ⟨g1, 0, none⟩) hg1).trans D0
  have d1' := (hW.cell (p := ⟨g1, 1, none⟩) hg1).trans D1
  have d2 := (hW.cell (p := ⟨g1, 2, none⟩) hg1).trans D2
  have d3 := (hW.cell (p := ⟨g1, 3, none⟩) hg1).trans D3
  have d4 := (hW.cell (p := ⟨g1, 4, none⟩) hg1).trans D4
  have hh := implHolds_any x.facts hxw.2 d b p3 (fun hg => depOk_vars hdk hg) (head_fit p1 hdk hdw.2.1) (.slice Q x.facts.length d1) _ (.slice T b.length tc) W ((hF.below hW (Nat.le_refl _)).more hDW) ((hD.below hW (Nat.le_refl _)).more hDW) hV
  clear hV X1 D0 D1 D2 D3 D4 hF hD p1 p3 p4
  go_enter Tryz.func38, Tryz.ntmps38
  go_wp2_with (go_at_call 32; refine hh.mono ?_; rintro e w2 ⟨rfl, hb2⟩)
  go_ret
  exact ⟨rfl, hb2⟩
set_option maxHeartbeats 3200000 in
set_option maxRecDepth 100000 in
theorem implActs_any (v u : Value) (x : Inst) (d : Dep) (w : World) (hx : Instance_at w w.heap.size v x) (hxw : Instance_wf x) (hd : Dependency_at w w.heap.size u d) (hdw : Dependency_wf d) :
    Calls Tryz.prog 11 #[v, u] w fun e w' => ∃ r, e = .returned r ∧ IntSS_own w.heap.size w'.heap.size r (ActiveTriggers_r0 x d) w' ∧ Below w.heap.size w w' := by
  have HX := Lib.hid hx
  have HD := Lib.hid hd
  obtain ⟨P, c, Q, d1, rfl⟩ := Instance_form hx
  have HRF := Lib.hid (show RelationS_at w w.heap.size (.slice P x.rels.length c) x.rels ∧ FactS_at w w.heap.size (.slice Q x.facts.length d1) x.facts by
    obtain ⟨V1, V2, hv, hR, hF⟩ := hx
    simp only [Value.agg.injEq, Array.mk.injEq, List.cons.injEq, and_true] at hv
    obtain ⟨rfl, rfl⟩ := hv
    exact ⟨hR, hF⟩)
  obtain ⟨R, q, S, t, rfl⟩ := Dependency_form hd
  have HBD := Lib.hid (show AtomS_at w w.heap.size (.slice R d.body.length q) d.body by
    obtain ⟨V1, V2, hv, h1, h2⟩ := hd
    simp only [Value.agg.injEq, Array.mk.injEq, List.cons.injEq, and_true] at hv
    obtain ⟨rfl, rfl⟩ := hv
    exact h1)
  clear hx hd
  obtain ⟨E, hEq⟩ : ∃ E, E = (w.alloc (.cells #[.slice P x.rels.length c, .slice Q x.facts.length d1] 27)).alloc (.cells #[.slice R d.body.length q, .slice S d.head.length t, .bool d.egd, .int .i64 d.left, .int .i64 d.right] 30) := ⟨_, rfl⟩
  have hE : Below w.heap.size w E := by rw [hEq]; exact below_more (below_more (Below.refl _ _) _) _
  have hEz : E.heap.size = w.heap.size + 2 := by rw [hEq]; simp
  have X0 : E.cell? ⟨w.heap.size, 0, none⟩ = some (.slice P x.rels.length c) := by rw [hEq]; simp [go_sem]
  have X1 : E.cell? ⟨w.heap.size, 1, none⟩ = some (.slice Q x.facts.length d1) := by rw [hEq]; simp [go_sem]
  have D0 : E.cell? ⟨w.heap.size + 1, 0, none⟩ = some (.slice R d.body.length q) := by rw [hEq]; simp [go_sem]
  have D1 : E.cell? ⟨w.heap.size + 1, 1, none⟩ = some (.slice S d.head.length t) := by rw [hEq]; simp [go_sem]
  have D2 : E.cell? ⟨w.heap.size + 1, 2, none⟩ = some (.bool d.egd) := by rw [hEq]; simp [go_sem]
  have D3 : E.cell? ⟨w.heap.size + 1, 3, none⟩ = some (.int .i64 d.left) := by rw [hEq]; simp [go_sem]
  have D4 : E.cell? ⟨w.heap.size + 1, 4, none⟩ = some (.int .i64 d.right) := by rw [hEq]; simp [go_sem]
  have hvd := fun qq (hq : depOk x.rels d = qq) => implIsValidDependency_z x.rels d qq hq (.slice P x.rels.length c) _ E ((HRF.out.1.below hE (Nat.le_refl _)).more hE.size) ((HD.out.below hE (Nat.le_refl _)).more hE.size)
  rw [hEq] at hvd
  cases h1 : depOk x.rels d with
  | false =>
    have HF := Lib.hid (acts_no h1)
    replace hvd := hvd false h1
    clear h1
    go_enter Tryz.func11, Tryz.ntmps11
    go_wp2_with (go_at_call 33; refine hvd.mono ?_; rintro e w1 ⟨rfl, hb1⟩)
    rw [← hEq] at hb1
    go_ret
    exact ⟨_, rfl, by rw [HF.out]; exact ⟨[], rfl, World.ownsRow_nil _ _ _ _, (fun g hg => by cases hg), (fun i h => absurd h (by simp)), List.Pairwise.nil⟩, hE.trans (hb1.mono hE.size)⟩
  | true =>
    have HF := Lib.hid (acts_keep h1)
    have HT := Lib.hid (implActs_fn x hxw d hdw h1 Q R S d1 q t w.heap.size (w.heap.size + 1) E.heap.size E (by omega) (by omega) X1 D0 D1 D2 D3 D4 ((HRF.out.2.below hE (Nat.le_refl _)).more hE.size) ((HD.out.below hE (Nat.le_refl _)).more hE.size))
    replace hvd := hvd true h1
    have HSZ := Lib.hid (find_sz x d.body)
    clear h1
    go_enter Tryz.func11, Tryz.ntmps11
    go_wp2_with fail
    refine hvd.mono ?_
    rintro e w1 ⟨rfl, hb1⟩
    rw [← hEq] at hb1
    have hw1 := hE.trans (hb1.mono hE.size)
    have x0 := (hb1.cell (p := ⟨w.heap.size, 0, none⟩) (by show w.heap.size < _; omega)).trans X0
    have x1 := (hb1.cell (p := ⟨w.heap.size, 1, none⟩) (by show w.heap.size < _; omega)).trans X1
    have d0 := (hb1.cell (p := ⟨w.heap.size + 1, 0, none⟩) (by show w.heap.size + 1 < _; omega)).trans D0
    have hfm := implFind_any _ (.slice R d.body.length q) x d.body w1 ((HX.out.below hw1 (Nat.le_refl _)).more hw1.size) hxw ((HBD.out.below hw1 (Nat.le_refl _)).more hw1.size) hdw.1
    clear hvd hEq X0 X1 D0 D1 D2 D3 D4
    go_wp2_with fail
    refine hfm.mono ?_
    rintro e w2 ⟨V, rfl, ⟨Vs, hO⟩, hb2⟩
    have hb12 : Below E.heap.size E w2 := hb1.trans (hb2.mono hb1.size)
    have hz12 : E.heap.size ≤ w2.heap.size := hb12.size
    obtain ⟨A, cV, rfl, -⟩ := (hO.at_ (Nat.le_refl _)).form
    have hdel := implDelR_any 38 _ (enters_of Tryz.func38 (by kernel_rfl) rfl) (fun W => Below E.heap.size E W ∧ E.heap.size ≤ W.heap.size) (fun W W' h hb => ⟨h.1.trans (hb.mono h.2), Nat.le_trans h.2 hb.size⟩) (holdsM x.facts d) (FindMatches_r0 x d.body) w1.heap.size _ Vs w2 ⟨hb12, hz12⟩ HT.out (by have := HSZ.out; unfold IntSS_sz at this; omega) hb2.size (fun W q o u hq h => ⟨h.1.setCell (p := ⟨q, o, none⟩) (Nat.le_trans hb1.size hq) u, by rw [World.size_setCell]; exact h.2⟩) hO
    clear hfm x0 x1 d0
    go_wp2_with (go_at_call 36; refine hdel.mono ?_; rintro e w3 ⟨r, rfl, hO3, hb3⟩)
    go_ret
    exact ⟨_, rfl, by rw [HF.out]; exact IntSS_own.mono hO3 hw1.size (Nat.le_refl _), hw1.trans ((hb2.mono hw1.size).trans (hb3.mono hw1.size))⟩
theorem acts_sz (x : Inst) (d : Dep) : IntSS_sz (ActiveTriggers_r0 x d) ≤ 1048576 := by
  have h := find_sz x d.body
  unfold ActiveTriggers_r0
  split
  · generalize FindMatches_r0 x d.body = L at *
    have key : ∀ L : List (List Int), IntSS_sz (L.filter (activeOk x d)) ≤ IntSS_sz L := by
      intro L
      induction L with
      | nil => exact Nat.le_refl _
      | cons a t ih =>
        unfold IntSS_sz at *
        rw [List.filter_cons]
        split
        · simp only [List.length_cons, lenSum]; omega
        · simp only [List.length_cons, lenSum]; omega
    exact Nat.le_trans (key L) h
  · exact Nat.zero_le _
theorem implActiveTriggers_c (v : Value) (x : Inst) (u : Value) (d : Dep) (w : World) (h : Instance_at w w.heap.size v x) (hw : Instance_wf x) (_ : Instance_sz x ≤ 1048576) (h' : Dependency_at w w.heap.size u d) (hw' : Dependency_wf d) (_ : Dependency_sz d ≤ 1048576) :
    Calls Tryz.prog 11 #[v, u] w fun e w' => ∃ r, e = .returned r ∧ IntSS_own w.heap.size w'.heap.size r (ActiveTriggers_r0 x d) w' ∧ IntSS_sz (ActiveTriggers_r0 x d) ≤ 1048576 ∧ Below w.heap.size w w' :=
  (implActs_any v u x d w h hw h' hw').mono fun _ _ ⟨r, he, ho, hb⟩ => ⟨r, he, ho, acts_sz x d, hb⟩

set_option maxHeartbeats 800000 in
theorem specHas_any (v : Value) (l : List Int) (x : Int) (w : World) (hl : IntS_at w w.heap.size v l) :
    Calls Tryz.prog 43 #[v, .int .i64 x] w fun e w' => e = .returned (.bool (decide (x ∈ l))) ∧ w = w' := by
  have HL := Lib.hid hl
  obtain ⟨A, c, rfl, hlc, hcm, -⟩ := hl
  unfold maxLen at hcm
  go_enter Tryz.func43, Tryz.ntmps43
  go_wp2
  go_loop [5] (fun i => ∃ k : Nat, k ≤ l.length ∧ i = .int .i64 k ∧ Hid (x ∉ l.take k)) (fun i => l.length - (intOf i).toNat)
  case atStart => exact ⟨0, by omega, rfl, Lib.hid (by simp)⟩
  case round =>
    obtain ⟨k, hk, rfl, HT⟩ := hrel
    by_cases hlt : k < l.length
    · obtain ⟨b, off, rfl, hb, c0⟩ := IntsAt.elem HL.out k hlt
      by_cases he : l[k] = x
      · have HV := Lib.hid (decide_eq_true (show x ∈ l by rw [← he]; exact List.getElem_mem hlt))
        have hb2 : (l[k] == x) = true := by rw [he]; exact beq_self_eq_true x
        clear he
        go_wp2
        go_ret
        exact ⟨ret_bool HV.out.symm, rfl⟩
      · have HN := Lib.hid (show x ∉ l.take (k + 1) by
          rw [List.take_succ_eq_append_getElem hlt, List.mem_append, List.mem_singleton]
          exact fun h => h.elim HT.out (fun e => he e.symm))
        have hb2 : (l[k] == x) = false := beq_eq_false_iff_ne.2 he
        clear he
        go_wp2
        go_round
        case rel => exact ⟨k + 1, by omega, by go_num, HN⟩
        case measure => simp [intOf]; omega
    · obtain rfl : k = l.length := by omega
      have HV := Lib.hid (decide_eq_false (show x ∉ l by have := HT.out; rwa [List.take_of_length_le (Nat.le_refl _)] at this))
      go_wp2
      go_ret
      exact ⟨ret_bool HV.out.symm, rfl⟩
theorem specHas_at (v : Value) (l : List Int) (x : Int) (bb : Bool) (hq : decide (x ∈ l) = bb) (w : World) (hl : IntS_at w w.heap.size v l) :
    Calls Tryz.prog 43 #[v, .int .i64 x] w fun e w' => e = .returned (.bool bb) ∧ w = w' := by
  subst hq; exact specHas_any v l x w hl

set_option maxHeartbeats 6400000 in
set_option maxRecDepth 100000 in
theorem specIsValidDependency_z (v : Value) (l : List Rel) (u : Value) (x : Dep) (w : World) (hl : RelsAt w w.heap.size v l) (hn : l.length ≤ 1048576) (h : Dependency_at w w.heap.size u x) (hw : Dependency_wf x) :
    Calls Tryz.prog 41 #[v, u] w fun e w' => e = .returned (.bool (depOk l x)) ∧ Below w.heap.size w w' := by
  have HL := Lib.hid hl
  obtain ⟨A, cl, rfl, -⟩ := hl
  obtain ⟨P, c, Q, d, rfl⟩ := Dependency_form h
  obtain ⟨V1, V2, hv, hR, hF⟩ := h
  simp only [Value.agg.injEq, Array.mk.injEq, List.cons.injEq, and_true] at hv
  obtain ⟨rfl, rfl⟩ := hv
  obtain ⟨hwB, hwH, -, -⟩ := hw
  have HB := Lib.hid hR
  have HH := Lib.hid hF
  obtain ⟨_, _, hv1, hp1, hp2⟩ := hR.form
  injection hv1 with e1 _ e2
  subst e1 e2
  obtain ⟨_, _, hv2, hq1, hq2⟩ := hF.form
  injection hv2 with e1 _ e2
  subst e1 e2
  unfold maxLen at hp2 hq2
  clear hR hF
  have hE : Below w.heap.size w (w.alloc (.cells #[.slice P x.body.length c, .slice Q x.head.length d, .bool x.egd, .int .i64 x.left, .int .i64 x.right] 30)) := below_more (Below.refl _ _) _
  have HE := Lib.hid (show w.heap.size + 1 = (w.alloc (.cells #[.slice P x.body.length c, .slice Q x.head.length d, .bool x.egd, .int .i64 x.left, .int .i64 x.right] 30)).heap.size by simp)
  have K0 := Lib.hid (show (w.alloc (.cells #[.slice P x.body.length c, .slice Q x.head.length d, .bool x.egd, .int .i64 x.left, .int .i64 x.right] 30)).cell? ⟨w.heap.size, 0, none⟩ = some (.slice P x.body.length c) by simp [go_sem])
  have K1 := Lib.hid (show (w.alloc (.cells #[.slice P x.body.length c, .slice Q x.head.length d, .bool x.egd, .int .i64 x.left, .int .i64 x.right] 30)).cell? ⟨w.heap.size, 1, none⟩ = some (.slice Q x.head.length d) by simp [go_sem])
  have K2 := Lib.hid (show (w.alloc (.cells #[.slice P x.body.length c, .slice Q x.head.length d, .bool x.egd, .int .i64 x.left, .int .i64 x.right] 30)).cell? ⟨w.heap.size, 2, none⟩ = some (.bool x.egd) by simp [go_sem])
  have K3 := Lib.hid (show (w.alloc (.cells #[.slice P x.body.length c, .slice Q x.head.length d, .bool x.egd, .int .i64 x.left, .int .i64 x.right] 30)).cell? ⟨w.heap.size, 3, none⟩ = some (.int .i64 x.left) by simp [go_sem])
  have K4 := Lib.hid (show (w.alloc (.cells #[.slice P x.body.length c, .slice Q x.head.length d, .bool x.egd, .int .i64 x.left, .int .i64 x.right] 30)).cell? ⟨w.heap.size, 4, none⟩ = some (.int .i64 x.right) by simp [go_sem])
  cases q0 : inB (x.body.length : Nat) 1 2 with
  | false =>
    have HD := Lib.hid (show depOk l x = false by unfold depOk; rw [q0]; rfl)
    have f0 := K0.out
    have hin := fun w => l1In_at (x.body.length : Nat) 1 2 false q0 w
    clear q0
    go_enter Tryz.func41, Tryz.ntmps41
    go_wp2_with (go_at_call 84; refine (hin _).mono ?_; rintro e w' ⟨rfl, rfl⟩)
    go_ret
    exact ⟨ret_bool HD.out.symm, hE⟩
  | true =>
    have hin := fun w => l1In_at (x.body.length : Nat) 1 2 true q0 w
    have Q0 := Lib.hid q0
    have f0 := K0.out
    clear q0
    go_enter Tryz.func41, Tryz.ntmps41
    go_wp2_with (go_at_call 84; refine (hin _).mono ?_; rintro e w' ⟨rfl, rfl⟩)
    clear hin f0
    go_loopw [5] (fun i wr => ∃ k : Nat, k ≤ x.body.length ∧ i = .int .i64 k ∧ Hid (AllTo (atomB l) x.body k) ∧ Below (w.alloc (.cells #[.slice P x.body.length c, .slice Q x.head.length d, .bool x.egd, .int .i64 x.left, .int .i64 x.right] 30)).heap.size (w.alloc (.cells #[.slice P x.body.length c, .slice Q x.head.length d, .bool x.egd, .int .i64 x.left, .int .i64 x.right] 30)) wr) (fun i _ => x.body.length - (intOf i).toNat)
    case atStart => exact ⟨0, by omega, rfl, Lib.hid (AllTo.zero _ _), Below.refl _ _⟩
    case round =>
      obtain ⟨k, hk, rfl, HT, hW⟩ := hrel
      have hz := hW.size
      rw [← HE.out] at hz
      have hWw : Below w.heap.size w wr := hE.trans (hW.mono hE.size)
      have f0 := (hW.cell (p := ⟨w.heap.size, 0, none⟩) (by show w.heap.size < _; rw [← HE.out]; omega)).trans K0.out
      by_cases hlt : k < x.body.length
      · obtain ⟨b, off, V, rfl, hb, c0, c1, hV⟩ := AtomS_at.elem HB.out k hlt
        replace c0 := (hWw.cell (p := ⟨b, off + k * 2, none⟩) hb).trans c0
        replace c1 := (hWw.cell (p := ⟨b, off + k * 2 + 1, none⟩) hb).trans c1
        have hcon := fun bb (hq : atomOk l x.body[k].rel x.body[k].vals = bb) => specIsValidAtom_at (.slice A l.length cl) l x.body[k].rel V x.body[k].vals bb hq wr ((HL.out.below hWw (Nat.le_refl _)).more hWw.size) hn ((hV.below hWw (Nat.le_refl _)).more hWw.size) (hwB k hlt).2
        clear hV
        cases hv : atomOk l x.body[k].rel x.body[k].vals with
        | false =>
          have HD := Lib.hid (show depOk l x = false by unfold depOk; rw [Q0.out, all_no hlt (show atomB l x.body[k] = false from hv)]; rfl)
          replace hcon := hcon false hv
          clear hv
          go_wp2_with (go_at_call 85; refine hcon.mono ?_; rintro e w2 ⟨rfl, hb2⟩)
          go_ret
          exact ⟨ret_bool HD.out.symm, hWw.trans (hb2.mono hWw.size)⟩
        | true =>
          have HN := Lib.hid (HT.out.next hlt (show atomB l x.body[k] = true from hv))
          replace hcon := hcon true hv
          clear hv
          go_wp2_with (go_at_call 85; refine hcon.mono ?_; rintro e w2 ⟨rfl, hb2⟩)
          go_roundw
          case rel => exact ⟨k + 1, by omega, by go_num, HN, hW.trans (hb2.mono hW.size)⟩
          case measure => simp [intOf]; omega
      · obtain rfl : k = x.body.length := by omega
        have HA := Lib.hid HT.out.full
        clear HT
        have hlW : w.heap.size < (w.alloc (.cells #[.slice P x.body.length c, .slice Q x.head.length d, .bool x.egd, .int .i64 x.left, .int .i64 x.right] 30)).heap.size := by rw [← HE.out]; omega
        have f1 := (hW.cell (p := ⟨w.heap.size, 1, none⟩) hlW).trans K1.out
        have f2 := (hW.cell (p := ⟨w.heap.size, 2, none⟩) hlW).trans K2.out
        have f3 := (hW.cell (p := ⟨w.heap.size, 3, none⟩) hlW).trans K3.out
        have f4 := (hW.cell (p := ⟨w.heap.size, 4, none⟩) hlW).trans K4.out
        have HLW := Lib.hid hlW
        cases hg : x.egd with
        | true =>
          rw [hg] at f2
          have hvc := specVariables_any (.slice P x.body.length c) x.body wr ((HB.out.below hWw (Nat.le_refl _)).more hWw.size) (Nat.le_trans (side_sz HA.out (by have := Q0.out; unfold inB at this; have := of_decide_eq_true this; omega)) (by decide))
          have HV0 := Lib.hid (show depOk l x = (((x.head.length : Nat) : Int) == 0 && (decide (x.left ∈ varsOf x.body) && (decide (x.right ∈ varsOf x.body) && decide (x.left < x.right)))) by unfold depOk; rw [Q0.out, HA.out, hg]; simp)
          clear hg hlW
          cases q1 : (((x.head.length : Nat) : Int) == 0) with
          | false =>
            have HD := Lib.hid (show depOk l x = false by rw [HV0.out, q1]; rfl)
            go_wp2_with (first | (go_at_call 42; refine hvc.mono ?_; rintro e w2 ⟨U, rfl, hU, hb2⟩; replace f1 := (hb2.cell (p := ⟨w.heap.size, 1, none⟩) (Nat.lt_of_lt_of_le HLW.out hW.size)).trans f1; replace f3 := (hb2.cell (p := ⟨w.heap.size, 3, none⟩) (Nat.lt_of_lt_of_le HLW.out hW.size)).trans f3; replace f4 := (hb2.cell (p := ⟨w.heap.size, 4, none⟩) (Nat.lt_of_lt_of_le HLW.out hW.size)).trans f4; clear hvc))
            go_ret
            exact ⟨ret_bool HD.out.symm, hWw.trans (hb2.mono hWw.size)⟩
          | true =>
            cases q2 : decide (x.left ∈ varsOf x.body) with
            | false =>
              have HD := Lib.hid (show depOk l x = false by rw [HV0.out, q1, q2]; rfl)
              go_wp2_with (first | (go_at_call 42; refine hvc.mono ?_; rintro e w2 ⟨U, rfl, hU, hb2⟩; replace f1 := (hb2.cell (p := ⟨w.heap.size, 1, none⟩) (Nat.lt_of_lt_of_le HLW.out hW.size)).trans f1; replace f3 := (hb2.cell (p := ⟨w.heap.size, 3, none⟩) (Nat.lt_of_lt_of_le HLW.out hW.size)).trans f3; replace f4 := (hb2.cell (p := ⟨w.heap.size, 4, none⟩) (Nat.lt_of_lt_of_le HLW.out hW.size)).trans f4; have g0 := specHas_at U (varsOf x.body) x.left false q2 w2 hU.at_; clear hvc) | (go_at_call 43; refine g0.mono ?_; rintro e w3 ⟨rfl, rfl⟩; clear g0))
              go_ret
              exact ⟨ret_bool HD.out.symm, hWw.trans (hb2.mono hWw.size)⟩
            | true =>
              cases q3 : decide (x.right ∈ varsOf x.body) with
              | false =>
                have HD := Lib.hid (show depOk l x = false by rw [HV0.out, q1, q2, q3]; rfl)
                go_wp2_with (first | (go_at_call 42; refine hvc.mono ?_; rintro e w2 ⟨U, rfl, hU, hb2⟩; replace f1 := (hb2.cell (p := ⟨w.heap.size, 1, none⟩) (Nat.lt_of_lt_of_le HLW.out hW.size)).trans f1; replace f3 := (hb2.cell (p := ⟨w.heap.size, 3, none⟩) (Nat.lt_of_lt_of_le HLW.out hW.size)).trans f3; replace f4 := (hb2.cell (p := ⟨w.heap.size, 4, none⟩) (Nat.lt_of_lt_of_le HLW.out hW.size)).trans f4; have g0 := specHas_at U (varsOf x.body) x.left true q2 w2 hU.at_; have g1 := specHas_at U (varsOf x.body) x.right false q3 w2 hU.at_; clear hvc) | (go_at_call 43; refine g0.mono ?_; rintro e w3 ⟨rfl, rfl⟩; clear g0) | (go_at_call 43; refine g1.mono ?_; rintro e w3 ⟨rfl, rfl⟩; clear g1))
                go_ret
                exact ⟨ret_bool HD.out.symm, hWw.trans (hb2.mono hWw.size)⟩
              | true =>
                cases q4 : decide (x.left < x.right) with
                | false =>
                  have HD := Lib.hid (show depOk l x = false by rw [HV0.out, q1, q2, q3, q4]; rfl)
                  go_wp2_with (first | (go_at_call 42; refine hvc.mono ?_; rintro e w2 ⟨U, rfl, hU, hb2⟩; replace f1 := (hb2.cell (p := ⟨w.heap.size, 1, none⟩) (Nat.lt_of_lt_of_le HLW.out hW.size)).trans f1; replace f3 := (hb2.cell (p := ⟨w.heap.size, 3, none⟩) (Nat.lt_of_lt_of_le HLW.out hW.size)).trans f3; replace f4 := (hb2.cell (p := ⟨w.heap.size, 4, none⟩) (Nat.lt_of_lt_of_le HLW.out hW.size)).trans f4; have g0 := specHas_at U (varsOf x.body) x.left true q2 w2 hU.at_; have g1 := specHas_at U (varsOf x.body) x.right true q3 w2 hU.at_; clear hvc) | (go_at_call 43; refine g0.mono ?_; rintro e w3 ⟨rfl, rfl⟩; clear g0) | (go_at_call 43; refine g1.mono ?_; rintro e w3 ⟨rfl, rfl⟩; clear g1))
                  go_ret
                  exact ⟨ret_bool HD.out.symm, hWw.trans (hb2.mono hWw.size)⟩
                | true =>
                  have HD := Lib.hid (show depOk l x = true by rw [HV0.out, q1, q2, q3, q4]; rfl)
                  go_wp2_with (first | (go_at_call 42; refine hvc.mono ?_; rintro e w2 ⟨U, rfl, hU, hb2⟩; replace f1 := (hb2.cell (p := ⟨w.heap.size, 1, none⟩) (Nat.lt_of_lt_of_le HLW.out hW.size)).trans f1; replace f3 := (hb2.cell (p := ⟨w.heap.size, 3, none⟩) (Nat.lt_of_lt_of_le HLW.out hW.size)).trans f3; replace f4 := (hb2.cell (p := ⟨w.heap.size, 4, none⟩) (Nat.lt_of_lt_of_le HLW.out hW.size)).trans f4; have g0 := specHas_at U (varsOf x.body) x.left true q2 w2 hU.at_; have g1 := specHas_at U (varsOf x.body) x.right true q3 w2 hU.at_; clear hvc) | (go_at_call 43; refine g0.mono ?_; rintro e w3 ⟨rfl, rfl⟩; clear g0) | (go_at_call 43; refine g1.mono ?_; rintro e w3 ⟨rfl, rfl⟩; clear g1))
                  go_ret
                  exact ⟨ret_bool HD.out.symm, hWw.trans (hb2.mono hWw.size)⟩
        | false =>
          rw [hg] at f2
          have HV0 := Lib.hid (show depOk l x = (x.head.all (headB l) && (inB (x.head.length : Nat) 1 2 && ((x.left == 0) && (x.right == 0)))) by unfold depOk; rw [Q0.out, HA.out, hg]; simp)
          clear hg hlW f1 f3 f4
          go_wp2
          clear f2
          go_loopw [7] (fun i wr => ∃ k : Nat, k ≤ x.head.length ∧ i = .int .i64 k ∧ Hid (AllTo (headB l) x.head k) ∧ Below (w.alloc (.cells #[.slice P x.body.length c, .slice Q x.head.length d, .bool x.egd, .int .i64 x.left, .int .i64 x.right] 30)).heap.size (w.alloc (.cells #[.slice P x.body.length c, .slice Q x.head.length d, .bool x.egd, .int .i64 x.left, .int .i64 x.right] 30)) wr) (fun i _ => x.head.length - (intOf i).toNat)
          case atStart => exact ⟨0, by omega, rfl, Lib.hid (AllTo.zero _ _), hW⟩
          case round =>
            obtain ⟨m, hm, rfl, HT2, hW2⟩ := hrel
            have hWw2 : Below w.heap.size w wr := hE.trans (hW2.mono hE.size)
            have f1 := (hW2.cell (p := ⟨w.heap.size, 1, none⟩) HLW.out).trans K1.out
            by_cases hltm : m < x.head.length
            · obtain ⟨b, off, V, rfl, hb, c0, c1, hV⟩ := AtomS_at.elem HH.out m hltm
              replace c0 := (hWw2.cell (p := ⟨b, off + m * 2, none⟩) hb).trans c0
              replace c1 := (hWw2.cell (p := ⟨b, off + m * 2 + 1, none⟩) hb).trans c1
              have hcon := fun bb (hq : atomOk l x.head[m].rel x.head[m].vals = bb) => specIsValidAtom_at (.slice A l.length cl) l x.head[m].rel V x.head[m].vals bb hq wr ((HL.out.below hWw2 (Nat.le_refl _)).more hWw2.size) hn ((hV.below hWw2 (Nat.le_refl _)).more hWw2.size) (hwH m hltm).2
              clear hV
              cases hv : atomOk l x.head[m].rel x.head[m].vals with
              | false =>
                have HD := Lib.hid (show depOk l x = false by rw [HV0.out, all_no hltm (show headB l x.head[m] = false by unfold headB atomB; rw [hv]; rfl)]; rfl)
                replace hcon := hcon false hv
                clear hv
                go_wp2_with (go_at_call 85; refine hcon.mono ?_; rintro e w2 ⟨rfl, hb2⟩)
                go_ret
                exact ⟨ret_bool HD.out.symm, hWw2.trans (hb2.mono hWw2.size)⟩
              | true =>
                replace hcon := hcon true hv
                obtain ⟨-, hrl, -, -⟩ := atomOk_parts hv
                obtain ⟨j, hj⟩ : ∃ j : Nat, x.head[m].rel = (j : Int) := ⟨x.head[m].rel.toNat, by omega⟩
                have hjl : j < l.length := by omega
                have hsrc : srcAt l x.head[m].rel = l[j].source := by unfold srcAt; rw [hj, getD_at (by simpa using hjl)]; rfl
                have HB1 := Lib.hid (show headB l x.head[m] = !l[j].source by unfold headB atomB; rw [hv, hsrc]; rfl)
                obtain ⟨b', off', rfl, hb', -, -, r2⟩ := RelsAt.elem HL.out j hjl
                replace r2 := (hWw2.cell (p := ⟨b', off' + j * 3 + 2, none⟩) hb').trans r2
                rw [hj] at hcon c0
                clear hv hsrc hrl hj
                have hbw : b < wr.heap.size := Nat.lt_of_lt_of_le hb hWw2.size
                have hbw' : b' < wr.heap.size := Nat.lt_of_lt_of_le hb' hWw2.size
                have hlw : w.heap.size < wr.heap.size := Nat.lt_of_lt_of_le HLW.out hW2.size
                cases hs2 : l[j].source with
                | true =>
                  have HD := Lib.hid (show depOk l x = false by rw [HV0.out, all_no hltm (show headB l x.head[m] = false by rw [HB1.out, hs2]; rfl)]; rfl)
                  rw [hs2] at r2
                  clear hs2
                  go_wp2_with (go_at_call 85; refine hcon.mono ?_; rintro e w2 ⟨rfl, hb2⟩; replace r2 := (hb2.cell (p := ⟨b', off' + j * 3 + 2, none⟩) hbw').trans r2; replace c0 := (hb2.cell (p := ⟨b, off + m * 2, none⟩) hbw).trans c0; replace f1 := (hb2.cell (p := ⟨w.heap.size, 1, none⟩) hlw).trans f1)
                  go_ret
                  exact ⟨ret_bool HD.out.symm, hWw2.trans (hb2.mono hWw2.size)⟩
                | false =>
                  have HN := Lib.hid (HT2.out.next hltm (show headB l x.head[m] = true by rw [HB1.out, hs2]; rfl))
                  rw [hs2] at r2
                  clear hs2
                  go_wp2_with (go_at_call 85; refine hcon.mono ?_; rintro e w2 ⟨rfl, hb2⟩; replace r2 := (hb2.cell (p := ⟨b', off' + j * 3 + 2, none⟩) hbw').trans r2; replace c0 := (hb2.cell (p := ⟨b, off + m * 2, none⟩) hbw).trans c0; replace f1 := (hb2.cell (p := ⟨w.heap.size, 1, none⟩) hlw).trans f1)
                  go_roundw
                  case rel => exact ⟨m + 1, by omega, by go_num, HN, hW2.trans (hb2.mono hW2.size)⟩
                  case measure => simp [intOf]; omega
            · obtain rfl : m = x.head.length := by omega
              have HA2 := Lib.hid HT2.out.full
              have f3 := (hW2.cell (p := ⟨w.heap.size, 3, none⟩) HLW.out).trans K3.out
              have f4 := (hW2.cell (p := ⟨w.heap.size, 4, none⟩) HLW.out).trans K4.out
              clear HT2
              cases r1 : inB (x.head.length : Nat) 1 2 with
              | false =>
                have HD := Lib.hid (show depOk l x = false by rw [HV0.out, HA2.out, r1]; rfl)
                have hin := fun w => l1In_at (x.head.length : Nat) 1 2 false r1 w
                go_wp2_with (go_at_call 84; refine (hin _).mono ?_; rintro e w' ⟨rfl, rfl⟩)
                go_ret
                exact ⟨ret_bool HD.out.symm, hWw2⟩
              | true =>
                cases r2 : (x.left == 0) with
                | false =>
                  have HD := Lib.hid (show depOk l x = false by rw [HV0.out, HA2.out, r1, r2]; rfl)
                  have hin := fun w => l1In_at (x.head.length : Nat) 1 2 true r1 w
                  go_wp2_with (go_at_call 84; refine (hin _).mono ?_; rintro e w' ⟨rfl, rfl⟩)
                  go_ret
                  exact ⟨ret_bool HD.out.symm, hWw2⟩
                | true =>
                  cases r3 : (x.right == 0) with
                  | false =>
                    have HD := Lib.hid (show depOk l x = false by rw [HV0.out, HA2.out, r1, r2, r3]; rfl)
                    have hin := fun w => l1In_at (x.head.length : Nat) 1 2 true r1 w
                    go_wp2_with (go_at_call 84; refine (hin _).mono ?_; rintro e w' ⟨rfl, rfl⟩)
                    go_ret
                    exact ⟨ret_bool HD.out.symm, hWw2⟩
                  | true =>
                    have HD := Lib.hid (show depOk l x = true by rw [HV0.out, HA2.out, r1, r2, r3]; rfl)
                    have hin := fun w => l1In_at (x.head.length : Nat) 1 2 true r1 w
                    go_wp2_with (go_at_call 84; refine (hin _).mono ?_; rintro e w' ⟨rfl, rfl⟩)
                    go_ret
                    exact ⟨ret_bool HD.out.symm, hWw2⟩
theorem specIsValidDependency_at (v : Value) (l : List Rel) (u : Value) (x : Dep) (bb : Bool) (hq : depOk l x = bb) (w : World) (hl : RelsAt w w.heap.size v l) (hn : l.length ≤ 1048576) (h : Dependency_at w w.heap.size u x) (hw : Dependency_wf x) :
    Calls Tryz.prog 41 #[v, u] w fun e w' => e = .returned (.bool bb) ∧ Below w.heap.size w w' := by
  subst hq; exact specIsValidDependency_z v l u x w hl hn h hw
theorem specIsValidDependency_c (v : Value) (l : List Rel) (u : Value) (x : Dep) (w : World) (h : RelationS_at w w.heap.size v l) (_ : RelationS_wf l) (hn : RelationS_sz l ≤ 1048576) (h' : Dependency_at w w.heap.size u x) (hw : Dependency_wf x) (_ : Dependency_sz x ≤ 1048576) :
    Calls Tryz.prog 41 #[v, u] w fun e w' => e = .returned (.bool (depOk l x)) ∧ Below w.heap.size w w' :=
  specIsValidDependency_z v l u x w h (by unfold RelationS_sz at hn; omega) h' hw

end Go.Proofs.YtoapphgahmofhaaGreat
