/-
  Walks and plain lemmas for the laws of this seat: what single Go functions return, for every argument.
-/
import Derived.Defers
import Derived.Recover
import Derived.Test.YtmecdjincmkofaaGreatDoorVarsM
import Derived.Test.YtmecdjincmkofaaGreatDoorDrawI
import Derived.Test.YtmecdjincmkofaaGreatDoorDepVI
import Derived.Test.YtmecdjincmkofaaGreatDoorReadD2
namespace Go.Proofs.YtmecdjincmkofaaGreatDoor
open Go.RowKit

def zDep (w : World) (p : Nat) : World := ((((w.setCell ⟨p, 0, none⟩ (.slice none 0 0)).setCell ⟨p, 1, none⟩ (.slice none 0 0)).setCell ⟨p, 2, none⟩ (.bool false)).setCell ⟨p, 3, none⟩ (.int .i64 0)).setCell ⟨p, 4, none⟩ (.int .i64 0)
/-- the deferred function, where readDependency has panicked -/
theorem depCatch (p q : Nat) (u : TypeId) (pv : Value) (older : List PanicEntry) (w : World) (h0 : w.cell? ⟨p, 0, none⟩ = some (.slice none 0 0)) (h1 : w.cell? ⟨p, 1, none⟩ = some (.slice none 0 0)) (h2 : w.cell? ⟨p, 2, none⟩ = some (.bool false)) (h3 : w.cell? ⟨p, 3, none⟩ = some (.int .i64 0)) (h4 : w.cell? ⟨p, 4, none⟩ = some (.int .i64 0)) (hz : ∀ o, w.frozen? ⟨p, o, none⟩ = false) (k0 : w.cell? ⟨q, 0, none⟩ = some (.bool false)) (kz : w.frozen? ⟨q, 0, none⟩ = false) (hpq : ¬ p = q) :
    CallsD Tryz.prog 125 #[.pointer (some ⟨p, 0, none⟩), .pointer (some ⟨q, 0, none⟩)] (.panicking ({ v := .iface u pv, recovered := false } :: older)) w fun e u' w' =>
      e = .returned (.tuple #[]) ∧ u' = .panicking ({ v := .iface u pv, recovered := true } :: older) ∧ w' = (zDep w p).setCell ⟨q, 0, none⟩ (.bool false) := by
  refine callsD_of_wpS Tryz.func125 rfl fun c₀ cs hu => ?_
  apply wpS_seq
  apply wpS_region
  simp [wpOpsS, go_sem, recoverD, hu, Tryz.ntmps125, Exit.thenS]
  refine wpS_cond (t := true) (by simp [Act.eval, Array.replicate]) ?_
  simp only [if_true]
  apply wpS_region
  simp [wpOpsS, go_sem, h0, h1, h2, h3, h4, hz, k0, kz, zDep, bodyPostS, results, Tryz.results125]
theorem chgM {B C b : Nat} {w w' : World} (h : Chg (Mid B C) w w') (h1 : B ≤ b) (h2 : b < C) (o : Nat) (v : Value) : Chg (Mid B C) w (w'.setCell ⟨b, o, none⟩ v) := h.setCell (p := ⟨b, o, none⟩) ⟨h1, h2⟩ v
theorem depIdle (p q : Addr) (w : World) :
    CallsD Tryz.prog 125 #[.pointer (some p), .pointer (some q)] .returning w fun e u' w' => e = .returned (.tuple #[]) ∧ u' = .returning ∧ w' = w := by
  refine callsD_of_wpS Tryz.func125 rfl fun c₀ cs hu => ?_
  apply wpS_seq
  apply wpS_region
  simp [wpOpsS, go_sem, recoverD, hu, Tryz.ntmps125, Exit.thenS]
  refine wpS_cond (t := false) (by simp [Act.eval, Array.replicate]) ?_
  simp only [Bool.false_eq_true, if_false]
  refine wpS_of_wp (wp_skip ?_)
  cases c₀
  simp_all [bodyPostS, results, Tryz.results125]
set_option maxHeartbeats 1600000 in
set_option maxRecDepth 100000 in
theorem implParseDep_any (v : Value) (l : List Rel) (s : ByteArray) (w : World) (hl : RelsAt w w.heap.size v l) (hs : s.size ≤ 1048576) (ht : Tab w) (hv : ErrVars w) (hm : MaxL w) :
    Calls Tryz.prog 47 #[v, .string s] w (GivesDep l s w) := by
  have hmf : ∀ (fn : Fn) (first cap : Array Value) (w : World), (Instr.makeFunc fn first cap).run Tryz.prog w = .ok (.func fn first cap) w := fun _ _ _ _ => rfl
  obtain ⟨E, hEq⟩ : ∃ E, E = ((w.alloc (.cells #[.slice none 0 0, .slice none 0 0, .bool false, .int .i64 0, .int .i64 0] 37)).alloc (.cells #[.bool false] 4)) := ⟨_, rfl⟩
  have hE : Below w.heap.size w E := by rw [hEq]; exact below_more (below_more (Below.refl _ _) _) _
  have hEz : E.heap.size = w.heap.size + 2 := by rw [hEq]; simp
  have HA := fun o => Lib.hid (show E.cell? ⟨w.heap.size, o, none⟩ = (#[.slice none 0 0, .slice none 0 0, .bool false, .int .i64 0, .int .i64 0] : Array Value)[o]? by rw [hEq]; rcases (show o = 0 ∨ o = 1 ∨ o = 2 ∨ o = 3 ∨ o = 4 ∨ 5 ≤ o by omega) with rfl | rfl | rfl | rfl | rfl | h <;> simp [go_sem])
  have HB := Lib.hid (show E.cell? ⟨w.heap.size + 1, 0, none⟩ = some (.bool false) by rw [hEq]; simp [go_sem])
  have HAz := Lib.hid (show ∀ o, E.frozen? ⟨w.heap.size, o, none⟩ = false by intro o; rw [hEq]; simp [go_sem])
  have HBz := Lib.hid (show ∀ o, E.frozen? ⟨w.heap.size + 1, o, none⟩ = false by intro o; rw [hEq]; simp [go_sem])
  have hrd := implReadDep_any v l s E ((hl.below hE (Nat.le_refl _)).more hE.size) hs (ht.below hE) (hv.below hE) (hm.below hE)
  clear hl hs
  rw [hEq] at hrd
  go_enter_defers Tryz.func47, Tryz.ntmps47
  go_wp2_with fail
  refine hrd.mono ?_
  rw [← hEq]
  clear hEq hrd
  rintro e w1 ⟨hb1, hres⟩
  have hz1 := hb1.size
  have HWw := Lib.hid (hE.trans (hb1.mono hE.size))
  have Z := fun o => (hb1.cell (p := ⟨w.heap.size, o, none⟩) (by show w.heap.size < _; omega)).trans (HA o).out
  have zz := fun o => (hb1.frozen (p := ⟨w.heap.size, o, none⟩) (by show w.heap.size < _; omega)).trans (HAz.out o)
  have z0 := Z 0
  have z1 := Z 1
  have z2 := Z 2
  have z3 := Z 3
  have z4 := Z 4
  simp at z0 z1 z2 z3 z4
  have k0 := (hb1.cell (p := ⟨w.heap.size + 1, 0, none⟩) (by show w.heap.size + 1 < _; omega)).trans HB.out
  have kz := (hb1.frozen (p := ⟨w.heap.size + 1, 0, none⟩) (by show w.heap.size + 1 < _; omega)).trans (HBz.out 0)
  clear Z HA HB HAz HBz
  rcases hres with ⟨x, X, hx, rfl, hX⟩ | ⟨hx, rfl⟩
  · have HV := Lib.hid (show ParseDependency_r0 l s = x ∧ ParseDependency_ok l s = true by unfold ParseDependency_r0 ParseDependency_ok; rw [hx]; exact ⟨rfl, rfl⟩)
    obtain ⟨Y1, y1, Y2, y2, hv0, hv1⟩ := hX.vals
    have HX := Lib.hid hX
    have HV0 := Lib.hid hv0
    have HV1 := Lib.hid hv1
    rw [DVal, hv0, hv1]
    clear hX hv0 hv1 hx hb1
    go_wp2_with fail
    obtain ⟨W, hWe⟩ : ∃ W, W = ((((((w1.setCell ⟨w.heap.size, 0, none⟩ (.slice Y1 x.body.length y1)).setCell ⟨w.heap.size, 1, none⟩ (.slice Y2 x.head.length y2)).setCell ⟨w.heap.size, 2, none⟩ (.bool x.egd)).setCell ⟨w.heap.size, 3, none⟩ (.int .i64 x.left)).setCell ⟨w.heap.size, 4, none⟩ (.int .i64 x.right)).setCell ⟨w.heap.size + 1, 0, none⟩ (.bool true)) := ⟨_, rfl⟩
    have c0 : W.cell? ⟨w.heap.size, 0, none⟩ = some (.slice Y1 x.body.length y1) := by rw [hWe]; simp [go_sem, z0]
    have c1 : W.cell? ⟨w.heap.size, 1, none⟩ = some (.slice Y2 x.head.length y2) := by rw [hWe]; simp [go_sem, z1]
    have c2 : W.cell? ⟨w.heap.size, 2, none⟩ = some (.bool x.egd) := by rw [hWe]; simp [go_sem, z2]
    have c3 : W.cell? ⟨w.heap.size, 3, none⟩ = some (.int .i64 x.left) := by rw [hWe]; simp [go_sem, z3]
    have c4 : W.cell? ⟨w.heap.size, 4, none⟩ = some (.int .i64 x.right) := by rw [hWe]; simp [go_sem, z4]
    have c5 : W.cell? ⟨w.heap.size + 1, 0, none⟩ = some (.bool true) := by rw [hWe]; simp [go_sem, k0]
    have hch : Chg (Mid w.heap.size (w.heap.size + 2)) w1 W := by
      rw [hWe]
      exact chgM (chgM (chgM (chgM (chgM (chgM (Chg.refl _ _) (Nat.le_refl _) (by omega) _ _) (Nat.le_refl _) (by omega) _ _) (Nat.le_refl _) (by omega) _ _) (Nat.le_refl _) (by omega) _ _) (Nat.le_refl _) (by omega) _ _) (Nat.le_succ _) (by omega) _ _
    have hBW : Below w.heap.size w W := by
      rw [hWe]
      exact (((((HWw.out.setCell (p := ⟨w.heap.size, 0, none⟩) (Nat.le_refl _) _).setCell (p := ⟨w.heap.size, 1, none⟩) (Nat.le_refl _) _).setCell (p := ⟨w.heap.size, 2, none⟩) (Nat.le_refl _) _).setCell (p := ⟨w.heap.size, 3, none⟩) (Nat.le_refl _) _).setCell (p := ⟨w.heap.size, 4, none⟩) (Nat.le_refl _) _).setCell (p := ⟨w.heap.size + 1, 0, none⟩) (Nat.le_succ _) _
    have hsz : W.heap.size = w1.heap.size := by rw [hWe]; simp [World.setCell]
    have hXW : DepOwn E.heap.size W.heap.size X x W := (HX.out.mono (Nat.le_refl _) (Nat.le_of_eq hsz.symm)).chg hch (.inr (by omega))
    rw [← hWe]
    clear hWe
    refine leaves_cons (f := 125) (args := #[.pointer (some ⟨w.heap.size, 0, none⟩), .pointer (some ⟨w.heap.size + 1, 0, none⟩)]) (by simp) (by simp [go_sem]) ?_
    refine (depIdle _ _ _).mono ?_
    rintro e u' w'' ⟨rfl, rfl, rfl⟩
    refine ⟨.tuple #[.agg #[.slice Y1 x.body.length y1, .slice Y2 x.head.length y2, .bool x.egd, .int .i64 x.left, .int .i64 x.right], .bool true], by simp [results, Tryz.results47, go_sem, c0, c1, c2, c3, c4, c5], ?_⟩
    refine ⟨X, by rw [HV.out.1, HV.out.2, HV0.out, HV1.out], ?_, hBW⟩
    rw [HV.out.1]
    exact hXW.mono (by omega) (Nat.le_refl _)
  · have HV := Lib.hid (show ParseDependency_r0 l s = noDep ∧ ParseDependency_ok l s = false by unfold ParseDependency_r0 ParseDependency_ok; rw [hx]; exact ⟨rfl, rfl⟩)
    clear hx hb1
    unfold NoFmt
    refine leaves_cons (f := 125) (args := #[.pointer (some ⟨w.heap.size, 0, none⟩), .pointer (some ⟨w.heap.size + 1, 0, none⟩)]) (by simp) (by simp [go_sem]) ?_
    refine (depCatch w.heap.size (w.heap.size + 1) _ _ [] w1 z0 z1 z2 z3 z4 zz k0 kz (by omega)).mono ?_
    rintro e u' w'' ⟨rfl, rfl, rfl⟩
    have hBW : Below w.heap.size w ((zDep w1 w.heap.size).setCell ⟨w.heap.size + 1, 0, none⟩ (.bool false)) :=
      (((((HWw.out.setCell (p := ⟨w.heap.size, 0, none⟩) (Nat.le_refl _) _).setCell (p := ⟨w.heap.size, 1, none⟩) (Nat.le_refl _) _).setCell (p := ⟨w.heap.size, 2, none⟩) (Nat.le_refl _) _).setCell (p := ⟨w.heap.size, 3, none⟩) (Nat.le_refl _) _).setCell (p := ⟨w.heap.size, 4, none⟩) (Nat.le_refl _) _).setCell (p := ⟨w.heap.size + 1, 0, none⟩) (Nat.le_succ _) _
    refine ⟨.tuple #[.agg #[.slice none 0 0, .slice none 0 0, .bool false, .int .i64 0, .int .i64 0], .bool false], by simp [results, Tryz.results47, go_sem, zDep, z0, z1, z2, z3, z4, k0], ?_⟩
    exact ⟨zeroDX, by rw [HV.out.1, HV.out.2]; rfl, by rw [HV.out.1]; exact DepOwn.none _ _ _, hBW⟩
theorem readDepS_len {l : List Rel} {x : Dep} (h : depOk l x = true) : Dependency_sz x ≤ 16 := by
  have hb := depOk_body h
  have h1 := side_sz hb.2.2 hb.2.1
  unfold Dependency_sz
  cases hg : x.egd with
  | true =>
    have hh := (depOk_egd h hg).1
    rw [hh]
    have : AtomS_sz ([] : List Atm) = 0 := rfl
    omega
  | false =>
    have hh := depOk_tgd h hg
    have h2 := side_sz hh.2.2.1 hh.2.1
    omega
theorem parseDep_sz (l : List Rel) (s : ByteArray) : Dependency_sz (ParseDependency_r0 l s) ≤ 1048576 := by
  unfold ParseDependency_r0
  cases h : parseDep l s.data.toList with
  | none => show Dependency_sz noDep ≤ _; decide
  | some x =>
    have := readDepS_len ((parseDep_iff l _ x).1 h).1
    show Dependency_sz x ≤ _
    omega
theorem implParseDependency_c (v : Value) (l : List Rel) (s : ByteArray) (w : World) (h : RelationS_at w w.heap.size v l) (_ : RelationS_wf l) (_ : RelationS_sz l ≤ 1048576) (hs : s.size ≤ 1048576) (ht : Tab w) (hv : ErrVars w) (hm : MaxL w) :
    Calls Tryz.prog 47 #[v, .string s] w fun e w' => ∃ r0, e = .returned (.tuple #[r0, .bool (ParseDependency_ok l s)]) ∧ Dependency_own w.heap.size w'.heap.size r0 (ParseDependency_r0 l s) w' ∧ Dependency_sz (ParseDependency_r0 l s) ≤ 1048576 ∧ Below w.heap.size w w' :=
  (implParseDep_any v l s w h hs ht hv hm).mono fun _ _ hg => by
    obtain ⟨r0, h1, h2, h3⟩ := hg.out
    exact ⟨r0, h1, h2, parseDep_sz l s, h3⟩

set_option maxHeartbeats 3200000 in
set_option maxRecDepth 100000 in
theorem implAreValidDeps_any (v : Value) (l : List Rel) (u : Value) (xs : List Dep) (w : World) (hl : RelsAt w w.heap.size v l) (h : DependencyS_at w w.heap.size u xs) (hn : DependencyS_sz xs ≤ 1048576) :
    Calls Tryz.prog 16 #[v, u] w fun e w' => e = .returned (.bool (depsOk l xs)) ∧ Below w.heap.size w w' := by
  have HL := Lib.hid hl
  have HX := Lib.hid h
  obtain ⟨A, a0, rfl, hlc, hcm, -⟩ := hl
  obtain ⟨A', c, rfl, hc1, hc2⟩ := h.form
  unfold maxLen at hc2
  have hel : ∀ k (h : k < xs.length), Dependency_sz xs[k] ≤ 1048576 := fun k h => by
    have h1 := depsLen_take xs k h
    have h2 := depsLen_le xs (k + 1)
    unfold DependencyS_sz at hn; omega
  clear h
  have hcon := fun b h => implAreValid_at2 l b h (.slice A l.length a0) w HL.out
  cases hr : validRels l with
  | false =>
    have HV := Lib.hid (show depsOk l xs = false by unfold depsOk; rw [hr]; rfl)
    replace hcon := hcon false hr
    clear hr
    go_enter Tryz.func16, Tryz.ntmps16
    go_wp2_with (go_at_call 42; refine hcon.mono ?_; rintro e w1 ⟨rfl, hb1⟩)
    go_ret
    exact ⟨ret_bool HV.out.symm, hb1⟩
  | true =>
    replace hcon := hcon true hr
    by_cases h5 : (5 : Int) < xs.length
    · have HV := Lib.hid (show depsOk l xs = false by unfold depsOk; rw [hr, decide_eq_false (by omega)]; rfl)
      have hd5 : decide ((5 : Int) < xs.length) = true := decide_eq_true h5
      clear hr
      go_enter Tryz.func16, Tryz.ntmps16
      go_wp2_with (go_at_call 42; refine hcon.mono ?_; rintro e w1 ⟨rfl, hb1⟩)
      go_ret
      exact ⟨ret_bool HV.out.symm, hb1⟩
    · have HA := Lib.hid (show depsOk l xs = xs.all (depOk l) by unfold depsOk; rw [hr, decide_eq_true (by omega)]; rfl)
      have hd5 : decide ((5 : Int) < xs.length) = false := decide_eq_false h5
      have H5 := Lib.hid h5
      clear hr h5
      go_enter Tryz.func16, Tryz.ntmps16
      go_wp2_with (go_at_call 42; refine hcon.mono ?_; rintro e w1 ⟨rfl, hb1⟩)
      clear hcon
      go_loopw [17] (fun i wr => ∃ j : Nat, j ≤ xs.length ∧ i = .int .i64 j ∧ Hid (AllTo (depOk l) xs j) ∧ Below w.heap.size w wr) (fun i _ => xs.length - (intOf i).toNat)
      case atStart => exact ⟨0, by omega, rfl, Lib.hid (AllTo.zero _ _), hb1⟩
      case round =>
        obtain ⟨j, hj, rfl, HT, hW⟩ := hrel
        have hz := hW.size
        by_cases hlt : j < xs.length
        · obtain ⟨b, off, V, U, rfl, hb, c0, c1, c2, c3, c4, hV, hU⟩ := DependencyS_at.elem HX.out j hlt
          obtain ⟨PV, cV, rfl, -, -⟩ := hV.form
          obtain ⟨PU, cU, rfl, -, -⟩ := hU.form
          replace c0 := (hW.cell (p := ⟨b, off + j * 5, none⟩) hb).trans c0
          replace c1 := (hW.cell (p := ⟨b, off + j * 5 + 1, none⟩) hb).trans c1
          replace c2 := (hW.cell (p := ⟨b, off + j * 5 + 2, none⟩) hb).trans c2
          replace c3 := (hW.cell (p := ⟨b, off + j * 5 + 3, none⟩) hb).trans c3
          replace c4 := (hW.cell (p := ⟨b, off + j * 5 + 4, none⟩) hb).trans c4
          have hE : Below wr.heap.size wr (wr.alloc (.cells #[.slice PV xs[j].body.length cV, .slice PU xs[j].head.length cU, .bool xs[j].egd, .int .i64 xs[j].left, .int .i64 xs[j].right] 37)) := below_more (Below.refl _ _) _
          have hWE := hW.trans (hE.mono hz)
          have hcon := fun (q : Bool) (hq : depOk l xs[j] = q) => implIsValidDependency_at l xs[j] q hq (.slice A l.length a0) (.agg #[.slice PV xs[j].body.length cV, .slice PU xs[j].head.length cU, .bool xs[j].egd, .int .i64 xs[j].left, .int .i64 xs[j].right]) _ ((HL.out.below hWE (Nat.le_refl _)).more hWE.size) ⟨_, _, rfl, (hV.below hWE (Nat.le_refl _)).more hWE.size, (hU.below hWE (Nat.le_refl _)).more hWE.size⟩ (hel j hlt)
          have HWE := Lib.hid hWE
          clear hE hWE hV hU
          cases hv : depOk l xs[j] with
          | false =>
            have HV := Lib.hid (HA.out.trans (all_no hlt hv))
            replace hcon := hcon false hv
            clear hv
            go_wp2_with (go_at_call 82; refine hcon.mono ?_; rintro e w3 ⟨rfl, hb3⟩)
            go_ret
            exact ⟨ret_bool HV.out.symm, HWE.out.trans (hb3.mono HWE.out.size)⟩
          | true =>
            have HN := Lib.hid (HT.out.next hlt hv)
            replace hcon := hcon true hv
            clear hv
            go_wp2_with (go_at_call 82; refine hcon.mono ?_; rintro e w3 ⟨rfl, hb3⟩)
            go_roundw
            case rel => exact ⟨j + 1, by omega, by go_num, HN, HWE.out.trans (hb3.mono HWE.out.size)⟩
            case measure => simp [intOf]; omega
        · obtain rfl : j = xs.length := by omega
          have HV := Lib.hid (HA.out.trans HT.out.full)
          go_wp2
          go_ret
          exact ⟨ret_bool HV.out.symm, hW⟩
theorem implAreValidDependencies_c (v : Value) (l : List Rel) (u : Value) (x : List Dep) (w : World) (h : RelationS_at w w.heap.size v l) (_ : RelationS_wf l) (_ : RelationS_sz l ≤ 1048576) (h' : DependencyS_at w w.heap.size u x) (_ : DependencyS_wf x) (hn : DependencyS_sz x ≤ 1048576) :
    Calls Tryz.prog 16 #[v, u] w fun e w' => e = .returned (.bool (depsOk l x)) ∧ Below w.heap.size w w' := implAreValidDeps_any v l u x w h h' hn

end Go.Proofs.YtmecdjincmkofaaGreatDoor
