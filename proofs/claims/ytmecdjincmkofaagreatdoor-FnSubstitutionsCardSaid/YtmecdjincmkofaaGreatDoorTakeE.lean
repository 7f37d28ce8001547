/-
  Walks and plain lemmas for the laws of this seat: what single Go functions return, for every argument.
-/
import Derived.Test.YtmecdjincmkofaaGreatDoorShelf
import Derived.Lib.SliceRun
import Derived.Shelf.Abstract
import Derived.LoopN
import Derived.Laws.IdiomCopy
import Derived.Test.YtmecdjincmkofaaGreatDoorBase
import Derived.Test.YtmecdjincmkofaaGreatDoorMem
import Derived.Test.YtmecdjincmkofaaGreatDoorInts
import Derived.Test.YtmecdjincmkofaaGreatDoorNum
import Derived.Test.YtmecdjincmkofaaGreatDoorRels
import Derived.Test.YtmecdjincmkofaaGreatDoorPlan
import Derived.Test.YtmecdjincmkofaaGreatDoorFact
import Derived.Test.YtmecdjincmkofaaGreatDoorTyInst
namespace Go.Proofs.YtmecdjincmkofaaGreatDoor
open Go.RowKit

theorem take_eq_next {α : Type} (l m : List α) (k : Nat) (h : k < l.length) (h' : k < m.length) (he : l[k] = m[k]) (ht : l.take k = m.take k) : l.take (k + 1) = m.take (k + 1) := by
  rw [List.take_succ_eq_append_getElem h, List.take_succ_eq_append_getElem h', ht, he]
theorem take_eq_not {α : Type} (l m : List α) (k : Nat) (h : k < l.length) (h' : k < m.length) (he : ¬ l[k] = m[k]) : ¬ l = m := by
  rintro rfl; exact he rfl
instance : DecidableEq Rel := fun a b => by
  cases a; cases b; rw [Rel.mk.injEq]; exact inferInstance

set_option maxHeartbeats 800000 in
theorem specIsValidRelation_any (s : ByteArray) (a : Int) (b : Bool) (w : World) :
    Calls Tryz.prog 101 #[.agg #[.string s, .int .i64 a, .bool b]] w fun e w' => e = .returned (.bool (relOk s a)) ∧ Below w.heap.size w w' := by
  by_cases h1 : s.size = 1
  · have h0 : 0 < s.size := by omega
    have HN := Lib.hid (nameOk_one s h1)
    by_cases h2 : (97 : Int) ≤ ((s[0].toNat : Nat) : Int)
    · by_cases h3 : ((s[0].toNat : Nat) : Int) ≤ 122
      · have hr : Hid (relOk s a = inB a 1 3) := Lib.hid (by unfold relOk; rw [HN.out]; simp [h2, h3])
        go_enter Tryz.func101, Tryz.ntmps101
        go_wp2_with (go_at_call 112; refine (l1In_any _ _ _ _).mono ?_; rintro e w' ⟨rfl, rfl⟩)
        go_ret
        refine ⟨?_, (Below.refl _ _).alloc (Nat.le_refl _) _⟩
        rw [hr.out]; rfl
      · have hr : Hid (relOk s a = false) := Lib.hid (by unfold relOk; rw [HN.out]; simp [h2, h3])
        go_enter Tryz.func101, Tryz.ntmps101
        go_wp2
        go_ret
        refine ⟨?_, (Below.refl _ _).alloc (Nat.le_refl _) _⟩
        rw [hr.out]; rfl
    · have hr : Hid (relOk s a = false) := Lib.hid (by unfold relOk; rw [HN.out]; simp [h2])
      go_enter Tryz.func101, Tryz.ntmps101
      go_wp2
      go_ret
      refine ⟨?_, (Below.refl _ _).alloc (Nat.le_refl _) _⟩
      rw [hr.out]; rfl
  · have hr : Hid (relOk s a = false) := Lib.hid (by unfold relOk; rw [nameOk_ne s h1]; rfl)
    go_enter Tryz.func101, Tryz.ntmps101
    go_wp2
    go_ret
    refine ⟨?_, (Below.refl _ _).alloc (Nat.le_refl _) _⟩
    rw [hr.out]; rfl

set_option maxHeartbeats 400000 in
theorem isRelationName_any (s : ByteArray) (w : World) :
    Calls Tryz.prog 192 #[.string s] w fun e w' => e = .returned (.bool (nameOk s)) ∧ w = w' := by
  by_cases h1 : s.size = 1
  · have hN := nameOk_one s h1
    generalize nameOk s = N at hN
    have h0 : 0 < s.size := by omega
    by_cases h2 : (97 : Int) ≤ ((s[0].toNat : Nat) : Int)
    all_goals
      have HN := Lib.hid hN
      clear hN
      go_enter Tryz.func192, Tryz.ntmps192
      go_wp2
      go_ret
      rw [HN.out]
      first | rfl | (simp [*]; done) | (simp; omega)
  · rw [nameOk_ne s h1]
    go_enter Tryz.func192, Tryz.ntmps192
    go_wp2
    go_ret
    exact ⟨rfl, rfl⟩

set_option maxHeartbeats 400000 in
theorem implIsValidRelation_any (s : ByteArray) (a : Int) (b : Bool) (w : World) :
    Calls Tryz.prog 117 #[.agg #[.string s, .int .i64 a, .bool b]] w fun e w' => e = .returned (.bool (relOk s a)) ∧ Below w.heap.size w w' := by
  unfold relOk inB
  cases hn : nameOk s
  · go_enter Tryz.func117, Tryz.ntmps117
    go_wp2_with (go_at_call 192; refine (isRelationName_any _ _).mono ?_; rintro e w' ⟨rfl, rfl⟩)
    go_ret
    exact ⟨rfl, (Below.refl _ _).alloc (Nat.le_refl _) _⟩
  · by_cases h1 : 1 ≤ a
    all_goals
      go_enter Tryz.func117, Tryz.ntmps117
      go_wp2_with (go_at_call 192; refine (isRelationName_any _ _).mono ?_; rintro e w' ⟨rfl, rfl⟩)
      go_ret
      refine ⟨?_, (Below.refl _ _).alloc (Nat.le_refl _) _⟩
      first | rfl | (simp [*]; done) | (simp; omega) | trace_state

theorem implSearchInts_any (v : Value) (l : List Int) (k : Int) (w : World) (hl : IntsAt w w.heap.size v l) (ha : l.Pairwise (· ≤ ·)) (hn : l.length ≤ 1048576) :
    Calls Tryz.prog 209 #[v, .int .i64 k] w fun e w' => e = .returned (.tuple #[.int .i64 (l.countP (· < k) : Nat), .bool (l.contains k)]) ∧ Below w.heap.size w w' := by
  obtain ⟨A, c, rfl, hlc, hcm, hc, -⟩ := hl
  rcases Nat.eq_zero_or_pos l.length with h0 | h0
  · have e : l = [] := List.eq_nil_of_length_eq_zero h0
    subst e
    refine (Tryz.slices_BinarySearch_int_empty A c k w).mono ?_
    rintro e w' ⟨rfl, hw⟩
    exact ⟨rfl, by rw [hw]; exact Below.refl _ _⟩
  · obtain ⟨b, off, rfl, hb, hc⟩ := hc h0
    have hcc : ∀ j, j < l.length → w.cell? ⟨b, off + j, none⟩ = some (.int .i64 (l.getD j 0)) := fun j hj => by
      refine hc j _ ?_
      rw [flat_int]; simp [hj]
    have h := Tryz.slices_BinarySearch_int b off l.length c l k w (Nat.le_refl _) (by omega) hcc (by rw [List.take_of_length_le (Nat.le_refl _)]; exact ha)
    rw [List.take_of_length_le (Nat.le_refl _)] at h
    refine h.mono ?_
    rintro e w' ⟨rfl, q, rfl⟩
    exact ⟨rfl, below_drewN w q⟩

set_option maxHeartbeats 800000 in
theorem implCloneInts_any (v : Value) (l : List Int) (w : World) (hl : IntsAt w w.heap.size v l) (hn : l.length ≤ 1048576) :
    Calls Tryz.prog 240 #[v] w fun e w' => ∃ u, e = .returned u ∧ IntS_own w.heap.size w'.heap.size u l w' ∧ Below w.heap.size w w' := by
  have HL := Lib.hid hl
  obtain ⟨A, c, rfl, hlc, hcm, hel, hA⟩ := hl
  unfold maxLen at hcm
  have q0 : ∀ (w : World) (a : Option Addr) (n c n' c' : Nat), (binOp .eql 55 (.slice a n c) (.slice none n' c')).run Tryz.prog w = .ok (.bool a.isNone) w := fun w a n c n' c' => Lib.run_eql_slice_nil w _ _ a n c n' c' Tryz.underlying55
  cases A with
  | none =>
    obtain rfl := hA rfl
    obtain rfl : l = [] := List.eq_nil_of_length_eq_zero (by omega)
    clear hel hA
    go_enter Tryz.func240, Tryz.ntmps240
    go_wp2
    go_ret
    exact ⟨_, rfl, ⟨OwnInts.nil _ _, fun g hg => by cases hg⟩, Below.refl _ _⟩
  | some a =>
    have HLE := Lib.hid ((HL.out.below ((Below.refl w.heap.size w).alloc (Nat.le_refl _) (.cells #[] 3)) (Nat.le_refl _)))
    have HOE := Lib.hid (OwnInts.empty w w.heap.size (Nat.le_refl _))
    clear hel hA
    go_enter Tryz.func240, Tryz.ntmps240
    go_wp2_with (at_builtin; refine ints_apps (r := l) HOE.out rfl _ _ rfl (by simp [go_sem]) (some a) l.length c rfl rfl HLE.out (fun e => by cases e) (by simp; omega) (by simp) ?_; intro v1 w1 hO1 hW1 _ _)
    go_ret
    rw [List.nil_append] at hO1
    exact ⟨_, rfl, IntsO.of hO1, ((Below.refl _ _).alloc (Nat.le_refl _) _).trans hW1⟩

set_option maxHeartbeats 800000 in
theorem implCloneRels_any (v : Value) (l : List Rel) (w : World) (hl : RelsAt w w.heap.size v l) (hn : l.length ≤ 1048576) :
    Calls Tryz.prog 135 #[v] w fun e w' => ∃ u, e = .returned u ∧ RelationS_own w.heap.size w'.heap.size u l w' ∧ Below w.heap.size w w' := by
  have HL := Lib.hid hl
  obtain ⟨A, c, rfl, hlc, hcm, hel, hA⟩ := hl
  unfold maxLen at hcm
  have q0 : ∀ (w : World) (a : Option Addr) (n c n' c' : Nat), (binOp .eql 24 (.slice a n c) (.slice none n' c')).run Tryz.prog w = .ok (.bool a.isNone) w := fun w a n c n' c' => Lib.run_eql_slice_nil w _ _ a n c n' c' Tryz.underlying24
  cases A with
  | none =>
    obtain rfl := hA rfl
    obtain rfl : l = [] := List.eq_nil_of_length_eq_zero (by omega)
    clear hel hA
    go_enter Tryz.func135, Tryz.ntmps135
    go_wp2
    go_ret
    exact ⟨_, rfl, ⟨OwnRels.nil _ _, fun g hg => by cases hg⟩, Below.refl _ _⟩
  | some a =>
    have HLE := Lib.hid ((HL.out.below ((Below.refl w.heap.size w).alloc (Nat.le_refl _) (.cells #[] 113)) (Nat.le_refl _)))
    have HOE := Lib.hid (OwnRels.empty w w.heap.size (Nat.le_refl _))
    clear hel hA
    go_enter Tryz.func135, Tryz.ntmps135
    go_wp2_with (at_builtin; refine rels_apps (r := l) HOE.out rfl _ _ rfl (by simp [go_sem]) (some a) l.length c rfl rfl HLE.out (fun e => by cases e) (by simp; omega) (by simp) ?_; intro v1 w1 hO1 hW1 _ _)
    go_ret
    rw [List.nil_append] at hO1
    exact ⟨_, rfl, RelationS_own.of hO1, ((Below.refl _ _).alloc (Nat.le_refl _) _).trans hW1⟩
set_option maxHeartbeats 1600000 in
set_option maxRecDepth 100000 in
theorem implCopyFact_any (v : Value) (x : Fct) (w : World) (h : Fact_at w w.heap.size v x) (hn : Fact_sz x ≤ 1048576) :
    Calls Tryz.prog 203 #[v] w fun e w' => ∃ u, e = .returned u ∧ Fact_own w.heap.size w'.heap.size u x w' ∧ Below w.heap.size w w' := by
  obtain ⟨P, c, rfl⟩ := Fact_form h
  obtain ⟨V, hv, hI⟩ := h
  simp only [Value.agg.injEq, Array.mk.injEq, List.cons.injEq, and_true, true_and] at hv
  subst hv
  unfold Fact_sz at hn
  obtain ⟨E, hEq⟩ : ∃ E, E = ((w.alloc (.cells #[.int .i64 x.rel, .slice P x.vals.length c] 57)).alloc (.cells #[.int .i64 0, .slice none 0 0] 57)) := ⟨_, rfl⟩
  have hE : Below w.heap.size w E := by rw [hEq]; exact below_more (below_more (Below.refl _ _) _) _
  have HE := Lib.hid (show w.heap.size + 2 = E.heap.size by rw [hEq]; simp)
  have G0 := Aft.cell (B := E.heap.size) (w := E) (b := w.heap.size) (o := 0) (x := some (.int .i64 x.rel)) (by have := HE.out; omega) (by rw [hEq]; simp [go_sem])
  have G1 := Aft.cell (B := E.heap.size) (w := E) (b := w.heap.size) (o := 1) (x := some (.slice P x.vals.length c)) (by have := HE.out; omega) (by rw [hEq]; simp [go_sem])
  have M0 := Lib.hid (show E.cell? ⟨w.heap.size + 1, 0, none⟩ = some (.int .i64 0) by rw [hEq]; simp [go_sem])
  have M1 := Lib.hid (show E.cell? ⟨w.heap.size + 1, 1, none⟩ = some (.slice none 0 0) by rw [hEq]; simp [go_sem])
  have MZ := fun o => Lib.hid (show E.frozen? ⟨w.heap.size + 1, o, none⟩ = false by rw [hEq]; simp [go_sem])
  have hED : Below w.heap.size w E.drew := hE.drew
  have hcl := implCloneInts_any (.slice P x.vals.length c) x.vals E.drew ((SliceAt.below hI hED (Nat.le_refl _)).more hED.size) hn
  go_enter Tryz.func203, Tryz.ntmps203
  go_wp2
  rw [← hEq]
  clear hEq hI
  refine wp_region_plan (C := fun w' => ∃ u : Aft E.heap.size E, w' = u.now) (.still 0 (.still 1 (.still 2 (.still 3 (.move true 4 (.still 5 (.move false 6 .done .none)) .none))))) (by kernel_rfl) (by kernel_rfl) (by kernel_rfl) (fun _ => ⟨⟨_, (Below.refl _ _).drew⟩, rfl⟩) ?_
  iterate 4
    refine plan_look _ rfl rfl ?_
    go_big_quiet_step (fail)
    refine wpQuiet_nil ?_
  refine plan_call _ 240 _ _ _ _ _ rfl _ Tryz.func240 (by kernel_rfl) (by kernel_rfl) ?_ True.intro
  refine hcl.mono ?_
  rintro _ w2 ⟨u, rfl, hU, hb2⟩
  have hb2' : Below E.heap.size E w2 := (Below.refl _ _).drew.trans hb2
  obtain ⟨P2, c2, rfl, -⟩ := id hU.1.at_
  have m0 := (hb2'.cell (p := ⟨w.heap.size + 1, 0, none⟩) (by show w.heap.size + 1 < _; have := HE.out; omega)).trans M0.out
  have m1 := (hb2'.cell (p := ⟨w.heap.size + 1, 1, none⟩) (by show w.heap.size + 1 < _; have := HE.out; omega)).trans M1.out
  have mz := fun o => (hb2'.frozen (p := ⟨w.heap.size + 1, o, none⟩) (by show w.heap.size + 1 < _; have := HE.out; omega)).trans (MZ o).out
  have HU := Lib.hid (show IntS_own E.heap.size w2.heap.size (.slice P2 x.vals.length c2) x.vals w2 from hU)
  have HB2 := Lib.hid hb2'
  refine ⟨_, rfl, fun _ => ⟨⟨_, hb2'⟩, rfl⟩, ?_⟩
  clear hU hb2 hb2' G0 G1 hcl
  refine plan_put ?_ (by simp only [Act.put, List.setIfInBounds_toArray, List.set_cons_succ, List.set_cons_zero]; rfl)
  refine plan_look _ rfl rfl ?_
  go_big_quiet_step (fail)
  refine wpQuiet_nil ?_
  refine plan_skip (w' := (w2.setCell ⟨w.heap.size + 1, 0, none⟩ (.int .i64 x.rel)).setCell ⟨w.heap.size + 1, 1, none⟩ (.slice P2 x.vals.length c2)) _ rfl rfl rfl (by simp [go_sem, m0, m1, mz]) (fun e => by cases e) ?_ True.intro
  refine plan_put ?_ (by simp only [Act.put]; rfl)
  refine plan_done ?_
  go_wp2
  refine bodyPost_ret (v := .agg #[.int .i64 x.rel, .slice P2 x.vals.length c2]) (by simp [results, Tryz.results203, go_sem, m0, m1]) rfl ⟨_, rfl, ⟨_, rfl, ?_⟩, ?_⟩
  · exact (HU.out.chg (B' := w.heap.size + 1) (C' := w.heap.size + 2) (((Chg.refl _ w2).setCell (p := ⟨w.heap.size + 1, 0, none⟩) ⟨Nat.le_refl _, Nat.lt_succ_self _⟩ _).setCell (p := ⟨w.heap.size + 1, 1, none⟩) ⟨Nat.le_refl _, Nat.lt_succ_self _⟩ _) (.inr (by have := HE.out; omega))).mono hE.size (by simp [World.setCell])
  · exact ((hE.trans (HB2.out.mono hE.size)).setCell (p := ⟨w.heap.size + 1, 0, none⟩) (by show w.heap.size ≤ w.heap.size + 1; omega) _).setCell (p := ⟨w.heap.size + 1, 1, none⟩) (by show w.heap.size ≤ w.heap.size + 1; omega) _

theorem compareInt_at (x y : Int) (r : Int) (h : (if x < y then -1 else if y < x then 1 else 0 : Int) = r) (w : World) : Calls Tryz.prog 115 #[.int .i64 x, .int .i64 y] w fun e w' => e = .returned (.int .i64 r) ∧ w' = w := by
  subst h
  have e1 : (x != x) = false := by simp
  have e2 : (y != y) = false := by simp
  by_cases h1 : x < y
  · rw [if_pos h1]
    have d1 : decide (x < y) = true := decide_eq_true h1
    clear h1
    go_enter Tryz.func115, Tryz.ntmps115
    go_wp2
    go_ret
    exact ⟨rfl, rfl⟩
  · rw [if_neg h1]
    have d1 : decide (x < y) = false := decide_eq_false h1
    by_cases h2 : y < x
    · rw [if_pos h2]
      have d2 : decide (y < x) = true := decide_eq_true h2
      clear h1 h2
      go_enter Tryz.func115, Tryz.ntmps115
      go_wp2
      go_ret
      exact ⟨rfl, rfl⟩
    · rw [if_neg h2]
      have d2 : decide (y < x) = false := decide_eq_false h2
      clear h1 h2
      go_enter Tryz.func115, Tryz.ntmps115
      go_wp2
      go_ret
      exact ⟨rfl, rfl⟩
set_option maxHeartbeats 1600000 in
theorem implInts_any (v u : Value) (a b : List Int) (w : World) (hl : IntsAt w w.heap.size v a) (hm : IntsAt w w.heap.size u b) :
    Calls Tryz.prog 116 #[v, u] w fun e w' => e = .returned (.int .i64 (cmpInts a b)) ∧ w = w' := by
  have HL := Lib.hid hl
  have HM := Lib.hid hm
  obtain ⟨A, c, rfl, hlc, hcm, -⟩ := hl
  obtain ⟨A', c', rfl, hlc', hcm', -⟩ := hm
  unfold maxLen at hcm hcm'
  go_enter Tryz.func116, Tryz.ntmps116
  go_wp2
  go_loopw [11] (fun i wr => ∃ k : Nat, k ≤ a.length ∧ k ≤ b.length ∧ i = .int .i64 k ∧ Hid (CmpTo a b k) ∧ w = wr) (fun i _ => a.length - (intOf i).toNat)
  case atStart => exact ⟨0, by omega, by omega, rfl, Lib.hid (CmpTo.zero a b), rfl⟩
  case round =>
    obtain ⟨k, hk, hk', rfl, HT, rfl⟩ := hrel
    by_cases hlt : k < a.length
    · obtain ⟨p, off, rfl, hb, c0⟩ := IntsAt.elem HL.out k hlt
      by_cases hlt' : k < b.length
      · obtain ⟨p', off', rfl, hb', d0⟩ := IntsAt.elem HM.out k hlt'
        by_cases h1 : a[k] < b[k]
        · have HV := Lib.hid (HT.out.less hlt hlt' h1)
          have hc := compareInt_at a[k] b[k] (-1) (by rw [if_pos h1]) w
          clear h1
          go_wp2_with (go_at_call 115; refine hc.mono ?_; rintro e w1 ⟨rfl, rfl⟩)
          go_ret
          exact ⟨ret_int HV.out.symm, rfl⟩
        · by_cases h2 : b[k] < a[k]
          · have HV := Lib.hid (HT.out.more hlt hlt' h2)
            have hc := compareInt_at a[k] b[k] 1 (by rw [if_neg h1, if_pos h2]) w
            clear h1 h2
            go_wp2_with (go_at_call 115; refine hc.mono ?_; rintro e w1 ⟨rfl, rfl⟩)
            go_ret
            exact ⟨ret_int HV.out.symm, rfl⟩
          · have HV := Lib.hid (HT.out.next hlt hlt' h1 h2)
            have hc := compareInt_at a[k] b[k] 0 (by rw [if_neg h1, if_neg h2]) w
            clear h1 h2
            go_wp2_with (go_at_call 115; refine hc.mono ?_; rintro e w1 ⟨rfl, rfl⟩)
            go_roundw
            case rel => exact ⟨k + 1, by omega, by omega, by go_num, HV, by trivial⟩
            case measure => simp [intOf]; omega
      · have HV := Lib.hid ((HT.out.done (by omega) hk hk').trans ((if_neg (by omega)).trans (if_pos (by omega))))
        go_wp2
        go_ret
        exact ⟨ret_int HV.out.symm, rfl⟩
    · have HV := Lib.hid (HT.out.done (by omega) hk hk')
      by_cases e1 : a.length < b.length
      · have HV' := Lib.hid (HV.out.trans (if_pos e1))
        go_wp2
        go_ret
        exact ⟨ret_int HV'.out.symm, rfl⟩
      · have HV' := Lib.hid (HV.out.trans ((if_neg e1).trans (if_neg (by omega))))
        go_wp2
        go_ret
        exact ⟨ret_int HV'.out.symm, rfl⟩
/-- the first of two numbers that is not zero -/
theorem orInt_any (x y r : Int) (h : (if x = 0 then y else x) = r) (g : Nat) (w : World) (h0 : w.cell? ⟨g, 0, none⟩ = some (.int .i64 x)) (h1 : w.cell? ⟨g, 1, none⟩ = some (.int .i64 y)) :
    Calls Tryz.prog 114 #[.slice (some ⟨g, 0, none⟩) 2 2] w fun e w' => e = .returned (.int .i64 r) ∧ w = w' := by
  subst h
  by_cases hx : x = 0
  · subst hx
    rw [if_pos rfl]
    by_cases hy : y = 0
    · subst hy
      have hn0 : ((0 : Int) != 0) = false := rfl
      go_enter Tryz.func114, Tryz.ntmps114
      go_wp2
      refine wp_loop_rounds 3 ?_
      rw [rounds_succ]
      go_wp2
      rw [rounds_succ]
      go_wp2
      rw [rounds_succ]
      go_wp2
      go_ret
      exact ⟨rfl, rfl⟩
    · have hyb : (y != 0) = true := bne_iff_ne.2 hy
      clear hy
      go_enter Tryz.func114, Tryz.ntmps114
      go_wp2
      refine wp_loop_rounds 2 ?_
      rw [rounds_succ]
      go_wp2
      rw [rounds_succ]
      go_wp2
      go_ret
      exact ⟨rfl, rfl⟩
  · have hxb : (x != 0) = true := bne_iff_ne.2 hx
    rw [if_neg hx]
    clear hx
    go_enter Tryz.func114, Tryz.ntmps114
    go_wp2
    refine wp_loop_rounds 1 ?_
    rw [rounds_succ]
    go_wp2
    go_ret
    exact ⟨rfl, rfl⟩
set_option maxHeartbeats 1600000 in
set_option maxRecDepth 100000 in
theorem implCompareFacts_eq (r s : Int) (v u : Value) (a b : List Int) (w : World) (hl : IntsAt w w.heap.size v a) (hm : IntsAt w w.heap.size u b) :
    Calls Tryz.prog 41 #[.agg #[.int .i64 r, v], .agg #[.int .i64 s, u]] w fun e w' => e = .returned (.int .i64 (cmpFact r a s b)) ∧ Below w.heap.size w w' ∧ ∃ o1 o2 o3, w' = ((w.alloc o1).alloc o2).drew.alloc o3 := by
  have hE : Below w.heap.size w ((w.alloc (.cells #[.int .i64 r, v] 57)).alloc (.cells #[.int .i64 s, u] 57)) := below_more (below_more (Below.refl _ _) _) _
  have hEz : w.heap.size + 2 = ((w.alloc (.cells #[.int .i64 r, v] 57)).alloc (.cells #[.int .i64 s, u] 57)).heap.size := by simp
  have hcl := (hl.below (hE.trans ((Below.refl _ _).drew : Below w.heap.size ((w.alloc (.cells #[.int .i64 r, v] 57)).alloc (.cells #[.int .i64 s, u] 57)) ((w.alloc (.cells #[.int .i64 r, v] 57)).alloc (.cells #[.int .i64 s, u] 57)).drew)) (Nat.le_refl _)).more (show w.heap.size ≤ ((w.alloc (.cells #[.int .i64 r, v] 57)).alloc (.cells #[.int .i64 s, u] 57)).drew.heap.size by show w.heap.size ≤ ((w.alloc (.cells #[.int .i64 r, v] 57)).alloc (.cells #[.int .i64 s, u] 57)).heap.size; omega)
  have hcm := (hm.below (hE.trans ((Below.refl _ _).drew : Below w.heap.size ((w.alloc (.cells #[.int .i64 r, v] 57)).alloc (.cells #[.int .i64 s, u] 57)) ((w.alloc (.cells #[.int .i64 r, v] 57)).alloc (.cells #[.int .i64 s, u] 57)).drew)) (Nat.le_refl _)).more (show w.heap.size ≤ ((w.alloc (.cells #[.int .i64 r, v] 57)).alloc (.cells #[.int .i64 s, u] 57)).drew.heap.size by show w.heap.size ≤ ((w.alloc (.cells #[.int .i64 r, v] 57)).alloc (.cells #[.int .i64 s, u] 57)).heap.size; omega)
  have G0 := Aft.cell (B := ((w.alloc (.cells #[.int .i64 r, v] 57)).alloc (.cells #[.int .i64 s, u] 57)).heap.size) (by omega) (show ((w.alloc (.cells #[.int .i64 r, v] 57)).alloc (.cells #[.int .i64 s, u] 57)).cell? ⟨w.heap.size, 0, none⟩ = some (.int .i64 r) by simp [go_sem])
  have G1 := Aft.cell (B := ((w.alloc (.cells #[.int .i64 r, v] 57)).alloc (.cells #[.int .i64 s, u] 57)).heap.size) (by omega) (show ((w.alloc (.cells #[.int .i64 r, v] 57)).alloc (.cells #[.int .i64 s, u] 57)).cell? ⟨w.heap.size, 1, none⟩ = some (v) by simp [go_sem])
  have G2 := Aft.cell (B := ((w.alloc (.cells #[.int .i64 r, v] 57)).alloc (.cells #[.int .i64 s, u] 57)).heap.size) (by omega) (show ((w.alloc (.cells #[.int .i64 r, v] 57)).alloc (.cells #[.int .i64 s, u] 57)).cell? ⟨w.heap.size + 1, 0, none⟩ = some (.int .i64 s) by simp [go_sem])
  have G3 := Aft.cell (B := ((w.alloc (.cells #[.int .i64 r, v] 57)).alloc (.cells #[.int .i64 s, u] 57)).heap.size) (by omega) (show ((w.alloc (.cells #[.int .i64 r, v] 57)).alloc (.cells #[.int .i64 s, u] 57)).cell? ⟨w.heap.size + 1, 1, none⟩ = some (u) by simp [go_sem])
  obtain ⟨X, hC⟩ : ∃ X : Int, (if r < s then -1 else if s < r then 1 else 0 : Int) = X := ⟨_, rfl⟩
  have HX : Hid ((if X = 0 then cmpInts a b else X) = cmpFact r a s b) := Lib.hid (by
    subst hC; unfold cmpFact
    by_cases h1 : r < s
    · simp [h1]
    · by_cases h2 : s < r <;> simp [h1, h2])
  have HC := Lib.hid hC
  have HB1 := Lib.hid (show Below ((w.alloc (.cells #[.int .i64 r, v] 57)).alloc (.cells #[.int .i64 s, u] 57)).heap.size ((w.alloc (.cells #[.int .i64 r, v] 57)).alloc (.cells #[.int .i64 s, u] 57)) (((w.alloc (.cells #[.int .i64 r, v] 57)).alloc (.cells #[.int .i64 s, u] 57)).drew.alloc (.cells #[.int .i64 X, .int .i64 (cmpInts a b)] 3)) from (Below.refl ((w.alloc (.cells #[.int .i64 r, v] 57)).alloc (.cells #[.int .i64 s, u] 57)).heap.size ((w.alloc (.cells #[.int .i64 r, v] 57)).alloc (.cells #[.int .i64 s, u] 57))).drew.alloc (show ((w.alloc (.cells #[.int .i64 r, v] 57)).alloc (.cells #[.int .i64 s, u] 57)).heap.size ≤ ((w.alloc (.cells #[.int .i64 r, v] 57)).alloc (.cells #[.int .i64 s, u] 57)).drew.heap.size from Nat.le_refl _) _)
  have HEz := Lib.hid hEz
  clear hC hl hm hEz
  go_enter Tryz.func41, Tryz.ntmps41
  go_wp2
  refine wp_region_planL (C := fun w' => ∃ u : Aft ((w.alloc (.cells #[.int .i64 r, v] 57)).alloc (.cells #[.int .i64 s, u] 57)).heap.size ((w.alloc (.cells #[.int .i64 r, v] 57)).alloc (.cells #[.int .i64 s, u] 57)), w' = u.now) (.still 0 (.still 1 (.still 2 (.still 3 (.still 5 (.still 6 (.still 7 (.still 8 (.move true 4 (.move true 9 (.move true 10 (.move true 11 (.still 12 .done) .none) .none) .none) .none))))))))) (by kernel_rfl) (by kernel_rfl) (by kernel_rfl) (fun _ => ⟨⟨_, (Below.refl _ _).drew⟩, rfl⟩) ?_
  iterate 8
    refine plan_look _ rfl rfl ?_
    go_big_quiet_step (fail)
    refine wpQuiet_nil ?_
  refine plan_call _ 115 _ _ _ _ _ rfl _ Tryz.func115 (by kernel_rfl) (by kernel_rfl) ?_ True.intro
  refine (compareInt_at r s X HC.out _).mono ?_
  rintro _ _ ⟨rfl, rfl⟩
  refine ⟨_, rfl, fun _ => ⟨⟨_, (Below.refl _ _).drew⟩, rfl⟩, ?_⟩
  refine plan_put ?_ (by simp only [Act.put, List.setIfInBounds_toArray, List.set_cons_succ, List.set_cons_zero]; rfl)
  refine plan_call _ 116 _ _ _ _ _ rfl _ Tryz.func116 (by kernel_rfl) (by kernel_rfl) ?_ True.intro
  refine (implInts_any v u a b _ hcl hcm).mono ?_
  rintro _ _ ⟨rfl, rfl⟩
  refine ⟨_, rfl, fun _ => ⟨⟨_, (Below.refl _ _).drew⟩, rfl⟩, ?_⟩
  refine plan_put ?_ (by simp only [Act.put, List.setIfInBounds_toArray, List.set_cons_succ, List.set_cons_zero]; rfl)
  refine plan_value (u := .slice (some ⟨((w.alloc (.cells #[.int .i64 r, v] 57)).alloc (.cells #[.int .i64 s, u] 57)).heap.size, 0, none⟩) 2 2) (w' := ((w.alloc (.cells #[.int .i64 r, v] 57)).alloc (.cells #[.int .i64 s, u] 57)).drew.alloc (.cells #[.int .i64 X, .int .i64 (cmpInts a b)] 3)) _ rfl rfl rfl (by simp [go_sem]) (fun _ => ⟨⟨_, HB1.out⟩, rfl⟩) ?_ True.intro
  refine plan_put ?_ (by simp only [Act.put, List.setIfInBounds_toArray, List.set_cons_succ, List.set_cons_zero]; rfl)
  refine plan_call _ 114 _ _ _ _ _ rfl _ Tryz.func114 (by kernel_rfl) (by kernel_rfl) ?_ True.intro
  refine (orInt_any X (cmpInts a b) (cmpFact r a s b) HX.out ((w.alloc (.cells #[.int .i64 r, v] 57)).alloc (.cells #[.int .i64 s, u] 57)).heap.size _ (box_cell ((w.alloc (.cells #[.int .i64 r, v] 57)).alloc (.cells #[.int .i64 s, u] 57)).drew #[.int .i64 X, .int .i64 (cmpInts a b)] _ 0) (box_cell ((w.alloc (.cells #[.int .i64 r, v] 57)).alloc (.cells #[.int .i64 s, u] 57)).drew #[.int .i64 X, .int .i64 (cmpInts a b)] _ 1)).mono ?_
  rintro _ _ ⟨rfl, rfl⟩
  refine ⟨_, rfl, fun _ => ⟨⟨_, HB1.out⟩, rfl⟩, ?_⟩
  refine plan_put ?_ (by simp only [Act.put, List.setIfInBounds_toArray, List.set_cons_succ, List.set_cons_zero]; rfl)
  refine plan_look _ rfl rfl ?_
  go_big_quiet_step (fail)
  refine wpQuiet_nil ?_
  refine plan_done ?_
  go_wp2
  go_ret
  exact ⟨rfl, hE.trans (HB1.out.mono hE.size), _, _, _, rfl⟩
theorem implCompareFacts_any (r s : Int) (v u : Value) (a b : List Int) (w : World) (hl : IntsAt w w.heap.size v a) (hm : IntsAt w w.heap.size u b) :
    Calls Tryz.prog 41 #[.agg #[.int .i64 r, v], .agg #[.int .i64 s, u]] w fun e w' => e = .returned (.int .i64 (cmpFact r a s b)) ∧ Below w.heap.size w w' :=
  (implCompareFacts_eq r s v u a b w hl hm).mono fun _ _ ⟨he, hb, _⟩ => ⟨he, hb⟩
theorem implCompareFacts_c (v : Value) (x : Fct) (u : Value) (y : Fct) (w : World) (h : Fact_at w w.heap.size v x) (_ : Fact_wf x) (_ : Fact_sz x ≤ 1048576) (h' : Fact_at w w.heap.size u y) (_ : Fact_wf y) (_ : Fact_sz y ≤ 1048576) :
    Calls Tryz.prog 41 #[v, u] w fun e w' => e = .returned (.int .i64 (cmpFact x.rel x.vals y.rel y.vals)) ∧ Below w.heap.size w w' := by
  obtain ⟨V, rfl, h⟩ := h
  obtain ⟨U, rfl, h'⟩ := h'
  exact implCompareFacts_any x.rel y.rel V U x.vals y.vals w h h'

/-- a row of the call's own, cut -/
theorem ownsRow_cut {w : World} {B k g n cap i : Nat} {e : TypeId} {xs : List Value} (h : w.ownsRow B e k (.slice (some ⟨g, 0, none⟩) n cap) n xs) (hi : i ≤ n) : w.ownsRow B e k (.slice (some ⟨g, 0, none⟩) i cap) i (xs.take (i * k)) := by
  rcases h.2 with ⟨h', _⟩ | ⟨g', cap', cur, h', hb, hg, hnc, hcm, hcs, ht⟩
  · cases h'
  · injection h' with e1 _ e3
    injection e1 with e1
    injection e1 with e1
    subst e1 e3
    have hle : i * k ≤ n * k := Nat.mul_le_mul_right k hi
    refine ⟨by rw [List.length_take, h.1]; omega, .inr ⟨g, cap, cur, rfl, hb, hg, by omega, hcm, hcs, ?_⟩⟩
    rw [← ht, List.take_take, Nat.min_eq_left hle]
/-- several cells of the row set -/
theorem ownsRow_setCells {B k g n cap : Nat} {e : TypeId} (us : List Value) (o : Nat) : ∀ {w : World} {xs : List Value}, w.ownsRow B e k (.slice (some ⟨g, 0, none⟩) n cap) n xs → (w.setCells g o us).ownsRow B e k (.slice (some ⟨g, 0, none⟩) n cap) n (setMany xs o us) := by
  induction us generalizing o with
  | nil => intro w xs h; exact h
  | cons u us ih => intro w xs h; exact ih (o + 1) (World.ownsRow.stored h o u).1
theorem setMany_take (xs : List Value) (o : Nat) (us : List Value) : (setMany xs o us).take o = xs.take o := by
  have key : ∀ (us : List Value) (xs : List Value) (o m : Nat), m ≤ o → (setMany xs o us).take m = xs.take m := by
    intro us
    induction us with
    | nil => intro xs o m h; rfl
    | cons u us ih =>
      intro xs o m h
      show (setMany (xs.set o u) (o + 1) us).take m = _
      rw [ih _ _ _ (by omega), List.take_set_of_le h]
  exact key us xs o o (Nat.le_refl _)
theorem chg_setCells {g : Nat} (us : List Value) (o : Nat) : ∀ (w : World), Chg (fun q => q = g) w (w.setCells g o us) := by
  induction us generalizing o with
  | nil => intro w; exact Chg.refl _ _
  | cons u us ih => intro w; exact ((Chg.refl (fun q => q = g) w).setCell (p := ⟨g, o, none⟩) rfl u).trans (ih (o + 1) _)

end Go.Proofs.YtmecdjincmkofaaGreatDoor
