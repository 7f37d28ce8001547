/-
  Walks and plain lemmas for the laws of this seat: what single Go functions return, for every argument.
-/
import Derived.LoopN
import Derived.Test.YtobdijcnfmgidaaBase
import Derived.Test.YtobdijcnfmgidaaInts
import Derived.Test.YtobdijcnfmgidaaFact
import Derived.Test.YtobdijcnfmgidaaPlan
import Derived.Test.YtobdijcnfmgidaaTyInst
namespace Go.Proofs.Ytobdijcnfmgidaa
open Go.RowKit

theorem compareInt_at (x y : Int) (r : Int) (h : (if x < y then -1 else if y < x then 1 else 0 : Int) = r) (w : World) : Calls Try.prog 119 #[.int .i64 x, .int .i64 y] w fun e w' => e = .returned (.int .i64 r) ∧ w' = w := by
  subst h
  have e1 : (x != x) = false := by simp
  have e2 : (y != y) = false := by simp
  by_cases h1 : x < y
  · rw [if_pos h1]
    have d1 : decide (x < y) = true := decide_eq_true h1
    clear h1
    go_enter Try.func119, Try.ntmps119
    go_wp2
    go_ret
    exact ⟨rfl, rfl⟩
  · rw [if_neg h1]
    have d1 : decide (x < y) = false := decide_eq_false h1
    by_cases h2 : y < x
    · rw [if_pos h2]
      have d2 : decide (y < x) = true := decide_eq_true h2
      clear h1 h2
      go_enter Try.func119, Try.ntmps119
      go_wp2
      go_ret
      exact ⟨rfl, rfl⟩
    · rw [if_neg h2]
      have d2 : decide (y < x) = false := decide_eq_false h2
      clear h1 h2
      go_enter Try.func119, Try.ntmps119
      go_wp2
      go_ret
      exact ⟨rfl, rfl⟩
set_option maxHeartbeats 1600000 in
theorem implInts_any (v u : Value) (a b : List Int) (w : World) (hl : IntsAt w w.heap.size v a) (hm : IntsAt w w.heap.size u b) :
    Calls Try.prog 120 #[v, u] w fun e w' => e = .returned (.int .i64 (cmpInts a b)) ∧ w = w' := by
  have HL := Lib.hid hl
  have HM := Lib.hid hm
  obtain ⟨A, c, rfl, hlc, hcm, -⟩ := hl
  obtain ⟨A', c', rfl, hlc', hcm', -⟩ := hm
  unfold maxLen at hcm hcm'
  go_enter Try.func120, Try.ntmps120
  go_wp2
  go_loopw [11] (fun i wr => ∃ k : Nat, k ≤ a.length ∧ k ≤ b.length ∧ i = .int .i64 k ∧ Hid (CmpTo a b k) ∧ w = wr) (fun i _ => a.length - (intOf i).toNat)
  case atStart => exact ⟨0, by omega, by omega, rfl, Lib.hid (CmpTo.zero a b), rfl⟩
  case round =>
    obtain ⟨k, hk, hk', rfl, HT, rfl⟩ := hrel
    by_cases hlt : k < a.length
    · obtain ⟨p, off, rfl, hb, c0⟩ := IntsAt.elem HL.out k hlt
      by_cases hlt' : k < b.length
      · obtain ⟨p', off', rfl, hb', d0⟩ := IntsAt.elem HM.out k hlt'
        by_cases h1 : a[k] < b[k]
        · have HV := Lib.hid (HT.out.less hlt hlt' h1)
          have hc := compareInt_at a[k] b[k] (-1) (by rw [if_pos h1]) w
          clear h1
          go_wp2_with (go_at_call 119; refine hc.mono ?_; rintro e w1 ⟨rfl, rfl⟩)
          go_ret
          exact ⟨ret_int HV.out.symm, rfl⟩
        · by_cases h2 : b[k] < a[k]
          · have HV := Lib.hid (HT.out.more hlt hlt' h2)
            have hc := compareInt_at a[k] b[k] 1 (by rw [if_neg h1, if_pos h2]) w
            clear h1 h2
            go_wp2_with (go_at_call 119; refine hc.mono ?_; rintro e w1 ⟨rfl, rfl⟩)
            go_ret
            exact ⟨ret_int HV.out.symm, rfl⟩
          · have HV := Lib.hid (HT.out.next hlt hlt' h1 h2)
            have hc := compareInt_at a[k] b[k] 0 (by rw [if_neg h1, if_neg h2]) w
            clear h1 h2
            go_wp2_with (go_at_call 119; refine hc.mono ?_; rintro e w1 ⟨rfl, rfl⟩)
            go_roundw
            case rel => exact ⟨k + 1, by omega, by omega, by go_num, HV, by trivial⟩
            case measure => simp [intOf]; omega
      · have HV := Lib.hid ((HT.out.done (by omega) hk hk').trans ((if_neg (by omega)).trans (if_pos (by omega))))
        go_wp2
        go_ret
        exact ⟨ret_int HV.out.symm, rfl⟩
    · have HV := Lib.hid (HT.out.done (by omega) hk hk')
      by_cases e1 : a.length < b.length
      · have HV' := Lib.hid (HV.out.trans (if_pos e1))
        go_wp2
        go_ret
        exact ⟨ret_int HV'.out.symm, rfl⟩
      · have HV' := Lib.hid (HV.out.trans ((if_neg e1).trans (if_neg (by omega))))
        go_wp2
        go_ret
        exact ⟨ret_int HV'.out.symm, rfl⟩
/-- the first of two numbers that is not zero -/
theorem orInt_any (x y r : Int) (h : (if x = 0 then y else x) = r) (g : Nat) (w : World) (h0 : w.cell? ⟨g, 0, none⟩ = some (.int .i64 x)) (h1 : w.cell? ⟨g, 1, none⟩ = some (.int .i64 y)) :
    Calls Try.prog 118 #[.slice (some ⟨g, 0, none⟩) 2 2] w fun e w' => e = .returned (.int .i64 r) ∧ w = w' := by
  subst h
  by_cases hx : x = 0
  · subst hx
    rw [if_pos rfl]
    by_cases hy : y = 0
    · subst hy
      have hn0 : ((0 : Int) != 0) = false := rfl
      go_enter Try.func118, Try.ntmps118
      go_wp2
      refine wp_loop_rounds 3 ?_
      rw [rounds_succ]
      go_wp2
      rw [rounds_succ]
      go_wp2
      rw [rounds_succ]
      go_wp2
      go_ret
      exact ⟨rfl, rfl⟩
    · have hyb : (y != 0) = true := bne_iff_ne.2 hy
      clear hy
      go_enter Try.func118, Try.ntmps118
      go_wp2
      refine wp_loop_rounds 2 ?_
      rw [rounds_succ]
      go_wp2
      rw [rounds_succ]
      go_wp2
      go_ret
      exact ⟨rfl, rfl⟩
  · have hxb : (x != 0) = true := bne_iff_ne.2 hx
    rw [if_neg hx]
    clear hx
    go_enter Try.func118, Try.ntmps118
    go_wp2
    refine wp_loop_rounds 1 ?_
    rw [rounds_succ]
    go_wp2
    go_ret
    exact ⟨rfl, rfl⟩
set_option maxHeartbeats 1600000 in
set_option maxRecDepth 100000 in
theorem implCompareFacts_eq (r s : Int) (v u : Value) (a b : List Int) (w : World) (hl : IntsAt w w.heap.size v a) (hm : IntsAt w w.heap.size u b) :
    Calls Try.prog 79 #[.agg #[.int .i64 r, v], .agg #[.int .i64 s, u]] w fun e w' => e = .returned (.int .i64 (cmpFact r a s b)) ∧ Below w.heap.size w w' ∧ ∃ o1 o2 o3, w' = ((w.alloc o1).alloc o2).drew.alloc o3 := by
  have hE : Below w.heap.size w ((w.alloc (.cells #[.int .i64 r, v] 44)).alloc (.cells #[.int .i64 s, u] 44)) := below_more (below_more (Below.refl _ _) _) _
  have hEz : w.heap.size + 2 = ((w.alloc (.cells #[.int .i64 r, v] 44)).alloc (.cells #[.int .i64 s, u] 44)).heap.size := by simp
  have hcl := (hl.below (hE.trans ((Below.refl _ _).drew : Below w.heap.size ((w.alloc (.cells #[.int .i64 r, v] 44)).alloc (.cells #[.int .i64 s, u] 44)) ((w.alloc (.cells #[.int .i64 r, v] 44)).alloc (.cells #[.int .i64 s, u] 44)).drew)) (Nat.le_refl _)).more (show w.heap.size ≤ ((w.alloc (.cells #[.int .i64 r, v] 44)).alloc (.cells #[.int .i64 s, u] 44)).drew.heap.size by show w.heap.size ≤ ((w.alloc (.cells #[.int .i64 r, v] 44)).alloc (.cells #[.int .i64 s, u] 44)).heap.size; omega)
  have hcm := (hm.below (hE.trans ((Below.refl _ _).drew : Below w.heap.size ((w.alloc (.cells #[.int .i64 r, v] 44)).alloc (.cells #[.int .i64 s, u] 44)) ((w.alloc (.cells #[.int .i64 r, v] 44)).alloc (.cells #[.int .i64 s, u] 44)).drew)) (Nat.le_refl _)).more (show w.heap.size ≤ ((w.alloc (.cells #[.int .i64 r, v] 44)).alloc (.cells #[.int .i64 s, u] 44)).drew.heap.size by show w.heap.size ≤ ((w.alloc (.cells #[.int .i64 r, v] 44)).alloc (.cells #[.int .i64 s, u] 44)).heap.size; omega)
  have G0 := Aft.cell (B := ((w.alloc (.cells #[.int .i64 r, v] 44)).alloc (.cells #[.int .i64 s, u] 44)).heap.size) (by omega) (show ((w.alloc (.cells #[.int .i64 r, v] 44)).alloc (.cells #[.int .i64 s, u] 44)).cell? ⟨w.heap.size, 0, none⟩ = some (.int .i64 r) by simp [go_sem])
  have G1 := Aft.cell (B := ((w.alloc (.cells #[.int .i64 r, v] 44)).alloc (.cells #[.int .i64 s, u] 44)).heap.size) (by omega) (show ((w.alloc (.cells #[.int .i64 r, v] 44)).alloc (.cells #[.int .i64 s, u] 44)).cell? ⟨w.heap.size, 1, none⟩ = some (v) by simp [go_sem])
  have G2 := Aft.cell (B := ((w.alloc (.cells #[.int .i64 r, v] 44)).alloc (.cells #[.int .i64 s, u] 44)).heap.size) (by omega) (show ((w.alloc (.cells #[.int .i64 r, v] 44)).alloc (.cells #[.int .i64 s, u] 44)).cell? ⟨w.heap.size + 1, 0, none⟩ = some (.int .i64 s) by simp [go_sem])
  have G3 := Aft.cell (B := ((w.alloc (.cells #[.int .i64 r, v] 44)).alloc (.cells #[.int .i64 s, u] 44)).heap.size) (by omega) (show ((w.alloc (.cells #[.int .i64 r, v] 44)).alloc (.cells #[.int .i64 s, u] 44)).cell? ⟨w.heap.size + 1, 1, none⟩ = some (u) by simp [go_sem])
  obtain ⟨X, hC⟩ : ∃ X : Int, (if r < s then -1 else if s < r then 1 else 0 : Int) = X := ⟨_, rfl⟩
  have HX : Hid ((if X = 0 then cmpInts a b else X) = cmpFact r a s b) := Lib.hid (by
    subst hC; unfold cmpFact
    by_cases h1 : r < s
    · simp [h1]
    · by_cases h2 : s < r <;> simp [h1, h2])
  have HC := Lib.hid hC
  have HB1 := Lib.hid (show Below ((w.alloc (.cells #[.int .i64 r, v] 44)).alloc (.cells #[.int .i64 s, u] 44)).heap.size ((w.alloc (.cells #[.int .i64 r, v] 44)).alloc (.cells #[.int .i64 s, u] 44)) (((w.alloc (.cells #[.int .i64 r, v] 44)).alloc (.cells #[.int .i64 s, u] 44)).drew.alloc (.cells #[.int .i64 X, .int .i64 (cmpInts a b)] 3)) from (Below.refl ((w.alloc (.cells #[.int .i64 r, v] 44)).alloc (.cells #[.int .i64 s, u] 44)).heap.size ((w.alloc (.cells #[.int .i64 r, v] 44)).alloc (.cells #[.int .i64 s, u] 44))).drew.alloc (show ((w.alloc (.cells #[.int .i64 r, v] 44)).alloc (.cells #[.int .i64 s, u] 44)).heap.size ≤ ((w.alloc (.cells #[.int .i64 r, v] 44)).alloc (.cells #[.int .i64 s, u] 44)).drew.heap.size from Nat.le_refl _) _)
  have HEz := Lib.hid hEz
  clear hC hl hm hEz
  go_enter Try.func79, Try.ntmps79
  go_wp2
  refine wp_region_planL (C := fun w' => ∃ u : Aft ((w.alloc (.cells #[.int .i64 r, v] 44)).alloc (.cells #[.int .i64 s, u] 44)).heap.size ((w.alloc (.cells #[.int .i64 r, v] 44)).alloc (.cells #[.int .i64 s, u] 44)), w' = u.now) (.still 0 (.still 1 (.still 2 (.still 3 (.still 5 (.still 6 (.still 7 (.still 8 (.move true 4 (.move true 9 (.move true 10 (.move true 11 (.still 12 .done) .none) .none) .none) .none))))))))) (by kernel_rfl) (by kernel_rfl) (by kernel_rfl) (fun _ => ⟨⟨_, (Below.refl _ _).drew⟩, rfl⟩) ?_
  iterate 8
    refine plan_look _ rfl rfl ?_
    go_big_quiet_step (fail)
    refine wpQuiet_nil ?_
  refine plan_call _ 119 _ _ _ _ _ rfl _ Try.func119 (by kernel_rfl) (by kernel_rfl) ?_ True.intro
  refine (compareInt_at r s X HC.out _).mono ?_
  rintro _ _ ⟨rfl, rfl⟩
  refine ⟨_, rfl, fun _ => ⟨⟨_, (Below.refl _ _).drew⟩, rfl⟩, ?_⟩
  refine plan_put ?_ (by simp only [Act.put, List.setIfInBounds_toArray, List.set_cons_succ, List.set_cons_zero]; rfl)
  refine plan_call _ 120 _ _ _ _ _ rfl _ Try.func120 (by kernel_rfl) (by kernel_rfl) ?_ True.intro
  refine (implInts_any v u a b _ hcl hcm).mono ?_
  rintro _ _ ⟨rfl, rfl⟩
  refine ⟨_, rfl, fun _ => ⟨⟨_, (Below.refl _ _).drew⟩, rfl⟩, ?_⟩
  refine plan_put ?_ (by simp only [Act.put, List.setIfInBounds_toArray, List.set_cons_succ, List.set_cons_zero]; rfl)
  refine plan_value (u := .slice (some ⟨((w.alloc (.cells #[.int .i64 r, v] 44)).alloc (.cells #[.int .i64 s, u] 44)).heap.size, 0, none⟩) 2 2) (w' := ((w.alloc (.cells #[.int .i64 r, v] 44)).alloc (.cells #[.int .i64 s, u] 44)).drew.alloc (.cells #[.int .i64 X, .int .i64 (cmpInts a b)] 3)) _ rfl rfl rfl (by simp [go_sem]) (fun _ => ⟨⟨_, HB1.out⟩, rfl⟩) ?_ True.intro
  refine plan_put ?_ (by simp only [Act.put, List.setIfInBounds_toArray, List.set_cons_succ, List.set_cons_zero]; rfl)
  refine plan_call _ 118 _ _ _ _ _ rfl _ Try.func118 (by kernel_rfl) (by kernel_rfl) ?_ True.intro
  refine (orInt_any X (cmpInts a b) (cmpFact r a s b) HX.out ((w.alloc (.cells #[.int .i64 r, v] 44)).alloc (.cells #[.int .i64 s, u] 44)).heap.size _ (box_cell ((w.alloc (.cells #[.int .i64 r, v] 44)).alloc (.cells #[.int .i64 s, u] 44)).drew #[.int .i64 X, .int .i64 (cmpInts a b)] _ 0) (box_cell ((w.alloc (.cells #[.int .i64 r, v] 44)).alloc (.cells #[.int .i64 s, u] 44)).drew #[.int .i64 X, .int .i64 (cmpInts a b)] _ 1)).mono ?_
  rintro _ _ ⟨rfl, rfl⟩
  refine ⟨_, rfl, fun _ => ⟨⟨_, HB1.out⟩, rfl⟩, ?_⟩
  refine plan_put ?_ (by simp only [Act.put, List.setIfInBounds_toArray, List.set_cons_succ, List.set_cons_zero]; rfl)
  refine plan_look _ rfl rfl ?_
  go_big_quiet_step (fail)
  refine wpQuiet_nil ?_
  refine plan_done ?_
  go_wp2
  go_ret
  exact ⟨rfl, hE.trans (HB1.out.mono hE.size), _, _, _, rfl⟩
theorem implCompareFacts_any (r s : Int) (v u : Value) (a b : List Int) (w : World) (hl : IntsAt w w.heap.size v a) (hm : IntsAt w w.heap.size u b) :
    Calls Try.prog 79 #[.agg #[.int .i64 r, v], .agg #[.int .i64 s, u]] w fun e w' => e = .returned (.int .i64 (cmpFact r a s b)) ∧ Below w.heap.size w w' :=
  (implCompareFacts_eq r s v u a b w hl hm).mono fun _ _ ⟨he, hb, _⟩ => ⟨he, hb⟩
theorem implCompareFacts_c (v : Value) (x : Fct) (u : Value) (y : Fct) (w : World) (h : Fact_at w w.heap.size v x) (_ : Fact_wf x) (_ : Fact_sz x ≤ 1048576) (h' : Fact_at w w.heap.size u y) (_ : Fact_wf y) (_ : Fact_sz y ≤ 1048576) :
    Calls Try.prog 79 #[v, u] w fun e w' => e = .returned (.int .i64 (cmpFact x.rel x.vals y.rel y.vals)) ∧ Below w.heap.size w w' := by
  obtain ⟨V, rfl, h⟩ := h
  obtain ⟨U, rfl, h'⟩ := h'
  exact implCompareFacts_any x.rel y.rel V U x.vals y.vals w h h'

end Go.Proofs.Ytobdijcnfmgidaa
