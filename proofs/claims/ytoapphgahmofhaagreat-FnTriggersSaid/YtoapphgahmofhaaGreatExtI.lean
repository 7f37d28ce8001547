/-
  Walks and plain lemmas for the laws of this seat: what single Go functions return, for every argument.
-/
import Derived.Laws.Cover3
import Derived.LoopN
import Derived.Test.YtoapphgahmofhaaGreatBase
import Derived.Test.YtoapphgahmofhaaGreatInts
import Derived.Test.YtoapphgahmofhaaGreatDrawR
import Derived.Test.YtoapphgahmofhaaGreatPlan
import Derived.Test.YtoapphgahmofhaaGreatAft
import Derived.Test.YtoapphgahmofhaaGreatMInst
import Derived.Test.YtoapphgahmofhaaGreatInstM
import Derived.Test.YtoapphgahmofhaaGreatMatF
import Derived.Test.YtoapphgahmofhaaGreatDrawB14
import Derived.Test.YtoapphgahmofhaaGreatYldI
namespace Go.Proofs.YtoapphgahmofhaaGreat
open Go.RowKit

set_option maxRecDepth 100000 in
theorem implExtensions_any (P Q : Option Addr) (n c m d : Nat) (b : List Int) (w : World) :
    Calls Tryz.prog 75 #[.slice P n c, .slice Q m d, bAgg b] w fun e w' => e = .returned (.func (.func 115) #[] #[.pointer (some ⟨w.heap.size, 0, none⟩), .pointer (some ⟨w.heap.size + 1, 0, none⟩), .pointer (some ⟨w.heap.size + 2, 0, none⟩)]) ∧ w' = (((w.alloc (.cells #[.slice P n c] 25)).alloc (.cells #[.slice Q m d] 28)).alloc (.cells #[.int .i64 (at5 b 0), .int .i64 (at5 b 1), .int .i64 (at5 b 2), .int .i64 (at5 b 3), .int .i64 (at5 b 4)] 104)) := by
  go_enter Tryz.func75, Tryz.ntmps75
  go_wp2
  go_ret
  exact ⟨rfl, rfl⟩
set_option maxHeartbeats 1600000 in
set_option maxRecDepth 100000 in
theorem implExtensions_fn (n lp : Nat) (fs : List Fct) (hfw : FactS_wf fs) (l : List Atm) (hl : ∀ a ∈ l, AtmFit fs a) (vF vA : Value) (b : List Int) (hb5 : b.length = 5) (n₀ g0 g1 g2 : Nat) (J Jx : List (List Int) → World → Prop)
    (hJ : ∀ s W W', J s W → Below W.heap.size W W' → J s W')
    (hY : ∀ m pre x W, J pre W → pre.length < (walkM fs l b).length → YieldAt Fence.wide m Tryz.prog lp #[bAgg x] W fun e W' =>
      (e = .returned (.bool true) ∧ J (pre ++ [x]) W' ∧ Kp n₀ W W') ∨ (e = .returned (.bool false) ∧ Jx (pre ++ [x]) W'))
    (W : World) (hn : n₀ ≤ W.heap.size) (hF : FactS_at W n₀ vF fs) (hA : AtomS_at W n₀ vA l) (c0 : W.cell? ⟨g0, 0, none⟩ = some vF) (c1 : W.cell? ⟨g1, 0, none⟩ = some vA) (c2 : BoxA g2 b W) (h0 : J [] W) :
    CallsIn Fence.wide n Tryz.prog 115 #[.func (.yield lp) #[] #[], .pointer (some ⟨g0, 0, none⟩), .pointer (some ⟨g1, 0, none⟩), .pointer (some ⟨g2, 0, none⟩)] W fun e W' => (∃ v, e = .returned v) ∧ ((∃ ys, ys = walkM fs l b ∧ J ys W') ∨ (∃ pre, pre <+: walkM fs l b ∧ Jx pre W')) := by
  refine callsIn_wide.2 ?_
  have hc := implYield_any lp fs hfw vF n₀ (walkM fs l b).length J Jx hJ hY l hl vA b [] W hb5 hn hF hA h0 (by simp)
  obtain ⟨Q, d, rfl, -⟩ := hF.form
  obtain ⟨R, q, rfl, -⟩ := hA.form
  have A2 := c2.arr
  have e0 := A2.1 0 (by omega)
  have e1 := A2.1 1 (by omega)
  have e2 := A2.1 2 (by omega)
  have e3 := A2.1 3 (by omega)
  have e4 := A2.1 4 (by omega)
  clear A2 c2 hJ hY hF hA h0
  go_enter Tryz.func115, Tryz.ntmps115
  go_wp2_with (go_at_call 116; refine hc.mono ?_; clear hc; rintro e W1 (⟨rfl, hJ1, _⟩ | ⟨rfl, z, hz, hx⟩))
  · go_end0
    exact ⟨⟨_, rfl⟩, .inl ⟨_, rfl, by simpa using hJ1⟩⟩
  · go_end0
    exact ⟨⟨_, rfl⟩, .inr ⟨z, hz, by simpa using hx⟩⟩
/-- the value that extensions hands back -/
theorem implExtensions_stops (n : Nat) (fs : List Fct) (hfw : FactS_wf fs) (l : List Atm) (hl : ∀ a ∈ l, AtmFit fs a) (vF vA : Value) (b : List Int) (hb5 : b.length = 5) (n₀ g0 g1 g2 : Nat) (w : World) (hn : n₀ ≤ w.heap.size) (hF : FactS_at w n₀ vF fs) (hA : AtomS_at w n₀ vA l) (h0 : g0 < w.heap.size) (c0 : w.cell? ⟨g0, 0, none⟩ = some vF) (h1 : g1 < w.heap.size) (c1 : w.cell? ⟨g1, 0, none⟩ = some vA) (c2 : BoxA g2 b w) :
    SeqStopsK Fence.wide n Tryz.prog 115 #[.pointer (some ⟨g0, 0, none⟩), .pointer (some ⟨g1, 0, none⟩), .pointer (some ⟨g2, 0, none⟩)] (fun x : List Int => #[bAgg x]) (Kp n₀) (fun ys => ys = walkM fs l b) (fun pre => pre <+: walkM fs l b) (walkM fs l b).length w := fun lp J Jx W hW hJ _ hY hJ0 =>
  implExtensions_fn n lp fs hfw l hl vF vA b hb5 n₀ g0 g1 g2 J Jx (fun s W1 W2 hs hb => hJ s W1 W2 none hs (grown_none hb) (fun r e => by cases e)) (fun m pre x W1 hj hlen => YieldAt.anyDepth rfl m (hY pre x W1 hj hlen)) W (Nat.le_trans hn hW.size) (hF.below hW hn) (hA.below hW hn) ((hW.cell (p := ⟨g0, 0, none⟩) h0).trans c0) ((hW.cell (p := ⟨g1, 0, none⟩) h1).trans c1) (c2.below hW) hJ0

set_option maxHeartbeats 1600000 in
theorem implIndexX_any (v : Value) (l : List Int) (x : Int) (w : World) (hl : IntsAt w w.heap.size v l) :
    Calls Tryz.prog 112 #[v, .int .i64 x] w fun e w' => e = .returned (.int .i64 (ixOf (fun y => x == y) l)) ∧ w = w' := by
  have HL := Lib.hid hl
  obtain ⟨A, c, rfl, hlc, hcm, -⟩ := hl
  unfold maxLen at hcm
  go_enter Tryz.func112, Tryz.ntmps112
  go_wp2
  go_loop [8] (fun i => ∃ n : Nat, n ≤ l.length ∧ i = .int .i64 n ∧ Hid (IxTo (fun y => x == y) l n)) (fun i => l.length - (intOf i).toNat)
  case atStart => exact ⟨0, by omega, rfl, Lib.hid (IxTo.zero _ _)⟩
  case round =>
    obtain ⟨n, hn, rfl, HT⟩ := hrel
    by_cases hlt : n < l.length
    · obtain ⟨b, off, rfl, hb, c0⟩ := IntsAt.elem HL.out n hlt
      cases he : (x == l[n]) with
      | true =>
        have HV := Lib.hid (HT.out.hit hlt he)
        obtain ⟨z, hz⟩ : ∃ z, z = l[n] := ⟨_, rfl⟩
        rw [← hz] at c0 he
        clear hz
        go_wp2
        go_ret
        exact ⟨ret_int HV.out.symm, rfl⟩
      | false =>
        have HN := Lib.hid (HT.out.next hlt he)
        obtain ⟨z, hz⟩ : ∃ z, z = l[n] := ⟨_, rfl⟩
        rw [← hz] at c0 he
        clear hz
        go_wp2
        go_round
        case rel => exact ⟨n + 1, by omega, by go_num, HN⟩
        case measure => simp [intOf]; omega
    · obtain rfl : n = l.length := by omega
      have HV := Lib.hid HT.out.miss
      go_wp2
      go_ret
      exact ⟨ret_int HV.out.symm, rfl⟩
theorem any_beq (l : List Int) (x : Int) : l.any (fun y => x == y) = decide (x ∈ l) := by
  by_cases h : x ∈ l
  · rw [decide_eq_true h]; exact List.any_eq_true.2 ⟨x, h, beq_self_eq_true x⟩
  · rw [decide_eq_false h]; exact List.any_eq_false.2 fun y hy e => h (by have := eq_of_beq e; rwa [this])
theorem implContains_at (l : List Int) (x : Int) (q : Bool) (hq : decide (x ∈ l) = q) (v : Value) (w : World) (hl : IntsAt w w.heap.size v l) :
    Calls Tryz.prog 70 #[v, .int .i64 x] w fun e w' => e = .returned (.bool q) ∧ w = w' := by
  subst hq
  have hi := implIndexX_any v l x w hl
  have HV := Lib.hid ((ixOf_any (fun y => x == y) l).trans (any_beq l x))
  generalize ixOf (fun y => x == y) l = q at *
  obtain ⟨A, c, rfl, hlc, hcm, -⟩ := hl
  go_enter Tryz.func70, Tryz.ntmps70
  go_wp2_with (go_at_call 112; refine hi.mono ?_; rintro e w1 ⟨rfl, rfl⟩)
  go_ret
  exact ⟨ret_bool HV.out, rfl⟩

attribute [local go_sem] Oper.semAt_some
theorem at5_cells {w : World} {B : Nat} {v : Value} {b : List Int} (h : IntsAt w B v b) (h5 : b.length = 5) : ∃ q off c, v = .slice (some ⟨q, off, none⟩) 5 c ∧ q < B ∧ 5 ≤ c ∧ ∀ j, j < 5 → w.cell? ⟨q, off + j, none⟩ = some (.int .i64 (at5 b j)) := by
  obtain ⟨P, c, rfl, hc1, hc2, -⟩ := id h
  obtain ⟨q, off, rfl, hq, -⟩ := IntsAt.elem h 0 (by omega)
  refine ⟨q, off, c, by rw [h5], hq, by omega, fun j hj => ?_⟩
  obtain ⟨q', off', e, -, hc⟩ := IntsAt.elem h j (by omega)
  cases e
  rw [hc]
  unfold at5
  simp [List.getD, show j < b.length by omega]
set_option maxHeartbeats 6400000 in
set_option maxRecDepth 100000 in
theorem implHasExt_any (fs : List Fct) (hfw : FactS_wf fs) (l : List Atm) (hl : ∀ a ∈ l, AtmFit fs a) (b : List Int) (hb5 : b.length = 5) (vF vA vb : Value) (w : World) (hF : FactS_at w w.heap.size vF fs) (hA : AtomS_at w w.heap.size vA l) (hb : IntsAt w w.heap.size vb b) :
    Calls Tryz.prog 50 #[vF, vA, vb] w fun e w' => e = .returned (.bool (decide (0 < (walkM fs l b).length))) ∧ Below w.heap.size w w' := by
  have HF := Lib.hid hF
  have HA := Lib.hid hA
  obtain ⟨Q, d, rfl, hd1, hd2⟩ := hF.form
  obtain ⟨R, q, rfl, hq1, hq2⟩ := hA.form
  obtain ⟨p, off, cb, rfl, hp, hcb, hcells⟩ := at5_cells hb hb5
  clear hF hA hb
  obtain ⟨E, hEq⟩ : ∃ E, E = w.alloc (.cells #[.bool false] 4) := ⟨_, rfl⟩
  have hE : Below w.heap.size w E := by rw [hEq]; exact (Below.refl _ _).alloc (Nat.le_refl _) _
  have e0 := (hE.cell (p := ⟨p, off, none⟩) hp).trans (hcells 0 (by omega))
  have e1 := (hE.cell (p := ⟨p, off + 1, none⟩) hp).trans (hcells 1 (by omega))
  have e2 := (hE.cell (p := ⟨p, off + 2, none⟩) hp).trans (hcells 2 (by omega))
  have e3 := (hE.cell (p := ⟨p, off + 3, none⟩) hp).trans (hcells 3 (by omega))
  have e4 := (hE.cell (p := ⟨p, off + 4, none⟩) hp).trans (hcells 4 (by omega))
  rw [hEq] at e0 e1 e2 e3 e4
  clear hcells
  have hat : ∀ w, (Instr.arrayAt 104 (.slice (some ⟨p, off, none⟩) 5 cb)).run Tryz.prog w = .ok (.pointer (some ⟨p, off, none⟩)) w := fun w => run_arrayAt w 104 _ 5 _ 5 cb Tryz.underlying104 (Nat.le_refl _)
  refine (callsIn_wide (n := 9)).1 (callsIn_of_wp_marks Tryz.func50 rfl trivial (wpIn_wide.2 ?_) rfl)
  simp only [Tryz.ntmps50, List.size_toArray, List.length_cons, List.length_nil, Nat.reduceAdd, Nat.reduceSub, Array.replicate_succ, Array.replicate_zero, List.push_toArray, List.append_toArray, List.nil_append, List.cons_append]
  go_wp2_with (go_at_call 75; refine (implExtensions_any _ _ _ _ _ _ b _).mono ?_; rintro e w1 ⟨rfl, hw1⟩)
  subst hw1
  obtain ⟨W0, hW0⟩ : ∃ W0, W0 = ((((w.alloc (.cells #[.bool false] 4)).alloc (.cells #[.slice Q fs.length d] 25)).alloc (.cells #[.slice R l.length q] 28)).alloc (.cells #[.int .i64 (at5 b 0), .int .i64 (at5 b 1), .int .i64 (at5 b 2), .int .i64 (at5 b 3), .int .i64 (at5 b 4)] 104)) := ⟨_, rfl⟩
  have hb0 : Below w.heap.size w W0 := by rw [hW0]; exact below_more (below_more (below_more (below_more (Below.refl _ _) _) _) _) _
  have hz0 : W0.heap.size = w.heap.size + 4 := by rw [hW0]; simp
  have x0 : W0.cell? ⟨w.heap.size + 1, 0, none⟩ = some (.slice Q fs.length d) := by rw [hW0]; simp [go_sem]
  have x1 : W0.cell? ⟨w.heap.size + 2, 0, none⟩ = some (.slice R l.length q) := by rw [hW0]; simp [go_sem]
  have x2 : BoxA (w.heap.size + 3) b W0 := by
    rw [hW0]
    have h9 := BoxA.new (((w.alloc (.cells #[.bool false] 4)).alloc (.cells #[.slice Q fs.length d] 25)).alloc (.cells #[.slice R l.length q] 28)) b
    simpa using h9
  have x3 : Boxed W0 w.heap.size 4 (.bool false) := by rw [hW0]; exact (((Boxed.new w 4 (.bool false)).alloc _).alloc _).alloc _
  rw [← hW0]
  refine (wpIn_wide (n := 9)).1 (wpIn_rangeFunc_ownH rfl (by decide) (gf := 115) (lb := #[.pointer (some ⟨w.heap.size + 1, 0, none⟩), .pointer (some ⟨w.heap.size + 2, 0, none⟩), .pointer (some ⟨w.heap.size + 3, 0, none⟩)]) rfl trivial (enters_of Tryz.func115 (by kernel_rfl) rfl)
    (implExtensions_stops (9 - 1) fs hfw l hl _ _ b hb5 w.heap.size (w.heap.size + 1) (w.heap.size + 2) (w.heap.size + 3) W0 hb0.size (HF.out.below hb0 (Nat.le_refl _)) (HA.out.below hb0 (Nat.le_refl _)) (by omega) x0 (by omega) x1 x2) Kp.trans (Kp.book (by omega)) (Below.refl _ _) (fun _ => rfl)
    (fun (pre : List (List Int)) W => pre = [] ∧ Boxed W w.heap.size 4 (.bool false) ∧ Below w.heap.size w W)
    (fun c (pre : List (List Int)) W => (c = .ret ∧ 0 < pre.length) ∧ Boxed W w.heap.size 4 (.bool true) ∧ Below w.heap.size w W)
    (OwnFrom.and (ownFrom_pure _ (fun (pre : List (List Int)) => pre = [])) (OwnFrom.and (Own.from (boxed_own _ _ (fun _ => .bool false)) _) (ownFrom_below (Nat.le_refl _) (by omega))))
    (fun c => OwnFrom.and (ownFrom_pure _ (fun (pre : List (List Int)) => c = .ret ∧ 0 < pre.length)) (OwnFrom.and (Own.from (boxed_own _ _ (fun _ => .bool true)) _) (ownFrom_below (Nat.le_refl _) (by omega))))
    ⟨rfl, x3, hb0⟩
    (fun x a' _ => a' = { tmps := #[.slice Q fs.length d, .slice R l.length q, .slice (some ⟨p, off, none⟩) 5 cb, undef, undef, undef, .pointer (some ⟨w.heap.size, 0, none⟩), .slice Q fs.length d, .slice R l.length q, .slice (some ⟨p, off, none⟩) 5 cb, .pointer (some ⟨p, off, none⟩), bAgg b, .func (.func 115) #[] #[.pointer (some ⟨w.heap.size + 1, 0, none⟩), .pointer (some ⟨w.heap.size + 2, 0, none⟩), .pointer (some ⟨w.heap.size + 3, 0, none⟩)], bAgg x], defers := [] }) (fun _ _ _ _ _ _ hs _ _ => hs) ?assign ?body ?done ?stop)
  case assign =>
    intro lp pre x W K hi hK
    gi_wp2
    exact hK _ _ (KeepsFrom.refl _ _) (Kp.refl _ _) hi (by simp)
  case body =>
    rintro lp pre x a' W hlp _ ⟨rfl, hb, hB⟩ rfl hlt
    have hc := hb.cell
    have hf := hb.frozen
    gi_wp2
    exact ⟨(KeepsOthers.setCell _ _ _).from _, ⟨rfl, by simp⟩, hb.set _, hB.setCell (p := ⟨w.heap.size, 0, none⟩) (Nat.le_refl _) _⟩
  case done =>
    rintro D xs W hD hxs ⟨rfl, hb, hB⟩ hK
    have hc := hb.cell
    have hf := hb.frozen
    have HQ := Lib.hid (show decide (0 < (walkM fs l b).length) = false by rw [← hxs]; rfl)
    go_wp2
    have hK2 := (KeepsOthers.setCell W ⟨w.heap.size, 0, none⟩ (.bool false)).same D _ hK rfl
    have hcf := cell_kept (hb.set (.bool false)).cell (grownBy_putObj' _ D (.deferred none)) (fun r e => by cases e; exact ⟨_, hK2, rfl⟩)
    refine ⟨by simp, .inl ⟨_, _, rfl, run_takeDeferred hK2, ?_⟩⟩
    exact ⟨.bool false, by simp [results, Tryz.results50, go_sem, hcf], by rw [HQ.out], (hB.setCell (p := ⟨w.heap.size, 0, none⟩) (Nat.le_refl _) _).trans (belowK_b (w := w) (Nat.le_refl _) _ D _ _ (by omega) hK2 rfl rfl)⟩
  case stop =>
    rintro D c pre W hD hp ⟨⟨rfl, h0⟩, hb, hB⟩ hK
    have HQ := Lib.hid (show decide (0 < (walkM fs l b).length) = true from decide_eq_true (Nat.lt_of_lt_of_le h0 hp.length_le))
    refine wpIn_wide.2 ?_
    go_wp2
    have hcf := cell_kept hb.cell (grownBy_putObj' _ D (.deferred none)) (fun r e => by cases e; exact ⟨_, hK, rfl⟩)
    refine ⟨by simp, .inl ⟨_, _, rfl, run_takeDeferred hK, ?_⟩⟩
    exact ⟨.bool true, by simp [results, Tryz.results50, go_sem, hcf], by rw [HQ.out], hB.trans (belowK_b (w := w) (Nat.le_refl _) _ D _ _ (by omega) hK rfl rfl)⟩

theorem okM_fit {x : Inst} {l : List Atm} (hlw : AtomS_wf l) (h : okM x l = true) : ∀ a ∈ l, AtmFit x.facts a := by
  intro a ha
  have hv := okM_at h a ha
  obtain ⟨i, hi, rfl⟩ := List.getElem_of_mem ha
  refine ⟨hlw i hi, fun k hk => ?_, fun f hf e => ?_⟩
  · have := (atomOk_t hv _ (List.getElem_mem hk)).2
    omega
  · have h1 := (atomOk_parts hv).2.2.1
    have h2 := (factOk_parts (((instOk_iff x).1 (okM_inst h)).1 f hf).1).2.2.1
    rw [e] at h1
    omega

set_option maxHeartbeats 1600000 in
set_option maxRecDepth 100000 in
theorem implBinds_any (b vars : List Int) (vb vv : Value) (w : World) (hb : IntsAt w w.heap.size vb b) (hv : IntsAt w w.heap.size vv vars) :
    Calls Tryz.prog 34 #[vb, vv] w fun e w' => e = .returned (.bool (bindsOk b vars)) ∧ w = w' := by
  have HB := Lib.hid hb
  have HV := Lib.hid hv
  obtain ⟨S, t, rfl, ht1, ht2, -, -⟩ := hb
  obtain ⟨P, c, rfl, hc1, hc2, -, -⟩ := hv
  unfold maxLen at ht2 hc2
  go_enter Tryz.func34, Tryz.ntmps34
  go_wp2
  go_loop [9] (fun i => ∃ k : Nat, k ≤ b.length ∧ i = .int .i64 k ∧ Hid (∀ j, j < k → (decide ((j : Int) ∈ vars) != decide (b.getD j 0 = 10)) = true)) (fun i => b.length - (intOf i).toNat)
  case atStart => exact ⟨0, by omega, rfl, Lib.hid (fun j hj => by omega)⟩
  case round =>
    obtain ⟨k, hk, rfl, HT⟩ := hrel
    by_cases hlt : k < b.length
    · obtain ⟨q, off, rfl, hq, c0⟩ := IntsAt.elem HB.out k hlt
      have hgd : b.getD k 0 = b[k] := by simp [List.getD, hlt]
      obtain ⟨z, hz⟩ : ∃ z, z = b[k] := ⟨_, rfl⟩
      rw [← hz] at c0 hgd
      clear hz
      cases hin : decide ((k : Int) ∈ vars) with
      | true =>
        have hcon := implContains_at vars (k : Int) true hin _ w HV.out
        by_cases h10 : z = 10
        · have d1 : (z != 10) = false := by rw [h10]; rfl
          have HF := Lib.hid (bindsOk_no k hlt (by rw [hin, hgd, decide_eq_true h10]; rfl))
          clear h10 hgd
          go_wp2_with (go_at_call 70; refine hcon.mono ?_; rintro e w3 ⟨rfl, rfl⟩)
          go_ret
          exact ⟨ret_bool HF.out.symm, rfl⟩
        · have d1 : (z != 10) = true := bne_iff_ne.2 h10
          have HN := Lib.hid (show ∀ j, j < k + 1 → (decide ((j : Int) ∈ vars) != decide (b.getD j 0 = 10)) = true from fun j hj => by
            by_cases e : j = k
            · subst e; rw [hin, hgd, decide_eq_false h10]; rfl
            · exact HT.out j (by omega))
          clear h10 hgd
          go_wp2_with (go_at_call 70; refine hcon.mono ?_; rintro e w3 ⟨rfl, rfl⟩)
          go_round
          case rel => exact ⟨k + 1, by omega, by go_num, HN⟩
          case measure => simp [intOf]; omega
      | false =>
        have hcon := implContains_at vars (k : Int) false hin _ w HV.out
        by_cases h10 : z = 10
        · have d1 : (z != 10) = false := by rw [h10]; rfl
          have HN := Lib.hid (show ∀ j, j < k + 1 → (decide ((j : Int) ∈ vars) != decide (b.getD j 0 = 10)) = true from fun j hj => by
            by_cases e : j = k
            · subst e; rw [hin, hgd, decide_eq_true h10]; rfl
            · exact HT.out j (by omega))
          clear h10 hgd
          go_wp2_with (go_at_call 70; refine hcon.mono ?_; rintro e w3 ⟨rfl, rfl⟩)
          go_round
          case rel => exact ⟨k + 1, by omega, by go_num, HN⟩
          case measure => simp [intOf]; omega
        · have d1 : (z != 10) = true := bne_iff_ne.2 h10
          have HF := Lib.hid (bindsOk_no k hlt (by rw [hin, hgd, decide_eq_false h10]; rfl))
          clear h10 hgd
          go_wp2_with (go_at_call 70; refine hcon.mono ?_; rintro e w3 ⟨rfl, rfl⟩)
          go_ret
          exact ⟨ret_bool HF.out.symm, rfl⟩
    · obtain rfl : k = b.length := by omega
      have HF := Lib.hid (bindsOk_yes HT.out)
      go_wp2
      go_ret
      exact ⟨ret_bool HF.out.symm, rfl⟩

theorem compareInt_at (x y : Int) (r : Int) (h : (if x < y then -1 else if y < x then 1 else 0 : Int) = r) (w : World) : Calls Tryz.prog 153 #[.int .i64 x, .int .i64 y] w fun e w' => e = .returned (.int .i64 r) ∧ w' = w := by
  subst h
  have e1 : (x != x) = false := by simp
  have e2 : (y != y) = false := by simp
  by_cases h1 : x < y
  · rw [if_pos h1]
    have d1 : decide (x < y) = true := decide_eq_true h1
    clear h1
    go_enter Tryz.func153, Tryz.ntmps153
    go_wp2
    go_ret
    exact ⟨rfl, rfl⟩
  · rw [if_neg h1]
    have d1 : decide (x < y) = false := decide_eq_false h1
    by_cases h2 : y < x
    · rw [if_pos h2]
      have d2 : decide (y < x) = true := decide_eq_true h2
      clear h1 h2
      go_enter Tryz.func153, Tryz.ntmps153
      go_wp2
      go_ret
      exact ⟨rfl, rfl⟩
    · rw [if_neg h2]
      have d2 : decide (y < x) = false := decide_eq_false h2
      clear h1 h2
      go_enter Tryz.func153, Tryz.ntmps153
      go_wp2
      go_ret
      exact ⟨rfl, rfl⟩
set_option maxHeartbeats 1600000 in
theorem implInts_any (v u : Value) (a b : List Int) (w : World) (hl : IntsAt w w.heap.size v a) (hm : IntsAt w w.heap.size u b) :
    Calls Tryz.prog 154 #[v, u] w fun e w' => e = .returned (.int .i64 (cmpInts a b)) ∧ w = w' := by
  have HL := Lib.hid hl
  have HM := Lib.hid hm
  obtain ⟨A, c, rfl, hlc, hcm, -⟩ := hl
  obtain ⟨A', c', rfl, hlc', hcm', -⟩ := hm
  unfold maxLen at hcm hcm'
  go_enter Tryz.func154, Tryz.ntmps154
  go_wp2
  go_loopw [11] (fun i wr => ∃ k : Nat, k ≤ a.length ∧ k ≤ b.length ∧ i = .int .i64 k ∧ Hid (CmpTo a b k) ∧ w = wr) (fun i _ => a.length - (intOf i).toNat)
  case atStart => exact ⟨0, by omega, by omega, rfl, Lib.hid (CmpTo.zero a b), rfl⟩
  case round =>
    obtain ⟨k, hk, hk', rfl, HT, rfl⟩ := hrel
    by_cases hlt : k < a.length
    · obtain ⟨p, off, rfl, hb, c0⟩ := IntsAt.elem HL.out k hlt
      by_cases hlt' : k < b.length
      · obtain ⟨p', off', rfl, hb', d0⟩ := IntsAt.elem HM.out k hlt'
        by_cases h1 : a[k] < b[k]
        · have HV := Lib.hid (HT.out.less hlt hlt' h1)
          have hc := compareInt_at a[k] b[k] (-1) (by rw [if_pos h1]) w
          clear h1
          go_wp2_with (go_at_call 153; refine hc.mono ?_; rintro e w1 ⟨rfl, rfl⟩)
          go_ret
          exact ⟨ret_int HV.out.symm, rfl⟩
        · by_cases h2 : b[k] < a[k]
          · have HV := Lib.hid (HT.out.more hlt hlt' h2)
            have hc := compareInt_at a[k] b[k] 1 (by rw [if_neg h1, if_pos h2]) w
            clear h1 h2
            go_wp2_with (go_at_call 153; refine hc.mono ?_; rintro e w1 ⟨rfl, rfl⟩)
            go_ret
            exact ⟨ret_int HV.out.symm, rfl⟩
          · have HV := Lib.hid (HT.out.next hlt hlt' h1 h2)
            have hc := compareInt_at a[k] b[k] 0 (by rw [if_neg h1, if_neg h2]) w
            clear h1 h2
            go_wp2_with (go_at_call 153; refine hc.mono ?_; rintro e w1 ⟨rfl, rfl⟩)
            go_roundw
            case rel => exact ⟨k + 1, by omega, by omega, by go_num, HV, by trivial⟩
            case measure => simp [intOf]; omega
      · have HV := Lib.hid ((HT.out.done (by omega) hk hk').trans ((if_neg (by omega)).trans (if_pos (by omega))))
        go_wp2
        go_ret
        exact ⟨ret_int HV.out.symm, rfl⟩
    · have HV := Lib.hid (HT.out.done (by omega) hk hk')
      by_cases e1 : a.length < b.length
      · have HV' := Lib.hid (HV.out.trans (if_pos e1))
        go_wp2
        go_ret
        exact ⟨ret_int HV'.out.symm, rfl⟩
      · have HV' := Lib.hid (HV.out.trans ((if_neg e1).trans (if_neg (by omega))))
        go_wp2
        go_ret
        exact ⟨ret_int HV'.out.symm, rfl⟩
/-- the first of two numbers that is not zero -/
theorem orInt_any (x y r : Int) (h : (if x = 0 then y else x) = r) (g : Nat) (w : World) (h0 : w.cell? ⟨g, 0, none⟩ = some (.int .i64 x)) (h1 : w.cell? ⟨g, 1, none⟩ = some (.int .i64 y)) :
    Calls Tryz.prog 152 #[.slice (some ⟨g, 0, none⟩) 2 2] w fun e w' => e = .returned (.int .i64 r) ∧ w = w' := by
  subst h
  by_cases hx : x = 0
  · subst hx
    rw [if_pos rfl]
    by_cases hy : y = 0
    · subst hy
      have hn0 : ((0 : Int) != 0) = false := rfl
      go_enter Tryz.func152, Tryz.ntmps152
      go_wp2
      refine wp_loop_rounds 3 ?_
      rw [rounds_succ]
      go_wp2
      rw [rounds_succ]
      go_wp2
      rw [rounds_succ]
      go_wp2
      go_ret
      exact ⟨rfl, rfl⟩
    · have hyb : (y != 0) = true := bne_iff_ne.2 hy
      clear hy
      go_enter Tryz.func152, Tryz.ntmps152
      go_wp2
      refine wp_loop_rounds 2 ?_
      rw [rounds_succ]
      go_wp2
      rw [rounds_succ]
      go_wp2
      go_ret
      exact ⟨rfl, rfl⟩
  · have hxb : (x != 0) = true := bne_iff_ne.2 hx
    rw [if_neg hx]
    clear hx
    go_enter Tryz.func152, Tryz.ntmps152
    go_wp2
    refine wp_loop_rounds 1 ?_
    rw [rounds_succ]
    go_wp2
    go_ret
    exact ⟨rfl, rfl⟩
set_option maxHeartbeats 1600000 in
set_option maxRecDepth 100000 in
theorem implCompareFacts_eq (r s : Int) (v u : Value) (a b : List Int) (w : World) (hl : IntsAt w w.heap.size v a) (hm : IntsAt w w.heap.size u b) :
    Calls Tryz.prog 122 #[.agg #[.int .i64 r, v], .agg #[.int .i64 s, u]] w fun e w' => e = .returned (.int .i64 (cmpFact r a s b)) ∧ Below w.heap.size w w' ∧ ∃ o1 o2 o3, w' = ((w.alloc o1).alloc o2).drew.alloc o3 := by
  have hE : Below w.heap.size w ((w.alloc (.cells #[.int .i64 r, v] 70)).alloc (.cells #[.int .i64 s, u] 70)) := below_more (below_more (Below.refl _ _) _) _
  have hEz : w.heap.size + 2 = ((w.alloc (.cells #[.int .i64 r, v] 70)).alloc (.cells #[.int .i64 s, u] 70)).heap.size := by simp
  have hcl := (hl.below (hE.trans ((Below.refl _ _).drew : Below w.heap.size ((w.alloc (.cells #[.int .i64 r, v] 70)).alloc (.cells #[.int .i64 s, u] 70)) ((w.alloc (.cells #[.int .i64 r, v] 70)).alloc (.cells #[.int .i64 s, u] 70)).drew)) (Nat.le_refl _)).more (show w.heap.size ≤ ((w.alloc (.cells #[.int .i64 r, v] 70)).alloc (.cells #[.int .i64 s, u] 70)).drew.heap.size by show w.heap.size ≤ ((w.alloc (.cells #[.int .i64 r, v] 70)).alloc (.cells #[.int .i64 s, u] 70)).heap.size; omega)
  have hcm := (hm.below (hE.trans ((Below.refl _ _).drew : Below w.heap.size ((w.alloc (.cells #[.int .i64 r, v] 70)).alloc (.cells #[.int .i64 s, u] 70)) ((w.alloc (.cells #[.int .i64 r, v] 70)).alloc (.cells #[.int .i64 s, u] 70)).drew)) (Nat.le_refl _)).more (show w.heap.size ≤ ((w.alloc (.cells #[.int .i64 r, v] 70)).alloc (.cells #[.int .i64 s, u] 70)).drew.heap.size by show w.heap.size ≤ ((w.alloc (.cells #[.int .i64 r, v] 70)).alloc (.cells #[.int .i64 s, u] 70)).heap.size; omega)
  have G0 := Aft.cell (B := ((w.alloc (.cells #[.int .i64 r, v] 70)).alloc (.cells #[.int .i64 s, u] 70)).heap.size) (by omega) (show ((w.alloc (.cells #[.int .i64 r, v] 70)).alloc (.cells #[.int .i64 s, u] 70)).cell? ⟨w.heap.size, 0, none⟩ = some (.int .i64 r) by simp [go_sem])
  have G1 := Aft.cell (B := ((w.alloc (.cells #[.int .i64 r, v] 70)).alloc (.cells #[.int .i64 s, u] 70)).heap.size) (by omega) (show ((w.alloc (.cells #[.int .i64 r, v] 70)).alloc (.cells #[.int .i64 s, u] 70)).cell? ⟨w.heap.size, 1, none⟩ = some (v) by simp [go_sem])
  have G2 := Aft.cell (B := ((w.alloc (.cells #[.int .i64 r, v] 70)).alloc (.cells #[.int .i64 s, u] 70)).heap.size) (by omega) (show ((w.alloc (.cells #[.int .i64 r, v] 70)).alloc (.cells #[.int .i64 s, u] 70)).cell? ⟨w.heap.size + 1, 0, none⟩ = some (.int .i64 s) by simp [go_sem])
  have G3 := Aft.cell (B := ((w.alloc (.cells #[.int .i64 r, v] 70)).alloc (.cells #[.int .i64 s, u] 70)).heap.size) (by omega) (show ((w.alloc (.cells #[.int .i64 r, v] 70)).alloc (.cells #[.int .i64 s, u] 70)).cell? ⟨w.heap.size + 1, 1, none⟩ = some (u) by simp [go_sem])
  obtain ⟨X, hC⟩ : ∃ X : Int, (if r < s then -1 else if s < r then 1 else 0 : Int) = X := ⟨_, rfl⟩
  have HX : Hid ((if X = 0 then cmpInts a b else X) = cmpFact r a s b) := Lib.hid (by
    subst hC; unfold cmpFact
    by_cases h1 : r < s
    · simp [h1]
    · by_cases h2 : s < r <;> simp [h1, h2])
  have HC := Lib.hid hC
  have HB1 := Lib.hid (show Below ((w.alloc (.cells #[.int .i64 r, v] 70)).alloc (.cells #[.int .i64 s, u] 70)).heap.size ((w.alloc (.cells #[.int .i64 r, v] 70)).alloc (.cells #[.int .i64 s, u] 70)) (((w.alloc (.cells #[.int .i64 r, v] 70)).alloc (.cells #[.int .i64 s, u] 70)).drew.alloc (.cells #[.int .i64 X, .int .i64 (cmpInts a b)] 3)) from (Below.refl ((w.alloc (.cells #[.int .i64 r, v] 70)).alloc (.cells #[.int .i64 s, u] 70)).heap.size ((w.alloc (.cells #[.int .i64 r, v] 70)).alloc (.cells #[.int .i64 s, u] 70))).drew.alloc (show ((w.alloc (.cells #[.int .i64 r, v] 70)).alloc (.cells #[.int .i64 s, u] 70)).heap.size ≤ ((w.alloc (.cells #[.int .i64 r, v] 70)).alloc (.cells #[.int .i64 s, u] 70)).drew.heap.size from Nat.le_refl _) _)
  have HEz := Lib.hid hEz
  clear hC hl hm hEz
  go_enter Tryz.func122, Tryz.ntmps122
  go_wp2
  refine wp_region_planL (C := fun w' => ∃ u : Aft ((w.alloc (.cells #[.int .i64 r, v] 70)).alloc (.cells #[.int .i64 s, u] 70)).heap.size ((w.alloc (.cells #[.int .i64 r, v] 70)).alloc (.cells #[.int .i64 s, u] 70)), w' = u.now) (.still 0 (.still 1 (.still 2 (.still 3 (.still 5 (.still 6 (.still 7 (.still 8 (.move true 4 (.move true 9 (.move true 10 (.move true 11 (.still 12 .done) .none) .none) .none) .none))))))))) (by kernel_rfl) (by kernel_rfl) (by kernel_rfl) (fun _ => ⟨⟨_, (Below.refl _ _).drew⟩, rfl⟩) ?_
  iterate 8
    refine plan_look _ rfl rfl ?_
    go_big_quiet_step (fail)
    refine wpQuiet_nil ?_
  refine plan_call _ 153 _ _ _ _ _ rfl _ Tryz.func153 (by kernel_rfl) (by kernel_rfl) ?_ True.intro
  refine (compareInt_at r s X HC.out _).mono ?_
  rintro _ _ ⟨rfl, rfl⟩
  refine ⟨_, rfl, fun _ => ⟨⟨_, (Below.refl _ _).drew⟩, rfl⟩, ?_⟩
  refine plan_put ?_ (by simp only [Act.put, List.setIfInBounds_toArray, List.set_cons_succ, List.set_cons_zero]; rfl)
  refine plan_call _ 154 _ _ _ _ _ rfl _ Tryz.func154 (by kernel_rfl) (by kernel_rfl) ?_ True.intro
  refine (implInts_any v u a b _ hcl hcm).mono ?_
  rintro _ _ ⟨rfl, rfl⟩
  refine ⟨_, rfl, fun _ => ⟨⟨_, (Below.refl _ _).drew⟩, rfl⟩, ?_⟩
  refine plan_put ?_ (by simp only [Act.put, List.setIfInBounds_toArray, List.set_cons_succ, List.set_cons_zero]; rfl)
  refine plan_value (u := .slice (some ⟨((w.alloc (.cells #[.int .i64 r, v] 70)).alloc (.cells #[.int .i64 s, u] 70)).heap.size, 0, none⟩) 2 2) (w' := ((w.alloc (.cells #[.int .i64 r, v] 70)).alloc (.cells #[.int .i64 s, u] 70)).drew.alloc (.cells #[.int .i64 X, .int .i64 (cmpInts a b)] 3)) _ rfl rfl rfl (by simp [go_sem]) (fun _ => ⟨⟨_, HB1.out⟩, rfl⟩) ?_ True.intro
  refine plan_put ?_ (by simp only [Act.put, List.setIfInBounds_toArray, List.set_cons_succ, List.set_cons_zero]; rfl)
  refine plan_call _ 152 _ _ _ _ _ rfl _ Tryz.func152 (by kernel_rfl) (by kernel_rfl) ?_ True.intro
  refine (orInt_any X (cmpInts a b) (cmpFact r a s b) HX.out ((w.alloc (.cells #[.int .i64 r, v] 70)).alloc (.cells #[.int .i64 s, u] 70)).heap.size _ (box_cell ((w.alloc (.cells #[.int .i64 r, v] 70)).alloc (.cells #[.int .i64 s, u] 70)).drew #[.int .i64 X, .int .i64 (cmpInts a b)] _ 0) (box_cell ((w.alloc (.cells #[.int .i64 r, v] 70)).alloc (.cells #[.int .i64 s, u] 70)).drew #[.int .i64 X, .int .i64 (cmpInts a b)] _ 1)).mono ?_
  rintro _ _ ⟨rfl, rfl⟩
  refine ⟨_, rfl, fun _ => ⟨⟨_, HB1.out⟩, rfl⟩, ?_⟩
  refine plan_put ?_ (by simp only [Act.put, List.setIfInBounds_toArray, List.set_cons_succ, List.set_cons_zero]; rfl)
  refine plan_look _ rfl rfl ?_
  go_big_quiet_step (fail)
  refine wpQuiet_nil ?_
  refine plan_done ?_
  go_wp2
  go_ret
  exact ⟨rfl, hE.trans (HB1.out.mono hE.size), _, _, _, rfl⟩
theorem implCompareFacts_any (r s : Int) (v u : Value) (a b : List Int) (w : World) (hl : IntsAt w w.heap.size v a) (hm : IntsAt w w.heap.size u b) :
    Calls Tryz.prog 122 #[.agg #[.int .i64 r, v], .agg #[.int .i64 s, u]] w fun e w' => e = .returned (.int .i64 (cmpFact r a s b)) ∧ Below w.heap.size w w' :=
  (implCompareFacts_eq r s v u a b w hl hm).mono fun _ _ ⟨he, hb, _⟩ => ⟨he, hb⟩
theorem implCompareFacts_c (v : Value) (x : Fct) (u : Value) (y : Fct) (w : World) (h : Fact_at w w.heap.size v x) (_ : Fact_wf x) (_ : Fact_sz x ≤ 1048576) (h' : Fact_at w w.heap.size u y) (_ : Fact_wf y) (_ : Fact_sz y ≤ 1048576) :
    Calls Tryz.prog 122 #[v, u] w fun e w' => e = .returned (.int .i64 (cmpFact x.rel x.vals y.rel y.vals)) ∧ Below w.heap.size w w' := by
  obtain ⟨V, rfl, h⟩ := h
  obtain ⟨U, rfl, h'⟩ := h'
  exact implCompareFacts_any x.rel y.rel V U x.vals y.vals w h h'

end Go.Proofs.YtoapphgahmofhaaGreat
