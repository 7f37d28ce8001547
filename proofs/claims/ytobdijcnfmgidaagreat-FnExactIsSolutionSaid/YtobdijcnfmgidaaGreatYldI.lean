/-
  Walks and plain lemmas for the laws of this seat: what single Go functions return, for every argument.
-/
import Derived.Test.YtobdijcnfmgidaaGreatPlan
import Derived.Test.YtobdijcnfmgidaaGreatTyAtom
import Derived.Test.YtobdijcnfmgidaaGreatFact
import Derived.Test.YtobdijcnfmgidaaGreatKpM
import Derived.Test.YtobdijcnfmgidaaGreatMatM
import Derived.Test.YtobdijcnfmgidaaGreatChI2
namespace Go.Proofs.YtobdijcnfmgidaaGreat
open Go.RowKit

/-- what a call of the recursive iterator comes to -/
def GivesExt (n₀ : Nat) (fs : List Fct) (l : List Atm) (b : List Int) (pre : List (List Int)) (J Jx : List (List Int) → World → Prop) (W : World) (e : Ending) (W' : World) : Prop :=
  (e = .returned (.bool true) ∧ J (pre ++ walkM fs l b) W' ∧ Kp n₀ W W') ∨ (e = .returned (.bool false) ∧ ∃ q, q <+: walkM fs l b ∧ Jx (pre ++ q) W')
/-- an atom that may be laid against the facts -/
def AtmFit (fs : List Fct) (a : Atm) : Prop := Atom_wf a ∧ (∀ (k : Nat) (hk : k < a.vals.length), a.vals[k] < 5) ∧ ∀ f ∈ fs, a.rel = f.rel → a.vals.length = f.vals.length
def ExtInv (n₀ : Nat) (fs : List Fct) (a : Atm) (r : List Atm) (b : List Int) (pre : List (List Int)) (J : List (List Int) → World → Prop) (W : World) (iv : Value) (wr : World) : Prop :=
  ∃ k : Nat, k ≤ fs.length ∧ iv = .int .i64 k ∧ Hid (J (pre ++ (fs.take k).flatMap (walkF fs a r b)) wr) ∧ Hid (Kp n₀ W wr) ∧ Hid (BoxA W.heap.size b wr)
set_option maxHeartbeats 6400000 in
set_option maxRecDepth 100000 in
theorem implYield_nil (lp : Nat) (fs : List Fct) (vF vA : Value) (n₀ N : Nat) (J Jx : List (List Int) → World → Prop)
    (hJ : ∀ s W W', J s W → Below W.heap.size W W' → J s W')
    (hY : ∀ m pre x W, J pre W → pre.length < N → YieldAt Fence.wide m Tryz.prog lp #[bAgg x] W fun e W' =>
      (e = .returned (.bool true) ∧ J (pre ++ [x]) W' ∧ Kp n₀ W W') ∨ (e = .returned (.bool false) ∧ Jx (pre ++ [x]) W'))
    (b : List Int) (pre : List (List Int)) (W : World) (hn : n₀ ≤ W.heap.size) (hA : AtomS_at W n₀ vA []) (hJ0 : J pre W) (hN : pre.length < N) :
    Calls Tryz.prog 139 #[vF, vA, bAgg b, .func (.yield lp) #[] #[]] W (GivesExt n₀ fs [] b pre J Jx W) := by
  obtain ⟨R, q, rfl, hq1, hq2⟩ := hA.form
  clear hA
  refine (callsIn_wide (n := 3)).1 ?_
  obtain ⟨W1, hW1⟩ : ∃ W1, W1 = W.alloc (.cells #[.int .i64 (at5 b 0), .int .i64 (at5 b 1), .int .i64 (at5 b 2), .int .i64 (at5 b 3), .int .i64 (at5 b 4)] 122) := ⟨_, rfl⟩
  have hb1 : Below W.heap.size W W1 := by rw [hW1]; exact (Below.refl _ _).alloc (Nat.le_refl _) _
  obtain ⟨fn, tmps, assign, body, hy, hR⟩ := hY (3 - 1) pre b W1 (hJ _ _ _ hJ0 hb1) hN
  rw [hW1] at hy
  have FIN : ∀ e W3, ((e = Ending.returned (.bool true) ∧ J (pre ++ [b]) W3 ∧ Kp n₀ W1 W3) ∨ (e = .returned (.bool false) ∧ Jx (pre ++ [b]) W3)) → GivesExt n₀ fs [] b pre J Jx W e W3 := by
    rintro e W3 (⟨rfl, hj, hk⟩ | ⟨rfl, hx⟩)
    · exact .inl ⟨rfl, hj, (Kp.below hb1 hn).trans hk⟩
    · exact .inr ⟨rfl, [b], List.prefix_refl _, hx⟩
  refine callsIn_of_wp Tryz.func139 rfl trivial ?_ rfl
  simp only [Tryz.ntmps139, List.size_toArray, List.length_cons, List.length_nil, Nat.reduceAdd, Nat.reduceSub, Array.replicate_succ, Array.replicate_zero, List.push_toArray, List.append_toArray, List.nil_append, List.cons_append]
  gi_wp2
  rw [← hW1]
  refine hR.mono ?_
  intro e W3 h
  have hf := FIN e W3 h
  rcases h with ⟨rfl, -⟩ | ⟨rfl, -⟩
  · gi_wp2
    go_ret
    exact hf
  · gi_wp2
    go_ret
    exact hf
set_option maxHeartbeats 6400000 in
set_option maxRecDepth 100000 in
theorem implYield_any (lp : Nat) (fs : List Fct) (hfw : FactS_wf fs) (vF : Value) (n₀ N : Nat) (J Jx : List (List Int) → World → Prop)
    (hJ : ∀ s W W', J s W → Below W.heap.size W W' → J s W')
    (hY : ∀ m pre x W, J pre W → pre.length < N → YieldAt Fence.wide m Tryz.prog lp #[bAgg x] W fun e W' =>
      (e = .returned (.bool true) ∧ J (pre ++ [x]) W' ∧ Kp n₀ W W') ∨ (e = .returned (.bool false) ∧ Jx (pre ++ [x]) W')) (l : List Atm) (hl : ∀ a ∈ l, AtmFit fs a) :
    ∀ (vA : Value) (b : List Int) (pre : List (List Int)) (W : World), b.length = 5 → n₀ ≤ W.heap.size → FactS_at W n₀ vF fs → AtomS_at W n₀ vA l → J pre W → pre.length + (walkM fs l b).length ≤ N →
      Calls Tryz.prog 139 #[vF, vA, bAgg b, .func (.yield lp) #[] #[]] W (GivesExt n₀ fs l b pre J Jx W) := by
  induction l with
  | nil =>
    intro vA b pre W _ hn _ hA hJ0 hN
    exact implYield_nil lp fs vF vA n₀ N J Jx hJ hY b pre W hn hA hJ0 (by simp [walkM] at hN; omega)
  | cons a r ih =>
    intro vA b pre W hb5 hn hF hA hJ0 hN
    have hfa := hl a (by simp)
    have ih := ih (fun x hx => hl x (by simp [hx]))
    obtain ⟨Q, d, rfl, hd1, hd2⟩ := hF.form
    obtain ⟨R, q, rfl, hq1, hq2⟩ := hA.form
    unfold maxLen at hd2 hq2
    rw [List.length_cons] at hA hq1 ⊢
    obtain ⟨b0, off0, rfl, hb0, hA2⟩ := AtomS_at.tail hA
    obtain ⟨_, _, AV, e9, -, c0, c1, hAV⟩ := AtomS_at.elem (l := a :: r) hA 0 (by simp)
    cases e9
    simp only [Nat.zero_mul, Nat.add_zero, List.getElem_cons_zero] at c0 c1 hAV
    have HF := Lib.hid hF
    have HA2 := Lib.hid hA2
    have HAV := Lib.hid hAV
    have HN := Lib.hid hN
    have HM := Lib.hid (walkM_cons fs a r b)
    have HIH := Lib.hid ih
    obtain ⟨_, _, rfl, -⟩ := id hAV
    clear hF hA hA2 hAV hN ih
    obtain ⟨E, hEq⟩ : ∃ E, E = W.alloc (.cells #[.int .i64 (at5 b 0), .int .i64 (at5 b 1), .int .i64 (at5 b 2), .int .i64 (at5 b 3), .int .i64 (at5 b 4)] 122) := ⟨_, rfl⟩
    have hE : Below W.heap.size W E := by rw [hEq]; exact (Below.refl _ _).alloc (Nat.le_refl _) _
    have HBX := Lib.hid (show BoxA W.heap.size b E by rw [hEq]; exact BoxA.new W b)
    have HKE := Lib.hid (Kp.below hE hn)
    have HJE := Lib.hid (hJ _ _ _ hJ0 hE)
    have hEz : W.heap.size < E.heap.size := by rw [hEq]; simp
    go_enter Tryz.func139, Tryz.ntmps139
    go_wp2
    rw [← hEq]
    clear hEq
    go_loopw [21] (fun i wr => ExtInv n₀ fs a r b pre J W i wr) (fun i _ => fs.length - (intOf i).toNat)
    case atStart => exact ⟨0, by omega, rfl, Lib.hid (by simpa using HJE.out), HKE, HBX⟩
    case round =>
      obtain ⟨k, hk, rfl, HJr, HKr, HBr⟩ := hrel
      have hzr : n₀ ≤ wr.heap.size := Nat.le_trans hn HKr.out.low.size
      by_cases hlt : k < fs.length
      · obtain ⟨p0, offp, FV, rfl, hp0, d0, d1, hFV⟩ := FactS_at.elem HF.out k hlt
        replace d0 := (HKr.out.low.cell (p := ⟨p0, offp + k * 2, none⟩) hp0).trans d0
        replace d1 := (HKr.out.low.cell (p := ⟨p0, offp + k * 2 + 1, none⟩) hp0).trans d1
        have HFV := Lib.hid hFV
        obtain ⟨PV, cV, rfl, -⟩ := id hFV
        clear hFV
        go_upto_region 6 with fail
        obtain ⟨W5, e5⟩ : ∃ W5, W5 = wr.alloc (.cells #[.int .i64 fs[k].rel, .slice PV fs[k].vals.length cV] 66) := ⟨_, rfl⟩
        have hb5' : Below wr.heap.size wr W5 := by rw [e5]; exact (Below.refl _ _).alloc (Nat.le_refl _) _
        have x0 : W5.cell? ⟨wr.heap.size, 0, none⟩ = some (.int .i64 fs[k].rel) := by rw [e5]; simp [go_sem]
        have x1 : W5.cell? ⟨wr.heap.size, 1, none⟩ = some (.slice PV fs[k].vals.length cV) := by rw [e5]; simp [go_sem]
        have hz5 : wr.heap.size < W5.heap.size := by rw [e5]; simp
        rw [← e5]
        clear e5 d0 d1
        have HK5 := Lib.hid (HKr.out.trans (Kp.below hb5' hzr))
        have HB5 := Lib.hid (HBr.out.below hb5')
        go_cut [11, 12] from 25 (fun p c wx => ∃ g, p = .pointer (some ⟨g, 0, none⟩) ∧ c = .bool (fitA a fs[k] b).2 ∧ BoxA g (chooseR a fs[k] b) wx ∧ Below W5.heap.size W5 wx)
        case first =>
          have hw5 : W.heap.size < W5.heap.size := HB5.out.lt
          have G0 := Aft.cell (B := W5.heap.size) (Nat.lt_of_lt_of_le hb0 (by omega)) ((HK5.out.low.cell (p := ⟨b0, off0, none⟩) hb0).trans c0)
          have G1 := Aft.cell (B := W5.heap.size) (Nat.lt_of_lt_of_le hb0 (by omega)) ((HK5.out.low.cell (p := ⟨b0, off0 + 1, none⟩) hb0).trans c1)
          have G2 := Aft.cell (B := W5.heap.size) hz5 x0
          have G3 := Aft.cell (B := W5.heap.size) hz5 x1
          have A5 := HB5.out.arr
          have G4 := Aft.cell (B := W5.heap.size) hw5 (A5.1 0 (by omega))
          have G5 := Aft.cell (B := W5.heap.size) hw5 (A5.1 1 (by omega))
          have G6 := Aft.cell (B := W5.heap.size) hw5 (A5.1 2 (by omega))
          have G7 := Aft.cell (B := W5.heap.size) hw5 (A5.1 3 (by omega))
          have G8 := Aft.cell (B := W5.heap.size) hw5 (A5.1 4 (by omega))
          obtain ⟨c, hc⟩ : ∃ c, c = chooseR a fs[k] b := ⟨_, rfl⟩
          have HC := Lib.hid hc
          clear hc
          have HAL := Lib.hid (fun (u : World) (hu : Below W5.heap.size W5 u) => show Atom_at u u.heap.size _ a ∧ Fact_at u u.heap.size _ fs[k] from ⟨⟨_, rfl, (HAV.out.below (HK5.out.low.trans (hu.mono (by omega))) (Nat.le_refl _)).more (Nat.le_trans (by omega) hu.size)⟩, ⟨_, rfl, (HFV.out.below (HK5.out.low.trans (hu.mono (by omega))) (Nat.le_refl _)).more (Nat.le_trans (by omega) hu.size)⟩⟩)
          have hd5 : Below W5.heap.size W5 W5.drew := (Below.refl _ _).drew
          clear A5 x0 x1 c0 c1
          refine wp_region_planL (C := fun w' => ∃ u : Aft W5.heap.size W5, w' = u.now) (.still 0 (.still 1 (.still 2 (.still 3 (.still 4 (.move true 5 (.still 6 (.still 7 (.still 8 (.move true 9 (.move true 10 (.still 11 .done) .none) .none)))) (.move true 9 (.move true 5 (.still 6 (.still 7 (.still 8 (.move true 10 (.still 11 .done) .none)))) .none) .none))))))) (by kernel_rfl) (by kernel_rfl) (by kernel_rfl) (fun _ => ⟨⟨W5.drew, hd5⟩, rfl⟩) ?_
          iterate 5
            refine plan_look _ rfl rfl ?_
            go_big_quiet_step (fail)
            refine wpQuiet_nil ?_
          clear G0 G1 G2 G3 G4 G5 G6 G7 G8
          refine plan_call _ 166 _ _ _ _ _ rfl _ Tryz.func166 (by kernel_rfl) (by kernel_rfl) ?_ ?_
          · have HAT := Lib.hid (HAL.out _ hd5)
            refine (implChooseFact_any _ a _ fs[k] b _ HAT.out.1 hfa.1 HAT.out.2 (hfw k hlt) hb5 hfa.2.1 (hfa.2.2 _ (List.getElem_mem hlt))).mono ?_
            rintro _ w6 ⟨rfl, hb6⟩
            have hb6' : Below W5.heap.size W5 w6 := hd5.trans hb6
            rw [← HC.out]
            refine ⟨_, rfl, fun _ => ⟨⟨_, hb6'⟩, rfl⟩, ?_⟩
            refine plan_put ?_ (by simp only [Act.put, List.setIfInBounds_toArray, List.set_cons_succ, List.set_cons_zero]; rfl)
            iterate 3
              refine plan_look _ rfl rfl ?_
              go_big_quiet_step (fail)
              refine wpQuiet_nil ?_
            have hb7 := hb6'.alloc hb6'.size (.cells #[.int .i64 0, .int .i64 0, .int .i64 0, .int .i64 0, .int .i64 0] 122)
            refine plan_value (u := .pointer (some ⟨w6.heap.size, 0, none⟩)) (w' := w6.alloc (.cells #[.int .i64 0, .int .i64 0, .int .i64 0, .int .i64 0, .int .i64 0] 122)) _ rfl rfl rfl (by simp [go_sem]) (fun _ => ⟨⟨_, hb7⟩, rfl⟩) ?_ True.intro
            refine plan_put ?_ (by simp only [Act.put, List.setIfInBounds_toArray, List.set_cons_succ, List.set_cons_zero]; rfl)
            have HZ7 := Lib.hid (World.alloc_heap_new w6 (.cells #[.int .i64 0, .int .i64 0, .int .i64 0, .int .i64 0, .int .i64 0] 122))
            have hg5 : W5.heap.size ≤ w6.heap.size := hb6'.size
            obtain ⟨g, hg⟩ : ∃ g, g = w6.heap.size := ⟨_, rfl⟩
            rw [← hg] at HZ7 hg5 ⊢
            generalize w6.alloc (.cells #[.int .i64 0, .int .i64 0, .int .i64 0, .int .i64 0, .int .i64 0] 122) = w7 at *
            have hh7 : w7.heap[g]? = some (.cells #[.int .i64 0, .int .i64 0, .int .i64 0, .int .i64 0, .int .i64 0] 122 (0, 0)) := HZ7.out
            have kc0 : w7.cell? ⟨g, 0, none⟩ = some (.int .i64 0) := by simp [World.cell?, hh7]
            have kc1 : w7.cell? ⟨g, 1, none⟩ = some (.int .i64 0) := by simp [World.cell?, hh7]
            have kc2 : w7.cell? ⟨g, 2, none⟩ = some (.int .i64 0) := by simp [World.cell?, hh7]
            have kc3 : w7.cell? ⟨g, 3, none⟩ = some (.int .i64 0) := by simp [World.cell?, hh7]
            have kc4 : w7.cell? ⟨g, 4, none⟩ = some (.int .i64 0) := by simp [World.cell?, hh7]
            have kz : ∀ o, w7.frozen? ⟨g, o, none⟩ = false := fun o => by simp [World.frozen?, hh7]
            have HBA := BoxA.mk5 c hh7
            have hbe := below_set5 hb7 hg5 (.int .i64 (at5 c 0)) (.int .i64 (at5 c 1)) (.int .i64 (at5 c 2)) (.int .i64 (at5 c 3)) (.int .i64 (at5 c 4))
            clear hh7
            refine plan_skip (w' := ((((w7.setCell ⟨g, 0, none⟩ (.int .i64 (at5 c 0))).setCell ⟨g, 1, none⟩ (.int .i64 (at5 c 1))).setCell ⟨g, 2, none⟩ (.int .i64 (at5 c 2))).setCell ⟨g, 3, none⟩ (.int .i64 (at5 c 3))).setCell ⟨g, 4, none⟩ (.int .i64 (at5 c 4))) _ rfl rfl rfl (by simp [go_sem, kc0, kc1, kc2, kc3, kc4, kz]) (fun _ => ⟨⟨_, hbe⟩, rfl⟩) ?_ True.intro
            refine plan_put ?_ (by simp only [Act.put]; rfl)
            refine plan_look _ rfl rfl ?_
            go_big_quiet_step (fail)
            refine wpQuiet_nil ?_
            refine plan_done ?_
            go_wp2
            go_meet
            case rel => exact ⟨g, rfl, rfl, HC.out ▸ HBA, hbe⟩
          · have hb7 := hd5.alloc (Nat.le_refl _) (.cells #[.int .i64 0, .int .i64 0, .int .i64 0, .int .i64 0, .int .i64 0] 122)
            refine plan_value (u := .pointer (some ⟨W5.drew.heap.size, 0, none⟩)) (w' := W5.drew.alloc (.cells #[.int .i64 0, .int .i64 0, .int .i64 0, .int .i64 0, .int .i64 0] 122)) _ rfl rfl rfl (by simp [go_sem]) (fun _ => ⟨⟨_, hb7⟩, rfl⟩) ?_ True.intro
            refine plan_put ?_ (by simp only [Act.put, List.setIfInBounds_toArray, List.set_cons_succ, List.set_cons_zero]; rfl)
            have HZ6 := Lib.hid (World.alloc_heap_new W5.drew (.cells #[.int .i64 0, .int .i64 0, .int .i64 0, .int .i64 0, .int .i64 0] 122))
            have hg5 : W5.heap.size ≤ W5.drew.heap.size := Nat.le_refl _
            obtain ⟨g, hg⟩ : ∃ g, g = W5.drew.heap.size := ⟨_, rfl⟩
            rw [← hg] at HZ6 hg5 ⊢
            generalize W5.drew.alloc (.cells #[.int .i64 0, .int .i64 0, .int .i64 0, .int .i64 0, .int .i64 0] 122) = w6 at *
            have HAT := Lib.hid (HAL.out _ hb7)
            refine plan_call _ 166 _ _ _ _ _ rfl _ Tryz.func166 (by kernel_rfl) (by kernel_rfl) ?_ True.intro
            refine (implChooseFact_any _ a _ fs[k] b _ HAT.out.1 hfa.1 HAT.out.2 (hfw k hlt) hb5 hfa.2.1 (hfa.2.2 _ (List.getElem_mem hlt))).mono ?_
            rintro _ w7 ⟨rfl, hb8⟩
            have HZ7 := Lib.hid ((hb8.block g (Array.getElem?_eq_some_iff.1 HZ6.out).1).trans HZ6.out)
            have hb9 : Below W5.heap.size W5 w7 := hb7.trans (hb8.mono hb7.size)
            clear hb7
            have hb7 := hb9
            rw [← HC.out]
            refine ⟨_, rfl, fun _ => ⟨⟨_, hb7⟩, rfl⟩, ?_⟩
            refine plan_put ?_ (by simp only [Act.put, List.setIfInBounds_toArray, List.set_cons_succ, List.set_cons_zero]; rfl)
            iterate 3
              refine plan_look _ rfl rfl ?_
              go_big_quiet_step (fail)
              refine wpQuiet_nil ?_
            have hh7 : w7.heap[g]? = some (.cells #[.int .i64 0, .int .i64 0, .int .i64 0, .int .i64 0, .int .i64 0] 122 (0, 0)) := HZ7.out
            have kc0 : w7.cell? ⟨g, 0, none⟩ = some (.int .i64 0) := by simp [World.cell?, hh7]
            have kc1 : w7.cell? ⟨g, 1, none⟩ = some (.int .i64 0) := by simp [World.cell?, hh7]
            have kc2 : w7.cell? ⟨g, 2, none⟩ = some (.int .i64 0) := by simp [World.cell?, hh7]
            have kc3 : w7.cell? ⟨g, 3, none⟩ = some (.int .i64 0) := by simp [World.cell?, hh7]
            have kc4 : w7.cell? ⟨g, 4, none⟩ = some (.int .i64 0) := by simp [World.cell?, hh7]
            have kz : ∀ o, w7.frozen? ⟨g, o, none⟩ = false := fun o => by simp [World.frozen?, hh7]
            have HBA := BoxA.mk5 c hh7
            have hbe := below_set5 hb7 hg5 (.int .i64 (at5 c 0)) (.int .i64 (at5 c 1)) (.int .i64 (at5 c 2)) (.int .i64 (at5 c 3)) (.int .i64 (at5 c 4))
            clear hh7
            refine plan_skip (w' := ((((w7.setCell ⟨g, 0, none⟩ (.int .i64 (at5 c 0))).setCell ⟨g, 1, none⟩ (.int .i64 (at5 c 1))).setCell ⟨g, 2, none⟩ (.int .i64 (at5 c 2))).setCell ⟨g, 3, none⟩ (.int .i64 (at5 c 3))).setCell ⟨g, 4, none⟩ (.int .i64 (at5 c 4))) _ rfl rfl rfl (by simp [go_sem, kc0, kc1, kc2, kc3, kc4, kz]) (fun _ => ⟨⟨_, hbe⟩, rfl⟩) ?_ True.intro
            refine plan_put ?_ (by simp only [Act.put]; rfl)
            refine plan_look _ rfl rfl ?_
            go_big_quiet_step (fail)
            refine wpQuiet_nil ?_
            refine plan_done ?_
            go_wp2
            go_meet
            case rel => exact ⟨g, rfl, rfl, HC.out ▸ HBA, hbe⟩
        case rest =>
          obtain ⟨g, rfl, rfl, hBA, hbc⟩ := hcut
          have HKc := Lib.hid (HK5.out.trans (Kp.below hbc (Nat.le_trans hzr (by omega))))
          have HBc := Lib.hid (HB5.out.below hbc)
          have hbw : Below wr.heap.size wr wc := hb5'.trans (hbc.mono (by omega))
          have HJc := Lib.hid (hJ _ _ _ HJr.out hbw)
          clear HJr HBr HK5 HB5 hb5' x0 x1
          cases hq : (fitA a fs[k] b).2 with
          | false =>
            have HW := Lib.hid (show (fs.take (k + 1)).flatMap (walkF fs a r b) = (fs.take k).flatMap (walkF fs a r b) by
              rw [walkT_next fs a r b k hlt]; unfold walkF; rw [if_neg (by rw [hq]; simp), List.append_nil])
            clear hq hbc hbw hBA
            go_upto_region 7 with fail
            refine wp_region_aft (Below.refl wc.heap.size wc) (by kernel_rfl) (by kernel_rfl) ?_
            repeat (go_big_quiet_step (fail))
            refine wpQuiet_nil ?_
            refine aft_end ?_
            intro w2 hh2
            have HJ2 := Lib.hid (hJ _ _ _ HJc.out hh2)
            have HK2 := Lib.hid (HKc.out.trans (Kp.below hh2 (Nat.le_trans hn HKc.out.low.size)))
            have HB2 := Lib.hid (HBc.out.below hh2)
            go_wp2
            go_roundw
            case rel => exact ⟨k + 1, by omega, by go_num, by rw [HW.out]; exact HJ2, HK2, HB2⟩
            case measure => simp [intOf]; omega
          | true =>
            have HC := Lib.hid (show chooseR a fs[k] b = (fitA a fs[k] b).1 by unfold chooseR; rw [if_pos hq])
            obtain ⟨c, hc⟩ : ∃ c, c = (fitA a fs[k] b).1 := ⟨_, rfl⟩
            have hc5 : c.length = 5 := by rw [hc, fitA_len]; exact hb5
            have HW := Lib.hid (show (fs.take (k + 1)).flatMap (walkF fs a r b) = (fs.take k).flatMap (walkF fs a r b) ++ walkM fs r c by
              rw [walkT_next fs a r b k hlt]; unfold walkF; rw [if_pos hq, hc])
            rw [HC.out, ← hc] at hBA
            have HPR := Lib.hid (show (fs.take (k + 1)).flatMap (walkF fs a r b) <+: walkM fs (a :: r) b by
              rw [HM.out]; exact ⟨(fs.drop (k + 1)).flatMap (walkF fs a r b), by rw [← List.flatMap_append, List.take_append_drop]⟩)
            clear hc hq HC
            have hLE : pre.length + ((fs.take k).flatMap (walkF fs a r b)).length + (walkM fs r c).length ≤ N := by
              have h1 := HPR.out.length_le
              rw [HW.out, List.length_append] at h1
              have h2 := HN.out
              omega
            have hA := hBA.arr
            have hS : Holds [((⟨g, 0, none⟩ : Addr), Value.int .i64 (at5 c 0)), (⟨g, 1, none⟩, .int .i64 (at5 c 1)), (⟨g, 2, none⟩, .int .i64 (at5 c 2)), (⟨g, 3, none⟩, .int .i64 (at5 c 3)), (⟨g, 4, none⟩, .int .i64 (at5 c 4))] wc := by
              intro x hx
              simp only [List.mem_cons, List.not_mem_nil, or_false] at hx
              rcases hx with rfl | rfl | rfl | rfl | rfl
              · exact hA.1 0 (by omega)
              · exact hA.1 1 (by omega)
              · exact hA.1 2 (by omega)
              · exact hA.1 3 (by omega)
              · exact hA.1 4 (by omega)
            have g0 := Keep.cell (h0 := hS) (a := ⟨g, 0, none⟩) (v := .int .i64 (at5 c 0)) (by simp)
            have g1 := Keep.cell (h0 := hS) (a := ⟨g, 1, none⟩) (v := .int .i64 (at5 c 1)) (by simp)
            have g2 := Keep.cell (h0 := hS) (a := ⟨g, 2, none⟩) (v := .int .i64 (at5 c 2)) (by simp)
            have g3 := Keep.cell (h0 := hS) (a := ⟨g, 3, none⟩) (v := .int .i64 (at5 c 3)) (by simp)
            have g4 := Keep.cell (h0 := hS) (a := ⟨g, 4, none⟩) (v := .int .i64 (at5 c 4)) (by simp)
            clear hA hBA hbw hbc
            have hd1 : ¬ ((r.length : Int) + 1 < 1) := by omega
            go_upto_region 7 with fail
            refine wp_region_planL (C := fun w' => ∃ u : Keep _ wc hS, w' = u.now) (.still 0 (.still 1 (.still 2 (.still 3 (.still 4 (.still 5 (.still 6 (.move false 7 (.still 8 (.still 9 .done)) .none)))))))) (by kernel_rfl) (by kernel_rfl) (by kernel_rfl) (fun _ => ⟨⟨wc.drew, hS⟩, rfl⟩) ?_
            iterate 7
              refine plan_look _ rfl rfl ?_
              go_big_quiet_step (fail)
              refine wpQuiet_nil ?_
            clear g0 g1 g2 g3 g4
            have hd2 : Below wc.heap.size wc wc.drew := (Below.refl _ _).drew
            have hnc : n₀ ≤ wc.heap.size := Nat.le_trans hn HKc.out.low.size
            refine plan_callG _ 139 _ _ _ _ _ (some (1, true)) rfl rfl _ Tryz.func139 (by kernel_rfl) (by kernel_rfl) ?_ True.intro
            refine (HIH.out _ c (pre ++ (fs.take k).flatMap (walkF fs a r b)) wc.drew hc5 hnc (HF.out.below (HKc.out.low.trans (hd2.mono hnc)) (Nat.le_refl _)) (HA2.out.below (HKc.out.low.trans (hd2.mono hnc)) (Nat.le_refl _)) (hJ _ _ _ HJc.out hd2) (by rw [List.length_append]; exact hLE)).mono ?_
            rintro e w6 (⟨rfl, hj, hk6⟩ | ⟨rfl, z, hz, hx⟩)
            · skip
              rw [List.append_assoc, ← HW.out] at hj
              have HJ6 := Lib.hid hj
              have HKd := HKc.out.trans (Kp.below hd2 hnc)
              have HK6 := Lib.hid (HKd.trans hk6)
              have HB6 := Lib.hid ((HBc.out.below hd2).kp hk6)
              clear hj hk6 HKd
              refine ⟨_, rfl, (fun e => by cases e), ?_⟩
              refine plan_put ?_ (by simp only [Act.put, List.setIfInBounds_toArray, List.set_cons_succ, List.set_cons_zero]; rfl)
              iterate 2
                refine plan_look _ rfl rfl ?_
                go_big_quiet_step (fail)
                refine wpQuiet_nil ?_
              refine plan_done ?_
              go_wp2
              go_roundw
              case rel => exact ⟨k + 1, by omega, by go_num, HJ6, HK6, HB6⟩
              case measure => simp [intOf]; omega
            · skip
              have HEND := Lib.hid (show GivesExt n₀ fs (a :: r) b pre J Jx W (.returned (.bool false)) w6 from .inr ⟨rfl, (fs.take k).flatMap (walkF fs a r b) ++ z, List.IsPrefix.trans (by rw [HW.out]; exact (List.prefix_append_right_inj _).2 hz) HPR.out, by rw [← List.append_assoc]; exact hx⟩)
              clear hx hz
              refine ⟨_, rfl, (fun e => by cases e), ?_⟩
              refine plan_put ?_ (by simp only [Act.put, List.setIfInBounds_toArray, List.set_cons_succ, List.set_cons_zero]; rfl)
              iterate 2
                refine plan_look _ rfl rfl ?_
                go_big_quiet_step (fail)
                refine wpQuiet_nil ?_
              refine plan_done ?_
              go_wp2
              all_goals (go_ret; exact HEND.out)
      · obtain rfl : k = fs.length := by omega
        have HEND := Lib.hid (show GivesExt n₀ fs (a :: r) b pre J Jx W (.returned (.bool true)) wr from .inl ⟨rfl, by rw [HM.out]; have := HJr.out; rwa [List.take_of_length_le (Nat.le_refl _)] at this, HKr.out⟩)
        go_wp2
        go_ret
        exact HEND.out

end Go.Proofs.YtobdijcnfmgidaaGreat
