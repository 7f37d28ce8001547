/-
  Walks and plain lemmas for the laws of this seat: what single Go functions return, for every argument.
-/
import Derived.Deep.Quiet
import Derived.Test.YtmecdjincmkofaaGreatDoorMem
import Derived.Test.YtmecdjincmkofaaGreatDoorInts
import Derived.Test.YtmecdjincmkofaaGreatDoorDraw
import Derived.Test.YtmecdjincmkofaaGreatDoorRels
import Derived.Test.YtmecdjincmkofaaGreatDoorPlan
import Derived.Test.YtmecdjincmkofaaGreatDoorTyInst
import Derived.Test.YtmecdjincmkofaaGreatDoorDrawF
namespace Go.Proofs.YtmecdjincmkofaaGreatDoor
open Go.RowKit

def SbSmall (s : Sbst) : Prop := s.nulls.length = s.vals.length ∧ s.nulls.length ≤ 4 ∧ (∀ z ∈ s.nulls, 0 ≤ z ∧ z ≤ 3) ∧ ∀ z ∈ s.vals, -41 ≤ z ∧ z ≤ 10
theorem SbSmall.wf {s : Sbst} (h : SbSmall s) : Substitution_wf s := by
  refine ⟨fun i hi => ?_, fun i hi => ?_⟩
  · have := h.2.2.1 _ (List.getElem_mem hi); omega
  · have := h.2.2.2 _ (List.getElem_mem hi); omega
theorem SbSmall.sz {s : Sbst} (h : SbSmall s) : Substitution_sz s ≤ 8 := by
  have h1 := h.1
  have h2 := h.2.1
  unfold Substitution_sz IntS_sz; omega
def SbTo4 (k : Nat) (N L : List Int) : Prop := N.length = L.length ∧ N.length ≤ k ∧ (∀ z ∈ N, 0 ≤ z ∧ z ≤ 3) ∧ ∀ z ∈ L, -41 ≤ z ∧ z ≤ 9
set_option maxHeartbeats 6400000 in
set_option maxRecDepth 100000 in
theorem l6Sub_c (p : Nat) (cv : Value) (code : List UInt8) (st : DrawSt) (n : Nat) (hn : n ≤ 4) (w : World) (hC : CurS w p cv code st) :
    Calls Tryz.prog 134 #[.pointer (some ⟨p, 0, none⟩), .int .i64 n] w fun e w' => ∃ V s, e = .returned V ∧ Substitution_own w.heap.size w'.heap.size V s w' ∧ SbSmall s ∧ (∃ st', CurS w' p cv code st') ∧ w.grownBy w' (some p) := by
  have hp := Cur.lt hC
  have hb := belowR_bd code
  obtain ⟨E, hEq⟩ : ∃ E, E = (w.alloc (.cells #[.slice none 0 0, .slice none 0 0] 81)).alloc (.cells #[.slice none 0 0, .slice none 0 0] 81) := ⟨_, rfl⟩
  have hE : Below w.heap.size w E := by rw [hEq]; exact below_more (below_more (Below.refl _ _) _) _
  have HEz := Lib.hid (show w.heap.size + 2 = E.heap.size by rw [hEq]; simp)
  have R0 := Lib.hid (show E.cell? ⟨w.heap.size, 0, none⟩ = some (.slice none 0 0) by rw [hEq]; simp [go_sem])
  have R1 := Lib.hid (show E.cell? ⟨w.heap.size, 1, none⟩ = some (.slice none 0 0) by rw [hEq]; simp [go_sem])
  have RZ := Lib.hid (show ∀ o, E.frozen? ⟨w.heap.size, o, none⟩ = false from fun o => by rw [hEq]; simp [go_sem])
  have y0 : E.cell? ⟨w.heap.size + 1, 0, none⟩ = some (.slice none 0 0) := by rw [hEq]; simp [go_sem]
  have y1 : E.cell? ⟨w.heap.size + 1, 1, none⟩ = some (.slice none 0 0) := by rw [hEq]; simp [go_sem]
  have yz : ∀ o, E.frozen? ⟨w.heap.size + 1, o, none⟩ = false := fun o => by rw [hEq]; simp [go_sem]
  have hCE : CurS E p cv code st := by rw [hEq]; exact Cur.alloc (Cur.alloc hC _) _
  have HE := Lib.hid hE
  go_enter Tryz.func134, Tryz.ntmps134
  go_wp2
  rw [← hEq]
  clear hEq hE
  obtain ⟨g, hg⟩ : ∃ g, g = w.heap.size + 1 := ⟨_, rfl⟩
  rw [← hg] at y0 y1 yz ⊢
  have HG := Lib.hid hg
  have hgw : w.heap.size < g := by omega
  have HEg := Lib.hid (show g + 1 = E.heap.size by have := HEz.out; omega)
  clear hg
  go_loopw [6] (fun i wr => ∃ (k : Nat) (V1 V2 : Value) (N L : List Int) (st' : DrawSt), k ≤ n ∧ i = .int .i64 (k : Nat) ∧ Hid (SbTo4 k N L) ∧ wr.cell? ⟨g, 0, none⟩ = some V1 ∧ wr.cell? ⟨g, 1, none⟩ = some V2 ∧ (∀ o, wr.frozen? ⟨g, o, none⟩ = false) ∧ Hid (Two (g + 1) V1 V2 N L wr) ∧ CurS wr p cv code st' ∧ Hid (Chg (fun q => q = p ∨ q = g) E wr)) (fun i _ => n - (intOf i).toNat)
  case atStart => exact ⟨0, _, _, [], [], _, by omega, rfl, Lib.hid ⟨rfl, by simp, fun z hz => (by cases hz), fun z hz => by cases hz⟩, y0, y1, yz, Lib.hid ⟨OwnInts.nil _ _, OwnInts.nil _ _, fun g hg => by cases hg⟩, hCE, Lib.hid (Chg.refl _ _)⟩
  case round =>
    clear y0 y1 yz hCE
    obtain ⟨k, V1, V2, N, L, st', hk, rfl, HI, y0, y1, yz, HT, hCr, HC⟩ := hrel
    have hC' := HC.out
    have hgr : g + 1 ≤ wr.heap.size := by have h1 := hC'.size; rw [← HEg.out] at h1; exact h1
    obtain ⟨P1, q1, rfl, -, hm1, -⟩ := HT.out.1.at_
    obtain ⟨P2, q2, rfl, -, hm2, -⟩ := HT.out.2.1.at_
    unfold maxLen at hm1 hm2
    have hNl : N.length ≤ 4 := Nat.le_trans HI.out.2.1 (by omega)
    have hLl : L.length ≤ 4 := by have := HI.out.1; omega
    by_cases hlt : k < n
    · clear hC'
      go_wp2_with fail
      refine (l1Once_r p cv code _ _ _ hCr).mono ?_; rintro e w1 ⟨rfl, hC1, hg1⟩
      generalize onceR code st' 2 = b at *
      obtain ⟨bb, st1⟩ := b
      dsimp only at *
      have hch1 : Chg (fun q => q = p) wr w1 := ⟨hg1.os, hg1.tape, hg1.output, hg1.size, fun k hk hn => hg1.block k hk (by intro e; injection e with e; exact hn e)⟩
      have z0 := grown_cell hg1 y0 (by omega)
      have z1 := grown_cell hg1 y1 (by omega)
      have zz := fun o => grown_frozen hg1 (b := g) (o := o) (by omega) (by omega) (yz o)
      have HT1 := Lib.hid (HT.out.chg hch1 (fun k hk => by subst hk; omega))
      have HC1 := Lib.hid (HC.out.trans (hch1.mono fun k hk => .inl hk))
      have hz1 := hg1.size
      have hgr1 : g + 1 ≤ w1.heap.size := by omega
      clear y0 y1 yz hg1 hch1
      cases bb with
      | false =>
        go_wp2
        go_roundw
        case rel => exact ⟨k + 1, _, _, N, L, _, by omega, by go_num, Lib.hid ⟨HI.out.1, by have := HI.out.2.1; omega, HI.out.2.2⟩, z0, z1, zz, HT1, hC1, HC1⟩
        case measure => simp [intOf]; omega
      | true =>
        have hone := OwnInts.one w1 w1.heap.size (k : Int) (Nat.le_refl _)
        have HONE := Lib.hid hone.at_
        have HT2 := Lib.hid (HT1.out.below ((Below.refl w1.heap.size w1).alloc (Nat.le_refl _) (.cells #[.int .i64 (k : Int)] 3)) (Nat.le_refl _))
        have hAl : Below w1.heap.size w1 (w1.alloc (.cells #[.int .i64 (k : Int)] 3)) := (Below.refl _ _).alloc (Nat.le_refl _) _
        have a0 := (hAl.cell (p := ⟨g, 0, none⟩) (by show g < _; omega)).trans z0
        clear hone hAl
        go_wp2_with (at_builtin; refine ints_apps (r := [(k : Int)]) HT2.out.1 rfl _ _ rfl rfl (some ⟨w1.heap.size, 0, none⟩) 1 1 rfl rfl HONE.out (fun h => by cases h) (by simp; omega) (by simp; omega) ?_; intro v5 w5 hO5 hB5 hG5 hN5; have hbA := ((Below.refl (g + 1) w1).alloc hgr1 (.cells #[.int .i64 (k : Int)] 3)).trans hB5; have d0 := (hbA.cell (p := ⟨g, 0, none⟩) (Nat.lt_succ_self _)).trans z0; have d1 := (hbA.cell (p := ⟨g, 1, none⟩) (Nat.lt_succ_self _)).trans z1; have dz := fun o => (hbA.frozen (p := ⟨g, o, none⟩) (Nat.lt_succ_self _)).trans (zz o); have HT5a := Lib.hid (HT2.out.first hO5 hG5 hN5); have HBA5 := Lib.hid hbA; obtain ⟨P3, q3, rfl, -⟩ := hO5.at_; clear hO5 hB5 hG5 hN5 hbA z0 z1 zz a0)
        obtain ⟨WR, hWR⟩ : ∃ WR, WR = w5.setCell ⟨g, 0, none⟩ (.slice P3 (N.length + 1) q3) := ⟨_, rfl⟩
        have x0 : WR.cell? ⟨g, 0, none⟩ = some (.slice P3 (N.length + 1) q3) := by rw [hWR]; simp [go_sem, d0]
        have x1 : WR.cell? ⟨g, 1, none⟩ = some (.slice P2 L.length q2) := by rw [hWR]; simp [go_sem, d1]
        have xz : ∀ o, WR.frozen? ⟨g, o, none⟩ = false := fun o => by rw [hWR]; simp [dz]
        have hbW : Below g w1 WR := by rw [hWR]; exact (show Below g w1 w5 from HBA5.out.mono (by omega)).setCell (p := ⟨g, 0, none⟩) (Nat.le_refl g) _
        have hYW : g + 1 ≤ WR.heap.size := Nat.le_trans hgr1 hbW.size
        have HTW := Lib.hid (show Two (g + 1) (.slice P3 (N.length + 1) q3) (.slice P2 L.length q2) (N ++ [(k : Int)]) L WR by
          have hT := HT5a.out
          rw [show (N ++ [(k : Int)]).length = N.length + 1 by simp] at hT
          rw [hWR]; exact hT.chg ((Chg.refl (fun q => q = g) w5).setCell (p := ⟨g, 0, none⟩) rfl _) (fun k hk => by subst hk; omega))
        have hCW : CurS WR p cv code st1 := Cur.below hC hC1 (hbW.mono (by omega))
        have HCW := Lib.hid (show Chg (fun q => q = p ∨ q = g) E WR by
          rw [hWR]; exact (HC1.out.then_below (by rw [← HEg.out]; exact HBA5.out)).setCell (p := ⟨g, 0, none⟩) (.inr rfl) _)
        rw [← hWR]
        clear hWR d0 d1 dz HT5a HBA5 hbW HT2 HONE HT1 hC1
        have hS : Holds [(⟨g, 1, none⟩, .slice P2 L.length q2)] WR := by
          intro q hq
          simp only [List.mem_cons, List.not_mem_nil, or_false] at hq
          subst hq
          exact x1
        have hSb : ∀ q ∈ [((⟨g, 1, none⟩ : Addr), Value.slice P2 L.length q2)], q.1.block = g := by
          intro q hq
          simp only [List.mem_cons, List.not_mem_nil, or_false] at hq
          subst hq
          rfl
        have HSb := Lib.hid hSb
        clear hSb
        have g0 := Keep.cell (h0 := hS) (a := ⟨g, 1, none⟩) (v := .slice P2 L.length q2) (by simp)
        refine wp_region_planL (C := fun w' => ∃ u : Keep _ WR hS, w' = u.now) (.still 0 (.still 1 (.still 2 (.still 3 (.move true 4 (.move true 5 (.move true 6 (.still 7 (.move false 8 .done .none)) .none) .none) .none))))) (by kernel_rfl) (by kernel_rfl) (by kernel_rfl) (fun _ => ⟨⟨WR.drew, hS⟩, rfl⟩) ?_
        iterate 4
          refine plan_look _ rfl rfl ?_
          go_big_quiet_step (fail)
          refine wpQuiet_nil ?_
        refine plan_call _ 202 _ _ _ _ _ rfl _ Tryz.func202 (by kernel_rfl) (by kernel_rfl) ?_ True.intro
        refine (l4Value_c p cv code st1 n (by omega) (by omega) _ (Cur.drewN hCW 1)).mono ?_
        rintro _ w2 ⟨z, hz1', hz2', rfl, ⟨st2, hC2⟩, hg2⟩
        have hg' : WR.grownBy w2 (some p) := ⟨hg2.os, hg2.tape, hg2.output, hg2.size, hg2.block⟩
        have hK2 := hS.grown hg' (fun q hq => ⟨by rw [HSb.out q hq]; omega, by rw [HSb.out q hq]; intro e; injection e; omega⟩)
        refine ⟨_, rfl, fun _ => ⟨⟨_, hK2⟩, rfl⟩, ?_⟩
        refine plan_put ?_ (by simp only [Act.put, List.setIfInBounds_toArray, List.set_cons_succ, List.set_cons_zero]; rfl)
        have hz2 := hg'.size
        have hAl := (Below.refl (g + 1) w2).alloc (by omega) (.cells #[.int .i64 z] 3)
        refine plan_value (u := .slice (some ⟨w2.heap.size, 0, none⟩) 1 1) (w' := w2.alloc (.cells #[.int .i64 z] 3)) _ rfl rfl rfl (by simp [go_sem]) (fun _ => ⟨⟨_, hK2.below hAl (fun q hq => by rw [HSb.out q hq]; omega)⟩, rfl⟩) ?_ True.intro
        refine plan_put ?_ (by simp only [Act.put, List.setIfInBounds_toArray, List.set_cons_succ, List.set_cons_zero]; rfl)
        have hch2 : Chg (fun q => q = p) WR w2 := ⟨hg'.os, hg'.tape, hg'.output, hg'.size, fun k hk hn => hg'.block k hk (by intro e; injection e with e; exact hn e)⟩
        have HT3 := Lib.hid ((HTW.out.chg hch2 (fun k hk => by subst hk; omega)).below ((Below.refl w2.heap.size w2).alloc (Nat.le_refl _) (.cells #[.int .i64 z] 3)) (Nat.le_refl _))
        have hO3 := HT3.out.2.1
        unfold OwnInts at hO3
        rw [← flat_int] at hO3
        have hr : SliceAt intCell (w2.alloc (.cells #[.int .i64 z] 3)) (w2.heap.size + 1) (.slice (some ⟨w2.heap.size, 0, none⟩) [z].length 1) [z] := by
          refine ⟨_, _, rfl, Nat.le_refl _, by simp [maxLen], fun _ => ⟨_, _, rfl, by omega, ?_⟩, fun h => by cases h⟩
          intro i u hu
          rw [Nat.zero_add, box_cell]
          simpa [intCell] using hu
        refine plan_app intCell 1 8 (r := [z]) (fun x _ u hu => by simp [intCell] at hu; subst hu; rfl) (fun _ => rfl) _ rfl rfl Tryz.underlying55 infoInt rfl (by decide) hO3 _ _ rfl rfl ⟨w2.heap.size, 0, none⟩ 1 1 rfl rfl hr (by simp; omega) (by simp; omega) (by simp; omega) ?_ True.intro
        intro v4 w4 hO4 hB4 hG4 hN4
        have hb4 := hAl.trans hB4
        have hO5 : OwnInts (g + 1) v4 (L ++ [z]) w4 := by
          have := hO4
          rw [flat_int] at this
          simpa [OwnInts] using this
        have HT4 := Lib.hid (HT3.out.second hO5 hG4 hN4)
        obtain ⟨P5, c5, rfl, -⟩ := hO5.at_
        have z0 := (hb4.cell (p := ⟨g, 0, none⟩) (Nat.lt_succ_self _)).trans (grown_cell hg' x0 (by omega))
        have z1 := (hb4.cell (p := ⟨g, 1, none⟩) (Nat.lt_succ_self _)).trans (grown_cell hg' x1 (by omega))
        have zz := fun o => (hb4.frozen (p := ⟨g, o, none⟩) (Nat.lt_succ_self _)).trans (grown_frozen hg' hYW (by omega) (xz o))
        have HB4 := Lib.hid hb4
        have HC2 := Lib.hid hC2
        have HCH2 := Lib.hid hch2
        refine ⟨fun _ => ⟨⟨_, hK2.below hb4 (fun q hq => by rw [HSb.out q hq]; omega)⟩, rfl⟩, ?_⟩
        clear hO5 hb4 hC2 hg' hO4 hB4 hr hO3 hAl hK2 x0 x1 xz hg2 hG4 hN4 hch2 g0
        refine plan_put ?_ (by simp only [Act.put, List.setIfInBounds_toArray, List.set_cons_succ, List.set_cons_zero]; rfl)
        refine plan_look _ rfl rfl ?_
        go_big_quiet_step (fail)
        refine wpQuiet_nil ?_
        refine plan_skip (w' := w4.setCell ⟨g, 1, none⟩ (.slice P5 (L ++ [z]).length c5)) _ rfl rfl rfl (by simp [go_sem, z1, zz]) (fun e => by cases e) ?_ True.intro
        refine plan_put ?_ (by simp only [Act.put]; rfl)
        refine plan_done ?_
        go_wp2
        go_roundw
        case measure => simp [intOf]; omega
        case rel =>
          have hbf : ∀ u, Below w.heap.size w2 (w4.setCell ⟨g, 1, none⟩ u) := fun u => (HB4.out.mono (by omega)).setCell (p := ⟨g, 1, none⟩) (by show w.heap.size ≤ g; omega) _
          refine ⟨k + 1, .slice P3 (N.length + 1) q3, .slice P5 (L ++ [z]).length c5, N ++ [(k : Int)], L ++ [z], st2, by omega, by go_num, Lib.hid ⟨?_, ?_, ?_, ?_⟩, by simp [go_sem, z0], by simp [go_sem, z1], fun o => by simp [zz], Lib.hid ?_, Cur.below hC HC2.out (hbf _), Lib.hid (((HCW.out.trans (HCH2.out.mono fun k hk => .inl hk)).then_below (by rw [← HEg.out]; exact HB4.out)).setCell (p := ⟨g, 1, none⟩) (.inr rfl) _)⟩
          · have := HI.out.1; simp; omega
          · have := HI.out.2.1; simp; omega
          · intro y hy
            rcases List.mem_append.1 hy with h | h
            · exact HI.out.2.2.1 y h
            · rw [List.mem_singleton.1 h]; omega
          · intro y hy
            rcases List.mem_append.1 hy with h | h
            · exact HI.out.2.2.2 y h
            · rw [List.mem_singleton.1 h]; exact ⟨hz1', hz2'⟩
          · exact HT4.out.chg ((Chg.refl (fun q => q = g) w4).setCell (p := ⟨g, 1, none⟩) rfl _) (fun k hk => by subst hk; omega)
    · obtain rfl : k = n := by omega
      have r0 := (hC'.cell (b := w.heap.size) (o := 0) (by rw [← HEg.out]; omega) (by omega)).trans R0.out
      have r1 := (hC'.cell (b := w.heap.size) (o := 1) (by rw [← HEg.out]; omega) (by omega)).trans R1.out
      have rz := fun o => (hC'.frozen (b := w.heap.size) (o := o) (by rw [← HEg.out]; omega) (by omega)).trans (RZ.out o)
      have HGB : Hid (w.grownBy wr (some p)) := by
        have h1 := HE.out
        refine ⟨hC'.os.trans h1.os, hC'.tape.trans h1.tape, hC'.output.trans h1.output, Nat.le_trans h1.size hC'.size, fun k hk hne => (hC'.block k (Nat.lt_of_lt_of_le hk h1.size) ?_).trans (h1.block k hk)⟩
        have h3 : k ≠ p := fun e => hne (by rw [e])
        omega
      clear hC'
      have hfin : ∀ (W : World) (stW : DrawSt) (M : List Int), W.cell? ⟨w.heap.size, 0, none⟩ = some (.slice none 0 0) → W.cell? ⟨w.heap.size, 1, none⟩ = some (.slice none 0 0) → CurS W p cv code stW → w.grownBy W (some p) → Two (g + 1) (.slice P1 N.length q1) (.slice P2 M.length q2) N M W → N.length = M.length → (∀ z ∈ M, -41 ≤ z ∧ z ≤ 10) →
          ∃ s, Substitution_own w.heap.size ((W.setCell ⟨w.heap.size, 0, none⟩ (.slice P1 N.length q1)).setCell ⟨w.heap.size, 1, none⟩ (.slice P2 M.length q2)).heap.size (.agg #[.slice P1 N.length q1, .slice P2 M.length q2]) s ((W.setCell ⟨w.heap.size, 0, none⟩ (.slice P1 N.length q1)).setCell ⟨w.heap.size, 1, none⟩ (.slice P2 M.length q2)) ∧ SbSmall s ∧ (∃ st', CurS ((W.setCell ⟨w.heap.size, 0, none⟩ (.slice P1 N.length q1)).setCell ⟨w.heap.size, 1, none⟩ (.slice P2 M.length q2)) p cv code st') ∧ w.grownBy ((W.setCell ⟨w.heap.size, 0, none⟩ (.slice P1 N.length q1)).setCell ⟨w.heap.size, 1, none⟩ (.slice P2 M.length q2)) (some p) := by
        intro W stW M _ _ hcW hgW hTW hlen hM
        have hbw : Below w.heap.size W ((W.setCell ⟨w.heap.size, 0, none⟩ (.slice P1 N.length q1)).setCell ⟨w.heap.size, 1, none⟩ (.slice P2 M.length q2)) := ((Below.refl _ _).setCell (p := ⟨w.heap.size, 0, none⟩) (Nat.le_refl _) _).setCell (p := ⟨w.heap.size, 1, none⟩) (Nat.le_refl _) _
        have hcw : Chg (fun q => q = w.heap.size) W ((W.setCell ⟨w.heap.size, 0, none⟩ (.slice P1 N.length q1)).setCell ⟨w.heap.size, 1, none⟩ (.slice P2 M.length q2)) := ((Chg.refl (fun q => q = w.heap.size) _).setCell (p := ⟨w.heap.size, 0, none⟩) rfl _).setCell (p := ⟨w.heap.size, 1, none⟩) rfl _
        have hT2 := hTW.chg hcw (fun k hk => by subst hk; omega)
        refine ⟨⟨N, M⟩, ⟨_, _, rfl, (IntsO.of hT2.1).mono (by omega) (Nat.le_refl _), (IntsO.of hT2.2.1).mono (by omega) (Nat.le_refl _), hT2.2.2⟩, ⟨hlen, hNl, fun z hz => HI.out.2.2.1 z hz, hM⟩, ⟨_, Cur.below hC hcW hbw⟩, grown_of_below hgW hbw⟩
      have HFIN := Lib.hid hfin
      clear hfin
      have HLN := Lib.hid (show N.length = L.length from HI.out.1)
      have HLB := Lib.hid (show ∀ z ∈ L, -41 ≤ z ∧ z ≤ 10 from fun z hz => by have := HI.out.2.2.2 z hz; omega)
      by_cases hl0 : 0 < L.length
      · have e0 : decide ((0 : Int) < (L.length : Int)) = true := decide_eq_true (by omega)
        go_wp2_with fail
        refine (l1Once_r p cv code _ _ _ hCr).mono ?_; rintro e w1 ⟨rfl, hC1, hg1⟩
        generalize onceR code st' 14 = b at *
        obtain ⟨bb, st1⟩ := b
        dsimp only at *
        have z0 := grown_cell hg1 y0 (by omega)
        have z1 := grown_cell hg1 y1 (by omega)
        have zz := fun o => grown_frozen hg1 (b := g) (o := o) (by omega) (by omega) (yz o)
        have s0 := grown_cell hg1 r0 (by omega)
        have s1 := grown_cell hg1 r1 (by omega)
        have sz := fun o => grown_frozen hg1 (b := w.heap.size) (o := o) (by omega) (by omega) (rz o)
        have hch1 : Chg (fun q => q = p) wr w1 := ⟨hg1.os, hg1.tape, hg1.output, hg1.size, fun k hk hn => hg1.block k hk (by intro e; injection e with e; exact hn e)⟩
        have HT1 := Lib.hid (HT.out.chg hch1 (fun k hk => by subst hk; omega))
        have HG1 := Lib.hid (HGB.out.trans hg1)
        have hz1 := hg1.size
        clear y0 y1 yz r0 r1 rz hg1 hch1 e0
        cases bb with
        | false =>
          go_wp2
          obtain ⟨s, q1', q2', q3', q4'⟩ := HFIN.out _ _ L s0 s1 hC1 HG1.out HT1.out HLN.out HLB.out
          exact bodyPost_ret (v := .agg #[.slice P1 N.length q1, .slice P2 L.length q2]) (by simp [results, Tryz.results134, go_sem, s0, s1]) rfl ⟨_, s, rfl, q1', q2', q3', q4'⟩
        | true =>
          obtain ⟨qb, cb, hP2, hqb, -⟩ := HT1.out.2.1.form hl0
          injection hP2 with e1 _ e2
          subst e1 e2
          have hS : Holds [(⟨g, 1, none⟩, .slice (some ⟨qb, 0, none⟩) L.length q2)] w1 := by
            intro q hq
            simp only [List.mem_cons, List.not_mem_nil, or_false] at hq
            subst hq
            exact z1
          have hSb : ∀ q ∈ [((⟨g, 1, none⟩ : Addr), Value.slice (some ⟨qb, 0, none⟩) L.length q2)], q.1.block = g := by
            intro q hq
            simp only [List.mem_cons, List.not_mem_nil, or_false] at hq
            subst hq
            rfl
          have HSb := Lib.hid hSb
          clear hSb
          have g0 := Keep.cell (h0 := hS) (a := ⟨g, 1, none⟩) (v := .slice (some ⟨qb, 0, none⟩) L.length q2) (by simp)
          go_wp2_with fail
          refine wp_region_planL (C := fun w' => ∃ u : Keep _ w1 hS, w' = u.now) (.still 0 (.still 1 (.still 2 (.move true 3 (.move true 4 (.still 5 (.move false 6 .done .none)) .none) .none)))) (by kernel_rfl) (by kernel_rfl) (by kernel_rfl) (fun _ => ⟨⟨w1.drew, hS⟩, rfl⟩) ?_
          iterate 3
            refine plan_look _ rfl rfl ?_
            go_big_quiet_step (fail)
            refine wpQuiet_nil ?_
          have hAl3 := (Below.refl (g + 1) w1).drew.alloc (show g + 1 ≤ w1.heap.size by omega) (.cells #[.int .i64 10, .int .i64 (-41)] 3)
          have hK3 := hS.below hAl3 (fun x hx => by rw [HSb.out x hx]; omega)
          refine plan_value (u := .slice (some ⟨w1.heap.size, 0, none⟩) 2 2) (w' := w1.drew.alloc (.cells #[.int .i64 10, .int .i64 (-41)] 3)) _ rfl rfl rfl (by simp [go_sem]) (fun _ => ⟨⟨_, hK3⟩, rfl⟩) ?_ True.intro
          refine plan_put ?_ (by simp only [Act.put, List.setIfInBounds_toArray, List.set_cons_succ, List.set_cons_zero]; rfl)
          refine plan_call _ 190 _ _ _ _ _ rfl _ Tryz.func190 (by kernel_rfl) (by kernel_rfl) ?_ True.intro
          refine (l1PickInt_d p cv code _ [10, -41] (-41) 10 (by decide) (by simp) w1.drew _ (by decide) (by decide) (Cur.lt (Cur.drewN hC1 1)) _ rfl _ _ rfl _ rfl (Cur.alloc (Cur.drewN hC1 1) _)).mono ?_
          rintro _ w5 ⟨z, hz1', hz2', rfl, ⟨st5, hC5⟩, hg5⟩
          have hgd := (World.grownBy_alloc w1.drew _ (some p)).trans hg5
          have hgw' : w1.grownBy w5 (some p) := ⟨hgd.os, hgd.tape, hgd.output, hgd.size, hgd.block⟩
          clear hgd
          have hK5 := hS.grown hgw' (fun x hx => ⟨by rw [HSb.out x hx]; omega, by rw [HSb.out x hx]; intro e; injection e; omega⟩)
          refine ⟨_, rfl, fun _ => ⟨⟨_, hK5⟩, rfl⟩, ?_⟩
          refine plan_put ?_ (by simp only [Act.put, List.setIfInBounds_toArray, List.set_cons_succ, List.set_cons_zero]; rfl)
          have hch5 : Chg (fun q => q = p) w1 w5 := ⟨hgw'.os, hgw'.tape, hgw'.output, hgw'.size, fun k hk hn => hgw'.block k hk (by intro e; injection e with e; exact hn e)⟩
          have hT5 := HT1.out.chg hch5 (fun k hk => by subst hk; omega)
          have u0 := hT5.2.1.cell rfl 0 hl0
          have uz := hT5.2.1.frozen rfl 0
          have z0 := grown_cell hgw' z0 (by omega)
          have z1 := grown_cell hgw' z1 (by omega)
          have s0 := grown_cell hgw' s0 (by omega)
          have s1 := grown_cell hgw' s1 (by omega)
          have sz := fun o => grown_frozen hgw' (b := w.heap.size) (o := o) (by omega) (by omega) (sz o)
          have hset := hT5.2.1.set rfl 0 z
          have hT6 : Two (g + 1) (.slice P1 N.length q1) (.slice (some ⟨qb, 0, none⟩) (L.set 0 z).length q2) N (L.set 0 z) (w5.setCell ⟨qb, 0, none⟩ (.int .i64 z)) := by
            refine ⟨hT5.1.chg ((Chg.refl (fun q => q = qb) w5).setCell (p := ⟨qb, 0, none⟩) rfl _) (fun q hq e => hT5.2.2 q hq (by rw [e]; rfl)), ?_, fun q h1 h2 => hT5.2.2 q h1 h2⟩
            rw [List.length_set]
            exact hset
          have HT6 := Lib.hid hT6
          have HG5 := Lib.hid (HG1.out.trans hgw')
          have HC5 := Lib.hid hC5
          have hqg : g ≠ qb := by omega
          have hqw : w.heap.size ≠ qb := by omega
          clear hT5 hT6 hset hK3 hK5 hAl3 hg5 hgw' hC5 hch5 zz g0
          refine plan_look _ rfl rfl ?_
          go_big_quiet_step (fail)
          refine wpQuiet_nil ?_
          refine plan_skip (w' := w5.setCell ⟨qb, 0, none⟩ (.int .i64 z)) _ rfl rfl rfl (by simp [go_sem, u0, uz]) (fun e => by cases e) ?_ True.intro
          refine plan_put ?_ (by simp only [Act.put]; rfl)
          refine plan_done ?_
          have hcq : Chg (fun q => q = qb) w5 (w5.setCell ⟨qb, 0, none⟩ (.int .i64 z)) := (Chg.refl (fun q => q = qb) w5).setCell (p := ⟨qb, 0, none⟩) rfl _
          have hbq : Below w.heap.size w5 (w5.setCell ⟨qb, 0, none⟩ (.int .i64 z)) := (Below.refl _ _).setCell (p := ⟨qb, 0, none⟩) (by show w.heap.size ≤ qb; omega) _
          have z0 : (w5.setCell ⟨qb, 0, none⟩ (.int .i64 z)).cell? ⟨g, 0, none⟩ = some (.slice P1 N.length q1) := (hcq.cell (b := g) (o := 0) (World.block_lt_of_cell? _ _ z0) hqg).trans z0
          have z1 : (w5.setCell ⟨qb, 0, none⟩ (.int .i64 z)).cell? ⟨g, 1, none⟩ = some (.slice (some ⟨qb, 0, none⟩) L.length q2) := (hcq.cell (b := g) (o := 1) (World.block_lt_of_cell? _ _ z1) hqg).trans z1
          have hwz : w.heap.size < w5.heap.size := World.block_lt_of_cell? _ _ s0
          have s0 := (hcq.cell (b := w.heap.size) (o := 0) hwz hqw).trans s0
          have s1 := (hcq.cell (b := w.heap.size) (o := 1) hwz hqw).trans s1
          have sz := fun o => (hcq.frozen (b := w.heap.size) (o := o) hwz hqw).trans (sz o)
          have HFC := Lib.hid (HFIN.out _ _ (L.set 0 z) s0 s1 (Cur.below hC HC5.out hbq) (grown_of_below HG5.out hbq) HT6.out (by rw [List.length_set]; exact HLN.out) (fun y hy => by
            rcases List.mem_or_eq_of_mem_set hy with h | rfl
            · exact HLB.out y h
            · omega))
          rw [List.length_set] at HFC
          clear hcq hbq HT6
          generalize w5.setCell ⟨qb, 0, none⟩ (.int .i64 z) = wA at *
          go_wp2
          obtain ⟨s, q1', q2', q3', q4'⟩ := HFC.out
          exact bodyPost_ret (v := .agg #[.slice P1 N.length q1, .slice (some ⟨qb, 0, none⟩) L.length q2]) (by simp [results, Tryz.results134, go_sem, s0, s1]) rfl ⟨_, s, rfl, q1', q2', q3', q4'⟩
      · have e0 : decide ((0 : Int) < (L.length : Int)) = false := decide_eq_false (by omega)
        go_wp2
        obtain ⟨s, q1', q2', q3', q4'⟩ := HFIN.out _ _ L r0 r1 hCr HGB.out HT.out HLN.out HLB.out
        exact bodyPost_ret (v := .agg #[.slice P1 N.length q1, .slice P2 L.length q2]) (by simp [results, Tryz.results134, go_sem, r0, r1]) rfl ⟨_, s, rfl, q1', q2', q3', q4'⟩

end Go.Proofs.YtmecdjincmkofaaGreatDoor
