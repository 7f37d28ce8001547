/-
  Walks and plain lemmas for the laws of this seat: what single Go functions return, for every argument.
-/
import Derived.Test.YtobdijcnfmgidaaMem
import Derived.Test.YtobdijcnfmgidaaInts
import Derived.Test.YtobdijcnfmgidaaDrawR
import Derived.Test.YtobdijcnfmgidaaPlan
import Derived.Test.YtobdijcnfmgidaaAft
import Derived.Test.YtobdijcnfmgidaaInstM
import Derived.Test.YtobdijcnfmgidaaMatF
import Derived.Test.YtobdijcnfmgidaaMatL
import Derived.Test.YtobdijcnfmgidaaCanI
namespace Go.Proofs.Ytobdijcnfmgidaa
open Go.RowKit

set_option maxHeartbeats 3200000 in
set_option maxRecDepth 100000 in
theorem implHasExtension_any (v u : Value) (x : Inst) (l : List Atm) (bv : Value) (b : List Int) (w : World) (hx : Instance_at w w.heap.size v x) (hxw : Instance_wf x) (hl : AtomS_at w w.heap.size u l) (hlw : AtomS_wf l) (hb : IntsAt w w.heap.size bv b) :
    Calls Try.prog 24 #[v, u, bv] w fun e w' => e = .returned (.bool (hasExt x l b)) ∧ Below w.heap.size w w' := by
  have HX := Lib.hid hx
  have HL := Lib.hid hl
  have HB := Lib.hid hb
  obtain ⟨P, c, Q, d, rfl⟩ := Instance_form hx
  have HFS := Lib.hid (show FactS_at w w.heap.size (.slice Q x.facts.length d) x.facts by
    obtain ⟨V1, V2, hv, hR, hF⟩ := hx
    simp only [Value.agg.injEq, Array.mk.injEq, List.cons.injEq, and_true] at hv
    obtain ⟨rfl, rfl⟩ := hv
    exact hF)
  obtain ⟨R, q, rfl, hq1, hq2⟩ := hl.form
  obtain ⟨S, t, rfl, ht1, ht2, -, -⟩ := hb
  unfold maxLen at hq2 ht2
  clear hx hl
  obtain ⟨E, hEq⟩ : ∃ E, E = w.alloc (.cells #[.slice P x.rels.length c, .slice Q x.facts.length d] 27) := ⟨_, rfl⟩
  have hE : Below w.heap.size w E := by rw [hEq]; exact below_more (Below.refl _ _) _
  have X1 : E.cell? ⟨w.heap.size, 1, none⟩ = some (.slice Q x.facts.length d) := by rw [hEq]; simp [go_sem]
  have hEz : w.heap.size < E.heap.size := by rw [hEq]; simp
  have hok := implCan_any _ x _ l E ((HX.out.below hE (Nat.le_refl _)).more hE.size) hxw ((HL.out.below hE (Nat.le_refl _)).more hE.size)
  rw [hEq] at hok
  obtain ⟨ok, hk⟩ : ∃ ok, okM x l = ok := ⟨_, rfl⟩
  rw [hk] at hok
  cases ok with
  | false =>
    have HF := Lib.hid (show hasExt x l b = false by unfold hasExt; rw [hk]; rfl)
    clear hk
    go_enter Try.func24, Try.ntmps24
    go_wp2_with (go_at_call 52; refine hok.mono ?_; rintro e w1 ⟨rfl, hb1⟩)
    rw [← hEq] at hb1
    go_ret
    exact ⟨ret_bool HF.out.symm, hE.trans (hb1.mono hE.size)⟩
  | true =>
    by_cases hb5 : b.length = 5
    · have d5 : ((b.length : Int) == 5) = true := by rw [hb5]; rfl
      have hfit := okM_fit hlw hk
      have HF := Lib.hid (show hasExt x l b = decide (0 < (walkM x.facts l b).length) by unfold hasExt; rw [hk, decide_eq_true hb5]; rfl)
      have hx2 := fun (W : World) (hW : Below w.heap.size w W) => implHasExt_any x.facts hxw.2 l hfit b hb5 (.slice Q x.facts.length d) (.slice R l.length q) (.slice S b.length t) W ((HFS.out.below hW (Nat.le_refl _)).more hW.size) ((HL.out.below hW (Nat.le_refl _)).more hW.size) ((HB.out.below hW (Nat.le_refl _)).more hW.size)
      have HX2 := Lib.hid hx2
      clear hk hb5 hfit hx2
      go_enter Try.func24, Try.ntmps24
      go_wp2_with (first | (go_at_call 52; refine hok.mono ?_; rintro e w1 ⟨rfl, hb1⟩; rw [← hEq] at hb1; have hw1 := hE.trans (hb1.mono hE.size); have x1 := (hb1.cell (p := ⟨w.heap.size, 1, none⟩) hEz).trans X1) | (go_at_call 62; refine (HX2.out _ hw1).mono ?_; rintro e w2 ⟨rfl, hb2⟩))
      go_ret
      exact ⟨ret_bool HF.out.symm, hw1.trans (hb2.mono hw1.size)⟩
    · have d5 : ((b.length : Int) == 5) = false := by rw [beq_eq_false_iff_ne]; omega
      have HF := Lib.hid (show hasExt x l b = false by unfold hasExt; rw [decide_eq_false hb5] <;> simp)
      clear hk hb5
      go_enter Try.func24, Try.ntmps24
      go_wp2_with (go_at_call 52; refine hok.mono ?_; rintro e w1 ⟨rfl, hb1⟩)
      rw [← hEq] at hb1
      go_ret
      exact ⟨ret_bool HF.out.symm, hE.trans (hb1.mono hE.size)⟩
theorem implHasExtension_c (v : Value) (x : Inst) (u : Value) (l : List Atm) (bv : Value) (b : List Int) (w : World) (h : Instance_at w w.heap.size v x) (hw : Instance_wf x) (_ : Instance_sz x ≤ 1048576) (h' : AtomS_at w w.heap.size u l) (hw' : AtomS_wf l) (_ : AtomS_sz l ≤ 1048576) (h'' : IntS_at w w.heap.size bv b) (_ : IntS_wf b) (_ : IntS_sz b ≤ 1048576) :
    Calls Try.prog 24 #[v, u, bv] w fun e w' => e = .returned (.bool (hasExt x l b)) ∧ Below w.heap.size w w' :=
  implHasExtension_any v u x l bv b w h hw h' hw' h''

def InInv (a : Atm) (b : List Int) (Z gs : Nat) (Wc : World) (kv : Value) (wq : World) : Prop :=
  ∃ (k : Nat) (L : List Int), k ≤ a.vals.length ∧ kv = .int .i64 k ∧ Hid (L.length = a.vals.length) ∧ Hid (instL b (a.vals.take k) = some (L.take k)) ∧ Hid (OwnInts Z (.slice (some ⟨gs, 0, none⟩) a.vals.length a.vals.length) L wq) ∧ Hid (Chg (fun q => q = gs) Wc wq)
set_option maxHeartbeats 6400000 in
set_option maxRecDepth 100000 in
theorem implInstantiate_any (v : Value) (a : Atm) (u : Value) (b : List Int) (w : World) (h : Atom_at w w.heap.size v a) (hw : Atom_wf a) (hn : Atom_sz a ≤ 1048576) (h' : IntsAt w w.heap.size u b) (hwb : IntsWf b) :
    Calls Try.prog 22 #[v, u] w fun e w' => ∃ V, e = .returned (.tuple #[.agg #[.int .i64 (Instantiate_r0 a b).rel, V], .bool (Instantiate_ok a b)]) ∧ OwnInts w.heap.size V (Instantiate_r0 a b).vals w' ∧ Below w.heap.size w w' := by
  obtain ⟨V0, rfl, hV⟩ := h
  have HV := Lib.hid hV
  have HB := Lib.hid h'
  obtain ⟨P, c, rfl, hc1, hc2, -⟩ := hV
  obtain ⟨Q, d, rfl, hd1, hd2, -⟩ := h'
  unfold maxLen at hc2 hd2
  have hn1 : a.vals.length ≤ 1048576 := hn
  have hmk := fun w => make_ints w a.vals.length a.vals.length (Nat.le_refl _) hn1
  obtain ⟨E, hEq⟩ : ∃ E, E = ((w.alloc (.cells #[.int .i64 a.rel, .slice P a.vals.length c] 48)).alloc (.cells #[.int .i64 0, .slice none 0 0] 44)) := ⟨_, rfl⟩
  have hE : Below w.heap.size w E := by rw [hEq]; exact below_more (below_more (Below.refl _ _) _) _
  have HEz := Lib.hid (show E.heap.size = w.heap.size + 2 by rw [hEq]; simp)
  have HA0 := Lib.hid (show E.cell? ⟨w.heap.size, 0, none⟩ = some (.int .i64 a.rel) by rw [hEq]; simp [go_sem])
  have HA1 := Lib.hid (show E.cell? ⟨w.heap.size, 1, none⟩ = some (.slice P a.vals.length c) by rw [hEq]; simp [go_sem])
  have HR0 := Lib.hid (show E.cell? ⟨w.heap.size + 1, 0, none⟩ = some (.int .i64 0) by rw [hEq]; simp [go_sem])
  have HR1 := Lib.hid (show E.cell? ⟨w.heap.size + 1, 1, none⟩ = some (.slice none 0 0) by rw [hEq]; simp [go_sem])
  have HRz := Lib.hid (show ∀ o, E.frozen? ⟨w.heap.size + 1, o, none⟩ = false by intro o; rw [hEq]; simp [go_sem])
  go_enter Try.func22, Try.ntmps22
  go_upto_region 1 with fail
  rw [← hEq]
  clear hEq
  go_cut [6] from 9 (fun p wx => ∃ g gs, p = .pointer (some ⟨g, 0, none⟩) ∧ (E.heap.size ≤ g ∧ g < wx.heap.size ∧ E.heap.size ≤ gs ∧ g ≠ gs) ∧ wx.cell? ⟨g, 0, none⟩ = some (.int .i64 a.rel) ∧ wx.cell? ⟨g, 1, none⟩ = some (.slice (some ⟨gs, 0, none⟩) a.vals.length a.vals.length) ∧ (∀ o, wx.frozen? ⟨g, o, none⟩ = false) ∧ OwnInts E.heap.size (.slice (some ⟨gs, 0, none⟩) a.vals.length a.vals.length) (List.replicate a.vals.length 0) wx ∧ Below E.heap.size E wx)
  case first =>
    have a0 := HA0.out
    have a1 := HA1.out
    have hzE : w.heap.size < E.heap.size := by rw [HEz.out]; omega
    go_region
    all_goals go_wp2
    all_goals go_meet
    case rel =>
      have h1 := OwnInts.full E a.vals.length hn1 E.heap.size (Nat.le_refl _)
      have h2 : Below (E.alloc (.cells (madeCells #[.int .i64 0] a.vals.length) 3)).heap.size (E.alloc (.cells (madeCells #[.int .i64 0] a.vals.length) 3)) ((E.alloc (.cells (madeCells #[.int .i64 0] a.vals.length) 3)).alloc (.cells #[.int .i64 a.rel, .slice (some ⟨E.heap.size, 0, none⟩) a.vals.length a.vals.length] 44)).drew := ((Below.refl _ _).alloc (Nat.le_refl _) _).drew
      refine ⟨E.heap.size + 1, E.heap.size, rfl, ⟨by omega, by show _ < (E.heap.push _ |>.push _).size; simp, by omega, by omega⟩, by simp [go_sem], by simp [go_sem], fun o => by simp [go_sem], h1.below h2 (Nat.le_refl _), (below_more (below_more (Below.refl _ _) _) _).drew⟩
    case rel =>
      have h1 := OwnInts.full (E.alloc (.cells #[.int .i64 a.rel, .slice (some ⟨E.heap.size + 1, 0, none⟩) a.vals.length a.vals.length] 44)) a.vals.length hn1 E.heap.size (by simp)
      have h3 : (E.alloc (.cells #[.int .i64 a.rel, .slice (some ⟨E.heap.size + 1, 0, none⟩) a.vals.length a.vals.length] 44)).heap.size = E.heap.size + 1 := by simp
      rw [h3] at h1
      have h2 : Below ((E.alloc (.cells #[.int .i64 a.rel, .slice (some ⟨E.heap.size + 1, 0, none⟩) a.vals.length a.vals.length] 44)).alloc (.cells (madeCells #[.int .i64 0] a.vals.length) 3)).heap.size ((E.alloc (.cells #[.int .i64 a.rel, .slice (some ⟨E.heap.size + 1, 0, none⟩) a.vals.length a.vals.length] 44)).alloc (.cells (madeCells #[.int .i64 0] a.vals.length) 3)) ((E.alloc (.cells #[.int .i64 a.rel, .slice (some ⟨E.heap.size + 1, 0, none⟩) a.vals.length a.vals.length] 44)).alloc (.cells (madeCells #[.int .i64 0] a.vals.length) 3)).drew := (Below.refl _ _).drew
      refine ⟨E.heap.size, E.heap.size + 1, rfl, ⟨by omega, by show _ < (E.heap.push _ |>.push _).size; simp; omega, by omega, by omega⟩, by simp [go_sem], by simp [go_sem], fun o => by simp [go_sem], h1.below h2 (Nat.le_refl _), (below_more (below_more (Below.refl _ _) _) _).drew⟩
  case rest =>
    obtain ⟨g, gs, rfl, ⟨hg1, hg2, hg3, hg4⟩, y0, y1, yz, hO0, hbc⟩ := hcut
    have Y0 := Lib.hid y0
    have Y1 := Lib.hid y1
    have YZ := Lib.hid yz
    have a1 : wc.cell? ⟨w.heap.size, 1, none⟩ = _ := (hbc.cell (p := ⟨w.heap.size, 1, none⟩) (by show w.heap.size < _; rw [HEz.out]; omega)).trans HA1.out
    have hzc := hbc.size
    clear y0 y1 yz
    go_wp2
    clear a1
    go_loopw [19] (fun i wr => InInv a b E.heap.size gs wc i wr) (fun i _ => a.vals.length - (intOf i).toNat)
    case atStart => exact ⟨0, List.replicate a.vals.length 0, by omega, rfl, Lib.hid (by simp), Lib.hid (by simp [instL]), Lib.hid hO0, Lib.hid (Chg.refl _ _)⟩
    case round =>
      obtain ⟨k, L, hk, rfl, HLn, HI, HO, HC⟩ := hrel
      have hbE : Below E.heap.size E wr := hbc.trans (HC.out.below (B := E.heap.size) (fun q hq => by omega) hzc)
      have HWr := Lib.hid (hE.trans (hbE.mono hE.size))
      have y0 := (HC.out.cell (b := g) (o := 0) hg2 (by omega)).trans Y0.out
      have y1 := (HC.out.cell (b := g) (o := 1) hg2 (by omega)).trans Y1.out
      have hgr : g < wr.heap.size := Nat.lt_of_lt_of_le hg2 HC.out.size
      have hzr := HC.out.size
      have a1 : wr.cell? ⟨w.heap.size, 1, none⟩ = _ := (hbE.cell (p := ⟨w.heap.size, 1, none⟩) (by show w.heap.size < _; rw [HEz.out]; omega)).trans HA1.out
      have r0 : wr.cell? ⟨w.heap.size + 1, 0, none⟩ = _ := (hbE.cell (p := ⟨w.heap.size + 1, 0, none⟩) (by show w.heap.size + 1 < _; rw [HEz.out]; omega)).trans HR0.out
      have r1 : wr.cell? ⟨w.heap.size + 1, 1, none⟩ = _ := (hbE.cell (p := ⟨w.heap.size + 1, 1, none⟩) (by show w.heap.size + 1 < _; rw [HEz.out]; omega)).trans HR1.out
      have rz : ∀ o, wr.frozen? ⟨w.heap.size + 1, o, none⟩ = false := fun o => (hbE.frozen (p := ⟨w.heap.size + 1, o, none⟩) (by show w.heap.size + 1 < _; rw [HEz.out]; omega)).trans (HRz.out o)
      by_cases hlt : k < a.vals.length
      · obtain ⟨q0, off0, rfl, hq0, e0⟩ := IntsAt.elem HV.out k hlt
        replace e0 := (HWr.out.cell (p := ⟨q0, off0 + k, none⟩) hq0).trans e0
        have hwt := hw.2 k hlt
        have hSt := instL_stop (a := a) (b := b) k hlt
        have hNx := instL_next (a := a) (b := b) (vs := L.take k) (v := fillT b a.vals[k]) k hlt HI.out
        obtain ⟨t, ht⟩ : ∃ t, t = a.vals[k] := ⟨_, rfl⟩
        rw [← ht] at e0 hwt hSt hNx
        clear ht
        by_cases htb : t < (b.length : Nat)
        · have d1 : decide ((b.length : Int) ≤ t) = false := decide_eq_false (by omega)
          have hit := instT_eq htb
          have hzw := fillT_wf hwb hwt.1 htb
          obtain ⟨z, hz⟩ : ∃ z, z = fillT b t := ⟨_, rfl⟩
          have hgsr : gs < wr.heap.size := (HO.out.lt gs rfl).2
          have hlk : k < L.length := by rw [HLn.out]; exact hlt
          have fz := HO.out.frozen HLn.out k
          have ek := HO.out.cell HLn.out k hlk
          have G1 := Aft.cell (B := wr.heap.size) hgr y1
          have hd : Below wr.heap.size wr wr.drew := (Below.refl _ _).drew
          have hcon := implTermValue_any t b (.slice Q b.length d) wr.drew ((HB.out.below (HWr.out.trans (hd.mono HWr.out.size)) (Nat.le_refl _)).more (Nat.le_trans HWr.out.size hd.size)) hwt.1 (by omega)
          rw [← hz] at hcon hit hNx hzw
          clear hz
          go_upto_region 7 with fail
          refine wp_region_planL (C := fun w' => ∃ u : Aft wr.heap.size wr, w' = u.now) (.still 0 (.still 1 (.still 2 (.still 3 (.still 4 (.move true 5 (.still 6 (.move false 7 .done .none)) .none)))))) (by kernel_rfl) (by kernel_rfl) (by kernel_rfl) (fun _ => ⟨⟨wr.drew, hd⟩, rfl⟩) ?_
          iterate 5
            refine plan_look _ rfl rfl ?_
            go_big_quiet_step (fail)
            refine wpQuiet_nil ?_
          refine plan_call _ 60 _ _ _ _ _ rfl _ Try.func60 (by kernel_rfl) (by kernel_rfl) ?_ True.intro
          refine hcon.mono ?_
          rintro _ w6 ⟨rfl, rfl⟩
          refine ⟨_, rfl, fun _ => ⟨⟨_, hd⟩, rfl⟩, ?_⟩
          refine plan_put ?_ (by simp only [Act.put, List.setIfInBounds_toArray, List.set_cons_succ, List.set_cons_zero]; rfl)
          refine plan_look _ rfl rfl ?_
          go_big_quiet_step (fail)
          refine wpQuiet_nil ?_
          have ek2 : wr.drew.cell? ⟨gs, k, none⟩ = some (.int .i64 L[k]) := ek
          have fz2 : wr.drew.frozen? ⟨gs, k, none⟩ = false := fz
          refine plan_skip (w' := wr.drew.setCell ⟨gs, k, none⟩ (.int .i64 z)) _ rfl rfl rfl (by simp [go_sem, ek2, fz2]) (fun e => by cases e) ?_ True.intro
          refine plan_put ?_ (by simp only [Act.put]; rfl)
          refine plan_done ?_
          have HO7 := Lib.hid ((HO.out.below hd (Nat.le_refl _)).set HLn.out k z)
          have HC7 := Lib.hid ((HC.out.then_below (hd.mono hzr)).setCell (p := ⟨gs, k, none⟩) rfl (.int .i64 z))
          have c7 : (wr.drew.setCell ⟨gs, k, none⟩ (.int .i64 z)).cell? ⟨gs, k, none⟩ = some (.int .i64 z) := World.cell?_setCell_same (w := wr.drew) (a := ⟨gs, k, none⟩) (v := .int .i64 z) ek2
          obtain ⟨w7, hw7⟩ : ∃ w7, w7 = wr.drew.setCell ⟨gs, k, none⟩ (.int .i64 z) := ⟨_, rfl⟩
          rw [← hw7] at HO7 HC7 c7 ⊢
          clear hw7 a1 r0 r1 rz y0 y1 hcon G1 ek fz e0 ek2 fz2
          have hbE7 : Below E.heap.size E w7 := hbc.trans (HC7.out.below (B := E.heap.size) (fun q hq => by omega) hzc)
          have y1 := (HC7.out.cell (b := g) (o := 1) hg2 (by omega)).trans Y1.out
          have HW7 := Lib.hid (hE.trans (hbE7.mono hE.size))
          cases hvz : validV z with
          | false =>
            have hvv := implIsValidValue_at z false hvz w7 hzw.1 hzw.2
            have HF := Lib.hid (inst_no (hSt (by rw [hit, hvz]; rfl)))
            have a1 : w7.cell? ⟨w.heap.size, 1, none⟩ = _ := (hbE7.cell (p := ⟨w.heap.size, 1, none⟩) (by show w.heap.size < _; rw [HEz.out]; omega)).trans HA1.out
            have r0 : w7.cell? ⟨w.heap.size + 1, 0, none⟩ = _ := (hbE7.cell (p := ⟨w.heap.size + 1, 0, none⟩) (by show w.heap.size + 1 < _; rw [HEz.out]; omega)).trans HR0.out
            have r1 : w7.cell? ⟨w.heap.size + 1, 1, none⟩ = _ := (hbE7.cell (p := ⟨w.heap.size + 1, 1, none⟩) (by show w.heap.size + 1 < _; rw [HEz.out]; omega)).trans HR1.out
            have rz : ∀ o, w7.frozen? ⟨w.heap.size + 1, o, none⟩ = false := fun o => (hbE7.frozen (p := ⟨w.heap.size + 1, o, none⟩) (by show w.heap.size + 1 < _; rw [HEz.out]; omega)).trans (HRz.out o)
            clear hNx hSt hit hvz
            go_wp2_with (go_at_call 61; refine hvv.mono ?_; rintro e w3 ⟨rfl, rfl⟩)
            refine bodyPost_ret (v := .tuple #[.agg #[.int .i64 0, .slice none 0 0], .bool false]) (by simp [results, Try.results22, go_sem, r0, r1]) rfl ⟨.slice none 0 0, by rw [HF.out.1, HF.out.2], by rw [HF.out.1]; exact OwnInts.nil _ _, ?_⟩
            exact (HW7.out.setCell (p := ⟨w.heap.size + 1, 0, none⟩) (Nat.le_succ _) _).setCell (p := ⟨w.heap.size + 1, 1, none⟩) (Nat.le_succ _) _
          | true =>
            have hvv := implIsValidValue_at z true hvz w7 hzw.1 hzw.2
            have HN := Lib.hid (hNx (by rw [hit, hvz]; rfl))
            clear hNx hSt hit hvz
            go_wp2_with (go_at_call 61; refine hvv.mono ?_; rintro e w3 ⟨rfl, rfl⟩)
            go_roundw
            case rel => exact ⟨k + 1, L.set k z, by omega, by go_num, Lib.hid (by rw [List.length_set]; exact HLn.out), Lib.hid (by rw [HN.out, List.take_succ_eq_append_getElem (by rw [List.length_set]; exact hlk), List.getElem_set_self, List.take_set_of_le (Nat.le_refl _)]), HO7, HC7⟩
            case measure => simp [intOf]; omega
        · have d1 : decide ((b.length : Int) ≤ t) = true := decide_eq_true (by omega)
          have HF := Lib.hid (inst_no (hSt (instT_off htb)))
          clear hNx hSt
          go_wp2
          refine bodyPost_ret (v := .tuple #[.agg #[.int .i64 0, .slice none 0 0], .bool false]) (by simp [results, Try.results22, go_sem, r0, r1]) rfl ⟨.slice none 0 0, by rw [HF.out.1, HF.out.2], by rw [HF.out.1]; exact OwnInts.nil _ _, ?_⟩
          exact (HWr.out.setCell (p := ⟨w.heap.size + 1, 0, none⟩) (Nat.le_succ _) _).setCell (p := ⟨w.heap.size + 1, 1, none⟩) (Nat.le_succ _) _
      · obtain rfl : k = a.vals.length := by omega
        have HF := Lib.hid (inst_yes (a := a) (b := b) (vs := L) (by have := HI.out; rwa [List.take_of_length_le (Nat.le_refl _), List.take_of_length_le (by rw [HLn.out]; exact Nat.le_refl _)] at this))
        go_wp2
        refine bodyPost_ret (v := .tuple #[.agg #[.int .i64 a.rel, .slice (some ⟨gs, 0, none⟩) a.vals.length a.vals.length], .bool true]) (by simp [results, Try.results22, go_sem, r0, r1]) rfl ⟨_, by rw [HF.out.1, HF.out.2], ?_, ?_⟩
        · rw [HF.out.1]
          exact ((HO.out.chg (((Chg.refl (fun q => q = w.heap.size + 1) wr).setCell (p := ⟨w.heap.size + 1, 0, none⟩) rfl (.int .i64 a.rel)).setCell (p := ⟨w.heap.size + 1, 1, none⟩) rfl _) (fun q hq e => by have := (HO.out.lt q hq).1; have := HEz.out; omega))).mono hE.size
        · exact (HWr.out.setCell (p := ⟨w.heap.size + 1, 0, none⟩) (Nat.le_succ _) _).setCell (p := ⟨w.heap.size + 1, 1, none⟩) (Nat.le_succ _) _
theorem inst_sz (a : Atm) (b : List Int) : (Instantiate_r0 a b).vals.length ≤ a.vals.length := by
  unfold Instantiate_r0
  split
  · rename_i vs h; exact Nat.le_of_eq (instL_len _ _ h)
  · exact Nat.zero_le _
theorem implInstantiate_c (v : Value) (a : Atm) (u : Value) (b : List Int) (w : World) (h : Atom_at w w.heap.size v a) (hw : Atom_wf a) (hn : Atom_sz a ≤ 1048576) (h' : IntS_at w w.heap.size u b) (hw' : IntS_wf b) (_ : IntS_sz b ≤ 1048576) :
    Calls Try.prog 22 #[v, u] w fun e w' => ∃ r0, e = .returned (.tuple #[r0, .bool (Instantiate_ok a b)]) ∧ Fact_own w.heap.size w'.heap.size r0 (Instantiate_r0 a b) w' ∧ Fact_sz (Instantiate_r0 a b) ≤ 1048576 ∧ Below w.heap.size w w' :=
  (implInstantiate_any v a u b w h hw hn h' hw').mono fun _ _ ⟨V, he, ho, hb⟩ => ⟨_, he, ⟨V, rfl, IntsO.of ho⟩, by unfold Fact_sz; have h1 := inst_sz a b; have h2 : a.vals.length ≤ 1048576 := hn; omega, hb⟩

end Go.Proofs.Ytobdijcnfmgidaa
