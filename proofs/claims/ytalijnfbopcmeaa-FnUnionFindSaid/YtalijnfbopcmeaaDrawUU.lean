/-
  Walks and plain lemmas for the laws of this seat: what single Go functions return, for every argument.
-/
import Derived.Test.YtalijnfbopcmeaaDrawF
import Derived.Test.YtalijnfbopcmeaaPlan
import Derived.Test.YtalijnfbopcmeaaDrawUL
namespace Go.Proofs.Ytalijnfbopcmeaa
open Go.RowKit

def GivesDU (w : World) (e : Ending) (w' : World) : Prop := ∃ V x a b, e = .returned (.tuple #[V, .int .i64 a, .int .i64 b]) ∧ UnionFind_at w' w'.heap.size V x ∧ UfSmall x ∧ (-41 ≤ a ∧ a ≤ 9) ∧ (-41 ≤ b ∧ b ≤ 9) ∧ Below w.heap.size w w'
set_option maxHeartbeats 3200000 in
set_option maxRecDepth 100000 in
theorem drawUnion_c (cv : Value) (code : List UInt8) (w : World) (hc : CodeAt w w.heap.size cv code) (hlen : code.length ≤ 1048576) :
    Calls Try.prog 13 #[cv] w (GivesDU w) := by
  obtain ⟨m, hm⟩ : ∃ m, m = w.heap.size := ⟨_, rfl⟩
  obtain ⟨E, hEq⟩ : ∃ E, E = w.alloc (.cells #[.slice none 0 0] 26) := ⟨_, rfl⟩
  have hE : Below w.heap.size w E := by rw [hEq]; exact below_more (Below.refl _ _) _
  have HEz := Lib.hid (show m + 1 = E.heap.size by rw [hEq, hm]; simp)
  have Q0 := Lib.hid (show E.cell? ⟨m, 0, none⟩ = some (.slice none 0 0) by rw [hEq, hm]; simp [go_sem])
  have QZ := Lib.hid (show ∀ o, E.frozen? ⟨m, o, none⟩ = false from fun o => by rw [hEq, hm]; simp [go_sem])
  have hcon := l1New_c cv code E (hc.later hE) hlen
  go_enter Try.func13, Try.ntmps13
  go_upto_region 1 with fail
  rw [← hEq, ← hm]
  have HM := Lib.hid hm
  clear hEq hm
  go_wp2_with fail
  refine hcon.mono ?_; rintro e w3 ⟨rfl, hb3, hC3⟩
  clear hcon
  have hp3 := Cur.lt hC3
  have hz3 := hb3.size
  obtain ⟨p, hp⟩ : ∃ p, p = E.heap.size := ⟨_, rfl⟩
  rw [← hp] at hC3 hp3 ⊢
  have HP := Lib.hid hp
  have HB3 := Lib.hid hb3
  clear hp hb3
  go_wp2_with fail
  refine (l8Uf_c p cv code _ _ hC3).mono ?_
  rintro e w4 ⟨V, x, rfl, hO4, hs, ⟨st4, hC4⟩, hg4⟩
  obtain ⟨P, c, rfl⟩ := UnionFind_form (hO4.at_ (Nat.le_refl _))
  have hz4 := hg4.size
  have hmp : m < p := by have h1 := HEz.out; have h2 := HP.out; omega
  have hB4 : Below p E w4 := (HB3.out.mono (by have := HP.out; omega)).grown hg4 (by have := HP.out; omega) (fun k hk => by injection hk with hk; omega)
  have z0 := (hB4.cell (p := ⟨m, 0, none⟩) (by show m < p; omega)).trans Q0.out
  have zz := fun o => (hB4.frozen (p := ⟨m, o, none⟩) (by show m < p; omega)).trans (QZ.out o)
  obtain ⟨g, hg⟩ : ∃ g, g = w4.heap.size := ⟨_, rfl⟩
  obtain ⟨W, hWq⟩ : ∃ W, W = w4.alloc (.cells #[.slice P x.length c] 26) := ⟨_, rfl⟩
  have hAl : Below g w4 W := by rw [hWq]; exact (Below.refl _ _).alloc (by omega) _
  have hWz : W.heap.size = g + 1 := by rw [hWq, hg]; simp
  have y0 : W.cell? ⟨g, 0, none⟩ = some (.slice P x.length c) := by rw [hWq, hg]; simp [go_sem]
  have hpg : p < g := by omega
  have M0 := Lib.hid ((hAl.cell (p := ⟨m, 0, none⟩) (by show m < g; omega)).trans z0)
  have MZ := Lib.hid (show ∀ o, W.frozen? ⟨m, o, none⟩ = false from fun o => (hAl.frozen (p := ⟨m, o, none⟩) (by show m < g; omega)).trans (zz o))
  have hCW : CurS W p cv code st4 := by rw [hWq]; exact Cur.alloc hC4 _
  have HOW := Lib.hid (show UnionFind_own (p + 1) g (.agg #[.slice P x.length c]) x W by
    have h1 := hO4.below hAl (by omega)
    obtain ⟨V1, hV1, h2⟩ := h1
    have h3 : p + 1 ≤ w3.heap.size := hp3
    exact ⟨V1, hV1, IntsO.mono h2 h3 (by omega)⟩)
  have HW0 := Lib.hid (show Below w.heap.size w W from hE.trans ((hB4.trans (hAl.mono (by omega))).mono (by have := HP.out; have := HEz.out; have := HM.out; omega)))
  have HS := Lib.hid hs
  have hxl : 1 ≤ x.length ∧ x.length ≤ 6 := hs.1
  go_upto_region 3 with fail
  rw [← hg, ← hWq]
  clear hg hWq z0 zz hAl hO4 hB4 hg4 hs hC4 hC3
  have hS : Holds [(⟨g, 0, none⟩, .slice P x.length c)] W := by
    intro r hr
    simp only [List.mem_cons, List.not_mem_nil, or_false] at hr
    subst hr
    exact y0
  have HSb : Hid (∀ r ∈ [((⟨g, 0, none⟩ : Addr), Value.slice P x.length c)], r.1.block = g) := by
    intro r hr
    simp only [List.mem_cons, List.not_mem_nil, or_false] at hr
    subst hr
    rfl
  have g0 := Keep.cell (h0 := hS) (a := ⟨g, 0, none⟩) (v := .slice P x.length c) (by simp)
  clear y0
  refine wp_region_planL (C := fun w' => ∃ u : Keep _ W hS, w' = u.now) (.still 0 (.still 1 (.still 3 (.still 4 (.still 5 (.move true 2 (.move true 6 (.move true 7 (.still 9 (.still 10 (.move false 8 .done .none))) .none) .none) (.move true 6 (.move true 2 (.move true 7 (.still 9 (.still 10 (.move false 8 .done .none))) .none) .none) .none))))))) (by kernel_rfl) (by kernel_rfl) (by kernel_rfl) (fun _ => ⟨⟨W.drew, hS⟩, rfl⟩) ?_
  iterate 5
    refine plan_look _ rfl rfl ?_
    go_big_quiet_step (fail)
    refine wpQuiet_nil ?_
  have fin : ∀ (w6 : World) (st6 : DrawSt), W.grownBy w6 (some p) → CurS w6 p cv code st6 → w6.cell? ⟨m, 0, none⟩ = some (.slice none 0 0) ∧ (∀ o, w6.frozen? ⟨m, o, none⟩ = false) ∧
      (∀ a b, (-41 ≤ a ∧ a ≤ 9) → (-41 ≤ b ∧ b ≤ 9) → GivesDU w (.returned (.tuple #[.agg #[.slice P x.length c], .int .i64 a, .int .i64 b])) (w6.setCell ⟨m, 0, none⟩ (.slice P x.length c))) := by
    intro w6 st6 hgd hC6
    have hz6 := hgd.size
    have hB6 : Below p W w6 := Below.grown (Below.refl p W) hgd (by omega) (fun k hk => by injection hk with hk; omega)
    have hst : Chg (Mid m (m + 1)) w6 (w6.setCell ⟨m, 0, none⟩ (.slice P x.length c)) := (Chg.refl _ _).setCell (p := ⟨m, 0, none⟩) ⟨Nat.le_refl _, Nat.lt_succ_self _⟩ _
    have hO6 := (HOW.out.chg (B' := p) (C' := p + 1) (⟨hgd.os, hgd.tape, hgd.output, hgd.size, fun k hk hn => hgd.block k hk (by intro e; injection e with e; subst e; exact hn ⟨Nat.le_refl _, Nat.lt_succ_self _⟩)⟩) (.inr (by omega))).chg hst (.inr (by omega))
    have hB7 := HW0.out.trans (hB6.mono (by have := HM.out; omega))
    refine ⟨(hB6.cell (p := ⟨m, 0, none⟩) (by show m < p; omega)).trans M0.out, fun o => (hB6.frozen (p := ⟨m, o, none⟩) (by show m < p; omega)).trans (MZ.out o), fun a b ha hb => ⟨_, x, a, b, rfl, hO6.at_ (by have := hst.size; omega), HS.out, ha, hb, ?_⟩⟩
    exact hB7.setCell (p := ⟨m, 0, none⟩) (by show w.heap.size ≤ m; have := HM.out; omega) _
  have FIN := Lib.hid fin
  clear fin
  refine plan_call _ 46 _ _ _ _ _ rfl _ Try.func46 (by kernel_rfl) (by kernel_rfl) ?_ ?_
  · skip
    refine (l4Value_c p cv code st4 7 (by omega) (by omega) _ (Cur.drewN hCW 1)).mono ?_
    rintro _ w5 ⟨a, ha1, ha2, rfl, ⟨st5, hC5⟩, hg5⟩
    have hg5' : W.grownBy w5 (some p) := ⟨hg5.os, hg5.tape, hg5.output, hg5.size, hg5.block⟩
    have hK5 := hS.grown hg5' (fun r hr => ⟨by rw [HSb.out r hr]; omega, by rw [HSb.out r hr]; intro e; injection e; omega⟩)
    refine ⟨_, rfl, fun _ => ⟨⟨_, hK5⟩, rfl⟩, ?_⟩
    refine plan_put ?_ (by simp only [Act.put, List.setIfInBounds_toArray, List.set_cons_succ, List.set_cons_zero]; rfl)
    refine plan_value (u := .int .i64 (x.length : Nat)) (w' := w5) _ rfl rfl rfl (by simp [go_sem]) (fun _ => ⟨⟨_, hK5⟩, rfl⟩) ?_ True.intro
    refine plan_put ?_ (by simp only [Act.put, List.setIfInBounds_toArray, List.set_cons_succ, List.set_cons_zero]; rfl)
    refine plan_call _ 46 _ _ _ _ _ rfl _ Try.func46 (by kernel_rfl) (by kernel_rfl) ?_ True.intro
    refine (l4Value_c p cv code st5 (x.length : Nat) (by omega) (by omega) _ hC5).mono ?_
    rintro _ w6 ⟨b, hb1, hb2, rfl, ⟨st6, hC6⟩, hg6⟩
    have hgd := hg5'.trans hg6
    have hK6 := hS.grown hgd (fun r hr => ⟨by rw [HSb.out r hr]; omega, by rw [HSb.out r hr]; intro e; injection e; omega⟩)
    refine ⟨_, rfl, fun _ => ⟨⟨_, hK6⟩, rfl⟩, ?_⟩
    refine plan_put ?_ (by simp only [Act.put, List.setIfInBounds_toArray, List.set_cons_succ, List.set_cons_zero]; rfl)
    obtain ⟨m0, mz, hf⟩ := FIN.out w6 st6 hgd hC6
    have HF := Lib.hid (hf a b ⟨ha1, ha2⟩ ⟨hb1, hb2⟩)
    clear hf hK6 hK5 hg6 hg5 hg5' hgd hC5 hC6 g0
    iterate 2
      refine plan_look _ rfl rfl ?_
      go_big_quiet_step (fail)
      refine wpQuiet_nil ?_
    refine plan_skip (w' := w6.setCell ⟨m, 0, none⟩ (.slice P x.length c)) _ rfl rfl rfl (by simp [go_sem, m0, mz]) (fun e => by cases e) ?_ True.intro
    refine plan_put ?_ (by simp only [Act.put]; rfl)
    refine plan_done ?_
    go_wp2
    refine bodyPost_ret (v := .tuple #[.agg #[.slice P x.length c], .int .i64 a, .int .i64 b]) (by simp [results, Try.results13, go_sem, m0]) rfl HF.out
  · skip
    refine plan_value (u := .int .i64 (x.length : Nat)) (w' := W.drew) _ rfl rfl rfl (by simp [go_sem]) (fun _ => ⟨⟨W.drew, hS⟩, rfl⟩) ?_ True.intro
    refine plan_put ?_ (by simp only [Act.put, List.setIfInBounds_toArray, List.set_cons_succ, List.set_cons_zero]; rfl)
    refine plan_call _ 46 _ _ _ _ _ rfl _ Try.func46 (by kernel_rfl) (by kernel_rfl) ?_ True.intro
    refine (l4Value_c p cv code st4 7 (by omega) (by omega) _ (Cur.drewN hCW 1)).mono ?_
    rintro _ w5 ⟨a, ha1, ha2, rfl, ⟨st5, hC5⟩, hg5⟩
    have hg5' : W.grownBy w5 (some p) := ⟨hg5.os, hg5.tape, hg5.output, hg5.size, hg5.block⟩
    have hK5 := hS.grown hg5' (fun r hr => ⟨by rw [HSb.out r hr]; omega, by rw [HSb.out r hr]; intro e; injection e; omega⟩)
    refine ⟨_, rfl, fun _ => ⟨⟨_, hK5⟩, rfl⟩, ?_⟩
    refine plan_put ?_ (by simp only [Act.put, List.setIfInBounds_toArray, List.set_cons_succ, List.set_cons_zero]; rfl)
    refine plan_call _ 46 _ _ _ _ _ rfl _ Try.func46 (by kernel_rfl) (by kernel_rfl) ?_ True.intro
    refine (l4Value_c p cv code st5 (x.length : Nat) (by omega) (by omega) _ hC5).mono ?_
    rintro _ w6 ⟨b, hb1, hb2, rfl, ⟨st6, hC6⟩, hg6⟩
    have hgd := hg5'.trans hg6
    have hK6 := hS.grown hgd (fun r hr => ⟨by rw [HSb.out r hr]; omega, by rw [HSb.out r hr]; intro e; injection e; omega⟩)
    refine ⟨_, rfl, fun _ => ⟨⟨_, hK6⟩, rfl⟩, ?_⟩
    refine plan_put ?_ (by simp only [Act.put, List.setIfInBounds_toArray, List.set_cons_succ, List.set_cons_zero]; rfl)
    obtain ⟨m0, mz, hf⟩ := FIN.out w6 st6 hgd hC6
    have HF := Lib.hid (hf a b ⟨ha1, ha2⟩ ⟨hb1, hb2⟩)
    clear hf hK6 hK5 hg6 hg5 hg5' hgd hC5 hC6 g0
    iterate 2
      refine plan_look _ rfl rfl ?_
      go_big_quiet_step (fail)
      refine wpQuiet_nil ?_
    refine plan_skip (w' := w6.setCell ⟨m, 0, none⟩ (.slice P x.length c)) _ rfl rfl rfl (by simp [go_sem, m0, mz]) (fun e => by cases e) ?_ True.intro
    refine plan_put ?_ (by simp only [Act.put]; rfl)
    refine plan_done ?_
    go_wp2
    refine bodyPost_ret (v := .tuple #[.agg #[.slice P x.length c], .int .i64 a, .int .i64 b]) (by simp [results, Try.results13, go_sem, m0]) rfl HF.out

end Go.Proofs.Ytalijnfbopcmeaa
