/-
  Walks and plain lemmas for the laws of this seat: what single Go functions return, for every argument.
-/
import Derived.Deep.Quiet
import Derived.Test.YtmecdjincmkofaaGreatDoorDraw
import Derived.Test.YtmecdjincmkofaaGreatDoorDraw2
import Derived.Test.YtmecdjincmkofaaGreatDoorFmtRS
import Derived.Test.YtmecdjincmkofaaGreatDoorDrawJ
import Derived.Test.YtmecdjincmkofaaGreatDoorFmtFS
namespace Go.Proofs.YtmecdjincmkofaaGreatDoor
open Go.RowKit

/-- an instance, drawn -/
def GivesInst1 (w : World) (e : Ending) (w' : World) : Prop :=
  ∃ V x, e = .returned V ∧ Instance_lo w.heap.size w' w'.heap.size V x ∧ InstSmall 9 x ∧ Below w.heap.size w w'
theorem fmtInst_short (x : Inst) : (fmtInst x).length ≤ 1000 := by
  cases h : instOk x with
  | false => rw [fmtInst_no h]; simp
  | true =>
    rw [fmtInst_yes h, ← headI_all]
    exact headI_len x h _ (Nat.le_refl _)
set_option maxHeartbeats 1600000 in
set_option maxRecDepth 100000 in
theorem drawFmtInst_c (cv : Value) (code : List UInt8) (w : World) (hc : CodeAt w w.heap.size cv code) (hlen : code.length ≤ 1048576) :
    Calls Tryz.prog 19 #[cv] w (GivesInst1 w) := by
  obtain ⟨E, hEq⟩ : ∃ E, E = w.alloc (.cells #[.slice none 0 0, .slice none 0 0] 40) := ⟨_, rfl⟩
  have hE : Below w.heap.size w E := by rw [hEq]; exact below_more (Below.refl _ _) _
  have HEz := Lib.hid (show w.heap.size + 1 = E.heap.size by rw [hEq]; simp)
  have Q0 := Lib.hid (show E.cell? ⟨w.heap.size, 0, none⟩ = some (.slice none 0 0) by rw [hEq]; simp [go_sem])
  have Q1 := Lib.hid (show E.cell? ⟨w.heap.size, 1, none⟩ = some (.slice none 0 0) by rw [hEq]; simp [go_sem])
  have QZ := Lib.hid (show ∀ o, E.frozen? ⟨w.heap.size, o, none⟩ = false from fun o => by rw [hEq]; simp [go_sem])
  go_enter Tryz.func19, Tryz.ntmps19
  go_wp2_with fail
  rw [← hEq]
  clear hEq
  refine (l1New_c cv code _ (hc.later hE) hlen).mono ?_; rintro e w3 ⟨rfl, hb3, hC3⟩
  have hp3 := Cur.lt hC3
  have HB3 := Lib.hid hb3
  have hz3 := hb3.size
  clear hb3
  obtain ⟨p, hp⟩ : ∃ p, p = E.heap.size := ⟨_, rfl⟩
  rw [← hp] at hC3 hp3 ⊢
  have hpw : w.heap.size + 1 ≤ p := by have := HEz.out; omega
  have HP := Lib.hid hp
  clear hp
  go_wp2_with fail
  refine (l5Any_c p cv code _ _ hC3).mono ?_
  rintro e w4 ⟨V, x, rfl, hlo, hs, -, hg4⟩
  obtain ⟨P, c, Q, d, rfl⟩ := Instance_form hlo.at_
  have hz4 := hg4.size
  have hB4 : Below p E w4 := (HB3.out.mono (by have := HP.out; omega)).grown hg4 (by have := HP.out; omega) (fun k hk => by injection hk with hk; omega)
  have z0 := (hB4.cell (p := ⟨w.heap.size, 0, none⟩) (by show w.heap.size < p; omega)).trans Q0.out
  have z1 := (hB4.cell (p := ⟨w.heap.size, 1, none⟩) (by show w.heap.size < p; omega)).trans Q1.out
  have zz := fun o => (hB4.frozen (p := ⟨w.heap.size, o, none⟩) (by show w.heap.size < p; omega)).trans (QZ.out o)
  have HL := Lib.hid hlo
  have HS := Lib.hid hs
  have HB := Lib.hid (hE.trans (hB4.mono (by omega)))
  clear hlo hs hB4 hg4
  go_wp2
  have hst : ∀ u0 u1, Chg (fun k => k = w.heap.size) w4 ((w4.setCell ⟨w.heap.size, 0, none⟩ u0).setCell ⟨w.heap.size, 1, none⟩ u1) := fun u0 u1 => ((Chg.refl (fun k => k = w.heap.size) _).setCell (p := ⟨w.heap.size, 0, none⟩) rfl _).setCell (p := ⟨w.heap.size, 1, none⟩) rfl _
  refine bodyPost_ret (v := .agg #[.slice P x.rels.length c, .slice Q x.facts.length d]) (by simp [results, Tryz.results19, go_sem, z0, z1]) rfl ⟨_, x, rfl, ?_, HS.out, ?_⟩
  · exact (HL.out.chg (hst _ _) (fun k h => by subst h; omega)).less (by omega)
  · exact HB.out.trans ((hst _ _).below (fun k h => by subst h; omega) (by omega))
set_option maxHeartbeats 1600000 in
set_option maxRecDepth 100000 in
theorem drawParInst_c (cv : Value) (code : List UInt8) (w : World) (hc : CodeAt w w.heap.size cv code) (hlen : code.length ≤ 1048576) :
    Calls Tryz.prog 22 #[cv] w fun e w' => ∃ s : ByteArray, e = .returned (.string s) ∧ s.size ≤ 2000 ∧ Below w.heap.size w w' := by
  go_enter Tryz.func22, Tryz.ntmps22
  go_wp2_with fail
  refine (l1New_c cv code _ hc hlen).mono ?_; rintro e w1 ⟨rfl, hb1, hC1⟩
  have hz1 := hb1.size
  go_wp2_with fail
  refine (l5Any_c _ cv code _ _ hC1).mono ?_
  rintro e w3 ⟨V, x, rfl, hlo, hs, ⟨st3, hC3⟩, hg3⟩
  have hb3 := below_of_draw hb1 hg3
  go_wp2_with fail
  refine (specFormatInstance_any V x _ hlo.at_ hs.wf (by have := hs.sz (by decide); omega)).mono ?_; rintro e w4 ⟨rfl, hb4⟩
  have hL := fmtInst_short x
  have hz3 := hg3.size
  have hB4 := Lib.hid (hb3.trans (hb4.mono hb3.size))
  have hC4 : CurS w4 w.heap.size cv code st3 := Cur.below hC3 hC3 hb4
  clear hb3 hb4 hg3 hb1 hC1 hC3 hlo hs
  generalize fmtInst x = t at *
  go_wp2_with fail
  refine (l1Once_r _ cv code _ _ _ hC4).mono ?_; rintro e w5 ⟨rfl, hC5, hg5⟩
  generalize onceR code st3 3 = d at *
  obtain ⟨d, st5⟩ := d
  dsimp only at *
  have HB5 := Lib.hid (below_of_draw hB4.out hg5)
  have hts : ByteArray.size ⟨t.toArray⟩ = t.length := by simp [ByteArray.size]
  cases d with
  | true =>
    have HTS := Lib.hid hts
    clear hts hg5
    go_wp2_with fail
    refine (l1Spoil_r _ cv code _ ⟨t.toArray⟩ (by rw [HTS.out]; omega) _ hC5).mono ?_; rintro e w7 ⟨rfl, hC7, hg7⟩
    have hsl := spoilR_len code st5 t
    rw [show (⟨t.toArray⟩ : ByteArray).data.toList = t from rfl] at hC7 ⊢
    generalize spoilR code st5 t = sp at *
    obtain ⟨sp, st7⟩ := sp
    dsimp only at *
    go_wp2_with fail
    refine (l1Pick_d _ cv code _ [[], [59], [97, 49, 59], [97, 49, 59, 97, 40, 49, 41], [97, 49, 59, 97, 40, 50, 41, 32, 97, 40, 49, 41], [43, 97, 49, 59, 97, 40, 110, 48, 41], [97, 49, 59, 98, 40, 49, 41], [97, 49, 59, 97, 40, 49, 41, 32], [59, 59], sp] 2000 (fun x hx => ?_) w7 _ (by simp) (by simp) (Cur.lt hC7) _ rfl _ _ (by simp) _ rfl (Cur.alloc hC7 _)).mono ?_
    · simp only [List.mem_cons, List.not_mem_nil, or_false] at hx
      rcases hx with rfl | rfl | rfl | rfl | rfl | rfl | rfl | rfl | rfl | rfl <;> first | decide | omega
    rintro e w8 ⟨s, hs, rfl, -, hg8⟩
    have hg := hg7.trans ((World.grownBy_alloc _ _ _).trans hg8)
    go_wp2_with fail
    go_ret
    exact ⟨s, rfl, hs, below_of_draw HB5.out hg⟩
  | false =>
    clear hg5
    go_wp2_with fail
    go_ret
    exact ⟨_, rfl, by rw [hts]; omega, HB5.out⟩
/-- two instances, drawn -/
def GivesInst2 (w : World) (e : Ending) (w' : World) : Prop :=
  ∃ V x U y, e = .returned (.tuple #[V, U]) ∧ Instance_lo w.heap.size w' w'.heap.size V x ∧ InstSmall 9 x ∧ Instance_lo w.heap.size w' w'.heap.size U y ∧ InstSmall 9 y ∧ Below w.heap.size w w'
set_option maxHeartbeats 3200000 in
set_option maxRecDepth 100000 in
theorem drawEqInst_c (cv : Value) (code : List UInt8) (w : World) (hc : CodeAt w w.heap.size cv code) (hlen : code.length ≤ 1048576) :
    Calls Tryz.prog 24 #[cv] w (GivesInst2 w) := by
  obtain ⟨E, hEq⟩ : ∃ E, E = (w.alloc (.cells #[.slice none 0 0, .slice none 0 0] 40)).alloc (.cells #[.slice none 0 0, .slice none 0 0] 40) := ⟨_, rfl⟩
  have hE : Below w.heap.size w E := by rw [hEq]; exact below_more (below_more (Below.refl _ _) _) _
  have HEz := Lib.hid (show w.heap.size + 2 = E.heap.size by rw [hEq]; simp)
  have Q0 := Lib.hid (show E.cell? ⟨w.heap.size, 0, none⟩ = some (.slice none 0 0) by rw [hEq]; simp [go_sem])
  have Q1 := Lib.hid (show E.cell? ⟨w.heap.size, 1, none⟩ = some (.slice none 0 0) by rw [hEq]; simp [go_sem])
  have QZ := Lib.hid (show ∀ o, E.frozen? ⟨w.heap.size, o, none⟩ = false from fun o => by rw [hEq]; simp [go_sem])
  have R0 := Lib.hid (show E.cell? ⟨w.heap.size + 1, 0, none⟩ = some (.slice none 0 0) by rw [hEq]; simp [go_sem])
  have R1 := Lib.hid (show E.cell? ⟨w.heap.size + 1, 1, none⟩ = some (.slice none 0 0) by rw [hEq]; simp [go_sem])
  have RZ := Lib.hid (show ∀ o, E.frozen? ⟨w.heap.size + 1, o, none⟩ = false from fun o => by rw [hEq]; simp [go_sem])
  go_enter Tryz.func24, Tryz.ntmps24
  go_wp2_with fail
  rw [← hEq]
  clear hEq
  refine (l1New_c cv code _ (hc.later hE) hlen).mono ?_; rintro e w3 ⟨rfl, hb3, hC3⟩
  have hp3 := Cur.lt hC3
  have HB3 := Lib.hid hb3
  have hz3 := hb3.size
  clear hb3
  obtain ⟨p, hp⟩ : ∃ p, p = E.heap.size := ⟨_, rfl⟩
  rw [← hp] at hC3 hp3 ⊢
  have hpw : w.heap.size + 2 ≤ p := by have := HEz.out; omega
  have HP := Lib.hid hp
  clear hp
  go_wp2_with fail
  refine (l5Any_c p cv code _ _ hC3).mono ?_
  rintro e w4 ⟨V, x, rfl, hlo, hs, ⟨st4, hC4⟩, hg4⟩
  obtain ⟨P, c, Q, d, rfl⟩ := Instance_form hlo.at_
  have hz4 := hg4.size
  obtain ⟨y, hy⟩ : ∃ y, y = w4.heap.size := ⟨_, rfl⟩
  go_wp2_with fail
  have y0 : (w4.alloc (.cells #[.slice P x.rels.length c, .slice Q x.facts.length d] 40)).cell? ⟨y, 0, none⟩ = some (.slice P x.rels.length c) := by rw [hy]; simp [go_sem]
  have y1 : (w4.alloc (.cells #[.slice P x.rels.length c, .slice Q x.facts.length d] 40)).cell? ⟨y, 1, none⟩ = some (.slice Q x.facts.length d) := by rw [hy]; simp [go_sem]
  have hAl : Below y w4 (w4.alloc (.cells #[.slice P x.rels.length c, .slice Q x.facts.length d] 40)) := (Below.refl _ _).alloc (by omega) _
  have hC5 : CurS (w4.alloc (.cells #[.slice P x.rels.length c, .slice Q x.facts.length d] 40)) p cv code st4 := Cur.alloc hC4 _
  have hG5 : w3.grownBy (w4.alloc (.cells #[.slice P x.rels.length c, .slice Q x.facts.length d] 40)) (some p) := hg4.trans (World.grownBy_alloc _ _ _)
  have hyz : y < (w4.alloc (.cells #[.slice P x.rels.length c, .slice Q x.facts.length d] 40)).heap.size := by rw [hy]; simp
  have hlo5 := (hlo.below hAl (by omega)).more (B' := (w4.alloc (.cells #[.slice P x.rels.length c, .slice Q x.facts.length d] 40)).heap.size) (by omega)
  rw [← hy]
  have hy4 : w3.heap.size ≤ y := by omega
  clear hy
  generalize w4.alloc (.cells #[.slice P x.rels.length c, .slice Q x.facts.length d] 40) = w5 at *
  refine (l1Once_r p cv code _ _ _ hC5).mono ?_; rintro e w6 ⟨rfl, hC6, hg6⟩
  generalize onceR code st4 2 = b at *
  obtain ⟨bb, st6⟩ := b
  dsimp only at *
  have hG6 := hG5.trans hg6
  have hch6 : Chg (fun k => k = p) w5 w6 := ⟨hg6.os, hg6.tape, hg6.output, hg6.size, fun k hk hn => hg6.block k hk (by intro e; injection e with e; exact hn e)⟩
  have hlo6 := hlo5.chg hch6 (fun k hk => by subst hk; exact hp3)
  have y0 := grown_cell hg6 y0 (by omega)
  have y1 := grown_cell hg6 y1 (by omega)
  have hz6 := hG6.size
  have hyz6 : y < w6.heap.size := by have := hg6.size; omega
  have hS : Holds [(⟨y, 0, none⟩, .slice P x.rels.length c), (⟨y, 1, none⟩, .slice Q x.facts.length d)] w6 := by
    intro q hq
    simp only [List.mem_cons, List.not_mem_nil, or_false] at hq
    rcases hq with rfl | rfl
    · exact y0
    · exact y1
  have hSb : ∀ q ∈ [((⟨y, 0, none⟩ : Addr), Value.slice P x.rels.length c), (⟨y, 1, none⟩, .slice Q x.facts.length d)], q.1.block = y := by
    intro q hq
    simp only [List.mem_cons, List.not_mem_nil, or_false] at hq
    rcases hq with rfl | rfl <;> rfl
  have g0 := Keep.cell (h0 := hS) (a := ⟨y, 0, none⟩) (v := .slice P x.rels.length c) (by simp)
  have g1 := Keep.cell (h0 := hS) (a := ⟨y, 1, none⟩) (v := .slice Q x.facts.length d) (by simp)
  have HLO := Lib.hid hlo6
  have HSb := Lib.hid hSb
  have HS := Lib.hid hs
  have HG6 := Lib.hid hG6
  have HC6 := Lib.hid hC6
  clear hlo hlo5 hlo6 hAl hC4 hC5 hg4 hSb y0 y1 hG5 hG6 hC6 hs hg6 hch6 hyz
  cases bb with
  | true =>
    go_wp2_with fail
    refine wp_region_planL (C := fun w' => ∃ u : Keep _ w6 hS, w' = u.now) (.still 0 (.still 1 (.move true 2 (.move false 3 (.move false 4 .done .none) .none) .none))) (by kernel_rfl) (by kernel_rfl) (by kernel_rfl) (fun _ => ⟨⟨w6.drew, hS⟩, rfl⟩) ?_
    iterate 2
      refine plan_look _ rfl rfl ?_
      go_big_quiet_step (fail)
      refine wpQuiet_nil ?_
    refine plan_call _ 85 _ _ _ _ _ rfl _ Tryz.func85 (by kernel_rfl) (by kernel_rfl) ?_ True.intro
    refine (l5Any_c p cv code _ _ (Cur.drewN HC6.out 1)).mono ?_
    rintro _ w7 ⟨U, z, rfl, hlz, hsz, -, hg7⟩
    have hg7' : w6.grownBy w7 (some p) := ⟨hg7.os, hg7.tape, hg7.output, hg7.size, hg7.block⟩
    have hS7 := hS.grown hg7' (fun q hq => ⟨by rw [HSb.out q hq]; exact hyz6, by rw [HSb.out q hq]; intro e; injection e; omega⟩)
    have hch7 : Chg (fun k => k = p) w6 w7 := ⟨hg7'.os, hg7'.tape, hg7'.output, hg7'.size, fun k hk hn => hg7'.block k hk (by intro e; injection e with e; exact hn e)⟩
    have hlx := HLO.out.chg hch7 (fun k hk => by subst hk; exact hp3)
    have hlz : Instance_lo w3.heap.size w7 w7.heap.size U z := hlz.less (by have : (w6.drewN 1).heap.size = w6.heap.size := rfl; have : w6.drew.heap.size = w6.heap.size := rfl; omega)
    refine ⟨_, rfl, fun _ => ⟨⟨_, hS7⟩, rfl⟩, ?_⟩
    refine plan_put ?_ (by simp only [Act.put, List.setIfInBounds_toArray, List.set_cons_succ, List.set_cons_zero]; rfl)
    obtain ⟨PU, cU, QU, dU, rfl⟩ := Instance_form hlz.at_
    have hz7 := hg7'.size
    have hB7 : Below p E w7 := (HB3.out.mono (by have := HP.out; omega)).grown (HG6.out.trans hg7') (by have := HP.out; omega) (fun k hk => by injection hk with hk; omega)
    have z0 := (hB7.cell (p := ⟨w.heap.size, 0, none⟩) (by show w.heap.size < p; omega)).trans Q0.out
    have z1 := (hB7.cell (p := ⟨w.heap.size, 1, none⟩) (by show w.heap.size < p; omega)).trans Q1.out
    have zz := fun o => (hB7.frozen (p := ⟨w.heap.size, o, none⟩) (by show w.heap.size < p; omega)).trans (QZ.out o)
    have u0 := (hB7.cell (p := ⟨w.heap.size + 1, 0, none⟩) (by show w.heap.size + 1 < p; omega)).trans R0.out
    have u1 := (hB7.cell (p := ⟨w.heap.size + 1, 1, none⟩) (by show w.heap.size + 1 < p; omega)).trans R1.out
    have uz := fun o => (hB7.frozen (p := ⟨w.heap.size + 1, o, none⟩) (by show w.heap.size + 1 < p; omega)).trans (RZ.out o)
    have HLX := Lib.hid hlx
    have HLZ := Lib.hid hlz
    have HSZ := Lib.hid hsz
    have HB := Lib.hid (hE.trans (hB7.mono (by omega)))
    clear hlx hlz hsz hB7 hS7 g0 g1
    refine plan_skip (w' := (w7.setCell ⟨w.heap.size, 0, none⟩ (.slice P x.rels.length c)).setCell ⟨w.heap.size, 1, none⟩ (.slice Q x.facts.length d)) _ rfl rfl rfl (by simp [go_sem, z0, z1, zz]) (fun e => by cases e) ?_ True.intro
    refine plan_put ?_ (by simp only [Act.put]; rfl)
    refine plan_skip (w' := (((w7.setCell ⟨w.heap.size, 0, none⟩ (.slice P x.rels.length c)).setCell ⟨w.heap.size, 1, none⟩ (.slice Q x.facts.length d)).setCell ⟨w.heap.size + 1, 0, none⟩ (.slice PU z.rels.length cU)).setCell ⟨w.heap.size + 1, 1, none⟩ (.slice QU z.facts.length dU)) _ rfl rfl rfl (by simp [go_sem, u0, u1, uz]) (fun e => by cases e) ?_ True.intro
    refine plan_put ?_ (by simp only [Act.put]; rfl)
    refine plan_done ?_
    go_wp2
    have hst : Chg (Mid w.heap.size (w.heap.size + 2)) w7 ((((w7.setCell ⟨w.heap.size, 0, none⟩ (.slice P x.rels.length c)).setCell ⟨w.heap.size, 1, none⟩ (.slice Q x.facts.length d)).setCell ⟨w.heap.size + 1, 0, none⟩ (.slice PU z.rels.length cU)).setCell ⟨w.heap.size + 1, 1, none⟩ (.slice QU z.facts.length dU)) :=
      ((((Chg.refl (Mid w.heap.size (w.heap.size + 2)) _).setCell (p := ⟨w.heap.size, 0, none⟩) ⟨Nat.le_refl _, by show w.heap.size < w.heap.size + 2; omega⟩ _).setCell (p := ⟨w.heap.size, 1, none⟩) ⟨Nat.le_refl _, by show w.heap.size < w.heap.size + 2; omega⟩ _).setCell (p := ⟨w.heap.size + 1, 0, none⟩) ⟨by show w.heap.size ≤ w.heap.size + 1; omega, by show w.heap.size + 1 < w.heap.size + 2; omega⟩ _).setCell (p := ⟨w.heap.size + 1, 1, none⟩) ⟨by show w.heap.size ≤ w.heap.size + 1; omega, by show w.heap.size + 1 < w.heap.size + 2; omega⟩ _
    refine bodyPost_ret (v := .tuple #[.agg #[.slice P x.rels.length c, .slice Q x.facts.length d], .agg #[.slice PU z.rels.length cU, .slice QU z.facts.length dU]]) (by simp [results, Tryz.results24, go_sem, z0, z1, u0, u1]) rfl ⟨_, x, _, z, rfl, ?_, HS.out, ?_, HSZ.out, ?_⟩
    · exact (HLX.out.chg hst (fun k h => by have := h.2; omega)).less (by omega)
    · exact (HLZ.out.chg hst (fun k h => by have := h.2; omega)).less (by omega)
    · exact HB.out.trans (hst.below (fun k h => h.1) (by omega))
  | false =>
    have hcpy := fun (u : Keep _ w6 hS) (hb : Below w6.heap.size w6 u.now) => specL5Copy_any _ x u.now (HLO.out.later hb).at_ (by have := HS.out.sz (by decide); omega)
    go_wp2_with fail
    refine wp_region_planL (C := fun w' => ∃ u : Keep _ w6 hS, w' = u.now) (.still 0 (.still 1 (.move true 2 (.move false 3 (.move false 4 .done .none) .none) .none))) (by kernel_rfl) (by kernel_rfl) (by kernel_rfl) (fun _ => ⟨⟨w6.drew, hS⟩, rfl⟩) ?_
    iterate 2
      refine plan_look _ rfl rfl ?_
      go_big_quiet_step (fail)
      refine wpQuiet_nil ?_
    refine plan_call _ 89 _ _ _ _ _ rfl _ Tryz.func89 (by kernel_rfl) (by kernel_rfl) ?_ True.intro
    refine (hcpy ⟨w6.drew, hS⟩ (Below.refl _ _).drew).mono ?_
    rintro _ w7 ⟨U, rfl, hO7, hb7⟩
    have hb7' : Below w6.heap.size w6 w7 := (Below.refl w6.heap.size w6).drew.trans hb7
    have hS7 := hS.below hb7' (fun q hq => by rw [HSb.out q hq]; exact hyz6)
    have hg7' : w6.grownBy w7 (some p) := ⟨hb7'.os, hb7'.tape, hb7'.output, hb7'.size, fun k hk _ => hb7'.block k hk⟩
    have hlx := HLO.out.later hb7'
    obtain ⟨z, hzx⟩ : ∃ z, z = x := ⟨_, rfl⟩
    have hsz : InstSmall 9 z := hzx ▸ HS.out
    have hlz : Instance_lo w3.heap.size w7 w7.heap.size U z := by
      rw [hzx]
      exact (Instance_own.lo hO7 (Nat.le_refl _)).less (by have : (w6.drewN 1).heap.size = w6.heap.size := rfl; have : w6.drew.heap.size = w6.heap.size := rfl; first | omega | (show _ ≤ w6.heap.size; omega))
    clear hO7 hb7 hb7' hzx hcpy
    refine ⟨_, rfl, fun _ => ⟨⟨_, hS7⟩, rfl⟩, ?_⟩
    refine plan_put ?_ (by simp only [Act.put, List.setIfInBounds_toArray, List.set_cons_succ, List.set_cons_zero]; rfl)
    obtain ⟨PU, cU, QU, dU, rfl⟩ := Instance_form hlz.at_
    have hz7 := hg7'.size
    have hB7 : Below p E w7 := (HB3.out.mono (by have := HP.out; omega)).grown (HG6.out.trans hg7') (by have := HP.out; omega) (fun k hk => by injection hk with hk; omega)
    have z0 := (hB7.cell (p := ⟨w.heap.size, 0, none⟩) (by show w.heap.size < p; omega)).trans Q0.out
    have z1 := (hB7.cell (p := ⟨w.heap.size, 1, none⟩) (by show w.heap.size < p; omega)).trans Q1.out
    have zz := fun o => (hB7.frozen (p := ⟨w.heap.size, o, none⟩) (by show w.heap.size < p; omega)).trans (QZ.out o)
    have u0 := (hB7.cell (p := ⟨w.heap.size + 1, 0, none⟩) (by show w.heap.size + 1 < p; omega)).trans R0.out
    have u1 := (hB7.cell (p := ⟨w.heap.size + 1, 1, none⟩) (by show w.heap.size + 1 < p; omega)).trans R1.out
    have uz := fun o => (hB7.frozen (p := ⟨w.heap.size + 1, o, none⟩) (by show w.heap.size + 1 < p; omega)).trans (RZ.out o)
    have HLX := Lib.hid hlx
    have HLZ := Lib.hid hlz
    have HSZ := Lib.hid hsz
    have HB := Lib.hid (hE.trans (hB7.mono (by omega)))
    clear hlx hlz hsz hB7 hS7 g0 g1
    refine plan_skip (w' := (w7.setCell ⟨w.heap.size, 0, none⟩ (.slice P x.rels.length c)).setCell ⟨w.heap.size, 1, none⟩ (.slice Q x.facts.length d)) _ rfl rfl rfl (by simp [go_sem, z0, z1, zz]) (fun e => by cases e) ?_ True.intro
    refine plan_put ?_ (by simp only [Act.put]; rfl)
    refine plan_skip (w' := (((w7.setCell ⟨w.heap.size, 0, none⟩ (.slice P x.rels.length c)).setCell ⟨w.heap.size, 1, none⟩ (.slice Q x.facts.length d)).setCell ⟨w.heap.size + 1, 0, none⟩ (.slice PU z.rels.length cU)).setCell ⟨w.heap.size + 1, 1, none⟩ (.slice QU z.facts.length dU)) _ rfl rfl rfl (by simp [go_sem, u0, u1, uz]) (fun e => by cases e) ?_ True.intro
    refine plan_put ?_ (by simp only [Act.put]; rfl)
    refine plan_done ?_
    go_wp2
    have hst : Chg (Mid w.heap.size (w.heap.size + 2)) w7 ((((w7.setCell ⟨w.heap.size, 0, none⟩ (.slice P x.rels.length c)).setCell ⟨w.heap.size, 1, none⟩ (.slice Q x.facts.length d)).setCell ⟨w.heap.size + 1, 0, none⟩ (.slice PU z.rels.length cU)).setCell ⟨w.heap.size + 1, 1, none⟩ (.slice QU z.facts.length dU)) :=
      ((((Chg.refl (Mid w.heap.size (w.heap.size + 2)) _).setCell (p := ⟨w.heap.size, 0, none⟩) ⟨Nat.le_refl _, by show w.heap.size < w.heap.size + 2; omega⟩ _).setCell (p := ⟨w.heap.size, 1, none⟩) ⟨Nat.le_refl _, by show w.heap.size < w.heap.size + 2; omega⟩ _).setCell (p := ⟨w.heap.size + 1, 0, none⟩) ⟨by show w.heap.size ≤ w.heap.size + 1; omega, by show w.heap.size + 1 < w.heap.size + 2; omega⟩ _).setCell (p := ⟨w.heap.size + 1, 1, none⟩) ⟨by show w.heap.size ≤ w.heap.size + 1; omega, by show w.heap.size + 1 < w.heap.size + 2; omega⟩ _
    refine bodyPost_ret (v := .tuple #[.agg #[.slice P x.rels.length c, .slice Q x.facts.length d], .agg #[.slice PU z.rels.length cU, .slice QU z.facts.length dU]]) (by simp [results, Tryz.results24, go_sem, z0, z1, u0, u1]) rfl ⟨_, x, _, z, rfl, ?_, HS.out, ?_, HSZ.out, ?_⟩
    · exact (HLX.out.chg hst (fun k h => by have := h.2; omega)).less (by omega)
    · exact (HLZ.out.chg hst (fun k h => by have := h.2; omega)).less (by omega)
    · exact HB.out.trans (hst.below (fun k h => h.1) (by omega))

end Go.Proofs.YtmecdjincmkofaaGreatDoor
