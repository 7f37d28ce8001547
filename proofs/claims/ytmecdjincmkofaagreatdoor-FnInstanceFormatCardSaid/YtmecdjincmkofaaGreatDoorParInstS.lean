/-
  Walks and plain lemmas for the laws of this seat: what single Go functions return, for every argument.
-/
import Derived.Test.YtmecdjincmkofaaGreatDoorBase
import Derived.Test.YtmecdjincmkofaaGreatDoorMem
import Derived.Test.YtmecdjincmkofaaGreatDoorInts
import Derived.Test.YtmecdjincmkofaaGreatDoorRels
import Derived.Test.YtmecdjincmkofaaGreatDoorPlan
import Derived.Test.YtmecdjincmkofaaGreatDoorAft
import Derived.Test.YtmecdjincmkofaaGreatDoorTyInst
import Derived.Test.YtmecdjincmkofaaGreatDoorFmtFS
import Derived.Test.YtmecdjincmkofaaGreatDoorRelsI
import Derived.Test.YtmecdjincmkofaaGreatDoorParFS
import Derived.Test.YtmecdjincmkofaaGreatDoorParInst
namespace Go.Proofs.YtmecdjincmkofaaGreatDoor
open Go.RowKit

def ParseInstance_r0 (s : ByteArray) : Inst := match parseInst s.data.toList with
  | some x => x
  | none => ⟨[], []⟩
def ParseInstance_ok (s : ByteArray) : Bool := (parseInst s.data.toList).isSome
theorem parseInst_no {s : ByteArray} (h : parseInst s.data.toList = none) : ParseInstance_r0 s = ⟨[], []⟩ ∧ ParseInstance_ok s = false := by unfold ParseInstance_r0 ParseInstance_ok; rw [h]; exact ⟨rfl, rfl⟩
theorem parseInst_yes {s : ByteArray} {x : Inst} (h : parseInst s.data.toList = some x) : ParseInstance_r0 s = x ∧ ParseInstance_ok s = true := by unfold ParseInstance_r0 ParseInstance_ok; rw [h]; exact ⟨rfl, rfl⟩
theorem parseInst_len {s : List UInt8} (h : (cutA 59 s).length ≠ 2) : parseInst s = none := by
  unfold parseInst
  split
  · rename_i a b hc; rw [hc] at h; exact absurd rfl h
  · rfl
theorem parseInst_two {s a b : List UInt8} (h : cutA 59 s = [a, b]) : parseInst s = if fmtInst ⟨(parsePair a).1, factsOf (parsePair a).1 b⟩ = s then some ⟨(parsePair a).1, factsOf (parsePair a).1 b⟩ else none := by
  unfold parseInst; rw [h]
theorem parsePair_valid (a : List UInt8) : (parsePair a).1 = [] ∨ validRels (parsePair a).1 = true := by
  by_cases h0 : a = []
  · subst h0; exact .inl rfl
  · cases hp : parseRels a with
    | none => rw [parsePair_none h0 hp]; exact .inl rfl
    | some l => rw [parsePair_some h0 hp]; exact .inr ((parse_iff a h0 l).1 hp).1
theorem parsePair_small (a : List UInt8) : (parsePair a).1.length ≤ 6 ∧ RelsWf (parsePair a).1 := by
  rcases parsePair_valid a with h | h
  · rw [h]; exact ⟨by simp, fun i hi => absurd hi (by simp)⟩
  · refine ⟨validRels_len _ h, fun i hi => ?_⟩
    have := relOk_bd _ _ (validRels_at _ h i hi)
    unfold maxLen; omega
theorem pfact_wf (l : List Rel) (t : List UInt8) : Fact_wf (pfact l t) := by
  unfold pfact
  cases h : parseFact l (⟨t.toArray⟩ : ByteArray).data.toList with
  | none => rw [(parseFact_no h).1]; exact ⟨by decide, fun i hi => absurd hi (by simp)⟩
  | some u =>
    obtain ⟨r, vs⟩ := u
    rw [(parseFact_yes h).1]
    have hok := ((parseFact_iff _ _ _ _).1 h).1
    obtain ⟨_, _, _, _, _, _, hv⟩ := fact_form hok
    obtain ⟨hvr, hin, _⟩ := factOk_parts hok
    have := validRels_len _ hvr
    exact ⟨by show _ ≤ r ∧ r ≤ _; omega, fun i hi => by have := hv vs[i] (List.getElem_mem hi); show _ ≤ vs[i] ∧ vs[i] ≤ _; omega⟩
theorem pfact_len (l : List Rel) (t : List UInt8) : (pfact l t).vals.length ≤ 3 := by
  unfold pfact
  cases h : parseFact l (⟨t.toArray⟩ : ByteArray).data.toList with
  | none => rw [(parseFact_no h).1]; simp
  | some u =>
    obtain ⟨r, vs⟩ := u
    rw [(parseFact_yes h).1]
    obtain ⟨_, _, _, _, _, h3, _⟩ := fact_form ((parseFact_iff _ _ _ _).1 h).1
    exact h3
theorem cutA_piece (c : UInt8) (s p : List UInt8) (h : p ∈ cutA c s) : p.length ≤ s.length := by
  rw [← cutN_all c s.length s (by have := cutA_len c s; omega)] at h
  exact cutN_piece c _ s p h
def pf (l : List Rel) (t : ByteArray) : Fct := ParseFact_r0 l t
theorem pf_eq (l : List Rel) (M : List ByteArray) : M.map (pf l) = (dataOf M).map (pfact l) := by
  unfold dataOf
  rw [List.map_map]
  refine List.map_congr_left fun t _ => ?_
  show ParseFact_r0 l t = ParseFact_r0 l ⟨t.data.toList.toArray⟩
  rw [← mk_self]
theorem pf_wf (l : List Rel) (t : ByteArray) : Fact_wf (pf l t) := by
  have := pfact_wf l t.data.toList
  unfold pfact at this
  rw [← mk_self] at this
  exact this
/-- what ParseInstance gives -/
def GivesInst (s : ByteArray) (w : World) (e : Ending) (w' : World) : Prop := ∃ u, e = .returned (.tuple #[u, .bool (ParseInstance_ok s)]) ∧ Instance_own w.heap.size w'.heap.size u (ParseInstance_r0 s) w' ∧ Below w.heap.size w w'
theorem instOwn_nil (B C : Nat) (w : World) : Instance_own B C (.agg #[.slice none 0 0, .slice none 0 0]) ⟨[], []⟩ w :=
  ⟨_, _, rfl, ⟨OwnRels.nil _ _, fun g hg => by cases hg⟩, ⟨[], ⟨rfl, World.ownsRow_nil _ _ _ _, (fun g hg => by cases hg), (fun i h => by simp at h), List.Pairwise.nil⟩⟩⟩
set_option maxHeartbeats 3200000 in
set_option maxRecDepth 100000 in
theorem specParseInstance_any (s : ByteArray) (w : World) (hs : s.size ≤ 1048576) :
    Calls Tryz.prog 23 #[.string s] w (GivesInst s w) := by
  have hE : Below w.heap.size w (w.alloc (.cells #[.slice none 0 0, .slice none 0 0] 40)) := (Below.refl _ _).alloc (Nat.le_refl _) _
  have hEz : w.heap.size + 1 ≤ (w.alloc (.cells #[.slice none 0 0, .slice none 0 0] 40)).heap.size := by simp
  have R0 := Lib.hid (show (w.alloc (.cells #[.slice none 0 0, .slice none 0 0] 40)).cell? ⟨w.heap.size, 0, none⟩ = some (.slice none 0 0) by simp [go_sem])
  have R1 := Lib.hid (show (w.alloc (.cells #[.slice none 0 0, .slice none 0 0] 40)).cell? ⟨w.heap.size, 1, none⟩ = some (.slice none 0 0) by simp [go_sem])
  have R2 := fun o => Lib.hid (show (w.alloc (.cells #[.slice none 0 0, .slice none 0 0] 40)).frozen? ⟨w.heap.size, o, none⟩ = false by simp [go_sem])
  have hcut := specCutAt_any 59 s (w.alloc (.cells #[.slice none 0 0, .slice none 0 0] 40)) hs
  have h59 : (((59 : UInt8).toNat : Nat) : Int) = 59 := rfl
  rw [h59] at hcut
  clear h59
  go_enter Tryz.func23, Tryz.ntmps23
  go_wp2_with fail
  refine hcut.mono ?_
  rintro e w1 ⟨vL, L, rfl, hL, hOL, hb1⟩
  clear hcut
  have hz1 := hb1.size
  have hLl : (cutA 59 s.data.toList).length = L.length := by rw [← hL, dataOf_len]
  obtain ⟨AL, cL, rfl, hcL1, hcL2⟩ := hOL.form
  unfold maxLen at hcL2
  have HW1 := Lib.hid (hE.trans (hb1.mono hE.size))
  by_cases h2 : L.length = 2
  · obtain ⟨a, b, rfl⟩ : ∃ a b, L = [a, b] := by
      cases L with
      | nil => cases h2
      | cons a t =>
        cases t with
        | nil => cases h2
        | cons b t =>
          cases t with
          | nil => exact ⟨a, b, rfl⟩
          | cons => simp at h2
    clear h2
    have hab : cutA 59 s.data.toList = [a.data.toList, b.data.toList] := by rw [← hL]; rfl
    have HAB := Lib.hid (parseInst_two hab)
    have hsz : a.size + b.size + 1 = s.size := by
      have h1 := join_cutA 59 s.data.toList
      rw [hab] at h1
      have h2 := congrArg List.length h1
      simp [Lib.join] at h2
      omega
    obtain ⟨gl, ol, hAL, hgl, la⟩ := StrsAt.elem (OwnStrs.at_ hOL) 0 (by simp)
    obtain ⟨gl', ol', hAL', -, lb⟩ := StrsAt.elem (OwnStrs.at_ hOL) 1 (by simp)
    subst hAL
    obtain ⟨rfl, rfl⟩ : gl = gl' ∧ ol = ol' := by simpa using hAL'
    simp only [List.getElem_cons_zero, List.getElem_cons_succ, Nat.add_zero] at la lb
    clear hAL' hOL hL hab hLl
    have e2 : Below w1.heap.size w1 (w1.alloc (.cells #[.slice none 0 0, .slice none 0 0] 40)) := (Below.refl _ _).alloc (Nat.le_refl _) _
    have s2 : w1.heap.size + 1 = (w1.alloc (.cells #[.slice none 0 0, .slice none 0 0] 40)).heap.size := by simp
    have S2 := Lib.hid s2
    have Y0 := Lib.hid (show (w1.alloc (.cells #[.slice none 0 0, .slice none 0 0] 40)).cell? ⟨w1.heap.size, 0, none⟩ = some (.slice none 0 0) by simp [go_sem])
    have Y1 := Lib.hid (show (w1.alloc (.cells #[.slice none 0 0, .slice none 0 0] 40)).cell? ⟨w1.heap.size, 1, none⟩ = some (.slice none 0 0) by simp [go_sem])
    have YZ := fun o => Lib.hid (show (w1.alloc (.cells #[.slice none 0 0, .slice none 0 0] 40)).frozen? ⟨w1.heap.size, o, none⟩ = false by simp [go_sem])
    have hpr := specParseRelations_any a (w1.alloc (.cells #[.slice none 0 0, .slice none 0 0] 40)) (by omega)
    have LA := Lib.hid la
    have LB := Lib.hid lb
    have la2 := (e2.cell (p := ⟨gl, ol, none⟩) hgl).trans la
    clear la lb s2
    go_wp2_with fail
    refine hpr.mono ?_
    rintro e w3 ⟨V1, rfl, hO1, hb3⟩
    have HSM := Lib.hid (parsePair_small a.data.toList)
    obtain ⟨Q1, c1, rfl, hc1, hc1'⟩ := RelationS_at.form hO1.at_
    unfold maxLen at hc1'
    clear hpr la2
    generalize (parsePair a.data.toList).1 = rl at *
    have s2 := S2.out
    have hz3 := hb3.size
    have y0 := (hb3.cell (p := ⟨w1.heap.size, 0, none⟩) (by show w1.heap.size < _; omega)).trans Y0.out
    have y1 := (hb3.cell (p := ⟨w1.heap.size, 1, none⟩) (by show w1.heap.size < _; omega)).trans Y1.out
    have yz := fun o => (hb3.frozen (p := ⟨w1.heap.size, o, none⟩) (by show w1.heap.size < _; omega)).trans (YZ o).out
    have lb4 : (w3.setCell ⟨w1.heap.size, 0, none⟩ (.slice Q1 rl.length c1)).cell? ⟨gl, ol + 1, none⟩ = some (.string b) := by
      have h1 := (e2.trans (hb3.mono e2.size)).cell (p := ⟨gl, ol + 1, none⟩) hgl
      have h2 := h1.trans LB.out
      simp [go_sem, h2]
    have HO1 := Lib.hid hO1
    have hcut2 := specCutAt_any 32 b (w3.setCell ⟨w1.heap.size, 0, none⟩ (.slice Q1 rl.length c1)) (by omega)
    have h32 : (((32 : UInt8).toNat : Nat) : Int) = 32 := rfl
    rw [h32] at hcut2
    have HB3 := Lib.hid hb3
    clear hO1 h32 s2 hb3
    go_wp2_with fail
    refine hcut2.mono ?_
    rintro e w5 ⟨vM, M, rfl, hM, hOM, hb5⟩
    clear hcut2
    obtain ⟨AM, cM, rfl, hcM1, hcM2⟩ := hOM.form
    unfold maxLen at hcM2
    have HM := Lib.hid (OwnStrs.at_ hOM)
    have HMD := Lib.hid hM
    have hMl : M.length ≤ b.size + 1 := by
      have h1 := cutA_len 32 b.data.toList
      rw [← hM, dataOf_len] at h1
      simpa using h1
    have hMt : ∀ t ∈ M, t.size ≤ 1048576 := by
      intro t ht
      have h1 : t.data.toList ∈ cutA 32 b.data.toList := by rw [← hM]; exact List.mem_map.2 ⟨t, ht, rfl⟩
      have h2 := cutA_piece 32 b.data.toList _ h1
      simp at h2; omega
    have HMt := Lib.hid hMt
    have hz4 : (w3.setCell ⟨w1.heap.size, 0, none⟩ (.slice Q1 rl.length c1)).heap.size = w3.heap.size := by simp [World.setCell]
    have hz5 := hb5.size
    rw [hz4] at hz5 hb5
    have HG := Lib.hid (show gl < w1.heap.size from hgl)
    have x0 : w5.cell? ⟨w1.heap.size, 0, none⟩ = some (.slice Q1 rl.length c1) := (hb5.cell (p := ⟨w1.heap.size, 0, none⟩) (by show w1.heap.size < _; have := S2.out; omega)).trans (by simp [go_sem, y0])
    have x1 : w5.cell? ⟨w1.heap.size, 1, none⟩ = some (.slice none 0 0) := (hb5.cell (p := ⟨w1.heap.size, 1, none⟩) (by show w1.heap.size < _; have := S2.out; omega)).trans (by simp [go_sem, y1])
    have xz : ∀ o, w5.frozen? ⟨w1.heap.size, o, none⟩ = false := fun o => (hb5.frozen (p := ⟨w1.heap.size, o, none⟩) (by show w1.heap.size < _; have := S2.out; omega)).trans (by simp [go_sem, yz])
    have LB5 := Lib.hid ((hb5.cell (p := ⟨gl, ol + 1, none⟩) (by show gl < _; have := S2.out; omega)).trans lb4)
    have hb45 : Below w1.heap.size w1 (w3.setCell ⟨w1.heap.size, 0, none⟩ (.slice Q1 rl.length c1)) := (e2.trans (HB3.out.mono e2.size)).setCell (p := ⟨w1.heap.size, 0, none⟩) (Nat.le_refl _) _
    have hW5 : Below w1.heap.size w1 w5 := hb45.trans (hb5.mono (by have := S2.out; omega))
    have HW5 := Lib.hid (HW1.out.trans (hW5.mono HW1.out.size))
    have HWW := Lib.hid (show w.heap.size < w1.heap.size by omega)
    have HWr := Lib.hid (hb1.trans (hW5.mono hz1))
    have HOR := Lib.hid (show OwnRels (w1.heap.size + 1) (.slice Q1 rl.length c1) rl w5 ∧ Value.inside w3.heap.size (.slice Q1 rl.length c1) by
      have h1 := HO1.out
      have h2 : OwnRels (w1.heap.size + 1) (.slice Q1 rl.length c1) rl w3 := h1.mono (by have := S2.out; omega)
      have h3 := h2.chg ((Chg.refl (fun g => g = w1.heap.size) w3).setCell (p := ⟨w1.heap.size, 0, none⟩) rfl (.slice Q1 rl.length c1)) (fun g hg e => by have := (h2.lt g hg).1; omega)
      exact ⟨h3.chg (Chg.of_below (S := fun _ => False) (by rw [hz4]; exact hb5)) (fun g hg e => e), fun g hg => (h1.lt g hg).2⟩)
    have hYW : w1.heap.size + 1 ≤ w5.heap.size := by have := S2.out; omega
    have HYW := Lib.hid (show w1.heap.size < w3.heap.size by have := S2.out; omega)
    have HML := Lib.hid (show ∀ g, Value.ownBlock (.slice AM M.length cM) = some g → w3.heap.size ≤ g from fun g hg => by have h1 := (World.ownsRow.lt hOM g hg).1; rw [hz4] at h1; exact h1)
    clear hM hOM hMt hz4 hb5 y0 y1 yz lb4 hb45 hW5 HO1 HB3 e2 hE hz1 hb1 S2 Y0 Y1 YZ LA
    go_wp2
    go_loopw [7] (fun i wr => ∃ (k : Nat) (V : Value) (Vs : List Value), k ≤ M.length ∧ i = .int .i64 k ∧ Hid (k = 0 ∨ b.data.toList ≠ []) ∧ wr.cell? ⟨w1.heap.size, 0, none⟩ = some (.slice Q1 rl.length c1) ∧ wr.cell? ⟨w1.heap.size, 1, none⟩ = some V ∧ (∀ o, wr.frozen? ⟨w1.heap.size, o, none⟩ = false) ∧ FactSO 57 w5.heap.size wr.heap.size V Vs ((M.take k).map (pf rl)) wr ∧ Hid (Chg (fun g => g = w1.heap.size) w5 wr)) (fun i _ => M.length - (intOf i).toNat)
    case atStart => exact ⟨0, _, [], by omega, rfl, Lib.hid (.inl rfl), x0, x1, xz, ⟨rfl, World.ownsRow_nil _ _ _ _, (fun g hg => by cases hg), (fun i h => by simp at h), List.Pairwise.nil⟩, Lib.hid (Chg.refl _ _)⟩
    case round =>
      clear x0 x1 xz
      obtain ⟨k, V, Vs, hk, rfl, HK0, y0, y1, yz, hO, HC⟩ := hrel
      have HO := Lib.hid hO
      clear hO
      have hC := HC.out
      have hz := hC.size
      have lbr := (hC.cell (b := gl) (o := ol + 1) (by omega) (by have := HG.out; omega)).trans LB5.out
      by_cases hgo : k < M.length ∧ b.data.toList ≠ []
      · obtain ⟨hlt, hbn⟩ := hgo
        have hbe : b.toList.isEmpty = false := by rw [ByteArray.toList_eq]; exact List.isEmpty_eq_false_iff.2 hbn
        have HBN := Lib.hid hbn
        clear hbn
        obtain ⟨bm, om, hAM, hbm, hcm⟩ := StrsAt.elem HM.out k hlt
        subst hAM
        have htk := HMt.out M[k] (List.getElem_mem hlt)
        have HKT := Lib.hid (List.take_succ_eq_append_getElem hlt)
        have hcr := (hC.cell (b := bm) (o := om + k) hbm (by have h1 := HML.out bm rfl; have h2 := HYW.out; omega)).trans hcm
        have HRC := Lib.hid (RelationS_own.chg (B := w1.heap.size + 1) (C := w3.heap.size) (B' := w1.heap.size) (C' := w1.heap.size + 1) HOR.out (HC.out.mono fun g hg => by subst hg; exact ⟨Nat.le_refl _, Nat.lt_succ_self _⟩) (.inr (Nat.le_refl _)))
        have hcon := fun wq (hq : Below wr.heap.size wr wq) => specParseFact_any (.slice Q1 rl.length c1) rl M[k] wq (((HRC.out.at_ (D := wr.heap.size) (by omega)).below hq (Nat.le_refl _)).more hq.size) (by have := HSM.out.1; omega) htk
        generalize M[k] = t at *
        have hS : Holds [(⟨w1.heap.size, 0, none⟩, .slice Q1 rl.length c1), (⟨bm, om + k, none⟩, .string t)] wr.drew := by
          intro p hp
          simp only [List.mem_cons, List.not_mem_nil, or_false] at hp
          rcases hp with rfl | rfl
          · exact y0
          · exact hcr
        have g0 := Keep.cell (h0 := hS) (a := ⟨w1.heap.size, 0, none⟩) (v := .slice Q1 rl.length c1) (by simp)
        have g1 := Keep.cell (h0 := hS) (a := ⟨bm, om + k, none⟩) (v := .string t) (by simp)
        have hSb : ∀ p ∈ [((⟨w1.heap.size, 0, none⟩ : Addr), Value.slice Q1 rl.length c1), (⟨bm, om + k, none⟩, .string t)], p.1.block < wr.heap.size := by
          intro p hp
          simp only [List.mem_cons, List.not_mem_nil, or_false] at hp
          rcases hp with rfl | rfl <;> simp <;> omega
        have HCr := Lib.hid hC
        have HCO := Lib.hid hcon
        clear hcr hcm hcon hC
        go_wp2_with fail
        refine wp_region_planL (C := fun w' => ∃ u : Keep _ wr.drew hS, w' = u.now) (.still 0 (.still 1 (.still 2 (.still 3 (.still 4 (.still 5 (.move true 6 (.still 7 (.still 8 (.still 9 (.move true 10 (.move true 11 (.still 12 .done) .none) .none)))) (.move true 10 (.move true 6 (.still 7 (.still 8 (.still 9 (.move true 11 (.still 12 .done) .none)))) .none) .none)))))))) (by kernel_rfl) (by kernel_rfl) (by kernel_rfl) (fun _ => ⟨⟨_, hS⟩, rfl⟩) ?_
        iterate 6
          refine plan_look _ rfl rfl ?_
          go_big_quiet_step (fail)
          refine wpQuiet_nil ?_
        refine plan_call _ 39 _ _ _ _ _ rfl _ Tryz.func39 (by kernel_rfl) (by kernel_rfl) ?_ ?_
        · refine (HCO.out wr.drew (Below.refl _ _).drew).mono ?_
          rintro _ w6 ⟨Vf, rfl, hOf, hb6⟩
          have HLn := Lib.hid (show (ParseFact_r0 rl t).vals.length ≤ 3 by have := pfact_len rl t.data.toList; unfold pfact at this; rwa [← mk_self] at this)
          have HPf := Lib.hid (show pf rl t = ParseFact_r0 rl t from rfl)
          generalize ParseFact_r0 rl t = fx at *
          obtain ⟨Pf, cf, rfl, -⟩ := hOf.at_
          have hb6' : Below wr.heap.size wr w6 := (Below.refl _ _).drew.trans hb6
          have hz6 := hb6'.size
          have hb6d : Below wr.heap.size wr.drew w6 := hb6
          refine ⟨_, rfl, fun _ => ⟨⟨_, hS.below hb6d hSb⟩, rfl⟩, ?_⟩
          refine plan_put ?_ (by simp only [Act.put, List.setIfInBounds_toArray, List.set_cons_succ, List.set_cons_zero]; rfl)
          iterate 3
            refine plan_look _ rfl rfl ?_
            go_big_quiet_step (fail)
            refine wpQuiet_nil ?_
          refine plan_value (u := .pointer (some ⟨w6.heap.size, 0, none⟩)) (w' := w6.alloc (.cells #[.int .i64 0, .slice none 0 0] 57)) _ rfl rfl rfl (by simp [go_sem]) (fun _ => ⟨⟨_, hS.below (hb6d.alloc hz6 _) hSb⟩, rfl⟩) ?_ True.intro
          refine plan_put ?_ (by simp only [Act.put, List.setIfInBounds_toArray, List.set_cons_succ, List.set_cons_zero]; rfl)
          have hB7d : Below wr.heap.size wr.drew (((w6.alloc (.cells #[.int .i64 0, .slice none 0 0] 57)).setCell ⟨w6.heap.size, 0, none⟩ (.int .i64 fx.rel)).setCell ⟨w6.heap.size, 1, none⟩ (.slice Pf fx.vals.length cf)) := ((hb6d.alloc hz6 _).setCell (p := ⟨w6.heap.size, 0, none⟩) hz6 _).setCell (p := ⟨w6.heap.size, 1, none⟩) hz6 _
          refine plan_skip (w' := ((w6.alloc (.cells #[.int .i64 0, .slice none 0 0] 57)).setCell ⟨w6.heap.size, 0, none⟩ (.int .i64 fx.rel)).setCell ⟨w6.heap.size, 1, none⟩ (.slice Pf fx.vals.length cf)) _ rfl rfl rfl (by simp [go_sem]) (fun _ => ⟨⟨_, hS.below hB7d hSb⟩, rfl⟩) ?_ True.intro
          refine plan_put ?_ (by simp only [Act.put]; rfl)
          refine plan_look _ rfl rfl ?_
          go_big_quiet_step (fail)
          refine wpQuiet_nil ?_
          refine plan_done ?_
          have hB7 : Below wr.heap.size wr (((w6.alloc (.cells #[.int .i64 0, .slice none 0 0] 57)).setCell ⟨w6.heap.size, 0, none⟩ (.int .i64 fx.rel)).setCell ⟨w6.heap.size, 1, none⟩ (.slice Pf fx.vals.length cf)) := ((hb6'.alloc hz6 _).setCell (p := ⟨w6.heap.size, 0, none⟩) hz6 _).setCell (p := ⟨w6.heap.size, 1, none⟩) hz6 _
          have v0 : (((w6.alloc (.cells #[.int .i64 0, .slice none 0 0] 57)).setCell ⟨w6.heap.size, 0, none⟩ (.int .i64 fx.rel)).setCell ⟨w6.heap.size, 1, none⟩ (.slice Pf fx.vals.length cf)).cell? ⟨w6.heap.size, 0, none⟩ = some (.int .i64 fx.rel) := by simp [go_sem]
          have v1 : (((w6.alloc (.cells #[.int .i64 0, .slice none 0 0] 57)).setCell ⟨w6.heap.size, 0, none⟩ (.int .i64 fx.rel)).setCell ⟨w6.heap.size, 1, none⟩ (.slice Pf fx.vals.length cf)).cell? ⟨w6.heap.size, 1, none⟩ = some (.slice Pf fx.vals.length cf) := by simp [go_sem]
          have HU7 := Lib.hid (show IntS_own wr.heap.size w6.heap.size (.slice Pf fx.vals.length cf) fx.vals (((w6.alloc (.cells #[.int .i64 0, .slice none 0 0] 57)).setCell ⟨w6.heap.size, 0, none⟩ (.int .i64 fx.rel)).setCell ⟨w6.heap.size, 1, none⟩ (.slice Pf fx.vals.length cf)) from ((IntsO.of hOf).mono (show wr.heap.size ≤ wr.drew.heap.size from Nat.le_refl _) (Nat.le_refl _)).below ((((Below.refl w6.heap.size w6).alloc (Nat.le_refl _) _).setCell (p := ⟨w6.heap.size, 0, none⟩) (Nat.le_refl _) _).setCell (p := ⟨w6.heap.size, 1, none⟩) (Nat.le_refl _) _) (Nat.le_refl _))
          have hs7 : w6.heap.size ≤ (((w6.alloc (.cells #[.int .i64 0, .slice none 0 0] 57)).setCell ⟨w6.heap.size, 0, none⟩ (.int .i64 fx.rel)).setCell ⟨w6.heap.size, 1, none⟩ (.slice Pf fx.vals.length cf)).heap.size := by simp [World.setCell]
          generalize ((w6.alloc (.cells #[.int .i64 0, .slice none 0 0] 57)).setCell ⟨w6.heap.size, 0, none⟩ (.int .i64 fx.rel)).setCell ⟨w6.heap.size, 1, none⟩ (.slice Pf fx.vals.length cf) = w7 at *
          clear hb6 hb6' hb6d hB7d
          have hz7 := hB7.size
          replace y0 := (hB7.cell (p := ⟨w1.heap.size, 0, none⟩) (by show w1.heap.size < _; omega)).trans y0
          replace y1 := (hB7.cell (p := ⟨w1.heap.size, 1, none⟩) (by show w1.heap.size < _; omega)).trans y1
          replace yz := fun o => (hB7.frozen (p := ⟨w1.heap.size, o, none⟩) (by show w1.heap.size < _; omega)).trans (yz o)
          have HO7 := Lib.hid (HO.out.below hB7 (Nat.le_refl _))
          have HC7 := Lib.hid (HCr.out.then_below (hB7.mono hz))
          have hVl := HO.out.len
          have hp7 := pairs_len hVl
          have hkl : ((M.take k).map (pf rl)).length = k := by simp; omega
          have hM1 : M.length ≤ 1048577 := by omega
          have HEL := Lib.hid HO.out.el
          clear g0 g1 hOf HCO hS hSb lbr HO HC HCr
          go_wp2_with (at_builtin; refine wp_own_app_one pairCells 2 32 pairCells_len Tryz.underlying38 infoFct rfl (by decide) HO7.out.row rfl _ _ rfl rfl (fx.rel, .slice Pf fx.vals.length cf) (fun u hu => by simp [pairCells] at hu; rcases hu with rfl | rfl <;> rfl) 1 rfl (by omega) (by omega) (by omega) ?_; intro v8 w8 hrow hB8 hg8; have hz8 := hB8.size; have hFS := FactSO.snoc (e := 57) (by decide) (x := fx) (C' := w8.heap.size) HO7.out (by omega) hrow hg8 (row_inside hrow (Nat.le_refl _)) (HU7.out.mono (by omega) (by omega)) (fun i hi g h1 h2 => by have q1 : wr.heap.size ≤ g := (HU7.out.1.lt g h2).1; have q2 := (HEL.out i (by omega) hi).2 g h1; omega); obtain ⟨P4, c4, rfl, -⟩ := (hFS.at_ (Nat.le_refl _)).form; have z0 := (hB8.cell (p := ⟨w1.heap.size, 0, none⟩) (by show w1.heap.size < _; omega)).trans y0; have z1 := (hB8.cell (p := ⟨w1.heap.size, 1, none⟩) (by show w1.heap.size < _; omega)).trans y1; have zz := fun o => (hB8.frozen (p := ⟨w1.heap.size, o, none⟩) (by show w1.heap.size < _; omega)).trans (yz o))
          go_roundw
          case rel =>
            refine ⟨k + 1, .slice P4 ((M.take k).map (pf rl) ++ [fx]).length c4, Vs ++ [.slice Pf fx.vals.length cf], by omega, by go_num, Lib.hid (.inr HBN.out), by simp [go_sem, z0], by simp [go_sem, z1] <;> omega, fun o => by simp [go_sem, zz], ?_, Lib.hid ((HC7.out.then_below hB8).setCell (p := ⟨w1.heap.size, 1, none⟩) rfl _)⟩
            rw [show (M.take (k + 1)).map (pf rl) = (M.take k).map (pf rl) ++ [fx] by rw [HKT.out, List.map_append, ← HPf.out]; rfl]
            exact (hFS.chg (((Chg.refl (Mid w1.heap.size (w1.heap.size + 1)) w8).setCell (p := ⟨w1.heap.size, 1, none⟩) ⟨Nat.le_refl _, Nat.lt_succ_self _⟩ _)) (.inr hYW)).mono (Nat.le_refl _) (by simp [World.setCell])
          case measure => simp [intOf]; omega
        · have hA : Below wr.heap.size wr (wr.drew.alloc (.cells #[.int .i64 0, .slice none 0 0] 57)) := (Below.refl wr.heap.size wr).drew.alloc (show wr.heap.size ≤ wr.drew.heap.size from Nat.le_refl _) _
          have hAd : Below wr.heap.size wr.drew (wr.drew.alloc (.cells #[.int .i64 0, .slice none 0 0] 57)) := (Below.refl wr.heap.size wr.drew).alloc (show wr.heap.size ≤ wr.drew.heap.size from Nat.le_refl _) _
          have a0 : (wr.drew.alloc (.cells #[.int .i64 0, .slice none 0 0] 57)).cell? ⟨wr.heap.size, 0, none⟩ = some (.int .i64 0) := box_cell wr.drew _ _ 0
          have a1 : (wr.drew.alloc (.cells #[.int .i64 0, .slice none 0 0] 57)).cell? ⟨wr.heap.size, 1, none⟩ = some (.slice none 0 0) := box_cell wr.drew _ _ 1
          have az : ∀ o, (wr.drew.alloc (.cells #[.int .i64 0, .slice none 0 0] 57)).frozen? ⟨wr.heap.size, o, none⟩ = false := by
            intro o
            exact (show (wr.drew.alloc (.cells #[.int .i64 0, .slice none 0 0] 57)).frozen? ⟨wr.drew.heap.size, o, none⟩ = false by simp [go_sem])
          have hsA : wr.heap.size + 1 = (wr.drew.alloc (.cells #[.int .i64 0, .slice none 0 0] 57)).heap.size := by
            exact (show wr.drew.heap.size + 1 = (wr.drew.alloc (.cells #[.int .i64 0, .slice none 0 0] 57)).heap.size by simp)
          have hcA := HCO.out (wr.drew.alloc (.cells #[.int .i64 0, .slice none 0 0] 57)) hA
          refine plan_value (u := .pointer (some ⟨wr.heap.size, 0, none⟩)) (w' := wr.drew.alloc (.cells #[.int .i64 0, .slice none 0 0] 57)) _ rfl rfl rfl (by simp [go_sem]) (fun _ => ⟨⟨_, hS.below hAd hSb⟩, rfl⟩) ?_ True.intro
          refine plan_put ?_ (by simp only [Act.put, List.setIfInBounds_toArray, List.set_cons_succ, List.set_cons_zero]; rfl)
          refine plan_call _ 39 _ _ _ _ _ rfl _ Tryz.func39 (by kernel_rfl) (by kernel_rfl) ?_ True.intro
          refine hcA.mono ?_
          rintro _ w6 ⟨Vf, rfl, hOf, hb6⟩
          have HLn := Lib.hid (show (ParseFact_r0 rl t).vals.length ≤ 3 by have := pfact_len rl t.data.toList; unfold pfact at this; rwa [← mk_self] at this)
          have HPf := Lib.hid (show pf rl t = ParseFact_r0 rl t from rfl)
          generalize ParseFact_r0 rl t = fx at *
          obtain ⟨Pf, cf, rfl, -⟩ := hOf.at_
          have hb6d : Below wr.heap.size wr.drew w6 := hAd.trans (hb6.mono hAd.size)
          have hb6' : Below wr.heap.size wr w6 := hA.trans (hb6.mono hA.size)
          have hz6 := hb6.size
          replace a0 := (hb6.cell (p := ⟨wr.heap.size, 0, none⟩) (by show wr.heap.size < _; omega)).trans a0
          replace a1 := (hb6.cell (p := ⟨wr.heap.size, 1, none⟩) (by show wr.heap.size < _; omega)).trans a1
          replace az := fun o => (hb6.frozen (p := ⟨wr.heap.size, o, none⟩) (by show wr.heap.size < _; omega)).trans (az o)
          have HSA := Lib.hid hsA
          clear hsA hcA
          refine ⟨_, rfl, fun _ => ⟨⟨_, hS.below hb6d hSb⟩, rfl⟩, ?_⟩
          refine plan_put ?_ (by simp only [Act.put, List.setIfInBounds_toArray, List.set_cons_succ, List.set_cons_zero]; rfl)
          iterate 3
            refine plan_look _ rfl rfl ?_
            go_big_quiet_step (fail)
            refine wpQuiet_nil ?_
          have hB7d : Below wr.heap.size wr.drew ((w6.setCell ⟨wr.heap.size, 0, none⟩ (.int .i64 fx.rel)).setCell ⟨wr.heap.size, 1, none⟩ (.slice Pf fx.vals.length cf)) := (hb6d.setCell (p := ⟨wr.heap.size, 0, none⟩) (Nat.le_refl _) _).setCell (p := ⟨wr.heap.size, 1, none⟩) (Nat.le_refl _) _
          refine plan_skip (w' := (w6.setCell ⟨wr.heap.size, 0, none⟩ (.int .i64 fx.rel)).setCell ⟨wr.heap.size, 1, none⟩ (.slice Pf fx.vals.length cf)) _ rfl rfl rfl (by simp [go_sem, a0, a1, az]) (fun _ => ⟨⟨_, hS.below hB7d hSb⟩, rfl⟩) ?_ True.intro
          refine plan_put ?_ (by simp only [Act.put]; rfl)
          refine plan_look _ rfl rfl ?_
          go_big_quiet_step (fail)
          refine wpQuiet_nil ?_
          refine plan_done ?_
          have hB7 : Below wr.heap.size wr ((w6.setCell ⟨wr.heap.size, 0, none⟩ (.int .i64 fx.rel)).setCell ⟨wr.heap.size, 1, none⟩ (.slice Pf fx.vals.length cf)) := (hb6'.setCell (p := ⟨wr.heap.size, 0, none⟩) (Nat.le_refl _) _).setCell (p := ⟨wr.heap.size, 1, none⟩) (Nat.le_refl _) _
          have v0 : ((w6.setCell ⟨wr.heap.size, 0, none⟩ (.int .i64 fx.rel)).setCell ⟨wr.heap.size, 1, none⟩ (.slice Pf fx.vals.length cf)).cell? ⟨wr.heap.size, 0, none⟩ = some (.int .i64 fx.rel) := by simp [go_sem, a0]
          have v1 : ((w6.setCell ⟨wr.heap.size, 0, none⟩ (.int .i64 fx.rel)).setCell ⟨wr.heap.size, 1, none⟩ (.slice Pf fx.vals.length cf)).cell? ⟨wr.heap.size, 1, none⟩ = some (.slice Pf fx.vals.length cf) := by simp [go_sem, a1]
          have HU7 := Lib.hid (show IntS_own wr.heap.size w6.heap.size (.slice Pf fx.vals.length cf) fx.vals ((w6.setCell ⟨wr.heap.size, 0, none⟩ (.int .i64 fx.rel)).setCell ⟨wr.heap.size, 1, none⟩ (.slice Pf fx.vals.length cf)) from ((IntsO.of hOf).chg (B' := wr.heap.size) (C' := wr.heap.size + 1) (((Chg.refl _ w6).setCell (p := ⟨wr.heap.size, 0, none⟩) (show wr.heap.size ≤ wr.heap.size ∧ wr.heap.size < wr.heap.size + 1 by omega) _).setCell (p := ⟨wr.heap.size, 1, none⟩) (show wr.heap.size ≤ wr.heap.size ∧ wr.heap.size < wr.heap.size + 1 by omega) _) (.inr (by rw [HSA.out]; exact Nat.le_refl _))).mono (by have := HSA.out; omega) (Nat.le_refl _))
          have hs7 : w6.heap.size ≤ ((w6.setCell ⟨wr.heap.size, 0, none⟩ (.int .i64 fx.rel)).setCell ⟨wr.heap.size, 1, none⟩ (.slice Pf fx.vals.length cf)).heap.size := by simp [World.setCell]
          have hz6' : wr.heap.size ≤ w6.heap.size := hb6'.size
          clear a0 a1 az hz6
          generalize (w6.setCell ⟨wr.heap.size, 0, none⟩ (.int .i64 fx.rel)).setCell ⟨wr.heap.size, 1, none⟩ (.slice Pf fx.vals.length cf) = w7 at *
          clear hb6 hb6' hb6d hB7d hA hAd
          have hz7 := hB7.size
          replace y0 := (hB7.cell (p := ⟨w1.heap.size, 0, none⟩) (by show w1.heap.size < _; omega)).trans y0
          replace y1 := (hB7.cell (p := ⟨w1.heap.size, 1, none⟩) (by show w1.heap.size < _; omega)).trans y1
          replace yz := fun o => (hB7.frozen (p := ⟨w1.heap.size, o, none⟩) (by show w1.heap.size < _; omega)).trans (yz o)
          have HO7 := Lib.hid (HO.out.below hB7 (Nat.le_refl _))
          have HC7 := Lib.hid (HCr.out.then_below (hB7.mono hz))
          have hVl := HO.out.len
          have hp7 := pairs_len hVl
          have hkl : ((M.take k).map (pf rl)).length = k := by simp; omega
          have hM1 : M.length ≤ 1048577 := by omega
          have HEL := Lib.hid HO.out.el
          clear g0 g1 hOf HCO hS hSb lbr HO HC HCr
          go_wp2_with (at_builtin; refine wp_own_app_one pairCells 2 32 pairCells_len Tryz.underlying38 infoFct rfl (by decide) HO7.out.row rfl _ _ rfl rfl (fx.rel, .slice Pf fx.vals.length cf) (fun u hu => by simp [pairCells] at hu; rcases hu with rfl | rfl <;> rfl) 1 rfl (by omega) (by omega) (by omega) ?_; intro v8 w8 hrow hB8 hg8; have hz8 := hB8.size; have hFS := FactSO.snoc (e := 57) (by decide) (x := fx) (C' := w8.heap.size) HO7.out (by omega) hrow hg8 (row_inside hrow (Nat.le_refl _)) (HU7.out.mono (by omega) (by omega)) (fun i hi g h1 h2 => by have q1 : wr.heap.size ≤ g := (HU7.out.1.lt g h2).1; have q2 := (HEL.out i (by omega) hi).2 g h1; omega); obtain ⟨P4, c4, rfl, -⟩ := (hFS.at_ (Nat.le_refl _)).form; have z0 := (hB8.cell (p := ⟨w1.heap.size, 0, none⟩) (by show w1.heap.size < _; omega)).trans y0; have z1 := (hB8.cell (p := ⟨w1.heap.size, 1, none⟩) (by show w1.heap.size < _; omega)).trans y1; have zz := fun o => (hB8.frozen (p := ⟨w1.heap.size, o, none⟩) (by show w1.heap.size < _; omega)).trans (yz o))
          go_roundw
          case rel =>
            refine ⟨k + 1, .slice P4 ((M.take k).map (pf rl) ++ [fx]).length c4, Vs ++ [.slice Pf fx.vals.length cf], by omega, by go_num, Lib.hid (.inr HBN.out), by simp [go_sem, z0], by simp [go_sem, z1] <;> omega, fun o => by simp [go_sem, zz], ?_, Lib.hid ((HC7.out.then_below hB8).setCell (p := ⟨w1.heap.size, 1, none⟩) rfl _)⟩
            rw [show (M.take (k + 1)).map (pf rl) = (M.take k).map (pf rl) ++ [fx] by rw [HKT.out, List.map_append, ← HPf.out]; rfl]
            exact (hFS.chg (((Chg.refl (Mid w1.heap.size (w1.heap.size + 1)) w8).setCell (p := ⟨w1.heap.size, 1, none⟩) ⟨Nat.le_refl _, Nat.lt_succ_self _⟩ _)) (.inr hYW)).mono (Nat.le_refl _) (by simp [World.setCell])
          case measure => simp [intOf]; omega
      · have HD : Hid ((M.take k).map (pf rl) = factsOf rl b.data.toList) := Lib.hid (by
          by_cases hb0 : b.data.toList = []
          · rcases HK0.out with h0 | h0
            · subst h0; unfold factsOf; rw [if_pos hb0]; rfl
            · exact absurd hb0 h0
          · have hkM : k = M.length := by
              rcases Nat.lt_or_eq_of_le hk with h1 | h1
              · exact absurd ⟨h1, hb0⟩ hgo
              · exact h1
            unfold factsOf; rw [if_neg hb0, hkM, List.take_of_length_le (Nat.le_refl _), pf_eq, HMD.out])
        by_cases hlt : k < M.length
        · have hb0 : b.data.toList = [] := Classical.byContradiction fun h => hgo ⟨hlt, h⟩
          have hbe : b.toList.isEmpty = true := by rw [ByteArray.toList_eq, hb0]; rfl
          clear hb0
          obtain ⟨Q2, d2, rfl, -⟩ := (HO.out.at_ (Nat.le_refl _)).form
          have HRC := Lib.hid (RelationS_own.chg (B := w1.heap.size + 1) (C := w3.heap.size) (B' := w1.heap.size) (C' := w1.heap.size + 1) HOR.out (HC.out.mono fun g hg => by subst hg; exact ⟨Nat.le_refl _, Nat.lt_succ_self _⟩) (.inr (Nat.le_refl _)))
          have hff := specFormatInstance_len (.agg #[.slice Q1 rl.length c1, .slice Q2 ((M.take k).map (pf rl)).length d2]) ⟨rl, (M.take k).map (pf rl)⟩ wr ⟨_, _, rfl, HRC.out.at_ (by omega), HO.out.at_ (Nat.le_refl _)⟩ ⟨HSM.out.2, fun i hi => by simp only [List.getElem_map]; exact pf_wf _ _⟩ (by have := HSM.out.1; show rl.length ≤ _; omega)
          rw [HD.out] at hff HO y1
          have r0 := (hC.cell (b := w.heap.size) (o := 0) (by have := HWW.out; omega) (by have := HWW.out; omega)).trans ((HWr.out.cell (p := ⟨w.heap.size, 0, none⟩) hEz).trans R0.out)
          have r1 := (hC.cell (b := w.heap.size) (o := 1) (by have := HWW.out; omega) (by have := HWW.out; omega)).trans ((HWr.out.cell (p := ⟨w.heap.size, 1, none⟩) hEz).trans R1.out)
          have r2 := fun o => (hC.frozen (b := w.heap.size) (o := o) (by have := HWW.out; omega) (by have := HWW.out; omega)).trans ((HWr.out.frozen (p := ⟨w.heap.size, o, none⟩) hEz).trans (R2 o).out)
          have HwW := Lib.hid (HW5.out.trans (hC.below (fun g hg => by have := HWW.out; omega) (by have := HWW.out; omega)))
          have hYr : w1.heap.size < wr.heap.size := by omega
          have hwr : w.heap.size < wr.heap.size := by have := HWW.out; omega
          generalize factsOf rl b.data.toList = fs at *
          obtain ⟨F, hF⟩ : ∃ F : ByteArray, F = ⟨(fmtInst ⟨rl, fs⟩).toArray⟩ := ⟨_, rfl⟩
          rw [← hF] at hff
          clear hgo hC HMD
          by_cases hFs : F = s
          · have HV := Lib.hid (parseInst_yes (HAB.out.trans (if_pos (by rw [← hFs, hF]))))
            have he : (F.toList == s.toList) = true := by rw [hFs]; exact str_eq s
            clear hF hFs
            go_wp2_with fail
            refine hff.mono ?_
            rintro e w6 ⟨rfl, hb6⟩
            have hz6 := hb6.size
            replace r0 := (hb6.cell (p := ⟨w.heap.size, 0, none⟩) hwr).trans r0
            replace r1 := (hb6.cell (p := ⟨w.heap.size, 1, none⟩) hwr).trans r1
            replace r2 := fun o => (hb6.frozen (p := ⟨w.heap.size, o, none⟩) hwr).trans (r2 o)
            replace y0 := (hb6.cell (p := ⟨w1.heap.size, 0, none⟩) hYr).trans y0
            replace y1 := (hb6.cell (p := ⟨w1.heap.size, 1, none⟩) hYr).trans y1
            have HST : ∀ u1 u2, Chg (Mid w.heap.size (w.heap.size + 1)) w6 ((w6.setCell ⟨w.heap.size, 0, none⟩ u1).setCell ⟨w.heap.size, 1, none⟩ u2) := fun u1 u2 => ((Chg.refl _ w6).setCell (p := ⟨w.heap.size, 0, none⟩) (show w.heap.size ≤ w.heap.size ∧ w.heap.size < w.heap.size + 1 by omega) _).setCell (p := ⟨w.heap.size, 1, none⟩) (show w.heap.size ≤ w.heap.size ∧ w.heap.size < w.heap.size + 1 by omega) _
            have HB6 := Lib.hid hb6
            clear hb6 yz hff
            go_wp2
            refine bodyPost_ret (v := .tuple #[.agg #[.slice Q1 rl.length c1, .slice Q2 fs.length d2], .bool true]) (by simp [results, Tryz.results23, go_sem, r0, r1]) rfl ⟨_, by rw [HV.out.2], ?_, ?_⟩
            · rw [HV.out.1]
              refine ⟨_, _, rfl, ?_, ?_⟩
              · exact ((HRC.out.below HB6.out (by omega)).chg (HST _ _) (.inr (by have := HWW.out; omega))).mono (by have := HWW.out; omega) (by simp [World.setCell]; omega)
              · exact (FactS_own.chg ⟨Vs, HO.out.below HB6.out (Nat.le_refl _)⟩ (HST _ _) (.inr (by have := HWW.out; omega))).mono (by have := HWW.out; omega) (by simp [World.setCell]; omega)
            · exact ((HwW.out.trans (HB6.out.mono HwW.out.size)).setCell (p := ⟨w.heap.size, 0, none⟩) (Nat.le_refl _) _).setCell (p := ⟨w.heap.size, 1, none⟩) (Nat.le_refl _) _
          · have HV := Lib.hid (parseInst_no (HAB.out.trans (if_neg (fun e => hFs (by rw [hF]; exact bytes_ext e)))))
            have he := str_ne hFs
            clear hF hFs
            go_wp2_with fail
            refine hff.mono ?_
            rintro e w6 ⟨rfl, hb6⟩
            have hz6 := hb6.size
            replace r0 := (hb6.cell (p := ⟨w.heap.size, 0, none⟩) hwr).trans r0
            replace r1 := (hb6.cell (p := ⟨w.heap.size, 1, none⟩) hwr).trans r1
            replace r2 := fun o => (hb6.frozen (p := ⟨w.heap.size, o, none⟩) hwr).trans (r2 o)
            have HB6 := Lib.hid hb6
            clear hb6 yz hff y0 y1
            go_wp2
            refine bodyPost_ret (v := .tuple #[.agg #[.slice none 0 0, .slice none 0 0], .bool false]) (by simp [results, Tryz.results23, go_sem, r0, r1]) rfl ⟨_, by rw [HV.out.2], by rw [HV.out.1]; exact instOwn_nil _ _ _, ?_⟩
            exact ((HwW.out.trans (HB6.out.mono HwW.out.size)).setCell (p := ⟨w.heap.size, 0, none⟩) (Nat.le_refl _) _).setCell (p := ⟨w.heap.size, 1, none⟩) (Nat.le_refl _) _
        · have hnl : ¬ k < M.length := hlt
          obtain ⟨Q2, d2, rfl, -⟩ := (HO.out.at_ (Nat.le_refl _)).form
          have HRC := Lib.hid (RelationS_own.chg (B := w1.heap.size + 1) (C := w3.heap.size) (B' := w1.heap.size) (C' := w1.heap.size + 1) HOR.out (HC.out.mono fun g hg => by subst hg; exact ⟨Nat.le_refl _, Nat.lt_succ_self _⟩) (.inr (Nat.le_refl _)))
          have hff := specFormatInstance_len (.agg #[.slice Q1 rl.length c1, .slice Q2 ((M.take k).map (pf rl)).length d2]) ⟨rl, (M.take k).map (pf rl)⟩ wr ⟨_, _, rfl, HRC.out.at_ (by omega), HO.out.at_ (Nat.le_refl _)⟩ ⟨HSM.out.2, fun i hi => by simp only [List.getElem_map]; exact pf_wf _ _⟩ (by have := HSM.out.1; show rl.length ≤ _; omega)
          rw [HD.out] at hff HO y1
          have r0 := (hC.cell (b := w.heap.size) (o := 0) (by have := HWW.out; omega) (by have := HWW.out; omega)).trans ((HWr.out.cell (p := ⟨w.heap.size, 0, none⟩) hEz).trans R0.out)
          have r1 := (hC.cell (b := w.heap.size) (o := 1) (by have := HWW.out; omega) (by have := HWW.out; omega)).trans ((HWr.out.cell (p := ⟨w.heap.size, 1, none⟩) hEz).trans R1.out)
          have r2 := fun o => (hC.frozen (b := w.heap.size) (o := o) (by have := HWW.out; omega) (by have := HWW.out; omega)).trans ((HWr.out.frozen (p := ⟨w.heap.size, o, none⟩) hEz).trans (R2 o).out)
          have HwW := Lib.hid (HW5.out.trans (hC.below (fun g hg => by have := HWW.out; omega) (by have := HWW.out; omega)))
          have hYr : w1.heap.size < wr.heap.size := by omega
          have hwr : w.heap.size < wr.heap.size := by have := HWW.out; omega
          generalize factsOf rl b.data.toList = fs at *
          obtain ⟨F, hF⟩ : ∃ F : ByteArray, F = ⟨(fmtInst ⟨rl, fs⟩).toArray⟩ := ⟨_, rfl⟩
          rw [← hF] at hff
          clear hgo hC HMD
          by_cases hFs : F = s
          · have HV := Lib.hid (parseInst_yes (HAB.out.trans (if_pos (by rw [← hFs, hF]))))
            have he : (F.toList == s.toList) = true := by rw [hFs]; exact str_eq s
            clear hF hFs
            go_wp2_with fail
            refine hff.mono ?_
            rintro e w6 ⟨rfl, hb6⟩
            have hz6 := hb6.size
            replace r0 := (hb6.cell (p := ⟨w.heap.size, 0, none⟩) hwr).trans r0
            replace r1 := (hb6.cell (p := ⟨w.heap.size, 1, none⟩) hwr).trans r1
            replace r2 := fun o => (hb6.frozen (p := ⟨w.heap.size, o, none⟩) hwr).trans (r2 o)
            replace y0 := (hb6.cell (p := ⟨w1.heap.size, 0, none⟩) hYr).trans y0
            replace y1 := (hb6.cell (p := ⟨w1.heap.size, 1, none⟩) hYr).trans y1
            have HST : ∀ u1 u2, Chg (Mid w.heap.size (w.heap.size + 1)) w6 ((w6.setCell ⟨w.heap.size, 0, none⟩ u1).setCell ⟨w.heap.size, 1, none⟩ u2) := fun u1 u2 => ((Chg.refl _ w6).setCell (p := ⟨w.heap.size, 0, none⟩) (show w.heap.size ≤ w.heap.size ∧ w.heap.size < w.heap.size + 1 by omega) _).setCell (p := ⟨w.heap.size, 1, none⟩) (show w.heap.size ≤ w.heap.size ∧ w.heap.size < w.heap.size + 1 by omega) _
            have HB6 := Lib.hid hb6
            clear hb6 yz hff
            go_wp2
            refine bodyPost_ret (v := .tuple #[.agg #[.slice Q1 rl.length c1, .slice Q2 fs.length d2], .bool true]) (by simp [results, Tryz.results23, go_sem, r0, r1]) rfl ⟨_, by rw [HV.out.2], ?_, ?_⟩
            · rw [HV.out.1]
              refine ⟨_, _, rfl, ?_, ?_⟩
              · exact ((HRC.out.below HB6.out (by omega)).chg (HST _ _) (.inr (by have := HWW.out; omega))).mono (by have := HWW.out; omega) (by simp [World.setCell]; omega)
              · exact (FactS_own.chg ⟨Vs, HO.out.below HB6.out (Nat.le_refl _)⟩ (HST _ _) (.inr (by have := HWW.out; omega))).mono (by have := HWW.out; omega) (by simp [World.setCell]; omega)
            · exact ((HwW.out.trans (HB6.out.mono HwW.out.size)).setCell (p := ⟨w.heap.size, 0, none⟩) (Nat.le_refl _) _).setCell (p := ⟨w.heap.size, 1, none⟩) (Nat.le_refl _) _
          · have HV := Lib.hid (parseInst_no (HAB.out.trans (if_neg (fun e => hFs (by rw [hF]; exact bytes_ext e)))))
            have he := str_ne hFs
            clear hF hFs
            go_wp2_with fail
            refine hff.mono ?_
            rintro e w6 ⟨rfl, hb6⟩
            have hz6 := hb6.size
            replace r0 := (hb6.cell (p := ⟨w.heap.size, 0, none⟩) hwr).trans r0
            replace r1 := (hb6.cell (p := ⟨w.heap.size, 1, none⟩) hwr).trans r1
            replace r2 := fun o => (hb6.frozen (p := ⟨w.heap.size, o, none⟩) hwr).trans (r2 o)
            have HB6 := Lib.hid hb6
            clear hb6 yz hff y0 y1
            go_wp2
            refine bodyPost_ret (v := .tuple #[.agg #[.slice none 0 0, .slice none 0 0], .bool false]) (by simp [results, Tryz.results23, go_sem, r0, r1]) rfl ⟨_, by rw [HV.out.2], by rw [HV.out.1]; exact instOwn_nil _ _ _, ?_⟩
            exact ((HwW.out.trans (HB6.out.mono HwW.out.size)).setCell (p := ⟨w.heap.size, 0, none⟩) (Nat.le_refl _) _).setCell (p := ⟨w.heap.size, 1, none⟩) (Nat.le_refl _) _
  · have HP := Lib.hid (parseInst_no (parseInst_len (s := s.data.toList) (by rw [hLl]; exact h2)))
    have hd : ((L.length : Int) != 2) = true := bne_iff_ne.2 (by omega)
    have r0 := (hb1.cell (p := ⟨w.heap.size, 0, none⟩) hEz).trans R0.out
    have r1 := (hb1.cell (p := ⟨w.heap.size, 1, none⟩) hEz).trans R1.out
    have r2 := fun o => (hb1.frozen (p := ⟨w.heap.size, o, none⟩) hEz).trans (R2 o).out
    clear hL hOL hb1 hLl h2
    go_wp2
    refine bodyPost_ret (v := .tuple #[.agg #[.slice none 0 0, .slice none 0 0], .bool false]) (by simp [results, Tryz.results23, go_sem, r0, r1]) rfl ⟨_, by rw [HP.out.2], by rw [HP.out.1]; exact instOwn_nil _ _ _, ?_⟩
    exact (HW1.out.setCell (p := ⟨w.heap.size, 0, none⟩) (Nat.le_refl _) _).setCell (p := ⟨w.heap.size, 1, none⟩) (Nat.le_refl _) _
theorem specParseInstance_c (s : ByteArray) (w : World) (hs : s.size ≤ 1048576) :
    Calls Tryz.prog 23 #[.string s] w fun e w' => ∃ r0, e = .returned (.tuple #[r0, .bool (ParseInstance_ok s)]) ∧ Instance_at w' w'.heap.size r0 (ParseInstance_r0 s) ∧ Below w.heap.size w w' :=
  (specParseInstance_any s w hs).mono fun _ _ ⟨u, he, ho, hb⟩ => ⟨u, he, ho.at_ (Nat.le_refl _), hb⟩

end Go.Proofs.YtmecdjincmkofaaGreatDoor
