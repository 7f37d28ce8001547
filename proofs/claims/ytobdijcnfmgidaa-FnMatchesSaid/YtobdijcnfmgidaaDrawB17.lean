/-
  Walks and plain lemmas for the laws of this seat: what single Go functions return, for every argument.
-/
import Derived.Test.YtobdijcnfmgidaaBase
import Derived.Test.YtobdijcnfmgidaaInts
import Derived.Test.YtobdijcnfmgidaaAft
import Derived.Test.YtobdijcnfmgidaaParInI
import Derived.Test.YtobdijcnfmgidaaDrawB12
namespace Go.Proofs.Ytobdijcnfmgidaa
open Go.RowKit

def GivesAtomB (w : World) (e : Ending) (w' : World) : Prop :=
  ∃ V a U bb, e = .returned (.tuple #[.agg #[.int .i64 a.rel, V], U]) ∧ IntS_at w' w'.heap.size V a.vals ∧ AtmSmall a ∧ IntS_at w' w'.heap.size U bb ∧ bb.length ≤ 5 ∧ (∀ z ∈ bb, -40 ≤ z ∧ z ≤ 10) ∧ Below w.heap.size w w'
theorem AtomSO.first {e : TypeId} {B C : Nat} {v : Value} {Vs : List Value} {l : List Atm} {w : World} (h : AtomSO e B C v Vs l w) (hl : 0 < l.length) : ∃ g c V, v = .slice (some ⟨g, 0, none⟩) l.length c ∧ B ≤ g ∧ g < C ∧ l.length ≤ maxLen ∧ w.cell? ⟨g, 0, none⟩ = some (.int .i64 l[0].rel) ∧ w.cell? ⟨g, 1, none⟩ = some V ∧ IntS_own B C V l[0].vals w := by
  have hp := apairs_len h.len
  have hlen := h.len
  obtain ⟨A, c, hf, hlc, hcm⟩ := (h.at_ (Nat.le_refl C)).form
  obtain ⟨g, hg⟩ : ∃ g, v.ownBlock = some g := by
    rcases h.row.2 with ⟨rfl, h0⟩ | ⟨g, cap, cur, rfl, _⟩
    · omega
    · exact ⟨g, rfl⟩
  obtain ⟨cap, rfl, -⟩ := own_some h.row hg
  have hin := h.ins g hg
  have hlt := (World.ownsRow.lt h.row g hg).1
  obtain ⟨A', c', hv, -, -, hc⟩ := SliceAt.of_own h.row
  injection hv with e1 _ e2
  subst e1 e2
  obtain ⟨b, off, e3, hb, hc⟩ := hc.1 (by omega)
  injection e3 with e3
  injection e3 with e3 e4
  subst e3 e4
  have hjp : 0 < (apairs l Vs).length := by omega
  have gg (i : Nat) (hi : i < 2) := flat_get apairCells 2 apairCells_len (apairs l Vs) 0 i hjp hi
  have ee := apairs_at 0 hjp hl (by omega : 0 < Vs.length)
  rw [ee] at gg
  refine ⟨g, cap, Vs[0], by rw [hp], hlt, hin, by omega, ?_, ?_, h.el 0 hl (by omega)⟩
  · have := hc _ _ (gg 0 (by omega)); simpa using this
  · have := hc _ _ (gg 1 (by omega)); simpa using this
set_option maxHeartbeats 12800000 in
set_option maxRecDepth 100000 in
theorem drawInst1_c (cv : Value) (code : List UInt8) (w : World) (hc : CodeAt w w.heap.size cv code) (hlen : code.length ≤ 1048576) :
    Calls Try.prog 27 #[cv] w (GivesAtomB w) := by
  obtain ⟨E, hEq⟩ : ∃ E, E = w.alloc (.cells #[.int .i64 0, .slice none 0 0] 48) := ⟨_, rfl⟩
  have hEz : E.heap.size = w.heap.size + 1 := by rw [hEq]; simp
  have hBE : Below w.heap.size w E := by rw [hEq]; exact (Below.refl _ _).alloc (Nat.le_refl _) _
  obtain ⟨b, hb⟩ : ∃ b, b = w.heap.size := ⟨_, rfl⟩
  have r0 : E.cell? ⟨b, 0, none⟩ = some (.int .i64 0) := by rw [hEq, hb]; simp [go_sem]
  have r1 : E.cell? ⟨b, 1, none⟩ = some (.slice none 0 0) := by rw [hEq, hb]; simp [go_sem]
  have rz : ∀ o, E.frozen? ⟨b, o, none⟩ = false := fun o => by rw [hEq, hb]; simp [go_sem]
  have hcE := hc.later hBE
  have HBq := Lib.hid hb
  clear hb
  go_enter Try.func27, Try.ntmps27
  go_wp2_with fail
  rw [← hEq]
  clear hEq
  refine (l11Both_c cv code E hcE hlen).mono ?_
  rintro e w2 ⟨V, x, X, d, rfl, hI, hIs, hX, hXs, ⟨st2, hC2⟩, hb2⟩
  rw [← HBq.out]
  rw [← HBq.out] at hEz
  obtain ⟨p, hp⟩ : ∃ p, p = E.heap.size + 2 := ⟨_, rfl⟩
  rw [← hp] at hC2 ⊢
  obtain ⟨P, c, Q, d1, rfl⟩ := Instance_form hI.at_
  obtain ⟨Y1, u1, Y2, u2, hv1, hv2⟩ := hX.two
  unfold DVal9
  rw [hv1, hv2]
  have hz2 := hb2.size
  have r0 := (hb2.cell (p := ⟨b, 0, none⟩) (by show b < _; omega)).trans r0
  have r1 := (hb2.cell (p := ⟨b, 1, none⟩) (by show b < _; omega)).trans r1
  have rz := fun o => (hb2.frozen (p := ⟨b, o, none⟩) (by show b < _; omega)).trans (rz o)
  have HB2 := Lib.hid (hBE.trans (hb2.mono (by have := HBq.out; omega)))
  rw [← HBq.out] at HB2
  have HI2 := Lib.hid (hI.less (show p + 1 ≤ E.heap.size + 3 by omega))
  have HA2 := Lib.hid ((hX.1.mono (show p + 1 ≤ E.heap.size + 3 by omega) (Nat.le_refl _)))
  rw [hv1] at HA2
  obtain ⟨g, hg⟩ : ∃ g, g = w2.heap.size := ⟨_, rfl⟩
  have hbg : b < g := by omega
  obtain ⟨W3, hW3⟩ : ∃ W, W = (w2.alloc (.cells #[.slice P x.rels.length c, .slice Q x.facts.length d1] 27)).alloc (.cells #[.slice Y1 d.body.length u1, .slice Y2 d.head.length u2, .bool d.egd, .int .i64 d.left, .int .i64 d.right] 82) := ⟨_, rfl⟩
  have hAl : Below g w2 W3 := by rw [hW3, hg]; exact ((Below.refl _ _).alloc (Nat.le_refl _) _).alloc (by simp) _
  have hz3 : W3.heap.size = g + 2 := by rw [hW3, hg]; simp
  have y0 : W3.cell? ⟨g, 0, none⟩ = some (.slice P x.rels.length c) := by rw [hW3, hg]; simp [go_sem]
  have y1 : W3.cell? ⟨g, 1, none⟩ = some (.slice Q x.facts.length d1) := by rw [hW3, hg]; simp [go_sem]
  have q0 : W3.cell? ⟨g + 1, 0, none⟩ = some (.slice Y1 d.body.length u1) := by rw [hW3, hg]; simp [go_sem]
  have r0 := (hAl.cell (p := ⟨b, 0, none⟩) (by show b < _; omega)).trans r0
  have r1 := (hAl.cell (p := ⟨b, 1, none⟩) (by show b < _; omega)).trans r1
  have rz := fun o => (hAl.frozen (p := ⟨b, o, none⟩) (by show b < _; omega)).trans (rz o)
  have hAl2 : Below w2.heap.size w2 W3 := hg ▸ hAl
  have q1 : W3.cell? ⟨g + 1, 1, none⟩ = some (.slice Y2 d.head.length u2) := by rw [hW3, hg]; simp [go_sem]
  have hC3 : CurS W3 p cv code st2 := by rw [hW3]; exact Cur.alloc (Cur.alloc hC2 _) _
  have HI3 := Lib.hid (HI2.out.later hAl2)
  have HA3 := Lib.hid ((HA2.out.below hAl2 (Nat.le_refl _)).mono (Nat.le_refl _) hAl2.size)
  have HB3 := Lib.hid (HB2.out.trans (hAl.mono (by omega)))
  have HIS := Lib.hid hIs
  have HXS := Lib.hid hXs
  have hpg : p < g := by have := Cur.lt hC2; omega
  have hbp : b < p := by omega
  clear hEz hp
  go_upto_region 2 with fail
  rw [← hW3, ← hg]
  have hbs : p + 1 ≤ W3.heap.size := by omega
  have hbl := HXS.out.1.1
  obtain ⟨k, kc, V1, hkv, hk1, hk2, hkm, k0, k1, HV1⟩ := HA3.out.first hbl
  obtain ⟨PV, cV, rfl, -, -, -⟩ := id (HV1.at_ (Nat.le_refl _))
  injection hkv with hkv1 _ hkv2
  subst hkv1 hkv2
  have HAS := Lib.hid (HXS.out.1.2.2 _ (List.getElem_mem hbl))
  have HABD := Lib.hid (HA3.out.at_ (Nat.le_refl _))
  have HAW := Lib.hid (atms_wf HXS.out.1.2.2)
  generalize d.body[0] = aa at *
  clear hW3 hg hAl hAl2 HI2 HA2 HB2 hI hX hIs hXs hv1 hv2 hz2 hb2 hC2 hcE hBE HA3 q1
  have HZ3 := Lib.hid hz3
  have HV1 := Lib.hid HV1
  have hbl2 : decide ((0 : Int) < (d.body.length : Int)) = true := decide_eq_true (by omega)
  have hS : Holds [(⟨g, 0, none⟩, .slice P x.rels.length c), (⟨g, 1, none⟩, .slice Q x.facts.length d1), (⟨g + 1, 0, none⟩, .slice (some ⟨k, 0, none⟩) d.body.length u1), (⟨k, 0, none⟩, .int .i64 aa.rel), (⟨k, 1, none⟩, (.slice PV aa.vals.length cV))] W3.drew := by
    intro t ht
    simp only [List.mem_cons, List.not_mem_nil, or_false] at ht
    rcases ht with rfl | rfl | rfl | rfl | rfl
    · exact y0
    · exact y1
    · exact q0
    · exact k0
    · exact k1
  have HSb := Lib.hid (show ∀ t ∈ ([(⟨g, 0, none⟩, .slice P x.rels.length c), (⟨g, 1, none⟩, .slice Q x.facts.length d1), (⟨g + 1, 0, none⟩, .slice (some ⟨k, 0, none⟩) d.body.length u1), (⟨k, 0, none⟩, .int .i64 aa.rel), (⟨k, 1, none⟩, (.slice PV aa.vals.length cV))] : List (Addr × Value)), p < t.1.block ∧ t.1.block < W3.heap.size by
    intro t ht
    simp only [List.mem_cons, List.not_mem_nil, or_false] at ht
    rcases ht with rfl | rfl | rfl | rfl | rfl <;> simp <;> omega)
  have g0 := Keep.cell (h0 := hS) (a := ⟨g, 0, none⟩) (v := .slice P x.rels.length c) (by simp)
  have g1 := Keep.cell (h0 := hS) (a := ⟨g, 1, none⟩) (v := .slice Q x.facts.length d1) (by simp)
  have g2 := Keep.cell (h0 := hS) (a := ⟨g + 1, 0, none⟩) (v := .slice (some ⟨k, 0, none⟩) d.body.length u1) (by simp)
  have g3 := Keep.cell (h0 := hS) (a := ⟨k, 0, none⟩) (v := .int .i64 aa.rel) (by simp)
  have g4 := Keep.cell (h0 := hS) (a := ⟨k, 1, none⟩) (v := (.slice PV aa.vals.length cV)) (by simp)
  clear y0 y1 q0 k0 k1 hz3
  refine wp_region_planL (C := fun w' => ∃ u : Keep _ W3.drew hS, w' = u.now) (.still 0 (.still 1 (.still 2 (.still 3 (.still 4 (.still 5 (.still 6 (.still 7 (.move true 8 (.move false 9 (.still 10 .done) .none) .none))))))))) (by kernel_rfl) (by kernel_rfl) (by kernel_rfl) (fun _ => ⟨⟨_, hS⟩, rfl⟩) ?_
  iterate 8
    refine plan_look _ rfl rfl ?_
    go_big_quiet_step (fail)
    refine wpQuiet_nil ?_
  refine plan_call _ 63 _ _ _ _ _ rfl _ Try.func63 (by kernel_rfl) (by kernel_rfl) ?_ True.intro
  refine (l11Bind_c p cv code st2 _ _ x d.body W3.drew (Cur.drewN hC3 1) (HI3.out.later (Below.refl _ _).drew).at_ HIS.out.wf (by have := HIS.out.1.1; omega) (HABD.out.below (Below.refl _ _).drew (Nat.le_refl _)) HAW.out).mono ?_
  rintro _ w4 ⟨U, bb, rfl, hU, hU5, hUb, ⟨st4, hC4⟩, hg4'⟩
  have hg4 : W3.grownBy w4 (some p) := ⟨hg4'.os, hg4'.tape, hg4'.output, hg4'.size, hg4'.block⟩
  clear hg4'
  obtain ⟨PU, cU, rfl, -, -, -⟩ := id (hU.at_ (Nat.le_refl _))
  have hz4 := hg4.size
  have hK4 := hS.grown (w := W3.drew) (w' := w4) ⟨hg4.os, hg4.tape, hg4.output, hg4.size, hg4.block⟩ (fun t ht => ⟨(HSb.out t ht).2, by have := (HSb.out t ht).1; intro e; injection e; omega⟩)
  have r0 := grown_cell hg4 r0 (by omega)
  have r1 := grown_cell hg4 r1 (by omega)
  have rz := fun o => grown_frozen hg4 (b := b) (o := o) (by have := HZ3.out; omega) (by omega) (rz o)
  have hV4 := IntS_own.mono (HV1.out.chg (chg_of_grown hg4) (.inr (by omega))) (Nat.le_refl _) hz4
  have HB4 := Lib.hid (HB3.out.grown hg4 (by have := HZ3.out; omega) (fun k hk => by injection hk with hk; omega))
  have hch : Chg (Mid b (b + 1)) w4 ((w4.setCell ⟨b, 0, none⟩ (.int .i64 aa.rel)).setCell ⟨b, 1, none⟩ (.slice PV aa.vals.length cV)) := ((Chg.refl (Mid b (b + 1)) w4).setCell (p := ⟨b, 0, none⟩) ⟨Nat.le_refl _, Nat.lt_succ_self _⟩ _).setCell (p := ⟨b, 1, none⟩) ⟨Nat.le_refl _, Nat.lt_succ_self _⟩ _
  have HF : Hid (GivesAtomB w (.returned (.tuple #[.agg #[.int .i64 aa.rel, (.slice PV aa.vals.length cV)], .slice PU bb.length cU])) ((w4.setCell ⟨b, 0, none⟩ (.int .i64 aa.rel)).setCell ⟨b, 1, none⟩ (.slice PV aa.vals.length cV))) := Lib.hid (by
    have hq := HBq.out
    exact ⟨_, aa, _, bb, rfl, (IntS_own.chg hV4 hch (.inr (by omega))).at_ hch.size, HAS.out, (hU.chg hch (.inr (by have := HZ3.out; show b + 1 ≤ W3.heap.size; omega))).at_ hch.size, hU5, hUb, hq ▸ HB4.out.trans (hch.below (fun k h => h.1) (by have := HB4.out.size; omega))⟩)
  refine ⟨_, rfl, fun _ => ⟨⟨_, hK4⟩, rfl⟩, ?_⟩
  clear hch hV4 hU hU5 hUb hC4 hg4 hz4
  refine plan_put ?_ (by simp only [Act.put, List.setIfInBounds_toArray, List.set_cons_succ, List.set_cons_zero]; rfl)
  refine plan_skip (w' := ((w4.setCell ⟨b, 0, none⟩ (.int .i64 aa.rel)).setCell ⟨b, 1, none⟩ (.slice PV aa.vals.length cV))) _ rfl rfl rfl (by simp [go_sem, r0, r1, rz]) (fun e => by cases e) ?_ True.intro
  refine plan_put ?_ (by simp only [Act.put]; rfl)
  refine plan_look _ rfl rfl ?_
  go_big_quiet_step (fail)
  refine wpQuiet_nil ?_
  refine plan_done ?_
  go_wp2
  refine bodyPost_ret (v := .tuple #[.agg #[.int .i64 aa.rel, (.slice PV aa.vals.length cV)], .slice PU bb.length cU]) (by simp [results, Try.results27, go_sem, r0, r1]) rfl HF.out

set_option maxHeartbeats 1600000 in
theorem sameDec_any (v u : Value) (a b : List Int) (w : World) (hl : IntsAt w w.heap.size v a) (hm : IntsAt w w.heap.size u b) :
    Calls Try.prog 10 #[v, u] w fun e w' => e = .returned (.bool (decide (a = b))) ∧ Below w.heap.size w w' := by
  have HL := Lib.hid hl
  have HM := Lib.hid hm
  obtain ⟨A, c, rfl, hlc, hcm, -⟩ := hl
  obtain ⟨A', c', rfl, hlc', hcm', -⟩ := hm
  unfold maxLen at hcm hcm'
  by_cases hlen : a.length = b.length
  · have hd : ((a.length : Int) != (b.length : Int)) = false := by rw [hlen]; simp
    have HLEN := Lib.hid hlen
    have hd3 : (a.length != b.length) = false := by rw [hlen]; simp
    clear hlen
    go_enter Try.func10, Try.ntmps10
    go_wp2
    go_loopw [5] (fun i wr => ∃ k : Nat, k ≤ a.length ∧ i = .int .i64 k ∧ Hid (a.take k = b.take k) ∧ Below w.heap.size w wr) (fun i _ => a.length - (intOf i).toNat)
    case atStart => exact ⟨0, by omega, rfl, Lib.hid rfl, Below.refl _ _⟩
    case round =>
      obtain ⟨k, hk, rfl, HT, hW⟩ := hrel
      by_cases hlt : k < a.length
      · have hlt' : k < b.length := by have := HLEN.out; omega
        obtain ⟨q, off, rfl, hb, c0⟩ := IntsAt.elem HL.out k hlt
        obtain ⟨q', off', rfl, hb', d0⟩ := IntsAt.elem HM.out k hlt'
        have C0 := Aft.cell hb c0
        have D0 := Aft.cell hb' d0
        have HN := Lib.hid (show a[k] = b[k] → a.take (k + 1) = b.take (k + 1) from fun h => by rw [List.take_succ_eq_append_getElem hlt, List.take_succ_eq_append_getElem hlt', HT.out, h])
        have HF := Lib.hid (show a[k] ≠ b[k] → decide (a = b) = false from fun h => decide_eq_false (fun e => h (by subst e; rfl)))
        clear c0 d0
        generalize a[k] = m at *
        generalize b[k] = n at *
        by_cases hmn : m = n
        · subst hmn
          have HN' := Lib.hid (HN.out rfl)
          clear HN HF
          go_wp2
          refine wp_region_aft hW (by kernel_rfl) (by kernel_rfl) ?_
          repeat (go_big_quiet_step (fail))
          refine wpQuiet_nil ?_
          refine aft_end ?_
          intro w1 hh
          go_wp2
          go_roundw
          case rel => exact ⟨k + 1, by omega, by go_num, HN', hh⟩
          case measure => simp [intOf]; omega
        · have hne : (m == n) = false := beq_eq_false_iff_ne.2 hmn
          have hne' : (m != n) = true := by simp [bne, hne]
          have HF' := Lib.hid (HF.out hmn)
          clear HN HF hmn
          go_wp2
          refine wp_region_aft hW (by kernel_rfl) (by kernel_rfl) ?_
          repeat (go_big_quiet_step (fail))
          refine wpQuiet_nil ?_
          refine aft_end ?_
          intro w1 hh
          go_wp2
          go_ret
          exact ⟨ret_bool HF'.out.symm, hh⟩
      · obtain rfl : k = a.length := by omega
        have HE := Lib.hid (show decide (a = b) = true from decide_eq_true (by have h := HT.out; rw [List.take_length, HLEN.out, List.take_length] at h; exact h))
        go_wp2
        go_ret
        exact ⟨ret_bool HE.out.symm, hW⟩
  · have hd : ((a.length : Int) != (b.length : Int)) = true := by simp [bne_iff_ne]; omega
    have hd2 : ((a.length : Int) == (b.length : Int)) = false := by rw [beq_eq_false_iff_ne]; omega
    have HE := Lib.hid (show decide (a = b) = false from decide_eq_false (fun e => hlen (by rw [e])))
    clear hlen
    go_enter Try.func10, Try.ntmps10
    go_wp2
    go_ret
    exact ⟨ret_bool HE.out.symm, Below.refl _ _⟩
set_option maxHeartbeats 1600000 in
theorem inRows_c (v u : Value) (l : List (List Int)) (r : List Int) (w : World) (hl : IntSS_at w w.heap.size v l) (hm : IntsAt w w.heap.size u r) :
    Calls Try.prog 25 #[v, u] w fun e w' => e = .returned (.bool (decide (r ∈ l))) ∧ Below w.heap.size w w' := by
  have HL := Lib.hid hl
  have HM := Lib.hid hm
  obtain ⟨A, c, rfl, hlc, hcm⟩ := hl.form
  obtain ⟨A', c', rfl, hlc', hcm', -⟩ := hm
  clear hl
  unfold maxLen at hcm hcm'
  go_enter Try.func25, Try.ntmps25
  go_wp2
  go_loopw [5] (fun i wr => ∃ k : Nat, k ≤ l.length ∧ i = .int .i64 k ∧ Hid (∀ t ∈ l.take k, t ≠ r) ∧ Below w.heap.size w wr) (fun i _ => l.length - (intOf i).toNat)
  case atStart => exact ⟨0, by omega, rfl, Lib.hid (fun t ht => by cases ht), Below.refl _ _⟩
  case round =>
    obtain ⟨k, hk, rfl, HT, hW⟩ := hrel
    have hz := hW.size
    by_cases hlt : k < l.length
    · obtain ⟨b, off, V, rfl, hb, c1, hV⟩ := IntSS_at.elem HL.out k hlt
      have cr := (hW.cell (p := ⟨b, off + k, none⟩) hb).trans c1
      have HN := Lib.hid (show l[k] ≠ r → ∀ t ∈ l.take (k + 1), t ≠ r from fun h t ht => by
        rw [List.take_succ_eq_append_getElem hlt] at ht
        rcases List.mem_append.1 ht with h1 | h1
        · exact HT.out t h1
        · rw [List.mem_singleton.1 h1]; exact h)
      have HY := Lib.hid (show l[k] = r → decide (r ∈ l) = true from fun h => decide_eq_true (h ▸ List.getElem_mem hlt))
      have hcon := sameDec_any V _ l[k] r wr ((hV.below hW (Nat.le_refl _)).more hz) ((HM.out.below hW (Nat.le_refl _)).more hz)
      obtain ⟨_, _, rfl, -⟩ := id hV
      clear c1 hV
      generalize l[k] = m at *
      go_wp2_with fail
      refine hcon.mono ?_
      rintro e w1 ⟨rfl, hb1⟩
      have hh := hW.trans (hb1.mono hz)
      by_cases hmr : m = r
      · rw [decide_eq_true hmr]
        have HY' := Lib.hid (HY.out hmr)
        clear hmr HN HY
        go_wp2
        go_ret
        exact ⟨ret_bool HY'.out.symm, hh⟩
      · rw [decide_eq_false hmr]
        have HN' := Lib.hid (HN.out hmr)
        clear hmr HN HY
        go_wp2
        go_roundw
        case rel => exact ⟨k + 1, by omega, by go_num, HN', hh⟩
        case measure => simp [intOf]; omega
    · obtain rfl : k = l.length := by omega
      have HE := Lib.hid (show decide (r ∈ l) = false from decide_eq_false (fun e => HT.out r (by rw [List.take_length]; exact e) rfl))
      go_wp2
      go_ret
      exact ⟨ret_bool HE.out.symm, hW⟩

set_option maxHeartbeats 800000 in
theorem sameInts_any (v u : Value) (l : List Int) (w : World) (hl : IntsAt w w.heap.size v l) (hm : IntsAt w w.heap.size u l) :
    Calls Try.prog 10 #[v, u] w fun e w' => e = .returned (.bool true) ∧ Below w.heap.size w w' := by
  have HL := Lib.hid hl
  have HM := Lib.hid hm
  obtain ⟨A, c, rfl, hlc, hcm, -⟩ := hl
  obtain ⟨A', c', rfl, hlc', hcm', -⟩ := hm
  unfold maxLen at hcm hcm'
  go_enter Try.func10, Try.ntmps10
  go_wp2
  go_loopw [5] (fun i wr => ∃ k : Nat, k ≤ l.length ∧ i = .int .i64 k ∧ Below w.heap.size w wr) (fun i _ => l.length - (intOf i).toNat)
  case atStart => exact ⟨0, by omega, rfl, Below.refl _ _⟩
  case round =>
    obtain ⟨k, hk, rfl, hW⟩ := hrel
    by_cases hlt : k < l.length
    · obtain ⟨b, off, rfl, hb, c0⟩ := IntsAt.elem HL.out k hlt
      obtain ⟨b', off', rfl, hb', d0⟩ := IntsAt.elem HM.out k hlt
      have C0 := Aft.cell hb c0
      have D0 := Aft.cell hb' d0
      clear c0 d0
      go_wp2
      refine wp_region_aft hW (by kernel_rfl) (by kernel_rfl) ?_
      repeat (go_big_quiet_step (fail))
      refine wpQuiet_nil ?_
      refine aft_end ?_
      intro w1 hh
      go_wp2
      go_roundw
      case rel => exact ⟨k + 1, by omega, by go_num, hh⟩
      case measure => simp [intOf]; omega
    · obtain rfl : k = l.length := by omega
      go_wp2
      go_ret
      exact ⟨rfl, hW⟩

set_option maxHeartbeats 1600000 in
theorem sameRows_c (v u : Value) (l : List (List Int)) (w : World) (hl : IntSS_at w w.heap.size v l) (hm : IntSS_at w w.heap.size u l) :
    Calls Try.prog 20 #[v, u] w fun e w' => e = .returned (.bool true) ∧ Below w.heap.size w w' := by
  have HL := Lib.hid hl
  have HM := Lib.hid hm
  obtain ⟨A, c, rfl, hlc, hcm⟩ := hl.form
  obtain ⟨A', c', rfl, hlc', hcm'⟩ := hm.form
  clear hl hm
  unfold maxLen at hcm hcm'
  go_enter Try.func20, Try.ntmps20
  go_wp2
  go_loopw [5] (fun i wr => ∃ k : Nat, k ≤ l.length ∧ i = .int .i64 k ∧ Below w.heap.size w wr) (fun i _ => l.length - (intOf i).toNat)
  case atStart => exact ⟨0, by omega, rfl, Below.refl _ _⟩
  case round =>
    obtain ⟨k, hk, rfl, hW⟩ := hrel
    have hz := hW.size
    by_cases hlt : k < l.length
    · obtain ⟨b, off, V, rfl, hb, c1, hV⟩ := IntSS_at.elem HL.out k hlt
      obtain ⟨b', off', V', rfl, hb', d1, hV'⟩ := IntSS_at.elem HM.out k hlt
      have C1 := Aft.cell hb c1
      have D1 := Aft.cell hb' d1
      have hcon := fun (u : Aft w.heap.size w) => sameInts_any V V' l[k] u.now ((hV.below u.is (Nat.le_refl _)).more u.is.size) ((hV'.below u.is (Nat.le_refl _)).more u.is.size)
      obtain ⟨_, _, rfl, -⟩ := id hV
      obtain ⟨_, _, rfl, -⟩ := id hV'
      clear c1 d1
      go_wp2
      refine wp_region_aft hW (by kernel_rfl) (by kernel_rfl) ?_
      repeat (go_big_quiet_step (((go_at_call 10; exact calls_aft (Nat.le_refl _) (hcon _)))))
      refine wpQuiet_nil ?_
      refine aft_end ?_
      intro w1 hh
      go_wp2
      go_roundw
      case rel => exact ⟨k + 1, by omega, by go_num, hh⟩
      case measure => simp [intOf]; omega
    · obtain rfl : k = l.length := by omega
      go_wp2
      go_ret
      exact ⟨rfl, hW⟩

end Go.Proofs.Ytobdijcnfmgidaa
