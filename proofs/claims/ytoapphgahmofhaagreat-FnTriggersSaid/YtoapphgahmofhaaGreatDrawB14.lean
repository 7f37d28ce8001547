/-
  Walks and plain lemmas for the laws of this seat: what single Go functions return, for every argument.
-/
import Derived.RangeFuncNested
import Derived.RangeFuncBound
import Derived.RangeFuncCalls
import Derived.RangeFuncLeaves
import Derived.Shelf.Abstract
import Derived.Shelf.RegionOpen
import Derived.WalkKit
import Derived.OwnWalkIn
import Derived.TacticsInMore
import Derived.LoopNIn
import Derived.LoopIn
import Derived.Test.YtoapphgahmofhaaGreatBase
import Derived.Test.YtoapphgahmofhaaGreatInts
import Derived.Test.YtoapphgahmofhaaGreatAft
import Derived.Test.YtoapphgahmofhaaGreatTyAtom
import Derived.Test.YtoapphgahmofhaaGreatDrawD9
import Derived.Test.YtoapphgahmofhaaGreatParInI
import Derived.Test.YtoapphgahmofhaaGreatMatK
import Derived.Test.YtoapphgahmofhaaGreatInstM
import Derived.Test.YtoapphgahmofhaaGreatMatF
import Derived.Test.YtoapphgahmofhaaGreatDrawB12
namespace Go.Proofs.YtoapphgahmofhaaGreat
open Go.RowKit

set_option maxHeartbeats 3200000 in
set_option maxRecDepth 100000 in
theorem drawActive_c (cv : Value) (code : List UInt8) (w : World) (hc : CodeAt w w.heap.size cv code) (hlen : code.length ≤ 1048576) :
    Calls Tryz.prog 8 #[cv] w (GivesTrig w) := by
  obtain ⟨E, hEq⟩ : ∃ E, E = (w.alloc (.cells #[.slice none 0 0, .slice none 0 0] 27)).alloc (.cells #[.slice none 0 0, .slice none 0 0, .bool false, .int .i64 0, .int .i64 0] 30) := ⟨_, rfl⟩
  have hEz : E.heap.size = w.heap.size + 2 := by rw [hEq]; simp
  have hBE : Below w.heap.size w E := by rw [hEq]; exact ((Below.refl _ _).alloc (Nat.le_refl _) _).alloc (by simp) _
  obtain ⟨b, hb⟩ : ∃ b, b = w.heap.size := ⟨_, rfl⟩
  have r0 : E.cell? ⟨b, 0, none⟩ = some (.slice none 0 0) := by rw [hEq, hb]; simp [go_sem]
  have r1 : E.cell? ⟨b, 1, none⟩ = some (.slice none 0 0) := by rw [hEq, hb]; simp [go_sem]
  have rz : ∀ o, E.frozen? ⟨b, o, none⟩ = false := fun o => by rw [hEq, hb]; simp [go_sem]
  have hRD : BoxD (b + 1) (.slice none 0 0) (.slice none 0 0) E := by rw [hEq, hb]; exact ⟨by simp [go_sem], by simp [go_sem], by simp [go_sem], by simp [go_sem], by simp [go_sem], fun o => by simp [go_sem]⟩
  have hcE := hc.later hBE
  have HBq := Lib.hid hb
  clear hb
  go_enter Tryz.func8, Tryz.ntmps8
  go_wp2_with fail
  rw [← hEq]
  clear hEq
  refine (drawTrig_c cv code E hcE hlen).mono ?_
  rintro e w2 ⟨V, x, D, d, U, bb, rfl, hI, hIs, hD, hXs, hU, hU5, hUb, hb2⟩
  rw [← HBq.out]
  rw [← HBq.out] at hEz
  obtain ⟨P, c, Q, d1, rfl⟩ := Instance_form hI.at_
  obtain ⟨Y1, u1, Y2, u2, rfl⟩ := Dependency_form (hD.at_ (Nat.le_refl _))
  obtain ⟨PU, cU, rfl, -, -, -⟩ := id (hU.at_ (Nat.le_refl _))
  have hz2 := hb2.size
  have r0 := (hb2.cell (p := ⟨b, 0, none⟩) (by show b < _; omega)).trans r0
  have r1 := (hb2.cell (p := ⟨b, 1, none⟩) (by show b < _; omega)).trans r1
  have rz := fun o => (hb2.frozen (p := ⟨b, o, none⟩) (by show b < _; omega)).trans (rz o)
  obtain ⟨z0, z1, z2, z3, z4, zz⟩ := hRD.below hb2 (by omega)
  have hch : Chg (Mid b (b + 2)) w2 (((((((w2.setCell ⟨b, 0, none⟩ (.slice P x.rels.length c)).setCell ⟨b, 1, none⟩ (.slice Q x.facts.length d1)).setCell ⟨b + 1, 0, none⟩ (.slice Y1 d.body.length u1)).setCell ⟨b + 1, 1, none⟩ (.slice Y2 d.head.length u2)).setCell ⟨b + 1, 2, none⟩ (.bool d.egd)).setCell ⟨b + 1, 3, none⟩ (.int .i64 d.left)).setCell ⟨b + 1, 4, none⟩ (.int .i64 d.right)) := ((((((((Chg.refl (Mid b (b + 2)) w2).setCell (p := ⟨b, 0, none⟩) ⟨Nat.le_refl _, by show b < b + 2; omega⟩ _).setCell (p := ⟨b, 1, none⟩) ⟨Nat.le_refl _, by show b < b + 2; omega⟩ _).setCell (p := ⟨b + 1, 0, none⟩) ⟨Nat.le_succ _, by show b + 1 < b + 2; omega⟩ _).setCell (p := ⟨b + 1, 1, none⟩) ⟨Nat.le_succ _, by show b + 1 < b + 2; omega⟩ _).setCell (p := ⟨b + 1, 2, none⟩) ⟨Nat.le_succ _, by show b + 1 < b + 2; omega⟩ _).setCell (p := ⟨b + 1, 3, none⟩) ⟨Nat.le_succ _, by show b + 1 < b + 2; omega⟩ _).setCell (p := ⟨b + 1, 4, none⟩) ⟨Nat.le_succ _, by show b + 1 < b + 2; omega⟩ _)
  have HF : Hid (GivesTrig w (.returned (.tuple #[.agg #[.slice P x.rels.length c, .slice Q x.facts.length d1], .agg #[.slice Y1 d.body.length u1, .slice Y2 d.head.length u2, .bool d.egd, .int .i64 d.left, .int .i64 d.right], .slice PU bb.length cU])) (((((((w2.setCell ⟨b, 0, none⟩ (.slice P x.rels.length c)).setCell ⟨b, 1, none⟩ (.slice Q x.facts.length d1)).setCell ⟨b + 1, 0, none⟩ (.slice Y1 d.body.length u1)).setCell ⟨b + 1, 1, none⟩ (.slice Y2 d.head.length u2)).setCell ⟨b + 1, 2, none⟩ (.bool d.egd)).setCell ⟨b + 1, 3, none⟩ (.int .i64 d.left)).setCell ⟨b + 1, 4, none⟩ (.int .i64 d.right))) := Lib.hid (by
    have hq := HBq.out
    exact ⟨_, x, _, d, _, bb, rfl, (hI.chg hch (fun k h => by have := h.2; omega)).less (by omega), hIs, (hD.chg hch (.inr (by omega))).mono (by omega) hch.size, hXs, (hU.chg hch (.inr (by omega))).mono (by omega) hch.size, hU5, hUb, (hBE.trans (hb2.mono (by omega))).trans (hch.below (fun k h => by have := h.1; omega) (by omega))⟩)
  clear hch hI hD hU hU5 hUb hb2 hBE hEz hcE hc hz2
  go_wp2
  refine bodyPost_ret (v := .tuple #[.agg #[.slice P x.rels.length c, .slice Q x.facts.length d1], .agg #[.slice Y1 d.body.length u1, .slice Y2 d.head.length u2, .bool d.egd, .int .i64 d.left, .int .i64 d.right], .slice PU bb.length cU]) (by simp [results, Tryz.results8, go_sem, r0, r1, z0, z1, z2, z3, z4]) rfl HF.out

set_option maxHeartbeats 1600000 in
theorem sameDec_any (v u : Value) (a b : List Int) (w : World) (hl : IntsAt w w.heap.size v a) (hm : IntsAt w w.heap.size u b) :
    Calls Tryz.prog 47 #[v, u] w fun e w' => e = .returned (.bool (decide (a = b))) ∧ Below w.heap.size w w' := by
  have HL := Lib.hid hl
  have HM := Lib.hid hm
  obtain ⟨A, c, rfl, hlc, hcm, -⟩ := hl
  obtain ⟨A', c', rfl, hlc', hcm', -⟩ := hm
  unfold maxLen at hcm hcm'
  by_cases hlen : a.length = b.length
  · have hd : ((a.length : Int) != (b.length : Int)) = false := by rw [hlen]; simp
    have HLEN := Lib.hid hlen
    have hd3 : (a.length != b.length) = false := by rw [hlen]; simp
    clear hlen
    go_enter Tryz.func47, Tryz.ntmps47
    go_wp2
    go_loopw [5] (fun i wr => ∃ k : Nat, k ≤ a.length ∧ i = .int .i64 k ∧ Hid (a.take k = b.take k) ∧ Below w.heap.size w wr) (fun i _ => a.length - (intOf i).toNat)
    case atStart => exact ⟨0, by omega, rfl, Lib.hid rfl, Below.refl _ _⟩
    case round =>
      obtain ⟨k, hk, rfl, HT, hW⟩ := hrel
      by_cases hlt : k < a.length
      · have hlt' : k < b.length := by have := HLEN.out; omega
        obtain ⟨q, off, rfl, hb, c0⟩ := IntsAt.elem HL.out k hlt
        obtain ⟨q', off', rfl, hb', d0⟩ := IntsAt.elem HM.out k hlt'
        have C0 := Aft.cell hb c0
        have D0 := Aft.cell hb' d0
        have HN := Lib.hid (show a[k] = b[k] → a.take (k + 1) = b.take (k + 1) from fun h => by rw [List.take_succ_eq_append_getElem hlt, List.take_succ_eq_append_getElem hlt', HT.out, h])
        have HF := Lib.hid (show a[k] ≠ b[k] → decide (a = b) = false from fun h => decide_eq_false (fun e => h (by subst e; rfl)))
        clear c0 d0
        generalize a[k] = m at *
        generalize b[k] = n at *
        by_cases hmn : m = n
        · subst hmn
          have HN' := Lib.hid (HN.out rfl)
          clear HN HF
          go_wp2
          refine wp_region_aft hW (by kernel_rfl) (by kernel_rfl) ?_
          repeat (go_big_quiet_step (fail))
          refine wpQuiet_nil ?_
          refine aft_end ?_
          intro w1 hh
          go_wp2
          go_roundw
          case rel => exact ⟨k + 1, by omega, by go_num, HN', hh⟩
          case measure => simp [intOf]; omega
        · have hne : (m == n) = false := beq_eq_false_iff_ne.2 hmn
          have hne' : (m != n) = true := by simp [bne, hne]
          have HF' := Lib.hid (HF.out hmn)
          clear HN HF hmn
          go_wp2
          refine wp_region_aft hW (by kernel_rfl) (by kernel_rfl) ?_
          repeat (go_big_quiet_step (fail))
          refine wpQuiet_nil ?_
          refine aft_end ?_
          intro w1 hh
          go_wp2
          go_ret
          exact ⟨ret_bool HF'.out.symm, hh⟩
      · obtain rfl : k = a.length := by omega
        have HE := Lib.hid (show decide (a = b) = true from decide_eq_true (by have h := HT.out; rw [List.take_length, HLEN.out, List.take_length] at h; exact h))
        go_wp2
        go_ret
        exact ⟨ret_bool HE.out.symm, hW⟩
  · have hd : ((a.length : Int) != (b.length : Int)) = true := by simp [bne_iff_ne]; omega
    have hd2 : ((a.length : Int) == (b.length : Int)) = false := by rw [beq_eq_false_iff_ne]; omega
    have HE := Lib.hid (show decide (a = b) = false from decide_eq_false (fun e => hlen (by rw [e])))
    clear hlen
    go_enter Tryz.func47, Tryz.ntmps47
    go_wp2
    go_ret
    exact ⟨ret_bool HE.out.symm, Below.refl _ _⟩
set_option maxHeartbeats 1600000 in
theorem inRows_c (v u : Value) (l : List (List Int)) (r : List Int) (w : World) (hl : IntSS_at w w.heap.size v l) (hm : IntsAt w w.heap.size u r) :
    Calls Tryz.prog 16 #[v, u] w fun e w' => e = .returned (.bool (decide (r ∈ l))) ∧ Below w.heap.size w w' := by
  have HL := Lib.hid hl
  have HM := Lib.hid hm
  obtain ⟨A, c, rfl, hlc, hcm⟩ := hl.form
  obtain ⟨A', c', rfl, hlc', hcm', -⟩ := hm
  clear hl
  unfold maxLen at hcm hcm'
  go_enter Tryz.func16, Tryz.ntmps16
  go_wp2
  go_loopw [5] (fun i wr => ∃ k : Nat, k ≤ l.length ∧ i = .int .i64 k ∧ Hid (∀ t ∈ l.take k, t ≠ r) ∧ Below w.heap.size w wr) (fun i _ => l.length - (intOf i).toNat)
  case atStart => exact ⟨0, by omega, rfl, Lib.hid (fun t ht => by cases ht), Below.refl _ _⟩
  case round =>
    obtain ⟨k, hk, rfl, HT, hW⟩ := hrel
    have hz := hW.size
    by_cases hlt : k < l.length
    · obtain ⟨b, off, V, rfl, hb, c1, hV⟩ := IntSS_at.elem HL.out k hlt
      have cr := (hW.cell (p := ⟨b, off + k, none⟩) hb).trans c1
      have HN := Lib.hid (show l[k] ≠ r → ∀ t ∈ l.take (k + 1), t ≠ r from fun h t ht => by
        rw [List.take_succ_eq_append_getElem hlt] at ht
        rcases List.mem_append.1 ht with h1 | h1
        · exact HT.out t h1
        · rw [List.mem_singleton.1 h1]; exact h)
      have HY := Lib.hid (show l[k] = r → decide (r ∈ l) = true from fun h => decide_eq_true (h ▸ List.getElem_mem hlt))
      have hcon := sameDec_any V _ l[k] r wr ((hV.below hW (Nat.le_refl _)).more hz) ((HM.out.below hW (Nat.le_refl _)).more hz)
      obtain ⟨_, _, rfl, -⟩ := id hV
      clear c1 hV
      generalize l[k] = m at *
      go_wp2_with fail
      refine hcon.mono ?_
      rintro e w1 ⟨rfl, hb1⟩
      have hh := hW.trans (hb1.mono hz)
      by_cases hmr : m = r
      · rw [decide_eq_true hmr]
        have HY' := Lib.hid (HY.out hmr)
        clear hmr HN HY
        go_wp2
        go_ret
        exact ⟨ret_bool HY'.out.symm, hh⟩
      · rw [decide_eq_false hmr]
        have HN' := Lib.hid (HN.out hmr)
        clear hmr HN HY
        go_wp2
        go_roundw
        case rel => exact ⟨k + 1, by omega, by go_num, HN', hh⟩
        case measure => simp [intOf]; omega
    · obtain rfl : k = l.length := by omega
      have HE := Lib.hid (show decide (r ∈ l) = false from decide_eq_false (fun e => HT.out r (by rw [List.take_length]; exact e) rfl))
      go_wp2
      go_ret
      exact ⟨ret_bool HE.out.symm, hW⟩

set_option maxHeartbeats 800000 in
theorem sameInts_any (v u : Value) (l : List Int) (w : World) (hl : IntsAt w w.heap.size v l) (hm : IntsAt w w.heap.size u l) :
    Calls Tryz.prog 47 #[v, u] w fun e w' => e = .returned (.bool true) ∧ Below w.heap.size w w' := by
  have HL := Lib.hid hl
  have HM := Lib.hid hm
  obtain ⟨A, c, rfl, hlc, hcm, -⟩ := hl
  obtain ⟨A', c', rfl, hlc', hcm', -⟩ := hm
  unfold maxLen at hcm hcm'
  go_enter Tryz.func47, Tryz.ntmps47
  go_wp2
  go_loopw [5] (fun i wr => ∃ k : Nat, k ≤ l.length ∧ i = .int .i64 k ∧ Below w.heap.size w wr) (fun i _ => l.length - (intOf i).toNat)
  case atStart => exact ⟨0, by omega, rfl, Below.refl _ _⟩
  case round =>
    obtain ⟨k, hk, rfl, hW⟩ := hrel
    by_cases hlt : k < l.length
    · obtain ⟨b, off, rfl, hb, c0⟩ := IntsAt.elem HL.out k hlt
      obtain ⟨b', off', rfl, hb', d0⟩ := IntsAt.elem HM.out k hlt
      have C0 := Aft.cell hb c0
      have D0 := Aft.cell hb' d0
      clear c0 d0
      go_wp2
      refine wp_region_aft hW (by kernel_rfl) (by kernel_rfl) ?_
      repeat (go_big_quiet_step (fail))
      refine wpQuiet_nil ?_
      refine aft_end ?_
      intro w1 hh
      go_wp2
      go_roundw
      case rel => exact ⟨k + 1, by omega, by go_num, hh⟩
      case measure => simp [intOf]; omega
    · obtain rfl : k = l.length := by omega
      go_wp2
      go_ret
      exact ⟨rfl, hW⟩

set_option maxHeartbeats 1600000 in
theorem sameRows_c (v u : Value) (l : List (List Int)) (w : World) (hl : IntSS_at w w.heap.size v l) (hm : IntSS_at w w.heap.size u l) :
    Calls Tryz.prog 14 #[v, u] w fun e w' => e = .returned (.bool true) ∧ Below w.heap.size w w' := by
  have HL := Lib.hid hl
  have HM := Lib.hid hm
  obtain ⟨A, c, rfl, hlc, hcm⟩ := hl.form
  obtain ⟨A', c', rfl, hlc', hcm'⟩ := hm.form
  clear hl hm
  unfold maxLen at hcm hcm'
  go_enter Tryz.func14, Tryz.ntmps14
  go_wp2
  go_loopw [5] (fun i wr => ∃ k : Nat, k ≤ l.length ∧ i = .int .i64 k ∧ Below w.heap.size w wr) (fun i _ => l.length - (intOf i).toNat)
  case atStart => exact ⟨0, by omega, rfl, Below.refl _ _⟩
  case round =>
    obtain ⟨k, hk, rfl, hW⟩ := hrel
    have hz := hW.size
    by_cases hlt : k < l.length
    · obtain ⟨b, off, V, rfl, hb, c1, hV⟩ := IntSS_at.elem HL.out k hlt
      obtain ⟨b', off', V', rfl, hb', d1, hV'⟩ := IntSS_at.elem HM.out k hlt
      have C1 := Aft.cell hb c1
      have D1 := Aft.cell hb' d1
      have hcon := fun (u : Aft w.heap.size w) => sameInts_any V V' l[k] u.now ((hV.below u.is (Nat.le_refl _)).more u.is.size) ((hV'.below u.is (Nat.le_refl _)).more u.is.size)
      obtain ⟨_, _, rfl, -⟩ := id hV
      obtain ⟨_, _, rfl, -⟩ := id hV'
      clear c1 d1
      go_wp2
      refine wp_region_aft hW (by kernel_rfl) (by kernel_rfl) ?_
      repeat (go_big_quiet_step (((go_at_call 47; exact calls_aft (Nat.le_refl _) (hcon _)))))
      refine wpQuiet_nil ?_
      refine aft_end ?_
      intro w1 hh
      go_wp2
      go_roundw
      case rel => exact ⟨k + 1, by omega, by go_num, hh⟩
      case measure => simp [intOf]; omega
    · obtain rfl : k = l.length := by omega
      go_wp2
      go_ret
      exact ⟨rfl, hW⟩

theorem trig_conv {x : Inst} {d : Dep} {b : List Int} (h : trigOk x d b = true) : b ∈ FindMatches_r0 x d.body := by
  unfold trigOk at h
  simp only [Bool.and_eq_true, decide_eq_true_eq] at h
  obtain ⟨hx, hd, h5, hbi, hin⟩ := h
  have hk : okM x d.body = true := by rw [okM_body hd]; exact hx
  rw [find_walk hk]
  have ht5 : ∀ a ∈ d.body, ∀ t ∈ a.vals, t.toNat < 5 := fun a ha t ht => (atomOk_t (okM_at hk a ha) t ht).2
  have hbk := bindsOk_iff.1 hbi
  have hbl : blank5.length = 5 := rfl
  refine (walkM_mem x.facts (fun f hf v hv => validV_ne (instOk_val hx f hf v hv)) d.body blank5 b (fun a ha t ht => ht5 a ha t ht)).2 ⟨⟨by rw [h5, hbl], fun i hi => ?_⟩, fun a ha => ?_, fun i hi => ?_⟩
  · rw [blank5_get] at hi ⊢
    by_cases h : i < 5
    · rw [if_pos h] at hi; exact absurd rfl hi
    · rw [if_neg h, List.getD_eq_getElem?_getD, List.getElem?_eq_none (by omega)]; rfl
  · exact (instIn_iff hx (fun t ht => by rw [h5]; exact ht5 a ha t ht)).1 (List.all_eq_true.1 hin a ha)
  · rw [blank5_get]
    by_cases h : i < 5
    · rw [if_pos h]
      have h1 := hbk i (by omega)
      refine Decidable.byContradiction fun hne => ?_
      obtain ⟨h0, a, ha, hta⟩ := var_from (h1.2 hne)
      exact hi a ha _ hta h0 (by simp)
    · rw [if_neg h, List.getD_eq_getElem?_getD, List.getElem?_eq_none (by omega)]; rfl
theorem active_mem (x : Inst) (d : Dep) (b : List Int) : activeOk x d b = decide (b ∈ ActiveTriggers_r0 x d) := by
  cases hd : depOk x.rels d with
  | false => rw [acts_none hd]; unfold activeOk trigOk; rw [hd]; simp
  | true =>
    rw [acts_some hd]
    cases ha : activeOk x d b with
    | false => symm; rw [decide_eq_false_iff_not, List.mem_filter]; rintro ⟨-, h⟩; rw [ha] at h; cases h
    | true =>
      symm
      rw [decide_eq_true_eq, List.mem_filter]
      refine ⟨trig_conv ?_, ha⟩
      unfold activeOk at ha
      exact ((Bool.and_eq_true _ _).mp ha).1
theorem active_trig {x : Inst} {d : Dep} {b : List Int} (h : activeOk x d b = true) : trigOk x d b = true := by
  unfold activeOk at h
  exact ((Bool.and_eq_true _ _).mp h).1

def at5 (b : List Int) (j : Nat) : Int := b.getD j 0
/-- a binding of five as an array -/
abbrev bAgg (b : List Int) : Value := .agg #[.int .i64 (at5 b 0), .int .i64 (at5 b 1), .int .i64 (at5 b 2), .int .i64 (at5 b 3), .int .i64 (at5 b 4)]
/-- block g holds the binding -/
def Arr (g : Nat) (b : List Int) (w : World) : Prop := (∀ j, j < 5 → w.cell? ⟨g, j, none⟩ = some (.int .i64 (at5 b j))) ∧ ∀ o, w.frozen? ⟨g, o, none⟩ = false
theorem Arr.below {g B : Nat} {b : List Int} {w w' : World} (h : Arr g b w) (hb : Below B w w') (hg : g < B) : Arr g b w' :=
  ⟨fun j hj => (hb.cell (p := ⟨g, j, none⟩) hg).trans (h.1 j hj), fun o => (hb.frozen (p := ⟨g, o, none⟩) hg).trans (h.2 o)⟩
theorem Arr.set {g : Nat} {b : List Int} {w : World} (h : Arr g b w) (hb : b.length = 5) (j : Nat) (hj : j < 5) (v : Int) : Arr g (b.set j v) (w.setCell ⟨g, j, none⟩ (.int .i64 v)) := by
  refine ⟨fun i hi => ?_, fun o => by rw [World.frozen?_setCell]; exact h.2 o⟩
  unfold at5
  rw [List.getD_eq_getElem?_getD, List.getElem?_set]
  by_cases e : j = i
  · subst e
    rw [if_pos rfl, if_pos (by omega)]
    exact World.cell?_setCell_same (w := w) (a := ⟨g, j, none⟩) (v := .int .i64 v) (h.1 j hj)
  · rw [if_neg e, ← List.getD_eq_getElem?_getD]
    refine Eq.trans ?_ (h.1 i hi)
    exact World.cell?_setCell_other (w := w) (a := ⟨g, j, none⟩) (v := .int .i64 v) (b := ⟨g, i, none⟩) (fun e9 => e (by injection e9))
theorem Arr.ints {g B : Nat} {b : List Int} {w : World} (h : Arr g b w) (hb : b.length = 5) (hg : g < B) : IntsAt w B (.slice (some ⟨g, 0, none⟩) 5 5) b := by
  refine ⟨some ⟨g, 0, none⟩, 5, by rw [hb], by omega, by decide, fun _ => ⟨g, 0, rfl, hg, fun j u hu => ?_⟩, fun e => by cases e⟩
  rw [flat_int] at hu
  have hj : j < 5 := by
    have := (List.getElem?_eq_some_iff.1 hu).1
    rw [List.length_map] at this; omega
  rw [Nat.zero_add, h.1 j hj]
  rw [List.getElem?_map] at hu
  unfold at5
  rw [List.getD_eq_getElem?_getD]
  cases hq : b[j]? with
  | none => rw [hq] at hu; cases hu
  | some z => rw [hq] at hu; exact hu
theorem below_set5 {B g : Nat} {w w' : World} (h : Below B w w') (hg : B ≤ g) (v0 v1 v2 v3 v4 : Value) : Below B w (((((w'.setCell ⟨g, 0, none⟩ v0).setCell ⟨g, 1, none⟩ v1).setCell ⟨g, 2, none⟩ v2).setCell ⟨g, 3, none⟩ v3).setCell ⟨g, 4, none⟩ v4) :=
  ((((h.setCell (p := ⟨g, 0, none⟩) hg _).setCell (p := ⟨g, 1, none⟩) hg _).setCell (p := ⟨g, 2, none⟩) hg _).setCell (p := ⟨g, 3, none⟩) hg _).setCell (p := ⟨g, 4, none⟩) hg _
theorem set_getD_self (b : List Int) (j : Nat) : b.set j (b.getD j 0) = b := by
  apply List.ext_getElem?
  intro i
  rw [List.getElem?_set]
  split
  · rename_i e
    subst e
    split
    · rename_i h; rw [List.getD_eq_getElem?_getD, List.getElem?_eq_getElem h]; rfl
    · rename_i h; rw [List.getElem?_eq_none (by omega)]
  · rfl
theorem Arr.new (w : World) (t : TypeId) (b : List Int) : Arr w.heap.size b (w.alloc (.cells #[.int .i64 (at5 b 0), .int .i64 (at5 b 1), .int .i64 (at5 b 2), .int .i64 (at5 b 3), .int .i64 (at5 b 4)] t)) := by
  refine ⟨fun j hj => ?_, fun o => by simp [go_sem]⟩
  rcases (show j = 0 ∨ j = 1 ∨ j = 2 ∨ j = 3 ∨ j = 4 by omega) with h | h | h | h | h <;> subst h <;> simp [go_sem]

/-- what a round that goes on keeps: all below n₀, and all blocks of cells that are neither a row of rows nor a box of one -/
structure Kp (n₀ : Nat) (W W' : World) : Prop where
  low : Below n₀ W W'
  far : ∀ (k : Nat) (c : Array Value) (t : TypeId) (f : Nat × Nat), W.heap[k]? = some (.cells c t f) → t ≠ 31 → t ≠ 35 → W'.heap[k]? = some (.cells c t f)
theorem Kp.refl (n₀ : Nat) (W : World) : Kp n₀ W W := ⟨Below.refl _ _, fun _ _ _ _ h _ _ => h⟩
theorem Kp.trans {n₀ : Nat} {A B C : World} (h : Kp n₀ A B) (h' : Kp n₀ B C) : Kp n₀ A C := ⟨h.low.trans h'.low, fun _ _ _ _ hk h1 h2 => h'.far _ _ _ _ (h.far _ _ _ _ hk h1 h2) h1 h2⟩
theorem Kp.below {n₀ : Nat} {W W' : World} (h : Below W.heap.size W W') (hn : n₀ ≤ W.heap.size) : Kp n₀ W W' :=
  ⟨h.mono hn, fun k _ _ _ hk _ _ => (h.block k (Array.getElem?_eq_some_iff.1 hk).1).trans hk⟩
theorem Kp.book {n₀ : Nat} {w : World} (hn : n₀ ≤ w.heap.size) (W : World) (l : Nat) (o o' : Obj) (hl : w.heap.size ≤ l) (h : W.heap[l]? = some o) (hc : o.isCells = false) (hw : o.isWalk = false) : Kp n₀ W (W.putObj l o') :=
  ⟨belowK_b hn W l o o' hl h hc hw, fun k _ _ _ hk _ _ => by
    have hne : k ≠ l := fun e => by subst e; rw [h] at hk; cases hk; cases hc
    exact (World.putObj_heap_other hne).trans hk⟩
theorem grown_none {W W' : World} (h : Below W.heap.size W W') : W.grownBy W' none := ⟨h.os, h.tape, h.output, h.size, fun k hk _ => h.block k hk⟩
theorem RoundIn.anyDepth {F : Fence} (hd : F.depth = none) {m m' : Nat} {P : Program} {l : Nat} {f : FuncId} {tmps : Array Value} {assign body : Code} {w : World} {R : Ending → World → Prop}
    (h : RoundIn F m P l f tmps assign body w R) : RoundIn F m' P l f tmps assign body w R := ⟨h.1, fun c cs _ => h.2 c cs (fun d h => by rw [hd] at h; cases h)⟩
theorem YieldAt.anyDepth {F : Fence} (hd : F.depth = none) {m : Nat} (m' : Nat) {P : Program} {l : Nat} {args : Array Value} {W : World} {R : Ending → World → Prop} (h : YieldAt F m P l args W R) : YieldAt F m' P l args W R := by
  obtain ⟨fn, tmps, assign, body, hy, hR⟩ := h
  exact ⟨fn, tmps, assign, body, hy, RoundIn.anyDepth hd hR⟩
/-- block g is a box that holds the binding -/
def BoxA (g : Nat) (b : List Int) (w : World) : Prop := w.heap[g]? = some (.cells #[.int .i64 (at5 b 0), .int .i64 (at5 b 1), .int .i64 (at5 b 2), .int .i64 (at5 b 3), .int .i64 (at5 b 4)] 104 (0, 0))
theorem BoxA.new (w : World) (b : List Int) : BoxA w.heap.size b (w.alloc (.cells #[.int .i64 (at5 b 0), .int .i64 (at5 b 1), .int .i64 (at5 b 2), .int .i64 (at5 b 3), .int .i64 (at5 b 4)] 104)) := World.alloc_heap_new w _
theorem BoxA.lt {g : Nat} {b : List Int} {w : World} (h : BoxA g b w) : g < w.heap.size := (Array.getElem?_eq_some_iff.1 h).1
theorem BoxA.kp {g n₀ : Nat} {b : List Int} {w w' : World} (h : BoxA g b w) (hk : Kp n₀ w w') : BoxA g b w' := hk.far g _ _ _ h (by decide) (by decide)
theorem BoxA.below {g : Nat} {b : List Int} {w w' : World} (h : BoxA g b w) (hk : Below w.heap.size w w') : BoxA g b w' := (hk.block g h.lt).trans h
theorem BoxA.arr {g : Nat} {b : List Int} {w : World} (h : BoxA g b w) : Arr g b w := by
  have h : w.heap[g]? = _ := h
  refine ⟨fun j hj => ?_, fun o => by simp [World.frozen?, h]⟩
  rcases (show j = 0 ∨ j = 1 ∨ j = 2 ∨ j = 3 ∨ j = 4 by omega) with e | e | e | e | e <;> subst e <;> simp [World.cell?, h]
theorem SliceAt.tail {α : Type} {f : α → List Value} (k : Nat) (hf : ∀ x, (f x).length = k) {w : World} {B c : Nat} {A : Option Addr} {a : α} {l : List α} (h : SliceAt f w B (.slice A (l.length + 1) c) (a :: l)) :
    ∃ b off, A = some ⟨b, off, none⟩ ∧ b < B ∧ SliceAt f w B (.slice (some ⟨b, off + k, none⟩) l.length (c - 1)) l := by
  obtain ⟨A', c', hv, h1, h2, h3, h4⟩ := h
  rw [List.length_cons] at hv h1
  injection hv with e1 _ e2
  subst e1 e2
  obtain ⟨b, off, rfl, hb, hc⟩ := h3 (by simp)
  refine ⟨b, off, rfl, hb, some ⟨b, off + k, none⟩, c - 1, rfl, by omega, by omega, fun _ => ⟨b, off + k, rfl, hb, fun j u hu => ?_⟩, fun e => by cases e⟩
  rw [Nat.add_assoc]
  refine hc (k + j) u ?_
  rw [List.flatMap_cons, List.getElem?_append_right (by rw [hf]; omega), hf, Nat.add_sub_cancel_left]
  exact hu
theorem AtomS_at.tail {w : World} {B c : Nat} {A : Option Addr} {a : Atm} {l : List Atm} (h : AtomS_at w B (.slice A (l.length + 1) c) (a :: l)) :
    ∃ b off, A = some ⟨b, off, none⟩ ∧ b < B ∧ AtomS_at w B (.slice (if c = 1 then some ⟨b, off, none⟩ else some ⟨b, off + 2, none⟩) l.length (c - 1)) l := by
  obtain ⟨Vs, h1, h2, h3⟩ := h
  cases Vs with
  | nil => simp at h1
  | cons V Vs =>
    have hl : Vs.length = l.length := by simpa using h1
    have e : apairs (a :: l) (V :: Vs) = (a.rel, V) :: apairs l Vs := rfl
    have hp := apairs_len hl
    have hc : l.length + 1 ≤ c := by
      obtain ⟨_, _, hv, h4, _⟩ := h2
      rw [e, List.length_cons, hp] at hv h4
      injection hv with _ _ e3
      omega
    rw [e, ← hp] at h2
    obtain ⟨b, off, rfl, hb, hs⟩ := SliceAt.tail 2 apairCells_len h2
    rw [hp] at hs
    refine ⟨b, off, rfl, hb, Vs, hl, ?_, fun i h h' => h3 (i + 1) (by simp; omega) (by simp; omega)⟩
    by_cases hc1 : c = 1
    · rw [if_pos hc1]
      have h0 : (apairs l Vs).length = 0 := by omega
      have h00 : l.length = 0 := by omega
      refine ⟨some ⟨b, off, none⟩, c - 1, by rw [h0, h00], by omega, by rw [hc1]; decide, fun h => absurd h (by omega), fun e => by cases e⟩
    · rw [if_neg hc1]; exact hs
theorem setCell_self {w : World} {g j : Nat} {v : Value} {c : Array Value} {t : TypeId} {f : Nat × Nat} (h : w.heap[g]? = some (.cells c t f)) : (w.setCell ⟨g, j, none⟩ v).heap[g]? = some (.cells (c.setIfInBounds j v) t f) := by
  obtain ⟨hlt, hk⟩ := Array.getElem?_eq_some_iff.1 h
  show (w.heap.modify g _)[g]? = _
  rw [Array.getElem?_eq_getElem (by rw [Array.size_modify]; exact hlt), Array.getElem_modify_self, hk]
  rfl
theorem cells_set5 {w : World} {g : Nat} {z0 z1 z2 z3 z4 : Value} {t : TypeId} {f : Nat × Nat} (v0 v1 v2 v3 v4 : Value) (h : w.heap[g]? = some (.cells #[z0, z1, z2, z3, z4] t f)) : (((((w.setCell ⟨g, 0, none⟩ v0).setCell ⟨g, 1, none⟩ v1).setCell ⟨g, 2, none⟩ v2).setCell ⟨g, 3, none⟩ v3).setCell ⟨g, 4, none⟩ v4).heap[g]? = some (.cells #[v0, v1, v2, v3, v4] t f) :=
  setCell_self (setCell_self (setCell_self (setCell_self (setCell_self h))))
theorem BoxA.mk5 {w : World} {g : Nat} {z0 z1 z2 z3 z4 : Value} (b : List Int) (h : w.heap[g]? = some (.cells #[z0, z1, z2, z3, z4] 104 (0, 0))) : BoxA g b (((((w.setCell ⟨g, 0, none⟩ (.int .i64 (at5 b 0))).setCell ⟨g, 1, none⟩ (.int .i64 (at5 b 1))).setCell ⟨g, 2, none⟩ (.int .i64 (at5 b 2))).setCell ⟨g, 3, none⟩ (.int .i64 (at5 b 3))).setCell ⟨g, 4, none⟩ (.int .i64 (at5 b 4))) := cells_set5 _ _ _ _ _ h

theorem implIsValidTerm_at (t : Int) (q : Bool) (hq : validT t = q) (w : World) :
    Calls Tryz.prog 124 #[.int .i64 t] w fun e w' => e = .returned (.bool q) ∧ w = w' := by
  subst hq
  by_cases h1 : -10 ≤ t
  · have hd1 : decide (-10 ≤ t) = true := decide_eq_true h1
    have HV := Lib.hid (show decide (t < 5) = validT t by unfold validT inB; rw [decide_eq_decide]; omega)
    clear h1
    go_enter Tryz.func124, Tryz.ntmps124
    go_wp2
    go_ret
    exact ⟨ret_bool HV.out, rfl⟩
  · have hd1 : decide (-10 ≤ t) = false := decide_eq_false h1
    have HV := Lib.hid (show validT t = false by unfold validT inB; exact decide_eq_false (by omega))
    clear h1
    go_enter Tryz.func124, Tryz.ntmps124
    go_wp2
    go_ret
    exact ⟨ret_bool HV.out.symm, rfl⟩
theorem implIsVariable_any (t : Int) (w : World) :
    Calls Tryz.prog 71 #[.int .i64 t] w fun e w' => e = .returned (.bool (decide (0 ≤ t))) ∧ w = w' := by
  go_enter Tryz.func71, Tryz.ntmps71
  go_wp2
  go_ret
  exact ⟨rfl, rfl⟩

set_option maxRecDepth 100000 in
theorem implTermValue_any (t : Int) (b : List Int) (v : Value) (w : World) (hb : IntsAt w w.heap.size v b) (h0 : -9223372036854775808 ≤ t) (ht : t < b.length) :
    Calls Tryz.prog 165 #[.int .i64 t, v] w fun e w' => e = .returned (.int .i64 (fillT b t)) ∧ w = w' := by
  have hvar := implIsVariable_any t w
  by_cases hneg : t < 0
  · have d1 : decide (0 ≤ t) = false := decide_eq_false (by omega)
    have HF := Lib.hid (show fillT b t = -1 - t by unfold fillT; rw [if_pos hneg])
    have hz : 0 ≤ -1 - t := by omega
    rw [d1] at hvar
    go_enter Tryz.func165, Tryz.ntmps165
    go_wp2_with (go_at_call 71; refine hvar.mono ?_; rintro e w3 ⟨rfl, rfl⟩)
    go_ret
    exact ⟨by rw [HF.out] <;> go_num, rfl⟩
  · have d1 : decide (0 ≤ t) = true := decide_eq_true (by omega)
    rw [d1] at hvar
    obtain ⟨j, rfl⟩ : ∃ j : Nat, t = (j : Int) := ⟨t.toNat, by omega⟩
    have hj : j < b.length := by omega
    have HF := Lib.hid (show fillT b (j : Int) = b[j] by unfold fillT; rw [if_neg hneg]; simp [List.getD, hj])
    have HB := Lib.hid hb
    obtain ⟨P, c, rfl, hc1, hc2, -⟩ := hb
    unfold maxLen at hc2
    obtain ⟨b0, off0, rfl, hb0, e0⟩ := IntsAt.elem HB.out j hj
    clear hneg
    go_enter Tryz.func165, Tryz.ntmps165
    go_wp2_with (go_at_call 71; refine hvar.mono ?_; rintro e w3 ⟨rfl, rfl⟩)
    go_ret
    exact ⟨by rw [HF.out]; rfl, rfl⟩

set_option maxHeartbeats 1600000 in
set_option maxRecDepth 100000 in
theorem implNothingBound_any (w : World) :
    Calls Tryz.prog 76 #[] w fun e w' => e = .returned (bAgg blank5) ∧ Below w.heap.size w w' := by
  obtain ⟨E, hEq⟩ : ∃ E, E = ((w.alloc (.cells #[.int .i64 0, .int .i64 0, .int .i64 0, .int .i64 0, .int .i64 0] 104)).alloc (.cells #[.int .i64 0, .int .i64 0, .int .i64 0, .int .i64 0, .int .i64 0] 104)) := ⟨_, rfl⟩
  have hE : Below w.heap.size w E := by rw [hEq]; exact below_more (below_more (Below.refl _ _) _) _
  have HEz := Lib.hid (show E.heap.size = w.heap.size + 2 by rw [hEq]; simp)
  have R0 := Lib.hid (show ∀ j, j < 5 → E.cell? ⟨w.heap.size, j, none⟩ = some (.int .i64 0) by
    intro j hj
    rcases (show j = 0 ∨ j = 1 ∨ j = 2 ∨ j = 3 ∨ j = 4 by omega) with h | h | h | h | h <;> subst h <;> (rw [hEq]; simp [go_sem]))
  have RZ := Lib.hid (show ∀ o, E.frozen? ⟨w.heap.size, o, none⟩ = false by intro o; rw [hEq]; simp [go_sem])
  have A0 := Lib.hid (show Arr (w.heap.size + 1) [0, 0, 0, 0, 0] E by
    refine ⟨fun j hj => ?_, fun o => by rw [hEq]; simp [go_sem]⟩
    rcases (show j = 0 ∨ j = 1 ∨ j = 2 ∨ j = 3 ∨ j = 4 by omega) with h | h | h | h | h <;> subst h <;> (rw [hEq]; simp [go_sem, at5]))
  go_enter Tryz.func76, Tryz.ntmps76
  go_wp2
  rw [← hEq]
  clear hEq
  go_loopw [3] (fun i wr => ∃ (k : Nat) (bk : List Int), k ≤ 5 ∧ i = .int .i64 k ∧ Hid (bk.length = 5) ∧ Hid (∀ j, j < k → at5 bk j = 10) ∧ Hid (Arr (w.heap.size + 1) bk wr) ∧ Hid (Chg (fun q => q = w.heap.size + 1) E wr)) (fun i _ => 5 - (intOf i).toNat)
  case atStart => exact ⟨0, [0, 0, 0, 0, 0], by omega, rfl, Lib.hid rfl, Lib.hid (fun j hj => by omega), A0, Lib.hid (Chg.refl _ _)⟩
  case round =>
    obtain ⟨k, bk, hk, rfl, HL, HT, HA, HC⟩ := hrel
    by_cases hlt : k < 5
    · have e0 := HA.out.1 k hlt
      have ez := HA.out.2 k
      have HA2 := Lib.hid (HA.out.set HL.out k hlt 10)
      have HC2 := Lib.hid (HC.out.setCell (p := ⟨w.heap.size + 1, k, none⟩) rfl (.int .i64 10))
      go_wp2
      go_roundw
      case rel =>
        refine ⟨k + 1, bk.set k 10, by omega, by go_num, Lib.hid (by rw [List.length_set]; exact HL.out), Lib.hid (fun j hj => ?_), HA2, HC2⟩
        unfold at5
        rw [List.getD_eq_getElem?_getD, List.getElem?_set]
        split
        · rename_i e; subst e; rw [if_pos (by rw [HL.out]; omega)]; rfl
        · rw [← List.getD_eq_getElem?_getD]; exact HT.out j (by omega)
      case measure => simp [intOf]; omega
    · obtain rfl : k = 5 := by omega
      have a0 := (HA.out.1 0 (by omega)).trans (by rw [HT.out 0 (by omega)])
      have a1 := (HA.out.1 1 (by omega)).trans (by rw [HT.out 1 (by omega)])
      have a2 := (HA.out.1 2 (by omega)).trans (by rw [HT.out 2 (by omega)])
      have a3 := (HA.out.1 3 (by omega)).trans (by rw [HT.out 3 (by omega)])
      have a4 := (HA.out.1 4 (by omega)).trans (by rw [HT.out 4 (by omega)])
      have hz : w.heap.size < E.heap.size := by rw [HEz.out]; omega
      have r0 := (HC.out.cell (b := w.heap.size) (o := 0) hz (by omega)).trans (R0.out 0 (by omega))
      have r1 := (HC.out.cell (b := w.heap.size) (o := 1) hz (by omega)).trans (R0.out 1 (by omega))
      have r2 := (HC.out.cell (b := w.heap.size) (o := 2) hz (by omega)).trans (R0.out 2 (by omega))
      have r3 := (HC.out.cell (b := w.heap.size) (o := 3) hz (by omega)).trans (R0.out 3 (by omega))
      have r4 := (HC.out.cell (b := w.heap.size) (o := 4) hz (by omega)).trans (R0.out 4 (by omega))
      have rz := fun o => (HC.out.frozen (b := w.heap.size) (o := o) hz (by omega)).trans (RZ.out o)
      have HB := Lib.hid (show Below w.heap.size w wr from hE.trans (HC.out.below (B := w.heap.size) (fun q hq => by omega) (by omega)))
      go_wp2
      refine bodyPost_ret (v := bAgg blank5) (by simp [results, Tryz.results76, go_sem, r0, r1, r2, r3, r4, blank5, at5]) rfl ⟨rfl, ?_⟩
      exact below_set5 HB.out (Nat.le_refl _) _ _ _ _ _

end Go.Proofs.YtoapphgahmofhaaGreat
