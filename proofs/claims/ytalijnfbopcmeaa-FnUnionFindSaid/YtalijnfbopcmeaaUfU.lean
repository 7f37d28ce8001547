/-
  Walks and plain lemmas for the laws of this seat: what single Go functions return, for every argument.
-/
import Derived.Lib.MinMax
import Derived.Test.YtalijnfbopcmeaaNum
import Derived.Test.YtalijnfbopcmeaaInts
import Derived.Test.YtalijnfbopcmeaaMUf
import Derived.Test.YtalijnfbopcmeaaPlan
import Derived.Test.YtalijnfbopcmeaaUfF
namespace Go.Proofs.Ytalijnfbopcmeaa
open Go.RowKit

theorem nullNum_is (a : Int) : ((nullNum a).2 = true ∧ (-40 ≤ a ∧ a < 0) ∧ (nullNum a).1 = -1 - a) ∨ ((nullNum a).2 = false ∧ ¬(-40 ≤ a ∧ a < 0)) := by
  by_cases h : -40 ≤ a ∧ a < 0
  · rw [nullNum_yes a h]; exact .inl ⟨rfl, h, rfl⟩
  · rw [nullNum_no a h]; exact .inr ⟨rfl, h⟩
theorem canU_bad {x : List Int} {a : Int} (h : validV a = false) : canU x a = false := by
  unfold validV at h; have h := of_decide_eq_false h; exact decide_eq_false (by omega)
theorem canU_far {x : List Int} {a n : Int} (h : -40 ≤ a ∧ a < 0) (hn : n = -1 - a) (hf : (x.length : Int) ≤ n) : canU x a = false := decide_eq_false (by omega)
theorem canU_near {x : List Int} {a n : Int} (h : -40 ≤ a ∧ a < 0) (hn : n = -1 - a) (hf : ¬(x.length : Int) ≤ n) : canU x a = true := decide_eq_true (by omega)
theorem canU_con {x : List Int} {a : Int} (h : ¬(-40 ≤ a ∧ a < 0)) (hv : validV a = true) : canU x a = true := by
  unfold validV at hv; have h := of_decide_eq_true hv; exact decide_eq_true (by omega)
set_option maxHeartbeats 6400000 in
set_option maxRecDepth 100000 in
theorem specUnion_any (v : Value) (x : List Int) (a b : Int) (w : World) (h : UnionFind_at w w.heap.size v x) (hw : UnionFind_wf x) (hn : UnionFind_sz x ≤ 1048576) (ha0 : -9223372036854775808 ≤ a) (ha1 : a ≤ 9223372036854775807) (hb0 : -9223372036854775808 ≤ b) (hb1 : b ≤ 9223372036854775807) :
    Calls Try.prog 15 #[v, .int .i64 a, .int .i64 b] w (GivesUni x a b w) := by
  obtain ⟨P, c, rfl⟩ := UnionFind_form h
  have HX := Lib.hid h
  have hN := h.ints
  clear h
  unfold UnionFind_sz IntS_sz at hn
  obtain ⟨_, _, hv1, hc1, hc2, hel, hA⟩ := id hN
  injection hv1 with e1 _ e2
  subst e1 e2
  unfold maxLen at hc2
  obtain ⟨E, hEq⟩ : ∃ E, E = ((w.alloc (.cells #[.slice P x.length c] 26)).alloc (.cells #[.slice none 0 0] 26)) := ⟨_, rfl⟩
  have hE : Below w.heap.size w E := by rw [hEq]; exact below_more (below_more (Below.refl _ _) _) _
  have HEz := Lib.hid (show E.heap.size = w.heap.size + 2 by rw [hEq]; simp)
  have S0 := Lib.hid (show E.cell? ⟨w.heap.size, 0, none⟩ = some (.slice P x.length c) by rw [hEq]; simp [go_sem])
  have R0 := Lib.hid (show E.cell? ⟨w.heap.size + 1, 0, none⟩ = some (.slice none 0 0) by rw [hEq]; simp [go_sem])
  have RZ := Lib.hid (show ∀ o, E.frozen? ⟨w.heap.size + 1, o, none⟩ = false from fun o => by rw [hEq]; simp [go_sem])
  have hF : Below E.heap.size E (E.alloc (.cells #[] 3)) := (Below.refl _ _).alloc (Nat.le_refl _) _
  have hEF := hE.trans (hF.mono hE.size)
  have HLE := Lib.hid (show IntsAt (E.alloc (.cells #[] 3)) w.heap.size (.slice P x.length c) x from SliceAt.below hN hEF (Nat.le_refl _))
  have HOE := Lib.hid (OwnInts.empty E E.heap.size (Nat.le_refl _))
  have hNP : P = none → c = 0 := hA
  have HNP := Lib.hid hNP
  clear hN hel hA hNP
  go_enter Try.func15, Try.ntmps15
  have hle := HLE.out
  have hoe := HOE.out
  rw [hEq] at hle hoe
  go_upto_region 2 with (at_builtin; refine ints_apps (r := x) hoe rfl _ _ rfl (by simp [go_sem]) P x.length c rfl rfl hle HNP.out (by simp; omega) (by simp) ?_; intro v1 w1 hO1 hW1 _ _; rw [List.nil_append] at hO1; obtain ⟨P2, c2, rfl, hl2, hm2, -⟩ := id hO1.at_)
  rw [← hEq] at hO1 hW1
  clear hle hoe
  unfold maxLen at hm2
  have hb1' : Below E.heap.size E w1 := hF.trans hW1
  clear hW1 hEq
  obtain ⟨Y, hY⟩ : ∃ Y, Y = w1.heap.size := ⟨_, rfl⟩
  have hz1 : w.heap.size + 2 ≤ w1.heap.size := by have h1 := hb1'.size; have h2 := HEz.out; omega
  have s0 := (hb1'.cell (p := ⟨w.heap.size, 0, none⟩) (by show w.heap.size < _; have := HEz.out; omega)).trans S0.out
  have r0 := (hb1'.cell (p := ⟨w.heap.size + 1, 0, none⟩) (by show w.heap.size + 1 < _; have := HEz.out; omega)).trans R0.out
  have rz := fun o => (hb1'.frozen (p := ⟨w.heap.size + 1, o, none⟩) (by show w.heap.size + 1 < _; have := HEz.out; omega)).trans (RZ.out o)
  obtain ⟨W, hWq⟩ : ∃ W, W = w1.alloc (.cells #[.slice P2 x.length c2] 26) := ⟨_, rfl⟩
  have hAl : Below Y w1 W := by rw [hWq]; exact (Below.refl _ _).alloc (by omega) _
  have HSZ := Lib.hid (show W.heap.size = Y + 1 by rw [hWq, hY]; simp)
  have Y0 := Lib.hid (show W.cell? ⟨Y, 0, none⟩ = some (.slice P2 x.length c2) by rw [hWq, hY]; simp [go_sem])
  have S1 := Lib.hid ((hAl.cell (p := ⟨w.heap.size, 0, none⟩) (by show w.heap.size < Y; omega)).trans s0)
  have R1 := Lib.hid ((hAl.cell (p := ⟨w.heap.size + 1, 0, none⟩) (by show w.heap.size + 1 < Y; omega)).trans r0)
  have RZ1 := Lib.hid (show ∀ o, W.frozen? ⟨w.heap.size + 1, o, none⟩ = false from fun o => (hAl.frozen (p := ⟨w.heap.size + 1, o, none⟩) (by show w.heap.size + 1 < Y; omega)).trans (rz o))
  have HW0 := Lib.hid (show Below w.heap.size w W from hE.trans ((hb1'.trans (hAl.mono (by rw [hY]; exact hb1'.size))).mono hE.size))
  have HOW := Lib.hid (show OwnInts E.heap.size (.slice P2 x.length c2) x W from hO1.below hAl (by omega))
  have HIN := Lib.hid (show Value.inside Y (.slice P2 x.length c2) from fun g hg => by rw [hY]; exact (hO1.lt g hg).2)
  have HYB := Lib.hid (show w.heap.size + 2 ≤ Y by omega)
  clear s0 r0 rz hz1 hAl hO1 hb1'
  go_upto_region 2 with fail
  rw [← hY, ← hWq]
  clear hWq hY
  have cells : ∀ wq, Below W.heap.size W wq → wq.cell? ⟨w.heap.size, 0, none⟩ = some (.slice P x.length c) ∧ wq.cell? ⟨w.heap.size + 1, 0, none⟩ = some (.slice none 0 0) ∧ (∀ o, wq.frozen? ⟨w.heap.size + 1, o, none⟩ = false) ∧ wq.cell? ⟨Y, 0, none⟩ = some (.slice P2 x.length c2) := fun wq hb => by
    have h1 := HSZ.out
    have h2 := HYB.out
    exact ⟨(hb.cell (p := ⟨w.heap.size, 0, none⟩) (by show w.heap.size < _; omega)).trans S1.out, (hb.cell (p := ⟨w.heap.size + 1, 0, none⟩) (by show w.heap.size + 1 < _; omega)).trans R1.out, fun o => (hb.frozen (p := ⟨w.heap.size + 1, o, none⟩) (by show w.heap.size + 1 < _; omega)).trans (RZ1.out o), (hb.cell (p := ⟨Y, 0, none⟩) (by show Y < _; omega)).trans Y0.out⟩
  have CE := Lib.hid cells
  have fin : ∀ (wq : World) (l : List Int), Below w.heap.size w wq → OwnInts E.heap.size (.slice P2 x.length c2) l wq → UnionFind_own w.heap.size (wq.setCell ⟨w.heap.size + 1, 0, none⟩ (.slice P2 x.length c2)).heap.size (.agg #[.slice P2 x.length c2]) l (wq.setCell ⟨w.heap.size + 1, 0, none⟩ (.slice P2 x.length c2)) ∧ Below w.heap.size w (wq.setCell ⟨w.heap.size + 1, 0, none⟩ (.slice P2 x.length c2)) := fun wq l hb ho => by
    have hst : Chg (Mid (w.heap.size + 1) (w.heap.size + 2)) wq (wq.setCell ⟨w.heap.size + 1, 0, none⟩ (.slice P2 x.length c2)) := (Chg.refl _ wq).setCell (p := ⟨w.heap.size + 1, 0, none⟩) ⟨Nat.le_refl _, by show w.heap.size + 1 < w.heap.size + 2; omega⟩ _
    have h1 : IntS_own E.heap.size wq.heap.size (.slice P2 x.length c2) l wq := IntsO.of ho
    refine ⟨⟨_, rfl, ?_⟩, hb.setCell (p := ⟨w.heap.size + 1, 0, none⟩) (by show w.heap.size ≤ w.heap.size + 1; omega) _⟩
    exact (h1.chg hst (.inr (by have := HEz.out; omega))).mono (by have := HEz.out; omega) (by simp [World.setCell])
  have HEND := Lib.hid (show ∀ (wq : World), Below W.heap.size W wq → Union_r0 x a b = x → UnionFind_own w.heap.size (wq.setCell ⟨w.heap.size + 1, 0, none⟩ (.slice P2 x.length c2)).heap.size (.agg #[.slice P2 x.length c2]) (Union_r0 x a b) (wq.setCell ⟨w.heap.size + 1, 0, none⟩ (.slice P2 x.length c2)) ∧ Below w.heap.size w (wq.setCell ⟨w.heap.size + 1, 0, none⟩ (.slice P2 x.length c2)) from fun wq hb hr => by
    rw [hr]
    exact fin wq x (HW0.out.trans (hb.mono HW0.out.size)) (HOW.out.below hb (Nat.le_refl _)))
  have FI := Lib.hid fin
  obtain ⟨s1, r1, rz1, y1⟩ := cells W (Below.refl _ _)
  clear cells fin
  have hna := fun W => specNullNumber_any a W ha0 ha1
  have hnb := fun W => specNullNumber_any b W hb0 hb1
  have HNA := Lib.hid (nullNum_is a)
  have HNB := Lib.hid (nullNum_is b)
  generalize (nullNum a).1 = na at *
  generalize (nullNum a).2 = oa at *
  generalize (nullNum b).1 = nb at *
  generalize (nullNum b).2 = ob at *
  go_wp2_with fail
  refine (hna _).mono ?_; rintro e w7 ⟨rfl, rfl⟩
  go_wp2_with fail
  refine (hnb _).mono ?_; rintro e w7 ⟨rfl, rfl⟩
  go_upto_region 4 with fail
  have hval := fun (bb : Bool) (hq : ufOk x = bb) => specIsValidUf_at x bb hq (.agg #[.slice P x.length c]) W ((HX.out.below HW0.out (Nat.le_refl _)).more HW0.out.size) hw
  clear hna hnb
  go_cut [65] from 33 (fun t wx => t = .bool (!uniOk x a b) ∧ Below W.heap.size W wx)
  case first =>
    have hva := fun (bb : Bool) (hq : validV a = bb) (W : World) => specIsValidValue_at a bb hq W ha0 ha1
    have hvb := fun (bb : Bool) (hq : validV b = bb) (W : World) => specIsValidValue_at b bb hq W hb0 hb1
    cases hok : ufOk x with
    | false =>
      have hv := hval false hok
      have HU := Lib.hid (uniOk_no1 (a := a) (b := b) hok)
      clear hval hva hvb hok ha0 ha1 hb0 hb1
      go_wp2_with (go_at_call 19; refine hv.mono ?_; rintro e w2 ⟨rfl, hb2⟩)
      go_meet
      case rel => exact ⟨by rw [HU.out]; rfl, hb2⟩
    | true =>
      have hv := hval true hok
      clear hval
      cases hqa : validV a with
      | false =>
        have hva := hva false hqa
        have HU := Lib.hid (uniOk_no2 (b := b) (canU_bad (x := x) hqa))
        clear hvb hqa ha0 ha1 hb0 hb1 hok
        go_wp2_with (first | (go_at_call 19; refine hv.mono ?_; rintro e w2 ⟨rfl, hb2⟩) | (go_at_call 51; refine (hva _).mono ?_; rintro e w3 ⟨rfl, rfl⟩))
        go_meet
        case rel => exact ⟨by rw [HU.out]; rfl, hb2⟩
      | true =>
        have hva := hva true hqa
        cases hqb : validV b with
        | false =>
          have hvb := hvb false hqb
          have HU := Lib.hid (uniOk_no3 (a := a) (canU_bad (x := x) hqb))
          clear hqa hqb ha0 ha1 hb0 hb1 hok
          go_wp2_with fail
          refine hv.mono ?_; rintro e w2 ⟨rfl, hb2⟩
          go_wp2_with fail
          refine (hva _).mono ?_; rintro e w3 ⟨rfl, rfl⟩
          go_wp2_with fail
          refine (hvb _).mono ?_; rintro e w3 ⟨rfl, rfl⟩
          go_wp2
          go_meet
          case rel => exact ⟨by rw [HU.out]; rfl, hb2⟩
        | true =>
          have hvb := hvb true hqb
          clear ha0 ha1 hb0 hb1
          obtain ⟨ra, hra⟩ : ∃ r, canU x a = r := ⟨_, rfl⟩
          obtain ⟨rb, hrb⟩ : ∃ r, canU x b = r := ⟨_, rfl⟩
          have HU := Lib.hid (show uniOk x a b = (ra && rb) by unfold uniOk; rw [hok, hra, hrb]; rfl)
          have hfa : (oa = true ∧ decide ((x.length : Int) ≤ na) = !ra) ∨ (oa = false ∧ ra = true) := by
            rcases HNA.out with ⟨h1, h2, h3⟩ | ⟨h1, h2⟩
            · refine .inl ⟨h1, ?_⟩
              by_cases hf : (x.length : Int) ≤ na
              · rw [decide_eq_true hf, ← hra, canU_far h2 h3 hf]; rfl
              · rw [decide_eq_false hf, ← hra, canU_near h2 h3 hf]; rfl
            · exact .inr ⟨h1, by rw [← hra]; exact canU_con h2 hqa⟩
          have hfb : (ob = true ∧ decide ((x.length : Int) ≤ nb) = !rb) ∨ (ob = false ∧ rb = true) := by
            rcases HNB.out with ⟨h1, h2, h3⟩ | ⟨h1, h2⟩
            · refine .inl ⟨h1, ?_⟩
              by_cases hf : (x.length : Int) ≤ nb
              · rw [decide_eq_true hf, ← hrb, canU_far h2 h3 hf]; rfl
              · rw [decide_eq_false hf, ← hrb, canU_near h2 h3 hf]; rfl
            · exact .inr ⟨h1, by rw [← hrb]; exact canU_con h2 hqb⟩
          have HHA := Lib.hid hfa
          have HHB := Lib.hid hfb
          clear hra hrb hok hqa hqb hfa hfb
          go_wp2_with fail
          refine hv.mono ?_; rintro e w2 ⟨rfl, hb2⟩
          obtain ⟨s2, -⟩ := CE.out w2 hb2
          go_wp2_with fail
          refine (hva _).mono ?_; rintro e w3 ⟨rfl, rfl⟩
          go_wp2_with fail
          refine (hvb _).mono ?_; rintro e w3 ⟨rfl, rfl⟩
          clear hv hva hvb
          rcases HHA.out with ⟨rfl, hda⟩ | ⟨rfl, rfl⟩
          · cases ra with
            | false =>
              go_wp2
              go_meet
              case rel => exact ⟨by rw [HU.out]; rfl, hb2⟩
            | true =>
              rcases HHB.out with ⟨rfl, hdb⟩ | ⟨rfl, rfl⟩
              · cases rb with
                | false =>
                  go_wp2
                  go_meet
                  case rel => exact ⟨by rw [HU.out]; rfl, hb2⟩
                | true =>
                  go_wp2
                  go_meet
                  case rel => exact ⟨by rw [HU.out]; rfl, hb2⟩
              · go_wp2
                go_meet
                case rel => exact ⟨by rw [HU.out]; rfl, hb2⟩
          · rcases HHB.out with ⟨rfl, hdb⟩ | ⟨rfl, rfl⟩
            · cases rb with
              | false =>
                go_wp2
                go_meet
                case rel => exact ⟨by rw [HU.out]; rfl, hb2⟩
              | true =>
                go_wp2
                go_meet
                case rel => exact ⟨by rw [HU.out]; rfl, hb2⟩
            · go_wp2
              go_meet
              case rel => exact ⟨by rw [HU.out]; rfl, hb2⟩
  case rest =>
    clear hval
    obtain ⟨h65, hb5W⟩ := hcut
    have hW5 := HW0.out.trans (hb5W.mono HW0.out.size)
    obtain ⟨s5, r5, rz5, y5⟩ := CE.out wc hb5W
    clear s1 r1 rz1 y1
    cases hu : uniOk x a b with
    | false =>
      rw [hu] at h65
      obtain ⟨k0, k1⟩ := uni_bad hu
      have K0 := Lib.hid k0
      have K1 := Lib.hid k1
      have h65' : u65 = .bool true := h65
      clear k0 k1 hu h65
      subst h65'
      go_wp2
      refine bodyPost_ret (v := .tuple #[.agg #[.slice P2 x.length c2], .int .i64 2]) (by simp [results, Try.results15, go_sem, r5]) rfl ⟨_, by rw [K1.out], HEND.out wc hb5W K0.out⟩
    | true =>
      rw [hu] at h65
      have HU := Lib.hid hu
      have h65' : u65 = .bool false := h65
      clear hu h65
      subst h65'
      have hfa := fun (wq : World) (hb : Below w.heap.size w wq) => specFind_any (.agg #[.slice P x.length c]) x a wq ((HX.out.below hb (Nat.le_refl _)).more hb.size) hw ha0 ha1
      have hfb := fun (wq : World) (hb : Below w.heap.size w wq) => specFind_any (.agg #[.slice P x.length c]) x b wq ((HX.out.below hb (Nat.le_refl _)).more hb.size) hw hb0 hb1
      obtain ⟨p, hp⟩ : ∃ p, p = ufFind x a := ⟨_, rfl⟩
      obtain ⟨q, hq⟩ : ∃ q, q = ufFind x b := ⟨_, rfl⟩
      rw [← hp] at hfa
      rw [← hq] at hfb
      have HP := Lib.hid hp
      have HQ := Lib.hid hq
      have hv := hfa wc hW5
      clear hp hq ha0 ha1 hb0 hb1 hfa
      go_wp2_with fail
      refine hv.mono ?_; rintro e w2 ⟨rfl, hb2⟩
      clear hv
      have hb2W := hb5W.trans (hb2.mono hb5W.size)
      have hW2 := HW0.out.trans (hb2W.mono HW0.out.size)
      obtain ⟨s2, r2, rz2, y2⟩ := CE.out w2 hb2W
      have hv := hfb w2 hW2
      clear s5 r5 rz5 y5 hfb
      go_wp2_with fail
      refine hv.mono ?_; rintro e w6 ⟨rfl, hb6⟩
      clear hv
      have hb6W := hb2W.trans (hb6.mono hb2W.size)
      have hW6 := HW0.out.trans (hb6W.mono HW0.out.size)
      obtain ⟨s6, r6, rz6, y6⟩ := CE.out w6 hb6W
      clear s2 r2 rz2 y2
      by_cases hpq : p = q
      · have hb : (p == q) = true := by rw [hpq]; exact beq_self_eq_true q
        obtain ⟨k0, k1⟩ := uni_same HU.out (by rw [← HP.out, ← HQ.out]; exact hpq)
        have K0 := Lib.hid k0
        have K1 := Lib.hid k1
        clear hpq k0 k1
        go_wp2
        refine bodyPost_ret (v := .tuple #[.agg #[.slice P2 x.length c2], .int .i64 0]) (by simp [results, Try.results15, go_sem, r6]) rfl ⟨_, by rw [K1.out], HEND.out w6 hb6W K0.out⟩
      · have hb : (p == q) = false := beq_eq_false_iff_ne.2 hpq
        have HNE := Lib.hid (show ¬ ufFind x a = ufFind x b by rw [← HP.out, ← HQ.out]; exact hpq)
        clear hpq
        by_cases hg : min p q < 0
        · have hd : (p < 0 ∨ ¬ p < 0 ∧ q < 0) := by omega
          obtain ⟨k0, k1⟩ := uni_done HU.out HNE.out (by rw [← HP.out, ← HQ.out]; exact hg)
          rw [← HP.out, ← HQ.out] at k0
          have K0 := Lib.hid k0
          have K1 := Lib.hid k1
          clear k0 k1 hg
          have HO6 := HOW.out.below hb6W (Nat.le_refl _)
          have HC0 := Lib.hid (show Chg (fun g => (Value.slice P2 x.length c2).ownBlock = some g) w6 w6 from Chg.refl _ _)
          go_upto_region 10 with fail
          go_cut [82] from 77 (fun t wx => t = .bool false ∧ wx = w6)
          case first =>
            rcases hd with hd | ⟨hd, hd'⟩
            · have hd1 : decide (0 ≤ p) = false := decide_eq_false (by omega)
              clear hd
              go_wp2
              go_meet
              case rel => exact ⟨rfl, rfl⟩
            · have hd1 : decide (0 ≤ p) = true := decide_eq_true (by omega)
              have hd2 : decide (0 ≤ q) = false := decide_eq_false (by omega)
              clear hd hd'
              go_wp2
              go_meet
              case rel => exact ⟨rfl, rfl⟩
          case rest =>
            clear hd
            obtain ⟨rfl, rfl⟩ := hcut
            go_upto_region 14 with fail
            obtain ⟨K, hK⟩ : ∃ K, K = max p q := ⟨_, rfl⟩
            obtain ⟨G, hG⟩ : ∃ G, G = min p q := ⟨_, rfl⟩
            rw [← hK, ← hG] at K0 ⊢
            clear hK hG
            go_wp2
            go_loopw [17] (fun i wr => ∃ k : Nat, k ≤ x.length ∧ i = .int .i64 (k : Nat) ∧ OwnInts E.heap.size (.slice P2 x.length c2) ((x.take k).map (swapI G K) ++ x.drop k) wr ∧ Hid (Chg (fun g => (Value.slice P2 x.length c2).ownBlock = some g) wc wr)) (fun i _ => x.length - (intOf i).toNat)
            case atStart => exact ⟨0, by omega, rfl, by simpa using HO6, HC0⟩
            case round =>
              clear HO6
              obtain ⟨k, hk, rfl, hO, HC⟩ := hrel
              have hC := HC.out
              have hlen := mapSet_len (swapI G K) x k
              have HLN := Lib.hid hlen
              have hown : ∀ g, (Value.slice P2 x.length c2).ownBlock = some g → E.heap.size ≤ g ∧ g < Y := fun g hg => ⟨(hO.lt g hg).1, HIN.out g hg⟩
              have h6z := hb6W.size
              have hYb := HYB.out
              have hEb := HEz.out
              have hSb := HSZ.out
              have y7 := (hC.cell (b := Y) (o := 0) (by omega) (fun hg => by have := (hown Y hg).2; omega)).trans y6
              have r7 := (hC.cell (b := w.heap.size + 1) (o := 0) (by omega) (fun hg => by have := (hown _ hg).1; omega)).trans r6
              have rz7 : ∀ o, wr.frozen? ⟨w.heap.size + 1, o, none⟩ = false := fun o => (hC.frozen (o := o) (by omega) (fun hg => by have := (hown _ hg).1; omega)).trans (rz6 o)
              have hWr : Below w.heap.size w wr := hW6.trans (hC.below (fun g hg => by have := (hown g hg).1; omega) (by omega))
              have HWr := Lib.hid hWr
              by_cases hlt : k < x.length
              · obtain ⟨g, cap, hvq, hq0, hq1⟩ := World.ownsRow.form hO (by rw [hlen]; omega)
                simp only [Value.slice.injEq] at hvq
                obtain ⟨rfl, -, rfl⟩ := hvq
                have hkl : k < ((x.take k).map (swapI G K) ++ x.drop k).length := by rw [hlen]; exact hlt
                have d0 := hO.cell hlen k hkl
                have dz := hO.frozen hlen
                have he : ((x.take k).map (swapI G K) ++ x.drop k)[k] = x[k] := by
                  rw [List.getElem_append_right (by simp; omega)]
                  simp [Nat.min_eq_left hk]
                rw [he] at d0
                have HN := Lib.hid (mapSet_take (swapI G K) x k hlt)
                have HO := Lib.hid hO
                have HXK := Lib.hid he
                clear hO hC hlen h6z hYb hEb hSb hown hWr he r7 rz7 r6 rz6 s6 y6
                by_cases hxg : x[k] = G
                · have hb2 : (x[k] == G) = true := by rw [hxg]; exact beq_self_eq_true G
                  have HS := Lib.hid (HO.out.set HLN.out k K)
                  have HN2 := Lib.hid (show ((x.take k).map (swapI G K) ++ x.drop k).set k K = (x.take (k + 1)).map (swapI G K) ++ x.drop (k + 1) by
                    have := HN.out
                    rwa [swapI_eq hxg] at this)
                  clear hxg
                  go_wp2
                  go_roundw
                  case rel => exact ⟨k + 1, by omega, by go_num, by rw [← HN2.out]; exact HS.out, Lib.hid (HC.out.setCell (p := ⟨g, k, none⟩) rfl _)⟩
                  case measure => simp [intOf]; omega
                · have hb2 : (x[k] == G) = false := beq_eq_false_iff_ne.2 hxg
                  have HN2 := Lib.hid (show (x.take k).map (swapI G K) ++ x.drop k = (x.take (k + 1)).map (swapI G K) ++ x.drop (k + 1) by
                    have := HN.out
                    rw [swapI_ne hxg] at this
                    rw [← this]
                    exact (by rw [← HXK.out]; exact (List.set_getElem_self hkl).symm))
                  clear hxg
                  go_wp2
                  go_roundw
                  case rel => exact ⟨k + 1, by omega, by go_num, by rw [← HN2.out]; exact HO.out, HC⟩
                  case measure => simp [intOf]; omega
              · obtain rfl : k = x.length := by omega
                have hO' : OwnInts E.heap.size (.slice P2 x.length c2) (x.map (swapI G K)) wr := by simpa using hO
                have HO' := Lib.hid hO'
                clear hO hO' hC hlen h6z hYb hEb hSb hown hWr r6 rz6 s6 y6
                go_wp2
                refine bodyPost_ret (v := .tuple #[.agg #[.slice P2 x.length c2], .int .i64 1]) (by simp [results, Try.results15, go_sem, r7]) rfl ⟨_, by rw [K1.out], ?_⟩
                rw [K0.out]
                exact FI.out wr _ HWr.out HO'.out
        · obtain ⟨k0, k1⟩ := uni_const HU.out HNE.out (by rw [← HP.out, ← HQ.out]; exact hg)
          have K0 := Lib.hid k0
          have K1 := Lib.hid k1
          have hd1 : decide (0 ≤ p) = true := decide_eq_true (by omega)
          have hd2 : decide (0 ≤ q) = true := decide_eq_true (by omega)
          clear hg k0 k1
          go_wp2
          refine bodyPost_ret (v := .tuple #[.agg #[.slice P2 x.length c2], .int .i64 2]) (by simp [results, Try.results15, go_sem, r6]) rfl ⟨_, by rw [K1.out], HEND.out w6 hb6W K0.out⟩
theorem specUnion_c (v : Value) (x : List Int) (a b : Int) (w : World) (h : UnionFind_at w w.heap.size v x) (hw : UnionFind_wf x) (hn : UnionFind_sz x ≤ 1048576) (ha : -9223372036854775808 ≤ a ∧ a ≤ 9223372036854775807) (hb : -9223372036854775808 ≤ b ∧ b ≤ 9223372036854775807) :
    Calls Try.prog 15 #[v, .int .i64 a, .int .i64 b] w fun e w' => ∃ r, e = .returned (.tuple #[r, .int .i64 (Union_r1 x a b)]) ∧ UnionFind_at w' w'.heap.size r (Union_r0 x a b) ∧ Below w.heap.size w w' :=
  (specUnion_any v x a b w h hw hn ha.1 ha.2 hb.1 hb.2).mono fun _ _ ⟨r, he, ho, hb⟩ => ⟨r, he, ho.at_ (Nat.le_refl _), hb⟩

end Go.Proofs.Ytalijnfbopcmeaa
