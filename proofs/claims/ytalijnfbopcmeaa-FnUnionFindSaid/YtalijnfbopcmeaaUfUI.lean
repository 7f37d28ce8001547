/-
  Walks and plain lemmas for the laws of this seat: what single Go functions return, for every argument.
-/
import Derived.Lib.MinMax
import Derived.Test.YtalijnfbopcmeaaInts
import Derived.Test.YtalijnfbopcmeaaMUf
import Derived.Test.YtalijnfbopcmeaaPlan
import Derived.Test.YtalijnfbopcmeaaCopI
import Derived.Test.YtalijnfbopcmeaaUfFI
namespace Go.Proofs.Ytalijnfbopcmeaa
open Go.RowKit

set_option maxHeartbeats 6400000 in
set_option maxRecDepth 100000 in
theorem implUnion_any (v : Value) (x : List Int) (a b : Int) (w : World) (h : UnionFind_at w w.heap.size v x) (hw : UnionFind_wf x) (hn : UnionFind_sz x ≤ 1048576) (ha0 : -9223372036854775808 ≤ a) (ha1 : a ≤ 9223372036854775807) (hb0 : -9223372036854775808 ≤ b) (hb1 : b ≤ 9223372036854775807) :
    Calls Try.prog 14 #[v, .int .i64 a, .int .i64 b] w (GivesUni x a b w) := by
  obtain ⟨P, c, rfl⟩ := UnionFind_form h
  have HX := Lib.hid h
  have hN := h.ints
  clear h
  unfold UnionFind_sz IntS_sz at hn
  obtain ⟨E, hEq⟩ : ∃ E, E = (w.alloc (.cells #[.slice P x.length c] 26)).alloc (.cells #[.slice none 0 0] 26) := ⟨_, rfl⟩
  have hE : Below w.heap.size w E := by rw [hEq]; exact below_more (below_more (Below.refl _ _) _) _
  have HEz := Lib.hid (show E.heap.size = w.heap.size + 2 by rw [hEq]; simp)
  have S0 := Lib.hid (show E.cell? ⟨w.heap.size, 0, none⟩ = some (.slice P x.length c) by rw [hEq]; simp [go_sem])
  have R0 := Lib.hid (show E.cell? ⟨w.heap.size + 1, 0, none⟩ = some (.slice none 0 0) by rw [hEq]; simp [go_sem])
  have RZ := Lib.hid (show ∀ o, E.frozen? ⟨w.heap.size + 1, o, none⟩ = false from fun o => by rw [hEq]; simp [go_sem])
  have hcl := implCloneInts_any (.slice P x.length c) x E ((hN.below hE (Nat.le_refl _)).more hE.size) hn
  clear hN
  rw [hEq] at hcl
  go_enter Try.func14, Try.ntmps14
  go_wp2_with fail
  refine hcl.mono ?_
  rintro e w1 ⟨u, rfl, hO, hb1'⟩
  rw [← hEq] at hO hb1'
  obtain ⟨P2, c2, rfl, hl2, hm2, -⟩ := id hO.1.at_
  unfold maxLen at hm2
  clear hcl hEq
  obtain ⟨Y, hY⟩ : ∃ Y, Y = w1.heap.size := ⟨_, rfl⟩
  have hz1 : w.heap.size + 2 ≤ w1.heap.size := by have h1 := hb1'.size; have h2 := HEz.out; omega
  have s0 := (hb1'.cell (p := ⟨w.heap.size, 0, none⟩) (by show w.heap.size < _; have := HEz.out; omega)).trans S0.out
  have r0 := (hb1'.cell (p := ⟨w.heap.size + 1, 0, none⟩) (by show w.heap.size + 1 < _; have := HEz.out; omega)).trans R0.out
  have rz := fun o => (hb1'.frozen (p := ⟨w.heap.size + 1, o, none⟩) (by show w.heap.size + 1 < _; have := HEz.out; omega)).trans (RZ.out o)
  obtain ⟨W, hWq⟩ : ∃ W, W = w1.alloc (.cells #[.slice P2 x.length c2] 26) := ⟨_, rfl⟩
  have hAl : Below Y w1 W := by rw [hWq]; exact (Below.refl _ _).alloc (by omega) _
  have HSZ := Lib.hid (show W.heap.size = Y + 1 by rw [hWq, hY]; simp)
  have Y0 := Lib.hid (show W.cell? ⟨Y, 0, none⟩ = some (.slice P2 x.length c2) by rw [hWq, hY]; simp [go_sem])
  have S1 := Lib.hid ((hAl.cell (p := ⟨w.heap.size, 0, none⟩) (by show w.heap.size < Y; omega)).trans s0)
  have R1 := Lib.hid ((hAl.cell (p := ⟨w.heap.size + 1, 0, none⟩) (by show w.heap.size + 1 < Y; omega)).trans r0)
  have RZ1 := Lib.hid (show ∀ o, W.frozen? ⟨w.heap.size + 1, o, none⟩ = false from fun o => (hAl.frozen (p := ⟨w.heap.size + 1, o, none⟩) (by show w.heap.size + 1 < Y; omega)).trans (rz o))
  have HW0 := Lib.hid (show Below w.heap.size w W from hE.trans ((hb1'.trans (hAl.mono (by rw [hY]; exact hb1'.size))).mono hE.size))
  have HOW := Lib.hid (show OwnInts E.heap.size (.slice P2 x.length c2) x W from hO.1.below hAl (by omega))
  have HIN := Lib.hid (show Value.inside Y (.slice P2 x.length c2) by rw [hY]; exact hO.2)
  have HYB := Lib.hid (show w.heap.size + 2 ≤ Y by omega)
  clear s0 r0 rz hz1 hAl hO hb1'
  go_upto_region 2 with fail
  rw [← hY, ← hWq]
  clear hWq hY
  have hval := fun (bb : Bool) (hq : ufOk x = bb) (wq : World) (hb : Below w.heap.size w wq) => implIsValidUf_at x bb hq (.agg #[.slice P x.length c]) wq ((HX.out.below hb (Nat.le_refl _)).more hb.size) hw
  have hca := fun (bb : Bool) (hq : canU x a = bb) (wq : World) (hb : Below w.heap.size w wq) => implCanUnite_at x a bb hq (.agg #[.slice P x.length c]) wq ((HX.out.below hb (Nat.le_refl _)).more hb.size) ha0 ha1
  have hcb := fun (bb : Bool) (hq : canU x b = bb) (wq : World) (hb : Below w.heap.size w wq) => implCanUnite_at x b bb hq (.agg #[.slice P x.length c]) wq ((HX.out.below hb (Nat.le_refl _)).more hb.size) hb0 hb1
  have cells : ∀ wq, Below W.heap.size W wq → wq.cell? ⟨w.heap.size, 0, none⟩ = some (.slice P x.length c) ∧ wq.cell? ⟨w.heap.size + 1, 0, none⟩ = some (.slice none 0 0) ∧ (∀ o, wq.frozen? ⟨w.heap.size + 1, o, none⟩ = false) ∧ wq.cell? ⟨Y, 0, none⟩ = some (.slice P2 x.length c2) := fun wq hb => by
    have h1 := HSZ.out
    have h2 := HYB.out
    exact ⟨(hb.cell (p := ⟨w.heap.size, 0, none⟩) (by show w.heap.size < _; omega)).trans S1.out, (hb.cell (p := ⟨w.heap.size + 1, 0, none⟩) (by show w.heap.size + 1 < _; omega)).trans R1.out, fun o => (hb.frozen (p := ⟨w.heap.size + 1, o, none⟩) (by show w.heap.size + 1 < _; omega)).trans (RZ1.out o), (hb.cell (p := ⟨Y, 0, none⟩) (by show Y < _; omega)).trans Y0.out⟩
  have CE := Lib.hid cells
  have fin : ∀ (wq : World) (l : List Int), Below w.heap.size w wq → OwnInts E.heap.size (.slice P2 x.length c2) l wq → UnionFind_own w.heap.size (wq.setCell ⟨w.heap.size + 1, 0, none⟩ (.slice P2 x.length c2)).heap.size (.agg #[.slice P2 x.length c2]) l (wq.setCell ⟨w.heap.size + 1, 0, none⟩ (.slice P2 x.length c2)) ∧ Below w.heap.size w (wq.setCell ⟨w.heap.size + 1, 0, none⟩ (.slice P2 x.length c2)) := fun wq l hb ho => by
    have hst : Chg (Mid (w.heap.size + 1) (w.heap.size + 2)) wq (wq.setCell ⟨w.heap.size + 1, 0, none⟩ (.slice P2 x.length c2)) := (Chg.refl _ wq).setCell (p := ⟨w.heap.size + 1, 0, none⟩) ⟨Nat.le_refl _, by show w.heap.size + 1 < w.heap.size + 2; omega⟩ _
    have h1 : IntS_own E.heap.size wq.heap.size (.slice P2 x.length c2) l wq := IntsO.of ho
    refine ⟨⟨_, rfl, ?_⟩, hb.setCell (p := ⟨w.heap.size + 1, 0, none⟩) (by show w.heap.size ≤ w.heap.size + 1; omega) _⟩
    exact (h1.chg hst (.inr (by have := HEz.out; omega))).mono (by have := HEz.out; omega) (by simp [World.setCell])
  have HEND := Lib.hid (show ∀ (wq : World), Below W.heap.size W wq → Union_r0 x a b = x → UnionFind_own w.heap.size (wq.setCell ⟨w.heap.size + 1, 0, none⟩ (.slice P2 x.length c2)).heap.size (.agg #[.slice P2 x.length c2]) (Union_r0 x a b) (wq.setCell ⟨w.heap.size + 1, 0, none⟩ (.slice P2 x.length c2)) ∧ Below w.heap.size w (wq.setCell ⟨w.heap.size + 1, 0, none⟩ (.slice P2 x.length c2)) from fun wq hb hr => by
    rw [hr]
    exact fin wq x (HW0.out.trans (hb.mono HW0.out.size)) (HOW.out.below hb (Nat.le_refl _)))
  have FI := Lib.hid fin
  obtain ⟨s1, r1, rz1, y1⟩ := cells W (Below.refl _ _)
  clear cells fin
  cases hok : ufOk x with
  | false =>
    have hv := hval false hok W HW0.out
    obtain ⟨k0, k1⟩ := uni_bad (uniOk_no1 (a := a) (b := b) hok)
    have K0 := Lib.hid k0
    have K1 := Lib.hid k1
    clear hval hca hcb ha0 ha1 hb0 hb1 hok k0 k1
    go_wp2_with fail
    refine hv.mono ?_; rintro e w2 ⟨rfl, hb2⟩
    obtain ⟨s2, r2, rz2, y2⟩ := CE.out w2 hb2
    clear s1 r1 rz1 y1
    go_wp2
    refine bodyPost_ret (v := .tuple #[.agg #[.slice P2 x.length c2], .int .i64 2]) (by simp [results, Try.results14, go_sem, r2]) rfl ⟨_, by rw [K1.out], HEND.out w2 hb2 K0.out⟩
  | true =>
    have hv := hval true hok W HW0.out
    clear hval
    have HOK := Lib.hid hok
    clear hok
    go_wp2_with fail
    refine hv.mono ?_; rintro e w2 ⟨rfl, hb2⟩
    clear hv
    obtain ⟨s2, r2, rz2, y2⟩ := CE.out w2 hb2
    have hW2 := HW0.out.trans (hb2.mono HW0.out.size)
    clear s1 r1 rz1 y1
    cases hka : canU x a with
    | false =>
      have hv := hca false hka w2 hW2
      obtain ⟨k0, k1⟩ := uni_bad (uniOk_no2 (b := b) hka)
      have K0 := Lib.hid k0
      have K1 := Lib.hid k1
      clear hca hcb ha0 ha1 hb0 hb1 hka k0 k1
      go_wp2_with fail
      refine hv.mono ?_; rintro e w3 ⟨rfl, hb3⟩
      have hb3W := hb2.trans (hb3.mono hb2.size)
      obtain ⟨s3, r3, rz3, y3⟩ := CE.out w3 hb3W
      clear s2 r2 rz2 y2
      go_wp2
      refine bodyPost_ret (v := .tuple #[.agg #[.slice P2 x.length c2], .int .i64 2]) (by simp [results, Try.results14, go_sem, r3]) rfl ⟨_, by rw [K1.out], HEND.out w3 hb3W K0.out⟩
    | true =>
      have hv := hca true hka w2 hW2
      have HKA := Lib.hid hka
      clear hca hka
      go_wp2_with fail
      refine hv.mono ?_; rintro e w3 ⟨rfl, hb3⟩
      clear hv
      have hb3W := hb2.trans (hb3.mono hb2.size)
      have hW3 := HW0.out.trans (hb3W.mono HW0.out.size)
      obtain ⟨s3, r3, rz3, y3⟩ := CE.out w3 hb3W
      clear s2 r2 rz2 y2
      cases hkb : canU x b with
      | false =>
        have hv := hcb false hkb w3 hW3
        obtain ⟨k0, k1⟩ := uni_bad (uniOk_no3 (a := a) hkb)
        have K0 := Lib.hid k0
        have K1 := Lib.hid k1
        clear hcb ha0 ha1 hb0 hb1 hkb k0 k1
        go_wp2_with fail
        refine hv.mono ?_; rintro e w4 ⟨rfl, hb4⟩
        have hb4W := hb3W.trans (hb4.mono hb3W.size)
        obtain ⟨s4, r4, rz4, y4⟩ := CE.out w4 hb4W
        clear s3 r3 rz3 y3
        go_wp2
        refine bodyPost_ret (v := .tuple #[.agg #[.slice P2 x.length c2], .int .i64 2]) (by simp [results, Try.results14, go_sem, r4]) rfl ⟨_, by rw [K1.out], HEND.out w4 hb4W K0.out⟩
      | true =>
        have hv := hcb true hkb w3 hW3
        have HU := Lib.hid (uniOk_yes HOK.out HKA.out hkb)
        clear hcb hkb
        go_wp2_with fail
        refine hv.mono ?_; rintro e w4 ⟨rfl, hb4⟩
        clear hv
        have hb4W := hb3W.trans (hb4.mono hb3W.size)
        have hW4 := HW0.out.trans (hb4W.mono HW0.out.size)
        obtain ⟨s4, r4, rz4, y4⟩ := CE.out w4 hb4W
        clear s3 r3 rz3 y3
        go_upto_region 4 with fail
        have hfa := fun (u : Aft w4.heap.size w4) => implFind_any (.agg #[.slice P x.length c]) x a u.now ((HX.out.below (hW4.trans (u.is.mono hW4.size)) (Nat.le_refl _)).more (hW4.trans (u.is.mono hW4.size)).size) hw ha0 ha1
        have hfb := fun (u : Aft w4.heap.size w4) => implFind_any (.agg #[.slice P x.length c]) x b u.now ((HX.out.below (hW4.trans (u.is.mono hW4.size)) (Nat.le_refl _)).more (hW4.trans (u.is.mono hW4.size)).size) hw hb0 hb1
        have g4 := Aft.cell (B := w4.heap.size) (w := w4) (b := w.heap.size) (o := 0) (by have := hW4.size; have h1 := hb4W.size; have h2 := HSZ.out; have h3 := HYB.out; omega) s4
        obtain ⟨p, hp⟩ : ∃ p, p = ufFind x a := ⟨_, rfl⟩
        obtain ⟨q, hq⟩ : ∃ q, q = ufFind x b := ⟨_, rfl⟩
        rw [← hp] at hfa
        rw [← hq] at hfb
        have HP := Lib.hid hp
        have HQ := Lib.hid hq
        have HB := Lib.hid (show -9223372036854775808 ≤ a ∧ a ≤ 9223372036854775807 ∧ -9223372036854775808 ≤ b ∧ b ≤ 9223372036854775807 from ⟨ha0, ha1, hb0, hb1⟩)
        clear hp hq ha0 ha1 hb0 hb1
        refine wp_region_aft (Below.refl w4.heap.size w4) (by kernel_rfl) (by kernel_rfl) ?_
        repeat (go_big_quiet_step (fail))
        go_big_quiet_step (((go_at_call 20; exact calls_aft (Nat.le_refl _) (hfa _))))
        repeat (go_big_quiet_step (fail))
        go_big_quiet_step (((go_at_call 20; exact calls_aft (Nat.le_refl _) (hfb _))))
        repeat (go_big_quiet_step (fail))
        refine wpQuiet_nil ?_
        refine aft_end ?_
        intro w5 hb5
        have hb5W := hb4W.trans (hb5.mono hb4W.size)
        have hW5 := HW0.out.trans (hb5W.mono HW0.out.size)
        obtain ⟨s5, r5, rz5, y5⟩ := CE.out w5 hb5W
        go_upto_region 5 with fail
        have hfa := fun (u : Aft w5.heap.size w5) => implFind_any (.agg #[.slice P x.length c]) x a u.now ((HX.out.below (hW5.trans (u.is.mono hW5.size)) (Nat.le_refl _)).more (hW5.trans (u.is.mono hW5.size)).size) hw HB.out.1 HB.out.2.1
        have hfb := fun (u : Aft w5.heap.size w5) => implFind_any (.agg #[.slice P x.length c]) x b u.now ((HX.out.below (hW5.trans (u.is.mono hW5.size)) (Nat.le_refl _)).more (hW5.trans (u.is.mono hW5.size)).size) hw HB.out.2.2.1 HB.out.2.2.2
        have g5 := Aft.cell (B := w5.heap.size) (w := w5) (b := w.heap.size) (o := 0) (by have := hW5.size; have h1 := hb5W.size; have h2 := HSZ.out; have h3 := HYB.out; omega) s5
        rw [← HP.out] at hfa
        rw [← HQ.out] at hfb
        clear s4 r4 rz4 y4 g4
        refine wp_region_aft (Below.refl w5.heap.size w5) (by kernel_rfl) (by kernel_rfl) ?_
        repeat (go_big_quiet_step (fail))
        go_big_quiet_step (((go_at_call 20; exact calls_aft (Nat.le_refl _) (hfa _))))
        repeat (go_big_quiet_step (fail))
        go_big_quiet_step (((go_at_call 20; exact calls_aft (Nat.le_refl _) (hfb _))))
        repeat (go_big_quiet_step (fail))
        refine wpQuiet_nil ?_
        refine aft_end ?_
        intro w6 hb6
        have hb6W := hb5W.trans (hb6.mono hb5W.size)
        have hW6 := HW0.out.trans (hb6W.mono HW0.out.size)
        obtain ⟨s6, r6, rz6, y6⟩ := CE.out w6 hb6W
        clear s5 r5 rz5 y5 g5 hfa hfb
        obtain ⟨K, hK⟩ : ∃ K, K = max p q := ⟨_, rfl⟩
        obtain ⟨G, hG⟩ : ∃ G, G = min p q := ⟨_, rfl⟩
        have HKG := Lib.hid (show (K = G ↔ p = q) by rw [hK, hG]; omega)
        rw [← hK, ← hG]
        have HK := Lib.hid (show K = max (ufFind x a) (ufFind x b) by rw [hK, HP.out, HQ.out])
        have HG := Lib.hid (show G = min (ufFind x a) (ufFind x b) by rw [hG, HP.out, HQ.out])
        clear hK hG
        by_cases hkg : K = G
        · have hb : (K == G) = true := by rw [hkg]; exact beq_self_eq_true G
          obtain ⟨k0, k1⟩ := uni_same HU.out (by rw [← HP.out, ← HQ.out]; exact HKG.out.1 hkg)
          have K0 := Lib.hid k0
          have K1 := Lib.hid k1
          clear hkg k0 k1
          go_wp2
          refine bodyPost_ret (v := .tuple #[.agg #[.slice P2 x.length c2], .int .i64 0]) (by simp [results, Try.results14, go_sem, r6]) rfl ⟨_, by rw [K1.out], HEND.out w6 hb6W K0.out⟩
        · have hb : (K == G) = false := beq_eq_false_iff_ne.2 hkg
          have hne : ¬ ufFind x a = ufFind x b := by rw [← HP.out, ← HQ.out]; exact fun e => hkg (HKG.out.2 e)
          have HNE := Lib.hid hne
          have hnu : ∀ W, Calls Try.prog 49 #[.int .i64 G] W fun e w' => e = .returned (.bool (decide (G < 0))) ∧ W = w' := fun W => implIsNull_any G W
          clear hkg hne
          by_cases hg : G < 0
          · rw [decide_eq_true hg] at hnu
            obtain ⟨k0, k1⟩ := uni_done HU.out HNE.out (by rw [← HG.out]; exact hg)
            rw [← HK.out, ← HG.out] at k0
            have K0 := Lib.hid k0
            have K1 := Lib.hid k1
            clear hg k0 k1
            have HO6 := HOW.out.below hb6W (Nat.le_refl _)
            have HC0 := Lib.hid (show Chg (fun g => (Value.slice P2 x.length c2).ownBlock = some g) w6 w6 from Chg.refl _ _)
            go_wp2_with (go_at_call 49; refine (hnu _).mono ?_; rintro e w7 ⟨rfl, rfl⟩)
            go_loopw [58] (fun i wr => ∃ k : Nat, k ≤ x.length ∧ i = .int .i64 (k : Nat) ∧ OwnInts E.heap.size (.slice P2 x.length c2) ((x.take k).map (swapI G K) ++ x.drop k) wr ∧ Hid (Chg (fun g => (Value.slice P2 x.length c2).ownBlock = some g) w6 wr)) (fun i _ => x.length - (intOf i).toNat)
            case atStart => exact ⟨0, by omega, rfl, by simpa using HO6, HC0⟩
            case round =>
              clear HO6
              obtain ⟨k, hk, rfl, hO, HC⟩ := hrel
              have hC := HC.out
              have hlen := mapSet_len (swapI G K) x k
              have HLN := Lib.hid hlen
              have hown : ∀ g, (Value.slice P2 x.length c2).ownBlock = some g → E.heap.size ≤ g ∧ g < Y := fun g hg => ⟨(hO.lt g hg).1, HIN.out g hg⟩
              have h6z := hb6W.size
              have hYb := HYB.out
              have hEb := HEz.out
              have hSb := HSZ.out
              have y7 := (hC.cell (b := Y) (o := 0) (by omega) (fun hg => by have := (hown Y hg).2; omega)).trans y6
              have r7 := (hC.cell (b := w.heap.size + 1) (o := 0) (by omega) (fun hg => by have := (hown _ hg).1; omega)).trans r6
              have rz7 : ∀ o, wr.frozen? ⟨w.heap.size + 1, o, none⟩ = false := fun o => (hC.frozen (o := o) (by omega) (fun hg => by have := (hown _ hg).1; omega)).trans (rz6 o)
              have hWr : Below w.heap.size w wr := hW6.trans (hC.below (fun g hg => by have := (hown g hg).1; omega) (by omega))
              have HWr := Lib.hid hWr
              by_cases hlt : k < x.length
              · obtain ⟨g, cap, hvq, hq0, hq1⟩ := World.ownsRow.form hO (by rw [hlen]; omega)
                simp only [Value.slice.injEq] at hvq
                obtain ⟨rfl, -, rfl⟩ := hvq
                have hkl : k < ((x.take k).map (swapI G K) ++ x.drop k).length := by rw [hlen]; exact hlt
                have d0 := hO.cell hlen k hkl
                have dz := hO.frozen hlen
                have he : ((x.take k).map (swapI G K) ++ x.drop k)[k] = x[k] := by
                  rw [List.getElem_append_right (by simp; omega)]
                  simp [Nat.min_eq_left hk]
                rw [he] at d0
                have HN := Lib.hid (mapSet_take (swapI G K) x k hlt)
                have HO := Lib.hid hO
                have HXK := Lib.hid he
                clear hO hC hlen h6z hYb hEb hSb hown hWr he r7 rz7 r6 rz6 s6 y6
                by_cases hxg : x[k] = G
                · have hb2 : (x[k] == G) = true := by rw [hxg]; exact beq_self_eq_true G
                  have HS := Lib.hid (HO.out.set HLN.out k K)
                  have HN2 := Lib.hid (show ((x.take k).map (swapI G K) ++ x.drop k).set k K = (x.take (k + 1)).map (swapI G K) ++ x.drop (k + 1) by
                    have := HN.out
                    rwa [swapI_eq hxg] at this)
                  clear hxg
                  go_wp2
                  go_roundw
                  case rel => exact ⟨k + 1, by omega, by go_num, by rw [← HN2.out]; exact HS.out, Lib.hid (HC.out.setCell (p := ⟨g, k, none⟩) rfl _)⟩
                  case measure => simp [intOf]; omega
                · have hb2 : (x[k] == G) = false := beq_eq_false_iff_ne.2 hxg
                  have HN2 := Lib.hid (show (x.take k).map (swapI G K) ++ x.drop k = (x.take (k + 1)).map (swapI G K) ++ x.drop (k + 1) by
                    have := HN.out
                    rw [swapI_ne hxg] at this
                    rw [← this]
                    exact (by rw [← HXK.out]; exact (List.set_getElem_self hkl).symm))
                  clear hxg
                  go_wp2
                  go_roundw
                  case rel => exact ⟨k + 1, by omega, by go_num, by rw [← HN2.out]; exact HO.out, HC⟩
                  case measure => simp [intOf]; omega
              · obtain rfl : k = x.length := by omega
                have hO' : OwnInts E.heap.size (.slice P2 x.length c2) (x.map (swapI G K)) wr := by simpa using hO
                have HO' := Lib.hid hO'
                clear hO hO' hC hlen h6z hYb hEb hSb hown hWr r6 rz6 s6 y6
                go_wp2
                refine bodyPost_ret (v := .tuple #[.agg #[.slice P2 x.length c2], .int .i64 1]) (by simp [results, Try.results14, go_sem, r7]) rfl ⟨_, by rw [K1.out], ?_⟩
                rw [K0.out]
                exact FI.out wr _ HWr.out HO'.out
          · rw [decide_eq_false hg] at hnu
            obtain ⟨k0, k1⟩ := uni_const HU.out HNE.out (by rw [← HG.out]; exact hg)
            have K0 := Lib.hid k0
            have K1 := Lib.hid k1
            clear hg k0 k1
            go_wp2_with (go_at_call 49; refine (hnu _).mono ?_; rintro e w7 ⟨rfl, rfl⟩)
            refine bodyPost_ret (v := .tuple #[.agg #[.slice P2 x.length c2], .int .i64 2]) (by simp [results, Try.results14, go_sem, r6]) rfl ⟨_, by rw [K1.out], HEND.out w6 hb6W K0.out⟩
theorem implUnion_c (v : Value) (x : List Int) (a b : Int) (w : World) (h : UnionFind_at w w.heap.size v x) (hw : UnionFind_wf x) (hn : UnionFind_sz x ≤ 1048576) (ha : -9223372036854775808 ≤ a ∧ a ≤ 9223372036854775807) (hb : -9223372036854775808 ≤ b ∧ b ≤ 9223372036854775807) :
    Calls Try.prog 14 #[v, .int .i64 a, .int .i64 b] w fun e w' => ∃ r, e = .returned (.tuple #[r, .int .i64 (Union_r1 x a b)]) ∧ UnionFind_own w.heap.size w'.heap.size r (Union_r0 x a b) w' ∧ UnionFind_sz (Union_r0 x a b) ≤ 1048576 ∧ Below w.heap.size w w' :=
  (implUnion_any v x a b w h hw hn ha.1 ha.2 hb.1 hb.2).mono fun _ _ ⟨r, he, ho, hb⟩ => ⟨r, he, ho, by unfold UnionFind_sz IntS_sz at *; rw [Union_r0_len]; exact hn, hb⟩

end Go.Proofs.Ytalijnfbopcmeaa
