/-
  Walks and plain lemmas for the laws of this seat: what single Go functions return, for every argument.
-/
import Derived.Shelf.SlSortCmp.NoneTotal
import Derived.Test.YtmecdjincmkofaaGreatDoorFact
import Derived.Test.YtmecdjincmkofaaGreatDoorTyInst
import Derived.Test.YtmecdjincmkofaaGreatDoorMSub
import Derived.Test.YtmecdjincmkofaaGreatDoorValInI
import Derived.Test.YtmecdjincmkofaaGreatDoorSrtF
import Derived.Test.YtmecdjincmkofaaGreatDoorSubI
namespace Go.Proofs.YtmecdjincmkofaaGreatDoor
open Go.RowKit

theorem cells_at (e : TypeId) {w : World} {B q n cap j : Nat} {R : List (Fct × Value)} (hrow : w.ownsRow B e 2 (.slice (some ⟨q, 0, none⟩) n cap) n (R.flatMap zCells)) (hR : R.length = n) (hj : j < n) (z : Fct × Value) (hz : R[j]'(by omega) = z) :
    w.cell? ⟨q, j * 2, none⟩ = some (.int .i64 z.1.rel) ∧ w.cell? ⟨q, j * 2 + 1, none⟩ = some z.2 := by
  have := row_cells hrow hR (i := j) (by omega)
  rw [hz] at this; exact this
set_option maxHeartbeats 6400000 in
set_option maxRecDepth 100000 in
theorem implCompactF_any (l : List Fct) (B C q cap : Nat) (Vs : List Value) (w : World) (hn : l.length ≤ 1048576) (hC : C ≤ w.heap.size) (hO : FactSO 57 B C (.slice (some ⟨q, 0, none⟩) l.length cap) Vs l w) :
    Calls Tryz.prog 138 #[.slice (some ⟨q, 0, none⟩) l.length cap, .func (.func 96) #[] #[]] w fun e w' => ∃ Us, e = .returned (.slice (some ⟨q, 0, none⟩) (cpAll eqF l).length cap) ∧ FactSO 57 B C (.slice (some ⟨q, 0, none⟩) (cpAll eqF l).length cap) Us (cpAll eqF l) w' ∧ Chg (fun k => k = q) w w' := by
  obtain ⟨hZ1, hZ2, hZ3, hZ4, hZ5⟩ := hO.toZ
  have hqC : q < C := hO.ins q rfl
  have hcapn : l.length ≤ cap ∧ cap ≤ maxLen := by
    obtain ⟨A, c, hv, h1, h2, -⟩ := SliceAt.of_own hO.row
    rw [pairs_len hO.len] at hv h1
    injection hv with _ _ h3
    subst h3; exact ⟨h1, h2⟩
  unfold maxLen at hcapn
  generalize hZ : l.zip Vs = Z at *
  have hdis := hO.dis
  have hins := hO.ins
  clear hO hZ
  rw [← hZ5] at hZ1 hn hcapn ⊢
  have hKL : (cpAll eqZ Z).map Prod.fst = cpAll eqF l := by rw [cpZ_fst, hZ3]
  have hKn : (cpAll eqF l).length = (cpAll eqZ Z).length := by rw [← hKL, List.length_map]
  rw [hKn]
  have HZ1 := Lib.hid hZ1
  have HZ2 := Lib.hid hZ2
  have HD := Lib.hid (show Apart (Z.map Prod.snd) by rw [hZ4]; exact hdis)
  have HKL := Lib.hid hKL
  have HINS := Lib.hid hins
  clear hZ1 hZ2 hZ3 hZ4 hZ5 hKL hKn hdis hins
  obtain ⟨hcap, hcap2⟩ := hcapn
  -- the end, wherever the row lies as it must
  have hend : ∀ (wr : World), Chg (fun k => k = q) w wr → wr.ownsRow B 57 2 (.slice (some ⟨q, 0, none⟩) (cpAll eqZ Z).length cap) (cpAll eqZ Z).length ((cpAll eqZ Z).flatMap zCells) →
      ∃ Us, FactSO 57 B C (.slice (some ⟨q, 0, none⟩) (cpAll eqZ Z).length cap) Us (cpAll eqF l) wr := fun wr hc hrow => by
    have hel := elems_chg (e := 57) (by decide) HZ1.out HZ2.out hc
    have hsub := cpTo_sub eqZ Z Z.length
    rw [List.take_of_length_le (Nat.le_refl _)] at hsub
    rw [← HKL.out]
    exact ⟨_, FactSO.ofZ hrow (fun g hg => by cases hg; exact hqC) (fun z hz => hel z (hsub.subset hz)) (HD.out.sublist (hsub.map Prod.snd))⟩
  have HEnd := Lib.hid hend
  clear hend
  by_cases h2 : Z.length < 2
  · have he : cpAll eqZ Z = Z := NoDup0.all (fun i hi => by
      obtain rfl : i = 0 := by omega
      exact dupI_zero _ _)
    have hx := HEnd.out w (Chg.refl _ _) (by rw [he]; exact HZ1.out)
    have HX := Lib.hid hx
    have HE := Lib.hid he
    clear he hx
    go_enter Tryz.func138, Tryz.ntmps138
    go_wp2
    go_ret
    obtain ⟨Us, hU⟩ := HX.out
    exact ⟨Us, by rw [HE.out]; rfl, hU, Chg.refl _ _⟩
  · go_enter Tryz.func138, Tryz.ntmps138
    go_wp2
    go_loopw [5] (fun i wr => ∃ k : Nat, 1 ≤ k ∧ k ≤ Z.length ∧ i = .int .i64 k ∧ Hid (NoDup0 eqZ Z k) ∧ Below w.heap.size w wr) (fun i _ => Z.length - (intOf i).toNat)
    case atStart => exact ⟨1, by omega, by omega, by go_num, Lib.hid (NoDup0.one _ _), Below.refl _ _⟩
    case round =>
      obtain ⟨k, hk1, hk, rfl, HN, hW⟩ := hrel
      have hz := hW.size
      have hrow0 := (Chg.of_below (S := fun _ => False) hW).row HZ1.out (fun g hg => id)
      have HROW0 := Lib.hid hrow0
      clear hrow0
      by_cases hlt : k < Z.length
      · obtain ⟨j, rfl⟩ : ∃ j, k = j + 1 := ⟨k - 1, by omega⟩
        have hjl : j < Z.length := by omega
        obtain ⟨c0, c1⟩ := row_cells HROW0.out rfl (i := j + 1) hlt
        obtain ⟨d0, d1⟩ := row_cells HROW0.out rfl (i := j) hjl
        have hU1 : IntS_at w w.heap.size Z[j + 1].2 Z[j + 1].1.vals := (HZ2.out _ (List.getElem_mem hlt)).1.at_
        have hU2 : IntS_at w w.heap.size Z[j].2 Z[j].1.vals := (HZ2.out _ (List.getElem_mem hjl)).1.at_
        obtain ⟨P1, a1, hv1, -⟩ := id hU1
        obtain ⟨P2, a2, hv2, -⟩ := id hU2
        rw [hv1] at c1 hU1
        rw [hv2] at d1 hU2
        have hqw : q < wr.heap.size := by omega
        have C0 := Aft.cell (B := wr.heap.size) (w := wr) hqw c0
        have C1 := Aft.cell (B := wr.heap.size) (w := wr) hqw c1
        have D0 := Aft.cell (B := wr.heap.size) (w := wr) hqw d0
        have D1 := Aft.cell (B := wr.heap.size) (w := wr) hqw d1
        have hcon := fun (bb : Bool) (hb : sameP Z[j].1 Z[j + 1].1 = bb) (u : Aft wr.heap.size wr) => implSameFacts_at Z[j + 1].1 Z[j].1 bb hb (.agg #[.int .i64 Z[j + 1].1.rel, .slice P1 Z[j + 1].1.vals.length a1]) (.agg #[.int .i64 Z[j].1.rel, .slice P2 Z[j].1.vals.length a2]) u.now ⟨_, rfl, ((hU1.later hW).later u.is)⟩ ⟨_, rfl, ((hU2.later hW).later u.is)⟩
        have hdup : dupI eqZ Z (j + 1) = sameP Z[j].1 Z[j + 1].1 := by rw [dupI_at hlt, eqF_same]; rfl
        have HDup := Lib.hid hdup
        clear c0 c1 d0 d1 hU1 hU2 hv1 hv2 hdup
        cases hd : sameP Z[j].1 Z[j + 1].1 with
        | false =>
          replace hcon := hcon false hd
          have HN2 := Lib.hid (HN.out.next (HDup.out.trans hd))
          clear hd
          go_wp2
          refine wp_region_aft (Below.refl wr.heap.size wr) (by kernel_rfl) (by kernel_rfl) ?_
          repeat (go_big_quiet_step (((go_at_call 96; exact calls_aft (Nat.le_refl _) (hcon _)))))
          refine wpQuiet_nil ?_
          refine aft_end ?_
          intro w1 hh
          go_wp2
          go_roundw
          case rel => exact ⟨j + 1 + 1, by omega, by omega, by go_num, HN2, hW.trans (hh.mono hz)⟩
          case measure => simp [intOf]; omega
        | true =>
          replace hcon := hcon true hd
          have hdt := HDup.out.trans hd
          have HDT := Lib.hid hdt
          have hst := cpTo_first (k := j + 1) (by omega) HN.out hdt
          have HST := Lib.hid hst
          have hKend : (cpAll eqZ Z).length < Z.length := cpTo_lt hdt hlt
          have HKE := Lib.hid hKend
          clear hd hdt hst hKend
          have hck : ¬ cap - (j + 1) = 0 := by omega
          go_wp2
          refine wp_region_aft (Below.refl wr.heap.size wr) (by kernel_rfl) (by kernel_rfl) ?_
          repeat (go_big_quiet_step (((go_at_call 96; exact calls_aft (Nat.le_refl _) (hcon _)))))
          refine wpQuiet_nil ?_
          refine aft_end ?_
          intro w1 hh
          have hW1 := hW.trans (hh.mono hz)
          have HW1 := Lib.hid hW1
          have hrow1 := (Chg.of_below (S := fun _ => False) hh).row HROW0.out (fun g hg => id)
          have HROW1 := Lib.hid hrow1
          clear hcon C0 C1 D0 D1 hh hrow1 hW1
          go_wp2
          go_loopw [5, 7] (fun i m wq => ∃ t : Nat, t + (j + 1) + 1 ≤ Z.length ∧ m = .int .i64 ((t : Int) + 1) ∧ i = .int .i64 (cpTo eqZ Z (j + 1 + t + 1)).length ∧ wq.ownsRow B 57 2 (.slice (some ⟨q, 0, none⟩) Z.length cap) Z.length ((rowC eqZ Z (j + 1 + t + 1)).flatMap zCells) ∧ Hid (Chg (fun k => k = q) w wq)) (fun _ m _ => Z.length - (intOf m).toNat)
          case atStart =>
            refine ⟨0, by omega, by go_num, ?_, ?_, Lib.hid (Chg.of_below HW1.out)⟩
            · rw [Nat.add_zero, HST.out, List.length_take, Nat.min_eq_left (by omega)]
            · have e : rowC eqZ Z (j + 1 + 0 + 1) = Z := by
                unfold rowC
                rw [Nat.add_zero, HST.out, List.length_take, Nat.min_eq_left (by omega), List.take_append_drop]
              rw [e]
              exact HROW1.out
          case round =>
            obtain ⟨t, ht, rfl, rfl, hrow, HC⟩ := hrel
            have hzq := HC.out.size
            have hclt := cpTo_lt HDT.out (show j + 1 < j + 1 + t + 1 by omega)
            have hcle := (cpTo_le eqZ Z (j + 1 + t + 1)).1
            have HCLT := Lib.hid hclt
            have hel := elems_chg (e := 57) (by decide) HZ1.out HZ2.out HC.out
            have HROW := Lib.hid hrow
            have HEL := Lib.hid hel
            clear hrow hel
            by_cases hlt2 : t + (j + 1) + 1 < Z.length
            · have hA : j + 1 + t + 1 < Z.length := by omega
              have hB : j + 1 + t < Z.length := by omega
              obtain ⟨c0, c1⟩ := cells_at 57 HROW.out (rowC_len _ _ _) hA Z[j + 1 + t + 1] (rowC_get eqZ Z _ _ (by omega) hA)
              obtain ⟨d0, d1⟩ := cells_at 57 HROW.out (rowC_len _ _ _) hB Z[j + 1 + t] (rowC_get eqZ Z _ _ (by omega) hB)
              have hU1 : IntS_at wr wr.heap.size Z[j + 1 + t + 1].2 Z[j + 1 + t + 1].1.vals := (HEL.out _ (List.getElem_mem hA)).1.at_
              have hU2 : IntS_at wr wr.heap.size Z[j + 1 + t].2 Z[j + 1 + t].1.vals := (HEL.out _ (List.getElem_mem hB)).1.at_
              obtain ⟨P1, a1, hv1, -⟩ := id hU1
              obtain ⟨P2, a2, hv2, -⟩ := id hU2
              rw [hv1] at c1 hU1
              rw [hv2] at d1 hU2
              have HV1 := Lib.hid hv1
              rw [show (j + 1 + t + 1) * 2 = (j + 1) * 2 + (t + 1) * 2 by omega] at c0 c1
              rw [show (j + 1 + t) * 2 = (j + 1) * 2 + t * 2 by omega] at d0 d1
              have hqw : q < wr.heap.size := by omega
              have C0 := Aft.cell (B := wr.heap.size) (w := wr) hqw c0
              have C1 := Aft.cell (B := wr.heap.size) (w := wr) hqw c1
              have D0 := Aft.cell (B := wr.heap.size) (w := wr) hqw d0
              have D1 := Aft.cell (B := wr.heap.size) (w := wr) hqw d1
              have C0' := Lib.hid c0
              have C1' := Lib.hid c1
              have hcon := fun (bb : Bool) (hb : sameP Z[j + 1 + t].1 Z[j + 1 + t + 1].1 = bb) (u : Aft wr.heap.size wr) => implSameFacts_at Z[j + 1 + t + 1].1 Z[j + 1 + t].1 bb hb (.agg #[.int .i64 Z[j + 1 + t + 1].1.rel, .slice P1 Z[j + 1 + t + 1].1.vals.length a1]) (.agg #[.int .i64 Z[j + 1 + t].1.rel, .slice P2 Z[j + 1 + t].1.vals.length a2]) u.now ⟨_, rfl, (hU1.later u.is)⟩ ⟨_, rfl, (hU2.later u.is)⟩
              have hdup : dupI eqZ Z (j + 1 + t + 1) = sameP Z[j + 1 + t].1 Z[j + 1 + t + 1].1 := by rw [dupI_at hA, eqF_same]; rfl
              have HDup := Lib.hid hdup
              have hil : (cpTo eqZ Z (j + 1 + t + 1)).length < Z.length := by omega
              have HIL := Lib.hid hil
              clear c0 c1 d0 d1 hU1 hU2 hv1 hv2 hdup
              cases hd : sameP Z[j + 1 + t].1 Z[j + 1 + t + 1].1 with
              | true =>
                replace hcon := hcon true hd
                have HY := Lib.hid (rowC_yes (HDup.out.trans hd))
                clear hd
                go_wp2
                refine wp_region_aft (Below.refl wr.heap.size wr) (by kernel_rfl) (by kernel_rfl) ?_
                repeat (go_big_quiet_step (((go_at_call 96; exact calls_aft (Nat.le_refl _) (hcon _)))))
                refine wpQuiet_nil ?_
                refine aft_end ?_
                intro w2 hh
                clear hcon C0 C1 D0 D1
                go_wp2
                go_roundw
                case rel => exact ⟨t + 1, by omega, by go_num, by rw [show j + 1 + (t + 1) + 1 = j + 1 + t + 1 + 1 by omega, HY.out.2], by rw [show j + 1 + (t + 1) + 1 = j + 1 + t + 1 + 1 by omega, HY.out.1]; exact (Chg.of_below (S := fun _ => False) hh).row HROW.out (fun g hg => id), Lib.hid (HC.out.then_below (hh.mono hzq))⟩
                case measure => simp [intOf]; omega
              | false =>
                replace hcon := hcon false hd
                have HY := Lib.hid (rowC_no hA (HDup.out.trans hd) hil)
                clear hd
                go_wp2
                refine wp_region_aft (Below.refl wr.heap.size wr) (by kernel_rfl) (by kernel_rfl) ?_
                repeat (go_big_quiet_step (((go_at_call 96; exact calls_aft (Nat.le_refl _) (hcon _)))))
                refine wpQuiet_nil ?_
                refine aft_end ?_
                intro w2 hh
                have x0 := (hh.cell (p := ⟨q, (j + 1) * 2 + (t + 1) * 2, none⟩) hqw).trans C0'.out
                have x1 := (hh.cell (p := ⟨q, (j + 1) * 2 + (t + 1) * 2 + 1, none⟩) hqw).trans C1'.out
                have hrow2 := (Chg.of_below (S := fun _ => False) hh).row HROW.out (fun g hg => id)
                obtain ⟨y0, y1⟩ := row_cells hrow2 (rowC_len eqZ Z _) (i := (cpTo eqZ Z (j + 1 + t + 1)).length) (by rw [rowC_len]; exact hil)
                have dz := World.ownsRow.frozenAt hrow2
                have hput := row_put (z := Z[j + 1 + t + 1]) (i := (cpTo eqZ Z (j + 1 + t + 1)).length) hrow2 (by rw [rowC_len]; exact hil)
                rw [HV1.out, ← HY.out.1] at hput
                have HPUT := Lib.hid hput
                have HH := Lib.hid hh
                clear hcon C0 C1 D0 D1 hput hrow2 hh
                generalize hI : (cpTo eqZ Z (j + 1 + t + 1)).length = I at *
                go_wp2
                go_roundw
                case rel => exact ⟨t + 1, by omega, by go_num, by rw [show j + 1 + (t + 1) + 1 = j + 1 + t + 1 + 1 by omega, HY.out.2]; go_num, by rw [show j + 1 + (t + 1) + 1 = j + 1 + t + 1 + 1 by omega]; exact HPUT.out, Lib.hid (((HC.out.then_below (HH.out.mono hzq)).setCell (p := ⟨q, I * 2, none⟩) rfl _).setCell (p := ⟨q, I * 2 + 1, none⟩) rfl _)⟩
                case measure => simp [intOf]; omega
            · have hjt : j + 1 + t + 1 = Z.length := by omega
              have hrow := HROW.out
              rw [hjt] at hrow
              have hKE := HKE.out
              unfold cpAll at hKE
              rw [hjt]
              generalize hI : (cpTo eqZ Z Z.length).length = I at *
              have hcl : ∀ ty, (Builtin.clear_ #[38] ty #[.slice (some ⟨q, I * 2, none⟩) (Z.length - I) (cap - I)]).run Tryz.prog wr = .ok (.tuple #[]) (wr.setCells q (I * 2) ((List.replicate (Z.length - I) (zeroFct, (Value.slice none 0 0))).flatMap zCells)) :=
                fun ty => run_clear_facts Tryz.underlying38 zeroFct_val q _ _ _ (by omega) (fun j hj => by
                  rw [World.ownsRow.cellAt hrow _ (by omega), List.getElem?_eq_getElem (by rw [hrow.1]; omega)]; rfl) (World.ownsRow.frozenAt hrow)
              have hfin : (wr.setCells q (I * 2) ((List.replicate (Z.length - I) (zeroFct, (Value.slice none 0 0))).flatMap zCells)).ownsRow B 57 2 (.slice (some ⟨q, 0, none⟩) (cpAll eqZ Z).length cap) (cpAll eqZ Z).length ((cpAll eqZ Z).flatMap zCells) := by
                have h1 := ownsRow_cut (ownsRow_setCells ((List.replicate (Z.length - I) (zeroFct, (Value.slice none 0 0))).flatMap zCells) (I * 2) hrow) (i := I) (by omega)
                rw [setMany_take] at h1
                have e : ((rowC eqZ Z Z.length).flatMap zCells).take (I * 2) = (cpTo eqZ Z Z.length).flatMap zCells := by
                  unfold rowC
                  rw [List.flatMap_append, List.take_left' (by rw [flat_len zCells 2 zCells_len, hI])]
                rw [e] at h1
                unfold cpAll
                rw [hI]
                exact h1
              have hCF := HC.out.trans (chg_setCells ((List.replicate (Z.length - I) (zeroFct, (Value.slice none 0 0))).flatMap zCells) (I * 2) wr)
              have HX := Lib.hid (HEnd.out _ hCF hfin)
              have HCF := Lib.hid hCF
              have hIe : (cpAll eqZ Z).length = I := hI
              have HIE := Lib.hid hIe
              have hdk : ¬ (cap - I = 0) := by omega
              have hdk2 : ¬ (Z.length - I = 0) := by omega
              clear hfin hCF hrow hI hIe HROW
              go_wp2
              go_ret
              obtain ⟨Us, hU⟩ := HX.out
              exact ⟨Us, by rw [HIE.out]; rfl, hU, HCF.out⟩
      · obtain rfl : k = Z.length := by omega
        have he : cpAll eqZ Z = Z := HN.out.all
        have hx := HEnd.out wr (Chg.of_below hW) (by rw [he]; exact HROW0.out)
        have HX := Lib.hid hx
        have HE := Lib.hid he
        clear he hx
        go_wp2
        go_ret
        obtain ⟨Us, hU⟩ := HX.out
        exact ⟨Us, by rw [HE.out]; rfl, hU, Chg.of_below hW⟩

theorem FactSO.form {e : TypeId} {B C : Nat} {v : Value} {Vs : List Value} {l : List Fct} {w : World} (h : FactSO e B C v Vs l w) : (v = .slice none 0 0 ∧ l = [] ∧ Vs = []) ∨ ∃ q cap, v = .slice (some ⟨q, 0, none⟩) l.length cap := by
  have hp := pairs_len h.len
  rcases h.row.2 with ⟨hv, h0⟩ | ⟨g, cap, cur, hv, -⟩
  · rw [hp] at h0
    have hl : l = [] := List.eq_nil_of_length_eq_zero h0
    have := h.len
    exact .inl ⟨hv, hl, List.eq_nil_of_length_eq_zero (by omega)⟩
  · rw [hp] at hv
    exact .inr ⟨g, cap, hv⟩
theorem implSortFacts_any (l : List Fct) (B C : Nat) (v : Value) (Vs : List Value) (w : World) (hn : l.length ≤ 1048576) (hC : C ≤ w.heap.size) (hO : FactSO 57 B C v Vs l w) :
    Calls Tryz.prog 137 #[v, .func (.func 41) #[] #[]] w fun e w' => e = .returned (.tuple #[]) ∧ ∃ Us R, FactSO 57 B C v Us R w' ∧ R.length = l.length ∧ NdF R ∧ (∀ x, x ∈ R ↔ x ∈ l) ∧ Chg (fun k => v.ownBlock = some k) w w' := by
  rcases Nat.eq_zero_or_pos l.length with h0 | h0
  · have hl : l = [] := List.eq_nil_of_length_eq_zero h0
    subst hl
    have hnone : ∀ (p : Option Addr) (cap : Nat), Calls Tryz.prog 137 #[.slice p 0 cap, .func (.func 41) #[] #[]] w fun e w' => e = .returned (.tuple #[]) ∧ w' = w := fun p cap => AnyF.slices_SortFunc_none Tryz.sortF p cap _ w
    have fin : ∀ w', w' = w → ∃ Us R, FactSO 57 B C v Us R w' ∧ R.length = ([] : List Fct).length ∧ NdF R ∧ (∀ x, x ∈ R ↔ x ∈ ([] : List Fct)) ∧ Chg (fun k => v.ownBlock = some k) w w' := by
      rintro _ rfl
      exact ⟨Vs, [], hO, rfl, List.Pairwise.nil, fun x => Iff.rfl, Chg.refl _ _⟩
    rcases hO.form with ⟨hv, -, -⟩ | ⟨q, cap, hv⟩
    · rw [hv]; rw [hv] at fin
      exact (hnone none 0).mono fun e w' ⟨he, hw⟩ => ⟨he, fin w' hw⟩
    · rw [hv]; rw [hv] at fin
      exact (hnone _ cap).mono fun e w' ⟨he, hw⟩ => ⟨he, fin w' hw⟩
  · rcases hO.form with ⟨-, hl, -⟩ | ⟨q, cap, rfl⟩
    · rw [hl] at h0; simp at h0
    · refine (implSortF_any l B C q cap Vs w hn hC h0 hO).mono ?_
      rintro e w' ⟨rfl, Us, R, h1, h2, h3, h4, h5⟩
      exact ⟨rfl, Us, R, h1, h2, h3, h4, h5.mono fun k hk => by subst hk; rfl⟩
theorem implCompactNil (w : World) : Calls Tryz.prog 138 #[.slice none 0 0, .func (.func 96) #[] #[]] w fun e w' => e = .returned (.slice none 0 0) ∧ w' = w := by
  go_enter Tryz.func138, Tryz.ntmps138
  go_wp2
  go_ret
  exact ⟨rfl, rfl⟩
theorem implCompactFacts_any (l : List Fct) (B C : Nat) (v : Value) (Vs : List Value) (w : World) (hn : l.length ≤ 1048576) (hC : C ≤ w.heap.size) (hO : FactSO 57 B C v Vs l w) :
    Calls Tryz.prog 138 #[v, .func (.func 96) #[] #[]] w fun e w' => ∃ u Us, e = .returned u ∧ FactSO 57 B C u Us (cpAll eqF l) w' ∧ Chg (fun k => v.ownBlock = some k) w w' := by
  rcases hO.form with ⟨hv, hl, hV⟩ | ⟨q, cap, rfl⟩
  · subst hv hl hV
    refine (implCompactNil w).mono ?_
    rintro e w' ⟨rfl, rfl⟩
    exact ⟨_, [], rfl, hO, Chg.refl _ _⟩
  · refine (implCompactF_any l B C q cap Vs w hn hC hO).mono ?_
    rintro e w' ⟨Us, rfl, h1, h2⟩
    exact ⟨_, Us, rfl, h1, h2.mono fun k hk => by subst hk; rfl⟩

end Go.Proofs.YtmecdjincmkofaaGreatDoor
