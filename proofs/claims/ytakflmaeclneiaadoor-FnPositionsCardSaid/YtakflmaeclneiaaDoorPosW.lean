/-
  Walks and plain lemmas for the laws of this seat: what single Go functions return, for every argument.
-/
import Derived.Deep.Quiet
import Derived.Test.YtakflmaeclneiaaDoorBase
import Derived.Test.YtakflmaeclneiaaDoorFmtS
import Derived.Test.YtakflmaeclneiaaDoorLift
import Derived.Test.YtakflmaeclneiaaDoorDrawR
import Derived.Test.YtakflmaeclneiaaDoorAft
import Derived.Test.YtakflmaeclneiaaDoorPosS
import Derived.Test.YtakflmaeclneiaaDoorAtmW
import Derived.Test.YtakflmaeclneiaaDoorPosI
import Derived.Test.YtakflmaeclneiaaDoorReachI
import Derived.Test.YtakflmaeclneiaaDoorReachS
import Derived.Test.YtakflmaeclneiaaDoorFmtR
import Derived.Test.YtakflmaeclneiaaDoorPosFI
namespace Go.Proofs.YtakflmaeclneiaaDoor
open Go.RowKit

/-- a position that is one prints as its relation's name and its column -/
theorem pos_fmt {l : List Rel} {r i : Int} (h : 0 ≤ posIx l r i) : ∃ k m : Nat, ∃ hk : k < l.length, r = (k : Int) ∧ i = (m : Int) ∧ m < 3 ∧ posIx l r i < posCnt l ∧ l[k].name.size = 1 ∧ fmtPosS l (posIx l r i) = l[k].name ++ ⟨(Lib.itoa i).toArray⟩ := by
  obtain ⟨hp, hlt⟩ := posIx_lt h
  obtain ⟨k, rfl⟩ : ∃ k : Nat, r = (k : Int) := ⟨r.toNat, by have := hp.2.1; omega⟩
  obtain ⟨m, rfl⟩ : ∃ m : Nat, i = (m : Int) := ⟨i.toNat, by have := hp.2.2; omega⟩
  have hk : k < l.length := by have := hp.2.1; omega
  have ha := arityAt_bd hp.1 hp.2.1
  refine ⟨k, m, hk, rfl, rfl, by have := hp.2.2; omega, hlt, (relOk_bd _ _ (validRels_at l hp.1 k hk)).1, ?_⟩
  exact fmtPosS_some (pos_at k m hk h rfl).2
set_option maxHeartbeats 12800000 in
set_option maxRecDepth 100000 in
theorem walkPO (q : Option Addr) (code : List UInt8) (c : Nat) (_ : code.length ≤ maxLen) (w : World) (hc : CodeAt w w.heap.size (.slice q code.length c) code) (ht : Tab w) :
    Calls Tryd.prog 3 #[.slice q code.length c] w fun e w' => e = .returned (.bool true) ∧ Below w.heap.size w w' := by
  by_cases hbig : 1048576 < code.length
  · have hd : decide (1048576 < ((code.length : Nat) : Int)) = true := by simp; omega
    go_enter Tryd.func3, Tryd.ntmps3
    go_wp2_with fail
    refine (big_any q _ c _).mono ?_; rintro e w1 ⟨rfl, rfl⟩
    go_wp2_with fail
    go_ret
    exact ⟨rfl, Below.refl _ _⟩
  · have hlen : code.length ≤ 1048576 := by omega
    have hd : decide (1048576 < ((code.length : Nat) : Int)) = false := by simp; omega
    have HCO := Lib.hid hc
    have HTB := Lib.hid ht
    clear hbig ht
    go_enter Tryd.func3, Tryd.ntmps3
    go_wp2_with fail
    refine (big_any q _ c _).mono ?_; rintro e w1 ⟨rfl, rfl⟩
    go_wp2_with fail
    refine (drawPosIx_c _ code _ hc hlen).mono ?_
    rintro e w2 ⟨v, l, r, i, rfl, -, hR, hr, hi, hb2⟩
    have hpx := implPositionIndex_any v l r i w2 hR (by omega) (by omega)
    have hPF := Lib.hid (fun h => pos_fmt (l := l) (r := r) (i := i) h)
    have HR := Lib.hid hR
    have HB2 := Lib.hid hb2
    obtain ⟨P, hP⟩ : ∃ P, P = posIx l r i := ⟨_, rfl⟩
    have hPb := posIx_bd l r i
    rw [← hP] at hpx hPb hPF
    have HP := Lib.hid hP
    clear hR hb2 hd hc hP
    go_wp2_with fail
    refine hpx.mono ?_
    rintro e w3 ⟨rfl, hb3⟩
    have HB3 := Lib.hid (HB2.out.trans (hb3.mono HB2.out.size))
    have HR3 := Lib.hid ((HR.out.below hb3 (Nat.le_refl _)).more hb3.size)
    clear hpx hb3 HR HB2
    go_wp2_with fail
    refine (drawReach_c _ code _ (HCO.out.later HB3.out) hlen).mono ?_
    rintro e w4 ⟨n, V, E, a, b, rfl, hE, hEs, hn, ha, hb, hb4⟩
    have HB4 := Lib.hid (HB3.out.trans (hb4.mono HB3.out.size))
    have HR4 := Lib.hid ((HR3.out.below hb4 (Nat.le_refl _)).more hb4.size)
    have HE4 := Lib.hid hE
    have HT4 := Lib.hid (HTB.out.below HB4.out)
    have hEl : E.length ≤ 7560 := hEs.1
    have HES := Lib.hid hEs.2
    obtain ⟨AE, cE, rfl, -, hcE, -⟩ := hE
    unfold maxLen at hcE
    obtain ⟨AR, cR, rfl, -, hcR, -⟩ := id HR4.out
    unfold maxLen at hcR
    clear hb4 HR3 HB3 HTB HCO hEs
    have HLat := Lib.hid (fun (W : World) (hb : Below w4.heap.size w4 W) => (HR4.out.below hb (Nat.le_refl _)).more hb.size)
    have HEat := Lib.hid (fun (W : World) (hb : Below w4.heap.size w4 W) => (HE4.out.below hb (Nat.le_refl _)).more hb.size)
    have h5 := implIsReachable_any n _ E a b w4 HE4.out (by omega) (by omega) (by omega)
    have HIS := Lib.hid (fun hr (e : Edg) he h1 h2 => reachB_next (n := n) (a := a) (b := b) (E := E) hr (e := e) he h1 h2)
    obtain ⟨is, his⟩ : ∃ is, is = reachB n E a b := ⟨_, rfl⟩
    rw [← his] at h5 HIS
    have HISQ := Lib.hid his
    clear his
    go_wp2_with fail
    refine h5.mono ?_
    rintro e w5 ⟨rfl, hb5⟩
    have h6 := specPositionIndex_any _ l r i w5 (HLat.out w5 hb5) (by omega) (by omega)
    rw [← HP.out] at h6
    have HB5 := Lib.hid hb5
    have hne : (P != P) = false := by simp
    clear h5 hb5
    go_wp2_with fail
    refine h6.mono ?_
    rintro e w6 ⟨rfl, hb6⟩
    have HB6 := Lib.hid (HB5.out.trans (hb6.mono HB5.out.size))
    have h7 := implPositionCount_any _ l w6 (HLat.out w6 HB6.out)
    have hcb := posCnt_bd l
    obtain ⟨C, hC⟩ : ∃ C, C = posCnt l := ⟨_, rfl⟩
    rw [← hC] at h7 hcb hPF
    have HCQ := Lib.hid hC
    have hnc : (C != C) = false := by simp
    clear h6 hb6 HB5 hC
    go_wp2_with fail
    refine h7.mono ?_
    rintro e w7 ⟨rfl, hb7⟩
    have HB7 := Lib.hid (HB6.out.trans (hb7.mono HB6.out.size))
    have h8 := specPositionCount_any _ l w7 (HLat.out w7 HB7.out)
    rw [← HCQ.out] at h8
    clear h7 hb7 HB6
    go_wp2_with fail
    refine h8.mono ?_
    rintro e w8 ⟨rfl, hb8⟩
    have HB8 := Lib.hid (HB7.out.trans (hb8.mono HB7.out.size))
    have h9 := specIsReachable_any n _ E a b w8 (HEat.out w8 HB8.out) (by omega) (by omega) (by omega) (by omega)
    rw [← HISQ.out] at h9
    have hni : (is != is) = false := by simp
    clear h8 hb8 HB7
    go_wp2_with fail
    refine h9.mono ?_
    rintro e w9 ⟨rfl, hb9⟩
    have HB9 := Lib.hid (HB8.out.trans (hb9.mono HB8.out.size))
    clear h9 hb9 HB8
    go_upto_region 9 with fail
    go_cut [80] from 59 (fun t wx => t = .bool false ∧ Hid (Below w4.heap.size w4 wx))
    case first =>
      by_cases h0 : 0 ≤ P
      · have hd1 : decide (P ≥ 0) = true := decide_eq_true h0
        obtain ⟨k, m, hk, rfl, rfl, hm, hlt, hN1, hfmt⟩ := hPF.out h0
        have hd2 : decide (P ≥ C) = false := decide_eq_false (by omega)
        have hB : ByteArray.size ⟨(Lib.itoa (m : Int)).toArray⟩ ≤ 2 := by rw [size_mk]; exact itoa_le2 _ (by omega) (by omega)
        obtain ⟨br, offr, rfl, hbr, c0, -, -⟩ := RelsAt.elem (HLat.out w9 HB9.out) k hk
        have C0 := Aft.cell (B := w9.heap.size) (w := w9) hbr c0
        have hz9 := HB9.out.size
        have g1 := fun (u : Aft w9.heap.size w9) => implPositionCount_any (.slice (some ⟨br, offr, none⟩) l.length cR) l u.now (HLat.out u.now (HB9.out.trans (u.is.mono hz9)))
        have g2 := fun (u : Aft w9.heap.size w9) => implFormatPosition_any (.slice (some ⟨br, offr, none⟩) l.length cR) l P u.now (HLat.out u.now (HB9.out.trans (u.is.mono hz9))) (by omega) (HT4.out.below (HB9.out.trans (u.is.mono hz9)))
        have g3 := fun (u : Aft w9.heap.size w9) => specFormatInt_any (m : Int) u.now (by omega) (by omega)
        rw [hfmt] at g2
        rw [← HCQ.out] at g1
        clear hfmt c0
        generalize l[k].name = N at *
        generalize (⟨(Lib.itoa (m : Int)).toArray⟩ : ByteArray) = B at *
        have hTT := str_eq (N ++ B)
        refine wp_region_aft (Below.refl w9.heap.size w9) (by kernel_rfl) (by kernel_rfl) ?_
        repeat (go_big_quiet_step (((first | (go_at_call 11; with_reducible exact calls_aft (Nat.le_refl _) (g1 _)) | (go_at_call 14; with_reducible exact calls_aft (Nat.le_refl _) (g2 _)) | (go_at_call 15; with_reducible exact calls_aft (Nat.le_refl _) (g3 _))))))
        refine wpQuiet_nil ?_
        refine aft_end ?_
        intro w10 hh
        have HB10 := Lib.hid (HB9.out.trans (hh.mono hz9))
        go_wp2
        go_meet
        case rel => exact ⟨rfl, HB10⟩
      · have hd1 : decide (P ≥ 0) = false := decide_eq_false h0
        clear h0
        refine wp_region_aft (Below.refl w9.heap.size w9) (by kernel_rfl) (by kernel_rfl) ?_
        repeat (go_big_quiet_step (fail))
        refine wpQuiet_nil ?_
        refine aft_end ?_
        intro w10 hh
        have HB10 := Lib.hid (HB9.out.trans (hh.mono HB9.out.size))
        go_wp2
        go_meet
        case rel => exact ⟨rfl, HB10⟩
    case rest =>
      obtain ⟨rfl, HB10⟩ := hcut
      clear HB9
      go_wp2
      go_loopw [12] (fun jv wr => ∃ j : Nat, j ≤ E.length ∧ jv = .int .i64 (j : Int) ∧ Hid (Below w4.heap.size w4 wr)) (fun jv _ => E.length - (intOf jv).toNat)
      case atStart => exact ⟨0, by omega, rfl, HB10⟩
      case round =>
        obtain ⟨j, hj, rfl, HBr⟩ := hrel
        clear HB10
        have hzr := HBr.out.size
        cases is with
        | false =>
          by_cases hlt : j < E.length
          · skip
            by_cases t1 : n < 1
            · have e1 : decide (n < 1) = true := decide_eq_true t1
              go_wp2
              go_ret
              exact ⟨rfl, HB4.out.trans (HBr.out.mono HB4.out.size)⟩
            · have e1 : decide (n < 1) = false := decide_eq_false t1
              by_cases t2 : n > 30
              · have e2 : decide (n > 30) = true := decide_eq_true t2
                go_wp2
                go_ret
                exact ⟨rfl, HB4.out.trans (HBr.out.mono HB4.out.size)⟩
              · have e2 : decide (n > 30) = false := decide_eq_false t2
                by_cases t3 : a < 0
                · have e3 : decide (a < 0) = true := decide_eq_true t3
                  go_wp2
                  go_ret
                  exact ⟨rfl, HB4.out.trans (HBr.out.mono HB4.out.size)⟩
                · have e3 : decide (a < 0) = false := decide_eq_false t3
                  by_cases t4 : a ≥ n
                  · have e4 : decide (a ≥ n) = true := decide_eq_true t4
                    go_wp2
                    go_ret
                    exact ⟨rfl, HB4.out.trans (HBr.out.mono HB4.out.size)⟩
                  · have e4 : decide (a ≥ n) = false := decide_eq_false t4
                    have hcall := implIsReachable_any n _ E a a wr (HEat.out wr HBr.out) (by omega) (by omega) (by omega)
                    rw [reachB_self (by omega) (by omega)] at hcall
                    clear t1 t2 t3 t4
                    go_wp2_with fail
                    refine hcall.mono ?_
                    rintro e wf ⟨rfl, hbf⟩
                    have HF := Lib.hid (HB4.out.trans ((HBr.out.trans (hbf.mono hzr)).mono HB4.out.size))
                    clear hbf hcall
                    go_wp2
                    go_ret
                    exact ⟨rfl, HF.out⟩
          · skip
            by_cases t1 : n < 1
            · have e1 : decide (n < 1) = true := decide_eq_true t1
              go_wp2
              go_ret
              exact ⟨rfl, HB4.out.trans (HBr.out.mono HB4.out.size)⟩
            · have e1 : decide (n < 1) = false := decide_eq_false t1
              by_cases t2 : n > 30
              · have e2 : decide (n > 30) = true := decide_eq_true t2
                go_wp2
                go_ret
                exact ⟨rfl, HB4.out.trans (HBr.out.mono HB4.out.size)⟩
              · have e2 : decide (n > 30) = false := decide_eq_false t2
                by_cases t3 : a < 0
                · have e3 : decide (a < 0) = true := decide_eq_true t3
                  go_wp2
                  go_ret
                  exact ⟨rfl, HB4.out.trans (HBr.out.mono HB4.out.size)⟩
                · have e3 : decide (a < 0) = false := decide_eq_false t3
                  by_cases t4 : a ≥ n
                  · have e4 : decide (a ≥ n) = true := decide_eq_true t4
                    go_wp2
                    go_ret
                    exact ⟨rfl, HB4.out.trans (HBr.out.mono HB4.out.size)⟩
                  · have e4 : decide (a ≥ n) = false := decide_eq_false t4
                    have hcall := implIsReachable_any n _ E a a wr (HEat.out wr HBr.out) (by omega) (by omega) (by omega)
                    rw [reachB_self (by omega) (by omega)] at hcall
                    clear t1 t2 t3 t4
                    go_wp2_with fail
                    refine hcall.mono ?_
                    rintro e wf ⟨rfl, hbf⟩
                    have HF := Lib.hid (HB4.out.trans ((HBr.out.trans (hbf.mono hzr)).mono HB4.out.size))
                    clear hbf hcall
                    go_wp2
                    go_ret
                    exact ⟨rfl, HF.out⟩
        | true =>
          by_cases hlt : j < E.length
          · obtain ⟨eb, eoff, rfl, heb, d0, d1, -⟩ := EdgsAt.elem (HEat.out wr HBr.out) j hlt
            have hebd := HES.out _ (List.getElem_mem hlt)
            have HNX := Lib.hid (HIS.out rfl _ (List.getElem_mem hlt))
            generalize E[j] = x at *
            by_cases s1 : x.src = b
            · have f1 : (x.src == b) = true := beq_iff_eq.2 s1
              by_cases s2 : x.dst ≥ 0
              · have f2 : decide (x.dst ≥ 0) = true := decide_eq_true s2
                by_cases s3 : x.dst < n
                · have f3 : decide (x.dst < n) = true := decide_eq_true s3
                  have hcall := implIsReachable_any n _ E a x.dst wr (HEat.out wr HBr.out) (by omega) (by omega) (by omega)
                  rw [HNX.out s1 ⟨s2, s3⟩] at hcall
                  clear s1 s2 s3
                  go_wp2_with fail
                  refine hcall.mono ?_
                  rintro e wf ⟨rfl, hbf⟩
                  have HBf := Lib.hid (HBr.out.trans (hbf.mono hzr))
                  clear hbf hcall
                  go_wp2
                  go_roundw
                  case rel => exact ⟨j + 1, by omega, by go_num, HBf⟩
                  case measure => simp [intOf]; omega
                · have f3 : decide (x.dst < n) = false := decide_eq_false s3
                  clear s1 s2 s3
                  go_wp2
                  go_roundw
                  case rel => exact ⟨j + 1, by omega, by go_num, HBr⟩
                  case measure => simp [intOf]; omega
              · have f2 : decide (x.dst ≥ 0) = false := decide_eq_false s2
                clear s1 s2
                go_wp2
                go_roundw
                case rel => exact ⟨j + 1, by omega, by go_num, HBr⟩
                case measure => simp [intOf]; omega
            · have f1 : (x.src == b) = false := beq_eq_false_iff_ne.2 s1
              clear s1
              go_wp2
              go_roundw
              case rel => exact ⟨j + 1, by omega, by go_num, HBr⟩
              case measure => simp [intOf]; omega
          · obtain rfl : j = E.length := by omega
            by_cases t1 : n < 1
            · have e1 : decide (n < 1) = true := decide_eq_true t1
              go_wp2
              go_ret
              exact ⟨rfl, HB4.out.trans (HBr.out.mono HB4.out.size)⟩
            · have e1 : decide (n < 1) = false := decide_eq_false t1
              by_cases t2 : n > 30
              · have e2 : decide (n > 30) = true := decide_eq_true t2
                go_wp2
                go_ret
                exact ⟨rfl, HB4.out.trans (HBr.out.mono HB4.out.size)⟩
              · have e2 : decide (n > 30) = false := decide_eq_false t2
                by_cases t3 : a < 0
                · have e3 : decide (a < 0) = true := decide_eq_true t3
                  go_wp2
                  go_ret
                  exact ⟨rfl, HB4.out.trans (HBr.out.mono HB4.out.size)⟩
                · have e3 : decide (a < 0) = false := decide_eq_false t3
                  by_cases t4 : a ≥ n
                  · have e4 : decide (a ≥ n) = true := decide_eq_true t4
                    go_wp2
                    go_ret
                    exact ⟨rfl, HB4.out.trans (HBr.out.mono HB4.out.size)⟩
                  · have e4 : decide (a ≥ n) = false := decide_eq_false t4
                    have hcall := implIsReachable_any n _ E a a wr (HEat.out wr HBr.out) (by omega) (by omega) (by omega)
                    rw [reachB_self (by omega) (by omega)] at hcall
                    clear t1 t2 t3 t4
                    go_wp2_with fail
                    refine hcall.mono ?_
                    rintro e wf ⟨rfl, hbf⟩
                    have HF := Lib.hid (HB4.out.trans ((HBr.out.trans (hbf.mono hzr)).mono HB4.out.size))
                    clear hbf hcall
                    go_wp2
                    go_ret
                    exact ⟨rfl, HF.out⟩

end Go.Proofs.YtakflmaeclneiaaDoor
