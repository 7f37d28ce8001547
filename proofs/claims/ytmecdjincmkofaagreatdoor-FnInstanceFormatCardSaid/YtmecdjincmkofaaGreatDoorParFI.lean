/-
  Walks and plain lemmas for the laws of this seat: what single Go functions return, for every argument.
-/
import Derived.Test.YtmecdjincmkofaaGreatDoorBase
import Derived.Test.YtmecdjincmkofaaGreatDoorMem
import Derived.Test.YtmecdjincmkofaaGreatDoorInts
import Derived.Test.YtmecdjincmkofaaGreatDoorRels
import Derived.Test.YtmecdjincmkofaaGreatDoorCut
import Derived.Test.YtmecdjincmkofaaGreatDoorRelsI
import Derived.Test.YtmecdjincmkofaaGreatDoorParFS
import Derived.Test.YtmecdjincmkofaaGreatDoorSplN
import Derived.Test.YtmecdjincmkofaaGreatDoorFactVI
import Derived.Test.YtmecdjincmkofaaGreatDoorFmtFI
namespace Go.Proofs.YtmecdjincmkofaaGreatDoor
open Go.RowKit

set_option maxHeartbeats 3200000 in
set_option maxRecDepth 100000 in
theorem implParseFact_any (v : Value) (l : List Rel) (s : ByteArray) (w : World) (hl : RelsAt w w.heap.size v l) (hs : s.size ≤ 1048576) (ht : Tab w) (hv : ErrVars w) (hm : MaxL w) :
    Calls Tryz.prog 36 #[v, .string s] w (GivesFact l s w) := by
  have HL := Lib.hid hl
  obtain ⟨A, c, rfl, hlc, hcm, -⟩ := hl
  unfold maxLen at hcm
  have h3 : s.data.toList.length = s.size := by simp
  have hR : ByteArray.size ⟨(Lib.cut s.data.toList [40]).2.1.toArray⟩ ≤ 1048576 := by rw [size_mk]; have h1 := cut_le s.data.toList [40]; omega
  have hT : ByteArray.size ⟨(Lib.trimSuffix (Lib.cut s.data.toList [40]).2.1 [41]).toArray⟩ ≤ 1048576 := by rw [size_mk]; have h1 := cut_le s.data.toList [40]; have h2 := trimSuf_le (Lib.cut s.data.toList [40]).2.1 [41]; omega
  clear h3
  have hE : Below w.heap.size w (w.alloc (.cells #[.int .i64 0, .slice none 0 0] 57)) := (Below.refl _ _).alloc (Nat.le_refl _) _
  have hEz : w.heap.size + 1 ≤ (w.alloc (.cells #[.int .i64 0, .slice none 0 0] 57)).heap.size := by simp
  have R0 := Lib.hid (show (w.alloc (.cells #[.int .i64 0, .slice none 0 0] 57)).cell? ⟨w.heap.size, 0, none⟩ = some (.int .i64 0) by simp [go_sem])
  have R1 := Lib.hid (show (w.alloc (.cells #[.int .i64 0, .slice none 0 0] 57)).cell? ⟨w.heap.size, 1, none⟩ = some (.slice none 0 0) by simp [go_sem])
  have R2 := fun o => Lib.hid (show (w.alloc (.cells #[.int .i64 0, .slice none 0 0] 57)).frozen? ⟨w.heap.size, o, none⟩ = false by simp [go_sem])
  have hcut := cutC_any s (w.alloc (.cells #[.int .i64 0, .slice none 0 0] 57)) hs (hm.below hE)
  have hsuf := fun w => Tryz.strings_CutSuffix ⟨(Lib.cut s.data.toList [40]).2.1.toArray⟩ ⟨#[41]⟩ w (by omega)
  dsimp only at hsuf
  cases hS : Lib.hasSuffix (Lib.cut s.data.toList [40]).2.1 [41] with
  | false =>
    have HP := Lib.hid (parseFact_no (implFact_open (l := l) hS))
    rw [hS] at hsuf
    clear hS
    go_enter Tryz.func36, Tryz.ntmps36
    go_wp2_with fail
    refine hcut.mono ?_
    rintro e w1 ⟨rfl, hb1⟩
    have r0 := (hb1.cell (p := ⟨w.heap.size, 0, none⟩) hEz).trans R0.out
    have r1 := (hb1.cell (p := ⟨w.heap.size, 1, none⟩) hEz).trans R1.out
    have r2 := fun o => (hb1.frozen (p := ⟨w.heap.size, o, none⟩) hEz).trans (R2 o).out
    have hz1 := hb1.size
    go_wp2_with fail
    refine (hsuf _).mono ?_
    rintro e w2 ⟨rfl, rfl⟩
    go_wp2
    refine bodyPost_ret (v := .tuple #[.agg #[.int .i64 0, .slice none 0 0], .bool false]) (by simp [results, Tryz.results36, go_sem, r0, r1]) rfl ⟨.slice none 0 0, by rw [HP.out.1, HP.out.2], by rw [HP.out.1]; exact OwnInts.nil _ _, ?_⟩
    exact ((hE.trans (hb1.mono hE.size)).setCell (p := ⟨w.heap.size, 0, none⟩) (Nat.le_refl _) _).setCell (p := ⟨w.heap.size, 1, none⟩) (Nat.le_refl _) _
  | true =>
    have HS := Lib.hid hS
    rw [hS] at hsuf
    clear hS
    have hidx := fun w' (hb : Below w.heap.size w w') => implRelationIndex_any (.slice A l.length c) l ⟨(Lib.cut s.data.toList [40]).1.toArray⟩ w' ((HL.out.below hb (Nat.le_refl _)).more hb.size)
    have hrb := relIdx_bd ⟨(Lib.cut s.data.toList [40]).1.toArray⟩ l
    obtain ⟨r, hr⟩ : ∃ r, r = relIdx ⟨(Lib.cut s.data.toList [40]).1.toArray⟩ l := ⟨_, rfl⟩
    rw [← hr] at hidx hrb
    have HR := Lib.hid hr
    clear hr
    have hsp := fun w' (hb : Below w.heap.size w w') => splitC_any ⟨(Lib.trimSuffix (Lib.cut s.data.toList [40]).2.1 [41]).toArray⟩ w' hT (hm.below hb)
    go_enter Tryz.func36, Tryz.ntmps36
    go_wp2_with fail
    refine hcut.mono ?_
    rintro e w1 ⟨rfl, hb1⟩
    have hz1 := hb1.size
    clear hcut
    go_wp2_with fail
    refine (hsuf _).mono ?_
    rintro e w2 ⟨rfl, rfl⟩
    clear hsuf
    go_wp2_with fail
    refine (hidx _ (hE.trans (hb1.mono hE.size))).mono ?_
    rintro e w3 ⟨rfl, hb3⟩
    clear hidx
    have hz3 := hb3.size
    have hb13 := hE.trans ((hb1.trans (hb3.mono hz1)).mono hE.size)
    have hb4 : Below w3.heap.size w3 (w3.alloc (.cells #[.int .i64 r, .slice none 0 0] 57)) := (Below.refl _ _).alloc (Nat.le_refl _) _
    have hz4 : w3.heap.size + 1 ≤ (w3.alloc (.cells #[.int .i64 r, .slice none 0 0] 57)).heap.size := by simp
    have hW4 := hb13.trans (hb4.mono hb13.size)
    have K0 := Lib.hid (show (w3.alloc (.cells #[.int .i64 r, .slice none 0 0] 57)).cell? ⟨w3.heap.size, 0, none⟩ = some (.int .i64 r) by simp [go_sem])
    have K1 := Lib.hid (show (w3.alloc (.cells #[.int .i64 r, .slice none 0 0] 57)).cell? ⟨w3.heap.size, 1, none⟩ = some (.slice none 0 0) by simp [go_sem])
    have K2 := fun o => Lib.hid (show (w3.alloc (.cells #[.int .i64 r, .slice none 0 0] 57)).frozen? ⟨w3.heap.size, o, none⟩ = false by simp [go_sem])
    go_wp2_with fail
    refine (hsp _ hW4).mono ?_
    rintro e w5 ⟨L, cap, rfl, hL, hLc, hc4, hcell, hlt5, hb5⟩
    clear hsp
    have hz5 := hb5.size
    have hLl : L.length ≤ 4 := by omega
    have hE5 : Below (w.alloc (.cells #[.int .i64 0, .slice none 0 0] 57)).heap.size (w.alloc (.cells #[.int .i64 0, .slice none 0 0] 57)) w5 := ((hb1.trans (hb3.mono hz1)).trans (hb4.mono (by omega))).trans (hb5.mono (by omega))
    have hW5 := hE.trans (hE5.mono hE.size)
    have k0 := (hb5.cell (p := ⟨w3.heap.size, 0, none⟩) hz4).trans K0.out
    have k1 := (hb5.cell (p := ⟨w3.heap.size, 1, none⟩) hz4).trans K1.out
    have k2 := fun o => (hb5.frozen (p := ⟨w3.heap.size, o, none⟩) hz4).trans (K2 o).out
    have RR0 := Lib.hid ((hE5.cell (p := ⟨w.heap.size, 0, none⟩) hEz).trans R0.out)
    have RR1 := Lib.hid ((hE5.cell (p := ⟨w.heap.size, 1, none⟩) hEz).trans R1.out)
    have RR2 := fun o => Lib.hid ((hE5.frozen (p := ⟨w.heap.size, o, none⟩) hEz).trans (R2 o).out)
    have HCell := Lib.hid hcell
    have hg : w.heap.size < w3.heap.size := by omega
    have hg5 : w3.heap.size < w5.heap.size := by omega
    have hS4 : (w3.alloc (.cells #[.int .i64 r, .slice none 0 0] 57)).heap.size = w3.heap.size + 1 := by simp
    have HS4 := Lib.hid hS4
    have HL5 := Lib.hid hL
    have hlt6 : w3.heap.size + 1 < w5.heap.size := by omega
    clear hcell hL hlt5 hS4
    go_wp2
    go_loopw [37] (fun i wr => ∃ k : Nat, ∃ A4 c4, ∃ l4 : List Int, k ≤ L.length ∧ i = .int .i64 k ∧ Hid (l4.length = k) ∧ Hid (toVals ((dataOf L).take k) = some l4) ∧
      wr.cell? ⟨w3.heap.size, 0, none⟩ = some (.int .i64 r) ∧ wr.cell? ⟨w3.heap.size, 1, none⟩ = some (.slice A4 l4.length c4) ∧ (∀ o, wr.frozen? ⟨w3.heap.size, o, none⟩ = false) ∧
      OwnInts w5.heap.size (.slice A4 l4.length c4) l4 wr ∧ Chg (fun g => g = w3.heap.size) w5 wr) (fun i _ => L.length - (intOf i).toNat)
    case atStart => exact ⟨0, none, 0, [], by omega, rfl, Lib.hid rfl, Lib.hid rfl, k0, k1, k2, OwnInts.nil _ _, Chg.refl _ _⟩
    case round =>
      clear k0 k1 k2
      obtain ⟨k, A4, c4, l4, hk, rfl, hl4, HV, k0, k1, k2, hO, hC⟩ := hrel
      have hz := hC.size
      have r0 := (hC.cell (b := w.heap.size) (o := 0) (by omega) (by omega)).trans RR0.out
      have r1 := (hC.cell (b := w.heap.size) (o := 1) (by omega) (by omega)).trans RR1.out
      have r2 := fun o => (hC.frozen (b := w.heap.size) (o := o) (by omega) (by omega)).trans (RR2 o).out
      have hWw : Below w.heap.size w wr := hW5.trans (hC.below (fun k hk => by omega) (by omega))
      by_cases hlt : k < L.length
      · have hc0 := HCell.out k hlt
        rw [HS4.out] at hc0
        have hc : wr.cell? ⟨w3.heap.size + 1, k, none⟩ = some (.string L[k]) := (hC.cell (b := w3.heap.size + 1) (o := k) (by omega) (by omega)).trans hc0
        clear hc0
        have hkd : k < (dataOf L).length := by rw [dataOf_len]; exact hlt
        have HK := Lib.hid (dataOf_at L k hlt)
        have hl1 : l4.length < 1048577 := by have := hl4.out; omega
        have hts : L[k].size ≤ 1048576 := by
          have h0 : L[k].data.toList ∈ dataOf L := by rw [← HK.out]; exact List.getElem_mem _
          rw [HL5.out] at h0
          have h1 := cutN_piece 44 _ _ _ h0
          rw [ByteArray.size, List.size_toArray] at hT
          simp at h1 hT; omega
        generalize L[k] = t at hc HK hts
        have hpv := implParseValue_any t wr hts (ht.below hWw) (hv.below hWw)
        cases hp : (parseV t.data.toList).2 with
        | false =>
          have HF := Lib.hid (parseFact_no (implFact_stop (l := l) HS.out (dataOf L) HL5.out k hkd (by rw [HK.out]; exact hp)))
          rw [hp] at hpv
          clear hp
          go_wp2_with fail
          refine hpv.mono ?_
          rintro e w6 ⟨rfl, hb6⟩
          have hz6 := hb6.size
          replace r0 := (hb6.cell (p := ⟨w.heap.size, 0, none⟩) (by show w.heap.size < _; omega)).trans r0
          replace r1 := (hb6.cell (p := ⟨w.heap.size, 1, none⟩) (by show w.heap.size < _; omega)).trans r1
          replace r2 := fun o => (hb6.frozen (p := ⟨w.heap.size, o, none⟩) (by show w.heap.size < _; omega)).trans (r2 o)
          replace hWw := hWw.trans (hb6.mono hWw.size)
          clear k0 k1 k2
          go_wp2
          refine bodyPost_ret (v := .tuple #[.agg #[.int .i64 0, .slice none 0 0], .bool false]) (by simp [results, Tryz.results36, go_sem, r0, r1]) rfl ⟨.slice none 0 0, by rw [HF.out.1, HF.out.2], by rw [HF.out.1]; exact OwnInts.nil _ _, ?_⟩
          exact (hWw.setCell (p := ⟨w.heap.size, 0, none⟩) (Nat.le_refl _) _).setCell (p := ⟨w.heap.size, 1, none⟩) (Nat.le_refl _) _
        | true =>
          have HN := Lib.hid (toVals_next hkd HV.out (by rw [HK.out]; exact hp))
          rw [HK.out] at HN
          rw [hp] at hpv
          clear hp r0 r1 r2
          go_wp2_with fail
          refine hpv.mono ?_
          rintro e w6 ⟨rfl, hb6⟩
          have hz6 := hb6.size
          replace k0 := (hb6.cell (p := ⟨w3.heap.size, 0, none⟩) (by show w3.heap.size < _; omega)).trans k0
          replace k1 := (hb6.cell (p := ⟨w3.heap.size, 1, none⟩) (by show w3.heap.size < _; omega)).trans k1
          replace k2 := fun o => (hb6.frozen (p := ⟨w3.heap.size, o, none⟩) (by show w3.heap.size < _; omega)).trans (k2 o)
          replace hO := hO.below hb6 (Nat.le_refl _)
          replace hC := hC.then_below (hb6.mono hz)
          replace hWw := hWw.trans (hb6.mono hWw.size)
          go_wp2_with (at_builtin; refine ints_app1 hO rfl _ _ rfl rfl _ _ _ rfl rfl hl1 (by omega) ?_; intro v5 w7 hO5 hB5 hG5; obtain ⟨g5, c5, rfl, hg7, -, -, -⟩ := hO5.form (by simp); have q1 := (hG5.cell_far ⟨w3.heap.size, 1, none⟩ (by show w3.heap.size < _; omega) (fun e => by have := (hO.lt _ e.symm).1; simp at this; omega)).trans k1; have q0 := (hG5.cell_far ⟨w3.heap.size, 0, none⟩ (by show w3.heap.size < _; omega) (fun e => by have := (hO.lt _ e.symm).1; simp at this; omega)).trans k0; have q2 := fun o => (hG5.frozen_far ⟨w3.heap.size, o, none⟩ (by show w3.heap.size < _; omega) (fun e => by have := (hO.lt _ e.symm).1; simp at this; omega)).trans (k2 o))
          go_roundw
          case rel =>
            refine ⟨k + 1, some ⟨g5, 0, none⟩, c5, l4 ++ [(parseV t.data.toList).1], by omega, by go_num, Lib.hid (by simp [hl4.out]), HN, ?_, ?_, ?_, ?_, ?_⟩
            · simp [go_sem, q0]
            · simp [go_sem, q1]
            · intro o; simp [go_sem, q2]
            · exact hO5.chg (Chg.refl (fun g => g = w3.heap.size) w7 |>.setCell (p := ⟨w3.heap.size, 1, none⟩) rfl _) (fun g hg e => by have := (hO5.lt g hg).1; omega)
            · exact (hC.then_below hB5).setCell (p := ⟨w3.heap.size, 1, none⟩) rfl _
          case measure => simp [intOf]; omega
      · have hkl : k = L.length := by omega
        have hV : toVals (dataOf L) = some l4 := by
          have := HV.out
          rwa [List.take_of_length_le (by rw [dataOf_len]; omega)] at this
        have hwf : IntsWf l4 := fun i hi => by have := (toVals_back _ _ hV).2 l4[i] (List.getElem_mem hi); omega
        have HPE := Lib.hid (implFact_end (l := l) HS.out (dataOf L) HL5.out hV)
        rw [← HR.out] at HPE
        have hvf := fun b h => implIsValidFact_at (.slice A l.length c) l r (.slice A4 l4.length c4) l4 b h wr ((HL.out.below hWw (Nat.le_refl _)).more hWw.size) hO.at_ hwf
        have HO := Lib.hid hO
        clear hC hO hkl hV
        cases hok : factOk l r l4 with
        | true =>
          have HV' := Lib.hid (parseFact_yes (HPE.out.trans (if_pos hok)))
          replace hvf := hvf true hok
          clear hok
          go_wp2_with fail
          refine hvf.mono ?_
          rintro e w6 ⟨rfl, hb6⟩
          have hz6 := hb6.size
          replace r0 := (hb6.cell (p := ⟨w.heap.size, 0, none⟩) (by show w.heap.size < _; omega)).trans r0
          replace r1 := (hb6.cell (p := ⟨w.heap.size, 1, none⟩) (by show w.heap.size < _; omega)).trans r1
          replace r2 := fun o => (hb6.frozen (p := ⟨w.heap.size, o, none⟩) (by show w.heap.size < _; omega)).trans (r2 o)
          replace k0 := (hb6.cell (p := ⟨w3.heap.size, 0, none⟩) (by show w3.heap.size < _; omega)).trans k0
          replace k1 := (hb6.cell (p := ⟨w3.heap.size, 1, none⟩) (by show w3.heap.size < _; omega)).trans k1
          replace hWw := hWw.trans (hb6.mono hWw.size)
          clear k2
          go_wp2
          refine bodyPost_ret (v := .tuple #[.agg #[.int .i64 r, .slice A4 l4.length c4], .bool true]) (by simp [results, Tryz.results36, go_sem, r0, r1]) rfl ⟨.slice A4 l4.length c4, by rw [HV'.out.1, HV'.out.2], ?_, ?_⟩
          · rw [HV'.out.1]
            exact (((HO.out.below hb6 (Nat.le_refl _)).chg (((Chg.refl (fun g => g = w.heap.size) w6).setCell (p := ⟨w.heap.size, 0, none⟩) rfl _).setCell (p := ⟨w.heap.size, 1, none⟩) rfl _) (fun g hg e => by have := (HO.out.lt g hg).1; omega))).mono (by omega)
          · exact (hWw.setCell (p := ⟨w.heap.size, 0, none⟩) (Nat.le_refl _) _).setCell (p := ⟨w.heap.size, 1, none⟩) (Nat.le_refl _) _
        | false =>
          have HV' := Lib.hid (parseFact_no (HPE.out.trans (if_neg (by rw [hok]; simp))))
          replace hvf := hvf false hok
          clear hok
          go_wp2_with fail
          refine hvf.mono ?_
          rintro e w6 ⟨rfl, hb6⟩
          have hz6 := hb6.size
          replace r0 := (hb6.cell (p := ⟨w.heap.size, 0, none⟩) (by show w.heap.size < _; omega)).trans r0
          replace r1 := (hb6.cell (p := ⟨w.heap.size, 1, none⟩) (by show w.heap.size < _; omega)).trans r1
          replace r2 := fun o => (hb6.frozen (p := ⟨w.heap.size, o, none⟩) (by show w.heap.size < _; omega)).trans (r2 o)
          replace hWw := hWw.trans (hb6.mono hWw.size)
          clear k0 k1 k2
          go_wp2
          refine bodyPost_ret (v := .tuple #[.agg #[.int .i64 0, .slice none 0 0], .bool false]) (by simp [results, Tryz.results36, go_sem, r0, r1]) rfl ⟨.slice none 0 0, by rw [HV'.out.1, HV'.out.2], by rw [HV'.out.1]; exact OwnInts.nil _ _, ?_⟩
          exact (hWw.setCell (p := ⟨w.heap.size, 0, none⟩) (Nat.le_refl _) _).setCell (p := ⟨w.heap.size, 1, none⟩) (Nat.le_refl _) _
theorem parseFact_sz (l : List Rel) (s : ByteArray) : (ParseFact_r0 l s).vals.length ≤ 3 := by
  cases h : parseFact l s.data.toList with
  | none => rw [(parseFact_no h).1]; simp
  | some x =>
    obtain ⟨r, vs⟩ := x
    rw [(parseFact_yes h).1]
    obtain ⟨_, _, _, _, _, h3, _⟩ := fact_form ((parseFact_iff _ _ _ _).1 h).1
    exact h3
theorem implParseFact_c (v : Value) (l : List Rel) (s : ByteArray) (w : World) (h : RelationS_at w w.heap.size v l) (_ : RelationS_wf l) (_ : RelationS_sz l ≤ 1048576) (hs : s.size ≤ 1048576) (ht : Tab w) (hv : ErrVars w) (hm : MaxL w) :
    Calls Tryz.prog 36 #[v, .string s] w fun e w' => ∃ r0, e = .returned (.tuple #[r0, .bool (ParseFact_ok l s)]) ∧ Fact_own w.heap.size w'.heap.size r0 (ParseFact_r0 l s) w' ∧ Fact_sz (ParseFact_r0 l s) ≤ 1048576 ∧ Below w.heap.size w w' :=
  (implParseFact_any v l s w h hs ht hv hm).mono fun _ _ ⟨V, he, ho, hb⟩ => ⟨_, he, ⟨V, rfl, IntsO.of ho⟩, by unfold Fact_sz; have := parseFact_sz l s; omega, hb⟩

theorem own_mono {w : World} {B B' k n : Nat} {e : TypeId} {v : Value} {xs : List Value} (h : w.ownsRow B e k v n xs) (hB : B' ≤ B) : w.ownsRow B' e k v n xs := by
  obtain ⟨h1, h2⟩ := h
  refine ⟨h1, ?_⟩
  rcases h2 with h2 | ⟨g, cap, cur, h3, h4, h5⟩
  · exact .inl h2
  · exact .inr ⟨g, cap, cur, h3, Nat.le_trans hB h4, h5⟩
theorem implAreValid_is (l : List Rel) (b : Bool) (h : validRels l = b) (v : Value) (w : World) (hl : RelsAt w w.heap.size v l) :
    Calls Tryz.prog 42 #[v] w fun e w' => e = .returned (.bool b) ∧ Below w.heap.size w w' := by
  subst h; exact implAreValidRelations_any v l w hl
theorem implTok_call_some (t : ByteArray) (r : Rel) (h : implTok t.data.toList = some r) (w : World) (hs : t.size ≤ 1048576) (ht : Tab w) (hv : ErrVars w) :
    Calls Tryz.prog 98 #[.string t] w fun e w' => e = .returned (.tuple #[.agg #[.string r.name, .int .i64 r.arity, .bool r.source], .bool true]) ∧ Below w.heap.size w w' := by
  have := implParseRelation_any t w hs ht hv
  rw [h] at this; exact this
theorem implTok_call_none (t : ByteArray) (h : implTok t.data.toList = none) (w : World) (hs : t.size ≤ 1048576) (ht : Tab w) (hv : ErrVars w) :
    Calls Tryz.prog 98 #[.string t] w fun e w' => e = .returned (.tuple #[.agg #[.string ⟨#[]⟩, .int .i64 0, .bool false], .bool false]) ∧ Below w.heap.size w w' := by
  have := implParseRelation_any t w hs ht hv
  rw [h] at this; exact this
theorem implRels_stop (s : List UInt8) (P : List (List UInt8)) (hP : P = cutN 32 (min 7 (s.length + 1) - 1) s) (k : Nat) (hk : k < P.length) (h : implTok P[k] = none) : implRels s = none := by
  have e : P = P.take k ++ P[k] :: P.drop (k + 1) := by rw [← List.drop_eq_getElem_cons hk, List.take_append_drop]
  unfold implRels
  rw [← hP, e, toks_none implTok _ _ _ h]
theorem implRels_end (s : List UInt8) (P : List (List UInt8)) (hP : P = cutN 32 (min 7 (s.length + 1) - 1) s) (l : List Rel) (h : toks implTok P = some l) : implRels s = if validRels l then some l else none := by
  unfold implRels
  rw [← hP, h]
set_option maxRecDepth 100000 in
set_option maxHeartbeats 3200000 in
theorem implParseRelations_any (s : ByteArray) (w : World) (hs : s.size ≤ 1048576) (ht : Tab w) (hv : ErrVars w) (hm : MaxL w) :
    Calls Tryz.prog 30 #[.string s] w (GivesParse s w) := by
  by_cases h0 : s.data.toList = []
  · have HP := Lib.hid (show parsePair s.data.toList = ([], true) from if_pos h0)
    obtain rfl : s = ⟨#[]⟩ := bytes_ext h0
    clear h0
    go_enter Tryz.func30, Tryz.ntmps30
    go_wp2
    go_ret2
    exact ⟨_, by rw [HP.out]; rfl, by rw [HP.out]; exact OwnRels.nil _ _, Below.refl _ _⟩
  · have hse : (s.toList == []) = false := by rw [ByteArray.toList_eq, beq_eq_false_iff_ne]; exact h0
    have H0 := Lib.hid h0
    have HE := Lib.hid (implRels_eq _ h0)
    clear h0
    have hmk := fun w c hc => make_relsRoom w c hc
    go_enter Tryz.func30, Tryz.ntmps30
    go_wp2_with fail
    refine (splitN_any s _ hs hm).mono ?_
    rintro e w1 ⟨vP, L, rfl, hL, hP, hb1⟩
    have hz1 := hb1.size
    have hLl : L.length ≤ 7 := by
      have h1 := cutN_len 32 (min 7 (s.size + 1) - 1) s.data.toList
      rw [← hL, dataOf_len] at h1
      omega
    have HPT := Lib.hid hP
    obtain ⟨A, c, rfl, hc1, hc2, -⟩ := hP
    unfold maxLen at hc2
    have HL := Lib.hid hL
    have hmk1 := fun w => hmk w L.length (by omega)
    clear hL hmk
    go_wp2
    clear hmk1
    go_loopw [5, 19] (fun o i wr => ∃ k : Nat, ∃ l : List Rel, k ≤ L.length ∧ i = .int .i64 k ∧ Hid (l.length = k) ∧ Hid (toks implTok ((dataOf L).take k) = some l) ∧ OwnRels w1.heap.size o l wr ∧ Below w1.heap.size w1 wr) (fun _ i _ => L.length - (intOf i).toNat)
    case atStart => exact ⟨0, [], by omega, rfl, Lib.hid rfl, Lib.hid rfl, OwnRels.room w1 _ (by omega) _ (Nat.le_refl _), (Below.refl _ _).alloc (Nat.le_refl _) _⟩
    case round =>
      obtain ⟨k, l, hk, rfl, hlk, HT, hO, hW⟩ := hrel
      have hz := hW.size
      have hWw := hb1.trans (hW.mono hz1)
      have hl1 : l.length < 1048577 := by have := hlk.out; omega
      by_cases hlt : k < L.length
      · obtain ⟨b, off, rfl, hb, hc⟩ := StrsAt.elem (HPT.out.below hW (Nat.le_refl _)) k hlt
        have hkd : k < (dataOf L).length := by rw [dataOf_len]; exact hlt
        have HK := Lib.hid (dataOf_at L k hlt)
        have hts : L[k].size ≤ 1048576 := by
          have h1 := cutN_piece 32 (min 7 (s.size + 1) - 1) s.data.toList (L[k].data.toList) (by rw [← HL.out, ← HK.out]; exact List.getElem_mem _)
          simp at h1; omega
        generalize L[k] = t at hc HK hts
        cases hr : implTok t.data.toList with
        | none =>
          have hcon := implTok_call_none t hr wr hts (ht.below hWw) (hv.below hWw)
          have HV := Lib.hid (parsePair_none H0.out (HE.out.symm.trans (implRels_stop s.data.toList (dataOf L) (by rw [HL.out]; simp) k hkd (by rw [HK.out]; exact hr))))
          clear hr
          go_wp2_with (go_at_call 98; refine hcon.mono ?_; rintro e w2 ⟨rfl, hb2⟩)
          go_ret2
          exact ⟨_, by rw [HV.out]; rfl, by rw [HV.out]; exact OwnRels.nil _ _, (hWw.trans (hb2.mono (by omega))).alloc (by have := hb2.size; omega) _⟩
        | some r =>
          have hcon := implTok_call_some t r hr wr hts (ht.below hWw) (hv.below hWw)
          have HN := Lib.hid (toks_next implTok _ k hkd l r HT.out (by rw [HK.out]; exact hr))
          clear hr
          go_wp2_with fail
          refine hcon.mono ?_
          rintro e w2 ⟨rfl, hb2⟩
          have hz2 := hb2.size
          have hO2 := hO.below hb2 (Nat.le_refl _)
          have hW2 := hW.trans (hb2.mono hz)
          go_wp2_with (at_builtin; refine rels_app1 (hO2.below ((Below.refl w2.heap.size w2).alloc (Nat.le_refl _) _) (Nat.le_refl _)) rfl _ _ rfl rfl _ _ _ _ _ rfl (by simp) hl1 (by simp; omega) ?_; intro v' w3 hO3 hW3 _)
          go_roundw
          case rel => exact ⟨k + 1, _, by omega, by go_num, Lib.hid (by simp [hlk.out]), HN, hO3, (hW2.alloc (by omega) _).trans hW3⟩
          case measure => simp [intOf]; omega
      · have hE := implRels_end s.data.toList (dataOf L) (by rw [HL.out]; simp) l (by have := HT.out; rwa [List.take_of_length_le (by rw [dataOf_len]; omega)] at this)
        cases hvv : validRels l with
        | true =>
          rw [hvv] at hE
          have HV := Lib.hid (parsePair_some H0.out (HE.out.symm.trans hE))
          have hcon := implAreValid_is l true hvv _ _ hO.at_
          clear hE hvv
          go_wp2_with fail
          ((with_reducible refine hcon.mono ?_); rintro e w2 ⟨rfl, hb2⟩)
          go_wp2
          go_ret2
          exact ⟨_, by rw [HV.out]; rfl, by rw [HV.out]; exact own_mono (hO.below hb2 (Nat.le_refl _)) hz1, hWw.trans (hb2.mono (by omega))⟩
        | false =>
          rw [hvv] at hE
          have HV := Lib.hid (parsePair_none H0.out (HE.out.symm.trans hE))
          have hcon := implAreValid_is l false hvv _ _ hO.at_
          clear hE hvv
          go_wp2_with fail
          ((with_reducible refine hcon.mono ?_); rintro e w2 ⟨rfl, hb2⟩)
          go_wp2
          go_ret2
          exact ⟨_, by rw [HV.out]; rfl, by rw [HV.out]; exact OwnRels.nil _ _, hWw.trans (hb2.mono (by omega))⟩

end Go.Proofs.YtmecdjincmkofaaGreatDoor
