/-
  Walks and plain lemmas for the laws of this seat: what single Go functions return, for every argument.
-/
import Derived.Test.YtmecdjincmkofaaGreatDoorBase
import Derived.Test.YtmecdjincmkofaaGreatDoorMem
import Derived.Test.YtmecdjincmkofaaGreatDoorInts
import Derived.Test.YtmecdjincmkofaaGreatDoorFmtV
import Derived.Test.YtmecdjincmkofaaGreatDoorFmtFS
import Derived.Test.YtmecdjincmkofaaGreatDoorRelsI
namespace Go.Proofs.YtmecdjincmkofaaGreatDoor
open Go.RowKit

def ParseFact_r0 (l : List Rel) (s : ByteArray) : Fct := match parseFact l s.data.toList with
  | some (r, vs) => ⟨r, vs⟩
  | none => ⟨0, []⟩
def ParseFact_ok (l : List Rel) (s : ByteArray) : Bool := (parseFact l s.data.toList).isSome
theorem parseFact_no {l : List Rel} {s : ByteArray} (h : parseFact l s.data.toList = none) : ParseFact_r0 l s = ⟨0, []⟩ ∧ ParseFact_ok l s = false := by unfold ParseFact_r0 ParseFact_ok; rw [h]; exact ⟨rfl, rfl⟩
theorem parseFact_yes {l : List Rel} {s : ByteArray} {r : Int} {vs : List Int} (h : parseFact l s.data.toList = some (r, vs)) : ParseFact_r0 l s = ⟨r, vs⟩ ∧ ParseFact_ok l s = true := by unfold ParseFact_r0 ParseFact_ok; rw [h]; exact ⟨rfl, rfl⟩
theorem parseFact_short {l : List Rel} {s : List UInt8} (h : s.length < 3) : parseFact l s = none := if_pos h
/-- what ParseFact gives, the values in memory of the call's own -/
def GivesFact (l : List Rel) (s : ByteArray) (w : World) (e : Ending) (w' : World) : Prop := ∃ V, e = .returned (.tuple #[.agg #[.int .i64 (ParseFact_r0 l s).rel, V], .bool (ParseFact_ok l s)]) ∧ OwnInts w.heap.size V (ParseFact_r0 l s).vals w' ∧ Below w.heap.size w w'
set_option maxHeartbeats 3200000 in
set_option maxRecDepth 100000 in
theorem specParseFact_any (v : Value) (l : List Rel) (s : ByteArray) (w : World) (hl : RelsAt w w.heap.size v l) (hn : l.length ≤ 1048576) (hs : s.size ≤ 1048576) :
    Calls Tryz.prog 39 #[v, .string s] w (GivesFact l s w) := by
  have HL := Lib.hid hl
  obtain ⟨A, c, rfl, hlc, hcm, -⟩ := hl
  unfold maxLen at hcm
  by_cases h3 : s.size < 3
  · have HP := Lib.hid (parseFact_no (parseFact_short (l := l) (s := s.data.toList) (by simpa using h3)))
    go_enter Tryz.func39, Tryz.ntmps39
    go_wp2
    refine bodyPost_ret (v := .tuple #[.agg #[.int .i64 0, .slice none 0 0], .bool false]) (by simp [results, Tryz.results39, go_sem]) rfl ⟨.slice none 0 0, by rw [HP.out.1, HP.out.2], by rw [HP.out.1]; exact OwnInts.nil _ _, ?_⟩
    repeat (first | (refine Below.setCell ?_ (by show _ ≤ _; simp) _) | (refine Below.alloc ?_ (by simp) _))
    exact Below.refl _ _
  · have hidx := specRelationIndex_any (.slice A l.length c) l (s.extract 0 1)
    have hrb := relIdx_bd (s.extract 0 1) l
    obtain ⟨r, hr⟩ : ∃ r, r = relIdx (s.extract 0 1) l := ⟨_, rfl⟩
    rw [← hr] at hidx hrb
    have HR := Lib.hid hr
    clear hr
    have hidx' := fun w' (hb : Below w.heap.size w w') => hidx w' ((HL.out.below hb (Nat.le_refl _)).more hb.size)
    clear hidx
    have hs1 : s.size - 1 ≤ s.size := by omega
    have hT : (s.extract 2 (s.size - 1)).data.toList = (s.data.toList.drop 2).take (s.data.toList.length - 3) := by
      rw [extract_mid, List.drop_take]; rfl
    have hr1 : s.extract 0 1 = ⟨(s.data.toList.take 1).toArray⟩ := bytes_ext (by rw [extract_take])
    have HR1 := Lib.hid hr1
    have HT := Lib.hid hT
    have hcut := fun w => specCutAt_any 44 (s.extract 2 (s.size - 1)) w (by rw [ByteArray.size_extract]; omega)
    have h44 : (((44 : UInt8).toNat : Nat) : Int) = 44 := rfl
    rw [h44] at hcut
    clear hT hr1 h44
    have hE : Below w.heap.size w ((w.alloc (.cells #[.int .i64 0, .slice none 0 0] 57)).alloc (.cells #[.int .i64 r, .slice none 0 0] 57)) := below_more (below_more (Below.refl _ _) _) _
    have hEz : w.heap.size + 2 = ((w.alloc (.cells #[.int .i64 0, .slice none 0 0] 57)).alloc (.cells #[.int .i64 r, .slice none 0 0] 57)).heap.size := by simp
    go_enter Tryz.func39, Tryz.ntmps39
    go_wp2_with fail
    refine (hidx' _ ((Below.refl _ _).alloc (Nat.le_refl _) _)).mono ?_
    rintro e w' ⟨rfl, rfl⟩
    go_wp2_with fail
    refine (hcut _).mono ?_
    rintro e w1 ⟨vW, L, rfl, hL, hOL, hb1⟩
    clear hcut hidx'
    have hz1 := hb1.size
    have hP : dataOf L = piecesF s.data.toList := by rw [hL, HT.out]; rfl
    have hLl : L.length = (piecesF s.data.toList).length := by have := congrArg List.length hP; simpa [dataOf] using this
    have hLn : L.length ≤ 1048577 := by
      rw [hLl]; unfold piecesF
      have h1 := cutA_len 44 ((s.data.toList.drop 2).take (s.data.toList.length - 3))
      have h2 : ((s.data.toList.drop 2).take (s.data.toList.length - 3)).length ≤ s.data.toList.length := by rw [List.length_take, List.length_drop]; omega
      have h3 : s.data.toList.length = s.size := by simp
      omega
    obtain ⟨A2, c2, rfl, hc1, hc2⟩ := hOL.form
    unfold maxLen at hc2
    have HP := Lib.hid hP
    have HLl := Lib.hid hLl
    clear hL hP hLl
    have k0 : w1.cell? ⟨w.heap.size + 1, 0, none⟩ = some (.int .i64 r) := (hb1.cell (p := ⟨w.heap.size + 1, 0, none⟩) (by show w.heap.size + 1 < _; omega)).trans (by simp [go_sem])
    have k1 : w1.cell? ⟨w.heap.size + 1, 1, none⟩ = some (.slice none 0 0) := (hb1.cell (p := ⟨w.heap.size + 1, 1, none⟩) (by show w.heap.size + 1 < _; omega)).trans (by simp [go_sem])
    have k2 : ∀ o, w1.frozen? ⟨w.heap.size + 1, o, none⟩ = false := fun o => (hb1.frozen (p := ⟨w.heap.size + 1, o, none⟩) (by show w.heap.size + 1 < _; omega)).trans (by simp [go_sem])
    have R0 := Lib.hid ((hb1.cell (p := ⟨w.heap.size, 0, none⟩) (by show w.heap.size < _; omega)).trans (show ((w.alloc (.cells #[.int .i64 0, .slice none 0 0] 57)).alloc (.cells #[.int .i64 r, .slice none 0 0] 57)).cell? ⟨w.heap.size, 0, none⟩ = some (.int .i64 0) by simp [go_sem]))
    have R1 := Lib.hid ((hb1.cell (p := ⟨w.heap.size, 1, none⟩) (by show w.heap.size < _; omega)).trans (show ((w.alloc (.cells #[.int .i64 0, .slice none 0 0] 57)).alloc (.cells #[.int .i64 r, .slice none 0 0] 57)).cell? ⟨w.heap.size, 1, none⟩ = some (.slice none 0 0) by simp [go_sem]))
    have R2 := fun o => Lib.hid ((hb1.frozen (p := ⟨w.heap.size, o, none⟩) (by show w.heap.size < _; omega)).trans (show ((w.alloc (.cells #[.int .i64 0, .slice none 0 0] 57)).alloc (.cells #[.int .i64 r, .slice none 0 0] 57)).frozen? ⟨w.heap.size, o, none⟩ = false by simp [go_sem]))
    go_wp2
    go_loopw [8, 9, 10] (fun i _ _ wr => ∃ k : Nat, ∃ A4 c4, ∃ l4 : List Int, k ≤ L.length ∧ i = .int .i64 k ∧ Hid (l4.length = k) ∧ Hid (toVals ((piecesF s.data.toList).take k) = some l4) ∧
      wr.cell? ⟨w.heap.size + 1, 0, none⟩ = some (.int .i64 r) ∧ wr.cell? ⟨w.heap.size + 1, 1, none⟩ = some (.slice A4 l4.length c4) ∧ (∀ o, wr.frozen? ⟨w.heap.size + 1, o, none⟩ = false) ∧
      OwnInts w1.heap.size (.slice A4 l4.length c4) l4 wr ∧ Chg (fun g => g = w.heap.size + 1) w1 wr) (fun i _ _ _ => L.length - (intOf i).toNat)
    case atStart => exact ⟨0, none, 0, [], by omega, rfl, Lib.hid rfl, Lib.hid rfl, k0, k1, k2, OwnInts.nil _ _, Chg.refl _ _⟩
    case round =>
      clear k0 k1 k2
      obtain ⟨k, A4, c4, l4, hk, rfl, hl4, HV, k0, k1, k2, hO, hC⟩ := hrel
      have hz := hC.size
      have r0 := (hC.cell (b := w.heap.size) (o := 0) (by omega) (by omega)).trans R0.out
      have r1 := (hC.cell (b := w.heap.size) (o := 1) (by omega) (by omega)).trans R1.out
      have r2 := fun o => (hC.frozen (b := w.heap.size) (o := o) (by omega) (by omega)).trans (R2 o).out
      have hWw : Below w.heap.size w wr := (hE.trans (hb1.mono hE.size)).trans (hC.below (fun k hk => by omega) (by omega))
      by_cases hlt : k < L.length
      · have hOL' := hC.row hOL (fun g hg e => by have := (World.ownsRow.lt hOL g hg).1; omega)
        obtain ⟨b, off, rfl, hb, hc⟩ := StrsAt.elem (OwnStrs.at_ hOL') k hlt
        have hkc : k < (piecesF s.data.toList).length := by have := HLl.out; omega
        have HK : Hid (L[k].data.toList = (piecesF s.data.toList)[k]) := Lib.hid (by simp [← HP.out, dataOf])
        have hl1 : l4.length < 1048577 := by have := hl4.out; omega
        generalize L[k] = t at hc HK
        have hpv := specParseValue_any t wr
        cases hp : (parseV t.data.toList).2 with
        | false =>
          have HF := Lib.hid (parseFact_no (parseFact_stop (l := l) k hkc (by rw [← HK.out]; exact hp)))
          rw [hp] at hpv
          clear hp
          go_wp2_with fail
          refine hpv.mono ?_
          rintro e w2 ⟨rfl, hb2⟩
          have hz2 := hb2.size
          replace r0 := (hb2.cell (p := ⟨w.heap.size, 0, none⟩) (by show w.heap.size < _; omega)).trans r0
          replace r1 := (hb2.cell (p := ⟨w.heap.size, 1, none⟩) (by show w.heap.size < _; omega)).trans r1
          replace r2 := fun o => (hb2.frozen (p := ⟨w.heap.size, o, none⟩) (by show w.heap.size < _; omega)).trans (r2 o)
          replace k0 := (hb2.cell (p := ⟨w.heap.size + 1, 0, none⟩) (by show w.heap.size + 1 < _; omega)).trans k0
          replace k1 := (hb2.cell (p := ⟨w.heap.size + 1, 1, none⟩) (by show w.heap.size + 1 < _; omega)).trans k1
          replace k2 := fun o => (hb2.frozen (p := ⟨w.heap.size + 1, o, none⟩) (by show w.heap.size + 1 < _; omega)).trans (k2 o)
          replace hO := hO.below hb2 (Nat.le_refl _)
          replace hC := hC.then_below (hb2.mono hz)
          replace hWw := hWw.trans (hb2.mono hWw.size)
          go_wp2
          refine bodyPost_ret (v := .tuple #[.agg #[.int .i64 0, .slice none 0 0], .bool false]) (by simp [results, Tryz.results39, go_sem, r0, r1]) rfl ⟨.slice none 0 0, by rw [HF.out.1, HF.out.2], by rw [HF.out.1]; exact OwnInts.nil _ _, ?_⟩
          exact (hWw.setCell (p := ⟨w.heap.size, 0, none⟩) (Nat.le_refl _) _).setCell (p := ⟨w.heap.size, 1, none⟩) (Nat.le_refl _) _
        | true =>
          have HN := Lib.hid (toVals_next hkc HV.out (by rw [← HK.out]; exact hp))
          rw [← HK.out] at HN
          rw [hp] at hpv
          clear hp r0 r1 r2
          go_wp2_with fail
          refine hpv.mono ?_
          rintro e w2 ⟨rfl, hb2⟩
          have hz2 := hb2.size
          replace k0 := (hb2.cell (p := ⟨w.heap.size + 1, 0, none⟩) (by show w.heap.size + 1 < _; omega)).trans k0
          replace k1 := (hb2.cell (p := ⟨w.heap.size + 1, 1, none⟩) (by show w.heap.size + 1 < _; omega)).trans k1
          replace k2 := fun o => (hb2.frozen (p := ⟨w.heap.size + 1, o, none⟩) (by show w.heap.size + 1 < _; omega)).trans (k2 o)
          replace hO := hO.below hb2 (Nat.le_refl _)
          replace hC := hC.then_below (hb2.mono hz)
          replace hWw := hWw.trans (hb2.mono hWw.size)
          go_wp2_with (at_builtin; refine ints_app1 hO rfl _ _ rfl rfl _ _ _ rfl rfl hl1 (by omega) ?_; intro v5 w5 hO5 hB5 hG5; obtain ⟨g5, c5, rfl, hg5, -, -, -⟩ := hO5.form (by simp); have q1 := (hG5.cell_far ⟨w.heap.size + 1, 1, none⟩ (by show w.heap.size + 1 < _; omega) (fun e => by have := (hO.lt _ e.symm).1; simp at this; omega)).trans k1; have q0 := (hG5.cell_far ⟨w.heap.size + 1, 0, none⟩ (by show w.heap.size + 1 < _; omega) (fun e => by have := (hO.lt _ e.symm).1; simp at this; omega)).trans k0; have q2 := fun o => (hG5.frozen_far ⟨w.heap.size + 1, o, none⟩ (by show w.heap.size + 1 < _; omega) (fun e => by have := (hO.lt _ e.symm).1; simp at this; omega)).trans (k2 o))
          go_roundw
          case rel => 
            refine ⟨k + 1, some ⟨g5, 0, none⟩, c5, l4 ++ [(parseV t.data.toList).1], by omega, by go_num, Lib.hid (by simp [hl4.out]), HN, ?_, ?_, ?_, ?_, ?_⟩
            · simp [go_sem, q0]
            · simp [go_sem, q1]
            · intro o; simp [go_sem, q2]
            · exact hO5.chg (Chg.refl (fun g => g = w.heap.size + 1) w5 |>.setCell (p := ⟨w.heap.size + 1, 1, none⟩) rfl _) (fun g hg e => by have := (hO5.lt g hg).1; omega)
            · exact (hC.then_below hB5).setCell (p := ⟨w.heap.size + 1, 1, none⟩) rfl _
          case measure => simp [intOf]; omega
      · have hkl : k = L.length := by omega
        have hV : toVals (piecesF s.data.toList) = some l4 := by
          have := HV.out
          rwa [List.take_of_length_le (by have := HLl.out; omega)] at this
        have hwf : IntsWf l4 := fun i hi => by have := (toVals_back _ _ hV).2 l4[i] (List.getElem_mem hi); omega
        have HPE := Lib.hid (parseFact_end (l := l) (s := s.data.toList) (by simpa using h3) hV)
        rw [← HR1.out, ← HR.out] at HPE
        have hff := specFormatFact_any (.slice A l.length c) l r (.slice A4 l4.length c4) l4 wr ((HL.out.below hWw (Nat.le_refl _)).more hWw.size) hn hO.at_ hwf
        obtain ⟨F, hF⟩ : ∃ F : ByteArray, F = ⟨(fmtFact l r l4).toArray⟩ := ⟨_, rfl⟩
        rw [← hF] at hff
        have HO := Lib.hid hO
        clear hC hO hOL
        by_cases hFs : F = s
        · have HV' := Lib.hid (parseFact_yes (HPE.out.trans (if_pos (by rw [← hFs, hF]))))
          have he : (F.toList == s.toList) = true := by rw [hFs]; exact str_eq s
          clear hF hFs hkl hV
          go_wp2_with fail
          refine hff.mono ?_
          rintro e w2 ⟨rfl, hb2⟩
          have hz2 := hb2.size
          replace r0 := (hb2.cell (p := ⟨w.heap.size, 0, none⟩) (by show w.heap.size < _; omega)).trans r0
          replace r1 := (hb2.cell (p := ⟨w.heap.size, 1, none⟩) (by show w.heap.size < _; omega)).trans r1
          replace r2 := fun o => (hb2.frozen (p := ⟨w.heap.size, o, none⟩) (by show w.heap.size < _; omega)).trans (r2 o)
          replace k0 := (hb2.cell (p := ⟨w.heap.size + 1, 0, none⟩) (by show w.heap.size + 1 < _; omega)).trans k0
          replace k1 := (hb2.cell (p := ⟨w.heap.size + 1, 1, none⟩) (by show w.heap.size + 1 < _; omega)).trans k1
          replace hWw := hWw.trans (hb2.mono hWw.size)
          go_wp2
          refine bodyPost_ret (v := .tuple #[.agg #[.int .i64 r, .slice A4 l4.length c4], .bool true]) (by simp [results, Tryz.results39, go_sem, r0, r1]) rfl ⟨.slice A4 l4.length c4, by rw [HV'.out.1, HV'.out.2], ?_, ?_⟩
          · rw [HV'.out.1]
            exact (((HO.out.below hb2 (Nat.le_refl _)).chg (((Chg.refl (fun g => g = w.heap.size) w2).setCell (p := ⟨w.heap.size, 0, none⟩) rfl _).setCell (p := ⟨w.heap.size, 1, none⟩) rfl _) (fun g hg e => by have := (HO.out.lt g hg).1; omega))).mono (by omega)
          · exact (hWw.setCell (p := ⟨w.heap.size, 0, none⟩) (Nat.le_refl _) _).setCell (p := ⟨w.heap.size, 1, none⟩) (Nat.le_refl _) _
        · have HV' := Lib.hid (parseFact_no (HPE.out.trans (if_neg (fun e => hFs (by rw [hF]; exact bytes_ext e)))))
          have he := str_ne hFs
          clear hF hFs hkl hV
          go_wp2_with fail
          refine hff.mono ?_
          rintro e w2 ⟨rfl, hb2⟩
          have hz2 := hb2.size
          replace r0 := (hb2.cell (p := ⟨w.heap.size, 0, none⟩) (by show w.heap.size < _; omega)).trans r0
          replace r1 := (hb2.cell (p := ⟨w.heap.size, 1, none⟩) (by show w.heap.size < _; omega)).trans r1
          replace r2 := fun o => (hb2.frozen (p := ⟨w.heap.size, o, none⟩) (by show w.heap.size < _; omega)).trans (r2 o)
          replace hWw := hWw.trans (hb2.mono hWw.size)
          clear k0 k1 k2
          go_wp2
          refine bodyPost_ret (v := .tuple #[.agg #[.int .i64 0, .slice none 0 0], .bool false]) (by simp [results, Tryz.results39, go_sem, r0, r1]) rfl ⟨.slice none 0 0, by rw [HV'.out.1, HV'.out.2], by rw [HV'.out.1]; exact OwnInts.nil _ _, ?_⟩
          exact (hWw.setCell (p := ⟨w.heap.size, 0, none⟩) (Nat.le_refl _) _).setCell (p := ⟨w.heap.size, 1, none⟩) (Nat.le_refl _) _
theorem specParseFact_c (v : Value) (l : List Rel) (s : ByteArray) (w : World) (h : RelationS_at w w.heap.size v l) (_ : RelationS_wf l) (hn : RelationS_sz l ≤ 1048576) (hs : s.size ≤ 1048576) :
    Calls Tryz.prog 39 #[v, .string s] w fun e w' => ∃ r0, e = .returned (.tuple #[r0, .bool (ParseFact_ok l s)]) ∧ Fact_at w' w'.heap.size r0 (ParseFact_r0 l s) ∧ Below w.heap.size w w' :=
  (specParseFact_any v l s w h (by unfold RelationS_sz at hn; omega) hs).mono fun _ _ ⟨V, he, ho, hb⟩ => ⟨_, he, ⟨V, rfl, ho.at_⟩, hb⟩

end Go.Proofs.YtmecdjincmkofaaGreatDoor
