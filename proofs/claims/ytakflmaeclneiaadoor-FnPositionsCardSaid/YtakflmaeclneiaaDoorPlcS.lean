/-
  Walks and plain lemmas for the laws of this seat: what single Go functions return, for every argument.
-/
import Derived.Test.YtakflmaeclneiaaDoorBase
import Derived.Test.YtakflmaeclneiaaDoorInts
import Derived.Test.YtakflmaeclneiaaDoorTyAtom
import Derived.Test.YtakflmaeclneiaaDoorDepSM
import Derived.Test.YtakflmaeclneiaaDoorPosS
namespace Go.Proofs.YtakflmaeclneiaaDoor
open Go.RowKit

set_option maxHeartbeats 3200000 in
set_option maxRecDepth 100000 in
theorem specPlaces_any (v u : Value) (l : List Rel) (ts : List Atm) (x : Int) (w : World) (hl : RelsAt w w.heap.size v l) (h : AtomS_at w w.heap.size u ts) (hw : AtomS_wf ts) (hs : AtomS_sz ts ≤ 1048576) :
    Calls Tryd.prog 45 #[v, u, .int .i64 x] w fun e w' => ∃ V, e = .returned V ∧ OwnInts w.heap.size V (varPos l ts x) w' ∧ Below w.heap.size w w' := by
  obtain ⟨P, c, rfl, hc1, hc2⟩ := h.form
  unfold maxLen at hc2
  have HL := Lib.hid h
  have HR := Lib.hid hl
  clear h hl
  go_enter Tryd.func45, Tryd.ntmps45
  go_wp2
  go_loopw [7, 8, 9] (fun o i _ wr => ∃ k : Nat, k ≤ ts.length ∧ i = .int .i64 (k : Int) ∧ Hid (OwnInts w.heap.size o (varPos l (ts.take k) x) wr) ∧ Hid (Below w.heap.size w wr)) (fun _ i _ _ => ts.length - (intOf i).toNat)
  case atStart => exact ⟨0, by omega, rfl, Lib.hid (by simpa [varPos] using OwnInts.empty w w.heap.size (Nat.le_refl _)), Lib.hid ((Below.refl _ _).alloc (Nat.le_refl _) _)⟩
  case round =>
    obtain ⟨k, hk, rfl, HO, HW⟩ := hrel
    have hz := HW.out.size
    by_cases hlt : k < ts.length
    · obtain ⟨b, off, V, rfl, hb, c0, c1, hV⟩ := AtomS_at.elem HL.out k hlt
      obtain ⟨P', c', rfl, hp1, hp2, _⟩ := id hV
      unfold maxLen at hp2
      have HV := Lib.hid (show IntsAt w w.heap.size (.slice P' ts[k].vals.length c') ts[k].vals from hV)
      have K0 := Lib.hid c0
      have K1 := Lib.hid c1
      have HN := Lib.hid (varPos_take l ts x k hlt)
      have hwr := (hw k hlt).1
      have hl1 := varPos_len l (ts.take k) x
      have hl2 := avalsLen_take ts k hlt
      have hl3 := avalsLen_le ts (k + 1)
      have hlb : (varPos l (ts.take k) x).length + ts[k].vals.length ≤ 1048576 := by unfold AtomS_sz at hs; omega
      clear hV c0 c1 hl1 hl2 hl3
      generalize ts[k] = a at *
      generalize varPos l (ts.take k) x = S at *
      go_wp2
      go_loopw [7, 9] (fun o i wq => ∃ m : Nat, m ≤ a.vals.length ∧ i = .int .i64 (m : Int) ∧ Hid (OwnInts w.heap.size o (S ++ atPosTo l a x m) wq) ∧ Hid (Below w.heap.size w wq)) (fun _ i _ => a.vals.length - (intOf i).toNat)
      case atStart => exact ⟨0, by omega, rfl, Lib.hid (by rw [atPosTo_zero, List.append_nil]; exact HO.out), HW⟩
      case round =>
        obtain ⟨m, hm, rfl, HO2, HW2⟩ := hrel
        have hz2 := HW2.out.size
        have c1 := (HW2.out.cell (p := ⟨b, off + k * 2 + 1, none⟩) hb).trans K1.out
        have c0 := (HW2.out.cell (p := ⟨b, off + k * 2, none⟩) hb).trans K0.out
        by_cases hlm : m < a.vals.length
        · obtain ⟨b', off', rfl, hb', d0⟩ := IntsAt.elem HV.out m hlm
          replace d0 := (HW2.out.cell (p := ⟨b', off' + m, none⟩) hb').trans d0
          have hlen := atPosTo_len l a x m
          by_cases hp : a.vals[m] = x
          · have HA := Lib.hid (atPosTo_yes l a x m hlm hp)
            have hq : (a.vals[m] == x) = true := by rw [hp]; exact beq_self_eq_true x
            have hpi := specPositionIndex_any v l a.rel (m : Int) wr ((HR.out.below HW2.out (Nat.le_refl _)).more hz2) hwr (by omega)
            have hsl : (S ++ atPosTo l a x m).length < 1048577 := by rw [List.length_append]; omega
            clear hp
            generalize posIx l a.rel (m : Int) = z at *
            generalize a.vals[m] = y at *
            generalize atPosTo l a x m = T at *
            go_wp2_with fail
            refine hpi.mono ?_
            rintro e w1 ⟨rfl, hb1⟩
            have HO3 := Lib.hid (HO2.out.below hb1 (Nat.le_refl _))
            have hz3 := hb1.size
            clear c0 c1 d0 hpi
            go_wp2_with (at_builtin; refine ints_app1 HO3.out rfl _ _ rfl rfl z _ _ rfl rfl hsl (by omega) ?_; intro v5 w5 hO5 hB5 hG5)
            go_roundw
            case rel => exact ⟨m + 1, by omega, by go_num, Lib.hid (by rw [HA.out, ← List.append_assoc]; exact hO5), Lib.hid ((HW2.out.trans (hb1.mono hz2)).trans hB5)⟩
            case measure => simp [intOf]; omega
          · have HA := Lib.hid (atPosTo_no l a x m hlm hp)
            have hq : (a.vals[m] == x) = false := beq_eq_false_iff_ne.2 hp
            clear hp
            generalize a.vals[m] = y at *
            go_wp2
            go_roundw
            case rel => exact ⟨m + 1, by omega, by go_num, Lib.hid (by rw [HA.out]; exact HO2.out), HW2⟩
            case measure => simp [intOf]; omega
        · obtain rfl : m = a.vals.length := by omega
          go_wp2
          go_roundw
          case rel => exact ⟨k + 1, by omega, by go_num, Lib.hid (by rw [HN.out]; exact HO2.out), HW2⟩
          case measure => simp [intOf]; omega
    · obtain rfl : k = ts.length := by omega
      have he : varPos l (ts.take ts.length) x = varPos l ts x := by rw [List.take_of_length_le (Nat.le_refl _)]
      have HF := Lib.hid (show OwnInts w.heap.size _ (varPos l ts x) wr by rw [← he]; exact HO.out)
      clear he HO
      go_wp2
      go_ret
      exact ⟨_, rfl, HF.out, HW.out⟩

set_option maxHeartbeats 800000 in
theorem specHas_any (v : Value) (l : List Int) (x : Int) (w : World) (hl : IntS_at w w.heap.size v l) :
    Calls Tryd.prog 55 #[v, .int .i64 x] w fun e w' => e = .returned (.bool (decide (x ∈ l))) ∧ w = w' := by
  have HL := Lib.hid hl
  obtain ⟨A, c, rfl, hlc, hcm, -⟩ := hl
  unfold maxLen at hcm
  go_enter Tryd.func55, Tryd.ntmps55
  go_wp2
  go_loop [5] (fun i => ∃ k : Nat, k ≤ l.length ∧ i = .int .i64 k ∧ Hid (x ∉ l.take k)) (fun i => l.length - (intOf i).toNat)
  case atStart => exact ⟨0, by omega, rfl, Lib.hid (by simp)⟩
  case round =>
    obtain ⟨k, hk, rfl, HT⟩ := hrel
    by_cases hlt : k < l.length
    · obtain ⟨b, off, rfl, hb, c0⟩ := IntsAt.elem HL.out k hlt
      by_cases he : l[k] = x
      · have HV := Lib.hid (decide_eq_true (show x ∈ l by rw [← he]; exact List.getElem_mem hlt))
        have hb2 : (l[k] == x) = true := by rw [he]; exact beq_self_eq_true x
        clear he
        go_wp2
        go_ret
        exact ⟨ret_bool HV.out.symm, rfl⟩
      · have HN := Lib.hid (show x ∉ l.take (k + 1) by
          rw [List.take_succ_eq_append_getElem hlt, List.mem_append, List.mem_singleton]
          exact fun h => h.elim HT.out (fun e => he e.symm))
        have hb2 : (l[k] == x) = false := beq_eq_false_iff_ne.2 he
        clear he
        go_wp2
        go_round
        case rel => exact ⟨k + 1, by omega, by go_num, HN⟩
        case measure => simp [intOf]; omega
    · obtain rfl : k = l.length := by omega
      have HV := Lib.hid (decide_eq_false (show x ∉ l by have := HT.out; rwa [List.take_of_length_le (Nat.le_refl _)] at this))
      go_wp2
      go_ret
      exact ⟨ret_bool HV.out.symm, rfl⟩
theorem specHas_at (v : Value) (l : List Int) (x : Int) (bb : Bool) (hq : decide (x ∈ l) = bb) (w : World) (hl : IntS_at w w.heap.size v l) :
    Calls Tryd.prog 55 #[v, .int .i64 x] w fun e w' => e = .returned (.bool bb) ∧ w = w' := by
  subst hq; exact specHas_any v l x w hl

end Go.Proofs.YtakflmaeclneiaaDoor
