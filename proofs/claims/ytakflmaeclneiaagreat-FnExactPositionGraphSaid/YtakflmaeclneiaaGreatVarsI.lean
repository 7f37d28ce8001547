/-
  Walks and plain lemmas for the laws of this seat: what single Go functions return, for every argument.
-/
import Derived.Test.YtakflmaeclneiaaGreatShelf
import Derived.Lib.OwnBridge
import Derived.Test.YtakflmaeclneiaaGreatBase
import Derived.Test.YtakflmaeclneiaaGreatInts
import Derived.Test.YtakflmaeclneiaaGreatVarsM
import Derived.Test.YtakflmaeclneiaaGreatAtomV
import Derived.Test.YtakflmaeclneiaaGreatSrtI
import Derived.Test.YtakflmaeclneiaaGreatRelOfI
namespace Go.Proofs.YtakflmaeclneiaaGreat
open Go.RowKit Go.Sort

set_option maxHeartbeats 3200000 in
set_option maxRecDepth 100000 in
theorem implVariables_any (v : Value) (l : List Atm) (w : World) (h : AtomS_at w w.heap.size v l) (hs : AtomS_sz l ≤ 1048576) :
    Calls Tryz.prog 67 #[v] w fun e w' => ∃ u, e = .returned u ∧ OwnInts w.heap.size u (varsOf l) w' ∧ Below w.heap.size w w' := by
  obtain ⟨P, c, rfl, hc1, hc2⟩ := h.form
  unfold maxLen at hc2
  have HL := Lib.hid h
  have HCS := Lib.hid (compact_vars l)
  clear h
  go_enter Tryz.func67, Tryz.ntmps67
  go_wp2
  go_loopw [3, 10] (fun o i wr => ∃ k : Nat, k ≤ l.length ∧ i = .int .i64 k ∧ OwnInts w.heap.size o (vposOf (l.take k)) wr ∧ Below w.heap.size w wr) (fun _ i _ => l.length - (intOf i).toNat)
  case atStart => exact ⟨0, by omega, rfl, by simpa [vposOf] using OwnInts.nil w w.heap.size, Below.refl _ _⟩
  case round =>
    obtain ⟨k, hk, rfl, hO, hW⟩ := hrel
    have hz := hW.size
    by_cases hlt : k < l.length
    · obtain ⟨b, off, V, rfl, hb, c0, c1, hV⟩ := AtomS_at.elem HL.out k hlt
      obtain ⟨P', c', rfl, hp1, hp2, _⟩ := id hV
      unfold maxLen at hp2
      have HV := Lib.hid (show IntsAt w w.heap.size (.slice P' l[k].vals.length c') l[k].vals from hV)
      replace c0 := (hW.cell (p := ⟨b, off + k * 2, none⟩) hb).trans c0
      replace c1 := (hW.cell (p := ⟨b, off + k * 2 + 1, none⟩) hb).trans c1
      have HN := Lib.hid (vposOf_take l k hlt)
      have HO := Lib.hid hO
      have hl1 := vposOf_len (l.take k)
      have hl2 := avalsLen_take l k hlt
      have hl3 := avalsLen_le l (k + 1)
      have hlb : (vposOf (l.take k)).length + l[k].vals.length ≤ 1048576 := by unfold AtomS_sz at hs; omega
      clear hV hO hl1 hl2 hl3
      generalize l[k].vals = L at *
      generalize l[k].rel = R at *
      generalize hS : vposOf (l.take k) = S at *
      have hB1 : Below wr.heap.size wr (wr.alloc (.cells #[.int .i64 R, .slice P' L.length c'] 72)) := below_more (Below.refl _ _) _
      have HB1 := Lib.hid hB1
      clear hB1
      go_wp2
      clear c0 c1
      go_loopw [3, 17] (fun o i wq => ∃ m : Nat, m ≤ L.length ∧ i = .int .i64 m ∧ OwnInts w.heap.size o (S ++ posOf (L.take m)) wq ∧ Below w.heap.size w wq) (fun _ i _ => L.length - (intOf i).toNat)
      case atStart => exact ⟨0, by omega, rfl, by simpa [posOf] using HO.out.below HB1.out (Nat.le_refl _), hW.trans (HB1.out.mono hz)⟩
      case round =>
        obtain ⟨m, hm, rfl, hO2, hW2⟩ := hrel
        have hz2 := hW2.size
        by_cases hlm : m < L.length
        · obtain ⟨b', off', rfl, hb', d0⟩ := IntsAt.elem HV.out m hlm
          replace d0 := (hW2.cell (p := ⟨b', off' + m, none⟩) hb').trans d0
          have HP := Lib.hid (posOf_take L m hlm)
          have hal : (posOf (L.take m)).length ≤ m := by have := posOf_len (L.take m); rw [List.length_take] at this; omega
          have hvar := implIsVariable_any L[m]
          by_cases hp : 0 ≤ L[m]
          · have HA := Lib.hid (show S ++ posOf (L.take (m + 1)) = (S ++ posOf (L.take m)) ++ [L[m]] by rw [HP.out, if_pos hp, List.append_assoc])
            have hd : decide (0 ≤ L[m]) = true := decide_eq_true hp
            rw [hd] at hvar
            have hlen : (S ++ posOf (L.take m)).length < 1048577 := by rw [List.length_append]; omega
            clear hal hd hp
            go_wp2_with (first | (go_at_call 79; refine (hvar _).mono ?_; rintro e w3 ⟨rfl, rfl⟩) | (at_builtin; refine ints_app1 hO2 rfl _ _ rfl rfl _ _ _ rfl rfl hlen (by omega) ?_; intro v5 w5 hO5 hB5 hG5))
            go_roundw
            case rel => exact ⟨m + 1, by omega, by go_num, by rw [HA.out]; exact hO5, hW2.trans hB5⟩
            case measure => simp [intOf]; omega
          · have HA := Lib.hid (show S ++ posOf (L.take (m + 1)) = S ++ posOf (L.take m) by rw [HP.out, if_neg hp, List.append_nil])
            have hd : decide (0 ≤ L[m]) = false := decide_eq_false hp
            rw [hd] at hvar
            clear hal hd hp
            go_wp2_with (go_at_call 79; refine (hvar _).mono ?_; rintro e w3 ⟨rfl, rfl⟩)
            go_roundw
            case rel => exact ⟨m + 1, by omega, by go_num, by rw [HA.out]; exact hO2, hW2⟩
            case measure => simp [intOf]; omega
        · obtain rfl : m = L.length := by omega
          rw [List.take_of_length_le (Nat.le_refl _), ← HN.out] at hO2
          go_wp2
          go_roundw
          case rel => exact ⟨k + 1, by omega, by go_num, hO2, hW2⟩
          case measure => simp [intOf]; omega
    · obtain rfl : k = l.length := by omega
      rw [List.take_of_length_le (Nat.le_refl _)] at hO
      have hlv := vposOf_len l
      have hlb : (vposOf l).length ≤ 1048576 := by unfold AtomS_sz at hs; omega
      have hs' := sortInts_any _ _ _ wr hO hz hlb
      clear hO
      go_wp2_with fail
      refine hs'.mono ?_
      rintro e w2 ⟨rfl, hO2, hb2⟩
      have hc := compactInts_any _ _ _ w2 hO2 (by rw [List.length_mergeSort]; exact hlb)
      rw [HCS.out] at hc
      clear hO2 hs'
      go_wp2_with fail
      refine hc.mono ?_
      rintro e w3 ⟨u, rfl, hO3, hb3⟩
      go_wp2
      go_ret
      exact ⟨_, rfl, hO3, (hW.trans hb2).trans hb3⟩
theorem implVariables_c (v : Value) (x : List Atm) (w : World) (h : AtomS_at w w.heap.size v x) (_ : AtomS_wf x) (hs : AtomS_sz x ≤ 1048576) :
    Calls Tryz.prog 67 #[v] w fun e w' => ∃ u, e = .returned u ∧ IntS_own w.heap.size w'.heap.size u (Variables_r0 x) w' ∧ IntS_sz (Variables_r0 x) ≤ 1048576 ∧ Below w.heap.size w w' := by
  have hl := varsOf_len x
  exact (implVariables_any v x w h hs).mono fun _ w' ⟨u, he, ho, hb⟩ => ⟨u, he, IntsO.of ho, by unfold IntS_sz Variables_r0; unfold AtomS_sz at hs; omega, hb⟩

end Go.Proofs.YtakflmaeclneiaaGreat
