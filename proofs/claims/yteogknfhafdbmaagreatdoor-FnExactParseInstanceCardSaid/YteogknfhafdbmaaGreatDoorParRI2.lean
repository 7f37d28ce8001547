/-
  Walks and plain lemmas for the laws of this seat: what single Go functions return, for every argument.
-/
import Derived.Test.YteogknfhafdbmaaGreatDoorBase
import Derived.Test.YteogknfhafdbmaaGreatDoorRels
import Derived.Test.YteogknfhafdbmaaGreatDoorParR
import Derived.Test.YteogknfhafdbmaaGreatDoorAft
import Derived.Test.YteogknfhafdbmaaGreatDoorParRI
import Derived.Test.YteogknfhafdbmaaGreatDoorFactVI
namespace Go.Proofs.YteogknfhafdbmaaGreatDoor
open Go.RowKit

theorem own_mono {w : World} {B B' k n : Nat} {e : TypeId} {v : Value} {xs : List Value} (h : w.ownsRow B e k v n xs) (hB : B' ≤ B) : w.ownsRow B' e k v n xs := by
  obtain ⟨h1, h2⟩ := h
  refine ⟨h1, ?_⟩
  rcases h2 with h2 | ⟨g, cap, cur, h3, h4, h5⟩
  · exact .inl h2
  · exact .inr ⟨g, cap, cur, h3, Nat.le_trans hB h4, h5⟩
theorem implAreValid_is (l : List Rel) (b : Bool) (h : validRels l = b) (v : Value) (w : World) (hl : RelsAt w w.heap.size v l) :
    Calls Tryz.prog 61 #[v] w fun e w' => e = .returned (.bool b) ∧ Below w.heap.size w w' := by
  subst h; exact implAreValidRelations_any v l w hl
theorem implTok_call_some (t : ByteArray) (r : Rel) (h : implTok t.data.toList = some r) (w : World) (hs : t.size ≤ 1048576) (ht : Tab w) (hv : ErrVars w) :
    Calls Tryz.prog 60 #[.string t] w fun e w' => e = .returned (.tuple #[.agg #[.string r.name, .int .i64 r.arity, .bool r.source], .bool true]) ∧ Below w.heap.size w w' := by
  have := implParseRelation_any t w hs ht hv
  rw [h] at this; exact this
theorem implTok_call_none (t : ByteArray) (h : implTok t.data.toList = none) (w : World) (hs : t.size ≤ 1048576) (ht : Tab w) (hv : ErrVars w) :
    Calls Tryz.prog 60 #[.string t] w fun e w' => e = .returned (.tuple #[.agg #[.string ⟨#[]⟩, .int .i64 0, .bool false], .bool false]) ∧ Below w.heap.size w w' := by
  have := implParseRelation_any t w hs ht hv
  rw [h] at this; exact this
theorem implRels_stop (s : List UInt8) (P : List (List UInt8)) (hP : P = cutN 32 (min 7 (s.length + 1) - 1) s) (k : Nat) (hk : k < P.length) (h : implTok P[k] = none) : implRels s = none := by
  have e : P = P.take k ++ P[k] :: P.drop (k + 1) := by rw [← List.drop_eq_getElem_cons hk, List.take_append_drop]
  unfold implRels
  rw [← hP, e, toks_none implTok _ _ _ h]
theorem implRels_end (s : List UInt8) (P : List (List UInt8)) (hP : P = cutN 32 (min 7 (s.length + 1) - 1) s) (l : List Rel) (h : toks implTok P = some l) : implRels s = if validRels l then some l else none := by
  unfold implRels
  rw [← hP, h]
set_option maxRecDepth 100000 in
set_option maxHeartbeats 3200000 in
theorem implParseRelations_any (s : ByteArray) (w : World) (hs : s.size ≤ 1048576) (ht : Tab w) (hv : ErrVars w) (hm : MaxL w) :
    Calls Tryz.prog 38 #[.string s] w (GivesParse s w) := by
  by_cases h0 : s.data.toList = []
  · have HP := Lib.hid (show parsePair s.data.toList = ([], true) from if_pos h0)
    obtain rfl : s = ⟨#[]⟩ := bytes_ext h0
    clear h0
    go_enter Tryz.func38, Tryz.ntmps38
    go_wp2
    go_ret2
    exact ⟨_, by rw [HP.out]; rfl, by rw [HP.out]; exact OwnRels.nil _ _, Below.refl _ _⟩
  · have hse : (s.toList == []) = false := by rw [ByteArray.toList_eq, beq_eq_false_iff_ne]; exact h0
    have H0 := Lib.hid h0
    have HE := Lib.hid (implRels_eq _ h0)
    clear h0
    have hmk := fun w c hc => make_relsRoom w c hc
    go_enter Tryz.func38, Tryz.ntmps38
    go_wp2_with fail
    refine (splitN_any s _ hs hm).mono ?_
    rintro e w1 ⟨vP, L, rfl, hL, hP, hb1⟩
    have hz1 := hb1.size
    have hLl : L.length ≤ 7 := by
      have h1 := cutN_len 32 (min 7 (s.size + 1) - 1) s.data.toList
      rw [← hL, dataOf_len] at h1
      omega
    have HPT := Lib.hid hP
    obtain ⟨A, c, rfl, hc1, hc2, -⟩ := hP
    unfold maxLen at hc2
    have HL := Lib.hid hL
    have hmk1 := fun w => hmk w L.length (by omega)
    clear hL hmk
    go_wp2
    clear hmk1
    go_loopw [5, 19] (fun o i wr => ∃ k : Nat, ∃ l : List Rel, k ≤ L.length ∧ i = .int .i64 k ∧ Hid (l.length = k) ∧ Hid (toks implTok ((dataOf L).take k) = some l) ∧ OwnRels w1.heap.size o l wr ∧ Below w1.heap.size w1 wr) (fun _ i _ => L.length - (intOf i).toNat)
    case atStart => exact ⟨0, [], by omega, rfl, Lib.hid rfl, Lib.hid rfl, OwnRels.room w1 _ (by omega) _ (Nat.le_refl _), (Below.refl _ _).alloc (Nat.le_refl _) _⟩
    case round =>
      obtain ⟨k, l, hk, rfl, hlk, HT, hO, hW⟩ := hrel
      have hz := hW.size
      have hWw := hb1.trans (hW.mono hz1)
      have hl1 : l.length < 1048577 := by have := hlk.out; omega
      by_cases hlt : k < L.length
      · obtain ⟨b, off, rfl, hb, hc⟩ := StrsAt.elem (HPT.out.below hW (Nat.le_refl _)) k hlt
        have hkd : k < (dataOf L).length := by rw [dataOf_len]; exact hlt
        have HK := Lib.hid (dataOf_at L k hlt)
        have hts : L[k].size ≤ 1048576 := by
          have h1 := cutN_piece 32 (min 7 (s.size + 1) - 1) s.data.toList (L[k].data.toList) (by rw [← HL.out, ← HK.out]; exact List.getElem_mem _)
          simp at h1; omega
        generalize L[k] = t at hc HK hts
        cases hr : implTok t.data.toList with
        | none =>
          have hcon := implTok_call_none t hr wr hts (ht.below hWw) (hv.below hWw)
          have HV := Lib.hid (parsePair_none H0.out (HE.out.symm.trans (implRels_stop s.data.toList (dataOf L) (by rw [HL.out]; simp) k hkd (by rw [HK.out]; exact hr))))
          clear hr
          go_wp2_with (go_at_call 60; refine hcon.mono ?_; rintro e w2 ⟨rfl, hb2⟩)
          go_ret2
          exact ⟨_, by rw [HV.out]; rfl, by rw [HV.out]; exact OwnRels.nil _ _, (hWw.trans (hb2.mono (by omega))).alloc (by have := hb2.size; omega) _⟩
        | some r =>
          have hcon := implTok_call_some t r hr wr hts (ht.below hWw) (hv.below hWw)
          have HN := Lib.hid (toks_next implTok _ k hkd l r HT.out (by rw [HK.out]; exact hr))
          clear hr
          go_wp2_with fail
          refine hcon.mono ?_
          rintro e w2 ⟨rfl, hb2⟩
          have hz2 := hb2.size
          have hO2 := hO.below hb2 (Nat.le_refl _)
          have hW2 := hW.trans (hb2.mono hz)
          go_wp2_with (at_builtin; refine rels_app1 (hO2.below ((Below.refl w2.heap.size w2).alloc (Nat.le_refl _) _) (Nat.le_refl _)) rfl _ _ rfl rfl _ _ _ _ _ rfl (by simp) hl1 (by simp; omega) ?_; intro v' w3 hO3 hW3 _)
          go_roundw
          case rel => exact ⟨k + 1, _, by omega, by go_num, Lib.hid (by simp [hlk.out]), HN, hO3, (hW2.alloc (by omega) _).trans hW3⟩
          case measure => simp [intOf]; omega
      · have hE := implRels_end s.data.toList (dataOf L) (by rw [HL.out]; simp) l (by have := HT.out; rwa [List.take_of_length_le (by rw [dataOf_len]; omega)] at this)
        cases hvv : validRels l with
        | true =>
          rw [hvv] at hE
          have HV := Lib.hid (parsePair_some H0.out (HE.out.symm.trans hE))
          have hcon := implAreValid_is l true hvv _ _ hO.at_
          clear hE hvv
          go_wp2_with fail
          ((with_reducible refine hcon.mono ?_); rintro e w2 ⟨rfl, hb2⟩)
          go_wp2
          go_ret2
          exact ⟨_, by rw [HV.out]; rfl, by rw [HV.out]; exact own_mono (hO.below hb2 (Nat.le_refl _)) hz1, hWw.trans (hb2.mono (by omega))⟩
        | false =>
          rw [hvv] at hE
          have HV := Lib.hid (parsePair_none H0.out (HE.out.symm.trans hE))
          have hcon := implAreValid_is l false hvv _ _ hO.at_
          clear hE hvv
          go_wp2_with fail
          ((with_reducible refine hcon.mono ?_); rintro e w2 ⟨rfl, hb2⟩)
          go_wp2
          go_ret2
          exact ⟨_, by rw [HV.out]; rfl, by rw [HV.out]; exact OwnRels.nil _ _, hWw.trans (hb2.mono (by omega))⟩

end Go.Proofs.YteogknfhafdbmaaGreatDoor
