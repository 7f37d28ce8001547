/-
  Walks and plain lemmas for the laws of this seat: what single Go functions return, for every argument.
-/
import Derived.Test.YtmecdjincmkofaaGreatDoorBase
import Derived.Test.YtmecdjincmkofaaGreatDoorRels
import Derived.Test.YtmecdjincmkofaaGreatDoorFmtRS
import Derived.Test.YtmecdjincmkofaaGreatDoorCut
import Derived.Test.YtmecdjincmkofaaGreatDoorFmtInst
import Derived.Test.YtmecdjincmkofaaGreatDoorRelsI
import Derived.Test.YtmecdjincmkofaaGreatDoorParFS
namespace Go.Proofs.YtmecdjincmkofaaGreatDoor
open Go.RowKit

/-- a piece read as a fact; what is none reads as the fact that is all zero -/
def pfact (l : List Rel) (t : List UInt8) : Fct := ParseFact_r0 l ⟨t.toArray⟩
theorem pfact_fmt (l : List Rel) (f : Fct) (h : factOk l f.rel f.vals = true) : pfact l (fmtFact l f.rel f.vals) = f := by
  have := (parseFact_iff l (fmtFact l f.rel f.vals) f.rel f.vals).2 ⟨h, rfl⟩
  exact (parseFact_yes (s := ⟨(fmtFact l f.rel f.vals).toArray⟩) this).1
def factsOf (l : List Rel) (b : List UInt8) : List Fct := if b = [] then [] else (cutA 32 b).map (pfact l)
def parseInst (s : List UInt8) : Option Inst := match cutA 59 s with
  | [a, b] => if fmtInst ⟨(parsePair a).1, factsOf (parsePair a).1 b⟩ = s then some ⟨(parsePair a).1, factsOf (parsePair a).1 b⟩ else none
  | _ => none
theorem parsePair_fmt (l : List Rel) (h : validRels l = true) : (parsePair (fmtRels l)).1 = l := by
  by_cases h0 : fmtRels l = []
  · have : l = [] := by
      rw [fmtRels_yes l h] at h0
      cases l with
      | nil => rfl
      | cons r t =>
        unfold joinRels at h0
        rw [List.map_cons, Lib.join_cons] at h0
        have h1 := (List.append_eq_nil_iff.1 h0).1
        obtain ⟨c, hc, _, _, h3, h4⟩ := relOk_form r (validRels_mem _ h r (by simp))
        rw [fmtRel_form r c hc h3 h4] at h1
        simp at h1
    rw [h0, this]; rfl
  · rw [parsePair_some h0 ((parse_iff _ h0 l).2 ⟨h, rfl⟩)]
theorem joinFacts_nil {l : List Rel} {fs : List Fct} (h : ∀ f ∈ fs, factOk l f.rel f.vals = true) (h0 : joinFacts l fs = []) : fs = [] := by
  cases fs with
  | nil => rfl
  | cons f t =>
    unfold joinFacts at h0
    rw [List.map_cons, Lib.join_cons] at h0
    exact absurd (List.append_eq_nil_iff.1 h0).1 (fmtFact_ne.2 (h f (by simp)))
theorem factsOf_join {l : List Rel} {fs : List Fct} (h : ∀ f ∈ fs, factOk l f.rel f.vals = true) : factsOf l (joinFacts l fs) = fs := by
  unfold factsOf
  split
  · rename_i h0; exact (joinFacts_nil h h0).symm
  · rename_i h0
    have hne : fs ≠ [] := by rintro rfl; exact h0 rfl
    rw [facts_cut l fs hne, List.map_map]
    refine (List.map_congr_left (g := id) fun f hf => ?_).trans (List.map_id fs)
    exact pfact_fmt l f (h f hf)
theorem parseInst_iff (s : List UInt8) (x : Inst) : parseInst s = some x ↔ instOk x = true ∧ fmtInst x = s := by
  constructor
  · intro h
    unfold parseInst at h
    split at h
    · rename_i a b hc
      split at h
      · rename_i hf
        cases h
        refine ⟨?_, hf⟩
        cases hv : instOk ⟨(parsePair a).1, factsOf (parsePair a).1 b⟩ with
        | true => rfl
        | false =>
          rw [fmtInst_no hv] at hf
          rw [← hf] at hc
          simp [cutA] at hc
      · cases h
    · cases h
  · rintro ⟨ho, hf⟩
    have hv := (instOk_parts ho).2.1
    have e := fmtInst_yes ho
    rw [hf] at e
    have h1 : cutA 59 s = [fmtRels x.rels, joinFacts x.rels x.facts] := by rw [e]; exact inst_cut _ _ (fmtRels_semi _) (joinFacts_semi _ _)
    have h2 : (⟨(parsePair (fmtRels x.rels)).1, factsOf (parsePair (fmtRels x.rels)).1 (joinFacts x.rels x.facts)⟩ : Inst) = x := by
      rw [parsePair_fmt _ hv, factsOf_join (instOk_fact ho)]
    unfold parseInst
    rw [h1]
    simp only [h2, hf, if_true]

theorem tok_cases (t : ByteArray) : (∃ n a, t = ⟨#[43, n, a]⟩) ∨ (∃ n a, t = ⟨#[n, a]⟩ ∧ ¬ n = 43) ∨
    (specTok t.data.toList = none ∧ (t = ⟨#[]⟩ ∨ (∃ h : 0 < t.size, t[0] = 43 ∧ t.size ≠ 3) ∨ ∃ h : 0 < t.size, ¬ t[0] = 43 ∧ t.size ≠ 2)) := by
  obtain ⟨⟨l⟩⟩ := t
  match l with
  | [] => exact .inr (.inr ⟨rfl, .inl rfl⟩)
  | b :: r =>
    by_cases hb : b = 43
    · subst hb
      by_cases hr : r.length = 2
      · match r, hr with
        | [n, a], _ => exact .inl ⟨n, a, rfl⟩
      · refine .inr (.inr ⟨specTok_plus r hr, .inr (.inl ⟨Nat.succ_pos _, rfl, ?_⟩)⟩)
        show (43 :: r).length ≠ 3
        simp; exact hr
    · by_cases hr : r.length = 1
      · match r, hr with
        | [a], _ => exact .inr (.inl ⟨b, a, rfl, hb⟩)
      · refine .inr (.inr ⟨specTok_no _ (fun e => hb (by injection e)) (by simp; exact hr), .inr (.inr ⟨Nat.succ_pos _, hb, ?_⟩)⟩)
        show (b :: r).length ≠ 2
        simp; exact hr
theorem byte_is {b : UInt8} {n : Nat} (hn : n < 256) (h : ((b.toNat : Nat) : Int) = (n : Int)) : b = UInt8.ofNat n := by
  apply UInt8.toNat_inj.1
  rw [UInt8.toNat_ofNat', Nat.mod_eq_of_lt hn]; omega
set_option maxRecDepth 100000 in
set_option maxHeartbeats 3200000 in
theorem specParseRelations_any (s : ByteArray) (w : World) (hs : s.size ≤ 1048576) :
    Calls Tryz.prog 33 #[.string s] w (GivesParse s w) := by
  by_cases h0 : s.data.toList = []
  · have hP : parsePair s.data.toList = ([], true) := if_pos h0
    obtain rfl : s = ⟨#[]⟩ := bytes_ext h0
    have HP := Lib.hid hP
    clear hP h0
    go_enter Tryz.func33, Tryz.ntmps33
    go_wp2_with fail
    refine (specCut_any _ _ hs).mono ?_
    rintro e w1 ⟨vW, L, rfl, hL, hOL, hb1⟩
    have hLl : L.length = 1 := by have := congrArg List.length hL; simpa [dataOf, cutA] using this
    obtain ⟨A, c, rfl, hc1, hc2⟩ := hOL.form
    unfold maxLen at hc2
    have hlt : (0 : Int) < (L.length : Int) := by omega
    have hlt' : 0 < L.length := by omega
    have hO : OwnRels w.heap.size (.slice (some ⟨w.heap.size, 0, none⟩) 0 0) [] w1 := (OwnRels.empty w _ (Nat.le_refl _)).below hb1 (Nat.le_refl _)
    have hW : Below w.heap.size w w1 := ((Below.refl _ _).alloc (Nat.le_refl _) _).trans (hb1.mono (by simp))
    clear hb1 hOL hL hLl
    have hf : fmtRels [] = [] := rfl
    go_wp2
    go_loopw [4, 6] (fun o i wr => o = .slice (some ⟨w.heap.size, 0, none⟩) 0 0 ∧ i = .int .i64 0 ∧ OwnRels w.heap.size (.slice (some ⟨w.heap.size, 0, none⟩) 0 0) [] wr ∧ Below w.heap.size w wr) (fun _ _ _ => 0)
    case atStart => exact ⟨rfl, rfl, hO, hW⟩
    case round =>
      clear hO hW
      obtain ⟨rfl, rfl, hO, hW⟩ := hrel
      have hcon := specFormatRelations_any _ [] _ hO.at_
      rw [hf] at hcon
      clear hf
      go_wp2_with fail
      ((with_reducible refine hcon.mono ?_); rintro e w2 ⟨rfl, hb2⟩)
      go_wp2
      go_ret2
      exact ⟨_, by rw [HP.out]; rfl, by rw [HP.out]; exact hO.below hb2 (Nat.le_refl _), hW.trans (hb2.mono hW.size)⟩
  · have hse : (s.toList == []) = false := by rw [ByteArray.toList_eq, beq_eq_false_iff_ne]; exact h0
    have H0 := Lib.hid h0
    clear h0
    go_enter Tryz.func33, Tryz.ntmps33
    go_wp2_with fail
    refine (specCut_any _ _ hs).mono ?_
    rintro e w1 ⟨vW, L, rfl, hL, hOL, hb1⟩
    have hLl : L.length = (cutA 32 s.data.toList).length := by have := congrArg List.length hL; simpa [dataOf] using this
    have hLn : L.length ≤ 1048577 := by have := cutA_len 32 s.data.toList; simp at this; omega
    obtain ⟨A, c, rfl, hc1, hc2⟩ := hOL.form
    unfold maxLen at hc2
    have hO : OwnRels w.heap.size (.slice (some ⟨w.heap.size, 0, none⟩) 0 0) [] w1 := (OwnRels.empty w _ (Nat.le_refl _)).below hb1 (Nat.le_refl _)
    have hW : Below w.heap.size w w1 := ((Below.refl _ _).alloc (Nat.le_refl _) _).trans (hb1.mono (by simp))
    have HL := Lib.hid hL
    have HLl := Lib.hid hLl
    clear hb1 hL hLl
    go_wp2
    go_loopw [4, 6] (fun o i wr => ∃ k : Nat, ∃ l : List Rel, k ≤ L.length ∧ i = .int .i64 k ∧ Hid (l.length = k) ∧ Hid (toks specTok ((cutA 32 s.data.toList).take k) = some l) ∧ OwnRels w.heap.size o l wr ∧ OwnStrs (w.heap.size + 1) (.slice A L.length c) L wr ∧ Below w.heap.size w wr) (fun _ i _ => L.length - (intOf i).toNat)
    case atStart => exact ⟨0, [], by omega, rfl, Lib.hid rfl, Lib.hid rfl, hO, by simpa using hOL, hW⟩
    case round =>
      clear hO hW hOL
      obtain ⟨k, l, hk, rfl, hlk, HT, hO, hOL, hW⟩ := hrel
      have hz := hW.size
      by_cases hlt : k < L.length
      · have hl1 : l.length < 1048577 := by have := hlk.out; omega
        obtain ⟨b, off, rfl, hb, hc⟩ := StrsAt.elem hOL.at_ k hlt
        have hkc : k < (cutA 32 s.data.toList).length := by have := HLl.out; omega
        have HK : Hid (L[k].data.toList = (cutA 32 s.data.toList)[k]) := Lib.hid (by simp [← HL.out, dataOf])
        generalize L[k] = t at hc HK
        rcases tok_cases t with ⟨n, a, rfl⟩ | ⟨n, a, rfl, hn⟩ | ⟨hno, ht⟩
        · have HN := Lib.hid (toks_next specTok _ k hkc l _ HT.out (by rw [← HK.out]; exact specTok_three n a))
          have e1 : ByteArray.size ⟨#[43, n, a]⟩ = 3 := rfl
          have e2 : (⟨#[43, n, a]⟩ : ByteArray).extract 1 3 = ⟨#[n, a]⟩ := rfl
          have e3 : ByteArray.size ⟨#[n, a]⟩ = 2 := rfl
          have e4 : (⟨#[n, a]⟩ : ByteArray).extract 0 1 = ⟨#[n]⟩ := rfl
          have e5 : (⟨#[n, a]⟩ : ByteArray)[1] = a := rfl
          have e6 := a.toNat_lt
          go_wp2_with (at_builtin; refine rels_app1 (hO.below ((Below.refl wr.heap.size wr).alloc (Nat.le_refl _) _) (Nat.le_refl _)) rfl _ _ rfl rfl _ _ _ _ _ rfl (by simp) hl1 (by simp; omega) ?_; intro v' w2 hO2 hW2 hG2)
          have hkeep : OwnStrs (w.heap.size + 1) (.slice (some ⟨b, off, none⟩) L.length c) L w2 := by
            refine World.ownsRow.kept (own_below hOL ((Below.refl wr.heap.size wr).alloc (Nat.le_refl _) _) (Nat.le_refl _)) hG2 ?_
            exact own_ne hOL hO (by decide)
          go_roundw
          case rel => exact ⟨k + 1, _, by omega, by go_num, Lib.hid (by simp [hlk.out]), HN, hO2, hkeep, (hW.alloc hz _).trans hW2⟩
          case measure => simp [intOf]; omega
        · have HN := Lib.hid (toks_next specTok _ k hkc l _ HT.out (by rw [← HK.out]; exact specTok_two n a hn))
          have e3 : ByteArray.size ⟨#[n, a]⟩ = 2 := rfl
          have e4 : (⟨#[n, a]⟩ : ByteArray).extract 0 1 = ⟨#[n]⟩ := rfl
          have e5 : (⟨#[n, a]⟩ : ByteArray)[1] = a := rfl
          have e7 : (⟨#[n, a]⟩ : ByteArray)[0] = n := rfl
          have e6 := a.toNat_lt
          have e8 : (((n.toNat : Nat) : Int) == 43) = false := by
            rw [beq_eq_false_iff_ne]; intro e; exact hn (byte_is (n := 43) (by omega) e)
          clear hn
          go_wp2_with (at_builtin; refine rels_app1 (hO.below ((Below.refl wr.heap.size wr).alloc (Nat.le_refl _) _) (Nat.le_refl _)) rfl _ _ rfl rfl _ _ _ _ _ rfl (by simp) hl1 (by simp; omega) ?_; intro v' w2 hO2 hW2 hG2)
          have hkeep : OwnStrs (w.heap.size + 1) (.slice (some ⟨b, off, none⟩) L.length c) L w2 := by
            refine World.ownsRow.kept (own_below hOL ((Below.refl wr.heap.size wr).alloc (Nat.le_refl _) _) (Nat.le_refl _)) hG2 ?_
            exact own_ne hOL hO (by decide)
          go_roundw
          case rel => exact ⟨k + 1, _, by omega, by go_num, Lib.hid (by simp [hlk.out]), HN, hO2, hkeep, (hW.alloc hz _).trans hW2⟩
          case measure => simp [intOf]; omega
        · have HV := Lib.hid (parsePair_none H0.out (parse_stop _ k hkc (by rw [← HK.out]; exact hno)))
          clear hno
          rcases ht with rfl | ⟨h0, h1, h2⟩ | ⟨h0, h1, h2⟩
          · have e1 : ByteArray.size ⟨#[]⟩ = 0 := rfl
            go_wp2
            go_ret2
            exact ⟨_, by rw [HV.out]; rfl, by rw [HV.out]; exact OwnRels.empty_at _ _ _ _ rfl hz, (hW.alloc hz _).alloc (by simp; omega) _⟩
          · have hb : (((t[0].toNat : Nat) : Int) == 43) = true := by rw [h1]; rfl
            have hte := pos_ne t h0
            have hsz : (((t.size - 1 : Nat) : Int) != 2) = true := by rw [bne_iff_ne]; omega
            clear h1 h2
            go_wp2
            go_ret2
            exact ⟨_, by rw [HV.out]; rfl, by rw [HV.out]; exact OwnRels.empty_at _ _ _ _ rfl hz, (hW.alloc hz _).alloc (by simp; omega) _⟩
          · have hb : (((t[0].toNat : Nat) : Int) == 43) = false := by
              rw [beq_eq_false_iff_ne]; intro e; exact h1 (byte_is (n := 43) (by omega) e)
            have hte := pos_ne t h0
            have hsz : ((t.size : Int) != 2) = true := by rw [bne_iff_ne]; omega
            clear h1 h2
            go_wp2
            go_ret2
            exact ⟨_, by rw [HV.out]; rfl, by rw [HV.out]; exact OwnRels.empty_at _ _ _ _ rfl hz, (hW.alloc hz _).alloc (by simp; omega) _⟩
      · have hkL : k = L.length := by omega
        have HE := Lib.hid (show toks specTok (cutA 32 s.data.toList) = some l by
          have := HT.out
          rwa [List.take_of_length_le (by have := HLl.out; omega)] at this)
        have HP := Lib.hid (parse_end _ l HE.out)
        have hcon := specFormatRelations_any _ l _ hO.at_
        obtain ⟨F, hF⟩ : ∃ F : ByteArray, F = ⟨(fmtRels l).toArray⟩ := ⟨_, rfl⟩
        rw [← hF] at hcon
        by_cases hFs : F = s
        · have HV := Lib.hid (parsePair_some H0.out (HP.out.trans (if_pos (by rw [← hFs, hF]))))
          have he : (F.toList == s.toList) = true := by rw [hFs]; exact str_eq s
          clear hF hFs hkL
          go_wp2_with fail
          ((with_reducible refine hcon.mono ?_); rintro e w2 ⟨rfl, hb2⟩)
          go_wp2
          go_ret2
          exact ⟨_, by rw [HV.out]; rfl, by rw [HV.out]; exact hO.below hb2 (Nat.le_refl _), hW.trans (hb2.mono hz)⟩
        · have HV := Lib.hid (parsePair_none H0.out (HP.out.trans (if_neg (fun e => hFs (by rw [hF]; exact bytes_ext e)))))
          have he := str_ne hFs
          clear hF hFs hkL
          go_wp2_with fail
          ((with_reducible refine hcon.mono ?_); rintro e w2 ⟨rfl, hb2⟩)
          go_wp2
          go_ret2
          exact ⟨_, by rw [HV.out]; rfl, by rw [HV.out]; exact OwnRels.empty _ _ (by have := hb2.size; omega), (hW.trans (hb2.mono hz)).alloc (by have := hb2.size; omega) _⟩

end Go.Proofs.YtmecdjincmkofaaGreatDoor
