/-
  Walks and plain lemmas for the laws of this seat: what single Go functions return, for every argument.
-/
import Derived.Deep.Cut
import Derived.Deep.DeepCutAuto
import Derived.Test.YtmecdjincmkofaaGreatDoorDraw
import Derived.Test.YtmecdjincmkofaaGreatDoorLift
import Derived.Test.YtmecdjincmkofaaGreatDoorAft
import Derived.Test.YtmecdjincmkofaaGreatDoorFactV
import Derived.Test.YtmecdjincmkofaaGreatDoorFmtRS
import Derived.Test.YtmecdjincmkofaaGreatDoorCut
import Derived.Test.YtmecdjincmkofaaGreatDoorFmtF
import Derived.Test.YtmecdjincmkofaaGreatDoorParFS
import Derived.Test.YtmecdjincmkofaaGreatDoorParInst
import Derived.Test.YtmecdjincmkofaaGreatDoorFactI
import Derived.Test.YtmecdjincmkofaaGreatDoorFactVI
import Derived.Test.YtmecdjincmkofaaGreatDoorFmtFI
import Derived.Test.YtmecdjincmkofaaGreatDoorParFI
import Derived.Test.YtmecdjincmkofaaGreatDoorFmtRI
import Derived.Test.YtmecdjincmkofaaGreatDoorDrawX
namespace Go.Proofs.YtmecdjincmkofaaGreatDoor
open Go.RowKit

/-- what the law says of relations -/
theorem law_rels (l : List Rel) : (validRels l = true ∧ (parsePair (fmtRels l)).2 = true ∧ fmtRels (parsePair (fmtRels l)).1 = fmtRels l) ∨ (validRels l = false ∧ fmtRels l = []) := by
  cases hv : validRels l with
  | false => exact .inr ⟨rfl, fmtRels_no l hv⟩
  | true =>
    refine .inl ⟨rfl, ?_⟩
    by_cases h0 : fmtRels l = []
    · rw [h0]; exact ⟨rfl, rfl⟩
    · rw [parsePair_some h0 ((parse_iff _ h0 l).2 ⟨hv, rfl⟩)]; exact ⟨rfl, rfl⟩
theorem law_relStr (s : List UInt8) (h : (parsePair s).2 = true) : fmtRels (parsePair s).1 = s := by
  by_cases h0 : s = []
  · subst h0; rfl
  · cases hp : parseRels s with
    | none => rw [parsePair_none h0 hp] at h; cases h
    | some l => rw [parsePair_some h0 hp]; exact ((parse_iff s h0 l).1 hp).2
/-- .. of facts -/
theorem law_fact (l : List Rel) (r : Int) (vs : List Int) : (factOk l r vs = true ∧ parseFact l (fmtFact l r vs) = some (r, vs)) ∨ (factOk l r vs = false ∧ parseFact l (fmtFact l r vs) = none) := by
  cases hv : factOk l r vs with
  | true => exact .inl ⟨rfl, (parseFact_iff _ _ _ _).2 ⟨hv, rfl⟩⟩
  | false =>
    refine .inr ⟨rfl, ?_⟩
    rw [fmtFact_no hv]
    cases hp : parseFact l [] with
    | none => rfl
    | some u =>
      obtain ⟨r', vs'⟩ := u
      obtain ⟨h1, h2⟩ := (parseFact_iff _ _ _ _).1 hp
      exact absurd h2 (fmtFact_ne.2 h1)
theorem law_factStr {l : List Rel} {s : List UInt8} {r : Int} {vs : List Int} (h : parseFact l s = some (r, vs)) : fmtFact l r vs = s := ((parseFact_iff _ _ _ _).1 h).2
theorem law_factB (l : List Rel) (x : Fct) : (factOk l x.rel x.vals = true ∧ ParseFact_ok l ⟨(fmtFact l x.rel x.vals).toArray⟩ = true ∧ ParseFact_r0 l ⟨(fmtFact l x.rel x.vals).toArray⟩ = x) ∨ (factOk l x.rel x.vals = false ∧ ParseFact_ok l ⟨(fmtFact l x.rel x.vals).toArray⟩ = false) := by
  rcases law_fact l x.rel x.vals with ⟨h1, h2⟩ | ⟨h1, h2⟩
  · have := parseFact_yes (s := ⟨(fmtFact l x.rel x.vals).toArray⟩) h2
    exact .inl ⟨h1, this.2, this.1⟩
  · exact .inr ⟨h1, (parseFact_no (s := ⟨(fmtFact l x.rel x.vals).toArray⟩) h2).2⟩
theorem law_factStrB (l : List Rel) (s : ByteArray) : (ParseFact_ok l s = true ∧ (⟨(fmtFact l (ParseFact_r0 l s).rel (ParseFact_r0 l s).vals).toArray⟩ : ByteArray) = s) ∨ ParseFact_ok l s = false := by
  cases h : parseFact l s.data.toList with
  | none => exact .inr (parseFact_no h).2
  | some u =>
    obtain ⟨r, vs⟩ := u
    obtain ⟨h1, h2⟩ := parseFact_yes h
    refine .inl ⟨h2, ?_⟩
    rw [h1]
    refine ByteArray.ext (Array.ext' ?_)
    simpa using law_factStr h
theorem parseFact_wf (l : List Rel) (s : ByteArray) : IntsWf (ParseFact_r0 l s).vals := by
  cases h : parseFact l s.data.toList with
  | none => rw [(parseFact_no h).1]; exact fun i hi => absurd hi (by simp)
  | some u =>
    obtain ⟨r, vs⟩ := u
    rw [(parseFact_yes h).1]
    obtain ⟨_, _, _, _, _, _, hv⟩ := fact_form ((parseFact_iff _ _ _ _).1 h).1
    exact fun i hi => by have := hv vs[i] (List.getElem_mem hi); show _ ≤ vs[i] ∧ vs[i] ≤ _; omega

/-- a contract's world, told from one world on -/
theorem calls_from {P : Program} {f : FuncId} {args : Array Value} {w0 w' : World} {R : Value} (h : Calls P f args w' fun e w'' => e = .returned R ∧ Below w'.heap.size w' w'') (hb : Below w0.heap.size w0 w') :
    Calls P f args w' fun e w'' => e = .returned R ∧ Below w0.heap.size w0 w'' :=
  h.mono fun _ _ ⟨he, hb'⟩ => ⟨he, hb.trans (hb'.mono hb.size)⟩
theorem cmpFact_self (r : Int) (a : List Int) : cmpFact r a r a = 0 := by unfold cmpFact; rw [if_neg (by omega), if_neg (by omega), cmpInts_self]
set_option maxHeartbeats 3200000 in
set_option maxRecDepth 100000 in
theorem walkRF (q : Option Addr) (code : List UInt8) (c : Nat) (_ : code.length ≤ maxLen) (w : World) (hc : CodeAt w w.heap.size (.slice q code.length c) code) (ht : Tab w) (hv : ErrVars w) (hm : MaxL w) :
    Calls Tryz.prog 5 #[.slice q code.length c] w fun e w' => e = .returned (.bool true) ∧ Below w.heap.size w w' := by
  by_cases hbig : 1048576 < code.length
  · have hd : decide (1048576 < ((code.length : Nat) : Int)) = true := by simp; omega
    go_enter Tryz.func5, Tryz.ntmps5
    go_wp2_with fail
    refine (big_any q _ c _).mono ?_; rintro e w1 ⟨rfl, rfl⟩
    go_wp2_with fail
    go_ret
    exact ⟨rfl, Below.refl _ _⟩
  · have hlen : code.length ≤ 1048576 := by omega
    have hd : decide (1048576 < ((code.length : Nat) : Int)) = false := by simp; omega
    clear hbig
    go_enter Tryz.func5, Tryz.ntmps5
    go_wp2_with fail
    refine (big_any q _ c _).mono ?_; rintro e w1 ⟨rfl, rfl⟩
    go_wp2_with fail
    refine (drawRels2_c _ code _ hc hlen).mono ?_; rintro e w1 ⟨v, l, rfl, -, hR, hb1⟩
    have HR := Lib.hid hR
    obtain ⟨A1, c1, rfl, -, hcm1, -⟩ := hR
    unfold maxLen at hcm1
    have hz1 := hb1.size
    go_wp2_with fail
    refine (implFormatRelations_any _ l _ HR.out (ht.below hb1)).mono ?_; rintro e w2 ⟨rfl, hb2⟩
    have hz2 := hb2.size
    have hw2 := hb1.trans (hb2.mono hz1)
    have hF : ByteArray.size ⟨(fmtRels l).toArray⟩ ≤ 1048576 := by rw [size_mk]; have := fmtRels_len l; omega
    go_wp2_with fail
    refine (implParseRelations_any _ _ hF (ht.below hw2) (hv.below hw2) (hm.below hw2)).mono ?_; rintro e w3 ⟨va, rfl, hOa, hb3⟩
    have HA := Lib.hid hOa.at_
    obtain ⟨Aa, ca, rfl, -, hcma, -⟩ := hOa.at_
    unfold maxLen at hcma
    clear hOa
    have hz3 := hb3.size
    have hw3 := hw2.trans (hb3.mono hw2.size)
    go_wp2_with fail
    refine (drawRelStr_c _ code _ (hc.later hw3) hlen).mono ?_; rintro e w4 ⟨s, rfl, hs, hb4⟩
    have hz4 := hb4.size
    have hw4 := hw3.trans (hb4.mono hw3.size)
    go_wp2_with fail
    refine (implParseRelations_any s _ (by omega) (ht.below hw4) (hv.below hw4) (hm.below hw4)).mono ?_; rintro e w5 ⟨vb, rfl, hOb, hb5⟩
    have HB := Lib.hid hOb.at_
    obtain ⟨Ab, cb, rfl, -, hcmb, -⟩ := hOb.at_
    unfold maxLen at hcmb
    clear hOb
    have hz5 := hb5.size
    have hw5 := hw4.trans (hb5.mono hw4.size)
    go_wp2_with fail
    refine (specParseRelations_any s _ (by omega)).mono ?_; rintro e w6 ⟨vt, rfl, hOt, hb6⟩
    clear hOt
    have hz6 := hb6.size
    have hw6 := hw5.trans (hb6.mono hw5.size)
    have h16 := (((hb2.trans (hb3.mono hz2)).trans (hb4.mono (by omega))).trans (hb5.mono (by omega))).trans (hb6.mono (by omega))
    have h36 := ((hb4.trans (hb5.mono hz4)).trans (hb6.mono (by omega)))
    have hbz := Below.refl w6.heap.size w6
    have hAv := fun b h w' (hb : Below w6.heap.size w6 w') => calls_from (specAreValid_at2 l b h _ w' ((HR.out.below (h16.trans (hb.mono (by omega))) (Nat.le_refl _)).more (by have := hb.size; omega))) hb
    have hFl := fun w' (hb : Below w6.heap.size w6 w') => calls_from (implFormatRelations_any _ l w' ((HR.out.below (h16.trans (hb.mono (by omega))) (Nat.le_refl _)).more (by have := hb.size; omega)) (ht.below (hw6.trans (hb.mono hw6.size)))) hb
    have hFa := fun w' (hb : Below w6.heap.size w6 w') => calls_from (implFormatRelations_any _ _ w' ((HA.out.below (h36.trans (hb.mono (by omega))) (Nat.le_refl _)).more (by have := hb.size; omega)) (ht.below (hw6.trans (hb.mono hw6.size)))) hb
    have hFb := fun w' (hb : Below w6.heap.size w6 w') => calls_from (implFormatRelations_any _ _ w' ((HB.out.below (hb6.trans (hb.mono (by omega))) (Nat.le_refl _)).more (by have := hb.size; omega)) (ht.below (hw6.trans (hb.mono hw6.size)))) hb
    have hA1 := HR.out
    have HLR := Lib.hid (law_rels l)
    have HLS := Lib.hid (law_relStr s.data.toList)
    go_upto_region 8 with fail
    go_cut [4, 5, 7, 8, 9, 10, 84] from 21 (fun _ _ _ _ _ _ c wx => c = .bool false ∧ Below w6.heap.size w6 wx)
    case first =>
      have hst : ((parsePair s.data.toList).2 = true ∧ (fmtRels (parsePair s.data.toList).1 == s.toList) = true ∧ (fmtRels (parsePair s.data.toList).1 != s.toList) = false) ∨ (parsePair s.data.toList).2 = false := by
        cases h : (parsePair s.data.toList).2 with
        | false => exact .inr rfl
        | true =>
          have e := HLS.out h
          rw [ByteArray.toList_eq, e]
          exact .inl ⟨rfl, by simp, by simp⟩
      rcases HLR.out with ⟨v1, v2, v3⟩ | ⟨v1, v2⟩
      · rw [v3] at hFa
        replace hAv := hAv true v1
        clear v1 v3
        by_cases h0 : 0 < l.length
        all_goals
          rcases hst with ⟨t1, t2, t3⟩ | t1
        all_goals
          go_wp2_with (first | (go_at_call 34; refine (hAv _ hbz).mono ?_; rintro e wx ⟨rfl, hbz⟩) | (go_at_call 31; (first | (with_reducible refine (hFl _ hbz).mono ?_) | (with_reducible refine (hFa _ hbz).mono ?_) | (with_reducible refine (hFb _ hbz).mono ?_)); rintro e wx ⟨rfl, hbz⟩))
        all_goals
          go_meet
          case rel => exact ⟨rfl, hbz⟩
      · rw [v2] at hFl
        replace hAv := hAv false v1
        clear v1
        rcases hst with ⟨t1, t2, t3⟩ | t1
        all_goals
          go_wp2_with (first | (go_at_call 34; refine (hAv _ hbz).mono ?_; rintro e wx ⟨rfl, hbz⟩) | (go_at_call 31; (first | (with_reducible refine (hFl _ hbz).mono ?_) | (with_reducible refine (hFa _ hbz).mono ?_) | (with_reducible refine (hFb _ hbz).mono ?_)); rintro e wx ⟨rfl, hbz⟩))
        all_goals
          go_meet
          case rel => exact ⟨rfl, hbz⟩
    case rest =>
      obtain ⟨rfl, hbc⟩ := hcut
      have hcc := hw6.trans (hbc.mono hw6.size)
      have HRC := Lib.hid ((HR.out.below (h16.trans (hbc.mono (by omega))) (Nat.le_refl _)).more (h16.trans (hbc.mono (by omega))).size)
      clear hAv hFl hFa hFb HLR HLS HR HA HB hbz h16 h36 hA1
      have HCC := Lib.hid hcc
      clear hbc hw6 hw5 hw4 hw3 hw2 hb6 hb5 hb4 hb3 hb2 hb1 hz6 hz5 hz4 hz3 hz2 hz1
      go_wp2_with fail
      refine (drawFact2_c _ code _ (hc.later HCC.out) hlen).mono ?_; rintro e w8 ⟨vm, V, x, rfl, hOm, hOx, hx, hb8⟩
      have hw8 := HCC.out.trans (hb8.mono HCC.out.size)
      have HM := Lib.hid hOm.at_
      have HX := Lib.hid hOx.at_
      obtain ⟨Am, cm, rfl, hlm, hcmm, -⟩ := hOm.at_
      obtain ⟨Ax, cx, rfl, hlx, hcmx, -⟩ := hOx.at_
      unfold maxLen at hcmm hcmx
      clear hOm hOx
      have hwx : IntsWf x.vals := fun i hi => by have := hx.2.2 x.vals[i] (List.getElem_mem hi); omega
      have e9 : Below w8.heap.size w8 (w8.alloc (.cells #[.int .i64 x.rel, .slice Ax x.vals.length cx] 57)) := (Below.refl _ _).alloc (Nat.le_refl _) _
      have hw9 := hw8.trans (e9.mono hw8.size)
      go_wp2_with fail
      refine (implFormatFact_any (.slice Am sigs5.length cm) sigs5 x.rel (.slice Ax x.vals.length cx) x.vals _ ((HM.out.below e9 (Nat.le_refl _)).more e9.size) ((HX.out.below e9 (Nat.le_refl _)).more e9.size) hwx (ht.below hw9)).mono ?_; rintro e w10 ⟨rfl, hb10⟩
      have hw10 := hw9.trans (hb10.mono hw9.size)
      have h810 := e9.trans (hb10.mono e9.size)
      have hFx : ByteArray.size ⟨(fmtFact sigs5 x.rel x.vals).toArray⟩ ≤ 1048576 := by rw [size_mk]; have := fmtFact_len sigs5 x.rel x.vals hx.2.1; omega
      go_wp2_with fail
      refine (implParseFact_any (.slice Am sigs5.length cm) sigs5 _ _ ((HM.out.below h810 (Nat.le_refl _)).more h810.size) hFx (ht.below hw10) (hv.below hw10) (hm.below hw10)).mono ?_; rintro e w11 ⟨Vg, rfl, hOg, hb11⟩
      have HLX := Lib.hid (law_factB sigs5 x)
      generalize ParseFact_ok sigs5 ⟨(fmtFact sigs5 x.rel x.vals).toArray⟩ = three at *
      generalize ParseFact_r0 sigs5 ⟨(fmtFact sigs5 x.rel x.vals).toArray⟩ = g at *
      have hw11 := hw10.trans (hb11.mono hw10.size)
      have h811 := h810.trans (hb11.mono h810.size)
      have HG := Lib.hid hOg.at_
      obtain ⟨Ag, cg, rfl, hlg, hcmg, -⟩ := hOg.at_
      unfold maxLen at hcmg
      clear hOg
      have e12 : Below w11.heap.size w11 (w11.alloc (.cells #[.int .i64 g.rel, .slice Ag g.vals.length cg] 57)) := (Below.refl _ _).alloc (Nat.le_refl _) _
      have hw12 := hw11.trans (e12.mono hw11.size)
      have h812 := h811.trans (e12.mono h811.size)
      clear hFx
      go_wp2_with fail
      refine (drawFactStr_c _ code _ (hc.later hw12) hlen).mono ?_; rintro e w13 ⟨vn, t, rfl, hRn, hts, hb13⟩
      have hw13 := hw12.trans (hb13.mono hw12.size)
      have h813 := h812.trans (hb13.mono h812.size)
      have h1113 := e12.trans (hb13.mono e12.size)
      have HN := Lib.hid hRn
      obtain ⟨An, cn, rfl, hln, hcmn, -⟩ := hRn
      unfold maxLen at hcmn
      go_wp2_with fail
      refine (implParseFact_any (.slice An sigs5.length cn) sigs5 t _ HN.out (by omega) (ht.below hw13) (hv.below hw13) (hm.below hw13)).mono ?_; rintro e w14 ⟨Vh, rfl, hOh, hb14⟩
      have HLT := Lib.hid (law_factStrB sigs5 t)
      have hwh := parseFact_wf sigs5 t
      generalize hfour : ParseFact_ok sigs5 t = four at *
      generalize ParseFact_r0 sigs5 t = h at *
      have hw14 := hw13.trans (hb14.mono hw13.size)
      have h814 := h813.trans (hb14.mono h813.size)
      have h1114 := h1113.trans (hb14.mono h1113.size)
      have HH := Lib.hid hOh.at_
      obtain ⟨Ah, ch, rfl, hlh, hcmh, -⟩ := hOh.at_
      unfold maxLen at hcmh
      clear hOh
      have e15 : Below w14.heap.size w14 (w14.alloc (.cells #[.int .i64 h.rel, .slice Ah h.vals.length ch] 57)) := (Below.refl _ _).alloc (Nat.le_refl _) _
      have hw15 := hw14.trans (e15.mono hw14.size)
      have h815 := h814.trans (e15.mono h814.size)
      have h1115 := h1114.trans (e15.mono h1114.size)
      have h1315 := hb14.trans (e15.mono hb14.size)
      go_wp2_with fail
      refine (specParseFact_any (.slice An sigs5.length cn) sigs5 t _ ((HN.out.below h1315 (Nat.le_refl _)).more h1315.size) (by decide) (by omega)).mono ?_; rintro e w16 ⟨Vk, rfl, hOk, hb16⟩
      rw [hfour]
      clear hfour
      generalize ParseFact_r0 sigs5 t = k at *
      obtain ⟨Ak, ck, rfl, hlk, hcmk, -⟩ := hOk.at_
      unfold maxLen at hcmk
      clear hOk
      have e17 : Below w16.heap.size w16 (w16.alloc (.cells #[.int .i64 k.rel, .slice Ak k.vals.length ck] 57)) := (Below.refl _ _).alloc (Nat.le_refl _) _
      have hw16 := hw15.trans (hb16.mono hw15.size)
      have hw17 := hw16.trans (e17.mono hw16.size)
      have h1617 := hb16.trans (e17.mono hb16.size)
      have h817 := h815.trans (h1617.mono h815.size)
      have h1117 := h1115.trans (h1617.mono h1115.size)
      have h1317 := h1315.trans (h1617.mono h1315.size)
      have h1417 := e15.trans (h1617.mono e15.size)
      have z8 := hb8.size
      have z9 : w8.heap.size + 1 ≤ (w8.alloc (.cells #[.int .i64 x.rel, .slice Ax x.vals.length cx] 57)).heap.size := by simp
      have z10 := hb10.size
      have z11 := hb11.size
      have z12 : w11.heap.size + 1 ≤ (w11.alloc (.cells #[.int .i64 g.rel, .slice Ag g.vals.length cg] 57)).heap.size := by simp
      have z13 := hb13.size
      have z14 := hb14.size
      have z15 : w14.heap.size + 1 ≤ (w14.alloc (.cells #[.int .i64 h.rel, .slice Ah h.vals.length ch] 57)).heap.size := by simp
      have z16 := hb16.size
      have z17 : w16.heap.size + 1 ≤ (w16.alloc (.cells #[.int .i64 k.rel, .slice Ak k.vals.length ck] 57)).heap.size := by simp
      have b15 : Below (w14.alloc (.cells #[.int .i64 h.rel, .slice Ah h.vals.length ch] 57)).heap.size (w14.alloc (.cells #[.int .i64 h.rel, .slice Ah h.vals.length ch] 57)) (w16.alloc (.cells #[.int .i64 k.rel, .slice Ak k.vals.length ck] 57)) := h1617
      have b12 : Below (w11.alloc (.cells #[.int .i64 g.rel, .slice Ag g.vals.length cg] 57)).heap.size (w11.alloc (.cells #[.int .i64 g.rel, .slice Ag g.vals.length cg] 57)) (w16.alloc (.cells #[.int .i64 k.rel, .slice Ak k.vals.length ck] 57)) := ((hb13.trans (hb14.mono (by omega))).trans (e15.mono (by omega))).trans (h1617.mono (by omega))
      have b9 : Below (w8.alloc (.cells #[.int .i64 x.rel, .slice Ax x.vals.length cx] 57)).heap.size (w8.alloc (.cells #[.int .i64 x.rel, .slice Ax x.vals.length cx] 57)) (w16.alloc (.cells #[.int .i64 k.rel, .slice Ak k.vals.length ck] 57)) := ((hb10.trans (hb11.mono (by omega))).trans (e12.mono (by omega))).trans (b12.mono (by omega))
      have hWc := hb8.trans (h817.mono z8)
      have G00 := Aft.cell (B := (w16.alloc (.cells #[.int .i64 k.rel, .slice Ak k.vals.length ck] 57)).heap.size) (w := (w16.alloc (.cells #[.int .i64 k.rel, .slice Ak k.vals.length ck] 57))) (show w8.heap.size < _ by omega) ((b9.cell (p := ⟨w8.heap.size, 0, none⟩) z9).trans (show (w8.alloc (.cells #[.int .i64 x.rel, .slice Ax x.vals.length cx] 57)).cell? ⟨w8.heap.size, 0, none⟩ = some (.int .i64 x.rel) by simp [go_sem]))
      have G01 := Aft.cell (B := (w16.alloc (.cells #[.int .i64 k.rel, .slice Ak k.vals.length ck] 57)).heap.size) (w := (w16.alloc (.cells #[.int .i64 k.rel, .slice Ak k.vals.length ck] 57))) (show w8.heap.size < _ by omega) ((b9.cell (p := ⟨w8.heap.size, 1, none⟩) z9).trans (show (w8.alloc (.cells #[.int .i64 x.rel, .slice Ax x.vals.length cx] 57)).cell? ⟨w8.heap.size, 1, none⟩ = some (.slice Ax x.vals.length cx) by simp [go_sem]))
      have G10 := Aft.cell (B := (w16.alloc (.cells #[.int .i64 k.rel, .slice Ak k.vals.length ck] 57)).heap.size) (w := (w16.alloc (.cells #[.int .i64 k.rel, .slice Ak k.vals.length ck] 57))) (show w11.heap.size < _ by omega) ((b12.cell (p := ⟨w11.heap.size, 0, none⟩) z12).trans (show (w11.alloc (.cells #[.int .i64 g.rel, .slice Ag g.vals.length cg] 57)).cell? ⟨w11.heap.size, 0, none⟩ = some (.int .i64 g.rel) by simp [go_sem]))
      have G11 := Aft.cell (B := (w16.alloc (.cells #[.int .i64 k.rel, .slice Ak k.vals.length ck] 57)).heap.size) (w := (w16.alloc (.cells #[.int .i64 k.rel, .slice Ak k.vals.length ck] 57))) (show w11.heap.size < _ by omega) ((b12.cell (p := ⟨w11.heap.size, 1, none⟩) z12).trans (show (w11.alloc (.cells #[.int .i64 g.rel, .slice Ag g.vals.length cg] 57)).cell? ⟨w11.heap.size, 1, none⟩ = some (.slice Ag g.vals.length cg) by simp [go_sem]))
      have G20 := Aft.cell (B := (w16.alloc (.cells #[.int .i64 k.rel, .slice Ak k.vals.length ck] 57)).heap.size) (w := (w16.alloc (.cells #[.int .i64 k.rel, .slice Ak k.vals.length ck] 57))) (show w14.heap.size < _ by omega) ((b15.cell (p := ⟨w14.heap.size, 0, none⟩) z15).trans (show (w14.alloc (.cells #[.int .i64 h.rel, .slice Ah h.vals.length ch] 57)).cell? ⟨w14.heap.size, 0, none⟩ = some (.int .i64 h.rel) by simp [go_sem]))
      have G21 := Aft.cell (B := (w16.alloc (.cells #[.int .i64 k.rel, .slice Ak k.vals.length ck] 57)).heap.size) (w := (w16.alloc (.cells #[.int .i64 k.rel, .slice Ak k.vals.length ck] 57))) (show w14.heap.size < _ by omega) ((b15.cell (p := ⟨w14.heap.size, 1, none⟩) z15).trans (show (w14.alloc (.cells #[.int .i64 h.rel, .slice Ah h.vals.length ch] 57)).cell? ⟨w14.heap.size, 1, none⟩ = some (.slice Ah h.vals.length ch) by simp [go_sem]))
      have hSV := fun b hb (u : Aft (w16.alloc (.cells #[.int .i64 k.rel, .slice Ak k.vals.length ck] 57)).heap.size (w16.alloc (.cells #[.int .i64 k.rel, .slice Ak k.vals.length ck] 57))) => specIsValidFact_at (.slice Am sigs5.length cm) sigs5 x.rel (.slice Ax x.vals.length cx) x.vals b hb u.now (HM.out.aft h817 u) (by decide) (HX.out.aft h817 u) hwx
      have hIV := fun b hb (u : Aft (w16.alloc (.cells #[.int .i64 k.rel, .slice Ak k.vals.length ck] 57)).heap.size (w16.alloc (.cells #[.int .i64 k.rel, .slice Ak k.vals.length ck] 57))) => implIsValidFact_at (.slice Am sigs5.length cm) sigs5 x.rel (.slice Ax x.vals.length cx) x.vals b hb u.now (HM.out.aft h817 u) (HX.out.aft h817 u) hwx
      have hCF := fun (u : Aft (w16.alloc (.cells #[.int .i64 k.rel, .slice Ak k.vals.length ck] 57)).heap.size (w16.alloc (.cells #[.int .i64 k.rel, .slice Ak k.vals.length ck] 57))) => implCompareFacts_any g.rel x.rel (.slice Ag g.vals.length cg) (.slice Ax x.vals.length cx) g.vals x.vals u.now (HG.out.aft h1117 u) (HX.out.aft h817 u)
      have hFF := fun (u : Aft (w16.alloc (.cells #[.int .i64 k.rel, .slice Ak k.vals.length ck] 57)).heap.size (w16.alloc (.cells #[.int .i64 k.rel, .slice Ak k.vals.length ck] 57))) => implFormatFact_any (.slice An sigs5.length cn) sigs5 h.rel (.slice Ah h.vals.length ch) h.vals u.now (HN.out.aft h1317 u) (HH.out.aft h1417 u) hwh (ht.below (hw17.trans (u.is.mono hw17.size)))
      have hAI := fun (u : Aft (w16.alloc (.cells #[.int .i64 k.rel, .slice Ak k.vals.length ck] 57)).heap.size (w16.alloc (.cells #[.int .i64 k.rel, .slice Ak k.vals.length ck] 57))) => implAreValidRelations_any _ l u.now (HRC.out.aft hWc u)
      have hAS := fun (u : Aft (w16.alloc (.cells #[.int .i64 k.rel, .slice Ak k.vals.length ck] 57)).heap.size (w16.alloc (.cells #[.int .i64 k.rel, .slice Ak k.vals.length ck] 57))) => specAreValidRelations_any _ l u.now (HRC.out.aft hWc u)
      have hvv : (validRels l == validRels l) = true := by simp
      generalize validRels l = vl at *
      have HW := Lib.hid hw17
      have HLS5 := Lib.hid (rfl : sigs5 = sigs5)
      clear hw8 hw9 hw10 hw11 hw12 hw13 hw14 hw15 hw16 hw17 h810 h811 h812 h813 h814 h815 h817 h1113 h1114 h1115 h1117 h1315 h1317 h1417 h1617 b9 b12 b15 hWc z8 z9 z10 z11 z12 z13 z14 z15 z16 z17 e9 e12 e15 e17 hb8 hb10 hb11 hb13 hb14 hb16 hwh hwx HM HX HG HN HH HRC HCC hc ht hv hm
      rcases HLX.out with ⟨x1, rfl, rfl⟩ | ⟨x1, rfl⟩
      · replace hSV := hSV true x1
        replace hIV := hIV true x1
        rw [cmpFact_self] at hCF
        clear x1 HLX
        rcases HLT.out with ⟨rfl, t2⟩ | rfl
        · rw [t2] at hFF
          have ht2 := str_eq t
          clear t2 HLT
          go_wp2_with fail
          refine wp_region_aft (Below.refl (w16.alloc (.cells #[.int .i64 k.rel, .slice Ak k.vals.length ck] 57)).heap.size (w16.alloc (.cells #[.int .i64 k.rel, .slice Ak k.vals.length ck] 57))) (by kernel_rfl) (by kernel_rfl) ?_
          repeat (go_big_quiet_step (first | ((go_at_call 40; exact calls_aft (Nat.le_refl _) (hSV _))) | ((go_at_call 43; exact calls_aft (Nat.le_refl _) (hIV _))) | ((go_at_call 41; exact calls_aft (Nat.le_refl _) (hCF _))) | ((go_at_call 37; exact calls_aft (Nat.le_refl _) (hFF _))) | ((go_at_call 42; exact calls_aft (Nat.le_refl _) (hAI _))) | ((go_at_call 34; exact calls_aft (Nat.le_refl _) (hAS _)))))
          refine wpQuiet_nil ?_
          refine aft_end ?_
          intro wz hh
          go_wp2
          go_ret
          exact ⟨rfl, HW.out.trans (hh.mono HW.out.size)⟩
        · clear HLT hFF G20 G21
          go_wp2_with fail
          refine wp_region_aft (Below.refl (w16.alloc (.cells #[.int .i64 k.rel, .slice Ak k.vals.length ck] 57)).heap.size (w16.alloc (.cells #[.int .i64 k.rel, .slice Ak k.vals.length ck] 57))) (by kernel_rfl) (by kernel_rfl) ?_
          repeat (go_big_quiet_step (first | ((go_at_call 40; exact calls_aft (Nat.le_refl _) (hSV _))) | ((go_at_call 43; exact calls_aft (Nat.le_refl _) (hIV _))) | ((go_at_call 41; exact calls_aft (Nat.le_refl _) (hCF _))) | ((go_at_call 42; exact calls_aft (Nat.le_refl _) (hAI _))) | ((go_at_call 34; exact calls_aft (Nat.le_refl _) (hAS _)))))
          refine wpQuiet_nil ?_
          refine aft_end ?_
          intro wz hh
          go_wp2
          go_ret
          exact ⟨rfl, HW.out.trans (hh.mono HW.out.size)⟩
      · replace hSV := hSV false x1
        replace hIV := hIV false x1
        clear x1 HLX hCF G10 G11
        rcases HLT.out with ⟨rfl, t2⟩ | rfl
        · rw [t2] at hFF
          have ht2 := str_eq t
          clear t2 HLT
          go_wp2_with fail
          refine wp_region_aft (Below.refl (w16.alloc (.cells #[.int .i64 k.rel, .slice Ak k.vals.length ck] 57)).heap.size (w16.alloc (.cells #[.int .i64 k.rel, .slice Ak k.vals.length ck] 57))) (by kernel_rfl) (by kernel_rfl) ?_
          repeat (go_big_quiet_step (first | ((go_at_call 40; exact calls_aft (Nat.le_refl _) (hSV _))) | ((go_at_call 43; exact calls_aft (Nat.le_refl _) (hIV _))) | ((go_at_call 37; exact calls_aft (Nat.le_refl _) (hFF _))) | ((go_at_call 42; exact calls_aft (Nat.le_refl _) (hAI _))) | ((go_at_call 34; exact calls_aft (Nat.le_refl _) (hAS _)))))
          refine wpQuiet_nil ?_
          refine aft_end ?_
          intro wz hh
          go_wp2
          go_ret
          exact ⟨rfl, HW.out.trans (hh.mono HW.out.size)⟩
        · clear HLT hFF G20 G21
          go_wp2_with fail
          refine wp_region_aft (Below.refl (w16.alloc (.cells #[.int .i64 k.rel, .slice Ak k.vals.length ck] 57)).heap.size (w16.alloc (.cells #[.int .i64 k.rel, .slice Ak k.vals.length ck] 57))) (by kernel_rfl) (by kernel_rfl) ?_
          repeat (go_big_quiet_step (first | ((go_at_call 40; exact calls_aft (Nat.le_refl _) (hSV _))) | ((go_at_call 43; exact calls_aft (Nat.le_refl _) (hIV _))) | ((go_at_call 42; exact calls_aft (Nat.le_refl _) (hAI _))) | ((go_at_call 34; exact calls_aft (Nat.le_refl _) (hAS _)))))
          refine wpQuiet_nil ?_
          refine aft_end ?_
          intro wz hh
          go_wp2
          go_ret
          exact ⟨rfl, HW.out.trans (hh.mono HW.out.size)⟩

end Go.Proofs.YtmecdjincmkofaaGreatDoor
