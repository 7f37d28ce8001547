/-
  Walks and plain lemmas for the laws of this seat: what single Go functions return, for every argument.
-/
import Derived.Test.YtobdijcnfmgidaaInts
import Derived.Test.YtobdijcnfmgidaaDrawR
import Derived.Test.YtobdijcnfmgidaaPlan
import Derived.Test.YtobdijcnfmgidaaAft
import Derived.Test.YtobdijcnfmgidaaTyInst
import Derived.Test.YtobdijcnfmgidaaTyAtom
import Derived.Test.YtobdijcnfmgidaaMatM
import Derived.Test.YtobdijcnfmgidaaParInI
namespace Go.Proofs.Ytobdijcnfmgidaa
open Go.RowKit

def GivesWalk (x : Inst) (l : List Atm) (n : Nat) (b : List Int) (w : World) (e : Ending) (w' : World) : Prop :=
  ∃ V Vs, e = .returned V ∧ (∃ g, V.ownBlock = some g) ∧ IntSSO w.heap.size w'.heap.size V Vs (walkM x.facts (l.drop n) b) w' ∧ Below w.heap.size w w'
def WalkInv (x : Inst) (a : Atm) (r : List Atm) (b : List Int) (Z : Nat) (E : World) (o i : Value) (wr : World) : Prop :=
  ∃ (k : Nat) (Vs : List Value), k ≤ x.facts.length ∧ i = .int .i64 k ∧ Hid (∃ g, o.ownBlock = some g) ∧ Hid (IntSSO Z wr.heap.size o Vs ((x.facts.take k).flatMap (walkF x.facts a r b)) wr) ∧ Hid (Below Z E wr)
theorem WalkInv.mk' {x : Inst} {a : Atm} {r : List Atm} {b : List Int} {Z : Nat} {E : World} {o i : Value} {wr : World} (k : Nat) (Vs : List Value) (h1 : k ≤ x.facts.length) (h2 : i = .int .i64 k) (h3 : ∃ g, o.ownBlock = some g) (h4 : IntSSO Z wr.heap.size o Vs ((x.facts.take k).flatMap (walkF x.facts a r b)) wr) (h5 : Below Z E wr) : WalkInv x a r b Z E o i wr :=
  ⟨k, Vs, h1, h2, Lib.hid h3, Lib.hid h4, Lib.hid h5⟩
set_option maxHeartbeats 6400000 in
set_option maxRecDepth 100000 in
theorem specL11Walk_any (v u : Value) (x : Inst) (l : List Atm) (hxw : Instance_wf x) (hfn : x.facts.length ≤ 30) (hlw : AtomS_wf l) (hl3 : l.length ≤ 3) (hin : ∀ (i : Nat) (h : i < l.length) (k : Nat) (hk : k < l[i].vals.length), l[i].vals[k] < 5) (m : Nat) :
    ∀ (n : Nat) (bv : Value) (b : List Int) (w : World), n + m = l.length → Instance_at w w.heap.size v x → AtomS_at w w.heap.size u l → IntsAt w w.heap.size bv b → b.length = 5 → Calls Try.prog 57 #[v, u, .int .i64 (n : Nat), bv] w (GivesWalk x l n b w) := by
  induction m with
  | zero =>
    intro n bv b w hnm hx hl hb hb5
    obtain ⟨P, c, Q, d, rfl⟩ := Instance_form hx
    obtain ⟨R, q, rfl, hq1, hq2⟩ := hl.form
    have HB := Lib.hid hb
    obtain ⟨S, t, rfl, ht1, ht2, -, hA⟩ := hb
    have HSN := Lib.hid (show S = none → t = 0 from hA)
    unfold maxLen at hq2 ht2
    clear hA hx hl
    obtain rfl : n = l.length := by omega
    clear hnm
    obtain ⟨E, hEq⟩ : ∃ E, E = w.alloc (.cells #[.slice P x.rels.length c, .slice Q x.facts.length d] 27) := ⟨_, rfl⟩
    have hE : Below w.heap.size w E := by rw [hEq]; exact below_more (Below.refl _ _) _
    have hF : Below E.heap.size E (E.alloc (.cells #[] 3)) := (Below.refl _ _).alloc (Nat.le_refl _) _
    have hEF := hE.trans (hF.mono hE.size)
    have HLE := Lib.hid (show IntsAt (E.alloc (.cells #[] 3)) w.heap.size (.slice S b.length t) b from SliceAt.below HB.out hEF (Nat.le_refl _))
    have HOE := Lib.hid (OwnInts.empty E E.heap.size (Nat.le_refl _))
    have HB5 := Lib.hid hb5
    have HM := Lib.hid (show walkM x.facts (l.drop l.length) b = [b] by rw [List.drop_length]; rfl)
    clear hb5
    go_enter Try.func57, Try.ntmps57
    have hle := HLE.out
    have hoe := HOE.out
    rw [hEq] at hle hoe
    go_wp2_with (at_builtin; refine ints_apps (r := b) hoe rfl _ _ rfl (by simp [go_sem]) S b.length t rfl rfl hle HSN.out (by have := HB5.out; simp; omega) (by simp) ?_; intro v1 w1 hO1 hW1 _ _; rw [List.nil_append] at hO1; obtain ⟨P2, c2, rfl, hl2, hm2, -⟩ := id hO1.at_)
    rw [← hEq] at hO1 hW1
    have hb1 : Below w.heap.size w w1 := hE.trans ((hF.trans hW1).mono hE.size)
    refine bodyPost_ret (v := .slice (some ⟨w1.heap.size, 0, none⟩) 1 1) (by simp [results, Try.results57, go_sem]) rfl ⟨_, [.slice P2 b.length c2], rfl, ⟨_, rfl⟩, ?_, hb1.alloc hb1.size _⟩
    rw [HM.out]
    refine ⟨rfl, ?_, fun g hg => ?_, fun i h1 h2 => ?_, List.pairwise_singleton _ _⟩
    · exact World.ownsRow_lit w1 #[.slice P2 b.length c2] 1 hb1.size (by decide) rfl
    · have : g = w1.heap.size := by simpa [Value.ownBlock] using hg.symm
      subst this; simp
    · obtain rfl : i = 0 := by simp at h1; omega
      have h3 := hO1.below ((Below.refl w1.heap.size w1).alloc (Nat.le_refl _) (.cells #[.slice P2 b.length c2] 30)) (Nat.le_refl _)
      exact (IntsO.of h3).mono hE.size (Nat.le_refl _)
  | succ m ih =>
    intro n bv b w hnm hx hl hb hb5
    have hlt : n < l.length := by omega
    have HX := Lib.hid hx
    have HL := Lib.hid hl
    have HB := Lib.hid hb
    obtain ⟨P, c, Q, d, rfl⟩ := Instance_form hx
    have HF := Lib.hid (show FactS_at w w.heap.size (.slice Q x.facts.length d) x.facts by
      obtain ⟨V1, V2, hv, hR, hF⟩ := hx
      simp only [Value.agg.injEq, Array.mk.injEq, List.cons.injEq, and_true] at hv
      obtain ⟨rfl, rfl⟩ := hv
      exact hF)
    obtain ⟨_, _, hv2, hd1, hd2⟩ := HF.out.form
    injection hv2 with e1 _ e2
    subst e1 e2
    obtain ⟨R, q, rfl, hq1, hq2⟩ := hl.form
    unfold maxLen at hq2 hd2
    obtain ⟨b0, off0, AV, rfl, hb0, c0, c1, hAV⟩ := AtomS_at.elem hl n hlt
    have HAV := Lib.hid hAV
    have HC0 := Lib.hid c0
    have HC1 := Lib.hid c1
    have hAw := hlw n hlt
    have hAi := hin n hlt
    have HD := Lib.hid (show l.drop n = l[n] :: l.drop (n + 1) from List.drop_eq_getElem_cons hlt)
    have hrl : (l.drop (n + 1)).length ≤ 2 := by rw [List.length_drop]; omega
    obtain ⟨a, ha⟩ : ∃ a, a = l[n] := ⟨_, rfl⟩
    obtain ⟨r, hr⟩ : ∃ r, r = l.drop (n + 1) := ⟨_, rfl⟩
    rw [← ha] at hAw hAi
    rw [← hr] at hrl
    rw [← ha, ← hr] at HD
    rw [← ha] at HC0 HAV
    have ih2 := fun bv b w => ih (n + 1) bv b w (by omega)
    unfold GivesWalk at ih2
    rw [← hr] at ih2
    have HIH := Lib.hid ih2
    obtain ⟨BV, BT, rfl, hbt1, hbt2, -, -⟩ := hb
    have hb0l := hb0
    clear ih ih2 hx hl c0 c1 hAV ha hr
    have dn : ((n : Int) == (l.length : Int)) = false := by rw [beq_eq_false_iff_ne]; omega
    obtain ⟨E, hEq⟩ : ∃ E, E = w.alloc (.cells #[.slice P x.rels.length c, .slice Q x.facts.length d] 27) := ⟨_, rfl⟩
    have hE : Below w.heap.size w E := by rw [hEq]; exact below_more (Below.refl _ _) _
    have HEz := Lib.hid (show E.heap.size = w.heap.size + 1 by rw [hEq]; simp)
    have X0 := Lib.hid (show E.cell? ⟨w.heap.size, 0, none⟩ = some (.slice P x.rels.length c) by rw [hEq]; simp [go_sem])
    have X1 := Lib.hid (show E.cell? ⟨w.heap.size, 1, none⟩ = some (.slice Q x.facts.length d) by rw [hEq]; simp [go_sem])
    have hF : Below E.heap.size E (E.alloc (.cells #[] 30)) := (Below.refl _ _).alloc (Nat.le_refl _) _
    have HO0 := Lib.hid (show IntSSO E.heap.size (E.alloc (.cells #[] 30)).heap.size (.slice (some ⟨E.heap.size, 0, none⟩) 0 0) [] [] (E.alloc (.cells #[] 30)) from ⟨rfl, World.ownsRow_lit E #[] 0 (Nat.le_refl _) (by decide) rfl, (fun g hg => by obtain rfl : g = E.heap.size := (by simpa [Value.ownBlock] using hg.symm); simp), (fun i h => absurd h (by simp)), List.Pairwise.nil⟩)
    have HF0 := Lib.hid hF
    have hEz2 : (w.alloc (.cells #[.slice P x.rels.length c, .slice Q x.facts.length d] 27)).heap.size = E.heap.size := by rw [hEq]
    clear hF
    have HB5 := Lib.hid hb5
    have HNM := Lib.hid hnm
    clear hb5 hnm
    go_enter Try.func57, Try.ntmps57
    go_upto_region 4 with fail
    rw [← hEq]
    clear hEq hEz2
    go_wp2
    go_loopw [9, 10, 11, 12] (fun o i _ _ wr => WalkInv x a r b E.heap.size E o i wr) (fun _ i _ _ _ => x.facts.length - (intOf i).toNat)
    case atStart => exact WalkInv.mk' 0 [] (by omega) rfl ⟨_, rfl⟩ HO0.out HF0.out
    case round =>
      obtain ⟨k, Vs, hk, rfl, HG, HS, HW⟩ := hrel
      obtain ⟨go, hgo⟩ := HG.out
      obtain ⟨co, rfl, -⟩ := own_some HS.out.row hgo
      clear hgo
      obtain ⟨L, hL⟩ : ∃ L, L = (x.facts.take k).flatMap (walkF x.facts a r b) := ⟨_, rfl⟩
      have HLn := Lib.hid (show L.length ≤ 27000 by rw [hL]; exact walkT_len x.facts hfn a r hrl b k)
      rw [← hL] at HS
      have HLL := Lib.hid hL
      clear hL
      have HWw := Lib.hid (hE.trans (HW.out.mono hE.size))
      have hzw : w.heap.size < wr.heap.size := by have h1 := HW.out.size; rw [HEz.out] at h1; omega
      have x0 := (HW.out.cell (p := ⟨w.heap.size, 0, none⟩) (by show w.heap.size < _; rw [HEz.out]; omega)).trans X0.out
      have x1 := (HW.out.cell (p := ⟨w.heap.size, 1, none⟩) (by show w.heap.size < _; rw [HEz.out]; omega)).trans X1.out
      have hez : E.heap.size ≤ wr.heap.size := HW.out.size
      by_cases hlk : k < x.facts.length
      · obtain ⟨b1, off1, FV, rfl, hb1, d0, d1, hFV⟩ := FactS_at.elem HF.out k hlk
        have HNx := Lib.hid (walkT_next x.facts a r b k hlk)
        have hfw := hxw.2 k hlk
        obtain ⟨f, hf⟩ : ∃ f, f = x.facts[k] := ⟨_, rfl⟩
        rw [← hf] at d0 hFV hfw HNx
        clear hf
        obtain ⟨AA, ac, rfl, -⟩ := id HAV.out
        obtain ⟨FA, fc, rfl, -⟩ := id hFV
        have HFV := Lib.hid hFV
        have G0 := Aft.cell (B := wr.heap.size) (Nat.lt_of_lt_of_le hb0 HWw.out.size) ((HWw.out.cell (p := ⟨b0, off0 + n * 2, none⟩) hb0).trans HC0.out)
        have G1 := Aft.cell (B := wr.heap.size) (Nat.lt_of_lt_of_le hb0 HWw.out.size) ((HWw.out.cell (p := ⟨b0, off0 + n * 2 + 1, none⟩) hb0).trans HC1.out)
        have G2 := Aft.cell (B := wr.heap.size) (Nat.lt_of_lt_of_le hb1 HWw.out.size) ((HWw.out.cell (p := ⟨b1, off1 + k * 2, none⟩) hb1).trans d0)
        have G3 := Aft.cell (B := wr.heap.size) (Nat.lt_of_lt_of_le hb1 HWw.out.size) ((HWw.out.cell (p := ⟨b1, off1 + k * 2 + 1, none⟩) hb1).trans d1)
        have G4 := Aft.cell (B := wr.heap.size) hzw x1
        have hWd : Below w.heap.size w wr.drew := HWw.out.drew
        have hcon := specL11Fit_any (.agg #[.int .i64 a.rel, .slice AA a.vals.length ac]) a (.agg #[.int .i64 f.rel, .slice FA f.vals.length fc]) f (.slice BV b.length BT) b wr.drew ⟨_, rfl, (HAV.out.below hWd (Nat.le_refl _)).more hWd.size⟩ hAw ⟨_, rfl, (HFV.out.below hWd (Nat.le_refl _)).more hWd.size⟩ hfw ((HB.out.below hWd (Nat.le_refl _)).more hWd.size) (by have := HB5.out; omega) (fun k hk => by have h1 := HB5.out; have h2 := hAi k hk; omega)
        obtain ⟨ok, hok⟩ : ∃ ok, ok = (fitA a f b).2 := ⟨_, rfl⟩
        obtain ⟨bn, hbn⟩ : ∃ bn, bn = (fitA a f b).1 := ⟨_, rfl⟩
        have HBN := Lib.hid (show bn.length = 5 by rw [hbn, fitA_len]; exact HB5.out)
        have HSTEP := Lib.hid (show walkF x.facts a r b f = if ok = true then walkM x.facts r bn else [] by rw [hok, hbn]; rfl)
        rw [← hok, ← hbn] at hcon
        have HCON := Lib.hid hcon
        clear hok hbn hcon d0 d1 hFV
        go_wp2
        refine wp_region_planL (C := fun w' => ∃ u : Aft wr.heap.size wr, w' = u.now) (.still 0 (.still 1 (.still 2 (.still 3 (.still 4 (.still 5 (.still 6 (.still 7 (.still 8 (.still 9 (.move true 10 (.still 11 (.still 12 (.still 13 (.still 14 (.still 15 .done))))) .none))))))))))) (by kernel_rfl) (by kernel_rfl) (by kernel_rfl) (fun _ => ⟨⟨wr.drew, (Below.refl _ _).drew⟩, rfl⟩) ?_
        iterate 10
          refine plan_look _ rfl rfl ?_
          go_big_quiet_step (fail)
          refine wpQuiet_nil ?_
        refine plan_call _ 100 _ _ _ _ _ rfl _ Try.func100 (by kernel_rfl) (by kernel_rfl) ?_ True.intro
        refine HCON.out.mono ?_
        rintro _ w2 ⟨V', rfl, hO', hb2⟩
        have hb2' : Below wr.heap.size wr w2 := (show Below wr.heap.size wr wr.drew from (Below.refl _ _).drew).trans hb2
        refine ⟨_, rfl, fun _ => ⟨⟨w2, hb2'⟩, rfl⟩, ?_⟩
        refine plan_put ?_ (by simp only [Act.put, List.setIfInBounds_toArray, List.set_cons_succ, List.set_cons_zero]; rfl)
        iterate 5
          refine plan_look _ rfl rfl ?_
          go_big_quiet_step (fail)
          refine wpQuiet_nil ?_
        refine plan_done ?_
        have hwW2 : Below w.heap.size w w2 := HWw.out.trans (hb2'.mono HWw.out.size)
        have HS2 := Lib.hid (HS.out.below hb2' (Nat.le_refl _))
        have HW2 := Lib.hid (show Below E.heap.size E w2 from HW.out.trans (hb2'.mono hez))
        have hz2 := hb2'.size
        have y0 := (hb2'.cell (p := ⟨w.heap.size, 0, none⟩) hzw).trans x0
        have y1 := (hb2'.cell (p := ⟨w.heap.size, 1, none⟩) hzw).trans x1
        have HO2 := Lib.hid hO'
        clear x0 x1 hO' hb2 hb2'
        cases ok with
        | false =>
          have HN2 := Lib.hid (show (x.facts.take (k + 1)).flatMap (walkF x.facts a r b) = L by rw [HNx.out, HSTEP.out, ← HLL.out]; simp)
          go_wp2
          go_roundw
          case rel => exact WalkInv.mk' (k + 1) Vs (by omega) (by go_num) ⟨_, rfl⟩ (by rw [HN2.out]; exact HS2.out.mono (Nat.le_refl _) hz2) HW2.out
          case measure => simp [intOf]; omega
        | true =>
          have HN2 := Lib.hid (show (x.facts.take (k + 1)).flatMap (walkF x.facts a r b) = L ++ walkM x.facts r bn by rw [HNx.out, HSTEP.out, ← HLL.out]; rfl)
          have HMl := Lib.hid (walkM_900 x.facts hfn r hrl bn)
          have hrec := HIH.out V' bn w2 ((HX.out.below hwW2 (Nat.le_refl _)).more hwW2.size) ((HL.out.below hwW2 (Nat.le_refl _)).more hwW2.size) HO2.out.at_ HBN.out
          rw [show ((n + 1 : Nat) : Int) = (n : Int) + 1 from by omega] at hrec
          go_wp2_with fail
          refine hrec.mono ?_
          rintro e w3 ⟨U, Us, rfl, hUg, hUS, hb3⟩
          have HS3 := Lib.hid ((HS2.out.below hb3 hz2).mono (Nat.le_refl _) hz2)
          have HW3 := Lib.hid (HW2.out.trans (hb3.mono HW2.out.size))
          have HUS := Lib.hid hUS
          have HUG := Lib.hid hUg
          have hz3 := hb3.size
          clear hrec hUS hUg hb3
          go_wp2_with (at_builtin; refine ss_apps HS3.out rfl _ _ rfl rfl rfl HUS.out HUG.out ⟨_, rfl⟩ (by omega) hz3 (Nat.le_refl _) (by have h1 := HLn.out; have h2 := HMl.out; omega) ?_; intro v5 w5 hO5 hg5 hB5)
          go_roundw
          case rel => exact WalkInv.mk' (k + 1) (Vs ++ Us) (by omega) (by go_num) hg5 (by rw [HN2.out]; exact hO5) (HW3.out.trans hB5)
          case measure => simp [intOf]; omega
      · obtain rfl : k = x.facts.length := by omega
        have HM := Lib.hid (show walkM x.facts (l.drop n) b = L by rw [HLL.out, HD.out, List.take_of_length_le (Nat.le_refl _)]; rfl)
        go_wp2
        refine bodyPost_ret (v := .slice (some ⟨go, 0, none⟩) Vs.length co) (by simp [results, Try.results57, go_sem]) rfl ⟨_, Vs, rfl, ⟨_, rfl⟩, ?_, HWw.out⟩
        rw [HM.out]
        exact HS.out.mono hE.size (Nat.le_refl _)

set_option maxHeartbeats 800000 in
theorem specIsValidRelation_any (s : ByteArray) (a : Int) (b : Bool) (w : World) :
    Calls Try.prog 88 #[.agg #[.string s, .int .i64 a, .bool b]] w fun e w' => e = .returned (.bool (relOk s a)) ∧ Below w.heap.size w w' := by
  by_cases h1 : s.size = 1
  · have h0 : 0 < s.size := by omega
    have HN := Lib.hid (nameOk_one s h1)
    by_cases h2 : (97 : Int) ≤ ((s[0].toNat : Nat) : Int)
    · by_cases h3 : ((s[0].toNat : Nat) : Int) ≤ 122
      · have hr : Hid (relOk s a = inB a 1 3) := Lib.hid (by unfold relOk; rw [HN.out]; simp [h2, h3])
        go_enter Try.func88, Try.ntmps88
        go_wp2_with (go_at_call 87; refine (l1In_any _ _ _ _).mono ?_; rintro e w' ⟨rfl, rfl⟩)
        go_ret
        refine ⟨?_, (Below.refl _ _).alloc (Nat.le_refl _) _⟩
        rw [hr.out]; rfl
      · have hr : Hid (relOk s a = false) := Lib.hid (by unfold relOk; rw [HN.out]; simp [h2, h3])
        go_enter Try.func88, Try.ntmps88
        go_wp2
        go_ret
        refine ⟨?_, (Below.refl _ _).alloc (Nat.le_refl _) _⟩
        rw [hr.out]; rfl
    · have hr : Hid (relOk s a = false) := Lib.hid (by unfold relOk; rw [HN.out]; simp [h2])
      go_enter Try.func88, Try.ntmps88
      go_wp2
      go_ret
      refine ⟨?_, (Below.refl _ _).alloc (Nat.le_refl _) _⟩
      rw [hr.out]; rfl
  · have hr : Hid (relOk s a = false) := Lib.hid (by unfold relOk; rw [nameOk_ne s h1]; rfl)
    go_enter Try.func88, Try.ntmps88
    go_wp2
    go_ret
    refine ⟨?_, (Below.refl _ _).alloc (Nat.le_refl _) _⟩
    rw [hr.out]; rfl

set_option maxHeartbeats 400000 in
theorem isRelationName_any (s : ByteArray) (w : World) :
    Calls Try.prog 145 #[.string s] w fun e w' => e = .returned (.bool (nameOk s)) ∧ w = w' := by
  by_cases h1 : s.size = 1
  · have hN := nameOk_one s h1
    generalize nameOk s = N at hN
    have h0 : 0 < s.size := by omega
    by_cases h2 : (97 : Int) ≤ ((s[0].toNat : Nat) : Int)
    all_goals
      have HN := Lib.hid hN
      clear hN
      go_enter Try.func145, Try.ntmps145
      go_wp2
      go_ret
      rw [HN.out]
      first | rfl | (simp [*]; done) | (simp; omega)
  · rw [nameOk_ne s h1]
    go_enter Try.func145, Try.ntmps145
    go_wp2
    go_ret
    exact ⟨rfl, rfl⟩

set_option maxHeartbeats 400000 in
theorem implIsValidRelation_any (s : ByteArray) (a : Int) (b : Bool) (w : World) :
    Calls Try.prog 115 #[.agg #[.string s, .int .i64 a, .bool b]] w fun e w' => e = .returned (.bool (relOk s a)) ∧ Below w.heap.size w w' := by
  unfold relOk inB
  cases hn : nameOk s
  · go_enter Try.func115, Try.ntmps115
    go_wp2_with (go_at_call 145; refine (isRelationName_any _ _).mono ?_; rintro e w' ⟨rfl, rfl⟩)
    go_ret
    exact ⟨rfl, (Below.refl _ _).alloc (Nat.le_refl _) _⟩
  · by_cases h1 : 1 ≤ a
    all_goals
      go_enter Try.func115, Try.ntmps115
      go_wp2_with (go_at_call 145; refine (isRelationName_any _ _).mono ?_; rintro e w' ⟨rfl, rfl⟩)
      go_ret
      refine ⟨?_, (Below.refl _ _).alloc (Nat.le_refl _) _⟩
      first | rfl | (simp [*]; done) | (simp; omega) | trace_state

end Go.Proofs.Ytobdijcnfmgidaa
