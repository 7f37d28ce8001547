/-
  Walks and plain lemmas for the laws of this seat: what single Go functions return, for every argument.
-/
import Derived.Shelf.Abstract
import Derived.Test.YtobdijcnfmgidaaBase
import Derived.Test.YtobdijcnfmgidaaTyInst
import Derived.Test.YtobdijcnfmgidaaMInst
import Derived.Test.YtobdijcnfmgidaaFactVI
namespace Go.Proofs.Ytobdijcnfmgidaa
open Go.RowKit

set_option maxHeartbeats 800000 in
theorem implSameFacts_at (a b : Fct) (q : Bool) (hq : sameP b a = q) (v u : Value) (w : World) (h : Fact_at w w.heap.size v a) (h' : Fact_at w w.heap.size u b) :
    Calls Try.prog 92 #[v, u] w fun e w' => e = .returned (.bool q) ∧ Below w.heap.size w w' := by
  obtain ⟨P, c, rfl⟩ := Fact_form h
  obtain ⟨Q, d, rfl⟩ := Fact_form h'
  have hE : Below w.heap.size w ((w.alloc (.cells #[.int .i64 a.rel, .slice P a.vals.length c] 44)).alloc (.cells #[.int .i64 b.rel, .slice Q b.vals.length d] 44)) := below_more (below_more (Below.refl _ _) _) _
  obtain ⟨z, hz⟩ : ∃ z, cmpF a b = z := ⟨_, rfl⟩
  have hc := implCompareFacts_at a b z hz _ _ ((w.alloc (.cells #[.int .i64 a.rel, .slice P a.vals.length c] 44)).alloc (.cells #[.int .i64 b.rel, .slice Q b.vals.length d] 44)) ((h.below hE (Nat.le_refl _)).more hE.size) ((h'.below hE (Nat.le_refl _)).more hE.size)
  have HQ := Lib.hid (show (z == 0) = q by rw [← hq, ← cmpF_same, hz]; rfl)
  clear hq hz h h'
  go_enter Try.func92, Try.ntmps92
  go_wp2_with (go_at_call 79; refine hc.mono ?_; rintro e w1 ⟨rfl, hb1⟩)
  go_ret
  exact ⟨ret_bool HQ.out, hE.trans (hb1.mono hE.size)⟩
/-- a function value that tells of a fact among l whether p holds, wherever G holds; it only makes memory -/
def TellsF (g : Nat) (lb : Array Value) (G : World → Prop) (p : Fct → Bool) (l : List Fct) : Prop :=
  ∀ (W : World) (x : Fct) (V : Value), G W → x ∈ l → IntS_at W W.heap.size V x.vals → Calls Try.prog g (#[.agg #[.int .i64 x.rel, V]] ++ lb) W fun e w' => e = .returned (.bool (p x)) ∧ Below W.heap.size W w'
/-- a fact in a box, which a function value has captured; all of it below block D -/
def BoxF (b D : Nat) (f : Fct) (V : Value) (W : World) : Prop := b < D ∧ D ≤ W.heap.size ∧ W.cell? ⟨b, 0, none⟩ = some (.int .i64 f.rel) ∧ W.cell? ⟨b, 1, none⟩ = some V ∧ IntS_at W D V f.vals
theorem BoxF.below {b D D' : Nat} {f : Fct} {V : Value} {W W' : World} (h : BoxF b D f V W) (hb : Below D' W W') (hD : D ≤ D') : BoxF b D f V W' := by
  obtain ⟨h1, h2, h3, h4, h5⟩ := h
  refine ⟨h1, Nat.le_trans h2 hb.size, (hb.cell (p := ⟨b, 0, none⟩) (Nat.lt_of_lt_of_le h1 hD)).trans h3, (hb.cell (p := ⟨b, 1, none⟩) (Nat.lt_of_lt_of_le h1 hD)).trans h4, h5.below hb hD⟩
theorem BoxF.later {b D : Nat} {f : Fct} {V : Value} {W W' : World} (h : BoxF b D f V W) (hb : Below W.heap.size W W') : BoxF b D f V W' := h.below hb h.2.1
theorem BoxF.more {b D D' : Nat} {f : Fct} {V : Value} {W : World} (h : BoxF b D f V W) (hD : D ≤ D') (hs : D' ≤ W.heap.size) : BoxF b D' f V W := ⟨Nat.lt_of_lt_of_le h.1 hD, hs, h.2.2.1, h.2.2.2.1, h.2.2.2.2.more hD⟩
theorem BoxF.chg {b D : Nat} {f : Fct} {V : Value} {S : Nat → Prop} {W W' : World} (h : BoxF b D f V W) (hc : Chg S W W') (hS : ∀ k, S k → D ≤ k) : BoxF b D f V W' := by
  obtain ⟨h1, h2, h3, h4, h5⟩ := h
  exact (show BoxF b D f V W from ⟨h1, h2, h3, h4, h5⟩).below (hc.below hS h2) (Nat.le_refl _)
theorem BoxF.store {b D q : Nat} {f : Fct} {V : Value} {W : World} (h : BoxF b D f V W) (hq : D ≤ q) (o : Nat) (u : Value) : BoxF b D f V (W.setCell ⟨q, o, none⟩ u) :=
  h.below ((Below.refl D W).setCell (p := ⟨q, o, none⟩) hq u) (Nat.le_refl _)

set_option maxHeartbeats 1600000 in
set_option maxRecDepth 100000 in
theorem implIxF_any (g : Nat) (lb : Array Value) (eg : ∀ args w, (callFunc g args).run Try.prog w = .ok (.enter g args) w) (G : World → Prop) (hG : ∀ W W', G W → Below W.heap.size W W' → G W') (p : Fct → Bool) (v : Value) (l : List Fct) (w : World) (h0 : G w) (ht : TellsF g lb G p l) (hl : FactS_at w w.heap.size v l) :
    Calls Try.prog 82 #[v, .func (.func g) #[] lb] w fun e w' => e = .returned (.int .i64 (ixOf p l)) ∧ Below w.heap.size w w' := by
  have HL := Lib.hid hl
  obtain ⟨A, c, rfl, hlc, hcm⟩ := hl.form
  unfold maxLen at hcm
  have HG := Lib.hid (fun wr (hW : Below w.heap.size w wr) => hG w wr h0 hW)
  have HT := Lib.hid ht
  clear hG h0 ht hl
  go_enter Try.func82, Try.ntmps82
  go_wp2
  go_loopw [8] (fun i wr => ∃ k : Nat, k ≤ l.length ∧ i = .int .i64 k ∧ Hid (IxTo p l k) ∧ Below w.heap.size w wr) (fun i _ => l.length - (intOf i).toNat)
  case atStart => exact ⟨0, by omega, rfl, Lib.hid (IxTo.zero _ _), Below.refl _ _⟩
  case round =>
    obtain ⟨k, hk, rfl, HI, hW⟩ := hrel
    have hz := hW.size
    by_cases hlt : k < l.length
    · obtain ⟨b, off, V, rfl, hb, c0, c1, hV⟩ := FactS_at.elem HL.out k hlt
      replace c0 := (hW.cell (p := ⟨b, off + k * 2, none⟩) hb).trans c0
      replace c1 := (hW.cell (p := ⟨b, off + k * 2 + 1, none⟩) hb).trans c1
      have hcall := HT.out wr l[k] V (HG.out wr hW) (List.getElem_mem hlt) ((hV.below hW (Nat.le_refl _)).more hz)
      cases hp : p l[k] with
      | true =>
        have HV := Lib.hid (HI.out.hit hlt hp)
        rw [hp] at hcall
        clear hp hV
        go_wp2_with (go_at_fn g; refine hcall.mono ?_; rintro e w1 ⟨rfl, hb1⟩)
        go_ret
        exact ⟨ret_int HV.out.symm, hW.trans (hb1.mono hz)⟩
      | false =>
        have HV := Lib.hid (HI.out.next hlt hp)
        rw [hp] at hcall
        clear hp hV
        go_wp2_with (go_at_fn g; refine hcall.mono ?_; rintro e w1 ⟨rfl, hb1⟩)
        go_roundw
        case rel => exact ⟨k + 1, by omega, by go_num, HV, hW.trans (hb1.mono hz)⟩
        case measure => simp [intOf]; omega
    · obtain rfl : k = l.length := by omega
      have HV := Lib.hid HI.out.miss
      go_wp2
      go_ret
      exact ⟨ret_int HV.out.symm, hW⟩

set_option maxHeartbeats 800000 in
theorem tells_hasFact (b D : Nat) (f : Fct) (P : Option Addr) (c : Nat) (l : List Fct) : TellsF 91 #[.pointer (some ⟨b, 0, none⟩)] (BoxF b D f (.slice P f.vals.length c)) (sameP f) l := by
  intro W x U hG _ hU
  obtain ⟨Q, d, rfl, -⟩ := id hU
  have HU := Lib.hid hU
  have HG := Lib.hid hG
  obtain ⟨h1, h2, h3, h4, h5⟩ := hG
  have hE : Below W.heap.size W (W.alloc (.cells #[.int .i64 x.rel, .slice Q x.vals.length d] 44)) := below_more (Below.refl _ _) _
  have hc := implSameFacts_at x f (sameP f x) rfl (.agg #[.int .i64 x.rel, .slice Q x.vals.length d]) (.agg #[.int .i64 f.rel, .slice P f.vals.length c]) (W.alloc (.cells #[.int .i64 x.rel, .slice Q x.vals.length d] 44)) ⟨_, rfl, (HU.out.below hE (Nat.le_refl _)).more hE.size⟩ ⟨_, rfl, (h5.below hE h2).more (Nat.le_trans h2 hE.size)⟩
  have m0 := (hE.cell (p := ⟨b, 0, none⟩) (Nat.lt_of_lt_of_le h1 h2)).trans h3
  have m1 := (hE.cell (p := ⟨b, 1, none⟩) (Nat.lt_of_lt_of_le h1 h2)).trans h4
  have hlt : b < W.heap.size := Nat.lt_of_lt_of_le h1 h2
  clear hU h3 h4 h5
  show Calls Try.prog 91 #[.agg #[.int .i64 x.rel, .slice Q x.vals.length d], .pointer (some ⟨b, 0, none⟩)] W _
  go_enter Try.func91, Try.ntmps91
  go_wp2_with (go_at_call 92; refine hc.mono ?_; rintro e w1 ⟨rfl, hb1⟩)
  go_ret
  exact ⟨rfl, hE.trans (hb1.mono hE.size)⟩

theorem implAnyF_any (g : Nat) (lb : Array Value) (eg : ∀ args w, (callFunc g args).run Try.prog w = .ok (.enter g args) w) (G : World → Prop) (hG : ∀ W W', G W → Below W.heap.size W W' → G W') (p : Fct → Bool) (v : Value) (l : List Fct) (w : World) (h0 : G w) (ht : TellsF g lb G p l) (hl : FactS_at w w.heap.size v l) :
    Calls Try.prog 90 #[v, .func (.func g) #[] lb] w fun e w' => e = .returned (.bool (l.any p)) ∧ Below w.heap.size w w' := by
  have hi := implIxF_any g lb eg G hG p v l w h0 ht hl
  have HV := Lib.hid (ixOf_any p l)
  generalize ixOf p l = q at *
  clear h0 ht hG
  obtain ⟨A, c, rfl, hlc, hcm⟩ := hl.form
  clear hl
  go_enter Try.func90, Try.ntmps90
  go_wp2_with (go_at_call 82; refine hi.mono ?_; rintro e w1 ⟨rfl, hb1⟩)
  go_ret
  exact ⟨ret_bool HV.out, hb1⟩

set_option maxHeartbeats 800000 in
theorem implHasFact_at (l : List Fct) (f : Fct) (q : Bool) (hq : l.any (sameP f) = q) (v u : Value) (w : World) (hl : FactS_at w w.heap.size v l) (hf : Fact_at w w.heap.size u f) :
    Calls Try.prog 49 #[v, u] w fun e w' => e = .returned (.bool q) ∧ Below w.heap.size w w' := by
  subst hq
  obtain ⟨P, c, rfl⟩ := Fact_form hf
  obtain ⟨V, hv, hI⟩ := hf
  simp only [Value.agg.injEq, Array.mk.injEq, List.cons.injEq, and_true, true_and] at hv
  subst hv
  have hE : Below w.heap.size w (w.alloc (.cells #[.int .i64 f.rel, .slice P f.vals.length c] 44)) := below_more (Below.refl _ _) _
  have hc := implAnyF_any 91 #[.pointer (some ⟨w.heap.size, 0, none⟩)] (enters_of Try.func91 (by kernel_rfl) rfl) (BoxF w.heap.size (w.alloc (.cells #[.int .i64 f.rel, .slice P f.vals.length c] 44)).heap.size f (.slice P f.vals.length c)) (fun _ _ h hb => h.later hb) (sameP f) v l (w.alloc (.cells #[.int .i64 f.rel, .slice P f.vals.length c] 44))
    ⟨by simp, Nat.le_refl _, by simp [go_sem], by simp [go_sem], (hI.below hE (Nat.le_refl _)).more hE.size⟩ (tells_hasFact _ _ _ _ _ _) ((hl.below hE (Nat.le_refl _)).more hE.size)
  obtain ⟨A, d, rfl, -⟩ := hl.form
  clear hl hI
  go_enter Try.func49, Try.ntmps49
  go_wp2_with (go_at_call 90; refine hc.mono ?_; rintro e w1 ⟨rfl, hb1⟩)
  go_ret
  exact ⟨rfl, hE.trans (hb1.mono hE.size)⟩

theorem subTo_no {x y : List Fct} (k : Nat) (hk : k < x.length) (h : y.any (sameP x[k]) = false) (X Y : Inst) (hx : X.facts = x) (hy : Y.facts = y) : subInst X Y = false := by
  subst hx hy
  refine subInst_no k hk ?_
  rw [anySame] at h
  exact of_decide_eq_false h
theorem subTo_next {x y : List Fct} {k : Nat} (hk : k < x.length) (h : y.any (sameP x[k]) = true) (hT : SubTo x y k) : SubTo x y (k + 1) := by
  refine hT.next hk ?_
  rw [anySame] at h
  exact of_decide_eq_true h
set_option maxHeartbeats 1600000 in
set_option maxRecDepth 100000 in
theorem implIsSubset_any (v u : Value) (x y : Inst) (w : World) (h : Instance_at w w.heap.size v x) (h' : Instance_at w w.heap.size u y) :
    Calls Try.prog 16 #[v, u] w fun e w' => e = .returned (.bool (subInst x y)) ∧ Below w.heap.size w w' := by
  obtain ⟨P, c, Q, d, rfl⟩ := Instance_form h
  obtain ⟨P', c', Q', d', rfl⟩ := Instance_form h'
  obtain ⟨V1, V2, hv, hR, hF⟩ := h
  obtain ⟨U1, U2, hu, hR', hF'⟩ := h'
  simp only [Value.agg.injEq, Array.mk.injEq, List.cons.injEq, and_true] at hv hu
  obtain ⟨rfl, rfl⟩ := hv
  obtain ⟨rfl, rfl⟩ := hu
  obtain ⟨_, _, hv2, hd1, hd2⟩ := hF.form
  injection hv2 with e1 _ e2
  subst e1 e2
  unfold maxLen at hd2
  have HF := Lib.hid hF
  have HF' := Lib.hid hF'
  clear hR hF hR' hF'
  obtain ⟨E, hEq⟩ : ∃ E, E = ((w.alloc (.cells #[.slice P x.rels.length c, .slice Q x.facts.length d] 27)).alloc (.cells #[.slice P' y.rels.length c', .slice Q' y.facts.length d'] 27)) := ⟨_, rfl⟩
  have hE : Below w.heap.size w E := by rw [hEq]; exact below_more (below_more (Below.refl _ _) _) _
  have HE := Lib.hid (show w.heap.size + 2 = E.heap.size by rw [hEq]; simp)
  have L1 := Lib.hid (show E.cell? ⟨w.heap.size + 1, 1, none⟩ = some (.slice Q' y.facts.length d') by rw [hEq]; simp [go_sem])
  go_enter Try.func16, Try.ntmps16
  go_wp2
  rw [← hEq]
  clear hEq
  go_loopw [10] (fun i wr => ∃ k : Nat, k ≤ x.facts.length ∧ i = .int .i64 k ∧ Hid (SubTo x.facts y.facts k) ∧ Below E.heap.size E wr) (fun i _ => x.facts.length - (intOf i).toNat)
  case atStart => exact ⟨0, by omega, rfl, Lib.hid (SubTo.zero _ _), Below.refl _ _⟩
  case round =>
    obtain ⟨k, hk, rfl, HT, hW⟩ := hrel
    have hWw := hE.trans (hW.mono hE.size)
    have hz := hW.size
    have l1 := (hW.cell (p := ⟨w.heap.size + 1, 1, none⟩) (by show w.heap.size + 1 < _; have := HE.out; omega)).trans L1.out
    by_cases hlt : k < x.facts.length
    · obtain ⟨b, off, V, rfl, hb, c0, c1, hV⟩ := FactS_at.elem HF.out k hlt
      obtain ⟨PV, cV, rfl, -⟩ := id hV
      replace c0 := (hWw.cell (p := ⟨b, off + k * 2, none⟩) hb).trans c0
      replace c1 := (hWw.cell (p := ⟨b, off + k * 2 + 1, none⟩) hb).trans c1
      have l2 := ((below_more (Below.refl wr.heap.size wr) (.cells #[.int .i64 x.facts[k].rel, .slice PV x.facts[k].vals.length cV] 44)).cell (p := ⟨w.heap.size + 1, 1, none⟩) (by show w.heap.size + 1 < _; have := HE.out; omega)).trans l1
      have hcon := fun (q : Bool) (hq : y.facts.any (sameP x.facts[k]) = q) (W : World) (hb : Below wr.heap.size wr W) => implHasFact_at y.facts x.facts[k] q hq (.slice Q' y.facts.length d') (.agg #[.int .i64 x.facts[k].rel, .slice PV x.facts[k].vals.length cV]) W ((HF'.out.later hWw).later hb) ⟨_, rfl, (hV.later hWw).later hb⟩
      cases hq : y.facts.any (sameP x.facts[k]) with
      | true =>
        have HN := Lib.hid (subTo_next hlt hq HT.out)
        replace hcon := hcon true hq
        clear hq hV
        go_wp2_with fail
        refine (hcon _ (below_more (Below.refl _ _) _)).mono ?_
        rintro e w2 ⟨rfl, hb2⟩
        have hb3 : Below wr.heap.size wr w2 := (below_more (Below.refl _ _) _).trans (hb2.mono (by simp))
        go_wp2
        go_roundw
        case rel => exact ⟨k + 1, by omega, by go_num, HN, hW.trans (hb3.mono hz)⟩
        case measure => simp [intOf]; omega
      | false =>
        have HN := Lib.hid (subTo_no k hlt hq x y rfl rfl)
        replace hcon := hcon false hq
        clear hq hV
        go_wp2_with fail
        refine (hcon _ (below_more (Below.refl _ _) _)).mono ?_
        rintro e w2 ⟨rfl, hb2⟩
        have hb3 : Below wr.heap.size wr w2 := (below_more (Below.refl _ _) _).trans (hb2.mono (by simp))
        go_wp2
        go_ret
        exact ⟨ret_bool HN.out.symm, hWw.trans (hb3.mono hWw.size)⟩
    · obtain rfl : k = x.facts.length := by omega
      have HX := Lib.hid (subInst_yes HT.out)
      go_wp2
      go_ret
      exact ⟨ret_bool HX.out.symm, hWw⟩
theorem implIsSubset_c (v : Value) (x : Inst) (u : Value) (y : Inst) (w : World) (h : Instance_at w w.heap.size v x) (_ : Instance_wf x) (_ : Instance_sz x ≤ 1048576) (h' : Instance_at w w.heap.size u y) (_ : Instance_wf y) (_ : Instance_sz y ≤ 1048576) :
    Calls Try.prog 16 #[v, u] w fun e w' => e = .returned (.bool (subInst x y)) ∧ Below w.heap.size w w' := implIsSubset_any v u x y w h h'

end Go.Proofs.Ytobdijcnfmgidaa
