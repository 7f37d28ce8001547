/-
  Walks and plain lemmas for the laws of this seat: what single Go functions return, for every argument.
-/
import Derived.Test.YteogknfhafdbmaaDoorStrs
import Derived.Test.YteogknfhafdbmaaDoorFmtInstS
import Derived.Test.YteogknfhafdbmaaDoorFmtFI
import Derived.Test.YteogknfhafdbmaaDoorValInI
import Derived.Test.YteogknfhafdbmaaDoorFmtRI2
namespace Go.Proofs.YteogknfhafdbmaaDoor
open Go.RowKit

def fmtFB (l : List Rel) (f : Fct) : ByteArray := ⟨(fmtFact l f.rel f.vals).toArray⟩
theorem take_empty_setF (rl : List Rel) (l : List Fct) (k : Nat) (h : k < l.length) : ((l.take k).map (fmtFB rl) ++ List.replicate (l.length - k) ByteArray.empty).set k (fmtFB rl l[k]) = (l.take (k + 1)).map (fmtFB rl) ++ List.replicate (l.length - (k + 1)) ByteArray.empty := by
  have e : ((l.take k).map (fmtFB rl)).length = k := by simp; omega
  rw [List.set_append_right _ _ (by omega), e, Nat.sub_self, List.take_succ_eq_append_getElem h, show l.length - k = (l.length - (k + 1)) + 1 by omega, List.replicate_succ, List.set_cons_zero, List.map_append, List.append_assoc]
  rfl
theorem join_fmtFB (rl : List Rel) (l : List Fct) : Lib.join ((l.map (fmtFB rl)).map (·.data.toList)) [32] = joinFacts rl l := by
  unfold joinFacts
  rw [List.map_map]
  rfl
theorem implFormatFact_at (l : List Rel) (f : Fct) (v u : Value) (w : World) (h : RelsAt w w.heap.size v l) (h' : Fact_at w w.heap.size u f) (hw : Fact_wf f) (ht : Tab w) :
    Calls Tryd.prog 10 #[v, u] w fun e w' => e = .returned (.string (fmtFB l f)) ∧ Below w.heap.size w w' := by
  obtain ⟨V, rfl, h'⟩ := h'
  exact implFormatFact_any v l f.rel V f.vals w h h' hw.2 ht
set_option maxHeartbeats 3200000 in
set_option maxRecDepth 100000 in
theorem implFormatInstance_any (v : Value) (x : Inst) (w : World) (h : Instance_at w w.heap.size v x) (hw : Instance_wf x) (ht : Tab w) :
    Calls Tryd.prog 16 #[v] w fun e w' => e = .returned (.string ⟨(fmtInst x).toArray⟩) ∧ Below w.heap.size w w' := by
  obtain ⟨P, c, Q, d, rfl⟩ := Instance_form h
  have HX := Lib.hid h
  obtain ⟨V1, V2, hv, hR, hF⟩ := h
  simp only [Value.agg.injEq, Array.mk.injEq, List.cons.injEq, and_true] at hv
  obtain ⟨rfl, rfl⟩ := hv
  obtain ⟨_, _, hv2, hd1, hd2⟩ := hF.form
  injection hv2 with e1 _ e2
  subst e1 e2
  unfold maxLen at hd2
  have HF := Lib.hid hF
  have HR := Lib.hid hR
  clear hF hR
  obtain ⟨E, hEq⟩ : ∃ E, E = w.alloc (.cells #[.slice P x.rels.length c, .slice Q x.facts.length d] 43) := ⟨_, rfl⟩
  have hE : Below w.heap.size w E := by rw [hEq]; exact below_more (Below.refl _ _) _
  have HE := Lib.hid (show w.heap.size + 1 = E.heap.size by rw [hEq]; simp)
  have K0 := Lib.hid (show E.cell? ⟨w.heap.size, 0, none⟩ = some (.slice P x.rels.length c) by rw [hEq]; simp [go_sem])
  have K1 := Lib.hid (show E.cell? ⟨w.heap.size, 1, none⟩ = some (.slice Q x.facts.length d) by rw [hEq]; simp [go_sem])
  have hiv := fun (q : Bool) (hq : instOk x = q) => implIsValidInstance_at x q hq (.agg #[.slice P x.rels.length c, .slice Q x.facts.length d]) E ((HX.out.below hE (Nat.le_refl _)).more hE.size) hw
  rw [hEq] at hiv
  cases ho : instOk x with
  | false =>
    have HV := Lib.hid (fmtInst_no ho)
    replace hiv := hiv false ho
    clear ho
    go_enter Tryd.func16, Tryd.ntmps16
    go_wp2_with (go_at_call 33; refine hiv.mono ?_; rintro e w1 ⟨rfl, hb1⟩)
    rw [← hEq] at hb1
    go_ret
    exact ⟨ret_str (by rw [HV.out]), hE.trans (hb1.mono hE.size)⟩
  | true =>
    have HV := Lib.hid (fmtInst_yes ho)
    have h30 := (instOk_parts ho).2.2
    have hvals := instOk_vals ho
    have hJlen := joinFacts_len x.rels x.facts hvals x.facts.length (Nat.le_refl _)
    rw [List.take_of_length_le (Nat.le_refl _)] at hJlen
    have hRlen := fmtRels_len x.rels
    replace hiv := hiv true ho
    have hmk := fun w => make_strs w x.facts.length x.facts.length (Nat.le_refl _) (by omega)
    clear ho hvals
    go_enter Tryd.func16, Tryd.ntmps16
    go_wp2_with fail
    refine hiv.mono ?_
    rintro e w1 ⟨rfl, hb1⟩
    rw [← hEq] at hb1
    have hW1 := hE.trans (hb1.mono hE.size)
    have hz1 : w.heap.size < w1.heap.size := by have h1 := hb1.size; have h2 := HE.out; omega
    have hm1 : Below w1.heap.size w1 (w1.alloc (.cells (madeCells #[.string ByteArray.empty] x.facts.length) 9)) := (Below.refl _ _).alloc (Nat.le_refl _) _
    have f1 := (hb1.cell (p := ⟨w.heap.size, 1, none⟩) (by show w.heap.size < _; have := HE.out; omega)).trans K1.out
    have f1' := (hm1.cell (p := ⟨w.heap.size, 1, none⟩) hz1).trans f1
    clear hiv hEq
    go_wp2
    clear hmk f1 f1'
    go_loopw [16] (fun i wr => ∃ k : Nat, k ≤ x.facts.length ∧ i = .int .i64 k ∧ OwnStrs w1.heap.size (.slice (some ⟨w1.heap.size, 0, none⟩) x.facts.length x.facts.length) ((x.facts.take k).map (fmtFB x.rels) ++ List.replicate (x.facts.length - k) ByteArray.empty) wr ∧ Below w1.heap.size w1 wr) (fun i _ => x.facts.length - (intOf i).toNat)
    case atStart => exact ⟨0, by omega, rfl, OwnStrs.full w1 _ (by omega) _ (Nat.le_refl _), (Below.refl _ _).alloc (Nat.le_refl _) _⟩
    case round =>
      obtain ⟨k, hk, rfl, hO, hW⟩ := hrel
      have hz := hW.size
      have hWw := hW1.trans (hW.mono hW1.size)
      have hWE : Below E.heap.size E wr := hb1.trans (hW.mono hb1.size)
      have f0 := (hWE.cell (p := ⟨w.heap.size, 0, none⟩) (by show w.heap.size < _; have := HE.out; omega)).trans K0.out
      by_cases hlt : k < x.facts.length
      · obtain ⟨b, off, V, rfl, hb, c0, c1, hV⟩ := FactS_at.elem HF.out k hlt
        obtain ⟨PV, cV, rfl, -⟩ := id hV
        replace c0 := (hWw.cell (p := ⟨b, off + k * 2, none⟩) hb).trans c0
        replace c1 := (hWw.cell (p := ⟨b, off + k * 2 + 1, none⟩) hb).trans c1
        have f2 := ((below_more (Below.refl wr.heap.size wr) (.cells #[.int .i64 x.facts[k].rel, .slice PV x.facts[k].vals.length cV] 31)).cell (p := ⟨w.heap.size, 0, none⟩) (by show w.heap.size < _; omega)).trans f0
        have hcon := fun (W : World) (hb : Below wr.heap.size wr W) => implFormatFact_at x.rels x.facts[k] (.slice P x.rels.length c) (.agg #[.int .i64 x.facts[k].rel, .slice PV x.facts[k].vals.length cV]) W ((SliceAt.below HR.out (hWw.trans (hb.mono hWw.size)) (Nat.le_refl _)).more (hWw.trans (hb.mono hWw.size)).size) ⟨_, rfl, (hV.later hWw).later hb⟩ (hw.2 k hlt) (ht.below (hWw.trans (hb.mono hWw.size)))
        have hO1 := fun w2 (hb2 : Below wr.heap.size wr w2) => hO.below hb2 (Nat.le_refl _)
        have hlen : ((x.facts.take k).map (fmtFB x.rels) ++ List.replicate (x.facts.length - k) ByteArray.empty).length = x.facts.length := by simp; omega
        have HLen := Lib.hid hlen
        have hkl : k < ((x.facts.take k).map (fmtFB x.rels) ++ List.replicate (x.facts.length - k) ByteArray.empty).length := by omega
        clear hlen hO hV
        go_wp2_with fail
        refine (hcon _ (below_more (Below.refl _ _) _)).mono ?_
        rintro e w2 ⟨rfl, hb2'⟩
        have hb2 : Below wr.heap.size wr w2 := (below_more (Below.refl _ _) _).trans (hb2'.mono (by simp))
        have hd := (hO1 w2 hb2).cell HLen.out k hkl
        have hfz := (hO1 w2 hb2).frozen HLen.out
        clear hcon hb2'
        go_wp2
        go_roundw
        case rel => exact ⟨k + 1, by omega, by go_num, by rw [← take_empty_setF x.rels x.facts k hlt]; exact (hO1 w2 hb2).set HLen.out k _, (hW.trans (hb2.mono hz)).setCell (Nat.le_refl _) _⟩
        case measure => simp [intOf]; omega
      · obtain rfl : k = x.facts.length := by omega
        have hO' : OwnStrs w1.heap.size (.slice (some ⟨w1.heap.size, 0, none⟩) x.facts.length x.facts.length) (x.facts.map (fmtFB x.rels)) wr := by simpa using hO
        have hfr := implFormatRelations_any (.slice P x.rels.length c) x.rels wr ((SliceAt.below HR.out hWw (Nat.le_refl _)).more hWw.size) (ht.below hWw)
        have hjn := fun (W : World) (hb : Below wr.heap.size wr W) => Tryd.strings_Join w1.heap.size 0 x.facts.length (x.facts.map (fmtFB x.rels)) ⟨#[32]⟩ W (by
          intro i y hy
          have hi := (List.getElem?_eq_some_iff.1 hy).1
          rw [Nat.zero_add, (hO'.below hb (Nat.le_refl _)).cell (by simp) i hi, ← (List.getElem?_eq_some_iff.1 hy).2]) (World.ownsRow.lt (hO'.below hb (Nat.le_refl _)) w1.heap.size rfl).2 (by simp; omega) (by simp) (by rw [show (⟨#[32]⟩ : ByteArray).data.toList = [32] from rfl, join_fmtFB]; omega)
        rw [show (⟨#[32]⟩ : ByteArray).data.toList = [32] from rfl, join_fmtFB, List.length_map] at hjn
        have hRs : ByteArray.size ⟨(fmtRels x.rels).toArray⟩ ≤ 30 := by rw [size_mk]; exact hRlen
        have hJs : ByteArray.size ⟨(joinFacts x.rels x.facts).toArray⟩ ≤ 1000 := by rw [size_mk]; omega
        have h59 : ByteArray.size ⟨#[59]⟩ = 1 := rfl
        have HEq := Lib.hid (show ((⟨(fmtRels x.rels).toArray⟩ : ByteArray) ++ (⟨#[59]⟩ : ByteArray)) ++ (⟨(joinFacts x.rels x.facts).toArray⟩ : ByteArray) = ⟨(fmtInst x).toArray⟩ from bytes_ext (by rw [HV.out]; simp [ByteArray.data_append]))
        clear hO hO'
        generalize (⟨(joinFacts x.rels x.facts).toArray⟩ : ByteArray) = J at *
        generalize (⟨(fmtRels x.rels).toArray⟩ : ByteArray) = R at *
        go_wp2_with fail
        refine hfr.mono ?_
        rintro e w2 ⟨rfl, hb2⟩
        replace hjn := hjn w2 hb2
        clear hfr
        go_wp2_with fail
        refine hjn.mono ?_
        rintro e w3 ⟨rfl, hb3⟩
        go_wp2
        go_ret
        exact ⟨ret_str HEq.out, hWw.trans ((hb2.trans (hb3.mono hb2.size)).mono hWw.size)⟩
theorem implFormatInstance_c (v : Value) (x : Inst) (w : World) (h : Instance_at w w.heap.size v x) (hw : Instance_wf x) (_ : Instance_sz x ≤ 1048576) (ht : Tab w) :
    Calls Tryd.prog 16 #[v] w fun e w' => e = .returned (.string ⟨(fmtInst x).toArray⟩) ∧ Below w.heap.size w w' := implFormatInstance_any v x w h hw ht

end Go.Proofs.YteogknfhafdbmaaDoor
