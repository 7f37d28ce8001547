/-
  Walks and plain lemmas for the laws of this seat: what single Go functions return, for every argument.
-/
import Derived.Laws.StructEq
import Derived.Deep.RegionHeld3
import Derived.Test.YtmecdjincmkofaaGreatDoorBase
import Derived.Test.YtmecdjincmkofaaGreatDoorFmtS
import Derived.Test.YtmecdjincmkofaaGreatDoorRels
import Derived.Test.YtmecdjincmkofaaGreatDoorFmtV
import Derived.Test.YtmecdjincmkofaaGreatDoorFmtFS
import Derived.Test.YtmecdjincmkofaaGreatDoorRelsI
import Derived.Test.YtmecdjincmkofaaGreatDoorFactVI
import Derived.Test.YtmecdjincmkofaaGreatDoorFmtFI
import Derived.Test.YtmecdjincmkofaaGreatDoorValInI
namespace Go.Proofs.YtmecdjincmkofaaGreatDoor
open Go.RowKit

def fmtRelB (r : Rel) : ByteArray := ⟨(fmtRel r).toArray⟩
theorem fmtRelB_src (r : Rel) (h : r.source = true) : (⟨#[43]⟩ : ByteArray) ++ (r.name ++ ⟨(Lib.itoa r.arity).toArray⟩) = fmtRelB r := by
  apply bytes_ext; simp [fmtRelB, fmtRel, h, ByteArray.data_append]
theorem fmtRelB_tgt (r : Rel) (h : r.source = false) : r.name ++ ⟨(Lib.itoa r.arity).toArray⟩ = fmtRelB r := by
  apply bytes_ext; simp [fmtRelB, fmtRel, h, ByteArray.data_append]
set_option maxHeartbeats 1600000 in
theorem formatRelation_any (r : Rel) (hok : relOk r.name r.arity = true) (w : World) (ht : Tab w) :
    Calls Tryz.prog 99 #[.agg #[.string r.name, .int .i64 r.arity, .bool r.source]] w fun e w' => e = .returned (.string (fmtRelB r)) ∧ Below w.heap.size w w' := by
  have h0 := relOk_bd _ _ hok
  have hsn : r.name.size ≤ 1 := by omega
  have hI : ByteArray.size ⟨(Lib.itoa r.arity).toArray⟩ ≤ 2 := by rw [size_mk]; exact itoa_le2 _ (by omega) (by omega)
  have hcon := fun w ht => implFormatInt_any r.arity w (by omega) (by omega) ht
  have h2 : ByteArray.size ⟨#[43]⟩ = 1 := rfl
  have HS := Lib.hid (fmtRelB_src r)
  have HT := Lib.hid (fmtRelB_tgt r)
  clear h0 hok
  generalize (⟨(Lib.itoa r.arity).toArray⟩ : ByteArray) = I at *
  cases hsrc : r.source with
  | true =>
    have HV := Lib.hid (HS.out hsrc)
    clear hsrc
    go_enter Tryz.func99, Tryz.ntmps99
    go_wp2
    refine wp_region_at (fun w0 => Below w.heap.size w w0 ∧ w.heap.size < w0.heap.size ∧ w0.cell? ⟨w.heap.size, 0, none⟩ = some (.string r.name) ∧ w0.cell? ⟨w.heap.size, 1, none⟩ = some (.int .i64 r.arity) ∧ w0.cell? ⟨w.heap.size, 2, none⟩ = some (.bool true))
      ⟨(Below.refl _ _).alloc (Nat.le_refl _) _, by simp, box_cell _ _ _ 0, box_cell _ _ _ 1, box_cell _ _ _ 2⟩ (by kernel_rfl) (by kernel_rfl) ?_
    rintro w0 ⟨hW0, hlt0, e0, e1, e2⟩
    have hz0 := hW0.size
    have hcon' := fun u : Aft w0.heap.size w0 => hcon u.now (ht.below (hW0.trans (u.is.mono hz0)))
    replace e0 := Aft.cell hlt0 e0
    replace e1 := Aft.cell hlt0 e1
    repeat (go_big_quiet_step (((go_at_call 183; exact calls_aft (Nat.le_refl _) (hcon' _)))))
    refine wpQuiet_nil ?_
    refine aft_end ?_
    intro w1 hh
    replace e2 := (hh.cell (p := ⟨w.heap.size, 2, none⟩) hlt0).trans e2
    replace hh := hW0.trans (hh.mono hz0)
    clear e0 e1 hcon hcon'
    go_wp2
    go_ret
    exact ⟨ret_str HV.out, hh⟩
  | false =>
    have HV := Lib.hid (HT.out hsrc)
    clear hsrc
    go_enter Tryz.func99, Tryz.ntmps99
    go_wp2
    refine wp_region_at (fun w0 => Below w.heap.size w w0 ∧ w.heap.size < w0.heap.size ∧ w0.cell? ⟨w.heap.size, 0, none⟩ = some (.string r.name) ∧ w0.cell? ⟨w.heap.size, 1, none⟩ = some (.int .i64 r.arity) ∧ w0.cell? ⟨w.heap.size, 2, none⟩ = some (.bool false))
      ⟨(Below.refl _ _).alloc (Nat.le_refl _) _, by simp, box_cell _ _ _ 0, box_cell _ _ _ 1, box_cell _ _ _ 2⟩ (by kernel_rfl) (by kernel_rfl) ?_
    rintro w0 ⟨hW0, hlt0, e0, e1, e2⟩
    have hz0 := hW0.size
    have hcon' := fun u : Aft w0.heap.size w0 => hcon u.now (ht.below (hW0.trans (u.is.mono hz0)))
    replace e0 := Aft.cell hlt0 e0
    replace e1 := Aft.cell hlt0 e1
    repeat (go_big_quiet_step (((go_at_call 183; exact calls_aft (Nat.le_refl _) (hcon' _)))))
    refine wpQuiet_nil ?_
    refine aft_end ?_
    intro w1 hh
    replace e2 := (hh.cell (p := ⟨w.heap.size, 2, none⟩) hlt0).trans e2
    replace hh := hW0.trans (hh.mono hz0)
    clear e0 e1 hcon hcon'
    go_wp2
    go_ret
    exact ⟨ret_str HV.out, hh⟩

theorem implAreValid_at (l : List Rel) (b : Bool) (h : validRels l = b) (v : Value) (w : World) (hl : RelsAt w w.heap.size v l) :
    Calls Tryz.prog 42 #[v] w fun e w' => e = .returned (.bool b) ∧ Below w.heap.size w w' := by
  subst h; exact implAreValidRelations_any v l w hl
theorem take_empty_set (l : List Rel) (k : Nat) (h : k < l.length) : ((l.take k).map fmtRelB ++ List.replicate (l.length - k) ByteArray.empty).set k (fmtRelB l[k]) = (l.take (k + 1)).map fmtRelB ++ List.replicate (l.length - (k + 1)) ByteArray.empty := by
  have e : ((l.take k).map fmtRelB).length = k := by simp; omega
  rw [List.set_append_right _ _ (by omega), e, Nat.sub_self, List.take_succ_eq_append_getElem h, show l.length - k = (l.length - (k + 1)) + 1 by omega, List.replicate_succ, List.set_cons_zero, List.map_append, List.append_assoc]
  rfl
theorem join_fmtRelB (l : List Rel) : Lib.join ((l.map fmtRelB).map (·.data.toList)) [32] = joinRels l := by
  unfold joinRels
  rw [List.map_map]
  rfl
set_option maxHeartbeats 3200000 in
theorem implFormatRelations_any (v : Value) (l : List Rel) (w : World) (hl : RelsAt w w.heap.size v l) (ht : Tab w) :
    Calls Tryz.prog 31 #[v] w fun e w' => e = .returned (.string ⟨(fmtRels l).toArray⟩) ∧ Below w.heap.size w w' := by
  have HL := Lib.hid hl
  cases hv : validRels l with
  | false =>
    have hcon := implAreValid_at l false hv v w hl
    have HV := Lib.hid (fmtRels_no l hv)
    clear hv hl HL
    go_enter Tryz.func31, Tryz.ntmps31
    go_wp2_with (go_at_call 42; refine hcon.mono ?_; rintro e w1 ⟨rfl, hb1⟩)
    go_ret
    exact ⟨ret_str (by rw [HV.out]), hb1⟩
  | true =>
    have hcon := implAreValid_at l true hv v w hl
    have HV := Lib.hid (fmtRels_yes l hv)
    have HVL := Lib.hid hv
    have h6 := validRels_len l hv
    obtain ⟨A, c, rfl, hlc, hcm, -⟩ := hl
    unfold maxLen at hcm
    clear hv
    have hmk := fun w => make_strs w l.length l.length (Nat.le_refl _) (by omega)
    go_enter Tryz.func31, Tryz.ntmps31
    go_wp2_with (go_at_call 42; refine hcon.mono ?_; rintro e w1 ⟨rfl, hb1⟩)
    clear hcon hmk
    have hz1 := hb1.size
    go_loopw [14] (fun i wr => ∃ k : Nat, k ≤ l.length ∧ i = .int .i64 k ∧ OwnStrs w1.heap.size (.slice (some ⟨w1.heap.size, 0, none⟩) l.length l.length) ((l.take k).map fmtRelB ++ List.replicate (l.length - k) ByteArray.empty) wr ∧ Below w1.heap.size w1 wr) (fun i _ => l.length - (intOf i).toNat)
    case atStart => exact ⟨0, by omega, rfl, OwnStrs.full w1 _ (by omega) _ (Nat.le_refl _), (Below.refl _ _).alloc (Nat.le_refl _) _⟩
    case round =>
      obtain ⟨k, hk, rfl, hO, hW⟩ := hrel
      have hz := hW.size
      have hWw := hb1.trans (hW.mono hz1)
      by_cases hlt : k < l.length
      · obtain ⟨b, off, rfl, hb, c0, c1, c2⟩ := RelsAt.elem (HL.out.below hWw (Nat.le_refl _)) k hlt
        have hO1 := fun w2 (hb2 : Below wr.heap.size wr w2) => hO.below hb2 (Nat.le_refl _)
        have hlen : ((l.take k).map fmtRelB ++ List.replicate (l.length - k) ByteArray.empty).length = l.length := by simp; omega
        have HLen := Lib.hid hlen
        have hkl : k < ((l.take k).map fmtRelB ++ List.replicate (l.length - k) ByteArray.empty).length := by omega
        have hcon := fun w ht => formatRelation_any l[k] (validRels_at l HVL.out k hlt) w ht
        clear hlen hO
        go_wp2_with fail
        refine (hcon _ (ht.below (hWw.trans ((Below.refl _ _).alloc (by omega) _)))).mono ?_
        rintro e w2 ⟨rfl, hb2⟩
        have hB2 := ((Below.refl wr.heap.size wr).alloc (Nat.le_refl _) _).trans (hb2.mono (by simp))
        have hd := (hO1 w2 hB2).cell HLen.out k hkl
        have hfz := (hO1 w2 hB2).frozen HLen.out
        go_wp2
        go_roundw
        case rel => exact ⟨k + 1, by omega, by go_num, by rw [← take_empty_set l k hlt]; exact (hO1 w2 hB2).set HLen.out k _, (hW.trans (hB2.mono hz)).setCell (Nat.le_refl _) _⟩
        case measure => simp [intOf]; omega
      · obtain rfl : k = l.length := by omega
        have hO' : OwnStrs w1.heap.size (.slice (some ⟨w1.heap.size, 0, none⟩) l.length l.length) (l.map fmtRelB) wr := by simpa using hO
        have hcells : ∀ (j : Nat) x, (l.map fmtRelB)[j]? = some x → wr.cell? ⟨w1.heap.size, 0 + j, none⟩ = some (.string x) := by
          intro j x hx
          have hj := (List.getElem?_eq_some_iff.1 hx).1
          rw [Nat.zero_add, hO'.cell (by simp) j hj, ← (List.getElem?_eq_some_iff.1 hx).2]
        have hj := Tryz.strings_Join w1.heap.size 0 l.length (l.map fmtRelB) ⟨#[32]⟩ wr hcells (World.ownsRow.lt hO' w1.heap.size rfl).2 (by simp; omega) (by simp) (by rw [show (⟨#[32]⟩ : ByteArray).data.toList = [32] from rfl, join_fmtRelB]; have := joinRels_len l HVL.out l.length (Nat.le_refl _); rw [List.take_length] at this; omega)
        rw [show (⟨#[32]⟩ : ByteArray).data.toList = [32] from rfl, join_fmtRelB, List.length_map] at hj
        clear hcells hO hO'
        go_wp2_with fail
        refine hj.mono ?_
        rintro e w2 ⟨rfl, hb2⟩
        go_wp2
        go_ret
        exact ⟨ret_str (by rw [HV.out]), hWw.trans (hb2.mono (by omega))⟩

def fmtFB (l : List Rel) (f : Fct) : ByteArray := ⟨(fmtFact l f.rel f.vals).toArray⟩
theorem take_empty_setF (rl : List Rel) (l : List Fct) (k : Nat) (h : k < l.length) : ((l.take k).map (fmtFB rl) ++ List.replicate (l.length - k) ByteArray.empty).set k (fmtFB rl l[k]) = (l.take (k + 1)).map (fmtFB rl) ++ List.replicate (l.length - (k + 1)) ByteArray.empty := by
  have e : ((l.take k).map (fmtFB rl)).length = k := by simp; omega
  rw [List.set_append_right _ _ (by omega), e, Nat.sub_self, List.take_succ_eq_append_getElem h, show l.length - k = (l.length - (k + 1)) + 1 by omega, List.replicate_succ, List.set_cons_zero, List.map_append, List.append_assoc]
  rfl
theorem join_fmtFB (rl : List Rel) (l : List Fct) : Lib.join ((l.map (fmtFB rl)).map (·.data.toList)) [32] = joinFacts rl l := by
  unfold joinFacts
  rw [List.map_map]
  rfl
theorem implFormatFact_at (l : List Rel) (f : Fct) (v u : Value) (w : World) (h : RelsAt w w.heap.size v l) (h' : Fact_at w w.heap.size u f) (hw : Fact_wf f) (ht : Tab w) :
    Calls Tryz.prog 37 #[v, u] w fun e w' => e = .returned (.string (fmtFB l f)) ∧ Below w.heap.size w w' := by
  obtain ⟨V, rfl, h'⟩ := h'
  exact implFormatFact_any v l f.rel V f.vals w h h' hw.2 ht
set_option maxHeartbeats 3200000 in
set_option maxRecDepth 100000 in
theorem implFormatInstance_any (v : Value) (x : Inst) (w : World) (h : Instance_at w w.heap.size v x) (hw : Instance_wf x) (ht : Tab w) :
    Calls Tryz.prog 21 #[v] w fun e w' => e = .returned (.string ⟨(fmtInst x).toArray⟩) ∧ Below w.heap.size w w' := by
  obtain ⟨P, c, Q, d, rfl⟩ := Instance_form h
  have HX := Lib.hid h
  obtain ⟨V1, V2, hv, hR, hF⟩ := h
  simp only [Value.agg.injEq, Array.mk.injEq, List.cons.injEq, and_true] at hv
  obtain ⟨rfl, rfl⟩ := hv
  obtain ⟨_, _, hv2, hd1, hd2⟩ := hF.form
  injection hv2 with e1 _ e2
  subst e1 e2
  unfold maxLen at hd2
  have HF := Lib.hid hF
  have HR := Lib.hid hR
  clear hF hR
  obtain ⟨E, hEq⟩ : ∃ E, E = w.alloc (.cells #[.slice P x.rels.length c, .slice Q x.facts.length d] 40) := ⟨_, rfl⟩
  have hE : Below w.heap.size w E := by rw [hEq]; exact below_more (Below.refl _ _) _
  have HE := Lib.hid (show w.heap.size + 1 = E.heap.size by rw [hEq]; simp)
  have K0 := Lib.hid (show E.cell? ⟨w.heap.size, 0, none⟩ = some (.slice P x.rels.length c) by rw [hEq]; simp [go_sem])
  have K1 := Lib.hid (show E.cell? ⟨w.heap.size, 1, none⟩ = some (.slice Q x.facts.length d) by rw [hEq]; simp [go_sem])
  have hiv := fun (q : Bool) (hq : instOk x = q) => implIsValidInstance_at x q hq (.agg #[.slice P x.rels.length c, .slice Q x.facts.length d]) E ((HX.out.below hE (Nat.le_refl _)).more hE.size) hw
  rw [hEq] at hiv
  cases ho : instOk x with
  | false =>
    have HV := Lib.hid (fmtInst_no ho)
    replace hiv := hiv false ho
    clear ho
    go_enter Tryz.func21, Tryz.ntmps21
    go_wp2_with (go_at_call 26; refine hiv.mono ?_; rintro e w1 ⟨rfl, hb1⟩)
    rw [← hEq] at hb1
    go_ret
    exact ⟨ret_str (by rw [HV.out]), hE.trans (hb1.mono hE.size)⟩
  | true =>
    have HV := Lib.hid (fmtInst_yes ho)
    have h30 := (instOk_parts ho).2.2
    have hvals := instOk_vals ho
    have hJlen := joinFacts_len x.rels x.facts hvals x.facts.length (Nat.le_refl _)
    rw [List.take_of_length_le (Nat.le_refl _)] at hJlen
    have hRlen := fmtRels_len x.rels
    replace hiv := hiv true ho
    have hmk := fun w => make_strs w x.facts.length x.facts.length (Nat.le_refl _) (by omega)
    clear ho hvals
    go_enter Tryz.func21, Tryz.ntmps21
    go_wp2_with fail
    refine hiv.mono ?_
    rintro e w1 ⟨rfl, hb1⟩
    rw [← hEq] at hb1
    have hW1 := hE.trans (hb1.mono hE.size)
    have hz1 : w.heap.size < w1.heap.size := by have h1 := hb1.size; have h2 := HE.out; omega
    have hm1 : Below w1.heap.size w1 (w1.alloc (.cells (madeCells #[.string ByteArray.empty] x.facts.length) 9)) := (Below.refl _ _).alloc (Nat.le_refl _) _
    have f1 := (hb1.cell (p := ⟨w.heap.size, 1, none⟩) (by show w.heap.size < _; have := HE.out; omega)).trans K1.out
    have f1' := (hm1.cell (p := ⟨w.heap.size, 1, none⟩) hz1).trans f1
    clear hiv hEq
    go_wp2
    clear hmk f1 f1'
    go_loopw [16] (fun i wr => ∃ k : Nat, k ≤ x.facts.length ∧ i = .int .i64 k ∧ OwnStrs w1.heap.size (.slice (some ⟨w1.heap.size, 0, none⟩) x.facts.length x.facts.length) ((x.facts.take k).map (fmtFB x.rels) ++ List.replicate (x.facts.length - k) ByteArray.empty) wr ∧ Below w1.heap.size w1 wr) (fun i _ => x.facts.length - (intOf i).toNat)
    case atStart => exact ⟨0, by omega, rfl, OwnStrs.full w1 _ (by omega) _ (Nat.le_refl _), (Below.refl _ _).alloc (Nat.le_refl _) _⟩
    case round =>
      obtain ⟨k, hk, rfl, hO, hW⟩ := hrel
      have hz := hW.size
      have hWw := hW1.trans (hW.mono hW1.size)
      have hWE : Below E.heap.size E wr := hb1.trans (hW.mono hb1.size)
      have f0 := (hWE.cell (p := ⟨w.heap.size, 0, none⟩) (by show w.heap.size < _; have := HE.out; omega)).trans K0.out
      by_cases hlt : k < x.facts.length
      · obtain ⟨b, off, V, rfl, hb, c0, c1, hV⟩ := FactS_at.elem HF.out k hlt
        obtain ⟨PV, cV, rfl, -⟩ := id hV
        replace c0 := (hWw.cell (p := ⟨b, off + k * 2, none⟩) hb).trans c0
        replace c1 := (hWw.cell (p := ⟨b, off + k * 2 + 1, none⟩) hb).trans c1
        have f2 := ((below_more (Below.refl wr.heap.size wr) (.cells #[.int .i64 x.facts[k].rel, .slice PV x.facts[k].vals.length cV] 57)).cell (p := ⟨w.heap.size, 0, none⟩) (by show w.heap.size < _; omega)).trans f0
        have hcon := fun (W : World) (hb : Below wr.heap.size wr W) => implFormatFact_at x.rels x.facts[k] (.slice P x.rels.length c) (.agg #[.int .i64 x.facts[k].rel, .slice PV x.facts[k].vals.length cV]) W ((SliceAt.below HR.out (hWw.trans (hb.mono hWw.size)) (Nat.le_refl _)).more (hWw.trans (hb.mono hWw.size)).size) ⟨_, rfl, (hV.later hWw).later hb⟩ (hw.2 k hlt) (ht.below (hWw.trans (hb.mono hWw.size)))
        have hO1 := fun w2 (hb2 : Below wr.heap.size wr w2) => hO.below hb2 (Nat.le_refl _)
        have hlen : ((x.facts.take k).map (fmtFB x.rels) ++ List.replicate (x.facts.length - k) ByteArray.empty).length = x.facts.length := by simp; omega
        have HLen := Lib.hid hlen
        have hkl : k < ((x.facts.take k).map (fmtFB x.rels) ++ List.replicate (x.facts.length - k) ByteArray.empty).length := by omega
        clear hlen hO hV
        go_wp2_with fail
        refine (hcon _ (below_more (Below.refl _ _) _)).mono ?_
        rintro e w2 ⟨rfl, hb2'⟩
        have hb2 : Below wr.heap.size wr w2 := (below_more (Below.refl _ _) _).trans (hb2'.mono (by simp))
        have hd := (hO1 w2 hb2).cell HLen.out k hkl
        have hfz := (hO1 w2 hb2).frozen HLen.out
        clear hcon hb2'
        go_wp2
        go_roundw
        case rel => exact ⟨k + 1, by omega, by go_num, by rw [← take_empty_setF x.rels x.facts k hlt]; exact (hO1 w2 hb2).set HLen.out k _, (hW.trans (hb2.mono hz)).setCell (Nat.le_refl _) _⟩
        case measure => simp [intOf]; omega
      · obtain rfl : k = x.facts.length := by omega
        have hO' : OwnStrs w1.heap.size (.slice (some ⟨w1.heap.size, 0, none⟩) x.facts.length x.facts.length) (x.facts.map (fmtFB x.rels)) wr := by simpa using hO
        have hfr := implFormatRelations_any (.slice P x.rels.length c) x.rels wr ((SliceAt.below HR.out hWw (Nat.le_refl _)).more hWw.size) (ht.below hWw)
        have hjn := fun (W : World) (hb : Below wr.heap.size wr W) => Tryz.strings_Join w1.heap.size 0 x.facts.length (x.facts.map (fmtFB x.rels)) ⟨#[32]⟩ W (by
          intro i y hy
          have hi := (List.getElem?_eq_some_iff.1 hy).1
          rw [Nat.zero_add, (hO'.below hb (Nat.le_refl _)).cell (by simp) i hi, ← (List.getElem?_eq_some_iff.1 hy).2]) (World.ownsRow.lt (hO'.below hb (Nat.le_refl _)) w1.heap.size rfl).2 (by simp; omega) (by simp) (by rw [show (⟨#[32]⟩ : ByteArray).data.toList = [32] from rfl, join_fmtFB]; omega)
        rw [show (⟨#[32]⟩ : ByteArray).data.toList = [32] from rfl, join_fmtFB, List.length_map] at hjn
        have hRs : ByteArray.size ⟨(fmtRels x.rels).toArray⟩ ≤ 30 := by rw [size_mk]; exact hRlen
        have hJs : ByteArray.size ⟨(joinFacts x.rels x.facts).toArray⟩ ≤ 1000 := by rw [size_mk]; omega
        have h59 : ByteArray.size ⟨#[59]⟩ = 1 := rfl
        have HEq := Lib.hid (show ((⟨(fmtRels x.rels).toArray⟩ : ByteArray) ++ (⟨#[59]⟩ : ByteArray)) ++ (⟨(joinFacts x.rels x.facts).toArray⟩ : ByteArray) = ⟨(fmtInst x).toArray⟩ from bytes_ext (by rw [HV.out]; simp [ByteArray.data_append]))
        clear hO hO'
        generalize (⟨(joinFacts x.rels x.facts).toArray⟩ : ByteArray) = J at *
        generalize (⟨(fmtRels x.rels).toArray⟩ : ByteArray) = R at *
        go_wp2_with fail
        refine hfr.mono ?_
        rintro e w2 ⟨rfl, hb2⟩
        replace hjn := hjn w2 hb2
        clear hfr
        go_wp2_with fail
        refine hjn.mono ?_
        rintro e w3 ⟨rfl, hb3⟩
        go_wp2
        go_ret
        exact ⟨ret_str HEq.out, hWw.trans ((hb2.trans (hb3.mono hb2.size)).mono hWw.size)⟩
theorem implFormatInstance_c (v : Value) (x : Inst) (w : World) (h : Instance_at w w.heap.size v x) (hw : Instance_wf x) (_ : Instance_sz x ≤ 1048576) (ht : Tab w) :
    Calls Tryz.prog 21 #[v] w fun e w' => e = .returned (.string ⟨(fmtInst x).toArray⟩) ∧ Below w.heap.size w w' := implFormatInstance_any v x w h hw ht

theorem take_eq_next {α : Type} (l m : List α) (k : Nat) (h : k < l.length) (h' : k < m.length) (he : l[k] = m[k]) (ht : l.take k = m.take k) : l.take (k + 1) = m.take (k + 1) := by
  rw [List.take_succ_eq_append_getElem h, List.take_succ_eq_append_getElem h', ht, he]
theorem take_eq_not {α : Type} (l m : List α) (k : Nat) (h : k < l.length) (h' : k < m.length) (he : ¬ l[k] = m[k]) : ¬ l = m := by
  rintro rfl; exact he rfl
instance : DecidableEq Rel := fun a b => by
  cases a; cases b; rw [Rel.mk.injEq]; exact inferInstance

theorem guardRel : Tryz.prog.eqGuardType Tryz.prog.depth 113 = false := by kernel_rfl
theorem stoodRel : Tryz.prog.stoodInHeld 113 = false := by kernel_rfl
theorem run_neq_rel (r r' : Rel) (w : World) : (binOp .neq 113 (.agg #[.string r.name, .int .i64 r.arity, .bool r.source]) (.agg #[.string r'.name, .int .i64 r'.arity, .bool r'.source])).run Tryz.prog w = .ok (.bool (!(decide (r = r')))) w := by
  rw [run_neq_struct]
  rw [run_equalIn_struct w 9999 113 _ _ (by kernel_rfl) stoodRel]
  simp [go_sem, Tryz.underlying113, Tryz.underlying9, Tryz.underlying3, Tryz.underlying4]
  have key : (r = r') ↔ (r.name.toList = r'.name.toList ∧ r.arity = r'.arity ∧ r.source = r'.source) := by
    constructor
    · rintro rfl; exact ⟨rfl, rfl, rfl⟩
    · rintro ⟨h1, h2, h3⟩
      have h4 : r.name = r'.name := by
        have := h1
        rw [ByteArray.toList_eq, ByteArray.toList_eq] at this
        exact ByteArray.ext (Array.ext' this)
      cases r; cases r'; simp_all
  by_cases h1 : r.name.toList = r'.name.toList <;> by_cases h2 : r.arity = r'.arity <;> by_cases h3 : r.source = r'.source <;> simp [key, h1, h2, h3]
theorem run_guard_rel (r r' : Rel) (w : World) (x y : Operand) : (eqGuard .neq 113 x y (.agg #[.string r.name, .int .i64 r.arity, .bool r.source]) (.agg #[.string r'.name, .int .i64 r'.arity, .bool r'.source])).run Tryz.prog w = .ok () w := run_eqGuard_agg w _ _ x y _ _ guardRel
/-- as a step of a region that draws its order -/
theorem quiet_neq_rel {C : World → Prop} {K : Act → Prop} {a : Act} {o : Oper} (r r' : Rel) (x y : Operand) (t : TypeId) (ho : o.op = .binOp .neq 113 x y t) (hx : a.eval x = .agg #[.string r.name, .int .i64 r.arity, .bool r.source]) (hy : a.eval y = .agg #[.string r'.name, .int .i64 r'.arity, .bool r'.source]) (q : Bool) (hq : decide (r = r') = q)
    (h : K (a.put o.dst (.bool (!q)))) : o.quiet Tryz.prog a C K := by
  subst hq
  refine ⟨_, fun w _ => ?_, h⟩
  unfold Oper.quietAt execOp
  simp only [ho, hx, hy, Sem.run_bind, run_guard_rel, run_neq_rel, Result.andThen_ok, Sem.run_pure]
  exact ⟨rfl, rfl⟩

set_option maxHeartbeats 1600000 in
set_option maxRecDepth 100000 in
theorem specL5Sigs_any (v u : Value) (l m : List Rel) (w : World) (hl : RelsAt w w.heap.size v l) (hm : RelsAt w w.heap.size u m) :
    Calls Tryz.prog 93 #[v, u] w fun e w' => e = .returned (.bool (decide (l = m))) ∧ Below w.heap.size w w' := by
  have HL := Lib.hid hl
  have HM := Lib.hid hm
  obtain ⟨A, c, rfl, hlc, hcm, -⟩ := hl
  obtain ⟨A', c', rfl, hlc', hcm', -⟩ := hm
  unfold maxLen at hcm hcm'
  by_cases hn : l.length = m.length
  · have hnb : ((l.length : Int) != (m.length : Int)) = false := by rw [hn]; simp
    have HN := Lib.hid hn
    clear hn
    go_enter Tryz.func93, Tryz.ntmps93
    go_wp2
    go_loopw [5] (fun i wr => ∃ k : Nat, k ≤ l.length ∧ i = .int .i64 k ∧ Hid (l.take k = m.take k) ∧ Below w.heap.size w wr) (fun i _ => l.length - (intOf i).toNat)
    case atStart => exact ⟨0, by omega, rfl, Lib.hid (by simp), Below.refl _ _⟩
    case round =>
      obtain ⟨k, hk, rfl, HT, hW⟩ := hrel
      have hz := hW.size
      by_cases hlt : k < l.length
      · have hlt' : k < m.length := by have := HN.out; omega
        obtain ⟨b, off, rfl, hb, c0, c1, c2⟩ := RelsAt.elem HL.out k hlt
        obtain ⟨b', off', rfl, hb', d0, d1, d2⟩ := RelsAt.elem HM.out k hlt'
        have HE := Lib.hid (take_eq_next l m k hlt hlt')
        have HF := Lib.hid (fun h => take_eq_not l m k hlt hlt' h)
        generalize l[k] = r at *
        generalize m[k] = r' at *
        have C0 := Aft.cell hb c0
        have C1 := Aft.cell hb c1
        have C2 := Aft.cell hb c2
        have D0 := Aft.cell hb' d0
        have D1 := Aft.cell hb' d1
        have D2 := Aft.cell hb' d2
        clear c0 c1 c2 d0 d1 d2
        cases hd : decide (r = r') with
        | true =>
          have HE' := Lib.hid (HE.out (of_decide_eq_true hd) HT.out)
          go_wp2
          refine wp_region_aft hW (by kernel_rfl) (by kernel_rfl) ?_
          repeat (go_big_quiet_step (fail))
          go_big_quiet_want
          refine quiet_neq_rel r r' _ _ _ rfl rfl rfl true hd ?_
          go_big_quiet_on
          refine wpQuiet_nil ?_
          refine aft_end ?_
          intro w1 hh
          go_wp2
          go_roundw
          case rel => exact ⟨k + 1, by omega, by go_num, HE', hh⟩
          case measure => simp [intOf]; omega
        | false =>
          have HE' := Lib.hid (decide_eq_false (HF.out (of_decide_eq_false hd)))
          go_wp2
          refine wp_region_aft hW (by kernel_rfl) (by kernel_rfl) ?_
          repeat (go_big_quiet_step (fail))
          go_big_quiet_want
          refine quiet_neq_rel r r' _ _ _ rfl rfl rfl false hd ?_
          go_big_quiet_on
          refine wpQuiet_nil ?_
          refine aft_end ?_
          intro w1 hh
          go_wp2
          go_ret
          exact ⟨by rw [HE'.out]; rfl, hh⟩
      · obtain rfl : k = l.length := by omega
        have HE' := Lib.hid (decide_eq_true (show l = m by have := HT.out; rwa [List.take_of_length_le (Nat.le_refl _), List.take_of_length_le (by rw [HN.out]; exact Nat.le_refl _)] at this))
        go_wp2
        go_ret
        exact ⟨by rw [HE'.out]; rfl, hW⟩
  · have hnb : ((l.length : Int) != (m.length : Int)) = true := by rw [bne_iff_ne]; omega
    have HE' := Lib.hid (decide_eq_false (show ¬ l = m by rintro rfl; exact hn rfl))
    clear hn
    go_enter Tryz.func93, Tryz.ntmps93
    go_wp2
    go_ret
    exact ⟨by rw [HE'.out]; rfl, Below.refl _ _⟩

end Go.Proofs.YtmecdjincmkofaaGreatDoor
