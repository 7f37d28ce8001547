/-
  Walks and plain lemmas for the laws of this seat: what single Go functions return, for every argument.
-/
import Derived.Test.YtobdijcnfmgidaaMem
import Derived.Test.YtobdijcnfmgidaaInts
import Derived.Test.YtobdijcnfmgidaaDrawR
import Derived.Test.YtobdijcnfmgidaaAft
import Derived.Test.YtobdijcnfmgidaaTyInst
import Derived.Test.YtobdijcnfmgidaaMInst
import Derived.Test.YtobdijcnfmgidaaTyAtom
import Derived.Test.YtobdijcnfmgidaaDrawD9
import Derived.Test.YtobdijcnfmgidaaMatM
import Derived.Test.YtobdijcnfmgidaaMatW
import Derived.Test.YtobdijcnfmgidaaDrawK
import Derived.Test.YtobdijcnfmgidaaInstV
namespace Go.Proofs.Ytobdijcnfmgidaa
open Go.RowKit

def okM (x : Inst) (l : List Atm) : Bool := (l.all fun a => atomOk x.rels a.rel a.vals) && (instOk x && decide (l.length ≤ 3))
def OkTo (x : Inst) (l : List Atm) (k : Nat) : Prop := ((l.take k).all fun a => atomOk x.rels a.rel a.vals) = true
theorem OkTo.zero (x : Inst) (l : List Atm) : OkTo x l 0 := by unfold OkTo; rfl
theorem OkTo.next {x : Inst} {l : List Atm} {k : Nat} (h : OkTo x l k) (hk : k < l.length) (hv : atomOk x.rels l[k].rel l[k].vals = true) : OkTo x l (k + 1) := by
  unfold OkTo at h ⊢
  rw [List.take_succ_eq_append_getElem hk, List.all_append, h]
  simp [hv]
theorem okM_no {x : Inst} {l : List Atm} {k : Nat} (hk : k < l.length) (hv : atomOk x.rels l[k].rel l[k].vals = false) : okM x l = false := by
  unfold okM; rw [all_no (p := fun a => atomOk x.rels a.rel a.vals) hk hv]; rfl
theorem okM_end {x : Inst} {l : List Atm} (h : OkTo x l l.length) : okM x l = (instOk x && decide (l.length ≤ 3)) := by
  unfold OkTo at h; rw [List.take_of_length_le (Nat.le_refl _)] at h; unfold okM; rw [h]; rfl
set_option maxHeartbeats 3200000 in
set_option maxRecDepth 100000 in
theorem specL11Ok_len (v : Value) (x : Inst) (u : Value) (l : List Atm) (w : World) (h : Instance_at w w.heap.size v x) (hw : Instance_wf x) (hn : x.rels.length ≤ 1048576) (h' : AtomS_at w w.heap.size u l) (hw' : AtomS_wf l) :
    Calls Try.prog 56 #[v, u] w fun e w' => e = .returned (.bool (okM x l)) ∧ Below w.heap.size w w' := by
  have HX := Lib.hid h
  have HL := Lib.hid h'
  obtain ⟨P, c, Q, d, rfl⟩ := Instance_form h
  have HR := Lib.hid (show RelationS_at w w.heap.size (.slice P x.rels.length c) x.rels by
    obtain ⟨V1, V2, hv, hR, hF⟩ := h
    simp only [Value.agg.injEq, Array.mk.injEq, List.cons.injEq, and_true] at hv
    obtain ⟨rfl, rfl⟩ := hv
    exact hR)
  obtain ⟨R, q, rfl, hq1, hq2⟩ := h'.form
  unfold maxLen at hq2
  clear h h'
  obtain ⟨E, hEq⟩ : ∃ E, E = w.alloc (.cells #[.slice P x.rels.length c, .slice Q x.facts.length d] 27) := ⟨_, rfl⟩
  have hE : Below w.heap.size w E := by rw [hEq]; exact below_more (Below.refl _ _) _
  have HEz := Lib.hid (show E.heap.size = w.heap.size + 1 by rw [hEq]; simp)
  have X0 := Lib.hid (show E.cell? ⟨w.heap.size, 0, none⟩ = some (.slice P x.rels.length c) by rw [hEq]; simp [go_sem])
  have X1 := Lib.hid (show E.cell? ⟨w.heap.size, 1, none⟩ = some (.slice Q x.facts.length d) by rw [hEq]; simp [go_sem])
  go_enter Try.func56, Try.ntmps56
  go_wp2
  rw [← hEq]
  clear hEq
  go_loopw [5] (fun i wr => ∃ k : Nat, k ≤ l.length ∧ i = .int .i64 k ∧ Hid (OkTo x l k) ∧ Below E.heap.size E wr) (fun i _ => l.length - (intOf i).toNat)
  case atStart => exact ⟨0, by omega, rfl, Lib.hid (OkTo.zero x l), Below.refl _ _⟩
  case round =>
    obtain ⟨k, hk, rfl, HT, hW⟩ := hrel
    have hz := hW.size
    have hWw := hE.trans (hW.mono hE.size)
    have x0 := (hW.cell (p := ⟨w.heap.size, 0, none⟩) (by show w.heap.size < _; rw [HEz.out]; omega)).trans X0.out
    have x1 := (hW.cell (p := ⟨w.heap.size, 1, none⟩) (by show w.heap.size < _; rw [HEz.out]; omega)).trans X1.out
    by_cases hlt : k < l.length
    · obtain ⟨b, off, V, rfl, hb, c0, c1, hV⟩ := AtomS_at.elem HL.out k hlt
      replace c0 := (hWw.cell (p := ⟨b, off + k * 2, none⟩) hb).trans c0
      replace c1 := (hWw.cell (p := ⟨b, off + k * 2 + 1, none⟩) hb).trans c1
      have hbz : b < wr.heap.size := Nat.lt_of_lt_of_le hb hWw.size
      have G0 := Aft.cell hbz c0
      have G1 := Aft.cell hbz c1
      have hzw : w.heap.size < wr.heap.size := by rw [HEz.out] at hz; omega
      have G2 := Aft.cell hzw x0
      have hcon := fun (b : Bool) (h : atomOk x.rels l[k].rel l[k].vals = b) (u : Aft wr.heap.size wr) => specIsValidAtom_at (.slice P x.rels.length c) x.rels l[k].rel V l[k].vals b h u.now ((HR.out.below (hWw.trans (u.is.mono hWw.size)) (Nat.le_refl _)).more (hWw.trans (u.is.mono hWw.size)).size) hn ((hV.below (hWw.trans (u.is.mono hWw.size)) (Nat.le_refl _)).more (hWw.trans (u.is.mono hWw.size)).size) (hw' k hlt).2
      have HZ := Lib.hid hz
      obtain ⟨_, _, rfl, -⟩ := id hV
      clear c0 c1 x1 hzw hbz hV hz
      cases hr : atomOk x.rels l[k].rel l[k].vals with
      | false =>
        have HF := Lib.hid (okM_no hlt hr)
        replace hcon := hcon false hr
        clear hr
        go_wp2
        refine wp_region_aft (Below.refl wr.heap.size wr) (by kernel_rfl) (by kernel_rfl) ?_
        repeat (go_big_quiet_step (((go_at_call 99; exact calls_aft (Nat.le_refl _) (hcon _)))))
        refine wpQuiet_nil ?_
        refine aft_end ?_
        intro w1 hh
        go_wp2
        go_ret
        exact ⟨ret_bool HF.out.symm, hWw.trans (hh.mono hWw.size)⟩
      | true =>
        have HN := Lib.hid (HT.out.next hlt hr)
        replace hcon := hcon true hr
        clear hr
        go_wp2
        refine wp_region_aft (Below.refl wr.heap.size wr) (by kernel_rfl) (by kernel_rfl) ?_
        repeat (go_big_quiet_step (((go_at_call 99; exact calls_aft (Nat.le_refl _) (hcon _)))))
        refine wpQuiet_nil ?_
        refine aft_end ?_
        intro w1 hh
        go_wp2
        go_roundw
        case rel => exact ⟨k + 1, by omega, by go_num, HN, hW.trans (hh.mono HZ.out)⟩
        case measure => simp [intOf]; omega
    · obtain rfl : k = l.length := by omega
      have HF := Lib.hid (okM_end HT.out)
      have hcon := fun (b : Bool) (h : instOk x = b) => specIsValidInstance_at1 x b h (.agg #[.slice P x.rels.length c, .slice Q x.facts.length d]) wr ((HX.out.below hWw (Nat.le_refl _)).more hWw.size) hw hn
      have HWw := Lib.hid hWw
      clear hz hWw
      cases hr : instOk x with
      | false =>
        replace hcon := hcon false hr
        rw [hr] at HF
        clear hr
        go_wp2_with (go_at_call 14; refine hcon.mono ?_; rintro e w1 ⟨rfl, hb1⟩)
        go_ret
        exact ⟨ret_bool HF.out.symm, HWw.out.trans (hb1.mono HWw.out.size)⟩
      | true =>
        replace hcon := hcon true hr
        rw [hr] at HF
        clear hr
        by_cases h3 : l.length ≤ 3
        · have hd : decide (l.length ≤ 3) = true := decide_eq_true h3
          have hd' : decide ((l.length : Int) ≤ 3) = true := decide_eq_true (by omega)
          rw [hd] at HF
          go_wp2_with (go_at_call 14; refine hcon.mono ?_; rintro e w1 ⟨rfl, hb1⟩)
          go_ret
          exact ⟨ret_bool HF.out.symm, HWw.out.trans (hb1.mono HWw.out.size)⟩
        · have hd : decide (l.length ≤ 3) = false := decide_eq_false h3
          have hd' : decide ((l.length : Int) ≤ 3) = false := decide_eq_false (by omega)
          rw [hd] at HF
          go_wp2_with (go_at_call 14; refine hcon.mono ?_; rintro e w1 ⟨rfl, hb1⟩)
          go_ret
          exact ⟨ret_bool HF.out.symm, HWw.out.trans (hb1.mono HWw.out.size)⟩

theorem okM_parts {x : Inst} {l : List Atm} (h : okM x l = true) : x.facts.length ≤ 30 ∧ l.length ≤ 3 ∧ ∀ (i : Nat) (h : i < l.length) (k : Nat) (hk : k < l[i].vals.length), l[i].vals[k] < 5 := by
  unfold okM at h
  simp only [Bool.and_eq_true, decide_eq_true_eq, List.all_eq_true] at h
  refine ⟨(instOk_parts h.2.1).2.2, h.2.2, fun i hi k hk => ?_⟩
  have h1 := h.1 l[i] (List.getElem_mem hi)
  unfold atomOk at h1
  simp only [Bool.and_eq_true, decide_eq_true_eq, List.all_eq_true] at h1
  have h2 := h1.2.2.2 l[i].vals[k] (List.getElem_mem hk)
  unfold validT inB at h2
  simp only [decide_eq_true_eq] at h2
  omega

def slLen : Value → Nat
  | .slice _ n _ => n
  | _ => 0
def blank5 : List Int := List.replicate 5 10
def BlankInv (w : World) (v : Value) (wr : World) : Prop := ∃ k : Nat, k ≤ 5 ∧ OwnInts w.heap.size v (List.replicate k 10) wr ∧ Hid (Below w.heap.size w wr)
set_option maxHeartbeats 3200000 in
set_option maxRecDepth 100000 in
theorem specL11Blank_c (w : World) : Calls Try.prog 58 #[] w fun e w' => ∃ V, e = .returned V ∧ OwnInts w.heap.size V blank5 w' ∧ Below w.heap.size w w' := by
  have hF : Below w.heap.size w (w.alloc (.cells #[] 3)) := (Below.refl _ _).alloc (Nat.le_refl _) _
  have HF := Lib.hid hF
  have HO0 := Lib.hid (OwnInts.empty w w.heap.size (Nat.le_refl _))
  clear hF
  go_enter Try.func58, Try.ntmps58
  go_wp2
  go_loopw [1] (fun v wr => BlankInv w v wr) (fun v _ => 5 - slLen v)
  case atStart => exact ⟨0, by omega, HO0.out, HF⟩
  case round =>
    obtain ⟨k, hk, hO, hW⟩ := hrel
    obtain ⟨P, c, hv, hc1, hc2, -⟩ := hO.at_
    rw [List.length_replicate] at hv hc1
    subst hv
    unfold maxLen at hc2
    have HO := Lib.hid hO
    have HZ := Lib.hid (show w.heap.size ≤ wr.heap.size from hW.out.size)
    clear hO
    by_cases hlt : k < 5
    · have HE := Lib.hid (show List.replicate k (10 : Int) ++ [10] = List.replicate (k + 1) 10 from List.replicate_succ'.symm)
      go_wp2_with (first | (go_at_call 101; refine (specL11None_c _).mono ?_; rintro e w3 ⟨rfl, rfl⟩) | (at_builtin; refine ints_app1 HO.out rfl _ _ rfl (by simp [go_sem]) _ _ _ rfl rfl (by simp; omega) HZ.out ?_; intro v5 w5 hO5 hB5 hG5; rw [HE.out] at hO5; obtain ⟨P5, c5, hv5, -⟩ := id hO5.at_; rw [List.length_replicate] at hv5; subst hv5))
      go_roundw
      case rel => exact ⟨k + 1, by omega, hO5, Lib.hid (hW.out.trans hB5)⟩
      case measure => simp [slLen]; omega
    · obtain rfl : k = 5 := by omega
      go_wp2
      exact bodyPost_ret (v := .slice P 5 c) (by simp [results, Try.results58, go_sem]) rfl ⟨_, rfl, HO.out, hW.out⟩

/-- rows laid one after another, without those that are there -/
def addRow {α : Type} (f : α → List Int) (acc : List α) (p : α) : List α := if acc.any (fun q => cmpInts (f q) (f p) == 0) = true then acc else acc ++ [p]
def dedupR {α : Type} (f : α → List Int) (l : List α) : List α := l.foldl (addRow f) []
theorem dedupR_next {α : Type} (f : α → List Int) (l : List α) (k : Nat) (hk : k < l.length) : dedupR f (l.take (k + 1)) = addRow f (dedupR f (l.take k)) l[k] := by
  unfold dedupR; rw [List.take_succ_eq_append_getElem hk, List.foldl_append]; rfl
theorem foldl_addRow_map {α : Type} (f : α → List Int) (l acc : List α) : (l.foldl (addRow f) acc).map f = (l.map f).foldl (addRow id) (acc.map f) := by
  induction l generalizing acc with
  | nil => rfl
  | cons p t ih =>
    rw [List.foldl_cons, ih, List.map_cons, List.foldl_cons]
    congr 1
    unfold addRow
    rw [List.any_map]
    show (if (acc.any fun q => cmpInts (f q) (f p) == 0) = true then acc else acc ++ [p]).map f = if (acc.any fun q => cmpInts (f q) (f p) == 0) = true then acc.map f else acc.map f ++ [f p]
    split
    · rfl
    · rw [List.map_append]; rfl
theorem dedupR_map {α : Type} (f : α → List Int) (l : List α) : (dedupR f l).map f = dedupR id (l.map f) := foldl_addRow_map f l []
theorem foldl_addRow_sub {α : Type} (f : α → List Int) (l acc : List α) : List.Sublist (l.foldl (addRow f) acc) (acc ++ l) := by
  induction l generalizing acc with
  | nil => rw [List.append_nil]; exact List.Sublist.refl _
  | cons p t ih =>
    rw [List.foldl_cons]
    refine (ih (addRow f acc p)).trans ?_
    unfold addRow
    split
    · exact (List.Sublist.refl acc).append (List.sublist_cons_self p t)
    · rw [List.append_assoc]; exact List.Sublist.refl _
theorem dedupR_sub {α : Type} (f : α → List Int) (l : List α) : List.Sublist (dedupR f l) l := foldl_addRow_sub f l []
def FindMatches_r0 (x : Inst) (l : List Atm) : List (List Int) := if okM x l = true then dedupR id (walkM x.facts l blank5) else []
theorem find_no {x : Inst} {l : List Atm} (h : okM x l = false) : FindMatches_r0 x l = [] := by unfold FindMatches_r0; rw [h]; rfl
theorem find_yes {x : Inst} {l : List Atm} (h : okM x l = true) : FindMatches_r0 x l = dedupR id (walkM x.facts l blank5) := by unfold FindMatches_r0; rw [h]; rfl
theorem IntSSO.chgS {S : Nat → Prop} {B C : Nat} {v : Value} {Vs : List Value} {l : List (List Int)} {w w' : World} (h : IntSSO B C v Vs l w) (hc : Chg S w w') (hS : ∀ q, B ≤ q → q < C → ¬ S q) : IntSSO B C v Vs l w' :=
  ⟨h.len, hc.row h.row (fun g hg => hS g (World.ownsRow.lt h.row g hg).1 (h.ins g hg)), h.ins, fun i h1 h2 => ⟨(h.el i h1 h2).1.chg hc (fun q hq => hS q (World.ownsRow.lt (h.el i h1 h2).1 q hq).1 ((h.el i h1 h2).2 q hq)), (h.el i h1 h2).2⟩, h.dis⟩

end Go.Proofs.Ytobdijcnfmgidaa
