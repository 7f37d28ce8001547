/-
  Walks and plain lemmas for the laws of this seat: what single Go functions return, for every argument.
-/
import Derived.Test.YtoapphgahmofhaaFact
import Derived.Test.YtoapphgahmofhaaAft
import Derived.Test.YtoapphgahmofhaaTyAtom
import Derived.Test.YtoapphgahmofhaaAtomM
import Derived.Test.YtoapphgahmofhaaTyInst
import Derived.Test.YtoapphgahmofhaaMatW
import Derived.Test.YtoapphgahmofhaaMInst
import Derived.Test.YtoapphgahmofhaaAtomV
import Derived.Test.YtoapphgahmofhaaInstV
namespace Go.Proofs.Ytoapphgahmofhaa
open Go.RowKit

def okM (x : Inst) (l : List Atm) : Bool := (l.all fun a => atomOk x.rels a.rel a.vals) && (instOk x && decide (l.length ≤ 3))
def OkTo (x : Inst) (l : List Atm) (k : Nat) : Prop := ((l.take k).all fun a => atomOk x.rels a.rel a.vals) = true
theorem OkTo.zero (x : Inst) (l : List Atm) : OkTo x l 0 := by unfold OkTo; rfl
theorem OkTo.next {x : Inst} {l : List Atm} {k : Nat} (h : OkTo x l k) (hk : k < l.length) (hv : atomOk x.rels l[k].rel l[k].vals = true) : OkTo x l (k + 1) := by
  unfold OkTo at h ⊢
  rw [List.take_succ_eq_append_getElem hk, List.all_append, h]
  simp [hv]
theorem okM_no {x : Inst} {l : List Atm} {k : Nat} (hk : k < l.length) (hv : atomOk x.rels l[k].rel l[k].vals = false) : okM x l = false := by
  unfold okM; rw [all_no (p := fun a => atomOk x.rels a.rel a.vals) hk hv]; rfl
theorem okM_end {x : Inst} {l : List Atm} (h : OkTo x l l.length) : okM x l = (instOk x && decide (l.length ≤ 3)) := by
  unfold OkTo at h; rw [List.take_of_length_le (Nat.le_refl _)] at h; unfold okM; rw [h]; rfl
set_option maxHeartbeats 3200000 in
set_option maxRecDepth 100000 in
theorem specL11Ok_len (v : Value) (x : Inst) (u : Value) (l : List Atm) (w : World) (h : Instance_at w w.heap.size v x) (hw : Instance_wf x) (hn : x.rels.length ≤ 1048576) (h' : AtomS_at w w.heap.size u l) (hw' : AtomS_wf l) :
    Calls Try.prog 48 #[v, u] w fun e w' => e = .returned (.bool (okM x l)) ∧ Below w.heap.size w w' := by
  have HX := Lib.hid h
  have HL := Lib.hid h'
  obtain ⟨P, c, Q, d, rfl⟩ := Instance_form h
  have HR := Lib.hid (show RelationS_at w w.heap.size (.slice P x.rels.length c) x.rels by
    obtain ⟨V1, V2, hv, hR, hF⟩ := h
    simp only [Value.agg.injEq, Array.mk.injEq, List.cons.injEq, and_true] at hv
    obtain ⟨rfl, rfl⟩ := hv
    exact hR)
  obtain ⟨R, q, rfl, hq1, hq2⟩ := h'.form
  unfold maxLen at hq2
  clear h h'
  obtain ⟨E, hEq⟩ : ∃ E, E = w.alloc (.cells #[.slice P x.rels.length c, .slice Q x.facts.length d] 27) := ⟨_, rfl⟩
  have hE : Below w.heap.size w E := by rw [hEq]; exact below_more (Below.refl _ _) _
  have HEz := Lib.hid (show E.heap.size = w.heap.size + 1 by rw [hEq]; simp)
  have X0 := Lib.hid (show E.cell? ⟨w.heap.size, 0, none⟩ = some (.slice P x.rels.length c) by rw [hEq]; simp [go_sem])
  have X1 := Lib.hid (show E.cell? ⟨w.heap.size, 1, none⟩ = some (.slice Q x.facts.length d) by rw [hEq]; simp [go_sem])
  go_enter Try.func48, Try.ntmps48
  go_wp2
  rw [← hEq]
  clear hEq
  go_loopw [5] (fun i wr => ∃ k : Nat, k ≤ l.length ∧ i = .int .i64 k ∧ Hid (OkTo x l k) ∧ Below E.heap.size E wr) (fun i _ => l.length - (intOf i).toNat)
  case atStart => exact ⟨0, by omega, rfl, Lib.hid (OkTo.zero x l), Below.refl _ _⟩
  case round =>
    obtain ⟨k, hk, rfl, HT, hW⟩ := hrel
    have hz := hW.size
    have hWw := hE.trans (hW.mono hE.size)
    have x0 := (hW.cell (p := ⟨w.heap.size, 0, none⟩) (by show w.heap.size < _; rw [HEz.out]; omega)).trans X0.out
    have x1 := (hW.cell (p := ⟨w.heap.size, 1, none⟩) (by show w.heap.size < _; rw [HEz.out]; omega)).trans X1.out
    by_cases hlt : k < l.length
    · obtain ⟨b, off, V, rfl, hb, c0, c1, hV⟩ := AtomS_at.elem HL.out k hlt
      replace c0 := (hWw.cell (p := ⟨b, off + k * 2, none⟩) hb).trans c0
      replace c1 := (hWw.cell (p := ⟨b, off + k * 2 + 1, none⟩) hb).trans c1
      have hbz : b < wr.heap.size := Nat.lt_of_lt_of_le hb hWw.size
      have G0 := Aft.cell hbz c0
      have G1 := Aft.cell hbz c1
      have hzw : w.heap.size < wr.heap.size := by rw [HEz.out] at hz; omega
      have G2 := Aft.cell hzw x0
      have hcon := fun (b : Bool) (h : atomOk x.rels l[k].rel l[k].vals = b) (u : Aft wr.heap.size wr) => specIsValidAtom_at (.slice P x.rels.length c) x.rels l[k].rel V l[k].vals b h u.now ((HR.out.below (hWw.trans (u.is.mono hWw.size)) (Nat.le_refl _)).more (hWw.trans (u.is.mono hWw.size)).size) hn ((hV.below (hWw.trans (u.is.mono hWw.size)) (Nat.le_refl _)).more (hWw.trans (u.is.mono hWw.size)).size) (hw' k hlt).2
      have HZ := Lib.hid hz
      obtain ⟨_, _, rfl, -⟩ := id hV
      clear c0 c1 x1 hzw hbz hV hz
      cases hr : atomOk x.rels l[k].rel l[k].vals with
      | false =>
        have HF := Lib.hid (okM_no hlt hr)
        replace hcon := hcon false hr
        clear hr
        go_wp2
        refine wp_region_aft (Below.refl wr.heap.size wr) (by kernel_rfl) (by kernel_rfl) ?_
        repeat (go_big_quiet_step (((go_at_call 79; exact calls_aft (Nat.le_refl _) (hcon _)))))
        refine wpQuiet_nil ?_
        refine aft_end ?_
        intro w1 hh
        go_wp2
        go_ret
        exact ⟨ret_bool HF.out.symm, hWw.trans (hh.mono hWw.size)⟩
      | true =>
        have HN := Lib.hid (HT.out.next hlt hr)
        replace hcon := hcon true hr
        clear hr
        go_wp2
        refine wp_region_aft (Below.refl wr.heap.size wr) (by kernel_rfl) (by kernel_rfl) ?_
        repeat (go_big_quiet_step (((go_at_call 79; exact calls_aft (Nat.le_refl _) (hcon _)))))
        refine wpQuiet_nil ?_
        refine aft_end ?_
        intro w1 hh
        go_wp2
        go_roundw
        case rel => exact ⟨k + 1, by omega, by go_num, HN, hW.trans (hh.mono HZ.out)⟩
        case measure => simp [intOf]; omega
    · obtain rfl : k = l.length := by omega
      have HF := Lib.hid (okM_end HT.out)
      have hcon := fun (b : Bool) (h : instOk x = b) => specIsValidInstance_at1 x b h (.agg #[.slice P x.rels.length c, .slice Q x.facts.length d]) wr ((HX.out.below hWw (Nat.le_refl _)).more hWw.size) hw hn
      have HWw := Lib.hid hWw
      clear hz hWw
      cases hr : instOk x with
      | false =>
        replace hcon := hcon false hr
        rw [hr] at HF
        clear hr
        go_wp2_with (go_at_call 80; refine hcon.mono ?_; rintro e w1 ⟨rfl, hb1⟩)
        go_ret
        exact ⟨ret_bool HF.out.symm, HWw.out.trans (hb1.mono HWw.out.size)⟩
      | true =>
        replace hcon := hcon true hr
        rw [hr] at HF
        clear hr
        by_cases h3 : l.length ≤ 3
        · have hd : decide (l.length ≤ 3) = true := decide_eq_true h3
          have hd' : decide ((l.length : Int) ≤ 3) = true := decide_eq_true (by omega)
          rw [hd] at HF
          go_wp2_with (go_at_call 80; refine hcon.mono ?_; rintro e w1 ⟨rfl, hb1⟩)
          go_ret
          exact ⟨ret_bool HF.out.symm, HWw.out.trans (hb1.mono HWw.out.size)⟩
        · have hd : decide (l.length ≤ 3) = false := decide_eq_false h3
          have hd' : decide ((l.length : Int) ≤ 3) = false := decide_eq_false (by omega)
          rw [hd] at HF
          go_wp2_with (go_at_call 80; refine hcon.mono ?_; rintro e w1 ⟨rfl, hb1⟩)
          go_ret
          exact ⟨ret_bool HF.out.symm, HWw.out.trans (hb1.mono HWw.out.size)⟩

theorem okM_parts {x : Inst} {l : List Atm} (h : okM x l = true) : x.facts.length ≤ 30 ∧ l.length ≤ 3 ∧ ∀ (i : Nat) (h : i < l.length) (k : Nat) (hk : k < l[i].vals.length), l[i].vals[k] < 5 := by
  unfold okM at h
  simp only [Bool.and_eq_true, decide_eq_true_eq, List.all_eq_true] at h
  refine ⟨(instOk_parts h.2.1).2.2, h.2.2, fun i hi k hk => ?_⟩
  have h1 := h.1 l[i] (List.getElem_mem hi)
  unfold atomOk at h1
  simp only [Bool.and_eq_true, decide_eq_true_eq, List.all_eq_true] at h1
  have h2 := h1.2.2.2 l[i].vals[k] (List.getElem_mem hk)
  unfold validT inB at h2
  simp only [decide_eq_true_eq] at h2
  omega

def hasExt (x : Inst) (l : List Atm) (b : List Int) : Bool := okM x l && (decide (b.length = 5) && decide (0 < (walkM x.facts l b).length))
set_option maxHeartbeats 3200000 in
set_option maxRecDepth 100000 in
theorem specHasExt_any (v u : Value) (x : Inst) (l : List Atm) (bv : Value) (b : List Int) (w : World) (hx : Instance_at w w.heap.size v x) (hxw : Instance_wf x) (hn : x.rels.length ≤ 1048576) (hl : AtomS_at w w.heap.size u l) (hlw : AtomS_wf l) (hb : IntsAt w w.heap.size bv b) :
    Calls Try.prog 19 #[v, u, bv] w fun e w' => e = .returned (.bool (hasExt x l b)) ∧ Below w.heap.size w w' := by
  have HX := Lib.hid hx
  have HL := Lib.hid hl
  have HB := Lib.hid hb
  obtain ⟨P, c, Q, d, rfl⟩ := Instance_form hx
  obtain ⟨R, q, rfl, hq1, hq2⟩ := hl.form
  obtain ⟨S, t, rfl, ht1, ht2, -, -⟩ := hb
  unfold maxLen at hq2 ht2
  clear hx hl
  obtain ⟨E, hEq⟩ : ∃ E, E = w.alloc (.cells #[.slice P x.rels.length c, .slice Q x.facts.length d] 27) := ⟨_, rfl⟩
  have hE : Below w.heap.size w E := by rw [hEq]; exact below_more (Below.refl _ _) _
  have X0 : E.cell? ⟨w.heap.size, 0, none⟩ = some (.slice P x.rels.length c) := by rw [hEq]; simp [go_sem]
  have X1 : E.cell? ⟨w.heap.size, 1, none⟩ = some (.slice Q x.facts.length d) := by rw [hEq]; simp [go_sem]
  have hEz : w.heap.size < E.heap.size := by rw [hEq]; simp
  have hok := specL11Ok_len _ x _ l E ((HX.out.below hE (Nat.le_refl _)).more hE.size) hxw hn ((HL.out.below hE (Nat.le_refl _)).more hE.size) hlw
  rw [hEq] at hok
  obtain ⟨ok, hk⟩ : ∃ ok, okM x l = ok := ⟨_, rfl⟩
  rw [hk] at hok
  go_enter Try.func19, Try.ntmps19
  go_wp2_with fail
  refine hok.mono ?_
  rintro e w1 ⟨rfl, hb1⟩
  rw [← hEq] at hb1
  clear hEq hok
  have hw1 := hE.trans (hb1.mono hE.size)
  have x0 := (hb1.cell (p := ⟨w.heap.size, 0, none⟩) hEz).trans X0
  have x1 := (hb1.cell (p := ⟨w.heap.size, 1, none⟩) hEz).trans X1
  have HW1 := Lib.hid hw1
  clear X0 X1 hb1 hEz hw1
  cases ok with
  | false =>
    have HF := Lib.hid (show hasExt x l b = false by unfold hasExt; rw [hk]; rfl)
    clear hk
    go_wp2
    go_ret
    exact ⟨ret_bool HF.out.symm, HW1.out⟩
  | true =>
    obtain ⟨h30, h3, h5⟩ := okM_parts hk
    by_cases hb5 : b.length = 5
    · have d5 : ((b.length : Int) == 5) = true := by rw [hb5]; rfl
      have hwk := specL11Walk_any _ _ x l hxw h30 hlw h3 h5 l.length 0 (.slice S b.length t) b w1 (by omega) ((HX.out.below HW1.out (Nat.le_refl _)).more HW1.out.size) ((HL.out.below HW1.out (Nat.le_refl _)).more HW1.out.size) ((HB.out.below HW1.out (Nat.le_refl _)).more HW1.out.size) hb5
      have HF := Lib.hid (show hasExt x l b = decide (0 < (walkM x.facts l b).length) by unfold hasExt; rw [hk, decide_eq_true hb5]; rfl)
      have HB5 := Lib.hid hb5
      clear hk h30 h3 h5 hb5
      go_wp2_with fail
      refine hwk.mono ?_
      rintro e w2 ⟨U, Us, rfl, ⟨g, hg⟩, hS, hb2⟩
      obtain ⟨cu, rfl, -⟩ := own_some hS.row hg
      have hlen : Us.length = (walkM x.facts l b).length := by have := hS.len; rwa [List.drop_zero] at this
      rw [← hlen] at HF
      have hw2 := HW1.out.trans (hb2.mono HW1.out.size)
      clear hS hg hwk hlen
      go_wp2
      go_ret
      exact ⟨ret_bool (by rw [HF.out] <;> simp), hw2⟩
    · have d5 : ((b.length : Int) == 5) = false := by rw [beq_eq_false_iff_ne]; omega
      have HF := Lib.hid (show hasExt x l b = false by unfold hasExt; rw [decide_eq_false hb5] <;> simp)
      clear hk hb5 h30 h3 h5
      go_wp2
      go_ret
      exact ⟨ret_bool HF.out.symm, HW1.out⟩
theorem specHasExtension_c (v : Value) (x : Inst) (u : Value) (l : List Atm) (bv : Value) (b : List Int) (w : World) (h : Instance_at w w.heap.size v x) (hw : Instance_wf x) (hn : Instance_sz x ≤ 1048576) (h' : AtomS_at w w.heap.size u l) (hw' : AtomS_wf l) (_ : AtomS_sz l ≤ 1048576) (h'' : IntS_at w w.heap.size bv b) (_ : IntS_wf b) (_ : IntS_sz b ≤ 1048576) :
    Calls Try.prog 19 #[v, u, bv] w fun e w' => e = .returned (.bool (hasExt x l b)) ∧ Below w.heap.size w w' :=
  specHasExt_any v u x l bv b w h hw (by unfold Instance_sz RelationS_sz at hn; omega) h' hw' h''

end Go.Proofs.Ytoapphgahmofhaa
