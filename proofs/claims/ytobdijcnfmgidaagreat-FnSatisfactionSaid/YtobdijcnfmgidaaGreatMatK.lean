/- Walks and plain lemmas for the laws of this seat. -/
import Derived.Test.YtobdijcnfmgidaaGreatInts
import Derived.Test.YtobdijcnfmgidaaGreatDrawR
import Derived.Test.YtobdijcnfmgidaaGreatAft
import Derived.Test.YtobdijcnfmgidaaGreatTyAtom
import Derived.Test.YtobdijcnfmgidaaGreatDrawA9
import Derived.Test.YtobdijcnfmgidaaGreatParInI
import Derived.Test.YtobdijcnfmgidaaGreatTySS
import Derived.Test.YtobdijcnfmgidaaGreatMatB
import Derived.Test.YtobdijcnfmgidaaGreatMInst
import Derived.Test.YtobdijcnfmgidaaGreatDrawK
import Derived.Test.YtobdijcnfmgidaaGreatInstV
namespace Go.Proofs.YtobdijcnfmgidaaGreat
open Go.RowKit
def okM (x : Inst) (l : List Atm) : Bool := (l.all fun a => atomOk x.rels a.rel a.vals) && (instOk x && decide (l.length ≤ 3))
def OkTo (x : Inst) (l : List Atm) (k : Nat) : Prop := ((l.take k).all fun a => atomOk x.rels a.rel a.vals) = true
theorem OkTo.zero (x : Inst) (l : List Atm) : OkTo x l 0 := by unfold OkTo; rfl
theorem OkTo.next {x : Inst} {l : List Atm} {k : Nat} (h : OkTo x l k) (hk : k < l.length) (hv : atomOk x.rels l[k].rel l[k].vals = true) : OkTo x l (k + 1) := by
 unfold OkTo at h ⊢
 rw [List.take_succ_eq_append_getElem hk,List.all_append,h]
 simp [hv]
theorem okM_no {x : Inst} {l : List Atm} {k : Nat} (hk : k < l.length) (hv : atomOk x.rels l[k].rel l[k].vals = false) : okM x l = false := by
 unfold okM; rw [all_no (p := fun a => atomOk x.rels a.rel a.vals) hk hv]; rfl
theorem okM_end {x : Inst} {l : List Atm} (h : OkTo x l l.length) : okM x l = (instOk x && decide (l.length ≤ 3)) := by
 unfold OkTo at h; rw [List.take_of_length_le (Nat.le_refl _)] at h; unfold okM; rw [h]; rfl
set_option maxHeartbeats 3200000 in
set_option maxRecDepth 100000 in
theorem specL11Ok_len (v : Value) (x : Inst) (u : Value) (l : List Atm) (w : World) (h : Instance_at w w.heap.size v x) (hw : Instance_wf x) (hn : x.rels.length ≤ 1048576) (h' : AtomS_at w w.heap.size u l) (hw' : AtomS_wf l) :
 Calls Tryz.prog 122 #[v,u] w fun e w' => e = .returned (.bool (okM x l)) ∧ Below w.heap.size w w' := by
 have HX := Lib.hid h
 have HL := Lib.hid h'
 obtain ⟨P,c,Q,d,rfl⟩ := Instance_form h
 have HR := Lib.hid (show RelationS_at w w.heap.size (.slice P x.rels.length c) x.rels by
  obtain ⟨V1,V2,hv,hR,hF⟩ := h
  simp only [Value.agg.injEq,Array.mk.injEq,List.cons.injEq,and_true] at hv
  obtain ⟨rfl,rfl⟩ := hv
  exact hR)
 obtain ⟨R,q,rfl,hq1,hq2⟩ := h'.form
 unfold maxLen at hq2
 clear h h'
 obtain ⟨E,hEq⟩ : ∃ E,E = w.alloc (.cells #[.slice P x.rels.length c,.slice Q x.facts.length d] 27) := ⟨_,rfl⟩
 have hE : Below w.heap.size w E := by rw [hEq]; exact below_more (Below.refl _ _) _
 have HEz := Lib.hid (show E.heap.size = w.heap.size + 1 by rw [hEq]; simp)
 have X0 := Lib.hid (show E.cell? ⟨w.heap.size,0,none⟩ = some (.slice P x.rels.length c) by rw [hEq]; simp [go_sem])
 have X1 := Lib.hid (show E.cell? ⟨w.heap.size,1,none⟩ = some (.slice Q x.facts.length d) by rw [hEq]; simp [go_sem])
 go_enter Tryz.func122,Tryz.ntmps122
 go_wp2
 rw [← hEq]
 clear hEq
 go_loopw [5] (fun i wr => ∃ k : Nat,k ≤ l.length ∧ i = .int .i64 k ∧ Hid (OkTo x l k) ∧ Below E.heap.size E wr) (fun i _ => l.length - (intOf i).toNat)
 case atStart => exact ⟨0,by omega,rfl,Lib.hid (OkTo.zero x l),Below.refl _ _⟩
 case round =>
  obtain ⟨k,hk,rfl,HT,hW⟩ := hrel
  have hz := hW.size
  have hWw := hE.trans (hW.mono hE.size)
  have x0 := (hW.cell (p := ⟨w.heap.size,0,none⟩) (by show w.heap.size < _; rw [HEz.out]; omega)).trans X0.out
  have x1 := (hW.cell (p := ⟨w.heap.size,1,none⟩) (by show w.heap.size < _; rw [HEz.out]; omega)).trans X1.out
  by_cases hlt : k < l.length
  · obtain ⟨b,off,V,rfl,hb,c0,c1,hV⟩ := AtomS_at.elem HL.out k hlt
    replace c0 := (hWw.cell (p := ⟨b,off + k * 2,none⟩) hb).trans c0
    replace c1 := (hWw.cell (p := ⟨b,off + k * 2 + 1,none⟩) hb).trans c1
    have hbz : b < wr.heap.size := Nat.lt_of_lt_of_le hb hWw.size
    have G0 := Aft.cell hbz c0
    have G1 := Aft.cell hbz c1
    have hzw : w.heap.size < wr.heap.size := by rw [HEz.out] at hz; omega
    have G2 := Aft.cell hzw x0
    have hcon := fun (b : Bool) (h : atomOk x.rels l[k].rel l[k].vals = b) (u : Aft wr.heap.size wr) => specIsValidAtom_at (.slice P x.rels.length c) x.rels l[k].rel V l[k].vals b h u.now ((HR.out.below (hWw.trans (u.is.mono hWw.size)) (Nat.le_refl _)).more (hWw.trans (u.is.mono hWw.size)).size) hn ((hV.below (hWw.trans (u.is.mono hWw.size)) (Nat.le_refl _)).more (hWw.trans (u.is.mono hWw.size)).size) (hw' k hlt).2
    have HZ := Lib.hid hz
    obtain ⟨_,_,rfl,-⟩ := id hV
    clear c0 c1 x1 hzw hbz hV hz
    cases hr : atomOk x.rels l[k].rel l[k].vals with
    | false =>
      have HF := Lib.hid (okM_no hlt hr)
      replace hcon := hcon false hr
      clear hr
      go_wp2
      refine wp_region_aft (Below.refl wr.heap.size wr) (by kernel_rfl) (by kernel_rfl) ?_
      repeat (go_big_quiet_step (((go_at_call 80; exact calls_aft (Nat.le_refl _) (hcon _)))))
      refine wpQuiet_nil ?_
      refine aft_end ?_
      intro w1 hh
      go_wp2
      go_ret
      exact ⟨ret_bool HF.out.symm,hWw.trans (hh.mono hWw.size)⟩
    | true =>
      have HN := Lib.hid (HT.out.next hlt hr)
      replace hcon := hcon true hr
      clear hr
      go_wp2
      refine wp_region_aft (Below.refl wr.heap.size wr) (by kernel_rfl) (by kernel_rfl) ?_
      repeat (go_big_quiet_step (((go_at_call 80; exact calls_aft (Nat.le_refl _) (hcon _)))))
      refine wpQuiet_nil ?_
      refine aft_end ?_
      intro w1 hh
      go_wp2
      go_roundw
      case rel => exact ⟨k + 1,by omega,by go_num,HN,hW.trans (hh.mono HZ.out)⟩
      case measure => simp [intOf]; omega
  · obtain rfl : k = l.length := by omega
    have HF := Lib.hid (okM_end HT.out)
    have hcon := fun (b : Bool) (h : instOk x = b) => specIsValidInstance_at1 x b h (.agg #[.slice P x.rels.length c,.slice Q x.facts.length d]) wr ((HX.out.below hWw (Nat.le_refl _)).more hWw.size) hw hn
    have HWw := Lib.hid hWw
    clear hz hWw
    cases hr : instOk x with
    | false =>
      replace hcon := hcon false hr
      rw [hr] at HF
      clear hr
      go_wp2_with (go_at_call 14; refine hcon.mono ?_; rintro e w1 ⟨rfl,hb1⟩)
      go_ret
      exact ⟨ret_bool HF.out.symm,HWw.out.trans (hb1.mono HWw.out.size)⟩
    | true =>
      replace hcon := hcon true hr
      rw [hr] at HF
      clear hr
      by_cases h3 : l.length ≤ 3
      · have hd : decide (l.length ≤ 3) = true := decide_eq_true h3
        have hd' : decide ((l.length : Int) ≤ 3) = true := decide_eq_true (by omega)
        rw [hd] at HF
        go_wp2_with (go_at_call 14; refine hcon.mono ?_; rintro e w1 ⟨rfl,hb1⟩)
        go_ret
        exact ⟨ret_bool HF.out.symm,HWw.out.trans (hb1.mono HWw.out.size)⟩
      · have hd : decide (l.length ≤ 3) = false := decide_eq_false h3
        have hd' : decide ((l.length : Int) ≤ 3) = false := decide_eq_false (by omega)
        rw [hd] at HF
        go_wp2_with (go_at_call 14; refine hcon.mono ?_; rintro e w1 ⟨rfl,hb1⟩)
        go_ret
        exact ⟨ret_bool HF.out.symm,HWw.out.trans (hb1.mono HWw.out.size)⟩
theorem okM_parts {x : Inst} {l : List Atm} (h : okM x l = true) : x.facts.length ≤ 30 ∧ l.length ≤ 3 ∧ ∀ (i : Nat) (h : i < l.length) (k : Nat) (hk : k < l[i].vals.length), l[i].vals[k] < 5 := by
 unfold okM at h
 simp only [Bool.and_eq_true,decide_eq_true_eq,List.all_eq_true] at h
 refine ⟨(instOk_parts h.2.1).2.2,h.2.2,fun i hi k hk => ?_⟩
 have h1 := h.1 l[i] (List.getElem_mem hi)
 unfold atomOk at h1
 simp only [Bool.and_eq_true,decide_eq_true_eq,List.all_eq_true] at h1
 have h2 := h1.2.2.2 l[i].vals[k] (List.getElem_mem hk)
 unfold validT inB at h2
 simp only [decide_eq_true_eq] at h2
 omega
def addRow {α : Type} (f : α → List Int) (acc : List α) (p : α) : List α := if acc.any (fun q => cmpInts (f q) (f p) == 0) = true then acc else acc ++ [p]
def dedupR {α : Type} (f : α → List Int) (l : List α) : List α := l.foldl (addRow f) []
theorem dedupR_next {α : Type} (f : α → List Int) (l : List α) (k : Nat) (hk : k < l.length) : dedupR f (l.take (k + 1)) = addRow f (dedupR f (l.take k)) l[k] := by
 unfold dedupR; rw [List.take_succ_eq_append_getElem hk,List.foldl_append]; rfl
theorem foldl_addRow_map {α : Type} (f : α → List Int) (l acc : List α) : (l.foldl (addRow f) acc).map f = (l.map f).foldl (addRow id) (acc.map f) := by
 induction l generalizing acc with
 | nil => rfl
 | cons p t ih =>
   rw [List.foldl_cons,ih,List.map_cons,List.foldl_cons]
   congr 1
   unfold addRow
   rw [List.any_map]
   show (if (acc.any fun q => cmpInts (f q) (f p) == 0) = true then acc else acc ++ [p]).map f = if (acc.any fun q => cmpInts (f q) (f p) == 0) = true then acc.map f else acc.map f ++ [f p]
   split
   · rfl
   · rw [List.map_append]; rfl
theorem dedupR_map {α : Type} (f : α → List Int) (l : List α) : (dedupR f l).map f = dedupR id (l.map f) := foldl_addRow_map f l []
theorem foldl_addRow_sub {α : Type} (f : α → List Int) (l acc : List α) : List.Sublist (l.foldl (addRow f) acc) (acc ++ l) := by
 induction l generalizing acc with
 | nil => rw [List.append_nil]; exact List.Sublist.refl _
 | cons p t ih =>
   rw [List.foldl_cons]
   refine (ih (addRow f acc p)).trans ?_
   unfold addRow
   split
   · exact (List.Sublist.refl acc).append (List.sublist_cons_self p t)
   · rw [List.append_assoc]; exact List.Sublist.refl _
theorem dedupR_sub {α : Type} (f : α → List Int) (l : List α) : List.Sublist (dedupR f l) l := foldl_addRow_sub f l []
def FindMatches_r0 (x : Inst) (l : List Atm) : List (List Int) := if okM x l = true then dedupR id (walkM x.facts l blank5) else []
theorem find_no {x : Inst} {l : List Atm} (h : okM x l = false) : FindMatches_r0 x l = [] := by unfold FindMatches_r0; rw [h]; rfl
theorem find_yes {x : Inst} {l : List Atm} (h : okM x l = true) : FindMatches_r0 x l = dedupR id (walkM x.facts l blank5) := by unfold FindMatches_r0; rw [h]; rfl
theorem IntSSO.chgS {S : Nat → Prop} {B C : Nat} {v : Value} {Vs : List Value} {l : List (List Int)} {w w' : World} (h : IntSSO B C v Vs l w) (hc : Chg S w w') (hS : ∀ q, B ≤ q → q < C → ¬ S q) : IntSSO B C v Vs l w' :=
 ⟨h.len,hc.row h.row (fun g hg => hS g (World.ownsRow.lt h.row g hg).1 (h.ins g hg)),h.ins,fun i h1 h2 => ⟨(h.el i h1 h2).1.chg hc (fun q hq => hS q (World.ownsRow.lt (h.el i h1 h2).1 q hq).1 ((h.el i h1 h2).2 q hq)),(h.el i h1 h2).2⟩,h.dis⟩
def fillT (b : List Int) (t : Int) : Int := if t < 0 then -1 - t else b.getD t.toNat 0
def extB (b c : List Int) : Prop := c.length = b.length ∧ ∀ i, b.getD i 0 ≠ 10 → c.getD i 0 = b.getD i 0
theorem extB.refl (b : List Int) : extB b b := ⟨rfl, fun _ _ => rfl⟩
theorem extB.trans {a b c : List Int} (h : extB a b) (h' : extB b c) : extB a c := ⟨h'.1.trans h.1, fun i hi => by
 have e := h.2 i hi
 rw [h'.2 i (by rw [e]; exact hi),e]⟩
theorem getD_set (b : List Int) (i j : Nat) (v : Int) : (b.set i v).getD j 0 = if i = j ∧ i < b.length then v else b.getD j 0 := by
 simp only [List.getD_eq_getElem?_getD,List.getElem?_set]
 by_cases h : i = j
 · subst h
   by_cases h2 : i < b.length
   · simp [h2]
   · simp [h2]
 · simp [h]
theorem fillT_ext {b c : List Int} {t : Int} (h : extB b c) (h1 : fillT b t ≠ 10) : fillT c t = fillT b t := by
 unfold fillT at h1 ⊢
 by_cases ht : t < 0
 · rw [if_pos ht,if_pos ht]
 · rw [if_neg ht] at h1
   rw [if_neg ht,if_neg ht]; exact h.2 _ h1
theorem fitL_fill (ts vs b : List Int) (hlen : ts.length = vs.length) (hv : ∀ v ∈ vs, v ≠ 10) (ht : ∀ t ∈ ts, t.toNat < b.length) (h : (fitL ts vs b).2 = true) :
 extB b (fitL ts vs b).1 ∧ ts.map (fillT (fitL ts vs b).1) = vs ∧ ∀ i,(∀ t ∈ ts,0 ≤ t → t.toNat ≠ i) → (fitL ts vs b).1.getD i 0 = b.getD i 0 := by
 induction ts generalizing vs b with
 | nil =>
   cases vs with
   | nil => rw [fitL]; exact ⟨extB.refl b,rfl,fun _ _ => rfl⟩; intro _ _ _ _ h; cases h
   | cons => simp at hlen
 | cons t ts ih =>
   cases vs with
   | nil => simp at hlen
   | cons v vs =>
     have hv0 := hv v (by simp)
     have hvs : ∀ v ∈ vs,v ≠ 10 := fun v hv' => hv v (by simp [hv'])
     have hl : ts.length = vs.length := by simpa using hlen
     have ht0 := ht t (by simp)
     have hts : ∀ t ∈ ts,t.toNat < b.length := fun t h' => ht t (by simp [h'])
     rw [fitL] at h ⊢
     by_cases h1 : t < 0
     · rw [if_pos h1] at h ⊢
       by_cases h2 : -1 - t = v
       · rw [if_pos h2] at h ⊢
         obtain ⟨g1,g2,g3⟩ := ih vs b hl hvs hts h
         refine ⟨g1,?_,fun i hi => g3 i fun t ht => hi t (by simp [ht])⟩
         rw [List.map_cons,g2]
         unfold fillT; rw [if_pos h1,h2]
       · rw [if_neg h2] at h; cases h
     · rw [if_neg h1] at h ⊢
       by_cases h2 : b.getD t.toNat 0 = 10 ∨ b.getD t.toNat 0 = v
       · rw [if_pos h2] at h ⊢
         obtain ⟨g1,g2,g3⟩ := ih vs (b.set t.toNat v) hl hvs (by simpa using hts) h
         have hb1 : (b.set t.toNat v).getD t.toNat 0 = v := by rw [getD_set,if_pos ⟨rfl,ht0⟩]
         refine ⟨extB.trans ⟨by simp,fun i hi => ?_⟩ g1,?_,fun i hi => ?_⟩
         · rw [getD_set]
           split
           · rename_i e
             obtain ⟨e,_⟩ := e
             subst e
             exact (h2.resolve_left hi).symm
           · rfl
         · rw [List.map_cons,g2]
           congr 1
           unfold fillT
           rw [if_neg h1,g1.2 _ (by rw [hb1]; exact hv0),hb1]
         · rw [g3 i fun t ht => hi t (by simp [ht]),getD_set,if_neg (fun e => hi t (by simp) (by omega) e.1)]
       · rw [if_neg h2] at h; cases h
theorem fitL_conv (ts vs b c : List Int) (hv : ∀ v ∈ vs, v ≠ 10) (he : extB b c) (h : ts.map (fillT c) = vs) : (fitL ts vs b).2 = true ∧ extB (fitL ts vs b).1 c := by
 induction ts generalizing vs b with
 | nil =>
   subst h
   rw [List.map_nil,fitL]
   · exact ⟨rfl,he⟩
   · intro _ _ _ _ h; cases h
 | cons t ts ih =>
   subst h
   rw [List.map_cons,fitL]
   rw [List.map_cons] at hv
   have hv0 := hv _ List.mem_cons_self
   have hvs : ∀ v ∈ ts.map (fillT c),v ≠ 10 := fun v hv' => hv v (List.mem_cons_of_mem _ hv')
   by_cases h1 : t < 0
   · rw [if_pos h1,if_pos (by unfold fillT; rw [if_pos h1])]
     exact ih _ _ hvs he rfl
   · have e : fillT c t = c.getD t.toNat 0 := by unfold fillT; rw [if_neg h1]
     have h2 : b.getD t.toNat 0 = 10 ∨ b.getD t.toNat 0 = fillT c t := by
      by_cases h3 : b.getD t.toNat 0 = 10
      · exact .inl h3
      · exact .inr (by rw [e,he.2 _ h3])
     rw [if_neg h1,if_pos h2]
     refine ih _ _ hvs ⟨by rw [List.length_set]; exact he.1,fun i hi => ?_⟩ rfl
     rw [getD_set] at hi ⊢
     split
     · rename_i e2
       obtain ⟨e2,_⟩ := e2
       subst e2
       exact e.symm
     · rename_i e2
       rw [if_neg e2] at hi
       exact he.2 i hi
theorem fitA_fill (a : Atm) (f : Fct) (b : List Int) (hv : ∀ v ∈ f.vals, v ≠ 10) (ht : ∀ t ∈ a.vals, t.toNat < b.length) (h : (fitA a f b).2 = true) :
 a.rel = f.rel ∧ extB b (fitA a f b).1 ∧ a.vals.map (fillT (fitA a f b).1) = f.vals ∧ ∀ i,(∀ t ∈ a.vals,0 ≤ t → t.toNat ≠ i) → (fitA a f b).1.getD i 0 = b.getD i 0 := by
 by_cases hc : a.rel = f.rel ∧ a.vals.length = f.vals.length
 · rw [fitA_yes hc.1 hc.2] at h ⊢
   exact ⟨hc.1,fitL_fill _ _ _ hc.2 hv ht h⟩
 · rw [fitA_no hc] at h; cases h
theorem fitA_conv (a : Atm) (f : Fct) (b c : List Int) (hv : ∀ v ∈ f.vals, v ≠ 10) (he : extB b c) (hr : a.rel = f.rel) (h : a.vals.map (fillT c) = f.vals) : (fitA a f b).2 = true ∧ extB (fitA a f b).1 c := by
 have hl : a.vals.length = f.vals.length := by rw [← h,List.length_map]
 rw [fitA_yes hr hl]
 exact fitL_conv _ _ _ _ hv he h
theorem walkM_mem (fs : List Fct) (hfs : ∀ f ∈ fs, ∀ v ∈ f.vals, v ≠ 10) (l : List Atm) (b c : List Int) (hl : ∀ a ∈ l, ∀ t ∈ a.vals, t.toNat < b.length) :
 c ∈ walkM fs l b ↔ extB b c ∧ (∀ a ∈ l,∃ f ∈ fs,a.rel = f.rel ∧ a.vals.map (fillT c) = f.vals) ∧ ∀ i,(∀ a ∈ l,∀ t ∈ a.vals,0 ≤ t → t.toNat ≠ i) → c.getD i 0 = b.getD i 0 := by
 induction l generalizing b with
 | nil =>
   unfold walkM
   rw [List.mem_singleton]
   constructor
   · rintro rfl
     exact ⟨extB.refl _,by simp,fun _ _ => rfl⟩
   · rintro ⟨h1,_,h3⟩
     refine List.ext_getElem h1.1 fun i hi hi' => ?_
     have := h3 i (by simp)
     simpa [List.getD,hi,hi'] using this
 | cons a r ih =>
   have hla : ∀ t ∈ a.vals,t.toNat < b.length := hl a (by simp)
   rw [walkM_cons,List.mem_flatMap]
   constructor
   · rintro ⟨f,hf,hc⟩
     unfold walkF at hc
     split at hc
     · rename_i h2
       obtain ⟨g1,g2,g3,g4⟩ := fitA_fill a f b (hfs f hf) hla h2
       obtain ⟨k1,k2,k3⟩ := (ih (fitA a f b).1 (fun a' ha' t ht => by rw [fitA_len]; exact hl a' (by simp [ha']) t ht)).1 hc
       refine ⟨g2.trans k1,fun a' ha' => ?_,fun i hi => ?_⟩
       · rcases List.mem_cons.1 ha' with rfl | h'
         · refine ⟨f,hf,g1,?_⟩
           rw [← g3]
           refine List.map_congr_left fun t ht => fillT_ext k1 ?_
           have : fillT (fitA a' f b).1 t ∈ f.vals := by rw [← g3]; exact List.mem_map_of_mem ht
           exact hfs f hf _ this
         · exact k2 a' h'
       · rw [k3 i fun a' ha' => hi a' (by simp [ha']),g4 i (hi a (by simp))]
     · cases hc
   · rintro ⟨h1,h2,h3⟩
     obtain ⟨f,hf,e1,e2⟩ := h2 a (by simp)
     obtain ⟨g1,g2⟩ := fitA_conv a f b c (hfs f hf) h1 e1 e2
     refine ⟨f,hf,?_⟩
     unfold walkF
     rw [if_pos g1]
     refine (ih (fitA a f b).1 (fun a' ha' t ht => by rw [fitA_len]; exact hl a' (by simp [ha']) t ht)).2 ⟨g2,fun a' ha' => h2 a' (by simp [ha']),fun i hi => ?_⟩
     obtain ⟨k1,k2,k3,k4⟩ := fitA_fill a f b (hfs f hf) hla g1
     by_cases hs : (fitA a f b).1.getD i 0 = 10
     · have hn : ∀ t ∈ a.vals,0 ≤ t → t.toNat ≠ i := fun t ht h0 e => by
        subst e
        have h5 : fillT (fitA a f b).1 t ∈ f.vals := by rw [← k3]; exact List.mem_map_of_mem ht
        have h6 : fillT (fitA a f b).1 t = (fitA a f b).1.getD t.toNat 0 := by unfold fillT; rw [if_neg (by omega)]
        exact hfs f hf _ h5 (by rw [h6,hs])
       rw [k4 i hn]
       refine h3 i fun a' ha' => ?_
       rcases List.mem_cons.1 ha' with rfl | h'
       · exact hn
       · exact hi a' h'
     · exact g2.2 i hs
theorem walkM_nodup (fs : List Fct) (hfs : ∀ f ∈ fs, ∀ v ∈ f.vals, v ≠ 10) (hn : fs.Nodup) (l : List Atm) (b : List Int) (hl : ∀ a ∈ l, ∀ t ∈ a.vals, t.toNat < b.length) : (walkM fs l b).Nodup := by
 induction l generalizing b with
 | nil => simp [walkM]
 | cons a r ih =>
   rw [walkM_cons]
   have hla : ∀ t ∈ a.vals,t.toNat < b.length := hl a (by simp)
   have hr (f : Fct) : ∀ a' ∈ r,∀ t ∈ a'.vals,t.toNat < (fitA a f b).1.length := fun a' ha' t ht => by rw [fitA_len]; exact hl a' (by simp [ha']) t ht
   have key (f : Fct) (hf : f ∈ fs) (c : List Int) (hc : c ∈ walkF fs a r b f) : a.rel = f.rel ∧ a.vals.map (fillT c) = f.vals := by
    unfold walkF at hc
    split at hc
    · rename_i h2
      obtain ⟨g1,g2,g3,g4⟩ := fitA_fill a f b (hfs f hf) hla h2
      obtain ⟨k1,-,-⟩ := (walkM_mem fs hfs r _ c (hr f)).1 hc
      refine ⟨g1,?_⟩
      rw [← g3]
      refine List.map_congr_left fun t ht => fillT_ext k1 ?_
      have : fillT (fitA a f b).1 t ∈ f.vals := by rw [← g3]; exact List.mem_map_of_mem ht
      exact hfs f hf _ this
    · cases hc
   refine List.pairwise_flatMap.2 ⟨fun f hf => ?_,?_⟩
   · unfold walkF
     split
     · exact ih _ (hr f)
     · exact List.nodup_nil
   · refine List.Pairwise.imp_of_mem (fun {f g} hf hg hne => ?_) hn
     rintro c hc _ hd rfl
     obtain ⟨e1,e2⟩ := key f hf c hc
     obtain ⟨e3,e4⟩ := key g hg c hd
     refine hne ?_
     cases f; cases g
     simp only at e1 e2 e3 e4
     rw [← e1,← e2,← e3,← e4]
theorem instT_eq {b : List Int} {t : Int} (h : t < b.length) : instT b t = if validV (fillT b t) = true then some (fillT b t) else none := by
 unfold instT fillT
 by_cases h1 : 0 ≤ t
 · have h2 : t.toNat < b.length := by omega
   have h3 : ¬ t < 0 := by omega
   rw [if_pos h1,dif_pos h2,if_neg h3]
   simp [List.getD,h2]
 · have h3 : t < 0 := by omega
   rw [if_neg h1,if_pos h3]
theorem dedupR_nodup (l : List (List Int)) (h : l.Nodup) : dedupR id l = l := by
 suffices hs : ∀ (l acc : List (List Int)),(acc ++ l).Nodup → l.foldl (addRow id) acc = acc ++ l by
  have := hs l [] (by simpa using h)
  simpa [dedupR] using this
 intro l
 induction l with
 | nil => intro acc _; simp
 | cons p t ih =>
   intro acc hn
   rw [List.foldl_cons]
   have hp : p ∉ acc := fun hm => (List.nodup_append.1 hn).2.2 p hm p (by simp) rfl
   have e : addRow id acc p = acc ++ [p] := by
    unfold addRow
    rw [if_neg]
    rw [List.any_eq_true]
    rintro ⟨q,hq,h2⟩
    have h3 : cmpInts q p = 0 := by simpa using h2
    rw [cmpInts_zero] at h3
    exact hp (h3 ▸ hq)
   rw [e,ih _ (by simpa using hn)]
   simp
theorem instOk_nodup {x : Inst} (h : instOk x = true) : x.facts.Nodup := by
 refine ((instOk_iff x).1 h).2.1.imp fun {a b} hab e => ?_
 subst e
 rw [cmpF_self] at hab; omega
theorem validV_ne {v : Int} (h : validV v = true) : v ≠ 10 := by
 unfold validV at h
 have := of_decide_eq_true h
 omega
theorem instOk_val {x : Inst} (h : instOk x = true) : ∀ f ∈ x.facts, ∀ v ∈ f.vals, validV v = true := by
 intro f hf v hv
 obtain ⟨k,hk,rfl⟩ := List.getElem_of_mem hv
 exact (factOk_parts (((instOk_iff x).1 h).1 f hf).1).2.2.2 k hk
theorem okM_at {x : Inst} {l : List Atm} (h : okM x l = true) : ∀ a ∈ l, atomOk x.rels a.rel a.vals = true := by
 unfold okM at h
 simp only [Bool.and_eq_true,List.all_eq_true] at h
 exact h.1
theorem okM_inst {x : Inst} {l : List Atm} (h : okM x l = true) : instOk x = true := by
 unfold okM at h
 simp only [Bool.and_eq_true] at h
 exact h.2.1
theorem atomOk_t {l : List Rel} {a : Atm} (h : atomOk l a.rel a.vals = true) : ∀ t ∈ a.vals, -10 ≤ t ∧ t.toNat < 5 := by
 intro t ht
 obtain ⟨k,hk,rfl⟩ := List.getElem_of_mem ht
 have h1 := (atomOk_parts h).2.2.2 k hk
 unfold validT inB at h1
 have := of_decide_eq_true h1
 omega
theorem find_walk {x : Inst} {l : List Atm} (h : okM x l = true) : FindMatches_r0 x l = walkM x.facts l blank5 := by
 rw [find_yes h]
 exact dedupR_nodup _ (walkM_nodup x.facts (fun f hf v hv => validV_ne (instOk_val (okM_inst h) f hf v hv)) (instOk_nodup (okM_inst h)) l blank5 (fun a ha t ht => (atomOk_t (okM_at h a ha) t ht).2))
theorem blank5_get (i : Nat) : blank5.getD i 0 = if i < 5 then 10 else 0 := by
 unfold blank5
 rw [List.getD_eq_getElem?_getD,List.getElem?_replicate]
 split <;> rfl
def hasExt (x : Inst) (l : List Atm) (b : List Int) : Bool := okM x l && (decide (b.length = 5) && decide (0 < (walkM x.facts l b).length))
set_option maxHeartbeats 3200000 in
set_option maxRecDepth 100000 in
theorem specHasExt_any (v u : Value) (x : Inst) (l : List Atm) (bv : Value) (b : List Int) (w : World) (hx : Instance_at w w.heap.size v x) (hxw : Instance_wf x) (hn : x.rels.length ≤ 1048576) (hl : AtomS_at w w.heap.size u l) (hlw : AtomS_wf l) (hb : IntsAt w w.heap.size bv b) :
 Calls Tryz.prog 126 #[v,u,bv] w fun e w' => e = .returned (.bool (hasExt x l b)) ∧ Below w.heap.size w w' := by
 have HX := Lib.hid hx
 have HL := Lib.hid hl
 have HB := Lib.hid hb
 obtain ⟨P,c,Q,d,rfl⟩ := Instance_form hx
 obtain ⟨R,q,rfl,hq1,hq2⟩ := hl.form
 obtain ⟨S,t,rfl,ht1,ht2,-,-⟩ := hb
 unfold maxLen at hq2 ht2
 clear hx hl
 obtain ⟨E,hEq⟩ : ∃ E,E = w.alloc (.cells #[.slice P x.rels.length c,.slice Q x.facts.length d] 27) := ⟨_,rfl⟩
 have hE : Below w.heap.size w E := by rw [hEq]; exact below_more (Below.refl _ _) _
 have X0 : E.cell? ⟨w.heap.size,0,none⟩ = some (.slice P x.rels.length c) := by rw [hEq]; simp [go_sem]
 have X1 : E.cell? ⟨w.heap.size,1,none⟩ = some (.slice Q x.facts.length d) := by rw [hEq]; simp [go_sem]
 have hEz : w.heap.size < E.heap.size := by rw [hEq]; simp
 have hok := specL11Ok_len _ x _ l E ((HX.out.below hE (Nat.le_refl _)).more hE.size) hxw hn ((HL.out.below hE (Nat.le_refl _)).more hE.size) hlw
 rw [hEq] at hok
 obtain ⟨ok,hk⟩ : ∃ ok,okM x l = ok := ⟨_,rfl⟩
 rw [hk] at hok
 go_enter Tryz.func126,Tryz.ntmps126
 go_wp2_with fail
 refine hok.mono ?_
 rintro e w1 ⟨rfl,hb1⟩
 rw [← hEq] at hb1
 clear hEq hok
 have hw1 := hE.trans (hb1.mono hE.size)
 have x0 := (hb1.cell (p := ⟨w.heap.size,0,none⟩) hEz).trans X0
 have x1 := (hb1.cell (p := ⟨w.heap.size,1,none⟩) hEz).trans X1
 have HW1 := Lib.hid hw1
 clear X0 X1 hb1 hEz hw1
 cases ok with
 | false =>
   have HF := Lib.hid (show hasExt x l b = false by unfold hasExt; rw [hk]; rfl)
   clear hk
   go_wp2
   go_ret
   exact ⟨ret_bool HF.out.symm,HW1.out⟩
 | true =>
   obtain ⟨h30,h3,h5⟩ := okM_parts hk
   by_cases hb5 : b.length = 5
   · have d5 : ((b.length : Int) == 5) = true := by rw [hb5]; rfl
     have hwk := specL11Walk_any _ _ x l hxw h30 hlw h3 h5 l.length 0 (.slice S b.length t) b w1 (by omega) ((HX.out.below HW1.out (Nat.le_refl _)).more HW1.out.size) ((HL.out.below HW1.out (Nat.le_refl _)).more HW1.out.size) ((HB.out.below HW1.out (Nat.le_refl _)).more HW1.out.size) hb5
     have HF := Lib.hid (show hasExt x l b = decide (0 < (walkM x.facts l b).length) by unfold hasExt; rw [hk,decide_eq_true hb5]; rfl)
     have HB5 := Lib.hid hb5
     clear hk h30 h3 h5 hb5
     go_wp2_with fail
     refine hwk.mono ?_
     rintro e w2 ⟨U,Us,rfl,⟨g,hg⟩,hS,hb2⟩
     obtain ⟨cu,rfl,-⟩ := own_some hS.row hg
     have hlen : Us.length = (walkM x.facts l b).length := by have := hS.len; rwa [List.drop_zero] at this
     rw [← hlen] at HF
     have hw2 := HW1.out.trans (hb2.mono HW1.out.size)
     clear hS hg hwk hlen
     go_wp2
     go_ret
     exact ⟨ret_bool (by rw [HF.out] <;> simp),hw2⟩
   · have d5 : ((b.length : Int) == 5) = false := by rw [beq_eq_false_iff_ne]; omega
     have HF := Lib.hid (show hasExt x l b = false by unfold hasExt; rw [decide_eq_false hb5] <;> simp)
     clear hk hb5 h30 h3 h5
     go_wp2
     go_ret
     exact ⟨ret_bool HF.out.symm,HW1.out⟩
end Go.Proofs.YtobdijcnfmgidaaGreat
