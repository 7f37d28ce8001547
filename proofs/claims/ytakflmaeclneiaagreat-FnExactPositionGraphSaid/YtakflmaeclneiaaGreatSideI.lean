/-
  Walks and plain lemmas for the laws of this seat: what single Go functions return, for every argument.
-/
import Derived.Test.YtakflmaeclneiaaGreatTyAtom
import Derived.Test.YtakflmaeclneiaaGreatRels
import Derived.Test.YtakflmaeclneiaaGreatFact
import Derived.Test.YtakflmaeclneiaaGreatVarsI
import Derived.Test.YtakflmaeclneiaaGreatEdgHas
import Derived.Test.YtakflmaeclneiaaGreatIxA
namespace Go.Proofs.YtakflmaeclneiaaGreat
open Go.RowKit

/-- what a body and a TGD's head have in common -/
def sideOk (l : List Rel) (ts : List Atm) : Bool := inB (ts.length : Nat) 1 2 && ts.all (atomB l)
set_option maxHeartbeats 1600000 in
set_option maxRecDepth 100000 in
theorem implSide_at (l : List Rel) (ts : List Atm) (q : Bool) (hq : sideOk l ts = q) (v u : Value) (w : World) (hl : RelsAt w w.heap.size v l) (hf : AtomS_at w w.heap.size u ts) :
    Calls Tryz.prog 56 #[v, u] w fun e w' => e = .returned (.bool q) ∧ Below w.heap.size w w' := by
  subst hq
  have HL := Lib.hid hl
  have HF := Lib.hid hf
  obtain ⟨A, c, rfl, hlc, hcm, -⟩ := hl
  obtain ⟨A', c', rfl, hlc', hcm'⟩ := hf.form
  clear hf
  unfold maxLen at hcm hcm'
  by_cases h1 : (ts.length : Int) < 1
  · have HV := Lib.hid (show sideOk l ts = false by unfold sideOk inB; rw [decide_eq_false (by omega)]; rfl)
    have h0 : ts.length = 0 := by omega
    rw [h0]
    clear h1
    go_enter Tryz.func56, Tryz.ntmps56
    go_wp2
    go_ret
    exact ⟨ret_bool HV.out.symm, Below.refl _ _⟩
  · have hd1 : decide ((ts.length : Int) < 1) = false := decide_eq_false h1
    by_cases h2 : (2 : Int) < ts.length
    · have HV := Lib.hid (show sideOk l ts = false by unfold sideOk inB; rw [decide_eq_false (by omega)]; rfl)
      have hd2 : decide ((2 : Int) < ts.length) = true := decide_eq_true h2
      go_enter Tryz.func56, Tryz.ntmps56
      go_wp2
      go_ret
      exact ⟨ret_bool HV.out.symm, Below.refl _ _⟩
    · have HA := Lib.hid (show sideOk l ts = ts.all (atomB l) by unfold sideOk inB; rw [decide_eq_true (by omega)]; rfl)
      have hd2 : decide ((2 : Int) < ts.length) = false := decide_eq_false h2
      go_enter Tryz.func56, Tryz.ntmps56
      go_wp2
      go_loopw [17] (fun i wr => ∃ j : Nat, j ≤ ts.length ∧ i = .int .i64 j ∧ Hid (AllTo (atomB l) ts j) ∧ Below w.heap.size w wr) (fun i _ => ts.length - (intOf i).toNat)
      case atStart => exact ⟨0, by omega, rfl, Lib.hid (AllTo.zero _ _), Below.refl _ _⟩
      case round =>
        obtain ⟨j, hj, rfl, HT, hW⟩ := hrel
        have hz := hW.size
        by_cases hlt : j < ts.length
        · obtain ⟨b, off, V, rfl, hb, c0, c1, hV⟩ := AtomS_at.elem HF.out j hlt
          obtain ⟨PV, cV, rfl, -⟩ := id hV
          replace c0 := (hW.cell (p := ⟨b, off + j * 2, none⟩) hb).trans c0
          replace c1 := (hW.cell (p := ⟨b, off + j * 2 + 1, none⟩) hb).trans c1
          have hE : Below wr.heap.size wr (wr.alloc (.cells #[.int .i64 ts[j].rel, .slice PV ts[j].vals.length cV] 72)) := below_more (Below.refl _ _) _
          have hWE := hW.trans (hE.mono hz)
          have hcon := fun (q : Bool) (hq : atomB l ts[j] = q) => implIsValidAtom_at l ts[j] q hq (.slice A l.length c) (.agg #[.int .i64 ts[j].rel, .slice PV ts[j].vals.length cV]) _ ((HL.out.below hWE (Nat.le_refl _)).more hWE.size) ⟨_, rfl, (hV.below hWE (Nat.le_refl _)).more hWE.size⟩
          have HWE := Lib.hid hWE
          clear hE hWE hV
          cases hv : atomB l ts[j] with
          | false =>
            have HV := Lib.hid (HA.out.trans (all_no hlt hv))
            replace hcon := hcon false hv
            clear hv
            go_wp2_with (go_at_call 66; refine hcon.mono ?_; rintro e w3 ⟨rfl, hb3⟩)
            go_ret
            exact ⟨ret_bool HV.out.symm, HWE.out.trans (hb3.mono HWE.out.size)⟩
          | true =>
            have HN := Lib.hid (HT.out.next hlt hv)
            replace hcon := hcon true hv
            clear hv
            go_wp2_with (go_at_call 66; refine hcon.mono ?_; rintro e w3 ⟨rfl, hb3⟩)
            go_roundw
            case rel => exact ⟨j + 1, by omega, by go_num, HN, HWE.out.trans (hb3.mono HWE.out.size)⟩
            case measure => simp [intOf]; omega
        · obtain rfl : j = ts.length := by omega
          have HV := Lib.hid (HA.out.trans HT.out.full)
          go_wp2
          go_ret
          exact ⟨ret_bool HV.out.symm, hW⟩

/-- relations in a box, which a function value has captured; all of it below block D -/
def BoxL (b D : Nat) (l : List Rel) (V : Value) (W : World) : Prop := (b < D ∧ D ≤ W.heap.size) ∧ W.cell? ⟨b, 0, none⟩ = some V ∧ RelsAt W D V l
theorem BoxL.below {b D D' : Nat} {l : List Rel} {V : Value} {W W' : World} (h : BoxL b D l V W) (hb : Below D' W W') (hD : D ≤ D') : BoxL b D l V W' := by
  obtain ⟨⟨h1, h2⟩, h3, h4⟩ := h
  exact ⟨⟨h1, Nat.le_trans h2 hb.size⟩, (hb.cell (p := ⟨b, 0, none⟩) (Nat.lt_of_lt_of_le h1 hD)).trans h3, h4.below hb hD⟩
theorem BoxL.later {b D : Nat} {l : List Rel} {V : Value} {W W' : World} (h : BoxL b D l V W) (hb : Below W.heap.size W W') : BoxL b D l V W' := h.below hb h.1.2
theorem srcAt_in {l : List Rel} {k : Nat} (h : k < l.length) : srcAt l (k : Int) = l[k].source := by unfold srcAt; rw [Int.toNat_natCast, getD_at h]
set_option maxHeartbeats 800000 in
theorem tells_source (b D : Nat) (rels : List Rel) (P : Option Addr) (c : Nat) (l : List Atm) (hin : ∀ f ∈ l, 0 ≤ f.rel ∧ f.rel < rels.length) : TellsA 70 #[.pointer (some ⟨b, 0, none⟩)] (BoxL b D rels (.slice P rels.length c)) (fun f => srcAt rels f.rel) l := by
  intro W x U hG hx hU
  obtain ⟨⟨h1, h2⟩, h4, h6⟩ := hG
  obtain ⟨Q, d, rfl, -⟩ := id hU
  have hxi := hin x hx
  obtain ⟨k, hkr⟩ : ∃ k : Nat, x.rel = (k : Int) := ⟨x.rel.toNat, by omega⟩
  have hk : k < rels.length := by omega
  obtain ⟨_, _, hv6, h7, h8, -⟩ := id h6
  injection hv6 with e1 _ e2
  subst e1 e2
  unfold maxLen at h8
  obtain ⟨b', off, rfl, hb, -, -, c2⟩ := RelsAt.elem h6 k hk
  have HV := Lib.hid (show rels[k].source = srcAt rels x.rel by rw [hkr, srcAt_in hk])
  have hE : Below W.heap.size W (W.alloc (.cells #[.int .i64 (k : Int), .slice Q x.vals.length d] 72)) := below_more (Below.refl _ _) _
  have g0 := (hE.cell (p := ⟨b, 0, none⟩) (by show b < _; omega)).trans h4
  have g2 := (hE.cell (p := ⟨b', off + k * 3 + 2, none⟩) (by show b' < _; omega)).trans c2
  have hbW : b < W.heap.size := by omega
  have hbW' : b' < W.heap.size := by omega
  show Calls Tryz.prog 70 #[.agg #[.int .i64 x.rel, .slice Q x.vals.length d], .pointer (some ⟨b, 0, none⟩)] W _
  simp only [hkr] at HV ⊢
  clear hkr hU h4 c2 hxi hx hin h6
  generalize rels[k].source = so at *
  go_enter Tryz.func70, Tryz.ntmps70
  go_wp2
  go_ret
  exact ⟨ret_bool HV.out, hE⟩
set_option maxHeartbeats 800000 in
theorem implHasSource_at (l : List Rel) (ts : List Atm) (q : Bool) (hq : ts.any (fun f => srcAt l f.rel) = q) (hin : ∀ f ∈ ts, 0 ≤ f.rel ∧ f.rel < l.length) (v u : Value) (w : World) (hl : RelsAt w w.heap.size v l) (hf : AtomS_at w w.heap.size u ts) :
    Calls Tryz.prog 58 #[v, u] w fun e w' => e = .returned (.bool q) ∧ Below w.heap.size w w' := by
  subst hq
  have HL := Lib.hid hl
  obtain ⟨A, c, rfl, hlc, hcm, -⟩ := hl
  have hE : Below w.heap.size w (w.alloc (.cells #[.slice A l.length c] 28)) := below_more (Below.refl _ _) _
  have hc := implAnyA_any 70 #[.pointer (some ⟨w.heap.size, 0, none⟩)] (enters_of Tryz.func70 (by kernel_rfl) rfl) (BoxL w.heap.size (w.alloc (.cells #[.slice A l.length c] 28)).heap.size l (.slice A l.length c)) (fun _ _ h hb => h.later hb) (fun f => srcAt l f.rel) u ts (w.alloc (.cells #[.slice A l.length c] 28))
    ⟨⟨by simp, Nat.le_refl _⟩, by simp [go_sem], (HL.out.below hE (Nat.le_refl _)).more hE.size⟩ (tells_source _ _ _ _ _ _ hin) ((hf.below hE (Nat.le_refl _)).more hE.size)
  obtain ⟨A', d, rfl, -⟩ := hf.form
  clear hf
  go_enter Tryz.func58, Tryz.ntmps58
  go_wp2_with (go_at_call 69; refine hc.mono ?_; rintro e w1 ⟨rfl, hb1⟩)
  go_ret
  exact ⟨rfl, hE.trans (hb1.mono hE.size)⟩

def egdOk (x : Dep) : Bool := ((x.head.length : Nat) : Int) == 0 && (decide (x.left ∈ varsOf x.body) && (decide (x.right ∈ varsOf x.body) && decide (x.left < x.right)))
theorem egdOk_is (x : Dep) (a b : Bool) (h1 : decide (x.left ∈ varsOf x.body) = a) (h2 : decide (x.right ∈ varsOf x.body) = b) : egdOk x = (((x.head.length : Nat) : Int) == 0 && (decide (x.left < x.right) && (a && b))) := by
  unfold egdOk; rw [h1, h2]
  cases a <;> cases b <;> simp
set_option maxHeartbeats 3200000 in
set_option maxRecDepth 100000 in
theorem implEquality_at (x : Dep) (q : Bool) (hq : egdOk x = q) (v : Value) (w : World) (h : Dependency_at w w.heap.size v x) (hn1 : AtomS_sz x.body ≤ 1048576) :
    Calls Tryz.prog 57 #[v] w fun e w' => e = .returned (.bool q) ∧ Below w.heap.size w w' := by
  subst hq
  obtain ⟨P, c, Q, d, rfl⟩ := Dependency_form h
  obtain ⟨V1, V2, hv, hR, hF⟩ := h
  simp only [Value.agg.injEq, Array.mk.injEq, List.cons.injEq, and_true] at hv
  obtain ⟨rfl, rfl⟩ := hv
  have hE : Below w.heap.size w (w.alloc (.cells #[.slice P x.body.length c, .slice Q x.head.length d, .bool x.egd, .int .i64 x.left, .int .i64 x.right] 51)) := below_more (Below.refl _ _) _
  have hEz : w.heap.size < (w.alloc (.cells #[.slice P x.body.length c, .slice Q x.head.length d, .bool x.egd, .int .i64 x.left, .int .i64 x.right] 51)).heap.size := by simp
  have K1 := Lib.hid (show (w.alloc (.cells #[.slice P x.body.length c, .slice Q x.head.length d, .bool x.egd, .int .i64 x.left, .int .i64 x.right] 51)).cell? ⟨w.heap.size, 1, none⟩ = some (.slice Q x.head.length d) by simp [go_sem])
  have K3 := Lib.hid (show (w.alloc (.cells #[.slice P x.body.length c, .slice Q x.head.length d, .bool x.egd, .int .i64 x.left, .int .i64 x.right] 51)).cell? ⟨w.heap.size, 3, none⟩ = some (.int .i64 x.left) by simp [go_sem])
  have K4 := Lib.hid (show (w.alloc (.cells #[.slice P x.body.length c, .slice Q x.head.length d, .bool x.egd, .int .i64 x.left, .int .i64 x.right] 51)).cell? ⟨w.heap.size, 4, none⟩ = some (.int .i64 x.right) by simp [go_sem])
  have c1 := implVariables_any _ x.body _ ((hR.below hE (Nat.le_refl _)).more hE.size) hn1
  clear hR hF
  cases h1 : decide (x.left ∈ varsOf x.body) with
  | false =>
    have HV := Lib.hid (egdOk_is x false _ h1 rfl)
    by_cases hh : x.head.length = 0
    · have hd0 : (((x.head.length : Nat) : Int) == 0) = true := by rw [hh]; rfl
      rw [hd0] at HV
      have HH := Lib.hid hh
      clear hh
      cases hs : decide (x.left < x.right) with
      | false =>
        have HW := Lib.hid (HV.out.trans (by rw [hs]; rfl : _ = false))
        clear HV
        go_enter Tryz.func57, Tryz.ntmps57
        go_wp2_with fail
        refine c1.mono ?_
        rintro e w1 ⟨u, rfl, ho, hb1⟩
        have f1 := (hb1.cell (p := ⟨w.heap.size, 1, none⟩) hEz).trans K1.out
        have f3 := (hb1.cell (p := ⟨w.heap.size, 3, none⟩) hEz).trans K3.out
        have f4 := (hb1.cell (p := ⟨w.heap.size, 4, none⟩) hEz).trans K4.out
        have cl := implContains_at (varsOf x.body) x.left false h1 u w1 ho.at_
        clear c1 h1
        go_wp2_with (go_at_call 68; refine cl.mono ?_; rintro e w2 ⟨rfl, rfl⟩; clear cl)
        go_ret
        exact ⟨ret_bool HW.out.symm, hE.trans (hb1.mono hE.size)⟩
      | true =>
        have HW := Lib.hid (HV.out.trans (by rw [hs]; rfl : _ = false))
        clear HV
        go_enter Tryz.func57, Tryz.ntmps57
        go_wp2_with fail
        refine c1.mono ?_
        rintro e w1 ⟨u, rfl, ho, hb1⟩
        have f1 := (hb1.cell (p := ⟨w.heap.size, 1, none⟩) hEz).trans K1.out
        have f3 := (hb1.cell (p := ⟨w.heap.size, 3, none⟩) hEz).trans K3.out
        have f4 := (hb1.cell (p := ⟨w.heap.size, 4, none⟩) hEz).trans K4.out
        have cl := implContains_at (varsOf x.body) x.left false h1 u w1 ho.at_
        clear c1 h1
        go_wp2_with (go_at_call 68; refine cl.mono ?_; rintro e w2 ⟨rfl, rfl⟩; clear cl)
        go_ret
        exact ⟨ret_bool HW.out.symm, hE.trans (hb1.mono hE.size)⟩
    · have hd0 : (((x.head.length : Nat) : Int) == 0) = false := beq_eq_false_iff_ne.2 (by omega)
      have HW := Lib.hid (HV.out.trans (by rw [hd0]; rfl : _ = false))
      clear HV hh
      go_enter Tryz.func57, Tryz.ntmps57
      go_wp2_with fail
      refine c1.mono ?_
      rintro e w1 ⟨u, rfl, ho, hb1⟩
      have f1 := (hb1.cell (p := ⟨w.heap.size, 1, none⟩) hEz).trans K1.out
      have f3 := (hb1.cell (p := ⟨w.heap.size, 3, none⟩) hEz).trans K3.out
      have f4 := (hb1.cell (p := ⟨w.heap.size, 4, none⟩) hEz).trans K4.out
      have cl := implContains_at (varsOf x.body) x.left false h1 u w1 ho.at_
      clear c1 h1
      go_wp2_with (go_at_call 68; refine cl.mono ?_; rintro e w2 ⟨rfl, rfl⟩; clear cl)
      go_ret
      exact ⟨ret_bool HW.out.symm, hE.trans (hb1.mono hE.size)⟩
  | true =>
    cases h2 : decide (x.right ∈ varsOf x.body) with
    | false =>
      have HV := Lib.hid (egdOk_is x true false (h1) (h2))
      by_cases hh : x.head.length = 0
      · have hd0 : (((x.head.length : Nat) : Int) == 0) = true := by rw [hh]; rfl
        rw [hd0] at HV
        have HH := Lib.hid hh
        clear hh
        cases hs : decide (x.left < x.right) with
        | false =>
          have HW := Lib.hid (HV.out.trans (by rw [hs]; rfl : _ = false))
          clear HV
          go_enter Tryz.func57, Tryz.ntmps57
          go_wp2_with fail
          refine c1.mono ?_
          rintro e w1 ⟨u, rfl, ho, hb1⟩
          have f1 := (hb1.cell (p := ⟨w.heap.size, 1, none⟩) hEz).trans K1.out
          have f3 := (hb1.cell (p := ⟨w.heap.size, 3, none⟩) hEz).trans K3.out
          have f4 := (hb1.cell (p := ⟨w.heap.size, 4, none⟩) hEz).trans K4.out
          have cl := implContains_at (varsOf x.body) x.left true h1 u w1 ho.at_
          have cr := implContains_at (varsOf x.body) x.right false h2 u w1 ho.at_
          clear c1 h1 h2
          go_wp2_with (first | (go_at_call 68; refine cl.mono ?_; rintro e w2 ⟨rfl, rfl⟩; clear cl) | (go_at_call 68; refine cr.mono ?_; rintro e w2 ⟨rfl, rfl⟩; clear cr))
          go_ret
          exact ⟨ret_bool HW.out.symm, hE.trans (hb1.mono hE.size)⟩
        | true =>
          have HW := Lib.hid (HV.out.trans (by rw [hs]; rfl : _ = false))
          clear HV
          go_enter Tryz.func57, Tryz.ntmps57
          go_wp2_with fail
          refine c1.mono ?_
          rintro e w1 ⟨u, rfl, ho, hb1⟩
          have f1 := (hb1.cell (p := ⟨w.heap.size, 1, none⟩) hEz).trans K1.out
          have f3 := (hb1.cell (p := ⟨w.heap.size, 3, none⟩) hEz).trans K3.out
          have f4 := (hb1.cell (p := ⟨w.heap.size, 4, none⟩) hEz).trans K4.out
          have cl := implContains_at (varsOf x.body) x.left true h1 u w1 ho.at_
          have cr := implContains_at (varsOf x.body) x.right false h2 u w1 ho.at_
          clear c1 h1 h2
          go_wp2_with (first | (go_at_call 68; refine cl.mono ?_; rintro e w2 ⟨rfl, rfl⟩; clear cl) | (go_at_call 68; refine cr.mono ?_; rintro e w2 ⟨rfl, rfl⟩; clear cr))
          go_ret
          exact ⟨ret_bool HW.out.symm, hE.trans (hb1.mono hE.size)⟩
      · have hd0 : (((x.head.length : Nat) : Int) == 0) = false := beq_eq_false_iff_ne.2 (by omega)
        have HW := Lib.hid (HV.out.trans (by rw [hd0]; rfl : _ = false))
        clear HV hh
        go_enter Tryz.func57, Tryz.ntmps57
        go_wp2_with fail
        refine c1.mono ?_
        rintro e w1 ⟨u, rfl, ho, hb1⟩
        have f1 := (hb1.cell (p := ⟨w.heap.size, 1, none⟩) hEz).trans K1.out
        have f3 := (hb1.cell (p := ⟨w.heap.size, 3, none⟩) hEz).trans K3.out
        have f4 := (hb1.cell (p := ⟨w.heap.size, 4, none⟩) hEz).trans K4.out
        have cl := implContains_at (varsOf x.body) x.left true h1 u w1 ho.at_
        have cr := implContains_at (varsOf x.body) x.right false h2 u w1 ho.at_
        clear c1 h1 h2
        go_wp2_with (first | (go_at_call 68; refine cl.mono ?_; rintro e w2 ⟨rfl, rfl⟩; clear cl) | (go_at_call 68; refine cr.mono ?_; rintro e w2 ⟨rfl, rfl⟩; clear cr))
        go_ret
        exact ⟨ret_bool HW.out.symm, hE.trans (hb1.mono hE.size)⟩
    | true =>
      have HV := Lib.hid (egdOk_is x true true (h1) (h2))
      by_cases hh : x.head.length = 0
      · have hd0 : (((x.head.length : Nat) : Int) == 0) = true := by rw [hh]; rfl
        rw [hd0] at HV
        have HH := Lib.hid hh
        clear hh
        cases hs : decide (x.left < x.right) with
        | false =>
          have HW := Lib.hid (HV.out.trans (by rw [hs]; rfl : _ = false))
          clear HV
          go_enter Tryz.func57, Tryz.ntmps57
          go_wp2_with fail
          refine c1.mono ?_
          rintro e w1 ⟨u, rfl, ho, hb1⟩
          have f1 := (hb1.cell (p := ⟨w.heap.size, 1, none⟩) hEz).trans K1.out
          have f3 := (hb1.cell (p := ⟨w.heap.size, 3, none⟩) hEz).trans K3.out
          have f4 := (hb1.cell (p := ⟨w.heap.size, 4, none⟩) hEz).trans K4.out
          have cl := implContains_at (varsOf x.body) x.left true h1 u w1 ho.at_
          have cr := implContains_at (varsOf x.body) x.right true h2 u w1 ho.at_
          clear c1 h1 h2
          go_wp2_with (first | (go_at_call 68; refine cl.mono ?_; rintro e w2 ⟨rfl, rfl⟩; clear cl) | (go_at_call 68; refine cr.mono ?_; rintro e w2 ⟨rfl, rfl⟩; clear cr))
          go_ret
          exact ⟨ret_bool HW.out.symm, hE.trans (hb1.mono hE.size)⟩
        | true =>
          have HW := Lib.hid (HV.out.trans (by rw [hs]; rfl : _ = true))
          clear HV
          go_enter Tryz.func57, Tryz.ntmps57
          go_wp2_with fail
          refine c1.mono ?_
          rintro e w1 ⟨u, rfl, ho, hb1⟩
          have f1 := (hb1.cell (p := ⟨w.heap.size, 1, none⟩) hEz).trans K1.out
          have f3 := (hb1.cell (p := ⟨w.heap.size, 3, none⟩) hEz).trans K3.out
          have f4 := (hb1.cell (p := ⟨w.heap.size, 4, none⟩) hEz).trans K4.out
          have cl := implContains_at (varsOf x.body) x.left true h1 u w1 ho.at_
          have cr := implContains_at (varsOf x.body) x.right true h2 u w1 ho.at_
          clear c1 h1 h2
          go_wp2_with (first | (go_at_call 68; refine cl.mono ?_; rintro e w2 ⟨rfl, rfl⟩; clear cl) | (go_at_call 68; refine cr.mono ?_; rintro e w2 ⟨rfl, rfl⟩; clear cr))
          go_ret
          exact ⟨ret_bool HW.out.symm, hE.trans (hb1.mono hE.size)⟩
      · have hd0 : (((x.head.length : Nat) : Int) == 0) = false := beq_eq_false_iff_ne.2 (by omega)
        have HW := Lib.hid (HV.out.trans (by rw [hd0]; rfl : _ = false))
        clear HV hh
        go_enter Tryz.func57, Tryz.ntmps57
        go_wp2_with fail
        refine c1.mono ?_
        rintro e w1 ⟨u, rfl, ho, hb1⟩
        have f1 := (hb1.cell (p := ⟨w.heap.size, 1, none⟩) hEz).trans K1.out
        have f3 := (hb1.cell (p := ⟨w.heap.size, 3, none⟩) hEz).trans K3.out
        have f4 := (hb1.cell (p := ⟨w.heap.size, 4, none⟩) hEz).trans K4.out
        have cl := implContains_at (varsOf x.body) x.left true h1 u w1 ho.at_
        have cr := implContains_at (varsOf x.body) x.right true h2 u w1 ho.at_
        clear c1 h1 h2
        go_wp2_with (first | (go_at_call 68; refine cl.mono ?_; rintro e w2 ⟨rfl, rfl⟩; clear cl) | (go_at_call 68; refine cr.mono ?_; rintro e w2 ⟨rfl, rfl⟩; clear cr))
        go_ret
        exact ⟨ret_bool HW.out.symm, hE.trans (hb1.mono hE.size)⟩

end Go.Proofs.YtakflmaeclneiaaGreat
