/-
  Walks and plain lemmas for the laws of this seat: what single Go functions return, for every argument.
-/
import Derived.Shelf.Abstract
import Derived.Test.YtoapphgahmofhaaGreatBase
import Derived.Test.YtoapphgahmofhaaGreatInts
import Derived.Test.YtoapphgahmofhaaGreatMInst
import Derived.Test.YtoapphgahmofhaaGreatTyAtom
import Derived.Test.YtoapphgahmofhaaGreatDrawD9
import Derived.Test.YtoapphgahmofhaaGreatExtI
import Derived.Test.YtoapphgahmofhaaGreatFactVI
import Derived.Test.YtoapphgahmofhaaGreatVarsI
namespace Go.Proofs.YtoapphgahmofhaaGreat
open Go.RowKit

/-- a function value that tells of a atom among l whether p holds, wherever G holds; it only makes memory -/
def TellsA (g : Nat) (lb : Array Value) (G : World → Prop) (p : Atm → Bool) (l : List Atm) : Prop :=
  ∀ (W : World) (x : Atm) (V : Value), G W → x ∈ l → IntS_at W W.heap.size V x.vals → Calls Tryz.prog g (#[.agg #[.int .i64 x.rel, V]] ++ lb) W fun e w' => e = .returned (.bool (p x)) ∧ Below W.heap.size W w'
set_option maxHeartbeats 1600000 in
set_option maxRecDepth 100000 in
theorem implIxA_any (g : Nat) (lb : Array Value) (eg : ∀ args w, (callFunc g args).run Tryz.prog w = .ok (.enter g args) w) (G : World → Prop) (hG : ∀ W W', G W → Below W.heap.size W W' → G W') (p : Atm → Bool) (v : Value) (l : List Atm) (w : World) (h0 : G w) (ht : TellsA g lb G p l) (hl : AtomS_at w w.heap.size v l) :
    Calls Tryz.prog 135 #[v, .func (.func g) #[] lb] w fun e w' => e = .returned (.int .i64 (ixOf p l)) ∧ Below w.heap.size w w' := by
  have HL := Lib.hid hl
  obtain ⟨A, c, rfl, hlc, hcm⟩ := hl.form
  unfold maxLen at hcm
  have HG := Lib.hid (fun wr (hW : Below w.heap.size w wr) => hG w wr h0 hW)
  have HT := Lib.hid ht
  clear hG h0 ht hl
  go_enter Tryz.func135, Tryz.ntmps135
  go_wp2
  go_loopw [8] (fun i wr => ∃ k : Nat, k ≤ l.length ∧ i = .int .i64 k ∧ Hid (IxTo p l k) ∧ Below w.heap.size w wr) (fun i _ => l.length - (intOf i).toNat)
  case atStart => exact ⟨0, by omega, rfl, Lib.hid (IxTo.zero _ _), Below.refl _ _⟩
  case round =>
    obtain ⟨k, hk, rfl, HI, hW⟩ := hrel
    have hz := hW.size
    by_cases hlt : k < l.length
    · obtain ⟨b, off, V, rfl, hb, c0, c1, hV⟩ := AtomS_at.elem HL.out k hlt
      replace c0 := (hW.cell (p := ⟨b, off + k * 2, none⟩) hb).trans c0
      replace c1 := (hW.cell (p := ⟨b, off + k * 2 + 1, none⟩) hb).trans c1
      have hcall := HT.out wr l[k] V (HG.out wr hW) (List.getElem_mem hlt) ((hV.below hW (Nat.le_refl _)).more hz)
      cases hp : p l[k] with
      | true =>
        have HV := Lib.hid (HI.out.hit hlt hp)
        rw [hp] at hcall
        clear hp hV
        go_wp2_with (go_at_fn g; refine hcall.mono ?_; rintro e w1 ⟨rfl, hb1⟩)
        go_ret
        exact ⟨ret_int HV.out.symm, hW.trans (hb1.mono hz)⟩
      | false =>
        have HV := Lib.hid (HI.out.next hlt hp)
        rw [hp] at hcall
        clear hp hV
        go_wp2_with (go_at_fn g; refine hcall.mono ?_; rintro e w1 ⟨rfl, hb1⟩)
        go_roundw
        case rel => exact ⟨k + 1, by omega, by go_num, HV, hW.trans (hb1.mono hz)⟩
        case measure => simp [intOf]; omega
    · obtain rfl : k = l.length := by omega
      have HV := Lib.hid HI.out.miss
      go_wp2
      go_ret
      exact ⟨ret_int HV.out.symm, hW⟩
theorem implAnyA_any (g : Nat) (lb : Array Value) (eg : ∀ args w, (callFunc g args).run Tryz.prog w = .ok (.enter g args) w) (G : World → Prop) (hG : ∀ W W', G W → Below W.heap.size W W' → G W') (p : Atm → Bool) (v : Value) (l : List Atm) (w : World) (h0 : G w) (ht : TellsA g lb G p l) (hl : AtomS_at w w.heap.size v l) :
    Calls Tryz.prog 110 #[v, .func (.func g) #[] lb] w fun e w' => e = .returned (.bool (l.any p)) ∧ Below w.heap.size w w' := by
  have hi := implIxA_any g lb eg G hG p v l w h0 ht hl
  have HV := Lib.hid (ixOf_any p l)
  generalize ixOf p l = q at *
  clear h0 ht hG
  obtain ⟨A, c, rfl, hlc, hcm⟩ := hl.form
  clear hl
  go_enter Tryz.func110, Tryz.ntmps110
  go_wp2_with (go_at_call 135; refine hi.mono ?_; rintro e w1 ⟨rfl, hb1⟩)
  go_ret
  exact ⟨ret_bool HV.out, hb1⟩

/-- what a body and a TGD's head have in common -/
def sideOk (l : List Rel) (ts : List Atm) : Bool := inB (ts.length : Nat) 1 2 && ts.all (atomB l)
set_option maxHeartbeats 1600000 in
set_option maxRecDepth 100000 in
theorem implSide_at (l : List Rel) (ts : List Atm) (q : Bool) (hq : sideOk l ts = q) (v u : Value) (w : World) (hl : RelsAt w w.heap.size v l) (hf : AtomS_at w w.heap.size u ts) :
    Calls Tryz.prog 67 #[v, u] w fun e w' => e = .returned (.bool q) ∧ Below w.heap.size w w' := by
  subst hq
  have HL := Lib.hid hl
  have HF := Lib.hid hf
  obtain ⟨A, c, rfl, hlc, hcm, -⟩ := hl
  obtain ⟨A', c', rfl, hlc', hcm'⟩ := hf.form
  clear hf
  unfold maxLen at hcm hcm'
  by_cases h1 : (ts.length : Int) < 1
  · have HV := Lib.hid (show sideOk l ts = false by unfold sideOk inB; rw [decide_eq_false (by omega)]; rfl)
    have h0 : ts.length = 0 := by omega
    rw [h0]
    clear h1
    go_enter Tryz.func67, Tryz.ntmps67
    go_wp2
    go_ret
    exact ⟨ret_bool HV.out.symm, Below.refl _ _⟩
  · have hd1 : decide ((ts.length : Int) < 1) = false := decide_eq_false h1
    by_cases h2 : (2 : Int) < ts.length
    · have HV := Lib.hid (show sideOk l ts = false by unfold sideOk inB; rw [decide_eq_false (by omega)]; rfl)
      have hd2 : decide ((2 : Int) < ts.length) = true := decide_eq_true h2
      go_enter Tryz.func67, Tryz.ntmps67
      go_wp2
      go_ret
      exact ⟨ret_bool HV.out.symm, Below.refl _ _⟩
    · have HA := Lib.hid (show sideOk l ts = ts.all (atomB l) by unfold sideOk inB; rw [decide_eq_true (by omega)]; rfl)
      have hd2 : decide ((2 : Int) < ts.length) = false := decide_eq_false h2
      go_enter Tryz.func67, Tryz.ntmps67
      go_wp2
      go_loopw [17] (fun i wr => ∃ j : Nat, j ≤ ts.length ∧ i = .int .i64 j ∧ Hid (AllTo (atomB l) ts j) ∧ Below w.heap.size w wr) (fun i _ => ts.length - (intOf i).toNat)
      case atStart => exact ⟨0, by omega, rfl, Lib.hid (AllTo.zero _ _), Below.refl _ _⟩
      case round =>
        obtain ⟨j, hj, rfl, HT, hW⟩ := hrel
        have hz := hW.size
        by_cases hlt : j < ts.length
        · obtain ⟨b, off, V, rfl, hb, c0, c1, hV⟩ := AtomS_at.elem HF.out j hlt
          obtain ⟨PV, cV, rfl, -⟩ := id hV
          replace c0 := (hW.cell (p := ⟨b, off + j * 2, none⟩) hb).trans c0
          replace c1 := (hW.cell (p := ⟨b, off + j * 2 + 1, none⟩) hb).trans c1
          have hE : Below wr.heap.size wr (wr.alloc (.cells #[.int .i64 ts[j].rel, .slice PV ts[j].vals.length cV] 74)) := below_more (Below.refl _ _) _
          have hWE := hW.trans (hE.mono hz)
          have hcon := fun (q : Bool) (hq : atomB l ts[j] = q) => implIsValidAtom_at l ts[j] q hq (.slice A l.length c) (.agg #[.int .i64 ts[j].rel, .slice PV ts[j].vals.length cV]) _ ((HL.out.below hWE (Nat.le_refl _)).more hWE.size) ⟨_, rfl, (hV.below hWE (Nat.le_refl _)).more hWE.size⟩
          have HWE := Lib.hid hWE
          clear hE hWE hV
          cases hv : atomB l ts[j] with
          | false =>
            have HV := Lib.hid (HA.out.trans (all_no hlt hv))
            replace hcon := hcon false hv
            clear hv
            go_wp2_with (go_at_call 91; refine hcon.mono ?_; rintro e w3 ⟨rfl, hb3⟩)
            go_ret
            exact ⟨ret_bool HV.out.symm, HWE.out.trans (hb3.mono HWE.out.size)⟩
          | true =>
            have HN := Lib.hid (HT.out.next hlt hv)
            replace hcon := hcon true hv
            clear hv
            go_wp2_with (go_at_call 91; refine hcon.mono ?_; rintro e w3 ⟨rfl, hb3⟩)
            go_roundw
            case rel => exact ⟨j + 1, by omega, by go_num, HN, HWE.out.trans (hb3.mono HWE.out.size)⟩
            case measure => simp [intOf]; omega
        · obtain rfl : j = ts.length := by omega
          have HV := Lib.hid (HA.out.trans HT.out.full)
          go_wp2
          go_ret
          exact ⟨ret_bool HV.out.symm, hW⟩

/-- relations in a box, which a function value has captured; all of it below block D -/
def BoxL (b D : Nat) (l : List Rel) (V : Value) (W : World) : Prop := (b < D ∧ D ≤ W.heap.size) ∧ W.cell? ⟨b, 0, none⟩ = some V ∧ RelsAt W D V l
theorem BoxL.below {b D D' : Nat} {l : List Rel} {V : Value} {W W' : World} (h : BoxL b D l V W) (hb : Below D' W W') (hD : D ≤ D') : BoxL b D l V W' := by
  obtain ⟨⟨h1, h2⟩, h3, h4⟩ := h
  exact ⟨⟨h1, Nat.le_trans h2 hb.size⟩, (hb.cell (p := ⟨b, 0, none⟩) (Nat.lt_of_lt_of_le h1 hD)).trans h3, h4.below hb hD⟩
theorem BoxL.later {b D : Nat} {l : List Rel} {V : Value} {W W' : World} (h : BoxL b D l V W) (hb : Below W.heap.size W W') : BoxL b D l V W' := h.below hb h.1.2
theorem srcAt_in {l : List Rel} {k : Nat} (h : k < l.length) : srcAt l (k : Int) = l[k].source := by unfold srcAt; rw [Int.toNat_natCast, getD_at h]
set_option maxHeartbeats 800000 in
theorem tells_source (b D : Nat) (rels : List Rel) (P : Option Addr) (c : Nat) (l : List Atm) (hin : ∀ f ∈ l, 0 ≤ f.rel ∧ f.rel < rels.length) : TellsA 111 #[.pointer (some ⟨b, 0, none⟩)] (BoxL b D rels (.slice P rels.length c)) (fun f => srcAt rels f.rel) l := by
  intro W x U hG hx hU
  obtain ⟨⟨h1, h2⟩, h4, h6⟩ := hG
  obtain ⟨Q, d, rfl, -⟩ := id hU
  have hxi := hin x hx
  obtain ⟨k, hkr⟩ : ∃ k : Nat, x.rel = (k : Int) := ⟨x.rel.toNat, by omega⟩
  have hk : k < rels.length := by omega
  obtain ⟨_, _, hv6, h7, h8, -⟩ := id h6
  injection hv6 with e1 _ e2
  subst e1 e2
  unfold maxLen at h8
  obtain ⟨b', off, rfl, hb, -, -, c2⟩ := RelsAt.elem h6 k hk
  have HV := Lib.hid (show rels[k].source = srcAt rels x.rel by rw [hkr, srcAt_in hk])
  have hE : Below W.heap.size W (W.alloc (.cells #[.int .i64 (k : Int), .slice Q x.vals.length d] 74)) := below_more (Below.refl _ _) _
  have g0 := (hE.cell (p := ⟨b, 0, none⟩) (by show b < _; omega)).trans h4
  have g2 := (hE.cell (p := ⟨b', off + k * 3 + 2, none⟩) (by show b' < _; omega)).trans c2
  have hbW : b < W.heap.size := by omega
  have hbW' : b' < W.heap.size := by omega
  show Calls Tryz.prog 111 #[.agg #[.int .i64 x.rel, .slice Q x.vals.length d], .pointer (some ⟨b, 0, none⟩)] W _
  simp only [hkr] at HV ⊢
  clear hkr hU h4 c2 hxi hx hin h6
  generalize rels[k].source = so at *
  go_enter Tryz.func111, Tryz.ntmps111
  go_wp2
  go_ret
  exact ⟨ret_bool HV.out, hE⟩
set_option maxHeartbeats 800000 in
theorem implHasSource_at (l : List Rel) (ts : List Atm) (q : Bool) (hq : ts.any (fun f => srcAt l f.rel) = q) (hin : ∀ f ∈ ts, 0 ≤ f.rel ∧ f.rel < l.length) (v u : Value) (w : World) (hl : RelsAt w w.heap.size v l) (hf : AtomS_at w w.heap.size u ts) :
    Calls Tryz.prog 69 #[v, u] w fun e w' => e = .returned (.bool q) ∧ Below w.heap.size w w' := by
  subst hq
  have HL := Lib.hid hl
  obtain ⟨A, c, rfl, hlc, hcm, -⟩ := hl
  have hE : Below w.heap.size w (w.alloc (.cells #[.slice A l.length c] 24)) := below_more (Below.refl _ _) _
  have hc := implAnyA_any 111 #[.pointer (some ⟨w.heap.size, 0, none⟩)] (enters_of Tryz.func111 (by kernel_rfl) rfl) (BoxL w.heap.size (w.alloc (.cells #[.slice A l.length c] 24)).heap.size l (.slice A l.length c)) (fun _ _ h hb => h.later hb) (fun f => srcAt l f.rel) u ts (w.alloc (.cells #[.slice A l.length c] 24))
    ⟨⟨by simp, Nat.le_refl _⟩, by simp [go_sem], (HL.out.below hE (Nat.le_refl _)).more hE.size⟩ (tells_source _ _ _ _ _ _ hin) ((hf.below hE (Nat.le_refl _)).more hE.size)
  obtain ⟨A', d, rfl, -⟩ := hf.form
  clear hf
  go_enter Tryz.func69, Tryz.ntmps69
  go_wp2_with (go_at_call 110; refine hc.mono ?_; rintro e w1 ⟨rfl, hb1⟩)
  go_ret
  exact ⟨rfl, hE.trans (hb1.mono hE.size)⟩

def egdOk (x : Dep) : Bool := ((x.head.length : Nat) : Int) == 0 && (decide (x.left ∈ varsOf x.body) && (decide (x.right ∈ varsOf x.body) && decide (x.left < x.right)))
theorem egdOk_is (x : Dep) (a b : Bool) (h1 : decide (x.left ∈ varsOf x.body) = a) (h2 : decide (x.right ∈ varsOf x.body) = b) : egdOk x = (((x.head.length : Nat) : Int) == 0 && (decide (x.left < x.right) && (a && b))) := by
  unfold egdOk; rw [h1, h2]
  cases a <;> cases b <;> simp
set_option maxHeartbeats 3200000 in
set_option maxRecDepth 100000 in
theorem implEquality_at (x : Dep) (q : Bool) (hq : egdOk x = q) (v : Value) (w : World) (h : Dependency_at w w.heap.size v x) (hn1 : AtomS_sz x.body ≤ 1048576) :
    Calls Tryz.prog 68 #[v] w fun e w' => e = .returned (.bool q) ∧ Below w.heap.size w w' := by
  subst hq
  obtain ⟨P, c, Q, d, rfl⟩ := Dependency_form h
  obtain ⟨V1, V2, hv, hR, hF⟩ := h
  simp only [Value.agg.injEq, Array.mk.injEq, List.cons.injEq, and_true] at hv
  obtain ⟨rfl, rfl⟩ := hv
  have hE : Below w.heap.size w (w.alloc (.cells #[.slice P x.body.length c, .slice Q x.head.length d, .bool x.egd, .int .i64 x.left, .int .i64 x.right] 30)) := below_more (Below.refl _ _) _
  have hEz : w.heap.size < (w.alloc (.cells #[.slice P x.body.length c, .slice Q x.head.length d, .bool x.egd, .int .i64 x.left, .int .i64 x.right] 30)).heap.size := by simp
  have K1 := Lib.hid (show (w.alloc (.cells #[.slice P x.body.length c, .slice Q x.head.length d, .bool x.egd, .int .i64 x.left, .int .i64 x.right] 30)).cell? ⟨w.heap.size, 1, none⟩ = some (.slice Q x.head.length d) by simp [go_sem])
  have K3 := Lib.hid (show (w.alloc (.cells #[.slice P x.body.length c, .slice Q x.head.length d, .bool x.egd, .int .i64 x.left, .int .i64 x.right] 30)).cell? ⟨w.heap.size, 3, none⟩ = some (.int .i64 x.left) by simp [go_sem])
  have K4 := Lib.hid (show (w.alloc (.cells #[.slice P x.body.length c, .slice Q x.head.length d, .bool x.egd, .int .i64 x.left, .int .i64 x.right] 30)).cell? ⟨w.heap.size, 4, none⟩ = some (.int .i64 x.right) by simp [go_sem])
  have c1 := implVariables_any _ x.body _ ((hR.below hE (Nat.le_refl _)).more hE.size) hn1
  clear hR hF
  cases h1 : decide (x.left ∈ varsOf x.body) with
  | false =>
    have HV := Lib.hid (egdOk_is x false _ h1 rfl)
    by_cases hh : x.head.length = 0
    · have hd0 : (((x.head.length : Nat) : Int) == 0) = true := by rw [hh]; rfl
      rw [hd0] at HV
      have HH := Lib.hid hh
      clear hh
      cases hs : decide (x.left < x.right) with
      | false =>
        have HW := Lib.hid (HV.out.trans (by rw [hs]; rfl : _ = false))
        clear HV
        go_enter Tryz.func68, Tryz.ntmps68
        go_wp2_with fail
        refine c1.mono ?_
        rintro e w1 ⟨u, rfl, ho, hb1⟩
        have f1 := (hb1.cell (p := ⟨w.heap.size, 1, none⟩) hEz).trans K1.out
        have f3 := (hb1.cell (p := ⟨w.heap.size, 3, none⟩) hEz).trans K3.out
        have f4 := (hb1.cell (p := ⟨w.heap.size, 4, none⟩) hEz).trans K4.out
        have cl := implContains_at (varsOf x.body) x.left false h1 u w1 ho.at_
        clear c1 h1
        go_wp2_with (go_at_call 70; refine cl.mono ?_; rintro e w2 ⟨rfl, rfl⟩; clear cl)
        go_ret
        exact ⟨ret_bool HW.out.symm, hE.trans (hb1.mono hE.size)⟩
      | true =>
        have HW := Lib.hid (HV.out.trans (by rw [hs]; rfl : _ = false))
        clear HV
        go_enter Tryz.func68, Tryz.ntmps68
        go_wp2_with fail
        refine c1.mono ?_
        rintro e w1 ⟨u, rfl, ho, hb1⟩
        have f1 := (hb1.cell (p := ⟨w.heap.size, 1, none⟩) hEz).trans K1.out
        have f3 := (hb1.cell (p := ⟨w.heap.size, 3, none⟩) hEz).trans K3.out
        have f4 := (hb1.cell (p := ⟨w.heap.size, 4, none⟩) hEz).trans K4.out
        have cl := implContains_at (varsOf x.body) x.left false h1 u w1 ho.at_
        clear c1 h1
        go_wp2_with (go_at_call 70; refine cl.mono ?_; rintro e w2 ⟨rfl, rfl⟩; clear cl)
        go_ret
        exact ⟨ret_bool HW.out.symm, hE.trans (hb1.mono hE.size)⟩
    · have hd0 : (((x.head.length : Nat) : Int) == 0) = false := beq_eq_false_iff_ne.2 (by omega)
      have HW := Lib.hid (HV.out.trans (by rw [hd0]; rfl : _ = false))
      clear HV hh
      go_enter Tryz.func68, Tryz.ntmps68
      go_wp2_with fail
      refine c1.mono ?_
      rintro e w1 ⟨u, rfl, ho, hb1⟩
      have f1 := (hb1.cell (p := ⟨w.heap.size, 1, none⟩) hEz).trans K1.out
      have f3 := (hb1.cell (p := ⟨w.heap.size, 3, none⟩) hEz).trans K3.out
      have f4 := (hb1.cell (p := ⟨w.heap.size, 4, none⟩) hEz).trans K4.out
      have cl := implContains_at (varsOf x.body) x.left false h1 u w1 ho.at_
      clear c1 h1
      go_wp2_with (go_at_call 70; refine cl.mono ?_; rintro e w2 ⟨rfl, rfl⟩; clear cl)
      go_ret
      exact ⟨ret_bool HW.out.symm, hE.trans (hb1.mono hE.size)⟩
  | true =>
    cases h2 : decide (x.right ∈ varsOf x.body) with
    | false =>
      have HV := Lib.hid (egdOk_is x true false (h1) (h2))
      by_cases hh : x.head.length = 0
      · have hd0 : (((x.head.length : Nat) : Int) == 0) = true := by rw [hh]; rfl
        rw [hd0] at HV
        have HH := Lib.hid hh
        clear hh
        cases hs : decide (x.left < x.right) with
        | false =>
          have HW := Lib.hid (HV.out.trans (by rw [hs]; rfl : _ = false))
          clear HV
          go_enter Tryz.func68, Tryz.ntmps68
          go_wp2_with fail
          refine c1.mono ?_
          rintro e w1 ⟨u, rfl, ho, hb1⟩
          have f1 := (hb1.cell (p := ⟨w.heap.size, 1, none⟩) hEz).trans K1.out
          have f3 := (hb1.cell (p := ⟨w.heap.size, 3, none⟩) hEz).trans K3.out
          have f4 := (hb1.cell (p := ⟨w.heap.size, 4, none⟩) hEz).trans K4.out
          have cl := implContains_at (varsOf x.body) x.left true h1 u w1 ho.at_
          have cr := implContains_at (varsOf x.body) x.right false h2 u w1 ho.at_
          clear c1 h1 h2
          go_wp2_with (first | (go_at_call 70; refine cl.mono ?_; rintro e w2 ⟨rfl, rfl⟩; clear cl) | (go_at_call 70; refine cr.mono ?_; rintro e w2 ⟨rfl, rfl⟩; clear cr))
          go_ret
          exact ⟨ret_bool HW.out.symm, hE.trans (hb1.mono hE.size)⟩
        | true =>
          have HW := Lib.hid (HV.out.trans (by rw [hs]; rfl : _ = false))
          clear HV
          go_enter Tryz.func68, Tryz.ntmps68
          go_wp2_with fail
          refine c1.mono ?_
          rintro e w1 ⟨u, rfl, ho, hb1⟩
          have f1 := (hb1.cell (p := ⟨w.heap.size, 1, none⟩) hEz).trans K1.out
          have f3 := (hb1.cell (p := ⟨w.heap.size, 3, none⟩) hEz).trans K3.out
          have f4 := (hb1.cell (p := ⟨w.heap.size, 4, none⟩) hEz).trans K4.out
          have cl := implContains_at (varsOf x.body) x.left true h1 u w1 ho.at_
          have cr := implContains_at (varsOf x.body) x.right false h2 u w1 ho.at_
          clear c1 h1 h2
          go_wp2_with (first | (go_at_call 70; refine cl.mono ?_; rintro e w2 ⟨rfl, rfl⟩; clear cl) | (go_at_call 70; refine cr.mono ?_; rintro e w2 ⟨rfl, rfl⟩; clear cr))
          go_ret
          exact ⟨ret_bool HW.out.symm, hE.trans (hb1.mono hE.size)⟩
      · have hd0 : (((x.head.length : Nat) : Int) == 0) = false := beq_eq_false_iff_ne.2 (by omega)
        have HW := Lib.hid (HV.out.trans (by rw [hd0]; rfl : _ = false))
        clear HV hh
        go_enter Tryz.func68, Tryz.ntmps68
        go_wp2_with fail
        refine c1.mono ?_
        rintro e w1 ⟨u, rfl, ho, hb1⟩
        have f1 := (hb1.cell (p := ⟨w.heap.size, 1, none⟩) hEz).trans K1.out
        have f3 := (hb1.cell (p := ⟨w.heap.size, 3, none⟩) hEz).trans K3.out
        have f4 := (hb1.cell (p := ⟨w.heap.size, 4, none⟩) hEz).trans K4.out
        have cl := implContains_at (varsOf x.body) x.left true h1 u w1 ho.at_
        have cr := implContains_at (varsOf x.body) x.right false h2 u w1 ho.at_
        clear c1 h1 h2
        go_wp2_with (first | (go_at_call 70; refine cl.mono ?_; rintro e w2 ⟨rfl, rfl⟩; clear cl) | (go_at_call 70; refine cr.mono ?_; rintro e w2 ⟨rfl, rfl⟩; clear cr))
        go_ret
        exact ⟨ret_bool HW.out.symm, hE.trans (hb1.mono hE.size)⟩
    | true =>
      have HV := Lib.hid (egdOk_is x true true (h1) (h2))
      by_cases hh : x.head.length = 0
      · have hd0 : (((x.head.length : Nat) : Int) == 0) = true := by rw [hh]; rfl
        rw [hd0] at HV
        have HH := Lib.hid hh
        clear hh
        cases hs : decide (x.left < x.right) with
        | false =>
          have HW := Lib.hid (HV.out.trans (by rw [hs]; rfl : _ = false))
          clear HV
          go_enter Tryz.func68, Tryz.ntmps68
          go_wp2_with fail
          refine c1.mono ?_
          rintro e w1 ⟨u, rfl, ho, hb1⟩
          have f1 := (hb1.cell (p := ⟨w.heap.size, 1, none⟩) hEz).trans K1.out
          have f3 := (hb1.cell (p := ⟨w.heap.size, 3, none⟩) hEz).trans K3.out
          have f4 := (hb1.cell (p := ⟨w.heap.size, 4, none⟩) hEz).trans K4.out
          have cl := implContains_at (varsOf x.body) x.left true h1 u w1 ho.at_
          have cr := implContains_at (varsOf x.body) x.right true h2 u w1 ho.at_
          clear c1 h1 h2
          go_wp2_with (first | (go_at_call 70; refine cl.mono ?_; rintro e w2 ⟨rfl, rfl⟩; clear cl) | (go_at_call 70; refine cr.mono ?_; rintro e w2 ⟨rfl, rfl⟩; clear cr))
          go_ret
          exact ⟨ret_bool HW.out.symm, hE.trans (hb1.mono hE.size)⟩
        | true =>
          have HW := Lib.hid (HV.out.trans (by rw [hs]; rfl : _ = true))
          clear HV
          go_enter Tryz.func68, Tryz.ntmps68
          go_wp2_with fail
          refine c1.mono ?_
          rintro e w1 ⟨u, rfl, ho, hb1⟩
          have f1 := (hb1.cell (p := ⟨w.heap.size, 1, none⟩) hEz).trans K1.out
          have f3 := (hb1.cell (p := ⟨w.heap.size, 3, none⟩) hEz).trans K3.out
          have f4 := (hb1.cell (p := ⟨w.heap.size, 4, none⟩) hEz).trans K4.out
          have cl := implContains_at (varsOf x.body) x.left true h1 u w1 ho.at_
          have cr := implContains_at (varsOf x.body) x.right true h2 u w1 ho.at_
          clear c1 h1 h2
          go_wp2_with (first | (go_at_call 70; refine cl.mono ?_; rintro e w2 ⟨rfl, rfl⟩; clear cl) | (go_at_call 70; refine cr.mono ?_; rintro e w2 ⟨rfl, rfl⟩; clear cr))
          go_ret
          exact ⟨ret_bool HW.out.symm, hE.trans (hb1.mono hE.size)⟩
      · have hd0 : (((x.head.length : Nat) : Int) == 0) = false := beq_eq_false_iff_ne.2 (by omega)
        have HW := Lib.hid (HV.out.trans (by rw [hd0]; rfl : _ = false))
        clear HV hh
        go_enter Tryz.func68, Tryz.ntmps68
        go_wp2_with fail
        refine c1.mono ?_
        rintro e w1 ⟨u, rfl, ho, hb1⟩
        have f1 := (hb1.cell (p := ⟨w.heap.size, 1, none⟩) hEz).trans K1.out
        have f3 := (hb1.cell (p := ⟨w.heap.size, 3, none⟩) hEz).trans K3.out
        have f4 := (hb1.cell (p := ⟨w.heap.size, 4, none⟩) hEz).trans K4.out
        have cl := implContains_at (varsOf x.body) x.left true h1 u w1 ho.at_
        have cr := implContains_at (varsOf x.body) x.right true h2 u w1 ho.at_
        clear c1 h1 h2
        go_wp2_with (first | (go_at_call 70; refine cl.mono ?_; rintro e w2 ⟨rfl, rfl⟩; clear cl) | (go_at_call 70; refine cr.mono ?_; rintro e w2 ⟨rfl, rfl⟩; clear cr))
        go_ret
        exact ⟨ret_bool HW.out.symm, hE.trans (hb1.mono hE.size)⟩

theorem head_split (l : List Rel) (ts : List Atm) : ts.all (headB l) = (ts.all (atomB l) && !(ts.any fun f => srcAt l f.rel)) := by
  induction ts with
  | nil => rfl
  | cons a t ih =>
    rw [List.all_cons, List.all_cons, List.any_cons, ih]
    unfold headB
    cases atomB l a <;> cases srcAt l a.rel <;> cases t.all (atomB l) <;> simp
theorem depOk_is (l : List Rel) (x : Dep) : depOk l x = (sideOk l x.body && (if x.egd then egdOk x else ((x.left == 0) && (x.right == 0)) && (sideOk l x.head && !(x.head.any fun f => srcAt l f.rel)))) := by
  unfold depOk sideOk egdOk
  rw [head_split]
  generalize x.body.all (atomB l) = p
  generalize x.head.all (atomB l) = r
  generalize (x.head.any fun f => srcAt l f.rel) = s
  generalize inB (x.body.length : Nat) 1 2 = a
  generalize inB (x.head.length : Nat) 1 2 = h
  generalize (x.left == 0) = e0
  generalize (x.right == 0) = e1
  cases x.egd
  · cases a <;> cases p <;> cases r <;> cases s <;> cases h <;> cases e0 <;> cases e1 <;> rfl
  · cases a <;> cases p <;> rfl
theorem side_rel {l : List Rel} {ts : List Atm} (h : sideOk l ts = true) : ∀ f ∈ ts, 0 ≤ f.rel ∧ f.rel < l.length := by
  unfold sideOk at h
  rw [Bool.and_eq_true, List.all_eq_true] at h
  intro f hf
  have := h.2 f hf
  exact (atomOk_parts this).2.1
theorem side_small {l : List Rel} {ts : List Atm} (h : sideOk l ts = true) : AtomS_sz ts ≤ 1048576 := by
  unfold sideOk at h
  rw [Bool.and_eq_true] at h
  have h1 := h.1
  unfold inB at h1
  have h1 := of_decide_eq_true h1
  have := side_sz h.2 (by omega)
  omega
set_option maxHeartbeats 3200000 in
set_option maxRecDepth 100000 in
theorem implIsValidDependency_z (l : List Rel) (x : Dep) (q : Bool) (hq : depOk l x = q) (v u : Value) (w : World) (hl : RelsAt w w.heap.size v l) (h : Dependency_at w w.heap.size u x) :
    Calls Tryz.prog 33 #[v, u] w fun e w' => e = .returned (.bool q) ∧ Below w.heap.size w w' := by
  subst hq
  have HL := Lib.hid hl
  obtain ⟨A, a0, rfl, hlc, hcm, -⟩ := hl
  obtain ⟨P, c, Q, d, rfl⟩ := Dependency_form h
  obtain ⟨V1, V2, hv, hR, hF⟩ := h
  simp only [Value.agg.injEq, Array.mk.injEq, List.cons.injEq, and_true] at hv
  obtain ⟨rfl, rfl⟩ := hv
  have hE : Below w.heap.size w (w.alloc (.cells #[.slice P x.body.length c, .slice Q x.head.length d, .bool x.egd, .int .i64 x.left, .int .i64 x.right] 30)) := below_more (Below.refl _ _) _
  have hEz : w.heap.size < (w.alloc (.cells #[.slice P x.body.length c, .slice Q x.head.length d, .bool x.egd, .int .i64 x.left, .int .i64 x.right] 30)).heap.size := by simp
  have K0 := Lib.hid (show (w.alloc (.cells #[.slice P x.body.length c, .slice Q x.head.length d, .bool x.egd, .int .i64 x.left, .int .i64 x.right] 30)).cell? ⟨w.heap.size, 0, none⟩ = some (.slice P x.body.length c) by simp [go_sem])
  have K1 := Lib.hid (show (w.alloc (.cells #[.slice P x.body.length c, .slice Q x.head.length d, .bool x.egd, .int .i64 x.left, .int .i64 x.right] 30)).cell? ⟨w.heap.size, 1, none⟩ = some (.slice Q x.head.length d) by simp [go_sem])
  have K2 := Lib.hid (show (w.alloc (.cells #[.slice P x.body.length c, .slice Q x.head.length d, .bool x.egd, .int .i64 x.left, .int .i64 x.right] 30)).cell? ⟨w.heap.size, 2, none⟩ = some (.bool x.egd) by simp [go_sem])
  have K3 := Lib.hid (show (w.alloc (.cells #[.slice P x.body.length c, .slice Q x.head.length d, .bool x.egd, .int .i64 x.left, .int .i64 x.right] 30)).cell? ⟨w.heap.size, 3, none⟩ = some (.int .i64 x.left) by simp [go_sem])
  have K4 := Lib.hid (show (w.alloc (.cells #[.slice P x.body.length c, .slice Q x.head.length d, .bool x.egd, .int .i64 x.left, .int .i64 x.right] 30)).cell? ⟨w.heap.size, 4, none⟩ = some (.int .i64 x.right) by simp [go_sem])
  have HR := Lib.hid hR
  have HF := Lib.hid hF
  clear hR hF
  have HD := Lib.hid (depOk_is l x)
  have cs := fun (q : Bool) (hq : sideOk l x.body = q) => implSide_at l x.body q hq (.slice A l.length a0) (.slice P x.body.length c) (w.alloc (.cells #[.slice P x.body.length c, .slice Q x.head.length d, .bool x.egd, .int .i64 x.left, .int .i64 x.right] 30)) ((HL.out.below hE (Nat.le_refl _)).more hE.size) ((HR.out.below hE (Nat.le_refl _)).more hE.size)
  have ch := fun (q : Bool) (hq : sideOk l x.head = q) (W : World) (hW : Below w.heap.size w W) => implSide_at l x.head q hq (.slice A l.length a0) (.slice Q x.head.length d) W ((HL.out.below hW (Nat.le_refl _)).more hW.size) ((HF.out.below hW (Nat.le_refl _)).more hW.size)
  have cr := fun (q : Bool) (hq : (x.head.any fun f => srcAt l f.rel) = q) (hin : ∀ f ∈ x.head, 0 ≤ f.rel ∧ f.rel < l.length) (W : World) (hW : Below w.heap.size w W) => implHasSource_at l x.head q hq hin (.slice A l.length a0) (.slice Q x.head.length d) W ((HL.out.below hW (Nat.le_refl _)).more hW.size) ((HF.out.below hW (Nat.le_refl _)).more hW.size)
  have ce := fun (q : Bool) (hq : egdOk x = q) (hg : x.egd = true) (hz : AtomS_sz x.body ≤ 1048576) (W : World) (hW : Below w.heap.size w W) => implEquality_at x q hq (.agg #[.slice P x.body.length c, .slice Q x.head.length d, .bool true, .int .i64 x.left, .int .i64 x.right]) W ⟨_, _, by rw [hg], (HR.out.below hW (Nat.le_refl _)).more hW.size, (HF.out.below hW (Nat.le_refl _)).more hW.size⟩ hz
  cases h1 : sideOk l x.body with
  | false =>
    have HV := Lib.hid (HD.out.trans (by rw [h1]; rfl : _ = false))
    replace cs := cs false h1
    clear h1 ch cr ce
    go_enter Tryz.func33, Tryz.ntmps33
    go_wp2_with fail
    refine cs.mono ?_
    rintro e w1 ⟨rfl, hb1⟩
    have hW1 := hE.trans (hb1.mono hE.size)
    clear cs
    go_wp2
    go_ret
    exact ⟨ret_bool HV.out.symm, hW1⟩
  | true =>
    replace cs := cs true h1
    cases hg : x.egd with
    | true =>
      have HV := Lib.hid (HD.out.trans (by rw [h1, hg]; rfl : _ = egdOk x))
      replace ce := ce _ rfl hg (side_small h1)
      have HG := Lib.hid hg
      rw [hg] at cs K2 hE hEz K0 K1 K3 K4
      clear h1 ch cr hg
      go_enter Tryz.func33, Tryz.ntmps33
      go_wp2_with fail
      refine cs.mono ?_
      rintro e w1 ⟨rfl, hb1⟩
      have hW1 := hE.trans (hb1.mono hE.size)
      have f0 := (hb1.cell (p := ⟨w.heap.size, 0, none⟩) hEz).trans K0.out
      have f1 := (hb1.cell (p := ⟨w.heap.size, 1, none⟩) hEz).trans K1.out
      have f2 := (hb1.cell (p := ⟨w.heap.size, 2, none⟩) hEz).trans K2.out
      have f3 := (hb1.cell (p := ⟨w.heap.size, 3, none⟩) hEz).trans K3.out
      have f4 := (hb1.cell (p := ⟨w.heap.size, 4, none⟩) hEz).trans K4.out
      replace ce := ce w1 hW1
      clear cs
      go_wp2_with (go_at_call 68; refine ce.mono ?_; rintro e w2 ⟨rfl, hb2⟩)
      go_ret
      exact ⟨ret_bool HV.out.symm, hW1.trans (hb2.mono hW1.size)⟩
    | false =>
      rw [hg] at cs K2 hE hEz K0 K1 K3 K4
      have HG := Lib.hid hg
      clear ce
      cases e0 : (x.left == 0) with
      | false =>
        have HV := Lib.hid (HD.out.trans (by rw [h1, hg, e0]; rfl : _ = false))
        clear h1 hg ch cr
        go_enter Tryz.func33, Tryz.ntmps33
        go_wp2_with fail
        refine cs.mono ?_
        rintro e w1 ⟨rfl, hb1⟩
        have hW1 := hE.trans (hb1.mono hE.size)
        have f1 := (hb1.cell (p := ⟨w.heap.size, 1, none⟩) hEz).trans K1.out
        have f2 := (hb1.cell (p := ⟨w.heap.size, 2, none⟩) hEz).trans K2.out
        have f3 := (hb1.cell (p := ⟨w.heap.size, 3, none⟩) hEz).trans K3.out
        have f4 := (hb1.cell (p := ⟨w.heap.size, 4, none⟩) hEz).trans K4.out
        clear cs
        go_wp2
        go_ret
        exact ⟨ret_bool HV.out.symm, hW1⟩
      | true =>
        cases e1 : (x.right == 0) with
        | false =>
          have HV := Lib.hid (HD.out.trans (by rw [h1, hg, e0, e1]; rfl : _ = false))
          clear h1 hg ch cr
          go_enter Tryz.func33, Tryz.ntmps33
          go_wp2_with fail
          refine cs.mono ?_
          rintro e w1 ⟨rfl, hb1⟩
          have hW1 := hE.trans (hb1.mono hE.size)
          have f1 := (hb1.cell (p := ⟨w.heap.size, 1, none⟩) hEz).trans K1.out
          have f2 := (hb1.cell (p := ⟨w.heap.size, 2, none⟩) hEz).trans K2.out
          have f3 := (hb1.cell (p := ⟨w.heap.size, 3, none⟩) hEz).trans K3.out
          have f4 := (hb1.cell (p := ⟨w.heap.size, 4, none⟩) hEz).trans K4.out
          clear cs
          go_wp2
          go_ret
          exact ⟨ret_bool HV.out.symm, hW1⟩
        | true =>
          cases h2 : sideOk l x.head with
          | false =>
            have HV := Lib.hid (HD.out.trans (by rw [h1, hg, e0, e1, h2]; rfl : _ = false))
            replace ch := ch false h2
            clear h1 hg cr h2
            go_enter Tryz.func33, Tryz.ntmps33
            go_wp2_with fail
            refine cs.mono ?_
            rintro e w1 ⟨rfl, hb1⟩
            have hW1 := hE.trans (hb1.mono hE.size)
            have f1 := (hb1.cell (p := ⟨w.heap.size, 1, none⟩) hEz).trans K1.out
            have f2 := (hb1.cell (p := ⟨w.heap.size, 2, none⟩) hEz).trans K2.out
            have f3 := (hb1.cell (p := ⟨w.heap.size, 3, none⟩) hEz).trans K3.out
            have f4 := (hb1.cell (p := ⟨w.heap.size, 4, none⟩) hEz).trans K4.out
            replace ch := ch w1 hW1
            clear cs
            go_wp2_with (go_at_call 67; refine ch.mono ?_; rintro e w2 ⟨rfl, hb2⟩)
            go_ret
            exact ⟨ret_bool HV.out.symm, hW1.trans (hb2.mono hW1.size)⟩
          | true =>
            have HV := Lib.hid (HD.out.trans (by rw [h1, hg, e0, e1, h2]; rfl : _ = (!(x.head.any fun f => srcAt l f.rel))))
            replace ch := ch true h2
            replace cr := cr _ rfl (side_rel h2)
            clear h1 hg h2
            generalize (x.head.any fun f => srcAt l f.rel) = z at *
            go_enter Tryz.func33, Tryz.ntmps33
            go_wp2_with fail
            refine cs.mono ?_
            rintro e w1 ⟨rfl, hb1⟩
            have hW1 := hE.trans (hb1.mono hE.size)
            have f1 := (hb1.cell (p := ⟨w.heap.size, 1, none⟩) hEz).trans K1.out
            have f2 := (hb1.cell (p := ⟨w.heap.size, 2, none⟩) hEz).trans K2.out
            have f3 := (hb1.cell (p := ⟨w.heap.size, 3, none⟩) hEz).trans K3.out
            have f4 := (hb1.cell (p := ⟨w.heap.size, 4, none⟩) hEz).trans K4.out
            replace ch := ch w1 hW1
            clear cs
            have f1' := Lib.hid f1
            go_wp2_with fail
            refine ch.mono ?_
            rintro e w2 ⟨rfl, hb2⟩
            have hW2 := hW1.trans (hb2.mono hW1.size)
            have g1 := (hb2.cell (p := ⟨w.heap.size, 1, none⟩) (by have := hb1.size; show w.heap.size < _; omega)).trans f1'.out
            replace cr := cr w2 hW2
            clear ch f1 f2 f3 f4
            go_wp2_with (go_at_call 69; refine cr.mono ?_; rintro e w3 ⟨rfl, hb3⟩)
            go_ret
            exact ⟨ret_bool HV.out.symm, hW2.trans (hb3.mono hW2.size)⟩
theorem implIsValidDependency_at (l : List Rel) (x : Dep) (q : Bool) (hq : depOk l x = q) (v u : Value) (w : World) (hl : RelsAt w w.heap.size v l) (h : Dependency_at w w.heap.size u x) (_ : Dependency_sz x ≤ 1048576) :
    Calls Tryz.prog 33 #[v, u] w fun e w' => e = .returned (.bool q) ∧ Below w.heap.size w w' := implIsValidDependency_z l x q hq v u w hl h
theorem implIsValidDependency_c (v : Value) (l : List Rel) (u : Value) (x : Dep) (w : World) (h : RelationS_at w w.heap.size v l) (_ : RelationS_wf l) (_ : RelationS_sz l ≤ 1048576) (h' : Dependency_at w w.heap.size u x) (_ : Dependency_wf x) (hn : Dependency_sz x ≤ 1048576) :
    Calls Tryz.prog 33 #[v, u] w fun e w' => e = .returned (.bool (depOk l x)) ∧ Below w.heap.size w w' := implIsValidDependency_at l x _ rfl v u w h h' hn

end Go.Proofs.YtoapphgahmofhaaGreat
