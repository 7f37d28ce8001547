/-
  Walks and plain lemmas for the laws of this seat: what single Go functions return, for every argument.
-/
import Derived.Deep.Quiet
import Derived.Test.YtoapphgahmofhaaGreatMatF
import Derived.Test.YtoapphgahmofhaaGreatDrawB14
import Derived.Test.YtoapphgahmofhaaGreatValInI
import Derived.Test.YtoapphgahmofhaaGreatTrgI
import Derived.Test.YtoapphgahmofhaaGreatActsI
import Derived.Test.YtoapphgahmofhaaGreatTrgS
import Derived.Test.YtoapphgahmofhaaGreatActsS
import Derived.Test.YtoapphgahmofhaaGreatLift
namespace Go.Proofs.YtoapphgahmofhaaGreat
open Go.RowKit

theorem acts_len (x : Inst) (d : Dep) : (ActiveTriggers_r0 x d).length ≤ 27000 := by
 cases hd : depOk x.rels d with
 | false => rw [acts_none hd]; exact Nat.zero_le _
 | true => rw [acts_some hd]; exact Nat.le_trans (List.length_filter_le _ _) (find_len x d.body)
theorem acts_row {x : Inst} {d : Dep} {row : List Int} (h : row ∈ ActiveTriggers_r0 x d) : activeOk x d row = true := by
 rw [active_mem]; exact decide_eq_true h
structure TrB (g : Nat) (a0 a1 b0 b1 b2 b3 b4 : Value) (w : World) : Prop where
 x0 : w.cell? ⟨g, 0, none⟩ = some a0
 x1 : w.cell? ⟨g, 1, none⟩ = some a1
 z0 : w.cell? ⟨g + 1, 0, none⟩ = some b0
 z1 : w.cell? ⟨g + 1, 1, none⟩ = some b1
 z2 : w.cell? ⟨g + 1, 2, none⟩ = some b2
 z3 : w.cell? ⟨g + 1, 3, none⟩ = some b3
 z4 : w.cell? ⟨g + 1, 4, none⟩ = some b4
theorem TrB.below {g B : Nat} {a0 a1 b0 b1 b2 b3 b4 : Value} {w w' : World} (h : TrB g a0 a1 b0 b1 b2 b3 b4 w) (hb : Below B w w') (hB : g + 1 < B) : TrB g a0 a1 b0 b1 b2 b3 b4 w' :=
 ⟨(hb.cell (p := ⟨g, 0, none⟩) (Nat.lt_of_succ_lt hB)).trans h.x0, (hb.cell (p := ⟨g, 1, none⟩) (Nat.lt_of_succ_lt hB)).trans h.x1, (hb.cell (p := ⟨g + 1, 0, none⟩) hB).trans h.z0, (hb.cell (p := ⟨g + 1, 1, none⟩) hB).trans h.z1, (hb.cell (p := ⟨g + 1, 2, none⟩) hB).trans h.z2, (hb.cell (p := ⟨g + 1, 3, none⟩) hB).trans h.z3, (hb.cell (p := ⟨g + 1, 4, none⟩) hB).trans h.z4⟩
theorem trig_dep {x : Inst} {d : Dep} {b : List Int} (h : trigOk x d b = true) : depOk x.rels d = true ∧ b.length = 5 := by
 unfold trigOk at h
 simp only [Bool.and_eq_true, decide_eq_true_eq] at h
 exact ⟨h.2.1, h.2.2.1⟩
set_option maxHeartbeats 12800000 in
set_option maxRecDepth 100000 in
theorem walkTR (q : Option Addr) (code : List UInt8) (c : Nat) (_ : code.length ≤ maxLen) (w : World) (hc : CodeAt w w.heap.size (.slice q code.length c) code) :
  Calls Tryz.prog 3 #[.slice q code.length c] w fun e w' => e = .returned (.bool true) ∧ Below w.heap.size w w' := by
 by_cases hbig : 1048576 < code.length
 ·
  have hd : decide (1048576 < ((code.length : Nat) : Int)) = true := by simp; omega
  go_enter Tryz.func3, Tryz.ntmps3
  go_wp2_with fail
  refine (big_any q _ c _).mono ?_; rintro e w1 ⟨rfl, rfl⟩
  go_wp2_with fail
  go_ret
  exact ⟨rfl, Below.refl _ _⟩
 ·
  have hlen : code.length ≤ 1048576 := by omega
  have hd : decide (1048576 < ((code.length : Nat) : Int)) = false := by simp; omega
  clear hbig
  go_enter Tryz.func3, Tryz.ntmps3
  go_wp2_with fail
  refine (big_any q _ c _).mono ?_; rintro e w1 ⟨rfl, rfl⟩
  go_wp2_with fail
  refine (drawActive_c _ code _ hc hlen).mono ?_
  rintro e w2 ⟨V, x, D, d, U, bb, rfl, hI, hIs, hD, hDs, hU, hU5, hUb, hb1⟩
  obtain ⟨P, c1, Q, d1, rfl⟩ := Instance_form hI.at_
  obtain ⟨Y1, ya1, Y2, ya2, rfl⟩ := Dependency_form (hD.at_ (Nat.le_refl _))
  obtain ⟨PU, cU, rfl, -, hcU, -⟩ := id (hU.at_ (Nat.le_refl _))
  obtain ⟨g, hg⟩ : ∃ g, g = w2.heap.size := ⟨_, rfl⟩
  obtain ⟨W, hWq⟩ : ∃ W, W = (w2.alloc (.cells #[.slice P x.rels.length c1, .slice Q x.facts.length d1] 27)).alloc (.cells #[.slice Y1 d.body.length ya1, .slice Y2 d.head.length ya2, .bool d.egd, .int .i64 d.left, .int .i64 d.right] 30) := ⟨_, rfl⟩
  have hAl : Below w2.heap.size w2 W := by rw [hWq]; exact ((Below.refl _ _).alloc (Nat.le_refl _) _).alloc (by simp) _
  have hgW : g < W.heap.size := by rw [hWq, hg]; simp; omega
  have hgW1 : g + 1 < W.heap.size := by rw [hWq, hg]; simp
  have X0 := Lib.hid (show W.cell? ⟨g, 0, none⟩ = some (.slice P x.rels.length c1) by rw [hWq, hg]; simp [go_sem])
  have X1 := Lib.hid (show W.cell? ⟨g, 1, none⟩ = some (.slice Q x.facts.length d1) by rw [hWq, hg]; simp [go_sem])
  have Z0 := Lib.hid (show W.cell? ⟨g + 1, 0, none⟩ = some (.slice Y1 d.body.length ya1) by rw [hWq, hg]; simp [go_sem])
  have Z1 := Lib.hid (show W.cell? ⟨g + 1, 1, none⟩ = some (.slice Y2 d.head.length ya2) by rw [hWq, hg]; simp [go_sem])
  have Z2 := Lib.hid (show W.cell? ⟨g + 1, 2, none⟩ = some (.bool d.egd) by rw [hWq, hg]; simp [go_sem])
  have Z3 := Lib.hid (show W.cell? ⟨g + 1, 3, none⟩ = some (.int .i64 d.left) by rw [hWq, hg]; simp [go_sem])
  have Z4 := Lib.hid (show W.cell? ⟨g + 1, 4, none⟩ = some (.int .i64 d.right) by rw [hWq, hg]; simp [go_sem])
  have HX := Lib.hid (hI.later hAl).at_
  have HD := Lib.hid ((hD.at_ (Nat.le_refl _)).later hAl)
  have HH : Hid (AtomS_at W W.heap.size (.slice Y2 d.head.length ya2) d.head) := Lib.hid (by
   obtain ⟨V1, V2, hv, h1, h2⟩ := HD.out
   simp only [Value.agg.injEq, Array.mk.injEq, List.cons.injEq, and_true] at hv
   obtain ⟨rfl, rfl, -⟩ := hv
   exact h2)
  have HU : Hid (IntsAt W W.heap.size (.slice PU bb.length cU) bb) := Lib.hid (((hU.at_ (Nat.le_refl _)).below hAl (Nat.le_refl _)).more hAl.size)
  have HW := Lib.hid (hb1.trans (hAl.mono hb1.size))
  have HXW := Lib.hid hIs.wf
  have HRN := Lib.hid (show x.rels.length ≤ 1048576 by have := hIs.1.1; omega)
  have HDW : Hid (Dependency_wf d) := Lib.hid ⟨atms_wf hDs.1.2.2, atms_wf hDs.2.1.2, by have := hDs.2.2; omega, by have := hDs.2.2; omega⟩
  have HDN := Lib.hid (show Dependency_sz d ≤ 1048576 by
   have h1 := AtmSmall.sz hDs.1.2.2
   have h2 := AtmSmall.sz hDs.2.1.2
   have h3 := hDs.1.2.1
   have h4 := hDs.2.1.1
   unfold Dependency_sz
   omega)
  have HBW : Hid (IntsWf bb) := Lib.hid (fun i hi => by have := hUb _ (List.getElem_mem hi); omega)
  have HAM := Lib.hid (active_mem x d bb)
  have HAT := Lib.hid (fun h => active_trig (x := x) (d := d) (b := bb) h)
  have HLL := Lib.hid (acts_len x d)
  have HROW := Lib.hid (fun row h => acts_row (x := x) (d := d) (row := row) h)
  have HB2 := Lib.hid (Below.refl W.heap.size W)
  have hbl := hU5
  clear hI hIs hD hDs hU hU5 hUb hb1 hd hc hlen hAl
  obtain ⟨A, hA⟩ : ∃ A, activeOk x d bb = A := ⟨_, rfl⟩
  obtain ⟨T, hT⟩ : ∃ T, trigOk x d bb = T := ⟨_, rfl⟩
  have HK1 := Lib.hid (show ∀ W', Below W.heap.size W W' → Calls Tryz.prog 9 #[(.agg #[.slice P x.rels.length c1, .slice Q x.facts.length d1]), (.agg #[.slice Y1 d.body.length ya1, .slice Y2 d.head.length ya2, .bool d.egd, .int .i64 d.left, .int .i64 d.right]), (.slice PU bb.length cU)] W' fun e w' => e = .returned (.bool A) ∧ Below W'.heap.size W' w' from fun W' h => hA ▸ implIsActive_any _ _ x d _ bb W' ((HX.out.below h (Nat.le_refl _)).more h.size) HXW.out ((HD.out.below h (Nat.le_refl _)).more h.size) HDW.out HDN.out ((HU.out.below h (Nat.le_refl _)).more h.size))
  have HK2 := Lib.hid (show ∀ W', Below W.heap.size W W' → Calls Tryz.prog 10 #[(.agg #[.slice P x.rels.length c1, .slice Q x.facts.length d1]), (.agg #[.slice Y1 d.body.length ya1, .slice Y2 d.head.length ya2, .bool d.egd, .int .i64 d.left, .int .i64 d.right]), (.slice PU bb.length cU)] W' fun e w' => e = .returned (.bool T) ∧ Below W'.heap.size W' w' from fun W' h => hT ▸ implIsTrigger_any _ _ x d _ bb W' ((HX.out.below h (Nat.le_refl _)).more h.size) HXW.out ((HD.out.below h (Nat.le_refl _)).more h.size) HDW.out HDN.out ((HU.out.below h (Nat.le_refl _)).more h.size))
  have HK3 := Lib.hid (show ∀ W', Below W.heap.size W W' → Calls Tryz.prog 12 #[(.agg #[.slice P x.rels.length c1, .slice Q x.facts.length d1]), (.agg #[.slice Y1 d.body.length ya1, .slice Y2 d.head.length ya2, .bool d.egd, .int .i64 d.left, .int .i64 d.right]), (.slice PU bb.length cU)] W' fun e w' => e = .returned (.bool A) ∧ Below W'.heap.size W' w' from fun W' h => hA ▸ specIsActive_any _ _ x d _ bb W' ((HX.out.below h (Nat.le_refl _)).more h.size) HXW.out HRN.out ((HD.out.below h (Nat.le_refl _)).more h.size) HDW.out HDN.out ((HU.out.below h (Nat.le_refl _)).more h.size) HBW.out)
  have HK4 := Lib.hid (show ∀ W', Below W.heap.size W W' → Calls Tryz.prog 13 #[(.agg #[.slice P x.rels.length c1, .slice Q x.facts.length d1]), (.agg #[.slice Y1 d.body.length ya1, .slice Y2 d.head.length ya2, .bool d.egd, .int .i64 d.left, .int .i64 d.right]), (.slice PU bb.length cU)] W' fun e w' => e = .returned (.bool T) ∧ Below W'.heap.size W' w' from fun W' h => hT ▸ specIsTrigger_any _ _ x d _ bb W' ((HX.out.below h (Nat.le_refl _)).more h.size) HXW.out HRN.out ((HD.out.below h (Nat.le_refl _)).more h.size) HDW.out HDN.out ((HU.out.below h (Nat.le_refl _)).more h.size) HBW.out)
  have HA := Lib.hid hA
  have HT := Lib.hid hT
  rw [hA, hT] at HAT
  rw [hA] at HAM
  clear hA hT
  have TB : Hid (TrB g _ _ _ _ _ _ _ W) := Lib.hid ⟨X0.out, X1.out, Z0.out, Z1.out, Z2.out, Z3.out, Z4.out⟩
  have x0 := X0.out
  have x1 := X1.out
  have z0 := Z0.out
  have z1 := Z1.out
  have z2 := Z2.out
  have z3 := Z3.out
  have z4 := Z4.out
  go_upto_region 4 with fail
  rw [← hg, ← hWq]
  clear hg hWq
  cases T with
  | false =>
   cases A with
   | true => exact absurd (HAT.out rfl) (by decide)
   | false =>
    go_wp2_with fail
    refine (HK1.out _ HB2.out).mono ?_
    rintro e w3 ⟨rfl, hb3⟩
    have HB3 := Lib.hid (HB2.out.trans (hb3.mono HB2.out.size))
    clear x0 x1 z0 z1 z2 z3 z4 hb3
    obtain ⟨x0, x1, z0, z1, z2, z3, z4⟩ := TB.out.below HB3.out hgW1
    go_wp2_with fail
    refine (HK2.out _ HB3.out).mono ?_
    rintro e w4 ⟨rfl, hb4⟩
    have HB4 := Lib.hid (HB3.out.trans (hb4.mono HB3.out.size))
    clear x0 x1 z0 z1 z2 z3 z4 hb4
    obtain ⟨x0, x1, z0, z1, z2, z3, z4⟩ := TB.out.below HB4.out hgW1
    go_wp2_with fail
    refine (implActs_any _ _ x d w4 ((HX.out.below HB4.out (Nat.le_refl _)).more HB4.out.size) HXW.out ((HD.out.below HB4.out (Nat.le_refl _)).more HB4.out.size) HDW.out).mono ?_
    rintro e w5 ⟨r5, rfl, hO5, hb5⟩
    obtain ⟨A5, c5, rfl, -, hc5⟩ := (hO5.at_ (Nat.le_refl _)).form
    have HB5 := Lib.hid (HB4.out.trans (hb5.mono HB4.out.size))
    have HL5 := Lib.hid (hO5.at_ (Nat.le_refl _))
    clear x0 x1 z0 z1 z2 z3 z4 hb5 hO5
    obtain ⟨x0, x1, z0, z1, z2, z3, z4⟩ := TB.out.below HB5.out hgW1
    go_wp2_with fail
    refine (HK3.out _ HB5.out).mono ?_
    rintro e w6 ⟨rfl, hb6⟩
    have HL6 := Lib.hid ((HL5.out.below hb6 (Nat.le_refl _)).more hb6.size)
    have HB6 := Lib.hid (HB5.out.trans (hb6.mono HB5.out.size))
    clear x0 x1 z0 z1 z2 z3 z4 hb6
    obtain ⟨x0, x1, z0, z1, z2, z3, z4⟩ := TB.out.below HB6.out hgW1
    go_wp2_with fail
    refine (HK4.out _ HB6.out).mono ?_
    rintro e w7 ⟨rfl, hb7⟩
    have HL7 := Lib.hid ((HL6.out.below hb7 (Nat.le_refl _)).more hb7.size)
    have HB7 := Lib.hid (HB6.out.trans (hb7.mono HB6.out.size))
    clear x0 x1 z0 z1 z2 z3 z4 hb7
    obtain ⟨x0, x1, z0, z1, z2, z3, z4⟩ := TB.out.below HB7.out hgW1
    go_wp2_with fail
    refine (specActs_any _ _ x d w7 ((HX.out.below HB7.out (Nat.le_refl _)).more HB7.out.size) HXW.out HRN.out ((HD.out.below HB7.out (Nat.le_refl _)).more HB7.out.size) HDW.out HDN.out).mono ?_
    rintro e w8 ⟨r8, rfl, hO8, hb8⟩
    obtain ⟨A8, c8, rfl, -, hc8⟩ := (hO8.at_ (Nat.le_refl _)).form
    have HB8 := Lib.hid (HB7.out.trans (hb8.mono HB7.out.size))
    have HL8 := Lib.hid ((HL7.out.below hb8 (Nat.le_refl _)).more hb8.size)
    have HM8 := Lib.hid (hO8.at_ (Nat.le_refl _))
    clear x0 x1 z0 z1 z2 z3 z4 hb8 hO8
    obtain ⟨x0, x1, z0, z1, z2, z3, z4⟩ := TB.out.below HB8.out hgW1
    go_wp2_with fail
    refine (sameRows_c _ _ _ w8 HL8.out HM8.out).mono ?_
    rintro e w9 ⟨rfl, hb9⟩
    have HB9 := Lib.hid (HB8.out.trans (hb9.mono HB8.out.size))
    have HL9 := Lib.hid ((HL8.out.below hb9 (Nat.le_refl _)).more hb9.size)
    clear x0 x1 z0 z1 z2 z3 z4 hb9
    have hll := HLL.out
    generalize ActiveTriggers_r0 x d = L at *
    go_wp2
    go_loopw [9] (fun iv wr => ∃ i : Nat, i ≤ L.length ∧ iv = .int .i64 (i : Nat) ∧ Hid (Below w9.heap.size w9 wr)) (fun iv _ => L.length - (intOf iv).toNat)
    case atStart => exact ⟨0, by omega, rfl, Lib.hid (Below.refl _ _)⟩
    case round =>
     obtain ⟨i, hi, rfl, HC⟩ := hrel
     have HBr := Lib.hid (HB9.out.trans (HC.out.mono HB9.out.size))
     have hWr := HBr.out.size
     by_cases hlt : i < L.length
     ·
      obtain ⟨b, off, V, rfl, hb, cc, hV⟩ := IntSS_at.elem HL9.out i hlt
      have cr := (HC.out.cell (p := ⟨b, off + i, none⟩) hb).trans cc
      have hbr : b < wr.heap.size := Nat.lt_of_lt_of_le hb HC.out.size
      have HVr := Lib.hid ((hV.below HC.out (Nat.le_refl _)).more HC.out.size)
      have hact := HROW.out L[i] (List.getElem_mem hlt)
      obtain ⟨P3, d3, rfl, -⟩ := id hV
      clear cc hV
      generalize L[i] = row at *
      have hcon := fun (u : Aft wr.heap.size wr) => (by have := implIsActive_any (.agg #[.slice P x.rels.length c1, .slice Q x.facts.length d1]) (.agg #[.slice Y1 d.body.length ya1, .slice Y2 d.head.length ya2, .bool d.egd, .int .i64 d.left, .int .i64 d.right]) x d (.slice P3 row.length d3) row u.now ((HX.out.below (HBr.out.trans (u.is.mono hWr)) (Nat.le_refl _)).more (HBr.out.trans (u.is.mono hWr)).size) HXW.out ((HD.out.below (HBr.out.trans (u.is.mono hWr)) (Nat.le_refl _)).more (HBr.out.trans (u.is.mono hWr)).size) HDW.out HDN.out ((HVr.out.below u.is (Nat.le_refl _)).more u.is.size); rwa [hact] at this : Calls Tryz.prog 9 #[(.agg #[.slice P x.rels.length c1, .slice Q x.facts.length d1]), (.agg #[.slice Y1 d.body.length ya1, .slice Y2 d.head.length ya2, .bool d.egd, .int .i64 d.left, .int .i64 d.right]), .slice P3 row.length d3] u.now fun e w' => e = .returned (.bool true) ∧ Below u.now.heap.size u.now w')
      have hgr : g < wr.heap.size := Nat.lt_of_lt_of_le hgW hWr
      have hgr1 : g + 1 < wr.heap.size := Nat.lt_of_lt_of_le hgW1 hWr
      obtain ⟨x0, x1, z0, z1, z2, z3, z4⟩ := TB.out.below HBr.out hgW1
      have B9 := Aft.cell (B := wr.heap.size) (w := wr) hbr cr
      have B1 := Aft.cell (B := wr.heap.size) (w := wr) hgr x0
      have B2 := Aft.cell (B := wr.heap.size) (w := wr) hgr x1
      have B3 := Aft.cell (B := wr.heap.size) (w := wr) hgr1 z0
      have B4 := Aft.cell (B := wr.heap.size) (w := wr) hgr1 z1
      have B5 := Aft.cell (B := wr.heap.size) (w := wr) hgr1 z2
      have B6 := Aft.cell (B := wr.heap.size) (w := wr) hgr1 z3
      have B7 := Aft.cell (B := wr.heap.size) (w := wr) hgr1 z4
      clear x0 x1 z0 z1 z2 z3 z4 cr hact
      go_wp2_with fail
      refine wp_region_aft (Below.refl wr.heap.size wr) (by kernel_rfl) (by kernel_rfl) ?_
      repeat (go_big_quiet_step (((go_at_call 9; exact calls_aft (Nat.le_refl _) (hcon _)))))
      refine wpQuiet_nil ?_
      refine aft_end ?_
      intro w10 hh
      clear B1 B2 B3 B4 B5 B6 B7 B9 hcon
      go_wp2
      go_roundw
      case rel => exact ⟨i + 1, by omega, by go_num, Lib.hid (HC.out.trans (hh.mono HC.out.size))⟩
      case measure => simp [intOf]; omega
     ·
      obtain rfl : i = L.length := by omega
      have HLr := Lib.hid ((HL9.out.below HC.out (Nat.le_refl _)).more HC.out.size)
      have hmem := HAM.out.symm
      have hcin := fun (u : Aft wr.heap.size wr) => (by have := inRows_c (.slice A5 L.length c5) (.slice PU bb.length cU) L bb u.now ((HLr.out.below u.is (Nat.le_refl _)).more u.is.size) ((HU.out.below (HBr.out.trans (u.is.mono hWr)) (Nat.le_refl _)).more (HBr.out.trans (u.is.mono hWr)).size); rwa [hmem] at this : Calls Tryz.prog 16 #[.slice A5 L.length c5, (.slice PU bb.length cU)] u.now fun e w' => e = .returned (.bool false) ∧ Below u.now.heap.size u.now w')
      clear hmem
      have hgr : g < wr.heap.size := Nat.lt_of_lt_of_le hgW hWr
      have hgr1 : g + 1 < wr.heap.size := Nat.lt_of_lt_of_le hgW1 hWr
      obtain ⟨x0, x1, z0, z1, z2, z3, z4⟩ := TB.out.below HBr.out hgW1
      have B1 := Aft.cell (B := wr.heap.size) (w := wr) hgr x0
      have B2 := Aft.cell (B := wr.heap.size) (w := wr) hgr x1
      have B3 := Aft.cell (B := wr.heap.size) (w := wr) hgr1 z0
      have B4 := Aft.cell (B := wr.heap.size) (w := wr) hgr1 z1
      have B5 := Aft.cell (B := wr.heap.size) (w := wr) hgr1 z2
      have B6 := Aft.cell (B := wr.heap.size) (w := wr) hgr1 z3
      have B7 := Aft.cell (B := wr.heap.size) (w := wr) hgr1 z4
      go_wp2_with fail
      refine wp_region_aft (Below.refl wr.heap.size wr) (by kernel_rfl) (by kernel_rfl) ?_
      repeat (go_big_quiet_step (((first | (go_at_call 16; exact calls_aft (Nat.le_refl _) (hcin _)) | (go_at_call 17; exact calls_aft (Nat.le_refl _) (hcex _))))))
      refine wpQuiet_nil ?_
      refine aft_end ?_
      intro w11 hh
      have HZ := Lib.hid (HW.out.trans ((HBr.out.trans (hh.mono hWr)).mono HW.out.size))
      clear x0 x1 z0 z1 z2 z3 z4 B1 B2 B3 B4 B5 B6 B7 hcin
      go_wp2
      go_ret
      exact ⟨rfl, HZ.out⟩
  | true =>
   cases A with
   | true =>
    go_wp2_with fail
    refine (HK1.out _ HB2.out).mono ?_
    rintro e w3 ⟨rfl, hb3⟩
    have HB3 := Lib.hid (HB2.out.trans (hb3.mono HB2.out.size))
    clear x0 x1 z0 z1 z2 z3 z4 hb3
    obtain ⟨x0, x1, z0, z1, z2, z3, z4⟩ := TB.out.below HB3.out hgW1
    go_wp2_with fail
    refine (HK2.out _ HB3.out).mono ?_
    rintro e w4 ⟨rfl, hb4⟩
    have HB4 := Lib.hid (HB3.out.trans (hb4.mono HB3.out.size))
    clear x0 x1 z0 z1 z2 z3 z4 hb4
    obtain ⟨x0, x1, z0, z1, z2, z3, z4⟩ := TB.out.below HB4.out hgW1
    go_wp2_with fail
    refine (implActs_any _ _ x d w4 ((HX.out.below HB4.out (Nat.le_refl _)).more HB4.out.size) HXW.out ((HD.out.below HB4.out (Nat.le_refl _)).more HB4.out.size) HDW.out).mono ?_
    rintro e w5 ⟨r5, rfl, hO5, hb5⟩
    obtain ⟨A5, c5, rfl, -, hc5⟩ := (hO5.at_ (Nat.le_refl _)).form
    have HB5 := Lib.hid (HB4.out.trans (hb5.mono HB4.out.size))
    have HL5 := Lib.hid (hO5.at_ (Nat.le_refl _))
    clear x0 x1 z0 z1 z2 z3 z4 hb5 hO5
    obtain ⟨x0, x1, z0, z1, z2, z3, z4⟩ := TB.out.below HB5.out hgW1
    go_wp2_with fail
    refine (HK3.out _ HB5.out).mono ?_
    rintro e w6 ⟨rfl, hb6⟩
    have HL6 := Lib.hid ((HL5.out.below hb6 (Nat.le_refl _)).more hb6.size)
    have HB6 := Lib.hid (HB5.out.trans (hb6.mono HB5.out.size))
    clear x0 x1 z0 z1 z2 z3 z4 hb6
    obtain ⟨x0, x1, z0, z1, z2, z3, z4⟩ := TB.out.below HB6.out hgW1
    go_wp2_with fail
    refine (HK4.out _ HB6.out).mono ?_
    rintro e w7 ⟨rfl, hb7⟩
    have HL7 := Lib.hid ((HL6.out.below hb7 (Nat.le_refl _)).more hb7.size)
    have HB7 := Lib.hid (HB6.out.trans (hb7.mono HB6.out.size))
    clear x0 x1 z0 z1 z2 z3 z4 hb7
    obtain ⟨x0, x1, z0, z1, z2, z3, z4⟩ := TB.out.below HB7.out hgW1
    go_wp2_with fail
    refine (specActs_any _ _ x d w7 ((HX.out.below HB7.out (Nat.le_refl _)).more HB7.out.size) HXW.out HRN.out ((HD.out.below HB7.out (Nat.le_refl _)).more HB7.out.size) HDW.out HDN.out).mono ?_
    rintro e w8 ⟨r8, rfl, hO8, hb8⟩
    obtain ⟨A8, c8, rfl, -, hc8⟩ := (hO8.at_ (Nat.le_refl _)).form
    have HB8 := Lib.hid (HB7.out.trans (hb8.mono HB7.out.size))
    have HL8 := Lib.hid ((HL7.out.below hb8 (Nat.le_refl _)).more hb8.size)
    have HM8 := Lib.hid (hO8.at_ (Nat.le_refl _))
    clear x0 x1 z0 z1 z2 z3 z4 hb8 hO8
    obtain ⟨x0, x1, z0, z1, z2, z3, z4⟩ := TB.out.below HB8.out hgW1
    go_wp2_with fail
    refine (sameRows_c _ _ _ w8 HL8.out HM8.out).mono ?_
    rintro e w9 ⟨rfl, hb9⟩
    have HB9 := Lib.hid (HB8.out.trans (hb9.mono HB8.out.size))
    have HL9 := Lib.hid ((HL8.out.below hb9 (Nat.le_refl _)).more hb9.size)
    clear x0 x1 z0 z1 z2 z3 z4 hb9
    have hll := HLL.out
    generalize ActiveTriggers_r0 x d = L at *
    go_wp2
    go_loopw [9] (fun iv wr => ∃ i : Nat, i ≤ L.length ∧ iv = .int .i64 (i : Nat) ∧ Hid (Below w9.heap.size w9 wr)) (fun iv _ => L.length - (intOf iv).toNat)
    case atStart => exact ⟨0, by omega, rfl, Lib.hid (Below.refl _ _)⟩
    case round =>
     obtain ⟨i, hi, rfl, HC⟩ := hrel
     have HBr := Lib.hid (HB9.out.trans (HC.out.mono HB9.out.size))
     have hWr := HBr.out.size
     by_cases hlt : i < L.length
     ·
      obtain ⟨b, off, V, rfl, hb, cc, hV⟩ := IntSS_at.elem HL9.out i hlt
      have cr := (HC.out.cell (p := ⟨b, off + i, none⟩) hb).trans cc
      have hbr : b < wr.heap.size := Nat.lt_of_lt_of_le hb HC.out.size
      have HVr := Lib.hid ((hV.below HC.out (Nat.le_refl _)).more HC.out.size)
      have hact := HROW.out L[i] (List.getElem_mem hlt)
      obtain ⟨P3, d3, rfl, -⟩ := id hV
      clear cc hV
      generalize L[i] = row at *
      have hcon := fun (u : Aft wr.heap.size wr) => (by have := implIsActive_any (.agg #[.slice P x.rels.length c1, .slice Q x.facts.length d1]) (.agg #[.slice Y1 d.body.length ya1, .slice Y2 d.head.length ya2, .bool d.egd, .int .i64 d.left, .int .i64 d.right]) x d (.slice P3 row.length d3) row u.now ((HX.out.below (HBr.out.trans (u.is.mono hWr)) (Nat.le_refl _)).more (HBr.out.trans (u.is.mono hWr)).size) HXW.out ((HD.out.below (HBr.out.trans (u.is.mono hWr)) (Nat.le_refl _)).more (HBr.out.trans (u.is.mono hWr)).size) HDW.out HDN.out ((HVr.out.below u.is (Nat.le_refl _)).more u.is.size); rwa [hact] at this : Calls Tryz.prog 9 #[(.agg #[.slice P x.rels.length c1, .slice Q x.facts.length d1]), (.agg #[.slice Y1 d.body.length ya1, .slice Y2 d.head.length ya2, .bool d.egd, .int .i64 d.left, .int .i64 d.right]), .slice P3 row.length d3] u.now fun e w' => e = .returned (.bool true) ∧ Below u.now.heap.size u.now w')
      have hgr : g < wr.heap.size := Nat.lt_of_lt_of_le hgW hWr
      have hgr1 : g + 1 < wr.heap.size := Nat.lt_of_lt_of_le hgW1 hWr
      obtain ⟨x0, x1, z0, z1, z2, z3, z4⟩ := TB.out.below HBr.out hgW1
      have B9 := Aft.cell (B := wr.heap.size) (w := wr) hbr cr
      have B1 := Aft.cell (B := wr.heap.size) (w := wr) hgr x0
      have B2 := Aft.cell (B := wr.heap.size) (w := wr) hgr x1
      have B3 := Aft.cell (B := wr.heap.size) (w := wr) hgr1 z0
      have B4 := Aft.cell (B := wr.heap.size) (w := wr) hgr1 z1
      have B5 := Aft.cell (B := wr.heap.size) (w := wr) hgr1 z2
      have B6 := Aft.cell (B := wr.heap.size) (w := wr) hgr1 z3
      have B7 := Aft.cell (B := wr.heap.size) (w := wr) hgr1 z4
      clear x0 x1 z0 z1 z2 z3 z4 cr hact
      go_wp2_with fail
      refine wp_region_aft (Below.refl wr.heap.size wr) (by kernel_rfl) (by kernel_rfl) ?_
      repeat (go_big_quiet_step (((go_at_call 9; exact calls_aft (Nat.le_refl _) (hcon _)))))
      refine wpQuiet_nil ?_
      refine aft_end ?_
      intro w10 hh
      clear B1 B2 B3 B4 B5 B6 B7 B9 hcon
      go_wp2
      go_roundw
      case rel => exact ⟨i + 1, by omega, by go_num, Lib.hid (HC.out.trans (hh.mono HC.out.size))⟩
      case measure => simp [intOf]; omega
     ·
      obtain rfl : i = L.length := by omega
      have HLr := Lib.hid ((HL9.out.below HC.out (Nat.le_refl _)).more HC.out.size)
      have hmem := HAM.out.symm
      have hcin := fun (u : Aft wr.heap.size wr) => (by have := inRows_c (.slice A5 L.length c5) (.slice PU bb.length cU) L bb u.now ((HLr.out.below u.is (Nat.le_refl _)).more u.is.size) ((HU.out.below (HBr.out.trans (u.is.mono hWr)) (Nat.le_refl _)).more (HBr.out.trans (u.is.mono hWr)).size); rwa [hmem] at this : Calls Tryz.prog 16 #[.slice A5 L.length c5, (.slice PU bb.length cU)] u.now fun e w' => e = .returned (.bool true) ∧ Below u.now.heap.size u.now w')
      clear hmem
      have hgr : g < wr.heap.size := Nat.lt_of_lt_of_le hgW hWr
      have hgr1 : g + 1 < wr.heap.size := Nat.lt_of_lt_of_le hgW1 hWr
      obtain ⟨x0, x1, z0, z1, z2, z3, z4⟩ := TB.out.below HBr.out hgW1
      have hdk := trig_dep HT.out
      cases hE : d.egd with
      | true =>
       obtain ⟨⟨hl0, hl5⟩, hr0, hr5⟩ := depOk_vars hdk.1 hE
       have hb5 := hdk.2
       obtain ⟨jl, hjl⟩ : ∃ j : Nat, d.left = (j : Int) := ⟨d.left.toNat, by omega⟩
       obtain ⟨jr, hjr⟩ : ∃ j : Nat, d.right = (j : Int) := ⟨d.right.toNat, by omega⟩
       have hjl5 : jl < bb.length := by omega
       have hjr5 : jr < bb.length := by omega
       have hne : (bb[jl] != bb[jr]) = true := by
        have h := HA.out
        unfold activeOk at h
        rw [HT.out, if_pos hE, hjl, hjr, Int.toNat_natCast, Int.toNat_natCast, List.getD_eq_getElem?_getD, List.getD_eq_getElem?_getD, List.getElem?_eq_getElem hjl5, List.getElem?_eq_getElem hjr5] at h
        rw [← h]
        simp [bne, Bool.beq_eq_decide_eq]
       obtain ⟨bu, ou, hPU, hbu, uc⟩ := IntsAt.elem HU.out jl hjl5
       obtain ⟨bu2, ou2, hPU2, -, uc2⟩ := IntsAt.elem HU.out jr hjr5
       subst hPU
       obtain ⟨rfl, rfl⟩ : bu = bu2 ∧ ou = ou2 := by simpa using hPU2
       clear hPU2
       have uc := (HBr.out.cell (p := ⟨bu, ou + jl, none⟩) hbu).trans uc
       have uc2 := (HBr.out.cell (p := ⟨bu, ou + jr, none⟩) hbu).trans uc2
       have hbur : bu < wr.heap.size := Nat.lt_of_lt_of_le hbu hWr
       rw [hE] at z2
       rw [hjl] at z3
       rw [hjr] at z4
       have B1 := Aft.cell (B := wr.heap.size) (w := wr) hgr x0
       have B2 := Aft.cell (B := wr.heap.size) (w := wr) hgr x1
       have B3 := Aft.cell (B := wr.heap.size) (w := wr) hgr1 z0
       have B4 := Aft.cell (B := wr.heap.size) (w := wr) hgr1 z1
       have B5 := Aft.cell (B := wr.heap.size) (w := wr) hgr1 z2
       have B6 := Aft.cell (B := wr.heap.size) (w := wr) hgr1 z3
       have B7 := Aft.cell (B := wr.heap.size) (w := wr) hgr1 z4
       have B10 := Aft.cell (B := wr.heap.size) (w := wr) hbur uc
       have B11 := Aft.cell (B := wr.heap.size) (w := wr) hbur uc2
       clear hjl hjr hl0 hl5 hr0 hr5 hdk hE hb5
       generalize bb[jl] = m at *
       generalize bb[jr] = n at *
       have hne2 : (m == n) = false := by simpa [bne] using hne
       go_wp2_with fail
       refine wp_region_aft (Below.refl wr.heap.size wr) (by kernel_rfl) (by kernel_rfl) ?_
       repeat (go_big_quiet_step (((first | (go_at_call 16; exact calls_aft (Nat.le_refl _) (hcin _)) | (go_at_call 17; exact calls_aft (Nat.le_refl _) (hcex _))))))
       refine wpQuiet_nil ?_
       refine aft_end ?_
       intro w11 hh
       have HZ := Lib.hid (HW.out.trans ((HBr.out.trans (hh.mono hWr)).mono HW.out.size))
       clear x0 x1 z0 z1 z2 z3 z4 B1 B2 B3 B4 B5 B6 B7 hcin uc uc2 B10 B11
       go_wp2
       go_ret
       exact ⟨rfl, HZ.out⟩
      | false =>
       have hext : hasExt x d.head bb = false := by
        have h := HA.out
        unfold activeOk at h
        rw [HT.out, if_neg (by rw [hE]; simp)] at h
        cases hx : hasExt x d.head bb <;> rw [hx] at h <;> first | rfl | exact absurd h (by decide)
       have hcex := fun (u : Aft wr.heap.size wr) => (by have := implHasExtension_any (.agg #[.slice P x.rels.length c1, .slice Q x.facts.length d1]) (.slice Y2 d.head.length ya2) x d.head (.slice PU bb.length cU) bb u.now ((HX.out.below (HBr.out.trans (u.is.mono hWr)) (Nat.le_refl _)).more (HBr.out.trans (u.is.mono hWr)).size) HXW.out ((HH.out.below (HBr.out.trans (u.is.mono hWr)) (Nat.le_refl _)).more (HBr.out.trans (u.is.mono hWr)).size) HDW.out.2.1 ((HU.out.below (HBr.out.trans (u.is.mono hWr)) (Nat.le_refl _)).more (HBr.out.trans (u.is.mono hWr)).size); rwa [hext] at this : Calls Tryz.prog 17 #[(.agg #[.slice P x.rels.length c1, .slice Q x.facts.length d1]), .slice Y2 d.head.length ya2, (.slice PU bb.length cU)] u.now fun e w' => e = .returned (.bool false) ∧ Below u.now.heap.size u.now w')
       rw [hE] at z2
       have B1 := Aft.cell (B := wr.heap.size) (w := wr) hgr x0
       have B2 := Aft.cell (B := wr.heap.size) (w := wr) hgr x1
       have B3 := Aft.cell (B := wr.heap.size) (w := wr) hgr1 z0
       have B4 := Aft.cell (B := wr.heap.size) (w := wr) hgr1 z1
       have B5 := Aft.cell (B := wr.heap.size) (w := wr) hgr1 z2
       have B6 := Aft.cell (B := wr.heap.size) (w := wr) hgr1 z3
       have B7 := Aft.cell (B := wr.heap.size) (w := wr) hgr1 z4
       clear hext hE hdk
       go_wp2_with fail
       refine wp_region_aft (Below.refl wr.heap.size wr) (by kernel_rfl) (by kernel_rfl) ?_
       repeat (go_big_quiet_step (((first | (go_at_call 16; exact calls_aft (Nat.le_refl _) (hcin _)) | (go_at_call 17; exact calls_aft (Nat.le_refl _) (hcex _))))))
       refine wpQuiet_nil ?_
       refine aft_end ?_
       intro w11 hh
       have HZ := Lib.hid (HW.out.trans ((HBr.out.trans (hh.mono hWr)).mono HW.out.size))
       clear x0 x1 z0 z1 z2 z3 z4 B1 B2 B3 B4 B5 B6 B7 hcin hcex
       go_wp2
       go_ret
       exact ⟨rfl, HZ.out⟩
   | false =>
    go_wp2_with fail
    refine (HK1.out _ HB2.out).mono ?_
    rintro e w3 ⟨rfl, hb3⟩
    have HB3 := Lib.hid (HB2.out.trans (hb3.mono HB2.out.size))
    clear x0 x1 z0 z1 z2 z3 z4 hb3
    obtain ⟨x0, x1, z0, z1, z2, z3, z4⟩ := TB.out.below HB3.out hgW1
    go_wp2_with fail
    refine (HK2.out _ HB3.out).mono ?_
    rintro e w4 ⟨rfl, hb4⟩
    have HB4 := Lib.hid (HB3.out.trans (hb4.mono HB3.out.size))
    clear x0 x1 z0 z1 z2 z3 z4 hb4
    obtain ⟨x0, x1, z0, z1, z2, z3, z4⟩ := TB.out.below HB4.out hgW1
    go_wp2_with fail
    refine (implActs_any _ _ x d w4 ((HX.out.below HB4.out (Nat.le_refl _)).more HB4.out.size) HXW.out ((HD.out.below HB4.out (Nat.le_refl _)).more HB4.out.size) HDW.out).mono ?_
    rintro e w5 ⟨r5, rfl, hO5, hb5⟩
    obtain ⟨A5, c5, rfl, -, hc5⟩ := (hO5.at_ (Nat.le_refl _)).form
    have HB5 := Lib.hid (HB4.out.trans (hb5.mono HB4.out.size))
    have HL5 := Lib.hid (hO5.at_ (Nat.le_refl _))
    clear x0 x1 z0 z1 z2 z3 z4 hb5 hO5
    obtain ⟨x0, x1, z0, z1, z2, z3, z4⟩ := TB.out.below HB5.out hgW1
    go_wp2_with fail
    refine (HK3.out _ HB5.out).mono ?_
    rintro e w6 ⟨rfl, hb6⟩
    have HL6 := Lib.hid ((HL5.out.below hb6 (Nat.le_refl _)).more hb6.size)
    have HB6 := Lib.hid (HB5.out.trans (hb6.mono HB5.out.size))
    clear x0 x1 z0 z1 z2 z3 z4 hb6
    obtain ⟨x0, x1, z0, z1, z2, z3, z4⟩ := TB.out.below HB6.out hgW1
    go_wp2_with fail
    refine (HK4.out _ HB6.out).mono ?_
    rintro e w7 ⟨rfl, hb7⟩
    have HL7 := Lib.hid ((HL6.out.below hb7 (Nat.le_refl _)).more hb7.size)
    have HB7 := Lib.hid (HB6.out.trans (hb7.mono HB6.out.size))
    clear x0 x1 z0 z1 z2 z3 z4 hb7
    obtain ⟨x0, x1, z0, z1, z2, z3, z4⟩ := TB.out.below HB7.out hgW1
    go_wp2_with fail
    refine (specActs_any _ _ x d w7 ((HX.out.below HB7.out (Nat.le_refl _)).more HB7.out.size) HXW.out HRN.out ((HD.out.below HB7.out (Nat.le_refl _)).more HB7.out.size) HDW.out HDN.out).mono ?_
    rintro e w8 ⟨r8, rfl, hO8, hb8⟩
    obtain ⟨A8, c8, rfl, -, hc8⟩ := (hO8.at_ (Nat.le_refl _)).form
    have HB8 := Lib.hid (HB7.out.trans (hb8.mono HB7.out.size))
    have HL8 := Lib.hid ((HL7.out.below hb8 (Nat.le_refl _)).more hb8.size)
    have HM8 := Lib.hid (hO8.at_ (Nat.le_refl _))
    clear x0 x1 z0 z1 z2 z3 z4 hb8 hO8
    obtain ⟨x0, x1, z0, z1, z2, z3, z4⟩ := TB.out.below HB8.out hgW1
    go_wp2_with fail
    refine (sameRows_c _ _ _ w8 HL8.out HM8.out).mono ?_
    rintro e w9 ⟨rfl, hb9⟩
    have HB9 := Lib.hid (HB8.out.trans (hb9.mono HB8.out.size))
    have HL9 := Lib.hid ((HL8.out.below hb9 (Nat.le_refl _)).more hb9.size)
    clear x0 x1 z0 z1 z2 z3 z4 hb9
    have hll := HLL.out
    generalize ActiveTriggers_r0 x d = L at *
    go_wp2
    go_loopw [9] (fun iv wr => ∃ i : Nat, i ≤ L.length ∧ iv = .int .i64 (i : Nat) ∧ Hid (Below w9.heap.size w9 wr)) (fun iv _ => L.length - (intOf iv).toNat)
    case atStart => exact ⟨0, by omega, rfl, Lib.hid (Below.refl _ _)⟩
    case round =>
     obtain ⟨i, hi, rfl, HC⟩ := hrel
     have HBr := Lib.hid (HB9.out.trans (HC.out.mono HB9.out.size))
     have hWr := HBr.out.size
     by_cases hlt : i < L.length
     ·
      obtain ⟨b, off, V, rfl, hb, cc, hV⟩ := IntSS_at.elem HL9.out i hlt
      have cr := (HC.out.cell (p := ⟨b, off + i, none⟩) hb).trans cc
      have hbr : b < wr.heap.size := Nat.lt_of_lt_of_le hb HC.out.size
      have HVr := Lib.hid ((hV.below HC.out (Nat.le_refl _)).more HC.out.size)
      have hact := HROW.out L[i] (List.getElem_mem hlt)
      obtain ⟨P3, d3, rfl, -⟩ := id hV
      clear cc hV
      generalize L[i] = row at *
      have hcon := fun (u : Aft wr.heap.size wr) => (by have := implIsActive_any (.agg #[.slice P x.rels.length c1, .slice Q x.facts.length d1]) (.agg #[.slice Y1 d.body.length ya1, .slice Y2 d.head.length ya2, .bool d.egd, .int .i64 d.left, .int .i64 d.right]) x d (.slice P3 row.length d3) row u.now ((HX.out.below (HBr.out.trans (u.is.mono hWr)) (Nat.le_refl _)).more (HBr.out.trans (u.is.mono hWr)).size) HXW.out ((HD.out.below (HBr.out.trans (u.is.mono hWr)) (Nat.le_refl _)).more (HBr.out.trans (u.is.mono hWr)).size) HDW.out HDN.out ((HVr.out.below u.is (Nat.le_refl _)).more u.is.size); rwa [hact] at this : Calls Tryz.prog 9 #[(.agg #[.slice P x.rels.length c1, .slice Q x.facts.length d1]), (.agg #[.slice Y1 d.body.length ya1, .slice Y2 d.head.length ya2, .bool d.egd, .int .i64 d.left, .int .i64 d.right]), .slice P3 row.length d3] u.now fun e w' => e = .returned (.bool true) ∧ Below u.now.heap.size u.now w')
      have hgr : g < wr.heap.size := Nat.lt_of_lt_of_le hgW hWr
      have hgr1 : g + 1 < wr.heap.size := Nat.lt_of_lt_of_le hgW1 hWr
      obtain ⟨x0, x1, z0, z1, z2, z3, z4⟩ := TB.out.below HBr.out hgW1
      have B9 := Aft.cell (B := wr.heap.size) (w := wr) hbr cr
      have B1 := Aft.cell (B := wr.heap.size) (w := wr) hgr x0
      have B2 := Aft.cell (B := wr.heap.size) (w := wr) hgr x1
      have B3 := Aft.cell (B := wr.heap.size) (w := wr) hgr1 z0
      have B4 := Aft.cell (B := wr.heap.size) (w := wr) hgr1 z1
      have B5 := Aft.cell (B := wr.heap.size) (w := wr) hgr1 z2
      have B6 := Aft.cell (B := wr.heap.size) (w := wr) hgr1 z3
      have B7 := Aft.cell (B := wr.heap.size) (w := wr) hgr1 z4
      clear x0 x1 z0 z1 z2 z3 z4 cr hact
      go_wp2_with fail
      refine wp_region_aft (Below.refl wr.heap.size wr) (by kernel_rfl) (by kernel_rfl) ?_
      repeat (go_big_quiet_step (((go_at_call 9; exact calls_aft (Nat.le_refl _) (hcon _)))))
      refine wpQuiet_nil ?_
      refine aft_end ?_
      intro w10 hh
      clear B1 B2 B3 B4 B5 B6 B7 B9 hcon
      go_wp2
      go_roundw
      case rel => exact ⟨i + 1, by omega, by go_num, Lib.hid (HC.out.trans (hh.mono HC.out.size))⟩
      case measure => simp [intOf]; omega
     ·
      obtain rfl : i = L.length := by omega
      have HLr := Lib.hid ((HL9.out.below HC.out (Nat.le_refl _)).more HC.out.size)
      have hmem := HAM.out.symm
      have hcin := fun (u : Aft wr.heap.size wr) => (by have := inRows_c (.slice A5 L.length c5) (.slice PU bb.length cU) L bb u.now ((HLr.out.below u.is (Nat.le_refl _)).more u.is.size) ((HU.out.below (HBr.out.trans (u.is.mono hWr)) (Nat.le_refl _)).more (HBr.out.trans (u.is.mono hWr)).size); rwa [hmem] at this : Calls Tryz.prog 16 #[.slice A5 L.length c5, (.slice PU bb.length cU)] u.now fun e w' => e = .returned (.bool false) ∧ Below u.now.heap.size u.now w')
      clear hmem
      have hgr : g < wr.heap.size := Nat.lt_of_lt_of_le hgW hWr
      have hgr1 : g + 1 < wr.heap.size := Nat.lt_of_lt_of_le hgW1 hWr
      obtain ⟨x0, x1, z0, z1, z2, z3, z4⟩ := TB.out.below HBr.out hgW1
      have hdk := trig_dep HT.out
      cases hE : d.egd with
      | true =>
       obtain ⟨⟨hl0, hl5⟩, hr0, hr5⟩ := depOk_vars hdk.1 hE
       have hb5 := hdk.2
       obtain ⟨jl, hjl⟩ : ∃ j : Nat, d.left = (j : Int) := ⟨d.left.toNat, by omega⟩
       obtain ⟨jr, hjr⟩ : ∃ j : Nat, d.right = (j : Int) := ⟨d.right.toNat, by omega⟩
       have hjl5 : jl < bb.length := by omega
       have hjr5 : jr < bb.length := by omega
       have hne : (bb[jl] != bb[jr]) = false := by
        have h := HA.out
        unfold activeOk at h
        rw [HT.out, if_pos hE, hjl, hjr, Int.toNat_natCast, Int.toNat_natCast, List.getD_eq_getElem?_getD, List.getD_eq_getElem?_getD, List.getElem?_eq_getElem hjl5, List.getElem?_eq_getElem hjr5] at h
        rw [← h]
        simp [bne, Bool.beq_eq_decide_eq]
       obtain ⟨bu, ou, hPU, hbu, uc⟩ := IntsAt.elem HU.out jl hjl5
       obtain ⟨bu2, ou2, hPU2, -, uc2⟩ := IntsAt.elem HU.out jr hjr5
       subst hPU
       obtain ⟨rfl, rfl⟩ : bu = bu2 ∧ ou = ou2 := by simpa using hPU2
       clear hPU2
       have uc := (HBr.out.cell (p := ⟨bu, ou + jl, none⟩) hbu).trans uc
       have uc2 := (HBr.out.cell (p := ⟨bu, ou + jr, none⟩) hbu).trans uc2
       have hbur : bu < wr.heap.size := Nat.lt_of_lt_of_le hbu hWr
       rw [hE] at z2
       rw [hjl] at z3
       rw [hjr] at z4
       have B1 := Aft.cell (B := wr.heap.size) (w := wr) hgr x0
       have B2 := Aft.cell (B := wr.heap.size) (w := wr) hgr x1
       have B3 := Aft.cell (B := wr.heap.size) (w := wr) hgr1 z0
       have B4 := Aft.cell (B := wr.heap.size) (w := wr) hgr1 z1
       have B5 := Aft.cell (B := wr.heap.size) (w := wr) hgr1 z2
       have B6 := Aft.cell (B := wr.heap.size) (w := wr) hgr1 z3
       have B7 := Aft.cell (B := wr.heap.size) (w := wr) hgr1 z4
       have B10 := Aft.cell (B := wr.heap.size) (w := wr) hbur uc
       have B11 := Aft.cell (B := wr.heap.size) (w := wr) hbur uc2
       clear hjl hjr hl0 hl5 hr0 hr5 hdk hE hb5
       generalize bb[jl] = m at *
       generalize bb[jr] = n at *
       obtain rfl : m = n := by simpa [bne] using hne
       go_wp2_with fail
       refine wp_region_aft (Below.refl wr.heap.size wr) (by kernel_rfl) (by kernel_rfl) ?_
       repeat (go_big_quiet_step (((first | (go_at_call 16; exact calls_aft (Nat.le_refl _) (hcin _)) | (go_at_call 17; exact calls_aft (Nat.le_refl _) (hcex _))))))
       refine wpQuiet_nil ?_
       refine aft_end ?_
       intro w11 hh
       have HZ := Lib.hid (HW.out.trans ((HBr.out.trans (hh.mono hWr)).mono HW.out.size))
       clear x0 x1 z0 z1 z2 z3 z4 B1 B2 B3 B4 B5 B6 B7 hcin uc uc2 B10 B11
       go_wp2
       go_ret
       exact ⟨rfl, HZ.out⟩
      | false =>
       have hext : hasExt x d.head bb = true := by
        have h := HA.out
        unfold activeOk at h
        rw [HT.out, if_neg (by rw [hE]; simp)] at h
        cases hx : hasExt x d.head bb <;> rw [hx] at h <;> first | rfl | exact absurd h (by decide)
       have hcex := fun (u : Aft wr.heap.size wr) => (by have := implHasExtension_any (.agg #[.slice P x.rels.length c1, .slice Q x.facts.length d1]) (.slice Y2 d.head.length ya2) x d.head (.slice PU bb.length cU) bb u.now ((HX.out.below (HBr.out.trans (u.is.mono hWr)) (Nat.le_refl _)).more (HBr.out.trans (u.is.mono hWr)).size) HXW.out ((HH.out.below (HBr.out.trans (u.is.mono hWr)) (Nat.le_refl _)).more (HBr.out.trans (u.is.mono hWr)).size) HDW.out.2.1 ((HU.out.below (HBr.out.trans (u.is.mono hWr)) (Nat.le_refl _)).more (HBr.out.trans (u.is.mono hWr)).size); rwa [hext] at this : Calls Tryz.prog 17 #[(.agg #[.slice P x.rels.length c1, .slice Q x.facts.length d1]), .slice Y2 d.head.length ya2, (.slice PU bb.length cU)] u.now fun e w' => e = .returned (.bool true) ∧ Below u.now.heap.size u.now w')
       rw [hE] at z2
       have B1 := Aft.cell (B := wr.heap.size) (w := wr) hgr x0
       have B2 := Aft.cell (B := wr.heap.size) (w := wr) hgr x1
       have B3 := Aft.cell (B := wr.heap.size) (w := wr) hgr1 z0
       have B4 := Aft.cell (B := wr.heap.size) (w := wr) hgr1 z1
       have B5 := Aft.cell (B := wr.heap.size) (w := wr) hgr1 z2
       have B6 := Aft.cell (B := wr.heap.size) (w := wr) hgr1 z3
       have B7 := Aft.cell (B := wr.heap.size) (w := wr) hgr1 z4
       clear hext hE hdk
       go_wp2_with fail
       refine wp_region_aft (Below.refl wr.heap.size wr) (by kernel_rfl) (by kernel_rfl) ?_
       repeat (go_big_quiet_step (((first | (go_at_call 16; exact calls_aft (Nat.le_refl _) (hcin _)) | (go_at_call 17; exact calls_aft (Nat.le_refl _) (hcex _))))))
       refine wpQuiet_nil ?_
       refine aft_end ?_
       intro w11 hh
       have HZ := Lib.hid (HW.out.trans ((HBr.out.trans (hh.mono hWr)).mono HW.out.size))
       clear x0 x1 z0 z1 z2 z3 z4 B1 B2 B3 B4 B5 B6 B7 hcin hcex
       go_wp2
       go_ret
       exact ⟨rfl, HZ.out⟩

end Go.Proofs.YtoapphgahmofhaaGreat
