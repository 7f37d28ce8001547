/-
  Walks and plain lemmas for the laws of this seat: what single Go functions return, for every argument.
-/
import Derived.Test.YtakflmaeclneiaaGreatTyAtom
import Derived.Test.YtakflmaeclneiaaGreatRel
import Derived.Test.YtakflmaeclneiaaGreatAtomSC
namespace Go.Proofs.YtakflmaeclneiaaGreat
open Go.RowKit

set_option maxHeartbeats 800000 in
theorem eqDependency_c (v u : Value) (x : Dep) (w : World) (h : Dependency_at w w.heap.size v x) (h' : Dependency_at w w.heap.size u x) :
    Calls Tryz.prog 31 #[v, u] w fun e w' => e = .returned (.bool true) ∧ Below w.heap.size w w' := by
  obtain ⟨P, c, Q, d, rfl⟩ := Dependency_form h
  obtain ⟨P', c', Q', d', rfl⟩ := Dependency_form h'
  obtain ⟨V1, V2, hv, hR, hF⟩ := h
  obtain ⟨U1, U2, hu, hR', hF'⟩ := h'
  simp only [Value.agg.injEq, Array.mk.injEq, List.cons.injEq, and_true] at hv hu
  obtain ⟨rfl, rfl⟩ := hv
  obtain ⟨rfl, rfl⟩ := hu
  have hE : Below w.heap.size w ((w.alloc (.cells #[.slice P x.body.length c, .slice Q x.head.length d, .bool x.egd, .int .i64 x.left, .int .i64 x.right] 51)).alloc (.cells #[.slice P' x.body.length c', .slice Q' x.head.length d', .bool x.egd, .int .i64 x.left, .int .i64 x.right] 51)) := below_more (below_more (Below.refl _ _) _) _
  have hEz : w.heap.size + 2 = ((w.alloc (.cells #[.slice P x.body.length c, .slice Q x.head.length d, .bool x.egd, .int .i64 x.left, .int .i64 x.right] 51)).alloc (.cells #[.slice P' x.body.length c', .slice Q' x.head.length d', .bool x.egd, .int .i64 x.left, .int .i64 x.right] 51)).heap.size := by simp
  have K1 := Lib.hid (show ((w.alloc (.cells #[.slice P x.body.length c, .slice Q x.head.length d, .bool x.egd, .int .i64 x.left, .int .i64 x.right] 51)).alloc (.cells #[.slice P' x.body.length c', .slice Q' x.head.length d', .bool x.egd, .int .i64 x.left, .int .i64 x.right] 51)).cell? ⟨w.heap.size, 1, none⟩ = some (.slice Q x.head.length d) by simp [go_sem])
  have K2 := Lib.hid (show ((w.alloc (.cells #[.slice P x.body.length c, .slice Q x.head.length d, .bool x.egd, .int .i64 x.left, .int .i64 x.right] 51)).alloc (.cells #[.slice P' x.body.length c', .slice Q' x.head.length d', .bool x.egd, .int .i64 x.left, .int .i64 x.right] 51)).cell? ⟨w.heap.size + 1, 1, none⟩ = some (.slice Q' x.head.length d') by simp [go_sem])
  have J1 := fun o (ho : o < 5) => Lib.hid (show ((w.alloc (.cells #[.slice P x.body.length c, .slice Q x.head.length d, .bool x.egd, .int .i64 x.left, .int .i64 x.right] 51)).alloc (.cells #[.slice P' x.body.length c', .slice Q' x.head.length d', .bool x.egd, .int .i64 x.left, .int .i64 x.right] 51)).cell? ⟨w.heap.size, o, none⟩ = #[.slice P x.body.length c, .slice Q x.head.length d, .bool x.egd, .int .i64 x.left, .int .i64 x.right][o]? by rcases (show o = 0 ∨ o = 1 ∨ o = 2 ∨ o = 3 ∨ o = 4 by omega) with rfl | rfl | rfl | rfl | rfl <;> simp [go_sem])
  have J2 := fun o (ho : o < 5) => Lib.hid (show ((w.alloc (.cells #[.slice P x.body.length c, .slice Q x.head.length d, .bool x.egd, .int .i64 x.left, .int .i64 x.right] 51)).alloc (.cells #[.slice P' x.body.length c', .slice Q' x.head.length d', .bool x.egd, .int .i64 x.left, .int .i64 x.right] 51)).cell? ⟨w.heap.size + 1, o, none⟩ = #[.slice P' x.body.length c', .slice Q' x.head.length d', .bool x.egd, .int .i64 x.left, .int .i64 x.right][o]? by rcases (show o = 0 ∨ o = 1 ∨ o = 2 ∨ o = 3 ∨ o = 4 by omega) with rfl | rfl | rfl | rfl | rfl <;> simp [go_sem])
  have c1 := eqAtomS_c _ _ x.body _ ((hR.below hE (Nat.le_refl _)).more hE.size) ((hR'.below hE (Nat.le_refl _)).more hE.size)
  have HF := Lib.hid hF
  have HF' := Lib.hid hF'
  clear hR hF hR' hF'
  go_enter Tryz.func31, Tryz.ntmps31
  go_wp2_with fail
  refine c1.mono ?_
  rintro e w1 ⟨rfl, hb1⟩
  clear c1
  have hB1 : Below w.heap.size w w1 := hE.trans (hb1.mono hE.size)
  have f1 := (hb1.cell (p := ⟨w.heap.size, 1, none⟩) (by show w.heap.size < _; omega)).trans K1.out
  have f2 := (hb1.cell (p := ⟨w.heap.size + 1, 1, none⟩) (by show w.heap.size + 1 < _; omega)).trans K2.out
  go_wp2_with fail
  refine (eqAtomS_c _ _ x.head w1 ((HF.out.below hB1 (Nat.le_refl _)).more hB1.size) ((HF'.out.below hB1 (Nat.le_refl _)).more hB1.size)).mono ?_
  rintro e w2 ⟨rfl, hb2⟩
  have hz1 := hb1.size
  have a2 := (hb2.cell (p := ⟨w.heap.size, 2, none⟩) (by show w.heap.size < _; omega)).trans ((hb1.cell (p := ⟨w.heap.size, 2, none⟩) (by show w.heap.size < _; omega)).trans (J1 2 (by omega)).out)
  have a3 := (hb2.cell (p := ⟨w.heap.size, 3, none⟩) (by show w.heap.size < _; omega)).trans ((hb1.cell (p := ⟨w.heap.size, 3, none⟩) (by show w.heap.size < _; omega)).trans (J1 3 (by omega)).out)
  have a4 := (hb2.cell (p := ⟨w.heap.size, 4, none⟩) (by show w.heap.size < _; omega)).trans ((hb1.cell (p := ⟨w.heap.size, 4, none⟩) (by show w.heap.size < _; omega)).trans (J1 4 (by omega)).out)
  have b2 := (hb2.cell (p := ⟨w.heap.size + 1, 2, none⟩) (by show w.heap.size + 1 < _; omega)).trans ((hb1.cell (p := ⟨w.heap.size + 1, 2, none⟩) (by show w.heap.size + 1 < _; omega)).trans (J2 2 (by omega)).out)
  have b3 := (hb2.cell (p := ⟨w.heap.size + 1, 3, none⟩) (by show w.heap.size + 1 < _; omega)).trans ((hb1.cell (p := ⟨w.heap.size + 1, 3, none⟩) (by show w.heap.size + 1 < _; omega)).trans (J2 3 (by omega)).out)
  have b4 := (hb2.cell (p := ⟨w.heap.size + 1, 4, none⟩) (by show w.heap.size + 1 < _; omega)).trans ((hb1.cell (p := ⟨w.heap.size + 1, 4, none⟩) (by show w.heap.size + 1 < _; omega)).trans (J2 4 (by omega)).out)
  simp at a2 a3 a4 b2 b3 b4
  clear J1 J2
  go_wp2
  go_ret
  exact ⟨rfl, hB1.trans (hb2.mono hB1.size)⟩

set_option maxHeartbeats 800000 in
theorem szDependency_c (v : Value) (x : Dep) (left : Int) (w : World) (h : Dependency_at w w.heap.size v x) (hw : Dependency_wf x) (h0 : 0 ≤ left) (h1 : left ≤ 1048576) :
    Calls Tryz.prog 18 #[v, .int .i64 left] w fun e w' => e = .returned (.int .i64 (szLeft left (Dependency_sz x : Nat))) ∧ Below w.heap.size w w' := by
  obtain ⟨P, c, Q, d, rfl⟩ := Dependency_form h
  obtain ⟨V1, V2, hv, hR, hF⟩ := h
  simp only [Value.agg.injEq, Array.mk.injEq, List.cons.injEq, and_true] at hv
  obtain ⟨rfl, rfl⟩ := hv
  have hE : Below w.heap.size w (w.alloc (.cells #[.slice P x.body.length c, .slice Q x.head.length d, .bool x.egd, .int .i64 x.left, .int .i64 x.right] 45)) := (Below.refl _ _).alloc (Nat.le_refl _) _
  have hEz : w.heap.size + 1 ≤ (w.alloc (.cells #[.slice P x.body.length c, .slice Q x.head.length d, .bool x.egd, .int .i64 x.left, .int .i64 x.right] 45)).heap.size := by simp
  have K1 := Lib.hid (show (w.alloc (.cells #[.slice P x.body.length c, .slice Q x.head.length d, .bool x.egd, .int .i64 x.left, .int .i64 x.right] 45)).cell? ⟨w.heap.size, 1, none⟩ = some (.slice Q x.head.length d) by simp [go_sem])
  have hsz : ((Dependency_sz x : Nat) : Int) = ((AtomS_sz x.body : Nat) : Int) + ((AtomS_sz x.head : Nat) : Int) := by unfold Dependency_sz; omega
  rw [hsz]
  clear hsz
  have c1 := szAtomS_c _ x.body left _ ((hR.below hE (Nat.le_refl _)).more hE.size) hw.1 h0 h1
  have HF := Lib.hid hF
  clear hR hF
  by_cases hr : ((AtomS_sz x.body : Nat) : Int) ≤ left
  · have e1 := szLeft_yes hr
    have e2 := Lib.hid (szLeft_add (left := left) (a := (AtomS_sz x.body : Nat)) (b := (AtomS_sz x.head : Nat)))
    rw [e1] at c1
    go_enter Tryz.func18, Tryz.ntmps18
    go_wp2_with fail
    refine c1.mono ?_
    rintro e w1 ⟨rfl, hb1⟩
    clear c1
    have hz1 := hb1.size
    have f1 := (hb1.cell (p := ⟨w.heap.size, 1, none⟩) hEz).trans K1.out
    have hB1 : Below w.heap.size w w1 := hE.trans (hb1.mono hE.size)
    have c2 := szAtomS_c _ x.head (left - (AtomS_sz x.body : Nat)) w1 ((HF.out.below hB1 (Nat.le_refl _)).more hB1.size) hw.2.1 (by omega) (by omega)
    by_cases hf : ((AtomS_sz x.head : Nat) : Int) ≤ left - (AtomS_sz x.body : Nat)
    · have e3 := szLeft_yes hf
      rw [e3] at c2 e2
      clear e1 e3
      go_wp2_with fail
      refine c2.mono ?_
      rintro e w2 ⟨rfl, hb2⟩
      go_wp2
      go_ret
      exact ⟨ret_int e2.out, hB1.trans (hb2.mono hB1.size)⟩
    · have e3 := szLeft_no hf
      rw [e3] at c2 e2
      clear e1 e3
      go_wp2_with fail
      refine c2.mono ?_
      rintro e w2 ⟨rfl, hb2⟩
      go_wp2
      go_ret
      exact ⟨ret_int e2.out, hB1.trans (hb2.mono hB1.size)⟩
  · have e1 := szLeft_no hr
    have e2 := Lib.hid (szLeft_no (left := left) (n := ((AtomS_sz x.body : Nat) : Int) + ((AtomS_sz x.head : Nat) : Int)) (by omega))
    rw [e1] at c1
    clear e1
    go_enter Tryz.func18, Tryz.ntmps18
    go_wp2_with fail
    refine c1.mono ?_
    rintro e w1 ⟨rfl, hb1⟩
    go_wp2
    go_ret
    exact ⟨ret_int e2.out.symm, hE.trans (hb1.mono hE.size)⟩

set_option maxHeartbeats 1600000 in
theorem toDependency_c (v : Value) (x : Dep) (w : World) (h : Dependency_at w w.heap.size v x) (hn : Dependency_sz x ≤ 1048576) :
    Calls Tryz.prog 25 #[v] w fun e w' => ∃ u, e = .returned u ∧ Dependency_own w.heap.size w'.heap.size u x w' ∧ Below w.heap.size w w' := by
  obtain ⟨P, c, Q, d, rfl⟩ := Dependency_form h
  obtain ⟨V1, V2, hv, hR, hF⟩ := h
  simp only [Value.agg.injEq, Array.mk.injEq, List.cons.injEq, and_true] at hv
  obtain ⟨rfl, rfl⟩ := hv
  have hn1 : AtomS_sz x.body ≤ 1048576 := by unfold Dependency_sz at hn; omega
  have hn2 : AtomS_sz x.head ≤ 1048576 := by unfold Dependency_sz at hn; omega
  have hE : Below w.heap.size w (((w.alloc (.cells #[.slice P x.body.length c, .slice Q x.head.length d, .bool x.egd, .int .i64 x.left, .int .i64 x.right] 45)).alloc (.cells #[.slice none 0 0, .slice none 0 0, .bool false, .int .i64 0, .int .i64 0] 51)).alloc (.cells #[.slice none 0 0, .slice none 0 0, .bool false, .int .i64 0, .int .i64 0] 51)) := below_more (below_more (below_more (Below.refl _ _) _) _) _
  have hEz : w.heap.size + 3 = (((w.alloc (.cells #[.slice P x.body.length c, .slice Q x.head.length d, .bool x.egd, .int .i64 x.left, .int .i64 x.right] 45)).alloc (.cells #[.slice none 0 0, .slice none 0 0, .bool false, .int .i64 0, .int .i64 0] 51)).alloc (.cells #[.slice none 0 0, .slice none 0 0, .bool false, .int .i64 0, .int .i64 0] 51)).heap.size := by simp
  have K0 := fun o (ho : o < 5) => Lib.hid (show (((w.alloc (.cells #[.slice P x.body.length c, .slice Q x.head.length d, .bool x.egd, .int .i64 x.left, .int .i64 x.right] 45)).alloc (.cells #[.slice none 0 0, .slice none 0 0, .bool false, .int .i64 0, .int .i64 0] 51)).alloc (.cells #[.slice none 0 0, .slice none 0 0, .bool false, .int .i64 0, .int .i64 0] 51)).cell? ⟨w.heap.size, o, none⟩ = #[.slice P x.body.length c, .slice Q x.head.length d, .bool x.egd, .int .i64 x.left, .int .i64 x.right][o]? by rcases (show o = 0 ∨ o = 1 ∨ o = 2 ∨ o = 3 ∨ o = 4 by omega) with rfl | rfl | rfl | rfl | rfl <;> simp [go_sem])
  have K1 := fun o (ho : o < 5) => Lib.hid (show (((w.alloc (.cells #[.slice P x.body.length c, .slice Q x.head.length d, .bool x.egd, .int .i64 x.left, .int .i64 x.right] 45)).alloc (.cells #[.slice none 0 0, .slice none 0 0, .bool false, .int .i64 0, .int .i64 0] 51)).alloc (.cells #[.slice none 0 0, .slice none 0 0, .bool false, .int .i64 0, .int .i64 0] 51)).cell? ⟨w.heap.size + 1, o, none⟩ = #[.slice none 0 0, .slice none 0 0, .bool false, .int .i64 0, .int .i64 0][o]? by rcases (show o = 0 ∨ o = 1 ∨ o = 2 ∨ o = 3 ∨ o = 4 by omega) with rfl | rfl | rfl | rfl | rfl <;> simp [go_sem])
  have K2 := fun o (ho : o < 5) => Lib.hid (show (((w.alloc (.cells #[.slice P x.body.length c, .slice Q x.head.length d, .bool x.egd, .int .i64 x.left, .int .i64 x.right] 45)).alloc (.cells #[.slice none 0 0, .slice none 0 0, .bool false, .int .i64 0, .int .i64 0] 51)).alloc (.cells #[.slice none 0 0, .slice none 0 0, .bool false, .int .i64 0, .int .i64 0] 51)).cell? ⟨w.heap.size + 1 + 1, o, none⟩ = #[.slice none 0 0, .slice none 0 0, .bool false, .int .i64 0, .int .i64 0][o]? by rcases (show o = 0 ∨ o = 1 ∨ o = 2 ∨ o = 3 ∨ o = 4 by omega) with rfl | rfl | rfl | rfl | rfl <;> simp [go_sem])
  have Z1 := fun o => Lib.hid (show (((w.alloc (.cells #[.slice P x.body.length c, .slice Q x.head.length d, .bool x.egd, .int .i64 x.left, .int .i64 x.right] 45)).alloc (.cells #[.slice none 0 0, .slice none 0 0, .bool false, .int .i64 0, .int .i64 0] 51)).alloc (.cells #[.slice none 0 0, .slice none 0 0, .bool false, .int .i64 0, .int .i64 0] 51)).frozen? ⟨w.heap.size + 1, o, none⟩ = false by simp [go_sem])
  have Z2 := fun o => Lib.hid (show (((w.alloc (.cells #[.slice P x.body.length c, .slice Q x.head.length d, .bool x.egd, .int .i64 x.left, .int .i64 x.right] 45)).alloc (.cells #[.slice none 0 0, .slice none 0 0, .bool false, .int .i64 0, .int .i64 0] 51)).alloc (.cells #[.slice none 0 0, .slice none 0 0, .bool false, .int .i64 0, .int .i64 0] 51)).frozen? ⟨w.heap.size + 1 + 1, o, none⟩ = false by simp [go_sem])
  have c1 := toAtomS_c _ x.body _ ((hR.below hE (Nat.le_refl _)).more hE.size) hn1
  have HF := Lib.hid hF
  clear hR hF
  go_enter Tryz.func25, Tryz.ntmps25
  go_wp2_with fail
  refine c1.mono ?_
  rintro e w1 ⟨u1, rfl, ho1, hb1⟩
  clear c1
  have hz1 := hb1.size
  obtain ⟨P1, p1, rfl, -, -⟩ := (ho1.at_ (Nat.le_refl _)).form
  have hB1 : Below w.heap.size w w1 := hE.trans (hb1.mono hE.size)
  have f0 := fun o (ho : o < 5) => (hb1.cell (p := ⟨w.heap.size, o, none⟩) (by show w.heap.size < _; omega)).trans (K0 o ho).out
  have q1 := f0 1 (by omega)
  simp at q1
  have f2 := fun o ho => (hb1.cell (p := ⟨w.heap.size + 1 + 1, o, none⟩) (by show w.heap.size + 1 + 1 < _; omega)).trans (K2 o ho).out
  have z2 := fun o => (hb1.frozen (p := ⟨w.heap.size + 1 + 1, o, none⟩) (by show w.heap.size + 1 + 1 < _; omega)).trans (Z2 o).out
  have f3 := f2 0 (by omega)
  have f4 := f2 1 (by omega)
  have f5 := f2 2 (by omega)
  have f6 := f2 3 (by omega)
  have f7 := f2 4 (by omega)
  simp at f3 f4 f5 f6 f7
  have HO1 := Lib.hid ho1
  clear ho1
  go_wp2_with fail
  have hw2 : Below w.heap.size w1 (w1.setCell ⟨w.heap.size + 1 + 1, 0, none⟩ (.slice P1 x.body.length p1)) := (Below.refl _ _).setCell (p := ⟨w.heap.size + 1 + 1, 0, none⟩) (by show w.heap.size ≤ w.heap.size + 1 + 1; omega) _
  have hB2 := hB1.trans hw2
  refine (toAtomS_c _ x.head _ ((HF.out.below hB2 (Nat.le_refl _)).more hB2.size) hn2).mono ?_
  rintro e w3 ⟨u2, rfl, ho2, hb3⟩
  obtain ⟨P2, p2, rfl, -, -⟩ := (ho2.at_ (Nat.le_refl _)).form
  have hsz : (w1.setCell ⟨w.heap.size + 1 + 1, 0, none⟩ (.slice P1 x.body.length p1)).heap.size = w1.heap.size := by simp [World.setCell]
  have hz3 := hb3.size
  have hB3 : Below w.heap.size w w3 := hB2.trans (hb3.mono (by omega))
  have G0 := fun o (ho : o < 5) => (hb3.cell (p := ⟨w.heap.size, o, none⟩) (by show w.heap.size < _; omega)).trans ((by simp [go_sem] : (w1.setCell ⟨w.heap.size + 1 + 1, 0, none⟩ (.slice P1 x.body.length p1)).cell? ⟨w.heap.size, o, none⟩ = w1.cell? ⟨w.heap.size, o, none⟩).trans (f0 o ho))
  have G1 := fun o (ho : o < 5) => (hb3.cell (p := ⟨w.heap.size + 1, o, none⟩) (by show w.heap.size + 1 < _; omega)).trans ((by simp [go_sem] : (w1.setCell ⟨w.heap.size + 1 + 1, 0, none⟩ (.slice P1 x.body.length p1)).cell? ⟨w.heap.size + 1, o, none⟩ = w1.cell? ⟨w.heap.size + 1, o, none⟩).trans ((hb1.cell (p := ⟨w.heap.size + 1, o, none⟩) (by show w.heap.size + 1 < _; omega)).trans (K1 o ho).out))
  have a2 := G0 2 (by omega)
  have a3 := G0 3 (by omega)
  have a4 := G0 4 (by omega)
  have m0 := G1 0 (by omega)
  have m1 := G1 1 (by omega)
  have m2 := G1 2 (by omega)
  have m3 := G1 3 (by omega)
  have m4 := G1 4 (by omega)
  simp at a2 a3 a4 m0 m1 m2 m3 m4
  have g0 : w3.cell? ⟨w.heap.size + 1 + 1, 0, none⟩ = some (.slice P1 x.body.length p1) := (hb3.cell (p := ⟨w.heap.size + 1 + 1, 0, none⟩) (by show w.heap.size + 1 + 1 < _; omega)).trans (by simp [go_sem, f3])
  have g1 : w3.cell? ⟨w.heap.size + 1 + 1, 1, none⟩ = some (.slice none 0 0) := (hb3.cell (p := ⟨w.heap.size + 1 + 1, 1, none⟩) (by show w.heap.size + 1 + 1 < _; omega)).trans (by simp [go_sem, f4])
  have g2 : w3.cell? ⟨w.heap.size + 1 + 1, 2, none⟩ = some (.bool false) := (hb3.cell (p := ⟨w.heap.size + 1 + 1, 2, none⟩) (by show w.heap.size + 1 + 1 < _; omega)).trans (by simp [go_sem, f5])
  have g3 : w3.cell? ⟨w.heap.size + 1 + 1, 3, none⟩ = some (.int .i64 0) := (hb3.cell (p := ⟨w.heap.size + 1 + 1, 3, none⟩) (by show w.heap.size + 1 + 1 < _; omega)).trans (by simp [go_sem, f6])
  have g4 : w3.cell? ⟨w.heap.size + 1 + 1, 4, none⟩ = some (.int .i64 0) := (hb3.cell (p := ⟨w.heap.size + 1 + 1, 4, none⟩) (by show w.heap.size + 1 + 1 < _; omega)).trans (by simp [go_sem, f7])
  have z3 := fun o => (hb3.frozen (p := ⟨w.heap.size + 1 + 1, o, none⟩) (by show w.heap.size + 1 + 1 < _; omega)).trans (by simp [go_sem, z2] : _ = false)
  have mz := fun o => (hb3.frozen (p := ⟨w.heap.size + 1, o, none⟩) (by show w.heap.size + 1 < _; omega)).trans ((by simp [go_sem] : _ = w1.frozen? ⟨w.heap.size + 1, o, none⟩).trans ((hb1.frozen (p := ⟨w.heap.size + 1, o, none⟩) (by show w.heap.size + 1 < _; omega)).trans (Z1 o).out))
  have HO2 := Lib.hid ho2
  have HB1 := Lib.hid hb1
  have HB3 := Lib.hid hb3
  clear f0 f2 f3 f4 f5 f6 f7 q1 z2 ho2 hb3 hb1 G0 G1 K0 K1 K2 Z1 Z2
  have hcA : Chg (Mid w.heap.size (w.heap.size + 3)) w1 (w1.setCell ⟨w.heap.size + 1 + 1, 0, none⟩ (.slice P1 x.body.length p1)) := (Chg.refl _ _).setCell (p := ⟨w.heap.size + 1 + 1, 0, none⟩) ⟨by show w.heap.size ≤ w.heap.size + 1 + 1; omega, by show w.heap.size + 1 + 1 < _; omega⟩ _
  have hcB : Chg (Mid w.heap.size (w.heap.size + 3)) w3 (((((((((w3.setCell ⟨w.heap.size + 1 + 1, 1, none⟩ (.slice P2 x.head.length p2)).setCell ⟨w.heap.size + 1 + 1, 2, none⟩ (.bool x.egd)).setCell ⟨w.heap.size + 1 + 1, 3, none⟩ (.int .i64 x.left)).setCell ⟨w.heap.size + 1 + 1, 4, none⟩ (.int .i64 x.right)).setCell ⟨w.heap.size + 1, 0, none⟩ (.slice P1 x.body.length p1)).setCell ⟨w.heap.size + 1, 1, none⟩ (.slice P2 x.head.length p2)).setCell ⟨w.heap.size + 1, 2, none⟩ (.bool x.egd)).setCell ⟨w.heap.size + 1, 3, none⟩ (.int .i64 x.left)).setCell ⟨w.heap.size + 1, 4, none⟩ (.int .i64 x.right)) :=
    ((((((((((Chg.refl _ _).setCell (p := ⟨w.heap.size + 1 + 1, 1, none⟩) ⟨by show w.heap.size ≤ w.heap.size + 1 + 1; omega, by show w.heap.size + 1 + 1 < _; omega⟩ _).setCell (p := ⟨w.heap.size + 1 + 1, 2, none⟩) ⟨by show w.heap.size ≤ w.heap.size + 1 + 1; omega, by show w.heap.size + 1 + 1 < _; omega⟩ _).setCell (p := ⟨w.heap.size + 1 + 1, 3, none⟩) ⟨by show w.heap.size ≤ w.heap.size + 1 + 1; omega, by show w.heap.size + 1 + 1 < _; omega⟩ _).setCell (p := ⟨w.heap.size + 1 + 1, 4, none⟩) ⟨by show w.heap.size ≤ w.heap.size + 1 + 1; omega, by show w.heap.size + 1 + 1 < _; omega⟩ _).setCell (p := ⟨w.heap.size + 1, 0, none⟩) ⟨by show w.heap.size ≤ w.heap.size + 1; omega, by show w.heap.size + 1 < _; omega⟩ _).setCell (p := ⟨w.heap.size + 1, 1, none⟩) ⟨by show w.heap.size ≤ w.heap.size + 1; omega, by show w.heap.size + 1 < _; omega⟩ _).setCell (p := ⟨w.heap.size + 1, 2, none⟩) ⟨by show w.heap.size ≤ w.heap.size + 1; omega, by show w.heap.size + 1 < _; omega⟩ _).setCell (p := ⟨w.heap.size + 1, 3, none⟩) ⟨by show w.heap.size ≤ w.heap.size + 1; omega, by show w.heap.size + 1 < _; omega⟩ _).setCell (p := ⟨w.heap.size + 1, 4, none⟩) ⟨by show w.heap.size ≤ w.heap.size + 1; omega, by show w.heap.size + 1 < _; omega⟩ _)
  have HA := Lib.hid hcA
  have HB := Lib.hid hcB
  have hE1 : w.heap.size + 1 ≤ (((w.alloc (.cells #[.slice P x.body.length c, .slice Q x.head.length d, .bool x.egd, .int .i64 x.left, .int .i64 x.right] 45)).alloc (.cells #[.slice none 0 0, .slice none 0 0, .bool false, .int .i64 0, .int .i64 0] 51)).alloc (.cells #[.slice none 0 0, .slice none 0 0, .bool false, .int .i64 0, .int .i64 0] 51)).heap.size := by omega
  clear hcA hcB
  go_wp2
  obtain ⟨Vs1, HS1⟩ := HO1.out
  obtain ⟨Vs2, HS2⟩ := HO2.out
  have H1 := Lib.hid HS1
  have H2 := Lib.hid HS2
  clear HS1 HS2
  have hu1 := fun g hg => (H1.out.foot g hg).2
  have hu2 := fun g hg => (H2.out.foot g hg).1
  have hzz := HB3.out.size
  refine bodyPost_ret (v := .agg #[.slice P1 x.body.length p1, .slice P2 x.head.length p2, .bool x.egd, .int .i64 x.left, .int .i64 x.right]) (by simp [results, Tryz.results25, go_sem, m0, m1, m2, m3, m4]) rfl ⟨_, rfl, ⟨_, _, Vs1, Vs2, rfl, ?_, ?_, fun g h1 h2 => ?_⟩, ?_⟩
  · have h1 := ((H1.out.chg HA.out (.inr (by omega))).below HB3.out (by omega)).chg HB.out (.inr (by omega))
    exact h1.mono (by omega) (by have := HB.out.size; omega)
  · have h1 := H2.out.chg HB.out (.inr (by omega))
    exact h1.mono (by omega) HB.out.size
  · have h3 := hu1 g h1
    have h4 := hu2 g h2
    omega
  · exact hB3.trans (HB.out.mid_below (Nat.le_refl _) hB3.size)

end Go.Proofs.YtakflmaeclneiaaGreat
