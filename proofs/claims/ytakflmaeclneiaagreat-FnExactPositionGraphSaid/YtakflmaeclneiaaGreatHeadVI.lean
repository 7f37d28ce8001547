/-
  Walks and plain lemmas for the laws of this seat: what single Go functions return, for every argument.
-/
import Derived.Test.YtakflmaeclneiaaGreatTyAtom
import Derived.Test.YtakflmaeclneiaaGreatVarsM
import Derived.Test.YtakflmaeclneiaaGreatDepsV
import Derived.Test.YtakflmaeclneiaaGreatVarsI
import Derived.Test.YtakflmaeclneiaaGreatDelI
namespace Go.Proofs.YtakflmaeclneiaaGreat
open Go.RowKit

/-- a row of ints and a Bool in boxes, which a function value has captured; all of it below block D -/
def BoxS (b0 b1 D : Nat) (l : List Int) (V : Value) (s : Bool) (W : World) : Prop := (b0 < D ∧ b1 < D ∧ D ≤ W.heap.size) ∧ W.cell? ⟨b0, 0, none⟩ = some V ∧ W.cell? ⟨b1, 0, none⟩ = some (.bool s) ∧ IntsAt W D V l
theorem BoxS.below {b0 b1 D D' : Nat} {l : List Int} {V : Value} {s : Bool} {W W' : World} (h : BoxS b0 b1 D l V s W) (hb : Below D' W W') (hD : D ≤ D') : BoxS b0 b1 D l V s W' := by
  obtain ⟨⟨h1, h2, h3⟩, h4, h5, h6⟩ := h
  exact ⟨⟨h1, h2, Nat.le_trans h3 hb.size⟩, (hb.cell (p := ⟨b0, 0, none⟩) (Nat.lt_of_lt_of_le h1 hD)).trans h4, (hb.cell (p := ⟨b1, 0, none⟩) (Nat.lt_of_lt_of_le h2 hD)).trans h5, h6.below hb hD⟩
theorem BoxS.later {b0 b1 D : Nat} {l : List Int} {V : Value} {s : Bool} {W W' : World} (h : BoxS b0 b1 D l V s W) (hb : Below W.heap.size W W') : BoxS b0 b1 D l V s W' := h.below hb h.1.2.2
theorem BoxS.store {b0 b1 D q : Nat} {l : List Int} {V : Value} {s : Bool} {W : World} (h : BoxS b0 b1 D l V s W) (hq : D ≤ q) (o : Nat) (u : Value) : BoxS b0 b1 D l V s (W.setCell ⟨q, o, none⟩ u) :=
  h.below ((Below.refl D W).setCell (p := ⟨q, o, none⟩) hq u) (Nat.le_refl _)
set_option maxHeartbeats 800000 in
theorem tells_head (b0 b1 D : Nat) (vs : List Int) (P : Option Addr) (c : Nat) (s : Bool) (l : List Int) (ha : vs.Pairwise (· ≤ ·)) (hn : vs.length ≤ 1048576) : TellsI 72 #[.pointer (some ⟨b0, 0, none⟩), .pointer (some ⟨b1, 0, none⟩)] (BoxS b0 b1 D vs (.slice P vs.length c) s) (fun t => vs.contains t != s) l := by
  intro W x hG hx
  obtain ⟨⟨h1, h2, h3⟩, h4, h5, h6⟩ := hG
  have hs := implSearchInts_any (.slice P vs.length c) vs x W (h6.more h3) ha hn
  have h4' := Lib.hid h4
  have h5' := Lib.hid h5
  have hb1W : b1 < W.heap.size := by omega
  clear h4 h5 h6 hx
  obtain ⟨f, hf⟩ : ∃ f, vs.contains x = f := ⟨_, rfl⟩
  rw [hf] at hs
  have HFF := Lib.hid (show (vs.contains x != s) = (!(f == s)) by rw [hf]; rfl)
  clear hf
  generalize vs.countP (· < x) = n at *
  have k0 := h4'.out
  show Calls Tryz.prog 72 #[.int .i64 x, .pointer (some ⟨b0, 0, none⟩), .pointer (some ⟨b1, 0, none⟩)] W _
  go_enter Tryz.func72, Tryz.ntmps72
  go_wp2_with fail
  refine hs.mono ?_
  rintro e w1 ⟨rfl, hb1⟩
  have k1 := (hb1.cell (p := ⟨b1, 0, none⟩) hb1W).trans h5'.out
  clear hs k0
  go_wp2
  go_ret
  exact ⟨ret_bool HFF.out.symm, hb1⟩
set_option maxHeartbeats 3200000 in
set_option maxRecDepth 100000 in
theorem implHeadVars_any (v : Value) (x : Dep) (b : Bool) (w : World) (h : Dependency_at w w.heap.size v x) (hn : Dependency_sz x ≤ 1048576) :
    Calls Tryz.prog 59 #[v, .bool b] w fun e w' => ∃ u, e = .returned u ∧ OwnInts w.heap.size u (headVars x b) w' ∧ Below w.heap.size w w' := by
  obtain ⟨P, c, Q, d, rfl⟩ := Dependency_form h
  obtain ⟨V1, V2, hv, hR, hF⟩ := h
  simp only [Value.agg.injEq, Array.mk.injEq, List.cons.injEq, and_true] at hv
  obtain ⟨rfl, rfl⟩ := hv
  have hn1 : AtomS_sz x.body ≤ 1048576 := by unfold Dependency_sz at hn; omega
  have hn2 : AtomS_sz x.head ≤ 1048576 := by unfold Dependency_sz at hn; omega
  obtain ⟨E, hEq⟩ : ∃ E, E = ((w.alloc (.cells #[.slice P x.body.length c, .slice Q x.head.length d, .bool x.egd, .int .i64 x.left, .int .i64 x.right] 51)).alloc (.cells #[.bool b] 4)) := ⟨_, rfl⟩
  have hE : Below w.heap.size w E := by rw [hEq]; exact below_more (below_more (Below.refl _ _) _) _
  have HEz := Lib.hid (show w.heap.size + 2 = E.heap.size by rw [hEq]; simp)
  have K1 := Lib.hid (show E.cell? ⟨w.heap.size, 1, none⟩ = some (.slice Q x.head.length d) by rw [hEq]; simp [go_sem])
  have KB := Lib.hid (show E.cell? ⟨w.heap.size + 1, 0, none⟩ = some (.bool b) by rw [hEq]; simp [go_sem])
  have c1 := implVariables_any _ x.body E ((hR.below hE (Nat.le_refl _)).more hE.size) hn1
  rw [hEq] at c1
  have HF := Lib.hid hF
  have HH := Lib.hid (headVars_keep x b)
  have hvl := varsOf_len x.head
  have hlb : (varsOf x.head).length ≤ 1048576 := by unfold AtomS_sz at hn2; omega
  have hvl1 := varsOf_len x.body
  have hlb1 : (varsOf x.body).length ≤ 1048576 := by unfold AtomS_sz at hn1; omega
  have HASC := Lib.hid (show (varsOf x.body).Pairwise (· ≤ ·) from (varsOf_asc x.body).imp fun h => by omega)
  clear hR hF hvl hvl1
  go_enter Tryz.func59, Tryz.ntmps59
  go_wp2_with fail
  refine c1.mono ?_
  rw [← hEq]
  clear hEq
  rintro e w1 ⟨u1, rfl, ho1, hb1⟩
  obtain ⟨A1, d1, rfl, -, hd1, -⟩ := id ho1.at_
  unfold maxLen at hd1
  have hz1 := hb1.size
  have hW1 := hE.trans (hb1.mono hE.size)
  obtain ⟨E2, hEq2⟩ : ∃ E2, E2 = w1.alloc (.cells #[.slice A1 (varsOf x.body).length d1] 47) := ⟨_, rfl⟩
  have hA2 : Below w1.heap.size w1 E2 := by rw [hEq2]; exact below_more (Below.refl _ _) _
  have HA2 := Lib.hid hA2
  have hW2 := hW1.trans (hA2.mono hW1.size)
  have f1 := (hA2.cell (p := ⟨w.heap.size, 1, none⟩) (by have := HEz.out; show w.heap.size < _; omega)).trans ((hb1.cell (p := ⟨w.heap.size, 1, none⟩) (by have := HEz.out; show w.heap.size < _; omega)).trans K1.out)
  have HB2 := Lib.hid ((hA2.cell (p := ⟨w.heap.size + 1, 0, none⟩) (by have := HEz.out; show w.heap.size + 1 < _; omega)).trans ((hb1.cell (p := ⟨w.heap.size + 1, 0, none⟩) (by have := HEz.out; show w.heap.size + 1 < _; omega)).trans KB.out))
  have HC2 := Lib.hid (show E2.cell? ⟨w1.heap.size, 0, none⟩ = some (.slice A1 (varsOf x.body).length d1) by rw [hEq2]; simp [go_sem])
  have HZ2 := Lib.hid (show w1.heap.size + 1 = E2.heap.size by rw [hEq2]; simp)
  have HI := Lib.hid ((ho1.at_.below hA2 (Nat.le_refl _)).more hA2.size)
  have c2 := implVariables_any _ x.head E2 ((HF.out.below hW2 (Nat.le_refl _)).more hW2.size) hn2
  rw [hEq2] at f1 c2
  clear c1 ho1 K1 KB hA2
  go_wp2_with fail
  refine c2.mono ?_
  rw [← hEq2]
  clear f1 c2 hEq2
  rintro e w2 ⟨u2, rfl, ho2, hb2⟩
  have hz2 := hb2.size
  have hW3 := hW2.trans (hb2.mono hW2.size)
  have hdel := implDelI_any 72 #[.pointer (some ⟨w1.heap.size, 0, none⟩), .pointer (some ⟨w.heap.size + 1, 0, none⟩)] (enters_of Tryz.func72 (by kernel_rfl) rfl) (BoxS w1.heap.size (w.heap.size + 1) E2.heap.size (varsOf x.body) (.slice A1 (varsOf x.body).length d1) b) (fun _ _ h hb => h.later hb) (fun t => (varsOf x.body).contains t != b) (varsOf x.head) E2.heap.size u2 w2
    ⟨⟨by have := HZ2.out; omega, by have := HZ2.out; have := HEz.out; omega, hz2⟩, (hb2.cell (p := ⟨w1.heap.size, 0, none⟩) (by have := HZ2.out; show w1.heap.size < _; omega)).trans HC2.out, (hb2.cell (p := ⟨w.heap.size + 1, 0, none⟩) (by have := HZ2.out; have := HEz.out; show w.heap.size + 1 < _; omega)).trans HB2.out, HI.out.below hb2 (Nat.le_refl _)⟩
    (tells_head _ _ _ _ _ _ _ _ HASC.out hlb1) hlb hz2 (fun W q o u hq hG => hG.store hq o u) ho2
  rw [HH.out] at hdel
  obtain ⟨A2, d2, rfl, -⟩ := id ho2.at_
  clear ho2
  go_wp2_with (go_at_call 71; refine hdel.mono ?_; rintro e w3 ⟨u, rfl, ho, hb3⟩)
  go_ret
  exact ⟨_, rfl, ho.mono hW2.size, hW3.trans (hb3.mono hW2.size)⟩

set_option maxHeartbeats 800000 in
theorem implExistentialVariables_c (v : Value) (x : Dep) (w : World) (h : Dependency_at w w.heap.size v x) (_ : Dependency_wf x) (hn : Dependency_sz x ≤ 1048576) :
    Calls Tryz.prog 61 #[v] w fun e w' => ∃ u, e = .returned u ∧ IntS_own w.heap.size w'.heap.size u (ExistentialVariables_r0 x) w' ∧ IntS_sz (ExistentialVariables_r0 x) ≤ 1048576 ∧ Below w.heap.size w w' := by
  have hl := headVars_len x false
  have hs : IntS_sz (ExistentialVariables_r0 x) ≤ 1048576 := by unfold IntS_sz ExistentialVariables_r0; unfold Dependency_sz AtomS_sz at hn; omega
  obtain ⟨P, c, Q, d, rfl⟩ := Dependency_form h
  have hE : Below w.heap.size w (w.alloc (.cells #[.slice P x.body.length c, .slice Q x.head.length d, .bool x.egd, .int .i64 x.left, .int .i64 x.right] 51)) := below_more (Below.refl _ _) _
  have hc := implHeadVars_any (.agg #[.slice P x.body.length c, .slice Q x.head.length d, .bool x.egd, .int .i64 x.left, .int .i64 x.right]) x false (w.alloc (.cells #[.slice P x.body.length c, .slice Q x.head.length d, .bool x.egd, .int .i64 x.left, .int .i64 x.right] 51)) (h.later hE) hn
  clear h
  go_enter Tryz.func61, Tryz.ntmps61
  go_wp2_with (go_at_call 59; refine hc.mono ?_; rintro e w1 ⟨u, rfl, ho, hb1⟩)
  go_ret
  exact ⟨_, rfl, IntsO.of (ho.mono (by simp)), hs, hE.trans (hb1.mono hE.size)⟩

set_option maxHeartbeats 800000 in
theorem implFrontierVariables_c (v : Value) (x : Dep) (w : World) (h : Dependency_at w w.heap.size v x) (_ : Dependency_wf x) (hn : Dependency_sz x ≤ 1048576) :
    Calls Tryz.prog 43 #[v] w fun e w' => ∃ u, e = .returned u ∧ IntS_own w.heap.size w'.heap.size u (FrontierVariables_r0 x) w' ∧ IntS_sz (FrontierVariables_r0 x) ≤ 1048576 ∧ Below w.heap.size w w' := by
  have hl := headVars_len x true
  have hs : IntS_sz (FrontierVariables_r0 x) ≤ 1048576 := by unfold IntS_sz FrontierVariables_r0; unfold Dependency_sz AtomS_sz at hn; omega
  obtain ⟨P, c, Q, d, rfl⟩ := Dependency_form h
  have hE : Below w.heap.size w (w.alloc (.cells #[.slice P x.body.length c, .slice Q x.head.length d, .bool x.egd, .int .i64 x.left, .int .i64 x.right] 51)) := below_more (Below.refl _ _) _
  have hc := implHeadVars_any (.agg #[.slice P x.body.length c, .slice Q x.head.length d, .bool x.egd, .int .i64 x.left, .int .i64 x.right]) x true (w.alloc (.cells #[.slice P x.body.length c, .slice Q x.head.length d, .bool x.egd, .int .i64 x.left, .int .i64 x.right] 51)) (h.later hE) hn
  clear h
  go_enter Tryz.func43, Tryz.ntmps43
  go_wp2_with (go_at_call 59; refine hc.mono ?_; rintro e w1 ⟨u, rfl, ho, hb1⟩)
  go_ret
  exact ⟨_, rfl, IntsO.of (ho.mono (by simp)), hs, hE.trans (hb1.mono hE.size)⟩

end Go.Proofs.YtakflmaeclneiaaGreat
