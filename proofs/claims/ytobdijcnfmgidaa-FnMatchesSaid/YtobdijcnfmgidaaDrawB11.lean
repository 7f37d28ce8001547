/-
  Walks and plain lemmas for the laws of this seat: what single Go functions return, for every argument.
-/
import Derived.Test.YtobdijcnfmgidaaDraw
import Derived.Test.YtobdijcnfmgidaaDrawD9
import Derived.Test.YtobdijcnfmgidaaDrawJ
import Derived.Test.YtobdijcnfmgidaaDrawK
import Derived.Test.YtobdijcnfmgidaaDrawU9
import Derived.Test.YtobdijcnfmgidaaDrawY9
namespace Go.Proofs.Ytobdijcnfmgidaa
open Go.RowKit

def GivesBoth (cv : Value) (code : List UInt8) (w : World) (e : Ending) (w' : World) : Prop :=
  ∃ V x X d, e = .returned (.tuple #[.pointer (some ⟨w.heap.size + 2, 0, none⟩), V, DVal9 X d]) ∧ Instance_lo (w.heap.size + 3) w' w'.heap.size V x ∧ InstSmall 9 x ∧ DepOwn (w.heap.size + 3) w'.heap.size X d w' ∧ DepSmall 3 d ∧ (∃ st, CurS w' (w.heap.size + 2) cv code st) ∧ Below w.heap.size w w'
theorem DepOwn.two {B C : Nat} {X : DepX} {x : Dep} {w : World} (h : DepOwn B C X x w) : ∃ Y1 y1 Y2 y2, X.1.1 = .slice Y1 x.body.length y1 ∧ X.2.1 = .slice Y2 x.head.length y2 := by
  obtain ⟨Y1, y1, h1, -, -⟩ := (h.1.at_ (Nat.le_refl _)).form
  obtain ⟨Y2, y2, h2, -, -⟩ := (h.2.1.at_ (Nat.le_refl _)).form
  exact ⟨Y1, y1, Y2, y2, h1, h2⟩
theorem DepSmall.more {n m : Nat} {x : Dep} (h : DepSmall n x) (hm : n ≤ m) : DepSmall m x := ⟨h.1, ⟨Nat.le_trans h.2.1.1 hm, h.2.1.2⟩, h.2.2⟩
theorem Cur.chgC {S : Nat → Prop} {w wr w' : World} {p : Nat} {cv : Value} {code : List UInt8} {i : Nat} {h : Int} (h0 : CodeAt w w.heap.size cv code) (hC : Cur wr p cv code i h) (hc : Chg S wr w') (hS : ∀ k, S k → w.heap.size ≤ k) (hw : w.heap.size ≤ wr.heap.size) (hp : ¬ S p) : Cur w' p cv code i h := by
  have hl := Cur.lt hC
  refine ⟨(hc.cell hl hp).trans hC.c0, (hc.cell hl hp).trans hC.c1, (hc.cell hl hp).trans hC.c2, fun j => (hc.frozen hl hp).trans (hC.fr j), ?_, hC.ile, hC.clen, hC.hlo, hC.hhi⟩
  rcases hC.txt with h | ⟨b, off, cap, h1, h2, h3⟩
  · exact Or.inl h
  · refine Or.inr ⟨b, off, cap, h1, h2, fun j hj => ?_⟩
    have hlt : b < w.heap.size := by
      rcases h0 with ⟨_, _, _, h5⟩ | ⟨b', off', cap', h4, _, h6⟩
      · rw [h5] at hj; simp at hj
      · rw [h1] at h4; injection h4 with h4; injection h4 with h4; injection h4 with h4; subst h4
        exact World.block_lt_of_cell? w _ (h6 j hj)
    rw [hc.cell (Nat.lt_of_lt_of_le hlt hw) (fun hs => by have := hS _ hs; omega)]; exact h3 j hj
theorem both_fin {cv : Value} {code : List UInt8} {st : DrawSt} {w W W' : World} {b p : Nat} {V V1 V2 : Value} {x : Inst} {X : DepX} {d : Dep} (hb : b = w.heap.size) (hp : p = w.heap.size + 2) (h0 : CodeAt w w.heap.size cv code) (hI : Instance_lo (p + 1) W W.heap.size V x) (hIs : InstSmall 9 x) (hX : DepOwn (p + 1) W.heap.size X d W) (hXs : DepSmall 3 d) (hC : CurS W p cv code st) (hB : Below b w W) (hc : Chg (fun k => k = b ∨ k = b + 1) W W') (h1 : X.1.1 = V1) (h2 : X.2.1 = V2) :
    GivesBoth cv code w (.returned (.tuple #[.pointer (some ⟨p, 0, none⟩), V, .agg #[V1, V2, .bool d.egd, .int .i64 d.left, .int .i64 d.right]])) W' := by
  subst h1 h2 hb hp
  have hsz := hB.size
  exact ⟨V, x, X, d, rfl, hI.chg hc (fun k h => by omega), hIs, (hX.chgS hc (fun g hg e => by have := (hX.foot g hg).1; omega)).mono (Nat.le_refl _) hc.size, hXs, ⟨_, Cur.chgC h0 hC hc (fun k h => by omega) hsz (by omega)⟩, hB.trans (hc.below (fun k h => by omega) hsz)⟩
set_option maxHeartbeats 12800000 in
set_option maxRecDepth 100000 in
theorem l11Both_c (cv : Value) (code : List UInt8) (w : World) (hc : CodeAt w w.heap.size cv code) (hlen : code.length ≤ 1048576) :
    Calls Try.prog 51 #[cv] w (GivesBoth cv code w) := by
  obtain ⟨E, hEq⟩ : ∃ E, E = (w.alloc (.cells #[.slice none 0 0, .slice none 0 0] 27)).alloc (.cells #[.slice none 0 0, .slice none 0 0, .bool false, .int .i64 0, .int .i64 0] 82) := ⟨_, rfl⟩
  have hEz : E.heap.size = w.heap.size + 2 := by rw [hEq]; simp
  have hBE : Below w.heap.size w E := by rw [hEq]; exact ((Below.refl _ _).alloc (Nat.le_refl _) _).alloc (by simp) _
  obtain ⟨b, hb⟩ : ∃ b, b = w.heap.size := ⟨_, rfl⟩
  have r0 : E.cell? ⟨b, 0, none⟩ = some (.slice none 0 0) := by rw [hEq, hb]; simp [go_sem]
  have r1 : E.cell? ⟨b, 1, none⟩ = some (.slice none 0 0) := by rw [hEq, hb]; simp [go_sem]
  have rz : ∀ o, E.frozen? ⟨b, o, none⟩ = false := fun o => by rw [hEq, hb]; simp [go_sem]
  have hRD : BoxD (b + 1) (.slice none 0 0) (.slice none 0 0) E := by rw [hEq, hb]; exact ⟨by simp [go_sem], by simp [go_sem], by simp [go_sem], by simp [go_sem], by simp [go_sem], fun o => by simp [go_sem]⟩
  have hcE := hc.later hBE
  obtain ⟨p, hpp⟩ : ∃ p, p = w.heap.size + 2 := ⟨_, rfl⟩
  have HPB := Lib.hid (show p = b + 2 by omega)
  have HBq := Lib.hid hb
  have HPq := Lib.hid hpp
  clear hb hpp
  go_enter Try.func51, Try.ntmps51
  go_wp2_with fail
  rw [← hEq]
  clear hEq
  refine (l1New_c cv code E hcE hlen).mono ?_
  rintro e w1 ⟨rfl, hb1, hC1⟩
  rw [hEz, ← HPq.out] at hC1 ⊢
  rw [← HBq.out]
  rw [← HBq.out] at hEz
  have hp1 := Cur.lt hC1
  have r0 := (hb1.cell (p := ⟨b, 0, none⟩) (by show b < _; omega)).trans r0
  have r1 := (hb1.cell (p := ⟨b, 1, none⟩) (by show b < _; omega)).trans r1
  have rz := fun o => (hb1.frozen (p := ⟨b, o, none⟩) (by show b < _; omega)).trans (rz o)
  have hRD := hRD.below hb1 (by omega)
  have HB1 := Lib.hid (hBE.trans (hb1.mono (by have := HBq.out; omega)))
  rw [← HBq.out] at HB1
  clear hEz
  clear hb1 hBE hcE
  go_wp2_with fail
  refine (l11Inst_c p cv code _ _ hC1).mono ?_
  rintro e w2 ⟨V, x, rfl, hI, hIs, ⟨st2, hC2⟩, hg2⟩
  obtain ⟨P, c, Q, d, rfl⟩ := Instance_form hI.at_
  have hz2 := hg2.size
  have hbp : b < p := by have := HPB.out; omega
  have hb1p : b + 1 < p := by have := HPB.out; omega
  have r0 := grown_cell hg2 r0 (by omega)
  have r1 := grown_cell hg2 r1 (by omega)
  have rz := fun o => grown_frozen hg2 (b := b) (o := o) (by omega) (by omega) (rz o)
  have hRD := hRD.grown hg2 (by omega) (by omega)
  have hI := hI.less (show p + 1 ≤ _ by omega)
  have HB2 := Lib.hid (HB1.out.grown hg2 (by have := HBq.out; omega) (fun k hk => by injection hk with hk; omega))
  obtain ⟨g, hg⟩ : ∃ g, g = w2.heap.size := ⟨_, rfl⟩
  have hpg : p < g := by omega
  rw [← hg] at hI
  obtain ⟨W3, hW3⟩ : ∃ W, W = w2.alloc (.cells #[.slice P x.rels.length c, .slice Q x.facts.length d] 27) := ⟨_, rfl⟩
  have hAl : Below g w2 W3 := by rw [hW3]; exact (Below.refl _ _).alloc (by omega) _
  have hz3 : W3.heap.size = g + 1 := by rw [hW3, hg]; simp
  have y0 : W3.cell? ⟨g, 0, none⟩ = some (.slice P x.rels.length c) := by rw [hW3, hg]; simp [go_sem]
  have y1 : W3.cell? ⟨g, 1, none⟩ = some (.slice Q x.facts.length d) := by rw [hW3, hg]; simp [go_sem]
  have yz : ∀ o, W3.frozen? ⟨g, o, none⟩ = false := fun o => by rw [hW3, hg]; simp [go_sem]
  have hC3 : CurS W3 p cv code st2 := by rw [hW3]; exact Cur.alloc hC2 _
  have r0 := (hAl.cell (p := ⟨b, 0, none⟩) (by show b < _; omega)).trans r0
  have r1 := (hAl.cell (p := ⟨b, 1, none⟩) (by show b < _; omega)).trans r1
  have rz := fun o => (hAl.frozen (p := ⟨b, o, none⟩) (by show b < _; omega)).trans (rz o)
  have hRD := hRD.below hAl (by omega)
  have hI : Instance_lo (p + 1) W3 g (.agg #[.slice P x.rels.length c, .slice Q x.facts.length d]) x := hI.below (B' := g) hAl (by omega)
  have HB3 := Lib.hid (HB2.out.trans (hAl.mono (by omega)))
  go_upto_region 3 with fail
  rw [← hW3, ← hg]
  clear hW3 HB1 HB2 hg2 hC2 hC1 hAl hz2 hg
  go_wp2_with fail
  have hCS := hC3
  have hzW := hz3
  refine (l9Rule_c p cv code _ _ hC3).mono ?_
  rintro e w4 ⟨X, dp, rfl, hX, hXs, ⟨st4, hC4⟩, hg4⟩
  obtain ⟨Y1, u1, Y2, u2, hv1, hv2⟩ := hX.two
  have hz4 := hg4.size
  unfold DVal9
  rw [hv1, hv2]
  have hIl := (hI.more (show g ≤ W3.heap.size by omega)).chg (chg_of_grown hg4) (fun k h => by have := h.2; omega)
  have hXl := hX.mono (show g + 1 ≤ W3.heap.size by omega) (Nat.le_refl _)
  have r0 := grown_cell hg4 r0 (by omega)
  have r1 := grown_cell hg4 r1 (by omega)
  have rz := fun o => grown_frozen hg4 (b := b) (o := o) (by omega) (by omega) (rz o)
  have hRD := hRD.grown hg4 (by omega) (by omega)
  have y0 := grown_cell hg4 y0 (by omega)
  have y1 := grown_cell hg4 y1 (by omega)
  have yz := fun o => grown_frozen hg4 (b := g) (o := o) (by omega) (by omega) (yz o)
  have HB4 := Lib.hid (HB3.out.grown hg4 (by have := HBq.out; omega) (fun k hk => by injection hk with hk; omega))
  obtain ⟨q, hq⟩ : ∃ q, q = w4.heap.size := ⟨_, rfl⟩
  have hgq : g < q := by omega
  obtain ⟨W5, hW5⟩ : ∃ W, W = w4.alloc (.cells #[.slice Y1 dp.body.length u1, .slice Y2 dp.head.length u2, .bool dp.egd, .int .i64 dp.left, .int .i64 dp.right] 82) := ⟨_, rfl⟩
  have hAl : Below q w4 W5 := by rw [hW5]; exact (Below.refl _ _).alloc (by omega) _
  have hz5 : W5.heap.size = q + 1 := by rw [hW5, hq]; simp
  have hBX : BoxX q (.slice Y1 dp.body.length u1) (.slice Y2 dp.head.length u2) dp.egd dp.left dp.right W5 := by rw [hW5, hq]; exact ⟨by simp [go_sem], by simp [go_sem], by simp [go_sem], by simp [go_sem], by simp [go_sem], fun o => by simp [go_sem]⟩
  have hC5 : CurS W5 p cv code st4 := by rw [hW5]; exact Cur.alloc hC4 _
  have r0 := (hAl.cell (p := ⟨b, 0, none⟩) (by show b < _; omega)).trans r0
  have r1 := (hAl.cell (p := ⟨b, 1, none⟩) (by show b < _; omega)).trans r1
  have rz := fun o => (hAl.frozen (p := ⟨b, o, none⟩) (by show b < _; omega)).trans (rz o)
  have hRD := hRD.below hAl (by omega)
  have y0 := (hAl.cell (p := ⟨g, 0, none⟩) (by show g < _; omega)).trans y0
  have y1 := (hAl.cell (p := ⟨g, 1, none⟩) (by show g < _; omega)).trans y1
  have yz := fun o => (hAl.frozen (p := ⟨g, o, none⟩) (by show g < _; omega)).trans (yz o)
  rw [← hq] at hIl hXl
  have hI5 := hIl.below hAl (Nat.le_refl _)
  have hX5 := (hXl.below hAl (Nat.le_refl _)).mono (Nat.le_refl _) (show q ≤ W5.heap.size by omega)
  have HB5 := Lib.hid (HB4.out.trans (hAl.mono (by omega)))
  have HV1 := Lib.hid hv1
  have HV2 := Lib.hid hv2
  have HXS := Lib.hid (hXs.more (show 2 ≤ 3 by omega))
  have HIS := Lib.hid (hIs.more (show 7 ≤ 9 by omega))
  go_upto_region 4 with fail
  rw [← hW5, ← hq]
  clear hW5 HB3 HB4 hg4 hC4 hC3 hAl hz4 hIl hXl hv1 hv2 hCS hzW hI hX hXs hIs hz3 hq
  go_wp2_with fail
  have hbd := belowR_bd code st4 16
  refine (l1Below_r p cv code _ _ _ hC5).mono ?_
  rintro e w6 ⟨rfl, hC6, hg6⟩
  generalize belowR code st4 16 = kk at *
  obtain ⟨kk, st6⟩ := kk
  dsimp only at *
  have hz6 := hg6.size
  have hI6 := hI5.keep (w' := w6) (fun b o h1 h2 => (chg_of_grown hg6).cell (by omega) (fun h => by have := h.2; omega))
  have hX6 := (hX5.grown hg6 (by omega)).mono (Nat.le_refl _) hz6
  have r0 := grown_cell hg6 r0 (by omega)
  have r1 := grown_cell hg6 r1 (by omega)
  have rz := fun o => grown_frozen hg6 (b := b) (o := o) (by omega) (by omega) (rz o)
  have hRD := hRD.grown hg6 (by omega) (by omega)
  have y0 := grown_cell hg6 y0 (by omega)
  have y1 := grown_cell hg6 y1 (by omega)
  have yz := fun o => grown_frozen hg6 (b := g) (o := o) (by omega) (by omega) (yz o)
  have hBX := hBX.grown hg6 (by omega) (by intro e; injection e; omega)
  have HB6 := Lib.hid (HB5.out.grown hg6 (by have := HBq.out; omega) (fun k hk => by injection hk with hk; omega))
  have hq6 : q < w6.heap.size := by omega
  clear hg6 hC5 hI5 hX5 HB5 hbd hz6 hz5
  by_cases k0 : kk = 0
  · subst k0
    go_wp2_with fail
    refine (l5Any_c p cv code _ _ hC6).mono ?_
    rintro e w7 ⟨V', x', rfl, hI7, hI7s, ⟨st7, hC7⟩, hg7⟩
    obtain ⟨P', c', Q', d', rfl⟩ := Instance_form hI7.at_
    have hz7 := hg7.size
    have r0 := grown_cell hg7 r0 (by omega)
    have r1 := grown_cell hg7 r1 (by omega)
    have rz := fun o => grown_frozen hg7 (b := b) (o := o) (by omega) (by omega) (rz o)
    have hRD := hRD.grown hg7 (by omega) (by omega)
    have y0 := grown_cell hg7 y0 (by omega)
    have y1 := grown_cell hg7 y1 (by omega)
    have yz := fun o => grown_frozen hg7 (b := g) (o := o) (by omega) (by omega) (yz o)
    have hBX := hBX.grown hg7 (by omega) (by intro e; injection e; omega)
    have hX7 := (hX6.grown hg7 (by omega)).mono (Nat.le_refl _) hz7
    have HB7 := Lib.hid (HB6.out.grown hg7 (by have := HBq.out; omega) (fun k hk => by injection hk with hk; omega))
    have HIS := Lib.hid hI7s
    have hgW : g < w7.heap.size := by omega
    obtain ⟨W9, hW9⟩ : ∃ W, W = (w7.setCell ⟨g, 0, none⟩ (.slice P' x'.rels.length c')).setCell ⟨g, 1, none⟩ (.slice Q' x'.facts.length d') := ⟨_, rfl⟩
    have hch : Chg (fun k => k = g) w7 W9 := by rw [hW9]; exact ((Chg.refl (fun k => k = g) _).setCell (p := ⟨g, 0, none⟩) rfl _).setCell (p := ⟨g, 1, none⟩) rfl _
    have hz9 : W9.heap.size = w7.heap.size := by rw [hW9]; simp [World.setCell]
    have hI6 : Instance_lo (p + 1) W9 W9.heap.size (.agg #[.slice P' x'.rels.length c', .slice Q' x'.facts.length d']) x' := (hI7.chg hch (fun k h => by omega)).less (by omega)
    have hX6 := (hX7.chgS hch (fun k hk e => by have := (hX7.foot k hk).1; omega)).mono (Nat.le_refl _) (Nat.le_of_eq hz9.symm)
    have HB6 := Lib.hid (HB7.out.trans (hch.below (fun k h => by omega) (by omega)))
    have hC6 : CurS W9 p cv code st7 := Cur.chgC hc hC7 hch (fun k h => by have := HBq.out; omega) (by have := HBq.out; omega) (by omega)
    have y0 : W9.cell? ⟨g, 0, none⟩ = some (.slice P' x'.rels.length c') := by rw [hW9]; simp [go_sem, y0]
    have y1 : W9.cell? ⟨g, 1, none⟩ = some (.slice Q' x'.facts.length d') := by rw [hW9]; simp [go_sem, y1]
    have hBX := hBX.same (fun o => hch.cell (b := q) (o := o) (by omega) (by omega)) (fun o => hch.frozen (b := q) (o := o) (by omega) (by omega))
    have r0 := (hch.cell (b := b) (o := 0) (by omega) (by omega)).trans r0
    have r1 := (hch.cell (b := b) (o := 1) (by omega) (by omega)).trans r1
    have rz := fun o => (hch.frozen (b := b) (o := o) (by omega) (by omega)).trans (rz o)
    have hRD := hRD.same (fun o => hch.cell (b := b + 1) (o := o) (by omega) (by omega)) (fun o => hch.frozen (b := b + 1) (o := o) (by omega) (by omega))
    go_upto_region 9 with fail
    rw [← hW9]
    clear hW9 hch hX7 hI7 hC7 hg7 HB7
    obtain ⟨q0, q1, q2, q3, q4, qz⟩ := hBX
    obtain ⟨z0, z1, z2, z3, z4, zz⟩ := hRD
    have hS : Holds [(⟨g, 0, none⟩, .slice P' x'.rels.length c'), (⟨g, 1, none⟩, .slice Q' x'.facts.length d'), (⟨q, 0, none⟩, .slice Y1 dp.body.length u1), (⟨q, 1, none⟩, .slice Y2 dp.head.length u2), (⟨q, 2, none⟩, .bool dp.egd), (⟨q, 3, none⟩, .int .i64 dp.left), (⟨q, 4, none⟩, .int .i64 dp.right)] W9.drew := by
      intro t ht
      simp only [List.mem_cons, List.not_mem_nil, or_false] at ht
      rcases ht with rfl | rfl | rfl | rfl | rfl | rfl | rfl
      · exact y0
      · exact y1
      · exact q0
      · exact q1
      · exact q2
      · exact q3
      · exact q4
    have hS1 : Holds [(⟨g, 0, none⟩, .slice P' x'.rels.length c'), (⟨g, 1, none⟩, .slice Q' x'.facts.length d'), (⟨q, 0, none⟩, .slice Y1 dp.body.length u1), (⟨q, 1, none⟩, .slice Y2 dp.head.length u2), (⟨q, 2, none⟩, .bool dp.egd), (⟨q, 3, none⟩, .int .i64 dp.left), (⟨q, 4, none⟩, .int .i64 dp.right)] ((W9.drew.setCell ⟨b, 0, none⟩ (.slice P' x'.rels.length c')).setCell ⟨b, 1, none⟩ (.slice Q' x'.facts.length d')) := by
      intro t ht
      have hk := hS t ht
      have hch1 : Chg (fun k => k = b) W9.drew ((W9.drew.setCell ⟨b, 0, none⟩ (.slice P' x'.rels.length c')).setCell ⟨b, 1, none⟩ (.slice Q' x'.facts.length d')) := ((Chg.refl (fun k => k = b) _).setCell (p := ⟨b, 0, none⟩) rfl _).setCell (p := ⟨b, 1, none⟩) rfl _
      simp only [List.mem_cons, List.not_mem_nil, or_false] at ht
      rcases ht with rfl | rfl | rfl | rfl | rfl | rfl | rfl <;> exact (hch1.cell (by first | (show g < W9.heap.size; omega) | (show q < W9.heap.size; omega)) (by omega)).trans hk
    have g0 := Keep.cell (h0 := hS) (a := ⟨g, 0, none⟩) (v := .slice P' x'.rels.length c') (by simp)
    have g1 := Keep.cell (h0 := hS) (a := ⟨g, 1, none⟩) (v := .slice Q' x'.facts.length d') (by simp)
    have g2 := Keep.cell (h0 := hS) (a := ⟨q, 0, none⟩) (v := .slice Y1 dp.body.length u1) (by simp)
    have g3 := Keep.cell (h0 := hS) (a := ⟨q, 1, none⟩) (v := .slice Y2 dp.head.length u2) (by simp)
    have g4 := Keep.cell (h0 := hS) (a := ⟨q, 2, none⟩) (v := .bool dp.egd) (by simp)
    have g5 := Keep.cell (h0 := hS) (a := ⟨q, 3, none⟩) (v := .int .i64 dp.left) (by simp)
    have g6 := Keep.cell (h0 := hS) (a := ⟨q, 4, none⟩) (v := .int .i64 dp.right) (by simp)
    have HF := Lib.hid (both_fin (W := W9.drew) (W' := (((((((W9.drew.setCell ⟨b, 0, none⟩ (.slice P' x'.rels.length c')).setCell ⟨b, 1, none⟩ (.slice Q' x'.facts.length d')).setCell ⟨b + 1, 0, none⟩ (.slice Y1 dp.body.length u1)).setCell ⟨b + 1, 1, none⟩ (.slice Y2 dp.head.length u2)).setCell ⟨b + 1, 2, none⟩ (.bool dp.egd)).setCell ⟨b + 1, 3, none⟩ (.int .i64 dp.left)).setCell ⟨b + 1, 4, none⟩ (.int .i64 dp.right))) HBq.out HPq.out hc (hI6.below (Below.refl _ _).drew (Nat.le_refl _)) HIS.out ((hX6.mono (show p + 1 ≤ g + 1 by omega) (Nat.le_refl _)).below (Below.refl _ _).drew (Nat.le_refl _)) HXS.out (Cur.drewN hC6 1) (HB6.out.trans (Below.refl _ _).drew) (((((((((Chg.refl (fun k => k = b ∨ k = b + 1) _).setCell (p := ⟨b, 0, none⟩) (.inl rfl) _).setCell (p := ⟨b, 1, none⟩) (.inl rfl) _).setCell (p := ⟨b + 1, 0, none⟩) (.inr rfl) _).setCell (p := ⟨b + 1, 1, none⟩) (.inr rfl) _).setCell (p := ⟨b + 1, 2, none⟩) (.inr rfl) _).setCell (p := ⟨b + 1, 3, none⟩) (.inr rfl) _).setCell (p := ⟨b + 1, 4, none⟩) (.inr rfl) _)) HV1.out HV2.out)
    clear y0 y1 yz q0 q1 q2 q3 q4 qz hI6 hX6 HIS HXS HB6 hC6 hc
    refine wp_region_planL (C := fun w' => ∃ u : Keep _ W9.drew hS, w' = u.now) (.still 0 (.still 1 (.still 2 (.still 3 (.move true 4 (.move false 5 .done .none) .none))))) (by kernel_rfl) (by kernel_rfl) (by kernel_rfl) (fun _ => ⟨⟨_, hS⟩, rfl⟩) ?_
    iterate 4
      refine plan_look _ rfl rfl ?_
      go_big_quiet_step (fail)
      refine wpQuiet_nil ?_
    refine plan_skip (w' := ((W9.drew.setCell ⟨b, 0, none⟩ (.slice P' x'.rels.length c')).setCell ⟨b, 1, none⟩ (.slice Q' x'.facts.length d'))) _ rfl rfl rfl (by simp [go_sem, r0, r1, rz]) (fun _ => ⟨⟨_, hS1⟩, rfl⟩) ?_ True.intro
    refine plan_put ?_ (by simp only [Act.put]; rfl)
    refine plan_skip (w' := (((((((W9.drew.setCell ⟨b, 0, none⟩ (.slice P' x'.rels.length c')).setCell ⟨b, 1, none⟩ (.slice Q' x'.facts.length d')).setCell ⟨b + 1, 0, none⟩ (.slice Y1 dp.body.length u1)).setCell ⟨b + 1, 1, none⟩ (.slice Y2 dp.head.length u2)).setCell ⟨b + 1, 2, none⟩ (.bool dp.egd)).setCell ⟨b + 1, 3, none⟩ (.int .i64 dp.left)).setCell ⟨b + 1, 4, none⟩ (.int .i64 dp.right))) _ rfl rfl rfl (by simp [go_sem, z0, z1, z2, z3, z4, zz]) (fun e => by cases e) ?_ True.intro
    refine plan_put ?_ (by simp only [Act.put]; rfl)
    refine plan_done ?_
    go_wp2
    refine bodyPost_ret (v := .tuple #[.pointer (some ⟨p, 0, none⟩), .agg #[.slice P' x'.rels.length c', .slice Q' x'.facts.length d'], .agg #[.slice Y1 dp.body.length u1, .slice Y2 dp.head.length u2, .bool dp.egd, .int .i64 dp.left, .int .i64 dp.right]]) (by simp [results, Try.results51, go_sem, r0, r1, z0, z1, z2, z3, z4]) rfl HF.out
  by_cases k1 : kk = 1
  · subst k1
    go_wp2_with fail
    refine (l9Any_c p cv code _ _ hC6).mono ?_
    rintro e w7 ⟨X', dp', rfl, hX7, hX7s, ⟨st7, hC7⟩, hg7⟩
    obtain ⟨Y1', u1', Y2', u2', hv1, hv2⟩ := hX7.two
    unfold DVal9
    rw [hv1, hv2]
    have hz7 := hg7.size
    have r0 := grown_cell hg7 r0 (by omega)
    have r1 := grown_cell hg7 r1 (by omega)
    have rz := fun o => grown_frozen hg7 (b := b) (o := o) (by omega) (by omega) (rz o)
    have hRD := hRD.grown hg7 (by omega) (by omega)
    have y0 := grown_cell hg7 y0 (by omega)
    have y1 := grown_cell hg7 y1 (by omega)
    have yz := fun o => grown_frozen hg7 (b := g) (o := o) (by omega) (by omega) (yz o)
    obtain ⟨q0, q1, q2, q3, q4, qz⟩ := hBX.grown hg7 (by omega) (by intro e; injection e; omega)
    have hI7 := hI6.keep (w' := w7) (fun b o h1 h2 => (chg_of_grown hg7).cell (by omega) (fun h => by have := h.2; omega))
    have HB7 := Lib.hid (HB6.out.grown hg7 (by have := HBq.out; omega) (fun k hk => by injection hk with hk; omega))
    have HXS := Lib.hid hX7s
    have HV1 := Lib.hid hv1
    have HV2 := Lib.hid hv2
    obtain ⟨W9, hW9⟩ : ∃ W, W = ((((w7.setCell ⟨q, 0, none⟩ (.slice Y1' dp'.body.length u1')).setCell ⟨q, 1, none⟩ (.slice Y2' dp'.head.length u2')).setCell ⟨q, 2, none⟩ (.bool dp'.egd)).setCell ⟨q, 3, none⟩ (.int .i64 dp'.left)).setCell ⟨q, 4, none⟩ (.int .i64 dp'.right) := ⟨_, rfl⟩
    have hch : Chg (fun k => k = q) w7 W9 := by rw [hW9]; exact (((((Chg.refl (fun k => k = q) _).setCell (p := ⟨q, 0, none⟩) rfl _).setCell (p := ⟨q, 1, none⟩) rfl _).setCell (p := ⟨q, 2, none⟩) rfl _).setCell (p := ⟨q, 3, none⟩) rfl _).setCell (p := ⟨q, 4, none⟩) rfl _
    have hz9 : W9.heap.size = w7.heap.size := by rw [hW9]; simp [World.setCell]
    have hI6 := (hI7.keep (w' := W9) (fun b o h1 h2 => hch.cell (by omega) (by omega))).more (show q ≤ W9.heap.size by omega)
    have hX6 : DepOwn (g + 1) W9.heap.size X' dp' W9 := (hX7.chgS hch (fun k hk e => by have := (hX7.foot k hk).1; omega)).mono (by omega) (Nat.le_of_eq hz9.symm)
    have HB6 := Lib.hid (HB7.out.trans (hch.below (fun k h => by omega) (by omega)))
    have hC6 : CurS W9 p cv code st7 := Cur.chgC hc hC7 hch (fun k h => by have := HBq.out; omega) (by have := HBq.out; omega) (by omega)
    have hBX : BoxX q (.slice Y1' dp'.body.length u1') (.slice Y2' dp'.head.length u2') dp'.egd dp'.left dp'.right W9 := by rw [hW9]; exact ⟨by simp [go_sem, q0], by simp [go_sem, q1], by simp [go_sem, q2], by simp [go_sem, q3], by simp [go_sem, q4], fun o => by simp [qz]⟩
    have y0 := (hch.cell (b := g) (o := 0) (by omega) (by omega)).trans y0
    have y1 := (hch.cell (b := g) (o := 1) (by omega) (by omega)).trans y1
    have r0 := (hch.cell (b := b) (o := 0) (by omega) (by omega)).trans r0
    have r1 := (hch.cell (b := b) (o := 1) (by omega) (by omega)).trans r1
    have rz := fun o => (hch.frozen (b := b) (o := o) (by omega) (by omega)).trans (rz o)
    have hRD := hRD.same (fun o => hch.cell (b := b + 1) (o := o) (by omega) (by omega)) (fun o => hch.frozen (b := b + 1) (o := o) (by omega) (by omega))
    go_upto_region 9 with fail
    rw [← hW9]
    clear hW9 hch hX7 hI7 hC7 hg7 HB7 hv1 hv2 q0 q1 q2 q3 q4 qz
    obtain ⟨q0, q1, q2, q3, q4, qz⟩ := hBX
    obtain ⟨z0, z1, z2, z3, z4, zz⟩ := hRD
    have hS : Holds [(⟨g, 0, none⟩, .slice P x.rels.length c), (⟨g, 1, none⟩, .slice Q x.facts.length d), (⟨q, 0, none⟩, .slice Y1' dp'.body.length u1'), (⟨q, 1, none⟩, .slice Y2' dp'.head.length u2'), (⟨q, 2, none⟩, .bool dp'.egd), (⟨q, 3, none⟩, .int .i64 dp'.left), (⟨q, 4, none⟩, .int .i64 dp'.right)] W9.drew := by
      intro t ht
      simp only [List.mem_cons, List.not_mem_nil, or_false] at ht
      rcases ht with rfl | rfl | rfl | rfl | rfl | rfl | rfl
      · exact y0
      · exact y1
      · exact q0
      · exact q1
      · exact q2
      · exact q3
      · exact q4
    have hS1 : Holds [(⟨g, 0, none⟩, .slice P x.rels.length c), (⟨g, 1, none⟩, .slice Q x.facts.length d), (⟨q, 0, none⟩, .slice Y1' dp'.body.length u1'), (⟨q, 1, none⟩, .slice Y2' dp'.head.length u2'), (⟨q, 2, none⟩, .bool dp'.egd), (⟨q, 3, none⟩, .int .i64 dp'.left), (⟨q, 4, none⟩, .int .i64 dp'.right)] ((W9.drew.setCell ⟨b, 0, none⟩ (.slice P x.rels.length c)).setCell ⟨b, 1, none⟩ (.slice Q x.facts.length d)) := by
      intro t ht
      have hk := hS t ht
      have hch1 : Chg (fun k => k = b) W9.drew ((W9.drew.setCell ⟨b, 0, none⟩ (.slice P x.rels.length c)).setCell ⟨b, 1, none⟩ (.slice Q x.facts.length d)) := ((Chg.refl (fun k => k = b) _).setCell (p := ⟨b, 0, none⟩) rfl _).setCell (p := ⟨b, 1, none⟩) rfl _
      simp only [List.mem_cons, List.not_mem_nil, or_false] at ht
      rcases ht with rfl | rfl | rfl | rfl | rfl | rfl | rfl <;> exact (hch1.cell (by first | (show g < W9.heap.size; omega) | (show q < W9.heap.size; omega)) (by omega)).trans hk
    have g0 := Keep.cell (h0 := hS) (a := ⟨g, 0, none⟩) (v := .slice P x.rels.length c) (by simp)
    have g1 := Keep.cell (h0 := hS) (a := ⟨g, 1, none⟩) (v := .slice Q x.facts.length d) (by simp)
    have g2 := Keep.cell (h0 := hS) (a := ⟨q, 0, none⟩) (v := .slice Y1' dp'.body.length u1') (by simp)
    have g3 := Keep.cell (h0 := hS) (a := ⟨q, 1, none⟩) (v := .slice Y2' dp'.head.length u2') (by simp)
    have g4 := Keep.cell (h0 := hS) (a := ⟨q, 2, none⟩) (v := .bool dp'.egd) (by simp)
    have g5 := Keep.cell (h0 := hS) (a := ⟨q, 3, none⟩) (v := .int .i64 dp'.left) (by simp)
    have g6 := Keep.cell (h0 := hS) (a := ⟨q, 4, none⟩) (v := .int .i64 dp'.right) (by simp)
    have HF := Lib.hid (both_fin (W := W9.drew) (W' := (((((((W9.drew.setCell ⟨b, 0, none⟩ (.slice P x.rels.length c)).setCell ⟨b, 1, none⟩ (.slice Q x.facts.length d)).setCell ⟨b + 1, 0, none⟩ (.slice Y1' dp'.body.length u1')).setCell ⟨b + 1, 1, none⟩ (.slice Y2' dp'.head.length u2')).setCell ⟨b + 1, 2, none⟩ (.bool dp'.egd)).setCell ⟨b + 1, 3, none⟩ (.int .i64 dp'.left)).setCell ⟨b + 1, 4, none⟩ (.int .i64 dp'.right))) HBq.out HPq.out hc (hI6.below (Below.refl _ _).drew (Nat.le_refl _)) HIS.out ((hX6.mono (show p + 1 ≤ g + 1 by omega) (Nat.le_refl _)).below (Below.refl _ _).drew (Nat.le_refl _)) HXS.out (Cur.drewN hC6 1) (HB6.out.trans (Below.refl _ _).drew) (((((((((Chg.refl (fun k => k = b ∨ k = b + 1) _).setCell (p := ⟨b, 0, none⟩) (.inl rfl) _).setCell (p := ⟨b, 1, none⟩) (.inl rfl) _).setCell (p := ⟨b + 1, 0, none⟩) (.inr rfl) _).setCell (p := ⟨b + 1, 1, none⟩) (.inr rfl) _).setCell (p := ⟨b + 1, 2, none⟩) (.inr rfl) _).setCell (p := ⟨b + 1, 3, none⟩) (.inr rfl) _).setCell (p := ⟨b + 1, 4, none⟩) (.inr rfl) _)) HV1.out HV2.out)
    clear y0 y1 yz q0 q1 q2 q3 q4 qz hI6 hX6 HIS HXS HB6 hC6 hc
    refine wp_region_planL (C := fun w' => ∃ u : Keep _ W9.drew hS, w' = u.now) (.still 0 (.still 1 (.still 2 (.still 3 (.move true 4 (.move false 5 .done .none) .none))))) (by kernel_rfl) (by kernel_rfl) (by kernel_rfl) (fun _ => ⟨⟨_, hS⟩, rfl⟩) ?_
    iterate 4
      refine plan_look _ rfl rfl ?_
      go_big_quiet_step (fail)
      refine wpQuiet_nil ?_
    refine plan_skip (w' := ((W9.drew.setCell ⟨b, 0, none⟩ (.slice P x.rels.length c)).setCell ⟨b, 1, none⟩ (.slice Q x.facts.length d))) _ rfl rfl rfl (by simp [go_sem, r0, r1, rz]) (fun _ => ⟨⟨_, hS1⟩, rfl⟩) ?_ True.intro
    refine plan_put ?_ (by simp only [Act.put]; rfl)
    refine plan_skip (w' := (((((((W9.drew.setCell ⟨b, 0, none⟩ (.slice P x.rels.length c)).setCell ⟨b, 1, none⟩ (.slice Q x.facts.length d)).setCell ⟨b + 1, 0, none⟩ (.slice Y1' dp'.body.length u1')).setCell ⟨b + 1, 1, none⟩ (.slice Y2' dp'.head.length u2')).setCell ⟨b + 1, 2, none⟩ (.bool dp'.egd)).setCell ⟨b + 1, 3, none⟩ (.int .i64 dp'.left)).setCell ⟨b + 1, 4, none⟩ (.int .i64 dp'.right))) _ rfl rfl rfl (by simp [go_sem, z0, z1, z2, z3, z4, zz]) (fun e => by cases e) ?_ True.intro
    refine plan_put ?_ (by simp only [Act.put]; rfl)
    refine plan_done ?_
    go_wp2
    refine bodyPost_ret (v := .tuple #[.pointer (some ⟨p, 0, none⟩), .agg #[.slice P x.rels.length c, .slice Q x.facts.length d], .agg #[.slice Y1' dp'.body.length u1', .slice Y2' dp'.head.length u2', .bool dp'.egd, .int .i64 dp'.left, .int .i64 dp'.right]]) (by simp [results, Try.results51, go_sem, r0, r1, z0, z1, z2, z3, z4]) rfl HF.out
  · have e0 : (kk == 0) = false := beq_eq_false_iff_ne.2 k0
    have e1 : (kk == 1) = false := beq_eq_false_iff_ne.2 k1
    have hI6 := hI6.more (show q ≤ w6.heap.size by omega)
    go_upto_region 9 with fail
    obtain ⟨q0, q1, q2, q3, q4, qz⟩ := hBX
    obtain ⟨z0, z1, z2, z3, z4, zz⟩ := hRD
    have hS : Holds [(⟨g, 0, none⟩, .slice P x.rels.length c), (⟨g, 1, none⟩, .slice Q x.facts.length d), (⟨q, 0, none⟩, .slice Y1 dp.body.length u1), (⟨q, 1, none⟩, .slice Y2 dp.head.length u2), (⟨q, 2, none⟩, .bool dp.egd), (⟨q, 3, none⟩, .int .i64 dp.left), (⟨q, 4, none⟩, .int .i64 dp.right)] w6.drew := by
      intro t ht
      simp only [List.mem_cons, List.not_mem_nil, or_false] at ht
      rcases ht with rfl | rfl | rfl | rfl | rfl | rfl | rfl
      · exact y0
      · exact y1
      · exact q0
      · exact q1
      · exact q2
      · exact q3
      · exact q4
    have hS1 : Holds [(⟨g, 0, none⟩, .slice P x.rels.length c), (⟨g, 1, none⟩, .slice Q x.facts.length d), (⟨q, 0, none⟩, .slice Y1 dp.body.length u1), (⟨q, 1, none⟩, .slice Y2 dp.head.length u2), (⟨q, 2, none⟩, .bool dp.egd), (⟨q, 3, none⟩, .int .i64 dp.left), (⟨q, 4, none⟩, .int .i64 dp.right)] ((w6.drew.setCell ⟨b, 0, none⟩ (.slice P x.rels.length c)).setCell ⟨b, 1, none⟩ (.slice Q x.facts.length d)) := by
      intro t ht
      have hk := hS t ht
      have hch1 : Chg (fun k => k = b) w6.drew ((w6.drew.setCell ⟨b, 0, none⟩ (.slice P x.rels.length c)).setCell ⟨b, 1, none⟩ (.slice Q x.facts.length d)) := ((Chg.refl (fun k => k = b) _).setCell (p := ⟨b, 0, none⟩) rfl _).setCell (p := ⟨b, 1, none⟩) rfl _
      simp only [List.mem_cons, List.not_mem_nil, or_false] at ht
      rcases ht with rfl | rfl | rfl | rfl | rfl | rfl | rfl <;> exact (hch1.cell (by first | (show g < w6.heap.size; omega) | (show q < w6.heap.size; omega)) (by omega)).trans hk
    have g0 := Keep.cell (h0 := hS) (a := ⟨g, 0, none⟩) (v := .slice P x.rels.length c) (by simp)
    have g1 := Keep.cell (h0 := hS) (a := ⟨g, 1, none⟩) (v := .slice Q x.facts.length d) (by simp)
    have g2 := Keep.cell (h0 := hS) (a := ⟨q, 0, none⟩) (v := .slice Y1 dp.body.length u1) (by simp)
    have g3 := Keep.cell (h0 := hS) (a := ⟨q, 1, none⟩) (v := .slice Y2 dp.head.length u2) (by simp)
    have g4 := Keep.cell (h0 := hS) (a := ⟨q, 2, none⟩) (v := .bool dp.egd) (by simp)
    have g5 := Keep.cell (h0 := hS) (a := ⟨q, 3, none⟩) (v := .int .i64 dp.left) (by simp)
    have g6 := Keep.cell (h0 := hS) (a := ⟨q, 4, none⟩) (v := .int .i64 dp.right) (by simp)
    have HF := Lib.hid (both_fin (W := w6.drew) (W' := (((((((w6.drew.setCell ⟨b, 0, none⟩ (.slice P x.rels.length c)).setCell ⟨b, 1, none⟩ (.slice Q x.facts.length d)).setCell ⟨b + 1, 0, none⟩ (.slice Y1 dp.body.length u1)).setCell ⟨b + 1, 1, none⟩ (.slice Y2 dp.head.length u2)).setCell ⟨b + 1, 2, none⟩ (.bool dp.egd)).setCell ⟨b + 1, 3, none⟩ (.int .i64 dp.left)).setCell ⟨b + 1, 4, none⟩ (.int .i64 dp.right))) HBq.out HPq.out hc (hI6.below (Below.refl _ _).drew (Nat.le_refl _)) HIS.out ((hX6.mono (show p + 1 ≤ g + 1 by omega) (Nat.le_refl _)).below (Below.refl _ _).drew (Nat.le_refl _)) HXS.out (Cur.drewN hC6 1) (HB6.out.trans (Below.refl _ _).drew) (((((((((Chg.refl (fun k => k = b ∨ k = b + 1) _).setCell (p := ⟨b, 0, none⟩) (.inl rfl) _).setCell (p := ⟨b, 1, none⟩) (.inl rfl) _).setCell (p := ⟨b + 1, 0, none⟩) (.inr rfl) _).setCell (p := ⟨b + 1, 1, none⟩) (.inr rfl) _).setCell (p := ⟨b + 1, 2, none⟩) (.inr rfl) _).setCell (p := ⟨b + 1, 3, none⟩) (.inr rfl) _).setCell (p := ⟨b + 1, 4, none⟩) (.inr rfl) _)) HV1.out HV2.out)
    clear y0 y1 yz q0 q1 q2 q3 q4 qz hI6 hX6 HIS HXS HB6 hC6 hc
    refine wp_region_planL (C := fun w' => ∃ u : Keep _ w6.drew hS, w' = u.now) (.still 0 (.still 1 (.still 2 (.still 3 (.move true 4 (.move false 5 .done .none) .none))))) (by kernel_rfl) (by kernel_rfl) (by kernel_rfl) (fun _ => ⟨⟨_, hS⟩, rfl⟩) ?_
    iterate 4
      refine plan_look _ rfl rfl ?_
      go_big_quiet_step (fail)
      refine wpQuiet_nil ?_
    refine plan_skip (w' := ((w6.drew.setCell ⟨b, 0, none⟩ (.slice P x.rels.length c)).setCell ⟨b, 1, none⟩ (.slice Q x.facts.length d))) _ rfl rfl rfl (by simp [go_sem, r0, r1, rz]) (fun _ => ⟨⟨_, hS1⟩, rfl⟩) ?_ True.intro
    refine plan_put ?_ (by simp only [Act.put]; rfl)
    refine plan_skip (w' := (((((((w6.drew.setCell ⟨b, 0, none⟩ (.slice P x.rels.length c)).setCell ⟨b, 1, none⟩ (.slice Q x.facts.length d)).setCell ⟨b + 1, 0, none⟩ (.slice Y1 dp.body.length u1)).setCell ⟨b + 1, 1, none⟩ (.slice Y2 dp.head.length u2)).setCell ⟨b + 1, 2, none⟩ (.bool dp.egd)).setCell ⟨b + 1, 3, none⟩ (.int .i64 dp.left)).setCell ⟨b + 1, 4, none⟩ (.int .i64 dp.right))) _ rfl rfl rfl (by simp [go_sem, z0, z1, z2, z3, z4, zz]) (fun e => by cases e) ?_ True.intro
    refine plan_put ?_ (by simp only [Act.put]; rfl)
    refine plan_done ?_
    go_wp2
    refine bodyPost_ret (v := .tuple #[.pointer (some ⟨p, 0, none⟩), .agg #[.slice P x.rels.length c, .slice Q x.facts.length d], .agg #[.slice Y1 dp.body.length u1, .slice Y2 dp.head.length u2, .bool dp.egd, .int .i64 dp.left, .int .i64 dp.right]]) (by simp [results, Try.results51, go_sem, r0, r1, z0, z1, z2, z3, z4]) rfl HF.out

end Go.Proofs.Ytobdijcnfmgidaa
