/-
  Walks and plain lemmas for the laws of this seat: what single Go functions return, for every argument.
-/
import Derived.Test.YtalijnfbopcmeaaTyInst
import Derived.Test.YtalijnfbopcmeaaFactC
namespace Go.Proofs.Ytalijnfbopcmeaa
open Go.RowKit

set_option maxHeartbeats 800000 in
theorem eqUnionFind_c (v u : Value) (x : List Int) (w : World) (h : UnionFind_at w w.heap.size v x) (h' : UnionFind_at w w.heap.size u x) :
    Calls Try.prog 32 #[v, u] w fun e w' => e = .returned (.bool true) ∧ Below w.heap.size w w' := by
  obtain ⟨P, c, rfl⟩ := UnionFind_form h
  obtain ⟨P', c', rfl⟩ := UnionFind_form h'
  have hR := h.ints
  have hR' := h'.ints
  clear h h'
  have hE : Below w.heap.size w ((w.alloc (.cells #[.slice P x.length c] 26)).alloc (.cells #[.slice P' x.length c'] 26)) := below_more (below_more (Below.refl _ _) _) _
  have c1 := eqIntS_c _ _ x _ ((hR.below hE (Nat.le_refl _)).more hE.size) ((hR'.below hE (Nat.le_refl _)).more hE.size)
  clear hR hR'
  go_enter Try.func32, Try.ntmps32
  go_wp2_with fail
  refine c1.mono ?_
  rintro e w1 ⟨rfl, hb1⟩
  go_wp2
  go_ret
  exact ⟨rfl, hE.trans (hb1.mono hE.size)⟩

def UnionFind_mk (k : Nat) (x : List Int) : List Int := IntS_mk k x
set_option maxHeartbeats 800000 in
theorem markUnionFind_c (B C : Nat) (v : Value) (x : List Int) (k : Nat) (w : World) (h : UnionFind_own B C v x w) (hn : UnionFind_sz x ≤ 1048576) (hk0 : 1 ≤ k) (hk : k ≤ 1000000000) :
    Calls Try.prog 33 #[v, .int .i64 (k : Int)] w fun e w' => e = .returned (.int .i64 ((k + UnionFind_cnt x : Nat) : Int)) ∧ UnionFind_own B C v (UnionFind_mk k x) w' ∧ Chg (Mid B C) w w' := by
  obtain ⟨V, rfl, hR⟩ := h
  have hE : Below w.heap.size w (w.alloc (.cells #[V] 26)) := below_more (Below.refl _ _) _
  have hRE := OwnInts.chg hR.1 (Chg.of_below (S := fun _ => False) hE) (fun _ _ h => h)
  have c1 := markIntS_any B V x k _ hRE hn (by omega)
  obtain ⟨P, c, rfl, -⟩ := (hR.at_ (Nat.le_refl _)).form
  have HR := Lib.hid hR
  clear hR hRE
  go_enter Try.func33, Try.ntmps33
  go_wp2_with fail
  refine c1.mono ?_
  rintro e w1 ⟨rfl, ho1, hc1⟩
  clear c1
  have hcA : Chg (fun g => (Value.slice P x.length c).ownBlock = some g) w w1 := (Chg.of_below hE).trans hc1
  have HO1 := Lib.hid ho1
  have HA := Lib.hid hcA
  clear ho1 hc1 hcA
  go_wp2
  go_ret
  refine ⟨ret_int (by unfold UnionFind_cnt IntS_cnt; omega), ⟨_, rfl, HO1.out, HR.out.2⟩, HA.out.mono fun g hg => ⟨(HR.out.1.lt g hg).1, HR.out.2 g hg⟩⟩

set_option maxHeartbeats 800000 in
theorem heldUnionFind_c (v : Value) (x : List Int) (k : Nat) (w : World) (h : UnionFind_at w w.heap.size v (UnionFind_mk k x)) (hn : UnionFind_sz x ≤ 1048576) (hk0 : 1 ≤ k) (hk : k ≤ 500000000) :
    Calls Try.prog 34 #[v, .int .i64 (k : Int)] w fun e w' => e = .returned (.int .i64 ((k + UnionFind_cnt x : Nat) : Int)) ∧ Below w.heap.size w w' := by
  obtain ⟨P, c, rfl⟩ := UnionFind_form h
  have hR := h.ints
  clear h
  have hl1 : (UnionFind_mk k x).length = x.length := by unfold UnionFind_mk IntS_mk; exact markInts_len _ _
  rw [hl1] at hR ⊢
  have hE : Below w.heap.size w (w.alloc (.cells #[.slice P x.length c] 26)) := below_more (Below.refl _ _) _
  have c1 := heldIntS_c _ x k _ ((hR.below hE (Nat.le_refl _)).more hE.size) hn hk0 (by omega)
  have hcn := IntS_cnt_le x
  have hs : k + UnionFind_cnt x = k + IntS_cnt x := rfl
  have hsz : UnionFind_sz x = IntS_sz x := rfl
  rw [hs]
  have hKb : k + IntS_cnt x ≤ 1000000000 ∧ 1 ≤ k + IntS_cnt x := by omega
  clear hR hl1 hs hsz hcn
  generalize k + IntS_cnt x = K at *
  go_enter Try.func34, Try.ntmps34
  go_wp2_with fail
  refine c1.mono ?_
  rintro e w1 ⟨rfl, hb1⟩
  go_wp2
  go_ret
  exact ⟨rfl, hE.trans (hb1.mono hE.size)⟩

set_option maxHeartbeats 800000 in
theorem szUnionFind_c (v : Value) (x : List Int) (left : Int) (w : World) (h : UnionFind_at w w.heap.size v x) (hw : UnionFind_wf x) (h0 : 0 ≤ left) (h1 : left ≤ 1048576) :
    Calls Try.prog 35 #[v, .int .i64 left] w fun e w' => e = .returned (.int .i64 (szLeft left (UnionFind_sz x : Nat))) ∧ Below w.heap.size w w' := by
  obtain ⟨P, c, rfl⟩ := UnionFind_form h
  have hR := h.ints
  clear h
  have hE : Below w.heap.size w (w.alloc (.cells #[.slice P x.length c] 46)) := (Below.refl _ _).alloc (Nat.le_refl _) _
  have c1 := szIntS_c _ x left _ ((hR.below hE (Nat.le_refl _)).more hE.size) hw h0 h1
  clear hR
  by_cases hr : ((IntS_sz x : Nat) : Int) ≤ left
  · have e1 := szLeft_yes hr
    have e2 := Lib.hid e1
    rw [e1] at c1
    clear e1
    go_enter Try.func35, Try.ntmps35
    go_wp2_with fail
    refine c1.mono ?_
    rintro e w1 ⟨rfl, hb1⟩
    go_wp2
    go_ret
    exact ⟨ret_int e2.out.symm, hE.trans (hb1.mono hE.size)⟩
  · have e1 := szLeft_no hr
    have e2 := Lib.hid e1
    rw [e1] at c1
    clear e1
    go_enter Try.func35, Try.ntmps35
    go_wp2_with fail
    refine c1.mono ?_
    rintro e w1 ⟨rfl, hb1⟩
    go_wp2
    go_ret
    exact ⟨ret_int e2.out.symm, hE.trans (hb1.mono hE.size)⟩

set_option maxHeartbeats 1600000 in
theorem toUnionFind_c (v : Value) (x : List Int) (w : World) (h : UnionFind_at w w.heap.size v x) (hn : UnionFind_sz x ≤ 1048576) :
    Calls Try.prog 36 #[v] w fun e w' => ∃ u, e = .returned u ∧ UnionFind_own w.heap.size w'.heap.size u x w' ∧ Below w.heap.size w w' := by
  obtain ⟨P, c, rfl⟩ := UnionFind_form h
  have hR := h.ints
  clear h
  obtain ⟨E, hEq⟩ : ∃ E, E = (((w.alloc (.cells #[.slice P x.length c] 46)).alloc (.cells #[.slice none 0 0] 26)).alloc (.cells #[.slice none 0 0] 26)) := ⟨_, rfl⟩
  have hE : Below w.heap.size w E := by rw [hEq]; exact below_more (below_more (below_more (Below.refl _ _) _) _) _
  have hEz : w.heap.size + 3 = E.heap.size := by rw [hEq]; simp
  have K1 := Lib.hid (show E.cell? ⟨w.heap.size + 1, 0, none⟩ = some (.slice none 0 0) by rw [hEq]; simp [go_sem])
  have K2 := Lib.hid (show E.cell? ⟨w.heap.size + 1 + 1, 0, none⟩ = some (.slice none 0 0) by rw [hEq]; simp [go_sem])
  have Z1 := Lib.hid (show ∀ o, E.frozen? ⟨w.heap.size + 1, o, none⟩ = false by intro o; rw [hEq]; simp [go_sem])
  have Z2 := Lib.hid (show ∀ o, E.frozen? ⟨w.heap.size + 1 + 1, o, none⟩ = false by intro o; rw [hEq]; simp [go_sem])
  have c1 := toIntS_c _ x E ((hR.below hE (Nat.le_refl _)).more hE.size) hn
  have HE := Lib.hid hEz
  clear hR hEz
  go_enter Try.func36, Try.ntmps36
  go_wp2_with fail
  rw [← hEq]
  clear hEq
  refine c1.mono ?_
  rintro e w1 ⟨u1, rfl, ho1, hb1⟩
  clear c1
  have hz1 := hb1.size
  have hez := HE.out
  obtain ⟨P1, p1, rfl, -, -⟩ := (ho1.at_ (Nat.le_refl _)).form
  have hB1 : Below w.heap.size w w1 := hE.trans (hb1.mono hE.size)
  have m0 := (hb1.cell (p := ⟨w.heap.size + 1, 0, none⟩) (by show w.heap.size + 1 < _; omega)).trans K1.out
  have f0 := (hb1.cell (p := ⟨w.heap.size + 1 + 1, 0, none⟩) (by show w.heap.size + 1 + 1 < _; omega)).trans K2.out
  have mz := fun o => (hb1.frozen (p := ⟨w.heap.size + 1, o, none⟩) (by show w.heap.size + 1 < _; omega)).trans (Z1.out o)
  have fz := fun o => (hb1.frozen (p := ⟨w.heap.size + 1 + 1, o, none⟩) (by show w.heap.size + 1 + 1 < _; omega)).trans (Z2.out o)
  have HO1 := Lib.hid ho1
  have hcB : ∀ a b, Chg (Mid w.heap.size (w.heap.size + 3)) w1 ((w1.setCell ⟨w.heap.size + 1 + 1, 0, none⟩ a).setCell ⟨w.heap.size + 1, 0, none⟩ b) := fun a b =>
    ((Chg.refl _ _).setCell (p := ⟨w.heap.size + 1 + 1, 0, none⟩) ⟨by show w.heap.size ≤ w.heap.size + 1 + 1; omega, by show w.heap.size + 1 + 1 < _; omega⟩ _).setCell (p := ⟨w.heap.size + 1, 0, none⟩) ⟨by show w.heap.size ≤ w.heap.size + 1; omega, by show w.heap.size + 1 < _; omega⟩ _
  have HB := Lib.hid hcB
  clear ho1 hcB hez hb1
  have HZ := Lib.hid hz1
  clear hz1
  go_wp2
  have hcz := (HB.out (.slice P1 x.length p1) (.slice P1 x.length p1)).size
  refine bodyPost_ret (v := .agg #[.slice P1 x.length p1]) (by simp [results, Try.results36, go_sem, m0]) rfl ⟨_, rfl, ⟨_, rfl, ?_⟩, ?_⟩
  · have h1 := HO1.out.chg (HB.out (.slice P1 x.length p1) (.slice P1 x.length p1)) (.inr (by have := HE.out; omega))
    exact h1.mono (by have := HE.out; omega) hcz
  · exact hB1.trans ((HB.out _ _).mid_below (Nat.le_refl _) hB1.size)

end Go.Proofs.Ytalijnfbopcmeaa
