/-
  Walks and plain lemmas for the laws of this seat: what single Go functions return, for every argument.
-/
import Derived.Deep.RegionHeld3
import Derived.Test.YtakflmaeclneiaaGreatBase
import Derived.Test.YtakflmaeclneiaaGreatEdge
import Derived.Test.YtakflmaeclneiaaGreatTakeE
namespace Go.Proofs.YtakflmaeclneiaaGreat
open Go.RowKit

set_option maxHeartbeats 800000 in
theorem eqPositionEdge_any (s t : Int) (a c : Int) (b d : Bool) (w : World) :
    Calls Tryz.prog 29 #[.agg #[.int .i64 s, .int .i64 a, .bool b], .agg #[.int .i64 t, .int .i64 c, .bool d]] w fun e w' => e = .returned (.bool (decide (Edg.mk s a b = Edg.mk t c d))) ∧ Below w.heap.size w w' := by
  by_cases h0 : s = t
  · by_cases h1 : a = c
    · have h2 : decide (Edg.mk s a b = Edg.mk t c d) = (b == d) := by subst h0 h1; cases b <;> cases d <;> simp
      rw [h2]
      subst h0 h1
      cases b <;> cases d
      all_goals
        go_enter Tryz.func29, Tryz.ntmps29
        go_wp2
        go_ret
        exact ⟨rfl, below_more (below_more (Below.refl _ _) _) _⟩
    · have h2 : decide (Edg.mk s a b = Edg.mk t c d) = false := by simp [h1]
      rw [h2]
      subst h0
      have h3 : (a != c) = true := bne_iff_ne.2 h1
      clear h2
      go_enter Tryz.func29, Tryz.ntmps29
      go_wp2
      go_ret
      exact ⟨rfl, below_more (below_more (Below.refl _ _) _) _⟩
  · have h2 : decide (Edg.mk s a b = Edg.mk t c d) = false := by simp [h0]
    rw [h2]
    have h3 : (s != t) = true := bne_iff_ne.2 h0
    clear h2
    go_enter Tryz.func29, Tryz.ntmps29
    go_wp2
    go_ret
    exact ⟨rfl, below_more (below_more (Below.refl _ _) _) _⟩
theorem eqPositionEdge_at (r r' : Edg) (b : Bool) (h : decide (r = r') = b) (w : World) :
    Calls Tryz.prog 29 #[.agg #[.int .i64 r.src, .int .i64 r.dst, .bool r.spec], .agg #[.int .i64 r'.src, .int .i64 r'.dst, .bool r'.spec]] w fun e w' => e = .returned (.bool b) ∧ Below w.heap.size w w' := by
  subst h; exact eqPositionEdge_any _ _ _ _ _ _ w

set_option maxHeartbeats 1600000 in
theorem eqPositionEdgeS_any (v u : Value) (l m : List Edg) (w : World) (hl : EdgsAt w w.heap.size v l) (hm : EdgsAt w w.heap.size u m) :
    Calls Tryz.prog 10 #[v, u] w fun e w' => e = .returned (.bool (decide (l = m))) ∧ Below w.heap.size w w' := by
  have HL := Lib.hid hl
  have HM := Lib.hid hm
  obtain ⟨A, c, rfl, hlc, hcm, -⟩ := hl
  obtain ⟨A', c', rfl, hlc', hcm', -⟩ := hm
  unfold maxLen at hcm hcm'
  by_cases hn : l.length = m.length
  · have hnb : ((l.length : Int) != (m.length : Int)) = false := by rw [hn]; simp
    have HN := Lib.hid hn
    clear hn
    go_enter Tryz.func10, Tryz.ntmps10
    go_wp2
    go_loopw [5] (fun i wr => ∃ k : Nat, k ≤ l.length ∧ i = .int .i64 k ∧ Hid (l.take k = m.take k) ∧ Below w.heap.size w wr) (fun i _ => l.length - (intOf i).toNat)
    case atStart => exact ⟨0, by omega, rfl, Lib.hid (by simp), Below.refl _ _⟩
    case round =>
      obtain ⟨k, hk, rfl, HT, hW⟩ := hrel
      have hz := hW.size
      by_cases hlt : k < l.length
      · have hlt' : k < m.length := by have := HN.out; omega
        obtain ⟨b, off, rfl, hb, c0, c1, c2⟩ := EdgsAt.elem HL.out k hlt
        obtain ⟨b', off', rfl, hb', d0, d1, d2⟩ := EdgsAt.elem HM.out k hlt'
        have HE := Lib.hid (take_eq_next l m k hlt hlt')
        have HF := Lib.hid (fun h => take_eq_not l m k hlt hlt' h)
        generalize l[k] = r at *
        generalize m[k] = r' at *
        have MK := Lib.hid (fun w' (hb1 : Below w.heap.size w w') => (⟨⟨(hb1.cell (p := ⟨b, off + k * 3, none⟩) hb).trans c0, (hb1.cell (p := ⟨b, off + k * 3 + 1, none⟩) hb).trans c1, (hb1.cell (p := ⟨b, off + k * 3 + 2, none⟩) hb).trans c2⟩,
          ⟨(hb1.cell (p := ⟨b', off' + k * 3, none⟩) hb').trans d0, (hb1.cell (p := ⟨b', off' + k * 3 + 1, none⟩) hb').trans d1, (hb1.cell (p := ⟨b', off' + k * 3 + 2, none⟩) hb').trans d2⟩, hb1⟩ : (w'.cell? ⟨b, off + k * 3, none⟩ = some (.int .i64 r.src) ∧ w'.cell? ⟨b, off + k * 3 + 1, none⟩ = some (.int .i64 r.dst) ∧ w'.cell? ⟨b, off + k * 3 + 2, none⟩ = some (.bool r.spec)) ∧
          (w'.cell? ⟨b', off' + k * 3, none⟩ = some (.int .i64 r'.src) ∧ w'.cell? ⟨b', off' + k * 3 + 1, none⟩ = some (.int .i64 r'.dst) ∧ w'.cell? ⟨b', off' + k * 3 + 2, none⟩ = some (.bool r'.spec)) ∧ Below w.heap.size w w'))
        clear c0 c1 c2 d0 d1 d2
        cases hd : decide (r = r') with
        | true =>
          have hcon := eqPositionEdge_at r r' true hd
          have HE' := Lib.hid (HE.out (of_decide_eq_true hd) HT.out)
          clear hd
          go_wp2
          go_region_held3 (fun w' => (w'.cell? ⟨b, off + k * 3, none⟩ = some (.int .i64 r.src) ∧ w'.cell? ⟨b, off + k * 3 + 1, none⟩ = some (.int .i64 r.dst) ∧ w'.cell? ⟨b, off + k * 3 + 2, none⟩ = some (.bool r.spec)) ∧
            (w'.cell? ⟨b', off' + k * 3, none⟩ = some (.int .i64 r'.src) ∧ w'.cell? ⟨b', off' + k * 3 + 1, none⟩ = some (.int .i64 r'.dst) ∧ w'.cell? ⟨b', off' + k * 3 + 2, none⟩ = some (.bool r'.spec)) ∧ Below w.heap.size w w')
            (first | exact MK.out _ hh | exact MK.out _ hW.drew)
            (first | (go_at_call 29; refine (hcon _).mono ?_; rintro e w1 ⟨rfl, hb1⟩; have hh := (‹(_ ∧ _ ∧ _) ∧ (_ ∧ _ ∧ _) ∧ Below w.heap.size w _›).2.2; replace hh := hh.trans (hb1.mono hh.size)))
          go_wp2
          go_roundw
          case rel => exact ⟨k + 1, by omega, by go_num, HE', hh⟩
          case measure => simp [intOf]; omega
        | false =>
          have hcon := eqPositionEdge_at r r' false hd
          have HE' := Lib.hid (decide_eq_false (HF.out (of_decide_eq_false hd)))
          clear hd
          go_wp2
          go_region_held3 (fun w' => (w'.cell? ⟨b, off + k * 3, none⟩ = some (.int .i64 r.src) ∧ w'.cell? ⟨b, off + k * 3 + 1, none⟩ = some (.int .i64 r.dst) ∧ w'.cell? ⟨b, off + k * 3 + 2, none⟩ = some (.bool r.spec)) ∧
            (w'.cell? ⟨b', off' + k * 3, none⟩ = some (.int .i64 r'.src) ∧ w'.cell? ⟨b', off' + k * 3 + 1, none⟩ = some (.int .i64 r'.dst) ∧ w'.cell? ⟨b', off' + k * 3 + 2, none⟩ = some (.bool r'.spec)) ∧ Below w.heap.size w w')
            (first | exact MK.out _ hh | exact MK.out _ hW.drew)
            (first | (go_at_call 29; refine (hcon _).mono ?_; rintro e w1 ⟨rfl, hb1⟩; have hh := (‹(_ ∧ _ ∧ _) ∧ (_ ∧ _ ∧ _) ∧ Below w.heap.size w _›).2.2; replace hh := hh.trans (hb1.mono hh.size)))
          go_wp2
          go_ret
          exact ⟨by rw [HE'.out]; rfl, hh⟩
      · obtain rfl : k = l.length := by omega
        have HE' := Lib.hid (decide_eq_true (show l = m by have := HT.out; rwa [List.take_of_length_le (Nat.le_refl _), List.take_of_length_le (by rw [HN.out]; exact Nat.le_refl _)] at this))
        go_wp2
        go_ret
        exact ⟨by rw [HE'.out]; rfl, hW⟩
  · have hnb : ((l.length : Int) != (m.length : Int)) = true := by rw [bne_iff_ne]; omega
    have HE' := Lib.hid (decide_eq_false (show ¬ l = m by rintro rfl; exact hn rfl))
    clear hn
    go_enter Tryz.func10, Tryz.ntmps10
    go_wp2
    go_ret
    exact ⟨by rw [HE'.out]; rfl, Below.refl _ _⟩
theorem eqPositionEdgeS_c (v u : Value) (l : List Edg) (w : World) (h : PositionEdgeS_at w w.heap.size v l) (h' : PositionEdgeS_at w w.heap.size u l) :
    Calls Tryz.prog 10 #[v, u] w fun e w' => e = .returned (.bool true) ∧ Below w.heap.size w w' := by
  have := eqPositionEdgeS_any v u l l w h h'
  rwa [decide_eq_true rfl] at this

def markEdg (k : Nat) : Edg := ⟨((k : Nat) : Int), ((k + 1 : Nat) : Int), decide ((k + 2) % 3 = 0)⟩
def markEdgs (k n : Nat) : List Edg := (List.range n).map fun i => markEdg (k + 3 * i)
theorem markEdgs_len (k n : Nat) : (markEdgs k n).length = n := by simp [markEdgs]
theorem markEdgs_at (k n i : Nat) (h : i < (markEdgs k n).length) : (markEdgs k n)[i] = markEdg (k + 3 * i) := by simp [markEdgs]
theorem markEdgs_succ (k n : Nat) : markEdgs k (n + 1) = markEdgs k n ++ [markEdg (k + 3 * n)] := by simp [markEdgs, List.range_succ]
theorem markE_set (l : List Edg) (k i : Nat) (h : i < l.length) : (markEdgs k i ++ l.drop i).set i (markEdg (k + 3 * i)) = markEdgs k (i + 1) ++ l.drop (i + 1) := by
  rw [List.set_append_right _ _ (by rw [markEdgs_len]; exact Nat.le_refl _), markEdgs_len, Nat.sub_self, List.drop_eq_getElem_cons h, List.set_cons_zero, markEdgs_succ, List.append_assoc]
  rfl
set_option maxHeartbeats 1600000 in
set_option maxRecDepth 100000 in
theorem markPositionEdgeS_chg (B : Nat) (v : Value) (l : List Edg) (k : Nat) (w : World) (hO : OwnEdgs B v l w) (hn : l.length ≤ 1048576) (hk : 1 ≤ k) (hk2 : k ≤ 1000000000) :
    Calls Tryz.prog 15 #[v, .int .i64 (k : Int)] w fun e w' => e = .returned (.int .i64 ((k : Int) + 3 * (l.length : Nat))) ∧ OwnEdgs B v (markEdgs k l.length) w' ∧ Chg (fun g => v.ownBlock = some g) w w' := by
  obtain ⟨A, c, rfl, hc1, hc2, -⟩ := hO.at_
  unfold maxLen at hc2
  go_enter Tryz.func15, Tryz.ntmps15
  go_wp2
  go_loopw [1, 5] (fun x j wr => ∃ i : Nat, i ≤ l.length ∧ j = .int .i64 (i : Int) ∧ x = .int .i64 ((k : Int) + 3 * (i : Int)) ∧ OwnEdgs B (.slice A l.length c) (markEdgs k i ++ l.drop i) wr ∧ Chg (fun g => (Value.slice A l.length c).ownBlock = some g) w wr) (fun _ j _ => l.length - (intOf j).toNat)
  case atStart => exact ⟨0, by omega, rfl, by go_num, hO, Chg.refl _ _⟩
  case round =>
    obtain ⟨i, hi, rfl, rfl, hO1, hW⟩ := hrel
    by_cases hlt : i < l.length
    · have hlen : (markEdgs k i ++ l.drop i).length = l.length := by rw [List.length_append, markEdgs_len, List.length_drop]; omega
      obtain ⟨g, cap, hv, hg0, hg1⟩ := World.ownsRow.form hO1 (by omega)
      simp only [Value.slice.injEq] at hv
      obtain ⟨rfl, hv1, rfl⟩ := hv
      clear hv1
      have HM := Lib.hid (markE_set l k i hlt)
      have HLen := Lib.hid hlen
      have hkl : i < (markEdgs k i ++ l.drop i).length := by omega
      have h2 : ((((k : Int) + 3 * (i : Int) + 1 + 1) % 3) == 0) = decide ((k + 3 * i + 2) % 3 = 0) := by
        rw [Bool.eq_iff_iff, beq_iff_eq, decide_eq_true_eq]; omega
      clear hlen
      obtain ⟨d0, d1, d2⟩ := hO1.cells HLen.out i hkl
      have hfz := hO1.frozen HLen.out
      go_wp2
      have hS := hO1.set HLen.out i hlt (markEdg (k + 3 * i))
      rw [show (markEdg (k + 3 * i)).dst = (k : Int) + 3 * (i : Int) + 1 from by show ((k + 3 * i + 1 : Nat) : Int) = _; omega, show (markEdg (k + 3 * i)).src = (k : Int) + 3 * (i : Int) from by show ((k + 3 * i : Nat) : Int) = _; omega, HM.out] at hS
      have hBS := ((hW.setCell (p := ⟨g, i * 3, none⟩) rfl (.int .i64 ((k : Int) + 3 * (i : Int)))).setCell (p := ⟨g, i * 3 + 1, none⟩) rfl (.int .i64 ((k : Int) + 3 * (i : Int) + 1))).setCell (p := ⟨g, i * 3 + 2, none⟩) rfl (.bool (decide ((k + 3 * i + 2) % 3 = 0)))
      go_roundw
      case rel => exact ⟨i + 1, by omega, by go_num, by go_num, hS, hBS⟩
      case measure => simp [intOf]; omega
    · obtain rfl : i = l.length := by omega
      have hO' : OwnEdgs B (.slice A l.length c) (markEdgs k l.length) wr := by simpa using hO1
      clear hO1
      go_wp2
      go_ret
      exact ⟨rfl, hO', hW⟩
def PositionEdgeS_mk (k : Nat) (l : List Edg) : List Edg := markEdgs k l.length
theorem markPositionEdgeS_c (B C : Nat) (v : Value) (l : List Edg) (k : Nat) (w : World) (h : PositionEdgeS_own B C v l w) (hn : PositionEdgeS_sz l ≤ 1048576) (hk0 : 1 ≤ k) (hk : k ≤ 1000000000) :
    Calls Tryz.prog 15 #[v, .int .i64 (k : Int)] w fun e w' => e = .returned (.int .i64 ((k + PositionEdgeS_cnt l : Nat) : Int)) ∧ PositionEdgeS_own B C v (PositionEdgeS_mk k l) w' ∧ Chg (Mid B C) w w' :=
  (markPositionEdgeS_chg B v l k w h.1 hn hk0 hk).mono fun _ _ ⟨he, ho, hc⟩ => ⟨by rw [he]; rfl, ⟨ho, h.2⟩, hc.mono fun g hg => ⟨(h.1.lt g hg).1, h.2 g hg⟩⟩

set_option maxHeartbeats 1600000 in
set_option maxRecDepth 100000 in
theorem heldPositionEdgeS_any (v : Value) (n : Nat) (k : Nat) (w : World) (hl : EdgsAt w w.heap.size v (markEdgs k n)) (hn : n ≤ 1048576) (hk : 1 ≤ k) (hk2 : k ≤ 1000000000) :
    Calls Tryz.prog 16 #[v, .int .i64 (k : Int)] w fun e w' => e = .returned (.int .i64 ((k : Int) + 3 * (n : Nat))) ∧ Below w.heap.size w w' := by
  have HL := Lib.hid hl
  obtain ⟨A, c, rfl, hc1, hc2, -⟩ := hl
  have HN := Lib.hid (markEdgs_len k n)
  rw [markEdgs_len] at hc1
  unfold maxLen at hc2
  rw [markEdgs_len]
  go_enter Tryz.func16, Tryz.ntmps16
  go_wp2
  go_loop [1, 5] (fun x j => ∃ i : Nat, i ≤ n ∧ j = .int .i64 (i : Int) ∧ x = .int .i64 ((k : Int) + 3 * (i : Int))) (fun _ j => n - (intOf j).toNat)
  case atStart => exact ⟨0, by omega, rfl, by go_num⟩
  case round =>
    obtain ⟨i, hi, rfl, rfl⟩ := hrel
    by_cases hlt : i < n
    · have hlt' : i < (markEdgs k n).length := by rw [HN.out]; exact hlt
      have HL' : Hid (EdgsAt w w.heap.size (.slice A (markEdgs k n).length c) (markEdgs k n)) := Lib.hid (by have := HL.out; rwa [HN.out] at this ⊢)
      obtain ⟨b, off, rfl, hb, c0, c1, c2⟩ := EdgsAt.elem HL'.out i hlt'
      rw [markEdgs_at] at c0 c1 c2
      have ha : (markEdg (k + 3 * i)).dst = (k : Int) + 3 * (i : Int) + 1 := by show ((k + 3 * i + 1 : Nat) : Int) = _; omega
      have hn' : (markEdg (k + 3 * i)).src = (k : Int) + 3 * (i : Int) := by show ((k + 3 * i : Nat) : Int) = _; omega
      have hs' : (markEdg (k + 3 * i)).spec = decide ((k + 3 * i + 2) % 3 = 0) := rfl
      rw [ha] at c1
      rw [hs'] at c2
      rw [hn'] at c0
      have h2 : ((((k : Int) + 3 * (i : Int) + 1 + 1) % 3) == 0) = decide ((k + 3 * i + 2) % 3 = 0) := by
        rw [Bool.eq_iff_iff, beq_iff_eq, decide_eq_true_eq]; omega
      generalize decide ((k + 3 * i + 2) % 3 = 0) = q at *
      clear ha hn' hs'
      cases q
      all_goals
        go_wp2
        go_round
        case rel => exact ⟨i + 1, by omega, by go_num, by go_num⟩
        case measure => simp [intOf]; omega
    · obtain rfl : i = n := by omega
      go_wp2
      go_ret
      exact ⟨rfl, Below.refl _ _⟩
theorem heldPositionEdgeS_c (v : Value) (l : List Edg) (k : Nat) (w : World) (h : PositionEdgeS_at w w.heap.size v (PositionEdgeS_mk k l)) (hn : PositionEdgeS_sz l ≤ 1048576) (hk0 : 1 ≤ k) (hk : k ≤ 1000000000) :
    Calls Tryz.prog 16 #[v, .int .i64 (k : Int)] w fun e w' => e = .returned (.int .i64 ((k + PositionEdgeS_cnt l : Nat) : Int)) ∧ Below w.heap.size w w' :=
  (heldPositionEdgeS_any v l.length k w h hn hk0 hk).mono fun _ _ ⟨he, hb⟩ => ⟨by rw [he]; rfl, hb⟩

end Go.Proofs.YtakflmaeclneiaaGreat
