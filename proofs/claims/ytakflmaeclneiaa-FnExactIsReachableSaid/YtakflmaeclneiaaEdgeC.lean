/-
  Walks and plain lemmas for the laws of this seat: what single Go functions return, for every argument.
-/
import Derived.Deep.RegionHeld3
import Derived.Test.YtakflmaeclneiaaBase
import Derived.Test.YtakflmaeclneiaaRel
import Derived.Test.YtakflmaeclneiaaTakeE
import Derived.Test.YtakflmaeclneiaaEdge
namespace Go.Proofs.Ytakflmaeclneiaa
open Go.RowKit

set_option maxHeartbeats 800000 in
theorem eqPositionEdge_any (s t : Int) (a c : Int) (b d : Bool) (w : World) :
    Calls Try.prog 27 #[.agg #[.int .i64 s, .int .i64 a, .bool b], .agg #[.int .i64 t, .int .i64 c, .bool d]] w fun e w' => e = .returned (.bool (decide (Edg.mk s a b = Edg.mk t c d))) ∧ Below w.heap.size w w' := by
  by_cases h0 : s = t
  · by_cases h1 : a = c
    · have h2 : decide (Edg.mk s a b = Edg.mk t c d) = (b == d) := by subst h0 h1; cases b <;> cases d <;> simp
      rw [h2]
      subst h0 h1
      cases b <;> cases d
      all_goals
        go_enter Try.func27, Try.ntmps27
        go_wp2
        go_ret
        exact ⟨rfl, below_more (below_more (Below.refl _ _) _) _⟩
    · have h2 : decide (Edg.mk s a b = Edg.mk t c d) = false := by simp [h1]
      rw [h2]
      subst h0
      have h3 : (a != c) = true := bne_iff_ne.2 h1
      clear h2
      go_enter Try.func27, Try.ntmps27
      go_wp2
      go_ret
      exact ⟨rfl, below_more (below_more (Below.refl _ _) _) _⟩
  · have h2 : decide (Edg.mk s a b = Edg.mk t c d) = false := by simp [h0]
    rw [h2]
    have h3 : (s != t) = true := bne_iff_ne.2 h0
    clear h2
    go_enter Try.func27, Try.ntmps27
    go_wp2
    go_ret
    exact ⟨rfl, below_more (below_more (Below.refl _ _) _) _⟩
theorem eqPositionEdge_at (r r' : Edg) (b : Bool) (h : decide (r = r') = b) (w : World) :
    Calls Try.prog 27 #[.agg #[.int .i64 r.src, .int .i64 r.dst, .bool r.spec], .agg #[.int .i64 r'.src, .int .i64 r'.dst, .bool r'.spec]] w fun e w' => e = .returned (.bool b) ∧ Below w.heap.size w w' := by
  subst h; exact eqPositionEdge_any _ _ _ _ _ _ w

set_option maxHeartbeats 1600000 in
theorem eqPositionEdgeS_any (v u : Value) (l m : List Edg) (w : World) (hl : EdgsAt w w.heap.size v l) (hm : EdgsAt w w.heap.size u m) :
    Calls Try.prog 17 #[v, u] w fun e w' => e = .returned (.bool (decide (l = m))) ∧ Below w.heap.size w w' := by
  have HL := Lib.hid hl
  have HM := Lib.hid hm
  obtain ⟨A, c, rfl, hlc, hcm, -⟩ := hl
  obtain ⟨A', c', rfl, hlc', hcm', -⟩ := hm
  unfold maxLen at hcm hcm'
  by_cases hn : l.length = m.length
  · have hnb : ((l.length : Int) != (m.length : Int)) = false := by rw [hn]; simp
    have HN := Lib.hid hn
    clear hn
    go_enter Try.func17, Try.ntmps17
    go_wp2
    go_loopw [5] (fun i wr => ∃ k : Nat, k ≤ l.length ∧ i = .int .i64 k ∧ Hid (l.take k = m.take k) ∧ Below w.heap.size w wr) (fun i _ => l.length - (intOf i).toNat)
    case atStart => exact ⟨0, by omega, rfl, Lib.hid (by simp), Below.refl _ _⟩
    case round =>
      obtain ⟨k, hk, rfl, HT, hW⟩ := hrel
      have hz := hW.size
      by_cases hlt : k < l.length
      · have hlt' : k < m.length := by have := HN.out; omega
        obtain ⟨b, off, rfl, hb, c0, c1, c2⟩ := EdgsAt.elem HL.out k hlt
        obtain ⟨b', off', rfl, hb', d0, d1, d2⟩ := EdgsAt.elem HM.out k hlt'
        have HE := Lib.hid (take_eq_next l m k hlt hlt')
        have HF := Lib.hid (fun h => take_eq_not l m k hlt hlt' h)
        generalize l[k] = r at *
        generalize m[k] = r' at *
        have MK := Lib.hid (fun w' (hb1 : Below w.heap.size w w') => (⟨⟨(hb1.cell (p := ⟨b, off + k * 3, none⟩) hb).trans c0, (hb1.cell (p := ⟨b, off + k * 3 + 1, none⟩) hb).trans c1, (hb1.cell (p := ⟨b, off + k * 3 + 2, none⟩) hb).trans c2⟩,
          ⟨(hb1.cell (p := ⟨b', off' + k * 3, none⟩) hb').trans d0, (hb1.cell (p := ⟨b', off' + k * 3 + 1, none⟩) hb').trans d1, (hb1.cell (p := ⟨b', off' + k * 3 + 2, none⟩) hb').trans d2⟩, hb1⟩ : (w'.cell? ⟨b, off + k * 3, none⟩ = some (.int .i64 r.src) ∧ w'.cell? ⟨b, off + k * 3 + 1, none⟩ = some (.int .i64 r.dst) ∧ w'.cell? ⟨b, off + k * 3 + 2, none⟩ = some (.bool r.spec)) ∧
          (w'.cell? ⟨b', off' + k * 3, none⟩ = some (.int .i64 r'.src) ∧ w'.cell? ⟨b', off' + k * 3 + 1, none⟩ = some (.int .i64 r'.dst) ∧ w'.cell? ⟨b', off' + k * 3 + 2, none⟩ = some (.bool r'.spec)) ∧ Below w.heap.size w w'))
        clear c0 c1 c2 d0 d1 d2
        cases hd : decide (r = r') with
        | true =>
          have hcon := eqPositionEdge_at r r' true hd
          have HE' := Lib.hid (HE.out (of_decide_eq_true hd) HT.out)
          clear hd
          go_wp2
          go_region_held3 (fun w' => (w'.cell? ⟨b, off + k * 3, none⟩ = some (.int .i64 r.src) ∧ w'.cell? ⟨b, off + k * 3 + 1, none⟩ = some (.int .i64 r.dst) ∧ w'.cell? ⟨b, off + k * 3 + 2, none⟩ = some (.bool r.spec)) ∧
            (w'.cell? ⟨b', off' + k * 3, none⟩ = some (.int .i64 r'.src) ∧ w'.cell? ⟨b', off' + k * 3 + 1, none⟩ = some (.int .i64 r'.dst) ∧ w'.cell? ⟨b', off' + k * 3 + 2, none⟩ = some (.bool r'.spec)) ∧ Below w.heap.size w w')
            (first | exact MK.out _ hh | exact MK.out _ hW.drew)
            (first | (go_at_call 27; refine (hcon _).mono ?_; rintro e w1 ⟨rfl, hb1⟩; have hh := (‹(_ ∧ _ ∧ _) ∧ (_ ∧ _ ∧ _) ∧ Below w.heap.size w _›).2.2; replace hh := hh.trans (hb1.mono hh.size)))
          go_wp2
          go_roundw
          case rel => exact ⟨k + 1, by omega, by go_num, HE', hh⟩
          case measure => simp [intOf]; omega
        | false =>
          have hcon := eqPositionEdge_at r r' false hd
          have HE' := Lib.hid (decide_eq_false (HF.out (of_decide_eq_false hd)))
          clear hd
          go_wp2
          go_region_held3 (fun w' => (w'.cell? ⟨b, off + k * 3, none⟩ = some (.int .i64 r.src) ∧ w'.cell? ⟨b, off + k * 3 + 1, none⟩ = some (.int .i64 r.dst) ∧ w'.cell? ⟨b, off + k * 3 + 2, none⟩ = some (.bool r.spec)) ∧
            (w'.cell? ⟨b', off' + k * 3, none⟩ = some (.int .i64 r'.src) ∧ w'.cell? ⟨b', off' + k * 3 + 1, none⟩ = some (.int .i64 r'.dst) ∧ w'.cell? ⟨b', off' + k * 3 + 2, none⟩ = some (.bool r'.spec)) ∧ Below w.heap.size w w')
            (first | exact MK.out _ hh | exact MK.out _ hW.drew)
            (first | (go_at_call 27; refine (hcon _).mono ?_; rintro e w1 ⟨rfl, hb1⟩; have hh := (‹(_ ∧ _ ∧ _) ∧ (_ ∧ _ ∧ _) ∧ Below w.heap.size w _›).2.2; replace hh := hh.trans (hb1.mono hh.size)))
          go_wp2
          go_ret
          exact ⟨by rw [HE'.out]; rfl, hh⟩
      · obtain rfl : k = l.length := by omega
        have HE' := Lib.hid (decide_eq_true (show l = m by have := HT.out; rwa [List.take_of_length_le (Nat.le_refl _), List.take_of_length_le (by rw [HN.out]; exact Nat.le_refl _)] at this))
        go_wp2
        go_ret
        exact ⟨by rw [HE'.out]; rfl, hW⟩
  · have hnb : ((l.length : Int) != (m.length : Int)) = true := by rw [bne_iff_ne]; omega
    have HE' := Lib.hid (decide_eq_false (show ¬ l = m by rintro rfl; exact hn rfl))
    clear hn
    go_enter Try.func17, Try.ntmps17
    go_wp2
    go_ret
    exact ⟨by rw [HE'.out]; rfl, Below.refl _ _⟩
theorem eqPositionEdgeS_c (v u : Value) (l : List Edg) (w : World) (h : PositionEdgeS_at w w.heap.size v l) (h' : PositionEdgeS_at w w.heap.size u l) :
    Calls Try.prog 17 #[v, u] w fun e w' => e = .returned (.bool true) ∧ Below w.heap.size w w' := by
  have := eqPositionEdgeS_any v u l l w h h'
  rwa [decide_eq_true rfl] at this

set_option maxHeartbeats 400000 in
theorem szPositionEdgeS_c (v : Value) (l : List Edg) (left : Int) (w : World) (hl : PositionEdgeS_at w w.heap.size v l) (_ : PositionEdgeS_wf l) (h0 : 0 ≤ left) (h1 : left ≤ 1048576) :
    Calls Try.prog 13 #[v, .int .i64 left] w fun e w' => e = .returned (.int .i64 (szLeft left (PositionEdgeS_sz l : Nat))) ∧ Below w.heap.size w w' := by
  obtain ⟨A, c, rfl, hlc, hcm, -⟩ := hl
  unfold maxLen at hcm
  unfold PositionEdgeS_sz
  by_cases h : ((l.length : Nat) : Int) ≤ left
  · rw [szLeft_yes h]
    go_enter Try.func13, Try.ntmps13
    go_wp2
    go_ret
    exact ⟨rfl, Below.refl _ _⟩
  · rw [szLeft_no h]
    go_enter Try.func13, Try.ntmps13
    go_wp2
    go_ret
    exact ⟨rfl, Below.refl _ _⟩

set_option maxHeartbeats 400000 in
theorem toPositionEdge_any (s a : Int) (b : Bool) (w : World) :
    Calls Try.prog 25 #[.agg #[.int .i64 s, .int .i64 a, .bool b]] w fun e w' => e = .returned (.agg #[.int .i64 s, .int .i64 a, .bool b]) ∧ Below w.heap.size w w' := by
  go_enter Try.func25, Try.ntmps25
  go_wp2
  exact bodyPost_ret (v := .agg #[.int .i64 s, .int .i64 a, .bool b]) (by simp [results, Try.results25, go_sem]) rfl ⟨rfl, below_more (below_more (below_more (Below.refl _ _) _) _) _⟩
theorem take_zero_edg (l : List Edg) (k : Nat) (h : k < l.length) : (l.take k ++ List.replicate (l.length - k) zeroEdg).set k l[k] = l.take (k + 1) ++ List.replicate (l.length - (k + 1)) zeroEdg := by
  rw [List.set_append_right _ _ (by simp; omega), List.length_take_of_le (by omega), Nat.sub_self, List.take_succ_eq_append_getElem h, show l.length - k = (l.length - (k + 1)) + 1 by omega, List.replicate_succ, List.set_cons_zero, List.append_assoc]
  rfl
set_option maxHeartbeats 800000 in
theorem toPositionEdgeS_c (v : Value) (l : List Edg) (w : World) (hl : PositionEdgeS_at w w.heap.size v l) (hn : PositionEdgeS_sz l ≤ 1048576) :
    Calls Try.prog 15 #[v] w fun e w' => ∃ u, e = .returned u ∧ PositionEdgeS_own w.heap.size w'.heap.size u l w' ∧ Below w.heap.size w w' := by
  unfold PositionEdgeS_sz at hn
  have HL := Lib.hid hl
  obtain ⟨A, c, rfl, hlc, hcm, -⟩ := hl
  unfold maxLen at hcm
  have hmk := fun w => make_edgs w l.length hn
  go_enter Try.func15, Try.ntmps15
  go_wp2
  clear hmk
  go_loopw [4] (fun i wr => ∃ k : Nat, k ≤ l.length ∧ i = .int .i64 k ∧ OwnEdgs w.heap.size (.slice (some ⟨w.heap.size, 0, none⟩) l.length l.length) (l.take k ++ List.replicate (l.length - k) zeroEdg) wr ∧ Below w.heap.size w wr) (fun i _ => l.length - (intOf i).toNat)
  case atStart => exact ⟨0, by omega, rfl, OwnEdgs.made w _ hn _ (Nat.le_refl _), (Below.refl _ _).alloc (Nat.le_refl _) _⟩
  case round =>
    obtain ⟨k, hk, rfl, hO, hW⟩ := hrel
    have hz := hW.size
    by_cases hlt : k < l.length
    · obtain ⟨b, off, rfl, hb, c0, c1, c2⟩ := EdgsAt.elem (HL.out.below hW (Nat.le_refl _)) k hlt
      have hO1 := fun w1 (hb1 : Below wr.heap.size wr w1) => hO.below hb1 (Nat.le_refl _)
      have hlen : (l.take k ++ List.replicate (l.length - k) zeroEdg).length = l.length := by simp; omega
      have HLen := Lib.hid hlen
      have hkl : k < (l.take k ++ List.replicate (l.length - k) zeroEdg).length := by omega
      clear hlen
      go_wp2_with (go_at_call 25; refine (toPositionEdge_any _ _ _ _).mono ?_; rintro e w1 ⟨rfl, hb1⟩; obtain ⟨d0, d1, d2⟩ := (hO1 w1 hb1).cells HLen.out k hkl; have hfz := (hO1 w1 hb1).frozen HLen.out)
      go_roundw
      case rel => exact ⟨k + 1, by omega, by go_num, by rw [← take_zero_edg l k hlt]; exact (hO1 w1 hb1).set HLen.out k hlt l[k], (((hW.trans (hb1.mono hz)).setCell (Nat.le_refl _) _).setCell (Nat.le_refl _) _).setCell (Nat.le_refl _) _⟩
      case measure => simp [intOf]; omega
    · obtain rfl : k = l.length := by omega
      have hO' : OwnEdgs w.heap.size (.slice (some ⟨w.heap.size, 0, none⟩) l.length l.length) l wr := by simpa using hO
      clear hO
      go_wp2
      go_ret
      exact ⟨_, rfl, PositionEdgeS_own.of hO', hW⟩

end Go.Proofs.Ytakflmaeclneiaa
