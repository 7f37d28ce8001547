/-
  Walks and plain lemmas for the laws of this seat: what single Go functions return, for every argument.
-/
import Derived.Deep.RegionHeld3
import Derived.Test.YtakflmaeclneiaaDoorBase
import Derived.Test.YtakflmaeclneiaaDoorRel
import Derived.Test.YtakflmaeclneiaaDoorRels
import Derived.Test.YtakflmaeclneiaaDoorTakeE
import Derived.Test.YtakflmaeclneiaaDoorNum
namespace Go.Proofs.YtakflmaeclneiaaDoor
open Go.RowKit

set_option maxHeartbeats 800000 in
theorem eqRelation_any (s t : ByteArray) (a c : Int) (b d : Bool) (w : World) :
    Calls Tryd.prog 35 #[.agg #[.string s, .int .i64 a, .bool b], .agg #[.string t, .int .i64 c, .bool d]] w fun e w' => e = .returned (.bool (decide (Rel.mk s a b = Rel.mk t c d))) ∧ Below w.heap.size w w' := by
  by_cases h0 : s = t
  · by_cases h1 : a = c
    · have h2 : decide (Rel.mk s a b = Rel.mk t c d) = (b == d) := by subst h0 h1; cases b <;> cases d <;> simp
      rw [h2]
      subst h0 h1
      cases b <;> cases d
      all_goals
        go_enter Tryd.func35, Tryd.ntmps35
        go_wp2
        go_ret
        exact ⟨rfl, below_more (below_more (Below.refl _ _) _) _⟩
    · have h2 : decide (Rel.mk s a b = Rel.mk t c d) = false := by simp [h1]
      rw [h2]
      subst h0
      have h3 : (a != c) = true := bne_iff_ne.2 h1
      clear h2
      go_enter Tryd.func35, Tryd.ntmps35
      go_wp2
      go_ret
      exact ⟨rfl, below_more (below_more (Below.refl _ _) _) _⟩
  · have h2 : decide (Rel.mk s a b = Rel.mk t c d) = false := by simp [h0]
    rw [h2]
    have h3 := str_ne h0
    clear h2
    go_enter Tryd.func35, Tryd.ntmps35
    go_wp2
    go_ret
    exact ⟨rfl, below_more (below_more (Below.refl _ _) _) _⟩
theorem eqRelation_at (r r' : Rel) (b : Bool) (h : decide (r = r') = b) (w : World) :
    Calls Tryd.prog 35 #[.agg #[.string r.name, .int .i64 r.arity, .bool r.source], .agg #[.string r'.name, .int .i64 r'.arity, .bool r'.source]] w fun e w' => e = .returned (.bool b) ∧ Below w.heap.size w w' := by
  subst h; exact eqRelation_any _ _ _ _ _ _ w

set_option maxHeartbeats 1600000 in
theorem eqRelationS_any (v u : Value) (l m : List Rel) (w : World) (hl : RelsAt w w.heap.size v l) (hm : RelsAt w w.heap.size u m) :
    Calls Tryd.prog 19 #[v, u] w fun e w' => e = .returned (.bool (decide (l = m))) ∧ Below w.heap.size w w' := by
  have HL := Lib.hid hl
  have HM := Lib.hid hm
  obtain ⟨A, c, rfl, hlc, hcm, -⟩ := hl
  obtain ⟨A', c', rfl, hlc', hcm', -⟩ := hm
  unfold maxLen at hcm hcm'
  by_cases hn : l.length = m.length
  · have hnb : ((l.length : Int) != (m.length : Int)) = false := by rw [hn]; simp
    have HN := Lib.hid hn
    clear hn
    go_enter Tryd.func19, Tryd.ntmps19
    go_wp2
    go_loopw [5] (fun i wr => ∃ k : Nat, k ≤ l.length ∧ i = .int .i64 k ∧ Hid (l.take k = m.take k) ∧ Below w.heap.size w wr) (fun i _ => l.length - (intOf i).toNat)
    case atStart => exact ⟨0, by omega, rfl, Lib.hid (by simp), Below.refl _ _⟩
    case round =>
      obtain ⟨k, hk, rfl, HT, hW⟩ := hrel
      have hz := hW.size
      by_cases hlt : k < l.length
      · have hlt' : k < m.length := by have := HN.out; omega
        obtain ⟨b, off, rfl, hb, c0, c1, c2⟩ := RelsAt.elem HL.out k hlt
        obtain ⟨b', off', rfl, hb', d0, d1, d2⟩ := RelsAt.elem HM.out k hlt'
        have HE := Lib.hid (take_eq_next l m k hlt hlt')
        have HF := Lib.hid (fun h => take_eq_not l m k hlt hlt' h)
        generalize l[k] = r at *
        generalize m[k] = r' at *
        have MK := Lib.hid (fun w' (hb1 : Below w.heap.size w w') => (⟨⟨(hb1.cell (p := ⟨b, off + k * 3, none⟩) hb).trans c0, (hb1.cell (p := ⟨b, off + k * 3 + 1, none⟩) hb).trans c1, (hb1.cell (p := ⟨b, off + k * 3 + 2, none⟩) hb).trans c2⟩,
          ⟨(hb1.cell (p := ⟨b', off' + k * 3, none⟩) hb').trans d0, (hb1.cell (p := ⟨b', off' + k * 3 + 1, none⟩) hb').trans d1, (hb1.cell (p := ⟨b', off' + k * 3 + 2, none⟩) hb').trans d2⟩, hb1⟩ : (w'.cell? ⟨b, off + k * 3, none⟩ = some (.string r.name) ∧ w'.cell? ⟨b, off + k * 3 + 1, none⟩ = some (.int .i64 r.arity) ∧ w'.cell? ⟨b, off + k * 3 + 2, none⟩ = some (.bool r.source)) ∧
          (w'.cell? ⟨b', off' + k * 3, none⟩ = some (.string r'.name) ∧ w'.cell? ⟨b', off' + k * 3 + 1, none⟩ = some (.int .i64 r'.arity) ∧ w'.cell? ⟨b', off' + k * 3 + 2, none⟩ = some (.bool r'.source)) ∧ Below w.heap.size w w'))
        clear c0 c1 c2 d0 d1 d2
        cases hd : decide (r = r') with
        | true =>
          have hcon := eqRelation_at r r' true hd
          have HE' := Lib.hid (HE.out (of_decide_eq_true hd) HT.out)
          clear hd
          go_wp2
          go_region_held3 (fun w' => (w'.cell? ⟨b, off + k * 3, none⟩ = some (.string r.name) ∧ w'.cell? ⟨b, off + k * 3 + 1, none⟩ = some (.int .i64 r.arity) ∧ w'.cell? ⟨b, off + k * 3 + 2, none⟩ = some (.bool r.source)) ∧
            (w'.cell? ⟨b', off' + k * 3, none⟩ = some (.string r'.name) ∧ w'.cell? ⟨b', off' + k * 3 + 1, none⟩ = some (.int .i64 r'.arity) ∧ w'.cell? ⟨b', off' + k * 3 + 2, none⟩ = some (.bool r'.source)) ∧ Below w.heap.size w w')
            (first | exact MK.out _ hh | exact MK.out _ hW.drew)
            (first | (go_at_call 35; refine (hcon _).mono ?_; rintro e w1 ⟨rfl, hb1⟩; have hh := (‹(_ ∧ _ ∧ _) ∧ (_ ∧ _ ∧ _) ∧ Below w.heap.size w _›).2.2; replace hh := hh.trans (hb1.mono hh.size)))
          go_wp2
          go_roundw
          case rel => exact ⟨k + 1, by omega, by go_num, HE', hh⟩
          case measure => simp [intOf]; omega
        | false =>
          have hcon := eqRelation_at r r' false hd
          have HE' := Lib.hid (decide_eq_false (HF.out (of_decide_eq_false hd)))
          clear hd
          go_wp2
          go_region_held3 (fun w' => (w'.cell? ⟨b, off + k * 3, none⟩ = some (.string r.name) ∧ w'.cell? ⟨b, off + k * 3 + 1, none⟩ = some (.int .i64 r.arity) ∧ w'.cell? ⟨b, off + k * 3 + 2, none⟩ = some (.bool r.source)) ∧
            (w'.cell? ⟨b', off' + k * 3, none⟩ = some (.string r'.name) ∧ w'.cell? ⟨b', off' + k * 3 + 1, none⟩ = some (.int .i64 r'.arity) ∧ w'.cell? ⟨b', off' + k * 3 + 2, none⟩ = some (.bool r'.source)) ∧ Below w.heap.size w w')
            (first | exact MK.out _ hh | exact MK.out _ hW.drew)
            (first | (go_at_call 35; refine (hcon _).mono ?_; rintro e w1 ⟨rfl, hb1⟩; have hh := (‹(_ ∧ _ ∧ _) ∧ (_ ∧ _ ∧ _) ∧ Below w.heap.size w _›).2.2; replace hh := hh.trans (hb1.mono hh.size)))
          go_wp2
          go_ret
          exact ⟨by rw [HE'.out]; rfl, hh⟩
      · obtain rfl : k = l.length := by omega
        have HE' := Lib.hid (decide_eq_true (show l = m by have := HT.out; rwa [List.take_of_length_le (Nat.le_refl _), List.take_of_length_le (by rw [HN.out]; exact Nat.le_refl _)] at this))
        go_wp2
        go_ret
        exact ⟨by rw [HE'.out]; rfl, hW⟩
  · have hnb : ((l.length : Int) != (m.length : Int)) = true := by rw [bne_iff_ne]; omega
    have HE' := Lib.hid (decide_eq_false (show ¬ l = m by rintro rfl; exact hn rfl))
    clear hn
    go_enter Tryd.func19, Tryd.ntmps19
    go_wp2
    go_ret
    exact ⟨by rw [HE'.out]; rfl, Below.refl _ _⟩

theorem eqRelationS_c (v u : Value) (l : List Rel) (w : World) (h : RelationS_at w w.heap.size v l) (h' : RelationS_at w w.heap.size u l) :
    Calls Tryd.prog 19 #[v, u] w fun e w' => e = .returned (.bool true) ∧ Below w.heap.size w w' := by
  have := eqRelationS_any v u l l w h h'
  rwa [decide_eq_true rfl] at this

set_option maxHeartbeats 400000 in
theorem szRelation_any (s : ByteArray) (a : Int) (b : Bool) (left : Int) (w : World) (hs : s.size ≤ maxLen) (h0 : 0 ≤ left) (h1 : left ≤ 1048576) :
    Calls Tryd.prog 33 #[.agg #[.string s, .int .i64 a, .bool b], .int .i64 left] w fun e w' => e = .returned (.int .i64 (szLeft left s.size)) ∧ Below w.heap.size w w' := by
  unfold maxLen at hs
  unfold szLeft
  by_cases h : (s.size : Int) ≤ left
  · rw [if_pos h]
    go_enter Tryd.func33, Tryd.ntmps33
    go_wp2
    go_ret
    exact ⟨rfl, (Below.refl _ _).alloc (Nat.le_refl _) _⟩
  · rw [if_neg h]
    go_enter Tryd.func33, Tryd.ntmps33
    go_wp2
    go_ret
    exact ⟨rfl, (Below.refl _ _).alloc (Nat.le_refl _) _⟩

set_option maxHeartbeats 800000 in
theorem szRelationS_any (v : Value) (l : List Rel) (left : Int) (w : World) (hl : RelsAt w w.heap.size v l) (hw : RelsWf l) (h0 : 0 ≤ left) (h1 : left ≤ 1048576) :
    Calls Tryd.prog 16 #[v, .int .i64 left] w fun e w' => e = .returned (.int .i64 (szLeft left ((l.length : Int) + (relsLen l : Nat)))) ∧ Below w.heap.size w w' := by
  have HL := Lib.hid hl
  obtain ⟨A, c, rfl, hlc, hcm, -⟩ := hl
  unfold maxLen at hcm
  by_cases hn : (l.length : Int) ≤ left
  · go_enter Tryd.func16, Tryd.ntmps16
    go_wp2
    go_loopw [1, 5] (fun lf i wr => ∃ k : Nat, k ≤ l.length ∧ i = .int .i64 k ∧ lf = .int .i64 (left - l.length - (relsLen (l.take k) : Nat)) ∧ (l.length : Int) + (relsLen (l.take k) : Nat) ≤ left ∧ Below w.heap.size w wr) (fun _ i _ => l.length - (intOf i).toNat)
    case atStart => exact ⟨0, by omega, rfl, by simp [relsLen], by simp [relsLen]; omega, Below.refl _ _⟩
    case round =>
      obtain ⟨k, hk, rfl, rfl, hle, hW⟩ := hrel
      have hz := hW.size
      by_cases hlt : k < l.length
      · obtain ⟨b, off, rfl, hb, c0, c1, c2⟩ := RelsAt.elem (HL.out.below hW (Nat.le_refl _)) k hlt
        have HT := Lib.hid (relsLen_take l k hlt)
        have HLE := Lib.hid (relsLen_le l (k + 1))
        have hs := hw k hlt
        generalize relsLen (l.take k) = q at *
        have hq : 0 ≤ left - l.length - (q : Int) := by omega
        by_cases hfit : (l[k].name.size : Int) ≤ left - l.length - (q : Int)
        · have e1 : szLeft (left - l.length - (q : Int)) (l[k].name.size : Nat) = left - l.length - ((q + l[k].name.size : Nat) : Int) := by rw [szLeft_yes hfit]; omega
          have hsz := fun w => szRelation_any l[k].name l[k].arity l[k].source (left - l.length - (q : Int)) w hs (by omega) (by omega)
          rw [e1] at hsz
          clear e1
          go_wp2_with (go_at_call 33; refine (hsz _).mono ?_; rintro e w1 ⟨rfl, hb1⟩)
          go_roundw
          case rel => exact ⟨k + 1, by omega, by go_num, by rw [HT.out]; go_num, by rw [HT.out]; omega, hW.trans (hb1.mono hz)⟩
          case measure => simp [intOf]; omega
        · have e1 : szLeft (left - l.length - (q : Int)) (l[k].name.size : Nat) = -1 := szLeft_no hfit
          have e2 := Lib.hid (szLeft_no (left := left) (n := (l.length : Int) + (relsLen l : Nat)) (by have := HT.out; have := HLE.out; omega))
          have hsz := fun w => szRelation_any l[k].name l[k].arity l[k].source (left - l.length - (q : Int)) w hs (by omega) (by omega)
          rw [e1] at hsz
          clear e1
          go_wp2_with (go_at_call 33; refine (hsz _).mono ?_; rintro e w1 ⟨rfl, hb1⟩)
          go_ret
          exact ⟨ret_int e2.out.symm, hW.trans (hb1.mono hz)⟩
      · obtain rfl : k = l.length := by omega
        have HT := Lib.hid (congrArg relsLen (List.take_length (l := l)))
        generalize relsLen (l.take l.length) = q at *
        have e2 := Lib.hid (szLeft_yes (left := left) (n := (l.length : Int) + (relsLen l : Nat)) (by have := HT.out; omega))
        go_wp2
        go_ret
        exact ⟨ret_int (by rw [e2.out]; have := HT.out; omega), hW⟩
  · have e2 := Lib.hid (szLeft_no (left := left) (n := (l.length : Int) + (relsLen l : Nat)) (by omega))
    go_enter Tryd.func16, Tryd.ntmps16
    go_wp2
    go_ret
    exact ⟨ret_int e2.out.symm, Below.refl _ _⟩

theorem szRelationS_c (v : Value) (l : List Rel) (left : Int) (w : World) (h : RelationS_at w w.heap.size v l) (hw : RelationS_wf l) (h0 : 0 ≤ left) (h1 : left ≤ 1048576) :
    Calls Tryd.prog 16 #[v, .int .i64 left] w fun e w' => e = .returned (.int .i64 (szLeft left (RelationS_sz l : Nat))) ∧ Below w.heap.size w w' :=
  (szRelationS_any v l left w h hw h0 h1).mono fun _ _ ⟨he, hb⟩ => ⟨by rw [he]; unfold RelationS_sz; rw [Int.natCast_add], hb⟩

set_option maxHeartbeats 400000 in
theorem toRelation_any (s : ByteArray) (a : Int) (b : Bool) (w : World) :
    Calls Tryd.prog 34 #[.agg #[.string s, .int .i64 a, .bool b]] w fun e w' => e = .returned (.agg #[.string s, .int .i64 a, .bool b]) ∧ Below w.heap.size w w' := by
  go_enter Tryd.func34, Tryd.ntmps34
  go_wp2
  exact bodyPost_ret (v := .agg #[.string s, .int .i64 a, .bool b]) (by simp [results, Tryd.results34, go_sem]) rfl ⟨rfl, below_more (below_more (below_more (Below.refl _ _) _) _) _⟩

/-- a fresh slice of relations that reads as l -/
def GivesRels (l : List Rel) (w : World) (e : Ending) (w' : World) : Prop := ∃ v, e = .returned v ∧ OwnRels w.heap.size v l w' ∧ Below w.heap.size w w'
theorem take_zero_set (l : List Rel) (k : Nat) (h : k < l.length) : (l.take k ++ List.replicate (l.length - k) zeroRel).set k l[k] = l.take (k + 1) ++ List.replicate (l.length - (k + 1)) zeroRel := by
  rw [List.set_append_right _ _ (by simp; omega), List.length_take_of_le (by omega), Nat.sub_self, List.take_succ_eq_append_getElem h, show l.length - k = (l.length - (k + 1)) + 1 by omega, List.replicate_succ, List.set_cons_zero, List.append_assoc]
  rfl
set_option maxHeartbeats 800000 in
theorem toRelationS_any (v : Value) (l : List Rel) (w : World) (hl : RelsAt w w.heap.size v l) (hn : l.length ≤ 1048576) :
    Calls Tryd.prog 18 #[v] w (GivesRels l w) := by
  have HL := Lib.hid hl
  obtain ⟨A, c, rfl, hlc, hcm, -⟩ := hl
  unfold maxLen at hcm
  have hmk := fun w => make_rels w l.length hn
  go_enter Tryd.func18, Tryd.ntmps18
  go_wp2
  clear hmk
  go_loopw [4] (fun i wr => ∃ k : Nat, k ≤ l.length ∧ i = .int .i64 k ∧ OwnRels w.heap.size (.slice (some ⟨w.heap.size, 0, none⟩) l.length l.length) (l.take k ++ List.replicate (l.length - k) zeroRel) wr ∧ Below w.heap.size w wr) (fun i _ => l.length - (intOf i).toNat)
  case atStart => exact ⟨0, by omega, rfl, OwnRels.made w _ hn _ (Nat.le_refl _), (Below.refl _ _).alloc (Nat.le_refl _) _⟩
  case round =>
    obtain ⟨k, hk, rfl, hO, hW⟩ := hrel
    have hz := hW.size
    by_cases hlt : k < l.length
    · obtain ⟨b, off, rfl, hb, c0, c1, c2⟩ := RelsAt.elem (HL.out.below hW (Nat.le_refl _)) k hlt
      have hO1 := fun w1 (hb1 : Below wr.heap.size wr w1) => hO.below hb1 (Nat.le_refl _)
      have hlen : (l.take k ++ List.replicate (l.length - k) zeroRel).length = l.length := by simp; omega
      have HLen := Lib.hid hlen
      have hkl : k < (l.take k ++ List.replicate (l.length - k) zeroRel).length := by omega
      clear hlen
      go_wp2_with (go_at_call 34; refine (toRelation_any _ _ _ _).mono ?_; rintro e w1 ⟨rfl, hb1⟩; obtain ⟨d0, d1, d2⟩ := (hO1 w1 hb1).cells HLen.out k hkl; have hfz := (hO1 w1 hb1).frozen HLen.out)
      go_roundw
      case rel => exact ⟨k + 1, by omega, by go_num, by rw [← take_zero_set l k hlt]; exact (hO1 w1 hb1).set HLen.out k hlt l[k], (((hW.trans (hb1.mono hz)).setCell (Nat.le_refl _) _).setCell (Nat.le_refl _) _).setCell (Nat.le_refl _) _⟩
      case measure => simp [intOf]; omega
    · obtain rfl : k = l.length := by omega
      have hO' : OwnRels w.heap.size (.slice (some ⟨w.heap.size, 0, none⟩) l.length l.length) l wr := by simpa using hO
      clear hO
      go_wp2
      go_ret
      exact ⟨_, rfl, hO', hW⟩

theorem toRelationS_c (v : Value) (l : List Rel) (w : World) (h : RelationS_at w w.heap.size v l) (hn : RelationS_sz l ≤ 1048576) :
    Calls Tryd.prog 18 #[v] w fun e w' => ∃ u, e = .returned u ∧ RelationS_own w.heap.size w'.heap.size u l w' ∧ Below w.heap.size w w' :=
  (toRelationS_any v l w h (by unfold RelationS_sz at hn; omega)).mono fun _ _ ⟨u, he, ho, hb⟩ => ⟨u, he, RelationS_own.of ho, hb⟩

set_option maxHeartbeats 800000 in
theorem specIsValidRelation_any (s : ByteArray) (a : Int) (b : Bool) (w : World) :
    Calls Tryd.prog 47 #[.agg #[.string s, .int .i64 a, .bool b]] w fun e w' => e = .returned (.bool (relOk s a)) ∧ Below w.heap.size w w' := by
  by_cases h1 : s.size = 1
  · have h0 : 0 < s.size := by omega
    have HN := Lib.hid (nameOk_one s h1)
    by_cases h2 : (97 : Int) ≤ ((s[0].toNat : Nat) : Int)
    · by_cases h3 : ((s[0].toNat : Nat) : Int) ≤ 122
      · have hr : Hid (relOk s a = inB a 1 3) := Lib.hid (by unfold relOk; rw [HN.out]; simp [h2, h3])
        go_enter Tryd.func47, Tryd.ntmps47
        go_wp2_with (go_at_call 31; refine (l1In_any _ _ _ _).mono ?_; rintro e w' ⟨rfl, rfl⟩)
        go_ret
        refine ⟨?_, (Below.refl _ _).alloc (Nat.le_refl _) _⟩
        rw [hr.out]; rfl
      · have hr : Hid (relOk s a = false) := Lib.hid (by unfold relOk; rw [HN.out]; simp [h2, h3])
        go_enter Tryd.func47, Tryd.ntmps47
        go_wp2
        go_ret
        refine ⟨?_, (Below.refl _ _).alloc (Nat.le_refl _) _⟩
        rw [hr.out]; rfl
    · have hr : Hid (relOk s a = false) := Lib.hid (by unfold relOk; rw [HN.out]; simp [h2])
      go_enter Tryd.func47, Tryd.ntmps47
      go_wp2
      go_ret
      refine ⟨?_, (Below.refl _ _).alloc (Nat.le_refl _) _⟩
      rw [hr.out]; rfl
  · have hr : Hid (relOk s a = false) := Lib.hid (by unfold relOk; rw [nameOk_ne s h1]; rfl)
    go_enter Tryd.func47, Tryd.ntmps47
    go_wp2
    go_ret
    refine ⟨?_, (Below.refl _ _).alloc (Nat.le_refl _) _⟩
    rw [hr.out]; rfl

set_option maxHeartbeats 400000 in
theorem isRelationName_any (s : ByteArray) (w : World) :
    Calls Tryd.prog 50 #[.string s] w fun e w' => e = .returned (.bool (nameOk s)) ∧ w = w' := by
  by_cases h1 : s.size = 1
  · have hN := nameOk_one s h1
    generalize nameOk s = N at hN
    have h0 : 0 < s.size := by omega
    by_cases h2 : (97 : Int) ≤ ((s[0].toNat : Nat) : Int)
    all_goals
      have HN := Lib.hid hN
      clear hN
      go_enter Tryd.func50, Tryd.ntmps50
      go_wp2
      go_ret
      rw [HN.out]
      first | rfl | (simp [*]; done) | (simp; omega)
  · rw [nameOk_ne s h1]
    go_enter Tryd.func50, Tryd.ntmps50
    go_wp2
    go_ret
    exact ⟨rfl, rfl⟩

set_option maxHeartbeats 400000 in
theorem implIsValidRelation_any (s : ByteArray) (a : Int) (b : Bool) (w : World) :
    Calls Tryd.prog 39 #[.agg #[.string s, .int .i64 a, .bool b]] w fun e w' => e = .returned (.bool (relOk s a)) ∧ Below w.heap.size w w' := by
  unfold relOk inB
  cases hn : nameOk s
  · go_enter Tryd.func39, Tryd.ntmps39
    go_wp2_with (go_at_call 50; refine (isRelationName_any _ _).mono ?_; rintro e w' ⟨rfl, rfl⟩)
    go_ret
    exact ⟨rfl, (Below.refl _ _).alloc (Nat.le_refl _) _⟩
  · by_cases h1 : 1 ≤ a
    all_goals
      go_enter Tryd.func39, Tryd.ntmps39
      go_wp2_with (go_at_call 50; refine (isRelationName_any _ _).mono ?_; rintro e w' ⟨rfl, rfl⟩)
      go_ret
      refine ⟨?_, (Below.refl _ _).alloc (Nat.le_refl _) _⟩
      first | rfl | (simp [*]; done) | (simp; omega) | trace_state

end Go.Proofs.YtakflmaeclneiaaDoor
