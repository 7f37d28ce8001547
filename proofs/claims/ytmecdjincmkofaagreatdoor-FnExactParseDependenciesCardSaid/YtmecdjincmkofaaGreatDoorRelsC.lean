/-
  Walks and plain lemmas for the laws of this seat: what single Go functions return, for every argument.
-/
import Derived.Deep.RegionHeld3
import Derived.Lib.SplitLaws
import Derived.Lib.Join
import Derived.Test.YtmecdjincmkofaaGreatDoorBase
import Derived.Test.YtmecdjincmkofaaGreatDoorInts
import Derived.Test.YtmecdjincmkofaaGreatDoorRel
import Derived.Test.YtmecdjincmkofaaGreatDoorRels
namespace Go.Proofs.YtmecdjincmkofaaGreatDoor
open Go.RowKit

set_option maxHeartbeats 800000 in
theorem eqRelation_any (s t : ByteArray) (a c : Int) (b d : Bool) (w : World) :
    Calls Tryz.prog 128 #[.agg #[.string s, .int .i64 a, .bool b], .agg #[.string t, .int .i64 c, .bool d]] w fun e w' => e = .returned (.bool (decide (Rel.mk s a b = Rel.mk t c d))) ∧ Below w.heap.size w w' := by
  by_cases h0 : s = t
  · by_cases h1 : a = c
    · have h2 : decide (Rel.mk s a b = Rel.mk t c d) = (b == d) := by subst h0 h1; cases b <;> cases d <;> simp
      rw [h2]
      subst h0 h1
      cases b <;> cases d
      all_goals
        go_enter Tryz.func128, Tryz.ntmps128
        go_wp2
        go_ret
        exact ⟨rfl, below_more (below_more (Below.refl _ _) _) _⟩
    · have h2 : decide (Rel.mk s a b = Rel.mk t c d) = false := by simp [h1]
      rw [h2]
      subst h0
      have h3 : (a != c) = true := bne_iff_ne.2 h1
      clear h2
      go_enter Tryz.func128, Tryz.ntmps128
      go_wp2
      go_ret
      exact ⟨rfl, below_more (below_more (Below.refl _ _) _) _⟩
  · have h2 : decide (Rel.mk s a b = Rel.mk t c d) = false := by simp [h0]
    rw [h2]
    have h3 := str_ne h0
    clear h2
    go_enter Tryz.func128, Tryz.ntmps128
    go_wp2
    go_ret
    exact ⟨rfl, below_more (below_more (Below.refl _ _) _) _⟩
theorem eqRelation_at (r r' : Rel) (b : Bool) (h : decide (r = r') = b) (w : World) :
    Calls Tryz.prog 128 #[.agg #[.string r.name, .int .i64 r.arity, .bool r.source], .agg #[.string r'.name, .int .i64 r'.arity, .bool r'.source]] w fun e w' => e = .returned (.bool b) ∧ Below w.heap.size w w' := by
  subst h; exact eqRelation_any _ _ _ _ _ _ w

set_option maxHeartbeats 1600000 in
theorem eqRelationS_any (v u : Value) (l m : List Rel) (w : World) (hl : RelsAt w w.heap.size v l) (hm : RelsAt w w.heap.size u m) :
    Calls Tryz.prog 49 #[v, u] w fun e w' => e = .returned (.bool (decide (l = m))) ∧ Below w.heap.size w w' := by
  have HL := Lib.hid hl
  have HM := Lib.hid hm
  obtain ⟨A, c, rfl, hlc, hcm, -⟩ := hl
  obtain ⟨A', c', rfl, hlc', hcm', -⟩ := hm
  unfold maxLen at hcm hcm'
  by_cases hn : l.length = m.length
  · have hnb : ((l.length : Int) != (m.length : Int)) = false := by rw [hn]; simp
    have HN := Lib.hid hn
    clear hn
    go_enter Tryz.func49, Tryz.ntmps49
    go_wp2
    go_loopw [5] (fun i wr => ∃ k : Nat, k ≤ l.length ∧ i = .int .i64 k ∧ Hid (l.take k = m.take k) ∧ Below w.heap.size w wr) (fun i _ => l.length - (intOf i).toNat)
    case atStart => exact ⟨0, by omega, rfl, Lib.hid (by simp), Below.refl _ _⟩
    case round =>
      obtain ⟨k, hk, rfl, HT, hW⟩ := hrel
      have hz := hW.size
      by_cases hlt : k < l.length
      · have hlt' : k < m.length := by have := HN.out; omega
        obtain ⟨b, off, rfl, hb, c0, c1, c2⟩ := RelsAt.elem HL.out k hlt
        obtain ⟨b', off', rfl, hb', d0, d1, d2⟩ := RelsAt.elem HM.out k hlt'
        have HE := Lib.hid (take_eq_next l m k hlt hlt')
        have HF := Lib.hid (fun h => take_eq_not l m k hlt hlt' h)
        generalize l[k] = r at *
        generalize m[k] = r' at *
        have MK := Lib.hid (fun w' (hb1 : Below w.heap.size w w') => (⟨⟨(hb1.cell (p := ⟨b, off + k * 3, none⟩) hb).trans c0, (hb1.cell (p := ⟨b, off + k * 3 + 1, none⟩) hb).trans c1, (hb1.cell (p := ⟨b, off + k * 3 + 2, none⟩) hb).trans c2⟩,
          ⟨(hb1.cell (p := ⟨b', off' + k * 3, none⟩) hb').trans d0, (hb1.cell (p := ⟨b', off' + k * 3 + 1, none⟩) hb').trans d1, (hb1.cell (p := ⟨b', off' + k * 3 + 2, none⟩) hb').trans d2⟩, hb1⟩ : (w'.cell? ⟨b, off + k * 3, none⟩ = some (.string r.name) ∧ w'.cell? ⟨b, off + k * 3 + 1, none⟩ = some (.int .i64 r.arity) ∧ w'.cell? ⟨b, off + k * 3 + 2, none⟩ = some (.bool r.source)) ∧
          (w'.cell? ⟨b', off' + k * 3, none⟩ = some (.string r'.name) ∧ w'.cell? ⟨b', off' + k * 3 + 1, none⟩ = some (.int .i64 r'.arity) ∧ w'.cell? ⟨b', off' + k * 3 + 2, none⟩ = some (.bool r'.source)) ∧ Below w.heap.size w w'))
        clear c0 c1 c2 d0 d1 d2
        cases hd : decide (r = r') with
        | true =>
          have hcon := eqRelation_at r r' true hd
          have HE' := Lib.hid (HE.out (of_decide_eq_true hd) HT.out)
          clear hd
          go_wp2
          go_region_held3 (fun w' => (w'.cell? ⟨b, off + k * 3, none⟩ = some (.string r.name) ∧ w'.cell? ⟨b, off + k * 3 + 1, none⟩ = some (.int .i64 r.arity) ∧ w'.cell? ⟨b, off + k * 3 + 2, none⟩ = some (.bool r.source)) ∧
            (w'.cell? ⟨b', off' + k * 3, none⟩ = some (.string r'.name) ∧ w'.cell? ⟨b', off' + k * 3 + 1, none⟩ = some (.int .i64 r'.arity) ∧ w'.cell? ⟨b', off' + k * 3 + 2, none⟩ = some (.bool r'.source)) ∧ Below w.heap.size w w')
            (first | exact MK.out _ hh | exact MK.out _ hW.drew)
            (first | (go_at_call 128; refine (hcon _).mono ?_; rintro e w1 ⟨rfl, hb1⟩; have hh := (‹(_ ∧ _ ∧ _) ∧ (_ ∧ _ ∧ _) ∧ Below w.heap.size w _›).2.2; replace hh := hh.trans (hb1.mono hh.size)))
          go_wp2
          go_roundw
          case rel => exact ⟨k + 1, by omega, by go_num, HE', hh⟩
          case measure => simp [intOf]; omega
        | false =>
          have hcon := eqRelation_at r r' false hd
          have HE' := Lib.hid (decide_eq_false (HF.out (of_decide_eq_false hd)))
          clear hd
          go_wp2
          go_region_held3 (fun w' => (w'.cell? ⟨b, off + k * 3, none⟩ = some (.string r.name) ∧ w'.cell? ⟨b, off + k * 3 + 1, none⟩ = some (.int .i64 r.arity) ∧ w'.cell? ⟨b, off + k * 3 + 2, none⟩ = some (.bool r.source)) ∧
            (w'.cell? ⟨b', off' + k * 3, none⟩ = some (.string r'.name) ∧ w'.cell? ⟨b', off' + k * 3 + 1, none⟩ = some (.int .i64 r'.arity) ∧ w'.cell? ⟨b', off' + k * 3 + 2, none⟩ = some (.bool r'.source)) ∧ Below w.heap.size w w')
            (first | exact MK.out _ hh | exact MK.out _ hW.drew)
            (first | (go_at_call 128; refine (hcon _).mono ?_; rintro e w1 ⟨rfl, hb1⟩; have hh := (‹(_ ∧ _ ∧ _) ∧ (_ ∧ _ ∧ _) ∧ Below w.heap.size w _›).2.2; replace hh := hh.trans (hb1.mono hh.size)))
          go_wp2
          go_ret
          exact ⟨by rw [HE'.out]; rfl, hh⟩
      · obtain rfl : k = l.length := by omega
        have HE' := Lib.hid (decide_eq_true (show l = m by have := HT.out; rwa [List.take_of_length_le (Nat.le_refl _), List.take_of_length_le (by rw [HN.out]; exact Nat.le_refl _)] at this))
        go_wp2
        go_ret
        exact ⟨by rw [HE'.out]; rfl, hW⟩
  · have hnb : ((l.length : Int) != (m.length : Int)) = true := by rw [bne_iff_ne]; omega
    have HE' := Lib.hid (decide_eq_false (show ¬ l = m by rintro rfl; exact hn rfl))
    clear hn
    go_enter Tryz.func49, Tryz.ntmps49
    go_wp2
    go_ret
    exact ⟨by rw [HE'.out]; rfl, Below.refl _ _⟩

theorem eqRelationS_c (v u : Value) (l : List Rel) (w : World) (h : RelationS_at w w.heap.size v l) (h' : RelationS_at w w.heap.size u l) :
    Calls Tryz.prog 49 #[v, u] w fun e w' => e = .returned (.bool true) ∧ Below w.heap.size w w' := by
  have := eqRelationS_any v u l l w h h'
  rwa [decide_eq_true rfl] at this

def mText (n : Nat) : ByteArray := (⟨#[109]⟩ : ByteArray) ++ ⟨(Lib.decDigits n).toArray⟩
set_option maxHeartbeats 1600000 in
set_option maxRecDepth 100000 in
theorem markText_any (n : Nat) (w : World) (h0 : 1 ≤ n) (hn : n ≤ 9223372036854775807) :
    Calls Tryz.prog 129 #[.int .i64 (n : Int)] w fun e w' => e = .returned (.string (mText n)) ∧ Below w.heap.size w w' := by
  have hdl := dd_len n (by omega)
  have h1 : ByteArray.size ⟨#[109]⟩ = 1 := rfl
  go_enter Tryz.func129, Tryz.ntmps129
  go_wp2
  go_loopw [0, 3] (fun x o wr => ∃ m : Nat, ∃ ob : ByteArray, m ≤ n ∧ x = .int .i64 (m : Int) ∧ o = .string ob ∧ DigInv n m ob ∧ Below w.heap.size w wr) (fun x _ _ => (intOf x).toNat)
  case atStart => exact ⟨n, ⟨#[]⟩, by omega, rfl, rfl, DigInv.zero n (by omega), Below.refl _ _⟩
  case round =>
    obtain ⟨m, ob, hm, rfl, rfl, hI, hW⟩ := hrel
    have hz := hW.size
    have hsz := hI.2
    by_cases hm0 : 0 < m
    · have hI' := hI.step hm0 (by omega)
      have hc := conv_one wr (48 + (m : Int) % 10) (by omega) (by omega)
      have hs1 : ByteArray.size ⟨#[byteI (48 + (m : Int) % 10)]⟩ = 1 := rfl
      go_wp2
      go_roundw
      case rel => exact ⟨m / 10, _, by omega, by go_num, rfl, hI', hW.trans ((Below.refl _ _).alloc hz _)⟩
      case measure => simp [intOf]; omega
    · obtain rfl : m = 0 := by omega
      have HD := Lib.hid hI.done
      go_wp2
      go_ret
      exact ⟨ret_str (by rw [HD.out]; rfl), hW⟩

def markRel (k : Nat) : Rel := ⟨mText k, ((k + 1 : Nat) : Int), decide ((k + 2) % 3 = 0)⟩
def markRels (k n : Nat) : List Rel := (List.range n).map fun i => markRel (k + 3 * i)
theorem markRels_len (k n : Nat) : (markRels k n).length = n := by simp [markRels]
theorem markRels_at (k n i : Nat) (h : i < (markRels k n).length) : (markRels k n)[i] = markRel (k + 3 * i) := by simp [markRels]
theorem markRels_succ (k n : Nat) : markRels k (n + 1) = markRels k n ++ [markRel (k + 3 * n)] := by simp [markRels, List.range_succ]
theorem mark_set (l : List Rel) (k i : Nat) (h : i < l.length) : (markRels k i ++ l.drop i).set i (markRel (k + 3 * i)) = markRels k (i + 1) ++ l.drop (i + 1) := by
  rw [List.set_append_right _ _ (by rw [markRels_len]; exact Nat.le_refl _), markRels_len, Nat.sub_self, List.drop_eq_getElem_cons h, List.set_cons_zero, markRels_succ, List.append_assoc]
  rfl

set_option maxHeartbeats 1600000 in
set_option maxRecDepth 100000 in
theorem markRelationS_chg (B : Nat) (v : Value) (l : List Rel) (k : Nat) (w : World) (hO : OwnRels B v l w) (hn : l.length ≤ 1048576) (hk : 1 ≤ k) (hk2 : k ≤ 1000000000) :
    Calls Tryz.prog 50 #[v, .int .i64 (k : Int)] w fun e w' => e = .returned (.int .i64 ((k : Int) + 3 * (l.length : Nat))) ∧ OwnRels B v (markRels k l.length) w' ∧ Chg (fun g => v.ownBlock = some g) w w' := by
  obtain ⟨A, c, rfl, hc1, hc2, -⟩ := hO.at_
  unfold maxLen at hc2
  go_enter Tryz.func50, Tryz.ntmps50
  go_wp2
  go_loopw [1, 5] (fun x j wr => ∃ i : Nat, i ≤ l.length ∧ j = .int .i64 (i : Int) ∧ x = .int .i64 ((k : Int) + 3 * (i : Int)) ∧ OwnRels B (.slice A l.length c) (markRels k i ++ l.drop i) wr ∧ Chg (fun g => (Value.slice A l.length c).ownBlock = some g) w wr) (fun _ j _ => l.length - (intOf j).toNat)
  case atStart => exact ⟨0, by omega, rfl, by go_num, hO, Chg.refl _ _⟩
  case round =>
    obtain ⟨i, hi, rfl, rfl, hO1, hW⟩ := hrel
    by_cases hlt : i < l.length
    · have hlen : (markRels k i ++ l.drop i).length = l.length := by rw [List.length_append, markRels_len, List.length_drop]; omega
      obtain ⟨g, cap, hv, hg0, hg1⟩ := World.ownsRow.form hO1 (by omega)
      simp only [Value.slice.injEq] at hv
      obtain ⟨rfl, hv1, rfl⟩ := hv
      clear hv1
      have hcon := markText_any (k + 3 * i) wr (by omega) (by omega)
      have HM := Lib.hid (mark_set l k i hlt)
      have HLen := Lib.hid hlen
      have hkl : i < (markRels k i ++ l.drop i).length := by omega
      have hx : ((k + 3 * i : Nat) : Int) = (k : Int) + 3 * (i : Int) := by omega
      rw [hx] at hcon
      have h2 : ((((k : Int) + 3 * (i : Int) + 1 + 1) % 3) == 0) = decide ((k + 3 * i + 2) % 3 = 0) := by
        rw [Bool.eq_iff_iff, beq_iff_eq, decide_eq_true_eq]; omega
      clear hlen hx
      go_wp2_with fail
      refine hcon.mono ?_
      rintro e w1 ⟨rfl, hb1⟩
      have hO2 := hO1.below hb1 (Nat.le_refl _)
      obtain ⟨d0, d1, d2⟩ := hO2.cells HLen.out i hkl
      have hfz := hO2.frozen HLen.out
      go_wp2
      have hS := hO2.set HLen.out i hlt (markRel (k + 3 * i))
      rw [show (markRel (k + 3 * i)).arity = (k : Int) + 3 * (i : Int) + 1 from by show ((k + 3 * i + 1 : Nat) : Int) = _; omega, HM.out] at hS
      have hBS := (((hW.trans (Chg.of_below hb1)).setCell (p := ⟨g, i * 3, none⟩) rfl (.string (mText (k + 3 * i)))).setCell (p := ⟨g, i * 3 + 1, none⟩) rfl (.int .i64 ((k : Int) + 3 * (i : Int) + 1))).setCell (p := ⟨g, i * 3 + 2, none⟩) rfl (.bool (decide ((k + 3 * i + 2) % 3 = 0)))
      go_roundw
      case rel => exact ⟨i + 1, by omega, by go_num, by go_num, hS, hBS⟩
      case measure => simp [intOf]; omega
    · obtain rfl : i = l.length := by omega
      have hO' : OwnRels B (.slice A l.length c) (markRels k l.length) wr := by simpa using hO1
      clear hO1
      go_wp2
      go_ret
      exact ⟨rfl, hO', hW⟩
theorem markRelationS_any (B : Nat) (v : Value) (l : List Rel) (k : Nat) (w : World) (hO : OwnRels B v l w) (hB : B ≤ w.heap.size) (hn : l.length ≤ 1048576) (hk : 1 ≤ k) (hk2 : k ≤ 1000000000) :
    Calls Tryz.prog 50 #[v, .int .i64 (k : Int)] w fun e w' => e = .returned (.int .i64 ((k : Int) + 3 * (l.length : Nat))) ∧ OwnRels B v (markRels k l.length) w' ∧ Below B w w' :=
  (markRelationS_chg B v l k w hO hn hk hk2).mono fun _ _ ⟨he, ho, hc⟩ => ⟨he, ho, hc.below (fun g hg => (hO.lt g hg).1) hB⟩

def RelationS_mk (k : Nat) (l : List Rel) : List Rel := markRels k l.length
theorem markRelationS_c (B C : Nat) (v : Value) (l : List Rel) (k : Nat) (w : World) (h : RelationS_own B C v l w) (hn : RelationS_sz l ≤ 1048576) (hk0 : 1 ≤ k) (hk : k ≤ 1000000000) :
    Calls Tryz.prog 50 #[v, .int .i64 (k : Int)] w fun e w' => e = .returned (.int .i64 ((k + RelationS_cnt l : Nat) : Int)) ∧ RelationS_own B C v (RelationS_mk k l) w' ∧ Chg (Mid B C) w w' :=
  (markRelationS_chg B v l k w h.1 (by unfold RelationS_sz at hn; omega) hk0 hk).mono fun _ _ ⟨he, ho, hc⟩ => ⟨by rw [he]; rfl, ⟨ho, h.2⟩, hc.mono fun g hg => ⟨(h.1.lt g hg).1, h.2 g hg⟩⟩

set_option maxHeartbeats 400000 in
theorem szRelation_any (s : ByteArray) (a : Int) (b : Bool) (left : Int) (w : World) (hs : s.size ≤ maxLen) (h0 : 0 ≤ left) (h1 : left ≤ 1048576) :
    Calls Tryz.prog 120 #[.agg #[.string s, .int .i64 a, .bool b], .int .i64 left] w fun e w' => e = .returned (.int .i64 (szLeft left s.size)) ∧ Below w.heap.size w w' := by
  unfold maxLen at hs
  unfold szLeft
  by_cases h : (s.size : Int) ≤ left
  · rw [if_pos h]
    go_enter Tryz.func120, Tryz.ntmps120
    go_wp2
    go_ret
    exact ⟨rfl, (Below.refl _ _).alloc (Nat.le_refl _) _⟩
  · rw [if_neg h]
    go_enter Tryz.func120, Tryz.ntmps120
    go_wp2
    go_ret
    exact ⟨rfl, (Below.refl _ _).alloc (Nat.le_refl _) _⟩

set_option maxHeartbeats 800000 in
theorem szRelationS_any (v : Value) (l : List Rel) (left : Int) (w : World) (hl : RelsAt w w.heap.size v l) (hw : RelsWf l) (h0 : 0 ≤ left) (h1 : left ≤ 1048576) :
    Calls Tryz.prog 44 #[v, .int .i64 left] w fun e w' => e = .returned (.int .i64 (szLeft left ((l.length : Int) + (relsLen l : Nat)))) ∧ Below w.heap.size w w' := by
  have HL := Lib.hid hl
  obtain ⟨A, c, rfl, hlc, hcm, -⟩ := hl
  unfold maxLen at hcm
  by_cases hn : (l.length : Int) ≤ left
  · go_enter Tryz.func44, Tryz.ntmps44
    go_wp2
    go_loopw [1, 5] (fun lf i wr => ∃ k : Nat, k ≤ l.length ∧ i = .int .i64 k ∧ lf = .int .i64 (left - l.length - (relsLen (l.take k) : Nat)) ∧ (l.length : Int) + (relsLen (l.take k) : Nat) ≤ left ∧ Below w.heap.size w wr) (fun _ i _ => l.length - (intOf i).toNat)
    case atStart => exact ⟨0, by omega, rfl, by simp [relsLen], by simp [relsLen]; omega, Below.refl _ _⟩
    case round =>
      obtain ⟨k, hk, rfl, rfl, hle, hW⟩ := hrel
      have hz := hW.size
      by_cases hlt : k < l.length
      · obtain ⟨b, off, rfl, hb, c0, c1, c2⟩ := RelsAt.elem (HL.out.below hW (Nat.le_refl _)) k hlt
        have HT := Lib.hid (relsLen_take l k hlt)
        have HLE := Lib.hid (relsLen_le l (k + 1))
        have hs := hw k hlt
        generalize relsLen (l.take k) = q at *
        have hq : 0 ≤ left - l.length - (q : Int) := by omega
        by_cases hfit : (l[k].name.size : Int) ≤ left - l.length - (q : Int)
        · have e1 : szLeft (left - l.length - (q : Int)) (l[k].name.size : Nat) = left - l.length - ((q + l[k].name.size : Nat) : Int) := by rw [szLeft_yes hfit]; omega
          have hsz := fun w => szRelation_any l[k].name l[k].arity l[k].source (left - l.length - (q : Int)) w hs (by omega) (by omega)
          rw [e1] at hsz
          clear e1
          go_wp2_with (go_at_call 120; refine (hsz _).mono ?_; rintro e w1 ⟨rfl, hb1⟩)
          go_roundw
          case rel => exact ⟨k + 1, by omega, by go_num, by rw [HT.out]; go_num, by rw [HT.out]; omega, hW.trans (hb1.mono hz)⟩
          case measure => simp [intOf]; omega
        · have e1 : szLeft (left - l.length - (q : Int)) (l[k].name.size : Nat) = -1 := szLeft_no hfit
          have e2 := Lib.hid (szLeft_no (left := left) (n := (l.length : Int) + (relsLen l : Nat)) (by have := HT.out; have := HLE.out; omega))
          have hsz := fun w => szRelation_any l[k].name l[k].arity l[k].source (left - l.length - (q : Int)) w hs (by omega) (by omega)
          rw [e1] at hsz
          clear e1
          go_wp2_with (go_at_call 120; refine (hsz _).mono ?_; rintro e w1 ⟨rfl, hb1⟩)
          go_ret
          exact ⟨ret_int e2.out.symm, hW.trans (hb1.mono hz)⟩
      · obtain rfl : k = l.length := by omega
        have HT := Lib.hid (congrArg relsLen (List.take_length (l := l)))
        generalize relsLen (l.take l.length) = q at *
        have e2 := Lib.hid (szLeft_yes (left := left) (n := (l.length : Int) + (relsLen l : Nat)) (by have := HT.out; omega))
        go_wp2
        go_ret
        exact ⟨ret_int (by rw [e2.out]; have := HT.out; omega), hW⟩
  · have e2 := Lib.hid (szLeft_no (left := left) (n := (l.length : Int) + (relsLen l : Nat)) (by omega))
    go_enter Tryz.func44, Tryz.ntmps44
    go_wp2
    go_ret
    exact ⟨ret_int e2.out.symm, Below.refl _ _⟩

theorem szRelationS_c (v : Value) (l : List Rel) (left : Int) (w : World) (h : RelationS_at w w.heap.size v l) (hw : RelationS_wf l) (h0 : 0 ≤ left) (h1 : left ≤ 1048576) :
    Calls Tryz.prog 44 #[v, .int .i64 left] w fun e w' => e = .returned (.int .i64 (szLeft left (RelationS_sz l : Nat))) ∧ Below w.heap.size w w' :=
  (szRelationS_any v l left w h hw h0 h1).mono fun _ _ ⟨he, hb⟩ => ⟨by rw [he]; unfold RelationS_sz; rw [Int.natCast_add], hb⟩

set_option maxHeartbeats 400000 in
theorem toRelation_any (s : ByteArray) (a : Int) (b : Bool) (w : World) :
    Calls Tryz.prog 124 #[.agg #[.string s, .int .i64 a, .bool b]] w fun e w' => e = .returned (.agg #[.string s, .int .i64 a, .bool b]) ∧ Below w.heap.size w w' := by
  go_enter Tryz.func124, Tryz.ntmps124
  go_wp2
  exact bodyPost_ret (v := .agg #[.string s, .int .i64 a, .bool b]) (by simp [results, Tryz.results124, go_sem]) rfl ⟨rfl, below_more (below_more (below_more (Below.refl _ _) _) _) _⟩

/-- a fresh slice of relations that reads as l -/
def GivesRels (l : List Rel) (w : World) (e : Ending) (w' : World) : Prop := ∃ v, e = .returned v ∧ OwnRels w.heap.size v l w' ∧ Below w.heap.size w w'
theorem take_zero_set (l : List Rel) (k : Nat) (h : k < l.length) : (l.take k ++ List.replicate (l.length - k) zeroRel).set k l[k] = l.take (k + 1) ++ List.replicate (l.length - (k + 1)) zeroRel := by
  rw [List.set_append_right _ _ (by simp; omega), List.length_take_of_le (by omega), Nat.sub_self, List.take_succ_eq_append_getElem h, show l.length - k = (l.length - (k + 1)) + 1 by omega, List.replicate_succ, List.set_cons_zero, List.append_assoc]
  rfl
set_option maxHeartbeats 800000 in
theorem toRelationS_any (v : Value) (l : List Rel) (w : World) (hl : RelsAt w w.heap.size v l) (hn : l.length ≤ 1048576) :
    Calls Tryz.prog 46 #[v] w (GivesRels l w) := by
  have HL := Lib.hid hl
  obtain ⟨A, c, rfl, hlc, hcm, -⟩ := hl
  unfold maxLen at hcm
  have hmk := fun w => make_rels w l.length hn
  go_enter Tryz.func46, Tryz.ntmps46
  go_wp2
  clear hmk
  go_loopw [4] (fun i wr => ∃ k : Nat, k ≤ l.length ∧ i = .int .i64 k ∧ OwnRels w.heap.size (.slice (some ⟨w.heap.size, 0, none⟩) l.length l.length) (l.take k ++ List.replicate (l.length - k) zeroRel) wr ∧ Below w.heap.size w wr) (fun i _ => l.length - (intOf i).toNat)
  case atStart => exact ⟨0, by omega, rfl, OwnRels.made w _ hn _ (Nat.le_refl _), (Below.refl _ _).alloc (Nat.le_refl _) _⟩
  case round =>
    obtain ⟨k, hk, rfl, hO, hW⟩ := hrel
    have hz := hW.size
    by_cases hlt : k < l.length
    · obtain ⟨b, off, rfl, hb, c0, c1, c2⟩ := RelsAt.elem (HL.out.below hW (Nat.le_refl _)) k hlt
      have hO1 := fun w1 (hb1 : Below wr.heap.size wr w1) => hO.below hb1 (Nat.le_refl _)
      have hlen : (l.take k ++ List.replicate (l.length - k) zeroRel).length = l.length := by simp; omega
      have HLen := Lib.hid hlen
      have hkl : k < (l.take k ++ List.replicate (l.length - k) zeroRel).length := by omega
      clear hlen
      go_wp2_with (go_at_call 124; refine (toRelation_any _ _ _ _).mono ?_; rintro e w1 ⟨rfl, hb1⟩; obtain ⟨d0, d1, d2⟩ := (hO1 w1 hb1).cells HLen.out k hkl; have hfz := (hO1 w1 hb1).frozen HLen.out)
      go_roundw
      case rel => exact ⟨k + 1, by omega, by go_num, by rw [← take_zero_set l k hlt]; exact (hO1 w1 hb1).set HLen.out k hlt l[k], (((hW.trans (hb1.mono hz)).setCell (Nat.le_refl _) _).setCell (Nat.le_refl _) _).setCell (Nat.le_refl _) _⟩
      case measure => simp [intOf]; omega
    · obtain rfl : k = l.length := by omega
      have hO' : OwnRels w.heap.size (.slice (some ⟨w.heap.size, 0, none⟩) l.length l.length) l wr := by simpa using hO
      clear hO
      go_wp2
      go_ret
      exact ⟨_, rfl, hO', hW⟩

theorem toRelationS_c (v : Value) (l : List Rel) (w : World) (h : RelationS_at w w.heap.size v l) (hn : RelationS_sz l ≤ 1048576) :
    Calls Tryz.prog 46 #[v] w fun e w' => ∃ u, e = .returned u ∧ RelationS_own w.heap.size w'.heap.size u l w' ∧ Below w.heap.size w w' :=
  (toRelationS_any v l w h (by unfold RelationS_sz at hn; omega)).mono fun _ _ ⟨u, he, ho, hb⟩ => ⟨u, he, RelationS_own.of ho, hb⟩

set_option maxHeartbeats 800000 in
theorem specIsValidRelation_any (s : ByteArray) (a : Int) (b : Bool) (w : World) :
    Calls Tryz.prog 101 #[.agg #[.string s, .int .i64 a, .bool b]] w fun e w' => e = .returned (.bool (relOk s a)) ∧ Below w.heap.size w w' := by
  by_cases h1 : s.size = 1
  · have h0 : 0 < s.size := by omega
    have HN := Lib.hid (nameOk_one s h1)
    by_cases h2 : (97 : Int) ≤ ((s[0].toNat : Nat) : Int)
    · by_cases h3 : ((s[0].toNat : Nat) : Int) ≤ 122
      · have hr : Hid (relOk s a = inB a 1 3) := Lib.hid (by unfold relOk; rw [HN.out]; simp [h2, h3])
        go_enter Tryz.func101, Tryz.ntmps101
        go_wp2_with (go_at_call 112; refine (l1In_any _ _ _ _).mono ?_; rintro e w' ⟨rfl, rfl⟩)
        go_ret
        refine ⟨?_, (Below.refl _ _).alloc (Nat.le_refl _) _⟩
        rw [hr.out]; rfl
      · have hr : Hid (relOk s a = false) := Lib.hid (by unfold relOk; rw [HN.out]; simp [h2, h3])
        go_enter Tryz.func101, Tryz.ntmps101
        go_wp2
        go_ret
        refine ⟨?_, (Below.refl _ _).alloc (Nat.le_refl _) _⟩
        rw [hr.out]; rfl
    · have hr : Hid (relOk s a = false) := Lib.hid (by unfold relOk; rw [HN.out]; simp [h2])
      go_enter Tryz.func101, Tryz.ntmps101
      go_wp2
      go_ret
      refine ⟨?_, (Below.refl _ _).alloc (Nat.le_refl _) _⟩
      rw [hr.out]; rfl
  · have hr : Hid (relOk s a = false) := Lib.hid (by unfold relOk; rw [nameOk_ne s h1]; rfl)
    go_enter Tryz.func101, Tryz.ntmps101
    go_wp2
    go_ret
    refine ⟨?_, (Below.refl _ _).alloc (Nat.le_refl _) _⟩
    rw [hr.out]; rfl

set_option maxHeartbeats 400000 in
theorem isRelationName_any (s : ByteArray) (w : World) :
    Calls Tryz.prog 192 #[.string s] w fun e w' => e = .returned (.bool (nameOk s)) ∧ w = w' := by
  by_cases h1 : s.size = 1
  · have hN := nameOk_one s h1
    generalize nameOk s = N at hN
    have h0 : 0 < s.size := by omega
    by_cases h2 : (97 : Int) ≤ ((s[0].toNat : Nat) : Int)
    all_goals
      have HN := Lib.hid hN
      clear hN
      go_enter Tryz.func192, Tryz.ntmps192
      go_wp2
      go_ret
      rw [HN.out]
      first | rfl | (simp [*]; done) | (simp; omega)
  · rw [nameOk_ne s h1]
    go_enter Tryz.func192, Tryz.ntmps192
    go_wp2
    go_ret
    exact ⟨rfl, rfl⟩

set_option maxHeartbeats 400000 in
theorem implIsValidRelation_any (s : ByteArray) (a : Int) (b : Bool) (w : World) :
    Calls Tryz.prog 117 #[.agg #[.string s, .int .i64 a, .bool b]] w fun e w' => e = .returned (.bool (relOk s a)) ∧ Below w.heap.size w w' := by
  unfold relOk inB
  cases hn : nameOk s
  · go_enter Tryz.func117, Tryz.ntmps117
    go_wp2_with (go_at_call 192; refine (isRelationName_any _ _).mono ?_; rintro e w' ⟨rfl, rfl⟩)
    go_ret
    exact ⟨rfl, (Below.refl _ _).alloc (Nat.le_refl _) _⟩
  · by_cases h1 : 1 ≤ a
    all_goals
      go_enter Tryz.func117, Tryz.ntmps117
      go_wp2_with (go_at_call 192; refine (isRelationName_any _ _).mono ?_; rintro e w' ⟨rfl, rfl⟩)
      go_ret
      refine ⟨?_, (Below.refl _ _).alloc (Nat.le_refl _) _⟩
      first | rfl | (simp [*]; done) | (simp; omega) | trace_state

/-- the arity that relation r of the schema has -/
def arityAt (l : List Rel) (r : Int) : Int := (l.getD r.toNat zeroRel).arity
def factOk (l : List Rel) (r : Int) (vs : List Int) : Bool := validRels l && (decide (0 ≤ r ∧ r < l.length) && (decide ((vs.length : Int) = arityAt l r) && vs.all validV))
theorem factOk_rels {l : List Rel} {r : Int} {vs : List Int} (h : validRels l = false) : factOk l r vs = false := by unfold factOk; rw [h]; rfl
theorem factOk_idx {l : List Rel} {r : Int} {vs : List Int} (h : ¬(0 ≤ r ∧ r < l.length)) : factOk l r vs = false := by unfold factOk; rw [decide_eq_false h]; simp
theorem factOk_len {l : List Rel} {r : Int} {vs : List Int} (h : ¬((vs.length : Int) = arityAt l r)) : factOk l r vs = false := by unfold factOk; rw [decide_eq_false h]; simp
theorem factOk_val {l : List Rel} {r : Int} {vs : List Int} (k : Nat) (hk : k < vs.length) (h : validV vs[k] = false) : factOk l r vs = false := by
  have : vs.all validV = false := by rw [List.all_eq_false]; exact ⟨vs[k], List.getElem_mem hk, by rw [h]; simp⟩
  unfold factOk; rw [this]; simp
/-- the first k values are valid -/
def ValsTo (vs : List Int) (k : Nat) : Prop := (vs.take k).all validV = true
theorem ValsTo.zero (vs : List Int) : ValsTo vs 0 := rfl
theorem ValsTo.next {vs : List Int} {k : Nat} (h : ValsTo vs k) (hk : k < vs.length) (hv : validV vs[k] = true) : ValsTo vs (k + 1) := by
  unfold ValsTo at *
  rw [List.take_succ_eq_append_getElem hk, List.all_append, h]; simp [hv]
theorem factOk_yes {l : List Rel} {r : Int} {vs : List Int} (hv : validRels l = true) (h1 : 0 ≤ r ∧ r < l.length) (h2 : (vs.length : Int) = arityAt l r) (h3 : ValsTo vs vs.length) : factOk l r vs = true := by
  unfold ValsTo at h3
  rw [List.take_of_length_le (Nat.le_refl _)] at h3
  unfold factOk; rw [hv, decide_eq_true h1, decide_eq_true h2, h3]; rfl
theorem factOk_parts {l : List Rel} {r : Int} {vs : List Int} (h : factOk l r vs = true) : validRels l = true ∧ (0 ≤ r ∧ r < l.length) ∧ (vs.length : Int) = arityAt l r ∧ ∀ (k : Nat) (hk : k < vs.length), validV vs[k] = true := by
  unfold factOk at h
  simp only [Bool.and_eq_true, decide_eq_true_eq, List.all_eq_true] at h
  exact ⟨h.1, h.2.1, h.2.2.1, fun k hk => h.2.2.2 _ (List.getElem_mem hk)⟩
theorem arityAt_in {l : List Rel} {r : Int} (h : r.toNat < l.length) : arityAt l r = l[r.toNat].arity := by unfold arityAt; rw [getD_at h]
def cmpFact (r : Int) (a : List Int) (s : Int) (b : List Int) : Int := if r < s then -1 else if s < r then 1 else cmpInts a b

/-- a number put into its place among ascending ones -/
def putI : List Int → Int → List Int
  | [], x => [x]
  | a :: t, x => if a < x then a :: putI t x else if a = x then a :: t else x :: a :: t
/-- the first k numbers are smaller -/
def PutTo (l : List Int) (x : Int) (k : Nat) : Prop := putI l x = l.take k ++ putI (l.drop k) x
theorem PutTo.zero (l : List Int) (x : Int) : PutTo l x 0 := rfl
theorem PutTo.next {l : List Int} {x : Int} {k : Nat} (h : PutTo l x k) (hk : k < l.length) (hl : l[k] < x) : PutTo l x (k + 1) := by
  unfold PutTo at *
  rw [h, List.drop_eq_getElem_cons hk, putI, if_pos hl, List.take_succ_eq_append_getElem hk, List.append_assoc]
  rfl
theorem PutTo.hit {l : List Int} {x : Int} {k : Nat} (h : PutTo l x k) (hk : k < l.length) (hl : l[k] = x) : putI l x = l := by
  unfold PutTo at h
  rw [h, List.drop_eq_getElem_cons hk, putI, if_neg (by omega), if_pos hl, ← List.drop_eq_getElem_cons hk, List.take_append_drop]
theorem PutTo.stop {l : List Int} {x : Int} {k : Nat} (h : PutTo l x k) (hk : k < l.length) (hl : x < l[k]) : putI l x = l.take k ++ x :: l.drop k := by
  unfold PutTo at h
  rw [h, List.drop_eq_getElem_cons hk, putI, if_neg (by omega), if_neg (by omega)]
theorem PutTo.last {l : List Int} {x : Int} {k : Nat} (h : PutTo l x k) (hk : k = l.length) : putI l x = l.take k ++ x :: l.drop k := by
  subst hk
  unfold PutTo at h
  rw [h, List.drop_length]; rfl
theorem putI_len (l : List Int) (x : Int) : (putI l x).length ≤ l.length + 1 := by
  induction l with
  | nil => simp [putI]
  | cons a t ih =>
    unfold putI
    split
    · simp; exact ih
    · split <;> simp
theorem putI_mem (l : List Int) (x y : Int) : y ∈ putI l x ↔ y = x ∨ y ∈ l := by
  induction l with
  | nil => simp [putI]
  | cons a t ih =>
    unfold putI
    split
    · simp only [List.mem_cons, ih]; constructor
      · rintro (h | h | h)
        · exact .inr (.inl h)
        · exact .inl h
        · exact .inr (.inr h)
      · rintro (h | h | h)
        · exact .inr (.inl h)
        · exact .inl h
        · exact .inr (.inr h)
    · split
      · rename_i h1 h2; subst h2; simp
      · simp
/-- the nulls of a list of values -/
def addNull (out : List Int) (v : Int) : List Int := if (nullNum v).2 then putI out (nullNum v).1 else out
def nullsOf (vs : List Int) : List Int := vs.foldl addNull []
theorem nullsOf_take (vs : List Int) (k : Nat) (h : k < vs.length) : nullsOf (vs.take (k + 1)) = addNull (nullsOf (vs.take k)) vs[k] := by
  unfold nullsOf; rw [List.take_succ_eq_append_getElem h, List.foldl_append]; rfl
/-- ascending, all from 0 to 39 -/
def AscN (l : List Int) : Prop := l.Pairwise (· < ·) ∧ ∀ x ∈ l, 0 ≤ x ∧ x < 40
theorem AscN.nil : AscN [] := ⟨List.Pairwise.nil, by simp⟩
theorem putI_asc (l : List Int) (x : Int) (h : l.Pairwise (· < ·)) : (putI l x).Pairwise (· < ·) := by
  induction l with
  | nil => simp [putI]
  | cons a t ih =>
    rw [List.pairwise_cons] at h
    unfold putI
    split
    · rename_i h1
      rw [List.pairwise_cons]
      refine ⟨fun y hy => ?_, ih h.2⟩
      rcases (putI_mem t x y).1 hy with rfl | hy
      · exact h1
      · exact h.1 y hy
    · split
      · rw [List.pairwise_cons]; exact h
      · rename_i h1 h2
        rw [List.pairwise_cons, List.pairwise_cons]
        refine ⟨fun y hy => ?_, h⟩
        rcases List.mem_cons.1 hy with rfl | hy
        · omega
        · have := h.1 y hy; omega
theorem AscN.add {l : List Int} (h : AscN l) (v : Int) : AscN (addNull l v) := by
  unfold addNull
  split
  · refine ⟨putI_asc l _ h.1, fun x hx => ?_⟩
    rcases (putI_mem l _ x).1 hx with rfl | hx
    · exact nullNum_bd v
    · exact h.2 x hx
  · exact h
theorem AscN.nullsOf (vs : List Int) (k : Nat) : AscN (nullsOf (vs.take k)) := by
  induction k with
  | zero => exact AscN.nil
  | succ k ih =>
    by_cases h : k < vs.length
    · rw [nullsOf_take vs k h]; exact ih.add _
    · rwa [List.take_of_length_le (by omega), ← List.take_of_length_le (show vs.length ≤ k by omega)]
theorem asc_len (n : Nat) (l : List Int) (a : Int) (h : l.Pairwise (· < ·)) (hb : ∀ x ∈ l, a ≤ x ∧ x < a + n) : l.length ≤ n := by
  induction l generalizing a n with
  | nil => simp
  | cons x t ih =>
    have h0 := hb x (by simp)
    rw [List.pairwise_cons] at h
    obtain ⟨m, rfl⟩ : ∃ m, n = m + 1 := ⟨n - 1, by omega⟩
    have := ih m (a + 1) h.2 (fun y hy => by
      have h1 := h.1 y hy
      have h2 := hb y (by simp [hy])
      omega)
    simp; omega
theorem AscN.len {l : List Int} (h : AscN l) : l.length ≤ 40 := asc_len 40 l 0 h.1 (fun x hx => by have := h.2 x hx; omega)

theorem all_no {α : Type} {p : α → Bool} {l : List α} {k : Nat} (hk : k < l.length) (hp : p l[k] = false) : l.all p = false := by
  rw [List.all_eq_false]; exact ⟨l[k], List.getElem_mem hk, by rw [hp]; simp⟩

/-- the relations are valid and r is one of them, of arity n -/
def relOf (l : List Rel) (r n : Int) : Bool := validRels l && (decide (0 ≤ r ∧ r < l.length) && decide (n = arityAt l r))
theorem relOf_rels {l : List Rel} {r n : Int} (h : validRels l = false) : relOf l r n = false := by unfold relOf; rw [h]; rfl
theorem relOf_idx {l : List Rel} {r n : Int} (h : ¬(0 ≤ r ∧ r < l.length)) : relOf l r n = false := by unfold relOf; rw [decide_eq_false h]; simp
theorem relOf_in {l : List Rel} {r n : Int} (hv : validRels l = true) (h1 : 0 ≤ r ∧ r < l.length) : relOf l r n = decide (n = arityAt l r) := by unfold relOf; rw [hv, decide_eq_true h1]; rfl
theorem relOf_len {l : List Rel} {r n : Int} (h : ¬ n = arityAt l r) : relOf l r n = false := by unfold relOf; rw [decide_eq_false h]; simp
theorem relOf_parts {l : List Rel} {r n : Int} (h : relOf l r n = true) : validRels l = true ∧ (0 ≤ r ∧ r < l.length) ∧ n = arityAt l r := by
  unfold relOf at h
  simp only [Bool.and_eq_true, decide_eq_true_eq] at h
  exact ⟨h.1, h.2.1, h.2.2⟩
theorem factOk_relOf (l : List Rel) (r : Int) (vs : List Int) : factOk l r vs = (relOf l r (vs.length : Nat) && vs.all validV) := by unfold factOk relOf; simp only [Bool.and_assoc]

/-- a term of an atom: a variable or a constant -/
abbrev validT (t : Int) : Bool := inB t (-10) 4
def atomOk (l : List Rel) (r : Int) (vs : List Int) : Bool := validRels l && (decide (0 ≤ r ∧ r < l.length) && (decide ((vs.length : Int) = arityAt l r) && vs.all validT))
theorem atomOk_rels {l : List Rel} {r : Int} {vs : List Int} (h : validRels l = false) : atomOk l r vs = false := by unfold atomOk; rw [h]; rfl
theorem atomOk_idx {l : List Rel} {r : Int} {vs : List Int} (h : ¬(0 ≤ r ∧ r < l.length)) : atomOk l r vs = false := by unfold atomOk; rw [decide_eq_false h]; simp
theorem atomOk_len {l : List Rel} {r : Int} {vs : List Int} (h : ¬((vs.length : Int) = arityAt l r)) : atomOk l r vs = false := by unfold atomOk; rw [decide_eq_false h]; simp
theorem atomOk_val {l : List Rel} {r : Int} {vs : List Int} (k : Nat) (hk : k < vs.length) (h : validT vs[k] = false) : atomOk l r vs = false := by
  have : vs.all validT = false := by rw [List.all_eq_false]; exact ⟨vs[k], List.getElem_mem hk, by rw [h]; simp⟩
  unfold atomOk; rw [this]; simp
/-- the first k terms are valid -/
def TermsTo (vs : List Int) (k : Nat) : Prop := (vs.take k).all validT = true
theorem TermsTo.zero (vs : List Int) : TermsTo vs 0 := rfl
theorem TermsTo.next {vs : List Int} {k : Nat} (h : TermsTo vs k) (hk : k < vs.length) (hv : validT vs[k] = true) : TermsTo vs (k + 1) := by
  unfold TermsTo at *
  rw [List.take_succ_eq_append_getElem hk, List.all_append, h]; simp [hv]
theorem atomOk_yes {l : List Rel} {r : Int} {vs : List Int} (hv : validRels l = true) (h1 : 0 ≤ r ∧ r < l.length) (h2 : (vs.length : Int) = arityAt l r) (h3 : TermsTo vs vs.length) : atomOk l r vs = true := by
  unfold TermsTo at h3
  rw [List.take_of_length_le (Nat.le_refl _)] at h3
  unfold atomOk; rw [hv, decide_eq_true h1, decide_eq_true h2, h3]; rfl
theorem atomOk_parts {l : List Rel} {r : Int} {vs : List Int} (h : atomOk l r vs = true) : validRels l = true ∧ (0 ≤ r ∧ r < l.length) ∧ (vs.length : Int) = arityAt l r ∧ ∀ (k : Nat) (hk : k < vs.length), validT vs[k] = true := by
  unfold atomOk at h
  simp only [Bool.and_eq_true, decide_eq_true_eq, List.all_eq_true] at h
  exact ⟨h.1, h.2.1, h.2.2.1, fun k hk => h.2.2.2 _ (List.getElem_mem hk)⟩

/-- a term put among the variables, if it is one -/
def addVar (out : List Int) (t : Int) : List Int := if 0 ≤ t then putI out t else out
def addTerms (out : List Int) (vs : List Int) : List Int := vs.foldl addVar out
def varsOf (l : List Atm) : List Int := l.foldl (fun o a => addTerms o a.vals) []
theorem addTerms_take (out : List Int) (vs : List Int) (k : Nat) (h : k < vs.length) : addTerms out (vs.take (k + 1)) = addVar (addTerms out (vs.take k)) vs[k] := by
  unfold addTerms; rw [List.take_succ_eq_append_getElem h, List.foldl_append]; rfl
theorem varsOf_take (l : List Atm) (k : Nat) (h : k < l.length) : varsOf (l.take (k + 1)) = addTerms (varsOf (l.take k)) l[k].vals := by
  unfold varsOf; rw [List.take_succ_eq_append_getElem h, List.foldl_append]; rfl
theorem addVar_len (out : List Int) (t : Int) : (addVar out t).length ≤ out.length + 1 := by
  unfold addVar; split
  · exact putI_len out t
  · omega
theorem addTerms_len (out : List Int) (vs : List Int) : (addTerms out vs).length ≤ out.length + vs.length := by
  induction vs generalizing out with
  | nil => simp [addTerms]
  | cons a t ih =>
    have h1 := ih (addVar out a)
    have h2 := addVar_len out a
    simp only [addTerms, List.foldl_cons, List.length_cons] at h1 ⊢
    omega
theorem varsFold_len (o : List Int) (l : List Atm) : (l.foldl (fun o a => addTerms o a.vals) o).length ≤ o.length + avalsLen l := by
  induction l generalizing o with
  | nil => simp [avalsLen]
  | cons a t ih =>
    have h1 := ih (addTerms o a.vals)
    have h2 := addTerms_len o a.vals
    simp only [List.foldl_cons, avalsLen] at h1 ⊢
    omega
theorem varsOf_len (l : List Atm) : (varsOf l).length ≤ avalsLen l := by
  have := varsFold_len [] l
  unfold varsOf
  simpa using this

/-- the first k are as p asks -/
def AllTo {α : Type} (p : α → Bool) (l : List α) (k : Nat) : Prop := (l.take k).all p = true
theorem AllTo.zero {α : Type} (p : α → Bool) (l : List α) : AllTo p l 0 := rfl
theorem AllTo.next {α : Type} {p : α → Bool} {l : List α} {k : Nat} (h : AllTo p l k) (hk : k < l.length) (hp : p l[k] = true) : AllTo p l (k + 1) := by
  unfold AllTo at *
  rw [List.take_succ_eq_append_getElem hk, List.all_append, h]; simp [hp]
theorem AllTo.full {α : Type} {p : α → Bool} {l : List α} (h : AllTo p l l.length) : l.all p = true := by
  unfold AllTo at h; rwa [List.take_of_length_le (Nat.le_refl _)] at h
def atomB (l : List Rel) (a : Atm) : Bool := atomOk l a.rel a.vals
def srcAt (l : List Rel) (r : Int) : Bool := (l.getD r.toNat zeroRel).source
def headB (l : List Rel) (a : Atm) : Bool := atomB l a && !(srcAt l a.rel)
/-- a dependency is valid over the schema -/
def depOk (l : List Rel) (x : Dep) : Bool :=
  inB (x.body.length : Nat) 1 2 && (x.body.all (atomB l) && (if x.egd then ((x.head.length : Nat) : Int) == 0 && (decide (x.left ∈ varsOf x.body) && (decide (x.right ∈ varsOf x.body) && decide (x.left < x.right)))
    else x.head.all (headB l) && (inB (x.head.length : Nat) 1 2 && ((x.left == 0) && (x.right == 0)))))

theorem atomB_len {l : List Rel} {a : Atm} (h : atomB l a = true) : a.vals.length ≤ 3 := by
  obtain ⟨h1, h2, h3, _⟩ := atomOk_parts h
  have hk : a.rel.toNat < l.length := by omega
  have ha := relOk_bd _ _ (validRels_at l h1 a.rel.toNat hk)
  rw [arityAt_in hk] at h3
  omega
theorem avals_small {l : List Rel} {ts : List Atm} (h : ts.all (atomB l) = true) : avalsLen ts ≤ 3 * ts.length := by
  induction ts with
  | nil => simp [avalsLen]
  | cons a t ih =>
    rw [List.all_cons, Bool.and_eq_true] at h
    have h1 := atomB_len h.1
    have h2 := ih h.2
    simp only [avalsLen, List.length_cons]; omega
theorem side_sz {l : List Rel} {ts : List Atm} (h : ts.all (atomB l) = true) (hn : ts.length ≤ 2) : AtomS_sz ts ≤ 8 := by
  have := avals_small h
  unfold AtomS_sz; omega

/-- a text cut at every byte c -/
def withHead (p : List UInt8) : List (List UInt8) → List (List UInt8)
  | [] => [p]
  | h :: t => (p ++ h) :: t
def cutA (c : UInt8) : List UInt8 → List (List UInt8)
  | [] => [[]]
  | b :: r => if b = c then [] :: cutA c r else withHead [b] (cutA c r)
/-- .. at the first k of them -/
def cutN (c : UInt8) : Nat → List UInt8 → List (List UInt8)
  | _, [] => [[]]
  | 0, b :: r => [b :: r]
  | k + 1, b :: r => if b = c then [] :: cutN c k r else withHead [b] (cutN c (k + 1) r)
theorem cutA_cons (c : UInt8) (b : UInt8) (r : List UInt8) : cutA c (b :: r) = if b = c then [] :: cutA c r else withHead [b] (cutA c r) := rfl
theorem cutN_succ (c : UInt8) (k : Nat) (b : UInt8) (r : List UInt8) : cutN c (k + 1) (b :: r) = if b = c then [] :: cutN c k r else withHead [b] (cutN c (k + 1) r) := rfl
theorem splitK_succ (c : UInt8) (k : Nat) (s : List UInt8) : Lib.splitK [c] 0 (k + 1) s = if Lib.index s [c] == -1 then [s] else s.take ((Lib.index s [c]).toNat + 0) :: Lib.splitK [c] 0 k (s.drop ((Lib.index s [c]).toNat + 1)) := rfl
theorem withHead_ne (p : List UInt8) (l : List (List UInt8)) : withHead p l ≠ [] := by cases l <;> simp [withHead]
theorem withHead_len (p : List UInt8) (l : List (List UInt8)) (h : l ≠ []) : (withHead p l).length = l.length := by
  cases l with
  | nil => exact absurd rfl h
  | cons => rfl
theorem withHead_nil (l : List (List UInt8)) (h : l ≠ []) : withHead [] l = l := by
  cases l with
  | nil => exact absurd rfl h
  | cons => rfl
theorem withHead_withHead (p q : List UInt8) (l : List (List UInt8)) : withHead p (withHead q l) = withHead (p ++ q) l := by cases l <;> simp [withHead]
theorem cutA_ne (c : UInt8) (s : List UInt8) : cutA c s ≠ [] := by
  cases s with
  | nil => simp [cutA]
  | cons b r =>
    rw [cutA_cons]
    split
    · simp
    · exact withHead_ne _ _
theorem cutN_ne (c : UInt8) (k : Nat) (s : List UInt8) : cutN c k s ≠ [] := by
  cases s with
  | nil => simp [cutN]
  | cons b r =>
    cases k with
    | zero => simp [cutN]
    | succ k =>
      rw [cutN_succ]
      split
      · simp
      · exact withHead_ne _ _
theorem cutA_len (c : UInt8) (s : List UInt8) : (cutA c s).length ≤ s.length + 1 := by
  induction s with
  | nil => simp [cutA]
  | cons b r ih =>
    unfold cutA
    split
    · simp; exact ih
    · rw [withHead_len _ _ (cutA_ne c r)]; simp; omega
theorem cutN_len (c : UInt8) (k : Nat) (s : List UInt8) : (cutN c k s).length = min (k + 1) (cutA c s).length := by
  induction s generalizing k with
  | nil => simp [cutN, cutA]
  | cons b r ih =>
    cases k with
    | zero =>
      have : 0 < (cutA c (b :: r)).length := List.length_pos_iff.2 (cutA_ne c _)
      simp only [cutN, List.length_singleton]; omega
    | succ k =>
      rw [cutN_succ, cutA_cons]
      split
      · simp [ih]
      · rw [withHead_len _ _ (cutN_ne c _ r), withHead_len _ _ (cutA_ne c r), ih]
theorem cutN_all (c : UInt8) (k : Nat) (s : List UInt8) (h : (cutA c s).length ≤ k + 1) : cutN c k s = cutA c s := by
  induction s generalizing k with
  | nil => simp [cutN, cutA]
  | cons b r ih =>
    cases k with
    | zero =>
      have h' := h
      rw [cutA_cons] at h'
      split at h'
      · have : 0 < (cutA c r).length := List.length_pos_iff.2 (cutA_ne c _)
        simp only [List.length_cons] at h'
        omega
      · rename_i hb
        rw [withHead_len _ _ (cutA_ne c r)] at h'
        have e := ih 0 h'
        have e2 : cutN c 0 r = [r] := by cases r <;> rfl
        rw [e2] at e
        show [b :: r] = cutA c (b :: r)
        rw [cutA_cons, if_neg hb, ← e]; rfl
    | succ k =>
      have h' := h
      rw [cutA_cons] at h'
      rw [cutN_succ, cutA_cons]
      split
      · rename_i hb
        rw [if_pos hb] at h'
        rw [ih k (by simpa using h')]
      · rename_i hb
        rw [if_neg hb, withHead_len _ _ (cutA_ne c r)] at h'
        rw [ih (k + 1) h']
theorem join_cutA (c : UInt8) (s : List UInt8) : Lib.join (cutA c s) [c] = s := by
  induction s with
  | nil => rfl
  | cons b r ih =>
    have hne := cutA_ne c r
    rw [cutA_cons]
    cases hc : cutA c r with
    | nil => exact absurd hc hne
    | cons h t =>
      rw [hc, Lib.join_cons] at ih
      split
      · rename_i hb
        rw [Lib.join_cons]
        simp [Lib.joinTail, hb] at ih ⊢
        exact ih
      · show Lib.join (([b] ++ h) :: t) [c] = b :: r
        rw [Lib.join_cons]
        simp [ih]
theorem cutA_plain (c : UInt8) (p : List UInt8) (h : c ∉ p) : cutA c p = [p] := by
  induction p with
  | nil => rfl
  | cons b r ih =>
    rw [cutA_cons, if_neg (fun e => h (by simp [e])), ih (fun e => h (by simp [e]))]
    rfl
theorem cutA_app (c : UInt8) (p r : List UInt8) (h : c ∉ p) : cutA c (p ++ c :: r) = p :: cutA c r := by
  induction p with
  | nil => simp [cutA]
  | cons b q ih =>
    rw [List.cons_append]
    rw [cutA_cons, if_neg (fun e => h (by simp [e])), ih (fun e => h (by simp [e]))]
    rfl
theorem cutA_join (c : UInt8) (x : List UInt8) (r : List (List UInt8)) (h : ∀ p ∈ x :: r, c ∉ p) : cutA c (Lib.join (x :: r) [c]) = x :: r := by
  induction r generalizing x with
  | nil => rw [Lib.join_one]; exact cutA_plain c x (h x (by simp))
  | cons y t ih =>
    have e : Lib.join (x :: y :: t) [c] = x ++ c :: Lib.join (y :: t) [c] := by
      rw [Lib.join_cons, Lib.join_cons]; simp [Lib.joinTail]
    rw [e, cutA_app c x _ (h x (by simp)), ih y (fun p hp => h p (by simp at hp ⊢; exact .inr hp))]
theorem index_cons_eq (c : UInt8) (r : List UInt8) : Lib.index (c :: r) [c] = 0 := by rw [Lib.index]; simp [List.isPrefixOf]
theorem index_cons_ne (c : UInt8) (b : UInt8) (r : List UInt8) (h : ¬ b = c) : Lib.index (b :: r) [c] = if Lib.index r [c] == -1 then -1 else Lib.index r [c] + 1 := by
  rw [Lib.index, if_neg]
  simp [List.isPrefixOf]
  exact fun e => h e.symm
theorem splitK_cutN (c : UInt8) (k : Nat) (s : List UInt8) : Lib.splitK [c] 0 k s = cutN c k s := by
  induction s generalizing k with
  | nil => cases k <;> rfl
  | cons b r ih =>
    cases k with
    | zero => rfl
    | succ k =>
      rw [splitK_succ, cutN_succ]
      by_cases hb : b = c
      · subst hb
        rw [index_cons_eq, if_pos rfl, if_neg (by decide)]
        simp [ih]
      · rw [if_neg hb, index_cons_ne c b r hb, ← ih (k + 1), splitK_succ]
        have hge := Lib.index_ge r [c]
        by_cases hm : Lib.index r [c] = -1
        · rw [hm]; rfl
        · obtain ⟨j, hj⟩ : ∃ j : Nat, Lib.index r [c] = j := ⟨(Lib.index r [c]).toNat, by omega⟩
          have n1 : ((j : Int) == -1) = false := beq_eq_false_iff_ne.2 (by omega)
          have n2 : ((j : Int) + 1 == -1) = false := beq_eq_false_iff_ne.2 (by omega)
          have n3 : ((j : Int) + 1).toNat = j + 1 := by omega
          rw [hj]
          simp only [n1, n2, n3, Bool.false_eq_true, if_false, Int.toNat_natCast, Nat.add_zero]
          rfl
/-- what the loop of the model's cut keeps -/
def CutInv (c : UInt8) (s : List UInt8) (done : List (List UInt8)) (frm i : Nat) : Prop := frm ≤ i ∧ i ≤ s.length ∧ cutA c s = done ++ withHead ((s.take i).drop frm) (cutA c (s.drop i))
theorem CutInv.zero (c : UInt8) (s : List UInt8) : CutInv c s [] 0 0 := ⟨Nat.le_refl _, Nat.zero_le _, by simp [withHead_nil _ (cutA_ne c s)]⟩
theorem CutInv.hit {c : UInt8} {s : List UInt8} {done : List (List UInt8)} {frm i : Nat} (h : CutInv c s done frm i) (hi : i < s.length) (hb : s[i] = c) : CutInv c s (done ++ [(s.take i).drop frm]) (i + 1) (i + 1) := by
  refine ⟨Nat.le_refl _, hi, ?_⟩
  rw [h.2.2, List.drop_eq_getElem_cons hi]
  conv => lhs; rw [cutA]
  rw [if_pos hb, List.drop_eq_nil_of_le (List.length_take_le _ _), withHead_nil _ (cutA_ne c _)]
  simp [withHead]
theorem CutInv.miss {c : UInt8} {s : List UInt8} {done : List (List UInt8)} {frm i : Nat} (h : CutInv c s done frm i) (hi : i < s.length) (hb : ¬ s[i] = c) : CutInv c s done frm (i + 1) := by
  refine ⟨Nat.le_succ_of_le h.1, hi, ?_⟩
  rw [h.2.2, List.drop_eq_getElem_cons hi]
  conv => lhs; rw [cutA]
  rw [if_neg hb, withHead_withHead, List.take_succ_eq_append_getElem hi, List.drop_append_of_le_length (by rw [List.length_take]; have := h.1; omega)]
theorem CutInv.done {c : UInt8} {s : List UInt8} {done : List (List UInt8)} {frm i : Nat} (h : CutInv c s done frm i) (hi : i = s.length) : cutA c s = done ++ [s.drop frm] := by
  subst hi
  rw [h.2.2]; simp [cutA, withHead]
theorem cutN_piece (c : UInt8) (k : Nat) (s p : List UInt8) (h : p ∈ cutN c k s) : p.length ≤ s.length := by
  induction s generalizing k p with
  | nil => cases k <;> simp [cutN] at h <;> subst h <;> simp
  | cons b r ih =>
    cases k with
    | zero => simp [cutN] at h; subst h; simp
    | succ k =>
      rw [cutN_succ] at h
      split at h
      · simp only [List.mem_cons] at h
        rcases h with rfl | h
        · simp
        · have := ih k p h; simp; omega
      · cases hc : cutN c (k + 1) r with
        | nil => exact absurd hc (cutN_ne c _ _)
        | cons x t =>
          rw [hc] at h
          simp only [withHead, List.mem_cons] at h
          rcases h with rfl | h
          · have := ih (k + 1) x (by rw [hc]; simp)
            simp; omega
          · have := ih (k + 1) p (by rw [hc]; simp [h])
            simp; omega

def dataOf (l : List ByteArray) : List (List UInt8) := l.map (·.data.toList)
theorem dataOf_snoc (l : List ByteArray) (x : ByteArray) : dataOf (l ++ [x]) = dataOf l ++ [x.data.toList] := by simp [dataOf]
theorem dataOf_len (l : List ByteArray) : (dataOf l).length = l.length := by simp [dataOf]
theorem dataOf_at (l : List ByteArray) (k : Nat) (h : k < l.length) : (dataOf l)[k]'(by rw [dataOf_len]; exact h) = l[k].data.toList := by simp [dataOf]

end Go.Proofs.YtmecdjincmkofaaGreatDoor
