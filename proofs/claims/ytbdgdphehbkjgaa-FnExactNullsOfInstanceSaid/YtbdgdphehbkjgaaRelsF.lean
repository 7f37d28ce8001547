/-
  Walks and plain lemmas for the laws of this seat: what single Go functions return, for every argument.
-/
import Derived.Test.YtbdgdphehbkjgaaBase
import Derived.Test.YtbdgdphehbkjgaaRels
import Derived.Test.YtbdgdphehbkjgaaRelF
namespace Go.Proofs.Ytbdgdphehbkjgaa
open Go.RowKit

instance : DecidableEq Rel := fun a b => by
  cases a; cases b; rw [Rel.mk.injEq]; exact inferInstance
set_option maxHeartbeats 800000 in
theorem eqRelation_any (s t : ByteArray) (a c : Int) (b d : Bool) (w : World) :
    Calls Try.prog 114 #[.agg #[.string s, .int .i64 a, .bool b], .agg #[.string t, .int .i64 c, .bool d]] w fun e w' => e = .returned (.bool (decide (Rel.mk s a b = Rel.mk t c d))) ∧ Below w.heap.size w w' := by
  by_cases h0 : s = t
  · by_cases h1 : a = c
    · have h2 : decide (Rel.mk s a b = Rel.mk t c d) = (b == d) := by subst h0 h1; cases b <;> cases d <;> simp
      rw [h2]
      subst h0 h1
      cases b <;> cases d
      all_goals
        go_enter Try.func114, Try.ntmps114
        go_wp2
        go_ret
        exact ⟨rfl, below_more (below_more (Below.refl _ _) _) _⟩
    · have h2 : decide (Rel.mk s a b = Rel.mk t c d) = false := by simp [h1]
      rw [h2]
      subst h0
      have h3 : (a != c) = true := bne_iff_ne.2 h1
      clear h2
      go_enter Try.func114, Try.ntmps114
      go_wp2
      go_ret
      exact ⟨rfl, below_more (below_more (Below.refl _ _) _) _⟩
  · have h2 : decide (Rel.mk s a b = Rel.mk t c d) = false := by simp [h0]
    rw [h2]
    have h3 := str_ne h0
    clear h2
    go_enter Try.func114, Try.ntmps114
    go_wp2
    go_ret
    exact ⟨rfl, below_more (below_more (Below.refl _ _) _) _⟩
theorem eqRelation_at (r r' : Rel) (b : Bool) (h : decide (r = r') = b) (w : World) :
    Calls Try.prog 114 #[.agg #[.string r.name, .int .i64 r.arity, .bool r.source], .agg #[.string r'.name, .int .i64 r'.arity, .bool r'.source]] w fun e w' => e = .returned (.bool b) ∧ Below w.heap.size w w' := by
  subst h; exact eqRelation_any _ _ _ _ _ _ w

set_option maxHeartbeats 800000 in
theorem szRelationS_any (v : Value) (l : List Rel) (left : Int) (w : World) (hl : RelsAt w w.heap.size v l) (hw : RelsWf l) (h0 : 0 ≤ left) (h1 : left ≤ 1048576) :
    Calls Try.prog 67 #[v, .int .i64 left] w fun e w' => e = .returned (.int .i64 (szLeft left ((l.length : Int) + (relsLen l : Nat)))) ∧ Below w.heap.size w w' := by
  have HL := Lib.hid hl
  obtain ⟨A, c, rfl, hlc, hcm, -⟩ := hl
  unfold maxLen at hcm
  by_cases hn : (l.length : Int) ≤ left
  · go_enter Try.func67, Try.ntmps67
    go_wp2
    go_loopw [1, 5] (fun lf i wr => ∃ k : Nat, k ≤ l.length ∧ i = .int .i64 k ∧ lf = .int .i64 (left - l.length - (relsLen (l.take k) : Nat)) ∧ (l.length : Int) + (relsLen (l.take k) : Nat) ≤ left ∧ Below w.heap.size w wr) (fun _ i _ => l.length - (intOf i).toNat)
    case atStart => exact ⟨0, by omega, rfl, by simp [relsLen], by simp [relsLen]; omega, Below.refl _ _⟩
    case round =>
      obtain ⟨k, hk, rfl, rfl, hle, hW⟩ := hrel
      have hz := hW.size
      by_cases hlt : k < l.length
      · obtain ⟨b, off, rfl, hb, c0, c1, c2⟩ := RelsAt.elem (HL.out.below hW (Nat.le_refl _)) k hlt
        have HT := Lib.hid (relsLen_take l k hlt)
        have HLE := Lib.hid (relsLen_le l (k + 1))
        have hs := hw k hlt
        generalize relsLen (l.take k) = q at *
        have hq : 0 ≤ left - l.length - (q : Int) := by omega
        by_cases hfit : (l[k].name.size : Int) ≤ left - l.length - (q : Int)
        · have e1 : szLeft (left - l.length - (q : Int)) (l[k].name.size : Nat) = left - l.length - ((q + l[k].name.size : Nat) : Int) := by rw [szLeft_yes hfit]; omega
          have hsz := fun w => szRelation_any l[k].name l[k].arity l[k].source (left - l.length - (q : Int)) w hs (by omega) (by omega)
          rw [e1] at hsz
          clear e1
          go_wp2_with (go_at_call 108; refine (hsz _).mono ?_; rintro e w1 ⟨rfl, hb1⟩)
          go_roundw
          case rel => exact ⟨k + 1, by omega, by go_num, by rw [HT.out]; go_num, by rw [HT.out]; omega, hW.trans (hb1.mono hz)⟩
          case measure => simp [intOf]; omega
        · have e1 : szLeft (left - l.length - (q : Int)) (l[k].name.size : Nat) = -1 := szLeft_no hfit
          have e2 := Lib.hid (szLeft_no (left := left) (n := (l.length : Int) + (relsLen l : Nat)) (by have := HT.out; have := HLE.out; omega))
          have hsz := fun w => szRelation_any l[k].name l[k].arity l[k].source (left - l.length - (q : Int)) w hs (by omega) (by omega)
          rw [e1] at hsz
          clear e1
          go_wp2_with (go_at_call 108; refine (hsz _).mono ?_; rintro e w1 ⟨rfl, hb1⟩)
          go_ret
          exact ⟨ret_int e2.out.symm, hW.trans (hb1.mono hz)⟩
      · obtain rfl : k = l.length := by omega
        have HT := Lib.hid (congrArg relsLen (List.take_length (l := l)))
        generalize relsLen (l.take l.length) = q at *
        have e2 := Lib.hid (szLeft_yes (left := left) (n := (l.length : Int) + (relsLen l : Nat)) (by have := HT.out; omega))
        go_wp2
        go_ret
        exact ⟨ret_int (by rw [e2.out]; have := HT.out; omega), hW⟩
  · have e2 := Lib.hid (szLeft_no (left := left) (n := (l.length : Int) + (relsLen l : Nat)) (by omega))
    go_enter Try.func67, Try.ntmps67
    go_wp2
    go_ret
    exact ⟨ret_int e2.out.symm, Below.refl _ _⟩

/-- a fresh slice of relations that reads as l -/
def GivesRels (l : List Rel) (w : World) (e : Ending) (w' : World) : Prop := ∃ v, e = .returned v ∧ OwnRels w.heap.size v l w' ∧ Below w.heap.size w w'
theorem take_zero_set (l : List Rel) (k : Nat) (h : k < l.length) : (l.take k ++ List.replicate (l.length - k) zeroRel).set k l[k] = l.take (k + 1) ++ List.replicate (l.length - (k + 1)) zeroRel := by
  rw [List.set_append_right _ _ (by simp; omega), List.length_take_of_le (by omega), Nat.sub_self, List.take_succ_eq_append_getElem h, show l.length - k = (l.length - (k + 1)) + 1 by omega, List.replicate_succ, List.set_cons_zero, List.append_assoc]
  rfl
set_option maxHeartbeats 800000 in
theorem toRelationS_any (v : Value) (l : List Rel) (w : World) (hl : RelsAt w w.heap.size v l) (hn : l.length ≤ 1048576) :
    Calls Try.prog 72 #[v] w (GivesRels l w) := by
  have HL := Lib.hid hl
  obtain ⟨A, c, rfl, hlc, hcm, -⟩ := hl
  unfold maxLen at hcm
  have hmk := fun w => make_rels w l.length hn
  go_enter Try.func72, Try.ntmps72
  go_wp2
  clear hmk
  go_loopw [4] (fun i wr => ∃ k : Nat, k ≤ l.length ∧ i = .int .i64 k ∧ OwnRels w.heap.size (.slice (some ⟨w.heap.size, 0, none⟩) l.length l.length) (l.take k ++ List.replicate (l.length - k) zeroRel) wr ∧ Below w.heap.size w wr) (fun i _ => l.length - (intOf i).toNat)
  case atStart => exact ⟨0, by omega, rfl, OwnRels.made w _ hn _ (Nat.le_refl _), (Below.refl _ _).alloc (Nat.le_refl _) _⟩
  case round =>
    obtain ⟨k, hk, rfl, hO, hW⟩ := hrel
    have hz := hW.size
    by_cases hlt : k < l.length
    · obtain ⟨b, off, rfl, hb, c0, c1, c2⟩ := RelsAt.elem (HL.out.below hW (Nat.le_refl _)) k hlt
      have hO1 := fun w1 (hb1 : Below wr.heap.size wr w1) => hO.below hb1 (Nat.le_refl _)
      have hlen : (l.take k ++ List.replicate (l.length - k) zeroRel).length = l.length := by simp; omega
      have HLen := Lib.hid hlen
      have hkl : k < (l.take k ++ List.replicate (l.length - k) zeroRel).length := by omega
      clear hlen
      go_wp2_with (go_at_call 113; refine (toRelation_any _ _ _ _).mono ?_; rintro e w1 ⟨rfl, hb1⟩; obtain ⟨d0, d1, d2⟩ := (hO1 w1 hb1).cells HLen.out k hkl; have hfz := (hO1 w1 hb1).frozen HLen.out)
      go_roundw
      case rel => exact ⟨k + 1, by omega, by go_num, by rw [← take_zero_set l k hlt]; exact (hO1 w1 hb1).set HLen.out k hlt l[k], (((hW.trans (hb1.mono hz)).setCell (Nat.le_refl _) _).setCell (Nat.le_refl _) _).setCell (Nat.le_refl _) _⟩
      case measure => simp [intOf]; omega
    · obtain rfl : k = l.length := by omega
      have hO' : OwnRels w.heap.size (.slice (some ⟨w.heap.size, 0, none⟩) l.length l.length) l wr := by simpa using hO
      clear hO
      go_wp2
      go_ret
      exact ⟨_, rfl, hO', hW⟩

end Go.Proofs.Ytbdgdphehbkjgaa
