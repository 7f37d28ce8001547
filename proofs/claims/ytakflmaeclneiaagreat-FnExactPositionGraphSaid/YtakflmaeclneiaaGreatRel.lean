/-
  Walks and plain lemmas for the laws of this seat: what single Go functions return, for every argument.
-/
import Derived.Test.YtakflmaeclneiaaGreatBase
import Derived.Test.YtakflmaeclneiaaGreatInts
import Derived.Test.YtakflmaeclneiaaGreatTyAtom
namespace Go.Proofs.YtakflmaeclneiaaGreat
open Go.RowKit

/-- a relation, as the proofs speak of it -/
structure Rel where
  name : ByteArray
  arity : Int
  source : Bool
def relV (r : Rel) : Value := .agg #[.string r.name, .int .i64 r.arity, .bool r.source]
/-- one lower-case letter -/
def nameOk (s : ByteArray) : Bool := match s.data.toList with
  | [c] => decide ((97 : Int) ≤ ((c.toNat : Nat) : Int)) && decide (((c.toNat : Nat) : Int) ≤ 122)
  | _ => false
def relOk (s : ByteArray) (a : Int) : Bool := nameOk s && inB a 1 3
theorem nameOk_one (s : ByteArray) (h : s.size = 1) : nameOk s = (decide ((97 : Int) ≤ ((s[0].toNat : Nat) : Int)) && decide (((s[0].toNat : Nat) : Int) ≤ 122)) := by
  obtain ⟨⟨l⟩⟩ := s
  match l, h with
  | [c], _ => rfl
theorem nameOk_ne (s : ByteArray) (h : s.size ≠ 1) : nameOk s = false := by
  obtain ⟨⟨l⟩⟩ := s
  match l, h with
  | [], _ => rfl
  | _ :: _ :: _, _ => rfl
/-- what is left of a size's allowance -/
def szLeft (left n : Int) : Int := if n ≤ left then left - n else -1
theorem szLeft_yes {left n : Int} (h : n ≤ left) : szLeft left n = left - n := if_pos h
theorem szLeft_no {left n : Int} (h : ¬ n ≤ left) : szLeft left n = -1 := if_neg h

set_option maxHeartbeats 800000 in
theorem eqIntS_any (v u : Value) (l : List Int) (w : World) (hl : IntsAt w w.heap.size v l) (hm : IntsAt w w.heap.size u l) :
    Calls Tryz.prog 76 #[v, u] w fun e w' => e = .returned (.bool true) ∧ Below w.heap.size w w' := by
  have HL := Lib.hid hl
  have HM := Lib.hid hm
  obtain ⟨A, c, rfl, hlc, hcm, -⟩ := hl
  obtain ⟨A', c', rfl, hlc', hcm', -⟩ := hm
  unfold maxLen at hcm hcm'
  go_enter Tryz.func76, Tryz.ntmps76
  go_wp2
  go_loopw [5] (fun i wr => ∃ k : Nat, k ≤ l.length ∧ i = .int .i64 k ∧ Below w.heap.size w wr) (fun i _ => l.length - (intOf i).toNat)
  case atStart => exact ⟨0, by omega, rfl, Below.refl _ _⟩
  case round =>
    obtain ⟨k, hk, rfl, hW⟩ := hrel
    by_cases hlt : k < l.length
    · obtain ⟨b, off, rfl, hb, c0⟩ := IntsAt.elem HL.out k hlt
      obtain ⟨b', off', rfl, hb', d0⟩ := IntsAt.elem HM.out k hlt
      have C0 := Aft.cell hb c0
      have D0 := Aft.cell hb' d0
      clear c0 d0
      go_wp2
      refine wp_region_aft hW (by kernel_rfl) (by kernel_rfl) ?_
      repeat (go_big_quiet_step (fail))
      refine wpQuiet_nil ?_
      refine aft_end ?_
      intro w1 hh
      go_wp2
      go_roundw
      case rel => exact ⟨k + 1, by omega, by go_num, hh⟩
      case measure => simp [intOf]; omega
    · obtain rfl : k = l.length := by omega
      go_wp2
      go_ret
      exact ⟨rfl, hW⟩

set_option maxHeartbeats 1600000 in
theorem markIntS_any (B : Nat) (v : Value) (l : List Int) (k : Nat) (w : World) (hO : OwnInts B v l w) (hn : l.length ≤ 1048576) (hk2 : k ≤ 1000000000000) :
    Calls Tryz.prog 48 #[v, .int .i64 (k : Int)] w fun e w' => e = .returned (.int .i64 ((k : Int) + (l.length : Nat))) ∧ OwnInts B v (markInts k l.length) w' ∧ Chg (fun g => v.ownBlock = some g) w w' := by
  obtain ⟨A, c, rfl, hc1, hc2, -⟩ := hO.at_
  unfold maxLen at hc2
  go_enter Tryz.func48, Tryz.ntmps48
  go_wp2
  go_loopw [1, 5] (fun x j wr => ∃ i : Nat, i ≤ l.length ∧ j = .int .i64 (i : Int) ∧ x = .int .i64 ((k : Int) + (i : Int)) ∧ OwnInts B (.slice A l.length c) (markInts k i ++ l.drop i) wr ∧ Chg (fun g => (Value.slice A l.length c).ownBlock = some g) w wr) (fun _ j _ => l.length - (intOf j).toNat)
  case atStart => exact ⟨0, by omega, rfl, by go_num, hO, Chg.refl _ _⟩
  case round =>
    obtain ⟨i, hi, rfl, rfl, hO1, hW⟩ := hrel
    by_cases hlt : i < l.length
    · have hlen : (markInts k i ++ l.drop i).length = l.length := by rw [List.length_append, markInts_len, List.length_drop]; omega
      obtain ⟨g, cap, hv, hg0, hg1⟩ := World.ownsRow.form hO1 (by omega)
      simp only [Value.slice.injEq] at hv
      obtain ⟨rfl, hv1, rfl⟩ := hv
      clear hv1
      have hkl : i < (markInts k i ++ l.drop i).length := by omega
      have d0 := hO1.cell hlen i hkl
      have hfz := hO1.frozen hlen
      have hS := hO1.set hlen i ((k + i : Nat) : Int)
      rw [markInts_set l k i hlt, show ((k + i : Nat) : Int) = (k : Int) + (i : Int) by omega] at hS
      have HS := Lib.hid hS
      clear hlen hS
      go_wp2
      go_roundw
      case rel => exact ⟨i + 1, by omega, by go_num, by go_num, HS.out, hW.setCell (p := ⟨g, i, none⟩) rfl _⟩
      case measure => simp [intOf]; omega
    · obtain rfl : i = l.length := by omega
      have hO' : OwnInts B (.slice A l.length c) (markInts k l.length) wr := by simpa using hO1
      clear hO1
      go_wp2
      go_ret
      exact ⟨rfl, hO', hW⟩

theorem markIntS_c (B C : Nat) (v : Value) (l : List Int) (k : Nat) (w : World) (h : IntS_own B C v l w) (hn : IntS_sz l ≤ 1048576) (_ : 1 ≤ k) (hk : k ≤ 1000000000) :
    Calls Tryz.prog 48 #[v, .int .i64 (k : Int)] w fun e w' => e = .returned (.int .i64 ((k + IntS_cnt l : Nat) : Int)) ∧ IntS_own B C v (IntS_mk k l) w' ∧ Chg (Mid B C) w w' :=
  (markIntS_any B v l k w h.1 hn (by omega)).mono fun _ _ ⟨he, ho, hc⟩ => ⟨by rw [he, Int.natCast_add]; rfl, ⟨ho, h.2⟩, hc.mono fun g hg => ⟨(h.1.lt g hg).1, h.2 g hg⟩⟩

set_option maxHeartbeats 400000 in
theorem szIntS_any (v : Value) (l : List Int) (B : Nat) (left : Int) (w : World) (hl : IntsAt w B v l) (h0 : 0 ≤ left) (h1 : left ≤ 1048576) :
    Calls Tryz.prog 63 #[v, .int .i64 left] w fun e w' => e = .returned (.int .i64 (szLeft left (l.length : Nat))) ∧ w = w' := by
  obtain ⟨A, c, rfl, hlc, hcm, -⟩ := hl
  unfold maxLen at hcm
  by_cases h : ((l.length : Nat) : Int) ≤ left
  · rw [szLeft_yes h]
    go_enter Tryz.func63, Tryz.ntmps63
    go_wp2
    go_ret
    exact ⟨rfl, rfl⟩
  · rw [szLeft_no h]
    go_enter Tryz.func63, Tryz.ntmps63
    go_wp2
    go_ret
    exact ⟨rfl, rfl⟩

theorem szLeft_add {left a b : Int} : szLeft (left - a) b = szLeft left (a + b) := by
  unfold szLeft; split <;> split <;> omega

def GivesInts (l : List Int) (w : World) (e : Ending) (w' : World) : Prop := ∃ v, e = .returned v ∧ OwnInts w.heap.size v l w' ∧ Below w.heap.size w w'
theorem take_zero_ints (l : List Int) (k : Nat) (h : k < l.length) : (l.take k ++ List.replicate (l.length - k) 0).set k l[k] = l.take (k + 1) ++ List.replicate (l.length - (k + 1)) 0 := by
  rw [List.set_append_right _ _ (by simp; omega), List.length_take_of_le (by omega), Nat.sub_self, List.take_succ_eq_append_getElem h, show l.length - k = (l.length - (k + 1)) + 1 by omega, List.replicate_succ, List.set_cons_zero, List.append_assoc]
  rfl
set_option maxHeartbeats 800000 in
theorem toIntS_any (v : Value) (l : List Int) (w : World) (hl : IntsAt w w.heap.size v l) (hn : l.length ≤ 1048576) :
    Calls Tryz.prog 64 #[v] w (GivesInts l w) := by
  have HL := Lib.hid hl
  obtain ⟨A, c, rfl, hlc, hcm, -⟩ := hl
  unfold maxLen at hcm
  have hmk := fun w => make_ints w l.length l.length (Nat.le_refl _) hn
  go_enter Tryz.func64, Tryz.ntmps64
  go_wp2
  clear hmk
  go_loopw [4] (fun i wr => ∃ k : Nat, k ≤ l.length ∧ i = .int .i64 k ∧ OwnInts w.heap.size (.slice (some ⟨w.heap.size, 0, none⟩) l.length l.length) (l.take k ++ List.replicate (l.length - k) 0) wr ∧ Below w.heap.size w wr) (fun i _ => l.length - (intOf i).toNat)
  case atStart => exact ⟨0, by omega, rfl, OwnInts.full w _ hn _ (Nat.le_refl _), (Below.refl _ _).alloc (Nat.le_refl _) _⟩
  case round =>
    obtain ⟨k, hk, rfl, hO, hW⟩ := hrel
    have hz := hW.size
    by_cases hlt : k < l.length
    · obtain ⟨b, off, rfl, hb, c0⟩ := IntsAt.elem (HL.out.below hW (Nat.le_refl _)) k hlt
      have hlen : (l.take k ++ List.replicate (l.length - k) (0 : Int)).length = l.length := by simp; omega
      have HLen := Lib.hid hlen
      have hkl : k < (l.take k ++ List.replicate (l.length - k) (0 : Int)).length := by omega
      have d0 := hO.cell hlen k hkl
      have hfz := hO.frozen hlen
      have HS := Lib.hid (hO.set hlen k l[k])
      clear hlen
      go_wp2
      go_roundw
      case rel => exact ⟨k + 1, by omega, by go_num, by rw [← take_zero_ints l k hlt]; exact HS.out, hW.setCell (Nat.le_refl _) _⟩
      case measure => simp [intOf]; omega
    · obtain rfl : k = l.length := by omega
      have hO' : OwnInts w.heap.size (.slice (some ⟨w.heap.size, 0, none⟩) l.length l.length) l wr := by simpa using hO
      clear hO
      go_wp2
      go_ret
      exact ⟨_, rfl, hO', hW⟩

set_option maxHeartbeats 400000 in
theorem eqAtom_any (r : Int) (v u : Value) (l : List Int) (w : World) (hl : IntsAt w w.heap.size v l) (hm : IntsAt w w.heap.size u l) :
    Calls Tryz.prog 62 #[.agg #[.int .i64 r, v], .agg #[.int .i64 r, u]] w fun e w' => e = .returned (.bool true) ∧ Below w.heap.size w w' := by
  have hb : Below w.heap.size w ((w.alloc (.cells #[.int .i64 r, v] 72)).alloc (.cells #[.int .i64 r, u] 72)) := below_more (below_more (Below.refl _ _) _) _
  have hcon := eqIntS_any v u l _ ((hl.below hb (Nat.le_refl _)).more hb.size) ((hm.below hb (Nat.le_refl _)).more hb.size)
  clear hl hm
  go_enter Tryz.func62, Tryz.ntmps62
  go_wp2_with fail
  refine hcon.mono ?_
  rintro e w' ⟨rfl, hb'⟩
  go_wp2
  go_ret
  exact ⟨rfl, hb.trans (hb'.mono hb.size)⟩

theorem eqAtom_c (v u : Value) (x : Atm) (w : World) (h : Atom_at w w.heap.size v x) (h' : Atom_at w w.heap.size u x) :
    Calls Tryz.prog 62 #[v, u] w fun e w' => e = .returned (.bool true) ∧ Below w.heap.size w w' := by
  obtain ⟨V, rfl, h⟩ := h
  obtain ⟨U, rfl, h'⟩ := h'
  exact eqAtom_any x.rel V U x.vals w h h'

set_option maxHeartbeats 400000 in
theorem szAtom_any (r : Int) (v : Value) (l : List Int) (left : Int) (w : World) (hl : IntsAt w w.heap.size v l) (h0 : 0 ≤ left) (h1 : left ≤ 1048576) :
    Calls Tryz.prog 49 #[.agg #[.int .i64 r, v], .int .i64 left] w fun e w' => e = .returned (.int .i64 (szLeft left (l.length : Nat))) ∧ Below w.heap.size w w' := by
  have hb : Below w.heap.size w (w.alloc (.cells #[.int .i64 r, v] 81)) := (Below.refl _ _).alloc (Nat.le_refl _) _
  have hcon := szIntS_any v l w.heap.size left _ (hl.below hb (Nat.le_refl _)) h0 h1
  clear hl
  by_cases h : ((l.length : Nat) : Int) ≤ left
  all_goals
    first | rw [szLeft_yes h] at hcon ⊢ | rw [szLeft_no h] at hcon ⊢
    go_enter Tryz.func49, Tryz.ntmps49
    go_wp2_with fail
    refine hcon.mono ?_
    rintro e w' ⟨rfl, rfl⟩
    go_wp2
    go_ret
    exact ⟨rfl, hb⟩

theorem szAtom_c (v : Value) (x : Atm) (left : Int) (w : World) (h : Atom_at w w.heap.size v x) (_ : Atom_wf x) (h0 : 0 ≤ left) (h1 : left ≤ 1048576) :
    Calls Tryz.prog 49 #[v, .int .i64 left] w fun e w' => e = .returned (.int .i64 (szLeft left (Atom_sz x : Nat))) ∧ Below w.heap.size w w' := by
  obtain ⟨V, rfl, h⟩ := h
  exact szAtom_any x.rel V x.vals left w h h0 h1

set_option maxHeartbeats 800000 in
theorem toAtom_any (r : Int) (v : Value) (l : List Int) (w : World) (hl : IntsAt w w.heap.size v l) (hn : l.length ≤ 1048576) :
    Calls Tryz.prog 54 #[.agg #[.int .i64 r, v]] w fun e w' => ∃ u, e = .returned (.agg #[.int .i64 r, u]) ∧ OwnInts w.heap.size u l w' ∧ Below w.heap.size w w' := by
  have hcon := fun w' (hb : Below w.heap.size w w') => toIntS_any v l w' ((hl.below hb (Nat.le_refl _)).more hb.size) hn
  have HC := Lib.hid hcon
  clear hcon hl
  go_enter Tryz.func54, Tryz.ntmps54
  go_wp2_with fail
  have hb3 : Below w.heap.size w (((w.alloc (.cells #[.int .i64 r, v] 81)).alloc (.cells #[.int .i64 0, .slice none 0 0] 72)).alloc (.cells #[.int .i64 r, .slice none 0 0] 72)) := below_more (below_more (below_more (Below.refl _ _) _) _) _
  refine (HC.out _ hb3).mono ?_
  rintro e w' ⟨u, rfl, hO, hb'⟩
  obtain ⟨hc, hfz⟩ := bcell hb'
  obtain ⟨A, c, rfl, -, -, -⟩ := hO.at_
  have HB := Lib.hid hb'
  have HB3 := Lib.hid hb3
  have HO := Lib.hid hO
  clear hO hb' hb3
  go_wp2
  refine bodyPost_ret (v := .agg #[.int .i64 r, .slice A l.length c]) (by simp [results, Tryz.results54, go_sem, hc]) rfl ⟨_, rfl, ?_, ?_⟩
  · have hC : Chg (fun k => k < w.heap.size + 3) w' (((w'.setCell ⟨w.heap.size + 1 + 1, 1, none⟩ (.slice A l.length c)).setCell ⟨w.heap.size + 1, 0, none⟩ (.int .i64 r)).setCell ⟨w.heap.size + 1, 1, none⟩ (.slice A l.length c)) :=
      (((Chg.refl _ _).setCell (p := ⟨w.heap.size + 1 + 1, 1, none⟩) (by show _ < _; simp) _).setCell (p := ⟨w.heap.size + 1, 0, none⟩) (by show _ < _; simp) _).setCell (p := ⟨w.heap.size + 1, 1, none⟩) (by show _ < _; simp) _
    refine (OwnInts.chg HO.out hC (fun g hg hlt => ?_)).mono HB3.out.size
    have := (HO.out.lt g hg).1
    simp at this; omega
  · exact (((HB3.out.trans (HB.out.mono HB3.out.size)).setCell (p := ⟨w.heap.size + 1 + 1, 1, none⟩) (by show _ ≤ _; simp; omega) _).setCell (p := ⟨w.heap.size + 1, 0, none⟩) (by show _ ≤ _; simp) _).setCell (p := ⟨w.heap.size + 1, 1, none⟩) (by show _ ≤ _; simp) _

theorem toAtom_c (v : Value) (x : Atm) (w : World) (h : Atom_at w w.heap.size v x) (hn : Atom_sz x ≤ 1048576) :
    Calls Tryz.prog 54 #[v] w fun e w' => ∃ u, e = .returned u ∧ Atom_own w.heap.size w'.heap.size u x w' ∧ Below w.heap.size w w' := by
  obtain ⟨V, rfl, h⟩ := h
  exact (toAtom_any x.rel V x.vals w h hn).mono fun _ _ ⟨u, he, ho, hb⟩ => ⟨_, he, ⟨u, rfl, IntsO.of ho⟩, hb⟩

end Go.Proofs.YtakflmaeclneiaaGreat
