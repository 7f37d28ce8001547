/-
  Walks and plain lemmas for the laws of this seat: what single Go functions return, for every argument.
-/
import Derived.Test.YtobdijcnfmgidaaBase
import Derived.Test.YtobdijcnfmgidaaInts
import Derived.Test.YtobdijcnfmgidaaRel
import Derived.Test.YtobdijcnfmgidaaTyInst
namespace Go.Proofs.Ytobdijcnfmgidaa
open Go.RowKit

set_option maxHeartbeats 800000 in
theorem eqIntS_any (v u : Value) (l : List Int) (w : World) (hl : IntsAt w w.heap.size v l) (hm : IntsAt w w.heap.size u l) :
    Calls Try.prog 143 #[v, u] w fun e w' => e = .returned (.bool true) ∧ Below w.heap.size w w' := by
  have HL := Lib.hid hl
  have HM := Lib.hid hm
  obtain ⟨A, c, rfl, hlc, hcm, -⟩ := hl
  obtain ⟨A', c', rfl, hlc', hcm', -⟩ := hm
  unfold maxLen at hcm hcm'
  go_enter Try.func143, Try.ntmps143
  go_wp2
  go_loopw [5] (fun i wr => ∃ k : Nat, k ≤ l.length ∧ i = .int .i64 k ∧ Below w.heap.size w wr) (fun i _ => l.length - (intOf i).toNat)
  case atStart => exact ⟨0, by omega, rfl, Below.refl _ _⟩
  case round =>
    obtain ⟨k, hk, rfl, hW⟩ := hrel
    by_cases hlt : k < l.length
    · obtain ⟨b, off, rfl, hb, c0⟩ := IntsAt.elem HL.out k hlt
      obtain ⟨b', off', rfl, hb', d0⟩ := IntsAt.elem HM.out k hlt
      have C0 := Aft.cell hb c0
      have D0 := Aft.cell hb' d0
      clear c0 d0
      go_wp2
      refine wp_region_aft hW (by kernel_rfl) (by kernel_rfl) ?_
      repeat (go_big_quiet_step (fail))
      refine wpQuiet_nil ?_
      refine aft_end ?_
      intro w1 hh
      go_wp2
      go_roundw
      case rel => exact ⟨k + 1, by omega, by go_num, hh⟩
      case measure => simp [intOf]; omega
    · obtain rfl : k = l.length := by omega
      go_wp2
      go_ret
      exact ⟨rfl, hW⟩

set_option maxHeartbeats 400000 in
theorem eqFact_any (r : Int) (v u : Value) (l : List Int) (w : World) (hl : IntsAt w w.heap.size v l) (hm : IntsAt w w.heap.size u l) :
    Calls Try.prog 110 #[.agg #[.int .i64 r, v], .agg #[.int .i64 r, u]] w fun e w' => e = .returned (.bool true) ∧ Below w.heap.size w w' := by
  have hb : Below w.heap.size w ((w.alloc (.cells #[.int .i64 r, v] 44)).alloc (.cells #[.int .i64 r, u] 44)) := below_more (below_more (Below.refl _ _) _) _
  have hcon := eqIntS_any v u l _ ((hl.below hb (Nat.le_refl _)).more hb.size) ((hm.below hb (Nat.le_refl _)).more hb.size)
  clear hl hm
  go_enter Try.func110, Try.ntmps110
  go_wp2_with fail
  refine hcon.mono ?_
  rintro e w' ⟨rfl, hb'⟩
  go_wp2
  go_ret
  exact ⟨rfl, hb.trans (hb'.mono hb.size)⟩

theorem eqFact_c (v u : Value) (x : Fct) (w : World) (h : Fact_at w w.heap.size v x) (h' : Fact_at w w.heap.size u x) :
    Calls Try.prog 110 #[v, u] w fun e w' => e = .returned (.bool true) ∧ Below w.heap.size w w' := by
  obtain ⟨V, rfl, h⟩ := h
  obtain ⟨U, rfl, h'⟩ := h'
  exact eqFact_any x.rel V U x.vals w h h'

set_option maxHeartbeats 400000 in
theorem szIntS_any (v : Value) (l : List Int) (B : Nat) (left : Int) (w : World) (hl : IntsAt w B v l) (h0 : 0 ≤ left) (h1 : left ≤ 1048576) :
    Calls Try.prog 141 #[v, .int .i64 left] w fun e w' => e = .returned (.int .i64 (szLeft left (l.length : Nat))) ∧ w = w' := by
  obtain ⟨A, c, rfl, hlc, hcm, -⟩ := hl
  unfold maxLen at hcm
  by_cases h : ((l.length : Nat) : Int) ≤ left
  · rw [szLeft_yes h]
    go_enter Try.func141, Try.ntmps141
    go_wp2
    go_ret
    exact ⟨rfl, rfl⟩
  · rw [szLeft_no h]
    go_enter Try.func141, Try.ntmps141
    go_wp2
    go_ret
    exact ⟨rfl, rfl⟩

set_option maxHeartbeats 400000 in
theorem szFact_any (r : Int) (v : Value) (l : List Int) (left : Int) (w : World) (hl : IntsAt w w.heap.size v l) (h0 : 0 ≤ left) (h1 : left ≤ 1048576) :
    Calls Try.prog 106 #[.agg #[.int .i64 r, v], .int .i64 left] w fun e w' => e = .returned (.int .i64 (szLeft left (l.length : Nat))) ∧ Below w.heap.size w w' := by
  have hb : Below w.heap.size w (w.alloc (.cells #[.int .i64 r, v] 137)) := (Below.refl _ _).alloc (Nat.le_refl _) _
  have hcon := szIntS_any v l w.heap.size left _ (hl.below hb (Nat.le_refl _)) h0 h1
  clear hl
  by_cases h : ((l.length : Nat) : Int) ≤ left
  all_goals
    first | rw [szLeft_yes h] at hcon ⊢ | rw [szLeft_no h] at hcon ⊢
    go_enter Try.func106, Try.ntmps106
    go_wp2_with fail
    refine hcon.mono ?_
    rintro e w' ⟨rfl, rfl⟩
    go_wp2
    go_ret
    exact ⟨rfl, hb⟩

theorem szFact_c (v : Value) (x : Fct) (left : Int) (w : World) (h : Fact_at w w.heap.size v x) (_ : Fact_wf x) (h0 : 0 ≤ left) (h1 : left ≤ 1048576) :
    Calls Try.prog 106 #[v, .int .i64 left] w fun e w' => e = .returned (.int .i64 (szLeft left (Fact_sz x : Nat))) ∧ Below w.heap.size w w' := by
  obtain ⟨V, rfl, h⟩ := h
  exact szFact_any x.rel V x.vals left w h h0 h1

theorem szLeft_add {left a b : Int} : szLeft (left - a) b = szLeft left (a + b) := by
  unfold szLeft; split <;> split <;> omega

def GivesInts (l : List Int) (w : World) (e : Ending) (w' : World) : Prop := ∃ v, e = .returned v ∧ OwnInts w.heap.size v l w' ∧ Below w.heap.size w w'
theorem take_zero_ints (l : List Int) (k : Nat) (h : k < l.length) : (l.take k ++ List.replicate (l.length - k) 0).set k l[k] = l.take (k + 1) ++ List.replicate (l.length - (k + 1)) 0 := by
  rw [List.set_append_right _ _ (by simp; omega), List.length_take_of_le (by omega), Nat.sub_self, List.take_succ_eq_append_getElem h, show l.length - k = (l.length - (k + 1)) + 1 by omega, List.replicate_succ, List.set_cons_zero, List.append_assoc]
  rfl
set_option maxHeartbeats 800000 in
theorem toIntS_any (v : Value) (l : List Int) (w : World) (hl : IntsAt w w.heap.size v l) (hn : l.length ≤ 1048576) :
    Calls Try.prog 142 #[v] w (GivesInts l w) := by
  have HL := Lib.hid hl
  obtain ⟨A, c, rfl, hlc, hcm, -⟩ := hl
  unfold maxLen at hcm
  have hmk := fun w => make_ints w l.length l.length (Nat.le_refl _) hn
  go_enter Try.func142, Try.ntmps142
  go_wp2
  clear hmk
  go_loopw [4] (fun i wr => ∃ k : Nat, k ≤ l.length ∧ i = .int .i64 k ∧ OwnInts w.heap.size (.slice (some ⟨w.heap.size, 0, none⟩) l.length l.length) (l.take k ++ List.replicate (l.length - k) 0) wr ∧ Below w.heap.size w wr) (fun i _ => l.length - (intOf i).toNat)
  case atStart => exact ⟨0, by omega, rfl, OwnInts.full w _ hn _ (Nat.le_refl _), (Below.refl _ _).alloc (Nat.le_refl _) _⟩
  case round =>
    obtain ⟨k, hk, rfl, hO, hW⟩ := hrel
    have hz := hW.size
    by_cases hlt : k < l.length
    · obtain ⟨b, off, rfl, hb, c0⟩ := IntsAt.elem (HL.out.below hW (Nat.le_refl _)) k hlt
      have hlen : (l.take k ++ List.replicate (l.length - k) (0 : Int)).length = l.length := by simp; omega
      have HLen := Lib.hid hlen
      have hkl : k < (l.take k ++ List.replicate (l.length - k) (0 : Int)).length := by omega
      have d0 := hO.cell hlen k hkl
      have hfz := hO.frozen hlen
      have HS := Lib.hid (hO.set hlen k l[k])
      clear hlen
      go_wp2
      go_roundw
      case rel => exact ⟨k + 1, by omega, by go_num, by rw [← take_zero_ints l k hlt]; exact HS.out, hW.setCell (Nat.le_refl _) _⟩
      case measure => simp [intOf]; omega
    · obtain rfl : k = l.length := by omega
      have hO' : OwnInts w.heap.size (.slice (some ⟨w.heap.size, 0, none⟩) l.length l.length) l wr := by simpa using hO
      clear hO
      go_wp2
      go_ret
      exact ⟨_, rfl, hO', hW⟩

set_option maxHeartbeats 800000 in
theorem toFact_any (r : Int) (v : Value) (l : List Int) (w : World) (hl : IntsAt w w.heap.size v l) (hn : l.length ≤ 1048576) :
    Calls Try.prog 108 #[.agg #[.int .i64 r, v]] w fun e w' => ∃ u, e = .returned (.agg #[.int .i64 r, u]) ∧ OwnInts w.heap.size u l w' ∧ Below w.heap.size w w' := by
  have hcon := fun w' (hb : Below w.heap.size w w') => toIntS_any v l w' ((hl.below hb (Nat.le_refl _)).more hb.size) hn
  have HC := Lib.hid hcon
  clear hcon hl
  go_enter Try.func108, Try.ntmps108
  go_wp2_with fail
  have hb3 : Below w.heap.size w (((w.alloc (.cells #[.int .i64 r, v] 137)).alloc (.cells #[.int .i64 0, .slice none 0 0] 44)).alloc (.cells #[.int .i64 r, .slice none 0 0] 44)) := below_more (below_more (below_more (Below.refl _ _) _) _) _
  refine (HC.out _ hb3).mono ?_
  rintro e w' ⟨u, rfl, hO, hb'⟩
  obtain ⟨hc, hfz⟩ := bcell hb'
  obtain ⟨A, c, rfl, -, -, -⟩ := hO.at_
  have HB := Lib.hid hb'
  have HB3 := Lib.hid hb3
  have HO := Lib.hid hO
  clear hO hb' hb3
  go_wp2
  refine bodyPost_ret (v := .agg #[.int .i64 r, .slice A l.length c]) (by simp [results, Try.results108, go_sem, hc]) rfl ⟨_, rfl, ?_, ?_⟩
  · have hC : Chg (fun k => k < w.heap.size + 3) w' (((w'.setCell ⟨w.heap.size + 1 + 1, 1, none⟩ (.slice A l.length c)).setCell ⟨w.heap.size + 1, 0, none⟩ (.int .i64 r)).setCell ⟨w.heap.size + 1, 1, none⟩ (.slice A l.length c)) :=
      (((Chg.refl _ _).setCell (p := ⟨w.heap.size + 1 + 1, 1, none⟩) (by show _ < _; simp) _).setCell (p := ⟨w.heap.size + 1, 0, none⟩) (by show _ < _; simp) _).setCell (p := ⟨w.heap.size + 1, 1, none⟩) (by show _ < _; simp) _
    refine (OwnInts.chg HO.out hC (fun g hg hlt => ?_)).mono HB3.out.size
    have := (HO.out.lt g hg).1
    simp at this; omega
  · exact (((HB3.out.trans (HB.out.mono HB3.out.size)).setCell (p := ⟨w.heap.size + 1 + 1, 1, none⟩) (by show _ ≤ _; simp; omega) _).setCell (p := ⟨w.heap.size + 1, 0, none⟩) (by show _ ≤ _; simp) _).setCell (p := ⟨w.heap.size + 1, 1, none⟩) (by show _ ≤ _; simp) _

theorem toFact_c (v : Value) (x : Fct) (w : World) (h : Fact_at w w.heap.size v x) (hn : Fact_sz x ≤ 1048576) :
    Calls Try.prog 108 #[v] w fun e w' => ∃ u, e = .returned u ∧ Fact_own w.heap.size w'.heap.size u x w' ∧ Below w.heap.size w w' := by
  obtain ⟨V, rfl, h⟩ := h
  exact (toFact_any x.rel V x.vals w h hn).mono fun _ _ ⟨u, he, ho, hb⟩ => ⟨_, he, ⟨u, rfl, IntsO.of ho⟩, hb⟩

end Go.Proofs.Ytobdijcnfmgidaa
