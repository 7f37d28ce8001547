/-
  Walks and plain lemmas for the laws of this seat: what single Go functions return, for every argument.
-/
import Derived.Test.YtbdgdphehbkjgaaNum
import Derived.Test.YtbdgdphehbkjgaaFact
import Derived.Test.YtbdgdphehbkjgaaInts
import Derived.Test.YtbdgdphehbkjgaaTyFact
namespace Go.Proofs.Ytbdgdphehbkjgaa
open Go.RowKit

set_option maxHeartbeats 3200000 in
set_option maxRecDepth 100000 in
theorem specPut_any (B g cap : Nat) (l : List Int) (x : Int) (w : World) (hO : OwnInts B (.slice (some ⟨g, 0, none⟩) l.length cap) l w) (hB : B ≤ w.heap.size) (hn : l.length ≤ 1048576) :
    Calls Try.prog 84 #[.slice (some ⟨g, 0, none⟩) l.length cap, .int .i64 x] w fun e w' => ∃ g' cap', e = .returned (.slice (some ⟨g', 0, none⟩) (putI l x).length cap') ∧ OwnInts B (.slice (some ⟨g', 0, none⟩) (putI l x).length cap') (putI l x) w' ∧ Below w.heap.size w w' := by
  have HO := Lib.hid hO
  have HL := Lib.hid hO.at_
  obtain ⟨_, _, hv, hlc, hcm, -⟩ := hO.at_
  injection hv with h1 _ h2
  subst h1 h2
  have hg := (hO.lt g rfl).2
  clear hO
  unfold maxLen at hcm
  go_enter Try.func84, Try.ntmps84
  go_wp2
  go_loop [5] (fun i => ∃ k : Nat, k ≤ l.length ∧ i = .int .i64 k ∧ Hid (PutTo l x k)) (fun i => l.length - (intOf i).toNat)
  case atStart => exact ⟨0, by omega, rfl, Lib.hid (PutTo.zero l x)⟩
  case round =>
    obtain ⟨k, hk, rfl, HT⟩ := hrel
    by_cases hlt : k < l.length
    · obtain ⟨b, off, hA, hb, c0⟩ := IntsAt.elem HL.out k hlt
      obtain ⟨rfl, rfl⟩ : g = b ∧ 0 = off := by simpa using hA
      clear hA
      rw [Nat.zero_add] at c0
      by_cases h1 : l[k] < x
      · have HN := Lib.hid (HT.out.next hlt h1)
        go_wp2
        go_round
        case rel => exact ⟨k + 1, by omega, by go_num, HN⟩
        case measure => simp [intOf]; omega
      · by_cases h2 : l[k] = x
        · have HV := Lib.hid (HT.out.hit hlt h2)
          have hb2 : (l[k] == x) = true := by rw [h2]; exact beq_self_eq_true x
          clear h2
          go_wp2
          go_ret
          exact ⟨g, cap, by rw [HV.out]; rfl, by rw [HV.out]; exact HO.out, Below.refl _ _⟩
        · have HV := Lib.hid (HT.out.stop hlt (by omega))
          have hb2 : (l[k] == x) = false := beq_eq_false_iff_ne.2 h2
          have hck : ¬ cap - k = 0 := by omega
          clear h2
          go_wp2_with (first
            | (at_builtin; refine ints_apps (r := l.drop k) (OwnInts.one w w.heap.size x (Nat.le_refl _)) rfl _ _ rfl rfl (some ⟨g, k, none⟩) (l.length - k) (cap - k) rfl (by simp) (by simpa using (SliceAt.drop (k := 1) (fun _ => rfl) ((HL.out.below ((Below.refl _ _).alloc (Nat.le_refl _) (.cells #[.int .i64 x] 3)) (Nat.le_refl _))) k hk)) (fun h => by cases h) (by simp <;> omega) (by simp) ?_; intro v1 w1 hO1 hW1 _ _; have hz1 := hW1.size; simp at hz1; obtain ⟨g1, cap1, rfl, _, hg1, hc1, hc2⟩ := hO1.form (by simp); have hw1 : Below w.heap.size w w1 := ((Below.refl _ _).alloc (Nat.le_refl _) _).trans hW1; have HO1 := Lib.hid hO1.at_; clear hO1 hW1)
            | (at_builtin; refine ints_apps (r := l.take k) (OwnInts.empty w1 w1.heap.size (Nat.le_refl _)) rfl _ _ rfl rfl (some ⟨g, 0, none⟩) k cap rfl (by simp <;> omega) (SliceAt.take ((HL.out.below hw1 (Nat.le_refl _)).below ((Below.refl w1.heap.size w1).alloc (Nat.le_refl _) _) (by omega)) k (by omega)) (fun h => by cases h) (by simp <;> omega) (by simp) ?_; intro v2 w2 hO2 hW2 _ _; have hz2 := hW2.size; simp at hz2; have hw2 : Below w1.heap.size w1 w2 := ((Below.refl _ _).alloc (Nat.le_refl _) _).trans hW2)
            | (at_builtin; refine ints_apps (r := [x] ++ l.drop k) hO2 rfl _ _ rfl rfl (some ⟨g1, 0, none⟩) _ cap1 rfl (by simp <;> omega) (HO1.out.below hw2 (Nat.le_refl _)) (fun h => by cases h) (by simp <;> omega) (by omega) ?_; intro v3 w3 hO3 hW3 _ _; obtain ⟨g3, cap3, rfl, -, -, -, -⟩ := hO3.form (by simp <;> omega)))
          have he : [] ++ l.take k ++ ([x] ++ l.drop k) = putI l x := by rw [HV.out]; simp
          rw [he] at hO3
          have hlen : (putI l x).length = k + (l.length - k + 1) := by rw [HV.out]; simp <;> omega
          go_ret
          exact ⟨g3, cap3, by rw [hlen]; rfl, hO3.mono (by omega), hw1.trans ((hw2.trans hW3).mono (by omega))⟩
    · obtain rfl : k = l.length := by omega
      have HV := Lib.hid (HT.out.last rfl)
      by_cases hcl : cap = l.length
      · subst hcl
        go_wp2_with (first
          | (at_builtin; refine ints_apps (r := l.drop l.length) (OwnInts.one w w.heap.size x (Nat.le_refl _)) rfl _ _ rfl rfl (some ⟨g, 0, none⟩) 0 0 rfl (by simp) (by simpa [List.drop_length] using (SliceAt.none_of (f := intCell) (w := w.alloc (.cells #[.int .i64 x] 3)) (B := w.heap.size) (A := some ⟨g, 0, none⟩) (c := 0) (by decide) (fun e => by cases e))) (fun h => by cases h) (by simp <;> omega) (by simp) ?_; intro v1 w1 hO1 hW1 _ _; have hz1 := hW1.size; simp at hz1; obtain ⟨g1, cap1, rfl, _, hg1, hc1, hc2⟩ := hO1.form (by simp); have hw1 : Below w.heap.size w w1 := ((Below.refl _ _).alloc (Nat.le_refl _) _).trans hW1; have HO1 := Lib.hid hO1.at_; clear hO1 hW1)
          | (at_builtin; refine ints_apps (r := l.take l.length) (OwnInts.empty w1 w1.heap.size (Nat.le_refl _)) rfl _ _ rfl rfl (some ⟨g, 0, none⟩) l.length l.length rfl (by simp) (SliceAt.take ((HL.out.below hw1 (Nat.le_refl _)).below ((Below.refl w1.heap.size w1).alloc (Nat.le_refl _) _) (by omega)) l.length (by omega)) (fun h => by cases h) (by simp <;> omega) (by simp) ?_; intro v2 w2 hO2 hW2 _ _; have hz2 := hW2.size; simp at hz2; have hw2 : Below w1.heap.size w1 w2 := ((Below.refl _ _).alloc (Nat.le_refl _) _).trans hW2)
          | (at_builtin; refine ints_apps (r := [x] ++ l.drop l.length) hO2 rfl _ _ rfl rfl (some ⟨g1, 0, none⟩) _ cap1 rfl (by simp <;> omega) (HO1.out.below hw2 (Nat.le_refl _)) (fun h => by cases h) (by simp <;> omega) (by omega) ?_; intro v3 w3 hO3 hW3 _ _; obtain ⟨g3, cap3, rfl, -, -, -, -⟩ := hO3.form (by simp <;> omega)))
        have he : [] ++ l.take l.length ++ ([x] ++ l.drop l.length) = putI l x := by rw [HV.out]; simp
        rw [he] at hO3
        have hlen : (putI l x).length = l.length + 1 := by rw [HV.out]; simp
        go_ret
        exact ⟨g3, cap3, by rw [hlen]; rfl, hO3.mono (by omega), hw1.trans ((hw2.trans hW3).mono (by omega))⟩
      · have hck : ¬ cap - l.length = 0 := by omega
        go_wp2_with (first
          | (at_builtin; refine ints_apps (r := l.drop l.length) (OwnInts.one w w.heap.size x (Nat.le_refl _)) rfl _ _ rfl rfl (some ⟨g, l.length, none⟩) 0 (cap - l.length) rfl (by simp) (by simpa using (SliceAt.drop (k := 1) (fun _ => rfl) ((HL.out.below ((Below.refl _ _).alloc (Nat.le_refl _) (.cells #[.int .i64 x] 3)) (Nat.le_refl _))) l.length (Nat.le_refl _))) (fun h => by cases h) (by simp <;> omega) (by simp) ?_; intro v1 w1 hO1 hW1 _ _; have hz1 := hW1.size; simp at hz1; obtain ⟨g1, cap1, rfl, _, hg1, hc1, hc2⟩ := hO1.form (by simp); have hw1 : Below w.heap.size w w1 := ((Below.refl _ _).alloc (Nat.le_refl _) _).trans hW1; have HO1 := Lib.hid hO1.at_; clear hO1 hW1)
          | (at_builtin; refine ints_apps (r := l.take l.length) (OwnInts.empty w1 w1.heap.size (Nat.le_refl _)) rfl _ _ rfl rfl (some ⟨g, 0, none⟩) l.length cap rfl (by simp) (SliceAt.take ((HL.out.below hw1 (Nat.le_refl _)).below ((Below.refl w1.heap.size w1).alloc (Nat.le_refl _) _) (by omega)) l.length (by omega)) (fun h => by cases h) (by simp <;> omega) (by simp) ?_; intro v2 w2 hO2 hW2 _ _; have hz2 := hW2.size; simp at hz2; have hw2 : Below w1.heap.size w1 w2 := ((Below.refl _ _).alloc (Nat.le_refl _) _).trans hW2)
          | (at_builtin; refine ints_apps (r := [x] ++ l.drop l.length) hO2 rfl _ _ rfl rfl (some ⟨g1, 0, none⟩) _ cap1 rfl (by simp <;> omega) (HO1.out.below hw2 (Nat.le_refl _)) (fun h => by cases h) (by simp <;> omega) (by omega) ?_; intro v3 w3 hO3 hW3 _ _; obtain ⟨g3, cap3, rfl, -, -, -, -⟩ := hO3.form (by simp <;> omega)))
        have he : [] ++ l.take l.length ++ ([x] ++ l.drop l.length) = putI l x := by rw [HV.out]; simp
        rw [he] at hO3
        have hlen : (putI l x).length = l.length + 1 := by rw [HV.out]; simp
        go_ret
        exact ⟨g3, cap3, by rw [hlen]; rfl, hO3.mono (by omega), hw1.trans ((hw2.trans hW3).mono (by omega))⟩
set_option maxHeartbeats 1600000 in
set_option maxRecDepth 100000 in
theorem specNullsOfFact_any (r : Int) (V : Value) (vs : List Int) (w : World) (hV : IntsAt w w.heap.size V vs) (hw : IntsWf vs) :
    Calls Try.prog 70 #[.agg #[.int .i64 r, V]] w fun e w' => ∃ u, e = .returned u ∧ OwnInts w.heap.size u (nullsOf vs) w' ∧ Below w.heap.size w w' := by
  have HV := Lib.hid hV
  obtain ⟨A', c', rfl, hlc', hcm', -⟩ := hV
  unfold maxLen at hcm'
  have hE : Below w.heap.size w (w.alloc (.cells #[.int .i64 r, .slice A' vs.length c'] 30)) := (Below.refl _ _).alloc (Nat.le_refl _) _
  have hEz : w.heap.size + 1 ≤ (w.alloc (.cells #[.int .i64 r, .slice A' vs.length c'] 30)).heap.size := by simp
  have K1 := Lib.hid (show (w.alloc (.cells #[.int .i64 r, .slice A' vs.length c'] 30)).cell? ⟨w.heap.size, 1, none⟩ = some (.slice A' vs.length c') by simp [go_sem])
  go_enter Try.func70, Try.ntmps70
  go_wp2
  go_loopw [3, 4, 5, 6] (fun o i _ _ wr => ∃ k g cap : Nat, k ≤ vs.length ∧ i = .int .i64 k ∧ o = .slice (some ⟨g, 0, none⟩) (nullsOf (vs.take k)).length cap ∧ OwnInts (w.heap.size + 1) o (nullsOf (vs.take k)) wr ∧ Below (w.heap.size + 1) (w.alloc (.cells #[.int .i64 r, .slice A' vs.length c'] 30)) wr) (fun _ i _ _ _ => vs.length - (intOf i).toNat)
  case atStart => exact ⟨0, _, _, by omega, rfl, rfl, by simpa [nullsOf] using OwnInts.empty (w.alloc (.cells #[.int .i64 r, .slice A' vs.length c'] 30)) (w.heap.size + 1) (by simp), (Below.refl _ _).alloc (by simp) _⟩
  case round =>
    obtain ⟨k, g, cap, hk, rfl, rfl, hO, hW⟩ := hrel
    have hz := hW.size
    simp at hz
    have f1 := (hW.cell (p := ⟨w.heap.size, 1, none⟩) (by show w.heap.size < _; omega)).trans K1.out
    have hWw : Below w.heap.size w wr := hE.trans (hW.mono (by omega))
    by_cases hlt : k < vs.length
    · obtain ⟨b', off', rfl, hb', d0⟩ := IntsAt.elem HV.out k hlt
      replace d0 := (hWw.cell (p := ⟨b', off' + k, none⟩) hb').trans d0
      have HN := Lib.hid (nullsOf_take vs k hlt)
      have hlen := (AscN.nullsOf vs k).len
      have hnn := specNullNumber_any vs[k] wr (hw k hlt).1 (hw k hlt).2
      cases hb : (nullNum vs[k]).2 with
      | true =>
        have HA := Lib.hid (HN.out.trans (if_pos hb))
        have hput := specPut_any (w.heap.size + 1) g cap (nullsOf (vs.take k)) (nullNum vs[k]).1 wr hO (by omega) (by omega)
        rw [hb] at hnn
        rw [← HA.out] at hput
        clear hb hO
        go_wp2_with (first | (go_at_call 111; refine hnn.mono ?_; rintro e w2 ⟨rfl, rfl⟩) | (go_at_call 84; refine hput.mono ?_; rintro e w3 ⟨g2, cap2, rfl, hO2, hb2⟩))
        go_roundw
        case rel => exact ⟨k + 1, g2, cap2, by omega, by go_num, rfl, hO2, hW.trans (hb2.mono (by omega))⟩
        case measure => simp [intOf]; omega
      | false =>
        have HA := Lib.hid (HN.out.trans (if_neg (by rw [hb]; simp)))
        rw [hb] at hnn
        have HO' := Lib.hid (show OwnInts (w.heap.size + 1) (.slice (some ⟨g, 0, none⟩) (nullsOf (vs.take k)).length cap) (nullsOf (vs.take (k + 1))) wr by rw [HA.out]; exact hO)
        have hl : (nullsOf (vs.take (k + 1))).length = (nullsOf (vs.take k)).length := by rw [HA.out]
        clear hb
        go_wp2_with (first | (go_at_call 111; refine hnn.mono ?_; rintro e w2 ⟨rfl, rfl⟩))
        go_roundw
        case rel => exact ⟨k + 1, g, cap, by omega, by go_num, by rw [hl], HO'.out, hW⟩
        case measure => simp [intOf]; omega
    · obtain rfl : k = vs.length := by omega
      have he : nullsOf (vs.take vs.length) = nullsOf vs := by rw [List.take_of_length_le (Nat.le_refl _)]
      have hO' := hO
      rw [he] at hO'
      have HO := Lib.hid (hO'.mono (B' := w.heap.size) (by omega))
      clear hO hO'
      go_wp2
      go_ret
      exact ⟨.slice (some ⟨g, 0, none⟩) (nullsOf vs).length cap, by rw [he]; rfl, HO.out, hWw⟩
theorem nullsOf_len (vs : List Int) : (nullsOf vs).length ≤ 40 := by
  have := (AscN.nullsOf vs vs.length).len
  rwa [List.take_of_length_le (Nat.le_refl _)] at this
def NullsOfFact_r0 (x : Fct) : List Int := nullsOf x.vals
theorem specNullsOfFact_c (v : Value) (x : Fct) (w : World) (h : Fact_at w w.heap.size v x) (hw : Fact_wf x) (_ : Fact_sz x ≤ 1048576) :
    Calls Try.prog 70 #[v] w fun e w' => ∃ u, e = .returned u ∧ IntS_at w' w'.heap.size u (NullsOfFact_r0 x) ∧ Below w.heap.size w w' := by
  obtain ⟨V, rfl, h⟩ := h
  exact (specNullsOfFact_any x.rel V x.vals w h hw.2).mono fun _ _ ⟨u, he, ho, hb⟩ => ⟨u, he, ho.at_, hb⟩

end Go.Proofs.Ytbdgdphehbkjgaa
