/-
  Walks and plain lemmas for the laws of this seat: what single Go functions return, for every argument.
-/
import Derived.Test.YtakflmaeclneiaaDoorBase
import Derived.Test.YtakflmaeclneiaaDoorRels
import Derived.Test.YtakflmaeclneiaaDoorInts
import Derived.Test.YtakflmaeclneiaaDoorNum
import Derived.Test.YtakflmaeclneiaaDoorGst
namespace Go.Proofs.YtakflmaeclneiaaDoor
open Go.RowKit

set_option maxHeartbeats 3200000 in
set_option maxRecDepth 100000 in
theorem specPut_any (B g cap : Nat) (l : List Int) (x : Int) (w : World) (hO : OwnInts B (.slice (some ⟨g, 0, none⟩) l.length cap) l w) (hB : B ≤ w.heap.size) (hn : l.length ≤ 1048576) :
    Calls Tryd.prog 59 #[.slice (some ⟨g, 0, none⟩) l.length cap, .int .i64 x] w fun e w' => ∃ g' cap', e = .returned (.slice (some ⟨g', 0, none⟩) (putI l x).length cap') ∧ OwnInts B (.slice (some ⟨g', 0, none⟩) (putI l x).length cap') (putI l x) w' ∧ Below w.heap.size w w' := by
  have HO := Lib.hid hO
  have HL := Lib.hid hO.at_
  obtain ⟨_, _, hv, hlc, hcm, -⟩ := hO.at_
  injection hv with h1 _ h2
  subst h1 h2
  have hg := (hO.lt g rfl).2
  clear hO
  unfold maxLen at hcm
  go_enter Tryd.func59, Tryd.ntmps59
  go_wp2
  go_loop [5] (fun i => ∃ k : Nat, k ≤ l.length ∧ i = .int .i64 k ∧ Hid (PutTo l x k)) (fun i => l.length - (intOf i).toNat)
  case atStart => exact ⟨0, by omega, rfl, Lib.hid (PutTo.zero l x)⟩
  case round =>
    obtain ⟨k, hk, rfl, HT⟩ := hrel
    by_cases hlt : k < l.length
    · obtain ⟨b, off, hA, hb, c0⟩ := IntsAt.elem HL.out k hlt
      obtain ⟨rfl, rfl⟩ : g = b ∧ 0 = off := by simpa using hA
      clear hA
      rw [Nat.zero_add] at c0
      by_cases h1 : l[k] < x
      · have HN := Lib.hid (HT.out.next hlt h1)
        go_wp2
        go_round
        case rel => exact ⟨k + 1, by omega, by go_num, HN⟩
        case measure => simp [intOf]; omega
      · by_cases h2 : l[k] = x
        · have HV := Lib.hid (HT.out.hit hlt h2)
          have hb2 : (l[k] == x) = true := by rw [h2]; exact beq_self_eq_true x
          clear h2
          go_wp2
          go_ret
          exact ⟨g, cap, by rw [HV.out]; rfl, by rw [HV.out]; exact HO.out, Below.refl _ _⟩
        · have HV := Lib.hid (HT.out.stop hlt (by omega))
          have hb2 : (l[k] == x) = false := beq_eq_false_iff_ne.2 h2
          have hck : ¬ cap - k = 0 := by omega
          clear h2
          go_wp2_with (first
            | (at_builtin; refine ints_apps (r := l.drop k) (OwnInts.one w w.heap.size x (Nat.le_refl _)) rfl _ _ rfl rfl (some ⟨g, k, none⟩) (l.length - k) (cap - k) rfl (by simp) (by simpa using (SliceAt.drop (k := 1) (fun _ => rfl) ((HL.out.below ((Below.refl _ _).alloc (Nat.le_refl _) (.cells #[.int .i64 x] 3)) (Nat.le_refl _))) k hk)) (fun h => by cases h) (by simp <;> omega) (by simp) ?_; intro v1 w1 hO1 hW1 _ _; have hz1 := hW1.size; simp at hz1; obtain ⟨g1, cap1, rfl, _, hg1, hc1, hc2⟩ := hO1.form (by simp); have hw1 : Below w.heap.size w w1 := ((Below.refl _ _).alloc (Nat.le_refl _) _).trans hW1; have HO1 := Lib.hid hO1.at_; clear hO1 hW1)
            | (at_builtin; refine ints_apps (r := l.take k) (OwnInts.empty w1 w1.heap.size (Nat.le_refl _)) rfl _ _ rfl rfl (some ⟨g, 0, none⟩) k cap rfl (by simp <;> omega) (SliceAt.take ((HL.out.below hw1 (Nat.le_refl _)).below ((Below.refl w1.heap.size w1).alloc (Nat.le_refl _) _) (by omega)) k (by omega)) (fun h => by cases h) (by simp <;> omega) (by simp) ?_; intro v2 w2 hO2 hW2 _ _; have hz2 := hW2.size; simp at hz2; have hw2 : Below w1.heap.size w1 w2 := ((Below.refl _ _).alloc (Nat.le_refl _) _).trans hW2)
            | (at_builtin; refine ints_apps (r := [x] ++ l.drop k) hO2 rfl _ _ rfl rfl (some ⟨g1, 0, none⟩) _ cap1 rfl (by simp <;> omega) (HO1.out.below hw2 (Nat.le_refl _)) (fun h => by cases h) (by simp <;> omega) (by omega) ?_; intro v3 w3 hO3 hW3 _ _; obtain ⟨g3, cap3, rfl, -, -, -, -⟩ := hO3.form (by simp <;> omega)))
          have he : [] ++ l.take k ++ ([x] ++ l.drop k) = putI l x := by rw [HV.out]; simp
          rw [he] at hO3
          have hlen : (putI l x).length = k + (l.length - k + 1) := by rw [HV.out]; simp <;> omega
          go_ret
          exact ⟨g3, cap3, by rw [hlen]; rfl, hO3.mono (by omega), hw1.trans ((hw2.trans hW3).mono (by omega))⟩
    · obtain rfl : k = l.length := by omega
      have HV := Lib.hid (HT.out.last rfl)
      by_cases hcl : cap = l.length
      · subst hcl
        go_wp2_with (first
          | (at_builtin; refine ints_apps (r := l.drop l.length) (OwnInts.one w w.heap.size x (Nat.le_refl _)) rfl _ _ rfl rfl (some ⟨g, 0, none⟩) 0 0 rfl (by simp) (by simpa [List.drop_length] using (SliceAt.none_of (f := intCell) (w := w.alloc (.cells #[.int .i64 x] 3)) (B := w.heap.size) (A := some ⟨g, 0, none⟩) (c := 0) (by decide) (fun e => by cases e))) (fun h => by cases h) (by simp <;> omega) (by simp) ?_; intro v1 w1 hO1 hW1 _ _; have hz1 := hW1.size; simp at hz1; obtain ⟨g1, cap1, rfl, _, hg1, hc1, hc2⟩ := hO1.form (by simp); have hw1 : Below w.heap.size w w1 := ((Below.refl _ _).alloc (Nat.le_refl _) _).trans hW1; have HO1 := Lib.hid hO1.at_; clear hO1 hW1)
          | (at_builtin; refine ints_apps (r := l.take l.length) (OwnInts.empty w1 w1.heap.size (Nat.le_refl _)) rfl _ _ rfl rfl (some ⟨g, 0, none⟩) l.length l.length rfl (by simp) (SliceAt.take ((HL.out.below hw1 (Nat.le_refl _)).below ((Below.refl w1.heap.size w1).alloc (Nat.le_refl _) _) (by omega)) l.length (by omega)) (fun h => by cases h) (by simp <;> omega) (by simp) ?_; intro v2 w2 hO2 hW2 _ _; have hz2 := hW2.size; simp at hz2; have hw2 : Below w1.heap.size w1 w2 := ((Below.refl _ _).alloc (Nat.le_refl _) _).trans hW2)
          | (at_builtin; refine ints_apps (r := [x] ++ l.drop l.length) hO2 rfl _ _ rfl rfl (some ⟨g1, 0, none⟩) _ cap1 rfl (by simp <;> omega) (HO1.out.below hw2 (Nat.le_refl _)) (fun h => by cases h) (by simp <;> omega) (by omega) ?_; intro v3 w3 hO3 hW3 _ _; obtain ⟨g3, cap3, rfl, -, -, -, -⟩ := hO3.form (by simp <;> omega)))
        have he : [] ++ l.take l.length ++ ([x] ++ l.drop l.length) = putI l x := by rw [HV.out]; simp
        rw [he] at hO3
        have hlen : (putI l x).length = l.length + 1 := by rw [HV.out]; simp
        go_ret
        exact ⟨g3, cap3, by rw [hlen]; rfl, hO3.mono (by omega), hw1.trans ((hw2.trans hW3).mono (by omega))⟩
      · have hck : ¬ cap - l.length = 0 := by omega
        go_wp2_with (first
          | (at_builtin; refine ints_apps (r := l.drop l.length) (OwnInts.one w w.heap.size x (Nat.le_refl _)) rfl _ _ rfl rfl (some ⟨g, l.length, none⟩) 0 (cap - l.length) rfl (by simp) (by simpa using (SliceAt.drop (k := 1) (fun _ => rfl) ((HL.out.below ((Below.refl _ _).alloc (Nat.le_refl _) (.cells #[.int .i64 x] 3)) (Nat.le_refl _))) l.length (Nat.le_refl _))) (fun h => by cases h) (by simp <;> omega) (by simp) ?_; intro v1 w1 hO1 hW1 _ _; have hz1 := hW1.size; simp at hz1; obtain ⟨g1, cap1, rfl, _, hg1, hc1, hc2⟩ := hO1.form (by simp); have hw1 : Below w.heap.size w w1 := ((Below.refl _ _).alloc (Nat.le_refl _) _).trans hW1; have HO1 := Lib.hid hO1.at_; clear hO1 hW1)
          | (at_builtin; refine ints_apps (r := l.take l.length) (OwnInts.empty w1 w1.heap.size (Nat.le_refl _)) rfl _ _ rfl rfl (some ⟨g, 0, none⟩) l.length cap rfl (by simp) (SliceAt.take ((HL.out.below hw1 (Nat.le_refl _)).below ((Below.refl w1.heap.size w1).alloc (Nat.le_refl _) _) (by omega)) l.length (by omega)) (fun h => by cases h) (by simp <;> omega) (by simp) ?_; intro v2 w2 hO2 hW2 _ _; have hz2 := hW2.size; simp at hz2; have hw2 : Below w1.heap.size w1 w2 := ((Below.refl _ _).alloc (Nat.le_refl _) _).trans hW2)
          | (at_builtin; refine ints_apps (r := [x] ++ l.drop l.length) hO2 rfl _ _ rfl rfl (some ⟨g1, 0, none⟩) _ cap1 rfl (by simp <;> omega) (HO1.out.below hw2 (Nat.le_refl _)) (fun h => by cases h) (by simp <;> omega) (by omega) ?_; intro v3 w3 hO3 hW3 _ _; obtain ⟨g3, cap3, rfl, -, -, -, -⟩ := hO3.form (by simp <;> omega)))
        have he : [] ++ l.take l.length ++ ([x] ++ l.drop l.length) = putI l x := by rw [HV.out]; simp
        rw [he] at hO3
        have hlen : (putI l x).length = l.length + 1 := by rw [HV.out]; simp
        go_ret
        exact ⟨g3, cap3, by rw [hlen]; rfl, hO3.mono (by omega), hw1.trans ((hw2.trans hW3).mono (by omega))⟩

theorem specIsValid_at (r : Rel) (b : Bool) (h : relOk r.name r.arity = b) (w : World) :
    Calls Tryd.prog 47 #[.agg #[.string r.name, .int .i64 r.arity, .bool r.source]] w fun e w' => e = .returned (.bool b) ∧ Below w.heap.size w w' := by
  subst h; exact specIsValidRelation_any _ _ _ w
set_option maxHeartbeats 3200000 in
theorem specAreValidRelations_any (v : Value) (l : List Rel) (w : World) (hl : RelsAt w w.heap.size v l) :
    Calls Tryd.prog 30 #[v] w fun e w' => e = .returned (.bool (validRels l)) ∧ Below w.heap.size w w' := by
  have HL := Lib.hid hl
  obtain ⟨A, c, rfl, hlc, hcm, -⟩ := hl
  unfold maxLen at hcm
  go_enter Tryd.func30, Tryd.ntmps30
  go_wp2
  go_loopw [3] (fun i wr => ∃ k : Nat, k ≤ l.length ∧ i = .int .i64 k ∧ Hid (okTo l k = true) ∧ Below w.heap.size w wr) (fun i _ => l.length - (intOf i).toNat)
  case atStart => exact ⟨0, by omega, rfl, Lib.hid rfl, Below.refl _ _⟩
  case round =>
    obtain ⟨k, hk, rfl, HT, hW⟩ := hrel
    have hz := hW.size
    by_cases hlt : k < l.length
    · obtain ⟨b, off, rfl, hb, c0, c1, c2⟩ := RelsAt.elem HL.out k hlt
      have C0 := Aft.cell hb c0
      have C1 := Aft.cell hb c1
      have C2 := Aft.cell hb c2
      clear c0 c1 c2
      cases hr : relOk l[k].name l[k].arity with
      | false =>
        have HV := Lib.hid (validRels_no l k hlt (okAt_bad l k hlt hr))
        have hcon := specIsValid_at l[k] false hr
        clear hr
        go_wp2
        refine wp_region_aft hW (by kernel_rfl) (by kernel_rfl) ?_
        repeat (go_big_quiet_step (((go_at_call 47; exact calls_aft (Nat.le_refl _) (hcon _)))))
        refine wpQuiet_nil ?_
        refine aft_end ?_
        intro w1 hh
        go_wp2
        go_ret
        exact ⟨by rw [HV.out]; rfl, hh⟩
      | true =>
        have hcon := specIsValid_at l[k] true hr
        rcases Nat.eq_zero_or_pos k with h0 | h0
        · have HT' := Lib.hid (show okTo l (k + 1) = true by rw [okTo_succ, HT.out]; subst h0; rw [okAt_zero l hlt hr]; rfl)
          have hg1 : decide ((0 : Int) < (k : Int)) = false := decide_eq_false (by omega)
          have hg2 : decide (0 < k) = false := decide_eq_false (by omega)
          clear hr h0
          go_wp2
          refine wp_region_aft hW (by kernel_rfl) (by kernel_rfl) ?_
          repeat (go_big_quiet_step (((go_at_call 47; exact calls_aft (Nat.le_refl _) (hcon _)))))
          refine wpQuiet_nil ?_
          refine aft_end ?_
          intro w1 hh
          go_wp2
          go_roundw
          case rel => exact ⟨k + 1, by omega, by go_num, HT', hh⟩
          case measure => simp [intOf]; omega
        · obtain ⟨j, rfl⟩ : ∃ j, k = j + 1 := ⟨k - 1, by omega⟩
          have hj : j < l.length := by omega
          have HS := Lib.hid (show okTo l (j + 1 + 1) = Op.bytesLess l[j].name.toList l[j + 1].name.toList by rw [okTo_succ, HT.out, okAt_succ l j hlt hr]; rfl)
          have HS2 := Lib.hid (okAt_succ l j hlt hr)
          obtain ⟨b', off', hA, hb', d0, -, -⟩ := RelsAt.elem HL.out j hj
          obtain ⟨rfl, rfl⟩ : b = b' ∧ off = off' := by simpa using hA
          have D0 := Aft.cell hb' d0
          clear hA d0
          clear hr
          cases hlss : Op.bytesLess l[j].name.toList l[j + 1].name.toList with
          | true =>
            have HT' := Lib.hid (HS.out.trans hlss)
            go_wp2
            refine wp_region_aft hW (by kernel_rfl) (by kernel_rfl) ?_
            repeat (go_big_quiet_step (((go_at_call 47; exact calls_aft (Nat.le_refl _) (hcon _)))))
            refine wpQuiet_nil ?_
            refine aft_end ?_
            intro w1 hh
            go_wp2
            go_roundw
            case rel => exact ⟨j + 1 + 1, by omega, by go_num, HT', hh⟩
            case measure => simp [intOf]; omega
          | false =>
            have HV := Lib.hid (validRels_no l (j + 1) hlt (HS2.out.trans hlss))
            go_wp2
            refine wp_region_aft hW (by kernel_rfl) (by kernel_rfl) ?_
            repeat (go_big_quiet_step (((go_at_call 47; exact calls_aft (Nat.le_refl _) (hcon _)))))
            refine wpQuiet_nil ?_
            refine aft_end ?_
            intro w1 hh
            go_wp2
            go_ret
            exact ⟨by rw [HV.out]; rfl, hh⟩
    · obtain rfl : k = l.length := by omega
      have HV := Lib.hid (validRels_yes l HT.out)
      go_wp2
      go_ret
      exact ⟨ret_bool (by rw [HV.out]; exact decide_eq_decide.2 (by omega)), hW⟩

theorem specAreValid_at2 (l : List Rel) (b : Bool) (h : validRels l = b) (v : Value) (w : World) (hl : RelsAt w w.heap.size v l) :
    Calls Tryd.prog 30 #[v] w fun e w' => e = .returned (.bool b) ∧ Below w.heap.size w w' := by
  subst h; exact specAreValidRelations_any v l w hl

end Go.Proofs.YtakflmaeclneiaaDoor
