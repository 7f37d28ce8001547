/-
  Walks and plain lemmas for the laws of this seat: what single Go functions return, for every argument.
-/
import Derived.Lib.SliceRun
import Derived.Test.YtalijnfbopcmeaaNum
import Derived.Test.YtalijnfbopcmeaaInts
import Derived.Test.YtalijnfbopcmeaaTyInst
import Derived.Test.YtalijnfbopcmeaaMUf
import Derived.Test.YtalijnfbopcmeaaPlan
namespace Go.Proofs.Ytalijnfbopcmeaa
open Go.RowKit

set_option maxHeartbeats 3200000 in
set_option maxRecDepth 100000 in
theorem implNewUf_any (n : Int) (w : World) (h0 : -9223372036854775808 ≤ n) (h1 : n ≤ 9223372036854775807) :
    Calls Try.prog 25 #[.int .i64 n] w fun e w' => ∃ r, e = .returned r ∧ UnionFind_own w.heap.size w'.heap.size r (NewUnionFind_r0 n) w' ∧ Below w.heap.size w w' := by
  by_cases hin : 0 ≤ n ∧ n ≤ 40
  · obtain ⟨N, rfl⟩ : ∃ N : Nat, n = (N : Int) := ⟨n.toNat, by omega⟩
    have hr : NewUnionFind_r0 (N : Int) = newUf N := by unfold NewUnionFind_r0; rw [if_pos hin, Int.toNat_natCast]
    rw [hr]
    have hd1 : decide ((N : Int) < 0) = false := decide_eq_false (by omega)
    have hd2 : decide ((40 : Int) < (N : Int)) = false := decide_eq_false (by omega)
    have hd3 : decide (40 < N) = false := decide_eq_false (by omega)
    have hN40 : N ≤ 40 := by omega
    clear hr hin h0 h1
    have hmk := fun w => make_ints w N N (Nat.le_refl _) (by omega)
    obtain ⟨W, hEq⟩ : ∃ E, E = ((w.alloc (.cells #[.slice none 0 0] 26)).alloc (.cells (madeCells #[.int .i64 0] N) 3)).alloc (.cells #[.slice (some ⟨w.heap.size + 1, 0, none⟩) N N] 26) := ⟨_, rfl⟩
    have hE : Below w.heap.size w W := by rw [hEq]; exact below_more (below_more (below_more (Below.refl _ _) _) _) _
    have HEz := Lib.hid (show W.heap.size = w.heap.size + 3 by rw [hEq]; simp)
    have R0 := Lib.hid (show W.cell? ⟨w.heap.size, 0, none⟩ = some (.slice none 0 0) by rw [hEq]; simp [go_sem])
    have RZ := Lib.hid (show ∀ o, W.frozen? ⟨w.heap.size, o, none⟩ = false from fun o => by rw [hEq]; simp [go_sem])
    have Y1 := Lib.hid (show W.cell? ⟨w.heap.size + 1 + 1, 0, none⟩ = some (.slice (some ⟨w.heap.size + 1, 0, none⟩) N N) by rw [hEq]; simp [go_sem])
    have hO0 : OwnInts (w.heap.size + 1) (.slice (some ⟨w.heap.size + 1, 0, none⟩) N N) (newUf 0 ++ List.replicate N 0) W := by
      have h1 := OwnInts.full (w.alloc (.cells #[.slice none 0 0] 26)) N (by omega) (w.heap.size + 1) (by simp)
      have hDz : (w.alloc (.cells #[.slice none 0 0] 26)).heap.size = w.heap.size + 1 := by simp
      rw [hDz] at h1
      have h2 := h1.below ((Below.refl _ _).alloc (Nat.le_refl _) (.cells #[.slice (some ⟨w.heap.size + 1, 0, none⟩) N N] 26)) (Nat.le_refl _)
      rw [← hEq] at h2
      exact h2
    have HW0 := Lib.hid hE
    have HO0 := Lib.hid hO0
    clear hE hO0
    go_enter Try.func25, Try.ntmps25
    go_wp2
    rw [← hEq]
    clear hmk hEq
    go_loopw [18] (fun i wr => ∃ k : Nat, k ≤ N ∧ i = .int .i64 (k : Nat) ∧ OwnInts (w.heap.size + 1) (.slice (some ⟨w.heap.size + 1, 0, none⟩) N N) (newUf k ++ List.replicate (N - k) 0) wr ∧ Hid (Chg (fun g => g = w.heap.size + 1) W wr)) (fun i _ => N - (intOf i).toNat)
    case atStart => exact ⟨0, by omega, rfl, HO0.out, Lib.hid (Chg.refl _ _)⟩
    case round =>
      obtain ⟨k, hk, rfl, hO, HC⟩ := hrel
      have hC := HC.out
      have hYw : w.heap.size + 3 ≤ wr.heap.size := by have h1 := hC.size; rw [HEz.out] at h1; exact h1
      have hwW : Below w.heap.size w wr := HW0.out.trans (hC.below (fun g hg => by subst hg; omega) (by rw [HEz.out]; omega))
      have k1 := (hC.cell (b := w.heap.size + 1 + 1) (o := 0) (by rw [HEz.out]; omega) (by omega)).trans Y1.out
      by_cases hlt : k < N
      · have hfl := newUf_fill N k hk
        have HLN := Lib.hid hfl
        have hnv : ∀ W, Calls Try.prog 30 #[.int .i64 (k : Int)] W fun e w' => e = .returned (.int .i64 (-1 - (k : Int))) ∧ W = w' := fun W => implNullValue_any (k : Int) W (by omega) (by omega)
        have hS : Holds [(⟨w.heap.size + 1 + 1, 0, none⟩, .slice (some ⟨w.heap.size + 1, 0, none⟩) N N)] wr.drew := by
          intro p hp
          simp only [List.mem_cons, List.not_mem_nil, or_false] at hp
          subst hp
          exact k1
        have g0 := Keep.cell (h0 := hS) (a := ⟨w.heap.size + 1 + 1, 0, none⟩) (v := .slice (some ⟨w.heap.size + 1, 0, none⟩) N N) (by simp)
        have HN := Lib.hid (newUf_set N k hlt)
        have hkl : k < (newUf k ++ List.replicate (N - k) (0 : Int)).length := by omega
        have HO := Lib.hid hO
        clear k1 hfl hO
        generalize hz : (-1 - (k : Int)) = z at *
        clear hz
        go_wp2_with fail
        refine wp_region_planL (C := fun w' => ∃ u : Keep _ wr.drew hS, w' = u.now) (.still 0 (.still 1 (.still 2 (.still 3 (.move true 4 (.still 5 (.move false 6 .done .none)) .none))))) (by kernel_rfl) (by kernel_rfl) (by kernel_rfl) (fun _ => ⟨⟨_, hS⟩, rfl⟩) ?_
        iterate 4
          refine plan_look _ rfl rfl ?_
          go_big_quiet_step (fail)
          refine wpQuiet_nil ?_
        refine plan_call _ 30 _ _ _ _ _ rfl _ Try.func30 (by kernel_rfl) (by kernel_rfl) ?_ True.intro
        refine (hnv wr.drew).mono ?_
        rintro _ w2 ⟨rfl, rfl⟩
        refine ⟨_, rfl, fun _ => ⟨⟨_, hS⟩, rfl⟩, ?_⟩
        refine plan_put ?_ (by simp only [Act.put, List.setIfInBounds_toArray, List.set_cons_succ, List.set_cons_zero]; rfl)
        refine plan_look _ rfl rfl ?_
        go_big_quiet_step (fail)
        refine wpQuiet_nil ?_
        have hbd : Below wr.heap.size wr wr.drew := (Below.refl _ _).drew
        have hO2 := HO.out.below hbd (Nat.le_refl _)
        have d0 := hO2.cell HLN.out k hkl
        have dz := hO2.frozen HLN.out
        have HS2 := Lib.hid (hO2.set HLN.out k z)
        have HB2 := Lib.hid hbd
        clear hO2 hbd g0
        refine plan_skip (w' := wr.drew.setCell ⟨w.heap.size + 1, k, none⟩ (.int .i64 z)) _ rfl rfl rfl (by simp [go_sem, d0, dz]) (fun e => by cases e) ?_ True.intro
        refine plan_put ?_ (by simp only [Act.put]; rfl)
        refine plan_done ?_
        go_wp2
        go_roundw
        case rel => exact ⟨k + 1, by omega, by go_num, by rw [← HN.out]; exact HS2.out, Lib.hid ((HC.out.then_below (HB2.out.mono HC.out.size)).setCell (p := ⟨w.heap.size + 1, k, none⟩) rfl _)⟩
        case measure => simp [intOf]; omega
      · obtain rfl : k = N := by omega
        have hO' : OwnInts (w.heap.size + 1) (.slice (some ⟨w.heap.size + 1, 0, none⟩) (newUf k).length k) (newUf k) wr := by rw [newUf_len]; simpa using hO
        have m0 := (hC.cell (b := w.heap.size) (o := 0) (by rw [HEz.out]; omega) (by omega)).trans R0.out
        have mz : ∀ o, wr.frozen? ⟨w.heap.size, o, none⟩ = false := fun o => (hC.frozen (o := o) (by rw [HEz.out]; omega) (by omega)).trans (RZ.out o)
        have HwW := Lib.hid hwW
        have HO' := Lib.hid hO'
        have HST : ∀ u1, Chg (Mid w.heap.size (w.heap.size + 1)) wr (wr.setCell ⟨w.heap.size, 0, none⟩ u1) := fun u1 => (Chg.refl _ wr).setCell (p := ⟨w.heap.size, 0, none⟩) ⟨Nat.le_refl _, Nat.lt_succ_self _⟩ _
        have HLk := Lib.hid (newUf_len k)
        clear hC hwW hO hO'
        go_wp2
        refine bodyPost_ret (v := .agg #[.slice (some ⟨w.heap.size + 1, 0, none⟩) k k]) (by simp [results, Try.results25, go_sem, m0]) rfl ⟨_, rfl, ⟨_, rfl, ?_⟩, ?_⟩
        · have h1 := (IntS_own.chg (IntsO.of HO'.out) (HST (.slice (some ⟨w.heap.size + 1, 0, none⟩) k k)) (.inr (by omega))).mono (show w.heap.size ≤ w.heap.size + 1 by omega) (show wr.heap.size ≤ (wr.setCell ⟨w.heap.size, 0, none⟩ (.slice (some ⟨w.heap.size + 1, 0, none⟩) k k)).heap.size by simp [World.setCell])
          rw [HLk.out] at h1
          exact h1
        · exact HwW.out.setCell (p := ⟨w.heap.size, 0, none⟩) (Nat.le_refl _) _
  · have hr : NewUnionFind_r0 n = [] := if_neg hin
    rw [hr]
    have fin : ∀ w', w' = (w.alloc (.cells #[.slice none 0 0] 26)) → UnionFind_own w.heap.size w'.heap.size (.agg #[.slice none 0 0]) [] w' ∧ Below w.heap.size w w' := by
      rintro w' rfl
      exact ⟨⟨_, rfl, OwnInts.nil _ _, fun g hg => by cases hg⟩, below_more (Below.refl _ _) _⟩
    by_cases hn : n < 0
    · have hd : decide (n < 0) = true := decide_eq_true hn
      clear hr hin
      go_enter Try.func25, Try.ntmps25
      go_wp2
      refine bodyPost_ret (v := .agg #[.slice none 0 0]) (by simp [results, Try.results25, go_sem]) rfl ⟨_, rfl, fin _ rfl⟩
    · have hd : decide (n < 0) = false := decide_eq_false hn
      have hd2 : decide (40 < n) = true := decide_eq_true (by omega)
      clear hr hin
      go_enter Try.func25, Try.ntmps25
      go_wp2
      refine bodyPost_ret (v := .agg #[.slice none 0 0]) (by simp [results, Try.results25, go_sem]) rfl ⟨_, rfl, fin _ rfl⟩
theorem implNewUnionFind_c (n : Int) (w : World) (hn : -9223372036854775808 ≤ n ∧ n ≤ 9223372036854775807) :
    Calls Try.prog 25 #[.int .i64 n] w fun e w' => ∃ r, e = .returned r ∧ UnionFind_own w.heap.size w'.heap.size r (NewUnionFind_r0 n) w' ∧ UnionFind_sz (NewUnionFind_r0 n) ≤ 1048576 ∧ Below w.heap.size w w' :=
  (implNewUf_any n w hn.1 hn.2).mono fun _ _ ⟨r, he, ho, hb⟩ => ⟨r, he, ho, newUf_sz n, hb⟩

end Go.Proofs.Ytalijnfbopcmeaa
