/-
  Walks and plain lemmas for the laws of this seat: what single Go functions return, for every argument.
-/
import Derived.Test.YtalijnfbopcmeaaInts
import Derived.Test.YtalijnfbopcmeaaTyInst
import Derived.Test.YtalijnfbopcmeaaMCls
namespace Go.Proofs.Ytalijnfbopcmeaa
open Go.RowKit

set_option maxHeartbeats 1600000 in
theorem implIndexI_any (v : Value) (x : List Int) (k : Nat) (hk : k < x.length) (w : World) (hl : IntsAt w w.heap.size v x) :
    Calls Try.prog 61 #[v, .int .i64 x[k]] w fun e w' => ∃ j : Nat, e = .returned (.int .i64 (j : Int)) ∧ w = w' ∧ isFirst x k = decide (j = k) := by
  have HL := Lib.hid hl
  obtain ⟨A, c, rfl, hlc, hcm, -⟩ := hl
  unfold maxLen at hcm
  obtain ⟨r, hr⟩ : ∃ r, r = x[k] := ⟨_, rfl⟩
  have HR := Lib.hid hr
  rw [← hr]
  clear hr
  go_enter Try.func61, Try.ntmps61
  go_wp2
  go_loop [8] (fun i => ∃ n : Nat, n ≤ x.length ∧ i = .int .i64 n ∧ Hid (∀ i (h : i < x.length), i < n → x[i] ≠ r)) (fun i => x.length - (intOf i).toNat)
  case atStart => exact ⟨0, by omega, rfl, Lib.hid (fun i _ h => by omega)⟩
  case round =>
    obtain ⟨n, hn, rfl, HT⟩ := hrel
    by_cases hlt : n < x.length
    · obtain ⟨b, off, rfl, hb, c0⟩ := IntsAt.elem HL.out n hlt
      by_cases he : x[n] = r
      · have hb2 : (r == x[n]) = true := by rw [he]; exact beq_self_eq_true r
        have HV := Lib.hid (isFirst_of hk hlt (he.trans HR.out) (fun i hi hin => by rw [← HR.out]; exact HT.out i hi hin))
        obtain ⟨z, hz⟩ : ∃ z, z = x[n] := ⟨_, rfl⟩
        rw [← hz] at c0 hb2
        clear he hz
        go_wp2
        go_ret
        exact ⟨n, rfl, rfl, HV.out⟩
      · have hb2 : (r == x[n]) = false := beq_eq_false_iff_ne.2 (fun e => he e.symm)
        have HN := Lib.hid (show ∀ i (h : i < x.length), i < n + 1 → x[i] ≠ r from fun i hi hin => by
          by_cases e : i = n
          · subst e; exact he
          · exact HT.out i hi (by omega))
        clear he
        go_wp2
        go_round
        case rel => exact ⟨n + 1, by omega, by go_num, HN⟩
        case measure => simp [intOf]; omega
    · exact absurd HR.out.symm (HT.out k hk (by omega))

set_option maxHeartbeats 3200000 in
set_option maxRecDepth 100000 in
theorem implNullsBy_any (v : Value) (x : List Int) (r : Int) (w : World) (h : UnionFind_at w w.heap.size v x) (hn : x.length ≤ 1048576) :
    Calls Try.prog 62 #[v, .int .i64 r] w fun e w' => ∃ u, e = .returned u ∧ IntS_own w.heap.size w'.heap.size u (clsTo x r x.length) w' ∧ Below w.heap.size w w' := by
  obtain ⟨P, c, rfl⟩ := UnionFind_form h
  have hN := h.ints
  clear h
  obtain ⟨_, _, hv1, hc1, hc2⟩ := hN.form
  injection hv1 with e1 _ e2
  subst e1 e2
  unfold maxLen at hc2
  have HN := Lib.hid hN
  clear hN
  obtain ⟨E, hEq⟩ : ∃ E, E = w.alloc (.cells #[.slice P x.length c] 26) := ⟨_, rfl⟩
  have hE : Below w.heap.size w E := by rw [hEq]; exact (Below.refl _ _).alloc (Nat.le_refl _) _
  have hEz := hE.size
  go_enter Try.func62, Try.ntmps62
  go_wp2
  rw [← hEq]
  clear hEq
  go_loopw [5, 11] (fun nl i wr => ∃ (k : Nat) (L : List Int), k ≤ x.length ∧ i = .int .i64 (k : Nat) ∧ Hid (L = clsTo x r k) ∧ OwnInts E.heap.size nl L wr ∧ Below E.heap.size E wr) (fun _ i _ => x.length - (intOf i).toNat)
  case atStart => exact ⟨0, [], by omega, rfl, Lib.hid rfl, OwnInts.nil _ _, Below.refl _ _⟩
  case round =>
    obtain ⟨k, L, hk, rfl, HL, hO, hW⟩ := hrel
    have hWw := hE.trans (hW.mono hE.size)
    have hzE := hW.size
    have hLl : L.length ≤ k := by rw [HL.out]; exact clsTo_len x r k
    by_cases hlt : k < x.length
    · obtain ⟨b, off, rfl, hb, c0⟩ := IntsAt.elem (HN.out.below hWw (Nat.le_refl _)) k hlt
      obtain ⟨z, hz⟩ : ∃ z, z = x[k] := ⟨_, rfl⟩
      rw [← hz] at c0
      by_cases he : z = r
      · have hb2 : (z == r) = true := by rw [he]; exact beq_self_eq_true r
        have HX := Lib.hid (clsTo_yes hlt (hz.symm.trans he))
        have HO := Lib.hid (hO.below ((Below.refl wr.heap.size wr).alloc (Nat.le_refl _) (.cells #[.int .i64 (k : Int)] 3)) (Nat.le_refl _))
        have hone := OwnInts.one wr wr.heap.size (k : Int) (Nat.le_refl _)
        have HONE := Lib.hid hone.at_
        clear he hz hO hone
        go_wp2_with (at_builtin; refine ints_apps (r := [(k : Int)]) HO.out rfl _ _ rfl rfl (some ⟨wr.heap.size, 0, none⟩) 1 1 rfl rfl HONE.out (fun h => by cases h) (by simp; omega) (by simp; omega) ?_; intro v5 w5 hO5 hB5 _ _; have hbA := hW.trans (((Below.refl E.heap.size wr).alloc hzE (.cells #[.int .i64 (k : Int)] 3)).trans hB5); have HO5 := Lib.hid hO5; obtain ⟨P3, q3, rfl, -⟩ := hO5.at_; clear hO5 hB5)
        go_roundw
        case rel => exact ⟨k + 1, L ++ [(k : Int)], by omega, by go_num, Lib.hid (by rw [HX.out, HL.out]), by simpa using HO5.out, hbA⟩
        case measure => simp [intOf]; omega
      · have hb2 : (z == r) = false := beq_eq_false_iff_ne.2 he
        have HX := Lib.hid (clsTo_no hlt (by rw [← hz]; exact he))
        clear he hz
        go_wp2
        go_roundw
        case rel => exact ⟨k + 1, L, by omega, by go_num, Lib.hid (by rw [HX.out, HL.out]), hO, hW⟩
        case measure => simp [intOf]; omega
    · obtain rfl : k = x.length := by omega
      have HO := Lib.hid hO
      clear hO
      go_wp2
      go_ret
      refine ⟨_, rfl, ?_, hWw⟩
      rw [← HL.out]
      exact (IntsO.of HO.out).mono hEz (Nat.le_refl _)

end Go.Proofs.Ytalijnfbopcmeaa
