/-
  Walks and plain lemmas for the laws of this seat: what single Go functions return, for every argument.
-/
import Derived.Test.YtobdijcnfmgidaaTyInst
import Derived.Test.YtobdijcnfmgidaaCopI
import Derived.Test.YtobdijcnfmgidaaMInst
import Derived.Test.YtobdijcnfmgidaaSubI
namespace Go.Proofs.Ytobdijcnfmgidaa
open Go.RowKit

theorem zeroFct_val : ∀ w, (zeroValue 44).run Try.prog w = .ok (.agg #[.int .i64 0, .slice none 0 0]) w := by
  intro w
  obtain ⟨i0, hi, hz0, hz1, hz2⟩ := info_parts infoFct
  simp [zeroValue, typeInfo, hi, hz0]
theorem keepN_lt {α : Type} {p : α → Bool} {l : List α} (h : l.any p = true) : (keepN p l).length < l.length := by
  induction l with
  | nil => simp at h
  | cons y t ih =>
    have hle := keepN_len p t
    unfold keepN at *
    cases hy : p y with
    | true => rw [List.filter_cons_of_neg (by simp [hy]), List.length_cons]; omega
    | false =>
      rw [List.any_cons, hy, Bool.false_or] at h
      have := ih h
      rw [List.filter_cons_of_pos (by simp [hy]), List.length_cons, List.length_cons]; omega
/-- the slices of Z's facts in a later world, where block q alone has turned -/
theorem elems_chg {e : TypeId} (he : e ≠ 3) {B C q n : Nat} {cap : Nat} {xs : List Value} {Z : List (Fct × Value)} {w wr : World} (hrow : w.ownsRow B e 2 (.slice (some ⟨q, 0, none⟩) n cap) n xs) (hel : ∀ z ∈ Z, IntS_own B C z.2 z.1.vals w) (hc : Chg (fun k => k = q) w wr) : ∀ z ∈ Z, IntS_own B C z.2 z.1.vals wr :=
  fun z hz => ⟨(hel z hz).1.chg hc (fun g hg e1 => inner_ne he hrow (hel z hz) q rfl (by rw [hg, e1])), (hel z hz).2⟩
theorem setMany_two (xs : List Value) (p : Nat) (a b : Value) : setMany xs p [a, b] = (xs.set p a).set (p + 1) b := rfl
/-- a fact stored at place i of the row -/
theorem row_put {w : World} {B q n cap i : Nat} {e : TypeId} {R : List (Fct × Value)} {z : Fct × Value} (hrow : w.ownsRow B e 2 (.slice (some ⟨q, 0, none⟩) n cap) n (R.flatMap zCells)) (hi : i < R.length) :
    ((w.setCell ⟨q, i * 2, none⟩ (.int .i64 z.1.rel)).setCell ⟨q, i * 2 + 1, none⟩ z.2).ownsRow B e 2 (.slice (some ⟨q, 0, none⟩) n cap) n ((R.set i z).flatMap zCells) := by
  rw [← flat_set zCells 2 zCells_len R i hi z]
  exact (World.ownsRow.stored (World.ownsRow.stored hrow (i * 2) _).1 (i * 2 + 1) _).1
theorem row_cells {w : World} {B q n cap i : Nat} {e : TypeId} {R : List (Fct × Value)} (hrow : w.ownsRow B e 2 (.slice (some ⟨q, 0, none⟩) n cap) n (R.flatMap zCells)) (hR : R.length = n) (hi : i < R.length) :
    w.cell? ⟨q, i * 2, none⟩ = some (.int .i64 R[i].1.rel) ∧ w.cell? ⟨q, i * 2 + 1, none⟩ = some R[i].2 := by
  have g (j : Nat) (hj : j < 2) := (World.ownsRow.cellAt hrow (i * 2 + j) (by omega)).trans (flat_get zCells 2 zCells_len R i j hi hj)
  exact ⟨g 0 (by omega), g 1 (by omega)⟩

set_option maxHeartbeats 3200000 in
set_option maxRecDepth 100000 in
theorem implDelF_any (g : Nat) (lb : Array Value) (eg : ∀ args w, (callFunc g args).run Try.prog w = .ok (.enter g args) w) (G : World → Prop) (hG : ∀ W W', G W → Below W.heap.size W W' → G W') (p : Fct → Bool) (l : List Fct) (B C q : Nat) (Vs : List Value) (w : World) (h0 : G w) (ht : TellsF g lb G p l)
    (hn : l.length ≤ 1048576) (hC : C ≤ w.heap.size) (hS : ∀ W o u, G W → G (W.setCell ⟨q, o, none⟩ u)) (hO : FactSO 44 B C (.slice (some ⟨q, 0, none⟩) l.length l.length) Vs l w) :
    Calls Try.prog 38 #[.slice (some ⟨q, 0, none⟩) l.length l.length, .func (.func g) #[] lb] w fun e w' => ∃ Us, e = .returned (.slice (some ⟨q, 0, none⟩) (keepN p l).length l.length) ∧ FactSO 44 B C (.slice (some ⟨q, 0, none⟩) (keepN p l).length l.length) Us (keepN p l) w' ∧ Chg (fun k => k = q) w w' := by
  have hix := implIxF_any g lb eg G hG p (.slice (some ⟨q, 0, none⟩) l.length l.length) l w h0 ht (hO.at_ hC)
  obtain ⟨hZ1, hZ2, hZ3, hZ4, hZ5⟩ := hO.toZ
  have hqC : q < C := hO.ins q rfl
  rcases ixOf_form p l with ⟨hi, hany⟩ | ⟨k0, hk0, hi, hpk, hbef⟩
  · have HK := Lib.hid (keepN_none hany)
    have HO := Lib.hid hO
    rw [hi] at hix
    have hm1 : ((-1 : Int) == -1) = true := rfl
    clear hi hany hZ1 hZ2 hZ3 hZ4 hZ5 hO hS hG ht h0
    go_enter Try.func38, Try.ntmps38
    go_wp2_with (go_at_call 82; refine hix.mono ?_; rintro e w1 ⟨rfl, hb1⟩)
    go_ret
    exact ⟨Vs, by rw [HK.out]; rfl, by rw [HK.out]; exact HO.out.below hb1 hC, Chg.of_below hb1⟩
  · generalize hZ : l.zip Vs = Z at *
    have hn1 : ((k0 : Int) == -1) = false := beq_eq_false_iff_ne.2 (by omega)
    rw [hi] at hix
    have hpl : ∀ j (hj : j < Z.length), p Z[j].1 = p (l[j]'(by omega)) := fun j hj => by
      have : Z[j].1 = l[j]'(by omega) := by
        have h1 : (Z.map Prod.fst)[j]'(by simpa using hj) = Z[j].1 := by simp
        rw [← h1]; simp only [hZ3]
      rw [this]
    have hstart : keepN (onF p) (Z.take (k0 + 1)) = Z.take k0 := keepN_first k0 (by omega) ((hpl k0 (by omega)).trans hpk) (fun j hj hjk => (hpl j hj).trans (hbef j (by omega) hjk))
    have HSt := Lib.hid hstart
    have hlt0 : (keepN (onF p) (Z.take Z.length)).length < Z.length := by
      rw [List.take_of_length_le (Nat.le_refl _)]
      refine keepN_lt ?_
      rw [keep_any, hZ3]
      exact List.any_eq_true.2 ⟨l[k0], List.getElem_mem hk0, hpk⟩
    have HLT := Lib.hid hlt0
    rw [← hZ5] at hZ1
    have HZ1 := Lib.hid hZ1
    have HZ2 := Lib.hid hZ2
    have HZ34 := Lib.hid (And.intro hZ3 (And.intro hZ4 hO.dis))
    have HT := Lib.hid ht
    have HGI := Lib.hid (And.intro hG hS)
    have HMem := Lib.hid (fun j (hj : j < Z.length) => (show Z[j].1 ∈ l by rw [← hZ3]; exact List.mem_map.2 ⟨_, List.getElem_mem hj, rfl⟩))
    have HINS := Lib.hid hO.ins
    have H0 := Lib.hid h0
    have hkz : k0 < Z.length := by omega
    have hnz : Z.length ≤ 1048576 := by omega
    rw [← hZ5] at hix ⊢
    rw [← hZ5] at hk0
    have HKL := Lib.hid (show (keepN (onF p) Z).map Prod.fst = keepN p l by rw [keep_fst, hZ3])
    clear hi hstart hlt0 hZ1 hZ2 hZ3 hZ4 hZ5 hO hS hG ht h0 hZ hpl hpk hbef hn
    go_enter Try.func38, Try.ntmps38
    go_wp2_with fail
    refine hix.mono ?_
    rintro e w1 ⟨rfl, hb1⟩
    go_wp2
    go_loopw [5, 6] (fun i j wr => ∃ k : Nat, k ≤ Z.length ∧ j = .int .i64 k ∧ i = .int .i64 (keepN (onF p) (Z.take k)).length ∧ wr.ownsRow B 44 2 (.slice (some ⟨q, 0, none⟩) Z.length Z.length) Z.length ((rowAt p Z k).flatMap zCells) ∧ Hid (Chg (fun k => k = q) w wr) ∧ Hid (G wr)) (fun _ j _ => Z.length - (intOf j).toNat)
    case atStart =>
      refine ⟨k0 + 1, by omega, by go_num, ?_, ?_, Lib.hid (Chg.of_below hb1), Lib.hid (HGI.out.1 _ _ H0.out hb1)⟩
      · rw [HSt.out, List.length_take, Nat.min_eq_left (by omega)]
      · have e : rowAt p Z (k0 + 1) = Z := by
          unfold rowAt
          rw [HSt.out, List.length_take, Nat.min_eq_left (by omega), List.take_append_drop]
        rw [e]
        exact (Chg.of_below (S := fun _ => False) hb1).row HZ1.out (fun g hg => id)
    case round =>
      obtain ⟨k, hk, rfl, rfl, hrow, HC, HGw⟩ := hrel
      have hz := HC.out.size
      have hik := keep_le p Z k
      have hRl := rowAt_len p Z k
      have hel := elems_chg (e := 44) (by decide) HZ1.out HZ2.out HC.out
      have HEL := Lib.hid hel
      have HIK := Lib.hid hik
      have hqw : q < wr.heap.size := by omega
      by_cases hlt : k < Z.length
      · have hc := row_cells hrow hRl (i := k) (by omega)
        rw [rowAt_get p Z k k (Nat.le_refl _) hlt] at hc
        obtain ⟨c0, c1⟩ := hc
        have hU := hel Z[k] (List.getElem_mem hlt)
        have hUa := hU.1.at_
        have HKp := Lib.hid (rowAt_keep p Z k hlt)
        have HDr := Lib.hid (rowAt_drop p Z k hlt)
        have HMk := Lib.hid (HMem.out k hlt)
        have HZk : Hid (∃ z, z = Z[k]) := Lib.hid ⟨_, rfl⟩
        obtain ⟨PV, cV, hv, -⟩ := id hUa
        rw [hv] at c1
        have HV2 := Lib.hid hv
        have HUa := Lib.hid hUa
        have hcall := fun (W : World) (hb : Below wr.heap.size wr W) => HT.out W Z[k].1 (.slice PV Z[k].1.vals.length cV) (HGI.out.1 _ _ HGw.out hb) HMk.out (by rw [← HV2.out]; exact (HUa.out.below hb (Nat.le_refl _)).more hb.size)
        have HROW := Lib.hid hrow
        have hil : (keepN (onF p) (Z.take k)).length < Z.length := by omega
        have HIL := Lib.hid hil
        clear hel hU hUa hv hrow hRl
        cases hp : p Z[k].1 with
        | true =>
          have hd := HDr.out hp
          have HD := Lib.hid hd
          have hcall' := fun W hb => hcall W hb
          rw [hp] at hcall
          clear hd hp hcall'
          go_wp2_with fail
          refine (hcall _ (below_more (Below.refl _ _) _)).mono ?_
          rintro e w2 ⟨rfl, hb2⟩
          have hb3 : Below wr.heap.size wr w2 := (below_more (Below.refl _ _) _).trans (hb2.mono (by simp))
          clear hcall c0 c1
          go_wp2
          go_roundw
          case rel => exact ⟨k + 1, by omega, by go_num, by rw [HD.out.2], by rw [HD.out.1]; exact (Chg.of_below (S := fun _ => False) hb3).row HROW.out (fun g hg => id), Lib.hid (HC.out.then_below (hb3.mono hz)), Lib.hid (HGI.out.1 _ _ HGw.out hb3)⟩
          case measure => simp [intOf]; omega
        | false =>
          have hd := HKp.out hp
          have HD := Lib.hid hd
          rw [hp] at hcall
          clear hd hp
          go_wp2_with fail
          refine (hcall _ (below_more (Below.refl _ _) _)).mono ?_
          rintro e w2 ⟨rfl, hb2⟩
          have hb3 : Below wr.heap.size wr w2 := (below_more (Below.refl _ _) _).trans (hb2.mono (by simp))
          have x0 := (hb2.cell (p := ⟨wr.heap.size, 0, none⟩) (by simp)).trans (show (wr.alloc (.cells #[.int .i64 Z[k].1.rel, .slice PV Z[k].1.vals.length cV] 44)).cell? ⟨wr.heap.size, 0, none⟩ = some (.int .i64 Z[k].1.rel) by simp [go_sem])
          have x1 := (hb2.cell (p := ⟨wr.heap.size, 1, none⟩) (by simp)).trans (show (wr.alloc (.cells #[.int .i64 Z[k].1.rel, .slice PV Z[k].1.vals.length cV] 44)).cell? ⟨wr.heap.size, 1, none⟩ = some (.slice PV Z[k].1.vals.length cV) by simp [go_sem])
          have hrow2 := (Chg.of_below (S := fun _ => False) hb3).row HROW.out (fun g hg => id)
          obtain ⟨d0, d1⟩ := row_cells hrow2 (rowAt_len p Z k) (i := (keepN (onF p) (Z.take k)).length) (by rw [rowAt_len]; exact HIL.out)
          have dz := World.ownsRow.frozenAt hrow2
          have HROW2 := Lib.hid (row_put (z := Z[k]) (i := (keepN (onF p) (Z.take k)).length) hrow2 (by rw [rowAt_len]; exact HIL.out))
          rw [HV2.out, ← HD.out.1] at HROW2
          have HB3 := Lib.hid hb3
          clear hcall c0 c1 hrow2 hb3 hb2
          go_wp2
          go_roundw
          case rel => exact ⟨k + 1, by omega, by go_num, by rw [HD.out.2]; go_num, HROW2.out, Lib.hid (((HC.out.then_below (HB3.out.mono hz)).setCell (p := ⟨q, (keepN (onF p) (Z.take k)).length * 2, none⟩) rfl _).setCell (p := ⟨q, (keepN (onF p) (Z.take k)).length * 2 + 1, none⟩) rfl _), Lib.hid (HGI.out.2 _ _ _ (HGI.out.2 _ _ _ (HGI.out.1 _ _ HGw.out HB3.out)))⟩
          case measure => simp [intOf]; omega
      · obtain rfl : k = Z.length := by omega
        generalize hi0 : (keepN (onF p) (List.take Z.length Z)).length = i0 at *
        have hti : i0 < Z.length := HLT.out
        have hA : keepN (onF p) (Z.take Z.length) = keepN (onF p) Z := by rw [List.take_of_length_le (Nat.le_refl _)]
        have hi0' : (keepN (onF p) Z).length = i0 := by rw [← hA]; exact hi0
        have hcl : ∀ ty, (Builtin.clear_ #[25] ty #[.slice (some ⟨q, i0 * 2, none⟩) (Z.length - i0) (Z.length - i0)]).run Try.prog wr = .ok (.tuple #[]) (wr.setCells q (i0 * 2) ((List.replicate (Z.length - i0) (zeroFct, (Value.slice none 0 0))).flatMap zCells)) :=
          fun ty => run_clear_facts Try.underlying25 zeroFct_val q _ _ _ (by omega) (fun j hj => by
            rw [World.ownsRow.cellAt hrow _ (by omega), List.getElem?_eq_getElem (by rw [hrow.1]; omega)]; rfl) (World.ownsRow.frozenAt hrow)
        have hfin : (wr.setCells q (i0 * 2) ((List.replicate (Z.length - i0) (zeroFct, (Value.slice none 0 0))).flatMap zCells)).ownsRow B 44 2 (.slice (some ⟨q, 0, none⟩) (keepN (onF p) Z).length Z.length) (keepN (onF p) Z).length ((keepN (onF p) Z).flatMap zCells) := by
          have h1 := ownsRow_cut (ownsRow_setCells ((List.replicate (Z.length - i0) (zeroFct, (Value.slice none 0 0))).flatMap zCells) (i0 * 2) hrow) (i := i0) (by omega)
          rw [setMany_take] at h1
          have e : ((rowAt p Z Z.length).flatMap zCells).take (i0 * 2) = (keepN (onF p) (Z.take Z.length)).flatMap zCells := by
            unfold rowAt
            rw [List.flatMap_append, List.take_left' (by rw [flat_len zCells 2 zCells_len, hi0])]
          rw [e, hA] at h1
          rw [hi0']
          exact h1
        have hCF := HC.out.trans (chg_setCells ((List.replicate (Z.length - i0) (zeroFct, (Value.slice none 0 0))).flatMap zCells) (i0 * 2) wr)
        have hEL := elems_chg (e := 44) (by decide) HZ1.out HZ2.out hCF
        have HFIN := Lib.hid (show FactSO 44 B C (.slice (some ⟨q, 0, none⟩) i0 Z.length) ((keepN (onF p) Z).map Prod.snd) ((keepN (onF p) Z).map Prod.fst) _ from by rw [hi0'] at hfin; exact FactSO.ofZ (by rw [hi0']; exact hfin) (fun g hg => by cases hg; exact hqC) (fun z hz => hEL z (List.mem_filter.1 hz).1) (by
          have h1 := HZ34.out.2.2
          rw [← HZ34.out.2.1] at h1
          exact h1.sublist ((List.filter_sublist (l := Z)).map Prod.snd)))
        have HCF := Lib.hid hCF
        have hdk : ¬ (Z.length - i0 = 0) := by omega
        have HA := Lib.hid hi0'
        clear hfin hCF hEL hrow hA hi0 hi0'
        go_wp2
        go_ret
        have hlen : (keepN p l).length = (keepN (onF p) Z).length := by rw [← HKL.out, List.length_map]
        refine ⟨(keepN (onF p) Z).map Prod.snd, ?_, ?_, HCF.out⟩
        · rw [hlen, HA.out]; rfl
        · rw [hlen, HA.out, ← HKL.out]; exact HFIN.out

end Go.Proofs.Ytobdijcnfmgidaa
