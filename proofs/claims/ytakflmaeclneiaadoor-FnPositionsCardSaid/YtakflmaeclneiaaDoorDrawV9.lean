/-
  Walks and plain lemmas for the laws of this seat: what single Go functions return, for every argument.
-/
import Derived.Test.YtakflmaeclneiaaDoorMem
import Derived.Test.YtakflmaeclneiaaDoorTyDepS
import Derived.Test.YtakflmaeclneiaaDoorAft
import Derived.Test.YtakflmaeclneiaaDoorDrawY9
namespace Go.Proofs.YtakflmaeclneiaaDoor
open Go.RowKit

theorem DepSmall.mono {n k : Nat} {x : Dep} (h : DepSmall n x) (hk : n ≤ k) : DepSmall k x := ⟨h.1, ⟨Nat.le_trans h.2.1.1 hk, h.2.1.2⟩, h.2.2⟩
theorem dep9_vals {B C : Nat} {X : DepX} {x : Dep} {w : World} (h : DepOwn B C X x w) : ∃ Y1 y1 Y2 y2, X.1.1 = .slice Y1 x.body.length y1 ∧ X.2.1 = .slice Y2 x.head.length y2 := by
  obtain ⟨Y1, y1, h1, -, -⟩ := (h.1.at_ (Nat.le_refl _)).form
  obtain ⟨Y2, y2, h2, -, -⟩ := (h.2.1.at_ (Nat.le_refl _)).form
  exact ⟨Y1, y1, Y2, y2, h1, h2⟩
theorem dep9_one {Y1 Y2 : Option Addr} {n m y1 y2 : Nat} {q : Bool} {l r : Int} : ∀ u ∈ dCells ⟨.slice Y1 n y1, .slice Y2 m y2, q, l, r⟩, u.oneCell' = true := by
  intro u hu
  simp [dCells] at hu
  rcases hu with rfl | rfl | rfl | rfl | rfl <;> rfl
set_option maxHeartbeats 3200000 in
set_option maxRecDepth 100000 in
theorem l9Rules_c (p : Nat) (cv : Value) (code : List UInt8) (st : DrawSt) (w : World) (hC : CurS w p cv code st) :
    Calls Tryd.prog 40 #[.pointer (some ⟨p, 0, none⟩)] w fun e w' => ∃ u Xs xs, e = .returned u ∧ DependencySO 75 w.heap.size w'.heap.size u Xs xs w' ∧ xs.length ≤ 4 ∧ (∀ x ∈ xs, DepSmall 3 x) ∧ (∃ st', CurS w' p cv code st') ∧ w.grownBy w' (some p) := by
  have hp := Cur.lt hC
  have hCE : CurS (w.alloc (.cells #[] 75)) p cv code st := Cur.alloc hC _
  have hO0 := DependencySO.empty 75 w
  have hGE : w.grownBy (w.alloc (.cells #[] 75)) (some p) := World.grownBy_alloc w _ (some p)
  have hcon := l1Below_r p cv code st 4 _ hCE
  have hbd := belowR_bd code st 4
  go_enter Tryd.func40, Tryd.ntmps40
  go_wp2_with fail
  refine hcon.mono ?_
  rintro e w1 ⟨rfl, hC1, hg1⟩
  generalize belowR code st 4 = bb at *
  obtain ⟨nn, st1⟩ := bb
  dsimp only at *
  obtain ⟨n0, hn0⟩ : ∃ n0 : Nat, 1 + nn = (n0 : Int) := ⟨(1 + nn).toNat, by have := hbd.1; omega⟩
  have hnn1 := hbd.1
  have hnn2 := hbd.2 (by omega)
  have hn4 : n0 ≤ 4 := by omega
  have hz1 := hg1.size
  have HG1 := Lib.hid (hGE.trans hg1)
  have HO1 := Lib.hid ((hO0.chg (chg_of_grown hg1) (.inr (by omega))).mono (Nat.le_refl _) (show w.heap.size + 1 ≤ w1.heap.size by simpa using hz1))
  clear hcon hbd hO0 hGE hCE hg1
  go_wp2_with fail
  clear hn0 hnn1 hnn2 hz1
  go_loopw [3, 4] (fun o i wr => ∃ (m : Nat) (Xs : List DepX) (xs : List Dep) (st' : DrawSt), i = .int .i64 (m : Int) ∧ xs.length + m ≤ 4 ∧ Hid (DependencySO 75 w.heap.size wr.heap.size o Xs xs wr) ∧ Hid (∀ x ∈ xs, DepSmall 3 x) ∧ CurS wr p cv code st' ∧ Hid (w.grownBy wr (some p))) (fun _ i _ => (intOf i).toNat)
  case atStart => exact ⟨n0, [], [], st1, rfl, by simp; omega, HO1, Lib.hid (fun x hx => absurd hx (by simp)), hC1, HG1⟩
  case round =>
    clear hC1 HO1 HG1
    obtain ⟨m, Xs, xs, st', rfl, hm4, HO, HS, hCr, HG⟩ := hrel
    obtain ⟨oP, oc, rfl, -, -⟩ := (HO.out.at_ (Nat.le_refl _)).form
    have hzr := HG.out.size
    by_cases hlt : 0 < m
    · have e1 : decide ((0 : Int) < (m : Int)) = true := decide_eq_true (by omega)
      have e2 : decide (0 < m) = true := decide_eq_true hlt
      go_wp2_with fail
      refine (l9Rule_c p cv code st' wr hCr).mono ?_
      rintro e w2 ⟨X, x, rfl, hX, hs, ⟨st2, hC2⟩, hg2⟩
      obtain ⟨Y1, y1, Y2, y2, hY1, hY2⟩ := dep9_vals hX
      unfold DVal9
      rw [hY1, hY2]
      have hz2 := hg2.size
      have HX := Lib.hid hX
      have HY := Lib.hid (And.intro hY1 hY2)
      have HO2 := Lib.hid ((HO.out.chg (chg_of_grown hg2) (.inr (by omega))).mono (Nat.le_refl _) hz2)
      have HG2 := Lib.hid (HG.out.trans hg2)
      have hdl := dZip_len (l := xs) (Ps := Xs.map DepX.vals) (by rw [List.length_map, HO2.out.len])
      have hbd1 : ((dZip xs (Xs.map DepX.vals)).length + 1) * 72 ≤ 140737488355328 := by rw [hdl]; omega
      have hbd2 : (dZip xs (Xs.map DepX.vals)).length < 140737488355328 := by rw [hdl]; omega
      have hbd3 : w.heap.size ≤ w2.heap.size := HG2.out.size
      clear hdl hX hY1 hY2 hg2
      go_wp2_with (at_builtin; refine wp_own_app_one dCells 5 72 dCells_len Tryd.underlying50 infoDep rfl (by decide) HO2.out.row rfl _ _ rfl rfl ⟨.slice Y1 x.body.length y1, .slice Y2 x.head.length y2, x.egd, x.left, x.right⟩ dep9_one 1 rfl hbd1 hbd2 hbd3 ?_; intro v8 w8 hrow hB8 hg8)
      have hz8 := hg8.size
      have hre : (⟨.slice Y1 x.body.length y1, .slice Y2 x.head.length y2, x.egd, x.left, x.right⟩ : DepC) = depC x X.vals := by
        unfold depC DepX.vals
        rw [HY.out.1, HY.out.2]
      rw [hre] at hrow
      have hFS := DependencySO.snoc (e := 75) (by decide) (by decide) (x := x) (X := X) (C' := w8.heap.size) HO2.out hz8 hrow hg8 (row_inside hrow (Nat.le_refl _)) (HX.out.mono hzr hz8) (fun i hi q h1 h2 => by
        have h3 := (HX.out.foot q h2).1
        have h4 := ((HO.out.el i (by have := HO.out.len; omega) hi).foot q h1).2
        omega)
      have HFS := Lib.hid hFS
      have HB8 := Lib.hid hB8
      clear hre hrow hFS hB8
      go_roundw
      case measure => simp [intOf]; omega
      case rel =>
        refine ⟨m - 1, Xs ++ [X], xs ++ [x], st2, by go_num, by simp; omega, HFS, Lib.hid ?_, Cur.below hC hC2 HB8.out, Lib.hid (grown_of_below HG2.out HB8.out)⟩
        intro z hz
        rcases List.mem_append.1 hz with h | h
        · exact HS.out z h
        · rw [List.mem_singleton.1 h]; exact hs.mono (by decide)
    · obtain rfl : m = 0 := by omega
      go_wp2
      go_ret
      exact ⟨_, Xs, xs, rfl, HO.out, by omega, HS.out, ⟨_, hCr⟩, HG.out⟩

end Go.Proofs.YtakflmaeclneiaaDoor
