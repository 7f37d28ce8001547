/-
  Walks and plain lemmas for the laws of this seat: what single Go functions return, for every argument.
-/
import Derived.Test.YtakflmaeclneiaaGreatTyDepS
import Derived.Test.YtakflmaeclneiaaGreatDepEI
import Derived.Test.YtakflmaeclneiaaGreatEdgHas
import Derived.Test.YtakflmaeclneiaaGreatDepsVI
namespace Go.Proofs.YtakflmaeclneiaaGreat
open Go.RowKit

/-- two rows of edges of the call's own that share no block -/
structure TwoE (B : Nat) (E0 : World) (o R : Value) (S T : List Edg) (w : World) : Prop where
  out : OwnEdgs B o S w
  row : OwnEdgs B R T w
  far : ∀ g, o.ownBlock = some g → R.ownBlock ≠ some g
  low : Below B E0 w
theorem TwoE.call {B : Nat} {E0 : World} {o R : Value} {S T : List Edg} {w w' : World} (h : TwoE B E0 o R S T w) (hB : B ≤ w.heap.size) (hb : Below w.heap.size w w') : TwoE B E0 o R S T w' :=
  ⟨h.out.below hb (Nat.le_refl _), h.row.below hb (Nat.le_refl _), h.far, h.low.trans (hb.mono hB)⟩
theorem TwoE.put {B : Nat} {E0 : World} {o o' R : Value} {S S' T : List Edg} {w w' : World} (h : TwoE B E0 o R S T w) (hO : OwnEdgs B o' S' w') (hb : Below B w w') (hg : w.grownBy w' o.ownBlock) (hn : o'.ownBlock = o.ownBlock ∨ o'.ownBlock = some w.heap.size) : TwoE B E0 o' R S' T w' :=
  ⟨hO, h.row.chg (grown_chg hg) fun g h1 h2 => h.far g h2 h1, fun g h1 h2 => by
    rcases hn with e | e
    · exact h.far g (by rw [← e]; exact h1) h2
    · rw [e] at h1; injection h1 with h1
      have := (h.row.lt g h2).2; omega, h.low.trans hb⟩
set_option maxHeartbeats 6400000 in
set_option maxRecDepth 100000 in
theorem implPositionGraph_any (v u : Value) (l : List Rel) (ds : List Dep) (w : World) (hl : RelsAt w w.heap.size v l) (h : DependencyS_at w w.heap.size u ds) (hw : DependencyS_wf ds) (hs : DependencyS_sz ds ≤ 1048576) :
    Calls Tryz.prog 9 #[v, u] w fun e w' => ∃ V, e = .returned V ∧ OwnEdgs w.heap.size V (PositionGraph_r0 l ds) w' ∧ Below w.heap.size w w' := by
  have hcv := implAreValidDeps_any v l u ds w hl h hs
  have HR := Lib.hid hl
  have HX := Lib.hid h
  obtain ⟨A', c, rfl, hc1, hc2⟩ := h.form
  unfold maxLen at hc2
  clear hl h
  cases hok : depsOk l ds with
  | false =>
    have HP := Lib.hid (show PositionGraph_r0 l ds = [] from if_neg (by rw [hok]; simp))
    rw [hok] at hcv
    clear hok
    go_enter Tryz.func9, Tryz.ntmps9
    go_wp2_with (go_at_call 26; refine hcv.mono ?_; rintro e w1 ⟨rfl, hb1⟩)
    go_ret
    exact ⟨_, rfl, by rw [HP.out]; exact OwnEdgs.nil _ _, hb1⟩
  | true =>
    obtain ⟨-, hd5, hdo⟩ := depsOk_parts hok
    have HP := Lib.hid (show PositionGraph_r0 l ds = graphTo l ds from if_pos hok)
    rw [hok] at hcv
    clear hok
    go_enter Tryz.func9, Tryz.ntmps9
    go_wp2_with fail
    refine hcv.mono ?_
    rintro e w1 ⟨rfl, hb1⟩
    have HO1 := Lib.hid (show OwnEdgs w.heap.size (.slice none 0 0) (graphTo l (ds.take 0)) w1 from OwnEdgs.nil _ _)
    have HB1 := Lib.hid hb1
    clear hcv hb1
    go_wp2
    go_loopw [5, 16] (fun o i wr => ∃ k : Nat, k ≤ ds.length ∧ i = .int .i64 (k : Int) ∧ Hid (OwnEdgs w.heap.size o (graphTo l (ds.take k)) wr) ∧ Hid (Below w.heap.size w wr)) (fun _ i _ => ds.length - (intOf i).toNat)
    case atStart => exact ⟨0, by omega, rfl, HO1, HB1⟩
    case round =>
      obtain ⟨k, hk, rfl, HO, HW⟩ := hrel
      clear HO1 HB1
      have hz := HW.out.size
      by_cases hlt : k < ds.length
      · obtain ⟨b, off, V, U, rfl, hb, c0, c1, c2, c3, c4, hV, hU⟩ := DependencyS_at.elem HX.out k hlt
        obtain ⟨PV, cV, rfl, -, -⟩ := hV.form
        obtain ⟨PU, cU, rfl, -, -⟩ := hU.form
        replace c0 := (HW.out.cell (p := ⟨b, off + k * 5, none⟩) hb).trans c0
        replace c1 := (HW.out.cell (p := ⟨b, off + k * 5 + 1, none⟩) hb).trans c1
        replace c2 := (HW.out.cell (p := ⟨b, off + k * 5 + 2, none⟩) hb).trans c2
        replace c3 := (HW.out.cell (p := ⟨b, off + k * 5 + 3, none⟩) hb).trans c3
        replace c4 := (HW.out.cell (p := ⟨b, off + k * 5 + 4, none⟩) hb).trans c4
        have hwd := hw k hlt
        have hdk := hdo _ (List.getElem_mem hlt)
        have hsd : Dependency_sz ds[k] ≤ 1048576 := by
          have h1 := depsLen_take ds k hlt
          have h2 := depsLen_le ds (k + 1)
          unfold DependencyS_sz at hs; omega
        have HN := Lib.hid (graphTo_take l ds k hlt)
        have hgl := graphTo_len (l := l) (ds := ds.take k) fun d hd => hdo d (List.mem_of_mem_take hd)
        have hgl2 : (graphTo l (ds.take k)).length ≤ 7560 := by
          have h3 : (ds.take k).length * 1512 ≤ 5 * 1512 := Nat.mul_le_mul_right 1512 (by rw [List.length_take]; omega)
          omega
        clear hgl
        generalize ds[k] = d at *
        obtain ⟨W1, hEq⟩ : ∃ W1, W1 = wr.alloc (.cells #[.slice PV d.body.length cV, .slice PU d.head.length cU, .bool d.egd, .int .i64 d.left, .int .i64 d.right] 51) := ⟨_, rfl⟩
        have hA1 : Below wr.heap.size wr W1 := by rw [hEq]; exact below_more (Below.refl _ _) _
        have hE1 : Below w.heap.size w W1 := HW.out.trans (hA1.mono hz)
        have K0 := Lib.hid (show W1.cell? ⟨wr.heap.size, 0, none⟩ = some (.slice PV d.body.length cV) by rw [hEq]; simp [go_sem])
        have K1 := Lib.hid (show W1.cell? ⟨wr.heap.size, 1, none⟩ = some (.slice PU d.head.length cU) by rw [hEq]; simp [go_sem])
        have K2 := Lib.hid (show W1.cell? ⟨wr.heap.size, 2, none⟩ = some (.bool d.egd) by rw [hEq]; simp [go_sem])
        have K3 := Lib.hid (show W1.cell? ⟨wr.heap.size, 3, none⟩ = some (.int .i64 d.left) by rw [hEq]; simp [go_sem])
        have K4 := Lib.hid (show W1.cell? ⟨wr.heap.size, 4, none⟩ = some (.int .i64 d.right) by rw [hEq]; simp [go_sem])
        have hzz : w.heap.size ≤ W1.heap.size := hE1.size
        have hcall := implDepEdges_any v (.agg #[.slice PV d.body.length cV, .slice PU d.head.length cU, .bool d.egd, .int .i64 d.left, .int .i64 d.right]) l d W1 ((HR.out.below hE1 (Nat.le_refl _)).more hzz) ⟨_, _, rfl, (hV.below hE1 (Nat.le_refl _)).more hzz, (hU.below hE1 (Nat.le_refl _)).more hzz⟩ hwd hsd hdk
        have HO2 := Lib.hid (HO.out.below hA1 (Nat.le_refl _))
        have HE1 := Lib.hid hE1
        clear hV hU hA1 hE1 HO
        go_upto_region 7 with fail
        rw [← hEq]
        clear hEq c0 c1 c2 c3 c4 HW hz
        have k0 := K0.out
        have k1 := K1.out
        have k2 := K2.out
        have k3 := K3.out
        have k4 := K4.out
        go_wp2_with fail
        refine hcall.mono ?_
        rintro e w2 ⟨u2, rfl, ho2, hb2⟩
        clear k0 k1 k2 k3 k4 K0 K1 K2 K3 K4 hcall
        obtain ⟨A2, d2, rfl, -, hcm2, -⟩ := ho2.at_
        unfold maxLen at hcm2
        have HT2 := Lib.hid (show TwoE w.heap.size w _ (.slice A2 (depEdgs l d).length d2) (putEs (graphTo l (ds.take k)) ((depEdgs l d).take 0)) (depEdgs l d) w2 from ⟨HO2.out.below hb2 (Nat.le_refl _), ho2.mono hzz, fun g h1 h2 => by
          have h3 := (HO2.out.lt g h1).2
          have h4 := (ho2.lt g h2).1
          omega, HE1.out.trans (hb2.mono hzz)⟩)
        have hdl := depEdgs_len hdk
        clear ho2 hb2 HO2 HE1 hzz
        go_wp2
        go_loopw [5, 24] (fun o i wr => ∃ m : Nat, m ≤ (depEdgs l d).length ∧ i = .int .i64 (m : Int) ∧ Hid (TwoE w.heap.size w o (.slice A2 (depEdgs l d).length d2) (putEs (graphTo l (ds.take k)) ((depEdgs l d).take m)) (depEdgs l d) wr)) (fun _ i _ => (depEdgs l d).length - (intOf i).toNat)
        case atStart => exact ⟨0, by omega, rfl, HT2⟩
        case round =>
          obtain ⟨m, hm, rfl, HT⟩ := hrel
          clear HT2
          have hz := HT.out.low.size
          by_cases hlm : m < (depEdgs l d).length
          · obtain ⟨b3, off3, rfl, hb3, c0, c1, c2⟩ := EdgsAt.elem HT.out.row.at_ m hlm
            have HN3 := Lib.hid (show putEs (graphTo l (ds.take k)) ((depEdgs l d).take (m + 1)) = putE (putEs (graphTo l (ds.take k)) ((depEdgs l d).take m)) (depEdgs l d)[m] by rw [List.take_succ_eq_append_getElem hlm, putEs_snoc])
            have hSl : (putEs (graphTo l (ds.take k)) ((depEdgs l d).take m)).length ≤ 1048576 := by
              have h1 := putEs_len (graphTo l (ds.take k)) ((depEdgs l d).take m)
              rw [List.length_take] at h1; omega
            generalize (depEdgs l d)[m] = x at *
            generalize putEs (graphTo l (ds.take k)) ((depEdgs l d).take m) = S at *
            obtain ⟨W3, hEq⟩ : ∃ W3, W3 = wr.alloc (.cells #[.int .i64 x.src, .int .i64 x.dst, .bool x.spec] 55) := ⟨_, rfl⟩
            have HAL := Lib.hid (show Below wr.heap.size wr W3 by rw [hEq]; exact below_more (Below.refl _ _) _)
            have HZ3 := Lib.hid (show W3.heap.size = wr.heap.size + 1 by rw [hEq]; simp)
            have X0 := Lib.hid (show W3.cell? ⟨wr.heap.size, 0, none⟩ = some (.int .i64 x.src) by rw [hEq]; simp [go_sem])
            have X1 := Lib.hid (show W3.cell? ⟨wr.heap.size, 1, none⟩ = some (.int .i64 x.dst) by rw [hEq]; simp [go_sem])
            have X2 := Lib.hid (show W3.cell? ⟨wr.heap.size, 2, none⟩ = some (.bool x.spec) by rw [hEq]; simp [go_sem])
            have HT3 := Lib.hid (HT.out.call hz HAL.out)
            go_upto_region 10 with fail
            rw [← hEq]
            clear hEq c0 c1 c2
            have x0 := X0.out
            have x1 := X1.out
            have x2 := X2.out
            cases hq : decide (x ∈ S) with
            | true =>
              have HV := Lib.hid (show putE S x = S from if_pos (of_decide_eq_true hq))
              have hcall := implContainsE_at S x true hq _ W3 HT3.out.out.at_
              clear hq
              go_wp2_with fail
              refine hcall.mono ?_
              rintro e w4 ⟨rfl, hb4⟩
              have HT4 := Lib.hid (HT3.out.call HT3.out.low.size hb4)
              clear x0 x1 x2 hb4 hcall
              go_wp2
              go_roundw
              case rel => exact ⟨m + 1, by omega, by go_num, Lib.hid (by rw [HN3.out, HV.out]; exact HT4.out)⟩
              case measure => simp [intOf]; omega
            | false =>
              have HV := Lib.hid (show putE S x = S ++ [x] from if_neg (of_decide_eq_false hq))
              have hcall := implContainsE_at S x false hq _ W3 HT3.out.out.at_
              clear hq
              go_wp2_with fail
              refine hcall.mono ?_
              rintro e w4 ⟨rfl, hb4⟩
              have hz3 := HZ3.out
              have y0 := (hb4.cell (p := ⟨wr.heap.size, 0, none⟩) (by show wr.heap.size < _; omega)).trans x0
              have y1 := (hb4.cell (p := ⟨wr.heap.size, 1, none⟩) (by show wr.heap.size < _; omega)).trans x1
              have y2 := (hb4.cell (p := ⟨wr.heap.size, 2, none⟩) (by show wr.heap.size < _; omega)).trans x2
              have HT4 := Lib.hid (HT3.out.call HT3.out.low.size hb4)
              have HAL5 := Lib.hid (show Below w4.heap.size w4 (w4.alloc (.cells #[.int .i64 x.src, .int .i64 x.dst, .bool x.spec] 55)) from below_more (Below.refl _ _) _)
              have HT5 := Lib.hid (HT4.out.call HT4.out.low.size HAL5.out)
              have HONE := Lib.hid (show EdgsAt (w4.alloc (.cells #[.int .i64 x.src, .int .i64 x.dst, .bool x.spec] 55)) (w4.alloc (.cells #[.int .i64 x.src, .int .i64 x.dst, .bool x.spec] 55)).heap.size (.slice (some ⟨w4.heap.size, 0, none⟩) [x].length 1) [x] from (OwnEdgs.one w4 w4.heap.size x (Nat.le_refl _)).at_)
              have HSZ := Lib.hid (HT5.out.low.size)
              clear x0 x1 x2 hb4 hcall
              go_wp2_with (at_builtin; refine edgs_apps (r := [x]) HT5.out.out rfl _ _ rfl rfl (some ⟨w4.heap.size, 0, none⟩) 1 1 rfl rfl HONE.out (fun h => by cases h) (by simp; omega) HSZ.out ?_; intro v5 w5 hO5 hB5 hG5 hN5)
              go_roundw
              case rel => exact ⟨m + 1, by omega, by go_num, Lib.hid (by rw [HN3.out, HV.out]; exact HT5.out.put hO5 hB5 hG5 hN5)⟩
              case measure => simp [intOf]; omega
          · obtain rfl : m = (depEdgs l d).length := by omega
            have HOF := Lib.hid (show OwnEdgs w.heap.size _ (graphTo l (ds.take (k + 1))) wr by have := HT.out.out; rwa [List.take_length, ← HN.out] at this)
            have HWF := Lib.hid HT.out.low
            clear HT
            go_wp2
            go_roundw
            case rel => exact ⟨k + 1, by omega, by go_num, HOF, HWF⟩
            case measure => simp [intOf]; omega
      · obtain rfl : k = ds.length := by omega
        have HF := Lib.hid (show OwnEdgs w.heap.size _ (PositionGraph_r0 l ds) wr by have := HO.out; rwa [List.take_length, ← HP.out] at this)
        clear HO
        go_wp2
        go_ret
        exact ⟨_, rfl, HF.out, HW.out⟩
theorem implPositionGraph_c (v : Value) (l : List Rel) (u : Value) (ds : List Dep) (w : World) (hl : RelationS_at w w.heap.size v l) (_ : RelationS_wf l) (_ : RelationS_sz l ≤ 1048576) (h : DependencyS_at w w.heap.size u ds) (hw : DependencyS_wf ds) (hs : DependencyS_sz ds ≤ 1048576) :
    Calls Tryz.prog 9 #[v, u] w fun e w' => ∃ V, e = .returned V ∧ PositionEdgeS_own w.heap.size w'.heap.size V (PositionGraph_r0 l ds) w' ∧ PositionEdgeS_sz (PositionGraph_r0 l ds) ≤ 1048576 ∧ Below w.heap.size w w' :=
  (implPositionGraph_any v u l ds w hl h hw hs).mono fun _ _ ⟨V, he, ho, hb⟩ => ⟨V, he, PositionEdgeS_own.of ho, by have := graph_len l ds; unfold PositionEdgeS_sz; omega, hb⟩

end Go.Proofs.YtakflmaeclneiaaGreat
