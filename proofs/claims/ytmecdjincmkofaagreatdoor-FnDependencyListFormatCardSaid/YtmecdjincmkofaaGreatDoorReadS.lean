/-
  Walks and plain lemmas for the laws of this seat: what single Go functions return, for every argument.
-/
import Derived.Test.YtmecdjincmkofaaGreatDoorBase
import Derived.Test.YtmecdjincmkofaaGreatDoorMem
import Derived.Test.YtmecdjincmkofaaGreatDoorInts
import Derived.Test.YtmecdjincmkofaaGreatDoorTyAtom
import Derived.Test.YtmecdjincmkofaaGreatDoorPlan
import Derived.Test.YtmecdjincmkofaaGreatDoorFmtV
import Derived.Test.YtmecdjincmkofaaGreatDoorVarsM
import Derived.Test.YtmecdjincmkofaaGreatDoorFmtTS
import Derived.Test.YtmecdjincmkofaaGreatDoorFmtDI
namespace Go.Proofs.YtmecdjincmkofaaGreatDoor
open Go.RowKit

/-- an atom's box while its text is read: the first k bytes are taken -/
def ReadInv (l : List Rel) (t : ByteArray) (g : Nat) (W : World) (kv : Value) (wq : World) : Prop :=
  ∃ (k : Nat) (V : Value) (a : Atm), k ≤ t.size ∧ kv = .int .i64 k ∧ Hid (a = readAtom l (t.data.toList.take k)) ∧ wq.cell? ⟨g, 0, none⟩ = some (.int .i64 a.rel) ∧ wq.cell? ⟨g, 1, none⟩ = some V ∧ (∀ o, wq.frozen? ⟨g, o, none⟩ = false) ∧ OwnInts (g + 1) V a.vals wq ∧ Hid (Chg (fun q => q = g) W wq)
theorem ReadInv.mk' {l : List Rel} {t : ByteArray} {g : Nat} {W : World} {kv : Value} {wq : World} (k : Nat) (V : Value) (a : Atm) (h1 : k ≤ t.size) (h2 : kv = .int .i64 k) (h3 : a = readAtom l (t.data.toList.take k)) (h4 : wq.cell? ⟨g, 0, none⟩ = some (.int .i64 a.rel)) (h5 : wq.cell? ⟨g, 1, none⟩ = some V) (h6 : ∀ o, wq.frozen? ⟨g, o, none⟩ = false) (h7 : OwnInts (g + 1) V a.vals wq) (h8 : Chg (fun q => q = g) W wq) : ReadInv l t g W kv wq :=
  ⟨k, V, a, h1, h2, Lib.hid h3, h4, h5, h6, h7, Lib.hid h8⟩
set_option maxHeartbeats 3200000 in
set_option maxRecDepth 100000 in
theorem specRead_any (v : Value) (l : List Rel) (s : ByteArray) (w : World) (hl : RelsAt w w.heap.size v l) (hs : s.size ≤ 1048576) :
    Calls Tryz.prog 121 #[v, .string s] w fun e w' => ∃ u, e = .returned u ∧ AtomS_own w.heap.size w'.heap.size u (readAtoms l s.data.toList) w' ∧ Below w.heap.size w w' := by
  have HLR := Lib.hid hl
  obtain ⟨A0, a0, rfl, hlc, hcm, -⟩ := hl
  have hcut := specCutAt_any 32 s (w.alloc (.cells #[] 184)) hs
  have h32 : (((32 : UInt8).toNat : Nat) : Int) = 32 := rfl
  rw [h32] at hcut
  clear h32
  have hE : Below w.heap.size w (w.alloc (.cells #[] 184)) := below_more (Below.refl _ _) _
  have hEz : (w.alloc (.cells #[] 184)).heap.size = w.heap.size + 1 := by simp
  have HO0 := Lib.hid (AtomSO.empty 184 w)
  go_enter Tryz.func121, Tryz.ntmps121
  go_wp2_with fail
  refine hcut.mono ?_
  rintro e w1 ⟨vW, L, rfl, hL, hOL, hb1⟩
  have hz1 := hb1.size
  have hW1 := hE.trans (hb1.mono hE.size)
  have hLl : L.length = (cutA 32 s.data.toList).length := by have := congrArg List.length hL; simpa [dataOf] using this
  have hLn : L.length ≤ 1048577 := by
    have h1 := cutA_len 32 s.data.toList
    have h2 : s.data.toList.length = s.size := by simp
    omega
  have hLt : ∀ (k : Nat) (h : k < L.length), L[k].size ≤ 1048576 := by
    intro k h
    have h1 := cutA_mem_len 32 s.data.toList L[k].data.toList (by rw [← hL]; exact List.mem_map.2 ⟨_, List.getElem_mem h, rfl⟩)
    have h2 : s.data.toList.length = s.size := by simp
    have h3 : L[k].data.toList.length = L[k].size := by simp
    omega
  obtain ⟨A, c, rfl, hc1, hc2⟩ := hOL.form
  unfold maxLen at hc2
  have HO1 := Lib.hid (HO0.out.below hb1 (by rw [hEz]; exact Nat.le_refl _))
  have HL := Lib.hid hL
  have HLl := Lib.hid hLl
  have HLt := Lib.hid hLt
  have HEz := Lib.hid hEz
  clear hcut hL hLl hLt hb1 hEz
  rw [HEz.out] at hOL hz1
  go_wp2
  go_loopw [5, 7, 8, 9] (fun o i _ _ wr => ∃ (n : Nat) (Vs : List Value), n ≤ L.length ∧ i = .int .i64 n ∧ AtomSO 184 w.heap.size wr.heap.size o Vs (((cutA 32 s.data.toList).take n).map (readAtom l)) wr ∧ OwnStrs (w.heap.size + 1) (.slice A L.length c) L wr ∧ Below w.heap.size w wr) (fun _ i _ _ _ => L.length - (intOf i).toNat)
  case atStart => exact ⟨0, [], by omega, rfl, HO1.out.mono (Nat.le_refl _) hz1, hOL, hW1⟩
  case round =>
    clear hOL hW1 hz1
    obtain ⟨n, Vs, hn, rfl, hO, hOL, hW⟩ := hrel
    have hz := hW.size
    by_cases hlt : n < L.length
    · have hnc : n < (cutA 32 s.data.toList).length := by have := HLl.out; omega
      obtain ⟨b, off, rfl, hb, hc⟩ := StrsAt.elem hOL.at_ n hlt
      have HK : Hid (L[n].data.toList = (cutA 32 s.data.toList)[n]) := Lib.hid (by simp [← HL.out, dataOf])
      have hts := HLt.out n hlt
      have HN := Lib.hid (show ((cutA 32 s.data.toList).take (n + 1)).map (readAtom l) = ((cutA 32 s.data.toList).take n).map (readAtom l) ++ [readAtom l L[n].data.toList] by
        rw [List.take_succ_eq_append_getElem hnc, List.map_append, HK.out]; rfl)
      have hRl : (((cutA 32 s.data.toList).take n).map (readAtom l)).length = n := by rw [List.length_map, List.length_take]; omega
      generalize hR : ((cutA 32 s.data.toList).take n).map (readAtom l) = R at *
      generalize L[n] = t at *
      have HRl := Lib.hid hRl
      clear HK hR hRl
      obtain ⟨oP, oc, rfl, -, -⟩ := (hO.at_ (Nat.le_refl _)).form
      obtain ⟨g, hg⟩ : ∃ g, g = wr.heap.size := ⟨_, rfl⟩
      obtain ⟨W, hWe⟩ : ∃ W, W = wr.alloc (.cells #[.int .i64 (-1), .slice none 0 0] 184) := ⟨_, rfl⟩
      have y0 : W.cell? ⟨g, 0, none⟩ = some (.int .i64 (-1)) := by rw [hWe, hg]; simp [go_sem]
      have y1 : W.cell? ⟨g, 1, none⟩ = some (.slice none 0 0) := by rw [hWe, hg]; simp [go_sem]
      have yz : ∀ o, W.frozen? ⟨g, o, none⟩ = false := by intro o; rw [hWe, hg]; simp [go_sem]
      have hAl : Below g wr W := by rw [hWe]; exact (Below.refl _ _).alloc (by omega) _
      have hWs : W.heap.size = g + 1 := by rw [hWe, hg]; simp
      have HAl := Lib.hid hAl
      have HWs := Lib.hid hWs
      have HG := Lib.hid hg
      have HO := Lib.hid (hO.below hAl (by omega))
      have HOLr := Lib.hid (hOL.below hAl (by omega))
      have hS0 := Lib.hid ((hAl.cell (p := ⟨b, off + n, none⟩) (by show b < g; omega)).trans hc)
      have hbg : b < g := by omega
      have hgw : w.heap.size ≤ g := by omega
      have hOle := hO.len
      have HOI := Lib.hid (fun q hq => (World.ownsRow.lt hOL q hq).2)
      have HEL := Lib.hid hO.el
      clear hO hOL hc hAl hWs
      go_wp2
      rw [← hg, ← hWe]
      clear hWe hg
      go_loopw [9] (fun k' wq => ReadInv l t g W k' wq) (fun k' _ => t.size - (intOf k').toNat)
      case atStart => exact ReadInv.mk' 0 _ ⟨-1, []⟩ (by omega) rfl rfl y0 y1 yz (OwnInts.nil _ _) (Chg.refl _ _)
      case round =>
        clear y0 y1 yz
        obtain ⟨k, V, a, hk, rfl, HA, y0, y1, yz, hOV, HC⟩ := hrel
        obtain ⟨P4, c4, rfl, hl4, hm4, -⟩ := id hOV.at_
        unfold maxLen at hm4
        have hgq : g + 1 ≤ wr.heap.size := by have h1 := HC.out.size; rw [HWs.out] at h1; exact h1
        have hsq : wr.cell? ⟨b, off + n, none⟩ = some (.string t) := (HC.out.cell (b := b) (o := off + n) (by rw [HWs.out]; omega) (by omega)).trans hS0.out
        have HWq := Lib.hid (show Below w.heap.size w wr from hW.trans ((HAl.out.mono hgw).trans (HC.out.below (fun q hq => by omega) (by rw [HWs.out]; omega))))
        by_cases hlk : k < t.size
        · by_cases h0 : k = 0
          · have hb0 : ((k : Int) == 0) = true := by rw [h0]; rfl
            obtain rfl : a = ⟨-1, []⟩ := by rw [HA.out, h0]; rfl
            have hlk0 : 0 < t.size := by omega
            have e1 := extract_one t 0 hlk0
            have hidx := specRelationIndex_any (.slice A0 l.length a0) l ⟨#[t[0]'hlk0]⟩ wr ((HLR.out.below HWq.out (Nat.le_refl _)).more HWq.out.size)
            have hs1 : 1 ≤ t.size := hlk0
            have hs2 : k + 1 ≤ t.size := by omega
            have HA2 := Lib.hid (show readAtom l (t.data.toList.take (k + 1)) = ⟨relIdx ⟨#[t[0]'hlk0]⟩ l, []⟩ by rw [h0]; exact readAtom_one l t.data.toList (by simpa using hlk0))
            obtain ⟨q0, hq0⟩ : ∃ q0, q0 = relIdx ⟨#[t[0]'hlk0]⟩ l := ⟨_, rfl⟩
            rw [← hq0] at hidx HA2
            generalize (⟨#[t[0]'hlk0]⟩ : ByteArray) = T0 at *
            clear hq0 h0
            have HOV := Lib.hid hOV
            clear hOV
            go_wp2_with fail
            refine hidx.mono ?_
            rintro e w2 ⟨rfl, rfl⟩
            have z0 : (wr.setCell ⟨g, 0, none⟩ (.int .i64 q0)).cell? ⟨g, 0, none⟩ = some (.int .i64 q0) := by simp [go_sem, y0]
            have z1 : (wr.setCell ⟨g, 0, none⟩ (.int .i64 q0)).cell? ⟨g, 1, none⟩ = some (.slice P4 0 c4) := by simp [go_sem]; exact y1
            have zz : ∀ o, (wr.setCell ⟨g, 0, none⟩ (.int .i64 q0)).frozen? ⟨g, o, none⟩ = false := fun o => by simp [yz]
            have Z := Lib.hid (And.intro z0 (And.intro z1 zz))
            clear z0 z1 zz
            go_wp2
            go_roundw
            case rel => exact ReadInv.mk' (k + 1) (.slice P4 0 c4) ⟨q0, []⟩ hs2 (by go_num) HA2.out.symm Z.out.1 Z.out.2.1 Z.out.2.2 (HOV.out.chg ((Chg.refl (fun q => q = g) wr).setCell (p := ⟨g, 0, none⟩) rfl _) (fun q hq e => by have := (HOV.out.lt q hq).1; omega)) (HC.out.setCell (p := ⟨g, 0, none⟩) rfl _)
            case measure => simp [intOf]; omega
          · have hb0 : ((k : Int) == 0) = false := beq_eq_false_iff_ne.2 (by omega)
            have e1 := extract_one t k hlk
            have hs1 : k + 1 ≤ t.size := hlk
            have HA2 := Lib.hid (readAtom_succ l t.data.toList k (by omega) (by simpa using hlk))
            have HT0 : Hid (t.data.toList[k]'(by simpa using hlk) = t[k]) := Lib.hid rfl
            rw [HT0.out, ← HA.out] at HA2
            have hal : a.vals.length ≤ 1048576 := by
              have h1 := readAtom_len l (t.data.toList.take k)
              rw [← HA.out, List.length_take] at h1
              omega
            have hterm := specL10Term_any t[k]
            generalize t[k] = ch at *
            have hS : Holds [(⟨g, 1, none⟩, .slice P4 a.vals.length c4), (⟨b, off + n, none⟩, .string t)] wr.drew := by
              intro q hq
              simp only [List.mem_cons, List.not_mem_nil, or_false] at hq
              rcases hq with rfl | rfl
              · exact y1
              · exact hsq
            have HSb := Lib.hid (show ∀ q ∈ [((⟨g, 1, none⟩ : Addr), Value.slice P4 a.vals.length c4), (⟨b, off + n, none⟩, .string t)], q.1.block < g + 1 by
              intro q hq
              simp only [List.mem_cons, List.not_mem_nil, or_false] at hq
              rcases hq with rfl | rfl
              · show g < g + 1; omega
              · show b < g + 1; omega)
            have g0 := Keep.cell (h0 := hS) (a := ⟨g, 1, none⟩) (v := .slice P4 a.vals.length c4) (by simp)
            have g1 := Keep.cell (h0 := hS) (a := ⟨b, off + n, none⟩) (v := .string t) (by simp)
            have HOV := Lib.hid hOV
            have hb1 : ((0 : Int) ≤ (k : Int) + 1) := by omega
            clear hOV
            go_wp2
            refine wp_region_planL (C := fun w' => ∃ u : Keep _ wr.drew hS, w' = u.now) (.still 0 (.still 1 (.still 2 (.still 3 (.still 4 (.still 5 (.still 6 (.still 7 (.still 8 (.still 9 (.move true 10 (.move true 11 (.move true 12 (.still 13 (.move false 14 .done .none)) .none) .none) .none))))))))))) (by kernel_rfl) (by kernel_rfl) (by kernel_rfl) (fun _ => ⟨⟨_, hS⟩, rfl⟩) ?_
            iterate 10
              refine plan_look _ rfl rfl ?_
              go_big_quiet_step (fail)
              refine wpQuiet_nil ?_
            refine plan_call _ 122 _ _ _ _ _ rfl _ Tryz.func122 (by kernel_rfl) (by kernel_rfl) ?_ True.intro
            refine (hterm _).mono ?_
            rintro _ w2 ⟨rfl, hb2⟩
            have hb2' : Below wr.heap.size wr w2 := (show Below wr.heap.size wr wr.drew from (Below.refl _ _).drew).trans hb2
            have hz2 := hb2'.size
            have hK2 := hS.below hb2 (fun q hq => Nat.lt_of_lt_of_le (HSb.out q hq) hgq)
            refine ⟨_, rfl, fun _ => ⟨⟨_, hK2⟩, rfl⟩, ?_⟩
            refine plan_put ?_ (by simp only [Act.put, List.setIfInBounds_toArray, List.set_cons_succ, List.set_cons_zero]; rfl)
            have hAl2 := (Below.refl (g + 1) w2).alloc (by omega) (.cells #[.int .i64 (termOf ch)] 3)
            refine plan_value (u := .slice (some ⟨w2.heap.size, 0, none⟩) 1 1) (w' := w2.alloc (.cells #[.int .i64 (termOf ch)] 3)) _ rfl rfl rfl (by simp [go_sem]) (fun _ => ⟨⟨_, hK2.below hAl2 HSb.out⟩, rfl⟩) ?_ True.intro
            refine plan_put ?_ (by simp only [Act.put, List.setIfInBounds_toArray, List.set_cons_succ, List.set_cons_zero]; rfl)
            have hO3 := (HOV.out.below hb2' (Nat.le_refl _)).below ((Below.refl w2.heap.size w2).alloc (Nat.le_refl _) (.cells #[.int .i64 (termOf ch)] 3)) (Nat.le_refl _)
            unfold OwnInts at hO3
            rw [← flat_int] at hO3
            have hr : SliceAt intCell (w2.alloc (.cells #[.int .i64 (termOf ch)] 3)) (w2.heap.size + 1) (.slice (some ⟨w2.heap.size, 0, none⟩) [termOf ch].length 1) [termOf ch] := by
              refine ⟨_, _, rfl, Nat.le_refl _, by simp [maxLen], fun _ => ⟨_, _, rfl, by omega, ?_⟩, fun h => by cases h⟩
              intro i u hu
              rw [Nat.zero_add, box_cell]
              simpa [intCell] using hu
            refine plan_app intCell 1 8 (r := [termOf ch]) (fun x _ u hu => by simp [intCell] at hu; subst hu; rfl) (fun _ => rfl) _ rfl rfl Tryz.underlying55 infoInt rfl (by decide) hO3 _ _ rfl rfl ⟨w2.heap.size, 0, none⟩ 1 1 rfl rfl hr (by simp; omega) (by simp; omega) (by simp; omega) ?_ True.intro
            intro v4 w4 hO4 hB4 _ _
            have hb4 := hAl2.trans hB4
            have hO5 : OwnInts (g + 1) v4 (a.vals ++ [termOf ch]) w4 := by
              have := hO4
              rw [flat_int] at this
              simpa [OwnInts] using this
            obtain ⟨P5, c5, rfl, -⟩ := hO5.at_
            have hl5 : (a.vals ++ [termOf ch]).length = a.vals.length + 1 := by simp
            rw [hl5] at hO5
            clear hl5
            have q0 := (hb4.cell (p := ⟨g, 0, none⟩) (Nat.lt_succ_self _)).trans ((hb2'.cell (p := ⟨g, 0, none⟩) (by show g < _; omega)).trans y0)
            have q1 := (hb4.cell (p := ⟨g, 1, none⟩) (Nat.lt_succ_self _)).trans ((hb2'.cell (p := ⟨g, 1, none⟩) (by show g < _; omega)).trans y1)
            have qz := fun o => (hb4.frozen (p := ⟨g, o, none⟩) (Nat.lt_succ_self _)).trans ((hb2'.frozen (p := ⟨g, o, none⟩) (by show g < _; omega)).trans (yz o))
            have HO5 := Lib.hid hO5
            have HB4 := Lib.hid ((hb2'.mono hgq).trans hb4)
            refine ⟨fun _ => ⟨⟨_, hK2.below hb4 HSb.out⟩, rfl⟩, ?_⟩
            clear hO5 hb4 hO4 hB4 hr hO3 hAl2 hK2 y0 y1 yz hb2'
            refine plan_put ?_ (by simp only [Act.put, List.setIfInBounds_toArray, List.set_cons_succ, List.set_cons_zero]; rfl)
            refine plan_look _ rfl rfl ?_
            go_big_quiet_step (fail)
            refine wpQuiet_nil ?_
            refine plan_skip (w' := w4.setCell ⟨g, 1, none⟩ (.slice P5 (a.vals.length + 1) c5)) _ rfl rfl rfl (by simp [go_sem, q1, qz]) (fun e => by cases e) ?_ True.intro
            refine plan_put ?_ (by simp only [Act.put]; rfl)
            refine plan_done ?_
            have z0 : (w4.setCell ⟨g, 1, none⟩ (.slice P5 (a.vals.length + 1) c5)).cell? ⟨g, 0, none⟩ = some (.int .i64 a.rel) := by simp [go_sem, q0]
            have z1 : (w4.setCell ⟨g, 1, none⟩ (.slice P5 (a.vals.length + 1) c5)).cell? ⟨g, 1, none⟩ = some (.slice P5 (a.vals.length + 1) c5) := by simp [go_sem, q1]
            have zz : ∀ o, (w4.setCell ⟨g, 1, none⟩ (.slice P5 (a.vals.length + 1) c5)).frozen? ⟨g, o, none⟩ = false := fun o => by simp [qz]
            have Z := Lib.hid (And.intro z0 (And.intro z1 zz))
            clear z0 z1 zz q0 q1 qz
            go_wp2
            go_roundw
            case rel => exact ReadInv.mk' (k + 1) _ ⟨a.rel, a.vals ++ [termOf ch]⟩ hs1 (by go_num) HA2.out.symm Z.out.1 Z.out.2.1 Z.out.2.2 (HO5.out.chg ((Chg.refl (fun q => q = g) w4).setCell (p := ⟨g, 1, none⟩) rfl _) (fun q hq e => by have := (HO5.out.lt q hq).1; omega)) ((HC.out.then_below (by have h1 := HC.out.size; exact HB4.out.mono (by rw [HWs.out]; exact Nat.le_refl _))).setCell (p := ⟨g, 1, none⟩) rfl _)
            case measure => simp [intOf]; omega
        · obtain rfl : k = t.size := by omega
          have HAe : Hid (a = readAtom l t.data.toList) := Lib.hid (by rw [HA.out, List.take_of_length_le (by simp)])
          have hchg : Chg (Mid g (g + 1)) W wr := HC.out.mono fun q hq => by subst hq; exact ⟨Nat.le_refl _, Nat.lt_succ_self _⟩
          have HOq := Lib.hid ((HO.out.mono (Nat.le_refl _) (Nat.le_of_eq HG.out.symm)).chg hchg (.inl (Nat.le_refl _)))
          have HLq := Lib.hid (HC.out.row HOLr.out (fun q hq e => by have h1 := HOI.out q hq; have h2 := HG.out; omega))
          have HUq := Lib.hid (IntsO.of hOV)
          have hln : R.length ≤ 1048577 := by rw [HRl.out]; omega
          have hap := apairs_len HOq.out.len
          have HAp := Lib.hid hap
          have hbd1 : ((apairs R Vs).length + 1) * 32 ≤ 140737488355328 := by rw [hap]; omega
          have hbd2 : (apairs R Vs).length < 140737488355328 := by rw [hap]; omega
          have hbd3 : w.heap.size ≤ wr.heap.size := HWq.out.size
          clear hchg hOV hap hln HA
          go_wp2_with (at_builtin; refine wp_own_app_one apairCells 2 32 apairCells_len Tryz.underlying35 infoAtm rfl (by decide) HOq.out.row rfl _ _ rfl rfl (a.rel, .slice P4 a.vals.length c4) (fun u hu => by simp [apairCells] at hu; rcases hu with rfl | rfl <;> rfl) 1 rfl hbd1 hbd2 hbd3 ?_; intro v8 w8 hrow hB8 hg8)
          have hz8 := hg8.size
          have hFS := AtomSO.snoc (e := 184) (by decide) (x := a) (C' := w8.heap.size) HOq.out (by omega) hrow hg8 (row_inside hrow (Nat.le_refl _)) (HUq.out.mono (by omega) hz8) (fun i hi q h1 h2 => by
            have h3 := (HUq.out.1.lt q h2).1
            have h4 := (HOq.out.el i (by have := HOq.out.len; omega) hi).2 q h1
            omega)
          have hkeep : OwnStrs (w.heap.size + 1) (.slice (some ⟨b, off, none⟩) L.length c) L w8 := World.ownsRow.kept HLq.out hg8 (own_ne HLq.out HOq.out.row (by decide))
          have hWf := HWq.out.trans hB8
          go_roundw
          case rel => exact ⟨n + 1, Vs ++ [.slice P4 a.vals.length c4], by omega, by go_num, by rw [HN.out, ← HAe.out]; exact hFS, hkeep, hWf⟩
          case measure => simp [intOf]; omega
    · obtain rfl : n = L.length := by omega
      have HV := Lib.hid (show ((cutA 32 s.data.toList).take L.length).map (readAtom l) = readAtoms l s.data.toList by rw [HLl.out, List.take_of_length_le (Nat.le_refl _)]; rfl)
      rw [HV.out] at hO
      go_wp2
      go_ret
      exact ⟨_, rfl, ⟨Vs, hO⟩, hW⟩

end Go.Proofs.YtmecdjincmkofaaGreatDoor
