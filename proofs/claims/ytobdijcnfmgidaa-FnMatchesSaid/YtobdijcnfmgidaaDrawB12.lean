/-
  Walks and plain lemmas for the laws of this seat: what single Go functions return, for every argument.
-/
import Derived.Test.YtobdijcnfmgidaaInts
import Derived.Test.YtobdijcnfmgidaaDraw
import Derived.Test.YtobdijcnfmgidaaAft
import Derived.Test.YtobdijcnfmgidaaDrawD9
import Derived.Test.YtobdijcnfmgidaaDrawB11
import Derived.Test.YtobdijcnfmgidaaDrawB15
import Derived.Test.YtobdijcnfmgidaaFindS
import Derived.Test.YtobdijcnfmgidaaMatF
namespace Go.Proofs.Ytobdijcnfmgidaa
open Go.RowKit

def GivesBind (w : World) (p : Nat) (cv : Value) (code : List UInt8) (e : Ending) (w' : World) : Prop :=
  ∃ U b, e = .returned U ∧ IntS_own w.heap.size w'.heap.size U b w' ∧ b.length ≤ 5 ∧ (∀ z ∈ b, -40 ≤ z ∧ z ≤ 10) ∧ (∃ st', CurS w' p cv code st') ∧ w.grownBy w' (some p)
set_option maxHeartbeats 6400000 in
set_option maxRecDepth 100000 in
theorem l11Bind_c (p : Nat) (cv : Value) (code : List UInt8) (st : DrawSt) (v u : Value) (x : Inst) (l : List Atm) (w : World) (hC : CurS w p cv code st) (hx : Instance_at w w.heap.size v x) (hxw : Instance_wf x) (hn : x.rels.length ≤ 1048576) (hl : AtomS_at w w.heap.size u l) (hlw : AtomS_wf l) :
    Calls Try.prog 63 #[.pointer (some ⟨p, 0, none⟩), v, u] w (GivesBind w p cv code) := by
  have hp := Cur.lt hC
  obtain ⟨P, c, Q, d, rfl⟩ := Instance_form hx
  obtain ⟨R, q, rfl, hq1, hq2⟩ := hl.form
  obtain ⟨E, hEq⟩ : ∃ E, E = w.alloc (.cells #[.slice P x.rels.length c, .slice Q x.facts.length d] 27) := ⟨_, rfl⟩
  have hE : Below w.heap.size w E := by rw [hEq]; exact below_more (Below.refl _ _) _
  have X0 : E.cell? ⟨w.heap.size, 0, none⟩ = some (.slice P x.rels.length c) := by rw [hEq]; simp [go_sem]
  have X1 : E.cell? ⟨w.heap.size, 1, none⟩ = some (.slice Q x.facts.length d) := by rw [hEq]; simp [go_sem]
  have hCE : CurS E p cv code st := by rw [hEq]; exact Cur.alloc hC _
  have hGE : w.grownBy E (some p) := by rw [hEq]; exact World.grownBy_alloc w _ (some p)
  have hfm := specFind_any _ _ x l E ((hx.below hE (Nat.le_refl _)).more hE.size) hxw hn ((hl.below hE (Nat.le_refl _)).more hE.size) hlw
  have HEZ := Lib.hid hE.size
  clear hx hl hE
  rw [hEq] at X0 X1
  go_enter Try.func63, Try.ntmps63
  go_wp2_with fail
  rw [← hEq]
  clear hEq X0 X1
  refine hfm.mono ?_
  rintro e w1 ⟨V, rfl, ⟨Us, hSU⟩, hb1⟩
  obtain ⟨A, cu, rfl, -, hcu⟩ := (hSU.at_ (Nat.le_refl _)).form
  have hsm := fun b (hb : b ∈ FindMatches_r0 x l) => find_small (x := x) (l := l) hb
  have hlen := find_len x l
  generalize FindMatches_r0 x l = M at *
  have hC1 := Cur.below hCE hCE hb1
  have hG1 := grown_of_below hGE (hb1.mono HEZ.out)
  have hz1 := hb1.size
  have hS1 := hSU.mono (show w.heap.size ≤ E.heap.size from HEZ.out) (Nat.le_refl _)
  have HSM := Lib.hid hsm
  clear hSU hb1 hfm hCE hGE hsm
  by_cases h0 : M.length = 0
  · have hd0 : decide ((0 : Int) < (M.length : Int)) = false := decide_eq_false (by omega)
    have hd1 : decide (0 < M.length) = false := decide_eq_false (by omega)
    clear h0
    go_upto_region 4 with fail
    have hO3 : OwnInts w.heap.size (.slice (some ⟨w1.heap.size, 0, none⟩) 0 0) [] (w1.alloc (.cells #[] 3)) := OwnInts.empty w1 _ (Nat.le_trans HEZ.out hz1)
    have HO3 := Lib.hid hO3
    have hC3 : CurS (w1.alloc (.cells #[] 3)) p cv code st := Cur.alloc hC1 _
    have HG3 := Lib.hid (hG1.trans (World.grownBy_alloc w1 (.cells #[] 3) (some p)))
    clear hO3
    go_wp2
    go_loopw [8] (fun V wr => ∃ (b : List Int) (st' : DrawSt), slLen V = b.length ∧ b.length ≤ 5 ∧ Hid (∀ z ∈ b, -40 ≤ z ∧ z ≤ 10) ∧ Hid (OwnInts w.heap.size V b wr) ∧ CurS wr p cv code st' ∧ Hid (w.grownBy wr (some p))) (fun V _ => 5 - slLen V)
    case atStart => exact ⟨[], _, rfl, by simp, Lib.hid (fun z hz => by cases hz), HO3, hC3, HG3⟩
    case round =>
      clear HO3 hC3 HG3
      obtain ⟨b, st', hsl, hb5, HB, HO, hCr, HG⟩ := hrel
      obtain ⟨A3, c3, rfl, -, hcm, -⟩ := id HO.out.at_
      unfold maxLen at hcm
      have HZr := Lib.hid HG.out.size
      clear hsl
      go_wp2_with fail
      have hbd := belowR_bd code st' 12
      refine (l1Below_r p cv code _ _ _ hCr).mono ?_
      rintro e w4 ⟨rfl, hC4, hg4⟩
      generalize belowR code st' 12 = kk at *
      obtain ⟨kv, st4⟩ := kk
      dsimp only at *
      have hk0 := hbd.1
      have hk1 := hbd.2 (by omega)
      have HG4 := Lib.hid (HG.out.trans hg4)
      have HO4 := Lib.hid (HO.out.grown hg4 hp)
      have HBq := Lib.hid (show ∃ B : Nat, (B = 4 ∨ B = 5) ∧ (5 - kv.tdiv 11 : Int) = (B : Int) from by
        have h1 : kv.tdiv 11 = kv / 11 := Int.tdiv_eq_ediv_of_nonneg hk0
        rcases (show kv < 11 ∨ kv = 11 by omega) with h | h
        · exact ⟨5, .inr rfl, by rw [h1]; omega⟩
        · exact ⟨4, .inl rfl, by rw [h1]; omega⟩)
      clear hbd hg4 HO HG hCr
      obtain ⟨B, hB, hBq⟩ := HBq.out
      obtain ⟨qv, hqv⟩ : ∃ qv, kv.tdiv 11 = qv := ⟨_, rfl⟩
      rw [hqv] at hBq
      have hq01 : 0 ≤ qv ∧ qv ≤ 1 := by omega
      clear HBq
      by_cases hlt : b.length < B
      · have hd : decide ((b.length : Int) < (B : Int)) = true := decide_eq_true (by omega)
        have hd2 : decide (b.length < B) = true := decide_eq_true hlt
        go_wp2_with fail
        refine (l1PickInt_d p cv code _ [10, 10, 0, 1, 2, -1, -2] (-2) 10 (by decide) (by simp) w4 _ (by decide) (by decide) (Cur.lt hC4) _ rfl _ _ rfl _ rfl (Cur.alloc hC4 _)).mono ?_
        rintro _ w6 ⟨z, hz1', hz2', rfl, ⟨st6, hC6⟩, hg6⟩
        have hgd := (World.grownBy_alloc w4 (.cells #[.int .i64 10, .int .i64 10, .int .i64 0, .int .i64 1, .int .i64 2, .int .i64 (-1), .int .i64 (-2)] 3) (some p)).trans hg6
        have HG6 := Lib.hid (HG4.out.trans hgd)
        have hO6 := HO4.out.grown hgd hp
        have HZ6 := Lib.hid (show w.heap.size ≤ w6.heap.size from HG6.out.size)
        clear hg6 hgd hC4 HG4 HO4 hd hd2 hBq hqv hk0 hk1
        go_wp2_with (at_builtin; refine ints_app1 hO6 rfl _ _ rfl rfl z _ _ rfl rfl (by omega) HZ6.out ?_; intro v7 w7 hO7 hB7 hG7; clear hO6)
        obtain ⟨A7, c7, rfl, -, -, -⟩ := id hO7.at_
        have HC7 := Lib.hid (Cur.below hC hC6 hB7)
        have HG7 := Lib.hid (grown_of_below HG6.out hB7)
        have HO7 := Lib.hid hO7
        have HB7 := Lib.hid (show ∀ t ∈ b ++ [z], -40 ≤ t ∧ t ≤ 10 from fun t ht => by
          rcases List.mem_append.1 ht with h | h
          · exact HB.out t h
          · rw [List.mem_singleton.1 h]; omega)
        clear hO7 hB7 hG7 hC6
        go_roundw
        case rel => exact ⟨b ++ [z], st6, rfl, by simp; omega, HB7, HO7, HC7.out, HG7⟩
        case measure => simp [slLen]; omega
      · have hd : decide ((b.length : Int) < (B : Int)) = false := decide_eq_false (by omega)
        have hd2 : decide (b.length < B) = false := decide_eq_false hlt
        go_wp2_with fail
        refine bodyPost_ret (v := .slice A3 b.length c3) (by simp [results, Try.results63, go_sem]) rfl ⟨_, b, rfl, IntsO.of HO4.out, hb5, HB.out, ⟨_, hC4⟩, HG4.out⟩
  · have hd0 : decide ((0 : Int) < (M.length : Int)) = true := decide_eq_true (by omega)
    have hd1 : decide (0 < M.length) = true := decide_eq_true (by omega)
    have hml : 1 ≤ M.length := by omega
    clear h0
    go_wp2_with fail
    refine (l1Once_r p cv code _ _ _ hC1).mono ?_
    rintro e w2 ⟨rfl, hC2, hg2⟩
    generalize onceR code st 4 = bo at *
    obtain ⟨bb, st2⟩ := bo
    dsimp only at *
    have HS2 := Lib.hid (hS1.chg (chg_of_grown hg2) (.inr (by omega)))
    have hG2 := hG1.trans hg2
    have HZ2 := Lib.hid (show w1.heap.size ≤ w2.heap.size from hg2.size)
    clear hS1 hg2 hG1 hC1
    cases bb with
    | true =>
      have hz12 := HZ2.out
      go_upto_region 4 with fail
      have hO3 : OwnInts w.heap.size (.slice (some ⟨w2.heap.size, 0, none⟩) 0 0) [] (w2.alloc (.cells #[] 3)) := OwnInts.empty w2 _ (Nat.le_trans HEZ.out (Nat.le_trans hz1 HZ2.out))
      have HO3 := Lib.hid hO3
      have hC3 : CurS (w2.alloc (.cells #[] 3)) p cv code st2 := Cur.alloc hC2 _
      have HG3 := Lib.hid (hG2.trans (World.grownBy_alloc w2 (.cells #[] 3) (some p)))
      clear hO3
      go_wp2
      go_loopw [8] (fun V wr => ∃ (b : List Int) (st' : DrawSt), slLen V = b.length ∧ b.length ≤ 5 ∧ Hid (∀ z ∈ b, -40 ≤ z ∧ z ≤ 10) ∧ Hid (OwnInts w.heap.size V b wr) ∧ CurS wr p cv code st' ∧ Hid (w.grownBy wr (some p))) (fun V _ => 5 - slLen V)
      case atStart => exact ⟨[], _, rfl, by simp, Lib.hid (fun z hz => by cases hz), HO3, hC3, HG3⟩
      case round =>
        clear HO3 hC3 HG3
        obtain ⟨b, st', hsl, hb5, HB, HO, hCr, HG⟩ := hrel
        obtain ⟨A3, c3, rfl, -, hcm, -⟩ := id HO.out.at_
        unfold maxLen at hcm
        have HZr := Lib.hid HG.out.size
        clear hsl
        go_wp2_with fail
        have hbd := belowR_bd code st' 12
        refine (l1Below_r p cv code _ _ _ hCr).mono ?_
        rintro e w4 ⟨rfl, hC4, hg4⟩
        generalize belowR code st' 12 = kk at *
        obtain ⟨kv, st4⟩ := kk
        dsimp only at *
        have hk0 := hbd.1
        have hk1 := hbd.2 (by omega)
        have HG4 := Lib.hid (HG.out.trans hg4)
        have HO4 := Lib.hid (HO.out.grown hg4 hp)
        have HBq := Lib.hid (show ∃ B : Nat, (B = 4 ∨ B = 5) ∧ (5 - kv.tdiv 11 : Int) = (B : Int) from by
          have h1 : kv.tdiv 11 = kv / 11 := Int.tdiv_eq_ediv_of_nonneg hk0
          rcases (show kv < 11 ∨ kv = 11 by omega) with h | h
          · exact ⟨5, .inr rfl, by rw [h1]; omega⟩
          · exact ⟨4, .inl rfl, by rw [h1]; omega⟩)
        clear hbd hg4 HO HG hCr
        obtain ⟨B, hB, hBq⟩ := HBq.out
        obtain ⟨qv, hqv⟩ : ∃ qv, kv.tdiv 11 = qv := ⟨_, rfl⟩
        rw [hqv] at hBq
        have hq01 : 0 ≤ qv ∧ qv ≤ 1 := by omega
        clear HBq
        by_cases hlt : b.length < B
        · have hd : decide ((b.length : Int) < (B : Int)) = true := decide_eq_true (by omega)
          have hd2 : decide (b.length < B) = true := decide_eq_true hlt
          go_wp2_with fail
          refine (l1PickInt_d p cv code _ [10, 10, 0, 1, 2, -1, -2] (-2) 10 (by decide) (by simp) w4 _ (by decide) (by decide) (Cur.lt hC4) _ rfl _ _ rfl _ rfl (Cur.alloc hC4 _)).mono ?_
          rintro _ w6 ⟨z, hz1', hz2', rfl, ⟨st6, hC6⟩, hg6⟩
          have hgd := (World.grownBy_alloc w4 (.cells #[.int .i64 10, .int .i64 10, .int .i64 0, .int .i64 1, .int .i64 2, .int .i64 (-1), .int .i64 (-2)] 3) (some p)).trans hg6
          have HG6 := Lib.hid (HG4.out.trans hgd)
          have hO6 := HO4.out.grown hgd hp
          have HZ6 := Lib.hid (show w.heap.size ≤ w6.heap.size from HG6.out.size)
          clear hg6 hgd hC4 HG4 HO4 hd hd2 hBq hqv hk0 hk1
          go_wp2_with (at_builtin; refine ints_app1 hO6 rfl _ _ rfl rfl z _ _ rfl rfl (by omega) HZ6.out ?_; intro v7 w7 hO7 hB7 hG7; clear hO6)
          obtain ⟨A7, c7, rfl, -, -, -⟩ := id hO7.at_
          have HC7 := Lib.hid (Cur.below hC hC6 hB7)
          have HG7 := Lib.hid (grown_of_below HG6.out hB7)
          have HO7 := Lib.hid hO7
          have HB7 := Lib.hid (show ∀ t ∈ b ++ [z], -40 ≤ t ∧ t ≤ 10 from fun t ht => by
            rcases List.mem_append.1 ht with h | h
            · exact HB.out t h
            · rw [List.mem_singleton.1 h]; omega)
          clear hO7 hB7 hG7 hC6
          go_roundw
          case rel => exact ⟨b ++ [z], st6, rfl, by simp; omega, HB7, HO7, HC7.out, HG7⟩
          case measure => simp [slLen]; omega
        · have hd : decide ((b.length : Int) < (B : Int)) = false := decide_eq_false (by omega)
          have hd2 : decide (b.length < B) = false := decide_eq_false hlt
          go_wp2_with fail
          refine bodyPost_ret (v := .slice A3 b.length c3) (by simp [results, Try.results63, go_sem]) rfl ⟨_, b, rfl, IntsO.of HO4.out, hb5, HB.out, ⟨_, hC4⟩, HG4.out⟩
    | false =>
      go_wp2_with fail
      have hbd := belowR_bd code st2 M.length
      refine (l1Below_r p cv code _ _ _ hC2).mono ?_
      rintro e w3 ⟨rfl, hC3, hg3⟩
      generalize belowR code st2 M.length = kk at *
      obtain ⟨kv, st3⟩ := kk
      dsimp only at *
      obtain ⟨j, rfl⟩ : ∃ j : Nat, kv = (j : Int) := ⟨kv.toNat, by omega⟩
      have hjm : j < M.length := by have := hbd.2 (by omega); omega
      have hS3 := HS2.out.chg (chg_of_grown hg3) (.inr (by omega))
      have hG3 := hG2.trans hg3
      have hz3 := hg3.size
      have hju : j < Us.length := by rw [hS3.len]; exact hjm
      obtain ⟨gu, capu, e9, -, -⟩ := World.ownsRow.form hS3.row (by omega)
      obtain ⟨rfl, rfl⟩ : A = some ⟨gu, 0, none⟩ ∧ cu = capu := by
        injection e9 with a1 _ a3
        exact ⟨a1, a3⟩
      clear e9
      have c1 := hS3.cell rfl j hjm hju
      have hel := hS3.el j hjm hju
      obtain ⟨PU, cU, hPU, -, -, -⟩ := id (hel.at_ (Nat.le_refl _))
      rw [hPU] at c1 hel
      have HSMj := Lib.hid (HSM.out M[j] (List.getElem_mem hjm))
      have HEL := Lib.hid hel
      generalize M[j] = mj at *
      clear hPU hS3 HS2 hel hbd hg3 hG2 hC2
      go_wp2_with fail
      refine bodyPost_ret (v := .slice PU mj.length cU) (by simp [results, Try.results63, go_sem]) rfl ⟨_, mj, rfl, HEL.out.mono (Nat.le_refl _) (by have := HZ2.out; omega), by rw [HSMj.out.1]; exact Nat.le_refl _, fun t ht => ?_, ⟨_, hC3⟩, hG3⟩
      obtain ⟨i, hi, rfl⟩ := List.getElem_of_mem ht
      exact HSMj.out.2 i hi

theorem atms_wf {l : List Atm} (h : ∀ a ∈ l, AtmSmall a) : AtomS_wf l := by
  intro i hi
  have ha := h _ (List.getElem_mem hi)
  refine ⟨by have := ha.1; omega, fun j hj => ?_⟩
  have := ha.2.2 _ (List.getElem_mem hj)
  omega

def GivesDrExt (w : World) (e : Ending) (w' : World) : Prop :=
  ∃ V x U l T bb, e = .returned (.tuple #[V, U, T]) ∧ Instance_lo w.heap.size w' w'.heap.size V x ∧ InstSmall 9 x ∧ AtomS_at w' w'.heap.size U l ∧ l.length ≤ 3 ∧ (∀ a ∈ l, AtmSmall a) ∧ IntS_at w' w'.heap.size T bb ∧ bb.length ≤ 5 ∧ (∀ z ∈ bb, -40 ≤ z ∧ z ≤ 10) ∧ Below w.heap.size w w'
set_option maxHeartbeats 12800000 in
set_option maxRecDepth 100000 in
theorem drawExt_c (cv : Value) (code : List UInt8) (w : World) (hc : CodeAt w w.heap.size cv code) (hlen : code.length ≤ 1048576) :
    Calls Try.prog 26 #[cv] w (GivesDrExt w) := by
  obtain ⟨E, hEq⟩ : ∃ E, E = w.alloc (.cells #[.slice none 0 0, .slice none 0 0] 27) := ⟨_, rfl⟩
  have hEz : E.heap.size = w.heap.size + 1 := by rw [hEq]; simp
  have hBE : Below w.heap.size w E := by rw [hEq]; exact (Below.refl _ _).alloc (Nat.le_refl _) _
  obtain ⟨b, hb⟩ : ∃ b, b = w.heap.size := ⟨_, rfl⟩
  have r0 : E.cell? ⟨b, 0, none⟩ = some (.slice none 0 0) := by rw [hEq, hb]; simp [go_sem]
  have r1 : E.cell? ⟨b, 1, none⟩ = some (.slice none 0 0) := by rw [hEq, hb]; simp [go_sem]
  have rz : ∀ o, E.frozen? ⟨b, o, none⟩ = false := fun o => by rw [hEq, hb]; simp [go_sem]
  have hcE := hc.later hBE
  have HBq := Lib.hid hb
  clear hb
  go_enter Try.func26, Try.ntmps26
  go_wp2_with fail
  rw [← hEq]
  clear hEq
  refine (l11Both_c cv code E hcE hlen).mono ?_
  rintro e w2 ⟨V, x, X, d, rfl, hI, hIs, hX, hXs, ⟨st2, hC2⟩, hb2⟩
  rw [← HBq.out]
  rw [← HBq.out] at hEz
  obtain ⟨p, hp⟩ : ∃ p, p = E.heap.size + 2 := ⟨_, rfl⟩
  rw [← hp] at hC2 ⊢
  obtain ⟨P, c, Q, d1, rfl⟩ := Instance_form hI.at_
  obtain ⟨Y1, u1, Y2, u2, hv1, hv2⟩ := hX.two
  unfold DVal9
  rw [hv1, hv2]
  have hz2 := hb2.size
  have r0 := (hb2.cell (p := ⟨b, 0, none⟩) (by show b < _; omega)).trans r0
  have r1 := (hb2.cell (p := ⟨b, 1, none⟩) (by show b < _; omega)).trans r1
  have rz := fun o => (hb2.frozen (p := ⟨b, o, none⟩) (by show b < _; omega)).trans (rz o)
  have HB2 := Lib.hid (hBE.trans (hb2.mono (by have := HBq.out; omega)))
  rw [← HBq.out] at HB2
  have HI2 := Lib.hid (hI.less (show p + 1 ≤ E.heap.size + 3 by omega))
  have HA2 := Lib.hid ((hX.1.mono (show p + 1 ≤ E.heap.size + 3 by omega) (Nat.le_refl _)))
  have HH2 := Lib.hid ((hX.2.1.mono (show p + 1 ≤ E.heap.size + 3 by omega) (Nat.le_refl _)))
  rw [hv1] at HA2
  rw [hv2] at HH2
  obtain ⟨g, hg⟩ : ∃ g, g = w2.heap.size := ⟨_, rfl⟩
  have hbg : b < g := by omega
  obtain ⟨W3, hW3⟩ : ∃ W, W = (w2.alloc (.cells #[.slice P x.rels.length c, .slice Q x.facts.length d1] 27)).alloc (.cells #[.slice Y1 d.body.length u1, .slice Y2 d.head.length u2, .bool d.egd, .int .i64 d.left, .int .i64 d.right] 82) := ⟨_, rfl⟩
  have hAl : Below g w2 W3 := by rw [hW3, hg]; exact ((Below.refl _ _).alloc (Nat.le_refl _) _).alloc (by simp) _
  have hz3 : W3.heap.size = g + 2 := by rw [hW3, hg]; simp
  have y0 : W3.cell? ⟨g, 0, none⟩ = some (.slice P x.rels.length c) := by rw [hW3, hg]; simp [go_sem]
  have y1 : W3.cell? ⟨g, 1, none⟩ = some (.slice Q x.facts.length d1) := by rw [hW3, hg]; simp [go_sem]
  have q0 : W3.cell? ⟨g + 1, 0, none⟩ = some (.slice Y1 d.body.length u1) := by rw [hW3, hg]; simp [go_sem]
  have r0 := (hAl.cell (p := ⟨b, 0, none⟩) (by show b < _; omega)).trans r0
  have r1 := (hAl.cell (p := ⟨b, 1, none⟩) (by show b < _; omega)).trans r1
  have rz := fun o => (hAl.frozen (p := ⟨b, o, none⟩) (by show b < _; omega)).trans (rz o)
  have hAl2 : Below w2.heap.size w2 W3 := hg ▸ hAl
  have q1 : W3.cell? ⟨g + 1, 1, none⟩ = some (.slice Y2 d.head.length u2) := by rw [hW3, hg]; simp [go_sem]
  have hC3 : CurS W3 p cv code st2 := by rw [hW3]; exact Cur.alloc (Cur.alloc hC2 _) _
  have HH3 := Lib.hid ((HH2.out.below hAl2 (Nat.le_refl _)).mono (Nat.le_refl _) hAl2.size)
  have HI3 := Lib.hid (HI2.out.later hAl2)
  have HA3 := Lib.hid ((HA2.out.below hAl2 (Nat.le_refl _)).mono (Nat.le_refl _) hAl2.size)
  have HB3 := Lib.hid (HB2.out.trans (hAl.mono (by omega)))
  have HIS := Lib.hid hIs
  have HXS := Lib.hid hXs
  have hpg : p < g := by have := Cur.lt hC2; omega
  have hbp : b < p := by omega
  clear hEz hp
  go_upto_region 2 with fail
  rw [← hW3, ← hg]
  have hbs : p + 1 ≤ W3.heap.size := by omega
  clear hW3 hg hAl hAl2 HI2 HA2 HH2 HB2 hI hX hIs hXs hv1 hv2 hz2 hb2 hC2 hcE hBE
  have HABD := Lib.hid (HA3.out.at_ (Nat.le_refl _))
  have hz3q : g + 1 < W3.heap.size := by omega
  have HZ3 := Lib.hid hz3
  clear hz3
  go_wp2_with fail
  refine (l11Bind_c p cv code st2 _ _ x d.body W3 hC3 HI3.out.at_ HIS.out.wf (by have := HIS.out.1.1; omega) HABD.out (atms_wf HXS.out.1.2.2)).mono ?_
  rintro _ w4 ⟨U, bb, rfl, hU, hU5, hUb, ⟨st4, hC4⟩, hg4⟩
  obtain ⟨PU, cU, rfl, -, -, -⟩ := id (hU.at_ (Nat.le_refl _))
  have HU4 := Lib.hid (hU.mono hbs (Nat.le_refl _))
  have HU5 := Lib.hid hU5
  have HUB := Lib.hid hUb
  have HG4 := Lib.hid hg4
  clear hU hU5 hUb hg4
  go_wp2_with fail
  refine (l1Once_r p cv code _ _ _ hC4).mono ?_
  rintro e w6 ⟨rfl, -, hg6⟩
  have hg46 := HG4.out.trans hg6
  have hz6 := hg46.size
  have hC4' := Cur.lt hC4
  have hzz := hg6.size
  generalize onceR code st4 2 = bo at *
  obtain ⟨bo, st6⟩ := bo
  dsimp only at *
  have y0 := grown_cell hg46 y0 (by omega)
  have y1 := grown_cell hg46 y1 (by omega)
  have q0 := grown_cell hg46 q0 (by omega)
  have q1 := grown_cell hg46 q1 (by omega)
  have r0 := grown_cell hg46 r0 (by omega)
  have r1 := grown_cell hg46 r1 (by omega)
  have rz := fun o => grown_frozen hg46 (b := b) (o := o) (by omega) (by omega) (rz o)
  have HI6 := Lib.hid (HI3.out.chg (chg_of_grown hg46) (fun k h => by have := h.2; omega))
  have HA6 := Lib.hid ((HA3.out.chg (chg_of_grown hg46) (.inr (by omega))).mono (Nat.le_refl _) hz6)
  have HH6 := Lib.hid ((HH3.out.chg (chg_of_grown hg46) (.inr (by omega))).mono (Nat.le_refl _) hz6)
  have HU6 := Lib.hid ((HU4.out.chg (chg_of_grown hg6) (.inr (by omega))).mono (Nat.le_refl _) hzz)
  have HB6 := Lib.hid (HB3.out.grown hg46 (by omega) (fun k hk => by injection hk with hk; omega))
  have HZB := Lib.hid (show b ≤ w6.heap.size by omega)
  have hg16 : g + 1 < w6.heap.size := by omega
  clear hg46 hg6 HG4 HA3 HH3 HI3 HB3 HU4 hC3 hC4 HABD hzz
  cases bo with
  | true =>
    go_upto_region 4 with fail
    have hS : Holds [(⟨g, 0, none⟩, .slice P x.rels.length c), (⟨g, 1, none⟩, .slice Q x.facts.length d1), (⟨g + 1, 0, none⟩, .slice Y1 d.body.length u1), (⟨g + 1, 1, none⟩, .slice Y2 d.head.length u2)] w6.drew := by
      intro t ht
      simp only [List.mem_cons, List.not_mem_nil, or_false] at ht
      rcases ht with rfl | rfl | rfl | rfl
      · exact y0
      · exact y1
      · exact q0
      · exact q1
    have hS1 : Holds [(⟨g, 0, none⟩, .slice P x.rels.length c), (⟨g, 1, none⟩, .slice Q x.facts.length d1), (⟨g + 1, 0, none⟩, .slice Y1 d.body.length u1), (⟨g + 1, 1, none⟩, .slice Y2 d.head.length u2)] ((w6.drew.setCell ⟨b, 0, none⟩ (.slice P x.rels.length c)).setCell ⟨b, 1, none⟩ (.slice Q x.facts.length d1)) := by
      intro t ht
      have hk := hS t ht
      have hch1 : Chg (fun k => k = b) w6.drew ((w6.drew.setCell ⟨b, 0, none⟩ (.slice P x.rels.length c)).setCell ⟨b, 1, none⟩ (.slice Q x.facts.length d1)) := ((Chg.refl (fun k => k = b) _).setCell (p := ⟨b, 0, none⟩) rfl _).setCell (p := ⟨b, 1, none⟩) rfl _
      simp only [List.mem_cons, List.not_mem_nil, or_false] at ht
      rcases ht with rfl | rfl | rfl | rfl <;> exact (hch1.cell (by first | (show g < w6.heap.size; omega) | (show g + 1 < w6.heap.size; omega)) (by omega)).trans hk
    have g0 := Keep.cell (h0 := hS) (a := ⟨g, 0, none⟩) (v := .slice P x.rels.length c) (by simp)
    have g1 := Keep.cell (h0 := hS) (a := ⟨g, 1, none⟩) (v := .slice Q x.facts.length d1) (by simp)
    have g2 := Keep.cell (h0 := hS) (a := ⟨g + 1, 0, none⟩) (v := .slice Y1 d.body.length u1) (by simp)
    have g3 := Keep.cell (h0 := hS) (a := ⟨g + 1, 1, none⟩) (v := .slice Y2 d.head.length u2) (by simp)
    have hch : Chg (Mid b (b + 1)) w6.drew ((w6.drew.setCell ⟨b, 0, none⟩ (.slice P x.rels.length c)).setCell ⟨b, 1, none⟩ (.slice Q x.facts.length d1)) := ((Chg.refl (Mid b (b + 1)) w6.drew).setCell (p := ⟨b, 0, none⟩) ⟨Nat.le_refl _, Nat.lt_succ_self _⟩ _).setCell (p := ⟨b, 1, none⟩) ⟨Nat.le_refl _, Nat.lt_succ_self _⟩ _
    have HF : Hid (GivesDrExt w (.returned (.tuple #[.agg #[.slice P x.rels.length c, .slice Q x.facts.length d1], .slice Y2 d.head.length u2, .slice PU bb.length cU])) ((w6.drew.setCell ⟨b, 0, none⟩ (.slice P x.rels.length c)).setCell ⟨b, 1, none⟩ (.slice Q x.facts.length d1))) := Lib.hid (by
      have hq := HBq.out
      have hdr : Below w6.heap.size w6 w6.drew := (Below.refl _ _).drew
      have hd := HB6.out.trans (hdr.mono HZB.out)
      exact ⟨_, x, _, d.head, _, bb, rfl, ((HI6.out.later hdr).chg hch (fun k h => by have := h.2; omega)).less (by omega), HIS.out, (((HH6.out.below hdr (Nat.le_refl _)).chg hch (.inr (by omega))).at_ hch.size), by have := HXS.out.2.1.1; omega, HXS.out.2.1.2, (((HU6.out.below hdr (Nat.le_refl _)).chg hch (.inr (by omega))).at_ hch.size), HU5.out, HUB.out, hq ▸ hd.trans (hch.below (fun k h => h.1) (by have := hd.size; show b ≤ w6.drew.heap.size; omega))⟩)
    clear y0 y1 q0 q1 hch HI6 HA6 HH6 HB6 HU6
    refine wp_region_planL (C := fun w' => ∃ u : Keep _ w6.drew hS, w' = u.now) (.still 0 (.still 1 (.still 2 (.still 3 (.move true 4 (.still 5 (.still 6 .done)) .none))))) (by kernel_rfl) (by kernel_rfl) (by kernel_rfl) (fun _ => ⟨⟨_, hS⟩, rfl⟩) ?_
    iterate 4
      refine plan_look _ rfl rfl ?_
      go_big_quiet_step (fail)
      refine wpQuiet_nil ?_
    refine plan_skip (w' := ((w6.drew.setCell ⟨b, 0, none⟩ (.slice P x.rels.length c)).setCell ⟨b, 1, none⟩ (.slice Q x.facts.length d1))) _ rfl rfl rfl (by simp [go_sem, r0, r1, rz]) (fun _ => ⟨⟨_, hS1⟩, rfl⟩) ?_ True.intro
    refine plan_put ?_ (by simp only [Act.put]; rfl)
    iterate 2
      refine plan_look _ rfl rfl ?_
      go_big_quiet_step (fail)
      refine wpQuiet_nil ?_
    refine plan_done ?_
    go_wp2
    refine bodyPost_ret (v := .tuple #[.agg #[.slice P x.rels.length c, .slice Q x.facts.length d1], .slice Y2 d.head.length u2, .slice PU bb.length cU]) (by simp [results, Try.results26, go_sem, r0, r1]) rfl HF.out
  | false =>
    go_upto_region 5 with fail
    have hS : Holds [(⟨g, 0, none⟩, .slice P x.rels.length c), (⟨g, 1, none⟩, .slice Q x.facts.length d1), (⟨g + 1, 0, none⟩, .slice Y1 d.body.length u1), (⟨g + 1, 1, none⟩, .slice Y2 d.head.length u2)] w6.drew := by
      intro t ht
      simp only [List.mem_cons, List.not_mem_nil, or_false] at ht
      rcases ht with rfl | rfl | rfl | rfl
      · exact y0
      · exact y1
      · exact q0
      · exact q1
    have hS1 : Holds [(⟨g, 0, none⟩, .slice P x.rels.length c), (⟨g, 1, none⟩, .slice Q x.facts.length d1), (⟨g + 1, 0, none⟩, .slice Y1 d.body.length u1), (⟨g + 1, 1, none⟩, .slice Y2 d.head.length u2)] ((w6.drew.setCell ⟨b, 0, none⟩ (.slice P x.rels.length c)).setCell ⟨b, 1, none⟩ (.slice Q x.facts.length d1)) := by
      intro t ht
      have hk := hS t ht
      have hch1 : Chg (fun k => k = b) w6.drew ((w6.drew.setCell ⟨b, 0, none⟩ (.slice P x.rels.length c)).setCell ⟨b, 1, none⟩ (.slice Q x.facts.length d1)) := ((Chg.refl (fun k => k = b) _).setCell (p := ⟨b, 0, none⟩) rfl _).setCell (p := ⟨b, 1, none⟩) rfl _
      simp only [List.mem_cons, List.not_mem_nil, or_false] at ht
      rcases ht with rfl | rfl | rfl | rfl <;> exact (hch1.cell (by first | (show g < w6.heap.size; omega) | (show g + 1 < w6.heap.size; omega)) (by omega)).trans hk
    have g0 := Keep.cell (h0 := hS) (a := ⟨g, 0, none⟩) (v := .slice P x.rels.length c) (by simp)
    have g1 := Keep.cell (h0 := hS) (a := ⟨g, 1, none⟩) (v := .slice Q x.facts.length d1) (by simp)
    have g2 := Keep.cell (h0 := hS) (a := ⟨g + 1, 0, none⟩) (v := .slice Y1 d.body.length u1) (by simp)
    have g3 := Keep.cell (h0 := hS) (a := ⟨g + 1, 1, none⟩) (v := .slice Y2 d.head.length u2) (by simp)
    have hch : Chg (Mid b (b + 1)) w6.drew ((w6.drew.setCell ⟨b, 0, none⟩ (.slice P x.rels.length c)).setCell ⟨b, 1, none⟩ (.slice Q x.facts.length d1)) := ((Chg.refl (Mid b (b + 1)) w6.drew).setCell (p := ⟨b, 0, none⟩) ⟨Nat.le_refl _, Nat.lt_succ_self _⟩ _).setCell (p := ⟨b, 1, none⟩) ⟨Nat.le_refl _, Nat.lt_succ_self _⟩ _
    have HF : Hid (GivesDrExt w (.returned (.tuple #[.agg #[.slice P x.rels.length c, .slice Q x.facts.length d1], .slice Y1 d.body.length u1, .slice PU bb.length cU])) ((w6.drew.setCell ⟨b, 0, none⟩ (.slice P x.rels.length c)).setCell ⟨b, 1, none⟩ (.slice Q x.facts.length d1))) := Lib.hid (by
      have hq := HBq.out
      have hdr : Below w6.heap.size w6 w6.drew := (Below.refl _ _).drew
      have hd := HB6.out.trans (hdr.mono HZB.out)
      exact ⟨_, x, _, d.body, _, bb, rfl, ((HI6.out.later hdr).chg hch (fun k h => by have := h.2; omega)).less (by omega), HIS.out, (((HA6.out.below hdr (Nat.le_refl _)).chg hch (.inr (by omega))).at_ hch.size), by have := HXS.out.1.2.1; omega, HXS.out.1.2.2, (((HU6.out.below hdr (Nat.le_refl _)).chg hch (.inr (by omega))).at_ hch.size), HU5.out, HUB.out, hq ▸ hd.trans (hch.below (fun k h => h.1) (by have := hd.size; show b ≤ w6.drew.heap.size; omega))⟩)
    clear y0 y1 q0 q1 hch HI6 HA6 HH6 HB6 HU6
    refine wp_region_planL (C := fun w' => ∃ u : Keep _ w6.drew hS, w' = u.now) (.still 0 (.still 1 (.still 2 (.still 3 (.move true 4 (.still 5 (.still 6 .done)) .none))))) (by kernel_rfl) (by kernel_rfl) (by kernel_rfl) (fun _ => ⟨⟨_, hS⟩, rfl⟩) ?_
    iterate 4
      refine plan_look _ rfl rfl ?_
      go_big_quiet_step (fail)
      refine wpQuiet_nil ?_
    refine plan_skip (w' := ((w6.drew.setCell ⟨b, 0, none⟩ (.slice P x.rels.length c)).setCell ⟨b, 1, none⟩ (.slice Q x.facts.length d1))) _ rfl rfl rfl (by simp [go_sem, r0, r1, rz]) (fun _ => ⟨⟨_, hS1⟩, rfl⟩) ?_ True.intro
    refine plan_put ?_ (by simp only [Act.put]; rfl)
    iterate 2
      refine plan_look _ rfl rfl ?_
      go_big_quiet_step (fail)
      refine wpQuiet_nil ?_
    refine plan_done ?_
    go_wp2
    refine bodyPost_ret (v := .tuple #[.agg #[.slice P x.rels.length c, .slice Q x.facts.length d1], .slice Y1 d.body.length u1, .slice PU bb.length cU]) (by simp [results, Try.results26, go_sem, r0, r1]) rfl HF.out

end Go.Proofs.Ytobdijcnfmgidaa
