/-
  Walks and plain lemmas for the laws of this seat: what single Go functions return, for every argument.
-/
import Derived.Test.YtmecdjincmkofaaGreatDoorAft
import Derived.Test.YtmecdjincmkofaaGreatDoorFmtV
import Derived.Test.YtmecdjincmkofaaGreatDoorFactV
import Derived.Test.YtmecdjincmkofaaGreatDoorFmtRS
import Derived.Test.YtmecdjincmkofaaGreatDoorFmtF
import Derived.Test.YtmecdjincmkofaaGreatDoorFmtInst
import Derived.Test.YtmecdjincmkofaaGreatDoorInstV
namespace Go.Proofs.YtmecdjincmkofaaGreatDoor
open Go.RowKit

/-- the text so far: the name, the parenthesis, the first k values -/
def headF (n : List UInt8) (vs : List Int) (k : Nat) : List UInt8 := n ++ (40 :: joinVals (vs.take k))
theorem headF_zero (n : List UInt8) (vs : List Int) : headF n vs 0 = n ++ [40] := rfl
theorem headF_succ (n : List UInt8) (vs : List Int) (k : Nat) (h : k < vs.length) : headF n vs (k + 1) = headF n vs k ++ ((if k = 0 then [] else [44]) ++ fmtV vs[k]) := by
  unfold headF
  rcases Nat.eq_zero_or_pos k with h0 | h0
  · subst h0
    rw [joinVals_one vs h]; simp [joinVals, Lib.join]
  · rw [joinVals_succ vs k h0 h, if_neg (by omega)]; simp
theorem headF_all (n : List UInt8) (vs : List Int) : headF n vs vs.length ++ [41] = bodyF n vs := by
  unfold headF bodyF joinVals; rw [List.take_of_length_le (Nat.le_refl _)]; simp
theorem headF_len (n : List UInt8) (vs : List Int) (k : Nat) (hn : n.length ≤ 1) (hv : vs.length ≤ 3) (hk : k ≤ vs.length) : (headF n vs k).length ≤ 14 := by
  have := joinVals_len vs k hk
  unfold headF; simp; omega
set_option maxHeartbeats 3200000 in
set_option maxRecDepth 100000 in
theorem specFormatFact_any (v : Value) (l : List Rel) (r : Int) (V : Value) (vs : List Int) (w : World) (hl : RelsAt w w.heap.size v l) (hn : l.length ≤ 1048576) (hV : IntsAt w w.heap.size V vs) (hw : IntsWf vs) :
    Calls Tryz.prog 107 #[v, .agg #[.int .i64 r, V]] w fun e w' => e = .returned (.string ⟨(fmtFact l r vs).toArray⟩) ∧ Below w.heap.size w w' := by
  have HL := Lib.hid hl
  have HV := Lib.hid hV
  obtain ⟨A, c, rfl, hlc, hcm, -⟩ := hl
  obtain ⟨A', c', rfl, hlc', hcm', -⟩ := hV
  unfold maxLen at hcm hcm'
  have hcon := fun b h w' (hb : Below w.heap.size w w') => specIsValidFact_at (.slice A l.length c) l r (.slice A' vs.length c') vs b h w' ((HL.out.below hb (Nat.le_refl _)).more hb.size) hn ((HV.out.below hb (Nat.le_refl _)).more hb.size) hw
  cases hr : factOk l r vs with
  | false =>
    have HF := Lib.hid (fmtFact_no hr)
    have hE : Below w.heap.size w (w.alloc (.cells #[.int .i64 r, .slice A' vs.length c'] 57)) := (Below.refl _ _).alloc (Nat.le_refl _) _
    replace hcon := hcon false hr _ hE
    clear hr
    go_enter Tryz.func107, Tryz.ntmps107
    go_wp2_with (go_at_call 40; refine hcon.mono ?_; rintro e w1 ⟨rfl, hb1⟩)
    go_ret
    exact ⟨ret_str (by rw [HF.out]), hE.trans (hb1.mono hE.size)⟩
  | true =>
    obtain ⟨hv, hin, hlen, hvals⟩ := factOk_parts hr
    obtain ⟨k, rfl⟩ : ∃ k : Nat, r = (k : Int) := ⟨r.toNat, by omega⟩
    have hk : k < l.length := by omega
    have HF := Lib.hid (fmtFact_yes hr)
    rw [Int.toNat_natCast, getD_at hk] at HF
    have hE : Below w.heap.size w (w.alloc (.cells #[.int .i64 (k : Int), .slice A' vs.length c'] 57)) := (Below.refl _ _).alloc (Nat.le_refl _) _
    have hEz : w.heap.size + 1 ≤ (w.alloc (.cells #[.int .i64 (k : Int), .slice A' vs.length c'] 57)).heap.size := by simp
    have K0 := Lib.hid (show (w.alloc (.cells #[.int .i64 (k : Int), .slice A' vs.length c'] 57)).cell? ⟨w.heap.size, 0, none⟩ = some (.int .i64 (k : Int)) by simp [go_sem])
    have K1 := Lib.hid (show (w.alloc (.cells #[.int .i64 (k : Int), .slice A' vs.length c'] 57)).cell? ⟨w.heap.size, 1, none⟩ = some (.slice A' vs.length c') by simp [go_sem])
    replace hcon := hcon true hr _ hE
    have hok := relOk_bd _ _ (validRels_at l hv k hk)
    have hvl : vs.length ≤ 3 := by rw [arityAt_in (show (k : Int).toNat < l.length by simpa using hk)] at hlen; simp at hlen; omega
    have HVB := Lib.hid hvals
    obtain ⟨b, off, rfl, hb, c0, -, -⟩ := RelsAt.elem HL.out k hk
    have hN1 : l[k].name.size ≤ 1 := by omega
    clear hr hv hin hlen hvals hok
    generalize l[k].name = N at *
    have h40 : ByteArray.size ⟨#[40]⟩ = 1 := rfl
    have h41 : ByteArray.size ⟨#[41]⟩ = 1 := rfl
    have h44 : ByteArray.size ⟨#[44]⟩ = 1 := rfl
    have HH := Lib.hid (show N ++ ⟨#[40]⟩ = ⟨(headF N.data.toList vs 0).toArray⟩ from bytes_ext (by simp [headF_zero, ByteArray.data_append]))
    go_enter Tryz.func107, Tryz.ntmps107
    go_wp2_with fail
    refine hcon.mono ?_
    rintro e w1 ⟨rfl, hb1⟩
    have hW1 : Below w.heap.size w w1 := hE.trans (hb1.mono hE.size)
    have f0 := (hb1.cell (p := ⟨w.heap.size, 0, none⟩) hEz).trans K0.out
    replace c0 := (hW1.cell (p := ⟨b, off + k * 3, none⟩) hb).trans c0
    clear hcon
    go_wp2
    go_loopw [5, 6] (fun s i wr => ∃ j : Nat, j ≤ vs.length ∧ i = .int .i64 j ∧ s = .string ⟨(headF N.data.toList vs j).toArray⟩ ∧ Below (w.alloc (.cells #[.int .i64 (k : Int), .slice A' vs.length c'] 57)).heap.size (w.alloc (.cells #[.int .i64 (k : Int), .slice A' vs.length c'] 57)) wr) (fun _ i _ => vs.length - (intOf i).toNat)
    case atStart => exact ⟨0, by omega, rfl, by rw [← HH.out], hb1⟩
    case round =>
      obtain ⟨j, hj, rfl, rfl, hW⟩ := hrel
      have f1 := (hW.cell (p := ⟨w.heap.size, 1, none⟩) hEz).trans K1.out
      have hsz : ByteArray.size ⟨(headF N.data.toList vs j).toArray⟩ ≤ 14 := by rw [size_mk]; exact headF_len _ vs j (by simpa using hN1) hvl hj
      by_cases hlt : j < vs.length
      · obtain ⟨b', off', rfl, hb', d0⟩ := IntsAt.elem HV.out j hlt
        replace d0 := ((hE.trans (hW.mono hE.size)).cell (p := ⟨b', off' + j, none⟩) hb').trans d0
        have hfv := specFormatValue_any vs[j] wr (hw j hlt).1 (hw j hlt).2
        have hfl : ByteArray.size ⟨(fmtV vs[j]).toArray⟩ ≤ 3 := by rw [size_mk]; exact fmtV_len _
        have HS := Lib.hid (headF_succ N.data.toList vs j hlt)
        rcases Nat.eq_zero_or_pos j with h0 | h0
        · have hg1 : decide ((0 : Int) < (j : Int)) = false := decide_eq_false (by omega)
          have hg2 : decide (0 < j) = false := decide_eq_false (by omega)
          have HS' := Lib.hid (show (⟨(headF N.data.toList vs j).toArray⟩ : ByteArray) ++ ⟨(fmtV vs[j]).toArray⟩ = ⟨(headF N.data.toList vs (j + 1)).toArray⟩ by rw [HS.out, mk_app, if_pos h0, List.nil_append])
          clear h0
          generalize (⟨(headF N.data.toList vs j).toArray⟩ : ByteArray) = J at *
          generalize (⟨(fmtV vs[j]).toArray⟩ : ByteArray) = I at *
          go_wp2_with (go_at_call 150; refine hfv.mono ?_; rintro e w2 ⟨rfl, hb2⟩)
          go_roundw
          case rel => exact ⟨j + 1, by omega, by go_num, by rw [← HS'.out], hW.trans (hb2.mono hW.size)⟩
          case measure => simp [intOf]; omega
        · have hg1 : decide ((0 : Int) < (j : Int)) = true := decide_eq_true (by omega)
          have hg2 : decide (0 < j) = true := decide_eq_true (by omega)
          have HS' := Lib.hid (show ((⟨(headF N.data.toList vs j).toArray⟩ : ByteArray) ++ ⟨#[44]⟩) ++ ⟨(fmtV vs[j]).toArray⟩ = ⟨(headF N.data.toList vs (j + 1)).toArray⟩ by
            rw [HS.out, show (⟨#[44]⟩ : ByteArray) = ⟨([44] : List UInt8).toArray⟩ from rfl, mk_app, mk_app, if_neg (by omega), List.append_assoc])
          clear h0
          generalize (⟨(headF N.data.toList vs j).toArray⟩ : ByteArray) = J at *
          generalize (⟨(fmtV vs[j]).toArray⟩ : ByteArray) = I at *
          go_wp2_with (go_at_call 150; refine hfv.mono ?_; rintro e w2 ⟨rfl, hb2⟩)
          go_roundw
          case rel => exact ⟨j + 1, by omega, by go_num, by rw [← HS'.out], hW.trans (hb2.mono hW.size)⟩
          case measure => simp [intOf]; omega
      · obtain rfl : j = vs.length := by omega
        have HE := Lib.hid (show (⟨(headF N.data.toList vs vs.length).toArray⟩ : ByteArray) ++ ⟨#[41]⟩ = ⟨(fmtFact l (k : Int) vs).toArray⟩ by
          rw [HF.out, ← headF_all, show (⟨#[41]⟩ : ByteArray) = ⟨([41] : List UInt8).toArray⟩ from rfl, mk_app])
        go_wp2
        go_ret
        exact ⟨ret_str HE.out, hE.trans (hW.mono hE.size)⟩
theorem specFormatFact_c (v : Value) (l : List Rel) (u : Value) (x : Fct) (w : World) (h : RelationS_at w w.heap.size v l) (_ : RelationS_wf l) (hn : RelationS_sz l ≤ 1048576) (h' : Fact_at w w.heap.size u x) (hw : Fact_wf x) (_ : Fact_sz x ≤ 1048576) :
    Calls Tryz.prog 107 #[v, u] w fun e w' => e = .returned (.string ⟨(fmtFact l x.rel x.vals).toArray⟩) ∧ Below w.heap.size w w' := by
  obtain ⟨V, rfl, h'⟩ := h'
  exact specFormatFact_any v l x.rel V x.vals w h (by unfold RelationS_sz at hn; omega) h' hw.2

theorem joinFacts_len (l : List Rel) (fs : List Fct) (h : ∀ f ∈ fs, f.vals.length ≤ 3) (k : Nat) (hk : k ≤ fs.length) : (joinFacts l (fs.take k)).length ≤ 31 * k := by
  induction k with
  | zero => simp [joinFacts, Lib.join]
  | succ k ih =>
    have h1 := fmtFact_len l fs[k].rel fs[k].vals (h fs[k] (List.getElem_mem _))
    rcases Nat.eq_zero_or_pos k with h0 | h0
    · subst h0; rw [joinFacts_one l fs (by omega)]; omega
    · rw [joinFacts_succ l fs k h0 (by omega)]
      have := ih (by omega)
      simp only [List.length_append, List.length_cons, List.length_nil]; omega
/-- the text so far -/
def headI (x : Inst) (k : Nat) : List UInt8 := fmtRels x.rels ++ 59 :: joinFacts x.rels (x.facts.take k)
theorem headI_zero (x : Inst) : headI x 0 = fmtRels x.rels ++ [59] := rfl
theorem headI_succ (x : Inst) (k : Nat) (h : k < x.facts.length) : headI x (k + 1) = headI x k ++ ((if k = 0 then [] else [32]) ++ fmtFact x.rels x.facts[k].rel x.facts[k].vals) := by
  unfold headI
  rcases Nat.eq_zero_or_pos k with h0 | h0
  · subst h0
    rw [joinFacts_one _ _ h]; simp [joinFacts, Lib.join]
  · rw [joinFacts_succ _ _ k h0 h, if_neg (by omega)]; simp
theorem headI_all (x : Inst) : headI x x.facts.length = fmtRels x.rels ++ 59 :: joinFacts x.rels x.facts := by
  unfold headI; rw [List.take_of_length_le (Nat.le_refl _)]
theorem instOk_vals {x : Inst} (h : instOk x = true) : ∀ f ∈ x.facts, f.vals.length ≤ 3 := fun f hf => by
  obtain ⟨_, _, _, _, _, h3, _⟩ := fact_form (instOk_fact h f hf)
  exact h3
theorem headI_len (x : Inst) (h : instOk x = true) (k : Nat) (hk : k ≤ x.facts.length) : (headI x k).length ≤ 1000 := by
  have h1 := joinFacts_len x.rels x.facts (instOk_vals h) k hk
  have h2 := fmtRels_len x.rels
  have h3 := (instOk_parts h).2.2
  unfold headI; simp; omega
set_option maxHeartbeats 3200000 in
set_option maxRecDepth 100000 in
theorem specFormatInstance_len (v : Value) (x : Inst) (w : World) (h : Instance_at w w.heap.size v x) (hw : Instance_wf x) (hn1 : x.rels.length ≤ 1048576) :
    Calls Tryz.prog 88 #[v] w fun e w' => e = .returned (.string ⟨(fmtInst x).toArray⟩) ∧ Below w.heap.size w w' := by
  obtain ⟨P, c, Q, d, rfl⟩ := Instance_form h
  have HX := Lib.hid h
  obtain ⟨V1, V2, hv, hR, hF⟩ := h
  simp only [Value.agg.injEq, Array.mk.injEq, List.cons.injEq, and_true] at hv
  obtain ⟨rfl, rfl⟩ := hv
  obtain ⟨_, _, hv2, hd1, hd2⟩ := hF.form
  injection hv2 with e1 _ e2
  subst e1 e2
  unfold maxLen at hd2
  have HF := Lib.hid hF
  have HR := Lib.hid hR
  clear hF hR
  have hE : Below w.heap.size w (w.alloc (.cells #[.slice P x.rels.length c, .slice Q x.facts.length d] 40)) := (Below.refl _ _).alloc (Nat.le_refl _) _
  have hcon := fun bb hb => specIsValidInstance_at1 x bb hb _ _ ((HX.out.below hE (Nat.le_refl _)).more hE.size) hw hn1
  cases ho : instOk x with
  | false =>
    have HV := Lib.hid (fmtInst_no ho)
    replace hcon := hcon false ho
    clear ho
    go_enter Tryz.func88, Tryz.ntmps88
    go_wp2_with (go_at_call 25; refine hcon.mono ?_; rintro e w1 ⟨rfl, hb1⟩)
    go_ret
    exact ⟨ret_str (by rw [HV.out]), hE.trans (hb1.mono hE.size)⟩
  | true =>
    have HV := Lib.hid (fmtInst_yes ho)
    have HOK := Lib.hid ho
    replace hcon := hcon true ho
    obtain ⟨hwR, hwF⟩ := hw
    have HE := Lib.hid (show w.heap.size + 1 = (w.alloc (.cells #[.slice P x.rels.length c, .slice Q x.facts.length d] 40)).heap.size by simp)
    have K0 := Lib.hid (show (w.alloc (.cells #[.slice P x.rels.length c, .slice Q x.facts.length d] 40)).cell? ⟨w.heap.size, 0, none⟩ = some (.slice P x.rels.length c) by simp [go_sem])
    have K1 := Lib.hid (show (w.alloc (.cells #[.slice P x.rels.length c, .slice Q x.facts.length d] 40)).cell? ⟨w.heap.size, 1, none⟩ = some (.slice Q x.facts.length d) by simp [go_sem])
    have h59 : ByteArray.size ⟨#[59]⟩ = 1 := rfl
    have h32 : ByteArray.size ⟨#[32]⟩ = 1 := rfl
    have hrl : ByteArray.size ⟨(fmtRels x.rels).toArray⟩ ≤ 30 := by rw [size_mk]; exact fmtRels_len _
    have HH := Lib.hid (show (⟨(fmtRels x.rels).toArray⟩ : ByteArray) ++ ⟨#[59]⟩ = ⟨(headI x 0).toArray⟩ by rw [headI_zero, show (⟨#[59]⟩ : ByteArray) = ⟨([59] : List UInt8).toArray⟩ from rfl, mk_app])
    clear ho
    go_enter Tryz.func88, Tryz.ntmps88
    go_wp2_with fail
    refine hcon.mono ?_; rintro e w1 ⟨rfl, hb1⟩
    have hW1 := hE.trans (hb1.mono hE.size)
    have f0 := (hb1.cell (p := ⟨w.heap.size, 0, none⟩) (by show w.heap.size < _; have := HE.out; omega)).trans K0.out
    have hfr := specFormatRelations_any (.slice P x.rels.length c) x.rels w1 ((HR.out.below hW1 (Nat.le_refl _)).more hW1.size)
    clear hcon
    go_wp2_with fail
    refine hfr.mono ?_; rintro e w2 ⟨rfl, hb2⟩
    have hB2 := hb1.trans (hb2.mono hb1.size)
    clear hfr f0
    go_wp2
    go_loopw [3, 4] (fun s i wr => ∃ k : Nat, k ≤ x.facts.length ∧ i = .int .i64 k ∧ s = .string ⟨(headI x k).toArray⟩ ∧ Below (w.alloc (.cells #[.slice P x.rels.length c, .slice Q x.facts.length d] 40)).heap.size (w.alloc (.cells #[.slice P x.rels.length c, .slice Q x.facts.length d] 40)) wr) (fun _ i _ => x.facts.length - (intOf i).toNat)
    case atStart => exact ⟨0, by omega, rfl, by rw [← HH.out], hB2⟩
    case round =>
      obtain ⟨k, hk, rfl, rfl, hW⟩ := hrel
      have hWw := hE.trans (hW.mono hE.size)
      have hzw : w.heap.size < wr.heap.size := by have h1 := hW.size; have h2 := HE.out; omega
      have f0 := (hW.cell (p := ⟨w.heap.size, 0, none⟩) (by show w.heap.size < _; have := HE.out; omega)).trans K0.out
      have f1 := (hW.cell (p := ⟨w.heap.size, 1, none⟩) (by show w.heap.size < _; have := HE.out; omega)).trans K1.out
      have hsz : ByteArray.size ⟨(headI x k).toArray⟩ ≤ 1000 := by rw [size_mk]; exact headI_len x HOK.out k hk
      by_cases hlt : k < x.facts.length
      · obtain ⟨b, off, V, rfl, hb, c0, c1, hV⟩ := FactS_at.elem HF.out k hlt
        have HVa := Lib.hid hV
        have G0 := Aft.cell (B := wr.heap.size) (w := wr) (show w.heap.size < _ by omega) f0
        have G1 := Aft.cell (B := wr.heap.size) (w := wr) (show w.heap.size < _ by omega) f1
        have C0 := Aft.cell (B := wr.heap.size) (w := wr) (show b < _ by omega) ((hWw.cell (p := ⟨b, off + k * 2, none⟩) hb).trans c0)
        have C1 := Aft.cell (B := wr.heap.size) (w := wr) (show b < _ by omega) ((hWw.cell (p := ⟨b, off + k * 2 + 1, none⟩) hb).trans c1)
        have hff := fun (u : Aft wr.heap.size wr) => specFormatFact_any (.slice P x.rels.length c) x.rels x.facts[k].rel V x.facts[k].vals u.now (SliceAt.aft HR.out hWw u) hn1 (SliceAt.aft HVa.out hWw u) (hwF k hlt).2
        have hfl : ByteArray.size ⟨(fmtFact x.rels x.facts[k].rel x.facts[k].vals).toArray⟩ ≤ 30 := by rw [size_mk]; exact fmtFact_len _ _ _ (instOk_vals HOK.out _ (List.getElem_mem _))
        have HS := Lib.hid (headI_succ x k hlt)
        clear c0 c1 hV f0
        rcases Nat.eq_zero_or_pos k with h0 | h0
        · have hg1 : decide ((0 : Int) < (k : Int)) = false := decide_eq_false (by omega)
          have hg2 : decide (0 < k) = false := decide_eq_false (by omega)
          have HS' := Lib.hid (show (⟨(headI x k).toArray⟩ : ByteArray) ++ ⟨(fmtFact x.rels x.facts[k].rel x.facts[k].vals).toArray⟩ = ⟨(headI x (k + 1)).toArray⟩ by rw [HS.out, mk_app, if_pos h0, List.nil_append])
          clear h0
          generalize (⟨(headI x k).toArray⟩ : ByteArray) = J at *
          generalize (⟨(fmtFact x.rels x.facts[k].rel x.facts[k].vals).toArray⟩ : ByteArray) = I at *
          go_wp2
          clear f1
          refine wp_region_aft (Below.refl wr.heap.size wr) (by kernel_rfl) (by kernel_rfl) ?_
          repeat (go_big_quiet_step (((go_at_call 107; exact calls_aft (Nat.le_refl _) (hff _)))))
          refine wpQuiet_nil ?_
          refine aft_end ?_
          intro w3 hh
          go_wp2
          go_roundw
          case rel => exact ⟨k + 1, by omega, by go_num, by rw [← HS'.out], hW.trans (hh.mono hW.size)⟩
          case measure => simp [intOf]; omega
        · have hg1 : decide ((0 : Int) < (k : Int)) = true := decide_eq_true (by omega)
          have hg2 : decide (0 < k) = true := decide_eq_true (by omega)
          have HS' := Lib.hid (show ((⟨(headI x k).toArray⟩ : ByteArray) ++ ⟨#[32]⟩) ++ ⟨(fmtFact x.rels x.facts[k].rel x.facts[k].vals).toArray⟩ = ⟨(headI x (k + 1)).toArray⟩ by
            rw [HS.out, show (⟨#[32]⟩ : ByteArray) = ⟨([32] : List UInt8).toArray⟩ from rfl, mk_app, mk_app, if_neg (by omega), List.append_assoc])
          clear h0
          generalize (⟨(headI x k).toArray⟩ : ByteArray) = J at *
          generalize (⟨(fmtFact x.rels x.facts[k].rel x.facts[k].vals).toArray⟩ : ByteArray) = I at *
          go_wp2
          clear f1
          refine wp_region_aft (Below.refl wr.heap.size wr) (by kernel_rfl) (by kernel_rfl) ?_
          repeat (go_big_quiet_step (((go_at_call 107; exact calls_aft (Nat.le_refl _) (hff _)))))
          refine wpQuiet_nil ?_
          refine aft_end ?_
          intro w3 hh
          go_wp2
          go_roundw
          case rel => exact ⟨k + 1, by omega, by go_num, by rw [← HS'.out], hW.trans (hh.mono hW.size)⟩
          case measure => simp [intOf]; omega
      · obtain rfl : k = x.facts.length := by omega
        have HE2 := Lib.hid (show headI x x.facts.length = fmtInst x by rw [HV.out, headI_all])
        go_wp2
        go_ret
        exact ⟨ret_str (by rw [HE2.out]), hWw⟩
theorem specFormatInstance_any (v : Value) (x : Inst) (w : World) (h : Instance_at w w.heap.size v x) (hw : Instance_wf x) (hn : Instance_sz x ≤ 1048576) :
    Calls Tryz.prog 88 #[v] w fun e w' => e = .returned (.string ⟨(fmtInst x).toArray⟩) ∧ Below w.heap.size w w' := specFormatInstance_len v x w h hw (by unfold Instance_sz RelationS_sz at hn; omega)
theorem specFormatInstance_c (v : Value) (x : Inst) (w : World) (h : Instance_at w w.heap.size v x) (hw : Instance_wf x) (hn : Instance_sz x ≤ 1048576) :
    Calls Tryz.prog 88 #[v] w fun e w' => e = .returned (.string ⟨(fmtInst x).toArray⟩) ∧ Below w.heap.size w w' := specFormatInstance_any v x w h hw hn

end Go.Proofs.YtmecdjincmkofaaGreatDoor
