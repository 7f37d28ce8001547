/-
  Walks and plain lemmas for the laws of this seat: what single Go functions return, for every argument.
-/
import Derived.Test.YtmecdjincmkofaaGreatDoorFmtF
import Derived.Test.YtmecdjincmkofaaGreatDoorRelsI
import Derived.Test.YtmecdjincmkofaaGreatDoorSplN
import Derived.Test.YtmecdjincmkofaaGreatDoorFactVI
namespace Go.Proofs.YtmecdjincmkofaaGreatDoor
open Go.RowKit

theorem implIsValidFact_at (v : Value) (l : List Rel) (r : Int) (V : Value) (vs : List Int) (b : Bool) (h : factOk l r vs = b) (w : World) (hl : RelsAt w w.heap.size v l) (hV : IntsAt w w.heap.size V vs) (hw : IntsWf vs) :
    Calls Tryz.prog 43 #[v, .agg #[.int .i64 r, V]] w fun e w' => e = .returned (.bool b) ∧ Below w.heap.size w w' := by
  subst h; exact implIsValidFact_any v l r V vs w hl hV hw

def fmtVB (v : Int) : ByteArray := ⟨(fmtV v).toArray⟩
theorem take_empty_setV (l : List Int) (k : Nat) (h : k < l.length) : ((l.take k).map fmtVB ++ List.replicate (l.length - k) ByteArray.empty).set k (fmtVB l[k]) = (l.take (k + 1)).map fmtVB ++ List.replicate (l.length - (k + 1)) ByteArray.empty := by
  have e : ((l.take k).map fmtVB).length = k := by simp; omega
  rw [List.set_append_right _ _ (by omega), e, Nat.sub_self, List.take_succ_eq_append_getElem h, show l.length - k = (l.length - (k + 1)) + 1 by omega, List.replicate_succ, List.set_cons_zero, List.map_append, List.append_assoc]
  rfl
theorem join_fmtVB (l : List Int) : Lib.join ((l.map fmtVB).map (·.data.toList)) [44] = joinVals l := by
  unfold joinVals
  rw [List.map_map]
  rfl
set_option maxHeartbeats 3200000 in
set_option maxRecDepth 100000 in
theorem implFormatFact_any (v : Value) (l : List Rel) (r : Int) (V : Value) (vs : List Int) (w : World) (hl : RelsAt w w.heap.size v l) (hV : IntsAt w w.heap.size V vs) (hw : IntsWf vs) (ht : Tab w) :
    Calls Tryz.prog 37 #[v, .agg #[.int .i64 r, V]] w fun e w' => e = .returned (.string ⟨(fmtFact l r vs).toArray⟩) ∧ Below w.heap.size w w' := by
  have HL := Lib.hid hl
  have HV := Lib.hid hV
  obtain ⟨A, c, rfl, hlc, hcm, -⟩ := hl
  obtain ⟨A', c', rfl, hlc', hcm', -⟩ := hV
  unfold maxLen at hcm hcm'
  have hcon := fun b h w' (hb : Below w.heap.size w w') => implIsValidFact_at (.slice A l.length c) l r (.slice A' vs.length c') vs b h w' ((HL.out.below hb (Nat.le_refl _)).more hb.size) ((HV.out.below hb (Nat.le_refl _)).more hb.size) hw
  cases hr : factOk l r vs with
  | false =>
    have HF := Lib.hid (fmtFact_no hr)
    have hE : Below w.heap.size w (w.alloc (.cells #[.int .i64 r, .slice A' vs.length c'] 57)) := (Below.refl _ _).alloc (Nat.le_refl _) _
    replace hcon := hcon false hr _ hE
    clear hr
    go_enter Tryz.func37, Tryz.ntmps37
    go_wp2_with (go_at_call 43; refine hcon.mono ?_; rintro e w1 ⟨rfl, hb1⟩)
    go_ret
    exact ⟨ret_str (by rw [HF.out]), hE.trans (hb1.mono hE.size)⟩
  | true =>
    obtain ⟨hv, hin, hlen, hvals⟩ := factOk_parts hr
    obtain ⟨k, rfl⟩ : ∃ k : Nat, r = (k : Int) := ⟨r.toNat, by omega⟩
    have hk : k < l.length := by omega
    have HF := Lib.hid (fmtFact_yes hr)
    rw [Int.toNat_natCast, getD_at hk] at HF
    have hE : Below w.heap.size w (w.alloc (.cells #[.int .i64 (k : Int), .slice A' vs.length c'] 57)) := (Below.refl _ _).alloc (Nat.le_refl _) _
    have hEz : w.heap.size + 1 ≤ (w.alloc (.cells #[.int .i64 (k : Int), .slice A' vs.length c'] 57)).heap.size := by simp
    have K0 := Lib.hid (show (w.alloc (.cells #[.int .i64 (k : Int), .slice A' vs.length c'] 57)).cell? ⟨w.heap.size, 0, none⟩ = some (.int .i64 (k : Int)) by simp [go_sem])
    have K1 := Lib.hid (show (w.alloc (.cells #[.int .i64 (k : Int), .slice A' vs.length c'] 57)).cell? ⟨w.heap.size, 1, none⟩ = some (.slice A' vs.length c') by simp [go_sem])
    replace hcon := hcon true hr _ hE
    have hok := relOk_bd _ _ (validRels_at l hv k hk)
    have hvl : vs.length ≤ 3 := by rw [arityAt_in (show (k : Int).toNat < l.length by simpa using hk)] at hlen; simp at hlen; omega
    obtain ⟨b, off, rfl, hb, c0, -, -⟩ := RelsAt.elem HL.out k hk
    have hN1 : l[k].name.size ≤ 1 := by omega
    clear hr hv hin hlen hvals hok
    generalize l[k].name = N at *
    have h40 : ByteArray.size ⟨#[40]⟩ = 1 := rfl
    have h41 : ByteArray.size ⟨#[41]⟩ = 1 := rfl
    have hmk := fun w => make_strs w vs.length vs.length (Nat.le_refl _) (by omega)
    go_enter Tryz.func37, Tryz.ntmps37
    go_wp2_with fail
    refine hcon.mono ?_
    rintro e w1 ⟨rfl, hb1⟩
    have hz1 := hb1.size
    have hW1 : Below w.heap.size w w1 := hE.trans (hb1.mono hE.size)
    have hm1 : Below w1.heap.size w1 (w1.alloc (.cells (madeCells #[.string ByteArray.empty] vs.length) 9)) := (Below.refl _ _).alloc (Nat.le_refl _) _
    have f1 := (hb1.cell (p := ⟨w.heap.size, 1, none⟩) hEz).trans K1.out
    have f1' := (hm1.cell (p := ⟨w.heap.size, 1, none⟩) (by show w.heap.size < _; omega)).trans f1
    clear hcon
    go_wp2
    clear hmk f1 f1'
    go_loopw [19] (fun i wr => ∃ j : Nat, j ≤ vs.length ∧ i = .int .i64 j ∧ OwnStrs w1.heap.size (.slice (some ⟨w1.heap.size, 0, none⟩) vs.length vs.length) ((vs.take j).map fmtVB ++ List.replicate (vs.length - j) ByteArray.empty) wr ∧ Below w1.heap.size w1 wr) (fun i _ => vs.length - (intOf i).toNat)
    case atStart => exact ⟨0, by omega, rfl, OwnStrs.full w1 _ (by omega) _ (Nat.le_refl _), (Below.refl _ _).alloc (Nat.le_refl _) _⟩
    case round =>
      obtain ⟨j, hj, rfl, hO, hW⟩ := hrel
      have hz := hW.size
      have hWw := hW1.trans (hW.mono hW1.size)
      by_cases hlt : j < vs.length
      · obtain ⟨b', off', rfl, hb', d0⟩ := IntsAt.elem HV.out j hlt
        replace d0 := (hWw.cell (p := ⟨b', off' + j, none⟩) hb').trans d0
        have hO1 := fun w2 (hb2 : Below wr.heap.size wr w2) => hO.below hb2 (Nat.le_refl _)
        have hlen : ((vs.take j).map fmtVB ++ List.replicate (vs.length - j) ByteArray.empty).length = vs.length := by simp; omega
        have HLen := Lib.hid hlen
        have hjl : j < ((vs.take j).map fmtVB ++ List.replicate (vs.length - j) ByteArray.empty).length := by omega
        have hcon := implFormatValue_any vs[j] wr (hw j hlt).1 (hw j hlt).2 (ht.below hWw)
        clear hlen hO
        go_wp2_with fail
        refine hcon.mono ?_
        rintro e w2 ⟨rfl, hb2⟩
        have hd := (hO1 w2 hb2).cell HLen.out j hjl
        have hfz := (hO1 w2 hb2).frozen HLen.out
        go_wp2
        go_roundw
        case rel => exact ⟨j + 1, by omega, by go_num, by rw [← take_empty_setV vs j hlt]; exact (hO1 w2 hb2).set HLen.out j _, (hW.trans (hb2.mono hz)).setCell (Nat.le_refl _) _⟩
        case measure => simp [intOf]; omega
      · obtain rfl : j = vs.length := by omega
        have hO' : OwnStrs w1.heap.size (.slice (some ⟨w1.heap.size, 0, none⟩) vs.length vs.length) (vs.map fmtVB) wr := by simpa using hO
        have hjl := joinVals_len vs vs.length (Nat.le_refl _)
        rw [List.take_of_length_le (Nat.le_refl _)] at hjl
        have hjn := fun (u : Aft wr.heap.size wr) => Tryz.strings_Join w1.heap.size 0 vs.length (vs.map fmtVB) ⟨#[44]⟩ u.now (by
          intro i x hx
          have hi := (List.getElem?_eq_some_iff.1 hx).1
          rw [Nat.zero_add, (hO'.below u.is (Nat.le_refl _)).cell (by simp) i hi, ← (List.getElem?_eq_some_iff.1 hx).2]) (World.ownsRow.lt (hO'.below u.is (Nat.le_refl _)) w1.heap.size rfl).2 (by simp; omega) (by simp) (by rw [show (⟨#[44]⟩ : ByteArray).data.toList = [44] from rfl, join_fmtVB]; omega)
        rw [show (⟨#[44]⟩ : ByteArray).data.toList = [44] from rfl, join_fmtVB, List.length_map] at hjn
        have G0 := Aft.cell (show w.heap.size < wr.heap.size by omega) ((hW.cell (p := ⟨w.heap.size, 0, none⟩) (by show w.heap.size < _; omega)).trans ((hb1.cell (p := ⟨w.heap.size, 0, none⟩) hEz).trans K0.out))
        have C0 := Aft.cell (show b < wr.heap.size by have := hWw.size; omega) ((hWw.cell (p := ⟨b, off + k * 3, none⟩) hb).trans c0)
        have hJs : ByteArray.size ⟨(joinVals vs).toArray⟩ ≤ 12 := by rw [size_mk]; omega
        have HE := Lib.hid (show ((N ++ (⟨#[40]⟩ : ByteArray)) ++ (⟨(joinVals vs).toArray⟩ : ByteArray)) ++ (⟨#[41]⟩ : ByteArray) = ⟨(fmtFact l (k : Int) vs).toArray⟩ from bytes_ext (by rw [HF.out]; simp [bodyF, joinVals, ByteArray.data_append]))
        clear hO hO' c0 HF
        generalize (⟨(joinVals vs).toArray⟩ : ByteArray) = J at *
        go_wp2
        refine wp_region_aft (Below.refl wr.heap.size wr) (by kernel_rfl) (by kernel_rfl) ?_
        repeat (go_big_quiet_step (((go_at_call 76; exact calls_aft (Nat.le_refl _) (hjn _)))))
        refine wpQuiet_nil ?_
        refine aft_end ?_
        intro w2 hh
        go_wp2
        go_ret
        exact ⟨ret_str HE.out, hWw.trans (hh.mono hWw.size)⟩
theorem implFormatFact_c (v : Value) (l : List Rel) (u : Value) (x : Fct) (w : World) (h : RelationS_at w w.heap.size v l) (_ : RelationS_wf l) (_ : RelationS_sz l ≤ 1048576) (h' : Fact_at w w.heap.size u x) (hw : Fact_wf x) (_ : Fact_sz x ≤ 1048576) (ht : Tab w) :
    Calls Tryz.prog 37 #[v, u] w fun e w' => e = .returned (.string ⟨(fmtFact l x.rel x.vals).toArray⟩) ∧ Below w.heap.size w w' := by
  obtain ⟨V, rfl, h'⟩ := h'
  exact implFormatFact_any v l x.rel V x.vals w h h' hw.2 ht

end Go.Proofs.YtmecdjincmkofaaGreatDoor
