/-
  Walks and plain lemmas for the laws of this seat: what single Go functions return, for every argument.
-/
import Derived.Test.YtmecdjincmkofaaDoorBase
import Derived.Test.YtmecdjincmkofaaDoorTyAtom
import Derived.Test.YtmecdjincmkofaaDoorFmtD
import Derived.Test.YtmecdjincmkofaaDoorFmtI
import Derived.Test.YtmecdjincmkofaaDoorRelOfI
import Derived.Test.YtmecdjincmkofaaDoorAtomVI
import Derived.Test.YtmecdjincmkofaaDoorStrs
namespace Go.Proofs.YtmecdjincmkofaaDoor
open Go.RowKit

theorem implIsVariable_at (t : Int) (q : Bool) (hq : decide (0 ≤ t) = q) (w : World) :
    Calls Tryd.prog 24 #[.int .i64 t] w fun e w' => e = .returned (.bool q) ∧ w = w' := by
  subst hq; exact implIsVariable_any t w
set_option maxHeartbeats 1600000 in
set_option maxRecDepth 100000 in
theorem implFormatTerm_any (t : Int) (w : World) (ht : Tab w) :
    Calls Tryd.prog 7 #[.int .i64 t] w fun e w' => e = .returned (.string ⟨(fmtT t).toArray⟩) ∧ Below w.heap.size w w' := by
  cases hv : validT t with
  | false =>
    have hc := implIsValidTerm_at t false hv
    have HF := Lib.hid (fmtT_no hv)
    clear hv
    go_enter Tryd.func7, Tryd.ntmps7
    go_wp2_with fail
    refine (hc _).mono ?_
    rintro e w' ⟨rfl, rfl⟩
    go_wp2
    go_ret
    exact ⟨ret_str (by rw [HF.out]), Below.refl _ _⟩
  | true =>
    have hc := implIsValidTerm_at t true hv
    have hbd := (validT_iff t).1 hv
    clear hv
    by_cases h0 : 0 ≤ t
    · have h1 := implIsVariable_at t true (decide_eq_true h0)
      have hsz : ByteArray.size ⟨#[120, 121, 122, 117, 118]⟩ = 5 := rfl
      rcases (show t = 0 ∨ t = 1 ∨ t = 2 ∨ t = 3 ∨ t = 4 by omega) with rfl | rfl | rfl | rfl | rfl
      all_goals
        clear hbd h0
        go_enter Tryd.func7, Tryd.ntmps7
        go_wp2_with fail
        refine (hc _).mono ?_
        rintro e w' ⟨rfl, rfl⟩
        go_wp2_with fail
        refine (h1 _).mono ?_
        rintro e w' ⟨rfl, rfl⟩
        go_wp2
        go_ret
        exact ⟨rfl, Below.refl _ _⟩
    · have h1 := implIsVariable_at t false (decide_eq_false h0)
      have HF := Lib.hid (fmtT_const (t := t) ⟨hbd.1, by omega⟩)
      have h2 := fun w => implFormatInt_any (-1 - t) w (by omega) (by omega)
      go_enter Tryd.func7, Tryd.ntmps7
      go_wp2_with fail
      refine (hc _).mono ?_
      rintro e w' ⟨rfl, rfl⟩
      go_wp2_with fail
      refine (h1 _).mono ?_
      rintro e w' ⟨rfl, rfl⟩
      go_wp2_with fail
      refine (h2 _ ht).mono ?_
      rintro e w1 ⟨rfl, hb1⟩
      go_wp2
      go_ret
      exact ⟨ret_str (by rw [HF.out]), hb1⟩
theorem implFormatTerm_c (t : Int) (w : World) (_ : -9223372036854775808 ≤ t ∧ t ≤ 9223372036854775807) (ht : Tab w) :
    Calls Tryd.prog 7 #[.int .i64 t] w fun e w' => e = .returned (.string ⟨(fmtT t).toArray⟩) ∧ Below w.heap.size w w' := implFormatTerm_any t w ht

set_option maxHeartbeats 3200000 in
set_option maxRecDepth 100000 in
theorem implFormatAtom_any (v : Value) (l : List Rel) (r : Int) (V : Value) (vs : List Int) (w : World) (hl : RelsAt w w.heap.size v l) (hV : IntsAt w w.heap.size V vs) (ht : Tab w) :
    Calls Tryd.prog 13 #[v, .agg #[.int .i64 r, V]] w fun e w' => e = .returned (.string ⟨(fmtAtom l ⟨r, vs⟩).toArray⟩) ∧ Below w.heap.size w w' := by
  have HL := Lib.hid hl
  have HV := Lib.hid hV
  obtain ⟨A, c, rfl, hlc, hcm, -⟩ := hl
  obtain ⟨A', c', rfl, hlc', hcm', -⟩ := hV
  unfold maxLen at hcm hcm'
  have hcon := fun b h w' (hb : Below w.heap.size w w') => implIsValidAtom_at l ⟨r, vs⟩ b h (.slice A l.length c) (.agg #[.int .i64 r, .slice A' vs.length c']) w' ((HL.out.below hb (Nat.le_refl _)).more hb.size) ⟨_, rfl, (HV.out.below hb (Nat.le_refl _)).more hb.size⟩
  cases hr : atomB l ⟨r, vs⟩ with
  | false =>
    have HF := Lib.hid (fmtAtom_no (l := l) (a := ⟨r, vs⟩) hr)
    have hE : Below w.heap.size w (w.alloc (.cells #[.int .i64 r, .slice A' vs.length c'] 33)) := (Below.refl _ _).alloc (Nat.le_refl _) _
    replace hcon := hcon false hr _ hE
    clear hr
    go_enter Tryd.func13, Tryd.ntmps13
    go_wp2_with (go_at_call 31; refine hcon.mono ?_; rintro e w1 ⟨rfl, hb1⟩)
    go_ret
    exact ⟨ret_str (by rw [HF.out]), hE.trans (hb1.mono hE.size)⟩
  | true =>
    obtain ⟨hv, hin, hlen, hvals⟩ := atomOk_parts (show atomOk l r vs = true from hr)
    obtain ⟨k, rfl⟩ : ∃ k : Nat, r = (k : Int) := ⟨r.toNat, by omega⟩
    have hk : k < l.length := by omega
    have HF := Lib.hid (fmtAtom_yes (l := l) (a := ⟨(k : Int), vs⟩) hr)
    unfold nameAt at HF
    rw [Int.toNat_natCast, getD_at hk] at HF
    have hE : Below w.heap.size w (w.alloc (.cells #[.int .i64 (k : Int), .slice A' vs.length c'] 33)) := (Below.refl _ _).alloc (Nat.le_refl _) _
    have hEz : w.heap.size + 1 ≤ (w.alloc (.cells #[.int .i64 (k : Int), .slice A' vs.length c'] 33)).heap.size := by simp
    have K0 := Lib.hid (show (w.alloc (.cells #[.int .i64 (k : Int), .slice A' vs.length c'] 33)).cell? ⟨w.heap.size, 0, none⟩ = some (.int .i64 (k : Int)) by simp [go_sem])
    have K1 := Lib.hid (show (w.alloc (.cells #[.int .i64 (k : Int), .slice A' vs.length c'] 33)).cell? ⟨w.heap.size, 1, none⟩ = some (.slice A' vs.length c') by simp [go_sem])
    replace hcon := hcon true hr _ hE
    have hok := relOk_bd _ _ (validRels_at l hv k hk)
    have hvl : vs.length ≤ 3 := by rw [arityAt_in (show (k : Int).toNat < l.length by simpa using hk)] at hlen; simp at hlen; omega
    obtain ⟨b, off, rfl, hb, c0, -, -⟩ := RelsAt.elem HL.out k hk
    have hN1 : l[k].name.size ≤ 1 := by omega
    clear hr hv hin hlen hvals hok
    generalize l[k].name = N at *
    have HH := Lib.hid (show N = ⟨(N.data.toList ++ fmtTs (vs.take 0)).toArray⟩ from bytes_ext (by simp [fmtTs]))
    go_enter Tryd.func13, Tryd.ntmps13
    go_wp2_with fail
    refine hcon.mono ?_
    rintro e w1 ⟨rfl, hb1⟩
    have hW1 : Below w.heap.size w w1 := hE.trans (hb1.mono hE.size)
    have f0 := (hb1.cell (p := ⟨w.heap.size, 0, none⟩) hEz).trans K0.out
    have f1 := (hb1.cell (p := ⟨w.heap.size, 1, none⟩) hEz).trans K1.out
    replace c0 := (hW1.cell (p := ⟨b, off + k * 3, none⟩) hb).trans c0
    clear hcon
    go_wp2
    go_loopw [5, 21] (fun s i wr => ∃ j : Nat, j ≤ vs.length ∧ i = .int .i64 j ∧ s = .string ⟨(N.data.toList ++ fmtTs (vs.take j)).toArray⟩ ∧ Below (w.alloc (.cells #[.int .i64 (k : Int), .slice A' vs.length c'] 33)).heap.size (w.alloc (.cells #[.int .i64 (k : Int), .slice A' vs.length c'] 33)) wr) (fun _ i _ => vs.length - (intOf i).toNat)
    case atStart => exact ⟨0, by omega, rfl, by rw [← HH.out], hb1⟩
    case round =>
      obtain ⟨j, hj, rfl, rfl, hW⟩ := hrel
      have hsz : ByteArray.size ⟨(N.data.toList ++ fmtTs (vs.take j)).toArray⟩ ≤ 4 := by
        have h1 := fmtTs_len (vs.take j)
        rw [List.length_take] at h1
        rw [size_mk, List.length_append]
        have h2 : N.data.toList.length = N.size := by simp
        omega
      by_cases hlt : j < vs.length
      · obtain ⟨b', off', rfl, hb', d0⟩ := IntsAt.elem HV.out j hlt
        replace d0 := ((hE.trans (hW.mono hE.size)).cell (p := ⟨b', off' + j, none⟩) hb').trans d0
        have hfv := implFormatTerm_any vs[j] wr (ht.below (hE.trans (hW.mono hE.size)))
        have hfl : ByteArray.size ⟨(fmtT vs[j]).toArray⟩ ≤ 1 := by rw [size_mk]; exact fmtT_len _
        have HS' := Lib.hid (show (⟨(N.data.toList ++ fmtTs (vs.take j)).toArray⟩ : ByteArray) ++ ⟨(fmtT vs[j]).toArray⟩ = ⟨(N.data.toList ++ fmtTs (vs.take (j + 1))).toArray⟩ by rw [fmtTs_take vs j hlt, mk_app, List.append_assoc])
        generalize (⟨(N.data.toList ++ fmtTs (vs.take j)).toArray⟩ : ByteArray) = J at *
        generalize (⟨(fmtT vs[j]).toArray⟩ : ByteArray) = I at *
        go_wp2_with (go_at_call 7; refine hfv.mono ?_; rintro e w2 ⟨rfl, hb2⟩)
        go_roundw
        case rel => exact ⟨j + 1, by omega, by go_num, by rw [← HS'.out], hW.trans (hb2.mono hW.size)⟩
        case measure => simp [intOf]; omega
      · obtain rfl : j = vs.length := by omega
        have HE := Lib.hid (show (⟨(N.data.toList ++ fmtTs (vs.take vs.length)).toArray⟩ : ByteArray) = ⟨(fmtAtom l ⟨(k : Int), vs⟩).toArray⟩ by
          rw [HF.out, List.take_of_length_le (Nat.le_refl _)])
        go_wp2
        go_ret
        exact ⟨ret_str HE.out, hE.trans (hW.mono hE.size)⟩
theorem implFormatAtom_c (v : Value) (l : List Rel) (u : Value) (x : Atm) (w : World) (h : RelationS_at w w.heap.size v l) (_ : RelationS_wf l) (_ : RelationS_sz l ≤ 1048576) (h' : Atom_at w w.heap.size u x) (_ : Atom_wf x) (_ : Atom_sz x ≤ 1048576) (ht : Tab w) :
    Calls Tryd.prog 13 #[v, u] w fun e w' => e = .returned (.string ⟨(fmtAtom l x).toArray⟩) ∧ Below w.heap.size w w' := by
  obtain ⟨V, rfl, h'⟩ := h'
  exact implFormatAtom_any v l x.rel V x.vals w h h' ht

def atomTx (l : List Rel) (a : Atm) : ByteArray := ⟨(fmtAtom l a).toArray⟩
theorem strs_fill {α : Type} (f : α → ByteArray) (l : List α) (k : Nat) (h : k < l.length) : ((l.take k).map f ++ List.replicate (l.length - k) ByteArray.empty).set k (f l[k]) = (l.take (k + 1)).map f ++ List.replicate (l.length - (k + 1)) ByteArray.empty := by
  have e : ((l.take k).map f).length = k := by simp; omega
  rw [List.set_append_right _ _ (by omega), e, Nat.sub_self, List.take_succ_eq_append_getElem h, show l.length - k = (l.length - (k + 1)) + 1 by omega, List.replicate_succ, List.set_cons_zero, List.map_append, List.append_assoc]
  rfl
theorem join_atomTx (l : List Rel) (ts : List Atm) : Lib.join ((ts.map (atomTx l)).map (·.data.toList)) [32] = joinAtoms l ts := by
  unfold joinAtoms
  rw [List.map_map]
  rfl
set_option maxHeartbeats 3200000 in
set_option maxRecDepth 100000 in
theorem implFormatAtoms_any (v : Value) (l : List Rel) (u : Value) (ts : List Atm) (w : World) (hl : RelsAt w w.heap.size v l) (h : AtomS_at w w.heap.size u ts) (h2 : ts.length ≤ 2) (ht : Tab w) :
    Calls Tryd.prog 39 #[v, u] w fun e w' => e = .returned (.string ⟨(joinAtoms l ts).toArray⟩) ∧ Below w.heap.size w w' := by
  have HL := Lib.hid hl
  have HX := Lib.hid h
  obtain ⟨A, a0, rfl, -⟩ := hl
  obtain ⟨A', c, rfl, hc1, hc2⟩ := h.form
  unfold maxLen at hc2
  clear h
  have hmk := fun w => make_strs w ts.length ts.length (Nat.le_refl _) (by omega)
  go_enter Tryd.func39, Tryd.ntmps39
  go_wp2
  clear hmk
  go_loopw [13] (fun i wr => ∃ k : Nat, k ≤ ts.length ∧ i = .int .i64 k ∧ OwnStrs w.heap.size (.slice (some ⟨w.heap.size, 0, none⟩) ts.length ts.length) ((ts.take k).map (atomTx l) ++ List.replicate (ts.length - k) ByteArray.empty) wr ∧ Below w.heap.size w wr) (fun i _ => ts.length - (intOf i).toNat)
  case atStart => exact ⟨0, by omega, rfl, OwnStrs.full w _ (by omega) _ (Nat.le_refl _), (Below.refl _ _).alloc (Nat.le_refl _) _⟩
  case round =>
    obtain ⟨k, hk, rfl, hO, hW⟩ := hrel
    have hz := hW.size
    by_cases hlt : k < ts.length
    · obtain ⟨b, off, V, rfl, hb, c0, c1, hV⟩ := AtomS_at.elem HX.out k hlt
      replace c0 := (hW.cell (p := ⟨b, off + k * 2, none⟩) hb).trans c0
      replace c1 := (hW.cell (p := ⟨b, off + k * 2 + 1, none⟩) hb).trans c1
      have hlen : ((ts.take k).map (atomTx l) ++ List.replicate (ts.length - k) ByteArray.empty).length = ts.length := by simp; omega
      have HLen := Lib.hid hlen
      have hkl : k < ((ts.take k).map (atomTx l) ++ List.replicate (ts.length - k) ByteArray.empty).length := by omega
      have hO1 := fun w2 (hb2 : Below wr.heap.size wr w2) => hO.below hb2 (Nat.le_refl _)
      have hcon := fun (w1 : World) (hb1 : Below w.heap.size w w1) => implFormatAtom_any (.slice A l.length a0) l ts[k].rel V ts[k].vals w1 ((HL.out.below hb1 (Nat.le_refl _)).more hb1.size) ((hV.below hb1 (Nat.le_refl _)).more hb1.size) (ht.below hb1)
      have HE : Hid ((⟨ts[k].rel, ts[k].vals⟩ : Atm) = ts[k]) := Lib.hid rfl
      rw [HE.out] at hcon
      obtain ⟨PV, cV, rfl, -⟩ := id hV
      clear hlen hO
      go_wp2_with fail
      refine (hcon _ (hW.trans ((Below.refl _ _).alloc hz _))).mono ?_
      rintro e w2 ⟨rfl, hb2⟩
      have hB2 := ((Below.refl wr.heap.size wr).alloc (Nat.le_refl _) _).trans (hb2.mono (by simp))
      have hd := (hO1 w2 hB2).cell HLen.out k hkl
      have hfz := (hO1 w2 hB2).frozen HLen.out
      go_wp2
      go_roundw
      case rel => exact ⟨k + 1, by omega, by go_num, by rw [← strs_fill (atomTx l) ts k hlt]; exact (hO1 w2 hB2).set HLen.out k _, (hW.trans (hB2.mono hz)).setCell (Nat.le_refl _) _⟩
      case measure => simp [intOf]; omega
    · obtain rfl : k = ts.length := by omega
      have hO' : OwnStrs w.heap.size (.slice (some ⟨w.heap.size, 0, none⟩) ts.length ts.length) (ts.map (atomTx l)) wr := by simpa using hO
      have hcells : ∀ (j : Nat) x, (ts.map (atomTx l))[j]? = some x → wr.cell? ⟨w.heap.size, 0 + j, none⟩ = some (.string x) := by
        intro j x hx
        have hj := (List.getElem?_eq_some_iff.1 hx).1
        rw [Nat.zero_add, hO'.cell (by simp) j hj, ← (List.getElem?_eq_some_iff.1 hx).2]
      have hj := Tryd.strings_Join w.heap.size 0 ts.length (ts.map (atomTx l)) ⟨#[32]⟩ wr hcells (World.ownsRow.lt hO' w.heap.size rfl).2 (by simp; omega) (by simp) (by rw [show (⟨#[32]⟩ : ByteArray).data.toList = [32] from rfl, join_atomTx]; have := joinAtoms_len l ts ts.length (Nat.le_refl _); rw [List.take_length] at this; omega)
      rw [show (⟨#[32]⟩ : ByteArray).data.toList = [32] from rfl, join_atomTx, List.length_map] at hj
      clear hcells hO hO'
      go_wp2_with fail
      refine hj.mono ?_
      rintro e w2 ⟨rfl, hb2⟩
      go_wp2
      go_ret
      exact ⟨rfl, hW.trans (hb2.mono hz)⟩

end Go.Proofs.YtmecdjincmkofaaDoor
