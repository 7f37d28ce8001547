/-
  Walks and plain lemmas for the laws of this seat: what single Go functions return, for every argument.
-/
import Derived.Test.YtmecdjincmkofaaGreatDoorShelf
import Derived.Lib.SplitLaws
import Derived.Test.YtmecdjincmkofaaGreatDoorBase
import Derived.Test.YtmecdjincmkofaaGreatDoorPlan
import Derived.Test.YtmecdjincmkofaaGreatDoorInts
import Derived.Test.YtmecdjincmkofaaGreatDoorRelsC
import Derived.Test.YtmecdjincmkofaaGreatDoorTyDepS
import Derived.Test.YtmecdjincmkofaaGreatDoorFmtF
import Derived.Test.YtmecdjincmkofaaGreatDoorDepSC
import Derived.Test.YtmecdjincmkofaaGreatDoorVarsM
import Derived.Test.YtmecdjincmkofaaGreatDoorReadS
import Derived.Test.YtmecdjincmkofaaGreatDoorHasI
namespace Go.Proofs.YtmecdjincmkofaaGreatDoor
open Go.RowKit

/-- what the program panics with where a text has no format -/
def NoFmt : List PanicEntry := [{ v := .iface 9 (.string ⟨#[110, 111, 116, 32, 116, 104, 101, 32, 102, 111, 114, 109, 97, 116, 32, 111, 102, 32, 97, 32, 100, 101, 112, 101, 110, 100, 101, 110, 99, 121]⟩), recovered := false }]
def GivesTerm (c : UInt8) (w : World) (e : Ending) (w' : World) : Prop := Below w.heap.size w w' ∧ ((termIs c = true ∧ e = .returned (.int .i64 (termOf c))) ∨ (termIs c = false ∧ e = .panicked NoFmt))
theorem index_vars (c : UInt8) (k : Int) (h : Lib.indexByte [120, 121, 122, 117, 118] c = k) (w : World) : Calls Tryz.prog 216 #[.string ⟨#[120, 121, 122, 117, 118]⟩, .string ⟨#[c]⟩] w fun e w' => e = .returned (.int .i64 k) ∧ w' = w := by
  subst h; exact Tryz.strings_Index_one ⟨#[120, 121, 122, 117, 118]⟩ c w
theorem parse_at (c : UInt8) (q : Int × Bool) (h : parseInt [c] = q) (w : World) (ht : Tab w) (hv : ErrVars w) : Calls Tryz.prog 182 #[.string ⟨#[c]⟩] w fun e w' => e = .returned (.tuple #[.int .i64 q.1, .bool q.2]) ∧ Below w.heap.size w w' := by
  subst h; exact implParseInt_any ⟨#[c]⟩ w (by show 1 ≤ _; decide) ht hv
set_option maxHeartbeats 1600000 in
set_option maxRecDepth 100000 in
theorem implReadTerm_any (c : UInt8) (w : World) (ht : Tab w) (hv : ErrVars w) : Calls Tryz.prog 236 #[.string ⟨#[c]⟩] w (GivesTerm c w) := by
  rcases idx_vars c with ⟨h1, h2, h3⟩ | ⟨h1, h2⟩
  · have hidx := index_vars c _ h1
    have HT : Hid (termIs c = true) := Lib.hid (decide_eq_true h3)
    have hd : decide (0 ≤ termOf c) = true := decide_eq_true h2
    unfold GivesTerm
    generalize termOf c = t at *
    clear h1 h3
    go_enter Tryz.func236, Tryz.ntmps236
    go_wp2_with fail
    refine (hidx _).mono ?_
    rintro e w1 ⟨rfl, rfl⟩
    go_wp2
    go_ret
    exact ⟨Below.refl _ _, .inl ⟨HT.out, rfl⟩⟩
  · have hidx := index_vars c _ h1
    rcases h2 with h2 | h2
    · have hp := parse_at c _ (parse_digit c h2)
      have HT := Lib.hid (term_digit c h2)
      have hu : 0 ≤ ((c.toNat - 48 : Nat) : Int) ∧ ((c.toNat - 48 : Nat) : Int) ≤ 9 := by omega
      generalize ((c.toNat - 48 : Nat) : Int) = u at *
      clear h1 h2
      go_enter Tryz.func236, Tryz.ntmps236
      go_wp2_with fail
      refine (hidx _).mono ?_
      rintro e w1 ⟨rfl, rfl⟩
      go_wp2_with fail
      refine (hp _ ht hv).mono ?_
      rintro e w2 ⟨rfl, hb⟩
      go_wp2
      go_ret
      refine ⟨hb, .inl ⟨HT.out.1, ?_⟩⟩
      rw [← HT.out.2]
      rfl
    · have hp := parse_at c _ (parse_other c (term_five c h2).2)
      have HT := Lib.hid (term_five c h2).1
      clear h1 h2
      go_enter Tryz.func236, Tryz.ntmps236
      go_wp2_with fail
      refine (hidx _).mono ?_
      rintro e w1 ⟨rfl, rfl⟩
      go_wp2_with fail
      refine (hp _ ht hv).mono ?_
      rintro e w2 ⟨rfl, hb⟩
      go_wp2
      exact ⟨rfl, hb, .inr ⟨HT.out, rfl⟩⟩

def termsTo (s : List UInt8) (k : Nat) : Bool := ((s.drop 1).take (k - 1)).all termIs
theorem termsTo_one (s : List UInt8) : termsTo s 1 = true := by unfold termsTo; simp
theorem termsTo_succ (s : List UInt8) (k : Nat) (h1 : 1 ≤ k) (h : k < s.length) : termsTo s (k + 1) = (termsTo s k && termIs s[k]) := by
  cases s with
  | nil => simp at h
  | cons b r =>
    obtain ⟨j, rfl⟩ : ∃ j, k = j + 1 := ⟨k - 1, by omega⟩
    have hj : j < r.length := by simpa using h
    show (r.take (j + 1)).all termIs = ((r.take j).all termIs && termIs r[j])
    rw [List.take_succ_eq_append_getElem hj, List.all_append]
    simp
theorem atomIs_end (s : List UInt8) (h : 0 < s.length) : atomIs s = termsTo s s.length := by
  cases s with
  | nil => simp at h
  | cons b r =>
    show r.all termIs = (r.take r.length).all termIs
    rw [List.take_of_length_le (Nat.le_refl _)]
theorem atomIs_stop (s : List UInt8) (k : Nat) (h1 : 1 ≤ k) (h : k < s.length) (ht : termIs s[k] = false) : atomIs s = false := by
  cases s with
  | nil => rfl
  | cons b r =>
    obtain ⟨j, rfl⟩ : ∃ j, k = j + 1 := ⟨k - 1, by omega⟩
    have hj : j < r.length := by simpa using h
    show r.all termIs = false
    rw [List.all_eq_false]
    exact ⟨r[j], List.getElem_mem hj, by have e : termIs r[j] = false := ht; rw [e]; simp⟩
def GivesAtm (l : List Rel) (t : ByteArray) (w : World) (e : Ending) (w' : World) : Prop := Below w.heap.size w w' ∧ ((atomIs t.data.toList = true ∧ ∃ V, e = .returned (.agg #[.int .i64 (readAtom l t.data.toList).rel, V]) ∧ OwnInts w.heap.size V (readAtom l t.data.toList).vals w') ∨ (atomIs t.data.toList = false ∧ e = .panicked NoFmt))
def ReadInvI (l : List Rel) (t : ByteArray) (g : Nat) (W : World) (kv : Value) (wq : World) : Prop :=
  ∃ (k : Nat) (V : Value) (a : Atm), 1 ≤ k ∧ k ≤ t.size ∧ kv = .int .i64 k ∧ Hid (termsTo t.data.toList k = true) ∧ Hid (a = readAtom l (t.data.toList.take k)) ∧ wq.cell? ⟨g, 0, none⟩ = some (.int .i64 a.rel) ∧ wq.cell? ⟨g, 1, none⟩ = some V ∧ (∀ o, wq.frozen? ⟨g, o, none⟩ = false) ∧ OwnInts (g + 1) V a.vals wq ∧ Hid (Chg (fun q => q = g) W wq)
set_option maxHeartbeats 3200000 in
set_option maxRecDepth 100000 in
theorem implReadAtom_any (v : Value) (l : List Rel) (t : ByteArray) (w : World) (hl : RelsAt w w.heap.size v l) (hs : t.size ≤ 1048576) (ht : Tab w) (hv : ErrVars w) :
    Calls Tryz.prog 235 #[v, .string t] w (GivesAtm l t w) := by
  by_cases h0 : t.data.toList = []
  · obtain rfl : t = ⟨#[]⟩ := bytes_ext h0
    clear h0
    go_enter Tryz.func235, Tryz.ntmps235
    go_wp2
    exact ⟨rfl, (Below.refl _ _).alloc (Nat.le_refl _) _, .inr ⟨rfl, rfl⟩⟩
  · have hse : (t.toList == []) = false := by rw [ByteArray.toList_eq, beq_eq_false_iff_ne]; exact h0
    have hlen : t.data.toList.length = t.size := by simp
    have hlk0 : 0 < t.size := by rw [← hlen]; exact List.length_pos_iff.2 h0
    have HLen := Lib.hid hlen
    have HL := Lib.hid hl
    have e1 := extract_one t 0 hlk0
    have hE : Below w.heap.size w (w.alloc (.cells #[.int .i64 0, .slice none 0 0] 184)) := below_more (Below.refl _ _) _
    have hEz : (w.alloc (.cells #[.int .i64 0, .slice none 0 0] 184)).heap.size = w.heap.size + 1 := by simp
    have R0 := Lib.hid (show (w.alloc (.cells #[.int .i64 0, .slice none 0 0] 184)).cell? ⟨w.heap.size, 0, none⟩ = some (.int .i64 0) by simp [go_sem])
    have R1 := Lib.hid (show (w.alloc (.cells #[.int .i64 0, .slice none 0 0] 184)).cell? ⟨w.heap.size, 1, none⟩ = some (.slice none 0 0) by simp [go_sem])
    have RZ := Lib.hid (show ∀ o, (w.alloc (.cells #[.int .i64 0, .slice none 0 0] 184)).frozen? ⟨w.heap.size, o, none⟩ = false by intro o; simp [go_sem])
    have hidx := implRelationIndex_any v l ⟨#[t[0]'hlk0]⟩ (w.alloc (.cells #[.int .i64 0, .slice none 0 0] 184)) ((HL.out.below hE (Nat.le_refl _)).more hE.size)
    have hs1 : 1 ≤ t.size := hlk0
    have HA1 := Lib.hid (show readAtom l (t.data.toList.take 1) = ⟨relIdx ⟨#[t[0]'hlk0]⟩ l, []⟩ from readAtom_one l t.data.toList (by simpa using hlk0))
    obtain ⟨q0, hq0⟩ : ∃ q0, q0 = relIdx ⟨#[t[0]'hlk0]⟩ l := ⟨_, rfl⟩
    rw [← hq0] at hidx HA1
    generalize (⟨#[t[0]'hlk0]⟩ : ByteArray) = T0 at *
    clear hq0 h0 hl hlen
    go_enter Tryz.func235, Tryz.ntmps235
    go_wp2_with fail
    refine hidx.mono ?_
    rintro e w1 ⟨rfl, hb1⟩
    have hz1 := hb1.size
    rw [hEz] at hz1
    have hW1 := Lib.hid (hE.trans (hb1.mono hE.size))
    have r0 := Lib.hid ((hb1.cell (p := ⟨w.heap.size, 0, none⟩) (by show w.heap.size < _; omega)).trans R0.out)
    have r1 := Lib.hid ((hb1.cell (p := ⟨w.heap.size, 1, none⟩) (by show w.heap.size < _; omega)).trans R1.out)
    have rz := Lib.hid (fun o => (hb1.frozen (p := ⟨w.heap.size, o, none⟩) (by show w.heap.size < _; omega)).trans (RZ.out o))
    clear hidx R0 R1 RZ hb1 hEz hE e1 hs1
    obtain ⟨g, hg⟩ : ∃ g, g = w1.heap.size := ⟨_, rfl⟩
    obtain ⟨W, hWe⟩ : ∃ W, W = w1.alloc (.cells #[.int .i64 q0, .slice none 0 0] 184) := ⟨_, rfl⟩
    have y0 : W.cell? ⟨g, 0, none⟩ = some (.int .i64 q0) := by rw [hWe, hg]; simp [go_sem]
    have y1 : W.cell? ⟨g, 1, none⟩ = some (.slice none 0 0) := by rw [hWe, hg]; simp [go_sem]
    have yz : ∀ o, W.frozen? ⟨g, o, none⟩ = false := by intro o; rw [hWe, hg]; simp [go_sem]
    have hAl : Below g w1 W := by rw [hWe]; exact (Below.refl _ _).alloc (by omega) _
    have hWs : W.heap.size = g + 1 := by rw [hWe, hg]; simp
    have hgw : w.heap.size + 1 ≤ g := by omega
    have HWs := Lib.hid hWs
    have HW := Lib.hid (hW1.out.trans (hAl.mono (by omega)))
    have m0 := Lib.hid ((hAl.cell (p := ⟨w.heap.size, 0, none⟩) (by show w.heap.size < _; omega)).trans r0.out)
    have m1 := Lib.hid ((hAl.cell (p := ⟨w.heap.size, 1, none⟩) (by show w.heap.size < _; omega)).trans r1.out)
    have mz := Lib.hid (fun o => (hAl.frozen (p := ⟨w.heap.size, o, none⟩) (by show w.heap.size < _; omega)).trans (rz.out o))
    clear hAl r0 r1 rz hW1 hWs hz1
    go_wp2
    rw [← hg, ← hWe]
    clear hWe hg
    go_loopw [6] (fun k' wq => ReadInvI l t g W k' wq) (fun k' _ => t.size - (intOf k').toNat)
    case atStart => exact ⟨1, _, ⟨q0, []⟩, Nat.le_refl _, hlk0, rfl, Lib.hid (termsTo_one _), Lib.hid HA1.out.symm, y0, y1, yz, OwnInts.nil _ _, Lib.hid (Chg.refl _ _)⟩
    case round =>
      clear y0 y1 yz
      obtain ⟨k, V, a, hk1, hk, rfl, HT, HA, y0, y1, yz, hOV, HC⟩ := hrel
      obtain ⟨P4, c4, rfl, hl4, hm4, -⟩ := id hOV.at_
      unfold maxLen at hm4
      have hgq : g + 1 ≤ wr.heap.size := by have h1 := HC.out.size; rw [HWs.out] at h1; exact h1
      have HWq := Lib.hid (show Below w.heap.size w wr from HW.out.trans (HC.out.below (fun q hq => by omega) (by rw [HWs.out]; omega)))
      by_cases hlk : k < t.size
      · have e1 := extract_one t k hlk
        have hs1 : k + 1 ≤ t.size := hlk
        have HA2 := Lib.hid (readAtom_succ l t.data.toList k (by omega) (by simpa using hlk))
        have hkl : k < t.data.toList.length := by simpa using hlk
        have HT0 : Hid (t.data.toList[k]'hkl = t[k]) := Lib.hid rfl
        have HTS := Lib.hid (termsTo_succ t.data.toList k hk1 hkl)
        have HST := Lib.hid (atomIs_stop t.data.toList k hk1 hkl)
        rw [HT0.out, ← HA.out] at HA2
        rw [HT0.out] at HTS HST
        have hal : a.vals.length ≤ 1048576 := by
          have h1 := readAtom_len l (t.data.toList.take k)
          rw [← HA.out, List.length_take] at h1
          omega
        have hterm := fun w' (hb : Below w.heap.size w w') => implReadTerm_any t[k] w' (ht.below hb) (hv.below hb)
        generalize t[k] = ch at *
        have hS : Holds [(⟨g, 1, none⟩, .slice P4 a.vals.length c4)] wr.drew := by
          intro q hq
          simp only [List.mem_cons, List.not_mem_nil, or_false] at hq
          subst hq
          exact y1
        have HSb := Lib.hid (show ∀ q ∈ [((⟨g, 1, none⟩ : Addr), Value.slice P4 a.vals.length c4)], q.1.block < g + 1 by
          intro q hq
          simp only [List.mem_cons, List.not_mem_nil, or_false] at hq
          subst hq
          show g < g + 1; omega)
        have g0 := Keep.cell (h0 := hS) (a := ⟨g, 1, none⟩) (v := .slice P4 a.vals.length c4) (by simp)
        have HOV := Lib.hid hOV
        have hb1 : ((0 : Int) ≤ (k : Int) + 1) := by omega
        clear hOV
        go_wp2
        refine wp_region_planXL (PX := fun ps ds w' => ps = NoFmt ∧ ds = [] ∧ Below w.heap.size w w' ∧ atomIs t.data.toList = false) (C := fun w' => ∃ u : Keep _ wr.drew hS, w' = u.now) (.still 0 (.still 1 (.still 2 (.still 3 (.still 4 (.still 5 (.still 6 (.move true 7 (.move true 8 (.move true 9 (.still 10 (.move false 11 .done .none)) .none) .none) .none)))))))) (by kernel_rfl) (by kernel_rfl) (by kernel_rfl) (by rintro ps a w' ⟨rfl, hd, hb, hf⟩; exact ⟨hd, hb, .inr ⟨hf, rfl⟩⟩) (fun _ => ⟨⟨_, hS⟩, rfl⟩) ?_
        iterate 7
          refine planX_look _ rfl rfl ?_
          go_big_quiet_step (fail)
          refine wpQuiet_nil ?_
        refine planX_call _ 236 _ _ _ _ _ rfl _ Tryz.func236 (by kernel_rfl) (by kernel_rfl) ?_ True.intro
        have hWd : Below wr.heap.size wr wr.drew := (Below.refl _ _).drew
        refine (hterm _ (HWq.out.trans (hWd.mono HWq.out.size))).mono ?_
        rintro _ w2 ⟨hb2, (⟨hi, rfl⟩ | ⟨hi, rfl⟩)⟩
        · have hb2' : Below wr.heap.size wr w2 := hWd.trans hb2
          have hz2 := hb2'.size
          have hK2 := hS.below hb2 (fun q hq => Nat.lt_of_lt_of_le (HSb.out q hq) hgq)
          refine .inl ⟨_, rfl, (fun _ => ⟨⟨_, hK2⟩, rfl⟩), ?_⟩
          refine planX_put ?_ (by simp only [Act.put, List.setIfInBounds_toArray, List.set_cons_succ, List.set_cons_zero]; rfl)
          have hAl2 := (Below.refl (g + 1) w2).alloc (by omega) (.cells #[.int .i64 (termOf ch)] 3)
          refine planX_value (u := .slice (some ⟨w2.heap.size, 0, none⟩) 1 1) (w' := w2.alloc (.cells #[.int .i64 (termOf ch)] 3)) _ rfl rfl rfl (by simp [go_sem]) (fun _ => ⟨⟨_, hK2.below hAl2 HSb.out⟩, rfl⟩) ?_ True.intro
          refine planX_put ?_ (by simp only [Act.put, List.setIfInBounds_toArray, List.set_cons_succ, List.set_cons_zero]; rfl)
          have hO3 := (HOV.out.below hb2' (Nat.le_refl _)).below ((Below.refl w2.heap.size w2).alloc (Nat.le_refl _) (.cells #[.int .i64 (termOf ch)] 3)) (Nat.le_refl _)
          unfold OwnInts at hO3
          rw [← flat_int] at hO3
          have hr : SliceAt intCell (w2.alloc (.cells #[.int .i64 (termOf ch)] 3)) (w2.heap.size + 1) (.slice (some ⟨w2.heap.size, 0, none⟩) [termOf ch].length 1) [termOf ch] := by
            refine ⟨_, _, rfl, Nat.le_refl _, by simp [maxLen], fun _ => ⟨_, _, rfl, by omega, ?_⟩, fun h => by cases h⟩
            intro i u hu
            rw [Nat.zero_add, box_cell]
            simpa [intCell] using hu
          refine planX_app intCell 1 8 (r := [termOf ch]) (fun x _ u hu => by simp [intCell] at hu; subst hu; rfl) (fun _ => rfl) _ rfl rfl Tryz.underlying55 infoInt rfl (by decide) hO3 _ _ rfl rfl ⟨w2.heap.size, 0, none⟩ 1 1 rfl rfl hr (by simp; omega) (by simp; omega) (by simp; omega) ?_ True.intro
          intro v4 w4 hO4 hB4 _ _
          have hb4 := hAl2.trans hB4
          have hO5 : OwnInts (g + 1) v4 (a.vals ++ [termOf ch]) w4 := by
            have := hO4
            rw [flat_int] at this
            simpa [OwnInts] using this
          obtain ⟨P5, c5, rfl, -⟩ := hO5.at_
          have hl5 : (a.vals ++ [termOf ch]).length = a.vals.length + 1 := by simp
          rw [hl5] at hO5
          clear hl5
          have q0 := (hb4.cell (p := ⟨g, 0, none⟩) (Nat.lt_succ_self _)).trans ((hb2'.cell (p := ⟨g, 0, none⟩) (by show g < _; omega)).trans y0)
          have q1 := (hb4.cell (p := ⟨g, 1, none⟩) (Nat.lt_succ_self _)).trans ((hb2'.cell (p := ⟨g, 1, none⟩) (by show g < _; omega)).trans y1)
          have qz := fun o => (hb4.frozen (p := ⟨g, o, none⟩) (Nat.lt_succ_self _)).trans ((hb2'.frozen (p := ⟨g, o, none⟩) (by show g < _; omega)).trans (yz o))
          have HO5 := Lib.hid hO5
          have HB4 := Lib.hid ((hb2'.mono hgq).trans hb4)
          refine ⟨(fun _ => ⟨⟨_, hK2.below hb4 HSb.out⟩, rfl⟩), ?_⟩
          clear hO5 hb4 hO4 hB4 hr hO3 hAl2 hK2 y0 y1 yz hb2'
          refine planX_put ?_ (by simp only [Act.put, List.setIfInBounds_toArray, List.set_cons_succ, List.set_cons_zero]; rfl)
          refine planX_look _ rfl rfl ?_
          go_big_quiet_step (fail)
          refine wpQuiet_nil ?_
          refine planX_skip (w' := w4.setCell ⟨g, 1, none⟩ (.slice P5 (a.vals.length + 1) c5)) _ rfl rfl rfl (by simp [go_sem, q1, qz]) (fun e => by cases e) ?_ True.intro
          refine planX_put ?_ (by simp only [Act.put]; rfl)
          refine planX_done ?_
          have z0 : (w4.setCell ⟨g, 1, none⟩ (.slice P5 (a.vals.length + 1) c5)).cell? ⟨g, 0, none⟩ = some (.int .i64 a.rel) := by simp [go_sem, q0]
          have z1 : (w4.setCell ⟨g, 1, none⟩ (.slice P5 (a.vals.length + 1) c5)).cell? ⟨g, 1, none⟩ = some (.slice P5 (a.vals.length + 1) c5) := by simp [go_sem, q1]
          have zz : ∀ o, (w4.setCell ⟨g, 1, none⟩ (.slice P5 (a.vals.length + 1) c5)).frozen? ⟨g, o, none⟩ = false := fun o => by simp [qz]
          have Z := Lib.hid (And.intro z0 (And.intro z1 zz))
          clear z0 z1 zz q0 q1 qz
          have HTS2 := Lib.hid (show termsTo t.data.toList (k + 1) = true by rw [HTS.out, HT.out, hi]; rfl)
          go_wp2
          go_roundw
          case rel => exact ⟨k + 1, _, ⟨a.rel, a.vals ++ [termOf ch]⟩, by omega, hs1, by go_num, HTS2, Lib.hid HA2.out.symm, Z.out.1, Z.out.2.1, Z.out.2.2, HO5.out.chg ((Chg.refl (fun q => q = g) w4).setCell (p := ⟨g, 1, none⟩) rfl _) (fun q hq e => by have := (HO5.out.lt q hq).1; omega), Lib.hid ((HC.out.then_below (by have h1 := HC.out.size; exact HB4.out.mono (by rw [HWs.out]; exact Nat.le_refl _))).setCell (p := ⟨g, 1, none⟩) rfl _)⟩
          case measure => simp [intOf]; omega
        · exact .inr ⟨_, rfl, rfl, rfl, HWq.out.trans ((hWd.trans hb2).mono HWq.out.size), HST.out hi⟩
      · obtain rfl : k = t.size := by omega
        have HAe : Hid (a = readAtom l t.data.toList) := Lib.hid (by rw [HA.out, List.take_of_length_le (by simp)])
        have HTe : Hid (atomIs t.data.toList = true) := Lib.hid (by rw [atomIs_end _ (by rw [HLen.out]; exact hlk0), HLen.out]; exact HT.out)
        have k0 := (HC.out.cell (b := w.heap.size) (o := 0) (by rw [HWs.out]; omega) (by omega)).trans m0.out
        have k1 := (HC.out.cell (b := w.heap.size) (o := 1) (by rw [HWs.out]; omega) (by omega)).trans m1.out
        have kz := fun o => (HC.out.frozen (b := w.heap.size) (o := o) (by rw [HWs.out]; omega) (by omega)).trans (mz.out o)
        have HOV := Lib.hid hOV
        clear hOV HA HT
        go_wp2
        refine bodyPost_ret (v := .agg #[.int .i64 a.rel, .slice P4 a.vals.length c4]) (by simp [results, Tryz.results235, go_sem, k0, k1]) rfl ⟨?_, .inl ⟨HTe.out, .slice P4 a.vals.length c4, by rw [← HAe.out], ?_⟩⟩
        · exact (HWq.out.setCell (p := ⟨w.heap.size, 0, none⟩) (Nat.le_refl _) _).setCell (p := ⟨w.heap.size, 1, none⟩) (Nat.le_refl _) _
        · rw [← HAe.out]
          exact (HOV.out.chg (((Chg.refl (fun q => q = w.heap.size) wr).setCell (p := ⟨w.heap.size, 0, none⟩) rfl _).setCell (p := ⟨w.heap.size, 1, none⟩) rfl _) (fun q hq e => by have := (HOV.out.lt q hq).1; omega)).mono (by omega)

/-- the pieces between spaces, at most three -/
def GivesParts3 (s : ByteArray) (w : World) (e : Ending) (w' : World) : Prop := ∃ v L, e = .returned v ∧ dataOf L = implPcs s.data.toList ∧ StrsAt w' w'.heap.size v L ∧ Below w.heap.size w w'
theorem split3_any (s : ByteArray) (w : World) (hs : s.size ≤ 1048576) (hm : MaxL w) :
    Calls Tryz.prog 74 #[.string s, .string ⟨#[32]⟩, .int .i64 3] w (GivesParts3 s w) := by
  obtain ⟨m, hm⟩ := hm
  have h1 : ByteArray.size ⟨#[32]⟩ = 1 := rfl
  refine (Tryz.strings_SplitN s ⟨#[32]⟩ 3 m w (by omega) hm (by omega) (by omega) (by omega)).mono ?_
  rintro e w' ⟨rfl, rfl⟩
  have hlen := Lib.splitB_length_le ⟨#[32]⟩ 0 (min 3 (s.size + 1) - 1) s
  refine ⟨_, Lib.splitB ⟨#[32]⟩ 0 (min 3 (s.size + 1) - 1) s, rfl, ?_, ?_, (Below.refl _ _).alloc (Nat.le_refl _) _⟩
  · unfold implPcs
    rw [← splitK_cutN]
    have e := Lib.splitB_data ⟨#[32]⟩ 0 (min 3 (s.size + 1) - 1) s
    simpa [dataOf] using e
  · generalize Lib.splitB ⟨#[32]⟩ 0 (min 3 (s.size + 1) - 1) s = L at *
    refine ⟨_, _, rfl, by omega, by unfold maxLen; omega, fun _ => ⟨w.heap.size, 0, rfl, by simp, fun j u hu => ?_⟩, fun h => by cases h⟩
    rw [Nat.zero_add, box_cell]
    rw [flat_str] at hu
    have hj := (List.getElem?_eq_some_iff.1 hu).1
    unfold Lib.cellsOf
    rw [List.getElem?_toArray, List.getElem?_append_left hj]
    exact hu
theorem cutP_any (s : ByteArray) (c : UInt8) (w : World) (hs : s.size ≤ 1048576) (hm : MaxL w) :
    Calls Tryz.prog 86 #[.string s, .string ⟨#[c]⟩] w fun e w' => e = .returned (.tuple #[.string ⟨(Lib.cut s.data.toList [c]).1.toArray⟩, .string ⟨(Lib.cut s.data.toList [c]).2.1.toArray⟩, .bool (Lib.cut s.data.toList [c]).2.2]) ∧ Below w.heap.size w w' := by
  obtain ⟨m, hm⟩ := hm
  refine (Tryz.strings_Cut s ⟨#[c]⟩ m w (by omega) hm).mono ?_
  rintro e w' ⟨rfl, n, rfl⟩
  exact ⟨rfl, rfl, rfl, rfl, Nat.le_refl _, fun _ _ => rfl⟩

def GivesAtoms (l : List Rel) (s : ByteArray) (w : World) (e : Ending) (w' : World) : Prop := Below w.heap.size w w' ∧ ((∃ ts u Vs, implAtoms l s.data.toList = some ts ∧ ts.length ≤ 3 ∧ e = .returned u ∧ AtomSO 184 w.heap.size w'.heap.size u Vs ts w') ∨ (implAtoms l s.data.toList = none ∧ e = .panicked NoFmt))
set_option maxHeartbeats 3200000 in
set_option maxRecDepth 100000 in
theorem implReadAtoms_any (v : Value) (l : List Rel) (s : ByteArray) (w : World) (hl : RelsAt w w.heap.size v l) (hs : s.size ≤ 1048576) (ht : Tab w) (hv : ErrVars w) (hm : MaxL w) :
    Calls Tryz.prog 195 #[v, .string s] w (GivesAtoms l s w) := by
  have HLR := Lib.hid hl
  go_enter Tryz.func195, Tryz.ntmps195
  go_wp2_with fail
  refine (split3_any s _ hs hm).mono ?_
  rintro e w1 ⟨vP, L, rfl, hL, hP, hb1⟩
  have hz1 := hb1.size
  have hLl : L.length ≤ 3 := by
    have h1 := congrArg List.length hL
    unfold implPcs at h1
    rw [cutN_len, dataOf_len] at h1
    omega
  have hPl : (implPcs s.data.toList).length = L.length := by rw [← hL, dataOf_len]
  have hLt : ∀ (k : Nat) (h : k < L.length), L[k].size ≤ 1048576 := by
    intro k h
    have h1 := cutN_piece 32 (min 3 (s.data.toList.length + 1) - 1) s.data.toList (L[k].data.toList) (by
      show L[k].data.toList ∈ implPcs s.data.toList
      rw [← hL]
      exact List.mem_map.2 ⟨_, List.getElem_mem h, rfl⟩)
    simp at h1; omega
  have HPT := Lib.hid hP
  obtain ⟨A, c, rfl, hc1, hc2, -⟩ := hP
  unfold maxLen at hc2
  have HLd := Lib.hid hL
  have HLt := Lib.hid hLt
  have HPl := Lib.hid hPl
  have HB1 := Lib.hid hb1
  clear hL hLt hPl hl hb1
  go_wp2
  go_loopw [5, 11] (fun o i wr => ∃ (n : Nat) (Vs : List Value), n ≤ L.length ∧ i = .int .i64 n ∧ Hid (AtomSO 184 w1.heap.size wr.heap.size o Vs (((implPcs s.data.toList).take n).map (readAtom l)) wr) ∧ Hid (((implPcs s.data.toList).take n).all atomIs = true) ∧ Below w1.heap.size w1 wr) (fun _ i _ => L.length - (intOf i).toNat)
  case atStart => exact ⟨0, [], by omega, rfl, Lib.hid (AtomSO.nil0 _ _ _ _), Lib.hid rfl, Below.refl _ _⟩
  case round =>
    obtain ⟨n, Vs, hn, rfl, HO, HA, hW⟩ := hrel
    have hz := hW.size
    have hWw := HB1.out.trans (hW.mono hz1)
    by_cases hlt : n < L.length
    · have hnc : n < (implPcs s.data.toList).length := by rw [HPl.out]; exact hlt
      obtain ⟨b, off, rfl, hb, hc⟩ := StrsAt.elem (HPT.out.below hW (Nat.le_refl _)) n hlt
      have HK : Hid (L[n].data.toList = (implPcs s.data.toList)[n]) := Lib.hid (by simp [← HLd.out, dataOf])
      have hts := HLt.out n hlt
      have HN := Lib.hid (show ((implPcs s.data.toList).take (n + 1)).map (readAtom l) = ((implPcs s.data.toList).take n).map (readAtom l) ++ [readAtom l L[n].data.toList] by
        rw [List.take_succ_eq_append_getElem hnc, List.map_append, HK.out]; rfl)
      have HAn := Lib.hid (show atomIs L[n].data.toList = true → ((implPcs s.data.toList).take (n + 1)).all atomIs = true by
        intro h
        rw [List.take_succ_eq_append_getElem hnc, List.all_append, HA.out, ← HK.out]; simp [h])
      have HAx := Lib.hid (show atomIs L[n].data.toList = false → implAtoms l s.data.toList = none by
        intro h
        unfold implAtoms
        refine if_neg ?_
        intro h2
        have h3 := List.all_eq_true.1 h2 _ (List.getElem_mem hnc)
        rw [← HK.out, h] at h3; cases h3)
      have hRl : (((implPcs s.data.toList).take n).map (readAtom l)).length = n := by rw [List.length_map, List.length_take]; omega
      generalize hR : ((implPcs s.data.toList).take n).map (readAtom l) = R at *
      generalize L[n] = t at *
      have HRl := Lib.hid hRl
      clear HK hR hRl HA
      obtain ⟨oP, oc, rfl, -, -⟩ := (HO.out.at_ (Nat.le_refl _)).form
      have hra := implReadAtom_any v l t wr ((HLR.out.below hWw (Nat.le_refl _)).more hWw.size) hts (ht.below hWw) (hv.below hWw)
      go_wp2_with fail
      refine hra.mono ?_
      rintro e w2 ⟨hb2, (⟨hi, V, rfl, hV⟩ | ⟨hi, rfl⟩)⟩
      · obtain ⟨PV, cV, rfl, -⟩ := id hV.at_
        have hz2 := hb2.size
        have HV := Lib.hid (IntsO.of hV)
        have HO2 := Lib.hid (HO.out.below hb2 (Nat.le_refl _))
        have hln : R.length ≤ 3 := by rw [HRl.out]; omega
        have hap := apairs_len HO2.out.len
        have hbd1 : ((apairs R Vs).length + 1) * 32 ≤ 140737488355328 := by rw [hap]; omega
        have hbd2 : (apairs R Vs).length < 140737488355328 := by rw [hap]; omega
        have hbd3 : w1.heap.size ≤ w2.heap.size := Nat.le_trans hz hz2
        have hBW := Lib.hid (hW.trans (hb2.mono hz))
        clear hap hV hb2
        go_wp2_with (at_builtin; refine wp_own_app_one apairCells 2 32 apairCells_len Tryz.underlying35 infoAtm rfl (by decide) HO2.out.row rfl _ _ rfl rfl ((readAtom l t.data.toList).rel, .slice PV (readAtom l t.data.toList).vals.length cV) (fun u hu => by simp [apairCells] at hu; rcases hu with rfl | rfl <;> rfl) 1 rfl hbd1 hbd2 hbd3 ?_; intro v8 w8 hrow hB8 hg8)
        have hz8 := hg8.size
        have hFS := AtomSO.snoc (e := 184) (by decide) (x := readAtom l t.data.toList) (C' := w8.heap.size) HO2.out (by omega) hrow hg8 (row_inside hrow (Nat.le_refl _)) (HV.out.mono (by omega) hz8) (fun i hi q h1 h2 => by
          have h3 := (HV.out.1.lt q h2).1
          have h4 := (HO.out.el i (by have := HO.out.len; omega) hi).2 q h1
          omega)
        go_roundw
        case rel => exact ⟨n + 1, Vs ++ [.slice PV (readAtom l t.data.toList).vals.length cV], by omega, by go_num, Lib.hid (by rw [HN.out]; exact hFS), Lib.hid (HAn.out hi), hBW.out.trans hB8⟩
        case measure => simp [intOf]; omega
      · exact ⟨rfl, hWw.trans (hb2.mono hWw.size), .inr ⟨HAx.out hi, rfl⟩⟩
    · obtain rfl : n = L.length := by omega
      have HT := Lib.hid (show (implPcs s.data.toList).take L.length = implPcs s.data.toList from List.take_of_length_le (by rw [HPl.out]; exact Nat.le_refl _))
      rw [HT.out] at HO HA
      have HI := Lib.hid (show implAtoms l s.data.toList = some ((implPcs s.data.toList).map (readAtom l)) from if_pos HA.out)
      have hRl : ((implPcs s.data.toList).map (readAtom l)).length ≤ 3 := by rw [List.length_map, HPl.out]; exact hLl
      generalize (implPcs s.data.toList).map (readAtom l) = R at *
      obtain ⟨oP, oc, rfl, -, -⟩ := (HO.out.at_ (Nat.le_refl _)).form
      go_wp2
      go_ret
      exact ⟨hWw, .inl ⟨R, _, Vs, HI.out, hRl, rfl, HO.out.mono hz1 (Nat.le_refl _)⟩⟩

def DVal (X : DepX) (x : Dep) : Value := .agg #[X.1.1, X.2.1, .bool x.egd, .int .i64 x.left, .int .i64 x.right]
theorem cut_le1 (c : UInt8) (s : List UInt8) : (Lib.cut s [c]).1.length ≤ s.length := by
  by_cases hc : c ∈ s
  · obtain ⟨p, r, h1, rfl⟩ := split_at c s hc
    rw [cut_app c p r h1]
    simp
  · rw [cut_none c s hc]; exact Nat.le_refl _
theorem chg_mid {B : Nat} {w w' : World} (h : Chg (Mid B (B + 1)) w w') (o : Nat) (v : Value) : Chg (Mid B (B + 1)) w (w'.setCell ⟨B, o, none⟩ v) := h.setCell (p := ⟨B, o, none⟩) ⟨Nat.le_refl _, Nat.lt_succ_self _⟩ v
/-- what has been read, in memory of the call's own, or the panic -/
def GivesRaw (r : Option Dep) (w : World) (e : Ending) (w' : World) : Prop := Below w.heap.size w w' ∧ ((∃ x X, r = some x ∧ e = .returned (DVal X x) ∧ DepOwn w.heap.size w'.heap.size X x w') ∨ (r = none ∧ e = .panicked NoFmt))
set_option maxHeartbeats 3200000 in
set_option maxRecDepth 100000 in
theorem implReadEquality_any (v : Value) (l : List Rel) (s : ByteArray) (w : World) (hl : RelsAt w w.heap.size v l) (hs : s.size ≤ 1048576) (ht : Tab w) (hv : ErrVars w) (hm : MaxL w) :
    Calls Tryz.prog 196 #[v, .string s] w (GivesRaw (implEgd l (Lib.cut s.data.toList [61]).1 (Lib.cut s.data.toList [61]).2.1) w) := by
  have HL := Lib.hid hl
  obtain ⟨A, a0, rfl, -⟩ := hl
  obtain ⟨E, hEq⟩ : ∃ E, E = w.alloc (.cells #[.slice none 0 0, .slice none 0 0, .bool false, .int .i64 0, .int .i64 0] 37) := ⟨_, rfl⟩
  have hE : Below w.heap.size w E := by rw [hEq]; exact below_more (Below.refl _ _) _
  have HEz := Lib.hid (show E.heap.size = w.heap.size + 1 by rw [hEq]; simp)
  have HA := fun o => Lib.hid (show E.cell? ⟨w.heap.size, o, none⟩ = (#[.slice none 0 0, .slice none 0 0, .bool false, .int .i64 0, .int .i64 0] : Array Value)[o]? by rw [hEq]; rcases (show o = 0 ∨ o = 1 ∨ o = 2 ∨ o = 3 ∨ o = 4 ∨ 5 ≤ o by omega) with rfl | rfl | rfl | rfl | rfl | h <;> simp [go_sem])
  have HAz := Lib.hid (show ∀ o, E.frozen? ⟨w.heap.size, o, none⟩ = false by intro o; rw [hEq]; simp [go_sem])
  have hcut := cutP_any s 61 E hs (hm.below hE)
  have h3 : s.data.toList.length = s.size := by simp
  have hcl := cut_le1 61 s.data.toList
  generalize (Lib.cut s.data.toList [61]).1 = a at *
  generalize (Lib.cut s.data.toList [61]).2.1 = b at *
  generalize (Lib.cut s.data.toList [61]).2.2 = fd at *
  have hsa : ByteArray.size ⟨a.toArray⟩ ≤ 1048576 := by rw [size_mk]; omega
  clear h3 hcl
  rw [hEq] at hcut
  go_enter Tryz.func196, Tryz.ntmps196
  go_wp2_with fail
  refine hcut.mono ?_
  rw [← hEq]
  clear hEq hcut
  rintro e w2 ⟨rfl, hb2⟩
  have hz2 := hb2.size
  have HWw := Lib.hid (hE.trans (hb2.mono hE.size))
  have hg2 : w.heap.size < w2.heap.size := by have := HEz.out; omega
  have Z := fun o => (hb2.cell (p := ⟨w.heap.size, o, none⟩) (by show w.heap.size < _; rw [HEz.out]; omega)).trans (HA o).out
  have zz := fun o => (hb2.frozen (p := ⟨w.heap.size, o, none⟩) (by show w.heap.size < _; rw [HEz.out]; omega)).trans (HAz.out o)
  have z0 := Z 0
  have z1 := Z 1
  have z2 := Z 2
  have z3 := Z 3
  have z4 := Z 4
  simp at z0 z1 z2 z3 z4
  have HZ := Lib.hid (And.intro z0 (And.intro z1 (And.intro z2 (And.intro z3 (And.intro z4 zz)))))
  clear Z HA HAz zz z0 z1 z2 z3 z4 hb2 hz2
  by_cases hq : b.length = 2
  · obtain ⟨c, d, rfl⟩ := list_two b hq
    have hsq : ByteArray.size ⟨#[c, d]⟩ = 2 := rfl
    have hsq2 : (((2 : Nat) : Int) != 2) = false := rfl
    have e1 : (⟨#[c, d]⟩ : ByteArray).extract 0 1 = ⟨#[c]⟩ := rfl
    have e2 : (⟨#[c, d]⟩ : ByteArray).extract 1 2 = ⟨#[d]⟩ := rfl
    clear hq
    have hta := fun w' (hb : Below w.heap.size w w') => implReadAtoms_any (.slice A l.length a0) l ⟨a.toArray⟩ w' ((HL.out.below hb (Nat.le_refl _)).more hb.size) hsa (ht.below hb) (hv.below hb) (hm.below hb)
    have htc := fun w' (hb : Below w.heap.size w w') => implReadTerm_any c w' (ht.below hb) (hv.below hb)
    have htd := fun w' (hb : Below w.heap.size w w') => implReadTerm_any d w' (ht.below hb) (hv.below hb)
    have H0 := Lib.hid (show implAtoms l a = none → implEgd l a [c, d] = none by intro h; unfold implEgd; rw [h])
    have H1 := Lib.hid (show termIs c = false → implEgd l a [c, d] = none by intro h; unfold implEgd; cases implAtoms l a <;> simp [h])
    have H2 := Lib.hid (show termIs d = false → implEgd l a [c, d] = none by intro h; unfold implEgd; cases implAtoms l a <;> simp [h])
    have H3 := Lib.hid (show ∀ ts, implAtoms l a = some ts → termIs c = true → termIs d = true → implEgd l a [c, d] = some ⟨ts, [], true, termOf c, termOf d⟩ by intro ts h h1 h2; unfold implEgd; simp only [h]; exact if_pos ⟨h1, h2⟩)
    go_wp2
    refine wp_region_planXL (PX := fun ps ds w' => ps = NoFmt ∧ ds = [] ∧ Below w.heap.size w w' ∧ implEgd l a [c, d] = none) (C := fun _ => True) (.still 0 (.still 1 (.still 3 (.still 4 (.still 6 (.still 7 (.move true 2 (.move true 5 (.move true 8 (.still 9 (.move false 10 .done .none)) .none) .none) .none))))))) (by kernel_rfl) (by kernel_rfl) (by kernel_rfl) (by rintro ps a w' ⟨rfl, hd, hb, hf⟩; exact ⟨hd, hb, .inr ⟨hf, rfl⟩⟩) (fun _ => True.intro) ?_
    iterate 6
      refine planX_look _ rfl rfl ?_
      go_big_quiet_step (fail)
      refine wpQuiet_nil ?_
    refine planX_call _ 195 _ _ _ _ _ rfl _ Tryz.func195 (by kernel_rfl) (by kernel_rfl) ?_ True.intro
    have hWd : Below w.heap.size w w2.drew := HWw.out.drew
    refine (hta _ hWd).mono ?_
    rintro _ w3 ⟨hb3, (⟨ts, u, Vs, hi, hts, rfl, hO⟩ | ⟨hi, rfl⟩)⟩
    · obtain ⟨Y1, y1, rfl, -, -⟩ := (hO.at_ (Nat.le_refl _)).form
      have hb3' : Below w2.heap.size w2 w3 := (show Below w2.heap.size w2 w2.drew from (Below.refl _ _).drew).trans hb3
      have hz3 := hb3'.size
      have hW3 := HWw.out.trans (hb3'.mono HWw.out.size)
      have HO := Lib.hid (show AtomSO 184 w2.heap.size w3.heap.size (.slice Y1 ts.length y1) Vs ts w3 from hO)
      refine .inl ⟨_, rfl, fun _ => True.intro, ?_⟩
      clear hO
      refine planX_put ?_ (by simp only [Act.put, List.setIfInBounds_toArray, List.set_cons_succ, List.set_cons_zero]; rfl)
      refine planX_call _ 236 _ _ _ _ _ rfl _ Tryz.func236 (by kernel_rfl) (by kernel_rfl) ?_ True.intro
      refine (htc _ hW3).mono ?_
      rintro _ w4 ⟨hb4, (⟨hc, rfl⟩ | ⟨hc, rfl⟩)⟩
      · have hz4 := hb4.size
        have hb4' := hb3'.trans (hb4.mono hz3)
        have hW4 := hW3.trans (hb4.mono hW3.size)
        refine .inl ⟨_, rfl, fun _ => True.intro, ?_⟩
        refine planX_put ?_ (by simp only [Act.put, List.setIfInBounds_toArray, List.set_cons_succ, List.set_cons_zero]; rfl)
        refine planX_call _ 236 _ _ _ _ _ rfl _ Tryz.func236 (by kernel_rfl) (by kernel_rfl) ?_ True.intro
        refine (htd _ hW4).mono ?_
        rintro _ w5 ⟨hb5, (⟨hd, rfl⟩ | ⟨hd, rfl⟩)⟩
        · have hz5 := hb5.size
          have hb5' := hb4'.trans (hb5.mono (Nat.le_trans hz3 hz4))
          have hW5 := hW4.trans (hb5.mono hW4.size)
          refine .inl ⟨_, rfl, fun _ => True.intro, ?_⟩
          refine planX_put ?_ (by simp only [Act.put, List.setIfInBounds_toArray, List.set_cons_succ, List.set_cons_zero]; rfl)
          refine planX_look _ rfl rfl ?_
          go_big_quiet_step (fail)
          refine wpQuiet_nil ?_
          obtain ⟨q0, q1, q2, q3, q4, qz⟩ := HZ.out
          replace q0 := (hb5'.cell (p := ⟨w.heap.size, 0, none⟩) hg2).trans q0
          replace q1 := (hb5'.cell (p := ⟨w.heap.size, 1, none⟩) hg2).trans q1
          replace q2 := (hb5'.cell (p := ⟨w.heap.size, 2, none⟩) hg2).trans q2
          replace q3 := (hb5'.cell (p := ⟨w.heap.size, 3, none⟩) hg2).trans q3
          replace q4 := (hb5'.cell (p := ⟨w.heap.size, 4, none⟩) hg2).trans q4
          replace qz := fun o => (hb5'.frozen (p := ⟨w.heap.size, o, none⟩) hg2).trans (qz o)
          obtain ⟨W, hWe⟩ : ∃ W, W = (((((w5.setCell ⟨w.heap.size, 0, none⟩ (.slice Y1 ts.length y1)).setCell ⟨w.heap.size, 1, none⟩ (.slice none 0 0)).setCell ⟨w.heap.size, 2, none⟩ (.bool true)).setCell ⟨w.heap.size, 3, none⟩ (.int .i64 (termOf c))).setCell ⟨w.heap.size, 4, none⟩ (.int .i64 (termOf d))) := ⟨_, rfl⟩
          have hXl : DepOwn w2.heap.size w5.heap.size ((.slice Y1 ts.length y1, Vs), (.slice none 0 0, [])) ⟨ts, [], true, termOf c, termOf d⟩ w5 :=
            ⟨(((HO.out.below hb4 (Nat.le_refl _)).mono (Nat.le_refl _) hz4).below hb5 (Nat.le_refl _)).mono (Nat.le_refl _) hz5, AtomSO.nil0 _ _ _ _, fun q h1 h2 => no_foot q h2⟩
          refine planX_skip (w' := W) _ rfl rfl rfl (by rw [hWe]; simp [go_sem, q0, q1, q2, q3, q4, qz]) (fun e => by cases e) ?_ True.intro
          refine planX_put ?_ (by simp only [Act.put]; rfl)
          refine planX_done ?_
          have hchW : Chg (Mid w.heap.size (w.heap.size + 1)) w5 W := by rw [hWe]; exact chg_mid (chg_mid (chg_mid (chg_mid (chg_mid (Chg.refl _ _) _ _) _ _) _ _) _ _) _ _
          have hBW : Below w.heap.size w W := by rw [hWe]; exact (((((hW5.setCell (p := ⟨w.heap.size, 0, none⟩) (Nat.le_refl _) _).setCell (p := ⟨w.heap.size, 1, none⟩) (Nat.le_refl _) _).setCell (p := ⟨w.heap.size, 2, none⟩) (Nat.le_refl _) _).setCell (p := ⟨w.heap.size, 3, none⟩) (Nat.le_refl _) _).setCell (p := ⟨w.heap.size, 4, none⟩) (Nat.le_refl _) _)
          have hszW : W.heap.size = w5.heap.size := by rw [hWe]; simp [World.setCell]
          have k0 : W.cell? ⟨w.heap.size, 0, none⟩ = some (.slice Y1 ts.length y1) := by rw [hWe]; simp [go_sem, q0]
          have k1 : W.cell? ⟨w.heap.size, 1, none⟩ = some (.slice none 0 0) := by rw [hWe]; simp [go_sem, q1]
          have k2 : W.cell? ⟨w.heap.size, 2, none⟩ = some (.bool true) := by rw [hWe]; simp [go_sem, q2]
          have k3 : W.cell? ⟨w.heap.size, 3, none⟩ = some (.int .i64 (termOf c)) := by rw [hWe]; simp [go_sem, q3]
          have k4 : W.cell? ⟨w.heap.size, 4, none⟩ = some (.int .i64 (termOf d)) := by rw [hWe]; simp [go_sem, q4]
          clear hWe
          go_wp2
          refine bodyPost_ret (v := DVal ((.slice Y1 ts.length y1, Vs), (.slice none 0 0, [])) ⟨ts, [], true, termOf c, termOf d⟩) (by simp [results, Tryz.results196, go_sem, k0, k1, k2, k3, k4, DVal]) rfl ⟨hBW, .inl ⟨_, _, H3.out ts hi hc hd, rfl, ?_⟩⟩
          exact ((hXl.chg hchW (.inr (by omega))).mono (by omega) (Nat.le_of_eq hszW.symm))
        · exact .inr ⟨_, rfl, rfl, rfl, hW4.trans (hb5.mono hW4.size), H2.out hd⟩
      · exact .inr ⟨_, rfl, rfl, rfl, hW3.trans (hb4.mono hW3.size), H1.out hc⟩
    · exact .inr ⟨_, rfl, rfl, rfl, hWd.trans (hb3.mono hWd.size), H0.out hi⟩
  · have H0 := Lib.hid (show implEgd l a b = none by
      unfold implEgd
      split
      · exact absurd rfl hq
      · rfl)
    have hsq : ByteArray.size ⟨b.toArray⟩ = b.length := size_mk _
    have hne : (((b.length : Nat) : Int) != 2) = true := by unfold bne; rw [beq_eq_false_iff_ne.2 (by omega)]; rfl
    go_wp2
    exact ⟨rfl, HWw.out, .inr ⟨H0.out, rfl⟩⟩

set_option maxHeartbeats 3200000 in
set_option maxRecDepth 100000 in
theorem specAreValidDeps_any (v : Value) (l : List Rel) (u : Value) (xs : List Dep) (w : World) (hl : RelsAt w w.heap.size v l) (hln : l.length ≤ 1048576) (h : DependencyS_at w w.heap.size u xs) (hw : DependencyS_wf xs) :
    Calls Tryz.prog 17 #[v, u] w fun e w' => e = .returned (.bool (depsOk l xs)) ∧ Below w.heap.size w w' := by
  have HL := Lib.hid hl
  have HX := Lib.hid h
  obtain ⟨A, a0, rfl, hlc, hcm, -⟩ := hl
  obtain ⟨A', c, rfl, hc1, hc2⟩ := h.form
  unfold maxLen at hc2
  clear h
  go_enter Tryz.func17, Tryz.ntmps17
  go_wp2
  go_loopw [5] (fun i wr => ∃ j : Nat, j ≤ xs.length ∧ i = .int .i64 j ∧ Hid (AllTo (depOk l) xs j) ∧ Below w.heap.size w wr) (fun i _ => xs.length - (intOf i).toNat)
  case atStart => exact ⟨0, by omega, rfl, Lib.hid (AllTo.zero _ _), Below.refl _ _⟩
  case round =>
    obtain ⟨j, hj, rfl, HT, hW⟩ := hrel
    have hz := hW.size
    by_cases hlt : j < xs.length
    · obtain ⟨b, off, V, U, rfl, hb, c0, c1, c2, c3, c4, hV, hU⟩ := DependencyS_at.elem HX.out j hlt
      obtain ⟨PV, cV, rfl, -, -⟩ := hV.form
      obtain ⟨PU, cU, rfl, -, -⟩ := hU.form
      replace c0 := (hW.cell (p := ⟨b, off + j * 5, none⟩) hb).trans c0
      replace c1 := (hW.cell (p := ⟨b, off + j * 5 + 1, none⟩) hb).trans c1
      replace c2 := (hW.cell (p := ⟨b, off + j * 5 + 2, none⟩) hb).trans c2
      replace c3 := (hW.cell (p := ⟨b, off + j * 5 + 3, none⟩) hb).trans c3
      replace c4 := (hW.cell (p := ⟨b, off + j * 5 + 4, none⟩) hb).trans c4
      have hcon := fun (q : Bool) (hq : depOk l xs[j] = q) => specIsValidDependency_at (.slice A l.length a0) l (.agg #[.slice PV xs[j].body.length cV, .slice PU xs[j].head.length cU, .bool xs[j].egd, .int .i64 xs[j].left, .int .i64 xs[j].right]) xs[j] q hq wr ((HL.out.below hW (Nat.le_refl _)).more hz) hln ⟨_, _, rfl, (hV.below hW (Nat.le_refl _)).more hz, (hU.below hW (Nat.le_refl _)).more hz⟩ (hw j hlt)
      clear hV hU
      cases hv : depOk l xs[j] with
      | false =>
        have HV := Lib.hid (show depsOk l xs = false by unfold depsOk; rw [all_no hlt hv]; simp)
        replace hcon := hcon false hv
        clear hv
        go_wp2_with (go_at_call 83; refine hcon.mono ?_; rintro e w3 ⟨rfl, hb3⟩)
        go_ret
        exact ⟨ret_bool HV.out.symm, hW.trans (hb3.mono hz)⟩
      | true =>
        have HN := Lib.hid (HT.out.next hlt hv)
        replace hcon := hcon true hv
        clear hv
        go_wp2_with (go_at_call 83; refine hcon.mono ?_; rintro e w3 ⟨rfl, hb3⟩)
        go_roundw
        case rel => exact ⟨j + 1, by omega, by go_num, HN, hW.trans (hb3.mono hz)⟩
        case measure => simp [intOf]; omega
    · obtain rfl : j = xs.length := by omega
      have HA := Lib.hid (show depsOk l xs = (validRels l && decide (((xs.length : Nat) : Int) ≤ 5)) by
        unfold depsOk; rw [HT.out.full, Bool.and_true]
        congr 1
        exact decide_eq_decide.2 (by omega))
      cases hr : validRels l with
      | false =>
        have hcon := specAreValid_at2 l false hr (.slice A l.length a0) wr ((HL.out.below hW (Nat.le_refl _)).more hz)
        have HV := Lib.hid (HA.out.trans (by rw [hr]; rfl : _ = false))
        clear hr
        go_wp2_with (go_at_call 34; refine hcon.mono ?_; rintro e w3 ⟨rfl, hb3⟩)
        go_ret
        exact ⟨ret_bool HV.out.symm, hW.trans (hb3.mono hz)⟩
      | true =>
        have hcon := specAreValid_at2 l true hr (.slice A l.length a0) wr ((HL.out.below hW (Nat.le_refl _)).more hz)
        have HV := Lib.hid (HA.out.trans (by rw [hr]; rfl : _ = decide (((xs.length : Nat) : Int) ≤ 5)))
        clear hr
        go_wp2_with (go_at_call 34; refine hcon.mono ?_; rintro e w3 ⟨rfl, hb3⟩)
        go_ret
        exact ⟨ret_bool HV.out.symm, hW.trans (hb3.mono hz)⟩
theorem specAreValidDependencies_c (v : Value) (l : List Rel) (u : Value) (x : List Dep) (w : World) (h : RelationS_at w w.heap.size v l) (_ : RelationS_wf l) (hn : RelationS_sz l ≤ 1048576) (h' : DependencyS_at w w.heap.size u x) (hw : DependencyS_wf x) (_ : DependencyS_sz x ≤ 1048576) :
    Calls Tryz.prog 17 #[v, u] w fun e w' => e = .returned (.bool (depsOk l x)) ∧ Below w.heap.size w w' :=
  specAreValidDeps_any v l u x w h (by unfold RelationS_sz at hn; omega) h' hw

end Go.Proofs.YtmecdjincmkofaaGreatDoor
