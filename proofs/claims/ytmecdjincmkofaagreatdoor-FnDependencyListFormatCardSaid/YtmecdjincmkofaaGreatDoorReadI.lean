/-
  Walks and plain lemmas for the laws of this seat: what single Go functions return, for every argument.
-/
import Derived.Test.YtmecdjincmkofaaGreatDoorBase
import Derived.Test.YtmecdjincmkofaaGreatDoorFmtS
import Derived.Test.YtmecdjincmkofaaGreatDoorPlan
import Derived.Test.YtmecdjincmkofaaGreatDoorFmtDI
import Derived.Test.YtmecdjincmkofaaGreatDoorReadS
namespace Go.Proofs.YtmecdjincmkofaaGreatDoor
open Go.RowKit

/-- what the program panics with where a text has no format -/
def NoFmt : List PanicEntry := [{ v := .iface 9 (.string ⟨#[110, 111, 116, 32, 116, 104, 101, 32, 102, 111, 114, 109, 97, 116, 32, 111, 102, 32, 97, 32, 100, 101, 112, 101, 110, 100, 101, 110, 99, 121]⟩), recovered := false }]
def GivesTerm (c : UInt8) (w : World) (e : Ending) (w' : World) : Prop := Below w.heap.size w w' ∧ ((termIs c = true ∧ e = .returned (.int .i64 (termOf c))) ∨ (termIs c = false ∧ e = .panicked NoFmt))
theorem index_vars (c : UInt8) (k : Int) (h : Lib.indexByte [120, 121, 122, 117, 118] c = k) (w : World) : Calls Tryz.prog 216 #[.string ⟨#[120, 121, 122, 117, 118]⟩, .string ⟨#[c]⟩] w fun e w' => e = .returned (.int .i64 k) ∧ w' = w := by
  subst h; exact Tryz.strings_Index_one ⟨#[120, 121, 122, 117, 118]⟩ c w
theorem parse_at (c : UInt8) (q : Int × Bool) (h : parseInt [c] = q) (w : World) (ht : Tab w) (hv : ErrVars w) : Calls Tryz.prog 182 #[.string ⟨#[c]⟩] w fun e w' => e = .returned (.tuple #[.int .i64 q.1, .bool q.2]) ∧ Below w.heap.size w w' := by
  subst h; exact implParseInt_any ⟨#[c]⟩ w (by show 1 ≤ _; decide) ht hv
set_option maxHeartbeats 1600000 in
set_option maxRecDepth 100000 in
theorem implReadTerm_any (c : UInt8) (w : World) (ht : Tab w) (hv : ErrVars w) : Calls Tryz.prog 236 #[.string ⟨#[c]⟩] w (GivesTerm c w) := by
  rcases idx_vars c with ⟨h1, h2, h3⟩ | ⟨h1, h2⟩
  · have hidx := index_vars c _ h1
    have HT : Hid (termIs c = true) := Lib.hid (decide_eq_true h3)
    have hd : decide (0 ≤ termOf c) = true := decide_eq_true h2
    unfold GivesTerm
    generalize termOf c = t at *
    clear h1 h3
    go_enter Tryz.func236, Tryz.ntmps236
    go_wp2_with fail
    refine (hidx _).mono ?_
    rintro e w1 ⟨rfl, rfl⟩
    go_wp2
    go_ret
    exact ⟨Below.refl _ _, .inl ⟨HT.out, rfl⟩⟩
  · have hidx := index_vars c _ h1
    rcases h2 with h2 | h2
    · have hp := parse_at c _ (parse_digit c h2)
      have HT := Lib.hid (term_digit c h2)
      have hu : 0 ≤ ((c.toNat - 48 : Nat) : Int) ∧ ((c.toNat - 48 : Nat) : Int) ≤ 9 := by omega
      generalize ((c.toNat - 48 : Nat) : Int) = u at *
      clear h1 h2
      go_enter Tryz.func236, Tryz.ntmps236
      go_wp2_with fail
      refine (hidx _).mono ?_
      rintro e w1 ⟨rfl, rfl⟩
      go_wp2_with fail
      refine (hp _ ht hv).mono ?_
      rintro e w2 ⟨rfl, hb⟩
      go_wp2
      go_ret
      refine ⟨hb, .inl ⟨HT.out.1, ?_⟩⟩
      rw [← HT.out.2]
      rfl
    · have hp := parse_at c _ (parse_other c (term_five c h2).2)
      have HT := Lib.hid (term_five c h2).1
      clear h1 h2
      go_enter Tryz.func236, Tryz.ntmps236
      go_wp2_with fail
      refine (hidx _).mono ?_
      rintro e w1 ⟨rfl, rfl⟩
      go_wp2_with fail
      refine (hp _ ht hv).mono ?_
      rintro e w2 ⟨rfl, hb⟩
      go_wp2
      exact ⟨rfl, hb, .inr ⟨HT.out, rfl⟩⟩

def termsTo (s : List UInt8) (k : Nat) : Bool := ((s.drop 1).take (k - 1)).all termIs
theorem termsTo_one (s : List UInt8) : termsTo s 1 = true := by unfold termsTo; simp
theorem termsTo_succ (s : List UInt8) (k : Nat) (h1 : 1 ≤ k) (h : k < s.length) : termsTo s (k + 1) = (termsTo s k && termIs s[k]) := by
  cases s with
  | nil => simp at h
  | cons b r =>
    obtain ⟨j, rfl⟩ : ∃ j, k = j + 1 := ⟨k - 1, by omega⟩
    have hj : j < r.length := by simpa using h
    show (r.take (j + 1)).all termIs = ((r.take j).all termIs && termIs r[j])
    rw [List.take_succ_eq_append_getElem hj, List.all_append]
    simp
theorem atomIs_end (s : List UInt8) (h : 0 < s.length) : atomIs s = termsTo s s.length := by
  cases s with
  | nil => simp at h
  | cons b r =>
    show r.all termIs = (r.take r.length).all termIs
    rw [List.take_of_length_le (Nat.le_refl _)]
theorem atomIs_stop (s : List UInt8) (k : Nat) (h1 : 1 ≤ k) (h : k < s.length) (ht : termIs s[k] = false) : atomIs s = false := by
  cases s with
  | nil => rfl
  | cons b r =>
    obtain ⟨j, rfl⟩ : ∃ j, k = j + 1 := ⟨k - 1, by omega⟩
    have hj : j < r.length := by simpa using h
    show r.all termIs = false
    rw [List.all_eq_false]
    exact ⟨r[j], List.getElem_mem hj, by have e : termIs r[j] = false := ht; rw [e]; simp⟩
def GivesAtm (l : List Rel) (t : ByteArray) (w : World) (e : Ending) (w' : World) : Prop := Below w.heap.size w w' ∧ ((atomIs t.data.toList = true ∧ ∃ V, e = .returned (.agg #[.int .i64 (readAtom l t.data.toList).rel, V]) ∧ OwnInts w.heap.size V (readAtom l t.data.toList).vals w') ∨ (atomIs t.data.toList = false ∧ e = .panicked NoFmt))
def ReadInvI (l : List Rel) (t : ByteArray) (g : Nat) (W : World) (kv : Value) (wq : World) : Prop :=
  ∃ (k : Nat) (V : Value) (a : Atm), 1 ≤ k ∧ k ≤ t.size ∧ kv = .int .i64 k ∧ Hid (termsTo t.data.toList k = true) ∧ Hid (a = readAtom l (t.data.toList.take k)) ∧ wq.cell? ⟨g, 0, none⟩ = some (.int .i64 a.rel) ∧ wq.cell? ⟨g, 1, none⟩ = some V ∧ (∀ o, wq.frozen? ⟨g, o, none⟩ = false) ∧ OwnInts (g + 1) V a.vals wq ∧ Hid (Chg (fun q => q = g) W wq)
set_option maxHeartbeats 3200000 in
set_option maxRecDepth 100000 in
theorem implReadAtom_any (v : Value) (l : List Rel) (t : ByteArray) (w : World) (hl : RelsAt w w.heap.size v l) (hs : t.size ≤ 1048576) (ht : Tab w) (hv : ErrVars w) :
    Calls Tryz.prog 235 #[v, .string t] w (GivesAtm l t w) := by
  by_cases h0 : t.data.toList = []
  · obtain rfl : t = ⟨#[]⟩ := bytes_ext h0
    clear h0
    go_enter Tryz.func235, Tryz.ntmps235
    go_wp2
    exact ⟨rfl, (Below.refl _ _).alloc (Nat.le_refl _) _, .inr ⟨rfl, rfl⟩⟩
  · have hse : (t.toList == []) = false := by rw [ByteArray.toList_eq, beq_eq_false_iff_ne]; exact h0
    have hlen : t.data.toList.length = t.size := by simp
    have hlk0 : 0 < t.size := by rw [← hlen]; exact List.length_pos_iff.2 h0
    have HLen := Lib.hid hlen
    have HL := Lib.hid hl
    have e1 := extract_one t 0 hlk0
    have hE : Below w.heap.size w (w.alloc (.cells #[.int .i64 0, .slice none 0 0] 184)) := below_more (Below.refl _ _) _
    have hEz : (w.alloc (.cells #[.int .i64 0, .slice none 0 0] 184)).heap.size = w.heap.size + 1 := by simp
    have R0 := Lib.hid (show (w.alloc (.cells #[.int .i64 0, .slice none 0 0] 184)).cell? ⟨w.heap.size, 0, none⟩ = some (.int .i64 0) by simp [go_sem])
    have R1 := Lib.hid (show (w.alloc (.cells #[.int .i64 0, .slice none 0 0] 184)).cell? ⟨w.heap.size, 1, none⟩ = some (.slice none 0 0) by simp [go_sem])
    have RZ := Lib.hid (show ∀ o, (w.alloc (.cells #[.int .i64 0, .slice none 0 0] 184)).frozen? ⟨w.heap.size, o, none⟩ = false by intro o; simp [go_sem])
    have hidx := implRelationIndex_any v l ⟨#[t[0]'hlk0]⟩ (w.alloc (.cells #[.int .i64 0, .slice none 0 0] 184)) ((HL.out.below hE (Nat.le_refl _)).more hE.size)
    have hs1 : 1 ≤ t.size := hlk0
    have HA1 := Lib.hid (show readAtom l (t.data.toList.take 1) = ⟨relIdx ⟨#[t[0]'hlk0]⟩ l, []⟩ from readAtom_one l t.data.toList (by simpa using hlk0))
    obtain ⟨q0, hq0⟩ : ∃ q0, q0 = relIdx ⟨#[t[0]'hlk0]⟩ l := ⟨_, rfl⟩
    rw [← hq0] at hidx HA1
    generalize (⟨#[t[0]'hlk0]⟩ : ByteArray) = T0 at *
    clear hq0 h0 hl hlen
    go_enter Tryz.func235, Tryz.ntmps235
    go_wp2_with fail
    refine hidx.mono ?_
    rintro e w1 ⟨rfl, hb1⟩
    have hz1 := hb1.size
    rw [hEz] at hz1
    have hW1 := Lib.hid (hE.trans (hb1.mono hE.size))
    have r0 := Lib.hid ((hb1.cell (p := ⟨w.heap.size, 0, none⟩) (by show w.heap.size < _; omega)).trans R0.out)
    have r1 := Lib.hid ((hb1.cell (p := ⟨w.heap.size, 1, none⟩) (by show w.heap.size < _; omega)).trans R1.out)
    have rz := Lib.hid (fun o => (hb1.frozen (p := ⟨w.heap.size, o, none⟩) (by show w.heap.size < _; omega)).trans (RZ.out o))
    clear hidx R0 R1 RZ hb1 hEz hE e1 hs1
    obtain ⟨g, hg⟩ : ∃ g, g = w1.heap.size := ⟨_, rfl⟩
    obtain ⟨W, hWe⟩ : ∃ W, W = w1.alloc (.cells #[.int .i64 q0, .slice none 0 0] 184) := ⟨_, rfl⟩
    have y0 : W.cell? ⟨g, 0, none⟩ = some (.int .i64 q0) := by rw [hWe, hg]; simp [go_sem]
    have y1 : W.cell? ⟨g, 1, none⟩ = some (.slice none 0 0) := by rw [hWe, hg]; simp [go_sem]
    have yz : ∀ o, W.frozen? ⟨g, o, none⟩ = false := by intro o; rw [hWe, hg]; simp [go_sem]
    have hAl : Below g w1 W := by rw [hWe]; exact (Below.refl _ _).alloc (by omega) _
    have hWs : W.heap.size = g + 1 := by rw [hWe, hg]; simp
    have hgw : w.heap.size + 1 ≤ g := by omega
    have HWs := Lib.hid hWs
    have HW := Lib.hid (hW1.out.trans (hAl.mono (by omega)))
    have m0 := Lib.hid ((hAl.cell (p := ⟨w.heap.size, 0, none⟩) (by show w.heap.size < _; omega)).trans r0.out)
    have m1 := Lib.hid ((hAl.cell (p := ⟨w.heap.size, 1, none⟩) (by show w.heap.size < _; omega)).trans r1.out)
    have mz := Lib.hid (fun o => (hAl.frozen (p := ⟨w.heap.size, o, none⟩) (by show w.heap.size < _; omega)).trans (rz.out o))
    clear hAl r0 r1 rz hW1 hWs hz1
    go_wp2
    rw [← hg, ← hWe]
    clear hWe hg
    go_loopw [6] (fun k' wq => ReadInvI l t g W k' wq) (fun k' _ => t.size - (intOf k').toNat)
    case atStart => exact ⟨1, _, ⟨q0, []⟩, Nat.le_refl _, hlk0, rfl, Lib.hid (termsTo_one _), Lib.hid HA1.out.symm, y0, y1, yz, OwnInts.nil _ _, Lib.hid (Chg.refl _ _)⟩
    case round =>
      clear y0 y1 yz
      obtain ⟨k, V, a, hk1, hk, rfl, HT, HA, y0, y1, yz, hOV, HC⟩ := hrel
      obtain ⟨P4, c4, rfl, hl4, hm4, -⟩ := id hOV.at_
      unfold maxLen at hm4
      have hgq : g + 1 ≤ wr.heap.size := by have h1 := HC.out.size; rw [HWs.out] at h1; exact h1
      have HWq := Lib.hid (show Below w.heap.size w wr from HW.out.trans (HC.out.below (fun q hq => by omega) (by rw [HWs.out]; omega)))
      by_cases hlk : k < t.size
      · have e1 := extract_one t k hlk
        have hs1 : k + 1 ≤ t.size := hlk
        have HA2 := Lib.hid (readAtom_succ l t.data.toList k (by omega) (by simpa using hlk))
        have hkl : k < t.data.toList.length := by simpa using hlk
        have HT0 : Hid (t.data.toList[k]'hkl = t[k]) := Lib.hid rfl
        have HTS := Lib.hid (termsTo_succ t.data.toList k hk1 hkl)
        have HST := Lib.hid (atomIs_stop t.data.toList k hk1 hkl)
        rw [HT0.out, ← HA.out] at HA2
        rw [HT0.out] at HTS HST
        have hal : a.vals.length ≤ 1048576 := by
          have h1 := readAtom_len l (t.data.toList.take k)
          rw [← HA.out, List.length_take] at h1
          omega
        have hterm := fun w' (hb : Below w.heap.size w w') => implReadTerm_any t[k] w' (ht.below hb) (hv.below hb)
        generalize t[k] = ch at *
        have hS : Holds [(⟨g, 1, none⟩, .slice P4 a.vals.length c4)] wr.drew := by
          intro q hq
          simp only [List.mem_cons, List.not_mem_nil, or_false] at hq
          subst hq
          exact y1
        have HSb := Lib.hid (show ∀ q ∈ [((⟨g, 1, none⟩ : Addr), Value.slice P4 a.vals.length c4)], q.1.block < g + 1 by
          intro q hq
          simp only [List.mem_cons, List.not_mem_nil, or_false] at hq
          subst hq
          show g < g + 1; omega)
        have g0 := Keep.cell (h0 := hS) (a := ⟨g, 1, none⟩) (v := .slice P4 a.vals.length c4) (by simp)
        have HOV := Lib.hid hOV
        have hb1 : ((0 : Int) ≤ (k : Int) + 1) := by omega
        clear hOV
        go_wp2
        refine wp_region_planXL (PX := fun ps ds w' => ps = NoFmt ∧ ds = [] ∧ Below w.heap.size w w' ∧ atomIs t.data.toList = false) (C := fun w' => ∃ u : Keep _ wr.drew hS, w' = u.now) (.still 0 (.still 1 (.still 2 (.still 3 (.still 4 (.still 5 (.still 6 (.move true 7 (.move true 8 (.move true 9 (.still 10 (.move false 11 .done .none)) .none) .none) .none)))))))) (by kernel_rfl) (by kernel_rfl) (by kernel_rfl) (by rintro ps a w' ⟨rfl, hd, hb, hf⟩; exact ⟨hd, hb, .inr ⟨hf, rfl⟩⟩) (fun _ => ⟨⟨_, hS⟩, rfl⟩) ?_
        iterate 7
          refine planX_look _ rfl rfl ?_
          go_big_quiet_step (fail)
          refine wpQuiet_nil ?_
        refine planX_call _ 236 _ _ _ _ _ rfl _ Tryz.func236 (by kernel_rfl) (by kernel_rfl) ?_ True.intro
        have hWd : Below wr.heap.size wr wr.drew := (Below.refl _ _).drew
        refine (hterm _ (HWq.out.trans (hWd.mono HWq.out.size))).mono ?_
        rintro _ w2 ⟨hb2, (⟨hi, rfl⟩ | ⟨hi, rfl⟩)⟩
        · have hb2' : Below wr.heap.size wr w2 := hWd.trans hb2
          have hz2 := hb2'.size
          have hK2 := hS.below hb2 (fun q hq => Nat.lt_of_lt_of_le (HSb.out q hq) hgq)
          refine .inl ⟨_, rfl, (fun _ => ⟨⟨_, hK2⟩, rfl⟩), ?_⟩
          refine planX_put ?_ (by simp only [Act.put, List.setIfInBounds_toArray, List.set_cons_succ, List.set_cons_zero]; rfl)
          have hAl2 := (Below.refl (g + 1) w2).alloc (by omega) (.cells #[.int .i64 (termOf ch)] 3)
          refine planX_value (u := .slice (some ⟨w2.heap.size, 0, none⟩) 1 1) (w' := w2.alloc (.cells #[.int .i64 (termOf ch)] 3)) _ rfl rfl rfl (by simp [go_sem]) (fun _ => ⟨⟨_, hK2.below hAl2 HSb.out⟩, rfl⟩) ?_ True.intro
          refine planX_put ?_ (by simp only [Act.put, List.setIfInBounds_toArray, List.set_cons_succ, List.set_cons_zero]; rfl)
          have hO3 := (HOV.out.below hb2' (Nat.le_refl _)).below ((Below.refl w2.heap.size w2).alloc (Nat.le_refl _) (.cells #[.int .i64 (termOf ch)] 3)) (Nat.le_refl _)
          unfold OwnInts at hO3
          rw [← flat_int] at hO3
          have hr : SliceAt intCell (w2.alloc (.cells #[.int .i64 (termOf ch)] 3)) (w2.heap.size + 1) (.slice (some ⟨w2.heap.size, 0, none⟩) [termOf ch].length 1) [termOf ch] := by
            refine ⟨_, _, rfl, Nat.le_refl _, by simp [maxLen], fun _ => ⟨_, _, rfl, by omega, ?_⟩, fun h => by cases h⟩
            intro i u hu
            rw [Nat.zero_add, box_cell]
            simpa [intCell] using hu
          refine planX_app intCell 1 8 (r := [termOf ch]) (fun x _ u hu => by simp [intCell] at hu; subst hu; rfl) (fun _ => rfl) _ rfl rfl Tryz.underlying55 infoInt rfl (by decide) hO3 _ _ rfl rfl ⟨w2.heap.size, 0, none⟩ 1 1 rfl rfl hr (by simp; omega) (by simp; omega) (by simp; omega) ?_ True.intro
          intro v4 w4 hO4 hB4 _ _
          have hb4 := hAl2.trans hB4
          have hO5 : OwnInts (g + 1) v4 (a.vals ++ [termOf ch]) w4 := by
            have := hO4
            rw [flat_int] at this
            simpa [OwnInts] using this
          obtain ⟨P5, c5, rfl, -⟩ := hO5.at_
          have hl5 : (a.vals ++ [termOf ch]).length = a.vals.length + 1 := by simp
          rw [hl5] at hO5
          clear hl5
          have q0 := (hb4.cell (p := ⟨g, 0, none⟩) (Nat.lt_succ_self _)).trans ((hb2'.cell (p := ⟨g, 0, none⟩) (by show g < _; omega)).trans y0)
          have q1 := (hb4.cell (p := ⟨g, 1, none⟩) (Nat.lt_succ_self _)).trans ((hb2'.cell (p := ⟨g, 1, none⟩) (by show g < _; omega)).trans y1)
          have qz := fun o => (hb4.frozen (p := ⟨g, o, none⟩) (Nat.lt_succ_self _)).trans ((hb2'.frozen (p := ⟨g, o, none⟩) (by show g < _; omega)).trans (yz o))
          have HO5 := Lib.hid hO5
          have HB4 := Lib.hid ((hb2'.mono hgq).trans hb4)
          refine ⟨(fun _ => ⟨⟨_, hK2.below hb4 HSb.out⟩, rfl⟩), ?_⟩
          clear hO5 hb4 hO4 hB4 hr hO3 hAl2 hK2 y0 y1 yz hb2'
          refine planX_put ?_ (by simp only [Act.put, List.setIfInBounds_toArray, List.set_cons_succ, List.set_cons_zero]; rfl)
          refine planX_look _ rfl rfl ?_
          go_big_quiet_step (fail)
          refine wpQuiet_nil ?_
          refine planX_skip (w' := w4.setCell ⟨g, 1, none⟩ (.slice P5 (a.vals.length + 1) c5)) _ rfl rfl rfl (by simp [go_sem, q1, qz]) (fun e => by cases e) ?_ True.intro
          refine planX_put ?_ (by simp only [Act.put]; rfl)
          refine planX_done ?_
          have z0 : (w4.setCell ⟨g, 1, none⟩ (.slice P5 (a.vals.length + 1) c5)).cell? ⟨g, 0, none⟩ = some (.int .i64 a.rel) := by simp [go_sem, q0]
          have z1 : (w4.setCell ⟨g, 1, none⟩ (.slice P5 (a.vals.length + 1) c5)).cell? ⟨g, 1, none⟩ = some (.slice P5 (a.vals.length + 1) c5) := by simp [go_sem, q1]
          have zz : ∀ o, (w4.setCell ⟨g, 1, none⟩ (.slice P5 (a.vals.length + 1) c5)).frozen? ⟨g, o, none⟩ = false := fun o => by simp [qz]
          have Z := Lib.hid (And.intro z0 (And.intro z1 zz))
          clear z0 z1 zz q0 q1 qz
          have HTS2 := Lib.hid (show termsTo t.data.toList (k + 1) = true by rw [HTS.out, HT.out, hi]; rfl)
          go_wp2
          go_roundw
          case rel => exact ⟨k + 1, _, ⟨a.rel, a.vals ++ [termOf ch]⟩, by omega, hs1, by go_num, HTS2, Lib.hid HA2.out.symm, Z.out.1, Z.out.2.1, Z.out.2.2, HO5.out.chg ((Chg.refl (fun q => q = g) w4).setCell (p := ⟨g, 1, none⟩) rfl _) (fun q hq e => by have := (HO5.out.lt q hq).1; omega), Lib.hid ((HC.out.then_below (by have h1 := HC.out.size; exact HB4.out.mono (by rw [HWs.out]; exact Nat.le_refl _))).setCell (p := ⟨g, 1, none⟩) rfl _)⟩
          case measure => simp [intOf]; omega
        · exact .inr ⟨_, rfl, rfl, rfl, HWq.out.trans ((hWd.trans hb2).mono HWq.out.size), HST.out hi⟩
      · obtain rfl : k = t.size := by omega
        have HAe : Hid (a = readAtom l t.data.toList) := Lib.hid (by rw [HA.out, List.take_of_length_le (by simp)])
        have HTe : Hid (atomIs t.data.toList = true) := Lib.hid (by rw [atomIs_end _ (by rw [HLen.out]; exact hlk0), HLen.out]; exact HT.out)
        have k0 := (HC.out.cell (b := w.heap.size) (o := 0) (by rw [HWs.out]; omega) (by omega)).trans m0.out
        have k1 := (HC.out.cell (b := w.heap.size) (o := 1) (by rw [HWs.out]; omega) (by omega)).trans m1.out
        have kz := fun o => (HC.out.frozen (b := w.heap.size) (o := o) (by rw [HWs.out]; omega) (by omega)).trans (mz.out o)
        have HOV := Lib.hid hOV
        clear hOV HA HT
        go_wp2
        refine bodyPost_ret (v := .agg #[.int .i64 a.rel, .slice P4 a.vals.length c4]) (by simp [results, Tryz.results235, go_sem, k0, k1]) rfl ⟨?_, .inl ⟨HTe.out, .slice P4 a.vals.length c4, by rw [← HAe.out], ?_⟩⟩
        · exact (HWq.out.setCell (p := ⟨w.heap.size, 0, none⟩) (Nat.le_refl _) _).setCell (p := ⟨w.heap.size, 1, none⟩) (Nat.le_refl _) _
        · rw [← HAe.out]
          exact (HOV.out.chg (((Chg.refl (fun q => q = w.heap.size) wr).setCell (p := ⟨w.heap.size, 0, none⟩) rfl _).setCell (p := ⟨w.heap.size, 1, none⟩) rfl _) (fun q hq e => by have := (HOV.out.lt q hq).1; omega)).mono (by omega)

end Go.Proofs.YtmecdjincmkofaaGreatDoor
