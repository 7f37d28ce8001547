/-
  Walks and plain lemmas for the laws of this seat: what single Go functions return, for every argument.
-/
import Derived.Test.YtmecdjincmkofaaGreatDoorShelf
import Derived.Lib.SplitLaws
import Derived.Test.YtmecdjincmkofaaGreatDoorBase
import Derived.Test.YtmecdjincmkofaaGreatDoorFmtS
import Derived.Test.YtmecdjincmkofaaGreatDoorMem
import Derived.Test.YtmecdjincmkofaaGreatDoorNum
import Derived.Test.YtmecdjincmkofaaGreatDoorFmtV
import Derived.Test.YtmecdjincmkofaaGreatDoorCut
import Derived.Test.YtmecdjincmkofaaGreatDoorFmtF
import Derived.Test.YtmecdjincmkofaaGreatDoorRelsI
namespace Go.Proofs.YtmecdjincmkofaaGreatDoor
open Go.RowKit

/-- the pieces between commas, at most four, in a block of the call's own -/
def GivesCommas (s : ByteArray) (w : World) (e : Ending) (w' : World) : Prop := ∃ L cap, e = .returned (.slice (some ⟨w.heap.size, 0, none⟩) L.length cap) ∧ dataOf L = implPieces s.data.toList ∧ L.length ≤ cap ∧ cap ≤ 4 ∧ (∀ j (h : j < L.length), w'.cell? ⟨w.heap.size, j, none⟩ = some (.string L[j])) ∧ w.heap.size < w'.heap.size ∧ Below w.heap.size w w'
theorem splitC_any (s : ByteArray) (w : World) (hs : s.size ≤ 1048576) (hm : MaxL w) :
    Calls Tryz.prog 74 #[.string s, .string ⟨#[44]⟩, .int .i64 4] w (GivesCommas s w) := by
  obtain ⟨m, hm⟩ := hm
  have h1 : ByteArray.size ⟨#[44]⟩ = 1 := rfl
  refine (Tryz.strings_SplitN s ⟨#[44]⟩ 4 m w (by omega) hm (by omega) (by omega) (by omega)).mono ?_
  rintro e w' ⟨rfl, rfl⟩
  have hlen := Lib.splitB_length_le ⟨#[44]⟩ 0 (min 4 (s.size + 1) - 1) s
  refine ⟨Lib.splitB ⟨#[44]⟩ 0 (min 4 (s.size + 1) - 1) s, _, rfl, ?_, by omega, by omega, fun j hj => ?_, by simp, (Below.refl _ _).alloc (Nat.le_refl _) _⟩
  · unfold implPieces
    rw [← splitK_cutN]
    have e := Lib.splitB_data ⟨#[44]⟩ 0 (min 4 (s.size + 1) - 1) s
    simpa [dataOf] using e
  · rw [box_cell]
    unfold Lib.cellsOf
    rw [List.getElem?_toArray, List.getElem?_append_left (by simpa using hj)]
    simp [hj]
theorem cutC_any (s : ByteArray) (w : World) (hs : s.size ≤ 1048576) (hm : MaxL w) :
    Calls Tryz.prog 86 #[.string s, .string ⟨#[40]⟩] w fun e w' => e = .returned (.tuple #[.string ⟨(Lib.cut s.data.toList [40]).1.toArray⟩, .string ⟨(Lib.cut s.data.toList [40]).2.1.toArray⟩, .bool (Lib.cut s.data.toList [40]).2.2]) ∧ Below w.heap.size w w' := by
  obtain ⟨m, hm⟩ := hm
  refine (Tryz.strings_Cut s ⟨#[40]⟩ m w (by omega) hm).mono ?_
  rintro e w' ⟨rfl, n, rfl⟩
  exact ⟨rfl, rfl, rfl, rfl, Nat.le_refl _, fun _ _ => rfl⟩

/-- the pieces that strings.SplitN gives, at most seven -/
def GivesParts (s : ByteArray) (w : World) (e : Ending) (w' : World) : Prop := ∃ v L, e = .returned v ∧ dataOf L = cutN 32 (min 7 (s.size + 1) - 1) s.data.toList ∧ StrsAt w' w'.heap.size v L ∧ Below w.heap.size w w'
theorem splitN_any (s : ByteArray) (w : World) (hs : s.size ≤ 1048576) (hm : MaxL w) :
    Calls Tryz.prog 74 #[.string s, .string ⟨#[32]⟩, .int .i64 7] w (GivesParts s w) := by
  obtain ⟨m, hm⟩ := hm
  have h1 : ByteArray.size ⟨#[32]⟩ = 1 := rfl
  refine (Tryz.strings_SplitN s ⟨#[32]⟩ 7 m w (by omega) hm (by omega) (by omega) (by omega)).mono ?_
  rintro e w' ⟨rfl, rfl⟩
  have hlen := Lib.splitB_length_le ⟨#[32]⟩ 0 (min 7 (s.size + 1) - 1) s
  refine ⟨_, Lib.splitB ⟨#[32]⟩ 0 (min 7 (s.size + 1) - 1) s, rfl, ?_, ?_, (Below.refl _ _).alloc (Nat.le_refl _) _⟩
  · rw [← splitK_cutN]
    exact Lib.splitB_data ⟨#[32]⟩ 0 _ s
  · generalize Lib.splitB ⟨#[32]⟩ 0 (min 7 (s.size + 1) - 1) s = L at *
    refine ⟨_, _, rfl, by omega, by unfold maxLen; omega, fun _ => ⟨w.heap.size, 0, rfl, by simp, fun j u hu => ?_⟩, fun h => by cases h⟩
    rw [Nat.zero_add, box_cell]
    rw [flat_str] at hu
    have hj := (List.getElem?_eq_some_iff.1 hu).1
    unfold Lib.cellsOf
    rw [List.getElem?_toArray, List.getElem?_append_left hj]
    exact hu

set_option maxHeartbeats 800000 in
theorem implFormatValue_any (v : Int) (w : World) (h0 : -9223372036854775808 ≤ v) (h1 : v ≤ 9223372036854775807) (ht : Tab w) :
    Calls Tryz.prog 106 #[.int .i64 v] w fun e w' => e = .returned (.string ⟨(fmtV v).toArray⟩) ∧ Below w.heap.size w w' := by
  by_cases hv : -40 ≤ v ∧ v < 0
  · have hr : nullNum v = (-1 - v, true) := nullNum_yes v hv
    have hval : validV v = true := decide_eq_true (by omega)
    rw [fmtV_null v hv]
    have hj := strOne 110 _ _ (rfl : (⟨(Lib.itoa (-1 - v)).toArray⟩ : ByteArray) = _)
    obtain ⟨ha, hb⟩ := hv
    obtain ⟨u, hu⟩ := Int.eq_ofNat_of_zero_le (a := -1 - v) (by omega)
    have hsz : ByteArray.size ⟨(Lib.itoa (-1 - v)).toArray⟩ ≤ 2 := by
      rw [ByteArray.size, List.size_toArray, hu]; exact itoa_short u (by omega)
    clear hu
    have hs1 : ByteArray.size ⟨#[110]⟩ = 1 := rfl
    go_enter Tryz.func106, Tryz.ntmps106
    go_wp2_with (first | (go_at_call 119; refine (implIsValidValue_any _ _ h0 h1).mono ?_; rintro e w' ⟨rfl, rfl⟩) | (go_at_call 188; refine (implNullNumber_any _ _ h0 h1).mono ?_; rintro e w' ⟨rfl, rfl⟩) | (go_at_call 183; refine (implFormatInt_any _ _ (by omega) (by omega) ht).mono ?_; rintro e w1 ⟨rfl, hb1⟩))
    go_ret
    exact ⟨rfl, hb1⟩
  · have hr : nullNum v = (0, false) := nullNum_no v hv
    by_cases hc : 0 ≤ v ∧ v ≤ 9
    · rw [fmtV_const v hc]
      have hval : validV v = true := decide_eq_true (by omega)
      go_enter Tryz.func106, Tryz.ntmps106
      go_wp2_with (first | (go_at_call 119; refine (implIsValidValue_any _ _ h0 h1).mono ?_; rintro e w' ⟨rfl, rfl⟩) | (go_at_call 188; refine (implNullNumber_any _ _ h0 h1).mono ?_; rintro e w' ⟨rfl, rfl⟩) | (go_at_call 183; refine (implFormatInt_any _ _ (by omega) (by omega) ht).mono ?_; rintro e w1 ⟨rfl, hb1⟩))
      go_ret
      exact ⟨rfl, hb1⟩
    · rw [fmtV_no v (by omega)]
      have hval : validV v = false := decide_eq_false (by omega)
      go_enter Tryz.func106, Tryz.ntmps106
      go_wp2_with (first | (go_at_call 119; refine (implIsValidValue_any _ _ h0 h1).mono ?_; rintro e w' ⟨rfl, rfl⟩))
      go_ret
      exact ⟨rfl, Below.refl _ _⟩

theorem trim_le (l p : List UInt8) : (Lib.trimPrefix l p).length ≤ l.length := by unfold Lib.trimPrefix; split <;> simp
set_option maxHeartbeats 1600000 in
theorem implParseValue_any (s : ByteArray) (w : World) (hs : s.size ≤ 1048576) (ht : Tab w) (hv : ErrVars w) :
    Calls Tryz.prog 105 #[.string s] w fun e w' => e = .returned (.tuple #[.int .i64 (parseV s.data.toList).1, .bool (parseV s.data.toList).2]) ∧ Below w.heap.size w w' := by
  have hz : ByteArray.size ⟨(Lib.trimPrefix s.data.toList [110]).toArray⟩ ≤ 1048576 := by
    rw [ByteArray.size, List.size_toArray]; have := trim_le s.data.toList [110]; simp at this; omega
  have hbd := parseInt_bd (Lib.trimPrefix s.data.toList [110])
  have hP : Hid (parseV s.data.toList = if parseVOk s.data.toList then (candV s.data.toList, true) else (0, false)) := rfl
  have hO : Hid (parseVOk s.data.toList = ((parseInt (Lib.trimPrefix s.data.toList [110])).2 && (fmtV (candV s.data.toList) == s.data.toList))) := rfl
  have hC : Hid (candV s.data.toList = if Lib.hasPrefix s.data.toList [110] then -1 - (parseInt (Lib.trimPrefix s.data.toList [110])).1 else (parseInt (Lib.trimPrefix s.data.toList [110])).1) := rfl
  generalize parseV s.data.toList = P at *
  generalize parseVOk s.data.toList = O at *
  generalize candV s.data.toList = C at *
  have hex : ∀ (x : Int), fmtV x = s.data.toList → (fmtV x == s.toList) = true := by
    intro x h; rw [ByteArray.toList_eq, beq_iff_eq]; exact h
  have hex2 : ∀ (x : Int), ¬ fmtV x = s.data.toList → (fmtV x == s.toList) = false := by
    intro x h; rw [ByteArray.toList_eq, beq_eq_false_iff_ne]; exact h
  cases hn : Lib.hasPrefix s.data.toList [110]
  all_goals
    rw [hn] at hC
    simp only [Bool.false_eq_true, if_false, if_true] at hC
    cases hok : (parseInt (Lib.trimPrefix s.data.toList [110])).2
  all_goals
    rw [hok] at hO
  case false.false | true.false =>
    have hR := Lib.hid (show P = (0, false) by rw [hP.out, hO.out]; rfl)
    clear hex hex2 hP hO hC
    go_enter Tryz.func105, Tryz.ntmps105
    go_wp2_with (first | (go_at_call 181; refine (Tryz.strings_CutPrefix _ _ _).mono ?_; rintro e w1 ⟨rfl, rfl⟩) | (go_at_call 182; refine (implParseInt_any _ _ hz ht hv).mono ?_; rintro e w2 ⟨rfl, hb2⟩) | (go_at_call 145; refine (implNullValue_any _ _ (by omega) (by omega)).mono ?_; rintro e w3 ⟨rfl, rfl⟩))
    go_ret2
    exact ⟨ret_pair hR.out.symm, hb2⟩
  case false.true | true.true =>
    by_cases hI : fmtV C = s.data.toList
    · have hR := Lib.hid (show P = (C, true) by rw [hP.out, hO.out, hI]; simp)
      have hE := hex _ hI
      have hC' := hC.out
      subst hC'
      clear hex hex2 hP hO hC hI
      go_enter Tryz.func105, Tryz.ntmps105
      go_wp2_with (first | (go_at_call 181; refine (Tryz.strings_CutPrefix _ _ _).mono ?_; rintro e w1 ⟨rfl, rfl⟩) | (go_at_call 182; refine (implParseInt_any _ _ hz ht hv).mono ?_; rintro e w2 ⟨rfl, hb2⟩) | (go_at_call 145; refine (implNullValue_any _ _ (by omega) (by omega)).mono ?_; rintro e w3 ⟨rfl, rfl⟩) | (go_at_call 106; refine (implFormatValue_any _ _ (by omega) (by omega) (ht.below hb2)).mono ?_; rintro e w4 ⟨rfl, hb4⟩))
      go_ret2
      exact ⟨ret_pair hR.out.symm, hb2.trans (hb4.mono hb2.size)⟩
    · have hR := Lib.hid (show P = (0, false) by rw [hP.out, hO.out, if_neg]; simpa using hI)
      have hE := hex2 _ hI
      have hC' := hC.out
      subst hC'
      clear hex hex2 hP hO hC hI
      go_enter Tryz.func105, Tryz.ntmps105
      go_wp2_with (first | (go_at_call 181; refine (Tryz.strings_CutPrefix _ _ _).mono ?_; rintro e w1 ⟨rfl, rfl⟩) | (go_at_call 182; refine (implParseInt_any _ _ hz ht hv).mono ?_; rintro e w2 ⟨rfl, hb2⟩) | (go_at_call 145; refine (implNullValue_any _ _ (by omega) (by omega)).mono ?_; rintro e w3 ⟨rfl, rfl⟩) | (go_at_call 106; refine (implFormatValue_any _ _ (by omega) (by omega) (ht.below hb2)).mono ?_; rintro e w4 ⟨rfl, hb4⟩))
      go_ret2
      exact ⟨ret_pair hR.out.symm, hb2.trans (hb4.mono hb2.size)⟩

theorem trimPre_le (l p : List UInt8) : (Lib.trimPrefix l p).length ≤ l.length := by unfold Lib.trimPrefix; split <;> simp
/-- the relation that a piece of text stands for, or none, as the program hands it on -/
def tokV (o : Option Rel) : Value := match o with
  | some r => .tuple #[.agg #[.string r.name, .int .i64 r.arity, .bool r.source], .bool true]
  | none => .tuple #[.agg #[.string ⟨#[]⟩, .int .i64 0, .bool false], .bool false]
theorem implTok_nil (t : List UInt8) (h : Lib.trimPrefix t [43] = []) : implTok t = none := by unfold implTok; rw [h]
theorem implTok_cons (t : List UInt8) (n : UInt8) (r : List UInt8) (h : Lib.trimPrefix t [43] = n :: r) : implTok t = if (parseInt r).2 then some ⟨⟨#[n]⟩, (parseInt r).1, Lib.hasPrefix t [43]⟩ else none := by unfold implTok; rw [h]
theorem extract_head (u : ByteArray) (n : UInt8) (r : List UInt8) (h : u.data.toList = n :: r) : u.extract 0 1 = ⟨#[n]⟩ ∧ (u.extract 1 u.size).data.toList = r ∧ u.size = r.length + 1 := by
  have hs : u.size = r.length + 1 := by have : u.size = u.data.toList.length := by simp
                                        rw [this, h]; rfl
  refine ⟨bytes_ext ?_, ?_, hs⟩
  · rw [Lib.extract_data, h]; rfl
  · rw [Lib.extract_data, h, hs]; simp
set_option maxRecDepth 100000 in
set_option maxHeartbeats 3200000 in
theorem implParseRelation_any (t : ByteArray) (w : World) (hs : t.size ≤ 1048576) (ht : Tab w) (hv : ErrVars w) :
    Calls Tryz.prog 98 #[.string t] w fun e w' => e = .returned (tokV (implTok t.data.toList)) ∧ Below w.heap.size w w' := by
  have hcut := Tryz.strings_CutPrefix t ⟨#[43]⟩
  have hp : (⟨#[43]⟩ : ByteArray).data.toList = [43] := rfl
  rw [hp] at hcut
  have htl := trimPre_le t.data.toList [43]
  obtain ⟨u, hu⟩ : ∃ u : ByteArray, u = ⟨(Lib.trimPrefix t.data.toList [43]).toArray⟩ := ⟨_, rfl⟩
  have hud : u.data.toList = Lib.trimPrefix t.data.toList [43] := by rw [hu]
  rw [← hu] at hcut
  have HQ : ∃ q, q = Lib.hasPrefix t.data.toList [43] := ⟨_, rfl⟩
  obtain ⟨q, hq⟩ := HQ
  rw [← hq] at hcut
  cases hU : Lib.trimPrefix t.data.toList [43] with
  | nil =>
    rw [implTok_nil _ hU]
    rw [hU] at hud
    obtain rfl : u = ⟨#[]⟩ := bytes_ext hud
    clear hud hU htl hp hu hq
    go_enter Tryz.func98, Tryz.ntmps98
    go_wp2_with fail
    refine (hcut _).mono ?_
    rintro e w' ⟨rfl, rfl⟩
    go_wp2
    exact bodyPost_ret (v := .tuple #[.agg #[.string ⟨#[]⟩, .int .i64 0, .bool false], .bool false]) (by simp [results, Tryz.results98, go_sem]) rfl ⟨rfl, (Below.refl _ _).alloc (Nat.le_refl _) _⟩
  | cons n r =>
    have hI := implTok_cons _ n r hU
    obtain ⟨h1, h2, h3⟩ := extract_head u n r (by rw [hud, hU])
    rw [hU] at htl
    have hus : u.size ≤ 1048576 := by simp at htl; omega
    have hpi := fun w ht hv => implParseInt_any (u.extract 1 u.size) w (by simp; omega) ht hv
    rw [h2] at hpi
    have hpos : 0 < u.size := by omega
    have hune := pos_ne u hpos
    have hI' := Lib.hid (hI.trans (by rw [← hq]))
    clear hud hU htl hp hu h2 h3 hI hq
    cases hok : (parseInt r).2 with
    | false =>
      rw [hok] at hpi
      have HI := Lib.hid (show implTok t.data.toList = none by rw [hI'.out, hok]; rfl)
      clear hI' hok h1
      go_enter Tryz.func98, Tryz.ntmps98
      go_wp2_with fail
      refine (hcut _).mono ?_
      rintro e w' ⟨rfl, rfl⟩
      go_wp2_with fail
      refine (hpi _ (ht.below ((Below.refl _ _).alloc (Nat.le_refl _) _)) (hv.below ((Below.refl _ _).alloc (Nat.le_refl _) _))).mono ?_
      rintro e w2 ⟨rfl, hb⟩
      obtain ⟨hc, hf⟩ := bcell hb
      have d0 := (hc w.heap.size 0 (by simp)).trans (box_cell _ _ _ 0)
      have d1 := (hc w.heap.size 1 (by simp)).trans (box_cell _ _ _ 1)
      have d2 := (hc w.heap.size 2 (by simp)).trans (box_cell _ _ _ 2)
      have hB := ((Below.refl w.heap.size w).alloc (Nat.le_refl _) _).trans (hb.mono (by simp))
      go_wp2
      exact bodyPost_ret (v := .tuple #[.agg #[.string ⟨#[]⟩, .int .i64 0, .bool false], .bool false]) (by simp [results, Tryz.results98, go_sem, d0, d1, d2]) rfl ⟨by rw [HI.out]; rfl, ((hB.setCell (Nat.le_refl _) _).setCell (Nat.le_refl _) _).setCell (Nat.le_refl _) _⟩
    | true =>
      rw [hok] at hpi
      have HI := Lib.hid (show implTok t.data.toList = some ⟨⟨#[n]⟩, (parseInt r).1, q⟩ by rw [hI'.out, hok]; rfl)
      clear hI' hok
      go_enter Tryz.func98, Tryz.ntmps98
      go_wp2_with fail
      refine (hcut _).mono ?_
      rintro e w' ⟨rfl, rfl⟩
      go_wp2_with fail
      refine (hpi _ (ht.below ((Below.refl _ _).alloc (Nat.le_refl _) _)) (hv.below ((Below.refl _ _).alloc (Nat.le_refl _) _))).mono ?_
      rintro e w2 ⟨rfl, hb⟩
      obtain ⟨hc, hf⟩ := bcell hb
      have d0 := (hc w.heap.size 0 (by simp)).trans (box_cell _ _ _ 0)
      have d1 := (hc w.heap.size 1 (by simp)).trans (box_cell _ _ _ 1)
      have d2 := (hc w.heap.size 2 (by simp)).trans (box_cell _ _ _ 2)
      have hB := ((Below.refl w.heap.size w).alloc (Nat.le_refl _) _).trans (hb.mono (by simp))
      go_wp2
      exact bodyPost_ret (v := .tuple #[.agg #[.string ⟨#[n]⟩, .int .i64 (parseInt r).1, .bool q], .bool true]) (by simp [results, Tryz.results98, go_sem, d0, d1, d2]) rfl ⟨by rw [HI.out]; rfl, ((hB.setCell (Nat.le_refl _) _).setCell (Nat.le_refl _) _).setCell (Nat.le_refl _) _⟩

end Go.Proofs.YtmecdjincmkofaaGreatDoor
