/-
  Walks and plain lemmas for the laws of this seat: what single Go functions return, for every argument.
-/
import Derived.Test.YtmecdjincmkofaaGreatDoorShelf
import Derived.Lib.SplitLaws
import Derived.LoopN
import Derived.Test.YtmecdjincmkofaaGreatDoorBase
import Derived.Test.YtmecdjincmkofaaGreatDoorPlan
import Derived.Test.YtmecdjincmkofaaGreatDoorInts
import Derived.Test.YtmecdjincmkofaaGreatDoorRels
import Derived.Test.YtmecdjincmkofaaGreatDoorRelsC
import Derived.Test.YtmecdjincmkofaaGreatDoorFmtS
import Derived.Test.YtmecdjincmkofaaGreatDoorFmtF
import Derived.Test.YtmecdjincmkofaaGreatDoorCmpI
import Derived.Test.YtmecdjincmkofaaGreatDoorMInst
namespace Go.Proofs.YtmecdjincmkofaaGreatDoor
open Go.RowKit

/-- the pieces between commas, at most four, in a block of the call's own -/
def GivesCommas (s : ByteArray) (w : World) (e : Ending) (w' : World) : Prop := ∃ L cap, e = .returned (.slice (some ⟨w.heap.size, 0, none⟩) L.length cap) ∧ dataOf L = implPieces s.data.toList ∧ L.length ≤ cap ∧ cap ≤ 4 ∧ (∀ j (h : j < L.length), w'.cell? ⟨w.heap.size, j, none⟩ = some (.string L[j])) ∧ w.heap.size < w'.heap.size ∧ Below w.heap.size w w'
theorem splitC_any (s : ByteArray) (w : World) (hs : s.size ≤ 1048576) (hm : MaxL w) :
    Calls Tryz.prog 74 #[.string s, .string ⟨#[44]⟩, .int .i64 4] w (GivesCommas s w) := by
  obtain ⟨m, hm⟩ := hm
  have h1 : ByteArray.size ⟨#[44]⟩ = 1 := rfl
  refine (Tryz.strings_SplitN s ⟨#[44]⟩ 4 m w (by omega) hm (by omega) (by omega) (by omega)).mono ?_
  rintro e w' ⟨rfl, rfl⟩
  have hlen := Lib.splitB_length_le ⟨#[44]⟩ 0 (min 4 (s.size + 1) - 1) s
  refine ⟨Lib.splitB ⟨#[44]⟩ 0 (min 4 (s.size + 1) - 1) s, _, rfl, ?_, by omega, by omega, fun j hj => ?_, by simp, (Below.refl _ _).alloc (Nat.le_refl _) _⟩
  · unfold implPieces
    rw [← splitK_cutN]
    have e := Lib.splitB_data ⟨#[44]⟩ 0 (min 4 (s.size + 1) - 1) s
    simpa [dataOf] using e
  · rw [box_cell]
    unfold Lib.cellsOf
    rw [List.getElem?_toArray, List.getElem?_append_left (by simpa using hj)]
    simp [hj]
theorem cutC_any (s : ByteArray) (w : World) (hs : s.size ≤ 1048576) (hm : MaxL w) :
    Calls Tryz.prog 86 #[.string s, .string ⟨#[40]⟩] w fun e w' => e = .returned (.tuple #[.string ⟨(Lib.cut s.data.toList [40]).1.toArray⟩, .string ⟨(Lib.cut s.data.toList [40]).2.1.toArray⟩, .bool (Lib.cut s.data.toList [40]).2.2]) ∧ Below w.heap.size w w' := by
  obtain ⟨m, hm⟩ := hm
  refine (Tryz.strings_Cut s ⟨#[40]⟩ m w (by omega) hm).mono ?_
  rintro e w' ⟨rfl, n, rfl⟩
  exact ⟨rfl, rfl, rfl, rfl, Nat.le_refl _, fun _ _ => rfl⟩

/-- the pieces that strings.SplitN gives, at most seven -/
def GivesParts (s : ByteArray) (w : World) (e : Ending) (w' : World) : Prop := ∃ v L, e = .returned v ∧ dataOf L = cutN 32 (min 7 (s.size + 1) - 1) s.data.toList ∧ StrsAt w' w'.heap.size v L ∧ Below w.heap.size w w'
theorem splitN_any (s : ByteArray) (w : World) (hs : s.size ≤ 1048576) (hm : MaxL w) :
    Calls Tryz.prog 74 #[.string s, .string ⟨#[32]⟩, .int .i64 7] w (GivesParts s w) := by
  obtain ⟨m, hm⟩ := hm
  have h1 : ByteArray.size ⟨#[32]⟩ = 1 := rfl
  refine (Tryz.strings_SplitN s ⟨#[32]⟩ 7 m w (by omega) hm (by omega) (by omega) (by omega)).mono ?_
  rintro e w' ⟨rfl, rfl⟩
  have hlen := Lib.splitB_length_le ⟨#[32]⟩ 0 (min 7 (s.size + 1) - 1) s
  refine ⟨_, Lib.splitB ⟨#[32]⟩ 0 (min 7 (s.size + 1) - 1) s, rfl, ?_, ?_, (Below.refl _ _).alloc (Nat.le_refl _) _⟩
  · rw [← splitK_cutN]
    exact Lib.splitB_data ⟨#[32]⟩ 0 _ s
  · generalize Lib.splitB ⟨#[32]⟩ 0 (min 7 (s.size + 1) - 1) s = L at *
    refine ⟨_, _, rfl, by omega, by unfold maxLen; omega, fun _ => ⟨w.heap.size, 0, rfl, by simp, fun j u hu => ?_⟩, fun h => by cases h⟩
    rw [Nat.zero_add, box_cell]
    rw [flat_str] at hu
    have hj := (List.getElem?_eq_some_iff.1 hu).1
    unfold Lib.cellsOf
    rw [List.getElem?_toArray, List.getElem?_append_left hj]
    exact hu

set_option maxHeartbeats 800000 in
theorem implFormatValue_any (v : Int) (w : World) (h0 : -9223372036854775808 ≤ v) (h1 : v ≤ 9223372036854775807) (ht : Tab w) :
    Calls Tryz.prog 106 #[.int .i64 v] w fun e w' => e = .returned (.string ⟨(fmtV v).toArray⟩) ∧ Below w.heap.size w w' := by
  by_cases hv : -40 ≤ v ∧ v < 0
  · have hr : nullNum v = (-1 - v, true) := nullNum_yes v hv
    have hval : validV v = true := decide_eq_true (by omega)
    rw [fmtV_null v hv]
    have hj := strOne 110 _ _ (rfl : (⟨(Lib.itoa (-1 - v)).toArray⟩ : ByteArray) = _)
    obtain ⟨ha, hb⟩ := hv
    obtain ⟨u, hu⟩ := Int.eq_ofNat_of_zero_le (a := -1 - v) (by omega)
    have hsz : ByteArray.size ⟨(Lib.itoa (-1 - v)).toArray⟩ ≤ 2 := by
      rw [ByteArray.size, List.size_toArray, hu]; exact itoa_short u (by omega)
    clear hu
    have hs1 : ByteArray.size ⟨#[110]⟩ = 1 := rfl
    go_enter Tryz.func106, Tryz.ntmps106
    go_wp2_with (first | (go_at_call 119; refine (implIsValidValue_any _ _ h0 h1).mono ?_; rintro e w' ⟨rfl, rfl⟩) | (go_at_call 188; refine (implNullNumber_any _ _ h0 h1).mono ?_; rintro e w' ⟨rfl, rfl⟩) | (go_at_call 183; refine (implFormatInt_any _ _ (by omega) (by omega) ht).mono ?_; rintro e w1 ⟨rfl, hb1⟩))
    go_ret
    exact ⟨rfl, hb1⟩
  · have hr : nullNum v = (0, false) := nullNum_no v hv
    by_cases hc : 0 ≤ v ∧ v ≤ 9
    · rw [fmtV_const v hc]
      have hval : validV v = true := decide_eq_true (by omega)
      go_enter Tryz.func106, Tryz.ntmps106
      go_wp2_with (first | (go_at_call 119; refine (implIsValidValue_any _ _ h0 h1).mono ?_; rintro e w' ⟨rfl, rfl⟩) | (go_at_call 188; refine (implNullNumber_any _ _ h0 h1).mono ?_; rintro e w' ⟨rfl, rfl⟩) | (go_at_call 183; refine (implFormatInt_any _ _ (by omega) (by omega) ht).mono ?_; rintro e w1 ⟨rfl, hb1⟩))
      go_ret
      exact ⟨rfl, hb1⟩
    · rw [fmtV_no v (by omega)]
      have hval : validV v = false := decide_eq_false (by omega)
      go_enter Tryz.func106, Tryz.ntmps106
      go_wp2_with (first | (go_at_call 119; refine (implIsValidValue_any _ _ h0 h1).mono ?_; rintro e w' ⟨rfl, rfl⟩))
      go_ret
      exact ⟨rfl, Below.refl _ _⟩

theorem trim_le (l p : List UInt8) : (Lib.trimPrefix l p).length ≤ l.length := by unfold Lib.trimPrefix; split <;> simp
set_option maxHeartbeats 1600000 in
theorem implParseValue_any (s : ByteArray) (w : World) (hs : s.size ≤ 1048576) (ht : Tab w) (hv : ErrVars w) :
    Calls Tryz.prog 105 #[.string s] w fun e w' => e = .returned (.tuple #[.int .i64 (parseV s.data.toList).1, .bool (parseV s.data.toList).2]) ∧ Below w.heap.size w w' := by
  have hz : ByteArray.size ⟨(Lib.trimPrefix s.data.toList [110]).toArray⟩ ≤ 1048576 := by
    rw [ByteArray.size, List.size_toArray]; have := trim_le s.data.toList [110]; simp at this; omega
  have hbd := parseInt_bd (Lib.trimPrefix s.data.toList [110])
  have hP : Hid (parseV s.data.toList = if parseVOk s.data.toList then (candV s.data.toList, true) else (0, false)) := rfl
  have hO : Hid (parseVOk s.data.toList = ((parseInt (Lib.trimPrefix s.data.toList [110])).2 && (fmtV (candV s.data.toList) == s.data.toList))) := rfl
  have hC : Hid (candV s.data.toList = if Lib.hasPrefix s.data.toList [110] then -1 - (parseInt (Lib.trimPrefix s.data.toList [110])).1 else (parseInt (Lib.trimPrefix s.data.toList [110])).1) := rfl
  generalize parseV s.data.toList = P at *
  generalize parseVOk s.data.toList = O at *
  generalize candV s.data.toList = C at *
  have hex : ∀ (x : Int), fmtV x = s.data.toList → (fmtV x == s.toList) = true := by
    intro x h; rw [ByteArray.toList_eq, beq_iff_eq]; exact h
  have hex2 : ∀ (x : Int), ¬ fmtV x = s.data.toList → (fmtV x == s.toList) = false := by
    intro x h; rw [ByteArray.toList_eq, beq_eq_false_iff_ne]; exact h
  cases hn : Lib.hasPrefix s.data.toList [110]
  all_goals
    rw [hn] at hC
    simp only [Bool.false_eq_true, if_false, if_true] at hC
    cases hok : (parseInt (Lib.trimPrefix s.data.toList [110])).2
  all_goals
    rw [hok] at hO
  case false.false | true.false =>
    have hR := Lib.hid (show P = (0, false) by rw [hP.out, hO.out]; rfl)
    clear hex hex2 hP hO hC
    go_enter Tryz.func105, Tryz.ntmps105
    go_wp2_with (first | (go_at_call 181; refine (Tryz.strings_CutPrefix _ _ _).mono ?_; rintro e w1 ⟨rfl, rfl⟩) | (go_at_call 182; refine (implParseInt_any _ _ hz ht hv).mono ?_; rintro e w2 ⟨rfl, hb2⟩) | (go_at_call 145; refine (implNullValue_any _ _ (by omega) (by omega)).mono ?_; rintro e w3 ⟨rfl, rfl⟩))
    go_ret2
    exact ⟨ret_pair hR.out.symm, hb2⟩
  case false.true | true.true =>
    by_cases hI : fmtV C = s.data.toList
    · have hR := Lib.hid (show P = (C, true) by rw [hP.out, hO.out, hI]; simp)
      have hE := hex _ hI
      have hC' := hC.out
      subst hC'
      clear hex hex2 hP hO hC hI
      go_enter Tryz.func105, Tryz.ntmps105
      go_wp2_with (first | (go_at_call 181; refine (Tryz.strings_CutPrefix _ _ _).mono ?_; rintro e w1 ⟨rfl, rfl⟩) | (go_at_call 182; refine (implParseInt_any _ _ hz ht hv).mono ?_; rintro e w2 ⟨rfl, hb2⟩) | (go_at_call 145; refine (implNullValue_any _ _ (by omega) (by omega)).mono ?_; rintro e w3 ⟨rfl, rfl⟩) | (go_at_call 106; refine (implFormatValue_any _ _ (by omega) (by omega) (ht.below hb2)).mono ?_; rintro e w4 ⟨rfl, hb4⟩))
      go_ret2
      exact ⟨ret_pair hR.out.symm, hb2.trans (hb4.mono hb2.size)⟩
    · have hR := Lib.hid (show P = (0, false) by rw [hP.out, hO.out, if_neg]; simpa using hI)
      have hE := hex2 _ hI
      have hC' := hC.out
      subst hC'
      clear hex hex2 hP hO hC hI
      go_enter Tryz.func105, Tryz.ntmps105
      go_wp2_with (first | (go_at_call 181; refine (Tryz.strings_CutPrefix _ _ _).mono ?_; rintro e w1 ⟨rfl, rfl⟩) | (go_at_call 182; refine (implParseInt_any _ _ hz ht hv).mono ?_; rintro e w2 ⟨rfl, hb2⟩) | (go_at_call 145; refine (implNullValue_any _ _ (by omega) (by omega)).mono ?_; rintro e w3 ⟨rfl, rfl⟩) | (go_at_call 106; refine (implFormatValue_any _ _ (by omega) (by omega) (ht.below hb2)).mono ?_; rintro e w4 ⟨rfl, hb4⟩))
      go_ret2
      exact ⟨ret_pair hR.out.symm, hb2.trans (hb4.mono hb2.size)⟩

theorem trimPre_le (l p : List UInt8) : (Lib.trimPrefix l p).length ≤ l.length := by unfold Lib.trimPrefix; split <;> simp
/-- the relation that a piece of text stands for, or none, as the program hands it on -/
def tokV (o : Option Rel) : Value := match o with
  | some r => .tuple #[.agg #[.string r.name, .int .i64 r.arity, .bool r.source], .bool true]
  | none => .tuple #[.agg #[.string ⟨#[]⟩, .int .i64 0, .bool false], .bool false]
theorem implTok_nil (t : List UInt8) (h : Lib.trimPrefix t [43] = []) : implTok t = none := by unfold implTok; rw [h]
theorem implTok_cons (t : List UInt8) (n : UInt8) (r : List UInt8) (h : Lib.trimPrefix t [43] = n :: r) : implTok t = if (parseInt r).2 then some ⟨⟨#[n]⟩, (parseInt r).1, Lib.hasPrefix t [43]⟩ else none := by unfold implTok; rw [h]
theorem extract_head (u : ByteArray) (n : UInt8) (r : List UInt8) (h : u.data.toList = n :: r) : u.extract 0 1 = ⟨#[n]⟩ ∧ (u.extract 1 u.size).data.toList = r ∧ u.size = r.length + 1 := by
  have hs : u.size = r.length + 1 := by have : u.size = u.data.toList.length := by simp
                                        rw [this, h]; rfl
  refine ⟨bytes_ext ?_, ?_, hs⟩
  · rw [Lib.extract_data, h]; rfl
  · rw [Lib.extract_data, h, hs]; simp
set_option maxRecDepth 100000 in
set_option maxHeartbeats 3200000 in
theorem implParseRelation_any (t : ByteArray) (w : World) (hs : t.size ≤ 1048576) (ht : Tab w) (hv : ErrVars w) :
    Calls Tryz.prog 98 #[.string t] w fun e w' => e = .returned (tokV (implTok t.data.toList)) ∧ Below w.heap.size w w' := by
  have hcut := Tryz.strings_CutPrefix t ⟨#[43]⟩
  have hp : (⟨#[43]⟩ : ByteArray).data.toList = [43] := rfl
  rw [hp] at hcut
  have htl := trimPre_le t.data.toList [43]
  obtain ⟨u, hu⟩ : ∃ u : ByteArray, u = ⟨(Lib.trimPrefix t.data.toList [43]).toArray⟩ := ⟨_, rfl⟩
  have hud : u.data.toList = Lib.trimPrefix t.data.toList [43] := by rw [hu]
  rw [← hu] at hcut
  have HQ : ∃ q, q = Lib.hasPrefix t.data.toList [43] := ⟨_, rfl⟩
  obtain ⟨q, hq⟩ := HQ
  rw [← hq] at hcut
  cases hU : Lib.trimPrefix t.data.toList [43] with
  | nil =>
    rw [implTok_nil _ hU]
    rw [hU] at hud
    obtain rfl : u = ⟨#[]⟩ := bytes_ext hud
    clear hud hU htl hp hu hq
    go_enter Tryz.func98, Tryz.ntmps98
    go_wp2_with fail
    refine (hcut _).mono ?_
    rintro e w' ⟨rfl, rfl⟩
    go_wp2
    exact bodyPost_ret (v := .tuple #[.agg #[.string ⟨#[]⟩, .int .i64 0, .bool false], .bool false]) (by simp [results, Tryz.results98, go_sem]) rfl ⟨rfl, (Below.refl _ _).alloc (Nat.le_refl _) _⟩
  | cons n r =>
    have hI := implTok_cons _ n r hU
    obtain ⟨h1, h2, h3⟩ := extract_head u n r (by rw [hud, hU])
    rw [hU] at htl
    have hus : u.size ≤ 1048576 := by simp at htl; omega
    have hpi := fun w ht hv => implParseInt_any (u.extract 1 u.size) w (by simp; omega) ht hv
    rw [h2] at hpi
    have hpos : 0 < u.size := by omega
    have hune := pos_ne u hpos
    have hI' := Lib.hid (hI.trans (by rw [← hq]))
    clear hud hU htl hp hu h2 h3 hI hq
    cases hok : (parseInt r).2 with
    | false =>
      rw [hok] at hpi
      have HI := Lib.hid (show implTok t.data.toList = none by rw [hI'.out, hok]; rfl)
      clear hI' hok h1
      go_enter Tryz.func98, Tryz.ntmps98
      go_wp2_with fail
      refine (hcut _).mono ?_
      rintro e w' ⟨rfl, rfl⟩
      go_wp2_with fail
      refine (hpi _ (ht.below ((Below.refl _ _).alloc (Nat.le_refl _) _)) (hv.below ((Below.refl _ _).alloc (Nat.le_refl _) _))).mono ?_
      rintro e w2 ⟨rfl, hb⟩
      obtain ⟨hc, hf⟩ := bcell hb
      have d0 := (hc w.heap.size 0 (by simp)).trans (box_cell _ _ _ 0)
      have d1 := (hc w.heap.size 1 (by simp)).trans (box_cell _ _ _ 1)
      have d2 := (hc w.heap.size 2 (by simp)).trans (box_cell _ _ _ 2)
      have hB := ((Below.refl w.heap.size w).alloc (Nat.le_refl _) _).trans (hb.mono (by simp))
      go_wp2
      exact bodyPost_ret (v := .tuple #[.agg #[.string ⟨#[]⟩, .int .i64 0, .bool false], .bool false]) (by simp [results, Tryz.results98, go_sem, d0, d1, d2]) rfl ⟨by rw [HI.out]; rfl, ((hB.setCell (Nat.le_refl _) _).setCell (Nat.le_refl _) _).setCell (Nat.le_refl _) _⟩
    | true =>
      rw [hok] at hpi
      have HI := Lib.hid (show implTok t.data.toList = some ⟨⟨#[n]⟩, (parseInt r).1, q⟩ by rw [hI'.out, hok]; rfl)
      clear hI' hok
      go_enter Tryz.func98, Tryz.ntmps98
      go_wp2_with fail
      refine (hcut _).mono ?_
      rintro e w' ⟨rfl, rfl⟩
      go_wp2_with fail
      refine (hpi _ (ht.below ((Below.refl _ _).alloc (Nat.le_refl _) _)) (hv.below ((Below.refl _ _).alloc (Nat.le_refl _) _))).mono ?_
      rintro e w2 ⟨rfl, hb⟩
      obtain ⟨hc, hf⟩ := bcell hb
      have d0 := (hc w.heap.size 0 (by simp)).trans (box_cell _ _ _ 0)
      have d1 := (hc w.heap.size 1 (by simp)).trans (box_cell _ _ _ 1)
      have d2 := (hc w.heap.size 2 (by simp)).trans (box_cell _ _ _ 2)
      have hB := ((Below.refl w.heap.size w).alloc (Nat.le_refl _) _).trans (hb.mono (by simp))
      go_wp2
      exact bodyPost_ret (v := .tuple #[.agg #[.string ⟨#[n]⟩, .int .i64 (parseInt r).1, .bool q], .bool true]) (by simp [results, Tryz.results98, go_sem, d0, d1, d2]) rfl ⟨by rw [HI.out]; rfl, ((hB.setCell (Nat.le_refl _) _).setCell (Nat.le_refl _) _).setCell (Nat.le_refl _) _⟩

theorem compareInt_at (x y : Int) (r : Int) (h : (if x < y then -1 else if y < x then 1 else 0 : Int) = r) (w : World) : Calls Tryz.prog 115 #[.int .i64 x, .int .i64 y] w fun e w' => e = .returned (.int .i64 r) ∧ w' = w := by
  subst h
  have e1 : (x != x) = false := by simp
  have e2 : (y != y) = false := by simp
  by_cases h1 : x < y
  · rw [if_pos h1]
    have d1 : decide (x < y) = true := decide_eq_true h1
    clear h1
    go_enter Tryz.func115, Tryz.ntmps115
    go_wp2
    go_ret
    exact ⟨rfl, rfl⟩
  · rw [if_neg h1]
    have d1 : decide (x < y) = false := decide_eq_false h1
    by_cases h2 : y < x
    · rw [if_pos h2]
      have d2 : decide (y < x) = true := decide_eq_true h2
      clear h1 h2
      go_enter Tryz.func115, Tryz.ntmps115
      go_wp2
      go_ret
      exact ⟨rfl, rfl⟩
    · rw [if_neg h2]
      have d2 : decide (y < x) = false := decide_eq_false h2
      clear h1 h2
      go_enter Tryz.func115, Tryz.ntmps115
      go_wp2
      go_ret
      exact ⟨rfl, rfl⟩
set_option maxHeartbeats 1600000 in
theorem implInts_any (v u : Value) (a b : List Int) (w : World) (hl : IntsAt w w.heap.size v a) (hm : IntsAt w w.heap.size u b) :
    Calls Tryz.prog 116 #[v, u] w fun e w' => e = .returned (.int .i64 (cmpInts a b)) ∧ w = w' := by
  have HL := Lib.hid hl
  have HM := Lib.hid hm
  obtain ⟨A, c, rfl, hlc, hcm, -⟩ := hl
  obtain ⟨A', c', rfl, hlc', hcm', -⟩ := hm
  unfold maxLen at hcm hcm'
  go_enter Tryz.func116, Tryz.ntmps116
  go_wp2
  go_loopw [11] (fun i wr => ∃ k : Nat, k ≤ a.length ∧ k ≤ b.length ∧ i = .int .i64 k ∧ Hid (CmpTo a b k) ∧ w = wr) (fun i _ => a.length - (intOf i).toNat)
  case atStart => exact ⟨0, by omega, by omega, rfl, Lib.hid (CmpTo.zero a b), rfl⟩
  case round =>
    obtain ⟨k, hk, hk', rfl, HT, rfl⟩ := hrel
    by_cases hlt : k < a.length
    · obtain ⟨p, off, rfl, hb, c0⟩ := IntsAt.elem HL.out k hlt
      by_cases hlt' : k < b.length
      · obtain ⟨p', off', rfl, hb', d0⟩ := IntsAt.elem HM.out k hlt'
        by_cases h1 : a[k] < b[k]
        · have HV := Lib.hid (HT.out.less hlt hlt' h1)
          have hc := compareInt_at a[k] b[k] (-1) (by rw [if_pos h1]) w
          clear h1
          go_wp2_with (go_at_call 115; refine hc.mono ?_; rintro e w1 ⟨rfl, rfl⟩)
          go_ret
          exact ⟨ret_int HV.out.symm, rfl⟩
        · by_cases h2 : b[k] < a[k]
          · have HV := Lib.hid (HT.out.more hlt hlt' h2)
            have hc := compareInt_at a[k] b[k] 1 (by rw [if_neg h1, if_pos h2]) w
            clear h1 h2
            go_wp2_with (go_at_call 115; refine hc.mono ?_; rintro e w1 ⟨rfl, rfl⟩)
            go_ret
            exact ⟨ret_int HV.out.symm, rfl⟩
          · have HV := Lib.hid (HT.out.next hlt hlt' h1 h2)
            have hc := compareInt_at a[k] b[k] 0 (by rw [if_neg h1, if_neg h2]) w
            clear h1 h2
            go_wp2_with (go_at_call 115; refine hc.mono ?_; rintro e w1 ⟨rfl, rfl⟩)
            go_roundw
            case rel => exact ⟨k + 1, by omega, by omega, by go_num, HV, by trivial⟩
            case measure => simp [intOf]; omega
      · have HV := Lib.hid ((HT.out.done (by omega) hk hk').trans ((if_neg (by omega)).trans (if_pos (by omega))))
        go_wp2
        go_ret
        exact ⟨ret_int HV.out.symm, rfl⟩
    · have HV := Lib.hid (HT.out.done (by omega) hk hk')
      by_cases e1 : a.length < b.length
      · have HV' := Lib.hid (HV.out.trans (if_pos e1))
        go_wp2
        go_ret
        exact ⟨ret_int HV'.out.symm, rfl⟩
      · have HV' := Lib.hid (HV.out.trans ((if_neg e1).trans (if_neg (by omega))))
        go_wp2
        go_ret
        exact ⟨ret_int HV'.out.symm, rfl⟩
/-- the first of two numbers that is not zero -/
theorem orInt_any (x y r : Int) (h : (if x = 0 then y else x) = r) (g : Nat) (w : World) (h0 : w.cell? ⟨g, 0, none⟩ = some (.int .i64 x)) (h1 : w.cell? ⟨g, 1, none⟩ = some (.int .i64 y)) :
    Calls Tryz.prog 114 #[.slice (some ⟨g, 0, none⟩) 2 2] w fun e w' => e = .returned (.int .i64 r) ∧ w = w' := by
  subst h
  by_cases hx : x = 0
  · subst hx
    rw [if_pos rfl]
    by_cases hy : y = 0
    · subst hy
      have hn0 : ((0 : Int) != 0) = false := rfl
      go_enter Tryz.func114, Tryz.ntmps114
      go_wp2
      refine wp_loop_rounds 3 ?_
      rw [rounds_succ]
      go_wp2
      rw [rounds_succ]
      go_wp2
      rw [rounds_succ]
      go_wp2
      go_ret
      exact ⟨rfl, rfl⟩
    · have hyb : (y != 0) = true := bne_iff_ne.2 hy
      clear hy
      go_enter Tryz.func114, Tryz.ntmps114
      go_wp2
      refine wp_loop_rounds 2 ?_
      rw [rounds_succ]
      go_wp2
      rw [rounds_succ]
      go_wp2
      go_ret
      exact ⟨rfl, rfl⟩
  · have hxb : (x != 0) = true := bne_iff_ne.2 hx
    rw [if_neg hx]
    clear hx
    go_enter Tryz.func114, Tryz.ntmps114
    go_wp2
    refine wp_loop_rounds 1 ?_
    rw [rounds_succ]
    go_wp2
    go_ret
    exact ⟨rfl, rfl⟩
set_option maxHeartbeats 1600000 in
set_option maxRecDepth 100000 in
theorem implCompareFacts_eq (r s : Int) (v u : Value) (a b : List Int) (w : World) (hl : IntsAt w w.heap.size v a) (hm : IntsAt w w.heap.size u b) :
    Calls Tryz.prog 41 #[.agg #[.int .i64 r, v], .agg #[.int .i64 s, u]] w fun e w' => e = .returned (.int .i64 (cmpFact r a s b)) ∧ Below w.heap.size w w' ∧ ∃ o1 o2 o3, w' = ((w.alloc o1).alloc o2).drew.alloc o3 := by
  have hE : Below w.heap.size w ((w.alloc (.cells #[.int .i64 r, v] 57)).alloc (.cells #[.int .i64 s, u] 57)) := below_more (below_more (Below.refl _ _) _) _
  have hEz : w.heap.size + 2 = ((w.alloc (.cells #[.int .i64 r, v] 57)).alloc (.cells #[.int .i64 s, u] 57)).heap.size := by simp
  have hcl := (hl.below (hE.trans ((Below.refl _ _).drew : Below w.heap.size ((w.alloc (.cells #[.int .i64 r, v] 57)).alloc (.cells #[.int .i64 s, u] 57)) ((w.alloc (.cells #[.int .i64 r, v] 57)).alloc (.cells #[.int .i64 s, u] 57)).drew)) (Nat.le_refl _)).more (show w.heap.size ≤ ((w.alloc (.cells #[.int .i64 r, v] 57)).alloc (.cells #[.int .i64 s, u] 57)).drew.heap.size by show w.heap.size ≤ ((w.alloc (.cells #[.int .i64 r, v] 57)).alloc (.cells #[.int .i64 s, u] 57)).heap.size; omega)
  have hcm := (hm.below (hE.trans ((Below.refl _ _).drew : Below w.heap.size ((w.alloc (.cells #[.int .i64 r, v] 57)).alloc (.cells #[.int .i64 s, u] 57)) ((w.alloc (.cells #[.int .i64 r, v] 57)).alloc (.cells #[.int .i64 s, u] 57)).drew)) (Nat.le_refl _)).more (show w.heap.size ≤ ((w.alloc (.cells #[.int .i64 r, v] 57)).alloc (.cells #[.int .i64 s, u] 57)).drew.heap.size by show w.heap.size ≤ ((w.alloc (.cells #[.int .i64 r, v] 57)).alloc (.cells #[.int .i64 s, u] 57)).heap.size; omega)
  have G0 := Aft.cell (B := ((w.alloc (.cells #[.int .i64 r, v] 57)).alloc (.cells #[.int .i64 s, u] 57)).heap.size) (by omega) (show ((w.alloc (.cells #[.int .i64 r, v] 57)).alloc (.cells #[.int .i64 s, u] 57)).cell? ⟨w.heap.size, 0, none⟩ = some (.int .i64 r) by simp [go_sem])
  have G1 := Aft.cell (B := ((w.alloc (.cells #[.int .i64 r, v] 57)).alloc (.cells #[.int .i64 s, u] 57)).heap.size) (by omega) (show ((w.alloc (.cells #[.int .i64 r, v] 57)).alloc (.cells #[.int .i64 s, u] 57)).cell? ⟨w.heap.size, 1, none⟩ = some (v) by simp [go_sem])
  have G2 := Aft.cell (B := ((w.alloc (.cells #[.int .i64 r, v] 57)).alloc (.cells #[.int .i64 s, u] 57)).heap.size) (by omega) (show ((w.alloc (.cells #[.int .i64 r, v] 57)).alloc (.cells #[.int .i64 s, u] 57)).cell? ⟨w.heap.size + 1, 0, none⟩ = some (.int .i64 s) by simp [go_sem])
  have G3 := Aft.cell (B := ((w.alloc (.cells #[.int .i64 r, v] 57)).alloc (.cells #[.int .i64 s, u] 57)).heap.size) (by omega) (show ((w.alloc (.cells #[.int .i64 r, v] 57)).alloc (.cells #[.int .i64 s, u] 57)).cell? ⟨w.heap.size + 1, 1, none⟩ = some (u) by simp [go_sem])
  obtain ⟨X, hC⟩ : ∃ X : Int, (if r < s then -1 else if s < r then 1 else 0 : Int) = X := ⟨_, rfl⟩
  have HX : Hid ((if X = 0 then cmpInts a b else X) = cmpFact r a s b) := Lib.hid (by
    subst hC; unfold cmpFact
    by_cases h1 : r < s
    · simp [h1]
    · by_cases h2 : s < r <;> simp [h1, h2])
  have HC := Lib.hid hC
  have HB1 := Lib.hid (show Below ((w.alloc (.cells #[.int .i64 r, v] 57)).alloc (.cells #[.int .i64 s, u] 57)).heap.size ((w.alloc (.cells #[.int .i64 r, v] 57)).alloc (.cells #[.int .i64 s, u] 57)) (((w.alloc (.cells #[.int .i64 r, v] 57)).alloc (.cells #[.int .i64 s, u] 57)).drew.alloc (.cells #[.int .i64 X, .int .i64 (cmpInts a b)] 3)) from (Below.refl ((w.alloc (.cells #[.int .i64 r, v] 57)).alloc (.cells #[.int .i64 s, u] 57)).heap.size ((w.alloc (.cells #[.int .i64 r, v] 57)).alloc (.cells #[.int .i64 s, u] 57))).drew.alloc (show ((w.alloc (.cells #[.int .i64 r, v] 57)).alloc (.cells #[.int .i64 s, u] 57)).heap.size ≤ ((w.alloc (.cells #[.int .i64 r, v] 57)).alloc (.cells #[.int .i64 s, u] 57)).drew.heap.size from Nat.le_refl _) _)
  have HEz := Lib.hid hEz
  clear hC hl hm hEz
  go_enter Tryz.func41, Tryz.ntmps41
  go_wp2
  refine wp_region_planL (C := fun w' => ∃ u : Aft ((w.alloc (.cells #[.int .i64 r, v] 57)).alloc (.cells #[.int .i64 s, u] 57)).heap.size ((w.alloc (.cells #[.int .i64 r, v] 57)).alloc (.cells #[.int .i64 s, u] 57)), w' = u.now) (.still 0 (.still 1 (.still 2 (.still 3 (.still 5 (.still 6 (.still 7 (.still 8 (.move true 4 (.move true 9 (.move true 10 (.move true 11 (.still 12 .done) .none) .none) .none) .none))))))))) (by kernel_rfl) (by kernel_rfl) (by kernel_rfl) (fun _ => ⟨⟨_, (Below.refl _ _).drew⟩, rfl⟩) ?_
  iterate 8
    refine plan_look _ rfl rfl ?_
    go_big_quiet_step (fail)
    refine wpQuiet_nil ?_
  refine plan_call _ 115 _ _ _ _ _ rfl _ Tryz.func115 (by kernel_rfl) (by kernel_rfl) ?_ True.intro
  refine (compareInt_at r s X HC.out _).mono ?_
  rintro _ _ ⟨rfl, rfl⟩
  refine ⟨_, rfl, fun _ => ⟨⟨_, (Below.refl _ _).drew⟩, rfl⟩, ?_⟩
  refine plan_put ?_ (by simp only [Act.put, List.setIfInBounds_toArray, List.set_cons_succ, List.set_cons_zero]; rfl)
  refine plan_call _ 116 _ _ _ _ _ rfl _ Tryz.func116 (by kernel_rfl) (by kernel_rfl) ?_ True.intro
  refine (implInts_any v u a b _ hcl hcm).mono ?_
  rintro _ _ ⟨rfl, rfl⟩
  refine ⟨_, rfl, fun _ => ⟨⟨_, (Below.refl _ _).drew⟩, rfl⟩, ?_⟩
  refine plan_put ?_ (by simp only [Act.put, List.setIfInBounds_toArray, List.set_cons_succ, List.set_cons_zero]; rfl)
  refine plan_value (u := .slice (some ⟨((w.alloc (.cells #[.int .i64 r, v] 57)).alloc (.cells #[.int .i64 s, u] 57)).heap.size, 0, none⟩) 2 2) (w' := ((w.alloc (.cells #[.int .i64 r, v] 57)).alloc (.cells #[.int .i64 s, u] 57)).drew.alloc (.cells #[.int .i64 X, .int .i64 (cmpInts a b)] 3)) _ rfl rfl rfl (by simp [go_sem]) (fun _ => ⟨⟨_, HB1.out⟩, rfl⟩) ?_ True.intro
  refine plan_put ?_ (by simp only [Act.put, List.setIfInBounds_toArray, List.set_cons_succ, List.set_cons_zero]; rfl)
  refine plan_call _ 114 _ _ _ _ _ rfl _ Tryz.func114 (by kernel_rfl) (by kernel_rfl) ?_ True.intro
  refine (orInt_any X (cmpInts a b) (cmpFact r a s b) HX.out ((w.alloc (.cells #[.int .i64 r, v] 57)).alloc (.cells #[.int .i64 s, u] 57)).heap.size _ (box_cell ((w.alloc (.cells #[.int .i64 r, v] 57)).alloc (.cells #[.int .i64 s, u] 57)).drew #[.int .i64 X, .int .i64 (cmpInts a b)] _ 0) (box_cell ((w.alloc (.cells #[.int .i64 r, v] 57)).alloc (.cells #[.int .i64 s, u] 57)).drew #[.int .i64 X, .int .i64 (cmpInts a b)] _ 1)).mono ?_
  rintro _ _ ⟨rfl, rfl⟩
  refine ⟨_, rfl, fun _ => ⟨⟨_, HB1.out⟩, rfl⟩, ?_⟩
  refine plan_put ?_ (by simp only [Act.put, List.setIfInBounds_toArray, List.set_cons_succ, List.set_cons_zero]; rfl)
  refine plan_look _ rfl rfl ?_
  go_big_quiet_step (fail)
  refine wpQuiet_nil ?_
  refine plan_done ?_
  go_wp2
  go_ret
  exact ⟨rfl, hE.trans (HB1.out.mono hE.size), _, _, _, rfl⟩
theorem implCompareFacts_any (r s : Int) (v u : Value) (a b : List Int) (w : World) (hl : IntsAt w w.heap.size v a) (hm : IntsAt w w.heap.size u b) :
    Calls Tryz.prog 41 #[.agg #[.int .i64 r, v], .agg #[.int .i64 s, u]] w fun e w' => e = .returned (.int .i64 (cmpFact r a s b)) ∧ Below w.heap.size w w' :=
  (implCompareFacts_eq r s v u a b w hl hm).mono fun _ _ ⟨he, hb, _⟩ => ⟨he, hb⟩
theorem implCompareFacts_c (v : Value) (x : Fct) (u : Value) (y : Fct) (w : World) (h : Fact_at w w.heap.size v x) (_ : Fact_wf x) (_ : Fact_sz x ≤ 1048576) (h' : Fact_at w w.heap.size u y) (_ : Fact_wf y) (_ : Fact_sz y ≤ 1048576) :
    Calls Tryz.prog 41 #[v, u] w fun e w' => e = .returned (.int .i64 (cmpFact x.rel x.vals y.rel y.vals)) ∧ Below w.heap.size w w' := by
  obtain ⟨V, rfl, h⟩ := h
  obtain ⟨U, rfl, h'⟩ := h'
  exact implCompareFacts_any x.rel y.rel V U x.vals y.vals w h h'

theorem implIsValid_at (r : Rel) (b : Bool) (h : relOk r.name r.arity = b) (w : World) :
    Calls Tryz.prog 117 #[.agg #[.string r.name, .int .i64 r.arity, .bool r.source]] w fun e w' => e = .returned (.bool b) ∧ Below w.heap.size w w' := by
  subst h; exact implIsValidRelation_any _ _ _ w
set_option maxHeartbeats 3200000 in
theorem implAreValidRelations_any (v : Value) (l : List Rel) (w : World) (hl : RelsAt w w.heap.size v l) :
    Calls Tryz.prog 42 #[v] w fun e w' => e = .returned (.bool (validRels l)) ∧ Below w.heap.size w w' := by
  have HL := Lib.hid hl
  obtain ⟨A, c, rfl, hlc, hcm, -⟩ := hl
  unfold maxLen at hcm
  by_cases h6 : l.length ≤ 6
  · go_enter Tryz.func42, Tryz.ntmps42
    go_wp2
    go_loopw [10] (fun i wr => ∃ k : Nat, k ≤ l.length ∧ i = .int .i64 k ∧ Hid (okTo l k = true) ∧ Below w.heap.size w wr) (fun i _ => l.length - (intOf i).toNat)
    case atStart => exact ⟨0, by omega, rfl, Lib.hid rfl, Below.refl _ _⟩
    case round =>
      obtain ⟨k, hk, rfl, HT, hW⟩ := hrel
      have hz := hW.size
      by_cases hlt : k < l.length
      · obtain ⟨b, off, rfl, hb, c0, c1, c2⟩ := RelsAt.elem (HL.out.below hW (Nat.le_refl _)) k hlt
        cases hr : relOk l[k].name l[k].arity with
        | false =>
          have HV := Lib.hid (validRels_no l k hlt (okAt_bad l k hlt hr))
          have hcon := implIsValid_at l[k] false hr
          clear hr
          go_wp2
          refine wp_region_at (fun w0 => Below w.heap.size w w0 ∧ wr.heap.size < w0.heap.size ∧ w0.cell? ⟨wr.heap.size, 0, none⟩ = some (.string l[k].name) ∧ w0.cell? ⟨wr.heap.size, 1, none⟩ = some (.int .i64 l[k].arity) ∧ w0.cell? ⟨wr.heap.size, 2, none⟩ = some (.bool l[k].source)) ⟨hW.alloc hz _, by simp, box_cell _ _ _ 0, box_cell _ _ _ 1, box_cell _ _ _ 2⟩ (by kernel_rfl) (by kernel_rfl) ?_
          rintro w0 ⟨hW0, hlt0, e0, e1, e2⟩
          have hz0 := hW0.size
          replace e0 := Aft.cell hlt0 e0
          replace e1 := Aft.cell hlt0 e1
          replace e2 := Aft.cell hlt0 e2
          repeat (go_big_quiet_step (((go_at_call 117; exact calls_aft (Nat.le_refl _) (hcon _)))))
          refine wpQuiet_nil ?_
          refine aft_end ?_
          intro w1 hh
          replace hh := hW0.trans (hh.mono hz0)
          go_wp2
          go_ret
          exact ⟨ret_bool HV.out.symm, hh⟩
        | true =>
          have hcon := implIsValid_at l[k] true hr
          rcases Nat.eq_zero_or_pos k with h0 | h0
          · have HT' := Lib.hid (show okTo l (k + 1) = true by rw [okTo_succ, HT.out]; subst h0; rw [okAt_zero l hlt hr]; rfl)
            have hg1 : decide ((0 : Int) < (k : Int)) = false := decide_eq_false (by omega)
            have hg2 : decide (0 < k) = false := decide_eq_false (by omega)
            clear hr h0
            go_wp2
            refine wp_region_at (fun w0 => Below w.heap.size w w0 ∧ wr.heap.size < w0.heap.size ∧ w0.cell? ⟨wr.heap.size, 0, none⟩ = some (.string l[k].name) ∧ w0.cell? ⟨wr.heap.size, 1, none⟩ = some (.int .i64 l[k].arity) ∧ w0.cell? ⟨wr.heap.size, 2, none⟩ = some (.bool l[k].source)) ⟨hW.alloc hz _, by simp, box_cell _ _ _ 0, box_cell _ _ _ 1, box_cell _ _ _ 2⟩ (by kernel_rfl) (by kernel_rfl) ?_
            rintro w0 ⟨hW0, hlt0, e0, e1, e2⟩
            have hz0 := hW0.size
            replace e0 := Aft.cell hlt0 e0
            replace e1 := Aft.cell hlt0 e1
            replace e2 := Aft.cell hlt0 e2
            repeat (go_big_quiet_step (((go_at_call 117; exact calls_aft (Nat.le_refl _) (hcon _)))))
            refine wpQuiet_nil ?_
            refine aft_end ?_
            intro w1 hh
            replace hh := hW0.trans (hh.mono hz0)
            go_wp2
            go_roundw
            case rel => exact ⟨k + 1, by omega, by go_num, HT', hh⟩
            case measure => simp [intOf]; omega
          · obtain ⟨j, rfl⟩ : ∃ j, k = j + 1 := ⟨k - 1, by omega⟩
            have hj : j < l.length := by omega
            have HS := Lib.hid (show okTo l (j + 1 + 1) = Op.bytesLess l[j].name.toList l[j + 1].name.toList by rw [okTo_succ, HT.out, okAt_succ l j hlt hr]; rfl)
            have HS2 := Lib.hid (okAt_succ l j hlt hr)
            clear hr
            cases hlss : Op.bytesLess l[j].name.toList l[j + 1].name.toList with
            | true =>
              have HT' := Lib.hid (HS.out.trans hlss)
              go_wp2
              refine wp_region_at (fun w0 => Below w.heap.size w w0 ∧ wr.heap.size < w0.heap.size ∧ w0.cell? ⟨wr.heap.size, 0, none⟩ = some (.string l[j + 1].name) ∧ w0.cell? ⟨wr.heap.size, 1, none⟩ = some (.int .i64 l[j + 1].arity) ∧ w0.cell? ⟨wr.heap.size, 2, none⟩ = some (.bool l[j + 1].source)) ⟨hW.alloc hz _, by simp, box_cell _ _ _ 0, box_cell _ _ _ 1, box_cell _ _ _ 2⟩ (by kernel_rfl) (by kernel_rfl) ?_
              rintro w0 ⟨hW0, hlt0, e0, e1, e2⟩
              have hz0 := hW0.size
              replace e0 := Aft.cell hlt0 e0
              replace e1 := Aft.cell hlt0 e1
              replace e2 := Aft.cell hlt0 e2
              obtain ⟨b', off', hA, hb', d0, -, -⟩ := RelsAt.elem (HL.out.below hW0 (Nat.le_refl _)) j hj
              obtain ⟨rfl, rfl⟩ : b = b' ∧ off = off' := by simpa using hA
              have D0 := Aft.cell (show b < w0.heap.size by omega) d0
              clear hA d0
              repeat (go_big_quiet_step (((go_at_call 117; exact calls_aft (Nat.le_refl _) (hcon _)))))
              refine wpQuiet_nil ?_
              refine aft_end ?_
              intro w1 hh
              replace hh := hW0.trans (hh.mono hz0)
              go_wp2
              go_roundw
              case rel => exact ⟨j + 1 + 1, by omega, by go_num, HT', hh⟩
              case measure => simp [intOf]; omega
            | false =>
              have HV := Lib.hid (validRels_no l (j + 1) hlt (HS2.out.trans hlss))
              go_wp2
              refine wp_region_at (fun w0 => Below w.heap.size w w0 ∧ wr.heap.size < w0.heap.size ∧ w0.cell? ⟨wr.heap.size, 0, none⟩ = some (.string l[j + 1].name) ∧ w0.cell? ⟨wr.heap.size, 1, none⟩ = some (.int .i64 l[j + 1].arity) ∧ w0.cell? ⟨wr.heap.size, 2, none⟩ = some (.bool l[j + 1].source)) ⟨hW.alloc hz _, by simp, box_cell _ _ _ 0, box_cell _ _ _ 1, box_cell _ _ _ 2⟩ (by kernel_rfl) (by kernel_rfl) ?_
              rintro w0 ⟨hW0, hlt0, e0, e1, e2⟩
              have hz0 := hW0.size
              replace e0 := Aft.cell hlt0 e0
              replace e1 := Aft.cell hlt0 e1
              replace e2 := Aft.cell hlt0 e2
              obtain ⟨b', off', hA, hb', d0, -, -⟩ := RelsAt.elem (HL.out.below hW0 (Nat.le_refl _)) j hj
              obtain ⟨rfl, rfl⟩ : b = b' ∧ off = off' := by simpa using hA
              have D0 := Aft.cell (show b < w0.heap.size by omega) d0
              clear hA d0
              repeat (go_big_quiet_step (((go_at_call 117; exact calls_aft (Nat.le_refl _) (hcon _)))))
              refine wpQuiet_nil ?_
              refine aft_end ?_
              intro w1 hh
              replace hh := hW0.trans (hh.mono hz0)
              go_wp2
              go_ret
              exact ⟨ret_bool HV.out.symm, hh⟩
      · obtain rfl : k = l.length := by omega
        have HV := Lib.hid ((validRels_yes l HT.out).trans (decide_eq_true h6))
        go_wp2
        go_ret
        exact ⟨ret_bool HV.out.symm, hW⟩
  · have HV := Lib.hid (validRels_long l h6)
    go_enter Tryz.func42, Tryz.ntmps42
    go_wp2
    go_ret
    exact ⟨ret_bool HV.out.symm, Below.refl _ _⟩

theorem implAreValid_at2 (l : List Rel) (b : Bool) (h : validRels l = b) (v : Value) (w : World) (hl : RelsAt w w.heap.size v l) :
    Calls Tryz.prog 42 #[v] w fun e w' => e = .returned (.bool b) ∧ Below w.heap.size w w' := by
  subst h; exact implAreValidRelations_any v l w hl
set_option maxHeartbeats 1600000 in
set_option maxRecDepth 100000 in
theorem implRelOf_any (v : Value) (l : List Rel) (r n : Int) (w : World) (hl : RelsAt w w.heap.size v l) :
    Calls Tryz.prog 118 #[v, .int .i64 r, .int .i64 n] w fun e w' => e = .returned (.bool (relOf l r n)) ∧ Below w.heap.size w w' := by
  have HL := Lib.hid hl
  obtain ⟨A, c, rfl, hlc, hcm, -⟩ := hl
  unfold maxLen at hcm
  have hcon := fun b h => implAreValid_at2 l b h (.slice A l.length c) w HL.out
  cases hr : validRels l with
  | false =>
    have HF := Lib.hid (relOf_rels (r := r) (n := n) hr)
    replace hcon := hcon false hr
    clear hr
    go_enter Tryz.func118, Tryz.ntmps118
    go_wp2_with (go_at_call 42; refine hcon.mono ?_; rintro e w1 ⟨rfl, hb1⟩)
    go_ret
    exact ⟨ret_bool HF.out.symm, hb1⟩
  | true =>
    have HR := Lib.hid hr
    replace hcon := hcon true hr
    clear hr
    by_cases hneg : 0 ≤ r
    · have hd1 : decide (0 ≤ r) = true := decide_eq_true hneg
      by_cases hlt : r < l.length
      · obtain ⟨k, rfl⟩ : ∃ k : Nat, r = (k : Int) := ⟨r.toNat, by omega⟩
        have hk : k < l.length := by omega
        have HF := Lib.hid (relOf_in (n := n) HR.out ⟨hneg, hlt⟩)
        have hd2 : decide (k < l.length) = true := decide_eq_true hk
        obtain ⟨b, off, rfl, hb, -, c1, -⟩ := RelsAt.elem HL.out k hk
        have ha : l[k].arity = arityAt l (k : Int) := by rw [arityAt_in (by omega)]; rfl
        have HE := Lib.hid (show (l[k].arity == n) = decide (n = arityAt l (k : Int)) by
          rw [ha]
          by_cases e : n = arityAt l (k : Int)
          · rw [decide_eq_true e, e]; exact beq_self_eq_true _
          · rw [decide_eq_false e]; exact beq_eq_false_iff_ne.2 (fun e1 => e e1.symm))
        have C1 := Lib.hid c1
        clear c1 ha
        generalize l[k].arity = q at *
        go_enter Tryz.func118, Tryz.ntmps118
        go_wp2_with fail
        refine hcon.mono ?_
        rintro e w1 ⟨rfl, hb1⟩
        have f2 := (hb1.cell (p := ⟨b, off + k * 3 + 1, none⟩) hb).trans C1.out
        go_wp2
        go_ret
        exact ⟨ret_bool (HE.out.trans HF.out.symm), hb1⟩
      · have HF := Lib.hid (relOf_idx (l := l) (r := r) (n := n) (fun h => hlt h.2))
        have hd2 : decide (r < (l.length : Int)) = false := decide_eq_false hlt
        clear hlt
        go_enter Tryz.func118, Tryz.ntmps118
        go_wp2_with (go_at_call 42; refine hcon.mono ?_; rintro e w1 ⟨rfl, hb1⟩)
        go_ret
        exact ⟨ret_bool HF.out.symm, hb1⟩
    · have hd1 : decide (0 ≤ r) = false := decide_eq_false hneg
      have HF := Lib.hid (relOf_idx (l := l) (r := r) (n := n) (fun h => hneg h.1))
      clear hneg
      go_enter Tryz.func118, Tryz.ntmps118
      go_wp2_with (go_at_call 42; refine hcon.mono ?_; rintro e w1 ⟨rfl, hb1⟩)
      go_ret
      exact ⟨ret_bool HF.out.symm, hb1⟩
theorem implRelOf_at (l : List Rel) (r n : Int) (q : Bool) (hq : relOf l r n = q) (v : Value) (w : World) (hl : RelsAt w w.heap.size v l) :
    Calls Tryz.prog 118 #[v, .int .i64 r, .int .i64 n] w fun e w' => e = .returned (.bool q) ∧ Below w.heap.size w w' := by
  subst hq; exact implRelOf_any v l r n w hl

set_option maxHeartbeats 3200000 in
set_option maxRecDepth 100000 in
theorem implIsValidFact_any (v : Value) (l : List Rel) (r : Int) (V : Value) (vs : List Int) (w : World) (hl : RelsAt w w.heap.size v l) (hV : IntsAt w w.heap.size V vs) (hw : IntsWf vs) :
    Calls Tryz.prog 43 #[v, .agg #[.int .i64 r, V]] w fun e w' => e = .returned (.bool (factOk l r vs)) ∧ Below w.heap.size w w' := by
  have HL := Lib.hid hl
  have HV := Lib.hid hV
  obtain ⟨A, c, rfl, hlc, hcm, -⟩ := hl
  obtain ⟨A', c', rfl, hlc', hcm', -⟩ := hV
  unfold maxLen at hcm hcm'
  have hE : Below w.heap.size w (w.alloc (.cells #[.int .i64 r, .slice A' vs.length c'] 57)) := (Below.refl _ _).alloc (Nat.le_refl _) _
  have hEz : w.heap.size < (w.alloc (.cells #[.int .i64 r, .slice A' vs.length c'] 57)).heap.size := by simp
  have K1 := Lib.hid (show (w.alloc (.cells #[.int .i64 r, .slice A' vs.length c'] 57)).cell? ⟨w.heap.size, 1, none⟩ = some (.slice A' vs.length c') by simp [go_sem])
  have hcon := fun q hq => implRelOf_at l r (vs.length : Nat) q hq (.slice A l.length c) (w.alloc (.cells #[.int .i64 r, .slice A' vs.length c'] 57)) ((HL.out.below hE (Nat.le_refl _)).more hE.size)
  cases hr : relOf l r (vs.length : Nat) with
  | false =>
    have HF := Lib.hid (show factOk l r vs = false by rw [factOk_relOf, hr]; rfl)
    replace hcon := hcon false hr
    clear hr
    go_enter Tryz.func43, Tryz.ntmps43
    go_wp2_with (go_at_call 118; refine hcon.mono ?_; rintro e w1 ⟨rfl, hb1⟩)
    go_ret
    exact ⟨ret_bool HF.out.symm, hE.trans (hb1.mono hE.size)⟩
  | true =>
    have HA := Lib.hid (show factOk l r vs = vs.all validV by rw [factOk_relOf, hr]; rfl)
    replace hcon := hcon true hr
    clear hr
    go_enter Tryz.func43, Tryz.ntmps43
    go_wp2_with fail
    refine hcon.mono ?_
    rintro e w1 ⟨rfl, hb1⟩
    have hz1 := hb1.size
    have f1 := (hb1.cell (p := ⟨w.heap.size, 1, none⟩) hEz).trans K1.out
    clear hcon
    go_wp2
    clear f1
    go_loopw [18] (fun i wr => ∃ j : Nat, j ≤ vs.length ∧ i = .int .i64 j ∧ Hid (ValsTo vs j) ∧ Below w1.heap.size w1 wr) (fun i _ => vs.length - (intOf i).toNat)
    case atStart => exact ⟨0, by omega, rfl, Lib.hid (ValsTo.zero vs), Below.refl _ _⟩
    case round =>
      obtain ⟨j, hj, rfl, HT, hW⟩ := hrel
      have hWW := hE.trans ((hb1.trans (hW.mono hz1)).mono hE.size)
      by_cases hlt : j < vs.length
      · obtain ⟨b', off', rfl, hb', d0⟩ := IntsAt.elem HV.out j hlt
        replace d0 := (hWW.cell (p := ⟨b', off' + j, none⟩) hb').trans d0
        cases hv : validV vs[j] with
        | false =>
          have hvc := implIsValidValue_at vs[j] false hv wr (hw j hlt).1 (hw j hlt).2
          have HF := Lib.hid (all_no (p := validV) hlt hv)
          clear hv
          go_wp2_with (go_at_call 119; refine hvc.mono ?_; rintro e w3 ⟨rfl, rfl⟩)
          go_ret
          exact ⟨ret_bool (HA.out.trans HF.out).symm, hWW⟩
        | true =>
          have hvc := implIsValidValue_at vs[j] true hv wr (hw j hlt).1 (hw j hlt).2
          have HN := Lib.hid (HT.out.next hlt hv)
          clear hv
          go_wp2_with (go_at_call 119; refine hvc.mono ?_; rintro e w3 ⟨rfl, rfl⟩)
          go_roundw
          case rel => exact ⟨j + 1, by omega, by go_num, HN, hW⟩
          case measure => simp [intOf]; omega
      · obtain rfl : j = vs.length := by omega
        have HF := Lib.hid (show vs.all validV = true by have := HT.out; unfold ValsTo at this; rwa [List.take_of_length_le (Nat.le_refl _)] at this)
        go_wp2
        go_ret
        exact ⟨ret_bool (HA.out.trans HF.out).symm, hWW⟩
theorem implIsValidFact_c (v : Value) (l : List Rel) (u : Value) (x : Fct) (w : World) (h : RelationS_at w w.heap.size v l) (_ : RelationS_wf l) (_ : RelationS_sz l ≤ 1048576) (h' : Fact_at w w.heap.size u x) (hw : Fact_wf x) (_ : Fact_sz x ≤ 1048576) :
    Calls Tryz.prog 43 #[v, u] w fun e w' => e = .returned (.bool (factOk l x.rel x.vals)) ∧ Below w.heap.size w w' := by
  obtain ⟨V, rfl, h'⟩ := h'
  exact implIsValidFact_any v l x.rel V x.vals w h h' hw.2

theorem implCompareFacts_at (a b : Fct) (q : Int) (hq : cmpF a b = q) (v u : Value) (w : World) (h : Fact_at w w.heap.size v a) (h' : Fact_at w w.heap.size u b) :
    Calls Tryz.prog 41 #[v, u] w fun e w' => e = .returned (.int .i64 q) ∧ Below w.heap.size w w' := by
  subst hq
  obtain ⟨V, rfl, h⟩ := h
  obtain ⟨U, rfl, h'⟩ := h'
  exact implCompareFacts_any _ _ _ _ _ _ w h h'

theorem atomOk_relOf (l : List Rel) (r : Int) (vs : List Int) : atomOk l r vs = (relOf l r (vs.length : Nat) && vs.all validT) := by unfold atomOk relOf; simp only [Bool.and_assoc]
set_option maxHeartbeats 3200000 in
set_option maxRecDepth 100000 in
theorem implIsValidAtom_any (v : Value) (l : List Rel) (r : Int) (V : Value) (vs : List Int) (w : World) (hl : RelsAt w w.heap.size v l) (hV : IntsAt w w.heap.size V vs) :
    Calls Tryz.prog 222 #[v, .agg #[.int .i64 r, V]] w fun e w' => e = .returned (.bool (atomOk l r vs)) ∧ Below w.heap.size w w' := by
  have HL := Lib.hid hl
  have HV := Lib.hid hV
  obtain ⟨A, c, rfl, hlc, hcm, -⟩ := hl
  obtain ⟨A', c', rfl, hlc', hcm', -⟩ := hV
  unfold maxLen at hcm hcm'
  have hE : Below w.heap.size w (w.alloc (.cells #[.int .i64 r, .slice A' vs.length c'] 184)) := (Below.refl _ _).alloc (Nat.le_refl _) _
  have hEz : w.heap.size < (w.alloc (.cells #[.int .i64 r, .slice A' vs.length c'] 184)).heap.size := by simp
  have K1 := Lib.hid (show (w.alloc (.cells #[.int .i64 r, .slice A' vs.length c'] 184)).cell? ⟨w.heap.size, 1, none⟩ = some (.slice A' vs.length c') by simp [go_sem])
  have hcon := fun q hq => implRelOf_at l r (vs.length : Nat) q hq (.slice A l.length c) (w.alloc (.cells #[.int .i64 r, .slice A' vs.length c'] 184)) ((HL.out.below hE (Nat.le_refl _)).more hE.size)
  cases hr : relOf l r (vs.length : Nat) with
  | false =>
    have HF := Lib.hid (show atomOk l r vs = false by rw [atomOk_relOf, hr]; rfl)
    replace hcon := hcon false hr
    clear hr
    go_enter Tryz.func222, Tryz.ntmps222
    go_wp2_with (go_at_call 118; refine hcon.mono ?_; rintro e w1 ⟨rfl, hb1⟩)
    go_ret
    exact ⟨ret_bool HF.out.symm, hE.trans (hb1.mono hE.size)⟩
  | true =>
    have HA := Lib.hid (show atomOk l r vs = vs.all validT by rw [atomOk_relOf, hr]; rfl)
    replace hcon := hcon true hr
    clear hr
    go_enter Tryz.func222, Tryz.ntmps222
    go_wp2_with fail
    refine hcon.mono ?_
    rintro e w1 ⟨rfl, hb1⟩
    have hz1 := hb1.size
    have f1 := (hb1.cell (p := ⟨w.heap.size, 1, none⟩) hEz).trans K1.out
    clear hcon
    go_wp2
    clear f1
    go_loopw [18] (fun i wr => ∃ j : Nat, j ≤ vs.length ∧ i = .int .i64 j ∧ Hid (TermsTo vs j) ∧ Below w1.heap.size w1 wr) (fun i _ => vs.length - (intOf i).toNat)
    case atStart => exact ⟨0, by omega, rfl, Lib.hid (TermsTo.zero vs), Below.refl _ _⟩
    case round =>
      obtain ⟨j, hj, rfl, HT, hW⟩ := hrel
      have hWW := hE.trans ((hb1.trans (hW.mono hz1)).mono hE.size)
      by_cases hlt : j < vs.length
      · obtain ⟨b', off', rfl, hb', d0⟩ := IntsAt.elem HV.out j hlt
        replace d0 := (hWW.cell (p := ⟨b', off' + j, none⟩) hb').trans d0
        cases hv : validT vs[j] with
        | false =>
          have hvc := implIsValidTerm_at vs[j] false hv wr
          have HF := Lib.hid (all_no (p := validT) hlt hv)
          clear hv
          go_wp2_with (go_at_call 218; refine hvc.mono ?_; rintro e w3 ⟨rfl, rfl⟩)
          go_ret
          exact ⟨ret_bool (HA.out.trans HF.out).symm, hWW⟩
        | true =>
          have hvc := implIsValidTerm_at vs[j] true hv wr
          have HN := Lib.hid (HT.out.next hlt hv)
          clear hv
          go_wp2_with (go_at_call 218; refine hvc.mono ?_; rintro e w3 ⟨rfl, rfl⟩)
          go_roundw
          case rel => exact ⟨j + 1, by omega, by go_num, HN, hW⟩
          case measure => simp [intOf]; omega
      · obtain rfl : j = vs.length := by omega
        have HF := Lib.hid (show vs.all validT = true by have := HT.out; unfold TermsTo at this; rwa [List.take_of_length_le (Nat.le_refl _)] at this)
        go_wp2
        go_ret
        exact ⟨ret_bool (HA.out.trans HF.out).symm, hWW⟩
theorem implIsValidAtom_at (l : List Rel) (x : Atm) (q : Bool) (hq : atomB l x = q) (v u : Value) (w : World) (hl : RelsAt w w.heap.size v l) (hf : Atom_at w w.heap.size u x) :
    Calls Tryz.prog 222 #[v, u] w fun e w' => e = .returned (.bool q) ∧ Below w.heap.size w w' := by
  subst hq
  obtain ⟨V, rfl, hV⟩ := hf
  exact implIsValidAtom_any v l x.rel V x.vals w hl hV
theorem implIsValidAtom_c (v : Value) (l : List Rel) (u : Value) (x : Atm) (w : World) (h : RelationS_at w w.heap.size v l) (_ : RelationS_wf l) (_ : RelationS_sz l ≤ 1048576) (h' : Atom_at w w.heap.size u x) (_ : Atom_wf x) (_ : Atom_sz x ≤ 1048576) :
    Calls Tryz.prog 222 #[v, u] w fun e w' => e = .returned (.bool (atomOk l x.rel x.vals)) ∧ Below w.heap.size w w' := by
  obtain ⟨V, rfl, h'⟩ := h'
  exact implIsValidAtom_any v l x.rel V x.vals w h h'

end Go.Proofs.YtmecdjincmkofaaGreatDoor
