/-
  Walks and plain lemmas for the laws of this seat: what single Go functions return, for every argument.
-/
import Derived.Lib.Join
import Derived.Test.YtmecdjincmkofaaGreatDoorBase
import Derived.Test.YtmecdjincmkofaaGreatDoorFmt
import Derived.Test.YtmecdjincmkofaaGreatDoorMem
import Derived.Test.YtmecdjincmkofaaGreatDoorNum
import Derived.Test.YtmecdjincmkofaaGreatDoorMSub
namespace Go.Proofs.YtmecdjincmkofaaGreatDoor
open Go.RowKit

theorem decDigits_short (u : Nat) (h : u < 100) : (Lib.decDigits u).length ≤ 2 := by
  rw [decDigits_rec]
  split
  · simp
  · rw [decDigits_rec, if_pos (by omega)]; simp
theorem itoa_short (u : Nat) (h : u < 100) : (Lib.itoa (u : Int)).length ≤ 2 := by rw [itoa_pos]; exact decDigits_short u h
theorem parse_itoa (u : Nat) (h : u < 100) : parseInt (Lib.itoa (u : Int)) = ((u : Int), true) :=
  parse_spec _ _ rfl (by have := itoa_short u h; omega)
theorem parse_itoaI (v : Int) (h0 : 0 ≤ v) (h : v < 100) : parseInt (Lib.itoa v) = (v, true) := by
  obtain ⟨u, rfl⟩ := Int.eq_ofNat_of_zero_le h0
  exact parse_itoa u (by omega)
/-- a numeral is not empty and begins with no letter -/
theorem itoa_noPrefix (v : Int) (h0 : 0 ≤ v) : Lib.hasPrefix (Lib.itoa v) [110] = false ∧ Lib.itoa v ≠ [] := by
  obtain ⟨l, h1, _, _, h4, h5⟩ := itoa_facts v
  rcases h1 with ⟨h1, _⟩ | ⟨_, h1⟩
  · rw [h1]
    refine ⟨?_, h4⟩
    cases l with
    | nil => rfl
    | cons b r =>
      cases h : Lib.hasPrefix (b :: r) [110] with
      | false => rfl
      | true =>
        have hb : b = 110 := by
          unfold Lib.hasPrefix at h
          simp [List.isPrefixOf] at h
          exact h.symm
        subst hb
        rw [Lib.decFrom] at h5
        exact absurd h5 (by simp [Lib.digitVal])
  · omega
def fmtV (v : Int) : List UInt8 := if -40 ≤ v ∧ v < 0 then 110 :: Lib.itoa (-1 - v) else if 0 ≤ v ∧ v ≤ 9 then Lib.itoa v else []
theorem fmtV_null (v : Int) (h : -40 ≤ v ∧ v < 0) : fmtV v = 110 :: Lib.itoa (-1 - v) := if_pos h
theorem fmtV_const (v : Int) (h : 0 ≤ v ∧ v ≤ 9) : fmtV v = Lib.itoa v := by unfold fmtV; rw [if_neg (by omega), if_pos h]
theorem fmtV_no (v : Int) (h : ¬(-40 ≤ v ∧ v ≤ 9)) : fmtV v = [] := by unfold fmtV; rw [if_neg (by omega), if_neg (by omega)]
theorem fmtV_ne (v : Int) (h : -40 ≤ v ∧ v ≤ 9) : fmtV v ≠ [] := by
  by_cases h0 : v < 0
  · rw [fmtV_null v ⟨h.1, h0⟩]; simp
  · rw [fmtV_const v ⟨by omega, h.2⟩]; exact (itoa_noPrefix v (by omega)).2
theorem fmtV_len (v : Int) : (fmtV v).length ≤ 3 := by
  by_cases h0 : -40 ≤ v ∧ v < 0
  · rw [fmtV_null v h0]
    obtain ⟨u, hu⟩ := Int.eq_ofNat_of_zero_le (a := -1 - v) (by omega)
    have := itoa_short u (by omega)
    rw [hu, List.length_cons]; omega
  · by_cases h : 0 ≤ v ∧ v ≤ 9
    · rw [fmtV_const v h]
      obtain ⟨u, rfl⟩ := Int.eq_ofNat_of_zero_le (a := v) (by omega)
      have := itoa_short u (by omega); omega
    · rw [fmtV_no v (by omega)]; simp
def isN (l : List UInt8) : Bool := Lib.hasPrefix l [110]
def numV (l : List UInt8) : List UInt8 := Lib.trimPrefix l [110]
def candV (l : List UInt8) : Int := if isN l then -1 - (parseInt (numV l)).1 else (parseInt (numV l)).1
def parseVOk (l : List UInt8) : Bool := (parseInt (numV l)).2 && (fmtV (candV l) == l)
def parseV (l : List UInt8) : Int × Bool := if parseVOk l then (candV l, true) else (0, false)
theorem parse_nil : (parseInt []).2 = false := by
  have h : parseOk [] = false := by
    cases h : parseOk [] with
    | false => rfl
    | true =>
      have h1 := (parse_some _ h).1
      obtain ⟨l, h2, _, _, h4, _⟩ := itoa_facts (cand [])
      rcases h2 with ⟨h2, _⟩ | ⟨h2, _⟩
      · rw [h1] at h2; exact absurd h2.symm h4
      · rw [h1] at h2; cases h2
  unfold parseInt; rw [h]; rfl
theorem hasN (l : List UInt8) : Lib.hasPrefix (110 :: l) [110] = true := by unfold Lib.hasPrefix; simp [List.isPrefixOf]
theorem trimN (l : List UInt8) : Lib.trimPrefix (110 :: l) [110] = l := by unfold Lib.trimPrefix; rw [hasN]; simp
theorem trim_no (l : List UInt8) (h : Lib.hasPrefix l [110] = false) : Lib.trimPrefix l [110] = l := by unfold Lib.trimPrefix; rw [h]; rfl
theorem parseV_fmt (v : Int) (h : -40 ≤ v ∧ v ≤ 9) : parseV (fmtV v) = (v, true) := by
  have hk : (parseInt (numV (fmtV v))).2 = true ∧ candV (fmtV v) = v := by
    by_cases h0 : v < 0
    · rw [fmtV_null v ⟨h.1, h0⟩]
      unfold candV isN numV
      rw [hasN, trimN, parse_itoaI _ (by omega) (by omega)]
      exact ⟨rfl, by simp; omega⟩
    · rw [fmtV_const v ⟨by omega, h.2⟩]
      unfold candV isN numV
      have := (itoa_noPrefix v (by omega)).1
      rw [this, trim_no _ this, parse_itoaI _ (by omega) (by omega)]
      exact ⟨rfl, rfl⟩
  unfold parseV parseVOk
  rw [hk.1, hk.2]; simp
theorem parseV_some (l : List UInt8) (v : Int) (h : -40 ≤ v ∧ v ≤ 9) (he : fmtV v = l) : parseV l = (v, true) := by subst he; exact parseV_fmt v h
theorem parseV_none (l : List UInt8) (h : ∀ v : Int, -40 ≤ v → v ≤ 9 → fmtV v ≠ l) : parseV l = (0, false) := by
  unfold parseV
  rw [if_neg]
  unfold parseVOk
  simp only [Bool.and_eq_true, beq_iff_eq]
  rintro ⟨h1, h2⟩
  by_cases hv : -40 ≤ candV l ∧ candV l ≤ 9
  · exact h _ hv.1 hv.2 h2
  · rw [fmtV_no _ hv] at h2
    subst h2
    have : numV [] = [] := rfl
    rw [this, parse_nil] at h1; cases h1
theorem parseV_nil : parseV [] = (0, false) := parseV_none _ (fun v h0 h1 => fmtV_ne v ⟨h0, h1⟩)
/-- what ParseValue takes is what FormatValue gives -/
theorem parseV_sound (l : List UInt8) : (parseV l).2 = true → fmtV (parseV l).1 = l ∧ -40 ≤ (parseV l).1 ∧ (parseV l).1 ≤ 9 := by
  intro h
  by_cases h1 : parseVOk l = true
  · have h2 : parseV l = (candV l, true) := by unfold parseV; rw [if_pos h1]
    rw [h2]
    unfold parseVOk at h1
    simp only [Bool.and_eq_true, beq_iff_eq] at h1
    obtain ⟨h3, h4⟩ := h1
    refine ⟨h4, ?_⟩
    by_cases hv : -40 ≤ candV l ∧ candV l ≤ 9
    · exact hv
    · rw [fmtV_no _ hv] at h4
      subst h4
      have : numV [] = [] := rfl
      rw [this, parse_nil] at h3; cases h3
  · have h2 : parseV l = (0, false) := by unfold parseV; rw [if_neg h1]
    rw [h2] at h; cases h
theorem parseV_bd (l : List UInt8) : -40 ≤ (parseV l).1 ∧ (parseV l).1 ≤ 9 := by
  cases h : (parseV l).2 with
  | true => exact (parseV_sound l h).2
  | false =>
    unfold parseV at h ⊢
    split
    · rename_i h1; rw [if_pos h1] at h; cases h
    · decide
theorem parseInt_bd (l : List UInt8) : -9223372036854775808 ≤ (parseInt l).1 ∧ (parseInt l).1 ≤ 9223372036854775806 := by
  have hb := (sc_bd 11 (l.take 11) (by simp; omega)).1
  rw [show (10 : Nat) ^ 11 = 100000000000 from rfl] at hb
  unfold parseInt
  split
  · unfold cand
    split <;> simp <;> omega
  · decide

set_option maxHeartbeats 800000 in
theorem specFormatValue_any (v : Int) (w : World) (h0 : -9223372036854775808 ≤ v) (h1 : v ≤ 9223372036854775807) :
    Calls Tryz.prog 150 #[.int .i64 v] w fun e w' => e = .returned (.string ⟨(fmtV v).toArray⟩) ∧ Below w.heap.size w w' := by
  by_cases hv : -40 ≤ v ∧ v < 0
  · have hr : nullNum v = (-1 - v, true) := nullNum_yes v hv
    rw [fmtV_null v hv]
    have hj := strOne 110 _ _ (rfl : (⟨(Lib.itoa (-1 - v)).toArray⟩ : ByteArray) = _)
    obtain ⟨ha, hb⟩ := hv
    obtain ⟨u, hu⟩ := Int.eq_ofNat_of_zero_le (a := -1 - v) (by omega)
    have hsz : ByteArray.size ⟨(Lib.itoa (-1 - v)).toArray⟩ ≤ 2 := by
      rw [ByteArray.size, List.size_toArray, hu]; exact itoa_short u (by omega)
    clear hu
    have hs1 : ByteArray.size ⟨#[110]⟩ = 1 := rfl
    go_enter Tryz.func150, Tryz.ntmps150
    go_wp2_with (first | (go_at_call 178; refine (specNullNumber_any _ _ h0 h1).mono ?_; rintro e w' ⟨rfl, rfl⟩) | (go_at_call 184; refine (specFormatInt_any _ _ (by omega) (by omega)).mono ?_; rintro e w1 ⟨rfl, hb1⟩))
    go_ret
    exact ⟨rfl, hb1⟩
  · have hr : nullNum v = (0, false) := nullNum_no v hv
    by_cases hc : 0 ≤ v ∧ v ≤ 9
    · rw [fmtV_const v hc]
      have hi : inB v 0 9 = true := inB_true hc
      go_enter Tryz.func150, Tryz.ntmps150
      go_wp2_with (first | (go_at_call 178; refine (specNullNumber_any _ _ h0 h1).mono ?_; rintro e w' ⟨rfl, rfl⟩) | (go_at_call 112; refine (l1In_any _ _ _ _).mono ?_; rintro e w' ⟨rfl, rfl⟩) | (go_at_call 184; refine (specFormatInt_any _ _ (by omega) (by omega)).mono ?_; rintro e w1 ⟨rfl, hb1⟩))
      go_ret
      exact ⟨rfl, hb1⟩
    · rw [fmtV_no v (by omega)]
      have hi : inB v 0 9 = false := inB_false hc
      go_enter Tryz.func150, Tryz.ntmps150
      go_wp2_with (first | (go_at_call 178; refine (specNullNumber_any _ _ h0 h1).mono ?_; rintro e w' ⟨rfl, rfl⟩) | (go_at_call 112; refine (l1In_any _ _ _ _).mono ?_; rintro e w' ⟨rfl, rfl⟩))
      go_ret
      exact ⟨rfl, Below.refl _ _⟩

/-- a slice of strings of the call's own -/
def OwnStrs (B : Nat) (v : Value) (l : List ByteArray) (w : World) : Prop := w.ownsRow B 9 1 v l.length (l.map Value.string)
theorem infoStr : (Tryz.prog.info? 9).map (fun i => (i.zero, i.size, i.bytes)) = some (some (.string ByteArray.empty), 1, 16) := by kernel_rfl
theorem make_strs (w : World) (n c : Nat) (hnc : n ≤ c) (hn : c ≤ 1048576) : (Instr.makeSlice 94 (.int .i64 (n : Int)) (.int .i64 (c : Int))).run Tryz.prog w = .ok (.slice (some ⟨w.heap.size, 0, none⟩) n c) (w.alloc (.cells (madeCells #[.string ByteArray.empty] c) 9)) := by
  obtain ⟨i0, hi, hz0, hz1, hz2⟩ := info_parts infoStr
  have hr := run_make (P := Tryz.prog) w 94 9 i0 _ Tryz.underlying94 hi hz0 .i64 .i64 (n : Int) (c : Int) (by omega) (by omega) (by rw [hz2]; omega) (by omega)
  simp only [Int.toNat_natCast, hz1, Nat.mul_one] at hr
  exact hr
theorem OwnStrs.full (w : World) (n : Nat) (hn : n ≤ 1048576) (B : Nat) (hB : B ≤ w.heap.size) : OwnStrs B (.slice (some ⟨w.heap.size, 0, none⟩) n n) (List.replicate n ByteArray.empty) (w.alloc (.cells (madeCells #[.string ByteArray.empty] n) 9)) := by
  unfold OwnStrs
  have e : (madeCells #[.string ByteArray.empty] n).toList = (List.replicate n ByteArray.empty).map Value.string := by rw [toList_madeCells_one, List.map_replicate]
  rw [← e, List.length_replicate]
  exact World.ownsRow_lit w _ n hB (by unfold maxLen; omega) (by rw [size_madeCells, Nat.mul_one])
theorem OwnStrs.cell {B g n cap : Nat} {l : List ByteArray} {w : World} (h : OwnStrs B (.slice (some ⟨g, 0, none⟩) n cap) l w) (hn : l.length = n) (j : Nat) (hj : j < l.length) : w.cell? ⟨g, j, none⟩ = some (.string l[j]) := by
  subst hn
  rw [World.ownsRow.cellAt h j (by omega)]; simp [hj]
theorem OwnStrs.frozen {B g n cap : Nat} {l : List ByteArray} {w : World} (h : OwnStrs B (.slice (some ⟨g, 0, none⟩) n cap) l w) (hn : l.length = n) (j : Nat) : w.frozen? ⟨g, j, none⟩ = false := by
  subst hn; exact World.ownsRow.frozenAt h j
theorem OwnStrs.set {B g n cap : Nat} {l : List ByteArray} {w : World} (h : OwnStrs B (.slice (some ⟨g, 0, none⟩) n cap) l w) (hn : l.length = n) (j : Nat) (s : ByteArray) :
    OwnStrs B (.slice (some ⟨g, 0, none⟩) n cap) (l.set j s) (w.setCell ⟨g, j, none⟩ (.string s)) := by
  subst hn
  have := (World.ownsRow.stored h j (.string s)).1
  unfold OwnStrs
  rw [List.length_set, List.map_set]
  exact this
theorem own_below {w w' : World} {B B' k n : Nat} {e : TypeId} {v : Value} {xs : List Value} (h : w.ownsRow B e k v n xs) (hb : Below B' w w') (hB : w.heap.size ≤ B') : w'.ownsRow B e k v n xs :=
  World.ownsRow.kept (row := none) h ⟨hb.os, hb.tape, hb.output, hb.size, fun k hk _ => hb.block k (Nat.lt_of_lt_of_le hk hB)⟩ (by
    cases h' : v.ownBlock with
    | none => exact .inl rfl
    | some g => exact .inr (by simp))
theorem OwnStrs.below {B B' : Nat} {v : Value} {l : List ByteArray} {w w' : World} (h : OwnStrs B v l w) (hb : Below B' w w') (hB : w.heap.size ≤ B') : OwnStrs B v l w' := own_below h hb hB

theorem join_take_one (L : List (List UInt8)) (s : List UInt8) (h : 0 < L.length) : Lib.join (L.take 1) s = L[0] := by
  cases L with
  | nil => simp at h
  | cons r t => simp [Lib.join_one]
theorem join_take_succ (L : List (List UInt8)) (s : List UInt8) (k : Nat) (h0 : 0 < k) (h : k < L.length) : Lib.join (L.take (k + 1)) s = Lib.join (L.take k) s ++ (s ++ L[k]) := by
  cases L with
  | nil => simp at h
  | cons r t =>
    obtain ⟨j, rfl⟩ : ∃ j, k = j + 1 := ⟨k - 1, by omega⟩
    rw [List.take_succ_cons, List.take_succ_cons, Lib.join_cons, Lib.join_cons]
    have hj : j < t.length := by simpa using h
    rw [Lib.joinTail_take_succ s t j t[j] (by simp [hj])]
    simp
/-- one replacement's text -/
def pieceS (n u : Int) : List UInt8 := (fmtV (-1 - n) ++ [61]) ++ fmtV u
def piecesS (x : Sbst) : List (List UInt8) := List.zipWith pieceS x.nulls x.vals
theorem piecesS_len {x : Sbst} (h : x.nulls.length = x.vals.length) : (piecesS x).length = x.nulls.length := by unfold piecesS; simp; omega
theorem piecesS_at {x : Sbst} (i : Nat) (h : i < (piecesS x).length) (h1 : i < x.nulls.length) (h2 : i < x.vals.length) : (piecesS x)[i] = pieceS x.nulls[i] x.vals[i] := List.getElem_zipWith
theorem pieceS_len (n u : Int) : (pieceS n u).length ≤ 7 := by
  have h1 := fmtV_len (-1 - n)
  have h2 := fmtV_len u
  unfold pieceS; simp; omega
def joinS (x : Sbst) (k : Nat) : List UInt8 := Lib.join ((piecesS x).take k) [32]
def fmtS (x : Sbst) : List UInt8 := if subOk x then Lib.join (piecesS x) [32] else []
theorem fmtS_no {x : Sbst} (h : subOk x = false) : fmtS x = [] := by unfold fmtS; rw [h]; rfl
theorem fmtS_yes {x : Sbst} (h : subOk x = true) : fmtS x = Lib.join (piecesS x) [32] := by unfold fmtS; rw [h]; rfl
theorem joinS_zero (x : Sbst) : joinS x 0 = [] := rfl
theorem joinS_succ {x : Sbst} (k : Nat) (h1 : k < x.nulls.length) (h2 : x.nulls.length = x.vals.length) : joinS x (k + 1) = joinS x k ++ ((if k = 0 then [] else [32]) ++ pieceS x.nulls[k] (x.vals[k]'(by omega))) := by
  have hl := piecesS_len h2
  unfold joinS
  rcases Nat.eq_zero_or_pos k with h0 | h0
  · subst h0
    rw [join_take_one _ _ (by omega), piecesS_at 0 (by omega) h1 (by omega)]; simp [Lib.join]
  · rw [join_take_succ _ _ k h0 (by omega), if_neg (by omega), piecesS_at k (by omega) h1 (by omega)]
theorem joinS_len {x : Sbst} (h2 : x.nulls.length = x.vals.length) (k : Nat) (hk : k ≤ x.nulls.length) : (joinS x k).length ≤ 8 * k := by
  induction k with
  | zero => simp [joinS_zero]
  | succ k ih =>
    have h := ih (by omega)
    have hp := pieceS_len x.nulls[k] (x.vals[k]'(by omega))
    rw [joinS_succ k (by omega) h2, List.length_append, List.length_append]
    split <;> simp <;> omega
theorem joinS_all {x : Sbst} (h2 : x.nulls.length = x.vals.length) : joinS x x.nulls.length = Lib.join (piecesS x) [32] := by
  unfold joinS; rw [List.take_of_length_le (by rw [piecesS_len h2]; exact Nat.le_refl _)]
def pieceB (p : List UInt8) : ByteArray := ⟨p.toArray⟩
theorem take_empty_setS (L : List (List UInt8)) (n k : Nat) (hn : L.length = n) (h : k < L.length) : ((L.take k).map pieceB ++ List.replicate (n - k) ByteArray.empty).set k (pieceB L[k]) = (L.take (k + 1)).map pieceB ++ List.replicate (n - (k + 1)) ByteArray.empty := by
  have e : ((L.take k).map pieceB).length = k := by simp; omega
  rw [List.set_append_right _ _ (by omega), e, Nat.sub_self, List.take_succ_eq_append_getElem h, show n - k = (n - (k + 1)) + 1 by omega, List.replicate_succ, List.set_cons_zero, List.map_append, List.append_assoc]
  rfl
theorem join_pieceB (L : List (List UInt8)) : Lib.join ((L.map pieceB).map (·.data.toList)) [32] = Lib.join L [32] := by
  rw [List.map_map]
  congr 1
  exact List.map_id L

end Go.Proofs.YtmecdjincmkofaaGreatDoor
