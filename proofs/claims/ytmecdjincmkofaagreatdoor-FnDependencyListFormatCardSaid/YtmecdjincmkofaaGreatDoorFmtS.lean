/-
  Walks and plain lemmas for the laws of this seat: what single Go functions return, for every argument.
-/
import Derived.Test.YtmecdjincmkofaaGreatDoorShelf
import Derived.Lib.LaidTab
import Derived.Lib.AppendIntMem
import Derived.Lib.AtoiTie
import Derived.Lib.Strings
import Derived.Lib.AtoiErrMem
import Derived.Lib.AtoiBound
import Derived.ShapedOpen
import Derived.Test.YtmecdjincmkofaaGreatDoorBase
namespace Go.Proofs.YtmecdjincmkofaaGreatDoor
open Go.RowKit

set_option maxHeartbeats 800000 in
set_option maxRecDepth 100000 in
theorem specFormatInt_pos (n : Nat) (w : World) (hn : n ≤ 9223372036854775807) :
    Calls Tryz.prog 184 #[.int .i64 (n : Int)] w fun e w' => e = .returned (.string ⟨(Lib.itoa n).toArray⟩) ∧ Below w.heap.size w w' := by
  by_cases h0 : n = 0
  · subst h0
    have hr : Lib.itoa ((0 : Nat) : Int) = [48] := by rw [itoa_pos, decDigits_rec]; rfl
    rw [hr]
    go_enter Tryz.func184, Tryz.ntmps184
    go_wp2
    go_ret
    exact ⟨rfl, Below.refl _ _⟩
  · rw [itoa_pos]
    have h0' : ((n : Int) == 0) = false := beq_eq_false_iff_ne.2 (by omega)
    have hneg : decide ((n : Int) < 0) = false := by simp
    go_enter Tryz.func184, Tryz.ntmps184
    go_wp2
    go_loopw [0, 3, 5] (fun x o _ wr => ∃ m : Nat, ∃ ob : ByteArray, m ≤ n ∧ x = .int .i64 (m : Int) ∧ o = .string ob ∧ DigInv n m ob ∧ Below w.heap.size w wr) (fun x _ _ _ => (intOf x).toNat)
    case atStart => exact ⟨n, ⟨#[]⟩, by omega, rfl, rfl, DigInv.zero n (by omega), Below.refl _ _⟩
    case round =>
      obtain ⟨m, ob, hm, rfl, rfl, hI, hW⟩ := hrel
      have hz := hW.size
      have hsz := hI.2
      by_cases hm0 : 0 < m
      · have hI' := hI.step hm0 (by omega)
        have hc := conv_one wr (48 + (m : Int) % 10) (by omega) (by omega)
        have hs1 : ByteArray.size ⟨#[byteI (48 + (m : Int) % 10)]⟩ = 1 := rfl
        have hne : ((m : Int) != 0) = true := by rw [bne_iff_ne]; omega
        go_wp2
        go_roundw
        case rel => exact ⟨m / 10, _, by omega, by go_num, rfl, hI', hW.trans ((Below.refl _ _).alloc hz _)⟩
        case measure => simp [intOf]; omega
      · obtain rfl : m = 0 := by omega
        have HD := Lib.hid hI.done
        go_wp2
        go_ret
        exact ⟨ret_str HD.out, hW⟩
theorem neg_tmod10 (m : Nat) : (-(m : Int)).tmod 10 = -((m : Int) % 10) := by rw [Int.neg_tmod, Int.tmod_eq_emod_of_nonneg (by omega)]
theorem neg_tdiv10 (m : Nat) : (-(m : Int)).tdiv 10 = -((m : Int) / 10) := by rw [Int.neg_tdiv, Int.tdiv_eq_ediv_of_nonneg (by omega)]
set_option maxHeartbeats 1600000 in
set_option maxRecDepth 100000 in
theorem specFormatInt_neg (n : Nat) (w : World) (h0 : 0 < n) (hn : n ≤ 9223372036854775808) :
    Calls Tryz.prog 184 #[.int .i64 (-(n : Int))] w fun e w' => e = .returned (.string ⟨(Lib.itoa (-(n : Int))).toArray⟩) ∧ Below w.heap.size w w' := by
  rw [itoa_negN n h0]
  have h0' : (-(n : Int) == 0) = false := beq_eq_false_iff_ne.2 (by omega)
  have hneg : decide (-(n : Int) < 0) = true := by simp; omega
  go_enter Tryz.func184, Tryz.ntmps184
  go_wp2
  go_loopw [0, 3, 5] (fun x o _ wr => ∃ m : Nat, ∃ ob : ByteArray, m ≤ n ∧ x = .int .i64 (-(m : Int)) ∧ o = .string ob ∧ DigInv n m ob ∧ Below w.heap.size w wr) (fun x _ _ _ => (-(intOf x)).toNat)
  case atStart => exact ⟨n, ⟨#[]⟩, by omega, rfl, rfl, DigInv.zero n (by omega), Below.refl _ _⟩
  case round =>
    obtain ⟨m, ob, hm, rfl, rfl, hI, hW⟩ := hrel
    have hz := hW.size
    have hsz := hI.2
    by_cases hm0 : 0 < m
    · have hI' := hI.step hm0 (by omega)
      have hc := conv_one wr (48 + (m : Int) % 10) (by omega) (by omega)
      have hs1 : ByteArray.size ⟨#[byteI (48 + (m : Int) % 10)]⟩ = 1 := rfl
      have hne : (-(m : Int) != 0) = true := by rw [bne_iff_ne]; omega
      have q1 := neg_tmod10 m
      have q2 := neg_tdiv10 m
      by_cases hd : 0 < (m : Int) % 10
      · go_wp2
        go_roundw
        case rel => exact ⟨m / 10, _, by omega, by go_num, rfl, hI', hW.trans ((Below.refl _ _).alloc hz _)⟩
        case measure => simp [intOf]; omega
      · have e0 : 48 + -((m : Int) % 10) = 48 + (m : Int) % 10 := by omega
        rw [← e0] at hc hs1 hI'
        clear e0
        go_wp2
        go_roundw
        case rel => exact ⟨m / 10, _, by omega, by go_num, rfl, hI', hW.trans ((Below.refl _ _).alloc hz _)⟩
        case measure => simp [intOf]; omega
    · obtain rfl : m = 0 := by omega
      have HD := Lib.hid hI.done
      go_wp2
      go_ret
      exact ⟨ret_str (by rw [HD.out]; exact strOne 45 _ _ rfl), hW⟩
theorem specFormatInt_any (n : Int) (w : World) (h0 : -9223372036854775808 ≤ n) (h1 : n ≤ 9223372036854775807) :
    Calls Tryz.prog 184 #[.int .i64 n] w fun e w' => e = .returned (.string ⟨(Lib.itoa n).toArray⟩) ∧ Below w.heap.size w w' := by
  by_cases h : 0 ≤ n
  · obtain ⟨m, rfl⟩ := Int.eq_ofNat_of_zero_le h
    exact specFormatInt_pos m w (by omega)
  · have e : n = -((n.natAbs : Nat) : Int) := by omega
    rw [e]; exact specFormatInt_neg n.natAbs w (by omega) (by omega)

/-- the library's table of the powers of ten stands as its text lays it -/
def Tab (w : World) : Prop := Lib.TabIs Tryz.prog w "internal/strconv.uint64pow10" .u64 Lib.pow10Tab
theorem var_below {P : Program} {w w' : World} {n : String} {cs : Array Value} (h : w.var? P n = some cs) (hb : Below w.heap.size w w') : w'.var? P n = some cs := by
  unfold World.var? at h ⊢
  cases hg : P.globalNamed n with
  | none => rw [hg] at h; exact h
  | some g =>
    rw [hg] at h
    simp only [Option.bind_some] at h ⊢
    have hlt : g < w.heap.size := by
      rcases Nat.lt_or_ge g w.heap.size with h1 | h1
      · exact h1
      · rw [Array.getElem?_eq_none h1] at h; cases h
    rw [hb.block g hlt]; exact h
theorem Tab.below {w w' : World} (h : Tab w) (hb : Below w.heap.size w w') : Tab w' := var_below h hb

theorem itoa_below (n : Int) (h0 : -9223372036854775808 ≤ n) (h1 : n ≤ 9223372036854775807) (w : World) (ht : Tab w) :
    Calls Tryz.prog 232 #[.int .i64 n] w fun e w' => e = .returned (.string ⟨(Lib.itoa n).toArray⟩) ∧ Below w.heap.size w w' :=
  (Tryz.strconv_Itoa n h0 h1 w ht).mono fun e w' ⟨he, k, os, hw⟩ => ⟨he, by rw [hw]; exact Lib.below_grow _ w (Nat.le_refl _) k os⟩
set_option maxHeartbeats 400000 in
theorem implFormatInt_any (n : Int) (w : World) (h0 : -9223372036854775808 ≤ n) (h1 : n ≤ 9223372036854775807) (ht : Tab w) :
    Calls Tryz.prog 183 #[.int .i64 n] w fun e w' => e = .returned (.string ⟨(Lib.itoa n).toArray⟩) ∧ Below w.heap.size w w' := by
  go_enter Tryz.func183, Tryz.ntmps183
  go_wp2_with (go_at_call 232; refine (itoa_below n h0 h1 _ ht).mono ?_; rintro e w1 ⟨rfl, hb⟩)
  go_ret
  exact ⟨rfl, hb⟩

/-- the two sentinels stand as values of an interface's type -/
structure ErrVars (w : World) : Prop where
  range : ∃ tp p, w.var? Tryz.prog "strconv.ErrRange" = some #[.iface tp p]
  form : ∃ tp p, w.var? Tryz.prog "strconv.ErrSyntax" = some #[.iface tp p]
theorem ErrVars.below {w w' : World} (h : ErrVars w) (hb : Below w.heap.size w w') : ErrVars w' :=
  ⟨h.range.elim fun tp h => h.elim fun p h => ⟨tp, p, var_below h hb⟩, h.form.elim fun tp h => h.elim fun p h => ⟨tp, p, var_below h hb⟩⟩
/-- strconv.Atoi at a short text: the value and no error, or an error -/
theorem atoi_some (s : ByteArray) (v : Int) (hs : s.size ≤ 18) (ha : Hid (Lib.atoi s.data.toList = some v)) (w : World) : Calls Tryz.prog 231 #[.string s] w fun e w' => e = .returned (.tuple #[.int .i64 v, .nilIface]) ∧ Below w.heap.size w w' := by
  have ht := Lib.atoiAll_short s.data.toList (by simpa using hs)
  rw [ha.out] at ht
  exact (Tryz.strconv_Atoi_ok s (by omega) v ht w).mono fun e w' ⟨he, hw⟩ => ⟨he, by
      rcases hw with rfl | ⟨t, rfl⟩
      · exact Below.refl _ _
      · exact Lib.bytesWorld_below _ _ _⟩
theorem atoi_none (s : ByteArray) (hs : s.size ≤ 18) (ha : Hid (Lib.atoi s.data.toList = none)) (w : World) (hv : ErrVars w) : Calls Tryz.prog 231 #[.string s] w fun e w' => (∃ n T p, e = .returned (.tuple #[.int .i64 n, .iface T p])) ∧ Below w.heap.size w w' := by
  have ht := Lib.atoiAll_short s.data.toList (by simpa using hs)
  rw [ha.out] at ht
  obtain ⟨tp, p, hvar⟩ := hv.form
  exact (Tryz.strconv_Atoi_syntax_var s (by omega) ht tp p w hvar).mono fun e w' ⟨N, he, _, _, hb⟩ => ⟨⟨_, _, _, he⟩, hb⟩
theorem trim_len (l : List UInt8) : (Lib.trimPrefix l [45]).length = l.length - (if isNeg l then 1 else 0) := by
  cases l with
  | nil => rfl
  | cons b r =>
    unfold Lib.trimPrefix Lib.hasPrefix
    show _ = _ - (if (b == 45) = true then 1 else 0)
    have : ([45] : List UInt8).isPrefixOf (b :: r) = (b == 45) := by
      by_cases h : b = 45
      · subst h; simp [List.isPrefixOf]
      · have h1 : (b == 45) = false := beq_eq_false_iff_ne.2 h
        have h2 : ((45 : UInt8) == b) = false := beq_eq_false_iff_ne.2 (Ne.symm h)
        rw [h1, List.isPrefixOf, h2]; rfl
    rw [this]
    cases (b == 45) <;> simp
theorem parse_none (l : List UInt8) (h : parseOk l = false) : parseInt l = (0, false) := by unfold parseInt; rw [h]; rfl
set_option maxHeartbeats 800000 in
set_option maxRecDepth 100000 in
theorem implParseInt_any (s : ByteArray) (w : World) (hs : s.size ≤ 1048576) (ht : Tab w) (hv : ErrVars w) :
    Calls Tryz.prog 182 #[.string s] w fun e w' => e = .returned (.tuple #[.int .i64 (parseInt s.data.toList).1, .bool (parseInt s.data.toList).2]) ∧ Below w.heap.size w w' := by
  have htl := trim_len s.data.toList
  have hsz : s.data.toList.length = s.size := by simp
  by_cases h9 : (Lib.trimPrefix s.data.toList [45]).length ≤ 9
  · have hs18 : s.size ≤ 18 := by rw [htl, hsz] at h9; split at h9 <;> omega
    cases ha : Lib.atoi s.data.toList with
    | none =>
      have hr : Hid (parseInt s.data.toList = (0, false)) := by
        refine parse_none _ ?_
        cases h : parseOk s.data.toList with
        | false => rfl
        | true => have := (parse_some _ h).2.2; rw [ha] at this; cases this
      clear htl hsz
      have hA := Lib.hid ha
      clear ha
      go_enter Tryz.func182, Tryz.ntmps182
      go_wp2_with (first | (go_at_call 230; refine (Tryz.strings_TrimPrefix _ _ _).mono ?_; rintro e w1 ⟨rfl, rfl⟩) | (go_at_call 231; refine (atoi_none s hs18 hA _ hv).mono ?_; rintro e w2 ⟨⟨n, T, p, rfl⟩, hb⟩))
      go_ret2
      exact ⟨ret_int_bool (by rw [hr.out]) (by rw [hr.out]), hb⟩
    | some v =>
      have hb0 := Lib.atoi_bound ha (by rw [hsz]; exact hs18)
      have hb : -9223372036854775808 ≤ v ∧ v ≤ 9223372036854775807 := by omega
      have hA := Lib.hid ha
      clear ha
      by_cases hI : Lib.itoa v = s.data.toList
      · have hr : Hid (parseInt s.data.toList = (v, true)) := parse_spec _ _ hI (by rw [← htl]; exact h9)
        have hE : (Lib.itoa v == s.toList) = true := by rw [ByteArray.toList_eq, beq_iff_eq]; exact hI
        clear htl hsz hI
        go_enter Tryz.func182, Tryz.ntmps182
        go_wp2_with (first | (go_at_call 230; refine (Tryz.strings_TrimPrefix _ _ _).mono ?_; rintro e w1 ⟨rfl, rfl⟩) | (go_at_call 231; refine (atoi_some s v hs18 hA _).mono ?_; rintro e w2 ⟨rfl, hb2⟩) | (go_at_call 183; refine (implFormatInt_any _ _ hb.1 hb.2 (ht.below (by assumption))).mono ?_; rintro e w3 ⟨rfl, hb3⟩))
        go_ret2
        exact ⟨ret_int_bool (by rw [hr.out]) (by rw [hr.out]), hb2.trans (hb3.mono hb2.size)⟩
      · have hr : Hid (parseInt s.data.toList = (0, false)) := by
          refine parse_none _ ?_
          cases h : parseOk s.data.toList with
          | false => rfl
          | true =>
            obtain ⟨h1, _, h2⟩ := parse_some _ h
            rw [hA.out] at h2
            cases h2
            exact absurd h1 hI
        have hE : (Lib.itoa v == s.toList) = false := by rw [ByteArray.toList_eq, beq_eq_false_iff_ne]; exact hI
        clear htl hsz hI
        go_enter Tryz.func182, Tryz.ntmps182
        go_wp2_with (first | (go_at_call 230; refine (Tryz.strings_TrimPrefix _ _ _).mono ?_; rintro e w1 ⟨rfl, rfl⟩) | (go_at_call 231; refine (atoi_some s v hs18 hA _).mono ?_; rintro e w2 ⟨rfl, hb2⟩) | (go_at_call 183; refine (implFormatInt_any _ _ hb.1 hb.2 (ht.below (by assumption))).mono ?_; rintro e w3 ⟨rfl, hb3⟩))
        go_ret2
        exact ⟨ret_int_bool (by rw [hr.out]) (by rw [hr.out]), hb2.trans (hb3.mono hb2.size)⟩
  · have hr : Hid (parseInt s.data.toList = (0, false)) := by
      refine parse_none _ ?_
      cases h : parseOk s.data.toList with
      | false => rfl
      | true => have := (parse_some _ h).2.1; rw [← htl] at this; exact absurd this h9
    have h9' : (9 : Int) < ((Lib.trimPrefix s.data.toList [45]).length : Nat) := by omega
    clear htl hsz h9
    go_enter Tryz.func182, Tryz.ntmps182
    go_wp2_with (go_at_call 230; refine (Tryz.strings_TrimPrefix _ _ _).mono ?_; rintro e w1 ⟨rfl, rfl⟩)
    go_ret2
    exact ⟨ret_int_bool (by rw [hr.out]) (by rw [hr.out]), Below.refl _ _⟩

/-- internal/bytealg.MaxLen holds some int -/
def MaxL (w : World) : Prop := ∃ m : Int, w.cell? ⟨0, 0, none⟩ = some (.int .i64 m)
theorem MaxL.below {w w' : World} (h : MaxL w) (hb : Below w.heap.size w w') : MaxL w' := by
  obtain ⟨m, hm⟩ := h
  exact ⟨m, (hb.cell (p := ⟨0, 0, none⟩) (World.block_lt_of_cell? _ _ hm)).trans hm⟩
/-- a variable of type int holds some int, in every world of the program's shape -/
theorem int_of_shape {P : Program} {w : World} {g : Nat} {t : TypeId} {zero : Array Value} (h : w.ShapedOpen P) (hg : g < P.globals.size)
    (h0 : ((begin P (fun _ _ => 0) default).world.heap[g]?).bind Obj.row? = some (zero, t)) (hz : zero.size = 1) (hb : P.buildable t = true) (hc : P.cellTypes P.depth t = some [t]) (hu : P.underlying t = some (.int .i64)) :
    ∃ m, w.cell? ⟨g, 0, none⟩ = some (.int .i64 m) := by
  obtain ⟨cs, hh, hs, hr⟩ := h.1 g zero t hg h0
  obtain ⟨ts, hts, _, hall⟩ := hr hb
  have ht1 : ts = [t] := Option.some.inj (hts.symm.trans hc)
  have hpos : 0 < cs.size := by omega
  have hcell : w.cell? ⟨g, 0, none⟩ = some cs[0] := by simp [World.cell?, hh, hpos]
  obtain ⟨u, hu1, hok⟩ := hall 0 cs[0] (by simp [hpos])
  have hut : u = t := by rw [ht1] at hu1; simpa using hu1.symm
  rw [hcell]
  rw [hut] at hok
  simp only [Cell.ok, hu] at hok
  cases hv : cs[0] <;> rw [hv] at hok <;> simp at hok
  obtain ⟨rfl, _⟩ := hok
  exact ⟨_, rfl⟩
theorem maxL_of_shape {w : World} (h : w.ShapedOpen Tryz.prog) : MaxL w :=
  int_of_shape (zero := #[.int .i64 0]) (t := 3) h (of_decide_eq_true (by kernel_rfl)) (by kernel_rfl) rfl (by kernel_rfl) (by kernel_rfl) Tryz.underlying3

end Go.Proofs.YtmecdjincmkofaaGreatDoor
