/-
  Walks and plain lemmas for the laws of this seat: what single Go functions return, for every argument.
-/
import Derived.Test.YtakflmaeclneiaaDoorShelf
import Derived.Lib.LaidTab
import Derived.Lib.AppendIntMem
import Derived.Test.YtakflmaeclneiaaDoorBase
import Derived.Test.YtakflmaeclneiaaDoorFmt
namespace Go.Proofs.YtakflmaeclneiaaDoor
open Go.RowKit

set_option maxHeartbeats 800000 in
set_option maxRecDepth 100000 in
theorem specFormatInt_pos (n : Nat) (w : World) (hn : n ≤ 9223372036854775807) :
    Calls Tryd.prog 15 #[.int .i64 (n : Int)] w fun e w' => e = .returned (.string ⟨(Lib.itoa n).toArray⟩) ∧ Below w.heap.size w w' := by
  by_cases h0 : n = 0
  · subst h0
    have hr : Lib.itoa ((0 : Nat) : Int) = [48] := by rw [itoa_pos, decDigits_rec]; rfl
    rw [hr]
    go_enter Tryd.func15, Tryd.ntmps15
    go_wp2
    go_ret
    exact ⟨rfl, Below.refl _ _⟩
  · rw [itoa_pos]
    have h0' : ((n : Int) == 0) = false := beq_eq_false_iff_ne.2 (by omega)
    have hneg : decide ((n : Int) < 0) = false := by simp
    go_enter Tryd.func15, Tryd.ntmps15
    go_wp2
    go_loopw [0, 3, 5] (fun x o _ wr => ∃ m : Nat, ∃ ob : ByteArray, m ≤ n ∧ x = .int .i64 (m : Int) ∧ o = .string ob ∧ DigInv n m ob ∧ Below w.heap.size w wr) (fun x _ _ _ => (intOf x).toNat)
    case atStart => exact ⟨n, ⟨#[]⟩, by omega, rfl, rfl, DigInv.zero n (by omega), Below.refl _ _⟩
    case round =>
      obtain ⟨m, ob, hm, rfl, rfl, hI, hW⟩ := hrel
      have hz := hW.size
      have hsz := hI.2
      by_cases hm0 : 0 < m
      · have hI' := hI.step hm0 (by omega)
        have hc := conv_one wr (48 + (m : Int) % 10) (by omega) (by omega)
        have hs1 : ByteArray.size ⟨#[byteI (48 + (m : Int) % 10)]⟩ = 1 := rfl
        have hne : ((m : Int) != 0) = true := by rw [bne_iff_ne]; omega
        go_wp2
        go_roundw
        case rel => exact ⟨m / 10, _, by omega, by go_num, rfl, hI', hW.trans ((Below.refl _ _).alloc hz _)⟩
        case measure => simp [intOf]; omega
      · obtain rfl : m = 0 := by omega
        have HD := Lib.hid hI.done
        go_wp2
        go_ret
        exact ⟨ret_str HD.out, hW⟩
theorem neg_tmod10 (m : Nat) : (-(m : Int)).tmod 10 = -((m : Int) % 10) := by rw [Int.neg_tmod, Int.tmod_eq_emod_of_nonneg (by omega)]
theorem neg_tdiv10 (m : Nat) : (-(m : Int)).tdiv 10 = -((m : Int) / 10) := by rw [Int.neg_tdiv, Int.tdiv_eq_ediv_of_nonneg (by omega)]
set_option maxHeartbeats 1600000 in
set_option maxRecDepth 100000 in
theorem specFormatInt_neg (n : Nat) (w : World) (h0 : 0 < n) (hn : n ≤ 9223372036854775808) :
    Calls Tryd.prog 15 #[.int .i64 (-(n : Int))] w fun e w' => e = .returned (.string ⟨(Lib.itoa (-(n : Int))).toArray⟩) ∧ Below w.heap.size w w' := by
  rw [itoa_negN n h0]
  have h0' : (-(n : Int) == 0) = false := beq_eq_false_iff_ne.2 (by omega)
  have hneg : decide (-(n : Int) < 0) = true := by simp; omega
  go_enter Tryd.func15, Tryd.ntmps15
  go_wp2
  go_loopw [0, 3, 5] (fun x o _ wr => ∃ m : Nat, ∃ ob : ByteArray, m ≤ n ∧ x = .int .i64 (-(m : Int)) ∧ o = .string ob ∧ DigInv n m ob ∧ Below w.heap.size w wr) (fun x _ _ _ => (-(intOf x)).toNat)
  case atStart => exact ⟨n, ⟨#[]⟩, by omega, rfl, rfl, DigInv.zero n (by omega), Below.refl _ _⟩
  case round =>
    obtain ⟨m, ob, hm, rfl, rfl, hI, hW⟩ := hrel
    have hz := hW.size
    have hsz := hI.2
    by_cases hm0 : 0 < m
    · have hI' := hI.step hm0 (by omega)
      have hc := conv_one wr (48 + (m : Int) % 10) (by omega) (by omega)
      have hs1 : ByteArray.size ⟨#[byteI (48 + (m : Int) % 10)]⟩ = 1 := rfl
      have hne : (-(m : Int) != 0) = true := by rw [bne_iff_ne]; omega
      have q1 := neg_tmod10 m
      have q2 := neg_tdiv10 m
      by_cases hd : 0 < (m : Int) % 10
      · go_wp2
        go_roundw
        case rel => exact ⟨m / 10, _, by omega, by go_num, rfl, hI', hW.trans ((Below.refl _ _).alloc hz _)⟩
        case measure => simp [intOf]; omega
      · have e0 : 48 + -((m : Int) % 10) = 48 + (m : Int) % 10 := by omega
        rw [← e0] at hc hs1 hI'
        clear e0
        go_wp2
        go_roundw
        case rel => exact ⟨m / 10, _, by omega, by go_num, rfl, hI', hW.trans ((Below.refl _ _).alloc hz _)⟩
        case measure => simp [intOf]; omega
    · obtain rfl : m = 0 := by omega
      have HD := Lib.hid hI.done
      go_wp2
      go_ret
      exact ⟨ret_str (by rw [HD.out]; exact strOne 45 _ _ rfl), hW⟩
theorem specFormatInt_any (n : Int) (w : World) (h0 : -9223372036854775808 ≤ n) (h1 : n ≤ 9223372036854775807) :
    Calls Tryd.prog 15 #[.int .i64 n] w fun e w' => e = .returned (.string ⟨(Lib.itoa n).toArray⟩) ∧ Below w.heap.size w w' := by
  by_cases h : 0 ≤ n
  · obtain ⟨m, rfl⟩ := Int.eq_ofNat_of_zero_le h
    exact specFormatInt_pos m w (by omega)
  · have e : n = -((n.natAbs : Nat) : Int) := by omega
    rw [e]; exact specFormatInt_neg n.natAbs w (by omega) (by omega)

/-- the library's table of the powers of ten stands as its text lays it -/
def Tab (w : World) : Prop := Lib.TabIs Tryd.prog w "internal/strconv.uint64pow10" .u64 Lib.pow10Tab
theorem var_below {P : Program} {w w' : World} {n : String} {cs : Array Value} (h : w.var? P n = some cs) (hb : Below w.heap.size w w') : w'.var? P n = some cs := by
  unfold World.var? at h ⊢
  cases hg : P.globalNamed n with
  | none => rw [hg] at h; exact h
  | some g =>
    rw [hg] at h
    simp only [Option.bind_some] at h ⊢
    have hlt : g < w.heap.size := by
      rcases Nat.lt_or_ge g w.heap.size with h1 | h1
      · exact h1
      · rw [Array.getElem?_eq_none h1] at h; cases h
    rw [hb.block g hlt]; exact h
theorem Tab.below {w w' : World} (h : Tab w) (hb : Below w.heap.size w w') : Tab w' := var_below h hb

theorem itoa_below (n : Int) (h0 : -9223372036854775808 ≤ n) (h1 : n ≤ 9223372036854775807) (w : World) (ht : Tab w) :
    Calls Tryd.prog 48 #[.int .i64 n] w fun e w' => e = .returned (.string ⟨(Lib.itoa n).toArray⟩) ∧ Below w.heap.size w w' :=
  (Tryd.strconv_Itoa n h0 h1 w ht).mono fun e w' ⟨he, k, os, hw⟩ => ⟨he, by rw [hw]; exact Lib.below_grow _ w (Nat.le_refl _) k os⟩
set_option maxHeartbeats 400000 in
theorem implFormatInt_any (n : Int) (w : World) (h0 : -9223372036854775808 ≤ n) (h1 : n ≤ 9223372036854775807) (ht : Tab w) :
    Calls Tryd.prog 32 #[.int .i64 n] w fun e w' => e = .returned (.string ⟨(Lib.itoa n).toArray⟩) ∧ Below w.heap.size w w' := by
  go_enter Tryd.func32, Tryd.ntmps32
  go_wp2_with (go_at_call 48; refine (itoa_below n h0 h1 _ ht).mono ?_; rintro e w1 ⟨rfl, hb⟩)
  go_ret
  exact ⟨rfl, hb⟩

/-- a relation, as the proofs speak of it -/
structure Rel where
  name : ByteArray
  arity : Int
  source : Bool
def relV (r : Rel) : Value := .agg #[.string r.name, .int .i64 r.arity, .bool r.source]
/-- one lower-case letter -/
def nameOk (s : ByteArray) : Bool := match s.data.toList with
  | [c] => decide ((97 : Int) ≤ ((c.toNat : Nat) : Int)) && decide (((c.toNat : Nat) : Int) ≤ 122)
  | _ => false
def relOk (s : ByteArray) (a : Int) : Bool := nameOk s && inB a 1 3
theorem nameOk_one (s : ByteArray) (h : s.size = 1) : nameOk s = (decide ((97 : Int) ≤ ((s[0].toNat : Nat) : Int)) && decide (((s[0].toNat : Nat) : Int) ≤ 122)) := by
  obtain ⟨⟨l⟩⟩ := s
  match l, h with
  | [c], _ => rfl
theorem nameOk_ne (s : ByteArray) (h : s.size ≠ 1) : nameOk s = false := by
  obtain ⟨⟨l⟩⟩ := s
  match l, h with
  | [], _ => rfl
  | _ :: _ :: _, _ => rfl
/-- what is left of a size's allowance -/
def szLeft (left n : Int) : Int := if n ≤ left then left - n else -1
theorem szLeft_yes {left n : Int} (h : n ≤ left) : szLeft left n = left - n := if_pos h
theorem szLeft_no {left n : Int} (h : ¬ n ≤ left) : szLeft left n = -1 := if_neg h

end Go.Proofs.YtakflmaeclneiaaDoor
