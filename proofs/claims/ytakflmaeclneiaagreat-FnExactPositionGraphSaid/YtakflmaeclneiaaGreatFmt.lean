/-
  Walks and plain lemmas for the laws of this seat: what single Go functions return, for every argument.
-/
import Derived.Lib.ItoaNum
import Derived.Lib.ItoaLen
import Derived.Test.YtakflmaeclneiaaGreatBase
import Derived.Test.YtakflmaeclneiaaGreatTyDepS
namespace Go.Proofs.YtakflmaeclneiaaGreat
open Go.RowKit

/-- the digits of m, none for 0 -/
def dd (m : Nat) : List UInt8 := if m = 0 then [] else Lib.decDigits m
theorem decDigits_rec (u : Nat) : Lib.decDigits u = if u < 10 then [UInt8.ofNat (48 + u)] else Lib.decDigits (u / 10) ++ [UInt8.ofNat (48 + u % 10)] := by
  rw [Lib.decDigits]; split <;> rfl
theorem dd_step (m : Nat) (h : 0 < m) : dd m = dd (m / 10) ++ [byteI (48 + (m : Int) % 10)] := by
  have hb : byteI (48 + (m : Int) % 10) = UInt8.ofNat (48 + m % 10) := by unfold byteI; rw [show (48 + (m : Int) % 10).toNat = 48 + m % 10 by omega]
  rw [hb]
  unfold dd
  rw [if_neg (by omega), decDigits_rec]
  by_cases h1 : m < 10
  · rw [if_pos h1, if_pos (by omega), Nat.mod_eq_of_lt h1]; rfl
  · rw [if_neg h1, if_neg (by omega)]
/-- what a round of the digits' loop keeps -/
def DigInv (n m : Nat) (o : ByteArray) : Prop := (∃ l : List UInt8, o = ⟨l.toArray⟩ ∧ dd m ++ l = Lib.decDigits n) ∧ o.size ≤ 20
theorem dd_len (n : Nat) (h : n ≤ 9223372036854775808) : (Lib.decDigits n).length ≤ 20 := by
  rw [Lib.decDigits_length]; exact Lib.nDigits_le20 n (by omega)
theorem DigInv.zero (n : Nat) (h : 0 < n) : DigInv n n ⟨#[]⟩ := ⟨⟨[], rfl, by unfold dd; rw [if_neg (by omega), List.append_nil]⟩, by decide⟩
theorem DigInv.step {n m : Nat} {o : ByteArray} (h : DigInv n m o) (hm : 0 < m) (hn : n ≤ 9223372036854775808) : DigInv n (m / 10) ((⟨#[byteI (48 + (m : Int) % 10)]⟩ : ByteArray) ++ o) := by
  obtain ⟨⟨l, rfl, h1⟩, h2⟩ := h
  rw [strOne _ _ l rfl]
  rw [dd_step m hm, List.append_assoc, List.singleton_append] at h1
  refine ⟨⟨_, rfl, h1⟩, ?_⟩
  have := congrArg List.length h1
  have := dd_len n hn
  simp only [List.length_append] at *
  show (byteI (48 + (m : Int) % 10) :: l).toArray.size ≤ 20
  rw [List.size_toArray]; omega
theorem DigInv.done {n : Nat} {o : ByteArray} (h : DigInv n 0 o) : o = ⟨(Lib.decDigits n).toArray⟩ := by
  obtain ⟨⟨l, rfl, h1⟩, _⟩ := h
  have : l = Lib.decDigits n := by simpa [dd] using h1
  rw [this]
theorem itoa_pos (n : Nat) : Lib.itoa (n : Int) = Lib.decDigits n := by unfold Lib.itoa; rw [if_neg (by omega)]; simp
theorem itoa_negN (n : Nat) (h : 0 < n) : Lib.itoa (-(n : Int)) = 45 :: Lib.decDigits n := by unfold Lib.itoa; rw [if_pos (by omega)]; simp

theorem make_deps (w : World) (n : Nat) (hn : n ≤ 1048576) : (Instr.makeSlice 30 (.int .i64 (n : Int)) (.int .i64 (n : Int))).run Tryz.prog w = .ok (.slice (some ⟨w.heap.size, 0, none⟩) n n) (w.alloc (.cells (madeCells #[.slice none 0 0, .slice none 0 0, .bool false, .int .i64 0, .int .i64 0] (n * 5)) 51)) := by
  obtain ⟨i0, hi, hz0, hz1, hz2⟩ := info_parts infoDep
  have hr := run_make (P := Tryz.prog) w 30 51 i0 _ Tryz.underlying30 hi hz0 .i64 .i64 (n : Int) (n : Int) (by omega) (by omega) (by rw [hz2]; omega) (by omega)
  simp only [Int.toNat_natCast, hz1] at hr
  exact hr

end Go.Proofs.YtakflmaeclneiaaGreat
