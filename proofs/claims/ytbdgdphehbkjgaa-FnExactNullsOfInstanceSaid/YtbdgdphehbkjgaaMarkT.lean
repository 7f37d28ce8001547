/-
  Walks and plain lemmas for the laws of this seat: what single Go functions return, for every argument.
-/
import Derived.Test.YtbdgdphehbkjgaaBase
import Derived.Test.YtbdgdphehbkjgaaFmt
namespace Go.Proofs.Ytbdgdphehbkjgaa
open Go.RowKit

def mText (n : Nat) : ByteArray := (⟨#[109]⟩ : ByteArray) ++ ⟨(Lib.decDigits n).toArray⟩
set_option maxHeartbeats 1600000 in
set_option maxRecDepth 100000 in
theorem markText_any (n : Nat) (w : World) (h0 : 1 ≤ n) (hn : n ≤ 9223372036854775807) :
    Calls Try.prog 115 #[.int .i64 (n : Int)] w fun e w' => e = .returned (.string (mText n)) ∧ Below w.heap.size w w' := by
  have hdl := dd_len n (by omega)
  have h1 : ByteArray.size ⟨#[109]⟩ = 1 := rfl
  go_enter Try.func115, Try.ntmps115
  go_wp2
  go_loopw [0, 3] (fun x o wr => ∃ m : Nat, ∃ ob : ByteArray, m ≤ n ∧ x = .int .i64 (m : Int) ∧ o = .string ob ∧ DigInv n m ob ∧ Below w.heap.size w wr) (fun x _ _ => (intOf x).toNat)
  case atStart => exact ⟨n, ⟨#[]⟩, by omega, rfl, rfl, DigInv.zero n (by omega), Below.refl _ _⟩
  case round =>
    obtain ⟨m, ob, hm, rfl, rfl, hI, hW⟩ := hrel
    have hz := hW.size
    have hsz := hI.2
    by_cases hm0 : 0 < m
    · have hI' := hI.step hm0 (by omega)
      have hc := conv_one wr (48 + (m : Int) % 10) (by omega) (by omega)
      have hs1 : ByteArray.size ⟨#[byteI (48 + (m : Int) % 10)]⟩ = 1 := rfl
      go_wp2
      go_roundw
      case rel => exact ⟨m / 10, _, by omega, by go_num, rfl, hI', hW.trans ((Below.refl _ _).alloc hz _)⟩
      case measure => simp [intOf]; omega
    · obtain rfl : m = 0 := by omega
      have HD := Lib.hid hI.done
      go_wp2
      go_ret
      exact ⟨ret_str (by rw [HD.out]; rfl), hW⟩

end Go.Proofs.Ytbdgdphehbkjgaa
