/-
  Walks and plain lemmas for the laws of this seat: what single Go functions return, for every argument.
-/
import Derived.Test.YtilfddbdoopfiaaBase
namespace Go.Proofs.Ytilfddbdoopfiaa
open Go.RowKit

def beLow : Nat → Nat → List UInt8
  | 0, _ => []
  | k + 1, n => byteI (((n / 256 ^ k : Nat) : Int) % 256) :: beLow k n
theorem beLow_length (k n : Nat) : (beLow k n).length = k := by
  induction k with
  | zero => rfl
  | succ k ih => simp [beLow, ih]
def encodeFixed (n width : Int) : List UInt8 := if 1 ≤ width ∧ width ≤ 7 ∧ 0 ≤ n ∧ n.toNat / 256 ^ width.toNat = 0 then beLow width.toNat n.toNat else []
theorem encodeFixed_no (n width : Int) (h : ¬ (1 ≤ width ∧ width ≤ 7 ∧ 0 ≤ n)) : encodeFixed n width = [] := by
  unfold encodeFixed; rw [if_neg (by omega)]
theorem encodeFixed_big (n k : Nat) (h : 1 ≤ n / 256 ^ k) : encodeFixed n k = [] := by
  unfold encodeFixed; rw [Int.toNat_natCast, Int.toNat_natCast, if_neg (by omega)]
theorem encodeFixed_yes (n k : Nat) (h1 : 1 ≤ k) (h2 : k ≤ 7) (h : n / 256 ^ k = 0) : encodeFixed n k = beLow k n := by
  unfold encodeFixed; rw [Int.toNat_natCast, Int.toNat_natCast, if_pos (by omega)]
theorem pow_2_8 (k : Nat) : 2 ^ (8 * k) = 256 ^ k := by rw [Nat.pow_mul]
theorem shr8 (n k : Nat) : (n : Int) / 2 ^ (8 * k) = ((n / 256 ^ k : Nat) : Int) := by
  rw [← pow_2_8]; simp
theorem beLow_set (m k n : Nat) (h : k < m) : (List.replicate (m - k) (0 : UInt8) ++ beLow k n).set (m - 1 - k) (byteI (((n / 256 ^ k : Nat) : Int) % 256)) = List.replicate (m - (k + 1)) 0 ++ beLow (k + 1) n := by
  rw [List.set_append_left _ _ (by simp; omega), show m - k = (m - 1 - k) + 1 by omega, List.replicate_succ']
  rw [List.set_append_right _ _ (by simp)]
  simp only [List.length_replicate, Nat.sub_self, List.set_cons_zero, List.append_assoc, List.singleton_append, beLow]
  rw [show m - 1 - k = m - (k + 1) by omega]

set_option maxHeartbeats 400000 in
theorem l1In_any (x lo hi : Int) (w : World) :
    Calls Try.prog 21 #[.int .i64 x, .int .i64 lo, .int .i64 hi] w fun e w' => e = .returned (.bool (inB x lo hi)) ∧ w = w' := by
  by_cases h1 : lo ≤ x
  all_goals
    go_enter Try.func21, Try.ntmps21
    go_wp2
    go_ret
    simp [inB]
    first | omega | skip

set_option maxHeartbeats 800000 in
set_option maxRecDepth 100000 in
theorem specEncodeFixed_any (n width : Int) (w : World) (hn : n ≤ 9223372036854775807) :
    Calls Try.prog 9 #[.int .i64 n, .int .i64 width] w fun e w' => e = .returned (.string ⟨(encodeFixed n width).toArray⟩) ∧ Below w.heap.size w w' := by
  by_cases h1 : inB width 1 7 = true
  · have hw : 1 ≤ width ∧ width ≤ 7 := by simpa [inB] using h1
    by_cases h2 : n < 0
    · rw [encodeFixed_no n width (by omega)]
      go_enter Try.func9, Try.ntmps9
      go_wp2_with (go_at_call 21; refine (l1In_any _ _ _ _).mono ?_; rintro e w' ⟨rfl, rfl⟩)
      go_ret
      exact ⟨rfl, Below.refl _ _⟩
    · obtain ⟨n, rfl⟩ := Int.eq_ofNat_of_zero_le (a := n) (by omega)
      obtain ⟨m, rfl⟩ := Int.eq_ofNat_of_zero_le (a := width) (by omega)
      go_enter Try.func9, Try.ntmps9
      go_wp2_with (go_at_call 21; refine (l1In_any _ _ _ _).mono ?_; rintro e w' ⟨rfl, rfl⟩)
      go_loopw [0, 5, 6] (fun n' o i wr => ∃ k : Nat, ∃ ob : ByteArray, k ≤ m ∧ i = .int .i64 k ∧ n' = .int .i64 ((n / 256 ^ k : Nat) : Int) ∧ o = .string ob ∧ Hid (ob = ⟨(beLow k n).toArray⟩) ∧ Below w.heap.size w wr) (fun _ _ i _ => m - (intOf i).toNat)
      case atStart => exact ⟨0, ⟨#[]⟩, by omega, rfl, by simp, rfl, rfl, Below.refl _ _⟩
      case round =>
        obtain ⟨k, ob, hk, rfl, rfl, rfl, ho, hW⟩ := hrel
        have hsz : ob.size = k := by rw [ho.out]; simp [ByteArray.size, beLow_length]
        have hsz' : ob.size ≤ 7 := by omega
        have hz := hW.size
        by_cases hlt : k < m
        · have HN : Hid (n / 256 ^ (k + 1) = n / 256 ^ k / 256) := by unfold Hid; rw [Nat.pow_succ, Nat.div_div_eq_div_mul]
          have hNn : n / 256 ^ k ≤ n := Nat.div_le_self _ _
          have HO : Hid ((⟨#[byteI (((n / 256 ^ k : Nat) : Int) % 256)]⟩ : ByteArray) ++ ob = ⟨(beLow (k + 1) n).toArray⟩) := Lib.hid (strOne (byteI (((n / 256 ^ k : Nat) : Int) % 256)) ob _ ho.out)
          clear hsz
          generalize n / 256 ^ k = N at *
          have hc := conv_one wr ((N : Int) % 256) (by omega) (by omega)
          have hs1 : ByteArray.size ⟨#[byteI ((N : Int) % 256)]⟩ = 1 := rfl
          go_wp2
          go_roundw
          case rel => exact ⟨k + 1, _, by omega, by go_num, by rw [HN.out]; go_num, rfl, HO.out, hW.trans ((Below.refl _ _).alloc hz _)⟩
          case measure => simp [intOf]; omega
        · obtain rfl : k = m := by omega
          have hNn : n / 256 ^ k ≤ n := Nat.div_le_self _ _
          by_cases hb : 1 ≤ n / 256 ^ k
          · have HB := Lib.hid (encodeFixed_big n k hb)
            generalize n / 256 ^ k = N at *
            go_wp2
            go_ret
            exact ⟨ret_str (by rw [HB.out]), hW⟩
          · have HB := Lib.hid (encodeFixed_yes n k (by omega) (by omega) (Nat.lt_one_iff.1 (Nat.not_le.1 hb)))
            generalize n / 256 ^ k = N at *
            go_wp2
            go_ret
            exact ⟨ret_str (by rw [HB.out, ← ho.out]), hW⟩
  · rw [encodeFixed_no n width (by simp [inB] at h1; omega)]
    go_enter Try.func9, Try.ntmps9
    go_wp2_with (go_at_call 21; refine (l1In_any _ _ _ _).mono ?_; rintro e w' ⟨rfl, rfl⟩)
    go_ret
    exact ⟨rfl, Below.refl _ _⟩

set_option maxHeartbeats 400000 in
theorem isFixedWidth_any (x : Int) (w : World) :
    Calls Try.prog 22 #[.int .i64 x] w fun e w' => e = .returned (.bool (inB x 1 7)) ∧ w = w' := by
  by_cases h1 : 1 ≤ x
  all_goals
    go_enter Try.func22, Try.ntmps22
    go_wp2
    go_ret
    simp [inB]
    first | omega | skip

set_option maxHeartbeats 800000 in
set_option maxRecDepth 100000 in
theorem implEncodeFixed_any (n width : Int) (w : World) (hn : n ≤ 9223372036854775807) :
    Calls Try.prog 10 #[.int .i64 n, .int .i64 width] w fun e w' => e = .returned (.string ⟨(encodeFixed n width).toArray⟩) ∧ Below w.heap.size w w' := by
  by_cases h1 : inB width 1 7 = true
  · have hw : 1 ≤ width ∧ width ≤ 7 := by simpa [inB] using h1
    by_cases h2 : n < 0
    · rw [encodeFixed_no n width (by omega)]
      go_enter Try.func10, Try.ntmps10
      go_wp2_with (go_at_call 22; refine (isFixedWidth_any _ _).mono ?_; rintro e w' ⟨rfl, rfl⟩)
      go_ret
      exact ⟨rfl, Below.refl _ _⟩
    · obtain ⟨n, rfl⟩ := Int.eq_ofNat_of_zero_le (a := n) (by omega)
      obtain ⟨m, rfl⟩ := Int.eq_ofNat_of_zero_le (a := width) (by omega)
      by_cases hb : 1 ≤ n / 256 ^ m
      · rw [encodeFixed_big n m hb]
        have hs : ((n : Int) / 2 ^ (8 * m) != 0) = true := by rw [shr8, bne_iff_ne]; omega
        go_enter Try.func10, Try.ntmps10
        go_wp2_with (go_at_call 22; refine (isFixedWidth_any _ _).mono ?_; rintro e w' ⟨rfl, rfl⟩)
        go_ret
        exact ⟨rfl, Below.refl _ _⟩
      · have hb0 := Nat.lt_one_iff.1 (Nat.not_le.1 hb)
        have hs : ((n : Int) / 2 ^ (8 * m) != 0) = false := by rw [shr8, hb0]; rfl
        rw [encodeFixed_yes n m (by omega) (by omega) hb0]
        clear hb hb0
        have hmk : ∀ w, (Instr.makeSlice 36 (.int .i64 (m : Int)) (.int .i64 (m : Int))).run Try.prog w = .ok (.slice (some ⟨w.heap.size, 0, none⟩) m m) (w.alloc (.cells (madeCells #[.int .u8 0] m) 5)) := fun w => make_bytes w m m (by omega) (by omega)
        go_enter Try.func10, Try.ntmps10
        go_wp2_with (go_at_call 22; refine (isFixedWidth_any _ _).mono ?_; rintro e w' ⟨rfl, rfl⟩)
        go_loopw [25] (fun i wr => ∃ k : Nat, k ≤ m ∧ i = .int .i64 k ∧ Buf w.heap.size (.slice (some ⟨w.heap.size, 0, none⟩) m m) (List.replicate (m - k) 0 ++ beLow k n) wr ∧ Below w.heap.size w wr) (fun i _ => m - (intOf i).toNat)
        case atStart => exact ⟨0, by omega, rfl, by simpa [beLow] using Buf.full w m (by omega) _ (Nat.le_refl _), (Below.refl _ _).alloc (Nat.le_refl _) _⟩
        case round =>
          obtain ⟨k, hk, rfl, hB, hW⟩ := hrel
          have hlen : (List.replicate (m - k) (0 : UInt8) ++ beLow k n).length = m := by simp [beLow_length]; omega
          by_cases hlt : k < m
          · have hc := hB.cellAt hlen (m - 1 - k) (by omega)
            have hf := hB.frozenAt hlen (m - 1 - k)
            have hS := hB.set hlen (m - 1 - k) (((n / 256 ^ k : Nat) : Int) % 256) (by omega) (by omega)
            rw [beLow_set m k n hlt] at hS
            have hsh := shr8 n k
            have hwr : IntKind.u8.wrap ((n / 256 ^ k : Nat) : Int) = ((n / 256 ^ k : Nat) : Int) % 256 := IntKind.wrap_u8 _
            clear hlen
            have hS' := Lib.hid hS
            clear hS
            generalize n / 256 ^ k = N at *
            go_wp2
            go_roundw
            case rel => exact ⟨k + 1, by omega, by go_num, hS'.out, hW.setCell (Nat.le_refl _) _⟩
            case measure => simp [intOf]; omega
          · obtain rfl : k = m := by omega
            have hc := hB.str
            rw [Nat.sub_self, List.replicate_zero, List.nil_append] at hc
            go_wp2
            go_ret
            exact ⟨rfl, hW⟩
  · rw [encodeFixed_no n width (by simp [inB] at h1; omega)]
    go_enter Try.func10, Try.ntmps10
    go_wp2_with (go_at_call 22; refine (isFixedWidth_any _ _).mono ?_; rintro e w' ⟨rfl, rfl⟩)
    go_ret
    exact ⟨rfl, Below.refl _ _⟩

/-- big-endian value of bytes -/
def beNat (l : List UInt8) : Nat := l.foldl (fun n b => n * 256 + b.toNat) 0
theorem beNat_snoc (l : List UInt8) (b : UInt8) : beNat (l ++ [b]) = beNat l * 256 + b.toNat := by
  unfold beNat; rw [List.foldl_append]; rfl
theorem foldl_be_lt (l : List UInt8) : ∀ a : Nat, l.foldl (fun n b => n * 256 + b.toNat) a < (a + 1) * 256 ^ l.length := by
  induction l with
  | nil => intro a; simp
  | cons b l ih =>
    intro a
    have hb := b.toNat_lt
    refine Nat.lt_of_lt_of_le (ih _) ?_
    rw [List.length_cons, Nat.pow_succ, Nat.mul_comm (256 ^ l.length) 256, ← Nat.mul_assoc]
    exact Nat.mul_le_mul_right _ (show a * 256 + b.toNat + 1 ≤ (a + 1) * 256 by omega)
theorem beNat_lt (l : List UInt8) : beNat l < 256 ^ l.length := by
  have := foldl_be_lt l 0; simpa [beNat] using this
def decodeFixed (s : List UInt8) (width : Int) : Int × Bool :=
  if 1 ≤ width ∧ width ≤ 7 ∧ width ≤ s.length then (((beNat (s.take width.toNat) : Nat) : Int), true) else (0, false)
theorem decodeFixed_no (s : List UInt8) (width : Int) (h : ¬ (1 ≤ width ∧ width ≤ 7 ∧ width ≤ s.length)) : decodeFixed s width = (0, false) := by
  simp only [decodeFixed, if_neg h]
theorem decodeFixed_yes (s : List UInt8) (k : Nat) (h : 1 ≤ k ∧ k ≤ 7 ∧ k ≤ s.length) : decodeFixed s k = (((beNat (s.take k) : Nat) : Int), true) := by
  simp only [decodeFixed]; rw [if_pos (by omega), Int.toNat_natCast]
theorem pow256_le (k : Nat) (h : k ≤ 6) : 256 ^ k ≤ 281474976710656 := by
  calc 256 ^ k ≤ 256 ^ 6 := Nat.pow_le_pow_right (by omega) h
    _ = _ := by decide

set_option maxHeartbeats 400000 in
theorem specDecodeFixed_any (s : ByteArray) (width : Int) (w : World) (hs : s.size ≤ maxLen) :
    Calls Try.prog 11 #[.string s, .int .i64 width] w fun e w' => e = .returned (.tuple #[.int .i64 (decodeFixed s.data.toList width).1, .bool (decodeFixed s.data.toList width).2]) ∧ w = w' := by
  unfold maxLen at hs
  by_cases h1 : inB width 1 7 = true
  · have hw : 1 ≤ width ∧ width ≤ 7 := by simpa [inB] using h1
    by_cases h2 : (s.size : Int) < width
    · rw [decodeFixed_no _ _ (by simp; omega)]
      go_enter Try.func11, Try.ntmps11
      go_wp2_with (go_at_call 21; refine (l1In_any _ _ _ _).mono ?_; rintro e w' ⟨rfl, rfl⟩)
      go_ret2
      exact ⟨rfl, rfl⟩
    · obtain ⟨n, rfl⟩ := Int.eq_ofNat_of_zero_le (a := width) (by omega)
      rw [decodeFixed_yes _ n (by simp; omega)]
      go_enter Try.func11, Try.ntmps11
      go_wp2_with (go_at_call 21; refine (l1In_any _ _ _ _).mono ?_; rintro e w' ⟨rfl, rfl⟩)
      go_loop [6, 7] (fun n' i => ∃ k : Nat, k ≤ n ∧ i = .int .i64 k ∧ n' = .int .i64 ((beNat (s.data.toList.take k) : Nat) : Int)) (fun _ i => n - (intOf i).toNat)
      case atStart => exact ⟨0, Nat.zero_le _, rfl, rfl⟩
      case round =>
        obtain ⟨k, hk, rfl, rfl⟩ := hrel
        by_cases hlt : k < n
        · have hks : k < s.size := by omega
          have hb := beNat_lt (s.data.toList.take k)
          have hp := pow256_le k (by omega)
          rw [List.length_take_of_le (by simp; omega)] at hb
          have hbb : beNat (s.data.toList.take k) < 281474976710656 := by omega
          have hx := (s[k]).toNat_lt
          have HS : Hid (beNat (s.data.toList.take (k + 1)) = beNat (s.data.toList.take k) * 256 + s[k].toNat) := by rw [take_snoc s k hks]; exact beNat_snoc _ _
          clear hb hp
          generalize beNat (s.data.toList.take k) = N at *
          go_wp2
          go_round
          case rel => exact ⟨k + 1, by omega, by go_num, by rw [HS.out]; go_num⟩
          case measure => simp [intOf]; omega
        · have hkn : k = n := by omega
          subst hkn
          go_wp2
          go_ret2
          exact ⟨rfl, rfl⟩
  · rw [decodeFixed_no _ _ (by simp [inB] at h1; omega)]
    go_enter Try.func11, Try.ntmps11
    go_wp2_with (go_at_call 21; refine (l1In_any _ _ _ _).mono ?_; rintro e w' ⟨rfl, rfl⟩)
    go_ret2
    exact ⟨rfl, rfl⟩

set_option maxHeartbeats 400000 in
theorem implDecodeFixed_any (s : ByteArray) (width : Int) (w : World) (hs : s.size ≤ maxLen) :
    Calls Try.prog 12 #[.string s, .int .i64 width] w fun e w' => e = .returned (.tuple #[.int .i64 (decodeFixed s.data.toList width).1, .bool (decodeFixed s.data.toList width).2]) ∧ w = w' := by
  unfold maxLen at hs
  by_cases h1 : inB width 1 7 = true
  · have hw : 1 ≤ width ∧ width ≤ 7 := by simpa [inB] using h1
    by_cases h2 : (s.size : Int) < width
    · rw [decodeFixed_no _ _ (by simp; omega)]
      go_enter Try.func12, Try.ntmps12
      go_wp2_with (go_at_call 22; refine (isFixedWidth_any _ _).mono ?_; rintro e w' ⟨rfl, rfl⟩)
      go_ret2
      exact ⟨rfl, rfl⟩
    · obtain ⟨n, rfl⟩ := Int.eq_ofNat_of_zero_le (a := width) (by omega)
      rw [decodeFixed_yes _ n (by simp; omega)]
      go_enter Try.func12, Try.ntmps12
      go_wp2_with (go_at_call 22; refine (isFixedWidth_any _ _).mono ?_; rintro e w' ⟨rfl, rfl⟩)
      go_loop [6, 18] (fun n' i => ∃ k : Nat, k ≤ n ∧ i = .int .i64 k ∧ n' = .int .i64 ((beNat (s.data.toList.take k) : Nat) : Int)) (fun _ i => n - (intOf i).toNat)
      case atStart => exact ⟨0, Nat.zero_le _, rfl, rfl⟩
      case round =>
        obtain ⟨k, hk, rfl, rfl⟩ := hrel
        by_cases hlt : k < n
        · have hks : k < s.size := by omega
          have hb := beNat_lt (s.data.toList.take k)
          have hp := pow256_le k (by omega)
          rw [List.length_take_of_le (by simp; omega)] at hb
          have hbb : beNat (s.data.toList.take k) < 281474976710656 := by omega
          have hx := (s[k]).toNat_lt
          have HS : Hid (beNat (s.data.toList.take (k + 1)) = beNat (s.data.toList.take k) * 256 + s[k].toNat) := by rw [take_snoc s k hks]; exact beNat_snoc _ _
          clear hb hp
          generalize beNat (s.data.toList.take k) = N at *
          have hor : bits .or .i64 ((N : Int) * 256) ((s[k].toNat : Nat) : Int) = (N : Int) * 256 + ((s[k].toNat : Nat) : Int) := i64_or 8 _ _ (by omega) (by omega) (by omega) (by omega) (by omega) (by omega)
          go_wp2
          go_round
          case rel => exact ⟨k + 1, by omega, by go_num, by rw [HS.out]; go_num⟩
          case measure => simp [intOf]; omega
        · have hkn : k = n := by omega
          subst hkn
          go_wp2
          go_ret2
          exact ⟨rfl, rfl⟩
  · rw [decodeFixed_no _ _ (by simp [inB] at h1; omega)]
    go_enter Try.func12, Try.ntmps12
    go_wp2_with (go_at_call 22; refine (isFixedWidth_any _ _).mono ?_; rintro e w' ⟨rfl, rfl⟩)
    go_ret2
    exact ⟨rfl, rfl⟩

def leb (n : Nat) : List UInt8 := if h : n < 128 then [UInt8.ofNat n] else UInt8.ofNat (128 + n % 128) :: leb (n / 128)
  termination_by n
  decreasing_by omega
theorem leb_lt (n : Nat) (h : n < 128) : leb n = [UInt8.ofNat n] := by rw [leb, dif_pos h]
theorem leb_ge (n : Nat) (h : 128 ≤ n) : leb n = UInt8.ofNat (128 + n % 128) :: leb (n / 128) := by rw [leb, dif_neg (by omega)]
theorem leb_len_le (j : Nat) : ∀ n, n < 128 ^ (j + 1) → (leb n).length ≤ j + 1 := by
  induction j with
  | zero => intro n h; rw [leb_lt n (by simpa using h)]; simp
  | succ j ih =>
    intro n h
    by_cases hn : n < 128
    · rw [leb_lt n hn]; simp
    · rw [leb_ge n (by omega), List.length_cons]
      have := ih (n / 128) (by rw [Nat.div_lt_iff_lt_mul (by decide)]; rw [Nat.pow_succ] at h; exact h)
      omega
theorem leb_len7 (n : Nat) (h : n ≤ 562949953421311) : (leb n).length ≤ 7 := leb_len_le 6 n (by rw [show 128 ^ (6 + 1) = 562949953421312 from rfl]; omega)
def encodeVarint (n : Int) : List UInt8 := if 0 ≤ n ∧ n ≤ 562949953421311 then leb n.toNat else []
theorem encodeVarint_yes (n : Nat) (h : n ≤ 562949953421311) : encodeVarint n = leb n := by unfold encodeVarint; rw [if_pos (by omega)]; rfl
theorem encodeVarint_no (n : Int) (h : ¬ (0 ≤ n ∧ n ≤ 562949953421311)) : encodeVarint n = [] := by unfold encodeVarint; rw [if_neg h]
/-- what a round of the varint loops keeps: what is written and what is left -/
def LebInv (n : Nat) (k : Nat) (l : List UInt8) : Prop := l ++ leb k = leb n
theorem LebInv.len {n k : Nat} {l : List UInt8} (h : LebInv n k l) (hn : n ≤ 562949953421311) : l.length ≤ 7 := by
  have := congrArg List.length h; rw [List.length_append] at this; have := leb_len7 n hn; omega
theorem LebInv.step {n k : Nat} {l : List UInt8} (h : LebInv n k l) (hk : 128 ≤ k) : LebInv n (k / 128) (l ++ [byteI (128 + (k : Int) % 128)]) := by
  unfold LebInv at *
  rw [← h, leb_ge k hk, List.append_assoc, List.singleton_append]
  congr 3
theorem LebInv.last {n k : Nat} {l : List UInt8} (h : LebInv n k l) (hk : k < 128) : l ++ [byteI k] = leb n := by
  unfold LebInv at h; rw [← h, leb_lt k hk]; rfl

set_option maxHeartbeats 400000 in
set_option maxRecDepth 100000 in
theorem specEncodeVarint_any (n : Int) (w : World) :
    Calls Try.prog 13 #[.int .i64 n] w fun e w' => e = .returned (.string ⟨(encodeVarint n).toArray⟩) ∧ Below w.heap.size w w' := by
  by_cases h1 : inB n 0 562949953421311 = true
  · have hw : 0 ≤ n ∧ n ≤ 562949953421311 := by simpa [inB] using h1
    obtain ⟨n, rfl⟩ := Int.eq_ofNat_of_zero_le hw.1
    rw [encodeVarint_yes n (by omega)]
    go_enter Try.func13, Try.ntmps13
    go_wp2_with (go_at_call 21; refine (l1In_any _ _ _ _).mono ?_; rintro e w' ⟨rfl, rfl⟩)
    go_loopw [0, 3] (fun x b wr => ∃ k : Nat, ∃ l : List UInt8, x = .int .i64 k ∧ LebInv n k l ∧ k ≤ 562949953421311 ∧ Buf w.heap.size b l wr ∧ Below w.heap.size w wr) (fun x _ _ => (intOf x).toNat)
    case atStart => exact ⟨n, [], rfl, rfl, by omega, World.ownsRow_made _ _ _ (Nat.le_refl _) (by decide) rfl, (Below.refl _ _).alloc (Nat.le_refl _) _⟩
    case round =>
      obtain ⟨k, l, rfl, hl, hk, hB, hW⟩ := hrel
      have hlen := hl.len (by omega)
      have hz := hW.size
      by_cases hlt : 128 ≤ k
      · have hl' := hl.step hlt
        go_wp2_with (at_builtin; refine buf_app1 hB rfl _ _ rfl rfl _ rfl (by omega) (by omega) (by omega) (by omega) ?_)
        intro v' w' hB' hW'
        go_wp2
        go_roundw
        case rel => exact ⟨k / 128, _, by go_num, hl', by omega, hB', hW.trans hW'⟩
        case measure => simp [intOf]; omega
      · have hl' := hl.last (by omega)
        have hl'' := Lib.hid hl'
        clear hl'
        go_wp2_with (at_builtin; refine buf_app1 hB rfl _ _ rfl rfl _ rfl (by omega) (by omega) (by omega) (by omega) ?_)
        intro v' w' hB' hW'
        have hc := hB'.str
        rw [hl''.out] at hc
        go_wp2
        go_ret
        exact ⟨rfl, hW.trans hW'⟩
  · rw [encodeVarint_no n (by simpa [inB] using h1)]
    go_enter Try.func13, Try.ntmps13
    go_wp2_with (go_at_call 21; refine (l1In_any _ _ _ _).mono ?_; rintro e w' ⟨rfl, rfl⟩)
    go_ret
    exact ⟨rfl, Below.refl _ _⟩

set_option maxHeartbeats 400000 in
set_option maxRecDepth 100000 in
theorem implEncodeVarint_any (n : Int) (w : World) :
    Calls Try.prog 14 #[.int .i64 n] w fun e w' => e = .returned (.string ⟨(encodeVarint n).toArray⟩) ∧ Below w.heap.size w w' := by
  by_cases h1 : 0 ≤ n
  · by_cases h2 : n ≤ 562949953421311
    · obtain ⟨n, rfl⟩ := Int.eq_ofNat_of_zero_le h1
      rw [encodeVarint_yes n (by omega)]
      have hmk : ∀ w, (Instr.makeSlice 36 (.int .i64 0) (.int .i64 7)).run Try.prog w = .ok (.slice (some ⟨w.heap.size, 0, none⟩) 0 7) (w.alloc (.cells (madeCells #[.int .u8 0] 7) 5)) := fun w => make_bytes w 0 7 (by decide) (by decide)
      go_enter Try.func14, Try.ntmps14
      go_wp2
      go_loopw [0, 3] (fun x b wr => ∃ k : Nat, ∃ l : List UInt8, x = .int .i64 k ∧ LebInv n k l ∧ k ≤ 562949953421311 ∧ Buf w.heap.size b l wr ∧ Below w.heap.size w wr) (fun x _ _ => (intOf x).toNat)
      case atStart => exact ⟨n, [], rfl, rfl, by omega, Buf.made _ 7 (by decide) _ (Nat.le_refl _), (Below.refl _ _).alloc (Nat.le_refl _) _⟩
      case round =>
        obtain ⟨k, l, rfl, hl, hk, hB, hW⟩ := hrel
        have hlen := hl.len (by omega)
        have hz := hW.size
        by_cases hlt : 128 ≤ k
        · have hl' := hl.step hlt
          have ha : bits .and .i64 (k : Int) 127 = (k : Int) % 128 := i64_and 7 k (by decide) (by omega) (by omega)
          have ho : bits .or .i64 ((k : Int) % 128) 128 = 128 + (k : Int) % 128 := by rw [bits_or_comm]; exact i64_or 7 128 _ (by decide) (by decide) (by decide) (by omega) (by omega) (by omega)
          go_wp2_with (at_builtin; refine buf_app1 hB rfl _ _ rfl rfl _ rfl (by omega) (by omega) (by omega) (by omega) ?_)
          intro v' w' hB' hW'
          go_wp2
          go_roundw
          case rel => exact ⟨k / 128, _, by go_num, hl', by omega, hB', hW.trans hW'⟩
          case measure => simp [intOf]; omega
        · have hl' := hl.last (by omega)
          have hl'' := Lib.hid hl'
          clear hl'
          go_wp2_with (at_builtin; refine buf_app1 hB rfl _ _ rfl rfl _ rfl (by omega) (by omega) (by omega) (by omega) ?_)
          intro v' w' hB' hW'
          have hc := hB'.str
          rw [hl''.out] at hc
          go_wp2
          go_ret
          exact ⟨rfl, hW.trans hW'⟩
    · rw [encodeVarint_no n (by omega)]
      go_enter Try.func14, Try.ntmps14
      go_wp2
      go_ret
      exact ⟨rfl, Below.refl _ _⟩
  · rw [encodeVarint_no n (by omega)]
    go_enter Try.func14, Try.ntmps14
    go_wp2
    go_ret
    exact ⟨rfl, Below.refl _ _⟩

def leVal : List UInt8 → Nat
  | [] => 0
  | b :: t => b.toNat % 128 + 128 * leVal t
def canon : List UInt8 → Bool
  | [] => false
  | [b] => decide (b.toNat < 128)
  | b :: c :: t => decide (128 ≤ b.toNat) && canon (c :: t) && !(decide (c.toNat = 0) && t.isEmpty)
def allHi (l : List UInt8) : Prop := ∀ b ∈ l, 128 ≤ b.toNat
theorem leVal_lt (l : List UInt8) : leVal l < 128 ^ l.length := by
  induction l with
  | nil => simp [leVal]
  | cons b t ih => rw [leVal, List.length_cons, Nat.pow_succ]; omega
theorem leVal_snoc (l : List UInt8) (b : UInt8) : leVal (l ++ [b]) = leVal l + (b.toNat % 128) * 128 ^ l.length := by
  induction l with
  | nil => simp [leVal]
  | cons c t ih =>
    rw [List.cons_append, leVal, ih, leVal, List.length_cons, Nat.pow_succ, Nat.mul_add, ← Nat.add_assoc, Nat.mul_comm (128 ^ t.length) 128, Nat.mul_left_comm 128]
theorem ofNat_inj (b : UInt8) (n : Nat) (hn : n < 256) : UInt8.ofNat n = b ↔ n = b.toNat := by
  constructor
  · intro h; rw [← h, UInt8.toNat_ofNat', Nat.mod_eq_of_lt hn]
  · intro h; rw [h]; exact UInt8.ofNat_toNat
theorem leVal_zero_canon : ∀ (l : List UInt8), canon l = true → leVal l = 0 → ∃ b, l = [b] ∧ b.toNat = 0
  | [b], h, h0 => by
    have : b.toNat < 128 := by simpa [canon] using h
    simp [leVal] at h0; exact ⟨b, rfl, by omega⟩
  | b :: c :: t, h, h0 => by
    simp only [canon, Bool.and_eq_true, decide_eq_true_eq, Bool.not_eq_true', Bool.and_eq_false_iff, decide_eq_false_iff_not] at h
    obtain ⟨⟨_, hc⟩, hz⟩ := h
    rw [leVal] at h0
    obtain ⟨d, hd, hd0⟩ := leVal_zero_canon (c :: t) hc (by omega)
    simp at hd; obtain ⟨rfl, rfl⟩ := hd
    simp at hz; omega
theorem leb_canon : ∀ (l : List UInt8), l ≠ [] → (leb (leVal l) = l ↔ canon l = true)
  | [b], _ => by
    have hb := b.toNat_lt
    simp only [leVal, canon, decide_eq_true_eq, Nat.mul_zero, Nat.add_zero]
    rw [leb_lt _ (by omega)]
    simp only [List.cons.injEq, and_true]
    rw [ofNat_inj b _ (by omega)]; omega
  | b :: c :: t, _ => by
    have hb := b.toNat_lt
    have ih := leb_canon (c :: t) (by simp)
    simp only [canon, Bool.and_eq_true, decide_eq_true_eq, Bool.not_eq_true', Bool.and_eq_false_iff, decide_eq_false_iff_not]
    rw [leVal]
    by_cases hv : leVal (c :: t) = 0
    · rw [hv, leb_lt _ (by omega)]
      constructor
      · intro h; simp at h
      · rintro ⟨⟨_, hc⟩, hz⟩
        obtain ⟨d, hd, hd0⟩ := leVal_zero_canon (c :: t) hc hv
        simp at hd; obtain ⟨rfl, rfl⟩ := hd
        simp at hz; omega
    · rw [leb_ge _ (by omega), show (b.toNat % 128 + 128 * leVal (c :: t)) / 128 = leVal (c :: t) by omega, show (b.toNat % 128 + 128 * leVal (c :: t)) % 128 = b.toNat % 128 by omega]
      rw [List.cons.injEq, ih, ofNat_inj b _ (by omega)]
      constructor
      · rintro ⟨h1, h2⟩
        refine ⟨⟨by omega, h2⟩, ?_⟩
        by_cases hc0 : c.toNat = 0
        · right
          cases t with
          | nil => exfalso; apply hv; simp [leVal, hc0]
          | cons d t => rfl
        · exact Or.inl hc0
      · rintro ⟨⟨h1, h2⟩, _⟩
        exact ⟨by omega, h2⟩
theorem canon_snoc : ∀ (l : List UInt8) (b : UInt8), allHi l → canon (l ++ [b]) = (decide (b.toNat < 128) && (l.isEmpty || decide (b.toNat ≠ 0)))
  | [], b, _ => by simp [canon]
  | [c], b, h => by
    have := h c (by simp)
    simp [canon, this]
  | c :: d :: t, b, h => by
    have h1 := h c (by simp)
    have ih := canon_snoc (d :: t) b (fun x hx => h x (by simp at hx ⊢; right; exact hx))
    rw [List.cons_append] at ih ⊢
    show (decide (128 ≤ c.toNat) && canon (d :: (t ++ [b])) && !(decide (d.toNat = 0) && (t ++ [b]).isEmpty)) = _
    rw [show canon (d :: (t ++ [b])) = _ from ih]
    simp [h1]
theorem canon_low : ∀ (l t : List UInt8) (b : UInt8), b.toNat < 128 → t ≠ [] → canon (l ++ b :: t) = false
  | [], [], b, _, h => absurd rfl h
  | [], c :: t, b, hb, _ => by simp [canon]; omega
  | [c], t, b, hb, h => by
    have ih := canon_low [] t b hb h
    simp only [List.nil_append] at ih
    simp [canon, ih]
  | c :: d :: l, t, b, hb, h => by
    have ih := canon_low (d :: l) t b hb h
    simp only [List.cons_append] at ih ⊢
    simp [canon, ih]
def dvFrom (s : List UInt8) : Nat → Nat → Nat × Nat
  | 0, _ => (0, 0)
  | f + 1, k => if k + 1 ≤ s.length ∧ canon (s.take (k + 1)) = true then (leVal (s.take (k + 1)), k + 1) else dvFrom s f (k + 1)
def decodeVarint (s : List UInt8) : Nat × Nat := dvFrom s 7 0
theorem dvFrom_short (s : List UInt8) : ∀ f k, s.length ≤ k → dvFrom s f k = (0, 0)
  | 0, _, _ => rfl
  | f + 1, k, h => by rw [dvFrom, if_neg (by omega), dvFrom_short s f (k + 1) (by omega)]
theorem dvFrom_low (s : List UInt8) (i : Nat) (hi : i < s.length) (hb : s[i].toNat < 128) : ∀ f k, i < k → dvFrom s f k = (0, 0)
  | 0, _, _ => rfl
  | f + 1, k, h => by
    rw [dvFrom, if_neg ?_, dvFrom_low s i hi hb f (k + 1) (by omega)]
    rintro ⟨h1, h2⟩
    have : s.take (k + 1) = s.take i ++ s[i] :: (s.take (k + 1)).drop (i + 1) := by
      have h3 := (List.take_append_drop i (s.take (k + 1))).symm
      rw [List.take_take, Nat.min_eq_left (by omega)] at h3
      rw [List.drop_eq_getElem_cons (by simp; omega)] at h3
      simpa using h3
    rw [this, canon_low _ _ _ hb (by intro h0; have := congrArg List.length h0; simp at this; omega)] at h2
    cases h2
/-- what holds before round k: nothing found yet -/
def DvInv (s : List UInt8) (k : Nat) : Prop := k ≤ 7 ∧ decodeVarint s = dvFrom s (7 - k) k
theorem DvInv.zero (s : List UInt8) : DvInv s 0 := ⟨by omega, rfl⟩
theorem DvInv.found {s : List UInt8} {k : Nat} (h : DvInv s k) (hk : k < 7) (hl : k < s.length) (hc : canon (s.take (k + 1)) = true) : decodeVarint s = (leVal (s.take (k + 1)), k + 1) := by
  rw [h.2, show 7 - k = (6 - k) + 1 by omega, dvFrom, if_pos ⟨by omega, hc⟩]
theorem DvInv.next {s : List UInt8} {k : Nat} (h : DvInv s k) (hk : k < 7) (hc : canon (s.take (k + 1)) = false) : DvInv s (k + 1) := by
  refine ⟨by omega, ?_⟩
  rw [h.2, show 7 - k = (6 - k) + 1 by omega, dvFrom, if_neg (by rw [hc]; simp), show 7 - (k + 1) = 6 - k by omega]
theorem DvInv.last {s : List UInt8} {k : Nat} (h : DvInv s k) (hk : 7 ≤ k ∨ s.length ≤ k) : decodeVarint s = (0, 0) := by
  rw [h.2]
  rcases hk with hk | hk
  · rw [show 7 - k = 0 by omega]; rfl
  · exact dvFrom_short s _ k hk
theorem DvInv.low {s : List UInt8} {k : Nat} (h : DvInv s k) (hk : k < 7) (hi : k < s.length) (hb : s[k].toNat < 128) (hc : canon (s.take (k + 1)) = false) : decodeVarint s = (0, 0) := by
  rw [(h.next hk hc).2]; exact dvFrom_low s k hi hb _ _ (by omega)
theorem leVal_drop (l : List UInt8) (i : Nat) (hi : i < l.length) : leVal (l.drop i) = leVal (l.drop (i + 1)) * 128 + l[i].toNat % 128 := by
  rw [List.drop_eq_getElem_cons hi, leVal]; omega
theorem pow128_le (k : Nat) (h : k ≤ 7) : 128 ^ k ≤ 562949953421312 := by
  calc 128 ^ k ≤ 128 ^ 7 := Nat.pow_le_pow_right (by omega) h
    _ = _ := by decide
theorem pow_2_7 (k : Nat) : 2 ^ (7 * k) = 128 ^ k := by rw [Nat.pow_mul]
theorem leVal_step (s : ByteArray) (k : Nat) (h : k < s.size) (h7 : k < 7) :
    leVal (s.data.toList.take (k + 1)) = leVal (s.data.toList.take k) + s[k].toNat % 128 * 128 ^ k ∧ leVal (s.data.toList.take k) < 128 ^ k ∧ s[k].toNat % 128 * 128 ^ k < 562949953421312 := by
  have hlen : (s.data.toList.take k).length = k := by simp; omega
  refine ⟨by rw [take_snoc s k h, leVal_snoc, hlen], by have := leVal_lt (s.data.toList.take k); rwa [hlen] at this, ?_⟩
  have h1 : s[k].toNat % 128 * 128 ^ k < 128 * 128 ^ k := Nat.mul_lt_mul_of_pos_right (Nat.mod_lt _ (by decide)) (Nat.pow_pos (by decide))
  have h2 := pow128_le (k + 1) (by omega)
  rw [Nat.pow_succ] at h2; omega
theorem shl7 (x k : Nat) (hk : x % 128 * 128 ^ k < 562949953421312) : wrap64 ((x : Int) % 128 * 2 ^ (7 * k)) = ((x % 128 * 128 ^ k : Nat) : Int) := by
  have : (x : Int) % 128 * 2 ^ (7 * k) = ((x % 128 * 128 ^ k : Nat) : Int) := by rw [← pow_2_7]; simp
  rw [this]; exact IntWalk.wrap64_in _ ⟨by omega, by omega⟩
theorem or7 (a x k : Nat) (h7 : k < 7) (ha : a < 128 ^ k) (hx : x * 128 ^ k < 562949953421312) : bits .or .i64 (a : Int) ((x * 128 ^ k : Nat) : Int) = ((a + x * 128 ^ k : Nat) : Int) := by
  have hp := pow128_le k (by omega)
  have hc : (2 : Int) ^ (7 * k) = ((128 ^ k : Nat) : Int) := by rw [← pow_2_7]; simp
  rw [bits_or_comm, i64_or (7 * k) _ _ (by omega) (by rw [hc]; exact_mod_cast Nat.mul_mod_left x (128 ^ k)) (by omega) (by omega) (by rw [hc]; exact_mod_cast ha) (by omega)]
  omega
theorem or7_zero (a : Nat) (ha : a < 562949953421312) : bits .or .i64 (a : Int) 0 = (a : Int) := by
  have := i64_or 62 0 (a : Int) (by decide) (by decide) (by decide) (by omega) (by omega) (by omega)
  rw [bits_or_comm, this]; omega

set_option maxHeartbeats 800000 in
set_option maxRecDepth 100000 in
theorem specDecodeVarint_any (s : ByteArray) (w : World) (hs : s.size ≤ 1048576) :
    Calls Try.prog 15 #[.string s] w fun e w' => e = .returned (.tuple #[.int .i64 ((decodeVarint s.data.toList).1 : Nat), .int .i64 ((decodeVarint s.data.toList).2 : Nat)]) ∧ Below w.heap.size w w' := by
  go_enter Try.func15, Try.ntmps15
  go_wp2
  go_loopw [4] (fun x wr => ∃ k : Nat, k ≤ s.size ∧ x = .int .i64 ((k : Int) + 1) ∧ DvInv s.data.toList k ∧ Below w.heap.size w wr) (fun x _ => 8 - (intOf x).toNat)
  case atStart => exact ⟨0, by omega, rfl, DvInv.zero _, Below.refl _ _⟩
  case round =>
    obtain ⟨k, hk, rfl, hI, hW⟩ := hrel
    have hz := hW.size
    have hk7 := hI.1
    by_cases hlt : k < 7 ∧ k < s.size
    · obtain ⟨h7, hks⟩ := hlt
      go_wp2
      obtain ⟨wo, rfl⟩ : ∃ wo : World, wo = wr := ⟨_, rfl⟩
      go_loop [5, 6] (fun n i => ∃ j : Nat, j ≤ k + 1 ∧ i = .int .i64 ((j : Int) - 1) ∧ n = .int .i64 ((leVal ((s.data.toList.take (k + 1)).drop j) : Nat) : Int)) (fun _ i => (intOf i + 1).toNat)
      case atStart => exact ⟨k + 1, by omega, by go_num, by simp [leVal]⟩
      case round =>
        obtain ⟨j, hj, rfl, rfl⟩ := hrel
        have hlen : (s.data.toList.take (k + 1)).length = k + 1 := by simp; omega
        have hpow := pow128_le (k + 1) (by omega)
        have hlt := leVal_lt ((s.data.toList.take (k + 1)).drop j)
        by_cases hj0 : 0 < j
        · obtain ⟨i, rfl⟩ : ∃ i, j = i + 1 := ⟨j - 1, by omega⟩
          have hi : i < s.size := by omega
          have HS : Hid (leVal ((s.data.toList.take (k + 1)).drop i) = leVal ((s.data.toList.take (k + 1)).drop (i + 1)) * 128 + (s[i]'hi).toNat % 128) := by
            have := leVal_drop (s.data.toList.take (k + 1)) i (by omega)
            rw [List.getElem_take] at this; exact this
          have hb := (s[i]'hi).toNat_lt
          have hlt2 : leVal ((s.data.toList.take (k + 1)).drop (i + 1)) < 562949953421312 := by
            have h2 := Nat.pow_le_pow_right (show 0 < 128 by decide) (show ((s.data.toList.take (k + 1)).drop (i + 1)).length ≤ k + 1 by simp; omega)
            omega
          clear hlt hlen hpow
          generalize leVal ((s.data.toList.take (k + 1)).drop (i + 1)) = N at *
          go_wp2
          go_round
          case rel => exact ⟨i, by omega, by go_num, by rw [HS.out]; go_num⟩
          case measure => simp [intOf]; try omega
        · obtain rfl : j = 0 := by omega
          simp only [List.drop_zero, Int.ofNat_zero, Int.zero_sub] at *
          have hle : encodeVarint ((leVal (s.data.toList.take (k + 1)) : Nat) : Int) = leb (leVal (s.data.toList.take (k + 1))) := encodeVarint_yes _ (by
            have h2 := Nat.pow_le_pow_right (show 0 < 128 by decide) (show (s.data.toList.take (k + 1)).length ≤ k + 1 by omega)
            omega)
          have hcn := leb_canon (s.data.toList.take (k + 1)) (by intro h0; rw [h0] at hlen; simp at hlen)
          have hsl : (s.extract 0 (k + 1)).toList = s.data.toList.take (k + 1) := by rw [ByteArray.toList_eq, extract_take]
          have e0 : 0 ≤ (k : Int) + 1 := by omega
          by_cases hc : canon (s.data.toList.take (k + 1)) = true
          · have hres := Lib.hid (hI.found h7 (by simpa using hks) hc)
            have he : (encodeVarint ((leVal (s.data.toList.take (k + 1)) : Nat) : Int) == (s.extract 0 (k + 1)).toList) = true := by rw [hsl, hle, beq_iff_eq]; exact hcn.2 hc
            clear hle hcn hlen hpow hlt hsl
            go_wp2
            go_region_law (go_simp; go_at_call 13; refine (specEncodeVarint_any _ _).mono ?_; rintro e w' ⟨rfl, hW'⟩)
            go_wp2
            go_ret2
            exact ⟨ret_two (by rw [hres.out]) (by rw [hres.out]; go_num), hW.drew.trans (hW'.mono hz)⟩
          · have hcf : canon (s.data.toList.take (k + 1)) = false := by simpa using hc
            have hres := hI.next h7 hcf
            have he : (encodeVarint ((leVal (s.data.toList.take (k + 1)) : Nat) : Int) == (s.extract 0 (k + 1)).toList) = false := by
              rw [hsl, hle, beq_eq_false_iff_ne]; exact fun h => hc (hcn.1 h)
            clear hle hcn hlen hpow hlt hsl hcf
            go_wp2
            go_region_law (go_simp; go_at_call 13; refine (specEncodeVarint_any _ _).mono ?_; rintro e w' ⟨rfl, hW'⟩)
            go_wp2
            go_roundw
            case rel => exact ⟨k + 1, by omega, by go_num, hres, hW.drew.trans (hW'.mono hz)⟩
            case measure => simp [intOf]; omega
    · have hres := Lib.hid (hI.last (by simp; omega))
      by_cases h7 : k < 7
      all_goals
        go_wp2
        go_ret2
        exact ⟨ret_two (by rw [hres.out]; rfl) (by rw [hres.out]; rfl), hW⟩

set_option maxHeartbeats 800000 in
set_option maxRecDepth 100000 in
theorem implDecodeVarint_any (s : ByteArray) (w : World) (hs : s.size ≤ 1048576) :
    Calls Try.prog 16 #[.string s] w fun e w' => e = .returned (.tuple #[.int .i64 ((decodeVarint s.data.toList).1 : Nat), .int .i64 ((decodeVarint s.data.toList).2 : Nat)]) ∧ w = w' := by
  go_enter Try.func16, Try.ntmps16
  go_wp2
  go_loop [4, 9] (fun n i => ∃ k : Nat, k ≤ s.size ∧ i = .int .i64 (k : Int) ∧ n = .int .i64 ((leVal (s.data.toList.take k) : Nat) : Int) ∧ DvInv s.data.toList k ∧ Hid (allHi (s.data.toList.take k))) (fun _ i => 8 - (intOf i).toNat)
  case atStart => exact ⟨0, by omega, rfl, rfl, DvInv.zero _, fun b hb => by simp at hb⟩
  case round =>
    obtain ⟨k, hk, rfl, rfl, hI, hA⟩ := hrel
    have hk7 := hI.1
    by_cases hlt : k < 7 ∧ k < s.size
    · obtain ⟨h7, hks⟩ := hlt
      have hlim : (k : Int) < min (s.size : Int) 7 := by omega
      have hks' : k < s.data.toList.length := by simpa using hks
      have hcs := canon_snoc (s.data.toList.take k) s[k] hA.out
      rw [← take_snoc s k hks] at hcs
      obtain ⟨g1, g2, g3⟩ := leVal_step s k hks h7
      have hp := pow128_le k (by omega)
      have hb := s[k].toNat_lt
      by_cases hhi : 128 ≤ s[k].toNat
      · have hc : canon (s.data.toList.take (k + 1)) = false := by rw [hcs]; simp; omega
        have hres := hI.next h7 hc
        have hA' : allHi (s.data.toList.take (k + 1)) := by
          intro b hb'
          rw [take_snoc s k hks, List.mem_append] at hb'
          rcases hb' with h | h
          · exact hA.out b h
          · simp at h; subst h; exact hhi
        have q1 := u8_and127 ((s[k].toNat : Nat) : Int) (by omega) (by omega)
        have q2 := shl7 s[k].toNat k g3
        have q3 := or7 (leVal (s.data.toList.take k)) (s[k].toNat % 128) k h7 g2 g3
        have hA'' := Lib.hid hA'
        have g1' := Lib.hid g1
        have hle : leVal (s.data.toList.take k) < 562949953421312 := Nat.lt_of_lt_of_le g2 hp
        clear hcs hc hA' hA g1 g2 hp
        generalize s[k].toNat % 128 * 128 ^ k = M at *
        go_wp2
        go_round
        case rel => exact ⟨k + 1, by omega, by go_num, by rw [g1'.out]; go_num, hres, hA''⟩
        case measure => simp [intOf]; omega
      · have hlo : s[k].toNat < 128 := by omega
        by_cases h0 : s[k].toNat = 0
        · have q1 : bits .and .u8 0 127 = 0 := by decide
          have hle : leVal (s.data.toList.take k) < 562949953421312 := Nat.lt_of_lt_of_le g2 hp
          have q3 := or7_zero (leVal (s.data.toList.take k)) hle
          by_cases hk0 : 0 < k
          · have hc : canon (s.data.toList.take (k + 1)) = false := by
              rw [hcs, h0]; simp; exact ⟨by omega, fun h => by rw [ByteArray.size, h] at hks; simp at hks⟩
            have hres := Lib.hid (hI.low h7 hks' hlo hc)
            clear hcs hc hA g1 g2 hp g3
            go_wp2
            go_ret2
            exact ⟨ret_two (by rw [hres.out]; rfl) (by rw [hres.out]; rfl), rfl⟩
          · have hc : canon (s.data.toList.take (k + 1)) = true := by
              obtain rfl : k = 0 := by omega
              rw [hcs, h0]; simp
            have hres := Lib.hid (hI.found h7 hks' hc)
            rw [h0] at g1
            have g1' := Lib.hid g1
            clear hcs hc hA g1 g2 hp g3
            go_wp2
            go_ret2
            exact ⟨ret_two (by rw [hres.out, g1'.out]; simp) (by rw [hres.out]; go_num), rfl⟩
        · have hc : canon (s.data.toList.take (k + 1)) = true := by rw [hcs]; simp; omega
          have hres := Lib.hid (hI.found h7 hks' hc)
          have q1 := u8_and127 ((s[k].toNat : Nat) : Int) (by omega) (by omega)
          have q2 := shl7 s[k].toNat k g3
          have q3 := or7 (leVal (s.data.toList.take k)) (s[k].toNat % 128) k h7 g2 g3
          have g1' := Lib.hid g1
          have hle : leVal (s.data.toList.take k) < 562949953421312 := Nat.lt_of_lt_of_le g2 hp
          have h0' : (((s[k].toNat : Nat) : Int) == 0) = false := beq_eq_false_iff_ne.2 (by omega)
          clear hcs hc hA g1 g2 hp
          generalize s[k].toNat % 128 * 128 ^ k = M at *
          go_wp2
          go_ret2
          exact ⟨ret_two (by rw [hres.out, g1'.out]; simp) (by rw [hres.out]; go_num), rfl⟩
    · have hres := Lib.hid (hI.last (by simp; omega))
      have hlim : ¬ (k : Int) < min (s.size : Int) 7 := by omega
      go_wp2
      go_ret2
      exact ⟨ret_two (by rw [hres.out]; rfl) (by rw [hres.out]; rfl), rfl⟩

def hexD (k : Nat) : UInt8 := if k < 10 then UInt8.ofNat (48 + k) else UInt8.ofNat (87 + k)
theorem hexD_toNat (k : Nat) (h : k < 16) : (hexD k).toNat = if k < 10 then 48 + k else 87 + k := by
  unfold hexD; split <;> rw [UInt8.toNat_ofNat'] <;> omega
theorem index_hexD (k : Nat) (h : k < 16) (w : World) : (Instr.index 9 (.string ⟨#[48, 49, 50, 51, 52, 53, 54, 55, 56, 57, 97, 98, 99, 100, 101, 102]⟩) (.int .i64 (k : Int))).run Try.prog w = .ok (byteV (hexD k)) w := by
  match k, h with
  | 0, _ | 1, _ | 2, _ | 3, _ | 4, _ | 5, _ | 6, _ | 7, _ | 8, _ | 9, _ | 10, _ | 11, _ | 12, _ | 13, _ | 14, _ | 15, _ => rfl
  | k + 16, h => omega
def encodeHex (s : List UInt8) : List UInt8 := s.flatMap fun b => [hexD (b.toNat / 16), hexD (b.toNat % 16)]
theorem encodeHex_snoc (s : List UInt8) (b : UInt8) : encodeHex (s ++ [b]) = encodeHex s ++ [hexD (b.toNat / 16), hexD (b.toNat % 16)] := by
  simp [encodeHex]
theorem encodeHex_snocI (s : List UInt8) (b : UInt8) : encodeHex (s ++ [b]) = encodeHex s ++ [hexD (((b.toNat : Nat) : Int) / 16).toNat, hexD (((b.toNat : Nat) : Int) % 16).toNat] := by
  rw [encodeHex_snoc, show (((b.toNat : Nat) : Int) / 16).toNat = b.toNat / 16 by omega, show (((b.toNat : Nat) : Int) % 16).toNat = b.toNat % 16 by omega]
theorem encodeHex_len (s : List UInt8) : (encodeHex s).length = 2 * s.length := by
  induction s with
  | nil => rfl
  | cons b s ih => simp [encodeHex] at ih ⊢; omega
theorem index_hexD8 (k : Int) (h0 : 0 ≤ k) (h : k < 16) (w : World) : (Instr.index 9 (.string ⟨#[48, 49, 50, 51, 52, 53, 54, 55, 56, 57, 97, 98, 99, 100, 101, 102]⟩) (.int .u8 k)).run Try.prog w = .ok (.int .u8 ((hexD k.toNat).toNat : Nat)) w := by
  obtain ⟨k, rfl⟩ := Int.eq_ofNat_of_zero_le h0
  match k, h with
  | 0, _ | 1, _ | 2, _ | 3, _ | 4, _ | 5, _ | 6, _ | 7, _ | 8, _ | 9, _ | 10, _ | 11, _ | 12, _ | 13, _ | 14, _ | 15, _ => rfl
  | k + 16, h => omega

set_option maxHeartbeats 400000 in
theorem l1Digit_any (k : Int) (h0 : 0 ≤ k) (h : k < 16) (w : World) :
    Calls Try.prog 23 #[.int .i64 k] w fun e w' => e = .returned (.int .u8 ((hexD k.toNat).toNat : Nat)) ∧ w = w' := by
  obtain ⟨k, rfl⟩ := Int.eq_ofNat_of_zero_le h0
  have hx := index_hexD k (by omega) w
  go_enter Try.func23, Try.ntmps23
  go_wp2
  go_ret
  exact ⟨rfl, rfl⟩

set_option maxHeartbeats 400000 in
set_option maxRecDepth 100000 in
theorem specEncodeHex_any (s : ByteArray) (w : World) (hs : s.size ≤ 1048576) :
    Calls Try.prog 17 #[.string s] w fun e w' => e = .returned (.string ⟨(encodeHex s.data.toList).toArray⟩) ∧ Below w.heap.size w w' := by
  go_enter Try.func17, Try.ntmps17
  go_wp2
  go_loopw [4, 3] (fun x b wr => ∃ k : Nat, k ≤ s.size ∧ x = .int .i64 k ∧ Buf w.heap.size b (encodeHex (s.data.toList.take k)) wr ∧ Below w.heap.size w wr) (fun x _ _ => s.size - (intOf x).toNat)
  case atStart => exact ⟨0, by omega, rfl, Buf.empty _ _ (Nat.le_refl _), (Below.refl _ _).alloc (Nat.le_refl _) _⟩
  case round =>
    obtain ⟨k, hk, rfl, hB, hW⟩ := hrel
    have hz := hW.size
    have hl := encodeHex_len (s.data.toList.take k)
    rw [List.length_take_of_le (by simp; omega)] at hl
    have hl2 : (encodeHex (s.data.toList.take k)).length ≤ 2097152 := by omega
    clear hl
    by_cases hlt : k < s.size
    · have HS : Hid (encodeHex (s.data.toList.take (k + 1)) = encodeHex (s.data.toList.take k) ++ [hexD (((s[k].toNat : Nat) : Int) / 16).toNat, hexD (((s[k].toNat : Nat) : Int) % 16).toNat]) := by rw [take_snoc s k hlt]; exact encodeHex_snocI _ _
      have hb := (s[k]).toNat_lt
      go_wp2
      have hn : (encodeHex (s.data.toList.take k)).length + 2 ≤ 140737488355328 := by omega
      have e1 : 0 ≤ ((s[k].toNat : Nat) : Int) / 16 := by omega
      have e2 : ((s[k].toNat : Nat) : Int) / 16 < 16 := by omega
      have e3 : 0 ≤ ((s[k].toNat : Nat) : Int) % 16 := by omega
      have e4 : ((s[k].toNat : Nat) : Int) % 16 < 16 := by omega
      have q1 : IntKind.i64.wrap ((s[k].toNat : Nat) : Int) = ((s[k].toNat : Nat) : Int) := IntWalk.i64_in _ (by omega)
      have q2 : ((s[k].toNat : Nat) : Int).tdiv 16 = ((s[k].toNat : Nat) : Int) / 16 := Int.tdiv_eq_ediv_of_nonneg (by omega)
      have q3 : ((s[k].toNat : Nat) : Int).tmod 16 = ((s[k].toNat : Nat) : Int) % 16 := Int.tmod_eq_emod_of_nonneg (by omega)
      have q4 : IntKind.i64.wrap (((s[k].toNat : Nat) : Int) / 16) = ((s[k].toNat : Nat) : Int) / 16 := IntWalk.i64_in _ (by omega)
      have q5 : IntKind.i64.wrap (((s[k].toNat : Nat) : Int) % 16) = ((s[k].toNat : Nat) : Int) % 16 := IntWalk.i64_in _ (by omega)
      go_region_law (first | (go_simp; go_at_call 23; refine (l1Digit_any _ (by assumption) (by assumption) _).mono ?_; rintro e w' ⟨rfl, rfl⟩) | (refine step_buf_app hB.drew rfl _ _ rfl rfl [hexD _, hexD _] 2 2 rfl rfl (by assumption) (by simpa using hz) ?_; intro v' w' hB' hW'))
      all_goals
        clear q1 q2 q3 q4 q5
        go_wp2
        go_roundw
        case rel => exact ⟨k + 1, by omega, by go_num, by rw [HS.out]; exact hB', hW.drew.trans hW'⟩
        case measure => simp [intOf]; omega
    · have hkn : k = s.size := by omega
      subst hkn
      have hc := hB.str
      rw [List.take_of_length_le (by simp)] at hc
      go_wp2
      go_ret
      exact ⟨rfl, hW⟩

set_option maxHeartbeats 400000 in
set_option maxRecDepth 100000 in
theorem implEncodeHex_any (s : ByteArray) (w : World) (hs : s.size ≤ 1048576) :
    Calls Try.prog 18 #[.string s] w fun e w' => e = .returned (.string ⟨(encodeHex s.data.toList).toArray⟩) ∧ Below w.heap.size w w' := by
  have hmk : ∀ w, (Instr.makeSlice 36 (.int .i64 0) (.int .i64 (2 * (s.size : Int)))).run Try.prog w = .ok (.slice (some ⟨w.heap.size, 0, none⟩) 0 (2 * s.size)) (w.alloc (.cells (madeCells #[.int .u8 0] (2 * s.size)) 5)) := fun w => by
    have := make_bytes w 0 (2 * s.size) (by omega) (by omega); simpa using this
  go_enter Try.func18, Try.ntmps18
  go_wp2
  go_loopw [11, 3] (fun x b wr => ∃ k : Nat, k ≤ s.size ∧ x = .int .i64 k ∧ Buf w.heap.size b (encodeHex (s.data.toList.take k)) wr ∧ Below w.heap.size w wr) (fun x _ _ => s.size - (intOf x).toNat)
  case atStart => exact ⟨0, by omega, rfl, Buf.made _ _ (by omega) _ (Nat.le_refl _), (Below.refl _ _).alloc (Nat.le_refl _) _⟩
  case round =>
    obtain ⟨k, hk, rfl, hB, hW⟩ := hrel
    have hz := hW.size
    have hl := encodeHex_len (s.data.toList.take k)
    rw [List.length_take_of_le (by simp; omega)] at hl
    have hl2 : (encodeHex (s.data.toList.take k)).length ≤ 2097152 := by omega
    clear hl
    by_cases hlt : k < s.size
    · have HS : Hid (encodeHex (s.data.toList.take (k + 1)) = encodeHex (s.data.toList.take k) ++ [hexD (((s[k].toNat : Nat) : Int) / 16).toNat, hexD (((s[k].toNat : Nat) : Int) % 16).toNat]) := by rw [take_snoc s k hlt]; exact encodeHex_snocI _ _
      have hb := (s[k]).toNat_lt
      go_wp2
      have hn : (encodeHex (s.data.toList.take k)).length + 2 ≤ 140737488355328 := by omega
      have e1 : 0 ≤ ((s[k].toNat : Nat) : Int) / 16 := by omega
      have e2 : ((s[k].toNat : Nat) : Int) / 16 < 16 := by omega
      have e3 : 0 ≤ ((s[k].toNat : Nat) : Int) % 16 := by omega
      have e4 : ((s[k].toNat : Nat) : Int) % 16 < 16 := by omega
      have q1 : IntKind.u8.wrap ((s[k].toNat : Nat) : Int) = ((s[k].toNat : Nat) : Int) := by rw [IntKind.wrap_u8]; omega
      have q2 : ((s[k].toNat : Nat) : Int) / 2 ^ min (4 : Int).toNat IntKind.u8.bits = ((s[k].toNat : Nat) : Int) / 16 := rfl
      have q3 : bits .and .u8 ((s[k].toNat : Nat) : Int) 15 = ((s[k].toNat : Nat) : Int) % 16 := u8_and15 _ (by omega) (by omega)
      have q4 := index_hexD8 (((s[k].toNat : Nat) : Int) / 16) e1 e2
      have q5 := index_hexD8 (((s[k].toNat : Nat) : Int) % 16) e3 e4
      go_region_law (refine step_buf_app hB.drew rfl _ _ rfl rfl [hexD _, hexD _] 2 2 rfl rfl (by assumption) (by simpa using hz) ?_; intro v' w' hB' hW')
      all_goals
        clear q1 q2 q3 q4 q5
        go_wp2
        go_roundw
        case rel => exact ⟨k + 1, by omega, by go_num, by rw [HS.out]; exact hB', hW.drew.trans hW'⟩
        case measure => simp [intOf]; omega
    · have hkn : k = s.size := by omega
      subst hkn
      have hc := hB.str
      rw [List.take_of_length_le (by simp)] at hc
      go_wp2
      go_ret
      exact ⟨rfl, hW⟩

def unhexN (b : Nat) : Int := if 48 ≤ b ∧ b ≤ 57 then (b : Int) - 48 else if 97 ≤ b ∧ b ≤ 102 then (b : Int) - 87 else -1
def unhex (b : UInt8) : Int := unhexN b.toNat
theorem unhex_lt (b : UInt8) : -1 ≤ unhex b ∧ unhex b < 16 := by unfold unhex unhexN; split <;> (try split) <;> omega
theorem indexByte_hex (b : UInt8) : Lib.indexByte [48, 49, 50, 51, 52, 53, 54, 55, 56, 57, 97, 98, 99, 100, 101, 102] b = unhex b := by
  have h : ∀ n : Fin 256, Lib.indexByte [48, 49, 50, 51, 52, 53, 54, 55, 56, 57, 97, 98, 99, 100, 101, 102] (UInt8.ofNat n.1) = unhex (UInt8.ofNat n.1) := by decide +kernel
  have := h ⟨b.toNat, b.toNat_lt⟩
  simpa using this
theorem hexD_eq (b : UInt8) (k : Nat) (hk : k < 16) : (hexD k = b ↔ unhex b = (k : Int)) := by
  have h : ∀ n : Fin 256, ∀ k : Fin 16, (hexD k.1 = UInt8.ofNat n.1 ↔ unhex (UInt8.ofNat n.1) = (k.1 : Int)) := by decide +kernel
  have := h ⟨b.toNat, b.toNat_lt⟩ ⟨k, hk⟩
  simpa using this
def decodeHex : List UInt8 → Option (List UInt8)
  | [] => some []
  | [_] => none
  | a :: b :: t => if unhex a < 0 ∨ unhex b < 0 then none else (decodeHex t).map (byteI (16 * unhex a + unhex b) :: ·)
theorem decodeHex_odd : ∀ (n : Nat) (s : List UInt8), s.length = 2 * n + 1 → decodeHex s = none
  | 0, [_], _ => rfl
  | n + 1, a :: b :: t, h => by
    rw [decodeHex, decodeHex_odd n t (by simp at h; omega)]; split <;> rfl
def decodeHexOut (s : List UInt8) : List UInt8 := (decodeHex s).getD []
def decodeHexOk (s : List UInt8) : Bool := (decodeHex s).isSome
def DecInv (s l : List UInt8) (k : Nat) : Prop := l.length = k ∧ ∀ t, decodeHex (s.take (2 * k) ++ t) = (decodeHex t).map (l ++ ·)
theorem DecInv.zero (s : List UInt8) : DecInv s [] 0 := ⟨rfl, fun t => by simp⟩
theorem split2 (s : List UInt8) (k : Nat) (h : 2 * k + 1 < s.length) : s = s.take (2 * k) ++ s[2 * k] :: s[2 * k + 1] :: s.drop (2 * k + 2) := by
  conv => lhs; rw [← List.take_append_drop (2 * k) s]
  rw [List.drop_eq_getElem_cons (by omega), List.drop_eq_getElem_cons (by omega)]
theorem take2 (s : List UInt8) (k : Nat) (h : 2 * k + 1 < s.length) : s.take (2 * (k + 1)) = s.take (2 * k) ++ [s[2 * k], s[2 * k + 1]] := by
  rw [show 2 * (k + 1) = (2 * k + 1) + 1 by omega, List.take_succ_eq_append_getElem h, List.take_succ_eq_append_getElem (show 2 * k < s.length by omega), List.append_assoc]; rfl
theorem DecInv.step {s l : List UInt8} {k : Nat} (h : DecInv s l k) (hk : 2 * k + 1 < s.length) (h1 : ¬ unhex s[2 * k] < 0) (h2 : ¬ unhex s[2 * k + 1] < 0) :
    DecInv s (l ++ [byteI (16 * unhex s[2 * k] + unhex s[2 * k + 1])]) (k + 1) := by
  refine ⟨by simp [h.1], fun t => ?_⟩
  rw [take2 s k hk, List.append_assoc, h.2]
  simp only [List.cons_append, List.nil_append]
  rw [decodeHex, if_neg (by omega), Option.map_map]
  congr 1; funext x; simp
theorem DecInv.fails {s l : List UInt8} {k : Nat} (h : DecInv s l k) (hk : 2 * k + 1 < s.length) (h1 : unhex s[2 * k] < 0 ∨ unhex s[2 * k + 1] < 0) : decodeHex s = none := by
  rw [split2 s k hk, h.2, decodeHex, if_pos h1]; rfl
theorem DecInv.done {s l : List UInt8} {k : Nat} (h : DecInv s l k) (hk : s.length = 2 * k) : decodeHex s = some l := by
  have := h.2 []
  rw [List.take_of_length_le (by omega), List.append_nil] at this
  rw [this]; simp [decodeHex]

set_option maxHeartbeats 400000 in
theorem l1FromHex_any (b : UInt8) (w : World) :
    Calls Try.prog 24 #[.int .u8 (b.toNat : Nat)] w fun e w' => e = .returned (.int .i64 (unhex b)) ∧ w = w' := by
  go_enter Try.func24, Try.ntmps24
  go_wp2
  go_loop [3] (fun x => ∃ k : Nat, k ≤ 16 ∧ x = .int .i64 k ∧ Hid (∀ j : Nat, j < k → unhex b ≠ j)) (fun x => 16 - (intOf x).toNat)
  case atStart => exact ⟨0, by omega, rfl, fun j hj => absurd hj (by omega)⟩
  case round =>
    obtain ⟨k, hk, rfl, hH⟩ := hrel
    by_cases hlt : k < 16
    · by_cases he : unhex b = (k : Int)
      · have hd : hexD k = b := (hexD_eq b k hlt).2 he
        have he' := Lib.hid he
        clear he hH
        subst hd
        go_wp2_with (go_at_call 23; refine (l1Digit_any _ (by omega) (by omega) _).mono ?_; rintro e w' ⟨rfl, rfl⟩)
        go_ret
        exact ⟨ret_int he'.out.symm, rfl⟩
      · have hd : ¬ hexD k = b := fun h => he ((hexD_eq b k hlt).1 h)
        have hne : (((hexD k).toNat : Int) == ((b.toNat : Nat) : Int)) = false := by
          simp only [beq_eq_false_iff_ne, ne_eq]
          intro h; exact hd (UInt8.toNat_inj.1 (by omega))
        go_wp2_with (go_at_call 23; refine (l1Digit_any _ (by omega) (by omega) _).mono ?_; rintro e w' ⟨rfl, rfl⟩)
        go_round
        case rel => exact ⟨k + 1, by omega, by go_num, fun j hj => by
          rcases Nat.lt_or_ge j k with h | h
          · exact hH.out j h
          · obtain rfl : j = k := by omega
            exact he⟩
        case measure => simp [intOf]; omega
    · have hu := unhex_lt b
      have : unhex b = -1 := by
        have := hH.out (unhex b).toNat
        omega
      have H := Lib.hid this
      clear this hu
      go_wp2
      go_ret
      exact ⟨ret_int H.out.symm, rfl⟩

set_option maxHeartbeats 800000 in
set_option maxRecDepth 100000 in
theorem specDecodeHex_any (s : ByteArray) (w : World) (hs : s.size ≤ 1048576) :
    Calls Try.prog 19 #[.string s] w fun e w' => e = .returned (.tuple #[.string ⟨(decodeHexOut s.data.toList).toArray⟩, .bool (decodeHexOk s.data.toList)]) ∧ Below w.heap.size w w' := by
  by_cases hodd : s.size % 2 = 1
  · have hN := decodeHex_odd (s.size / 2) s.data.toList (by simp; omega)
    have e1 : decodeHexOut s.data.toList = [] := by unfold decodeHexOut; rw [hN]; rfl
    have e2 : decodeHexOk s.data.toList = false := by unfold decodeHexOk; rw [hN]; rfl
    rw [e1, e2]
    clear hN e1 e2
    go_enter Try.func19, Try.ntmps19
    go_wp2
    go_ret2
    exact ⟨rfl, (Below.refl _ _).alloc (Nat.le_refl _) _⟩
  · have hodd' : ((s.size : Int) % 2 == 1) = false := beq_eq_false_iff_ne.2 (by omega)
    go_enter Try.func19, Try.ntmps19
    go_wp2
    go_loopw [5, 4] (fun x b wr => ∃ k : Nat, ∃ l : List UInt8, 2 * k ≤ s.size ∧ x = .int .i64 (2 * (k : Int)) ∧ DecInv s.data.toList l k ∧ Buf w.heap.size b l wr ∧ Below w.heap.size w wr) (fun x _ _ => s.size - (intOf x).toNat)
    case atStart => exact ⟨0, [], by omega, rfl, DecInv.zero _, Buf.empty _ _ (Nat.le_refl _), (Below.refl _ _).alloc (Nat.le_refl _) _⟩
    case round =>
      obtain ⟨k, l, hk, rfl, hI, hB, hW⟩ := hrel
      have hz := hW.size
      have hl : l.length ≤ 1048576 := by have := hI.1; omega
      by_cases hlt : 2 * k < s.size
      · have hd : 2 * k + 1 < s.data.toList.length := by simp; omega
        have hd' : 2 * k + 1 < s.size := by omega
        have u1 := unhex_lt s[2 * k]
        have u2 := unhex_lt s[2 * k + 1]
        by_cases h1 : unhex s[2 * k] < 0
        · have hf := Lib.hid (hI.fails hd (Or.inl h1))
          go_wp2_with (go_at_call 24; refine (l1FromHex_any _ _).mono ?_; rintro e w' ⟨rfl, rfl⟩)
          go_ret2
          exact ⟨ret_str_bool (by unfold decodeHexOut; rw [hf.out]; rfl) (by unfold decodeHexOk; rw [hf.out]; rfl), hW⟩
        · by_cases h2 : unhex s[2 * k + 1] < 0
          · have hf := Lib.hid (hI.fails hd (Or.inr h2))
            go_wp2_with (go_at_call 24; refine (l1FromHex_any _ _).mono ?_; rintro e w' ⟨rfl, rfl⟩)
            go_ret2
            exact ⟨ret_str_bool (by unfold decodeHexOut; rw [hf.out]; rfl) (by unfold decodeHexOk; rw [hf.out]; rfl), hW⟩
          · have hs' := hI.step hd h1 h2
            go_wp2_with (first | (go_at_call 24; refine (l1FromHex_any _ _).mono ?_; rintro e w' ⟨rfl, rfl⟩) | (at_builtin; refine buf_app1 hB rfl _ _ rfl rfl _ rfl (by omega) (by omega) (by omega) (by omega) ?_))
            intro v' w' hB' hW'
            go_wp2
            go_roundw
            case rel => exact ⟨k + 1, _, by omega, by go_num, hs', hB', hW.trans hW'⟩
            case measure => simp [intOf]; omega
      · have hdn := hI.done (by simp; omega)
        have hf := Lib.hid hdn
        clear hdn
        have hc := hB.str
        go_wp2
        go_ret2
        exact ⟨ret_str_bool (by unfold decodeHexOut; rw [hf.out]; rfl) (by unfold decodeHexOk; rw [hf.out]; rfl), hW⟩

set_option maxHeartbeats 400000 in
set_option maxRecDepth 100000 in
theorem stringsIndexByte_any (s : ByteArray) (c : Int) (w : World) :
    Calls Try.prog 25 #[.string s, .int .u8 c] w fun e w' => e = .returned (.int .i64 (Lib.indexByte s.data.toList c.toNat.toUInt8)) ∧ w = w' := by
  have h26 : Calls Try.prog 26 #[.string s, .int .u8 c] w fun e w' => e = .returned (.int .i64 (Lib.indexByte s.data.toList c.toNat.toUInt8)) ∧ w = w' := by
    go_enter Try.func26, Try.ntmps26
    go_wp2
    rw [run_callFunc_extern Try.func27 (by kernel_rfl) (by kernel_rfl) (by kernel_rfl) (e := Extern.BytealgIndexByte.indexByte) (by kernel_rfl), Lib.run_indexByteString]
    simp only [Result.andThen]
    rw [Oper.upon_value]
    go_wp2
    go_ret
    exact ⟨rfl, rfl⟩
  go_enter Try.func25, Try.ntmps25
  go_wp2_with (go_at_call 26; refine h26.mono ?_; rintro e w' ⟨rfl, rfl⟩)
  go_ret
  exact ⟨rfl, rfl⟩
theorem indexByteHex_any (b : UInt8) (w : World) :
    Calls Try.prog 25 #[.string ⟨#[48, 49, 50, 51, 52, 53, 54, 55, 56, 57, 97, 98, 99, 100, 101, 102]⟩, .int .u8 (b.toNat : Nat)] w fun e w' => e = .returned (.int .i64 (unhex b)) ∧ w = w' := by
  refine (stringsIndexByte_any _ _ w).mono fun e w' h => ⟨?_, h.2⟩
  rw [h.1]
  have : ((b.toNat : Nat) : Int).toNat.toUInt8 = b := by rw [Int.toNat_natCast]; exact UInt8.ofNat_toNat
  rw [this]
  show Ending.returned (.int .i64 (Lib.indexByte [48, 49, 50, 51, 52, 53, 54, 55, 56, 57, 97, 98, 99, 100, 101, 102] b)) = _
  rw [indexByte_hex]

set_option maxHeartbeats 800000 in
set_option maxRecDepth 100000 in
theorem implDecodeHex_any (s : ByteArray) (w : World) (hs : s.size ≤ 1048576) :
    Calls Try.prog 20 #[.string s] w fun e w' => e = .returned (.tuple #[.string ⟨(decodeHexOut s.data.toList).toArray⟩, .bool (decodeHexOk s.data.toList)]) ∧ Below w.heap.size w w' := by
  by_cases hodd : s.size % 2 = 1
  · have hN := decodeHex_odd (s.size / 2) s.data.toList (by simp; omega)
    have e1 : decodeHexOut s.data.toList = [] := by unfold decodeHexOut; rw [hN]; rfl
    have e2 : decodeHexOk s.data.toList = false := by unfold decodeHexOk; rw [hN]; rfl
    rw [e1, e2]
    clear hN e1 e2
    go_enter Try.func20, Try.ntmps20
    go_wp2
    go_ret2
    exact ⟨rfl, Below.refl _ _⟩
  · have hodd' : ((s.size : Int) % 2 != 0) = false := by rw [bne_eq_false_iff_eq]; omega
    have hmk : ∀ w, (Instr.makeSlice 36 (.int .i64 0) (.int .i64 ((s.size : Int) / 2))).run Try.prog w = .ok (.slice (some ⟨w.heap.size, 0, none⟩) 0 (s.size / 2)) (w.alloc (.cells (madeCells #[.int .u8 0] (s.size / 2)) 5)) := fun w => by
      have := make_bytes w 0 (s.size / 2) (by omega) (by omega); simpa using this
    go_enter Try.func20, Try.ntmps20
    go_wp2
    go_loopw [5, 4] (fun x b wr => ∃ k : Nat, ∃ l : List UInt8, 2 * k ≤ s.size ∧ x = .int .i64 (2 * (k : Int)) ∧ DecInv s.data.toList l k ∧ Buf w.heap.size b l wr ∧ Below w.heap.size w wr) (fun x _ _ => s.size - (intOf x).toNat)
    case atStart => exact ⟨0, [], by omega, rfl, DecInv.zero _, Buf.made _ _ (by omega) _ (Nat.le_refl _), (Below.refl _ _).alloc (Nat.le_refl _) _⟩
    case round =>
      obtain ⟨k, l, hk, rfl, hI, hB, hW⟩ := hrel
      have hz := hW.size
      have hl : l.length ≤ 1048576 := by have := hI.1; omega
      by_cases hlt : 2 * k < s.size
      · have hd : 2 * k + 1 < s.data.toList.length := by simp; omega
        have hd' : 2 * k + 1 < s.size := by omega
        have u1 := unhex_lt s[2 * k]
        have u2 := unhex_lt s[2 * k + 1]
        by_cases h1 : unhex s[2 * k] < 0
        · have hf := Lib.hid (hI.fails hd (Or.inl h1))
          go_wp2_with (go_at_call 25; refine (indexByteHex_any _ _).mono ?_; rintro e w' ⟨rfl, rfl⟩)
          go_ret2
          exact ⟨ret_str_bool (by unfold decodeHexOut; rw [hf.out]; rfl) (by unfold decodeHexOk; rw [hf.out]; rfl), hW⟩
        · by_cases h2 : unhex s[2 * k + 1] < 0
          · have hf := Lib.hid (hI.fails hd (Or.inr h2))
            go_wp2_with (go_at_call 25; refine (indexByteHex_any _ _).mono ?_; rintro e w' ⟨rfl, rfl⟩)
            go_ret2
            exact ⟨ret_str_bool (by unfold decodeHexOut; rw [hf.out]; rfl) (by unfold decodeHexOk; rw [hf.out]; rfl), hW⟩
          · have hs' := hI.step hd h1 h2
            have hor : bits .or .i64 (unhex s[2 * k] * 16) (unhex s[2 * k + 1]) = 16 * unhex s[2 * k] + unhex s[2 * k + 1] := by
              rw [i64_or 4 _ _ (by omega) (by omega) (by omega) (by omega) (by omega) (by omega)]; omega
            go_wp2_with (first | (go_at_call 25; refine (indexByteHex_any _ _).mono ?_; rintro e w' ⟨rfl, rfl⟩) | (at_builtin; refine buf_app1 hB rfl _ _ rfl rfl _ rfl (by omega) (by omega) (by omega) (by omega) ?_))
            intro v' w' hB' hW'
            go_wp2
            go_roundw
            case rel => exact ⟨k + 1, _, by omega, by go_num, hs', hB', hW.trans hW'⟩
            case measure => simp [intOf]; omega
      · have hdn := hI.done (by simp; omega)
        have hf := Lib.hid hdn
        clear hdn
        have hc := hB.str
        go_wp2
        go_ret2
        exact ⟨ret_str_bool (by unfold decodeHexOut; rw [hf.out]; rfl) (by unfold decodeHexOk; rw [hf.out]; rfl), hW⟩

end Go.Proofs.Ytilfddbdoopfiaa
