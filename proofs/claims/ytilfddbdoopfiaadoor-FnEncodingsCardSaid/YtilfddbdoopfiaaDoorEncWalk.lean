/-
  Walks and plain lemmas for the laws of this seat: what single Go functions return, for every argument.
-/
import Derived.Test.YtilfddbdoopfiaaDoorFmtI
import Derived.Test.YtilfddbdoopfiaaDoorLift
import Derived.Test.YtilfddbdoopfiaaDoorNum
import Derived.Test.YtilfddbdoopfiaaDoorDraw4
import Derived.Test.YtilfddbdoopfiaaDoorEnc
namespace Go.Proofs.YtilfddbdoopfiaaDoor
open Go.RowKit

theorem numR_bd (code : List UInt8) (st : DrawSt) : -9223372036854775808 ≤ (numR code st).1 ∧ (numR code st).1 ≤ 9223372036854775807 := by
  have hl : ∀ j : Nat, -9223372036854775808 ≤ numList.getD j 0 ∧ numList.getD j 0 ≤ 9223372036854775807 := by
    intro j
    by_cases h : j < numList.length
    · have : ∀ z ∈ numList, -9223372036854775808 ≤ z ∧ z ≤ 9223372036854775807 := by decide
      rw [List.getD, List.getElem?_eq_getElem h]; exact this _ (List.getElem_mem h)
    · rw [List.getD, List.getElem?_eq_none (by omega)]; decide
  unfold numR
  split
  · exact hl _
  · split
    · have b1 := belowR_bd code (belowR code st 8).2 1000000000
      have b2 := belowR_bd code (belowR code (belowR code st 8).2 1000000000).2 1000000000
      have b3 := mul_bd _ _ b1.1 (b1.2 (by omega)) b2.1 (b2.2 (by omega))
      show _ ≤ _ * _ ∧ _ * _ ≤ _
      omega
    · split
      · have b1 := belowR_bd code (belowR code st 8).2 100000
        have := b1.2 (by omega)
        show _ ≤ -_ ∧ -_ ≤ _
        omega
      · have b1 := belowR_bd code (belowR code st 8).2 70000
        have := b1.2 (by omega)
        omega
theorem big_any (q : Option Addr) (n c : Nat) (w : World) :
    Calls Tryd.prog 6 #[.slice q n c] w fun e w' => e = .returned (.bool (decide (1048576 < (n : Int)))) ∧ w = w' := by
  go_enter Tryd.func6, Tryd.ntmps6
  go_wp2
  go_ret
  exact ⟨rfl, rfl⟩

theorem spoilR_len (code : List UInt8) (st : DrawSt) (s : List UInt8) : (spoilR code st s).1.length ≤ s.length + 3 := by
  unfold spoilR
  dsimp only
  split
  · have := textR_len code st 3 (by decide); omega
  · split
    · simp; omega
    · split
      · simp; omega
      · split
        · simp; omega
        · simp; omega
theorem dvText_len (code : List UInt8) : (drawVarintTextR code).length ≤ 20 := by
  have l1 := encodeVarint_len (numR code (st0 code)).1
  have l2 := textR_len code (numR code (st0 code)).2 4 (by decide)
  unfold drawVarintTextR
  dsimp only
  split
  · refine Nat.le_trans (spoilR_len _ _ _) ?_
    rw [List.length_append]; omega
  · rw [List.length_append]; omega
set_option maxHeartbeats 8000000 in
set_option maxRecDepth 100000 in
theorem walkE (q : Option Addr) (code : List UInt8) (c : Nat) (_ : code.length ≤ maxLen) (w : World) (hc : CodeAt w w.heap.size (.slice q code.length c) code) (ht : Tab w) (hv : ErrVars w) :
    Calls Tryd.prog 3 #[.slice q code.length c] w fun e w' => e = .returned (.bool true) ∧ Below w.heap.size w w' := by
  by_cases hbig : 1048576 < code.length
  · have hd : decide (1048576 < ((code.length : Nat) : Int)) = true := by simp; omega
    go_enter Tryd.func3, Tryd.ntmps3
    go_wp2_with fail
    refine (big_any q _ c _).mono ?_; rintro e w1 ⟨rfl, rfl⟩
    go_wp2_with fail
    go_ret
    exact ⟨rfl, Below.refl _ _⟩
  · have hlen : code.length ≤ 1048576 := by omega
    have hd : decide (1048576 < ((code.length : Nat) : Int)) = false := by simp; omega
    have hnb : -9223372036854775808 ≤ drawNumR code ∧ drawNumR code ≤ 9223372036854775807 := numR_bd code (st0 code)
    have htl' : (drawTextR code).length ≤ 40 := textR_len code (st0 code) 40 (by decide)
    go_enter Tryd.func3, Tryd.ntmps3
    go_wp2_with fail
    refine (big_any q _ c _).mono ?_; rintro e w1 ⟨rfl, rfl⟩
    go_wp2_with fail
    refine (drawEncodeVarint _ code _ hc hlen).mono ?_; rintro e w1 ⟨rfl, hb1⟩
    go_wp2_with fail
    refine (drawEncodeHex _ code _ (hc.later hb1) hlen).mono ?_; rintro e w2 ⟨rfl, hb2'⟩
    have hb2 := hb1.trans (hb2'.mono hb1.size)
    clear hb2' hb1
    generalize drawNumR code = n at *
    generalize drawTextR code = tail at *
    go_wp2_with fail
    refine (implEncodeVarint_any n _).mono ?_; rintro e w3 ⟨rfl, hb3'⟩
    have hb3 := hb2.trans (hb3'.mono hb2.size)
    clear hb3' hb2
    have l1 := encodeVarint_len n
    have z1 : ByteArray.size ⟨(encodeVarint n).toArray⟩ ≤ 7 := by rw [ByteArray.size, List.size_toArray]; exact l1
    have z2 : ByteArray.size ⟨tail.toArray⟩ ≤ 40 := by rw [ByteArray.size, List.size_toArray]; exact htl'
    have hj : (⟨(encodeVarint n).toArray⟩ : ByteArray) ++ ⟨tail.toArray⟩ = ⟨(encodeVarint n ++ tail).toArray⟩ := ByteArray.mk_append_mk _ _
    go_wp2_with fail
    refine (implDecodeVarint_any _ _ (by rw [ByteArray.size, List.size_toArray, List.length_append]; omega)).mono ?_; rintro e w4 ⟨rfl, rfl⟩
    have z3 : ByteArray.size ⟨(encodeFixed n 7).toArray⟩ ≤ 7 := by
      rw [ByteArray.size, List.size_toArray]
      unfold encodeFixed; split
      · rw [beLow_length]; decide
      · simp
    have hj2 : (⟨(encodeFixed n 7).toArray⟩ : ByteArray) ++ ⟨tail.toArray⟩ = ⟨(encodeFixed n 7 ++ tail).toArray⟩ := ByteArray.mk_append_mk _ _
    have z4 : ByteArray.size ⟨(encodeFixed n 7 ++ tail).toArray⟩ ≤ 1000 := by
      have := z3
      rw [ByteArray.size, List.size_toArray] at this ⊢
      rw [List.length_append]; omega
    have hcase : (0 ≤ n ∧ n ≤ 562949953421311) ∨ ((n < 0 ∨ 562949953421311 < n) ∧ encodeVarint n = []) := by
      by_cases h : 0 ≤ n ∧ n ≤ 562949953421311
      · exact Or.inl h
      · exact Or.inr ⟨by omega, (encodeVarint_ne n).2 h⟩
    have hfix : ((encodeFixed n 7 = [] ∧ (n < 0 ∨ 72057594037927936 ≤ n)) ∨ (¬ encodeFixed n 7 = [] ∧ (0 ≤ n ∧ n < 72057594037927936))) := by
      by_cases h : n < 0 ∨ 72057594037927936 ≤ n
      · exact Or.inl ⟨(encFixed7 n).1.2 h, h⟩
      · exact Or.inr ⟨fun h1 => h ((encFixed7 n).1.1 h1), by omega⟩
    have hdfix : ¬ encodeFixed n 7 = [] → (decodeFixed (encodeFixed n 7 ++ tail) 7).1 = n ∧ (decodeFixed (encodeFixed n 7 ++ tail) 7).2 = true ∧ (encodeFixed n 7).length = 7 := by
      intro h
      have h2 : ¬ (n < 0 ∨ 72057594037927936 ≤ n) := fun h1 => h ((encFixed7 n).1.2 h1)
      rw [decFixed7 n h2]
      exact ⟨rfl, rfl, by rw [(encFixed7 n).2 h2, beLow_length]⟩
    have hdv : ¬ encodeVarint n = [] → (((decodeVarint (encodeVarint n ++ tail)).1 : Nat) : Int) = n ∧ (decodeVarint (encodeVarint n ++ tail)).2 = (encodeVarint n).length := by
      intro h
      have h2 : 0 ≤ n ∧ n ≤ 562949953421311 := by
        by_cases h3 : 0 ≤ n ∧ n ≤ 562949953421311
        · exact h3
        · exact absurd ((encodeVarint_ne n).2 h3) h
      obtain ⟨m, rfl⟩ := Int.eq_ofNat_of_zero_le h2.1
      rw [encodeVarint_yes m (by omega), dv_leb m (by omega) tail]; exact ⟨rfl, rfl⟩
    have hpar := parse_format n
    have hil := Lib.itoa_length_le n hnb.1 hnb.2
    have z5 : ByteArray.size ⟨(Lib.itoa n).toArray⟩ ≤ 1048576 := by rw [ByteArray.size, List.size_toArray]; omega
    have hhx : decodeHexOut (encodeHex tail) = tail := by unfold decodeHexOut; rw [decHex_enc]; rfl
    have hho : decodeHexOk (encodeHex tail) = true := by unfold decodeHexOk; rw [decHex_enc]; rfl
    have z6 : ByteArray.size ⟨(encodeHex tail).toArray⟩ ≤ 1048576 := by rw [ByteArray.size, List.size_toArray, encodeHex_len]; omega
    clear hil
    have hfour : (∃ a b : Unit, (0 ≤ n ∧ n ≤ 562949953421311 ∧ ¬ encodeVarint n = [] ∧ ¬ encodeFixed n 7 = [])) ∨ (∃ a : Unit, (n < 0 ∧ encodeVarint n = [] ∧ encodeFixed n 7 = [])) ∨ (562949953421311 < n ∧ n < 72057594037927936 ∧ encodeVarint n = [] ∧ ¬ encodeFixed n 7 = []) ∨ (72057594037927936 ≤ n ∧ encodeVarint n = [] ∧ encodeFixed n 7 = []) := by
      rcases hfix with ⟨h1, h2⟩ | ⟨h1, h2⟩
      · rcases hcase with ⟨h3, h4⟩ | ⟨h3, h4⟩
        · omega
        · rcases h2 with h2 | h2
          · exact Or.inr (Or.inl ⟨(), h2, h4, h1⟩)
          · exact Or.inr (Or.inr (Or.inr ⟨h2, h4, h1⟩))
      · rcases hcase with ⟨h3, h4⟩ | ⟨h3, h4⟩
        · exact Or.inl ⟨(), (), h3, h4, fun h => (encodeVarint_ne n).1 h ⟨h3, h4⟩, h1⟩
        · exact Or.inr (Or.inr (Or.inl ⟨by omega, h2.2, h4, h1⟩))
    clear hcase hfix
    have hdl := dvText_len code
    have z7 : ByteArray.size ⟨(drawVarintTextR code).toArray⟩ ≤ 1048576 := by rw [ByteArray.size, List.size_toArray]; omega
    have hsd := dv_sound (drawVarintTextR code)
    have hsl : ByteArray.size ⟨(drawVarintTextR code).toArray⟩ = (drawVarintTextR code).length := by rw [ByteArray.size, List.size_toArray]
    rcases hfour with ⟨_, _, h0, h1, e1, e2⟩ | ⟨_, h0, e1, e2⟩ | ⟨h0, h1, e1, e2⟩ | ⟨h0, e1, e2⟩
    · obtain ⟨f1, f2⟩ := hdv e1
      obtain ⟨g1, g2, g3⟩ := hdfix e2
      have e1' : (encodeVarint n).isEmpty = false := by simpa using e1
      have e2' : (encodeFixed n 7).isEmpty = false := by simpa using e2
      clear hdv hdfix
      by_cases hp : n < 1000000000
      · have p1 : (parseInt (Lib.itoa n)).1 = n := by rw [hpar, if_pos (by omega)]
        have p2 : (parseInt (Lib.itoa n)).2 = true := by rw [hpar, if_pos (by omega)]
        clear hpar
        go_wp2_with fail
        refine (implEncodeFixed_any n 7 _ hnb.2).mono ?_; rintro e w5 ⟨rfl, hb5'⟩
        have hb5 := hb3.trans (hb5'.mono hb3.size)
        go_wp2_with fail
        refine (implDecodeFixed_any _ 7 _ (by unfold maxLen; first | omega | (rw [ByteArray.size_append]; have h00 : ByteArray.size ⟨#[]⟩ = 0 := rfl; omega))).mono ?_; rintro e w6 ⟨rfl, rfl⟩
        go_wp2_with fail
        refine (implFormatInt_any n _ hnb.1 hnb.2 (ht.below hb5)).mono ?_; rintro e w7 ⟨rfl, hb7'⟩
        have hb7 := hb5.trans (hb7'.mono hb5.size)
        go_wp2_with fail
        refine (implParseInt_any _ _ z5 (ht.below hb7) (hv.below hb7)).mono ?_; rintro e w8 ⟨rfl, hb8'⟩
        have hb8 := hb7.trans (hb8'.mono hb7.size)
        clear hb5' hb7' hb8' hb5 hb7 hb3
        by_cases hz : (decodeVarint (drawVarintTextR code)).2 = 0
        · go_wp2_with fail
          refine (implEncodeHex_any ⟨tail.toArray⟩ _ (by omega)).mono ?_; rintro e w9 ⟨rfl, hb9'⟩
          have hb9 := hb8.trans (hb9'.mono hb8.size)
          go_wp2_with fail
          refine (implDecodeHex_any _ _ z6).mono ?_; rintro e w10 ⟨rfl, hb10'⟩
          have hb10 := hb9.trans (hb10'.mono hb9.size)
          go_wp2_with fail
          refine (drawDecodeVarint _ code _ (hc.later hb10) hlen).mono ?_; rintro e w11 ⟨rfl, hb11'⟩
          have hb11 := hb10.trans (hb11'.mono hb10.size)
          go_wp2_with fail
          refine (implDecodeVarint_any _ _ z7).mono ?_; rintro e w12 ⟨rfl, rfl⟩
          clear hb8 hb9 hb9' hb10 hb10' hb11'
          go_wp2_with fail
          go_ret
          exact ⟨rfl, hb11⟩
        · have hz' : ((((decodeVarint (drawVarintTextR code)).2 : Nat) : Int) == 0) = false := beq_eq_false_iff_ne.2 (by omega)
          obtain ⟨s1, s2, s3⟩ : 0 < (decodeVarint (drawVarintTextR code)).2 ∧ (decodeVarint (drawVarintTextR code)).2 ≤ (drawVarintTextR code).length ∧ encodeVarint (((decodeVarint (drawVarintTextR code)).1 : Nat) : Int) = (drawVarintTextR code).take (decodeVarint (drawVarintTextR code)).2 := hsd.resolve_left hz
          have s4 : (encodeVarint (((decodeVarint (drawVarintTextR code)).1 : Nat) : Int) == ((⟨(drawVarintTextR code).toArray⟩ : ByteArray).extract 0 (decodeVarint (drawVarintTextR code)).2).toList) = true := by
            rw [beq_iff_eq, ByteArray.toList_eq, ext_head]; exact s3
          clear s3 hsd hz
          go_wp2_with fail
          refine (implEncodeHex_any ⟨tail.toArray⟩ _ (by omega)).mono ?_; rintro e w9 ⟨rfl, hb9'⟩
          have hb9 := hb8.trans (hb9'.mono hb8.size)
          go_wp2_with fail
          refine (implDecodeHex_any _ _ z6).mono ?_; rintro e w10 ⟨rfl, hb10'⟩
          have hb10 := hb9.trans (hb10'.mono hb9.size)
          go_wp2_with fail
          refine (drawDecodeVarint _ code _ (hc.later hb10) hlen).mono ?_; rintro e w11 ⟨rfl, hb11'⟩
          have hb11 := hb10.trans (hb11'.mono hb10.size)
          go_wp2_with fail
          refine (implDecodeVarint_any _ _ z7).mono ?_; rintro e w12 ⟨rfl, rfl⟩
          clear hb8 hb9 hb9' hb10 hb10' hb11'
          go_wp2_with fail
          refine (drawDecodeVarint _ code _ (hc.later hb11) hlen).mono ?_; rintro e w13 ⟨rfl, hb13'⟩
          have hb13 := hb11.trans (hb13'.mono hb11.size)
          go_wp2_with fail
          refine (drawDecodeVarint _ code _ (hc.later hb13) hlen).mono ?_; rintro e w14 ⟨rfl, hb14'⟩
          have hb14 := hb13.trans (hb14'.mono hb13.size)
          go_wp2_with fail
          refine (implEncodeVarint_any _ _).mono ?_; rintro e w15 ⟨rfl, hb15'⟩
          have hb15 := hb14.trans (hb15'.mono hb14.size)
          go_wp2_with fail
          refine (drawDecodeVarint _ code _ (hc.later hb15) hlen).mono ?_; rintro e w16 ⟨rfl, hb16'⟩
          have hb16 := hb15.trans (hb16'.mono hb15.size)
          go_wp2_with fail
          go_ret
          exact ⟨rfl, hb16⟩
      · have p2 : (parseInt (Lib.itoa n)).2 = false := by rw [hpar, if_neg (by omega)]
        clear hpar
        go_wp2_with fail
        refine (implEncodeFixed_any n 7 _ hnb.2).mono ?_; rintro e w5 ⟨rfl, hb5'⟩
        have hb5 := hb3.trans (hb5'.mono hb3.size)
        go_wp2_with fail
        refine (implDecodeFixed_any _ 7 _ (by unfold maxLen; first | omega | (rw [ByteArray.size_append]; have h00 : ByteArray.size ⟨#[]⟩ = 0 := rfl; omega))).mono ?_; rintro e w6 ⟨rfl, rfl⟩
        go_wp2_with fail
        refine (implFormatInt_any n _ hnb.1 hnb.2 (ht.below hb5)).mono ?_; rintro e w7 ⟨rfl, hb7'⟩
        have hb7 := hb5.trans (hb7'.mono hb5.size)
        go_wp2_with fail
        refine (implParseInt_any _ _ z5 (ht.below hb7) (hv.below hb7)).mono ?_; rintro e w8 ⟨rfl, hb8'⟩
        have hb8 := hb7.trans (hb8'.mono hb7.size)
        clear hb5' hb7' hb8' hb5 hb7 hb3
        by_cases hz : (decodeVarint (drawVarintTextR code)).2 = 0
        · go_wp2_with fail
          refine (implEncodeHex_any ⟨tail.toArray⟩ _ (by omega)).mono ?_; rintro e w9 ⟨rfl, hb9'⟩
          have hb9 := hb8.trans (hb9'.mono hb8.size)
          go_wp2_with fail
          refine (implDecodeHex_any _ _ z6).mono ?_; rintro e w10 ⟨rfl, hb10'⟩
          have hb10 := hb9.trans (hb10'.mono hb9.size)
          go_wp2_with fail
          refine (drawDecodeVarint _ code _ (hc.later hb10) hlen).mono ?_; rintro e w11 ⟨rfl, hb11'⟩
          have hb11 := hb10.trans (hb11'.mono hb10.size)
          go_wp2_with fail
          refine (implDecodeVarint_any _ _ z7).mono ?_; rintro e w12 ⟨rfl, rfl⟩
          clear hb8 hb9 hb9' hb10 hb10' hb11'
          go_wp2_with fail
          go_ret
          exact ⟨rfl, hb11⟩
        · have hz' : ((((decodeVarint (drawVarintTextR code)).2 : Nat) : Int) == 0) = false := beq_eq_false_iff_ne.2 (by omega)
          obtain ⟨s1, s2, s3⟩ : 0 < (decodeVarint (drawVarintTextR code)).2 ∧ (decodeVarint (drawVarintTextR code)).2 ≤ (drawVarintTextR code).length ∧ encodeVarint (((decodeVarint (drawVarintTextR code)).1 : Nat) : Int) = (drawVarintTextR code).take (decodeVarint (drawVarintTextR code)).2 := hsd.resolve_left hz
          have s4 : (encodeVarint (((decodeVarint (drawVarintTextR code)).1 : Nat) : Int) == ((⟨(drawVarintTextR code).toArray⟩ : ByteArray).extract 0 (decodeVarint (drawVarintTextR code)).2).toList) = true := by
            rw [beq_iff_eq, ByteArray.toList_eq, ext_head]; exact s3
          clear s3 hsd hz
          go_wp2_with fail
          refine (implEncodeHex_any ⟨tail.toArray⟩ _ (by omega)).mono ?_; rintro e w9 ⟨rfl, hb9'⟩
          have hb9 := hb8.trans (hb9'.mono hb8.size)
          go_wp2_with fail
          refine (implDecodeHex_any _ _ z6).mono ?_; rintro e w10 ⟨rfl, hb10'⟩
          have hb10 := hb9.trans (hb10'.mono hb9.size)
          go_wp2_with fail
          refine (drawDecodeVarint _ code _ (hc.later hb10) hlen).mono ?_; rintro e w11 ⟨rfl, hb11'⟩
          have hb11 := hb10.trans (hb11'.mono hb10.size)
          go_wp2_with fail
          refine (implDecodeVarint_any _ _ z7).mono ?_; rintro e w12 ⟨rfl, rfl⟩
          clear hb8 hb9 hb9' hb10 hb10' hb11'
          go_wp2_with fail
          refine (drawDecodeVarint _ code _ (hc.later hb11) hlen).mono ?_; rintro e w13 ⟨rfl, hb13'⟩
          have hb13 := hb11.trans (hb13'.mono hb11.size)
          go_wp2_with fail
          refine (drawDecodeVarint _ code _ (hc.later hb13) hlen).mono ?_; rintro e w14 ⟨rfl, hb14'⟩
          have hb14 := hb13.trans (hb14'.mono hb13.size)
          go_wp2_with fail
          refine (implEncodeVarint_any _ _).mono ?_; rintro e w15 ⟨rfl, hb15'⟩
          have hb15 := hb14.trans (hb15'.mono hb14.size)
          go_wp2_with fail
          refine (drawDecodeVarint _ code _ (hc.later hb15) hlen).mono ?_; rintro e w16 ⟨rfl, hb16'⟩
          have hb16 := hb15.trans (hb16'.mono hb15.size)
          go_wp2_with fail
          go_ret
          exact ⟨rfl, hb16⟩
    · have e1' : (encodeVarint n).isEmpty = true := by rw [e1]; rfl
      have e2' : (encodeFixed n 7).isEmpty = true := by rw [e2]; rfl
      clear hdv hdfix
      by_cases hp : -1000000000 < n
      · have p1 : (parseInt (Lib.itoa n)).1 = n := by rw [hpar, if_pos (by omega)]
        have p2 : (parseInt (Lib.itoa n)).2 = true := by rw [hpar, if_pos (by omega)]
        clear hpar
        go_wp2_with fail
        refine (implEncodeFixed_any n 7 _ hnb.2).mono ?_; rintro e w5 ⟨rfl, hb5'⟩
        have hb5 := hb3.trans (hb5'.mono hb3.size)
        go_wp2_with fail
        refine (implDecodeFixed_any _ 7 _ (by unfold maxLen; first | omega | (rw [ByteArray.size_append]; have h00 : ByteArray.size ⟨#[]⟩ = 0 := rfl; omega))).mono ?_; rintro e w6 ⟨rfl, rfl⟩
        go_wp2_with fail
        refine (implFormatInt_any n _ hnb.1 hnb.2 (ht.below hb5)).mono ?_; rintro e w7 ⟨rfl, hb7'⟩
        have hb7 := hb5.trans (hb7'.mono hb5.size)
        go_wp2_with fail
        refine (implParseInt_any _ _ z5 (ht.below hb7) (hv.below hb7)).mono ?_; rintro e w8 ⟨rfl, hb8'⟩
        have hb8 := hb7.trans (hb8'.mono hb7.size)
        clear hb5' hb7' hb8' hb5 hb7 hb3
        by_cases hz : (decodeVarint (drawVarintTextR code)).2 = 0
        · go_wp2_with fail
          refine (implEncodeHex_any ⟨tail.toArray⟩ _ (by omega)).mono ?_; rintro e w9 ⟨rfl, hb9'⟩
          have hb9 := hb8.trans (hb9'.mono hb8.size)
          go_wp2_with fail
          refine (implDecodeHex_any _ _ z6).mono ?_; rintro e w10 ⟨rfl, hb10'⟩
          have hb10 := hb9.trans (hb10'.mono hb9.size)
          go_wp2_with fail
          refine (drawDecodeVarint _ code _ (hc.later hb10) hlen).mono ?_; rintro e w11 ⟨rfl, hb11'⟩
          have hb11 := hb10.trans (hb11'.mono hb10.size)
          go_wp2_with fail
          refine (implDecodeVarint_any _ _ z7).mono ?_; rintro e w12 ⟨rfl, rfl⟩
          clear hb8 hb9 hb9' hb10 hb10' hb11'
          go_wp2_with fail
          go_ret
          exact ⟨rfl, hb11⟩
        · have hz' : ((((decodeVarint (drawVarintTextR code)).2 : Nat) : Int) == 0) = false := beq_eq_false_iff_ne.2 (by omega)
          obtain ⟨s1, s2, s3⟩ : 0 < (decodeVarint (drawVarintTextR code)).2 ∧ (decodeVarint (drawVarintTextR code)).2 ≤ (drawVarintTextR code).length ∧ encodeVarint (((decodeVarint (drawVarintTextR code)).1 : Nat) : Int) = (drawVarintTextR code).take (decodeVarint (drawVarintTextR code)).2 := hsd.resolve_left hz
          have s4 : (encodeVarint (((decodeVarint (drawVarintTextR code)).1 : Nat) : Int) == ((⟨(drawVarintTextR code).toArray⟩ : ByteArray).extract 0 (decodeVarint (drawVarintTextR code)).2).toList) = true := by
            rw [beq_iff_eq, ByteArray.toList_eq, ext_head]; exact s3
          clear s3 hsd hz
          go_wp2_with fail
          refine (implEncodeHex_any ⟨tail.toArray⟩ _ (by omega)).mono ?_; rintro e w9 ⟨rfl, hb9'⟩
          have hb9 := hb8.trans (hb9'.mono hb8.size)
          go_wp2_with fail
          refine (implDecodeHex_any _ _ z6).mono ?_; rintro e w10 ⟨rfl, hb10'⟩
          have hb10 := hb9.trans (hb10'.mono hb9.size)
          go_wp2_with fail
          refine (drawDecodeVarint _ code _ (hc.later hb10) hlen).mono ?_; rintro e w11 ⟨rfl, hb11'⟩
          have hb11 := hb10.trans (hb11'.mono hb10.size)
          go_wp2_with fail
          refine (implDecodeVarint_any _ _ z7).mono ?_; rintro e w12 ⟨rfl, rfl⟩
          clear hb8 hb9 hb9' hb10 hb10' hb11'
          go_wp2_with fail
          refine (drawDecodeVarint _ code _ (hc.later hb11) hlen).mono ?_; rintro e w13 ⟨rfl, hb13'⟩
          have hb13 := hb11.trans (hb13'.mono hb11.size)
          go_wp2_with fail
          refine (drawDecodeVarint _ code _ (hc.later hb13) hlen).mono ?_; rintro e w14 ⟨rfl, hb14'⟩
          have hb14 := hb13.trans (hb14'.mono hb13.size)
          go_wp2_with fail
          refine (implEncodeVarint_any _ _).mono ?_; rintro e w15 ⟨rfl, hb15'⟩
          have hb15 := hb14.trans (hb15'.mono hb14.size)
          go_wp2_with fail
          refine (drawDecodeVarint _ code _ (hc.later hb15) hlen).mono ?_; rintro e w16 ⟨rfl, hb16'⟩
          have hb16 := hb15.trans (hb16'.mono hb15.size)
          go_wp2_with fail
          go_ret
          exact ⟨rfl, hb16⟩
      · have p2 : (parseInt (Lib.itoa n)).2 = false := by rw [hpar, if_neg (by omega)]
        clear hpar
        go_wp2_with fail
        refine (implEncodeFixed_any n 7 _ hnb.2).mono ?_; rintro e w5 ⟨rfl, hb5'⟩
        have hb5 := hb3.trans (hb5'.mono hb3.size)
        go_wp2_with fail
        refine (implDecodeFixed_any _ 7 _ (by unfold maxLen; first | omega | (rw [ByteArray.size_append]; have h00 : ByteArray.size ⟨#[]⟩ = 0 := rfl; omega))).mono ?_; rintro e w6 ⟨rfl, rfl⟩
        go_wp2_with fail
        refine (implFormatInt_any n _ hnb.1 hnb.2 (ht.below hb5)).mono ?_; rintro e w7 ⟨rfl, hb7'⟩
        have hb7 := hb5.trans (hb7'.mono hb5.size)
        go_wp2_with fail
        refine (implParseInt_any _ _ z5 (ht.below hb7) (hv.below hb7)).mono ?_; rintro e w8 ⟨rfl, hb8'⟩
        have hb8 := hb7.trans (hb8'.mono hb7.size)
        clear hb5' hb7' hb8' hb5 hb7 hb3
        by_cases hz : (decodeVarint (drawVarintTextR code)).2 = 0
        · go_wp2_with fail
          refine (implEncodeHex_any ⟨tail.toArray⟩ _ (by omega)).mono ?_; rintro e w9 ⟨rfl, hb9'⟩
          have hb9 := hb8.trans (hb9'.mono hb8.size)
          go_wp2_with fail
          refine (implDecodeHex_any _ _ z6).mono ?_; rintro e w10 ⟨rfl, hb10'⟩
          have hb10 := hb9.trans (hb10'.mono hb9.size)
          go_wp2_with fail
          refine (drawDecodeVarint _ code _ (hc.later hb10) hlen).mono ?_; rintro e w11 ⟨rfl, hb11'⟩
          have hb11 := hb10.trans (hb11'.mono hb10.size)
          go_wp2_with fail
          refine (implDecodeVarint_any _ _ z7).mono ?_; rintro e w12 ⟨rfl, rfl⟩
          clear hb8 hb9 hb9' hb10 hb10' hb11'
          go_wp2_with fail
          go_ret
          exact ⟨rfl, hb11⟩
        · have hz' : ((((decodeVarint (drawVarintTextR code)).2 : Nat) : Int) == 0) = false := beq_eq_false_iff_ne.2 (by omega)
          obtain ⟨s1, s2, s3⟩ : 0 < (decodeVarint (drawVarintTextR code)).2 ∧ (decodeVarint (drawVarintTextR code)).2 ≤ (drawVarintTextR code).length ∧ encodeVarint (((decodeVarint (drawVarintTextR code)).1 : Nat) : Int) = (drawVarintTextR code).take (decodeVarint (drawVarintTextR code)).2 := hsd.resolve_left hz
          have s4 : (encodeVarint (((decodeVarint (drawVarintTextR code)).1 : Nat) : Int) == ((⟨(drawVarintTextR code).toArray⟩ : ByteArray).extract 0 (decodeVarint (drawVarintTextR code)).2).toList) = true := by
            rw [beq_iff_eq, ByteArray.toList_eq, ext_head]; exact s3
          clear s3 hsd hz
          go_wp2_with fail
          refine (implEncodeHex_any ⟨tail.toArray⟩ _ (by omega)).mono ?_; rintro e w9 ⟨rfl, hb9'⟩
          have hb9 := hb8.trans (hb9'.mono hb8.size)
          go_wp2_with fail
          refine (implDecodeHex_any _ _ z6).mono ?_; rintro e w10 ⟨rfl, hb10'⟩
          have hb10 := hb9.trans (hb10'.mono hb9.size)
          go_wp2_with fail
          refine (drawDecodeVarint _ code _ (hc.later hb10) hlen).mono ?_; rintro e w11 ⟨rfl, hb11'⟩
          have hb11 := hb10.trans (hb11'.mono hb10.size)
          go_wp2_with fail
          refine (implDecodeVarint_any _ _ z7).mono ?_; rintro e w12 ⟨rfl, rfl⟩
          clear hb8 hb9 hb9' hb10 hb10' hb11'
          go_wp2_with fail
          refine (drawDecodeVarint _ code _ (hc.later hb11) hlen).mono ?_; rintro e w13 ⟨rfl, hb13'⟩
          have hb13 := hb11.trans (hb13'.mono hb11.size)
          go_wp2_with fail
          refine (drawDecodeVarint _ code _ (hc.later hb13) hlen).mono ?_; rintro e w14 ⟨rfl, hb14'⟩
          have hb14 := hb13.trans (hb14'.mono hb13.size)
          go_wp2_with fail
          refine (implEncodeVarint_any _ _).mono ?_; rintro e w15 ⟨rfl, hb15'⟩
          have hb15 := hb14.trans (hb15'.mono hb14.size)
          go_wp2_with fail
          refine (drawDecodeVarint _ code _ (hc.later hb15) hlen).mono ?_; rintro e w16 ⟨rfl, hb16'⟩
          have hb16 := hb15.trans (hb16'.mono hb15.size)
          go_wp2_with fail
          go_ret
          exact ⟨rfl, hb16⟩
    · obtain ⟨g1, g2, g3⟩ := hdfix e2
      have e1' : (encodeVarint n).isEmpty = true := by rw [e1]; rfl
      have e2' : (encodeFixed n 7).isEmpty = false := by simpa using e2
      clear hdv hdfix
      have p2 : (parseInt (Lib.itoa n)).2 = false := by rw [hpar, if_neg (by omega)]
      clear hpar
      go_wp2_with fail
      refine (implEncodeFixed_any n 7 _ hnb.2).mono ?_; rintro e w5 ⟨rfl, hb5'⟩
      have hb5 := hb3.trans (hb5'.mono hb3.size)
      go_wp2_with fail
      refine (implDecodeFixed_any _ 7 _ (by unfold maxLen; first | omega | (rw [ByteArray.size_append]; have h00 : ByteArray.size ⟨#[]⟩ = 0 := rfl; omega))).mono ?_; rintro e w6 ⟨rfl, rfl⟩
      go_wp2_with fail
      refine (implFormatInt_any n _ hnb.1 hnb.2 (ht.below hb5)).mono ?_; rintro e w7 ⟨rfl, hb7'⟩
      have hb7 := hb5.trans (hb7'.mono hb5.size)
      go_wp2_with fail
      refine (implParseInt_any _ _ z5 (ht.below hb7) (hv.below hb7)).mono ?_; rintro e w8 ⟨rfl, hb8'⟩
      have hb8 := hb7.trans (hb8'.mono hb7.size)
      clear hb5' hb7' hb8' hb5 hb7 hb3
      by_cases hz : (decodeVarint (drawVarintTextR code)).2 = 0
      · go_wp2_with fail
        refine (implEncodeHex_any ⟨tail.toArray⟩ _ (by omega)).mono ?_; rintro e w9 ⟨rfl, hb9'⟩
        have hb9 := hb8.trans (hb9'.mono hb8.size)
        go_wp2_with fail
        refine (implDecodeHex_any _ _ z6).mono ?_; rintro e w10 ⟨rfl, hb10'⟩
        have hb10 := hb9.trans (hb10'.mono hb9.size)
        go_wp2_with fail
        refine (drawDecodeVarint _ code _ (hc.later hb10) hlen).mono ?_; rintro e w11 ⟨rfl, hb11'⟩
        have hb11 := hb10.trans (hb11'.mono hb10.size)
        go_wp2_with fail
        refine (implDecodeVarint_any _ _ z7).mono ?_; rintro e w12 ⟨rfl, rfl⟩
        clear hb8 hb9 hb9' hb10 hb10' hb11'
        go_wp2_with fail
        go_ret
        exact ⟨rfl, hb11⟩
      · have hz' : ((((decodeVarint (drawVarintTextR code)).2 : Nat) : Int) == 0) = false := beq_eq_false_iff_ne.2 (by omega)
        obtain ⟨s1, s2, s3⟩ : 0 < (decodeVarint (drawVarintTextR code)).2 ∧ (decodeVarint (drawVarintTextR code)).2 ≤ (drawVarintTextR code).length ∧ encodeVarint (((decodeVarint (drawVarintTextR code)).1 : Nat) : Int) = (drawVarintTextR code).take (decodeVarint (drawVarintTextR code)).2 := hsd.resolve_left hz
        have s4 : (encodeVarint (((decodeVarint (drawVarintTextR code)).1 : Nat) : Int) == ((⟨(drawVarintTextR code).toArray⟩ : ByteArray).extract 0 (decodeVarint (drawVarintTextR code)).2).toList) = true := by
          rw [beq_iff_eq, ByteArray.toList_eq, ext_head]; exact s3
        clear s3 hsd hz
        go_wp2_with fail
        refine (implEncodeHex_any ⟨tail.toArray⟩ _ (by omega)).mono ?_; rintro e w9 ⟨rfl, hb9'⟩
        have hb9 := hb8.trans (hb9'.mono hb8.size)
        go_wp2_with fail
        refine (implDecodeHex_any _ _ z6).mono ?_; rintro e w10 ⟨rfl, hb10'⟩
        have hb10 := hb9.trans (hb10'.mono hb9.size)
        go_wp2_with fail
        refine (drawDecodeVarint _ code _ (hc.later hb10) hlen).mono ?_; rintro e w11 ⟨rfl, hb11'⟩
        have hb11 := hb10.trans (hb11'.mono hb10.size)
        go_wp2_with fail
        refine (implDecodeVarint_any _ _ z7).mono ?_; rintro e w12 ⟨rfl, rfl⟩
        clear hb8 hb9 hb9' hb10 hb10' hb11'
        go_wp2_with fail
        refine (drawDecodeVarint _ code _ (hc.later hb11) hlen).mono ?_; rintro e w13 ⟨rfl, hb13'⟩
        have hb13 := hb11.trans (hb13'.mono hb11.size)
        go_wp2_with fail
        refine (drawDecodeVarint _ code _ (hc.later hb13) hlen).mono ?_; rintro e w14 ⟨rfl, hb14'⟩
        have hb14 := hb13.trans (hb14'.mono hb13.size)
        go_wp2_with fail
        refine (implEncodeVarint_any _ _).mono ?_; rintro e w15 ⟨rfl, hb15'⟩
        have hb15 := hb14.trans (hb15'.mono hb14.size)
        go_wp2_with fail
        refine (drawDecodeVarint _ code _ (hc.later hb15) hlen).mono ?_; rintro e w16 ⟨rfl, hb16'⟩
        have hb16 := hb15.trans (hb16'.mono hb15.size)
        go_wp2_with fail
        go_ret
        exact ⟨rfl, hb16⟩
    · have e1' : (encodeVarint n).isEmpty = true := by rw [e1]; rfl
      have e2' : (encodeFixed n 7).isEmpty = true := by rw [e2]; rfl
      clear hdv hdfix
      have p2 : (parseInt (Lib.itoa n)).2 = false := by rw [hpar, if_neg (by omega)]
      clear hpar
      go_wp2_with fail
      refine (implEncodeFixed_any n 7 _ hnb.2).mono ?_; rintro e w5 ⟨rfl, hb5'⟩
      have hb5 := hb3.trans (hb5'.mono hb3.size)
      go_wp2_with fail
      refine (implDecodeFixed_any _ 7 _ (by unfold maxLen; first | omega | (rw [ByteArray.size_append]; have h00 : ByteArray.size ⟨#[]⟩ = 0 := rfl; omega))).mono ?_; rintro e w6 ⟨rfl, rfl⟩
      go_wp2_with fail
      refine (implFormatInt_any n _ hnb.1 hnb.2 (ht.below hb5)).mono ?_; rintro e w7 ⟨rfl, hb7'⟩
      have hb7 := hb5.trans (hb7'.mono hb5.size)
      go_wp2_with fail
      refine (implParseInt_any _ _ z5 (ht.below hb7) (hv.below hb7)).mono ?_; rintro e w8 ⟨rfl, hb8'⟩
      have hb8 := hb7.trans (hb8'.mono hb7.size)
      clear hb5' hb7' hb8' hb5 hb7 hb3
      by_cases hz : (decodeVarint (drawVarintTextR code)).2 = 0
      · go_wp2_with fail
        refine (implEncodeHex_any ⟨tail.toArray⟩ _ (by omega)).mono ?_; rintro e w9 ⟨rfl, hb9'⟩
        have hb9 := hb8.trans (hb9'.mono hb8.size)
        go_wp2_with fail
        refine (implDecodeHex_any _ _ z6).mono ?_; rintro e w10 ⟨rfl, hb10'⟩
        have hb10 := hb9.trans (hb10'.mono hb9.size)
        go_wp2_with fail
        refine (drawDecodeVarint _ code _ (hc.later hb10) hlen).mono ?_; rintro e w11 ⟨rfl, hb11'⟩
        have hb11 := hb10.trans (hb11'.mono hb10.size)
        go_wp2_with fail
        refine (implDecodeVarint_any _ _ z7).mono ?_; rintro e w12 ⟨rfl, rfl⟩
        clear hb8 hb9 hb9' hb10 hb10' hb11'
        go_wp2_with fail
        go_ret
        exact ⟨rfl, hb11⟩
      · have hz' : ((((decodeVarint (drawVarintTextR code)).2 : Nat) : Int) == 0) = false := beq_eq_false_iff_ne.2 (by omega)
        obtain ⟨s1, s2, s3⟩ : 0 < (decodeVarint (drawVarintTextR code)).2 ∧ (decodeVarint (drawVarintTextR code)).2 ≤ (drawVarintTextR code).length ∧ encodeVarint (((decodeVarint (drawVarintTextR code)).1 : Nat) : Int) = (drawVarintTextR code).take (decodeVarint (drawVarintTextR code)).2 := hsd.resolve_left hz
        have s4 : (encodeVarint (((decodeVarint (drawVarintTextR code)).1 : Nat) : Int) == ((⟨(drawVarintTextR code).toArray⟩ : ByteArray).extract 0 (decodeVarint (drawVarintTextR code)).2).toList) = true := by
          rw [beq_iff_eq, ByteArray.toList_eq, ext_head]; exact s3
        clear s3 hsd hz
        go_wp2_with fail
        refine (implEncodeHex_any ⟨tail.toArray⟩ _ (by omega)).mono ?_; rintro e w9 ⟨rfl, hb9'⟩
        have hb9 := hb8.trans (hb9'.mono hb8.size)
        go_wp2_with fail
        refine (implDecodeHex_any _ _ z6).mono ?_; rintro e w10 ⟨rfl, hb10'⟩
        have hb10 := hb9.trans (hb10'.mono hb9.size)
        go_wp2_with fail
        refine (drawDecodeVarint _ code _ (hc.later hb10) hlen).mono ?_; rintro e w11 ⟨rfl, hb11'⟩
        have hb11 := hb10.trans (hb11'.mono hb10.size)
        go_wp2_with fail
        refine (implDecodeVarint_any _ _ z7).mono ?_; rintro e w12 ⟨rfl, rfl⟩
        clear hb8 hb9 hb9' hb10 hb10' hb11'
        go_wp2_with fail
        refine (drawDecodeVarint _ code _ (hc.later hb11) hlen).mono ?_; rintro e w13 ⟨rfl, hb13'⟩
        have hb13 := hb11.trans (hb13'.mono hb11.size)
        go_wp2_with fail
        refine (drawDecodeVarint _ code _ (hc.later hb13) hlen).mono ?_; rintro e w14 ⟨rfl, hb14'⟩
        have hb14 := hb13.trans (hb14'.mono hb13.size)
        go_wp2_with fail
        refine (implEncodeVarint_any _ _).mono ?_; rintro e w15 ⟨rfl, hb15'⟩
        have hb15 := hb14.trans (hb15'.mono hb14.size)
        go_wp2_with fail
        refine (drawDecodeVarint _ code _ (hc.later hb15) hlen).mono ?_; rintro e w16 ⟨rfl, hb16'⟩
        have hb16 := hb15.trans (hb16'.mono hb15.size)
        go_wp2_with fail
        go_ret
        exact ⟨rfl, hb16⟩

end Go.Proofs.YtilfddbdoopfiaaDoor
