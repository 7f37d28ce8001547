/-
  Walks and plain lemmas for the laws of this seat: what single Go functions return, for every argument.
-/
import Derived.Test.YtmecdjincmkofaaGreatDoorFmtS
import Derived.Test.YtmecdjincmkofaaGreatDoorDrawG
import Derived.Test.YtmecdjincmkofaaGreatDoorFmtV
import Derived.Test.YtmecdjincmkofaaGreatDoorFactV
namespace Go.Proofs.YtmecdjincmkofaaGreatDoor
open Go.RowKit

theorem specAreValid_at (l : List Rel) (b : Bool) (h : validRels l = b) (v : Value) (w : World) (hl : RelsAt w w.heap.size v l) :
    Calls Tryz.prog 34 #[v] w fun e w' => e = .returned (.bool b) ∧ Below w.heap.size w w' := by
  subst h; exact specAreValidRelations_any v l w hl
set_option maxHeartbeats 3200000 in
theorem specFormatRelations_any (v : Value) (l : List Rel) (w : World) (hl : RelsAt w w.heap.size v l) :
    Calls Tryz.prog 100 #[v] w fun e w' => e = .returned (.string ⟨(fmtRels l).toArray⟩) ∧ Below w.heap.size w w' := by
  have HL := Lib.hid hl
  cases hv : validRels l with
  | false =>
    have hcon := specAreValid_at l false hv v w hl
    have HV := Lib.hid (fmtRels_no l hv)
    clear hv hl HL
    go_enter Tryz.func100, Tryz.ntmps100
    go_wp2_with (go_at_call 34; refine hcon.mono ?_; rintro e w1 ⟨rfl, hb1⟩)
    go_ret
    exact ⟨ret_str (by rw [HV.out]), hb1⟩
  | true =>
    have hcon := specAreValid_at l true hv v w hl
    have HV := Lib.hid (fmtRels_yes l hv)
    have HVL := Lib.hid hv
    have h6 := validRels_len l hv
    obtain ⟨A, c, rfl, hlc, hcm, -⟩ := hl
    unfold maxLen at hcm
    clear hv
    go_enter Tryz.func100, Tryz.ntmps100
    go_wp2_with (go_at_call 34; refine hcon.mono ?_; rintro e w1 ⟨rfl, hb1⟩)
    clear hcon
    go_loopw [3, 4] (fun s i wr => ∃ k : Nat, k ≤ l.length ∧ i = .int .i64 k ∧ s = .string ⟨(joinRels (l.take k)).toArray⟩ ∧ Below w.heap.size w wr) (fun _ i _ => l.length - (intOf i).toNat)
    case atStart => exact ⟨0, by omega, rfl, rfl, hb1⟩
    case round =>
      obtain ⟨k, hk, rfl, rfl, hW⟩ := hrel
      have hz := hW.size
      by_cases hlt : k < l.length
      · obtain ⟨b, off, rfl, hb, c0, c1, c2⟩ := RelsAt.elem HL.out k hlt
        have C0 := Aft.cell hb c0
        have C1 := Aft.cell hb c1
        replace c0 := (hW.cell (p := ⟨b, off + k * 3, none⟩) hb).trans c0
        replace c1 := (hW.cell (p := ⟨b, off + k * 3 + 1, none⟩) hb).trans c1
        replace c2 := (hW.cell (p := ⟨b, off + k * 3 + 2, none⟩) hb).trans c2
        have HS := Lib.hid (joinStep l k hlt)
        have hok := relOk_bd _ _ (validRels_at l HVL.out k hlt)
        have hsn : l[k].name.size ≤ 1 := by omega
        have ha0 : 1 ≤ l[k].arity := hok.2.1
        have ha1 : l[k].arity ≤ 3 := hok.2.2
        have hJ : ByteArray.size ⟨(joinRels (l.take k)).toArray⟩ ≤ 30 := by
          rw [size_mk]; have := joinRels_len l HVL.out k hk; omega
        have hI : ByteArray.size ⟨(Lib.itoa l[k].arity).toArray⟩ ≤ 2 := by rw [size_mk]; exact itoa_le2 _ (by omega) (by omega)
        have h1 : ByteArray.size ⟨#[32]⟩ = 1 := rfl
        have h2 : ByteArray.size ⟨#[43]⟩ = 1 := rfl
        have hcon := specFormatInt_any l[k].arity (h0 := by omega) (h1 := by omega)
        clear hok
        generalize (⟨(Lib.itoa l[k].arity).toArray⟩ : ByteArray) = I at *
        generalize (⟨(joinRels (l.take k)).toArray⟩ : ByteArray) = J at *
        cases hsrc : l[k].source with
        | true =>
          rw [hsrc] at c2 HS
          rcases Nat.eq_zero_or_pos k with h0 | h0
          · have hg1 : decide ((0 : Int) < (k : Int)) = false := decide_eq_false (by omega)
            have hg2 : decide (0 < k) = false := decide_eq_false (by omega)
            have HS' := Lib.hid (HS.out ⟨#[43]⟩ (by rw [if_pos h0] <;> rfl))
            clear hsrc h0
            go_wp2
            refine wp_region_aft hW (by kernel_rfl) (by kernel_rfl) ?_
            repeat (go_big_quiet_step (((go_at_call 184; exact calls_aft (Nat.le_refl _) (hcon _)))))
            refine wpQuiet_nil ?_
            refine aft_end ?_
            intro w2 hh
            go_wp2
            go_roundw
            case rel => exact ⟨k + 1, by omega, by go_num, by rw [← HS'.out] <;> first | rfl | (simp only [ByteArray.append_assoc]; rfl), hh⟩
            case measure => simp [intOf]; omega
          · have hg1 : decide ((0 : Int) < (k : Int)) = true := decide_eq_true (by omega)
            have hg2 : decide (0 < k) = true := decide_eq_true (by omega)
            have HS' := Lib.hid (HS.out ⟨#[32, 43]⟩ (by rw [if_neg (show ¬ k = 0 by omega)] <;> rfl))
            clear hsrc h0
            go_wp2
            refine wp_region_aft hW (by kernel_rfl) (by kernel_rfl) ?_
            repeat (go_big_quiet_step (((go_at_call 184; exact calls_aft (Nat.le_refl _) (hcon _)))))
            refine wpQuiet_nil ?_
            refine aft_end ?_
            intro w2 hh
            go_wp2
            go_roundw
            case rel => exact ⟨k + 1, by omega, by go_num, by rw [← HS'.out] <;> first | rfl | (simp only [ByteArray.append_assoc]; rfl), hh⟩
            case measure => simp [intOf]; omega
        | false =>
          rw [hsrc] at c2 HS
          rcases Nat.eq_zero_or_pos k with h0 | h0
          · have hg1 : decide ((0 : Int) < (k : Int)) = false := decide_eq_false (by omega)
            have hg2 : decide (0 < k) = false := decide_eq_false (by omega)
            have HS' := Lib.hid (HS.out ⟨#[]⟩ (by rw [if_pos h0] <;> rfl))
            clear hsrc h0
            go_wp2
            refine wp_region_aft hW (by kernel_rfl) (by kernel_rfl) ?_
            repeat (go_big_quiet_step (((go_at_call 184; exact calls_aft (Nat.le_refl _) (hcon _)))))
            refine wpQuiet_nil ?_
            refine aft_end ?_
            intro w2 hh
            go_wp2
            go_roundw
            case rel => exact ⟨k + 1, by omega, by go_num, by rw [← HS'.out] <;> first | rfl | (simp only [ByteArray.append_assoc]; rfl), hh⟩
            case measure => simp [intOf]; omega
          · have hg1 : decide ((0 : Int) < (k : Int)) = true := decide_eq_true (by omega)
            have hg2 : decide (0 < k) = true := decide_eq_true (by omega)
            have HS' := Lib.hid (HS.out ⟨#[32]⟩ (by rw [if_neg (show ¬ k = 0 by omega)] <;> rfl))
            clear hsrc h0
            go_wp2
            refine wp_region_aft hW (by kernel_rfl) (by kernel_rfl) ?_
            repeat (go_big_quiet_step (((go_at_call 184; exact calls_aft (Nat.le_refl _) (hcon _)))))
            refine wpQuiet_nil ?_
            refine aft_end ?_
            intro w2 hh
            go_wp2
            go_roundw
            case rel => exact ⟨k + 1, by omega, by go_num, by rw [← HS'.out] <;> first | rfl | (simp only [ByteArray.append_assoc]; rfl), hh⟩
            case measure => simp [intOf]; omega
      · obtain rfl : k = l.length := by omega
        have HE := Lib.hid (HV.out.trans (congrArg joinRels (List.take_length (l := l)).symm))
        go_wp2
        go_ret
        exact ⟨ret_str (by rw [HE.out]), hW⟩

/-- the byte that a style makes of a drawn one -/
def styled (style b : Int) : Int := if style = 1 then b % 2 else if style = 2 then 97 + b % 4 else b
def textLoop (code : List UInt8) (style : Int) : Nat → DrawSt → List UInt8 → List UInt8 × DrawSt
  | 0, st, l => (l, st)
  | m + 1, st, l => textLoop code style m (byteR code st).2 (l ++ [byteI (styled style (byteR code st).1)])
def textR (code : List UInt8) (st : DrawSt) (most : Int) : List UInt8 × DrawSt :=
  textLoop code (belowR code st 4).1 (belowR code (belowR code st 4).2 (most + 1)).1.toNat (belowR code (belowR code st 4).2 (most + 1)).2 []
theorem textLoop_len (code : List UInt8) (style : Int) : ∀ (m : Nat) (st : DrawSt) (l : List UInt8), (textLoop code style m st l).1.length = l.length + m
  | 0, _, _ => rfl
  | m + 1, st, l => by rw [textLoop, textLoop_len code style m, List.length_append, List.length_singleton]; omega
theorem textR_len (code : List UInt8) (st : DrawSt) (most : Int) (h : 0 ≤ most) : (textR code st most).1.length ≤ most.toNat := by
  have hb := belowR_bd code (belowR code st 4).2 (most + 1)
  have := hb.2 (by omega)
  unfold textR; rw [textLoop_len, List.length_nil]; omega
def TextInv (code : List UInt8) (style : Int) (R : List UInt8 × DrawSt) (m : Nat) (st : DrawSt) (l : List UInt8) : Prop := textLoop code style m st l = R
theorem styled_bd (style b : Int) (h0 : 0 ≤ b) (h1 : b ≤ 255) : 0 ≤ styled style b ∧ styled style b < 256 := by unfold styled; split <;> (try split) <;> omega
set_option maxHeartbeats 1600000 in
set_option maxRecDepth 100000 in
theorem l1Text_r (p : Nat) (cv : Value) (code : List UInt8) (st : DrawSt) (most : Int) (h0 : 0 ≤ most) (h1 : most ≤ 1000000) (w : World) (hC : CurS w p cv code st) :
    Calls Tryz.prog 166 #[.pointer (some ⟨p, 0, none⟩), .int .i64 most] w (Drew w p cv code (.string ⟨(textR code st most).1.toArray⟩, (textR code st most).2)) := by
  have hp := Cur.lt hC
  have b1 := belowR_bd code st 4
  have b2 := belowR_bd code (belowR code st 4).2 (most + 1)
  have b2' := b2.2 (by omega)
  have b2'' := b2.1
  obtain ⟨n, hn⟩ := Int.eq_ofNat_of_zero_le b2''
  have hR : TextInv code (belowR code st 4).1 (textR code st most) n (belowR code (belowR code st 4).2 (most + 1)).2 [] := by
    unfold TextInv textR; rw [hn]; rfl
  generalize textR code st most = R at *
  have HN := Lib.hid hn
  have hnm : (n : Int) ≤ most := by omega
  clear b1 b2 b2' b2'' hn
  go_enter Tryz.func166, Tryz.ntmps166
  go_wp2_with fail
  refine (l1Below_r p cv code st _ _ (Cur.alloc hC _)).mono ?_; rintro e w1 ⟨rfl, hC1, hg1⟩
  go_wp2_with fail
  refine (l1Below_r p cv code _ _ _ hC1).mono ?_; rintro e w2 ⟨rfl, hC2, hg2⟩
  dsimp only at *
  rw [HN.out]
  have hB2 : Buf w.heap.size (.slice (some ⟨w.heap.size, 0, none⟩) 0 0) [] w2 := ((Buf.empty w w.heap.size (Nat.le_refl _)).grown hg1 hp).grown hg2 hp
  have hG2 : w.grownBy w2 (some p) := (World.grownBy_alloc w _ _).trans (hg1.trans hg2)
  generalize (belowR code (belowR code st 4).2 (most + 1)).2 = st2 at *
  generalize (belowR code st 4).1 = style at *
  clear HN hg1 hg2 hC1
  go_wp2_with fail
  go_loopw [5, 7] (fun v x wr => ∃ m : Nat, ∃ st' : DrawSt, ∃ l : List UInt8, x = .int .i64 (m : Int) ∧ l.length + m = n ∧ TextInv code style R m st' l ∧ CurS wr p cv code st' ∧ Buf w.heap.size v l wr ∧ w.grownBy wr (some p)) (fun _ x _ => (intOf x).toNat)
  case atStart => exact ⟨n, st2, [], rfl, by simp, hR, hC2, hB2, hG2⟩
  case round =>
    obtain ⟨m, st', l, rfl, hlm, hI, hCr, hB, hG⟩ := hrel
    by_cases hm : 0 < m
    · obtain ⟨k, rfl⟩ : ∃ k, m = k + 1 := ⟨m - 1, by omega⟩
      have hb := byteR_bd code st'
      have hsb := styled_bd style _ hb.1 hb.2
      unfold TextInv at hI
      rw [textLoop] at hI
      have hI' : TextInv code style R k (byteR code st').2 (l ++ [byteI (styled style (byteR code st').1)]) := hI
      clear hI
      by_cases hs1 : style = 1
      · have e1 : (style == 1) = true := beq_iff_eq.2 hs1
        have e2 : (style == 2) = false := beq_eq_false_iff_ne.2 (by omega)
        have hS : styled style (byteR code st').1 = (byteR code st').1 % 2 := by unfold styled; rw [if_pos hs1]
        rw [hS] at hI' hsb
        clear hs1 hS
        go_wp2_with fail
        refine (l1Byte_r p cv code _ _ hCr).mono ?_; rintro e w3 ⟨rfl, hC3, hg3⟩
        have hB3 := hB.grown hg3 hp
        have hz3 := hg3.size
        have hz := hG.size
        dsimp only at *
        go_wp2_with (at_builtin; refine buf_app1 hB3 rfl _ _ rfl rfl _ rfl (by omega) (by omega) (by omega) (by omega) ?_)
        intro v' w4 hB4 hW4
        go_wp2
        go_roundw
        case rel => exact ⟨k, _, _, by go_num, by (simp <;> omega), hI', Cur.below hC hC3 hW4, hB4, grown_of_below (hG.trans hg3) hW4⟩
        case measure => simp [intOf] <;> omega
      · have e1 : (style == 1) = false := beq_eq_false_iff_ne.2 hs1
        by_cases hs2 : style = 2
        · have e2 : (style == 2) = true := beq_iff_eq.2 hs2
          have hS : styled style (byteR code st').1 = 97 + (byteR code st').1 % 4 := by unfold styled; rw [if_neg hs1, if_pos hs2]
          rw [hS] at hI' hsb
          clear hs1 hs2 hS
          go_wp2_with fail
          refine (l1Byte_r p cv code _ _ hCr).mono ?_; rintro e w3 ⟨rfl, hC3, hg3⟩
          have hB3 := hB.grown hg3 hp
          have hz3 := hg3.size
          have hz := hG.size
          dsimp only at *
          go_wp2_with (at_builtin; refine buf_app1 hB3 rfl _ _ rfl rfl _ rfl (by omega) (by omega) (by omega) (by omega) ?_)
          intro v' w4 hB4 hW4
          go_wp2
          go_roundw
          case rel => exact ⟨k, _, _, by go_num, by (simp <;> omega), hI', Cur.below hC hC3 hW4, hB4, grown_of_below (hG.trans hg3) hW4⟩
          case measure => simp [intOf] <;> omega
        · have e2 : (style == 2) = false := beq_eq_false_iff_ne.2 hs2
          have hS : styled style (byteR code st').1 = (byteR code st').1 := by unfold styled; rw [if_neg hs1, if_neg hs2]
          rw [hS] at hI' hsb
          clear hs1 hs2 hS
          go_wp2_with fail
          refine (l1Byte_r p cv code _ _ hCr).mono ?_; rintro e w3 ⟨rfl, hC3, hg3⟩
          have hB3 := hB.grown hg3 hp
          have hz3 := hg3.size
          have hz := hG.size
          dsimp only at *
          go_wp2_with (at_builtin; refine buf_app1 hB3 rfl _ _ rfl rfl _ rfl (by omega) (by omega) (by omega) (by omega) ?_)
          intro v' w4 hB4 hW4
          go_wp2
          go_roundw
          case rel => exact ⟨k, _, _, by go_num, by (simp <;> omega), hI', Cur.below hC hC3 hW4, hB4, grown_of_below (hG.trans hg3) hW4⟩
          case measure => simp [intOf] <;> omega
    · obtain rfl : m = 0 := by omega
      have hc := hB.str
      have hE : (l, st') = R := hI
      subst hE
      go_wp2
      go_ret
      exact Drew.intro rfl hCr hG

theorem ba_ext {a b : ByteArray} (h : a.data.toList = b.data.toList) : a = b := by
  cases a; cases b; congr; exact Array.toList_inj.1 h
theorem ext_head (s : ByteArray) (k : Nat) : (s.extract 0 k).data.toList = s.data.toList.take k := by rw [Lib.extract_data]; simp
theorem ext_tail (s : ByteArray) (k : Nat) : (s.extract k s.size).data.toList = s.data.toList.drop k := by
  rw [Lib.extract_data]
  refine List.ext_getElem (by simp) fun i h1 h2 => by simp
theorem ext_size (s : ByteArray) (a b : Nat) (h : s.size ≤ 1000000) : (s.extract a b).size ≤ 1000000 := by
  rw [ByteArray.size_extract]; omega
theorem l1Byte_c (p : Nat) (cv : Value) (code : List UInt8) (st : DrawSt) (w : World) (hC : CurS w p cv code st) :
    Calls Tryz.prog 167 #[.pointer (some ⟨p, 0, none⟩)] w fun e w' => e = .returned (.int .i64 (byteR code st).1) ∧ CurS w' p cv code (byteR code st).2 ∧ w.grownBy w' (some p) :=
  (l1Byte_r p cv code st w hC).mono fun _ _ h => h
theorem l1Below_c (p : Nat) (cv : Value) (code : List UInt8) (st : DrawSt) (n : Int) (w : World) (hC : CurS w p cv code st) :
    Calls Tryz.prog 165 #[.pointer (some ⟨p, 0, none⟩), .int .i64 n] w fun e w' => e = .returned (.int .i64 (belowR code st n).1) ∧ CurS w' p cv code (belowR code st n).2 ∧ w.grownBy w' (some p) :=
  (l1Below_r p cv code st n w hC).mono fun _ _ h => h
theorem CurS.drew {w : World} {p : Nat} {cv : Value} {code : List UInt8} {st : DrawSt} (h : CurS w p cv code st) : CurS w.drew p cv code st := Cur.drewN h 1
def xorB (a b : Int) : Int := IntKind.u8.wrap (bits .xor .i64 a b)
theorem xorB_bd (a b : Int) : 0 ≤ xorB a b ∧ xorB a b < 256 := by unfold xorB; rw [IntKind.wrap_u8]; omega
def spoilR (code : List UInt8) (st : DrawSt) (s : List UInt8) : List UInt8 × DrawSt :=
  if s = [] then textR code st 3 else
    let k := belowR code st s.length
    let m := belowR code k.2 4
    if m.1 = 0 then (s.take k.1.toNat ++ s.drop (k.1.toNat + 1), m.2)
    else if m.1 = 1 then (s.take k.1.toNat ++ [byteI (byteR code m.2).1] ++ s.drop k.1.toNat, (byteR code m.2).2)
    else if m.1 = 2 then (s.take k.1.toNat, m.2)
    else (s.take k.1.toNat ++ [byteI (xorB ((s.getD k.1.toNat 0).toNat : Nat) (1 + (belowR code m.2 255).1))] ++ s.drop (k.1.toNat + 1), (belowR code m.2 255).2)
set_option maxHeartbeats 1600000 in
set_option maxRecDepth 100000 in
theorem l1Spoil_r (p : Nat) (cv : Value) (code : List UInt8) (st : DrawSt) (s : ByteArray) (hs : s.size ≤ 1000000) (w : World) (hC : CurS w p cv code st) :
    Calls Tryz.prog 80 #[.pointer (some ⟨p, 0, none⟩), .string s] w (Drew w p cv code (.string ⟨(spoilR code st s.data.toList).1.toArray⟩, (spoilR code st s.data.toList).2)) := by
  have hlen : s.data.toList.length = s.size := by simp
  by_cases h0 : s.size = 0
  · have hnil : s.data.toList = [] := List.eq_nil_of_length_eq_zero (by rw [hlen]; exact h0)
    have hr : spoilR code st s.data.toList = textR code st 3 := by unfold spoilR; rw [if_pos hnil]
    rw [hr]
    have h0' : ((s.size : Int) == 0) = true := beq_iff_eq.2 (by omega)
    clear hlen hnil hr
    go_enter Tryz.func80, Tryz.ntmps80
    go_wp2_with (go_at_call 166; refine (l1Text_r p cv code st 3 (by decide) (by decide) _ hC).mono ?_; rintro e w1 ⟨rfl, hC1, hg1⟩)
    go_ret
    exact Drew.intro rfl hC1 hg1
  · have hnil : ¬ s.data.toList = [] := fun h => h0 (by rw [← hlen, h]; rfl)
    have hr : spoilR code st s.data.toList = _ := if_neg hnil
    dsimp only at hr
    rw [hlen] at hr
    have h0' : ((s.size : Int) == 0) = false := beq_eq_false_iff_ne.2 (by omega)
    have b1 := belowR_bd code st s.size
    have b1' := b1.2 (by omega)
    obtain ⟨k, hk⟩ := Int.eq_ofNat_of_zero_le b1.1
    have hks : k < s.size := by omega
    rw [hk] at hr
    simp only [Int.toNat_natCast] at hr
    have HK := Lib.hid hk
    generalize hm : belowR code (belowR code st s.size).2 4 = M at *
    have HM := Lib.hid hm
    clear b1 b1' hk hm hnil h0
    by_cases m0 : M.1 = 0
    · rw [if_pos m0] at hr
      rw [hr]
      have e0 : (M.1 == 0) = true := beq_iff_eq.2 m0
      clear m0 hr
      go_enter Tryz.func80, Tryz.ntmps80
      go_wp2_with fail
      refine (l1Below_r p cv code _ _ _ hC).mono ?_; rintro e w1 ⟨rfl, hC1, hg1⟩
      dsimp only at *
      rw [HK.out]
      go_wp2_with fail
      refine (l1Below_r p cv code _ _ _ hC1).mono ?_; rintro e w2 ⟨rfl, hC2, hg2⟩
      rw [HM.out] at hC2 ⊢
      dsimp only at *
      have z1 := ext_size s 0 k hs
      have z2 := ext_size s (k + 1) s.size hs
      have q0 : 0 ≤ (k : Int) + 1 := by omega
      have q1 : (k : Int) + 1 ≤ s.size := by omega
      have q2 : IntKind.i64.wrap ((k : Int) + 1) = (k : Int) + 1 := IntWalk.i64_in _ (by omega)
      have q3 : ((k : Int) + 1).toNat = k + 1 := by omega
      go_wp2_with fail
      go_quiet (fail)
      clear q2 q3
      go_wp2_with fail
      go_ret
      exact Drew.intro (ret_str (ba_ext (by rw [ByteArray.data_append, Array.toList_append, ext_head, ext_tail]))) (Cur.drewN hC2 _) (grown_drewN (hg1.trans hg2) _)
    · rw [if_neg m0] at hr
      have e0 : (M.1 == 0) = false := beq_eq_false_iff_ne.2 m0
      by_cases m1 : M.1 = 1
      · rw [if_pos m1] at hr
        rw [hr]
        have e1 : (M.1 == 1) = true := beq_iff_eq.2 m1
        clear m0 m1 hr
        have hb := byteR_bd code M.2
        go_enter Tryz.func80, Tryz.ntmps80
        go_wp2_with fail
        refine (l1Below_r p cv code _ _ _ hC).mono ?_; rintro e w1 ⟨rfl, hC1, hg1⟩
        dsimp only at *
        rw [HK.out]
        go_wp2_with fail
        refine (l1Below_r p cv code _ _ _ hC1).mono ?_; rintro e w2 ⟨rfl, hC2, hg2⟩
        rw [HM.out] at hC2 ⊢
        dsimp only at *
        have z1 := ext_size s 0 k hs
        have z2 := ext_size s k s.size hs
        have q4 : IntKind.u8.wrap (byteR code M.2).1 = (byteR code M.2).1 := IntWalk.u8_in _ (by omega)
        have hconv := fun w => conv_one w (byteR code M.2).1 (by omega) (by omega)
        have hs1 : ByteArray.size ⟨#[byteI (byteR code M.2).1]⟩ = 1 := rfl
        have p1 : k ≤ s.size := by omega
        have t1 : ¬ 9223372036854775807 < k + 1 := by omega
        have t2 : ¬ 9223372036854775807 < k + 1 + (s.size - k) := by omega
        go_wp2_with fail
        go_region_law (go_simp; go_at_call 167; refine (l1Byte_c p cv code _ _ (CurS.drew hC2)).mono ?_; rintro e w3 ⟨rfl, hC3, hg3⟩)
        all_goals (go_wp2_with fail)
        all_goals go_ret
        all_goals exact Drew.intro (ret_str (ba_ext (by simp only [ByteArray.data_append, Array.toList_append, ext_head, ext_tail]))) (Cur.alloc hC3 _) (((grown_drewN (hg1.trans hg2) 1).trans hg3).trans (World.grownBy_alloc _ _ _))
      · rw [if_neg m1] at hr
        have e1 : (M.1 == 1) = false := beq_eq_false_iff_ne.2 m1
        by_cases m2 : M.1 = 2
        · rw [if_pos m2] at hr
          rw [hr]
          have e2 : (M.1 == 2) = true := beq_iff_eq.2 m2
          clear m0 m1 m2 hr
          have p1 : k ≤ s.size := by omega
          go_enter Tryz.func80, Tryz.ntmps80
          go_wp2_with fail
          refine (l1Below_r p cv code _ _ _ hC).mono ?_; rintro e w1 ⟨rfl, hC1, hg1⟩
          dsimp only at *
          rw [HK.out]
          go_wp2_with fail
          refine (l1Below_r p cv code _ _ _ hC1).mono ?_; rintro e w2 ⟨rfl, hC2, hg2⟩
          rw [HM.out] at hC2 ⊢
          dsimp only at *
          go_wp2_with fail
          go_ret
          exact Drew.intro (ret_str (ba_ext (ext_head _ _))) hC2 (hg1.trans hg2)
        · rw [if_neg m2] at hr
          have hgd : s.data.toList.getD k 0 = s[k] := by rw [List.getD, List.getElem?_eq_getElem (by rw [hlen]; exact hks)]; rfl
          rw [hgd] at hr
          rw [hr]
          have e2 : (M.1 == 2) = false := beq_eq_false_iff_ne.2 m2
          clear m0 m1 m2 hr hgd
          have hb := belowR_bd code M.2 255
          have hb1 := hb.2 (by omega)
          have hb0 := hb.1
          clear hb
          have hx := s[k].toNat_lt
          have hxb := xorB_bd ((s[k].toNat : Nat) : Int) (1 + (belowR code M.2 255).1)
          go_enter Tryz.func80, Tryz.ntmps80
          go_wp2_with fail
          refine (l1Below_r p cv code _ _ _ hC).mono ?_; rintro e w1 ⟨rfl, hC1, hg1⟩
          dsimp only at *
          rw [HK.out]
          go_wp2_with fail
          refine (l1Below_r p cv code _ _ _ hC1).mono ?_; rintro e w2 ⟨rfl, hC2, hg2⟩
          rw [HM.out] at hC2 ⊢
          dsimp only at *
          have p1 : k ≤ s.size := by omega
          have p2 : k + 1 ≤ s.size := by omega
          have p3 : 0 ≤ (k : Int) + 1 := by omega
          have p4 : (k : Int) + 1 ≤ s.size := by omega
          have t1 : ¬ 9223372036854775807 < k + 1 := by omega
          have t2 : ¬ 9223372036854775807 < s.size := by omega
          have hconv := fun w => conv_one w (xorB ((s[k].toNat : Nat) : Int) (1 + (belowR code M.2 255).1)) hxb.1 hxb.2
          have q1 : IntKind.i64.wrap ((k : Int) + 1) = (k : Int) + 1 := IntWalk.i64_in _ (by omega)
          have q2 : ((k : Int) + 1).toNat = k + 1 := by omega
          have q3 : IntKind.i64.wrap ((s[k].toNat : Nat) : Int) = ((s[k].toNat : Nat) : Int) := IntWalk.i64_in _ (by omega)
          have q4 : IntKind.i64.wrap (1 + (belowR code M.2 255).1) = 1 + (belowR code M.2 255).1 := IntWalk.i64_in _ (by omega)
          have q5 : IntKind.u8.wrap (bits .xor .i64 ((s[k].toNat : Nat) : Int) (1 + (belowR code M.2 255).1)) = xorB ((s[k].toNat : Nat) : Int) (1 + (belowR code M.2 255).1) := rfl
          go_wp2_with fail
          go_region_law (go_simp; go_at_call 165; refine (l1Below_c p cv code _ _ _ (CurS.drew hC2)).mono ?_; rintro e w3 ⟨rfl, hC3, hg3⟩)
          all_goals clear q1 q2 q3 q4 q5
          all_goals (go_wp2_with fail)
          all_goals go_ret
          all_goals exact Drew.intro (ret_str (ba_ext (by simp only [ByteArray.data_append, Array.toList_append, ext_head, ext_tail]))) (Cur.alloc hC3 _) (((grown_drewN (hg1.trans hg2) 1).trans hg3).trans (World.grownBy_alloc _ _ _))

end Go.Proofs.YtmecdjincmkofaaGreatDoor
