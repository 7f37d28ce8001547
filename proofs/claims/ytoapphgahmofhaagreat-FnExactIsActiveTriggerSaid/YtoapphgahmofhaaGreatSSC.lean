/-
  Walks and plain lemmas for the laws of this seat: what single Go functions return, for every argument.
-/
import Derived.Lib.ItoaNum
import Derived.Lib.ItoaLen
import Derived.Test.YtoapphgahmofhaaGreatBase
import Derived.Test.YtoapphgahmofhaaGreatInts
import Derived.Test.YtoapphgahmofhaaGreatTakeE
import Derived.Test.YtoapphgahmofhaaGreatTySS
import Derived.Test.YtoapphgahmofhaaGreatFactC
namespace Go.Proofs.YtoapphgahmofhaaGreat
open Go.RowKit

set_option maxHeartbeats 1600000 in
theorem eqIntSS_c (v u : Value) (l : List (List Int)) (w : World) (hl : IntSS_at w w.heap.size v l) (hm : IntSS_at w w.heap.size u l) :
    Calls Tryz.prog 26 #[v, u] w fun e w' => e = .returned (.bool true) ∧ Below w.heap.size w w' := by
  have HL := Lib.hid hl
  have HM := Lib.hid hm
  obtain ⟨A, c, rfl, hlc, hcm⟩ := hl.form
  obtain ⟨A', c', rfl, hlc', hcm'⟩ := hm.form
  clear hl hm
  unfold maxLen at hcm hcm'
  go_enter Tryz.func26, Tryz.ntmps26
  go_wp2
  go_loopw [5] (fun i wr => ∃ k : Nat, k ≤ l.length ∧ i = .int .i64 k ∧ Below w.heap.size w wr) (fun i _ => l.length - (intOf i).toNat)
  case atStart => exact ⟨0, by omega, rfl, Below.refl _ _⟩
  case round =>
    obtain ⟨k, hk, rfl, hW⟩ := hrel
    have hz := hW.size
    by_cases hlt : k < l.length
    · obtain ⟨b, off, V, rfl, hb, c1, hV⟩ := IntSS_at.elem HL.out k hlt
      obtain ⟨b', off', V', rfl, hb', d1, hV'⟩ := IntSS_at.elem HM.out k hlt
      have C1 := Aft.cell hb c1
      have D1 := Aft.cell hb' d1
      have hcon := fun (u : Aft w.heap.size w) => eqIntS_c V V' l[k] u.now ((hV.below u.is (Nat.le_refl _)).more u.is.size) ((hV'.below u.is (Nat.le_refl _)).more u.is.size)
      obtain ⟨_, _, rfl, -⟩ := id hV
      obtain ⟨_, _, rfl, -⟩ := id hV'
      clear c1 d1
      go_wp2
      refine wp_region_aft hW (by kernel_rfl) (by kernel_rfl) ?_
      repeat (go_big_quiet_step (((go_at_call 25; exact calls_aft (Nat.le_refl _) (hcon _)))))
      refine wpQuiet_nil ?_
      refine aft_end ?_
      intro w1 hh
      go_wp2
      go_roundw
      case rel => exact ⟨k + 1, by omega, by go_num, hh⟩
      case measure => simp [intOf]; omega
    · obtain rfl : k = l.length := by omega
      go_wp2
      go_ret
      exact ⟨rfl, hW⟩

/-- the first i rows marked, the others as they were -/
def mkToR (k : Nat) (l : List (List Int)) (i : Nat) : List (List Int) := (IntSS_mk k l).take i ++ l.drop i
theorem mkToR_len (k : Nat) (l : List (List Int)) (i : Nat) (h : i ≤ l.length) : (mkToR k l i).length = l.length := by unfold mkToR; rw [List.length_append, List.length_take, IntSS_mk_len, List.length_drop]; omega
theorem mkToR_at (k : Nat) (l : List (List Int)) (i : Nat) (h : i < l.length) (h' : i < (mkToR k l i).length) : (mkToR k l i)[i] = l[i] := by
  have e : ((IntSS_mk k l).take i).length = i := by rw [List.length_take, IntSS_mk_len]; omega
  simp only [mkToR]
  rw [List.getElem_append_right (by omega)]
  simp [e]
theorem mkToR_succ (k : Nat) (l : List (List Int)) (i : Nat) (h : i < l.length) : (mkToR k l i).set i (markRow k l i) = mkToR k l (i + 1) := by
  have e : ((IntSS_mk k l).take i).length = i := by rw [List.length_take, IntSS_mk_len]; omega
  unfold mkToR
  rw [List.set_append_right _ _ (by omega), e, Nat.sub_self, List.drop_eq_getElem_cons h, List.set_cons_zero, List.take_succ_eq_append_getElem (by rw [IntSS_mk_len]; exact h), IntSS_mk_at, List.append_assoc]
  rfl
/-- the blocks of the rows -/
def FootR (Vs : List Value) : Nat → Prop := fun q => ∃ V ∈ Vs, V.ownBlock = some q
set_option maxHeartbeats 1600000 in
set_option maxRecDepth 100000 in
theorem markIntSS_any (B C : Nat) (v : Value) (Vs : List Value) (l : List (List Int)) (k : Nat) (w : World) (hS : IntSSO B C v Vs l w) (hn : IntSS_sz l ≤ 1048576) (hk : k ≤ 100000000000) :
    Calls Tryz.prog 29 #[v, .int .i64 (k : Int)] w fun e w' => e = .returned (.int .i64 ((k + IntSS_cnt l : Nat) : Int)) ∧ IntSSO B C v Vs (IntSS_mk k l) w' ∧ Chg (FootR Vs) w w' := by
  obtain ⟨A, c, rfl, hc1, hc2⟩ := (hS.at_ (Nat.le_refl _)).form
  unfold maxLen at hc2
  have hn1 : l.length + lenSum l ≤ 1048576 := hn
  go_enter Tryz.func29, Tryz.ntmps29
  go_wp2
  go_loopw [1, 5] (fun x j wr => ∃ i : Nat, i ≤ l.length ∧ j = .int .i64 (i : Int) ∧ x = .int .i64 ((k + lenSum (l.take i) : Nat) : Int) ∧ IntSSO B C (.slice A l.length c) Vs (mkToR k l i) wr ∧ Chg (FootR Vs) w wr) (fun _ j _ => l.length - (intOf j).toNat)
  case atStart => exact ⟨0, by omega, rfl, by simp [lenSum], by simpa [mkToR] using hS, Chg.refl _ _⟩
  case round =>
    clear hS
    obtain ⟨i, hi, rfl, rfl, hO, hW⟩ := hrel
    have hml := mkToR_len k l i hi
    by_cases hlt : i < l.length
    · have hil : i < (mkToR k l i).length := by omega
      have hiv : i < Vs.length := by rw [hO.len]; exact hil
      have hv1 := lenSum_take l i hlt
      have hv2 := lenSum_le l (i + 1)
      have hrow := hO.row
      rw [hO.len, hml] at hrow
      obtain ⟨g, cap, hv, hg0, hg1⟩ := World.ownsRow.form hrow (by omega)
      simp only [Value.slice.injEq] at hv
      obtain ⟨rfl, -, rfl⟩ := hv
      clear hrow
      have d1 := hO.cell hml i hil hiv
      have hin := hO.el i hil hiv
      rw [mkToR_at k l i hlt hil] at hin
      have hcon := markIntS_any B Vs[i] l[i] (k + lenSum (l.take i)) _ hin.1 (by omega) (by omega)
      have HC := Lib.hid hcon
      have HO := Lib.hid hO
      have HIN := Lib.hid hin
      obtain ⟨_, _, hVf, -⟩ := id (hin.at_ (Nat.le_refl _))
      rw [hVf] at d1
      rw [hVf] at hcon
      have HVF := Lib.hid hVf
      obtain ⟨K, hK⟩ : ∃ K, K = k + lenSum (l.take i) := ⟨_, rfl⟩
      have HKs := Lib.hid (show K + l[i].length = k + lenSum (l.take (i + 1)) by rw [hK, hv1]; omega)
      have HKm := Lib.hid (show markInts K l[i].length = markRow k l i by
        unfold markRow; rw [hK, show l.getD i default = l[i] by simp [List.getD, List.getElem?_eq_getElem hlt]])
      have hKb : K ≤ 200000000000 := by omega
      rw [← hK] at hcon ⊢
      clear hK hin hml hO HC hVf
      go_wp2_with fail
      refine hcon.mono ?_
      rintro e w2 ⟨rfl, hV2, hC2⟩
      rw [← HVF.out] at hV2 hC2
      have H2 := Lib.hid (IntSSO.setRow HO.out i hil hiv (markInts K l[i].length) ⟨hV2, HIN.out.2⟩ hC2)
      have hc2 : Chg (FootR Vs) w w2 := hW.trans (hC2.mono fun q hq => ⟨Vs[i], List.getElem_mem hiv, hq⟩)
      clear hcon hC2 hV2
      go_wp2
      go_roundw
      case rel =>
        refine ⟨i + 1, by omega, by go_num, by rw [← HKs.out]; go_num, ?_, hc2⟩
        have := H2.out
        rw [← mkToR_succ k l i hlt, ← HKm.out]
        exact this
      case measure => simp [intOf]; omega
    · obtain rfl : i = l.length := by omega
      have hO' : IntSSO B C (.slice A l.length c) Vs (IntSS_mk k l) wr := by
        have := hO
        unfold mkToR at this
        rwa [List.drop_length, List.append_nil, List.take_of_length_le (by rw [IntSS_mk_len]; exact Nat.le_refl _)] at this
      clear hO
      have he := Lib.hid (show k + lenSum (l.take l.length) = k + IntSS_cnt l by rw [List.take_length]; unfold IntSS_cnt; omega)
      go_wp2
      go_ret
      exact ⟨ret_int (by rw [he.out]), hO', hW⟩
theorem IntSSO.foot {B C : Nat} {v : Value} {Vs : List Value} {l : List (List Int)} {w : World} (h : IntSSO B C v Vs l w) : ∀ q, FootR Vs q → Mid B C q := by
  rintro q ⟨V, hV, hq⟩
  obtain ⟨i, hi, rfl⟩ := List.getElem_of_mem hV
  have he := h.el i (by have := h.len; omega) hi
  exact ⟨(he.1.lt q hq).1, he.2 q hq⟩
theorem markIntSS_c (B C : Nat) (v : Value) (l : List (List Int)) (k : Nat) (w : World) (h : IntSS_own B C v l w) (hn : IntSS_sz l ≤ 1048576) (_ : 1 ≤ k) (hk : k ≤ 1000000000) :
    Calls Tryz.prog 29 #[v, .int .i64 (k : Int)] w fun e w' => e = .returned (.int .i64 ((k + IntSS_cnt l : Nat) : Int)) ∧ IntSS_own B C v (IntSS_mk k l) w' ∧ Chg (Mid B C) w w' := by
  obtain ⟨Vs, hS⟩ := h
  exact (markIntSS_any B C v Vs l k w hS hn (by omega)).mono fun _ _ ⟨he, ho, hc⟩ => ⟨he, ⟨Vs, ho⟩, hc.mono hS.foot⟩

set_option maxHeartbeats 1600000 in
set_option maxRecDepth 100000 in
theorem heldIntSS_c (v : Value) (l : List (List Int)) (k : Nat) (w : World) (h : IntSS_at w w.heap.size v (IntSS_mk k l)) (hn : IntSS_sz l ≤ 1048576) (_ : 1 ≤ k) (hk : k ≤ 1000000000) :
    Calls Tryz.prog 30 #[v, .int .i64 (k : Int)] w fun e w' => e = .returned (.int .i64 ((k + IntSS_cnt l : Nat) : Int)) ∧ Below w.heap.size w w' := by
  have HL := Lib.hid h
  have hml := IntSS_mk_len k l
  obtain ⟨A, c, rfl, hc1, hc2⟩ := h.form
  clear h
  rw [hml] at hc1
  unfold maxLen at hc2
  have HLn : Hid (IntSS_at w w.heap.size (.slice A l.length c) (IntSS_mk k l)) := Lib.hid (by have := HL.out; rwa [hml] at this)
  have hn1 : l.length + lenSum l ≤ 1048576 := hn
  rw [hml]
  have HML := Lib.hid hml
  clear HL hml hn
  go_enter Tryz.func30, Tryz.ntmps30
  go_wp2
  go_loop [1, 5] (fun x j => ∃ i : Nat, i ≤ l.length ∧ j = .int .i64 (i : Int) ∧ x = .int .i64 ((k + lenSum (l.take i) : Nat) : Int)) (fun _ j => l.length - (intOf j).toNat)
  case atStart => exact ⟨0, by omega, rfl, by simp [lenSum]⟩
  case round =>
    obtain ⟨i, hi, rfl, rfl⟩ := hrel
    by_cases hlt : i < l.length
    · have him : i < (IntSS_mk k l).length := by rw [HML.out]; exact hlt
      have HL2 : IntSS_at w w.heap.size (.slice A (IntSS_mk k l).length c) (IntSS_mk k l) := by rw [HML.out]; exact HLn.out
      obtain ⟨b, off, V, rfl, hb, c1, hV⟩ := IntSS_at.elem HL2 i him
      have hv1 := lenSum_take l i hlt
      have hv2 := lenSum_le l (i + 1)
      rw [IntSS_mk_at] at hV
      obtain ⟨K, hK⟩ : ∃ K, K = k + lenSum (l.take i) := ⟨_, rfl⟩
      have hvs : markRow k l i = markInts K l[i].length := by
        unfold markRow; rw [hK, show l.getD i default = l[i] by simp [List.getD, List.getElem?_eq_getElem hlt]]
      rw [hvs] at hV
      have hcon := heldIntS_any V l[i].length K _ w hV (by omega) (by omega)
      obtain ⟨_, _, rfl, -⟩ := id hV
      have HKs := Lib.hid (show K + l[i].length = k + lenSum (l.take (i + 1)) by rw [hK, hv1]; omega)
      have hKb : K ≤ 1010000000 := by omega
      rw [← hK]
      clear hvs hV HL2 hK
      go_wp2_with (go_at_call 64; refine hcon.mono ?_; rintro e w1 ⟨rfl, rfl⟩)
      go_round
      case rel => exact ⟨i + 1, by omega, by go_num, by rw [← HKs.out]; go_num⟩
      case measure => simp [intOf]; omega
    · obtain rfl : i = l.length := by omega
      go_wp2
      go_ret
      exact ⟨ret_int (by unfold IntSS_cnt; omega), Below.refl _ _⟩

theorem ownsRow_cells {w : World} {B k n : Nat} {e : TypeId} {v : Value} {xs : List Value} (h : w.ownsRow B e k v n xs) (g : Nat) (hg : v.ownBlock = some g) : ∃ c, w.heap[g]? = some (.cells c e (0, 0)) := by
  rcases h.2 with ⟨rfl, _⟩ | ⟨g', cap, cur, rfl, _, hgb, _⟩
  · cases hg
  · obtain rfl : g' = g := by simpa [Value.ownBlock] using hg
    exact ⟨cur, hgb⟩

/-- the digits of m, none for 0 -/
def dd (m : Nat) : List UInt8 := if m = 0 then [] else Lib.decDigits m
theorem decDigits_rec (u : Nat) : Lib.decDigits u = if u < 10 then [UInt8.ofNat (48 + u)] else Lib.decDigits (u / 10) ++ [UInt8.ofNat (48 + u % 10)] := by
  rw [Lib.decDigits]; split <;> rfl
theorem dd_step (m : Nat) (h : 0 < m) : dd m = dd (m / 10) ++ [byteI (48 + (m : Int) % 10)] := by
  have hb : byteI (48 + (m : Int) % 10) = UInt8.ofNat (48 + m % 10) := by unfold byteI; rw [show (48 + (m : Int) % 10).toNat = 48 + m % 10 by omega]
  rw [hb]
  unfold dd
  rw [if_neg (by omega), decDigits_rec]
  by_cases h1 : m < 10
  · rw [if_pos h1, if_pos (by omega), Nat.mod_eq_of_lt h1]; rfl
  · rw [if_neg h1, if_neg (by omega)]
/-- what a round of the digits' loop keeps -/
def DigInv (n m : Nat) (o : ByteArray) : Prop := (∃ l : List UInt8, o = ⟨l.toArray⟩ ∧ dd m ++ l = Lib.decDigits n) ∧ o.size ≤ 20
theorem dd_len (n : Nat) (h : n ≤ 9223372036854775808) : (Lib.decDigits n).length ≤ 20 := by
  rw [Lib.decDigits_length]; exact Lib.nDigits_le20 n (by omega)
theorem DigInv.zero (n : Nat) (h : 0 < n) : DigInv n n ⟨#[]⟩ := ⟨⟨[], rfl, by unfold dd; rw [if_neg (by omega), List.append_nil]⟩, by decide⟩
theorem DigInv.step {n m : Nat} {o : ByteArray} (h : DigInv n m o) (hm : 0 < m) (hn : n ≤ 9223372036854775808) : DigInv n (m / 10) ((⟨#[byteI (48 + (m : Int) % 10)]⟩ : ByteArray) ++ o) := by
  obtain ⟨⟨l, rfl, h1⟩, h2⟩ := h
  rw [strOne _ _ l rfl]
  rw [dd_step m hm, List.append_assoc, List.singleton_append] at h1
  refine ⟨⟨_, rfl, h1⟩, ?_⟩
  have := congrArg List.length h1
  have := dd_len n hn
  simp only [List.length_append] at *
  show (byteI (48 + (m : Int) % 10) :: l).toArray.size ≤ 20
  rw [List.size_toArray]; omega
theorem DigInv.done {n : Nat} {o : ByteArray} (h : DigInv n 0 o) : o = ⟨(Lib.decDigits n).toArray⟩ := by
  obtain ⟨⟨l, rfl, h1⟩, _⟩ := h
  have : l = Lib.decDigits n := by simpa [dd] using h1
  rw [this]
theorem itoa_pos (n : Nat) : Lib.itoa (n : Int) = Lib.decDigits n := by unfold Lib.itoa; rw [if_neg (by omega)]; simp
theorem itoa_negN (n : Nat) (h : 0 < n) : Lib.itoa (-(n : Int)) = 45 :: Lib.decDigits n := by unfold Lib.itoa; rw [if_pos (by omega)]; simp

end Go.Proofs.YtoapphgahmofhaaGreat
