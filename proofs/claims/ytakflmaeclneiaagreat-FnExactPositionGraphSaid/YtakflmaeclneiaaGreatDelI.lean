/-
  Walks and plain lemmas for the laws of this seat: what single Go functions return, for every argument.
-/
import Derived.Shelf.Abstract
import Derived.Test.YtakflmaeclneiaaGreatShelf
import Derived.Test.YtakflmaeclneiaaGreatBase
import Derived.Test.YtakflmaeclneiaaGreatMem
import Derived.Test.YtakflmaeclneiaaGreatInts
import Derived.Test.YtakflmaeclneiaaGreatRowCut
namespace Go.Proofs.YtakflmaeclneiaaGreat
open Go.RowKit

/-- a function value that tells of an int among l whether p holds, wherever G holds; it only makes memory -/
def TellsI (g : Nat) (lb : Array Value) (G : World → Prop) (p : Int → Bool) (l : List Int) : Prop :=
  ∀ (W : World) (x : Int), G W → x ∈ l → Calls Tryz.prog g (#[.int .i64 x] ++ lb) W fun e w' => e = .returned (.bool (p x)) ∧ Below W.heap.size W w'
set_option maxHeartbeats 1600000 in
set_option maxRecDepth 100000 in
theorem implIxI_any (g : Nat) (lb : Array Value) (eg : ∀ args w, (callFunc g args).run Tryz.prog w = .ok (.enter g args) w) (G : World → Prop) (hG : ∀ W W', G W → Below W.heap.size W W' → G W') (p : Int → Bool) (v : Value) (l : List Int) (w : World) (h0 : G w) (ht : TellsI g lb G p l) (hl : IntsAt w w.heap.size v l) :
    Calls Tryz.prog 84 #[v, .func (.func g) #[] lb] w fun e w' => e = .returned (.int .i64 (ixOf p l)) ∧ Below w.heap.size w w' := by
  have HL := Lib.hid hl
  obtain ⟨A, c, rfl, hlc, hcm, -⟩ := hl
  unfold maxLen at hcm
  have HG := Lib.hid (fun wr (hW : Below w.heap.size w wr) => hG w wr h0 hW)
  have HT := Lib.hid ht
  clear hG h0 ht
  go_enter Tryz.func84, Tryz.ntmps84
  go_wp2
  go_loopw [8] (fun i wr => ∃ k : Nat, k ≤ l.length ∧ i = .int .i64 k ∧ Hid (IxTo p l k) ∧ Below w.heap.size w wr) (fun i _ => l.length - (intOf i).toNat)
  case atStart => exact ⟨0, by omega, rfl, Lib.hid (IxTo.zero _ _), Below.refl _ _⟩
  case round =>
    obtain ⟨k, hk, rfl, HI, hW⟩ := hrel
    have hz := hW.size
    by_cases hlt : k < l.length
    · obtain ⟨b, off, rfl, hb, c0⟩ := IntsAt.elem HL.out k hlt
      replace c0 := (hW.cell (p := ⟨b, off + k, none⟩) hb).trans c0
      have hcall := HT.out wr l[k] (HG.out wr hW) (List.getElem_mem hlt)
      cases hp : p l[k] with
      | true =>
        have HV := Lib.hid (HI.out.hit hlt hp)
        rw [hp] at hcall
        clear hp
        go_wp2_with (go_at_fn g; refine hcall.mono ?_; rintro e w1 ⟨rfl, hb1⟩)
        go_ret
        exact ⟨ret_int HV.out.symm, hW.trans (hb1.mono hz)⟩
      | false =>
        have HV := Lib.hid (HI.out.next hlt hp)
        rw [hp] at hcall
        clear hp
        go_wp2_with (go_at_fn g; refine hcall.mono ?_; rintro e w1 ⟨rfl, hb1⟩)
        go_roundw
        case rel => exact ⟨k + 1, by omega, by go_num, HV, hW.trans (hb1.mono hz)⟩
        case measure => simp [intOf]; omega
    · obtain rfl : k = l.length := by omega
      have HV := Lib.hid HI.out.miss
      go_wp2
      go_ret
      exact ⟨ret_int HV.out.symm, hW⟩
set_option maxHeartbeats 3200000 in
set_option maxRecDepth 100000 in
theorem implDelI_any (g : Nat) (lb : Array Value) (eg : ∀ args w, (callFunc g args).run Tryz.prog w = .ok (.enter g args) w) (G : World → Prop) (hG : ∀ W W', G W → Below W.heap.size W W' → G W') (p : Int → Bool) (l : List Int) (B : Nat) (v : Value) (w : World) (h0 : G w) (ht : TellsI g lb G p l)
    (hn : l.length ≤ 1048576) (hB : B ≤ w.heap.size) (hS : ∀ W q o u, B ≤ q → G W → G (W.setCell ⟨q, o, none⟩ u)) (hO : OwnInts B v l w) :
    Calls Tryz.prog 71 #[v, .func (.func g) #[] lb] w fun e w' => ∃ u, e = .returned u ∧ OwnInts B u (keepN p l) w' ∧ Below B w w' := by
  have hix := implIxI_any g lb eg G hG p v l w h0 ht hO.at_
  rcases ixOf_form p l with ⟨hi, hany⟩ | ⟨k0, hk0, hi, hpk, hbef⟩
  · have HK := Lib.hid (keepN_none hany)
    have HO := Lib.hid hO
    rw [hi] at hix
    have hm1 : ((-1 : Int) == -1) = true := rfl
    obtain ⟨A, c, rfl, -⟩ := hO.at_
    clear hi hany hO hS hG ht h0
    go_enter Tryz.func71, Tryz.ntmps71
    go_wp2_with (go_at_call 84; refine hix.mono ?_; rintro e w1 ⟨rfl, hb1⟩)
    go_ret
    exact ⟨_, rfl, by rw [HK.out]; exact HO.out.below hb1 (Nat.le_refl _), hb1.mono hB⟩
  · obtain ⟨q, cap, rfl, hq0, hq1, hnc, hcm⟩ := hO.form (by omega)
    unfold maxLen at hcm
    have hn1 : ((k0 : Int) == -1) = false := beq_eq_false_iff_ne.2 (by omega)
    rw [hi] at hix
    have hstart : keepN p (l.take (k0 + 1)) = l.take k0 := keepN_first k0 hk0 hpk hbef
    have HSt := Lib.hid hstart
    have hlt0 : (keepN p (l.take l.length)).length < l.length := by
      rw [List.take_of_length_le (Nat.le_refl _)]
      exact keepK_lt (List.any_eq_true.2 ⟨l[k0], List.getElem_mem hk0, hpk⟩)
    have HLT := Lib.hid hlt0
    have HO := Lib.hid hO
    have HT := Lib.hid ht
    have HGI := Lib.hid (And.intro hG hS)
    have H0 := Lib.hid h0
    clear hi hstart hlt0 hO hS hG ht h0 hpk hbef
    go_enter Tryz.func71, Tryz.ntmps71
    go_wp2_with fail
    refine hix.mono ?_
    rintro e w1 ⟨rfl, hb1⟩
    go_wp2
    go_loopw [5, 6] (fun i j wr => ∃ k : Nat, k ≤ l.length ∧ j = .int .i64 k ∧ i = .int .i64 (keepN p (l.take k)).length ∧ wr.ownsRow B 3 1 (.slice (some ⟨q, 0, none⟩) l.length cap) l.length ((rowK p l k).map (Value.int .i64)) ∧ Hid (Chg (fun k => k = q) w wr) ∧ Hid (G wr)) (fun _ j _ => l.length - (intOf j).toNat)
    case atStart =>
      refine ⟨k0 + 1, by omega, by go_num, ?_, ?_, Lib.hid (Chg.of_below hb1), Lib.hid (HGI.out.1 _ _ H0.out hb1)⟩
      · rw [HSt.out, List.length_take, Nat.min_eq_left (by omega)]
      · have e : rowK p l (k0 + 1) = l := by
          unfold rowK
          rw [HSt.out, List.length_take, Nat.min_eq_left (by omega), List.take_append_drop]
        rw [e]
        exact HO.out.below hb1 (Nat.le_refl _)
    case round =>
      obtain ⟨k, hk, rfl, rfl, hrow, HC, HGw⟩ := hrel
      have hz := HC.out.size
      have hik := keepK_le p l k
      have hRl := rowK_len p l k
      have HIK := Lib.hid hik
      have hqw : q < wr.heap.size := by omega
      by_cases hlt : k < l.length
      · have hc0 : wr.cell? ⟨q, k, none⟩ = some (.int .i64 l[k]) := by
          rw [World.ownsRow.cellAt hrow k (by omega), List.getElem?_map, List.getElem?_eq_getElem (by omega), rowK_get p l k k (Nat.le_refl _) hlt]; rfl
        have HKp := Lib.hid (rowK_keep p l k hlt)
        have HDr := Lib.hid (rowK_drop p l k hlt)
        have hcall := HT.out wr l[k] HGw.out (List.getElem_mem hlt)
        have HROW := Lib.hid hrow
        have hil : (keepN p (l.take k)).length < l.length := by omega
        have HIL := Lib.hid hil
        clear hrow hRl
        cases hp : p l[k] with
        | true =>
          have hd := HDr.out hp
          have HD := Lib.hid hd
          rw [hp] at hcall
          clear hd hp
          go_wp2_with fail
          refine hcall.mono ?_
          rintro e w2 ⟨rfl, hb2⟩
          clear hcall hc0
          go_wp2
          go_roundw
          case rel => exact ⟨k + 1, by omega, by go_num, by rw [HD.out.2], by rw [HD.out.1]; exact row_below HROW.out hb2 (Nat.le_refl _), Lib.hid (HC.out.then_below (hb2.mono hz)), Lib.hid (HGI.out.1 _ _ HGw.out hb2)⟩
          case measure => simp [intOf]; omega
        | false =>
          have hd := HKp.out hp
          have HD := Lib.hid hd
          rw [hp] at hcall
          clear hd hp
          go_wp2_with fail
          refine hcall.mono ?_
          rintro e w2 ⟨rfl, hb2⟩
          have hrow2 := row_below HROW.out hb2 (Nat.le_refl _)
          have d0 : (w2.cell? ⟨q, (keepN p (l.take k)).length, none⟩) = some (.int .i64 ((rowK p l k)[(keepN p (l.take k)).length]'(by rw [rowK_len]; exact HIL.out))) := by
            rw [World.ownsRow.cellAt hrow2 _ (by have := HIL.out; omega), List.getElem?_map, List.getElem?_eq_getElem (by rw [rowK_len]; exact HIL.out)]; rfl
          have dz := World.ownsRow.frozenAt hrow2
          have HROW2 := Lib.hid ((World.ownsRow.stored hrow2 (keepN p (l.take k)).length (.int .i64 l[k])).1)
          rw [← List.map_set, ← HD.out.1] at HROW2
          have HB2 := Lib.hid hb2
          clear hcall hc0 hrow2 hb2
          go_wp2
          go_roundw
          case rel => exact ⟨k + 1, by omega, by go_num, by rw [HD.out.2]; go_num, HROW2.out, Lib.hid ((HC.out.then_below (HB2.out.mono hz)).setCell (p := ⟨q, (keepN p (l.take k)).length, none⟩) rfl _), Lib.hid (HGI.out.2 _ _ _ _ hq0 (HGI.out.1 _ _ HGw.out HB2.out))⟩
          case measure => simp [intOf]; omega
      · obtain rfl : k = l.length := by omega
        generalize hi0 : (keepN p (List.take l.length l)).length = i0 at *
        have hti : i0 < l.length := HLT.out
        have hA : keepN p (l.take l.length) = keepN p l := by rw [List.take_of_length_le (Nat.le_refl _)]
        have hi0' : (keepN p l).length = i0 := by rw [← hA]; exact hi0
        have hcl : ∀ ty, (Builtin.clear_ #[47] ty #[.slice (some ⟨q, i0, none⟩) (l.length - i0) (cap - i0)]).run Tryz.prog wr = .ok (.tuple #[]) (wr.setCells q i0 (List.replicate (l.length - i0) (.int .i64 0))) :=
          fun ty => run_clear_ints Tryz.underlying47 zeroInt_val q _ _ _ (by omega) (fun j hj => by
            rw [World.ownsRow.cellAt hrow _ (by omega), List.getElem?_eq_getElem (by rw [List.length_map, hRl]; omega)]; rfl) (World.ownsRow.frozenAt hrow)
        have HFIN := Lib.hid (show OwnInts B (.slice (some ⟨q, 0, none⟩) i0 cap) (keepN p l) (wr.setCells q i0 (List.replicate (l.length - i0) (.int .i64 0))) by
          have h1 := ownsRow_cut (ownsRow_setCells (List.replicate (l.length - i0) (Value.int .i64 0)) i0 hrow) (i := i0) (by omega)
          rw [Nat.mul_one, setMany_take] at h1
          have e : ((rowK p l l.length).map (Value.int .i64)).take i0 = (keepN p l).map (Value.int .i64) := by
            unfold rowK
            rw [hA, List.map_append, List.take_left' (by rw [List.length_map, hi0'])]
          rw [e] at h1
          unfold OwnInts
          rw [hi0']
          exact h1)
        have HCF := Lib.hid ((HC.out.trans (chg_setCells (List.replicate (l.length - i0) (Value.int .i64 0)) i0 wr)).below (B := B) (fun k hk => by subst hk; exact hq0) hB)
        have hdk : ¬ (l.length - i0 = 0) := by omega
        have hdk2 : ¬ (cap - i0 = 0) := by omega
        clear hrow hA hi0 hi0'
        go_wp2
        go_ret
        exact ⟨_, rfl, HFIN.out, HCF.out⟩

theorem implSearchInts_any (v : Value) (l : List Int) (k : Int) (w : World) (hl : IntsAt w w.heap.size v l) (ha : l.Pairwise (· ≤ ·)) (hn : l.length ≤ 1048576) :
    Calls Tryz.prog 73 #[v, .int .i64 k] w fun e w' => e = .returned (.tuple #[.int .i64 (l.countP (· < k) : Nat), .bool (l.contains k)]) ∧ Below w.heap.size w w' := by
  obtain ⟨A, c, rfl, hlc, hcm, hc, -⟩ := hl
  rcases Nat.eq_zero_or_pos l.length with h0 | h0
  · have e : l = [] := List.eq_nil_of_length_eq_zero h0
    subst e
    refine (Tryz.slices_BinarySearch_int_empty A c k w).mono ?_
    rintro e w' ⟨rfl, hw⟩
    exact ⟨rfl, by rw [hw]; exact Below.refl _ _⟩
  · obtain ⟨b, off, rfl, hb, hc⟩ := hc h0
    have hcc : ∀ j, j < l.length → w.cell? ⟨b, off + j, none⟩ = some (.int .i64 (l.getD j 0)) := fun j hj => by
      refine hc j _ ?_
      rw [flat_int]; simp [hj]
    have h := Tryz.slices_BinarySearch_int b off l.length c l k w (Nat.le_refl _) (by omega) hcc (by rw [List.take_of_length_le (Nat.le_refl _)]; exact ha)
    rw [List.take_of_length_le (Nat.le_refl _)] at h
    refine h.mono ?_
    rintro e w' ⟨rfl, q, rfl⟩
    exact ⟨rfl, below_drewN w q⟩

end Go.Proofs.YtakflmaeclneiaaGreat
