/-
  Walks and plain lemmas for the laws of this seat: what single Go functions return, for every argument.
-/
import Derived.Deep.RegionHeld3
import Derived.Test.YtbdgdphehbkjgaaBase
import Derived.Test.YtbdgdphehbkjgaaRelsF
namespace Go.Proofs.Ytbdgdphehbkjgaa
open Go.RowKit

theorem take_eq_next {α : Type} (l m : List α) (k : Nat) (h : k < l.length) (h' : k < m.length) (he : l[k] = m[k]) (ht : l.take k = m.take k) : l.take (k + 1) = m.take (k + 1) := by
  rw [List.take_succ_eq_append_getElem h, List.take_succ_eq_append_getElem h', ht, he]
theorem take_eq_not {α : Type} (l m : List α) (k : Nat) (h : k < l.length) (h' : k < m.length) (he : ¬ l[k] = m[k]) : ¬ l = m := by
  rintro rfl; exact he rfl
set_option maxHeartbeats 1600000 in
theorem eqRelationS_any (v u : Value) (l m : List Rel) (w : World) (hl : RelsAt w w.heap.size v l) (hm : RelsAt w w.heap.size u m) :
    Calls Try.prog 74 #[v, u] w fun e w' => e = .returned (.bool (decide (l = m))) ∧ Below w.heap.size w w' := by
  have HL := Lib.hid hl
  have HM := Lib.hid hm
  obtain ⟨A, c, rfl, hlc, hcm, -⟩ := hl
  obtain ⟨A', c', rfl, hlc', hcm', -⟩ := hm
  unfold maxLen at hcm hcm'
  by_cases hn : l.length = m.length
  · have hnb : ((l.length : Int) != (m.length : Int)) = false := by rw [hn]; simp
    have HN := Lib.hid hn
    clear hn
    go_enter Try.func74, Try.ntmps74
    go_wp2
    go_loopw [5] (fun i wr => ∃ k : Nat, k ≤ l.length ∧ i = .int .i64 k ∧ Hid (l.take k = m.take k) ∧ Below w.heap.size w wr) (fun i _ => l.length - (intOf i).toNat)
    case atStart => exact ⟨0, by omega, rfl, Lib.hid (by simp), Below.refl _ _⟩
    case round =>
      obtain ⟨k, hk, rfl, HT, hW⟩ := hrel
      have hz := hW.size
      by_cases hlt : k < l.length
      · have hlt' : k < m.length := by have := HN.out; omega
        obtain ⟨b, off, rfl, hb, c0, c1, c2⟩ := RelsAt.elem HL.out k hlt
        obtain ⟨b', off', rfl, hb', d0, d1, d2⟩ := RelsAt.elem HM.out k hlt'
        have HE := Lib.hid (take_eq_next l m k hlt hlt')
        have HF := Lib.hid (fun h => take_eq_not l m k hlt hlt' h)
        generalize l[k] = r at *
        generalize m[k] = r' at *
        have MK := Lib.hid (fun w' (hb1 : Below w.heap.size w w') => (⟨⟨(hb1.cell (p := ⟨b, off + k * 3, none⟩) hb).trans c0, (hb1.cell (p := ⟨b, off + k * 3 + 1, none⟩) hb).trans c1, (hb1.cell (p := ⟨b, off + k * 3 + 2, none⟩) hb).trans c2⟩,
          ⟨(hb1.cell (p := ⟨b', off' + k * 3, none⟩) hb').trans d0, (hb1.cell (p := ⟨b', off' + k * 3 + 1, none⟩) hb').trans d1, (hb1.cell (p := ⟨b', off' + k * 3 + 2, none⟩) hb').trans d2⟩, hb1⟩ : (w'.cell? ⟨b, off + k * 3, none⟩ = some (.string r.name) ∧ w'.cell? ⟨b, off + k * 3 + 1, none⟩ = some (.int .i64 r.arity) ∧ w'.cell? ⟨b, off + k * 3 + 2, none⟩ = some (.bool r.source)) ∧
          (w'.cell? ⟨b', off' + k * 3, none⟩ = some (.string r'.name) ∧ w'.cell? ⟨b', off' + k * 3 + 1, none⟩ = some (.int .i64 r'.arity) ∧ w'.cell? ⟨b', off' + k * 3 + 2, none⟩ = some (.bool r'.source)) ∧ Below w.heap.size w w'))
        clear c0 c1 c2 d0 d1 d2
        cases hd : decide (r = r') with
        | true =>
          have hcon := eqRelation_at r r' true hd
          have HE' := Lib.hid (HE.out (of_decide_eq_true hd) HT.out)
          clear hd
          go_wp2
          go_region_held3 (fun w' => (w'.cell? ⟨b, off + k * 3, none⟩ = some (.string r.name) ∧ w'.cell? ⟨b, off + k * 3 + 1, none⟩ = some (.int .i64 r.arity) ∧ w'.cell? ⟨b, off + k * 3 + 2, none⟩ = some (.bool r.source)) ∧
            (w'.cell? ⟨b', off' + k * 3, none⟩ = some (.string r'.name) ∧ w'.cell? ⟨b', off' + k * 3 + 1, none⟩ = some (.int .i64 r'.arity) ∧ w'.cell? ⟨b', off' + k * 3 + 2, none⟩ = some (.bool r'.source)) ∧ Below w.heap.size w w')
            (first | exact MK.out _ hh | exact MK.out _ hW.drew)
            (first | (go_at_call 114; refine (hcon _).mono ?_; rintro e w1 ⟨rfl, hb1⟩; have hh := (‹(_ ∧ _ ∧ _) ∧ (_ ∧ _ ∧ _) ∧ Below w.heap.size w _›).2.2; replace hh := hh.trans (hb1.mono hh.size)))
          go_wp2
          go_roundw
          case rel => exact ⟨k + 1, by omega, by go_num, HE', hh⟩
          case measure => simp [intOf]; omega
        | false =>
          have hcon := eqRelation_at r r' false hd
          have HE' := Lib.hid (decide_eq_false (HF.out (of_decide_eq_false hd)))
          clear hd
          go_wp2
          go_region_held3 (fun w' => (w'.cell? ⟨b, off + k * 3, none⟩ = some (.string r.name) ∧ w'.cell? ⟨b, off + k * 3 + 1, none⟩ = some (.int .i64 r.arity) ∧ w'.cell? ⟨b, off + k * 3 + 2, none⟩ = some (.bool r.source)) ∧
            (w'.cell? ⟨b', off' + k * 3, none⟩ = some (.string r'.name) ∧ w'.cell? ⟨b', off' + k * 3 + 1, none⟩ = some (.int .i64 r'.arity) ∧ w'.cell? ⟨b', off' + k * 3 + 2, none⟩ = some (.bool r'.source)) ∧ Below w.heap.size w w')
            (first | exact MK.out _ hh | exact MK.out _ hW.drew)
            (first | (go_at_call 114; refine (hcon _).mono ?_; rintro e w1 ⟨rfl, hb1⟩; have hh := (‹(_ ∧ _ ∧ _) ∧ (_ ∧ _ ∧ _) ∧ Below w.heap.size w _›).2.2; replace hh := hh.trans (hb1.mono hh.size)))
          go_wp2
          go_ret
          exact ⟨by rw [HE'.out]; rfl, hh⟩
      · obtain rfl : k = l.length := by omega
        have HE' := Lib.hid (decide_eq_true (show l = m by have := HT.out; rwa [List.take_of_length_le (Nat.le_refl _), List.take_of_length_le (by rw [HN.out]; exact Nat.le_refl _)] at this))
        go_wp2
        go_ret
        exact ⟨by rw [HE'.out]; rfl, hW⟩
  · have hnb : ((l.length : Int) != (m.length : Int)) = true := by rw [bne_iff_ne]; omega
    have HE' := Lib.hid (decide_eq_false (show ¬ l = m by rintro rfl; exact hn rfl))
    clear hn
    go_enter Try.func74, Try.ntmps74
    go_wp2
    go_ret
    exact ⟨by rw [HE'.out]; rfl, Below.refl _ _⟩

end Go.Proofs.Ytbdgdphehbkjgaa
