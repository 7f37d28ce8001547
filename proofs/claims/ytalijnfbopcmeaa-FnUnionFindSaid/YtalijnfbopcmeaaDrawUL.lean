/-
  Walks and plain lemmas for the laws of this seat: what single Go functions return, for every argument.
-/
import Derived.Test.YtalijnfbopcmeaaDraw
import Derived.Test.YtalijnfbopcmeaaDrawU
namespace Go.Proofs.Ytalijnfbopcmeaa
open Go.RowKit

def GivesUfB (w : World) (e : Ending) (w' : World) : Prop := ∃ V x, e = .returned V ∧ UnionFind_at w' w'.heap.size V x ∧ UfSmall x ∧ Below w.heap.size w w'
set_option maxHeartbeats 1600000 in
set_option maxRecDepth 100000 in
theorem drawClasses_c (cv : Value) (code : List UInt8) (w : World) (hc : CodeAt w w.heap.size cv code) (hlen : code.length ≤ 1048576) :
    Calls Try.prog 26 #[cv] w (GivesUfB w) := by
  obtain ⟨E, hEq⟩ : ∃ E, E = w.alloc (.cells #[.slice none 0 0] 26) := ⟨_, rfl⟩
  have hE : Below w.heap.size w E := by rw [hEq]; exact below_more (Below.refl _ _) _
  have hEz : w.heap.size + 1 = E.heap.size := by rw [hEq]; simp
  have HEz := Lib.hid hEz
  have Q0 := Lib.hid (show E.cell? ⟨w.heap.size, 0, none⟩ = some (.slice none 0 0) by rw [hEq]; simp [go_sem])
  have QZ := Lib.hid (show ∀ o, E.frozen? ⟨w.heap.size, o, none⟩ = false from fun o => by rw [hEq]; simp [go_sem])
  clear hEz
  have hcon := l1New_c cv code E (hc.later hE) hlen
  rw [hEq] at hcon
  go_enter Try.func26, Try.ntmps26
  go_wp2_with fail
  refine hcon.mono ?_; rintro e w3 ⟨rfl, hb3, hC3⟩
  rw [← hEq] at hb3 hC3
  rw [← hEq]
  clear hEq hcon
  have hp3 := Cur.lt hC3
  have hz3 := hb3.size
  obtain ⟨p, hp⟩ : ∃ p, p = E.heap.size := ⟨_, rfl⟩
  rw [← hp] at hC3 hp3 ⊢
  have HP := Lib.hid hp
  have HB3 := Lib.hid hb3
  clear hp hb3
  go_wp2_with fail
  refine (l8Uf_c p cv code _ _ hC3).mono ?_
  rintro e w4 ⟨V, x, rfl, hO4, hs, ⟨st4, hC4⟩, hg4⟩
  obtain ⟨P, c, rfl⟩ := UnionFind_form (hO4.at_ (Nat.le_refl _))
  have hz4 := hg4.size
  have hwp : w.heap.size < p := by have h1 := HEz.out; have h2 := HP.out; omega
  have hB4 : Below p E w4 := (HB3.out.mono (by have := HP.out; omega)).grown hg4 (by have := HP.out; omega) (fun k hk => by injection hk with hk; omega)
  have z0 := (hB4.cell (p := ⟨w.heap.size, 0, none⟩) (by show w.heap.size < p; omega)).trans Q0.out
  have zz := fun o => (hB4.frozen (p := ⟨w.heap.size, o, none⟩) (by show w.heap.size < p; omega)).trans (QZ.out o)
  have HO := Lib.hid hO4
  have HS := Lib.hid hs
  have HB := Lib.hid (hE.trans (hB4.mono (by have := HP.out; have := HEz.out; omega)))
  clear hO4 hs hB4 hg4
  have hst : ∀ a, Chg (Mid w.heap.size (w.heap.size + 1)) w4 (w4.setCell ⟨w.heap.size, 0, none⟩ a) := fun a => (Chg.refl _ _).setCell (p := ⟨w.heap.size, 0, none⟩) ⟨Nat.le_refl _, Nat.lt_succ_self _⟩ _
  have HST := Lib.hid hst
  clear hst
  go_wp2
  refine bodyPost_ret (v := .agg #[.slice P x.length c]) (by simp [results, Try.results26, go_sem, z0]) rfl ⟨_, x, rfl, ?_, HS.out, ?_⟩
  · have h1 := HO.out.chg (HST.out (.slice P x.length c)) (.inr (by have := HB.out.size; omega))
    exact h1.at_ (HST.out _).size
  · exact HB.out.setCell (p := ⟨w.heap.size, 0, none⟩) (Nat.le_refl _) _

end Go.Proofs.Ytalijnfbopcmeaa
