/-
  Walks and plain lemmas for the laws of this seat: what single Go functions return, for every argument.
-/
import Derived.Test.YtobdijcnfmgidaaRels
import Derived.Test.YtobdijcnfmgidaaDraw
namespace Go.Proofs.Ytobdijcnfmgidaa
open Go.RowKit

def sigs5 : List Rel := [⟨⟨#[97]⟩, 2, true⟩, ⟨⟨#[98]⟩, 1, true⟩, ⟨⟨#[112]⟩, 2, false⟩, ⟨⟨#[113]⟩, 2, false⟩, ⟨⟨#[114]⟩, 1, false⟩]
theorem l3Sigs_c (w : World) : Calls Try.prog 111 #[] w fun e w' => e = .returned (.slice (some ⟨w.heap.size, 0, none⟩) 5 5) ∧ w' = w.alloc (.cells (sigs5.flatMap relCells).toArray 70) := by
  go_enter Try.func111, Try.ntmps111
  go_wp2
  go_ret
  exact ⟨rfl, rfl⟩

def RelSmall (x : Rel) : Prop := x.name.size ≤ 2 ∧ -1 ≤ x.arity ∧ x.arity ≤ 4
/-- .. from a list of texts -/
theorem l1Pick_d (p : Nat) (cv : Value) (code : List UInt8) (st : DrawSt) (ls : List (List UInt8)) (m : Nat) (hm : ∀ x ∈ ls, x.length ≤ m) (w0 : World) (T : TypeId) (hz : 1 ≤ ls.length) (hz2 : ls.length ≤ 1000) (hp : p < w0.heap.size) (g : Nat) (hg : g = w0.heap.size) (n c : Nat) (hn : n = ls.length) (w : World) (hw : w = w0.alloc (.cells (ls.map strV).toArray T)) (hC : CurS w p cv code st) :
    Calls Try.prog 114 #[.pointer (some ⟨p, 0, none⟩), .slice (some ⟨g, 0, none⟩) n c] w fun e w' => ∃ s : ByteArray, s.size ≤ m ∧ Drawn w p cv code (.string s) e w' := by
  subst hg
  refine (l1Pick_r p cv code st ls w0 T hz hz2 hp w hw n c hn hC).mono ?_
  rintro e w' ⟨rfl, h1, h2⟩
  refine ⟨_, ?_, rfl, ⟨_, h1⟩, h2⟩
  show (pickR code st ls).1.toArray.size ≤ m
  unfold pickR
  dsimp only
  rw [List.size_toArray, List.getD]
  cases h : ls[(belowR code st ls.length).1.toNat]? with
  | none => simp
  | some x => exact hm x (List.mem_of_getElem? h)
set_option maxHeartbeats 800000 in
set_option maxRecDepth 100000 in
theorem l3One_c (p : Nat) (cv : Value) (code : List UInt8) (st : DrawSt) (w : World) (hC : CurS w p cv code st) :
    Calls Try.prog 76 #[.pointer (some ⟨p, 0, none⟩)] w fun e w' => ∃ x, RelSmall x ∧ Drawn w p cv code (relV x) e w' := by
  have hp := Cur.lt hC
  have hb := belowR_bd code
  have b0 := fun i => box_cell w #[.string ⟨#[]⟩, .int .i64 0, .bool false] 70 i
  go_enter Try.func76, Try.ntmps76
  go_wp2_with fail
  refine (l1Pick_d p cv code _ [[97], [122], [], [65], [97, 98], [112]] 2 (by simp) (w.alloc (.cells #[.string ⟨#[]⟩, .int .i64 0, .bool false] 70)) _ (by simp) (by simp) (by simp; omega) _ (by simp) _ _ rfl _ rfl (Cur.alloc (Cur.alloc hC _) _)).mono ?_
  rintro _ w1 ⟨s, hs, rfl, ⟨st1, hC1⟩, hg1⟩
  have hg1 := (World.grownBy_alloc _ _ _).trans hg1
  go_wp2_with fail
  have b1 := hb st1 6
  have b1' := b1.2 (by omega)
  refine (l1Below_r p cv code _ _ _ hC1).mono ?_; rintro e w2 ⟨rfl, hC2, hg2⟩
  have b1 := b1.1
  generalize belowR code st1 6 = a at *
  go_wp2_with fail
  refine (l1Once_r p cv code _ _ _ hC2).mono ?_; rintro e w3 ⟨rfl, hC3, hg3⟩
  generalize onceR code a.2 2 = c at *
  have HG := Lib.hid ((hg1.trans hg2).trans hg3)
  have hz := HG.out.size
  have hne : w.heap.size ≠ p := by omega
  have f0 := grown_cell HG.out ((b0 0).trans rfl) hne
  have f1 := grown_cell HG.out ((b0 1).trans rfl) hne
  have f2 := grown_cell HG.out ((b0 2).trans rfl) hne
  have fz := fun o => grown_frozen HG.out (o := o) (by simp) hne (World.frozen?_alloc_at _ _ _ _ rfl)
  have HB := Lib.hid b0
  clear b0 hb hC1 hg1 hC2 hg2 hg3
  go_wp2_with fail
  have hbw : Below w.heap.size w3 (((w3.setCell ⟨w.heap.size, 0, none⟩ (.string s)).setCell ⟨w.heap.size, 1, none⟩ (.int .i64 (a.1 - 1))).setCell ⟨w.heap.size, 2, none⟩ (.bool c.1)) := (((Below.refl _ _).setCell (p := ⟨w.heap.size, 0, none⟩) (Nat.le_refl _) _).setCell (p := ⟨w.heap.size, 1, none⟩) (Nat.le_refl _) _).setCell (p := ⟨w.heap.size, 2, none⟩) (Nat.le_refl _) _
  refine bodyPost_ret (v := relV ⟨s, a.1 - 1, c.1⟩) (by simp [results, Try.results76, go_sem, f0, f1, f2, relV]) rfl ⟨_, ⟨hs, ?_, ?_⟩, rfl, ⟨_, Cur.below hC hC3 hbw⟩, grown_of_below ((World.grownBy_alloc _ _ _).trans HG.out) hbw⟩
  · show -1 ≤ a.1 - 1; omega
  · show a.1 - 1 ≤ 4; omega

def RelsSmall (l : List Rel) : Prop := l.length ≤ 7 ∧ ∀ x ∈ l, RelSmall x
theorem sigs5_small : RelsSmall sigs5 := by
  refine ⟨by decide, fun x hx => ?_⟩
  simp only [sigs5, List.mem_cons, List.not_mem_nil, or_false] at hx
  rcases hx with rfl | rfl | rfl | rfl | rfl <;> exact ⟨by decide, by decide, by decide⟩
theorem sigs5_own (w : World) : OwnRels w.heap.size (.slice (some ⟨w.heap.size, 0, none⟩) 5 5) sigs5 (w.alloc (.cells (sigs5.flatMap relCells).toArray 70)) := by
  have := World.ownsRow_lit w (sigs5.flatMap relCells).toArray (base := w.heap.size) (e := 70) (size := 3) 5 (Nat.le_refl _) (by decide) rfl
  exact this
theorem OwnRels.grown {B : Nat} {v : Value} {l : List Rel} {w w' : World} {p : Nat} (h : OwnRels B v l w) (hg : w.grownBy w' (some p)) (hp : p < B) : OwnRels B v l w' :=
  World.ownsRow.kept h hg (by
    cases hv : v.ownBlock with
    | none => exact Or.inl rfl
    | some k => right; intro he; injection he with he; have := (World.ownsRow.lt h k hv).1; omega)

end Go.Proofs.Ytobdijcnfmgidaa
