/-
  Walks and plain lemmas for the laws of this seat: what single Go functions return, for every argument.
-/
import Derived.Test.YtilfddbdoopfiaaDoorDraw
import Derived.Test.YtilfddbdoopfiaaDoorDraw3
import Derived.Test.YtilfddbdoopfiaaDoorNum
namespace Go.Proofs.YtilfddbdoopfiaaDoor
open Go.RowKit

def st0 (code : List UInt8) : DrawSt := (0, ((newH code 4000 : Nat) : Int))
theorem l1New_c (cv : Value) (code : List UInt8) (w : World) (hc : CodeAt w w.heap.size cv code) (hlen : code.length ≤ 1048576) :
    Calls Tryd.prog 20 #[cv] w fun e w' => e = .returned (.pointer (some ⟨w.heap.size, 0, none⟩)) ∧ Below w.heap.size w w' ∧ CurS w' w.heap.size cv code (st0 code) :=
  (l1New_any cv code w hc hlen).mono fun e w' ⟨h1, ⟨o, h2⟩, h3⟩ => ⟨h1, by rw [h2]; exact (Below.refl _ _).alloc (Nat.le_refl _) o, h3⟩
theorem below_of_draw {w w1 w2 : World} (h1 : Below w.heap.size w w1) (h2 : w1.grownBy w2 (some w.heap.size)) : Below w.heap.size w w2 :=
  h1.grown h2 h1.size (fun k hk => by injection hk with hk; omega)
/-- the code is read anywhere later as it was -/
theorem CodeAt.later {w w' : World} {cv : Value} {code : List UInt8} (h : CodeAt w w.heap.size cv code) (hb : Below w.heap.size w w') : CodeAt w' w'.heap.size cv code := by
  rcases h with h | ⟨b, off, cap, h1, h2, h3⟩
  · exact Or.inl h
  · have hlt : 0 < code.length → b < w.heap.size := fun hn => World.block_lt_of_cell? w _ (h3 0 hn)
    have := hb.size
    exact Or.inr ⟨b, off, cap, h1, fun hn => by have := hlt hn; omega, fun j hj => by rw [hb.cell (p := ⟨b, off + j, none⟩) (hlt (by omega))]; exact h3 j hj⟩
def drawNumR (code : List UInt8) : Int := (numR code (st0 code)).1
def drawTextR (code : List UInt8) : List UInt8 := (textR code (st0 code) 40).1
set_option maxHeartbeats 400000 in
theorem drawEncodeVarint (cv : Value) (code : List UInt8) (w : World) (hc : CodeAt w w.heap.size cv code) (hlen : code.length ≤ 1048576) :
    Calls Tryd.prog 7 #[cv] w fun e w' => e = .returned (.int .i64 (drawNumR code)) ∧ Below w.heap.size w w' := by
  go_enter Tryd.func7, Tryd.ntmps7
  go_wp2_with fail
  refine (l1New_c cv code _ hc hlen).mono ?_; rintro e w1 ⟨rfl, hb1, hC1⟩
  go_wp2_with fail
  refine (l1Num_r _ cv code _ _ hC1).mono ?_; rintro e w2 ⟨rfl, hC2, hg2⟩
  go_wp2_with fail
  go_ret
  exact ⟨rfl, below_of_draw hb1 hg2⟩
set_option maxHeartbeats 400000 in
theorem drawEncodeHex (cv : Value) (code : List UInt8) (w : World) (hc : CodeAt w w.heap.size cv code) (hlen : code.length ≤ 1048576) :
    Calls Tryd.prog 8 #[cv] w fun e w' => e = .returned (.string ⟨(drawTextR code).toArray⟩) ∧ Below w.heap.size w w' := by
  go_enter Tryd.func8, Tryd.ntmps8
  go_wp2_with fail
  refine (l1New_c cv code _ hc hlen).mono ?_; rintro e w1 ⟨rfl, hb1, hC1⟩
  go_wp2_with fail
  refine (l1Text_r _ cv code _ 40 (by decide) (by decide) _ hC1).mono ?_; rintro e w2 ⟨rfl, hC2, hg2⟩
  go_wp2_with fail
  go_ret
  exact ⟨rfl, below_of_draw hb1 hg2⟩
def drawVarintTextR (code : List UInt8) : List UInt8 :=
  let a := numR code (st0 code)
  let t := textR code a.2 4
  let s := encodeVarint a.1 ++ t.1
  let o := onceR code t.2 4
  if o.1 then (spoilR code o.2 s).1 else s
theorem encodeVarint_len (n : Int) : (encodeVarint n).length ≤ 7 := by
  unfold encodeVarint; split
  · exact leb_len7 _ (by omega)
  · simp
set_option maxHeartbeats 800000 in
set_option maxRecDepth 100000 in
theorem drawDecodeVarint (cv : Value) (code : List UInt8) (w : World) (hc : CodeAt w w.heap.size cv code) (hlen : code.length ≤ 1048576) :
    Calls Tryd.prog 17 #[cv] w fun e w' => e = .returned (.string ⟨(drawVarintTextR code).toArray⟩) ∧ Below w.heap.size w w' := by
  have l1 := encodeVarint_len (numR code (st0 code)).1
  have l2 := textR_len code (numR code (st0 code)).2 4 (by decide)
  have hD : Hid (drawVarintTextR code = if (onceR code (textR code (numR code (st0 code)).2 4).2 4).1 then (spoilR code (onceR code (textR code (numR code (st0 code)).2 4).2 4).2 (encodeVarint (numR code (st0 code)).1 ++ (textR code (numR code (st0 code)).2 4).1)).1 else encodeVarint (numR code (st0 code)).1 ++ (textR code (numR code (st0 code)).2 4).1) := rfl
  go_enter Tryd.func17, Tryd.ntmps17
  go_wp2_with fail
  refine (l1New_c cv code _ hc hlen).mono ?_; rintro e w1 ⟨rfl, hb1, hC1⟩
  go_wp2_with fail
  refine (l1Num_r _ cv code _ _ hC1).mono ?_; rintro e w2 ⟨rfl, hC2, hg2⟩
  dsimp only at *
  generalize numR code (st0 code) = a at *
  go_wp2_with fail
  refine (specEncodeVarint_any _ _).mono ?_; rintro e w3 ⟨rfl, hb3⟩
  have hC3 := Cur.below hC2 hC2 hb3
  go_wp2_with fail
  refine (l1Text_r _ cv code _ 4 (by decide) (by decide) _ hC3).mono ?_; rintro e w4 ⟨rfl, hC4, hg4⟩
  dsimp only at *
  generalize textR code a.2 4 = t at *
  have z1 : ByteArray.size ⟨(encodeVarint a.1).toArray⟩ ≤ 7 := by rw [ByteArray.size, List.size_toArray]; exact l1
  have z2 : ByteArray.size ⟨t.1.toArray⟩ ≤ 4 := by rw [ByteArray.size, List.size_toArray]; exact l2
  have hj : (⟨(encodeVarint a.1).toArray⟩ : ByteArray) ++ ⟨t.1.toArray⟩ = ⟨(encodeVarint a.1 ++ t.1).toArray⟩ := ByteArray.mk_append_mk _ _
  have hB4 := below_of_draw ((below_of_draw hb1 hg2).trans (hb3.mono (by have := (below_of_draw hb1 hg2).size; omega))) hg4
  have z3 : ByteArray.size ⟨(encodeVarint a.1 ++ t.1).toArray⟩ ≤ 1000000 := by rw [ByteArray.size, List.size_toArray, List.length_append]; omega
  go_wp2_with fail
  refine (l1Once_r _ cv code _ 4 _ hC4).mono ?_; rintro e w5 ⟨rfl, hC5, hg5⟩
  dsimp only at *
  go_wp2_with fail
  · have ho : (onceR code t.2 4).1 = true := by assumption
    refine (l1Spoil_r _ cv code _ _ z3 _ hC5).mono ?_; rintro e w6 ⟨rfl, hC6, hg6⟩
    go_wp2_with fail
    go_ret
    exact ⟨ret_str (by rw [hD.out, ho]; rfl), below_of_draw (below_of_draw hB4 hg5) hg6⟩
  · have ho : (onceR code t.2 4).1 = false := by assumption
    go_ret
    exact ⟨ret_str (by rw [hD.out, ho]; rfl), below_of_draw hB4 hg5⟩

end Go.Proofs.YtilfddbdoopfiaaDoor
