/-
  Walks and plain lemmas for the laws of this seat: what single Go functions return, for every argument.
-/
import Derived.Test.YtmaoojdoiccgdaaDoorDraw
import Derived.Test.YtmaoojdoiccgdaaDoorFmtV
namespace Go.Proofs.YtmaoojdoiccgdaaDoor
open Go.RowKit

def drawValR (code : List UInt8) : Int := (l2R code (st0 code)).1
def drawNullR (code : List UInt8) : Int := (belowR code (st0 code) 45).1 - 2
def txtList (x : List UInt8) : List (List UInt8) := [[48], [57], [49, 48], [110, 48], [110, 51, 57], [110, 52, 48], [110], [], [110, 48, 49], [45, 49], [78, 49], x]
def drawPVR (code : List UInt8) : List UInt8 := (pickR code (l2R code (st0 code)).2 (txtList (fmtV (l2R code (st0 code)).1))).1
theorem drawPVR_len (code : List UInt8) : (drawPVR code).length ≤ 3 := by
  have hl := fmtV_len (l2R code (st0 code)).1
  have hm : ∀ j, ((txtList (fmtV (l2R code (st0 code)).1)).getD j []).length ≤ 3 := by
    intro j
    generalize fmtV (l2R code (st0 code)).1 = x at *
    rcases j with _|_|_|_|_|_|_|_|_|_|_|_|j <;> simp [txtList]
    omega
  unfold drawPVR pickR; dsimp only; generalize (belowR code (l2R code (st0 code)).2 _).1.toNat = j; exact hm j
theorem drawNullR_bd (code : List UInt8) : -2 ≤ drawNullR code ∧ drawNullR code ≤ 42 := by
  have hb := belowR_bd code (st0 code) 45
  have h1 := hb.2 (by omega)
  have h0 := hb.1
  unfold drawNullR; omega
set_option maxHeartbeats 400000 in
theorem drawFormatValue (cv : Value) (code : List UInt8) (w : World) (hc : CodeAt w w.heap.size cv code) (hlen : code.length ≤ 1048576) :
    Calls Tryd.prog 5 #[cv] w fun e w' => e = .returned (.int .i64 (drawValR code)) ∧ Below w.heap.size w w' := by
  go_enter Tryd.func5, Tryd.ntmps5
  go_wp2_with fail
  refine (l1New_c cv code _ hc hlen).mono ?_; rintro e w1 ⟨rfl, hb1, hC1⟩
  go_wp2_with fail
  refine (l2Val_r _ cv code _ _ hC1).mono ?_; rintro e w2 ⟨rfl, hC2, hg2⟩
  go_wp2_with fail
  go_ret
  exact ⟨rfl, below_of_draw hb1 hg2⟩
set_option maxHeartbeats 400000 in
theorem drawNullValue (cv : Value) (code : List UInt8) (w : World) (hc : CodeAt w w.heap.size cv code) (hlen : code.length ≤ 1048576) :
    Calls Tryd.prog 10 #[cv] w fun e w' => e = .returned (.int .i64 (drawNullR code)) ∧ Below w.heap.size w w' := by
  have hb := belowR_bd code (st0 code) 45
  have h1 := hb.2 (by omega)
  have h0 := hb.1
  clear hb
  go_enter Tryd.func10, Tryd.ntmps10
  go_wp2_with fail
  refine (l1New_c cv code _ hc hlen).mono ?_; rintro e w1 ⟨rfl, hb1, hC1⟩
  go_wp2_with fail
  refine (l1Below_r _ cv code _ _ _ hC1).mono ?_; rintro e w2 ⟨rfl, hC2, hg2⟩
  go_wp2_with fail
  go_ret
  exact ⟨rfl, below_of_draw hb1 hg2⟩
set_option maxHeartbeats 400000 in
set_option maxRecDepth 100000 in
theorem drawParseValue (cv : Value) (code : List UInt8) (w : World) (hc : CodeAt w w.heap.size cv code) (hlen : code.length ≤ 1048576) :
    Calls Tryd.prog 8 #[cv] w fun e w' => e = .returned (.string ⟨(drawPVR code).toArray⟩) ∧ Below w.heap.size w w' := by
  have hbd := l2R_bd code (st0 code)
  have hD : Hid (drawPVR code = (pickR code (l2R code (st0 code)).2 (txtList (fmtV (l2R code (st0 code)).1))).1) := by rw [drawPVR]; exact Lib.hid rfl
  generalize drawPVR code = D at *
  go_enter Tryd.func8, Tryd.ntmps8
  go_wp2_with fail
  refine (l1New_c cv code _ hc hlen).mono ?_; rintro e w1 ⟨rfl, hb1, hC1⟩
  go_wp2_with fail
  refine (l2Val_r _ cv code _ _ hC1).mono ?_; rintro e w2 ⟨rfl, hC2, hg2⟩
  dsimp only at *
  generalize l2R code (st0 code) = a at *
  go_wp2_with fail
  refine (specFormatValue_any _ _ (by omega) (by omega)).mono ?_; rintro e w3 ⟨rfl, hb3⟩
  have hC3 := Cur.below hC2 hC2 hb3
  have hB2 := below_of_draw hb1 hg2
  have hB3 := hB2.trans (hb3.mono hB2.size)
  go_wp2_with fail
  refine (l1Pick_r _ cv code _ (txtList (fmtV a.1)) w3 _ (by simp [txtList]) (by simp [txtList]) (Cur.lt hC3) _ rfl _ _ rfl (Cur.alloc hC3 _)).mono ?_; rintro e w4 ⟨rfl, hC4, hg4⟩
  go_wp2_with fail
  go_ret
  exact ⟨ret_str (by rw [hD.out]), below_of_draw (hB3.alloc hB3.size _) hg4⟩

end Go.Proofs.YtmaoojdoiccgdaaDoor
