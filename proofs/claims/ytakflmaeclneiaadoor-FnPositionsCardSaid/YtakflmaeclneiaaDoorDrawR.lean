/-
  Walks and plain lemmas for the laws of this seat: what single Go functions return, for every argument.
-/
import Derived.Test.YtakflmaeclneiaaDoorRels
import Derived.Test.YtakflmaeclneiaaDoorDraw
namespace Go.Proofs.YtakflmaeclneiaaDoor
open Go.RowKit

def sigs5 : List Rel := [⟨⟨#[97]⟩, 2, true⟩, ⟨⟨#[98]⟩, 1, true⟩, ⟨⟨#[112]⟩, 2, false⟩, ⟨⟨#[113]⟩, 2, false⟩, ⟨⟨#[114]⟩, 1, false⟩]
theorem l3Sigs_c (w : World) : Calls Tryd.prog 36 #[] w fun e w' => e = .returned (.slice (some ⟨w.heap.size, 0, none⟩) 5 5) ∧ w' = w.alloc (.cells (sigs5.flatMap relCells).toArray 35) := by
  go_enter Tryd.func36, Tryd.ntmps36
  go_wp2
  go_ret
  exact ⟨rfl, rfl⟩

def RelSmall (x : Rel) : Prop := x.name.size ≤ 2 ∧ -1 ≤ x.arity ∧ x.arity ≤ 4
/-- .. from a list of texts -/
theorem l1Pick_d (p : Nat) (cv : Value) (code : List UInt8) (st : DrawSt) (ls : List (List UInt8)) (m : Nat) (hm : ∀ x ∈ ls, x.length ≤ m) (w0 : World) (T : TypeId) (hz : 1 ≤ ls.length) (hz2 : ls.length ≤ 1000) (hp : p < w0.heap.size) (g : Nat) (hg : g = w0.heap.size) (n c : Nat) (hn : n = ls.length) (w : World) (hw : w = w0.alloc (.cells (ls.map strV).toArray T)) (hC : CurS w p cv code st) :
    Calls Tryd.prog 49 #[.pointer (some ⟨p, 0, none⟩), .slice (some ⟨g, 0, none⟩) n c] w fun e w' => ∃ s : ByteArray, s.size ≤ m ∧ Drawn w p cv code (.string s) e w' := by
  subst hg
  refine (l1Pick_r p cv code st ls w0 T hz hz2 hp w hw n c hn hC).mono ?_
  rintro e w' ⟨rfl, h1, h2⟩
  refine ⟨_, ?_, rfl, ⟨_, h1⟩, h2⟩
  show (pickR code st ls).1.toArray.size ≤ m
  unfold pickR
  dsimp only
  rw [List.size_toArray, List.getD]
  cases h : ls[(belowR code st ls.length).1.toNat]? with
  | none => simp
  | some x => exact hm x (List.mem_of_getElem? h)
set_option maxHeartbeats 800000 in
set_option maxRecDepth 100000 in
theorem l3One_c (p : Nat) (cv : Value) (code : List UInt8) (st : DrawSt) (w : World) (hC : CurS w p cv code st) :
    Calls Tryd.prog 37 #[.pointer (some ⟨p, 0, none⟩)] w fun e w' => ∃ x, RelSmall x ∧ Drawn w p cv code (relV x) e w' := by
  have hp := Cur.lt hC
  have hb := belowR_bd code
  have b0 := fun i => box_cell w #[.string ⟨#[]⟩, .int .i64 0, .bool false] 35 i
  go_enter Tryd.func37, Tryd.ntmps37
  go_wp2_with fail
  refine (l1Pick_d p cv code _ [[97], [122], [], [65], [97, 98], [112]] 2 (by simp) (w.alloc (.cells #[.string ⟨#[]⟩, .int .i64 0, .bool false] 35)) _ (by simp) (by simp) (by simp; omega) _ (by simp) _ _ rfl _ rfl (Cur.alloc (Cur.alloc hC _) _)).mono ?_
  rintro _ w1 ⟨s, hs, rfl, ⟨st1, hC1⟩, hg1⟩
  have hg1 := (World.grownBy_alloc _ _ _).trans hg1
  go_wp2_with fail
  have b1 := hb st1 6
  have b1' := b1.2 (by omega)
  refine (l1Below_r p cv code _ _ _ hC1).mono ?_; rintro e w2 ⟨rfl, hC2, hg2⟩
  have b1 := b1.1
  generalize belowR code st1 6 = a at *
  go_wp2_with fail
  refine (l1Once_r p cv code _ _ _ hC2).mono ?_; rintro e w3 ⟨rfl, hC3, hg3⟩
  generalize onceR code a.2 2 = c at *
  have HG := Lib.hid ((hg1.trans hg2).trans hg3)
  have hz := HG.out.size
  have hne : w.heap.size ≠ p := by omega
  have f0 := grown_cell HG.out ((b0 0).trans rfl) hne
  have f1 := grown_cell HG.out ((b0 1).trans rfl) hne
  have f2 := grown_cell HG.out ((b0 2).trans rfl) hne
  have fz := fun o => grown_frozen HG.out (o := o) (by simp) hne (World.frozen?_alloc_at _ _ _ _ rfl)
  have HB := Lib.hid b0
  clear b0 hb hC1 hg1 hC2 hg2 hg3
  go_wp2_with fail
  have hbw : Below w.heap.size w3 (((w3.setCell ⟨w.heap.size, 0, none⟩ (.string s)).setCell ⟨w.heap.size, 1, none⟩ (.int .i64 (a.1 - 1))).setCell ⟨w.heap.size, 2, none⟩ (.bool c.1)) := (((Below.refl _ _).setCell (p := ⟨w.heap.size, 0, none⟩) (Nat.le_refl _) _).setCell (p := ⟨w.heap.size, 1, none⟩) (Nat.le_refl _) _).setCell (p := ⟨w.heap.size, 2, none⟩) (Nat.le_refl _) _
  refine bodyPost_ret (v := relV ⟨s, a.1 - 1, c.1⟩) (by simp [results, Tryd.results37, go_sem, f0, f1, f2, relV]) rfl ⟨_, ⟨hs, ?_, ?_⟩, rfl, ⟨_, Cur.below hC hC3 hbw⟩, grown_of_below ((World.grownBy_alloc _ _ _).trans HG.out) hbw⟩
  · show -1 ≤ a.1 - 1; omega
  · show a.1 - 1 ≤ 4; omega

def RelsSmall (l : List Rel) : Prop := l.length ≤ 7 ∧ ∀ x ∈ l, RelSmall x
theorem sigs5_small : RelsSmall sigs5 := by
  refine ⟨by decide, fun x hx => ?_⟩
  simp only [sigs5, List.mem_cons, List.not_mem_nil, or_false] at hx
  rcases hx with rfl | rfl | rfl | rfl | rfl <;> exact ⟨by decide, by decide, by decide⟩
theorem sigs5_own (w : World) : OwnRels w.heap.size (.slice (some ⟨w.heap.size, 0, none⟩) 5 5) sigs5 (w.alloc (.cells (sigs5.flatMap relCells).toArray 35)) := by
  have := World.ownsRow_lit w (sigs5.flatMap relCells).toArray (base := w.heap.size) (e := 35) (size := 3) 5 (Nat.le_refl _) (by decide) rfl
  exact this
theorem OwnRels.grown {B : Nat} {v : Value} {l : List Rel} {w w' : World} {p : Nat} (h : OwnRels B v l w) (hg : w.grownBy w' (some p)) (hp : p < B) : OwnRels B v l w' :=
  World.ownsRow.kept h hg (by
    cases hv : v.ownBlock with
    | none => exact Or.inl rfl
    | some k => right; intro he; injection he with he; have := (World.ownsRow.lt h k hv).1; omega)

/-- a slice's block lies at A or behind it -/
def LoV (A : Nat) (v : Value) : Prop := ∀ b off s n c, v = .slice (some ⟨b, off, s⟩) n c → A ≤ b
theorem LoV.row {w : World} {A B k n : Nat} {e : TypeId} {v : Value} {xs : List Value} (h : w.ownsRow B e k v n xs) (hA : A ≤ B) : LoV A v := by
  rcases h.2 with ⟨rfl, _⟩ | ⟨g, cap, cur, rfl, hb, _⟩
  · intro b off s n c e; cases e
  · intro b off s n c e
    injection e with e _ _
    injection e with e
    injection e with e _ _
    omega
theorem SliceAt.loKeep {α : Type} {f : α → List Value} {w w' : World} {A B : Nat} {v : Value} {l : List α} (h : SliceAt f w B v l) (hl : LoV A v) (hk : ∀ b o, A ≤ b → b < B → w'.cell? ⟨b, o, none⟩ = w.cell? ⟨b, o, none⟩) : SliceAt f w' B v l := by
  obtain ⟨P, c, hv, h1, h2, h3, h4⟩ := h
  refine ⟨P, c, hv, h1, h2, fun h0 => ?_, h4⟩
  obtain ⟨b, off, hA, hb, hc⟩ := h3 h0
  exact ⟨b, off, hA, hb, fun j u hu => (hk b _ (hl b off none _ _ (by rw [hv, hA])) hb).trans (hc j u hu)⟩
set_option maxHeartbeats 1600000 in
set_option maxRecDepth 100000 in
theorem drawRelsLo_c (cv : Value) (code : List UInt8) (w : World) (hc : CodeAt w w.heap.size cv code) (hlen : code.length ≤ 1048576) :
    Calls Tryd.prog 21 #[cv] w fun e w' => ∃ v l, e = .returned v ∧ RelsSmall l ∧ RelsAt w' w'.heap.size v l ∧ LoV w.heap.size v ∧ Below w.heap.size w w' := by
  have hb := belowR_bd code
  go_enter Tryd.func21, Tryd.ntmps21
  go_wp2_with fail
  refine (l1New_c cv code _ hc hlen).mono ?_; rintro e w1 ⟨rfl, hb1, hC1⟩
  go_wp2_with fail
  refine (l3Sigs_c _).mono ?_; rintro e w2 ⟨rfl, hw2⟩
  have hO := sigs5_own w1
  rw [← hw2] at hO
  have hC2 : CurS w2 w.heap.size cv code (st0 code) := by rw [hw2]; exact Cur.alloc hC1 _
  have hB2 : Below w.heap.size w w2 := by rw [hw2]; exact hb1.alloc hb1.size _
  have hz2 : w1.heap.size < w2.heap.size := by rw [hw2]; simp
  have hz1 := hb1.size
  clear hw2
  go_wp2_with fail
  have a1 := (hb (st0 code) 5)
  have a2 := a1.2 (by omega)
  have a1 := a1.1
  refine (l1Below_r _ cv code _ _ _ hC2).mono ?_; rintro e w3 ⟨rfl, hC3, hg3⟩
  generalize belowR code (st0 code) 5 = a at *
  have hO3 := hO.grown hg3 (show w.heap.size < w1.heap.size from Cur.lt hC1)
  have hB3 : Below w.heap.size w w3 := below_of_draw hB2 hg3
  have hz3 := hg3.size
  have hp1 := Cur.lt hC1
  generalize a.1 = n at *
  clear hO hC2 hB2 hg3 hC1 hb1
  have hn : n = 0 ∨ n = 1 ∨ n = 2 ∨ 3 ≤ n := by omega
  rcases hn with rfl | rfl | rfl | hn
  · go_wp2_with fail
    have j1 := hb a.2 5
    have j2 := j1.2 (by omega)
    have j1 := j1.1
    refine (l1Below_r _ cv code _ _ _ hC3).mono ?_; rintro e w4 ⟨rfl, hC4, hg4⟩
    generalize belowR code a.2 5 = b at *
    obtain ⟨j, hj⟩ := Int.eq_ofNat_of_zero_le j1
    rw [hj]
    have hj5 : j < 5 := by omega
    have HJ := Lib.hid hj
    clear hj j1 j2
    go_wp2_with fail
    refine (l3One_c _ cv code _ _ hC4).mono ?_; rintro e w5 ⟨x, hx, rfl, -, hg5⟩
    have hO5 := (hO3.grown hg4 hp1).grown hg5 hp1
    have hB5 := below_of_draw (below_of_draw hB3 hg4) hg5
    obtain ⟨c0, c1, c2⟩ := hO5.cells rfl j hj5
    have cz := hO5.frozen rfl
    have HS := Lib.hid (hO5.set rfl j hj5 x)
    have hBf := ((hB5.setCell (p := ⟨w1.heap.size, j * 3, none⟩) hz1 (.string x.name)).setCell (p := ⟨w1.heap.size, j * 3 + 1, none⟩) hz1 (.int .i64 x.arity)).setCell (p := ⟨w1.heap.size, j * 3 + 2, none⟩) hz1 (.bool x.source)
    unfold relV
    clear hO3 hO5 hB3 hB5 hb
    go_wp2_with fail
    go_ret
    refine ⟨_, _, rfl, ⟨by simp [sigs5], fun y hy => ?_⟩, HS.out.at_, LoV.row HS.out (by omega), hBf⟩
    rcases List.mem_or_eq_of_mem_set hy with h | rfl
    · exact sigs5_small.2 y h
    · exact hx
  · have HO := Lib.hid (hO3.grown ((World.grownBy_alloc w3 (.cells #[.string ⟨#[115]⟩, .int .i64 1, .bool false, .string ⟨#[116]⟩, .int .i64 1, .bool false] 35) (some w.heap.size))) hp1)
    have HR : Hid (RelsAt (w3.alloc (.cells #[.string ⟨#[115]⟩, .int .i64 1, .bool false, .string ⟨#[116]⟩, .int .i64 1, .bool false] 35)) (w3.heap.size + 1) (.slice (some ⟨w3.heap.size, 0, none⟩) [(⟨⟨#[115]⟩, 1, false⟩ : Rel), ⟨⟨#[116]⟩, 1, false⟩].length 2) [⟨⟨#[115]⟩, 1, false⟩, ⟨⟨#[116]⟩, 1, false⟩]) := by
      refine ⟨_, _, rfl, Nat.le_refl _, by simp [maxLen], fun _ => ⟨_, _, rfl, by omega, ?_⟩, fun h => by cases h⟩
      intro j u hu
      rw [Nat.zero_add, box_cell]
      simpa [relCells] using hu
    have hz4 : w1.heap.size ≤ (w3.alloc (.cells #[.string ⟨#[115]⟩, .int .i64 1, .bool false, .string ⟨#[116]⟩, .int .i64 1, .bool false] 35)).heap.size := by simp; omega
    have HB := Lib.hid (hB3.alloc hB3.size (.cells #[.string ⟨#[115]⟩, .int .i64 1, .bool false, .string ⟨#[116]⟩, .int .i64 1, .bool false] 35))
    clear hO3 hB3 hb
    go_wp2_with (at_builtin; refine rels_apps (r := [⟨⟨#[115]⟩, 1, false⟩, ⟨⟨#[116]⟩, 1, false⟩]) HO.out rfl _ _ rfl rfl (some ⟨w3.heap.size, 0, none⟩) 2 2 rfl rfl HR.out (fun h => by cases h) (by decide) hz4 ?_; intro v5 w5 hO5 hB5 _ _)
    go_ret
    refine ⟨_, _, rfl, ⟨by decide, fun y hy => ?_⟩, hO5.at_, LoV.row hO5 (by omega), HB.out.trans (hB5.mono hz1)⟩
    rcases List.mem_append.1 hy with h | h
    · exact sigs5_small.2 y h
    · simp only [List.mem_cons, List.not_mem_nil, or_false] at h
      rcases h with rfl | rfl <;> exact ⟨by decide, by decide, by decide⟩
  · go_wp2_with fail
    have j1 := hb a.2 5
    have j2 := j1.2 (by omega)
    have j1 := j1.1
    refine (l1Below_r _ cv code _ _ _ hC3).mono ?_; rintro e w4 ⟨rfl, hC4, hg4⟩
    generalize belowR code a.2 5 = b at *
    obtain ⟨j, hj⟩ := Int.eq_ofNat_of_zero_le j1
    rw [hj]
    have hj5 : j < 5 := by omega
    have HJ := Lib.hid hj
    have HS := Lib.hid (SliceAt.drop (l := sigs5) (off := 0) (c := 5) relCells_len (hO3.grown hg4 hp1).at_ j (by show j ≤ 5; omega))
    have HB := Lib.hid (below_of_draw hB3 hg4)
    clear hj j1 j2 hO3 hB3 hb
    go_wp2_with fail
    go_ret
    refine ⟨_, sigs5.drop j, rfl, ⟨?_, fun y hy => sigs5_small.2 y (List.mem_of_mem_drop hy)⟩, ?_, fun b9 o9 s9 n9 c9 e9 => (by injection e9 with e9; injection e9 with e9; injection e9 with e9; omega), HB.out⟩
    · rw [List.length_drop]; show 5 - j ≤ 7; omega
    · have h := HS.out
      rw [List.length_drop, Nat.zero_add] at h
      exact h
  · have e0 : (n == 0) = false := beq_eq_false_iff_ne.2 (by omega)
    have e1 : (n == 1) = false := beq_eq_false_iff_ne.2 (by omega)
    have e2 : (n == 2) = false := beq_eq_false_iff_ne.2 (by omega)
    go_wp2_with fail
    go_ret
    exact ⟨_, _, rfl, sigs5_small, hO3.at_, LoV.row hO3 (by omega), hB3⟩
theorem drawRels_c (cv : Value) (code : List UInt8) (w : World) (hc : CodeAt w w.heap.size cv code) (hlen : code.length ≤ 1048576) :
    Calls Tryd.prog 21 #[cv] w fun e w' => ∃ v l, e = .returned v ∧ RelsSmall l ∧ RelsAt w' w'.heap.size v l ∧ Below w.heap.size w w' :=
  (drawRelsLo_c cv code w hc hlen).mono fun _ _ ⟨v, l, h1, h2, h3, _, h4⟩ => ⟨v, l, h1, h2, h3, h4⟩

set_option maxHeartbeats 1600000 in
set_option maxRecDepth 100000 in
theorem drawPosIx_c (cv : Value) (code : List UInt8) (w : World) (hc : CodeAt w w.heap.size cv code) (hlen : code.length ≤ 1048576) :
    Calls Tryd.prog 6 #[cv] w fun e w' => ∃ v l r i, e = .returned (.tuple #[v, .int .i64 r, .int .i64 i]) ∧ RelsSmall l ∧ RelsAt w' w'.heap.size v l ∧ (-1 ≤ r ∧ r ≤ 5) ∧ (-1 ≤ i ∧ i ≤ 3) ∧ Below w.heap.size w w' := by
  have hb := belowR_bd code
  go_enter Tryd.func6, Tryd.ntmps6
  go_wp2_with fail
  refine (l1New_c cv code _ hc hlen).mono ?_; rintro e w1 ⟨rfl, hb1, hC1⟩
  have hz1 := hb1.size
  have hp1 := Cur.lt hC1
  go_wp2_with fail
  refine (drawRelsLo_c cv code w1 (hc.later hb1) hlen).mono ?_; rintro e w2 ⟨v, l, rfl, hs, hR, hlo, hb2⟩
  have hC2 : CurS w2 w.heap.size cv code (st0 code) := Cur.below hC1 hC1 hb2
  have hz2 := hb2.size
  have hB2 := hb1.trans (hb2.mono hz1)
  clear hC1 hb1 hb2
  go_wp2_with fail
  have a1 := hb (st0 code) 7
  have a2 := a1.2 (by omega)
  have a1 := a1.1
  refine (l1Below_r _ cv code _ _ _ hC2).mono ?_; rintro e w3 ⟨rfl, hC3, hg3⟩
  generalize belowR code (st0 code) 7 = a at *
  have hz3 := hg3.size
  have hp2 := Cur.lt hC2
  have hR3 := (hR.loKeep hlo (fun b o hA hB => World.cell?_of_block (w := w2) (a := ⟨b, o, none⟩) (hg3.block b hB (by intro e; injection e with e; omega)))).more hz3
  have hB3 : Below w.heap.size w w3 := below_of_draw hB2 hg3
  clear hC2 hg3 hR hB2
  go_wp2_with fail
  have b1 := hb a.2 5
  have b2 := b1.2 (by omega)
  have b1 := b1.1
  refine (l1Below_r _ cv code _ _ _ hC3).mono ?_; rintro e w4 ⟨rfl, hC4, hg4⟩
  generalize belowR code a.2 5 = c at *
  have hR4 := (hR3.loKeep hlo (fun b o hA hB => World.cell?_of_block (w := w3) (a := ⟨b, o, none⟩) (hg4.block b hB (by intro e; injection e with e; omega)))).more hg4.size
  have HB4 := Lib.hid (below_of_draw hB3 hg4)
  have HR4 := Lib.hid hR4
  clear hC3 hC4 hg4 hR3 hR4 hB3 hb
  generalize a.1 = x at *
  generalize c.1 = y at *
  go_wp2
  refine bodyPost_ret (v := .tuple #[v, .int .i64 (x - 1), .int .i64 (y - 1)]) (by simp [results, Tryd.results6, go_sem]) rfl ?_
  exact ⟨v, l, x - 1, y - 1, rfl, hs, HR4.out, by omega, by omega, HB4.out⟩

end Go.Proofs.YtakflmaeclneiaaDoor
