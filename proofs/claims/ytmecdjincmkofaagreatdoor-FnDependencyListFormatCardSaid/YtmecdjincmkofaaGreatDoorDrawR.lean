/-
  Walks and plain lemmas for the laws of this seat: what single Go functions return, for every argument.
-/
import Derived.Deep.LoopGhost
import Derived.Test.YtmecdjincmkofaaGreatDoorInts
import Derived.Test.YtmecdjincmkofaaGreatDoorDrawG
import Derived.Test.YtmecdjincmkofaaGreatDoorNum
import Derived.Test.YtmecdjincmkofaaGreatDoorTyInst
import Derived.Test.YtmecdjincmkofaaGreatDoorPlan
import Derived.Test.YtmecdjincmkofaaGreatDoorFmtRS
namespace Go.Proofs.YtmecdjincmkofaaGreatDoor
open Go.RowKit

def sigs5 : List Rel := [⟨⟨#[97]⟩, 2, true⟩, ⟨⟨#[98]⟩, 1, true⟩, ⟨⟨#[112]⟩, 2, false⟩, ⟨⟨#[113]⟩, 2, false⟩, ⟨⟨#[114]⟩, 1, false⟩]
theorem l3Sigs_c (w : World) : Calls Tryz.prog 108 #[] w fun e w' => e = .returned (.slice (some ⟨w.heap.size, 0, none⟩) 5 5) ∧ w' = w.alloc (.cells (sigs5.flatMap relCells).toArray 113) := by
  go_enter Tryz.func108, Tryz.ntmps108
  go_wp2
  go_ret
  exact ⟨rfl, rfl⟩

def RelSmall (x : Rel) : Prop := x.name.size ≤ 2 ∧ -1 ≤ x.arity ∧ x.arity ≤ 4
/-- .. from a list of texts -/
theorem l1Pick_d (p : Nat) (cv : Value) (code : List UInt8) (st : DrawSt) (ls : List (List UInt8)) (m : Nat) (hm : ∀ x ∈ ls, x.length ≤ m) (w0 : World) (T : TypeId) (hz : 1 ≤ ls.length) (hz2 : ls.length ≤ 1000) (hp : p < w0.heap.size) (g : Nat) (hg : g = w0.heap.size) (n c : Nat) (hn : n = ls.length) (w : World) (hw : w = w0.alloc (.cells (ls.map strV).toArray T)) (hC : CurS w p cv code st) :
    Calls Tryz.prog 79 #[.pointer (some ⟨p, 0, none⟩), .slice (some ⟨g, 0, none⟩) n c] w fun e w' => ∃ s : ByteArray, s.size ≤ m ∧ Drawn w p cv code (.string s) e w' := by
  subst hg
  refine (l1Pick_r p cv code st ls w0 T hz hz2 hp w hw n c hn hC).mono ?_
  rintro e w' ⟨rfl, h1, h2⟩
  refine ⟨_, ?_, rfl, ⟨_, h1⟩, h2⟩
  show (pickR code st ls).1.toArray.size ≤ m
  unfold pickR
  dsimp only
  rw [List.size_toArray, List.getD]
  cases h : ls[(belowR code st ls.length).1.toNat]? with
  | none => simp
  | some x => exact hm x (List.mem_of_getElem? h)
set_option maxHeartbeats 800000 in
set_option maxRecDepth 100000 in
theorem l3One_c (p : Nat) (cv : Value) (code : List UInt8) (st : DrawSt) (w : World) (hC : CurS w p cv code st) :
    Calls Tryz.prog 175 #[.pointer (some ⟨p, 0, none⟩)] w fun e w' => ∃ x, RelSmall x ∧ Drawn w p cv code (relV x) e w' := by
  have hp := Cur.lt hC
  have hb := belowR_bd code
  have b0 := fun i => box_cell w #[.string ⟨#[]⟩, .int .i64 0, .bool false] 113 i
  go_enter Tryz.func175, Tryz.ntmps175
  go_wp2_with fail
  refine (l1Pick_d p cv code _ [[97], [122], [], [65], [97, 98], [112]] 2 (by simp) (w.alloc (.cells #[.string ⟨#[]⟩, .int .i64 0, .bool false] 113)) _ (by simp) (by simp) (by simp; omega) _ (by simp) _ _ rfl _ rfl (Cur.alloc (Cur.alloc hC _) _)).mono ?_
  rintro _ w1 ⟨s, hs, rfl, ⟨st1, hC1⟩, hg1⟩
  have hg1 := (World.grownBy_alloc _ _ _).trans hg1
  go_wp2_with fail
  have b1 := hb st1 6
  have b1' := b1.2 (by omega)
  refine (l1Below_r p cv code _ _ _ hC1).mono ?_; rintro e w2 ⟨rfl, hC2, hg2⟩
  have b1 := b1.1
  generalize belowR code st1 6 = a at *
  go_wp2_with fail
  refine (l1Once_r p cv code _ _ _ hC2).mono ?_; rintro e w3 ⟨rfl, hC3, hg3⟩
  generalize onceR code a.2 2 = c at *
  have HG := Lib.hid ((hg1.trans hg2).trans hg3)
  have hz := HG.out.size
  have hne : w.heap.size ≠ p := by omega
  have f0 := grown_cell HG.out ((b0 0).trans rfl) hne
  have f1 := grown_cell HG.out ((b0 1).trans rfl) hne
  have f2 := grown_cell HG.out ((b0 2).trans rfl) hne
  have fz := fun o => grown_frozen HG.out (o := o) (by simp) hne (World.frozen?_alloc_at _ _ _ _ rfl)
  have HB := Lib.hid b0
  clear b0 hb hC1 hg1 hC2 hg2 hg3
  go_wp2_with fail
  have hbw : Below w.heap.size w3 (((w3.setCell ⟨w.heap.size, 0, none⟩ (.string s)).setCell ⟨w.heap.size, 1, none⟩ (.int .i64 (a.1 - 1))).setCell ⟨w.heap.size, 2, none⟩ (.bool c.1)) := (((Below.refl _ _).setCell (p := ⟨w.heap.size, 0, none⟩) (Nat.le_refl _) _).setCell (p := ⟨w.heap.size, 1, none⟩) (Nat.le_refl _) _).setCell (p := ⟨w.heap.size, 2, none⟩) (Nat.le_refl _) _
  refine bodyPost_ret (v := relV ⟨s, a.1 - 1, c.1⟩) (by simp [results, Tryz.results175, go_sem, f0, f1, f2, relV]) rfl ⟨_, ⟨hs, ?_, ?_⟩, rfl, ⟨_, Cur.below hC hC3 hbw⟩, grown_of_below ((World.grownBy_alloc _ _ _).trans HG.out) hbw⟩
  · show -1 ≤ a.1 - 1; omega
  · show a.1 - 1 ≤ 4; omega

def RelsSmall (l : List Rel) : Prop := l.length ≤ 7 ∧ ∀ x ∈ l, RelSmall x
theorem sigs5_small : RelsSmall sigs5 := by
  refine ⟨by decide, fun x hx => ?_⟩
  simp only [sigs5, List.mem_cons, List.not_mem_nil, or_false] at hx
  rcases hx with rfl | rfl | rfl | rfl | rfl <;> exact ⟨by decide, by decide, by decide⟩
theorem sigs5_own (w : World) : OwnRels w.heap.size (.slice (some ⟨w.heap.size, 0, none⟩) 5 5) sigs5 (w.alloc (.cells (sigs5.flatMap relCells).toArray 113)) := by
  have := World.ownsRow_lit w (sigs5.flatMap relCells).toArray (base := w.heap.size) (e := 113) (size := 3) 5 (Nat.le_refl _) (by decide) rfl
  exact this
theorem OwnRels.grown {B : Nat} {v : Value} {l : List Rel} {w w' : World} {p : Nat} (h : OwnRels B v l w) (hg : w.grownBy w' (some p)) (hp : p < B) : OwnRels B v l w' :=
  World.ownsRow.kept h hg (by
    cases hv : v.ownBlock with
    | none => exact Or.inl rfl
    | some k => right; intro he; injection he with he; have := (World.ownsRow.lt h k hv).1; omega)

set_option maxHeartbeats 1600000 in
set_option maxRecDepth 100000 in
theorem drawRels_c (cv : Value) (code : List UInt8) (w : World) (hc : CodeAt w w.heap.size cv code) (hlen : code.length ≤ 1048576) :
    Calls Tryz.prog 97 #[cv] w fun e w' => ∃ v l, e = .returned v ∧ RelsSmall l ∧ RelsAt w' w'.heap.size v l ∧ Below w.heap.size w w' := by
  have hb := belowR_bd code
  go_enter Tryz.func97, Tryz.ntmps97
  go_wp2_with fail
  refine (l1New_c cv code _ hc hlen).mono ?_; rintro e w1 ⟨rfl, hb1, hC1⟩
  go_wp2_with fail
  refine (l3Sigs_c _).mono ?_; rintro e w2 ⟨rfl, hw2⟩
  have hO := sigs5_own w1
  rw [← hw2] at hO
  have hC2 : CurS w2 w.heap.size cv code (st0 code) := by rw [hw2]; exact Cur.alloc hC1 _
  have hB2 : Below w.heap.size w w2 := by rw [hw2]; exact hb1.alloc hb1.size _
  have hz2 : w1.heap.size < w2.heap.size := by rw [hw2]; simp
  have hz1 := hb1.size
  clear hw2
  go_wp2_with fail
  have a1 := (hb (st0 code) 5)
  have a2 := a1.2 (by omega)
  have a1 := a1.1
  refine (l1Below_r _ cv code _ _ _ hC2).mono ?_; rintro e w3 ⟨rfl, hC3, hg3⟩
  generalize belowR code (st0 code) 5 = a at *
  have hO3 := hO.grown hg3 (show w.heap.size < w1.heap.size from Cur.lt hC1)
  have hB3 : Below w.heap.size w w3 := below_of_draw hB2 hg3
  have hz3 := hg3.size
  have hp1 := Cur.lt hC1
  generalize a.1 = n at *
  clear hO hC2 hB2 hg3 hC1 hb1
  have hn : n = 0 ∨ n = 1 ∨ n = 2 ∨ 3 ≤ n := by omega
  rcases hn with rfl | rfl | rfl | hn
  · go_wp2_with fail
    have j1 := hb a.2 5
    have j2 := j1.2 (by omega)
    have j1 := j1.1
    refine (l1Below_r _ cv code _ _ _ hC3).mono ?_; rintro e w4 ⟨rfl, hC4, hg4⟩
    generalize belowR code a.2 5 = b at *
    obtain ⟨j, hj⟩ := Int.eq_ofNat_of_zero_le j1
    rw [hj]
    have hj5 : j < 5 := by omega
    have HJ := Lib.hid hj
    clear hj j1 j2
    go_wp2_with fail
    refine (l3One_c _ cv code _ _ hC4).mono ?_; rintro e w5 ⟨x, hx, rfl, -, hg5⟩
    have hO5 := (hO3.grown hg4 hp1).grown hg5 hp1
    have hB5 := below_of_draw (below_of_draw hB3 hg4) hg5
    obtain ⟨c0, c1, c2⟩ := hO5.cells rfl j hj5
    have cz := hO5.frozen rfl
    have HS := Lib.hid (hO5.set rfl j hj5 x)
    have hBf := ((hB5.setCell (p := ⟨w1.heap.size, j * 3, none⟩) hz1 (.string x.name)).setCell (p := ⟨w1.heap.size, j * 3 + 1, none⟩) hz1 (.int .i64 x.arity)).setCell (p := ⟨w1.heap.size, j * 3 + 2, none⟩) hz1 (.bool x.source)
    unfold relV
    clear hO3 hO5 hB3 hB5 hb
    go_wp2_with fail
    go_ret
    refine ⟨_, _, rfl, ⟨by simp [sigs5], fun y hy => ?_⟩, HS.out.at_, hBf⟩
    rcases List.mem_or_eq_of_mem_set hy with h | rfl
    · exact sigs5_small.2 y h
    · exact hx
  · have HO := Lib.hid (hO3.grown ((World.grownBy_alloc w3 (.cells #[.string ⟨#[115]⟩, .int .i64 1, .bool false, .string ⟨#[116]⟩, .int .i64 1, .bool false] 113) (some w.heap.size))) hp1)
    have HR : Hid (RelsAt (w3.alloc (.cells #[.string ⟨#[115]⟩, .int .i64 1, .bool false, .string ⟨#[116]⟩, .int .i64 1, .bool false] 113)) (w3.heap.size + 1) (.slice (some ⟨w3.heap.size, 0, none⟩) [(⟨⟨#[115]⟩, 1, false⟩ : Rel), ⟨⟨#[116]⟩, 1, false⟩].length 2) [⟨⟨#[115]⟩, 1, false⟩, ⟨⟨#[116]⟩, 1, false⟩]) := by
      refine ⟨_, _, rfl, Nat.le_refl _, by simp [maxLen], fun _ => ⟨_, _, rfl, by omega, ?_⟩, fun h => by cases h⟩
      intro j u hu
      rw [Nat.zero_add, box_cell]
      simpa [relCells] using hu
    have hz4 : w1.heap.size ≤ (w3.alloc (.cells #[.string ⟨#[115]⟩, .int .i64 1, .bool false, .string ⟨#[116]⟩, .int .i64 1, .bool false] 113)).heap.size := by simp; omega
    have HB := Lib.hid (hB3.alloc hB3.size (.cells #[.string ⟨#[115]⟩, .int .i64 1, .bool false, .string ⟨#[116]⟩, .int .i64 1, .bool false] 113))
    clear hO3 hB3 hb
    go_wp2_with (at_builtin; refine rels_apps (r := [⟨⟨#[115]⟩, 1, false⟩, ⟨⟨#[116]⟩, 1, false⟩]) HO.out rfl _ _ rfl rfl (some ⟨w3.heap.size, 0, none⟩) 2 2 rfl rfl HR.out (fun h => by cases h) (by decide) hz4 ?_; intro v5 w5 hO5 hB5 _ _)
    go_ret
    refine ⟨_, _, rfl, ⟨by decide, fun y hy => ?_⟩, hO5.at_, HB.out.trans (hB5.mono hz1)⟩
    rcases List.mem_append.1 hy with h | h
    · exact sigs5_small.2 y h
    · simp only [List.mem_cons, List.not_mem_nil, or_false] at h
      rcases h with rfl | rfl <;> exact ⟨by decide, by decide, by decide⟩
  · go_wp2_with fail
    have j1 := hb a.2 5
    have j2 := j1.2 (by omega)
    have j1 := j1.1
    refine (l1Below_r _ cv code _ _ _ hC3).mono ?_; rintro e w4 ⟨rfl, hC4, hg4⟩
    generalize belowR code a.2 5 = b at *
    obtain ⟨j, hj⟩ := Int.eq_ofNat_of_zero_le j1
    rw [hj]
    have hj5 : j < 5 := by omega
    have HJ := Lib.hid hj
    have HS := Lib.hid (SliceAt.drop (l := sigs5) (off := 0) (c := 5) relCells_len (hO3.grown hg4 hp1).at_ j (by show j ≤ 5; omega))
    have HB := Lib.hid (below_of_draw hB3 hg4)
    clear hj j1 j2 hO3 hB3 hb
    go_wp2_with fail
    go_ret
    refine ⟨_, sigs5.drop j, rfl, ⟨?_, fun y hy => sigs5_small.2 y (List.mem_of_mem_drop hy)⟩, ?_, HB.out⟩
    · rw [List.length_drop]; show 5 - j ≤ 7; omega
    · have h := HS.out
      rw [List.length_drop, Nat.zero_add] at h
      exact h
  · have e0 : (n == 0) = false := beq_eq_false_iff_ne.2 (by omega)
    have e1 : (n == 1) = false := beq_eq_false_iff_ne.2 (by omega)
    have e2 : (n == 2) = false := beq_eq_false_iff_ne.2 (by omega)
    go_wp2_with fail
    go_ret
    exact ⟨_, _, rfl, sigs5_small, hO3.at_, hB3⟩
set_option maxHeartbeats 400000 in
theorem drawRels2_c (cv : Value) (code : List UInt8) (w : World) (hc : CodeAt w w.heap.size cv code) (hlen : code.length ≤ 1048576) :
    Calls Tryz.prog 29 #[cv] w fun e w' => ∃ v l, e = .returned v ∧ RelsSmall l ∧ RelsAt w' w'.heap.size v l ∧ Below w.heap.size w w' := by
  go_enter Tryz.func29, Tryz.ntmps29
  go_wp2_with fail
  refine (drawRels_c cv code _ hc hlen).mono ?_; rintro e w1 ⟨v, l, rfl, hl, hR, hb⟩
  go_wp2_with fail
  go_ret
  exact ⟨_, _, rfl, hl, hR, hb⟩

theorem spoilR_len (code : List UInt8) (st : DrawSt) (s : List UInt8) : (spoilR code st s).1.length ≤ s.length + 3 := by
  unfold spoilR
  split
  · have := textR_len code st 3 (by decide)
    have h : (3 : Int).toNat = 3 := rfl
    omega
  · dsimp only
    split
    · simp; omega
    · split
      · simp; omega
      · split
        · simp; omega
        · simp; omega
set_option maxHeartbeats 1600000 in
set_option maxRecDepth 100000 in
theorem drawRelStr_c (cv : Value) (code : List UInt8) (w : World) (hc : CodeAt w w.heap.size cv code) (hlen : code.length ≤ 1048576) :
    Calls Tryz.prog 32 #[cv] w fun e w' => ∃ s : ByteArray, e = .returned (.string s) ∧ s.size ≤ 40 ∧ Below w.heap.size w w' := by
  go_enter Tryz.func32, Tryz.ntmps32
  go_wp2_with fail
  refine (l1New_c cv code _ hc hlen).mono ?_; rintro e w1 ⟨rfl, hb1, hC1⟩
  go_wp2_with fail
  refine (drawRels_c cv code _ (hc.later hb1) hlen).mono ?_; rintro e w2 ⟨v, l, rfl, hl, hR, hb2⟩
  go_wp2_with fail
  refine (specFormatRelations_any v l _ hR).mono ?_; rintro e w3 ⟨rfl, hb3⟩
  have hL := fmtRels_len l
  have hz1 := hb1.size
  have hz2 := hb2.size
  have hb3' : Below w1.heap.size w1 w3 := hb2.trans (hb3.mono hz2)
  have hC3 : CurS w3 w.heap.size cv code (st0 code) := Cur.below hC1 hC1 hb3'
  have HB := Lib.hid (hb1.trans (hb3'.mono hz1))
  have hp := Cur.lt hC1
  clear hb1 hb2 hb3 hb3' hR hl
  generalize fmtRels l = t at *
  go_wp2_with fail
  refine (l1Once_r _ cv code _ _ _ hC3).mono ?_; rintro e w4 ⟨rfl, hC4, hg4⟩
  generalize onceR code (st0 code) 3 = d at *
  obtain ⟨d, st4⟩ := d
  dsimp only at *
  have HB4 := Lib.hid (below_of_draw HB.out hg4)
  have hts : ByteArray.size ⟨t.toArray⟩ = t.length := by simp [ByteArray.size]
  cases d with
  | true =>
    have HTS := Lib.hid hts
    clear hts
    go_wp2_with fail
    refine (l1Spoil_r _ cv code _ ⟨t.toArray⟩ (by rw [HTS.out]; omega) _ hC4).mono ?_; rintro e w5 ⟨rfl, hC5, hg5⟩
    have hsl := spoilR_len code st4 t
    rw [show (⟨t.toArray⟩ : ByteArray).data.toList = t from rfl] at hC5 ⊢
    generalize spoilR code st4 t = sp at *
    obtain ⟨sp, st5⟩ := sp
    dsimp only at *
    go_wp2_with fail
    refine (l1Pick_d _ cv code _ [[], [43], [97], [97, 48], [97, 52], [98, 49, 32, 97, 49], [97, 49, 32], [43, 97, 49, 32, 43, 97, 50], [43, 43, 97, 49], sp] 40 (fun x hx => ?_) w5 _ (by simp) (by simp) (Cur.lt hC5) _ rfl _ _ (by simp) _ rfl (Cur.alloc hC5 _)).mono ?_
    · simp only [List.mem_cons, List.not_mem_nil, or_false] at hx
      rcases hx with rfl | rfl | rfl | rfl | rfl | rfl | rfl | rfl | rfl | rfl <;> first | decide | omega
    rintro e w6 ⟨s, hs, rfl, -, hg6⟩
    go_wp2_with fail
    go_ret
    exact ⟨_, rfl, hs, below_of_draw HB4.out (hg5.trans ((World.grownBy_alloc _ _ _).trans hg6))⟩
  | false =>
    go_wp2_with fail
    go_ret
    exact ⟨_, rfl, by rw [hts]; omega, HB4.out⟩

set_option maxHeartbeats 800000 in
set_option maxRecDepth 100000 in
theorem l4Value_c (p : Nat) (cv : Value) (code : List UInt8) (st : DrawSt) (n : Int) (h1 : 0 ≤ n) (h2 : n ≤ 40) (w : World) (hC : CurS w p cv code st) :
    Calls Tryz.prog 202 #[.pointer (some ⟨p, 0, none⟩), .int .i64 n] w fun e w' => ∃ z, -41 ≤ z ∧ z ≤ 9 ∧ Drawn w p cv code (.int .i64 z) e w' := by
  have hb := belowR_bd code
  by_cases hn0 : n = 0
  · subst hn0
    have e0 : decide ((0 : Int) < 0) = false := rfl
    go_enter Tryz.func202, Tryz.ntmps202
    go_wp2_with fail
    have j1 := hb st 3
    have j2 := j1.2 (by omega)
    have j1 := j1.1
    refine (l1Below_r _ cv code _ _ _ hC).mono ?_; rintro e w2 ⟨rfl, hC2, hg2⟩
    generalize belowR code st 3 = b at *
    go_wp2_with fail
    go_ret
    exact ⟨_, by omega, by omega, rfl, ⟨_, hC2⟩, hg2⟩
  replace h1 : 1 ≤ n := by omega
  have e0 : decide (0 < n) = true := decide_eq_true (by omega)
  go_enter Tryz.func202, Tryz.ntmps202
  go_wp2_with fail
  refine (l1Once_r p cv code _ _ _ hC).mono ?_; rintro e w1 ⟨rfl, hC1, hg1⟩
  generalize onceR code st 2 = cst at *
  obtain ⟨c, st1⟩ := cst
  dsimp only at *
  cases c with
  | true =>
    go_wp2_with fail
    have j1 := hb st1 n
    have j2 := j1.2 h1
    have j1 := j1.1
    refine (l1Below_r _ cv code _ _ _ hC1).mono ?_; rintro e w2 ⟨rfl, hC2, hg2⟩
    generalize belowR code st1 n = b at *
    go_wp2_with fail
    refine (specNullValue_any _ _ (by omega) (by omega)).mono ?_; rintro e w3 ⟨rfl, rfl⟩
    go_wp2_with fail
    go_ret
    exact ⟨_, by omega, by omega, rfl, ⟨_, hC2⟩, hg1.trans hg2⟩
  | false =>
    go_wp2_with fail
    have j1 := hb st1 3
    have j2 := j1.2 (by omega)
    have j1 := j1.1
    refine (l1Below_r _ cv code _ _ _ hC1).mono ?_; rintro e w2 ⟨rfl, hC2, hg2⟩
    generalize belowR code st1 3 = b at *
    go_wp2_with fail
    go_ret
    exact ⟨_, by omega, by omega, rfl, ⟨_, hC2⟩, hg1.trans hg2⟩

theorem sigs5_ar (j : Nat) (h : j < sigs5.length) : 1 ≤ sigs5[j].arity ∧ sigs5[j].arity ≤ 2 := by
  have h5 : ∀ i : Fin sigs5.length, 1 ≤ (sigs5.get i).arity ∧ (sigs5.get i).arity ≤ 2 := by decide
  exact h5 ⟨j, h⟩
set_option maxHeartbeats 1600000 in
set_option maxRecDepth 100000 in
theorem l4Fact_c (p : Nat) (cv : Value) (code : List UInt8) (st : DrawSt) (j : Nat) (hj : j < 5) (n : Int) (h1 : 0 ≤ n) (h2 : n ≤ 40) (w : World) (hC : CurS w p cv code st) :
    Calls Tryz.prog 189 #[.pointer (some ⟨p, 0, none⟩), .int .i64 j, .int .i64 n] w fun e w' => ∃ V vs, e = .returned (.agg #[.int .i64 j, V]) ∧ OwnInts w.heap.size V vs w' ∧ 1 ≤ vs.length ∧ vs.length ≤ 2 ∧ (∀ z ∈ vs, -41 ≤ z ∧ z ≤ 9) ∧ (∃ st', CurS w' p cv code st') ∧ w.grownBy w' (some p) := by
  have hp := Cur.lt hC
  have har := sigs5_ar j hj
  go_enter Tryz.func189, Tryz.ntmps189
  go_wp2_with fail
  refine (l3Sigs_c _).mono ?_; rintro e w2 ⟨rfl, hw2⟩
  have hO2 := sigs5_own (w.alloc (.cells #[.int .i64 0, .slice none 0 0] 57))
  rw [← hw2] at hO2
  go_wp2_with fail
  have hG : (w.alloc (.cells #[.int .i64 0, .slice none 0 0] 57)).heap.size = w.heap.size + 1 := by simp
  obtain ⟨-, s1, -⟩ := hO2.cells rfl j hj
  rw [hG] at s1
  have b0 : w2.cell? ⟨w.heap.size, 0, none⟩ = some (.int .i64 0) := by rw [hw2]; simp [go_sem]
  have b1 : w2.cell? ⟨w.heap.size, 1, none⟩ = some (.slice none 0 0) := by rw [hw2]; simp [go_sem]
  have bz : ∀ o, w2.frozen? ⟨w.heap.size, o, none⟩ = false := by intro o; rw [hw2]; simp [go_sem]
  have hz2 : w2.heap.size = w.heap.size + 2 := by rw [hw2]; simp
  have hC2 : CurS w2 p cv code st := by rw [hw2]; exact Cur.alloc (Cur.alloc hC _) _
  have hB2 : Below w.heap.size w w2 := by rw [hw2]; exact below_more (below_more (Below.refl _ _) _) _
  clear hO2 hG
  rw [← hw2]
  clear hw2
  obtain ⟨g, hg⟩ : ∃ g, g = w2.heap.size := ⟨_, rfl⟩
  have y0 : (w2.alloc (.cells #[.int .i64 j, .slice none 0 0] 57)).cell? ⟨g, 0, none⟩ = some (.int .i64 j) := by rw [hg]; simp [go_sem]
  have y1 : (w2.alloc (.cells #[.int .i64 j, .slice none 0 0] 57)).cell? ⟨g, 1, none⟩ = some (.slice none 0 0) := by rw [hg]; simp [go_sem]
  have yz : ∀ o, (w2.alloc (.cells #[.int .i64 j, .slice none 0 0] 57)).frozen? ⟨g, o, none⟩ = false := by intro o; rw [hg]; simp [go_sem]
  have hsz : (w2.alloc (.cells #[.int .i64 j, .slice none 0 0] 57)).heap.size = g + 1 := by rw [hg]; simp
  have hAl : Below g w2 (w2.alloc (.cells #[.int .i64 j, .slice none 0 0] 57)) := (Below.refl _ _).alloc (by omega) _
  have hCW : CurS (w2.alloc (.cells #[.int .i64 j, .slice none 0 0] 57)) p cv code st := Cur.alloc hC2 _
  have hgw : g = w.heap.size + 2 := hg.trans hz2
  have hGW := Lib.hid hgw
  rw [show w.heap.size + 1 + 1 = g from hgw.symm]
  generalize w2.alloc (.cells #[.int .i64 j, .slice none 0 0] 57) = W at y0 y1 yz hsz hAl hCW ⊢
  obtain ⟨A, hA⟩ : ∃ A : Nat, sigs5[j].arity = A := ⟨sigs5[j].arity.toNat, by omega⟩
  rw [hA] at s1 har
  have S1 := Lib.hid ((hAl.cell (p := ⟨w.heap.size + 1, j * 3 + 1, none⟩) (by show w.heap.size + 1 < g; omega)).trans s1)
  have B0 := Lib.hid ((hAl.cell (p := ⟨w.heap.size, 0, none⟩) (by show w.heap.size < g; omega)).trans b0)
  have B1 := Lib.hid ((hAl.cell (p := ⟨w.heap.size, 1, none⟩) (by show w.heap.size < g; omega)).trans b1)
  have BZ := Lib.hid (fun o => (hAl.frozen (p := ⟨w.heap.size, o, none⟩) (by show w.heap.size < g; omega)).trans (bz o))
  have HW := Lib.hid (hB2.trans (hAl.mono (by omega)))
  have HSZ := Lib.hid hsz
  have hpg : p < g ∧ w.heap.size + 1 < g := by omega
  clear s1 b0 b1 bz hz2 hC2 hB2 hg hAl hsz hgw hA
  go_loopg [] A (fun m wr => ∃ V vs st', m + vs.length = A ∧ wr.cell? ⟨g, 0, none⟩ = some (.int .i64 j) ∧ wr.cell? ⟨g, 1, none⟩ = some V ∧ (∀ o, wr.frozen? ⟨g, o, none⟩ = false) ∧ OwnInts (g + 1) V vs wr ∧ (∀ z ∈ vs, -41 ≤ z ∧ z ≤ 9) ∧ CurS wr p cv code st' ∧ Hid (Chg (fun q => q = p ∨ q = g) W wr))
  case atStart => exact ⟨_, [], _, rfl, y0, y1, yz, OwnInts.nil _ _, (fun z hz => by cases hz), hCW, Lib.hid (Chg.refl _ _)⟩
  case round =>
    clear y0 y1 yz hCW
    obtain ⟨V, vs, st', hm, y0, y1, yz, hO, hvs, hCr, HC⟩ := hrel
    obtain ⟨P4, c4, rfl, hl4, hm4, -⟩ := hO.at_
    have hC' := HC.out
    have ar : wr.cell? ⟨w.heap.size + 1, j * 3 + 1, none⟩ = some (.int .i64 A) := (hC'.cell (show w.heap.size + 1 < _ by rw [HSZ.out]; omega) (by omega)).trans S1.out
    have HO := Lib.hid hO
    have HV := Lib.hid hvs
    clear hO hC' hvs
    unfold maxLen at hm4
    have HM := Lib.hid hm
    by_cases hlt : vs.length < A
    · have e0 : decide (vs.length < A) = true := decide_eq_true hlt
      have e1 : decide ((vs.length : Int) < (A : Int)) = true := decide_eq_true (by omega)
      clear hm
      go_wp2_with fail
      go_quiet (fail)
      go_wp2_with fail
      have hS : Holds [(⟨g, 1, none⟩, .slice P4 vs.length c4)] wr := by
        intro q hq
        simp only [List.mem_cons, List.not_mem_nil, or_false] at hq
        subst hq
        exact y1
      have hSb : ∀ q ∈ [((⟨g, 1, none⟩ : Addr), Value.slice P4 vs.length c4)], q.1.block = g := by
        intro q hq
        simp only [List.mem_cons, List.not_mem_nil, or_false] at hq
        subst hq
        rfl
      have HSb := Lib.hid hSb
      clear hSb
      have hgr : g + 1 ≤ wr.heap.size := by have h1 := HC.out.size; rw [HSZ.out] at h1; exact h1
      have g0 := Keep.cell (h0 := hS) (a := ⟨g, 1, none⟩) (v := .slice P4 vs.length c4) (by simp)
      refine wp_region_plan (C := fun w' => ∃ u : Keep _ wr hS, w' = u.now) (.still 0 (.still 1 (.still 2 (.still 3 (.move true 4 (.move true 5 (.move true 6 (.still 7 (.move false 8 .done .none)) .none) .none) .none))))) (by kernel_rfl) (by kernel_rfl) (by kernel_rfl) (fun _ => ⟨⟨(wr.drewN nq).drew, hS⟩, rfl⟩) ?_
      iterate 4
        refine plan_look _ rfl rfl ?_
        go_big_quiet_step (fail)
        refine wpQuiet_nil ?_
      refine plan_call _ 202 _ _ _ _ _ rfl _ Tryz.func202 (by kernel_rfl) (by kernel_rfl) ?_ True.intro
      refine (l4Value_c p cv code st' n h1 h2 _ (Cur.drewN (Cur.drewN hCr _) 1)).mono ?_
      rintro _ w2 ⟨z, hz1, hz2, rfl, ⟨st2, hC2⟩, hg2⟩
      have hg' : wr.grownBy w2 (some p) := ⟨hg2.os, hg2.tape, hg2.output, hg2.size, hg2.block⟩
      refine ⟨_, rfl, fun _ => ⟨⟨_, hS.grown hg' (fun q hq => ⟨by rw [HSb.out q hq]; exact hgr, by rw [HSb.out q hq]; intro e; injection e; omega⟩)⟩, rfl⟩, ?_⟩
      have hK2 := hS.grown hg' (fun q hq => ⟨by rw [HSb.out q hq]; exact hgr, by rw [HSb.out q hq]; intro e; injection e; omega⟩)
      refine plan_put ?_ (by simp only [Act.put, List.setIfInBounds_toArray, List.set_cons_succ, List.set_cons_zero]; rfl)
      have hz2' := hg'.size
      have hAl := (Below.refl (g + 1) w2).alloc (by omega) (.cells #[.int .i64 z] 3)
      refine plan_value (u := .slice (some ⟨w2.heap.size, 0, none⟩) 1 1) (w' := w2.alloc (.cells #[.int .i64 z] 3)) _ rfl rfl rfl (by simp [go_sem]) (fun _ => ⟨⟨_, hK2.below hAl (fun q hq => by rw [HSb.out q hq]; omega)⟩, rfl⟩) ?_ True.intro
      refine plan_put ?_ (by simp only [Act.put, List.setIfInBounds_toArray, List.set_cons_succ, List.set_cons_zero]; rfl)
      have hO3 := (HO.out.grown hg' (by omega)).grown (World.grownBy_alloc w2 (.cells #[.int .i64 z] 3) (some p)) (by omega)
      unfold OwnInts at hO3
      rw [← flat_int] at hO3
      have hr : SliceAt intCell (w2.alloc (.cells #[.int .i64 z] 3)) (w2.heap.size + 1) (.slice (some ⟨w2.heap.size, 0, none⟩) [z].length 1) [z] := by
        refine ⟨_, _, rfl, Nat.le_refl _, by simp [maxLen], fun _ => ⟨_, _, rfl, by omega, ?_⟩, fun h => by cases h⟩
        intro i u hu
        rw [Nat.zero_add, box_cell]
        simpa [intCell] using hu
      refine plan_app intCell 1 8 (r := [z]) (fun x _ u hu => by simp [intCell] at hu; subst hu; rfl) (fun _ => rfl) _ rfl rfl Tryz.underlying55 infoInt rfl (by decide) hO3 _ _ rfl rfl ⟨w2.heap.size, 0, none⟩ 1 1 rfl rfl hr (by simp; omega) (by simp; omega) (by simp; omega) ?_ True.intro
      intro v4 w4 hO4 hB4 _ _
      have hb4 := hAl.trans hB4
      have hO5 : OwnInts (g + 1) v4 (vs ++ [z]) w4 := by
        have := hO4
        rw [flat_int] at this
        simpa [OwnInts] using this
      obtain ⟨P5, c5, rfl, -⟩ := hO5.at_
      have z0 := (hb4.cell (p := ⟨g, 0, none⟩) (Nat.lt_succ_self _)).trans (grown_cell hg' y0 (by omega))
      have z1 := (hb4.cell (p := ⟨g, 1, none⟩) (Nat.lt_succ_self _)).trans (grown_cell hg' y1 (by omega))
      have zz := fun o => (hb4.frozen (p := ⟨g, o, none⟩) (Nat.lt_succ_self _)).trans (grown_frozen hg' hgr (by omega) (yz o))
      have HO5 := Lib.hid hO5
      have HB4 := Lib.hid hb4
      have HC2 := Lib.hid hC2
      have HG' := Lib.hid hg'
      refine ⟨fun _ => ⟨⟨_, hK2.below hb4 (fun q hq => by rw [HSb.out q hq]; omega)⟩, rfl⟩, ?_⟩
      clear hO5 hb4 hC2 hg' hO4 hB4 hr hO3 hAl hK2 y0 y1 yz hg2 ar
      refine plan_put ?_ (by simp only [Act.put, List.setIfInBounds_toArray, List.set_cons_succ, List.set_cons_zero]; rfl)
      refine plan_look _ rfl rfl ?_
      go_big_quiet_step (fail)
      refine wpQuiet_nil ?_
      refine plan_skip (w' := w4.setCell ⟨g, 1, none⟩ (.slice P5 (vs ++ [z]).length c5)) _ rfl rfl rfl (by simp [go_sem, z1, zz]) (fun e => by cases e) ?_ True.intro
      refine plan_put ?_ (by simp only [Act.put]; rfl)
      refine plan_done ?_
      go_wp2
      go_roundg (gk - 1)
      case measure => have := HM.out; omega
      case rel =>
        have hM := HM.out
        have hch : Chg (fun q => q = p ∨ q = g) wr w2 := ⟨HG'.out.os, HG'.out.tape, HG'.out.output, HG'.out.size, fun k hk hn => HG'.out.block k hk (by intro e; injection e with e; exact hn (.inl e))⟩
        have hbf : Below w.heap.size w2 (w4.setCell ⟨g, 1, none⟩ (.slice P5 (vs ++ [z]).length c5)) := (HB4.out.mono (by omega)).setCell (p := ⟨g, 1, none⟩) (by show w.heap.size ≤ g; omega) _
        refine ⟨.slice P5 (vs ++ [z]).length c5, vs ++ [z], st2, by simp; omega, by simp [go_sem, z0], by simp [go_sem, z1], fun o => by simp [zz], ?_, ?_, Cur.below hC HC2.out hbf, Lib.hid (((HC.out.trans hch).then_below (by rw [HSZ.out]; exact HB4.out)).setCell (p := ⟨g, 1, none⟩) (.inr rfl) _)⟩
        · exact HO5.out.chg ((Chg.refl (fun q => q = g) w4).setCell (p := ⟨g, 1, none⟩) rfl _) (fun q hq e => by have := (HO5.out.lt q hq).1; omega)
        · intro y hy
          rcases List.mem_append.1 hy with h | h
          · exact HV.out y h
          · rw [List.mem_singleton.1 h]; exact ⟨hz1, hz2⟩
    · have e0 : decide (vs.length < A) = false := decide_eq_false hlt
      have e1 : decide ((vs.length : Int) < (A : Int)) = false := decide_eq_false (by omega)
      clear hm
      go_wp2_with fail
      go_quiet (fail)
      have hC' := HC.out
      have m0 : wr.cell? ⟨w.heap.size, 0, none⟩ = some (.int .i64 0) := (hC'.cell (show w.heap.size < _ by rw [HSZ.out]; omega) (by omega)).trans B0.out
      have m1 : wr.cell? ⟨w.heap.size, 1, none⟩ = some (.slice none 0 0) := (hC'.cell (show w.heap.size < _ by rw [HSZ.out]; omega) (by omega)).trans B1.out
      have mz : ∀ o, wr.frozen? ⟨w.heap.size, o, none⟩ = false := fun o => (hC'.frozen (show w.heap.size < _ by rw [HSZ.out]; omega) (by omega)).trans (BZ.out o)
      have HG : Hid (w.grownBy wr (some p)) := by
        have h1 := HW.out
        refine ⟨hC'.os.trans h1.os, hC'.tape.trans h1.tape, hC'.output.trans h1.output, Nat.le_trans h1.size hC'.size, fun k hk hne => (hC'.block k (Nat.lt_of_lt_of_le hk h1.size) ?_).trans (h1.block k hk)⟩
        have := hGW.out
        have h3 : k ≠ p := fun e => hne (by rw [e])
        omega
      clear hC'
      go_wp2_with fail
      have hbw : Below w.heap.size wr (((wr.drewN nq).setCell ⟨w.heap.size, 0, none⟩ (.int .i64 j)).setCell ⟨w.heap.size, 1, none⟩ (.slice P4 vs.length c4)) := ((show Below w.heap.size wr (wr.drewN nq) from ⟨rfl, rfl, rfl, Nat.le_refl _, fun _ _ => rfl⟩).setCell (p := ⟨w.heap.size, 0, none⟩) (Nat.le_refl _) _).setCell (p := ⟨w.heap.size, 1, none⟩) (Nat.le_refl _) _
      have hcw : Chg (fun q => q = w.heap.size) wr (((wr.drewN nq).setCell ⟨w.heap.size, 0, none⟩ (.int .i64 j)).setCell ⟨w.heap.size, 1, none⟩ (.slice P4 vs.length c4)) := ((show Chg (fun q => q = w.heap.size) wr (wr.drewN nq) from ⟨rfl, rfl, rfl, Nat.le_refl _, fun _ _ _ => rfl⟩).setCell (p := ⟨w.heap.size, 0, none⟩) rfl _).setCell (p := ⟨w.heap.size, 1, none⟩) rfl _
      refine bodyPost_ret (v := .agg #[.int .i64 j, .slice P4 vs.length c4]) (by simp [results, Tryz.results189, go_sem, m0, m1]) rfl ⟨_, vs, rfl, ?_, ?_, ?_, HV.out, ⟨_, Cur.below hC hCr hbw⟩, grown_of_below HG.out hbw⟩
      · exact (HO.out.chg hcw (fun q hq e => by have := (HO.out.lt q hq).1; omega)).mono (by omega)
      · have := HM.out; omega
      · have := HM.out; omega

end Go.Proofs.YtmecdjincmkofaaGreatDoor
