/-
  Walks and plain lemmas for the laws of this seat: what single Go functions return, for every argument.
-/
import Derived.Test.YtmecdjincmkofaaGreatDoorFmtS
import Derived.Test.YtmecdjincmkofaaGreatDoorRels
import Derived.Test.YtmecdjincmkofaaGreatDoorDraw
import Derived.Test.YtmecdjincmkofaaGreatDoorDraw2
import Derived.Test.YtmecdjincmkofaaGreatDoorFmtV
import Derived.Test.YtmecdjincmkofaaGreatDoorFactV
namespace Go.Proofs.YtmecdjincmkofaaGreatDoor
open Go.RowKit

theorem specAreValid_at (l : List Rel) (b : Bool) (h : validRels l = b) (v : Value) (w : World) (hl : RelsAt w w.heap.size v l) :
    Calls Tryz.prog 34 #[v] w fun e w' => e = .returned (.bool b) ∧ Below w.heap.size w w' := by
  subst h; exact specAreValidRelations_any v l w hl
set_option maxHeartbeats 3200000 in
theorem specFormatRelations_any (v : Value) (l : List Rel) (w : World) (hl : RelsAt w w.heap.size v l) :
    Calls Tryz.prog 100 #[v] w fun e w' => e = .returned (.string ⟨(fmtRels l).toArray⟩) ∧ Below w.heap.size w w' := by
  have HL := Lib.hid hl
  cases hv : validRels l with
  | false =>
    have hcon := specAreValid_at l false hv v w hl
    have HV := Lib.hid (fmtRels_no l hv)
    clear hv hl HL
    go_enter Tryz.func100, Tryz.ntmps100
    go_wp2_with (go_at_call 34; refine hcon.mono ?_; rintro e w1 ⟨rfl, hb1⟩)
    go_ret
    exact ⟨ret_str (by rw [HV.out]), hb1⟩
  | true =>
    have hcon := specAreValid_at l true hv v w hl
    have HV := Lib.hid (fmtRels_yes l hv)
    have HVL := Lib.hid hv
    have h6 := validRels_len l hv
    obtain ⟨A, c, rfl, hlc, hcm, -⟩ := hl
    unfold maxLen at hcm
    clear hv
    go_enter Tryz.func100, Tryz.ntmps100
    go_wp2_with (go_at_call 34; refine hcon.mono ?_; rintro e w1 ⟨rfl, hb1⟩)
    clear hcon
    go_loopw [3, 4] (fun s i wr => ∃ k : Nat, k ≤ l.length ∧ i = .int .i64 k ∧ s = .string ⟨(joinRels (l.take k)).toArray⟩ ∧ Below w.heap.size w wr) (fun _ i _ => l.length - (intOf i).toNat)
    case atStart => exact ⟨0, by omega, rfl, rfl, hb1⟩
    case round =>
      obtain ⟨k, hk, rfl, rfl, hW⟩ := hrel
      have hz := hW.size
      by_cases hlt : k < l.length
      · obtain ⟨b, off, rfl, hb, c0, c1, c2⟩ := RelsAt.elem HL.out k hlt
        have C0 := Aft.cell hb c0
        have C1 := Aft.cell hb c1
        replace c0 := (hW.cell (p := ⟨b, off + k * 3, none⟩) hb).trans c0
        replace c1 := (hW.cell (p := ⟨b, off + k * 3 + 1, none⟩) hb).trans c1
        replace c2 := (hW.cell (p := ⟨b, off + k * 3 + 2, none⟩) hb).trans c2
        have HS := Lib.hid (joinStep l k hlt)
        have hok := relOk_bd _ _ (validRels_at l HVL.out k hlt)
        have hsn : l[k].name.size ≤ 1 := by omega
        have ha0 : 1 ≤ l[k].arity := hok.2.1
        have ha1 : l[k].arity ≤ 3 := hok.2.2
        have hJ : ByteArray.size ⟨(joinRels (l.take k)).toArray⟩ ≤ 30 := by
          rw [size_mk]; have := joinRels_len l HVL.out k hk; omega
        have hI : ByteArray.size ⟨(Lib.itoa l[k].arity).toArray⟩ ≤ 2 := by rw [size_mk]; exact itoa_le2 _ (by omega) (by omega)
        have h1 : ByteArray.size ⟨#[32]⟩ = 1 := rfl
        have h2 : ByteArray.size ⟨#[43]⟩ = 1 := rfl
        have hcon := specFormatInt_any l[k].arity (h0 := by omega) (h1 := by omega)
        clear hok
        generalize (⟨(Lib.itoa l[k].arity).toArray⟩ : ByteArray) = I at *
        generalize (⟨(joinRels (l.take k)).toArray⟩ : ByteArray) = J at *
        cases hsrc : l[k].source with
        | true =>
          rw [hsrc] at c2 HS
          rcases Nat.eq_zero_or_pos k with h0 | h0
          · have hg1 : decide ((0 : Int) < (k : Int)) = false := decide_eq_false (by omega)
            have hg2 : decide (0 < k) = false := decide_eq_false (by omega)
            have HS' := Lib.hid (HS.out ⟨#[43]⟩ (by rw [if_pos h0] <;> rfl))
            clear hsrc h0
            go_wp2
            refine wp_region_aft hW (by kernel_rfl) (by kernel_rfl) ?_
            repeat (go_big_quiet_step (((go_at_call 184; exact calls_aft (Nat.le_refl _) (hcon _)))))
            refine wpQuiet_nil ?_
            refine aft_end ?_
            intro w2 hh
            go_wp2
            go_roundw
            case rel => exact ⟨k + 1, by omega, by go_num, by rw [← HS'.out] <;> first | rfl | (simp only [ByteArray.append_assoc]; rfl), hh⟩
            case measure => simp [intOf]; omega
          · have hg1 : decide ((0 : Int) < (k : Int)) = true := decide_eq_true (by omega)
            have hg2 : decide (0 < k) = true := decide_eq_true (by omega)
            have HS' := Lib.hid (HS.out ⟨#[32, 43]⟩ (by rw [if_neg (show ¬ k = 0 by omega)] <;> rfl))
            clear hsrc h0
            go_wp2
            refine wp_region_aft hW (by kernel_rfl) (by kernel_rfl) ?_
            repeat (go_big_quiet_step (((go_at_call 184; exact calls_aft (Nat.le_refl _) (hcon _)))))
            refine wpQuiet_nil ?_
            refine aft_end ?_
            intro w2 hh
            go_wp2
            go_roundw
            case rel => exact ⟨k + 1, by omega, by go_num, by rw [← HS'.out] <;> first | rfl | (simp only [ByteArray.append_assoc]; rfl), hh⟩
            case measure => simp [intOf]; omega
        | false =>
          rw [hsrc] at c2 HS
          rcases Nat.eq_zero_or_pos k with h0 | h0
          · have hg1 : decide ((0 : Int) < (k : Int)) = false := decide_eq_false (by omega)
            have hg2 : decide (0 < k) = false := decide_eq_false (by omega)
            have HS' := Lib.hid (HS.out ⟨#[]⟩ (by rw [if_pos h0] <;> rfl))
            clear hsrc h0
            go_wp2
            refine wp_region_aft hW (by kernel_rfl) (by kernel_rfl) ?_
            repeat (go_big_quiet_step (((go_at_call 184; exact calls_aft (Nat.le_refl _) (hcon _)))))
            refine wpQuiet_nil ?_
            refine aft_end ?_
            intro w2 hh
            go_wp2
            go_roundw
            case rel => exact ⟨k + 1, by omega, by go_num, by rw [← HS'.out] <;> first | rfl | (simp only [ByteArray.append_assoc]; rfl), hh⟩
            case measure => simp [intOf]; omega
          · have hg1 : decide ((0 : Int) < (k : Int)) = true := decide_eq_true (by omega)
            have hg2 : decide (0 < k) = true := decide_eq_true (by omega)
            have HS' := Lib.hid (HS.out ⟨#[32]⟩ (by rw [if_neg (show ¬ k = 0 by omega)] <;> rfl))
            clear hsrc h0
            go_wp2
            refine wp_region_aft hW (by kernel_rfl) (by kernel_rfl) ?_
            repeat (go_big_quiet_step (((go_at_call 184; exact calls_aft (Nat.le_refl _) (hcon _)))))
            refine wpQuiet_nil ?_
            refine aft_end ?_
            intro w2 hh
            go_wp2
            go_roundw
            case rel => exact ⟨k + 1, by omega, by go_num, by rw [← HS'.out] <;> first | rfl | (simp only [ByteArray.append_assoc]; rfl), hh⟩
            case measure => simp [intOf]; omega
      · obtain rfl : k = l.length := by omega
        have HE := Lib.hid (HV.out.trans (congrArg joinRels (List.take_length (l := l)).symm))
        go_wp2
        go_ret
        exact ⟨ret_str (by rw [HE.out]), hW⟩

def sigs5 : List Rel := [⟨⟨#[97]⟩, 2, true⟩, ⟨⟨#[98]⟩, 1, true⟩, ⟨⟨#[112]⟩, 2, false⟩, ⟨⟨#[113]⟩, 2, false⟩, ⟨⟨#[114]⟩, 1, false⟩]
theorem l3Sigs_c (w : World) : Calls Tryz.prog 108 #[] w fun e w' => e = .returned (.slice (some ⟨w.heap.size, 0, none⟩) 5 5) ∧ w' = w.alloc (.cells (sigs5.flatMap relCells).toArray 113) := by
  go_enter Tryz.func108, Tryz.ntmps108
  go_wp2
  go_ret
  exact ⟨rfl, rfl⟩

def RelSmall (x : Rel) : Prop := x.name.size ≤ 2 ∧ -1 ≤ x.arity ∧ x.arity ≤ 4
/-- .. from a list of texts -/
theorem l1Pick_d (p : Nat) (cv : Value) (code : List UInt8) (st : DrawSt) (ls : List (List UInt8)) (m : Nat) (hm : ∀ x ∈ ls, x.length ≤ m) (w0 : World) (T : TypeId) (hz : 1 ≤ ls.length) (hz2 : ls.length ≤ 1000) (hp : p < w0.heap.size) (g : Nat) (hg : g = w0.heap.size) (n c : Nat) (hn : n = ls.length) (w : World) (hw : w = w0.alloc (.cells (ls.map strV).toArray T)) (hC : CurS w p cv code st) :
    Calls Tryz.prog 79 #[.pointer (some ⟨p, 0, none⟩), .slice (some ⟨g, 0, none⟩) n c] w fun e w' => ∃ s : ByteArray, s.size ≤ m ∧ Drawn w p cv code (.string s) e w' := by
  subst hg
  refine (l1Pick_r p cv code st ls w0 T hz hz2 hp w hw n c hn hC).mono ?_
  rintro e w' ⟨rfl, h1, h2⟩
  refine ⟨_, ?_, rfl, ⟨_, h1⟩, h2⟩
  show (pickR code st ls).1.toArray.size ≤ m
  unfold pickR
  dsimp only
  rw [List.size_toArray, List.getD]
  cases h : ls[(belowR code st ls.length).1.toNat]? with
  | none => simp
  | some x => exact hm x (List.mem_of_getElem? h)
set_option maxHeartbeats 800000 in
set_option maxRecDepth 100000 in
theorem l3One_c (p : Nat) (cv : Value) (code : List UInt8) (st : DrawSt) (w : World) (hC : CurS w p cv code st) :
    Calls Tryz.prog 175 #[.pointer (some ⟨p, 0, none⟩)] w fun e w' => ∃ x, RelSmall x ∧ Drawn w p cv code (relV x) e w' := by
  have hp := Cur.lt hC
  have hb := belowR_bd code
  have b0 := fun i => box_cell w #[.string ⟨#[]⟩, .int .i64 0, .bool false] 113 i
  go_enter Tryz.func175, Tryz.ntmps175
  go_wp2_with fail
  refine (l1Pick_d p cv code _ [[97], [122], [], [65], [97, 98], [112]] 2 (by simp) (w.alloc (.cells #[.string ⟨#[]⟩, .int .i64 0, .bool false] 113)) _ (by simp) (by simp) (by simp; omega) _ (by simp) _ _ rfl _ rfl (Cur.alloc (Cur.alloc hC _) _)).mono ?_
  rintro _ w1 ⟨s, hs, rfl, ⟨st1, hC1⟩, hg1⟩
  have hg1 := (World.grownBy_alloc _ _ _).trans hg1
  go_wp2_with fail
  have b1 := hb st1 6
  have b1' := b1.2 (by omega)
  refine (l1Below_r p cv code _ _ _ hC1).mono ?_; rintro e w2 ⟨rfl, hC2, hg2⟩
  have b1 := b1.1
  generalize belowR code st1 6 = a at *
  go_wp2_with fail
  refine (l1Once_r p cv code _ _ _ hC2).mono ?_; rintro e w3 ⟨rfl, hC3, hg3⟩
  generalize onceR code a.2 2 = c at *
  have HG := Lib.hid ((hg1.trans hg2).trans hg3)
  have hz := HG.out.size
  have hne : w.heap.size ≠ p := by omega
  have f0 := grown_cell HG.out ((b0 0).trans rfl) hne
  have f1 := grown_cell HG.out ((b0 1).trans rfl) hne
  have f2 := grown_cell HG.out ((b0 2).trans rfl) hne
  have fz := fun o => grown_frozen HG.out (o := o) (by simp) hne (World.frozen?_alloc_at _ _ _ _ rfl)
  have HB := Lib.hid b0
  clear b0 hb hC1 hg1 hC2 hg2 hg3
  go_wp2_with fail
  have hbw : Below w.heap.size w3 (((w3.setCell ⟨w.heap.size, 0, none⟩ (.string s)).setCell ⟨w.heap.size, 1, none⟩ (.int .i64 (a.1 - 1))).setCell ⟨w.heap.size, 2, none⟩ (.bool c.1)) := (((Below.refl _ _).setCell (p := ⟨w.heap.size, 0, none⟩) (Nat.le_refl _) _).setCell (p := ⟨w.heap.size, 1, none⟩) (Nat.le_refl _) _).setCell (p := ⟨w.heap.size, 2, none⟩) (Nat.le_refl _) _
  refine bodyPost_ret (v := relV ⟨s, a.1 - 1, c.1⟩) (by simp [results, Tryz.results175, go_sem, f0, f1, f2, relV]) rfl ⟨_, ⟨hs, ?_, ?_⟩, rfl, ⟨_, Cur.below hC hC3 hbw⟩, grown_of_below ((World.grownBy_alloc _ _ _).trans HG.out) hbw⟩
  · show -1 ≤ a.1 - 1; omega
  · show a.1 - 1 ≤ 4; omega

def RelsSmall (l : List Rel) : Prop := l.length ≤ 7 ∧ ∀ x ∈ l, RelSmall x
theorem sigs5_small : RelsSmall sigs5 := by
  refine ⟨by decide, fun x hx => ?_⟩
  simp only [sigs5, List.mem_cons, List.not_mem_nil, or_false] at hx
  rcases hx with rfl | rfl | rfl | rfl | rfl <;> exact ⟨by decide, by decide, by decide⟩
theorem sigs5_own (w : World) : OwnRels w.heap.size (.slice (some ⟨w.heap.size, 0, none⟩) 5 5) sigs5 (w.alloc (.cells (sigs5.flatMap relCells).toArray 113)) := by
  have := World.ownsRow_lit w (sigs5.flatMap relCells).toArray (base := w.heap.size) (e := 113) (size := 3) 5 (Nat.le_refl _) (by decide) rfl
  exact this
theorem OwnRels.grown {B : Nat} {v : Value} {l : List Rel} {w w' : World} {p : Nat} (h : OwnRels B v l w) (hg : w.grownBy w' (some p)) (hp : p < B) : OwnRels B v l w' :=
  World.ownsRow.kept h hg (by
    cases hv : v.ownBlock with
    | none => exact Or.inl rfl
    | some k => right; intro he; injection he with he; have := (World.ownsRow.lt h k hv).1; omega)

set_option maxHeartbeats 1600000 in
set_option maxRecDepth 100000 in
theorem drawRels_c (cv : Value) (code : List UInt8) (w : World) (hc : CodeAt w w.heap.size cv code) (hlen : code.length ≤ 1048576) :
    Calls Tryz.prog 97 #[cv] w fun e w' => ∃ v l, e = .returned v ∧ RelsSmall l ∧ RelsAt w' w'.heap.size v l ∧ Below w.heap.size w w' := by
  have hb := belowR_bd code
  go_enter Tryz.func97, Tryz.ntmps97
  go_wp2_with fail
  refine (l1New_c cv code _ hc hlen).mono ?_; rintro e w1 ⟨rfl, hb1, hC1⟩
  go_wp2_with fail
  refine (l3Sigs_c _).mono ?_; rintro e w2 ⟨rfl, hw2⟩
  have hO := sigs5_own w1
  rw [← hw2] at hO
  have hC2 : CurS w2 w.heap.size cv code (st0 code) := by rw [hw2]; exact Cur.alloc hC1 _
  have hB2 : Below w.heap.size w w2 := by rw [hw2]; exact hb1.alloc hb1.size _
  have hz2 : w1.heap.size < w2.heap.size := by rw [hw2]; simp
  have hz1 := hb1.size
  clear hw2
  go_wp2_with fail
  have a1 := (hb (st0 code) 5)
  have a2 := a1.2 (by omega)
  have a1 := a1.1
  refine (l1Below_r _ cv code _ _ _ hC2).mono ?_; rintro e w3 ⟨rfl, hC3, hg3⟩
  generalize belowR code (st0 code) 5 = a at *
  have hO3 := hO.grown hg3 (show w.heap.size < w1.heap.size from Cur.lt hC1)
  have hB3 : Below w.heap.size w w3 := below_of_draw hB2 hg3
  have hz3 := hg3.size
  have hp1 := Cur.lt hC1
  generalize a.1 = n at *
  clear hO hC2 hB2 hg3 hC1 hb1
  have hn : n = 0 ∨ n = 1 ∨ n = 2 ∨ 3 ≤ n := by omega
  rcases hn with rfl | rfl | rfl | hn
  · go_wp2_with fail
    have j1 := hb a.2 5
    have j2 := j1.2 (by omega)
    have j1 := j1.1
    refine (l1Below_r _ cv code _ _ _ hC3).mono ?_; rintro e w4 ⟨rfl, hC4, hg4⟩
    generalize belowR code a.2 5 = b at *
    obtain ⟨j, hj⟩ := Int.eq_ofNat_of_zero_le j1
    rw [hj]
    have hj5 : j < 5 := by omega
    have HJ := Lib.hid hj
    clear hj j1 j2
    go_wp2_with fail
    refine (l3One_c _ cv code _ _ hC4).mono ?_; rintro e w5 ⟨x, hx, rfl, -, hg5⟩
    have hO5 := (hO3.grown hg4 hp1).grown hg5 hp1
    have hB5 := below_of_draw (below_of_draw hB3 hg4) hg5
    obtain ⟨c0, c1, c2⟩ := hO5.cells rfl j hj5
    have cz := hO5.frozen rfl
    have HS := Lib.hid (hO5.set rfl j hj5 x)
    have hBf := ((hB5.setCell (p := ⟨w1.heap.size, j * 3, none⟩) hz1 (.string x.name)).setCell (p := ⟨w1.heap.size, j * 3 + 1, none⟩) hz1 (.int .i64 x.arity)).setCell (p := ⟨w1.heap.size, j * 3 + 2, none⟩) hz1 (.bool x.source)
    unfold relV
    clear hO3 hO5 hB3 hB5 hb
    go_wp2_with fail
    go_ret
    refine ⟨_, _, rfl, ⟨by simp [sigs5], fun y hy => ?_⟩, HS.out.at_, hBf⟩
    rcases List.mem_or_eq_of_mem_set hy with h | rfl
    · exact sigs5_small.2 y h
    · exact hx
  · have HO := Lib.hid (hO3.grown ((World.grownBy_alloc w3 (.cells #[.string ⟨#[115]⟩, .int .i64 1, .bool false, .string ⟨#[116]⟩, .int .i64 1, .bool false] 113) (some w.heap.size))) hp1)
    have HR : Hid (RelsAt (w3.alloc (.cells #[.string ⟨#[115]⟩, .int .i64 1, .bool false, .string ⟨#[116]⟩, .int .i64 1, .bool false] 113)) (w3.heap.size + 1) (.slice (some ⟨w3.heap.size, 0, none⟩) [(⟨⟨#[115]⟩, 1, false⟩ : Rel), ⟨⟨#[116]⟩, 1, false⟩].length 2) [⟨⟨#[115]⟩, 1, false⟩, ⟨⟨#[116]⟩, 1, false⟩]) := by
      refine ⟨_, _, rfl, Nat.le_refl _, by simp [maxLen], fun _ => ⟨_, _, rfl, by omega, ?_⟩, fun h => by cases h⟩
      intro j u hu
      rw [Nat.zero_add, box_cell]
      simpa [relCells] using hu
    have hz4 : w1.heap.size ≤ (w3.alloc (.cells #[.string ⟨#[115]⟩, .int .i64 1, .bool false, .string ⟨#[116]⟩, .int .i64 1, .bool false] 113)).heap.size := by simp; omega
    have HB := Lib.hid (hB3.alloc hB3.size (.cells #[.string ⟨#[115]⟩, .int .i64 1, .bool false, .string ⟨#[116]⟩, .int .i64 1, .bool false] 113))
    clear hO3 hB3 hb
    go_wp2_with (at_builtin; refine rels_apps (r := [⟨⟨#[115]⟩, 1, false⟩, ⟨⟨#[116]⟩, 1, false⟩]) HO.out rfl _ _ rfl rfl (some ⟨w3.heap.size, 0, none⟩) 2 2 rfl rfl HR.out (fun h => by cases h) (by decide) hz4 ?_; intro v5 w5 hO5 hB5 _ _)
    go_ret
    refine ⟨_, _, rfl, ⟨by decide, fun y hy => ?_⟩, hO5.at_, HB.out.trans (hB5.mono hz1)⟩
    rcases List.mem_append.1 hy with h | h
    · exact sigs5_small.2 y h
    · simp only [List.mem_cons, List.not_mem_nil, or_false] at h
      rcases h with rfl | rfl <;> exact ⟨by decide, by decide, by decide⟩
  · go_wp2_with fail
    have j1 := hb a.2 5
    have j2 := j1.2 (by omega)
    have j1 := j1.1
    refine (l1Below_r _ cv code _ _ _ hC3).mono ?_; rintro e w4 ⟨rfl, hC4, hg4⟩
    generalize belowR code a.2 5 = b at *
    obtain ⟨j, hj⟩ := Int.eq_ofNat_of_zero_le j1
    rw [hj]
    have hj5 : j < 5 := by omega
    have HJ := Lib.hid hj
    have HS := Lib.hid (SliceAt.drop (l := sigs5) (off := 0) (c := 5) relCells_len (hO3.grown hg4 hp1).at_ j (by show j ≤ 5; omega))
    have HB := Lib.hid (below_of_draw hB3 hg4)
    clear hj j1 j2 hO3 hB3 hb
    go_wp2_with fail
    go_ret
    refine ⟨_, sigs5.drop j, rfl, ⟨?_, fun y hy => sigs5_small.2 y (List.mem_of_mem_drop hy)⟩, ?_, HB.out⟩
    · rw [List.length_drop]; show 5 - j ≤ 7; omega
    · have h := HS.out
      rw [List.length_drop, Nat.zero_add] at h
      exact h
  · have e0 : (n == 0) = false := beq_eq_false_iff_ne.2 (by omega)
    have e1 : (n == 1) = false := beq_eq_false_iff_ne.2 (by omega)
    have e2 : (n == 2) = false := beq_eq_false_iff_ne.2 (by omega)
    go_wp2_with fail
    go_ret
    exact ⟨_, _, rfl, sigs5_small, hO3.at_, hB3⟩
set_option maxHeartbeats 400000 in
theorem drawRels2_c (cv : Value) (code : List UInt8) (w : World) (hc : CodeAt w w.heap.size cv code) (hlen : code.length ≤ 1048576) :
    Calls Tryz.prog 29 #[cv] w fun e w' => ∃ v l, e = .returned v ∧ RelsSmall l ∧ RelsAt w' w'.heap.size v l ∧ Below w.heap.size w w' := by
  go_enter Tryz.func29, Tryz.ntmps29
  go_wp2_with fail
  refine (drawRels_c cv code _ hc hlen).mono ?_; rintro e w1 ⟨v, l, rfl, hl, hR, hb⟩
  go_wp2_with fail
  go_ret
  exact ⟨_, _, rfl, hl, hR, hb⟩

theorem spoilR_len (code : List UInt8) (st : DrawSt) (s : List UInt8) : (spoilR code st s).1.length ≤ s.length + 3 := by
  unfold spoilR
  split
  · have := textR_len code st 3 (by decide)
    have h : (3 : Int).toNat = 3 := rfl
    omega
  · dsimp only
    split
    · simp; omega
    · split
      · simp; omega
      · split
        · simp; omega
        · simp; omega
set_option maxHeartbeats 1600000 in
set_option maxRecDepth 100000 in
theorem drawRelStr_c (cv : Value) (code : List UInt8) (w : World) (hc : CodeAt w w.heap.size cv code) (hlen : code.length ≤ 1048576) :
    Calls Tryz.prog 32 #[cv] w fun e w' => ∃ s : ByteArray, e = .returned (.string s) ∧ s.size ≤ 40 ∧ Below w.heap.size w w' := by
  go_enter Tryz.func32, Tryz.ntmps32
  go_wp2_with fail
  refine (l1New_c cv code _ hc hlen).mono ?_; rintro e w1 ⟨rfl, hb1, hC1⟩
  go_wp2_with fail
  refine (drawRels_c cv code _ (hc.later hb1) hlen).mono ?_; rintro e w2 ⟨v, l, rfl, hl, hR, hb2⟩
  go_wp2_with fail
  refine (specFormatRelations_any v l _ hR).mono ?_; rintro e w3 ⟨rfl, hb3⟩
  have hL := fmtRels_len l
  have hz1 := hb1.size
  have hz2 := hb2.size
  have hb3' : Below w1.heap.size w1 w3 := hb2.trans (hb3.mono hz2)
  have hC3 : CurS w3 w.heap.size cv code (st0 code) := Cur.below hC1 hC1 hb3'
  have HB := Lib.hid (hb1.trans (hb3'.mono hz1))
  have hp := Cur.lt hC1
  clear hb1 hb2 hb3 hb3' hR hl
  generalize fmtRels l = t at *
  go_wp2_with fail
  refine (l1Once_r _ cv code _ _ _ hC3).mono ?_; rintro e w4 ⟨rfl, hC4, hg4⟩
  generalize onceR code (st0 code) 3 = d at *
  obtain ⟨d, st4⟩ := d
  dsimp only at *
  have HB4 := Lib.hid (below_of_draw HB.out hg4)
  have hts : ByteArray.size ⟨t.toArray⟩ = t.length := by simp [ByteArray.size]
  cases d with
  | true =>
    have HTS := Lib.hid hts
    clear hts
    go_wp2_with fail
    refine (l1Spoil_r _ cv code _ ⟨t.toArray⟩ (by rw [HTS.out]; omega) _ hC4).mono ?_; rintro e w5 ⟨rfl, hC5, hg5⟩
    have hsl := spoilR_len code st4 t
    rw [show (⟨t.toArray⟩ : ByteArray).data.toList = t from rfl] at hC5 ⊢
    generalize spoilR code st4 t = sp at *
    obtain ⟨sp, st5⟩ := sp
    dsimp only at *
    go_wp2_with fail
    refine (l1Pick_d _ cv code _ [[], [43], [97], [97, 48], [97, 52], [98, 49, 32, 97, 49], [97, 49, 32], [43, 97, 49, 32, 43, 97, 50], [43, 43, 97, 49], sp] 40 (fun x hx => ?_) w5 _ (by simp) (by simp) (Cur.lt hC5) _ rfl _ _ (by simp) _ rfl (Cur.alloc hC5 _)).mono ?_
    · simp only [List.mem_cons, List.not_mem_nil, or_false] at hx
      rcases hx with rfl | rfl | rfl | rfl | rfl | rfl | rfl | rfl | rfl | rfl <;> first | decide | omega
    rintro e w6 ⟨s, hs, rfl, -, hg6⟩
    go_wp2_with fail
    go_ret
    exact ⟨_, rfl, hs, below_of_draw HB4.out (hg5.trans ((World.grownBy_alloc _ _ _).trans hg6))⟩
  | false =>
    go_wp2_with fail
    go_ret
    exact ⟨_, rfl, by rw [hts]; omega, HB4.out⟩

end Go.Proofs.YtmecdjincmkofaaGreatDoor
