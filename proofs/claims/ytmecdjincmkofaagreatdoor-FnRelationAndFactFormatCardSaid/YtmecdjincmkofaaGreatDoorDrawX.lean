/-
  Walks and plain lemmas for the laws of this seat: what single Go functions return, for every argument.
-/
import Derived.Test.YtmecdjincmkofaaGreatDoorFmtRS
import Derived.Test.YtmecdjincmkofaaGreatDoorDrawA
import Derived.Test.YtmecdjincmkofaaGreatDoorFmtFS
namespace Go.Proofs.YtmecdjincmkofaaGreatDoor
open Go.RowKit

set_option maxHeartbeats 800000 in
set_option maxRecDepth 100000 in
theorem drawFact_c (cv : Value) (code : List UInt8) (w : World) (hc : CodeAt w w.heap.size cv code) (hlen : code.length ≤ 1048576) :
    Calls Tryz.prog 102 #[cv] w fun e w' => ∃ v V x, e = .returned (.tuple #[v, .agg #[.int .i64 x.rel, V]]) ∧ OwnRels w.heap.size v sigs5 w' ∧ OwnInts w.heap.size V x.vals w' ∧ FctSmall x ∧ Below w.heap.size w w' := by
  go_enter Tryz.func102, Tryz.ntmps102
  go_wp2_with fail
  refine (l3Sigs_c _).mono ?_; rintro e w2 ⟨rfl, hw2⟩
  have hO2 := sigs5_own (w.alloc (.cells #[.int .i64 0, .slice none 0 0] 57))
  rw [← hw2, show (w.alloc (.cells #[.int .i64 0, .slice none 0 0] 57)).heap.size = w.heap.size + 1 by simp] at hO2
  have hB2 : Below w.heap.size w w2 := by rw [hw2]; exact below_more (below_more (Below.refl _ _) _) _
  have b0 : w2.cell? ⟨w.heap.size, 0, none⟩ = some (.int .i64 0) := by rw [hw2]; simp [go_sem]
  have b1 : w2.cell? ⟨w.heap.size, 1, none⟩ = some (.slice none 0 0) := by rw [hw2]; simp [go_sem]
  have bz : ∀ o, w2.frozen? ⟨w.heap.size, o, none⟩ = false := by intro o; rw [hw2]; simp [go_sem]
  have hz2 : w2.heap.size = w.heap.size + 2 := by rw [hw2]; simp
  have HO2 := Lib.hid hO2
  have HZ := Lib.hid hz2
  have HB2 := Lib.hid hB2
  have B0 := Lib.hid b0
  have B1 := Lib.hid b1
  have BZ := Lib.hid bz
  clear hO2 hw2 hz2 hB2 b0 b1 bz
  go_wp2_with fail
  refine (l1New_c cv code _ (hc.later HB2.out) hlen).mono ?_; rintro e w3 ⟨rfl, hb3, hC3⟩
  go_wp2_with fail
  refine (l4Any_c _ cv code _ _ hC3).mono ?_; rintro e w4 ⟨r, V, vs, rfl, hr, hO, hl, hvs, -, hg4⟩
  have hb4 := below_of_draw hb3 hg4
  obtain ⟨P4, c4, rfl, hl4, hm4, -⟩ := hO.at_
  have hwz := HZ.out
  have m0 := (hb4.cell (p := ⟨w.heap.size, 0, none⟩) (by show w.heap.size < _; omega)).trans B0.out
  have m1 := (hb4.cell (p := ⟨w.heap.size, 1, none⟩) (by show w.heap.size < _; omega)).trans B1.out
  have mz := fun o => (hb4.frozen (p := ⟨w.heap.size, o, none⟩) (by show w.heap.size < _; omega)).trans (BZ.out o)
  have HB4 := Lib.hid hb4
  have HO := Lib.hid hO
  have hz3 := hb3.size
  clear hb4 hg4 hb3 hO hwz
  go_wp2_with fail
  have hcw : Chg (fun q => q = w.heap.size) w4 ((w4.setCell ⟨w.heap.size, 0, none⟩ (.int .i64 r)).setCell ⟨w.heap.size, 1, none⟩ (.slice P4 vs.length c4)) := ((Chg.refl (fun q => q = w.heap.size) _).setCell (p := ⟨w.heap.size, 0, none⟩) rfl _).setCell (p := ⟨w.heap.size, 1, none⟩) rfl _
  have hz := HZ.out
  have hb4 := HB4.out
  have h1 : OwnRels (w.heap.size + 1) (.slice (some ⟨w.heap.size + 1, 0, none⟩) 5 5) sigs5 ((w4.setCell ⟨w.heap.size, 0, none⟩ (.int .i64 r)).setCell ⟨w.heap.size, 1, none⟩ (.slice P4 vs.length c4)) := hcw.row (HO2.out.below hb4 (Nat.le_refl _)) (fun q hq e => by have := (World.ownsRow.lt HO2.out q hq).1; omega)
  have h2 := HO.out.chg hcw (fun q hq e => by have := (HO.out.lt q hq).1; omega)
  refine bodyPost_ret (v := .tuple #[.slice (some ⟨w.heap.size + 1, 0, none⟩) 5 5, .agg #[.int .i64 r, .slice P4 vs.length c4]]) (by simp [results, Tryz.results102, go_sem, m0, m1]) rfl ⟨_, _, ⟨r, vs⟩, rfl, h1.mono (by omega), h2.mono (by omega), ⟨hr, hl, hvs⟩, ?_⟩
  exact ((HB2.out.trans (hb4.mono (by omega))).setCell (p := ⟨w.heap.size, 0, none⟩) (Nat.le_refl _) _).setCell (p := ⟨w.heap.size, 1, none⟩) (Nat.le_refl _) _
set_option maxHeartbeats 800000 in
set_option maxRecDepth 100000 in
theorem drawFact2_c (cv : Value) (code : List UInt8) (w : World) (hc : CodeAt w w.heap.size cv code) (hlen : code.length ≤ 1048576) :
    Calls Tryz.prog 35 #[cv] w fun e w' => ∃ v V x, e = .returned (.tuple #[v, .agg #[.int .i64 x.rel, V]]) ∧ OwnRels w.heap.size v sigs5 w' ∧ OwnInts w.heap.size V x.vals w' ∧ FctSmall x ∧ Below w.heap.size w w' := by
  go_enter Tryz.func35, Tryz.ntmps35
  go_wp2_with fail
  refine (drawFact_c cv code _ (hc.later ((Below.refl _ _).alloc (Nat.le_refl _) _)) hlen).mono ?_
  rintro e w2 ⟨v, V, x, rfl, hR, hO, hx, hb⟩
  obtain ⟨P1, c1, hv1, -⟩ := hR.at_
  subst hv1
  obtain ⟨P4, c4, rfl, hl4, hm4, -⟩ := hO.at_
  have hsA : (w.alloc (.cells #[.int .i64 0, .slice none 0 0] 57)).heap.size = w.heap.size + 1 := by simp
  rw [hsA] at hR hO hb
  have m0 := (hb.cell (p := ⟨w.heap.size, 0, none⟩) (by show w.heap.size < _; omega)).trans (show (w.alloc (.cells #[.int .i64 0, .slice none 0 0] 57)).cell? ⟨w.heap.size, 0, none⟩ = some (.int .i64 0) by simp [go_sem])
  have m1 := (hb.cell (p := ⟨w.heap.size, 1, none⟩) (by show w.heap.size < _; omega)).trans (show (w.alloc (.cells #[.int .i64 0, .slice none 0 0] 57)).cell? ⟨w.heap.size, 1, none⟩ = some (.slice none 0 0) by simp [go_sem])
  have mz := fun o => (hb.frozen (p := ⟨w.heap.size, o, none⟩) (by show w.heap.size < _; omega)).trans (show (w.alloc (.cells #[.int .i64 0, .slice none 0 0] 57)).frozen? ⟨w.heap.size, o, none⟩ = false by simp [go_sem])
  have HR := Lib.hid hR
  have HO := Lib.hid hO
  have HB := Lib.hid (((Below.refl w.heap.size w).alloc (Nat.le_refl _) (.cells #[.int .i64 0, .slice none 0 0] 57)).trans (hb.mono (by omega)))
  clear hR hO hb hsA
  go_wp2_with fail
  have hcw : Chg (fun q => q = w.heap.size) w2 ((w2.setCell ⟨w.heap.size, 0, none⟩ (.int .i64 x.rel)).setCell ⟨w.heap.size, 1, none⟩ (.slice P4 x.vals.length c4)) := ((Chg.refl (fun q => q = w.heap.size) _).setCell (p := ⟨w.heap.size, 0, none⟩) rfl _).setCell (p := ⟨w.heap.size, 1, none⟩) rfl _
  have h1 : OwnRels (w.heap.size + 1) (.slice P1 sigs5.length c1) sigs5 ((w2.setCell ⟨w.heap.size, 0, none⟩ (.int .i64 x.rel)).setCell ⟨w.heap.size, 1, none⟩ (.slice P4 x.vals.length c4)) := hcw.row HR.out (fun q hq e => by have := (World.ownsRow.lt HR.out q hq).1; omega)
  have h2 := HO.out.chg hcw (fun q hq e => by have := (HO.out.lt q hq).1; omega)
  refine bodyPost_ret (v := .tuple #[.slice P1 sigs5.length c1, .agg #[.int .i64 x.rel, .slice P4 x.vals.length c4]]) (by simp [results, Tryz.results35, go_sem, m0, m1]) rfl ⟨_, _, x, rfl, h1.mono (by omega), h2.mono (by omega), hx, ?_⟩
  exact (HB.out.setCell (p := ⟨w.heap.size, 0, none⟩) (Nat.le_refl _) _).setCell (p := ⟨w.heap.size, 1, none⟩) (Nat.le_refl _) _

set_option maxHeartbeats 1600000 in
set_option maxRecDepth 100000 in
theorem drawFactStr_c (cv : Value) (code : List UInt8) (w : World) (hc : CodeAt w w.heap.size cv code) (hlen : code.length ≤ 1048576) :
    Calls Tryz.prog 38 #[cv] w fun e w' => ∃ v, ∃ s : ByteArray, e = .returned (.tuple #[v, .string s]) ∧ RelsAt w' w'.heap.size v sigs5 ∧ s.size ≤ 40 ∧ Below w.heap.size w w' := by
  go_enter Tryz.func38, Tryz.ntmps38
  go_wp2_with fail
  refine (l1New_c cv code _ hc hlen).mono ?_; rintro e w1 ⟨rfl, hb1, hC1⟩
  go_wp2_with fail
  refine (l3Sigs_c _).mono ?_; rintro e w2 ⟨rfl, hw2⟩
  have hO2 := sigs5_own w1
  rw [← hw2] at hO2
  have hC2 : CurS w2 w.heap.size cv code (st0 code) := by rw [hw2]; exact Cur.alloc hC1 _
  have hb2 : Below w.heap.size w w2 := by rw [hw2]; exact hb1.alloc hb1.size _
  clear hw2
  go_wp2_with fail
  refine (l4Any_c _ cv code _ _ hC2).mono ?_; rintro e w3 ⟨r, V, vs, rfl, hr, hO, hl, hvs, ⟨st3, hC3⟩, hg3⟩
  have hp := Cur.lt hC1
  have hO3 := hO2.grown hg3 hp
  have hb3 := below_of_draw hb2 hg3
  have hz1 := hb1.size
  go_wp2_with fail
  refine (specFormatFact_any _ sigs5 r V vs _ hO3.at_ (by decide) hO.at_ (fun i hi => by have := hvs _ (List.getElem_mem hi); omega)).mono ?_; rintro e w4 ⟨rfl, hb4⟩
  have hL := fmtFact_len sigs5 r vs hl
  have hz3 := hg3.size
  have hB4 := Lib.hid (hb3.trans (hb4.mono hb3.size))
  have hC4 : CurS w4 w.heap.size cv code st3 := Cur.below hC3 hC3 hb4
  clear hb3 hb4 hO3 hO2 hO hg3 hb2 hb1 hC1 hC2 hC3
  generalize fmtFact sigs5 r vs = t at *
  go_wp2_with fail
  refine (l1Once_r _ cv code _ _ _ hC4).mono ?_; rintro e w5 ⟨rfl, hC5, hg5⟩
  generalize onceR code st3 3 = d at *
  obtain ⟨d, st5⟩ := d
  dsimp only at *
  have HB5 := Lib.hid (below_of_draw hB4.out hg5)
  have hts : ByteArray.size ⟨t.toArray⟩ = t.length := by simp [ByteArray.size]
  cases d with
  | true =>
    have HTS := Lib.hid hts
    clear hts hg5
    go_wp2_with fail
    refine (l3Sigs_c _).mono ?_; rintro e w6 ⟨rfl, hw6⟩
    have hO6 := sigs5_own w5
    rw [← hw6] at hO6
    have hC6 : CurS w6 w.heap.size cv code st5 := by rw [hw6]; exact Cur.alloc hC5 _
    have hb6 : Below w.heap.size w w6 := by rw [hw6]; exact HB5.out.alloc HB5.out.size _
    have hp5 := Cur.lt hC5
    have HO6 := Lib.hid hO6
    have HB6 := Lib.hid hb6
    clear hw6 hO6 hb6
    go_wp2_with fail
    refine (l1Spoil_r _ cv code _ ⟨t.toArray⟩ (by rw [HTS.out]; omega) _ hC6).mono ?_; rintro e w7 ⟨rfl, hC7, hg7⟩
    have hsl := spoilR_len code st5 t
    rw [show (⟨t.toArray⟩ : ByteArray).data.toList = t from rfl] at hC7 ⊢
    generalize spoilR code st5 t = sp at *
    obtain ⟨sp, st7⟩ := sp
    dsimp only at *
    go_wp2_with fail
    refine (l1Pick_d _ cv code _ [[], [97, 40, 41], [97, 40, 49, 41], [97, 40, 49, 44, 50], [98, 40, 110, 48, 41], [98, 91, 49, 93], [122, 40, 49, 41], [98, 40, 49, 41, 32], [97, 40, 49, 44, 110, 48, 50, 41], sp] 40 (fun x hx => ?_) w7 _ (by simp) (by simp) (Cur.lt hC7) _ rfl _ _ (by simp) _ rfl (Cur.alloc hC7 _)).mono ?_
    · simp only [List.mem_cons, List.not_mem_nil, or_false] at hx
      rcases hx with rfl | rfl | rfl | rfl | rfl | rfl | rfl | rfl | rfl | rfl <;> first | decide | omega
    rintro e w8 ⟨s, hs, rfl, -, hg8⟩
    have hg := hg7.trans ((World.grownBy_alloc _ _ _).trans hg8)
    go_wp2_with fail
    refine bodyPost_ret (v := .tuple #[.slice (some ⟨w5.heap.size, 0, none⟩) 5 5, .string s]) (by simp [results, Tryz.results38, go_sem]) rfl ⟨_, s, rfl, (HO6.out.grown hg hp5).at_, hs, below_of_draw HB6.out hg⟩
  | false =>
    clear hg5
    go_wp2_with fail
    refine (l3Sigs_c _).mono ?_; rintro e w6 ⟨rfl, hw6⟩
    have hO6 := sigs5_own w5
    rw [← hw6] at hO6
    have hb6 : Below w.heap.size w w6 := by rw [hw6]; exact HB5.out.alloc HB5.out.size _
    clear hw6
    go_wp2_with fail
    refine bodyPost_ret (v := .tuple #[.slice (some ⟨w5.heap.size, 0, none⟩) 5 5, .string ⟨t.toArray⟩]) (by simp [results, Tryz.results38, go_sem]) rfl ⟨_, _, rfl, hO6.at_, by rw [hts]; omega, hb6⟩

end Go.Proofs.YtmecdjincmkofaaGreatDoor
