/-
  Walks and plain lemmas for the laws of this seat: what single Go functions return, for every argument.
-/
import Derived.Shelf.Abstract
import Derived.Test.YtchlelkhpahakaaPlan
import Derived.Test.YtchlelkhpahakaaAft
import Derived.Test.YtchlelkhpahakaaTyInst
import Derived.Test.YtchlelkhpahakaaMInst
import Derived.Test.YtchlelkhpahakaaFactVI
import Derived.Test.YtchlelkhpahakaaDelF
namespace Go.Proofs.Ytchlelkhpahakaa
open Go.RowKit

/-- ahead of a all is less, from b on nothing is -/
def BsTo (f : Fct) (l : List Fct) (a b : Nat) : Prop := (∀ h : 0 < a ∧ a - 1 < l.length, cmpF l[a - 1] f < 0) ∧ (∀ h : b < l.length, ¬ cmpF l[b] f < 0)
theorem BsTo.up {f : Fct} {l : List Fct} {a b h : Nat} (hb : BsTo f l a b) (hh : h < l.length) (hz : cmpF l[h] f < 0) : BsTo f l (h + 1) b := ⟨fun _ => by simpa using hz, hb.2⟩
theorem BsTo.down {f : Fct} {l : List Fct} {a b h : Nat} (hb : BsTo f l a b) (hh : h < l.length) (hz : ¬ cmpF l[h] f < 0) : BsTo f l a h := ⟨hb.1, fun _ => hz⟩
set_option maxHeartbeats 3200000 in
set_option maxRecDepth 100000 in
theorem implBs_any (l : List Fct) (f : Fct) (v u : Value) (w : World) (hl : FactS_at w w.heap.size v l) (hf : Fact_at w w.heap.size u f) (hn : l.length ≤ 1048576) :
    Calls Try.prog 63 #[v, u, .func (.func 38) #[] #[]] w fun e w' => ∃ (p : Nat) (b : Bool), e = .returned (.tuple #[.int .i64 p, .bool b]) ∧ BsPos f l p ∧ Below w.heap.size w w' := by
  have HL := Lib.hid hl
  have HY := Lib.hid hf
  obtain ⟨A, c, rfl, hlc, hcm⟩ := hl.form
  obtain ⟨P, d, rfl⟩ := Fact_form hf
  unfold maxLen at hcm
  clear hl hf
  have eg : ∀ args w, (callFunc 38 args).run Try.prog w = .ok (.enter 38 args) w := enters_of Try.func38 (by kernel_rfl) rfl
  obtain ⟨E, hEq⟩ : ∃ E, E = w.alloc (.cells #[.int .i64 f.rel, .slice P f.vals.length d] 31) := ⟨_, rfl⟩
  have hE : Below w.heap.size w E := by rw [hEq]; exact below_more (Below.refl _ _) _
  have hEz : w.heap.size < E.heap.size := by rw [hEq]; simp
  have K0 := Lib.hid (show E.cell? ⟨w.heap.size, 0, none⟩ = some (.int .i64 f.rel) by rw [hEq]; simp [go_sem])
  have K1 := Lib.hid (show E.cell? ⟨w.heap.size, 1, none⟩ = some (.slice P f.vals.length d) by rw [hEq]; simp [go_sem])
  go_enter Try.func63, Try.ntmps63
  go_wp2
  rw [← hEq]
  clear hEq
  go_loopw [9, 10] (fun i j wr => ∃ a b : Nat, a ≤ b ∧ b ≤ l.length ∧ i = .int .i64 a ∧ j = .int .i64 b ∧ Hid (BsTo f l a b) ∧ Below E.heap.size E wr) (fun i j _ => (intOf j).toNat - (intOf i).toNat)
  case atStart => exact ⟨0, l.length, by omega, by omega, rfl, rfl, Lib.hid ⟨fun h => absurd h.1 (by omega), fun h => absurd h (by omega)⟩, Below.refl _ _⟩
  case round =>
    obtain ⟨a, b, hab, hbl, rfl, rfl, HB, hW⟩ := hrel
    have hWw := hE.trans (hW.mono hE.size)
    have hz := hW.size
    have G0 := Aft.cell (B := wr.heap.size) (w := wr) (show w.heap.size < _ by omega) ((hW.cell (p := ⟨w.heap.size, 0, none⟩) hEz).trans K0.out)
    have G1 := Aft.cell (B := wr.heap.size) (w := wr) (show w.heap.size < _ by omega) ((hW.cell (p := ⟨w.heap.size, 1, none⟩) hEz).trans K1.out)
    by_cases hlt : a < b
    · obtain ⟨h, hh⟩ : ∃ h, h = (a + b) / 2 := ⟨_, rfl⟩
      have h1 : a ≤ h := by omega
      have h2 : h < b := by omega
      have hlh : h < l.length := by omega
      have hhi : ((a : Int) + (b : Int)) / 2 = (h : Int) := by omega
      obtain ⟨q, off, V, rfl, hb, c0, c1, hV⟩ := FactS_at.elem HL.out h hlh
      obtain ⟨PV, cV, rfl, -⟩ := id hV
      have HV := Lib.hid hV
      have C0 := Aft.cell (B := wr.heap.size) (w := wr) (show q < _ by omega) ((hWw.cell (p := ⟨q, off + h * 2, none⟩) hb).trans c0)
      have C1 := Aft.cell (B := wr.heap.size) (w := wr) (show q < _ by omega) ((hWw.cell (p := ⟨q, off + h * 2 + 1, none⟩) hb).trans c1)
      obtain ⟨z, hzz⟩ : ∃ z, cmpF l[h] f = z := ⟨_, rfl⟩
      have hcon := fun (u : Aft wr.heap.size wr) => implCompareFacts_at l[h] f z hzz (.agg #[.int .i64 l[h].rel, .slice PV l[h].vals.length cV]) (.agg #[.int .i64 f.rel, .slice P f.vals.length d]) u.now ⟨_, rfl, SliceAt.aft HV.out hWw u⟩ ((HY.out.below (hWw.trans (u.is.mono hWw.size)) (Nat.le_refl _)).more (hWw.trans (u.is.mono hWw.size)).size)
      clear hV c0 c1 hh
      by_cases hz0 : z < 0
      · have hdz : decide (z < 0) = true := decide_eq_true hz0
        have HN := Lib.hid (HB.out.up hlh (by rw [hzz]; exact hz0))
        clear hz0 hzz
        go_wp2
        refine wp_region_aft (Below.refl wr.heap.size wr) (by kernel_rfl) (by kernel_rfl) ?_
        repeat (go_big_quiet_step (((go_at_fn 38; exact calls_aft (Nat.le_refl _) (hcon _)))))
        refine wpQuiet_nil ?_
        refine aft_end ?_
        intro w2 hh2
        go_wp2
        go_roundw
        case rel => exact ⟨h + 1, b, by omega, hbl, by go_num, rfl, HN, hW.trans (hh2.mono hz)⟩
        case measure => simp [intOf]; omega
      · have hdz : decide (z < 0) = false := decide_eq_false hz0
        have HN := Lib.hid (HB.out.down hlh (by rw [hzz]; exact hz0))
        clear hz0 hzz
        go_wp2
        refine wp_region_aft (Below.refl wr.heap.size wr) (by kernel_rfl) (by kernel_rfl) ?_
        repeat (go_big_quiet_step (((go_at_fn 38; exact calls_aft (Nat.le_refl _) (hcon _)))))
        refine wpQuiet_nil ?_
        refine aft_end ?_
        intro w2 hh2
        go_wp2
        go_roundw
        case rel => exact ⟨a, h, by omega, by omega, rfl, rfl, HN, hW.trans (hh2.mono hz)⟩
        case measure => simp [intOf]; omega
    · obtain rfl : a = b := by omega
      have HP := Lib.hid (show BsPos f l a from ⟨hbl, HB.out.1, HB.out.2⟩)
      by_cases hal : a < l.length
      · obtain ⟨q, off, V, rfl, hb, c0, c1, hV⟩ := FactS_at.elem HL.out a hal
        obtain ⟨PV, cV, rfl, -⟩ := id hV
        have HV := Lib.hid hV
        have C0 := Aft.cell (B := wr.heap.size) (w := wr) (show q < _ by omega) ((hWw.cell (p := ⟨q, off + a * 2, none⟩) hb).trans c0)
        have C1 := Aft.cell (B := wr.heap.size) (w := wr) (show q < _ by omega) ((hWw.cell (p := ⟨q, off + a * 2 + 1, none⟩) hb).trans c1)
        obtain ⟨z, hzz⟩ : ∃ z, cmpF l[a] f = z := ⟨_, rfl⟩
        have hcon := fun (u : Aft wr.heap.size wr) => implCompareFacts_at l[a] f z hzz (.agg #[.int .i64 l[a].rel, .slice PV l[a].vals.length cV]) (.agg #[.int .i64 f.rel, .slice P f.vals.length d]) u.now ⟨_, rfl, SliceAt.aft HV.out hWw u⟩ ((HY.out.below (hWw.trans (u.is.mono hWw.size)) (Nat.le_refl _)).more (hWw.trans (u.is.mono hWw.size)).size)
        have hdl : decide ((a : Int) < (l.length : Int)) = true := decide_eq_true (by omega)
        have hdn : decide (a < l.length) = true := decide_eq_true hal
        clear hV c0 c1 hzz
        go_wp2
        refine wp_region_aft (Below.refl wr.heap.size wr) (by kernel_rfl) (by kernel_rfl) ?_
        repeat (go_big_quiet_step (((go_at_fn 38; exact calls_aft (Nat.le_refl _) (hcon _)))))
        refine wpQuiet_nil ?_
        refine aft_end ?_
        intro w2 hh2
        go_wp2
        go_ret2
        exact ⟨a, _, rfl, HP.out, hWw.trans (hh2.mono hWw.size)⟩
      · have hdl : decide ((a : Int) < (l.length : Int)) = false := decide_eq_false (by omega)
        have hdn : decide (a < l.length) = false := decide_eq_false hal
        go_wp2
        refine wp_region_aft (Below.refl wr.heap.size wr) (by kernel_rfl) (by kernel_rfl) ?_
        repeat (go_big_quiet_step (fail))
        refine wpQuiet_nil ?_
        refine aft_end ?_
        intro w2 hh2
        go_wp2
        go_ret2
        exact ⟨a, _, rfl, HP.out, hWw.trans (hh2.mono hWw.size)⟩

end Go.Proofs.Ytchlelkhpahakaa
