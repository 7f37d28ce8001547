/-
  Walks and plain lemmas for the laws of this seat: what single Go functions return, for every argument.
-/
import Derived.Test.YtdamhifomcknaaaDepC
import Derived.Test.YtdamhifomcknaaaTyDepS
namespace Go.Proofs.Ytdamhifomcknaaa
open Go.RowKit

set_option maxHeartbeats 1600000 in
theorem eqDependencyS_c (v u : Value) (l : List Dep) (w : World) (hl : DependencyS_at w w.heap.size v l) (hm : DependencyS_at w w.heap.size u l) :
    Calls Try.prog 27 #[v, u] w fun e w' => e = .returned (.bool true) ∧ Below w.heap.size w w' := by
  have HL := Lib.hid hl
  have HM := Lib.hid hm
  obtain ⟨A, c, rfl, hlc, hcm⟩ := hl.form
  obtain ⟨A', c', rfl, hlc', hcm'⟩ := hm.form
  clear hl hm
  unfold maxLen at hcm hcm'
  go_enter Try.func27, Try.ntmps27
  go_wp2
  go_loopw [5] (fun i wr => ∃ k : Nat, k ≤ l.length ∧ i = .int .i64 k ∧ Below w.heap.size w wr) (fun i _ => l.length - (intOf i).toNat)
  case atStart => exact ⟨0, by omega, rfl, Below.refl _ _⟩
  case round =>
    obtain ⟨k, hk, rfl, hW⟩ := hrel
    have hz := hW.size
    by_cases hlt : k < l.length
    · obtain ⟨b, off, V, U, rfl, hb, c0, c1, c2, c3, c4, hV, hU⟩ := DependencyS_at.elem HL.out k hlt
      obtain ⟨b', off', V', U', rfl, hb', d0, d1, d2, d3, d4, hV', hU'⟩ := DependencyS_at.elem HM.out k hlt
      have C0 := Aft.cell hb c0
      have C1 := Aft.cell hb c1
      have C2 := Aft.cell hb c2
      have C3 := Aft.cell hb c3
      have C4 := Aft.cell hb c4
      have D0 := Aft.cell hb' d0
      have D1 := Aft.cell hb' d1
      have D2 := Aft.cell hb' d2
      have D3 := Aft.cell hb' d3
      have D4 := Aft.cell hb' d4
      have hcon := fun (u : Aft w.heap.size w) => eqDependency_c (.agg #[V, U, .bool l[k].egd, .int .i64 l[k].left, .int .i64 l[k].right]) (.agg #[V', U', .bool l[k].egd, .int .i64 l[k].left, .int .i64 l[k].right]) l[k] u.now ⟨V, U, rfl, (hV.below u.is (Nat.le_refl _)).more u.is.size, (hU.below u.is (Nat.le_refl _)).more u.is.size⟩ ⟨V', U', rfl, (hV'.below u.is (Nat.le_refl _)).more u.is.size, (hU'.below u.is (Nat.le_refl _)).more u.is.size⟩
      clear c0 c1 c2 c3 c4 d0 d1 d2 d3 d4
      go_wp2
      refine wp_region_aft hW (by kernel_rfl) (by kernel_rfl) ?_
      repeat (go_big_quiet_step (((go_at_call 22; exact calls_aft (Nat.le_refl _) (hcon _)))))
      refine wpQuiet_nil ?_
      refine aft_end ?_
      intro w1 hh
      go_wp2
      go_roundw
      case rel => exact ⟨k + 1, by omega, by go_num, hh⟩
      case measure => simp [intOf]; omega
    · obtain rfl : k = l.length := by omega
      go_wp2
      go_ret
      exact ⟨rfl, hW⟩

set_option maxHeartbeats 800000 in
theorem szDependencyS_c (v : Value) (l : List Dep) (left : Int) (w : World) (hl : DependencyS_at w w.heap.size v l) (hw : DependencyS_wf l) (h0 : 0 ≤ left) (h1 : left ≤ 1048576) :
    Calls Try.prog 23 #[v, .int .i64 left] w fun e w' => e = .returned (.int .i64 (szLeft left (DependencyS_sz l : Nat))) ∧ Below w.heap.size w w' := by
  have HL := Lib.hid hl
  obtain ⟨A, c, rfl, hlc, hcm⟩ := hl.form
  clear hl
  unfold maxLen at hcm
  have hsz : ((DependencyS_sz l : Nat) : Int) = (l.length : Int) + (depsLen l : Nat) := by unfold DependencyS_sz; omega
  rw [hsz]
  clear hsz
  by_cases hn : (l.length : Int) ≤ left
  · go_enter Try.func23, Try.ntmps23
    go_wp2
    go_loopw [1, 5] (fun lf i wr => ∃ k : Nat, k ≤ l.length ∧ i = .int .i64 k ∧ lf = .int .i64 (left - l.length - (depsLen (l.take k) : Nat)) ∧ (l.length : Int) + (depsLen (l.take k) : Nat) ≤ left ∧ Below w.heap.size w wr) (fun _ i _ => l.length - (intOf i).toNat)
    case atStart => exact ⟨0, by omega, rfl, by simp [depsLen], by simp [depsLen]; omega, Below.refl _ _⟩
    case round =>
      obtain ⟨k, hk, rfl, rfl, hle, hW⟩ := hrel
      have hz := hW.size
      by_cases hlt : k < l.length
      · obtain ⟨b, off, V, U, rfl, hb, c0, c1, c2, c3, c4, hV, hU⟩ := DependencyS_at.elem (HL.out.below hW (Nat.le_refl _)) k hlt
        have HT := Lib.hid (depsLen_take l k hlt)
        have HLE := Lib.hid (depsLen_le l (k + 1))
        generalize depsLen (l.take k) = q at *
        have hq : 0 ≤ left - l.length - (q : Int) := by omega
        have hat : Dependency_at wr wr.heap.size (.agg #[V, U, .bool l[k].egd, .int .i64 l[k].left, .int .i64 l[k].right]) l[k] := ⟨V, U, rfl, hV.more hz, hU.more hz⟩
        have hsz := szDependency_c _ l[k] (left - l.length - (q : Int)) wr hat (hw k hlt) hq (by omega)
        clear hat
        by_cases hfit : ((Dependency_sz l[k] : Nat) : Int) ≤ left - l.length - (q : Int)
        · rw [szLeft_yes hfit] at hsz
          have e1 : left - l.length - (q : Int) - (Dependency_sz l[k] : Nat) = left - l.length - ((q + Dependency_sz l[k] : Nat) : Int) := by omega
          rw [e1] at hsz
          clear e1
          go_wp2_with (go_at_call 18; refine hsz.mono ?_; rintro e w1 ⟨rfl, hb1⟩)
          go_roundw
          case rel => exact ⟨k + 1, by omega, by go_num, by rw [HT.out]; go_num, by rw [HT.out]; omega, hW.trans (hb1.mono hz)⟩
          case measure => simp [intOf]; omega
        · rw [szLeft_no hfit] at hsz
          have e2 := Lib.hid (szLeft_no (left := left) (n := (l.length : Int) + (depsLen l : Nat)) (by have := HT.out; have := HLE.out; omega))
          go_wp2_with (go_at_call 18; refine hsz.mono ?_; rintro e w1 ⟨rfl, hb1⟩)
          go_ret
          exact ⟨ret_int e2.out.symm, hW.trans (hb1.mono hz)⟩
      · obtain rfl : k = l.length := by omega
        have HT := Lib.hid (congrArg depsLen (List.take_length (l := l)))
        generalize depsLen (l.take l.length) = q at *
        have e2 := Lib.hid (szLeft_yes (left := left) (n := (l.length : Int) + (depsLen l : Nat)) (by have := HT.out; omega))
        go_wp2
        go_ret
        exact ⟨ret_int (by rw [e2.out]; have := HT.out; omega), hW⟩
  · have e2 := Lib.hid (szLeft_no (left := left) (n := (l.length : Int) + (depsLen l : Nat)) (by omega))
    go_enter Try.func23, Try.ntmps23
    go_wp2
    go_ret
    exact ⟨ret_int e2.out.symm, Below.refl _ _⟩

set_option maxHeartbeats 1600000 in
theorem toDependencyS_c (v : Value) (l : List Dep) (w : World) (hl : DependencyS_at w w.heap.size v l) (hn : DependencyS_sz l ≤ 1048576) :
    Calls Try.prog 25 #[v] w fun e w' => ∃ u, e = .returned u ∧ DependencyS_own w.heap.size w'.heap.size u l w' ∧ Below w.heap.size w w' := by
  have HL := Lib.hid hl
  obtain ⟨A, c, rfl, hlc, hcm⟩ := hl.form
  clear hl
  unfold maxLen at hcm
  have hn1 : l.length ≤ 1048576 := by unfold DependencyS_sz at hn; omega
  have hel : ∀ k (h : k < l.length), Dependency_sz l[k] ≤ 1048576 := fun k h => by
    have h1 := depsLen_take l k h
    have h2 := depsLen_le l (k + 1)
    unfold DependencyS_sz at hn; omega
  have hmk := fun w => make_deps w l.length hn1
  go_enter Try.func25, Try.ntmps25
  go_wp2
  clear hmk
  go_loopw [4] (fun i wr => ∃ k : Nat, ∃ Xs, k ≤ l.length ∧ i = .int .i64 k ∧ DependencySO 43 w.heap.size wr.heap.size (.slice (some ⟨w.heap.size, 0, none⟩) l.length l.length) Xs (l.take k ++ List.replicate (l.length - k) zeroDep) wr ∧ Below w.heap.size w wr) (fun i _ => l.length - (intOf i).toNat)
  case atStart => exact ⟨0, _, by omega, rfl, (DependencySO.made w l.length hn1).mono (Nat.le_refl _) (by simp), (Below.refl _ _).alloc (Nat.le_refl _) _⟩
  case round =>
    obtain ⟨k, Xs, hk, rfl, hO, hW⟩ := hrel
    have hz := hW.size
    by_cases hlt : k < l.length
    · obtain ⟨b, off, V, U, rfl, hb, c0, c1, c2, c3, c4, hV, hU⟩ := DependencyS_at.elem (HL.out.below hW (Nat.le_refl _)) k hlt
      have hcon := toDependency_c (.agg #[V, U, .bool l[k].egd, .int .i64 l[k].left, .int .i64 l[k].right]) l[k] wr ⟨V, U, rfl, hV.more hz, hU.more hz⟩ (hel k hlt)
      have hlen : (l.take k ++ List.replicate (l.length - k) zeroDep).length = l.length := by simp; omega
      have hkl : k < (l.take k ++ List.replicate (l.length - k) zeroDep).length := by omega
      have hkv : k < Xs.length := by rw [hO.len]; exact hkl
      have HLen := Lib.hid hlen
      have HO := Lib.hid hO
      clear hlen hO
      go_wp2_with fail
      refine hcon.mono ?_
      rintro e w1 ⟨u, rfl, hu, hb1⟩
      have hz1 := hb1.size
      obtain ⟨Y1, Y2, Vs1, Vs2, rfl, ho1, ho2, hne⟩ := hu
      obtain ⟨P1, p1, rfl, -, -⟩ := (ho1.at_ (Nat.le_refl _)).form
      obtain ⟨P2, p2, rfl, -, -⟩ := (ho2.at_ (Nat.le_refl _)).form
      have hX : DepOwn wr.heap.size w1.heap.size ((.slice P1 l[k].body.length p1, Vs1), (.slice P2 l[k].head.length p2, Vs2)) l[k] w1 := ⟨ho1, ho2, hne⟩
      have hO1 := HO.out.below hb1 (Nat.le_refl _)
      obtain ⟨d0, d1, d2, d3, d4⟩ := hO1.cells HLen.out k hkl hkv
      have hfz := hO1.frozen HLen.out
      have HS := Lib.hid (DependencySO.set (e := 43) (by decide) (by decide) (hO1.mono (Nat.le_refl _) hz1) HLen.out k hlt l[k] _ (hX.mono hz (Nat.le_refl _)) (fun i hi _ q hq1 hq2 => by
        have h1 := (hX.foot q hq2).1
        have h2 := ((HO.out.el i (by have := HO.out.len; omega) hi).foot q hq1).2
        omega))
      clear hO1 hX ho1 ho2 hne
      go_wp2
      go_roundw
      case rel => exact ⟨k + 1, _, by omega, by go_num, by rw [← take_zero_dep l k hlt]; exact HS.out.mono (Nat.le_refl _) (by simp [World.setCell]), (((((hW.trans (hb1.mono hz)).setCell (p := ⟨w.heap.size, k * 5, none⟩) (Nat.le_refl _) _).setCell (p := ⟨w.heap.size, k * 5 + 1, none⟩) (Nat.le_refl _) _).setCell (p := ⟨w.heap.size, k * 5 + 2, none⟩) (Nat.le_refl _) _).setCell (p := ⟨w.heap.size, k * 5 + 3, none⟩) (Nat.le_refl _) _).setCell (p := ⟨w.heap.size, k * 5 + 4, none⟩) (Nat.le_refl _) _⟩
      case measure => simp [intOf]; omega
    · obtain rfl : k = l.length := by omega
      have hO' : DependencySO 43 w.heap.size wr.heap.size (.slice (some ⟨w.heap.size, 0, none⟩) l.length l.length) Xs l wr := by simpa using hO
      clear hO
      go_wp2
      go_ret
      exact ⟨_, rfl, ⟨Xs, hO'⟩, hW⟩

end Go.Proofs.Ytdamhifomcknaaa
