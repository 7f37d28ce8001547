/-
  Walks and plain lemmas for the laws of this seat: what single Go functions return, for every argument.
-/
import Derived.Laws.StructEq
import Derived.Deep.RegionHeld3
import Derived.Test.YtakflmaeclneiaaDoorFmtS
import Derived.Test.YtakflmaeclneiaaDoorInts
import Derived.Test.YtakflmaeclneiaaDoorNum
import Derived.Test.YtakflmaeclneiaaDoorAft
import Derived.Test.YtakflmaeclneiaaDoorEdge
import Derived.Test.YtakflmaeclneiaaDoorDepSM
namespace Go.Proofs.YtakflmaeclneiaaDoor
open Go.RowKit

/-- edges of the call's own that grow, beside rows of ints that stay -/
structure GSt (B : Nat) (E0 : World) (o : Value) (S : List Edg) (rs : List (Value × List Int)) (w : World) : Prop where
  out : OwnEdgs B o S w
  ints : ∀ r ∈ rs, OwnInts B r.1 r.2 w
  low : Below B E0 w
theorem GSt.call {B : Nat} {E0 : World} {o : Value} {S : List Edg} {rs : List (Value × List Int)} {w w' : World} (h : GSt B E0 o S rs w) (hB : B ≤ w.heap.size) (hb : Below w.heap.size w w') : GSt B E0 o S rs w' :=
  ⟨h.out.below hb (Nat.le_refl _), fun r hr => (h.ints r hr).below hb (Nat.le_refl _), h.low.trans (hb.mono hB)⟩
theorem GSt.add {B : Nat} {E0 : World} {o v : Value} {S : List Edg} {l : List Int} {rs : List (Value × List Int)} {w w' : World} (h : GSt B E0 o S rs w) (hB : B ≤ w.heap.size) (hb : Below w.heap.size w w') (hr : OwnInts w.heap.size v l w') : GSt B E0 o S ((v, l) :: rs) w' :=
  ⟨h.out.below hb (Nat.le_refl _), fun r h1 => by
    rcases List.mem_cons.1 h1 with rfl | h1
    · exact hr.mono hB
    · exact (h.ints r h1).below hb (Nat.le_refl _), h.low.trans (hb.mono hB)⟩
theorem GSt.put {B : Nat} {E0 : World} {o o' : Value} {S S' : List Edg} {rs : List (Value × List Int)} {w w' : World} (h : GSt B E0 o S rs w) (hO : OwnEdgs B o' S' w') (hb : Below B w w') (hc : Chg (fun g => o.ownBlock = some g) w w') : GSt B E0 o' S' rs w' :=
  ⟨hO, fun r hr => (h.ints r hr).chg hc fun g hg hs => by
    rcases own_ne (h.ints r hr) h.out (by decide) with e | e
    · rw [e] at hg; cases hg
    · exact e (hg.trans hs.symm), h.low.trans hb⟩
theorem GSt.drop {B : Nat} {E0 : World} {o : Value} {S : List Edg} {r : Value × List Int} {rs : List (Value × List Int)} {w : World} (h : GSt B E0 o S (r :: rs) w) : GSt B E0 o S rs w :=
  ⟨h.out, fun x hx => h.ints x (List.mem_cons_of_mem _ hx), h.low⟩
theorem GSt.eq {B : Nat} {E0 : World} {o : Value} {S S' : List Edg} {rs : List (Value × List Int)} {w : World} (h : GSt B E0 o S rs w) (e : S = S') : GSt B E0 o S' rs w := e ▸ h
theorem GSt.size {B : Nat} {E0 : World} {o : Value} {S : List Edg} {rs : List (Value × List Int)} {w : World} (h : GSt B E0 o S rs w) (hB : B ≤ E0.heap.size) : B ≤ w.heap.size := Nat.le_trans hB h.low.size
/-- the cell of a row of ints -/
theorem GSt.at0 {B : Nat} {E0 : World} {o : Value} {S : List Edg} {A : Option Addr} {c : Nat} {l : List Int} {rs : List (Value × List Int)} {w : World} (h : GSt B E0 o S ((.slice A l.length c, l) :: rs) w) (j : Nat) (hj : j < l.length) :
    ∃ b off, A = some ⟨b, off, none⟩ ∧ b < w.heap.size ∧ w.cell? ⟨b, off + j, none⟩ = some (.int .i64 l[j]) := IntsAt.elem (h.ints _ (List.mem_cons_self ..)).at_ j hj
theorem map_take_snoc {α β : Type} (f : α → β) (l : List α) (k : Nat) (h : k < l.length) : (l.take (k + 1)).map f = (l.take k).map f ++ [f l[k]] := by
  rw [List.take_succ_eq_append_getElem h, List.map_append]; rfl

theorem stoodEdg : Tryd.prog.stoodInHeld 38 = false := by kernel_rfl
theorem guardEdg : Tryd.prog.eqGuardType Tryd.prog.depth 38 = false := by kernel_rfl
theorem run_eql_edg (r r' : Edg) (w : World) : (binOp .eql 38 (.agg #[.int .i64 r.src, .int .i64 r.dst, .bool r.spec]) (.agg #[.int .i64 r'.src, .int .i64 r'.dst, .bool r'.spec])).run Tryd.prog w = .ok (.bool (decide (r = r'))) w := by
  rw [run_eql_struct]
  rw [run_equalIn_struct w 9999 38 _ _ (by kernel_rfl) stoodEdg]
  simp [go_sem, Tryd.underlying38, Tryd.underlying3, Tryd.underlying4]
  have key : (r = r') ↔ (r.src = r'.src ∧ r.dst = r'.dst ∧ r.spec = r'.spec) := by
    constructor
    · rintro rfl; exact ⟨rfl, rfl, rfl⟩
    · rintro ⟨h1, h2, h3⟩
      cases r; cases r'; simp_all
  by_cases h1 : r.src = r'.src <;> by_cases h2 : r.dst = r'.dst <;> by_cases h3 : r.spec = r'.spec <;> simp [key, h1, h2, h3]
theorem run_guard_edg (r r' : Edg) (w : World) (x y : Operand) : (eqGuard .eql 38 x y (.agg #[.int .i64 r.src, .int .i64 r.dst, .bool r.spec]) (.agg #[.int .i64 r'.src, .int .i64 r'.dst, .bool r'.spec])).run Tryd.prog w = .ok () w := run_eqGuard_agg w _ _ x y _ _ guardEdg
/-- as a step of a region that draws its order -/
theorem quiet_eql_edg {C : World → Prop} {K : Act → Prop} {a : Act} {o : Oper} (r r' : Edg) (x y : Operand) (t : TypeId) (ho : o.op = .binOp .eql 38 x y t) (hx : a.eval x = .agg #[.int .i64 r.src, .int .i64 r.dst, .bool r.spec]) (hy : a.eval y = .agg #[.int .i64 r'.src, .int .i64 r'.dst, .bool r'.spec]) (q : Bool) (hq : decide (r = r') = q)
    (h : K (a.put o.dst (.bool q))) : o.quiet Tryd.prog a C K := by
  subst hq
  refine ⟨_, fun w _ => ?_, h⟩
  unfold Oper.quietAt execOp
  simp only [ho, hx, hy, Sem.run_bind, run_guard_edg, run_eql_edg, Result.andThen_ok, Sem.run_pure]
  exact ⟨rfl, rfl⟩

theorem putTo_zero (e : List Edg) (x : Edg) : x ∉ e.take 0 := by simp
theorem putTo_next (e : List Edg) (x : Edg) (k : Nat) (hk : k < e.length) (h : x ∉ e.take k) (hn : ¬ e[k] = x) : x ∉ e.take (k + 1) := by
  rw [List.take_succ_eq_append_getElem hk, List.mem_append]
  rintro (h1 | h1)
  · exact h h1
  · exact hn (List.mem_singleton.1 h1).symm
theorem putE_hit (e : List Edg) (x : Edg) (k : Nat) (hk : k < e.length) (h : e[k] = x) : putE e x = e := by
  unfold putE
  rw [if_pos (h ▸ List.getElem_mem hk)]
theorem putE_new (e : List Edg) (x : Edg) (h : x ∉ e.take e.length) : putE e x = e ++ [x] := by
  rw [List.take_length] at h
  unfold putE
  rw [if_neg h]
set_option maxHeartbeats 3200000 in
set_option maxRecDepth 100000 in
theorem specL13Put_any (B : Nat) (v : Value) (e : List Edg) (x : Edg) (w : World) (hO : OwnEdgs B v e w) (hB : B ≤ w.heap.size) (hn : e.length ≤ 1048576) :
    Calls Tryd.prog 46 #[v, .agg #[.int .i64 x.src, .int .i64 x.dst, .bool x.spec]] w fun ex w' => ∃ v', ex = .returned v' ∧ OwnEdgs B v' (putE e x) w' ∧ Below B w w' ∧ Chg (fun g => v.ownBlock = some g) w w' := by
  have HO := Lib.hid hO
  have HL := Lib.hid hO.at_
  obtain ⟨A, c, rfl, hlc, hcm, -⟩ := hO.at_
  clear hO
  unfold maxLen at hcm
  obtain ⟨W1, hEq⟩ : ∃ W1, W1 = w.alloc (.cells #[.int .i64 x.src, .int .i64 x.dst, .bool x.spec] 38) := ⟨_, rfl⟩
  have HB1 := Lib.hid (show Below w.heap.size w W1 by rw [hEq]; exact below_more (Below.refl _ _) _)
  have HZ1 := Lib.hid (show W1.heap.size = w.heap.size + 1 by rw [hEq]; simp)
  have X0 := Lib.hid (show W1.cell? ⟨w.heap.size, 0, none⟩ = some (.int .i64 x.src) by rw [hEq]; simp [go_sem])
  have X1 := Lib.hid (show W1.cell? ⟨w.heap.size, 1, none⟩ = some (.int .i64 x.dst) by rw [hEq]; simp [go_sem])
  have X2 := Lib.hid (show W1.cell? ⟨w.heap.size, 2, none⟩ = some (.bool x.spec) by rw [hEq]; simp [go_sem])
  go_enter Tryd.func46, Tryd.ntmps46
  go_upto_region 1 with fail
  rw [← hEq]
  clear hEq
  go_wp2
  go_loopw [5] (fun i wr => ∃ k : Nat, k ≤ e.length ∧ i = .int .i64 (k : Int) ∧ Hid (x ∉ e.take k) ∧ Hid (Below W1.heap.size W1 wr)) (fun i _ => e.length - (intOf i).toNat)
  case atStart => exact ⟨0, by omega, rfl, Lib.hid (putTo_zero e x), Lib.hid (Below.refl _ _)⟩
  case round =>
    obtain ⟨k, hk, rfl, HT, HW⟩ := hrel
    have hz1 := HZ1.out
    have hz2 := HW.out.size
    have x0 := (HW.out.cell (p := ⟨w.heap.size, 0, none⟩) (by show w.heap.size < _; omega)).trans X0.out
    have x1 := (HW.out.cell (p := ⟨w.heap.size, 1, none⟩) (by show w.heap.size < _; omega)).trans X1.out
    have x2 := (HW.out.cell (p := ⟨w.heap.size, 2, none⟩) (by show w.heap.size < _; omega)).trans X2.out
    have HWw := Lib.hid (HB1.out.trans (HW.out.mono (by omega)))
    by_cases hlt : k < e.length
    · obtain ⟨b, off, rfl, hb, c0, c1, c2⟩ := EdgsAt.elem (HL.out.below HWw.out (Nat.le_refl _)) k hlt
      have HN := Lib.hid (fun h => putTo_next e x k hlt HT.out h)
      have HV := Lib.hid (fun h => putE_hit e x k hlt h)
      generalize e[k] = r at *
      have C0 := Aft.cell (B := wr.heap.size) (w := wr) (by omega) c0
      have C1 := Aft.cell (B := wr.heap.size) (w := wr) (by omega) c1
      have C2 := Aft.cell (B := wr.heap.size) (w := wr) (by omega) c2
      have D0 := Aft.cell (B := wr.heap.size) (w := wr) (by omega) x0
      have D1 := Aft.cell (B := wr.heap.size) (w := wr) (by omega) x1
      have D2 := Aft.cell (B := wr.heap.size) (w := wr) (by omega) x2
      clear c0 c1 c2 x0 x1 x2
      cases hd : decide (r = x) with
      | true =>
        have HV2 := Lib.hid (HV.out (of_decide_eq_true hd))
        go_upto_region 4 with fail
        refine wp_region_aft (Below.refl wr.heap.size wr) (by kernel_rfl) (by kernel_rfl) ?_
        repeat (go_big_quiet_step (fail))
        go_big_quiet_want
        refine quiet_eql_edg r x _ _ _ rfl rfl rfl true hd ?_
        go_big_quiet_on
        refine wpQuiet_nil ?_
        refine aft_end ?_
        intro w1 hh
        have HF := Lib.hid (HWw.out.trans (hh.mono (by omega)))
        clear hd hh C0 C1 C2 D0 D1 D2
        go_wp2
        go_ret
        exact ⟨_, rfl, by rw [HV2.out]; exact HO.out.below HF.out (Nat.le_refl _), HF.out.mono hB, Chg.of_below HF.out⟩
      | false =>
        have HN2 := Lib.hid (HN.out (of_decide_eq_false hd))
        go_upto_region 4 with fail
        refine wp_region_aft (Below.refl wr.heap.size wr) (by kernel_rfl) (by kernel_rfl) ?_
        repeat (go_big_quiet_step (fail))
        go_big_quiet_want
        refine quiet_eql_edg r x _ _ _ rfl rfl rfl false hd ?_
        go_big_quiet_on
        refine wpQuiet_nil ?_
        refine aft_end ?_
        intro w1 hh
        have HF := Lib.hid (HW.out.trans (hh.mono (by omega)))
        clear hd hh C0 C1 C2 D0 D1 D2
        go_wp2
        go_roundw
        case rel => exact ⟨k + 1, by omega, by go_num, HN2, HF⟩
        case measure => simp [intOf]; omega
    · obtain rfl : k = e.length := by omega
      have HV := Lib.hid (putE_new e x HT.out)
      have HO1 := Lib.hid (HO.out.below HWw.out (Nat.le_refl _))
      have HO2 := Lib.hid (HO1.out.below (show Below wr.heap.size wr (wr.alloc (.cells #[.int .i64 x.src, .int .i64 x.dst, .bool x.spec] 38)) from below_more (Below.refl _ _) _) (Nat.le_refl _))
      have HONE := Lib.hid (show EdgsAt (wr.alloc (.cells #[.int .i64 x.src, .int .i64 x.dst, .bool x.spec] 38)) (wr.alloc (.cells #[.int .i64 x.src, .int .i64 x.dst, .bool x.spec] 38)).heap.size (.slice (some ⟨wr.heap.size, 0, none⟩) [x].length 1) [x] from (OwnEdgs.one wr wr.heap.size x (Nat.le_refl _)).at_)
      have HAL := Lib.hid (show Below wr.heap.size wr (wr.alloc (.cells #[.int .i64 x.src, .int .i64 x.dst, .bool x.spec] 38)) from below_more (Below.refl _ _) _)
      have HSZ := Lib.hid (show B ≤ (wr.alloc (.cells #[.int .i64 x.src, .int .i64 x.dst, .bool x.spec] 38)).heap.size by simp; omega)
      go_wp2_with (at_builtin; refine edgs_apps (r := [x]) HO2.out rfl _ _ rfl rfl (some ⟨wr.heap.size, 0, none⟩) 1 1 rfl rfl HONE.out (fun h => by cases h) (by simp; omega) HSZ.out ?_; intro v5 w5 hO5 hB5 hG5 hN5)
      have hF := HWw.out.trans (HAL.out.mono (by omega))
      go_ret
      exact ⟨_, rfl, by rw [HV.out]; exact hO5, (hF.mono hB).trans hB5, (Chg.of_below hF).trans (grown_chg hG5)⟩

set_option maxHeartbeats 800000 in
theorem specIsValidRelation_any (s : ByteArray) (a : Int) (b : Bool) (w : World) :
    Calls Tryd.prog 47 #[.agg #[.string s, .int .i64 a, .bool b]] w fun e w' => e = .returned (.bool (relOk s a)) ∧ Below w.heap.size w w' := by
  by_cases h1 : s.size = 1
  · have h0 : 0 < s.size := by omega
    have HN := Lib.hid (nameOk_one s h1)
    by_cases h2 : (97 : Int) ≤ ((s[0].toNat : Nat) : Int)
    · by_cases h3 : ((s[0].toNat : Nat) : Int) ≤ 122
      · have hr : Hid (relOk s a = inB a 1 3) := Lib.hid (by unfold relOk; rw [HN.out]; simp [h2, h3])
        go_enter Tryd.func47, Tryd.ntmps47
        go_wp2_with (go_at_call 31; refine (l1In_any _ _ _ _).mono ?_; rintro e w' ⟨rfl, rfl⟩)
        go_ret
        refine ⟨?_, (Below.refl _ _).alloc (Nat.le_refl _) _⟩
        rw [hr.out]; rfl
      · have hr : Hid (relOk s a = false) := Lib.hid (by unfold relOk; rw [HN.out]; simp [h2, h3])
        go_enter Tryd.func47, Tryd.ntmps47
        go_wp2
        go_ret
        refine ⟨?_, (Below.refl _ _).alloc (Nat.le_refl _) _⟩
        rw [hr.out]; rfl
    · have hr : Hid (relOk s a = false) := Lib.hid (by unfold relOk; rw [HN.out]; simp [h2])
      go_enter Tryd.func47, Tryd.ntmps47
      go_wp2
      go_ret
      refine ⟨?_, (Below.refl _ _).alloc (Nat.le_refl _) _⟩
      rw [hr.out]; rfl
  · have hr : Hid (relOk s a = false) := Lib.hid (by unfold relOk; rw [nameOk_ne s h1]; rfl)
    go_enter Tryd.func47, Tryd.ntmps47
    go_wp2
    go_ret
    refine ⟨?_, (Below.refl _ _).alloc (Nat.le_refl _) _⟩
    rw [hr.out]; rfl

set_option maxHeartbeats 400000 in
theorem isRelationName_any (s : ByteArray) (w : World) :
    Calls Tryd.prog 50 #[.string s] w fun e w' => e = .returned (.bool (nameOk s)) ∧ w = w' := by
  by_cases h1 : s.size = 1
  · have hN := nameOk_one s h1
    generalize nameOk s = N at hN
    have h0 : 0 < s.size := by omega
    by_cases h2 : (97 : Int) ≤ ((s[0].toNat : Nat) : Int)
    all_goals
      have HN := Lib.hid hN
      clear hN
      go_enter Tryd.func50, Tryd.ntmps50
      go_wp2
      go_ret
      rw [HN.out]
      first | rfl | (simp [*]; done) | (simp; omega)
  · rw [nameOk_ne s h1]
    go_enter Tryd.func50, Tryd.ntmps50
    go_wp2
    go_ret
    exact ⟨rfl, rfl⟩

set_option maxHeartbeats 400000 in
theorem implIsValidRelation_any (s : ByteArray) (a : Int) (b : Bool) (w : World) :
    Calls Tryd.prog 39 #[.agg #[.string s, .int .i64 a, .bool b]] w fun e w' => e = .returned (.bool (relOk s a)) ∧ Below w.heap.size w w' := by
  unfold relOk inB
  cases hn : nameOk s
  · go_enter Tryd.func39, Tryd.ntmps39
    go_wp2_with (go_at_call 50; refine (isRelationName_any _ _).mono ?_; rintro e w' ⟨rfl, rfl⟩)
    go_ret
    exact ⟨rfl, (Below.refl _ _).alloc (Nat.le_refl _) _⟩
  · by_cases h1 : 1 ≤ a
    all_goals
      go_enter Tryd.func39, Tryd.ntmps39
      go_wp2_with (go_at_call 50; refine (isRelationName_any _ _).mono ?_; rintro e w' ⟨rfl, rfl⟩)
      go_ret
      refine ⟨?_, (Below.refl _ _).alloc (Nat.le_refl _) _⟩
      first | rfl | (simp [*]; done) | (simp; omega) | trace_state

end Go.Proofs.YtakflmaeclneiaaDoor
