/-
  Walks and plain lemmas for the laws of this seat: what single Go functions return, for every argument.
-/
import Derived.Laws.IdiomCopy
import Derived.Shelf.Abstract
import Derived.Test.YtobdijcnfmgidaaGreatBase
import Derived.Test.YtobdijcnfmgidaaGreatInts
import Derived.Test.YtobdijcnfmgidaaGreatTySS
import Derived.Test.YtobdijcnfmgidaaGreatKpM
import Derived.Test.YtobdijcnfmgidaaGreatCopI
import Derived.Test.YtobdijcnfmgidaaGreatMInst
namespace Go.Proofs.YtobdijcnfmgidaaGreat
open Go.RowKit

/-- what a row holds ahead of element j: those that stay, then as it was -/
def rowK {α : Type} (p : α → Bool) (l : List α) (j : Nat) : List α := keepN p (l.take j) ++ l.drop (keepN p (l.take j)).length
theorem keepK_le {α : Type} (p : α → Bool) (l : List α) (j : Nat) : (keepN p (l.take j)).length ≤ l.length ∧ (keepN p (l.take j)).length ≤ j := by
  have h := keepN_len p (l.take j)
  rw [List.length_take] at h; omega
theorem rowK_len {α : Type} (p : α → Bool) (l : List α) (j : Nat) : (rowK p l j).length = l.length := by
  have := keepK_le p l j
  unfold rowK
  rw [List.length_append, List.length_drop]; omega
theorem rowK_get {α : Type} (p : α → Bool) (l : List α) (j k : Nat) (h : j ≤ k) (hk : k < l.length) : (rowK p l j)[k]'(by rw [rowK_len]; exact hk) = l[k] := by
  have := keepK_le p l j
  unfold rowK
  rw [List.getElem_append_right (by omega), List.getElem_drop]
  congr 1; omega
theorem rowK_drop {α : Type} (p : α → Bool) (l : List α) (j : Nat) (hj : j < l.length) (h : p l[j] = true) : rowK p l (j + 1) = rowK p l j ∧ (keepN p (l.take (j + 1))).length = (keepN p (l.take j)).length := by
  have e : keepN p (l.take (j + 1)) = keepN p (l.take j) := by rw [keepN_take j hj, if_pos h, List.append_nil]
  unfold rowK; rw [e]; exact ⟨rfl, rfl⟩
theorem rowK_keep {α : Type} (p : α → Bool) (l : List α) (j : Nat) (hj : j < l.length) (h : p l[j] = false) : rowK p l (j + 1) = (rowK p l j).set (keepN p (l.take j)).length l[j] ∧ (keepN p (l.take (j + 1))).length = (keepN p (l.take j)).length + 1 := by
  have e : keepN p (l.take (j + 1)) = keepN p (l.take j) ++ [l[j]] := by rw [keepN_take j hj, if_neg (by rw [h]; simp)]
  have hl := keepK_le p l j
  unfold rowK; rw [e]
  refine ⟨?_, by simp⟩
  rw [List.set_append_right _ _ (Nat.le_refl _), Nat.sub_self, List.drop_eq_getElem_cons (show (keepN p (l.take j)).length < l.length by omega), List.set_cons_zero, List.length_append, List.length_singleton, List.append_assoc]
  rfl
theorem keepK_lt {α : Type} {p : α → Bool} {l : List α} (h : l.any p = true) : (keepN p l).length < l.length := by
  induction l with
  | nil => simp at h
  | cons y t ih =>
    have hle := keepN_len p t
    unfold keepN at *
    cases hy : p y with
    | true => rw [List.filter_cons_of_neg (by simp [hy]), List.length_cons]; omega
    | false =>
      rw [List.any_cons, hy, Bool.false_or] at h
      have := ih h
      rw [List.filter_cons_of_pos (by simp [hy]), List.length_cons, List.length_cons]; omega
/-- the row's tail set to zero -/
def zeroTail (l : List Int) (i : Nat) : List Int := l.take i ++ List.replicate (l.length - i) 0
theorem zeroInt_val : ∀ w, (zeroValue 3).run Tryz.prog w = .ok (.int .i64 0) w := by
  intro w
  obtain ⟨i0, hi, hz0, hz1, hz2⟩ := info_parts infoInt
  simp [zeroValue, typeInfo, hi, hz0]
theorem zeroCells_int (n : Nat) : (Builtin.zeroCells #[.int .i64 0] n).toList = List.replicate n (Value.int .i64 0) := by
  apply List.ext_getElem?
  intro i
  by_cases hi : i < n
  · simp [Builtin.zeroCells, hi, Nat.mod_one]
  · rw [List.getElem?_eq_none (by simp [Builtin.zeroCells]; omega), List.getElem?_eq_none (by simp; omega)]
/-- 'clear' on the tail of a row of ints -/
theorem run_clear_ints {P : Program} {w : World} {t e ty : TypeId} (ht : P.underlying t = some (.slice e)) (hv : ∀ w, (zeroValue e).run P w = .ok (.int .i64 0) w) (g o n c : Nat) (hn : 0 < n)
    (hc : ∀ j, j < n → (w.cell? ⟨g, o + j, none⟩).isSome = true) (hf : ∀ j, w.frozen? ⟨g, j, none⟩ = false) :
    (Builtin.clear_ #[t] ty #[.slice (some ⟨g, o, none⟩) n c]).run P w = .ok (.tuple #[]) (w.setCells g o (List.replicate n (.int .i64 0))) := by
  have hst := run_storeCells_cells (P := P) g o (List.replicate n (Value.int .i64 0)) 0 w (by simpa using hc) (fun j _ => hf _) (by
    intro v hv'
    rw [List.eq_of_mem_replicate hv']; rfl)
  simp only [Nat.add_zero] at hst
  have hz : (Value.int .i64 0).cells = #[.int .i64 0] := rfl
  obtain ⟨m, rfl⟩ : ∃ m, n = m + 1 := ⟨n - 1, by omega⟩
  simp [Builtin.clear_, run_underlying ht, hv, hz, zeroCells_int, hst]

/-- a function value that tells of a row among l whether p holds, wherever G holds; it only makes memory -/
def TellsR (g : Nat) (lb : Array Value) (G : World → Prop) (p : List Int → Bool) (l : List (List Int)) : Prop :=
  ∀ (W : World) (x : List Int) (V : Value), G W → x ∈ l → IntS_at W W.heap.size V x → Calls Tryz.prog g (#[V] ++ lb) W fun e w' => e = .returned (.bool (p x)) ∧ Below W.heap.size W w'
theorem zeroRow_val : ∀ w, (zeroValue 31).run Tryz.prog w = .ok (.slice none 0 0) w := by
  intro w
  obtain ⟨i0, hi, hz0, hz1, hz2⟩ := info_parts infoInts
  simp [zeroValue, typeInfo, hi, hz0]
theorem zeroCells_row (n : Nat) : (Builtin.zeroCells #[.slice none 0 0] n).toList = List.replicate n (Value.slice none 0 0) := by
  apply List.ext_getElem?
  intro i
  by_cases hi : i < n
  · simp [Builtin.zeroCells, hi, Nat.mod_one]
  · rw [List.getElem?_eq_none (by simp [Builtin.zeroCells]; omega), List.getElem?_eq_none (by simp; omega)]
/-- 'clear' on the tail of a row of rows -/
theorem run_clear_rows {P : Program} {w : World} {t e ty : TypeId} (ht : P.underlying t = some (.slice e)) (hv : ∀ w, (zeroValue e).run P w = .ok (.slice none 0 0) w) (g o n c : Nat) (hn : 0 < n)
    (hc : ∀ j, j < n → (w.cell? ⟨g, o + j, none⟩).isSome = true) (hf : ∀ j, w.frozen? ⟨g, j, none⟩ = false) :
    (Builtin.clear_ #[t] ty #[.slice (some ⟨g, o, none⟩) n c]).run P w = .ok (.tuple #[]) (w.setCells g o (List.replicate n (.slice none 0 0))) := by
  have hst := run_storeCells_cells (P := P) g o (List.replicate n (Value.slice none 0 0)) 0 w (by simpa using hc) (fun j _ => hf _) (by
    intro v hv'
    rw [List.eq_of_mem_replicate hv']; rfl)
  simp only [Nat.add_zero] at hst
  have hz : (Value.slice none 0 0).cells = #[.slice none 0 0] := rfl
  obtain ⟨m, rfl⟩ : ∃ m, n = m + 1 := ⟨n - 1, by omega⟩
  simp [Builtin.clear_, run_underlying ht, hv, hz, zeroCells_row, hst]
set_option maxHeartbeats 1600000 in
set_option maxRecDepth 100000 in
theorem implIxR_any (g : Nat) (lb : Array Value) (eg : ∀ args w, (callFunc g args).run Tryz.prog w = .ok (.enter g args) w) (G : World → Prop) (hG : ∀ W W', G W → Below W.heap.size W W' → G W') (p : List Int → Bool) (v : Value) (l : List (List Int)) (w : World) (h0 : G w) (ht : TellsR g lb G p l) (hl : IntSS_at w w.heap.size v l) :
    Calls Tryz.prog 86 #[v, .func (.func g) #[] lb] w fun e w' => e = .returned (.int .i64 (ixOf p l)) ∧ Below w.heap.size w w' := by
  have HL := Lib.hid hl
  obtain ⟨A, c, rfl, hlc, hcm⟩ := hl.form
  unfold maxLen at hcm
  have HG := Lib.hid (fun wr (hW : Below w.heap.size w wr) => hG w wr h0 hW)
  have HT := Lib.hid ht
  clear hG h0 ht hl
  go_enter Tryz.func86, Tryz.ntmps86
  go_wp2
  go_loopw [8] (fun i wr => ∃ k : Nat, k ≤ l.length ∧ i = .int .i64 k ∧ Hid (IxTo p l k) ∧ Below w.heap.size w wr) (fun i _ => l.length - (intOf i).toNat)
  case atStart => exact ⟨0, by omega, rfl, Lib.hid (IxTo.zero _ _), Below.refl _ _⟩
  case round =>
    obtain ⟨k, hk, rfl, HI, hW⟩ := hrel
    have hz := hW.size
    by_cases hlt : k < l.length
    · obtain ⟨b, off, V, rfl, hb, c0, hV⟩ := IntSS_at.elem HL.out k hlt
      replace c0 := (hW.cell (p := ⟨b, off + k, none⟩) hb).trans c0
      have hcall := HT.out wr l[k] V (HG.out wr hW) (List.getElem_mem hlt) ((hV.below hW (Nat.le_refl _)).more hz)
      obtain ⟨PV, cV, rfl, -⟩ := id hV
      cases hp : p l[k] with
      | true =>
        have HV := Lib.hid (HI.out.hit hlt hp)
        rw [hp] at hcall
        clear hp hV
        go_wp2_with (go_at_fn g; refine hcall.mono ?_; rintro e w1 ⟨rfl, hb1⟩)
        go_ret
        exact ⟨ret_int HV.out.symm, hW.trans (hb1.mono hz)⟩
      | false =>
        have HV := Lib.hid (HI.out.next hlt hp)
        rw [hp] at hcall
        clear hp hV
        go_wp2_with (go_at_fn g; refine hcall.mono ?_; rintro e w1 ⟨rfl, hb1⟩)
        go_roundw
        case rel => exact ⟨k + 1, by omega, by go_num, HV, hW.trans (hb1.mono hz)⟩
        case measure => simp [intOf]; omega
    · obtain rfl : k = l.length := by omega
      have HV := Lib.hid HI.out.miss
      go_wp2
      go_ret
      exact ⟨ret_int HV.out.symm, hW⟩
/-- rows, each with its slice -/
def onR (p : List Int → Bool) (z : List Int × Value) : Bool := p z.1
theorem keepR_fst (p : List Int → Bool) (Z : List (List Int × Value)) : (keepN (onR p) Z).map Prod.fst = keepN p (Z.map Prod.fst) := by
  unfold keepN; rw [List.filter_map]; rfl
set_option maxHeartbeats 3200000 in
set_option maxRecDepth 100000 in
theorem implDelR_any (g : Nat) (lb : Array Value) (eg : ∀ args w, (callFunc g args).run Tryz.prog w = .ok (.enter g args) w) (G : World → Prop) (hG : ∀ W W', G W → Below W.heap.size W W' → G W') (p : List Int → Bool) (l : List (List Int)) (B : Nat) (v : Value) (Vs : List Value) (w : World) (h0 : G w) (ht : TellsR g lb G p l)
    (hn : l.length ≤ 1048576) (hB : B ≤ w.heap.size) (hS : ∀ W q o u, B ≤ q → G W → G (W.setCell ⟨q, o, none⟩ u)) (hO : IntSSO B w.heap.size v Vs l w) :
    Calls Tryz.prog 41 #[v, .func (.func g) #[] lb] w fun e w' => ∃ u, e = .returned u ∧ IntSS_own B w'.heap.size u (keepN p l) w' ∧ Below B w w' := by
  have hix := implIxR_any g lb eg G hG p v l w h0 ht (hO.at_ (Nat.le_refl _))
  rcases ixOf_form p l with ⟨hi, hany⟩ | ⟨k0, hk0, hi, hpk, hbef⟩
  · have HK := Lib.hid (keepN_none hany)
    have HO := Lib.hid hO
    rw [hi] at hix
    have hm1 : ((-1 : Int) == -1) = true := rfl
    obtain ⟨A, c, rfl, -⟩ := (hO.at_ (Nat.le_refl _)).form
    clear hi hany hO hS hG ht h0
    go_enter Tryz.func41, Tryz.ntmps41
    go_wp2_with (go_at_call 86; refine hix.mono ?_; rintro e w1 ⟨rfl, hb1⟩)
    go_ret
    exact ⟨_, rfl, by rw [HK.out]; exact ⟨Vs, (HO.out.below hb1 (Nat.le_refl _)).mono (Nat.le_refl _) hb1.size⟩, hb1.mono hB⟩
  · have hVl := hO.len
    obtain ⟨q, cap, rfl, hq0, hq1, hnc, hcm⟩ : ∃ q cap, v = .slice (some ⟨q, 0, none⟩) l.length cap ∧ B ≤ q ∧ q < w.heap.size ∧ l.length ≤ cap ∧ cap ≤ maxLen := by
      obtain ⟨q, cap, rfl, h1, h2⟩ := World.ownsRow.form hO.row (by omega)
      obtain ⟨A, c, hv, h3, h4⟩ := (hO.at_ (Nat.le_refl _)).form
      injection hv with e1 e2 e3
      subst e3
      exact ⟨q, cap, by rw [hVl], h1, h2, h3, h4⟩
    unfold maxLen at hcm
    obtain ⟨Z, hZ⟩ : ∃ Z, Z = l.zip Vs := ⟨_, rfl⟩
    have hZl : Z.length = l.length := by rw [hZ, List.length_zip]; omega
    have hZ1 : Z.map Prod.fst = l := by rw [hZ]; exact List.map_fst_zip (by omega)
    have hZ2 : Z.map Prod.snd = Vs := by rw [hZ]; exact List.map_snd_zip (by omega)
    have hZe : ∀ z ∈ Z, IntS_own B w.heap.size z.2 z.1 w := fun z hz => by
      obtain ⟨i, hi, rfl⟩ := List.getElem_of_mem hz
      have h1 : i < l.length := by omega
      have h2 : i < Vs.length := by omega
      have e : Z[i] = (l[i], Vs[i]) := by subst hZ; exact List.getElem_zip
      rw [e]; exact hO.el i h1 h2
    have hZa : ∀ j (hj : j < Z.length), Z[j].1 = l[j]'(by omega) := fun j hj => by subst hZ; simp
    clear hZ
    have hn1 : ((k0 : Int) == -1) = false := beq_eq_false_iff_ne.2 (by omega)
    rw [hi] at hix
    have hstart : keepN (onR p) (Z.take (k0 + 1)) = Z.take k0 := keepN_first k0 (by omega) (by show p Z[k0].1 = true; rw [hZa k0 (by omega)]; exact hpk) (fun j hj hjk => by show p Z[j].1 = false; rw [hZa j hj]; exact hbef j (by omega) hjk)
    have HSt := Lib.hid hstart
    have hlt0 : (keepN (onR p) (Z.take Z.length)).length < Z.length := by
      rw [List.take_of_length_le (Nat.le_refl _)]
      exact keepK_lt (List.any_eq_true.2 ⟨Z[k0]'(by omega), List.getElem_mem _, by show p _ = true; rw [hZa k0 (by omega)]; exact hpk⟩)
    have HLT := Lib.hid hlt0
    have HO := Lib.hid hO
    have HT := Lib.hid ht
    have HGI := Lib.hid (And.intro hG hS)
    have H0 := Lib.hid h0
    have HZE := Lib.hid hZe
    have HZM := Lib.hid (fun z (hz : z ∈ Z) => (show z.1 ∈ l by rw [← hZ1]; exact List.mem_map_of_mem hz))
    have HZ12 := Lib.hid (And.intro hZ1 hZ2)
    have hrow0 : w.ownsRow B 31 1 (.slice (some ⟨q, 0, none⟩) Z.length cap) Z.length (Z.map Prod.snd) := by
      have := hO.row
      rw [hVl, ← hZl] at this
      rw [hZ2]; exact this
    have HR0 := Lib.hid hrow0
    have HQT := Lib.hid (ownsRow_cells hrow0 q rfl)
    have hkz : k0 < Z.length := by omega
    have hnz : Z.length ≤ 1048576 := by omega
    have hZc : Z.length ≤ cap := by omega
    rw [← hZl] at hix ⊢
    have HKL := Lib.hid (show (keepN (onR p) Z).map Prod.fst = keepN p l by rw [keepR_fst, hZ1])
    clear hi hstart hlt0 hO hS hG ht h0 hpk hbef hZe hZ1 hZ2 hZa hrow0 hVl hk0 hn hnc hZl
    go_enter Tryz.func41, Tryz.ntmps41
    go_wp2_with fail
    refine hix.mono ?_
    rintro e w1 ⟨rfl, hb1⟩
    go_wp2
    go_loopw [5, 6] (fun i j wr => ∃ k : Nat, k ≤ Z.length ∧ j = .int .i64 k ∧ i = .int .i64 (keepN (onR p) (Z.take k)).length ∧ wr.ownsRow B 31 1 (.slice (some ⟨q, 0, none⟩) Z.length cap) Z.length ((rowK (onR p) Z k).map Prod.snd) ∧ Hid (Chg (fun k => k = q) w wr) ∧ Hid (G wr)) (fun _ j _ => Z.length - (intOf j).toNat)
    case atStart =>
      refine ⟨k0 + 1, by omega, by go_num, ?_, ?_, Lib.hid (Chg.of_below hb1), Lib.hid (HGI.out.1 _ _ H0.out hb1)⟩
      · rw [HSt.out, List.length_take, Nat.min_eq_left (by omega)]
      · have e : rowK (onR p) Z (k0 + 1) = Z := by
          unfold rowK
          rw [HSt.out, List.length_take, Nat.min_eq_left (by omega), List.take_append_drop]
        rw [e]
        exact row_below HR0.out hb1 (Nat.le_refl _)
    case round =>
      obtain ⟨k, hk, rfl, rfl, hrow, HC, HGw⟩ := hrel
      have hz := HC.out.size
      have hik := keepK_le (onR p) Z k
      have hRl := rowK_len (onR p) Z k
      have HIK := Lib.hid hik
      have hqw : q < wr.heap.size := by omega
      have HEL := Lib.hid (show ∀ z ∈ Z, IntS_own B w.heap.size z.2 z.1 wr from fun z hzm => ⟨(HZE.out z hzm).1.chg HC.out (fun g hg e => by
        subst e
        obtain ⟨c1, h1⟩ := ownsRow_cells (HZE.out z hzm).1 g hg
        obtain ⟨c2, h2⟩ := HQT.out
        rw [h1] at h2; cases h2), (HZE.out z hzm).2⟩)
      by_cases hlt : k < Z.length
      · have hc0 : wr.cell? ⟨q, k, none⟩ = some Z[k].2 := by
          rw [World.ownsRow.cellAt hrow k (by omega), List.getElem?_map, List.getElem?_eq_getElem (by omega), rowK_get (onR p) Z k k (Nat.le_refl _) hlt]; rfl
        have HKp := Lib.hid (rowK_keep (onR p) Z k hlt)
        have HDr := Lib.hid (rowK_drop (onR p) Z k hlt)
        have hU := HEL.out Z[k] (List.getElem_mem hlt)
        have hcall := HT.out wr Z[k].1 Z[k].2 HGw.out (HZM.out Z[k] (List.getElem_mem hlt)) (hU.at_ hz)
        obtain ⟨PV, cV, hv, -⟩ := id (hU.at_ (Nat.le_refl _))
        rw [hv] at hc0 hcall
        have HV2 := Lib.hid hv
        have HROW := Lib.hid hrow
        have hil : (keepN (onR p) (Z.take k)).length < Z.length := by omega
        have HIL := Lib.hid hil
        clear hrow hRl hU hv
        cases hp : p Z[k].1 with
        | true =>
          have hd := HDr.out hp
          have HD := Lib.hid hd
          rw [hp] at hcall
          clear hd hp
          go_wp2_with fail
          refine hcall.mono ?_
          rintro e w2 ⟨rfl, hb2⟩
          clear hcall hc0
          go_wp2
          go_roundw
          case rel => exact ⟨k + 1, by omega, by go_num, by rw [HD.out.2], by rw [HD.out.1]; exact row_below HROW.out hb2 (Nat.le_refl _), Lib.hid (HC.out.then_below (hb2.mono hz)), Lib.hid (HGI.out.1 _ _ HGw.out hb2)⟩
          case measure => simp [intOf]; omega
        | false =>
          have hd := HKp.out hp
          have HD := Lib.hid hd
          rw [hp] at hcall
          clear hd hp
          go_wp2_with fail
          refine hcall.mono ?_
          rintro e w2 ⟨rfl, hb2⟩
          have hrow2 := row_below HROW.out hb2 (Nat.le_refl _)
          have d0 : (w2.cell? ⟨q, (keepN (onR p) (Z.take k)).length, none⟩) = some ((rowK (onR p) Z k)[(keepN (onR p) (Z.take k)).length]'(by rw [rowK_len]; exact HIL.out)).2 := by
            rw [World.ownsRow.cellAt hrow2 _ (by have := HIL.out; omega), List.getElem?_map, List.getElem?_eq_getElem (by rw [rowK_len]; exact HIL.out)]; rfl
          have dz := World.ownsRow.frozenAt hrow2
          have HROW2 := Lib.hid ((World.ownsRow.stored hrow2 (keepN (onR p) (Z.take k)).length Z[k].2).1)
          rw [← List.map_set, ← HD.out.1, HV2.out] at HROW2
          have HB2 := Lib.hid hb2
          clear hcall hc0 hrow2 hb2
          go_wp2
          go_roundw
          case rel => exact ⟨k + 1, by omega, by go_num, by rw [HD.out.2]; go_num, HROW2.out, Lib.hid ((HC.out.then_below (HB2.out.mono hz)).setCell (p := ⟨q, (keepN (onR p) (Z.take k)).length, none⟩) rfl _), Lib.hid (HGI.out.2 _ _ _ _ hq0 (HGI.out.1 _ _ HGw.out HB2.out))⟩
          case measure => simp [intOf]; omega
      · obtain rfl : k = Z.length := by omega
        generalize hi0 : (keepN (onR p) (List.take Z.length Z)).length = i0 at *
        have hti : i0 < Z.length := HLT.out
        have hA : keepN (onR p) (Z.take Z.length) = keepN (onR p) Z := by rw [List.take_of_length_le (Nat.le_refl _)]
        have hi0' : (keepN (onR p) Z).length = i0 := by rw [← hA]; exact hi0
        have hcl : ∀ ty, (Builtin.clear_ #[38] ty #[.slice (some ⟨q, i0, none⟩) (Z.length - i0) (cap - i0)]).run Tryz.prog wr = .ok (.tuple #[]) (wr.setCells q i0 (List.replicate (Z.length - i0) (.slice none 0 0))) :=
          fun ty => run_clear_rows Tryz.underlying38 zeroRow_val q _ _ _ (by omega) (fun j hj => by
            rw [World.ownsRow.cellAt hrow _ (by omega), List.getElem?_eq_getElem (by rw [List.length_map, hRl]; omega)]; rfl) (World.ownsRow.frozenAt hrow)
        have hCF := HC.out.trans (chg_setCells (List.replicate (Z.length - i0) (Value.slice none 0 0)) i0 wr)
        have HFIN := Lib.hid (show IntSSO B w.heap.size (.slice (some ⟨q, 0, none⟩) i0 cap) ((keepN (onR p) Z).map Prod.snd) ((keepN (onR p) Z).map Prod.fst) (wr.setCells q i0 (List.replicate (Z.length - i0) (.slice none 0 0))) by
          have h1 := ownsRow_cut (ownsRow_setCells (List.replicate (Z.length - i0) (Value.slice none 0 0)) i0 hrow) (i := i0) (by omega)
          rw [Nat.mul_one, setMany_take] at h1
          have e : ((rowK (onR p) Z Z.length).map Prod.snd).take i0 = (keepN (onR p) Z).map Prod.snd := by
            unfold rowK
            rw [hA, List.map_append, List.take_left' (by rw [List.length_map, hi0'])]
          rw [e] at h1
          refine ⟨by simp, by rw [List.length_map, hi0']; exact h1, (fun g hg => by cases hg; exact hq1), fun i h h' => ?_, ?_⟩
          · simp only [List.getElem_map]
            have hm : (keepN (onR p) Z)[i]'(by simpa using h) ∈ Z := (List.mem_filter.1 (List.getElem_mem _)).1
            exact ⟨(HZE.out _ hm).1.chg hCF (fun g hg e => by
              subst e
              obtain ⟨c1, h1⟩ := ownsRow_cells (HZE.out _ hm).1 g hg
              obtain ⟨c2, h2⟩ := HQT.out
              rw [h1] at h2; cases h2), (HZE.out _ hm).2⟩
          · have h2 := HO.out.dis
            rw [← HZ12.out.2] at h2
            exact h2.sublist ((List.filter_sublist (l := Z)).map Prod.snd))
        have HCF := Lib.hid (hCF.below (B := B) (fun k hk => by subst hk; exact hq0) hB)
        have HCZ := Lib.hid hCF.size
        have hdk : ¬ (Z.length - i0 = 0) := by omega
        have hdk2 : ¬ (cap - i0 = 0) := by omega
        clear hrow hA hi0 hi0' hCF
        go_wp2
        go_ret
        exact ⟨_, rfl, by rw [← HKL.out]; exact ⟨_, HFIN.out.mono (Nat.le_refl _) HCZ.out⟩, HCF.out⟩

end Go.Proofs.YtobdijcnfmgidaaGreat
