/-
  Walks and plain lemmas for the laws of this seat: what single Go functions return, for every argument.
-/
import Derived.Test.YtmecdjincmkofaaGreatDoorBase
import Derived.Test.YtmecdjincmkofaaGreatDoorMem
import Derived.Test.YtmecdjincmkofaaGreatDoorRels
import Derived.Test.YtmecdjincmkofaaGreatDoorCut
namespace Go.Proofs.YtmecdjincmkofaaGreatDoor
open Go.RowKit

set_option maxHeartbeats 800000 in
theorem specRelationIndex_any (v : Value) (l : List Rel) (s : ByteArray) (w : World) (hl : RelsAt w w.heap.size v l) :
    Calls Tryz.prog 110 #[v, .string s] w fun e w' => e = .returned (.int .i64 (relIdx s l)) ∧ w = w' := by
  have HL := Lib.hid hl
  obtain ⟨A, c, rfl, hlc, hcm, -⟩ := hl
  unfold maxLen at hcm
  go_enter Tryz.func110, Tryz.ntmps110
  go_wp2
  go_loop [5] (fun i => ∃ k : Nat, k ≤ l.length ∧ i = .int .i64 k ∧ Hid (NoneTo s l k)) (fun i => l.length - (intOf i).toNat)
  case atStart => exact ⟨0, by omega, rfl, Lib.hid (NoneTo.zero s l)⟩
  case round =>
    obtain ⟨k, hk, rfl, HT⟩ := hrel
    by_cases hlt : k < l.length
    · obtain ⟨b, off, rfl, hb, c0, c1, c2⟩ := RelsAt.elem HL.out k hlt
      by_cases he : l[k].name = s
      · have HV := Lib.hid (HT.out.hit hlt he)
        have he' : (l[k].name.toList == s.toList) = true := by rw [he]; exact str_eq s
        clear he
        go_wp2
        go_ret
        exact ⟨ret_int HV.out.symm, rfl⟩
      · have HV := Lib.hid (HT.out.next hlt he)
        have he' := str_ne he
        clear he
        go_wp2
        go_round
        case rel => exact ⟨k + 1, by omega, by go_num, HV⟩
        case measure => simp [intOf]; omega
    · obtain rfl : k = l.length := by omega
      have HV := Lib.hid HT.out.miss
      go_wp2
      go_ret
      exact ⟨ret_int HV.out.symm, rfl⟩

set_option maxHeartbeats 800000 in
theorem relIndexEq_any (s : ByteArray) (a : Int) (b : Bool) (B : Nat) (t : ByteArray) (q : Bool) (hq : (s.toList == t.toList) = q) (w : World) (hB : B < w.heap.size) (hc : w.cell? ⟨B, 0, none⟩ = some (.string t)) :
    Calls Tryz.prog 187 #[.agg #[.string s, .int .i64 a, .bool b], .pointer (some ⟨B, 0, none⟩)] w fun e w' => e = .returned (.bool q) ∧ Below w.heap.size w w' := by
  have hne : w.heap.size ≠ B := by omega
  go_enter Tryz.func187, Tryz.ntmps187
  go_wp2
  go_ret
  exact ⟨rfl, below_more (Below.refl _ _) _⟩
set_option maxHeartbeats 1600000 in
theorem indexFuncRel_any (v : Value) (l : List Rel) (s : ByteArray) (B : Nat) (w : World) (hl : RelsAt w w.heap.size v l) (hB : B < w.heap.size) (hc : w.cell? ⟨B, 0, none⟩ = some (.string s)) :
    Calls Tryz.prog 186 #[v, .func (.func 187) #[] #[.pointer (some ⟨B, 0, none⟩)]] w fun e w' => e = .returned (.int .i64 (relIdx s l)) ∧ Below w.heap.size w w' := by
  have HL := Lib.hid hl
  obtain ⟨A, c, rfl, hlc, hcm, -⟩ := hl
  unfold maxLen at hcm
  go_enter Tryz.func186, Tryz.ntmps186
  go_wp2
  go_loopw [8] (fun i wr => ∃ k : Nat, k ≤ l.length ∧ i = .int .i64 k ∧ Hid (NoneTo s l k) ∧ Below w.heap.size w wr) (fun i _ => l.length - (intOf i).toNat)
  case atStart => exact ⟨0, by omega, rfl, Lib.hid (NoneTo.zero s l), Below.refl _ _⟩
  case round =>
    obtain ⟨k, hk, rfl, HT, hW⟩ := hrel
    have hz := hW.size
    have hBr : B < wr.heap.size := by omega
    have hcr := (hW.cell (p := ⟨B, 0, none⟩) hB).trans hc
    clear hc
    by_cases hlt : k < l.length
    · obtain ⟨b, off, rfl, hb, c0, c1, c2⟩ := RelsAt.elem (HL.out.below hW (Nat.le_refl _)) k hlt
      by_cases he : l[k].name = s
      · have HV := Lib.hid (HT.out.hit hlt he)
        have hcon := relIndexEq_any l[k].name l[k].arity l[k].source B s true (by rw [he]; exact str_eq s) wr hBr hcr
        clear he hcr
        go_wp2_with (go_at_call 187; refine hcon.mono ?_; rintro e w1 ⟨rfl, hb1⟩)
        go_ret
        exact ⟨ret_int HV.out.symm, hW.trans (hb1.mono hz)⟩
      · have HV := Lib.hid (HT.out.next hlt he)
        have hcon := relIndexEq_any l[k].name l[k].arity l[k].source B s false (str_ne he) wr hBr hcr
        clear he hcr
        go_wp2_with (go_at_call 187; refine hcon.mono ?_; rintro e w1 ⟨rfl, hb1⟩)
        go_roundw
        case rel => exact ⟨k + 1, by omega, by go_num, HV, hW.trans (hb1.mono hz)⟩
        case measure => simp [intOf]; omega
    · obtain rfl : k = l.length := by omega
      have HV := Lib.hid HT.out.miss
      go_wp2
      go_ret
      exact ⟨ret_int HV.out.symm, hW⟩
set_option maxHeartbeats 800000 in
theorem implRelationIndex_any (v : Value) (l : List Rel) (s : ByteArray) (w : World) (hl : RelsAt w w.heap.size v l) :
    Calls Tryz.prog 104 #[v, .string s] w fun e w' => e = .returned (.int .i64 (relIdx s l)) ∧ Below w.heap.size w w' := by
  go_enter Tryz.func104, Tryz.ntmps104
  go_wp2_with fail
  refine (indexFuncRel_any v l s w.heap.size _ ((hl.below ((Below.refl _ _).alloc (Nat.le_refl _) _) (Nat.le_refl _)).more (by simp)) (by simp) (box_cell _ _ _ 0)).mono ?_
  rintro e w1 ⟨rfl, hb1⟩
  go_wp2
  go_ret
  exact ⟨rfl, ((Below.refl _ _).alloc (Nat.le_refl _) _).trans (hb1.mono (by simp))⟩

/-- a slice of strings of the call's own -/
def OwnStrs (B : Nat) (v : Value) (l : List ByteArray) (w : World) : Prop := w.ownsRow B 9 1 v l.length (l.map Value.string)
theorem infoStr : (Tryz.prog.info? 9).map (fun i => (i.zero, i.size, i.bytes)) = some (some (.string ByteArray.empty), 1, 16) := by kernel_rfl
theorem make_strs (w : World) (n c : Nat) (hnc : n ≤ c) (hn : c ≤ 1048576) : (Instr.makeSlice 94 (.int .i64 (n : Int)) (.int .i64 (c : Int))).run Tryz.prog w = .ok (.slice (some ⟨w.heap.size, 0, none⟩) n c) (w.alloc (.cells (madeCells #[.string ByteArray.empty] c) 9)) := by
  obtain ⟨i0, hi, hz0, hz1, hz2⟩ := info_parts infoStr
  have hr := run_make (P := Tryz.prog) w 94 9 i0 _ Tryz.underlying94 hi hz0 .i64 .i64 (n : Int) (c : Int) (by omega) (by omega) (by rw [hz2]; omega) (by omega)
  simp only [Int.toNat_natCast, hz1, Nat.mul_one] at hr
  exact hr
theorem OwnStrs.full (w : World) (n : Nat) (hn : n ≤ 1048576) (B : Nat) (hB : B ≤ w.heap.size) : OwnStrs B (.slice (some ⟨w.heap.size, 0, none⟩) n n) (List.replicate n ByteArray.empty) (w.alloc (.cells (madeCells #[.string ByteArray.empty] n) 9)) := by
  unfold OwnStrs
  have e : (madeCells #[.string ByteArray.empty] n).toList = (List.replicate n ByteArray.empty).map Value.string := by rw [toList_madeCells_one, List.map_replicate]
  rw [← e, List.length_replicate]
  exact World.ownsRow_lit w _ n hB (by unfold maxLen; omega) (by rw [size_madeCells, Nat.mul_one])
theorem OwnStrs.cell {B g n cap : Nat} {l : List ByteArray} {w : World} (h : OwnStrs B (.slice (some ⟨g, 0, none⟩) n cap) l w) (hn : l.length = n) (j : Nat) (hj : j < l.length) : w.cell? ⟨g, j, none⟩ = some (.string l[j]) := by
  subst hn
  rw [World.ownsRow.cellAt h j (by omega)]; simp [hj]
theorem OwnStrs.frozen {B g n cap : Nat} {l : List ByteArray} {w : World} (h : OwnStrs B (.slice (some ⟨g, 0, none⟩) n cap) l w) (hn : l.length = n) (j : Nat) : w.frozen? ⟨g, j, none⟩ = false := by
  subst hn; exact World.ownsRow.frozenAt h j
theorem OwnStrs.set {B g n cap : Nat} {l : List ByteArray} {w : World} (h : OwnStrs B (.slice (some ⟨g, 0, none⟩) n cap) l w) (hn : l.length = n) (j : Nat) (s : ByteArray) :
    OwnStrs B (.slice (some ⟨g, 0, none⟩) n cap) (l.set j s) (w.setCell ⟨g, j, none⟩ (.string s)) := by
  subst hn
  have := (World.ownsRow.stored h j (.string s)).1
  unfold OwnStrs
  rw [List.length_set, List.map_set]
  exact this
theorem own_below {w w' : World} {B B' k n : Nat} {e : TypeId} {v : Value} {xs : List Value} (h : w.ownsRow B e k v n xs) (hb : Below B' w w') (hB : w.heap.size ≤ B') : w'.ownsRow B e k v n xs :=
  World.ownsRow.kept (row := none) h ⟨hb.os, hb.tape, hb.output, hb.size, fun k hk _ => hb.block k (Nat.lt_of_lt_of_le hk hB)⟩ (by
    cases h' : v.ownBlock with
    | none => exact .inl rfl
    | some g => exact .inr (by simp))
theorem OwnStrs.below {B B' : Nat} {v : Value} {l : List ByteArray} {w w' : World} (h : OwnStrs B v l w) (hb : Below B' w w') (hB : w.heap.size ≤ B') : OwnStrs B v l w' := own_below h hb hB

theorem flat_str (l : List ByteArray) : l.flatMap (fun s => [Value.string s]) = l.map Value.string := by
  induction l with
  | nil => rfl
  | cons a t ih => rw [List.flatMap_cons, List.map_cons, ih]; rfl
theorem OwnStrs.empty (w : World) (B : Nat) (hB : B ≤ w.heap.size) : OwnStrs B (.slice (some ⟨w.heap.size, 0, none⟩) 0 0) [] (w.alloc (.cells #[] 9)) :=
  World.ownsRow_lit w #[] 0 hB (by decide) rfl
/-- append(l, s) -/
theorem strs_app1 {ops : Array Oper} {rest : List Oper} {o : Oper} {a : Act} {Q : Exit → Act → World → Prop} {B : Nat} {v : Value} {l : List ByteArray} {w : World} (hO : OwnStrs B v l w)
    (hgd : o.guard = none) (s x : Operand) (ho : o.op = .call { callee := .builtin .append, args := #[s, x], argTypes := #[94, 94] }) (hs : a.eval s = v) (r : ByteArray) (c bs : Nat) (hx : a.eval x = .slice (some ⟨bs, 0, none⟩) 1 c) (hbs : bs = w.heap.size)
    (hlen : l.length < 1048577) (hbase : B ≤ w.heap.size) (h : ∀ v' w', OwnStrs B v' (l ++ [r]) w' → Below B w w' → w.grownBy w' v.ownBlock → wpList Tryz.prog ops Q rest (a.put o.dst v') w') :
    wpList Tryz.prog ops Q (o :: rest) a (w.alloc (.cells #[.string r] 9)) := by
  unfold OwnStrs at hO
  rw [← flat_str] at hO
  refine wp_own_app (fun s => [Value.string s]) 1 16 (fun x u hu => by simp at hu; subst hu; rfl) (fun _ => rfl) Tryz.underlying94 infoStr rfl (by decide) hO hgd s x ho hs r c (by rw [hx, hbs]) (by omega) (by omega) hbase ?_
  intro v' w' h1 h2 h3
  refine h v' w' ?_ h2 h3
  unfold OwnStrs
  rw [← flat_str]; exact h1
abbrev StrsAt (w : World) (B : Nat) (v : Value) (l : List ByteArray) : Prop := SliceAt (fun s : ByteArray => [Value.string s]) w B v l
theorem OwnStrs.at_ {B : Nat} {v : Value} {l : List ByteArray} {w : World} (h : OwnStrs B v l w) : StrsAt w w.heap.size v l := by
  unfold OwnStrs at h
  rw [← flat_str] at h
  exact SliceAt.of_own h
theorem OwnStrs.form {B : Nat} {v : Value} {l : List ByteArray} {w : World} (h : OwnStrs B v l w) : ∃ A c, v = .slice A l.length c ∧ l.length ≤ c ∧ c ≤ maxLen := by
  obtain ⟨A, c, h1, h2, h3, _⟩ := h.at_
  exact ⟨A, c, h1, h2, h3⟩
theorem StrsAt.elem {w : World} {B c : Nat} {A : Option Addr} {l : List ByteArray} (h : StrsAt w B (.slice A l.length c) l) (j : Nat) (hj : j < l.length) :
    ∃ b off, A = some ⟨b, off, none⟩ ∧ b < B ∧ w.cell? ⟨b, off + j, none⟩ = some (.string l[j]) := by
  obtain ⟨A', c', hv, h1, h2, h3⟩ := h
  obtain ⟨b, off, hA, hb, hc⟩ := h3.1 (by omega)
  subst hA
  injection hv with h4 _ _
  subst h4
  refine ⟨b, off, rfl, hb, hc j _ ?_⟩
  rw [flat_str]; simp [hj]

/-- the pieces between the spaces, in memory of the call's own -/
def GivesCut (c : UInt8) (s : ByteArray) (w : World) (e : Ending) (w' : World) : Prop := ∃ v l, e = .returned v ∧ dataOf l = cutA c s.data.toList ∧ OwnStrs w.heap.size v l w' ∧ Below w.heap.size w w'
theorem extract_mid (s : ByteArray) (f k : Nat) : (s.extract f k).data.toList = (s.data.toList.take k).drop f := by
  rw [Lib.extract_data, List.drop_take]
set_option maxHeartbeats 1600000 in
theorem specCutAt_any (c : UInt8) (s : ByteArray) (w : World) (hs : s.size ≤ 1048576) :
    Calls Tryz.prog 81 #[.string s, .int .u8 ((c.toNat : Nat) : Int)] w (GivesCut c s w) := by
  go_enter Tryz.func81, Tryz.ntmps81
  go_wp2
  go_loopw [5, 6, 7] (fun v f i wr => ∃ k j : Nat, ∃ l : List ByteArray, k ≤ s.size ∧ j ≤ k ∧ l.length ≤ k ∧ i = .int .i64 k ∧ f = .int .i64 j ∧ OwnStrs w.heap.size v l wr ∧ Hid (CutInv c s.data.toList (dataOf l) j k) ∧ Below w.heap.size w wr) (fun _ _ i _ => s.size - (intOf i).toNat)
  case atStart => exact ⟨0, 0, [], by omega, by omega, by simp, rfl, rfl, OwnStrs.empty w _ (Nat.le_refl _), Lib.hid (CutInv.zero _ _), (Below.refl _ _).alloc (Nat.le_refl _) _⟩
  case round =>
    obtain ⟨k, j, l, hk, hj, hl, rfl, rfl, hO, HC, hW⟩ := hrel
    have hz := hW.size
    by_cases hlt : k < s.size
    · have hlt' : k < s.data.toList.length := by simpa using hlt
      by_cases he : s[k] = c
      · have hb : (((s[k].toNat : Nat) : Int) == ((c.toNat : Nat) : Int)) = true := by rw [he]; exact beq_self_eq_true _
        have HI := Lib.hid (HC.out.hit hlt' he)
        clear he
        go_wp2_with (at_builtin; refine strs_app1 hO rfl _ _ rfl rfl _ _ _ rfl rfl (by omega) hz ?_; intro v' w1 hO1 hW1 _)
        go_roundw
        case rel => exact ⟨k + 1, k + 1, _, by omega, by omega, by simp; omega, by go_num, by go_num, hO1, by rw [dataOf_snoc, extract_mid]; exact HI, hW.trans hW1⟩
        case measure => simp [intOf]; omega
      · have hb : (((s[k].toNat : Nat) : Int) == ((c.toNat : Nat) : Int)) = false := by
          rw [beq_eq_false_iff_ne]
          intro e
          exact he (UInt8.toNat_inj.1 (by omega))
        have HI := Lib.hid (HC.out.miss hlt' he)
        clear he
        go_wp2
        go_roundw
        case rel => exact ⟨k + 1, j, l, by omega, by omega, by omega, by go_num, rfl, hO, HI, hW⟩
        case measure => simp [intOf]; omega
    · obtain rfl : k = s.size := by omega
      have HD := Lib.hid (HC.out.done (by simp))
      go_wp2_with (at_builtin; refine strs_app1 hO rfl _ _ rfl rfl _ _ _ rfl rfl (by omega) hz ?_; intro v' w1 hO1 hW1 _)
      go_ret
      exact ⟨_, _, rfl, by rw [HD.out, dataOf_snoc, extract_mid, List.take_of_length_le (by simp)], hO1, hW.trans hW1⟩
theorem specCut_any (s : ByteArray) (w : World) (hs : s.size ≤ 1048576) :
    Calls Tryz.prog 81 #[.string s, .int .u8 32] w (GivesCut 32 s w) := specCutAt_any 32 s w hs

end Go.Proofs.YtmecdjincmkofaaGreatDoor
