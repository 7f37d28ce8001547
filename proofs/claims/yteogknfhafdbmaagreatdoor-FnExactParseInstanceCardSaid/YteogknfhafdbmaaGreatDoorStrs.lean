/-
  Walks and plain lemmas for the laws of this seat: what single Go functions return, for every argument.
-/
import Derived.Test.YteogknfhafdbmaaGreatDoorMem
namespace Go.Proofs.YteogknfhafdbmaaGreatDoor
open Go.RowKit

/-- a slice of strings of the call's own -/
def OwnStrs (B : Nat) (v : Value) (l : List ByteArray) (w : World) : Prop := w.ownsRow B 9 1 v l.length (l.map Value.string)
theorem infoStr : (Tryz.prog.info? 9).map (fun i => (i.zero, i.size, i.bytes)) = some (some (.string ByteArray.empty), 1, 16) := by kernel_rfl
theorem make_strs (w : World) (n c : Nat) (hnc : n ≤ c) (hn : c ≤ 1048576) : (Instr.makeSlice 48 (.int .i64 (n : Int)) (.int .i64 (c : Int))).run Tryz.prog w = .ok (.slice (some ⟨w.heap.size, 0, none⟩) n c) (w.alloc (.cells (madeCells #[.string ByteArray.empty] c) 9)) := by
  obtain ⟨i0, hi, hz0, hz1, hz2⟩ := info_parts infoStr
  have hr := run_make (P := Tryz.prog) w 48 9 i0 _ Tryz.underlying48 hi hz0 .i64 .i64 (n : Int) (c : Int) (by omega) (by omega) (by rw [hz2]; omega) (by omega)
  simp only [Int.toNat_natCast, hz1, Nat.mul_one] at hr
  exact hr
theorem OwnStrs.full (w : World) (n : Nat) (hn : n ≤ 1048576) (B : Nat) (hB : B ≤ w.heap.size) : OwnStrs B (.slice (some ⟨w.heap.size, 0, none⟩) n n) (List.replicate n ByteArray.empty) (w.alloc (.cells (madeCells #[.string ByteArray.empty] n) 9)) := by
  unfold OwnStrs
  have e : (madeCells #[.string ByteArray.empty] n).toList = (List.replicate n ByteArray.empty).map Value.string := by rw [toList_madeCells_one, List.map_replicate]
  rw [← e, List.length_replicate]
  exact World.ownsRow_lit w _ n hB (by unfold maxLen; omega) (by rw [size_madeCells, Nat.mul_one])
theorem OwnStrs.cell {B g n cap : Nat} {l : List ByteArray} {w : World} (h : OwnStrs B (.slice (some ⟨g, 0, none⟩) n cap) l w) (hn : l.length = n) (j : Nat) (hj : j < l.length) : w.cell? ⟨g, j, none⟩ = some (.string l[j]) := by
  subst hn
  rw [World.ownsRow.cellAt h j (by omega)]; simp [hj]
theorem OwnStrs.frozen {B g n cap : Nat} {l : List ByteArray} {w : World} (h : OwnStrs B (.slice (some ⟨g, 0, none⟩) n cap) l w) (hn : l.length = n) (j : Nat) : w.frozen? ⟨g, j, none⟩ = false := by
  subst hn; exact World.ownsRow.frozenAt h j
theorem OwnStrs.set {B g n cap : Nat} {l : List ByteArray} {w : World} (h : OwnStrs B (.slice (some ⟨g, 0, none⟩) n cap) l w) (hn : l.length = n) (j : Nat) (s : ByteArray) :
    OwnStrs B (.slice (some ⟨g, 0, none⟩) n cap) (l.set j s) (w.setCell ⟨g, j, none⟩ (.string s)) := by
  subst hn
  have := (World.ownsRow.stored h j (.string s)).1
  unfold OwnStrs
  rw [List.length_set, List.map_set]
  exact this
theorem own_below {w w' : World} {B B' k n : Nat} {e : TypeId} {v : Value} {xs : List Value} (h : w.ownsRow B e k v n xs) (hb : Below B' w w') (hB : w.heap.size ≤ B') : w'.ownsRow B e k v n xs :=
  World.ownsRow.kept (row := none) h ⟨hb.os, hb.tape, hb.output, hb.size, fun k hk _ => hb.block k (Nat.lt_of_lt_of_le hk hB)⟩ (by
    cases h' : v.ownBlock with
    | none => exact .inl rfl
    | some g => exact .inr (by simp))
theorem OwnStrs.below {B B' : Nat} {v : Value} {l : List ByteArray} {w w' : World} (h : OwnStrs B v l w) (hb : Below B' w w') (hB : w.heap.size ≤ B') : OwnStrs B v l w' := own_below h hb hB

theorem flat_str (l : List ByteArray) : l.flatMap (fun s => [Value.string s]) = l.map Value.string := by
  induction l with
  | nil => rfl
  | cons a t ih => rw [List.flatMap_cons, List.map_cons, ih]; rfl
theorem OwnStrs.empty (w : World) (B : Nat) (hB : B ≤ w.heap.size) : OwnStrs B (.slice (some ⟨w.heap.size, 0, none⟩) 0 0) [] (w.alloc (.cells #[] 9)) :=
  World.ownsRow_lit w #[] 0 hB (by decide) rfl
/-- append(l, s) -/
theorem strs_app1 {ops : Array Oper} {rest : List Oper} {o : Oper} {a : Act} {Q : Exit → Act → World → Prop} {B : Nat} {v : Value} {l : List ByteArray} {w : World} (hO : OwnStrs B v l w)
    (hgd : o.guard = none) (s x : Operand) (ho : o.op = .call { callee := .builtin .append, args := #[s, x], argTypes := #[48, 48] }) (hs : a.eval s = v) (r : ByteArray) (c bs : Nat) (hx : a.eval x = .slice (some ⟨bs, 0, none⟩) 1 c) (hbs : bs = w.heap.size)
    (hlen : l.length < 1048577) (hbase : B ≤ w.heap.size) (h : ∀ v' w', OwnStrs B v' (l ++ [r]) w' → Below B w w' → w.grownBy w' v.ownBlock → wpList Tryz.prog ops Q rest (a.put o.dst v') w') :
    wpList Tryz.prog ops Q (o :: rest) a (w.alloc (.cells #[.string r] 9)) := by
  unfold OwnStrs at hO
  rw [← flat_str] at hO
  refine wp_own_app (fun s => [Value.string s]) 1 16 (fun x u hu => by simp at hu; subst hu; rfl) (fun _ => rfl) Tryz.underlying48 infoStr rfl (by decide) hO hgd s x ho hs r c (by rw [hx, hbs]) (by omega) (by omega) hbase ?_
  intro v' w' h1 h2 h3
  refine h v' w' ?_ h2 h3
  unfold OwnStrs
  rw [← flat_str]; exact h1
abbrev StrsAt (w : World) (B : Nat) (v : Value) (l : List ByteArray) : Prop := SliceAt (fun s : ByteArray => [Value.string s]) w B v l
theorem OwnStrs.at_ {B : Nat} {v : Value} {l : List ByteArray} {w : World} (h : OwnStrs B v l w) : StrsAt w w.heap.size v l := by
  unfold OwnStrs at h
  rw [← flat_str] at h
  exact SliceAt.of_own h
theorem OwnStrs.form {B : Nat} {v : Value} {l : List ByteArray} {w : World} (h : OwnStrs B v l w) : ∃ A c, v = .slice A l.length c ∧ l.length ≤ c ∧ c ≤ maxLen := by
  obtain ⟨A, c, h1, h2, h3, _⟩ := h.at_
  exact ⟨A, c, h1, h2, h3⟩
theorem StrsAt.elem {w : World} {B c : Nat} {A : Option Addr} {l : List ByteArray} (h : StrsAt w B (.slice A l.length c) l) (j : Nat) (hj : j < l.length) :
    ∃ b off, A = some ⟨b, off, none⟩ ∧ b < B ∧ w.cell? ⟨b, off + j, none⟩ = some (.string l[j]) := by
  obtain ⟨A', c', hv, h1, h2, h3⟩ := h
  obtain ⟨b, off, hA, hb, hc⟩ := h3.1 (by omega)
  subst hA
  injection hv with h4 _ _
  subst h4
  refine ⟨b, off, rfl, hb, hc j _ ?_⟩
  rw [flat_str]; simp [hj]

end Go.Proofs.YteogknfhafdbmaaGreatDoor
