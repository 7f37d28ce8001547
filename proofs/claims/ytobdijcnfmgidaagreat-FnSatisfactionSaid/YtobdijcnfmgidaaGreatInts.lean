/- Walks and plain lemmas for the laws of this seat. -/
import Derived.Test.YtobdijcnfmgidaaGreatBase
namespace Go.Proofs.YtobdijcnfmgidaaGreat
open Go.RowKit
def intCell (n : Int) : List Value := [.int .i64 n]
theorem flat_int (l : List Int) : l.flatMap intCell = l.map (Value.int .i64) := by
 induction l with
 | nil => rfl
 | cons a t ih => rw [List.flatMap_cons,List.map_cons,ih]; rfl
abbrev IntsAt (w : World) (B : Nat) (v : Value) (l : List Int) : Prop := SliceAt intCell w B v l
def OwnInts (B : Nat) (v : Value) (l : List Int) (w : World) : Prop := w.ownsRow B 3 1 v l.length (l.map (Value.int .i64))
theorem OwnInts.at_ {B : Nat} {v : Value} {l : List Int} {w : World} (h : OwnInts B v l w) : IntsAt w w.heap.size v l := by
 unfold OwnInts at h
 rw [← flat_int] at h
 exact SliceAt.of_own h
theorem IntsAt.elem {w : World} {B c : Nat} {A : Option Addr} {l : List Int} (h : IntsAt w B (.slice A l.length c) l) (j : Nat) (hj : j < l.length) :
 ∃ b off,A = some ⟨b,off,none⟩ ∧ b < B ∧ w.cell? ⟨b,off + j,none⟩ = some (.int .i64 l[j]) := by
 obtain ⟨A',c',hv,h1,h2,h3⟩ := h
 obtain ⟨b,off,hA,hb,hc⟩ := h3.1 (by omega)
 subst hA
 injection hv with h4 _ _
 subst h4
 refine ⟨b,off,rfl,hb,hc j _ ?_⟩
 rw [flat_int]; simp [hj]
theorem infoInt : (Tryz.prog.info? 3).map (fun i => (i.zero, i.size, i.bytes)) = some (some (.int .i64 0), 1, 8) := by kernel_rfl
theorem OwnInts.full (w : World) (n : Nat) (hn : n ≤ 1048576) (B : Nat) (hB : B ≤ w.heap.size) : OwnInts B (.slice (some ⟨w.heap.size, 0, none⟩) n n) (List.replicate n 0) (w.alloc (.cells (madeCells #[.int .i64 0] n) 3)) := by
 unfold OwnInts
 have e : (madeCells #[.int .i64 0] n).toList = (List.replicate n (0 : Int)).map (Value.int .i64) := by rw [toList_madeCells_one,List.map_replicate]
 rw [← e,List.length_replicate]
 exact World.ownsRow_lit w _ n hB (by unfold maxLen; omega) (by rw [size_madeCells,Nat.mul_one])
theorem OwnInts.empty (w : World) (B : Nat) (hB : B ≤ w.heap.size) : OwnInts B (.slice (some ⟨w.heap.size, 0, none⟩) 0 0) [] (w.alloc (.cells #[] 3)) :=
 World.ownsRow_lit w #[] 0 hB (by decide) rfl
theorem OwnInts.nil (w : World) (B : Nat) : OwnInts B (.slice none 0 0) [] w := World.ownsRow_nil w B _ _
theorem OwnInts.one (w : World) (B : Nat) (x : Int) (hB : B ≤ w.heap.size) : OwnInts B (.slice (some ⟨w.heap.size, 0, none⟩) 1 1) [x] (w.alloc (.cells #[.int .i64 x] 3)) :=
 World.ownsRow_lit w #[.int .i64 x] 1 hB (by decide) rfl
theorem OwnInts.cell {B g n cap : Nat} {l : List Int} {w : World} (h : OwnInts B (.slice (some ⟨g, 0, none⟩) n cap) l w) (hn : l.length = n) (j : Nat) (hj : j < l.length) : w.cell? ⟨g, j, none⟩ = some (.int .i64 l[j]) := by
 subst hn
 rw [World.ownsRow.cellAt h j (by omega)]; simp [hj]
theorem OwnInts.frozen {B g n cap : Nat} {l : List Int} {w : World} (h : OwnInts B (.slice (some ⟨g, 0, none⟩) n cap) l w) (hn : l.length = n) (j : Nat) : w.frozen? ⟨g, j, none⟩ = false := by
 subst hn; exact World.ownsRow.frozenAt h j
theorem OwnInts.set {B g n cap : Nat} {l : List Int} {w : World} (h : OwnInts B (.slice (some ⟨g, 0, none⟩) n cap) l w) (hn : l.length = n) (j : Nat) (x : Int) :
 OwnInts B (.slice (some ⟨g,0,none⟩) n cap) (l.set j x) (w.setCell ⟨g,j,none⟩ (.int .i64 x)) := by
 subst hn
 have := (World.ownsRow.stored h j (.int .i64 x)).1
 unfold OwnInts
 rw [List.length_set,List.map_set]
 exact this
theorem OwnInts.below {B B' : Nat} {v : Value} {l : List Int} {w w' : World} (h : OwnInts B v l w) (hb : Below B' w w') (hB : w.heap.size ≤ B') : OwnInts B v l w' := row_below h hb hB
theorem ints_app1 {ops : Array Oper} {rest : List Oper} {o : Oper} {a : Act} {Q : Exit → Act → World → Prop} {B : Nat} {v : Value} {l : List Int} {w : World} (hO : OwnInts B v l w)
 (hgd : o.guard = none) (s x : Operand) (ho : o.op = .call { callee := .builtin .append,args := #[s,x],argTypes := #[31,31] }) (hs : a.eval s = v) (r : Int) (c bs : Nat) (hx : a.eval x = .slice (some ⟨bs,0,none⟩) 1 c) (hbs : bs = w.heap.size)
 (hlen : l.length < 1048577) (hbase : B ≤ w.heap.size) (h : ∀ v' w',OwnInts B v' (l ++ [r]) w' → Below B w w' → w.grownBy w' v.ownBlock → wpList Tryz.prog ops Q rest (a.put o.dst v') w') :
 wpList Tryz.prog ops Q (o :: rest) a (w.alloc (.cells #[.int .i64 r] 3)) := by
 unfold OwnInts at hO
 rw [← flat_int] at hO
 refine wp_own_app intCell 1 8 (fun x u hu => by simp [intCell] at hu; subst hu; rfl) (fun _ => rfl) Tryz.underlying31 infoInt rfl (by decide) hO hgd s x ho hs r c (by rw [hx,hbs]) (by omega) (by omega) hbase ?_
 intro v' w' h1 h2 h3
 refine h v' w' ?_ h2 h3
 unfold OwnInts
 rw [← flat_int]; exact h1
def IntsWf (l : List Int) : Prop := ∀ (i : Nat) (h : i < l.length), -9223372036854775808 ≤ l[i] ∧ l[i] ≤ 9223372036854775807
theorem OwnInts.chg {S : Nat → Prop} {B : Nat} {v : Value} {l : List Int} {w w' : World} (h : OwnInts B v l w) (hc : Chg S w w') (hS : ∀ g, v.ownBlock = some g → ¬ S g) : OwnInts B v l w' := hc.row h hS
theorem OwnInts.lt {B : Nat} {v : Value} {l : List Int} {w : World} (h : OwnInts B v l w) : ∀ g, v.ownBlock = some g → B ≤ g ∧ g < w.heap.size := World.ownsRow.lt h
def IntsO (B C : Nat) (v : Value) (l : List Int) (w : World) : Prop := OwnInts B v l w ∧ Value.inside C v
theorem OwnInts.mono {B B' : Nat} {v : Value} {l : List Int} {w : World} (h : OwnInts B v l w) (hB : B' ≤ B) : OwnInts B' v l w := by
 refine ⟨h.1,?_⟩
 rcases h.2 with hn | ⟨g,cap,cur,rfl,hb,rest⟩
 · exact .inl hn
 · exact .inr ⟨g,cap,cur,rfl,Nat.le_trans hB hb,rest⟩
theorem IntsO.of {B : Nat} {v : Value} {l : List Int} {w : World} (h : OwnInts B v l w) : IntsO B w.heap.size v l w := ⟨h, fun g hg => (h.lt g hg).2⟩
theorem IntsO.mono {B B' C C' : Nat} {v : Value} {l : List Int} {w : World} (h : IntsO B C v l w) (hB : B' ≤ B) (hC : C ≤ C') : IntsO B' C' v l w := ⟨h.1.mono hB, fun g hg => Nat.lt_of_lt_of_le (h.2 g hg) hC⟩
theorem IntsO.at_ {B C D : Nat} {v : Value} {l : List Int} {w : World} (h : IntsO B C v l w) (hD : C ≤ D) : IntsAt w D v l := SliceAt.inside h.1.at_ (fun g hg => Nat.lt_of_lt_of_le (h.2 g hg) hD)
theorem IntsO.chg {B C B' C' : Nat} {v : Value} {l : List Int} {w w' : World} (h : IntsO B C v l w) (hc : Chg (Mid B' C') w w') (hd : C ≤ B' ∨ C' ≤ B) : IntsO B C v l w' :=
 ⟨h.1.chg hc (fun g hg hm => by have h1 := (h.1.lt g hg).1; have h2 := h.2 g hg; have h3 : B' ≤ g := hm.1; have h4 : g < C' := hm.2; omega),h.2⟩
theorem IntsO.below {B C D : Nat} {v : Value} {l : List Int} {w w' : World} (h : IntsO B C v l w) (hb : Below D w w') (hD : C ≤ D) : IntsO B C v l w' :=
 ⟨h.1.chg (Chg.of_below' hb) (fun g hg hm => by have h2 := h.2 g hg; have h3 : D ≤ g := hm; omega),h.2⟩
def IntS_at (w : World) (B : Nat) (v : Value) (l : List Int) : Prop := IntsAt w B v l
def IntS_own (B C : Nat) (v : Value) (l : List Int) (w : World) : Prop := IntsO B C v l w
theorem IntS_at.below {w w' : World} {B B' : Nat} {v : Value} {l : List Int} (h : IntS_at w B v l) (hb : Below B' w w') (hB : B ≤ B') : IntS_at w' B v l := SliceAt.below h hb hB
theorem IntS_at.more {w : World} {B B' : Nat} {v : Value} {l : List Int} (h : IntS_at w B v l) (hB : B ≤ B') : IntS_at w B' v l := SliceAt.more h hB
theorem IntS_own.at_ {B C D : Nat} {v : Value} {l : List Int} {w : World} (h : IntS_own B C v l w) (hD : C ≤ D) : IntS_at w D v l := IntsO.at_ h hD
theorem IntS_own.chg {B C B' C' : Nat} {v : Value} {l : List Int} {w w' : World} (h : IntS_own B C v l w) (hc : Chg (Mid B' C') w w') (hd : C ≤ B' ∨ C' ≤ B) : IntS_own B C v l w' := IntsO.chg h hc hd
theorem IntS_own.below {B C D : Nat} {v : Value} {l : List Int} {w w' : World} (h : IntS_own B C v l w) (hb : Below D w w') (hD : C ≤ D) : IntS_own B C v l w' := IntsO.below h hb hD
def IntS_wf (l : List Int) : Prop := IntsWf l
def cmpInts : List Int → List Int → Int
 | [],[] => 0
 | [],_ :: _ => -1
 | _ :: _,[] => 1
 | x :: a,y :: b => if x < y then -1 else if y < x then 1 else cmpInts a b
theorem cmpInts_at {a b : List Int} {k : Nat} (h : k < a.length) (h' : k < b.length) : cmpInts (a.drop k) (b.drop k) = if a[k] < b[k] then -1 else if b[k] < a[k] then 1 else cmpInts (a.drop (k + 1)) (b.drop (k + 1)) := by
 rw [List.drop_eq_getElem_cons h,List.drop_eq_getElem_cons h']; rfl
def CmpTo (a b : List Int) (k : Nat) : Prop := cmpInts a b = cmpInts (a.drop k) (b.drop k)
theorem CmpTo.zero (a b : List Int) : CmpTo a b 0 := rfl
theorem CmpTo.next {a b : List Int} {k : Nat} (h : CmpTo a b k) (h1 : k < a.length) (h2 : k < b.length) (h3 : ¬ a[k] < b[k]) (h4 : ¬ b[k] < a[k]) : CmpTo a b (k + 1) := by
 unfold CmpTo at *
 rw [h,cmpInts_at h1 h2,if_neg h3,if_neg h4]
theorem CmpTo.less {a b : List Int} {k : Nat} (h : CmpTo a b k) (h1 : k < a.length) (h2 : k < b.length) (h3 : a[k] < b[k]) : cmpInts a b = -1 := by
 unfold CmpTo at *
 rw [h,cmpInts_at h1 h2,if_pos h3]
theorem CmpTo.more {a b : List Int} {k : Nat} (h : CmpTo a b k) (h1 : k < a.length) (h2 : k < b.length) (h3 : b[k] < a[k]) : cmpInts a b = 1 := by
 unfold CmpTo at *
 rw [h,cmpInts_at h1 h2,if_neg (by omega),if_pos h3]
theorem CmpTo.done {a b : List Int} {k : Nat} (h : CmpTo a b k) (hk : k = a.length ∨ k = b.length) (h1 : k ≤ a.length) (h2 : k ≤ b.length) : cmpInts a b = if a.length < b.length then -1 else if b.length < a.length then 1 else 0 := by
 unfold CmpTo at h
 rw [h]
 by_cases e1 : a.length < b.length
 · obtain rfl : k = a.length := by omega
   rw [List.drop_length,List.drop_eq_getElem_cons e1,if_pos e1]; rfl
 · by_cases e2 : b.length < a.length
   · obtain rfl : k = b.length := by omega
     rw [List.drop_length,List.drop_eq_getElem_cons e2,if_neg e1,if_pos e2]; rfl
   · obtain rfl : k = a.length := by omega
     rw [List.drop_length,show a.length = b.length by omega,List.drop_length,if_neg (by omega),if_neg (by omega)]; rfl
theorem cmpInts_zero (a b : List Int) : cmpInts a b = 0 ↔ a = b := by
 induction a generalizing b with
 | nil => cases b <;> simp [cmpInts]
 | cons x a ih =>
   cases b with
   | nil => simp [cmpInts]
   | cons y b =>
     unfold cmpInts
     split
     · simp; omega
     · split
       · simp; omega
       · rw [ih]; simp; omega
theorem ints_apps {ops : Array Oper} {rest : List Oper} {o : Oper} {a : Act} {Q : Exit → Act → World → Prop} {B B' : Nat} {v : Value} {l r : List Int} {w : World} (hO : OwnInts B v l w)
 (hgd : o.guard = none) (s x : Operand) (ho : o.op = .call { callee := .builtin .append,args := #[s,x],argTypes := #[31,31] }) (hs : a.eval s = v) (A : Option Addr) (m c : Nat) (hx : a.eval x = .slice A m c) (hm : r.length = m) (hr : IntsAt w B' (.slice A r.length c) r) (hA : A = none → c = 0)
 (hlen : l.length + r.length ≤ 2097153) (hbase : B ≤ w.heap.size) (h : ∀ v' w',OwnInts B v' (l ++ r) w' → Below B w w' → w.grownBy w' v.ownBlock → (v'.ownBlock = v.ownBlock ∨ v'.ownBlock = some w.heap.size) → wpList Tryz.prog ops Q rest (a.put o.dst v') w') :
 wpList Tryz.prog ops Q (o :: rest) a w := by
 unfold OwnInts at hO
 rw [← flat_int] at hO
 refine wp_own_apps intCell 1 8 (fun x u hu => by simp [intCell] at hu; subst hu; rfl) (fun _ => rfl) Tryz.underlying31 infoInt rfl (by decide) hO hgd s x ho hs A m c hx hm hr hA (by omega) (by omega) hbase ?_
 intro v' w' h1 h2 h3 h4
 refine h v' w' ?_ h2 h3 h4
 unfold OwnInts
 rw [← flat_int]; exact h1
theorem OwnInts.form {B : Nat} {v : Value} {l : List Int} {w : World} (h : OwnInts B v l w) (hl : 0 < l.length) : ∃ g cap, v = .slice (some ⟨g, 0, none⟩) l.length cap ∧ B ≤ g ∧ g < w.heap.size ∧ l.length ≤ cap ∧ cap ≤ maxLen := by
 obtain ⟨g,cap,rfl,h1,h2⟩ := World.ownsRow.form h hl
 obtain ⟨A,c,hv,h3,h4,_⟩ := h.at_
 injection hv with _ _ e
 subst e
 exact ⟨g,cap,rfl,h1,h2,h3,h4⟩
structure Rel where
 name : ByteArray
 arity : Int
 source : Bool
def relV (r : Rel) : Value := .agg #[.string r.name, .int .i64 r.arity, .bool r.source]
def nameOk (s : ByteArray) : Bool := match s.data.toList with
 | [c] => decide ((97 : Int) ≤ ((c.toNat : Nat) : Int)) && decide (((c.toNat : Nat) : Int) ≤ 122)
 | _ => false
def relOk (s : ByteArray) (a : Int) : Bool := nameOk s && inB a 1 3
theorem nameOk_one (s : ByteArray) (h : s.size = 1) : nameOk s = (decide ((97 : Int) ≤ ((s[0].toNat : Nat) : Int)) && decide (((s[0].toNat : Nat) : Int) ≤ 122)) := by
 obtain ⟨⟨l⟩⟩ := s
 match l,h with
 | [c],_ => rfl
theorem nameOk_ne (s : ByteArray) (h : s.size ≠ 1) : nameOk s = false := by
 obtain ⟨⟨l⟩⟩ := s
 match l,h with
 | [],_ => rfl
 | _ :: _ :: _,_ => rfl
def relCells (r : Rel) : List Value := [.string r.name, .int .i64 r.arity, .bool r.source]
theorem relCells_len (r : Rel) : (relCells r).length = 3 := rfl
abbrev RelsAt (w : World) (B : Nat) (v : Value) (l : List Rel) : Prop := SliceAt relCells w B v l
def OwnRels (B : Nat) (v : Value) (l : List Rel) (w : World) : Prop := w.ownsRow B 70 3 v l.length (l.flatMap relCells)
def zeroRel : Rel := ⟨ByteArray.empty, 0, false⟩
theorem OwnRels.at_ {B : Nat} {v : Value} {l : List Rel} {w : World} (h : OwnRels B v l w) : RelsAt w w.heap.size v l := SliceAt.of_own h
theorem RelsAt.cells {w : World} {B b off c : Nat} {l : List Rel} (h : RelsAt w B (.slice (some ⟨b, off, none⟩) l.length c) l) (j : Nat) (hj : j < l.length) :
 w.cell? ⟨b,off + j * 3,none⟩ = some (.string l[j].name) ∧ w.cell? ⟨b,off + j * 3 + 1,none⟩ = some (.int .i64 l[j].arity) ∧ w.cell? ⟨b,off + j * 3 + 2,none⟩ = some (.bool l[j].source) := by
 obtain ⟨A,c',hv,h1,h2,h3⟩ := h
 obtain ⟨b',off',hA,hb,hc⟩ := h3.1 (by omega)
 subst hA
 injection hv with h4 _ _
 injection h4 with h4
 injection h4 with h4 h5 _
 subst h4 h5
 have g (i : Nat) (hi : i < 3) := flat_get relCells 3 relCells_len l j i hj hi
 refine ⟨hc _ _ (g 0 (by omega)),?_,?_⟩
 · rw [Nat.add_assoc]; exact hc _ _ (g 1 (by omega))
 · rw [Nat.add_assoc]; exact hc _ _ (g 2 (by omega))
theorem madeCells_rel (n : Nat) : (madeCells #[.string ByteArray.empty, .int .i64 0, .bool false] (n * 3)).toList = (List.replicate n zeroRel).flatMap relCells := by
 apply List.ext_getElem?
 intro i
 by_cases hi : i < n * 3
 · have e : i = i / 3 * 3 + i % 3 := by omega
   have h1 : i / 3 < (List.replicate n zeroRel).length := by simp; omega
   have := flat_get relCells 3 relCells_len (List.replicate n zeroRel) (i / 3) (i % 3) h1 (by omega)
   rw [← e] at this
   rw [this]
   simp only [List.getElem_replicate]
   have h3 : i % 3 = 0 ∨ i % 3 = 1 ∨ i % 3 = 2 := by omega
   rcases h3 with h3 | h3 | h3 <;> simp [madeCells,hi,h3,relCells,zeroRel]
 · rw [List.getElem?_eq_none (by simp [madeCells]; omega),List.getElem?_eq_none]
   rw [flat_len relCells 3 relCells_len]; simp; omega
theorem infoRel : (Tryz.prog.info? 70).map (fun i => (i.zero, i.size, i.bytes)) = some (some (.agg #[.string ByteArray.empty, .int .i64 0, .bool false]), 3, 32) := by kernel_rfl
theorem OwnRels.made (w : World) (n : Nat) (hn : n ≤ 1048576) (B : Nat) (hB : B ≤ w.heap.size) : OwnRels B (.slice (some ⟨w.heap.size, 0, none⟩) n n) (List.replicate n zeroRel) (w.alloc (.cells (madeCells #[.string ByteArray.empty, .int .i64 0, .bool false] (n * 3)) 70)) := by
 unfold OwnRels
 rw [← madeCells_rel,List.length_replicate]
 exact World.ownsRow_lit w _ n hB (by unfold maxLen; omega) (size_madeCells _ _)
theorem OwnRels.set {B g n cap : Nat} {l : List Rel} {w : World} (h : OwnRels B (.slice (some ⟨g, 0, none⟩) n cap) l w) (hn : l.length = n) (j : Nat) (hj : j < n) (r : Rel) :
 OwnRels B (.slice (some ⟨g,0,none⟩) n cap) (l.set j r) (((w.setCell ⟨g,j * 3,none⟩ (.string r.name)).setCell ⟨g,j * 3 + 1,none⟩ (.int .i64 r.arity)).setCell ⟨g,j * 3 + 2,none⟩ (.bool r.source)) := by
 subst hn
 have h1 := (World.ownsRow.stored h (j * 3) (.string r.name)).1
 have h2 := (World.ownsRow.stored h1 (j * 3 + 1) (.int .i64 r.arity)).1
 have h3 := (World.ownsRow.stored h2 (j * 3 + 2) (.bool r.source)).1
 unfold OwnRels
 rw [List.length_set,← flat_set relCells 3 relCells_len l j hj r]
 exact h3
theorem RelsAt.elem {w : World} {B c : Nat} {A : Option Addr} {l : List Rel} (h : RelsAt w B (.slice A l.length c) l) (j : Nat) (hj : j < l.length) :
 ∃ b off,A = some ⟨b,off,none⟩ ∧ b < B ∧ w.cell? ⟨b,off + j * 3,none⟩ = some (.string l[j].name) ∧ w.cell? ⟨b,off + j * 3 + 1,none⟩ = some (.int .i64 l[j].arity) ∧ w.cell? ⟨b,off + j * 3 + 2,none⟩ = some (.bool l[j].source) := by
 have h' := h
 obtain ⟨A',c',hv,h1,h2,h3⟩ := h
 obtain ⟨b,off,hA,hb,hc⟩ := h3.1 (by omega)
 subst hA
 injection hv with h4 _ _
 subst h4
 exact ⟨b,off,rfl,hb,RelsAt.cells h' j hj⟩
def relsLen : List Rel → Nat
 | [] => 0
 | r :: t => r.name.size + relsLen t
def RelsWf (l : List Rel) : Prop := ∀ (i : Nat) (h : i < l.length), l[i].name.size ≤ maxLen
theorem OwnRels.cells {B g n cap : Nat} {l : List Rel} {w : World} (h : OwnRels B (.slice (some ⟨g, 0, none⟩) n cap) l w) (hn : l.length = n) (j : Nat) (hj : j < l.length) :
 w.cell? ⟨g,j * 3,none⟩ = some (.string l[j].name) ∧ w.cell? ⟨g,j * 3 + 1,none⟩ = some (.int .i64 l[j].arity) ∧ w.cell? ⟨g,j * 3 + 2,none⟩ = some (.bool l[j].source) := by
 subst hn
 have g (i : Nat) (hi : i < 3) := (World.ownsRow.cellAt h (j * 3 + i) (by omega)).trans (flat_get relCells 3 relCells_len l j i hj hi)
 exact ⟨g 0 (by omega),g 1 (by omega),g 2 (by omega)⟩
theorem OwnRels.frozen {B g n cap : Nat} {l : List Rel} {w : World} (h : OwnRels B (.slice (some ⟨g, 0, none⟩) n cap) l w) (hn : l.length = n) (j : Nat) : w.frozen? ⟨g, j, none⟩ = false := by
 subst hn; exact World.ownsRow.frozenAt h j
theorem OwnRels.below {B B' : Nat} {v : Value} {l : List Rel} {w w' : World} (h : OwnRels B v l w) (hb : Below B' w w') (hB : w.heap.size ≤ B') : OwnRels B v l w' :=
 World.ownsRow.kept (row := none) h ⟨hb.os,hb.tape,hb.output,hb.size,fun k hk _ => hb.block k (Nat.lt_of_lt_of_le hk hB)⟩ (by
  cases h' : v.ownBlock with
  | none => exact .inl rfl
  | some g => exact .inr (by simp))
theorem OwnRels.empty (w : World) (B : Nat) (hB : B ≤ w.heap.size) : OwnRels B (.slice (some ⟨w.heap.size, 0, none⟩) 0 0) [] (w.alloc (.cells #[] 70)) :=
 World.ownsRow_lit w #[] 0 hB (by decide) rfl
theorem OwnRels.nil (w : World) (B : Nat) : OwnRels B (.slice none 0 0) [] w := World.ownsRow_nil w B _ _
theorem OwnRels.room (w : World) (c : Nat) (hc : c ≤ 1048577) (B : Nat) (hB : B ≤ w.heap.size) : OwnRels B (.slice (some ⟨w.heap.size, 0, none⟩) 0 c) [] (w.alloc (.cells (madeCells #[.string ByteArray.empty, .int .i64 0, .bool false] (c * 3)) 70)) :=
 World.ownsRow_made w _ c hB (by unfold maxLen; omega) (size_madeCells _ _)
theorem OwnRels.mono {B B' : Nat} {v : Value} {l : List Rel} {w : World} (h : OwnRels B v l w) (hB : B' ≤ B) : OwnRels B' v l w := by
 refine ⟨h.1,?_⟩
 rcases h.2 with hn | ⟨g,cap,cur,rfl,hb,rest⟩
 · exact .inl hn
 · exact .inr ⟨g,cap,cur,rfl,Nat.le_trans hB hb,rest⟩
theorem OwnRels.lt {B : Nat} {v : Value} {l : List Rel} {w : World} (h : OwnRels B v l w) : ∀ g, v.ownBlock = some g → B ≤ g ∧ g < w.heap.size := World.ownsRow.lt h
theorem OwnRels.chg {S : Nat → Prop} {B : Nat} {v : Value} {l : List Rel} {w w' : World} (h : OwnRels B v l w) (hc : Chg S w w') (hS : ∀ g, v.ownBlock = some g → ¬ S g) : OwnRels B v l w' := hc.row h hS
def RelationS_at (w : World) (B : Nat) (v : Value) (l : List Rel) : Prop := RelsAt w B v l
def RelationS_own (B C : Nat) (v : Value) (l : List Rel) (w : World) : Prop := OwnRels B v l w ∧ Value.inside C v
theorem RelationS_own.of {B : Nat} {v : Value} {l : List Rel} {w : World} (h : OwnRels B v l w) : RelationS_own B w.heap.size v l w := ⟨h, fun g hg => (h.lt g hg).2⟩
theorem RelationS_own.mono {B B' C C' : Nat} {v : Value} {l : List Rel} {w : World} (h : RelationS_own B C v l w) (hB : B' ≤ B) (hC : C ≤ C') : RelationS_own B' C' v l w := ⟨h.1.mono hB, fun g hg => Nat.lt_of_lt_of_le (h.2 g hg) hC⟩
theorem RelationS_at.below {w w' : World} {B B' : Nat} {v : Value} {l : List Rel} (h : RelationS_at w B v l) (hb : Below B' w w') (hB : B ≤ B') : RelationS_at w' B v l := SliceAt.below h hb hB
theorem RelationS_at.more {w : World} {B B' : Nat} {v : Value} {l : List Rel} (h : RelationS_at w B v l) (hB : B ≤ B') : RelationS_at w B' v l := SliceAt.more h hB
theorem RelationS_own.at_ {B C D : Nat} {v : Value} {l : List Rel} {w : World} (h : RelationS_own B C v l w) (hD : C ≤ D) : RelationS_at w D v l := SliceAt.inside h.1.at_ (fun g hg => Nat.lt_of_lt_of_le (h.2 g hg) hD)
theorem RelationS_own.chg {B C B' C' : Nat} {v : Value} {l : List Rel} {w w' : World} (h : RelationS_own B C v l w) (hc : Chg (Mid B' C') w w') (hd : C ≤ B' ∨ C' ≤ B) : RelationS_own B C v l w' :=
 ⟨h.1.chg hc (fun g hg hm => by have h1 := (h.1.lt g hg).1; have h2 := h.2 g hg; have h3 : B' ≤ g := hm.1; have h4 : g < C' := hm.2; omega),h.2⟩
theorem RelationS_own.below {B C D : Nat} {v : Value} {l : List Rel} {w w' : World} (h : RelationS_own B C v l w) (hb : Below D w w') (hD : C ≤ D) : RelationS_own B C v l w' :=
 ⟨h.1.chg (Chg.of_below' hb) (fun g hg hm => by have h2 := h.2 g hg; have h3 : D ≤ g := hm; omega),h.2⟩
def RelationS_wf (l : List Rel) : Prop := RelsWf l
def RelationS_sz (l : List Rel) : Nat := l.length + relsLen l
theorem rels_apps {ops : Array Oper} {rest : List Oper} {o : Oper} {a : Act} {Q : Exit → Act → World → Prop} {B B' : Nat} {v : Value} {l r : List Rel} {w : World} (hO : OwnRels B v l w)
 (hgd : o.guard = none) (s x : Operand) (ho : o.op = .call { callee := .builtin .append,args := #[s,x],argTypes := #[24,24] }) (hs : a.eval s = v) (A : Option Addr) (m c : Nat) (hx : a.eval x = .slice A m c) (hm : r.length = m) (hr : RelsAt w B' (.slice A r.length c) r) (hA : A = none → c = 0)
 (hlen : l.length + r.length ≤ 2097153) (hbase : B ≤ w.heap.size) (h : ∀ v' w',OwnRels B v' (l ++ r) w' → Below B w w' → w.grownBy w' v.ownBlock → (v'.ownBlock = v.ownBlock ∨ v'.ownBlock = some w.heap.size) → wpList Tryz.prog ops Q rest (a.put o.dst v') w') :
 wpList Tryz.prog ops Q (o :: rest) a w :=
 wp_own_apps relCells 3 32 (fun x u hu => by simp [relCells] at hu; rcases hu with rfl | rfl | rfl <;> rfl) relCells_len Tryz.underlying24 infoRel rfl (by decide) hO hgd s x ho hs A m c hx hm hr hA (by omega) (by omega) hbase h
def okAt (l : List Rel) (i : Nat) : Bool := relOk (l.getD i zeroRel).name (l.getD i zeroRel).arity && (i == 0 || Op.bytesLess (l.getD (i - 1) zeroRel).name.toList (l.getD i zeroRel).name.toList)
def okTo (l : List Rel) (k : Nat) : Bool := (List.range k).all (okAt l)
def validRels (l : List Rel) : Bool := okTo l l.length && decide (l.length ≤ 6)
theorem getD_at {l : List Rel} {i : Nat} (h : i < l.length) : l.getD i zeroRel = l[i] := by simp [List.getD, List.getElem?_eq_getElem h]
theorem okTo_succ (l : List Rel) (k : Nat) : okTo l (k + 1) = (okTo l k && okAt l k) := by simp [okTo, List.range_succ, List.all_append]
theorem validRels_no (l : List Rel) (k : Nat) (hk : k < l.length) (h : okAt l k = false) : validRels l = false := by
 have : okTo l l.length = false := by
  unfold okTo
  rw [List.all_eq_false]
  exact ⟨k,List.mem_range.2 hk,by rw [h]; simp⟩
 unfold validRels; rw [this]; rfl
theorem validRels_long (l : List Rel) (h : ¬ l.length ≤ 6) : validRels l = false := by unfold validRels; rw [decide_eq_false h, Bool.and_false]
theorem validRels_yes (l : List Rel) (h : okTo l l.length = true) : validRels l = decide (l.length ≤ 6) := by unfold validRels; rw [h, Bool.true_and]
theorem okAt_bad (l : List Rel) (k : Nat) (h : k < l.length) (h1 : relOk l[k].name l[k].arity = false) : okAt l k = false := by
 unfold okAt; rw [getD_at h,h1]; rfl
theorem okAt_zero (l : List Rel) (h : 0 < l.length) (h1 : relOk l[0].name l[0].arity = true) : okAt l 0 = true := by
 unfold okAt; rw [getD_at h,h1]; rfl
theorem okAt_succ (l : List Rel) (j : Nat) (h : j + 1 < l.length) (h1 : relOk l[j + 1].name l[j + 1].arity = true) : okAt l (j + 1) = Op.bytesLess l[j].name.toList l[j + 1].name.toList := by
 unfold okAt
 rw [getD_at h,Nat.add_sub_cancel,getD_at (show j < l.length by omega),h1]
 simp
theorem validRels_at (l : List Rel) (h : validRels l = true) (k : Nat) (hk : k < l.length) : relOk l[k].name l[k].arity = true := by
 unfold validRels okTo at h
 simp only [Bool.and_eq_true,List.all_eq_true] at h
 have := h.1 k (List.mem_range.2 hk)
 unfold okAt at this
 rw [getD_at hk] at this
 simp only [Bool.and_eq_true] at this
 exact this.1
theorem relOk_bd (s : ByteArray) (a : Int) (h : relOk s a = true) : s.size = 1 ∧ 1 ≤ a ∧ a ≤ 3 := by
 unfold relOk inB at h
 simp only [Bool.and_eq_true,decide_eq_true_eq] at h
 refine ⟨?_,h.2⟩
 by_cases h1 : s.size = 1
 · exact h1
 · rw [nameOk_ne s h1] at h; cases h.1
end Go.Proofs.YtobdijcnfmgidaaGreat
