/-
  Walks and plain lemmas for the laws of this seat: what single Go functions return, for every argument.
-/
import Derived.Test.YtobdijcnfmgidaaGreatBase
import Derived.Test.YtobdijcnfmgidaaGreatInts
import Derived.Test.YtobdijcnfmgidaaGreatFact
namespace Go.Proofs.YtobdijcnfmgidaaGreat
open Go.RowKit

instance : Inhabited (List Int) := ⟨[]⟩
def cell1 (V : Value) : List Value := [V]
theorem cell1_len (V : Value) : (cell1 V).length = 1 := rfl
theorem flat1 (l : List Value) : l.flatMap cell1 = l := by
  induction l with
  | nil => rfl
  | cons a t ih => rw [List.flatMap_cons, ih]; rfl
/-- rows of ints -/
def IntSS_at (w : World) (B : Nat) (v : Value) (l : List (List Int)) : Prop := ∃ Vs : List Value, Vs.length = l.length ∧ SliceAt cell1 w B v Vs ∧ ∀ (i : Nat) (h : i < l.length) (h' : i < Vs.length), IntS_at w B Vs[i] l[i]
structure IntSSO (B C : Nat) (v : Value) (Vs : List Value) (l : List (List Int)) (w : World) : Prop where
  len : Vs.length = l.length
  row : w.ownsRow B 31 1 v Vs.length Vs
  ins : Value.inside C v
  el : ∀ (i : Nat) (h : i < l.length) (h' : i < Vs.length), IntS_own B C Vs[i] l[i] w
  dis : Apart Vs
def IntSS_own (B C : Nat) (v : Value) (l : List (List Int)) (w : World) : Prop := ∃ Vs, IntSSO B C v Vs l w
theorem IntSS_at.below {w w' : World} {B B' : Nat} {v : Value} {l : List (List Int)} (h : IntSS_at w B v l) (hb : Below B' w w') (hB : B ≤ B') : IntSS_at w' B v l := by
  obtain ⟨Vs, h1, h2, h3⟩ := h
  exact ⟨Vs, h1, h2.below hb hB, fun i h h' => (h3 i h h').below hb hB⟩
theorem IntSS_at.more {w : World} {B B' : Nat} {v : Value} {l : List (List Int)} (h : IntSS_at w B v l) (hB : B ≤ B') : IntSS_at w B' v l := by
  obtain ⟨Vs, h1, h2, h3⟩ := h
  exact ⟨Vs, h1, h2.more hB, fun i h h' => (h3 i h h').more hB⟩
theorem IntSSO.at_ {B C D : Nat} {v : Value} {Vs : List Value} {l : List (List Int)} {w : World} (h : IntSSO B C v Vs l w) (hD : C ≤ D) : IntSS_at w D v l := by
  have hr := h.row
  rw [← flat1 Vs, flat1 Vs] at hr
  have hr2 : w.ownsRow B 31 1 v Vs.length (Vs.flatMap cell1) := by rw [flat1]; exact hr
  exact ⟨Vs, h.len, SliceAt.inside (SliceAt.of_own hr2) (fun g hg => Nat.lt_of_lt_of_le (h.ins g hg) hD), fun i h1 h2 => (h.el i h1 h2).at_ hD⟩
theorem IntSS_own.at_ {B C D : Nat} {v : Value} {l : List (List Int)} {w : World} (h : IntSS_own B C v l w) (hD : C ≤ D) : IntSS_at w D v l := by
  obtain ⟨Vs, h⟩ := h; exact h.at_ hD
theorem IntSSO.chg {B C B' C' : Nat} {v : Value} {Vs : List Value} {l : List (List Int)} {w w' : World} (h : IntSSO B C v Vs l w) (hc : Chg (Mid B' C') w w') (hd : C ≤ B' ∨ C' ≤ B) : IntSSO B C v Vs l w' :=
  ⟨h.len, hc.row h.row (fun g hg hm => by have h1 := (World.ownsRow.lt h.row g hg).1; have h2 := h.ins g hg; have h3 : B' ≤ g := hm.1; have h4 : g < C' := hm.2; omega), h.ins, fun i h1 h2 => (h.el i h1 h2).chg hc hd, h.dis⟩
theorem IntSS_own.chg {B C B' C' : Nat} {v : Value} {l : List (List Int)} {w w' : World} (h : IntSS_own B C v l w) (hc : Chg (Mid B' C') w w') (hd : C ≤ B' ∨ C' ≤ B) : IntSS_own B C v l w' := by
  obtain ⟨Vs, h⟩ := h; exact ⟨Vs, h.chg hc hd⟩
theorem IntSSO.below {B C D : Nat} {v : Value} {Vs : List Value} {l : List (List Int)} {w w' : World} (h : IntSSO B C v Vs l w) (hb : Below D w w') (hD : C ≤ D) : IntSSO B C v Vs l w' :=
  ⟨h.len, (Chg.of_below' hb).row h.row (fun g hg hm => by have h2 := h.ins g hg; have h3 : D ≤ g := hm; omega), h.ins, fun i h1 h2 => (h.el i h1 h2).below hb hD, h.dis⟩
theorem IntSS_own.below {B C D : Nat} {v : Value} {l : List (List Int)} {w w' : World} (h : IntSS_own B C v l w) (hb : Below D w w') (hD : C ≤ D) : IntSS_own B C v l w' := by
  obtain ⟨Vs, h⟩ := h; exact ⟨Vs, h.below hb hD⟩
theorem IntSSO.mono {B B' C C' : Nat} {v : Value} {Vs : List Value} {l : List (List Int)} {w : World} (h : IntSSO B C v Vs l w) (hB : B' ≤ B) (hC : C ≤ C') : IntSSO B' C' v Vs l w :=
  ⟨h.len, row_mono h.row hB, fun g hg => Nat.lt_of_lt_of_le (h.ins g hg) hC, fun i h1 h2 => (h.el i h1 h2).mono hB hC, h.dis⟩
theorem IntSS_own.mono {B B' C C' : Nat} {v : Value} {l : List (List Int)} {w : World} (h : IntSS_own B C v l w) (hB : B' ≤ B) (hC : C ≤ C') : IntSS_own B' C' v l w := by
  obtain ⟨Vs, h⟩ := h; exact ⟨Vs, h.mono hB hC⟩
/-- one row, read -/
theorem IntSS_at.elem {w : World} {B c : Nat} {A : Option Addr} {l : List (List Int)} (h : IntSS_at w B (.slice A l.length c) l) (j : Nat) (hj : j < l.length) :
    ∃ b off V, A = some ⟨b, off, none⟩ ∧ b < B ∧ w.cell? ⟨b, off + j, none⟩ = some V ∧ IntS_at w B V l[j] := by
  obtain ⟨Vs, h1, h2, h3⟩ := h
  obtain ⟨A', c', hv, -, -, hc⟩ := h2
  rw [h1] at hv
  injection hv with e1 _ e2
  subst e1 e2
  obtain ⟨b, off, rfl, hb, hc⟩ := hc.1 (by omega)
  refine ⟨b, off, Vs[j], rfl, hb, hc j _ (by rw [flat1]; simp), h3 j hj (by omega)⟩
theorem IntSS_at.form {w : World} {B : Nat} {v : Value} {l : List (List Int)} (h : IntSS_at w B v l) : ∃ A c, v = .slice A l.length c ∧ l.length ≤ c ∧ c ≤ maxLen := by
  obtain ⟨Vs, h1, ⟨A, c, hv, h3, h4, _⟩, _⟩ := h
  rw [h1] at hv h3
  exact ⟨A, c, hv, h3, h4⟩
def lenSum : List (List Int) → Nat
  | [] => 0
  | x :: t => x.length + lenSum t
theorem lenSum_append (l m : List (List Int)) : lenSum (l ++ m) = lenSum l + lenSum m := by
  induction l with
  | nil => simp [lenSum]
  | cons a t ih => simp only [List.cons_append, lenSum, ih]; omega
theorem lenSum_take (l : List (List Int)) (k : Nat) (h : k < l.length) : lenSum (l.take (k + 1)) = lenSum (l.take k) + l[k].length := by
  rw [List.take_succ_eq_append_getElem h, lenSum_append]; simp [lenSum]
theorem lenSum_le (l : List (List Int)) (k : Nat) : lenSum (l.take k) ≤ lenSum l := by
  have := lenSum_append (l.take k) (l.drop k)
  rw [List.take_append_drop] at this; omega
def IntSS_sz (l : List (List Int)) : Nat := l.length + lenSum l
def IntSS_cnt (l : List (List Int)) : Nat := lenSum l
theorem IntSS_cnt_le (l : List (List Int)) : IntSS_cnt l ≤ 4 * IntSS_sz l := by unfold IntSS_cnt IntSS_sz; omega
/-- what a mark writes -/
def markRow (k : Nat) (l : List (List Int)) (i : Nat) : List Int := markInts (k + lenSum (l.take i)) (l.getD i default).length
def IntSS_mk (k : Nat) (l : List (List Int)) : List (List Int) := (List.range l.length).map (markRow k l)
theorem IntSS_mk_len (k : Nat) (l : List (List Int)) : (IntSS_mk k l).length = l.length := by simp [IntSS_mk]
theorem IntSS_mk_at (k : Nat) (l : List (List Int)) (i : Nat) (h : i < (IntSS_mk k l).length) : (IntSS_mk k l)[i] = markRow k l i := by simp [IntSS_mk]
/-- a row's ints written in their own slice -/
theorem IntSSO.setRow {B C : Nat} {v : Value} {Vs : List Value} {l : List (List Int)} {w w' : World} (h : IntSSO B C v Vs l w) (j : Nat) (hj : j < l.length) (hjv : j < Vs.length) (us : List Int) (hV : IntS_own B C Vs[j] us w') (hc : Chg (fun q => Vs[j].ownBlock = some q) w w') :
    IntSSO B C v Vs (l.set j us) w' := by
  refine ⟨by rw [List.length_set, h.len], ?_, h.ins, fun i h3 h4 => ?_, h.dis⟩
  · exact hc.row h.row (fun g hg => inner_ne (by decide) h.row (h.el j hj hjv) g hg)
  · rw [List.length_set] at h3
    simp only [List.getElem_set]
    split
    · rename_i hij; subst hij; exact hV
    · rename_i hij
      exact ⟨(h.el i h3 h4).1.chg hc (fun q hq => h.dis.at_ i j h4 hjv (by omega) q hq), (h.el i h3 h4).2⟩
theorem IntSSO.cell {B C g n cap : Nat} {Vs : List Value} {l : List (List Int)} {w : World} (h : IntSSO B C (.slice (some ⟨g, 0, none⟩) n cap) Vs l w) (hn : l.length = n) (j : Nat) (hj : j < l.length) (hjv : j < Vs.length) : w.cell? ⟨g, j, none⟩ = some Vs[j] := by
  have hrow := h.row
  rw [h.len, hn] at hrow
  rw [World.ownsRow.cellAt hrow j (by omega)]; simp [hjv]
/-- a row appended to rows of the call's own -/
theorem IntSSO.snoc {B C C' : Nat} {v v' U : Value} {Vs : List Value} {l : List (List Int)} {x : List Int} {w w' : World} (h : IntSSO B C v Vs l w) (hC : C ≤ C')
    (hrow : w'.ownsRow B 31 1 v' (Vs ++ [U]).length (Vs ++ [U])) (hg : w.grownBy w' v.ownBlock) (hin : Value.inside C' v')
    (hU : IntS_own B C' U x w) (hd : ∀ (i : Nat) (hi : i < Vs.length), ∀ g, Vs[i].ownBlock = some g → U.ownBlock ≠ some g) : IntSSO B C' v' (Vs ++ [U]) (l ++ [x]) w' := by
  have keep : ∀ {V : Value} {us : List Int}, IntS_own B C' V us w → IntS_own B C' V us w' := fun hV => by
    refine ⟨World.ownsRow.kept hV.1 hg ?_, hV.2⟩
    rcases own_ne hV.1 h.row (by decide) with h1 | h1
    · exact .inl h1
    · exact .inr h1
  refine ⟨by rw [List.length_append, List.length_append, h.len]; rfl, hrow, hin, fun i h1 h2 => ?_, h.dis.snoc U hd⟩
  · by_cases hi : i < l.length
    · have hiv : i < Vs.length := by rw [h.len]; exact hi
      rw [List.getElem_append_left hi, List.getElem_append_left hiv]
      exact keep ((h.el i hi hiv).mono (Nat.le_refl _) hC)
    · have hil : i = l.length := by rw [List.length_append, List.length_singleton] at h1; omega
      subst hil
      rw [List.getElem_append_right (show l.length ≤ l.length from Nat.le_refl _)]
      have : Vs.length ≤ l.length := by rw [h.len]; exact Nat.le_refl _
      rw [List.getElem_append_right this]
      simp only [Nat.sub_self, List.getElem_cons_zero, h.len]
      exact keep hU
theorem infoInts : (Tryz.prog.info? 31).map (fun i => (i.zero, i.size, i.bytes)) = some (some (.slice none 0 0), 1, 24) := by kernel_rfl

/-- append(l, r) at rows -/
theorem ss_app {ops : Array Oper} {rest : List Oper} {o : Oper} {a : Act} {Q : Exit → Act → World → Prop} {B C : Nat} {v : Value} {Vs : List Value} {l : List (List Int)} {w : World} (hS : IntSSO B C v Vs l w)
    (hgd : o.guard = none) (s x : Operand) (ho : o.op = .call { callee := .builtin .append, args := #[s, x], argTypes := #[38, 38] }) (hs : a.eval s = v) (b c : Nat) (hx : a.eval x = .slice (some ⟨b, 0, none⟩) 1 c) (P : Option Addr) (n d : Nat) (y : List Int) (hcell : w.cell? ⟨b, 0, none⟩ = some (.slice P n d))
    (hU : IntS_own B w.heap.size (.slice P n d) y w) (hC : C ≤ w.heap.size) (hd : ∀ (i : Nat) (hi : i < Vs.length), ∀ g, Vs[i].ownBlock = some g → (Value.slice P n d).ownBlock ≠ some g) (hlen : l.length ≤ 1000) (hbase : B ≤ w.heap.size)
    (h : ∀ v' w', IntSSO B w'.heap.size v' (Vs ++ [.slice P n d]) (l ++ [y]) w' → Below B w w' → wpList Tryz.prog ops Q rest (a.put o.dst v') w') :
    wpList Tryz.prog ops Q (o :: rest) a w := by
  have hrow := hS.row
  have hrow2 : w.ownsRow B 31 1 v Vs.length (Vs.flatMap cell1) := by rw [flat1]; exact hrow
  have hl := hS.len
  refine wp_own_appsM cell1 1 24 cell1_len (r := [.slice P n d]) (fun x hx u hu => by
      rw [List.mem_singleton] at hx; subst hx
      simp only [cell1, List.mem_singleton] at hu; subst hu; rfl) Tryz.underlying38 infoInts rfl (by decide) hrow2 hgd s x ho hs b 0 1 c hx rfl (fun j u hu => by
      rw [flat1] at hu
      have hj : j = 0 := by
        rcases Nat.eq_zero_or_pos j with h0 | h0
        · exact h0
        · rw [List.getElem?_eq_none (by simp; omega)] at hu; cases hu
      subst hj
      simp only [List.getElem?_cons_zero, Option.some.injEq] at hu
      subst hu; exact hcell) (by simp; omega) (by simp; omega) hbase ?_
  intro v' w' h1 h2 h3 _
  rw [flat1] at h1
  refine h v' w' ?_ h2
  refine hS.snoc (Nat.le_trans hC h2.size) h1 h3 (fun g hg => (World.ownsRow.lt h1 g hg).2) ?_ hd
  exact hU.mono (Nat.le_refl _) h2.size
theorem IntSSO.nil (B C : Nat) (w : World) : IntSSO B C (.slice none 0 0) [] [] w := ⟨rfl, World.ownsRow_nil w B _ _, (fun g hg => by cases hg), (fun i h => absurd h (by simp)), List.Pairwise.nil⟩
theorem IntSSO.len1 {B C c : Nat} {A : Option Addr} {Vs : List Value} {l : List (List Int)} {y : List Int} {w : World} (h : IntSSO B C (.slice A (l ++ [y]).length c) Vs (l ++ [y]) w) : IntSSO B C (.slice A (l.length + 1) c) Vs (l ++ [y]) w := by
  rw [List.length_append] at h; exact h

theorem IntSSO.append {B C C' : Nat} {v v' : Value} {Vs Us : List Value} {l r : List (List Int)} {w w' : World} (h : IntSSO B C v Vs l w) (hC : C ≤ C')
    (hrow : w'.ownsRow B 31 1 v' (Vs ++ Us).length (Vs ++ Us)) (hg : w.grownBy w' v.ownBlock) (hin : Value.inside C' v') (hl : Us.length = r.length)
    (hU : ∀ (i : Nat) (h1 : i < r.length) (h2 : i < Us.length), IntS_own B C' Us[i] r[i] w) (hUd : Apart Us) (hd : ∀ (i : Nat) (hi : i < Vs.length) (j : Nat) (hj : j < Us.length), ∀ g, Vs[i].ownBlock = some g → Us[j].ownBlock ≠ some g) : IntSSO B C' v' (Vs ++ Us) (l ++ r) w' := by
  have keep : ∀ {V : Value} {us : List Int}, IntS_own B C' V us w → IntS_own B C' V us w' := fun hV => by
    refine ⟨World.ownsRow.kept hV.1 hg ?_, hV.2⟩
    rcases own_ne hV.1 h.row (by decide) with h1 | h1
    · exact .inl h1
    · exact .inr h1
  refine ⟨by rw [List.length_append, List.length_append, h.len, hl], hrow, hin, fun i h1 h2 => ?_, ?_⟩
  · by_cases hi : i < l.length
    · have hiv : i < Vs.length := by rw [h.len]; exact hi
      rw [List.getElem_append_left hi, List.getElem_append_left hiv]
      exact keep ((h.el i hi hiv).mono (Nat.le_refl _) hC)
    · have hvl := h.len
      rw [List.length_append] at h1 h2
      have e1 : (Vs ++ Us)[i]'(by rw [List.length_append]; exact h2) = Us[i - l.length]'(by omega) := by
        rw [List.getElem_append_right (by omega)]
        congr 1; omega
      have e2 : (l ++ r)[i]'(by rw [List.length_append]; exact h1) = r[i - l.length]'(by omega) := List.getElem_append_right (by omega)
      rw [e2, e1]
      exact keep (hU (i - l.length) (by omega) (by omega))
  · refine List.pairwise_append.2 ⟨h.dis, hUd, fun p hp q hq => ?_⟩
    obtain ⟨i, hi, rfl⟩ := List.getElem_of_mem hp
    obtain ⟨j, hj, rfl⟩ := List.getElem_of_mem hq
    exact hd i hi j hj
theorem own_some {w : World} {B k n g : Nat} {e : TypeId} {v : Value} {xs : List Value} (h : w.ownsRow B e k v n xs) (hg : v.ownBlock = some g) : ∃ cap, v = .slice (some ⟨g, 0, none⟩) n cap ∧ n ≤ cap := by
  rcases h.2 with ⟨rfl, h0⟩ | ⟨g', cap, cur, rfl, hb, hgg, hn, hm, _⟩
  · cases hg
  · cases hg; exact ⟨cap, rfl, hn⟩
/-- append(l, r...) at rows, where the rows of r lie behind those of l -/
theorem ss_apps {ops : Array Oper} {rest : List Oper} {o : Oper} {a : Act} {Q : Exit → Act → World → Prop} {B C D : Nat} {v u : Value} {Vs Us : List Value} {l r : List (List Int)} {w : World} (hS : IntSSO B C v Vs l w)
    (hgd : o.guard = none) (s x : Operand) (ho : o.op = .call { callee := .builtin .append, args := #[s, x], argTypes := #[38, 38] }) (hs : a.eval s = v) (hx : a.eval x = u) (hU : IntSSO C D u Us r w) (hu : ∃ g, u.ownBlock = some g) (hv : ∃ g, v.ownBlock = some g)
    (hB : B ≤ C) (hC : C ≤ w.heap.size) (hD : D ≤ w.heap.size) (hlen : l.length + r.length ≤ 1048576)
    (h : ∀ v' w', IntSSO B w'.heap.size v' (Vs ++ Us) (l ++ r) w' → (∃ g, v'.ownBlock = some g) → Below B w w' → wpList Tryz.prog ops Q rest (a.put o.dst v') w') :
    wpList Tryz.prog ops Q (o :: rest) a w := by
  have hrow2 : w.ownsRow B 31 1 v Vs.length (Vs.flatMap cell1) := by rw [flat1]; exact hS.row
  obtain ⟨b, hb⟩ := hu
  obtain ⟨c, hc, -⟩ := own_some hU.row hb
  have hl := hS.len
  have hl2 := hU.len
  refine wp_own_appsM cell1 1 24 cell1_len (r := Us) (fun y hy z hz => by
      simp only [cell1, List.mem_singleton] at hz; subst hz
      obtain ⟨i, hi, rfl⟩ := List.getElem_of_mem hy
      obtain ⟨A', c', hv', -⟩ := (hU.el i (by omega) hi).at_ (Nat.le_refl _)
      rw [hv']; rfl) Tryz.underlying38 infoInts rfl (by decide) hrow2 hgd s x ho hs b 0 Us.length c (by rw [hx, hc]) rfl (fun j z hz => by
      rw [flat1] at hz
      obtain ⟨hj, rfl⟩ := List.getElem?_eq_some_iff.1 hz
      have hr := hU.row
      rw [hc] at hr
      rw [Nat.zero_add, World.ownsRow.cellAt hr j (by omega)]; simp [hj]) (by omega) (by omega) (Nat.le_trans hB hC) ?_
  intro v' w' h1 h2 h3 h4
  rw [flat1] at h1
  refine h v' w' ?_ ?_ h2
  · refine hS.append (Nat.le_trans hC h2.size) h1 h3 (fun g hg => (World.ownsRow.lt h1 g hg).2) hl2 (fun i g1 g2 => (hU.el i g1 g2).mono hB (Nat.le_trans hD h2.size)) hU.dis (fun i hi j hj g hg hg' => ?_)
    have q1 := (hS.el i (by omega) hi).2 g hg
    have q2 := (World.ownsRow.lt (hU.el j (by omega) hj).1 g hg').1
    omega
  · obtain ⟨g, hg⟩ := hv
    rcases h4 with h4 | h4
    · exact ⟨g, h4.trans hg⟩
    · exact ⟨_, h4⟩

theorem chg_row {w w' : World} {row : Option Nat} (h : w.grownBy w' row) : Chg (fun q => row = some q) w w' := by
  refine ⟨h.os, h.tape, h.output, h.size, fun k hk hs => h.block k hk (fun e => hs e.symm)⟩
/-- append(l, r) at rows; what has turned is named -/
theorem ss_app2 {ops : Array Oper} {rest : List Oper} {o : Oper} {a : Act} {Q : Exit → Act → World → Prop} {B C : Nat} {v : Value} {Vs : List Value} {l : List (List Int)} {w : World} (hS : IntSSO B C v Vs l w)
    (hgd : o.guard = none) (s x : Operand) (ho : o.op = .call { callee := .builtin .append, args := #[s, x], argTypes := #[38, 38] }) (hs : a.eval s = v) (b c : Nat) (hx : a.eval x = .slice (some ⟨b, 0, none⟩) 1 c) (P : Option Addr) (n d : Nat) (y : List Int) (hcell : w.cell? ⟨b, 0, none⟩ = some (.slice P n d))
    (hU : IntS_own B w.heap.size (.slice P n d) y w) (hC : C ≤ w.heap.size) (hd : ∀ (i : Nat) (hi : i < Vs.length), ∀ g, Vs[i].ownBlock = some g → (Value.slice P n d).ownBlock ≠ some g) (hlen : l.length ≤ 1000000) (hbase : B ≤ w.heap.size)
    (h : ∀ v' w', IntSSO B w'.heap.size v' (Vs ++ [.slice P n d]) (l ++ [y]) w' → Below B w w' → Chg (fun q => v.ownBlock = some q) w w' → (v'.ownBlock = v.ownBlock ∨ v'.ownBlock = some w.heap.size) → wpList Tryz.prog ops Q rest (a.put o.dst v') w') :
    wpList Tryz.prog ops Q (o :: rest) a w := by
  have hrow := hS.row
  have hrow2 : w.ownsRow B 31 1 v Vs.length (Vs.flatMap cell1) := by rw [flat1]; exact hrow
  have hl := hS.len
  refine wp_own_appsM cell1 1 24 cell1_len (r := [.slice P n d]) (fun x hx u hu => by
      rw [List.mem_singleton] at hx; subst hx
      simp only [cell1, List.mem_singleton] at hu; subst hu; rfl) Tryz.underlying38 infoInts rfl (by decide) hrow2 hgd s x ho hs b 0 1 c hx rfl (fun j u hu => by
      rw [flat1] at hu
      have hj : j = 0 := by
        rcases Nat.eq_zero_or_pos j with h0 | h0
        · exact h0
        · rw [List.getElem?_eq_none (by simp; omega)] at hu; cases hu
      subst hj
      simp only [List.getElem?_cons_zero, Option.some.injEq] at hu
      subst hu; exact hcell) (by simp; omega) (by simp; omega) hbase ?_
  intro v' w' h1 h2 h3 h4
  rw [flat1] at h1
  refine h v' w' ?_ h2 (chg_row h3) h4
  refine hS.snoc (Nat.le_trans hC h2.size) h1 h3 (fun g hg => (World.ownsRow.lt h1 g hg).2) ?_ hd
  exact hU.mono (Nat.le_refl _) h2.size

set_option maxHeartbeats 1600000 in
theorem specInts_any (v u : Value) (a b : List Int) (w : World) (hl : IntsAt w w.heap.size v a) (hm : IntsAt w w.heap.size u b) :
    Calls Tryz.prog 76 #[v, u] w fun e w' => e = .returned (.int .i64 (cmpInts a b)) ∧ Below w.heap.size w w' := by
  have HL := Lib.hid hl
  have HM := Lib.hid hm
  obtain ⟨A, c, rfl, hlc, hcm, -⟩ := hl
  obtain ⟨A', c', rfl, hlc', hcm', -⟩ := hm
  unfold maxLen at hcm hcm'
  go_enter Tryz.func76, Tryz.ntmps76
  go_wp2
  go_loopw [5] (fun i wr => ∃ k : Nat, k ≤ a.length ∧ k ≤ b.length ∧ i = .int .i64 k ∧ Hid (CmpTo a b k) ∧ Below w.heap.size w wr) (fun i _ => a.length - (intOf i).toNat)
  case atStart => exact ⟨0, by omega, by omega, rfl, Lib.hid (CmpTo.zero a b), Below.refl _ _⟩
  case round =>
    obtain ⟨k, hk, hk', rfl, HT, hW⟩ := hrel
    by_cases hlt : k < a.length ∧ k < b.length
    · obtain ⟨hlt, hlt'⟩ := hlt
      obtain ⟨p, off, rfl, hb, c0⟩ := IntsAt.elem HL.out k hlt
      obtain ⟨p', off', rfl, hb', d0⟩ := IntsAt.elem HM.out k hlt'
      have C0 := Aft.cell hb c0
      have D0 := Aft.cell hb' d0
      clear c0 d0
      by_cases h1 : a[k] < b[k]
      · have HV := Lib.hid (HT.out.less hlt hlt' h1)
        have hd : decide (a[k] < b[k]) = true := decide_eq_true h1
        clear h1
        go_wp2
        refine wp_region_aft hW (by kernel_rfl) (by kernel_rfl) ?_
        repeat (go_big_quiet_step (fail))
        refine wpQuiet_nil ?_
        refine aft_end ?_
        intro w1 hh
        go_wp2
        go_ret
        exact ⟨ret_int HV.out.symm, hh⟩
      · have hd : decide (a[k] < b[k]) = false := decide_eq_false h1
        by_cases h2 : b[k] < a[k]
        · have HV := Lib.hid (HT.out.more hlt hlt' h2)
          have hd2 : decide (b[k] < a[k]) = true := decide_eq_true h2
          clear h1 h2
          go_wp2
          refine wp_region_aft hW (by kernel_rfl) (by kernel_rfl) ?_
          repeat (go_big_quiet_step (fail))
          refine wpQuiet_nil ?_
          refine aft_end ?_
          intro w1 hh
          go_wp2
          refine wp_region_aft hh (by kernel_rfl) (by kernel_rfl) ?_
          repeat (go_big_quiet_step (fail))
          refine wpQuiet_nil ?_
          refine aft_end ?_
          intro w2 hh2
          go_wp2
          go_ret
          exact ⟨ret_int HV.out.symm, hh2⟩
        · have HV := Lib.hid (HT.out.next hlt hlt' h1 h2)
          have hd2 : decide (b[k] < a[k]) = false := decide_eq_false h2
          clear h1 h2
          go_wp2
          refine wp_region_aft hW (by kernel_rfl) (by kernel_rfl) ?_
          repeat (go_big_quiet_step (fail))
          refine wpQuiet_nil ?_
          refine aft_end ?_
          intro w1 hh
          go_wp2
          refine wp_region_aft hh (by kernel_rfl) (by kernel_rfl) ?_
          repeat (go_big_quiet_step (fail))
          refine wpQuiet_nil ?_
          refine aft_end ?_
          intro w2 hh2
          go_wp2
          go_roundw
          case rel => exact ⟨k + 1, by omega, by omega, by go_num, HV, hh2⟩
          case measure => simp [intOf]; omega
    · have HV := Lib.hid (HT.out.done (by omega) hk hk')
      by_cases e1 : a.length < b.length
      · have HV' := Lib.hid (HV.out.trans (if_pos e1))
        by_cases hka : k < a.length
        · omega
        all_goals
          go_wp2
          go_ret
          exact ⟨ret_int HV'.out.symm, hW⟩
      · by_cases e2 : b.length < a.length
        · have HV' := Lib.hid (HV.out.trans ((if_neg e1).trans (if_pos e2)))
          have hka : k < a.length := by omega
          have hkb : ¬ k < b.length := by omega
          go_wp2
          go_ret
          exact ⟨ret_int HV'.out.symm, hW⟩
        · have HV' := Lib.hid (HV.out.trans ((if_neg e1).trans (if_neg e2)))
          have hka : ¬ k < a.length := by omega
          have hkb : ¬ k < b.length := by omega
          go_wp2
          go_ret
          exact ⟨ret_int HV'.out.symm, hW⟩

set_option maxHeartbeats 800000 in
theorem specHas_any (v : Value) (l : List Int) (x : Int) (w : World) (hl : IntS_at w w.heap.size v l) :
    Calls Tryz.prog 82 #[v, .int .i64 x] w fun e w' => e = .returned (.bool (decide (x ∈ l))) ∧ w = w' := by
  have HL := Lib.hid hl
  obtain ⟨A, c, rfl, hlc, hcm, -⟩ := hl
  unfold maxLen at hcm
  go_enter Tryz.func82, Tryz.ntmps82
  go_wp2
  go_loop [5] (fun i => ∃ k : Nat, k ≤ l.length ∧ i = .int .i64 k ∧ Hid (x ∉ l.take k)) (fun i => l.length - (intOf i).toNat)
  case atStart => exact ⟨0, by omega, rfl, Lib.hid (by simp)⟩
  case round =>
    obtain ⟨k, hk, rfl, HT⟩ := hrel
    by_cases hlt : k < l.length
    · obtain ⟨b, off, rfl, hb, c0⟩ := IntsAt.elem HL.out k hlt
      by_cases he : l[k] = x
      · have HV := Lib.hid (decide_eq_true (show x ∈ l by rw [← he]; exact List.getElem_mem hlt))
        have hb2 : (l[k] == x) = true := by rw [he]; exact beq_self_eq_true x
        clear he
        go_wp2
        go_ret
        exact ⟨ret_bool HV.out.symm, rfl⟩
      · have HN := Lib.hid (show x ∉ l.take (k + 1) by
          rw [List.take_succ_eq_append_getElem hlt, List.mem_append, List.mem_singleton]
          exact fun h => h.elim HT.out (fun e => he e.symm))
        have hb2 : (l[k] == x) = false := beq_eq_false_iff_ne.2 he
        clear he
        go_wp2
        go_round
        case rel => exact ⟨k + 1, by omega, by go_num, HN⟩
        case measure => simp [intOf]; omega
    · obtain rfl : k = l.length := by omega
      have HV := Lib.hid (decide_eq_false (show x ∉ l by have := HT.out; rwa [List.take_of_length_le (Nat.le_refl _)] at this))
      go_wp2
      go_ret
      exact ⟨ret_bool HV.out.symm, rfl⟩
theorem specHas_at (v : Value) (l : List Int) (x : Int) (bb : Bool) (hq : decide (x ∈ l) = bb) (w : World) (hl : IntS_at w w.heap.size v l) :
    Calls Tryz.prog 82 #[v, .int .i64 x] w fun e w' => e = .returned (.bool bb) ∧ w = w' := by
  subst hq; exact specHas_any v l x w hl

def at5 (b : List Int) (j : Nat) : Int := b.getD j 0
/-- a binding of five as an array -/
abbrev bAgg (b : List Int) : Value := .agg #[.int .i64 (at5 b 0), .int .i64 (at5 b 1), .int .i64 (at5 b 2), .int .i64 (at5 b 3), .int .i64 (at5 b 4)]
/-- block g holds the binding -/
def Arr (g : Nat) (b : List Int) (w : World) : Prop := (∀ j, j < 5 → w.cell? ⟨g, j, none⟩ = some (.int .i64 (at5 b j))) ∧ ∀ o, w.frozen? ⟨g, o, none⟩ = false
theorem Arr.below {g B : Nat} {b : List Int} {w w' : World} (h : Arr g b w) (hb : Below B w w') (hg : g < B) : Arr g b w' :=
  ⟨fun j hj => (hb.cell (p := ⟨g, j, none⟩) hg).trans (h.1 j hj), fun o => (hb.frozen (p := ⟨g, o, none⟩) hg).trans (h.2 o)⟩
theorem Arr.set {g : Nat} {b : List Int} {w : World} (h : Arr g b w) (hb : b.length = 5) (j : Nat) (hj : j < 5) (v : Int) : Arr g (b.set j v) (w.setCell ⟨g, j, none⟩ (.int .i64 v)) := by
  refine ⟨fun i hi => ?_, fun o => by rw [World.frozen?_setCell]; exact h.2 o⟩
  unfold at5
  rw [List.getD_eq_getElem?_getD, List.getElem?_set]
  by_cases e : j = i
  · subst e
    rw [if_pos rfl, if_pos (by omega)]
    exact World.cell?_setCell_same (w := w) (a := ⟨g, j, none⟩) (v := .int .i64 v) (h.1 j hj)
  · rw [if_neg e, ← List.getD_eq_getElem?_getD]
    refine Eq.trans ?_ (h.1 i hi)
    exact World.cell?_setCell_other (w := w) (a := ⟨g, j, none⟩) (v := .int .i64 v) (b := ⟨g, i, none⟩) (fun e9 => e (by injection e9))
theorem Arr.ints {g B : Nat} {b : List Int} {w : World} (h : Arr g b w) (hb : b.length = 5) (hg : g < B) : IntsAt w B (.slice (some ⟨g, 0, none⟩) 5 5) b := by
  refine ⟨some ⟨g, 0, none⟩, 5, by rw [hb], by omega, by decide, fun _ => ⟨g, 0, rfl, hg, fun j u hu => ?_⟩, fun e => by cases e⟩
  rw [flat_int] at hu
  have hj : j < 5 := by
    have := (List.getElem?_eq_some_iff.1 hu).1
    rw [List.length_map] at this; omega
  rw [Nat.zero_add, h.1 j hj]
  rw [List.getElem?_map] at hu
  unfold at5
  rw [List.getD_eq_getElem?_getD]
  cases hq : b[j]? with
  | none => rw [hq] at hu; cases hu
  | some z => rw [hq] at hu; exact hu
theorem below_set5 {B g : Nat} {w w' : World} (h : Below B w w') (hg : B ≤ g) (v0 v1 v2 v3 v4 : Value) : Below B w (((((w'.setCell ⟨g, 0, none⟩ v0).setCell ⟨g, 1, none⟩ v1).setCell ⟨g, 2, none⟩ v2).setCell ⟨g, 3, none⟩ v3).setCell ⟨g, 4, none⟩ v4) :=
  ((((h.setCell (p := ⟨g, 0, none⟩) hg _).setCell (p := ⟨g, 1, none⟩) hg _).setCell (p := ⟨g, 2, none⟩) hg _).setCell (p := ⟨g, 3, none⟩) hg _).setCell (p := ⟨g, 4, none⟩) hg _
theorem set_getD_self (b : List Int) (j : Nat) : b.set j (b.getD j 0) = b := by
  apply List.ext_getElem?
  intro i
  rw [List.getElem?_set]
  split
  · rename_i e
    subst e
    split
    · rename_i h; rw [List.getD_eq_getElem?_getD, List.getElem?_eq_getElem h]; rfl
    · rename_i h; rw [List.getElem?_eq_none (by omega)]
  · rfl
theorem Arr.new (w : World) (t : TypeId) (b : List Int) : Arr w.heap.size b (w.alloc (.cells #[.int .i64 (at5 b 0), .int .i64 (at5 b 1), .int .i64 (at5 b 2), .int .i64 (at5 b 3), .int .i64 (at5 b 4)] t)) := by
  refine ⟨fun j hj => ?_, fun o => by simp [go_sem]⟩
  rcases (show j = 0 ∨ j = 1 ∨ j = 2 ∨ j = 3 ∨ j = 4 by omega) with h | h | h | h | h <;> subst h <;> simp [go_sem]

end Go.Proofs.YtobdijcnfmgidaaGreat
