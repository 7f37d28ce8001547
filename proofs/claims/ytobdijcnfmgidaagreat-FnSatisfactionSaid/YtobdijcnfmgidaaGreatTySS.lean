/- Walks and plain lemmas for the laws of this seat. -/
import Derived.Test.YtobdijcnfmgidaaGreatBase
import Derived.Test.YtobdijcnfmgidaaGreatInts
import Derived.Test.YtobdijcnfmgidaaGreatDrawR
import Derived.Test.YtobdijcnfmgidaaGreatPlan
import Derived.Test.YtobdijcnfmgidaaGreatAft
import Derived.Test.YtobdijcnfmgidaaGreatTyAtom
import Derived.Test.YtobdijcnfmgidaaGreatParInI
namespace Go.Proofs.YtobdijcnfmgidaaGreat
open Go.RowKit
instance : Inhabited (List Int) := ⟨[]⟩
def cell1 (V : Value) : List Value := [V]
theorem cell1_len (V : Value) : (cell1 V).length = 1 := rfl
theorem flat1 (l : List Value) : l.flatMap cell1 = l := by
 induction l with
 | nil => rfl
 | cons a t ih => rw [List.flatMap_cons,ih]; rfl
def IntSS_at (w : World) (B : Nat) (v : Value) (l : List (List Int)) : Prop := ∃ Vs : List Value, Vs.length = l.length ∧ SliceAt cell1 w B v Vs ∧ ∀ (i : Nat) (h : i < l.length) (h' : i < Vs.length), IntS_at w B Vs[i] l[i]
structure IntSSO (B C : Nat) (v : Value) (Vs : List Value) (l : List (List Int)) (w : World) : Prop where
 len : Vs.length = l.length
 row : w.ownsRow B 31 1 v Vs.length Vs
 ins : Value.inside C v
 el : ∀ (i : Nat) (h : i < l.length) (h' : i < Vs.length),IntS_own B C Vs[i] l[i] w
 dis : Apart Vs
def IntSS_own (B C : Nat) (v : Value) (l : List (List Int)) (w : World) : Prop := ∃ Vs, IntSSO B C v Vs l w
theorem IntSS_at.below {w w' : World} {B B' : Nat} {v : Value} {l : List (List Int)} (h : IntSS_at w B v l) (hb : Below B' w w') (hB : B ≤ B') : IntSS_at w' B v l := by
 obtain ⟨Vs,h1,h2,h3⟩ := h
 exact ⟨Vs,h1,h2.below hb hB,fun i h h' => (h3 i h h').below hb hB⟩
theorem IntSS_at.more {w : World} {B B' : Nat} {v : Value} {l : List (List Int)} (h : IntSS_at w B v l) (hB : B ≤ B') : IntSS_at w B' v l := by
 obtain ⟨Vs,h1,h2,h3⟩ := h
 exact ⟨Vs,h1,h2.more hB,fun i h h' => (h3 i h h').more hB⟩
theorem IntSSO.at_ {B C D : Nat} {v : Value} {Vs : List Value} {l : List (List Int)} {w : World} (h : IntSSO B C v Vs l w) (hD : C ≤ D) : IntSS_at w D v l := by
 have hr := h.row
 rw [← flat1 Vs,flat1 Vs] at hr
 have hr2 : w.ownsRow B 31 1 v Vs.length (Vs.flatMap cell1) := by rw [flat1]; exact hr
 exact ⟨Vs,h.len,SliceAt.inside (SliceAt.of_own hr2) (fun g hg => Nat.lt_of_lt_of_le (h.ins g hg) hD),fun i h1 h2 => (h.el i h1 h2).at_ hD⟩
theorem IntSS_own.at_ {B C D : Nat} {v : Value} {l : List (List Int)} {w : World} (h : IntSS_own B C v l w) (hD : C ≤ D) : IntSS_at w D v l := by
 obtain ⟨Vs,h⟩ := h; exact h.at_ hD
theorem IntSSO.chg {B C B' C' : Nat} {v : Value} {Vs : List Value} {l : List (List Int)} {w w' : World} (h : IntSSO B C v Vs l w) (hc : Chg (Mid B' C') w w') (hd : C ≤ B' ∨ C' ≤ B) : IntSSO B C v Vs l w' :=
 ⟨h.len,hc.row h.row (fun g hg hm => by have h1 := (World.ownsRow.lt h.row g hg).1; have h2 := h.ins g hg; have h3 : B' ≤ g := hm.1; have h4 : g < C' := hm.2; omega),h.ins,fun i h1 h2 => (h.el i h1 h2).chg hc hd,h.dis⟩
theorem IntSS_own.chg {B C B' C' : Nat} {v : Value} {l : List (List Int)} {w w' : World} (h : IntSS_own B C v l w) (hc : Chg (Mid B' C') w w') (hd : C ≤ B' ∨ C' ≤ B) : IntSS_own B C v l w' := by
 obtain ⟨Vs,h⟩ := h; exact ⟨Vs,h.chg hc hd⟩
theorem IntSSO.below {B C D : Nat} {v : Value} {Vs : List Value} {l : List (List Int)} {w w' : World} (h : IntSSO B C v Vs l w) (hb : Below D w w') (hD : C ≤ D) : IntSSO B C v Vs l w' :=
 ⟨h.len,(Chg.of_below' hb).row h.row (fun g hg hm => by have h2 := h.ins g hg; have h3 : D ≤ g := hm; omega),h.ins,fun i h1 h2 => (h.el i h1 h2).below hb hD,h.dis⟩
theorem IntSS_own.below {B C D : Nat} {v : Value} {l : List (List Int)} {w w' : World} (h : IntSS_own B C v l w) (hb : Below D w w') (hD : C ≤ D) : IntSS_own B C v l w' := by
 obtain ⟨Vs,h⟩ := h; exact ⟨Vs,h.below hb hD⟩
theorem IntSSO.mono {B B' C C' : Nat} {v : Value} {Vs : List Value} {l : List (List Int)} {w : World} (h : IntSSO B C v Vs l w) (hB : B' ≤ B) (hC : C ≤ C') : IntSSO B' C' v Vs l w :=
 ⟨h.len,row_mono h.row hB,fun g hg => Nat.lt_of_lt_of_le (h.ins g hg) hC,fun i h1 h2 => (h.el i h1 h2).mono hB hC,h.dis⟩
theorem IntSS_own.mono {B B' C C' : Nat} {v : Value} {l : List (List Int)} {w : World} (h : IntSS_own B C v l w) (hB : B' ≤ B) (hC : C ≤ C') : IntSS_own B' C' v l w := by
 obtain ⟨Vs,h⟩ := h; exact ⟨Vs,h.mono hB hC⟩
theorem IntSS_at.elem {w : World} {B c : Nat} {A : Option Addr} {l : List (List Int)} (h : IntSS_at w B (.slice A l.length c) l) (j : Nat) (hj : j < l.length) :
 ∃ b off V,A = some ⟨b,off,none⟩ ∧ b < B ∧ w.cell? ⟨b,off + j,none⟩ = some V ∧ IntS_at w B V l[j] := by
 obtain ⟨Vs,h1,h2,h3⟩ := h
 obtain ⟨A',c',hv,-,-,hc⟩ := h2
 rw [h1] at hv
 injection hv with e1 _ e2
 subst e1 e2
 obtain ⟨b,off,rfl,hb,hc⟩ := hc.1 (by omega)
 refine ⟨b,off,Vs[j],rfl,hb,hc j _ (by rw [flat1]; simp),h3 j hj (by omega)⟩
theorem IntSS_at.form {w : World} {B : Nat} {v : Value} {l : List (List Int)} (h : IntSS_at w B v l) : ∃ A c, v = .slice A l.length c ∧ l.length ≤ c ∧ c ≤ maxLen := by
 obtain ⟨Vs,h1,⟨A,c,hv,h3,h4,_⟩,_⟩ := h
 rw [h1] at hv h3
 exact ⟨A,c,hv,h3,h4⟩
def lenSum : List (List Int) → Nat
 | [] => 0
 | x :: t => x.length + lenSum t
def IntSS_sz (l : List (List Int)) : Nat := l.length + lenSum l
theorem IntSSO.cell {B C g n cap : Nat} {Vs : List Value} {l : List (List Int)} {w : World} (h : IntSSO B C (.slice (some ⟨g, 0, none⟩) n cap) Vs l w) (hn : l.length = n) (j : Nat) (hj : j < l.length) (hjv : j < Vs.length) : w.cell? ⟨g, j, none⟩ = some Vs[j] := by
 have hrow := h.row
 rw [h.len,hn] at hrow
 rw [World.ownsRow.cellAt hrow j (by omega)]; simp [hjv]
theorem IntSSO.snoc {B C C' : Nat} {v v' U : Value} {Vs : List Value} {l : List (List Int)} {x : List Int} {w w' : World} (h : IntSSO B C v Vs l w) (hC : C ≤ C')
 (hrow : w'.ownsRow B 31 1 v' (Vs ++ [U]).length (Vs ++ [U])) (hg : w.grownBy w' v.ownBlock) (hin : Value.inside C' v')
 (hU : IntS_own B C' U x w) (hd : ∀ (i : Nat) (hi : i < Vs.length),∀ g,Vs[i].ownBlock = some g → U.ownBlock ≠ some g) : IntSSO B C' v' (Vs ++ [U]) (l ++ [x]) w' := by
 have keep : ∀ {V : Value} {us : List Int},IntS_own B C' V us w → IntS_own B C' V us w' := fun hV => by
  refine ⟨World.ownsRow.kept hV.1 hg ?_,hV.2⟩
  rcases own_ne hV.1 h.row (by decide) with h1 | h1
  · exact .inl h1
  · exact .inr h1
 refine ⟨by rw [List.length_append,List.length_append,h.len]; rfl,hrow,hin,fun i h1 h2 => ?_,h.dis.snoc U hd⟩
 · by_cases hi : i < l.length
   · have hiv : i < Vs.length := by rw [h.len]; exact hi
     rw [List.getElem_append_left hi,List.getElem_append_left hiv]
     exact keep ((h.el i hi hiv).mono (Nat.le_refl _) hC)
   · have hil : i = l.length := by rw [List.length_append,List.length_singleton] at h1; omega
     subst hil
     rw [List.getElem_append_right (show l.length ≤ l.length from Nat.le_refl _)]
     have : Vs.length ≤ l.length := by rw [h.len]; exact Nat.le_refl _
     rw [List.getElem_append_right this]
     simp only [Nat.sub_self,List.getElem_cons_zero,h.len]
     exact keep hU
theorem infoInts : (Tryz.prog.info? 31).map (fun i => (i.zero, i.size, i.bytes)) = some (some (.slice none 0 0), 1, 24) := by kernel_rfl
theorem IntSSO.nil (B C : Nat) (w : World) : IntSSO B C (.slice none 0 0) [] [] w := ⟨rfl, World.ownsRow_nil w B _ _, (fun g hg => by cases hg), (fun i h => absurd h (by simp)), List.Pairwise.nil⟩
theorem IntSSO.append {B C C' : Nat} {v v' : Value} {Vs Us : List Value} {l r : List (List Int)} {w w' : World} (h : IntSSO B C v Vs l w) (hC : C ≤ C')
 (hrow : w'.ownsRow B 31 1 v' (Vs ++ Us).length (Vs ++ Us)) (hg : w.grownBy w' v.ownBlock) (hin : Value.inside C' v') (hl : Us.length = r.length)
 (hU : ∀ (i : Nat) (h1 : i < r.length) (h2 : i < Us.length),IntS_own B C' Us[i] r[i] w) (hUd : Apart Us) (hd : ∀ (i : Nat) (hi : i < Vs.length) (j : Nat) (hj : j < Us.length),∀ g,Vs[i].ownBlock = some g → Us[j].ownBlock ≠ some g) : IntSSO B C' v' (Vs ++ Us) (l ++ r) w' := by
 have keep : ∀ {V : Value} {us : List Int},IntS_own B C' V us w → IntS_own B C' V us w' := fun hV => by
  refine ⟨World.ownsRow.kept hV.1 hg ?_,hV.2⟩
  rcases own_ne hV.1 h.row (by decide) with h1 | h1
  · exact .inl h1
  · exact .inr h1
 refine ⟨by rw [List.length_append,List.length_append,h.len,hl],hrow,hin,fun i h1 h2 => ?_,?_⟩
 · by_cases hi : i < l.length
   · have hiv : i < Vs.length := by rw [h.len]; exact hi
     rw [List.getElem_append_left hi,List.getElem_append_left hiv]
     exact keep ((h.el i hi hiv).mono (Nat.le_refl _) hC)
   · have hvl := h.len
     rw [List.length_append] at h1 h2
     have e1 : (Vs ++ Us)[i]'(by rw [List.length_append]; exact h2) = Us[i - l.length]'(by omega) := by
      rw [List.getElem_append_right (by omega)]
      congr 1; omega
     have e2 : (l ++ r)[i]'(by rw [List.length_append]; exact h1) = r[i - l.length]'(by omega) := List.getElem_append_right (by omega)
     rw [e2,e1]
     exact keep (hU (i - l.length) (by omega) (by omega))
 · refine List.pairwise_append.2 ⟨h.dis,hUd,fun p hp q hq => ?_⟩
   obtain ⟨i,hi,rfl⟩ := List.getElem_of_mem hp
   obtain ⟨j,hj,rfl⟩ := List.getElem_of_mem hq
   exact hd i hi j hj
theorem own_some {w : World} {B k n g : Nat} {e : TypeId} {v : Value} {xs : List Value} (h : w.ownsRow B e k v n xs) (hg : v.ownBlock = some g) : ∃ cap, v = .slice (some ⟨g, 0, none⟩) n cap ∧ n ≤ cap := by
 rcases h.2 with ⟨rfl,h0⟩ | ⟨g',cap,cur,rfl,hb,hgg,hn,hm,_⟩
 · cases hg
 · cases hg; exact ⟨cap,rfl,hn⟩
theorem ss_apps {ops : Array Oper} {rest : List Oper} {o : Oper} {a : Act} {Q : Exit → Act → World → Prop} {B C D : Nat} {v u : Value} {Vs Us : List Value} {l r : List (List Int)} {w : World} (hS : IntSSO B C v Vs l w)
 (hgd : o.guard = none) (s x : Operand) (ho : o.op = .call { callee := .builtin .append,args := #[s,x],argTypes := #[38,38] }) (hs : a.eval s = v) (hx : a.eval x = u) (hU : IntSSO C D u Us r w) (hu : ∃ g,u.ownBlock = some g) (hv : ∃ g,v.ownBlock = some g)
 (hB : B ≤ C) (hC : C ≤ w.heap.size) (hD : D ≤ w.heap.size) (hlen : l.length + r.length ≤ 1048576)
 (h : ∀ v' w',IntSSO B w'.heap.size v' (Vs ++ Us) (l ++ r) w' → (∃ g,v'.ownBlock = some g) → Below B w w' → wpList Tryz.prog ops Q rest (a.put o.dst v') w') :
 wpList Tryz.prog ops Q (o :: rest) a w := by
 have hrow2 : w.ownsRow B 31 1 v Vs.length (Vs.flatMap cell1) := by rw [flat1]; exact hS.row
 obtain ⟨b,hb⟩ := hu
 obtain ⟨c,hc,-⟩ := own_some hU.row hb
 have hl := hS.len
 have hl2 := hU.len
 refine wp_own_appsM cell1 1 24 cell1_len (r := Us) (fun y hy z hz => by
  simp only [cell1,List.mem_singleton] at hz; subst hz
  obtain ⟨i,hi,rfl⟩ := List.getElem_of_mem hy
  obtain ⟨A',c',hv',-⟩ := (hU.el i (by omega) hi).at_ (Nat.le_refl _)
  rw [hv']; rfl) Tryz.underlying38 infoInts rfl (by decide) hrow2 hgd s x ho hs b 0 Us.length c (by rw [hx,hc]) rfl (fun j z hz => by
  rw [flat1] at hz
  obtain ⟨hj,rfl⟩ := List.getElem?_eq_some_iff.1 hz
  have hr := hU.row
  rw [hc] at hr
  rw [Nat.zero_add,World.ownsRow.cellAt hr j (by omega)]; simp [hj]) (by omega) (by omega) (Nat.le_trans hB hC) ?_
 intro v' w' h1 h2 h3 h4
 rw [flat1] at h1
 refine h v' w' ?_ ?_ h2
 · refine hS.append (Nat.le_trans hC h2.size) h1 h3 (fun g hg => (World.ownsRow.lt h1 g hg).2) hl2 (fun i g1 g2 => (hU.el i g1 g2).mono hB (Nat.le_trans hD h2.size)) hU.dis (fun i hi j hj g hg hg' => ?_)
   have q1 := (hS.el i (by omega) hi).2 g hg
   have q2 := (World.ownsRow.lt (hU.el j (by omega) hj).1 g hg').1
   omega
 · obtain ⟨g,hg⟩ := hv
   rcases h4 with h4 | h4
   · exact ⟨g,h4.trans hg⟩
   · exact ⟨_,h4⟩
theorem chg_row {w w' : World} {row : Option Nat} (h : w.grownBy w' row) : Chg (fun q => row = some q) w w' := by
 refine ⟨h.os,h.tape,h.output,h.size,fun k hk hs => h.block k hk (fun e => hs e.symm)⟩
theorem ss_app2 {ops : Array Oper} {rest : List Oper} {o : Oper} {a : Act} {Q : Exit → Act → World → Prop} {B C : Nat} {v : Value} {Vs : List Value} {l : List (List Int)} {w : World} (hS : IntSSO B C v Vs l w)
 (hgd : o.guard = none) (s x : Operand) (ho : o.op = .call { callee := .builtin .append,args := #[s,x],argTypes := #[38,38] }) (hs : a.eval s = v) (b c : Nat) (hx : a.eval x = .slice (some ⟨b,0,none⟩) 1 c) (P : Option Addr) (n d : Nat) (y : List Int) (hcell : w.cell? ⟨b,0,none⟩ = some (.slice P n d))
 (hU : IntS_own B w.heap.size (.slice P n d) y w) (hC : C ≤ w.heap.size) (hd : ∀ (i : Nat) (hi : i < Vs.length),∀ g,Vs[i].ownBlock = some g → (Value.slice P n d).ownBlock ≠ some g) (hlen : l.length ≤ 1000000) (hbase : B ≤ w.heap.size)
 (h : ∀ v' w',IntSSO B w'.heap.size v' (Vs ++ [.slice P n d]) (l ++ [y]) w' → Below B w w' → Chg (fun q => v.ownBlock = some q) w w' → (v'.ownBlock = v.ownBlock ∨ v'.ownBlock = some w.heap.size) → wpList Tryz.prog ops Q rest (a.put o.dst v') w') :
 wpList Tryz.prog ops Q (o :: rest) a w := by
 have hrow := hS.row
 have hrow2 : w.ownsRow B 31 1 v Vs.length (Vs.flatMap cell1) := by rw [flat1]; exact hrow
 have hl := hS.len
 refine wp_own_appsM cell1 1 24 cell1_len (r := [.slice P n d]) (fun x hx u hu => by
  rw [List.mem_singleton] at hx; subst hx
  simp only [cell1,List.mem_singleton] at hu; subst hu; rfl) Tryz.underlying38 infoInts rfl (by decide) hrow2 hgd s x ho hs b 0 1 c hx rfl (fun j u hu => by
  rw [flat1] at hu
  have hj : j = 0 := by
   rcases Nat.eq_zero_or_pos j with h0 | h0
   · exact h0
   · rw [List.getElem?_eq_none (by simp; omega)] at hu; cases hu
  subst hj
  simp only [List.getElem?_cons_zero,Option.some.injEq] at hu
  subst hu; exact hcell) (by simp; omega) (by simp; omega) hbase ?_
 intro v' w' h1 h2 h3 h4
 rw [flat1] at h1
 refine h v' w' ?_ h2 (chg_row h3) h4
 refine hS.snoc (Nat.le_trans hC h2.size) h1 h3 (fun g hg => (World.ownsRow.lt h1 g hg).2) ?_ hd
 exact hU.mono (Nat.le_refl _) h2.size
def GivesWalk (x : Inst) (l : List Atm) (n : Nat) (b : List Int) (w : World) (e : Ending) (w' : World) : Prop :=
 ∃ V Vs,e = .returned V ∧ (∃ g,V.ownBlock = some g) ∧ IntSSO w.heap.size w'.heap.size V Vs (walkM x.facts (l.drop n) b) w' ∧ Below w.heap.size w w'
def WalkInv (x : Inst) (a : Atm) (r : List Atm) (b : List Int) (Z : Nat) (E : World) (o i : Value) (wr : World) : Prop :=
 ∃ (k : Nat) (Vs : List Value),k ≤ x.facts.length ∧ i = .int .i64 k ∧ Hid (∃ g,o.ownBlock = some g) ∧ Hid (IntSSO Z wr.heap.size o Vs ((x.facts.take k).flatMap (walkF x.facts a r b)) wr) ∧ Hid (Below Z E wr)
theorem WalkInv.mk' {x : Inst} {a : Atm} {r : List Atm} {b : List Int} {Z : Nat} {E : World} {o i : Value} {wr : World} (k : Nat) (Vs : List Value) (h1 : k ≤ x.facts.length) (h2 : i = .int .i64 k) (h3 : ∃ g, o.ownBlock = some g) (h4 : IntSSO Z wr.heap.size o Vs ((x.facts.take k).flatMap (walkF x.facts a r b)) wr) (h5 : Below Z E wr) : WalkInv x a r b Z E o i wr :=
 ⟨k,Vs,h1,h2,Lib.hid h3,Lib.hid h4,Lib.hid h5⟩
set_option maxHeartbeats 6400000 in
set_option maxRecDepth 100000 in
theorem specL11Walk_any (v u : Value) (x : Inst) (l : List Atm) (hxw : Instance_wf x) (hfn : x.facts.length ≤ 30) (hlw : AtomS_wf l) (hl3 : l.length ≤ 3) (hin : ∀ (i : Nat) (h : i < l.length) (k : Nat) (hk : k < l[i].vals.length), l[i].vals[k] < 5) (m : Nat) :
 ∀ (n : Nat) (bv : Value) (b : List Int) (w : World),n + m = l.length → Instance_at w w.heap.size v x → AtomS_at w w.heap.size u l → IntsAt w w.heap.size bv b → b.length = 5 → Calls Tryz.prog 123 #[v,u,.int .i64 (n : Nat),bv] w (GivesWalk x l n b w) := by
 induction m with
 | zero =>
   intro n bv b w hnm hx hl hb hb5
   obtain ⟨P,c,Q,d,rfl⟩ := Instance_form hx
   obtain ⟨R,q,rfl,hq1,hq2⟩ := hl.form
   have HB := Lib.hid hb
   obtain ⟨S,t,rfl,ht1,ht2,-,hA⟩ := hb
   have HSN := Lib.hid (show S = none → t = 0 from hA)
   unfold maxLen at hq2 ht2
   clear hA hx hl
   obtain rfl : n = l.length := by omega
   clear hnm
   obtain ⟨E,hEq⟩ : ∃ E,E = w.alloc (.cells #[.slice P x.rels.length c,.slice Q x.facts.length d] 27) := ⟨_,rfl⟩
   have hE : Below w.heap.size w E := by rw [hEq]; exact below_more (Below.refl _ _) _
   have hF : Below E.heap.size E (E.alloc (.cells #[] 3)) := (Below.refl _ _).alloc (Nat.le_refl _) _
   have hEF := hE.trans (hF.mono hE.size)
   have HLE := Lib.hid (show IntsAt (E.alloc (.cells #[] 3)) w.heap.size (.slice S b.length t) b from SliceAt.below HB.out hEF (Nat.le_refl _))
   have HOE := Lib.hid (OwnInts.empty E E.heap.size (Nat.le_refl _))
   have HB5 := Lib.hid hb5
   have HM := Lib.hid (show walkM x.facts (l.drop l.length) b = [b] by rw [List.drop_length]; rfl)
   clear hb5
   go_enter Tryz.func123,Tryz.ntmps123
   have hle := HLE.out
   have hoe := HOE.out
   rw [hEq] at hle hoe
   go_wp2_with (at_builtin; refine ints_apps (r := b) hoe rfl _ _ rfl (by simp [go_sem]) S b.length t rfl rfl hle HSN.out (by have := HB5.out; simp; omega) (by simp) ?_; intro v1 w1 hO1 hW1 _ _; rw [List.nil_append] at hO1; obtain ⟨P2,c2,rfl,hl2,hm2,-⟩ := id hO1.at_)
   rw [← hEq] at hO1 hW1
   have hb1 : Below w.heap.size w w1 := hE.trans ((hF.trans hW1).mono hE.size)
   refine bodyPost_ret (v := .slice (some ⟨w1.heap.size,0,none⟩) 1 1) (by simp [results,Tryz.results123,go_sem]) rfl ⟨_,[.slice P2 b.length c2],rfl,⟨_,rfl⟩,?_,hb1.alloc hb1.size _⟩
   rw [HM.out]
   refine ⟨rfl,?_,fun g hg => ?_,fun i h1 h2 => ?_,List.pairwise_singleton _ _⟩
   · exact World.ownsRow_lit w1 #[.slice P2 b.length c2] 1 hb1.size (by decide) rfl
   · have : g = w1.heap.size := by simpa [Value.ownBlock] using hg.symm
     subst this; simp
   · obtain rfl : i = 0 := by simp at h1; omega
     have h3 := hO1.below ((Below.refl w1.heap.size w1).alloc (Nat.le_refl _) (.cells #[.slice P2 b.length c2] 31)) (Nat.le_refl _)
     exact (IntsO.of h3).mono hE.size (Nat.le_refl _)
 | succ m ih =>
   intro n bv b w hnm hx hl hb hb5
   have hlt : n < l.length := by omega
   have HX := Lib.hid hx
   have HL := Lib.hid hl
   have HB := Lib.hid hb
   obtain ⟨P,c,Q,d,rfl⟩ := Instance_form hx
   have HF := Lib.hid (show FactS_at w w.heap.size (.slice Q x.facts.length d) x.facts by
    obtain ⟨V1,V2,hv,hR,hF⟩ := hx
    simp only [Value.agg.injEq,Array.mk.injEq,List.cons.injEq,and_true] at hv
    obtain ⟨rfl,rfl⟩ := hv
    exact hF)
   obtain ⟨_,_,hv2,hd1,hd2⟩ := HF.out.form
   injection hv2 with e1 _ e2
   subst e1 e2
   obtain ⟨R,q,rfl,hq1,hq2⟩ := hl.form
   unfold maxLen at hq2 hd2
   obtain ⟨b0,off0,AV,rfl,hb0,c0,c1,hAV⟩ := AtomS_at.elem hl n hlt
   have HAV := Lib.hid hAV
   have HC0 := Lib.hid c0
   have HC1 := Lib.hid c1
   have hAw := hlw n hlt
   have hAi := hin n hlt
   have HD := Lib.hid (show l.drop n = l[n] :: l.drop (n + 1) from List.drop_eq_getElem_cons hlt)
   have hrl : (l.drop (n + 1)).length ≤ 2 := by rw [List.length_drop]; omega
   obtain ⟨a,ha⟩ : ∃ a,a = l[n] := ⟨_,rfl⟩
   obtain ⟨r,hr⟩ : ∃ r,r = l.drop (n + 1) := ⟨_,rfl⟩
   rw [← ha] at hAw hAi
   rw [← hr] at hrl
   rw [← ha,← hr] at HD
   rw [← ha] at HC0 HAV
   have ih2 := fun bv b w => ih (n + 1) bv b w (by omega)
   unfold GivesWalk at ih2
   rw [← hr] at ih2
   have HIH := Lib.hid ih2
   obtain ⟨BV,BT,rfl,hbt1,hbt2,-,-⟩ := hb
   have hb0l := hb0
   clear ih ih2 hx hl c0 c1 hAV ha hr
   have dn : ((n : Int) == (l.length : Int)) = false := by rw [beq_eq_false_iff_ne]; omega
   obtain ⟨E,hEq⟩ : ∃ E,E = w.alloc (.cells #[.slice P x.rels.length c,.slice Q x.facts.length d] 27) := ⟨_,rfl⟩
   have hE : Below w.heap.size w E := by rw [hEq]; exact below_more (Below.refl _ _) _
   have HEz := Lib.hid (show E.heap.size = w.heap.size + 1 by rw [hEq]; simp)
   have X0 := Lib.hid (show E.cell? ⟨w.heap.size,0,none⟩ = some (.slice P x.rels.length c) by rw [hEq]; simp [go_sem])
   have X1 := Lib.hid (show E.cell? ⟨w.heap.size,1,none⟩ = some (.slice Q x.facts.length d) by rw [hEq]; simp [go_sem])
   have hF : Below E.heap.size E (E.alloc (.cells #[] 31)) := (Below.refl _ _).alloc (Nat.le_refl _) _
   have HO0 := Lib.hid (show IntSSO E.heap.size (E.alloc (.cells #[] 31)).heap.size (.slice (some ⟨E.heap.size,0,none⟩) 0 0) [] [] (E.alloc (.cells #[] 31)) from ⟨rfl,World.ownsRow_lit E #[] 0 (Nat.le_refl _) (by decide) rfl,(fun g hg => by obtain rfl : g = E.heap.size := (by simpa [Value.ownBlock] using hg.symm); simp),(fun i h => absurd h (by simp)),List.Pairwise.nil⟩)
   have HF0 := Lib.hid hF
   have hEz2 : (w.alloc (.cells #[.slice P x.rels.length c,.slice Q x.facts.length d] 27)).heap.size = E.heap.size := by rw [hEq]
   clear hF
   have HB5 := Lib.hid hb5
   have HNM := Lib.hid hnm
   clear hb5 hnm
   go_enter Tryz.func123,Tryz.ntmps123
   go_upto_region 4 with fail
   rw [← hEq]
   clear hEq hEz2
   go_wp2
   go_loopw [9,10,11,12] (fun o i _ _ wr => WalkInv x a r b E.heap.size E o i wr) (fun _ i _ _ _ => x.facts.length - (intOf i).toNat)
   case atStart => exact WalkInv.mk' 0 [] (by omega) rfl ⟨_,rfl⟩ HO0.out HF0.out
   case round =>
    obtain ⟨k,Vs,hk,rfl,HG,HS,HW⟩ := hrel
    obtain ⟨go,hgo⟩ := HG.out
    obtain ⟨co,rfl,-⟩ := own_some HS.out.row hgo
    clear hgo
    obtain ⟨L,hL⟩ : ∃ L,L = (x.facts.take k).flatMap (walkF x.facts a r b) := ⟨_,rfl⟩
    have HLn := Lib.hid (show L.length ≤ 27000 by rw [hL]; exact walkT_len x.facts hfn a r hrl b k)
    rw [← hL] at HS
    have HLL := Lib.hid hL
    clear hL
    have HWw := Lib.hid (hE.trans (HW.out.mono hE.size))
    have hzw : w.heap.size < wr.heap.size := by have h1 := HW.out.size; rw [HEz.out] at h1; omega
    have x0 := (HW.out.cell (p := ⟨w.heap.size,0,none⟩) (by show w.heap.size < _; rw [HEz.out]; omega)).trans X0.out
    have x1 := (HW.out.cell (p := ⟨w.heap.size,1,none⟩) (by show w.heap.size < _; rw [HEz.out]; omega)).trans X1.out
    have hez : E.heap.size ≤ wr.heap.size := HW.out.size
    by_cases hlk : k < x.facts.length
    · obtain ⟨b1,off1,FV,rfl,hb1,d0,d1,hFV⟩ := FactS_at.elem HF.out k hlk
      have HNx := Lib.hid (walkT_next x.facts a r b k hlk)
      have hfw := hxw.2 k hlk
      obtain ⟨f,hf⟩ : ∃ f,f = x.facts[k] := ⟨_,rfl⟩
      rw [← hf] at d0 hFV hfw HNx
      clear hf
      obtain ⟨AA,ac,rfl,-⟩ := id HAV.out
      obtain ⟨FA,fc,rfl,-⟩ := id hFV
      have HFV := Lib.hid hFV
      have G0 := Aft.cell (B := wr.heap.size) (Nat.lt_of_lt_of_le hb0 HWw.out.size) ((HWw.out.cell (p := ⟨b0,off0 + n * 2,none⟩) hb0).trans HC0.out)
      have G1 := Aft.cell (B := wr.heap.size) (Nat.lt_of_lt_of_le hb0 HWw.out.size) ((HWw.out.cell (p := ⟨b0,off0 + n * 2 + 1,none⟩) hb0).trans HC1.out)
      have G2 := Aft.cell (B := wr.heap.size) (Nat.lt_of_lt_of_le hb1 HWw.out.size) ((HWw.out.cell (p := ⟨b1,off1 + k * 2,none⟩) hb1).trans d0)
      have G3 := Aft.cell (B := wr.heap.size) (Nat.lt_of_lt_of_le hb1 HWw.out.size) ((HWw.out.cell (p := ⟨b1,off1 + k * 2 + 1,none⟩) hb1).trans d1)
      have G4 := Aft.cell (B := wr.heap.size) hzw x1
      have hWd : Below w.heap.size w wr.drew := HWw.out.drew
      have hcon := specL11Fit_any (.agg #[.int .i64 a.rel,.slice AA a.vals.length ac]) a (.agg #[.int .i64 f.rel,.slice FA f.vals.length fc]) f (.slice BV b.length BT) b wr.drew ⟨_,rfl,(HAV.out.below hWd (Nat.le_refl _)).more hWd.size⟩ hAw ⟨_,rfl,(HFV.out.below hWd (Nat.le_refl _)).more hWd.size⟩ hfw ((HB.out.below hWd (Nat.le_refl _)).more hWd.size) (by have := HB5.out; omega) (fun k hk => by have h1 := HB5.out; have h2 := hAi k hk; omega)
      obtain ⟨ok,hok⟩ : ∃ ok,ok = (fitA a f b).2 := ⟨_,rfl⟩
      obtain ⟨bn,hbn⟩ : ∃ bn,bn = (fitA a f b).1 := ⟨_,rfl⟩
      have HBN := Lib.hid (show bn.length = 5 by rw [hbn,fitA_len]; exact HB5.out)
      have HSTEP := Lib.hid (show walkF x.facts a r b f = if ok = true then walkM x.facts r bn else [] by rw [hok,hbn]; rfl)
      rw [← hok,← hbn] at hcon
      have HCON := Lib.hid hcon
      clear hok hbn hcon d0 d1 hFV
      go_wp2
      refine wp_region_planL (C := fun w' => ∃ u : Aft wr.heap.size wr,w' = u.now) (.still 0 (.still 1 (.still 2 (.still 3 (.still 4 (.still 5 (.still 6 (.still 7 (.still 8 (.still 9 (.move true 10 (.still 11 (.still 12 (.still 13 (.still 14 (.still 15 .done))))) .none))))))))))) (by kernel_rfl) (by kernel_rfl) (by kernel_rfl) (fun _ => ⟨⟨wr.drew,(Below.refl _ _).drew⟩,rfl⟩) ?_
      iterate 10
       refine plan_look _ rfl rfl ?_
       go_big_quiet_step (fail)
       refine wpQuiet_nil ?_
      refine plan_call _ 153 _ _ _ _ _ rfl _ Tryz.func153 (by kernel_rfl) (by kernel_rfl) ?_ True.intro
      refine HCON.out.mono ?_
      rintro _ w2 ⟨V',rfl,hO',hb2⟩
      have hb2' : Below wr.heap.size wr w2 := (show Below wr.heap.size wr wr.drew from (Below.refl _ _).drew).trans hb2
      refine ⟨_,rfl,fun _ => ⟨⟨w2,hb2'⟩,rfl⟩,?_⟩
      refine plan_put ?_ (by simp only [Act.put,putA,putB,putC]; rfl)
      iterate 5
       refine plan_look _ rfl rfl ?_
       go_big_quiet_step (fail)
       refine wpQuiet_nil ?_
      refine plan_done ?_
      have hwW2 : Below w.heap.size w w2 := HWw.out.trans (hb2'.mono HWw.out.size)
      have HS2 := Lib.hid (HS.out.below hb2' (Nat.le_refl _))
      have HW2 := Lib.hid (show Below E.heap.size E w2 from HW.out.trans (hb2'.mono hez))
      have hz2 := hb2'.size
      have y0 := (hb2'.cell (p := ⟨w.heap.size,0,none⟩) hzw).trans x0
      have y1 := (hb2'.cell (p := ⟨w.heap.size,1,none⟩) hzw).trans x1
      have HO2 := Lib.hid hO'
      clear x0 x1 hO' hb2 hb2'
      cases ok with
      | false =>
        have HN2 := Lib.hid (show (x.facts.take (k + 1)).flatMap (walkF x.facts a r b) = L by rw [HNx.out,HSTEP.out,← HLL.out]; simp)
        go_wp2
        go_roundw
        case rel => exact WalkInv.mk' (k + 1) Vs (by omega) (by go_num) ⟨_,rfl⟩ (by rw [HN2.out]; exact HS2.out.mono (Nat.le_refl _) hz2) HW2.out
        case measure => simp [intOf]; omega
      | true =>
        have HN2 := Lib.hid (show (x.facts.take (k + 1)).flatMap (walkF x.facts a r b) = L ++ walkM x.facts r bn by rw [HNx.out,HSTEP.out,← HLL.out]; rfl)
        have HMl := Lib.hid (walkM_900 x.facts hfn r hrl bn)
        have hrec := HIH.out V' bn w2 ((HX.out.below hwW2 (Nat.le_refl _)).more hwW2.size) ((HL.out.below hwW2 (Nat.le_refl _)).more hwW2.size) HO2.out.at_ HBN.out
        rw [show ((n + 1 : Nat) : Int) = (n : Int) + 1 from by omega] at hrec
        go_wp2_with fail
        refine hrec.mono ?_
        rintro e w3 ⟨U,Us,rfl,hUg,hUS,hb3⟩
        have HS3 := Lib.hid ((HS2.out.below hb3 hz2).mono (Nat.le_refl _) hz2)
        have HW3 := Lib.hid (HW2.out.trans (hb3.mono HW2.out.size))
        have HUS := Lib.hid hUS
        have HUG := Lib.hid hUg
        have hz3 := hb3.size
        clear hrec hUS hUg hb3
        go_wp2_with (at_builtin; refine ss_apps HS3.out rfl _ _ rfl rfl rfl HUS.out HUG.out ⟨_,rfl⟩ (by omega) hz3 (Nat.le_refl _) (by have h1 := HLn.out; have h2 := HMl.out; omega) ?_; intro v5 w5 hO5 hg5 hB5)
        go_roundw
        case rel => exact WalkInv.mk' (k + 1) (Vs ++ Us) (by omega) (by go_num) hg5 (by rw [HN2.out]; exact hO5) (HW3.out.trans hB5)
        case measure => simp [intOf]; omega
    · obtain rfl : k = x.facts.length := by omega
      have HM := Lib.hid (show walkM x.facts (l.drop n) b = L by rw [HLL.out,HD.out,List.take_of_length_le (Nat.le_refl _)]; rfl)
      go_wp2
      refine bodyPost_ret (v := .slice (some ⟨go,0,none⟩) Vs.length co) (by simp [results,Tryz.results123,go_sem]) rfl ⟨_,Vs,rfl,⟨_,rfl⟩,?_,HWw.out⟩
      rw [HM.out]
      exact HS.out.mono hE.size (Nat.le_refl _)
end Go.Proofs.YtobdijcnfmgidaaGreat
