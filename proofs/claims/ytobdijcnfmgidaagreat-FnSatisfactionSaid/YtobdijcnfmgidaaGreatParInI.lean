/- Walks and plain lemmas for the laws of this seat. -/
import Derived.Test.YtobdijcnfmgidaaGreatBase
import Derived.Test.YtobdijcnfmgidaaGreatInts
import Derived.Test.YtobdijcnfmgidaaGreatDrawR
import Derived.Test.YtobdijcnfmgidaaGreatAft
import Derived.Test.YtobdijcnfmgidaaGreatTyAtom
import Derived.Test.YtobdijcnfmgidaaGreatTyDepS
import Derived.Test.YtobdijcnfmgidaaGreatDrawA9
namespace Go.Proofs.YtobdijcnfmgidaaGreat
open Go.RowKit
theorem wp_own_appsM {P : Program} {α : Type} (f : α → List Value) (k bytes : Nat) (hf : ∀ x, (f x).length = k) {ops : Array Oper} {rest : List Oper} {o : Oper} {a : Act} {Q : Exit → Act → World → Prop} {B : Nat} {v : Value} {l r : List α} {w : World} {e t : TypeId} {z : Value}
 (hone : ∀ x ∈ r,∀ u ∈ f x,u.oneCell' = true) (ht : P.underlying t = some (.slice e)) (hinfo : (P.info? e).map (fun i => (i.zero,i.size,i.bytes)) = some (some z,k,bytes)) (hzs : z.cells.size = k) (hk : 0 < k)
 (hO : w.ownsRow B e k v l.length (l.flatMap f)) (hgd : o.guard = none) (s x : Operand) (ho : o.op = .call { callee := .builtin .append,args := #[s,x],argTypes := #[t,t] }) (hs : a.eval s = v) (b off m c : Nat) (hx : a.eval x = .slice (some ⟨b,off,none⟩) m c) (hm : r.length = m) (hr : ∀ j u,(r.flatMap f)[j]? = some u → w.cell? ⟨b,off + j,none⟩ = some u)
 (hlen : (l.length + r.length) * bytes ≤ 140737488355328) (hl2 : l.length + r.length < 140737488355328) (hbase : B ≤ w.heap.size)
 (h : ∀ v' w',w'.ownsRow B e k v' (l ++ r).length ((l ++ r).flatMap f) → Below B w w' → w.grownBy w' v.ownBlock → (v'.ownBlock = v.ownBlock ∨ v'.ownBlock = some w.heap.size) → wpList P ops Q rest (a.put o.dst v') w') :
 wpList P ops Q (o :: rest) a w := by
 subst hm
 obtain ⟨i0,hi,hz0,hz1,hz2⟩ := info_parts hinfo
 have hcell : ∀ j u,(r.flatMap f)[j]? = some u → w.cell? ((⟨b,off,none⟩ : Addr).add j) = some u := by
  intro j u hu
  have e1 : (⟨b,off,none⟩ : Addr).add j = ⟨b,off + j,none⟩ := by unfold Addr.add; split <;> simp_all
  rw [e1]; exact hr j u hu
 refine wpList_append_own_at _ hgd s x t ho B e i0 z k bytes ht hi hz0 hz1 hz2 hzs hk v l.length (l.flatMap f) hs hO ⟨b,off,none⟩ r.length c (r.flatMap f) hx (flat_len f k hf r) hcell (fun u hu => by obtain ⟨y,hy1,hy⟩ := List.mem_flatMap.1 hu; exact hone y hy1 u hy) (by unfold maxLen; omega) hlen hbase ?_
 intro v' w' h2 h3 _ h5
 refine h v' w' ?_ ((Below.refl B w).grown h3 hbase (fun g hg => (hO.lt g hg).1)) h3 h5
 rw [List.length_append,List.flatMap_append]
 exact h2
set_option maxHeartbeats 800000 in
theorem specIsValidRelation_any (s : ByteArray) (a : Int) (b : Bool) (w : World) :
 Calls Tryz.prog 79 #[.agg #[.string s,.int .i64 a,.bool b]] w fun e w' => e = .returned (.bool (relOk s a)) ∧ Below w.heap.size w w' := by
 by_cases h1 : s.size = 1
 · have h0 : 0 < s.size := by omega
   have HN := Lib.hid (nameOk_one s h1)
   by_cases h2 : (97 : Int) ≤ ((s[0].toNat : Nat) : Int)
   · by_cases h3 : ((s[0].toNat : Nat) : Int) ≤ 122
     · have hr : Hid (relOk s a = inB a 1 3) := Lib.hid (by unfold relOk; rw [HN.out]; simp [h2,h3])
       go_enter Tryz.func79,Tryz.ntmps79
       go_wp2_with (go_at_call 74; refine (l1In_any _ _ _ _).mono ?_; rintro e w' ⟨rfl,rfl⟩)
       go_ret
       refine ⟨?_,(Below.refl _ _).alloc (Nat.le_refl _) _⟩
       rw [hr.out]; rfl
     · have hr : Hid (relOk s a = false) := Lib.hid (by unfold relOk; rw [HN.out]; simp [h2,h3])
       go_enter Tryz.func79,Tryz.ntmps79
       go_wp2
       go_ret
       refine ⟨?_,(Below.refl _ _).alloc (Nat.le_refl _) _⟩
       rw [hr.out]; rfl
   · have hr : Hid (relOk s a = false) := Lib.hid (by unfold relOk; rw [HN.out]; simp [h2])
     go_enter Tryz.func79,Tryz.ntmps79
     go_wp2
     go_ret
     refine ⟨?_,(Below.refl _ _).alloc (Nat.le_refl _) _⟩
     rw [hr.out]; rfl
 · have hr : Hid (relOk s a = false) := Lib.hid (by unfold relOk; rw [nameOk_ne s h1]; rfl)
   go_enter Tryz.func79,Tryz.ntmps79
   go_wp2
   go_ret
   refine ⟨?_,(Below.refl _ _).alloc (Nat.le_refl _) _⟩
   rw [hr.out]; rfl
set_option maxHeartbeats 400000 in
theorem isRelationName_any (s : ByteArray) (w : World) :
 Calls Tryz.prog 152 #[.string s] w fun e w' => e = .returned (.bool (nameOk s)) ∧ w = w' := by
 by_cases h1 : s.size = 1
 · have hN := nameOk_one s h1
   generalize nameOk s = N at hN
   have h0 : 0 < s.size := by omega
   by_cases h2 : (97 : Int) ≤ ((s[0].toNat : Nat) : Int)
   all_goals
    have HN := Lib.hid hN
    clear hN
    go_enter Tryz.func152,Tryz.ntmps152
    go_wp2
    go_ret
    rw [HN.out]
    first | rfl | (simp [*]; done) | (simp; omega)
 · rw [nameOk_ne s h1]
   go_enter Tryz.func152,Tryz.ntmps152
   go_wp2
   go_ret
   exact ⟨rfl,rfl⟩
set_option maxHeartbeats 400000 in
theorem implIsValidRelation_any (s : ByteArray) (a : Int) (b : Bool) (w : World) :
 Calls Tryz.prog 121 #[.agg #[.string s,.int .i64 a,.bool b]] w fun e w' => e = .returned (.bool (relOk s a)) ∧ Below w.heap.size w w' := by
 unfold relOk inB
 cases hn : nameOk s
 · go_enter Tryz.func121,Tryz.ntmps121
   go_wp2_with (go_at_call 152; refine (isRelationName_any _ _).mono ?_; rintro e w' ⟨rfl,rfl⟩)
   go_ret
   exact ⟨rfl,(Below.refl _ _).alloc (Nat.le_refl _) _⟩
 · by_cases h1 : 1 ≤ a
   all_goals
    go_enter Tryz.func121,Tryz.ntmps121
    go_wp2_with (go_at_call 152; refine (isRelationName_any _ _).mono ?_; rintro e w' ⟨rfl,rfl⟩)
    go_ret
    refine ⟨?_,(Below.refl _ _).alloc (Nat.le_refl _) _⟩
    first | rfl | (simp [*]; done) | (simp; omega) | trace_state
def fitL : List Int → List Int → List Int → List Int × Bool
 | t :: ts,v :: vs,b => if t < 0 then (if -1 - t = v then fitL ts vs b else (b,false)) else if b.getD t.toNat 0 = 10 ∨ b.getD t.toNat 0 = v then fitL ts vs (b.set t.toNat v) else (b,false)
 | _,_,b => (b,true)
def fitA (a : Atm) (f : Fct) (b : List Int) : List Int × Bool := if a.rel = f.rel ∧ a.vals.length = f.vals.length then fitL a.vals f.vals b else (b, false)
theorem fitA_no {a : Atm} {f : Fct} {b : List Int} (h : ¬(a.rel = f.rel ∧ a.vals.length = f.vals.length)) : fitA a f b = (b, false) := if_neg h
theorem fitA_yes {a : Atm} {f : Fct} {b : List Int} (h1 : a.rel = f.rel) (h2 : a.vals.length = f.vals.length) : fitA a f b = fitL a.vals f.vals b := if_pos ⟨h1, h2⟩
theorem fitL_step {ts vs b : List Int} (k : Nat) (h1 : k < ts.length) (h2 : k < vs.length) : fitL (ts.drop k) (vs.drop k) b = if ts[k] < 0 then (if -1 - ts[k] = vs[k] then fitL (ts.drop (k + 1)) (vs.drop (k + 1)) b else (b, false)) else if b.getD ts[k].toNat 0 = 10 ∨ b.getD ts[k].toNat 0 = vs[k] then fitL (ts.drop (k + 1)) (vs.drop (k + 1)) (b.set ts[k].toNat vs[k]) else (b, false) := by
 rw [List.drop_eq_getElem_cons h1,List.drop_eq_getElem_cons h2,fitL]
theorem fitL_end {ts vs b : List Int} (k : Nat) (h1 : ts.length ≤ k) : fitL (ts.drop k) (vs.drop k) b = (b, true) := by
 rw [List.drop_eq_nil_of_le h1,fitL]
 intro t ts v vs h; cases h
theorem fitL_len (ts vs b : List Int) : (fitL ts vs b).1.length = b.length := by
 induction ts generalizing vs b with
 | nil => rw [fitL]; intro t ts v vs h; cases h
 | cons t ts ih =>
   cases vs with
   | nil => rw [fitL]; intro t ts v vs _ h; cases h
   | cons v vs =>
     rw [fitL]
     split
     · split
       · exact ih vs b
       · rfl
     · split
       · rw [ih vs]; simp
       · rfl
theorem fitA_len (a : Atm) (f : Fct) (b : List Int) : (fitA a f b).1.length = b.length := by
 unfold fitA
 split
 · exact fitL_len _ _ _
 · rfl
def FitInv (a : Atm) (f : Fct) (b : List Int) (Z : Nat) (E : World) (V : Value) (kv : Value) (wq : World) : Prop :=
 ∃ (k : Nat) (bk : List Int),k ≤ a.vals.length ∧ kv = .int .i64 k ∧ Hid (fitA a f b = fitL (a.vals.drop k) (f.vals.drop k) bk) ∧ Hid (bk.length = b.length) ∧ OwnInts Z V bk wq ∧ Hid (Below Z E wq)
theorem FitInv.mk' {a : Atm} {f : Fct} {b : List Int} {Z : Nat} {E : World} {V : Value} {kv : Value} {wq : World} (k : Nat) (bk : List Int) (h1 : k ≤ a.vals.length) (h2 : kv = .int .i64 k) (h3 : fitA a f b = fitL (a.vals.drop k) (f.vals.drop k) bk) (h4 : bk.length = b.length) (h5 : OwnInts Z V bk wq) (h6 : Below Z E wq) : FitInv a f b Z E V kv wq :=
 ⟨k,bk,h1,h2,Lib.hid h3,Lib.hid h4,h5,Lib.hid h6⟩
def walkM (fs : List Fct) : List Atm → List Int → List (List Int)
 | [],b => [b]
 | a :: r,b => fs.flatMap fun f => if (fitA a f b).2 = true then walkM fs r (fitA a f b).1 else []
def walkF (fs : List Fct) (a : Atm) (r : List Atm) (b : List Int) (f : Fct) : List (List Int) := if (fitA a f b).2 = true then walkM fs r (fitA a f b).1 else []
theorem walkM_cons (fs : List Fct) (a : Atm) (r : List Atm) (b : List Int) : walkM fs (a :: r) b = fs.flatMap (walkF fs a r b) := rfl
theorem flatMap_le {α β : Type} (g : α → List β) (N : Nat) (l : List α) (h : ∀ f ∈ l, (g f).length ≤ N) : (l.flatMap g).length ≤ l.length * N := by
 induction l with
 | nil => simp
 | cons a t ih =>
   rw [List.flatMap_cons,List.length_append,List.length_cons,Nat.succ_mul]
   have h1 := h a List.mem_cons_self
   have h2 := ih (fun f hf => h f (List.mem_cons_of_mem _ hf))
   omega
theorem walkM_len (fs : List Fct) (hf : fs.length ≤ 30) (l : List Atm) (b : List Int) : (walkM fs l b).length ≤ 30 ^ l.length := by
 induction l generalizing b with
 | nil => simp [walkM]
 | cons a r ih =>
   rw [walkM_cons]
   refine Nat.le_trans (flatMap_le _ (30 ^ r.length) fs (fun f _ => ?_)) ?_
   · unfold walkF
     split
     · exact ih _
     · simp
   · rw [List.length_cons,Nat.pow_succ,Nat.mul_comm (30 ^ r.length)]
     exact Nat.mul_le_mul_right _ hf
theorem walkM_900 (fs : List Fct) (hf : fs.length ≤ 30) (l : List Atm) (hl : l.length ≤ 2) (b : List Int) : (walkM fs l b).length ≤ 900 := by
 refine Nat.le_trans (walkM_len fs hf l b) ?_
 rcases (show l.length = 0 ∨ l.length = 1 ∨ l.length = 2 by omega) with h | h | h <;> rw [h] <;> decide
theorem walkF_900 (fs : List Fct) (hf : fs.length ≤ 30) (a : Atm) (r : List Atm) (hl : r.length ≤ 2) (b : List Int) (f : Fct) : (walkF fs a r b f).length ≤ 900 := by
 unfold walkF
 split
 · exact walkM_900 fs hf r hl _
 · simp
theorem walkT_len (fs : List Fct) (hf : fs.length ≤ 30) (a : Atm) (r : List Atm) (hl : r.length ≤ 2) (b : List Int) (k : Nat) : ((fs.take k).flatMap (walkF fs a r b)).length ≤ 27000 := by
 refine Nat.le_trans (flatMap_le _ 900 _ (fun f _ => walkF_900 fs hf a r hl b f)) ?_
 have : (fs.take k).length ≤ 30 := by rw [List.length_take]; omega
 omega
theorem walkT_next (fs : List Fct) (a : Atm) (r : List Atm) (b : List Int) (k : Nat) (hk : k < fs.length) : (fs.take (k + 1)).flatMap (walkF fs a r b) = (fs.take k).flatMap (walkF fs a r b) ++ walkF fs a r b fs[k] := by
 rw [List.take_succ_eq_append_getElem hk,List.flatMap_append,List.flatMap_cons,List.flatMap_nil,List.append_nil]
def instT (b : List Int) (t : Int) : Option Int :=
 if 0 ≤ t then (if h : t.toNat < b.length then (if validV b[t.toNat] = true then some b[t.toNat] else none) else none) else if validV (-1 - t) = true then some (-1 - t) else none
def instL (b : List Int) : List Int → Option (List Int)
 | [] => some []
 | t :: r => match instT b t with
   | some v => (instL b r).map (v :: ·)
   | none => none
theorem instL_snoc {b : List Int} (a : List Int) (t : Int) (l : List Int) (v : Int) (h : instL b a = some l) (ht : instT b t = some v) : instL b (a ++ [t]) = some (l ++ [v]) := by
 induction a generalizing l with
 | nil => simp [instL] at h; subst h; simp [instL,ht]
 | cons y q ih =>
   rw [instL] at h
   rw [List.cons_append,instL]
   split at h
   · rename_i z hz
     cases hq : instL b q with
     | none => rw [hq] at h; cases h
     | some m =>
       rw [hq] at h
       cases h
       rw [ih m hq]; rfl
   · cases h
theorem instL_none {b : List Int} (a c : List Int) (t : Int) (h : instT b t = none) : instL b (a ++ t :: c) = none := by
 induction a with
 | nil => simp [instL,h]
 | cons x r ih =>
   rw [List.cons_append,instL,ih]
   split <;> rfl
theorem instL_len {b : List Int} (a l : List Int) (h : instL b a = some l) : l.length = a.length := by
 induction a generalizing l with
 | nil => simp [instL] at h; subst h; rfl
 | cons y q ih =>
   rw [instL] at h
   split at h
   · rename_i z hz
     cases hq : instL b q with
     | none => rw [hq] at h; cases h
     | some m =>
       rw [hq] at h
       cases h
       simp [ih m hq]
   · cases h
def Instantiate_r0 (a : Atm) (b : List Int) : Fct := match instL b a.vals with
 | some vs => ⟨a.rel,vs⟩
 | none => ⟨0,[]⟩
def Instantiate_ok (a : Atm) (b : List Int) : Bool := (instL b a.vals).isSome
theorem inst_no {a : Atm} {b : List Int} (h : instL b a.vals = none) : Instantiate_r0 a b = ⟨0, []⟩ ∧ Instantiate_ok a b = false := by unfold Instantiate_r0 Instantiate_ok; rw [h]; exact ⟨rfl, rfl⟩
theorem inst_yes {a : Atm} {b vs : List Int} (h : instL b a.vals = some vs) : Instantiate_r0 a b = ⟨a.rel, vs⟩ ∧ Instantiate_ok a b = true := by unfold Instantiate_r0 Instantiate_ok; rw [h]; exact ⟨rfl, rfl⟩
theorem instL_stop {a : Atm} {b : List Int} (k : Nat) (hk : k < a.vals.length) (h : instT b a.vals[k] = none) : instL b a.vals = none := by
 have e : a.vals = a.vals.take k ++ a.vals[k] :: a.vals.drop (k + 1) := by rw [← List.drop_eq_getElem_cons hk,List.take_append_drop]
 rw [e]; exact instL_none _ _ _ h
def InstInv (a : Atm) (b : List Int) (g : Nat) (W : World) (kv : Value) (wq : World) : Prop :=
 ∃ (k : Nat) (V : Value) (vs : List Int),k ≤ a.vals.length ∧ kv = .int .i64 k ∧ Hid (instL b (a.vals.take k) = some vs) ∧ wq.cell? ⟨g,0,none⟩ = some (.int .i64 a.rel) ∧ wq.cell? ⟨g,1,none⟩ = some V ∧ (∀ o,wq.frozen? ⟨g,o,none⟩ = false) ∧ OwnInts (g + 1) V vs wq ∧ Hid (Chg (fun q => q = g) W wq)
theorem InstInv.mk' {a : Atm} {b : List Int} {g : Nat} {W : World} {kv : Value} {wq : World} (k : Nat) (V : Value) (vs : List Int) (h1 : k ≤ a.vals.length) (h2 : kv = .int .i64 k) (h3 : instL b (a.vals.take k) = some vs) (h4 : wq.cell? ⟨g, 0, none⟩ = some (.int .i64 a.rel)) (h5 : wq.cell? ⟨g, 1, none⟩ = some V) (h6 : ∀ o, wq.frozen? ⟨g, o, none⟩ = false) (h7 : OwnInts (g + 1) V vs wq) (h8 : Chg (fun q => q = g) W wq) : InstInv a b g W kv wq :=
 ⟨k,V,vs,h1,h2,Lib.hid h3,h4,h5,h6,h7,Lib.hid h8⟩
theorem instL_next {a : Atm} {b vs : List Int} {v : Int} (k : Nat) (hk : k < a.vals.length) (h : instL b (a.vals.take k) = some vs) (ht : instT b a.vals[k] = some v) : instL b (a.vals.take (k + 1)) = some (vs ++ [v]) := by
 rw [List.take_succ_eq_append_getElem hk]; exact instL_snoc _ _ _ _ h ht
def depsOk (l : List Rel) (xs : List Dep) : Bool := validRels l && (decide (xs.length ≤ 5) && xs.all (depOk l))
theorem specL11None_c (w : World) : Calls Tryz.prog 154 #[] w fun e w' => e = .returned (.int .i64 10) ∧ w = w' := by
 go_enter Tryz.func154,Tryz.ntmps154
 go_wp2
 go_ret
 exact ⟨rfl,rfl⟩
set_option maxHeartbeats 6400000 in
set_option maxRecDepth 100000 in
theorem specL11Fit_any (v : Value) (a : Atm) (u : Value) (f : Fct) (x : Value) (b : List Int) (w : World) (h : Atom_at w w.heap.size v a) (hw : Atom_wf a) (h' : Fact_at w w.heap.size u f) (hwf : Fact_wf f) (h'' : IntsAt w w.heap.size x b) (hn : b.length ≤ 1048576) (hin : ∀ (k : Nat) (hk : k < a.vals.length), a.vals[k] < b.length) :
 Calls Tryz.prog 153 #[v,u,x] w fun e w' => ∃ V,e = .returned (.tuple #[V,.bool (fitA a f b).2]) ∧ OwnInts w.heap.size V (fitA a f b).1 w' ∧ Below w.heap.size w w' := by
 obtain ⟨V0,rfl,hV⟩ := h
 obtain ⟨V1,rfl,hU⟩ := h'
 have HV := Lib.hid hV
 have HU := Lib.hid hU
 have HB := Lib.hid h''
 obtain ⟨P,c,rfl,hc1,hc2,-⟩ := hV
 obtain ⟨Q,d,rfl,hd1,hd2,-⟩ := hU
 obtain ⟨R,q,rfl,hq1,hq2,-,hA⟩ := h''
 have HRN := Lib.hid (show R = none → q = 0 from hA)
 clear hA
 unfold maxLen at hc2 hd2 hq2
 obtain ⟨E,hEq⟩ : ∃ E,E = ((w.alloc (.cells #[.int .i64 a.rel,.slice P a.vals.length c] 111)).alloc (.cells #[.int .i64 f.rel,.slice Q f.vals.length d] 66)) := ⟨_,rfl⟩
 have hE : Below w.heap.size w E := by rw [hEq]; exact below_more (below_more (Below.refl _ _) _) _
 have HEz := Lib.hid (show E.heap.size = w.heap.size + 2 by rw [hEq]; simp)
 have A0 := Lib.hid (show E.cell? ⟨w.heap.size,0,none⟩ = some (.int .i64 a.rel) by rw [hEq]; simp [go_sem])
 have A1 := Lib.hid (show E.cell? ⟨w.heap.size,1,none⟩ = some (.slice P a.vals.length c) by rw [hEq]; simp [go_sem])
 have F0 := Lib.hid (show E.cell? ⟨w.heap.size + 1,0,none⟩ = some (.int .i64 f.rel) by rw [hEq]; simp [go_sem])
 have F1 := Lib.hid (show E.cell? ⟨w.heap.size + 1,1,none⟩ = some (.slice Q f.vals.length d) by rw [hEq]; simp [go_sem])
 have hF : Below E.heap.size E (E.alloc (.cells #[] 3)) := (Below.refl _ _).alloc (Nat.le_refl _) _
 have hEF := hE.trans (hF.mono hE.size)
 have HLE := Lib.hid (show IntsAt (E.alloc (.cells #[] 3)) w.heap.size (.slice R b.length q) b from SliceAt.below HB.out hEF (Nat.le_refl _))
 have HOE := Lib.hid (OwnInts.empty E E.heap.size (Nat.le_refl _))
 go_enter Tryz.func153,Tryz.ntmps153
 have hle := HLE.out
 have hoe := HOE.out
 rw [hEq] at hle hoe
 go_upto_region 2 with (at_builtin; refine ints_apps (r := b) hoe rfl _ _ rfl (by simp [go_sem]) R b.length q rfl rfl hle HRN.out (by simp; omega) (by simp) ?_; intro v1 w1 hO1 hW1 _ _; rw [List.nil_append] at hO1; obtain ⟨P2,c2,rfl,hl2,hm2,-⟩ := id hO1.at_)
 rw [← hEq] at hO1 hW1
 clear hle hoe
 unfold maxLen at hm2
 have hb1 : Below E.heap.size E w1 := hF.trans hW1
 clear hW1 hEq hF HLE HOE hEF
 have a0 := (hb1.cell (p := ⟨w.heap.size,0,none⟩) (by show w.heap.size < _; have := HEz.out; omega)).trans A0.out
 have a1 := (hb1.cell (p := ⟨w.heap.size,1,none⟩) (by show w.heap.size < _; have := HEz.out; omega)).trans A1.out
 have f0 := (hb1.cell (p := ⟨w.heap.size + 1,0,none⟩) (by show w.heap.size + 1 < _; have := HEz.out; omega)).trans F0.out
 have f1 := (hb1.cell (p := ⟨w.heap.size + 1,1,none⟩) (by show w.heap.size + 1 < _; have := HEz.out; omega)).trans F1.out
 have HO1 := Lib.hid hO1
 have HB1 := Lib.hid hb1
 have hz : w.heap.size ≤ E.heap.size := hE.size
 have HZ := Lib.hid hz
 clear hO1 hb1 hz
 have fin : ∀ (bk : List Int) (wq : World) (r : Bool),OwnInts E.heap.size (.slice P2 b.length c2) bk wq → Below E.heap.size E wq → fitA a f b = (bk,r) → OwnInts w.heap.size (.slice P2 b.length c2) (fitA a f b).1 wq ∧ Below w.heap.size w wq := fun bk wq r h1 h2 h3 => by
  rw [h3]; exact ⟨h1.mono HZ.out,hE.trans (h2.mono HZ.out)⟩
 have FI := Lib.hid fin
 clear fin
 by_cases hr : a.rel = f.rel
 · by_cases hl : a.vals.length = f.vals.length
   · have HFA := Lib.hid (fitA_yes (b := b) hr hl)
     have HL := Lib.hid hl
     have dr : (a.rel != f.rel) = false := by rw [hr]; exact bne_self_eq_false _
     have dl' : ((a.vals.length : Int) != (f.vals.length : Int)) = false := by rw [hl]; exact bne_self_eq_false _
     clear hl hr
     go_wp2
     clear a0 a1 f0 f1 dr dl'
     go_loopw [9,10] (fun i _ wr => FitInv a f b E.heap.size E (.slice P2 b.length c2) i wr) (fun i _ _ => a.vals.length - (intOf i).toNat)
     case atStart => exact FitInv.mk' 0 b (by omega) rfl (by rw [HFA.out]; rfl) rfl HO1.out HB1.out
     case round =>
      obtain ⟨k,bk,hk,rfl,HI,HN,hO,HW⟩ := hrel
      have a1 := (HW.out.cell (p := ⟨w.heap.size,1,none⟩) (by show w.heap.size < _; have := HEz.out; omega)).trans A1.out
      have f1 := (HW.out.cell (p := ⟨w.heap.size + 1,1,none⟩) (by show w.heap.size + 1 < _; have := HEz.out; omega)).trans F1.out
      have HO := Lib.hid hO
      clear hO
      have HWr := Lib.hid (show Below w.heap.size w wr from hE.trans (HW.out.mono HZ.out))
      by_cases hlt : k < a.vals.length
      · have hlf : k < f.vals.length := by have := HL.out; omega
        obtain ⟨b0,off0,rfl,hb0,e0⟩ := IntsAt.elem HV.out k hlt
        replace e0 := (HWr.out.cell (p := ⟨b0,off0 + k,none⟩) hb0).trans e0
        obtain ⟨b1,off1,rfl,hb1,e1⟩ := IntsAt.elem HU.out k hlf
        replace e1 := (HWr.out.cell (p := ⟨b1,off1 + k,none⟩) hb1).trans e1
        have hwt := hw.2 k hlt
        have hwy := hwf.2 k hlf
        have hit := hin k hlt
        have HS := HI.out
        rw [fitL_step k hlt hlf] at HS
        obtain ⟨t,ht⟩ : ∃ t,t = a.vals[k] := ⟨_,rfl⟩
        obtain ⟨y,hy⟩ : ∃ y,y = f.vals[k] := ⟨_,rfl⟩
        rw [← ht] at e0 hwt hit HS
        rw [← hy] at e1 hwy HS
        clear ht hy HI
        by_cases hneg : t < 0
        · have d1 : decide (t < 0) = true := decide_eq_true hneg
          have hzb : 0 ≤ -1 - t := by omega
          rw [if_pos hneg] at HS
          by_cases hey : -1 - t = y
          · have d2 : decide (-1 - t = y) = true := decide_eq_true hey
            rw [if_pos hey] at HS
            have HS2 := Lib.hid HS
            clear HS
            go_wp2
            go_roundw
            case rel => exact FitInv.mk' (k + 1) bk (by omega) (by go_num) HS2.out HN.out HO.out HW.out
            case measure => simp [intOf]; omega
          · have d2 : decide (-1 - t = y) = false := decide_eq_false hey
            rw [if_neg hey] at HS
            have HE2 := Lib.hid (FI.out bk wr false HO.out HW.out HS)
            have HQ := Lib.hid (show (fitA a f b).2 = false by rw [HS])
            clear HS
            go_wp2
            exact bodyPost_ret (v := .tuple #[.slice P2 b.length c2,.bool false]) (by simp [results,Tryz.results153,go_sem]) rfl ⟨_,by rw [HQ.out],HE2.out.1,HE2.out.2⟩
        · have d1 : decide (t < 0) = false := decide_eq_false hneg
          rw [if_neg hneg] at HS
          obtain ⟨j,rfl⟩ : ∃ j : Nat,t = (j : Int) := ⟨t.toNat,by omega⟩
          have hjb : j < b.length := by omega
          have hjk : j < bk.length := by rw [HN.out]; exact hjb
          obtain ⟨g,cap,e9,hg1,hg2,-,-⟩ := HO.out.form (by omega)
          have e2 : P2 = some ⟨g,0,none⟩ := by injection e9
          subst e2
          clear e9
          have e2 := HO.out.cell HN.out j hjk
          rw [Int.toNat_natCast,List.getD_eq_getElem?_getD,List.getElem?_eq_getElem hjk,Option.getD_some] at HS
          obtain ⟨z,hz⟩ : ∃ z,z = bk[j] := ⟨_,rfl⟩
          rw [← hz] at e2 HS
          clear hz
          have HZ1 := Lib.hid (show w.heap.size < wr.heap.size by have h1 := HW.out.size; rw [HEz.out] at h1; omega)
          have HZ2 := Lib.hid (show w.heap.size + 1 < wr.heap.size by have h1 := HW.out.size; rw [HEz.out] at h1; omega)
          have HZ3 := Lib.hid (show b1 < wr.heap.size by have h1 := HZ1.out; omega)
          have G1 := Aft.cell (B := wr.heap.size) HZ2.out f1
          have G2 := Aft.cell (B := wr.heap.size) HZ3.out e1
          have G3 := Aft.cell (B := wr.heap.size) hg2 e2
          by_cases hz10 : z = 10
          · have d2 : (z != 10) = false := by rw [hz10]; rfl
            rw [if_pos (.inl hz10)] at HS
            have HS2 := Lib.hid HS
            clear HS hz10
            go_wp2
            refine wp_region_aft (Below.refl wr.heap.size wr) (by kernel_rfl) (by kernel_rfl) ?_
            repeat (go_big_quiet_step (((go_at_call 154; exact calls_aft_same (specL11None_c _)))))
            refine wpQuiet_nil ?_
            refine aft_end ?_
            intro w2 hh2
            have hW2 := HW.out.trans (hh2.mono HW.out.size)
            have hO2 := HO.out.below hh2 (Nat.le_refl _)
            have a2 := (hh2.cell (p := ⟨w.heap.size,1,none⟩) HZ1.out).trans a1
            have f2 := (hh2.cell (p := ⟨w.heap.size + 1,1,none⟩) HZ2.out).trans f1
            have e12 := (hh2.cell (p := ⟨b1,off1 + k,none⟩) HZ3.out).trans e1
            have e22 := (hh2.cell (p := ⟨g,j,none⟩) hg2).trans e2
            have fz := hO2.frozen HN.out j
            have HO3 := Lib.hid (hO2.set HN.out j y)
            have HB3 := Lib.hid (hW2.setCell (p := ⟨g,j,none⟩) hg1 (.int .i64 y))
            clear hO2 hW2
            go_wp2
            go_roundw
            case rel => exact FitInv.mk' (k + 1) (bk.set j y) (by omega) (by go_num) HS2.out (by rw [List.length_set]; exact HN.out) HO3.out HB3.out
            case measure => simp [intOf]; omega
          · have d2 : (z != 10) = true := bne_iff_ne.2 hz10
            by_cases hzy : z = y
            · have d3 : (z != y) = false := by rw [hzy]; exact bne_self_eq_false _
              rw [if_pos (.inr hzy)] at HS
              have HS2 := Lib.hid HS
              clear HS hz10 hzy
              go_wp2
              refine wp_region_aft (Below.refl wr.heap.size wr) (by kernel_rfl) (by kernel_rfl) ?_
              repeat (go_big_quiet_step (((go_at_call 154; exact calls_aft_same (specL11None_c _)))))
              refine wpQuiet_nil ?_
              refine aft_end ?_
              intro w2 hh2
              have hW2 := HW.out.trans (hh2.mono HW.out.size)
              have hO2 := HO.out.below hh2 (Nat.le_refl _)
              have a2 := (hh2.cell (p := ⟨w.heap.size,1,none⟩) HZ1.out).trans a1
              have f2 := (hh2.cell (p := ⟨w.heap.size + 1,1,none⟩) HZ2.out).trans f1
              have e12 := (hh2.cell (p := ⟨b1,off1 + k,none⟩) HZ3.out).trans e1
              have e22 := (hh2.cell (p := ⟨g,j,none⟩) hg2).trans e2
              have fz := hO2.frozen HN.out j
              have HO3 := Lib.hid (hO2.set HN.out j y)
              have HB3 := Lib.hid (hW2.setCell (p := ⟨g,j,none⟩) hg1 (.int .i64 y))
              clear hO2 hW2
              go_wp2
              go_roundw
              case rel => exact FitInv.mk' (k + 1) (bk.set j y) (by omega) (by go_num) HS2.out (by rw [List.length_set]; exact HN.out) HO3.out HB3.out
              case measure => simp [intOf]; omega
            · have d3 : (z != y) = true := bne_iff_ne.2 hzy
              rw [if_neg (fun h => h.elim hz10 hzy)] at HS
              have HS2 := Lib.hid HS
              have HQ := Lib.hid (show (fitA a f b).2 = false by rw [HS])
              clear HS hz10 hzy
              go_wp2
              refine wp_region_aft (Below.refl wr.heap.size wr) (by kernel_rfl) (by kernel_rfl) ?_
              repeat (go_big_quiet_step (((go_at_call 154; exact calls_aft_same (specL11None_c _)))))
              refine wpQuiet_nil ?_
              refine aft_end ?_
              intro w2 hh2
              have hW2 := HW.out.trans (hh2.mono HW.out.size)
              have hO2 := HO.out.below hh2 (Nat.le_refl _)
              have HE2 := Lib.hid (FI.out bk w2 false hO2 hW2 HS2.out)
              clear hO2 hW2
              go_wp2
              exact bodyPost_ret (v := .tuple #[.slice (some ⟨g,0,none⟩) b.length c2,.bool false]) (by simp [results,Tryz.results153,go_sem]) rfl ⟨_,by rw [HQ.out],HE2.out.1,HE2.out.2⟩
      · obtain rfl : k = a.vals.length := by omega
        have HS := HI.out.trans (fitL_end _ (Nat.le_refl _))
        have HE2 := Lib.hid (FI.out bk wr true HO.out HW.out HS)
        have HQ := Lib.hid (show (fitA a f b).2 = true by rw [HS])
        clear HS HI
        go_wp2
        exact bodyPost_ret (v := .tuple #[.slice P2 b.length c2,.bool true]) (by simp [results,Tryz.results153,go_sem]) rfl ⟨_,by rw [HQ.out],HE2.out.1,HE2.out.2⟩
   · have hno := fitA_no (b := b) (a := a) (f := f) (fun h => hl h.2)
     have HE2 := Lib.hid (FI.out b w1 false HO1.out HB1.out hno)
     have HQ := Lib.hid (show (fitA a f b).2 = false by rw [hno])
     have dr : (a.rel != f.rel) = false := by rw [hr]; exact bne_self_eq_false _
     have dl' : ((a.vals.length : Int) != (f.vals.length : Int)) = true := bne_iff_ne.2 (by omega)
     clear hno hr
     go_wp2
     exact bodyPost_ret (v := .tuple #[.slice P2 b.length c2,.bool false]) (by simp [results,Tryz.results153,go_sem]) rfl ⟨_,by rw [HQ.out],HE2.out.1,HE2.out.2⟩
 · have hno := fitA_no (b := b) (a := a) (f := f) (fun h => hr h.1)
   have HE2 := Lib.hid (FI.out b w1 false HO1.out HB1.out hno)
   have HQ := Lib.hid (show (fitA a f b).2 = false by rw [hno])
   have dr : (a.rel != f.rel) = true := bne_iff_ne.2 hr
   clear hno
   go_wp2
   exact bodyPost_ret (v := .tuple #[.slice P2 b.length c2,.bool false]) (by simp [results,Tryz.results153,go_sem]) rfl ⟨_,by rw [HQ.out],HE2.out.1,HE2.out.2⟩
end Go.Proofs.YtobdijcnfmgidaaGreat
