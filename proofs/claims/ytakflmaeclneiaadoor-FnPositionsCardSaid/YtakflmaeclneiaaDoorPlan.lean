/-
  Walks and plain lemmas for the laws of this seat: what single Go functions return, for every argument.
-/
import Derived.Test.YtakflmaeclneiaaDoorMem
namespace Go.Proofs.YtakflmaeclneiaaDoor
open Go.RowKit

/-- an operation that only looks: it hands back a value or faults, and leaves the world; never a call -/
def looksB (o : Oper) : Bool := match o.op with
  | .move _ | .assign _ | .pick _ _ _ | .load _ _ | .binOp _ _ _ _ _ | .unOp _ _ _ | .fieldAddr _ _ _ | .indexAddr _ _ _ | .field _ _ _ | .index _ _ _ | .extract _ _ | .slice _ _ _ _ _ | .build _ _ => true
  | .call { callee := .builtin .len, .. } => true
  | _ => false
/-- in the world w the operation yields v and leaves w -/
def stillAt (P : Program) (o : Oper) (a : Act) (w : World) (v : Value) : Prop := (execOp a.eval o).run P w = .ok (.value v) w ∨ ((execOp a.eval o).run P w = .ok .skip w ∧ v = undef)
theorem stillAt.unique {P : Program} {o : Oper} {a : Act} {w : World} {v v' : Value} (h : stillAt P o a w v) (h' : stillAt P o a w v') : v = v' := by
  unfold stillAt at *
  rcases h with h | ⟨h, rfl⟩ <;> rcases h' with h' | ⟨h', rfl⟩ <;> rw [h] at h' <;> simp_all
theorem value_enter {P : Program} {s : Sem Value} {w w' : World} {f : FuncId} {args : Array Value} (e : Result.andThen (Sem.run P s w) (fun v w1 => Result.ok (Next.value v) w1) = Result.ok (Next.enter f args) w') : False := by
  cases hs : Sem.run P s w <;> rw [hs] at e <;> simp [Result.andThen] at e
theorem looks_enter {P : Program} {o : Oper} (h : looksB o = true) (a : Act) (w w' : World) (f : FuncId) (args : Array Value) : (execOp a.eval o).run P w ≠ .ok (.enter f args) w' := by
  unfold looksB at h
  intro e
  unfold execOp at e
  split at h
  all_goals first
    | (rename_i ho; simp only [ho, resolve, Sem.run_bind, Sem.run_pure, Result.andThen_ok, invoke, builtin] at e; exact value_enter e)
    | (rename_i ho; simp only [ho] at e; simp only [Sem.run_bind, Sem.run_pure, Result.andThen] at e; first | (cases e; done) | (repeat' (split at e) <;> simp_all))
    | cases h

/-- an operation carried out, in whatever way, and what is asked of its value and of the world behind it -/
def moves (P : Program) (o : Oper) (a : Act) (w : World) (K : Value → World → Prop) : Prop := match (execOp a.eval o).run P w with
  | .ok (.value u) w' => K u w'
  | .ok .skip w' => K undef w'
  | .ok (.enter f args) w' => Calls P f args w' (fun e w'' => ∃ u, e = .returned u ∧ K u w'')
  | _ => False
theorem moves_mono {P : Program} {o : Oper} {a : Act} {w : World} {K K' : Value → World → Prop} (h : moves P o a w K) (hk : ∀ u w', K u w' → K' u w') : moves P o a w K' := by
  unfold moves at *
  split at h
  · exact hk _ _ h
  · exact hk _ _ h
  · exact h.mono fun e w' ⟨u, he, hu⟩ => ⟨u, he, hk _ _ hu⟩
  · exact h
theorem moves_some {P : Program} {o : Oper} {a : Act} {w : World} {K : Value → World → Prop} (h : moves P o a w K) : ∃ u w', K u w' := by
  unfold moves at h
  split at h
  · exact ⟨_, _, h⟩
  · exact ⟨_, _, h⟩
  · obtain ⟨e, w', fr, ⟨u, _, hu⟩, _⟩ := h []
    exact ⟨u, w', hu⟩
  · exact h.elim
theorem moves_same {P : Program} {o : Oper} {a a' : Act} {w : World} {K : Value → World → Prop} (h : moves P o a w K) (he : execOp a'.eval o = execOp a.eval o) : moves P o a' w K := by
  unfold moves at *; rw [he]; exact h
theorem moves_wp {P : Program} {o : Oper} {a : Act} {w : World} {K : Value → World → Prop} {K' : Act → World → Prop} {Q : Exit → Act → World → Prop} (h : moves P o a w K) (hk : ∀ u w', K u w' → K' (a.put o.dst u) w') : o.wp P a w K' Q := by
  unfold moves at h
  unfold Oper.wp
  generalize (execOp a.eval o).run P w = r at *
  split at h
  · exact hk _ _ h
  · exact hk _ _ h
  · exact h.mono fun e w' ⟨u, he, hu⟩ => by subst he; exact hk _ _ hu
  · exact h.elim
theorem stillAt_wp {P : Program} {o : Oper} {a : Act} {w : World} {v : Value} {K' : Act → World → Prop} {Q : Exit → Act → World → Prop} (h : stillAt P o a w v) (hk : K' (a.put o.dst v) w) : o.wp P a w K' Q := by
  unfold Oper.wp
  rcases h with h | ⟨h, rfl⟩
  · rw [h]; exact hk
  · rw [h]; exact hk
/-- a tree of orders: what only looks goes in its place; where several others may come first, each has its branch; 'kp': the world behind it is of the class -/
inductive Plan where
  | none
  | done
  | still (i : Nat) (p : Plan)
  | move (kp : Bool) (i : Nat) (p alt : Plan)
def Plan.looks : Plan → Bool
  | .none => false
  | .done => false
  | .still _ _ => true
  | .move _ _ p alt => p.looks || alt.looks
section
variable (P : Program) (ops : Array Oper) (C : World → Prop) (Q : Act → World → Prop)
def wpPlan : Plan → Act → World → Prop
  | .none, _, _ => True
  | .done, a, w => Q a w
  | .still i p, a, w => ∃ o, ops[i]? = some o ∧ looksB o = true ∧
      if Region.wanted o (yielded ops a.tmps) = true then ∃ v, (∀ w', C w' → stillAt P o a w' v) ∧ wpPlan p (a.put o.dst v) w else wpPlan p (a.put o.dst undef) w
  | .move kp i p alt, a, w => (∃ o, ops[i]? = some o ∧ looksB o = false ∧
      if Region.wanted o (yielded ops a.tmps) = true then moves P o a w (fun u w' => (kp = true → C w') ∧ wpPlan p (a.put o.dst u) w') else wpPlan p (a.put o.dst undef) w) ∧ wpPlan alt a w
end
/-- an operation that does not look at the world at all -/
def pureB (o : Oper) : Bool := match o.op with
  | .move _ | .assign _ | .extract _ _ | .pick _ _ _ | .unOp .not _ _ => true
  | _ => false
theorem pure_any {P : Program} {o : Oper} {a : Act} {w w' : World} {v : Value} (h : pureB o = true) (hs : stillAt P o a w v) : stillAt P o a w' v := by
  have key : ∀ r w1, (execOp a.eval o).run P w = .ok r w1 → (execOp a.eval o).run P w' = .ok r w' := by
    intro r w1 hr
    unfold pureB at h
    unfold execOp at hr ⊢
    split at h
    · rename_i ho; simp only [ho] at hr ⊢; simp_all [go_sem]
    · rename_i ho; simp only [ho] at hr ⊢; simp_all [go_sem]
    · rename_i x k ho
      simp only [ho] at hr ⊢
      generalize a.eval x = y at hr ⊢
      cases y with
      | tuple vs =>
        cases hk : vs[k]? with
        | none => simp [go_sem, hk] at hr
        | some z => simp [go_sem, hk] at hr ⊢; exact hr.1
      | _ => simp [go_sem] at hr
    · rename_i c x y ho
      simp only [ho] at hr ⊢
      generalize a.eval c = z at hr ⊢
      cases z <;> simp [go_sem] at hr ⊢
      exact hr.1
    · rename_i t x ho
      simp only [ho] at hr ⊢
      generalize a.eval x = z at hr ⊢
      cases z <;> simp [go_sem, Op.unary] at hr ⊢
      exact hr.1
    · cases h
  rcases hs with hs | ⟨hs, hv⟩
  · exact .inl (key _ _ hs)
  · exact .inr ⟨key _ _ hs, hv⟩
/-- some of the operations that only look read the world -/
def Plan.reads (ops : Array Oper) : Plan → Bool
  | .none => false
  | .done => false
  | .still i p => (match ops[i]? with | some o => !pureB o | Option.none => true) || p.reads ops
  | .move _ _ p alt => p.reads ops || alt.reads ops
/-- operation i taken out of the tree, to come first; the Bool: what is known of the class behind it -/
def takeOut (ops : Array Oper) (i : Nat) (alt : Bool) : Plan → Option (Plan × Bool)
  | .none => if alt then some (.none, true) else Option.none
  | .done => Option.none
  | .still j p => if i == j then some (p, true) else match ops[i]?, ops[j]? with
    | some oi, some oj => if oj.apart ops oi then (match takeOut ops i false p with
      | some (p', k) => if k || pureB oj then some (Plan.still j p', k) else Option.none
      | Option.none => Option.none) else Option.none
    | _, _ => Option.none
  | .move kp j p alt' => if i == j then (if kp || !p.reads ops then some (p, kp) else Option.none) else match ops[i]?, ops[j]? with
    | some oi, some oj => if looksB oi then (if (kp || pureB oi) && oj.apart ops oi then match takeOut ops i false p, takeOut ops i true alt' with
        | some (p', _), some (q, _) => some (Plan.move kp j p' q, true)
        | _, _ => Option.none else Option.none) else takeOut ops i false alt'
    | _, _ => Option.none
def Plan.over : Plan → Bool
  | .done => true
  | _ => false
/-- every order that the region may take is in the tree -/
def planB (md : Region.Mode) (ops : Array Oper) : Nat → Array Bool → Plan → Bool
  | 0, listed, p => (Region.ready md ops listed).isEmpty && p.over
  | fuel + 1, listed, p => (!(Region.ready md ops listed).isEmpty || p.over) && (Region.ready md ops listed).all fun i => match takeOut ops i false p with
    | some (p', _) => planB md ops fuel (listed.setIfInBounds i true) p'
    | Option.none => false
section
variable {P : Program} {ops : Array Oper} {C : World → Prop} {Q : Act → World → Prop}
/-- in state a operation o yields v, in every world of the class -/
def YI (P : Program) (ops : Array Oper) (C : World → Prop) (o : Oper) (v : Value) (a : Act) : Prop :=
  (Region.wanted o (yielded ops a.tmps) = true ∧ ∀ w, C w → stillAt P o a w v) ∨ (Region.wanted o (yielded ops a.tmps) = false ∧ v = undef)
theorem YI.same {o : Oper} {v : Value} {a a' : Act} (hy : YI P ops C o v a) (he : execOp a'.eval o = execOp a.eval o) (hw : Region.wanted o (yielded ops a'.tmps) = Region.wanted o (yielded ops a.tmps)) : YI P ops C o v a' := by
  unfold YI stillAt at *
  rw [he, hw]
  exact hy
/-- a world at which operation o may be asked: one of the class, or any if it does not look at it -/
def CC (C : World → Prop) (o : Oper) (w : World) : Prop := C w ∨ (pureB o = true ∧ ∃ w0, C w0)
theorem CC.still {o : Oper} {v : Value} {a : Act} {w : World} (hC : CC C o w) (h : ∀ w', C w' → stillAt P o a w' v) : stillAt P o a w v := by
  rcases hC with hC | ⟨hp, w0, h0⟩
  · exact h w hC
  · exact pure_any hp (h w0 h0)
theorem YI.unique {o : Oper} {v v' : Value} {a : Act} {w : World} (hC : CC C o w) (h : YI P ops C o v a) (h' : YI P ops C o v' a) : v = v' := by
  rcases h with ⟨h1, h2⟩ | ⟨h1, rfl⟩ <;> rcases h' with ⟨h3, h4⟩ | ⟨h3, rfl⟩
  · exact (hC.still h2).unique (hC.still h4)
  · rw [h1] at h3; cases h3
  · rw [h1] at h3; cases h3
  · rfl
theorem take_still (hsel : ∀ (j : Nat) (o : Oper) cs b, ops[j]? = some o → o.op ≠ .select cs b) {i : Nat} {oi : Oper} (hi : ops[i]? = some oi) (hl : looksB oi = true) :
    ∀ (p : Plan) (alt : Bool) (p' : Plan) (kp : Bool) (a : Act) (w : World), CC C oi w → takeOut ops i alt p = some (p', kp) → wpPlan P ops C Q p a w → (alt = true ∧ p' = .none) ∨ ∃ v, YI P ops C oi v a ∧ wpPlan P ops C Q p' (a.put oi.dst v) w
  | .none, alt, p', kp, a, w, _, ht, _ => by
    cases alt with
    | true => simp only [takeOut, if_true, Option.some.injEq, Prod.mk.injEq] at ht; exact .inl ⟨rfl, ht.1.symm⟩
    | false => simp [takeOut] at ht
  | .done, alt, p', kp, a, w, _, ht, _ => by simp [takeOut] at ht
  | .still j p, alt, p', kp, a, w, hC, ht, hp => by
    obtain ⟨oj, hj, hlj, hp⟩ := hp
    by_cases hij : i = j
    · subst hij
      rw [hi] at hj
      cases hj
      simp only [takeOut, beq_self_eq_true, if_true, Option.some.injEq, Prod.mk.injEq] at ht
      obtain ⟨rfl, _⟩ := ht
      by_cases hw : Region.wanted oi (yielded ops a.tmps) = true
      · rw [if_pos hw] at hp
        obtain ⟨v, h1, h2⟩ := hp
        exact .inr ⟨v, .inl ⟨hw, h1⟩, h2⟩
      · rw [if_neg hw] at hp
        exact .inr ⟨undef, .inr ⟨by simpa using hw, rfl⟩, hp⟩
    · have hb : (i == j) = false := beq_eq_false_iff_ne.2 hij
      simp only [takeOut, hb, Bool.false_eq_true, if_false, hi, hj] at ht
      split at ht
      · rename_i hap
        obtain ⟨h1, h2, h3⟩ := Oper.apart_spec hap
        split at ht
        · rename_i p1 kk hq
          split at ht
          rotate_left
          · cases ht
          cases ht
          have key : ∀ u, wpPlan P ops C Q p (a.put oj.dst u) w → ∃ v, YI P ops C oi v a ∧ wpPlan P ops C Q p1 ((a.put oi.dst v).put oj.dst u) w := by
            intro u hu
            rcases take_still hsel hi hl p false p1 kp _ w hC hq hu with ⟨h, _⟩ | ⟨v, hy, hv⟩
            · cases h
            · refine ⟨v, hy.same (execOp_put oi (fun cs b => hsel i oi cs b hi) a oj.dst u h1).symm (wanted_put oi a oj.dst u h1).symm, ?_⟩
              rw [← Act.put_comm a u v h2]; exact hv
          by_cases hw : Region.wanted oj (yielded ops a.tmps) = true
          · rw [if_pos hw] at hp
            obtain ⟨u, hu, hp⟩ := hp
            obtain ⟨v, hy, hv⟩ := key u hp
            refine .inr ⟨v, hy, oj, hj, hlj, ?_⟩
            rw [wanted_put oj a oi.dst v h3, if_pos hw]
            refine ⟨u, fun w' hw' => ?_, hv⟩
            have := hu w' hw'
            unfold stillAt at *
            rw [execOp_put oj (fun cs b => hsel j oj cs b hj) a oi.dst v h3]; exact this
          · rw [if_neg hw] at hp
            obtain ⟨v, hy, hv⟩ := key undef hp
            refine .inr ⟨v, hy, oj, hj, hlj, ?_⟩
            rw [wanted_put oj a oi.dst v h3, if_neg hw]
            exact hv
        · cases ht
      · cases ht
  | .move kq j p alt', alt, p', kp, a, w, hC, ht, hp => by
    obtain ⟨⟨oj, hj, hlj, hp⟩, hp2⟩ := hp
    by_cases hij : i = j
    · subst hij
      rw [hi] at hj
      cases hj
      rw [hl] at hlj; cases hlj
    · have hb : (i == j) = false := beq_eq_false_iff_ne.2 hij
      simp only [takeOut, hb, Bool.false_eq_true, if_false, hi, hj, hl, if_true] at ht
      split at ht
      · rename_i hap
        rw [Bool.and_eq_true] at hap
        obtain ⟨hkq, hap⟩ := hap
        have hCC : ∀ w1, (kq = true → C w1) → CC C oi w1 := fun w1 h1 => by
          rw [Bool.or_eq_true] at hkq
          rcases hkq with hkq | hkq
          · exact .inl (h1 hkq)
          · refine .inr ⟨hkq, ?_⟩
            rcases hC with hC | ⟨_, hC⟩
            · exact ⟨w, hC⟩
            · exact hC
        obtain ⟨h1, h2, h3⟩ := Oper.apart_spec hap
        split at ht
        · rename_i p1 k1 q k2 hq hq2
          cases ht
          have key : ∀ u w1, CC C oi w1 → wpPlan P ops C Q p (a.put oj.dst u) w1 → ∃ v, YI P ops C oi v a ∧ wpPlan P ops C Q p1 ((a.put oi.dst v).put oj.dst u) w1 := by
            intro u w1 hC1 hu
            rcases take_still hsel hi hl p false p1 k1 _ w1 hC1 hq hu with ⟨h, _⟩ | ⟨v, hy, hv⟩
            · cases h
            · refine ⟨v, hy.same (execOp_put oi (fun cs b => hsel i oi cs b hi) a oj.dst u h1).symm (wanted_put oi a oj.dst u h1).symm, ?_⟩
              rw [← Act.put_comm a u v h2]; exact hv
          have halt : ∀ v, YI P ops C oi v a → wpPlan P ops C Q q (a.put oi.dst v) w := by
            intro v hy
            rcases take_still hsel hi hl alt' true q k2 a w hC hq2 hp2 with ⟨_, rfl⟩ | ⟨v', hy', hv'⟩
            · exact True.intro
            · rwa [hy'.unique hC hy] at hv'
          by_cases hw : Region.wanted oj (yielded ops a.tmps) = true
          · rw [if_pos hw] at hp
            obtain ⟨u0, w0, hC0, hp0⟩ := moves_some hp
            obtain ⟨v, hy, _⟩ := key u0 w0 (hCC w0 hC0) hp0
            refine .inr ⟨v, hy, ⟨oj, hj, hlj, ?_⟩, halt v hy⟩
            rw [wanted_put oj a oi.dst v h3, if_pos hw]
            refine moves_same (moves_mono hp ?_) (execOp_put oj (fun cs b => hsel j oj cs b hj) a oi.dst v h3)
            rintro u w1 ⟨hC1, hu⟩
            obtain ⟨v', hy', hv'⟩ := key u w1 (hCC w1 hC1) hu
            rw [hy'.unique hC hy] at hv'
            exact ⟨hC1, hv'⟩
          · rw [if_neg hw] at hp
            obtain ⟨v, hy, hv⟩ := key undef w hC hp
            refine .inr ⟨v, hy, ⟨oj, hj, hlj, ?_⟩, halt v hy⟩
            rw [wanted_put oj a oi.dst v h3, if_neg hw]
            exact hv
        · cases ht
      · cases ht
theorem take_looks {i : Nat} {oi : Oper} (hi : ops[i]? = some oi) (hl : looksB oi = true) : ∀ (p : Plan) (p' : Plan) (kp : Bool) (a : Act) (w : World), takeOut ops i false p = some (p', kp) → wpPlan P ops C Q p a w → p.looks = true
  | .none, p', kp, a, w, ht, _ => by simp [takeOut] at ht
  | .done, p', kp, a, w, ht, _ => by simp [takeOut] at ht
  | .still j p, p', kp, a, w, _, _ => rfl
  | .move kq j p alt', p', kp, a, w, ht, hp => by
    obtain ⟨⟨oj, hj, hlj, hp⟩, hp2⟩ := hp
    by_cases hij : i = j
    · subst hij
      rw [hi] at hj
      cases hj
      rw [hl] at hlj; cases hlj
    · have hb : (i == j) = false := beq_eq_false_iff_ne.2 hij
      simp only [takeOut, hb, Bool.false_eq_true, if_false, hi, hj, hl, if_true] at ht
      split at ht
      · split at ht
        · rename_i p1 k1 q k2 hq hq2
          have hex : ∃ a' w', wpPlan P ops C Q p a' w' := by
            split at hp
            · obtain ⟨u, w', _, h⟩ := moves_some hp; exact ⟨_, _, h⟩
            · exact ⟨_, _, hp⟩
          obtain ⟨a', w', h⟩ := hex
          unfold Plan.looks
          rw [take_looks hi hl p p1 k1 a' w' hq h, Bool.true_or]
        · cases ht
      · cases ht
theorem take_move (hsel : ∀ (j : Nat) (o : Oper) cs b, ops[j]? = some o → o.op ≠ .select cs b) {i : Nat} {oi : Oper} (hi : ops[i]? = some oi) (hl : looksB oi = false) :
    ∀ (p p' : Plan) (kp : Bool) (a : Act) (w : World), takeOut ops i false p = some (p', kp) → wpPlan P ops C Q p a w →
      (kp = true ∨ p'.reads ops = false) ∧ (if Region.wanted oi (yielded ops a.tmps) = true then moves P oi a w (fun u w' => (kp = true → C w') ∧ wpPlan P ops C Q p' (a.put oi.dst u) w') else wpPlan P ops C Q p' (a.put oi.dst undef) w)
  | .none, p', kp, a, w, ht, _ => by simp [takeOut] at ht
  | .done, p', kp, a, w, ht, _ => by simp [takeOut] at ht
  | .still j p, p', kp, a, w, ht, hp => by
    obtain ⟨oj, hj, hlj, hp⟩ := hp
    by_cases hij : i = j
    · subst hij
      rw [hi] at hj
      cases hj
      rw [hl] at hlj; cases hlj
    · have hb : (i == j) = false := beq_eq_false_iff_ne.2 hij
      simp only [takeOut, hb, Bool.false_eq_true, if_false, hi, hj] at ht
      split at ht
      · rename_i hap
        obtain ⟨h1, h2, h3⟩ := Oper.apart_spec hap
        split at ht
        · rename_i p1 kk hq
          split at ht
          rotate_left
          · cases ht
          rename_i hkk
          cases ht
          have back : ∀ x u w1, (Region.wanted oj (yielded ops a.tmps) = true → ∀ w', C w' → stillAt P oj a w' u) → (¬ Region.wanted oj (yielded ops a.tmps) = true → u = undef) → wpPlan P ops C Q p1 ((a.put oj.dst u).put oi.dst x) w1 → wpPlan P ops C Q (.still j p1) (a.put oi.dst x) w1 := by
            intro x u w1 hs hn hx
            refine ⟨oj, hj, hlj, ?_⟩
            rw [wanted_put oj a oi.dst x h3]
            rw [Act.put_comm a u x h2] at hx
            by_cases hw : Region.wanted oj (yielded ops a.tmps) = true
            · rw [if_pos hw]
              refine ⟨u, fun w' hw' => ?_, hx⟩
              have := hs hw w' hw'
              unfold stillAt at *
              rw [execOp_put oj (fun cs b => hsel j oj cs b hj) a oi.dst x h3]; exact this
            · rw [if_neg hw, ← hn hw]; exact hx
          have key : ∀ u, (Region.wanted oj (yielded ops a.tmps) = true → ∀ w', C w' → stillAt P oj a w' u) → (¬ Region.wanted oj (yielded ops a.tmps) = true → u = undef) → wpPlan P ops C Q p (a.put oj.dst u) w →
              if Region.wanted oi (yielded ops a.tmps) = true then moves P oi a w (fun x w' => (kp = true → C w') ∧ wpPlan P ops C Q (.still j p1) (a.put oi.dst x) w') else wpPlan P ops C Q (.still j p1) (a.put oi.dst undef) w := by
            intro u hs hn hu
            have := (take_move hsel hi hl p p1 kp _ w hq hu).2
            rw [wanted_put oi a oj.dst u h1] at this
            by_cases hw : Region.wanted oi (yielded ops a.tmps) = true
            · rw [if_pos hw] at this ⊢
              refine moves_same (moves_mono this ?_) (execOp_put oi (fun cs b => hsel i oi cs b hi) a oj.dst u h1).symm
              rintro x w1 ⟨hC1, hx⟩
              exact ⟨hC1, back x u w1 hs hn hx⟩
            · rw [if_neg hw] at this ⊢
              exact back undef u w hs hn this
          have hrd : kp = true ∨ (Plan.still j p1).reads ops = false := by
            rw [Bool.or_eq_true] at hkk
            rcases hkk with hkk | hkk
            · exact .inl hkk
            · have hx : ∃ a' , wpPlan P ops C Q p a' w := by
                by_cases hw : Region.wanted oj (yielded ops a.tmps) = true
                · rw [if_pos hw] at hp
                  obtain ⟨u, _, hp⟩ := hp
                  exact ⟨_, hp⟩
                · rw [if_neg hw] at hp
                  exact ⟨_, hp⟩
              obtain ⟨a', hx⟩ := hx
              rcases (take_move hsel hi hl p p1 kp a' w hq hx).1 with h | h
              · exact .inl h
              · exact .inr (by simp only [Plan.reads, hj, hkk, h, Bool.not_true, Bool.or_false])
          refine ⟨hrd, ?_⟩
          by_cases hw : Region.wanted oj (yielded ops a.tmps) = true
          · rw [if_pos hw] at hp
            obtain ⟨u, hu, hp⟩ := hp
            exact key u (fun _ => hu) (fun h => absurd hw h) hp
          · rw [if_neg hw] at hp
            exact key undef (fun h => absurd h hw) (fun _ => rfl) hp
        · cases ht
      · cases ht
  | .move kq j p alt', p', kp, a, w, ht, hp => by
    obtain ⟨⟨oj, hj, hlj, hp⟩, hp2⟩ := hp
    by_cases hij : i = j
    · subst hij
      rw [hi] at hj
      cases hj
      simp only [takeOut, beq_self_eq_true, if_true] at ht
      split at ht
      · rename_i hk
        cases ht
        refine ⟨?_, hp⟩
        rw [Bool.or_eq_true, Bool.not_eq_true'] at hk
        exact hk
      · cases ht
    · have hb : (i == j) = false := beq_eq_false_iff_ne.2 hij
      simp only [takeOut, hb, Bool.false_eq_true, if_false, hi, hj, hl] at ht
      exact take_move hsel hi hl alt' p' kp a w ht hp2
theorem take_sub {i : Nat} {oi : Oper} (hi : ops[i]? = some oi) (hl : looksB oi = false) : ∀ (p : Plan) (p' : Plan) (kp : Bool), takeOut ops i false p = some (p', kp) → p'.looks = true → p.looks = true
  | .none, p', kp, ht, _ => by simp [takeOut] at ht
  | .done, p', kp, ht, _ => by simp [takeOut] at ht
  | .still j p, p', kp, _, _ => rfl
  | .move kq j p alt', p', kp, ht, hp => by
    by_cases hij : i = j
    · subst hij
      simp only [takeOut, beq_self_eq_true, if_true] at ht
      split at ht
      · cases ht; unfold Plan.looks; rw [hp, Bool.true_or]
      · cases ht
    · have hb : (i == j) = false := beq_eq_false_iff_ne.2 hij
      simp only [takeOut, hb, Bool.false_eq_true, if_false, hi] at ht
      split at ht
      · rename_i x1 x2 e1 e2
        cases e1
        simp only [hl, Bool.false_eq_true, if_false] at ht
        unfold Plan.looks
        rw [take_sub hi hl alt' p' kp ht hp, Bool.or_true]
      · cases ht
theorem take_reads {i : Nat} : ∀ (p : Plan) (alt : Bool) (p' : Plan) (kp : Bool), takeOut ops i alt p = some (p', kp) → p'.reads ops = true → p.reads ops = true
  | .none, alt, p', kp, ht, hp => by
    cases alt with
    | true => simp only [takeOut, if_true, Option.some.injEq, Prod.mk.injEq] at ht; rw [← ht.1] at hp; exact hp
    | false => simp [takeOut] at ht
  | .done, alt, p', kp, ht, _ => by simp [takeOut] at ht
  | .still j p, alt, p', kp, ht, hp => by
    by_cases hij : i = j
    · subst hij
      simp only [takeOut, beq_self_eq_true, if_true, Option.some.injEq, Prod.mk.injEq] at ht
      unfold Plan.reads
      rw [ht.1, hp, Bool.or_true]
    · have hb : (i == j) = false := beq_eq_false_iff_ne.2 hij
      simp only [takeOut, hb, Bool.false_eq_true, if_false] at ht
      split at ht
      · split at ht
        · split at ht
          · rename_i p1 kk hq
            split at ht
            · cases ht
              unfold Plan.reads at hp ⊢
              rw [Bool.or_eq_true] at hp ⊢
              rcases hp with hp | hp
              · exact .inl hp
              · exact .inr (take_reads p false p1 kp hq hp)
            · cases ht
          · cases ht
        · cases ht
      · cases ht
  | .move kq j p alt', alt, p', kp, ht, hp => by
    by_cases hij : i = j
    · subst hij
      simp only [takeOut, beq_self_eq_true, if_true] at ht
      split at ht
      · cases ht; unfold Plan.reads; rw [hp, Bool.true_or]
      · cases ht
    · have hb : (i == j) = false := beq_eq_false_iff_ne.2 hij
      simp only [takeOut, hb, Bool.false_eq_true, if_false] at ht
      split at ht
      · split at ht
        · split at ht
          · split at ht
            · rename_i p1 k1 q k2 hq hq2
              cases ht
              unfold Plan.reads at hp ⊢
              rw [Bool.or_eq_true] at hp ⊢
              rcases hp with hp | hp
              · exact .inl (take_reads p false p1 k1 hq hp)
              · exact .inr (take_reads alt' true q k2 hq2 hp)
            · cases ht
          · cases ht
        · unfold Plan.reads
          rw [take_reads alt' false p' kp ht hp, Bool.or_true]
      · cases ht
theorem take_rd {i : Nat} {oi : Oper} (hi : ops[i]? = some oi) (hl : looksB oi = true) (hn : pureB oi = false) : ∀ (p : Plan) (p' : Plan) (kp : Bool) (a : Act) (w : World), takeOut ops i false p = some (p', kp) → wpPlan P ops C Q p a w → p.reads ops = true
  | .none, p', kp, a, w, ht, _ => by simp [takeOut] at ht
  | .done, p', kp, a, w, ht, _ => by simp [takeOut] at ht
  | .still j p, p', kp, a, w, ht, hp => by
    obtain ⟨oj, hj, hlj, hp⟩ := hp
    by_cases hij : i = j
    · subst hij
      unfold Plan.reads
      simp only [hi, hn, Bool.not_false, Bool.true_or]
    · have hb : (i == j) = false := beq_eq_false_iff_ne.2 hij
      simp only [takeOut, hb, Bool.false_eq_true, if_false, hi, hj] at ht
      split at ht
      · split at ht
        · rename_i p1 kk hq
          have hx : ∃ a' , wpPlan P ops C Q p a' w := by
            by_cases hw : Region.wanted oj (yielded ops a.tmps) = true
            · rw [if_pos hw] at hp
              obtain ⟨u, _, hp⟩ := hp
              exact ⟨_, hp⟩
            · rw [if_neg hw] at hp
              exact ⟨_, hp⟩
          obtain ⟨a', hx⟩ := hx
          unfold Plan.reads
          rw [take_rd hi hl hn p p1 kk a' w hq hx, Bool.or_true]
        · cases ht
      · cases ht
  | .move kq j p alt', p', kp, a, w, ht, hp => by
    obtain ⟨⟨oj, hj, hlj, hp⟩, hp2⟩ := hp
    by_cases hij : i = j
    · subst hij
      rw [hi] at hj
      cases hj
      rw [hl] at hlj; cases hlj
    · have hb : (i == j) = false := beq_eq_false_iff_ne.2 hij
      simp only [takeOut, hb, Bool.false_eq_true, if_false, hi, hj, hl, if_true] at ht
      split at ht
      · split at ht
        · rename_i p1 k1 q k2 hq hq2
          have hex : ∃ a' w', wpPlan P ops C Q p a' w' := by
            split at hp
            · obtain ⟨u, w', _, h⟩ := moves_some hp; exact ⟨_, _, h⟩
            · exact ⟨_, _, hp⟩
          obtain ⟨a', w', h⟩ := hex
          unfold Plan.reads
          rw [take_rd hi hl hn p p1 k1 a' w' hq h, Bool.true_or]
        · cases ht
      · cases ht
theorem reads_looks : ∀ p : Plan, p.reads ops = true → p.looks = true
  | .none, h => by simp [Plan.reads] at h
  | .done, h => by simp [Plan.reads] at h
  | .still _ _, _ => rfl
  | .move _ _ p alt, h => by
    unfold Plan.reads at h
    unfold Plan.looks
    rw [Bool.or_eq_true] at h ⊢
    exact h.imp (reads_looks p) (reads_looks alt)
theorem plan_any {md : Region.Mode} {Q' : Exit → Act → World → Prop} (hsel : ∀ (j : Nat) (o : Oper) cs b, ops[j]? = some o → o.op ≠ .select cs b) (hQ : ∀ a w, Q a w → Q' .normal a w) :
    ∀ (fuel : Nat) (listed : Array Bool) (p : Plan) (a : Act) (w : World), ((∃ w0, C w0) ∨ p.looks = false) → (p.reads ops = true → C w) → planB md ops fuel listed p = true → wpPlan P ops C Q p a w → wpAny P md ops Q' fuel listed a w
  | 0, listed, p, a, w, _, _, hB, hp => by
    simp only [planB, Bool.and_eq_true, List.isEmpty_iff] at hB
    obtain ⟨h1, h2⟩ := hB
    cases p <;> simp [Plan.over] at h2
    exact ⟨h1, hQ a w hp⟩
  | fuel + 1, listed, p, a, w, hN, hC, hB, hp => by
    simp only [planB, Bool.and_eq_true, List.all_eq_true, Bool.or_eq_true, Bool.not_eq_true'] at hB
    obtain ⟨h1, h2⟩ := hB
    refine ⟨fun h0 => ?_, fun i hi => ?_⟩
    · rcases h1 with h1 | h1
      · rw [h0] at h1; cases h1
      · cases p <;> simp [Plan.over] at h1
        exact hQ a w hp
    · have h3 := h2 i hi
      split at h3
      · rename_i p' kp ht
        obtain ⟨_, oi, hoi, _⟩ := mem_ready.1 hi
        unfold wpOp
        simp only [hoi]
        cases hl : looksB oi with
        | true =>
          have hlk := take_looks hoi hl p p' kp a w ht hp
          have hne : ∃ w0, C w0 := hN.elim id (fun h => by rw [hlk] at h; cases h)
          have hCw : CC C oi w := by
            cases hpu : pureB oi with
            | true => exact .inr ⟨hpu, hne⟩
            | false => exact .inl (hC (take_rd hoi hl hpu p p' kp a w ht hp))
          rcases take_still hsel hoi hl p false p' kp a w hCw ht hp with ⟨h, _⟩ | ⟨v, hy, hv⟩
          · cases h
          · have ih := plan_any hsel hQ fuel _ p' _ w (.inl hne) (fun h => hC (take_reads p false p' kp ht h)) h3 hv
            rcases hy with ⟨hw, hs⟩ | ⟨hw, rfl⟩
            · simp only [hw, if_true]
              exact .inl (stillAt_wp (hCw.still hs) ih)
            · simp only [hw, Bool.false_eq_true, if_false]
              exact ih
        | false =>
          obtain ⟨hk, this⟩ := take_move hsel hoi hl p p' kp a w ht hp
          have hN' : (∃ w0, C w0) ∨ p'.looks = false := hN.imp id (fun h => by
            cases hpl : p'.looks with
            | false => rfl
            | true => rw [take_sub hoi hl p p' kp ht hpl] at h; cases h)
          by_cases hw : Region.wanted oi (yielded ops a.tmps) = true
          · rw [if_pos hw] at this
            simp only [hw, if_true]
            refine .inl (moves_wp this fun u w' ⟨hC', hu⟩ => plan_any hsel hQ fuel _ p' _ w' hN' (fun hlk => ?_) h3 hu)
            rcases hk with hk | hk
            · exact hC' hk
            · rw [hk] at hlk; cases hlk
          · rw [if_neg hw] at this
            simp only [hw]
            exact plan_any hsel hQ fuel _ p' _ w hN' (fun hlk => hC (take_reads p false p' kp ht hlk)) h3 this
      · cases h3
/-- operation i of a region that is written out -/
def getL : List Oper → Nat → Option Oper
  | [], _ => Option.none
  | o :: _, 0 => some o
  | _ :: l, i + 1 => getL l i
theorem getL_eq (l : List Oper) (i : Nat) : l.toArray[i]? = getL l i := by
  rw [List.getElem?_toArray]
  induction l generalizing i with
  | nil => rfl
  | cons o l ih =>
    cases i with
    | zero => rfl
    | succ i => rw [List.getElem?_cons_succ, ih]; rfl
variable {l : List Oper}
theorem plan_look {i : Nat} {p : Plan} {a : Act} {w : World} (o : Oper) (ho' : getL l i = some o) (hl : looksB o = true) (h : wpQuiet P l.toArray C (fun a' => wpPlan P l.toArray C Q p a' w) [o] a) : wpPlan P l.toArray C Q (.still i p) a w := by
  have ho := (getL_eq l i).trans ho'
  refine ⟨o, ho, hl, ?_⟩
  unfold wpQuiet at h
  by_cases hw : Region.wanted o (yielded l.toArray a.tmps) = true
  · rw [if_pos hw] at h ⊢
    obtain ⟨v, h1, h2⟩ := h
    refine ⟨v, fun w' hw' => ?_, h2⟩
    have h3 := h1 w' hw'
    unfold Oper.quietAt at h3
    unfold stillAt
    generalize hr : (execOp a.eval o).run P w' = r at *
    cases r with
    | ok n w2 =>
      cases n <;> simp only [Oper.quietUpon] at h3
      case value u => obtain ⟨rfl, rfl⟩ := h3; exact .inl rfl
      case skip => obtain ⟨rfl, rfl⟩ := h3; exact .inr ⟨rfl, rfl⟩
      case enter f args => exact absurd hr (looks_enter hl a w' w2 f args)
    | halt x w2 => simp only [Oper.quietUpon] at h3
  · rw [if_neg hw] at h ⊢
    exact h
/-- a call of a Go function -/
theorem plan_call {kp : Bool} {i : Nat} {p alt : Plan} {a : Act} {w : World} (dst : Option Tmp) (f : FuncId) (xs : List Operand) (ats : Array TypeId) (ty : TypeId) (pos : String) (after : Array Edge) (ho' : getL l i = some { dst, op := .call { callee := .value (.func f), args := xs.toArray, argTypes := ats }, type := ty, pos, after, guard := Option.none })
    (fn : Func) (hf : P.funcs[f]? = some fn) (hn : (fn.name == "runtime.NumGoroutine") = false) (hb : fn.body.isNone = false)
    (h : Calls P f (xs.map a.eval).toArray w fun e w' => ∃ u, e = .returned u ∧ (kp = true → C w') ∧ wpPlan P l.toArray C Q p (a.put dst u) w') (halt : wpPlan P l.toArray C Q alt a w) : wpPlan P l.toArray C Q (.move kp i p alt) a w := by
  have ho := (getL_eq l i).trans ho'
  refine ⟨⟨_, ho, rfl, ?_⟩, halt⟩
  rw [if_pos (by simp [Region.wanted])]
  unfold moves
  rw [show (execOp a.eval { dst, op := .call { callee := .value (.func f), args := xs.toArray, argTypes := ats }, type := ty, pos, after, guard := Option.none }).run P w = .ok (.enter f (xs.map a.eval).toArray) w from by
    rw [execOp_call_go]
    have hn' : ¬ fn.name = "runtime.NumGoroutine" := by simpa using hn
    have hb' : ¬ fn.body = Option.none := by intro h; rw [h] at hb; cases hb
    simp [callFunc, hf, go_sem, if_neg hn', if_neg hb']]
  exact h
/-- any other operation that is run to its end -/
theorem plan_value {kp : Bool} {i : Nat} {p alt : Plan} {a : Act} {w w' : World} {u : Value} (o : Oper) (ho' : getL l i = some o) (hl : looksB o = false) (hw : Region.wanted o (yielded l.toArray a.tmps) = true) (hr : (execOp a.eval o).run P w = .ok (.value u) w') (hC : kp = true → C w')
    (h : wpPlan P l.toArray C Q p (a.put o.dst u) w') (halt : wpPlan P l.toArray C Q alt a w) : wpPlan P l.toArray C Q (.move kp i p alt) a w := by
  have ho := (getL_eq l i).trans ho'
  refine ⟨⟨o, ho, hl, ?_⟩, halt⟩
  rw [if_pos hw]
  unfold moves
  rw [hr]
  exact ⟨hC, h⟩
theorem plan_skip {kp : Bool} {i : Nat} {p alt : Plan} {a : Act} {w w' : World} (o : Oper) (ho' : getL l i = some o) (hl : looksB o = false) (hw : Region.wanted o (yielded l.toArray a.tmps) = true) (hr : (execOp a.eval o).run P w = .ok .skip w') (hC : kp = true → C w')
    (h : wpPlan P l.toArray C Q p (a.put o.dst undef) w') (halt : wpPlan P l.toArray C Q alt a w) : wpPlan P l.toArray C Q (.move kp i p alt) a w := by
  have ho := (getL_eq l i).trans ho'
  refine ⟨⟨o, ho, hl, ?_⟩, halt⟩
  rw [if_pos hw]
  unfold moves
  rw [hr]
  exact ⟨hC, h⟩
theorem putA {α : Type} (l : List α) (i : Nat) (v : α) : l.toArray.setIfInBounds i v = (l.set i v).toArray := List.setIfInBounds_toArray ..
theorem putB {α : Type} (a : α) (l : List α) (i : Nat) (v : α) : (a :: l).set (i + 1) v = a :: l.set i v := List.set_cons_succ ..
theorem putC {α : Type} (a : α) (l : List α) (v : α) : (a :: l).set 0 v = v :: l := List.set_cons_zero ..
theorem plan_put {p : Plan} {a a' : Act} {w : World} (h : wpPlan P ops C Q p a' w) (he : a = a') : wpPlan P ops C Q p a w := he ▸ h
theorem plan_done {a : Act} {w : World} (h : Q a w) : wpPlan P ops C Q .done a w := h
/-- the region's rule: a tree of orders, walked once -/
theorem wp_region_plan {id : Nat} {Q' : Exit → Act → World → Prop} {a : Act} {w : World} (p : Plan) (hm : P.follows .mixedOrders = true) (hn : Region.noSelect ops = true) (hB : planB .any ops ops.size (Array.replicate ops.size false) p = true) (hC : p.looks = true → C w.drew)
    (h : wpPlan P ops C (Q' .normal) p a w.drew) : (Code.region id ops true).wp P Q' a w :=
  wp_region_any hm (plan_any (Q := Q' .normal) (Region.noSelect_spec hn) (fun _ _ h => h) _ _ p a _ (by
    cases hl : p.looks with
    | true => exact .inl ⟨_, hC hl⟩
    | false => exact .inr rfl) (fun h => hC (reads_looks p h)) hB h)
end

def Plan.same : Plan → Plan → Bool
  | .none, .none => true
  | .done, .done => true
  | .still i p, .still j q => (i == j) && p.same q
  | .move a i p r, .move b j q s => (a == b) && ((i == j) && (p.same q && r.same s))
  | _, _ => false
theorem Plan.same_eq : ∀ (p q : Plan), p.same q = true → p = q
  | .none, q, h => by cases q <;> simp [Plan.same] at h ⊢
  | .done, q, h => by cases q <;> simp [Plan.same] at h ⊢
  | .still i p, q, h => by
    cases q <;> simp [Plan.same] at h
    rw [h.1, Plan.same_eq p _ h.2]
  | .move a i p r, q, h => by
    cases q <;> simp [Plan.same] at h
    rw [h.1, h.2.1, Plan.same_eq p _ h.2.2.1, Plan.same_eq r _ h.2.2.2]
def boolsSame : List Bool → List Bool → Bool
  | [], [] => true
  | a :: s, b :: t => (a == b) && boolsSame s t
  | _, _ => false
theorem boolsSame_eq : ∀ (s t : List Bool), boolsSame s t = true → s = t
  | [], t, h => by cases t <;> simp [boolsSame] at h ⊢
  | a :: s, t, h => by
    cases t <;> simp [boolsSame] at h
    rw [h.1, boolsSame_eq s _ h.2]
/-- a state put to others, unless it is among them -/
def addState (s : List Bool × Plan) (L : List (List Bool × Plan)) : List (List Bool × Plan) := if L.any (fun t => boolsSame s.1 t.1 && s.2.same t.2) then L else s :: L
theorem addState_mem (s : List Bool × Plan) (L : List (List Bool × Plan)) : s ∈ addState s L ∧ ∀ t ∈ L, t ∈ addState s L := by
  unfold addState
  split
  · rename_i h
    refine ⟨?_, fun t ht => ht⟩
    obtain ⟨t, ht, h1⟩ := List.any_eq_true.1 h
    rw [Bool.and_eq_true] at h1
    have e : s = t := Prod.ext (boolsSame_eq _ _ h1.1) (Plan.same_eq _ _ h1.2)
    rwa [e]
  · exact ⟨by simp, fun t ht => by simp [ht]⟩
theorem addAll_mem (N L : List (List Bool × Plan)) : (∀ s ∈ N, s ∈ N.foldr addState L) ∧ ∀ t ∈ L, t ∈ N.foldr addState L := by
  induction N with
  | nil => exact ⟨by simp, fun t ht => ht⟩
  | cons a r ih =>
    rw [List.foldr_cons]
    have h := addState_mem a (r.foldr addState L)
    refine ⟨fun s hs => ?_, fun t ht => h.2 t (ih.2 t ht)⟩
    rcases List.mem_cons.1 hs with rfl | hs
    · exact h.1
    · exact h.2 s (ih.1 s hs)
/-- what may come next, from one state -/
def nextStates (md : Region.Mode) (ops : Array Oper) (s : List Bool × Plan) : List (List Bool × Plan) :=
  (Region.ready md ops s.1.toArray).filterMap fun i => (takeOut ops i false s.2).map fun q => (s.1.set i true, q.1)
/-- the same check as planB, each state looked at once -/
def planL (md : Region.Mode) (ops : Array Oper) : Nat → List (List Bool × Plan) → Bool
  | 0, L => L.all fun s => planB md ops 0 s.1.toArray s.2
  | fuel + 1, L => (L.all fun s => (!(Region.ready md ops s.1.toArray).isEmpty || s.2.over) && (Region.ready md ops s.1.toArray).all fun i => (takeOut ops i false s.2).isSome) && planL md ops fuel ((L.flatMap (nextStates md ops)).foldr addState [])
theorem planL_sound (md : Region.Mode) (ops : Array Oper) (fuel : Nat) (L : List (List Bool × Plan)) (h : planL md ops fuel L = true) : ∀ s ∈ L, planB md ops fuel s.1.toArray s.2 = true := by
  induction fuel generalizing L with
  | zero => exact List.all_eq_true.1 h
  | succ n ih =>
    unfold planL at h
    rw [Bool.and_eq_true, List.all_eq_true] at h
    intro s hs
    have h1 := h.1 s hs
    rw [Bool.and_eq_true] at h1
    unfold planB
    rw [Bool.and_eq_true]
    refine ⟨h1.1, List.all_eq_true.2 fun i hi => ?_⟩
    have h2 := List.all_eq_true.1 h1.2 i hi
    cases ht : takeOut ops i false s.2 with
    | none => rw [ht] at h2; cases h2
    | some q =>
      obtain ⟨p', kp⟩ := q
      simp only
      have hm : (s.1.set i true, p') ∈ (L.flatMap (nextStates md ops)).foldr addState [] := by
        refine (addAll_mem _ _).1 _ (List.mem_flatMap.2 ⟨s, hs, ?_⟩)
        exact List.mem_filterMap.2 ⟨i, hi, by rw [ht]; rfl⟩
      have := ih _ h.2 _ hm
      simpa using this
theorem wp_region_planL {P : Program} {ops : Array Oper} {C : World → Prop} {id : Nat} {Q' : Exit → Act → World → Prop} {a : Act} {w : World} (p : Plan) (hm : P.follows .mixedOrders = true) (hn : Region.noSelect ops = true) (hB : planL .any ops ops.size [(List.replicate ops.size false, p)] = true) (hC : p.looks = true → C w.drew)
    (h : wpPlan P ops C (Q' .normal) p a w.drew) : (Code.region id ops true).wp P Q' a w := by
  refine wp_region_plan (C := C) p hm hn ?_ hC h
  have := planL_sound .any ops ops.size _ hB (List.replicate ops.size false, p) (List.mem_singleton.2 rfl)
  simpa using this

section
variable {P : Program} {C : World → Prop} {Q : Act → World → Prop} {l : List Oper}
/-- an append within a region that draws its order -/
theorem plan_app {α : Type} {xs r : List α} (f : α → List Value) (k bytes : Nat) (hone : ∀ x ∈ r, ∀ u ∈ f x, u.oneCell' = true) (hf : ∀ x, (f x).length = k) {kp : Bool} {i : Nat} {p alt : Plan} {a : Act} {B B' : Nat} {v : Value} {w : World} {e t : TypeId} {z : Value}
    (o : Oper) (ho : getL l i = some o) (hw : Region.wanted o (yielded l.toArray a.tmps) = true)
    (ht : P.underlying t = some (.slice e)) (hinfo : (P.info? e).map (fun i => (i.zero, i.size, i.bytes)) = some (some z, k, bytes)) (hzs : z.cells.size = k) (hk : 0 < k)
    (hO : w.ownsRow B e k v xs.length (xs.flatMap f)) (s x : Operand) (hop : o.op = .call { callee := .builtin .append, args := #[s, x], argTypes := #[t, t] }) (hs : a.eval s = v) (ad : Addr) (m c : Nat) (hx : a.eval x = .slice (some ad) m c) (hm : r.length = m) (hr : SliceAt f w B' (.slice (some ad) r.length c) r)
    (hlen : (xs.length + r.length) * bytes ≤ 140737488355328) (hl2 : xs.length + r.length < 140737488355328) (hbase : B ≤ w.heap.size)
    (h : ∀ v' w', w'.ownsRow B e k v' (xs ++ r).length ((xs ++ r).flatMap f) → Below B w w' → w.grownBy w' v.ownBlock → (v'.ownBlock = v.ownBlock ∨ v'.ownBlock = some w.heap.size) → (kp = true → C w') ∧ wpPlan P l.toArray C Q p (a.put o.dst v') w') (halt : wpPlan P l.toArray C Q alt a w) :
    wpPlan P l.toArray C Q (.move kp i p alt) a w := by
  subst hm
  obtain ⟨i0, hi, hz0, hz1, hz2⟩ := info_parts hinfo
  have hcell : ∀ j u, (r.flatMap f)[j]? = some u → w.cell? (ad.add j) = some u := by
    intro j u hu
    obtain ⟨A', c', hv, -, -, h3⟩ := hr
    have h0 : 0 < r.length := by
      rcases Nat.eq_zero_or_pos r.length with h0 | h0
      · have := List.eq_nil_of_length_eq_zero h0
        subst this; simp at hu
      · exact h0
    obtain ⟨b, off, hA', _, hc⟩ := h3.1 h0
    subst hA'
    injection hv with h4
    injection h4 with h4
    subst h4
    have e1 : (⟨b, off, none⟩ : Addr).add j = ⟨b, off + j, none⟩ := by unfold Addr.add; split <;> simp_all
    rw [e1]; exact hc j u hu
  obtain ⟨v', w', hrun, h2, h3, _, h5⟩ := run_append_own_at (P := P) w B t o.type e i0 z k bytes ht hi hz0 hz1 hz2 hzs hk v xs.length (xs.flatMap f) hO ad r.length c (r.flatMap f) (flat_len f k hf r) hcell (fun u hu => by obtain ⟨y, hyr, hy⟩ := List.mem_flatMap.1 hu; exact hone y hyr u hy) (by unfold maxLen; omega) hlen hbase
  have hlk : looksB o = false := by unfold looksB; rw [hop]
  have hh := h v' w' (by rw [List.length_append, List.flatMap_append]; exact h2) ((Below.refl B w).grown h3 hbase (fun g hg => (hO.lt g hg).1)) h3 h5
  refine plan_value o ho hlk hw ?_ hh.1 hh.2 halt
  unfold execOp
  simp only [hop, resolve, invoke, builtin, Sem.run_bind, Sem.run_pure, Result.andThen_ok, List.map_toArray, List.map_cons, List.map_nil, hs, hx, hrun]
/-- .. of a slice that may be nil -/
theorem plan_apps {α : Type} {xs r : List α} (f : α → List Value) (k bytes : Nat) (hone : ∀ x ∈ r, ∀ u ∈ f x, u.oneCell' = true) (hf : ∀ x, (f x).length = k) {kp : Bool} {i : Nat} {p alt : Plan} {a : Act} {B B' : Nat} {v : Value} {w : World} {e t : TypeId} {z : Value}
    (o : Oper) (ho : getL l i = some o) (hw : Region.wanted o (yielded l.toArray a.tmps) = true)
    (ht : P.underlying t = some (.slice e)) (hinfo : (P.info? e).map (fun i => (i.zero, i.size, i.bytes)) = some (some z, k, bytes)) (hzs : z.cells.size = k) (hk : 0 < k)
    (hO : w.ownsRow B e k v xs.length (xs.flatMap f)) (s x : Operand) (hop : o.op = .call { callee := .builtin .append, args := #[s, x], argTypes := #[t, t] }) (hs : a.eval s = v) (A : Option Addr) (m c : Nat) (hx : a.eval x = .slice A m c) (hm : r.length = m) (hr : SliceAt f w B' (.slice A r.length c) r)
    (hlen : (xs.length + r.length) * bytes ≤ 140737488355328) (hl2 : xs.length + r.length < 140737488355328) (hbase : B ≤ w.heap.size)
    (h : ∀ v' w', w'.ownsRow B e k v' (xs ++ r).length ((xs ++ r).flatMap f) → Below B w w' → w.grownBy w' v.ownBlock → (v'.ownBlock = v.ownBlock ∨ v'.ownBlock = some w.heap.size) → (kp = true → C w') ∧ wpPlan P l.toArray C Q p (a.put o.dst v') w') (halt : wpPlan P l.toArray C Q alt a w) :
    wpPlan P l.toArray C Q (.move kp i p alt) a w := by
  cases A with
  | some ad => exact plan_app f k bytes hone hf o ho hw ht hinfo hzs hk hO s x hop hs ad m c hx hm hr hlen hl2 hbase h halt
  | none =>
    subst hm
    obtain ⟨i0, hi, hz0, hz1, hz2⟩ := info_parts hinfo
    obtain ⟨A', c', hv, -, -, h3, h4⟩ := hr
    injection hv with e1 _ e2
    subst e1 e2
    obtain rfl := h4 rfl
    have hr0 : r = [] := by
      rcases Nat.eq_zero_or_pos r.length with h0 | h0
      · exact List.eq_nil_of_length_eq_zero h0
      · obtain ⟨b, off, hA', _⟩ := h3 h0
        cases hA'
    subst hr0
    have hlk : looksB o = false := by unfold looksB; rw [hop]
    have hh := h v w (by simpa using hO) (Below.refl _ _) ⟨rfl, rfl, rfl, Nat.le_refl _, fun _ _ _ => rfl⟩ (.inl rfl)
    refine plan_value o ho hlk hw ?_ hh.1 hh.2 halt
    unfold execOp
    simp only [List.length_nil] at hx
    simp only [hop, resolve, invoke, builtin, Sem.run_bind, Sem.run_pure, Result.andThen_ok, List.map_toArray, List.map_cons, List.map_nil, hs, hx, run_append_owned_none (P := P) w B t o.type e i0 k ht hi v xs.length (xs.flatMap f) hO]
end

/-- some cells hold what they hold -/
def Holds (S : List (Addr × Value)) (w : World) : Prop := ∀ p ∈ S, w.cell? p.1 = some p.2
/-- the class of the worlds in which those cells hold what they hold -/
structure Keep (S : List (Addr × Value)) (w0 : World) (h0 : Holds S w0) where
  now : World
  is : Holds S now
instance (S : List (Addr × Value)) (w0 : World) (h0 : Holds S w0) : Nonempty (Keep S w0 h0) := ⟨⟨w0, h0⟩⟩
theorem Keep.cell {S : List (Addr × Value)} {w0 : World} {h0 : Holds S w0} {a : Addr} {v : Value} (h : (a, v) ∈ S) : ∀ u : Keep S w0 h0, u.now.cell? a = some v := fun u => u.is (a, v) h
theorem Holds.below {S : List (Addr × Value)} {B : Nat} {w w' : World} (h : Holds S w) (hb : Below B w w') (hS : ∀ p ∈ S, p.1.block < B) : Holds S w' := fun p hp => (hb.cell (hS p hp)).trans (h p hp)
theorem Holds.grown {S : List (Addr × Value)} {row : Option Nat} {w w' : World} (h : Holds S w) (hb : w.grownBy w' row) (hS : ∀ p ∈ S, p.1.block < w.heap.size ∧ some p.1.block ≠ row) : Holds S w' := fun p hp => (hb.cell_far p.1 (hS p hp).1 (hS p hp).2).trans (h p hp)

end Go.Proofs.YtakflmaeclneiaaDoor
