/-
  Walks and plain lemmas for the laws of this seat: what single Go functions return, for every argument.
-/
import Derived.RangeFuncNested
import Derived.RangeFuncCalls
import Derived.OrdersIn
import Derived.Lib.SliceRun
import Derived.Shelf.Abstract
import Derived.Test.YtoapphgahmofhaaPlan
import Derived.Test.YtoapphgahmofhaaInts
import Derived.Test.YtoapphgahmofhaaSSA
import Derived.Test.YtoapphgahmofhaaKpM
import Derived.Test.YtoapphgahmofhaaCanI
namespace Go.Proofs.Ytoapphgahmofhaa
open Go.RowKit

theorem ownsRow_cells {w : World} {B k n : Nat} {e : TypeId} {v : Value} {xs : List Value} (h : w.ownsRow B e k v n xs) (g : Nat) (hg : v.ownBlock = some g) : ∃ c, w.heap[g]? = some (.cells c e (0, 0)) := by
  rcases h.2 with ⟨rfl, _⟩ | ⟨g', cap, cur, rfl, _, hgb, _⟩
  · cases hg
  · obtain rfl : g' = g := by simpa [Value.ownBlock] using hg
    exact ⟨cur, hgb⟩
/-- rows stay where only blocks of other kinds turn -/
theorem IntSSO.chgN {S : Nat → Prop} {B C : Nat} {v : Value} {Vs : List Value} {l : List (List Int)} {w w' : World} (h : IntSSO B C v Vs l w) (hc : Chg S w w') (hS : ∀ q c t f, w.heap[q]? = some (.cells c t f) → (t = 3 ∨ t = 34) → ¬ S q) : IntSSO B C v Vs l w' :=
  ⟨h.len, hc.row h.row (fun g hg => by obtain ⟨c, hcc⟩ := ownsRow_cells h.row g hg; exact hS g _ _ _ hcc (.inr rfl)), h.ins, fun i h1 h2 => ⟨(h.el i h1 h2).1.chg hc (fun q hq => by obtain ⟨c, hcc⟩ := ownsRow_cells (h.el i h1 h2).1 q hq; exact hS q _ _ _ hcc (.inl rfl)), (h.el i h1 h2).2⟩, h.dis⟩
theorem ss_book {β : Type} (B : Nat) (f : β → List (List Int)) : Own (fun (s : β) W => ∃ v Vs, IntSSO B W.heap.size v Vs (f s) W) := by
  rintro s X Y row ⟨v, Vs, h⟩ hg hr
  refine ⟨v, Vs, (IntSSO.chgN h (chg_row hg) (fun q c t f hq _ e => ?_)).mono (Nat.le_refl _) hg.size⟩
  obtain ⟨o, ho, hoc⟩ := hr q e
  rw [hq] at ho; cases ho; cases hoc
/-- a box that holds rows -/
theorem box_ss_own {β : Type} (B g : Nat) (f : β → List (List Int)) : Own (fun (s : β) W => ∃ v Vs, Boxed W g 31 v ∧ IntSSO B W.heap.size v Vs (f s) W) := by
  rintro s X Y row ⟨v, Vs, hb, h⟩ hg hr
  refine ⟨v, Vs, hb.kept hg (fun e => ?_), (IntSSO.chgN h (chg_row hg) (fun q c t f hq _ e => ?_)).mono (Nat.le_refl _) hg.size⟩
  · obtain ⟨o, ho, hoc⟩ := hr g e.symm
    rw [show X.heap[g]? = _ from hb] at ho; cases ho; cases hoc
  · obtain ⟨o, ho, hoc⟩ := hr q e
    rw [hq] at ho; cases ho; cases hoc
theorem BoxA.own {β : Type} (g : Nat) (b : List Int) : Own (fun (_ : β) W => BoxA g b W) := by
  intro s X Y row hs hg hr
  refine (hg.block g hs.lt (fun e => ?_)).trans hs
  obtain ⟨o, ho, hoc⟩ := hr g e.symm
  rw [show X.heap[g]? = _ from hs] at ho; cases ho; cases hoc
theorem keeps_below {W W' : World} (h : Below W.heap.size W W') : KeepsOthers W W' := ⟨h.size, fun k _ hk _ => (h.block k (Array.getElem?_eq_some_iff.1 hk).1).trans hk⟩
/-- a binding's five values -/
def list5 (b : List Int) : List Int := [at5 b 0, at5 b 1, at5 b 2, at5 b 3, at5 b 4]
theorem list5_self {b : List Int} (h : b.length = 5) : list5 b = b := by
  match b, h with
  | [_, _, _, _, _], _ => rfl
theorem walkM_five (fs : List Fct) (l : List Atm) (b : List Int) (hb : b.length = 5) : ∀ c ∈ walkM fs l b, c.length = 5 := by
  induction l generalizing b with
  | nil => intro c hc; unfold walkM at hc; rw [List.mem_singleton] at hc; rw [hc, hb]
  | cons a r ih =>
    intro c hc
    rw [walkM_cons, List.mem_flatMap] at hc
    obtain ⟨f, _, hc⟩ := hc
    unfold walkF at hc
    split at hc
    · exact ih _ (by rw [fitA_len]; exact hb) c hc
    · cases hc
theorem walk_list5 (fs : List Fct) (l : List Atm) (b : List Int) (hb : b.length = 5) : (walkM fs l b).map list5 = walkM fs l b := by
  have h := walkM_five fs l b hb
  generalize walkM fs l b = L at h
  induction L with
  | nil => rfl
  | cons a t ih => rw [List.map_cons, list5_self (h a (by simp)), ih (fun c hc => h c (by simp [hc]))]
theorem BoxA.ints5 {g B : Nat} {b : List Int} {w : World} (h : BoxA g b w) (hg : g < B) : IntsAt w B (.slice (some ⟨g, 0, none⟩) 5 5) (list5 b) := by
  have hA : Arr g (list5 b) w := ⟨fun j hj => by
    rw [h.arr.1 j hj]
    rcases (show j = 0 ∨ j = 1 ∨ j = 2 ∨ j = 3 ∨ j = 4 by omega) with e | e | e | e | e <;> subst e <;> rfl, h.arr.2⟩
  exact hA.ints rfl hg

/-- no operation is a defer statement -/
def noDefer (ops : Array Oper) : Bool := ops.all fun o => match o.op with | .defer _ => false | _ => true
theorem noDefer_at {ops : Array Oper} (h : noDefer ops = true) (j : Nat) (o : Oper) (ho : ops[j]? = some o) : ∀ c, o.op ≠ .defer c := by
  intro c e
  obtain ⟨hj, hk⟩ := Array.getElem?_eq_some_iff.1 ho
  unfold noDefer at h
  rw [Array.all_eq_true] at h
  have := h j hj
  rw [hk, e] at this
  cases this
theorem rowsIn_wide {n : Nat} {P : Program} {row : String} {args : Array Value} {w : World} {R : Value → World → Prop} (h : Rows P row args w R) : RowsIn Fence.wide n P row args w R :=
  fun c cs _ => let ⟨v, w', r, s⟩ := h c cs; ⟨v, w', r, stepsIn_wide.2 s⟩
/-- an operation that is no defer statement goes in a round as anywhere -/
theorem oper_round {l n : Nat} {P : Program} {o : Oper} {a : Act} {w : World} {K : Act → World → Prop} {Q : Exit → Act → World → Prop} (hd : ∀ c, o.op ≠ .defer c) (h : o.wp P a w K Q) : o.wpIn (Fence.wide.inRound l) n P a w K Q := by
  refine ⟨fun _ _ => trivial, ?_⟩
  unfold Oper.wp at h
  rw [Oper.semAt_eq _ _ _ hd]
  generalize (execOp a.eval o).run P w = r at *
  have hdep : ((Fence.wide.inRound l).depth.isSome = true → 1 ≤ n) := fun h => by cases h
  cases r with
  | ok x w' =>
    cases x with
    | value v => exact h
    | skip => exact h
    | defer d => exact h
    | enter f args => exact ⟨hdep, ((callsIn_wide (n := n - 1)).2 h).inRound l⟩
    | row row args => exact ⟨hdep, rowsIn_wide (n := n - 1) h⟩
    | _ => exact h.elim
  | halt x w' =>
    cases x with
    | panic v => exact h
    | _ => exact h.elim
theorem any_round {l n : Nat} {P : Program} {md : Region.Mode} {ops : Array Oper} {Q : Exit → Act → World → Prop} (hd : noDefer ops = true) (hQ : ¬ LetsOut Q) :
    ∀ (fuel : Nat) (listed : Array Bool) (a : Act) (w : World), wpAny P md ops Q fuel listed a w → wpAnyIn (Fence.wide.inRound l) n P md ops Q fuel listed a w
  | 0, _, _, _, h => h
  | fuel + 1, listed, a, w, h => by
    refine ⟨h.1, fun i hi => ?_⟩
    have h2 := h.2 i hi
    unfold wpOp at h2
    unfold wpOpIn
    cases ho : ops[i]? with
    | none => rw [ho] at h2; exact any_round hd hQ fuel _ a w h2
    | some o =>
      rw [ho] at h2
      simp only at h2 ⊢
      split
      · rename_i hw
        rw [if_pos hw] at h2
        rcases h2 with h2 | ⟨_, h2⟩
        · exact Oper.wpIn_mono (fun a w hh => any_round hd hQ fuel _ a w hh) (oper_round (noDefer_at hd i o ho) h2)
        · exact absurd h2 hQ
      · rename_i hw
        rw [if_neg hw] at h2
        exact ⟨fun _ _ => trivial, any_round hd hQ fuel _ _ w h2⟩
/-- a region that draws its order, in a round of a range over a function -/
theorem wp_round_planL {l n : Nat} {P : Program} {ops : Array Oper} {C : World → Prop} {id : Nat} {Q' : Exit → Act → World → Prop} {a : Act} {w : World} (p : Plan) (hm : P.follows .mixedOrders = true) (hn : Region.noSelect ops = true) (hd : noDefer ops = true) (hQ : ¬ LetsOut Q') (hB : planL .any ops ops.size [(List.replicate ops.size false, p)] = true) (hC : p.looks = true → C w.drew)
    (h : wpPlan P ops C (Q' .normal) p a w.drew) : (Code.region id ops true).wpIn (Fence.wide.inRound l) n P Q' a w := by
  have hB := planL_sound .any ops ops.size _ hB (List.replicate ops.size false, p) (List.mem_singleton.2 rfl)
  refine wpIn_region_any hm (any_round hd hQ _ _ _ _ (plan_any (Q := Q' .normal) (Region.noSelect_spec hn) (fun _ _ h => h) _ _ p a _ (by
    cases hl : p.looks with
    | true => exact .inl ⟨_, hC hl⟩
    | false => exact .inr rfl) (fun h => hC (reads_looks p h)) (by simpa using hB) h))

set_option maxHeartbeats 800000 in
theorem implCloneInts_any (v : Value) (l : List Int) (w : World) (hl : IntsAt w w.heap.size v l) (hn : l.length ≤ 1048576) :
    Calls Try.prog 46 #[v] w fun e w' => ∃ u, e = .returned u ∧ IntS_own w.heap.size w'.heap.size u l w' ∧ Below w.heap.size w w' := by
  have HL := Lib.hid hl
  obtain ⟨A, c, rfl, hlc, hcm, hel, hA⟩ := hl
  unfold maxLen at hcm
  have q0 : ∀ (w : World) (a : Option Addr) (n c n' c' : Nat), (binOp .eql 34 (.slice a n c) (.slice none n' c')).run Try.prog w = .ok (.bool a.isNone) w := fun w a n c n' c' => Lib.run_eql_slice_nil w _ _ a n c n' c' Try.underlying34
  cases A with
  | none =>
    obtain rfl := hA rfl
    obtain rfl : l = [] := List.eq_nil_of_length_eq_zero (by omega)
    clear hel hA
    go_enter Try.func46, Try.ntmps46
    go_wp2
    go_ret
    exact ⟨_, rfl, ⟨OwnInts.nil _ _, fun g hg => by cases hg⟩, Below.refl _ _⟩
  | some a =>
    have HLE := Lib.hid ((HL.out.below ((Below.refl w.heap.size w).alloc (Nat.le_refl _) (.cells #[] 3)) (Nat.le_refl _)))
    have HOE := Lib.hid (OwnInts.empty w w.heap.size (Nat.le_refl _))
    clear hel hA
    go_enter Try.func46, Try.ntmps46
    go_wp2_with (at_builtin; refine ints_apps (r := l) HOE.out rfl _ _ rfl (by simp [go_sem]) (some a) l.length c rfl rfl HLE.out (fun e => by cases e) (by simp; omega) (by simp) ?_; intro v1 w1 hO1 hW1 _ _)
    go_ret
    rw [List.nil_append] at hO1
    exact ⟨_, rfl, IntsO.of hO1, ((Below.refl _ _).alloc (Nat.le_refl _) _).trans hW1⟩

end Go.Proofs.Ytoapphgahmofhaa
