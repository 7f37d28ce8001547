/-
  Walks and plain lemmas for the laws of this seat: what single Go functions return, for every argument.
-/
import Derived.Test.YtbdgdphehbkjgaaPlan
namespace Go.Proofs.Ytbdgdphehbkjgaa
open Go.RowKit

def Plan.same : Plan → Plan → Bool
  | .none, .none => true
  | .done, .done => true
  | .still i p, .still j q => (i == j) && p.same q
  | .move a i p r, .move b j q s => (a == b) && ((i == j) && (p.same q && r.same s))
  | _, _ => false
theorem Plan.same_eq : ∀ (p q : Plan), p.same q = true → p = q
  | .none, q, h => by cases q <;> simp [Plan.same] at h ⊢
  | .done, q, h => by cases q <;> simp [Plan.same] at h ⊢
  | .still i p, q, h => by
    cases q <;> simp [Plan.same] at h
    rw [h.1, Plan.same_eq p _ h.2]
  | .move a i p r, q, h => by
    cases q <;> simp [Plan.same] at h
    rw [h.1, h.2.1, Plan.same_eq p _ h.2.2.1, Plan.same_eq r _ h.2.2.2]
def boolsSame : List Bool → List Bool → Bool
  | [], [] => true
  | a :: s, b :: t => (a == b) && boolsSame s t
  | _, _ => false
theorem boolsSame_eq : ∀ (s t : List Bool), boolsSame s t = true → s = t
  | [], t, h => by cases t <;> simp [boolsSame] at h ⊢
  | a :: s, t, h => by
    cases t <;> simp [boolsSame] at h
    rw [h.1, boolsSame_eq s _ h.2]
/-- a state put to others, unless it is among them -/
def addState (s : List Bool × Plan) (L : List (List Bool × Plan)) : List (List Bool × Plan) := if L.any (fun t => boolsSame s.1 t.1 && s.2.same t.2) then L else s :: L
theorem addState_mem (s : List Bool × Plan) (L : List (List Bool × Plan)) : s ∈ addState s L ∧ ∀ t ∈ L, t ∈ addState s L := by
  unfold addState
  split
  · rename_i h
    refine ⟨?_, fun t ht => ht⟩
    obtain ⟨t, ht, h1⟩ := List.any_eq_true.1 h
    rw [Bool.and_eq_true] at h1
    have e : s = t := Prod.ext (boolsSame_eq _ _ h1.1) (Plan.same_eq _ _ h1.2)
    rwa [e]
  · exact ⟨by simp, fun t ht => by simp [ht]⟩
theorem addAll_mem (N L : List (List Bool × Plan)) : (∀ s ∈ N, s ∈ N.foldr addState L) ∧ ∀ t ∈ L, t ∈ N.foldr addState L := by
  induction N with
  | nil => exact ⟨by simp, fun t ht => ht⟩
  | cons a r ih =>
    rw [List.foldr_cons]
    have h := addState_mem a (r.foldr addState L)
    refine ⟨fun s hs => ?_, fun t ht => h.2 t (ih.2 t ht)⟩
    rcases List.mem_cons.1 hs with rfl | hs
    · exact h.1
    · exact h.2 s (ih.1 s hs)
/-- what may come next, from one state -/
def nextStates (md : Region.Mode) (ops : Array Oper) (s : List Bool × Plan) : List (List Bool × Plan) :=
  (Region.ready md ops s.1.toArray).filterMap fun i => (takeOut ops i false s.2).map fun q => (s.1.set i true, q.1)
/-- the same check as planB, each state looked at once -/
def planL (md : Region.Mode) (ops : Array Oper) : Nat → List (List Bool × Plan) → Bool
  | 0, L => L.all fun s => planB md ops 0 s.1.toArray s.2
  | fuel + 1, L => (L.all fun s => (!(Region.ready md ops s.1.toArray).isEmpty || s.2.over) && (Region.ready md ops s.1.toArray).all fun i => (takeOut ops i false s.2).isSome) && planL md ops fuel ((L.flatMap (nextStates md ops)).foldr addState [])
theorem planL_sound (md : Region.Mode) (ops : Array Oper) (fuel : Nat) (L : List (List Bool × Plan)) (h : planL md ops fuel L = true) : ∀ s ∈ L, planB md ops fuel s.1.toArray s.2 = true := by
  induction fuel generalizing L with
  | zero => exact List.all_eq_true.1 h
  | succ n ih =>
    unfold planL at h
    rw [Bool.and_eq_true, List.all_eq_true] at h
    intro s hs
    have h1 := h.1 s hs
    rw [Bool.and_eq_true] at h1
    unfold planB
    rw [Bool.and_eq_true]
    refine ⟨h1.1, List.all_eq_true.2 fun i hi => ?_⟩
    have h2 := List.all_eq_true.1 h1.2 i hi
    cases ht : takeOut ops i false s.2 with
    | none => rw [ht] at h2; cases h2
    | some q =>
      obtain ⟨p', kp⟩ := q
      simp only
      have hm : (s.1.set i true, p') ∈ (L.flatMap (nextStates md ops)).foldr addState [] := by
        refine (addAll_mem _ _).1 _ (List.mem_flatMap.2 ⟨s, hs, ?_⟩)
        exact List.mem_filterMap.2 ⟨i, hi, by rw [ht]; rfl⟩
      have := ih _ h.2 _ hm
      simpa using this
theorem wp_region_planL {P : Program} {ops : Array Oper} {C : World → Prop} {id : Nat} {Q' : Exit → Act → World → Prop} {a : Act} {w : World} (p : Plan) (hm : P.follows .mixedOrders = true) (hn : Region.noSelect ops = true) (hB : planL .any ops ops.size [(List.replicate ops.size false, p)] = true) (hC : p.looks = true → C w.drew)
    (h : wpPlan P ops C (Q' .normal) p a w.drew) : (Code.region id ops true).wp P Q' a w := by
  refine wp_region_plan (C := C) p hm hn ?_ hC h
  have := planL_sound .any ops ops.size _ hB (List.replicate ops.size false, p) (List.mem_singleton.2 rfl)
  simpa using this

end Go.Proofs.Ytbdgdphehbkjgaa
