/-
  Walks and plain lemmas for the laws of this seat: what single Go functions return, for every argument.
-/
import Derived.Test.YtoapphgahmofhaaInts
import Derived.Test.YtoapphgahmofhaaFact
import Derived.Test.YtoapphgahmofhaaTyAtom
import Derived.Test.YtoapphgahmofhaaTyInst
import Derived.Test.YtoapphgahmofhaaFactC
namespace Go.Proofs.Ytoapphgahmofhaa
open Go.RowKit

set_option maxHeartbeats 400000 in
theorem eqAtom_any (r : Int) (v u : Value) (l : List Int) (w : World) (hl : IntsAt w w.heap.size v l) (hm : IntsAt w w.heap.size u l) :
    Calls Try.prog 37 #[.agg #[.int .i64 r, v], .agg #[.int .i64 r, u]] w fun e w' => e = .returned (.bool true) ∧ Below w.heap.size w w' := by
  have hb : Below w.heap.size w ((w.alloc (.cells #[.int .i64 r, v] 40)).alloc (.cells #[.int .i64 r, u] 40)) := below_more (below_more (Below.refl _ _) _) _
  have hcon := eqIntS_any v u l _ ((hl.below hb (Nat.le_refl _)).more hb.size) ((hm.below hb (Nat.le_refl _)).more hb.size)
  clear hl hm
  go_enter Try.func37, Try.ntmps37
  go_wp2_with fail
  refine hcon.mono ?_
  rintro e w' ⟨rfl, hb'⟩
  go_wp2
  go_ret
  exact ⟨rfl, hb.trans (hb'.mono hb.size)⟩

theorem eqAtom_c (v u : Value) (x : Atm) (w : World) (h : Atom_at w w.heap.size v x) (h' : Atom_at w w.heap.size u x) :
    Calls Try.prog 37 #[v, u] w fun e w' => e = .returned (.bool true) ∧ Below w.heap.size w w' := by
  obtain ⟨V, rfl, h⟩ := h
  obtain ⟨U, rfl, h'⟩ := h'
  exact eqAtom_any x.rel V U x.vals w h h'

set_option maxHeartbeats 400000 in
theorem markAtom_any (B : Nat) (r : Int) (v : Value) (l : List Int) (k : Nat) (w : World) (hO : OwnInts B v l w) (hn : l.length ≤ 1048576) (hk2 : k ≤ 1000000000000) :
    Calls Try.prog 38 #[.agg #[.int .i64 r, v], .int .i64 (k : Int)] w fun e w' => e = .returned (.int .i64 ((k : Int) + (l.length : Nat))) ∧ OwnInts B v (markInts k l.length) w' ∧ Chg (fun g => v.ownBlock = some g) w w' := by
  have hb : Below w.heap.size w (w.alloc (.cells #[.int .i64 r, v] 40)) := (Below.refl _ _).alloc (Nat.le_refl _) _
  have hcon := markIntS_any B v l k _ (hO.below hb (Nat.le_refl _)) hn hk2
  clear hO
  go_enter Try.func38, Try.ntmps38
  go_wp2_with fail
  refine hcon.mono ?_
  rintro e w' ⟨rfl, hO', hc⟩
  go_wp2
  go_ret
  exact ⟨rfl, hO', (Chg.of_below hb).trans hc⟩

theorem markAtom_c (B C : Nat) (v : Value) (x : Atm) (k : Nat) (w : World) (h : Atom_own B C v x w) (hn : Atom_sz x ≤ 1048576) (_ : 1 ≤ k) (hk : k ≤ 1000000000) :
    Calls Try.prog 38 #[v, .int .i64 (k : Int)] w fun e w' => e = .returned (.int .i64 ((k + Atom_cnt x : Nat) : Int)) ∧ Atom_own B C v (Atom_mk k x) w' ∧ Chg (Mid B C) w w' := by
  obtain ⟨V, rfl, h⟩ := h
  exact (markAtom_any B x.rel V x.vals k w h.1 hn (by omega)).mono fun _ _ ⟨he, ho, hc⟩ => ⟨by rw [he, Int.natCast_add]; rfl, ⟨V, rfl, ho, h.2⟩, hc.mono fun g hg => ⟨(h.1.lt g hg).1, h.2 g hg⟩⟩

set_option maxHeartbeats 400000 in
theorem szAtom_any (r : Int) (v : Value) (l : List Int) (left : Int) (w : World) (hl : IntsAt w w.heap.size v l) (h0 : 0 ≤ left) (h1 : left ≤ 1048576) :
    Calls Try.prog 34 #[.agg #[.int .i64 r, v], .int .i64 left] w fun e w' => e = .returned (.int .i64 (szLeft left (l.length : Nat))) ∧ Below w.heap.size w w' := by
  have hb : Below w.heap.size w (w.alloc (.cells #[.int .i64 r, v] 67)) := (Below.refl _ _).alloc (Nat.le_refl _) _
  have hcon := szIntS_any v l w.heap.size left _ (hl.below hb (Nat.le_refl _)) h0 h1
  clear hl
  by_cases h : ((l.length : Nat) : Int) ≤ left
  all_goals
    first | rw [szLeft_yes h] at hcon ⊢ | rw [szLeft_no h] at hcon ⊢
    go_enter Try.func34, Try.ntmps34
    go_wp2_with fail
    refine hcon.mono ?_
    rintro e w' ⟨rfl, rfl⟩
    go_wp2
    go_ret
    exact ⟨rfl, hb⟩

theorem szAtom_c (v : Value) (x : Atm) (left : Int) (w : World) (h : Atom_at w w.heap.size v x) (_ : Atom_wf x) (h0 : 0 ≤ left) (h1 : left ≤ 1048576) :
    Calls Try.prog 34 #[v, .int .i64 left] w fun e w' => e = .returned (.int .i64 (szLeft left (Atom_sz x : Nat))) ∧ Below w.heap.size w w' := by
  obtain ⟨V, rfl, h⟩ := h
  exact szAtom_any x.rel V x.vals left w h h0 h1

set_option maxHeartbeats 800000 in
theorem toAtom_any (r : Int) (v : Value) (l : List Int) (w : World) (hl : IntsAt w w.heap.size v l) (hn : l.length ≤ 1048576) :
    Calls Try.prog 35 #[.agg #[.int .i64 r, v]] w fun e w' => ∃ u, e = .returned (.agg #[.int .i64 r, u]) ∧ OwnInts w.heap.size u l w' ∧ Below w.heap.size w w' := by
  have hcon := fun w' (hb : Below w.heap.size w w') => toIntS_any v l w' ((hl.below hb (Nat.le_refl _)).more hb.size) hn
  have HC := Lib.hid hcon
  clear hcon hl
  go_enter Try.func35, Try.ntmps35
  go_wp2_with fail
  have hb3 : Below w.heap.size w (((w.alloc (.cells #[.int .i64 r, v] 67)).alloc (.cells #[.int .i64 0, .slice none 0 0] 40)).alloc (.cells #[.int .i64 r, .slice none 0 0] 40)) := below_more (below_more (below_more (Below.refl _ _) _) _) _
  refine (HC.out _ hb3).mono ?_
  rintro e w' ⟨u, rfl, hO, hb'⟩
  obtain ⟨hc, hfz⟩ := bcell hb'
  obtain ⟨A, c, rfl, -, -, -⟩ := hO.at_
  have HB := Lib.hid hb'
  have HB3 := Lib.hid hb3
  have HO := Lib.hid hO
  clear hO hb' hb3
  go_wp2
  refine bodyPost_ret (v := .agg #[.int .i64 r, .slice A l.length c]) (by simp [results, Try.results35, go_sem, hc]) rfl ⟨_, rfl, ?_, ?_⟩
  · have hC : Chg (fun k => k < w.heap.size + 3) w' (((w'.setCell ⟨w.heap.size + 1 + 1, 1, none⟩ (.slice A l.length c)).setCell ⟨w.heap.size + 1, 0, none⟩ (.int .i64 r)).setCell ⟨w.heap.size + 1, 1, none⟩ (.slice A l.length c)) :=
      (((Chg.refl _ _).setCell (p := ⟨w.heap.size + 1 + 1, 1, none⟩) (by show _ < _; simp) _).setCell (p := ⟨w.heap.size + 1, 0, none⟩) (by show _ < _; simp) _).setCell (p := ⟨w.heap.size + 1, 1, none⟩) (by show _ < _; simp) _
    refine (OwnInts.chg HO.out hC (fun g hg hlt => ?_)).mono HB3.out.size
    have := (HO.out.lt g hg).1
    simp at this; omega
  · exact (((HB3.out.trans (HB.out.mono HB3.out.size)).setCell (p := ⟨w.heap.size + 1 + 1, 1, none⟩) (by show _ ≤ _; simp; omega) _).setCell (p := ⟨w.heap.size + 1, 0, none⟩) (by show _ ≤ _; simp) _).setCell (p := ⟨w.heap.size + 1, 1, none⟩) (by show _ ≤ _; simp) _

theorem toAtom_c (v : Value) (x : Atm) (w : World) (h : Atom_at w w.heap.size v x) (hn : Atom_sz x ≤ 1048576) :
    Calls Try.prog 35 #[v] w fun e w' => ∃ u, e = .returned u ∧ Atom_own w.heap.size w'.heap.size u x w' ∧ Below w.heap.size w w' := by
  obtain ⟨V, rfl, h⟩ := h
  exact (toAtom_any x.rel V x.vals w h hn).mono fun _ _ ⟨u, he, ho, hb⟩ => ⟨_, he, ⟨u, rfl, IntsO.of ho⟩, hb⟩

/-- a term's value under a binding, if it has a valid one -/
def instT (b : List Int) (t : Int) : Option Int :=
  if 0 ≤ t then (if h : t.toNat < b.length then (if validV b[t.toNat] = true then some b[t.toNat] else none) else none) else if validV (-1 - t) = true then some (-1 - t) else none
def instL (b : List Int) : List Int → Option (List Int)
  | [] => some []
  | t :: r => match instT b t with
    | some v => (instL b r).map (v :: ·)
    | none => none
theorem instL_snoc {b : List Int} (a : List Int) (t : Int) (l : List Int) (v : Int) (h : instL b a = some l) (ht : instT b t = some v) : instL b (a ++ [t]) = some (l ++ [v]) := by
  induction a generalizing l with
  | nil => simp [instL] at h; subst h; simp [instL, ht]
  | cons y q ih =>
    rw [instL] at h
    rw [List.cons_append, instL]
    split at h
    · rename_i z hz
      cases hq : instL b q with
      | none => rw [hq] at h; cases h
      | some m =>
        rw [hq] at h
        cases h
        rw [ih m hq]; rfl
    · cases h
theorem instL_none {b : List Int} (a c : List Int) (t : Int) (h : instT b t = none) : instL b (a ++ t :: c) = none := by
  induction a with
  | nil => simp [instL, h]
  | cons x r ih =>
    rw [List.cons_append, instL, ih]
    split <;> rfl
theorem instL_len {b : List Int} (a l : List Int) (h : instL b a = some l) : l.length = a.length := by
  induction a generalizing l with
  | nil => simp [instL] at h; subst h; rfl
  | cons y q ih =>
    rw [instL] at h
    split at h
    · rename_i z hz
      cases hq : instL b q with
      | none => rw [hq] at h; cases h
      | some m =>
        rw [hq] at h
        cases h
        simp [ih m hq]
    · cases h
def Instantiate_r0 (a : Atm) (b : List Int) : Fct := match instL b a.vals with
  | some vs => ⟨a.rel, vs⟩
  | none => ⟨0, []⟩
def Instantiate_ok (a : Atm) (b : List Int) : Bool := (instL b a.vals).isSome
theorem inst_no {a : Atm} {b : List Int} (h : instL b a.vals = none) : Instantiate_r0 a b = ⟨0, []⟩ ∧ Instantiate_ok a b = false := by unfold Instantiate_r0 Instantiate_ok; rw [h]; exact ⟨rfl, rfl⟩
theorem inst_yes {a : Atm} {b vs : List Int} (h : instL b a.vals = some vs) : Instantiate_r0 a b = ⟨a.rel, vs⟩ ∧ Instantiate_ok a b = true := by unfold Instantiate_r0 Instantiate_ok; rw [h]; exact ⟨rfl, rfl⟩
theorem instL_stop {a : Atm} {b : List Int} (k : Nat) (hk : k < a.vals.length) (h : instT b a.vals[k] = none) : instL b a.vals = none := by
  have e : a.vals = a.vals.take k ++ a.vals[k] :: a.vals.drop (k + 1) := by rw [← List.drop_eq_getElem_cons hk, List.take_append_drop]
  rw [e]; exact instL_none _ _ _ h
/-- a fact's box while an atom is instantiated: the first k terms are done -/
def InstInv (a : Atm) (b : List Int) (g : Nat) (W : World) (kv : Value) (wq : World) : Prop :=
  ∃ (k : Nat) (V : Value) (vs : List Int), k ≤ a.vals.length ∧ kv = .int .i64 k ∧ Hid (instL b (a.vals.take k) = some vs) ∧ wq.cell? ⟨g, 0, none⟩ = some (.int .i64 a.rel) ∧ wq.cell? ⟨g, 1, none⟩ = some V ∧ (∀ o, wq.frozen? ⟨g, o, none⟩ = false) ∧ OwnInts (g + 1) V vs wq ∧ Hid (Chg (fun q => q = g) W wq)
theorem InstInv.mk' {a : Atm} {b : List Int} {g : Nat} {W : World} {kv : Value} {wq : World} (k : Nat) (V : Value) (vs : List Int) (h1 : k ≤ a.vals.length) (h2 : kv = .int .i64 k) (h3 : instL b (a.vals.take k) = some vs) (h4 : wq.cell? ⟨g, 0, none⟩ = some (.int .i64 a.rel)) (h5 : wq.cell? ⟨g, 1, none⟩ = some V) (h6 : ∀ o, wq.frozen? ⟨g, o, none⟩ = false) (h7 : OwnInts (g + 1) V vs wq) (h8 : Chg (fun q => q = g) W wq) : InstInv a b g W kv wq :=
  ⟨k, V, vs, h1, h2, Lib.hid h3, h4, h5, h6, h7, Lib.hid h8⟩
theorem instL_next {a : Atm} {b vs : List Int} {v : Int} (k : Nat) (hk : k < a.vals.length) (h : instL b (a.vals.take k) = some vs) (ht : instT b a.vals[k] = some v) : instL b (a.vals.take (k + 1)) = some (vs ++ [v]) := by
  rw [List.take_succ_eq_append_getElem hk]; exact instL_snoc _ _ _ _ h ht

end Go.Proofs.Ytoapphgahmofhaa
