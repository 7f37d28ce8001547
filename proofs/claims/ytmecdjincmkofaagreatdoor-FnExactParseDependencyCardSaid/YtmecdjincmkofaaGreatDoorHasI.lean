/-
  Walks and plain lemmas for the laws of this seat: what single Go functions return, for every argument.
-/
import Derived.Lib.Bytealg
import Derived.Test.YtmecdjincmkofaaGreatDoorBase
import Derived.Test.YtmecdjincmkofaaGreatDoorInts
import Derived.Test.YtmecdjincmkofaaGreatDoorRels
import Derived.Test.YtmecdjincmkofaaGreatDoorRelsC
import Derived.Test.YtmecdjincmkofaaGreatDoorFmtF
import Derived.Test.YtmecdjincmkofaaGreatDoorDepSC
import Derived.Test.YtmecdjincmkofaaGreatDoorMInst
import Derived.Test.YtmecdjincmkofaaGreatDoorVarsM
namespace Go.Proofs.YtmecdjincmkofaaGreatDoor
open Go.RowKit

set_option maxHeartbeats 1600000 in
theorem implIndexX_any (v : Value) (l : List Int) (x : Int) (w : World) (hl : IntsAt w w.heap.size v l) :
    Calls Tryz.prog 269 #[v, .int .i64 x] w fun e w' => e = .returned (.int .i64 (ixOf (fun y => x == y) l)) ∧ w = w' := by
  have HL := Lib.hid hl
  obtain ⟨A, c, rfl, hlc, hcm, -⟩ := hl
  unfold maxLen at hcm
  go_enter Tryz.func269, Tryz.ntmps269
  go_wp2
  go_loop [8] (fun i => ∃ n : Nat, n ≤ l.length ∧ i = .int .i64 n ∧ Hid (IxTo (fun y => x == y) l n)) (fun i => l.length - (intOf i).toNat)
  case atStart => exact ⟨0, by omega, rfl, Lib.hid (IxTo.zero _ _)⟩
  case round =>
    obtain ⟨n, hn, rfl, HT⟩ := hrel
    by_cases hlt : n < l.length
    · obtain ⟨b, off, rfl, hb, c0⟩ := IntsAt.elem HL.out n hlt
      cases he : (x == l[n]) with
      | true =>
        have HV := Lib.hid (HT.out.hit hlt he)
        obtain ⟨z, hz⟩ : ∃ z, z = l[n] := ⟨_, rfl⟩
        rw [← hz] at c0 he
        clear hz
        go_wp2
        go_ret
        exact ⟨ret_int HV.out.symm, rfl⟩
      | false =>
        have HN := Lib.hid (HT.out.next hlt he)
        obtain ⟨z, hz⟩ : ∃ z, z = l[n] := ⟨_, rfl⟩
        rw [← hz] at c0 he
        clear hz
        go_wp2
        go_round
        case rel => exact ⟨n + 1, by omega, by go_num, HN⟩
        case measure => simp [intOf]; omega
    · obtain rfl : n = l.length := by omega
      have HV := Lib.hid HT.out.miss
      go_wp2
      go_ret
      exact ⟨ret_int HV.out.symm, rfl⟩
theorem any_beq (l : List Int) (x : Int) : l.any (fun y => x == y) = decide (x ∈ l) := by
  by_cases h : x ∈ l
  · rw [decide_eq_true h]; exact List.any_eq_true.2 ⟨x, h, beq_self_eq_true x⟩
  · rw [decide_eq_false h]; exact List.any_eq_false.2 fun y hy e => h (by have := eq_of_beq e; rwa [this])
theorem implContains_at (l : List Int) (x : Int) (q : Bool) (hq : decide (x ∈ l) = q) (v : Value) (w : World) (hl : IntsAt w w.heap.size v l) :
    Calls Tryz.prog 224 #[v, .int .i64 x] w fun e w' => e = .returned (.bool q) ∧ w = w' := by
  subst hq
  have hi := implIndexX_any v l x w hl
  have HV := Lib.hid ((ixOf_any (fun y => x == y) l).trans (any_beq l x))
  generalize ixOf (fun y => x == y) l = q at *
  obtain ⟨A, c, rfl, hlc, hcm, -⟩ := hl
  go_enter Tryz.func224, Tryz.ntmps224
  go_wp2_with (go_at_call 269; refine hi.mono ?_; rintro e w1 ⟨rfl, rfl⟩)
  go_ret
  exact ⟨ret_bool HV.out, rfl⟩

/-- the texts of several dependencies, a semicolon between -/
def joinDeps (l : List Rel) (xs : List Dep) : List UInt8 := Lib.join (xs.map (fmtDep l)) [59]
def fmtDeps (l : List Rel) (xs : List Dep) : List UInt8 := if depsOk l xs = true then joinDeps l xs else []
theorem joinDeps_one (l : List Rel) (ts : List Dep) (h : 0 < ts.length) : joinDeps l (ts.take 1) = fmtDep l ts[0] := by
  unfold joinDeps
  cases ts with
  | nil => simp at h
  | cons r t => simp [Lib.join_one]
theorem joinDeps_succ (l : List Rel) (ts : List Dep) (k : Nat) (h0 : 0 < k) (h : k < ts.length) : joinDeps l (ts.take (k + 1)) = joinDeps l (ts.take k) ++ ([59] ++ fmtDep l ts[k]) := by
  unfold joinDeps
  cases ts with
  | nil => simp at h
  | cons r t =>
    obtain ⟨j, rfl⟩ : ∃ j, k = j + 1 := ⟨k - 1, by omega⟩
    rw [List.take_succ_cons, List.take_succ_cons, List.map_cons, List.map_cons, Lib.join_cons, Lib.join_cons, List.map_take, List.map_take]
    have hj : j < t.length := by simpa using h
    rw [Lib.joinTail_take_succ [59] (t.map (fmtDep l)) j (fmtDep l t[j]) (by simp [hj])]
    simp
theorem joinDeps_len (l : List Rel) (ts : List Dep) (k : Nat) (hk : k ≤ ts.length) : (joinDeps l (ts.take k)).length ≤ 22 * k := by
  induction k with
  | zero => exact Nat.le_of_eq rfl
  | succ k ih =>
    have h1 := fmtDep_len l ts[k]
    rcases Nat.eq_zero_or_pos k with h0 | h0
    · subst h0; rw [joinDeps_one l ts (by omega)]; omega
    · rw [joinDeps_succ l ts k h0 (by omega)]
      have := ih (by omega)
      simp only [List.length_append, List.length_cons, List.length_nil]; omega
/-- all pieces read as dependencies -/
def toDeps (l : List Rel) : List (List UInt8) → Option (List Dep)
  | [] => some []
  | t :: r => match parseDep l t with
    | some x => (toDeps l r).map (x :: ·)
    | none => none
theorem toDeps_fmt {l : List Rel} (xs : List Dep) (h : ∀ x ∈ xs, depOk l x = true) : toDeps l (xs.map (fmtDep l)) = some xs := by
  induction xs with
  | nil => rfl
  | cons v t ih => rw [List.map_cons, toDeps, (parseDep_iff l _ v).2 ⟨h v (by simp), rfl⟩, ih (fun x hx => h x (by simp [hx]))]; rfl
theorem toDeps_snoc {l : List Rel} (a : List (List UInt8)) (t : List UInt8) (xs : List Dep) (x : Dep) (h : toDeps l a = some xs) (ht : parseDep l t = some x) : toDeps l (a ++ [t]) = some (xs ++ [x]) := by
  induction a generalizing xs with
  | nil => simp [toDeps] at h; subst h; simp [toDeps, ht]
  | cons y q ih =>
    rw [toDeps] at h
    rw [List.cons_append, toDeps]
    split at h
    · rename_i z hz
      cases hq : toDeps l q with
      | none => rw [hq] at h; cases h
      | some m =>
        rw [hq] at h
        cases h
        rw [ih m hq]; rfl
    · cases h
theorem toDeps_none {l : List Rel} (a b : List (List UInt8)) (t : List UInt8) (h : parseDep l t = none) : toDeps l (a ++ t :: b) = none := by
  induction a with
  | nil => simp [toDeps, h]
  | cons x r ih =>
    rw [List.cons_append, toDeps, ih]
    split <;> rfl
theorem toDeps_back {l : List Rel} (a : List (List UInt8)) (xs : List Dep) (h : toDeps l a = some xs) : xs.map (fmtDep l) = a ∧ ∀ x ∈ xs, depOk l x = true := by
  induction a generalizing xs with
  | nil => simp [toDeps] at h; subst h; exact ⟨rfl, by simp⟩
  | cons y q ih =>
    rw [toDeps] at h
    split at h
    · rename_i z hz
      cases hq : toDeps l q with
      | none => rw [hq] at h; cases h
      | some m =>
        rw [hq] at h
        cases h
        have hs := (parseDep_iff l y z).1 hz
        refine ⟨by rw [List.map_cons, hs.2, (ih m hq).1], fun v hv => ?_⟩
        rcases List.mem_cons.1 hv with rfl | hv
        · exact hs.1
        · exact (ih m hq).2 v hv
    · cases h
/-- what ParseDependencies takes -/
def parseDeps (l : List Rel) (s : List UInt8) : Option (List Dep) := match (if s = [] then some [] else toDeps l (cutA 59 s)) with
  | some xs => if depsOk l xs = true then some xs else none
  | none => none
theorem depsOk_mem {l : List Rel} {xs : List Dep} (h : depsOk l xs = true) : validRels l = true ∧ xs.length ≤ 5 ∧ ∀ x ∈ xs, depOk l x = true := by
  unfold depsOk at h
  simp only [Bool.and_eq_true, decide_eq_true_eq, List.all_eq_true] at h
  exact ⟨h.1, h.2.1, h.2.2⟩
theorem deps_cut {l : List Rel} {xs : List Dep} (hne : xs ≠ []) : cutA 59 (joinDeps l xs) = xs.map (fmtDep l) := by
  cases xs with
  | nil => exact absurd rfl hne
  | cons f t =>
    unfold joinDeps
    rw [List.map_cons]
    refine cutA_join 59 _ _ (fun p hp => ?_)
    rw [← List.map_cons (f := fmtDep l)] at hp
    obtain ⟨g, _, rfl⟩ := List.mem_map.1 hp
    exact fmtDep_semi l g
theorem joinDeps_ne {l : List Rel} {xs : List Dep} (h : ∀ x ∈ xs, depOk l x = true) (h0 : joinDeps l xs = []) : xs = [] := by
  cases xs with
  | nil => rfl
  | cons f t =>
    unfold joinDeps at h0
    rw [List.map_cons, Lib.join_cons] at h0
    exact absurd (List.append_eq_nil_iff.1 h0).1 (fmtDep_ne.2 (h f (by simp)))
theorem parseDeps_iff (l : List Rel) (s : List UInt8) (xs : List Dep) : parseDeps l s = some xs ↔ depsOk l xs = true ∧ joinDeps l xs = s := by
  unfold parseDeps
  by_cases h0 : s = []
  · subst h0
    rw [if_pos rfl]
    simp only
    constructor
    · intro h
      split at h
      · rename_i hd; cases h; exact ⟨hd, rfl⟩
      · cases h
    · rintro ⟨h1, h2⟩
      obtain rfl := joinDeps_ne (depsOk_mem h1).2.2 h2
      rw [if_pos h1]
  · rw [if_neg h0]
    constructor
    · intro h
      split at h
      · rename_i ys hy
        split at h
        · rename_i hd
          cases h
          obtain ⟨e, _⟩ := toDeps_back _ _ hy
          refine ⟨hd, ?_⟩
          unfold joinDeps
          rw [e, join_cutA]
        · cases h
      · cases h
    · rintro ⟨h1, h2⟩
      have hne : xs ≠ [] := by rintro rfl; exact h0 h2.symm
      rw [← h2, deps_cut hne, toDeps_fmt xs (depsOk_mem h1).2.2]
      simp only
      rw [if_pos h1]
theorem fmtDeps_no {l : List Rel} {xs : List Dep} (h : depsOk l xs = false) : fmtDeps l xs = [] := if_neg (by rw [h]; simp)
theorem fmtDeps_yes {l : List Rel} {xs : List Dep} (h : depsOk l xs = true) : fmtDeps l xs = joinDeps l xs := if_pos h

def ParseDependencies_r0 (l : List Rel) (s : ByteArray) : List Dep := (parseDeps l s.data.toList).getD []
def ParseDependencies_ok (l : List Rel) (s : ByteArray) : Bool := (parseDeps l s.data.toList).isSome
theorem parseDeps_none {l : List Rel} {s : ByteArray} (h : parseDeps l s.data.toList = none) : ParseDependencies_r0 l s = [] ∧ ParseDependencies_ok l s = false := by unfold ParseDependencies_r0 ParseDependencies_ok; rw [h]; exact ⟨rfl, rfl⟩
theorem parseDeps_some {l : List Rel} {s : ByteArray} {xs : List Dep} (h : parseDeps l s.data.toList = some xs) : ParseDependencies_r0 l s = xs ∧ ParseDependencies_ok l s = true := by unfold ParseDependencies_r0 ParseDependencies_ok; rw [h]; exact ⟨rfl, rfl⟩
theorem parseDeps_stop {l : List Rel} {s : List UInt8} (h0 : s ≠ []) (k : Nat) (hk : k < (cutA 59 s).length) (h : parseDep l (cutA 59 s)[k] = none) : parseDeps l s = none := by
  have e : cutA 59 s = (cutA 59 s).take k ++ (cutA 59 s)[k] :: (cutA 59 s).drop (k + 1) := by rw [← List.drop_eq_getElem_cons hk, List.take_append_drop]
  have hn : toDeps l (cutA 59 s) = none := by rw [e]; exact toDeps_none _ _ _ h
  unfold parseDeps
  rw [if_neg h0, hn]
theorem parseDeps_end {l : List Rel} {s : List UInt8} {xs : List Dep} (h0 : s ≠ []) (h : toDeps l (cutA 59 s) = some xs) : parseDeps l s = if depsOk l xs = true then some xs else none := by
  unfold parseDeps
  rw [if_neg h0, h]
theorem parseDeps_nil {l : List Rel} {s : List UInt8} (h0 : s = []) : parseDeps l s = if depsOk l [] = true then some [] else none := by
  unfold parseDeps
  rw [if_pos h0]
theorem parseDep_ok_is {l : List Rel} {s : ByteArray} {q : Bool} (h : ParseDependency_ok l s = q) : (q = true → parseDep l s.data.toList = some (ParseDependency_r0 l s)) ∧ (q = false → parseDep l s.data.toList = none) := by
  subst h
  unfold ParseDependency_ok ParseDependency_r0
  cases parseDep l s.data.toList with
  | none => exact ⟨fun h => (by cases h), fun _ => rfl⟩
  | some x => exact ⟨fun _ => rfl, fun h => (by cases h)⟩
theorem readTgd_wf (l : List Rel) (hl : l.length ≤ 1048576) (s : List UInt8) : Dependency_wf (readTgd l s) := by
  unfold readTgd
  split
  · exact ⟨readAtoms_wf l hl _, readAtoms_wf l hl _, zero_i64, zero_i64⟩
  · exact ⟨fun i hi => absurd hi (by show ¬ i < 0; omega), fun i hi => absurd hi (by show ¬ i < 0; omega), zero_i64, zero_i64⟩
theorem readDep_wf (l : List Rel) (hl : l.length ≤ 1048576) (s : List UInt8) : Dependency_wf (readDep l s) := by
  unfold readDep
  split
  · rename_i a c d _
    have h1 := termOf_bd c
    have h2 := termOf_bd d
    exact ⟨readAtoms_wf l hl _, fun i hi => absurd hi (by show ¬ i < 0; omega), by show _ ≤ termOf c ∧ termOf c ≤ _; omega, by show _ ≤ termOf d ∧ termOf d ≤ _; omega⟩
  · exact readTgd_wf l hl s
theorem parseDep_wf (l : List Rel) (hl : l.length ≤ 1048576) (s : ByteArray) : Dependency_wf (ParseDependency_r0 l s) := by
  unfold ParseDependency_r0 parseDep
  split
  · exact readDep_wf l hl _
  · exact ⟨fun i hi => absurd hi (by show ¬ i < 0; omega), fun i hi => absurd hi (by show ¬ i < 0; omega), zero_i64, zero_i64⟩
theorem deps_wf_snoc {xs : List Dep} {x : Dep} (h : DependencyS_wf xs) (hx : Dependency_wf x) : DependencyS_wf (xs ++ [x]) := by
  intro i hi
  by_cases h1 : i < xs.length
  · rw [List.getElem_append_left h1]; exact h i h1
  · rw [List.getElem_append_right (by omega)]
    rw [List.length_append, List.length_singleton] at hi
    have : i - xs.length = 0 := by omega
    simp only [this, List.getElem_cons_zero]; exact hx

/-- a byte that is a term's text -/
def termIs (c : UInt8) : Bool := decide (termOf c ≤ 4)
def atomIs : List UInt8 → Bool
  | [] => false
  | _ :: r => r.all termIs
def implPcs (s : List UInt8) : List (List UInt8) := cutN 32 (min 3 (s.length + 1) - 1) s
/-- what readAtoms gives; nothing where it panics -/
def implAtoms (l : List Rel) (s : List UInt8) : Option (List Atm) := if (implPcs s).all atomIs = true then some ((implPcs s).map (readAtom l)) else none
def implTgd (l : List Rel) (a b : List UInt8) : Option Dep := match implAtoms l a, implAtoms l b with
  | some x, some y => some ⟨x, y, false, 0, 0⟩
  | _, _ => none
def implEgd (l : List Rel) (a b : List UInt8) : Option Dep := match b, implAtoms l a with
  | [c, d], some x => if termIs c = true ∧ termIs d = true then some ⟨x, [], true, termOf c, termOf d⟩ else none
  | _, _ => none
/-- what readDependency has read ahead of its check -/
def implRaw (l : List Rel) (s : List UInt8) : Option Dep := if (Lib.cut s [62]).2.2 = true then implTgd l (Lib.cut s [62]).1 (Lib.cut s [62]).2.1 else implEgd l (Lib.cut s [61]).1 (Lib.cut s [61]).2.1
theorem termIs_is {c : UInt8} (h : termIs c = true) : termOf c ≤ 4 := of_decide_eq_true h
theorem termIs_valid {c : UInt8} (h : termIs c = true) : validT (termOf c) = true ∧ termB (termOf c) = c :=
  ⟨(validT_iff _).2 ⟨(termOf_bd c).1, termIs_is h⟩, termB_termOf (termIs_is h)⟩
theorem termIs_termB {t : Int} (h : validT t = true) : termIs (termB t) = true := by
  unfold termIs; rw [termOf_termB h]; exact decide_eq_true ((validT_iff t).1 h).2
/-- an atom that was read and is one of the schema: its text is what was read -/
theorem fmtAtom_read {l : List Rel} {p : List UInt8} (h : atomIs p = true) (ha : atomB l (readAtom l p) = true) : fmtAtom l (readAtom l p) = p := by
  cases p with
  | nil => cases h
  | cons b r =>
    have ha' : atomB l ⟨relIdx ⟨#[b]⟩ l, r.map termOf⟩ = true := ha
    obtain ⟨c, hn, _, _, e, _⟩ := atom_form ha'
    show fmtAtom l ⟨relIdx ⟨#[b]⟩ l, r.map termOf⟩ = b :: r
    have hr := (atomOk_parts ha').2.1
    have hb := (relIdx_at ⟨#[b]⟩ l hr.1).2
    unfold nameAt at hn
    have hn' : (⟨#[b]⟩ : ByteArray) = ⟨#[c]⟩ := hb.symm.trans hn
    have hbc : b = c := by injection hn' with h1; injection h1 with h2; injection h2
    rw [e, ← hbc]
    congr 1
    show (r.map termOf).map termB = r
    rw [List.map_map]
    have h' : ∀ x ∈ r, termIs x = true := List.all_eq_true.1 (show r.all termIs = true from h)
    exact (List.map_congr_left (g := id) fun x hx => (termIs_valid (h' x hx)).2).trans (List.map_id _)
theorem atomIs_fmt {l : List Rel} {a : Atm} (h : atomB l a = true) : atomIs (fmtAtom l a) = true := by
  obtain ⟨c, _, _, _, e, _, _, hv⟩ := atom_form h
  rw [e]
  show (a.vals.map termB).all termIs = true
  rw [List.all_eq_true]
  intro x hx
  obtain ⟨t, ht, rfl⟩ := List.mem_map.1 hx
  exact termIs_termB (hv t ht)
theorem join_cutN (c : UInt8) (k : Nat) (s : List UInt8) : Lib.join (cutN c k s) [c] = s := by
  induction s generalizing k with
  | nil => cases k <;> rfl
  | cons b r ih =>
    cases k with
    | zero =>
      show Lib.join [b :: r] [c] = b :: r
      simp [Lib.join_one]
    | succ k =>
      rw [cutN_succ]
      split
      · rename_i hb
        have e := ih k
        cases hc : cutN c k r with
        | nil => exact absurd hc (cutN_ne c k r)
        | cons h t =>
          rw [hc, Lib.join_cons] at e
          rw [Lib.join_cons]
          simp [Lib.joinTail, hb] at e ⊢
          exact e
      · have e := ih (k + 1)
        cases hc : cutN c (k + 1) r with
        | nil => exact absurd hc (cutN_ne c (k + 1) r)
        | cons h t =>
          rw [hc, Lib.join_cons] at e
          show Lib.join (([b] ++ h) :: t) [c] = b :: r
          rw [Lib.join_cons]
          simp [e]
theorem implAtoms_back {l : List Rel} {s : List UInt8} {ts : List Atm} (h : implAtoms l s = some ts) (ha : ts.all (atomB l) = true) : joinAtoms l ts = s := by
  unfold implAtoms at h
  split at h
  · rename_i hp
    cases h
    rw [List.all_eq_true] at hp ha
    unfold joinAtoms
    rw [List.map_map]
    have e : (implPcs s).map (fmtAtom l ∘ readAtom l) = implPcs s :=
      (List.map_congr_left (g := id) fun p h1 => fmtAtom_read (hp p h1) (ha _ (List.mem_map.2 ⟨p, h1, rfl⟩))).trans (List.map_id _)
    rw [e]
    exact join_cutN 32 _ s
  · cases h
theorem implAtoms_join {l : List Rel} {ts : List Atm} (h1 : ts ≠ []) (h2 : ts.length ≤ 2) (ha : ts.all (atomB l) = true) : implAtoms l (joinAtoms l ts) = some ts := by
  have hc : cutA 32 (joinAtoms l ts) = ts.map (fmtAtom l) := by
    cases ts with
    | nil => exact absurd rfl h1
    | cons f t =>
      unfold joinAtoms
      rw [List.map_cons]
      refine cutA_join 32 _ _ (fun p hp => ?_)
      rw [← List.map_cons (f := fmtAtom l)] at hp
      obtain ⟨g, _, rfl⟩ := List.mem_map.1 hp
      exact fmtAtom_plain l g 32 (.inl rfl)
  have hp : implPcs (joinAtoms l ts) = ts.map (fmtAtom l) := by
    unfold implPcs
    rw [cutN_all 32 _ _ ?_, hc]
    have := cutA_len 32 (joinAtoms l ts)
    rw [hc, List.length_map] at this ⊢
    omega
  rw [List.all_eq_true] at ha
  unfold implAtoms
  rw [hp, if_pos ?_]
  · rw [List.map_map]
    exact congrArg some ((List.map_congr_left (g := id) fun a h => readAtom_fmt (ha a h)).trans (List.map_id _))
  · rw [List.all_eq_true]
    intro p hp
    obtain ⟨a, h, rfl⟩ := List.mem_map.1 hp
    exact atomIs_fmt (ha a h)
theorem cut_back (c : UInt8) (s : List UInt8) (h : (Lib.cut s [c]).2.2 = true) : (Lib.cut s [c]).1 ++ c :: (Lib.cut s [c]).2.1 = s := by
  by_cases hc : c ∈ s
  · obtain ⟨p, r, h1, rfl⟩ := split_at c s hc
    rw [cut_app c p r h1]
  · rw [cut_none c s hc] at h; cases h
theorem cut_rest (c : UInt8) (s : List UInt8) (h : (Lib.cut s [c]).2.1 ≠ []) : (Lib.cut s [c]).1 ++ c :: (Lib.cut s [c]).2.1 = s := by
  by_cases hc : c ∈ s
  · obtain ⟨p, r, h1, rfl⟩ := split_at c s hc
    rw [cut_app c p r h1]
  · rw [cut_none c s hc] at h; exact absurd rfl h
theorem implRaw_back {l : List Rel} {s : List UInt8} {x : Dep} (h : implRaw l s = some x) (hx : depOk l x = true) : fmtDep l x = s := by
  unfold implRaw at h
  split at h
  · rename_i hf
    unfold implTgd at h
    split at h
    · rename_i a b ha hb
      cases h
      obtain ⟨_, _, hh, _⟩ := depOk_tgd hx rfl
      rw [fmtDep_tgd hx rfl]
      show joinAtoms l a ++ 62 :: joinAtoms l b = s
      rw [implAtoms_back ha (depOk_body hx).2.2, implAtoms_back hb hh]
      exact cut_back 62 s hf
    · cases h
  · unfold implEgd at h
    split at h
    · rename_i c d a hr ha
      split at h
      · rename_i hcd
        cases h
        rw [fmtDep_egd hx rfl]
        show joinAtoms l a ++ 61 :: (fmtT (termOf c) ++ fmtT (termOf d)) = s
        rw [implAtoms_back ha (depOk_body hx).2.2, fmtT_yes (termIs_valid hcd.1).1, fmtT_yes (termIs_valid hcd.2).1, (termIs_valid hcd.1).2, (termIs_valid hcd.2).2]
        have e := cut_rest 61 s (by rw [hr]; simp)
        rw [hr] at e
        exact e
      · cases h
    · cases h
theorem implRaw_fmt {l : List Rel} {x : Dep} (h : depOk l x = true) : implRaw l (fmtDep l x) = some x := by
  obtain ⟨hb1, hb2, hb3⟩ := depOk_body h
  unfold implRaw
  cases hg : x.egd with
  | true =>
    obtain ⟨hh, ⟨_, hl⟩, _, hr⟩ := depOk_egd h hg
    have p1 := termB_plain hl
    have p2 := termB_plain hr
    have e : fmtDep l x = joinAtoms l x.body ++ 61 :: [termB x.left, termB x.right] := by rw [fmtDep_egd h hg, fmtT_yes hl, fmtT_yes hr]; rfl
    have hn : (62 : UInt8) ∉ fmtDep l x := by
      rw [e]
      intro hm
      rcases List.mem_append.1 hm with hm | hm
      · exact joinAtoms_plain l _ 62 (.inr (.inr rfl)) hm
      · simp only [List.mem_cons, List.not_mem_nil, or_false] at hm
        rcases hm with hm | hm | hm
        · revert hm; decide
        · rw [← hm] at p1; revert p1; decide
        · rw [← hm] at p2; revert p2; decide
    rw [cut_none 62 _ hn, if_neg (by simp), e, cut_app 61 _ _ (joinAtoms_plain l _ 61 (.inr (.inl rfl)))]
    unfold implEgd
    simp only [implAtoms_join hb1 hb2 hb3]
    rw [if_pos ⟨termIs_termB hl, termIs_termB hr⟩, termOf_termB hl, termOf_termB hr]
    cases x
    simp only at hg hh
    subst hg hh
    rfl
  | false =>
    obtain ⟨hh1, hh2, hh3, hl, hr⟩ := depOk_tgd h hg
    rw [fmtDep_tgd h hg, cut_app 62 _ _ (joinAtoms_plain l _ 62 (.inr (.inr rfl))), if_pos rfl]
    unfold implTgd
    simp only [implAtoms_join hb1 hb2 hb3, implAtoms_join hh1 hh2 hh3]
    cases x
    simp only at hg hl hr
    subst hg hl hr
    rfl
theorem implDep_yes {l : List Rel} {s : List UInt8} {x : Dep} (h : implRaw l s = some x) (hx : depOk l x = true) : parseDep l s = some x :=
  (parseDep_iff l s x).2 ⟨hx, implRaw_back h hx⟩
theorem implDep_none {l : List Rel} {s : List UInt8} (h : implRaw l s = none) : parseDep l s = none := by
  cases hp : parseDep l s with
  | none => rfl
  | some x =>
    obtain ⟨h1, rfl⟩ := (parseDep_iff l s x).1 hp
    rw [implRaw_fmt h1] at h; cases h
theorem implDep_not {l : List Rel} {s : List UInt8} {x : Dep} (h : implRaw l s = some x) (hx : depOk l x = false) : parseDep l s = none := by
  cases hp : parseDep l s with
  | none => rfl
  | some y =>
    obtain ⟨h1, rfl⟩ := (parseDep_iff l s y).1 hp
    rw [implRaw_fmt h1] at h
    cases h
    rw [h1] at hx; cases hx

theorem idx_vars (c : UInt8) : (Lib.indexByte [120, 121, 122, 117, 118] c = termOf c ∧ 0 ≤ termOf c ∧ termOf c ≤ 4) ∨ (Lib.indexByte [120, 121, 122, 117, 118] c = -1 ∧ (48 ≤ c.toNat ∧ c.toNat ≤ 57 ∨ termOf c = 5)) := by
  by_cases h : c = 120 ∨ c = 121 ∨ c = 122 ∨ c = 117 ∨ c = 118
  · left
    rcases h with rfl | rfl | rfl | rfl | rfl <;> exact ⟨by decide, by decide, by decide⟩
  · right
    simp only [not_or] at h
    obtain ⟨h1, h2, h3, h4, h5⟩ := h
    refine ⟨?_, ?_⟩
    · unfold Lib.indexByte Lib.indexByte Lib.indexByte Lib.indexByte Lib.indexByte Lib.indexByte
      rw [beq_eq_false_iff_ne.2 (Ne.symm h1), beq_eq_false_iff_ne.2 (Ne.symm h2), beq_eq_false_iff_ne.2 (Ne.symm h3), beq_eq_false_iff_ne.2 (Ne.symm h4), beq_eq_false_iff_ne.2 (Ne.symm h5)]
      rfl
    · by_cases hd : 48 ≤ c.toNat ∧ c.toNat ≤ 57
      · exact .inl hd
      · right
        unfold termOf
        rw [if_neg hd, if_neg h1, if_neg h2, if_neg h3, if_neg h4, if_neg h5]
theorem parse_digit (c : UInt8) (h : 48 ≤ c.toNat ∧ c.toNat ≤ 57) : parseInt [c] = (((c.toNat - 48 : Nat) : Int), true) := by
  refine parse_spec [c] _ ?_ (by simp; split <;> omega)
  rw [itoa_one _ (by omega)]
  have e : 48 + (c.toNat - 48) = c.toNat := by omega
  rw [e]; simp
theorem parse_other (c : UInt8) (h : ¬ (48 ≤ c.toNat ∧ c.toNat ≤ 57)) : parseInt [c] = (0, false) := by
  have hk : parseOk [c] = false := by
    cases hp : parseOk [c] with
    | false => rfl
    | true =>
      have h1 := (parse_some [c] hp).1
      have h0 : (sc ([c].take 11)) = (0, 0) := by
        show scStep (0, 0) c = (0, 0)
        unfold scStep; rw [if_neg h]
      have hc : cand [c] = 0 := by
        unfold cand; rw [h0]; split <;> rfl
      rw [hc] at h1
      have h2 := itoa_one 0 (by decide)
      have h3 : ([UInt8.ofNat (48 + 0)] : List UInt8) = [c] := h2.symm.trans h1
      injection h3 with h3
      rw [← h3] at h
      exact absurd ⟨by decide, by decide⟩ h
  unfold parseInt; rw [hk]; rfl
theorem term_digit (c : UInt8) (h : 48 ≤ c.toNat ∧ c.toNat ≤ 57) : termIs c = true ∧ -1 - ((c.toNat - 48 : Nat) : Int) = termOf c := by
  have e : termOf c = 47 - (c.toNat : Int) := by unfold termOf; rw [if_pos h]
  exact ⟨decide_eq_true (by omega), by omega⟩
theorem term_five (c : UInt8) (h : termOf c = 5) : termIs c = false ∧ ¬ (48 ≤ c.toNat ∧ c.toNat ≤ 57) := by
  refine ⟨decide_eq_false (by omega), fun hd => ?_⟩
  unfold termOf at h
  rw [if_pos hd] at h
  omega

def depPcs (s : List UInt8) : List (List UInt8) := cutN 59 (min 6 (s.length + 1) - 1) s
def implDeps (l : List Rel) (P : List (List UInt8)) : Option (List Dep) := match toDeps l P with
  | some xs => if depsOk l xs = true then some xs else none
  | none => none
theorem implDeps_eq (l : List Rel) (s : List UInt8) (h0 : s ≠ []) : parseDeps l s = implDeps l (depPcs s) := by
  cases hp : parseDeps l s with
  | some xs =>
    have hp2 := hp
    obtain ⟨h1, h2⟩ := (parseDeps_iff l s xs).1 hp
    have hne : xs ≠ [] := by rintro rfl; exact h0 h2.symm
    have hc : cutA 59 s = xs.map (fmtDep l) := by rw [← h2]; exact deps_cut hne
    have hl := (depsOk_mem h1).2.1
    have e : depPcs s = cutA 59 s := by
      unfold depPcs
      have h3 := cutA_len 59 s
      refine cutN_all 59 _ s ?_
      have h4 : (cutA 59 s).length = xs.length := by rw [hc, List.length_map]
      omega
    rw [parseDeps_end h0 (xs := xs) (by rw [hc]; exact toDeps_fmt xs (depsOk_mem h1).2.2)] at hp2
    unfold implDeps
    rw [e, hc, toDeps_fmt xs (depsOk_mem h1).2.2]
    exact (if_pos h1).symm
  | none =>
    unfold implDeps
    cases ht : toDeps l (depPcs s) with
    | none => rfl
    | some xs =>
      show none = if depsOk l xs = true then some xs else none
      cases hd : depsOk l xs with
      | false => rfl
      | true =>
        have hb := (toDeps_back _ _ ht).1
        have hj : joinDeps l xs = s := by
          unfold joinDeps
          rw [hb]
          exact join_cutN 59 _ s
        rw [(parseDeps_iff l s xs).2 ⟨hd, hj⟩] at hp
        cases hp
theorem implDeps_stop {l : List Rel} {P : List (List UInt8)} (k : Nat) (hk : k < P.length) (h : parseDep l P[k] = none) : implDeps l P = none := by
  have e : P = P.take k ++ P[k] :: P.drop (k + 1) := by rw [← List.drop_eq_getElem_cons hk, List.take_append_drop]
  unfold implDeps
  rw [e, toDeps_none _ _ _ h]
theorem implDeps_end {l : List Rel} {P : List (List UInt8)} {xs : List Dep} (h : toDeps l P = some xs) : implDeps l P = if depsOk l xs = true then some xs else none := by
  unfold implDeps; rw [h]
theorem depSz_ok {l : List Rel} {x : Dep} (h : depOk l x = true) : Dependency_sz x ≤ 16 := by
  have hb := depOk_body h
  have h1 := side_sz hb.2.2 hb.2.1
  unfold Dependency_sz
  cases hg : x.egd with
  | true =>
    have hh := (depOk_egd h hg).1
    rw [hh]
    have : AtomS_sz ([] : List Atm) = 0 := rfl
    omega
  | false =>
    have hh := depOk_tgd h hg
    have h2 := side_sz hh.2.2.1 hh.2.1
    omega
theorem depsSz_ok {l : List Rel} (xs : List Dep) (h : ∀ x ∈ xs, depOk l x = true) : depsLen xs ≤ 16 * xs.length := by
  induction xs with
  | nil => exact Nat.le_refl _
  | cons x t ih =>
    have h1 := depSz_ok (h x (by simp))
    have h2 := ih (fun y hy => h y (by simp [hy]))
    show Dependency_sz x + depsLen t ≤ _
    simp only [List.length_cons]; omega

end Go.Proofs.YtmecdjincmkofaaGreatDoor
