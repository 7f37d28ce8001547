/-
  Walks and plain lemmas for the laws of this seat: what single Go functions return, for every argument.
-/
import Derived.Test.YtmecdjincmkofaaGreatDoorShelf
import Derived.Lib.SplitLaws
import Derived.Test.YtmecdjincmkofaaGreatDoorBase
import Derived.Test.YtmecdjincmkofaaGreatDoorFmtS
import Derived.Test.YtmecdjincmkofaaGreatDoorMem
import Derived.Test.YtmecdjincmkofaaGreatDoorTyInst
import Derived.Test.YtmecdjincmkofaaGreatDoorCut
import Derived.Test.YtmecdjincmkofaaGreatDoorFmtF
import Derived.Test.YtmecdjincmkofaaGreatDoorRelsI
import Derived.Test.YtmecdjincmkofaaGreatDoorParInst
import Derived.Test.YtmecdjincmkofaaGreatDoorParInstS
import Derived.Test.YtmecdjincmkofaaGreatDoorParFI
import Derived.Test.YtmecdjincmkofaaGreatDoorValInI
namespace Go.Proofs.YtmecdjincmkofaaGreatDoor
open Go.RowKit

def toksF (l : List Rel) : List (List UInt8) → Option (List Fct)
  | [] => some []
  | t :: r => match parseFact l t, toksF l r with
    | some p, some m => some (⟨p.1, p.2⟩ :: m)
    | _, _ => none
theorem toksF_none (l : List Rel) (a b : List (List UInt8)) (t : List UInt8) (h : parseFact l t = none) : toksF l (a ++ t :: b) = none := by
  induction a with
  | nil => simp [toksF, h]
  | cons x a ih =>
    rw [List.cons_append, toksF, ih]
    cases parseFact l x <;> rfl
theorem toksF_cons {l : List Rel} {t : List UInt8} {r : List (List UInt8)} {m : List Fct} (h : toksF l (t :: r) = some m) : ∃ p n, parseFact l t = some p ∧ toksF l r = some n ∧ m = ⟨p.1, p.2⟩ :: n := by
  rw [toksF] at h
  cases hp : parseFact l t with
  | none => rw [hp] at h; cases h
  | some p =>
    cases hn : toksF l r with
    | none => rw [hp, hn] at h; cases h
    | some n => rw [hp, hn] at h; cases h; exact ⟨p, n, rfl, rfl, rfl⟩
theorem toksF_snoc (l : List Rel) (a : List (List UInt8)) (t : List UInt8) (m : List Fct) (p : Int × List Int) (h : toksF l a = some m) (ht : parseFact l t = some p) : toksF l (a ++ [t]) = some (m ++ [⟨p.1, p.2⟩]) := by
  induction a generalizing m with
  | nil => simp [toksF] at h; subst h; simp [toksF, ht]
  | cons x a ih =>
    obtain ⟨q, n, h1, h2, rfl⟩ := toksF_cons h
    rw [List.cons_append, toksF, h1, ih n h2]; rfl
theorem toksF_next (l : List Rel) (P : List (List UInt8)) (k : Nat) (hk : k < P.length) (m : List Fct) (p : Int × List Int) (h : toksF l (P.take k) = some m) (ht : parseFact l P[k] = some p) : toksF l (P.take (k + 1)) = some (m ++ [⟨p.1, p.2⟩]) := by
  rw [List.take_succ_eq_append_getElem hk]; exact toksF_snoc l _ _ m p h ht
theorem toksF_stop (l : List Rel) (P : List (List UInt8)) (k : Nat) (hk : k < P.length) (ht : parseFact l P[k] = none) : toksF l P = none := by
  have e : P = P.take k ++ P[k] :: P.drop (k + 1) := by rw [← List.drop_eq_getElem_cons hk, List.take_append_drop]
  rw [e]; exact toksF_none l _ _ _ ht
theorem toksF_back (l : List Rel) (a : List (List UInt8)) (m : List Fct) (h : toksF l a = some m) : (m.map fun f => fmtFact l f.rel f.vals) = a := by
  induction a generalizing m with
  | nil => simp [toksF] at h; subst h; rfl
  | cons t r ih =>
    obtain ⟨p, n, h1, h2, rfl⟩ := toksF_cons h
    rw [List.map_cons, ih n h2]
    have := ((parseFact_iff l t p.1 p.2).1 h1).2
    rw [this]
theorem toksF_fmt (l : List Rel) (fs : List Fct) (h : ∀ f ∈ fs, factOk l f.rel f.vals = true) : toksF l (fs.map fun f => fmtFact l f.rel f.vals) = some fs := by
  induction fs with
  | nil => rfl
  | cons f t ih =>
    have h1 := (parseFact_iff l (fmtFact l f.rel f.vals) f.rel f.vals).2 ⟨h f (by simp), rfl⟩
    rw [List.map_cons, toksF, h1, ih (fun g hg => h g (by simp [hg]))]
def partsF (b : List UInt8) : List (List UInt8) := cutN 32 (min 31 (b.length + 1) - 1) b
def factsI (l : List Rel) (b : List UInt8) : Option (List Fct) := if b = [] then some [] else toksF l (partsF b)
theorem partsF_all (b : List UInt8) (h : (partsF b).length ≤ 30) : partsF b = cutA 32 b := by
  unfold partsF at *
  rw [cutN_len] at h
  have := cutA_len 32 b
  exact cutN_all 32 _ b (by omega)
theorem partsF_small (b : List UInt8) (h : (cutA 32 b).length ≤ 30) : partsF b = cutA 32 b := by
  unfold partsF
  have := cutA_len 32 b
  exact cutN_all 32 _ b (by omega)
theorem partsF_len (b : List UInt8) : (partsF b).length ≤ 31 := by
  unfold partsF; rw [cutN_len]; omega
/-- what the program takes for an instance -/
def implInst (s : List UInt8) : Option Inst := if (Lib.cut s [59]).2.2 = true ∧ (parsePair (Lib.cut s [59]).1).2 = true then
  match factsI (parsePair (Lib.cut s [59]).1).1 (Lib.cut s [59]).2.1 with
  | some fs => if instOk ⟨(parsePair (Lib.cut s [59]).1).1, fs⟩ then some ⟨(parsePair (Lib.cut s [59]).1).1, fs⟩ else none
  | none => none else none
theorem fmtRels_nil : fmtRels [] = [] := rfl
theorem parsePair_is {a : List UInt8} (h : (parsePair a).2 = true) : fmtRels (parsePair a).1 = a := by
  by_cases h0 : a = []
  · subst h0; rfl
  · cases hp : parseRels a with
    | none => rw [parsePair_none h0 hp] at h; cases h
    | some l => rw [parsePair_some h0 hp]; exact ((parse_iff a h0 l).1 hp).2
theorem parsePair_ok {l : List Rel} (h : validRels l = true) : (parsePair (fmtRels l)).2 = true := by
  by_cases h0 : fmtRels l = []
  · rw [h0]; rfl
  · rw [parsePair_some h0 ((parse_iff _ h0 l).2 ⟨h, rfl⟩)]
theorem implInst_iff (s : List UInt8) (x : Inst) : implInst s = some x ↔ instOk x = true ∧ fmtInst x = s := by
  constructor
  · intro h
    unfold implInst at h
    by_cases hm : (59 : UInt8) ∈ s
    · obtain ⟨p, q, hp, hs⟩ := split_at 59 s hm
      rw [hs, cut_app 59 p q hp] at h
      simp only [true_and] at h
      split at h
      · rename_i hok
        cases hf : factsI (parsePair p).1 q with
        | none => rw [hf] at h; cases h
        | some fs =>
          rw [hf] at h
          simp only at h
          split at h
          · rename_i ho
            cases h
            refine ⟨ho, ?_⟩
            rw [fmtInst_yes ho, hs]
            simp only [parsePair_is hok]
            congr 2
            unfold factsI at hf
            split at hf
            · rename_i hq; cases hf; rw [hq]; rfl
            · have hb := toksF_back _ _ _ hf
              have h30 := (instOk_parts ho).2.2
              have hl : (partsF q).length ≤ 30 := by rw [← hb, List.length_map]; exact h30
              rw [partsF_all q hl] at hb
              unfold joinFacts
              rw [hb, join_cutA]
          · cases h
      · cases h
    · rw [cut_none 59 s hm] at h
      simp at h
  · rintro ⟨ho, hf⟩
    have hv := (instOk_parts ho).2.1
    have e := fmtInst_yes ho
    rw [hf] at e
    unfold implInst
    rw [e, cut_app 59 _ _ (fmtRels_semi _)]
    simp only [parsePair_fmt _ hv, parsePair_ok hv, and_self, if_true]
    have hfa : factsI x.rels (joinFacts x.rels x.facts) = some x.facts := by
      unfold factsI
      split
      · rename_i h0; rw [joinFacts_nil (instOk_fact ho) h0]
      · rename_i h0
        have hne : x.facts ≠ [] := by intro hh; rw [hh] at h0; exact h0 rfl
        have hc := facts_cut x.rels x.facts hne
        rw [partsF_small _ (by rw [hc, List.length_map]; exact (instOk_parts ho).2.2), hc]
        exact toksF_fmt _ _ (instOk_fact ho)
    rw [hfa]
    simp only [ho, if_true]
theorem implInst_eq (s : List UInt8) : implInst s = parseInst s := by
  cases h : implInst s with
  | some x => exact ((parseInst_iff s x).2 ((implInst_iff s x).1 h)).symm
  | none =>
    cases h2 : parseInst s with
    | none => rfl
    | some x => rw [(implInst_iff s x).2 ((parseInst_iff s x).1 h2)] at h; cases h

/-- the pieces between spaces, at most thirty-one -/
def GivesSpaces (s : ByteArray) (w : World) (e : Ending) (w' : World) : Prop := ∃ v L, e = .returned v ∧ dataOf L = partsF s.data.toList ∧ StrsAt w' w'.heap.size v L ∧ Below w.heap.size w w'
theorem splitX_any (s : ByteArray) (w : World) (hs : s.size ≤ 1048576) (hm : MaxL w) :
    Calls Tryz.prog 74 #[.string s, .string ⟨#[32]⟩, .int .i64 31] w (GivesSpaces s w) := by
  obtain ⟨m, hm⟩ := hm
  have h1 : ByteArray.size ⟨#[32]⟩ = 1 := rfl
  refine (Tryz.strings_SplitN s ⟨#[32]⟩ 31 m w (by omega) hm (by omega) (by omega) (by omega)).mono ?_
  rintro e w' ⟨rfl, rfl⟩
  have hlen := Lib.splitB_length_le ⟨#[32]⟩ 0 (min 31 (s.size + 1) - 1) s
  refine ⟨_, Lib.splitB ⟨#[32]⟩ 0 (min 31 (s.size + 1) - 1) s, rfl, ?_, ?_, (Below.refl _ _).alloc (Nat.le_refl _) _⟩
  · unfold partsF
    rw [← splitK_cutN]
    have e := Lib.splitB_data ⟨#[32]⟩ 0 (min 31 (s.size + 1) - 1) s
    simpa [dataOf] using e
  · generalize Lib.splitB ⟨#[32]⟩ 0 (min 31 (s.size + 1) - 1) s = L at *
    refine ⟨_, _, rfl, by omega, by unfold maxLen; omega, fun _ => ⟨w.heap.size, 0, rfl, by simp, fun j u hu => ?_⟩, fun h => by cases h⟩
    rw [Nat.zero_add, box_cell]
    rw [flat_str] at hu
    have hj := (List.getElem?_eq_some_iff.1 hu).1
    unfold Lib.cellsOf
    rw [List.getElem?_toArray, List.getElem?_append_left hj]
    exact hu
theorem cutX_any (s : ByteArray) (w : World) (hs : s.size ≤ 1048576) (hm : MaxL w) :
    Calls Tryz.prog 86 #[.string s, .string ⟨#[59]⟩] w fun e w' => e = .returned (.tuple #[.string ⟨(Lib.cut s.data.toList [59]).1.toArray⟩, .string ⟨(Lib.cut s.data.toList [59]).2.1.toArray⟩, .bool (Lib.cut s.data.toList [59]).2.2]) ∧ Below w.heap.size w w' := by
  obtain ⟨m, hm⟩ := hm
  refine (Tryz.strings_Cut s ⟨#[59]⟩ m w (by omega) hm).mono ?_
  rintro e w' ⟨rfl, n, rfl⟩
  exact ⟨rfl, rfl, rfl, rfl, Nat.le_refl _, fun _ _ => rfl⟩

/-- append of many elements, read from a slice; of these alone it is asked that each cell be one cell -/
theorem wp_own_appsM {P : Program} {α : Type} (f : α → List Value) (k bytes : Nat) (hf : ∀ x, (f x).length = k) {ops : Array Oper} {rest : List Oper} {o : Oper} {a : Act} {Q : Exit → Act → World → Prop} {B : Nat} {v : Value} {l r : List α} {w : World} {e t : TypeId} {z : Value}
    (hone : ∀ x ∈ r, ∀ u ∈ f x, u.oneCell' = true) (ht : P.underlying t = some (.slice e)) (hinfo : (P.info? e).map (fun i => (i.zero, i.size, i.bytes)) = some (some z, k, bytes)) (hzs : z.cells.size = k) (hk : 0 < k)
    (hO : w.ownsRow B e k v l.length (l.flatMap f)) (hgd : o.guard = none) (s x : Operand) (ho : o.op = .call { callee := .builtin .append, args := #[s, x], argTypes := #[t, t] }) (hs : a.eval s = v) (b off m c : Nat) (hx : a.eval x = .slice (some ⟨b, off, none⟩) m c) (hm : r.length = m) (hr : ∀ j u, (r.flatMap f)[j]? = some u → w.cell? ⟨b, off + j, none⟩ = some u)
    (hlen : (l.length + r.length) * bytes ≤ 140737488355328) (hl2 : l.length + r.length < 140737488355328) (hbase : B ≤ w.heap.size)
    (h : ∀ v' w', w'.ownsRow B e k v' (l ++ r).length ((l ++ r).flatMap f) → Below B w w' → w.grownBy w' v.ownBlock → (v'.ownBlock = v.ownBlock ∨ v'.ownBlock = some w.heap.size) → wpList P ops Q rest (a.put o.dst v') w') :
    wpList P ops Q (o :: rest) a w := by
  subst hm
  obtain ⟨i0, hi, hz0, hz1, hz2⟩ := info_parts hinfo
  have hcell : ∀ j u, (r.flatMap f)[j]? = some u → w.cell? ((⟨b, off, none⟩ : Addr).add j) = some u := by
    intro j u hu
    have e1 : (⟨b, off, none⟩ : Addr).add j = ⟨b, off + j, none⟩ := by unfold Addr.add; split <;> simp_all
    rw [e1]; exact hr j u hu
  refine wpList_append_own_at _ hgd s x t ho B e i0 z k bytes ht hi hz0 hz1 hz2 hzs hk v l.length (l.flatMap f) hs hO ⟨b, off, none⟩ r.length c (r.flatMap f) hx (flat_len f k hf r) hcell (fun u hu => by obtain ⟨y, hy1, hy⟩ := List.mem_flatMap.1 hu; exact hone y hy1 u hy) (by unfold maxLen; omega) hlen hbase ?_
  intro v' w' h2 h3 _ h5
  refine h v' w' ?_ ((Below.refl B w).grown h3 hbase (fun g hg => (hO.lt g hg).1)) h3 h5
  rw [List.length_append, List.flatMap_append]
  exact h2

def GivesFactsI (l : List Rel) (b : ByteArray) (w : World) (e : Ending) (w' : World) : Prop := ∃ V, e = .returned (.tuple #[V, .bool (factsI l b.data.toList).isSome]) ∧ FactS_own w.heap.size w'.heap.size V ((factsI l b.data.toList).getD []) w' ∧ Below w.heap.size w w'
theorem facts_nil (B C : Nat) (w : World) : FactS_own B C (.slice none 0 0) [] w := ⟨[], ⟨rfl, World.ownsRow_nil _ _ _ _, (fun g hg => by cases hg), (fun i h => by simp at h), List.Pairwise.nil⟩⟩
theorem pairCells_one (n : Int) (P : Option Addr) (k c : Nat) : ∀ u ∈ pairCells (n, Value.slice P k c), u.oneCell' = true := by
  intro u hu
  simp only [pairCells, List.mem_cons, List.not_mem_nil, or_false] at hu
  rcases hu with rfl | rfl <;> rfl
theorem parseFact_okN {l : List Rel} {t : ByteArray} (h : ParseFact_ok l t = false) : parseFact l t.data.toList = none := by
  unfold ParseFact_ok at h
  cases hp : parseFact l t.data.toList with
  | none => rfl
  | some p => rw [hp] at h; cases h
theorem parseFact_okY {l : List Rel} {t : ByteArray} (h : ParseFact_ok l t = true) : ∃ p, parseFact l t.data.toList = some p ∧ ParseFact_r0 l t = ⟨p.1, p.2⟩ := by
  unfold ParseFact_ok at h
  cases hp : parseFact l t.data.toList with
  | none => rw [hp] at h; cases h
  | some p => exact ⟨p, rfl, (parseFact_yes (r := p.1) (vs := p.2) hp).1⟩
set_option maxHeartbeats 3200000 in
set_option maxRecDepth 100000 in
theorem implParseFacts_any (v : Value) (l : List Rel) (s : ByteArray) (w : World) (hl : RelsAt w w.heap.size v l) (hs : s.size ≤ 1048576) (ht : Tab w) (hv : ErrVars w) (hm : MaxL w) :
    Calls Tryz.prog 87 #[v, .string s] w (GivesFactsI l s w) := by
  have HL := Lib.hid hl
  obtain ⟨A, c, rfl, -⟩ := hl
  by_cases h0 : s.data.toList = []
  · have HP := Lib.hid (show factsI l s.data.toList = some [] from if_pos h0)
    obtain rfl : s = ⟨#[]⟩ := bytes_ext h0
    clear h0
    go_enter Tryz.func87, Tryz.ntmps87
    go_wp2
    go_ret2
    exact ⟨_, by rw [HP.out]; rfl, by rw [HP.out]; exact facts_nil _ _ _, Below.refl _ _⟩
  · have hse : (s.toList == []) = false := by rw [ByteArray.toList_eq, beq_eq_false_iff_ne]; exact h0
    have HE := Lib.hid (show factsI l s.data.toList = toksF l (partsF s.data.toList) from if_neg h0)
    clear h0
    go_enter Tryz.func87, Tryz.ntmps87
    go_wp2_with fail
    refine (splitX_any s _ hs hm).mono ?_
    rintro e w1 ⟨vP, L, rfl, hL, hP, hb1⟩
    have hz1 := hb1.size
    have hLl : L.length ≤ 31 := by
      have h1 := partsF_len s.data.toList
      rw [← hL, dataOf_len] at h1; exact h1
    have HPT := Lib.hid hP
    obtain ⟨A2, c2, rfl, hc1, hc2, -⟩ := hP
    unfold maxLen at hc2
    have HLd := Lib.hid hL
    clear hL
    go_wp2
    go_loopw [6, 16] (fun o i wr => ∃ k : Nat, ∃ m Vs, k ≤ L.length ∧ i = .int .i64 k ∧ Hid (m.length = k) ∧ Hid (toksF l ((dataOf L).take k) = some m) ∧ Hid (FactSO 57 w1.heap.size wr.heap.size o Vs m wr) ∧ Below w1.heap.size w1 wr) (fun _ i _ => L.length - (intOf i).toNat)
    case atStart => exact ⟨0, [], [], by omega, rfl, Lib.hid rfl, Lib.hid rfl, Lib.hid ⟨rfl, World.ownsRow_nil _ _ _ _, (fun g hg => by cases hg), (fun i h => by simp at h), List.Pairwise.nil⟩, Below.refl _ _⟩
    case round =>
      obtain ⟨k, m, Vs, hk, rfl, hmk, HT, HO, hW⟩ := hrel
      have hz := hW.size
      have hWw := hb1.trans (hW.mono hz1)
      by_cases hlt : k < L.length
      · obtain ⟨b, off, rfl, hb, hc⟩ := StrsAt.elem (HPT.out.below hW (Nat.le_refl _)) k hlt
        have hkd : k < (dataOf L).length := by rw [dataOf_len]; exact hlt
        have HK := Lib.hid (dataOf_at L k hlt)
        have hts : L[k].size ≤ 1048576 := by
          have h1 := cutN_piece 32 (min 31 (s.data.toList.length + 1) - 1) s.data.toList (L[k].data.toList) (by have := List.getElem_mem hkd; rw [HK.out, HLd.out] at this; exact this)
          simp at h1; omega
        generalize L[k] = t at hc HK hts
        have hpf := implParseFact_any (.slice A l.length c) l t wr ((SliceAt.below HL.out hWw (Nat.le_refl _)).more hWw.size) hts (ht.below hWw) (hv.below hWw) (hm.below hWw)
        cases hok : ParseFact_ok l t with
        | false =>
          have HV := Lib.hid (show factsI l s.data.toList = none from HE.out.trans (by rw [← HLd.out]; exact toksF_stop l _ k hkd (by rw [HK.out]; exact parseFact_okN hok)))
          have HOK := Lib.hid hok
          clear hok
          go_wp2_with fail
          refine hpf.mono ?_
          rintro e w2 ⟨V, rfl, hV, hb2⟩
          rw [HOK.out]
          obtain ⟨PV, cV, rfl, -⟩ := id hV.at_
          clear hpf
          go_wp2
          go_ret2
          exact ⟨_, by rw [HV.out]; rfl, by rw [HV.out]; exact facts_nil _ _ _, hWw.trans (((hb2.alloc hb2.size _)).mono hWw.size)⟩
        | true =>
          obtain ⟨p, hp, hr0⟩ := parseFact_okY hok
          have HN := Lib.hid (toksF_next l (dataOf L) k hkd m p HT.out (by rw [HK.out]; exact hp))
          have HOK := Lib.hid hok
          have HR0 := Lib.hid hr0
          clear hok hp hr0
          go_wp2_with fail
          refine hpf.mono ?_
          rintro e w2 ⟨V, rfl, hV, hb2⟩
          rw [HOK.out, HR0.out]
          rw [HR0.out] at hV
          obtain ⟨PV, cV, rfl, -⟩ := id hV.at_
          have hz2 := hb2.size
          have HV := Lib.hid (show IntS_own wr.heap.size w2.heap.size (.slice PV p.2.length cV) p.2 w2 from IntsO.of hV)
          clear hpf hV
          obtain ⟨W4, hW4⟩ : ∃ W4, W4 = ((w2.alloc (.cells #[.int .i64 p.1, .slice PV p.2.length cV] 57)).alloc (.cells #[.int .i64 p.1, .slice PV p.2.length cV] 57)) := ⟨_, rfl⟩
          have hb4 : Below w2.heap.size w2 W4 := by rw [hW4]; exact below_more (below_more (Below.refl _ _) _) _
          have hz4 : w2.heap.size + 2 = W4.heap.size := by rw [hW4]; simp
          have hr : ∀ j u, ([(p.1, Value.slice PV p.2.length cV)].flatMap pairCells)[j]? = some u → W4.cell? ⟨w2.heap.size + 1, 0 + j, none⟩ = some u := by
            intro j u hu
            have hj : j = 0 ∨ j = 1 := by
              have := (List.getElem?_eq_some_iff.1 hu).1
              simp [pairCells] at this; omega
            rw [hW4]
            rcases hj with rfl | rfl
            · simp [pairCells] at hu; subst hu; simp [go_sem]
            · simp [pairCells] at hu; subst hu; simp [go_sem]
          have HR := Lib.hid hr
          have hbw := hb2.trans (hb4.mono hz2)
          have HO4 := Lib.hid ((HO.out.below hbw (Nat.le_refl _)))
          have HV4 := Lib.hid (HV.out.below hb4 (Nat.le_refl _))
          have hpl := pairs_len HO.out.len
          have hml : m.length ≤ 31 := by have := hmk.out; omega
          have HBW := Lib.hid hbw
          have hz24 : w1.heap.size ≤ W4.heap.size := by omega
          clear hr hb4 hbw
          go_wp2_with (at_builtin; rw [← hW4]; refine wp_own_appsM pairCells 2 32 pairCells_len (r := [(p.1, Value.slice PV p.2.length cV)]) (fun x hx => by rw [List.mem_singleton.1 hx]; exact pairCells_one _ _ _ _) Tryz.underlying38 infoFct rfl (by decide) HO4.out.row rfl _ _ rfl rfl (w2.heap.size + 1) 0 1 1 rfl rfl HR.out (by simp; omega) (by simp; omega) hz24 ?_; intro v5 w5 hrow hB5 hg5 _)
          have hFS := FactSO.snoc (e := 57) (by decide) (x := ⟨p.1, p.2⟩) (C' := w5.heap.size) HO4.out (by have := hB5.size; have := HBW.out.size; omega) hrow hg5 (row_inside hrow (Nat.le_refl _)) (HV4.out.mono hz (by have := hB5.size; omega)) (fun i hi g h1 h2 => by
            have q1 : wr.heap.size ≤ g := (HV.out.1.lt g h2).1
            have q2 := (HO.out.el i (by have := HO.out.len; omega) hi).2 g h1
            omega)
          have HFS := Lib.hid hFS
          have HB5 := Lib.hid hB5
          clear hFS hrow hg5 hB5
          go_wp2
          go_roundw
          case rel => exact ⟨k + 1, _, _, by omega, by go_num, Lib.hid (by simp [hmk.out]), HN, HFS, hW.trans ((HBW.out.mono hz).trans HB5.out)⟩
          case measure => simp [intOf]; omega
      · obtain rfl : k = L.length := by omega
        have HV := Lib.hid (show factsI l s.data.toList = some m from HE.out.trans (by rw [← HLd.out]; have := HT.out; rwa [List.take_of_length_le (by rw [dataOf_len]; exact Nat.le_refl _)] at this))
        have hOm := HO.out.mono (B' := w.heap.size) (C' := wr.heap.size) hz1 (Nat.le_refl _)
        have HOm := Lib.hid hOm
        obtain ⟨A5, c5, hv5, -⟩ := (HO.out.at_ (Nat.le_refl _)).form
        subst hv5
        clear hOm
        go_wp2
        go_ret2
        exact ⟨_, by rw [HV.out]; rfl, by rw [HV.out]; exact ⟨_, HOm.out⟩, hWw⟩
theorem cut_le1 (s p : List UInt8) : (Lib.cut s p).1.length ≤ s.length := by
  unfold Lib.cut; split
  · rw [List.length_take]; omega
  · exact Nat.le_refl _
theorem factsI_small {l : List Rel} {b : List UInt8} {fs : List Fct} (h : factsI l b = some fs) : fs.length ≤ 31 ∧ ∀ f ∈ fs, factOk l f.rel f.vals = true := by
  unfold factsI at h
  split at h
  · cases h; simp
  · have hb := toksF_back _ _ _ h
    refine ⟨by have := partsF_len b; rw [← hb, List.length_map] at this; exact this, ?_⟩
    have key : ∀ (a : List (List UInt8)) (m : List Fct), toksF l a = some m → ∀ f ∈ m, factOk l f.rel f.vals = true := by
      intro a
      induction a with
      | nil => intro m hm; simp [toksF] at hm; subst hm; simp
      | cons t r ih =>
        intro m hm f hf
        obtain ⟨p, n, h1, h2, rfl⟩ := toksF_cons hm
        rcases List.mem_cons.1 hf with rfl | hf
        · exact ((parseFact_iff l t p.1 p.2).1 h1).1
        · exact ih n h2 f hf
    exact key _ _ h
theorem facts_wf_of {l : List Rel} {fs : List Fct} (hl : l.length ≤ 6) (h : ∀ f ∈ fs, factOk l f.rel f.vals = true) : FactS_wf fs := fun i hi => by
  obtain ⟨_, h2, _, h4⟩ := factOk_parts (h fs[i] (List.getElem_mem hi))
  refine ⟨by omega, fun k hk => ?_⟩
  have := h4 k hk
  unfold validV at this
  simp at this; omega
theorem implInst_no {s : List UInt8} (h : (Lib.cut s [59]).2.2 = false ∨ (parsePair (Lib.cut s [59]).1).2 = false) : parseInst s = none := by
  rw [← implInst_eq]; unfold implInst
  rw [if_neg (by rcases h with h | h <;> rw [h] <;> simp)]
theorem implInst_facts {s : List UInt8} (h1 : (Lib.cut s [59]).2.2 = true) (h2 : (parsePair (Lib.cut s [59]).1).2 = true) (h : factsI (parsePair (Lib.cut s [59]).1).1 (Lib.cut s [59]).2.1 = none) : parseInst s = none := by
  rw [← implInst_eq]; unfold implInst
  rw [if_pos ⟨h1, h2⟩, h]
theorem implInst_end {s : List UInt8} {fs : List Fct} (h1 : (Lib.cut s [59]).2.2 = true) (h2 : (parsePair (Lib.cut s [59]).1).2 = true) (h : factsI (parsePair (Lib.cut s [59]).1).1 (Lib.cut s [59]).2.1 = some fs) :
    parseInst s = if instOk ⟨(parsePair (Lib.cut s [59]).1).1, fs⟩ then some ⟨(parsePair (Lib.cut s [59]).1).1, fs⟩ else none := by
  rw [← implInst_eq]; unfold implInst
  rw [if_pos ⟨h1, h2⟩, h]
set_option maxHeartbeats 3200000 in
set_option maxRecDepth 100000 in
theorem implParseInstance_any (s : ByteArray) (w : World) (hs : s.size ≤ 1048576) (ht : Tab w) (hv : ErrVars w) (hm : MaxL w) :
    Calls Tryz.prog 20 #[.string s] w (GivesInst s w) := by
  have h3 : s.data.toList.length = s.size := by simp
  have hA : ByteArray.size ⟨(Lib.cut s.data.toList [59]).1.toArray⟩ ≤ 1048576 := by rw [size_mk]; have h1 := cut_le1 s.data.toList [59]; omega
  have hB : ByteArray.size ⟨(Lib.cut s.data.toList [59]).2.1.toArray⟩ ≤ 1048576 := by rw [size_mk]; have h1 := cut_le s.data.toList [59]; omega
  clear h3
  obtain ⟨E, hEq⟩ : ∃ E, E = (w.alloc (.cells #[.slice none 0 0, .slice none 0 0] 40)) := ⟨_, rfl⟩
  have hE : Below w.heap.size w E := by rw [hEq]; exact below_more (Below.refl _ _) _
  have HE := Lib.hid (show w.heap.size + 1 = E.heap.size by rw [hEq]; simp)
  have R0 := Lib.hid (show E.cell? ⟨w.heap.size, 0, none⟩ = some (.slice none 0 0) by rw [hEq]; simp [go_sem])
  have R1 := Lib.hid (show E.cell? ⟨w.heap.size, 1, none⟩ = some (.slice none 0 0) by rw [hEq]; simp [go_sem])
  have RZ := fun o => Lib.hid (show E.frozen? ⟨w.heap.size, o, none⟩ = false by rw [hEq]; simp [go_sem])
  have hcut := cutX_any s E hs (hm.below hE)
  rw [hEq] at hcut
  obtain ⟨a, ha⟩ : ∃ a, a = (Lib.cut s.data.toList [59]).1 := ⟨_, rfl⟩
  obtain ⟨b, hb⟩ : ∃ b, b = (Lib.cut s.data.toList [59]).2.1 := ⟨_, rfl⟩
  obtain ⟨fd, hf⟩ : ∃ fd, fd = (Lib.cut s.data.toList [59]).2.2 := ⟨_, rfl⟩
  rw [← ha, ← hb, ← hf] at hcut
  rw [← ha] at hA
  rw [← hb] at hB
  have HNO := Lib.hid (fun h => implInst_no (s := s.data.toList) h)
  have HFA := Lib.hid (fun h1 h2 h => implInst_facts (s := s.data.toList) h1 h2 h)
  have HEN := Lib.hid (fun fs h1 h2 h => implInst_end (s := s.data.toList) (fs := fs) h1 h2 h)
  rw [← ha, ← hf] at HNO
  rw [← ha, ← hb, ← hf] at HFA HEN
  have hpr := fun (W : World) (h : Below w.heap.size w W) => implParseRelations_any ⟨a.toArray⟩ W hA (ht.below h) (hv.below h) (hm.below h)
  have hsm := parsePair_small a
  clear ha hb hf
  go_enter Tryz.func20, Tryz.ntmps20
  go_wp2_with fail
  refine hcut.mono ?_
  rintro e w1 ⟨rfl, hb1⟩
  rw [← hEq] at hb1
  have hW1 := hE.trans (hb1.mono hE.size)
  clear hcut hEq
  go_wp2_with fail
  refine (hpr _ hW1).mono ?_
  rintro e w2 ⟨V1, rfl, hR2, hb2⟩
  rw [show (⟨a.toArray⟩ : ByteArray).data.toList = a from rfl] at hR2 ⊢
  have hEW2 := hb1.trans (hb2.mono hb1.size)
  have hW2 := hE.trans (hEW2.mono hE.size)
  have hz1 : w.heap.size < w1.heap.size := by have h1 := hb1.size; have h2 := HE.out; omega
  have hz2 := hb2.size
  obtain ⟨P1, c1, rfl, -⟩ := id hR2.at_
  have HR2 := Lib.hid (RelationS_own.of hR2)
  clear hpr hR2 hb1
  by_cases hbad : fd = false ∨ (parsePair a).2 = false
  · have HV := Lib.hid (parseInst_no (s := s) (HNO.out hbad))
    have r0 := (hEW2.cell (p := ⟨w.heap.size, 0, none⟩) (by show w.heap.size < _; have := HE.out; omega)).trans R0.out
    have r1 := (hEW2.cell (p := ⟨w.heap.size, 1, none⟩) (by show w.heap.size < _; have := HE.out; omega)).trans R1.out
    have rz := fun o => (hEW2.frozen (p := ⟨w.heap.size, o, none⟩) (by show w.heap.size < _; have := HE.out; omega)).trans (RZ o).out
    have hfin := (hW2.setCell (p := ⟨w.heap.size, 0, none⟩) (Nat.le_refl _) (.slice none 0 0)).setCell (p := ⟨w.heap.size, 1, none⟩) (Nat.le_refl _) (.slice none 0 0)
    have HFin := Lib.hid hfin
    clear HNO HFA HEN hfin hEW2 hW2 hW1 hE
    by_cases hf0 : fd = false
    · subst hf0
      clear hbad
      go_wp2
      refine bodyPost_ret (v := .tuple #[.agg #[.slice none 0 0, .slice none 0 0], .bool false]) (by simp [results, Tryz.results20, go_sem, r0, r1]) rfl ⟨_, by rw [HV.out.2], by rw [HV.out.1]; exact instOwn_nil _ _ _, HFin.out⟩
    · have hf1 : fd = true := by cases fd; exact absurd rfl hf0; rfl
      have hp0 := hbad.resolve_left hf0
      subst hf1
      rw [hp0]
      clear hbad hp0 hf0
      go_wp2
      refine bodyPost_ret (v := .tuple #[.agg #[.slice none 0 0, .slice none 0 0], .bool false]) (by simp [results, Tryz.results20, go_sem, r0, r1]) rfl ⟨_, by rw [HV.out.2], by rw [HV.out.1]; exact instOwn_nil _ _ _, HFin.out⟩
  · have hf1 : fd = true := by cases fd; exact absurd (.inl rfl) hbad; rfl
    have hp1 : (parsePair a).2 = true := by
      cases h : (parsePair a).2 with
      | true => rfl
      | false => exact absurd (.inr h) hbad
    subst hf1
    rw [hp1]
    have HFA' := Lib.hid (HFA.out rfl hp1)
    have HEN' := Lib.hid (fun fs => HEN.out fs rfl hp1)
    clear hbad HNO HFA HEN hp1
    generalize (parsePair a).1 = rl at *
    have hpf := implParseFacts_any (.slice P1 rl.length c1) rl ⟨b.toArray⟩ w2 (HR2.out.at_ (Nat.le_refl _)) hB (ht.below hW2) (hv.below hW2) (hm.below hW2)
    have HEW2 := Lib.hid hEW2
    clear hEW2 hW1
    go_wp2_with fail
    refine hpf.mono ?_
    rintro e w3 ⟨V2, rfl, hF3, hb3⟩
    rw [show (⟨b.toArray⟩ : ByteArray).data.toList = b from rfl] at hF3 ⊢
    have hEW3 := HEW2.out.trans (hb3.mono HEW2.out.size)
    have hW3 := hE.trans (hEW3.mono hE.size)
    have hz3 := hb3.size
    have HR3 := Lib.hid (HR2.out.below hb3 (Nat.le_refl _))
    clear hpf hb3 hW2
    cases hfs : factsI rl b with
    | none =>
      have HV := Lib.hid (parseInst_no (s := s) (HFA'.out hfs))
      rw [hfs] at hF3
      obtain ⟨Q3, d3, rfl, -⟩ := (hF3.at_ (Nat.le_refl _)).form
      have hb4 : Below w3.heap.size w3 (w3.alloc (.cells #[.slice P1 rl.length c1, .slice Q3 0 d3] 40)) := below_more (Below.refl _ _) _
      have hE4 := hEW3.trans (hb4.mono hEW3.size)
      have r0 := (hE4.cell (p := ⟨w.heap.size, 0, none⟩) (by show w.heap.size < _; have := HE.out; omega)).trans R0.out
      have r1 := (hE4.cell (p := ⟨w.heap.size, 1, none⟩) (by show w.heap.size < _; have := HE.out; omega)).trans R1.out
      have rz := fun o => (hE4.frozen (p := ⟨w.heap.size, o, none⟩) (by show w.heap.size < _; have := HE.out; omega)).trans (RZ o).out
      have HFin := Lib.hid (((hE.trans (hE4.mono hE.size)).setCell (p := ⟨w.heap.size, 0, none⟩) (Nat.le_refl _) (.slice none 0 0)).setCell (p := ⟨w.heap.size, 1, none⟩) (Nat.le_refl _) (.slice none 0 0))
      clear hF3 hb4 hE4 hEW3 hW3 hE HFA' HEN' hfs
      go_wp2
      refine bodyPost_ret (v := .tuple #[.agg #[.slice none 0 0, .slice none 0 0], .bool false]) (by simp [results, Tryz.results20, go_sem, r0, r1]) rfl ⟨_, by rw [HV.out.2], by rw [HV.out.1]; exact instOwn_nil _ _ _, HFin.out⟩
    | some fs =>
      have hsf := factsI_small hfs
      have HEN2 := Lib.hid (HEN'.out fs hfs)
      rw [hfs] at hF3
      have hF3' : FactS_own w2.heap.size w3.heap.size V2 fs w3 := hF3
      obtain ⟨Q3, d3, rfl, -⟩ := (hF3'.at_ (Nat.le_refl _)).form
      obtain ⟨W4, hW4⟩ : ∃ W4, W4 = (w3.alloc (.cells #[.slice P1 rl.length c1, .slice Q3 fs.length d3] 40)) := ⟨_, rfl⟩
      have hb4 : Below w3.heap.size w3 W4 := by rw [hW4]; exact below_more (Below.refl _ _) _
      have hz4 : w3.heap.size < W4.heap.size := by rw [hW4]; simp
      have Y0 := Lib.hid (show W4.cell? ⟨w3.heap.size, 0, none⟩ = some (.slice P1 rl.length c1) by rw [hW4]; simp [go_sem])
      have Y1 := Lib.hid (show W4.cell? ⟨w3.heap.size, 1, none⟩ = some (.slice Q3 fs.length d3) by rw [hW4]; simp [go_sem])
      have HR4 := Lib.hid (HR3.out.below hb4 hz3)
      have HF4 := Lib.hid (hF3'.below hb4 (Nat.le_refl _))
      have hE4 := hEW3.trans (hb4.mono hEW3.size)
      have HE4 := Lib.hid hE4
      have hiv := fun (q : Bool) (hq : instOk ⟨rl, fs⟩ = q) => implIsValidInstance_at ⟨rl, fs⟩ q hq (.agg #[.slice P1 rl.length c1, .slice Q3 fs.length d3]) W4 ⟨_, _, rfl, HR4.out.at_ (by omega), HF4.out.at_ (by omega)⟩ ⟨hsm.2, facts_wf_of hsm.1 hsf.2⟩
      rw [hW4] at hiv
      clear hF3 hF3' hb4 hE4 hEW3 hW3 HFA' HEN' hfs hsf hsm
      cases ho : instOk ⟨rl, fs⟩ with
      | false =>
        have HV := Lib.hid (parseInst_no (s := s) (HEN2.out.trans (if_neg (by rw [ho]; simp))))
        replace hiv := hiv false ho
        clear ho
        go_wp2_with fail
        refine hiv.mono ?_
        rintro e w5 ⟨rfl, hb5⟩
        rw [← hW4] at hb5
        have hE5 := HE4.out.trans (hb5.mono HE4.out.size)
        have r0 := (hE5.cell (p := ⟨w.heap.size, 0, none⟩) (by show w.heap.size < _; have := HE.out; omega)).trans R0.out
        have r1 := (hE5.cell (p := ⟨w.heap.size, 1, none⟩) (by show w.heap.size < _; have := HE.out; omega)).trans R1.out
        have rz := fun o => (hE5.frozen (p := ⟨w.heap.size, o, none⟩) (by show w.heap.size < _; have := HE.out; omega)).trans (RZ o).out
        have HFin := Lib.hid (((hE.trans (hE5.mono hE.size)).setCell (p := ⟨w.heap.size, 0, none⟩) (Nat.le_refl _) (.slice none 0 0)).setCell (p := ⟨w.heap.size, 1, none⟩) (Nat.le_refl _) (.slice none 0 0))
        clear hiv hb5 hE5 hE hW4
        go_wp2
        refine bodyPost_ret (v := .tuple #[.agg #[.slice none 0 0, .slice none 0 0], .bool false]) (by simp [results, Tryz.results20, go_sem, r0, r1]) rfl ⟨_, by rw [HV.out.2], by rw [HV.out.1]; exact instOwn_nil _ _ _, HFin.out⟩
      | true =>
        have HV := Lib.hid (parseInst_yes (s := s) (HEN2.out.trans (if_pos ho)))
        replace hiv := hiv true ho
        clear ho
        go_wp2_with fail
        refine hiv.mono ?_
        rintro e w5 ⟨rfl, hb5⟩
        rw [← hW4] at hb5
        have hE5 := HE4.out.trans (hb5.mono HE4.out.size)
        have r0 := (hE5.cell (p := ⟨w.heap.size, 0, none⟩) (by show w.heap.size < _; have := HE.out; omega)).trans R0.out
        have r1 := (hE5.cell (p := ⟨w.heap.size, 1, none⟩) (by show w.heap.size < _; have := HE.out; omega)).trans R1.out
        have rz := fun o => (hE5.frozen (p := ⟨w.heap.size, o, none⟩) (by show w.heap.size < _; have := HE.out; omega)).trans (RZ o).out
        have y0 := (hb5.cell (p := ⟨w3.heap.size, 0, none⟩) hz4).trans Y0.out
        have y1 := (hb5.cell (p := ⟨w3.heap.size, 1, none⟩) hz4).trans Y1.out
        have HR5 := Lib.hid (HR4.out.below hb5 (by omega))
        have HF5 := Lib.hid (HF4.out.below hb5 (by omega))
        have HW5 := Lib.hid (hE.trans (hE5.mono hE.size))
        have HZ5 := Lib.hid (show w3.heap.size ≤ w5.heap.size by have := hb5.size; omega)
        have HST : ∀ u1 u2, Hid (Chg (Mid w.heap.size (w.heap.size + 1)) w5 ((w5.setCell ⟨w.heap.size, 0, none⟩ u1).setCell ⟨w.heap.size, 1, none⟩ u2)) := fun u1 u2 => Lib.hid (((Chg.refl _ w5).setCell (p := ⟨w.heap.size, 0, none⟩) ⟨Nat.le_refl _, Nat.lt_succ_self _⟩ _).setCell (p := ⟨w.heap.size, 1, none⟩) ⟨Nat.le_refl _, Nat.lt_succ_self _⟩ _)
        clear hiv hb5 hE5 hE hW4
        go_wp2
        have hf := (HST (.slice P1 rl.length c1) (.slice Q3 fs.length d3)).out
        have hfz := hf.size
        have hz5 := HZ5.out
        refine bodyPost_ret (v := .tuple #[.agg #[.slice P1 rl.length c1, .slice Q3 fs.length d3], .bool true]) (by simp [results, Tryz.results20, go_sem, r0, r1]) rfl ⟨_, by rw [HV.out.2], ?_, ?_⟩
        · rw [HV.out.1]
          exact ⟨_, _, rfl, (HR5.out.chg hf (.inr (by omega))).mono (by omega) (by omega), (HF5.out.chg hf (.inr (by omega))).mono (by omega) (by omega)⟩
        · exact HW5.out.trans (hf.mid_below (Nat.le_refl _) HW5.out.size)
theorem relsLen_ok (l : List Rel) (h : ∀ r ∈ l, relOk r.name r.arity = true) : relsLen l ≤ l.length := by
  induction l with
  | nil => simp [relsLen]
  | cons r t ih =>
    obtain ⟨c, hc, _⟩ := relOk_form r (h r (by simp))
    have h1 := ih (fun q hq => h q (by simp [hq]))
    have h2 : r.name.size = 1 := by rw [hc]; rfl
    simp only [relsLen, List.length_cons]; omega
theorem parseInst_sz (s : ByteArray) : Instance_sz (ParseInstance_r0 s) ≤ 1048576 := by
  cases h : parseInst s.data.toList with
  | none => rw [(parseInst_no h).1]; unfold Instance_sz RelationS_sz FactS_sz; simp [valsLen, relsLen]
  | some x =>
    rw [(parseInst_yes h).1]
    obtain ⟨ho, _⟩ := (parseInst_iff _ x).1 h
    have h30 := (instOk_parts ho).2.2
    have hv := instOk_vals ho
    have hr := (instOk_parts ho).2.1
    have key : ∀ fs : List Fct, (∀ f ∈ fs, f.vals.length ≤ 3) → valsLen fs ≤ 3 * fs.length := by
      intro fs
      induction fs with
      | nil => intro _; simp [valsLen]
      | cons f t ih =>
        intro hf
        have h1 := hf f (by simp)
        have h2 := ih (fun g hg => hf g (by simp [hg]))
        simp only [valsLen, List.length_cons]; omega
    have h1 := key x.facts hv
    have h2 := validRels_len x.rels hr
    have h3 := relsLen_ok x.rels (fun r hr2 => validRels_mem x.rels hr r hr2)
    unfold Instance_sz RelationS_sz FactS_sz; omega
theorem implParseInstance_c (s : ByteArray) (w : World) (hs : s.size ≤ 1048576) (ht : Tab w) (hv : ErrVars w) (hm : MaxL w) :
    Calls Tryz.prog 20 #[.string s] w fun e w' => ∃ r0, e = .returned (.tuple #[r0, .bool (ParseInstance_ok s)]) ∧ Instance_own w.heap.size w'.heap.size r0 (ParseInstance_r0 s) w' ∧ Instance_sz (ParseInstance_r0 s) ≤ 1048576 ∧ Below w.heap.size w w' :=
  (implParseInstance_any s w hs ht hv hm).mono fun _ _ ⟨r, he, ho, hb⟩ => ⟨r, he, ho, parseInst_sz s, hb⟩

end Go.Proofs.YtmecdjincmkofaaGreatDoor
