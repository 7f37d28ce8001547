/-
  Walks and plain lemmas for the laws of this seat: what single Go functions return, for every argument.
-/
import Derived.Test.YtakflmaeclneiaaGreatRows
import Derived.ProofKit
import Derived.OpenShut
import Derived.JoinedCond
import Derived.Carry
import Derived.Deep.Strs
import Derived.Deep.Slices
import Derived.Lib.SmallJoins
import Derived.Test.YtakflmaeclneiaaGreatBase
import Derived.Test.YtakflmaeclneiaaGreatMem
import Derived.Test.YtakflmaeclneiaaGreatInts
import Derived.Test.YtakflmaeclneiaaGreatTyAtom
import Derived.Test.YtakflmaeclneiaaGreatTyDepS
import Derived.Test.YtakflmaeclneiaaGreatRel
import Derived.Test.YtakflmaeclneiaaGreatRels
namespace Go.Proofs.YtakflmaeclneiaaGreat
open Go.RowKit Go.ChangeShapes Go.WideShapes Go.ChangeAt

theorem trodAll_below {H : Type} {enc : TypeId × Value → H} {P : Program} (hl : laidOutB P = true) {W W' : World} (hB : Below W.heap.size W W') :
    ∀ (ts : List TypeId) (vs : List Value) (ds : List (DataW H)) (ps : List MemPlace), (∀ t ∈ ts, P.readableRec t = true ∧ t < P.types.size) →
      DataW.TrodAll enc P W 0 (fun _ => true) true ts vs ds ps → (∀ x ∈ ps, x.block < W.heap.size) → DataW.TrodAll enc P W' 0 (fun b => decide (b < W.heap.size)) true ts vs ds ps
  | [], _, _, _, _, h, _ => by
    obtain ⟨rfl, rfl, rfl⟩ := trodAll_nil h
    exact trodAll_mk0
  | t :: ts, _, _, _, hts, h, hlt => by
    obtain ⟨v, vs', d, ds', p, q, rfl, rfl, rfl, h0, hr⟩ := trodAll_cons h
    have h1 := hts t (by simp)
    exact trodAll_cons_mk (Below.trod hl h1.1 h1.2 h0 hB (fun x hx => hlt x (List.mem_append_left _ hx)))
      (trodAll_below hl hB ts vs' ds' q (fun u hu => hts u (by simp [hu])) hr (fun x hx => hlt x (List.mem_append_right _ hx)))
/-- what a law leaves: 'true', nothing old has turned: all arguments read as they did -/
theorem law_post {H : Type} {enc : TypeId × Value → H} {P : Program} {f : Func} {s : ChangeSpec} {W W' : World} {args : Array Value} {ds : List (DataW H)} {before : List MemPlace} {b : TypeId}
    (hl : laidOutB P = true) (hty : ∀ t ∈ f.params.toList, P.readableRec t = true ∧ t < P.types.size) (hb : P.underlying b = some .bool) (hr : f.resultTypes = #[b]) (hv : s.vars = [])
    (hW : DataW.Whole enc P f.params.toList s.vars false W args.toList ds [] before) (hfn : s.fn H ds = { results := [.lit (.bool true)], args := ds }) (hB : Below W.heap.size W W') :
    s.post enc P f false true false false W args (.bool true) W' := by
  have hlt := hW.lt
  have hW' := hW
  obtain ⟨p, q, hA, hV, rfl, hfz, hnd⟩ := hW
  rw [hv] at hV
  obtain ⟨_, rfl⟩ := trodVars_none hV
  refine ⟨ds, [], p ++ [], [], p, [], hW', ?_, ?_, ?_, ?_, fun h => by cases h⟩
  · rw [List.append_nil, hfn, hr]
    exact trodAll_mk1 (shut_bool hb true)
  · rw [List.append_nil, hfn]
    exact trodAll_below hl hB _ _ _ _ hty hA (fun x hx => hlt x (by simpa using hx))
  · rw [List.append_nil, hfn, hv]
    exact (by simp [DataW.TrodVars])
  · exact World.keptBut_mono (fun x hx => ⟨hx, Or.inr (Or.inl (by simpa using hx))⟩) (hB.frame (· ∈ p ++ []))
theorem ownFact : ownKnob Tryz.prog.godebug = none := by kernel_rfl
theorem laidFact : laidOutB Tryz.prog = true := by kernel_rfl
theorem i64_le {n : Int} (h : (Lit.int .i64 n).wf = true) : n ≤ 9223372036854775807 := by
  simp [Lit.wf, IntKind.min, IntKind.max, IntKind.signed, IntKind.bits] at h; omega
theorem i64_ge {n : Int} (h : (Lit.int .i64 n).wf = true) : -9223372036854775808 ≤ n := by
  simp [Lit.wf, IntKind.min, IntKind.max, IntKind.signed, IntKind.bits] at h; omega

instance : Inhabited Value := ⟨undef⟩
theorem struct_two {H : Type} {enc : TypeId × Value → H} {P : Program} {w : World} {base : Nat} {spare : Nat → Bool} {held : Bool} {t : TypeId} {f0 f1 : Field} {fuel : Nat} {cs : List Value} {x : DataW H × List MemPlace} (ht : P.underlying t = some (.struct #[f0, f1])) (h : DataW.trod enc P w base spare held fuel t cs = some x) :
    ∃ y0 y1 n, x.2 = y0.2 ++ y1.2 ∧ cs.length = P.cellsOf t ∧ DataW.trod enc P w base spare held n f0.type ((cs.drop f0.offset).take (P.cellsOf f0.type)) = some y0 ∧
      DataW.trod enc P w base spare held n f1.type ((cs.drop f1.offset).take (P.cellsOf f1.type)) = some y1 := by
  obtain ⟨xs, n, _, rfl, hl, hlen, hf⟩ := DataW.trod_struct ht h
  match xs, hlen with
  | [y0, y1], _ => exact ⟨y0, y1, n, by simp, hl, by simpa using hf 0 f0 rfl, by simpa using hf 1 f1 rfl⟩

/-- one cell that is a slice, its elements opened by 'hel' -/
theorem open_sliceCell {α : Type} [Inhabited α] {H : Type} {enc : TypeId × Value → H} {P : Program} {W : World} {cs : List Value} {x : DataW H × List MemPlace} {fuel : Nat} {t e : TypeId} {k : Nat} (f : α → List Value) (good : α → Prop)
    (hlen : ∀ x, (f x).length = k) (hk : 0 < k) (ht : P.underlying t = some (.slice e)) (hC : P.cellsOf e = k)
    (hf : DataW.trod enc P W 0 (fun _ => true) true fuel t cs = some x) (hlt : ∀ p ∈ x.2, p.block < W.heap.size)
    (hel : ∀ n cs x, DataW.trod enc P W 0 (fun _ => true) true n e cs = some x → (∀ p ∈ x.2, p.block < W.heap.size) → ∃ a, cs = f a ∧ good a) :
    ∃ (v : Value) (l : List α), cs = [v] ∧ SliceAt f W W.heap.size v l ∧ ∀ (i : Nat) (h : i < l.length), good l[i] := by
  rcases Go.Deep.open_slice ht hf with ⟨rfl, rfl⟩ | ⟨a, len, m, m', n, D, Pl, rfl, _, hl, hm, hmm, rfl, hi⟩
  · exact ⟨_, [], rfl, ⟨none, 0, rfl, Nat.le_refl _, by decide, fun h => absurd h (by simp), fun _ => rfl⟩, fun i h => absurd h (by simp)⟩
  · simp only [if_true] at hmm
    subst hmm
    by_cases h0 : len = 0
    · subst h0
      exact ⟨_, [], rfl, ⟨some a, m', rfl, Nat.zero_le _, hm, fun h => absurd h (by simp), fun e => by cases e⟩, fun i h => absurd h (by simp)⟩
    have key : ∀ i, i < len → ∃ x : α, good x ∧ ∀ j, j < k → W.cell? (a.add (i * k + j)) = (f x)[j]? := by
      intro i hil
      obtain ⟨cs', hc, ht'⟩ := hi i (by omega)
      rw [hC] at hc
      obtain ⟨_, hcl, hat⟩ := World.cells?_some hc
      obtain ⟨x, rfl, hg⟩ := hel n cs' _ ht' (fun p hp => hlt p (List.mem_append_right _ (List.mem_flatMap.2 ⟨i, List.mem_range.2 (by omega), hp⟩)))
      exact ⟨x, hg, fun j hj => by rw [← Go.Deep.add_add]; exact hat j hj⟩
    obtain ⟨F, hF⟩ := Go.Deep.choose_lt key
    have hFl : (List.map F (List.range len)).length = len := by simp
    have hFg : ∀ i (h : i < (List.map F (List.range len)).length), (List.map F (List.range len))[i] = F i := by intro i h; simp
    obtain ⟨b, off, spot⟩ := a
    have hspot : spot = none := by
      have := (hF 0 (by omega)).2 0 hk
      rw [List.getElem?_eq_getElem (by rw [hlen]; exact hk)] at this
      simpa [Addr.add] using World.cell?_spot this
    subst hspot
    have hbW : b < W.heap.size := hlt (.cell b off) (List.mem_append_left _ (MemPlace.mem_row.2 ⟨0, by rw [hC]; exact Nat.mul_pos (by omega) hk, by simp⟩))
    refine ⟨_, List.map F (List.range len), rfl, ⟨some ⟨b, off, none⟩, m', by rw [hFl], by rw [hFl]; exact hl, hm, fun _ => ⟨b, off, rfl, hbW, fun j u hu => ?_⟩, fun e => by cases e⟩, fun i h => ?_⟩
    · have hj : j < len * k := by
        have := (List.getElem?_eq_some_iff.1 hu).1
        rwa [flat_len f k hlen, hFl] at this
      have hq : j / k < len := Nat.div_lt_of_lt_mul (by rw [Nat.mul_comm]; exact hj)
      have hr : j % k < k := Nat.mod_lt _ hk
      have hjk : j / k * k + j % k = j := by rw [Nat.mul_comm]; exact Nat.div_add_mod j k
      have := flat_get f k hlen (List.map F (List.range len)) (j / k) (j % k) (by rw [hFl]; exact hq) hr
      rw [hjk, hFg, hu] at this
      have h2 := (hF (j / k) hq).2 (j % k) hr
      rw [hjk, ← this] at h2
      have e : (⟨b, off, none⟩ : Addr).add j = ⟨b, off + j, none⟩ := by unfold Addr.add; split <;> simp_all
      rwa [e] at h2
    · rw [hFg]
      exact (hF i (by rwa [hFl] at h)).1
/-- an argument that is a slice, its elements opened by 'hel' -/
theorem open_sliceAt {α : Type} [Inhabited α] {H : Type} {enc : TypeId × Value → H} {P : Program} {W : World} {v : Value} {d : DataW H} {ps : List MemPlace} {base : Nat} {t e : TypeId} {k : Nat} (f : α → List Value) (good : α → Prop)
    (hlen : ∀ x, (f x).length = k) (hk : 0 < k) (ht : P.underlying t = some (.slice e)) (hC : P.cellsOf e = k) (hv : Value.okWide P W .any base t v)
    (h : DataW.Trod enc P W 0 (fun _ => true) true t v d ps) (hlt : ∀ x ∈ ps, x.block < W.heap.size)
    (hel : ∀ n cs x, DataW.trod enc P W 0 (fun _ => true) true n e cs = some x → (∀ p ∈ x.2, p.block < W.heap.size) → ∃ a, cs = f a ∧ good a) :
    ∃ l : List α, SliceAt f W W.heap.size v l ∧ ∀ (i : Nat) (h : i < l.length), good l[i] := by
  obtain ⟨a0, len, cap, rfl⟩ := okWide_slice ht hv
  obtain ⟨fuel, hf⟩ := h
  obtain ⟨v, l, hcs, h1, h2⟩ := open_sliceCell f good hlen hk ht hC hf hlt hel
  simp [Value.cells] at hcs
  subst hcs
  exact ⟨l, h1, h2⟩

set_option maxRecDepth 100000 in
/-- one cell that is a slice of ints -/
theorem open_intsCell {H : Type} {enc : TypeId × Value → H} {W : World} (n : Nat) (cs : List Value) (x : DataW H × List MemPlace) (h : DataW.trod enc Tryz.prog W 0 (fun _ => true) true n 47 cs = some x) (hlt : ∀ p ∈ x.2, p.block < W.heap.size) :
    ∃ v l, cs = [v] ∧ IntsAt W W.heap.size v l ∧ IntsWf l :=
  open_sliceCell (k := 1) intCell (fun n => -9223372036854775808 ≤ n ∧ n ≤ 9223372036854775807) (fun _ => rfl) (by omega) Tryz.underlying47 (by kernel_rfl) h hlt (fun n cs x hx _ => by
    obtain ⟨a, ha, _, hw⟩ := DataW.trod_int Tryz.underlying3 hx
    subst ha
    refine ⟨a, rfl, ?_⟩
    simp [Lit.wf, IntKind.min, IntKind.max, IntKind.signed, IntKind.bits] at hw
    omega)

set_option maxRecDepth 100000 in
/-- an argument that is one atom -/
theorem open_atom {H : Type} {enc : TypeId × Value → H} {W : World} {v : Value} {d : DataW H} {ps : List MemPlace} {base : Nat} (hv : Value.okWide Tryz.prog W .any base 81 v)
    (h : DataW.Trod enc Tryz.prog W 0 (fun _ => true) true 81 v d ps) (hlt : ∀ x ∈ ps, x.block < W.heap.size) :
    ∃ (r : Int) (V : Value) (l : List Int), v = .agg #[.int .i64 r, V] ∧ (-9223372036854775808 ≤ r ∧ r ≤ 9223372036854775807) ∧ IntsAt W W.heap.size V l ∧ IntsWf l := by
  obtain ⟨v0, v1, y0, y1, n, rfl, _, rfl, h0, h1⟩ := Go.Joins.open_agg2 Tryz.underlying81 (by kernel_rfl) (by kernel_rfl) hv h
  obtain ⟨r, hr, _, hw⟩ := DataW.trod_int Tryz.underlying3 h0
  obtain ⟨V, l, hV, h2, h3⟩ := open_intsCell _ _ _ h1 (fun p hp => hlt p (List.mem_append_right _ hp))
  simp only [List.cons.injEq, and_true] at hr hV
  subst hr hV
  refine ⟨r, _, l, rfl, ?_, h2, h3⟩
  simp [Lit.wf, IntKind.min, IntKind.max, IntKind.signed, IntKind.bits] at hw
  omega

set_option maxRecDepth 100000 in
theorem open_atomCells {H : Type} {enc : TypeId × Value → H} {W : World} (n : Nat) (cs : List Value) (x : DataW H × List MemPlace) (h : DataW.trod enc Tryz.prog W 0 (fun _ => true) true n 81 cs = some x) (hlt : ∀ p ∈ x.2, p.block < W.heap.size) :
    ∃ p : Int × Value, cs = apairCells p ∧ ∃ vals, IntsAt W W.heap.size p.2 vals ∧ IntsWf vals ∧ -9223372036854775808 ≤ p.1 ∧ p.1 ≤ 9223372036854775807 := by
  obtain ⟨y0, y1, n', e, hl, h0, h1⟩ := struct_two Tryz.underlying81 h
  have hC : Tryz.prog.cellsOf 81 = 2 := by kernel_rfl
  have k0 : Tryz.prog.cellsOf 3 = 1 := by kernel_rfl
  have k1 : Tryz.prog.cellsOf 47 = 1 := by kernel_rfl
  rw [hC] at hl
  match cs, hl with
  | [c0, c1], _ =>
    simp only [k0, k1, List.drop_zero, List.take_succ_cons, List.take_zero, List.drop_succ_cons] at h0 h1
    obtain ⟨a, ha, _, hw⟩ := DataW.trod_int Tryz.underlying3 h0
    obtain ⟨V, vals, hV, hA, hwf⟩ := open_intsCell _ _ _ h1 (fun p hp => hlt p (by rw [e]; exact List.mem_append_right _ hp))
    simp only [List.cons.injEq, and_true] at ha hV
    subst ha hV
    refine ⟨(a, _), rfl, vals, hA, hwf, ?_⟩
    simp [Lit.wf, IntKind.min, IntKind.max, IntKind.signed, IntKind.bits] at hw
    omega
theorem atoms_of_pairs {W : World} {v : Value} {L : List (Int × Value)} (h : SliceAt apairCells W W.heap.size v L) (hg : ∀ (i : Nat) (h : i < L.length), ∃ vals, IntsAt W W.heap.size L[i].2 vals ∧ IntsWf vals ∧ -9223372036854775808 ≤ L[i].1 ∧ L[i].1 ≤ 9223372036854775807) :
    ∃ l : List Atm, AtomS_at W W.heap.size v l ∧ AtomS_wf l := by
  have hc : ∀ i, i < L.length → ∃ x : Atm, ∀ h : i < L.length, x.rel = L[i].1 ∧ IntsAt W W.heap.size L[i].2 x.vals ∧ Atom_wf x := fun i h => by
    obtain ⟨vals, h1, h2, h3, h4⟩ := hg i h
    exact ⟨⟨L[i].1, vals⟩, fun _ => ⟨rfl, h1, ⟨h3, h4⟩, h2⟩⟩
  obtain ⟨F, hF⟩ := Go.Deep.choose_lt hc
  have hll : ((List.range L.length).map F).length = L.length := by simp
  have hp : apairs ((List.range L.length).map F) (L.map (·.2)) = L := by
    apply List.ext_getElem
    · simp [apairs]
    · intro i h1 h2
      simp only [apairs, List.getElem_zipWith, List.getElem_map, List.getElem_range]
      rw [(hF i h2 h2).1]
  refine ⟨(List.range L.length).map F, ⟨L.map (·.2), by simp, by rw [hp]; exact h, fun i h1 h2 => ?_⟩, fun i h1 => ?_⟩
  · have hi : i < L.length := by simpa using h1
    simp only [List.getElem_map, List.getElem_range]
    exact (hF i hi hi).2.1
  · have hi : i < L.length := by simpa using h1
    simp only [List.getElem_map, List.getElem_range]
    exact (hF i hi hi).2.2
set_option maxRecDepth 100000 in
theorem open_atomsCell {H : Type} {enc : TypeId × Value → H} {W : World} (n : Nat) (cs : List Value) (x : DataW H × List MemPlace) (h : DataW.trod enc Tryz.prog W 0 (fun _ => true) true n 43 cs = some x) (hlt : ∀ p ∈ x.2, p.block < W.heap.size) :
    ∃ v l, cs = [v] ∧ AtomS_at W W.heap.size v l ∧ AtomS_wf l := by
  obtain ⟨v, L, hcs, hL, hg⟩ := open_sliceCell (k := 2) apairCells (fun p => ∃ vals, IntsAt W W.heap.size p.2 vals ∧ IntsWf vals ∧ -9223372036854775808 ≤ p.1 ∧ p.1 ≤ 9223372036854775807) apairCells_len (by omega) Tryz.underlying43 (by kernel_rfl) h hlt (fun n cs x hx hl => open_atomCells n cs x hx hl)
  obtain ⟨l, h1, h2⟩ := atoms_of_pairs hL hg
  exact ⟨v, l, hcs, h1, h2⟩

theorem struct_five {H : Type} {enc : TypeId × Value → H} {P : Program} {w : World} {base : Nat} {spare : Nat → Bool} {held : Bool} {t : TypeId} {f0 f1 f2 f3 f4 : Field} {fuel : Nat} {cs : List Value} {x : DataW H × List MemPlace} (ht : P.underlying t = some (.struct #[f0, f1, f2, f3, f4])) (h : DataW.trod enc P w base spare held fuel t cs = some x) :
    ∃ y0 y1 y2 y3 y4 n, x.2 = y0.2 ++ (y1.2 ++ (y2.2 ++ (y3.2 ++ y4.2))) ∧ cs.length = P.cellsOf t ∧ DataW.trod enc P w base spare held n f0.type ((cs.drop f0.offset).take (P.cellsOf f0.type)) = some y0 ∧
      DataW.trod enc P w base spare held n f1.type ((cs.drop f1.offset).take (P.cellsOf f1.type)) = some y1 ∧ DataW.trod enc P w base spare held n f2.type ((cs.drop f2.offset).take (P.cellsOf f2.type)) = some y2 ∧
      DataW.trod enc P w base spare held n f3.type ((cs.drop f3.offset).take (P.cellsOf f3.type)) = some y3 ∧ DataW.trod enc P w base spare held n f4.type ((cs.drop f4.offset).take (P.cellsOf f4.type)) = some y4 := by
  obtain ⟨xs, n, _, rfl, hl, hlen, hf⟩ := DataW.trod_struct ht h
  match xs, hlen with
  | [y0, y1, y2, y3, y4], _ => exact ⟨y0, y1, y2, y3, y4, n, by simp, hl, by simpa using hf 0 f0 rfl, by simpa using hf 1 f1 rfl, by simpa using hf 2 f2 rfl, by simpa using hf 3 f3 rfl, by simpa using hf 4 f4 rfl⟩
set_option maxRecDepth 100000 in
theorem open_depCells {H : Type} {enc : TypeId × Value → H} {W : World} (n : Nat) (cs : List Value) (x : DataW H × List MemPlace) (h : DataW.trod enc Tryz.prog W 0 (fun _ => true) true n 45 cs = some x) (hlt : ∀ p ∈ x.2, p.block < W.heap.size) :
    ∃ V1 V2 d, cs = [V1, V2, .bool (d : Dep).egd, .int .i64 d.left, .int .i64 d.right] ∧ AtomS_at W W.heap.size V1 d.body ∧ AtomS_at W W.heap.size V2 d.head ∧ Dependency_wf d := by
  obtain ⟨y0, y1, y2, y3, y4, n', e, hl, h0, h1, h2, h3, h4⟩ := struct_five Tryz.underlying45 h
  have hC : Tryz.prog.cellsOf 45 = 5 := by kernel_rfl
  have k0 : Tryz.prog.cellsOf 43 = 1 := by kernel_rfl
  have k1 : Tryz.prog.cellsOf 4 = 1 := by kernel_rfl
  have k2 : Tryz.prog.cellsOf 3 = 1 := by kernel_rfl
  rw [hC] at hl
  match cs, hl with
  | [c0, c1, c2, c3, c4], _ =>
    simp only [k0, k1, k2, List.drop_zero, List.take_succ_cons, List.take_zero, List.drop_succ_cons] at h0 h1 h2 h3 h4
    obtain ⟨V1, l1, e1, A1, W1⟩ := open_atomsCell _ _ _ h0 (fun p hp => hlt p (by rw [e]; exact List.mem_append_left _ hp))
    obtain ⟨V2, l2, e2, A2, W2⟩ := open_atomsCell _ _ _ h1 (fun p hp => hlt p (by rw [e]; exact List.mem_append_right _ (List.mem_append_left _ hp)))
    obtain ⟨b, hb, _⟩ := DataW.trod_bool Tryz.underlying4 h2
    obtain ⟨p, hp, _, hw⟩ := DataW.trod_int Tryz.underlying3 h3
    obtain ⟨q, hq, _, hw'⟩ := DataW.trod_int Tryz.underlying3 h4
    simp only [List.cons.injEq, and_true] at e1 e2 hb hp hq
    subst e1 e2 hb hp hq
    simp [Lit.wf, IntKind.min, IntKind.max, IntKind.signed, IntKind.bits] at hw hw'
    exact ⟨_, _, ⟨l1, l2, b, p, q⟩, rfl, A1, A2, W1, W2, hw, hw'⟩

theorem deps_of_cells {W : World} {v : Value} {L : List DepC} (h : SliceAt dCells W W.heap.size v L) (hg : ∀ (i : Nat) (h : i < L.length), ∃ x : Dep, L[i].e = x.egd ∧ L[i].l = x.left ∧ L[i].r = x.right ∧ AtomS_at W W.heap.size L[i].b x.body ∧ AtomS_at W W.heap.size L[i].h x.head ∧ Dependency_wf x) :
    ∃ l : List Dep, DependencyS_at W W.heap.size v l ∧ DependencyS_wf l := by
  have hc : ∀ i, i < L.length → ∃ x : Dep, ∀ h : i < L.length, L[i].e = x.egd ∧ L[i].l = x.left ∧ L[i].r = x.right ∧ AtomS_at W W.heap.size L[i].b x.body ∧ AtomS_at W W.heap.size L[i].h x.head ∧ Dependency_wf x := fun i h => by
    obtain ⟨x, hx⟩ := hg i h
    exact ⟨x, fun _ => hx⟩
  obtain ⟨F, hF⟩ := Go.Deep.choose_lt hc
  have hp : dZip ((List.range L.length).map F) (L.map fun c => (c.b, c.h)) = L := by
    apply List.ext_getElem
    · simp [dZip]
    · intro i h1 h2
      simp only [dZip, List.getElem_zipWith, List.getElem_map, List.getElem_range, depC]
      obtain ⟨e1, e2, e3, -⟩ := hF i h2 h2
      rw [← e1, ← e2, ← e3]
  refine ⟨(List.range L.length).map F, ⟨L.map fun c => (c.b, c.h), by simp, by rw [hp]; exact h, fun i h1 h2 => ?_⟩, fun i h1 => ?_⟩
  · have hi : i < L.length := by simpa using h1
    simp only [List.getElem_map, List.getElem_range]
    obtain ⟨-, -, -, e4, e5, -⟩ := hF i hi hi
    exact ⟨e4, e5⟩
  · have hi : i < L.length := by simpa using h1
    simp only [List.getElem_map, List.getElem_range]
    exact (hF i hi hi).2.2.2.2.2
set_option maxRecDepth 100000 in
theorem open_depsCell {H : Type} {enc : TypeId × Value → H} {W : World} (n : Nat) (cs : List Value) (x : DataW H × List MemPlace) (h : DataW.trod enc Tryz.prog W 0 (fun _ => true) true n 23 cs = some x) (hlt : ∀ p ∈ x.2, p.block < W.heap.size) :
    ∃ v l, cs = [v] ∧ DependencyS_at W W.heap.size v l ∧ DependencyS_wf l := by
  obtain ⟨v, L, hcs, hL, hg⟩ := open_sliceCell (k := 5) dCells (fun c => ∃ x : Dep, c.e = x.egd ∧ c.l = x.left ∧ c.r = x.right ∧ AtomS_at W W.heap.size c.b x.body ∧ AtomS_at W W.heap.size c.h x.head ∧ Dependency_wf x) dCells_len (by omega) Tryz.underlying23 (by kernel_rfl) h hlt (fun n cs x hx hl => by
    obtain ⟨V1, V2, d, rfl, h1, h2, h3⟩ := open_depCells n cs x hx hl
    exact ⟨⟨V1, V2, d.egd, d.left, d.right⟩, rfl, d, rfl, rfl, rfl, h1, h2, h3⟩)
  obtain ⟨l, h1, h2⟩ := deps_of_cells hL hg
  exact ⟨v, l, hcs, h1, h2⟩

set_option maxRecDepth 100000 in
/-- an argument that is a slice of dependencies -/
theorem open_DependencyS {H : Type} {enc : TypeId × Value → H} {W : World} {v : Value} {d : DataW H} {ps : List MemPlace} {base : Nat} (hv : Value.okWide Tryz.prog W .any base 23 v)
    (h : DataW.Trod enc Tryz.prog W 0 (fun _ => true) true 23 v d ps) (hlt : ∀ x ∈ ps, x.block < W.heap.size) : ∃ l : List Dep, DependencyS_at W W.heap.size v l ∧ DependencyS_wf l := by
  obtain ⟨a0, len, cap, rfl⟩ := okWide_slice Tryz.underlying23 hv
  obtain ⟨fuel, hf⟩ := h
  obtain ⟨v, l, hcs, h1, h2⟩ := open_depsCell _ _ _ hf hlt
  simp [Value.cells] at hcs
  subst hcs
  exact ⟨l, h1, h2⟩

set_option maxRecDepth 100000 in
/-- an argument that is one relation -/
theorem open_rel {H : Type} {enc : TypeId × Value → H} {W : World} {v : Value} {d : DataW H} {ps : List MemPlace} {base : Nat} (hv : Value.okWide Tryz.prog W .any base 41 v)
    (h : DataW.Trod enc Tryz.prog W 0 (fun _ => true) true 41 v d ps) : ∃ (s : ByteArray) (a : Int) (b : Bool), v = .agg #[.string s, .int .i64 a, .bool b] ∧ s.size ≤ maxLen ∧ (Lit.int .i64 a).wf = true := by
  obtain ⟨v0, v1, v2, y0, y1, y2, n, rfl, _, _, h0, h1, h2⟩ := Go.Joins.open_agg3 Tryz.underlying41 (by kernel_rfl) (by kernel_rfl) hv h
  obtain ⟨s, hs, _, hl⟩ := DataW.trod_string Tryz.underlying9 h0
  obtain ⟨a, ha, _, hw⟩ := DataW.trod_int Tryz.underlying3 h1
  obtain ⟨b, hb, _⟩ := DataW.trod_bool Tryz.underlying4 h2
  simp only [List.cons.injEq, and_true] at hs ha hb
  subst hs ha hb
  exact ⟨s, a, b, rfl, hl, hw⟩

instance : Inhabited Rel := ⟨zeroRel⟩
set_option maxRecDepth 100000 in
theorem open_relCells {H : Type} {enc : TypeId × Value → H} {W : World} (n : Nat) (cs : List Value) (x : DataW H × List MemPlace) (h : DataW.trod enc Tryz.prog W 0 (fun _ => true) true n 41 cs = some x) :
    ∃ r : Rel, cs = relCells r ∧ r.name.size ≤ maxLen := by
  obtain ⟨y0, y1, y2, n', _, hl, h0, h1, h2⟩ := Go.Deep.trod_struct3 Tryz.underlying41 h
  have hC : Tryz.prog.cellsOf 41 = 3 := by kernel_rfl
  have k0 : Tryz.prog.cellsOf 9 = 1 := by kernel_rfl
  have k1 : Tryz.prog.cellsOf 3 = 1 := by kernel_rfl
  have k2 : Tryz.prog.cellsOf 4 = 1 := by kernel_rfl
  rw [hC] at hl
  match cs, hl with
  | [c0, c1, c2], _ =>
    simp only [k0, k1, k2, List.drop_zero, List.take_succ_cons, List.take_zero, List.drop_succ_cons] at h0 h1 h2
    obtain ⟨s, hs, _, hl⟩ := DataW.trod_string Tryz.underlying9 h0
    obtain ⟨a, ha, _, hw⟩ := DataW.trod_int Tryz.underlying3 h1
    obtain ⟨b, hb, _⟩ := DataW.trod_bool Tryz.underlying4 h2
    simp only [List.cons.injEq, and_true] at hs ha hb
    subst hs ha hb
    exact ⟨⟨s, a, b⟩, rfl, hl⟩
set_option maxRecDepth 100000 in
/-- an argument that is a slice of relations -/
theorem open_rels {H : Type} {enc : TypeId × Value → H} {W : World} {v : Value} {d : DataW H} {ps : List MemPlace} {base : Nat} (hv : Value.okWide Tryz.prog W .any base 22 v)
    (h : DataW.Trod enc Tryz.prog W 0 (fun _ => true) true 22 v d ps) (hlt : ∀ x ∈ ps, x.block < W.heap.size) : ∃ l : List Rel, RelsAt W W.heap.size v l ∧ RelsWf l :=
  open_sliceAt relCells (fun r => r.name.size ≤ maxLen) relCells_len (by omega) Tryz.underlying22 (by kernel_rfl) hv h hlt (fun n cs x hx _ => open_relCells n cs x hx)

set_option maxRecDepth 100000 in
theorem open_RelationS {H : Type} {enc : TypeId × Value → H} {W : World} {v : Value} {d : DataW H} {ps : List MemPlace} {base : Nat} (hv : Value.okWide Tryz.prog W .any base 22 v)
    (h : DataW.Trod enc Tryz.prog W 0 (fun _ => true) true 22 v d ps) (hlt : ∀ x ∈ ps, x.block < W.heap.size) : ∃ l : List Rel, RelationS_at W W.heap.size v l ∧ RelationS_wf l := open_rels hv h hlt

end Go.Proofs.YtakflmaeclneiaaGreat
