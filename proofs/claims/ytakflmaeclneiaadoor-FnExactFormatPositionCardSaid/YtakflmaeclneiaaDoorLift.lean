/-
  Walks and plain lemmas for the laws of this seat: what single Go functions return, for every argument.
-/
import Derived.Test.YtakflmaeclneiaaDoorRows
import Derived.ProofKit
import Derived.OpenShut
import Derived.JoinedCond
import Derived.Carry
import Derived.Lib.SmallJoins
import Derived.Deep.Slices
import Derived.Deep.Strs
import Derived.Test.YtakflmaeclneiaaDoorBase
import Derived.Test.YtakflmaeclneiaaDoorMem
import Derived.Test.YtakflmaeclneiaaDoorRel
import Derived.Test.YtakflmaeclneiaaDoorRels
namespace Go.Proofs.YtakflmaeclneiaaDoor
open Go.RowKit Go.ChangeShapes Go.WideShapes Go.ChangeAt

theorem trodAll_below {H : Type} {enc : TypeId × Value → H} {P : Program} (hl : laidOutB P = true) {W W' : World} (hB : Below W.heap.size W W') :
    ∀ (ts : List TypeId) (vs : List Value) (ds : List (DataW H)) (ps : List MemPlace), (∀ t ∈ ts, P.readableRec t = true ∧ t < P.types.size) →
      DataW.TrodAll enc P W 0 (fun _ => true) true ts vs ds ps → (∀ x ∈ ps, x.block < W.heap.size) → DataW.TrodAll enc P W' 0 (fun b => decide (b < W.heap.size)) true ts vs ds ps
  | [], _, _, _, _, h, _ => by
    obtain ⟨rfl, rfl, rfl⟩ := trodAll_nil h
    exact trodAll_mk0
  | t :: ts, _, _, _, hts, h, hlt => by
    obtain ⟨v, vs', d, ds', p, q, rfl, rfl, rfl, h0, hr⟩ := trodAll_cons h
    have h1 := hts t (by simp)
    exact trodAll_cons_mk (Below.trod hl h1.1 h1.2 h0 hB (fun x hx => hlt x (List.mem_append_left _ hx)))
      (trodAll_below hl hB ts vs' ds' q (fun u hu => hts u (by simp [hu])) hr (fun x hx => hlt x (List.mem_append_right _ hx)))
/-- what a law leaves: 'true', nothing old has turned: all arguments read as they did -/
theorem law_post {H : Type} {enc : TypeId × Value → H} {P : Program} {f : Func} {s : ChangeSpec} {W W' : World} {args : Array Value} {ds : List (DataW H)} {before : List MemPlace} {b : TypeId}
    (hl : laidOutB P = true) (hty : ∀ t ∈ f.params.toList, P.readableRec t = true ∧ t < P.types.size) (hb : P.underlying b = some .bool) (hr : f.resultTypes = #[b]) (hv : s.vars = [])
    (hW : DataW.Whole enc P f.params.toList s.vars false W args.toList ds [] before) (hfn : s.fn H ds = { results := [.lit (.bool true)], args := ds }) (hB : Below W.heap.size W W') :
    s.post enc P f false true false false W args (.bool true) W' := by
  have hlt := hW.lt
  have hW' := hW
  obtain ⟨p, q, hA, hV, rfl, hfz, hnd⟩ := hW
  rw [hv] at hV
  obtain ⟨_, rfl⟩ := trodVars_none hV
  refine ⟨ds, [], p ++ [], [], p, [], hW', ?_, ?_, ?_, ?_, fun h => by cases h⟩
  · rw [List.append_nil, hfn, hr]
    exact trodAll_mk1 (shut_bool hb true)
  · rw [List.append_nil, hfn]
    exact trodAll_below hl hB _ _ _ _ hty hA (fun x hx => hlt x (by simpa using hx))
  · rw [List.append_nil, hfn, hv]
    exact (by simp [DataW.TrodVars])
  · exact World.keptBut_mono (fun x hx => ⟨hx, Or.inr (Or.inl (by simpa using hx))⟩) (hB.frame (· ∈ p ++ []))
theorem ownFact : ownKnob Tryd.prog.godebug = none := by kernel_rfl
theorem laidFact : laidOutB Tryd.prog = true := by kernel_rfl
theorem i64_le {n : Int} (h : (Lit.int .i64 n).wf = true) : n ≤ 9223372036854775807 := by
  simp [Lit.wf, IntKind.min, IntKind.max, IntKind.signed, IntKind.bits] at h; omega
theorem i64_ge {n : Int} (h : (Lit.int .i64 n).wf = true) : -9223372036854775808 ≤ n := by
  simp [Lit.wf, IntKind.min, IntKind.max, IntKind.signed, IntKind.bits] at h; omega

set_option maxRecDepth 100000 in
/-- an argument that is one relation -/
theorem open_rel {H : Type} {enc : TypeId × Value → H} {W : World} {v : Value} {d : DataW H} {ps : List MemPlace} {base : Nat} (hv : Value.okWide Tryd.prog W .any base 63 v)
    (h : DataW.Trod enc Tryd.prog W 0 (fun _ => true) true 63 v d ps) : ∃ (s : ByteArray) (a : Int) (b : Bool), v = .agg #[.string s, .int .i64 a, .bool b] ∧ s.size ≤ maxLen ∧ (Lit.int .i64 a).wf = true := by
  obtain ⟨v0, v1, v2, y0, y1, y2, n, rfl, _, _, h0, h1, h2⟩ := Go.Joins.open_agg3 Tryd.underlying63 (by kernel_rfl) (by kernel_rfl) hv h
  obtain ⟨s, hs, _, hl⟩ := DataW.trod_string Tryd.underlying9 h0
  obtain ⟨a, ha, _, hw⟩ := DataW.trod_int Tryd.underlying3 h1
  obtain ⟨b, hb, _⟩ := DataW.trod_bool Tryd.underlying4 h2
  simp only [List.cons.injEq, and_true] at hs ha hb
  subst hs ha hb
  exact ⟨s, a, b, rfl, hl, hw⟩

/-- one cell that is a slice, its elements opened by 'hel' -/
theorem open_sliceCell {α : Type} [Inhabited α] {H : Type} {enc : TypeId × Value → H} {P : Program} {W : World} {cs : List Value} {x : DataW H × List MemPlace} {fuel : Nat} {t e : TypeId} {k : Nat} (f : α → List Value) (good : α → Prop)
    (hlen : ∀ x, (f x).length = k) (hk : 0 < k) (ht : P.underlying t = some (.slice e)) (hC : P.cellsOf e = k)
    (hf : DataW.trod enc P W 0 (fun _ => true) true fuel t cs = some x) (hlt : ∀ p ∈ x.2, p.block < W.heap.size)
    (hel : ∀ n cs x, DataW.trod enc P W 0 (fun _ => true) true n e cs = some x → (∀ p ∈ x.2, p.block < W.heap.size) → ∃ a, cs = f a ∧ good a) :
    ∃ (v : Value) (l : List α), cs = [v] ∧ SliceAt f W W.heap.size v l ∧ ∀ (i : Nat) (h : i < l.length), good l[i] := by
  rcases Go.Deep.open_slice ht hf with ⟨rfl, rfl⟩ | ⟨a, len, m, m', n, D, Pl, rfl, _, hl, hm, hmm, rfl, hi⟩
  · exact ⟨_, [], rfl, ⟨none, 0, rfl, Nat.le_refl _, by decide, fun h => absurd h (by simp), fun _ => rfl⟩, fun i h => absurd h (by simp)⟩
  · simp only [if_true] at hmm
    subst hmm
    by_cases h0 : len = 0
    · subst h0
      exact ⟨_, [], rfl, ⟨some a, m', rfl, Nat.zero_le _, hm, fun h => absurd h (by simp), fun e => by cases e⟩, fun i h => absurd h (by simp)⟩
    have key : ∀ i, i < len → ∃ x : α, good x ∧ ∀ j, j < k → W.cell? (a.add (i * k + j)) = (f x)[j]? := by
      intro i hil
      obtain ⟨cs', hc, ht'⟩ := hi i (by omega)
      rw [hC] at hc
      obtain ⟨_, hcl, hat⟩ := World.cells?_some hc
      obtain ⟨x, rfl, hg⟩ := hel n cs' _ ht' (fun p hp => hlt p (List.mem_append_right _ (List.mem_flatMap.2 ⟨i, List.mem_range.2 (by omega), hp⟩)))
      exact ⟨x, hg, fun j hj => by rw [← Go.Deep.add_add]; exact hat j hj⟩
    obtain ⟨F, hF⟩ := Go.Deep.choose_lt key
    have hFl : (List.map F (List.range len)).length = len := by simp
    have hFg : ∀ i (h : i < (List.map F (List.range len)).length), (List.map F (List.range len))[i] = F i := by intro i h; simp
    obtain ⟨b, off, spot⟩ := a
    have hspot : spot = none := by
      have := (hF 0 (by omega)).2 0 hk
      rw [List.getElem?_eq_getElem (by rw [hlen]; exact hk)] at this
      simpa [Addr.add] using World.cell?_spot this
    subst hspot
    have hbW : b < W.heap.size := hlt (.cell b off) (List.mem_append_left _ (MemPlace.mem_row.2 ⟨0, by rw [hC]; exact Nat.mul_pos (by omega) hk, by simp⟩))
    refine ⟨_, List.map F (List.range len), rfl, ⟨some ⟨b, off, none⟩, m', by rw [hFl], by rw [hFl]; exact hl, hm, fun _ => ⟨b, off, rfl, hbW, fun j u hu => ?_⟩, fun e => by cases e⟩, fun i h => ?_⟩
    · have hj : j < len * k := by
        have := (List.getElem?_eq_some_iff.1 hu).1
        rwa [flat_len f k hlen, hFl] at this
      have hq : j / k < len := Nat.div_lt_of_lt_mul (by rw [Nat.mul_comm]; exact hj)
      have hr : j % k < k := Nat.mod_lt _ hk
      have hjk : j / k * k + j % k = j := by rw [Nat.mul_comm]; exact Nat.div_add_mod j k
      have := flat_get f k hlen (List.map F (List.range len)) (j / k) (j % k) (by rw [hFl]; exact hq) hr
      rw [hjk, hFg, hu] at this
      have h2 := (hF (j / k) hq).2 (j % k) hr
      rw [hjk, ← this] at h2
      have e : (⟨b, off, none⟩ : Addr).add j = ⟨b, off + j, none⟩ := by unfold Addr.add; split <;> simp_all
      rwa [e] at h2
    · rw [hFg]
      exact (hF i (by rwa [hFl] at h)).1
/-- an argument that is a slice, its elements opened by 'hel' -/
theorem open_sliceAt {α : Type} [Inhabited α] {H : Type} {enc : TypeId × Value → H} {P : Program} {W : World} {v : Value} {d : DataW H} {ps : List MemPlace} {base : Nat} {t e : TypeId} {k : Nat} (f : α → List Value) (good : α → Prop)
    (hlen : ∀ x, (f x).length = k) (hk : 0 < k) (ht : P.underlying t = some (.slice e)) (hC : P.cellsOf e = k) (hv : Value.okWide P W .any base t v)
    (h : DataW.Trod enc P W 0 (fun _ => true) true t v d ps) (hlt : ∀ x ∈ ps, x.block < W.heap.size)
    (hel : ∀ n cs x, DataW.trod enc P W 0 (fun _ => true) true n e cs = some x → (∀ p ∈ x.2, p.block < W.heap.size) → ∃ a, cs = f a ∧ good a) :
    ∃ l : List α, SliceAt f W W.heap.size v l ∧ ∀ (i : Nat) (h : i < l.length), good l[i] := by
  obtain ⟨a0, len, cap, rfl⟩ := okWide_slice ht hv
  obtain ⟨fuel, hf⟩ := h
  obtain ⟨v, l, hcs, h1, h2⟩ := open_sliceCell f good hlen hk ht hC hf hlt hel
  simp [Value.cells] at hcs
  subst hcs
  exact ⟨l, h1, h2⟩

instance : Inhabited Rel := ⟨zeroRel⟩
set_option maxRecDepth 100000 in
theorem open_relCells {H : Type} {enc : TypeId × Value → H} {W : World} (n : Nat) (cs : List Value) (x : DataW H × List MemPlace) (h : DataW.trod enc Tryd.prog W 0 (fun _ => true) true n 63 cs = some x) :
    ∃ r : Rel, cs = relCells r ∧ r.name.size ≤ maxLen := by
  obtain ⟨y0, y1, y2, n', _, hl, h0, h1, h2⟩ := Go.Deep.trod_struct3 Tryd.underlying63 h
  have hC : Tryd.prog.cellsOf 63 = 3 := by kernel_rfl
  have k0 : Tryd.prog.cellsOf 9 = 1 := by kernel_rfl
  have k1 : Tryd.prog.cellsOf 3 = 1 := by kernel_rfl
  have k2 : Tryd.prog.cellsOf 4 = 1 := by kernel_rfl
  rw [hC] at hl
  match cs, hl with
  | [c0, c1, c2], _ =>
    simp only [k0, k1, k2, List.drop_zero, List.take_succ_cons, List.take_zero, List.drop_succ_cons] at h0 h1 h2
    obtain ⟨s, hs, _, hl⟩ := DataW.trod_string Tryd.underlying9 h0
    obtain ⟨a, ha, _, hw⟩ := DataW.trod_int Tryd.underlying3 h1
    obtain ⟨b, hb, _⟩ := DataW.trod_bool Tryd.underlying4 h2
    simp only [List.cons.injEq, and_true] at hs ha hb
    subst hs ha hb
    exact ⟨⟨s, a, b⟩, rfl, hl⟩
set_option maxRecDepth 100000 in
/-- an argument that is a slice of relations -/
theorem open_rels {H : Type} {enc : TypeId × Value → H} {W : World} {v : Value} {d : DataW H} {ps : List MemPlace} {base : Nat} (hv : Value.okWide Tryd.prog W .any base 39 v)
    (h : DataW.Trod enc Tryd.prog W 0 (fun _ => true) true 39 v d ps) (hlt : ∀ x ∈ ps, x.block < W.heap.size) : ∃ l : List Rel, RelsAt W W.heap.size v l ∧ RelsWf l :=
  open_sliceAt relCells (fun r => r.name.size ≤ maxLen) relCells_len (by omega) Tryd.underlying39 (by kernel_rfl) hv h hlt (fun n cs x hx _ => open_relCells n cs x hx)

set_option maxRecDepth 100000 in
theorem open_RelationS {H : Type} {enc : TypeId × Value → H} {W : World} {v : Value} {d : DataW H} {ps : List MemPlace} {base : Nat} (hv : Value.okWide Tryd.prog W .any base 39 v)
    (h : DataW.Trod enc Tryd.prog W 0 (fun _ => true) true 39 v d ps) (hlt : ∀ x ∈ ps, x.block < W.heap.size) : ∃ l : List Rel, RelationS_at W W.heap.size v l ∧ RelationS_wf l := open_rels hv h hlt

end Go.Proofs.YtakflmaeclneiaaDoor
