/-
  Walks and plain lemmas for the laws of this seat: what single Go functions return, for every argument.
-/
import Derived.Test.YtalijnfbopcmeaaRows
import Derived.ProofKit
import Derived.OpenShut
import Derived.JoinedCond
import Derived.Carry
import Derived.Deep.Slices
import Derived.Lib.SmallJoins
import Derived.Test.YtalijnfbopcmeaaBase
import Derived.Test.YtalijnfbopcmeaaMem
import Derived.Test.YtalijnfbopcmeaaInts
import Derived.Test.YtalijnfbopcmeaaTyInst
namespace Go.Proofs.Ytalijnfbopcmeaa
open Go.RowKit Go.ChangeShapes Go.WideShapes Go.ChangeAt

theorem trodAll_below {H : Type} {enc : TypeId × Value → H} {P : Program} (hl : laidOutB P = true) {W W' : World} (hB : Below W.heap.size W W') :
    ∀ (ts : List TypeId) (vs : List Value) (ds : List (DataW H)) (ps : List MemPlace), (∀ t ∈ ts, P.readableRec t = true ∧ t < P.types.size) →
      DataW.TrodAll enc P W 0 (fun _ => true) true ts vs ds ps → (∀ x ∈ ps, x.block < W.heap.size) → DataW.TrodAll enc P W' 0 (fun b => decide (b < W.heap.size)) true ts vs ds ps
  | [], _, _, _, _, h, _ => by
    obtain ⟨rfl, rfl, rfl⟩ := trodAll_nil h
    exact trodAll_mk0
  | t :: ts, _, _, _, hts, h, hlt => by
    obtain ⟨v, vs', d, ds', p, q, rfl, rfl, rfl, h0, hr⟩ := trodAll_cons h
    have h1 := hts t (by simp)
    exact trodAll_cons_mk (Below.trod hl h1.1 h1.2 h0 hB (fun x hx => hlt x (List.mem_append_left _ hx)))
      (trodAll_below hl hB ts vs' ds' q (fun u hu => hts u (by simp [hu])) hr (fun x hx => hlt x (List.mem_append_right _ hx)))
/-- what a law leaves: 'true', nothing old has turned: all arguments read as they did -/
theorem law_post {H : Type} {enc : TypeId × Value → H} {P : Program} {f : Func} {s : ChangeSpec} {W W' : World} {args : Array Value} {ds : List (DataW H)} {before : List MemPlace} {b : TypeId}
    (hl : laidOutB P = true) (hty : ∀ t ∈ f.params.toList, P.readableRec t = true ∧ t < P.types.size) (hb : P.underlying b = some .bool) (hr : f.resultTypes = #[b]) (hv : s.vars = [])
    (hW : DataW.Whole enc P f.params.toList s.vars false W args.toList ds [] before) (hfn : s.fn H ds = { results := [.lit (.bool true)], args := ds }) (hB : Below W.heap.size W W') :
    s.post enc P f false true false false W args (.bool true) W' := by
  have hlt := hW.lt
  have hW' := hW
  obtain ⟨p, q, hA, hV, rfl, hfz, hnd⟩ := hW
  rw [hv] at hV
  obtain ⟨_, rfl⟩ := trodVars_none hV
  refine ⟨ds, [], p ++ [], [], p, [], hW', ?_, ?_, ?_, ?_, fun h => by cases h⟩
  · rw [List.append_nil, hfn, hr]
    exact trodAll_mk1 (shut_bool hb true)
  · rw [List.append_nil, hfn]
    exact trodAll_below hl hB _ _ _ _ hty hA (fun x hx => hlt x (by simpa using hx))
  · rw [List.append_nil, hfn, hv]
    exact (by simp [DataW.TrodVars])
  · exact World.keptBut_mono (fun x hx => ⟨hx, Or.inr (Or.inl (by simpa using hx))⟩) (hB.frame (· ∈ p ++ []))
theorem ownFact : ownKnob Try.prog.godebug = none := by kernel_rfl
theorem laidFact : laidOutB Try.prog = true := by kernel_rfl
theorem i64_le {n : Int} (h : (Lit.int .i64 n).wf = true) : n ≤ 9223372036854775807 := by
  simp [Lit.wf, IntKind.min, IntKind.max, IntKind.signed, IntKind.bits] at h; omega
theorem i64_ge {n : Int} (h : (Lit.int .i64 n).wf = true) : -9223372036854775808 ≤ n := by
  simp [Lit.wf, IntKind.min, IntKind.max, IntKind.signed, IntKind.bits] at h; omega

/-- one cell that is a slice, its elements opened by 'hel' -/
theorem open_sliceCell {α : Type} [Inhabited α] {H : Type} {enc : TypeId × Value → H} {P : Program} {W : World} {cs : List Value} {x : DataW H × List MemPlace} {fuel : Nat} {t e : TypeId} {k : Nat} (f : α → List Value) (good : α → Prop)
    (hlen : ∀ x, (f x).length = k) (hk : 0 < k) (ht : P.underlying t = some (.slice e)) (hC : P.cellsOf e = k)
    (hf : DataW.trod enc P W 0 (fun _ => true) true fuel t cs = some x) (hlt : ∀ p ∈ x.2, p.block < W.heap.size)
    (hel : ∀ n cs x, DataW.trod enc P W 0 (fun _ => true) true n e cs = some x → (∀ p ∈ x.2, p.block < W.heap.size) → ∃ a, cs = f a ∧ good a) :
    ∃ (v : Value) (l : List α), cs = [v] ∧ SliceAt f W W.heap.size v l ∧ ∀ (i : Nat) (h : i < l.length), good l[i] := by
  rcases Go.Deep.open_slice ht hf with ⟨rfl, rfl⟩ | ⟨a, len, m, m', n, D, Pl, rfl, _, hl, hm, hmm, rfl, hi⟩
  · exact ⟨_, [], rfl, ⟨none, 0, rfl, Nat.le_refl _, by decide, fun h => absurd h (by simp), fun _ => rfl⟩, fun i h => absurd h (by simp)⟩
  · simp only [if_true] at hmm
    subst hmm
    by_cases h0 : len = 0
    · subst h0
      exact ⟨_, [], rfl, ⟨some a, m', rfl, Nat.zero_le _, hm, fun h => absurd h (by simp), fun e => by cases e⟩, fun i h => absurd h (by simp)⟩
    have key : ∀ i, i < len → ∃ x : α, good x ∧ ∀ j, j < k → W.cell? (a.add (i * k + j)) = (f x)[j]? := by
      intro i hil
      obtain ⟨cs', hc, ht'⟩ := hi i (by omega)
      rw [hC] at hc
      obtain ⟨_, hcl, hat⟩ := World.cells?_some hc
      obtain ⟨x, rfl, hg⟩ := hel n cs' _ ht' (fun p hp => hlt p (List.mem_append_right _ (List.mem_flatMap.2 ⟨i, List.mem_range.2 (by omega), hp⟩)))
      exact ⟨x, hg, fun j hj => by rw [← Go.Deep.add_add]; exact hat j hj⟩
    obtain ⟨F, hF⟩ := Go.Deep.choose_lt key
    have hFl : (List.map F (List.range len)).length = len := by simp
    have hFg : ∀ i (h : i < (List.map F (List.range len)).length), (List.map F (List.range len))[i] = F i := by intro i h; simp
    obtain ⟨b, off, spot⟩ := a
    have hspot : spot = none := by
      have := (hF 0 (by omega)).2 0 hk
      rw [List.getElem?_eq_getElem (by rw [hlen]; exact hk)] at this
      simpa [Addr.add] using World.cell?_spot this
    subst hspot
    have hbW : b < W.heap.size := hlt (.cell b off) (List.mem_append_left _ (MemPlace.mem_row.2 ⟨0, by rw [hC]; exact Nat.mul_pos (by omega) hk, by simp⟩))
    refine ⟨_, List.map F (List.range len), rfl, ⟨some ⟨b, off, none⟩, m', by rw [hFl], by rw [hFl]; exact hl, hm, fun _ => ⟨b, off, rfl, hbW, fun j u hu => ?_⟩, fun e => by cases e⟩, fun i h => ?_⟩
    · have hj : j < len * k := by
        have := (List.getElem?_eq_some_iff.1 hu).1
        rwa [flat_len f k hlen, hFl] at this
      have hq : j / k < len := Nat.div_lt_of_lt_mul (by rw [Nat.mul_comm]; exact hj)
      have hr : j % k < k := Nat.mod_lt _ hk
      have hjk : j / k * k + j % k = j := by rw [Nat.mul_comm]; exact Nat.div_add_mod j k
      have := flat_get f k hlen (List.map F (List.range len)) (j / k) (j % k) (by rw [hFl]; exact hq) hr
      rw [hjk, hFg, hu] at this
      have h2 := (hF (j / k) hq).2 (j % k) hr
      rw [hjk, ← this] at h2
      have e : (⟨b, off, none⟩ : Addr).add j = ⟨b, off + j, none⟩ := by unfold Addr.add; split <;> simp_all
      rwa [e] at h2
    · rw [hFg]
      exact (hF i (by rwa [hFl] at h)).1
/-- an argument that is a slice, its elements opened by 'hel' -/
theorem open_sliceAt {α : Type} [Inhabited α] {H : Type} {enc : TypeId × Value → H} {P : Program} {W : World} {v : Value} {d : DataW H} {ps : List MemPlace} {base : Nat} {t e : TypeId} {k : Nat} (f : α → List Value) (good : α → Prop)
    (hlen : ∀ x, (f x).length = k) (hk : 0 < k) (ht : P.underlying t = some (.slice e)) (hC : P.cellsOf e = k) (hv : Value.okWide P W .any base t v)
    (h : DataW.Trod enc P W 0 (fun _ => true) true t v d ps) (hlt : ∀ x ∈ ps, x.block < W.heap.size)
    (hel : ∀ n cs x, DataW.trod enc P W 0 (fun _ => true) true n e cs = some x → (∀ p ∈ x.2, p.block < W.heap.size) → ∃ a, cs = f a ∧ good a) :
    ∃ l : List α, SliceAt f W W.heap.size v l ∧ ∀ (i : Nat) (h : i < l.length), good l[i] := by
  obtain ⟨a0, len, cap, rfl⟩ := okWide_slice ht hv
  obtain ⟨fuel, hf⟩ := h
  obtain ⟨v, l, hcs, h1, h2⟩ := open_sliceCell f good hlen hk ht hC hf hlt hel
  simp [Value.cells] at hcs
  subst hcs
  exact ⟨l, h1, h2⟩

set_option maxRecDepth 100000 in
/-- one cell that is a slice of ints -/
theorem open_intsCell {H : Type} {enc : TypeId × Value → H} {W : World} (n : Nat) (cs : List Value) (x : DataW H × List MemPlace) (h : DataW.trod enc Try.prog W 0 (fun _ => true) true n 24 cs = some x) (hlt : ∀ p ∈ x.2, p.block < W.heap.size) :
    ∃ v l, cs = [v] ∧ IntsAt W W.heap.size v l ∧ IntsWf l :=
  open_sliceCell (k := 1) intCell (fun n => -9223372036854775808 ≤ n ∧ n ≤ 9223372036854775807) (fun _ => rfl) (by omega) Try.underlying24 (by kernel_rfl) h hlt (fun n cs x hx _ => by
    obtain ⟨a, ha, _, hw⟩ := DataW.trod_int Try.underlying3 hx
    subst ha
    refine ⟨a, rfl, ?_⟩
    simp [Lit.wf, IntKind.min, IntKind.max, IntKind.signed, IntKind.bits] at hw
    omega)

theorem array1 {α : Type} {cs : Array α} (h : cs.size = 1) : ∃ c0, cs = #[c0] := by
  obtain ⟨l⟩ := cs
  match l, h with
  | [c0], _ => exact ⟨c0, rfl⟩
/-- a struct of one cell, by value, opened -/
theorem open_agg1 {H : Type} {enc : TypeId × Value → H} {P : Program} {w : World} {base b0 : Nat} {spare : Nat → Bool} {held : Bool} {r : Reach} {t : TypeId} {f0 : Field} {v : Value} {d : DataW H} {p : List MemPlace}
    (hs : P.underlying t = some (.struct #[f0])) (hone : Go.Deep.oneCellFields P #[f0] = true) (hC : P.cellsOf t = 1)
    (hv : Value.okWide P w r b0 t v) (h : DataW.Trod enc P w base spare held t v d p) :
    ∃ (v0 : Value) (y0 : DataW H × List MemPlace) (n : Nat), v = .agg #[v0] ∧ d = .agg [y0.1] ∧ p = y0.2 ∧ DataW.trod enc P w base spare held n f0.type [v0] = some y0 := by
  obtain ⟨cs, rfl, hsz⟩ := Go.WideShapes.okWide_struct hs hv
  obtain ⟨c0, rfl⟩ := array1 (hsz.trans hC)
  obtain ⟨fuel, hf⟩ := h
  obtain ⟨y0, n, hx, _, h0⟩ := Go.ChangeShapes.trod_struct1 hs hf
  obtain ⟨o0, k0⟩ := Go.Deep.hone_of hone 0 f0 rfl
  simp only [Prod.mk.injEq] at hx
  exact ⟨c0, y0, n, rfl, hx.1, hx.2, by simpa [Value.cells, o0, k0] using h0⟩
set_option maxRecDepth 100000 in
/-- an argument that is a union-find -/
theorem open_UnionFind {H : Type} {enc : TypeId × Value → H} {W : World} {v : Value} {d : DataW H} {ps : List MemPlace} {base : Nat} (hv : Value.okWide Try.prog W .any base 46 v)
    (h : DataW.Trod enc Try.prog W 0 (fun _ => true) true 46 v d ps) (hlt : ∀ x ∈ ps, x.block < W.heap.size) : ∃ x : List Int, UnionFind_at W W.heap.size v x ∧ UnionFind_wf x := by
  obtain ⟨v0, y0, n, rfl, _, rfl, h0⟩ := open_agg1 Try.underlying46 (by kernel_rfl) (by kernel_rfl) hv h
  obtain ⟨V1, l1, e1, h2, h3⟩ := open_intsCell _ _ _ h0 hlt
  simp only [List.cons.injEq, and_true] at e1
  subst e1
  exact ⟨l1, ⟨_, rfl, h2⟩, h3⟩

end Go.Proofs.Ytalijnfbopcmeaa
