/-
  Walks and plain lemmas for the laws of this seat: what single Go functions return, for every argument.
-/
import Derived.Test.YtmecdjincmkofaaGreatDoorShelf
import Derived.Shelf.SlSortCmp.WholeK
import Derived.Test.YtmecdjincmkofaaGreatDoorTyInst
import Derived.Test.YtmecdjincmkofaaGreatDoorTakeE
import Derived.Test.YtmecdjincmkofaaGreatDoorMSub
import Derived.Test.YtmecdjincmkofaaGreatDoorValInI
namespace Go.Proofs.YtmecdjincmkofaaGreatDoor
open Go.RowKit Go.Sort Go.Lib Go.Shelf

/-- a fact with its slice, in memory of the call's own -/
abbrev FZ (B C : Nat) (w : World) := { z : Fct × Value // IntS_own B C z.2 z.1.vals w }
def encZ {B C : Nat} {w : World} (z : FZ B C w) : List Value := zCells z.1
def cmpZ {B C : Nat} {w : World} (a b : FZ B C w) : Int := cmpF a.1.1 b.1.1
theorem swoZ {B C : Nat} {w : World} [Inhabited (FZ B C w)] : SWO (ltOf (cmpZ (B := B) (C := C) (w := w))) where
  irrefl x := by unfold ltOf cmpZ; rw [cmpF_self]; rfl
  trans x y z h1 h2 := by
    unfold ltOf cmpZ at *
    exact decide_eq_true (cmpF_trans _ _ _ (of_decide_eq_true h1) (of_decide_eq_true h2))
  ntrans x y z h1 h2 := by
    unfold ltOf cmpZ at *
    refine decide_eq_false fun h => ?_
    have n1 := of_decide_eq_false h1
    have n2 := of_decide_eq_false h2
    by_cases e : x.1.1 = y.1.1
    · rw [e] at h; exact n2 h
    · exact n2 (cmpF_trans _ _ _ (cmpF_flip n1 e) h)
theorem chg_sortWorld {α : Type} [Inhabited α] (enc : α → List Value) (k : Nat) (w : World) (q m : Nat) (d : Array α) (os : Array Obj) : Chg (fun g => g = q) w (sortWorldK enc k w q 0 m d os) := by
  refine ⟨rfl, rfl, rfl, by simp [sortWorldK, grow, putRowK, putRow, mapBlock, Sort.ahead], fun g hg hne => ?_⟩
  simp only [sortWorldK, grow, putRowK, putRow, mapBlock, Sort.ahead]
  rw [Array.getElem?_append_left (by simpa using hg), Array.getElem?_modify, if_neg (fun e => hne e.symm)]
theorem flatK_list {α : Type} [Inhabited α] (enc : α → List Value) (k : Nat) (hk : ∀ x, (enc x).length = k) (hk0 : 0 < k) (l : List α) : (flatK enc k l.toArray).toList = l.flatMap enc := by
  apply List.ext_getElem?
  intro t
  by_cases ht : t < l.length * k
  · have h1 : t / k < l.length := Nat.div_lt_of_lt_mul (by rw [Nat.mul_comm]; exact ht)
    have h2 : t % k < k := Nat.mod_lt _ hk0
    have hfl := flat_get enc k hk l (t / k) (t % k) h1 h2
    rw [show t / k * k + t % k = t by rw [Nat.mul_comm]; exact Nat.div_add_mod t k] at hfl
    rw [hfl, Array.getElem?_toList, Array.getElem?_eq_getElem (by simpa using ht)]
    have hg := get_flatK enc k l.toArray t (by simpa using ht)
    rw [getElem!_pos _ t (by simpa using ht)] at hg
    rw [hg, getElem!_pos l.toArray (t / k) (by simpa using h1)]
    simp only [List.getElem_toArray]
    rw [getElem!_pos _ _ (by rw [hk]; exact h2), List.getElem?_eq_getElem (by rw [hk]; exact h2)]
  · rw [List.getElem?_eq_none (by simp; omega), List.getElem?_eq_none (by rw [flat_len enc k hk]; omega)]
theorem oneZ {B C : Nat} {w : World} (x : FZ B C w) : ∀ v ∈ encZ x, v.oneCell' = true := by
  intro v hv
  unfold encZ zCells at hv
  rcases List.mem_cons.1 hv with h | h
  · rw [h]; rfl
  · rw [List.mem_singleton.1 h]
    obtain ⟨A, c, e, _⟩ := (x.2.at_ (Nat.le_refl _)).form
    rw [e]; rfl
/-- the row, as the sort sees it -/
theorem holdsK_of_row {α : Type} [Inhabited α] (enc : α → List Value) (k : Nat) (hk : ∀ x, (enc x).length = k) (hk0 : 0 < k) {w : World} {B q n cap : Nat} {e : TypeId} {l : List α} (h : w.ownsRow B e k (.slice (some ⟨q, 0, none⟩) n cap) n (l.flatMap enc)) (hl : l.length = n) : HoldsK enc k w q 0 l.toArray := by
  intro j hj
  rw [size_flatK] at hj
  have hj' : j < n * k := by simpa [hl] using hj
  refine ⟨?_, World.ownsRow.frozenAt h _⟩
  rw [Nat.zero_add, World.ownsRow.cellAt h j hj', ← flatK_list enc k hk hk0 l, Array.getElem?_toList, Array.getElem?_eq_getElem (by rw [size_flatK]; exact hj)]
  rw [getElem!_pos _ j (by rw [size_flatK]; exact hj)]
  rfl
/-- .. and behind it -/
theorem row_of_sort {α : Type} [Inhabited α] (enc : α → List Value) (k : Nat) (hk : ∀ x, (enc x).length = k) (hk0 : 0 < k) {w : World} {B q n cap m : Nat} {e : TypeId} {xs : List Value} {l : List α} {os : Array Obj} (h : w.ownsRow B e k (.slice (some ⟨q, 0, none⟩) n cap) n xs) (hl : l.length = n) :
    (sortWorldK enc k w q 0 m l.toArray os).ownsRow B e k (.slice (some ⟨q, 0, none⟩) n cap) n (l.flatMap enc) := by
  rcases h.2 with ⟨e0, _⟩ | ⟨g', cap', cur, e0, hb, hg, hn, hm, hs, ht⟩
  · cases e0
  · injection e0 with e1 _ e3
    injection e1 with e1
    injection e1 with e1
    subst e1; subst e3
    have hqs := (Array.getElem?_eq_some_iff.1 hg).1
    refine ⟨by rw [flat_len enc k hk, hl], .inr ⟨q, cap, putCells id 0 (flatK enc k l.toArray) cur, rfl, hb, ?_, hn, hm, by simpa [putCells] using hs, ?_⟩⟩
    · simp only [sortWorldK, grow, putRowK, putRow, mapBlock, Sort.ahead]
      rw [Array.getElem?_append_left (by simpa using hqs), Array.getElem?_modify, if_pos rfl, hg]
      rfl
    · rw [← flatK_list enc k hk hk0 l]
      apply List.ext_getElem?
      intro j
      have hnc : n * k ≤ cap * k := Nat.mul_le_mul_right k hn
      by_cases hj : j < n * k
      · have hjc : j < cur.size := by omega
        have hjf : j < (flatK enc k l.toArray).size := by rw [size_flatK]; simpa [hl] using hj
        rw [List.getElem?_take, if_pos hj, Array.getElem?_toList, Array.getElem?_toList, Array.getElem?_eq_getElem hjf]
        simp only [putCells, Array.getElem?_mapIdx, Array.getElem?_eq_getElem hjc, Option.map_some]
        rw [if_pos ⟨by omega, by omega⟩]
        simp only [Nat.sub_zero, id]
        rw [getElem!_pos _ j hjf]
      · rw [List.getElem?_take, if_neg hj, List.getElem?_eq_none (by rw [Array.length_toList, size_flatK]; simpa [hl] using hj)]
theorem infoAgg : ∀ w, (isAgg 57).run Tryz.prog w = .ok true w := by intro w; kernel_rfl
theorem sizeFct : ∀ w, (Go.sizeOf 57).run Tryz.prog w = .ok 2 w := by intro w; kernel_rfl
theorem list_perm_of {α : Type} [Inhabited α] {l : List α} {d : Array α} (h : PermIn 0 l.toArray.size l.toArray d) : d.toList.Perm l := by
  obtain ⟨h1, _, h3⟩ := h
  have e1 : l.toArray.extract 0 l.toArray.size = l.toArray := Array.extract_size
  have e2 : d.extract 0 l.toArray.size = d := by rw [← h1]; exact Array.extract_size
  rw [e1, e2] at h3
  exact h3
set_option maxHeartbeats 1600000 in
theorem implSortF_any (l : List Fct) (B C q cap : Nat) (Vs : List Value) (w : World) (hn : l.length ≤ 1048576) (hC : C ≤ w.heap.size) (hne : 0 < l.length) (hO : FactSO 57 B C (.slice (some ⟨q, 0, none⟩) l.length cap) Vs l w) :
    Calls Tryz.prog 137 #[.slice (some ⟨q, 0, none⟩) l.length cap, .func (.func 41) #[] #[]] w fun e w' => e = .returned (.tuple #[]) ∧ ∃ Us R, FactSO 57 B C (.slice (some ⟨q, 0, none⟩) l.length cap) Us R w' ∧ R.length = l.length ∧ NdF R ∧ (∀ x, x ∈ R ↔ x ∈ l) ∧ Chg (fun k => k = q) w w' := by
  obtain ⟨hZ1, hZ2, hZ3, hZ4, hZ5⟩ := hO.toZ
  have hqC : q < C := hO.ins q rfl
  have hdis := hO.dis
  generalize hZ : l.zip Vs = Z at *
  rw [hZ5] at hZ1
  -- the facts with what is known of their slices
  obtain ⟨S, hS⟩ : ∃ S : List (FZ B C w), S.map (·.1) = Z := ⟨Z.attach.map fun z => ⟨z.1, hZ2 z.1 z.2⟩, by rw [List.map_map]; exact List.attach_map_subtype_val Z⟩
  have hSl : S.length = l.length := by rw [← hZ5, ← hS, List.length_map]
  have hcells : ∀ T : List (FZ B C w), T.flatMap encZ = (T.map (·.1)).flatMap zCells := fun T => by rw [List.flatMap_map]; rfl
  have i0 : Inhabited (FZ B C w) := ⟨S[0]'(by omega)⟩
  have hrow : w.ownsRow B 57 2 (.slice (some ⟨q, 0, none⟩) l.length cap) l.length (S.flatMap encZ) := by rw [hcells, hS]; exact hZ1
  have hH := holdsK_of_row (encZ (B := B) (C := C) (w := w)) 2 (fun _ => rfl) (by omega) hrow hSl
  have eg : ∀ args w, (callFunc 41 args).run Tryz.prog w = .ok (.enter 41 args) w := enters_of Tryz.func41 (by kernel_rfl) rfl
  have hcmp : CmpLays Tryz.prog 41 #[] (encZ (B := B) (C := C) (w := w)) 2 cmpZ q 0 S.toArray.size w := by
    intro m os dk _ x y
    have hx : ∀ z : FZ B C w, IntS_at (sortWorldK encZ 2 w q 0 m dk os) (sortWorldK encZ 2 w q 0 m dk os).heap.size z.1.2 z.1.1.vals := fun z => by
      have hc := chg_sortWorld (encZ (B := B) (C := C) (w := w)) 2 w q m dk os
      have := elems_chg (e := 57) (by decide) hrow (Z := [z.1]) (fun z' hz' => by rw [List.mem_singleton.1 hz']; exact z.2) hc z.1 (by simp)
      exact this.1.at_
    have h := implCompareFacts_eq x.1.1.rel y.1.1.rel x.1.2 y.1.2 x.1.1.vals y.1.1.vals _ (hx x) (hx y)
    refine h.mono ?_
    rintro e w' ⟨rfl, -, o1, o2, o3, rfl⟩
    refine ⟨rfl, 1, #[o1, o2, o3], ?_⟩
    generalize sortWorldK encZ 2 w q 0 m dk os = W
    rw [alloc_eq_grow, alloc_eq_grow, alloc_eq_grow]
    show grow (grow (grow W.drew #[o1]) #[o2]) #[o3] = _
    rw [grow_grow, grow_grow]
    rfl
  have hsort := AnyQ.slices_SortFunc Tryz.sortF 2 infoAgg sizeFct (encZ (B := B) (C := C) (w := w)) (fun _ => rfl) oneZ cmpZ swoZ 41 #[] q 0 cap S.toArray w eg hcmp hH (by omega) (by simp; omega)
  have e0 : S.toArray.size = l.length := by simpa using hSl
  have hsort' : Calls Tryz.prog 137 #[.slice (some ⟨q, 0, none⟩) S.toArray.size cap, .func (.func 41) #[] #[]] w _ := hsort
  rw [show (Value.slice (some ⟨q, 0, none⟩) S.toArray.size cap) = .slice (some ⟨q, 0, none⟩) l.length cap by rw [e0]] at hsort'
  refine hsort'.mono ?_
  rintro e w' ⟨rfl, d, n, os, hp, hsd, rfl⟩
  have hperm := list_perm_of hp
  have hdl : d.toList.length = l.length := by rw [hperm.length_eq, hSl]
  have hr := row_of_sort (encZ (B := B) (C := C) (w := w)) 2 (fun _ => rfl) (by omega) (m := n) (os := os) (l := d.toList) hrow hdl
  rw [Array.toArray_toList] at hr
  have hc := chg_sortWorld (encZ (B := B) (C := C) (w := w)) 2 w q n d os
  have hel := elems_chg (e := 57) (by decide) hZ1 hZ2 hc
  have hmem : ∀ z : Fct × Value, z ∈ d.toList.map (·.1) ↔ z ∈ Z := fun z => by rw [← hS]; exact (hperm.map _).mem_iff
  have hpz : (d.toList.map (·.1)).Perm Z := by rw [← hS]; exact hperm.map _
  refine ⟨rfl, (d.toList.map (·.1)).map Prod.snd, (d.toList.map (·.1)).map Prod.fst, ?_, by simpa using hdl, ?_, fun x => ?_, hc⟩
  · rw [hcells] at hr
    refine FactSO.ofZ (by rw [List.length_map, hdl]; exact hr) (fun g hg => by cases hg; exact hqC) (fun z hz => hel z ((hmem z).1 hz)) ?_
    rw [← hZ4] at hdis
    exact (hpz.map Prod.snd).symm.pairwise hdis (fun h g h1 h2 => h g h2 h1)
  · refine List.pairwise_iff_getElem.2 fun i j hi hj hij => ?_
    simp only [List.length_map] at hi hj
    have h1 := hsd i j (Nat.zero_le _) hij (by rw [e0, ← hdl]; exact hj)
    rw [getElem!_pos d j (by simpa using hj), getElem!_pos d i (by simpa using hi)] at h1
    have h2 : ¬ cmpF d[j].1.1 d[i].1.1 < 0 := of_decide_eq_false h1
    simpa using h2
  · rw [← hZ3]
    exact (hpz.map Prod.fst).mem_iff

end Go.Proofs.YtmecdjincmkofaaGreatDoor
