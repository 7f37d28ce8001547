/-
  Walks and plain lemmas for the laws of this seat: what single Go functions return, for every argument.
-/
import Derived.Test.YtalijnfbopcmeaaMem
namespace Go.Proofs.Ytalijnfbopcmeaa
open Go.RowKit

/-- append of many elements, read from a slice; of these alone it is asked that each cell be one cell -/
theorem wp_own_appsM {P : Program} {α : Type} (f : α → List Value) (k bytes : Nat) (hf : ∀ x, (f x).length = k) {ops : Array Oper} {rest : List Oper} {o : Oper} {a : Act} {Q : Exit → Act → World → Prop} {B : Nat} {v : Value} {l r : List α} {w : World} {e t : TypeId} {z : Value}
    (hone : ∀ x ∈ r, ∀ u ∈ f x, u.oneCell' = true) (ht : P.underlying t = some (.slice e)) (hinfo : (P.info? e).map (fun i => (i.zero, i.size, i.bytes)) = some (some z, k, bytes)) (hzs : z.cells.size = k) (hk : 0 < k)
    (hO : w.ownsRow B e k v l.length (l.flatMap f)) (hgd : o.guard = none) (s x : Operand) (ho : o.op = .call { callee := .builtin .append, args := #[s, x], argTypes := #[t, t] }) (hs : a.eval s = v) (b off m c : Nat) (hx : a.eval x = .slice (some ⟨b, off, none⟩) m c) (hm : r.length = m) (hr : ∀ j u, (r.flatMap f)[j]? = some u → w.cell? ⟨b, off + j, none⟩ = some u)
    (hlen : (l.length + r.length) * bytes ≤ 140737488355328) (hl2 : l.length + r.length < 140737488355328) (hbase : B ≤ w.heap.size)
    (h : ∀ v' w', w'.ownsRow B e k v' (l ++ r).length ((l ++ r).flatMap f) → Below B w w' → w.grownBy w' v.ownBlock → (v'.ownBlock = v.ownBlock ∨ v'.ownBlock = some w.heap.size) → wpList P ops Q rest (a.put o.dst v') w') :
    wpList P ops Q (o :: rest) a w := by
  subst hm
  obtain ⟨i0, hi, hz0, hz1, hz2⟩ := info_parts hinfo
  have hcell : ∀ j u, (r.flatMap f)[j]? = some u → w.cell? ((⟨b, off, none⟩ : Addr).add j) = some u := by
    intro j u hu
    have e1 : (⟨b, off, none⟩ : Addr).add j = ⟨b, off + j, none⟩ := by unfold Addr.add; split <;> simp_all
    rw [e1]; exact hr j u hu
  refine wpList_append_own_at _ hgd s x t ho B e i0 z k bytes ht hi hz0 hz1 hz2 hzs hk v l.length (l.flatMap f) hs hO ⟨b, off, none⟩ r.length c (r.flatMap f) hx (flat_len f k hf r) hcell (fun u hu => by obtain ⟨y, hy1, hy⟩ := List.mem_flatMap.1 hu; exact hone y hy1 u hy) (by unfold maxLen; omega) hlen hbase ?_
  intro v' w' h2 h3 _ h5
  refine h v' w' ?_ ((Below.refl B w).grown h3 hbase (fun g hg => (hO.lt g hg).1)) h3 h5
  rw [List.length_append, List.flatMap_append]
  exact h2

end Go.Proofs.Ytalijnfbopcmeaa
