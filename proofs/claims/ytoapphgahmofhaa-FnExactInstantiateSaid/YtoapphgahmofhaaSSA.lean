/-
  Walks and plain lemmas for the laws of this seat: what single Go functions return, for every argument.
-/
import Derived.Test.YtoapphgahmofhaaBase
import Derived.Test.YtoapphgahmofhaaInts
import Derived.Test.YtoapphgahmofhaaAtomM
import Derived.Test.YtoapphgahmofhaaTySS
namespace Go.Proofs.Ytoapphgahmofhaa
open Go.RowKit

theorem IntSSO.append {B C C' : Nat} {v v' : Value} {Vs Us : List Value} {l r : List (List Int)} {w w' : World} (h : IntSSO B C v Vs l w) (hC : C ≤ C')
    (hrow : w'.ownsRow B 34 1 v' (Vs ++ Us).length (Vs ++ Us)) (hg : w.grownBy w' v.ownBlock) (hin : Value.inside C' v') (hl : Us.length = r.length)
    (hU : ∀ (i : Nat) (h1 : i < r.length) (h2 : i < Us.length), IntS_own B C' Us[i] r[i] w) (hUd : Apart Us) (hd : ∀ (i : Nat) (hi : i < Vs.length) (j : Nat) (hj : j < Us.length), ∀ g, Vs[i].ownBlock = some g → Us[j].ownBlock ≠ some g) : IntSSO B C' v' (Vs ++ Us) (l ++ r) w' := by
  have keep : ∀ {V : Value} {us : List Int}, IntS_own B C' V us w → IntS_own B C' V us w' := fun hV => by
    refine ⟨World.ownsRow.kept hV.1 hg ?_, hV.2⟩
    rcases own_ne hV.1 h.row (by decide) with h1 | h1
    · exact .inl h1
    · exact .inr h1
  refine ⟨by rw [List.length_append, List.length_append, h.len, hl], hrow, hin, fun i h1 h2 => ?_, ?_⟩
  · by_cases hi : i < l.length
    · have hiv : i < Vs.length := by rw [h.len]; exact hi
      rw [List.getElem_append_left hi, List.getElem_append_left hiv]
      exact keep ((h.el i hi hiv).mono (Nat.le_refl _) hC)
    · have hvl := h.len
      rw [List.length_append] at h1 h2
      have e1 : (Vs ++ Us)[i]'(by rw [List.length_append]; exact h2) = Us[i - l.length]'(by omega) := by
        rw [List.getElem_append_right (by omega)]
        congr 1; omega
      have e2 : (l ++ r)[i]'(by rw [List.length_append]; exact h1) = r[i - l.length]'(by omega) := List.getElem_append_right (by omega)
      rw [e2, e1]
      exact keep (hU (i - l.length) (by omega) (by omega))
  · refine List.pairwise_append.2 ⟨h.dis, hUd, fun p hp q hq => ?_⟩
    obtain ⟨i, hi, rfl⟩ := List.getElem_of_mem hp
    obtain ⟨j, hj, rfl⟩ := List.getElem_of_mem hq
    exact hd i hi j hj
theorem own_some {w : World} {B k n g : Nat} {e : TypeId} {v : Value} {xs : List Value} (h : w.ownsRow B e k v n xs) (hg : v.ownBlock = some g) : ∃ cap, v = .slice (some ⟨g, 0, none⟩) n cap ∧ n ≤ cap := by
  rcases h.2 with ⟨rfl, h0⟩ | ⟨g', cap, cur, rfl, hb, hgg, hn, hm, _⟩
  · cases hg
  · cases hg; exact ⟨cap, rfl, hn⟩
/-- append(l, r...) at rows, where the rows of r lie behind those of l -/
theorem ss_apps {ops : Array Oper} {rest : List Oper} {o : Oper} {a : Act} {Q : Exit → Act → World → Prop} {B C D : Nat} {v u : Value} {Vs Us : List Value} {l r : List (List Int)} {w : World} (hS : IntSSO B C v Vs l w)
    (hgd : o.guard = none) (s x : Operand) (ho : o.op = .call { callee := .builtin .append, args := #[s, x], argTypes := #[31, 31] }) (hs : a.eval s = v) (hx : a.eval x = u) (hU : IntSSO C D u Us r w) (hu : ∃ g, u.ownBlock = some g) (hv : ∃ g, v.ownBlock = some g)
    (hB : B ≤ C) (hC : C ≤ w.heap.size) (hD : D ≤ w.heap.size) (hlen : l.length + r.length ≤ 1048576)
    (h : ∀ v' w', IntSSO B w'.heap.size v' (Vs ++ Us) (l ++ r) w' → (∃ g, v'.ownBlock = some g) → Below B w w' → wpList Try.prog ops Q rest (a.put o.dst v') w') :
    wpList Try.prog ops Q (o :: rest) a w := by
  have hrow2 : w.ownsRow B 34 1 v Vs.length (Vs.flatMap cell1) := by rw [flat1]; exact hS.row
  obtain ⟨b, hb⟩ := hu
  obtain ⟨c, hc, -⟩ := own_some hU.row hb
  have hl := hS.len
  have hl2 := hU.len
  refine wp_own_appsM cell1 1 24 cell1_len (r := Us) (fun y hy z hz => by
      simp only [cell1, List.mem_singleton] at hz; subst hz
      obtain ⟨i, hi, rfl⟩ := List.getElem_of_mem hy
      obtain ⟨A', c', hv', -⟩ := (hU.el i (by omega) hi).at_ (Nat.le_refl _)
      rw [hv']; rfl) Try.underlying31 infoInts rfl (by decide) hrow2 hgd s x ho hs b 0 Us.length c (by rw [hx, hc]) rfl (fun j z hz => by
      rw [flat1] at hz
      obtain ⟨hj, rfl⟩ := List.getElem?_eq_some_iff.1 hz
      have hr := hU.row
      rw [hc] at hr
      rw [Nat.zero_add, World.ownsRow.cellAt hr j (by omega)]; simp [hj]) (by omega) (by omega) (Nat.le_trans hB hC) ?_
  intro v' w' h1 h2 h3 h4
  rw [flat1] at h1
  refine h v' w' ?_ ?_ h2
  · refine hS.append (Nat.le_trans hC h2.size) h1 h3 (fun g hg => (World.ownsRow.lt h1 g hg).2) hl2 (fun i g1 g2 => (hU.el i g1 g2).mono hB (Nat.le_trans hD h2.size)) hU.dis (fun i hi j hj g hg hg' => ?_)
    have q1 := (hS.el i (by omega) hi).2 g hg
    have q2 := (World.ownsRow.lt (hU.el j (by omega) hj).1 g hg').1
    omega
  · obtain ⟨g, hg⟩ := hv
    rcases h4 with h4 | h4
    · exact ⟨g, h4.trans hg⟩
    · exact ⟨_, h4⟩

theorem chg_row {w w' : World} {row : Option Nat} (h : w.grownBy w' row) : Chg (fun q => row = some q) w w' := by
  refine ⟨h.os, h.tape, h.output, h.size, fun k hk hs => h.block k hk (fun e => hs e.symm)⟩
/-- append(l, r) at rows; what has turned is named -/
theorem ss_app2 {ops : Array Oper} {rest : List Oper} {o : Oper} {a : Act} {Q : Exit → Act → World → Prop} {B C : Nat} {v : Value} {Vs : List Value} {l : List (List Int)} {w : World} (hS : IntSSO B C v Vs l w)
    (hgd : o.guard = none) (s x : Operand) (ho : o.op = .call { callee := .builtin .append, args := #[s, x], argTypes := #[31, 31] }) (hs : a.eval s = v) (b c : Nat) (hx : a.eval x = .slice (some ⟨b, 0, none⟩) 1 c) (P : Option Addr) (n d : Nat) (y : List Int) (hcell : w.cell? ⟨b, 0, none⟩ = some (.slice P n d))
    (hU : IntS_own B w.heap.size (.slice P n d) y w) (hC : C ≤ w.heap.size) (hd : ∀ (i : Nat) (hi : i < Vs.length), ∀ g, Vs[i].ownBlock = some g → (Value.slice P n d).ownBlock ≠ some g) (hlen : l.length ≤ 1000000) (hbase : B ≤ w.heap.size)
    (h : ∀ v' w', IntSSO B w'.heap.size v' (Vs ++ [.slice P n d]) (l ++ [y]) w' → Below B w w' → Chg (fun q => v.ownBlock = some q) w w' → (v'.ownBlock = v.ownBlock ∨ v'.ownBlock = some w.heap.size) → wpList Try.prog ops Q rest (a.put o.dst v') w') :
    wpList Try.prog ops Q (o :: rest) a w := by
  have hrow := hS.row
  have hrow2 : w.ownsRow B 34 1 v Vs.length (Vs.flatMap cell1) := by rw [flat1]; exact hrow
  have hl := hS.len
  refine wp_own_appsM cell1 1 24 cell1_len (r := [.slice P n d]) (fun x hx u hu => by
      rw [List.mem_singleton] at hx; subst hx
      simp only [cell1, List.mem_singleton] at hu; subst hu; rfl) Try.underlying31 infoInts rfl (by decide) hrow2 hgd s x ho hs b 0 1 c hx rfl (fun j u hu => by
      rw [flat1] at hu
      have hj : j = 0 := by
        rcases Nat.eq_zero_or_pos j with h0 | h0
        · exact h0
        · rw [List.getElem?_eq_none (by simp; omega)] at hu; cases hu
      subst hj
      simp only [List.getElem?_cons_zero, Option.some.injEq] at hu
      subst hu; exact hcell) (by simp; omega) (by simp; omega) hbase ?_
  intro v' w' h1 h2 h3 h4
  rw [flat1] at h1
  refine h v' w' ?_ h2 (chg_row h3) h4
  refine hS.snoc (Nat.le_trans hC h2.size) h1 h3 (fun g hg => (World.ownsRow.lt h1 g hg).2) ?_ hd
  exact hU.mono (Nat.le_refl _) h2.size

set_option maxHeartbeats 1600000 in
theorem specInts_any (v u : Value) (a b : List Int) (w : World) (hl : IntsAt w w.heap.size v a) (hm : IntsAt w w.heap.size u b) :
    Calls Try.prog 51 #[v, u] w fun e w' => e = .returned (.int .i64 (cmpInts a b)) ∧ Below w.heap.size w w' := by
  have HL := Lib.hid hl
  have HM := Lib.hid hm
  obtain ⟨A, c, rfl, hlc, hcm, -⟩ := hl
  obtain ⟨A', c', rfl, hlc', hcm', -⟩ := hm
  unfold maxLen at hcm hcm'
  go_enter Try.func51, Try.ntmps51
  go_wp2
  go_loopw [5] (fun i wr => ∃ k : Nat, k ≤ a.length ∧ k ≤ b.length ∧ i = .int .i64 k ∧ Hid (CmpTo a b k) ∧ Below w.heap.size w wr) (fun i _ => a.length - (intOf i).toNat)
  case atStart => exact ⟨0, by omega, by omega, rfl, Lib.hid (CmpTo.zero a b), Below.refl _ _⟩
  case round =>
    obtain ⟨k, hk, hk', rfl, HT, hW⟩ := hrel
    by_cases hlt : k < a.length ∧ k < b.length
    · obtain ⟨hlt, hlt'⟩ := hlt
      obtain ⟨p, off, rfl, hb, c0⟩ := IntsAt.elem HL.out k hlt
      obtain ⟨p', off', rfl, hb', d0⟩ := IntsAt.elem HM.out k hlt'
      have C0 := Aft.cell hb c0
      have D0 := Aft.cell hb' d0
      clear c0 d0
      by_cases h1 : a[k] < b[k]
      · have HV := Lib.hid (HT.out.less hlt hlt' h1)
        have hd : decide (a[k] < b[k]) = true := decide_eq_true h1
        clear h1
        go_wp2
        refine wp_region_aft hW (by kernel_rfl) (by kernel_rfl) ?_
        repeat (go_big_quiet_step (fail))
        refine wpQuiet_nil ?_
        refine aft_end ?_
        intro w1 hh
        go_wp2
        go_ret
        exact ⟨ret_int HV.out.symm, hh⟩
      · have hd : decide (a[k] < b[k]) = false := decide_eq_false h1
        by_cases h2 : b[k] < a[k]
        · have HV := Lib.hid (HT.out.more hlt hlt' h2)
          have hd2 : decide (b[k] < a[k]) = true := decide_eq_true h2
          clear h1 h2
          go_wp2
          refine wp_region_aft hW (by kernel_rfl) (by kernel_rfl) ?_
          repeat (go_big_quiet_step (fail))
          refine wpQuiet_nil ?_
          refine aft_end ?_
          intro w1 hh
          go_wp2
          refine wp_region_aft hh (by kernel_rfl) (by kernel_rfl) ?_
          repeat (go_big_quiet_step (fail))
          refine wpQuiet_nil ?_
          refine aft_end ?_
          intro w2 hh2
          go_wp2
          go_ret
          exact ⟨ret_int HV.out.symm, hh2⟩
        · have HV := Lib.hid (HT.out.next hlt hlt' h1 h2)
          have hd2 : decide (b[k] < a[k]) = false := decide_eq_false h2
          clear h1 h2
          go_wp2
          refine wp_region_aft hW (by kernel_rfl) (by kernel_rfl) ?_
          repeat (go_big_quiet_step (fail))
          refine wpQuiet_nil ?_
          refine aft_end ?_
          intro w1 hh
          go_wp2
          refine wp_region_aft hh (by kernel_rfl) (by kernel_rfl) ?_
          repeat (go_big_quiet_step (fail))
          refine wpQuiet_nil ?_
          refine aft_end ?_
          intro w2 hh2
          go_wp2
          go_roundw
          case rel => exact ⟨k + 1, by omega, by omega, by go_num, HV, hh2⟩
          case measure => simp [intOf]; omega
    · have HV := Lib.hid (HT.out.done (by omega) hk hk')
      by_cases e1 : a.length < b.length
      · have HV' := Lib.hid (HV.out.trans (if_pos e1))
        by_cases hka : k < a.length
        · omega
        all_goals
          go_wp2
          go_ret
          exact ⟨ret_int HV'.out.symm, hW⟩
      · by_cases e2 : b.length < a.length
        · have HV' := Lib.hid (HV.out.trans ((if_neg e1).trans (if_pos e2)))
          have hka : k < a.length := by omega
          have hkb : ¬ k < b.length := by omega
          go_wp2
          go_ret
          exact ⟨ret_int HV'.out.symm, hW⟩
        · have HV' := Lib.hid (HV.out.trans ((if_neg e1).trans (if_neg e2)))
          have hka : ¬ k < a.length := by omega
          have hkb : ¬ k < b.length := by omega
          go_wp2
          go_ret
          exact ⟨ret_int HV'.out.symm, hW⟩

end Go.Proofs.Ytoapphgahmofhaa
