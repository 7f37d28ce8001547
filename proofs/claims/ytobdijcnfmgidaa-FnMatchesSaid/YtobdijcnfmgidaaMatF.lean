/-
  Walks and plain lemmas for the laws of this seat: what single Go functions return, for every argument.
-/
import Derived.Test.YtobdijcnfmgidaaDrawD9
import Derived.Test.YtobdijcnfmgidaaMatW
import Derived.Test.YtobdijcnfmgidaaMatK
import Derived.Test.YtobdijcnfmgidaaInstM
namespace Go.Proofs.Ytobdijcnfmgidaa
open Go.RowKit

def hasExt (x : Inst) (l : List Atm) (b : List Int) : Bool := okM x l && (decide (b.length = 5) && decide (0 < (walkM x.facts l b).length))
set_option maxHeartbeats 3200000 in
set_option maxRecDepth 100000 in
theorem specHasExt_any (v u : Value) (x : Inst) (l : List Atm) (bv : Value) (b : List Int) (w : World) (hx : Instance_at w w.heap.size v x) (hxw : Instance_wf x) (hn : x.rels.length ≤ 1048576) (hl : AtomS_at w w.heap.size u l) (hlw : AtomS_wf l) (hb : IntsAt w w.heap.size bv b) :
    Calls Try.prog 29 #[v, u, bv] w fun e w' => e = .returned (.bool (hasExt x l b)) ∧ Below w.heap.size w w' := by
  have HX := Lib.hid hx
  have HL := Lib.hid hl
  have HB := Lib.hid hb
  obtain ⟨P, c, Q, d, rfl⟩ := Instance_form hx
  obtain ⟨R, q, rfl, hq1, hq2⟩ := hl.form
  obtain ⟨S, t, rfl, ht1, ht2, -, -⟩ := hb
  unfold maxLen at hq2 ht2
  clear hx hl
  obtain ⟨E, hEq⟩ : ∃ E, E = w.alloc (.cells #[.slice P x.rels.length c, .slice Q x.facts.length d] 27) := ⟨_, rfl⟩
  have hE : Below w.heap.size w E := by rw [hEq]; exact below_more (Below.refl _ _) _
  have X0 : E.cell? ⟨w.heap.size, 0, none⟩ = some (.slice P x.rels.length c) := by rw [hEq]; simp [go_sem]
  have X1 : E.cell? ⟨w.heap.size, 1, none⟩ = some (.slice Q x.facts.length d) := by rw [hEq]; simp [go_sem]
  have hEz : w.heap.size < E.heap.size := by rw [hEq]; simp
  have hok := specL11Ok_len _ x _ l E ((HX.out.below hE (Nat.le_refl _)).more hE.size) hxw hn ((HL.out.below hE (Nat.le_refl _)).more hE.size) hlw
  rw [hEq] at hok
  obtain ⟨ok, hk⟩ : ∃ ok, okM x l = ok := ⟨_, rfl⟩
  rw [hk] at hok
  go_enter Try.func29, Try.ntmps29
  go_wp2_with fail
  refine hok.mono ?_
  rintro e w1 ⟨rfl, hb1⟩
  rw [← hEq] at hb1
  clear hEq hok
  have hw1 := hE.trans (hb1.mono hE.size)
  have x0 := (hb1.cell (p := ⟨w.heap.size, 0, none⟩) hEz).trans X0
  have x1 := (hb1.cell (p := ⟨w.heap.size, 1, none⟩) hEz).trans X1
  have HW1 := Lib.hid hw1
  clear X0 X1 hb1 hEz hw1
  cases ok with
  | false =>
    have HF := Lib.hid (show hasExt x l b = false by unfold hasExt; rw [hk]; rfl)
    clear hk
    go_wp2
    go_ret
    exact ⟨ret_bool HF.out.symm, HW1.out⟩
  | true =>
    obtain ⟨h30, h3, h5⟩ := okM_parts hk
    by_cases hb5 : b.length = 5
    · have d5 : ((b.length : Int) == 5) = true := by rw [hb5]; rfl
      have hwk := specL11Walk_any _ _ x l hxw h30 hlw h3 h5 l.length 0 (.slice S b.length t) b w1 (by omega) ((HX.out.below HW1.out (Nat.le_refl _)).more HW1.out.size) ((HL.out.below HW1.out (Nat.le_refl _)).more HW1.out.size) ((HB.out.below HW1.out (Nat.le_refl _)).more HW1.out.size) hb5
      have HF := Lib.hid (show hasExt x l b = decide (0 < (walkM x.facts l b).length) by unfold hasExt; rw [hk, decide_eq_true hb5]; rfl)
      have HB5 := Lib.hid hb5
      clear hk h30 h3 h5 hb5
      go_wp2_with fail
      refine hwk.mono ?_
      rintro e w2 ⟨U, Us, rfl, ⟨g, hg⟩, hS, hb2⟩
      obtain ⟨cu, rfl, -⟩ := own_some hS.row hg
      have hlen : Us.length = (walkM x.facts l b).length := by have := hS.len; rwa [List.drop_zero] at this
      rw [← hlen] at HF
      have hw2 := HW1.out.trans (hb2.mono HW1.out.size)
      clear hS hg hwk hlen
      go_wp2
      go_ret
      exact ⟨ret_bool (by rw [HF.out] <;> simp), hw2⟩
    · have d5 : ((b.length : Int) == 5) = false := by rw [beq_eq_false_iff_ne]; omega
      have HF := Lib.hid (show hasExt x l b = false by unfold hasExt; rw [decide_eq_false hb5] <;> simp)
      clear hk hb5 h30 h3 h5
      go_wp2
      go_ret
      exact ⟨ret_bool HF.out.symm, HW1.out⟩
theorem specHasExtension_c (v : Value) (x : Inst) (u : Value) (l : List Atm) (bv : Value) (b : List Int) (w : World) (h : Instance_at w w.heap.size v x) (hw : Instance_wf x) (hn : Instance_sz x ≤ 1048576) (h' : AtomS_at w w.heap.size u l) (hw' : AtomS_wf l) (_ : AtomS_sz l ≤ 1048576) (h'' : IntS_at w w.heap.size bv b) (_ : IntS_wf b) (_ : IntS_sz b ≤ 1048576) :
    Calls Try.prog 29 #[v, u, bv] w fun e w' => e = .returned (.bool (hasExt x l b)) ∧ Below w.heap.size w w' :=
  specHasExt_any v u x l bv b w h hw (by unfold Instance_sz RelationS_sz at hn; omega) h' hw' h''

/-- a binding binds just these variables -/
def bindsOk (b vars : List Int) : Bool := (List.range b.length).all fun k => decide ((k : Int) ∈ vars) != decide (b.getD k 0 = 10)
/-- the instantiated atom is a fact -/
def instIn (x : Inst) (b : List Int) (a : Atm) : Bool := match instL b a.vals with
  | some vs => decide (0 ≤ placeF ⟨a.rel, vs⟩ x.facts)
  | none => false
def trigOk (x : Inst) (d : Dep) (b : List Int) : Bool := instOk x && (depOk x.rels d && (decide (b.length = 5) && (bindsOk b (varsOf d.body) && d.body.all (instIn x b))))
def activeOk (x : Inst) (d : Dep) (b : List Int) : Bool := trigOk x d b && (if d.egd = true then decide (b.getD d.left.toNat 0 ≠ b.getD d.right.toNat 0) else !hasExt x d.head b)
def ActiveTriggers_r0 (x : Inst) (d : Dep) : List (List Int) := if depOk x.rels d = true then (FindMatches_r0 x d.body).filter (activeOk x d) else []
/-- a dependency holds for a trigger -/
def holdsM (fs : List Fct) (d : Dep) (b : List Int) : Bool := if d.egd = true then decide (b.getD d.left.toNat 0 = b.getD d.right.toNat 0) else decide (0 < (walkM fs d.head b).length)
theorem instT_fill {b : List Int} {t v : Int} (h : instT b t = some v) : v = fillT b t ∧ validV v = true := by
  unfold instT at h
  unfold fillT
  by_cases h1 : 0 ≤ t
  · rw [if_pos h1] at h
    rw [if_neg (by omega)]
    split at h
    · rename_i h2
      split at h
      · rename_i h3
        cases h
        exact ⟨by simp [List.getD, h2], h3⟩
      · cases h
    · cases h
  · rw [if_neg h1] at h
    rw [if_pos (by omega)]
    split at h
    · rename_i h3
      cases h
      exact ⟨rfl, h3⟩
    · cases h
theorem instT_conv {b : List Int} {t : Int} (h1 : t.toNat < b.length) (h2 : validV (fillT b t) = true) : instT b t = some (fillT b t) := by
  rw [instT_eq (by omega), if_pos h2]
theorem instL_fill {b ts vs : List Int} (h : instL b ts = some vs) : vs = ts.map (fillT b) := by
  induction ts generalizing vs with
  | nil => simp [instL] at h; subst h; rfl
  | cons t r ih =>
    rw [instL] at h
    split at h
    · rename_i v hv
      cases hq : instL b r with
      | none => rw [hq] at h; cases h
      | some m =>
        rw [hq] at h
        cases h
        rw [List.map_cons, ← ih hq, ← (instT_fill hv).1]
    · cases h
theorem instL_conv {b ts : List Int} (h1 : ∀ t ∈ ts, t.toNat < b.length) (h2 : ∀ t ∈ ts, validV (fillT b t) = true) : instL b ts = some (ts.map (fillT b)) := by
  induction ts with
  | nil => rfl
  | cons t r ih =>
    rw [instL, instT_conv (h1 t (by simp)) (h2 t (by simp)), ih (fun t ht => h1 t (by simp [ht])) (fun t ht => h2 t (by simp [ht]))]
    rfl
theorem instIn_iff {x : Inst} (hx : instOk x = true) {b : List Int} {a : Atm} (ha : ∀ t ∈ a.vals, t.toNat < b.length) : instIn x b a = true ↔ ∃ f ∈ x.facts, a.rel = f.rel ∧ a.vals.map (fillT b) = f.vals := by
  unfold instIn
  constructor
  · intro h
    split at h
    · rename_i vs hvs
      exact ⟨⟨a.rel, vs⟩, (placeF_mem _ _).1 (of_decide_eq_true h), rfl, (instL_fill hvs).symm⟩
    · cases h
  · rintro ⟨f, hf, h1, h2⟩
    rw [instL_conv ha (fun t ht => instOk_val hx f hf _ (by rw [← h2]; exact List.mem_map_of_mem ht))]
    have e : (⟨a.rel, a.vals.map (fillT b)⟩ : Fct) = f := by cases f; simp only at h1 h2; rw [h1, h2]
    simp only
    rw [e]
    exact decide_eq_true ((placeF_mem _ _).2 hf)
theorem depOk_bodyM {l : List Rel} {d : Dep} (h : depOk l d = true) : d.body.length ≤ 2 ∧ ∀ a ∈ d.body, atomOk l a.rel a.vals = true := by
  unfold depOk at h
  simp only [Bool.and_eq_true, List.all_eq_true] at h
  obtain ⟨h1, h2, _⟩ := h
  unfold inB at h1
  have h1 := of_decide_eq_true h1
  exact ⟨by omega, fun a ha => h2 a ha⟩
theorem depOk_headM {l : List Rel} {d : Dep} (h : depOk l d = true) : d.head.length ≤ 2 ∧ ∀ a ∈ d.head, atomOk l a.rel a.vals = true := by
  unfold depOk at h
  simp only [Bool.and_eq_true] at h
  obtain ⟨_, _, h3⟩ := h
  by_cases hg : d.egd = true
  · rw [if_pos hg] at h3
    simp only [Bool.and_eq_true, beq_iff_eq] at h3
    have h0 : d.head = [] := List.eq_nil_of_length_eq_zero (by have := h3.1; omega)
    rw [h0]; simp
  · rw [if_neg hg] at h3
    simp only [Bool.and_eq_true, List.all_eq_true] at h3
    obtain ⟨h4, h5, _⟩ := h3
    unfold inB at h5
    have h5 := of_decide_eq_true h5
    refine ⟨by omega, fun a ha => ?_⟩
    have := h4 a ha
    unfold headB atomB at this
    rw [Bool.and_eq_true] at this
    exact this.1
theorem depOk_vars {l : List Rel} {d : Dep} (h : depOk l d = true) (hg : d.egd = true) : (0 ≤ d.left ∧ d.left.toNat < 5) ∧ (0 ≤ d.right ∧ d.right.toNat < 5) := by
  have hb := (depOk_bodyM h).2
  have hv : ∀ t ∈ varsOf d.body, 0 ≤ t ∧ t.toNat < 5 := fun t ht => by
    have h1 := (varsOf_mem d.body t).1 ht
    unfold vposOf at h1
    obtain ⟨a, ha, h2⟩ := List.mem_flatMap.1 h1
    unfold posOf at h2
    obtain ⟨h3, h4⟩ := List.mem_filter.1 h2
    exact ⟨of_decide_eq_true h4, (atomOk_t (hb a ha) t h3).2⟩
  unfold depOk at h
  rw [if_pos hg] at h
  simp only [Bool.and_eq_true, decide_eq_true_eq, beq_iff_eq] at h
  obtain ⟨_, _, _, h4, h5, _⟩ := h
  exact ⟨hv _ h4, hv _ h5⟩
theorem okM_body {x : Inst} {d : Dep} (h : depOk x.rels d = true) : okM x d.body = instOk x := by
  unfold okM
  rw [List.all_eq_true.2 (depOk_bodyM h).2, decide_eq_true (by have := (depOk_bodyM h).1; omega)]
  simp
theorem okM_head {x : Inst} {d : Dep} (h : depOk x.rels d = true) : okM x d.head = instOk x := by
  unfold okM
  rw [List.all_eq_true.2 (depOk_headM h).2, decide_eq_true (by have := (depOk_headM h).1; omega)]
  simp
theorem bindsOk_iff {b vars : List Int} : bindsOk b vars = true ↔ ∀ k, k < b.length → ((k : Int) ∈ vars ↔ b.getD k 0 ≠ 10) := by
  unfold bindsOk
  simp only [List.all_eq_true, List.mem_range, bne_iff_ne, ne_eq, decide_eq_decide]
  constructor
  · intro h k hk
    have := h k hk
    by_cases h1 : (k : Int) ∈ vars <;> by_cases h2 : b.getD k 0 = 10 <;> simp_all
  · intro h k hk
    have := h k hk
    by_cases h1 : (k : Int) ∈ vars <;> by_cases h2 : b.getD k 0 = 10 <;> simp_all
theorem var_in {l : List Atm} {a : Atm} (ha : a ∈ l) {t : Int} (ht : t ∈ a.vals) (h0 : 0 ≤ t) : t ∈ varsOf l := by
  rw [varsOf_mem]
  unfold vposOf posOf
  exact List.mem_flatMap.2 ⟨a, ha, List.mem_filter.2 ⟨ht, decide_eq_true h0⟩⟩
theorem var_from {l : List Atm} {t : Int} (h : t ∈ varsOf l) : 0 ≤ t ∧ ∃ a ∈ l, t ∈ a.vals := by
  rw [varsOf_mem] at h
  unfold vposOf posOf at h
  obtain ⟨a, ha, h2⟩ := List.mem_flatMap.1 h
  obtain ⟨h3, h4⟩ := List.mem_filter.1 h2
  exact ⟨of_decide_eq_true h4, a, ha, h3⟩
/-- the program's test of a trigger is the model's -/
theorem trig_is (x : Inst) (d : Dep) (b : List Int) : trigOk x d b = (depOk x.rels d && (bindsOk b (varsOf d.body) && hasExt x d.body b)) := by
  unfold trigOk
  cases hd : depOk x.rels d with
  | false => simp
  | true =>
    cases hb : bindsOk b (varsOf d.body) with
    | false => simp
    | true =>
      unfold hasExt
      rw [okM_body hd]
      cases hx : instOk x with
      | false => simp
      | true =>
        by_cases h5 : b.length = 5
        · rw [decide_eq_true h5]
          simp only [Bool.true_and]
          have ht : ∀ a ∈ d.body, ∀ t ∈ a.vals, t.toNat < b.length := fun a ha t ht => by rw [h5]; exact (atomOk_t ((depOk_bodyM hd).2 a ha) t ht).2
          have hfs : ∀ f ∈ x.facts, ∀ v ∈ f.vals, v ≠ 10 := fun f hf v hv => validV_ne (instOk_val hx f hf v hv)
          have hbd := bindsOk_iff.1 hb
          rw [Bool.eq_iff_iff, List.all_eq_true, decide_eq_true_eq]
          constructor
          · intro h
            have : b ∈ walkM x.facts d.body b := (walkM_mem x.facts hfs d.body b b ht).2 ⟨extB.refl b, fun a ha => (instIn_iff hx (ht a ha)).1 (h a ha), fun _ _ => rfl⟩
            exact List.length_pos_of_mem this
          · intro h a ha
            obtain ⟨c, hc⟩ := List.exists_mem_of_length_pos h
            obtain ⟨g1, g2, g3⟩ := (walkM_mem x.facts hfs d.body b c ht).1 hc
            obtain ⟨f, hf, e1, e2⟩ := g2 a ha
            refine (instIn_iff hx (ht a ha)).2 ⟨f, hf, e1, ?_⟩
            rw [← e2]
            refine List.map_congr_left fun t htm => ?_
            by_cases h0 : t < 0
            · unfold fillT; rw [if_pos h0, if_pos h0]
            · have h6 := ht a ha t htm
              have h7 := (hbd t.toNat h6).1 (by rw [Int.toNat_of_nonneg (by omega)]; exact var_in ha htm (by omega))
              unfold fillT
              rw [if_neg h0, if_neg h0, g1.2 _ h7]
        · rw [decide_eq_false h5]; simp
/-- a match is a trigger -/
theorem trig_found {x : Inst} {d : Dep} (hd : depOk x.rels d = true) {b : List Int} (h : b ∈ FindMatches_r0 x d.body) : instOk x = true ∧ b.length = 5 ∧ trigOk x d b = true := by
  cases hk : okM x d.body with
  | false => rw [find_no hk] at h; cases h
  | true =>
    rw [find_walk hk] at h
    have hx := okM_inst hk
    have hfs : ∀ f ∈ x.facts, ∀ v ∈ f.vals, v ≠ 10 := fun f hf v hv => validV_ne (instOk_val hx f hf v hv)
    have ht5 : ∀ a ∈ d.body, ∀ t ∈ a.vals, t.toNat < 5 := fun a ha t ht => (atomOk_t ((depOk_bodyM hd).2 a ha) t ht).2
    obtain ⟨g1, g2, g3⟩ := (walkM_mem x.facts hfs d.body blank5 b (by simpa [blank5] using ht5)).1 h
    have h5 : b.length = 5 := by rw [g1.1]; rfl
    refine ⟨hx, h5, ?_⟩
    have hb : bindsOk b (varsOf d.body) = true := by
      refine bindsOk_iff.2 fun k hk5 => ⟨fun hv => ?_, fun hne => ?_⟩
      · obtain ⟨h0, a, ha, hta⟩ := var_from hv
        obtain ⟨f, hf, e1, e2⟩ := g2 a ha
        have h6 : fillT b k ∈ f.vals := by rw [← e2]; exact List.mem_map_of_mem hta
        have h7 := hfs f hf _ h6
        unfold fillT at h7
        rw [if_neg (by omega)] at h7
        simpa using h7
      · refine Classical.byContradiction fun hn => hne ?_
        rw [g3 k fun a ha t ht h0 e => hn (by rw [← e, Int.toNat_of_nonneg h0]; exact var_in ha ht h0), blank5_get, if_pos (by omega)]
    unfold trigOk
    rw [hx, hd, decide_eq_true h5, hb]
    simp only [Bool.true_and, List.all_eq_true]
    exact fun a ha => (instIn_iff hx (by rw [h5]; exact ht5 a ha)).2 (g2 a ha)
theorem active_is {x : Inst} {d : Dep} {b : List Int} (h : trigOk x d b = true) : activeOk x d b = !holdsM x.facts d b := by
  have h0 := h
  unfold trigOk at h0
  simp only [Bool.and_eq_true, decide_eq_true_eq] at h0
  obtain ⟨hx, hd, h5, _⟩ := h0
  unfold activeOk holdsM
  rw [h]
  by_cases hg : d.egd = true
  · rw [if_pos hg, if_pos hg]; simp
  · rw [if_neg hg, if_neg hg]
    unfold hasExt
    rw [okM_head hd, hx, decide_eq_true h5]; rfl
theorem active_filter {x : Inst} {d : Dep} (hd : depOk x.rels d = true) : ActiveTriggers_r0 x d = (FindMatches_r0 x d.body).filter fun b => !holdsM x.facts d b := by
  unfold ActiveTriggers_r0
  rw [if_pos hd]
  exact List.filter_congr fun b hb => active_is (trig_found hd hb).2.2

/-- a match's values are small -/
theorem find_small {x : Inst} {l : List Atm} {b : List Int} (h : b ∈ FindMatches_r0 x l) : b.length = 5 ∧ ∀ (i : Nat) (hi : i < b.length), -40 ≤ b[i] ∧ b[i] ≤ 10 := by
  cases hk : okM x l with
  | false => rw [find_no hk] at h; cases h
  | true =>
    rw [find_walk hk] at h
    have hx := okM_inst hk
    have hfs : ∀ f ∈ x.facts, ∀ v ∈ f.vals, v ≠ 10 := fun f hf v hv => validV_ne (instOk_val hx f hf v hv)
    have ht5 : ∀ a ∈ l, ∀ t ∈ a.vals, t.toNat < 5 := fun a ha t ht => (atomOk_t (okM_at hk a ha) t ht).2
    obtain ⟨g1, g2, g3⟩ := (walkM_mem x.facts hfs l blank5 b (by simpa [blank5] using ht5)).1 h
    have h5 : b.length = 5 := by rw [g1.1]; rfl
    refine ⟨h5, fun i hi => ?_⟩
    have hg : b.getD i 0 = b[i] := by simp [List.getD, hi]
    by_cases hv : ∃ a ∈ l, ∃ t ∈ a.vals, 0 ≤ t ∧ t.toNat = i
    · obtain ⟨a, ha, t, ht, h0, e⟩ := hv
      obtain ⟨f, hf, e1, e2⟩ := g2 a ha
      have h6 : fillT b t ∈ f.vals := by rw [← e2]; exact List.mem_map_of_mem ht
      have h7 := instOk_val hx f hf _ h6
      unfold fillT at h7
      rw [if_neg (by omega), e, hg] at h7
      unfold validV at h7
      have := of_decide_eq_true h7
      omega
    · have h6 := g3 i fun a ha t ht h0 e => hv ⟨a, ha, t, ht, h0, e⟩
      rw [hg, blank5_get, if_pos (by omega)] at h6
      omega
theorem find_wf {x : Inst} {l : List Atm} {b : List Int} (h : b ∈ FindMatches_r0 x l) : IntsWf b := fun i hi => by
  have := (find_small h).2 i hi
  omega
theorem acts_none {x : Inst} {d : Dep} (h : depOk x.rels d = false) : ActiveTriggers_r0 x d = [] := by unfold ActiveTriggers_r0; rw [if_neg (by rw [h]; simp)]
theorem acts_some {x : Inst} {d : Dep} (h : depOk x.rels d = true) : ActiveTriggers_r0 x d = (FindMatches_r0 x d.body).filter (activeOk x d) := by unfold ActiveTriggers_r0; rw [if_pos h]

theorem find_len (x : Inst) (l : List Atm) : (FindMatches_r0 x l).length ≤ 27000 := by
  cases hk : okM x l with
  | false => rw [find_no hk]; exact Nat.zero_le _
  | true =>
    rw [find_walk hk]
    obtain ⟨h30, h3, -⟩ := okM_parts hk
    refine Nat.le_trans (walkM_len x.facts h30 l blank5) ?_
    rcases (show l.length = 0 ∨ l.length = 1 ∨ l.length = 2 ∨ l.length = 3 by omega) with h | h | h | h <;> rw [h] <;> decide

end Go.Proofs.Ytobdijcnfmgidaa
