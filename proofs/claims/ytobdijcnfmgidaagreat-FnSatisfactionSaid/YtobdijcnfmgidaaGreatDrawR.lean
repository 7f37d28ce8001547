/- Walks and plain lemmas for the laws of this seat. -/
import Derived.Test.YtobdijcnfmgidaaGreatBase
import Derived.Test.YtobdijcnfmgidaaGreatInts
import Derived.Test.YtobdijcnfmgidaaGreatDraw
namespace Go.Proofs.YtobdijcnfmgidaaGreat
open Go.RowKit
def sigs5 : List Rel := [⟨⟨#[97]⟩, 2, true⟩, ⟨⟨#[98]⟩, 1, true⟩, ⟨⟨#[112]⟩, 2, false⟩, ⟨⟨#[113]⟩, 2, false⟩, ⟨⟨#[114]⟩, 1, false⟩]
theorem l3Sigs_c (w : World) : Calls Tryz.prog 93 #[] w fun e w' => e = .returned (.slice (some ⟨w.heap.size, 0, none⟩) 5 5) ∧ w' = w.alloc (.cells (sigs5.flatMap relCells).toArray 70) := by
 go_enter Tryz.func93,Tryz.ntmps93
 go_wp2
 go_ret
 exact ⟨rfl,rfl⟩
def RelSmall (x : Rel) : Prop := x.name.size ≤ 2 ∧ -1 ≤ x.arity ∧ x.arity ≤ 4
theorem l1Pick_d (p : Nat) (cv : Value) (code : List UInt8) (st : DrawSt) (ls : List (List UInt8)) (m : Nat) (hm : ∀ x ∈ ls, x.length ≤ m) (w0 : World) (T : TypeId) (hz : 1 ≤ ls.length) (hz2 : ls.length ≤ 1000) (hp : p < w0.heap.size) (g : Nat) (hg : g = w0.heap.size) (n c : Nat) (hn : n = ls.length) (w : World) (hw : w = w0.alloc (.cells (ls.map strV).toArray T)) (hC : CurS w p cv code st) :
 Calls Tryz.prog 151 #[.pointer (some ⟨p,0,none⟩),.slice (some ⟨g,0,none⟩) n c] w fun e w' => ∃ s : ByteArray,s.size ≤ m ∧ Drawn w p cv code (.string s) e w' := by
 subst hg
 refine (l1Pick_r p cv code st ls w0 T hz hz2 hp w hw n c hn hC).mono ?_
 rintro e w' ⟨rfl,h1,h2⟩
 refine ⟨_,?_,rfl,⟨_,h1⟩,h2⟩
 show (pickR code st ls).1.toArray.size ≤ m
 unfold pickR
 dsimp only
 rw [List.size_toArray,List.getD]
 cases h : ls[(belowR code st ls.length).1.toNat]? with
 | none => simp
 | some x => exact hm x (List.mem_of_getElem? h)
set_option maxHeartbeats 800000 in
set_option maxRecDepth 100000 in
theorem l3One_c (p : Nat) (cv : Value) (code : List UInt8) (st : DrawSt) (w : World) (hC : CurS w p cv code st) :
 Calls Tryz.prog 118 #[.pointer (some ⟨p,0,none⟩)] w fun e w' => ∃ x,RelSmall x ∧ Drawn w p cv code (relV x) e w' := by
 have hp := Cur.lt hC
 have hb := belowR_bd code
 have b0 := fun i => box_cell w #[.string ⟨#[]⟩,.int .i64 0,.bool false] 70 i
 go_enter Tryz.func118,Tryz.ntmps118
 go_wp2_with fail
 refine (l1Pick_d p cv code _ [[97],[122],[],[65],[97,98],[112]] 2 (by simp) (w.alloc (.cells #[.string ⟨#[]⟩,.int .i64 0,.bool false] 70)) _ (by simp) (by simp) (by simp; omega) _ (by simp) _ _ rfl _ rfl (Cur.alloc (Cur.alloc hC _) _)).mono ?_
 rintro _ w1 ⟨s,hs,rfl,⟨st1,hC1⟩,hg1⟩
 have hg1 := (World.grownBy_alloc _ _ _).trans hg1
 go_wp2_with fail
 have b1 := hb st1 6
 have b1' := b1.2 (by omega)
 refine (l1Below_r p cv code _ _ _ hC1).mono ?_; rintro e w2 ⟨rfl,hC2,hg2⟩
 have b1 := b1.1
 generalize belowR code st1 6 = a at *
 go_wp2_with fail
 refine (l1Once_r p cv code _ _ _ hC2).mono ?_; rintro e w3 ⟨rfl,hC3,hg3⟩
 generalize onceR code a.2 2 = c at *
 have HG := Lib.hid ((hg1.trans hg2).trans hg3)
 have hz := HG.out.size
 have hne : w.heap.size ≠ p := by omega
 have f0 := grown_cell HG.out ((b0 0).trans rfl) hne
 have f1 := grown_cell HG.out ((b0 1).trans rfl) hne
 have f2 := grown_cell HG.out ((b0 2).trans rfl) hne
 have fz := fun o => grown_frozen HG.out (o := o) (by simp) hne (World.frozen?_alloc_at _ _ _ _ rfl)
 have HB := Lib.hid b0
 clear b0 hb hC1 hg1 hC2 hg2 hg3
 go_wp2_with fail
 have hbw : Below w.heap.size w3 (((w3.setCell ⟨w.heap.size,0,none⟩ (.string s)).setCell ⟨w.heap.size,1,none⟩ (.int .i64 (a.1 - 1))).setCell ⟨w.heap.size,2,none⟩ (.bool c.1)) := (((Below.refl _ _).setCell (p := ⟨w.heap.size,0,none⟩) (Nat.le_refl _) _).setCell (p := ⟨w.heap.size,1,none⟩) (Nat.le_refl _) _).setCell (p := ⟨w.heap.size,2,none⟩) (Nat.le_refl _) _
 refine bodyPost_ret (v := relV ⟨s,a.1 - 1,c.1⟩) (by simp [results,Tryz.results118,go_sem,f0,f1,f2,relV]) rfl ⟨_,⟨hs,?_,?_⟩,rfl,⟨_,Cur.below hC hC3 hbw⟩,grown_of_below ((World.grownBy_alloc _ _ _).trans HG.out) hbw⟩
 · show -1 ≤ a.1 - 1; omega
 · show a.1 - 1 ≤ 4; omega
def RelsSmall (l : List Rel) : Prop := l.length ≤ 7 ∧ ∀ x ∈ l, RelSmall x
theorem sigs5_small : RelsSmall sigs5 := by
 refine ⟨by decide,fun x hx => ?_⟩
 simp only [sigs5,List.mem_cons,List.not_mem_nil,or_false] at hx
 rcases hx with rfl | rfl | rfl | rfl | rfl <;> exact ⟨by decide,by decide,by decide⟩
theorem sigs5_own (w : World) : OwnRels w.heap.size (.slice (some ⟨w.heap.size, 0, none⟩) 5 5) sigs5 (w.alloc (.cells (sigs5.flatMap relCells).toArray 70)) := by
 have := World.ownsRow_lit w (sigs5.flatMap relCells).toArray (base := w.heap.size) (e := 70) (size := 3) 5 (Nat.le_refl _) (by decide) rfl
 exact this
theorem OwnRels.grown {B : Nat} {v : Value} {l : List Rel} {w w' : World} {p : Nat} (h : OwnRels B v l w) (hg : w.grownBy w' (some p)) (hp : p < B) : OwnRels B v l w' :=
 World.ownsRow.kept h hg (by
  cases hv : v.ownBlock with
  | none => exact Or.inl rfl
  | some k => right; intro he; injection he with he; have := (World.ownsRow.lt h k hv).1; omega)
def nullNum (v : Int) : Int × Bool := if -40 ≤ v ∧ v < 0 then (-1 - v, true) else (0, false)
def validV (v : Int) : Bool := decide (-40 ≤ v ∧ v ≤ 9)
theorem nullNum_yes (v : Int) (h : -40 ≤ v ∧ v < 0) : nullNum v = (-1 - v, true) := if_pos h
theorem nullNum_no (v : Int) (h : ¬(-40 ≤ v ∧ v < 0)) : nullNum v = (0, false) := if_neg h
theorem nullNum_bd (v : Int) : 0 ≤ (nullNum v).1 ∧ (nullNum v).1 < 40 := by
 unfold nullNum; split <;> simp <;> omega
theorem inB_true {x lo hi : Int} (h : lo ≤ x ∧ x ≤ hi) : inB x lo hi = true := by unfold inB; exact decide_eq_true h
theorem inB_false {x lo hi : Int} (h : ¬(lo ≤ x ∧ x ≤ hi)) : inB x lo hi = false := by unfold inB; exact decide_eq_false h
set_option maxHeartbeats 400000 in
theorem specNullValue_any (k : Int) (w : World) (h0 : -9223372036854775808 ≤ k) (h1 : k ≤ 9223372036854775807) :
 Calls Tryz.prog 167 #[.int .i64 k] w fun e w' => e = .returned (.int .i64 (-1 - k)) ∧ w = w' := by
 go_enter Tryz.func167,Tryz.ntmps167
 go_wp2
 go_ret
 exact ⟨rfl,rfl⟩
set_option maxHeartbeats 400000 in
theorem l1In_any (x lo hi : Int) (w : World) :
 Calls Tryz.prog 74 #[.int .i64 x,.int .i64 lo,.int .i64 hi] w fun e w' => e = .returned (.bool (inB x lo hi)) ∧ w = w' := by
 by_cases h1 : lo ≤ x
 all_goals
  go_enter Tryz.func74,Tryz.ntmps74
  go_wp2
  go_ret
  simp [inB]
  first | omega | skip
theorem l1In_at (x lo hi : Int) (b : Bool) (h : inB x lo hi = b) (w : World) : Calls Tryz.prog 74 #[.int .i64 x, .int .i64 lo, .int .i64 hi] w fun e w' => e = .returned (.bool b) ∧ w = w' := by
 subst h; exact l1In_any x lo hi w
set_option maxHeartbeats 400000 in
theorem specNullNumber_any (v : Int) (w : World) (h0 : -9223372036854775808 ≤ v) (h1 : v ≤ 9223372036854775807) :
 Calls Tryz.prog 77 #[.int .i64 v] w fun e w' => e = .returned (.tuple #[.int .i64 (nullNum v).1,.bool (nullNum v).2]) ∧ w = w' := by
 by_cases hv : 0 ≤ v
 · rw [nullNum_no v (by omega)]
   go_enter Tryz.func77,Tryz.ntmps77
   go_wp2
   go_ret2
   exact ⟨rfl,rfl⟩
 · by_cases h : -40 ≤ v
   · have hi : inB (-1 - v) 0 39 = true := inB_true (by omega)
     rw [nullNum_yes v (by omega)]
     go_enter Tryz.func77,Tryz.ntmps77
     go_wp2_with (go_at_call 74; refine (l1In_any _ _ _ _).mono ?_; rintro e w' ⟨rfl,rfl⟩)
     go_ret2
     exact ⟨rfl,rfl⟩
   · have hi : inB (-1 - v) 0 39 = false := inB_false (by omega)
     rw [nullNum_no v (by omega)]
     go_enter Tryz.func77,Tryz.ntmps77
     go_wp2_with (go_at_call 74; refine (l1In_any _ _ _ _).mono ?_; rintro e w' ⟨rfl,rfl⟩)
     go_ret2
     exact ⟨rfl,rfl⟩
set_option maxHeartbeats 400000 in
theorem specIsValidValue_any (v : Int) (w : World) (h0 : -9223372036854775808 ≤ v) (h1 : v ≤ 9223372036854775807) :
 Calls Tryz.prog 75 #[.int .i64 v] w fun e w' => e = .returned (.bool (validV v)) ∧ w = w' := by
 by_cases h : -40 ≤ v ∧ v < 0
 · have hr : (nullNum v).2 = true := by rw [nullNum_yes v h]
   have HV := Lib.hid (show validV v = true from decide_eq_true (by omega))
   go_enter Tryz.func75,Tryz.ntmps75
   go_wp2_with (first | (go_at_call 77; refine (specNullNumber_any _ _ h0 h1).mono ?_; rintro e w' ⟨rfl,rfl⟩) | (go_at_call 74; refine (l1In_any _ _ _ _).mono ?_; rintro e w' ⟨rfl,rfl⟩))
   go_ret
   exact ⟨ret_bool HV.out.symm,rfl⟩
 · have hr : (nullNum v).2 = false := by rw [nullNum_no v h]
   have HV := Lib.hid (show inB v 0 9 = validV v by unfold inB validV; rw [decide_eq_decide]; omega)
   go_enter Tryz.func75,Tryz.ntmps75
   go_wp2_with (first | (go_at_call 77; refine (specNullNumber_any _ _ h0 h1).mono ?_; rintro e w' ⟨rfl,rfl⟩) | (go_at_call 74; refine (l1In_any _ _ _ _).mono ?_; rintro e w' ⟨rfl,rfl⟩))
   go_ret
   exact ⟨ret_bool HV.out,rfl⟩
theorem specIsValidValue_at (v : Int) (b : Bool) (h : validV v = b) (w : World) (h0 : -9223372036854775808 ≤ v) (h1 : v ≤ 9223372036854775807) :
 Calls Tryz.prog 75 #[.int .i64 v] w fun e w' => e = .returned (.bool b) ∧ w = w' := by
 subst h; exact specIsValidValue_any v w h0 h1
set_option maxHeartbeats 400000 in
theorem implIsNull_any (v : Int) (w : World) :
 Calls Tryz.prog 129 #[.int .i64 v] w fun e w' => e = .returned (.bool (decide (v < 0))) ∧ w = w' := by
 go_enter Tryz.func129,Tryz.ntmps129
 go_wp2
 go_ret
 exact ⟨rfl,rfl⟩
set_option maxHeartbeats 400000 in
theorem implNullValue_any (k : Int) (w : World) (h0 : -9223372036854775808 ≤ k) (h1 : k ≤ 9223372036854775807) :
 Calls Tryz.prog 173 #[.int .i64 k] w fun e w' => e = .returned (.int .i64 (-1 - k)) ∧ w = w' := by
 go_enter Tryz.func173,Tryz.ntmps173
 go_wp2
 go_ret
 exact ⟨rfl,rfl⟩
set_option maxHeartbeats 400000 in
theorem implIsNullNumber_any (k : Int) (w : World) :
 Calls Tryz.prog 174 #[.int .i64 k] w fun e w' => e = .returned (.bool (inB k 0 39)) ∧ w = w' := by
 by_cases h : 0 ≤ k
 · have HV := Lib.hid (show decide (k < 40) = inB k 0 39 by unfold inB; rw [decide_eq_decide]; omega)
   have hd : decide (0 ≤ k) = true := decide_eq_true h
   go_enter Tryz.func174,Tryz.ntmps174
   go_wp2
   go_ret
   exact ⟨ret_bool HV.out,rfl⟩
 · have HV := Lib.hid (show false = inB k 0 39 from (inB_false (by omega)).symm)
   have hd : decide (0 ≤ k) = false := decide_eq_false h
   go_enter Tryz.func174,Tryz.ntmps174
   go_wp2
   go_ret
   exact ⟨ret_bool HV.out,rfl⟩
theorem implIsNullNumber_at (k : Int) (b : Bool) (h : inB k 0 39 = b) (w : World) :
 Calls Tryz.prog 174 #[.int .i64 k] w fun e w' => e = .returned (.bool b) ∧ w = w' := by
 subst h; exact implIsNullNumber_any k w
set_option maxHeartbeats 400000 in
theorem implNullNumber_any (v : Int) (w : World) (h0 : -9223372036854775808 ≤ v) (h1 : v ≤ 9223372036854775807) :
 Calls Tryz.prog 169 #[.int .i64 v] w fun e w' => e = .returned (.tuple #[.int .i64 (nullNum v).1,.bool (nullNum v).2]) ∧ w = w' := by
 by_cases h : -40 ≤ v ∧ v < 0
 · rw [nullNum_yes v h]
   have hc := fun W => implIsNullNumber_at (-1 - v) true (inB_true (by omega)) W
   obtain ⟨ha,hb⟩ := h
   go_enter Tryz.func169,Tryz.ntmps169
   go_wp2_with (first | (go_at_call 173; refine (implNullValue_any _ _ h0 h1).mono ?_; rintro e w' ⟨rfl,rfl⟩) | (go_at_call 174; refine (hc _).mono ?_; rintro e w' ⟨rfl,rfl⟩))
   go_ret2
   exact ⟨rfl,rfl⟩
 · rw [nullNum_no v h]
   have hc := fun W => implIsNullNumber_at (-1 - v) false (inB_false (by omega)) W
   go_enter Tryz.func169,Tryz.ntmps169
   go_wp2_with (first | (go_at_call 173; refine (implNullValue_any _ _ h0 h1).mono ?_; rintro e w' ⟨rfl,rfl⟩) | (go_at_call 174; refine (hc _).mono ?_; rintro e w' ⟨rfl,rfl⟩))
   go_ret2
   exact ⟨rfl,rfl⟩
set_option maxHeartbeats 400000 in
theorem implIsValidValue_any (v : Int) (w : World) (h0 : -9223372036854775808 ≤ v) (h1 : v ≤ 9223372036854775807) :
 Calls Tryz.prog 157 #[.int .i64 v] w fun e w' => e = .returned (.bool (validV v)) ∧ w = w' := by
 by_cases h : v < 0
 · have HV := Lib.hid (show (nullNum v).2 = validV v by
    unfold validV nullNum
    split
    · exact (decide_eq_true (by omega)).symm
    · exact (decide_eq_false (by omega)).symm)
   have hd : decide (v < 0) = true := decide_eq_true h
   go_enter Tryz.func157,Tryz.ntmps157
   go_wp2_with (first | (go_at_call 129; refine (implIsNull_any _ _).mono ?_; rintro e w' ⟨rfl,rfl⟩) | (go_at_call 169; refine (implNullNumber_any _ _ h0 h1).mono ?_; rintro e w' ⟨rfl,rfl⟩))
   go_ret
   exact ⟨ret_bool HV.out,rfl⟩
 · have HV := Lib.hid (show decide (v ≤ 9) = validV v by unfold validV; rw [decide_eq_decide]; omega)
   have hd : decide (v < 0) = false := decide_eq_false h
   go_enter Tryz.func157,Tryz.ntmps157
   go_wp2_with (first | (go_at_call 129; refine (implIsNull_any _ _).mono ?_; rintro e w' ⟨rfl,rfl⟩) | (go_at_call 169; refine (implNullNumber_any _ _ h0 h1).mono ?_; rintro e w' ⟨rfl,rfl⟩))
   go_ret
   exact ⟨ret_bool HV.out,rfl⟩
theorem implIsValidValue_at (v : Int) (b : Bool) (h : validV v = b) (w : World) (h0 : -9223372036854775808 ≤ v) (h1 : v ≤ 9223372036854775807) :
 Calls Tryz.prog 157 #[.int .i64 v] w fun e w' => e = .returned (.bool b) ∧ w = w' := by
 subst h; exact implIsValidValue_any v w h0 h1
def arityAt (l : List Rel) (r : Int) : Int := (l.getD r.toNat zeroRel).arity
def factOk (l : List Rel) (r : Int) (vs : List Int) : Bool := validRels l && (decide (0 ≤ r ∧ r < l.length) && (decide ((vs.length : Int) = arityAt l r) && vs.all validV))
theorem factOk_rels {l : List Rel} {r : Int} {vs : List Int} (h : validRels l = false) : factOk l r vs = false := by unfold factOk; rw [h]; rfl
theorem factOk_idx {l : List Rel} {r : Int} {vs : List Int} (h : ¬(0 ≤ r ∧ r < l.length)) : factOk l r vs = false := by unfold factOk; rw [decide_eq_false h]; simp
theorem factOk_len {l : List Rel} {r : Int} {vs : List Int} (h : ¬((vs.length : Int) = arityAt l r)) : factOk l r vs = false := by unfold factOk; rw [decide_eq_false h]; simp
theorem factOk_val {l : List Rel} {r : Int} {vs : List Int} (k : Nat) (hk : k < vs.length) (h : validV vs[k] = false) : factOk l r vs = false := by
 have : vs.all validV = false := by rw [List.all_eq_false]; exact ⟨vs[k],List.getElem_mem hk,by rw [h]; simp⟩
 unfold factOk; rw [this]; simp
def ValsTo (vs : List Int) (k : Nat) : Prop := (vs.take k).all validV = true
theorem ValsTo.zero (vs : List Int) : ValsTo vs 0 := rfl
theorem ValsTo.next {vs : List Int} {k : Nat} (h : ValsTo vs k) (hk : k < vs.length) (hv : validV vs[k] = true) : ValsTo vs (k + 1) := by
 unfold ValsTo at *
 rw [List.take_succ_eq_append_getElem hk,List.all_append,h]; simp [hv]
theorem factOk_yes {l : List Rel} {r : Int} {vs : List Int} (hv : validRels l = true) (h1 : 0 ≤ r ∧ r < l.length) (h2 : (vs.length : Int) = arityAt l r) (h3 : ValsTo vs vs.length) : factOk l r vs = true := by
 unfold ValsTo at h3
 rw [List.take_of_length_le (Nat.le_refl _)] at h3
 unfold factOk; rw [hv,decide_eq_true h1,decide_eq_true h2,h3]; rfl
theorem factOk_parts {l : List Rel} {r : Int} {vs : List Int} (h : factOk l r vs = true) : validRels l = true ∧ (0 ≤ r ∧ r < l.length) ∧ (vs.length : Int) = arityAt l r ∧ ∀ (k : Nat) (hk : k < vs.length), validV vs[k] = true := by
 unfold factOk at h
 simp only [Bool.and_eq_true,decide_eq_true_eq,List.all_eq_true] at h
 exact ⟨h.1,h.2.1,h.2.2.1,fun k hk => h.2.2.2 _ (List.getElem_mem hk)⟩
theorem arityAt_in {l : List Rel} {r : Int} (h : r.toNat < l.length) : arityAt l r = l[r.toNat].arity := by unfold arityAt; rw [getD_at h]
def cmpFact (r : Int) (a : List Int) (s : Int) (b : List Int) : Int := if r < s then -1 else if s < r then 1 else cmpInts a b
def putI : List Int → Int → List Int
 | [],x => [x]
 | a :: t,x => if a < x then a :: putI t x else if a = x then a :: t else x :: a :: t
def PutTo (l : List Int) (x : Int) (k : Nat) : Prop := putI l x = l.take k ++ putI (l.drop k) x
theorem PutTo.zero (l : List Int) (x : Int) : PutTo l x 0 := rfl
theorem PutTo.next {l : List Int} {x : Int} {k : Nat} (h : PutTo l x k) (hk : k < l.length) (hl : l[k] < x) : PutTo l x (k + 1) := by
 unfold PutTo at *
 rw [h,List.drop_eq_getElem_cons hk,putI,if_pos hl,List.take_succ_eq_append_getElem hk,List.append_assoc]
 rfl
theorem PutTo.hit {l : List Int} {x : Int} {k : Nat} (h : PutTo l x k) (hk : k < l.length) (hl : l[k] = x) : putI l x = l := by
 unfold PutTo at h
 rw [h,List.drop_eq_getElem_cons hk,putI,if_neg (by omega),if_pos hl,← List.drop_eq_getElem_cons hk,List.take_append_drop]
theorem PutTo.stop {l : List Int} {x : Int} {k : Nat} (h : PutTo l x k) (hk : k < l.length) (hl : x < l[k]) : putI l x = l.take k ++ x :: l.drop k := by
 unfold PutTo at h
 rw [h,List.drop_eq_getElem_cons hk,putI,if_neg (by omega),if_neg (by omega)]
theorem PutTo.last {l : List Int} {x : Int} {k : Nat} (h : PutTo l x k) (hk : k = l.length) : putI l x = l.take k ++ x :: l.drop k := by
 subst hk
 unfold PutTo at h
 rw [h,List.drop_length]; rfl
theorem putI_len (l : List Int) (x : Int) : (putI l x).length ≤ l.length + 1 := by
 induction l with
 | nil => simp [putI]
 | cons a t ih =>
   unfold putI
   split
   · simp; exact ih
   · split <;> simp
theorem putI_mem (l : List Int) (x y : Int) : y ∈ putI l x ↔ y = x ∨ y ∈ l := by
 induction l with
 | nil => simp [putI]
 | cons a t ih =>
   unfold putI
   split
   · simp only [List.mem_cons,ih]; constructor
     · rintro (h | h | h)
       · exact .inr (.inl h)
       · exact .inl h
       · exact .inr (.inr h)
     · rintro (h | h | h)
       · exact .inr (.inl h)
       · exact .inl h
       · exact .inr (.inr h)
   · split
     · rename_i h1 h2; subst h2; simp
     · simp
def addNull (out : List Int) (v : Int) : List Int := if (nullNum v).2 then putI out (nullNum v).1 else out
def nullsOf (vs : List Int) : List Int := vs.foldl addNull []
theorem nullsOf_take (vs : List Int) (k : Nat) (h : k < vs.length) : nullsOf (vs.take (k + 1)) = addNull (nullsOf (vs.take k)) vs[k] := by
 unfold nullsOf; rw [List.take_succ_eq_append_getElem h,List.foldl_append]; rfl
def AscN (l : List Int) : Prop := l.Pairwise (· < ·) ∧ ∀ x ∈ l, 0 ≤ x ∧ x < 40
theorem AscN.nil : AscN [] := ⟨List.Pairwise.nil, by simp⟩
theorem putI_asc (l : List Int) (x : Int) (h : l.Pairwise (· < ·)) : (putI l x).Pairwise (· < ·) := by
 induction l with
 | nil => simp [putI]
 | cons a t ih =>
   rw [List.pairwise_cons] at h
   unfold putI
   split
   · rename_i h1
     rw [List.pairwise_cons]
     refine ⟨fun y hy => ?_,ih h.2⟩
     rcases (putI_mem t x y).1 hy with rfl | hy
     · exact h1
     · exact h.1 y hy
   · split
     · rw [List.pairwise_cons]; exact h
     · rename_i h1 h2
       rw [List.pairwise_cons,List.pairwise_cons]
       refine ⟨fun y hy => ?_,h⟩
       rcases List.mem_cons.1 hy with rfl | hy
       · omega
       · have := h.1 y hy; omega
theorem AscN.add {l : List Int} (h : AscN l) (v : Int) : AscN (addNull l v) := by
 unfold addNull
 split
 · refine ⟨putI_asc l _ h.1,fun x hx => ?_⟩
   rcases (putI_mem l _ x).1 hx with rfl | hx
   · exact nullNum_bd v
   · exact h.2 x hx
 · exact h
theorem AscN.nullsOf (vs : List Int) (k : Nat) : AscN (nullsOf (vs.take k)) := by
 induction k with
 | zero => exact AscN.nil
 | succ k ih =>
   by_cases h : k < vs.length
   · rw [nullsOf_take vs k h]; exact ih.add _
   · rwa [List.take_of_length_le (by omega),← List.take_of_length_le (show vs.length ≤ k by omega)]
theorem asc_len (n : Nat) (l : List Int) (a : Int) (h : l.Pairwise (· < ·)) (hb : ∀ x ∈ l, a ≤ x ∧ x < a + n) : l.length ≤ n := by
 induction l generalizing a n with
 | nil => simp
 | cons x t ih =>
   have h0 := hb x (by simp)
   rw [List.pairwise_cons] at h
   obtain ⟨m,rfl⟩ : ∃ m,n = m + 1 := ⟨n - 1,by omega⟩
   have := ih m (a + 1) h.2 (fun y hy => by
    have h1 := h.1 y hy
    have h2 := hb y (by simp [hy])
    omega)
   simp; omega
theorem AscN.len {l : List Int} (h : AscN l) : l.length ≤ 40 := asc_len 40 l 0 h.1 (fun x hx => by have := h.2 x hx; omega)
theorem all_no {α : Type} {p : α → Bool} {l : List α} {k : Nat} (hk : k < l.length) (hp : p l[k] = false) : l.all p = false := by
 rw [List.all_eq_false]; exact ⟨l[k],List.getElem_mem hk,by rw [hp]; simp⟩
def relOf (l : List Rel) (r n : Int) : Bool := validRels l && (decide (0 ≤ r ∧ r < l.length) && decide (n = arityAt l r))
theorem relOf_rels {l : List Rel} {r n : Int} (h : validRels l = false) : relOf l r n = false := by unfold relOf; rw [h]; rfl
theorem relOf_idx {l : List Rel} {r n : Int} (h : ¬(0 ≤ r ∧ r < l.length)) : relOf l r n = false := by unfold relOf; rw [decide_eq_false h]; simp
theorem relOf_in {l : List Rel} {r n : Int} (hv : validRels l = true) (h1 : 0 ≤ r ∧ r < l.length) : relOf l r n = decide (n = arityAt l r) := by unfold relOf; rw [hv, decide_eq_true h1]; rfl
theorem factOk_relOf (l : List Rel) (r : Int) (vs : List Int) : factOk l r vs = (relOf l r (vs.length : Nat) && vs.all validV) := by unfold factOk relOf; simp only [Bool.and_assoc]
def Apart (Vs : List Value) : Prop := Vs.Pairwise fun a b => ∀ g, a.ownBlock = some g → b.ownBlock ≠ some g
theorem IntS_own.mono {B B' C C' : Nat} {v : Value} {l : List Int} {w : World} (h : IntS_own B C v l w) (hB : B' ≤ B) (hC : C ≤ C') : IntS_own B' C' v l w := IntsO.mono h hB hC
theorem row_mono {w : World} {B B' k n : Nat} {e : TypeId} {v : Value} {xs : List Value} (h : w.ownsRow B e k v n xs) (hB : B' ≤ B) : w.ownsRow B' e k v n xs := by
 refine ⟨h.1,?_⟩
 rcases h.2 with hn | ⟨g,cap,cur,rfl,hb,rest⟩
 · exact .inl hn
 · exact .inr ⟨g,cap,cur,rfl,Nat.le_trans hB hb,rest⟩
theorem set_same {xs : List Value} {i : Nat} {u : Value} (h : xs[i]? = some u) : xs.set i u = xs := by
 obtain ⟨hi,rfl⟩ := List.getElem?_eq_some_iff.1 h
 exact List.set_getElem_self hi
theorem Apart.at_ {Vs : List Value} (h : Apart Vs) (i j : Nat) (hi : i < Vs.length) (hj : j < Vs.length) (hij : i ≠ j) : ∀ g, Vs[i].ownBlock = some g → Vs[j].ownBlock ≠ some g := by
 intro g h1 h2
 have hp := List.pairwise_iff_getElem.1 h
 rcases Nat.lt_or_gt_of_ne hij with hlt | hlt
 · exact hp i j hi hj hlt g h1 h2
 · exact hp j i hj hi hlt g h2 h1
theorem Apart.set {Vs : List Value} (h : Apart Vs) (j : Nat) (V : Value) (hn : ∀ (i : Nat) (hi : i < Vs.length), i ≠ j → ∀ g, Vs[i].ownBlock = some g → V.ownBlock ≠ some g) : Apart (Vs.set j V) := by
 refine List.pairwise_iff_getElem.2 fun a b ha hb hab g h1 h2 => ?_
 rw [List.length_set] at ha hb
 rw [List.getElem_set] at h1 h2
 split at h1
 · rename_i e
   subst e
   rw [if_neg (by omega)] at h2
   exact hn b hb (by omega) g h2 h1
 · split at h2
   · rename_i e1 e
     subst e
     exact hn a ha (by omega) g h1 h2
   · exact h.at_ a b ha hb (by omega) g h1 h2
theorem inner_ne {e : TypeId} (he : e ≠ 3) {B C B' n : Nat} {v V : Value} {vals : List Int} {xs : List Value} {w : World} {k : Nat} (hr : w.ownsRow B' e k v n xs) (hV : IntS_own B C V vals w) : ∀ g, v.ownBlock = some g → V.ownBlock ≠ some g := by
 intro g hg hV'
 rcases own_ne hV.1 hr (fun e1 => he e1.symm) with h | h
 · rw [h] at hV'; cases hV'
 · rw [hg,hV'] at h; exact h rfl
theorem Apart.snoc {Vs : List Value} (h : Apart Vs) (U : Value) (hn : ∀ (i : Nat) (hi : i < Vs.length), ∀ g, Vs[i].ownBlock = some g → U.ownBlock ≠ some g) : Apart (Vs ++ [U]) := by
 refine List.pairwise_append.2 ⟨h,List.pairwise_singleton _ _,fun a ha b hb => ?_⟩
 rw [List.mem_singleton.1 hb]
 obtain ⟨i,hi,rfl⟩ := List.getElem_of_mem ha
 exact hn i hi
set_option maxHeartbeats 1600000 in
theorem specInts_any (v u : Value) (a b : List Int) (w : World) (hl : IntsAt w w.heap.size v a) (hm : IntsAt w w.heap.size u b) :
 Calls Tryz.prog 76 #[v,u] w fun e w' => e = .returned (.int .i64 (cmpInts a b)) ∧ Below w.heap.size w w' := by
 have HL := Lib.hid hl
 have HM := Lib.hid hm
 obtain ⟨A,c,rfl,hlc,hcm,-⟩ := hl
 obtain ⟨A',c',rfl,hlc',hcm',-⟩ := hm
 unfold maxLen at hcm hcm'
 go_enter Tryz.func76,Tryz.ntmps76
 go_wp2
 go_loopw [5] (fun i wr => ∃ k : Nat,k ≤ a.length ∧ k ≤ b.length ∧ i = .int .i64 k ∧ Hid (CmpTo a b k) ∧ Below w.heap.size w wr) (fun i _ => a.length - (intOf i).toNat)
 case atStart => exact ⟨0,by omega,by omega,rfl,Lib.hid (CmpTo.zero a b),Below.refl _ _⟩
 case round =>
  obtain ⟨k,hk,hk',rfl,HT,hW⟩ := hrel
  by_cases hlt : k < a.length ∧ k < b.length
  · obtain ⟨hlt,hlt'⟩ := hlt
    obtain ⟨p,off,rfl,hb,c0⟩ := IntsAt.elem HL.out k hlt
    obtain ⟨p',off',rfl,hb',d0⟩ := IntsAt.elem HM.out k hlt'
    have C0 := Aft.cell hb c0
    have D0 := Aft.cell hb' d0
    clear c0 d0
    by_cases h1 : a[k] < b[k]
    · have HV := Lib.hid (HT.out.less hlt hlt' h1)
      have hd : decide (a[k] < b[k]) = true := decide_eq_true h1
      clear h1
      go_wp2
      refine wp_region_aft hW (by kernel_rfl) (by kernel_rfl) ?_
      repeat (go_big_quiet_step (fail))
      refine wpQuiet_nil ?_
      refine aft_end ?_
      intro w1 hh
      go_wp2
      go_ret
      exact ⟨ret_int HV.out.symm,hh⟩
    · have hd : decide (a[k] < b[k]) = false := decide_eq_false h1
      by_cases h2 : b[k] < a[k]
      · have HV := Lib.hid (HT.out.more hlt hlt' h2)
        have hd2 : decide (b[k] < a[k]) = true := decide_eq_true h2
        clear h1 h2
        go_wp2
        refine wp_region_aft hW (by kernel_rfl) (by kernel_rfl) ?_
        repeat (go_big_quiet_step (fail))
        refine wpQuiet_nil ?_
        refine aft_end ?_
        intro w1 hh
        go_wp2
        refine wp_region_aft hh (by kernel_rfl) (by kernel_rfl) ?_
        repeat (go_big_quiet_step (fail))
        refine wpQuiet_nil ?_
        refine aft_end ?_
        intro w2 hh2
        go_wp2
        go_ret
        exact ⟨ret_int HV.out.symm,hh2⟩
      · have HV := Lib.hid (HT.out.next hlt hlt' h1 h2)
        have hd2 : decide (b[k] < a[k]) = false := decide_eq_false h2
        clear h1 h2
        go_wp2
        refine wp_region_aft hW (by kernel_rfl) (by kernel_rfl) ?_
        repeat (go_big_quiet_step (fail))
        refine wpQuiet_nil ?_
        refine aft_end ?_
        intro w1 hh
        go_wp2
        refine wp_region_aft hh (by kernel_rfl) (by kernel_rfl) ?_
        repeat (go_big_quiet_step (fail))
        refine wpQuiet_nil ?_
        refine aft_end ?_
        intro w2 hh2
        go_wp2
        go_roundw
        case rel => exact ⟨k + 1,by omega,by omega,by go_num,HV,hh2⟩
        case measure => simp [intOf]; omega
  · have HV := Lib.hid (HT.out.done (by omega) hk hk')
    by_cases e1 : a.length < b.length
    · have HV' := Lib.hid (HV.out.trans (if_pos e1))
      by_cases hka : k < a.length
      · omega
      all_goals
       go_wp2
       go_ret
       exact ⟨ret_int HV'.out.symm,hW⟩
    · by_cases e2 : b.length < a.length
      · have HV' := Lib.hid (HV.out.trans ((if_neg e1).trans (if_pos e2)))
        have hka : k < a.length := by omega
        have hkb : ¬ k < b.length := by omega
        go_wp2
        go_ret
        exact ⟨ret_int HV'.out.symm,hW⟩
      · have HV' := Lib.hid (HV.out.trans ((if_neg e1).trans (if_neg e2)))
        have hka : ¬ k < a.length := by omega
        have hkb : ¬ k < b.length := by omega
        go_wp2
        go_ret
        exact ⟨ret_int HV'.out.symm,hW⟩
end Go.Proofs.YtobdijcnfmgidaaGreat
