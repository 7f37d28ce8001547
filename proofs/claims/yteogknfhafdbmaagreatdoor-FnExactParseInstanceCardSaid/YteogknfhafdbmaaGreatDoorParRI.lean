/-
  Walks and plain lemmas for the laws of this seat: what single Go functions return, for every argument.
-/
import Derived.Test.YteogknfhafdbmaaGreatDoorBase
import Derived.Test.YteogknfhafdbmaaGreatDoorMem
import Derived.Test.YteogknfhafdbmaaGreatDoorInts
import Derived.Test.YteogknfhafdbmaaGreatDoorParR
import Derived.Test.YteogknfhafdbmaaGreatDoorFmtI
namespace Go.Proofs.YteogknfhafdbmaaGreatDoor
open Go.RowKit

theorem trimPre_le (l p : List UInt8) : (Lib.trimPrefix l p).length ≤ l.length := by unfold Lib.trimPrefix; split <;> simp
/-- the relation that a piece of text stands for, or none, as the program hands it on -/
def tokV (o : Option Rel) : Value := match o with
  | some r => .tuple #[.agg #[.string r.name, .int .i64 r.arity, .bool r.source], .bool true]
  | none => .tuple #[.agg #[.string ⟨#[]⟩, .int .i64 0, .bool false], .bool false]
theorem implTok_nil (t : List UInt8) (h : Lib.trimPrefix t [43] = []) : implTok t = none := by unfold implTok; rw [h]
theorem implTok_cons (t : List UInt8) (n : UInt8) (r : List UInt8) (h : Lib.trimPrefix t [43] = n :: r) : implTok t = if (parseInt r).2 then some ⟨⟨#[n]⟩, (parseInt r).1, Lib.hasPrefix t [43]⟩ else none := by unfold implTok; rw [h]
theorem extract_head (u : ByteArray) (n : UInt8) (r : List UInt8) (h : u.data.toList = n :: r) : u.extract 0 1 = ⟨#[n]⟩ ∧ (u.extract 1 u.size).data.toList = r ∧ u.size = r.length + 1 := by
  have hs : u.size = r.length + 1 := by have : u.size = u.data.toList.length := by simp
                                        rw [this, h]; rfl
  refine ⟨bytes_ext ?_, ?_, hs⟩
  · rw [Lib.extract_data, h]; rfl
  · rw [Lib.extract_data, h, hs]; simp
set_option maxRecDepth 100000 in
set_option maxHeartbeats 3200000 in
theorem implParseRelation_any (t : ByteArray) (w : World) (hs : t.size ≤ 1048576) (ht : Tab w) (hv : ErrVars w) :
    Calls Tryz.prog 60 #[.string t] w fun e w' => e = .returned (tokV (implTok t.data.toList)) ∧ Below w.heap.size w w' := by
  have hcut := Tryz.strings_CutPrefix t ⟨#[43]⟩
  have hp : (⟨#[43]⟩ : ByteArray).data.toList = [43] := rfl
  rw [hp] at hcut
  have htl := trimPre_le t.data.toList [43]
  obtain ⟨u, hu⟩ : ∃ u : ByteArray, u = ⟨(Lib.trimPrefix t.data.toList [43]).toArray⟩ := ⟨_, rfl⟩
  have hud : u.data.toList = Lib.trimPrefix t.data.toList [43] := by rw [hu]
  rw [← hu] at hcut
  have HQ : ∃ q, q = Lib.hasPrefix t.data.toList [43] := ⟨_, rfl⟩
  obtain ⟨q, hq⟩ := HQ
  rw [← hq] at hcut
  cases hU : Lib.trimPrefix t.data.toList [43] with
  | nil =>
    rw [implTok_nil _ hU]
    rw [hU] at hud
    obtain rfl : u = ⟨#[]⟩ := bytes_ext hud
    clear hud hU htl hp hu hq
    go_enter Tryz.func60, Tryz.ntmps60
    go_wp2_with fail
    refine (hcut _).mono ?_
    rintro e w' ⟨rfl, rfl⟩
    go_wp2
    exact bodyPost_ret (v := .tuple #[.agg #[.string ⟨#[]⟩, .int .i64 0, .bool false], .bool false]) (by simp [results, Tryz.results60, go_sem]) rfl ⟨rfl, (Below.refl _ _).alloc (Nat.le_refl _) _⟩
  | cons n r =>
    have hI := implTok_cons _ n r hU
    obtain ⟨h1, h2, h3⟩ := extract_head u n r (by rw [hud, hU])
    rw [hU] at htl
    have hus : u.size ≤ 1048576 := by simp at htl; omega
    have hpi := fun w ht hv => implParseInt_any (u.extract 1 u.size) w (by simp; omega) ht hv
    rw [h2] at hpi
    have hpos : 0 < u.size := by omega
    have hune := pos_ne u hpos
    have hI' := Lib.hid (hI.trans (by rw [← hq]))
    clear hud hU htl hp hu h2 h3 hI hq
    cases hok : (parseInt r).2 with
    | false =>
      rw [hok] at hpi
      have HI := Lib.hid (show implTok t.data.toList = none by rw [hI'.out, hok]; rfl)
      clear hI' hok h1
      go_enter Tryz.func60, Tryz.ntmps60
      go_wp2_with fail
      refine (hcut _).mono ?_
      rintro e w' ⟨rfl, rfl⟩
      go_wp2_with fail
      refine (hpi _ (ht.below ((Below.refl _ _).alloc (Nat.le_refl _) _)) (hv.below ((Below.refl _ _).alloc (Nat.le_refl _) _))).mono ?_
      rintro e w2 ⟨rfl, hb⟩
      obtain ⟨hc, hf⟩ := bcell hb
      have d0 := (hc w.heap.size 0 (by simp)).trans (box_cell _ _ _ 0)
      have d1 := (hc w.heap.size 1 (by simp)).trans (box_cell _ _ _ 1)
      have d2 := (hc w.heap.size 2 (by simp)).trans (box_cell _ _ _ 2)
      have hB := ((Below.refl w.heap.size w).alloc (Nat.le_refl _) _).trans (hb.mono (by simp))
      go_wp2
      exact bodyPost_ret (v := .tuple #[.agg #[.string ⟨#[]⟩, .int .i64 0, .bool false], .bool false]) (by simp [results, Tryz.results60, go_sem, d0, d1, d2]) rfl ⟨by rw [HI.out]; rfl, ((hB.setCell (Nat.le_refl _) _).setCell (Nat.le_refl _) _).setCell (Nat.le_refl _) _⟩
    | true =>
      rw [hok] at hpi
      have HI := Lib.hid (show implTok t.data.toList = some ⟨⟨#[n]⟩, (parseInt r).1, q⟩ by rw [hI'.out, hok]; rfl)
      clear hI' hok
      go_enter Tryz.func60, Tryz.ntmps60
      go_wp2_with fail
      refine (hcut _).mono ?_
      rintro e w' ⟨rfl, rfl⟩
      go_wp2_with fail
      refine (hpi _ (ht.below ((Below.refl _ _).alloc (Nat.le_refl _) _)) (hv.below ((Below.refl _ _).alloc (Nat.le_refl _) _))).mono ?_
      rintro e w2 ⟨rfl, hb⟩
      obtain ⟨hc, hf⟩ := bcell hb
      have d0 := (hc w.heap.size 0 (by simp)).trans (box_cell _ _ _ 0)
      have d1 := (hc w.heap.size 1 (by simp)).trans (box_cell _ _ _ 1)
      have d2 := (hc w.heap.size 2 (by simp)).trans (box_cell _ _ _ 2)
      have hB := ((Below.refl w.heap.size w).alloc (Nat.le_refl _) _).trans (hb.mono (by simp))
      go_wp2
      exact bodyPost_ret (v := .tuple #[.agg #[.string ⟨#[n]⟩, .int .i64 (parseInt r).1, .bool q], .bool true]) (by simp [results, Tryz.results60, go_sem, d0, d1, d2]) rfl ⟨by rw [HI.out]; rfl, ((hB.setCell (Nat.le_refl _) _).setCell (Nat.le_refl _) _).setCell (Nat.le_refl _) _⟩

theorem IntS_at.later {w w' : World} {v : Value} {l : List Int} (h : IntS_at w w.heap.size v l) (hb : Below w.heap.size w w') : IntS_at w' w'.heap.size v l := (h.below hb (Nat.le_refl _)).more hb.size

end Go.Proofs.YteogknfhafdbmaaGreatDoor
