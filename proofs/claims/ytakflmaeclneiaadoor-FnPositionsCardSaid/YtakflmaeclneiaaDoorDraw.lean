/-
  Walks and plain lemmas for the laws of this seat: what single Go functions return, for every argument.
-/
import Derived.Maps.AppendAt
import Derived.Deep.AppendLies
import Derived.Test.YtakflmaeclneiaaDoorBase
namespace Go.Proofs.YtakflmaeclneiaaDoor
open Go.RowKit

/-- the slice value cv reads as code; its block is not p -/
def CodeAt (w : World) (p : Nat) (cv : Value) (code : List UInt8) : Prop :=
  (∃ q c, cv = .slice q 0 c ∧ code = []) ∨
  ∃ b off cap, cv = .slice (some ⟨b, off, none⟩) code.length cap ∧ (0 < code.length → b ≠ p) ∧ ∀ j, j < code.length → w.cell? ⟨b, off + j, none⟩ = some (byteV (code.getD j 0))
theorem CodeAt.cell_block {w : World} {a : Addr} {v : Value} (h : w.cell? a = some v) : a.block < w.heap.size := World.block_lt_of_cell? w a h
theorem CodeAt.kept {w w' : World} {p : Nat} {cv : Value} {code : List UInt8} (h : CodeAt w p cv code) (hg : w.grownBy w' (some p)) : CodeAt w' p cv code := by
  rcases h with h | ⟨b, off, cap, h1, h2, h3⟩
  · exact Or.inl h
  · exact Or.inr ⟨b, off, cap, h1, h2, fun j hj => hg.cell (h3 j hj) (by simpa using h2 (by omega))⟩
theorem CodeAt.alloc {w : World} {p : Nat} {cv : Value} {code : List UInt8} (h : CodeAt w p cv code) (o : Obj) : CodeAt (w.alloc o) p cv code :=
  h.kept (World.grownBy_alloc w o _)

def newStep (h : Nat) (b : UInt8) : Nat := (h * 131 + b.toNat + 7) % 1073741824
def newH (code : List UInt8) (k : Nat) : Nat := (code.take k).foldl newStep (10101 + code.length)
theorem newH_succ (code : List UInt8) (k : Nat) (h : k < code.length) : newH code (k + 1) = newStep (newH code k) code[k] := by
  unfold newH; rw [List.take_succ_eq_append_getElem h, List.foldl_append]; rfl
theorem newH_lt (code : List UInt8) (hc : code.length ≤ 1048576) : ∀ k, newH code k < 1073741824
  | 0 => by simp [newH]; omega
  | k + 1 => by
    by_cases h : k < code.length
    · rw [newH_succ code k h]; exact Nat.mod_lt _ (by decide)
    · have : newH code (k + 1) = newH code k := by unfold newH; rw [List.take_of_length_le (by omega), List.take_of_length_le (by omega)]
      rw [this]; exact newH_lt code hc k
/-- the state of a draw: block p holds the code, how much of it is used, and the mixing number -/
structure Cur (w : World) (p : Nat) (cv : Value) (code : List UInt8) (i : Nat) (h : Int) : Prop where
  c0 : w.cell? ⟨p, 0, none⟩ = some cv
  c1 : w.cell? ⟨p, 1, none⟩ = some (.int .i64 i)
  c2 : w.cell? ⟨p, 2, none⟩ = some (.int .i64 h)
  fr : ∀ j, w.frozen? ⟨p, j, none⟩ = false
  txt : CodeAt w p cv code
  ile : i ≤ code.length
  clen : code.length ≤ 1048576
  hlo : -9223372036854775808 ≤ h
  hhi : h ≤ 9223372036854775807

theorem Cur.made (w : World) (cv : Value) (code : List UInt8) (h : Int) (T : TypeId) (hc : CodeAt w w.heap.size cv code) (hl : code.length ≤ 1048576) (h0 : -9223372036854775808 ≤ h) (h1 : h ≤ 9223372036854775807) :
    Cur (w.alloc (.cells #[cv, .int .i64 0, .int .i64 h] T)) w.heap.size cv code 0 h :=
  ⟨by rw [World.cell?_alloc_at _ _ _ _ rfl]; rfl, by rw [World.cell?_alloc_at _ _ _ _ rfl]; rfl, by rw [World.cell?_alloc_at _ _ _ _ rfl]; rfl,
    fun j => World.frozen?_alloc_at _ _ _ _ rfl, hc.alloc _, by omega, hl, h0, h1⟩

set_option maxHeartbeats 800000 in
set_option maxRecDepth 100000 in
theorem l1New_any (cv : Value) (code : List UInt8) (w : World) (hc : CodeAt w w.heap.size cv code) (hlen : code.length ≤ 1048576) :
    Calls Tryd.prog 20 #[cv] w fun e w' => e = .returned (.pointer (some ⟨w.heap.size, 0, none⟩)) ∧ (∃ o, w' = w.alloc o) ∧ Cur w' w.heap.size cv code 0 ((newH code 4000 : Nat) : Int) := by
  have hc' := hc
  have hlt := newH_lt code hlen 4000
  rcases hc with ⟨q, c, rfl, rfl⟩ | ⟨b, off, cap, rfl, hb, hcell⟩
  · have hN : newH [] 4000 = 10101 := rfl
    rw [hN]
    go_enter Tryd.func20, Tryd.ntmps20
    go_wp2
    refine wp_loop_rounds 1 ?_
    rw [rounds_succ]
    go_wp2
    go_ret
    exact ⟨rfl, ⟨_, rfl⟩, Cur.made w _ _ _ _ hc' hlen (by decide) (by decide)⟩
  · go_enter Tryd.func20, Tryd.ntmps20
    go_wp2
    go_loop [3, 4] (fun h i => ∃ k : Nat, k ≤ code.length ∧ k ≤ 4000 ∧ i = .int .i64 (k : Int) ∧ h = .int .i64 ((newH code k : Nat) : Int)) (fun _ i => 4000 - (intOf i).toNat)
    case atStart => exact ⟨0, by omega, by omega, rfl, by simp [newH]⟩
    case round =>
      obtain ⟨k, hk, hk4, rfl, rfl⟩ := hrel
      have hl := newH_lt code hlen k
      by_cases hlt : k < code.length
      · by_cases h4 : k < 4000
        · have hx := hcell k hlt
          have HS := Lib.hid (newH_succ code k hlt)
          have hbx : (code.getD k 0) = code[k] := by simp [List.getD, List.getElem?_eq_getElem hlt]
          rw [hbx] at hx
          have hb1 := (code[k]).toNat_lt
          unfold byteV at hx
          clear hcell hbx
          generalize code[k] = x at *
          generalize newH code k = H at *
          have hand : bits .and .i64 ((H : Int) * 131 + (x.toNat : Nat) + 7) 1073741823 = ((H : Int) * 131 + (x.toNat : Nat) + 7) % 1073741824 := i64_and 30 _ (by decide) (by omega) (by omega)
          go_wp2
          go_round
          case rel => exact ⟨k + 1, by omega, by omega, by go_num, by rw [HS.out]; unfold newStep; go_num⟩
          case measure => simp [intOf]; omega
        · have hkk : k = 4000 := by omega
          subst hkk
          go_wp2
          go_ret
          exact ⟨rfl, ⟨_, rfl⟩, Cur.made w _ _ _ _ hc' hlen (by omega) (by omega)⟩
      · have hkk : newH code k = newH code 4000 := by unfold newH; rw [List.take_of_length_le (by omega), List.take_of_length_le (by omega)]
        have HK := Lib.hid hkk
        clear hkk
        go_wp2
        go_ret
        refine ⟨rfl, ⟨_, rfl⟩, ?_⟩
        rw [HK.out]
        exact Cur.made w _ _ _ _ hc' hlen (by omega) (by omega)

def nextH (h : Int) : Int := wrap64 (wrap64 (h * 6364136223846793005) + 1442695040888963407)
def mixX (h : Int) : Int := bits .and .i64 (bits .xor .i64 (h / 8589934592) (h / 35184372088832)) 255
def byteX (code : List UInt8) (i : Nat) (h : Int) : Int := if i < code.length then (mixX (nextH h) + ((code.getD i 0).toNat : Nat)) % 256 else mixX (nextH h)
def stepI (code : List UInt8) (i : Nat) : Nat := if i < code.length then i + 1 else i
theorem and255 (y : Int) : 0 ≤ bits .and .i64 y 255 ∧ bits .and .i64 y 255 < 256 := by
  have h : (BitVec.ofInt 64 y &&& BitVec.ofInt 64 255).toNat < 256 := by
    rw [BitVec.toNat_and]
    exact Nat.lt_of_le_of_lt Nat.and_le_right (by decide)
  have e : bits .and .i64 y 255 = IntKind.i64.wrap (((BitVec.ofInt 64 y &&& BitVec.ofInt 64 255).toNat : Nat) : Int) := rfl
  rw [e, IntWalk.i64_in _ (by omega)]; omega
theorem wrap64_bd (n : Int) : -9223372036854775808 ≤ wrap64 n ∧ wrap64 n ≤ 9223372036854775807 := by unfold wrap64; omega
theorem mixX_bd (h : Int) : 0 ≤ mixX h ∧ mixX h < 256 := and255 _
theorem byteX_bd (code : List UInt8) (i : Nat) (h : Int) : 0 ≤ byteX code i h ∧ byteX code i h ≤ 255 := by
  have := mixX_bd (nextH h); unfold byteX; split <;> omega
theorem setCell_grown (w : World) (p j : Nat) (u : Value) : w.grownBy (w.setCell ⟨p, j, none⟩ u) (some p) :=
  ⟨rfl, rfl, rfl, by simp, fun k _ hk => Below.heap_setCell w ⟨p, j, none⟩ u k (fun e => hk (by rw [e]))⟩
theorem Cur.drewN {w : World} {p : Nat} {cv : Value} {code : List UInt8} {i : Nat} {h : Int} (hC : Cur w p cv code i h) (n : Nat) : Cur (w.drewN n) p cv code i h :=
  ⟨hC.c0, hC.c1, hC.c2, hC.fr, hC.txt, hC.ile, hC.clen, hC.hlo, hC.hhi⟩
theorem Cur.setH {w : World} {p : Nat} {cv : Value} {code : List UInt8} {i : Nat} {h : Int} (hC : Cur w p cv code i h) (H : Int) (h0 : -9223372036854775808 ≤ H) (h1 : H ≤ 9223372036854775807) :
    Cur (w.setCell ⟨p, 2, none⟩ (.int .i64 H)) p cv code i H :=
  ⟨(World.cell?_setCell_other (w := _) (a := _) (v := _) (b := _) (by simp)).trans hC.c0, (World.cell?_setCell_other (w := _) (a := _) (v := _) (b := _) (by simp)).trans hC.c1, World.cell?_setCell_same (w := _) (a := _) (v := _) hC.c2, fun j => by rw [World.frozen?_setCell]; exact hC.fr j,
    hC.txt.kept (setCell_grown w p 2 _), hC.ile, hC.clen, h0, h1⟩
theorem Cur.setI {w : World} {p : Nat} {cv : Value} {code : List UInt8} {i : Nat} {h : Int} (hC : Cur w p cv code i h) (hi : i < code.length) :
    Cur (w.setCell ⟨p, 1, none⟩ (.int .i64 ((i : Int) + 1))) p cv code (i + 1) h :=
  ⟨(World.cell?_setCell_other (w := _) (a := _) (v := _) (b := _) (by simp)).trans hC.c0, World.cell?_setCell_same (w := _) (a := _) (v := _) hC.c1, (World.cell?_setCell_other (w := _) (a := _) (v := _) (b := _) (by simp)).trans hC.c2, fun j => by rw [World.frozen?_setCell]; exact hC.fr j,
    hC.txt.kept (setCell_grown w p 1 _), by omega, hC.clen, hC.hlo, hC.hhi⟩
theorem grown_drewN {w w' : World} {r : Option Nat} (h : w.grownBy w' r) (n : Nat) : w.grownBy (w'.drewN n) r := ⟨h.os, h.tape, h.output, h.size, h.block⟩

set_option maxHeartbeats 1000000 in
set_option maxRecDepth 100000 in
theorem l1Byte_any (p : Nat) (cv : Value) (code : List UInt8) (i : Nat) (h : Int) (w : World) (hC : Cur w p cv code i h) :
    Calls Tryd.prog 38 #[.pointer (some ⟨p, 0, none⟩)] w fun e w' => e = .returned (.int .i64 (byteX code i h)) ∧ Cur w' p cv code (stepI code i) (nextH h) ∧ w.grownBy w' (some p) := by
  have h0 := hC.c0
  have h1 := hC.c1
  have h2 := hC.c2
  have f1 := hC.fr 1
  have f2 := hC.fr 2
  have hclen := hC.clen
  have hile := hC.ile
  have hbd := wrap64_bd (wrap64 (h * 6364136223846793005) + 1442695040888963407)
  by_cases hlt : i < code.length
  · rcases hC.txt with ⟨q, c, rfl, rfl⟩ | ⟨b, off, cap, rfl, hb, hcell⟩
    · simp at hlt
    · have hx := hcell i hlt
      have hb := hb (by omega)
      clear hcell
      unfold byteV at hx
      have hres : Hid (byteX code i h = (mixX (nextH h) + ((code.getD i 0).toNat : Nat)) % 256) := by unfold Hid byteX; rw [if_pos hlt]
      have hst : Hid (stepI code i = i + 1) := by unfold Hid stepI; rw [if_pos hlt]
      have hxb := (code.getD i 0).toNat_lt
      generalize code.getD i 0 = x at *
      go_enter Tryd.func38, Tryd.ntmps38
      go_wp2
      have hN : Hid (nextH h = wrap64 (wrap64 (h * 6364136223846793005) + 1442695040888963407)) := rfl
      generalize wrap64 (wrap64 (h * 6364136223846793005) + 1442695040888963407) = H at *
      go_quiet (fail)
      go_wp2
      have hM : Hid (mixX H = bits .and .i64 (bits .xor .i64 (H / 8589934592) (H / 35184372088832)) 255) := rfl
      have hmb := and255 (bits .xor .i64 (H / 8589934592) (H / 35184372088832))
      generalize bits .and .i64 (bits .xor .i64 (H / 8589934592) (H / 35184372088832)) 255 = X at *
      go_quiet (fail)
      go_wp2
      have q0 : 0 ≤ X + ((x.toNat : Nat) : Int) := by omega
      have q1 : IntKind.i64.wrap ((x.toNat : Nat) : Int) = ((x.toNat : Nat) : Int) := IntWalk.i64_in _ (by omega)
      have q2 : IntKind.i64.wrap (X + ((x.toNat : Nat) : Int)) = X + ((x.toNat : Nat) : Int) := IntWalk.i64_in _ (by omega)
      have q3 : bits .and .i64 (X + ((x.toNat : Nat) : Int)) 255 = (X + ((x.toNat : Nat) : Int)) % 256 := i64_and 8 _ (by decide) q0 (by omega)
      go_quiet (fail)
      clear q1 q2 q3
      go_wp2
      go_ret
      exact ⟨ret_int (by rw [hres.out, hN.out, hM.out]), by rw [hst.out, hN.out]; exact ((hC.setH H hbd.1 hbd.2).drewN _).setI hlt, (grown_drewN (setCell_grown w p 2 _) _).trans (setCell_grown _ p 1 _)⟩
  · have hres : Hid (byteX code i h = mixX (nextH h)) := by unfold Hid byteX; rw [if_neg hlt]
    have hst : Hid (stepI code i = i) := by unfold Hid stepI; rw [if_neg hlt]
    have hgo : ∀ (cv' : Value), cv' = cv → ∀ (l c : Nat) (q : Option Addr), cv = .slice q l c → l = code.length → Calls Tryd.prog 38 #[.pointer (some ⟨p, 0, none⟩)] w fun e w' => e = .returned (.int .i64 (byteX code i h)) ∧ Cur w' p cv code (stepI code i) (nextH h) ∧ w.grownBy w' (some p) := by
      rintro cv' rfl l c q rfl rfl
      go_enter Tryd.func38, Tryd.ntmps38
      go_wp2
      have hN : Hid (nextH h = wrap64 (wrap64 (h * 6364136223846793005) + 1442695040888963407)) := rfl
      generalize wrap64 (wrap64 (h * 6364136223846793005) + 1442695040888963407) = H at *
      go_quiet (fail)
      go_wp2
      have hM : Hid (mixX H = bits .and .i64 (bits .xor .i64 (H / 8589934592) (H / 35184372088832)) 255) := rfl
      generalize bits .and .i64 (bits .xor .i64 (H / 8589934592) (H / 35184372088832)) 255 = X at *
      go_quiet (fail)
      go_wp2
      go_ret
      exact ⟨ret_int (by rw [hres.out, hN.out, hM.out]), by rw [hst.out, hN.out]; exact ((hC.setH H hbd.1 hbd.2).drewN _).drewN _, grown_drewN (grown_drewN (setCell_grown w p 2 _) _) _⟩
    rcases hC.txt with ⟨q, c, h1, h2⟩ | ⟨b, off, cap, h1, hb, hcell⟩
    · exact hgo cv rfl 0 c q h1 (by rw [h2]; rfl)
    · exact hgo cv rfl _ _ _ h1 rfl
/-- the state of a draw between two calls -/
abbrev DrawSt := Nat × Int
def CurS (w : World) (p : Nat) (cv : Value) (code : List UInt8) (st : DrawSt) : Prop := Cur w p cv code st.1 st.2
def byteR (code : List UInt8) (st : DrawSt) : Int × DrawSt := (byteX code st.1 st.2, (stepI code st.1, nextH st.2))
def belowR (code : List UInt8) (st : DrawSt) (n : Int) : Int × DrawSt :=
  if n ≤ 0 then (0, st) else if n ≤ 256 then ((byteR code st).1 % n, (byteR code st).2) else
    let a := byteR code st
    let b := byteR code a.2
    let c := byteR code b.2
    let d := byteR code c.2
    ((a.1 * 16777216 + b.1 * 65536 + c.1 * 256 + d.1) % n, d.2)
theorem byteR_bd (code : List UInt8) (st : DrawSt) : 0 ≤ (byteR code st).1 ∧ (byteR code st).1 ≤ 255 := byteX_bd _ _ _
theorem belowR_bd (code : List UInt8) (st : DrawSt) (n : Int) : 0 ≤ (belowR code st n).1 ∧ (1 ≤ n → (belowR code st n).1 < n) := by
  unfold belowR
  split
  · exact ⟨by simp, fun h => by omega⟩
  · split
    · exact ⟨Int.emod_nonneg _ (by omega), fun h => Int.emod_lt_of_pos _ (by omega)⟩
    · exact ⟨Int.emod_nonneg _ (by omega), fun h => Int.emod_lt_of_pos _ (by omega)⟩
/-- what a draw's contract says: its result, the state behind it, nothing else turned -/
def Drew (w : World) (p : Nat) (cv : Value) (code : List UInt8) (r : Value × DrawSt) (e : Ending) (w' : World) : Prop :=
  e = .returned r.1 ∧ CurS w' p cv code r.2 ∧ w.grownBy w' (some p)
theorem l1Byte_r (p : Nat) (cv : Value) (code : List UInt8) (st : DrawSt) (w : World) (hC : CurS w p cv code st) :
    Calls Tryd.prog 38 #[.pointer (some ⟨p, 0, none⟩)] w (Drew w p cv code (.int .i64 (byteR code st).1, (byteR code st).2)) :=
  (l1Byte_any p cv code st.1 st.2 w hC).mono fun _ _ h => h
set_option maxHeartbeats 1000000 in
set_option maxRecDepth 100000 in
theorem l1Below_r (p : Nat) (cv : Value) (code : List UInt8) (st : DrawSt) (n : Int) (w : World) (hC : CurS w p cv code st) :
    Calls Tryd.prog 22 #[.pointer (some ⟨p, 0, none⟩), .int .i64 n] w (Drew w p cv code (.int .i64 (belowR code st n).1, (belowR code st n).2)) := by
  by_cases h0 : n ≤ 0
  · have hr : belowR code st n = (0, st) := by unfold belowR; rw [if_pos h0]
    rw [hr]
    go_enter Tryd.func22, Tryd.ntmps22
    go_wp2
    go_ret
    exact ⟨rfl, hC, World.grownBy.refl _ _⟩
  · by_cases h1 : n ≤ 256
    · have hr : belowR code st n = ((byteR code st).1 % n, (byteR code st).2) := by unfold belowR; rw [if_neg h0, if_pos h1]
      rw [hr]
      have hb := byteR_bd code st
      go_enter Tryd.func22, Tryd.ntmps22
      go_wp2_with (go_at_call 38; refine (l1Byte_r p cv code st _ (by assumption)).mono ?_; rintro e w1 ⟨rfl, hC1, hg1⟩)
      go_ret
      exact ⟨rfl, hC1, hg1⟩
    · have hr : belowR code st n = (((byteR code st).1 * 16777216 + (byteR code (byteR code st).2).1 * 65536 + (byteR code (byteR code (byteR code st).2).2).1 * 256 + (byteR code (byteR code (byteR code (byteR code st).2).2).2).1) % n, (byteR code (byteR code (byteR code (byteR code st).2).2).2).2) := by
        unfold belowR; rw [if_neg h0, if_neg h1]
      rw [hr]
      clear hr
      have ha := byteR_bd code st
      have hb := byteR_bd code (byteR code st).2
      have hc := byteR_bd code (byteR code (byteR code st).2).2
      have hd := byteR_bd code (byteR code (byteR code (byteR code st).2).2).2
      go_enter Tryd.func22, Tryd.ntmps22
      go_wp2_with fail
      refine (l1Byte_r p cv code _ _ hC).mono ?_; rintro e w1 ⟨rfl, hC1, hg1⟩
      go_wp2_with fail
      refine (l1Byte_r p cv code _ _ hC1).mono ?_; rintro e w2 ⟨rfl, hC2, hg2⟩
      go_wp2_with fail
      refine (l1Byte_r p cv code _ _ hC2).mono ?_; rintro e w3 ⟨rfl, hC3, hg3⟩
      go_wp2_with fail
      refine (l1Byte_r p cv code _ _ hC3).mono ?_; rintro e w4 ⟨rfl, hC4, hg4⟩
      go_wp2_with fail
      go_ret
      exact ⟨rfl, hC4, ((hg1.trans hg2).trans hg3).trans hg4⟩

theorem Drew.intro {w w' : World} {p : Nat} {cv : Value} {code : List UInt8} {r : Value × DrawSt} {e : Ending} (h1 : e = .returned r.1) (h2 : CurS w' p cv code r.2) (h3 : w.grownBy w' (some p)) : Drew w p cv code r e w' := ⟨h1, h2, h3⟩
theorem Cur.lt {w : World} {p : Nat} {cv : Value} {code : List UInt8} {i : Nat} {h : Int} (hC : Cur w p cv code i h) : p < w.heap.size := World.block_lt_of_cell? w _ hC.c0
theorem Cur.alloc {w : World} {p : Nat} {cv : Value} {code : List UInt8} {i : Nat} {h : Int} (hC : Cur w p cv code i h) (o : Obj) : Cur (w.alloc o) p cv code i h :=
  ⟨(World.cell?_alloc_lt (w := _) (o := _) (a := _) hC.lt).trans hC.c0, (World.cell?_alloc_lt (w := _) (o := _) (a := _) hC.lt).trans hC.c1, (World.cell?_alloc_lt (w := _) (o := _) (a := _) hC.lt).trans hC.c2,
    fun j => (World.frozen?_alloc_old _ _ _ (Nat.ne_of_lt hC.lt)).trans (hC.fr j), hC.txt.alloc _, hC.ile, hC.clen, hC.hlo, hC.hhi⟩

theorem Cur.below {w0 wr w' : World} {p : Nat} {cv : Value} {code : List UInt8} {i0 i : Nat} {h0 h : Int} (hC0 : Cur w0 p cv code i0 h0) (hC : Cur wr p cv code i h) (hb : Below w0.heap.size wr w') : Cur w' p cv code i h := by
  have hp := hC0.lt
  have hc : ∀ j, w'.cell? ⟨p, j, none⟩ = wr.cell? ⟨p, j, none⟩ := fun j => hb.cell (p := ⟨p, j, none⟩) hp
  refine ⟨(hc 0).trans hC.c0, (hc 1).trans hC.c1, (hc 2).trans hC.c2, fun j => (hb.frozen (p := ⟨p, j, none⟩) hp).trans (hC.fr j), ?_, hC.ile, hC.clen, hC.hlo, hC.hhi⟩
  rcases hC.txt with h | ⟨b, off, cap, h1, h2, h3⟩
  · exact Or.inl h
  · refine Or.inr ⟨b, off, cap, h1, h2, fun j hj => ?_⟩
    have hlt : b < w0.heap.size := by
      rcases hC0.txt with ⟨_, _, h4, h5⟩ | ⟨b', off', cap', h4, _, h6⟩
      · rw [h5] at hj; simp at hj
      · rw [h1] at h4; injection h4 with h4; injection h4 with h4; injection h4 with h4; subst h4
        exact World.block_lt_of_cell? w0 _ (h6 j hj)
    rw [hb.cell (p := ⟨b, off + j, none⟩) hlt]; exact h3 j hj
theorem grown_of_below {w wr w' : World} {p : Nat} (hg : w.grownBy wr (some p)) (hb : Below w.heap.size wr w') : w.grownBy w' (some p) :=
  ⟨hb.os.trans hg.os, hb.tape.trans hg.tape, hb.output.trans hg.output, Nat.le_trans hg.size hb.size, fun k hk hne => (hb.block k hk).trans (hg.block k hk hne)⟩
theorem Buf.grown {B : Nat} {v : Value} {l : List UInt8} {w w' : World} {p : Nat} (h : Buf B v l w) (hg : w.grownBy w' (some p)) (hp : p < B) : Buf B v l w' :=
  World.ownsRow.kept h hg (by
    cases hv : v.ownBlock with
    | none => exact Or.inl rfl
    | some k => right; intro he; injection he with he; have := (World.ownsRow.lt h k hv).1; omega)

def st0 (code : List UInt8) : DrawSt := (0, ((newH code 4000 : Nat) : Int))
theorem l1New_c (cv : Value) (code : List UInt8) (w : World) (hc : CodeAt w w.heap.size cv code) (hlen : code.length ≤ 1048576) :
    Calls Tryd.prog 20 #[cv] w fun e w' => e = .returned (.pointer (some ⟨w.heap.size, 0, none⟩)) ∧ Below w.heap.size w w' ∧ CurS w' w.heap.size cv code (st0 code) :=
  (l1New_any cv code w hc hlen).mono fun e w' ⟨h1, ⟨o, h2⟩, h3⟩ => ⟨h1, by rw [h2]; exact (Below.refl _ _).alloc (Nat.le_refl _) o, h3⟩
theorem below_of_draw {w w1 w2 : World} (h1 : Below w.heap.size w w1) (h2 : w1.grownBy w2 (some w.heap.size)) : Below w.heap.size w w2 :=
  h1.grown h2 h1.size (fun k hk => by injection hk with hk; omega)
/-- the code is read anywhere later as it was -/
theorem CodeAt.later {w w' : World} {cv : Value} {code : List UInt8} (h : CodeAt w w.heap.size cv code) (hb : Below w.heap.size w w') : CodeAt w' w'.heap.size cv code := by
  rcases h with h | ⟨b, off, cap, h1, h2, h3⟩
  · exact Or.inl h
  · have hlt : 0 < code.length → b < w.heap.size := fun hn => World.block_lt_of_cell? w _ (h3 0 hn)
    have := hb.size
    exact Or.inr ⟨b, off, cap, h1, fun hn => by have := hlt hn; omega, fun j hj => by rw [hb.cell (p := ⟨b, off + j, none⟩) (hlt (by omega))]; exact h3 j hj⟩

def strV (l : List UInt8) : Value := .string ⟨l.toArray⟩
def pickR (code : List UInt8) (st : DrawSt) (ls : List (List UInt8)) : List UInt8 × DrawSt := (ls.getD (belowR code st ls.length).1.toNat [], (belowR code st ls.length).2)
theorem strCells_new (w : World) (T : TypeId) (ls : List (List UInt8)) (j : Nat) (hj : j < ls.length) : (w.alloc (.cells (ls.map strV).toArray T)).cell? ⟨w.heap.size, j, none⟩ = some (.string ⟨(ls.getD j []).toArray⟩) := by
  rw [World.cell?_alloc_at _ _ _ _ rfl]; simp [List.getD, List.getElem?_eq_getElem hj, strV]
set_option maxHeartbeats 400000 in
set_option maxRecDepth 100000 in
theorem l1Pick_r (p : Nat) (cv : Value) (code : List UInt8) (st : DrawSt) (ls : List (List UInt8)) (w0 : World) (T : TypeId) (hz : 1 ≤ ls.length) (hz2 : ls.length ≤ 1000) (hp : p < w0.heap.size) (w : World) (hw : w = w0.alloc (.cells (ls.map strV).toArray T)) (n c : Nat) (hn : n = ls.length) (hC : CurS w p cv code st) :
    Calls Tryd.prog 49 #[.pointer (some ⟨p, 0, none⟩), .slice (some ⟨w0.heap.size, 0, none⟩) n c] w (Drew w p cv code (.string ⟨(pickR code st ls).1.toArray⟩, (pickR code st ls).2)) := by
  subst hn
  have hb := belowR_bd code st ls.length
  have hb2 := hb.2 (by omega)
  have hb1 := hb.1
  clear hb
  have hcell : w.cell? ⟨w0.heap.size, (belowR code st ls.length).1.toNat, none⟩ = some (.string ⟨(pickR code st ls).1.toArray⟩) := by
    rw [hw]; exact strCells_new w0 T ls _ (by omega)
  clear hw
  have hne : some w0.heap.size ≠ some p := by intro h; injection h with h; omega
  go_enter Tryd.func49, Tryd.ntmps49
  go_wp2_with fail
  refine (l1Below_r p cv code st _ _ hC).mono ?_; rintro e w1 ⟨rfl, hC1, hg1⟩
  have hcell1 := hg1.cell hcell hne
  obtain ⟨k, hk⟩ := Int.eq_ofNat_of_zero_le hb1
  have hK := Lib.hid hk
  dsimp only at *
  rw [hk] at hcell1 hb2 ⊢
  clear hk hcell hb1
  rw [Int.toNat_natCast] at hcell1
  go_wp2_with fail
  go_ret
  exact ⟨rfl, hC1, hg1⟩

def onceR (code : List UInt8) (st : DrawSt) (n : Int) : Bool × DrawSt := (((belowR code st n).1 == 0), (belowR code st n).2)
set_option maxHeartbeats 400000 in
theorem l1Once_r (p : Nat) (cv : Value) (code : List UInt8) (st : DrawSt) (n : Int) (w : World) (hC : CurS w p cv code st) :
    Calls Tryd.prog 27 #[.pointer (some ⟨p, 0, none⟩), .int .i64 n] w (Drew w p cv code (.bool (onceR code st n).1, (onceR code st n).2)) := by
  go_enter Tryd.func27, Tryd.ntmps27
  go_wp2_with (go_at_call 22; refine (l1Below_r p cv code st n _ hC).mono ?_; rintro e w1 ⟨rfl, hC1, hg1⟩)
  go_ret
  exact ⟨rfl, hC1, hg1⟩

/-- something drawn: what is asked of it, whatever the state of the draw behind it -/
def Drawn (w : World) (p : Nat) (cv : Value) (code : List UInt8) (v : Value) (e : Ending) (w' : World) : Prop := e = .returned v ∧ (∃ st, CurS w' p cv code st) ∧ w.grownBy w' (some p)
theorem grown_cell {w w' : World} {p b o : Nat} {v : Value} (h : w.grownBy w' (some p)) (hc : w.cell? ⟨b, o, none⟩ = some v) (hp : b ≠ p) : w'.cell? ⟨b, o, none⟩ = some v := h.cell hc (by simpa using hp)
theorem grown_frozen {w w' : World} {p b o : Nat} {z : Bool} (h : w.grownBy w' (some p)) (hb : b < w.heap.size) (hp : b ≠ p) (hz : w.frozen? ⟨b, o, none⟩ = z) : w'.frozen? ⟨b, o, none⟩ = z := (World.frozen?_of_block (w := w) (a := ⟨b, o, none⟩) (h.block b hb (by simpa using hp))).trans hz

def pickIntR (code : List UInt8) (st : DrawSt) (zs : List Int) : Int × DrawSt := (zs.getD (belowR code st zs.length).1.toNat 0, (belowR code st zs.length).2)
theorem intCells_new (w : World) (T : TypeId) (zs : List Int) (j : Nat) (hj : j < zs.length) : (w.alloc (.cells (zs.map (Value.int .i64)).toArray T)).cell? ⟨w.heap.size, j, none⟩ = some (.int .i64 (zs.getD j 0)) := by
  rw [World.cell?_alloc_at _ _ _ _ rfl]; simp [List.getD, List.getElem?_eq_getElem hj]
set_option maxHeartbeats 400000 in
theorem l1PickInt_r (p : Nat) (cv : Value) (code : List UInt8) (st : DrawSt) (zs : List Int) (w0 : World) (T : TypeId) (hz : 1 ≤ zs.length) (hz2 : zs.length ≤ 1000) (hp : p < w0.heap.size) (w : World) (hw : w = w0.alloc (.cells (zs.map (Value.int .i64)).toArray T)) (n c : Nat) (hn : n = zs.length) (hC : CurS w p cv code st) :
    Calls Tryd.prog 28 #[.pointer (some ⟨p, 0, none⟩), .slice (some ⟨w0.heap.size, 0, none⟩) n c] w (Drew w p cv code (.int .i64 (pickIntR code st zs).1, (pickIntR code st zs).2)) := by
  subst hn
  have hb := belowR_bd code st zs.length
  have hb2 := hb.2 (by omega)
  have hb1 := hb.1
  clear hb
  have hcell : w.cell? ⟨w0.heap.size, (belowR code st zs.length).1.toNat, none⟩ = some (.int .i64 (pickIntR code st zs).1) := by
    rw [hw]; exact intCells_new w0 T zs _ (by omega)
  clear hw
  have hne : some w0.heap.size ≠ some p := by intro h; injection h with h; omega
  go_enter Tryd.func28, Tryd.ntmps28
  go_wp2_with fail
  refine (l1Below_r p cv code st _ _ hC).mono ?_; rintro e w1 ⟨rfl, hC1, hg1⟩
  have hcell1 := hg1.cell hcell hne
  obtain ⟨k, hk⟩ := Int.eq_ofNat_of_zero_le hb1
  have hK := Lib.hid hk
  dsimp only at *
  rw [hk] at hcell1 hb2 ⊢
  clear hk hcell hb1
  rw [Int.toNat_natCast] at hcell1
  go_wp2_with fail
  go_ret
  exact ⟨rfl, hC1, hg1⟩

theorem l1PickInt_d (p : Nat) (cv : Value) (code : List UInt8) (st : DrawSt) (zs : List Int) (lo hi : Int) (h0 : lo ≤ 0 ∧ 0 ≤ hi) (hm : ∀ x ∈ zs, lo ≤ x ∧ x ≤ hi) (w0 : World) (T : TypeId) (hz : 1 ≤ zs.length) (hz2 : zs.length ≤ 1000) (hp : p < w0.heap.size) (g : Nat) (hg : g = w0.heap.size) (n c : Nat) (hn : n = zs.length) (w : World) (hw : w = w0.alloc (.cells (zs.map (Value.int .i64)).toArray T)) (hC : CurS w p cv code st) :
    Calls Tryd.prog 28 #[.pointer (some ⟨p, 0, none⟩), .slice (some ⟨g, 0, none⟩) n c] w fun e w' => ∃ z : Int, lo ≤ z ∧ z ≤ hi ∧ Drawn w p cv code (.int .i64 z) e w' := by
  subst hg
  refine (l1PickInt_r p cv code st zs w0 T hz hz2 hp w hw n c hn hC).mono ?_
  rintro e w' ⟨rfl, h1, h2⟩
  have hb : lo ≤ (pickIntR code st zs).1 ∧ (pickIntR code st zs).1 ≤ hi := by
    unfold pickIntR
    dsimp only
    rw [List.getD]
    cases h : zs[(belowR code st zs.length).1.toNat]? with
    | none => exact h0
    | some x => exact hm x (List.mem_of_getElem? h)
  exact ⟨_, hb.1, hb.2, rfl, ⟨_, h1⟩, h2⟩
set_option maxHeartbeats 400000 in
/-- .. the list lying anywhere -/
theorem l1PickInt_g (p : Nat) (cv : Value) (code : List UInt8) (st : DrawSt) (zs : List Int) (lo hi : Int) (h0 : lo ≤ 0 ∧ 0 ≤ hi) (hm : ∀ x ∈ zs, lo ≤ x ∧ x ≤ hi) (hz : 1 ≤ zs.length) (hz2 : zs.length ≤ 1000) (g : Nat) (hgp : g ≠ p) (n c : Nat) (hn : n = zs.length) (w : World) (hcells : ∀ j, j < zs.length → w.cell? ⟨g, j, none⟩ = some (.int .i64 (zs.getD j 0))) (hC : CurS w p cv code st) :
    Calls Tryd.prog 28 #[.pointer (some ⟨p, 0, none⟩), .slice (some ⟨g, 0, none⟩) n c] w fun e w' => ∃ z : Int, lo ≤ z ∧ z ≤ hi ∧ Drawn w p cv code (.int .i64 z) e w' := by
  subst hn
  have hb := belowR_bd code st zs.length
  have hb2 := hb.2 (by omega)
  have hb1 := hb.1
  clear hb
  have hcell := hcells (belowR code st zs.length).1.toNat (by omega)
  have hbd : lo ≤ zs.getD (belowR code st zs.length).1.toNat 0 ∧ zs.getD (belowR code st zs.length).1.toNat 0 ≤ hi := by
    rw [List.getD]
    cases h : zs[(belowR code st zs.length).1.toNat]? with
    | none => exact h0
    | some x => exact hm x (List.mem_of_getElem? h)
  have HBD := Lib.hid hbd
  have hne : some g ≠ some p := by intro h; injection h with h; exact hgp h
  clear hcells hbd h0 hm
  go_enter Tryd.func28, Tryd.ntmps28
  go_wp2_with fail
  refine (l1Below_r p cv code st _ _ hC).mono ?_; rintro e w1 ⟨rfl, hC1, hg1⟩
  have hcell1 := hg1.cell hcell hne
  obtain ⟨k, hk⟩ := Int.eq_ofNat_of_zero_le hb1
  dsimp only at *
  rw [hk] at hcell1 hb2 HBD ⊢
  clear hk hcell hb1
  rw [Int.toNat_natCast] at hcell1 HBD
  generalize zs.getD k 0 = y at *
  go_wp2_with fail
  go_ret
  exact ⟨y, HBD.out.1, HBD.out.2, rfl, ⟨_, hC1⟩, hg1⟩

end Go.Proofs.YtakflmaeclneiaaDoor
