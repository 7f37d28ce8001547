/-
  Walks and plain lemmas for the laws of this seat: what single Go functions return, for every argument.
-/
import Derived.Test.YtmecdjincmkofaaGreatDoorProg
import Derived.WalkKit
import Derived.WalkSpells
import Derived.WalkLawsBesides
import Derived.Deep.QuietTactic
import Derived.BigQuiet
import Derived.Lib.Hide
import Derived.Deep.RegionLaw
import Derived.Deep.DeepCutAuto
import Derived.Lib.Bytealg
import Derived.Lib.Walk
import Derived.Lib.Join
import Derived.Lib.ItoaNum
import Derived.Lib.ItoaLen
import Derived.Lib.Atoi
namespace Go.Proofs.YtmecdjincmkofaaGreatDoor
open Go.RowKit

theorem ret_int {k : IntKind} {a b : Int} (h : a = b) : Ending.returned (.int k a) = .returned (.int k b) := by rw [h]
theorem ret_bool {a b : Bool} (h : a = b) : Ending.returned (.bool a) = .returned (.bool b) := by rw [h]
theorem ret_two {a b c d : Int} (h : a = b) (h' : c = d) : Ending.returned (.tuple #[.int .i64 a, .int .i64 c]) = .returned (.tuple #[.int .i64 b, .int .i64 d]) := by rw [h, h']
theorem ret_str {a b : ByteArray} (h : a = b) : Ending.returned (.string a) = .returned (.string b) := by rw [h]
theorem ret_str_bool {a b : ByteArray} {c d : Bool} (h : a = b) (h' : c = d) : Ending.returned (.tuple #[.string a, .bool c]) = .returned (.tuple #[.string b, .bool d]) := by rw [h, h']
theorem take_snoc (s : ByteArray) (k : Nat) (h : k < s.size) : s.data.toList.take (k + 1) = s.data.toList.take k ++ [s[k]] := by
  rw [List.take_succ_eq_append_getElem (by simpa using h)]; rfl
theorem extract_take (s : ByteArray) (k : Nat) : (s.extract 0 k).data.toList = s.data.toList.take k := by
  rw [Lib.extract_data]; simp

def byteV (b : UInt8) : Value := .int .u8 b.toNat
def byteI (b : Int) : UInt8 := UInt8.ofNat b.toNat
theorem byteV_byteI (b : Int) (h0 : 0 ≤ b) (h1 : b < 256) : byteV (byteI b) = .int .u8 b := by
  unfold byteV byteI
  rw [UInt8.toNat_ofNat', Nat.mod_eq_of_lt (by omega)]; congr 1; omega
/-- v is a byte slice of the call's own (nothing below block B), holding l. -/
def Buf (B : Nat) (v : Value) (l : List UInt8) (w : World) : Prop := w.ownsRow B 5 1 v l.length (l.map byteV)
theorem info5 : (Tryz.prog.info? 5).map (fun i => (i.zero, i.size, i.bytes)) = some (some (.int .u8 0), 1, 1) := by kernel_rfl
theorem below_of_grown {B : Nat} {w w' : World} {v : Value} {n : Nat} {xs : List Value} {e : TypeId} {size : Nat} (h : w.ownsRow B e size v n xs) (hg : w.grownBy w' v.ownBlock) (hB : B ≤ w.heap.size) : Below B w w' :=
  (Below.refl B w).grown hg hB (fun k hk => (h.lt k hk).1)
theorem Buf.alloc {B : Nat} {v : Value} {l : List UInt8} {w : World} (h : Buf B v l w) (o : Obj) : Buf B v l (w.alloc o) := World.ownsRow.alloc h o
theorem cellsAt_new (w : World) (e : TypeId) (us : List Value) (j : Nat) (u : Value) (hj : us[j]? = some u) : (w.alloc (.cells us.toArray e)).cell? ((⟨w.heap.size, 0, none⟩ : Addr).add j) = some u := by
  have e1 : (⟨w.heap.size, 0, none⟩ : Addr).add j = ⟨w.heap.size, j, none⟩ := by unfold Addr.add; split <;> simp_all
  rw [e1, World.cell?_alloc_at _ _ _ _ rfl]; simpa using hj
/-- append(b, bytes..) to a buffer of the call's own: the bytes lie in the block made last -/
theorem wp_buf_app {ops : Array Oper} {rest : List Oper} {o : Oper} {a : Act} {Q : Exit → Act → World → Prop} {B : Nat} {v : Value} {l : List UInt8} {w : World} (hB : Buf B v l w)
    (hgd : o.guard = none) (s x : Operand) (ho : o.op = .call { callee := .builtin .append, args := #[s, x], argTypes := #[22, 22] }) (hs : a.eval s = v) (news : List UInt8) (m c : Nat) (hm : news.length = m) (hx : a.eval x = .slice (some ⟨w.heap.size, 0, none⟩) m c)
    (hlen : l.length + m ≤ 140737488355328) (hbase : B ≤ w.heap.size)
    (h : ∀ v' w', Buf B v' (l ++ news) w' → Below B w w' → wpList Tryz.prog ops Q rest (a.put o.dst v') w') :
    wpList Tryz.prog ops Q (o :: rest) a (w.alloc (.cells (news.map byteV).toArray 5)) := by
  obtain ⟨i0, hi, hz0, hz1, hz2⟩ := info_parts info5
  refine wpList_append_own _ hgd s x 22 ho B 5 i0 (.int .u8 0) 1 1 Tryz.underlying22 hi hz0 hz1 hz2 rfl (by decide) v l.length (l.map byteV) hs (World.ownsRow.alloc hB _) ⟨w.heap.size, 0, none⟩ m c (news.map byteV) hx (by simp [hm]) (fun j u hj => cellsAt_new w 5 _ j u hj) ?c2 (by unfold maxLen; omega) (by omega) (by simp; omega) ?c6
  case c2 => intro u hu; simp only [List.mem_map] at hu; obtain ⟨b, _, rfl⟩ := hu; rfl
  case c6 =>
    intro v' w' h2 h3 _
    refine h v' w' ?_ (((Below.refl B w).alloc hbase _).trans (below_of_grown (World.ownsRow.alloc hB _) h3 (by simp; omega)))
    unfold Buf
    rw [List.length_append, hm, List.map_append]
    exact h2
theorem buf_app1 {ops : Array Oper} {rest : List Oper} {o : Oper} {a : Act} {Q : Exit → Act → World → Prop} {B : Nat} {v : Value} {l : List UInt8} {w : World} (hB : Buf B v l w)
    (hgd : o.guard = none) (s x : Operand) (ho : o.op = .call { callee := .builtin .append, args := #[s, x], argTypes := #[22, 22] }) (hs : a.eval s = v) (b : Int) (hx : a.eval x = .slice (some ⟨w.heap.size, 0, none⟩) 1 1)
    (hlen : l.length < 140737488355328) (h0 : 0 ≤ b) (h1 : b < 256) (hbase : B ≤ w.heap.size)
    (h : ∀ v' w', Buf B v' (l ++ [byteI b]) w' → Below B w w' → wpList Tryz.prog ops Q rest (a.put o.dst v') w') :
    wpList Tryz.prog ops Q (o :: rest) a (w.alloc (.cells #[.int .u8 b] 5)) := by
  have := wp_buf_app hB hgd s x ho hs [byteI b] 1 1 rfl hx (by omega) hbase h
  rwa [List.map_singleton, byteV_byteI b h0 h1] at this
/-- the same, as a step of a region that draws its order -/
theorem step_buf_app {ops : Array Oper} {o : Oper} {a : Act} {K : Act → World → Prop} {Q : Exit → Act → World → Prop} {E : Prop} {B : Nat} {v : Value} {l : List UInt8} {w : World} (hB : Buf B v l w)
    (hgd : o.guard = none) (s x : Operand) (ho : o.op = .call { callee := .builtin .append, args := #[s, x], argTypes := #[22, 22] }) (hs : a.eval s = v) (news : List UInt8) (m c : Nat) (hm : news.length = m) (hx : a.eval x = .slice (some ⟨w.heap.size, 0, none⟩) m c)
    (hlen : l.length + m ≤ 140737488355328) (hbase : B ≤ w.heap.size)
    (h : ∀ v' w', Buf B v' (l ++ news) w' → Below B w w' → K (a.put o.dst v') w') :
    if Region.wanted o (yielded ops a.tmps) = true then Oper.wp Tryz.prog o a (w.alloc (.cells (news.map byteV).toArray 5)) K Q else E := by
  have hw : Region.wanted o (yielded ops a.tmps) = true := by simp [Region.wanted, hgd]
  rw [if_pos hw]
  obtain ⟨i0, hi, hz0, hz1, hz2⟩ := info_parts info5
  refine wp_append_own _ s x 22 ho B 5 i0 (.int .u8 0) 1 1 Tryz.underlying22 hi hz0 hz1 hz2 rfl (by decide) v l.length (l.map byteV) hs (World.ownsRow.alloc hB _) ⟨w.heap.size, 0, none⟩ m c (news.map byteV) hx (by simp [hm]) (fun j u hj => cellsAt_new w 5 _ j u hj) ?c2 (by unfold maxLen; omega) (by omega) (by simp; omega) ?c6
  case c2 => intro u hu; simp only [List.mem_map] at hu; obtain ⟨b, _, rfl⟩ := hu; rfl
  case c6 =>
    intro v' w' h2 h3 _
    refine h v' w' ?_ (((Below.refl B w).alloc hbase _).trans (below_of_grown (World.ownsRow.alloc hB _) h3 (by simp; omega)))
    unfold Buf
    rw [List.length_append, hm, List.map_append]
    exact h2
theorem byteV_num (b : UInt8) : byteV b = .int .u8 ((b.toNat : Nat) : Int) := rfl
theorem strOfNums_bytes (l : List UInt8) : strOfNums (l.map fun b => ((b.toNat : Nat) : Int)) = ⟨l.toArray⟩ := by
  unfold strOfNums
  rw [List.map_map]
  congr 2
  conv => rhs; rw [← List.map_id l]
  refine List.map_congr_left fun b _ => ?_
  simp
/-- string(b) of a byte slice of the call's own -/
theorem Buf.str {B : Nat} {v : Value} {l : List UInt8} {w : World} (h : Buf B v l w) : (convert 22 9 v).run Tryz.prog w = .ok (.string ⟨l.toArray⟩) w := by
  obtain ⟨hl, hv⟩ := h
  rcases hv with ⟨rfl, h0⟩ | ⟨g, cap, cur, rfl, hg, hh, hn, hm, hs, hx⟩
  · obtain rfl : l = [] := List.eq_nil_of_length_eq_zero h0
    exact run_convert_bytes_nil w 22 5 Tryz.underlying22 Tryz.underlying5 0 0 9 Tryz.underlying9
  · rw [← strOfNums_bytes l]
    refine run_convert_bytes_arg w 22 5 Tryz.underlying22 Tryz.underlying5 g 0 l.length cap _ (by simp) (fun i hi => ?_) 9 Tryz.underlying9
    have e : (⟨g, 0, none⟩ : Addr).add i = ⟨g, 0 + i, none⟩ := by unfold Addr.add; split <;> simp_all
    have := World.ownsRow.cells (w := w) (base := B) (e := 5) (size := 1) (v := .slice (some ⟨g, 0, none⟩) l.length cap) (n := l.length) (xs := l.map byteV) ⟨hl, .inr ⟨g, cap, cur, rfl, hg, hh, hn, hm, hs, hx⟩⟩ (g := g) rfl i (byteV l[i]) (by simp [List.getElem?_eq_getElem hi])
    rw [e] at this
    rw [this, byteV_num]
    simp [List.getD, List.getElem?_eq_getElem hi]
theorem make_bytes (w : World) (l c : Nat) (hl : l ≤ c) (hc : c ≤ 140737488355328) : (Instr.makeSlice 22 (.int .i64 (l : Int)) (.int .i64 (c : Int))).run Tryz.prog w = .ok (.slice (some ⟨w.heap.size, 0, none⟩) l c) (w.alloc (.cells (madeCells #[.int .u8 0] c) 5)) := by
  obtain ⟨i0, hi, hz0, hz1, hz2⟩ := info_parts info5
  have hr := run_make (P := Tryz.prog) w 22 5 i0 (.int .u8 0) Tryz.underlying22 hi hz0 .i64 .i64 (l : Int) (c : Int) (by omega) (by omega) (by rw [hz2]; omega) (by omega)
  simp only [Int.toNat_natCast, hz1, Nat.mul_one] at hr
  exact hr
theorem Buf.made (w : World) (c : Nat) (hc : c ≤ 140737488355328) (B : Nat) (hB : B ≤ w.heap.size) : Buf B (.slice (some ⟨w.heap.size, 0, none⟩) 0 c) [] (w.alloc (.cells (madeCells #[.int .u8 0] c) 5)) :=
  World.ownsRow_made w _ c hB (by unfold maxLen; omega) (by rw [size_madeCells]; omega)
theorem Buf.empty (w : World) (B : Nat) (hB : B ≤ w.heap.size) : Buf B (.slice (some ⟨w.heap.size, 0, none⟩) 0 0) [] (w.alloc (.cells #[] 5)) :=
  World.ownsRow_made w _ 0 hB (by decide) rfl
theorem Buf.drew {B : Nat} {v : Value} {l : List UInt8} {w : World} (h : Buf B v l w) : Buf B v l w.drew := h
theorem Buf.cellAt {B g n cap : Nat} {l : List UInt8} {w : World} (h : Buf B (.slice (some ⟨g, 0, none⟩) n cap) l w) (hn : l.length = n) (j : Nat) (hj : j < n) : w.cell? ⟨g, j, none⟩ = some (byteV (l.getD j 0)) := by
  subst hn
  have := World.ownsRow.cellAt h j (by omega)
  rw [this]; simp [List.getD, List.getElem?_eq_getElem hj]
theorem Buf.frozenAt {B g n cap : Nat} {l : List UInt8} {w : World} (h : Buf B (.slice (some ⟨g, 0, none⟩) n cap) l w) (hn : l.length = n) (j : Nat) : w.frozen? ⟨g, j, none⟩ = false := by
  subst hn; exact World.ownsRow.frozenAt h j
theorem Buf.set {B g n cap : Nat} {l : List UInt8} {w : World} (h : Buf B (.slice (some ⟨g, 0, none⟩) n cap) l w) (hn : l.length = n) (j : Nat) (b : Int) (h0 : 0 ≤ b) (h1 : b < 256) :
    Buf B (.slice (some ⟨g, 0, none⟩) n cap) (l.set j (byteI b)) (w.setCell ⟨g, j, none⟩ (.int .u8 b)) := by
  subst hn
  have := (World.ownsRow.stored h j (.int .u8 b)).1
  unfold Buf
  rw [List.length_set, List.map_set, byteV_byteI b h0 h1]
  exact this
theorem madeCells_byte (n : Nat) : (madeCells #[.int .u8 0] n) = ((List.replicate n (0 : UInt8)).map byteV).toArray := by
  apply Array.ext
  · simp [madeCells]
  · intro i h1 h2
    simp [madeCells] at h1 ⊢
    rw [Nat.mod_one]; rfl
theorem Buf.full (w : World) (n : Nat) (hn : n ≤ 140737488355328) (B : Nat) (hB : B ≤ w.heap.size) : Buf B (.slice (some ⟨w.heap.size, 0, none⟩) n n) (List.replicate n 0) (w.alloc (.cells (madeCells #[.int .u8 0] n) 5)) := by
  refine ⟨by simp, .inr ⟨w.heap.size, n, madeCells #[.int .u8 0] n, by simp, hB, heap_alloc_new w _, by simp, by unfold maxLen; omega, by simp [size_madeCells], ?_⟩⟩
  rw [madeCells_byte]; simp
theorem strOne (b : UInt8) (o : ByteArray) (l : List UInt8) (h : o = ⟨l.toArray⟩) : (⟨#[b]⟩ : ByteArray) ++ o = ⟨(b :: l).toArray⟩ := by
  subst h
  have := ByteArray.mk_append_mk [b] l
  simpa using this
/-- string([]byte{b}) -/
theorem conv_one (w : World) (b : Int) (_ : 0 ≤ b) (_ : b < 256) : (convert 22 9 (.slice (some ⟨w.heap.size, 0, none⟩) 1 1)).run Tryz.prog (w.alloc (.cells #[.int .u8 b] 5)) = .ok (.string ⟨#[byteI b]⟩) (w.alloc (.cells #[.int .u8 b] 5)) := by
  have := run_convert_bytes_arg (P := Tryz.prog) (w.alloc (.cells #[.int .u8 b] 5)) 22 5 Tryz.underlying22 Tryz.underlying5 w.heap.size 0 1 1 [b] rfl (fun i hi => by
    obtain rfl : i = 0 := by omega
    rw [World.cell?_alloc_at _ _ _ _ rfl]; rfl) 9 Tryz.underlying9
  exact this

theorem below_more {w w' : World} (h : Below w.heap.size w w') (o : Obj) : Below w.heap.size w (w'.alloc o) := h.alloc h.size o
/-- what a call that makes memory leaves: the cells and the marks that were there -/
theorem bcell {W w1 : World} (hb : Below W.heap.size W w1) : (∀ b o, b < W.heap.size → w1.cell? ⟨b, o, none⟩ = W.cell? ⟨b, o, none⟩) ∧ (∀ b o, b < W.heap.size → w1.frozen? ⟨b, o, none⟩ = W.frozen? ⟨b, o, none⟩) :=
  ⟨fun b o h => hb.cell (p := ⟨b, o, none⟩) h, fun b o h => hb.frozen (p := ⟨b, o, none⟩) h⟩

theorem wraps_i64 (n : Int) (h₀ : 0 ≤ n) (h₁ : n < 2 ^ 62) : IntKind.i64.wrap n = n := by rw [IntKind.wrap_i64]; omega
theorem i64_and (i : Nat) (x : Int) (hi : i ≤ 62) (h0 : 0 ≤ x) (h1 : x < 2 ^ 62) : bits .and .i64 x (2 ^ i - 1) = x % 2 ^ i :=
  bits_mask .i64 62 (by decide) wraps_i64 i hi x h0 h1
theorem i64_or (i : Nat) (x y : Int) (hx : 0 ≤ x) (hd : x % 2 ^ i = 0) (hx1 : x < 2 ^ 62) (hy : 0 ≤ y) (hy1 : y < 2 ^ i) (hy2 : y < 2 ^ 62) : bits .or .i64 x y = x + y :=
  bits_join .i64 62 (by decide) wraps_i64 i x y hx hd hx1 hy hy1 hy2
theorem bits_or_comm (k : IntKind) (x y : Int) : bits .or k x y = bits .or k y x := by unfold bits; simp only [BitVec.or_comm]
theorem u8_and127 (x : Int) (h0 : 0 ≤ x) (h1 : x < 256) : bits .and .u8 x 127 = x % 128 := bits_mask .u8 8 (by decide) wraps_u8 7 (by decide) x h0 h1

def inB (x lo hi : Int) : Bool := decide (lo ≤ x ∧ x ≤ hi)

theorem mk_app (a b : List UInt8) : (⟨a.toArray⟩ : ByteArray) ++ ⟨b.toArray⟩ = ⟨(a ++ b).toArray⟩ := by simp [ByteArray.mk_append_mk]
theorem size_mk (l : List UInt8) : ByteArray.size ⟨l.toArray⟩ = l.length := by simp [ByteArray.size]
theorem bytes_ext {a b : ByteArray} (h : a.data.toList = b.data.toList) : a = b := ByteArray.ext (Array.ext' h)

theorem str_ne {s t : ByteArray} (h : ¬ s = t) : (s.toList == t.toList) = false := by
  rw [ByteArray.toList_eq, ByteArray.toList_eq, beq_eq_false_iff_ne]
  intro e
  refine h (ByteArray.ext (Array.ext' e))
theorem str_eq (s : ByteArray) : (s.toList == s.toList) = true := by rw [beq_iff_eq]
theorem pos_ne (t : ByteArray) (h : 0 < t.size) : (t.toList == []) = false := by
  rw [ByteArray.toList_eq, beq_eq_false_iff_ne]
  intro e
  have h1 : t.size = t.data.toList.length := by simp
  rw [e, List.length_nil] at h1
  omega

/-- the digits of m, none for 0 -/
def dd (m : Nat) : List UInt8 := if m = 0 then [] else Lib.decDigits m
theorem decDigits_rec (u : Nat) : Lib.decDigits u = if u < 10 then [UInt8.ofNat (48 + u)] else Lib.decDigits (u / 10) ++ [UInt8.ofNat (48 + u % 10)] := by
  rw [Lib.decDigits]; split <;> rfl
theorem dd_step (m : Nat) (h : 0 < m) : dd m = dd (m / 10) ++ [byteI (48 + (m : Int) % 10)] := by
  have hb : byteI (48 + (m : Int) % 10) = UInt8.ofNat (48 + m % 10) := by unfold byteI; rw [show (48 + (m : Int) % 10).toNat = 48 + m % 10 by omega]
  rw [hb]
  unfold dd
  rw [if_neg (by omega), decDigits_rec]
  by_cases h1 : m < 10
  · rw [if_pos h1, if_pos (by omega), Nat.mod_eq_of_lt h1]; rfl
  · rw [if_neg h1, if_neg (by omega)]
/-- what a round of the digits' loop keeps -/
def DigInv (n m : Nat) (o : ByteArray) : Prop := (∃ l : List UInt8, o = ⟨l.toArray⟩ ∧ dd m ++ l = Lib.decDigits n) ∧ o.size ≤ 20
theorem dd_len (n : Nat) (h : n ≤ 9223372036854775808) : (Lib.decDigits n).length ≤ 20 := by
  rw [Lib.decDigits_length]; exact Lib.nDigits_le20 n (by omega)
theorem DigInv.zero (n : Nat) (h : 0 < n) : DigInv n n ⟨#[]⟩ := ⟨⟨[], rfl, by unfold dd; rw [if_neg (by omega), List.append_nil]⟩, by decide⟩
theorem DigInv.step {n m : Nat} {o : ByteArray} (h : DigInv n m o) (hm : 0 < m) (hn : n ≤ 9223372036854775808) : DigInv n (m / 10) ((⟨#[byteI (48 + (m : Int) % 10)]⟩ : ByteArray) ++ o) := by
  obtain ⟨⟨l, rfl, h1⟩, h2⟩ := h
  rw [strOne _ _ l rfl]
  rw [dd_step m hm, List.append_assoc, List.singleton_append] at h1
  refine ⟨⟨_, rfl, h1⟩, ?_⟩
  have := congrArg List.length h1
  have := dd_len n hn
  simp only [List.length_append] at *
  show (byteI (48 + (m : Int) % 10) :: l).toArray.size ≤ 20
  rw [List.size_toArray]; omega
theorem DigInv.done {n : Nat} {o : ByteArray} (h : DigInv n 0 o) : o = ⟨(Lib.decDigits n).toArray⟩ := by
  obtain ⟨⟨l, rfl, h1⟩, _⟩ := h
  have : l = Lib.decDigits n := by simpa [dd] using h1
  rw [this]
theorem itoa_pos (n : Nat) : Lib.itoa (n : Int) = Lib.decDigits n := by unfold Lib.itoa; rw [if_neg (by omega)]; simp
theorem itoa_negN (n : Nat) (h : 0 < n) : Lib.itoa (-(n : Int)) = 45 :: Lib.decDigits n := by unfold Lib.itoa; rw [if_pos (by omega)]; simp

theorem decFrom_snoc : ∀ (l : List UInt8) (acc : Nat) (b : UInt8), Lib.decFrom acc (l ++ [b]) = (Lib.decFrom acc l).bind fun n => (Lib.digitVal b).map fun d => n * 10 + d
  | [], acc, b => by
    simp only [List.nil_append, Lib.decFrom, Option.bind_some]
    cases Lib.digitVal b <;> rfl
  | c :: l, acc, b => by
    rw [List.cons_append, Lib.decFrom, Lib.decFrom]
    cases hc : Lib.digitVal c with
    | none => rfl
    | some d => exact decFrom_snoc l _ b
theorem digitVal_num (d : Nat) (h : d < 10) : Lib.digitVal (UInt8.ofNat (48 + d)) = some d := by
  have : (UInt8.ofNat (48 + d)).toNat = 48 + d := by rw [UInt8.toNat_ofNat', Nat.mod_eq_of_lt (by omega)]
  unfold Lib.digitVal; rw [this, if_pos (by omega)]; congr 1; omega
theorem decFrom_digits (u : Nat) : Lib.decFrom 0 (Lib.decDigits u) = some u := by
  induction u using Nat.strongRecOn with
  | _ u ih =>
    rw [decDigits_rec]
    by_cases h : u < 10
    · rw [if_pos h]; unfold Lib.decFrom; rw [digitVal_num u h]; simp [Lib.decFrom]
    · rw [if_neg h, decFrom_snoc, ih (u / 10) (by omega), digitVal_num _ (Nat.mod_lt _ (by decide))]
      simp only [Option.bind_some, Option.map_some]; congr 1; omega
theorem digits_ne (u : Nat) : Lib.decDigits u ≠ [] := by
  rw [decDigits_rec]; split <;> simp
/-- the value of the digits of a text, and how many there are -/
def scStep (x : Nat × Nat) (b : UInt8) : Nat × Nat := if 48 ≤ b.toNat ∧ b.toNat ≤ 57 then (x.1 * 10 + (b.toNat - 48), x.2 + 1) else x
def sc (l : List UInt8) : Nat × Nat := l.foldl scStep (0, 0)
theorem sc_snoc (l : List UInt8) (b : UInt8) : sc (l ++ [b]) = scStep (sc l) b := by unfold sc; rw [List.foldl_append]; rfl
theorem foldl_sc : ∀ (l : List UInt8) (acc k n : Nat), Lib.decFrom acc l = some n → l.foldl scStep (acc, k) = (n, k + l.length)
  | [], acc, k, n, h => by simp [Lib.decFrom] at h; subst h; rfl
  | b :: l, acc, k, n, h => by
    rw [Lib.decFrom] at h
    cases hb : Lib.digitVal b with
    | none => simp [hb] at h
    | some d =>
      simp only [hb] at h
      unfold Lib.digitVal at hb
      split at hb
      · rename_i hr
        simp only [Option.some.injEq] at hb; subst hb
        rw [List.foldl_cons, scStep, if_pos hr, foldl_sc l _ (k + 1) n h, List.length_cons]
        congr 1; omega
      · cases hb
theorem sc_digits (u : Nat) : sc (Lib.decDigits u) = (u, (Lib.decDigits u).length) := by
  unfold sc; rw [foldl_sc _ 0 0 u (decFrom_digits u), Nat.zero_add]
theorem sc_minus (l : List UInt8) : sc (45 :: l) = sc l := by unfold sc; rw [List.foldl_cons]; rfl
theorem sc_bd : ∀ (k : Nat) (l : List UInt8), l.length ≤ k → (sc l).1 < 10 ^ k ∧ (sc l).2 ≤ k := by
  have h : ∀ (l : List UInt8) (a c k : Nat), a < 10 ^ k → c ≤ k → (l.foldl scStep (a, c)).1 < 10 ^ (k + l.length) ∧ (l.foldl scStep (a, c)).2 ≤ k + l.length := by
    intro l
    induction l with
    | nil => intro a c k ha hc; exact ⟨ha, hc⟩
    | cons b l ih =>
      intro a c k ha hc
      rw [List.foldl_cons, List.length_cons, show k + (l.length + 1) = (k + 1) + l.length by omega]
      have hb := b.toNat_lt
      unfold scStep
      split
      · exact ih _ _ (k + 1) (by rw [Nat.pow_succ]; omega) (by omega)
      · exact ih _ _ (k + 1) (by rw [Nat.pow_succ]; omega) (by omega)
  intro k l hl
  have h1 := h l 0 0 0 (by decide) (by decide)
  rw [Nat.zero_add] at h1
  exact ⟨Nat.lt_of_lt_of_le h1.1 (Nat.pow_le_pow_right (by decide) hl), Nat.le_trans h1.2 hl⟩
def isNeg (l : List UInt8) : Bool := match l with | [] => false | b :: _ => b == 45
/-- the number that a text would have to be the numeral of -/
def cand (l : List UInt8) : Int := if isNeg l then -(((sc (l.take 11)).1 : Nat) : Int) else (((sc (l.take 11)).1 : Nat) : Int)
def parseOk (l : List UInt8) : Bool := decide ((sc (l.take 11)).2 ≤ 9 ∧ l.length ≤ 10) && (Lib.itoa (cand l) == l)
def parseInt (l : List UInt8) : Int × Bool := if parseOk l then (cand l, true) else (0, false)
/-- of a numeral: its value, its digits' number -/
theorem itoa_facts (v : Int) : ∃ l : List UInt8, (Lib.itoa v = l ∧ 0 ≤ v ∨ Lib.itoa v = 45 :: l ∧ v < 0) ∧ sc l = (v.natAbs, l.length) ∧ isNeg l = false ∧ l ≠ [] ∧ Lib.decFrom 0 l = some v.natAbs := by
  have hd : isNeg (Lib.decDigits v.natAbs) = false := by
    cases h : Lib.decDigits v.natAbs with
    | nil => rfl
    | cons b r =>
      have h1 := decFrom_digits v.natAbs
      rw [h, Lib.decFrom] at h1
      show (b == 45) = false
      cases hb : (b == 45) with
      | false => rfl
      | true =>
        rw [beq_iff_eq] at hb; subst hb
        exact absurd h1 (by simp [Lib.digitVal])
  refine ⟨Lib.decDigits v.natAbs, ?_, sc_digits _, hd, digits_ne _, decFrom_digits _⟩
  by_cases h : 0 ≤ v
  · left; refine ⟨?_, h⟩
    have := itoa_pos v.natAbs
    rwa [show ((v.natAbs : Nat) : Int) = v by omega] at this
  · right; refine ⟨?_, by omega⟩
    have := itoa_negN v.natAbs (by omega)
    rwa [show -((v.natAbs : Nat) : Int) = v by omega] at this
theorem atoi_itoa (v : Int) : Lib.atoi (Lib.itoa v) = some v := by
  obtain ⟨l, h1, _, h3, h4, h5⟩ := itoa_facts v
  have hn : Lib.decNat l = some v.natAbs := by
    unfold Lib.decNat
    cases l with
    | nil => exact absurd rfl h4
    | cons b r => exact h5
  rcases h1 with ⟨h1, h0⟩ | ⟨h1, h0⟩
  · rw [h1]
    cases l with
    | nil => exact absurd rfl h4
    | cons b r =>
      have hb : (b == 45) = false := h3
      have hb2 : (b == 43) = false := by
        cases h : (b == 43) with
        | false => rfl
        | true =>
          rw [beq_iff_eq] at h; subst h
          rw [Lib.decFrom] at h5
          exact absurd h5 (by simp [Lib.digitVal])
      rw [Lib.atoi, hb, hb2, hn]
      simp; omega
  · rw [h1, Lib.atoi, hn]
    simp; omega
theorem cand_itoa (v : Int) (h : (Lib.itoa v).length ≤ 11) : cand (Lib.itoa v) = v ∧ (sc ((Lib.itoa v).take 11)).2 = (Lib.itoa v).length - (if isNeg (Lib.itoa v) then 1 else 0) := by
  obtain ⟨l, h1, h2, h3, h4, _⟩ := itoa_facts v
  unfold cand
  rw [List.take_of_length_le h]
  rcases h1 with ⟨h1, h0⟩ | ⟨h1, h0⟩
  · rw [h1, h3, h2]; simp; omega
  · have hn : isNeg (45 :: l) = true := rfl
    rw [h1, sc_minus, hn, h2]; simp; omega
/-- what impl.ParseInt tests: the digits without a sign, and the way back -/
theorem parse_spec (l : List UInt8) (v : Int) (h : Lib.itoa v = l) (hl : l.length - (if isNeg l then 1 else 0) ≤ 9) : parseInt l = (v, true) := by
  have h10 : l.length ≤ 10 := by split at hl <;> omega
  subst h
  obtain ⟨h1, h2⟩ := cand_itoa v (by omega)
  unfold parseInt
  rw [if_pos]
  · rw [h1]
  · unfold parseOk
    rw [h1, Bool.and_eq_true, decide_eq_true_eq, beq_iff_eq]
    exact ⟨⟨by omega, h10⟩, rfl⟩
theorem parse_some (l : List UInt8) (h : parseOk l = true) : Lib.itoa (cand l) = l ∧ l.length - (if isNeg l then 1 else 0) ≤ 9 ∧ Lib.atoi l = some (cand l) := by
  unfold parseOk at h
  rw [Bool.and_eq_true, decide_eq_true_eq, beq_iff_eq] at h
  obtain ⟨⟨h1, h2⟩, h3⟩ := h
  have h4 := cand_itoa (cand l) (by rw [h3]; omega)
  have h5 := atoi_itoa (cand l)
  rw [h3] at h4 h5
  exact ⟨h3, by omega, h5⟩

theorem ret_int_bool {a b : Int} {c d : Bool} (h : a = b) (h' : c = d) : Ending.returned (.tuple #[.int .i64 a, .bool c]) = .returned (.tuple #[.int .i64 b, .bool d]) := by rw [h, h']
theorem sc_take (s : ByteArray) (k : Nat) (h : k < s.size) : sc (s.data.toList.take (k + 1)) = scStep (sc (s.data.toList.take k)) s[k] := by rw [take_snoc s k h, sc_snoc]
theorem isNeg_yes (s : ByteArray) (h : 0 < s.size) (h1 : s[0].toNat = 45) : isNeg s.data.toList = true := by
  have h2 : s.data.toList = s[0] :: s.data.toList.drop 1 := by
    have := List.drop_eq_getElem_cons (l := s.data.toList) (i := 0) (by simpa using h)
    rw [List.drop_zero] at this; exact this
  rw [h2]; show (s[0] == 45) = true
  rw [beq_iff_eq]; exact UInt8.toNat_inj.1 (by rw [h1]; rfl)
theorem isNeg_no (s : ByteArray) (h1 : ∀ h : 0 < s.size, s[0].toNat ≠ 45) : isNeg s.data.toList = false := by
  by_cases h : 0 < s.size
  · have h2 : s.data.toList = s[0] :: s.data.toList.drop 1 := by
      have := List.drop_eq_getElem_cons (l := s.data.toList) (i := 0) (by simpa using h)
      rw [List.drop_zero] at this; exact this
    rw [h2]; show (s[0] == 45) = false
    rw [beq_eq_false_iff_ne]; intro h3; exact h1 h (by rw [h3]; rfl)
  · have : s.data.toList = [] := List.eq_nil_of_length_eq_zero (by simp at h ⊢; exact h)
    rw [this]; rfl

end Go.Proofs.YtmecdjincmkofaaGreatDoor
